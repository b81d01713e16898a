/- Several texts of one claim in one file: PlainWalk, PlainWalkR. -/
import Derived.Test.YtpggbphcbcogdaaGreatDoorG07
namespace Go.Proofs.YtpggbphcbcogdaaGreatDoor
section
open Go.RowKit
namespace Pl
def noMark (n:Nd):Nd:=⟨n.path,n.kind,n.data,n.time,0⟩
def zc3 (L:List Nd) (k:Fx) (q:ByteArray):Option Nd:=
 match fnX L k q with
 |none=>none
 |some n=>if n.kind=0 then none else some (noMark n)
theorem atF_up (fs:List Fq):∀ (ps:List ByteArray) (ks:List Nat) (q:ByteArray) (r:List ByteArray),ps≠[]→(atF fs ks (ps++q::r)).ok=true→(atF fs ks ps).ok=true∧(atF fs ks ps).node.kind=1:=by
 intro ps
 induction ps with
 |nil=>intro ks q r h;exact absurd rfl h
 |cons p ps ih=>
  intro ks q r _ h;cases ps with
  |nil=>
   simp only [List.cons_append,List.nil_append,atF] at h ⊢
   split at h
   ·next hc=>rw [if_pos hc.1];exact hc
   ·cases h
  |cons p2 ps=>
   simp only [List.cons_append,atF] at h ⊢
   split at h
   ·next hc=>rw [if_pos hc];exact ih _ q r (by simp) h
   ·cases h
theorem fn_up {L:List Nd} {k:Fx} (ht:zb9 L=true) (h4:k.len≤4) (hk:k.okX) {q:ByteArray} (hq:za2 q=true) (hz:¬q.size=0) {n:Nd} (h:fnX L k q=some n):∀i,i+1<(zb1 q).length→∃d,fnX L k (glue ((names q).take (i+1)))=some d∧d.kind=1:=by
 intro i hi;have hl:(zb1 q).length=(names q).length:=zi0 _ _;have hmem:glue ((names q).take (i+1))∈zb1 q:=List.mem_of_getElem? (zq7 (show i<(zb1 q).length by omega));obtain ⟨hq',hz'⟩:=zi3 hq _ hmem;by_cases h0:k.len=0
 ·rw [fn_leaf h0] at h;obtain ⟨d,h1,h2, -⟩:=way_K ht hq (dir_found ht ⟨n,h⟩) _ (List.mem_map.2 ⟨i,List.mem_range.2 (by omega),rfl⟩);exact ⟨d,by rw [fn_leaf h0];exact h1,h2⟩
 ·rw [st_fn h4 hk hq hz] at h;rw [st_fn h4 hk hq' hz']
  split at h
  ·next hok=>
   unfold stO at hok ⊢;rw [if_neg h0] at hok ⊢;have e:=zp1 hq (show i<(zb1 q).length by omega)
   have hsp:zb1 q=zb1 (glue ((names q).take (i+1)))++(zb1 q)[i+1]::(zb1 q).drop (i+2):=by
    rw [e]
    conv=>lhs;rw [←List.take_append_drop (i+1) (zb1 q),List.drop_eq_getElem_cons hi]
   rw [hsp] at hok;obtain ⟨h1,h2⟩:=atF_up (fnsX k) _ _ _ _ (by rw [e];intro e2;have :=congrArg List.length e2;rw [List.length_take,List.length_nil] at this;omega) hok;rw [if_pos h1];exact ⟨_,rfl,h2⟩
  ·cases h
theorem walk_stop {L:List Nd} {k:Fx} (ht:zb9 L=true) (h4:k.len≤4) (hk:k.okX) {q:ByteArray} (hq:za2 q=true) (hz:¬q.size=0) {i:Nat} (hi:i<(zb1 q).length) (s:Option Nd) (hs:fnX L k (glue ((names q).take (i+1)))=s) (b:Bool)
  (hb:(s=none∧b=false)∨(∃n,s=some n∧n.kind=0∧b=false)∨(∃n,s=some n∧n.kind=2∧b=decide (glue ((names q).take (i+1))=q))):zc3 L k q=if b then some (noMark (s.getD za3)) else none:=by
 have hl:(zb1 q).length=(names q).length:=zi0 _ _;by_cases he:i+1<(zb1 q).length
 ·have hno:b=false→zc3 L k q=if b then some (noMark (s.getD za3)) else none:=fun e=>by
   rw [e];unfold zc3;cases h:fnX L k q with
   |none=>rfl
   |some n=>
    exfalso;obtain ⟨d,h1,h2⟩:=fn_up ht h4 hk hq hz h i he;rw [hs] at h1;subst e
    rcases hb with ⟨h3, -⟩|⟨m,h3,h5, -⟩|⟨m,h3,h5, -⟩
    ·rw [h3] at h1;cases h1
    ·rw [h3] at h1;cases h1;omega
    ·rw [h3] at h1;cases h1;omega
  apply hno
  rcases hb with ⟨-,h3⟩|⟨m, -, -,h3⟩|⟨m, -, -,h3⟩
  ·exact h3
  ·exact h3
  ·rw [h3]
   apply decide_eq_false
   intro e;have e2:=zp1 hq hi;rw [e] at e2;have :=congrArg List.length e2;rw [List.length_take] at this;omega
 ·have e:glue ((names q).take (i+1))=q:=by rw [List.take_of_length_le (by omega),zl4]
  rw [e] at hs hb;unfold zc3;rw [hs]
  rcases hb with ⟨rfl,rfl⟩|⟨m,rfl,h5,rfl⟩|⟨m,rfl,h5,rfl⟩
  ·rfl
  ·simp [h5]
  ·simp [h5]
theorem walk_done {L:List Nd} {k:Fx} {q:ByteArray} {n:Nd} (h:fnX L k q=some n) (h0:n.kind≠0):zc3 L k q=some (noMark n):=by
 unfold zc3;rw [h];simp [h0]
theorem zs9 {L:List Nd} {k:Fx} (ht:zb9 L=true) {q:ByteArray} (hz:q.size=0):zc3 L k q=none:=by
 unfold zc3
 have h:fnX L k q=none:=by
  by_cases h0:k.len=0
  ·rw [fn_leaf h0];cases h:lk L q with
   |none=>rfl
   |some n=>
    exfalso;have h1:=List.mem_of_find?_eq_some h;have h2:n.path=q:=by simpa using List.find?_some h
    have h3:=(((zk7 L).1 ht).2.1 n h1).1;rw [zu0 (by rw [h2];exact hz)] at h3;cases h3
  ·rw [fn_nest h0,zb1,zl1 hz];rfl
 rw [h]
end Pl
end
section
open Go.RowKit
namespace Pl
theorem zx0 {L:List Nd} {k:Fx} {p:ByteArray} {o:Option Nd} (h:fnX L k p=o) (h2:∀n,o=some n→n.kind=0):zc3 L k p=none:=by
 unfold zc3;rw [h];cases o with
 |none=>rfl
 |some n=>exact if_pos (h2 n rfl)
theorem zy2 {L:List Nd} {k:Fx} {p:ByteArray} {n:Nd} (h:fnX L k p=some n) (h2:¬n.kind=0):zc3 L k p=some (noMark n):=by
 unfold zc3;rw [h];exact if_neg h2
end Pl
namespace WWk
theorem ret6 {w W:World} (hb:Below w.heap.size w W) (hr:Mem.Blk W w.heap.size #[.string ⟨#[]⟩, .int .i64 0, .string ⟨#[]⟩, .int .i64 0, .int .i64 0, .int .i64 0] 44) (p:ByteArray) (k:Int) (d:ByteArray) (t m c:Int):
  Mem.Blk ((((((W.setCell ⟨w.heap.size,0,none⟩ (.string (p))).setCell ⟨w.heap.size,1,none⟩ (.int .i64 (k))).setCell ⟨w.heap.size,2,none⟩ (.string (d))).setCell ⟨w.heap.size,3,none⟩ (.int .i64 (t))).setCell ⟨w.heap.size,4,none⟩ (.int .i64 (m))).setCell ⟨w.heap.size,5,none⟩ (.int .i64 (c))) w.heap.size #[.string p, .int .i64 k, .string d, .int .i64 t, .int .i64 m, .int .i64 c] 44∧Below w.heap.size w ((((((W.setCell ⟨w.heap.size,0,none⟩ (.string (p))).setCell ⟨w.heap.size,1,none⟩ (.int .i64 (k))).setCell ⟨w.heap.size,2,none⟩ (.string (d))).setCell ⟨w.heap.size,3,none⟩ (.int .i64 (t))).setCell ⟨w.heap.size,4,none⟩ (.int .i64 (m))).setCell ⟨w.heap.size,5,none⟩ (.int .i64 (c))):=by
 refine ⟨?_,(((((hb.setCell (p:=⟨w.heap.size,0,none⟩) (Nat.le_refl _) _).setCell (p:=⟨w.heap.size,1,none⟩) (Nat.le_refl _) _).setCell (p:=⟨w.heap.size,2,none⟩) (Nat.le_refl _) _).setCell (p:=⟨w.heap.size,3,none⟩) (Nat.le_refl _) _).setCell (p:=⟨w.heap.size,4,none⟩) (Nat.le_refl _) _).setCell (p:=⟨w.heap.size,5,none⟩) (Nat.le_refl _) _⟩;have h2:=(((((hr.put 0 (.string p)).put 1 (.int .i64 k)).put 2 (.string d)).put 3 (.int .i64 t)).put 4 (.int .i64 m)).put 5 (.int .i64 c);simp only [kB3] at h2;exact h2
end WWk
end
end Go.Proofs.YtpggbphcbcogdaaGreatDoor
