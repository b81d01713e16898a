/- Several texts of one claim in one file: PlainWalk, PlainWalkR. -/
import Derived.Test.YtpakookhgpphaaaDoorPlainHist
import Derived.Test.YtpakookhgpphaaaDoorG05
namespace Go.Proofs.YtpakookhgpphaaaDoor
section
open Go.RowKit
namespace Pl
def noMark (n:Nd):Nd:=⟨n.path,n.kind,n.data,n.time,0⟩
def walkO (L:List Nd) (k:Fx) (q:ByteArray):Option Nd:=
 match fnX L k q with
 |none=>none
 |some n=>if n.kind=0 then none else some (noMark n)
theorem atF_up (fs:List Fq):∀ (ps:List ByteArray) (ks:List Nat) (q:ByteArray) (r:List ByteArray),ps≠[]→(atF fs ks (ps++q::r)).ok=true→(atF fs ks ps).ok=true∧(atF fs ks ps).node.kind=1:=by
 intro ps
 induction ps with
 |nil=>intro ks q r h;exact absurd rfl h
 |cons p ps ih=>
  intro ks q r _ h;cases ps with
  |nil=>
   simp only [List.cons_append,List.nil_append,atF] at h ⊢
   split at h
   ·next hc=>rw [if_pos hc.1];exact hc
   ·cases h
  |cons p2 ps=>
   simp only [List.cons_append,atF] at h ⊢
   split at h
   ·next hc=>rw [if_pos hc];exact ih _ q r (by simp) h
   ·cases h
theorem fn_up {L:List Nd} {k:Fx} (ht:ze2 L=true) (h4:k.len≤4) (hk:k.okX) {q:ByteArray} (hq:za2 q=true) (hz:¬q.size=0) {n:Nd} (h:fnX L k q=some n):∀i,i+1<(waysN q).length→∃d,fnX L k (glue ((names q).take (i+1)))=some d∧d.kind=1:=by
 intro i hi;have hl:(waysN q).length=(names q).length:=ways_len _ _;have hmem:glue ((names q).take (i+1))∈waysN q:=List.mem_of_getElem? (waysN_get (show i<(waysN q).length by omega));obtain ⟨hq',hz'⟩:=ways_right hq _ hmem;by_cases h0:k.len=0
 ·rw [fn_leaf h0] at h;obtain ⟨d,h1,h2, -⟩:=way_K ht hq (dir_found ht ⟨n,h⟩) _ (List.mem_map.2 ⟨i,List.mem_range.2 (by omega),rfl⟩);exact ⟨d,by rw [fn_leaf h0];exact h1,h2⟩
 ·rw [st_fn h4 hk hq hz] at h;rw [st_fn h4 hk hq' hz']
  split at h
  ·next hok=>
   unfold stO at hok ⊢;rw [if_neg h0] at hok ⊢;have e:=waysN_take hq (show i<(waysN q).length by omega)
   have hsp:waysN q=waysN (glue ((names q).take (i+1)))++(waysN q)[i+1]::(waysN q).drop (i+2):=by
    rw [e]
    conv=>lhs;rw [←List.take_append_drop (i+1) (waysN q),List.drop_eq_getElem_cons hi]
   rw [hsp] at hok;obtain ⟨h1,h2⟩:=atF_up (fnsX k) _ _ _ _ (by rw [e];intro e2;have :=congrArg List.length e2;rw [List.length_take,List.length_nil] at this;omega) hok;rw [if_pos h1];exact ⟨_,rfl,h2⟩
  ·cases h
theorem walk_stop {L:List Nd} {k:Fx} (ht:ze2 L=true) (h4:k.len≤4) (hk:k.okX) {q:ByteArray} (hq:za2 q=true) (hz:¬q.size=0) {i:Nat} (hi:i<(waysN q).length) (s:Option Nd) (hs:fnX L k (glue ((names q).take (i+1)))=s) (b:Bool)
  (hb:(s=none∧b=false)∨(∃n,s=some n∧n.kind=0∧b=false)∨(∃n,s=some n∧n.kind=2∧b=decide (glue ((names q).take (i+1))=q))):walkO L k q=if b then some (noMark (s.getD zeroN)) else none:=by
 have hl:(waysN q).length=(names q).length:=ways_len _ _;by_cases he:i+1<(waysN q).length
 ·have hno:b=false→walkO L k q=if b then some (noMark (s.getD zeroN)) else none:=fun e=>by
   rw [e];unfold walkO;cases h:fnX L k q with
   |none=>rfl
   |some n=>
    exfalso;obtain ⟨d,h1,h2⟩:=fn_up ht h4 hk hq hz h i he;rw [hs] at h1;subst e
    rcases hb with ⟨h3, -⟩|⟨m,h3,h5, -⟩|⟨m,h3,h5, -⟩
    ·rw [h3] at h1;cases h1
    ·rw [h3] at h1;cases h1;omega
    ·rw [h3] at h1;cases h1;omega
  apply hno
  rcases hb with ⟨-,h3⟩|⟨m, -, -,h3⟩|⟨m, -, -,h3⟩
  ·exact h3
  ·exact h3
  ·rw [h3]
   apply decide_eq_false
   intro e;have e2:=waysN_take hq hi;rw [e] at e2;have :=congrArg List.length e2;rw [List.length_take] at this;omega
 ·have e:glue ((names q).take (i+1))=q:=by rw [List.take_of_length_le (by omega),yb4]
  rw [e] at hs hb;unfold walkO;rw [hs]
  rcases hb with ⟨rfl,rfl⟩|⟨m,rfl,h5,rfl⟩|⟨m,rfl,h5,rfl⟩
  ·rfl
  ·simp [h5]
  ·simp [h5]
theorem walk_done {L:List Nd} {k:Fx} {q:ByteArray} {n:Nd} (h:fnX L k q=some n) (h0:n.kind≠0):walkO L k q=some (noMark n):=by
 unfold walkO;rw [h];simp [h0]
end Pl
end
section
open Go.RowKit
namespace Pl
def walkR (xs:List (Int × List Nd)) (p:ByteArray):Nd × Int:=
 if 400<xs.length∨8000<p.size then (zeroN,2) else match nestX xs with
  |none=>(zeroN,1)
  |some x=>if p.size=0∨za2 p=false then (zeroN,1) else match walkO x.1 x.2 p with
   |none=>(zeroN,6)
   |some n=>(n,0)
theorem walkR_long {xs:List (Int × List Nd)} {p:ByteArray} (h:400<xs.length∨8000<p.size):walkR xs p=(zeroN,2):=if_pos h
theorem walkR_bad {xs:List (Int × List Nd)} {p:ByteArray} (h1:¬400<xs.length) (h2:¬8000<p.size) (h:nest (rowO xs)=none):walkR xs p=(zeroN,1):=by
 unfold walkR;rw [if_neg (by omega),nestX_none h]
theorem walkR_form {xs:List (Int × List Nd)} {p:ByteArray} (h1:¬400<xs.length) (h2:¬8000<p.size) (h:p.size=0∨za2 p=false):walkR xs p=(zeroN,1):=by
 unfold walkR;rw [if_neg (by omega)];cases nestX xs with
 |none=>rfl
 |some x=>exact if_pos h
theorem walkR_some {xs:List (Int × List Nd)} {p:ByteArray} {L:List Nd} {k:Fx} (h1:¬400<xs.length) (h2:¬8000<p.size) (hn:nestX xs=some (L,k)) (h3:¬p.size=0) (h4:za2 p=true):walkR xs p=match walkO L k p with |none=>(zeroN,6)|some n=>(n,0):=by
 unfold walkR;rw [if_neg (by omega),hn];show (if p.size=0∨za2 p=false then _ else _)=_;rw [if_neg (by rw [h4];rintro (h|h);exact h3 h;cases h)]
theorem walkO_none {L:List Nd} {k:Fx} {p:ByteArray} {o:Option Nd} (h:fnX L k p=o) (h2:∀n,o=some n→n.kind=0):walkO L k p=none:=by
 unfold walkO;rw [h];cases o with
 |none=>rfl
 |some n=>exact if_pos (h2 n rfl)
theorem walkO_some {L:List Nd} {k:Fx} {p:ByteArray} {n:Nd} (h:fnX L k p=some n) (h2:¬n.kind=0):walkO L k p=some (noMark n):=by
 unfold walkO;rw [h];exact if_neg h2
theorem walkO_small {L:List Nd} {k:Fx} {p:ByteArray} {m:Nd} (ht:ze2 L=true) (hk:k.okX) (hp:za2 p=true) (hz:¬p.size=0) (h:walkO L k p=some m):m.path.size≤200∧m.data.size≤60:=by
 unfold walkO at h
 split at h
 ·cases h
 ·next n hn=>
  split at h
  ·cases h
  ·cases h
   obtain ⟨h1,h2⟩:=fn_right ht hk p n hp hz hn;have h3:=zh9 hp;simp only [zc5,Bool.and_eq_true,decide_eq_true_eq] at h1;exact ⟨by show n.path.size≤200;rw [h2];exact h3,by show n.data.size≤60;omega⟩
end Pl
namespace WWk
theorem ret6 {w W:World} (hb:Below w.heap.size w W) (hr:Mem.Blk W w.heap.size #[.string ⟨#[]⟩, .int .i64 0, .string ⟨#[]⟩, .int .i64 0, .int .i64 0, .int .i64 0] 27) (p:ByteArray) (k:Int) (d:ByteArray) (t m c:Int):
  Mem.Blk ((((((W.setCell ⟨w.heap.size,0,none⟩ (.string (p))).setCell ⟨w.heap.size,1,none⟩ (.int .i64 (k))).setCell ⟨w.heap.size,2,none⟩ (.string (d))).setCell ⟨w.heap.size,3,none⟩ (.int .i64 (t))).setCell ⟨w.heap.size,4,none⟩ (.int .i64 (m))).setCell ⟨w.heap.size,5,none⟩ (.int .i64 (c))) w.heap.size #[.string p, .int .i64 k, .string d, .int .i64 t, .int .i64 m, .int .i64 c] 27∧Below w.heap.size w ((((((W.setCell ⟨w.heap.size,0,none⟩ (.string (p))).setCell ⟨w.heap.size,1,none⟩ (.int .i64 (k))).setCell ⟨w.heap.size,2,none⟩ (.string (d))).setCell ⟨w.heap.size,3,none⟩ (.int .i64 (t))).setCell ⟨w.heap.size,4,none⟩ (.int .i64 (m))).setCell ⟨w.heap.size,5,none⟩ (.int .i64 (c))):=by
 refine ⟨?_,(((((hb.setCell (p:=⟨w.heap.size,0,none⟩) (Nat.le_refl _) _).setCell (p:=⟨w.heap.size,1,none⟩) (Nat.le_refl _) _).setCell (p:=⟨w.heap.size,2,none⟩) (Nat.le_refl _) _).setCell (p:=⟨w.heap.size,3,none⟩) (Nat.le_refl _) _).setCell (p:=⟨w.heap.size,4,none⟩) (Nat.le_refl _) _).setCell (p:=⟨w.heap.size,5,none⟩) (Nat.le_refl _) _⟩;have h2:=(((((hr.put 0 (.string p)).put 1 (.int .i64 k)).put 2 (.string d)).put 3 (.int .i64 t)).put 4 (.int .i64 m)).put 5 (.int .i64 c);simp only [kB3] at h2;exact h2
end WWk
end
end Go.Proofs.YtpakookhgpphaaaDoor
