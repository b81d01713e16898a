/- Several texts of one claim in one file: PlainWalkR, PlainVfs2. -/
import Derived.Test.YtgdjjncmocppeaaGreatDoorG12
import Derived.Deep.Cut
import Derived.Laws.AppendOwnNone
namespace Go.Proofs.YtgdjjncmocppeaaGreatDoor
section
open Go.RowKit
namespace Pl
theorem yf7 {L:List Nd} {k:Fx} {p:ByteArray} {o:Option Nd} (h:fnX L k p=o) (h2:∀n,o=some n→n.kind=0):zf2 L k p=none:=by
 unfold zf2;rw [h];cases o with
 |none=>rfl
 |some n=>exact if_pos (h2 n rfl)
theorem yf4 {L:List Nd} {k:Fx} {p:ByteArray} {n:Nd} (h:fnX L k p=some n) (h2:¬n.kind=0):zf2 L k p=some (noMark n):=by
 unfold zf2;rw [h];exact if_neg h2
theorem walkO_small {L:List Nd} {k:Fx} {p:ByteArray} {m:Nd} (ht:zc7 L=true) (hk:k.okX) (hp:za0 p=true) (hz:¬p.size=0) (h:zf2 L k p=some m):m.path.size≤200∧m.data.size≤60:=by
 unfold zf2 at h
 split at h
 ·cases h
 ·next n hn=>
  split at h
  ·cases h
  ·cases h
   obtain ⟨h1,h2⟩:=fn_right ht hk p n hp hz hn;have h3:=zj4 hp;simp only [zb1,Bool.and_eq_true,decide_eq_true_eq] at h1;exact ⟨by show n.path.size≤200;rw [h2];exact h3,by show n.data.size≤60;omega⟩
end Pl
namespace WWk
theorem ret6 {w W:World} (hb:Below w.heap.size w W) (hr:Mem.Blk W w.heap.size #[.string ⟨#[]⟩, .int .i64 0, .string ⟨#[]⟩, .int .i64 0, .int .i64 0, .int .i64 0] 58) (p:ByteArray) (k:Int) (d:ByteArray) (t m c:Int):
  Mem.Blk ((((((W.setCell ⟨w.heap.size,0,none⟩ (.string (p))).setCell ⟨w.heap.size,1,none⟩ (.int .i64 (k))).setCell ⟨w.heap.size,2,none⟩ (.string (d))).setCell ⟨w.heap.size,3,none⟩ (.int .i64 (t))).setCell ⟨w.heap.size,4,none⟩ (.int .i64 (m))).setCell ⟨w.heap.size,5,none⟩ (.int .i64 (c))) w.heap.size #[.string p, .int .i64 k, .string d, .int .i64 t, .int .i64 m, .int .i64 c] 58∧Below w.heap.size w ((((((W.setCell ⟨w.heap.size,0,none⟩ (.string (p))).setCell ⟨w.heap.size,1,none⟩ (.int .i64 (k))).setCell ⟨w.heap.size,2,none⟩ (.string (d))).setCell ⟨w.heap.size,3,none⟩ (.int .i64 (t))).setCell ⟨w.heap.size,4,none⟩ (.int .i64 (m))).setCell ⟨w.heap.size,5,none⟩ (.int .i64 (c))):=by
 refine ⟨?_,(((((hb.setCell (p:=⟨w.heap.size,0,none⟩) (Nat.le_refl _) _).setCell (p:=⟨w.heap.size,1,none⟩) (Nat.le_refl _) _).setCell (p:=⟨w.heap.size,2,none⟩) (Nat.le_refl _) _).setCell (p:=⟨w.heap.size,3,none⟩) (Nat.le_refl _) _).setCell (p:=⟨w.heap.size,4,none⟩) (Nat.le_refl _) _).setCell (p:=⟨w.heap.size,5,none⟩) (Nat.le_refl _) _⟩;have h2:=(((((hr.put 0 (.string p)).put 1 (.int .i64 k)).put 2 (.string d)).put 3 (.int .i64 t)).put 4 (.int .i64 m)).put 5 (.int .i64 c);simp only [kB3] at h2;exact h2
end WWk
end
section
namespace Pl
theorem kind_of {n:Nd} (h:zb1 n=true) (h0:n.kind≠0):n.kind=1∨n.kind=2:=by
 unfold zb1 zh8 at h;simp only [Bool.and_eq_true] at h;have h1:=h.2;rw [if_neg h0] at h1;by_cases k1:n.kind=1
 ·exact .inl k1
 ·rw [if_neg k1] at h1;by_cases k2:n.kind=2
  ·exact .inr k2
  ·rw [if_neg k2] at h1;cases h1
theorem walkV_kind {R:List (Int × List Nd)} {q:ByteArray} (hr:(nest (rowO R)).isSome=true) (hp:za0 q=true) (hz:¬q.size=0) {n:Nd} (h:zi R q=some n):(n.kind=1∨n.kind=2)∧n.data.size≤60:=by
 cases hF:nest (rowO R) with
 |none=>rw [hF] at hr;cases hr
 |some F=>
  obtain ⟨L,K, -, -,hko,hnx⟩:=ya8 hF;unfold zi at h;rw [hnx] at h;simp only [zf2] at h
  split at h
  ·cases h
  ·next m hm=>
   split at h
   ·cases h
   ·next h0=>
    cases h
    refine ⟨?_,(walkO_small hko.1 hko.2.2.2.1 hp hz (yf4 hm h0)).2⟩;show m.kind=1∨m.kind=2;exact kind_of (fn_right hko.1 hko.2.2.2.1 q m hp hz hm).1 h0
end Pl
end
end Go.Proofs.YtgdjjncmocppeaaGreatDoor
