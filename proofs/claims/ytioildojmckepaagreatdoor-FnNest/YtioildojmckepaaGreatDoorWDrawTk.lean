import Derived.Test.YtioildojmckepaaGreatDoorWDrawNd
import Derived.Test.YtioildojmckepaaGreatDoorWPutC
import Derived.Test.YtioildojmckepaaGreatDoorG01
import Derived.Test.YtioildojmckepaaGreatDoorWGetP
namespace Go.Proofs.YtioildojmckepaaGreatDoor
open Go.RowKit
namespace Pl
def zn8 (n : Nd) : Prop := n.path.size ≤ 200 ∧ n.data.size ≤ 200 ∧ -2000000 ≤ n.kind ∧ n.kind ≤ 2000000 ∧ -2000000 ≤ n.time ∧ n.time ≤ 2000000 ∧ -2000000 ≤ n.mark ∧ n.mark ≤ 2000000
def zl0 (L : List Nd) : Prop := ∀ n ∈ L, zn8 n
theorem base_size (s : ByteArray) : (base s).size ≤ s.size := by
 unfold base; rw [ByteArray.size_extract]; omega
theorem yf2 {L : List Nd} {n : Nd} (h : zl0 L) (hn : zn8 n) : zl0 (putO L n) := by
 intro m hm
 unfold putO addO at hm
 split at hm
 ·split at hm
  ·rcases put_mem hm with rfl | h2
   ·exact hn
   ·exact h m h2
  ·simp at hm
 ·simp at hm
theorem yf1 {L : List Nd} {p : ByteArray} {c : Int} (h : zl0 L) : zl0 (cutO p L c) := by
 intro m hm
 unfold cutO at hm
 split at hm
 ·exact h m (List.mem_filter.1 hm).1
 ·simp at hm
theorem zz5 {L : List Nd} (h : zl0 L) : ∀ n ∈ L, n.path.size ≤ 1048576 ∧ n.data.size ≤ 1048576 := fun n hn => by
 have := h n hn
 unfold zn8 at this
 omega
end Pl
namespace WSrc
def zf6 (W : World) (B : Nat) (a : Option Addr) (cap : Nat) (L : List Pl.Nd) : Prop := Mem.zb5 W a L ∧ zn4.okA W a cap L ∧ (∀ g o, a = some ⟨g, o, none⟩ → B ≤ g)
theorem zf6.grown {W W' : World} {B cap : Nat} {a : Option Addr} {L : List Pl.Nd} {r : Option Nat} (h : zf6 W B a cap L) (g : W.grownBy W' r) (hr : ∀ q, r = some q → q < B) : zf6 W' B a cap L := by
 refine ⟨?_, zn4.zu9 h.2.1 g.size, h.2.2⟩
 rcases h.2.1 with ⟨rfl, rfl, rfl⟩ | ⟨b, o, rfl, h2, h3⟩
 ·exact Mem.zw0 _ _
 ·exact Mem.zx2 h.1 g (fun e => by have := hr _ e.symm; have := h.2.2 b o rfl; omega)
theorem zf6.call {W W' : World} {B cap : Nat} {a : Option Addr} {L : List Pl.Nd} (h : zf6 W B a cap L) (b : Below W.heap.size W W') : zf6 W' B a cap L := h.grown (below_grown b none) (fun q hq => by cases hq)
theorem zf6.mono {W : World} {B B' cap : Nat} {a : Option Addr} {L : List Pl.Nd} (h : zf6 W B a cap L) (hb : B' ≤ B) : zf6 W B' a cap L := ⟨h.1, h.2.1, fun g o e => Nat.le_trans hb (h.2.2 g o e)⟩
theorem zf6.alloc {W : World} {B cap : Nat} {a : Option Addr} {L : List Pl.Nd} (h : zf6 W B a cap L) (o : Obj) : zf6 (W.alloc o) B a cap L := h.call ((Below.refl _ _).alloc (Nat.le_refl _) o)
theorem zf6.set {W : World} {B cap : Nat} {a : Option Addr} {L : List Pl.Nd} (h : zf6 W B a cap L) (X k : Nat) (v : Value) (hX : X < B) : zf6 (W.setCell ⟨X, k, none⟩ v) B a cap L :=
 h.grown (r := some X) (ze4 (zt1 _ _)) (fun q hq => by cases hq; exact hX)
theorem zo7 {W : World} {B cap n : Nat} {a : Option Addr} {L : List Pl.Nd} (h : Mem.ownN W B (.slice a n cap) L) : zf6 W B a cap L := by
 refine ⟨(Mem.zs9 h).2, ?_, ?_⟩
 ·rcases h.2 with ⟨e, h0⟩ | ⟨g, cap', cur, e, hb, hg, hc, hm, hsz, ht⟩
  ·injection e with e1 e2 e3
   exact .inl ⟨e1, e3, List.length_eq_zero_iff.1 h0⟩
  ·injection e with e1 e2 e3
   subst e1 e3
   exact .inr ⟨g, 0, rfl, (Array.getElem?_eq_some_iff.1 hg).1, hc⟩
 ·intro g o e
  subst e
  exact (Mem.zd5 h g rfl).1
structure Tk (w W : World) (S : Nat) (a : Option Addr) (len cap : Nat) (v : Value) (L : List Pl.Nd) : Prop where
 lo : S < w.heap.size
 src : Src W S a len cap
 gr : w.grownBy W (some S)
 two : Mem.Blk W w.heap.size #[.slice none 0 0] 36
 one : Mem.Blk W (w.heap.size + 1) #[v] 36
 own : Mem.ownN W (w.heap.size + 2) v L
 ok : Pl.zl0 L
section
variable {w W W' : World} {S len cap : Nat} {a : Option Addr} {v : Value} {L : List Pl.Nd}
theorem Tk.lt (h : Tk w W S a len cap v L) : w.heap.size + 2 ≤ W.heap.size := h.one.lt
theorem Tk.call (h : Tk w W S a len cap v L) (s : Src W' S a len cap) (g : W.grownBy W' (some S)) : Tk w W' S a len cap v L :=
 have l := h.lo
 ⟨h.lo, s, h.gr.trans g, h.two.grown g (by simp; omega), h.one.grown g (by simp; omega), Mem.zo8 h.own g (fun q hq e => by cases e; have := (Mem.zd5 h.own _ hq).1; omega), h.ok⟩
theorem Tk.below (h : Tk w W S a len cap v L) (b : Below W.heap.size W W') : Tk w W' S a len cap v L := h.call (zw6 h.src b) (below_grown b _)
theorem Tk.alloc (h : Tk w W S a len cap v L) (o : Obj) : Tk w (W.alloc o) S a len cap v L := h.below ((Below.refl _ _).alloc (Nat.le_refl _) o)
theorem Tk.drew (h : Tk w W S a len cap v L) : Tk w W.drew S a len cap v L := ⟨h.lo, h.src, zy8 h.gr, h.two, h.one, h.own, h.ok⟩
theorem Tk.set (h : Tk w W S a len cap v L) (X k : Nat) (u : Value) (hX : w.heap.size + 2 ≤ X) (hv : ∀ g, v.ownBlock = some g → X ≠ g) : Tk w (W.setCell ⟨X, k, none⟩ u) S a len cap v L :=
 have l := h.lo
 ⟨h.lo, zg6 h.src k _ (by omega), ze8 h.gr k _ (by omega), h.two.far _ _ (by show w.heap.size ≠ X; omega), h.one.far _ _ (by show w.heap.size + 1 ≠ X; omega), Mem.ownN_far h.own _ _ hv, h.ok⟩
theorem Tk.put (h : Tk w W S a len cap v L) {v' : Value} {L' : List Pl.Nd} (own : Mem.ownN W (w.heap.size + 2) v' L') (ok : Pl.zl0 L') : Tk w (W.setCell ⟨w.heap.size + 1, 0, none⟩ v') S a len cap v' L' :=
 have l := h.lo
 ⟨h.lo, zg6 h.src 0 _ (by omega), ze8 h.gr 0 _ (by omega), h.two.far _ _ (by show w.heap.size ≠ w.heap.size + 1; omega), h.one.put 0 v', Mem.za4 own _ _ (by show w.heap.size + 1 < w.heap.size + 2; omega), ok⟩
theorem Tk.app (h : Tk w W S a len cap v L) {v' : Value} {L' : List Pl.Nd} (gr : W.grownBy W' v.ownBlock) (own : Mem.ownN W' (w.heap.size + 2) v' L') (ok : Pl.zl0 L') : Tk w (W'.setCell ⟨w.heap.size + 1, 0, none⟩ v') S a len cap v' L' := by
 have l := h.lo
 have hv := Mem.zd5 h.own
 have hs := h.src
 refine ⟨h.lo, zg6 ?_ 0 _ (by omega), ze8 ?_ 0 _ (by omega), (h.two.grown gr (fun e => by have := (hv _ e.symm).1; omega)).far _ _ (by show w.heap.size ≠ w.heap.size + 1; omega), (h.one.grown gr (fun e => by have := (hv _ e.symm).1; omega)).put 0 v', Mem.za4 own _ _ (by show w.heap.size + 1 < w.heap.size + 2; omega), ok⟩
 ·obtain ⟨hr, p, m, sz, hb, hp, h0, h1⟩ := hs
  have hS : S < W.heap.size := (Array.getElem?_eq_some_iff.1 hb).1
  refine ⟨⟨hr.1, hr.2.1, fun i hi => ?_⟩, p, m, sz, (gr.block S hS (fun e => by have := (hv _ e.symm).1; omega)).trans hb, hp, h0, h1⟩
  obtain ⟨b, o, n, e1, e2, e3, e4⟩ := hr.2.2 i hi
  exact ⟨b, o, n, e1, e2, e3, (zq8 (gr.block b (by omega) (fun e => by have := (hv _ e.symm).1; omega))).trans e4⟩
 ·exact ⟨gr.os.trans h.gr.os, gr.tape.trans h.gr.tape, gr.output.trans h.gr.output, Nat.le_trans h.gr.size gr.size, fun j hj hne => (gr.block j (Nat.lt_of_lt_of_le hj h.gr.size) (fun e => by have := (hv _ e.symm).1; omega)).trans (h.gr.block j hj hne)⟩
theorem Tk.mid (h : Tk w W S a len cap v L) (gr : W.grownBy W' v.ownBlock) : Mem.Blk W' (w.heap.size + 1) #[v] 36 := by
 have hv := Mem.zd5 h.own
 exact h.one.grown gr (fun e => by have := (hv _ e.symm).1; omega)
theorem Tk.size (h : Tk w W S a len cap v L) : ∃ sz : Int, 0 ≤ sz ∧ sz ≤ 12 ∧ W.cell? ⟨S, 3, none⟩ = some (.int .i64 sz) := by
 obtain ⟨hr, p, m, sz, hb, hp, h0, h1⟩ := h.src
 exact ⟨sz, h0, h1, by rw [cell_of_row W S 3 _ _ (0, 0) hb]; rfl⟩
theorem Tk.done {va : Option Addr} {vc n : Nat} (h : Tk w W S a len cap (.slice va n vc) L) : zf6 (W.setCell ⟨w.heap.size, 0, none⟩ (.slice va n vc)) w.heap.size va vc L ∧ Src (W.setCell ⟨w.heap.size, 0, none⟩ (.slice va n vc)) S a len cap ∧ w.grownBy (W.setCell ⟨w.heap.size, 0, none⟩ (.slice va n vc)) (some S) ∧ Mem.Blk (W.setCell ⟨w.heap.size, 0, none⟩ (.slice va n vc)) w.heap.size #[.slice va n vc] 36 :=
 have l := h.lo
 ⟨((zo7 h.own).set _ _ _ (by omega)).mono (by omega), zg6 h.src 0 _ l, ze8 h.gr 0 _ (Nat.le_refl _), h.two.put 0 _⟩
theorem Tk.cut1 {g vc : Nat} {v' : Value} (h : Tk w W S a len cap (.slice (some ⟨g, 0, none⟩) L.length vc) L) {va' : Option Addr} {vc' : Nat} (hv' : v' = .slice va' L.tail.length vc') (h1 : 0 < L.length) (hva : (L.length = 1 ∧ va' = some ⟨g, 0, none⟩) ∨ (va' = some ⟨g, 5, none⟩ ∧ vc' = vc - 1)) :
  zf6 ((W.setCell ⟨w.heap.size + 1, 0, none⟩ v').setCell ⟨w.heap.size, 0, none⟩ v') w.heap.size va' vc' L.tail ∧ Src ((W.setCell ⟨w.heap.size + 1, 0, none⟩ v').setCell ⟨w.heap.size, 0, none⟩ v') S a len cap ∧ w.grownBy ((W.setCell ⟨w.heap.size + 1, 0, none⟩ v').setCell ⟨w.heap.size, 0, none⟩ v') (some S) ∧ Mem.Blk ((W.setCell ⟨w.heap.size + 1, 0, none⟩ v').setCell ⟨w.heap.size, 0, none⟩ v') w.heap.size #[v'] 36 := by
 have l := h.lo
 have T := zo7 h.own
 have hg := T.2.2 g 0 rfl
 have hgl : g < W.heap.size := (Mem.zd5 h.own g rfl).2
 refine ⟨?_, zg6 (zg6 h.src 0 _ (by omega)) 0 _ l, ze8 (ze8 h.gr 0 _ (by omega)) 0 _ (Nat.le_refl _), (h.two.far _ _ (by show w.heap.size ≠ w.heap.size + 1; omega)).put 0 _⟩
 have T2 : zf6 W (w.heap.size + 2) va' vc' L.tail := by
  rcases hva with ⟨e1, rfl⟩ | ⟨rfl, rfl⟩
  ·have e2 : L.tail = [] := List.length_eq_zero_iff.1 (by rw [List.length_tail]; omega)
   rw [e2]
   exact ⟨Mem.zw0 _ _, .inr ⟨g, 0, rfl, hgl, by simp⟩, fun g' o' e => by cases e; exact hg⟩
  ·have hd := zn4.zx9 T.1 1
   rw [List.drop_one] at hd
   refine ⟨hd, .inr ⟨g, 5, rfl, hgl, ?_⟩, fun g' o' e => by cases e; exact hg⟩
   rcases T.2.1 with ⟨e, _⟩ | ⟨g', o', e, _, h3⟩
   ·cases e
   ·rw [List.length_tail]; omega
 exact ((T2.set _ _ _ (by omega)).set _ _ _ (by omega)).mono (by omega)
theorem Tk.row {va : Option Addr} {vc : Nat} (h : Tk w W S a len cap (.slice va L.length vc) L) (h1 : 0 < L.length) : ∃ g, va = some ⟨g, 0, none⟩ ∧ L.length ≤ vc := by
 rcases h.own.2 with ⟨e, h0⟩ | ⟨g, cap', cur, e, hb, hg, hc, hm, hsz, ht⟩
 ·omega
 ·injection e with e1 e2 e3
  subst e3
  exact ⟨g, e1, hc⟩
end
end WSrc
end Go.Proofs.YtioildojmckepaaGreatDoor
