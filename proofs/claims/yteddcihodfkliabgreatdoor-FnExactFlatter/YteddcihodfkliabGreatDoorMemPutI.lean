/- Stores into a row of items of the call's own. -/
import Derived.Test.YteddcihodfkliabGreatDoorMemIo
namespace Go.Proofs.YteddcihodfkliabGreatDoor
open Go.RowKit
namespace Mem
theorem own_put {W : World} {S g T size n cap : Nat} {xs : List Value} (h : W.ownsRow S T size (.slice (some ⟨g, 0, none⟩) n cap) n xs) (k : Nat) (u : Value) : (W.setCell ⟨g, k, none⟩ u).ownsRow S T size (.slice (some ⟨g, 0, none⟩) n cap) n (xs.set k u) := by
  refine ⟨by rw [List.length_set]; exact h.1, ?_⟩
  rcases h.2 with ⟨e, _⟩ | ⟨g', c', cur, e, hb, hg, hc, hm, hs, ht⟩
  · cases e
  · cases e
    refine .inr ⟨g, cap, cur.setIfInBounds k u, rfl, hb, heap_setCell_same _ _ _ _ _ _ hg, hc, hm, by rw [Array.size_setIfInBounds]; exact hs, ?_⟩
    rw [Array.toList_setIfInBounds, List.take_set, ht]
theorem own_cell {W : World} {S g T size n cap : Nat} {xs : List Value} (h : W.ownsRow S T size (.slice (some ⟨g, 0, none⟩) n cap) n xs) {k : Nat} {u : Value} (hk : xs[k]? = some u) : W.cell? ⟨g, k, none⟩ = some u ∧ W.frozen? ⟨g, k, none⟩ = false := by
  refine ⟨?_, ?_⟩
  · have := World.ownsRow.cells h (g := g) rfl k u hk
    rw [add_lit] at this
    exact this
  · rcases h.2 with ⟨e, _⟩ | ⟨g', c', cur, e, hb, hg, _⟩
    · cases e
    · cases e
      exact row_frozen hg
end Mem
namespace Pl
theorem cellsI_cons (x : It) (Is : List It) : cellsI (x :: Is) = Value.int .i64 x.m :: x.t.val :: cellsI Is := rfl
theorem cellsI_tree (x : It) (t : Tr) (Rs : List It) : ∀ Ds : List It, (cellsI (Ds ++ x :: Rs)).set (Ds.length * 2 + 1) t.val = cellsI (Ds ++ ⟨x.m, t⟩ :: Rs) := by
  intro Ds
  induction Ds with
  | nil => rfl
  | cons y Ds ih =>
    rw [List.cons_append, List.cons_append, cellsI_cons, cellsI_cons, List.length_cons, show (Ds.length + 1) * 2 + 1 = Ds.length * 2 + 1 + 1 + 1 by omega, List.set_cons_succ, List.set_cons_succ, ih]
theorem cellsI_many (x : It) (m : Int) (Rs : List It) : (cellsI (x :: Rs)).set 0 (.int .i64 m) = cellsI (⟨m, x.t⟩ :: Rs) := rfl
theorem cellsI_take (Is : List It) : ∀ k, k ≤ Is.length → (cellsI Is).take (k * 2) = cellsI (Is.take k) := by
  induction Is with
  | nil => intro k h; have : k = 0 := by simpa using h
           subst this; rfl
  | cons x Is ih =>
    intro k h
    cases k with
    | zero => rfl
    | succ k =>
      rw [cellsI_cons, show (k + 1) * 2 = k * 2 + 1 + 1 by omega, List.take_succ_cons, List.take_succ_cons, ih k (by simpa using h), List.take_succ_cons, cellsI_cons]
theorem cellsI_drop (Is : List It) : ∀ k, (cellsI Is).drop (k * 2) = cellsI (Is.drop k) := by
  induction Is with
  | nil => intro k; simp [cellsI]
  | cons x Is ih =>
    intro k
    cases k with
    | zero => rfl
    | succ k => rw [cellsI_cons, show (k + 1) * 2 = k * 2 + 1 + 1 by omega, List.drop_succ_cons, List.drop_succ_cons, ih, List.drop_succ_cons]
end Pl
namespace Mem
/-- A row of items of the call's own, some of them copied. -/
structure Cq (W : World) (S g cap : Nat) (Ds Rs : List Pl.It) : Prop where
  row : W.ownsRow S 58 2 (.slice (some ⟨g, 0, none⟩) (Ds.length + Rs.length) cap) (Ds.length + Rs.length) (Pl.cellsI (Ds ++ Rs))
  each : ∀ (i : Nat) x, Ds[i]? = some x → ownN W S x.t.val x.t.L ∧ ∀ q, x.t.val.ownBlock = some q → q ≠ g
  apart : ∀ (i j : Nat) x y, i ≠ j → Ds[i]? = some x → Ds[j]? = some y → ∀ q, x.t.val.ownBlock = some q → y.t.val.ownBlock ≠ some q
theorem Cq.call {W W' : World} {S g cap : Nat} {Ds Rs : List Pl.It} (h : Cq W S g cap Ds Rs) (b : Below W.heap.size W W') : Cq W' S g cap Ds Rs :=
  ⟨own_call h.row b, fun i x hx => ⟨ownN_call (h.each i x hx).1 b, (h.each i x hx).2⟩, h.apart⟩
theorem Cq.step {W W1 : World} {S g cap : Nat} {Ds Rs : List Pl.It} {x : Pl.It} {t : Pl.Tr} (h : Cq W S g cap Ds (x :: Rs)) (b : Below W.heap.size W W1) (hS : S ≤ W.heap.size) (ht : ownN W1 W.heap.size t.val t.L) : Cq (W1.setCell ⟨g, Ds.length * 2 + 1, none⟩ t.val) S g cap (Ds ++ [⟨x.m, t⟩]) Rs := by
  have h1 := h.call b
  have hg : g < W.heap.size := (World.ownsRow.lt h.row g rfl).2
  have hgS : S ≤ g := (World.ownsRow.lt h.row g rfl).1
  have off : ∀ {v : Value} {L : List Pl.Nd} {B : Nat}, ownN W1 B v L → (∀ q, v.ownBlock = some q → q ≠ g) → ownN (W1.setCell ⟨g, Ds.length * 2 + 1, none⟩ t.val) B v L := fun {v L B} hv hn => by
    refine ⟨hv.1, ?_⟩
    rcases hv.2 with h0 | ⟨q, c, cur, e, hb, hq, rest⟩
    · exact .inl h0
    · exact .inr ⟨q, c, cur, e, hb, (heap_setCell_other _ _ _ _ (hn q (by rw [e]; rfl))).trans hq, rest⟩
  have hlo : ∀ q, t.val.ownBlock = some q → W.heap.size ≤ q := fun q hq => (ownN_lt ht q hq).1
  refine ⟨?_, fun i y hy => ?_, fun i j y z hij hy hz q hq => ?_⟩
  · have h2 := own_put h1.row (Ds.length * 2 + 1) t.val
    rw [Pl.cellsI_tree] at h2
    have e : (Ds ++ [(⟨x.m, t⟩ : Pl.It)]).length + Rs.length = Ds.length + (x :: Rs).length := by simp; omega
    rw [e, List.append_assoc]
    exact h2
  · by_cases e : i < Ds.length
    · rw [List.getElem?_append_left e] at hy
      exact ⟨off (h1.each i y hy).1 (h1.each i y hy).2, (h1.each i y hy).2⟩
    · rw [List.getElem?_append_right (by omega)] at hy
      have e0 : i - Ds.length = 0 := by
        have := (List.getElem?_eq_some_iff.1 hy).1
        simp at this; omega
      rw [e0] at hy
      simp at hy
      subst hy
      have hn : ∀ q, t.val.ownBlock = some q → q ≠ g := fun q hq => by have := hlo q hq; omega
      exact ⟨off (ownN_mono ht hS) hn, hn⟩
  · by_cases e : i < Ds.length
    · rw [List.getElem?_append_left e] at hy
      by_cases e2 : j < Ds.length
      · rw [List.getElem?_append_left e2] at hz
        exact h.apart i j y z hij hy hz q hq
      · rw [List.getElem?_append_right (by omega)] at hz
        have e0 : j - Ds.length = 0 := by
          have := (List.getElem?_eq_some_iff.1 hz).1
          simp at this; omega
        rw [e0] at hz
        simp at hz
        subst hz
        intro e3
        have h5 := hlo q e3
        have h6 := (ownN_lt (h.each i y hy).1 q hq).2
        omega
    · rw [List.getElem?_append_right (by omega)] at hy
      have e0 : i - Ds.length = 0 := by
        have := (List.getElem?_eq_some_iff.1 hy).1
        simp at this; omega
      rw [e0] at hy
      simp at hy
      subst hy
      have h5 := hlo q hq
      have hj : j < Ds.length := by
        have := (List.getElem?_eq_some_iff.1 hz).1
        simp at this; omega
      rw [List.getElem?_append_left hj] at hz
      intro e3
      have h6 := (ownN_lt (h.each j z hz).1 q e3).2
      omega
theorem Cq.done {W : World} {S g cap : Nat} {Ds : List Pl.It} (h : Cq W S g cap Ds []) : Io W S (.slice (some ⟨g, 0, none⟩) Ds.length cap) Ds := by
  have h1 := h.row
  rw [List.length_nil, Nat.add_zero, List.append_nil] at h1
  exact ⟨h1, fun i x hx => ⟨(h.each i x hx).1, fun q hq e => (h.each i x hx).2 q hq (Option.some.inj e).symm⟩, h.apart⟩
end Mem
end Go.Proofs.YteddcihodfkliabGreatDoor
