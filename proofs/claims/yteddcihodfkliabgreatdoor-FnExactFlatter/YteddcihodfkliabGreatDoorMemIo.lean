/- A row of items of the call's own, each with a row of nodes of its own. -/
import Derived.Test.YteddcihodfkliabGreatDoorPartN
import Derived.Test.YteddcihodfkliabGreatDoorMemOwnI
import Derived.Test.YteddcihodfkliabGreatDoorPartA
namespace Go.Proofs.YteddcihodfkliabGreatDoor
open Go.RowKit
namespace Pl
/-- The cells of a row of items. -/
def cellsI (Is : List It) : List Value := Is.flatMap (fun x => [Value.int .i64 x.m, x.t.val])
theorem cellsI_len (Is : List It) : (cellsI Is).length = Is.length * 2 := by
  induction Is with
  | nil => rfl
  | cons x Is ih => rw [cellsI, List.flatMap_cons, List.length_append, ← cellsI, ih, List.length_cons]; simp; omega
theorem cellsI_app (A B : List It) : cellsI (A ++ B) = cellsI A ++ cellsI B := by simp [cellsI]
theorem cellsI_at : ∀ (Is : List It) (i : Nat) (x : It), Is[i]? = some x → (cellsI Is)[i * 2]? = some (.int .i64 x.m) ∧ (cellsI Is)[i * 2 + 1]? = some x.t.val := by
  intro Is
  induction Is with
  | nil => intro i x h; cases h
  | cons y Is ih =>
    intro i x h
    have e : cellsI (y :: Is) = Value.int .i64 y.m :: y.t.val :: cellsI Is := rfl
    cases i with
    | zero =>
      have e2 : y = x := by simpa using h
      subst e2
      rw [e]
      exact ⟨rfl, rfl⟩
    | succ i =>
      have h2 : Is[i]? = some x := by simpa using h
      obtain ⟨h3, h4⟩ := ih i x h2
      rw [e, show (i + 1) * 2 = i * 2 + 1 + 1 by omega]
      exact ⟨by simpa using h3, by simpa using h4⟩
theorem cellsI_one (Is : List It) : ∀ u ∈ cellsI Is, u.oneCell' = true := by
  intro u hu
  obtain ⟨x, -, hx⟩ := List.mem_flatMap.1 hu
  simp only [List.mem_cons, List.not_mem_nil, or_false] at hx
  rcases hx with rfl | rfl <;> rfl
end Pl
namespace Mem
theorem row_off2 {w w' : World} {B e size n : Nat} {v : Value} {xs : List Value} {r : Option Nat} (h : w.ownsRow B e size v n xs) (hg : w.grownBy w' r) (hr : ∀ g, v.ownBlock = some g → some g ≠ r) : w'.ownsRow B e size v n xs := by
  refine ⟨h.1, ?_⟩
  rcases h.2 with h0 | ⟨g, cap, cur, rfl, hb, hh, rest⟩
  · exact .inl h0
  · exact .inr ⟨g, cap, cur, rfl, hb, (hg.block g (Array.getElem?_eq_some_iff.1 hh).1 (hr g rfl)).trans hh, rest⟩
structure Io (W : World) (S : Nat) (v : Value) (Is : List Pl.It) : Prop where
  row : W.ownsRow S 58 2 v Is.length (Pl.cellsI Is)
  each : ∀ (i : Nat) x, Is[i]? = some x → ownN W S x.t.val x.t.L ∧ ∀ g, x.t.val.ownBlock = some g → v.ownBlock ≠ some g
  apart : ∀ (i j : Nat) x y, i ≠ j → Is[i]? = some x → Is[j]? = some y → ∀ g, x.t.val.ownBlock = some g → y.t.val.ownBlock ≠ some g
theorem Io.call {W W' : World} {S : Nat} {v : Value} {Is : List Pl.It} (h : Io W S v Is) (b : Below W.heap.size W W') : Io W' S v Is :=
  ⟨own_call h.row b, fun i x hx => ⟨ownN_call (h.each i x hx).1 b, (h.each i x hx).2⟩, h.apart⟩
theorem Io.mono {W : World} {S S' : Nat} {v : Value} {Is : List Pl.It} (h : Io W S v Is) (hs : S' ≤ S) : Io W S' v Is :=
  ⟨own_mono h.row hs, fun i x hx => ⟨ownN_mono (h.each i x hx).1 hs, (h.each i x hx).2⟩, h.apart⟩
theorem Io.set {W : World} {S : Nat} {v : Value} {Is : List Pl.It} (h : Io W S v Is) (p : Addr) (u : Value) (hp : p.block < S) : Io (W.setCell p u) S v Is := by
  refine ⟨⟨h.row.1, ?_⟩, fun i x hx => ⟨ownN_set (h.each i x hx).1 p u hp, (h.each i x hx).2⟩, h.apart⟩
  rcases h.row.2 with h0 | ⟨g, cap, cur, hv, hb, hg, rest⟩
  · exact .inl h0
  · exact .inr ⟨g, cap, cur, hv, hb, (heap_setCell_other _ _ _ _ (by omega)).trans hg, rest⟩
theorem Io.app {W W' : World} {S S1 : Nat} {v v1 v' : Value} {Is Is1 : List Pl.It} (h : Io W S v Is) (h1 : Io W S1 v1 Is1) (hS : S ≤ S1) (hv : ∀ g, v.ownBlock = some g → g < S1) (hb : ∀ (i : Nat) x, Is[i]? = some x → ∀ g, x.t.val.ownBlock = some g → g < S1)
    (own' : W'.ownsRow S 58 2 v' (Is.length + Is1.length) (Pl.cellsI Is ++ Pl.cellsI Is1)) (gr : W.grownBy W' v.ownBlock) (far : ∀ g, v'.ownBlock = some g → v.ownBlock = some g ∨ W.heap.size ≤ g) : Io W' S v' (Is ++ Is1) := by
  have key : ∀ x : Pl.It, ownN W S x.t.val x.t.L → (∀ g, x.t.val.ownBlock = some g → v.ownBlock ≠ some g) → ownN W' S x.t.val x.t.L ∧ ∀ g, x.t.val.ownBlock = some g → v'.ownBlock ≠ some g := fun x hx hn =>
    ⟨row_off2 hx gr (fun g hg e => hn g hg e.symm), fun g hg e => by
      rcases far g e with h2 | h2
      · exact hn g hg h2
      · have := (ownN_lt hx g hg).2; omega⟩
  have lo1 : ∀ (i : Nat) x, Is1[i]? = some x → ∀ g, x.t.val.ownBlock = some g → S1 ≤ g := fun i x hx g hg => (ownN_lt (h1.each i x hx).1 g hg).1
  refine ⟨by rw [List.length_append, Pl.cellsI_app]; exact own', fun i x hx => ?_, fun i j x y hij hx hy g hg => ?_⟩
  · by_cases e : i < Is.length
    · rw [List.getElem?_append_left e] at hx
      exact key x (h.each i x hx).1 (h.each i x hx).2
    · rw [List.getElem?_append_right (by omega)] at hx
      exact key x (ownN_mono (h1.each _ x hx).1 hS) (fun g hg e2 => by have := lo1 _ x hx g hg; have := hv g e2; omega)
  · by_cases e : i < Is.length
    · rw [List.getElem?_append_left e] at hx
      by_cases e2 : j < Is.length
      · rw [List.getElem?_append_left e2] at hy
        exact h.apart i j x y hij hx hy g hg
      · rw [List.getElem?_append_right (by omega)] at hy
        intro e3
        have := lo1 _ y hy g e3
        have := hb i x hx g hg
        omega
    · rw [List.getElem?_append_right (by omega)] at hx
      by_cases e2 : j < Is.length
      · rw [List.getElem?_append_left e2] at hy
        intro e3
        have := lo1 _ x hx g hg
        have := hb j y hy g e3
        omega
      · rw [List.getElem?_append_right (by omega)] at hy
        exact h1.apart _ _ x y (by omega) hx hy g hg
theorem Io.items {W : World} {S cap n : Nat} {a : Option Addr} {Is : List Pl.It} (h : Io W S (.slice a n cap) Is) : n = Is.length ∧ isItems W a Is := by
  rcases h.row.2 with ⟨e, h0⟩ | ⟨g, c, cur, e, hb, hg, rest⟩
  · cases e
    have : Is = [] := List.eq_nil_of_length_eq_zero h0
    subst this
    exact ⟨rfl, items_nil _ _⟩
  · cases e
    refine ⟨rfl, fun i x hx => ⟨⟨g, 0, rfl, (Array.getElem?_eq_some_iff.1 hg).1, ?_, ?_⟩, (ownN_nodes (h.each i x hx).1).2⟩⟩
    · have := World.ownsRow.cells h.row (g := g) rfl (i * 2) _ (Pl.cellsI_at Is i x hx).1
      rw [add_lit] at this
      rw [Nat.zero_add]; exact this
    · have := World.ownsRow.cells h.row (g := g) rfl (i * 2 + 1) _ (Pl.cellsI_at Is i x hx).2
      rw [add_lit] at this
      rw [Nat.zero_add]; exact this
theorem Io.lt {W : World} {S : Nat} {v : Value} {Is : List Pl.It} (h : Io W S v Is) : (∀ g, v.ownBlock = some g → S ≤ g ∧ g < W.heap.size) ∧ ∀ (i : Nat) x, Is[i]? = some x → ∀ g, x.t.val.ownBlock = some g → S ≤ g ∧ g < W.heap.size :=
  ⟨fun g hg => World.ownsRow.lt h.row g hg, fun i x hx g hg => ownN_lt (h.each i x hx).1 g hg⟩
theorem Io.there {W : World} {S : Nat} {v : Value} {Is : List Pl.It} (h : Io W S v Is) (hn : Is.length ≠ 0) : ∃ g cap, v = .slice (some ⟨g, 0, none⟩) Is.length cap ∧ ∀ j u, (Pl.cellsI Is)[j]? = some u → W.cell? ((⟨g, 0, none⟩ : Addr).add j) = some u := by
  rcases h.row.2 with ⟨e, h0⟩ | ⟨g, c, cur, e, hb, hg, rest⟩
  · exact absurd h0 hn
  · subst e
    exact ⟨g, c, rfl, fun j u hj => World.ownsRow.cells h.row (g := g) rfl j u hj⟩
theorem Io.nil (W : World) (S : Nat) : Io W S (.slice none 0 0) [] := ⟨⟨rfl, .inl ⟨rfl, rfl⟩⟩, fun i x h => (by cases h), fun i j x y _ h => (by cases h)⟩
/-- One item alone. -/
theorem Io.one {W : World} {S g : Nat} {m : Int} {t : Pl.Tr} (hb : S ≤ g) (hg : W.heap[g]? = some (.cells #[.int .i64 m, t.val] 58 (0, 0))) (ht : ownN W S t.val t.L) (hn : ∀ q, t.val.ownBlock = some q → q ≠ g) : Io W S (.slice (some ⟨g, 0, none⟩) 1 1) [⟨m, t⟩] := by
  refine ⟨⟨rfl, .inr ⟨g, 1, _, rfl, hb, hg, Nat.le_refl _, by decide, rfl, rfl⟩⟩, fun i x hx => ?_, fun i j x y hij hx hy => ?_⟩
  · cases i with
    | zero =>
      have e : (⟨m, t⟩ : Pl.It) = x := by simpa using hx
      subst e
      exact ⟨ht, fun q hq e => hn q hq (Option.some.inj e).symm⟩
    | succ i => simp at hx
  · cases i with
    | zero =>
      cases j with
      | zero => exact absurd rfl hij
      | succ j => simp at hy
    | succ i => simp at hx
end Mem
end Go.Proofs.YteddcihodfkliabGreatDoor
