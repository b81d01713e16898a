/- A row of nests in memory: each a map, a number and the row of its layers. -/
import Derived.Test.YtkgifofleilabaaDoorMemApp2
import Derived.Test.YtkgifofleilabaaDoorPlainNest
namespace Go.Proofs.YtkgifofleilabaaDoor
open Go.RowKit
namespace Mem
/-- A row of nests from a cell on; all blocks of it are of a kind. -/
def rowF (w : World) (N : Nat → Prop) : Pl.Fo → Nat → Nat → Prop
  | .nil, _, _ => True
  | .cons k m, b, i => (∃ x y a cap, w.cell? ⟨b, i, none⟩ = some x ∧ w.cell? ⟨b, i + 1, none⟩ = some y ∧ w.cell? ⟨b, i + 2, none⟩ = some (.slice a k.len cap) ∧ b < w.heap.size ∧ N b ∧
      (∃ q, x = .map q) ∧ (∃ q, y = .int .i64 q) ∧ (k = .nil ∨ ∃ b', a = some ⟨b', 0, none⟩ ∧ rowF w N k b' 0)) ∧ rowF w N m b (i + 3)
/-- The layers of a nest: a row of nests, or none. -/
def lay (w : World) (N : Nat → Prop) (k : Pl.Fo) (v : Value) : Prop := ∃ a cap, v = .slice a k.len cap ∧ (k = .nil ∨ ∃ b', a = some ⟨b', 0, none⟩ ∧ rowF w N k b' 0)
theorem rowF_mono {w w' : World} {N N' : Nat → Prop} (h : ∀ b, N b → b < w.heap.size → N' b ∧ b < w'.heap.size ∧ w'.heap[b]? = w.heap[b]?) (F : Pl.Fo) : ∀ b i, rowF w N F b i → rowF w' N' F b i := by
  induction F with
  | nil => intro b i _; trivial
  | cons k m ihk ihm =>
    intro b i hr
    obtain ⟨⟨x, y, a, cap, h1, h2, h3, h4, h5, hx, hy, h6⟩, h7⟩ := hr
    obtain ⟨g1, g2, g3⟩ := h b h5 h4
    have c : ∀ j, w'.cell? ⟨b, j, none⟩ = w.cell? ⟨b, j, none⟩ := fun j => World.cell?_of_block g3
    refine ⟨⟨x, y, a, cap, (c _).trans h1, (c _).trans h2, (c _).trans h3, g2, g1, hx, hy, ?_⟩, ihm _ _ h7⟩
    rcases h6 with h6 | ⟨b', h6, h8⟩
    · exact .inl h6
    · exact .inr ⟨b', h6, ihk _ _ h8⟩
theorem lay_mono {w w' : World} {N N' : Nat → Prop} (h : ∀ b, N b → b < w.heap.size → N' b ∧ b < w'.heap.size ∧ w'.heap[b]? = w.heap[b]?) {k : Pl.Fo} {v : Value} (hl : lay w N k v) : lay w' N' k v := by
  obtain ⟨a, cap, h1, h2⟩ := hl
  refine ⟨a, cap, h1, ?_⟩
  rcases h2 with h2 | ⟨b', h2, h3⟩
  · exact .inl h2
  · exact .inr ⟨b', h2, rowF_mono h _ _ _ h3⟩
theorem lay_call {w w' : World} {N : Nat → Prop} {k : Pl.Fo} {v : Value} (h : lay w N k v) (b : Below w.heap.size w w') : lay w' N k v := lay_mono (fun g hg hl => ⟨hg, Nat.lt_of_lt_of_le hl b.size, b.block g hl⟩) h
theorem lay_weak {w : World} {N N' : Nat → Prop} {k : Pl.Fo} {v : Value} (h : lay w N k v) (hn : ∀ b, N b → b < w.heap.size → N' b) : lay w N' k v := lay_mono (fun g hg hl => ⟨hn g hg hl, hl, rfl⟩) h
theorem lay_nil (w : World) (N : Nat → Prop) : lay w N .nil (.slice none 0 0) := ⟨none, 0, rfl, .inl rfl⟩
/-- The cells of a row of nests, one behind the other. -/
def cellsF (w : World) (N : Nat → Prop) : Pl.Fo → List Value → Prop
  | .nil, xs => xs = []
  | .cons k m, xs => ∃ q r v ys, xs = .map q :: .int .i64 r :: v :: ys ∧ lay w N k v ∧ cellsF w N m ys
theorem cellsF_mono {w w' : World} {N N' : Nat → Prop} (h : ∀ b, N b → b < w.heap.size → N' b ∧ b < w'.heap.size ∧ w'.heap[b]? = w.heap[b]?) (F : Pl.Fo) : ∀ xs, cellsF w N F xs → cellsF w' N' F xs := by
  induction F with
  | nil => intro xs h; exact h
  | cons k m _ ih =>
    intro xs hx
    obtain ⟨q, r, v, ys, h1, h2, h3⟩ := hx
    exact ⟨q, r, v, ys, h1, lay_mono h h2, ih _ h3⟩
theorem cellsF_snoc {w : World} {N : Nat → Prop} {k : Pl.Fo} {q : Option Nat} {r : Int} {v : Value} (hv : lay w N k v) (F : Pl.Fo) : ∀ xs, cellsF w N F xs → cellsF w N (F.app (.cons k .nil)) (xs ++ [.map q, .int .i64 r, v]) := by
  induction F with
  | nil => intro xs h; cases h; exact ⟨q, r, v, [], rfl, hv, rfl⟩
  | cons k' m _ ih =>
    intro xs hx
    obtain ⟨q', r', v', ys, rfl, h2, h3⟩ := hx
    exact ⟨q', r', v', _, rfl, h2, ih _ h3⟩
theorem row_of_cells {w : World} {N N' : Nat → Prop} {g : Nat} (hN : ∀ b, N b → N' b) (hg : N' g) (hlt : g < w.heap.size) (F : Pl.Fo) : ∀ (xs : List Value) (i : Nat), cellsF w N F xs → (∀ j u, xs[j]? = some u → w.cell? ⟨g, i + j, none⟩ = some u) → rowF w N' F g i := by
  induction F with
  | nil => intro xs i _ _; trivial
  | cons k m _ ih =>
    intro xs i hx hc
    obtain ⟨q, r, v, ys, rfl, h2, h3⟩ := hx
    obtain ⟨a, cap, rfl, h4⟩ := h2
    refine ⟨⟨_, _, a, cap, hc 0 _ rfl, hc 1 _ rfl, hc 2 _ rfl, hlt, hg, ⟨q, rfl⟩, ⟨r, rfl⟩, ?_⟩, ih ys (i + 3) h3 fun j u hj => ?_⟩
    · rcases h4 with h4 | ⟨b', h4, h5⟩
      · exact .inl h4
      · exact .inr ⟨b', h4, rowF_mono (fun b hb hl => ⟨hN b hb, hl, rfl⟩) _ _ _ h5⟩
    · have := hc (j + 3) u (by simpa using hj)
      rw [show i + 3 + j = i + (j + 3) by omega]; exact this
theorem lay_of_row {w : World} {B : Nat} {T : TypeId} {v : Value} {N : Nat → Prop} {F : Pl.Fo} {xs : List Value} (h : w.ownsRow B T 3 v F.len xs) (hc : cellsF w N F xs) (hN : ∀ b, N b → B ≤ b) : lay w (fun b => B ≤ b) F v := by
  rcases h.2 with ⟨rfl, h0⟩ | ⟨g, cap, cur, rfl, hb, hg, hc2, hm, hsz, ht⟩
  · cases F with
    | nil => exact lay_nil _ _
    | cons k m => simp [Pl.Fo.len] at h0
  · refine ⟨_, cap, rfl, .inr ⟨g, rfl, row_of_cells hN hb (Array.getElem?_eq_some_iff.1 hg).1 F xs 0 hc fun j u hj => ?_⟩⟩
    rw [cell_of_row w g _ cur _ (0, 0) hg, Nat.zero_add]
    rw [← ht, List.getElem?_take] at hj
    split at hj
    · simpa using hj
    · cases hj
end Mem
end Go.Proofs.YtkgifofleilabaaDoor
