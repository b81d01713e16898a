/- Several texts of one claim in one file: MemNest, MemFx, MemMaps, MemFirst, WNodesIn, WAtO, WGather, WErrs4, WIs, WCode. -/
import Derived.Test.YtppmlbofhghghaaGreatDoorG00
import Derived.Below
import Derived.Laws.AppendOwn
import Derived.Test.YtppmlbofhghghaaGreatDoorG02
import Derived.Test.YtppmlbofhghghaaGreatDoorG01
import Derived.Test.YtppmlbofhghghaaGreatDoorG04
import Derived.Test.YtppmlbofhghghaaGreatDoorG05
import Derived.Test.YtppmlbofhghghaaGreatDoorG11
import Derived.Test.YtppmlbofhghghaaGreatDoorProg
import Derived.WalkKit
import Derived.Laws.IdiomStrings
import Derived.LaidEql
import Derived.Stop.Asserts
namespace Go.Proofs.YtppmlbofhghghaaGreatDoor
open Go.RowKit
namespace Mem
def rowF (w : World) (N : Nat → Prop) : Pl.Fo → Nat → Nat → Prop
 | .nil, _, _ => True
 | .cons k m, b, i => (∃ x y a cap, w.cell? ⟨b, i, none⟩ = some x ∧ w.cell? ⟨b, i + 1, none⟩ = some y ∧ w.cell? ⟨b, i + 2, none⟩ = some (.slice a k.len cap) ∧ b < w.heap.size ∧ N b ∧
   (∃ q, x = .map q) ∧ (∃ q, y = .int .i64 q) ∧ (k = .nil ∨ ∃ b', a = some ⟨b', 0, none⟩ ∧ rowF w N k b' 0)) ∧ rowF w N m b (i + 3)
def lay (w : World) (N : Nat → Prop) (k : Pl.Fo) (v : Value) : Prop := ∃ a cap, v = .slice a k.len cap ∧ (k = .nil ∨ ∃ b', a = some ⟨b', 0, none⟩ ∧ rowF w N k b' 0)
theorem rowF_mono {w w' : World} {N N' : Nat → Prop} (h : ∀ b, N b → b < w.heap.size → N' b ∧ b < w'.heap.size ∧ w'.heap[b]? = w.heap[b]?) (F : Pl.Fo) : ∀ b i, rowF w N F b i → rowF w' N' F b i := by
 induction F with
 | nil => intro b i _; trivial
 | cons k m ihk ihm =>
  intro b i hr
  obtain ⟨⟨x, y, a, cap, h1, h2, h3, h4, h5, hx, hy, h6⟩, h7⟩ := hr
  obtain ⟨g1, g2, g3⟩ := h b h5 h4
  have c : ∀ j, w'.cell? ⟨b, j, none⟩ = w.cell? ⟨b, j, none⟩ := fun j => World.cell?_of_block g3
  refine ⟨⟨x, y, a, cap, (c _).trans h1, (c _).trans h2, (c _).trans h3, g2, g1, hx, hy, ?_⟩, ihm _ _ h7⟩
  rcases h6 with h6 | ⟨b', h6, h8⟩
  ·exact .inl h6
  ·exact .inr ⟨b', h6, ihk _ _ h8⟩
theorem lay_mono {w w' : World} {N N' : Nat → Prop} (h : ∀ b, N b → b < w.heap.size → N' b ∧ b < w'.heap.size ∧ w'.heap[b]? = w.heap[b]?) {k : Pl.Fo} {v : Value} (hl : lay w N k v) : lay w' N' k v := by
 obtain ⟨a, cap, h1, h2⟩ := hl
 refine ⟨a, cap, h1, ?_⟩
 rcases h2 with h2 | ⟨b', h2, h3⟩
 ·exact .inl h2
 ·exact .inr ⟨b', h2, rowF_mono h _ _ _ h3⟩
theorem lay_call {w w' : World} {N : Nat → Prop} {k : Pl.Fo} {v : Value} (h : lay w N k v) (b : Below w.heap.size w w') : lay w' N k v := lay_mono (fun g hg hl => ⟨hg, Nat.lt_of_lt_of_le hl b.size, b.block g hl⟩) h
end Mem
end Go.Proofs.YtppmlbofhghghaaGreatDoor

namespace Go.Proofs.YtppmlbofhghghaaGreatDoor
open Go.RowKit Go.Maps
namespace Mem
def ownM (w : World) (q : Nat) (L : List Pl.Nd) : Prop := w.ownsMap Tryz.prog 9 MapN.elem q 40 (MapN.mapOf L)
theorem ownM.lt {w : World} {q : Nat} {L : List Pl.Nd} (h : ownM w q L) : q < w.heap.size := World.ownsMap.lt h
theorem ownM.same {w w' : World} {q : Nat} {L : List Pl.Nd} (h : ownM w q L) (e : w'.heap[q]? = w.heap[q]?) : ownM w' q L := by
 obtain ⟨es, clock, hb, F, hs, hD⟩ := h
 exact ⟨es, clock, e.trans hb, F, hs, hD⟩
theorem ownM.call {w w' : World} {q : Nat} {L : List Pl.Nd} (h : ownM w q L) (b : Below w.heap.size w w') : ownM w' q L := h.same (b.block q h.lt)
theorem ownM.set {w : World} {q : Nat} {L : List Pl.Nd} (h : ownM w q L) (p : Addr) (u : Value) (hp : q ≠ p.block) : ownM (w.setCell p u) q L := h.same (heap_setCell_other _ _ _ _ hp)
theorem ownM.grown {w w' : World} {q : Nat} {L : List Pl.Nd} {r : Option Nat} (h : ownM w q L) (g : w.grownBy w' r) (hr : some q ≠ r) : ownM w' q L := h.same (g.block q h.lt hr)
theorem tight {w : World} {q n m : Nat} {D : DataW Unit} (h : w.ownsMap Tryz.prog 9 MapN.elem q n D) (hm : Maps.size D ≤ m) : w.ownsMap Tryz.prog 9 MapN.elem q m D := by
 obtain ⟨es, clock, hb, F, hs, rfl⟩ := h
 refine ⟨es, clock, hb, F, ?_, rfl⟩
 rw [Maps.size_eq, length_read] at hm
 exact hm
def rowX (w : World) (N : Nat → Prop) : Pl.Fx → Nat → Nat → Prop
 | .nil, _, _ => True
 | .cons L k m, b, i => (∃ q a cap, w.cell? ⟨b, i, none⟩ = some (.map (some q)) ∧ w.cell? ⟨b, i + 1, none⟩ = some (.int .i64 (k.len : Int)) ∧ w.cell? ⟨b, i + 2, none⟩ = some (.slice a k.len cap) ∧ b < w.heap.size ∧ N b ∧ N q ∧ ownM w q L ∧
   (k = .nil ∨ ∃ b', a = some ⟨b', 0, none⟩ ∧ k.len ≤ cap ∧ rowX w N k b' 0)) ∧ rowX w N m b (i + 3)
def layX (w : World) (N : Nat → Prop) (k : Pl.Fx) (v : Value) : Prop := ∃ a cap, v = .slice a k.len cap ∧ (k = .nil ∨ ∃ b', a = some ⟨b', 0, none⟩ ∧ k.len ≤ cap ∧ rowX w N k b' 0)
theorem zo9 {w w' : World} {N N' : Nat → Prop} (h : ∀ b, N b → b < w.heap.size → N' b ∧ b < w'.heap.size ∧ w'.heap[b]? = w.heap[b]?) (F : Pl.Fx) : ∀ b i, rowX w N F b i → rowX w' N' F b i := by
 induction F with
 | nil => intro b i _; trivial
 | cons L k m ihk ihm =>
  intro b i hr
  obtain ⟨⟨q, a, cap, h1, h2, h3, h4, h5, hq, hm, h6⟩, h7⟩ := hr
  obtain ⟨g1, g2, g3⟩ := h b h5 h4
  obtain ⟨q1, q2, q3⟩ := h q hq hm.lt
  have c : ∀ j, w'.cell? ⟨b, j, none⟩ = w.cell? ⟨b, j, none⟩ := fun j => World.cell?_of_block g3
  refine ⟨⟨q, a, cap, (c _).trans h1, (c _).trans h2, (c _).trans h3, g2, g1, q1, hm.same q3, ?_⟩, ihm _ _ h7⟩
  rcases h6 with h6 | ⟨b', h6, h8, h9⟩
  ·exact .inl h6
  ·exact .inr ⟨b', h6, h8, ihk _ _ h9⟩
theorem zv3 {w w' : World} {N N' : Nat → Prop} (h : ∀ b, N b → b < w.heap.size → N' b ∧ b < w'.heap.size ∧ w'.heap[b]? = w.heap[b]?) {k : Pl.Fx} {v : Value} (hl : layX w N k v) : layX w' N' k v := by
 obtain ⟨a, cap, h1, h2⟩ := hl
 refine ⟨a, cap, h1, ?_⟩
 rcases h2 with h2 | ⟨b', h2, h3, h4⟩
 ·exact .inl h2
 ·exact .inr ⟨b', h2, h3, zo9 h _ _ _ h4⟩
theorem zq2 {w w' : World} {N : Nat → Prop} {F : Pl.Fx} {b i : Nat} (h : rowX w N F b i) (bb : Below w.heap.size w w') : rowX w' N F b i := zo9 (fun g hg hl => ⟨hg, Nat.lt_of_lt_of_le hl bb.size, bb.block g hl⟩) _ _ _ h
theorem zl {w w' : World} {N : Nat → Prop} {k : Pl.Fx} {v : Value} (h : layX w N k v) (b : Below w.heap.size w w') : layX w' N k v := zv3 (fun g hg hl => ⟨hg, Nat.lt_of_lt_of_le hl b.size, b.block g hl⟩) h
theorem layX_weak {w : World} {N N' : Nat → Prop} {k : Pl.Fx} {v : Value} (h : layX w N k v) (hn : ∀ b, N b → b < w.heap.size → N' b) : layX w N' k v := zv3 (fun g hg hl => ⟨hn g hg hl, hl, rfl⟩) h
theorem layX_nil (w : World) (N : Nat → Prop) : layX w N .nil (.slice none 0 0) := ⟨none, 0, rfl, .inl rfl⟩
theorem rowX_row {w : World} {N : Nat → Prop} (F : Pl.Fx) : ∀ b i, rowX w N F b i → rowF w N F.shape b i := by
 induction F with
 | nil => intro b i _; trivial
 | cons L k m ihk ihm =>
  intro b i hr
  obtain ⟨⟨q, a, cap, h1, h2, h3, h4, h5, hq, hm, h6⟩, h7⟩ := hr
  refine ⟨⟨_, _, a, cap, h1, h2, by rw [Pl.Fx.zz2]; exact h3, h4, h5, ⟨_, rfl⟩, ⟨_, rfl⟩, ?_⟩, ihm _ _ h7⟩
  rcases h6 with h6 | ⟨b', h6, -, h8⟩
  ·exact .inl (by rw [h6]; rfl)
  ·exact .inr ⟨b', h6, ihk _ _ h8⟩
theorem yi3 {w : World} {N : Nat → Prop} {k : Pl.Fx} {v : Value} (h : layX w N k v) : lay w N k.shape v := by
 obtain ⟨a, cap, h1, h2⟩ := h
 refine ⟨a, cap, by rw [Pl.Fx.zz2]; exact h1, ?_⟩
 rcases h2 with h2 | ⟨b', h2, -, h3⟩
 ·exact .inl (by rw [h2]; rfl)
 ·exact .inr ⟨b', h2, rowX_row _ _ _ h3⟩
def zo8 (w : World) (N : Nat → Prop) : Pl.Fx → List Value → Prop
 | .nil, xs => xs = []
 | .cons L k m, xs => ∃ q v ys, xs = .map (some q) :: .int .i64 (k.len : Int) :: v :: ys ∧ N q ∧ ownM w q L ∧ layX w N k v ∧ zo8 w N m ys
theorem ym1 {w w' : World} {N N' : Nat → Prop} (h : ∀ b, N b → b < w.heap.size → N' b ∧ b < w'.heap.size ∧ w'.heap[b]? = w.heap[b]?) (F : Pl.Fx) : ∀ xs, zo8 w N F xs → zo8 w' N' F xs := by
 induction F with
 | nil => intro xs h; exact h
 | cons L k m _ ih =>
  intro xs hx
  obtain ⟨q, v, ys, h1, hq, hm, h2, h3⟩ := hx
  obtain ⟨q1, q2, q3⟩ := h q hq hm.lt
  exact ⟨q, v, ys, h1, q1, hm.same q3, zv3 h h2, ih _ h3⟩
theorem cellsX_snoc {w : World} {N : Nat → Prop} {k : Pl.Fx} {L : List Pl.Nd} {q : Nat} {v : Value} (hq : N q) (hm : ownM w q L) (hv : layX w N k v) (F : Pl.Fx) : ∀ xs, zo8 w N F xs → zo8 w N (F.app (.cons L k .nil)) (xs ++ [.map (some q), .int .i64 (k.len : Int), v]) := by
 induction F with
 | nil => intro xs h; cases h; exact ⟨q, v, [], rfl, hq, hm, hv, rfl⟩
 | cons L' k' m _ ih =>
  intro xs hx
  obtain ⟨q', v', ys, rfl, hq', hm', h2, h3⟩ := hx
  exact ⟨q', v', _, rfl, hq', hm', h2, ih _ h3⟩
theorem rowX_of_cells {w : World} {N N' : Nat → Prop} {g : Nat} (hN : ∀ b, N b → N' b) (hg : N' g) (hlt : g < w.heap.size) (F : Pl.Fx) : ∀ (xs : List Value) (i : Nat), zo8 w N F xs → (∀ j u, xs[j]? = some u → w.cell? ⟨g, i + j, none⟩ = some u) → rowX w N' F g i := by
 induction F with
 | nil => intro xs i _ _; trivial
 | cons L k m _ ih =>
  intro xs i hx hc
  obtain ⟨q, v, ys, rfl, hq, hm, h2, h3⟩ := hx
  obtain ⟨a, cap, rfl, h4⟩ := h2
  refine ⟨⟨q, a, cap, hc 0 _ rfl, hc 1 _ rfl, hc 2 _ rfl, hlt, hg, hN q hq, hm, ?_⟩, ih ys (i + 3) h3 fun j u hj => ?_⟩
  ·rcases h4 with h4 | ⟨b', h4, h6, h5⟩
   ·exact .inl h4
   ·exact .inr ⟨b', h4, h6, zo9 (fun b hb hl => ⟨hN b hb, hl, rfl⟩) _ _ _ h5⟩
  ·have := hc (j + 3) u (by simpa using hj)
   rw [show i + 3 + j = i + (j + 3) by omega]; exact this
theorem ym9 {w : World} {B : Nat} {T : TypeId} {v : Value} {N : Nat → Prop} {F : Pl.Fx} {xs : List Value} (h : w.ownsRow B T 3 v F.len xs) (hc : zo8 w N F xs) (hN : ∀ b, N b → B ≤ b) : layX w (fun b => B ≤ b) F v := by
 rcases h.2 with ⟨rfl, h0⟩ | ⟨g, cap, cur, rfl, hb, hg, hc2, hm, hsz, ht⟩
 ·cases F with
  | nil => exact layX_nil _ _
  | cons L k m => simp [Pl.Fx.len] at h0
 ·refine ⟨_, cap, rfl, .inr ⟨g, rfl, hc2, rowX_of_cells hN hb (Array.getElem?_eq_some_iff.1 hg).1 F xs 0 hc fun j u hj => ?_⟩⟩
  rw [cell_of_row w g _ cur _ (0, 0) hg, Nat.zero_add]
  rw [← ht, List.getElem?_take] at hj
  split at hj
  ·simpa using hj
  ·cases hj
end Mem
end Go.Proofs.YtppmlbofhghghaaGreatDoor

namespace Go.Proofs.YtppmlbofhghghaaGreatDoor
open Go.RowKit Go.Maps
namespace Mem
def mapQ : Option Value → Nat
 | some (.map (some q)) => q
 | _ => 0
def rowB : Option Value → Option Nat
 | some (.slice (some p) _ _) => some p.block
 | _ => none
def zk9 (w : World) : Pl.Fx → Nat → Nat → List Nat
 | .nil, _, _ => []
 | .cons _ k m, b, i => mapQ (w.cell? ⟨b, i, none⟩) :: ((match rowB (w.cell? ⟨b, i + 2, none⟩) with | some b' => zk9 w k b' 0 | none => []) ++ zk9 w m b (i + 3))
def zn7 (w : World) (k : Pl.Fx) (v : Value) : List Nat := match rowB (some v) with | some b' => zk9 w k b' 0 | none => []
def zp6 (w : World) : Pl.Fx → List Value → List Nat
 | .nil, _ => []
 | .cons _ k m, xs => mapQ xs[0]? :: (zn7 w k (xs[2]?.getD undef) ++ zp6 w m (xs.drop 3))
theorem zl6 {w : World} {L : List Pl.Nd} {k m : Pl.Fx} {b i q : Nat} {v : Value} (h1 : w.cell? ⟨b, i, none⟩ = some (.map (some q))) (h2 : w.cell? ⟨b, i + 2, none⟩ = some v) : zk9 w (.cons L k m) b i = q :: (zn7 w k v ++ zk9 w m b (i + 3)) := by
 rw [zk9, h1, h2]; rfl
theorem zm7 (w : World) (v : Value) : zn7 w .nil v = [] := by
 unfold zn7
 split <;> rfl
theorem zu9 (w : World) (k : Pl.Fx) (b n cap : Nat) : zn7 w k (.slice (some ⟨b, 0, none⟩) n cap) = zk9 w k b 0 := rfl
theorem yi9 {w w' : World} {N : Nat → Prop} (h : ∀ b, N b → b < w.heap.size → w'.heap[b]? = w.heap[b]?) (F : Pl.Fx) : ∀ b i, rowX w N F b i → zk9 w' F b i = zk9 w F b i := by
 induction F with
 | nil => intro b i _; rfl
 | cons L k m ihk ihm =>
  intro b i hr
  obtain ⟨⟨q, a, cap, h1, h2, h3, h4, h5, hq, hm, h6⟩, h7⟩ := hr
  have c : ∀ j, w'.cell? ⟨b, j, none⟩ = w.cell? ⟨b, j, none⟩ := fun j => World.cell?_of_block (h b h5 h4)
  rw [zl6 ((c _).trans h1) ((c _).trans h3), zl6 h1 h3, ihm _ _ h7]
  rcases h6 with rfl | ⟨b', rfl, -, h9⟩
  ·rw [zm7, zm7]
  ·rw [zu9, zu9, ihk _ _ h9]
theorem zt {w w' : World} {N : Nat → Prop} (h : ∀ b, N b → b < w.heap.size → w'.heap[b]? = w.heap[b]?) {k : Pl.Fx} {v : Value} (hl : layX w N k v) : zn7 w' k v = zn7 w k v := by
 obtain ⟨a, cap, rfl, h2⟩ := hl
 rcases h2 with rfl | ⟨b', rfl, -, h4⟩
 ·rw [zm7, zm7]
 ·rw [zu9, zu9, yi9 h _ _ _ h4]
theorem zq4 (w : World) (L : List Pl.Nd) (k m : Pl.Fx) (q : Nat) (c v : Value) (ys : List Value) : zp6 w (.cons L k m) (.map (some q) :: c :: v :: ys) = q :: (zn7 w k v ++ zp6 w m ys) := rfl
theorem mapsC_same {w w' : World} {N : Nat → Prop} (h : ∀ b, N b → b < w.heap.size → w'.heap[b]? = w.heap[b]?) (F : Pl.Fx) : ∀ xs, zo8 w N F xs → zp6 w' F xs = zp6 w F xs := by
 induction F with
 | nil => intro xs _; rfl
 | cons L k m _ ih =>
  intro xs hx
  obtain ⟨q, v, ys, rfl, hq, hm, h2, h3⟩ := hx
  rw [zq4, zq4, zt h h2, ih _ h3]
theorem mapsR_in {w : World} {N : Nat → Prop} (F : Pl.Fx) : ∀ b i, rowX w N F b i → ∀ j ∈ zk9 w F b i, N j ∧ j < w.heap.size := by
 induction F with
 | nil => intro b i _ j hj; cases hj
 | cons L k m ihk ihm =>
  intro b i hr j hj
  obtain ⟨⟨q, a, cap, h1, h2, h3, h4, h5, hq, hm, h6⟩, h7⟩ := hr
  rw [zl6 h1 h3] at hj
  rcases List.mem_cons.1 hj with rfl | hj
  ·exact ⟨hq, hm.lt⟩
  rcases List.mem_append.1 hj with hj | hj
  ·rcases h6 with rfl | ⟨b', rfl, -, h9⟩
   ·rw [zm7] at hj; cases hj
   ·exact ihk _ _ h9 j hj
  ·exact ihm _ _ h7 j hj
theorem mapsL_in {w : World} {N : Nat → Prop} {k : Pl.Fx} {v : Value} (hl : layX w N k v) : ∀ j ∈ zn7 w k v, N j ∧ j < w.heap.size := by
 obtain ⟨a, cap, rfl, h2⟩ := hl
 rcases h2 with rfl | ⟨b', rfl, -, h4⟩
 ·rw [zm7]; intro j hj; cases hj
 ·exact mapsR_in _ _ _ h4
theorem mapsC_in {w : World} {N : Nat → Prop} (F : Pl.Fx) : ∀ xs, zo8 w N F xs → ∀ j ∈ zp6 w F xs, N j ∧ j < w.heap.size := by
 induction F with
 | nil => intro xs _ j hj; cases hj
 | cons L k m _ ih =>
  intro xs hx j hj
  obtain ⟨q, v, ys, rfl, hq, hm, h2, h3⟩ := hx
  rw [zq4] at hj
  rcases List.mem_cons.1 hj with rfl | hj
  ·exact ⟨hq, hm.lt⟩
  rcases List.mem_append.1 hj with hj | hj
  ·exact mapsL_in h2 j hj
  ·exact ih _ h3 j hj
theorem mapsC_snoc {w : World} {N : Nat → Prop} (L : List Pl.Nd) (k : Pl.Fx) (q : Nat) (c v : Value) (F : Pl.Fx) : ∀ xs, zo8 w N F xs → zp6 w (F.app (.cons L k .nil)) (xs ++ [.map (some q), c, v]) = zp6 w F xs ++ q :: zn7 w k v := by
 induction F with
 | nil => intro xs h; cases h; show zp6 w (.cons L k .nil) _ = _; rw [List.nil_append, zq4]; simp [zp6]
 | cons L' k' m _ ih =>
  intro xs hx
  obtain ⟨q', v', ys, rfl, hq', hm', h2, h3⟩ := hx
  show zp6 w (.cons L' k' (m.app _)) (.map (some q') :: _ :: v' :: (ys ++ _)) = _
  rw [zq4, zq4, ih _ h3]
  simp
theorem yq5 {w : World} {N : Nat → Prop} {g : Nat} (F : Pl.Fx) : ∀ (xs : List Value) (i : Nat), zo8 w N F xs → (∀ j u, xs[j]? = some u → w.cell? ⟨g, i + j, none⟩ = some u) → zk9 w F g i = zp6 w F xs := by
 induction F with
 | nil => intro xs i _ _; rfl
 | cons L k m _ ih =>
  intro xs i hx hc
  obtain ⟨q, v, ys, rfl, hq, hm, h2, h3⟩ := hx
  have e0 : w.cell? ⟨g, i, none⟩ = some (.map (some q)) := hc 0 _ rfl
  rw [zl6 e0 (hc 2 _ rfl), zq4, ih ys (i + 3) h3 fun j u hj => ?_]
  have := hc (j + 3) u (by simpa using hj)
  rw [show i + 3 + j = i + (j + 3) by omega]; exact this
theorem mapsL_of_row {w : World} {B : Nat} {T : TypeId} {v : Value} {N : Nat → Prop} {F : Pl.Fx} {xs : List Value} (h : w.ownsRow B T 3 v F.len xs) (hc : zo8 w N F xs) : zn7 w F v = zp6 w F xs := by
 rcases h.2 with ⟨rfl, h0⟩ | ⟨g, cap, cur, rfl, hb, hg, hc2, hm, hsz, ht⟩
 ·cases F with
  | nil => exact zm7 _ _
  | cons L k m => simp [Pl.Fx.len] at h0
 ·rw [zu9]
  refine yq5 F xs 0 hc fun j u hj => ?_
  rw [cell_of_row w g _ cur _ (0, 0) hg, Nat.zero_add]
  rw [← ht, List.getElem?_take] at hj
  split at hj
  ·simpa using hj
  ·cases hj
def apart (w : World) (q : Nat) (k : Pl.Fx) (v : Value) : Prop := (q :: zn7 w k v).Pairwise (· < ·)
theorem yp9 {w w' : World} {N : Nat → Prop} (h : ∀ b, N b → b < w.heap.size → w'.heap[b]? = w.heap[b]?) {q : Nat} {k : Pl.Fx} {v : Value} (hl : layX w N k v) (ha : apart w q k v) : apart w' q k v := by
 show (q :: _).Pairwise _
 rw [zt h hl]
 exact ha
theorem zo2 {w w' : World} {N : Nat → Prop} {q : Nat} {k : Pl.Fx} {v : Value} (hl : layX w N k v) (ha : apart w q k v) (b : Below w.heap.size w w') : apart w' q k v := yp9 (fun j _ hj => b.block j hj) hl ha
end Mem
end Go.Proofs.YtppmlbofhghghaaGreatDoor

namespace Go.Proofs.YtppmlbofhghghaaGreatDoor
open Go.RowKit Go.Maps
namespace Pl
def zd5 : List Nd → Fx → List Nd
 | L, .nil => L
 | _, .cons L k _ => zd5 L k
def setF (O : List Nd) : Fx → Fx
 | .nil => .nil
 | .cons _ .nil m => .cons O .nil m
 | .cons L (.cons L1 k1 m1) m => .cons L (setF O (.cons L1 k1 m1)) m
theorem zx3 (O : List Nd) (X : Fx) : (setF O X).len = X.len := by
 induction X with
 | nil => rfl
 | cons L k m ih _ => cases k with
  | nil => rfl
  | cons L1 k1 m1 => rfl
theorem setF_shape (O : List Nd) (X : Fx) : (setF O X).shape = X.shape := by
 induction X with
 | nil => rfl
 | cons L k m ih _ => cases k with
  | nil => rfl
  | cons L1 k1 m1 => rw [setF, Fx.shape, ih]; rfl
theorem yc9 (L : List Nd) (X : Fx) : za5 L = true → X.okX → za5 (zd5 L X) = true := by
 induction X generalizing L with
 | nil => intro h _; exact h
 | cons L' k m ih _ => intro _ h; exact ih L' h.1 h.2.2.2.1
end Pl
namespace Mem
def zi8 (w : World) : Pl.Fx → Nat → Nat → Nat
 | .nil, _, _ => 0
 | .cons _ .nil _, b, i => mapQ (w.cell? ⟨b, i, none⟩)
 | .cons _ (.cons L1 k1 m1) _, b, i => match rowB (w.cell? ⟨b, i + 2, none⟩) with | some b' => zi8 w (.cons L1 k1 m1) b' 0 | none => 0
theorem yc1 {w : World} {q : Nat} {L : List Pl.Nd} {p : Addr} {u : Value} (h : ownM w q L) (hc : w.cell? p = some u) : p.block ≠ q := fun e => by
 obtain ⟨es, clock, hb, -⟩ := h
 rw [World.cell?, e, hb] at hc
 simp at hc
theorem rowX_but {w : World} {N : Nat → Prop} {q : Nat} {L0 : List Pl.Nd} (hq : ownM w q L0) (F : Pl.Fx) : ∀ b i, rowX w N F b i → q ∉ zk9 w F b i → rowX w (fun j => N j ∧ j ≠ q) F b i := by
 induction F with
 | nil => intro b i _ _; trivial
 | cons L k m ihk ihm =>
  intro b i hr hn
  obtain ⟨⟨q', a, cap, h1, h2, h3, h4, h5, h6, hm, h7⟩, h8⟩ := hr
  rw [zl6 h1 h3] at hn
  refine ⟨⟨q', a, cap, h1, h2, h3, h4, ⟨h5, yc1 hq h1⟩, ⟨h6, fun e => hn (by rw [e]; exact List.mem_cons_self ..)⟩, hm, ?_⟩, ihm _ _ h8 (fun e => hn (List.mem_cons_of_mem _ (List.mem_append_right _ e)))⟩
  rcases h7 with rfl | ⟨b', rfl, h9, h10⟩
  ·exact .inl rfl
  ·exact .inr ⟨b', rfl, h9, ihk _ _ h10 (fun e => hn (List.mem_cons_of_mem _ (List.mem_append_left _ e)))⟩
theorem rowX_map {w : World} {N : Nat → Prop} : ∀ (X : Pl.Fx) (b i : Nat), rowX w N X b i → ∀ j ∈ zk9 w X b i, ∃ L0, ownM w j L0 := by
 intro X
 induction X with
 | nil => intro b i _ j hj; cases hj
 | cons L k m ih1 ih2 =>
  intro b i hr j hj
  obtain ⟨⟨q, a, cap, h1, h2, h3, h4, h5, hq, hm, h6⟩, h7⟩ := hr
  rw [zl6 h1 h3] at hj
  rcases List.mem_cons.1 hj with rfl | hj
  ·exact ⟨L, hm⟩
  rcases List.mem_append.1 hj with hj | hj
  ·rcases h6 with rfl | ⟨b', rfl, -, h9⟩
   ·rw [zm7] at hj; cases hj
   ·exact ih1 _ _ h9 j hj
  ·exact ih2 _ _ h7 j hj
theorem row_put {w w' : World} {N : Nat → Prop} {qf : Nat} {O : List Pl.Nd} (g : w.grownBy w' (some qf)) (hO : ownM w' qf O) (F : Pl.Fx) : ∀ b i, F ≠ .nil → rowX w N F b i → (zk9 w F b i).Pairwise (· < ·) → qf = zi8 w F b i → rowX w' N (Pl.setF O F) b i ∧ zk9 w' (Pl.setF O F) b i = zk9 w F b i ∧ qf ∈ zk9 w F b i := by
 have keep : ∀ j, N j ∧ j ≠ qf → j < w.heap.size → (N j) ∧ j < w'.heap.size ∧ w'.heap[j]? = w.heap[j]? := fun j hj hl => ⟨hj.1, Nat.lt_of_lt_of_le hl g.size, g.block j hl (fun e => hj.2 (Option.some.inj e))⟩
 induction F with
 | nil => intro b i h; exact absurd rfl h
 | cons L k m ihk _ =>
  intro b i _ hr ho hq
  obtain ⟨⟨q, a, cap, h1, h2, h3, h4, h5, h6, hm, h7⟩, h8⟩ := hr
  rw [zl6 h1 h3] at ho ⊢
  cases k with
  | nil =>
   have e : qf = q := by rw [hq, zi8, h1]; rfl
   subst e
   have hnm : qf ∉ zk9 w m b (i + 3) := fun e => by
    have := (List.pairwise_cons.1 ho).1 qf (List.mem_append_right _ e)
    omega
   have hbq := yc1 hm h1
   have hb' : w'.heap[b]? = w.heap[b]? := (keep b ⟨h5, hbq⟩ h4).2.2
   have c : ∀ j, w'.cell? ⟨b, j, none⟩ = w.cell? ⟨b, j, none⟩ := fun j => World.cell?_of_block hb'
   have hbm := rowX_but hm m b (i + 3) h8 hnm
   refine ⟨⟨⟨qf, a, cap, (c _).trans h1, (c _).trans h2, (c _).trans h3, Nat.lt_of_lt_of_le h4 g.size, h5, h6, hO, .inl rfl⟩, zo9 keep m b (i + 3) hbm⟩, ?_, List.mem_cons_self ..⟩
   rw [Pl.setF, zl6 ((c _).trans h1) ((c _).trans h3), zm7, zm7, yi9 (fun j hj hl => (keep j hj hl).2.2) m b (i + 3) hbm]
  | cons L1 k1 m1 =>
   rcases h7 with h7 | ⟨b', rfl, h9, h10⟩
   ·cases h7
   have e : qf = zi8 w (.cons L1 k1 m1) b' 0 := by rw [hq, zi8, h3]; rfl
   rw [zu9] at ho ⊢
   have ho2 := (List.pairwise_append.1 (List.pairwise_cons.1 ho).2)
   obtain ⟨i1, i2, i3⟩ := ihk b' 0 (by simp) h10 ho2.1 e
   obtain ⟨L0, hL0⟩ : ∃ L0, ownM w qf L0 := by
    exact rowX_map _ b' 0 h10 qf i3
   have hnq : q ≠ qf := fun e => by
    have := (List.pairwise_cons.1 ho).1 qf (List.mem_append_left _ i3)
    omega
   have hnm : qf ∉ zk9 w m b (i + 3) := fun e => by
    have := ho2.2.2 qf i3 qf e
    omega
   have hbq := yc1 hL0 h1
   have hb' : w'.heap[b]? = w.heap[b]? := (keep b ⟨h5, hbq⟩ h4).2.2
   have c : ∀ j, w'.cell? ⟨b, j, none⟩ = w.cell? ⟨b, j, none⟩ := fun j => World.cell?_of_block hb'
   have hbm := rowX_but hL0 m b (i + 3) h8 hnm
   have hl := Pl.zx3 O (.cons L1 k1 m1)
   refine ⟨⟨⟨q, some ⟨b', 0, none⟩, cap, (c _).trans h1, by rw [hl]; exact (c _).trans h2, by rw [hl]; exact (c _).trans h3, Nat.lt_of_lt_of_le h4 g.size, h5, h6, hm.grown g (fun e => hnq (Option.some.inj e)), .inr ⟨b', rfl, by rw [hl]; exact h9, i1⟩⟩, zo9 keep m b (i + 3) hbm⟩, ?_, List.mem_cons_of_mem _ (List.mem_append_left _ i3)⟩
   rw [Pl.setF, zl6 ((c _).trans h1) ((c _).trans h3), zu9, i2, yi9 (fun j hj hl => (keep j hj hl).2.2) m b (i + 3) hbm]
theorem yg0 {w w' : World} {N : Nat → Prop} (h : ∀ b, N b → b < w.heap.size → w'.heap[b]? = w.heap[b]?) (F : Pl.Fx) : ∀ b i, rowX w N F b i → zi8 w' F b i = zi8 w F b i := by
 induction F with
 | nil => intro b i _; rfl
 | cons L k m ihk _ =>
  intro b i hr
  obtain ⟨⟨q, a, cap, h1, h2, h3, h4, h5, hq, hm, h6⟩, h7⟩ := hr
  have c : ∀ j, w'.cell? ⟨b, j, none⟩ = w.cell? ⟨b, j, none⟩ := fun j => World.cell?_of_block (h b h5 h4)
  cases k with
  | nil => rw [zi8, zi8, c]
  | cons L1 k1 m1 =>
   rcases h6 with h6 | ⟨b', rfl, -, h9⟩
   ·cases h6
   rw [zi8, zi8, c, h3]
   exact ihk b' 0 h9
theorem firstQ_lt {w : World} {N : Nat → Prop} (F : Pl.Fx) : ∀ b i, F ≠ .nil → rowX w N F b i → zi8 w F b i < w.heap.size := by
 induction F with
 | nil => intro b i h; exact absurd rfl h
 | cons L k m ihk _ =>
  intro b i _ hr
  obtain ⟨⟨q, a, cap, h1, h2, h3, h4, h5, hq, hm, h6⟩, h7⟩ := hr
  cases k with
  | nil => rw [zi8, h1]; exact hm.lt
  | cons L1 k1 m1 =>
   rcases h6 with h6 | ⟨b', rfl, -, h9⟩
   ·cases h6
   rw [zi8, h3]
   exact ihk b' 0 (by simp) h9
theorem firstQ_mem {w : World} {N : Nat → Prop} (F : Pl.Fx) : ∀ b i, F ≠ .nil → rowX w N F b i → zi8 w F b i ∈ zk9 w F b i := by
 induction F with
 | nil => intro b i h; exact absurd rfl h
 | cons L k m ihk _ =>
  intro b i _ hr
  obtain ⟨⟨q, a, cap, h1, h2, h3, h4, h5, hq, hm, h6⟩, h7⟩ := hr
  rw [zl6 h1 h3]
  cases k with
  | nil => rw [zi8, h1]; exact List.mem_cons_self ..
  | cons L1 k1 m1 =>
   rcases h6 with h6 | ⟨b', rfl, -, h9⟩
   ·cases h6
   rw [zi8, h3]
   exact List.mem_cons_of_mem _ (List.mem_append_left _ (ihk b' 0 (by simp) h9))
def zn9 (w : World) (K : Pl.Fx) (q : Nat) (v : Value) (qf : Nat) : Prop :=
 (K = .nil ∧ qf = q) ∨ (K ≠ .nil ∧ ∃ b n cap, v = .slice (some ⟨b, 0, none⟩) n cap ∧ qf = zi8 w K b 0)
theorem nest_put {w w' : World} {N : Nat → Prop} {q qf : Nat} {L O : List Pl.Nd} {K : Pl.Fx} {v : Value} (h1 : zn9 w K q v qf) (hl : layX w N K v) (hq : ownM w q L) (ha : apart w q K v) (g : w.grownBy w' (some qf)) (hO : ownM w' qf O) :
  ∃ L' K', Pl.setF O (.cons L K .nil) = .cons L' K' .nil ∧ ownM w' q L' ∧ layX w' N K' v ∧ K'.len = K.len := by
 rcases h1 with ⟨rfl, rfl⟩ | ⟨hK, b, n, cap, rfl, hf⟩
 ·obtain ⟨a, cap, rfl, -⟩ := hl
  exact ⟨O, .nil, rfl, hO, ⟨a, cap, rfl, .inl rfl⟩, rfl⟩
 ·obtain ⟨a, cap', e1, h2⟩ := hl
  injection e1 with e1 e2 e3
  subst e1 e2 e3
  rcases h2 with h2 | ⟨b', e1, h3, h4⟩
  ·exact absurd h2 hK
  cases e1
  have ho : (q :: zk9 w K b 0).Pairwise (· < ·) := ha
  obtain ⟨r1, r2, r3⟩ := row_put g hO K b 0 hK h4 (List.pairwise_cons.1 ho).2 hf
  have hnq : q ≠ qf := fun e => by
   have := (List.pairwise_cons.1 ho).1 qf r3
   omega
  refine ⟨L, Pl.setF O K, ?_, hq.grown g (fun e => hnq (Option.some.inj e)), ⟨_, cap, by rw [Pl.zx3], .inr ⟨b, rfl, by rw [Pl.zx3]; exact h3, r1⟩⟩, Pl.zx3 O K⟩
  cases K with
  | nil => exact absurd rfl hK
  | cons L1 k1 m1 => rfl
end Mem
end Go.Proofs.YtppmlbofhghghaaGreatDoor

namespace Go.Proofs.YtppmlbofhghghaaGreatDoor
open Go.RowKit
namespace yb8
theorem is_map (b : Nat) (w : World) : (Instr.typeAssert (.iface 101 (.map (some b))) 221 101 true).run Tryz.prog w = .ok (.tuple #[.map (some b), .bool true]) w := by kernel_rfl
theorem no_map (a : Option Addr) (n c : Nat) (w : World) : (Instr.typeAssert (.iface 194 (.slice a n c)) 221 101 true).run Tryz.prog w = .ok (.tuple #[.map none, .bool false]) w := by kernel_rfl
theorem is_over (a : Option Addr) (n c : Nat) (w : World) : (Instr.typeAssert (.iface 194 (.slice a n c)) 221 194 true).run Tryz.prog w = .ok (.tuple #[.slice a n c, .bool true]) w := by kernel_rfl
set_option maxRecDepth 100000 in
theorem in_map (b : Nat) (w : World) : Calls Tryz.prog 165 #[zi0.layV b] w fun e w' => e = .returned (.map (some b)) ∧ w' = w := by
 unfold zi0.layV
 have h1 := is_map b
 go_enter Tryz.func165, Tryz.ntmps165
 go_wp2
 go_ret
 exact ⟨rfl, rfl⟩
end yb8
end Go.Proofs.YtppmlbofhghghaaGreatDoor

namespace Go.Proofs.YtppmlbofhghghaaGreatDoor
open Go.RowKit
namespace zk7
set_option linter.unusedSimpArgs false in
set_option maxRecDepth 100000 in
set_option maxHeartbeats 2000000 in
theorem atO_any (B : Nat) (v : Value) (Bs : List Nat) (Ls : List (List Pl.Nd)) (p : ByteArray) (w : World) (hov : zi0.Ov w B v Bs Ls) (h4 : Ls.length ≤ 4) (htr : ∀ L ∈ Ls, Pl.za5 L = true) (hp : p.size ≤ 1048576) :
  Calls Tryz.prog 188 #[v, .string p] w fun e w' => e = .returned (.tuple #[(Pl.zd0 Ls p).node.val, .bool (Pl.zd0 Ls p).told]) ∧ Below w.heap.size w w' := by
 have b0 : Below w.heap.size w (w.alloc (.cells #[.string ⟨#[]⟩, .int .i64 0, .string ⟨#[]⟩, .int .i64 0, .int .i64 0] 47)) := (Below.refl _ _).alloc (Nat.le_refl _) _
 have hs := hide (seen_any B v Bs Ls p _ (hov.call b0) h4 htr hp)
 have HL : Hid ((Pl.zd0 Ls p).have'.length = 4) := Pl.walk_len Ls Ls.length _
 generalize Pl.zd0 Ls p = S at hs HL ⊢
 obtain ⟨tt, ⟨sp, sk, sd, st, sm⟩, sh⟩ := S
 obtain ⟨e0, e1, e2, e3, rfl⟩ : ∃ h0 h1 h2 h3, sh = [h0, h1, h2, h3] := by
  match sh, za HL with
  | [a, b, c, d], _ => exact ⟨a, b, c, d, rfl⟩
 rw [show (Pl.Sg.cs ⟨tt, ⟨sp, sk, sd, st, sm⟩, [e0, e1, e2, e3]⟩).toArray = #[.bool tt, .string sp, .int .i64 sk, .string sd, .int .i64 st, .int .i64 sm, .bool e0, .bool e1, .bool e2, .bool e3] from rfl] at hs
 have V0 := Mem.Blk.new w #[.string ⟨#[]⟩, .int .i64 0, .string ⟨#[]⟩, .int .i64 0, .int .i64 0] 47
 obtain ⟨a, cap, rfl⟩ := zu3 hov
 clear hov HL
 go_enter Tryz.func188, Tryz.ntmps188
 go_wp2_with fail
 refine (za hs).mono ?_
 rintro e w1 ⟨rfl, b1⟩
 have b2 := b0.trans (b1.mono b0.size)
 have b3 := b2.alloc b2.size (.cells #[.bool tt, .string sp, .int .i64 sk, .string sd, .int .i64 st, .int .i64 sm, .bool e0, .bool e1, .bool e2, .bool e3] 241)
 have V3 := (V0.call b1).alloc (.cells #[.bool tt, .string sp, .int .i64 sk, .string sd, .int .i64 st, .int .i64 sm, .bool e0, .bool e1, .bool e2, .bool e3] 241)
 have S3 := Mem.Blk.new w1 #[.bool tt, .string sp, .int .i64 sk, .string sd, .int .i64 st, .int .i64 sm, .bool e0, .bool e1, .bool e2, .bool e3] 241
 have hlt : w.heap.size < w1.heap.size := (V0.call b1).lt
 have hne : ¬ w.heap.size = w1.heap.size := by omega
 have hne2 : ¬ w1.heap.size = w.heap.size := by omega
 have V1 := V0.call b1
 have k0 := V1.cell 0
 have h0 := V1.fr 0
 have k1 := V1.cell 1
 have h1 := V1.fr 1
 have k2 := V1.cell 2
 have h2 := V1.fr 2
 have k3 := V1.cell 3
 have h3 := V1.fr 3
 have k4 := V1.cell 4
 have h4 := V1.fr 4
 simp only [kA0, kA1, kA2] at k0 k1 k2 k3 k4
 have c0 := V3.cell 0
 have c1 := V3.cell 1
 have c2 := V3.cell 2
 have c3 := V3.cell 3
 have c4 := V3.cell 4
 have f0 := V3.fr 0
 have f1 := V3.fr 1
 have f2 := V3.fr 2
 have f3 := V3.fr 3
 have f4 := V3.fr 4
 have d0 := S3.cell 0
 have d1 := S3.cell 1
 have d2 := S3.cell 2
 have d3 := S3.cell 3
 have d4 := S3.cell 4
 have d5 := S3.cell 5
 simp only [kA0, kA1, kA2] at c0 c1 c2 c3 c4 d0 d1 d2 d3 d4 d5
 have V4 : Mem.Blk ((((((w1.setCell ⟨w.heap.size, 0, none⟩ (.string sp)).setCell ⟨w.heap.size, 1, none⟩ (.int .i64 sk)).setCell ⟨w.heap.size, 2, none⟩ (.string sd)).setCell ⟨w.heap.size, 3, none⟩ (.int .i64 st)).setCell ⟨w.heap.size, 4, none⟩ (.int .i64 sm)).alloc (.cells #[.bool tt, .string sp, .int .i64 sk, .string sd, .int .i64 st, .int .i64 sm, .bool e0, .bool e1, .bool e2, .bool e3] 241)).drew w.heap.size #[.string sp, .int .i64 sk, .string sd, .int .i64 st, .int .i64 sm] 47 := by
  have h := ((((((V1.put 0 (.string sp)).put 1 (.int .i64 sk)).put 2 (.string sd)).put 3 (.int .i64 st)).put 4 (.int .i64 sm))).alloc (.cells #[.bool tt, .string sp, .int .i64 sk, .string sd, .int .i64 st, .int .i64 sm, .bool e0, .bool e1, .bool e2, .bool e3] 241)
  simp only [kB3] at h
  exact h
 have B4 : Below w.heap.size w ((((((w1.setCell ⟨w.heap.size, 0, none⟩ (.string sp)).setCell ⟨w.heap.size, 1, none⟩ (.int .i64 sk)).setCell ⟨w.heap.size, 2, none⟩ (.string sd)).setCell ⟨w.heap.size, 3, none⟩ (.int .i64 st)).setCell ⟨w.heap.size, 4, none⟩ (.int .i64 sm)).alloc (.cells #[.bool tt, .string sp, .int .i64 sk, .string sd, .int .i64 st, .int .i64 sm, .bool e0, .bool e1, .bool e2, .bool e3] 241)).drew := by
  have h : Below w.heap.size w ((((((w1.setCell ⟨w.heap.size, 0, none⟩ (.string sp)).setCell ⟨w.heap.size, 1, none⟩ (.int .i64 sk)).setCell ⟨w.heap.size, 2, none⟩ (.string sd)).setCell ⟨w.heap.size, 3, none⟩ (.int .i64 st)).setCell ⟨w.heap.size, 4, none⟩ (.int .i64 sm)).alloc (.cells #[.bool tt, .string sp, .int .i64 sk, .string sd, .int .i64 st, .int .i64 sm, .bool e0, .bool e1, .bool e2, .bool e3] 241)) := (((((b2.setCell (p := ⟨w.heap.size, 0, none⟩) (Nat.le_refl _) (.string sp)).setCell (p := ⟨w.heap.size, 1, none⟩) (Nat.le_refl _) (.int .i64 sk)).setCell (p := ⟨w.heap.size, 2, none⟩) (Nat.le_refl _) (.string sd)).setCell (p := ⟨w.heap.size, 3, none⟩) (Nat.le_refl _) (.int .i64 st)).setCell (p := ⟨w.heap.size, 4, none⟩) (Nat.le_refl _) (.int .i64 sm)).alloc ((((((b2.setCell (p := ⟨w.heap.size, 0, none⟩) (Nat.le_refl _) (.string sp)).setCell (p := ⟨w.heap.size, 1, none⟩) (Nat.le_refl _) (.int .i64 sk)).setCell (p := ⟨w.heap.size, 2, none⟩) (Nat.le_refl _) (.string sd)).setCell (p := ⟨w.heap.size, 3, none⟩) (Nat.le_refl _) (.int .i64 st)).setCell (p := ⟨w.heap.size, 4, none⟩) (Nat.le_refl _) (.int .i64 sm))).size _
  exact ⟨h.os, h.tape, h.output, h.size, h.block⟩
 have HV := hide V4
 have HB := hide B4
 clear hs b0 b1 b2 b3 V0 V1 V3 V4 S3 B4
 go_wp2_with fail
 go_region
 go_wp2
 have r0 := (za HV).cell 0
 have r1 := (za HV).cell 1
 have r2 := (za HV).cell 2
 have r3 := (za HV).cell 3
 have r4 := (za HV).cell 4
 simp only [kA0, kA1, kA2] at r0 r1 r2 r3 r4
 exact bodyPost_ret (v := .tuple #[.agg #[.string sp, .int .i64 sk, .string sd, .int .i64 st, .int .i64 sm], .bool tt]) (by simp [results, Tryz.results188, go_sem, r0, r1, r2, r3, r4]) rfl ⟨rfl, za HB⟩
end zk7
end Go.Proofs.YtppmlbofhghghaaGreatDoor

namespace Go.Proofs.YtppmlbofhghghaaGreatDoor
open Go.RowKit Go.Maps
namespace yb8
structure Gk (w W : World) (Ls : List (List Pl.Nd)) (M N : Nat) (D : DataW Unit) (C : List Pl.Nd) : Prop where
 bel : Below w.heap.size w W
 map : W.ownsMap Tryz.prog 9 MapN.elem M N D
 gt : MapN.Gt Ls D C
theorem Gk.call {w W W' : World} {Ls : List (List Pl.Nd)} {M N : Nat} {D : DataW Unit} {C : List Pl.Nd} (h : Gk w W Ls M N D C) (b : Below W.heap.size W W') : Gk w W' Ls M N D C :=
 ⟨h.bel.trans (b.mono h.bel.size), zc2.zd6 h.map b, h.gt⟩
theorem Gk.grown {w W W' : World} {Ls : List (List Pl.Nd)} {M N : Nat} {D : DataW Unit} {C : List Pl.Nd} {r : Nat} (h : Gk w W Ls M N D C) (g : W.grownBy W' (some r)) (hr : w.heap.size ≤ r) (hM : M ≠ r) : Gk w W' Ls M N D C :=
 ⟨h.bel.grown g h.bel.size (fun q hq => by cases hq; exact hr), h.map.kept g (fun e => hM (Option.some.inj e)), h.gt⟩
theorem Gk.grown0 {w W W' : World} {Ls : List (List Pl.Nd)} {M N : Nat} {D : DataW Unit} {C : List Pl.Nd} (h : Gk w W Ls M N D C) (g : W.grownBy W' none) : Gk w W' Ls M N D C :=
 ⟨h.bel.grown g h.bel.size (fun q hq => by cases hq), h.map.kept g (fun e => by cases e), h.gt⟩
def Whole (w w' : World) (Ls : List (List Pl.Nd)) (M : Nat) : Prop := ∃ N D C, N ≤ 200 ∧ Gk w w' Ls M N D C ∧ ∀ n, n ∈ C ↔ Pl.zp5 Ls n
def Inner (w wr : World) (Ls : List (List Pl.Nd)) (L C : List Pl.Nd) (b r k : Nat) : Prop := ∃ (left : Lit → Bool) (cnt : Nat) (T : List Pl.Nd), wr.ranges Tryz.prog 9 MapN.elem b r 40 (MapN.mapOf L) left cnt ∧ T.length + cnt ≤ Maps.size (MapN.mapOf L) ∧ MapN.Got L T left ∧ r < wr.heap.size ∧ ∃ N1 D1 C1, N1 ≤ 40 * k + T.length ∧ Gk w wr Ls w.heap.size N1 D1 C1 ∧ (∀ n ∈ C, n ∈ C1) ∧ ∀ m ∈ T, (Pl.zd0 Ls m.path).told = true → (Pl.zd0 Ls m.path).node ∈ C1
set_option linter.unusedSimpArgs false in
set_option maxRecDepth 100000 in
set_option maxHeartbeats 2000000 in
theorem gathered_any (B : Nat) (v : Value) (Bs : List Nat) (Ls : List (List Pl.Nd)) (w : World) (hov : zi0.Ov w B v Bs Ls) (h4 : Ls.length ≤ 4) (htr : ∀ L ∈ Ls, Pl.za5 L = true) :
  Calls Tryz.prog 179 #[v] w fun e w' => e = .returned (.map (some w.heap.size)) ∧ Whole w w' Ls w.heap.size := by
 obtain ⟨a, cap, rfl⟩ := zk7.zu3 hov
 have hmm := @run_makeMap Tryz.prog
 have HOV := hide hov
 have HTR := hide htr
 have A0 : Hid (Gk w (w.alloc (.map #[] 0)) Ls w.heap.size 0 (.map []) []) := ⟨(Below.refl _ _).alloc (Nat.le_refl _) _, World.ownsMap_made w Tryz.prog 9 MapN.elem, MapN.Gt.start Ls⟩
 have HSM : Hid (∀ L ∈ Ls, L.length ≤ 40) := fun L hL => by
  have h := htr L hL
  simp only [Pl.za5, Bool.and_eq_true, decide_eq_true_eq] at h
  exact h.1
 clear hov htr
 go_enter Tryz.func179, Tryz.ntmps179
 go_wp2
 go_loopw [11] (fun i wr => ∃ k : Nat, k ≤ Ls.length ∧ i = .int .i64 (k : Int) ∧ Hid (∃ N D C, N ≤ 40 * k ∧ Gk w wr Ls w.heap.size N D C ∧ w.heap.size < wr.heap.size ∧ ∀ (j : Nat) L, j < k → Ls[j]? = some L → ∀ m ∈ L, (Pl.zd0 Ls m.path).told = true → (Pl.zd0 Ls m.path).node ∈ C)) (fun i _ => Ls.length - (intOf i).toNat)
 case atStart => exact ⟨0, Nat.zero_le _, rfl, ⟨0, _, _, Nat.le_refl _, za A0, by simp, fun j L h => absurd h (by omega)⟩⟩
 case round =>
  obtain ⟨k, hk, rfl, HA⟩ := hrel
  clear A0
  obtain ⟨N, D, C, hN, G, hMl, hall⟩ := za HA
  have KG := hide G
  have HAll := hide hall
  clear HA hall
  by_cases hlt : k < Ls.length
  ·obtain ⟨L, hL⟩ : ∃ L, Ls[k]? = some L := ⟨_, List.getElem?_eq_getElem hlt⟩
   obtain ⟨b, hb⟩ : ∃ b, Bs[k]? = some b := ⟨_, List.getElem?_eq_getElem (by rw [(za HOV).len]; exact hlt)⟩
   obtain ⟨g, rfl, c0⟩ := zk7.ov_cell ((za HOV).call G.bel) hb
   have hmap := ((za HOV).maps k b L hb hL).2
   have hbl : b < w.heap.size := hmap.lt
   have HMB := hide (zc2.zd6 hmap G.bel)
   have htL := za HTR L (List.mem_of_getElem? hL)
   have hLl := za HSM L (List.mem_of_getElem? hL)
   have HLT := hide htL
   have HCC := hide (Pl.zk4 htL)
   have HSZ := hide (MapN.zw4 (Pl.zk4 htL))
   have HG0 := hide (MapN.got_start (MapN.zj5 (Pl.zk4 htL)))
   have HENT := hide (MapN.zj5 (Pl.zk4 htL)).ent
   have HLk := hide hL
   have y1 : (k : Int) < (Ls.length : Int) := by omega
   have y2 : (0 : Int) ≤ (k : Int) := by omega
   have hin := in_map b
   unfold zi0.layV at hin
   have HIN := hide hin
   clear hin hmap htL hL hb G
   go_wp2_with fail
   refine (za HIN _).mono ?_
   rintro e wI ⟨rfl, hwI⟩
   subst wI
   clear HIN c0
   go_wp2_with (first
    | (at_range; refine wpList_range_own _ rfl _ 101 rfl 9 47 MapN.law Tryz.underlying101 _ b 40 _ rfl (za HMB) ?_; intro w0 hrg0 hg0 hs0)
    | go_in)
   go_frame
   have KG0 := hide ((za KG).grown0 hg0)
   generalize hr : wr.heap.size = r at hrg0 hs0 ⊢
   have hMr : w.heap.size < r := by omega
   have hrl : r < w0.heap.size := by omega
   clear KG hg0 hs0 HMB
   have HAT := hide (fun (c : Pl.Nd) (hc : c ∈ L) (W : World) (bw : Below w.heap.size w W) => zk7.atO_any B (.slice (some ⟨g, 0, none⟩) Ls.length cap) Bs Ls c.path W ((za HOV).call bw) h4 (za HTR) (by have := Pl.zb8 (Pl.zx9 (za HLT) hc).1; omega))
   have HTO := hide (fun (c : Pl.Nd) (hc : c ∈ L) (ht : (Pl.zd0 Ls c.path).told = true) => (⟨⟨L, List.mem_of_getElem? (za HLk), c, hc, ht, rfl⟩, Pl.zv5 (Pl.zx9 (za HLT) hc).1 (Pl.zx9 (za HLT) hc).2 ht, (by have := Pl.zb8 (Pl.zx9 (za HLT) hc).1; unfold maxLen; omega)⟩ : Pl.zp5 Ls (Pl.zd0 Ls c.path).node ∧ (Pl.zd0 Ls c.path).node.path = c.path ∧ c.path.size ≤ maxLen))
   go_loopw [5] (fun _ wr => Inner w wr Ls L C b r k)
    (fun _ wr => wr.rangeLeft b r)
   case atStart => exact ⟨_, _, [], hrg0, by simp, za HG0, hrl, ⟨N, D, C, by simpa using hN, za KG0, fun n hn => hn, fun m hm => by cases hm⟩⟩
   case round =>
    obtain ⟨left, cnt, T, hrg, hcs, HGT0, hrw, HK⟩ := hrel
    have HGT := hide HGT0
    clear HGT0
    clear hrg0 KG0 HG0 hrl
    obtain ⟨N1, D1, C1, hN1, G1, hsub, hvis⟩ := HK
    have KG1 := hide G1
    have HSB := hide hsub
    have HVI := hide hvis
    clear G1 hsub hvis
    go_wp2_with (first
     | (at_next; refine wpList_next_ranges _ rfl _ rfl 9 MapN.law MapN.elem (Value.string) (Pl.Nd.val) (fun key kl hk => Maps.keyOf_string_inv Tryz.underlying9 hk) (fun v y hv => by obtain ⟨d, ps⟩ := y; obtain ⟨n, hn, _⟩ := MapN.zu6 hv; exact ⟨n, hn⟩) b r 40 _ _ _ rfl hrg ?_ ?_)
     | go_in)
    ·intro hc0 hl0
     have hp := MapN.got_end (za HCC) (za HGT) hl0
     have HA2 : Hid (∃ N D C, N ≤ 40 * (k + 1) ∧ Gk w wr Ls w.heap.size N D C ∧ w.heap.size < wr.heap.size ∧ ∀ (j : Nat) L, j < k + 1 → Ls[j]? = some L → ∀ m ∈ L, (Pl.zd0 Ls m.path).told = true → (Pl.zd0 Ls m.path).node ∈ C) := by
      refine ⟨N1, D1, C1, ?_, za KG1, by omega, fun j L' hj hL' m hm ht => ?_⟩
      ·have h1 := hp.length_eq
       omega
      ·by_cases e : j < k
       ·exact za HSB _ (za HAll j L' e hL' m hm ht)
       ·obtain rfl : j = k := by omega
        rw [za HLk] at hL'
        cases hL'
        exact za HVI m (hp.mem_iff.2 hm) ht
     clear hp hc0 hl0 hrg HGT KG1 HSB HVI HAT HTO HENT
     go_wp2
     go_roundw
     case rel => exact ⟨k + 1, by omega, by go_num, HA2⟩
     case measure => simp [intOf]; omega
    ·intro x c kl yd yp w1 cnt1 hkey hlk hR hat hrg1 hlt1 hg1 hs1 hen
     have ek : kl = MapN.key x := MapN.keyOf_inv hkey
     have ey : yd = MapN.dat c := by rw [MapN.zi6] at hR; cases hR; rfl
     subst ek ey
     obtain ⟨hcC, rfl⟩ := za HENT x c hat
     have HG2 := hide (MapN.got_step (za HCC) (za HGT) hcC hlk)
     have KG2 := hide ((za KG1).grown hg1 (by omega) (by omega))
     have HRG1 := hide hrg1
     have HLE := hide (hrg.left_eq)
     have hat2 := hide (za HAT c hcC w1 (za KG2).bel)
     have hto := hide (za HTO c hcC)
     have hr1 : r < w1.heap.size := by omega
     have HVC : Hid (∀ C2 : List Pl.Nd, (∀ n ∈ C1, n ∈ C2) → ((Pl.zd0 Ls c.path).told = true → (Pl.zd0 Ls c.path).node ∈ C2) → ∀ m ∈ T ++ [c], (Pl.zd0 Ls m.path).told = true → (Pl.zd0 Ls m.path).node ∈ C2) := fun C2 h1 h2 m hm ht => by
      rcases List.mem_append.1 hm with h3 | h3
      ·exact h1 _ (za HVI m h3 ht)
      ·simp at h3; subst h3; exact h2 ht
     clear hat hR hkey hlk hcC HGT hg1 hs1 hrg1 hrg HENT KG1 HVI
     obtain ⟨cp, ck, cd, ct, cm⟩ := c
     simp only [Pl.Nd.val] at hen hat2 hto HVC HG2 HRG1 ⊢
     generalize hS : Pl.zd0 Ls cp = S at hat2 hto HVC
     obtain ⟨tt, ⟨sp, sk, sd, st, sm⟩, sh⟩ := S
     simp only at hat2 hto HVC
     go_wp2_with fail
     refine (za hat2).mono ?_
     rintro e w2 ⟨rfl, b2⟩
     simp only [Pl.Nd.val]
     have KG3 := hide ((za KG2).call b2)
     have HRG2 := hide ((za HRG1).kept (Mem.zc9 b2 none) (by simp) (by simp))
     have hr2 : r < w2.heap.size := by have := b2.size; omega
     clear KG2 HRG1 hat2 b2 hen hr1
     have bA : Below w2.heap.size w2 (w2.alloc (.cells #[.string sp, .int .i64 sk, .string sd, .int .i64 st, .int .i64 sm] 47)) := (Below.refl _ _).alloc (Nat.le_refl _) _
     have KG4 := hide ((za KG3).call bA)
     have HRG4 := hide ((za HRG2).alloc (.cells #[.string sp, .int .i64 sk, .string sd, .int .i64 st, .int .i64 sm] 47))
     cases tt
     ·have HK4 : Hid (∃ N1 D1 C1, N1 ≤ 40 * k + (T ++ [(⟨cp, ck, cd, ct, cm⟩ : Pl.Nd)]).length ∧ Gk w (w2.alloc (.cells #[.string sp, .int .i64 sk, .string sd, .int .i64 st, .int .i64 sm] 47)) Ls w.heap.size N1 D1 C1 ∧ (∀ n ∈ C, n ∈ C1) ∧ ∀ m ∈ T ++ [(⟨cp, ck, cd, ct, cm⟩ : Pl.Nd)], (Pl.zd0 Ls m.path).told = true → (Pl.zd0 Ls m.path).node ∈ C1) :=
       ⟨N1, D1, C1, by rw [List.length_append]; omega, za KG4, za HSB, za HVC C1 (fun n hn => hn) (fun h => by cases h)⟩
      have hr4 : r < (w2.alloc (.cells #[.string sp, .int .i64 sk, .string sd, .int .i64 st, .int .i64 sm] 47)).heap.size := by simp; omega
      clear KG3 KG4 HRG2 HSB HVC hto bA HAT HTO
      go_wp2
      go_roundw
      case rel => exact ⟨_, cnt1, T ++ [⟨cp, ck, cd, ct, cm⟩], za HRG4, by simp; omega, za HG2, hr4, za HK4⟩
      case measure => rw [(za HRG4).left_eq, za HLE]; exact hlt1
     ·obtain ⟨hT, hpe, hps⟩ := za hto (by trivial)
      (try simp only at hpe)
      subst hpe
      obtain ⟨hgt, hmem⟩ := (za KG4).gt.put (za HTR) hT
      have HGP := hide hgt
      have HME := hide hmem
      have hkey := MapN.zi9 hps
      have NB := Mem.Blk.new w2 #[.string sp, .int .i64 sk, .string sd, .int .i64 st, .int .i64 sm] 47
      have n0 := NB.cell 0
      have n1 := NB.cell 1
      have n2 := NB.cell 2
      have n3 := NB.cell 3
      have n4 := NB.cell 4
      simp only [kA0, kA1, kA2] at n0 n1 n2 n3 n4
      have hMr2 : ¬ w.heap.size = r := by omega
      have hNl : N1 ≤ 200 := by
       have h1 := hcs
       rw [za HSZ] at h1
       omega
      clear KG3 HRG2 hto bA HAT HTO hgt hmem NB hT
      go_wp2_with (first | (at_mapUpdate; refine wpList_mapUpdate_own _ rfl _ _ _ 101 rfl 9 47 MapN.law Tryz.underlying101 _ w.heap.size N1 _ rfl (za KG4).map (by unfold maxLen; omega) _ _ _ rfl rfl hkey _ [] (MapN.zi6 ⟨sp, sk, sd, st, sm⟩) ?_; intro wZ hownZ hgrowZ) | fail)
      have HRZ := hide ((za HRG4).kept hgrowZ (fun e => by have := Option.some.inj e; omega) (fun e => by have := Option.some.inj e; omega))
      have HK4 : Hid (∃ N1 D1 C1, N1 ≤ 40 * k + (T ++ [(⟨sp, ck, cd, ct, cm⟩ : Pl.Nd)]).length ∧ Gk w wZ Ls w.heap.size N1 D1 C1 ∧ (∀ n ∈ C, n ∈ C1) ∧ ∀ m ∈ T ++ [(⟨sp, ck, cd, ct, cm⟩ : Pl.Nd)], (Pl.zd0 Ls m.path).told = true → (Pl.zd0 Ls m.path).node ∈ C1) :=
       ⟨N1 + 1, _, MapN.putC C1 ⟨sp, sk, sd, st, sm⟩, by rw [List.length_append]; simp; omega, ⟨(za KG4).bel.grown hgrowZ (za KG4).bel.size (fun q hq => by cases hq; exact Nat.le_refl _), hownZ, za HGP⟩, fun n hn => (za HME n).2 (.inl (za HSB n hn)), za HVC _ (fun n hn => (za HME n).2 (.inl hn)) (fun _ => (za HME _).2 (.inr rfl))⟩
      have hr4 : r < wZ.heap.size := by have h1 := hgrowZ.size; simp at h1; omega
      clear KG4 HRG4 HSB HVC HGP HME hownZ hgrowZ n0 n1 n2 n3 n4
      go_wp2
      go_roundw
      case rel => exact ⟨_, cnt1, T ++ [⟨sp, ck, cd, ct, cm⟩], za HRZ, by simp; omega, za HG2, hr4, za HK4⟩
      case measure => rw [(za HRZ).left_eq, za HLE]; exact hlt1
  ·obtain rfl : k = Ls.length := by omega
   have y1 : ¬ ((Ls.length : Int) < (Ls.length : Int)) := by omega
   go_wp2
   go_ret
   refine ⟨rfl, ⟨N, D, C, by omega, za KG, fun n => ⟨(za KG).gt.sub n, fun hn => ?_⟩⟩⟩
   obtain ⟨L, hL, m, hm, h1, h2⟩ := hn
   obtain ⟨j, hj⟩ := List.mem_iff_getElem?.1 hL
   rw [h2]
   exact za HAll j L (List.getElem?_eq_some_iff.1 hj).1 hj m hm h1
end yb8
end Go.Proofs.YtppmlbofhghghaaGreatDoor

namespace Go.Proofs.YtppmlbofhghghaaGreatDoor
open Go.RowKit
namespace zl7
structure Errs4 (w : World) (u0 u1 u2 u3 : TypeId) (x0 x1 x2 x3 : Value) : Prop where
 c0 : w.cell? ⟨0, 0, none⟩ = some (.iface u0 x0)
 three : zc2.Errs w u1 u2 u3 x1 x2 x3
theorem Errs4.call {w w' : World} {u0 u1 u2 u3 : TypeId} {x0 x1 x2 x3 : Value} (h : Errs4 w u0 u1 u2 u3 x0 x1 x2 x3) (b : Below w.heap.size w w') : Errs4 w' u0 u1 u2 u3 x0 x1 x2 x3 :=
 ⟨(b.cell (p := ⟨_, 0, none⟩) (World.block_lt_of_cell? w ⟨_, 0, none⟩ h.c0)).trans h.c0, h.three.call b⟩
end zl7
end Go.Proofs.YtppmlbofhghghaaGreatDoor

namespace Go.Proofs.YtppmlbofhghghaaGreatDoor
open Go.RowKit Go.Extern.Stop Go.Stop Go.Extern
namespace WIs
theorem typeOfE (v : Value) (w : World) : (ReflectliteType.typeOf #[.iface 248 v]).run Tryz.prog w = .ok (.iface 183 (.agg #[.pointer (some ⟨6, 248, none⟩)])) w := by kernel_rfl
theorem yl9 : ∃ F, find Tryz.f217 = some F ∧ ∀ w, (F #[.agg #[.pointer (some ⟨6, 248, none⟩)]]).run Tryz.prog w = .ok (.bool true) w :=
 ⟨ReflectliteType.method fun t => do Rtype.noPackHeld "Comparable" t; pure (.bool (← typeInfo t).comparable), by kernel_rfl, fun w => by kernel_rfl⟩
theorem methodC (v : Value) (w : World) : (Go.method 384 183 v "Comparable").run Tryz.prog w = .ok (217, v) w := by kernel_rfl
theorem compI : (Tryz.prog.info? 248).map (·.comparable) = some true := by kernel_rfl
theorem sizeI : (Tryz.prog.info? 273).map (·.size) = some 1 := by kernel_rfl
theorem noIs (v : Value) (xT : TypeId) (w : World) : (Instr.typeAssert (.iface 248 v) xT 185 true).run Tryz.prog w = .ok (.tuple #[.nilIface, .bool false]) w := run_typeAssert_lacksB Tryz.underlying185 (by kernel_rfl) (by kernel_rfl) v xT w
theorem noUnwrap (v : Value) (xT : TypeId) (w : World) : (Instr.typeAssert (.iface 248 v) xT 188 true).run Tryz.prog w = .ok (.tuple #[.nilIface, .bool false]) w := run_typeAssert_lacksB Tryz.underlying188 (by kernel_rfl) (by kernel_rfl) v xT w
theorem noUnwraps (v : Value) (xT : TypeId) (w : World) : (Instr.typeAssert (.iface 248 v) xT 190 true).run Tryz.prog w = .ok (.tuple #[.nilIface, .bool false]) w := run_typeAssert_lacksB Tryz.underlying190 (by kernel_rfl) (by kernel_rfl) v xT w
theorem same (a : Addr) (w : World) :
  Calls Tryz.prog 115 #[.iface 248 (.pointer (some a)), .iface 248 (.pointer (some a))] w fun e w' => e = .returned (.bool true) ∧ w' = w := by
 obtain ⟨i, hi, hcmp⟩ := Option.map_eq_some_iff.1 compI
 obtain ⟨j, hj, hjs⟩ := Option.map_eq_some_iff.1 sizeI
 have hT := @run_callFunc_extern Tryz.prog 139 _ ReflectliteType.typeOf Tryz.func139 (by kernel_rfl) (by kernel_rfl) (by kernel_rfl) (by kernel_rfl)
 obtain ⟨F, hF, cT⟩ := yl9
 have hC := @run_callFunc_extern Tryz.prog 217 _ F Tryz.func217 (by kernel_rfl) (by kernel_rfl) (by kernel_rfl) hF
 have tT := typeOfE
 have mR := methodC
 have heq := run_eql_iface_ptr_same (P := Tryz.prog) w a Tryz.underlying108 Tryz.underlying248 hi hcmp hj
 go_enter Tryz.func115, Tryz.ntmps115
 go_wp2
 refine wp_loop_rounds 1 ?_
 rw [rounds_succ]
 go_wp2
 go_ret
 exact ⟨rfl, rfl⟩
theorem other (a b : Addr) (ca cb : Array Value) (ta tb : TypeId) (w : World) (hne : a ≠ b) (ha : w.heap[a.block]? = some (.cells ca ta (0, 0))) (hb : w.heap[b.block]? = some (.cells cb tb (0, 0))) :
  Calls Tryz.prog 115 #[.iface 248 (.pointer (some a)), .iface 248 (.pointer (some b))] w fun e w' => e = .returned (.bool false) ∧ w' = w := by
 obtain ⟨i, hi, hcmp⟩ := Option.map_eq_some_iff.1 compI
 obtain ⟨j, hj, hjs⟩ := Option.map_eq_some_iff.1 sizeI
 have hT := @run_callFunc_extern Tryz.prog 139 _ ReflectliteType.typeOf Tryz.func139 (by kernel_rfl) (by kernel_rfl) (by kernel_rfl) (by kernel_rfl)
 obtain ⟨F, hF, cT⟩ := yl9
 have hC := @run_callFunc_extern Tryz.prog 217 _ F Tryz.func217 (by kernel_rfl) (by kernel_rfl) (by kernel_rfl) hF
 have tT := typeOfE
 have mR := methodC
 have nE := noIs
 have uE := noUnwrap
 have vE := noUnwraps
 have heq := run_eql_iface_ptr_other (P := Tryz.prog) w Tryz.underlying108 Tryz.underlying248 hi hcmp hj (by rw [hjs]; decide) hne ha hb
 go_enter Tryz.func115, Tryz.ntmps115
 go_wp2
 refine wp_loop_rounds 1 ?_
 rw [rounds_succ]
 go_wp2
 go_ret
 exact ⟨rfl, rfl⟩
end WIs
end Go.Proofs.YtppmlbofhghghaaGreatDoor

namespace Go.Proofs.YtppmlbofhghghaaGreatDoor
open Go.RowKit
namespace WIs
structure Six (w : World) (x : Nat → Addr) : Prop where
 c0 : w.cell? ⟨0, 0, none⟩ = some (.iface 248 (.pointer (some (x 0))))
 c1 : w.cell? ⟨1, 0, none⟩ = some (.iface 248 (.pointer (some (x 1))))
 c2 : w.cell? ⟨2, 0, none⟩ = some (.iface 248 (.pointer (some (x 2))))
 c3 : w.cell? ⟨3, 0, none⟩ = some (.iface 248 (.pointer (some (x 3))))
 c4 : w.cell? ⟨4, 0, none⟩ = some (.iface 248 (.pointer (some (x 4))))
 c5 : w.cell? ⟨5, 0, none⟩ = some (.iface 248 (.pointer (some (x 5))))
 row : ∀ k, k < 6 → ∃ c t, w.heap[(x k).block]? = some (.cells c t (0, 0))
 apart : ∀ i j, i < 6 → j < 6 → i ≠ j → x i ≠ x j
theorem Six.call {w w' : World} {x : Nat → Addr} (h : Six w x) (b : Below w.heap.size w w') : Six w' x :=
 ⟨(b.cell (p := ⟨_, 0, none⟩) (World.block_lt_of_cell? w ⟨_, 0, none⟩ h.c0)).trans h.c0, (b.cell (p := ⟨_, 0, none⟩) (World.block_lt_of_cell? w ⟨_, 0, none⟩ h.c1)).trans h.c1, (b.cell (p := ⟨_, 0, none⟩) (World.block_lt_of_cell? w ⟨_, 0, none⟩ h.c2)).trans h.c2, (b.cell (p := ⟨_, 0, none⟩) (World.block_lt_of_cell? w ⟨_, 0, none⟩ h.c3)).trans h.c3, (b.cell (p := ⟨_, 0, none⟩) (World.block_lt_of_cell? w ⟨_, 0, none⟩ h.c4)).trans h.c4, (b.cell (p := ⟨_, 0, none⟩) (World.block_lt_of_cell? w ⟨_, 0, none⟩ h.c5)).trans h.c5,
  fun k hk => by
   obtain ⟨c, t, hr⟩ := h.row k hk
   exact ⟨c, t, (b.block _ (Array.getElem?_eq_some_iff.1 hr).1).trans hr⟩, h.apart⟩
theorem Six.errs {w : World} {x : Nat → Addr} (h : Six w x) : zc2.Errs w 248 248 248 (.pointer (some (x 1))) (.pointer (some (x 2))) (.pointer (some (x 3))) := ⟨h.c1, h.c2, h.c3⟩
theorem Six.other {w : World} {x : Nat → Addr} (h : Six w x) (i j : Nat) (hi : i < 6) (hj : j < 6) (hij : i ≠ j) :
  Calls Tryz.prog 115 #[.iface 248 (.pointer (some (x i))), .iface 248 (.pointer (some (x j)))] w fun e w' => e = .returned (.bool false) ∧ w' = w := by
 obtain ⟨c1, t1, h1⟩ := h.row i hi
 obtain ⟨c2, t2, h2⟩ := h.row j hj
 exact WIs.other (x i) (x j) c1 c2 t1 t2 w (h.apart i j hi hj hij) h1 h2
def codeOf : Nat → Int
 | 0 => 2
 | 1 => 1
 | 2 => 6
 | 3 => 12
 | 4 => 11
 | _ => 9
set_option maxRecDepth 100000 in
set_option maxHeartbeats 400000 in
theorem code0 (x : Nat → Addr) (w : World) (h : Six w x) :
  Calls Tryz.prog 76 #[.iface 248 (.pointer (some (x 0)))] w fun e w' => e = .returned (.int .i64 2) ∧ w' = w := by
 have k0 := h.c0
 have k2 := h.c2
 have k3 := h.c3
 have k4 := h.c4
 have k5 := h.c5
 have H := hide h
 clear h
 go_enter Tryz.func76, Tryz.ntmps76
 go_wp2_with fail
 refine (WIs.same (x 0) _).mono ?_
 rintro e w1 ⟨rfl, rfl⟩
 go_wp2
 go_ret
 exact ⟨rfl, rfl⟩
set_option maxRecDepth 100000 in
set_option maxHeartbeats 400000 in
theorem code1 (x : Nat → Addr) (w : World) (h : Six w x) :
  Calls Tryz.prog 76 #[.iface 248 (.pointer (some (x 1)))] w fun e w' => e = .returned (.int .i64 1) ∧ w' = w := by
 have k0 := h.c0
 have k2 := h.c2
 have k3 := h.c3
 have k4 := h.c4
 have k5 := h.c5
 have H := hide h
 clear h
 go_enter Tryz.func76, Tryz.ntmps76
 go_wp2_with fail
 refine ((za H).other 1 0 (by decide) (by decide) (by decide)).mono ?_
 rintro e w1 ⟨rfl, rfl⟩
 go_wp2_with fail
 refine ((za H).other 1 2 (by decide) (by decide) (by decide)).mono ?_
 rintro e w3 ⟨rfl, rfl⟩
 go_wp2_with fail
 refine ((za H).other 1 3 (by decide) (by decide) (by decide)).mono ?_
 rintro e w4 ⟨rfl, rfl⟩
 go_wp2_with fail
 refine ((za H).other 1 4 (by decide) (by decide) (by decide)).mono ?_
 rintro e w5 ⟨rfl, rfl⟩
 go_wp2_with fail
 refine ((za H).other 1 5 (by decide) (by decide) (by decide)).mono ?_
 rintro e w6 ⟨rfl, rfl⟩
 go_wp2
 go_ret
 exact ⟨rfl, rfl⟩
set_option maxRecDepth 100000 in
set_option maxHeartbeats 400000 in
theorem code2 (x : Nat → Addr) (w : World) (h : Six w x) :
  Calls Tryz.prog 76 #[.iface 248 (.pointer (some (x 2)))] w fun e w' => e = .returned (.int .i64 6) ∧ w' = w := by
 have k0 := h.c0
 have k2 := h.c2
 have k3 := h.c3
 have k4 := h.c4
 have k5 := h.c5
 have H := hide h
 clear h
 go_enter Tryz.func76, Tryz.ntmps76
 go_wp2_with fail
 refine ((za H).other 2 0 (by decide) (by decide) (by decide)).mono ?_
 rintro e w1 ⟨rfl, rfl⟩
 go_wp2_with fail
 refine (WIs.same (x 2) _).mono ?_
 rintro e w1 ⟨rfl, rfl⟩
 go_wp2
 go_ret
 exact ⟨rfl, rfl⟩
set_option maxRecDepth 100000 in
set_option maxHeartbeats 400000 in
theorem code3 (x : Nat → Addr) (w : World) (h : Six w x) :
  Calls Tryz.prog 76 #[.iface 248 (.pointer (some (x 3)))] w fun e w' => e = .returned (.int .i64 12) ∧ w' = w := by
 have k0 := h.c0
 have k2 := h.c2
 have k3 := h.c3
 have k4 := h.c4
 have k5 := h.c5
 have H := hide h
 clear h
 go_enter Tryz.func76, Tryz.ntmps76
 go_wp2_with fail
 refine ((za H).other 3 0 (by decide) (by decide) (by decide)).mono ?_
 rintro e w1 ⟨rfl, rfl⟩
 go_wp2_with fail
 refine ((za H).other 3 2 (by decide) (by decide) (by decide)).mono ?_
 rintro e w3 ⟨rfl, rfl⟩
 go_wp2_with fail
 refine (WIs.same (x 3) _).mono ?_
 rintro e w1 ⟨rfl, rfl⟩
 go_wp2
 go_ret
 exact ⟨rfl, rfl⟩
set_option maxRecDepth 100000 in
set_option maxHeartbeats 400000 in
theorem code4 (x : Nat → Addr) (w : World) (h : Six w x) :
  Calls Tryz.prog 76 #[.iface 248 (.pointer (some (x 4)))] w fun e w' => e = .returned (.int .i64 11) ∧ w' = w := by
 have k0 := h.c0
 have k2 := h.c2
 have k3 := h.c3
 have k4 := h.c4
 have k5 := h.c5
 have H := hide h
 clear h
 go_enter Tryz.func76, Tryz.ntmps76
 go_wp2_with fail
 refine ((za H).other 4 0 (by decide) (by decide) (by decide)).mono ?_
 rintro e w1 ⟨rfl, rfl⟩
 go_wp2_with fail
 refine ((za H).other 4 2 (by decide) (by decide) (by decide)).mono ?_
 rintro e w3 ⟨rfl, rfl⟩
 go_wp2_with fail
 refine ((za H).other 4 3 (by decide) (by decide) (by decide)).mono ?_
 rintro e w4 ⟨rfl, rfl⟩
 go_wp2_with fail
 refine (WIs.same (x 4) _).mono ?_
 rintro e w1 ⟨rfl, rfl⟩
 go_wp2
 go_ret
 exact ⟨rfl, rfl⟩
set_option maxRecDepth 100000 in
set_option maxHeartbeats 400000 in
theorem code5 (x : Nat → Addr) (w : World) (h : Six w x) :
  Calls Tryz.prog 76 #[.iface 248 (.pointer (some (x 5)))] w fun e w' => e = .returned (.int .i64 9) ∧ w' = w := by
 have k0 := h.c0
 have k2 := h.c2
 have k3 := h.c3
 have k4 := h.c4
 have k5 := h.c5
 have H := hide h
 clear h
 go_enter Tryz.func76, Tryz.ntmps76
 go_wp2_with fail
 refine ((za H).other 5 0 (by decide) (by decide) (by decide)).mono ?_
 rintro e w1 ⟨rfl, rfl⟩
 go_wp2_with fail
 refine ((za H).other 5 2 (by decide) (by decide) (by decide)).mono ?_
 rintro e w3 ⟨rfl, rfl⟩
 go_wp2_with fail
 refine ((za H).other 5 3 (by decide) (by decide) (by decide)).mono ?_
 rintro e w4 ⟨rfl, rfl⟩
 go_wp2_with fail
 refine ((za H).other 5 4 (by decide) (by decide) (by decide)).mono ?_
 rintro e w5 ⟨rfl, rfl⟩
 go_wp2_with fail
 refine (WIs.same (x 5) _).mono ?_
 rintro e w1 ⟨rfl, rfl⟩
 go_wp2
 go_ret
 exact ⟨rfl, rfl⟩
end WIs
end Go.Proofs.YtppmlbofhghghaaGreatDoor

