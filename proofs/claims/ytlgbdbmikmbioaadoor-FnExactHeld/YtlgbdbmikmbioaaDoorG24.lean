/- Several texts of one claim in one file: MapN, MemFx, MemMaps, MemNestV. -/
import Derived.Test.YtlgbdbmikmbioaaDoorPlainTree
import Derived.Test.YtlgbdbmikmbioaaDoorProg
import Derived.Test.YtlgbdbmikmbioaaDoorG05
import Derived.Maps.OwnSet
import Derived.WalkKit
import Derived.Test.YtlgbdbmikmbioaaDoorG23
import Derived.Test.YtlgbdbmikmbioaaDoorG04
import Derived.Test.YtlgbdbmikmbioaaDoorG09
import Derived.Test.YtlgbdbmikmbioaaDoorG15
/- A map from paths to nodes: what it reads as. -/
namespace Go.Proofs.YtlgbdbmikmbioaaDoor
open Go.RowKit Go.Maps
namespace MapN
def key (p : ByteArray) : Lit := .string p.data.toList
def dat (n : Pl.Nd) : DataW Unit := .agg [.lit (.string n.path.data.toList), .lit (.int .i64 n.kind), .lit (.string n.data.data.toList), .lit (.int .i64 n.time), .lit (.int .i64 n.mark)]
theorem dat_inj {a b : Pl.Nd} (h : dat a = dat b) : a = b := by
  obtain ⟨p, k, d, t, m⟩ := a
  obtain ⟨p', k', d', t', m'⟩ := b
  simp only [dat, DataW.agg.injEq, List.cons.injEq, DataW.lit.injEq, Lit.string.injEq, Lit.int.injEq, and_true, true_and] at h
  obtain ⟨h1, h2, h3, h4, h5⟩ := h
  have e1 : p = p' := Pl.by_inj h1
  have e2 : d = d' := Pl.by_inj h3
  subst e1 e2 h2 h4 h5
  rfl
/-- How an element's value reads. -/
def elem : Value → Option (DataW Unit × List MemPlace)
  | .agg cs => match cs.toList with
    | [.string p, .int .i64 k, .string d, .int .i64 t, .int .i64 m] => some (dat ⟨p, k, d, t, m⟩, [])
    | _ => none
  | _ => none
theorem elem_mk (n : Pl.Nd) : elem n.val = some (dat n, []) := rfl
theorem elem_inv {v : Value} {d : DataW Unit} {ps : List MemPlace} (h : elem v = some (d, ps)) : ∃ n : Pl.Nd, v = n.val ∧ d = dat n := by
  unfold elem at h
  split at h
  · rename_i cs
    split at h
    · rename_i p k d' t m hcs
      simp only [Option.some.injEq, Prod.mk.injEq] at h
      refine ⟨⟨p, k, d', t, m⟩, ?_, h.1.symm⟩
      rw [Pl.Nd.val, show cs = cs.toList.toArray by simp, hcs]
    · cases h
  · cases h
/-- The map of some nodes, put one behind the other. -/
def mapOf (C : List Pl.Nd) : DataW Unit := C.foldl (fun D n => D.put (key n.path) (dat n)) (.map [])
theorem mapOf_snoc (C : List Pl.Nd) (n : Pl.Nd) : mapOf (C ++ [n]) = (mapOf C).put (key n.path) (dat n) := by simp [mapOf, List.foldl_append]
theorem key_is (p : ByteArray) : WideAt.IsKeyLit (key p) := by simp [key, WideAt.IsKeyLit]
theorem key_ne {a b : ByteArray} (h : a ≠ b) : key a ≠ key b := fun e => h (Pl.by_inj (Lit.string.inj e))
theorem isMap_fold : ∀ (C : List Pl.Nd) (D : DataW Unit), IsMap D → IsMap (C.foldl (fun D n => D.put (key n.path) (dat n)) D) := by
  intro C
  induction C with
  | nil => intro D h; exact h
  | cons n C ih => intro D h; exact ih _ (h.put _ _)
theorem mapOf_isMap (C : List Pl.Nd) : IsMap (mapOf C) := isMap_fold C _ isMap_empty
theorem mapOf_miss (p : ByteArray) : ∀ (C : List Pl.Nd) (D : DataW Unit), (∀ n ∈ C, n.path ≠ p) → Maps.has (C.foldl (fun D n => D.put (key n.path) (dat n)) D) (key p) = Maps.has D (key p) ∧ ∀ z, (C.foldl (fun D n => D.put (key n.path) (dat n)) D).atKey (key p) z = D.atKey (key p) z := by
  intro C
  induction C with
  | nil => intro D _; exact ⟨rfl, fun _ => rfl⟩
  | cons n C ih =>
    intro D h
    have h1 : key p ≠ key n.path := key_ne (fun e => h n List.mem_cons_self e.symm)
    obtain ⟨i1, i2⟩ := ih (D.put (key n.path) (dat n)) (fun m hm => h m (List.mem_cons_of_mem _ hm))
    refine ⟨?_, fun z => ?_⟩
    · show Maps.has (C.foldl _ (D.put (key n.path) (dat n))) (key p) = _
      rw [i1, has_put_other h1]
    · show (C.foldl _ (D.put (key n.path) (dat n))).atKey (key p) z = _
      rw [i2, atKey_put_other h1]
theorem has_no {C : List Pl.Nd} {p : ByteArray} (h : ∀ n ∈ C, n.path ≠ p) : Maps.has (mapOf C) (key p) = false := by
  rw [mapOf, (mapOf_miss p C _ h).1]; rfl
/-- Where no two have one path: what stands at a path. -/
theorem at_yes {C : List Pl.Nd} {n : Pl.Nd} (hC : C.Pairwise (fun a b => a.path ≠ b.path)) (hn : n ∈ C) : Maps.has (mapOf C) (key n.path) = true ∧ ∀ z, (mapOf C).atKey (key n.path) z = dat n := by
  obtain ⟨A, B, rfl⟩ := List.append_of_mem hn
  rw [List.pairwise_append] at hC
  have h2 := (List.pairwise_cons.1 hC.2.1).1
  have e : mapOf (A ++ n :: B) = B.foldl (fun D n => D.put (key n.path) (dat n)) ((mapOf A).put (key n.path) (dat n)) := by simp [mapOf, List.foldl_append]
  obtain ⟨i1, i2⟩ := mapOf_miss n.path B ((mapOf A).put (key n.path) (dat n)) (fun m hm e => h2 m hm e.symm)
  rw [e]
  exact ⟨by rw [i1, has_put_same (mapOf_isMap A) (key_is _)], fun z => by rw [i2, atKey_put_same (mapOf_isMap A) (key_is _)]⟩
theorem law : Keyed Tryd.prog 9 := string_keyed Tryd.underlying9
theorem zeroN (w : World) : (zeroValue 138).run Tryd.prog w = .ok (Pl.Nd.val ⟨⟨#[]⟩, 0, ⟨#[]⟩, 0, 0⟩) w := by kernel_rfl
theorem keyOf_mk {p : ByteArray} (h : p.size ≤ maxLen) : keyOf Tryd.prog 9 (.string p) = some (key p) := WideMaps.keyOf_string_mk Tryd.underlying9 h
end MapN
end Go.Proofs.YtlgbdbmikmbioaaDoor

/- A row of nests in memory, with what each is itself: a map of its nodes, how many it has in it, and the row of its layers. -/
namespace Go.Proofs.YtlgbdbmikmbioaaDoor
open Go.RowKit Go.Maps
namespace Mem
/-- A map of nodes in a block. -/
def ownM (w : World) (q : Nat) (L : List Pl.Nd) : Prop := w.ownsMap Tryd.prog 9 MapN.elem q 40 (MapN.mapOf L)
theorem ownM.lt {w : World} {q : Nat} {L : List Pl.Nd} (h : ownM w q L) : q < w.heap.size := World.ownsMap.lt h
theorem ownM.same {w w' : World} {q : Nat} {L : List Pl.Nd} (h : ownM w q L) (e : w'.heap[q]? = w.heap[q]?) : ownM w' q L := by
  obtain ⟨es, clock, hb, F, hs, hD⟩ := h
  exact ⟨es, clock, e.trans hb, F, hs, hD⟩
theorem ownM.call {w w' : World} {q : Nat} {L : List Pl.Nd} (h : ownM w q L) (b : Below w.heap.size w w') : ownM w' q L := h.same (b.block q h.lt)
theorem ownM.set {w : World} {q : Nat} {L : List Pl.Nd} (h : ownM w q L) (p : Addr) (u : Value) (hp : q ≠ p.block) : ownM (w.setCell p u) q L := h.same (heap_setCell_other _ _ _ _ hp)
theorem ownM.grown {w w' : World} {q : Nat} {L : List Pl.Nd} {r : Option Nat} (h : ownM w q L) (g : w.grownBy w' r) (hr : some q ≠ r) : ownM w' q L := h.same (g.block q h.lt hr)
/-- A map of so many entries as it has. -/
theorem tight {w : World} {q n m : Nat} {D : DataW Unit} (h : w.ownsMap Tryd.prog 9 MapN.elem q n D) (hm : Maps.size D ≤ m) : w.ownsMap Tryd.prog 9 MapN.elem q m D := by
  obtain ⟨es, clock, hb, F, hs, rfl⟩ := h
  refine ⟨es, clock, hb, F, ?_, rfl⟩
  rw [Maps.size_eq, length_read] at hm
  exact hm
/-- A row of nests from a cell on; all blocks of it are of a kind. -/
def rowX (w : World) (N : Nat → Prop) : Pl.Fx → Nat → Nat → Prop
  | .nil, _, _ => True
  | .cons L k m, b, i => (∃ q a cap, w.cell? ⟨b, i, none⟩ = some (.map (some q)) ∧ w.cell? ⟨b, i + 1, none⟩ = some (.int .i64 (k.len : Int)) ∧ w.cell? ⟨b, i + 2, none⟩ = some (.slice a k.len cap) ∧ b < w.heap.size ∧ N b ∧ N q ∧ ownM w q L ∧
      (k = .nil ∨ ∃ b', a = some ⟨b', 0, none⟩ ∧ k.len ≤ cap ∧ rowX w N k b' 0)) ∧ rowX w N m b (i + 3)
/-- The layers of a nest: a row of nests, or none. -/
def layX (w : World) (N : Nat → Prop) (k : Pl.Fx) (v : Value) : Prop := ∃ a cap, v = .slice a k.len cap ∧ (k = .nil ∨ ∃ b', a = some ⟨b', 0, none⟩ ∧ k.len ≤ cap ∧ rowX w N k b' 0)
theorem rowX_mono {w w' : World} {N N' : Nat → Prop} (h : ∀ b, N b → b < w.heap.size → N' b ∧ b < w'.heap.size ∧ w'.heap[b]? = w.heap[b]?) (F : Pl.Fx) : ∀ b i, rowX w N F b i → rowX w' N' F b i := by
  induction F with
  | nil => intro b i _; trivial
  | cons L k m ihk ihm =>
    intro b i hr
    obtain ⟨⟨q, a, cap, h1, h2, h3, h4, h5, hq, hm, h6⟩, h7⟩ := hr
    obtain ⟨g1, g2, g3⟩ := h b h5 h4
    obtain ⟨q1, q2, q3⟩ := h q hq hm.lt
    have c : ∀ j, w'.cell? ⟨b, j, none⟩ = w.cell? ⟨b, j, none⟩ := fun j => World.cell?_of_block g3
    refine ⟨⟨q, a, cap, (c _).trans h1, (c _).trans h2, (c _).trans h3, g2, g1, q1, hm.same q3, ?_⟩, ihm _ _ h7⟩
    rcases h6 with h6 | ⟨b', h6, h8, h9⟩
    · exact .inl h6
    · exact .inr ⟨b', h6, h8, ihk _ _ h9⟩
theorem layX_mono {w w' : World} {N N' : Nat → Prop} (h : ∀ b, N b → b < w.heap.size → N' b ∧ b < w'.heap.size ∧ w'.heap[b]? = w.heap[b]?) {k : Pl.Fx} {v : Value} (hl : layX w N k v) : layX w' N' k v := by
  obtain ⟨a, cap, h1, h2⟩ := hl
  refine ⟨a, cap, h1, ?_⟩
  rcases h2 with h2 | ⟨b', h2, h3, h4⟩
  · exact .inl h2
  · exact .inr ⟨b', h2, h3, rowX_mono h _ _ _ h4⟩
theorem rowX_call {w w' : World} {N : Nat → Prop} {F : Pl.Fx} {b i : Nat} (h : rowX w N F b i) (bb : Below w.heap.size w w') : rowX w' N F b i := rowX_mono (fun g hg hl => ⟨hg, Nat.lt_of_lt_of_le hl bb.size, bb.block g hl⟩) _ _ _ h
theorem layX_call {w w' : World} {N : Nat → Prop} {k : Pl.Fx} {v : Value} (h : layX w N k v) (b : Below w.heap.size w w') : layX w' N k v := layX_mono (fun g hg hl => ⟨hg, Nat.lt_of_lt_of_le hl b.size, b.block g hl⟩) h
theorem layX_weak {w : World} {N N' : Nat → Prop} {k : Pl.Fx} {v : Value} (h : layX w N k v) (hn : ∀ b, N b → b < w.heap.size → N' b) : layX w N' k v := layX_mono (fun g hg hl => ⟨hn g hg hl, hl, rfl⟩) h
theorem layX_nil (w : World) (N : Nat → Prop) : layX w N .nil (.slice none 0 0) := ⟨none, 0, rfl, .inl rfl⟩
/-- The shape alone. -/
theorem rowX_row {w : World} {N : Nat → Prop} (F : Pl.Fx) : ∀ b i, rowX w N F b i → rowF w N F.shape b i := by
  induction F with
  | nil => intro b i _; trivial
  | cons L k m ihk ihm =>
    intro b i hr
    obtain ⟨⟨q, a, cap, h1, h2, h3, h4, h5, hq, hm, h6⟩, h7⟩ := hr
    refine ⟨⟨_, _, a, cap, h1, h2, by rw [Pl.Fx.shape_len]; exact h3, h4, h5, ⟨_, rfl⟩, ⟨_, rfl⟩, ?_⟩, ihm _ _ h7⟩
    rcases h6 with h6 | ⟨b', h6, -, h8⟩
    · exact .inl (by rw [h6]; rfl)
    · exact .inr ⟨b', h6, ihk _ _ h8⟩
theorem layX_lay {w : World} {N : Nat → Prop} {k : Pl.Fx} {v : Value} (h : layX w N k v) : lay w N k.shape v := by
  obtain ⟨a, cap, h1, h2⟩ := h
  refine ⟨a, cap, by rw [Pl.Fx.shape_len]; exact h1, ?_⟩
  rcases h2 with h2 | ⟨b', h2, -, h3⟩
  · exact .inl (by rw [h2]; rfl)
  · exact .inr ⟨b', h2, rowX_row _ _ _ h3⟩
/-- The cells of a row of nests, one behind the other. -/
def cellsX (w : World) (N : Nat → Prop) : Pl.Fx → List Value → Prop
  | .nil, xs => xs = []
  | .cons L k m, xs => ∃ q v ys, xs = .map (some q) :: .int .i64 (k.len : Int) :: v :: ys ∧ N q ∧ ownM w q L ∧ layX w N k v ∧ cellsX w N m ys
theorem cellsX_mono {w w' : World} {N N' : Nat → Prop} (h : ∀ b, N b → b < w.heap.size → N' b ∧ b < w'.heap.size ∧ w'.heap[b]? = w.heap[b]?) (F : Pl.Fx) : ∀ xs, cellsX w N F xs → cellsX w' N' F xs := by
  induction F with
  | nil => intro xs h; exact h
  | cons L k m _ ih =>
    intro xs hx
    obtain ⟨q, v, ys, h1, hq, hm, h2, h3⟩ := hx
    obtain ⟨q1, q2, q3⟩ := h q hq hm.lt
    exact ⟨q, v, ys, h1, q1, hm.same q3, layX_mono h h2, ih _ h3⟩
theorem cellsX_snoc {w : World} {N : Nat → Prop} {k : Pl.Fx} {L : List Pl.Nd} {q : Nat} {v : Value} (hq : N q) (hm : ownM w q L) (hv : layX w N k v) (F : Pl.Fx) : ∀ xs, cellsX w N F xs → cellsX w N (F.app (.cons L k .nil)) (xs ++ [.map (some q), .int .i64 (k.len : Int), v]) := by
  induction F with
  | nil => intro xs h; cases h; exact ⟨q, v, [], rfl, hq, hm, hv, rfl⟩
  | cons L' k' m _ ih =>
    intro xs hx
    obtain ⟨q', v', ys, rfl, hq', hm', h2, h3⟩ := hx
    exact ⟨q', v', _, rfl, hq', hm', h2, ih _ h3⟩
theorem rowX_of_cells {w : World} {N N' : Nat → Prop} {g : Nat} (hN : ∀ b, N b → N' b) (hg : N' g) (hlt : g < w.heap.size) (F : Pl.Fx) : ∀ (xs : List Value) (i : Nat), cellsX w N F xs → (∀ j u, xs[j]? = some u → w.cell? ⟨g, i + j, none⟩ = some u) → rowX w N' F g i := by
  induction F with
  | nil => intro xs i _ _; trivial
  | cons L k m _ ih =>
    intro xs i hx hc
    obtain ⟨q, v, ys, rfl, hq, hm, h2, h3⟩ := hx
    obtain ⟨a, cap, rfl, h4⟩ := h2
    refine ⟨⟨q, a, cap, hc 0 _ rfl, hc 1 _ rfl, hc 2 _ rfl, hlt, hg, hN q hq, hm, ?_⟩, ih ys (i + 3) h3 fun j u hj => ?_⟩
    · rcases h4 with h4 | ⟨b', h4, h6, h5⟩
      · exact .inl h4
      · exact .inr ⟨b', h4, h6, rowX_mono (fun b hb hl => ⟨hN b hb, hl, rfl⟩) _ _ _ h5⟩
    · have := hc (j + 3) u (by simpa using hj)
      rw [show i + 3 + j = i + (j + 3) by omega]; exact this
theorem layX_of_row {w : World} {B : Nat} {T : TypeId} {v : Value} {N : Nat → Prop} {F : Pl.Fx} {xs : List Value} (h : w.ownsRow B T 3 v F.len xs) (hc : cellsX w N F xs) (hN : ∀ b, N b → B ≤ b) : layX w (fun b => B ≤ b) F v := by
  rcases h.2 with ⟨rfl, h0⟩ | ⟨g, cap, cur, rfl, hb, hg, hc2, hm, hsz, ht⟩
  · cases F with
    | nil => exact layX_nil _ _
    | cons L k m => simp [Pl.Fx.len] at h0
  · refine ⟨_, cap, rfl, .inr ⟨g, rfl, hc2, rowX_of_cells hN hb (Array.getElem?_eq_some_iff.1 hg).1 F xs 0 hc fun j u hj => ?_⟩⟩
    rw [cell_of_row w g _ cur _ (0, 0) hg, Nat.zero_add]
    rw [← ht, List.getElem?_take] at hj
    split at hj
    · simpa using hj
    · cases hj
end Mem
end Go.Proofs.YtlgbdbmikmbioaaDoor

/- The maps of a row of nests in memory, one after the other. -/
namespace Go.Proofs.YtlgbdbmikmbioaaDoor
open Go.RowKit Go.Maps
namespace Mem
/-- A map's block. -/
def mapQ : Option Value → Nat
  | some (.map (some q)) => q
  | _ => 0
/-- Where a slice begins. -/
def rowB : Option Value → Option Nat
  | some (.slice (some p) _ _) => some p.block
  | _ => none
/-- The blocks of the maps of a row of nests, each ahead of those of its layers. -/
def mapsR (w : World) : Pl.Fx → Nat → Nat → List Nat
  | .nil, _, _ => []
  | .cons _ k m, b, i => mapQ (w.cell? ⟨b, i, none⟩) :: ((match rowB (w.cell? ⟨b, i + 2, none⟩) with | some b' => mapsR w k b' 0 | none => []) ++ mapsR w m b (i + 3))
def mapsL (w : World) (k : Pl.Fx) (v : Value) : List Nat := match rowB (some v) with | some b' => mapsR w k b' 0 | none => []
def mapsC (w : World) : Pl.Fx → List Value → List Nat
  | .nil, _ => []
  | .cons _ k m, xs => mapQ xs[0]? :: (mapsL w k (xs[2]?.getD undef) ++ mapsC w m (xs.drop 3))
theorem mapsR_cons {w : World} {L : List Pl.Nd} {k m : Pl.Fx} {b i q : Nat} {v : Value} (h1 : w.cell? ⟨b, i, none⟩ = some (.map (some q))) (h2 : w.cell? ⟨b, i + 2, none⟩ = some v) : mapsR w (.cons L k m) b i = q :: (mapsL w k v ++ mapsR w m b (i + 3)) := by
  rw [mapsR, h1, h2]; rfl
theorem mapsL_nil (w : World) (v : Value) : mapsL w .nil v = [] := by
  unfold mapsL
  split <;> rfl
theorem mapsL_at (w : World) (k : Pl.Fx) (b n cap : Nat) : mapsL w k (.slice (some ⟨b, 0, none⟩) n cap) = mapsR w k b 0 := rfl
theorem mapsR_same {w w' : World} {N : Nat → Prop} (h : ∀ b, N b → b < w.heap.size → w'.heap[b]? = w.heap[b]?) (F : Pl.Fx) : ∀ b i, rowX w N F b i → mapsR w' F b i = mapsR w F b i := by
  induction F with
  | nil => intro b i _; rfl
  | cons L k m ihk ihm =>
    intro b i hr
    obtain ⟨⟨q, a, cap, h1, h2, h3, h4, h5, hq, hm, h6⟩, h7⟩ := hr
    have c : ∀ j, w'.cell? ⟨b, j, none⟩ = w.cell? ⟨b, j, none⟩ := fun j => World.cell?_of_block (h b h5 h4)
    rw [mapsR_cons ((c _).trans h1) ((c _).trans h3), mapsR_cons h1 h3, ihm _ _ h7]
    rcases h6 with rfl | ⟨b', rfl, -, h9⟩
    · rw [mapsL_nil, mapsL_nil]
    · rw [mapsL_at, mapsL_at, ihk _ _ h9]
theorem mapsL_same {w w' : World} {N : Nat → Prop} (h : ∀ b, N b → b < w.heap.size → w'.heap[b]? = w.heap[b]?) {k : Pl.Fx} {v : Value} (hl : layX w N k v) : mapsL w' k v = mapsL w k v := by
  obtain ⟨a, cap, rfl, h2⟩ := hl
  rcases h2 with rfl | ⟨b', rfl, -, h4⟩
  · rw [mapsL_nil, mapsL_nil]
  · rw [mapsL_at, mapsL_at, mapsR_same h _ _ _ h4]
theorem mapsC_cons (w : World) (L : List Pl.Nd) (k m : Pl.Fx) (q : Nat) (c v : Value) (ys : List Value) : mapsC w (.cons L k m) (.map (some q) :: c :: v :: ys) = q :: (mapsL w k v ++ mapsC w m ys) := rfl
theorem mapsC_same {w w' : World} {N : Nat → Prop} (h : ∀ b, N b → b < w.heap.size → w'.heap[b]? = w.heap[b]?) (F : Pl.Fx) : ∀ xs, cellsX w N F xs → mapsC w' F xs = mapsC w F xs := by
  induction F with
  | nil => intro xs _; rfl
  | cons L k m _ ih =>
    intro xs hx
    obtain ⟨q, v, ys, rfl, hq, hm, h2, h3⟩ := hx
    rw [mapsC_cons, mapsC_cons, mapsL_same h h2, ih _ h3]
theorem mapsR_in {w : World} {N : Nat → Prop} (F : Pl.Fx) : ∀ b i, rowX w N F b i → ∀ j ∈ mapsR w F b i, N j ∧ j < w.heap.size := by
  induction F with
  | nil => intro b i _ j hj; cases hj
  | cons L k m ihk ihm =>
    intro b i hr j hj
    obtain ⟨⟨q, a, cap, h1, h2, h3, h4, h5, hq, hm, h6⟩, h7⟩ := hr
    rw [mapsR_cons h1 h3] at hj
    rcases List.mem_cons.1 hj with rfl | hj
    · exact ⟨hq, hm.lt⟩
    rcases List.mem_append.1 hj with hj | hj
    · rcases h6 with rfl | ⟨b', rfl, -, h9⟩
      · rw [mapsL_nil] at hj; cases hj
      · exact ihk _ _ h9 j hj
    · exact ihm _ _ h7 j hj
theorem mapsL_in {w : World} {N : Nat → Prop} {k : Pl.Fx} {v : Value} (hl : layX w N k v) : ∀ j ∈ mapsL w k v, N j ∧ j < w.heap.size := by
  obtain ⟨a, cap, rfl, h2⟩ := hl
  rcases h2 with rfl | ⟨b', rfl, -, h4⟩
  · rw [mapsL_nil]; intro j hj; cases hj
  · exact mapsR_in _ _ _ h4
theorem mapsC_in {w : World} {N : Nat → Prop} (F : Pl.Fx) : ∀ xs, cellsX w N F xs → ∀ j ∈ mapsC w F xs, N j ∧ j < w.heap.size := by
  induction F with
  | nil => intro xs _ j hj; cases hj
  | cons L k m _ ih =>
    intro xs hx j hj
    obtain ⟨q, v, ys, rfl, hq, hm, h2, h3⟩ := hx
    rw [mapsC_cons] at hj
    rcases List.mem_cons.1 hj with rfl | hj
    · exact ⟨hq, hm.lt⟩
    rcases List.mem_append.1 hj with hj | hj
    · exact mapsL_in h2 j hj
    · exact ih _ h3 j hj
theorem mapsC_snoc {w : World} {N : Nat → Prop} (L : List Pl.Nd) (k : Pl.Fx) (q : Nat) (c v : Value) (F : Pl.Fx) : ∀ xs, cellsX w N F xs → mapsC w (F.app (.cons L k .nil)) (xs ++ [.map (some q), c, v]) = mapsC w F xs ++ q :: mapsL w k v := by
  induction F with
  | nil => intro xs h; cases h; show mapsC w (.cons L k .nil) _ = _; rw [List.nil_append, mapsC_cons]; simp [mapsC]
  | cons L' k' m _ ih =>
    intro xs hx
    obtain ⟨q', v', ys, rfl, hq', hm', h2, h3⟩ := hx
    show mapsC w (.cons L' k' (m.app _)) (.map (some q') :: _ :: v' :: (ys ++ _)) = _
    rw [mapsC_cons, mapsC_cons, ih _ h3]
    simp
theorem mapsR_of_cells {w : World} {N : Nat → Prop} {g : Nat} (F : Pl.Fx) : ∀ (xs : List Value) (i : Nat), cellsX w N F xs → (∀ j u, xs[j]? = some u → w.cell? ⟨g, i + j, none⟩ = some u) → mapsR w F g i = mapsC w F xs := by
  induction F with
  | nil => intro xs i _ _; rfl
  | cons L k m _ ih =>
    intro xs i hx hc
    obtain ⟨q, v, ys, rfl, hq, hm, h2, h3⟩ := hx
    have e0 : w.cell? ⟨g, i, none⟩ = some (.map (some q)) := hc 0 _ rfl
    rw [mapsR_cons e0 (hc 2 _ rfl), mapsC_cons, ih ys (i + 3) h3 fun j u hj => ?_]
    have := hc (j + 3) u (by simpa using hj)
    rw [show i + 3 + j = i + (j + 3) by omega]; exact this
theorem mapsL_of_row {w : World} {B : Nat} {T : TypeId} {v : Value} {N : Nat → Prop} {F : Pl.Fx} {xs : List Value} (h : w.ownsRow B T 3 v F.len xs) (hc : cellsX w N F xs) : mapsL w F v = mapsC w F xs := by
  rcases h.2 with ⟨rfl, h0⟩ | ⟨g, cap, cur, rfl, hb, hg, hc2, hm, hsz, ht⟩
  · cases F with
    | nil => exact mapsL_nil _ _
    | cons L k m => simp [Pl.Fx.len] at h0
  · rw [mapsL_at]
    refine mapsR_of_cells F xs 0 hc fun j u hj => ?_
    rw [cell_of_row w g _ cur _ (0, 0) hg, Nat.zero_add]
    rw [← ht, List.getElem?_take] at hj
    split at hj
    · simpa using hj
    · cases hj
/-- No two maps of a nest are one. -/
def apart (w : World) (q : Nat) (k : Pl.Fx) (v : Value) : Prop := (q :: mapsL w k v).Pairwise (· < ·)
theorem apart_same {w w' : World} {N : Nat → Prop} (h : ∀ b, N b → b < w.heap.size → w'.heap[b]? = w.heap[b]?) {q : Nat} {k : Pl.Fx} {v : Value} (hl : layX w N k v) (ha : apart w q k v) : apart w' q k v := by
  show (q :: _).Pairwise _
  rw [mapsL_same h hl]
  exact ha
theorem apart_call {w w' : World} {N : Nat → Prop} {q : Nat} {k : Pl.Fx} {v : Value} (hl : layX w N k v) (ha : apart w q k v) (b : Below w.heap.size w w') : apart w' q k v := apart_same (fun j _ hj => b.block j hj) hl ha
end Mem
end Go.Proofs.YtlgbdbmikmbioaaDoor

/- A nest of the program in memory, as one thing. -/
namespace Go.Proofs.YtlgbdbmikmbioaaDoor
open Go.RowKit Go.Maps
namespace Mem
/-- A nest as it lies, from block B on, and its items. -/
def nestV (w : World) (B : Nat) (x : Pl.Nv) (R : List (Int × List Pl.Nd)) : Prop :=
  ∃ L k q, x.m = some q ∧ x.n = k.len ∧ ((B ≤ q ∧ apart w q k (.slice x.a k.len x.cap)) ∧ ownM w q L) ∧ ((Pl.Fx.cons L k .nil).okX ∧ (Pl.Fx.cons L k .nil).flat = R) ∧ layX w (fun b => B ≤ b) k (.slice x.a k.len x.cap)
theorem nestV.same {w w' : World} {B : Nat} {x : Pl.Nv} {R : List (Int × List Pl.Nd)} (h : nestV w B x R) (hs : w.heap.size ≤ w'.heap.size) (hb : ∀ b, B ≤ b → b < w.heap.size → w'.heap[b]? = w.heap[b]?) : nestV w' B x R := by
  obtain ⟨L, k, q, h1, h2, ⟨⟨h3, h4⟩, h5⟩, h6, h7⟩ := h
  exact ⟨L, k, q, h1, h2, ⟨⟨h3, apart_same hb h7 h4⟩, h5.same (hb q h3 h5.lt)⟩, h6, layX_mono (fun g hg hl => ⟨hg, Nat.lt_of_lt_of_le hl hs, hb g hg hl⟩) h7⟩
theorem nestV.call {w w' : World} {B : Nat} {x : Pl.Nv} {R : List (Int × List Pl.Nd)} (h : nestV w B x R) (b : Below w.heap.size w w') : nestV w' B x R := h.same b.size (fun g _ hg => b.block g hg)
theorem nestV.grown {w w' : World} {B q : Nat} {x : Pl.Nv} {R : List (Int × List Pl.Nd)} (h : nestV w B x R) (g : w.grownBy w' (some q)) (hq : q < B) : nestV w' B x R := h.same g.size (fun b hb hl => g.block b hl (fun e => by have := Option.some.inj e; omega))
theorem nestV.mono {w : World} {B B' : Nat} {x : Pl.Nv} {R : List (Int × List Pl.Nd)} (h : nestV w B x R) (hb : B' ≤ B) : nestV w B' x R := by
  obtain ⟨L, k, q, h1, h2, ⟨⟨h3, h4⟩, h5⟩, h6, h7⟩ := h
  exact ⟨L, k, q, h1, h2, ⟨⟨by omega, h4⟩, h5⟩, h6, layX_weak h7 (fun b hb _ => by omega)⟩
/-- The nests of a map, each with the items of its instance. -/
def nestsV (w : World) (B : Nat) (E : List (Int × Pl.Nv)) (N : List Pl.Ns) : Prop := ∀ (i : Nat) y, E[i]? = some y → ∃ x, N[i]? = some x ∧ y.1 = x.d ∧ nestV w B y.2 (x.Is.map Pl.It.r)
theorem nestsV.call {w w' : World} {B : Nat} {E : List (Int × Pl.Nv)} {N : List Pl.Ns} (h : nestsV w B E N) (b : Below w.heap.size w w') : nestsV w' B E N := fun i y hy => by
  obtain ⟨x, h1, h2, h3⟩ := h i y hy
  exact ⟨x, h1, h2, h3.call b⟩
theorem nestsV.grown {w w' : World} {B q : Nat} {E : List (Int × Pl.Nv)} {N : List Pl.Ns} (h : nestsV w B E N) (g : w.grownBy w' (some q)) (hq : q < B) : nestsV w' B E N := fun i y hy => by
  obtain ⟨x, h1, h2, h3⟩ := h i y hy
  exact ⟨x, h1, h2, h3.grown g hq⟩
theorem nestsV.mono {w : World} {B B' : Nat} {E : List (Int × Pl.Nv)} {N : List Pl.Ns} (h : nestsV w B E N) (hb : B' ≤ B) : nestsV w B' E N := fun i y hy => by
  obtain ⟨x, h1, h2, h3⟩ := h i y hy
  exact ⟨x, h1, h2, h3.mono hb⟩
theorem nestsV.snoc {w : World} {B : Nat} {E : List (Int × Pl.Nv)} {N : List Pl.Ns} (h : nestsV w B E N) {v : Pl.Nv} {x : Pl.Ns} (hx : N[E.length]? = some x) (hv : nestV w B v (x.Is.map Pl.It.r)) : nestsV w B (E ++ [(x.d, v)]) N := fun i y hy => by
  by_cases hi : i < E.length
  · rw [List.getElem?_append_left hi] at hy
    exact h i y hy
  · rw [List.getElem?_append_right (by omega)] at hy
    have hi2 : i = E.length := by have := (List.getElem?_eq_some_iff.1 hy).1; simp at this; omega
    subst hi2
    simp at hy
    subst hy
    exact ⟨x, hx, rfl, hv⟩
end Mem
end Go.Proofs.YtlgbdbmikmbioaaDoor

