/- Several texts of one claim in one file: WLawX, MemBand. -/
import Derived.Test.YtkfpfckmjgjanabDoorWLawM
import Derived.Deep.RegionHeld3
import Derived.Test.YtkfpfckmjgjanabDoorG17
/- The walks of toTreeS and toLayers, with the rows of the nodes that were copied (out of WLawM). -/
namespace Go.Proofs.YtkfpfckmjgjanabDoor
open Go.RowKit
namespace WLawX
open WLaw
/-- The trees that were copied so far: each in a row of its own, behind the row of trees. -/
structure Cop (w wr : World) (Ts D : List Pl.Tr) (cur : Array Value) : Prop where
  blk : wr.heap[w.heap.size]? = some (.cells cur 39 (0, 0))
  size : cur.size = Ts.length
  same : D.map (·.L) = (Ts.take D.length).map (·.L)
  each : ∀ (j : Nat) t, D[j]? = some t → cur[j]? = some t.val ∧ ∃ g, t.a = some ⟨g, 0, none⟩ ∧ w.heap.size < g ∧ Mem.isNodes wr t.a t.L ∧ ∃ cs, wr.heap[g]? = some (.cells cs 50 (0, 0)) ∧ t.L.length * 5 ≤ cs.size
theorem Cop.call {w wr W : World} {Ts D : List Pl.Tr} {cur : Array Value} (h : Cop w wr Ts D cur) (b : Below wr.heap.size wr W) : Cop w W Ts D cur :=
  ⟨(b.block _ (Array.getElem?_eq_some_iff.1 h.blk).1).trans h.blk, h.size, h.same, fun j t hj => ⟨(h.each j t hj).1, by
    obtain ⟨g, h1, h2, h3, cs, h4, h5⟩ := (h.each j t hj).2
    exact ⟨g, h1, h2, Mem.nodes_call h3 b, cs, (b.block _ (Array.getElem?_eq_some_iff.1 h4).1).trans h4, h5⟩⟩⟩
theorem Cop.put {w wr : World} {Ts D : List Pl.Tr} {cur : Array Value} (h : Cop w wr Ts D cur) (t : Pl.Tr) (g : Nat) (hk : Ts[D.length]? = some t) (hg : w.heap.size < g) (hn : Mem.isNodes wr (some ⟨g, 0, none⟩) t.L) (hr : ∃ cs, wr.heap[g]? = some (.cells cs 50 (0, 0)) ∧ t.L.length * 5 ≤ cs.size) :
    Cop w (wr.setCell ⟨w.heap.size, D.length, none⟩ (.slice (some ⟨g, 0, none⟩) t.L.length t.L.length)) Ts (D ++ [⟨some ⟨g, 0, none⟩, t.L.length, t.L⟩]) (cur.setIfInBounds D.length (.slice (some ⟨g, 0, none⟩) t.L.length t.L.length)) := by
  have hlt := (List.getElem?_eq_some_iff.1 hk).1
  refine ⟨heap_setCell_same _ _ _ _ _ _ h.blk, by simpa using h.size, ?_, fun j m hj => ?_⟩
  · rw [List.length_append, List.length_singleton, List.take_add_one, hk, List.map_append, List.map_append, h.same]
    rfl
  · by_cases e : j < D.length
    · rw [List.getElem?_append_left e] at hj
      obtain ⟨h1, g', h2, h3, h4, cs, h5, h6⟩ := h.each j m hj
      refine ⟨by rw [Array.getElem?_setIfInBounds, if_neg (by omega)]; exact h1, g', h2, h3, ?_, cs, (heap_setCell_other _ _ _ _ (by show g' ≠ w.heap.size; omega)).trans h5, h6⟩
      rw [h2] at h4 ⊢
      exact Mem.nodes_far h4 _ _ (by show w.heap.size ≠ g'; omega)
    · rw [List.getElem?_append_right (by omega)] at hj
      have hj0 : j = D.length := by
        have := (List.getElem?_eq_some_iff.1 hj).1
        simp at this; omega
      subst hj0
      simp at hj
      subst hj
      obtain ⟨cs, h5, h6⟩ := hr
      refine ⟨?_, g, rfl, hg, Mem.nodes_far hn _ _ (by show w.heap.size ≠ g; omega), cs, (heap_setCell_other _ _ _ _ (by show g ≠ w.heap.size; omega)).trans h5, h6⟩
      rw [Array.getElem?_setIfInBounds, if_pos rfl, if_pos (by have := h.size; omega)]
      rfl
theorem Cop.set {w wr : World} {Ts D : List Pl.Tr} {cur : Array Value} (h : Cop w wr Ts D cur) (p : Addr) (v : Value) (hp : p.block < w.heap.size) : Cop w (wr.setCell p v) Ts D cur :=
  ⟨(heap_setCell_other _ _ _ _ (by omega)).trans h.blk, h.size, h.same, fun j t hj => ⟨(h.each j t hj).1, by
    obtain ⟨g, h1, h2, h3, cs, h5, h6⟩ := (h.each j t hj).2
    refine ⟨g, h1, h2, ?_, cs, (heap_setCell_other _ _ _ _ (by omega)).trans h5, h6⟩
    rw [h1] at h3 ⊢
    exact Mem.nodes_far h3 _ _ (by omega)⟩⟩
theorem Cop.trees {w wr : World} {Ts D : List Pl.Tr} {cur : Array Value} (h : Cop w wr Ts D cur) : Mem.isTrees wr (some ⟨w.heap.size, 0, none⟩) D := fun i t hi => by
  obtain ⟨h1, g, h2, h3, h4, -⟩ := h.each i t hi
  refine ⟨⟨_, 0, rfl, (Array.getElem?_eq_some_iff.1 h.blk).1, ?_⟩, h4⟩
  rw [cell_of_row wr _ _ _ _ (0, 0) h.blk, Nat.zero_add]
  exact h1
/-- A row of trees in memory of the call's own, each with its own row of nodes behind it. -/
structure Rows (W : World) (g : Nat) (D : List Pl.Tr) : Prop where
  trees : Mem.isTrees W (some ⟨g, 0, none⟩) D
  lt : g < W.heap.size
  each : ∀ (j : Nat) t, D[j]? = some t → ∃ q, t.a = some ⟨q, 0, none⟩ ∧ g < q ∧ q < W.heap.size ∧ ∃ cs, W.heap[q]? = some (.cells cs 50 (0, 0)) ∧ t.L.length * 5 ≤ cs.size
theorem Rows.call {W W' : World} {g : Nat} {D : List Pl.Tr} (h : Rows W g D) (b : Below W.heap.size W W') : Rows W' g D :=
  ⟨Mem.trees_call h.trees b, Nat.lt_of_lt_of_le h.lt b.size, fun j t hj => by
    obtain ⟨q, h1, h2, h3, cs, h4, h5⟩ := h.each j t hj
    exact ⟨q, h1, h2, Nat.lt_of_lt_of_le h3 b.size, cs, (b.block _ h3).trans h4, h5⟩⟩
theorem Cop.rows {w wr : World} {Ts D : List Pl.Tr} {cur : Array Value} (h : Cop w wr Ts D cur) : Rows wr w.heap.size D :=
  ⟨h.trees, (Array.getElem?_eq_some_iff.1 h.blk).1, fun j t hj => by
    obtain ⟨-, g, h2, h3, h4, cs, h5, h6⟩ := h.each j t hj
    exact ⟨g, h2, h3, (Array.getElem?_eq_some_iff.1 h5).1, cs, h5, h6⟩⟩
set_option linter.unusedSimpArgs false in
set_option maxRecDepth 100000 in
set_option maxHeartbeats 800000 in
theorem toTreeS_any (a : Option Addr) (cap : Nat) (Ts : List Pl.Tr) (w : World) (hl : Ts.length ≤ 1048576) (hv : Mem.isTrees w a Ts) (hok : ∀ t ∈ Ts, t.L.length ≤ 1048576) :
    Calls Tryd.prog 39 #[.slice a Ts.length cap] w fun e w' => e = .returned (.slice (some ⟨w.heap.size, 0, none⟩) Ts.length Ts.length) ∧ (∃ D cur, D.length = Ts.length ∧ Cop w w' Ts D cur) ∧ Below w.heap.size w w' := by
  have HV := hide hv
  have HO := hide hok
  have hmk := makeT Ts.length hl w
  clear hv hok
  go_enter Tryd.func39, Tryd.ntmps39
  go_wp2
  go_loopw [4] (fun i wr => ∃ (D : List Pl.Tr) (cur : Array Value), D.length ≤ Ts.length ∧ i = .int .i64 (D.length : Int) ∧ Below w.heap.size w wr ∧ Hid (Cop w wr Ts D cur)) (fun i _ => Ts.length - (intOf i).toNat)
  case atStart => exact ⟨[], zeroTrees Ts.length, Nat.zero_le _, rfl, (Below.refl _ _).alloc (Nat.le_refl _) _, hide ⟨heap_alloc_new w _, zeroTrees_size _, rfl, fun j t h => by simp at h⟩⟩
  case round =>
    obtain ⟨D, cur, hk, rfl, hbel, HC⟩ := hrel
    by_cases hlt : D.length < Ts.length
    · obtain ⟨t, ht⟩ : ∃ t, Ts[D.length]? = some t := ⟨_, List.getElem?_eq_getElem hlt⟩
      obtain ⟨⟨b, o, rfl, hb, q0⟩, q1⟩ := (unhide HV) D.length t ht
      have c0 := (hbel.cell (p := ⟨b, _, none⟩) hb).trans q0
      have hz := hide (fun W (b : Below w.heap.size w W) => toTree_row t.a t.cap t.L W (unhide HO t (List.mem_of_getElem? ht)) (Mem.nodes_call q1 b))
      have HN := hide ht
      have u1 : (D.length : Int) < (Ts.length : Int) := by omega
      have u3 : (0 : Int) ≤ (D.length : Int) := by omega
      simp only [Pl.Tr.val] at c0
      clear q0 ht q1
      go_wp2_with fail
      refine (unhide hz _ hbel).mono ?_
      rintro e w1 ⟨g, rfl, hg, ⟨cs, hrow, hcs⟩, hn, b1⟩
      have hgw : w.heap.size < g := by have := (Array.getElem?_eq_some_iff.1 (unhide HC).blk).1; omega
      have C1 := (unhide HC).call b1
      have hb2 := hbel.trans (b1.mono hbel.size)
      obtain ⟨x0, s0⟩ : ∃ x, w1.cell? ⟨w.heap.size, D.length, none⟩ = some x := ⟨_, (cell_of_row w1 _ D.length _ _ (0, 0) C1.blk).trans (Array.getElem?_eq_getElem (by rw [C1.size]; exact hlt))⟩
      have f0 : w1.frozen? ⟨w.heap.size, D.length, none⟩ = false := Mem.row_frozen C1.blk
      have HC2 := hide (C1.put t g (unhide HN) hgw hn ⟨cs, hrow, by omega⟩)
      have HB2 := hide hb2
      clear b1 hbel hz HC C1 hn hg hb2 hrow hcs
      go_wp2
      go_roundw
      case rel => exact ⟨_, _, by rw [List.length_append, List.length_singleton]; omega, by rw [List.length_append, List.length_singleton]; go_num, (unhide HB2).setCell (Nat.le_refl _) _, HC2⟩
      case measure => simp [intOf]; omega
    · have u1 : ¬ (D.length : Int) < (Ts.length : Int) := by omega
      go_wp2
      go_ret
      exact ⟨rfl, ⟨D, by omega, cur, unhide HC⟩, hbel⟩
set_option maxRecDepth 100000 in
theorem toLayers_any (a : Option Addr) (cap : Nat) (Ts : List Pl.Tr) (w : World) (hl : Ts.length ≤ 1048576) (hv : Mem.isTrees w a Ts) (hok : ∀ t ∈ Ts, t.L.length ≤ 1048576) :
    Calls Tryd.prog 11 #[.agg #[.slice a Ts.length cap]] w fun e w' => ∃ g D, e = .returned (.agg #[.slice (some ⟨g, 0, none⟩) Ts.length Ts.length]) ∧ w.heap.size ≤ g ∧ D.length = Ts.length ∧ D.map (·.L) = Ts.map (·.L) ∧ Rows w' g D ∧ Below w.heap.size w w' := by
  have b0 : Below w.heap.size w (((w.alloc (.cells #[.slice a Ts.length cap] 24)).alloc (.cells #[.slice none 0 0] 29)).alloc (.cells #[.slice none 0 0] 29)) := (((Below.refl _ _).alloc (Nat.le_refl _) _).alloc (by simp) _).alloc (by simp; omega) _
  have hz := hide (toTreeS_any a cap Ts _ hl (Mem.trees_call hv b0) hok)
  have hs : (((w.alloc (.cells #[.slice a Ts.length cap] 24)).alloc (.cells #[.slice none 0 0] 29)).alloc (.cells #[.slice none 0 0] 29)).heap.size = w.heap.size + 1 + 1 + 1 := by simp
  have r1 : Mem.Blk (((w.alloc (.cells #[.slice a Ts.length cap] 24)).alloc (.cells #[.slice none 0 0] 29)).alloc (.cells #[.slice none 0 0] 29)) (w.heap.size + 1) #[.slice none 0 0] 29 := Mem.new_mid w _ _ _
  have r2 : Mem.Blk (((w.alloc (.cells #[.slice a Ts.length cap] 24)).alloc (.cells #[.slice none 0 0] 29)).alloc (.cells #[.slice none 0 0] 29)) (w.heap.size + 1 + 1) #[.slice none 0 0] 29 := Mem.new_three w _ _ _
  have HB0 := hide b0
  clear hv hok b0
  go_enter Tryd.func11, Tryd.ntmps11
  go_wp2_with fail
  generalize (((w.alloc (.cells #[.slice a Ts.length cap] 24)).alloc (.cells #[.slice none 0 0] 29)).alloc (.cells #[.slice none 0 0] 29)) = w3 at hz hs r1 r2 HB0 ⊢
  refine (unhide hz).mono ?_
  rintro e w1 ⟨rfl, ⟨D, cur, hD, hC⟩, b1⟩
  have R1 := r1.call b1
  have R2 := r2.call b1
  have c1 := R1.cell 0
  have c2 := R2.cell 0
  have f1 := R1.fr 0
  have f2 := R2.fr 0
  simp only [kA0, kA1] at c1 c2
  have bb := hide ((unhide HB0).trans (b1.mono (unhide HB0).size))
  have HC := hide hC
  have HS := hide hs
  generalize hg : w3.heap.size = g at HS ⊢
  have HG := hide hg
  clear hz b1 hC hs r1 r2 R1 R2 HB0 hg
  go_wp2
  have hg := unhide HG
  have hs := unhide HS
  refine bodyPost_ret (v := .agg #[.slice (some ⟨g, 0, none⟩) Ts.length Ts.length]) (by simp [results, Tryd.results11, go_sem, c1]) rfl ⟨g, D, rfl, by omega, hD, ?_, ?_, ?_⟩
  · rw [(unhide HC).same, hD, List.take_length]
  · have := (((unhide HC).set ⟨w.heap.size + 1 + 1, 0, none⟩ (.slice (some ⟨g, 0, none⟩) Ts.length Ts.length) (by show w.heap.size + 1 + 1 < _; omega)).set ⟨w.heap.size + 1, 0, none⟩ (.slice (some ⟨g, 0, none⟩) Ts.length Ts.length) (by show w.heap.size + 1 < _; omega)).rows
    rw [hg] at this
    exact this
  · exact ((unhide bb).setCell (by show w.heap.size ≤ w.heap.size + 1 + 1; omega) _).setCell (by show w.heap.size ≤ w.heap.size + 1; omega) _
end WLawX
end Go.Proofs.YtkfpfckmjgjanabDoor

/- All is as it was, but for a band of blocks. -/
namespace Go.Proofs.YtkfpfckmjgjanabDoor
open Go.RowKit
namespace Mem
/-- All is as it was, but for the blocks from one number on and below another one. -/
structure Band (Y X : Nat) (w w' : World) : Prop where
  os : w'.os = w.os
  tape : w'.tape = w.tape
  output : w'.output = w.output
  size : w.heap.size ≤ w'.heap.size
  block : ∀ j, j < w.heap.size → (j < Y ∨ X ≤ j) → w'.heap[j]? = w.heap[j]?
theorem Band.refl (Y X : Nat) (w : World) : Band Y X w w := ⟨rfl, rfl, rfl, Nat.le_refl _, fun _ _ _ => rfl⟩
theorem Band.of_below {Y X : Nat} {w w' : World} (b : Below w.heap.size w w') : Band Y X w w' := ⟨b.os, b.tape, b.output, b.size, fun j hj _ => b.block j hj⟩
theorem Band.of_grown {Y X g : Nat} {w w' : World} (b : w.grownBy w' (some g)) (h1 : Y ≤ g) (h2 : g < X) : Band Y X w w' := ⟨b.os, b.tape, b.output, b.size, fun j hj hh => b.block j hj (fun e => by cases e; omega)⟩
theorem Band.trans {Y X : Nat} {w v v' : World} (h : Band Y X w v) (h' : Band Y X v v') : Band Y X w v' :=
  ⟨h'.os.trans h.os, h'.tape.trans h.tape, h'.output.trans h.output, Nat.le_trans h.size h'.size, fun j hj hh => (h'.block j (Nat.lt_of_lt_of_le hj h.size) hh).trans (h.block j hj hh)⟩
theorem Band.below {Y X B : Nat} {w v v' : World} (h : Band Y X v v') (b : Below B w v) (hB : B ≤ Y) (hs : B ≤ v.heap.size) : Below B w v' :=
  ⟨h.os.trans b.os, h.tape.trans b.tape, h.output.trans b.output, Nat.le_trans b.size h.size, fun j hj => (h.block j (by omega) (.inl (by omega))).trans (b.block j hj)⟩
theorem Band.blk {Y X g : Nat} {w w' : World} {cs : Array Value} {T : TypeId} (h : Band Y X w w') (hb : Blk w g cs T) (hg : g < Y ∨ X ≤ g) : Blk w' g cs T := (h.block g hb.lt hg).trans hb
theorem Band.row {Y X B e size n : Nat} {w w' : World} {v : Value} {xs : List Value} (h : Band Y X w w') (o : w.ownsRow B e size v n xs) (hg : ∀ g, v.ownBlock = some g → g < Y ∨ X ≤ g) : w'.ownsRow B e size v n xs := by
  refine ⟨o.1, ?_⟩
  rcases o.2 with h0 | ⟨g, cap, cur, rfl, hb, hh, rest⟩
  · exact .inl h0
  · exact .inr ⟨g, cap, cur, rfl, hb, (h.block g (Array.getElem?_eq_some_iff.1 hh).1 (hg g rfl)).trans hh, rest⟩
theorem Band.of_set {Y X : Nat} {w : World} (p : Addr) (v : Value) (h1 : Y ≤ p.block) (h2 : p.block < X) : Band Y X w (w.setCell p v) :=
  have b : Below 0 w (w.setCell p v) := (Below.refl 0 w).setCell (Nat.zero_le _) v
  ⟨b.os, b.tape, b.output, b.size, fun j _ hh => heap_setCell_other _ _ _ _ (by omega)⟩
end Mem
end Go.Proofs.YtkfpfckmjgjanabDoor

