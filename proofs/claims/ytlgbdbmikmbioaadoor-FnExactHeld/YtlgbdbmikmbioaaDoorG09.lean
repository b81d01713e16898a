/- Several texts of one claim in one file: WLawY, MemCop3, MemSpace. -/
import Derived.Test.YtlgbdbmikmbioaaDoorWLawJ
import Derived.Test.YtlgbdbmikmbioaaDoorG07
/- The walks of toItem and toItemS, with the rows of the nodes that were copied. -/
namespace Go.Proofs.YtlgbdbmikmbioaaDoor
open Go.RowKit
namespace WLawY
open WLaw
set_option linter.unusedSimpArgs false in
set_option maxRecDepth 100000 in
theorem toItem_any (x : Pl.It) (w : World) (hl : x.t.L.length ≤ 1048576) (hv : Mem.isNodes w x.t.a x.t.L) :
    Calls Tryd.prog 62 #[.agg #[.int .i64 x.m, .slice x.t.a x.t.L.length x.t.cap]] w fun e w' => ∃ g, e = .returned (.agg #[.int .i64 x.m, .slice (some ⟨g, 0, none⟩) x.t.L.length x.t.L.length]) ∧ w.heap.size ≤ g ∧ (∃ cs, w'.heap[g]? = some (.cells cs 138 (0, 0)) ∧ x.t.L.length * 5 ≤ cs.size) ∧ Mem.isNodes w' (some ⟨g, 0, none⟩) x.t.L ∧ Below w.heap.size w w' := by
  obtain ⟨m, a, cap, L⟩ := x
  simp only at hl hv ⊢
  have b0 : Below w.heap.size w (((w.alloc (.cells #[.int .i64 m, .slice a L.length cap] 109)).alloc (.cells #[.int .i64 0, .slice none 0 0] 116)).alloc (.cells #[.int .i64 m, .slice none 0 0] 116)) := (((Below.refl _ _).alloc (Nat.le_refl _) _).alloc (by simp) _).alloc (by simp; omega) _
  have hz := hide (toTree_row a cap L _ hl (Mem.nodes_call hv b0))
  have hs : (((w.alloc (.cells #[.int .i64 m, .slice a L.length cap] 109)).alloc (.cells #[.int .i64 0, .slice none 0 0] 116)).alloc (.cells #[.int .i64 m, .slice none 0 0] 116)).heap.size = w.heap.size + 1 + 1 + 1 := by simp
  have r1 : Mem.Blk (((w.alloc (.cells #[.int .i64 m, .slice a L.length cap] 109)).alloc (.cells #[.int .i64 0, .slice none 0 0] 116)).alloc (.cells #[.int .i64 m, .slice none 0 0] 116)) (w.heap.size + 1) #[.int .i64 0, .slice none 0 0] 116 := Mem.new_mid w _ _ _
  have r2 : Mem.Blk (((w.alloc (.cells #[.int .i64 m, .slice a L.length cap] 109)).alloc (.cells #[.int .i64 0, .slice none 0 0] 116)).alloc (.cells #[.int .i64 m, .slice none 0 0] 116)) (w.heap.size + 1 + 1) #[.int .i64 m, .slice none 0 0] 116 := Mem.new_three w _ _ _
  have HB0 := hide b0
  clear hv b0
  go_enter Tryd.func62, Tryd.ntmps62
  go_wp2_with fail
  generalize (((w.alloc (.cells #[.int .i64 m, .slice a L.length cap] 109)).alloc (.cells #[.int .i64 0, .slice none 0 0] 116)).alloc (.cells #[.int .i64 m, .slice none 0 0] 116)) = w3 at hz hs r1 r2 HB0 ⊢
  refine (unhide hz).mono ?_
  rintro e w1 ⟨g, rfl, hg, ⟨cs, hrow, hcs⟩, hn, b1⟩
  have HRW := hide hrow
  have HCS := hide hcs
  have R1 := r1.call b1
  have R2 := r2.call b1
  have c10 := R1.cell 0
  have c11 := R1.cell 1
  have c20 := R2.cell 0
  have c21 := R2.cell 1
  have f10 := R1.fr 0
  have f11 := R1.fr 1
  have f20 := R2.fr 0
  have f21 := R2.fr 1
  simp only [kA0, kA1, kA2] at c10 c11 c20 c21
  have bb := hide ((unhide HB0).trans (b1.mono (unhide HB0).size))
  have HG : Hid (w.heap.size + 1 + 1 + 1 ≤ g) := hide (by omega)
  have HN := hide hn
  clear hz b1 hn hs r1 r2 R1 R2 HB0 hg hrow hcs
  go_wp2
  have hg := unhide HG
  refine bodyPost_ret (v := .agg #[.int .i64 m, .slice (some ⟨g, 0, none⟩) L.length L.length]) (by simp [results, Tryd.results62, go_sem, c10, c11]) rfl ⟨g, rfl, by omega, ⟨cs, ?_, by have := unhide HCS; omega⟩, ?_, ?_⟩
  · rw [heap_setCell_other _ _ _ _ (by show g ≠ w.heap.size + 1; omega), heap_setCell_other _ _ _ _ (by show g ≠ w.heap.size + 1; omega), heap_setCell_other _ _ _ _ (by show g ≠ w.heap.size + 1 + 1; omega)]
    exact unhide HRW
  · exact Mem.nodes_far (Mem.nodes_far (Mem.nodes_far (unhide HN) _ _ (by show w.heap.size + 1 + 1 ≠ g; omega)) _ _ (by show w.heap.size + 1 ≠ g; omega)) _ _ (by show w.heap.size + 1 ≠ g; omega)
  · exact (((unhide bb).setCell (by show w.heap.size ≤ w.heap.size + 1 + 1; omega) _).setCell (by show w.heap.size ≤ w.heap.size + 1; omega) _).setCell (by show w.heap.size ≤ w.heap.size + 1; omega) _
/-- The items that were copied so far: each tree in a row of its own, behind the row of items. -/
structure CopI (w wr : World) (Ts D : List Pl.It) (cur : Array Value) : Prop where
  blk : wr.heap[w.heap.size]? = some (.cells cur 116 (0, 0))
  size : cur.size = Ts.length * 2
  same : D.map Pl.It.r = (Ts.take D.length).map Pl.It.r
  each : ∀ (j : Nat) t, D[j]? = some t → cur[j * 2]? = some (.int .i64 t.m) ∧ cur[j * 2 + 1]? = some t.t.val ∧ ∃ g, t.t.a = some ⟨g, 0, none⟩ ∧ w.heap.size < g ∧ Mem.isNodes wr t.t.a t.t.L ∧ ∃ cs, wr.heap[g]? = some (.cells cs 138 (0, 0)) ∧ t.t.L.length * 5 ≤ cs.size ∧ t.t.cap = t.t.L.length
theorem CopI.call {w wr W : World} {Ts D : List Pl.It} {cur : Array Value} (h : CopI w wr Ts D cur) (b : Below wr.heap.size wr W) : CopI w W Ts D cur :=
  ⟨(b.block _ (Array.getElem?_eq_some_iff.1 h.blk).1).trans h.blk, h.size, h.same, fun j t hj => ⟨(h.each j t hj).1, (h.each j t hj).2.1, by
    obtain ⟨g, h1, h2, h3, cs, h4, h5⟩ := (h.each j t hj).2.2
    exact ⟨g, h1, h2, Mem.nodes_call h3 b, cs, (b.block _ (Array.getElem?_eq_some_iff.1 h4).1).trans h4, h5⟩⟩⟩
theorem CopI.put {w wr : World} {Ts D : List Pl.It} {cur : Array Value} (h : CopI w wr Ts D cur) (t : Pl.It) (g : Nat) (hk : Ts[D.length]? = some t) (hg : w.heap.size < g) (hn : Mem.isNodes wr (some ⟨g, 0, none⟩) t.t.L) (hr : ∃ cs, wr.heap[g]? = some (.cells cs 138 (0, 0)) ∧ t.t.L.length * 5 ≤ cs.size) :
    CopI w ((wr.setCell ⟨w.heap.size, D.length * 2, none⟩ (.int .i64 t.m)).setCell ⟨w.heap.size, D.length * 2 + 1, none⟩ (.slice (some ⟨g, 0, none⟩) t.t.L.length t.t.L.length)) Ts (D ++ [⟨t.m, some ⟨g, 0, none⟩, t.t.L.length, t.t.L⟩]) ((cur.setIfInBounds (D.length * 2) (.int .i64 t.m)).setIfInBounds (D.length * 2 + 1) (.slice (some ⟨g, 0, none⟩) t.t.L.length t.t.L.length)) := by
  have hlt := (List.getElem?_eq_some_iff.1 hk).1
  have hsz := h.size
  refine ⟨heap_setCell_same _ _ _ _ _ _ (heap_setCell_same _ _ _ _ _ _ h.blk), by simpa using h.size, ?_, fun j m hj => ?_⟩
  · rw [List.length_append, List.length_singleton, List.take_add_one, hk, List.map_append, List.map_append, h.same]
    rfl
  · by_cases e : j < D.length
    · rw [List.getElem?_append_left e] at hj
      obtain ⟨h1, h1', g', h2, h3, h4, cs, h5, h6⟩ := h.each j m hj
      refine ⟨by rw [Array.getElem?_setIfInBounds, if_neg (by omega), Array.getElem?_setIfInBounds, if_neg (by omega)]; exact h1, by rw [Array.getElem?_setIfInBounds, if_neg (by omega), Array.getElem?_setIfInBounds, if_neg (by omega)]; exact h1', g', h2, h3, ?_, cs, (heap_setCell_other _ _ _ _ (by show g' ≠ w.heap.size; omega)).trans ((heap_setCell_other _ _ _ _ (by show g' ≠ w.heap.size; omega)).trans h5), h6⟩
      rw [h2] at h4 ⊢
      exact Mem.nodes_far (Mem.nodes_far h4 _ _ (by show w.heap.size ≠ g'; omega)) _ _ (by show w.heap.size ≠ g'; omega)
    · rw [List.getElem?_append_right (by omega)] at hj
      have hj0 : j = D.length := by
        have := (List.getElem?_eq_some_iff.1 hj).1
        simp at this; omega
      subst hj0
      simp at hj
      subst hj
      obtain ⟨cs, h5, h6⟩ := hr
      refine ⟨?_, ?_, g, rfl, hg, Mem.nodes_far (Mem.nodes_far hn _ _ (by show w.heap.size ≠ g; omega)) _ _ (by show w.heap.size ≠ g; omega), cs, (heap_setCell_other _ _ _ _ (by show g ≠ w.heap.size; omega)).trans ((heap_setCell_other _ _ _ _ (by show g ≠ w.heap.size; omega)).trans h5), h6, rfl⟩
      · rw [Array.getElem?_setIfInBounds, if_neg (by omega), Array.getElem?_setIfInBounds, if_pos rfl, if_pos (by omega)]
      · rw [Array.getElem?_setIfInBounds, if_pos rfl, if_pos (by rw [Array.size_setIfInBounds]; omega)]
        rfl
theorem CopI.items {w wr : World} {Ts D : List Pl.It} {cur : Array Value} (h : CopI w wr Ts D cur) : Mem.isItems wr (some ⟨w.heap.size, 0, none⟩) D := fun i t hi => by
  obtain ⟨h1, h1', g, h2, h3, h4, -⟩ := h.each i t hi
  refine ⟨⟨_, 0, rfl, (Array.getElem?_eq_some_iff.1 h.blk).1, ?_, ?_⟩, h4⟩
  · rw [cell_of_row wr _ _ _ _ (0, 0) h.blk, Nat.zero_add]
    exact h1
  · rw [cell_of_row wr _ _ _ _ (0, 0) h.blk, Nat.zero_add]
    exact h1'
set_option linter.unusedSimpArgs false in
set_option maxRecDepth 100000 in
set_option maxHeartbeats 800000 in
theorem toItemS_cop (a : Option Addr) (cap : Nat) (Ts : List Pl.It) (w : World) (hl : Ts.length ≤ 1048576) (hv : Mem.isItems w a Ts) (hok : ∀ t ∈ Ts, t.t.L.length ≤ 1048576) :
    Calls Tryd.prog 53 #[.slice a Ts.length cap] w fun e w' => e = .returned (.slice (some ⟨w.heap.size, 0, none⟩) Ts.length Ts.length) ∧ (∃ D cur, D.length = Ts.length ∧ CopI w w' Ts D cur) ∧ Below w.heap.size w w' := by
  have HV := hide hv
  have HO := hide hok
  have hmk := makeI Ts.length hl w
  clear hv hok
  go_enter Tryd.func53, Tryd.ntmps53
  go_wp2
  go_loopw [4] (fun i wr => ∃ (D : List Pl.It) (cur : Array Value), D.length ≤ Ts.length ∧ i = .int .i64 (D.length : Int) ∧ Below w.heap.size w wr ∧ Hid (CopI w wr Ts D cur)) (fun i _ => Ts.length - (intOf i).toNat)
  case atStart => exact ⟨[], zeroItems Ts.length, Nat.zero_le _, rfl, (Below.refl _ _).alloc (Nat.le_refl _) _, hide ⟨heap_alloc_new w _, zeroItems_size _, rfl, fun j t h => by simp at h⟩⟩
  case round =>
    obtain ⟨D, cur, hk, rfl, hbel, HC⟩ := hrel
    by_cases hlt : D.length < Ts.length
    · obtain ⟨t, ht⟩ : ∃ t, Ts[D.length]? = some t := ⟨_, List.getElem?_eq_getElem hlt⟩
      obtain ⟨⟨b, o, rfl, hb, q0, q0'⟩, q1⟩ := (unhide HV) D.length t ht
      have c0 := (hbel.cell (p := ⟨b, _, none⟩) hb).trans q0
      have c1 := (hbel.cell (p := ⟨b, _, none⟩) hb).trans q0'
      have hz := hide (fun W (b : Below w.heap.size w W) => toItem_any t W (unhide HO t (List.mem_of_getElem? ht)) (Mem.nodes_call q1 b))
      have HN := hide ht
      have u1 : (D.length : Int) < (Ts.length : Int) := by omega
      have u3 : (0 : Int) ≤ (D.length : Int) := by omega
      simp only [Pl.Tr.val] at c1
      clear q0 q0' ht q1
      go_wp2_with fail
      refine (unhide hz _ hbel).mono ?_
      rintro e w1 ⟨g, rfl, hg, hrr, hn, b1⟩
      have hgw : w.heap.size < g := by have := (Array.getElem?_eq_some_iff.1 (unhide HC).blk).1; omega
      have C1 := (unhide HC).call b1
      have hb2 := hbel.trans (b1.mono hbel.size)
      have hcs := C1.size
      obtain ⟨x0, s0⟩ : ∃ x, w1.cell? ⟨w.heap.size, D.length * 2, none⟩ = some x := ⟨_, (cell_of_row w1 _ (D.length * 2) _ _ (0, 0) C1.blk).trans (Array.getElem?_eq_getElem (by omega))⟩
      obtain ⟨x1, s1⟩ : ∃ x, w1.cell? ⟨w.heap.size, D.length * 2 + 1, none⟩ = some x := ⟨_, (cell_of_row w1 _ (D.length * 2 + 1) _ _ (0, 0) C1.blk).trans (Array.getElem?_eq_getElem (by omega))⟩
      have f0 : w1.frozen? ⟨w.heap.size, D.length * 2, none⟩ = false := Mem.row_frozen C1.blk
      have f1 : w1.frozen? ⟨w.heap.size, D.length * 2 + 1, none⟩ = false := Mem.row_frozen C1.blk
      have HC2 := hide (C1.put t g (unhide HN) hgw hn hrr)
      have HB2 := hide hb2
      clear b1 hbel hz HC C1 hn hg hb2 hcs hrr
      go_wp2
      go_roundw
      case rel => exact ⟨_, _, by rw [List.length_append, List.length_singleton]; omega, by rw [List.length_append, List.length_singleton]; go_num, ((unhide HB2).setCell (Nat.le_refl _) _).setCell (Nat.le_refl _) _, HC2⟩
      case measure => simp [intOf]; omega
    · have u1 : ¬ (D.length : Int) < (Ts.length : Int) := by omega
      go_wp2
      go_ret
      exact ⟨rfl, ⟨D, by omega, cur, unhide HC⟩, hbel⟩
/-- A row of items in memory of the call's own, each with its own row of nodes behind it. -/
structure Rows (W : World) (g : Nat) (D : List Pl.It) : Prop where
  items : Mem.isItems W (some ⟨g, 0, none⟩) D
  blk : ∃ cur, W.heap[g]? = some (.cells cur 116 (0, 0)) ∧ cur.size = D.length * 2
  each : ∀ (j : Nat) t, D[j]? = some t → ∃ q, t.t.a = some ⟨q, 0, none⟩ ∧ g < q ∧ q < W.heap.size ∧ ∃ cs, W.heap[q]? = some (.cells cs 138 (0, 0)) ∧ t.t.L.length * 5 ≤ cs.size ∧ t.t.cap = t.t.L.length
theorem toItemS_any (a : Option Addr) (cap : Nat) (Ts : List Pl.It) (w : World) (hl : Ts.length ≤ 1048576) (hv : Mem.isItems w a Ts) (hok : ∀ t ∈ Ts, t.t.L.length ≤ 1048576) :
    Calls Tryd.prog 53 #[.slice a Ts.length cap] w fun e w' => ∃ g D, e = .returned (.slice (some ⟨g, 0, none⟩) Ts.length Ts.length) ∧ w.heap.size ≤ g ∧ D.length = Ts.length ∧ D.map Pl.It.r = Ts.map Pl.It.r ∧ Rows w' g D ∧ Below w.heap.size w w' :=
  (toItemS_cop a cap Ts w hl hv hok).mono fun _ _ ⟨he, ⟨D, cur, hD, hC⟩, b⟩ => ⟨_, D, he, Nat.le_refl _, hD, by rw [hC.same, hD, List.take_length], ⟨hC.items, ⟨cur, hC.blk, by rw [hC.size, hD]⟩, fun j t hj => by
    obtain ⟨-, -, g, h2, h3, -, cs, h5, h6⟩ := hC.each j t hj
    exact ⟨g, h2, h3, (Array.getElem?_eq_some_iff.1 h5).1, cs, h5, h6⟩⟩, b⟩
end WLawY
end Go.Proofs.YtlgbdbmikmbioaaDoor

/- Rows of things of three cells, copied one by one. No program in sight. -/
namespace Go.Proofs.YtlgbdbmikmbioaaDoor
open Go.RowKit
namespace Mem
structure Cop3 {α : Type} (T : TypeId) (f0 f1 f2 : α → Value) (w wr : World) (n : Nat) (D : List α) (cur : Array Value) : Prop where
  blk : wr.heap[w.heap.size]? = some (.cells cur T (0, 0))
  size : cur.size = n * 3
  each : ∀ (j : Nat) x, D[j]? = some x → cur[j * 3]? = some (f0 x) ∧ cur[j * 3 + 1]? = some (f1 x) ∧ cur[j * 3 + 2]? = some (f2 x)
theorem Cop3.call {α : Type} {T : TypeId} {f0 f1 f2 : α → Value} {w wr W : World} {n : Nat} {D : List α} {cur : Array Value} (h : Cop3 T f0 f1 f2 w wr n D cur) (b : Below wr.heap.size wr W) : Cop3 T f0 f1 f2 w W n D cur :=
  ⟨(b.block _ (Array.getElem?_eq_some_iff.1 h.blk).1).trans h.blk, h.size, h.each⟩
theorem Cop3.put {α : Type} {T : TypeId} {f0 f1 f2 : α → Value} {w wr : World} {n : Nat} {D : List α} {cur : Array Value} (h : Cop3 T f0 f1 f2 w wr n D cur) (x : α) (hk : D.length < n) :
    Cop3 T f0 f1 f2 w (((wr.setCell ⟨w.heap.size, D.length * 3, none⟩ (f0 x)).setCell ⟨w.heap.size, D.length * 3 + 1, none⟩ (f1 x)).setCell ⟨w.heap.size, D.length * 3 + 2, none⟩ (f2 x)) n (D ++ [x]) (((cur.setIfInBounds (D.length * 3) (f0 x)).setIfInBounds (D.length * 3 + 1) (f1 x)).setIfInBounds (D.length * 3 + 2) (f2 x)) := by
  have hs := h.size
  refine ⟨heap_setCell_same _ _ _ _ _ _ (heap_setCell_same _ _ _ _ _ _ (heap_setCell_same _ _ _ _ _ _ h.blk)), by simpa using h.size, fun j y hj => ?_⟩
  by_cases e : j < D.length
  · rw [List.getElem?_append_left e] at hj
    obtain ⟨h1, h2, h3⟩ := h.each j y hj
    refine ⟨?_, ?_, ?_⟩
    · rw [Array.getElem?_setIfInBounds, if_neg (by omega), Array.getElem?_setIfInBounds, if_neg (by omega), Array.getElem?_setIfInBounds, if_neg (by omega)]; exact h1
    · rw [Array.getElem?_setIfInBounds, if_neg (by omega), Array.getElem?_setIfInBounds, if_neg (by omega), Array.getElem?_setIfInBounds, if_neg (by omega)]; exact h2
    · rw [Array.getElem?_setIfInBounds, if_neg (by omega), Array.getElem?_setIfInBounds, if_neg (by omega), Array.getElem?_setIfInBounds, if_neg (by omega)]; exact h3
  · rw [List.getElem?_append_right (by omega)] at hj
    have hj0 : j = D.length := by
      have := (List.getElem?_eq_some_iff.1 hj).1
      simp at this; omega
    subst hj0
    simp at hj
    subst hj
    refine ⟨?_, ?_, ?_⟩
    · rw [Array.getElem?_setIfInBounds, if_neg (by omega), Array.getElem?_setIfInBounds, if_neg (by omega), Array.getElem?_setIfInBounds, if_pos rfl, if_pos (by omega)]
    · rw [Array.getElem?_setIfInBounds, if_neg (by omega), Array.getElem?_setIfInBounds, if_pos rfl, if_pos (by rw [Array.size_setIfInBounds]; omega)]
    · rw [Array.getElem?_setIfInBounds, if_pos rfl, if_pos (by rw [Array.size_setIfInBounds, Array.size_setIfInBounds]; omega)]
theorem Cop3.cell {α : Type} {T : TypeId} {f0 f1 f2 : α → Value} {w wr : World} {n : Nat} {D : List α} {cur : Array Value} (h : Cop3 T f0 f1 f2 w wr n D cur) {k : Nat} (hk : k < n * 3) : (∃ x, wr.cell? ⟨w.heap.size, k, none⟩ = some x) ∧ wr.frozen? ⟨w.heap.size, k, none⟩ = false :=
  ⟨⟨_, (cell_of_row wr _ k _ _ (0, 0) h.blk).trans (Array.getElem?_eq_getElem (by have := h.size; omega))⟩, row_frozen h.blk⟩
theorem Cop3.got {α : Type} {T : TypeId} {f0 f1 f2 : α → Value} {w wr : World} {n : Nat} {D : List α} {cur : Array Value} (h : Cop3 T f0 f1 f2 w wr n D cur) {i : Nat} {x : α} (hi : D[i]? = some x) : w.heap.size < wr.heap.size ∧ wr.cell? ⟨w.heap.size, 0 + i * 3, none⟩ = some (f0 x) ∧ wr.cell? ⟨w.heap.size, 0 + i * 3 + 1, none⟩ = some (f1 x) ∧ wr.cell? ⟨w.heap.size, 0 + i * 3 + 2, none⟩ = some (f2 x) := by
  obtain ⟨h1, h2, h3⟩ := h.each i x hi
  refine ⟨(Array.getElem?_eq_some_iff.1 h.blk).1, ?_, ?_, ?_⟩
  · rw [cell_of_row wr _ _ _ _ (0, 0) h.blk, Nat.zero_add]; exact h1
  · rw [cell_of_row wr _ _ _ _ (0, 0) h.blk, Nat.zero_add]; exact h2
  · rw [cell_of_row wr _ _ _ _ (0, 0) h.blk, Nat.zero_add]; exact h3
end Mem
end Go.Proofs.YtlgbdbmikmbioaaDoor

/- Spaces in memory: rows of instances, of mounts and of handles. -/
namespace Go.Proofs.YtlgbdbmikmbioaaDoor
open Go.RowKit
namespace Pl
/-- A mount. -/
structure Mn where
  p : ByteArray
  i : Int
  z : Bool
/-- A handle. -/
structure Hn where
  d : Int
  i : Int
  p : ByteArray
/-- An instance as it lies: its number, and its nest. -/
structure Ns where
  d : Int
  a : Option Addr
  cap : Nat
  Is : List It
/-- An instance as it reads. -/
def Ns.r (x : Ns) : Int × List (Int × List Nd) := (x.d, x.Is.map It.r)
/-- A space as it lies. -/
structure Sp where
  ia : Option Addr
  ic : Nat
  N : List Ns
  ma : Option Addr
  mc : Nat
  M : List Mn
  ha : Option Addr
  hc : Nat
  H : List Hn
  next : Int
def Sp.cs (s : Sp) : Array Value := #[.slice s.ia s.N.length s.ic, .slice s.ma s.M.length s.mc, .slice s.ha s.H.length s.hc, .int .i64 s.next]
end Pl
namespace Mem
def isMounts (w : World) (a : Option Addr) (L : List Pl.Mn) : Prop :=
  ∀ (i : Nat) x, L[i]? = some x → ∃ b o, a = some ⟨b, o, none⟩ ∧ b < w.heap.size ∧ w.cell? ⟨b, o + i * 3, none⟩ = some (.string x.p) ∧ w.cell? ⟨b, o + i * 3 + 1, none⟩ = some (.int .i64 x.i) ∧ w.cell? ⟨b, o + i * 3 + 2, none⟩ = some (.bool x.z)
def isHands (w : World) (a : Option Addr) (L : List Pl.Hn) : Prop :=
  ∀ (i : Nat) x, L[i]? = some x → ∃ b o, a = some ⟨b, o, none⟩ ∧ b < w.heap.size ∧ w.cell? ⟨b, o + i * 3, none⟩ = some (.int .i64 x.d) ∧ w.cell? ⟨b, o + i * 3 + 1, none⟩ = some (.int .i64 x.i) ∧ w.cell? ⟨b, o + i * 3 + 2, none⟩ = some (.string x.p)
def isInsts (w : World) (a : Option Addr) (L : List Pl.Ns) : Prop :=
  ∀ (i : Nat) x, L[i]? = some x → (∃ b o, a = some ⟨b, o, none⟩ ∧ b < w.heap.size ∧ w.cell? ⟨b, o + i * 2, none⟩ = some (.int .i64 x.d) ∧ w.cell? ⟨b, o + i * 2 + 1, none⟩ = some (.slice x.a x.Is.length x.cap)) ∧ isItems w x.a x.Is
theorem mounts_call {w w' : World} {a : Option Addr} {L : List Pl.Mn} (h : isMounts w a L) (b : Below w.heap.size w w') : isMounts w' a L := fun i x hi => by
  obtain ⟨g, o, h1, h2, h3, h4, h5⟩ := h i x hi
  exact ⟨g, o, h1, Nat.lt_of_lt_of_le h2 b.size, (b.cell (p := ⟨g, _, none⟩) h2).trans h3, (b.cell (p := ⟨g, _, none⟩) h2).trans h4, (b.cell (p := ⟨g, _, none⟩) h2).trans h5⟩
theorem hands_call {w w' : World} {a : Option Addr} {L : List Pl.Hn} (h : isHands w a L) (b : Below w.heap.size w w') : isHands w' a L := fun i x hi => by
  obtain ⟨g, o, h1, h2, h3, h4, h5⟩ := h i x hi
  exact ⟨g, o, h1, Nat.lt_of_lt_of_le h2 b.size, (b.cell (p := ⟨g, _, none⟩) h2).trans h3, (b.cell (p := ⟨g, _, none⟩) h2).trans h4, (b.cell (p := ⟨g, _, none⟩) h2).trans h5⟩
theorem insts_call {w w' : World} {a : Option Addr} {L : List Pl.Ns} (h : isInsts w a L) (b : Below w.heap.size w w') : isInsts w' a L := fun i x hi => by
  obtain ⟨⟨g, o, h1, h2, h3, h4⟩, h5⟩ := h i x hi
  exact ⟨⟨g, o, h1, Nat.lt_of_lt_of_le h2 b.size, (b.cell (p := ⟨g, _, none⟩) h2).trans h3, (b.cell (p := ⟨g, _, none⟩) h2).trans h4⟩, items_call h5 b⟩
theorem mounts_nil (w : World) (a : Option Addr) : isMounts w a [] := fun i x h => by simp at h
theorem hands_nil (w : World) (a : Option Addr) : isHands w a [] := fun i x h => by simp at h
theorem insts_nil (w : World) (a : Option Addr) : isInsts w a [] := fun i x h => by simp at h
structure isSpace (w : World) (s : Pl.Sp) : Prop where
  insts : isInsts w s.ia s.N
  mounts : isMounts w s.ma s.M
  hands : isHands w s.ha s.H
theorem isSpace.call {w w' : World} {s : Pl.Sp} (h : isSpace w s) (b : Below w.heap.size w w') : isSpace w' s := ⟨insts_call h.insts b, mounts_call h.mounts b, hands_call h.hands b⟩
end Mem
end Go.Proofs.YtlgbdbmikmbioaaDoor

