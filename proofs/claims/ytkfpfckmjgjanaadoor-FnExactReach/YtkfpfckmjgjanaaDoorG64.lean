/- Several texts of one claim in one file: WLawJ, WLawK, OkItems, OpenItems. -/
import Derived.Test.YtkfpfckmjgjanaaDoorG63
import Derived.Test.YtkfpfckmjgjanaaDoorG13
import Derived.Test.YtkfpfckmjgjanaaDoorG56
/- The walks of toItem and toItemS. -/
namespace Go.Proofs.YtkfpfckmjgjanaaDoor
open Go.RowKit
namespace WLaw
set_option linter.unusedSimpArgs false in
set_option maxRecDepth 100000 in
theorem toItem_any (x : Pl.It) (w : World) (hl : x.t.L.length ≤ 1048576) (hv : Mem.isNodes w x.t.a x.t.L) :
    Calls Tryd.prog 38 #[.agg #[.int .i64 x.m, .slice x.t.a x.t.L.length x.t.cap]] w fun e w' => ∃ g, e = .returned (.agg #[.int .i64 x.m, .slice (some ⟨g, 0, none⟩) x.t.L.length x.t.L.length]) ∧ w.heap.size ≤ g ∧ Mem.isNodes w' (some ⟨g, 0, none⟩) x.t.L ∧ Below w.heap.size w w' := by
  obtain ⟨m, a, cap, L⟩ := x
  simp only at hl hv ⊢
  have b0 : Below w.heap.size w (((w.alloc (.cells #[.int .i64 m, .slice a L.length cap] 57)).alloc (.cells #[.int .i64 0, .slice none 0 0] 61)).alloc (.cells #[.int .i64 m, .slice none 0 0] 61)) := (((Below.refl _ _).alloc (Nat.le_refl _) _).alloc (by simp) _).alloc (by simp; omega) _
  have hz := hide (toTree_row a cap L _ hl (Mem.nodes_call hv b0))
  have hs : (((w.alloc (.cells #[.int .i64 m, .slice a L.length cap] 57)).alloc (.cells #[.int .i64 0, .slice none 0 0] 61)).alloc (.cells #[.int .i64 m, .slice none 0 0] 61)).heap.size = w.heap.size + 1 + 1 + 1 := by simp
  have r1 : Mem.Blk (((w.alloc (.cells #[.int .i64 m, .slice a L.length cap] 57)).alloc (.cells #[.int .i64 0, .slice none 0 0] 61)).alloc (.cells #[.int .i64 m, .slice none 0 0] 61)) (w.heap.size + 1) #[.int .i64 0, .slice none 0 0] 61 := Mem.new_mid w _ _ _
  have r2 : Mem.Blk (((w.alloc (.cells #[.int .i64 m, .slice a L.length cap] 57)).alloc (.cells #[.int .i64 0, .slice none 0 0] 61)).alloc (.cells #[.int .i64 m, .slice none 0 0] 61)) (w.heap.size + 1 + 1) #[.int .i64 m, .slice none 0 0] 61 := Mem.new_three w _ _ _
  have HB0 := hide b0
  clear hv b0
  go_enter Tryd.func38, Tryd.ntmps38
  go_wp2_with fail
  generalize (((w.alloc (.cells #[.int .i64 m, .slice a L.length cap] 57)).alloc (.cells #[.int .i64 0, .slice none 0 0] 61)).alloc (.cells #[.int .i64 m, .slice none 0 0] 61)) = w3 at hz hs r1 r2 HB0 ⊢
  refine (unhide hz).mono ?_
  rintro e w1 ⟨g, rfl, hg, -, hn, b1⟩
  have R1 := r1.call b1
  have R2 := r2.call b1
  have c10 := R1.cell 0
  have c11 := R1.cell 1
  have c20 := R2.cell 0
  have c21 := R2.cell 1
  have f10 := R1.fr 0
  have f11 := R1.fr 1
  have f20 := R2.fr 0
  have f21 := R2.fr 1
  simp only [kA0, kA1, kA2] at c10 c11 c20 c21
  have bb := hide ((unhide HB0).trans (b1.mono (unhide HB0).size))
  have HG : Hid (w.heap.size + 1 + 1 + 1 ≤ g) := hide (by omega)
  have HN := hide hn
  clear hz b1 hn hs r1 r2 R1 R2 HB0 hg
  go_wp2
  have hg := unhide HG
  refine bodyPost_ret (v := .agg #[.int .i64 m, .slice (some ⟨g, 0, none⟩) L.length L.length]) (by simp [results, Tryd.results38, go_sem, c10, c11]) rfl ⟨g, rfl, by omega, ?_, ?_⟩
  · exact Mem.nodes_far (Mem.nodes_far (Mem.nodes_far (unhide HN) _ _ (by show w.heap.size + 1 + 1 ≠ g; omega)) _ _ (by show w.heap.size + 1 ≠ g; omega)) _ _ (by show w.heap.size + 1 ≠ g; omega)
  · exact (((unhide bb).setCell (by show w.heap.size ≤ w.heap.size + 1 + 1; omega) _).setCell (by show w.heap.size ≤ w.heap.size + 1; omega) _).setCell (by show w.heap.size ≤ w.heap.size + 1; omega) _
def zeroItems (n : Nat) : Array Value := madeCells (Value.agg #[.int .i64 0, .slice none 0 0]).cells (n * 2)
theorem zeroItems_size (n : Nat) : (zeroItems n).size = n * 2 := size_madeCells _ _
theorem infoI : (Tryd.prog.info? 61).map (fun i => (i.zero, i.size, i.bytes)) = some (some (.agg #[.int .i64 0, .slice none 0 0]), 2, 32) := by kernel_rfl
theorem makeI (n : Nat) (hn : n ≤ 1048576) (w : World) : (Instr.makeSlice 25 (.int .i64 (n : Int)) (.int .i64 (n : Int))).run Tryd.prog w = .ok (.slice (some ⟨w.heap.size, 0, none⟩) n n) (w.alloc (.cells (zeroItems n) 61)) := by
  obtain ⟨i0, h0, h1, h2, h3⟩ := info_parts infoI
  have h := run_make (P := Tryd.prog) w 25 61 i0 (.agg #[.int .i64 0, .slice none 0 0]) Tryd.underlying25 h0 h1 .i64 .i64 (n : Int) (n : Int) (by omega) (Int.le_refl _) (by rw [h3]; omega) (by omega)
  rw [h, h2]
  simp [zeroItems]
/-- The items that were copied so far: each tree in a row of its own, behind the row of items. -/
structure CopI (w wr : World) (Ts D : List Pl.It) (cur : Array Value) : Prop where
  blk : wr.heap[w.heap.size]? = some (.cells cur 61 (0, 0))
  size : cur.size = Ts.length * 2
  same : D.map Pl.It.r = (Ts.take D.length).map Pl.It.r
  each : ∀ (j : Nat) t, D[j]? = some t → cur[j * 2]? = some (.int .i64 t.m) ∧ cur[j * 2 + 1]? = some t.t.val ∧ ∃ g, t.t.a = some ⟨g, 0, none⟩ ∧ w.heap.size < g ∧ Mem.isNodes wr t.t.a t.t.L
theorem CopI.call {w wr W : World} {Ts D : List Pl.It} {cur : Array Value} (h : CopI w wr Ts D cur) (b : Below wr.heap.size wr W) : CopI w W Ts D cur :=
  ⟨(b.block _ (Array.getElem?_eq_some_iff.1 h.blk).1).trans h.blk, h.size, h.same, fun j t hj => ⟨(h.each j t hj).1, (h.each j t hj).2.1, by
    obtain ⟨g, h1, h2, h3⟩ := (h.each j t hj).2.2
    exact ⟨g, h1, h2, Mem.nodes_call h3 b⟩⟩⟩
theorem CopI.put {w wr : World} {Ts D : List Pl.It} {cur : Array Value} (h : CopI w wr Ts D cur) (t : Pl.It) (g : Nat) (hk : Ts[D.length]? = some t) (hg : w.heap.size < g) (hn : Mem.isNodes wr (some ⟨g, 0, none⟩) t.t.L) :
    CopI w ((wr.setCell ⟨w.heap.size, D.length * 2, none⟩ (.int .i64 t.m)).setCell ⟨w.heap.size, D.length * 2 + 1, none⟩ (.slice (some ⟨g, 0, none⟩) t.t.L.length t.t.L.length)) Ts (D ++ [⟨t.m, some ⟨g, 0, none⟩, t.t.L.length, t.t.L⟩]) ((cur.setIfInBounds (D.length * 2) (.int .i64 t.m)).setIfInBounds (D.length * 2 + 1) (.slice (some ⟨g, 0, none⟩) t.t.L.length t.t.L.length)) := by
  have hlt := (List.getElem?_eq_some_iff.1 hk).1
  have hsz := h.size
  refine ⟨heap_setCell_same _ _ _ _ _ _ (heap_setCell_same _ _ _ _ _ _ h.blk), by simpa using h.size, ?_, fun j m hj => ?_⟩
  · rw [List.length_append, List.length_singleton, List.take_add_one, hk, List.map_append, List.map_append, h.same]
    rfl
  · by_cases e : j < D.length
    · rw [List.getElem?_append_left e] at hj
      obtain ⟨h1, h1', g', h2, h3, h4⟩ := h.each j m hj
      refine ⟨by rw [Array.getElem?_setIfInBounds, if_neg (by omega), Array.getElem?_setIfInBounds, if_neg (by omega)]; exact h1, by rw [Array.getElem?_setIfInBounds, if_neg (by omega), Array.getElem?_setIfInBounds, if_neg (by omega)]; exact h1', g', h2, h3, ?_⟩
      rw [h2] at h4 ⊢
      exact Mem.nodes_far (Mem.nodes_far h4 _ _ (by show w.heap.size ≠ g'; omega)) _ _ (by show w.heap.size ≠ g'; omega)
    · rw [List.getElem?_append_right (by omega)] at hj
      have hj0 : j = D.length := by
        have := (List.getElem?_eq_some_iff.1 hj).1
        simp at this; omega
      subst hj0
      simp at hj
      subst hj
      refine ⟨?_, ?_, g, rfl, hg, Mem.nodes_far (Mem.nodes_far hn _ _ (by show w.heap.size ≠ g; omega)) _ _ (by show w.heap.size ≠ g; omega)⟩
      · rw [Array.getElem?_setIfInBounds, if_neg (by omega), Array.getElem?_setIfInBounds, if_pos rfl, if_pos (by omega)]
      · rw [Array.getElem?_setIfInBounds, if_pos rfl, if_pos (by rw [Array.size_setIfInBounds]; omega)]
        rfl
theorem CopI.items {w wr : World} {Ts D : List Pl.It} {cur : Array Value} (h : CopI w wr Ts D cur) : Mem.isItems wr (some ⟨w.heap.size, 0, none⟩) D := fun i t hi => by
  obtain ⟨h1, h1', g, h2, h3, h4⟩ := h.each i t hi
  refine ⟨⟨_, 0, rfl, (Array.getElem?_eq_some_iff.1 h.blk).1, ?_, ?_⟩, h4⟩
  · rw [cell_of_row wr _ _ _ _ (0, 0) h.blk, Nat.zero_add]
    exact h1
  · rw [cell_of_row wr _ _ _ _ (0, 0) h.blk, Nat.zero_add]
    exact h1'
set_option linter.unusedSimpArgs false in
set_option maxRecDepth 100000 in
set_option maxHeartbeats 800000 in
theorem toItemS_cop (a : Option Addr) (cap : Nat) (Ts : List Pl.It) (w : World) (hl : Ts.length ≤ 1048576) (hv : Mem.isItems w a Ts) (hok : ∀ t ∈ Ts, t.t.L.length ≤ 1048576) :
    Calls Tryd.prog 11 #[.slice a Ts.length cap] w fun e w' => e = .returned (.slice (some ⟨w.heap.size, 0, none⟩) Ts.length Ts.length) ∧ (∃ D cur, D.length = Ts.length ∧ CopI w w' Ts D cur) ∧ Below w.heap.size w w' := by
  have HV := hide hv
  have HO := hide hok
  have hmk := makeI Ts.length hl w
  clear hv hok
  go_enter Tryd.func11, Tryd.ntmps11
  go_wp2
  go_loopw [4] (fun i wr => ∃ (D : List Pl.It) (cur : Array Value), D.length ≤ Ts.length ∧ i = .int .i64 (D.length : Int) ∧ Below w.heap.size w wr ∧ Hid (CopI w wr Ts D cur)) (fun i _ => Ts.length - (intOf i).toNat)
  case atStart => exact ⟨[], zeroItems Ts.length, Nat.zero_le _, rfl, (Below.refl _ _).alloc (Nat.le_refl _) _, hide ⟨heap_alloc_new w _, zeroItems_size _, rfl, fun j t h => by simp at h⟩⟩
  case round =>
    obtain ⟨D, cur, hk, rfl, hbel, HC⟩ := hrel
    by_cases hlt : D.length < Ts.length
    · obtain ⟨t, ht⟩ : ∃ t, Ts[D.length]? = some t := ⟨_, List.getElem?_eq_getElem hlt⟩
      obtain ⟨⟨b, o, rfl, hb, q0, q0'⟩, q1⟩ := (unhide HV) D.length t ht
      have c0 := (hbel.cell (p := ⟨b, _, none⟩) hb).trans q0
      have c1 := (hbel.cell (p := ⟨b, _, none⟩) hb).trans q0'
      have hz := hide (fun W (b : Below w.heap.size w W) => toItem_any t W (unhide HO t (List.mem_of_getElem? ht)) (Mem.nodes_call q1 b))
      have HN := hide ht
      have u1 : (D.length : Int) < (Ts.length : Int) := by omega
      have u3 : (0 : Int) ≤ (D.length : Int) := by omega
      simp only [Pl.Tr.val] at c1
      clear q0 q0' ht q1
      go_wp2_with fail
      refine (unhide hz _ hbel).mono ?_
      rintro e w1 ⟨g, rfl, hg, hn, b1⟩
      have hgw : w.heap.size < g := by have := (Array.getElem?_eq_some_iff.1 (unhide HC).blk).1; omega
      have C1 := (unhide HC).call b1
      have hb2 := hbel.trans (b1.mono hbel.size)
      have hcs := C1.size
      obtain ⟨x0, s0⟩ : ∃ x, w1.cell? ⟨w.heap.size, D.length * 2, none⟩ = some x := ⟨_, (cell_of_row w1 _ (D.length * 2) _ _ (0, 0) C1.blk).trans (Array.getElem?_eq_getElem (by omega))⟩
      obtain ⟨x1, s1⟩ : ∃ x, w1.cell? ⟨w.heap.size, D.length * 2 + 1, none⟩ = some x := ⟨_, (cell_of_row w1 _ (D.length * 2 + 1) _ _ (0, 0) C1.blk).trans (Array.getElem?_eq_getElem (by omega))⟩
      have f0 : w1.frozen? ⟨w.heap.size, D.length * 2, none⟩ = false := Mem.row_frozen C1.blk
      have f1 : w1.frozen? ⟨w.heap.size, D.length * 2 + 1, none⟩ = false := Mem.row_frozen C1.blk
      have HC2 := hide (C1.put t g (unhide HN) hgw hn)
      have HB2 := hide hb2
      clear b1 hbel hz HC C1 hn hg hb2 hcs
      go_wp2
      go_roundw
      case rel => exact ⟨_, _, by rw [List.length_append, List.length_singleton]; omega, by rw [List.length_append, List.length_singleton]; go_num, ((unhide HB2).setCell (Nat.le_refl _) _).setCell (Nat.le_refl _) _, HC2⟩
      case measure => simp [intOf]; omega
    · have u1 : ¬ (D.length : Int) < (Ts.length : Int) := by omega
      go_wp2
      go_ret
      exact ⟨rfl, ⟨D, by omega, cur, unhide HC⟩, hbel⟩
theorem toItemS_any (a : Option Addr) (cap : Nat) (Ts : List Pl.It) (w : World) (hl : Ts.length ≤ 1048576) (hv : Mem.isItems w a Ts) (hok : ∀ t ∈ Ts, t.t.L.length ≤ 1048576) :
    Calls Tryd.prog 11 #[.slice a Ts.length cap] w fun e w' => ∃ g D, e = .returned (.slice (some ⟨g, 0, none⟩) Ts.length Ts.length) ∧ w.heap.size ≤ g ∧ D.length = Ts.length ∧ D.map Pl.It.r = Ts.map Pl.It.r ∧ Mem.isItems w' (some ⟨g, 0, none⟩) D ∧ Below w.heap.size w w' :=
  (toItemS_cop a cap Ts w hl hv hok).mono fun _ _ ⟨he, ⟨D, cur, hD, hC⟩, b⟩ => ⟨_, D, he, Nat.le_refl _, hD, by rw [hC.same, hD, List.take_length], hC.items, b⟩
end WLaw
end Go.Proofs.YtkfpfckmjgjanaaDoor

/- The walks of eqItem and eqItemS. -/
namespace Go.Proofs.YtkfpfckmjgjanaaDoor
open Go.RowKit
namespace WLaw
set_option maxRecDepth 100000 in
set_option maxHeartbeats 800000 in
theorem eqItem_any (m : Int) (a b : Option Addr) (c1 c2 : Nat) (L : List Pl.Nd) (w : World) (hl : L.length ≤ 1048576) (hv : Mem.isNodes w a L) (hu : Mem.isNodes w b L) :
    Calls Tryd.prog 43 #[.agg #[.int .i64 m, .slice a L.length c1], .agg #[.int .i64 m, .slice b L.length c2]] w fun e w' => e = .returned (.bool true) ∧ Below w.heap.size w w' := by
  have b0 : ∀ o1 o2, Below w.heap.size w ((w.alloc o1).alloc o2) := fun o1 o2 => ((Below.refl _ _).alloc (Nat.le_refl _) o1).alloc (by simp) o2
  have HB := hide b0
  have HZ := hide (fun W (b' : Below w.heap.size w W) => eqTree_any a b c1 c2 L W hl (Mem.nodes_call hv b') (Mem.nodes_call hu b'))
  clear hv hu b0
  go_enter Tryd.func43, Tryd.ntmps43
  go_wp2_with fail
  refine (unhide HZ _ (unhide HB _ _)).mono ?_
  rintro e w1 ⟨rfl, b1⟩
  have bb := (unhide HB _ _).trans (b1.mono (unhide HB _ _).size)
  clear HZ b1
  go_wp2
  go_ret
  exact ⟨rfl, bb⟩
set_option maxRecDepth 100000 in
set_option maxHeartbeats 800000 in
theorem eqItemS_any (a b : Option Addr) (c1 c2 : Nat) (Ts Us : List Pl.It) (w : World) (hl : Ts.length ≤ 1048576) (hm : Us.map Pl.It.r = Ts.map Pl.It.r) (hv : Mem.isItems w a Ts) (hu : Mem.isItems w b Us) (hok : ∀ t ∈ Ts, t.t.L.length ≤ 1048576) :
    Calls Tryd.prog 13 #[.slice a Ts.length c1, .slice b Ts.length c2] w fun e w' => e = .returned (.bool true) ∧ Below w.heap.size w w' := by
  have HV := hide hv
  have HU := hide hu
  have HO := hide hok
  have HM := hide hm
  clear hv hu hok hm
  go_enter Tryd.func13, Tryd.ntmps13
  go_wp2
  go_loopw [5] (fun i wr => ∃ k : Nat, k ≤ Ts.length ∧ i = .int .i64 (k : Int) ∧ Below w.heap.size w wr) (fun i _ => Ts.length - (intOf i).toNat)
  case atStart => exact ⟨0, Nat.zero_le _, rfl, Below.refl _ _⟩
  case round =>
    obtain ⟨k, hk, rfl, hbel⟩ := hrel
    by_cases hlt : k < Ts.length
    · obtain ⟨t, ht⟩ : ∃ n, Ts[k]? = some n := ⟨_, List.getElem?_eq_getElem hlt⟩
      obtain ⟨u, hu, hum, hul⟩ : ∃ u, Us[k]? = some u ∧ u.m = t.m ∧ u.t.L = t.t.L := by
        have h := congrArg (fun l => l[k]?) (unhide HM)
        simp only [List.getElem?_map, ht, Option.map_some] at h
        cases hu : Us[k]? with
        | none => rw [hu] at h; simp at h
        | some u => rw [hu] at h; simp [Pl.It.r] at h; exact ⟨u, rfl, h.1, h.2⟩
      obtain ⟨⟨g, o, rfl, hg, q0, q0'⟩, q1⟩ := (unhide HV) k t ht
      obtain ⟨⟨g2, o2, rfl, hg2, p0, p0'⟩, p1⟩ := (unhide HU) k u hu
      rw [hul] at p1
      have hz := hide (fun W (b : Below w.heap.size w W) => eqItem_any t.m t.t.a u.t.a t.t.cap u.t.cap t.t.L W (unhide HO t (List.mem_of_getElem? ht)) (Mem.nodes_call q1 b) (Mem.nodes_call p1 b))
      have MK : Hid (∀ W', Below w.heap.size w W' → (Below w.heap.size w W' ∧ W'.cell? ⟨g, o + k * 2, none⟩ = some (.int .i64 t.m) ∧ W'.cell? ⟨g, o + k * 2 + 1, none⟩ = some (.slice t.t.a t.t.L.length t.t.cap) ∧ W'.cell? ⟨g2, o2 + k * 2, none⟩ = some (.int .i64 t.m) ∧ W'.cell? ⟨g2, o2 + k * 2 + 1, none⟩ = some (.slice u.t.a t.t.L.length u.t.cap))) := fun W' hb' => ⟨hb', (hb'.cell (p := ⟨g, _, none⟩) hg).trans q0, (hb'.cell (p := ⟨g, _, none⟩) hg).trans (by rw [q0', Pl.Tr.val]), (hb'.cell (p := ⟨g2, _, none⟩) hg2).trans (by rw [p0, hum]), (hb'.cell (p := ⟨g2, _, none⟩) hg2).trans (by rw [p0', Pl.Tr.val, hul])⟩
      have u1 : (k : Int) < (Ts.length : Int) := by omega
      have u3 : (0 : Int) ≤ (k : Int) := by omega
      have hbd : Below w.heap.size w wr.drew := ⟨hbel.os, hbel.tape, hbel.output, hbel.size, hbel.block⟩
      clear q0 p0 q0' p0' ht hu hul hum q1 p1
      go_wp2_with fail
      go_region_held3 (fun W' => Below w.heap.size w W' ∧ W'.cell? ⟨g, o + k * 2, none⟩ = some (.int .i64 t.m) ∧ W'.cell? ⟨g, o + k * 2 + 1, none⟩ = some (.slice t.t.a t.t.L.length t.t.cap) ∧ W'.cell? ⟨g2, o2 + k * 2, none⟩ = some (.int .i64 t.m) ∧ W'.cell? ⟨g2, o2 + k * 2 + 1, none⟩ = some (.slice u.t.a t.t.L.length u.t.cap)) (first | exact unhide MK _ hbd | exact unhide MK _ (hbd.trans (bX.mono hbd.size))) (first | (go_at_call 43; refine (unhide hz _ hbd).mono ?_; rintro e wX ⟨rfl, bX⟩))
      have hb2 := hbd.trans (bX.mono hbd.size)
      clear hbel hbd bX MK
      go_wp2
      go_roundw
      case rel => exact ⟨k + 1, by omega, by go_num, hb2⟩
      case measure => simp [intOf]; omega
    · have u1 : ¬ (k : Int) < (Ts.length : Int) := by omega
      go_wp2
      go_ret
      exact ⟨rfl, hbel⟩
end WLaw
end Go.Proofs.YtkfpfckmjgjanaaDoor

/- Items that came in: their bounds. -/
namespace Go.Proofs.YtkfpfckmjgjanaaDoor
open Go.RowKit
namespace OpenI
structure OkI (w : World) (a : Option Addr) (Is : List Pl.It) : Prop where
  len : Is.length ≤ maxLen
  items : Mem.isItems w a Is
  ok : ∀ x ∈ Is, x.t.L.length ≤ maxLen ∧ ∀ n ∈ x.t.L, OpenN.Ok n
end OpenI
end Go.Proofs.YtkfpfckmjgjanaaDoor

/- Items that came in, opened. -/
namespace Go.Proofs.YtkfpfckmjgjanaaDoor
open Go.ChangeShapes Go.WideShapes Go.ChangeAt Go.RowKit
namespace OpenI
theorem cells2 : Tryd.prog.cellsOf 57 = 2 := by kernel_rfl
theorem cellsI : Tryd.prog.cellsOf 2 = 1 := by kernel_rfl
theorem cellsL : Tryd.prog.cellsOf 22 = 1 := by kernel_rfl
theorem mapM2 {f : Nat → Option Value} {c0 c1 : Value} (h : (List.range 2).mapM f = some [c0, c1]) : f 0 = some c0 ∧ f 1 = some c1 := by
  have e : List.range 2 = [0, 1] := rfl
  rw [e] at h
  simp only [List.mapM_cons, List.mapM_nil, Option.pure_def, Option.bind_eq_bind] at h
  cases h0 : f 0 with
  | none => rw [h0] at h; simp at h
  | some a0 =>
    cases h1 : f 1 with
    | none => rw [h0, h1] at h; simp at h
    | some a1 => rw [h0, h1] at h; simp at h; exact ⟨by rw [h.1], by rw [h.2]⟩
theorem two {α : Type} {l : List α} (h : l.length = 2) : ∃ a b, l = [a, b] := by
  match l, h with
  | [a, b], _ => exact ⟨a, b, rfl⟩
set_option maxRecDepth 100000 in
theorem tree {H : Type} {enc : TypeId × Value → H} {w : World} {base fuel : Nat} {spare : Nat → Bool} {held : Bool} {cs : List Value} {x : DataW H × List MemPlace}
    (hf : DataW.trod enc Tryd.prog w base spare held fuel 47 cs = some x) : ∃ t : Pl.Tr, cs = [t.val] ∧ OpenT.OkT w t.a t.L := by
  obtain ⟨xs, m, rfl, -, hlen, hxl, hfl⟩ := DataW.trod_struct Tryd.underlying47 hf
  obtain ⟨c, rfl⟩ := OpenT.one (hlen.trans OpenT.cells1)
  obtain ⟨y, rfl⟩ := OpenT.one hxl
  have h0 := hfl 0 _ rfl
  change DataW.trod enc Tryd.prog w base spare held m 45 (([c].drop 0).take (Tryd.prog.cellsOf 45)) = some y at h0
  rw [OpenT.cellsL] at h0
  rcases DataW.trod_slice Tryd.underlying45 h0 with ⟨e, -⟩ | ⟨a, len, cap, elems, rest, k, -, e, -, hb, hl, hm, hel, hE, -, -⟩
  · simp at e
    subst e
    exact ⟨⟨none, 0, []⟩, rfl, ⟨Nat.zero_le _, Mem.nodes_nil _ _, fun n hn => by cases hn⟩⟩
  · simp at e
    subst e
    have each : ∀ i, i < len → ∃ n : Pl.Nd, OpenN.Ok n ∧ (∃ b o, some a = some ⟨b, o, none⟩ ∧ b < w.heap.size ∧
        w.cell? ⟨b, o + i * 5, none⟩ = some (.string n.path) ∧ w.cell? ⟨b, o + i * 5 + 1, none⟩ = some (.int .i64 n.kind) ∧ w.cell? ⟨b, o + i * 5 + 2, none⟩ = some (.string n.data) ∧
        w.cell? ⟨b, o + i * 5 + 3, none⟩ = some (.int .i64 n.time) ∧ w.cell? ⟨b, o + i * 5 + 4, none⟩ = some (.int .i64 n.mark)) := by
      intro i hi
      have h1 := hE i hi
      rw [List.getElem?_eq_getElem (by omega), OpenN.cells5] at h1
      simp only [Option.bind_eq_some_iff] at h1
      obtain ⟨ds, h2, h3⟩ := h1
      obtain ⟨n, rfl, ok⟩ := OpenN.node h3
      unfold World.cells? at h2
      split at h2
      rotate_left
      · cases h2
      obtain ⟨g0, g1, g2, g3, g4⟩ := OpenT.mapM5 h2
      obtain ⟨b, o, spot⟩ := a
      have hspot : spot = none := by
        have h1 := hE 0 (by omega)
        rw [List.getElem?_eq_getElem (by omega), OpenN.cells5] at h1
        simp only [Option.bind_eq_some_iff] at h1
        obtain ⟨ds, h2, h3⟩ := h1
        obtain ⟨n, rfl, ok⟩ := OpenN.node h3
        unfold World.cells? at h2
        split at h2
        rotate_left
        · cases h2
        simpa [Addr.add] using World.cell?_spot (OpenT.mapM5 h2).1
      subst hspot
      have add : ∀ j, ((⟨b, o, none⟩ : Addr).add (i * 5)).add j = ⟨b, o + i * 5 + j, none⟩ := fun j => by rw [Mem.add_any, Mem.add_any]
      rw [add] at g0 g1 g2 g3 g4
      exact ⟨n, ok, b, o, rfl, World.block_lt_of_cell? w ⟨b, o + i * 5 + 0, none⟩ g0, g0, g1, g2, g3, g4⟩
    refine ⟨⟨some a, cap, List.ofFn (fun i : Fin len => Classical.choose (each i i.2))⟩, by simp [Pl.Tr.val], ⟨by simp; omega, fun i n hn => ?_, fun n hn => ?_⟩⟩
    · rw [List.getElem?_ofFn] at hn
      split at hn
      · cases hn; exact (Classical.choose_spec (each i (by assumption))).2
      · cases hn
    · obtain ⟨i, rfl⟩ := List.mem_ofFn.1 hn
      exact (Classical.choose_spec (each i i.2)).1
set_option maxRecDepth 100000 in
theorem item {H : Type} {enc : TypeId × Value → H} {w : World} {base fuel : Nat} {spare : Nat → Bool} {held : Bool} {cs : List Value} {x : DataW H × List MemPlace}
    (hf : DataW.trod enc Tryd.prog w base spare held fuel 57 cs = some x) : ∃ y : Pl.It, cs = [.int .i64 y.m, y.t.val] ∧ OpenT.OkT w y.t.a y.t.L := by
  obtain ⟨xs, m, rfl, -, hlen, hxl, hfl⟩ := DataW.trod_struct Tryd.underlying57 hf
  obtain ⟨c, d, rfl⟩ := two (hlen.trans cells2)
  obtain ⟨y, z, rfl⟩ := two hxl
  have h0 := hfl 0 _ rfl
  have h1 := hfl 1 _ rfl
  change DataW.trod enc Tryd.prog w base spare held m 2 (([c, d].drop 0).take (Tryd.prog.cellsOf 2)) = some y at h0
  change DataW.trod enc Tryd.prog w base spare held m 47 (([c, d].drop 1).take (Tryd.prog.cellsOf 47)) = some z at h1
  rw [cellsI] at h0
  rw [OpenT.cells1] at h1
  obtain ⟨t, e, ok⟩ := tree h1
  obtain ⟨n, e0, -, -⟩ := DataW.trod_int Tryd.underlying2 h0
  simp at e e0
  subst e e0
  exact ⟨⟨n, t⟩, rfl, ok⟩
set_option maxRecDepth 100000 in
theorem items_arg {H : Type} {enc : TypeId × Value → H} {w : World} {base b0 : Nat} {spare : Nat → Bool} {held : Bool} {r : Reach} {v : Value} {d : DataW H} {ps : List MemPlace}
    (hv : Value.okWide Tryd.prog w r b0 22 v) (h : DataW.Trod enc Tryd.prog w base spare held 22 v d ps) : ∃ (a : Option Addr) (Is : List Pl.It) (cap : Nat), v = .slice a Is.length cap ∧ OkI w a Is := by
  obtain ⟨a', l', c', rfl⟩ := okWide_slice Tryd.underlying22 hv
  obtain ⟨fuel, h0⟩ := h
  rcases DataW.trod_slice Tryd.underlying22 h0 with ⟨e, -⟩ | ⟨a, len, cap, elems, rest, k, -, e, -, hb, hl, hm, hel, hE, -, -⟩
  · simp [Value.cells] at e
    obtain ⟨rfl, rfl, rfl⟩ := e
    exact ⟨none, [], 0, rfl, ⟨Nat.zero_le _, Mem.items_nil _ _, fun n hn => by cases hn⟩⟩
  · simp [Value.cells] at e
    obtain ⟨rfl, rfl, rfl⟩ := e
    have each : ∀ i, i < l' → ∃ y : Pl.It, OpenT.OkT w y.t.a y.t.L ∧ (∃ b o, some a = some ⟨b, o, none⟩ ∧ b < w.heap.size ∧ w.cell? ⟨b, o + i * 2, none⟩ = some (.int .i64 y.m) ∧ w.cell? ⟨b, o + i * 2 + 1, none⟩ = some y.t.val) := by
      intro i hi
      have h1 := hE i hi
      rw [List.getElem?_eq_getElem (by omega), cells2] at h1
      simp only [Option.bind_eq_some_iff] at h1
      obtain ⟨ds, h2, h3⟩ := h1
      obtain ⟨y, rfl, ok⟩ := item h3
      unfold World.cells? at h2
      split at h2
      rotate_left
      · cases h2
      obtain ⟨g0, g1⟩ := mapM2 h2
      obtain ⟨b, o, spot⟩ := a
      have hspot : spot = none := by
        have h1 := hE 0 (by omega)
        rw [List.getElem?_eq_getElem (by omega), cells2] at h1
        simp only [Option.bind_eq_some_iff] at h1
        obtain ⟨ds, h2, h3⟩ := h1
        obtain ⟨t, rfl, ok⟩ := item h3
        unfold World.cells? at h2
        split at h2
        rotate_left
        · cases h2
        simpa [Addr.add] using World.cell?_spot (mapM2 h2).1
      subst hspot
      have add : ∀ j, ((⟨b, o, none⟩ : Addr).add (i * 2)).add j = ⟨b, o + i * 2 + j, none⟩ := fun j => by rw [Mem.add_any, Mem.add_any]
      rw [add] at g0 g1
      exact ⟨y, ok, b, o, rfl, World.block_lt_of_cell? w ⟨b, o + i * 2 + 0, none⟩ g0, g0, g1⟩
    refine ⟨some a, List.ofFn (fun i : Fin l' => Classical.choose (each i i.2)), c', by simp, ⟨by simp; omega, fun i n hn => ?_, fun n hn => ?_⟩⟩
    · rw [List.getElem?_ofFn] at hn
      split at hn
      · cases hn
        have := Classical.choose_spec (each i (by assumption))
        exact ⟨this.2, this.1.nodes⟩
      · cases hn
    · obtain ⟨i, rfl⟩ := List.mem_ofFn.1 hn
      have := Classical.choose_spec (each i i.2)
      exact ⟨this.1.len, this.1.ok⟩
end OpenI
end Go.Proofs.YtkfpfckmjgjanaaDoor

