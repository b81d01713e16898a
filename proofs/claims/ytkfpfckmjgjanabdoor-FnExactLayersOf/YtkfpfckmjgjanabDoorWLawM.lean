/- The walks of toLayers and eqLayers. -/
import Derived.Test.YtkfpfckmjgjanabDoorG29
import Derived.Deep.RegionHeld3
namespace Go.Proofs.YtkfpfckmjgjanabDoor
open Go.RowKit
namespace WLaw
def zeroTrees (n : Nat) : Array Value := madeCells (Value.agg #[.slice none 0 0]).cells n
theorem zeroTrees_size (n : Nat) : (zeroTrees n).size = n := size_madeCells _ _
theorem infoT : (Tryd.prog.info? 39).map (fun i => (i.zero, i.size, i.bytes)) = some (some (.agg #[.slice none 0 0]), 1, 24) := by kernel_rfl
theorem makeT (n : Nat) (hn : n ≤ 1048576) (w : World) : (Instr.makeSlice 27 (.int .i64 (n : Int)) (.int .i64 (n : Int))).run Tryd.prog w = .ok (.slice (some ⟨w.heap.size, 0, none⟩) n n) (w.alloc (.cells (zeroTrees n) 39)) := by
  obtain ⟨i0, h0, h1, h2, h3⟩ := info_parts infoT
  have h := run_make (P := Tryd.prog) w 27 39 i0 (.agg #[.slice none 0 0]) Tryd.underlying27 h0 h1 .i64 .i64 (n : Int) (n : Int) (by omega) (Int.le_refl _) (by rw [h3]; omega) (by omega)
  rw [h, h2]
  simp [zeroTrees]
/-- The trees that were copied so far: each in a row of its own, behind the row of trees. -/
structure Cop (w wr : World) (Ts D : List Pl.Tr) (cur : Array Value) : Prop where
  blk : wr.heap[w.heap.size]? = some (.cells cur 39 (0, 0))
  size : cur.size = Ts.length
  same : D.map (·.L) = (Ts.take D.length).map (·.L)
  each : ∀ (j : Nat) t, D[j]? = some t → cur[j]? = some t.val ∧ ∃ g, t.a = some ⟨g, 0, none⟩ ∧ w.heap.size < g ∧ Mem.isNodes wr t.a t.L
theorem Cop.call {w wr W : World} {Ts D : List Pl.Tr} {cur : Array Value} (h : Cop w wr Ts D cur) (b : Below wr.heap.size wr W) : Cop w W Ts D cur :=
  ⟨(b.block _ (Array.getElem?_eq_some_iff.1 h.blk).1).trans h.blk, h.size, h.same, fun j t hj => ⟨(h.each j t hj).1, by
    obtain ⟨g, h1, h2, h3⟩ := (h.each j t hj).2
    exact ⟨g, h1, h2, Mem.nodes_call h3 b⟩⟩⟩
theorem Cop.put {w wr : World} {Ts D : List Pl.Tr} {cur : Array Value} (h : Cop w wr Ts D cur) (t : Pl.Tr) (g : Nat) (hk : Ts[D.length]? = some t) (hg : w.heap.size < g) (hn : Mem.isNodes wr (some ⟨g, 0, none⟩) t.L) :
    Cop w (wr.setCell ⟨w.heap.size, D.length, none⟩ (.slice (some ⟨g, 0, none⟩) t.L.length t.L.length)) Ts (D ++ [⟨some ⟨g, 0, none⟩, t.L.length, t.L⟩]) (cur.setIfInBounds D.length (.slice (some ⟨g, 0, none⟩) t.L.length t.L.length)) := by
  have hlt := (List.getElem?_eq_some_iff.1 hk).1
  refine ⟨heap_setCell_same _ _ _ _ _ _ h.blk, by simpa using h.size, ?_, fun j m hj => ?_⟩
  · rw [List.length_append, List.length_singleton, List.take_add_one, hk, List.map_append, List.map_append, h.same]
    rfl
  · by_cases e : j < D.length
    · rw [List.getElem?_append_left e] at hj
      obtain ⟨h1, g', h2, h3, h4⟩ := h.each j m hj
      refine ⟨by rw [Array.getElem?_setIfInBounds, if_neg (by omega)]; exact h1, g', h2, h3, ?_⟩
      rw [h2] at h4 ⊢
      exact Mem.nodes_far h4 _ _ (by show w.heap.size ≠ g'; omega)
    · rw [List.getElem?_append_right (by omega)] at hj
      have hj0 : j = D.length := by
        have := (List.getElem?_eq_some_iff.1 hj).1
        simp at this; omega
      subst hj0
      simp at hj
      subst hj
      refine ⟨?_, g, rfl, hg, Mem.nodes_far hn _ _ (by show w.heap.size ≠ g; omega)⟩
      rw [Array.getElem?_setIfInBounds, if_pos rfl, if_pos (by have := h.size; omega)]
      rfl
theorem Cop.set {w wr : World} {Ts D : List Pl.Tr} {cur : Array Value} (h : Cop w wr Ts D cur) (p : Addr) (v : Value) (hp : p.block < w.heap.size) : Cop w (wr.setCell p v) Ts D cur :=
  ⟨(heap_setCell_other _ _ _ _ (by omega)).trans h.blk, h.size, h.same, fun j t hj => ⟨(h.each j t hj).1, by
    obtain ⟨g, h1, h2, h3⟩ := (h.each j t hj).2
    refine ⟨g, h1, h2, ?_⟩
    rw [h1] at h3 ⊢
    exact Mem.nodes_far h3 _ _ (by omega)⟩⟩
theorem Cop.trees {w wr : World} {Ts D : List Pl.Tr} {cur : Array Value} (h : Cop w wr Ts D cur) : Mem.isTrees wr (some ⟨w.heap.size, 0, none⟩) D := fun i t hi => by
  obtain ⟨h1, g, h2, h3, h4⟩ := h.each i t hi
  refine ⟨⟨_, 0, rfl, (Array.getElem?_eq_some_iff.1 h.blk).1, ?_⟩, h4⟩
  rw [cell_of_row wr _ _ _ _ (0, 0) h.blk, Nat.zero_add]
  exact h1
set_option linter.unusedSimpArgs false in
set_option maxRecDepth 100000 in
set_option maxHeartbeats 800000 in
theorem toTreeS_any (a : Option Addr) (cap : Nat) (Ts : List Pl.Tr) (w : World) (hl : Ts.length ≤ 1048576) (hv : Mem.isTrees w a Ts) (hok : ∀ t ∈ Ts, t.L.length ≤ 1048576) :
    Calls Tryd.prog 39 #[.slice a Ts.length cap] w fun e w' => e = .returned (.slice (some ⟨w.heap.size, 0, none⟩) Ts.length Ts.length) ∧ (∃ D cur, D.length = Ts.length ∧ Cop w w' Ts D cur) ∧ Below w.heap.size w w' := by
  have HV := hide hv
  have HO := hide hok
  have hmk := makeT Ts.length hl w
  clear hv hok
  go_enter Tryd.func39, Tryd.ntmps39
  go_wp2
  go_loopw [4] (fun i wr => ∃ (D : List Pl.Tr) (cur : Array Value), D.length ≤ Ts.length ∧ i = .int .i64 (D.length : Int) ∧ Below w.heap.size w wr ∧ Hid (Cop w wr Ts D cur)) (fun i _ => Ts.length - (intOf i).toNat)
  case atStart => exact ⟨[], zeroTrees Ts.length, Nat.zero_le _, rfl, (Below.refl _ _).alloc (Nat.le_refl _) _, hide ⟨heap_alloc_new w _, zeroTrees_size _, rfl, fun j t h => by simp at h⟩⟩
  case round =>
    obtain ⟨D, cur, hk, rfl, hbel, HC⟩ := hrel
    by_cases hlt : D.length < Ts.length
    · obtain ⟨t, ht⟩ : ∃ t, Ts[D.length]? = some t := ⟨_, List.getElem?_eq_getElem hlt⟩
      obtain ⟨⟨b, o, rfl, hb, q0⟩, q1⟩ := (unhide HV) D.length t ht
      have c0 := (hbel.cell (p := ⟨b, _, none⟩) hb).trans q0
      have hz := hide (fun W (b : Below w.heap.size w W) => toTree_row t.a t.cap t.L W (unhide HO t (List.mem_of_getElem? ht)) (Mem.nodes_call q1 b))
      have HN := hide ht
      have u1 : (D.length : Int) < (Ts.length : Int) := by omega
      have u3 : (0 : Int) ≤ (D.length : Int) := by omega
      simp only [Pl.Tr.val] at c0
      clear q0 ht q1
      go_wp2_with fail
      refine (unhide hz _ hbel).mono ?_
      rintro e w1 ⟨g, rfl, hg, -, hn, b1⟩
      have hgw : w.heap.size < g := by have := (Array.getElem?_eq_some_iff.1 (unhide HC).blk).1; omega
      have C1 := (unhide HC).call b1
      have hb2 := hbel.trans (b1.mono hbel.size)
      obtain ⟨x0, s0⟩ : ∃ x, w1.cell? ⟨w.heap.size, D.length, none⟩ = some x := ⟨_, (cell_of_row w1 _ D.length _ _ (0, 0) C1.blk).trans (Array.getElem?_eq_getElem (by rw [C1.size]; exact hlt))⟩
      have f0 : w1.frozen? ⟨w.heap.size, D.length, none⟩ = false := Mem.row_frozen C1.blk
      have HC2 := hide (C1.put t g (unhide HN) hgw hn)
      have HB2 := hide hb2
      clear b1 hbel hz HC C1 hn hg hb2
      go_wp2
      go_roundw
      case rel => exact ⟨_, _, by rw [List.length_append, List.length_singleton]; omega, by rw [List.length_append, List.length_singleton]; go_num, (unhide HB2).setCell (Nat.le_refl _) _, HC2⟩
      case measure => simp [intOf]; omega
    · have u1 : ¬ (D.length : Int) < (Ts.length : Int) := by omega
      go_wp2
      go_ret
      exact ⟨rfl, ⟨D, by omega, cur, unhide HC⟩, hbel⟩
set_option maxRecDepth 100000 in
theorem toLayers_any (a : Option Addr) (cap : Nat) (Ts : List Pl.Tr) (w : World) (hl : Ts.length ≤ 1048576) (hv : Mem.isTrees w a Ts) (hok : ∀ t ∈ Ts, t.L.length ≤ 1048576) :
    Calls Tryd.prog 11 #[.agg #[.slice a Ts.length cap]] w fun e w' => ∃ g D, e = .returned (.agg #[.slice (some ⟨g, 0, none⟩) Ts.length Ts.length]) ∧ w.heap.size ≤ g ∧ D.length = Ts.length ∧ D.map (·.L) = Ts.map (·.L) ∧ Mem.isTrees w' (some ⟨g, 0, none⟩) D ∧ Below w.heap.size w w' := by
  have b0 : Below w.heap.size w (((w.alloc (.cells #[.slice a Ts.length cap] 24)).alloc (.cells #[.slice none 0 0] 29)).alloc (.cells #[.slice none 0 0] 29)) := (((Below.refl _ _).alloc (Nat.le_refl _) _).alloc (by simp) _).alloc (by simp; omega) _
  have hz := hide (toTreeS_any a cap Ts _ hl (Mem.trees_call hv b0) hok)
  have hs : (((w.alloc (.cells #[.slice a Ts.length cap] 24)).alloc (.cells #[.slice none 0 0] 29)).alloc (.cells #[.slice none 0 0] 29)).heap.size = w.heap.size + 1 + 1 + 1 := by simp
  have r1 : Mem.Blk (((w.alloc (.cells #[.slice a Ts.length cap] 24)).alloc (.cells #[.slice none 0 0] 29)).alloc (.cells #[.slice none 0 0] 29)) (w.heap.size + 1) #[.slice none 0 0] 29 := Mem.new_mid w _ _ _
  have r2 : Mem.Blk (((w.alloc (.cells #[.slice a Ts.length cap] 24)).alloc (.cells #[.slice none 0 0] 29)).alloc (.cells #[.slice none 0 0] 29)) (w.heap.size + 1 + 1) #[.slice none 0 0] 29 := Mem.new_three w _ _ _
  have HB0 := hide b0
  clear hv hok b0
  go_enter Tryd.func11, Tryd.ntmps11
  go_wp2_with fail
  generalize (((w.alloc (.cells #[.slice a Ts.length cap] 24)).alloc (.cells #[.slice none 0 0] 29)).alloc (.cells #[.slice none 0 0] 29)) = w3 at hz hs r1 r2 HB0 ⊢
  refine (unhide hz).mono ?_
  rintro e w1 ⟨rfl, ⟨D, cur, hD, hC⟩, b1⟩
  have R1 := r1.call b1
  have R2 := r2.call b1
  have c1 := R1.cell 0
  have c2 := R2.cell 0
  have f1 := R1.fr 0
  have f2 := R2.fr 0
  simp only [kA0, kA1] at c1 c2
  have bb := hide ((unhide HB0).trans (b1.mono (unhide HB0).size))
  have HC := hide hC
  have HS := hide hs
  generalize hg : w3.heap.size = g at HS ⊢
  have HG := hide hg
  clear hz b1 hC hs r1 r2 R1 R2 HB0 hg
  go_wp2
  have hg := unhide HG
  have hs := unhide HS
  refine bodyPost_ret (v := .agg #[.slice (some ⟨g, 0, none⟩) Ts.length Ts.length]) (by simp [results, Tryd.results11, go_sem, c1]) rfl ⟨g, D, rfl, by omega, hD, ?_, ?_, ?_⟩
  · rw [(unhide HC).same, hD, List.take_length]
  · have := (((unhide HC).set ⟨w.heap.size + 1 + 1, 0, none⟩ (.slice (some ⟨g, 0, none⟩) Ts.length Ts.length) (by show w.heap.size + 1 + 1 < _; omega)).set ⟨w.heap.size + 1, 0, none⟩ (.slice (some ⟨g, 0, none⟩) Ts.length Ts.length) (by show w.heap.size + 1 < _; omega)).trees
    rw [hg] at this
    exact this
  · exact ((unhide bb).setCell (by show w.heap.size ≤ w.heap.size + 1 + 1; omega) _).setCell (by show w.heap.size ≤ w.heap.size + 1; omega) _
set_option maxRecDepth 100000 in
set_option maxHeartbeats 800000 in
theorem eqTreeS_any (a b : Option Addr) (c1 c2 : Nat) (Ts Us : List Pl.Tr) (w : World) (hl : Ts.length ≤ 1048576) (hm : Us.map (·.L) = Ts.map (·.L)) (hv : Mem.isTrees w a Ts) (hu : Mem.isTrees w b Us) (hok : ∀ t ∈ Ts, t.L.length ≤ 1048576) :
    Calls Tryd.prog 41 #[.slice a Ts.length c1, .slice b Ts.length c2] w fun e w' => e = .returned (.bool true) ∧ Below w.heap.size w w' := by
  have HV := hide hv
  have HU := hide hu
  have HO := hide hok
  have HM := hide hm
  clear hv hu hok hm
  go_enter Tryd.func41, Tryd.ntmps41
  go_wp2
  go_loopw [5] (fun i wr => ∃ k : Nat, k ≤ Ts.length ∧ i = .int .i64 (k : Int) ∧ Below w.heap.size w wr) (fun i _ => Ts.length - (intOf i).toNat)
  case atStart => exact ⟨0, Nat.zero_le _, rfl, Below.refl _ _⟩
  case round =>
    obtain ⟨k, hk, rfl, hbel⟩ := hrel
    by_cases hlt : k < Ts.length
    · obtain ⟨t, ht⟩ : ∃ n, Ts[k]? = some n := ⟨_, List.getElem?_eq_getElem hlt⟩
      obtain ⟨u, hu, hul⟩ : ∃ u, Us[k]? = some u ∧ u.L = t.L := by
        have h := congrArg (fun l => l[k]?) (unhide HM)
        simp only [List.getElem?_map, ht, Option.map_some] at h
        cases hu : Us[k]? with
        | none => rw [hu] at h; simp at h
        | some u => rw [hu] at h; simp at h; exact ⟨u, rfl, h⟩
      obtain ⟨⟨g, o, rfl, hg, q0⟩, q1⟩ := (unhide HV) k t ht
      obtain ⟨⟨g2, o2, rfl, hg2, p0⟩, p1⟩ := (unhide HU) k u hu
      have c0 := (hbel.cell (p := ⟨g, _, none⟩) hg).trans q0
      have d0 := (hbel.cell (p := ⟨g2, _, none⟩) hg2).trans p0
      rw [hul] at p1
      simp only [Pl.Tr.val, hul] at c0 d0
      have hz := hide (fun W (b : Below w.heap.size w W) => eqTree_any t.a u.a t.cap u.cap t.L W (unhide HO t (List.mem_of_getElem? ht)) (Mem.nodes_call q1 b) (Mem.nodes_call p1 b))
      have MK : Hid (∀ W', Below w.heap.size w W' → (Below w.heap.size w W' ∧ W'.cell? ⟨g, o + k, none⟩ = some (.slice t.a t.L.length t.cap) ∧ W'.cell? ⟨g2, o2 + k, none⟩ = some (.slice u.a t.L.length u.cap))) := fun W' hb' => ⟨hb', (hb'.cell (p := ⟨g, _, none⟩) hg).trans (by rw [q0, Pl.Tr.val]), (hb'.cell (p := ⟨g2, _, none⟩) hg2).trans (by rw [p0, Pl.Tr.val, hul])⟩
      have u1 : (k : Int) < (Ts.length : Int) := by omega
      have u3 : (0 : Int) ≤ (k : Int) := by omega
      have hbd : Below w.heap.size w wr.drew := ⟨hbel.os, hbel.tape, hbel.output, hbel.size, hbel.block⟩
      clear q0 p0 ht hu hul q1 p1
      go_wp2_with fail
      go_region_held3 (fun W' => Below w.heap.size w W' ∧ W'.cell? ⟨g, o + k, none⟩ = some (.slice t.a t.L.length t.cap) ∧ W'.cell? ⟨g2, o2 + k, none⟩ = some (.slice u.a t.L.length u.cap)) (first | exact unhide MK _ hbd | exact unhide MK _ (hbd.trans (bX.mono hbd.size))) (first | (go_at_call 19; refine (unhide hz _ hbd).mono ?_; rintro e wX ⟨rfl, bX⟩))
      have hb2 := hbd.trans (bX.mono hbd.size)
      clear hbel hbd bX MK
      go_wp2
      go_roundw
      case rel => exact ⟨k + 1, by omega, by go_num, hb2⟩
      case measure => simp [intOf]; omega
    · have u1 : ¬ (k : Int) < (Ts.length : Int) := by omega
      go_wp2
      go_ret
      exact ⟨rfl, hbel⟩
set_option maxRecDepth 100000 in
theorem eqLayers_any (a b : Option Addr) (c1 c2 : Nat) (Ts Us : List Pl.Tr) (w : World) (hl : Ts.length ≤ 1048576) (hm : Us.map (·.L) = Ts.map (·.L)) (hv : Mem.isTrees w a Ts) (hu : Mem.isTrees w b Us) (hok : ∀ t ∈ Ts, t.L.length ≤ 1048576) :
    Calls Tryd.prog 13 #[.agg #[.slice a Ts.length c1], .agg #[.slice b Ts.length c2]] w fun e w' => e = .returned (.bool true) ∧ Below w.heap.size w w' := by
  have b0 : ∀ o1 o2, Below w.heap.size w ((w.alloc o1).alloc o2) := fun o1 o2 => ((Below.refl _ _).alloc (Nat.le_refl _) o1).alloc (by simp) o2
  have HB := hide b0
  have HZ := hide (fun W (b' : Below w.heap.size w W) => eqTreeS_any a b c1 c2 Ts Us W hl hm (Mem.trees_call hv b') (Mem.trees_call hu b') hok)
  clear hv hu b0 hm hok
  go_enter Tryd.func13, Tryd.ntmps13
  go_wp2_with fail
  refine (unhide HZ _ (unhide HB _ _)).mono ?_
  rintro e w1 ⟨rfl, b1⟩
  have bb := (unhide HB _ _).trans (b1.mono (unhide HB _ _).size)
  clear HZ b1
  go_wp2
  go_ret
  exact ⟨rfl, bb⟩
end WLaw
end Go.Proofs.YtkfpfckmjgjanabDoor
