/- The specification's LayersOf. -/
import Derived.Test.YtkfpfckmjgjanabDoorPlainAtN
import Derived.Test.YtkfpfckmjgjanabDoorG76
import Derived.Deep.Cut
namespace Go.Proofs.YtkfpfckmjgjanabDoor
open Go.RowKit
namespace Pl
theorem at_sub {Ls : List (List Nd)} : ∀ (ps : List ByteArray) (ks : List Nat), ks.Sublist (List.range Ls.length) → (atW Ls ks ps).parts.Sublist (List.range Ls.length) := by
  intro ps
  induction ps with
  | nil => intro ks _; exact List.nil_sublist _
  | cons q ps ih =>
    intro ks hs
    cases ps with
    | nil =>
      rw [atW]
      split
      · exact child_sub hs
      · exact List.nil_sublist _
    | cons q2 r =>
      rw [atW]
      split
      · exact ih _ (child_sub hs)
      · exact List.nil_sublist _
theorem parts_filter {n : Nat} {P : List Nat} (h4 : n ≤ 4) (hs : P.Sublist (List.range n)) : (List.range n).filter (fun i => (partsB P).getD i false) = P := by
  have e : (List.range n).filter (fun i => (partsB P).getD i false) = (List.range n).filter (fun k => decide (k ∈ P)) := by
    apply List.filter_congr
    intro i hi
    have hi2 := List.mem_range.1 hi
    simp [partsB, List.getD, show i < 4 by omega]
  rw [e]
  exact sub_filter hs List.nodup_range
theorem lay_at {Ts : List Tr} {p : ByteArray} (h4 : Ts.length ≤ 4) (htr : ∀ M ∈ Ts.map (·.L), treeB M = true) (hl : layB (Ts.map (·.L)) = true) (hz : ¬ p.size = 0) (hp : pathB p = true) : layO (Ts.map (·.L)) p = (atW (Ts.map (·.L)) (List.range Ts.length) (ways (names p) (names p).length)).parts := by
  rw [layO_yes hl hp]
  have h := at_same (Ls := Ts.map (·.L)) (by rw [List.length_map]; exact h4) htr (ways (names p) (names p).length) (List.range (Ts.map (·.L)).length) (rootS (Ts.map (·.L)).length) (by intro e; have h2 := congrArg List.length e; rw [ways_len, List.length_nil] at h2; have := names_some hz; omega) (List.Sublist.refl _) (root_parts (by rw [List.length_map]; exact h4))
  have h3 := h.2.2
  have e : seenS (Ts.map (·.L)) p = walkS (Ts.map (·.L)) (rootS (Ts.map (·.L)).length) (ways (names p) (names p).length) := by unfold seenS; rw [namesR_yes hp]
  rw [e, h3, List.length_map]
  have hs := at_sub (Ls := Ts.map (·.L)) (ways (names p) (names p).length) (List.range Ts.length) (by rw [List.length_map]; exact List.Sublist.refl _)
  rw [List.length_map] at hs
  exact parts_filter h4 hs
theorem lay_root {Ts : List Tr} {p : ByteArray} (h4 : Ts.length ≤ 4) (hl : layB (Ts.map (·.L)) = true) (hz : p.size = 0) (hp : pathB p = true) : layO (Ts.map (·.L)) p = List.range Ts.length := by
  rw [layO_yes hl hp]
  have hn : names p = [] := by unfold names; rw [if_pos hz]
  have e : seenS (Ts.map (·.L)) p = rootS (Ts.map (·.L)).length := by unfold seenS; rw [namesR_yes hp, hn]; rfl
  rw [e, root_parts (by rw [List.length_map]; exact h4), List.length_map]
  exact parts_filter h4 (List.Sublist.refl _)
end Pl
namespace WIntL
open WPick
structure AtM (w W : World) (v vk : Value) (out ks : List Nat) : Prop where
  bel : Below w.heap.size w W
  own : Own W (w.heap.size + 1) v out
  ownK : ownI W (w.heap.size + 1) vk ks
  apart : ∀ g, v.ownBlock = some g → vk.ownBlock ≠ some g
theorem AtM.call {w W W' : World} {v vk : Value} {out ks : List Nat} (h : AtM w W v vk out ks) (b : Below W.heap.size W W') : AtM w W' v vk out ks :=
  ⟨h.bel.trans (b.mono h.bel.size), h.own.call b, row_call h.ownK b, h.apart⟩
theorem AtM.more {w W W' : World} {v v' vk : Value} {out ks : List Nat} {k : Nat} (h : AtM w W v vk out ks) (own : W'.ownsRow (w.heap.size + 1) 2 1 v' (out.length + 1) (valsI out ++ [.int .i64 (k : Int)])) (g : W.grownBy W' v.ownBlock)
    (far : ∀ g, v'.ownBlock = some g → v.ownBlock = some g ∨ W.heap.size ≤ g) : AtM w W' v' vk (out ++ [k]) ks := by
  have hlt : ∀ q, v.ownBlock = some q → w.heap.size + 1 ≤ q := fun q hq => (World.ownsRow.lt h.own q hq).1
  refine ⟨h.bel.grown g h.bel.size (fun q hq => by have := hlt q hq; omega), Own.snoc own, row_grown h.ownK g (fun q hq e => h.apart q e.symm hq), fun q hq e => ?_⟩
  rcases far q hq with h1 | h1
  · exact h.apart q h1 e
  · have := (World.ownsRow.lt h.ownK q e).2; omega
set_option linter.unusedSimpArgs false in
set_option maxRecDepth 100000 in
set_option maxHeartbeats 3000000 in
theorem spec_any (a : Option Addr) (cap : Nat) (Ts : List Pl.Tr) (p : ByteArray) (w : World) (hl : Ts.length ≤ 1048576) (hv : Mem.isTrees w a Ts) (hok : ∀ t ∈ Ts, t.L.length ≤ 1048576 ∧ ∀ n ∈ t.L, n.path.size ≤ 1048576 ∧ n.data.size ≤ 1048576) (hp : p.size ≤ 1048576) :
    Calls Tryd.prog 26 #[.agg #[.slice a Ts.length cap], .string p] w fun e w' => ∃ v, e = .returned v ∧ Own w' w.heap.size v (Pl.layO (Ts.map (·.L)) p) ∧ Below w.heap.size w w' := by
  obtain ⟨i0, hi, hz0, hz1, hz2⟩ := info_parts infoL
  have hf2 : ∀ (b : Bool) (x y : ByteArray) (c d e : Int) (ad : Option Addr) (n m : Nat) (W : World), (Instr.field 86 (.agg #[.bool b, .string x, .int .i64 c, .string y, .int .i64 d, .int .i64 e, .slice ad n m]) 2).run Tryd.prog W = .ok (.slice ad n m) W := fun _ _ _ _ _ _ _ _ _ _ => by kernel_rfl
  have hfour : Pl.layB (Ts.map (·.L)) = true → Ts.length ≤ 4 ∧ 1 ≤ Ts.length ∧ ∀ M ∈ Ts.map (·.L), Pl.treeB M = true := fun h => by
    have h2 := Pl.lay_ok h
    rw [List.length_map] at h2
    refine ⟨h2.1, ?_, h2.2⟩
    simp only [Pl.layB, Bool.and_eq_true, decide_eq_true_eq, List.length_map] at h
    exact h.1.1
  have HA4 := hide (fun (W : World) (b : Below w.heap.size w W) (h : Pl.layB (Ts.map (·.L)) = true) (hz : ¬ p.size = 0) (hp2 : Pl.pathB p = true) => at4_any p (Pl.names p) Ts a cap W (Mem.trees_call hv b) (hfour h).2.1 (hfour h).1 (fun t ht => ⟨(hok t ht).1, fun n hn => by
      have h1 := (hfour h).2.2 t.L (List.mem_map_of_mem ht)
      simp only [Pl.treeB, Bool.and_eq_true, decide_eq_true_eq] at h1
      have h2 := Pl.goI_all t.L _ _ h1.2 n hn
      have h3 := (Pl.node_bounds h2)
      omega⟩) (hfour h).2.2 rfl (Pl.names_right hp2) (Pl.names_some hz) (Pl.names_six hp2) (by have := Pl.pathB_le hp2; omega) (fun j => Pl.way_small hp2 j))
  have HLR := hide (fun W (b : Below w.heap.size w W) => WLayS.any a cap Ts W hl (Mem.trees_call hv b) hok)
  have HPR := hide (fun W => WPathS.right_one p W hp)
  have HAL := hide (fun (h : Pl.layB (Ts.map (·.L)) = true) W => all_any Ts.length W (hfour h).1)
  have E0 : Hid (8000 < p.size → Pl.layO (Ts.map (·.L)) p = []) := fun h => Pl.layO_no (.inr (Pl.pathB_long (by omega)))
  have E1 : Hid (Pl.layB (Ts.map (·.L)) = false → Pl.layO (Ts.map (·.L)) p = []) := fun h => Pl.layO_no (.inl h)
  have E2 : Hid (Pl.pathB p = false → Pl.layO (Ts.map (·.L)) p = []) := fun h => Pl.layO_no (.inr h)
  have E3 : Hid (Pl.layB (Ts.map (·.L)) = true → p.size = 0 → Pl.pathB p = true → Pl.layO (Ts.map (·.L)) p = List.range Ts.length) := fun h hz h2 => Pl.lay_root (hfour h).1 h hz h2
  have E4 : Hid (Pl.layB (Ts.map (·.L)) = true → ¬ p.size = 0 → Pl.pathB p = true → Pl.layO (Ts.map (·.L)) p = (Pl.atW (Ts.map (·.L)) (List.range Ts.length) (Pl.ways (Pl.names p) (Pl.names p).length)).parts) := fun h hz h2 => Pl.lay_at (hfour h).1 (hfour h).2.2 h hz h2
  have HP4 : Hid (Pl.layB (Ts.map (·.L)) = true → (Pl.atW (Ts.map (·.L)) (List.range Ts.length) (Pl.ways (Pl.names p) (Pl.names p).length)).parts.length ≤ 4) := fun h => by
    have hs := (Pl.at_sub (Ls := Ts.map (·.L)) (Pl.ways (Pl.names p) (Pl.names p).length) (List.range Ts.length) (by rw [List.length_map]; exact List.Sublist.refl _)).length_le
    rw [List.length_range, List.length_map] at hs
    have := (hfour h).1
    omega
  have HN4 : Hid (Pl.layB (Ts.map (·.L)) = true → Ts.length ≤ 4) := fun h => (hfour h).1
  generalize Pl.layO (Ts.map (·.L)) p = RV at E0 E1 E2 E3 E4 ⊢
  generalize Pl.layB (Ts.map (·.L)) = R1 at HA4 HLR HAL E1 E3 E4 HP4 HN4
  generalize Pl.pathB p = R2 at HA4 HPR E2 E3 E4
  generalize Pl.atW (Ts.map (·.L)) (List.range Ts.length) (Pl.ways (Pl.names p) (Pl.names p).length) = A at HA4 E4 HP4
  have SS : Hid (Below w.heap.size w ((w.alloc (.cells #[.slice a Ts.length cap] 29)).alloc (.cells #[] 2)) ∧ Mem.Blk ((w.alloc (.cells #[.slice a Ts.length cap] 29)).alloc (.cells #[] 2)) w.heap.size #[.slice a Ts.length cap] 29 ∧ Own ((w.alloc (.cells #[.slice a Ts.length cap] 29)).alloc (.cells #[] 2)) (w.heap.size + 1) (.slice (some ⟨w.heap.size + 1, 0, none⟩) 0 0) []) :=
    ⟨((Below.refl _ _).alloc (Nat.le_refl _) _).alloc (by simp) _, (Mem.Blk.new _ _ _).alloc _, ⟨rfl, .inr ⟨w.heap.size + 1, 0, #[], rfl, Nat.le_refl _, Mem.new_two _ _ _, Nat.le_refl _, Nat.zero_le _, rfl, rfl⟩⟩⟩
  have HST : Hid (∀ W W' : World, (Below w.heap.size w W ∧ Mem.Blk W w.heap.size #[.slice a Ts.length cap] 29 ∧ Own W (w.heap.size + 1) (.slice (some ⟨w.heap.size + 1, 0, none⟩) 0 0) []) → Below W.heap.size W W' → (Below w.heap.size w W' ∧ Mem.Blk W' w.heap.size #[.slice a Ts.length cap] 29 ∧ Own W' (w.heap.size + 1) (.slice (some ⟨w.heap.size + 1, 0, none⟩) 0 0) [])) := fun W W' h b => ⟨h.1.trans (b.mono h.1.size), h.2.1.call b, h.2.2.call b⟩
  clear hv hok hfour
  by_cases hz : 8000 < p.size
  · have t0 : (8000 : Int) < (p.size : Int) := by omega
    have E := hide (unhide E0 hz)
    clear hz E0 E1 E2 E3 E4
    go_enter Tryd.func26, Tryd.ntmps26
    go_wp2
    go_ret
    exact ⟨_, rfl, by rw [unhide E]; exact Mem.own_mono (unhide SS).2.2 (by omega), (unhide SS).1⟩
  have t0 : ¬ (8000 : Int) < (p.size : Int) := by omega
  have c0 := (unhide SS).2.1.cell 0
  simp only [kA0, kA1] at c0
  go_enter Tryd.func26, Tryd.ntmps26
  go_wp2_with fail
  refine (unhide HLR _ (unhide SS).1).mono ?_
  rintro e w1 ⟨rfl, b1⟩
  have S1 := hide (unhide HST _ _ (unhide SS) b1)
  clear SS HLR b1 c0
  cases R1
  · have E := hide (unhide E1 (by trivial))
    clear E0 E1 E2 E3 E4 HA4 HAL hz
    go_wp2
    go_ret
    exact ⟨_, rfl, by rw [unhide E]; exact Mem.own_mono (unhide S1).2.2 (by omega), (unhide S1).1⟩
  go_wp2_with fail
  refine (unhide HPR _).mono ?_
  rintro e w2 ⟨rfl, b2⟩
  have S2 := hide (unhide HST _ _ (unhide S1) b2)
  clear S1 HPR b2
  cases R2
  · have E := hide (unhide E2 (by trivial))
    clear E0 E1 E2 E3 E4 HA4 HAL hz
    go_wp2
    go_ret
    exact ⟨_, rfl, by rw [unhide E]; exact Mem.own_mono (unhide S2).2.2 (by omega), (unhide S2).1⟩
  have c0 := (unhide S2).2.1.cell 0
  simp only [kA0, kA1] at c0
  go_wp2_with fail
  refine (unhide HAL (by trivial) _).mono ?_
  rintro e w3 ⟨vk, rfl, hownK, b3⟩
  have S3 := hide (unhide HST _ _ (unhide S2) b3)
  have hlt2 := World.ownsRow.lt (unhide S2).2.2 (w.heap.size + 1) rfl
  have KO := hide (ownI_mono hownK (show w.heap.size + 1 ≤ w2.heap.size by omega))
  have HNE : Hid (vk.ownBlock ≠ some (w.heap.size + 1)) := ownI_new hownK (by omega)
  clear S2 HAL b3 c0 hownK hlt2
  by_cases hs : p.size = 0
  · have t1 : p.toList.isEmpty = true := by rw [Pl.empty_list]; simpa [Pl.by_nil] using hs
    have E := hide (unhide E3 (by trivial) hs (by trivial))
    have hk4 : (List.range Ts.length).length ≤ 4 := by rw [List.length_range]; exact unhide HN4 (by trivial)
    generalize List.range Ts.length = ks at KO E hk4
    have A0 : Hid (AtM w w3 (.slice (some ⟨w.heap.size + 1, 0, none⟩) 0 0) vk (ks.take 0) ks) := ⟨(unhide S3).1, (unhide S3).2.2, unhide KO, fun g hg e => unhide HNE (by cases hg; exact e)⟩
    obtain ⟨va, vc, rfl⟩ := ownI_shape (unhide KO)
    clear E0 E1 E2 E3 E4 HA4 hz S3 KO HNE hs HP4 HN4 HST
    go_wp2
    go_loopw [5, 7] (fun v i wr => ∃ j : Nat, j ≤ ks.length ∧ i = .int .i64 (j : Int) ∧ Hid (AtM w wr v (.slice va ks.length vc) (ks.take j) ks)) (fun _ i _ => ks.length - (intOf i).toNat)
    case atStart => exact ⟨0, Nat.zero_le _, rfl, A0⟩
    case round =>
      obtain ⟨j, hj, rfl, HA⟩ := hrel
      clear A0
      by_cases hlt : j < ks.length
      · obtain ⟨k, hk⟩ : ∃ k, ks[j]? = some k := ⟨_, List.getElem?_eq_getElem hlt⟩
        obtain ⟨g, cap', he, -, hgl, hck⟩ := ownI_cells (unhide HA).ownK (by intro e; rw [e] at hlt; simp at hlt)
        injection he with he1 he2 he3
        subst he1 he3
        have cK := hck j k hk
        have y1 : (j : Int) < (ks.length : Int) := by omega
        have y2 : (0 : Int) ≤ (j : Int) := by omega
        have HR := hide ((unhide HA).call ((Below.refl _ _).alloc (Nat.le_refl _) (.cells #[.int .i64 (k : Int)] 2)))
        have hxl := (unhide HA).bel.size
        have htl : (ks.take j).length ≤ 4 := by rw [List.length_take]; omega
        have HTM : Hid (ks.take (j + 1) = ks.take j ++ [k]) := by
          have h1 := List.getElem?_eq_some_iff.1 hk
          show _ = _
          rw [List.take_succ_eq_append_getElem h1.1, h1.2]
        have HOL : Hid (w.heap.size + 1 ≤ wr.heap.size) := by have := (World.ownsRow.lt (unhide HA).ownK g rfl); show _ ≤ _; omega
        generalize ks.take j = out at HR htl HTM
        clear HA hck he2 hk
        go_wp2_with (at_builtin; refine Mem.wpList_append_far _ rfl _ _ 56 rfl (w.heap.size + 1) 2 i0 (.int .i64 0) 1 8 Tryd.underlying56 hi hz0 hz1 hz2 rfl (by decide) _ _ _ rfl (unhide HR).own ⟨wr.heap.size, 0, none⟩ 1 1 [.int .i64 (k : Int)] rfl rfl (Mem.one_new _ _ _) (fun u hu => by simp at hu; subst hu; rfl) (by unfold maxLen; omega) (by omega) (by have h := unhide HOL; simp; omega) ?_)
        intro v' w5 own' hgrow hfar
        have A2 : Hid (AtM w w5 v' (.slice (some ⟨g, 0, none⟩) ks.length vc) (ks.take (j + 1)) ks) := by
          rw [unhide HTM]
          exact (unhide HR).more own' hgrow (fun q hq => (hfar q hq).imp_right (fun h => by rw [sz_alloc]; exact h))
        clear HR own' hgrow hfar HTM HOL cK htl
        go_wp2
        go_roundw
        case rel => exact ⟨j + 1, by omega, by go_num, A2⟩
        case measure => simp [intOf]; omega
      · obtain rfl : j = ks.length := by omega
        have y1 : ¬ ((ks.length : Int) < (ks.length : Int)) := by omega
        have HO : Hid (Own wr (w.heap.size + 1) u5 ks) := by
          have h := (unhide HA).own
          rw [List.take_length] at h
          exact h
        go_wp2
        go_ret
        exact ⟨_, rfl, by rw [unhide E]; exact Mem.own_mono (unhide HO) (by omega), (unhide HA).bel⟩
  have t1 : p.toList.isEmpty = false := by rw [Pl.empty_list]; simpa [Pl.by_nil] using hs
  have c0 := (unhide S3).2.1.cell 0
  simp only [kA0, kA1] at c0
  have HAT := hide (unhide HA4 w3 (unhide S3).1 (by trivial) hs (by trivial))
  have E := hide (unhide E4 (by trivial) hs (by trivial))
  have hk4 := unhide HP4 (by trivial)
  go_wp2_with fail
  refine (unhide HAT).mono ?_
  rintro e w4 ⟨v, rfl, hown, b4⟩
  obtain ⟨ok, ⟨np, nk, nd, nt, nm⟩, ks⟩ := A
  have S4 := hide (unhide HST _ _ (unhide S3) b4)
  have hlt3 := World.ownsRow.lt (unhide S3).2.2 (w.heap.size + 1) rfl
  have A0 : Hid (AtM w w4 (.slice (some ⟨w.heap.size + 1, 0, none⟩) 0 0) v (ks.take 0) ks) := ⟨(unhide S4).1, (unhide S4).2.2, ownI_mono hown (show w.heap.size + 1 ≤ w3.heap.size by omega), fun g hg e => ownI_new hown (show w.heap.size + 1 < w3.heap.size by omega) (by cases hg; exact e)⟩
  obtain ⟨va, vc, rfl⟩ := ownI_shape hown
  simp only at hk4 E
  simp only [cellsO]
  clear E0 E1 E2 E3 E4 HA4 hz S3 S4 KO HNE hs HP4 HN4 HST HAT hown c0 b4 hlt3
  go_wp2
  go_loopw [5, 7] (fun v i wr => ∃ j : Nat, j ≤ ks.length ∧ i = .int .i64 (j : Int) ∧ Hid (AtM w wr v (.slice va ks.length vc) (ks.take j) ks)) (fun _ i _ => ks.length - (intOf i).toNat)
  case atStart => exact ⟨0, Nat.zero_le _, rfl, A0⟩
  case round =>
    obtain ⟨j, hj, rfl, HA⟩ := hrel
    clear A0
    by_cases hlt : j < ks.length
    · obtain ⟨k, hk⟩ : ∃ k, ks[j]? = some k := ⟨_, List.getElem?_eq_getElem hlt⟩
      obtain ⟨g, cap', he, -, hgl, hck⟩ := ownI_cells (unhide HA).ownK (by intro e; rw [e] at hlt; simp at hlt)
      injection he with he1 he2 he3
      subst he1 he3
      have cK := hck j k hk
      have y1 : (j : Int) < (ks.length : Int) := by omega
      have y2 : (0 : Int) ≤ (j : Int) := by omega
      have HR := hide ((unhide HA).call ((Below.refl _ _).alloc (Nat.le_refl _) (.cells #[.int .i64 (k : Int)] 2)))
      have hxl := (unhide HA).bel.size
      have htl : (ks.take j).length ≤ 4 := by rw [List.length_take]; omega
      have HTM : Hid (ks.take (j + 1) = ks.take j ++ [k]) := by
        have h1 := List.getElem?_eq_some_iff.1 hk
        show _ = _
        rw [List.take_succ_eq_append_getElem h1.1, h1.2]
      have HOL : Hid (w.heap.size + 1 ≤ wr.heap.size) := by have := (World.ownsRow.lt (unhide HA).ownK g rfl); show _ ≤ _; omega
      generalize ks.take j = out at HR htl HTM
      clear HA hck he2 hk
      go_wp2_with (at_builtin; refine Mem.wpList_append_far _ rfl _ _ 56 rfl (w.heap.size + 1) 2 i0 (.int .i64 0) 1 8 Tryd.underlying56 hi hz0 hz1 hz2 rfl (by decide) _ _ _ rfl (unhide HR).own ⟨wr.heap.size, 0, none⟩ 1 1 [.int .i64 (k : Int)] rfl rfl (Mem.one_new _ _ _) (fun u hu => by simp at hu; subst hu; rfl) (by unfold maxLen; omega) (by omega) (by have h := unhide HOL; simp; omega) ?_)
      intro v' w5 own' hgrow hfar
      have A2 : Hid (AtM w w5 v' (.slice (some ⟨g, 0, none⟩) ks.length vc) (ks.take (j + 1)) ks) := by
        rw [unhide HTM]
        exact (unhide HR).more own' hgrow (fun q hq => (hfar q hq).imp_right (fun h => by rw [sz_alloc]; exact h))
      clear HR own' hgrow hfar HTM HOL cK htl
      go_wp2
      go_roundw
      case rel => exact ⟨j + 1, by omega, by go_num, A2⟩
      case measure => simp [intOf]; omega
    · obtain rfl : j = ks.length := by omega
      have y1 : ¬ ((ks.length : Int) < (ks.length : Int)) := by omega
      have HO : Hid (Own wr (w.heap.size + 1) u5 ks) := by
        have h := (unhide HA).own
        rw [List.take_length] at h
        exact h
      go_wp2
      go_ret
      exact ⟨_, rfl, by rw [unhide E]; exact Mem.own_mono (unhide HO) (by omega), (unhide HA).bel⟩
end WIntL
end Go.Proofs.YtkfpfckmjgjanabDoor
