/- Several texts of one claim in one file: WNamesT, WParI. -/
import Derived.Test.YtepmojmelcngeaaGreatDoorG22
import Derived.Test.YtepmojmelcngeaaGreatDoorG52
import Derived.Test.YtepmojmelcngeaaGreatDoorG12
import Derived.Test.YtepmojmelcngeaaGreatDoorG05
import Derived.Test.YtepmojmelcngeaaGreatDoorG55
import Derived.Test.YtepmojmelcngeaaGreatDoorWParentI
/- The specification's TreeNames. -/
namespace Go.Proofs.YtepmojmelcngeaaGreatDoor
open Go.RowKit
namespace WNamesT
set_option linter.unusedSimpArgs false in
set_option maxRecDepth 100000 in
set_option maxHeartbeats 2000000 in
theorem spec_any (a : Option Addr) (cap : Nat) (L : List Pl.Nd) (p : ByteArray) (w : World) (hl : L.length ≤ 1048576) (hv : Mem.isNodes w a L) (hok : ∀ n ∈ L, n.path.size ≤ 1048576 ∧ n.data.size ≤ 1048576) :
    Calls Tryz.prog 21 #[.agg #[.slice a L.length cap], .string p] w fun e w' => ∃ v, e = .returned v ∧ w'.ownsRow w.heap.size 9 1 v (Pl.kidsO p L).length ((Pl.kidsO p L).map Value.string) ∧ Below w.heap.size w w' := by
  have b0 : Below w.heap.size w (w.alloc (.cells #[.slice a L.length cap] 31)) := (Below.refl _ _).alloc (Nat.le_refl _) _
  have V0 := Mem.Blk.new w #[.slice a L.length cap] 31
  have hrt := hide (fun W (b : Below w.heap.size w W) => WTreeS.right_tree a cap L W hl (Mem.nodes_call hv b) hok)
  have hdi := hide (fun W (b : Below w.heap.size w W) => WTreeS.dir_any a cap L p W hl (Mem.nodes_call hv b))
  have hna := hide (fun W (b : Below w.heap.size w W) => l03_any a cap L p W hl (Mem.nodes_call hv b) hok)
  have EMPTY : Hid (∀ W : World, (W.alloc (.cells #[] 9)).ownsRow W.heap.size 9 1 (.slice (some ⟨W.heap.size, 0, none⟩) 0 0) ([] : List ByteArray).length (([] : List ByteArray).map Value.string)) := fun W =>
    ⟨rfl, .inr ⟨W.heap.size, 0, #[], rfl, Nat.le_refl _, heap_alloc_new _ _, Nat.le_refl _, Nat.zero_le _, rfl, rfl⟩⟩
  have EL : Hid (8000 < p.size → Pl.kidsO p L = []) := fun h => by
    rw [Pl.kidsO]
    split
    · rename_i h2
      exfalso
      have hL : ∀ n ∈ L, Pl.pathB n.path = true := fun n hn => by
        have h3 := h2.1
        simp only [Pl.treeB, Bool.and_eq_true] at h3
        exact (Pl.node_right (Pl.goI_all L _ _ h3.2 n hn)).1
      have := Pl.pathB_le (Pl.dir_right hL h2.2)
      omega
    · rfl
  have EO : Hid (Pl.kidsO p L = if Pl.treeB L = true ∧ Pl.dirS L p = true then Pl.kidsL p L else []) := rfl
  generalize Pl.kidsO p L = K at EL EO ⊢
  generalize Pl.treeB L = R1 at hrt EO
  generalize Pl.dirS L p = R2 at hdi EO
  clear hv hok
  by_cases hz : 8000 < p.size
  · have t0 : (8000 : Int) < (p.size : Int) := by omega
    have e := unhide EL hz
    subst e
    clear hrt hdi hna EO EL V0
    go_enter Tryz.func21, Tryz.ntmps21
    go_wp2
    go_ret
    have E1 := unhide EMPTY (w.alloc (.cells #[.slice a L.length cap] 31))
    rw [show (w.alloc (.cells #[.slice a L.length cap] 31)).heap.size = w.heap.size + 1 by simp] at E1
    exact ⟨_, rfl, Mem.own_mono E1 (by omega), b0.alloc b0.size _⟩
  have t0 : ¬ (8000 : Int) < (p.size : Int) := by omega
  clear EL
  cases R1
  · have e : K = [] := by rw [unhide EO, if_neg (by simp)]
    subst e
    clear hdi hna EO V0
    go_enter Tryz.func21, Tryz.ntmps21
    go_wp2_with fail
    refine (unhide hrt _ b0).mono ?_
    rintro e w1 ⟨rfl, b1⟩
    have b2 := b0.trans (b1.mono b0.size)
    clear hrt b0 b1
    go_wp2
    go_ret
    exact ⟨_, rfl, Mem.own_mono (unhide EMPTY w1) b2.size, b2.alloc b2.size _⟩
  cases R2
  · have e : K = [] := by rw [unhide EO, if_neg (by simp)]
    subst e
    clear hna EO
    go_enter Tryz.func21, Tryz.ntmps21
    go_wp2_with fail
    refine (unhide hrt _ b0).mono ?_
    rintro e w1 ⟨rfl, b1⟩
    have b2 := b0.trans (b1.mono b0.size)
    have c0 := (V0.call b1).cell 0
    simp only [kA0, kA1] at c0
    clear hrt b0 b1 V0
    go_wp2_with fail
    refine (unhide hdi _ b2).mono ?_
    rintro e w3 ⟨rfl, b3⟩
    have b4 := b2.trans (b3.mono b2.size)
    clear hdi b2 b3 c0
    go_wp2
    go_ret
    exact ⟨_, rfl, Mem.own_mono (unhide EMPTY w3) b4.size, b4.alloc b4.size _⟩
  · have e : K = Pl.kidsL p L := by rw [unhide EO, if_pos ⟨rfl, rfl⟩]
    clear EO EMPTY
    rw [← e] at hna
    clear e
    go_enter Tryz.func21, Tryz.ntmps21
    go_wp2_with fail
    refine (unhide hrt _ b0).mono ?_
    rintro e w1 ⟨rfl, b1⟩
    have b2 := b0.trans (b1.mono b0.size)
    have V1 := V0.call b1
    have c0 := V1.cell 0
    simp only [kA0, kA1] at c0
    clear hrt b0 b1 V0
    go_wp2_with fail
    refine (unhide hdi _ b2).mono ?_
    rintro e w3 ⟨rfl, b3⟩
    have b4 := b2.trans (b3.mono b2.size)
    have c1 := (V1.call b3).cell 0
    simp only [kA0, kA1] at c1
    clear hdi b2 b3 c0 V1
    go_wp2_with fail
    refine (unhide hna _ b4).mono ?_
    rintro e w5 ⟨v, rfl, own, b5⟩
    have b6 := b4.trans (b5.mono b4.size)
    have OW := hide (Mem.own_mono own b4.size)
    clear hna b4 b5 own c1
    go_wp2
    go_ret
    exact ⟨_, rfl, unhide OW, b6⟩
end WNamesT
end Go.Proofs.YtepmojmelcngeaaGreatDoor

/- The walk of the program's PathBase. -/
namespace Go.Proofs.YtepmojmelcngeaaGreatDoor
open Go.RowKit
namespace WPathI
set_option maxRecDepth 100000 in
set_option maxHeartbeats 4000000 in
theorem base_any (s : ByteArray) (w : World) (hs : s.size ≤ 1048576) :
    Calls Tryz.prog 52 #[.string s] w fun e w' => e = .returned (.string (Pl.glue ((Pl.namesR s).drop ((Pl.namesR s).length - 1)))) ∧ Below w.heap.size w w' := by
  have hn := hide (WNames.any s w hs)
  have hL := hide (Pl.namesR_all s)
  generalize Pl.pathB s = r at hn
  generalize Pl.namesR s = L at hn hL
  go_enter Tryz.func52, Tryz.ntmps52
  go_wp2_with fail
  refine (unhide hn).mono ?_
  rintro e w1 ⟨v, rfl, hown, hb⟩
  clear hn
  rcases Mem.texts hown with ⟨rfl, rfl⟩ | ⟨g, cap, rfl, hcap, hm, hgb, hgl, hcell⟩
  · clear hown
    go_wp2_with fail
    refine (WPathOf.any _ [] _ (by simp) (by decide) (.inl ⟨rfl, rfl⟩)).mono ?_
    rintro e w2 ⟨rfl, hb2⟩
    have hb3 := hb.trans (hb2.mono hb.size)
    clear hb hb2
    go_wp2
    go_ret
    exact ⟨rfl, hb3⟩
  · clear hown
    have hm2 := hm
    have HC := hide hcell
    clear hcell
    unfold maxLen at hm2
    by_cases h0 : L.length = 0
    · obtain rfl : L = [] := List.eq_nil_of_length_eq_zero h0
      have m0 : max (-1 : Int) 0 = 0 := by decide
      go_wp2_with fail
      refine (WPathOf.any _ [] _ (by simp) (by decide) (.inr ⟨g, 0, cap, rfl, hgl, fun j t h => by simp at h⟩)).mono ?_
      rintro e w2 ⟨rfl, hb2⟩
      have hb3 := hb.trans (hb2.mono hb.size)
      clear hb hb2
      go_wp2
      go_ret
      exact ⟨rfl, hb3⟩
    · have h1 : (0 : Int) ≤ (L.length : Int) - 1 := by omega
      have m1 : max ((L.length : Int) - 1) 0 = (L.length : Int) - 1 := by omega
      have h2 : (L.length : Int) - 1 ≤ (L.length : Int) := by omega
      have h3 : cap ≠ L.length - 1 := by omega
      go_wp2_with fail
      refine (WPathOf.any _ (L.drop (L.length - 1)) _ ?_ (Pl.glue_small (Pl.all_drop (unhide hL).1 _) ?_) (Mem.drop_texts hgl (unhide HC) _)).mono ?_
      · have := (unhide hL).2; simp; omega
      · have := (unhide hL).2; simp; omega
      rintro e w2 ⟨rfl, hb2⟩
      have hb3 := hb.trans (hb2.mono hb.size)
      clear hb hb2
      go_wp2
      go_ret
      exact ⟨rfl, hb3⟩
end WPathI
end Go.Proofs.YtepmojmelcngeaaGreatDoor

