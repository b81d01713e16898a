/- The walk of the program's GetNum. -/
import Derived.Test.YtljgjmpeijlceaeDoorWGet
import Derived.Test.YtljgjmpeijlceaeDoorWGetS
import Derived.Test.YtljgjmpeijlceaeDoorPlainGetZ
namespace Go.Proofs.YtljgjmpeijlceaeDoor
open Go.RowKit
namespace WGet

/-- The state wrong, of a place below 0. -/
def Jn (s : ByteArray) (a : Int) (w : World) : Act → World → Prop := fun a' w' => w' = w ∧ ∃ v7 v8 v9 v10 v12 v13 v14 v15 v16 v17 v18 v19 v20 v21 v22 v23 v24 v25 v26 v27 v28 v29 v30 v31 v32 v33 v34 v35 v36 v37 v38 v39 v40 v41 v42 v43 v44 v45 v46 v47 v48 v49 v50 v51 v52 v53 v54 v55 v56 v57 v58 v59 : Value, a' = { tmps := #[.string s, .int .i64 a, undef, undef, .int .i64 0, .int .i64 0, .nilIface, v7, v8, v9, v10, .int .i64 1, v12, v13, v14, v15, v16, v17, v18, v19, v20, v21, v22, v23, v24, v25, v26, v27, v28, v29, v30, v31, v32, v33, v34, v35, v36, v37, v38, v39, v40, v41, v42, v43, v44, v45, v46, v47, v48, v49, v50, v51, v52, v53, v54, v55, v56, v57, v58, v59], defers := [] }

set_option maxRecDepth 100000 in
set_option maxHeartbeats 1000000 in
theorem read_neg (s : ByteArray) (a : Int) (w : World) (ha : a < 0) :
    Calls Tryd.prog 7 #[.string s, .int .i64 a] w fun e w' => e = .returned (told (0, 0, 1)) ∧ w' = w := by
  have E := hide (told_bad (r := (0, 0, 1)) rfl (by decide))
  go_enter Tryd.func7, Tryd.ntmps7
  go_wp2
  refine scope3 (Jn s a w) noWay noWay (fun _ _ => 0) rfl rfl rfl ?_ ?_ (fun _ _ h => h.elim) (fun _ _ h => h.elim)
  · intro _
    go_wp2
    go_step3
    exact ⟨rfl, _, _, _, _, _, _, _, _, _, _, _, _, _, _, _, _, _, _, _, _, _, _, _, _, _, _, _, _, _, _, _, _, _, _, _, _, _, _, _, _, _, _, _, _, _, _, _, _, _, _, _, _, rfl⟩
  · rintro a' w' ⟨rfl, v7, v8, v9, v10, v12, v13, v14, v15, v16, v17, v18, v19, v20, v21, v22, v23, v24, v25, v26, v27, v28, v29, v30, v31, v32, v33, v34, v35, v36, v37, v38, v39, v40, v41, v42, v43, v44, v45, v46, v47, v48, v49, v50, v51, v52, v53, v54, v55, v56, v57, v58, v59, rfl⟩
    go_wp2
    simp only [jump3]
    go_ret3
    exact ⟨(congrArg Ending.returned (unhide E)).symm, rfl⟩

set_option maxRecDepth 100000 in
set_option maxHeartbeats 1000000 in
theorem impl_any (s : ByteArray) (a : Int) (w : World) (hs : s.size ≤ maxLen) (ha : a ≤ 9223372036854775807)
    (hg : w.cell? ⟨0, 0, none⟩ = some (.iface 53 (.agg #[.pointer (some ⟨1, 30, none⟩)]))) :
    Calls Tryd.prog 5 #[.string s, .int .i64 a] w fun e w' => e = .returned (WGetS.num (Pl.getNum s a)) ∧ Below w.heap.size w w' := by
  unfold maxLen at hs
  by_cases h1 : 8000 < s.size
  · have E : Hid (WGetS.num (Pl.getNum s a) = .agg #[.int .i64 0, .int .i64 0, .int .i64 2]) := by show _ = _; rw [Pl.getNum, if_pos h1]; rfl
    go_enter Tryd.func5, Tryd.ntmps5
    go_wp2
    refine bodyPost_ret (v := .agg #[.int .i64 0, .int .i64 0, .int .i64 2]) (by simp [results, Tryd.results5, go_sem]) rfl ⟨by rw [E.out], ?_⟩
    exact (Below.refl _ _).alloc (Nat.le_refl _) _
  have hlt : 0 < w.heap.size := World.block_lt_of_cell? w ⟨0, 0, none⟩ hg
  have hg1 : (w.alloc (.cells #[.int .i64 0, .int .i64 0, .int .i64 0] 23)).cell? ⟨0, 0, none⟩ = some (.iface 53 (.agg #[.pointer (some ⟨1, 30, none⟩)])) := by
    rw [World.cell?_alloc_lt _ _ ⟨0, 0, none⟩ hlt]; exact hg
  have hr : ∀ W, Calls Tryd.prog 7 #[.string s, .int .i64 a] W fun e w' => e = .returned (told (Pl.getNum s a)) ∧ w' = W := by
    intro W
    by_cases h2 : a < 0
    · have e : Pl.getNum s a = (0, 0, 1) := by rw [Pl.getNum, if_neg h1, if_pos h2]
      rw [e]; exact read_neg s a W h2
    · have e : Pl.getNum s a = Pl.getAt s 10 a.toNat 0 0 := by rw [Pl.getNum, if_neg h1, if_neg h2]
      rw [e]; exact read_any s a W (by omega) (by omega) ha
  have HR := hide hr
  clear hr
  have HZ := Pl.getNum_zero s a
  generalize Pl.getNum s a = r at HR HZ ⊢
  obtain ⟨x, y, c⟩ := r
  have HXY : c ≠ 0 → x = 0 ∧ y = 0 := HZ
  clear HZ
  by_cases hc : c = 0
  · subst hc
    clear HXY
    have E := hide (told_good (r := (x, y, 0)) rfl)
    go_enter Tryd.func5, Tryd.ntmps5
    go_wp2_with fail
    refine (unhide HR _).mono ?_
    rintro e w1 ⟨rfl, hw⟩
    obtain rfl := hw.symm
    rw [unhide E]
    go_wp2_with fail
    refine (WAs.code_nil _).mono ?_
    rintro e w1 ⟨rfl, b1⟩
    obtain ⟨⟨c0, c1, c2⟩, ⟨f0, f1, f2⟩, b3⟩ := Mem.kept3 b1 (heap_alloc_new w _) ((Below.refl _ _).alloc (Nat.le_refl _) _)
    clear b1
    go_wp2
    refine bodyPost_ret (v := .agg #[.int .i64 x, .int .i64 y, .int .i64 0]) (by simp [results, Tryd.results5, go_sem, c0, c1, c2]) rfl ⟨rfl, ?_⟩
    exact ((b3.setCell (by simp) _).setCell (by simp) _).setCell (by simp) _
  · have E := hide (told_bad (r := (0, 0, c)) rfl hc)
    have hxy : x = 0 ∧ y = 0 := HXY hc
    obtain ⟨rfl, rfl⟩ := hxy
    clear HXY
    go_enter Tryd.func5, Tryd.ntmps5
    go_wp2_with fail
    refine (unhide HR _).mono ?_
    rintro e w1 ⟨rfl, hw⟩
    obtain rfl := hw.symm
    rw [unhide E]
    go_wp2_with fail
    refine (WAs.code_hit c _ hg1).mono ?_
    rintro e w1 ⟨rfl, b1⟩
    obtain ⟨⟨c0, c1, c2⟩, ⟨f0, f1, f2⟩, b3⟩ := Mem.kept3 b1 (heap_alloc_new w _) ((Below.refl _ _).alloc (Nat.le_refl _) _)
    clear b1 hg1
    go_wp2
    refine bodyPost_ret (v := .agg #[.int .i64 0, .int .i64 0, .int .i64 c]) (by simp [results, Tryd.results5, go_sem, c0, c1, c2]) rfl ⟨rfl, ?_⟩
    exact ((b3.setCell (by simp) _).setCell (by simp) _).setCell (by simp) _
end WGet
end Go.Proofs.YtljgjmpeijlceaeDoor
