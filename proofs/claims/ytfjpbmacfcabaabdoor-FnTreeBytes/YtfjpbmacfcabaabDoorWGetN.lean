/- readNum, wherever the place is. -/
import Derived.Test.YtfjpbmacfcabaabDoorWGet
namespace Go.Proofs.YtfjpbmacfcabaabDoor
open Go.RowKit
namespace WGet

/-- The state wrong, of a place below 0. -/
def Jn (s : ByteArray) (a : Int) (w : World) : Act → World → Prop := fun a' w' => w' = w ∧ ∃ v7 v8 v9 v10 v12 v13 v14 v15 v16 v17 v18 v19 v20 v21 v22 v23 v24 v25 v26 v27 v28 v29 v30 v31 v32 v33 v34 v35 v36 v37 v38 v39 v40 v41 v42 v43 v44 v45 v46 v47 v48 v49 v50 v51 v52 v53 v54 v55 v56 v57 v58 v59 : Value, a' = { tmps := #[.string s, .int .i64 a, undef, undef, .int .i64 0, .int .i64 0, .nilIface, v7, v8, v9, v10, .int .i64 1, v12, v13, v14, v15, v16, v17, v18, v19, v20, v21, v22, v23, v24, v25, v26, v27, v28, v29, v30, v31, v32, v33, v34, v35, v36, v37, v38, v39, v40, v41, v42, v43, v44, v45, v46, v47, v48, v49, v50, v51, v52, v53, v54, v55, v56, v57, v58, v59], defers := [] }

set_option maxRecDepth 100000 in
set_option maxHeartbeats 1000000 in
theorem read_neg (s : ByteArray) (a : Int) (w : World) (ha : a < 0) :
    Calls Tryd.prog 48 #[.string s, .int .i64 a] w fun e w' => e = .returned (told (0, 0, 1)) ∧ w' = w := by
  have E := hide (told_bad (r := (0, 0, 1)) rfl (by decide))
  go_enter Tryd.func48, Tryd.ntmps48
  go_wp2
  refine scope3 (Jn s a w) noWay noWay (fun _ _ => 0) rfl rfl rfl ?_ ?_ (fun _ _ h => h.elim) (fun _ _ h => h.elim)
  · intro _
    go_wp2
    go_step3
    exact ⟨rfl, _, _, _, _, _, _, _, _, _, _, _, _, _, _, _, _, _, _, _, _, _, _, _, _, _, _, _, _, _, _, _, _, _, _, _, _, _, _, _, _, _, _, _, _, _, _, _, _, _, _, _, _, rfl⟩
  · rintro a' w' ⟨rfl, v7, v8, v9, v10, v12, v13, v14, v15, v16, v17, v18, v19, v20, v21, v22, v23, v24, v25, v26, v27, v28, v29, v30, v31, v32, v33, v34, v35, v36, v37, v38, v39, v40, v41, v42, v43, v44, v45, v46, v47, v48, v49, v50, v51, v52, v53, v54, v55, v56, v57, v58, v59, rfl⟩
    go_wp2
    simp only [jump3]
    go_ret3
    exact ⟨(congrArg Ending.returned (unhide E)).symm, rfl⟩

theorem read_whole (s : ByteArray) (a : Int) (W : World) (h8 : s.size ≤ 8000) (ha : a ≤ 9223372036854775807) :
    Calls Tryd.prog 48 #[.string s, .int .i64 a] W fun e w' => e = .returned (told (Pl.getNum s a)) ∧ w' = W := by
  by_cases h2 : a < 0
  · have e : Pl.getNum s a = (0, 0, 1) := by rw [Pl.getNum, if_neg (by omega), if_pos h2]
    rw [e]; exact read_neg s a W h2
  · have e : Pl.getNum s a = Pl.getAt s 10 a.toNat 0 0 := by rw [Pl.getNum, if_neg (by omega), if_neg h2]
    rw [e]; exact read_any s a W h8 (by omega) ha
end WGet
end Go.Proofs.YtfjpbmacfcabaabDoor
