/- The walk of the specification's PathUnder. -/
import Derived.Test.YthkfhjemcekpgaaGreatDoorPartB
namespace Go.Proofs.YthkfhjemcekpgaaGreatDoor
open Go.RowKit
namespace WPathS
set_option maxRecDepth 100000 in
set_option maxHeartbeats 400000 in
theorem underF_any (p t : ByteArray) (w : World) (hp : p.size ≤ 1048576) (ht : t.size ≤ 1048576) :
    Calls Tryz.prog 54 #[.string p, .string t] w fun e w' => e = .returned (.bool (Pl.pathB p && Pl.pathB t && Pl.underR (Pl.namesR p) (Pl.namesR t))) ∧ Below w.heap.size w w' := by
  have hr1 := hide (fun W => right_any p W (by unfold maxLen; omega))
  have hr2 := hide (fun W => right_any t W (by unfold maxLen; omega))
  have hun := hide (fun W => under1_any p t W ht)
  have L1 : Hid (8000 < p.size → Pl.pathB p = false) := fun h => Pl.pathB_long (by omega)
  have L2 : Hid (8000 < t.size → Pl.pathB t = false) := fun h => Pl.pathB_long (by omega)
  have EU : Hid (Pl.pathB p = true → Pl.pathB t = true → Pl.underR (Pl.namesR p) (Pl.namesR t) = Pl.under p t) := fun h1 h2 => by rw [Pl.namesR_yes h1, Pl.namesR_yes h2]; rfl
  generalize Pl.underR (Pl.namesR p) (Pl.namesR t) = u at EU ⊢
  generalize Pl.under p t = u2 at EU hun
  generalize Pl.pathB p = r1 at hr1 L1 EU ⊢
  generalize Pl.pathB t = r2 at hr2 L2 EU ⊢
  by_cases h1 : 8000 < p.size
  · have E := hide (L1.out h1)
    have k1 : ¬ (p.size : Int) ≤ 8000 := by omega
    go_enter Tryz.func54, Tryz.ntmps54
    go_wp2
    go_ret
    exact ⟨ret_bool (by rw [unhide E]; rfl), Below.refl _ _⟩
  have k1 : (p.size : Int) ≤ 8000 := by omega
  by_cases h2 : 8000 < t.size
  · have E := hide (L2.out h2)
    have k2 : ¬ (t.size : Int) ≤ 8000 := by omega
    go_enter Tryz.func54, Tryz.ntmps54
    go_wp2
    go_ret
    exact ⟨ret_bool (by rw [unhide E]; simp), Below.refl _ _⟩
  have k2 : (t.size : Int) ≤ 8000 := by omega
  cases r1
  · go_enter Tryz.func54, Tryz.ntmps54
    go_wp2_with (go_at_call 45; refine (unhide hr1 _).mono ?_; rintro e w1 ⟨rfl, b1⟩)
    go_ret
    exact ⟨rfl, b1⟩
  cases r2
  · go_enter Tryz.func54, Tryz.ntmps54
    go_wp2_with fail
    refine (unhide hr1 _).mono ?_
    rintro e w1 ⟨rfl, b1⟩
    go_wp2_with fail
    refine (unhide hr2 _).mono ?_
    rintro e w2 ⟨rfl, b2⟩
    go_wp2
    go_ret
    exact ⟨rfl, b1.trans (b2.mono b1.size)⟩
  · have E := hide (EU.out rfl rfl)
    go_enter Tryz.func54, Tryz.ntmps54
    go_wp2_with fail
    refine (unhide hr1 _).mono ?_
    rintro e w1 ⟨rfl, b1⟩
    go_wp2_with fail
    refine (unhide hr2 _).mono ?_
    rintro e w2 ⟨rfl, b2⟩
    go_wp2_with fail
    refine (unhide hun _).mono ?_
    rintro e w3 ⟨rfl, hw⟩
    obtain rfl := hw.symm
    go_wp2
    go_ret
    exact ⟨by rw [unhide E]; rfl, b1.trans (b2.mono b1.size)⟩
end WPathS
end Go.Proofs.YthkfhjemcekpgaaGreatDoor
