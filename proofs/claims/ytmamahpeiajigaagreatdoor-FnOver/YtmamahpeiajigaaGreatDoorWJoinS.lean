/- The walk of the specification's l02Join. -/
import Derived.Test.YtmamahpeiajigaaGreatDoorWPathS
import Derived.Test.YtmamahpeiajigaaGreatDoorPlainR
namespace Go.Proofs.YtmamahpeiajigaaGreatDoor
open Go.RowKit
namespace WPathS
theorem join1_any (p n : ByteArray) (w : World) (hp : p.size ≤ 1048576) (hq : n.size ≤ 1048576) :
    Calls Tryz.prog 42 #[.string p, .string n] w fun e w' => e = .returned (.string (Pl.joinN p n)) ∧ w' = w := by
  by_cases h0 : Pl.by_ p = []
  · have E := hide (Pl.joinN_root (n := n) h0)
    have d1 : p.toList.isEmpty = true := by rw [Pl.empty_list]; simp [h0]
    clear h0
    go_enter Tryz.func42, Tryz.ntmps42
    go_wp2
    go_ret
    exact ⟨ret_string (unhide E).symm, rfl⟩
  · have E : Hid (p ++ ⟨#[47]⟩ ++ n = Pl.joinN p n) := by
      show _ = _
      apply Pl.by_inj
      rw [Pl.joinN_two h0]
      simp [Pl.by_]
    have d1 : p.toList.isEmpty = false := by rw [Pl.empty_list]; simp [h0]
    clear h0
    generalize Pl.joinN p n = R at E ⊢
    go_enter Tryz.func42, Tryz.ntmps42
    go_wp2
    go_ret
    exact ⟨by rw [← unhide E]; rfl, rfl⟩

end WPathS
end Go.Proofs.YtmamahpeiajigaaGreatDoor
