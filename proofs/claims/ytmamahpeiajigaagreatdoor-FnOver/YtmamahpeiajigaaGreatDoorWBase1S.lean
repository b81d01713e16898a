/- The walk of the specification's l02Base. -/
import Derived.Test.YtmamahpeiajigaaGreatDoorWParS
import Derived.Test.YtmamahpeiajigaaGreatDoorPlainPar
import Derived.Test.YtmamahpeiajigaaGreatDoorPlainR
namespace Go.Proofs.YtmamahpeiajigaaGreatDoor
open Go.RowKit
namespace WPathS
theorem base1_any (s : ByteArray) (w : World) (hs : s.size ≤ maxLen) :
    Calls Tryz.prog 58 #[.string s] w fun e w' => e = .returned (.string (Pl.base s)) ∧ w' = w := by
  have hb := Pl.slash_lt s s.size
  have hc := hide (fun W => cut_any s W hs)
  unfold maxLen at hs
  have E : Hid (Pl.base s = s.extract (Pl.slashTo s s.size + 1).toNat s.size) := rfl
  generalize Pl.base s = R at E ⊢
  generalize Pl.slashTo s s.size = k at hc hb E
  have t1 : 0 ≤ k + 1 := by omega
  have t2 : k + 1 ≤ (s.size : Int) := by omega
  go_enter Tryz.func58, Tryz.ntmps58
  go_wp2_with (go_at_call 76; refine (unhide hc _).mono ?_; rintro e w' ⟨rfl, hw⟩; obtain rfl := hw.symm)
  go_ret
  exact ⟨ret_string (unhide E).symm, rfl⟩
end WPathS
end Go.Proofs.YtmamahpeiajigaaGreatDoor
