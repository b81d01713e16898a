/- Several texts of one claim in one file: WJoinS, WBase1S. -/
import Derived.Test.YtibmflhelgedeaaGreatDoorG02
import Derived.Test.YtibmflhelgedeaaGreatDoorG00
import Derived.Test.YtibmflhelgedeaaGreatDoorG03
/- The walk of the specification's l02Join. -/
namespace Go.Proofs.YtibmflhelgedeaaGreatDoor
open Go.RowKit
namespace WPathS
theorem join1_any (p n : ByteArray) (w : World) (hp : p.size ≤ 1048576) (hq : n.size ≤ 1048576) :
    Calls Tryz.prog 103 #[.string p, .string n] w fun e w' => e = .returned (.string (Pl.joinN p n)) ∧ w' = w := by
  by_cases h0 : Pl.by_ p = []
  · have E := hide (Pl.joinN_root (n := n) h0)
    have d1 : p.toList.isEmpty = true := by rw [Pl.empty_list]; simp [h0]
    clear h0
    go_enter Tryz.func103, Tryz.ntmps103
    go_wp2
    go_ret
    exact ⟨ret_string (unhide E).symm, rfl⟩
  · have E : Hid (p ++ ⟨#[47]⟩ ++ n = Pl.joinN p n) := by
      show _ = _
      apply Pl.by_inj
      rw [Pl.joinN_two h0]
      simp [Pl.by_]
    have d1 : p.toList.isEmpty = false := by rw [Pl.empty_list]; simp [h0]
    clear h0
    generalize Pl.joinN p n = R at E ⊢
    go_enter Tryz.func103, Tryz.ntmps103
    go_wp2
    go_ret
    exact ⟨by rw [← unhide E]; rfl, rfl⟩

end WPathS
end Go.Proofs.YtibmflhelgedeaaGreatDoor

/- The walk of the specification's l02Base. -/
namespace Go.Proofs.YtibmflhelgedeaaGreatDoor
open Go.RowKit
namespace WPathS
theorem base1_any (s : ByteArray) (w : World) (hs : s.size ≤ maxLen) :
    Calls Tryz.prog 129 #[.string s] w fun e w' => e = .returned (.string (Pl.base s)) ∧ w' = w := by
  have hb := Pl.slash_lt s s.size
  have hc := hide (fun W => cut_any s W hs)
  unfold maxLen at hs
  have E : Hid (Pl.base s = s.extract (Pl.slashTo s s.size + 1).toNat s.size) := rfl
  generalize Pl.base s = R at E ⊢
  generalize Pl.slashTo s s.size = k at hc hb E
  have t1 : 0 ≤ k + 1 := by omega
  have t2 : k + 1 ≤ (s.size : Int) := by omega
  go_enter Tryz.func129, Tryz.ntmps129
  go_wp2_with (go_at_call 143; refine (unhide hc _).mono ?_; rintro e w' ⟨rfl, hw⟩; obtain rfl := hw.symm)
  go_ret
  exact ⟨ret_string (unhide E).symm, rfl⟩
end WPathS
end Go.Proofs.YtibmflhelgedeaaGreatDoor

