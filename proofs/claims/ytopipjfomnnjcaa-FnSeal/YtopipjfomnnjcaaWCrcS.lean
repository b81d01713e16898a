/- The walks of the specification's Crc and CrcMore. -/
import Derived.Test.YtopipjfomnnjcaaWCrc
namespace Go.Proofs.Ytopipjfomnnjcaa
open Go.RowKit
namespace WCrc
theorem specMore_any (c : Int) (s : ByteArray) (w : World) (hs : s.size ≤ maxLen) :
    Calls Try.prog 14 #[.int .i64 c, .string s] w fun e w' => e = .returned (.int .i64 (Pl.crcMore c s)) ∧ w' = w := by
  unfold maxLen at hs
  by_cases h1 : 8000 < s.size
  · have E0 := hide (Pl.crcMore_no (c := c) (.inl h1))
    go_enter Try.func14, Try.ntmps14
    go_wp2
    all_goals (go_ret; exact ⟨ret_int (unhide E0).symm, rfl⟩)
  by_cases h2 : c < 0
  · have E0 := hide (Pl.crcMore_no (s := s) (.inr (.inl h2)))
    go_enter Try.func14, Try.ntmps14
    go_wp2
    all_goals (go_ret; exact ⟨ret_int (unhide E0).symm, rfl⟩)
  by_cases h3 : 4294967295 < c
  · have E0 := hide (Pl.crcMore_no (s := s) (.inr (.inr h3)))
    go_enter Try.func14, Try.ntmps14
    go_wp2
    all_goals (go_ret; exact ⟨ret_int (unhide E0).symm, rfl⟩)
  obtain ⟨n, rfl⟩ := Int.eq_ofNat_of_zero_le (Int.not_lt.1 h2)
  have E0 := hide (Pl.crcMore_yes (c := n) (s := s) (by omega) (by omega))
  go_enter Try.func14, Try.ntmps14
  go_wp2_with (go_at_call 51; refine (spec_in n s _ (by omega) (by omega)).mono ?_; rintro e w' ⟨rfl, rfl⟩)
  go_ret
  exact ⟨ret_int (unhide E0).symm, rfl⟩

theorem specCrc_any (s : ByteArray) (w : World) (hs : s.size ≤ maxLen) :
    Calls Try.prog 53 #[.string s] w fun e w' => e = .returned (.int .i64 (Pl.crcMore 0 s)) ∧ w' = w := by
  unfold maxLen at hs
  by_cases h1 : 8000 < s.size
  · have E0 := hide (Pl.crcMore_no (c := 0) (.inl h1))
    go_enter Try.func53, Try.ntmps53
    go_wp2
    all_goals (go_ret; exact ⟨ret_int (unhide E0).symm, rfl⟩)
  have E0 := hide (Pl.crcMore_yes (c := 0) (s := s) (by omega) (by omega))
  go_enter Try.func53, Try.ntmps53
  go_wp2_with (go_at_call 51; refine (spec_in 0 s _ (by omega) (by omega)).mono ?_; rintro e w' ⟨rfl, rfl⟩)
  go_ret
  exact ⟨ret_int (unhide E0).symm, rfl⟩
end WCrc
end Go.Proofs.Ytopipjfomnnjcaa
