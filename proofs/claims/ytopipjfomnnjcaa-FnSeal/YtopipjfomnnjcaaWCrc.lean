/- The walks of the CRC's functions, the program's and the specification's: both answer the same register. -/
import Derived.Test.YtopipjfomnnjcaaPlain
import Derived.Test.YtopipjfomnnjcaaKit
import Derived.Test.YtopipjfomnnjcaaProg
import Derived.WalkKit
import Derived.WalkSpells
namespace Go.Proofs.Ytopipjfomnnjcaa
open Go.RowKit
namespace WCrc

set_option maxHeartbeats 400000 in
theorem step_any (r b : Nat) (w : World) (hr : r < 4294967296) (hb : b < 256) :
    Calls Try.prog 54 #[.int .u32 (r : Int), .int .u8 (b : Int)] w fun e w' => e = .returned (.int .u32 (Pl.otherBits r b 8 : Nat)) ∧ w' = w := by
  go_enter Try.func54, Try.ntmps54
  go_wp2
  go_loop [0, 7] (fun x i => ∃ k R : Nat, k ≤ 8 ∧ i = .int .i64 k ∧ x = .int .u32 (R : Int) ∧ R < 4294967296 ∧ Hid (R = Pl.otherBits r b k)) (fun _ i => 8 - (intOf i).toNat)
  case atStart => exact ⟨0, r, by omega, rfl, rfl, hr, rfl⟩
  case round =>
    obtain ⟨k, R, hk, rfl, rfl, hR, HR⟩ := hrel
    by_cases hlt : k < 8
    · go_wp2
      · have ho := (‹(bits BinOp.and IntKind.u32 (bits BinOp.xor IntKind.u32 (R : Int) ((b : Int) / 2 ^ k % 4294967296)) 1 == 1) = true›)
        rw [Pl.odd_form R b k hR hb, beq_iff_eq] at ho
        go_round
        case rel => exact ⟨k + 1, R / 2 ^^^ 3988292384, by omega, by go_num, by rw [Pl.half_form R hR], Nat.xor_lt_two_pow (n := 32) (by omega) (by omega), Pl.other_yes HR.out ho⟩
        case measure => simp [intOf]; omega
      · have ho := (‹(bits BinOp.and IntKind.u32 (bits BinOp.xor IntKind.u32 (R : Int) ((b : Int) / 2 ^ k % 4294967296)) 1 == 1) = false›)
        rw [Pl.odd_form R b k hR hb, beq_eq_false_iff_ne] at ho
        go_round
        case rel => exact ⟨k + 1, R / 2, by omega, by go_num, by go_num, by omega, Pl.other_no HR.out ho⟩
        case measure => simp [intOf]; omega
    · obtain rfl : k = 8 := by omega
      go_wp2
      go_ret
      exact ⟨ret_int (by rw [HR.out]), rfl⟩

set_option maxHeartbeats 400000 in
theorem more_in (c : Nat) (s : ByteArray) (w : World) (hc : c < 4294967296) (hs : s.size ≤ 8000) :
    Calls Try.prog 13 #[.int .i64 (c : Int), .string s] w fun e w' => e = .returned (.int .i64 (Pl.crcOut c s.data.toList : Nat)) ∧ w' = w := by
  go_enter Try.func13, Try.ntmps13
  go_wp2
  go_loop [5, 23] (fun x i => ∃ k R : Nat, k ≤ s.size ∧ i = .int .i64 k ∧ x = .int .u32 (R : Int) ∧ R < 4294967296 ∧ Hid (R = Pl.crcReg (4294967295 - c) (s.data.toList.take k))) (fun _ i => s.size - (intOf i).toNat)
  case atStart => exact ⟨0, 4294967295 - c, Nat.zero_le _, rfl, by rw [Pl.not_form c hc], by omega, rfl⟩
  case round =>
    obtain ⟨k, R, hk, rfl, rfl, hR, HR⟩ := hrel
    by_cases hlt : k < s.size
    · have hb : s[k].toNat < 256 := s[k].toNat_lt
      have HN : Hid (Pl.otherBits R s[k].toNat 8 = Pl.crcReg (4294967295 - c) (s.data.toList.take (k + 1))) := by
        show _ = _
        rw [Pl.take_snoc s k hlt, Pl.crcReg_snoc, ← HR.out, Pl.other_byte]
      have hN := Pl.otherBits_lt s[k].toNat 8 hR
      go_wp2_with (go_at_call 54; refine (step_any R s[k].toNat _ hR hb).mono ?_; rintro e w' ⟨rfl, rfl⟩)
      go_round
      case rel => exact ⟨k + 1, Pl.otherBits R s[k].toNat 8, by omega, by go_num, rfl, hN, HN⟩
      case measure => simp [intOf]; omega
    · have HE : Hid (R = Pl.crcReg (4294967295 - c) s.data.toList) := by
        show _ = _
        rw [HR.out, List.take_of_length_le (by simp; omega)]
      have hf := Pl.not_form R hR
      go_wp2
      go_ret
      exact ⟨ret_int (by rw [Pl.crcOut, ← HE.out]), rfl⟩

set_option maxHeartbeats 400000 in
theorem spec_in (c : Nat) (s : ByteArray) (w : World) (hc : c < 4294967296) (hs : s.size ≤ 8000) :
    Calls Try.prog 51 #[.int .i64 (c : Int), .string s] w fun e w' => e = .returned (.int .i64 (Pl.crcOut c s.data.toList : Nat)) ∧ w' = w := by
  go_enter Try.func51, Try.ntmps51
  go_wp2
  go_loop [5, 6] (fun x i => ∃ k R : Nat, k ≤ s.size ∧ i = .int .i64 k ∧ x = .int .u32 (R : Int) ∧ R < 4294967296 ∧ Hid (R = Pl.crcReg (4294967295 - c) (s.data.toList.take k))) (fun _ i => s.size - (intOf i).toNat)
  case atStart => exact ⟨0, 4294967295 - c, Nat.zero_le _, rfl, by rw [Pl.turn_form c hc], by omega, rfl⟩
  case round =>
    obtain ⟨k, R, hk, rfl, rfl, hR, HR⟩ := hrel
    by_cases hlt : k < s.size
    · have HN : Hid (Pl.crcBits 8 (R ^^^ s[k].toNat) = Pl.crcReg (4294967295 - c) (s.data.toList.take (k + 1))) := by
        show _ = _
        rw [Pl.take_snoc s k hlt, Pl.crcReg_snoc, ← HR.out, Pl.crcByte]
      have hX : R ^^^ s[k].toNat < 4294967296 := Nat.xor_lt_two_pow (n := 32) hR (by have := s[k].toNat_lt; omega)
      have hbf := hide (Pl.byte_form R s[k] hR)
      go_wp2
      go_loop [5, 7] (fun x i => ∃ j Q : Nat, j ≤ 8 ∧ i = .int .i64 j ∧ x = .int .u32 (Q : Int) ∧ Q < 4294967296 ∧ Hid (Q = Pl.crcBits j (R ^^^ s[k].toNat))) (fun _ i => 8 - (intOf i).toNat)
      case atStart => exact ⟨0, R ^^^ s[k].toNat, by omega, rfl, by rw [unhide hbf], hX, rfl⟩
      case round =>
        obtain ⟨j, Q, hj, rfl, rfl, hQ, HQ⟩ := hrel
        by_cases hlt8 : j < 8
        · have hlf := Pl.low_form Q hQ
          have hhf := Pl.half_form Q hQ
          by_cases ho : ((Q % 2 : Nat) : Int) = 1
          · have HY := hide (Pl.bits_yes HQ.out ho)
            have hob : (((Q % 2 : Nat) : Int) == 1) = true := by simp only [beq_iff_eq]; exact ho
            clear ho
            go_wp2
            go_round
            case rel => exact ⟨j + 1, Q / 2 ^^^ 3988292384, by omega, by go_num, rfl, Nat.xor_lt_two_pow (n := 32) (by omega) (by omega), HY⟩
            case measure => simp [intOf]; omega
          · have HY := hide (Pl.bits_no HQ.out ho)
            have hob : (((Q % 2 : Nat) : Int) == 1) = false := by simp only [beq_eq_false_iff_ne]; exact ho
            clear ho
            go_wp2
            go_round
            case rel => exact ⟨j + 1, Q / 2, by omega, by go_num, by go_num, by omega, HY⟩
            case measure => simp [intOf]; omega
        · obtain rfl : j = 8 := by omega
          have HZ : Hid (Q = Pl.crcReg (4294967295 - c) (s.data.toList.take (k + 1))) := HQ.out.trans HN.out
          go_wp2
          go_round
          case rel => exact ⟨k + 1, Q, by omega, by go_num, rfl, hQ, HZ⟩
          case measure => simp [intOf]; omega
    · have HE : Hid (R = Pl.crcReg (4294967295 - c) s.data.toList) := by
        show _ = _
        rw [HR.out, List.take_of_length_le (by simp; omega)]
      have hf := Pl.turn_form R hR
      go_wp2
      go_ret
      exact ⟨ret_int (by rw [Pl.crcOut, ← HE.out]), rfl⟩

theorem more_any (c : Int) (s : ByteArray) (w : World) (hs : s.size ≤ maxLen) :
    Calls Try.prog 13 #[.int .i64 c, .string s] w fun e w' => e = .returned (.int .i64 (Pl.crcMore c s)) ∧ w' = w := by
  unfold maxLen at hs
  by_cases h1 : 8000 < s.size
  · have E0 := hide (Pl.crcMore_no (c := c) (.inl h1))
    go_enter Try.func13, Try.ntmps13
    go_wp2
    all_goals (go_ret; exact ⟨ret_int (unhide E0).symm, rfl⟩)
  by_cases h2 : c < 0
  · have E0 := hide (Pl.crcMore_no (s := s) (.inr (.inl h2)))
    go_enter Try.func13, Try.ntmps13
    go_wp2
    all_goals (go_ret; exact ⟨ret_int (unhide E0).symm, rfl⟩)
  by_cases h3 : 4294967295 < c
  · have E0 := hide (Pl.crcMore_no (s := s) (.inr (.inr h3)))
    go_enter Try.func13, Try.ntmps13
    go_wp2
    all_goals (go_ret; exact ⟨ret_int (unhide E0).symm, rfl⟩)
  obtain ⟨n, rfl⟩ := Int.eq_ofNat_of_zero_le (Int.not_lt.1 h2)
  refine (more_in n s w (by omega) (by omega)).mono ?_
  rintro e w' ⟨rfl, rfl⟩
  exact ⟨ret_int (Pl.crcMore_yes (by omega) (by omega)).symm, rfl⟩

theorem crc_any (s : ByteArray) (w : World) (hs : s.size ≤ maxLen) :
    Calls Try.prog 15 #[.string s] w fun e w' => e = .returned (.int .i64 (Pl.crcMore 0 s)) ∧ w' = w := by
  go_enter Try.func15, Try.ntmps15
  go_wp2_with (go_at_call 13; refine (more_any 0 s _ hs).mono ?_; rintro e w' ⟨rfl, rfl⟩)
  go_ret
  exact ⟨rfl, rfl⟩

end WCrc
end Go.Proofs.Ytopipjfomnnjcaa
