/- The walk of the specification's GetNum. -/
import Derived.Test.YtfjpbmacfcabaabDoorPartA
import Derived.Test.YtfjpbmacfcabaabDoorProg
import Derived.WalkSpells
namespace Go.Proofs.YtfjpbmacfcabaabDoor
open Go.RowKit
namespace WGetS
/-- A NumOut. -/
def num (r : Int × Int × Int) : Value := .agg #[.int .i64 r.1, .int .i64 r.2.1, .int .i64 r.2.2]

set_option maxRecDepth 100000 in
set_option maxHeartbeats 1000000 in
theorem spec_any (s : ByteArray) (a : Int) (w : World) (hs : s.size ≤ maxLen) (ha : a ≤ 9223372036854775807) :
    Calls Tryd.prog 54 #[.string s, .int .i64 a] w fun e w' => e = .returned (num (Pl.getNum s a)) ∧ Below w.heap.size w w' := by
  unfold maxLen at hs
  by_cases h1 : 8000 < s.size
  · have E : Hid (num (Pl.getNum s a) = .agg #[.int .i64 0, .int .i64 0, .int .i64 2]) := by show _ = _; rw [Pl.getNum, if_pos h1]; rfl
    go_enter Tryd.func54, Tryd.ntmps54
    go_wp2
    refine bodyPost_ret (v := .agg #[.int .i64 0, .int .i64 0, .int .i64 2]) (by simp [results, Tryd.results54, go_sem]) rfl ⟨by rw [E.out], ?_⟩
    exact (Below.refl _ _).alloc (Nat.le_refl _) _
  by_cases h2 : a < 0
  · have E : Hid (num (Pl.getNum s a) = .agg #[.int .i64 0, .int .i64 0, .int .i64 1]) := by show _ = _; rw [Pl.getNum, if_neg h1, if_pos h2]; rfl
    go_enter Tryd.func54, Tryd.ntmps54
    go_wp2
    refine bodyPost_ret (v := .agg #[.int .i64 0, .int .i64 0, .int .i64 1]) (by simp [results, Tryd.results54, go_sem]) rfl ⟨by rw [E.out], ?_⟩
    exact (Below.refl _ _).alloc (Nat.le_refl _) _
  obtain ⟨n, rfl⟩ := Int.eq_ofNat_of_zero_le (Int.not_lt.1 h2)
  have E : Hid (Pl.getNum s (n : Int) = Pl.getAt s 10 n 0 0) := by show _ = _; rw [Pl.getNum, if_neg h1, if_neg h2, Int.toNat_natCast]
  go_enter Tryd.func54, Tryd.ntmps54
  go_wp2
  go_loop [5, 6] (fun x i => ∃ k X : Nat, k ≤ 10 ∧ (k = 0 ∨ n + k ≤ s.size) ∧ i = .int .i64 (k : Int) ∧ x = .int .u64 (X : Int) ∧ Hid (X < 128 ^ k) ∧ Hid (Pl.getNum s (n : Int) = Pl.getAt s (10 - k) (n + k) k X)) (fun _ i => 10 - (intOf i).toNat)
  case atStart => exact ⟨0, 0, by omega, .inl rfl, rfl, rfl, by show 0 < 1; decide, E⟩
  case round =>
    obtain ⟨k, X, hk, hn, rfl, rfl, HX, H⟩ := hrel
    by_cases hk10 : k < 10
    · have hf : 10 - k = 9 - k + 1 := by omega
      have H2 : Pl.getNum s (n : Int) = Pl.getAt s (9 - k + 1) (n + k) k X := by have := H.out; rwa [hf] at this
      clear H hf
      by_cases hsz : s.size ≤ n + k
      · have t1 : (s.size : Int) - (k : Int) ≤ (n : Int) := by omega
        have E : Hid (num (Pl.getNum s (n : Int)) = .agg #[.int .i64 0, .int .i64 0, .int .i64 4]) := by show _ = _; rw [H2, Pl.getAt_short _ hsz]; rfl
        clear H2
        go_wp2
        refine bodyPost_ret (v := .agg #[.int .i64 0, .int .i64 0, .int .i64 4]) (by simp [results, Tryd.results54, go_sem]) rfl ⟨by rw [E.out], ?_⟩
        exact (Below.refl _ _).alloc (Nat.le_refl _) _
      · have t1 : ¬ (s.size : Int) - (k : Int) ≤ (n : Int) := by omega
        have hlt : n + k < s.size := by omega
        have hcc : s[n + k].toNat < 256 := s[n + k].toNat_lt
        have t3 : (s[n + k].toNat : Int) < 256 := by omega
        have t4 : (0 : Int) ≤ (s[n + k].toNat : Int) := by omega
        by_cases hA : k = 9 ∧ 1 < s[n + k].toNat
        · have t5 : ((k : Int) == 9) = true := by rw [beq_iff_eq]; omega
          have t6 : (1 : Int) < (s[n + k].toNat : Int) := by omega
          have E : Hid (num (Pl.getNum s (n : Int)) = .agg #[.int .i64 0, .int .i64 0, .int .i64 3]) := by
            show _ = _
            by_cases h128 : 128 ≤ s[n + k].toNat
            · rw [H2, Pl.getAt_many _ hlt h128 hA.1]; rfl
            · rw [H2, Pl.getAt_bad _ hlt (by omega) (.inl hA)]; rfl
          clear H2 hA
          go_wp2
          refine bodyPost_ret (v := .agg #[.int .i64 0, .int .i64 0, .int .i64 3]) (by simp [results, Tryd.results54, go_sem]) rfl ⟨by rw [E.out], ?_⟩
          exact (Below.refl _ _).alloc (Nat.le_refl _) _
        · have t5 : (((k : Int) == 9) && decide ((1 : Int) < (s[n + k].toNat : Int))) = false := by
            rw [Bool.and_eq_false_iff, beq_eq_false_iff_ne, decide_eq_false_iff_not]; omega
          by_cases h128 : 128 ≤ s[n + k].toNat
          · have h9 : k ≠ 9 := by omega
            have t6 : ((k : Int) == 9) = false := by rw [beq_eq_false_iff_ne]; omega
            have t7 : ¬ (s[n + k].toNat : Int) < 128 := by omega
            have HB := hide (H2.trans (Pl.getAt_more _ hlt h128 h9))
            have HX2 := hide (Pl.next_lt (c := s[n + k].toNat) HX.out)
            have HT := hide (Pl.sum_form (k := k) (X := X) (c := s[n + k].toNat) (Pl.next_small (by omega) HX.out))
            clear H2 hA t5
            go_wp2
            go_round
            case rel => exact ⟨k + 1, _, by omega, .inr (by omega), by go_num, by rw [unhide HT], HX2, by show _ = _; rw [show 10 - (k + 1) = 9 - k by omega]; exact unhide HB⟩
            case measure => simp [intOf]; omega
          · have t7 : (s[n + k].toNat : Int) < 128 := by omega
            by_cases hC : s[n + k].toNat = 0 ∧ 0 < k
            · have t8 : ((s[n + k].toNat : Int) == 0) = true := by rw [beq_iff_eq]; omega
              have t9 : (0 : Int) < (k : Int) := by omega
              have E : Hid (num (Pl.getNum s (n : Int)) = .agg #[.int .i64 0, .int .i64 0, .int .i64 3]) := by show _ = _; rw [H2, Pl.getAt_bad _ hlt (by omega) (.inr hC)]; rfl
              clear H2 hA hC
              by_cases h9 : k = 9
              · subst h9
                have t10 : ¬ (1 : Int) < (s[n + 9].toNat : Int) := by have := beq_iff_eq.1 t8; omega
                have t11 : ¬ (s.size : Int) - 9 ≤ (n : Int) := by omega
                clear t5 t1 t9
                go_wp2
                refine bodyPost_ret (v := .agg #[.int .i64 0, .int .i64 0, .int .i64 3]) (by simp [results, Tryd.results54, go_sem]) rfl ⟨by rw [E.out], ?_⟩
                exact (Below.refl _ _).alloc (Nat.le_refl _) _
              · have t6 : ((k : Int) == 9) = false := by rw [beq_eq_false_iff_ne]; omega
                clear t5
                go_wp2
                refine bodyPost_ret (v := .agg #[.int .i64 0, .int .i64 0, .int .i64 3]) (by simp [results, Tryd.results54, go_sem]) rfl ⟨by rw [E.out], ?_⟩
                exact (Below.refl _ _).alloc (Nat.le_refl _) _
            · have hsm : X + s[n + k].toNat % 128 * 128 ^ k < 18446744073709551616 := by
                by_cases h9 : k = 9
                · subst h9; exact Pl.last_small (by omega) HX.out
                · exact Pl.next_small (by omega) HX.out
              have HT := Pl.sum_form (k := k) (X := X) (c := s[n + k].toNat) hsm
              have HB : Pl.getNum s (n : Int) = (Pl.unf (X + s[n + k].toNat % 128 * 128 ^ k), ((n + k + 1 : Nat) : Int), 0) := by
                rw [H2, Pl.getAt_good _ hlt (by omega) (fun h => h.elim hA hC), Nat.mod_eq_of_lt (by omega : s[n + k].toNat < 128)]
              generalize X + s[n + k].toNat % 128 * 128 ^ k = Y at hsm HT HB
              have HB := hide HB
              clear H2
              by_cases h2 : Y % 2 = 1
              · have E : Hid (num (Pl.getNum s (n : Int)) = .agg #[.int .i64 (-((Y : Int) / 2) - 1), .int .i64 ((n : Int) + (k : Int) + 1), .int .i64 0]) := by
                  show _ = _
                  rw [unhide HB, Pl.unf, if_pos h2, num]
                  simp only
                  rw [show -((Y / 2 : Nat) : Int) - 1 = -((Y : Int) / 2) - 1 by omega, show ((n + k + 1 : Nat) : Int) = (n : Int) + (k : Int) + 1 by omega]
                have t12 : ((Y : Int) % 2 == 1) = true := by rw [beq_iff_eq]; omega
                clear h2
                by_cases h9 : k = 9
                · have t6 : ((k : Int) == 9) = true := by rw [beq_iff_eq]; omega
                  have t10 : ¬ (1 : Int) < (s[n + k].toNat : Int) := by omega
                  by_cases hz : s[n + k].toNat = 0
                  · exact absurd ⟨hz, by omega⟩ hC
                  · have t8 : ((s[n + k].toNat : Int) == 0) = false := by rw [beq_eq_false_iff_ne]; omega
                    clear t5 hA hC h9 hz
                    go_wp2
                    refine bodyPost_ret (v := .agg #[.int .i64 (-((Y : Int) / 2) - 1), .int .i64 ((n : Int) + (k : Int) + 1), .int .i64 0]) (by simp [results, Tryd.results54, go_sem]) rfl ⟨by rw [E.out], ?_⟩
                    exact (Below.refl _ _).alloc (Nat.le_refl _) _
                · have t6 : ((k : Int) == 9) = false := by rw [beq_eq_false_iff_ne]; omega
                  by_cases hz : s[n + k].toNat = 0
                  · have t8 : ((s[n + k].toNat : Int) == 0) = true := by rw [beq_iff_eq]; omega
                    have t9 : ¬ (0 : Int) < (k : Int) := by omega
                    clear t5 hA hC h9 hz
                    go_wp2
                    refine bodyPost_ret (v := .agg #[.int .i64 (-((Y : Int) / 2) - 1), .int .i64 ((n : Int) + (k : Int) + 1), .int .i64 0]) (by simp [results, Tryd.results54, go_sem]) rfl ⟨by rw [E.out], ?_⟩
                    exact (Below.refl _ _).alloc (Nat.le_refl _) _
                  · have t8 : ((s[n + k].toNat : Int) == 0) = false := by rw [beq_eq_false_iff_ne]; omega
                    clear t5 hA hC h9 hz
                    go_wp2
                    refine bodyPost_ret (v := .agg #[.int .i64 (-((Y : Int) / 2) - 1), .int .i64 ((n : Int) + (k : Int) + 1), .int .i64 0]) (by simp [results, Tryd.results54, go_sem]) rfl ⟨by rw [E.out], ?_⟩
                    exact (Below.refl _ _).alloc (Nat.le_refl _) _
              · have E : Hid (num (Pl.getNum s (n : Int)) = .agg #[.int .i64 ((Y : Int) / 2), .int .i64 ((n : Int) + (k : Int) + 1), .int .i64 0]) := by
                  show _ = _
                  rw [unhide HB, Pl.unf, if_neg h2, num]
                  simp only
                  rw [show ((Y / 2 : Nat) : Int) = (Y : Int) / 2 by omega, show ((n + k + 1 : Nat) : Int) = (n : Int) + (k : Int) + 1 by omega]
                have t12 : ((Y : Int) % 2 == 1) = false := by rw [beq_eq_false_iff_ne]; omega
                clear h2
                by_cases h9 : k = 9
                · have t6 : ((k : Int) == 9) = true := by rw [beq_iff_eq]; omega
                  have t10 : ¬ (1 : Int) < (s[n + k].toNat : Int) := by omega
                  by_cases hz : s[n + k].toNat = 0
                  · exact absurd ⟨hz, by omega⟩ hC
                  · have t8 : ((s[n + k].toNat : Int) == 0) = false := by rw [beq_eq_false_iff_ne]; omega
                    clear t5 hA hC h9 hz
                    go_wp2
                    refine bodyPost_ret (v := .agg #[.int .i64 ((Y : Int) / 2), .int .i64 ((n : Int) + (k : Int) + 1), .int .i64 0]) (by simp [results, Tryd.results54, go_sem]) rfl ⟨by rw [E.out], ?_⟩
                    exact (Below.refl _ _).alloc (Nat.le_refl _) _
                · have t6 : ((k : Int) == 9) = false := by rw [beq_eq_false_iff_ne]; omega
                  by_cases hz : s[n + k].toNat = 0
                  · have t8 : ((s[n + k].toNat : Int) == 0) = true := by rw [beq_iff_eq]; omega
                    have t9 : ¬ (0 : Int) < (k : Int) := by omega
                    clear t5 hA hC h9 hz
                    go_wp2
                    refine bodyPost_ret (v := .agg #[.int .i64 ((Y : Int) / 2), .int .i64 ((n : Int) + (k : Int) + 1), .int .i64 0]) (by simp [results, Tryd.results54, go_sem]) rfl ⟨by rw [E.out], ?_⟩
                    exact (Below.refl _ _).alloc (Nat.le_refl _) _
                  · have t8 : ((s[n + k].toNat : Int) == 0) = false := by rw [beq_eq_false_iff_ne]; omega
                    clear t5 hA hC h9 hz
                    go_wp2
                    refine bodyPost_ret (v := .agg #[.int .i64 ((Y : Int) / 2), .int .i64 ((n : Int) + (k : Int) + 1), .int .i64 0]) (by simp [results, Tryd.results54, go_sem]) rfl ⟨by rw [E.out], ?_⟩
                    exact (Below.refl _ _).alloc (Nat.le_refl _) _
    · obtain rfl : k = 10 := by omega
      have E : Hid (num (Pl.getNum s (n : Int)) = .agg #[.int .i64 0, .int .i64 0, .int .i64 3]) := by show _ = _; rw [H.out]; rfl
      go_wp2
      refine bodyPost_ret (v := .agg #[.int .i64 0, .int .i64 0, .int .i64 3]) (by simp [results, Tryd.results54, go_sem]) rfl ⟨by rw [E.out], ?_⟩
      exact (Below.refl _ _).alloc (Nat.le_refl _) _
end WGetS
end Go.Proofs.YtfjpbmacfcabaabDoor
