/- Several texts of one claim in one file: WGetS, WTextS, WTextR. -/
import Derived.Test.YtnbmpbfligdcjaaDoorG06
import Derived.Test.YtnbmpbfligdcjaaDoorG05
import Derived.Test.YtnbmpbfligdcjaaDoorProg
import Derived.WalkSpells
import Derived.Deep.RegionHeld3
import Derived.Test.YtnbmpbfligdcjaaDoorG18
import Derived.Test.YtnbmpbfligdcjaaDoorG08
/- The walk of the specification's GetNum. -/
namespace Go.Proofs.YtnbmpbfligdcjaaDoor
open Go.RowKit
namespace WGetS
/-- A NumOut. -/
def num (r : Int × Int × Int) : Value := .agg #[.int .i64 r.1, .int .i64 r.2.1, .int .i64 r.2.2]

set_option maxRecDepth 100000 in
set_option maxHeartbeats 1000000 in
theorem spec_any (s : ByteArray) (a : Int) (w : World) (hs : s.size ≤ maxLen) (ha : a ≤ 9223372036854775807) :
    Calls Tryd.prog 68 #[.string s, .int .i64 a] w fun e w' => e = .returned (num (Pl.getNum s a)) ∧ Below w.heap.size w w' := by
  unfold maxLen at hs
  by_cases h1 : 8000 < s.size
  · have E : Hid (num (Pl.getNum s a) = .agg #[.int .i64 0, .int .i64 0, .int .i64 2]) := by show _ = _; rw [Pl.getNum, if_pos h1]; rfl
    go_enter Tryd.func68, Tryd.ntmps68
    go_wp2
    refine bodyPost_ret (v := .agg #[.int .i64 0, .int .i64 0, .int .i64 2]) (by simp [results, Tryd.results68, go_sem]) rfl ⟨by rw [E.out], ?_⟩
    exact (Below.refl _ _).alloc (Nat.le_refl _) _
  by_cases h2 : a < 0
  · have E : Hid (num (Pl.getNum s a) = .agg #[.int .i64 0, .int .i64 0, .int .i64 1]) := by show _ = _; rw [Pl.getNum, if_neg h1, if_pos h2]; rfl
    go_enter Tryd.func68, Tryd.ntmps68
    go_wp2
    refine bodyPost_ret (v := .agg #[.int .i64 0, .int .i64 0, .int .i64 1]) (by simp [results, Tryd.results68, go_sem]) rfl ⟨by rw [E.out], ?_⟩
    exact (Below.refl _ _).alloc (Nat.le_refl _) _
  obtain ⟨n, rfl⟩ := Int.eq_ofNat_of_zero_le (Int.not_lt.1 h2)
  have E : Hid (Pl.getNum s (n : Int) = Pl.getAt s 10 n 0 0) := by show _ = _; rw [Pl.getNum, if_neg h1, if_neg h2, Int.toNat_natCast]
  go_enter Tryd.func68, Tryd.ntmps68
  go_wp2
  go_loop [5, 6] (fun x i => ∃ k X : Nat, k ≤ 10 ∧ (k = 0 ∨ n + k ≤ s.size) ∧ i = .int .i64 (k : Int) ∧ x = .int .u64 (X : Int) ∧ Hid (X < 128 ^ k) ∧ Hid (Pl.getNum s (n : Int) = Pl.getAt s (10 - k) (n + k) k X)) (fun _ i => 10 - (intOf i).toNat)
  case atStart => exact ⟨0, 0, by omega, .inl rfl, rfl, rfl, by show 0 < 1; decide, E⟩
  case round =>
    obtain ⟨k, X, hk, hn, rfl, rfl, HX, H⟩ := hrel
    by_cases hk10 : k < 10
    · have hf : 10 - k = 9 - k + 1 := by omega
      have H2 : Pl.getNum s (n : Int) = Pl.getAt s (9 - k + 1) (n + k) k X := by have := H.out; rwa [hf] at this
      clear H hf
      by_cases hsz : s.size ≤ n + k
      · have t1 : (s.size : Int) - (k : Int) ≤ (n : Int) := by omega
        have E : Hid (num (Pl.getNum s (n : Int)) = .agg #[.int .i64 0, .int .i64 0, .int .i64 4]) := by show _ = _; rw [H2, Pl.getAt_short _ hsz]; rfl
        clear H2
        go_wp2
        refine bodyPost_ret (v := .agg #[.int .i64 0, .int .i64 0, .int .i64 4]) (by simp [results, Tryd.results68, go_sem]) rfl ⟨by rw [E.out], ?_⟩
        exact (Below.refl _ _).alloc (Nat.le_refl _) _
      · have t1 : ¬ (s.size : Int) - (k : Int) ≤ (n : Int) := by omega
        have hlt : n + k < s.size := by omega
        have hcc : s[n + k].toNat < 256 := s[n + k].toNat_lt
        have t3 : (s[n + k].toNat : Int) < 256 := by omega
        have t4 : (0 : Int) ≤ (s[n + k].toNat : Int) := by omega
        by_cases hA : k = 9 ∧ 1 < s[n + k].toNat
        · have t5 : ((k : Int) == 9) = true := by rw [beq_iff_eq]; omega
          have t6 : (1 : Int) < (s[n + k].toNat : Int) := by omega
          have E : Hid (num (Pl.getNum s (n : Int)) = .agg #[.int .i64 0, .int .i64 0, .int .i64 3]) := by
            show _ = _
            by_cases h128 : 128 ≤ s[n + k].toNat
            · rw [H2, Pl.getAt_many _ hlt h128 hA.1]; rfl
            · rw [H2, Pl.getAt_bad _ hlt (by omega) (.inl hA)]; rfl
          clear H2 hA
          go_wp2
          refine bodyPost_ret (v := .agg #[.int .i64 0, .int .i64 0, .int .i64 3]) (by simp [results, Tryd.results68, go_sem]) rfl ⟨by rw [E.out], ?_⟩
          exact (Below.refl _ _).alloc (Nat.le_refl _) _
        · have t5 : (((k : Int) == 9) && decide ((1 : Int) < (s[n + k].toNat : Int))) = false := by
            rw [Bool.and_eq_false_iff, beq_eq_false_iff_ne, decide_eq_false_iff_not]; omega
          by_cases h128 : 128 ≤ s[n + k].toNat
          · have h9 : k ≠ 9 := by omega
            have t6 : ((k : Int) == 9) = false := by rw [beq_eq_false_iff_ne]; omega
            have t7 : ¬ (s[n + k].toNat : Int) < 128 := by omega
            have HB := hide (H2.trans (Pl.getAt_more _ hlt h128 h9))
            have HX2 := hide (Pl.next_lt (c := s[n + k].toNat) HX.out)
            have HT := hide (Pl.sum_form (k := k) (X := X) (c := s[n + k].toNat) (Pl.next_small (by omega) HX.out))
            clear H2 hA t5
            go_wp2
            go_round
            case rel => exact ⟨k + 1, _, by omega, .inr (by omega), by go_num, by rw [unhide HT], HX2, by show _ = _; rw [show 10 - (k + 1) = 9 - k by omega]; exact unhide HB⟩
            case measure => simp [intOf]; omega
          · have t7 : (s[n + k].toNat : Int) < 128 := by omega
            by_cases hC : s[n + k].toNat = 0 ∧ 0 < k
            · have t8 : ((s[n + k].toNat : Int) == 0) = true := by rw [beq_iff_eq]; omega
              have t9 : (0 : Int) < (k : Int) := by omega
              have E : Hid (num (Pl.getNum s (n : Int)) = .agg #[.int .i64 0, .int .i64 0, .int .i64 3]) := by show _ = _; rw [H2, Pl.getAt_bad _ hlt (by omega) (.inr hC)]; rfl
              clear H2 hA hC
              by_cases h9 : k = 9
              · subst h9
                have t10 : ¬ (1 : Int) < (s[n + 9].toNat : Int) := by have := beq_iff_eq.1 t8; omega
                have t11 : ¬ (s.size : Int) - 9 ≤ (n : Int) := by omega
                clear t5 t1 t9
                go_wp2
                refine bodyPost_ret (v := .agg #[.int .i64 0, .int .i64 0, .int .i64 3]) (by simp [results, Tryd.results68, go_sem]) rfl ⟨by rw [E.out], ?_⟩
                exact (Below.refl _ _).alloc (Nat.le_refl _) _
              · have t6 : ((k : Int) == 9) = false := by rw [beq_eq_false_iff_ne]; omega
                clear t5
                go_wp2
                refine bodyPost_ret (v := .agg #[.int .i64 0, .int .i64 0, .int .i64 3]) (by simp [results, Tryd.results68, go_sem]) rfl ⟨by rw [E.out], ?_⟩
                exact (Below.refl _ _).alloc (Nat.le_refl _) _
            · have hsm : X + s[n + k].toNat % 128 * 128 ^ k < 18446744073709551616 := by
                by_cases h9 : k = 9
                · subst h9; exact Pl.last_small (by omega) HX.out
                · exact Pl.next_small (by omega) HX.out
              have HT := Pl.sum_form (k := k) (X := X) (c := s[n + k].toNat) hsm
              have HB : Pl.getNum s (n : Int) = (Pl.unf (X + s[n + k].toNat % 128 * 128 ^ k), ((n + k + 1 : Nat) : Int), 0) := by
                rw [H2, Pl.getAt_good _ hlt (by omega) (fun h => h.elim hA hC), Nat.mod_eq_of_lt (by omega : s[n + k].toNat < 128)]
              generalize X + s[n + k].toNat % 128 * 128 ^ k = Y at hsm HT HB
              have HB := hide HB
              clear H2
              by_cases h2 : Y % 2 = 1
              · have E : Hid (num (Pl.getNum s (n : Int)) = .agg #[.int .i64 (-((Y : Int) / 2) - 1), .int .i64 ((n : Int) + (k : Int) + 1), .int .i64 0]) := by
                  show _ = _
                  rw [unhide HB, Pl.unf, if_pos h2, num]
                  simp only
                  rw [show -((Y / 2 : Nat) : Int) - 1 = -((Y : Int) / 2) - 1 by omega, show ((n + k + 1 : Nat) : Int) = (n : Int) + (k : Int) + 1 by omega]
                have t12 : ((Y : Int) % 2 == 1) = true := by rw [beq_iff_eq]; omega
                clear h2
                by_cases h9 : k = 9
                · have t6 : ((k : Int) == 9) = true := by rw [beq_iff_eq]; omega
                  have t10 : ¬ (1 : Int) < (s[n + k].toNat : Int) := by omega
                  by_cases hz : s[n + k].toNat = 0
                  · exact absurd ⟨hz, by omega⟩ hC
                  · have t8 : ((s[n + k].toNat : Int) == 0) = false := by rw [beq_eq_false_iff_ne]; omega
                    clear t5 hA hC h9 hz
                    go_wp2
                    refine bodyPost_ret (v := .agg #[.int .i64 (-((Y : Int) / 2) - 1), .int .i64 ((n : Int) + (k : Int) + 1), .int .i64 0]) (by simp [results, Tryd.results68, go_sem]) rfl ⟨by rw [E.out], ?_⟩
                    exact (Below.refl _ _).alloc (Nat.le_refl _) _
                · have t6 : ((k : Int) == 9) = false := by rw [beq_eq_false_iff_ne]; omega
                  by_cases hz : s[n + k].toNat = 0
                  · have t8 : ((s[n + k].toNat : Int) == 0) = true := by rw [beq_iff_eq]; omega
                    have t9 : ¬ (0 : Int) < (k : Int) := by omega
                    clear t5 hA hC h9 hz
                    go_wp2
                    refine bodyPost_ret (v := .agg #[.int .i64 (-((Y : Int) / 2) - 1), .int .i64 ((n : Int) + (k : Int) + 1), .int .i64 0]) (by simp [results, Tryd.results68, go_sem]) rfl ⟨by rw [E.out], ?_⟩
                    exact (Below.refl _ _).alloc (Nat.le_refl _) _
                  · have t8 : ((s[n + k].toNat : Int) == 0) = false := by rw [beq_eq_false_iff_ne]; omega
                    clear t5 hA hC h9 hz
                    go_wp2
                    refine bodyPost_ret (v := .agg #[.int .i64 (-((Y : Int) / 2) - 1), .int .i64 ((n : Int) + (k : Int) + 1), .int .i64 0]) (by simp [results, Tryd.results68, go_sem]) rfl ⟨by rw [E.out], ?_⟩
                    exact (Below.refl _ _).alloc (Nat.le_refl _) _
              · have E : Hid (num (Pl.getNum s (n : Int)) = .agg #[.int .i64 ((Y : Int) / 2), .int .i64 ((n : Int) + (k : Int) + 1), .int .i64 0]) := by
                  show _ = _
                  rw [unhide HB, Pl.unf, if_neg h2, num]
                  simp only
                  rw [show ((Y / 2 : Nat) : Int) = (Y : Int) / 2 by omega, show ((n + k + 1 : Nat) : Int) = (n : Int) + (k : Int) + 1 by omega]
                have t12 : ((Y : Int) % 2 == 1) = false := by rw [beq_eq_false_iff_ne]; omega
                clear h2
                by_cases h9 : k = 9
                · have t6 : ((k : Int) == 9) = true := by rw [beq_iff_eq]; omega
                  have t10 : ¬ (1 : Int) < (s[n + k].toNat : Int) := by omega
                  by_cases hz : s[n + k].toNat = 0
                  · exact absurd ⟨hz, by omega⟩ hC
                  · have t8 : ((s[n + k].toNat : Int) == 0) = false := by rw [beq_eq_false_iff_ne]; omega
                    clear t5 hA hC h9 hz
                    go_wp2
                    refine bodyPost_ret (v := .agg #[.int .i64 ((Y : Int) / 2), .int .i64 ((n : Int) + (k : Int) + 1), .int .i64 0]) (by simp [results, Tryd.results68, go_sem]) rfl ⟨by rw [E.out], ?_⟩
                    exact (Below.refl _ _).alloc (Nat.le_refl _) _
                · have t6 : ((k : Int) == 9) = false := by rw [beq_eq_false_iff_ne]; omega
                  by_cases hz : s[n + k].toNat = 0
                  · have t8 : ((s[n + k].toNat : Int) == 0) = true := by rw [beq_iff_eq]; omega
                    have t9 : ¬ (0 : Int) < (k : Int) := by omega
                    clear t5 hA hC h9 hz
                    go_wp2
                    refine bodyPost_ret (v := .agg #[.int .i64 ((Y : Int) / 2), .int .i64 ((n : Int) + (k : Int) + 1), .int .i64 0]) (by simp [results, Tryd.results68, go_sem]) rfl ⟨by rw [E.out], ?_⟩
                    exact (Below.refl _ _).alloc (Nat.le_refl _) _
                  · have t8 : ((s[n + k].toNat : Int) == 0) = false := by rw [beq_eq_false_iff_ne]; omega
                    clear t5 hA hC h9 hz
                    go_wp2
                    refine bodyPost_ret (v := .agg #[.int .i64 ((Y : Int) / 2), .int .i64 ((n : Int) + (k : Int) + 1), .int .i64 0]) (by simp [results, Tryd.results68, go_sem]) rfl ⟨by rw [E.out], ?_⟩
                    exact (Below.refl _ _).alloc (Nat.le_refl _) _
    · obtain rfl : k = 10 := by omega
      have E : Hid (num (Pl.getNum s (n : Int)) = .agg #[.int .i64 0, .int .i64 0, .int .i64 3]) := by show _ = _; rw [H.out]; rfl
      go_wp2
      refine bodyPost_ret (v := .agg #[.int .i64 0, .int .i64 0, .int .i64 3]) (by simp [results, Tryd.results68, go_sem]) rfl ⟨by rw [E.out], ?_⟩
      exact (Below.refl _ _).alloc (Nat.le_refl _) _
end WGetS
end Go.Proofs.YtnbmpbfligdcjaaDoor

/- The walk of the specification's GetText. -/
namespace Go.Proofs.YtnbmpbfligdcjaaDoor
open Go.RowKit
namespace WTextS
/-- A TextOut. -/
def txt (r : ByteArray × Int × Int) : Value := .agg #[.string r.1, .int .i64 r.2.1, .int .i64 r.2.2]

theorem new_cell (W : World) (C : Array Value) (T : TypeId) (B : Nat) {j : Nat} {v : Value} (hB : W.heap.size = B) (hv : C[j]? = some v) : ((W.alloc (.cells C T)).drew).cell? ⟨B, j, none⟩ = some v := by
  subst hB
  show (W.alloc (.cells C T)).cell? ⟨W.heap.size, j, none⟩ = some v
  rw [World.cell?_alloc_mark]
  exact hv

set_option maxRecDepth 100000 in
set_option maxHeartbeats 1000000 in
theorem spec_any (s : ByteArray) (a : Int) (w : World) (hs : s.size ≤ maxLen) (ha : a ≤ 9223372036854775807) :
    Calls Tryd.prog 67 #[.string s, .int .i64 a] w fun e w' => e = .returned (txt (Pl.getText s a)) ∧ Below w.heap.size w w' := by
  have m0 := hs
  unfold maxLen at m0
  obtain ⟨n, p, c, HN, H⟩ := Pl.getText_cases s a
  have E1 : Hid (WGetS.num (Pl.getNum s a) = .agg #[.int .i64 n, .int .i64 p, .int .i64 c]) := by show _ = _; rw [HN]; rfl
  clear HN
  have HC := hide H
  clear H
  go_enter Tryd.func67, Tryd.ntmps67
  go_wp2_with fail
  refine (WGetS.spec_any s a _ hs ha).mono ?_
  rintro e w1 ⟨rfl, b1⟩
  rw [E1.out]
  obtain ⟨⟨c0, c1, c2⟩, ⟨f0, f1, f2⟩, b3⟩ := Mem.kept3 b1 (heap_alloc_new w _) ((Below.refl _ _).alloc (Nat.le_refl _) _)
  have hlt : w.heap.size < w1.heap.size := World.block_lt_of_cell? w1 ⟨w.heap.size, 0, none⟩ c0
  clear b1 E1
  rcases unhide HC with ⟨hc, hn, hp, H⟩ | ⟨rfl, h8, q, rfl, hq, H⟩
  · have E : Hid (txt (Pl.getText s a) = .agg #[.string ⟨#[]⟩, .int .i64 0, .int .i64 c]) := by show _ = _; rw [H]; rfl
    have t1 : (c != 0) = true := by rw [bne_iff_ne]; exact hc
    clear HC H hc hn hp
    go_wp2
    refine bodyPost_ret (v := .agg #[.string ⟨#[]⟩, .int .i64 0, .int .i64 c]) (by simp [results, Tryd.results67, go_sem, c0, c1, c2, hlt]) rfl ⟨by rw [E.out], ?_⟩
    exact (((b3.setCell (by simp) _).setCell (by simp) _).setCell (by simp) _).alloc (by simp [World.setCell]; omega) _
  · rcases H with ⟨hn, H⟩ | ⟨hn, H⟩ | ⟨m, rfl, hm, H⟩
    · have E : Hid (txt (Pl.getText s a) = .agg #[.string ⟨#[]⟩, .int .i64 0, .int .i64 3]) := by show _ = _; rw [H]; rfl
      clear HC H
      go_wp2
      refine bodyPost_ret (v := .agg #[.string ⟨#[]⟩, .int .i64 0, .int .i64 3]) (by simp [results, Tryd.results67, go_sem, c0, c1, c2, hlt]) rfl ⟨by rw [E.out], ?_⟩
      exact (((b3.setCell (by simp) _).setCell (by simp) _).setCell (by simp) _).alloc (by simp [World.setCell]; omega) _
    · have E : Hid (txt (Pl.getText s a) = .agg #[.string ⟨#[]⟩, .int .i64 0, .int .i64 3]) := by show _ = _; rw [H]; rfl
      have t1 : ¬ n < 0 := by omega
      clear HC H
      go_wp2
      refine bodyPost_ret (v := .agg #[.string ⟨#[]⟩, .int .i64 0, .int .i64 3]) (by simp [results, Tryd.results67, go_sem, c0, c1, c2, hlt]) rfl ⟨by rw [E.out], ?_⟩
      exact (((b3.setCell (by simp) _).setCell (by simp) _).setCell (by simp) _).alloc (by simp [World.setCell]; omega) _
    · have t1 : ¬ (m : Int) < 0 := by omega
      have t2 : ¬ (8000 : Int) < (m : Int) := by omega
      rcases H with ⟨h3, H⟩ | ⟨h3, H⟩
      · have E : Hid (txt (Pl.getText s a) = .agg #[.string ⟨#[]⟩, .int .i64 0, .int .i64 4]) := by show _ = _; rw [H]; rfl
        have t3 : (s.size : Int) - (m : Int) < (q : Int) := by omega
        clear HC H
        go_wp2
        refine bodyPost_ret (v := .agg #[.string ⟨#[]⟩, .int .i64 0, .int .i64 4]) (by simp [results, Tryd.results67, go_sem, c0, c1, c2, hlt]) rfl ⟨by rw [E.out], ?_⟩
        exact (((b3.setCell (by simp) _).setCell (by simp) _).setCell (by simp) _).alloc (by simp [World.setCell]; omega) _
      · have E : Hid (txt (Pl.getText s a) = .agg #[.string (s.extract q (q + m)), .int .i64 ((q : Int) + (m : Int)), .int .i64 0]) := by show _ = _; rw [H]; rfl
        have t3 : ¬ (s.size : Int) - (m : Int) < (q : Int) := by omega
        have t4 : IntKind.i64.wrap ((q : Int) + (m : Int)) = (q : Int) + (m : Int) := by rw [IntKind.wrap_i64]; omega
        have t5 : (0 : Int) ≤ (q : Int) := by omega
        have t6 : (q : Int) ≤ (q : Int) + (m : Int) := by omega
        have t7 : (q : Int) + (m : Int) ≤ (s.size : Int) := by omega
        clear HC H
        go_wp2
        go_region_held3 (fun w' => w'.cell? ⟨w1.heap.size, 0, none⟩ = some (.int .i64 (m : Int)) ∧ w'.cell? ⟨w1.heap.size, 1, none⟩ = some (.int .i64 (q : Int))) (first | (go_keep; done) | exact ⟨new_cell _ _ _ _ (by simp) rfl, new_cell _ _ _ _ (by simp) rfl⟩) (fail)
        have et : ((q : Int) + (m : Int)).toNat = q + m := by omega
        rw [et]
        generalize s.extract q (q + m) = B at E ⊢
        clear et
        go_wp2
        refine bodyPost_ret (v := .agg #[.string B, .int .i64 ((q : Int) + (m : Int)), .int .i64 0]) (by simp [results, Tryd.results67, go_sem, c0, c1, c2, hlt]) rfl ⟨by rw [E.out], ?_⟩
        exact ((((b3.setCell (by simp) _).setCell (by simp) _).setCell (by simp) _).alloc (by simp [World.setCell]; omega) _).drew
end WTextS
end Go.Proofs.YtnbmpbfligdcjaaDoor

/- The walk of the program's readText. -/
namespace Go.Proofs.YtnbmpbfligdcjaaDoor
open Go.RowKit
namespace WTextI
/-- The three cells behind one more such call. -/
theorem Mem.still3 {w W w' : World} {B : Nat} {x y z : Value} (b : Below W.heap.size W w') (hlt : B < W.heap.size) (hW : Below B w W)
    (c0 : W.cell? ⟨B, 0, none⟩ = some x) (c1 : W.cell? ⟨B, 1, none⟩ = some y) (c2 : W.cell? ⟨B, 2, none⟩ = some z) (f0 : W.frozen? ⟨B, 0, none⟩ = false) (f1 : W.frozen? ⟨B, 1, none⟩ = false) (f2 : W.frozen? ⟨B, 2, none⟩ = false) :
    (w'.cell? ⟨B, 0, none⟩ = some x ∧ w'.cell? ⟨B, 1, none⟩ = some y ∧ w'.cell? ⟨B, 2, none⟩ = some z) ∧
    (w'.frozen? ⟨B, 0, none⟩ = false ∧ w'.frozen? ⟨B, 1, none⟩ = false ∧ w'.frozen? ⟨B, 2, none⟩ = false) ∧ Below B w w' := by
  refine ⟨⟨?_, ?_, ?_⟩, ⟨?_, ?_, ?_⟩, hW.trans (b.mono (Nat.le_of_lt hlt))⟩
  · rw [b.cell hlt]; exact c0
  · rw [b.cell hlt]; exact c1
  · rw [b.cell hlt]; exact c2
  · rw [b.frozen hlt]; exact f0
  · rw [b.frozen hlt]; exact f1
  · rw [b.frozen hlt]; exact f2
theorem Pl.getText_zero (s : ByteArray) (a : Int) : (Pl.getText s a).2.2 ≠ 0 → (Pl.getText s a).1 = ⟨#[]⟩ ∧ (Pl.getText s a).2.1 = 0 := by
  unfold Pl.getText
  split
  · intro _; exact ⟨rfl, rfl⟩
  · split
    · intro _; exact ⟨rfl, rfl⟩
    · split
      · intro _; exact ⟨rfl, rfl⟩
      · intro h; exact absurd rfl h
/-- What readText answers: a fault is a byteFault. -/
def told (r : ByteArray × Int × Int) : Value := if r.2.2 = 0 then .tuple #[.string r.1, .int .i64 r.2.1, .nilIface] else .tuple #[.string ⟨#[]⟩, .int .i64 0, .iface 121 (.agg #[.int .i64 r.2.2])]
theorem told_bad {r : ByteArray × Int × Int} {c : Int} (h : r = (⟨#[]⟩, 0, c)) (hc : c ≠ 0) : told r = .tuple #[.string ⟨#[]⟩, .int .i64 0, .iface 121 (.agg #[.int .i64 c])] := by
  subst h; simp [told, hc]
theorem told_good {r : ByteArray × Int × Int} {t : ByteArray} {p : Int} (h : r = (t, p, 0)) : told r = .tuple #[.string t, .int .i64 p, .nilIface] := by
  subst h; simp [told]

set_option maxRecDepth 100000 in
set_option maxHeartbeats 1000000 in
theorem read_any (s : ByteArray) (a : Int) (w : World) (h8 : s.size ≤ 8000) (ha : a ≤ 9223372036854775807) :
    Calls Tryd.prog 85 #[.string s, .int .i64 a] w fun e w' => e = .returned (told (Pl.getText s a)) ∧ Below w.heap.size w w' := by
  obtain ⟨n, p, c, HN, H⟩ := Pl.getText_cases s a
  have HR := hide (WGet.read_whole s a w h8 ha)
  rw [HN] at HR
  clear HN
  rcases H with ⟨hc, hn, hp, H⟩ | ⟨rfl, _, q, rfl, hq, H⟩
  · subst hn hp
    have E0 := hide (WGet.told_bad (r := (0, 0, c)) rfl hc)
    have E := hide (told_bad H hc)
    clear H hc
    go_enter Tryd.func85, Tryd.ntmps85
    go_wp2_with fail
    refine (unhide HR).mono ?_
    rintro e w1 ⟨rfl, hw⟩
    obtain rfl := hw.symm
    rw [unhide E0]
    go_wp2
    go_ret3
    exact ⟨(congrArg Ending.returned (unhide E)).symm, Below.refl _ _⟩
  · have E0 := hide (WGet.told_good (r := (n, (q : Int), 0)) rfl)
    rcases H with ⟨hn, H⟩ | ⟨hn, H⟩ | ⟨m, rfl, hm, H⟩
    · have E := hide (told_bad H (by decide))
      clear H
      go_enter Tryd.func85, Tryd.ntmps85
      go_wp2_with fail
      refine (unhide HR).mono ?_
      rintro e w1 ⟨rfl, hw⟩
      obtain rfl := hw.symm
      rw [unhide E0]
      go_wp2
      go_ret3
      exact ⟨(congrArg Ending.returned (unhide E)).symm, Below.refl _ _⟩
    · have E := hide (told_bad H (by decide))
      have t1 : ¬ n < 0 := by omega
      clear H
      go_enter Tryd.func85, Tryd.ntmps85
      go_wp2_with fail
      refine (unhide HR).mono ?_
      rintro e w1 ⟨rfl, hw⟩
      obtain rfl := hw.symm
      rw [unhide E0]
      go_wp2
      go_ret3
      exact ⟨(congrArg Ending.returned (unhide E)).symm, Below.refl _ _⟩
    · have t1 : ¬ (m : Int) < 0 := by omega
      have t2 : ¬ (8000 : Int) < (m : Int) := by omega
      rcases H with ⟨h3, H⟩ | ⟨h3, H⟩
      · have E := hide (told_bad H (by decide))
        have t3 : (s.size : Int) - (q : Int) < (m : Int) := by omega
        clear H
        go_enter Tryd.func85, Tryd.ntmps85
        go_wp2_with fail
        refine (unhide HR).mono ?_
        rintro e w1 ⟨rfl, hw⟩
        obtain rfl := hw.symm
        rw [unhide E0]
        go_wp2
        go_ret3
        exact ⟨(congrArg Ending.returned (unhide E)).symm, Below.refl _ _⟩
      · have eb : (⟨(s.extract q (q + m)).data.toList.toArray⟩ : ByteArray) = s.extract q (q + m) := by
          apply ByteArray.ext
          rw [Array.toArray_toList]
        rw [← eb] at H
        have E := hide (told_good H)
        have t3 : ¬ (s.size : Int) - (q : Int) < (m : Int) := by omega
        have t5 : (0 : Int) ≤ (q : Int) := by omega
        have t6 : (q : Int) ≤ (q : Int) + (m : Int) := by omega
        have t7 : (q : Int) + (m : Int) ≤ (s.size : Int) := by omega
        have hsz : (s.extract q (q + m)).size ≤ 8000 := by simp; omega
        have HSZ := hide hsz
        clear H hsz eb
        go_enter Tryd.func85, Tryd.ntmps85
        go_wp2_with fail
        refine (unhide HR).mono ?_
        rintro e w1 ⟨rfl, hw⟩
        obtain rfl := hw.symm
        rw [unhide E0]
        go_wp2_with fail
        refine (WJoin.any w.heap.size 0 1 [s.extract q (q + m)] _ (by simp) (by rw [Pl.tot_one]; have := unhide HSZ; omega) (Mem.one_text _ _ _) (by simp)).mono ?_
        rintro e w2 ⟨rfl, b2⟩
        have b3 := ((Below.refl w.heap.size w).alloc (Nat.le_refl _) _).trans (b2.mono (by simp))
        rw [Pl.cat_one]
        generalize (⟨(s.extract q (q + m)).data.toList.toArray⟩ : ByteArray) = B at E ⊢
        clear b2 HSZ
        go_wp2
        go_ret3
        exact ⟨(congrArg Ending.returned (unhide E)).symm, b3⟩
end WTextI
end Go.Proofs.YtnbmpbfligdcjaaDoor

