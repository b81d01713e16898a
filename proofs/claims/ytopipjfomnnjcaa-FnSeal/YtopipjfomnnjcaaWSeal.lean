/- The walks of the four bytes of a sum, the program's (sumOf) and the specification's (l01Four). -/
import Derived.Test.YtopipjfomnnjcaaWCrc
import Derived.Test.YtopipjfomnnjcaaWJoin
namespace Go.Proofs.Ytopipjfomnnjcaa
open Go.RowKit
namespace WSeal

set_option maxRecDepth 100000 in
theorem four_any (n : Nat) (w : World) (hn : n < 4294967296) :
    Calls Try.prog 50 #[.int .i64 (n : Int)] w fun e w' => e = .returned (.string ⟨(Pl.four n).toArray⟩) ∧ Below w.heap.size w w' := by
  have hcv := Mem.row_text (P := Try.prog) (cap := 4) Try.underlying22 Try.underlying5 Try.underlying9 (Pl.four n) (n := 4) rfl (heap_alloc_new w (.cells _ 5)) (Pl.four_direct n hn)
  go_enter Try.func50, Try.ntmps50
  go_wp2
  go_ret
  exact ⟨rfl, (Below.refl _ _).alloc (Nat.le_refl _) _⟩

set_option maxRecDepth 100000 in
set_option maxHeartbeats 400000 in
theorem sum_n (s : ByteArray) (w : World) (hs : s.size ≤ maxLen) (n : Nat) (_hn : n ≤ 4294967295) (E : Hid (Pl.crcMore 0 s = (n : Int))) :
    Calls Try.prog 49 #[.string s] w fun e w' => e = .returned (.string ⟨(Pl.four n).toArray⟩) ∧ Below w.heap.size w w' := by
  go_enter Try.func49, Try.ntmps49
  go_wp2_with fail
  refine (WCrc.crc_any s _ hs).mono ?_
  rintro e w1 ⟨rfl, hw⟩
  obtain rfl := hw.symm
  rw [unhide E]
  go_wp2
  go_loopw [8] (fun i wr => ∃ (k : Nat) (C : Array Value), k ≤ 4 ∧ C.size = 4 ∧ i = .int .i64 k ∧ wr = w.alloc (.cells C 68) ∧
      Hid (∀ j, j < k → C[j]? = some (.int .u8 (Pl.fourAt n j : Int)))) (fun i _ => 4 - (intOf i).toNat)
  case atStart => exact ⟨0, _, by omega, rfl, rfl, rfl, fun j hj => absurd hj (by omega)⟩
  case round =>
    obtain ⟨k, C, hk, hC, rfl, rfl, HP⟩ := hrel
    by_cases hlt : k < 4
    · have HS := hide (Pl.four_step hC hlt HP.out)
      go_wp2
      go_roundw
      case rel => exact ⟨k + 1, _, by omega, by simp [hC], by go_num, rfl, HS⟩
      case measure => simp [intOf]; omega
    · obtain rfl : k = 4 := by omega
      have hcv := Mem.row_text (P := Try.prog) (cap := 4) Try.underlying22 Try.underlying5 Try.underlying9 (Pl.four n) (n := 4) rfl (heap_alloc_new w (.cells C 68)) (Pl.four_cells hC HP.out)
      go_wp2
      go_ret
      exact ⟨rfl, (Below.refl _ _).alloc (Nat.le_refl _) _⟩
theorem sum_any (s : ByteArray) (w : World) (hs : s.size ≤ 8000) :
    Calls Try.prog 49 #[.string s] w fun e w' => e = .returned (.string ⟨(Pl.four (Pl.crcOut 0 s.data.toList)).toArray⟩) ∧ Below w.heap.size w w' :=
  sum_n s w (by unfold maxLen; omega) _ (Pl.crcOut_le 0 s.data.toList) (Pl.crcMore_yes (c := 0) hs (by omega))
end WSeal
end Go.Proofs.Ytopipjfomnnjcaa
