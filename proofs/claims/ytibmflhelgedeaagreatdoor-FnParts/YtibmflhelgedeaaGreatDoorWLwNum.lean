/- The walk of the laws' own lwNums, over the same numbers. -/
import Derived.Test.YtibmflhelgedeaaGreatDoorG75
namespace Go.Proofs.YtibmflhelgedeaaGreatDoor
open Go.RowKit
namespace WIntL
set_option maxRecDepth 100000 in
set_option maxHeartbeats 400000 in
theorem nums_any (v u : Value) (A : List Nat) (w : World) (hA : A.length ≤ 1000) (hv : isInts w v A) (hu : isInts w u A) :
    Calls Tryz.prog 48 #[v, u] w fun e w' => e = .returned (.bool true) ∧ Below w.heap.size w w' := by
  obtain ⟨va, vc, rfl⟩ := ints_shape hv
  obtain ⟨ua, uc, rfl⟩ := ints_shape hu
  have HCA : Hid (∀ (k x : Nat), A[k]? = some x → ∃ b, va = some ⟨b, 0, none⟩ ∧ b < w.heap.size ∧ w.cell? ⟨b, k, none⟩ = some (.int .i64 (x : Int))) := fun k x hx => by
    rcases hv with ⟨_, rfl⟩ | ⟨b, cap, h1, h2, h3⟩
    · simp at hx
    · cases h1; exact ⟨b, rfl, h2, h3 k x hx⟩
  have HCB : Hid (∀ (k x : Nat), A[k]? = some x → ∃ b, ua = some ⟨b, 0, none⟩ ∧ b < w.heap.size ∧ w.cell? ⟨b, k, none⟩ = some (.int .i64 (x : Int))) := fun k x hx => by
    rcases hu with ⟨_, rfl⟩ | ⟨b, cap, h1, h2, h3⟩
    · simp at hx
    · cases h1; exact ⟨b, rfl, h2, h3 k x hx⟩
  clear hv hu
  go_enter Tryz.func48, Tryz.ntmps48
  go_wp2
  go_loopw [5] (fun i wr => ∃ k : Nat, k ≤ A.length ∧ i = .int .i64 (k : Int) ∧ Below w.heap.size w wr) (fun i _ => A.length - (intOf i).toNat)
  case atStart => exact ⟨0, Nat.zero_le _, rfl, Below.refl _ _⟩
  case round =>
    obtain ⟨k, hk, rfl, hbel⟩ := hrel
    by_cases hlt : k < A.length
    · obtain ⟨x, hx⟩ : ∃ x, A[k]? = some x := ⟨_, List.getElem?_eq_getElem (by omega)⟩
      obtain ⟨b, rfl, hb, hcb⟩ := HCB.out k x hx
      obtain ⟨b', rfl, hb', hca⟩ := HCA.out k x hx
      have hc1 : wr.cell? ⟨b, k, none⟩ = some (.int .i64 (x : Int)) := (hbel.cell (p := ⟨b, k, none⟩) hb).trans hcb
      have hc2 : wr.cell? ⟨b', k, none⟩ = some (.int .i64 (x : Int)) := (hbel.cell (p := ⟨b', k, none⟩) hb').trans hca
      have u1 : (k : Int) < (A.length : Int) := by omega
      have u3 : (0 : Int) ≤ (k : Int) := by omega
      clear hcb hca hx HCA HCB
      go_wp2
      go_quiet (fail)
      go_wp2
      go_roundw
      case rel => exact ⟨k + 1, by omega, by go_num, Mem.below_drewN hbel _⟩
      case measure => simp [intOf]; omega
    · go_wp2
      go_ret
      exact ⟨rfl, hbel⟩
end WIntL
end Go.Proofs.YtibmflhelgedeaaGreatDoor
