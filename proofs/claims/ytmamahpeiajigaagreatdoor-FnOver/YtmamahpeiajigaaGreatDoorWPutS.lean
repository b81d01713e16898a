/- The walk of the specification's l03Over: are there nodes under a path? -/
import Derived.Test.YtmamahpeiajigaaGreatDoorWTreeR
import Derived.Test.YtmamahpeiajigaaGreatDoorWUnder1S
import Derived.Test.YtmamahpeiajigaaGreatDoorMemBlk
namespace Go.Proofs.YtmamahpeiajigaaGreatDoor
open Go.RowKit
namespace Pl
def overL (L : List Nd) (p : ByteArray) : Bool := L.any (fun m => !decide (m.path = p) && under m.path p)
theorem over_yes {L : List Nd} {p : ByteArray} {k : Nat} {n : Nd} (hn : L[k]? = some n) (h1 : n.path ≠ p) (h2 : under n.path p = true) : overL L p = true :=
  List.any_eq_true.2 ⟨n, List.mem_of_getElem? hn, by simp [h1, h2]⟩
theorem over_no {L : List Nd} {p : ByteArray} (h : ∀ (j : Nat) m, L[j]? = some m → m.path = p ∨ under m.path p = false) : overL L p = false := by
  rw [overL, List.any_eq_false]
  intro m hm
  obtain ⟨j, hj⟩ := List.mem_iff_getElem?.1 hm
  rcases h j m hj with h | h <;> simp [h]
end Pl
namespace WPutS
theorem tl_ne {a b : ByteArray} (h : a ≠ b) : (a.toList == b.toList) = false := by
  rw [beq_eq_false_iff_ne]
  intro e
  exact h (Pl.by_inj (by rw [ByteArray.toList_eq, ByteArray.toList_eq] at e; exact e))
set_option linter.unusedSimpArgs false in
set_option maxRecDepth 100000 in
set_option maxHeartbeats 2000000 in
theorem over_any (a : Option Addr) (cap : Nat) (L : List Pl.Nd) (p : ByteArray) (w : World) (hl : L.length ≤ 1048576) (hv : Mem.isNodes w a L) (hp : p.size ≤ 1048576) :
    Calls Tryz.prog 106 #[.agg #[.slice a L.length cap], .string p] w fun e w' => e = .returned (.bool (Pl.overL L p)) ∧ Below w.heap.size w w' := by
  have b0 : Below w.heap.size w (w.alloc (.cells #[.slice a L.length cap] 29)) := (Below.refl _ _).alloc (Nat.le_refl _) _
  have HV := hide (Mem.nodes_call hv b0)
  have E1 : Hid (∀ (k : Nat) n, L[k]? = some n → n.path ≠ p → Pl.under n.path p = true → Pl.overL L p = true) := fun k n => Pl.over_yes
  have E2 : Hid ((∀ (j : Nat) m, L[j]? = some m → m.path = p ∨ Pl.under m.path p = false) → Pl.overL L p = false) := Pl.over_no
  generalize Pl.overL L p = R at E1 E2 ⊢
  clear hv
  go_enter Tryz.func106, Tryz.ntmps106
  go_wp2
  go_loop [5] (fun i => ∃ k : Nat, k ≤ L.length ∧ i = .int .i64 (k : Int) ∧ Hid (∀ (j : Nat) m, j < k → L[j]? = some m → m.path = p ∨ Pl.under m.path p = false)) (fun i => L.length - (intOf i).toNat)
  case atStart => exact ⟨0, Nat.zero_le _, rfl, fun j m h => absurd h (by omega)⟩
  case round =>
    obtain ⟨k, hk, rfl, HA⟩ := hrel
    by_cases hlt : k < L.length
    · obtain ⟨n, hn⟩ : ∃ n, L[k]? = some n := ⟨_, List.getElem?_eq_getElem hlt⟩
      obtain ⟨b, o, rfl, hb, q0, -, -, -, -⟩ := (unhide HV) k n hn
      have y1 : (k : Int) < (L.length : Int) := by omega
      have y3 : (0 : Int) ≤ (k : Int) := by omega
      have EN := hide hn
      by_cases hqp : n.path = p
      · have HA2 : Hid (∀ (j : Nat) m, j < k + 1 → L[j]? = some m → m.path = p ∨ Pl.under m.path p = false) := fun j m hj hm => by
          rcases Nat.lt_succ_iff_lt_or_eq.1 hj with h'' | rfl
          · exact HA.out j m h'' hm
          · rw [unhide EN] at hm; cases hm; exact .inl hqp
        rw [hqp] at q0
        clear hn EN hqp
        go_wp2
        go_round
        case rel => exact ⟨k + 1, by omega, by go_num, HA2⟩
        case measure => simp [intOf]; omega
      · have t1 := tl_ne hqp
        have hcu := hide (fun W => WPathS.under1_any n.path p W hp)
        cases hun : Pl.under n.path p
        · have HA2 : Hid (∀ (j : Nat) m, j < k + 1 → L[j]? = some m → m.path = p ∨ Pl.under m.path p = false) := fun j m hj hm => by
            rcases Nat.lt_succ_iff_lt_or_eq.1 hj with h'' | rfl
            · exact HA.out j m h'' hm
            · rw [unhide EN] at hm; cases hm; exact .inr hun
          rw [hun] at hcu
          generalize n.path = np at q0 t1 hcu
          clear hn EN hqp hun
          go_wp2_with (go_at_call 108; refine (unhide hcu _).mono ?_; rintro e w' ⟨rfl, hw⟩; obtain rfl := hw.symm)
          go_round
          case rel => exact ⟨k + 1, by omega, by go_num, HA2⟩
          case measure => simp [intOf]; omega
        · have E := hide (unhide E1 k n hn hqp hun)
          rw [hun] at hcu
          generalize n.path = np at q0 t1 hcu
          clear hn EN hqp hun
          go_wp2_with (go_at_call 108; refine (unhide hcu _).mono ?_; rintro e w' ⟨rfl, hw⟩; obtain rfl := hw.symm)
          go_ret
          exact ⟨ret_bool (unhide E).symm, b0⟩
    · have E := hide (unhide E2 (fun j n h => HA.out j n (by have := (List.getElem?_eq_some_iff.1 h).1; omega) h))
      have u1 : ¬ (k : Int) < (L.length : Int) := by omega
      go_wp2
      go_ret
      exact ⟨ret_bool (unhide E).symm, b0⟩
end WPutS
end Go.Proofs.YtmamahpeiajigaaGreatDoor
