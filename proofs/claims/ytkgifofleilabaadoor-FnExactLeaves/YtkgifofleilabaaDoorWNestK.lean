/- The walk of the specification's Leaves. -/
import Derived.Test.YtkgifofleilabaaDoorWNestS
import Derived.Test.YtkgifofleilabaaDoorPartA
namespace Go.Proofs.YtkgifofleilabaaDoor
open Go.RowKit
namespace WNestS
theorem zeros_take {Is : List Pl.It} {k : Nat} {x : Pl.It} (hx : Is[k]? = some x) : Pl.zeros ((Pl.rowO (Is.map Pl.It.r)).take (k + 1)) = Pl.zeros ((Pl.rowO (Is.map Pl.It.r)).take k) + (if Pl.itemO x.r = some 0 then 1 else 0) := by
  have h : (Pl.rowO (Is.map Pl.It.r))[k]? = some (Pl.itemO x.r) := by rw [Pl.rowO, List.getElem?_map, List.getElem?_map, hx]; rfl
  rw [List.take_add_one, h]
  unfold Pl.zeros
  rw [List.countP_append]
  simp [List.countP_cons]
/-- All items of a right nest may be. -/
theorem all_some {L : Pl.Row} {k : Pl.Fo} (h : Pl.nest L = some k) (i : Nat) (o : Option Nat) (hi : L[i]? = some o) : ∃ m, o = some m := by
  cases o with
  | some m => exact ⟨m, rfl⟩
  | none => exact absurd hi (Pl.nest_nonone h i)
set_option linter.unusedSimpArgs false in
set_option maxRecDepth 100000 in
set_option maxHeartbeats 1000000 in
theorem leaves_any (a : Option Addr) (cap : Nat) (Is : List Pl.It) (w : World) (hl : Is.length ≤ 1048576) (hv : Mem.isItems w a Is) (hok : ∀ x ∈ Is, x.t.L.length ≤ 1048576 ∧ ∀ n ∈ x.t.L, n.path.size ≤ 1048576 ∧ n.data.size ≤ 1048576) :
    Calls Tryd.prog 10 #[.slice a Is.length cap] w fun e w' => e = .returned (.int .i64 (Pl.leavesO (Pl.nest (Pl.rowO (Is.map Pl.It.r))))) ∧ Below w.heap.size w w' := by
  have hrl : (Pl.rowO (Is.map Pl.It.r)).length = Is.length := by rw [Pl.rowO_len, List.length_map]
  by_cases h400 : 400 < Is.length
  · have t0 : (400 : Int) < (Is.length : Int) := by omega
    rw [Pl.nest_long _ (by omega)]
    clear hv hok
    go_enter Tryd.func10, Tryd.ntmps10
    go_wp2
    go_ret
    exact ⟨rfl, Below.refl _ _⟩
  have t0 : ¬ (400 : Int) < (Is.length : Int) := by omega
  have hz := hide (right_any a cap Is w hl hv hok)
  cases hN : Pl.nest (Pl.rowO (Is.map Pl.It.r)) with
  | none =>
    rw [hN] at hz
    clear hv hok hN hrl
    go_enter Tryd.func10, Tryd.ntmps10
    go_wp2_with fail
    refine (unhide hz).mono ?_
    rintro e w1 ⟨rfl, b1⟩
    clear hz
    go_wp2
    go_ret
    exact ⟨rfl, b1⟩
  | some k =>
    rw [hN] at hz
    have h12 := (Pl.nest_yes hN).1
    have hlv : Pl.zeros ((Pl.rowO (Is.map Pl.It.r)).take Is.length) = k.leaves := by rw [← hrl, List.take_length]; exact (Pl.nest_leaves hN).symm
    have HST : Hid (∀ (j : Nat) x, Is[j]? = some x → (x.m = 0 ↔ Pl.itemO x.r = some 0) ∧ Pl.zeros ((Pl.rowO (Is.map Pl.It.r)).take (j + 1)) = Pl.zeros ((Pl.rowO (Is.map Pl.It.r)).take j) + (if Pl.itemO x.r = some 0 then 1 else 0)) := hide (fun j x hx => ⟨by
      have h : (Pl.rowO (Is.map Pl.It.r))[j]? = some (Pl.itemO x.r) := by rw [Pl.rowO, List.getElem?_map, List.getElem?_map, hx]; rfl
      obtain ⟨m, hm⟩ := all_some hN j _ h
      have hm1 : x.m = (m : Int) := (Pl.itemO_some hm).1
      rw [hm, hm1]
      constructor
      · intro h; rw [show m = 0 by omega]
      · intro h; cases h; rfl, zeros_take hx⟩)
    have HLV := hide hlv
    have HZL : Hid (∀ j, j ≤ Is.length → Pl.zeros ((Pl.rowO (Is.map Pl.It.r)).take j) ≤ j) := hide (fun j hj => by
      have := Pl.zeros_le ((Pl.rowO (Is.map Pl.It.r)).take j)
      rw [List.length_take] at this; omega)
    generalize Pl.rowO (Is.map Pl.It.r) = LL at HST HLV HZL hN h12 hrl
    simp only [Pl.leavesO]
    have HV := hide hv
    clear hv hok hN hlv
    go_enter Tryd.func10, Tryd.ntmps10
    go_wp2_with fail
    refine (unhide hz).mono ?_
    rintro e w1 ⟨rfl, b1⟩
    clear hz
    go_wp2
    go_loopw [3, 4] (fun c i wr => ∃ j : Nat, i = .int .i64 (j : Int) ∧ j ≤ Is.length ∧ c = .int .i64 ((Pl.zeros (LL.take j) : Nat) : Int) ∧ wr = w1) (fun _ i _ => Is.length - (intOf i).toNat)
    case atStart => exact ⟨0, rfl, Nat.zero_le _, by simp [Pl.zeros], rfl⟩
    case round =>
      obtain ⟨j, rfl, hj, rfl, rfl⟩ := hrel
      have u3 : (0 : Int) ≤ (j : Int) := by omega
      have hzl := unhide HZL j hj
      by_cases hlt : j < Is.length
      · have u4 : (j : Int) < (Is.length : Int) := by omega
        obtain ⟨x, hx⟩ : ∃ x, Is[j]? = some x := ⟨_, List.getElem?_eq_getElem hlt⟩
        obtain ⟨hiff, hstep⟩ := unhide HST j x hx
        obtain ⟨⟨b, o, rfl, hb, q0, -⟩, -⟩ := unhide HV j x hx
        have c0 := (b1.cell (p := ⟨b, _, none⟩) hb).trans q0
        generalize Pl.zeros (LL.take j) = z at hzl hstep ⊢
        clear q0 hx HST HV HLV HZL
        by_cases hm : x.m = 0
        · rw [if_pos (hiff.1 hm)] at hstep
          rw [hm] at c0
          have HS := hide hstep
          clear hstep hiff
          go_wp2
          go_roundw
          case rel => exact ⟨j + 1, by go_num, by omega, by rw [unhide HS]; go_num, trivial⟩
          case measure => simp [intOf]; omega
        · rw [if_neg (fun h => hm (hiff.2 h))] at hstep
          have HS := hide hstep
          clear hstep hiff
          go_wp2
          go_roundw
          case rel => exact ⟨j + 1, by go_num, by omega, by rw [unhide HS]; rfl, trivial⟩
          case measure => simp [intOf]; omega
      · have u4 : ¬ (j : Int) < (Is.length : Int) := by omega
        have hjl : j = Is.length := by omega
        subst hjl
        have hfin := unhide HLV
        rw [hfin]
        clear hfin HST HV HLV HZL
        go_wp2
        go_ret
        exact ⟨rfl, b1⟩
end WNestS
end Go.Proofs.YtkgifofleilabaaDoor
