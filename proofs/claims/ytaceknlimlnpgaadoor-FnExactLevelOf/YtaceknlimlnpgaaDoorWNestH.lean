/- The walks of the specification's l05First, FirstLeaf and LevelOf. -/
import Derived.Test.YtaceknlimlnpgaaDoorWNestS
import Derived.Test.YtaceknlimlnpgaaDoorPartA
namespace Go.Proofs.YtaceknlimlnpgaaDoor
open Go.RowKit
namespace WNestS
theorem many_at {Is : List Pl.It} {j m : Nat} (h : (Pl.rowO (Is.map Pl.It.r))[j]? = some (some m)) : ∃ x, Is[j]? = some x ∧ x.m = (m : Int) := by
  rw [Pl.rowO, List.getElem?_map, List.getElem?_map] at h
  cases hx : Is[j]? with
  | none => rw [hx] at h; simp at h
  | some x =>
    rw [hx] at h
    simp at h
    exact ⟨x, rfl, (Pl.itemO_some h).1⟩
set_option linter.unusedSimpArgs false in
set_option maxRecDepth 100000 in
set_option maxHeartbeats 1000000 in
theorem first_any (a : Option Addr) (cap : Nat) (Is : List Pl.It) (hl : Is.length ≤ 12) (w : World) (hv : Mem.isItems w a Is) (k : Pl.Fo) (hN : Pl.nest (Pl.rowO (Is.map Pl.It.r)) = some k) :
    Calls Tryd.prog 14 #[.slice a Is.length cap] w fun e w' => e = .returned (.int .i64 (k.level : Int)) ∧ w' = w := by
  obtain ⟨hA, hB⟩ := Pl.nest_level hN
  have HA := hide hA
  obtain ⟨x, hx, hxm⟩ := many_at hB
  have hkl : k.level < Is.length := (List.getElem?_eq_some_iff.1 hx).1
  obtain ⟨⟨b, o, rfl, hb, q0, -⟩, -⟩ := hv _ x hx
  rw [hxm] at q0
  have HQ := hide q0
  have HV := hide hv
  clear hA hB hN hv q0 hx hxm
  go_enter Tryd.func14, Tryd.ntmps14
  go_wp2
  go_loopw [3] (fun i wr => ∃ j : Nat, i = .int .i64 (j : Int) ∧ j ≤ k.level ∧ wr = w) (fun i _ => k.level - (intOf i).toNat)
  case atStart => exact ⟨0, rfl, Nat.zero_le _, rfl⟩
  case round =>
    obtain ⟨j, rfl, hj, rfl⟩ := hrel
    have u3 : (0 : Int) ≤ (j : Int) := by omega
    have u4 : (j : Int) < (Is.length : Int) := by omega
    by_cases hlt : j < k.level
    · obtain ⟨m, hm⟩ := unhide HA j hlt
      obtain ⟨y, hy, hym⟩ := many_at hm
      obtain ⟨⟨b2, o2, e2, hb2, c0, -⟩, -⟩ := unhide HV j y hy
      cases e2
      rw [hym] at c0
      have u5 : (0 : Int) < ((m + 1 : Nat) : Int) := by omega
      clear hm hy hym HA HV HQ
      go_wp2
      go_roundw
      case rel => exact ⟨j + 1, by go_num, by omega, trivial⟩
      case measure => simp [intOf]; omega
    · have hjl : j = k.level := by omega
      subst hjl
      have c0 := unhide HQ
      clear HA HV HQ
      go_wp2
      go_ret
      exact ⟨rfl, rfl⟩
set_option maxRecDepth 100000 in
theorem firstLeaf_any (a : Option Addr) (cap : Nat) (Is : List Pl.It) (w : World) (hl : Is.length ≤ 1048576) (hv : Mem.isItems w a Is) (hok : ∀ x ∈ Is, x.t.L.length ≤ 1048576 ∧ ∀ n ∈ x.t.L, n.path.size ≤ 1048576 ∧ n.data.size ≤ 1048576) :
    Calls Tryd.prog 6 #[.slice a Is.length cap] w fun e w' => e = .returned (.int .i64 (Pl.levelO (Pl.nest (Pl.rowO (Is.map Pl.It.r))))) ∧ Below w.heap.size w w' := by
  have hrl : (Pl.rowO (Is.map Pl.It.r)).length = Is.length := by rw [Pl.rowO_len, List.length_map]
  by_cases h400 : 400 < Is.length
  · have t0 : (400 : Int) < (Is.length : Int) := by omega
    rw [Pl.nest_long _ (by omega)]
    clear hv hok
    go_enter Tryd.func6, Tryd.ntmps6
    go_wp2
    go_ret
    exact ⟨rfl, Below.refl _ _⟩
  have t0 : ¬ (400 : Int) < (Is.length : Int) := by omega
  have hz := hide (right_any a cap Is w hl hv hok)
  cases hN : Pl.nest (Pl.rowO (Is.map Pl.It.r)) with
  | none =>
    rw [hN] at hz
    clear hv hok hN hrl
    go_enter Tryd.func6, Tryd.ntmps6
    go_wp2_with fail
    refine (unhide hz).mono ?_
    rintro e w1 ⟨rfl, b1⟩
    clear hz
    go_wp2
    go_ret
    exact ⟨rfl, b1⟩
  | some k =>
    rw [hN] at hz
    obtain ⟨h12, ht, -⟩ := Pl.nest_yes hN
    have hd := hide (fun W (b : Below w.heap.size w W) => first_any a cap Is (by omega) W (Mem.items_call hv b) k hN)
    simp only [Pl.levelO]
    clear hv hok hN hrl ht
    go_enter Tryd.func6, Tryd.ntmps6
    go_wp2_with fail
    refine (unhide hz).mono ?_
    rintro e w1 ⟨rfl, b1⟩
    clear hz
    go_wp2_with fail
    refine (unhide hd _ b1).mono ?_
    rintro e w2 ⟨rfl, rfl⟩
    clear hd
    go_wp2
    go_ret
    exact ⟨rfl, b1⟩
end WNestS
end Go.Proofs.YtaceknlimlnpgaaDoor
