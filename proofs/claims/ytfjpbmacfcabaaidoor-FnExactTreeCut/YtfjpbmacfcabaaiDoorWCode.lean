/- The program's six errors, each its own; what treeCode says of each. -/
import Derived.Test.YtfjpbmacfcabaaiDoorWIs
import Derived.Test.YtfjpbmacfcabaaiDoorWNodesI
namespace Go.Proofs.YtfjpbmacfcabaaiDoor
open Go.RowKit
namespace WIs
/-- The six errors: where each lies, and that no two are one. -/
structure Six (w : World) (x : Nat → Addr) : Prop where
  c0 : w.cell? ⟨1, 0, none⟩ = some (.iface 143 (.pointer (some (x 0))))
  c1 : w.cell? ⟨0, 0, none⟩ = some (.iface 143 (.pointer (some (x 1))))
  c2 : w.cell? ⟨2, 0, none⟩ = some (.iface 143 (.pointer (some (x 2))))
  c3 : w.cell? ⟨3, 0, none⟩ = some (.iface 143 (.pointer (some (x 3))))
  c4 : w.cell? ⟨4, 0, none⟩ = some (.iface 143 (.pointer (some (x 4))))
  c5 : w.cell? ⟨5, 0, none⟩ = some (.iface 143 (.pointer (some (x 5))))
  row : ∀ k, k < 6 → ∃ c t, w.heap[(x k).block]? = some (.cells c t (0, 0))
  apart : ∀ i j, i < 6 → j < 6 → i ≠ j → x i ≠ x j
theorem Six.call {w w' : World} {x : Nat → Addr} (h : Six w x) (b : Below w.heap.size w w') : Six w' x :=
  ⟨(b.cell (p := ⟨_, 0, none⟩) (World.block_lt_of_cell? w ⟨_, 0, none⟩ h.c0)).trans h.c0, (b.cell (p := ⟨_, 0, none⟩) (World.block_lt_of_cell? w ⟨_, 0, none⟩ h.c1)).trans h.c1, (b.cell (p := ⟨_, 0, none⟩) (World.block_lt_of_cell? w ⟨_, 0, none⟩ h.c2)).trans h.c2, (b.cell (p := ⟨_, 0, none⟩) (World.block_lt_of_cell? w ⟨_, 0, none⟩ h.c3)).trans h.c3, (b.cell (p := ⟨_, 0, none⟩) (World.block_lt_of_cell? w ⟨_, 0, none⟩ h.c4)).trans h.c4, (b.cell (p := ⟨_, 0, none⟩) (World.block_lt_of_cell? w ⟨_, 0, none⟩ h.c5)).trans h.c5,
    fun k hk => by
      obtain ⟨c, t, hr⟩ := h.row k hk
      exact ⟨c, t, (b.block _ (Array.getElem?_eq_some_iff.1 hr).1).trans hr⟩, h.apart⟩
theorem Six.errs {w : World} {x : Nat → Addr} (h : Six w x) : WNodesI.Errs w 143 143 143 (.pointer (some (x 1))) (.pointer (some (x 2))) (.pointer (some (x 3))) := ⟨h.c1, h.c2, h.c3⟩
/-- errors.Is between two of the six. -/
theorem Six.other {w : World} {x : Nat → Addr} (h : Six w x) (i j : Nat) (hi : i < 6) (hj : j < 6) (hij : i ≠ j) :
    Calls Tryd.prog 70 #[.iface 143 (.pointer (some (x i))), .iface 143 (.pointer (some (x j)))] w fun e w' => e = .returned (.bool false) ∧ w' = w := by
  obtain ⟨c1, t1, h1⟩ := h.row i hi
  obtain ⟨c2, t2, h2⟩ := h.row j hj
  exact WIs.other (x i) (x j) c1 c2 t1 t2 w (h.apart i j hi hj hij) h1 h2
/-- The code of the k-th. -/
def codeOf : Nat → Int
  | 0 => 2
  | 1 => 1
  | 2 => 6
  | 3 => 12
  | 4 => 11
  | _ => 9
set_option maxRecDepth 100000 in
set_option maxHeartbeats 400000 in
theorem code0 (x : Nat → Addr) (w : World) (h : Six w x) :
    Calls Tryd.prog 45 #[.iface 143 (.pointer (some (x 0)))] w fun e w' => e = .returned (.int .i64 2) ∧ w' = w := by
  have k0 := h.c0
  have k2 := h.c2
  have k3 := h.c3
  have k4 := h.c4
  have k5 := h.c5
  have H := hide h
  clear h
  go_enter Tryd.func45, Tryd.ntmps45
  go_wp2_with fail
  refine (WIs.same (x 0) _).mono ?_
  rintro e w1 ⟨rfl, rfl⟩
  go_wp2
  go_ret
  exact ⟨rfl, rfl⟩
set_option maxRecDepth 100000 in
set_option maxHeartbeats 400000 in
theorem code1 (x : Nat → Addr) (w : World) (h : Six w x) :
    Calls Tryd.prog 45 #[.iface 143 (.pointer (some (x 1)))] w fun e w' => e = .returned (.int .i64 1) ∧ w' = w := by
  have k0 := h.c0
  have k2 := h.c2
  have k3 := h.c3
  have k4 := h.c4
  have k5 := h.c5
  have H := hide h
  clear h
  go_enter Tryd.func45, Tryd.ntmps45
  go_wp2_with fail
  refine ((unhide H).other 1 0 (by decide) (by decide) (by decide)).mono ?_
  rintro e w1 ⟨rfl, rfl⟩
  go_wp2_with fail
  refine ((unhide H).other 1 2 (by decide) (by decide) (by decide)).mono ?_
  rintro e w3 ⟨rfl, rfl⟩
  go_wp2_with fail
  refine ((unhide H).other 1 3 (by decide) (by decide) (by decide)).mono ?_
  rintro e w4 ⟨rfl, rfl⟩
  go_wp2_with fail
  refine ((unhide H).other 1 4 (by decide) (by decide) (by decide)).mono ?_
  rintro e w5 ⟨rfl, rfl⟩
  go_wp2_with fail
  refine ((unhide H).other 1 5 (by decide) (by decide) (by decide)).mono ?_
  rintro e w6 ⟨rfl, rfl⟩
  go_wp2
  go_ret
  exact ⟨rfl, rfl⟩
set_option maxRecDepth 100000 in
set_option maxHeartbeats 400000 in
theorem code2 (x : Nat → Addr) (w : World) (h : Six w x) :
    Calls Tryd.prog 45 #[.iface 143 (.pointer (some (x 2)))] w fun e w' => e = .returned (.int .i64 6) ∧ w' = w := by
  have k0 := h.c0
  have k2 := h.c2
  have k3 := h.c3
  have k4 := h.c4
  have k5 := h.c5
  have H := hide h
  clear h
  go_enter Tryd.func45, Tryd.ntmps45
  go_wp2_with fail
  refine ((unhide H).other 2 0 (by decide) (by decide) (by decide)).mono ?_
  rintro e w1 ⟨rfl, rfl⟩
  go_wp2_with fail
  refine (WIs.same (x 2) _).mono ?_
  rintro e w1 ⟨rfl, rfl⟩
  go_wp2
  go_ret
  exact ⟨rfl, rfl⟩
set_option maxRecDepth 100000 in
set_option maxHeartbeats 400000 in
theorem code3 (x : Nat → Addr) (w : World) (h : Six w x) :
    Calls Tryd.prog 45 #[.iface 143 (.pointer (some (x 3)))] w fun e w' => e = .returned (.int .i64 12) ∧ w' = w := by
  have k0 := h.c0
  have k2 := h.c2
  have k3 := h.c3
  have k4 := h.c4
  have k5 := h.c5
  have H := hide h
  clear h
  go_enter Tryd.func45, Tryd.ntmps45
  go_wp2_with fail
  refine ((unhide H).other 3 0 (by decide) (by decide) (by decide)).mono ?_
  rintro e w1 ⟨rfl, rfl⟩
  go_wp2_with fail
  refine ((unhide H).other 3 2 (by decide) (by decide) (by decide)).mono ?_
  rintro e w3 ⟨rfl, rfl⟩
  go_wp2_with fail
  refine (WIs.same (x 3) _).mono ?_
  rintro e w1 ⟨rfl, rfl⟩
  go_wp2
  go_ret
  exact ⟨rfl, rfl⟩
set_option maxRecDepth 100000 in
set_option maxHeartbeats 400000 in
theorem code4 (x : Nat → Addr) (w : World) (h : Six w x) :
    Calls Tryd.prog 45 #[.iface 143 (.pointer (some (x 4)))] w fun e w' => e = .returned (.int .i64 11) ∧ w' = w := by
  have k0 := h.c0
  have k2 := h.c2
  have k3 := h.c3
  have k4 := h.c4
  have k5 := h.c5
  have H := hide h
  clear h
  go_enter Tryd.func45, Tryd.ntmps45
  go_wp2_with fail
  refine ((unhide H).other 4 0 (by decide) (by decide) (by decide)).mono ?_
  rintro e w1 ⟨rfl, rfl⟩
  go_wp2_with fail
  refine ((unhide H).other 4 2 (by decide) (by decide) (by decide)).mono ?_
  rintro e w3 ⟨rfl, rfl⟩
  go_wp2_with fail
  refine ((unhide H).other 4 3 (by decide) (by decide) (by decide)).mono ?_
  rintro e w4 ⟨rfl, rfl⟩
  go_wp2_with fail
  refine (WIs.same (x 4) _).mono ?_
  rintro e w1 ⟨rfl, rfl⟩
  go_wp2
  go_ret
  exact ⟨rfl, rfl⟩
set_option maxRecDepth 100000 in
set_option maxHeartbeats 400000 in
theorem code5 (x : Nat → Addr) (w : World) (h : Six w x) :
    Calls Tryd.prog 45 #[.iface 143 (.pointer (some (x 5)))] w fun e w' => e = .returned (.int .i64 9) ∧ w' = w := by
  have k0 := h.c0
  have k2 := h.c2
  have k3 := h.c3
  have k4 := h.c4
  have k5 := h.c5
  have H := hide h
  clear h
  go_enter Tryd.func45, Tryd.ntmps45
  go_wp2_with fail
  refine ((unhide H).other 5 0 (by decide) (by decide) (by decide)).mono ?_
  rintro e w1 ⟨rfl, rfl⟩
  go_wp2_with fail
  refine ((unhide H).other 5 2 (by decide) (by decide) (by decide)).mono ?_
  rintro e w3 ⟨rfl, rfl⟩
  go_wp2_with fail
  refine ((unhide H).other 5 3 (by decide) (by decide) (by decide)).mono ?_
  rintro e w4 ⟨rfl, rfl⟩
  go_wp2_with fail
  refine ((unhide H).other 5 4 (by decide) (by decide) (by decide)).mono ?_
  rintro e w5 ⟨rfl, rfl⟩
  go_wp2_with fail
  refine (WIs.same (x 5) _).mono ?_
  rintro e w1 ⟨rfl, rfl⟩
  go_wp2
  go_ret
  exact ⟨rfl, rfl⟩
end WIs
end Go.Proofs.YtfjpbmacfcabaaiDoor
