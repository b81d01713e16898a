/- Several texts of one claim in one file: WIs, WCode, WCodeA. -/
import Derived.Test.YteddcihodfkliaaGreatDoorPartA
import Derived.Test.YteddcihodfkliaaGreatDoorProg
import Derived.WalkKit
import Derived.LaidEql
import Derived.Stop.Asserts
import Derived.Test.YteddcihodfkliaaGreatDoorPartQ
/- errors.Is between two errors of errors.New's make: walked once, after the guide's 10.9. And the program's six errors. -/
namespace Go.Proofs.YteddcihodfkliaaGreatDoor
open Go.RowKit Go.Extern.Stop Go.Stop Go.Extern
namespace WIs
theorem typeOfE (v : Value) (w : World) : (ReflectliteType.typeOf #[.iface 233 v]).run Tryz.prog w = .ok (.iface 194 (.agg #[.pointer (some ⟨6, 233, none⟩)])) w := by kernel_rfl
/-- What stands for the method Comparable, and what it says of such an error's type. -/
theorem comparableE : ∃ F, find Tryz.f192 = some F ∧ ∀ w, (F #[.agg #[.pointer (some ⟨6, 233, none⟩)]]).run Tryz.prog w = .ok (.bool true) w :=
  ⟨ReflectliteType.method fun t => do Rtype.noPackHeld "Comparable" t; pure (.bool (← typeInfo t).comparable), by kernel_rfl, fun w => by kernel_rfl⟩
theorem methodC (v : Value) (w : World) : (Go.method 369 194 v "Comparable").run Tryz.prog w = .ok (192, v) w := by kernel_rfl
theorem compI : (Tryz.prog.info? 233).map (·.comparable) = some true := by kernel_rfl
theorem sizeI : (Tryz.prog.info? 258).map (·.size) = some 1 := by kernel_rfl
theorem noIs (v : Value) (xT : TypeId) (w : World) : (Instr.typeAssert (.iface 233 v) xT 196 true).run Tryz.prog w = .ok (.tuple #[.nilIface, .bool false]) w := run_typeAssert_lacksB Tryz.underlying196 (by kernel_rfl) (by kernel_rfl) v xT w
theorem noUnwrap (v : Value) (xT : TypeId) (w : World) : (Instr.typeAssert (.iface 233 v) xT 199 true).run Tryz.prog w = .ok (.tuple #[.nilIface, .bool false]) w := run_typeAssert_lacksB Tryz.underlying199 (by kernel_rfl) (by kernel_rfl) v xT w
theorem noUnwraps (v : Value) (xT : TypeId) (w : World) : (Instr.typeAssert (.iface 233 v) xT 201 true).run Tryz.prog w = .ok (.tuple #[.nilIface, .bool false]) w := run_typeAssert_lacksB Tryz.underlying201 (by kernel_rfl) (by kernel_rfl) v xT w
theorem same (a : Addr) (w : World) :
    Calls Tryz.prog 72 #[.iface 233 (.pointer (some a)), .iface 233 (.pointer (some a))] w fun e w' => e = .returned (.bool true) ∧ w' = w := by
  obtain ⟨i, hi, hcmp⟩ := Option.map_eq_some_iff.1 compI
  obtain ⟨j, hj, hjs⟩ := Option.map_eq_some_iff.1 sizeI
  have hT := @run_callFunc_extern Tryz.prog 112 _ ReflectliteType.typeOf Tryz.func112 (by kernel_rfl) (by kernel_rfl) (by kernel_rfl) (by kernel_rfl)
  obtain ⟨F, hF, cT⟩ := comparableE
  have hC := @run_callFunc_extern Tryz.prog 192 _ F Tryz.func192 (by kernel_rfl) (by kernel_rfl) (by kernel_rfl) hF
  have tT := typeOfE
  have mR := methodC
  have heq := run_eql_iface_ptr_same (P := Tryz.prog) w a Tryz.underlying66 Tryz.underlying233 hi hcmp hj
  go_enter Tryz.func72, Tryz.ntmps72
  go_wp2
  refine wp_loop_rounds 1 ?_
  rw [rounds_succ]
  go_wp2
  go_ret
  exact ⟨rfl, rfl⟩
theorem other (a b : Addr) (ca cb : Array Value) (ta tb : TypeId) (w : World) (hne : a ≠ b) (ha : w.heap[a.block]? = some (.cells ca ta (0, 0))) (hb : w.heap[b.block]? = some (.cells cb tb (0, 0))) :
    Calls Tryz.prog 72 #[.iface 233 (.pointer (some a)), .iface 233 (.pointer (some b))] w fun e w' => e = .returned (.bool false) ∧ w' = w := by
  obtain ⟨i, hi, hcmp⟩ := Option.map_eq_some_iff.1 compI
  obtain ⟨j, hj, hjs⟩ := Option.map_eq_some_iff.1 sizeI
  have hT := @run_callFunc_extern Tryz.prog 112 _ ReflectliteType.typeOf Tryz.func112 (by kernel_rfl) (by kernel_rfl) (by kernel_rfl) (by kernel_rfl)
  obtain ⟨F, hF, cT⟩ := comparableE
  have hC := @run_callFunc_extern Tryz.prog 192 _ F Tryz.func192 (by kernel_rfl) (by kernel_rfl) (by kernel_rfl) hF
  have tT := typeOfE
  have mR := methodC
  have nE := noIs
  have uE := noUnwrap
  have vE := noUnwraps
  have heq := run_eql_iface_ptr_other (P := Tryz.prog) w Tryz.underlying66 Tryz.underlying233 hi hcmp hj (by rw [hjs]; decide) hne ha hb
  go_enter Tryz.func72, Tryz.ntmps72
  go_wp2
  refine wp_loop_rounds 1 ?_
  rw [rounds_succ]
  go_wp2
  go_ret
  exact ⟨rfl, rfl⟩
end WIs
end Go.Proofs.YteddcihodfkliaaGreatDoor

/- The program's six errors, each its own; what treeCode says of each. -/
namespace Go.Proofs.YteddcihodfkliaaGreatDoor
open Go.RowKit
namespace WIs
/-- The six errors: where each lies, and that no two are one. -/
structure Six (w : World) (x : Nat → Addr) : Prop where
  c0 : w.cell? ⟨1, 0, none⟩ = some (.iface 233 (.pointer (some (x 0))))
  c1 : w.cell? ⟨0, 0, none⟩ = some (.iface 233 (.pointer (some (x 1))))
  c2 : w.cell? ⟨2, 0, none⟩ = some (.iface 233 (.pointer (some (x 2))))
  c3 : w.cell? ⟨3, 0, none⟩ = some (.iface 233 (.pointer (some (x 3))))
  c4 : w.cell? ⟨4, 0, none⟩ = some (.iface 233 (.pointer (some (x 4))))
  c5 : w.cell? ⟨5, 0, none⟩ = some (.iface 233 (.pointer (some (x 5))))
  row : ∀ k, k < 6 → ∃ c t, w.heap[(x k).block]? = some (.cells c t (0, 0))
  apart : ∀ i j, i < 6 → j < 6 → i ≠ j → x i ≠ x j
theorem Six.call {w w' : World} {x : Nat → Addr} (h : Six w x) (b : Below w.heap.size w w') : Six w' x :=
  ⟨(b.cell (p := ⟨_, 0, none⟩) (World.block_lt_of_cell? w ⟨_, 0, none⟩ h.c0)).trans h.c0, (b.cell (p := ⟨_, 0, none⟩) (World.block_lt_of_cell? w ⟨_, 0, none⟩ h.c1)).trans h.c1, (b.cell (p := ⟨_, 0, none⟩) (World.block_lt_of_cell? w ⟨_, 0, none⟩ h.c2)).trans h.c2, (b.cell (p := ⟨_, 0, none⟩) (World.block_lt_of_cell? w ⟨_, 0, none⟩ h.c3)).trans h.c3, (b.cell (p := ⟨_, 0, none⟩) (World.block_lt_of_cell? w ⟨_, 0, none⟩ h.c4)).trans h.c4, (b.cell (p := ⟨_, 0, none⟩) (World.block_lt_of_cell? w ⟨_, 0, none⟩ h.c5)).trans h.c5,
    fun k hk => by
      obtain ⟨c, t, hr⟩ := h.row k hk
      exact ⟨c, t, (b.block _ (Array.getElem?_eq_some_iff.1 hr).1).trans hr⟩, h.apart⟩
theorem Six.errs {w : World} {x : Nat → Addr} (h : Six w x) : WNodesI.Errs w 233 233 233 (.pointer (some (x 1))) (.pointer (some (x 2))) (.pointer (some (x 3))) := ⟨h.c1, h.c2, h.c3⟩
/-- errors.Is between two of the six. -/
theorem Six.other {w : World} {x : Nat → Addr} (h : Six w x) (i j : Nat) (hi : i < 6) (hj : j < 6) (hij : i ≠ j) :
    Calls Tryz.prog 72 #[.iface 233 (.pointer (some (x i))), .iface 233 (.pointer (some (x j)))] w fun e w' => e = .returned (.bool false) ∧ w' = w := by
  obtain ⟨c1, t1, h1⟩ := h.row i hi
  obtain ⟨c2, t2, h2⟩ := h.row j hj
  exact WIs.other (x i) (x j) c1 c2 t1 t2 w (h.apart i j hi hj hij) h1 h2
/-- The code of the k-th. -/
def codeOf : Nat → Int
  | 0 => 2
  | 1 => 1
  | 2 => 6
  | 3 => 12
  | 4 => 11
  | _ => 9
set_option maxRecDepth 100000 in
set_option maxHeartbeats 400000 in
theorem code0 (x : Nat → Addr) (w : World) (h : Six w x) :
    Calls Tryz.prog 39 #[.iface 233 (.pointer (some (x 0)))] w fun e w' => e = .returned (.int .i64 2) ∧ w' = w := by
  have k0 := h.c0
  have k2 := h.c2
  have k3 := h.c3
  have k4 := h.c4
  have k5 := h.c5
  have H := hide h
  clear h
  go_enter Tryz.func39, Tryz.ntmps39
  go_wp2_with fail
  refine (WIs.same (x 0) _).mono ?_
  rintro e w1 ⟨rfl, rfl⟩
  go_wp2
  go_ret
  exact ⟨rfl, rfl⟩
set_option maxRecDepth 100000 in
set_option maxHeartbeats 400000 in
theorem code1 (x : Nat → Addr) (w : World) (h : Six w x) :
    Calls Tryz.prog 39 #[.iface 233 (.pointer (some (x 1)))] w fun e w' => e = .returned (.int .i64 1) ∧ w' = w := by
  have k0 := h.c0
  have k2 := h.c2
  have k3 := h.c3
  have k4 := h.c4
  have k5 := h.c5
  have H := hide h
  clear h
  go_enter Tryz.func39, Tryz.ntmps39
  go_wp2_with fail
  refine ((unhide H).other 1 0 (by decide) (by decide) (by decide)).mono ?_
  rintro e w1 ⟨rfl, rfl⟩
  go_wp2_with fail
  refine ((unhide H).other 1 2 (by decide) (by decide) (by decide)).mono ?_
  rintro e w3 ⟨rfl, rfl⟩
  go_wp2_with fail
  refine ((unhide H).other 1 3 (by decide) (by decide) (by decide)).mono ?_
  rintro e w4 ⟨rfl, rfl⟩
  go_wp2_with fail
  refine ((unhide H).other 1 4 (by decide) (by decide) (by decide)).mono ?_
  rintro e w5 ⟨rfl, rfl⟩
  go_wp2_with fail
  refine ((unhide H).other 1 5 (by decide) (by decide) (by decide)).mono ?_
  rintro e w6 ⟨rfl, rfl⟩
  go_wp2
  go_ret
  exact ⟨rfl, rfl⟩
set_option maxRecDepth 100000 in
set_option maxHeartbeats 400000 in
theorem code2 (x : Nat → Addr) (w : World) (h : Six w x) :
    Calls Tryz.prog 39 #[.iface 233 (.pointer (some (x 2)))] w fun e w' => e = .returned (.int .i64 6) ∧ w' = w := by
  have k0 := h.c0
  have k2 := h.c2
  have k3 := h.c3
  have k4 := h.c4
  have k5 := h.c5
  have H := hide h
  clear h
  go_enter Tryz.func39, Tryz.ntmps39
  go_wp2_with fail
  refine ((unhide H).other 2 0 (by decide) (by decide) (by decide)).mono ?_
  rintro e w1 ⟨rfl, rfl⟩
  go_wp2_with fail
  refine (WIs.same (x 2) _).mono ?_
  rintro e w1 ⟨rfl, rfl⟩
  go_wp2
  go_ret
  exact ⟨rfl, rfl⟩
set_option maxRecDepth 100000 in
set_option maxHeartbeats 400000 in
theorem code3 (x : Nat → Addr) (w : World) (h : Six w x) :
    Calls Tryz.prog 39 #[.iface 233 (.pointer (some (x 3)))] w fun e w' => e = .returned (.int .i64 12) ∧ w' = w := by
  have k0 := h.c0
  have k2 := h.c2
  have k3 := h.c3
  have k4 := h.c4
  have k5 := h.c5
  have H := hide h
  clear h
  go_enter Tryz.func39, Tryz.ntmps39
  go_wp2_with fail
  refine ((unhide H).other 3 0 (by decide) (by decide) (by decide)).mono ?_
  rintro e w1 ⟨rfl, rfl⟩
  go_wp2_with fail
  refine ((unhide H).other 3 2 (by decide) (by decide) (by decide)).mono ?_
  rintro e w3 ⟨rfl, rfl⟩
  go_wp2_with fail
  refine (WIs.same (x 3) _).mono ?_
  rintro e w1 ⟨rfl, rfl⟩
  go_wp2
  go_ret
  exact ⟨rfl, rfl⟩
set_option maxRecDepth 100000 in
set_option maxHeartbeats 400000 in
theorem code4 (x : Nat → Addr) (w : World) (h : Six w x) :
    Calls Tryz.prog 39 #[.iface 233 (.pointer (some (x 4)))] w fun e w' => e = .returned (.int .i64 11) ∧ w' = w := by
  have k0 := h.c0
  have k2 := h.c2
  have k3 := h.c3
  have k4 := h.c4
  have k5 := h.c5
  have H := hide h
  clear h
  go_enter Tryz.func39, Tryz.ntmps39
  go_wp2_with fail
  refine ((unhide H).other 4 0 (by decide) (by decide) (by decide)).mono ?_
  rintro e w1 ⟨rfl, rfl⟩
  go_wp2_with fail
  refine ((unhide H).other 4 2 (by decide) (by decide) (by decide)).mono ?_
  rintro e w3 ⟨rfl, rfl⟩
  go_wp2_with fail
  refine ((unhide H).other 4 3 (by decide) (by decide) (by decide)).mono ?_
  rintro e w4 ⟨rfl, rfl⟩
  go_wp2_with fail
  refine (WIs.same (x 4) _).mono ?_
  rintro e w1 ⟨rfl, rfl⟩
  go_wp2
  go_ret
  exact ⟨rfl, rfl⟩
set_option maxRecDepth 100000 in
set_option maxHeartbeats 400000 in
theorem code5 (x : Nat → Addr) (w : World) (h : Six w x) :
    Calls Tryz.prog 39 #[.iface 233 (.pointer (some (x 5)))] w fun e w' => e = .returned (.int .i64 9) ∧ w' = w := by
  have k0 := h.c0
  have k2 := h.c2
  have k3 := h.c3
  have k4 := h.c4
  have k5 := h.c5
  have H := hide h
  clear h
  go_enter Tryz.func39, Tryz.ntmps39
  go_wp2_with fail
  refine ((unhide H).other 5 0 (by decide) (by decide) (by decide)).mono ?_
  rintro e w1 ⟨rfl, rfl⟩
  go_wp2_with fail
  refine ((unhide H).other 5 2 (by decide) (by decide) (by decide)).mono ?_
  rintro e w3 ⟨rfl, rfl⟩
  go_wp2_with fail
  refine ((unhide H).other 5 3 (by decide) (by decide) (by decide)).mono ?_
  rintro e w4 ⟨rfl, rfl⟩
  go_wp2_with fail
  refine ((unhide H).other 5 4 (by decide) (by decide) (by decide)).mono ?_
  rintro e w5 ⟨rfl, rfl⟩
  go_wp2_with fail
  refine (WIs.same (x 5) _).mono ?_
  rintro e w1 ⟨rfl, rfl⟩
  go_wp2
  go_ret
  exact ⟨rfl, rfl⟩
end WIs
end Go.Proofs.YteddcihodfkliaaGreatDoor

/- The code of any of the six errors, and of none. -/
namespace Go.Proofs.YteddcihodfkliaaGreatDoor
open Go.RowKit
namespace WCutF
theorem code_any (x : Nat → Addr) (w : World) (h : WIs.Six w x) (i : Nat) (hi : i < 6) :
    Calls Tryz.prog 39 #[.iface 233 (.pointer (some (x i)))] w fun e w' => e = .returned (.int .i64 (WIs.codeOf i)) ∧ w' = w := by
  obtain rfl | rfl | rfl | rfl | rfl | rfl : i = 0 ∨ i = 1 ∨ i = 2 ∨ i = 3 ∨ i = 4 ∨ i = 5 := by omega
  · exact WIs.code0 x w h
  · exact WIs.code1 x w h
  · exact WIs.code2 x w h
  · exact WIs.code3 x w h
  · exact WIs.code4 x w h
  · exact WIs.code5 x w h
theorem code_pos (i : Nat) : WIs.codeOf i ≠ 0 := by
  unfold WIs.codeOf
  split <;> decide
set_option maxRecDepth 100000 in
theorem code_nil (w : World) : Calls Tryz.prog 39 #[.nilIface] w fun e w' => e = .returned (.int .i64 0) ∧ w' = w := by
  go_enter Tryz.func39, Tryz.ntmps39
  go_wp2
  go_ret
  exact ⟨rfl, rfl⟩
end WCutF
end Go.Proofs.YteddcihodfkliaaGreatDoor

