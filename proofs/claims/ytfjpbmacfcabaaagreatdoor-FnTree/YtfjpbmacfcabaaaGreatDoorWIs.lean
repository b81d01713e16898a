/- errors.Is between two errors of errors.New's make: walked once, after the guide's 10.9. And the program's six errors. -/
import Derived.Test.YtfjpbmacfcabaaaGreatDoorPartA
import Derived.Test.YtfjpbmacfcabaaaGreatDoorProg
import Derived.WalkKit
import Derived.LaidEql
import Derived.Stop.Asserts
namespace Go.Proofs.YtfjpbmacfcabaaaGreatDoor
open Go.RowKit Go.Extern.Stop Go.Stop Go.Extern
namespace WIs
theorem typeOfE (v : Value) (w : World) : (ReflectliteType.typeOf #[.iface 139 v]).run Tryz.prog w = .ok (.iface 108 (.agg #[.pointer (some ⟨6, 139, none⟩)])) w := by kernel_rfl
/-- What stands for the method Comparable, and what it says of such an error's type. -/
theorem comparableE : ∃ F, find Tryz.f119 = some F ∧ ∀ w, (F #[.agg #[.pointer (some ⟨6, 139, none⟩)]]).run Tryz.prog w = .ok (.bool true) w :=
  ⟨ReflectliteType.method fun t => do Rtype.noPackHeld "Comparable" t; pure (.bool (← typeInfo t).comparable), by kernel_rfl, fun w => by kernel_rfl⟩
theorem methodC (v : Value) (w : World) : (Go.method 275 108 v "Comparable").run Tryz.prog w = .ok (119, v) w := by kernel_rfl
theorem compI : (Tryz.prog.info? 139).map (·.comparable) = some true := by kernel_rfl
theorem sizeI : (Tryz.prog.info? 164).map (·.size) = some 1 := by kernel_rfl
theorem noIs (v : Value) (xT : TypeId) (w : World) : (Instr.typeAssert (.iface 139 v) xT 110 true).run Tryz.prog w = .ok (.tuple #[.nilIface, .bool false]) w := run_typeAssert_lacksB Tryz.underlying110 (by kernel_rfl) (by kernel_rfl) v xT w
theorem noUnwrap (v : Value) (xT : TypeId) (w : World) : (Instr.typeAssert (.iface 139 v) xT 113 true).run Tryz.prog w = .ok (.tuple #[.nilIface, .bool false]) w := run_typeAssert_lacksB Tryz.underlying113 (by kernel_rfl) (by kernel_rfl) v xT w
theorem noUnwraps (v : Value) (xT : TypeId) (w : World) : (Instr.typeAssert (.iface 139 v) xT 115 true).run Tryz.prog w = .ok (.tuple #[.nilIface, .bool false]) w := run_typeAssert_lacksB Tryz.underlying115 (by kernel_rfl) (by kernel_rfl) v xT w
theorem same (a : Addr) (w : World) :
    Calls Tryz.prog 57 #[.iface 139 (.pointer (some a)), .iface 139 (.pointer (some a))] w fun e w' => e = .returned (.bool true) ∧ w' = w := by
  obtain ⟨i, hi, hcmp⟩ := Option.map_eq_some_iff.1 compI
  obtain ⟨j, hj, hjs⟩ := Option.map_eq_some_iff.1 sizeI
  have hT := @run_callFunc_extern Tryz.prog 72 _ ReflectliteType.typeOf Tryz.func72 (by kernel_rfl) (by kernel_rfl) (by kernel_rfl) (by kernel_rfl)
  obtain ⟨F, hF, cT⟩ := comparableE
  have hC := @run_callFunc_extern Tryz.prog 119 _ F Tryz.func119 (by kernel_rfl) (by kernel_rfl) (by kernel_rfl) hF
  have tT := typeOfE
  have mR := methodC
  have heq := run_eql_iface_ptr_same (P := Tryz.prog) w a Tryz.underlying55 Tryz.underlying139 hi hcmp hj
  go_enter Tryz.func57, Tryz.ntmps57
  go_wp2
  refine wp_loop_rounds 1 ?_
  rw [rounds_succ]
  go_wp2
  go_ret
  exact ⟨rfl, rfl⟩
theorem other (a b : Addr) (ca cb : Array Value) (ta tb : TypeId) (w : World) (hne : a ≠ b) (ha : w.heap[a.block]? = some (.cells ca ta (0, 0))) (hb : w.heap[b.block]? = some (.cells cb tb (0, 0))) :
    Calls Tryz.prog 57 #[.iface 139 (.pointer (some a)), .iface 139 (.pointer (some b))] w fun e w' => e = .returned (.bool false) ∧ w' = w := by
  obtain ⟨i, hi, hcmp⟩ := Option.map_eq_some_iff.1 compI
  obtain ⟨j, hj, hjs⟩ := Option.map_eq_some_iff.1 sizeI
  have hT := @run_callFunc_extern Tryz.prog 72 _ ReflectliteType.typeOf Tryz.func72 (by kernel_rfl) (by kernel_rfl) (by kernel_rfl) (by kernel_rfl)
  obtain ⟨F, hF, cT⟩ := comparableE
  have hC := @run_callFunc_extern Tryz.prog 119 _ F Tryz.func119 (by kernel_rfl) (by kernel_rfl) (by kernel_rfl) hF
  have tT := typeOfE
  have mR := methodC
  have nE := noIs
  have uE := noUnwrap
  have vE := noUnwraps
  have heq := run_eql_iface_ptr_other (P := Tryz.prog) w Tryz.underlying55 Tryz.underlying139 hi hcmp hj (by rw [hjs]; decide) hne ha hb
  go_enter Tryz.func57, Tryz.ntmps57
  go_wp2
  refine wp_loop_rounds 1 ?_
  rw [rounds_succ]
  go_wp2
  go_ret
  exact ⟨rfl, rfl⟩
end WIs
end Go.Proofs.YtfjpbmacfcabaaaGreatDoor
