/- errors.Is between two errors of errors.New's make: walked once, after the guide's 10.9. And the program's six errors. -/
import Derived.Test.YtfjpbmacfcabaaiDoorPartA
import Derived.Test.YtfjpbmacfcabaaiDoorProg
import Derived.WalkKit
import Derived.LaidEql
import Derived.Stop.Asserts
namespace Go.Proofs.YtfjpbmacfcabaaiDoor
open Go.RowKit Go.Extern.Stop Go.Stop Go.Extern
namespace WIs
theorem typeOfE (v : Value) (w : World) : (ReflectliteType.typeOf #[.iface 143 v]).run Tryd.prog w = .ok (.iface 111 (.agg #[.pointer (some ⟨6, 143, none⟩)])) w := by kernel_rfl
/-- What stands for the method Comparable, and what it says of such an error's type. -/
theorem comparableE : ∃ F, find Tryd.f130 = some F ∧ ∀ w, (F #[.agg #[.pointer (some ⟨6, 143, none⟩)]]).run Tryd.prog w = .ok (.bool true) w :=
  ⟨ReflectliteType.method fun t => do Rtype.noPackHeld "Comparable" t; pure (.bool (← typeInfo t).comparable), by kernel_rfl, fun w => by kernel_rfl⟩
theorem methodC (v : Value) (w : World) : (Go.method 279 111 v "Comparable").run Tryd.prog w = .ok (130, v) w := by kernel_rfl
theorem compI : (Tryd.prog.info? 143).map (·.comparable) = some true := by kernel_rfl
theorem sizeI : (Tryd.prog.info? 168).map (·.size) = some 1 := by kernel_rfl
theorem noIs (v : Value) (xT : TypeId) (w : World) : (Instr.typeAssert (.iface 143 v) xT 113 true).run Tryd.prog w = .ok (.tuple #[.nilIface, .bool false]) w := run_typeAssert_lacksB Tryd.underlying113 (by kernel_rfl) (by kernel_rfl) v xT w
theorem noUnwrap (v : Value) (xT : TypeId) (w : World) : (Instr.typeAssert (.iface 143 v) xT 116 true).run Tryd.prog w = .ok (.tuple #[.nilIface, .bool false]) w := run_typeAssert_lacksB Tryd.underlying116 (by kernel_rfl) (by kernel_rfl) v xT w
theorem noUnwraps (v : Value) (xT : TypeId) (w : World) : (Instr.typeAssert (.iface 143 v) xT 118 true).run Tryd.prog w = .ok (.tuple #[.nilIface, .bool false]) w := run_typeAssert_lacksB Tryd.underlying118 (by kernel_rfl) (by kernel_rfl) v xT w
theorem same (a : Addr) (w : World) :
    Calls Tryd.prog 70 #[.iface 143 (.pointer (some a)), .iface 143 (.pointer (some a))] w fun e w' => e = .returned (.bool true) ∧ w' = w := by
  obtain ⟨i, hi, hcmp⟩ := Option.map_eq_some_iff.1 compI
  obtain ⟨j, hj, hjs⟩ := Option.map_eq_some_iff.1 sizeI
  have hT := @run_callFunc_extern Tryd.prog 86 _ ReflectliteType.typeOf Tryd.func86 (by kernel_rfl) (by kernel_rfl) (by kernel_rfl) (by kernel_rfl)
  obtain ⟨F, hF, cT⟩ := comparableE
  have hC := @run_callFunc_extern Tryd.prog 130 _ F Tryd.func130 (by kernel_rfl) (by kernel_rfl) (by kernel_rfl) hF
  have tT := typeOfE
  have mR := methodC
  have heq := run_eql_iface_ptr_same (P := Tryd.prog) w a Tryd.underlying64 Tryd.underlying143 hi hcmp hj
  go_enter Tryd.func70, Tryd.ntmps70
  go_wp2
  refine wp_loop_rounds 1 ?_
  rw [rounds_succ]
  go_wp2
  go_ret
  exact ⟨rfl, rfl⟩
theorem other (a b : Addr) (ca cb : Array Value) (ta tb : TypeId) (w : World) (hne : a ≠ b) (ha : w.heap[a.block]? = some (.cells ca ta (0, 0))) (hb : w.heap[b.block]? = some (.cells cb tb (0, 0))) :
    Calls Tryd.prog 70 #[.iface 143 (.pointer (some a)), .iface 143 (.pointer (some b))] w fun e w' => e = .returned (.bool false) ∧ w' = w := by
  obtain ⟨i, hi, hcmp⟩ := Option.map_eq_some_iff.1 compI
  obtain ⟨j, hj, hjs⟩ := Option.map_eq_some_iff.1 sizeI
  have hT := @run_callFunc_extern Tryd.prog 86 _ ReflectliteType.typeOf Tryd.func86 (by kernel_rfl) (by kernel_rfl) (by kernel_rfl) (by kernel_rfl)
  obtain ⟨F, hF, cT⟩ := comparableE
  have hC := @run_callFunc_extern Tryd.prog 130 _ F Tryd.func130 (by kernel_rfl) (by kernel_rfl) (by kernel_rfl) hF
  have tT := typeOfE
  have mR := methodC
  have nE := noIs
  have uE := noUnwrap
  have vE := noUnwraps
  have heq := run_eql_iface_ptr_other (P := Tryd.prog) w Tryd.underlying64 Tryd.underlying143 hi hcmp hj (by rw [hjs]; decide) hne ha hb
  go_enter Tryd.func70, Tryd.ntmps70
  go_wp2
  refine wp_loop_rounds 1 ?_
  rw [rounds_succ]
  go_wp2
  go_ret
  exact ⟨rfl, rfl⟩
end WIs
end Go.Proofs.YtfjpbmacfcabaaiDoor
