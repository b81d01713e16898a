/- Several texts of one claim in one file: WIll3, WIs. -/
import Derived.Test.YtepmojmelcngeaaGreatDoorG12
import Derived.Test.YtepmojmelcngeaaGreatDoorProg
import Derived.WalkKit
import Derived.Test.YtepmojmelcngeaaGreatDoorG01
import Derived.Test.YtepmojmelcngeaaGreatDoorMem
import Derived.LaidEql
import Derived.Stop.Asserts
/- The walk of the specification's l03Ill. -/
namespace Go.Proofs.YtepmojmelcngeaaGreatDoor
open Go.RowKit
namespace WIll3
set_option maxRecDepth 100000 in
theorem ill_any (c : Int) (w : World) :
    Calls Tryz.prog 39 #[.int .i64 c] w fun e w' => e = .returned (.agg #[.slice none 0 0, .int .i64 c]) ∧ Below w.heap.size w w' := by
  have b0 : Below w.heap.size w (w.alloc (.cells #[.slice none 0 0, .int .i64 c] 33)) := (Below.refl _ _).alloc (Nat.le_refl _) _
  have HB := hide (fun o (a : Addr) v (h : w.heap.size ≤ a.block) (a2 : Addr) v2 (h2 : w.heap.size ≤ a2.block) => ((((Below.refl w.heap.size w).alloc (Nat.le_refl _) o).setCell h v).setCell h2 v2))
  clear b0
  go_enter Tryz.func39, Tryz.ntmps39
  go_wp2
  refine bodyPost_ret (v := .agg #[.slice none 0 0, .int .i64 c]) (by simp [results, Tryz.results39, go_sem]) rfl ⟨rfl, ?_⟩
  exact (Below.refl _ _).alloc (Nat.le_refl _) _
end WIll3
end Go.Proofs.YtepmojmelcngeaaGreatDoor

/- errors.Is between two errors of errors.New's make: walked once, after the guide's 10.9. And the program's six errors. -/
namespace Go.Proofs.YtepmojmelcngeaaGreatDoor
open Go.RowKit Go.Extern.Stop Go.Stop Go.Extern
namespace WIs
theorem typeOfE (v : Value) (w : World) : (ReflectliteType.typeOf #[.iface 207 v]).run Tryz.prog w = .ok (.iface 172 (.agg #[.pointer (some ⟨6, 207, none⟩)])) w := by kernel_rfl
/-- What stands for the method Comparable, and what it says of such an error's type. -/
theorem comparableE : ∃ F, find Tryz.f175 = some F ∧ ∀ w, (F #[.agg #[.pointer (some ⟨6, 207, none⟩)]]).run Tryz.prog w = .ok (.bool true) w :=
  ⟨ReflectliteType.method fun t => do Rtype.noPackHeld "Comparable" t; pure (.bool (← typeInfo t).comparable), by kernel_rfl, fun w => by kernel_rfl⟩
theorem methodC (v : Value) (w : World) : (Go.method 344 172 v "Comparable").run Tryz.prog w = .ok (175, v) w := by kernel_rfl
theorem compI : (Tryz.prog.info? 207).map (·.comparable) = some true := by kernel_rfl
theorem sizeI : (Tryz.prog.info? 233).map (·.size) = some 1 := by kernel_rfl
theorem noIs (v : Value) (xT : TypeId) (w : World) : (Instr.typeAssert (.iface 207 v) xT 174 true).run Tryz.prog w = .ok (.tuple #[.nilIface, .bool false]) w := run_typeAssert_lacksB Tryz.underlying174 (by kernel_rfl) (by kernel_rfl) v xT w
theorem noUnwrap (v : Value) (xT : TypeId) (w : World) : (Instr.typeAssert (.iface 207 v) xT 177 true).run Tryz.prog w = .ok (.tuple #[.nilIface, .bool false]) w := run_typeAssert_lacksB Tryz.underlying177 (by kernel_rfl) (by kernel_rfl) v xT w
theorem noUnwraps (v : Value) (xT : TypeId) (w : World) : (Instr.typeAssert (.iface 207 v) xT 179 true).run Tryz.prog w = .ok (.tuple #[.nilIface, .bool false]) w := run_typeAssert_lacksB Tryz.underlying179 (by kernel_rfl) (by kernel_rfl) v xT w
theorem same (a : Addr) (w : World) :
    Calls Tryz.prog 85 #[.iface 207 (.pointer (some a)), .iface 207 (.pointer (some a))] w fun e w' => e = .returned (.bool true) ∧ w' = w := by
  obtain ⟨i, hi, hcmp⟩ := Option.map_eq_some_iff.1 compI
  obtain ⟨j, hj, hjs⟩ := Option.map_eq_some_iff.1 sizeI
  have hT := @run_callFunc_extern Tryz.prog 114 _ ReflectliteType.typeOf Tryz.func114 (by kernel_rfl) (by kernel_rfl) (by kernel_rfl) (by kernel_rfl)
  obtain ⟨F, hF, cT⟩ := comparableE
  have hC := @run_callFunc_extern Tryz.prog 175 _ F Tryz.func175 (by kernel_rfl) (by kernel_rfl) (by kernel_rfl) hF
  have tT := typeOfE
  have mR := methodC
  have heq := run_eql_iface_ptr_same (P := Tryz.prog) w a Tryz.underlying76 Tryz.underlying207 hi hcmp hj
  go_enter Tryz.func85, Tryz.ntmps85
  go_wp2
  refine wp_loop_rounds 1 ?_
  rw [rounds_succ]
  go_wp2
  go_ret
  exact ⟨rfl, rfl⟩
theorem other (a b : Addr) (ca cb : Array Value) (ta tb : TypeId) (w : World) (hne : a ≠ b) (ha : w.heap[a.block]? = some (.cells ca ta (0, 0))) (hb : w.heap[b.block]? = some (.cells cb tb (0, 0))) :
    Calls Tryz.prog 85 #[.iface 207 (.pointer (some a)), .iface 207 (.pointer (some b))] w fun e w' => e = .returned (.bool false) ∧ w' = w := by
  obtain ⟨i, hi, hcmp⟩ := Option.map_eq_some_iff.1 compI
  obtain ⟨j, hj, hjs⟩ := Option.map_eq_some_iff.1 sizeI
  have hT := @run_callFunc_extern Tryz.prog 114 _ ReflectliteType.typeOf Tryz.func114 (by kernel_rfl) (by kernel_rfl) (by kernel_rfl) (by kernel_rfl)
  obtain ⟨F, hF, cT⟩ := comparableE
  have hC := @run_callFunc_extern Tryz.prog 175 _ F Tryz.func175 (by kernel_rfl) (by kernel_rfl) (by kernel_rfl) hF
  have tT := typeOfE
  have mR := methodC
  have nE := noIs
  have uE := noUnwrap
  have vE := noUnwraps
  have heq := run_eql_iface_ptr_other (P := Tryz.prog) w Tryz.underlying76 Tryz.underlying207 hi hcmp hj (by rw [hjs]; decide) hne ha hb
  go_enter Tryz.func85, Tryz.ntmps85
  go_wp2
  refine wp_loop_rounds 1 ?_
  rw [rounds_succ]
  go_wp2
  go_ret
  exact ⟨rfl, rfl⟩
end WIs
end Go.Proofs.YtepmojmelcngeaaGreatDoor

