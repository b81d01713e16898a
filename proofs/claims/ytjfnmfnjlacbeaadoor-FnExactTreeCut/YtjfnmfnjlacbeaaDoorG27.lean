/- Several texts of one claim in one file: MapLook, WIs, WCode, WGetT. -/
import Derived.Test.YtjfnmfnjlacbeaaDoorG15
import Derived.Test.YtjfnmfnjlacbeaaDoorWNodesI
import Derived.Test.YtjfnmfnjlacbeaaDoorG01
import Derived.Test.YtjfnmfnjlacbeaaDoorProg
import Derived.Test.YtjfnmfnjlacbeaaDoorG06
import Derived.WalkKit
import Derived.LaidEql
import Derived.Stop.Asserts
import Derived.Test.YtjfnmfnjlacbeaaDoorWGetP
import Derived.Test.YtjfnmfnjlacbeaaDoorWCopied
import Derived.Test.YtjfnmfnjlacbeaaDoorG18
/- 'm[k]' at nodes, as a statement of its own. -/
namespace Go.Proofs.YtjfnmfnjlacbeaaDoor
open Go.RowKit Go.Maps
namespace MapN
/-- 'all[path]', as a statement of its own. -/
theorem look_no {P : Program} (w : World) {ops : Array Oper} {rest : List Oper} {o : Oper} {a : Act} {Q : Exit → Act → World → Prop} (hg : o.guard = none) (m x : Operand) (t : TypeId) (hop : o.op = Op.lookup t m x false)
    (k e : TypeId) (K : Keyed P k) (ht : P.underlying t = some (.map k e)) (hz : (zeroValue e).run P w = .ok (Pl.Nd.val ⟨⟨#[]⟩, 0, ⟨#[]⟩, 0, 0⟩) w) (b n : Nat) (D : DataW Unit)
    (hm : a.eval m = .map (some b)) (hown : w.ownsMap P k elem b n D) (kv : Value) (kl : Lit) (hx : a.eval x = kv) (hkey : keyOf P k kv = some kl) (nd : Pl.Nd) (hat : D.atKey kl (dat ⟨⟨#[]⟩, 0, ⟨#[]⟩, 0, 0⟩) = dat nd)
    (hK : wpList P ops Q rest (a.put o.dst (.agg #[.string nd.path, .int .i64 nd.kind, .string nd.data, .int .i64 nd.time, .int .i64 nd.mark])) w) :
    wpList P ops Q (o :: rest) a w := by
  refine wpList_plain hg fun K' hK' => ?_
  obtain ⟨v, ps, hrun, hv⟩ := hown.lookup K ht hz (elem_mk _) hkey
  obtain ⟨n1, rfl, hd⟩ := elem_inv hv
  obtain rfl := dat_inj (hat.symm.trans hd)
  unfold Oper.wp
  simp [execOp, hop, hm, hx, hrun, Result.andThen]
  exact hK' _ _ hK
end MapN
end Go.Proofs.YtjfnmfnjlacbeaaDoor

/- errors.Is between two errors of errors.New's make: walked once, after the guide's 10.9. And the program's six errors. -/
namespace Go.Proofs.YtjfnmfnjlacbeaaDoor
open Go.RowKit Go.Extern.Stop Go.Stop Go.Extern
namespace WIs
theorem typeOfE (v : Value) (w : World) : (ReflectliteType.typeOf #[.iface 174 v]).run Tryd.prog w = .ok (.iface 143 (.agg #[.pointer (some ⟨6, 174, none⟩)])) w := by kernel_rfl
/-- What stands for the method Comparable, and what it says of such an error's type. -/
theorem comparableE : ∃ F, find Tryd.f145 = some F ∧ ∀ w, (F #[.agg #[.pointer (some ⟨6, 174, none⟩)]]).run Tryd.prog w = .ok (.bool true) w :=
  ⟨ReflectliteType.method fun t => do Rtype.noPackHeld "Comparable" t; pure (.bool (← typeInfo t).comparable), by kernel_rfl, fun w => by kernel_rfl⟩
theorem methodC (v : Value) (w : World) : (Go.method 310 143 v "Comparable").run Tryd.prog w = .ok (145, v) w := by kernel_rfl
theorem compI : (Tryd.prog.info? 174).map (·.comparable) = some true := by kernel_rfl
theorem sizeI : (Tryd.prog.info? 199).map (·.size) = some 1 := by kernel_rfl
theorem noIs (v : Value) (xT : TypeId) (w : World) : (Instr.typeAssert (.iface 174 v) xT 145 true).run Tryd.prog w = .ok (.tuple #[.nilIface, .bool false]) w := run_typeAssert_lacksB Tryd.underlying145 (by kernel_rfl) (by kernel_rfl) v xT w
theorem noUnwrap (v : Value) (xT : TypeId) (w : World) : (Instr.typeAssert (.iface 174 v) xT 148 true).run Tryd.prog w = .ok (.tuple #[.nilIface, .bool false]) w := run_typeAssert_lacksB Tryd.underlying148 (by kernel_rfl) (by kernel_rfl) v xT w
theorem noUnwraps (v : Value) (xT : TypeId) (w : World) : (Instr.typeAssert (.iface 174 v) xT 150 true).run Tryd.prog w = .ok (.tuple #[.nilIface, .bool false]) w := run_typeAssert_lacksB Tryd.underlying150 (by kernel_rfl) (by kernel_rfl) v xT w
theorem same (a : Addr) (w : World) :
    Calls Tryd.prog 84 #[.iface 174 (.pointer (some a)), .iface 174 (.pointer (some a))] w fun e w' => e = .returned (.bool true) ∧ w' = w := by
  obtain ⟨i, hi, hcmp⟩ := Option.map_eq_some_iff.1 compI
  obtain ⟨j, hj, hjs⟩ := Option.map_eq_some_iff.1 sizeI
  have hT := @run_callFunc_extern Tryd.prog 102 _ ReflectliteType.typeOf Tryd.func102 (by kernel_rfl) (by kernel_rfl) (by kernel_rfl) (by kernel_rfl)
  obtain ⟨F, hF, cT⟩ := comparableE
  have hC := @run_callFunc_extern Tryd.prog 145 _ F Tryd.func145 (by kernel_rfl) (by kernel_rfl) (by kernel_rfl) hF
  have tT := typeOfE
  have mR := methodC
  have heq := run_eql_iface_ptr_same (P := Tryd.prog) w a Tryd.underlying74 Tryd.underlying174 hi hcmp hj
  go_enter Tryd.func84, Tryd.ntmps84
  go_wp2
  refine wp_loop_rounds 1 ?_
  rw [rounds_succ]
  go_wp2
  go_ret
  exact ⟨rfl, rfl⟩
theorem other (a b : Addr) (ca cb : Array Value) (ta tb : TypeId) (w : World) (hne : a ≠ b) (ha : w.heap[a.block]? = some (.cells ca ta (0, 0))) (hb : w.heap[b.block]? = some (.cells cb tb (0, 0))) :
    Calls Tryd.prog 84 #[.iface 174 (.pointer (some a)), .iface 174 (.pointer (some b))] w fun e w' => e = .returned (.bool false) ∧ w' = w := by
  obtain ⟨i, hi, hcmp⟩ := Option.map_eq_some_iff.1 compI
  obtain ⟨j, hj, hjs⟩ := Option.map_eq_some_iff.1 sizeI
  have hT := @run_callFunc_extern Tryd.prog 102 _ ReflectliteType.typeOf Tryd.func102 (by kernel_rfl) (by kernel_rfl) (by kernel_rfl) (by kernel_rfl)
  obtain ⟨F, hF, cT⟩ := comparableE
  have hC := @run_callFunc_extern Tryd.prog 145 _ F Tryd.func145 (by kernel_rfl) (by kernel_rfl) (by kernel_rfl) hF
  have tT := typeOfE
  have mR := methodC
  have nE := noIs
  have uE := noUnwrap
  have vE := noUnwraps
  have heq := run_eql_iface_ptr_other (P := Tryd.prog) w Tryd.underlying74 Tryd.underlying174 hi hcmp hj (by rw [hjs]; decide) hne ha hb
  go_enter Tryd.func84, Tryd.ntmps84
  go_wp2
  refine wp_loop_rounds 1 ?_
  rw [rounds_succ]
  go_wp2
  go_ret
  exact ⟨rfl, rfl⟩
end WIs
end Go.Proofs.YtjfnmfnjlacbeaaDoor

/- The program's six errors, each its own; what treeCode says of each. -/
namespace Go.Proofs.YtjfnmfnjlacbeaaDoor
open Go.RowKit
namespace WIs
/-- The six errors: where each lies, and that no two are one. -/
structure Six (w : World) (x : Nat → Addr) : Prop where
  c0 : w.cell? ⟨0, 0, none⟩ = some (.iface 174 (.pointer (some (x 0))))
  c1 : w.cell? ⟨1, 0, none⟩ = some (.iface 174 (.pointer (some (x 1))))
  c2 : w.cell? ⟨2, 0, none⟩ = some (.iface 174 (.pointer (some (x 2))))
  c3 : w.cell? ⟨3, 0, none⟩ = some (.iface 174 (.pointer (some (x 3))))
  c4 : w.cell? ⟨4, 0, none⟩ = some (.iface 174 (.pointer (some (x 4))))
  c5 : w.cell? ⟨5, 0, none⟩ = some (.iface 174 (.pointer (some (x 5))))
  row : ∀ k, k < 6 → ∃ c t, w.heap[(x k).block]? = some (.cells c t (0, 0))
  apart : ∀ i j, i < 6 → j < 6 → i ≠ j → x i ≠ x j
theorem Six.call {w w' : World} {x : Nat → Addr} (h : Six w x) (b : Below w.heap.size w w') : Six w' x :=
  ⟨(b.cell (p := ⟨_, 0, none⟩) (World.block_lt_of_cell? w ⟨_, 0, none⟩ h.c0)).trans h.c0, (b.cell (p := ⟨_, 0, none⟩) (World.block_lt_of_cell? w ⟨_, 0, none⟩ h.c1)).trans h.c1, (b.cell (p := ⟨_, 0, none⟩) (World.block_lt_of_cell? w ⟨_, 0, none⟩ h.c2)).trans h.c2, (b.cell (p := ⟨_, 0, none⟩) (World.block_lt_of_cell? w ⟨_, 0, none⟩ h.c3)).trans h.c3, (b.cell (p := ⟨_, 0, none⟩) (World.block_lt_of_cell? w ⟨_, 0, none⟩ h.c4)).trans h.c4, (b.cell (p := ⟨_, 0, none⟩) (World.block_lt_of_cell? w ⟨_, 0, none⟩ h.c5)).trans h.c5,
    fun k hk => by
      obtain ⟨c, t, hr⟩ := h.row k hk
      exact ⟨c, t, (b.block _ (Array.getElem?_eq_some_iff.1 hr).1).trans hr⟩, h.apart⟩
theorem Six.errs {w : World} {x : Nat → Addr} (h : Six w x) : WNodesI.Errs w 174 174 174 (.pointer (some (x 1))) (.pointer (some (x 2))) (.pointer (some (x 3))) := ⟨h.c1, h.c2, h.c3⟩
/-- errors.Is between two of the six. -/
theorem Six.other {w : World} {x : Nat → Addr} (h : Six w x) (i j : Nat) (hi : i < 6) (hj : j < 6) (hij : i ≠ j) :
    Calls Tryd.prog 84 #[.iface 174 (.pointer (some (x i))), .iface 174 (.pointer (some (x j)))] w fun e w' => e = .returned (.bool false) ∧ w' = w := by
  obtain ⟨c1, t1, h1⟩ := h.row i hi
  obtain ⟨c2, t2, h2⟩ := h.row j hj
  exact WIs.other (x i) (x j) c1 c2 t1 t2 w (h.apart i j hi hj hij) h1 h2
/-- The code of the k-th. -/
def codeOf : Nat → Int
  | 0 => 2
  | 1 => 1
  | 2 => 6
  | 3 => 12
  | 4 => 11
  | _ => 9
set_option maxRecDepth 100000 in
set_option maxHeartbeats 400000 in
theorem code0 (x : Nat → Addr) (w : World) (h : Six w x) :
    Calls Tryd.prog 54 #[.iface 174 (.pointer (some (x 0)))] w fun e w' => e = .returned (.int .i64 2) ∧ w' = w := by
  have k0 := h.c0
  have k2 := h.c2
  have k3 := h.c3
  have k4 := h.c4
  have k5 := h.c5
  have H := hide h
  clear h
  go_enter Tryd.func54, Tryd.ntmps54
  go_wp2_with fail
  refine (WIs.same (x 0) _).mono ?_
  rintro e w1 ⟨rfl, rfl⟩
  go_wp2
  go_ret
  exact ⟨rfl, rfl⟩
set_option maxRecDepth 100000 in
set_option maxHeartbeats 400000 in
theorem code1 (x : Nat → Addr) (w : World) (h : Six w x) :
    Calls Tryd.prog 54 #[.iface 174 (.pointer (some (x 1)))] w fun e w' => e = .returned (.int .i64 1) ∧ w' = w := by
  have k0 := h.c0
  have k2 := h.c2
  have k3 := h.c3
  have k4 := h.c4
  have k5 := h.c5
  have H := hide h
  clear h
  go_enter Tryd.func54, Tryd.ntmps54
  go_wp2_with fail
  refine ((unhide H).other 1 0 (by decide) (by decide) (by decide)).mono ?_
  rintro e w1 ⟨rfl, rfl⟩
  go_wp2_with fail
  refine ((unhide H).other 1 2 (by decide) (by decide) (by decide)).mono ?_
  rintro e w3 ⟨rfl, rfl⟩
  go_wp2_with fail
  refine ((unhide H).other 1 3 (by decide) (by decide) (by decide)).mono ?_
  rintro e w4 ⟨rfl, rfl⟩
  go_wp2_with fail
  refine ((unhide H).other 1 4 (by decide) (by decide) (by decide)).mono ?_
  rintro e w5 ⟨rfl, rfl⟩
  go_wp2_with fail
  refine ((unhide H).other 1 5 (by decide) (by decide) (by decide)).mono ?_
  rintro e w6 ⟨rfl, rfl⟩
  go_wp2
  go_ret
  exact ⟨rfl, rfl⟩
set_option maxRecDepth 100000 in
set_option maxHeartbeats 400000 in
theorem code2 (x : Nat → Addr) (w : World) (h : Six w x) :
    Calls Tryd.prog 54 #[.iface 174 (.pointer (some (x 2)))] w fun e w' => e = .returned (.int .i64 6) ∧ w' = w := by
  have k0 := h.c0
  have k2 := h.c2
  have k3 := h.c3
  have k4 := h.c4
  have k5 := h.c5
  have H := hide h
  clear h
  go_enter Tryd.func54, Tryd.ntmps54
  go_wp2_with fail
  refine ((unhide H).other 2 0 (by decide) (by decide) (by decide)).mono ?_
  rintro e w1 ⟨rfl, rfl⟩
  go_wp2_with fail
  refine (WIs.same (x 2) _).mono ?_
  rintro e w1 ⟨rfl, rfl⟩
  go_wp2
  go_ret
  exact ⟨rfl, rfl⟩
set_option maxRecDepth 100000 in
set_option maxHeartbeats 400000 in
theorem code3 (x : Nat → Addr) (w : World) (h : Six w x) :
    Calls Tryd.prog 54 #[.iface 174 (.pointer (some (x 3)))] w fun e w' => e = .returned (.int .i64 12) ∧ w' = w := by
  have k0 := h.c0
  have k2 := h.c2
  have k3 := h.c3
  have k4 := h.c4
  have k5 := h.c5
  have H := hide h
  clear h
  go_enter Tryd.func54, Tryd.ntmps54
  go_wp2_with fail
  refine ((unhide H).other 3 0 (by decide) (by decide) (by decide)).mono ?_
  rintro e w1 ⟨rfl, rfl⟩
  go_wp2_with fail
  refine ((unhide H).other 3 2 (by decide) (by decide) (by decide)).mono ?_
  rintro e w3 ⟨rfl, rfl⟩
  go_wp2_with fail
  refine (WIs.same (x 3) _).mono ?_
  rintro e w1 ⟨rfl, rfl⟩
  go_wp2
  go_ret
  exact ⟨rfl, rfl⟩
set_option maxRecDepth 100000 in
set_option maxHeartbeats 400000 in
theorem code4 (x : Nat → Addr) (w : World) (h : Six w x) :
    Calls Tryd.prog 54 #[.iface 174 (.pointer (some (x 4)))] w fun e w' => e = .returned (.int .i64 11) ∧ w' = w := by
  have k0 := h.c0
  have k2 := h.c2
  have k3 := h.c3
  have k4 := h.c4
  have k5 := h.c5
  have H := hide h
  clear h
  go_enter Tryd.func54, Tryd.ntmps54
  go_wp2_with fail
  refine ((unhide H).other 4 0 (by decide) (by decide) (by decide)).mono ?_
  rintro e w1 ⟨rfl, rfl⟩
  go_wp2_with fail
  refine ((unhide H).other 4 2 (by decide) (by decide) (by decide)).mono ?_
  rintro e w3 ⟨rfl, rfl⟩
  go_wp2_with fail
  refine ((unhide H).other 4 3 (by decide) (by decide) (by decide)).mono ?_
  rintro e w4 ⟨rfl, rfl⟩
  go_wp2_with fail
  refine (WIs.same (x 4) _).mono ?_
  rintro e w1 ⟨rfl, rfl⟩
  go_wp2
  go_ret
  exact ⟨rfl, rfl⟩
set_option maxRecDepth 100000 in
set_option maxHeartbeats 400000 in
theorem code5 (x : Nat → Addr) (w : World) (h : Six w x) :
    Calls Tryd.prog 54 #[.iface 174 (.pointer (some (x 5)))] w fun e w' => e = .returned (.int .i64 9) ∧ w' = w := by
  have k0 := h.c0
  have k2 := h.c2
  have k3 := h.c3
  have k4 := h.c4
  have k5 := h.c5
  have H := hide h
  clear h
  go_enter Tryd.func54, Tryd.ntmps54
  go_wp2_with fail
  refine ((unhide H).other 5 0 (by decide) (by decide) (by decide)).mono ?_
  rintro e w1 ⟨rfl, rfl⟩
  go_wp2_with fail
  refine ((unhide H).other 5 2 (by decide) (by decide) (by decide)).mono ?_
  rintro e w3 ⟨rfl, rfl⟩
  go_wp2_with fail
  refine ((unhide H).other 5 3 (by decide) (by decide) (by decide)).mono ?_
  rintro e w4 ⟨rfl, rfl⟩
  go_wp2_with fail
  refine ((unhide H).other 5 4 (by decide) (by decide) (by decide)).mono ?_
  rintro e w5 ⟨rfl, rfl⟩
  go_wp2_with fail
  refine (WIs.same (x 5) _).mono ?_
  rintro e w1 ⟨rfl, rfl⟩
  go_wp2
  go_ret
  exact ⟨rfl, rfl⟩
end WIs
end Go.Proofs.YtjfnmfnjlacbeaaDoor

/- 'm[k]' at nodes, where there is none. -/
namespace Go.Proofs.YtjfnmfnjlacbeaaDoor
open Go.RowKit Go.Maps
end Go.Proofs.YtjfnmfnjlacbeaaDoor

