/- 'FnExactMoveFile' stands, as a tied card: for every input the law returns true, and each argument reads afterwards as it read before; the listed package-level errors are tied to the program's text. No condition beyond the statement's own. -/
import Derived.Test.YthdhhcgopfgcbaaGreatDoorLMoveFile
import Derived.Test.YthdhhcgopfgcbaaGreatDoorTie
import Derived.Test.YthdhhcgopfgcbaaGreatDoorCards
import Derived.OpenVars
import Derived.LaidMore
import Derived.Stop.LaidTwo
namespace Go.Proofs.YthdhhcgopfgcbaaGreatDoor
open Go.ChangeShapes Go.WideShapes Go.ChangeAt Go.RowKit
open Go.ChangeMaps (open_string shut_string)
namespace fnExactMoveFile
theorem own : ownKnob Tryz.prog.godebug = none := by kernel_rfl
theorem laidOut : laidOutB Tryz.prog = true := by kernel_rfl
theorem star : ("*errors.errorString" : String) = "*" ++ "errors.errorString" := by decide
theorem rowE (u : TypeId) (h : Tryz.prog.typeName? 3 u = some "*errors.errorString") : u = 242 :=
  typeName_ptr_named (nm := "errors.errorString") (by rw [← star]; kernel_rfl) (by kernel_rfl) (by decide) u (by rw [← star]; exact h)
theorem cellsE : Tryz.prog.cellsOf 267 = 1 := by kernel_rfl
theorem cellsS : Tryz.prog.cellsOf 9 = 1 := by kernel_rfl
theorem g0 : Tryz.prog.globalNamed "loop.example/g00449/impl.errTooLong" = some 0 := by kernel_rfl
theorem t0 : (Tryz.prog.globals[0]?).map (·.type) = some 85 := by kernel_rfl
theorem g1 : Tryz.prog.globalNamed "loop.example/g00449/impl.errNotRight" = some 1 := by kernel_rfl
theorem t1 : (Tryz.prog.globals[1]?).map (·.type) = some 85 := by kernel_rfl
theorem g2 : Tryz.prog.globalNamed "loop.example/g00449/impl.errNoNode" = some 2 := by kernel_rfl
theorem t2 : (Tryz.prog.globals[2]?).map (·.type) = some 85 := by kernel_rfl
theorem g3 : Tryz.prog.globalNamed "loop.example/g00449/impl.errNoDir" = some 3 := by kernel_rfl
theorem t3 : (Tryz.prog.globals[3]?).map (·.type) = some 85 := by kernel_rfl
theorem g4 : Tryz.prog.globalNamed "loop.example/g00449/impl.errNodesUnder" = some 4 := by kernel_rfl
theorem t4 : (Tryz.prog.globals[4]?).map (·.type) = some 85 := by kernel_rfl
theorem g5 : Tryz.prog.globalNamed "loop.example/g00449/impl.errNoRoom" = some 5 := by kernel_rfl
theorem t5 : (Tryz.prog.globals[5]?).map (·.type) = some 85 := by kernel_rfl
def textOf : DataW Unit → List UInt8 | .iface _ (.ptr (.agg [.lit (.string t)])) => t | _ => []
def texts : Nat → List UInt8 | 0 => textOf Rows.laid_loop_example_g00449_impl_errTooLong | 1 => textOf Rows.laid_loop_example_g00449_impl_errNotRight | 2 => textOf Rows.laid_loop_example_g00449_impl_errNoNode | 3 => textOf Rows.laid_loop_example_g00449_impl_errNoDir | 4 => textOf Rows.laid_loop_example_g00449_impl_errNodesUnder | _ => textOf Rows.laid_loop_example_g00449_impl_errNoRoom
theorem texts_apart : ∀ i, i < 6 → ∀ j, j < 6 → i ≠ j → texts i ≠ texts j := by decide
theorem of_laid {W : World} (h : laidMetH Tryz.prog [("loop.example/g00449/impl.errTooLong", Rows.laid_loop_example_g00449_impl_errTooLong), ("loop.example/g00449/impl.errNotRight", Rows.laid_loop_example_g00449_impl_errNotRight), ("loop.example/g00449/impl.errNoNode", Rows.laid_loop_example_g00449_impl_errNoNode), ("loop.example/g00449/impl.errNoDir", Rows.laid_loop_example_g00449_impl_errNoDir), ("loop.example/g00449/impl.errNodesUnder", Rows.laid_loop_example_g00449_impl_errNodesUnder), ("loop.example/g00449/impl.errNoRoom", Rows.laid_loop_example_g00449_impl_errNoRoom)] W) : ∃ x : Nat → Addr, WIs.Six W x := by
  rw [MakeChecks.laidMetH_plain _ _ _ (by kernel_rfl)] at h
  obtain ⟨x0, x1, s0, s1, c0, c1, u0, u1, v0, v1, k0, l0, -, k1, l1, -, -, b0, b1⟩ := laid_sentinels2 h g0 t0 g1 t1 Tryz.underlying85 rowE Tryz.underlying242 Tryz.underlying267 rfl rfl Tryz.underlying9 cellsE cellsS
  have h0 := h.tail.tail
  obtain ⟨x2, x3, s2, s3, c2, c3, u2, u3, v2, v3, k2, l2, -, k3, l3, -, -, b2, b3⟩ := laid_sentinels2 h0 g2 t2 g3 t3 Tryz.underlying85 rowE Tryz.underlying242 Tryz.underlying267 rfl rfl Tryz.underlying9 cellsE cellsS
  have h2 := h0.tail.tail
  obtain ⟨x4, x5, s4, s5, c4, c5, u4, u5, v4, v5, k4, l4, -, k5, l5, -, -, b4, b5⟩ := laid_sentinels2 h2 g4 t4 g5 t5 Tryz.underlying85 rowE Tryz.underlying242 Tryz.underlying267 rfl rfl Tryz.underlying9 cellsE cellsS
  let x : Nat → Addr := fun k => match k with | 0 => x0 | 1 => x1 | 2 => x2 | 3 => x3 | 4 => x4 | _ => x5
  have hT : ∀ k, k < 6 → ∃ s, W.cell? (x k) = some (.string s) ∧ s.data.toList = texts k := fun k hk => match k, hk with
    | 0, _ => ⟨s0, k0, l0⟩
    | 1, _ => ⟨s1, k1, l1⟩
    | 2, _ => ⟨s2, k2, l2⟩
    | 3, _ => ⟨s3, k3, l3⟩
    | 4, _ => ⟨s4, k4, l4⟩
    | 5, _ => ⟨s5, k5, l5⟩
  refine ⟨x, (show W.cell? ⟨0, 0, none⟩ = some (.iface 242 (.pointer (some x0))) from by simpa using World.var?_cell g0 v0 0), (show W.cell? ⟨1, 0, none⟩ = some (.iface 242 (.pointer (some x1))) from by simpa using World.var?_cell g1 v1 0), (show W.cell? ⟨2, 0, none⟩ = some (.iface 242 (.pointer (some x2))) from by simpa using World.var?_cell g2 v2 0), (show W.cell? ⟨3, 0, none⟩ = some (.iface 242 (.pointer (some x3))) from by simpa using World.var?_cell g3 v3 0), (show W.cell? ⟨4, 0, none⟩ = some (.iface 242 (.pointer (some x4))) from by simpa using World.var?_cell g4 v4 0), (show W.cell? ⟨5, 0, none⟩ = some (.iface 242 (.pointer (some x5))) from by simpa using World.var?_cell g5 v5 0), fun k hk => match k, hk with
    | 0, _ => ⟨_, _, b0⟩
    | 1, _ => ⟨_, _, b1⟩
    | 2, _ => ⟨_, _, b2⟩
    | 3, _ => ⟨_, _, b3⟩
    | 4, _ => ⟨_, _, b4⟩
    | 5, _ => ⟨_, _, b5⟩,
    fun i j hi hj hij e => ?_⟩
  obtain ⟨s, hs, ht⟩ := hT i hi
  obtain ⟨s', hs', ht'⟩ := hT j hj
  rw [e] at hs
  obtain rfl : s = s' := by injection (Option.some.inj (hs.symm.trans hs'))
  exact texts_apart i hi j hj hij (ht.symm.trans ht')
theorem door_met (os : Os) (args : Array Value) : laidMetH Tryz.prog [("loop.example/g00449/impl.errTooLong", Rows.laid_loop_example_g00449_impl_errTooLong), ("loop.example/g00449/impl.errNotRight", Rows.laid_loop_example_g00449_impl_errNotRight), ("loop.example/g00449/impl.errNoNode", Rows.laid_loop_example_g00449_impl_errNoNode), ("loop.example/g00449/impl.errNoDir", Rows.laid_loop_example_g00449_impl_errNoDir), ("loop.example/g00449/impl.errNodesUnder", Rows.laid_loop_example_g00449_impl_errNodesUnder), ("loop.example/g00449/impl.errNoRoom", Rows.laid_loop_example_g00449_impl_errNoRoom)] ((World.doorLaid Tryz.prog 400 os).forCall (fun _ _ => 0) ⟨#[], args, []⟩).memory :=
  laidMetH_of_parts3 (fuel := 8) (laidMet_of_run' 8 (by kernel_rfl) (by kernel_rfl)) (by kernel_rfl) (by kernel_rfl)
set_option linter.unusedVariables false in
set_option maxRecDepth 100000 in
theorem lifted (os : Os) (started : os.Started) (H : Type) (enc : TypeId × Value → H) :
    ReturnsInHanded {} Tryz.checked os 3 .any (fun w args => (Rows.fnExactMoveFileSpec.pre enc Tryz.prog Tryz.f3 [] false w args ∧ laidMetH Tryz.prog [("loop.example/g00449/impl.errTooLong", Rows.laid_loop_example_g00449_impl_errTooLong), ("loop.example/g00449/impl.errNotRight", Rows.laid_loop_example_g00449_impl_errNotRight), ("loop.example/g00449/impl.errNoNode", Rows.laid_loop_example_g00449_impl_errNoNode), ("loop.example/g00449/impl.errNoDir", Rows.laid_loop_example_g00449_impl_errNoDir), ("loop.example/g00449/impl.errNodesUnder", Rows.laid_loop_example_g00449_impl_errNodesUnder), ("loop.example/g00449/impl.errNoRoom", Rows.laid_loop_example_g00449_impl_errNoRoom)] w) ∧ sizedMet enc Tryz.prog Tryz.f3 (OpenSpec.ofChange Rows.fnExactMoveFileSpec) false w args)
      (Rows.fnExactMoveFileSpec.post enc Tryz.prog Tryz.f3 false true false false) := by
  refine returnsInHanded_of_change_and (C := Tryz.checked) (X := fun w _ => laidMetH Tryz.prog [("loop.example/g00449/impl.errTooLong", Rows.laid_loop_example_g00449_impl_errTooLong), ("loop.example/g00449/impl.errNotRight", Rows.laid_loop_example_g00449_impl_errNotRight), ("loop.example/g00449/impl.errNoNode", Rows.laid_loop_example_g00449_impl_errNoNode), ("loop.example/g00449/impl.errNoDir", Rows.laid_loop_example_g00449_impl_errNoDir), ("loop.example/g00449/impl.errNodesUnder", Rows.laid_loop_example_g00449_impl_errNodesUnder), ("loop.example/g00449/impl.errNoRoom", Rows.laid_loop_example_g00449_impl_errNoRoom)] w) (fun _ _ _ hh h => h.of_heap hh) own started (by kernel_rfl) Tryz.func3
    (ChangeSpec.witness_shaped (enc := enc) (C := Tryz.checked) (os := os) (X := fun w _ => laidMetH Tryz.prog [("loop.example/g00449/impl.errTooLong", Rows.laid_loop_example_g00449_impl_errTooLong), ("loop.example/g00449/impl.errNotRight", Rows.laid_loop_example_g00449_impl_errNotRight), ("loop.example/g00449/impl.errNoNode", Rows.laid_loop_example_g00449_impl_errNoNode), ("loop.example/g00449/impl.errNoDir", Rows.laid_loop_example_g00449_impl_errNoDir), ("loop.example/g00449/impl.errNodesUnder", Rows.laid_loop_example_g00449_impl_errNodesUnder), ("loop.example/g00449/impl.errNoRoom", Rows.laid_loop_example_g00449_impl_errNoRoom)] w) false (World.doorLaid Tryz.prog 400 os) #[.slice none 0 0, .string ByteArray.empty, .string ByteArray.empty] 8 rfl (World.shaped_of_RefB (by kernel_rfl) (by kernel_rfl)) (by kernel_rfl) (by kernel_rfl) (by kernel_rfl) (door_met os _)) ?_
  intro W base args ds gs before hval0 hW _ _ hL _
  have hval : ∀ (j : Nat) t v, Tryz.f3.params[j]? = some t → args[j]? = some v → Value.okWide Tryz.prog W .any base t v := hval0
  have hW' := hW
  obtain ⟨p, q, hA0, hV0, rfl, hfz, hnd⟩ := hW
  have hA : DataW.TrodAll enc Tryz.prog W 0 (fun _ => true) true Tryz.f3.params.toList args.toList ds p := hA0
  have hV : DataW.TrodVars enc Tryz.prog W (fun _ => true) ["loop.example/g00449/impl.errTooLong", "loop.example/g00449/impl.errNotRight", "loop.example/g00449/impl.errNoNode", "loop.example/g00449/impl.errNoDir", "loop.example/g00449/impl.errNodesUnder", "loop.example/g00449/impl.errNoRoom"] gs q := hV0
  rw [Tryz.params3] at hA hval
  obtain ⟨v0, vs0, d0, ds0, p0, q0, hargs, rfl, rfl, h0, r0⟩ := trodAll_cons hA
  obtain ⟨v1, vs1, d1, ds1, p1, q1, rfl, rfl, rfl, h1, r1⟩ := trodAll_cons r0
  obtain ⟨v2, vs2, d2, ds2, p2, q2, rfl, rfl, rfl, h2, r2⟩ := trodAll_cons r1
  obtain ⟨rfl, rfl, rfl⟩ := trodAll_nil r2
  obtain rfl : args = #[v0, v1, v2] := by cases args; simp_all
  have k0 := h0
  have lt0 : ∀ x ∈ p0, x.block < W.heap.size := by obtain ⟨m, hm⟩ := k0; exact DataW.trod_lt m _ _ _ hm
  obtain ⟨a0, L0, cap0, rfl, w0⟩ := OpenI.items_arg (hval 0 22 v0 rfl rfl) h0
  have k1 := h1
  have lt1 : ∀ x ∈ p1, x.block < W.heap.size := by obtain ⟨m, hm⟩ := k1; exact DataW.trod_lt m _ _ _ hm
  obtain ⟨a1, rfl, -, -, w1⟩ := open_string Tryz.underlying9 (hval 1 9 v1 rfl rfl) h1
  have k2 := h2
  have lt2 : ∀ x ∈ p2, x.block < W.heap.size := by obtain ⟨m, hm⟩ := k2; exact DataW.trod_lt m _ _ _ hm
  obtain ⟨a2, rfl, -, -, w2⟩ := open_string Tryz.underlying9 (hval 2 9 v2 rfl rfl) h2
  obtain ⟨x, hx⟩ := of_laid hL
  clear hA0 hval0 hV0
  obtain ⟨e0, e1, e2, e3, e4, e5, rfl⟩ : ∃ e0 e1 e2 e3 e4 e5, gs = [e0, e1, e2, e3, e4, e5] := by
    match gs, hV with
    | [a0, a1, a2, a3, a4, a5], _ => exact ⟨a0, a1, a2, a3, a4, a5, rfl⟩
  refine (walk a0 L0 cap0 a1 a2 W w0 x hx).mono fun e W' ⟨he, bel⟩ => ?_
  subst he
  exact ⟨_, rfl, _, _, _, [], _, _, hW', trodAll_mk1 (shut_bool Tryz.underlying4 _), (trodAll_cons_mk (Below.trod laidOut (by kernel_rfl) (of_decide_eq_true (by kernel_rfl)) k0 bel lt0) (trodAll_cons_mk (Below.trod laidOut (by kernel_rfl) (of_decide_eq_true (by kernel_rfl)) k1 bel lt1) (trodAll_cons_mk (Below.trod laidOut (by kernel_rfl) (of_decide_eq_true (by kernel_rfl)) k2 bel lt2) trodAll_mk0))), Below.trodVars laidOut bel (by kernel_rfl) hV, bel.frame _, fun h => by cases h⟩
end fnExactMoveFile

theorem fnExactMoveFile_row : Rows.FnExactMoveFileSaid :=
  OpenClaim.holds_of_wide 3 Tryz.f3 rfl rfl rfl rfl rfl rfl rfl ⟨rfl, rfl, rfl, rfl, rfl⟩ rfl rfl rfl rfl rfl (by kernel_rfl) Tryz.func3 (by kernel_rfl)
    (of_decide_eq_true (by kernel_rfl)) (by unfold Func.isWrapper; first | (rw [if_pos (by decide +kernel)]; kernel_rfl) | (rw [if_neg (by decide +kernel)]; exact ⟨rfl, rfl⟩))
    (fun os started H enc _ => fnExactMoveFile.lifted os started H enc)
theorem fnExactMoveFile_holds : Rows.FnExactMoveFileCardSaid :=
  Claim7.holds_tied_plain_at .later [] [.sentinel, .sentinel, .sentinel, .sentinel, .sentinel, .sentinel] true Rows.fnExactMoveFileCard.stood.harness Rows.fnExactMoveFileCard.stood.looks
    fnExactMoveFile_row (fun _ h => by cases h) (by kernel_rfl) (fun _ h => by cases h) fnExactMoveFile_row_tie rfl ⟨rfl, rfl⟩ (by kernel_rfl) rfl
    (fun f fn hf hfn => by
      obtain rfl : f = 3 := Option.some.inj ((show Tryz.prog.funcNamed "loop.example/g00449/laws.FnExactMoveFile" = some 3 by kernel_rfl).symm.trans hf) |>.symm
      obtain rfl : fn = Tryz.f3 := (Option.some.inj (Tryz.func3.symm.trans hfn)).symm
      exact ⟨by kernel_rfl, fun j t ht => by
        rw [Tryz.params3] at ht
        have hm : t ∈ [22, 9, 9] := by simpa using Array.mem_of_getElem? ht
        have hall : ([22, 9, 9].all fun u => !Tryz.prog.wantsStandIn u) = true := by kernel_rfl
        exact (show Tryz.prog.wantsStandIn t = false by simpa using List.all_eq_true.1 hall t hm)⟩)
    (by kernel_rfl)
#print axioms fnExactMoveFile_holds
end Go.Proofs.YthdhhcgopfgcbaaGreatDoor
