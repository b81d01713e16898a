/- 'FnExactVfsList' stands, as a tied card: for every input the law returns true, and each argument reads afterwards as it read before; the listed package-level errors are tied to the program's text. No condition beyond the statement's own. -/
import Derived.Test.YtbomeifgfalmdaaGreatDoorLVfsList
import Derived.Test.YtbomeifgfalmdaaGreatDoorTie
import Derived.Test.YtbomeifgfalmdaaGreatDoorCards
import Derived.Stop.LaidErr
import Derived.OpenVars
import Derived.LaidMore
namespace Go.Proofs.YtbomeifgfalmdaaGreatDoor
open Go.ChangeShapes Go.WideShapes Go.ChangeAt Go.RowKit
open Go.ChangeMaps (open_string shut_string)
namespace fnExactVfsList
theorem own : ownKnob Tryz.prog.godebug = none := by kernel_rfl
theorem laidOut : laidOutB Tryz.prog = true := by kernel_rfl
theorem star : ("*errors.errorString" : String) = "*" ++ "errors.errorString" := by decide
theorem rowE (u : TypeId) (h : Tryz.prog.typeName? 3 u = some "*errors.errorString") : u = 305 :=
  typeName_ptr_named (nm := "errors.errorString") (by rw [← star]; kernel_rfl) (by kernel_rfl) (by decide) u (by rw [← star]; exact h)
theorem cellsE : Tryz.prog.cellsOf 328 = 1 := by kernel_rfl
theorem cellsS : Tryz.prog.cellsOf 9 = 1 := by kernel_rfl
theorem g0 : Tryz.prog.globalNamed "loop.example/g00449/impl.errTooLong" = some 2 := by kernel_rfl
theorem t0 : (Tryz.prog.globals[2]?).map (·.type) = some 69 := by kernel_rfl
theorem g1 : Tryz.prog.globalNamed "loop.example/g00449/impl.errNotRight" = some 3 := by kernel_rfl
theorem t1 : (Tryz.prog.globals[3]?).map (·.type) = some 69 := by kernel_rfl
theorem g2 : Tryz.prog.globalNamed "loop.example/g00449/impl.errNoNode" = some 4 := by kernel_rfl
theorem t2 : (Tryz.prog.globals[4]?).map (·.type) = some 69 := by kernel_rfl
theorem g3 : Tryz.prog.globalNamed "loop.example/g00449/impl.errNoDir" = some 5 := by kernel_rfl
theorem t3 : (Tryz.prog.globals[5]?).map (·.type) = some 69 := by kernel_rfl
theorem et : Tryz.prog.globalNamed "errors.errorType" = some 1 := by kernel_rfl
theorem rt : (Tryz.prog.cutTypes.find? (·.1 == "internal/reflectlite.rtype")).map (·.2) = some 210 := by kernel_rfl
theorem oneRow : ((List.range 339).filter fun t => Tryz.prog.rowNamed t [101, 114, 114, 111, 114]) = [69] := by kernel_rfl
theorem size : Tryz.prog.types.size = 339 := by kernel_rfl
theorem gc : Tryz.prog.globalNamed "loop.example/g00449/impl.reasonCodes" = some 0 := by kernel_rfl
theorem tc : (Tryz.prog.globals[0]?).map (·.type) = some 160 := by kernel_rfl
theorem zd2 : Tryz.prog.cellsOf 2 = 1 := by kernel_rfl
/-- What the condition gives a walk: the variables' cells; each holds an error that is not nil. -/
theorem handle_of {W : World} (h : handlesMet Tryz.prog [("errors.errorType", Rows.laid_errors_errorType)] W) : W.cell? ⟨1, 0, none⟩ = some (.iface 210 (.agg #[.pointer (some ⟨6, 69, none⟩)])) := by
  obtain ⟨name, u, ty, e1, e2, e3, e4, e5⟩ := h _ (List.mem_singleton.2 rfl)
  have en : name = [101, 114, 114, 111, 114] := (Option.some.inj e1).symm
  subst en
  obtain rfl := Option.some.inj (rt.symm.trans e2)
  have hm : ty ∈ (List.range 339).filter fun t => Tryz.prog.rowNamed t [101, 114, 114, 111, 114] := List.mem_filter.2 ⟨List.mem_range.2 (by rw [← size]; exact e3), e4⟩
  rw [oneRow] at hm
  obtain rfl := List.mem_singleton.1 hm
  have hh : typeHandle Tryz.prog 69 = .pointer (some ⟨6, 69, none⟩) := by kernel_rfl
  rw [hh] at e5
  simpa using World.var?_cell et e5 0
theorem parts {W : World} (h : laidMetH Tryz.prog [("errors.errorType", Rows.laid_errors_errorType), ("loop.example/g00449/impl.errTooLong", Rows.laid_loop_example_g00449_impl_errTooLong), ("loop.example/g00449/impl.errNotRight", Rows.laid_loop_example_g00449_impl_errNotRight), ("loop.example/g00449/impl.errNoNode", Rows.laid_loop_example_g00449_impl_errNoNode), ("loop.example/g00449/impl.errNoDir", Rows.laid_loop_example_g00449_impl_errNoDir), ("loop.example/g00449/impl.reasonCodes", Rows.laid_loop_example_g00449_impl_reasonCodes)] W) : laidMet Tryz.prog [("loop.example/g00449/impl.errTooLong", Rows.laid_loop_example_g00449_impl_errTooLong), ("loop.example/g00449/impl.errNotRight", Rows.laid_loop_example_g00449_impl_errNotRight), ("loop.example/g00449/impl.errNoNode", Rows.laid_loop_example_g00449_impl_errNoNode), ("loop.example/g00449/impl.errNoDir", Rows.laid_loop_example_g00449_impl_errNoDir), ("loop.example/g00449/impl.reasonCodes", Rows.laid_loop_example_g00449_impl_reasonCodes)] W ∧ handlesMet Tryz.prog [("errors.errorType", Rows.laid_errors_errorType)] W := h
theorem of_laid {W : World} (h : laidMet Tryz.prog [("loop.example/g00449/impl.errTooLong", Rows.laid_loop_example_g00449_impl_errTooLong), ("loop.example/g00449/impl.errNotRight", Rows.laid_loop_example_g00449_impl_errNotRight), ("loop.example/g00449/impl.errNoNode", Rows.laid_loop_example_g00449_impl_errNoNode), ("loop.example/g00449/impl.errNoDir", Rows.laid_loop_example_g00449_impl_errNoDir), ("loop.example/g00449/impl.reasonCodes", Rows.laid_loop_example_g00449_impl_reasonCodes)] W) : ∃ x0 x1 x2 x3 : Addr, W.cell? ⟨2, 0, none⟩ = some (.iface 305 (.pointer (some x0))) ∧ W.cell? ⟨3, 0, none⟩ = some (.iface 305 (.pointer (some x1))) ∧ W.cell? ⟨4, 0, none⟩ = some (.iface 305 (.pointer (some x2))) ∧ W.cell? ⟨5, 0, none⟩ = some (.iface 305 (.pointer (some x3))) ∧ ∀ (r : Nat) t, WSpI.codes[r]? = some t → W.cell? ⟨0, r, none⟩ = some (.int .i64 t) := by
  obtain ⟨x0, s0, v0, -⟩ := laid_sentinel h g0 t0 Tryz.underlying69 rowE Tryz.underlying305 Tryz.underlying328 rfl rfl Tryz.underlying9 cellsE cellsS
  have h0 := h.tail
  obtain ⟨x1, s1, v1, -⟩ := laid_sentinel h0 g1 t1 Tryz.underlying69 rowE Tryz.underlying305 Tryz.underlying328 rfl rfl Tryz.underlying9 cellsE cellsS
  have h1 := h0.tail
  obtain ⟨x2, s2, v2, -⟩ := laid_sentinel h1 g2 t2 Tryz.underlying69 rowE Tryz.underlying305 Tryz.underlying328 rfl rfl Tryz.underlying9 cellsE cellsS
  have h2 := h1.tail
  obtain ⟨x3, s3, v3, -⟩ := laid_sentinel h2 g3 t3 Tryz.underlying69 rowE Tryz.underlying305 Tryz.underlying328 rfl rfl Tryz.underlying9 cellsE cellsS
  refine ⟨x0, x1, x2, x3, by simpa using World.var?_cell g0 v0 0, by simpa using World.var?_cell g1 v1 0, by simpa using World.var?_cell g2 v2 0, by simpa using World.var?_cell g3 v3 0, fun r t ht => ?_⟩
  have hr : r < 9 := (List.getElem?_eq_some_iff.1 ht).1
  have hc := h2.tail
  obtain ⟨ps, ⟨g, ty, cs, fuel, p, q, hg, hty, hv, hd, _, _⟩, _, _⟩ := hc
  obtain rfl := Option.some.inj (gc.symm.trans hg)
  obtain rfl := Option.some.inj (tc.symm.trans hty)
  obtain ⟨xs, m, _, ex, _, hl, hel⟩ := DataW.trod_array Tryz.underlying160 hd
  have hE := hel r hr
  rw [zd2, Nat.mul_one, List.getElem?_eq_getElem (by omega)] at hE
  obtain ⟨z, e1, e2, _⟩ := DataW.trod_int Tryz.underlying2 hE
  have e3 : (xs.map (·.1)) = WSpI.codes.map fun b => (DataW.lit (.int .i64 b) : DataW Unit) := (DataW.agg.inj (Prod.mk.inj ex).1).symm
  have e4 : (xs.map (·.1))[r]? = (WSpI.codes.map fun b => (DataW.lit (.int .i64 b) : DataW Unit))[r]? := by rw [e3]
  rw [List.getElem?_map, List.getElem?_map, List.getElem?_eq_getElem (by omega : r < xs.length), ht, e2] at e4
  have hz : z = t := by simpa using e4
  rw [World.var?_cell hg hv r, ← hz]
  have : cs.toList[r]? = some (.int .i64 z) := by
    have h0 : ((cs.toList.drop r).take 1)[0]? = some (.int .i64 z) := by rw [e1]; rfl
    simpa using h0
  simpa using this
theorem door_met (os : Os) (args : Array Value) : laidMetH Tryz.prog [("errors.errorType", Rows.laid_errors_errorType), ("loop.example/g00449/impl.errTooLong", Rows.laid_loop_example_g00449_impl_errTooLong), ("loop.example/g00449/impl.errNotRight", Rows.laid_loop_example_g00449_impl_errNotRight), ("loop.example/g00449/impl.errNoNode", Rows.laid_loop_example_g00449_impl_errNoNode), ("loop.example/g00449/impl.errNoDir", Rows.laid_loop_example_g00449_impl_errNoDir), ("loop.example/g00449/impl.reasonCodes", Rows.laid_loop_example_g00449_impl_reasonCodes)] ((World.doorLaid Tryz.prog 400 os).forCall (fun _ _ => 0) ⟨#[], args, []⟩).memory :=
  laidMetH_of_parts3 (fuel := 8) (laidMet_of_run' 8 (by kernel_rfl) (by kernel_rfl)) (by kernel_rfl) (by kernel_rfl)
set_option linter.unusedVariables false in
set_option maxRecDepth 100000 in
theorem lifted (os : Os) (started : os.Started) (H : Type) (enc : TypeId × Value → H) :
    ReturnsInHanded {} Tryz.checked os 3 .any (fun w args => (Rows.fnExactVfsListSpec.pre enc Tryz.prog Tryz.f3 [] false w args ∧ laidMetH Tryz.prog [("errors.errorType", Rows.laid_errors_errorType), ("loop.example/g00449/impl.errTooLong", Rows.laid_loop_example_g00449_impl_errTooLong), ("loop.example/g00449/impl.errNotRight", Rows.laid_loop_example_g00449_impl_errNotRight), ("loop.example/g00449/impl.errNoNode", Rows.laid_loop_example_g00449_impl_errNoNode), ("loop.example/g00449/impl.errNoDir", Rows.laid_loop_example_g00449_impl_errNoDir), ("loop.example/g00449/impl.reasonCodes", Rows.laid_loop_example_g00449_impl_reasonCodes)] w) ∧ sizedMet enc Tryz.prog Tryz.f3 (OpenSpec.ofChange Rows.fnExactVfsListSpec) false w args)
      (Rows.fnExactVfsListSpec.post enc Tryz.prog Tryz.f3 false true false false) := by
  refine returnsInHanded_of_change_and (C := Tryz.checked) (X := fun w _ => laidMetH Tryz.prog [("errors.errorType", Rows.laid_errors_errorType), ("loop.example/g00449/impl.errTooLong", Rows.laid_loop_example_g00449_impl_errTooLong), ("loop.example/g00449/impl.errNotRight", Rows.laid_loop_example_g00449_impl_errNotRight), ("loop.example/g00449/impl.errNoNode", Rows.laid_loop_example_g00449_impl_errNoNode), ("loop.example/g00449/impl.errNoDir", Rows.laid_loop_example_g00449_impl_errNoDir), ("loop.example/g00449/impl.reasonCodes", Rows.laid_loop_example_g00449_impl_reasonCodes)] w) (fun _ _ _ hh h => h.of_heap hh) own started (by kernel_rfl) Tryz.func3
    (ChangeSpec.witness_shaped (enc := enc) (C := Tryz.checked) (os := os) (X := fun w _ => laidMetH Tryz.prog [("errors.errorType", Rows.laid_errors_errorType), ("loop.example/g00449/impl.errTooLong", Rows.laid_loop_example_g00449_impl_errTooLong), ("loop.example/g00449/impl.errNotRight", Rows.laid_loop_example_g00449_impl_errNotRight), ("loop.example/g00449/impl.errNoNode", Rows.laid_loop_example_g00449_impl_errNoNode), ("loop.example/g00449/impl.errNoDir", Rows.laid_loop_example_g00449_impl_errNoDir), ("loop.example/g00449/impl.reasonCodes", Rows.laid_loop_example_g00449_impl_reasonCodes)] w) false (World.doorLaid Tryz.prog 400 os) #[.agg #[.slice none 0 0, .slice none 0 0, .slice none 0 0, .int .i64 0], .string ByteArray.empty] 8 rfl (World.shaped_of_RefB (by kernel_rfl) (by kernel_rfl)) (by kernel_rfl) (by kernel_rfl) (by kernel_rfl) (door_met os _)) ?_
  intro W base args ds gs before hval0 hW _ _ hL _
  have hval : ∀ (j : Nat) t v, Tryz.f3.params[j]? = some t → args[j]? = some v → Value.okWide Tryz.prog W .any base t v := hval0
  have hW' := hW
  obtain ⟨p, q, hA0, hV0, rfl, hfz, hnd⟩ := hW
  have hA : DataW.TrodAll enc Tryz.prog W 0 (fun _ => true) true Tryz.f3.params.toList args.toList ds p := hA0
  have hV : DataW.TrodVars enc Tryz.prog W (fun _ => true) ["loop.example/g00449/impl.errTooLong", "loop.example/g00449/impl.errNotRight", "loop.example/g00449/impl.errNoNode", "loop.example/g00449/impl.errNoDir", "loop.example/g00449/impl.reasonCodes"] gs q := hV0
  rw [Tryz.params3] at hA hval
  obtain ⟨v0, vs0, d0, ds0, p0, q0, hargs, rfl, rfl, h0, r0⟩ := trodAll_cons hA
  obtain ⟨v1, vs1, d1, ds1, p1, q1, rfl, rfl, rfl, h1, r1⟩ := trodAll_cons r0
  obtain ⟨rfl, rfl, rfl⟩ := trodAll_nil r1
  obtain rfl : args = #[v0, v1] := by cases args; simp_all
  have k0 := h0
  have lt0 : ∀ x ∈ p0, x.block < W.heap.size := by obtain ⟨m, hm⟩ := k0; exact DataW.trod_lt m _ _ _ hm
  obtain ⟨a0, rfl, w0⟩ := OpenSp.space_arg (hval 0 26 v0 rfl rfl) h0
  have k1 := h1
  have lt1 : ∀ x ∈ p1, x.block < W.heap.size := by obtain ⟨m, hm⟩ := k1; exact DataW.trod_lt m _ _ _ hm
  obtain ⟨a1, rfl, -, -, w1⟩ := open_string Tryz.underlying9 (hval 1 9 v1 rfl rfl) h1
  obtain ⟨x0, x1, x2, x3, c0, c1, c2, c3, hcod⟩ := of_laid (parts hL).1
  clear hA0 hval0 hV0
  obtain ⟨e0, e1, e2, e3, e4, rfl⟩ : ∃ e0 e1 e2 e3 e4, gs = [e0, e1, e2, e3, e4] := by
    match gs, hV with
    | [a0, a1, a2, a3, a4], _ => exact ⟨a0, a1, a2, a3, a4, rfl⟩
  refine (walk a0 a1 W w0 w1 _ _ _ _ _ _ _ _ ⟨c0, c1, c2, c3⟩ hcod (handle_of (parts hL).2)).mono fun e W' ⟨he, bel⟩ => ?_
  subst he
  exact ⟨_, rfl, _, _, _, [], _, _, hW', trodAll_mk1 (shut_bool Tryz.underlying4 _), (trodAll_cons_mk (Below.trod laidOut (by kernel_rfl) (of_decide_eq_true (by kernel_rfl)) k0 bel lt0) (trodAll_cons_mk (Below.trod laidOut (by kernel_rfl) (of_decide_eq_true (by kernel_rfl)) k1 bel lt1) trodAll_mk0)), Below.trodVars laidOut bel (by kernel_rfl) hV, bel.frame _, fun h => by cases h⟩
end fnExactVfsList

theorem fnExactVfsList_row : Rows.FnExactVfsListSaid :=
  OpenClaim.holds_of_wide 3 Tryz.f3 rfl rfl rfl rfl rfl rfl rfl ⟨rfl, rfl, rfl, rfl, rfl⟩ rfl rfl rfl rfl rfl (by kernel_rfl) Tryz.func3 (by kernel_rfl)
    (of_decide_eq_true (by kernel_rfl)) (by unfold Func.isWrapper; first | (rw [if_pos (by decide +kernel)]; kernel_rfl) | (rw [if_neg (by decide +kernel)]; exact ⟨rfl, rfl⟩))
    (fun os started H enc _ => fnExactVfsList.lifted os started H enc)
theorem fnExactVfsList_holds : Rows.FnExactVfsListCardSaid :=
  Claim7.holds_tied_plain_at .later [] [.handle, .sentinel, .sentinel, .sentinel, .sentinel, .data] true Rows.fnExactVfsListCard.stood.harness Rows.fnExactVfsListCard.stood.looks
    fnExactVfsList_row (fun _ h => by cases h) (by kernel_rfl) (fun _ h => by cases h) fnExactVfsList_row_tie rfl ⟨rfl, rfl⟩ (by kernel_rfl) rfl
    (fun f fn hf hfn => by
      obtain rfl : f = 3 := Option.some.inj ((show Tryz.prog.funcNamed "loop.example/g00449/laws.FnExactVfsList" = some 3 by kernel_rfl).symm.trans hf) |>.symm
      obtain rfl : fn = Tryz.f3 := (Option.some.inj (Tryz.func3.symm.trans hfn)).symm
      exact ⟨by kernel_rfl, fun j t ht => by
        rw [Tryz.params3] at ht
        have hm : t ∈ [26, 9] := by simpa using Array.mem_of_getElem? ht
        have hall : ([26, 9].all fun u => !Tryz.prog.wantsStandIn u) = true := by kernel_rfl
        exact (show Tryz.prog.wantsStandIn t = false by simpa using List.all_eq_true.1 hall t hm)⟩)
    (by kernel_rfl)
#print axioms fnExactVfsList_holds
end Go.Proofs.YtbomeifgfalmdaaGreatDoor
