/- Several texts of one claim in one file: WPanic, WFaced, WChange, WWriting. -/
import Derived.Test.YtnmdmhokdcmhcabGreatDoorProg
import Derived.Test.YtnmdmhokdcmhcabGreatDoorPartA
import Derived.Defers
import Derived.Recover
import Derived.Laws.EntriesVeiled
/- What is refused by a panic and recovered at the face: refuseIf, refusedCode, faced, treeFace. -/
namespace Go.Proofs.YtnmdmhokdcmhcabGreatDoor
open Go.RowKit
namespace WPanic
/-- What a change panics with. -/
abbrev pnc (c : Int) : List PanicEntry := [{ v := .iface 93 (.agg #[.int .i64 c]), recovered := false }]
set_option maxRecDepth 100000 in
theorem refuse_no (c : Int) (w : World) : Calls Tryz.prog 46 #[.bool false, .int .i64 c] w fun e w' => e = .returned (.tuple #[]) ∧ w' = w := by
  go_enter Tryz.func46, Tryz.ntmps46
  go_wp2
  go_end0
  exact ⟨rfl, rfl⟩
set_option maxRecDepth 100000 in
theorem refuse_yes (c : Int) (w : World) : Calls Tryz.prog 46 #[.bool true, .int .i64 c] w fun e w' => e = .panicked (pnc c) ∧ w' = w := by
  go_enter Tryz.func46, Tryz.ntmps46
  go_wp2
  exact ⟨rfl, rfl, rfl⟩
set_option maxRecDepth 100000 in
theorem code_any (c : Int) (w : World) : Calls Tryz.prog 62 #[.iface 93 (.agg #[.int .i64 c])] w fun e w' => e = .returned (.int .i64 c) ∧ w' = w.alloc (.cells #[.int .i64 c] 93) := by
  have hta : ∀ w : World, (Instr.typeAssert (.iface 93 (.agg #[.int .i64 c])) 20 93 true).run Tryz.prog w = .ok (.tuple #[.agg #[.int .i64 c], .bool true]) w := fun _ => by kernel_rfl
  go_enter Tryz.func62, Tryz.ntmps62
  go_wp2
  go_ret
  exact ⟨rfl, rfl⟩
set_option linter.unusedSimpArgs false in
set_option maxRecDepth 100000 in
theorem catch_panicking (p : Addr) (x c : Int) (w : World) (hc : w.cell? p = some (.int .i64 x)) (hz : w.frozen? p = false) (hlt : p.block < w.heap.size) :
    CallsD Tryz.prog 61 #[.pointer (some p)] (.panicking (pnc c)) w fun e u' w' =>
      e = .returned (.tuple #[]) ∧ u' = .panicking [{ v := .iface 93 (.agg #[.int .i64 c]), recovered := true }] ∧ w' = (w.alloc (.cells #[.int .i64 c] 93)).setCell p (.int .i64 c) := by
  have hc2 : (w.alloc (.cells #[.int .i64 c] 93)).cell? p = some (.int .i64 x) := by rw [((Below.refl w.heap.size w).alloc (Nat.le_refl _) _).cell hlt]; exact hc
  have hz2 : (w.alloc (.cells #[.int .i64 c] 93)).frozen? p = false := by rw [((Below.refl w.heap.size w).alloc (Nat.le_refl _) _).frozen hlt]; exact hz
  have hcode := code_any c w
  have hnq : ∀ w : World, (binOp BinOp.neq 20 (.iface 93 (.agg #[.int .i64 c])) .nilIface).run Tryz.prog w = .ok (.bool true) w := fun _ => by kernel_rfl
  refine callsD_of_wpS Tryz.func61 rfl fun c₀ cs hu => ?_
  apply wpS_seq
  apply wpS_region
  simp [wpOpsS, go_sem, recoverD, hu, Tryz.ntmps61, Exit.thenS]
  refine wpS_of_wp ?_
  generalize hK : (fun e a' w' => bodyPostS _ _ _ _ _ e a' _ w') = K
  simp only [Array.replicate_succ, Array.replicate_zero, List.push_toArray, List.append_toArray, List.nil_append, List.cons_append, List.setIfInBounds_toArray, List.set_cons_zero, List.set_cons_succ]
  go_wp2_with fail
  refine hcode.mono ?_
  rintro e w1 ⟨rfl, rfl⟩
  go_wp2_with fail
  subst hK
  simp [bodyPostS, results, Tryz.results61]
set_option maxRecDepth 100000 in
theorem catch_idle (p : Addr) (w : World) :
    CallsD Tryz.prog 61 #[.pointer (some p)] .returning w fun e u' w' => e = .returned (.tuple #[]) ∧ u' = .returning ∧ w' = w := by
  have hnq : ∀ w : World, (binOp BinOp.neq 20 .nilIface .nilIface).run Tryz.prog w = .ok (.bool false) w := fun _ => by kernel_rfl
  refine callsD_of_wpS Tryz.func61 rfl fun c₀ cs hu => ?_
  apply wpS_seq
  apply wpS_region
  simp [wpOpsS, go_sem, recoverD, hu, Tryz.ntmps61, Exit.thenS]
  refine wpS_of_wp ?_
  generalize hK : (fun e a' w' => bodyPostS _ _ _ _ _ e a' _ w') = K
  simp only [Array.replicate_succ, Array.replicate_zero, List.push_toArray, List.append_toArray, List.nil_append, List.cons_append, List.setIfInBounds_toArray, List.set_cons_zero, List.set_cons_succ]
  go_wp2_with fail
  subst hK
  cases c₀
  simp_all [bodyPostS, results, Tryz.results61]
end WPanic
end Go.Proofs.YtnmdmhokdcmhcabGreatDoor

/- The face of a change in a plain tree: faced, treeFace. -/
namespace Go.Proofs.YtnmdmhokdcmhcabGreatDoor
open Go.RowKit
namespace WPanic
/-- How the work of a change ends: with a tree of its own, or with a panic that tells its code. -/
structure Ends (W w' : World) (e : Ending) (c : Int) (O : List Pl.Nd) : Prop where
  out : (c = 0 ∧ ∃ v, e = .returned (.agg #[v]) ∧ Mem.ownN w' W.heap.size v O) ∨ (c ≠ 0 ∧ O = [] ∧ e = .panicked (pnc c))
  bel : Below W.heap.size W w'
set_option linter.unusedSimpArgs false in
set_option maxRecDepth 100000 in
set_option maxHeartbeats 1000000 in
theorem faced_any (K : FuncId) (cap : Array Value) (c : Int) (O : List Pl.Nd) (w : World) (hE : ∀ W, (callFunc K cap).run Tryz.prog W = .ok (.enter K cap) W) (hK : ∀ W, Below w.heap.size w W → Calls Tryz.prog K cap W fun e w' => Ends W w' e c O) :
    Calls Tryz.prog 42 #[.func (.func K) #[] cap] w fun e w' => ∃ v, e = .returned (.tuple #[.agg #[v], .int .i64 c]) ∧ Mem.ownN w' w.heap.size v O ∧ Below w.heap.size w w' := by
  have hmf : ∀ (fn : Fn) (first cap : Array Value) (w : World), (Instr.makeFunc fn first cap).run Tryz.prog w = .ok (.func fn first cap) w := fun _ _ _ _ => rfl
  have b0 : Below w.heap.size w ((w.alloc (.cells #[.slice none 0 0] 28)).alloc (.cells #[.int .i64 0] 2)) := ((Below.refl _ _).alloc (Nat.le_refl _) _).alloc (by simp) _
  have hs : ((w.alloc (.cells #[.slice none 0 0] 28)).alloc (.cells #[.int .i64 0] 2)).heap.size = w.heap.size + 2 := by simp
  have A0 : Mem.Blk ((w.alloc (.cells #[.slice none 0 0] 28)).alloc (.cells #[.int .i64 0] 2)) w.heap.size #[.slice none 0 0] 28 := (Mem.Blk.new _ _ _).alloc _
  have B0 : Mem.Blk ((w.alloc (.cells #[.slice none 0 0] 28)).alloc (.cells #[.int .i64 0] 2)) (w.heap.size + 1) #[.int .i64 0] 2 := Mem.new_two _ _ _
  have hk := hide (hK _ b0)
  go_enter_defers Tryz.func42, Tryz.ntmps42
  go_wp2_with fail
  refine (unhide hk).mono ?_
  rintro e w1 ⟨h, b1⟩
  have bw := b0.trans (b1.mono b0.size)
  have A1 := A0.call b1
  have B1 := B0.call b1
  rw [hs] at h
  clear hk hK
  rcases h with ⟨rfl, v, rfl, own⟩ | ⟨hc, rfl, rfl⟩
  · obtain ⟨a, cp, rfl⟩ := Mem.own_shape own
    have c0 := A1.cell 0
    have f0 := A1.fr 0
    have c1 := B1.cell 0
    have f1 := B1.fr 0
    simp only [List.getElem?_toArray, List.getElem?_cons_zero] at c0 c1
    have A2 := (A1.put 0 (.slice a O.length cp)).far ⟨w.heap.size + 1, 0, none⟩ (.int .i64 0) (by show w.heap.size ≠ w.heap.size + 1; omega)
    have B2 := (B1.far ⟨w.heap.size, 0, none⟩ (.slice a O.length cp) (by show w.heap.size + 1 ≠ w.heap.size; omega)).put 0 (.int .i64 0)
    have own2 := Mem.ownN_set (Mem.ownN_set own ⟨w.heap.size, 0, none⟩ (.slice a O.length cp) (by show w.heap.size < w.heap.size + 2; omega)) ⟨w.heap.size + 1, 0, none⟩ (.int .i64 0) (by show w.heap.size + 1 < w.heap.size + 2; omega)
    have b2 := (bw.setCell (p := ⟨w.heap.size, 0, none⟩) (Nat.le_refl _) (.slice a O.length cp)).setCell (p := ⟨w.heap.size + 1, 0, none⟩) (by show w.heap.size ≤ w.heap.size + 1; omega) (.int .i64 0)
    clear A1 B1 own bw b0 A0 B0
    go_wp2_with fail
    refine leaves_cons (f := 61) (args := #[.pointer (some ⟨w.heap.size + 1, 0, none⟩)]) (by simp) (by simp [go_sem]) ?_
    refine (catch_idle ⟨w.heap.size + 1, 0, none⟩ _).mono ?_
    rintro e u' w'' ⟨rfl, rfl, rfl⟩
    have d0 := A2.cell 0
    have d1 := B2.cell 0
    simp only [List.getElem?_toArray, List.getElem?_cons_zero, List.setIfInBounds_toArray, List.set_cons_zero] at d0 d1
    simp [Leaves, settle, results, Tryz.results42, go_sem, d0, d1]
    exact ⟨Mem.ownN_mono own2 (by omega), b2⟩
  · have d0 := A1.cell 0
    have d1 := B1.cell 0
    have f1 := B1.fr 0
    simp only [List.getElem?_toArray, List.getElem?_cons_zero] at d0 d1
    have hlt := B1.lt
    go_wp2_with fail
    refine leaves_cons (f := 61) (args := #[.pointer (some ⟨w.heap.size + 1, 0, none⟩)]) (by simp) (by simp [go_sem]) ?_
    refine (catch_panicking ⟨w.heap.size + 1, 0, none⟩ 0 c _ d1 f1 hlt).mono ?_
    rintro e u' w'' ⟨rfl, rfl, rfl⟩
    have A2 := (A1.alloc (.cells #[.int .i64 c] 93)).far ⟨w.heap.size + 1, 0, none⟩ (.int .i64 c) (by show w.heap.size ≠ w.heap.size + 1; omega)
    have B2 := (B1.alloc (.cells #[.int .i64 c] 93)).put 0 (.int .i64 c)
    have d0 := A2.cell 0
    have d1 := B2.cell 0
    simp only [List.getElem?_toArray, List.getElem?_cons_zero, List.setIfInBounds_toArray, List.set_cons_zero] at d0 d1
    simp [Leaves, settle, results, Tryz.results42, go_sem, d0, d1]
    exact ⟨Mem.ownN_nil _ _, (bw.alloc bw.size _).setCell (by show w.heap.size ≤ w.heap.size + 1; omega) _⟩
set_option linter.unusedSimpArgs false in
set_option maxRecDepth 100000 in
set_option maxHeartbeats 1000000 in
theorem treeFace_any (K : FuncId) (cap : Array Value) (c : Int) (O : List Pl.Nd) (w : World) (hE : ∀ W, (callFunc K cap).run Tryz.prog W = .ok (.enter K cap) W) (hK : ∀ W, Below w.heap.size w W → Calls Tryz.prog K cap W fun e w' => Ends W w' e c O) :
    Calls Tryz.prog 23 #[.func (.func K) #[] cap] w fun e w' => ∃ v, e = .returned (.agg #[v, .int .i64 c]) ∧ Mem.ownN w' w.heap.size v O ∧ Below w.heap.size w w' := by
  have b0 : Below w.heap.size w (w.alloc (.cells #[.slice none 0 0, .int .i64 0] 30)) := (Below.refl _ _).alloc (Nat.le_refl _) _
  have hs : (w.alloc (.cells #[.slice none 0 0, .int .i64 0] 30)).heap.size = w.heap.size + 1 := by simp
  have A0 : Mem.Blk (w.alloc (.cells #[.slice none 0 0, .int .i64 0] 30)) w.heap.size #[.slice none 0 0, .int .i64 0] 30 := Mem.Blk.new _ _ _
  have hk := hide (faced_any K cap c O _ hE (fun W b => hK W (b0.trans (b.mono b0.size))))
  clear hK
  go_enter Tryz.func23, Tryz.ntmps23
  go_wp2_with fail
  refine (unhide hk).mono ?_
  rintro e w1 ⟨v, rfl, own, b1⟩
  obtain ⟨a, cp, rfl⟩ := Mem.own_shape own
  rw [hs] at own
  have b2 : Below w1.heap.size w1 (w1.alloc (.cells #[.slice a O.length cp] 28)) := (Below.refl _ _).alloc (Nat.le_refl _) _
  have A2 := (A0.call b1).call b2
  have V2 : Mem.Blk (w1.alloc (.cells #[.slice a O.length cp] 28)) w1.heap.size #[.slice a O.length cp] 28 := Mem.Blk.new _ _ _
  have bw := (b0.trans (b1.mono b0.size)).trans (b2.mono (b0.trans (b1.mono b0.size)).size)
  have own2 := Mem.ownN_call own b2
  have c0 := A2.cell 0
  have c1 := A2.cell 1
  have f0 := A2.fr 0
  have f1 := A2.fr 1
  have e0 := V2.cell 0
  simp only [List.getElem?_toArray, List.getElem?_cons_zero, List.getElem?_cons_succ] at c0 c1 e0
  clear hk b0 b1 b2 A0 own
  go_wp2
  refine bodyPost_ret (v := .agg #[.slice a O.length cp, .int .i64 c]) (by simp [results, Tryz.results23, go_sem, c0, c1]) rfl ⟨.slice a O.length cp, rfl, ?_, ?_⟩
  · exact Mem.ownN_mono (Mem.ownN_set (Mem.ownN_set own2 _ _ (by show w.heap.size < w.heap.size + 1; omega)) _ _ (by show w.heap.size < w.heap.size + 1; omega)) (by omega)
  · exact (bw.setCell (Nat.le_refl _) _).setCell (Nat.le_refl _) _
end WPanic
end Go.Proofs.YtnmdmhokdcmhcabGreatDoor

/- A change: refuseLong; what is asked for. -/
namespace Go.Proofs.YtnmdmhokdcmhcabGreatDoor
open Go.RowKit
namespace WPanic
/-- A change's value: the node that is asked for, and what is done to a plain tree and to a leaf. -/
abbrev chg (n : Pl.Nd) (Fp Fl : FuncId) : Array Value := #[.string n.path, .int .i64 n.kind, .string n.data, .int .i64 n.time, .int .i64 n.mark, .func (.func Fp) #[] #[], .func (.func Fl) #[] #[]]
set_option linter.unusedSimpArgs false in
set_option maxRecDepth 100000 in
set_option maxHeartbeats 1000000 in
theorem long_no (n : Pl.Nd) (Fp Fl : FuncId) (w : World) (h1 : n.path.size ≤ 8000) (h2 : n.data.size ≤ 8000) :
    Calls Tryz.prog 45 #[.agg (chg n Fp Fl)] w fun e w' => e = .returned (.tuple #[]) ∧ Below w.heap.size w w' := by
  have b0 : Below w.heap.size w (w.alloc (.cells (chg n Fp Fl) 53)) := (Below.refl _ _).alloc (Nat.le_refl _) _
  have hr := hide (fun W => refuse_no 2 W)
  have t1 : ¬ (8000 : Int) < (n.path.size : Int) := by omega
  have t2 : ¬ (8000 : Int) < (n.data.size : Int) := by omega
  go_enter Tryz.func45, Tryz.ntmps45
  go_wp2_with fail
  refine (unhide hr _).mono ?_
  rintro e w1 ⟨rfl, rfl⟩
  go_wp2_with fail
  go_end0
  exact ⟨rfl, b0⟩
set_option linter.unusedSimpArgs false in
set_option maxRecDepth 100000 in
set_option maxHeartbeats 1000000 in
theorem long_yes (n : Pl.Nd) (Fp Fl : FuncId) (w : World) (h : ¬ (n.path.size ≤ 8000 ∧ n.data.size ≤ 8000)) :
    Calls Tryz.prog 45 #[.agg (chg n Fp Fl)] w fun e w' => e = .panicked (pnc 2) ∧ Below w.heap.size w w' := by
  have b0 : Below w.heap.size w (w.alloc (.cells (chg n Fp Fl) 53)) := (Below.refl _ _).alloc (Nat.le_refl _) _
  have hr := hide (fun W => refuse_yes 2 W)
  by_cases t1 : (8000 : Int) < (n.path.size : Int)
  · go_enter Tryz.func45, Tryz.ntmps45
    go_wp2_with fail
    refine (unhide hr _).mono ?_
    rintro e w1 ⟨rfl, rfl⟩
    go_wp2_with fail
    exact ⟨rfl, rfl, b0⟩
  · have t2 : (8000 : Int) < (n.data.size : Int) := by omega
    go_enter Tryz.func45, Tryz.ntmps45
    go_wp2_with fail
    refine (unhide hr _).mono ?_
    rintro e w1 ⟨rfl, rfl⟩
    go_wp2_with fail
    exact ⟨rfl, rfl, b0⟩
end WPanic
end Go.Proofs.YtnmdmhokdcmhcabGreatDoor

/- What is asked for: writing. -/
namespace Go.Proofs.YtnmdmhokdcmhcabGreatDoor
open Go.RowKit
namespace WPanic
set_option linter.unusedSimpArgs false in
set_option maxRecDepth 100000 in
theorem writing_any (p d : ByteArray) (t : Int) (w : World) :
    Calls Tryz.prog 31 #[.string p, .string d, .int .i64 t] w fun e w' => e = .returned (.agg (chg ⟨p, 2, d, t, 0⟩ 54 55)) ∧ Below w.heap.size w w' := by
  go_enter Tryz.func31, Tryz.ntmps31
  go_wp2
  refine bodyPost_ret (v := .agg (chg ⟨p, 2, d, t, 0⟩ 54 55)) (by simp [results, Tryz.results31, go_sem]) rfl ⟨rfl, ?_⟩
  repeat first | exact (Below.refl _ _).alloc (Nat.le_refl _) _ | refine Below.setCell ?_ (Nat.le_refl _) _
end WPanic
end Go.Proofs.YtnmdmhokdcmhcabGreatDoor

