/- Several texts of one claim in one file: WPanic, WFaced, WL07. -/
import Derived.Test.YtkfpfckmjgjanabDoorG49
import Derived.Test.YtkfpfckmjgjanabDoorWTreeS
import Derived.Test.YtkfpfckmjgjanabDoorG10
import Derived.Test.YtkfpfckmjgjanabDoorG12
/- What is refused by a panic is recovered at the face of a tree: the deferred closure of faced. -/
namespace Go.Proofs.YtkfpfckmjgjanabDoor
open Go.RowKit
namespace WPanic
set_option linter.unusedSimpArgs false in
set_option maxRecDepth 100000 in
theorem catch_panicking (p : Addr) (x c : Int) (w : World) (hc : w.cell? p = some (.int .i64 x)) (hz : w.frozen? p = false) (hlt : p.block < w.heap.size) :
    CallsD Tryd.prog 113 #[.pointer (some p)] (.panicking (pnc c)) w fun e u' w' =>
      e = .returned (.tuple #[]) ∧ u' = .panicking [{ v := .iface 155 (.agg #[.int .i64 c]), recovered := true }] ∧ w' = (w.alloc (.cells #[.int .i64 c] 155)).setCell p (.int .i64 c) := by
  have hc2 : (w.alloc (.cells #[.int .i64 c] 155)).cell? p = some (.int .i64 x) := by rw [((Below.refl w.heap.size w).alloc (Nat.le_refl _) _).cell hlt]; exact hc
  have hz2 : (w.alloc (.cells #[.int .i64 c] 155)).frozen? p = false := by rw [((Below.refl w.heap.size w).alloc (Nat.le_refl _) _).frozen hlt]; exact hz
  have hcode := code_any c w
  have hnq : ∀ w : World, (binOp BinOp.neq 20 (.iface 155 (.agg #[.int .i64 c])) .nilIface).run Tryd.prog w = .ok (.bool true) w := fun _ => by kernel_rfl
  refine callsD_of_wpS Tryd.func113 rfl fun c₀ cs hu => ?_
  apply wpS_seq
  apply wpS_region
  simp [wpOpsS, go_sem, recoverD, hu, Tryd.ntmps113, Exit.thenS]
  refine wpS_of_wp ?_
  generalize hK : (fun e a' w' => bodyPostS _ _ _ _ _ e a' _ w') = K
  simp only [Array.replicate_succ, Array.replicate_zero, List.push_toArray, List.append_toArray, List.nil_append, List.cons_append, kB3, kB4, kB5]
  go_wp2_with fail
  refine hcode.mono ?_
  rintro e w1 ⟨rfl, rfl⟩
  go_wp2_with fail
  subst hK
  simp [bodyPostS, results, Tryd.results113]
set_option maxRecDepth 100000 in
theorem catch_idle (p : Addr) (w : World) :
    CallsD Tryd.prog 113 #[.pointer (some p)] .returning w fun e u' w' => e = .returned (.tuple #[]) ∧ u' = .returning ∧ w' = w := by
  have hnq : ∀ w : World, (binOp BinOp.neq 20 .nilIface .nilIface).run Tryd.prog w = .ok (.bool false) w := fun _ => by kernel_rfl
  refine callsD_of_wpS Tryd.func113 rfl fun c₀ cs hu => ?_
  apply wpS_seq
  apply wpS_region
  simp [wpOpsS, go_sem, recoverD, hu, Tryd.ntmps113, Exit.thenS]
  refine wpS_of_wp ?_
  generalize hK : (fun e a' w' => bodyPostS _ _ _ _ _ e a' _ w') = K
  simp only [Array.replicate_succ, Array.replicate_zero, List.push_toArray, List.append_toArray, List.nil_append, List.cons_append, kB3, kB4, kB5]
  go_wp2_with fail
  subst hK
  cases c₀
  simp_all [bodyPostS, results, Tryd.results113]
end WPanic
end Go.Proofs.YtkfpfckmjgjanabDoor

/- The face of a change in a plain tree: faced, treeFace. -/
namespace Go.Proofs.YtkfpfckmjgjanabDoor
open Go.RowKit
namespace WPanic
set_option linter.unusedSimpArgs false in
set_option maxRecDepth 100000 in
set_option maxHeartbeats 1000000 in
theorem faced_any (K : FuncId) (cap : Array Value) (c : Int) (O : List Pl.Nd) (w : World) (hE : ∀ W, (callFunc K cap).run Tryd.prog W = .ok (.enter K cap) W) (hK : ∀ W, Below w.heap.size w W → Calls Tryd.prog K cap W fun e w' => Ends W w' e c O) :
    Calls Tryd.prog 91 #[.func (.func K) #[] cap] w fun e w' => ∃ v, e = .returned (.tuple #[.agg #[v], .int .i64 c]) ∧ Mem.ownN w' w.heap.size v O ∧ Below w.heap.size w w' := by
  have hmf : ∀ (fn : Fn) (first cap : Array Value) (w : World), (Instr.makeFunc fn first cap).run Tryd.prog w = .ok (.func fn first cap) w := fun _ _ _ _ => rfl
  have b0 : Below w.heap.size w ((w.alloc (.cells #[.slice none 0 0] 39)).alloc (.cells #[.int .i64 0] 2)) := ((Below.refl _ _).alloc (Nat.le_refl _) _).alloc (by simp) _
  have hs : ((w.alloc (.cells #[.slice none 0 0] 39)).alloc (.cells #[.int .i64 0] 2)).heap.size = w.heap.size + 2 := by simp
  have A0 : Mem.Blk ((w.alloc (.cells #[.slice none 0 0] 39)).alloc (.cells #[.int .i64 0] 2)) w.heap.size #[.slice none 0 0] 39 := (Mem.Blk.new _ _ _).alloc _
  have B0 : Mem.Blk ((w.alloc (.cells #[.slice none 0 0] 39)).alloc (.cells #[.int .i64 0] 2)) (w.heap.size + 1) #[.int .i64 0] 2 := Mem.new_two _ _ _
  have hk := hide (hK _ b0)
  go_enter_defers Tryd.func91, Tryd.ntmps91
  go_wp2_with fail
  refine (unhide hk).mono ?_
  rintro e w1 ⟨h, b1⟩
  have bw := b0.trans (b1.mono b0.size)
  have A1 := A0.call b1
  have B1 := B0.call b1
  rw [hs] at h
  clear hk hK
  rcases h with ⟨rfl, v, rfl, own⟩ | ⟨hc, rfl, rfl⟩
  · obtain ⟨a, cp, rfl⟩ := Mem.own_shape own
    have c0 := A1.cell 0
    have f0 := A1.fr 0
    have c1 := B1.cell 0
    have f1 := B1.fr 0
    simp only [kA0, kA1] at c0 c1
    have A2 := (A1.put 0 (.slice a O.length cp)).far ⟨w.heap.size + 1, 0, none⟩ (.int .i64 0) (by show w.heap.size ≠ w.heap.size + 1; omega)
    have B2 := (B1.far ⟨w.heap.size, 0, none⟩ (.slice a O.length cp) (by show w.heap.size + 1 ≠ w.heap.size; omega)).put 0 (.int .i64 0)
    have own2 := Mem.ownN_set (Mem.ownN_set own ⟨w.heap.size, 0, none⟩ (.slice a O.length cp) (by show w.heap.size < w.heap.size + 2; omega)) ⟨w.heap.size + 1, 0, none⟩ (.int .i64 0) (by show w.heap.size + 1 < w.heap.size + 2; omega)
    have b2 := (bw.setCell (p := ⟨w.heap.size, 0, none⟩) (Nat.le_refl _) (.slice a O.length cp)).setCell (p := ⟨w.heap.size + 1, 0, none⟩) (by show w.heap.size ≤ w.heap.size + 1; omega) (.int .i64 0)
    clear A1 B1 own bw b0 A0 B0
    go_wp2_with fail
    refine leaves_cons (f := 113) (args := #[.pointer (some ⟨w.heap.size + 1, 0, none⟩)]) (by simp) (by simp [go_sem]) ?_
    refine (catch_idle ⟨w.heap.size + 1, 0, none⟩ _).mono ?_
    rintro e u' w'' ⟨rfl, rfl, rfl⟩
    have d0 := A2.cell 0
    have d1 := B2.cell 0
    simp only [kA0, kA1, kB3, kB4] at d0 d1
    simp [Leaves, settle, results, Tryd.results91, go_sem, d0, d1]
    exact ⟨Mem.ownN_mono own2 (by omega), b2⟩
  · have d0 := A1.cell 0
    have d1 := B1.cell 0
    have f1 := B1.fr 0
    simp only [kA0, kA1] at d0 d1
    have hlt := B1.lt
    go_wp2_with fail
    refine leaves_cons (f := 113) (args := #[.pointer (some ⟨w.heap.size + 1, 0, none⟩)]) (by simp) (by simp [go_sem]) ?_
    refine (catch_panicking ⟨w.heap.size + 1, 0, none⟩ 0 c _ d1 f1 hlt).mono ?_
    rintro e u' w'' ⟨rfl, rfl, rfl⟩
    have A2 := (A1.alloc (.cells #[.int .i64 c] 155)).far ⟨w.heap.size + 1, 0, none⟩ (.int .i64 c) (by show w.heap.size ≠ w.heap.size + 1; omega)
    have B2 := (B1.alloc (.cells #[.int .i64 c] 155)).put 0 (.int .i64 c)
    have d0 := A2.cell 0
    have d1 := B2.cell 0
    simp only [kA0, kA1, kB3, kB4] at d0 d1
    simp [Leaves, settle, results, Tryd.results91, go_sem, d0, d1]
    exact ⟨Mem.ownN_nil _ _, (bw.alloc bw.size _).setCell (by show w.heap.size ≤ w.heap.size + 1; omega) _⟩
set_option linter.unusedSimpArgs false in
set_option maxRecDepth 100000 in
set_option maxHeartbeats 1000000 in
theorem treeFace_any (K : FuncId) (cap : Array Value) (c : Int) (O : List Pl.Nd) (w : World) (hE : ∀ W, (callFunc K cap).run Tryd.prog W = .ok (.enter K cap) W) (hK : ∀ W, Below w.heap.size w W → Calls Tryd.prog K cap W fun e w' => Ends W w' e c O) :
    Calls Tryd.prog 64 #[.func (.func K) #[] cap] w fun e w' => ∃ v, e = .returned (.agg #[v, .int .i64 c]) ∧ Mem.ownN w' w.heap.size v O ∧ Below w.heap.size w w' := by
  have b0 : Below w.heap.size w (w.alloc (.cells #[.slice none 0 0, .int .i64 0] 41)) := (Below.refl _ _).alloc (Nat.le_refl _) _
  have hs : (w.alloc (.cells #[.slice none 0 0, .int .i64 0] 41)).heap.size = w.heap.size + 1 := by simp
  have A0 : Mem.Blk (w.alloc (.cells #[.slice none 0 0, .int .i64 0] 41)) w.heap.size #[.slice none 0 0, .int .i64 0] 41 := Mem.Blk.new _ _ _
  have hk := hide (faced_any K cap c O _ hE (fun W b => hK W (b0.trans (b.mono b0.size))))
  clear hK
  go_enter Tryd.func64, Tryd.ntmps64
  go_wp2_with fail
  refine (unhide hk).mono ?_
  rintro e w1 ⟨v, rfl, own, b1⟩
  obtain ⟨a, cp, rfl⟩ := Mem.own_shape own
  rw [hs] at own
  have b2 : Below w1.heap.size w1 (w1.alloc (.cells #[.slice a O.length cp] 39)) := (Below.refl _ _).alloc (Nat.le_refl _) _
  have A2 := (A0.call b1).call b2
  have V2 : Mem.Blk (w1.alloc (.cells #[.slice a O.length cp] 39)) w1.heap.size #[.slice a O.length cp] 39 := Mem.Blk.new _ _ _
  have bw := (b0.trans (b1.mono b0.size)).trans (b2.mono (b0.trans (b1.mono b0.size)).size)
  have own2 := Mem.ownN_call own b2
  have c0 := A2.cell 0
  have c1 := A2.cell 1
  have f0 := A2.fr 0
  have f1 := A2.fr 1
  have e0 := V2.cell 0
  simp only [kA0, kA1, kA2] at c0 c1 e0
  clear hk b0 b1 b2 A0 own
  go_wp2
  refine bodyPost_ret (v := .agg #[.slice a O.length cp, .int .i64 c]) (by simp [results, Tryd.results64, go_sem, c0, c1]) rfl ⟨.slice a O.length cp, rfl, ?_, ?_⟩
  · exact Mem.ownN_mono (Mem.ownN_set (Mem.ownN_set own2 _ _ (by show w.heap.size < w.heap.size + 1; omega)) _ _ (by show w.heap.size < w.heap.size + 1; omega)) (by omega)
  · exact (bw.setCell (Nat.le_refl _) _).setCell (Nat.le_refl _) _
end WPanic
end Go.Proofs.YtkfpfckmjgjanabDoor

/- The specification's l07Path; what l03At tells of a tree. -/
namespace Go.Proofs.YtkfpfckmjgjanabDoor
open Go.RowKit
namespace Pl
/-- A right path that is not the root. -/
def wayB (p : ByteArray) : Bool := decide (p.size ≠ 0) && pathB p
end Pl
namespace WPanic
theorem at_none {L : List Pl.Nd} {p : ByteArray} {r : Int} (h : WTreeS.AtIs L p r) (hr : r < 0) : L.find? (fun m => decide (m.path = p)) = none := by
  rcases h.out with ⟨k, n, h1, _, _⟩ | ⟨_, h2⟩
  · omega
  · exact h2
theorem at_some {L : List Pl.Nd} {p : ByteArray} {r : Int} (h : WTreeS.AtIs L p r) (hr : ¬ r < 0) : L.find? (fun m => decide (m.path = p)) ≠ none := by
  rcases h.out with ⟨k, n, _, _, h3⟩ | ⟨h1, _⟩
  · rw [h3]; simp
  · omega
set_option linter.unusedSimpArgs false in
set_option maxRecDepth 100000 in
theorem l07path_any (p : ByteArray) (w : World) (hp : p.size ≤ 1048576) :
    Calls Tryd.prog 60 #[.string p] w fun e w' => e = .returned (.bool (Pl.wayB p)) ∧ Below w.heap.size w w' := by
  have hr := hide (fun W => WPathS.right_one p W hp)
  by_cases hs : p.size = 0
  · have t1 : p.toList.isEmpty = true := by rw [Pl.empty_list]; simpa [Pl.by_nil] using hs
    rw [show Pl.wayB p = false by simp [Pl.wayB, hs]]
    go_enter Tryd.func60, Tryd.ntmps60
    go_wp2
    go_ret
    exact ⟨rfl, Below.refl _ _⟩
  · have t1 : p.toList.isEmpty = false := by rw [Pl.empty_list]; simpa [Pl.by_nil] using hs
    rw [show Pl.wayB p = Pl.pathB p by simp [Pl.wayB, hs]]
    go_enter Tryd.func60, Tryd.ntmps60
    go_wp2_with fail
    refine (unhide hr _).mono ?_
    rintro e w1 ⟨rfl, b1⟩
    go_wp2
    go_ret
    exact ⟨rfl, b1⟩
end WPanic
end Go.Proofs.YtkfpfckmjgjanabDoor

