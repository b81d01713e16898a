/- Several texts of one claim in one file: WPanicR, WChange, WPlainT. -/
import Derived.Test.YtkfpfckmjgjanabDoorProg
import Derived.Test.YtkfpfckmjgjanabDoorG04
import Derived.Test.YtkfpfckmjgjanabDoorG17
import Derived.Defers
import Derived.Recover
import Derived.Test.YtkfpfckmjgjanabDoorG25
import Derived.Test.YtkfpfckmjgjanabDoorWNodesJ
/- What is refused by a panic: refuseIf, refusedCode; how the work of a change ends. -/
namespace Go.Proofs.YtkfpfckmjgjanabDoor
open Go.RowKit
namespace WPanic
/-- What a change panics with. -/
abbrev pnc (c : Int) : List PanicEntry := [{ v := .iface 155 (.agg #[.int .i64 c]), recovered := false }]
set_option maxRecDepth 100000 in
theorem refuse_no (c : Int) (w : World) : Calls Tryd.prog 94 #[.bool false, .int .i64 c] w fun e w' => e = .returned (.tuple #[]) ∧ w' = w := by
  go_enter Tryd.func94, Tryd.ntmps94
  go_wp2
  go_end0
  exact ⟨rfl, rfl⟩
set_option maxRecDepth 100000 in
theorem refuse_yes (c : Int) (w : World) : Calls Tryd.prog 94 #[.bool true, .int .i64 c] w fun e w' => e = .panicked (pnc c) ∧ w' = w := by
  go_enter Tryd.func94, Tryd.ntmps94
  go_wp2
  exact ⟨rfl, rfl, rfl⟩
set_option maxRecDepth 100000 in
theorem code_any (c : Int) (w : World) : Calls Tryd.prog 114 #[.iface 155 (.agg #[.int .i64 c])] w fun e w' => e = .returned (.int .i64 c) ∧ w' = w.alloc (.cells #[.int .i64 c] 155) := by
  have hta : ∀ w : World, (Instr.typeAssert (.iface 155 (.agg #[.int .i64 c])) 20 155 true).run Tryd.prog w = .ok (.tuple #[.agg #[.int .i64 c], .bool true]) w := fun _ => by kernel_rfl
  go_enter Tryd.func114, Tryd.ntmps114
  go_wp2
  go_ret
  exact ⟨rfl, rfl⟩
/-- How the work of a change ends: with a tree of its own, or with a panic that tells its code. -/
structure Ends (W w' : World) (e : Ending) (c : Int) (O : List Pl.Nd) : Prop where
  out : (c = 0 ∧ ∃ v, e = .returned (.agg #[v]) ∧ Mem.ownN w' W.heap.size v O) ∨ (c ≠ 0 ∧ O = [] ∧ e = .panicked (pnc c))
  bel : Below W.heap.size W w'
end WPanic
end Go.Proofs.YtkfpfckmjgjanabDoor

/- A change: isLong; what is asked for. -/
namespace Go.Proofs.YtkfpfckmjgjanabDoor
open Go.RowKit
namespace WPanic
/-- A change's value: the node that is asked for, and what is done to a plain tree and to a leaf. -/
abbrev chg (n : Pl.Nd) (Fp Fl : FuncId) : Array Value := #[.string n.path, .int .i64 n.kind, .string n.data, .int .i64 n.time, .int .i64 n.mark, .func (.func Fp) #[] #[], .func (.func Fl) #[] #[]]
set_option linter.unusedSimpArgs false in
set_option maxRecDepth 100000 in
set_option maxHeartbeats 1000000 in
theorem long_no (n : Pl.Nd) (Fp Fl : FuncId) (w : World) (h1 : n.path.size ≤ 8000) (h2 : n.data.size ≤ 8000) :
    Calls Tryd.prog 95 #[.agg (chg n Fp Fl)] w fun e w' => e = .returned (.bool false) ∧ Below w.heap.size w w' := by
  have b0 : Below w.heap.size w (w.alloc (.cells (chg n Fp Fl) 105)) := (Below.refl _ _).alloc (Nat.le_refl _) _
  have t1 : ¬ (8000 : Int) < (n.path.size : Int) := by omega
  have t2 : ¬ (8000 : Int) < (n.data.size : Int) := by omega
  go_enter Tryd.func95, Tryd.ntmps95
  go_wp2
  go_ret
  exact ⟨rfl, b0⟩
set_option linter.unusedSimpArgs false in
set_option maxRecDepth 100000 in
set_option maxHeartbeats 1000000 in
theorem long_yes (n : Pl.Nd) (Fp Fl : FuncId) (w : World) (h : ¬ (n.path.size ≤ 8000 ∧ n.data.size ≤ 8000)) :
    Calls Tryd.prog 95 #[.agg (chg n Fp Fl)] w fun e w' => e = .returned (.bool true) ∧ Below w.heap.size w w' := by
  have b0 : Below w.heap.size w (w.alloc (.cells (chg n Fp Fl) 105)) := (Below.refl _ _).alloc (Nat.le_refl _) _
  by_cases t1 : (8000 : Int) < (n.path.size : Int)
  · go_enter Tryd.func95, Tryd.ntmps95
    go_wp2
    go_ret
    exact ⟨rfl, b0⟩
  · have t2 : (8000 : Int) < (n.data.size : Int) := by omega
    go_enter Tryd.func95, Tryd.ntmps95
    go_wp2
    go_ret
    exact ⟨rfl, b0⟩
end WPanic
end Go.Proofs.YtkfpfckmjgjanabDoor

/- The walks of TreePlain, of the program and of the specification. -/
namespace Go.Proofs.YtkfpfckmjgjanabDoor
open Go.RowKit
namespace Pl
def plainB (L : List Nd) : Bool := treeB L && L.all (fun n => decide (n.mark = 0))
theorem plain_not {L : List Nd} (h : treeB L = false) : plainB L = false := by simp [plainB, h]
theorem plain_bad {L : List Nd} {k : Nat} {n : Nd} (hn : L[k]? = some n) (h : n.mark ≠ 0) : plainB L = false := by
  have : L.all (fun n => decide (n.mark = 0)) = false := by
    rw [List.all_eq_false]
    exact ⟨n, List.mem_of_getElem? hn, by simpa using h⟩
  simp [plainB, this]
theorem plain_good {L : List Nd} (h : ∀ (j : Nat) n, L[j]? = some n → n.mark = 0) : plainB L = treeB L := by
  have : L.all (fun n => decide (n.mark = 0)) = true := by
    rw [List.all_eq_true]
    intro n hn
    obtain ⟨j, hj⟩ := List.mem_iff_getElem?.1 hn
    simpa using h j n hj
  simp [plainB, this]
theorem tree_node {L : List Nd} (h : treeB L = true) {k : Nat} {n : Nd} (hn : L[k]? = some n) : nodeB n = true := by
  simp only [treeB, Bool.and_eq_true] at h
  exact goI_all L _ _ h.2 n (List.mem_of_getElem? hn)
theorem gone_mark {n : Nd} (h : nodeB n = true) (hk : n.kind = 0) : n.mark ≠ 0 := by
  have := (node_bounds h).2.2.2
  simp [kindB, hk] at this
  omega
end Pl
namespace WPlainT
set_option maxRecDepth 100000 in
set_option maxHeartbeats 400000 in
theorem spec_any (a : Option Addr) (cap : Nat) (L : List Pl.Nd) (w : World) (hl : L.length ≤ 1048576) (hv : Mem.isNodes w a L) (hok : ∀ n ∈ L, n.path.size ≤ 1048576 ∧ n.data.size ≤ 1048576) :
    Calls Tryd.prog 59 #[.agg #[.slice a L.length cap]] w fun e w' => e = .returned (.bool (Pl.plainB L)) ∧ Below w.heap.size w w' := by
  have b0 : Below w.heap.size w (w.alloc (.cells #[.slice a L.length cap] 39)) := (Below.refl _ _).alloc (Nat.le_refl _) _
  have HV := hide (Mem.nodes_call hv b0)
  have hr := hide (WTreeS.right_tree a cap L _ hl (Mem.nodes_call hv b0) hok)
  have E1 : Hid (∀ (k : Nat) n, L[k]? = some n → n.mark ≠ 0 → Pl.plainB L = false) := fun k n => Pl.plain_bad
  have E2 : Hid ((∀ (j : Nat) n, L[j]? = some n → n.mark = 0) → Pl.plainB L = Pl.treeB L) := Pl.plain_good
  generalize Pl.plainB L = R at E1 E2 ⊢
  generalize Pl.treeB L = R2 at E2 hr
  clear hv hok
  go_enter Tryd.func59, Tryd.ntmps59
  go_wp2
  go_loop [3] (fun i => ∃ k : Nat, k ≤ L.length ∧ i = .int .i64 (k : Int) ∧ Hid (∀ (j : Nat) m, j < k → L[j]? = some m → m.mark = 0)) (fun i => L.length - (intOf i).toNat)
  case atStart => exact ⟨0, Nat.zero_le _, rfl, fun j m h => absurd h (by omega)⟩
  case round =>
    obtain ⟨k, hk, rfl, HA⟩ := hrel
    by_cases hlt : k < L.length
    · obtain ⟨n, hn⟩ : ∃ n, L[k]? = some n := ⟨_, List.getElem?_eq_getElem hlt⟩
      obtain ⟨b, o, rfl, hb, -, -, -, -, q4⟩ := (unhide HV) k n hn
      have u1 : (k : Int) < (L.length : Int) := by omega
      have u3 : (0 : Int) ≤ (k : Int) := by omega
      by_cases hm : n.mark = 0
      · have t2 : (n.mark == 0) = true := by simpa using hm
        have HA2 : Hid (∀ (j : Nat) m, j < k + 1 → L[j]? = some m → m.mark = 0) := fun j m hj hm' => by
          rcases Nat.lt_succ_iff_lt_or_eq.1 hj with h'' | rfl
          · exact HA.out j m h'' hm'
          · rw [hn] at hm'; cases hm'; exact hm
        clear hm hn
        go_wp2
        go_round
        case rel => exact ⟨k + 1, by omega, by go_num, HA2⟩
        case measure => simp [intOf]; omega
      · have t2 : (n.mark == 0) = false := by simpa using hm
        have E := hide (unhide E1 k n hn hm)
        clear hm hn
        go_wp2
        go_ret
        exact ⟨ret_bool (unhide E).symm, b0⟩
    · have E := hide (unhide E2 (fun j n h => HA.out j n (by have := (List.getElem?_eq_some_iff.1 h).1; omega) h))
      have u1 : ¬ (k : Int) < (L.length : Int) := by omega
      go_wp2_with fail
      refine (unhide hr).mono ?_
      rintro e w1 ⟨rfl, b1⟩
      have b2 := b0.trans (b1.mono b0.size)
      go_wp2
      go_ret
      exact ⟨ret_bool (unhide E).symm, b2⟩
set_option maxRecDepth 100000 in
set_option maxHeartbeats 400000 in
theorem impl_any (a : Option Addr) (cap : Nat) (L : List Pl.Nd) (w : World) (hl : L.length ≤ 1048576) (hv : Mem.isNodes w a L) (hok : ∀ n ∈ L, n.path.size ≤ 1048576 ∧ n.data.size ≤ 1048576)
    (r1 r2 r3 : TypeId) (x1 x2 x3 : Value) (hE : WNodesI.Errs w r1 r2 r3 x1 x2 x3) :
    Calls Tryd.prog 96 #[.agg #[.slice a L.length cap]] w fun e w' => e = .returned (.bool (Pl.plainB L)) ∧ Below w.heap.size w w' := by
  have b0 : Below w.heap.size w (w.alloc (.cells #[.slice a L.length cap] 39)) := (Below.refl _ _).alloc (Nat.le_refl _) _
  have HV := hide hv
  have hvar := Mem.var_new w [.slice a L.length cap] 39
  have hr := hide (WNodesI.treeRight_any a cap L _ hl (Mem.nodes_call hv b0) hok r1 r2 r3 x1 x2 x3 (hE.call b0))
  have E0 : Hid (Pl.treeB L = false → Pl.plainB L = false) := Pl.plain_not
  have E1 : Hid (∀ (k : Nat) n, L[k]? = some n → n.mark ≠ 0 → Pl.plainB L = false) := fun k n => Pl.plain_bad
  have E2 : Hid ((∀ (j : Nat) n, L[j]? = some n → n.mark = 0) → Pl.plainB L = Pl.treeB L) := Pl.plain_good
  have E3 : Hid (Pl.treeB L = true → ∀ (k : Nat) n, L[k]? = some n → (n.kind = 0 → n.mark ≠ 0) ∧ 0 ≤ n.mark) := fun h k n hn => ⟨fun hk => Pl.gone_mark (Pl.tree_node h hn) hk, (Pl.node_bounds (Pl.tree_node h hn)).2.2.1.1⟩
  generalize Pl.plainB L = R at E0 E1 E2 ⊢
  generalize Pl.treeB L = R2 at E0 E2 E3 hr
  clear hv hok hE
  cases R2
  · have E := hide (unhide E0 rfl)
    go_enter Tryd.func96, Tryd.ntmps96
    go_wp2_with fail
    refine (unhide hr).mono ?_
    rintro e w1 ⟨rfl, b1⟩
    have b2 := b0.trans (b1.mono b0.size)
    clear hvar
    go_wp2
    go_ret
    exact ⟨ret_bool (unhide E).symm, b2⟩
  have E4 := hide (unhide E3 rfl)
  clear E0 E3
  go_enter Tryd.func96, Tryd.ntmps96
  go_wp2_with fail
  refine (unhide hr).mono ?_
  rintro e w1 ⟨rfl, b1⟩
  have b2 := b0.trans (b1.mono b0.size)
  have c0 := (Mem.var_call hvar b1).2 0 _ rfl
  have HV2 := hide (Mem.nodes_call (unhide HV) b2)
  clear hvar hr HV b1 b0
  go_wp2
  go_loopw [11] (fun i wr => ∃ k : Nat, k ≤ L.length ∧ i = .int .i64 (k : Int) ∧ Below w1.heap.size w1 wr ∧ Hid (∀ (j : Nat) m, j < k → L[j]? = some m → m.mark = 0)) (fun i _ => L.length - (intOf i).toNat)
  case atStart => exact ⟨0, Nat.zero_le _, rfl, Below.refl _ _, fun j m h => absurd h (by omega)⟩
  case round =>
    obtain ⟨k, hk, rfl, hbel, HA⟩ := hrel
    by_cases hlt : k < L.length
    · obtain ⟨n, hn⟩ : ∃ n, L[k]? = some n := ⟨_, List.getElem?_eq_getElem hlt⟩
      obtain ⟨b, o, rfl, hb, q0, q1, q2, q3, q4⟩ := (Mem.nodes_call (unhide HV2) hbel) k n hn
      have hb3 : ∀ o, Below w1.heap.size w1 (wr.alloc o) := fun o => hbel.alloc hbel.size o
      have HB3 := hide hb3
      obtain ⟨m1, m2⟩ := unhide E4 k n hn
      have y1 : (k : Int) < (L.length : Int) := by omega
      have y3 : (0 : Int) ≤ (k : Int) := by omega
      clear hb3
      by_cases hm : n.mark = 0
      · have t1 : (n.kind == 0) = false := by simpa using fun e => m1 e hm
        have t2 : ¬ 0 < n.mark := by omega
        have HA2 : Hid (∀ (j : Nat) m, j < k + 1 → L[j]? = some m → m.mark = 0) := fun j m hj hm' => by
          rcases Nat.lt_succ_iff_lt_or_eq.1 hj with h'' | rfl
          · exact HA.out j m h'' hm'
          · rw [hn] at hm'; cases hm'; exact hm
        clear hm hn m1 m2
        go_wp2
        go_roundw
        case rel => exact ⟨k + 1, by omega, by go_num, unhide HB3 _, HA2⟩
        case measure => simp [intOf]; omega
      · have E := hide (unhide E1 k n hn hm)
        have t2 : 0 < n.mark := by omega
        clear hm hn m1 m2
        by_cases hk0 : n.kind = 0
        · have t1 : (n.kind == 0) = true := by simpa using hk0
          clear hk0
          go_wp2
          go_ret
          exact ⟨ret_bool (unhide E).symm, b2.trans ((unhide HB3 _).mono b2.size)⟩
        · have t1 : (n.kind == 0) = false := by simpa using hk0
          clear hk0
          go_wp2
          go_ret
          exact ⟨ret_bool (unhide E).symm, b2.trans ((unhide HB3 _).mono b2.size)⟩
    · have E := hide (unhide E2 (fun j n h => HA.out j n (by have := (List.getElem?_eq_some_iff.1 h).1; omega) h))
      have y1 : ¬ (k : Int) < (L.length : Int) := by omega
      go_wp2
      go_ret
      exact ⟨ret_bool (unhide E).symm, b2.trans (hbel.mono b2.size)⟩
end WPlainT
end Go.Proofs.YtkfpfckmjgjanabDoor

