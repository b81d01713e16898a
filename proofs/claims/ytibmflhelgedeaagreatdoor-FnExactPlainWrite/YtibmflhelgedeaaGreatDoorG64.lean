/- Several texts of one claim in one file: WPanicR, WChange, WInTree, WMakeFin, WNeed, WPanic, WFaced. -/
import Derived.Test.YtibmflhelgedeaaGreatDoorProg
import Derived.Test.YtibmflhelgedeaaGreatDoorG00
import Derived.Test.YtibmflhelgedeaaGreatDoorG02
import Derived.Defers
import Derived.Recover
import Derived.Test.YtibmflhelgedeaaGreatDoorWPlainT
import Derived.Test.YtibmflhelgedeaaGreatDoorG09
import Derived.Test.YtibmflhelgedeaaGreatDoorPlainCut
import Derived.Laws.EntriesVeiled
import Derived.Test.YtibmflhelgedeaaGreatDoorPlainPutP
/- What is refused by a panic: refuseIf, refusedCode; how the work of a change ends. -/
namespace Go.Proofs.YtibmflhelgedeaaGreatDoor
open Go.RowKit
namespace WPanic
/-- What a change panics with. -/
abbrev pnc (c : Int) : List PanicEntry := [{ v := .iface 211 (.agg #[.int .i64 c]), recovered := false }]
set_option maxRecDepth 100000 in
theorem refuse_no (c : Int) (w : World) : Calls Tryz.prog 161 #[.bool false, .int .i64 c] w fun e w' => e = .returned (.tuple #[]) ∧ w' = w := by
  go_enter Tryz.func161, Tryz.ntmps161
  go_wp2
  go_end0
  exact ⟨rfl, rfl⟩
set_option maxRecDepth 100000 in
theorem refuse_yes (c : Int) (w : World) : Calls Tryz.prog 161 #[.bool true, .int .i64 c] w fun e w' => e = .panicked (pnc c) ∧ w' = w := by
  go_enter Tryz.func161, Tryz.ntmps161
  go_wp2
  exact ⟨rfl, rfl, rfl⟩
set_option maxRecDepth 100000 in
theorem code_any (c : Int) (w : World) : Calls Tryz.prog 182 #[.iface 211 (.agg #[.int .i64 c])] w fun e w' => e = .returned (.int .i64 c) ∧ w' = w.alloc (.cells #[.int .i64 c] 211) := by
  have hta : ∀ w : World, (Instr.typeAssert (.iface 211 (.agg #[.int .i64 c])) 20 211 true).run Tryz.prog w = .ok (.tuple #[.agg #[.int .i64 c], .bool true]) w := fun _ => by kernel_rfl
  go_enter Tryz.func182, Tryz.ntmps182
  go_wp2
  go_ret
  exact ⟨rfl, rfl⟩
/-- How the work of a change ends: with a tree of its own, or with a panic that tells its code. -/
structure Ends (W w' : World) (e : Ending) (c : Int) (O : List Pl.Nd) : Prop where
  out : (c = 0 ∧ ∃ v, e = .returned (.agg #[v]) ∧ Mem.ownN w' W.heap.size v O) ∨ (c ≠ 0 ∧ O = [] ∧ e = .panicked (pnc c))
  bel : Below W.heap.size W w'
end WPanic
end Go.Proofs.YtibmflhelgedeaaGreatDoor

/- A change: isLong; what is asked for. -/
namespace Go.Proofs.YtibmflhelgedeaaGreatDoor
open Go.RowKit
namespace WPanic
/-- A change's value: the node that is asked for, and what is done to a plain tree and to a leaf. -/
abbrev chg (n : Pl.Nd) (Fp Fl : FuncId) : Array Value := #[.string n.path, .int .i64 n.kind, .string n.data, .int .i64 n.time, .int .i64 n.mark, .func (.func Fp) #[] #[], .func (.func Fl) #[] #[]]
set_option linter.unusedSimpArgs false in
set_option maxRecDepth 100000 in
set_option maxHeartbeats 1000000 in
theorem long_no (n : Pl.Nd) (Fp Fl : FuncId) (w : World) (h1 : n.path.size ≤ 8000) (h2 : n.data.size ≤ 8000) :
    Calls Tryz.prog 162 #[.agg (chg n Fp Fl)] w fun e w' => e = .returned (.bool false) ∧ Below w.heap.size w w' := by
  have b0 : Below w.heap.size w (w.alloc (.cells (chg n Fp Fl) 153)) := (Below.refl _ _).alloc (Nat.le_refl _) _
  have t1 : ¬ (8000 : Int) < (n.path.size : Int) := by omega
  have t2 : ¬ (8000 : Int) < (n.data.size : Int) := by omega
  go_enter Tryz.func162, Tryz.ntmps162
  go_wp2
  go_ret
  exact ⟨rfl, b0⟩
set_option linter.unusedSimpArgs false in
set_option maxRecDepth 100000 in
set_option maxHeartbeats 1000000 in
theorem long_yes (n : Pl.Nd) (Fp Fl : FuncId) (w : World) (h : ¬ (n.path.size ≤ 8000 ∧ n.data.size ≤ 8000)) :
    Calls Tryz.prog 162 #[.agg (chg n Fp Fl)] w fun e w' => e = .returned (.bool true) ∧ Below w.heap.size w w' := by
  have b0 : Below w.heap.size w (w.alloc (.cells (chg n Fp Fl) 153)) := (Below.refl _ _).alloc (Nat.le_refl _) _
  by_cases t1 : (8000 : Int) < (n.path.size : Int)
  · go_enter Tryz.func162, Tryz.ntmps162
    go_wp2
    go_ret
    exact ⟨rfl, b0⟩
  · have t2 : (8000 : Int) < (n.data.size : Int) := by omega
    go_enter Tryz.func162, Tryz.ntmps162
    go_wp2
    go_ret
    exact ⟨rfl, b0⟩
end WPanic
end Go.Proofs.YtibmflhelgedeaaGreatDoor

/- A plain tree with a change in it: inTree. -/
namespace Go.Proofs.YtibmflhelgedeaaGreatDoor
open Go.RowKit Go.Maps
namespace Pl
/-- The code of a change in a plain tree, of the code that what it does tells. -/
def chgC (L : List Nd) (n : Nd) (c : Int) : Int := if n.path.size ≤ 8000 ∧ n.data.size ≤ 8000 then (if plainB L = true ∧ nodeB n = true then c else 1) else 2
def chgO (L : List Nd) (n : Nd) (c : Int) (O : List Nd) : List Nd := if chgC L n c = 0 then O else []
theorem plain_tree {L : List Nd} (h : plainB L = true) : treeB L = true := by
  rw [plainB, Bool.and_eq_true] at h
  exact h.1
theorem chgO_len {L : List Nd} {n : Nd} {c : Int} {O : List Nd} {k : Nat} (h : O.length ≤ k) : (chgO L n c O).length ≤ k := by
  unfold chgO
  split
  · exact h
  · exact Nat.zero_le _
end Pl
namespace WPanic
/-- What a change has done to a map of nodes. -/
structure Did (W w' : World) (e : Ending) (B : Nat) (c : Int) (O : List Pl.Nd) : Prop where
  out : (c = 0 ∧ e = .returned (.tuple #[]) ∧ ∃ N D' C, N ≤ 1000 ∧ w'.ownsMap Tryz.prog 9 MapN.elem B N D' ∧ MapN.Reads D' C ∧ C.Pairwise (fun a b => a.path ≠ b.path) ∧ O.Perm C ∧ O.Pairwise (fun a b => Pl.ltP a.path b.path = true) ∧ (∀ n ∈ C, Pl.pathB n.path = true ∧ n.data.size ≤ 1048576)) ∨
    (c ≠ 0 ∧ e = .panicked (pnc c))
  grown : W.grownBy w' (some B)
set_option linter.unusedSimpArgs false in
set_option maxRecDepth 100000 in
set_option maxHeartbeats 2000000 in
theorem inTree_any (n : Pl.Nd) (Fp Fl : FuncId) (a : Option Addr) (cap : Nat) (L : List Pl.Nd) (c : Int) (O : List Pl.Nd) (w : World) (hl : L.length ≤ 1048576) (hv : Mem.isNodes w a L) (hok : ∀ n ∈ L, n.path.size ≤ 1048576 ∧ n.data.size ≤ 1048576)
    (r1 r2 r3 : TypeId) (x1 x2 x3 : Value) (hE : WNodesI.Errs w r1 r2 r3 x1 x2 x3)
    (hF : ∀ B W, (callFunc Fp #[.map (some B), n.val]).run Tryz.prog W = .ok (.enter Fp #[.map (some B), n.val]) W)
    (hP : Pl.plainB L = true → Pl.nodeB n = true → ∀ B W, Below w.heap.size w W → w.heap.size ≤ B → W.ownsMap Tryz.prog 9 MapN.elem B 40 (MapN.mapOf L) → Calls Tryz.prog Fp #[.map (some B), n.val] W fun e w' => Did W w' e B c O) :
    Calls Tryz.prog 126 #[.agg (chg n Fp Fl), .agg #[.slice a L.length cap]] w fun e w' => Ends w w' e (Pl.chgC L n c) (Pl.chgO L n c O) := by
  have b0 : Below w.heap.size w (((w.alloc (.cells (chg n Fp Fl) 153)).alloc (.cells #[.slice a L.length cap] 25)).alloc (.cells #[.slice none 0 0] 25)) := (((Below.refl _ _).alloc (Nat.le_refl _) _).alloc (by simp) _).alloc (by simp; omega) _
  have A0 : Mem.Blk (((w.alloc (.cells (chg n Fp Fl) 153)).alloc (.cells #[.slice a L.length cap] 25)).alloc (.cells #[.slice none 0 0] 25)) w.heap.size (chg n Fp Fl) 153 := ((Mem.Blk.new _ _ _).alloc _).alloc _
  have T0 : Mem.Blk (((w.alloc (.cells (chg n Fp Fl) 153)).alloc (.cells #[.slice a L.length cap] 25)).alloc (.cells #[.slice none 0 0] 25)) (w.heap.size + 1) #[.slice a L.length cap] 25 := Mem.Blk.alloc (Mem.new_two _ _ _) _
  have R0 : Mem.Blk (((w.alloc (.cells (chg n Fp Fl) 153)).alloc (.cells #[.slice a L.length cap] 25)).alloc (.cells #[.slice none 0 0] 25)) (w.heap.size + 1 + 1) #[.slice none 0 0] 25 := by
    have := Mem.new_two (w.alloc (.cells (chg n Fp Fl) 153)) (.cells #[.slice a L.length cap] 25) (.cells #[.slice none 0 0] 25)
    rw [show (w.alloc (.cells (chg n Fp Fl) 153)).heap.size = w.heap.size + 1 by simp] at this
    exact this
  have hF2 : ∀ B W, (callFunc Fp #[.map (some B), .agg #[.string n.path, .int .i64 n.kind, .string n.data, .int .i64 n.time, .int .i64 n.mark]]).run Tryz.prog W = .ok (.enter Fp #[.map (some B), .agg #[.string n.path, .int .i64 n.kind, .string n.data, .int .i64 n.time, .int .i64 n.mark]]) W := hF
  clear hF
  have HPL := hide (fun W (b : Below w.heap.size w W) => WPlainT.impl_any a cap L W hl (Mem.nodes_call hv b) hok r1 r2 r3 x1 x2 x3 (hE.call b))
  have HNO := hide (fun W (b : Below w.heap.size w W) => WNodesI.nodes_any a cap L W hl (Mem.nodes_call hv b) hok r1 r2 r3 x1 x2 x3 (hE.call b))
  have HRN := hide refuse_no
  have HRY := hide refuse_yes
  have HP := hide hP
  have H0 := hide (⟨b0, A0, T0, R0⟩ : _ ∧ _ ∧ _ ∧ _)
  clear hv hok hE hP b0 A0 T0 R0
  by_cases hs : n.path.size ≤ 8000 ∧ n.data.size ≤ 8000
  · have HN := hide (fun W => WNode.impl_any n W (by omega) (by omega))
    have hlo := hide (fun W => long_no n Fp Fl W hs.1 hs.2)
    have hC : Pl.chgC L n c = if Pl.plainB L = true ∧ Pl.nodeB n = true then c else 1 := by rw [Pl.chgC, if_pos hs]
    obtain ⟨b0, A0, T0, R0⟩ := unhide H0
    have c1 := T0.cell 0
    simp only [kA0, kA1] at c1
    have hn8 : n.path.size ≤ 8000 := hs.1
    clear H0 HRN HRY hs hl
    generalize hPB : Pl.plainB L = P at HPL hC HP ⊢
    generalize hNB : Pl.nodeB n = N at HN hC HP ⊢
    have HRN := hide refuse_no
    have HRY := hide refuse_yes
    cases P
    · have hC1 : Pl.chgC L n c = 1 := by rw [hC]; simp
      have hO : Pl.chgO L n c O = [] := by rw [Pl.chgO, hC1]; rfl
      rw [hC1, hO]
      clear hC hC1 hO HP HNO HN HRN hPB hNB
      go_enter Tryz.func126, Tryz.ntmps126
      go_wp2_with fail
      refine (unhide hlo _).mono ?_
      rintro e w1 ⟨rfl, b1⟩
      go_wp2_with fail
      refine (refuse_no 2 _).mono ?_
      rintro e wR ⟨rfl, hwR⟩
      subst wR
      have bw1 := b0.trans (b1.mono b0.size)
      have T1 := T0.call b1
      have c1 := T1.cell 0
      simp only [kA0, kA1] at c1
      clear b0 b1 T0 A0 R0
      go_wp2_with fail
      refine (unhide HPL _ bw1).mono ?_
      rintro e w2 ⟨rfl, b2⟩
      have bw2 := bw1.trans (b2.mono bw1.size)
      clear bw1 b2 T1
      go_wp2_with fail
      refine (unhide HRY 1 _).mono ?_
      rintro e w3 ⟨rfl, rfl⟩
      go_wp2_with fail
      exact ⟨rfl, ⟨.inr ⟨by decide, rfl, rfl⟩, bw2⟩⟩
    · cases N
      · have hC1 : Pl.chgC L n c = 1 := by rw [hC]; simp
        have hO : Pl.chgO L n c O = [] := by rw [Pl.chgO, hC1]; rfl
        rw [hC1, hO]
        clear hC hC1 hO HP HNO HRN hPB hNB
        go_enter Tryz.func126, Tryz.ntmps126
        go_wp2_with fail
        refine (unhide hlo _).mono ?_
        rintro e w1 ⟨rfl, b1⟩
        go_wp2_with fail
        refine (refuse_no 2 _).mono ?_
        rintro e wR ⟨rfl, hwR⟩
        subst wR
        have bw1 := b0.trans (b1.mono b0.size)
        have T1 := T0.call b1
        have A1 := A0.call b1
        have c1 := T1.cell 0
        simp only [kA0, kA1] at c1
        clear b0 b1 T0 A0 R0
        go_wp2_with fail
        refine (unhide HPL _ bw1).mono ?_
        rintro e w2 ⟨rfl, b2⟩
        have bw2 := bw1.trans (b2.mono bw1.size)
        have A2 := A1.call b2
        have d0 := A2.cell 0
        have d1 := A2.cell 1
        have d2 := A2.cell 2
        have d3 := A2.cell 3
        have d4 := A2.cell 4
        simp only [kA0, kA1, kA2] at d0 d1 d2 d3 d4
        clear bw1 b2 T1 A1
        go_wp2_with fail
        refine (unhide HN _).mono ?_
        rintro e w3 ⟨rfl, b3⟩
        have bw3 := bw2.trans (b3.mono bw2.size)
        clear bw2 b3
        go_wp2_with fail
        refine (unhide HRY 1 _).mono ?_
        rintro e w4 ⟨rfl, rfl⟩
        go_wp2_with fail
        exact ⟨rfl, ⟨.inr ⟨by decide, rfl, rfl⟩, bw3⟩⟩
      · have hC1 : Pl.chgC L n c = c := by rw [hC]; simp
        have HO : Hid (Pl.chgO L n c O = if c = 0 then O else []) := by rw [Pl.chgO, hC1]; exact rfl
        rw [hC1]
        generalize Pl.chgO L n c O = O' at HO ⊢
        have htr : Pl.treeB L = true := by
          have := hPB
          rw [Pl.plainB, Bool.and_eq_true] at this
          exact this.1
        clear hC hC1 HRY hPB hNB
        go_enter Tryz.func126, Tryz.ntmps126
        go_wp2_with fail
        refine (unhide hlo _).mono ?_
        rintro e w1 ⟨rfl, b1⟩
        go_wp2_with fail
        refine (refuse_no 2 _).mono ?_
        rintro e wR ⟨rfl, hwR⟩
        subst wR
        have bw1 := b0.trans (b1.mono b0.size)
        have T1 := T0.call b1
        have A1 := A0.call b1
        have R1 := R0.call b1
        have c1 := T1.cell 0
        simp only [kA0, kA1] at c1
        clear b0 b1 T0 A0 R0
        go_wp2_with fail
        refine (unhide HPL _ bw1).mono ?_
        rintro e w2 ⟨rfl, b2⟩
        have bw2 := bw1.trans (b2.mono bw1.size)
        have A2 := A1.call b2
        have T2 := T1.call b2
        have R2 := R1.call b2
        have d0 := A2.cell 0
        have d1 := A2.cell 1
        have d2 := A2.cell 2
        have d3 := A2.cell 3
        have d4 := A2.cell 4
        simp only [kA0, kA1, kA2] at d0 d1 d2 d3 d4
        clear bw1 b2 T1 A1 R1
        go_wp2_with fail
        refine (unhide HN _).mono ?_
        rintro e w3 ⟨rfl, b3⟩
        have bw3 := bw2.trans (b3.mono bw2.size)
        have A3 := A2.call b3
        have T3 := T2.call b3
        have R3 := R2.call b3
        have c1 := T3.cell 0
        simp only [kA0, kA1] at c1
        clear bw2 b3 A2 T2 R2 d0 d1 d2 d3 d4
        go_wp2_with fail
        refine (unhide HRN 1 _).mono ?_
        rintro e w4 ⟨rfl, rfl⟩
        go_wp2_with fail
        refine (unhide HNO _ bw3).mono ?_
        rintro e w5 ⟨h5, b5⟩
        rcases h5 with ⟨-, B, rfl, hB, hown⟩ | ⟨hx, -⟩
        · have bw5 := bw3.trans (b5.mono bw3.size)
          have A5 := A3.call b5
          have R5 := R3.call b5
          have HOW := hide hown
          have hB1 : w.heap.size + 3 ≤ B := by have := R3.lt; omega
          have d0 := A5.cell 0
          have d1 := A5.cell 1
          have d2 := A5.cell 2
          have d3 := A5.cell 3
          have d4 := A5.cell 4
          have d5 := A5.cell 5
          simp only [kA0, kA1, kA2] at d0 d1 d2 d3 d4 d5
          have hp := hide (unhide HP trivial trivial B _ bw5 (by omega) (unhide HOW))
          clear bw3 b5 A3 T3 R3 c1 hB hown HOW HP HNO HPL HN HRN hlo
          go_wp2_with fail
          refine (unhide hp).mono ?_
          rintro e w6 ⟨h6, g6⟩
          have R6 := R5.grown g6 (fun e => by cases e; omega)
          have bw6 := bw5.grown g6 bw5.size (fun q hq => by cases hq; omega)
          clear hp A5 R5 bw5 g6 d0 d1 d2 d3 d4 d5
          rcases h6 with ⟨rfl, rfl, N, D', C, hN, hO6, hR6, hC6, hper, hri, hok6⟩ | ⟨hc, rfl⟩
          · have hris := hide (WRising.any B N C O D' w6 hO6 hN hR6 hC6 hper hri hok6)
            have HO' : Hid (O' = O) := by have := unhide HO; rw [if_pos rfl] at this; exact this
            clear hN hO6 hR6 hC6 hper hri hok6 HO
            go_wp2_with fail
            refine (unhide hris).mono ?_
            rintro e w7 ⟨v, rfl, own, b7⟩
            obtain ⟨a', cap', rfl⟩ := Mem.own_shape own
            have R7 := R6.call b7
            have bw7 := bw6.trans (b7.mono bw6.size)
            have hlt := R6.lt
            have OW := hide own
            have e0 := R7.cell 0
            have f0 := R7.fr 0
            simp only [kA0, kA1] at e0
            clear hris R6 bw6 b7 own
            go_wp2
            refine bodyPost_ret (v := .agg #[.slice a' O.length cap']) (by simp [results, Tryz.results126, go_sem, e0]) rfl ⟨.inl ⟨rfl, .slice a' O.length cap', rfl, ?_⟩, ?_⟩
            · rw [unhide HO']
              exact Mem.ownN_mono (Mem.ownN_set (unhide OW) _ _ (by show w.heap.size + 1 + 1 < _; omega)) (by omega)
            · exact bw7.setCell (by show w.heap.size ≤ w.heap.size + 1 + 1; omega) _
          · have HO' : O' = [] := by have := unhide HO; rw [if_neg hc] at this; exact this
            go_wp2_with fail
            exact ⟨rfl, ⟨.inr ⟨hc, HO', rfl⟩, bw6⟩⟩
        · exact absurd (htr.symm.trans hx) (by decide)
  · have hC : Pl.chgC L n c = 2 := by rw [Pl.chgC, if_neg hs]
    have hO : Pl.chgO L n c O = [] := by rw [Pl.chgO, hC]; rfl
    rw [hC, hO]
    have hlo := hide (fun W => long_yes n Fp Fl W hs)
    obtain ⟨b0, A0, T0, R0⟩ := unhide H0
    go_enter Tryz.func126, Tryz.ntmps126
    go_wp2_with fail
    refine (unhide hlo _).mono ?_
    rintro e w1 ⟨rfl, b1⟩
    go_wp2_with fail
    refine (refuse_yes 2 _).mono ?_
    rintro e wR ⟨rfl, hwR⟩
    subst wR
    go_wp2_with fail
    exact ⟨rfl, ⟨.inr ⟨by decide, rfl, rfl⟩, b0.trans (b1.mono b0.size)⟩⟩
end WPanic
end Go.Proofs.YtibmflhelgedeaaGreatDoor

/- What stands behind a put that went well. -/
namespace Go.Proofs.YtibmflhelgedeaaGreatDoor
open Go.RowKit Go.Maps
namespace WPanic
/-- What stands behind a put that went well. -/
theorem put_fin {B : Nat} {L : List Pl.Nd} {n : Pl.Nd} (ht : Pl.treeB L = true) (hnb : Pl.nodeB n = true) {w' : World} (h : ∃ D', w'.ownsMap Tryz.prog 9 MapN.elem B 41 D' ∧ MapN.Reads D' (L.filter (fun m => !decide (m.path = n.path)) ++ [n])) :
    ∃ N D' C, N ≤ 1000 ∧ w'.ownsMap Tryz.prog 9 MapN.elem B N D' ∧ MapN.Reads D' C ∧ C.Pairwise (fun a b => a.path ≠ b.path) ∧ (Pl.putL L n).Perm C ∧ (Pl.putL L n).Pairwise (fun a b => Pl.ltP a.path b.path = true) ∧ (∀ n ∈ C, Pl.pathB n.path = true ∧ n.data.size ≤ 1048576) := by
  obtain ⟨D', h1, h2⟩ := h
  have hpo := Pl.put_ok (fun m hm => ((Pl.tree_rise ht).2.1 m hm).1) (Pl.node_right hnb).1 (Pl.tree_rise ht).1
  exact ⟨41, D', _, by omega, h1, h2, Pl.apart_put (Pl.tree_apart ht), hpo.2, hpo.1, fun m hm => (Pl.mem_put hm).elim (fun h => (Pl.tree_rise ht).2.1 m h) (fun h => by rw [h]; exact ⟨(Pl.node_right hnb).1, by have := (Pl.node_bounds hnb).1; omega⟩)⟩
end WPanic
end Go.Proofs.YtibmflhelgedeaaGreatDoor

/- need: it goes on only where no fault was told. -/
namespace Go.Proofs.YtibmflhelgedeaaGreatDoor
open Go.RowKit
namespace WPanic
set_option maxRecDepth 100000 in
theorem need_ok (w : World) : Calls Tryz.prog 183 #[.int .i64 0] w fun e w' => e = .returned (.tuple #[]) ∧ w' = w := by
  have hr := hide refuse_no
  go_enter Tryz.func183, Tryz.ntmps183
  go_wp2_with fail
  refine (unhide hr 0 _).mono ?_
  rintro e w1 ⟨rfl, rfl⟩
  go_wp2_with fail
  go_end0
  exact ⟨rfl, rfl⟩
set_option maxRecDepth 100000 in
theorem need_no (c : Int) (hc : c ≠ 0) (w : World) : Calls Tryz.prog 183 #[.int .i64 c] w fun e w' => e = .panicked (pnc c) ∧ w' = w := by
  have hr := hide refuse_yes
  have t0 : (c != 0) = true := by simpa using hc
  go_enter Tryz.func183, Tryz.ntmps183
  go_wp2_with fail
  refine (unhide hr c _).mono ?_
  rintro e w1 ⟨rfl, rfl⟩
  go_wp2_with fail
  exact ⟨rfl, rfl, rfl⟩
end WPanic
end Go.Proofs.YtibmflhelgedeaaGreatDoor

/- What is refused by a panic is recovered at the face of a tree: the deferred closure of faced. -/
namespace Go.Proofs.YtibmflhelgedeaaGreatDoor
open Go.RowKit
namespace WPanic
set_option linter.unusedSimpArgs false in
set_option maxRecDepth 100000 in
theorem catch_panicking (p : Addr) (x c : Int) (w : World) (hc : w.cell? p = some (.int .i64 x)) (hz : w.frozen? p = false) (hlt : p.block < w.heap.size) :
    CallsD Tryz.prog 181 #[.pointer (some p)] (.panicking (pnc c)) w fun e u' w' =>
      e = .returned (.tuple #[]) ∧ u' = .panicking [{ v := .iface 211 (.agg #[.int .i64 c]), recovered := true }] ∧ w' = (w.alloc (.cells #[.int .i64 c] 211)).setCell p (.int .i64 c) := by
  have hc2 : (w.alloc (.cells #[.int .i64 c] 211)).cell? p = some (.int .i64 x) := by rw [((Below.refl w.heap.size w).alloc (Nat.le_refl _) _).cell hlt]; exact hc
  have hz2 : (w.alloc (.cells #[.int .i64 c] 211)).frozen? p = false := by rw [((Below.refl w.heap.size w).alloc (Nat.le_refl _) _).frozen hlt]; exact hz
  have hcode := code_any c w
  have hnq : ∀ w : World, (binOp BinOp.neq 20 (.iface 211 (.agg #[.int .i64 c])) .nilIface).run Tryz.prog w = .ok (.bool true) w := fun _ => by kernel_rfl
  refine callsD_of_wpS Tryz.func181 rfl fun c₀ cs hu => ?_
  apply wpS_seq
  apply wpS_region
  simp [wpOpsS, go_sem, recoverD, hu, Tryz.ntmps181, Exit.thenS]
  refine wpS_of_wp ?_
  generalize hK : (fun e a' w' => bodyPostS _ _ _ _ _ e a' _ w') = K
  simp only [Array.replicate_succ, Array.replicate_zero, List.push_toArray, List.append_toArray, List.nil_append, List.cons_append, kB3, kB4, kB5]
  go_wp2_with fail
  refine hcode.mono ?_
  rintro e w1 ⟨rfl, rfl⟩
  go_wp2_with fail
  subst hK
  simp [bodyPostS, results, Tryz.results181]
set_option maxRecDepth 100000 in
theorem catch_idle (p : Addr) (w : World) :
    CallsD Tryz.prog 181 #[.pointer (some p)] .returning w fun e u' w' => e = .returned (.tuple #[]) ∧ u' = .returning ∧ w' = w := by
  have hnq : ∀ w : World, (binOp BinOp.neq 20 .nilIface .nilIface).run Tryz.prog w = .ok (.bool false) w := fun _ => by kernel_rfl
  refine callsD_of_wpS Tryz.func181 rfl fun c₀ cs hu => ?_
  apply wpS_seq
  apply wpS_region
  simp [wpOpsS, go_sem, recoverD, hu, Tryz.ntmps181, Exit.thenS]
  refine wpS_of_wp ?_
  generalize hK : (fun e a' w' => bodyPostS _ _ _ _ _ e a' _ w') = K
  simp only [Array.replicate_succ, Array.replicate_zero, List.push_toArray, List.append_toArray, List.nil_append, List.cons_append, kB3, kB4, kB5]
  go_wp2_with fail
  subst hK
  cases c₀
  simp_all [bodyPostS, results, Tryz.results181]
end WPanic
end Go.Proofs.YtibmflhelgedeaaGreatDoor

/- The face of a change in a plain tree: faced, treeFace. -/
namespace Go.Proofs.YtibmflhelgedeaaGreatDoor
open Go.RowKit
namespace WPanic
set_option linter.unusedSimpArgs false in
set_option maxRecDepth 100000 in
set_option maxHeartbeats 1000000 in
theorem faced_any (K : FuncId) (cap : Array Value) (c : Int) (O : List Pl.Nd) (w : World) (hE : ∀ W, (callFunc K cap).run Tryz.prog W = .ok (.enter K cap) W) (hK : ∀ W, Below w.heap.size w W → Calls Tryz.prog K cap W fun e w' => Ends W w' e c O) :
    Calls Tryz.prog 158 #[.func (.func K) #[] cap] w fun e w' => ∃ v, e = .returned (.tuple #[.agg #[v], .int .i64 c]) ∧ Mem.ownN w' w.heap.size v O ∧ Below w.heap.size w w' := by
  have hmf : ∀ (fn : Fn) (first cap : Array Value) (w : World), (Instr.makeFunc fn first cap).run Tryz.prog w = .ok (.func fn first cap) w := fun _ _ _ _ => rfl
  have b0 : Below w.heap.size w ((w.alloc (.cells #[.slice none 0 0] 25)).alloc (.cells #[.int .i64 0] 2)) := ((Below.refl _ _).alloc (Nat.le_refl _) _).alloc (by simp) _
  have hs : ((w.alloc (.cells #[.slice none 0 0] 25)).alloc (.cells #[.int .i64 0] 2)).heap.size = w.heap.size + 2 := by simp
  have A0 : Mem.Blk ((w.alloc (.cells #[.slice none 0 0] 25)).alloc (.cells #[.int .i64 0] 2)) w.heap.size #[.slice none 0 0] 25 := (Mem.Blk.new _ _ _).alloc _
  have B0 : Mem.Blk ((w.alloc (.cells #[.slice none 0 0] 25)).alloc (.cells #[.int .i64 0] 2)) (w.heap.size + 1) #[.int .i64 0] 2 := Mem.new_two _ _ _
  have hk := hide (hK _ b0)
  go_enter_defers Tryz.func158, Tryz.ntmps158
  go_wp2_with fail
  refine (unhide hk).mono ?_
  rintro e w1 ⟨h, b1⟩
  have bw := b0.trans (b1.mono b0.size)
  have A1 := A0.call b1
  have B1 := B0.call b1
  rw [hs] at h
  clear hk hK
  rcases h with ⟨rfl, v, rfl, own⟩ | ⟨hc, rfl, rfl⟩
  · obtain ⟨a, cp, rfl⟩ := Mem.own_shape own
    have c0 := A1.cell 0
    have f0 := A1.fr 0
    have c1 := B1.cell 0
    have f1 := B1.fr 0
    simp only [kA0, kA1] at c0 c1
    have A2 := (A1.put 0 (.slice a O.length cp)).far ⟨w.heap.size + 1, 0, none⟩ (.int .i64 0) (by show w.heap.size ≠ w.heap.size + 1; omega)
    have B2 := (B1.far ⟨w.heap.size, 0, none⟩ (.slice a O.length cp) (by show w.heap.size + 1 ≠ w.heap.size; omega)).put 0 (.int .i64 0)
    have own2 := Mem.ownN_set (Mem.ownN_set own ⟨w.heap.size, 0, none⟩ (.slice a O.length cp) (by show w.heap.size < w.heap.size + 2; omega)) ⟨w.heap.size + 1, 0, none⟩ (.int .i64 0) (by show w.heap.size + 1 < w.heap.size + 2; omega)
    have b2 := (bw.setCell (p := ⟨w.heap.size, 0, none⟩) (Nat.le_refl _) (.slice a O.length cp)).setCell (p := ⟨w.heap.size + 1, 0, none⟩) (by show w.heap.size ≤ w.heap.size + 1; omega) (.int .i64 0)
    clear A1 B1 own bw b0 A0 B0
    go_wp2_with fail
    refine leaves_cons (f := 181) (args := #[.pointer (some ⟨w.heap.size + 1, 0, none⟩)]) (by simp) (by simp [go_sem]) ?_
    refine (catch_idle ⟨w.heap.size + 1, 0, none⟩ _).mono ?_
    rintro e u' w'' ⟨rfl, rfl, rfl⟩
    have d0 := A2.cell 0
    have d1 := B2.cell 0
    simp only [kA0, kA1, kB3, kB4] at d0 d1
    simp [Leaves, settle, results, Tryz.results158, go_sem, d0, d1]
    exact ⟨Mem.ownN_mono own2 (by omega), b2⟩
  · have d0 := A1.cell 0
    have d1 := B1.cell 0
    have f1 := B1.fr 0
    simp only [kA0, kA1] at d0 d1
    have hlt := B1.lt
    go_wp2_with fail
    refine leaves_cons (f := 181) (args := #[.pointer (some ⟨w.heap.size + 1, 0, none⟩)]) (by simp) (by simp [go_sem]) ?_
    refine (catch_panicking ⟨w.heap.size + 1, 0, none⟩ 0 c _ d1 f1 hlt).mono ?_
    rintro e u' w'' ⟨rfl, rfl, rfl⟩
    have A2 := (A1.alloc (.cells #[.int .i64 c] 211)).far ⟨w.heap.size + 1, 0, none⟩ (.int .i64 c) (by show w.heap.size ≠ w.heap.size + 1; omega)
    have B2 := (B1.alloc (.cells #[.int .i64 c] 211)).put 0 (.int .i64 c)
    have d0 := A2.cell 0
    have d1 := B2.cell 0
    simp only [kA0, kA1, kB3, kB4] at d0 d1
    simp [Leaves, settle, results, Tryz.results158, go_sem, d0, d1]
    exact ⟨Mem.ownN_nil _ _, (bw.alloc bw.size _).setCell (by show w.heap.size ≤ w.heap.size + 1; omega) _⟩
set_option linter.unusedSimpArgs false in
set_option maxRecDepth 100000 in
set_option maxHeartbeats 1000000 in
theorem treeFace_any (K : FuncId) (cap : Array Value) (c : Int) (O : List Pl.Nd) (w : World) (hE : ∀ W, (callFunc K cap).run Tryz.prog W = .ok (.enter K cap) W) (hK : ∀ W, Below w.heap.size w W → Calls Tryz.prog K cap W fun e w' => Ends W w' e c O) :
    Calls Tryz.prog 123 #[.func (.func K) #[] cap] w fun e w' => ∃ v, e = .returned (.agg #[v, .int .i64 c]) ∧ Mem.ownN w' w.heap.size v O ∧ Below w.heap.size w w' := by
  have b0 : Below w.heap.size w (w.alloc (.cells #[.slice none 0 0, .int .i64 0] 31)) := (Below.refl _ _).alloc (Nat.le_refl _) _
  have hs : (w.alloc (.cells #[.slice none 0 0, .int .i64 0] 31)).heap.size = w.heap.size + 1 := by simp
  have A0 : Mem.Blk (w.alloc (.cells #[.slice none 0 0, .int .i64 0] 31)) w.heap.size #[.slice none 0 0, .int .i64 0] 31 := Mem.Blk.new _ _ _
  have hk := hide (faced_any K cap c O _ hE (fun W b => hK W (b0.trans (b.mono b0.size))))
  clear hK
  go_enter Tryz.func123, Tryz.ntmps123
  go_wp2_with fail
  refine (unhide hk).mono ?_
  rintro e w1 ⟨v, rfl, own, b1⟩
  obtain ⟨a, cp, rfl⟩ := Mem.own_shape own
  rw [hs] at own
  have b2 : Below w1.heap.size w1 (w1.alloc (.cells #[.slice a O.length cp] 25)) := (Below.refl _ _).alloc (Nat.le_refl _) _
  have A2 := (A0.call b1).call b2
  have V2 : Mem.Blk (w1.alloc (.cells #[.slice a O.length cp] 25)) w1.heap.size #[.slice a O.length cp] 25 := Mem.Blk.new _ _ _
  have bw := (b0.trans (b1.mono b0.size)).trans (b2.mono (b0.trans (b1.mono b0.size)).size)
  have own2 := Mem.ownN_call own b2
  have c0 := A2.cell 0
  have c1 := A2.cell 1
  have f0 := A2.fr 0
  have f1 := A2.fr 1
  have e0 := V2.cell 0
  simp only [kA0, kA1, kA2] at c0 c1 e0
  clear hk b0 b1 b2 A0 own
  go_wp2
  refine bodyPost_ret (v := .agg #[.slice a O.length cp, .int .i64 c]) (by simp [results, Tryz.results123, go_sem, c0, c1]) rfl ⟨.slice a O.length cp, rfl, ?_, ?_⟩
  · exact Mem.ownN_mono (Mem.ownN_set (Mem.ownN_set own2 _ _ (by show w.heap.size < w.heap.size + 1; omega)) _ _ (by show w.heap.size < w.heap.size + 1; omega)) (by omega)
  · exact (bw.setCell (Nat.le_refl _) _).setCell (Nat.le_refl _) _
end WPanic
end Go.Proofs.YtibmflhelgedeaaGreatDoor

