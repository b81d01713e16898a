/- A plain tree with a change in it: inTree. -/
import Derived.Test.YtkfpfckmjgjanabDoorG49
import Derived.Test.YtkfpfckmjgjanabDoorWRising
import Derived.Test.YtkfpfckmjgjanabDoorPlainCut
import Derived.Laws.EntriesVeiled
namespace Go.Proofs.YtkfpfckmjgjanabDoor
open Go.RowKit Go.Maps
namespace Pl
/-- The code of a change in a plain tree, of the code that what it does tells. -/
def chgC (L : List Nd) (n : Nd) (c : Int) : Int := if n.path.size ≤ 8000 ∧ n.data.size ≤ 8000 then (if plainB L = true ∧ nodeB n = true then c else 1) else 2
def chgO (L : List Nd) (n : Nd) (c : Int) (O : List Nd) : List Nd := if chgC L n c = 0 then O else []
theorem plain_tree {L : List Nd} (h : plainB L = true) : treeB L = true := by
  rw [plainB, Bool.and_eq_true] at h
  exact h.1
theorem chgO_len {L : List Nd} {n : Nd} {c : Int} {O : List Nd} {k : Nat} (h : O.length ≤ k) : (chgO L n c O).length ≤ k := by
  unfold chgO
  split
  · exact h
  · exact Nat.zero_le _
end Pl
namespace WPanic
/-- What a change has done to a map of nodes. -/
structure Did (W w' : World) (e : Ending) (B : Nat) (c : Int) (O : List Pl.Nd) : Prop where
  out : (c = 0 ∧ e = .returned (.tuple #[]) ∧ ∃ N D' C, N ≤ 1000 ∧ w'.ownsMap Tryd.prog 9 MapN.elem B N D' ∧ MapN.Reads D' C ∧ C.Pairwise (fun a b => a.path ≠ b.path) ∧ O.Perm C ∧ O.Pairwise (fun a b => Pl.ltP a.path b.path = true) ∧ (∀ n ∈ C, Pl.pathB n.path = true ∧ n.data.size ≤ 1048576)) ∨
    (c ≠ 0 ∧ e = .panicked (pnc c))
  grown : W.grownBy w' (some B)
set_option linter.unusedSimpArgs false in
set_option maxRecDepth 100000 in
set_option maxHeartbeats 2000000 in
theorem inTree_any (n : Pl.Nd) (Fp Fl : FuncId) (a : Option Addr) (cap : Nat) (L : List Pl.Nd) (c : Int) (O : List Pl.Nd) (w : World) (hl : L.length ≤ 1048576) (hv : Mem.isNodes w a L) (hok : ∀ n ∈ L, n.path.size ≤ 1048576 ∧ n.data.size ≤ 1048576)
    (r1 r2 r3 : TypeId) (x1 x2 x3 : Value) (hE : WNodesI.Errs w r1 r2 r3 x1 x2 x3)
    (hF : ∀ B W, (callFunc Fp #[.map (some B), n.val]).run Tryd.prog W = .ok (.enter Fp #[.map (some B), n.val]) W)
    (hP : Pl.plainB L = true → Pl.nodeB n = true → ∀ B W, Below w.heap.size w W → w.heap.size ≤ B → W.ownsMap Tryd.prog 9 MapN.elem B 40 (MapN.mapOf L) → Calls Tryd.prog Fp #[.map (some B), n.val] W fun e w' => Did W w' e B c O) :
    Calls Tryd.prog 67 #[.agg (chg n Fp Fl), .agg #[.slice a L.length cap]] w fun e w' => Ends w w' e (Pl.chgC L n c) (Pl.chgO L n c O) := by
  have b0 : Below w.heap.size w (((w.alloc (.cells (chg n Fp Fl) 105)).alloc (.cells #[.slice a L.length cap] 39)).alloc (.cells #[.slice none 0 0] 39)) := (((Below.refl _ _).alloc (Nat.le_refl _) _).alloc (by simp) _).alloc (by simp; omega) _
  have A0 : Mem.Blk (((w.alloc (.cells (chg n Fp Fl) 105)).alloc (.cells #[.slice a L.length cap] 39)).alloc (.cells #[.slice none 0 0] 39)) w.heap.size (chg n Fp Fl) 105 := ((Mem.Blk.new _ _ _).alloc _).alloc _
  have T0 : Mem.Blk (((w.alloc (.cells (chg n Fp Fl) 105)).alloc (.cells #[.slice a L.length cap] 39)).alloc (.cells #[.slice none 0 0] 39)) (w.heap.size + 1) #[.slice a L.length cap] 39 := Mem.Blk.alloc (Mem.new_two _ _ _) _
  have R0 : Mem.Blk (((w.alloc (.cells (chg n Fp Fl) 105)).alloc (.cells #[.slice a L.length cap] 39)).alloc (.cells #[.slice none 0 0] 39)) (w.heap.size + 1 + 1) #[.slice none 0 0] 39 := by
    have := Mem.new_two (w.alloc (.cells (chg n Fp Fl) 105)) (.cells #[.slice a L.length cap] 39) (.cells #[.slice none 0 0] 39)
    rw [show (w.alloc (.cells (chg n Fp Fl) 105)).heap.size = w.heap.size + 1 by simp] at this
    exact this
  have hF2 : ∀ B W, (callFunc Fp #[.map (some B), .agg #[.string n.path, .int .i64 n.kind, .string n.data, .int .i64 n.time, .int .i64 n.mark]]).run Tryd.prog W = .ok (.enter Fp #[.map (some B), .agg #[.string n.path, .int .i64 n.kind, .string n.data, .int .i64 n.time, .int .i64 n.mark]]) W := hF
  clear hF
  have HPL := hide (fun W (b : Below w.heap.size w W) => WPlainT.impl_any a cap L W hl (Mem.nodes_call hv b) hok r1 r2 r3 x1 x2 x3 (hE.call b))
  have HNO := hide (fun W (b : Below w.heap.size w W) => WNodesI.nodes_any a cap L W hl (Mem.nodes_call hv b) hok r1 r2 r3 x1 x2 x3 (hE.call b))
  have HRN := hide refuse_no
  have HRY := hide refuse_yes
  have HP := hide hP
  have H0 := hide (⟨b0, A0, T0, R0⟩ : _ ∧ _ ∧ _ ∧ _)
  clear hv hok hE hP b0 A0 T0 R0
  by_cases hs : n.path.size ≤ 8000 ∧ n.data.size ≤ 8000
  · have HN := hide (fun W => WNode.impl_any n W (by omega) (by omega))
    have hlo := hide (fun W => long_no n Fp Fl W hs.1 hs.2)
    have hC : Pl.chgC L n c = if Pl.plainB L = true ∧ Pl.nodeB n = true then c else 1 := by rw [Pl.chgC, if_pos hs]
    obtain ⟨b0, A0, T0, R0⟩ := unhide H0
    have c1 := T0.cell 0
    simp only [kA0, kA1] at c1
    have hn8 : n.path.size ≤ 8000 := hs.1
    clear H0 HRN HRY hs hl
    generalize hPB : Pl.plainB L = P at HPL hC HP ⊢
    generalize hNB : Pl.nodeB n = N at HN hC HP ⊢
    have HRN := hide refuse_no
    have HRY := hide refuse_yes
    cases P
    · have hC1 : Pl.chgC L n c = 1 := by rw [hC]; simp
      have hO : Pl.chgO L n c O = [] := by rw [Pl.chgO, hC1]; rfl
      rw [hC1, hO]
      clear hC hC1 hO HP HNO HN HRN hPB hNB
      go_enter Tryd.func67, Tryd.ntmps67
      go_wp2_with fail
      refine (unhide hlo _).mono ?_
      rintro e w1 ⟨rfl, b1⟩
      go_wp2_with fail
      refine (refuse_no 2 _).mono ?_
      rintro e wR ⟨rfl, hwR⟩
      subst wR
      have bw1 := b0.trans (b1.mono b0.size)
      have T1 := T0.call b1
      have c1 := T1.cell 0
      simp only [kA0, kA1] at c1
      clear b0 b1 T0 A0 R0
      go_wp2_with fail
      refine (unhide HPL _ bw1).mono ?_
      rintro e w2 ⟨rfl, b2⟩
      have bw2 := bw1.trans (b2.mono bw1.size)
      clear bw1 b2 T1
      go_wp2_with fail
      refine (unhide HRY 1 _).mono ?_
      rintro e w3 ⟨rfl, rfl⟩
      go_wp2_with fail
      exact ⟨rfl, ⟨.inr ⟨by decide, rfl, rfl⟩, bw2⟩⟩
    · cases N
      · have hC1 : Pl.chgC L n c = 1 := by rw [hC]; simp
        have hO : Pl.chgO L n c O = [] := by rw [Pl.chgO, hC1]; rfl
        rw [hC1, hO]
        clear hC hC1 hO HP HNO HRN hPB hNB
        go_enter Tryd.func67, Tryd.ntmps67
        go_wp2_with fail
        refine (unhide hlo _).mono ?_
        rintro e w1 ⟨rfl, b1⟩
        go_wp2_with fail
        refine (refuse_no 2 _).mono ?_
        rintro e wR ⟨rfl, hwR⟩
        subst wR
        have bw1 := b0.trans (b1.mono b0.size)
        have T1 := T0.call b1
        have A1 := A0.call b1
        have c1 := T1.cell 0
        simp only [kA0, kA1] at c1
        clear b0 b1 T0 A0 R0
        go_wp2_with fail
        refine (unhide HPL _ bw1).mono ?_
        rintro e w2 ⟨rfl, b2⟩
        have bw2 := bw1.trans (b2.mono bw1.size)
        have A2 := A1.call b2
        have d0 := A2.cell 0
        have d1 := A2.cell 1
        have d2 := A2.cell 2
        have d3 := A2.cell 3
        have d4 := A2.cell 4
        simp only [kA0, kA1, kA2] at d0 d1 d2 d3 d4
        clear bw1 b2 T1 A1
        go_wp2_with fail
        refine (unhide HN _).mono ?_
        rintro e w3 ⟨rfl, b3⟩
        have bw3 := bw2.trans (b3.mono bw2.size)
        clear bw2 b3
        go_wp2_with fail
        refine (unhide HRY 1 _).mono ?_
        rintro e w4 ⟨rfl, rfl⟩
        go_wp2_with fail
        exact ⟨rfl, ⟨.inr ⟨by decide, rfl, rfl⟩, bw3⟩⟩
      · have hC1 : Pl.chgC L n c = c := by rw [hC]; simp
        have HO : Hid (Pl.chgO L n c O = if c = 0 then O else []) := by rw [Pl.chgO, hC1]; exact rfl
        rw [hC1]
        generalize Pl.chgO L n c O = O' at HO ⊢
        have htr : Pl.treeB L = true := by
          have := hPB
          rw [Pl.plainB, Bool.and_eq_true] at this
          exact this.1
        clear hC hC1 HRY hPB hNB
        go_enter Tryd.func67, Tryd.ntmps67
        go_wp2_with fail
        refine (unhide hlo _).mono ?_
        rintro e w1 ⟨rfl, b1⟩
        go_wp2_with fail
        refine (refuse_no 2 _).mono ?_
        rintro e wR ⟨rfl, hwR⟩
        subst wR
        have bw1 := b0.trans (b1.mono b0.size)
        have T1 := T0.call b1
        have A1 := A0.call b1
        have R1 := R0.call b1
        have c1 := T1.cell 0
        simp only [kA0, kA1] at c1
        clear b0 b1 T0 A0 R0
        go_wp2_with fail
        refine (unhide HPL _ bw1).mono ?_
        rintro e w2 ⟨rfl, b2⟩
        have bw2 := bw1.trans (b2.mono bw1.size)
        have A2 := A1.call b2
        have T2 := T1.call b2
        have R2 := R1.call b2
        have d0 := A2.cell 0
        have d1 := A2.cell 1
        have d2 := A2.cell 2
        have d3 := A2.cell 3
        have d4 := A2.cell 4
        simp only [kA0, kA1, kA2] at d0 d1 d2 d3 d4
        clear bw1 b2 T1 A1 R1
        go_wp2_with fail
        refine (unhide HN _).mono ?_
        rintro e w3 ⟨rfl, b3⟩
        have bw3 := bw2.trans (b3.mono bw2.size)
        have A3 := A2.call b3
        have T3 := T2.call b3
        have R3 := R2.call b3
        have c1 := T3.cell 0
        simp only [kA0, kA1] at c1
        clear bw2 b3 A2 T2 R2 d0 d1 d2 d3 d4
        go_wp2_with fail
        refine (unhide HRN 1 _).mono ?_
        rintro e w4 ⟨rfl, rfl⟩
        go_wp2_with fail
        refine (unhide HNO _ bw3).mono ?_
        rintro e w5 ⟨h5, b5⟩
        rcases h5 with ⟨-, B, rfl, hB, hown⟩ | ⟨hx, -⟩
        · have bw5 := bw3.trans (b5.mono bw3.size)
          have A5 := A3.call b5
          have R5 := R3.call b5
          have HOW := hide hown
          have hB1 : w.heap.size + 3 ≤ B := by have := R3.lt; omega
          have d0 := A5.cell 0
          have d1 := A5.cell 1
          have d2 := A5.cell 2
          have d3 := A5.cell 3
          have d4 := A5.cell 4
          have d5 := A5.cell 5
          simp only [kA0, kA1, kA2] at d0 d1 d2 d3 d4 d5
          have hp := hide (unhide HP trivial trivial B _ bw5 (by omega) (unhide HOW))
          clear bw3 b5 A3 T3 R3 c1 hB hown HOW HP HNO HPL HN HRN hlo
          go_wp2_with fail
          refine (unhide hp).mono ?_
          rintro e w6 ⟨h6, g6⟩
          have R6 := R5.grown g6 (fun e => by cases e; omega)
          have bw6 := bw5.grown g6 bw5.size (fun q hq => by cases hq; omega)
          clear hp A5 R5 bw5 g6 d0 d1 d2 d3 d4 d5
          rcases h6 with ⟨rfl, rfl, N, D', C, hN, hO6, hR6, hC6, hper, hri, hok6⟩ | ⟨hc, rfl⟩
          · have hris := hide (WRising.any B N C O D' w6 hO6 hN hR6 hC6 hper hri hok6)
            have HO' : Hid (O' = O) := by have := unhide HO; rw [if_pos rfl] at this; exact this
            clear hN hO6 hR6 hC6 hper hri hok6 HO
            go_wp2_with fail
            refine (unhide hris).mono ?_
            rintro e w7 ⟨v, rfl, own, b7⟩
            obtain ⟨a', cap', rfl⟩ := Mem.own_shape own
            have R7 := R6.call b7
            have bw7 := bw6.trans (b7.mono bw6.size)
            have hlt := R6.lt
            have OW := hide own
            have e0 := R7.cell 0
            have f0 := R7.fr 0
            simp only [kA0, kA1] at e0
            clear hris R6 bw6 b7 own
            go_wp2
            refine bodyPost_ret (v := .agg #[.slice a' O.length cap']) (by simp [results, Tryd.results67, go_sem, e0]) rfl ⟨.inl ⟨rfl, .slice a' O.length cap', rfl, ?_⟩, ?_⟩
            · rw [unhide HO']
              exact Mem.ownN_mono (Mem.ownN_set (unhide OW) _ _ (by show w.heap.size + 1 + 1 < _; omega)) (by omega)
            · exact bw7.setCell (by show w.heap.size ≤ w.heap.size + 1 + 1; omega) _
          · have HO' : O' = [] := by have := unhide HO; rw [if_neg hc] at this; exact this
            go_wp2_with fail
            exact ⟨rfl, ⟨.inr ⟨hc, HO', rfl⟩, bw6⟩⟩
        · exact absurd (htr.symm.trans hx) (by decide)
  · have hC : Pl.chgC L n c = 2 := by rw [Pl.chgC, if_neg hs]
    have hO : Pl.chgO L n c O = [] := by rw [Pl.chgO, hC]; rfl
    rw [hC, hO]
    have hlo := hide (fun W => long_yes n Fp Fl W hs)
    obtain ⟨b0, A0, T0, R0⟩ := unhide H0
    go_enter Tryd.func67, Tryd.ntmps67
    go_wp2_with fail
    refine (unhide hlo _).mono ?_
    rintro e w1 ⟨rfl, b1⟩
    go_wp2_with fail
    refine (refuse_yes 2 _).mono ?_
    rintro e wR ⟨rfl, hwR⟩
    subst wR
    go_wp2_with fail
    exact ⟨rfl, ⟨.inr ⟨by decide, rfl, rfl⟩, b0.trans (b1.mono b0.size)⟩⟩
end WPanic
end Go.Proofs.YtkfpfckmjgjanabDoor
