/- Several texts of one claim in one file: WRemoveP, WRemoving. -/
import Derived.Test.YtkfpfckmjgjanabDoorWInTree
import Derived.Test.YtkfpfckmjgjanabDoorWCutI
import Derived.Test.YtkfpfckmjgjanabDoorPlainOver
import Derived.Test.YtkfpfckmjgjanabDoorPlainCut
import Derived.Test.YtkfpfckmjgjanabDoorG49
import Derived.Laws.EntriesVeiled
/- What is removed of a map of nodes: removePlain. -/
namespace Go.Proofs.YtkfpfckmjgjanabDoor
open Go.RowKit Go.Maps
namespace Pl
def remC (L : List Nd) (p : ByteArray) : Int := if L.find? (fun m => decide (m.path = p)) = none then 6 else if overL L p = true then 10 else 0
end Pl
namespace WPanic
set_option linter.unusedSimpArgs false in
set_option maxRecDepth 100000 in
set_option maxHeartbeats 2000000 in
theorem removeP_any (B : Nat) (L : List Pl.Nd) (n : Pl.Nd) (w : World) (ht : Pl.treeB L = true) (hp : Pl.pathB n.path = true) (hown : w.ownsMap Tryd.prog 9 MapN.elem B 40 (MapN.mapOf L)) :
    Calls Tryd.prog 92 #[.map (some B), n.val] w fun e w' => Did w w' e B (Pl.remC L n.path) (Pl.offL n.path L) := by
  obtain ⟨hr, hokn, h40⟩ := Pl.tree_rise ht
  have hC := Pl.tree_apart ht
  have hp8 : n.path.size ≤ 8000 := by have := Pl.pathB_le hp; omega
  have HUN := hide (fun W (b : Below w.heap.size w W) => WUnderN.any B 40 L L (MapN.mapOf L) n.path W (WNodesI.map_call hown b) (by omega) (MapN.reads_mapOf hC) hC (List.Perm.refl _) hr hokn (by omega) (by omega))
  have HCU := hide (fun W (b : Below w.heap.size w W) => WCutI.any B 40 L (MapN.mapOf L) n.path W (WNodesI.map_call hown b) (by omega) (MapN.reads_mapOf hC) hC hr hokn (by omega) (by omega))
  rw [Pl.off_below (fun n hn => (hokn n hn).1) hp] at HCU
  have HO : Hid (∀ N D' (w' : World), N ≤ 1000 → w'.ownsMap Tryd.prog 9 MapN.elem B N D' → MapN.Reads D' (Pl.offL n.path L) → ∃ N D' C, N ≤ 1000 ∧ w'.ownsMap Tryd.prog 9 MapN.elem B N D' ∧ MapN.Reads D' C ∧ C.Pairwise (fun a b => a.path ≠ b.path) ∧ (Pl.offL n.path L).Perm C ∧ (Pl.offL n.path L).Pairwise (fun a b => Pl.ltP a.path b.path = true) ∧ (∀ n ∈ C, Pl.pathB n.path = true ∧ n.data.size ≤ 1048576)) := fun N D' w' hN h1 h2 => ⟨N, D', _, hN, h1, h2, hC.filter _, List.Perm.refl _, hr.filter _, fun m hm => hokn m ((List.mem_filter.1 hm).1)⟩
  have HUV : Hid (((Pl.pieceL L n.path).length = 0 → Pl.overL L n.path = false) ∧ ((Pl.pieceL L n.path).length ≠ 0 → Pl.overL L n.path = true)) := by
    have h2 := Pl.over_below (fun n hn => (hokn n hn).1) hp
    refine ⟨fun h3 => by rw [← h2]; exact Pl.piece_none.1 h3, fun h3 => ?_⟩
    cases h4 : Pl.overL L n.path
    · rw [← h2] at h4; exact absurd (Pl.piece_none.2 h4) h3
    · rfl
  have HM := hide hown
  have HBL := hide hown
  have HAP := hide hC
  have EC : Hid (Pl.remC L n.path = if L.find? (fun m => decide (m.path = n.path)) = none then 6 else if Pl.overL L n.path = true then 10 else 0) := rfl
  generalize Pl.remC L n.path = c at EC ⊢
  generalize Pl.offL n.path L = O at HCU HO ⊢
  obtain ⟨np, nk, nd, nt, nm⟩ := n
  simp only [Pl.Nd.val] at hp8 HUN HCU HUV EC ⊢
  clear hr hokn hown hC
  have b0 : Below w.heap.size w (w.alloc (.cells #[.string np, .int .i64 nk, .string nd, .int .i64 nt, .int .i64 nm] 50)) := (Below.refl _ _).alloc (Nat.le_refl _) _
  have V0 := Mem.Blk.new w #[.string np, .int .i64 nk, .string nd, .int .i64 nt, .int .i64 nm] 50
  have HM0 := hide (WNodesI.map_call (unhide HM) b0)
  have hkey := MapN.keyOf_mk (p := np) (by unfold maxLen; omega)
  have HRN := hide refuse_no
  have HRY := hide refuse_yes
  have hg : ∀ {W : World}, Below w.heap.size w W → w.grownBy W (some B) := fun b => ⟨b.os, b.tape, b.output, b.size, fun j hj _ => b.block j hj⟩
  cases hf : L.find? (fun m => decide (m.path = np)) with
  | none =>
    have hmiss : ∀ n ∈ L, n.path ≠ np := fun n hn => by simpa using List.find?_eq_none.1 hf n hn
    have ha := hide (MapN.has_no hmiss)
    have ha2 := hide (Maps.atKey_of_not_has (unhide ha) (MapN.dat ⟨⟨#[]⟩, 0, ⟨#[]⟩, 0, 0⟩))
    have hc : c = 6 := by have := unhide EC; rw [hf, if_pos rfl] at this; exact this
    subst hc
    clear EC HUV HUN HCU HO hmiss hf HRN
    go_enter Tryd.func92, Tryd.ntmps92
    go_wp2_with (at_lookup; refine MapN.look_ok _ rfl _ _ 114 rfl 9 50 MapN.law Tryd.underlying114 (MapN.zeroN _) B 40 (MapN.mapOf L) rfl (unhide HM0) _ _ rfl hkey ⟨⟨#[]⟩, 0, ⟨#[]⟩, 0, 0⟩ (unhide ha2) false (unhide ha) ?_)
    refine (unhide HRY 6 _).mono ?_
    rintro e w1 ⟨rfl, rfl⟩
    go_wp2_with fail
    exact ⟨rfl, ⟨.inr ⟨by decide, rfl⟩, hg (b0.alloc b0.size _)⟩⟩
  | some m =>
    have hm1 := List.mem_of_find?_eq_some hf
    have hm2 : m.path = np := by simpa using List.find?_some hf
    obtain ⟨y1, y2⟩ := MapN.at_yes (unhide HAP) hm1
    rw [hm2] at y1 y2
    have ha := hide y1
    have ha2 := hide (y2 (MapN.dat ⟨⟨#[]⟩, 0, ⟨#[]⟩, 0, 0⟩))
    have EC2 : Hid (c = if Pl.overL L np = true then 10 else 0) := by have := unhide EC; rw [hf, if_neg (by simp)] at this; exact this
    clear EC hf hm1 hm2 y1 y2
    go_enter Tryd.func92, Tryd.ntmps92
    go_wp2_with (at_lookup; refine MapN.look_ok _ rfl _ _ 114 rfl 9 50 MapN.law Tryd.underlying114 (MapN.zeroN _) B 40 (MapN.mapOf L) rfl (unhide HM0) _ _ rfl hkey m (unhide ha2) true (unhide ha) ?_)
    refine (unhide HRN 6 _).mono ?_
    rintro e w1 ⟨rfl, rfl⟩
    have b1 := b0.alloc b0.size (.cells m.cs.toArray 50)
    have V1 := V0.alloc (.cells m.cs.toArray 50)
    have p0 := V1.cell 0
    simp only [kA0, kA1, Pl.Nd.cs] at p0 b1 V1
    clear b0 V0 HM0
    go_wp2_with fail
    refine (unhide HUN _ b1).mono ?_
    rintro e w2 ⟨a2, rfl, -, -, b2⟩
    have bw2 := b1.trans (b2.mono b1.size)
    have V2 := V1.call b2
    have p0 := V2.cell 0
    simp only [kA0, kA1] at p0
    clear b1 V1 b2
    by_cases hl : (Pl.pieceL L np).length = 0
    · have t1 : ¬ (0 : Int) < ((Pl.pieceL L np).length : Int) := by omega
      have hc : c = 0 := by have := unhide EC2; rw [(unhide HUV).1 hl, if_neg (by decide)] at this; exact this
      subst hc
      have hcu := hide (unhide HCU _ bw2)
      have t2 : decide (0 < (Pl.pieceL L np).length) = false := by simp [hl]
      generalize (Pl.pieceL L np).length = kk at t1 t2
      clear HUV HUN HCU EC2 HRY hl
      go_wp2_with fail
      refine (unhide HRN 10 _).mono ?_
      rintro e w3 ⟨rfl, rfl⟩
      go_wp2_with fail
      refine (unhide hcu).mono ?_
      rintro e w4 ⟨rfl, ⟨D', hO2, hR2⟩, hg2⟩
      have hfin := unhide HO 40 D' _ (by omega) hO2 hR2
      clear hO2 hR2 hcu HO
      go_wp2_with fail
      go_end0
      exact ⟨.inl ⟨rfl, rfl, hfin⟩, ⟨hg2.os.trans bw2.os, hg2.tape.trans bw2.tape, hg2.output.trans bw2.output, Nat.le_trans bw2.size hg2.size, fun j hj hne => (hg2.block j (Nat.lt_of_lt_of_le hj bw2.size) hne).trans (bw2.block j hj)⟩⟩
    · have t1 : (0 : Int) < ((Pl.pieceL L np).length : Int) := by omega
      have hc : c = 10 := by have := unhide EC2; rw [(unhide HUV).2 hl, if_pos rfl] at this; exact this
      subst hc
      have t2 : decide (0 < (Pl.pieceL L np).length) = true := by simp; omega
      generalize (Pl.pieceL L np).length = kk at t1 t2
      clear HUV HUN HCU EC2 HRN hl HO
      go_wp2_with fail
      refine (unhide HRY 10 _).mono ?_
      rintro e w3 ⟨rfl, rfl⟩
      go_wp2_with fail
      exact ⟨rfl, ⟨.inr ⟨by decide, rfl⟩, hg bw2⟩⟩
end WPanic
end Go.Proofs.YtkfpfckmjgjanabDoor

/- What is asked for: removing. -/
namespace Go.Proofs.YtkfpfckmjgjanabDoor
open Go.RowKit
namespace WPanic
set_option linter.unusedSimpArgs false in
set_option maxRecDepth 100000 in
theorem removing_any (p : ByteArray) (w : World) :
    Calls Tryd.prog 66 #[.string p] w fun e w' => e = .returned (.agg (chg ⟨p, 1, ⟨#[]⟩, 0, 0⟩ 92 93)) ∧ Below w.heap.size w w' := by
  go_enter Tryd.func66, Tryd.ntmps66
  go_wp2
  refine bodyPost_ret (v := .agg (chg ⟨p, 1, ⟨#[]⟩, 0, 0⟩ 92 93)) (by simp [results, Tryd.results66, go_sem]) rfl ⟨rfl, ?_⟩
  repeat first | exact (Below.refl _ _).alloc (Nat.le_refl _) _ | refine Below.setCell ?_ (Nat.le_refl _) _
end WPanic
end Go.Proofs.YtkfpfckmjgjanabDoor

