/- What is written in a map of nodes: writePlain. -/
import Derived.Test.YtnmdmhokdcmhcabGreatDoorWMakeFin
import Derived.Test.YtnmdmhokdcmhcabGreatDoorMapLook
import Derived.Test.YtnmdmhokdcmhcabGreatDoorWInTree
import Derived.Test.YtnmdmhokdcmhcabGreatDoorWPutI
import Derived.Test.YtnmdmhokdcmhcabGreatDoorPartF
import Derived.Test.YtnmdmhokdcmhcabGreatDoorWNeed
import Derived.Test.YtnmdmhokdcmhcabGreatDoorPlainPutP
import Derived.Test.YtnmdmhokdcmhcabGreatDoorPlainCut
namespace Go.Proofs.YtnmdmhokdcmhcabGreatDoor
open Go.RowKit Go.Maps
namespace Pl
def wrtC (L : List Nd) (n : Nd) : Int := if (L.find? (fun m => decide (m.path = n.path))).any (fun m => decide (m.kind = 1)) = true then 11 else addC L n
end Pl
namespace WPanic
set_option linter.unusedSimpArgs false in
set_option maxRecDepth 100000 in
set_option maxHeartbeats 2000000 in
theorem writeP_any (B : Nat) (L : List Pl.Nd) (n : Pl.Nd) (w : World) (ht : Pl.treeB L = true) (hnb : Pl.nodeB n = true) (x : Nat → Addr) (hE : WIs.Six w x) (hown : w.ownsMap Tryz.prog 9 MapN.elem B 40 (MapN.mapOf L)) :
    Calls Tryz.prog 54 #[.map (some B), n.val] w fun e w' => Did w w' e B (Pl.wrtC L n) (Pl.putL L n) := by
  have hC := Pl.tree_apart ht
  have hp8 : n.path.size ≤ 8000 := by have := Pl.pathB_le (Pl.node_right hnb).1; omega
  have HPU := hide (fun W (b : Below w.heap.size w W) => WPutI.put_any B L n W (WNodesI.map_call hown b) hC (Pl.tree_rise ht).1 (Pl.tree_rise ht).2.1 (Pl.tree_rise ht).2.2 ⟨by omega, by have := (Pl.node_bounds hnb).1; omega⟩ x (hE.call b))
  have HFIN : Hid (∀ w' : World, (∃ D', w'.ownsMap Tryz.prog 9 MapN.elem B 41 D' ∧ MapN.Reads D' (L.filter (fun m => !decide (m.path = n.path)) ++ [n])) → ∃ N D' C, N ≤ 1000 ∧ w'.ownsMap Tryz.prog 9 MapN.elem B N D' ∧ MapN.Reads D' C ∧ C.Pairwise (fun a b => a.path ≠ b.path) ∧ (Pl.putL L n).Perm C ∧ (Pl.putL L n).Pairwise (fun a b => Pl.ltP a.path b.path = true) ∧ (∀ n ∈ C, Pl.pathB n.path = true ∧ n.data.size ≤ 1048576)) := fun w' h => put_fin ht hnb h
  have HCD := hide (fun W (b : Below w.heap.size w W) i hi => WCutF.code_any x W (hE.call b) i hi)
  have HM := hide hown
  have HAP := hide hC
  have HNB := hide hnb
  have EC : Hid (Pl.wrtC L n = if (L.find? (fun m => decide (m.path = n.path))).any (fun m => decide (m.kind = 1)) = true then 11 else Pl.addC L n) := rfl
  generalize Pl.wrtC L n = c at EC ⊢
  generalize Pl.putL L n = O at HFIN ⊢
  obtain ⟨np, nk, nd, nt, nm⟩ := n
  simp only [Pl.Nd.val] at hp8 HPU HFIN EC HNB ⊢
  clear hown hC hE hnb
  have b0 : Below w.heap.size w (w.alloc (.cells #[.string np, .int .i64 nk, .string nd, .int .i64 nt, .int .i64 nm] 43)) := (Below.refl _ _).alloc (Nat.le_refl _) _
  have V0 := Mem.Blk.new w #[.string np, .int .i64 nk, .string nd, .int .i64 nt, .int .i64 nm] 43
  have HM0 := hide (WNodesI.map_call (unhide HM) b0)
  have hkey := MapN.keyOf_mk (p := np) (by unfold maxLen; omega)
  have HRN := hide refuse_no
  have HRY := hide refuse_yes
  have HNO := hide need_ok
  have HNN := hide need_no
  have HNI := hide WCutF.code_nil
  have hg : ∀ {W : World}, Below w.heap.size w W → w.grownBy W (some B) := fun b => ⟨b.os, b.tape, b.output, b.size, fun j hj _ => b.block j hj⟩
  obtain ⟨m, ha2, hm⟩ : ∃ m : Pl.Nd, Hid ((MapN.mapOf L).atKey (MapN.key np) (MapN.dat ⟨⟨#[]⟩, 0, ⟨#[]⟩, 0, 0⟩) = MapN.dat m) ∧ ((m.kind = 1 ∧ c = 11) ∨ (m.kind ≠ 1 ∧ c = Pl.addC L ⟨np, nk, nd, nt, nm⟩)) := by
    cases hf : L.find? (fun m => decide (m.path = np)) with
    | none =>
      have hmiss : ∀ n ∈ L, n.path ≠ np := fun n hn => by simpa using List.find?_eq_none.1 hf n hn
      refine ⟨⟨⟨#[]⟩, 0, ⟨#[]⟩, 0, 0⟩, Maps.atKey_of_not_has (MapN.has_no hmiss) _, .inr ⟨by decide, ?_⟩⟩
      have := unhide EC
      rw [hf] at this
      simpa using this
    | some m =>
      have hm1 := List.mem_of_find?_eq_some hf
      have hm2 : m.path = np := by simpa using List.find?_some hf
      obtain ⟨y1, y2⟩ := MapN.at_yes (unhide HAP) hm1
      rw [hm2] at y2
      refine ⟨m, y2 _, ?_⟩
      have := unhide EC
      rw [hf] at this
      by_cases hk : m.kind = 1
      · exact .inl ⟨hk, by simpa [hk] using this⟩
      · exact .inr ⟨hk, by simpa [hk] using this⟩
  obtain ⟨mp, mk, md, mt, mm⟩ := m
  have hfd : ∀ (k : Int) (W : World), (Instr.field 43 (.agg #[.string mp, .int .i64 k, .string md, .int .i64 mt, .int .i64 mm]) 1).run Tryz.prog W = .ok (.int .i64 k) W := fun _ _ => by kernel_rfl
  rcases hm with ⟨hk, hc⟩ | ⟨hk, hc⟩
  · simp only at hk
    subst hk
    subst hc
    clear EC HPU HFIN HCD HRN
    go_enter Tryz.func54, Tryz.ntmps54
    go_wp2_with (at_lookup; refine MapN.look_no _ rfl _ _ 73 rfl 9 43 MapN.law Tryz.underlying73 (MapN.zeroN _) B 40 (MapN.mapOf L) rfl (unhide HM0) _ _ rfl hkey ⟨mp, 1, md, mt, mm⟩ (unhide ha2) ?_)
    refine (unhide HRY 11 _).mono ?_
    rintro e w1 ⟨rfl, rfl⟩
    go_wp2_with fail
    exact ⟨rfl, ⟨.inr ⟨by decide, rfl⟩, hg b0⟩⟩
  · simp only at hk
    have t0 : (mk == 1) = false := by simpa using hk
    have EC2 := hide hc
    clear EC HRY hk hc
    have p0 := V0.cell 0
    have p1 := V0.cell 1
    have p2 := V0.cell 2
    have p3 := V0.cell 3
    have p4 := V0.cell 4
    simp only [List.getElem?_toArray, List.getElem?_cons_zero, List.getElem?_cons_succ] at p0 p1 p2 p3 p4
    go_enter Tryz.func54, Tryz.ntmps54
    go_wp2_with (at_lookup; refine MapN.look_no _ rfl _ _ 73 rfl 9 43 MapN.law Tryz.underlying73 (MapN.zeroN _) B 40 (MapN.mapOf L) rfl (unhide HM0) _ _ rfl hkey ⟨mp, mk, md, mt, mm⟩ (unhide ha2) ?_)
    refine (unhide HRN 11 _).mono ?_
    rintro e w1 ⟨rfl, rfl⟩
    go_wp2_with fail
    refine (unhide HPU _ b0).mono ?_
    rintro e w2 ⟨h2⟩
    rcases h2 with ⟨i, hi, rfl, hco, b2⟩ | ⟨rfl, -, hadd, hD, hgr⟩
    · have bw2 := b0.trans (b2.mono b0.size)
      have hc : WIs.codeOf i = c := by rw [if_pos (unhide HNB)] at hco; rw [hco, unhide EC2]
      have hcd := hide (unhide HCD _ bw2 i hi)
      rw [hc] at hcd
      have hc0 : c ≠ 0 := by rw [← hc]; exact WCutF.code_pos i
      clear HPU HFIN HCD HNO HNI hco EC2 hc
      go_wp2_with fail
      refine (unhide hcd).mono ?_
      rintro e w3 ⟨rfl, rfl⟩
      go_wp2_with fail
      refine (unhide HNN c hc0 _).mono ?_
      rintro e w4 ⟨rfl, rfl⟩
      go_wp2_with fail
      exact ⟨rfl, ⟨.inr ⟨hc0, rfl⟩, hg bw2⟩⟩
    · have hc : c = 0 := by rw [unhide EC2, hadd]
      subst hc
      have hfin := hide (unhide HFIN _ hD)
      have hgr2 := hide (Mem.grown_trans (hg b0) hgr)
      clear HPU HFIN HCD HNN hadd EC2 hD hgr p0 p1 p2 p3 p4 V0 b0
      go_wp2_with fail
      refine (unhide HNI _).mono ?_
      rintro e w3 ⟨rfl, rfl⟩
      go_wp2_with fail
      refine (unhide HNO _).mono ?_
      rintro e w4 ⟨rfl, rfl⟩
      go_wp2_with fail
      go_end0
      exact ⟨.inl ⟨rfl, rfl, unhide hfin⟩, unhide hgr2⟩
end WPanic
end Go.Proofs.YtnmdmhokdcmhcabGreatDoor
