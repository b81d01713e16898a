/- The walk of put. -/
import Derived.Test.YtepmojmelcngeaaGreatDoorG17
import Derived.Test.YtepmojmelcngeaaGreatDoorWPutA
import Derived.Test.YtepmojmelcngeaaGreatDoorG26
import Derived.Test.YtepmojmelcngeaaGreatDoorWNodesJ
import Derived.Test.YtepmojmelcngeaaGreatDoorPlainOver
namespace Go.Proofs.YtepmojmelcngeaaGreatDoor
open Go.RowKit Go.Maps
namespace WPutI
/-- What put hands back. -/
structure PutIs (L : List Pl.Nd) (n : Pl.Nd) (x : Nat → Addr) (w w' : World) (B : Nat) (e : Ending) : Prop where
  out : (∃ i, i < 6 ∧ e = .returned (.iface 207 (.pointer (some (x i)))) ∧ WIs.codeOf i = (if Pl.nodeB n = true then Pl.addC L n else 1) ∧ Below w.heap.size w w') ∨
    (e = .returned .nilIface ∧ Pl.nodeB n = true ∧ Pl.addC L n = 0 ∧ (∃ D', w'.ownsMap Tryz.prog 9 MapN.elem B 41 D' ∧ MapN.Reads D' (L.filter (fun m => !decide (m.path = n.path)) ++ [n])) ∧ w.grownBy w' (some B))
set_option linter.unusedSimpArgs false in
set_option maxRecDepth 100000 in
set_option maxHeartbeats 2000000 in
theorem put_any (B : Nat) (L : List Pl.Nd) (n : Pl.Nd) (w : World) (hown : w.ownsMap Tryz.prog 9 MapN.elem B 40 (MapN.mapOf L)) (hC : L.Pairwise (fun a b => a.path ≠ b.path)) (hr : L.Pairwise (fun a b => Pl.ltP a.path b.path = true))
    (hok : ∀ n ∈ L, Pl.pathB n.path = true ∧ n.data.size ≤ 1048576) (hl : L.length ≤ 40) (hn : n.path.size ≤ 1048576 ∧ n.data.size ≤ 1048576) (x : Nat → Addr) (hE : WIs.Six w x) :
    Calls Tryz.prog 43 #[.map (some B), n.val] w fun e w' => PutIs L n x w w' B e := by
  have HNR := hide (fun W => WNode.impl_any n W hn.1 hn.2)
  have HPF := hide (fun W (b : Below w.heap.size w W) => WNodesI.fault_any B 40 L n.path W _ _ _ _ _ _ (hE.call b).errs (WNodesI.map_call hown b) hC hn.1)
  have HUN := hide (fun W (b : Below w.heap.size w W) => WUnderN.any B 40 L L (MapN.mapOf L) n.path W (WNodesI.map_call hown b) (by omega) (MapN.reads_mapOf hC) hC (List.Perm.refl _) hr hok (by omega) hn.1)
  have HPB : Hid (Pl.nodeB n = true → Pl.pathB n.path = true) := fun h => (Pl.node_right h).1
  have HSZ := hide (MapN.size_mapOf hC)
  have HRD := hide (MapN.reads_mapOf hC)
  have HAP := hide hC
  have E6 : Hid ((Pl.parent n.path).size ≠ 0 ∧ L.find? (fun m => decide (m.path = Pl.parent n.path)) = none → Pl.addC L n = 6) := fun h => by rw [Pl.addC, if_pos h]
  have E12 : Hid (¬ ((Pl.parent n.path).size ≠ 0 ∧ L.find? (fun m => decide (m.path = Pl.parent n.path)) = none) → Pl.dirS L (Pl.parent n.path) = false → Pl.addC L n = 12) := fun h h2 => by rw [Pl.addC, if_neg h, if_pos h2]
  have E11 : Hid (¬ ((Pl.parent n.path).size ≠ 0 ∧ L.find? (fun m => decide (m.path = Pl.parent n.path)) = none) → Pl.dirS L (Pl.parent n.path) = true → n.kind ≠ 1 ∧ Pl.overL L n.path = true → Pl.addC L n = 11) := fun h h2 h3 => by rw [Pl.addC, if_neg h, if_neg (by rw [h2]; simp), if_pos h3]
  have E9 : Hid (¬ ((Pl.parent n.path).size ≠ 0 ∧ L.find? (fun m => decide (m.path = Pl.parent n.path)) = none) → Pl.dirS L (Pl.parent n.path) = true → ¬ (n.kind ≠ 1 ∧ Pl.overL L n.path = true) → (L.find? (fun m => decide (m.path = n.path)) = none ∧ 40 ≤ L.length) → Pl.addC L n = 9) := fun h h2 h3 h4 => by rw [Pl.addC, if_neg h, if_neg (by rw [h2]; simp), if_neg h3, if_pos h4]
  have E0 : Hid (¬ ((Pl.parent n.path).size ≠ 0 ∧ L.find? (fun m => decide (m.path = Pl.parent n.path)) = none) → Pl.dirS L (Pl.parent n.path) = true → ¬ (n.kind ≠ 1 ∧ Pl.overL L n.path = true) → ¬ (L.find? (fun m => decide (m.path = n.path)) = none ∧ 40 ≤ L.length) → Pl.addC L n = 0) := fun h h2 h3 h4 => by rw [Pl.addC, if_neg h, if_neg (by rw [h2]; simp), if_neg h3, if_neg h4]
  have HPV : Hid (Pl.nodeB n = true → (Pl.parV (.iface 207 (.pointer (some (x 2)))) (.iface 207 (.pointer (some (x 3)))) L n.path = .iface 207 (.pointer (some (x 2))) ∧ ((Pl.parent n.path).size ≠ 0 ∧ L.find? (fun m => decide (m.path = Pl.parent n.path)) = none)) ∨
      (Pl.parV (.iface 207 (.pointer (some (x 2)))) (.iface 207 (.pointer (some (x 3)))) L n.path = .iface 207 (.pointer (some (x 3))) ∧ ¬ ((Pl.parent n.path).size ≠ 0 ∧ L.find? (fun m => decide (m.path = Pl.parent n.path)) = none) ∧ Pl.dirS L (Pl.parent n.path) = false) ∨
      (Pl.parV (.iface 207 (.pointer (some (x 2)))) (.iface 207 (.pointer (some (x 3)))) L n.path = .nilIface ∧ ¬ ((Pl.parent n.path).size ≠ 0 ∧ L.find? (fun m => decide (m.path = Pl.parent n.path)) = none) ∧ Pl.dirS L (Pl.parent n.path) = true)) := fun h => by
    rw [Pl.parent_right (Pl.node_right h).1]
    unfold Pl.parV Pl.dirS
    by_cases h0 : (Pl.parentP n.path).size = 0
    · right; right; simp [h0]
    · cases hf : L.find? (fun m => decide (m.path = Pl.parentP n.path)) with
      | none => left; simp [h0]
      | some m =>
        right
        by_cases hk : m.kind = 1
        · right; simp [h0, hk]
        · left; simp [h0, hk]
  have HUV : Hid (Pl.nodeB n = true → ((Pl.pieceL L n.path).length = 0 → Pl.overL L n.path = false) ∧ ((Pl.pieceL L n.path).length ≠ 0 → Pl.overL L n.path = true)) := fun h => by
    have hp := (Pl.node_right h).1
    have h2 := Pl.over_below (fun n hn => (hok n hn).1) hp
    refine ⟨fun h3 => by rw [← h2]; exact Pl.piece_none.1 h3, fun h3 => ?_⟩
    cases h4 : Pl.overL L n.path
    · rw [← h2] at h4; exact absurd (Pl.piece_none.2 h4) h3
    · rfl
  have HE := hide hE
  have HM := hide hown
  clear hE hown hC hr hok
  obtain ⟨np, nk, nd, nt, nm⟩ := n
  simp only [Pl.Nd.val] at HNR HPF HUN HPB hn E6 E12 E11 E9 E0 HPV HUV ⊢
  have b0 : Below w.heap.size w (w.alloc (.cells #[.string np, .int .i64 nk, .string nd, .int .i64 nt, .int .i64 nm] 36)) := (Below.refl _ _).alloc (Nat.le_refl _) _
  have V0 := Mem.Blk.new w #[.string np, .int .i64 nk, .string nd, .int .i64 nt, .int .i64 nm] 36
  go_enter Tryz.func43, Tryz.ntmps43
  go_wp2_with fail
  refine (unhide HNR _).mono ?_
  rintro e w1 ⟨rfl, b1⟩
  have bw1 := b0.trans (b1.mono b0.size)
  have V1 := V0.call b1
  clear b0 b1 V0 HNR
  cases hnb : Pl.nodeB ⟨np, nk, nd, nt, nm⟩
  · have k1 := ((unhide HE).call bw1).c1
    clear HPF HUN HPB E6 E12 E11 E9 E0 HPV HUV V1
    go_wp2
    go_ret
    exact ⟨.inl ⟨1, by omega, rfl, by rw [if_neg (by rw [hnb]; simp)]; rfl, bw1⟩⟩
  have hnp := unhide HPB hnb
  have p0 := V1.cell 0
  have p1 := V1.cell 1
  have p2 := V1.cell 2
  have p3 := V1.cell 3
  have p4 := V1.cell 4
  simp only [kA0, kA1, kA2] at p0 p1 p2 p3 p4
  have hpf := hide (unhide HPF w1 bw1)
  clear HPF
  obtain ⟨E2v, hE2v⟩ : ∃ v, Pl.parV (.iface 207 (.pointer (some (x 2)))) (.iface 207 (.pointer (some (x 3)))) L np = v := ⟨_, rfl⟩
  rw [hE2v] at hpf
  have HPV2 := unhide HPV hnb
  rw [hE2v] at HPV2
  rcases HPV2 with ⟨rfl, hq⟩ | ⟨rfl, hq, hq2⟩ | ⟨rfl, hq, hq2⟩
  · have FIN := hide (show (6 : Int) = Pl.addC L ⟨np, nk, nd, nt, nm⟩ from (unhide E6 hq).symm)
    clear hE2v HUN E6 E12 E11 E9 E0 HPV HUV V1 HPB hq
    go_wp2_with fail
    refine (unhide hpf).mono ?_
    rintro e w2 ⟨rfl, b2⟩
    have bw2 := bw1.trans (b2.mono bw1.size)
    clear hpf b2 p0 p1 p2 p3 p4
    go_wp2
    go_ret
    exact ⟨.inl ⟨2, by omega, rfl, by rw [if_pos hnb]; exact unhide FIN, bw2⟩⟩
  · have FIN := hide (show (12 : Int) = Pl.addC L ⟨np, nk, nd, nt, nm⟩ from (unhide E12 hq hq2).symm)
    clear hE2v HUN E6 E12 E11 E9 E0 HPV HUV V1 HPB hq hq2
    go_wp2_with fail
    refine (unhide hpf).mono ?_
    rintro e w2 ⟨rfl, b2⟩
    have bw2 := bw1.trans (b2.mono bw1.size)
    clear hpf b2 p0 p1 p2 p3 p4
    go_wp2
    go_ret
    exact ⟨.inl ⟨3, by omega, rfl, by rw [if_pos hnb]; exact unhide FIN, bw2⟩⟩
  · have Q1 := hide hq
    have Q0 := hide hq2
    clear hE2v hq hq2 HPV
    go_wp2_with fail
    refine (unhide hpf).mono ?_
    rintro e w2 ⟨rfl, b2⟩
    have bw2 := bw1.trans (b2.mono bw1.size)
    have V2 := V1.call b2
    clear hpf b2 p0 p1 p2 p3 p4 V1 bw1
    have p0 := V2.cell 0
    have p1 := V2.cell 1
    have p2 := V2.cell 2
    have p3 := V2.cell 3
    have p4 := V2.cell 4
    simp only [kA0, kA1, kA2] at p0 p1 p2 p3 p4
    by_cases hk1 : nk = 1
    · subst hk1
      have Q2 : Hid (¬ ((1 : Int) ≠ 1 ∧ Pl.overL L np = true)) := fun h => h.1 rfl
      clear HUN HUV HPB p0 p1 p2 p3 p4
      have BW := bw2
      clear bw2
      have V3 := V2
      clear V2
      have hkey := MapN.keyOf_mk (p := np) (by unfold maxLen; omega)
      have MW := hide (WNodesI.map_call (unhide HM) BW)
      have EW := hide ((unhide HE).call BW)
      have k5 : ∀ o, (w2.alloc o).cell? ⟨2, 0, none⟩ = some (.iface 207 (.pointer (some (x 5)))) := fun o => (World.cell?_alloc_some _ _ _ (by rw [(unhide EW).c5]; rfl)).trans (unhide EW).c5
      have hln : ∀ o ty, (Builtin.len_ #[74] ty #[.map (some B)]).run Tryz.prog (w2.alloc o) = .ok (.int .i64 (L.length : Int)) (w2.alloc o) := fun o ty => by have h := ((unhide MW).alloc o).len Tryz.underlying74 ty; rw [unhide HSZ] at h; exact h
      clear HE
      have pa0 : ∀ o, (w2.alloc o).cell? ⟨w.heap.size, 0, none⟩ = some (.string np) := fun o => (V3.alloc o).cell 0
      have pa1 : ∀ o, (w2.alloc o).cell? ⟨w.heap.size, 1, none⟩ = some (.int .i64 1) := fun o => (V3.alloc o).cell 1
      have pa2 : ∀ o, (w2.alloc o).cell? ⟨w.heap.size, 2, none⟩ = some (.string nd) := fun o => (V3.alloc o).cell 2
      have pa3 : ∀ o, (w2.alloc o).cell? ⟨w.heap.size, 3, none⟩ = some (.int .i64 nt) := fun o => (V3.alloc o).cell 3
      have pa4 : ∀ o, (w2.alloc o).cell? ⟨w.heap.size, 4, none⟩ = some (.int .i64 nm) := fun o => (V3.alloc o).cell 4
      have p0 := V3.cell 0
      have p1 := V3.cell 1
      have p2 := V3.cell 2
      have p3 := V3.cell 3
      have p4 := V3.cell 4
      simp only [kA0, kA1, kA2] at p0 p1 p2 p3 p4
      cases hf : L.find? (fun m => decide (m.path = np)) with
      | none =>
        have hmiss : ∀ m ∈ L, m.path ≠ np := fun m hm => by simpa using List.find?_eq_none.1 hf m hm
        have ha := hide (MapN.has_no hmiss)
        have ha2 := hide (show (MapN.mapOf L).atKey (MapN.key np) (MapN.dat ⟨⟨#[]⟩, 0, ⟨#[]⟩, 0, 0⟩) = MapN.dat ⟨⟨#[]⟩, 0, ⟨#[]⟩, 0, 0⟩ from (MapN.mapOf_miss np L (.map []) hmiss).2 _)
        by_cases h40 : L.length = 40
        · have t40 : ((L.length : Int) == 40) = true := by simp; omega
          have FIN := hide (show (9 : Int) = Pl.addC L ⟨np, 1, nd, nt, nm⟩ from (unhide E9 (unhide Q1) (unhide Q0) (unhide Q2) ⟨hf, by omega⟩).symm)
          clear hmiss hf EW
          go_wp2_with (at_lookup; refine MapN.look_ok _ rfl _ _ 74 rfl 9 36 MapN.law Tryz.underlying74 (MapN.zeroN _) B 40 (MapN.mapOf L) rfl (unhide MW) _ _ rfl hkey ⟨⟨#[]⟩, 0, ⟨#[]⟩, 0, 0⟩ (unhide ha2) false (unhide ha) ?_)
          go_ret
          exact ⟨.inl ⟨5, by omega, rfl, by rw [if_pos hnb]; exact unhide FIN, BW.alloc BW.size _⟩⟩
        · have t40 : ((L.length : Int) == 40) = false := by simp; omega
          have FIN := hide (show Pl.addC L ⟨np, 1, nd, nt, nm⟩ = 0 from unhide E0 (unhide Q1) (unhide Q0) (unhide Q2) (fun h => by omega))
          have RP := hide (MapN.reads_put (unhide HRD) (MapN.mapOf_isMap L) ⟨np, 1, nd, nt, nm⟩)
          clear hmiss hf EW
          go_wp2_with (first | (at_lookup; refine MapN.look_ok _ rfl _ _ 74 rfl 9 36 MapN.law Tryz.underlying74 (MapN.zeroN _) B 40 (MapN.mapOf L) rfl (unhide MW) _ _ rfl hkey ⟨⟨#[]⟩, 0, ⟨#[]⟩, 0, 0⟩ (unhide ha2) false (unhide ha) ?_) | (at_mapUpdate; refine wpList_mapUpdate_own _ rfl _ _ _ 74 rfl 9 36 MapN.law Tryz.underlying74 _ B 40 _ rfl ((unhide MW).alloc _) (by unfold maxLen; omega) _ _ _ rfl rfl hkey _ [] (MapN.elem_mk ⟨np, 1, nd, nt, nm⟩) ?_))
          intro wZ hownZ hgrowZ
          have FZ := hide (show (∃ D', wZ.ownsMap Tryz.prog 9 MapN.elem B 41 D' ∧ MapN.Reads D' (L.filter (fun m => !decide (m.path = np)) ++ [⟨np, 1, nd, nt, nm⟩])) ∧ w.grownBy wZ (some B) from ⟨⟨_, hownZ, unhide RP⟩, Mem.grown_trans (Mem.grown_of_below (BW.alloc BW.size _) _) hgrowZ⟩)
          clear hownZ hgrowZ RP MW ha ha2
          go_wp2
          go_ret
          exact ⟨.inr ⟨rfl, hnb, unhide FIN, unhide FZ⟩⟩
      | some m =>
        have h1 := List.mem_of_find?_eq_some hf
        have h2 : m.path = np := by simpa using List.find?_some hf
        have hy := MapN.at_yes (unhide HAP) h1
        rw [h2] at hy
        have ha := hide hy.1
        have ha2 := hide (hy.2 (MapN.dat ⟨⟨#[]⟩, 0, ⟨#[]⟩, 0, 0⟩))
        have FIN := hide (show Pl.addC L ⟨np, 1, nd, nt, nm⟩ = 0 from unhide E0 (unhide Q1) (unhide Q0) (unhide Q2) (fun h => by rw [hf] at h; cases h.1))
        have RP := hide (MapN.reads_put (unhide HRD) (MapN.mapOf_isMap L) ⟨np, 1, nd, nt, nm⟩)
        clear h1 h2 hy hf EW
        go_wp2_with (first | (at_lookup; refine MapN.look_ok _ rfl _ _ 74 rfl 9 36 MapN.law Tryz.underlying74 (MapN.zeroN _) B 40 (MapN.mapOf L) rfl (unhide MW) _ _ rfl hkey m (unhide ha2) true (unhide ha) ?_) | (at_mapUpdate; refine wpList_mapUpdate_own _ rfl _ _ _ 74 rfl 9 36 MapN.law Tryz.underlying74 _ B 40 _ rfl ((unhide MW).alloc _) (by unfold maxLen; omega) _ _ _ rfl rfl hkey _ [] (MapN.elem_mk ⟨np, 1, nd, nt, nm⟩) ?_))
        intro wZ hownZ hgrowZ
        have FZ := hide (show (∃ D', wZ.ownsMap Tryz.prog 9 MapN.elem B 41 D' ∧ MapN.Reads D' (L.filter (fun m => !decide (m.path = np)) ++ [⟨np, 1, nd, nt, nm⟩])) ∧ w.grownBy wZ (some B) from ⟨⟨_, hownZ, unhide RP⟩, Mem.grown_trans (Mem.grown_of_below (BW.alloc BW.size _) _) hgrowZ⟩)
        clear hownZ hgrowZ RP MW ha ha2
        go_wp2
        go_ret
        exact ⟨.inr ⟨rfl, hnb, unhide FIN, unhide FZ⟩⟩
    · have tk : (nk == 1) = false := by simpa using hk1
      have tk2 : (nk != 1) = true := by simpa using hk1
      have hun := hide (unhide HUN w2 bw2)
      clear HUN
      go_wp2_with fail
      refine (unhide hun).mono ?_
      rintro e w3 ⟨a3, rfl, -, -, b3⟩
      have BW := bw2.trans (b3.mono bw2.size)
      have V3 := V2.call b3
      have HUV2 := unhide HUV hnb
      clear hun b3 p0 p1 p2 p3 p4 V2 bw2 HUV
      generalize (Pl.pieceL L np).length = PL at HUV2 ⊢
      by_cases hpl : PL = 0
      · have Q2 : Hid (¬ (nk ≠ 1 ∧ Pl.overL L np = true)) := fun h => by rw [HUV2.1 hpl] at h; cases h.2
        subst hpl
        clear HUV2 HPB
        have hkey := MapN.keyOf_mk (p := np) (by unfold maxLen; omega)
        have MW := hide (WNodesI.map_call (unhide HM) BW)
        have EW := hide ((unhide HE).call BW)
        have k5 : ∀ o, (w3.alloc o).cell? ⟨2, 0, none⟩ = some (.iface 207 (.pointer (some (x 5)))) := fun o => (World.cell?_alloc_some _ _ _ (by rw [(unhide EW).c5]; rfl)).trans (unhide EW).c5
        have hln : ∀ o ty, (Builtin.len_ #[74] ty #[.map (some B)]).run Tryz.prog (w3.alloc o) = .ok (.int .i64 (L.length : Int)) (w3.alloc o) := fun o ty => by have h := ((unhide MW).alloc o).len Tryz.underlying74 ty; rw [unhide HSZ] at h; exact h
        clear HE
        have pa0 : ∀ o, (w3.alloc o).cell? ⟨w.heap.size, 0, none⟩ = some (.string np) := fun o => (V3.alloc o).cell 0
        have pa1 : ∀ o, (w3.alloc o).cell? ⟨w.heap.size, 1, none⟩ = some (.int .i64 nk) := fun o => (V3.alloc o).cell 1
        have pa2 : ∀ o, (w3.alloc o).cell? ⟨w.heap.size, 2, none⟩ = some (.string nd) := fun o => (V3.alloc o).cell 2
        have pa3 : ∀ o, (w3.alloc o).cell? ⟨w.heap.size, 3, none⟩ = some (.int .i64 nt) := fun o => (V3.alloc o).cell 3
        have pa4 : ∀ o, (w3.alloc o).cell? ⟨w.heap.size, 4, none⟩ = some (.int .i64 nm) := fun o => (V3.alloc o).cell 4
        have p0 := V3.cell 0
        have p1 := V3.cell 1
        have p2 := V3.cell 2
        have p3 := V3.cell 3
        have p4 := V3.cell 4
        simp only [kA0, kA1, kA2] at p0 p1 p2 p3 p4
        cases hf : L.find? (fun m => decide (m.path = np)) with
        | none =>
          have hmiss : ∀ m ∈ L, m.path ≠ np := fun m hm => by simpa using List.find?_eq_none.1 hf m hm
          have ha := hide (MapN.has_no hmiss)
          have ha2 := hide (show (MapN.mapOf L).atKey (MapN.key np) (MapN.dat ⟨⟨#[]⟩, 0, ⟨#[]⟩, 0, 0⟩) = MapN.dat ⟨⟨#[]⟩, 0, ⟨#[]⟩, 0, 0⟩ from (MapN.mapOf_miss np L (.map []) hmiss).2 _)
          by_cases h40 : L.length = 40
          · have t40 : ((L.length : Int) == 40) = true := by simp; omega
            have FIN := hide (show (9 : Int) = Pl.addC L ⟨np, nk, nd, nt, nm⟩ from (unhide E9 (unhide Q1) (unhide Q0) (unhide Q2) ⟨hf, by omega⟩).symm)
            clear hmiss hf EW
            go_wp2_with (at_lookup; refine MapN.look_ok _ rfl _ _ 74 rfl 9 36 MapN.law Tryz.underlying74 (MapN.zeroN _) B 40 (MapN.mapOf L) rfl (unhide MW) _ _ rfl hkey ⟨⟨#[]⟩, 0, ⟨#[]⟩, 0, 0⟩ (unhide ha2) false (unhide ha) ?_)
            go_ret
            exact ⟨.inl ⟨5, by omega, rfl, by rw [if_pos hnb]; exact unhide FIN, BW.alloc BW.size _⟩⟩
          · have t40 : ((L.length : Int) == 40) = false := by simp; omega
            have FIN := hide (show Pl.addC L ⟨np, nk, nd, nt, nm⟩ = 0 from unhide E0 (unhide Q1) (unhide Q0) (unhide Q2) (fun h => by omega))
            have RP := hide (MapN.reads_put (unhide HRD) (MapN.mapOf_isMap L) ⟨np, nk, nd, nt, nm⟩)
            clear hmiss hf EW
            go_wp2_with (first | (at_lookup; refine MapN.look_ok _ rfl _ _ 74 rfl 9 36 MapN.law Tryz.underlying74 (MapN.zeroN _) B 40 (MapN.mapOf L) rfl (unhide MW) _ _ rfl hkey ⟨⟨#[]⟩, 0, ⟨#[]⟩, 0, 0⟩ (unhide ha2) false (unhide ha) ?_) | (at_mapUpdate; refine wpList_mapUpdate_own _ rfl _ _ _ 74 rfl 9 36 MapN.law Tryz.underlying74 _ B 40 _ rfl ((unhide MW).alloc _) (by unfold maxLen; omega) _ _ _ rfl rfl hkey _ [] (MapN.elem_mk ⟨np, nk, nd, nt, nm⟩) ?_))
            intro wZ hownZ hgrowZ
            have FZ := hide (show (∃ D', wZ.ownsMap Tryz.prog 9 MapN.elem B 41 D' ∧ MapN.Reads D' (L.filter (fun m => !decide (m.path = np)) ++ [⟨np, nk, nd, nt, nm⟩])) ∧ w.grownBy wZ (some B) from ⟨⟨_, hownZ, unhide RP⟩, Mem.grown_trans (Mem.grown_of_below (BW.alloc BW.size _) _) hgrowZ⟩)
            clear hownZ hgrowZ RP MW ha ha2
            go_wp2
            go_ret
            exact ⟨.inr ⟨rfl, hnb, unhide FIN, unhide FZ⟩⟩
        | some m =>
          have h1 := List.mem_of_find?_eq_some hf
          have h2 : m.path = np := by simpa using List.find?_some hf
          have hy := MapN.at_yes (unhide HAP) h1
          rw [h2] at hy
          have ha := hide hy.1
          have ha2 := hide (hy.2 (MapN.dat ⟨⟨#[]⟩, 0, ⟨#[]⟩, 0, 0⟩))
          have FIN := hide (show Pl.addC L ⟨np, nk, nd, nt, nm⟩ = 0 from unhide E0 (unhide Q1) (unhide Q0) (unhide Q2) (fun h => by rw [hf] at h; cases h.1))
          have RP := hide (MapN.reads_put (unhide HRD) (MapN.mapOf_isMap L) ⟨np, nk, nd, nt, nm⟩)
          clear h1 h2 hy hf EW
          go_wp2_with (first | (at_lookup; refine MapN.look_ok _ rfl _ _ 74 rfl 9 36 MapN.law Tryz.underlying74 (MapN.zeroN _) B 40 (MapN.mapOf L) rfl (unhide MW) _ _ rfl hkey m (unhide ha2) true (unhide ha) ?_) | (at_mapUpdate; refine wpList_mapUpdate_own _ rfl _ _ _ 74 rfl 9 36 MapN.law Tryz.underlying74 _ B 40 _ rfl ((unhide MW).alloc _) (by unfold maxLen; omega) _ _ _ rfl rfl hkey _ [] (MapN.elem_mk ⟨np, nk, nd, nt, nm⟩) ?_))
          intro wZ hownZ hgrowZ
          have FZ := hide (show (∃ D', wZ.ownsMap Tryz.prog 9 MapN.elem B 41 D' ∧ MapN.Reads D' (L.filter (fun m => !decide (m.path = np)) ++ [⟨np, nk, nd, nt, nm⟩])) ∧ w.grownBy wZ (some B) from ⟨⟨_, hownZ, unhide RP⟩, Mem.grown_trans (Mem.grown_of_below (BW.alloc BW.size _) _) hgrowZ⟩)
          clear hownZ hgrowZ RP MW ha ha2
          go_wp2
          go_ret
          exact ⟨.inr ⟨rfl, hnb, unhide FIN, unhide FZ⟩⟩
      · have tpl : (0 : Int) < (PL : Int) := by omega
        have FIN := hide (show (11 : Int) = Pl.addC L ⟨np, nk, nd, nt, nm⟩ from (unhide E11 (unhide Q1) (unhide Q0) ⟨hk1, HUV2.2 hpl⟩).symm)
        have k4 := ((unhide HE).call BW).c4
        clear HUV2 E6 E12 E11 E9 E0 HPB V3 Q0 Q1
        go_wp2
        go_ret
        exact ⟨.inl ⟨4, by omega, rfl, by rw [if_pos hnb]; exact unhide FIN, BW⟩⟩
end WPutI
end Go.Proofs.YtepmojmelcngeaaGreatDoor
