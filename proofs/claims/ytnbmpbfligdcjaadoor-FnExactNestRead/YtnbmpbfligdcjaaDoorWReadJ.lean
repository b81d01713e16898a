/- The walk of the program's TreeRead. -/
import Derived.Test.YtnbmpbfligdcjaaDoorPlainRead
import Derived.Test.YtnbmpbfligdcjaaDoorG26
import Derived.Test.YtnbmpbfligdcjaaDoorWReadE
import Derived.Test.YtnbmpbfligdcjaaDoorG12
import Derived.Test.YtnbmpbfligdcjaaDoorG15
namespace Go.Proofs.YtnbmpbfligdcjaaDoor
open Go.RowKit
namespace WReadJ
theorem infoN : (Tryd.prog.info? 57).map (fun i => (i.zero, i.size, i.bytes)) = some (some (.agg #[.string ⟨#[]⟩, .int .i64 0, .string ⟨#[]⟩, .int .i64 0, .int .i64 0]), 5, 56) := by kernel_rfl
theorem Ks_drew {w wr : World} {X2 X3 X4 B : Nat} {rc : Array Value} {T : TypeId} {v : Value} {L : List Pl.Nd} (h : WReadK.Ks w wr X2 X3 X4 B rc T v L) : WReadK.Ks w wr.drew X2 X3 X4 B rc T v L := h.call ⟨rfl, rfl, rfl, Nat.le_refl _, fun _ _ => rfl⟩
set_option linter.unusedSimpArgs false in
set_option maxRecDepth 100000 in
set_option maxHeartbeats 2000000 in
theorem impl_any (s : ByteArray) (w : World) (r1 r2 r3 : TypeId) (x1 x2 x3 : Value) (hE : WNodesI.Errs w r1 r2 r3 x1 x2 x3) :
    Calls Tryd.prog 13 #[.string s] w fun e w' => ∃ v, e = .returned (.agg #[v, .int .i64 (Pl.readO s).2]) ∧ Mem.ownN w' w.heap.size v (Pl.readO s).1 ∧ Below w.heap.size w w' := by
  obtain ⟨i0, hi, hz0, hz1, hz2⟩ := info_parts infoN
  by_cases h8 : 8000 < s.size
  · have t0 : (8000 : Int) < (s.size : Int) := by omega
    rw [Pl.readO_long h8]
    have b0 : ∀ o, Below w.heap.size w (w.alloc o) := fun o => (Below.refl _ _).alloc (Nat.le_refl _) o
    clear hE
    go_enter Tryd.func13, Tryd.ntmps13
    go_wp2
    refine bodyPost_ret (v := .agg #[.slice none 0 0, .int .i64 2]) (by simp [results, Tryd.results13, go_sem]) rfl ⟨.slice none 0 0, rfl, Mem.ownN_nil _ _, b0 _⟩
  have t0 : ¬ (8000 : Int) < (s.size : Int) := by omega
  have h8' : s.size ≤ 8000 := by omega
  have R0 : Hid (WReadI.Rd (((w.alloc (.cells #[.slice none 0 0, .int .i64 0] 34)).alloc (.cells #[.string s, .int .i64 0, .nilIface] 71)).alloc (.cells #[.slice none 0 0] 29)) (w.heap.size + 1) s 0 none) := hide (Mem.new_mid w _ _ _)
  have K0 : Hid (WReadK.Ks w (((w.alloc (.cells #[.slice none 0 0, .int .i64 0] 34)).alloc (.cells #[.string s, .int .i64 0, .nilIface] 71)).alloc (.cells #[.slice none 0 0] 29)) w.heap.size (w.heap.size + 1) (w.heap.size + 1 + 1) (w.heap.size + 1 + 1 + 1) #[.string s, .int .i64 0, .nilIface] 71 (.slice none 0 0) []) :=
    hide ⟨(((Below.refl _ _).alloc (Nat.le_refl _) _).alloc (by simp) _).alloc (by simp; omega) _, by simp, ((Mem.Blk.new w _ _).alloc _).alloc _, Mem.new_mid w _ _ _, Mem.new_three w _ _ _, Mem.ownN_nil _ _, by omega, by omega, by omega, by omega, by omega, by omega⟩
  have HM := hide (Pl.count_cases s)
  have hnum := hide (WReadI.num_any (w.heap.size + 1) s 0 none _ h8' (by omega) (unhide R0))
  generalize hMM : Pl.numR s 0 none = MM at hnum HM
  obtain ⟨mc, ma, mf⟩ := MM
  simp only at hnum HM
  clear hMM
  have HRN : Hid (Pl.treeR s = none → Pl.readO s = ([], 3)) := hide (fun h => Pl.readO_none h8 h)
  have HRS : Hid (∀ L, Pl.treeR s = some L → Pl.readO s = (L, 0)) := hide (fun L h => Pl.readO_some h8 h)
  generalize hRR : Pl.readO s = RR at HRN HRS ⊢
  have HE := hide (fun W (b : Below w.heap.size w W) => hE.call b)
  clear hRR hE
  go_enter Tryd.func13, Tryd.ntmps13
  go_wp2_with fail
  generalize (((w.alloc (.cells #[.slice none 0 0, .int .i64 0] 34)).alloc (.cells #[.string s, .int .i64 0, .nilIface] 71)).alloc (.cells #[.slice none 0 0] 29)) = w3 at K0 R0 hnum ⊢
  refine (unhide hnum).mono ?_
  rintro e w1 ⟨rfl, hrd, hgr⟩
  have K1 := hide ((unhide K0).read hgr hrd)
  clear hnum K0 R0 hrd hgr
  rcases unhide HM with ⟨c, q, hg, hc40, hq0, hqs, hme⟩ | ⟨hout, hno⟩ | ⟨code, rfl, rfl, rfl, hno⟩
  rotate_left
  · have HNO : Hid (RR = ([], 3)) := hide (unhide HRN hno)
    clear HM HRN HRS hno HE
    by_cases hneg : mc < 0
    · skip
      have z0 := (unhide K1).x2.cell 0
      have z1 := (unhide K1).x2.cell 1
      simp only [kA0, kA1, kA2] at z0 z1
      have zf0 := (unhide K1).x2.fr 0
      have zf1 := (unhide K1).x2.fr 1
      go_wp2
      refine bodyPost_ret (v := .agg #[.slice none 0 0, .int .i64 3]) (by simp [results, Tryd.results13, go_sem, z0, z1]) rfl ⟨.slice none 0 0, by rw [unhide HNO], by rw [unhide HNO]; exact Mem.ownN_nil _ _, ((unhide K1).done _ _).2⟩
    · have hbig : 40 < mc := by omega
      have z0 := (unhide K1).x2.cell 0
      have z1 := (unhide K1).x2.cell 1
      simp only [kA0, kA1, kA2] at z0 z1
      have zf0 := (unhide K1).x2.fr 0
      have zf1 := (unhide K1).x2.fr 1
      go_wp2
      refine bodyPost_ret (v := .agg #[.slice none 0 0, .int .i64 3]) (by simp [results, Tryd.results13, go_sem, z0, z1]) rfl ⟨.slice none 0 0, by rw [unhide HNO], by rw [unhide HNO]; exact Mem.ownN_nil _ _, ((unhide K1).done _ _).2⟩
  · have HNO : Hid (RR = ([], 3)) := hide (unhide HRN hno)
    clear HM HRN HRS hno
    have hend := hide (WReadI.end_any (w.heap.size + 1) s 0 (some code) w1 (unhide K1).x3)
    have hef : WReadI.endR s 0 (some code) = false := rfl
    rw [hef] at hend
    go_wp2
    go_loopw [21] (fun i wr => i = .int .i64 0 ∧ wr = w1) (fun _ _ => 0)
    case atStart => exact ⟨rfl, rfl⟩
    case round =>
      obtain ⟨rfl, rfl⟩ := hrel
      go_wp2_with fail
      refine (unhide hend).mono ?_
      rintro e w5 ⟨rfl, b5⟩
      have K5 := hide ((unhide K1).call b5)
      clear hend b5
      have z0 := (unhide K5).x2.cell 0
      have z1 := (unhide K5).x2.cell 1
      simp only [kA0, kA1, kA2] at z0 z1
      have zf0 := (unhide K5).x2.fr 0
      have zf1 := (unhide K5).x2.fr 1
      go_wp2
      refine bodyPost_ret (v := .agg #[.slice none 0 0, .int .i64 3]) (by simp [results, Tryd.results13, go_sem, z0, z1]) rfl ⟨.slice none 0 0, by rw [unhide HNO], by rw [unhide HNO]; exact Mem.ownN_nil _ _, ((unhide K5).done _ _).2⟩
  · obtain ⟨e1, e2, e3⟩ : mc = (c : Int) ∧ ma = (q : Int) ∧ mf = none := by simp only [Prod.mk.injEq] at hme; exact hme
    subst e1 e2 e3
    have HFN : Hid (RR = if (Pl.steps s (q : Int) c).f = none ∧ (Pl.steps s (q : Int) c).a = (s.size : Int) ∧ Pl.treeB (Pl.steps s (q : Int) c).L = true then ((Pl.steps s (q : Int) c).L, 0) else ([], 3)) := hide (by
      have h' := Pl.treeR_fin hg hc40
      by_cases hcond : (Pl.steps s (q : Int) c).f = none ∧ (Pl.steps s (q : Int) c).a = (s.size : Int) ∧ Pl.treeB (Pl.steps s (q : Int) c).L = true
      · rw [if_pos hcond] at h' ⊢; exact unhide HRS _ h'
      · rw [if_neg hcond] at h' ⊢; exact unhide HRN h')
    have HSM : Hid (∀ j, (Pl.steps s (q : Int) j).f = none → ∀ n ∈ (Pl.steps s (q : Int) j).L, n.path.size ≤ 1048576 ∧ n.data.size ≤ 1048576) := hide (fun j hf n hn => by
      obtain ⟨-, -, -, -, -, h⟩ := Pl.steps_none hqs j hf
      have := h n hn
      omega)
    have HBD : Hid (∀ j, (Pl.steps s (q : Int) j).a ≤ 9223372036854775807) := hide (fun j => Pl.steps_bound h8' (by omega) j)
    have HST : Hid (∀ j, Pl.steps s (q : Int) (j + 1) = ⟨(Pl.steps s (q : Int) j).L ++ [(Pl.nodeR s (Pl.steps s (q : Int) j).a (Pl.steps s (q : Int) j).f).n], (Pl.nodeR s (Pl.steps s (q : Int) j).a (Pl.steps s (q : Int) j).f).a, (Pl.nodeR s (Pl.steps s (q : Int) j).a (Pl.steps s (q : Int) j).f).f⟩) := hide (fun j => rfl)
    have HZ : Hid ((Pl.steps s (q : Int) 0).L = [] ∧ (Pl.steps s (q : Int) 0).a = (q : Int) ∧ (Pl.steps s (q : Int) 0).f = none) := hide ⟨rfl, rfl, rfl⟩
    have HLN : Hid (∀ j, (Pl.steps s (q : Int) j).L.length = j) := hide (fun j => Pl.steps_len s (q : Int) j)
    generalize Pl.steps s (q : Int) = ST at HFN HSM HBD HST HZ HLN
    have v0 : ¬ (c : Int) < 0 := by omega
    have v1 : ¬ (40 : Int) < (c : Int) := by omega
    clear hme hg HM HRN HRS
    go_wp2
    go_loopw [21] (fun i wr => ∃ (j : Nat) (a : Int) (f : Option Int) (v : Value) (L : List Pl.Nd), i = .int .i64 (j : Int) ∧ j ≤ c ∧ Hid (WReadK.Ks w wr w.heap.size (w.heap.size + 1) (w.heap.size + 1 + 1) (w.heap.size + 1 + 1 + 1) #[.string s, .int .i64 a, WReadI.fv f] 71 v L) ∧ Hid ((ST j).L = L ∧ (ST j).a = a ∧ (ST j).f = f)) (fun i _ => c - (intOf i).toNat)
    case atStart => exact ⟨0, (q : Int), none, _, [], rfl, by omega, K1, HZ⟩
    case round =>
      obtain ⟨j, a, f, v, L, rfl, hjc, KK, HH⟩ := hrel
      clear K1 HZ
      by_cases hlt : j < c
      · have u1 : (j : Int) < (c : Int) := by omega
        obtain ⟨h1, h2, h3⟩ := unhide HH
        have hab := unhide HBD j
        have hst := unhide HST j
        have hlen : L.length ≤ 40 := by rw [← h1, unhide HLN]; omega
        rw [h1, h2, h3] at hst
        rw [h2] at hab
        obtain ⟨⟨⟨p1, p2, p3, p4, p5⟩, a5, f5⟩, hnr⟩ : ∃ r, Pl.nodeR s a f = r := ⟨_, rfl⟩
        rw [hnr] at hst
        have hnode := hide (fun W hv => WReadI.node_any (w.heap.size + 1) s a f W h8' hab hv)
        rw [hnr] at hnode
        simp only [Pl.Nd.val] at hnode hst
        have HCASE : Hid ((ST (j + 1)).L = L ++ [⟨p1, p2, p3, p4, p5⟩] ∧ (ST (j + 1)).a = a5 ∧ (ST (j + 1)).f = f5) := hide (by rw [hst]; exact ⟨rfl, rfl, rfl⟩)
        obtain ⟨va, vc0, rfl⟩ := Mem.own_shape (unhide KK).row
        have KC := hide (Ks_drew (unhide KK))
        clear hst h1 h2 h3 HH hnr hab HFN HSM HBD HST HLN KK HE
        go_wp2_with fail
        refine wp_region_held_drew (S := fun _ => True) (by kernel_rfl) ?_ (fun hHeld => ?_)
        · trivial
        refine wpAnyH_take (i := 0) (v := ?_) rfl (by kernel_rfl) (by kernel_rfl) (by kernel_rfl) (fun _ _ _ h => h) (Or.inl ⟨by rfl, ?_⟩) (by assumption) ?_
        rotate_left
        · (intro w hSw; (try dsimp only at hSw); go_simp; (try with_reducible rfl))
        try simp only [Act.put, kB0, kB1, kB2, kB3, kB4, kB5]
        refine wpAnyH_ready (rs := [1, 2]) (by kernel_rfl) (by simp) ?_
        refine AllReadyH.cons rfl (fun K hK => ?_) (AllReadyH.cons rfl (fun K hK => ?_) AllReadyH.nil)
        · have c40 := (unhide KC).x4.cell 0
          simp only [kA0, kA1, kA2] at c40
          go_simp
          clear c40
          refine hK.out _ _ trivial (fun _ => ?_)
          clear hK K
          try simp only [Act.put, kB0, kB1, kB2, kB3, kB4, kB5]
          refine wpAnyH_ready (rs := [2]) (by kernel_rfl) (by simp) ?_
          refine AllReadyH.cons rfl (fun K hK => ?_) AllReadyH.nil
          go_simp
          refine (unhide hnode _ (unhide KC).x3).mono ?_
          rintro e wX ⟨rfl, hrd, hgr⟩
          replace KC := hide ((unhide KC).read hgr hrd)
          clear hrd hgr
          refine hK.out _ _ trivial (fun _ => ?_)
          clear hK K
          try simp only [Act.put, kB0, kB1, kB2, kB3, kB4, kB5]
          refine wpAnyH_ready (rs := [3]) (by kernel_rfl) (by simp) ?_
          refine AllReadyH.cons rfl (fun K hK => ?_) AllReadyH.nil
          go_simp
          refine hK.out _ _ trivial (fun _ => ?_)
          clear hK K
          try simp only [Act.put, kB0, kB1, kB2, kB3, kB4, kB5]
          refine wpAnyH_ready (rs := [4]) (by kernel_rfl) (by simp) ?_
          refine AllReadyH.cons rfl (fun K hK => ?_) AllReadyH.nil
          refine Mem.step_append_own rfl _ _ 27 rfl (w.heap.size + 1 + 1 + 1) 57 i0 _ 5 56 Tryd.underlying27 hi hz0 hz1 hz2 rfl (by decide) (.slice va L.length vc0) L.length (Pl.cellsN L) rfl (Mem.ownN_alloc (unhide KC).row (.cells #[.string p1, .int .i64 p2, .string p3, .int .i64 p4, .int .i64 p5] 57)) ⟨wX.heap.size, 0, none⟩ 1 1 [.string p1, .int .i64 p2, .string p3, .int .i64 p4, .int .i64 p5] rfl rfl (Mem.cs_new wX ⟨p1, p2, p3, p4, p5⟩ _) (Mem.cs_one ⟨p1, p2, p3, p4, p5⟩) (by unfold maxLen; omega) (by omega) (by have := (unhide KC).big; simp; omega) ?_
          intro v' w4 own' hgrow
          have M4 := (unhide KC).mid (o := .cells #[.string p1, .int .i64 p2, .string p3, .int .i64 p4, .int .i64 p5] 57) hgrow
          have K3 := hide ((unhide KC).put (n := ⟨p1, p2, p3, p4, p5⟩) (o := .cells #[.string p1, .int .i64 p2, .string p3, .int .i64 p4, .int .i64 p5] 57) own' hgrow)
          obtain ⟨vb, vc, rfl⟩ := Mem.own_shape own'
          have m0 := M4.cell 0
          have m1 := M4.fr 0
          simp only [kA0, kA1, kA2] at m0
          clear M4 own' hgrow KC
          refine hK.out _ _ trivial (fun _ => ?_)
          clear hK K
          try simp only [Act.put, kB0, kB1, kB2, kB3, kB4, kB5]
          refine wpAnyH_take (i := 5) (v := ?_) rfl (by kernel_rfl) (by kernel_rfl) (by kernel_rfl) (fun _ _ _ h => h) (Or.inl ⟨by rfl, ?_⟩) (by assumption) ?_
          rotate_left
          · (intro w hSw; (try dsimp only at hSw); go_simp; (try with_reducible rfl))
          try simp only [Act.put, kB0, kB1, kB2, kB3, kB4, kB5]
          refine wpAnyH_ready (rs := [6]) (by kernel_rfl) (by simp) ?_
          refine AllReadyH.cons rfl (fun K hK => ?_) AllReadyH.nil
          go_simp
          refine hK.out _ _ trivial (fun _ => ?_)
          clear hK K
          try simp only [Act.put, kB0, kB1, kB2, kB3, kB4, kB5]
          refine wpAnyH_done (by kernel_rfl) ?_ _
          have HC2 := hide (unhide HCASE)
          clear m0 m1 HCASE hnode
          go_wp2
          go_roundw
          case rel => exact ⟨j + 1, a5, f5, _, _, by go_num, by omega, K3, unhide HC2⟩
          case measure => simp [intOf]; omega
        · go_simp
          refine (unhide hnode _ (unhide KC).x3).mono ?_
          rintro e wX ⟨rfl, hrd, hgr⟩
          replace KC := hide ((unhide KC).read hgr hrd)
          clear hrd hgr
          refine hK.out _ _ trivial (fun _ => ?_)
          clear hK K
          try simp only [Act.put, kB0, kB1, kB2, kB3, kB4, kB5]
          refine wpAnyH_ready (rs := [1, 3]) (by kernel_rfl) (by simp) ?_
          refine AllReadyH.cons rfl (fun K hK => ?_) (AllReadyH.cons rfl (fun K hK => ?_) AllReadyH.nil)
          · have c40 := (unhide KC).x4.cell 0
            simp only [kA0, kA1, kA2] at c40
            go_simp
            clear c40
            refine hK.out _ _ trivial (fun _ => ?_)
            clear hK K
            try simp only [Act.put, kB0, kB1, kB2, kB3, kB4, kB5]
            refine wpAnyH_ready (rs := [3]) (by kernel_rfl) (by simp) ?_
            refine AllReadyH.cons rfl (fun K hK => ?_) AllReadyH.nil
            go_simp
            refine hK.out _ _ trivial (fun _ => ?_)
            clear hK K
            try simp only [Act.put, kB0, kB1, kB2, kB3, kB4, kB5]
            refine wpAnyH_ready (rs := [4]) (by kernel_rfl) (by simp) ?_
            refine AllReadyH.cons rfl (fun K hK => ?_) AllReadyH.nil
            refine Mem.step_append_own rfl _ _ 27 rfl (w.heap.size + 1 + 1 + 1) 57 i0 _ 5 56 Tryd.underlying27 hi hz0 hz1 hz2 rfl (by decide) (.slice va L.length vc0) L.length (Pl.cellsN L) rfl (Mem.ownN_alloc (unhide KC).row (.cells #[.string p1, .int .i64 p2, .string p3, .int .i64 p4, .int .i64 p5] 57)) ⟨wX.heap.size, 0, none⟩ 1 1 [.string p1, .int .i64 p2, .string p3, .int .i64 p4, .int .i64 p5] rfl rfl (Mem.cs_new wX ⟨p1, p2, p3, p4, p5⟩ _) (Mem.cs_one ⟨p1, p2, p3, p4, p5⟩) (by unfold maxLen; omega) (by omega) (by have := (unhide KC).big; simp; omega) ?_
            intro v' w4 own' hgrow
            have M4 := (unhide KC).mid (o := .cells #[.string p1, .int .i64 p2, .string p3, .int .i64 p4, .int .i64 p5] 57) hgrow
            have K3 := hide ((unhide KC).put (n := ⟨p1, p2, p3, p4, p5⟩) (o := .cells #[.string p1, .int .i64 p2, .string p3, .int .i64 p4, .int .i64 p5] 57) own' hgrow)
            obtain ⟨vb, vc, rfl⟩ := Mem.own_shape own'
            have m0 := M4.cell 0
            have m1 := M4.fr 0
            simp only [kA0, kA1, kA2] at m0
            clear M4 own' hgrow KC
            refine hK.out _ _ trivial (fun _ => ?_)
            clear hK K
            try simp only [Act.put, kB0, kB1, kB2, kB3, kB4, kB5]
            refine wpAnyH_take (i := 5) (v := ?_) rfl (by kernel_rfl) (by kernel_rfl) (by kernel_rfl) (fun _ _ _ h => h) (Or.inl ⟨by rfl, ?_⟩) (by assumption) ?_
            rotate_left
            · (intro w hSw; (try dsimp only at hSw); go_simp; (try with_reducible rfl))
            try simp only [Act.put, kB0, kB1, kB2, kB3, kB4, kB5]
            refine wpAnyH_ready (rs := [6]) (by kernel_rfl) (by simp) ?_
            refine AllReadyH.cons rfl (fun K hK => ?_) AllReadyH.nil
            go_simp
            refine hK.out _ _ trivial (fun _ => ?_)
            clear hK K
            try simp only [Act.put, kB0, kB1, kB2, kB3, kB4, kB5]
            refine wpAnyH_done (by kernel_rfl) ?_ _
            have HC2 := hide (unhide HCASE)
            clear m0 m1 HCASE hnode
            go_wp2
            go_roundw
            case rel => exact ⟨j + 1, a5, f5, _, _, by go_num, by omega, K3, unhide HC2⟩
            case measure => simp [intOf]; omega
          · go_simp
            refine hK.out _ _ trivial (fun _ => ?_)
            clear hK K
            try simp only [Act.put, kB0, kB1, kB2, kB3, kB4, kB5]
            refine wpAnyH_ready (rs := [1]) (by kernel_rfl) (by simp) ?_
            refine AllReadyH.cons rfl (fun K hK => ?_) AllReadyH.nil
            have c40 := ((unhide KC).x4.alloc (.cells #[.string p1, .int .i64 p2, .string p3, .int .i64 p4, .int .i64 p5] 57)).cell 0
            simp only [kA0, kA1, kA2] at c40
            go_simp
            clear c40
            refine hK.out _ _ trivial (fun _ => ?_)
            clear hK K
            try simp only [Act.put, kB0, kB1, kB2, kB3, kB4, kB5]
            refine wpAnyH_ready (rs := [4]) (by kernel_rfl) (by simp) ?_
            refine AllReadyH.cons rfl (fun K hK => ?_) AllReadyH.nil
            refine Mem.step_append_own rfl _ _ 27 rfl (w.heap.size + 1 + 1 + 1) 57 i0 _ 5 56 Tryd.underlying27 hi hz0 hz1 hz2 rfl (by decide) (.slice va L.length vc0) L.length (Pl.cellsN L) rfl (Mem.ownN_alloc (unhide KC).row (.cells #[.string p1, .int .i64 p2, .string p3, .int .i64 p4, .int .i64 p5] 57)) ⟨wX.heap.size, 0, none⟩ 1 1 [.string p1, .int .i64 p2, .string p3, .int .i64 p4, .int .i64 p5] rfl rfl (Mem.cs_new wX ⟨p1, p2, p3, p4, p5⟩ _) (Mem.cs_one ⟨p1, p2, p3, p4, p5⟩) (by unfold maxLen; omega) (by omega) (by have := (unhide KC).big; simp; omega) ?_
            intro v' w4 own' hgrow
            have M4 := (unhide KC).mid (o := .cells #[.string p1, .int .i64 p2, .string p3, .int .i64 p4, .int .i64 p5] 57) hgrow
            have K3 := hide ((unhide KC).put (n := ⟨p1, p2, p3, p4, p5⟩) (o := .cells #[.string p1, .int .i64 p2, .string p3, .int .i64 p4, .int .i64 p5] 57) own' hgrow)
            obtain ⟨vb, vc, rfl⟩ := Mem.own_shape own'
            have m0 := M4.cell 0
            have m1 := M4.fr 0
            simp only [kA0, kA1, kA2] at m0
            clear M4 own' hgrow KC
            refine hK.out _ _ trivial (fun _ => ?_)
            clear hK K
            try simp only [Act.put, kB0, kB1, kB2, kB3, kB4, kB5]
            refine wpAnyH_take (i := 5) (v := ?_) rfl (by kernel_rfl) (by kernel_rfl) (by kernel_rfl) (fun _ _ _ h => h) (Or.inl ⟨by rfl, ?_⟩) (by assumption) ?_
            rotate_left
            · (intro w hSw; (try dsimp only at hSw); go_simp; (try with_reducible rfl))
            try simp only [Act.put, kB0, kB1, kB2, kB3, kB4, kB5]
            refine wpAnyH_ready (rs := [6]) (by kernel_rfl) (by simp) ?_
            refine AllReadyH.cons rfl (fun K hK => ?_) AllReadyH.nil
            go_simp
            refine hK.out _ _ trivial (fun _ => ?_)
            clear hK K
            try simp only [Act.put, kB0, kB1, kB2, kB3, kB4, kB5]
            refine wpAnyH_done (by kernel_rfl) ?_ _
            have HC2 := hide (unhide HCASE)
            clear m0 m1 HCASE hnode
            go_wp2
            go_roundw
            case rel => exact ⟨j + 1, a5, f5, _, _, by go_num, by omega, K3, unhide HC2⟩
            case measure => simp [intOf]; omega
      · have u1 : ¬ (j : Int) < (c : Int) := by omega
        obtain rfl : j = c := by omega
        obtain ⟨h1, h2, h3⟩ := unhide HH
        obtain ⟨va, vc, rfl⟩ := Mem.own_shape (unhide KK).row
        have hll : L.length ≤ 1048576 := by rw [← h1, unhide HLN]; omega
        have hend := hide (WReadI.end_any (w.heap.size + 1) s a f wr (unhide KK).x3)
        have HF2 := unhide HFN
        rw [h1, h2, h3] at HF2
        cases hen : WReadI.endR s a f with
        | false =>
          have HNO : Hid (RR = ([], 3)) := hide (by
            rw [HF2, if_neg]
            rintro ⟨g1, g2, -⟩
            rw [g1, g2] at hen
            simp [WReadI.endR] at hen)
          rw [hen] at hend
          clear HF2 HH h1 h2 h3 HFN HSM HBD HST HLN HE hen
          go_wp2_with fail
          refine (unhide hend).mono ?_
          rintro e w5 ⟨rfl, b5⟩
          have K5 := hide ((unhide KK).call b5)
          clear hend b5 KK
          have z0 := (unhide K5).x2.cell 0
          have z1 := (unhide K5).x2.cell 1
          simp only [kA0, kA1, kA2] at z0 z1
          have zf0 := (unhide K5).x2.fr 0
          have zf1 := (unhide K5).x2.fr 1
          go_wp2
          refine bodyPost_ret (v := .agg #[.slice none 0 0, .int .i64 3]) (by simp [results, Tryd.results13, go_sem, z0, z1]) rfl ⟨.slice none 0 0, by rw [unhide HNO], by rw [unhide HNO]; exact Mem.ownN_nil _ _, ((unhide K5).done _ _).2⟩
        | true =>
          obtain ⟨g1, g2⟩ : f = none ∧ a = (s.size : Int) := by
            simp only [WReadI.endR, Bool.and_eq_true, decide_eq_true_eq, Option.isNone_iff_eq_none] at hen
            exact hen
          rw [hen] at hend
          have hok : ∀ n ∈ L, n.path.size ≤ 1048576 ∧ n.data.size ≤ 1048576 := by rw [← h1]; exact unhide HSM _ (by rw [h3, g1])
          have htr := hide (fun W (b : Below wr.heap.size wr W) => WNodesI.treeRight_any va vc L W hll (Mem.nodes_call (Mem.ownN_nodes (unhide KK).row).2 b) hok _ _ _ _ _ _ (unhide HE W ((unhide KK).bel.trans (b.mono (unhide KK).bel.size))))
          have HF3 : Hid (RR = if Pl.treeB L = true then (L, 0) else ([], 3)) := hide (by
            rw [HF2]
            by_cases ht : Pl.treeB L = true
            · rw [if_pos ⟨g1, g2, ht⟩, if_pos ht]
            · rw [if_neg (fun h => ht h.2.2), if_neg ht])
          generalize Pl.treeB L = TB at htr HF3
          clear HF2 HH h1 h2 h3 HFN HSM HBD HST HLN HE hen g1 g2 hok
          go_wp2_with fail
          refine (unhide hend).mono ?_
          rintro e w5 ⟨rfl, b5⟩
          have K5 := hide ((unhide KK).call b5)
          have c40 := (unhide K5).x4.cell 0
          simp only [kA0, kA1, kA2] at c40
          have htr2 := hide (unhide htr w5 b5)
          clear hend b5 KK htr
          go_wp2_with fail
          refine (unhide htr2).mono ?_
          rintro e w6 ⟨rfl, b6⟩
          have K6 := hide ((unhide K5).call b6)
          clear htr2 b6 K5 c40
          cases TB
          · have HNO : Hid (RR = ([], 3)) := hide (unhide HF3)
            clear HF3
            have z0 := (unhide K6).x2.cell 0
            have z1 := (unhide K6).x2.cell 1
            simp only [kA0, kA1, kA2] at z0 z1
            have zf0 := (unhide K6).x2.fr 0
            have zf1 := (unhide K6).x2.fr 1
            go_wp2
            refine bodyPost_ret (v := .agg #[.slice none 0 0, .int .i64 3]) (by simp [results, Tryd.results13, go_sem, z0, z1]) rfl ⟨.slice none 0 0, by rw [unhide HNO], by rw [unhide HNO]; exact Mem.ownN_nil _ _, ((unhide K6).done _ _).2⟩
          · have HYE : Hid (RR = (L, 0)) := hide (unhide HF3)
            have c40 := (unhide K6).x4.cell 0
            simp only [kA0, kA1, kA2] at c40
            have z0 := (unhide K6).x2.cell 0
            have z1 := (unhide K6).x2.cell 1
            simp only [kA0, kA1, kA2] at z0 z1
            have zf0 := (unhide K6).x2.fr 0
            have zf1 := (unhide K6).x2.fr 1
            go_wp2
            refine bodyPost_ret (v := .agg #[.slice va L.length vc, .int .i64 0]) (by simp [results, Tryd.results13, go_sem, z0, z1]) rfl ⟨.slice va L.length vc, by rw [unhide HYE], by rw [unhide HYE]; exact ((unhide K6).done _ _).1, ((unhide K6).done _ _).2⟩
end WReadJ
end Go.Proofs.YtnbmpbfligdcjaaDoor
