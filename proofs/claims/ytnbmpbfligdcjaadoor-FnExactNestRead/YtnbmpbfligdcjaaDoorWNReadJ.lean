/- The walk of the program's NestRead (by genNRJ.py). -/
import Derived.Test.YtnbmpbfligdcjaaDoorG35
import Derived.Test.YtnbmpbfligdcjaaDoorWReadE
import Derived.Test.YtnbmpbfligdcjaaDoorG37
namespace Go.Proofs.YtnbmpbfligdcjaaDoor
open Go.RowKit
namespace WNReadJ
theorem errs3 {w : World} {r0 r1 r2 r3 : TypeId} {x0 x1 x2 x3 : Value} (h : WNestI.Errs4 w r0 r1 r2 r3 x0 x1 x2 x3) : WNodesI.Errs w r1 r2 r3 x1 x2 x3 := h.three
set_option linter.unusedSimpArgs false in
set_option maxRecDepth 100000 in
set_option maxHeartbeats 2000000 in
theorem impl_any (s : ByteArray) (w : World) (r0 r1 r2 r3 : TypeId) (x0 x1 x2 x3 : Value) (hE : WNestI.Errs4 w r0 r1 r2 r3 x0 x1 x2 x3) :
    Calls Tryd.prog 23 #[.string s] w fun e w' => WNReadK.Outs w w' (Pl.nestRO s).2 (Pl.nestRO s).1 e ∧ Below w.heap.size w w' := by
  obtain ⟨i0, hi, hz0, hz1, hz2⟩ := info_parts WNReadK.infoI
  by_cases h8 : 8000 < s.size
  · have t0 : (8000 : Int) < (s.size : Int) := by omega
    have e0 : Pl.nestRO s = ([], 2) := if_pos h8
    rw [e0]
    have b0 : ∀ o, Below w.heap.size w (w.alloc o) := fun o => (Below.refl _ _).alloc (Nat.le_refl _) o
    clear e0 hE
    go_enter Tryd.func23, Tryd.ntmps23
    go_wp2
    refine bodyPost_ret (v := .agg #[.slice none 0 0, .int .i64 2]) (by simp [results, Tryd.results23, go_sem]) rfl ⟨⟨.slice none 0 0, [], rfl, Mem.Io.nil _ _, rfl⟩, b0 _⟩
  have t0 : ¬ (8000 : Int) < (s.size : Int) := by omega
  have h8' : s.size ≤ 8000 := by omega
  have R0 : Hid (WReadI.Rd ((w.alloc (.cells #[.slice none 0 0, .int .i64 0] 47)).alloc (.cells #[.string s, .int .i64 0, .nilIface] 71)) (w.heap.size + 1) s 0 none) := hide (by
    have h := Mem.Blk.new (w.alloc (.cells #[.slice none 0 0, .int .i64 0] 47)) #[.string s, .int .i64 0, .nilIface] 71
    show Mem.Blk _ _ #[.string s, .int .i64 0, .nilIface] 71
    simpa using h)
  have K0 : Hid (WNReadK.Nk w ((w.alloc (.cells #[.slice none 0 0, .int .i64 0] 47)).alloc (.cells #[.string s, .int .i64 0, .nilIface] 71)) w.heap.size (w.heap.size + 1) (w.heap.size + 1 + 1) #[.string s, .int .i64 0, .nilIface] 71 (.slice none 0 0) []) :=
    hide ⟨((Below.refl _ _).alloc (Nat.le_refl _) _).alloc (by simp) _, by simp, (Mem.Blk.new w _ _).alloc _, unhide R0, Mem.Io.nil _ _, by omega, by omega, by omega⟩
  have HM := hide (Pl.countN_cases s)
  have hnum := hide (WReadI.num_any (w.heap.size + 1) s 0 none _ h8' (by omega) (unhide R0))
  generalize hMM : Pl.numR s 0 none = MM at hnum HM
  obtain ⟨mc, ma, mf⟩ := MM
  simp only at hnum HM
  clear hMM
  have HRN : Hid (Pl.nestR s = none → Pl.nestRO s = ([], 3)) := hide (fun h => by unfold Pl.nestRO; rw [if_neg h8, h])
  have HRS : Hid (∀ L, Pl.nestR s = some L → Pl.nestRO s = (L, 0)) := hide (fun L h => by unfold Pl.nestRO; rw [if_neg h8, h])
  generalize hRR : Pl.nestRO s = RR at HRN HRS ⊢
  have HE := hide (fun W (b : Below w.heap.size w W) => hE.call b)
  have HNEG : Hid (mc < 0 → Pl.nestR s = none) := hide (by
    intro hneg
    rcases unhide HM with ⟨c, q, -, -, -, -, h⟩ | ⟨-, h⟩ | ⟨-, -, -, -, h⟩
    · simp only [Prod.mk.injEq] at h; omega
    · exact h
    · exact h)
  clear hRR hE
  go_enter Tryd.func23, Tryd.ntmps23
  go_wp2_with fail
  generalize ((w.alloc (.cells #[.slice none 0 0, .int .i64 0] 47)).alloc (.cells #[.string s, .int .i64 0, .nilIface] 71)) = w3 at K0 R0 hnum ⊢
  refine (unhide hnum).mono ?_
  rintro e w1 ⟨rfl, hrd, hgr⟩
  have K1 := hide ((unhide K0).read hgr hrd)
  clear hnum K0 R0 hrd hgr
  by_cases hneg : mc < 0
  · have HNO : Hid (RR = ([], 3)) := hide (unhide HRN (unhide HNEG hneg))
    clear HM HRN HRS HNEG
    have u0 : ¬ (12 : Int) < mc := by omega
    have u1 : ¬ (0 : Int) < mc := by omega
    have hend := hide (WReadI.end_any (w.heap.size + 1) s ma mf w1 (unhide K1).x3)
    have hrt := hide (fun W (b : Below w.heap.size w W) => WNestI.right_any none 0 [] W (by simp) (by simp) (Mem.items_nil _ _) (fun x hx => (by cases hx)) _ _ _ _ _ _ _ _ (unhide HE W b))
    have hn0 : (Pl.nest (Pl.rowO (([] : List Pl.It).map Pl.It.r))).isSome = false := rfl
    rw [hn0] at hrt
    generalize WReadI.endR s ma mf = EE at hend
    go_wp2
    go_loopw [5, 17] (fun n i wr => n = .slice none 0 0 ∧ i = .int .i64 0 ∧ wr = w1) (fun _ _ _ => 0)
    case atStart => exact ⟨rfl, rfl, rfl⟩
    case round =>
      obtain ⟨rfl, rfl, rfl⟩ := hrel
      go_wp2_with fail
      refine (unhide hend).mono ?_
      rintro e w5 ⟨rfl, b5⟩
      have K5 := hide ((unhide K1).call b5)
      have hrt2 := hide (unhide hrt w5 (unhide K5).bel)
      clear hend b5 K1 hrt
      cases EE
      · skip
        have z0 := (unhide K5).x2.cell 0
        have z1 := (unhide K5).x2.cell 1
        simp only [kA0, kA1, kA2] at z0 z1
        have zf0 := (unhide K5).x2.fr 0
        have zf1 := (unhide K5).x2.fr 1
        go_wp2
        refine bodyPost_ret (v := .agg #[.slice none 0 0, .int .i64 3]) (by simp [results, Tryd.results23, go_sem, z0, z1]) rfl ⟨⟨.slice none 0 0, [], by rw [unhide HNO], Mem.Io.nil _ _, by rw [unhide HNO]; rfl⟩, ((unhide K5).done _ _).2⟩
      · go_wp2_with fail
        refine (unhide hrt2).mono ?_
        rintro e w6 ⟨rfl, b6⟩
        have K6 := hide ((unhide K5).call b6)
        clear hrt2 K5 b6
        have z0 := (unhide K6).x2.cell 0
        have z1 := (unhide K6).x2.cell 1
        simp only [kA0, kA1, kA2] at z0 z1
        have zf0 := (unhide K6).x2.fr 0
        have zf1 := (unhide K6).x2.fr 1
        go_wp2
        refine bodyPost_ret (v := .agg #[.slice none 0 0, .int .i64 3]) (by simp [results, Tryd.results23, go_sem, z0, z1]) rfl ⟨⟨.slice none 0 0, [], by rw [unhide HNO], Mem.Io.nil _ _, by rw [unhide HNO]; rfl⟩, ((unhide K6).done _ _).2⟩
  clear HNEG
  rcases unhide HM with ⟨c, q, hg, hc12, hq0, hqs, hme⟩ | ⟨hout, hno⟩ | ⟨code, rfl, rfl, rfl, hno⟩
  rotate_left
  · have HNO : Hid (RR = ([], 3)) := hide (unhide HRN hno)
    clear HM HRN HRS hno HE
    have hbig : 12 < mc := by omega
    have z0 := (unhide K1).x2.cell 0
    have z1 := (unhide K1).x2.cell 1
    simp only [kA0, kA1, kA2] at z0 z1
    have zf0 := (unhide K1).x2.fr 0
    have zf1 := (unhide K1).x2.fr 1
    go_wp2
    refine bodyPost_ret (v := .agg #[.slice none 0 0, .int .i64 3]) (by simp [results, Tryd.results23, go_sem, z0, z1]) rfl ⟨⟨.slice none 0 0, [], by rw [unhide HNO], Mem.Io.nil _ _, by rw [unhide HNO]; rfl⟩, ((unhide K1).done _ _).2⟩
  · have HNO : Hid (RR = ([], 3)) := hide (unhide HRN hno)
    clear HM HRN HRS hno hneg
    have hend := hide (WReadI.end_any (w.heap.size + 1) s 0 (some code) w1 (unhide K1).x3)
    have hef : WReadI.endR s 0 (some code) = false := rfl
    rw [hef] at hend
    go_wp2
    go_loopw [5, 17] (fun n i wr => n = .slice none 0 0 ∧ i = .int .i64 0 ∧ wr = w1) (fun _ _ _ => 0)
    case atStart => exact ⟨rfl, rfl, rfl⟩
    case round =>
      obtain ⟨rfl, rfl, rfl⟩ := hrel
      go_wp2_with fail
      refine (unhide hend).mono ?_
      rintro e w5 ⟨rfl, b5⟩
      have K5 := hide ((unhide K1).call b5)
      clear hend b5
      have z0 := (unhide K5).x2.cell 0
      have z1 := (unhide K5).x2.cell 1
      simp only [kA0, kA1, kA2] at z0 z1
      have zf0 := (unhide K5).x2.fr 0
      have zf1 := (unhide K5).x2.fr 1
      go_wp2
      refine bodyPost_ret (v := .agg #[.slice none 0 0, .int .i64 3]) (by simp [results, Tryd.results23, go_sem, z0, z1]) rfl ⟨⟨.slice none 0 0, [], by rw [unhide HNO], Mem.Io.nil _ _, by rw [unhide HNO]; rfl⟩, ((unhide K5).done _ _).2⟩
  · obtain ⟨e1, e2, e3⟩ : mc = (c : Int) ∧ ma = (q : Int) ∧ mf = none := by simp only [Prod.mk.injEq] at hme; exact hme
    subst e1 e2 e3
    have HFN : Hid (RR = if (Pl.stepsI s (q : Int) c).f = none ∧ (Pl.stepsI s (q : Int) c).a = (s.size : Int) ∧ (Pl.nest (Pl.rowO (Pl.stepsI s (q : Int) c).L)).isSome = true then ((Pl.stepsI s (q : Int) c).L, 0) else ([], 3)) := hide (by
      have h' := Pl.nestR_fin hg hc12
      by_cases hcond : (Pl.stepsI s (q : Int) c).f = none ∧ (Pl.stepsI s (q : Int) c).a = (s.size : Int) ∧ (Pl.nest (Pl.rowO (Pl.stepsI s (q : Int) c).L)).isSome = true
      · rw [if_pos hcond] at h' ⊢; exact unhide HRS _ h'
      · rw [if_neg hcond] at h' ⊢; exact unhide HRN h')
    have HSM : Hid (∀ j, (Pl.stepsI s (q : Int) j).f = none → ∀ x ∈ (Pl.stepsI s (q : Int) j).L, x.2.length ≤ 1048576 ∧ ∀ n ∈ x.2, n.path.size ≤ 1048576 ∧ n.data.size ≤ 1048576) := hide (fun j hf x hx => Pl.treeB_ok (Pl.stepsI_right j hf x hx))
    have HBD : Hid (∀ j, (Pl.stepsI s (q : Int) j).a ≤ 9223372036854775807) := hide (fun j => Pl.stepsI_bound h8' (by omega) j)
    have HST : Hid (∀ j, Pl.stepsI s (q : Int) (j + 1) = ⟨(Pl.stepsI s (q : Int) j).L ++ [(Pl.itemR s (Pl.stepsI s (q : Int) j).a (Pl.stepsI s (q : Int) j).f).n], (Pl.itemR s (Pl.stepsI s (q : Int) j).a (Pl.stepsI s (q : Int) j).f).a, (Pl.itemR s (Pl.stepsI s (q : Int) j).a (Pl.stepsI s (q : Int) j).f).f⟩) := hide (fun j => rfl)
    have HZ : Hid ((Pl.stepsI s (q : Int) 0).L = [] ∧ (Pl.stepsI s (q : Int) 0).a = (q : Int) ∧ (Pl.stepsI s (q : Int) 0).f = none) := hide ⟨rfl, rfl, rfl⟩
    generalize Pl.stepsI s (q : Int) = ST at HFN HSM HBD HST HZ
    have v1 : ¬ (12 : Int) < (c : Int) := by omega
    clear hme hg HM HRN HRS hneg
    go_wp2
    go_loopw [5, 17] (fun n i wr => ∃ (j : Nat) (a : Int) (f : Option Int) (Is : List Pl.It), i = .int .i64 (j : Int) ∧ j ≤ c ∧ Is.length = j ∧ Hid (WNReadK.Nk w wr w.heap.size (w.heap.size + 1) (w.heap.size + 1 + 1) #[.string s, .int .i64 a, WReadI.fv f] 71 n Is) ∧ Hid ((ST j).L = Is.map Pl.It.r ∧ (ST j).a = a ∧ (ST j).f = f)) (fun _ i _ => c - (intOf i).toNat)
    case atStart => exact ⟨0, (q : Int), none, [], rfl, by omega, rfl, K1, HZ⟩
    case round =>
      obtain ⟨j, a, f, Is, rfl, hjc, hlj, KK, HH⟩ := hrel
      clear K1 HZ
      have HLJ := hide hlj
      clear hlj
      obtain ⟨va, vc, rfl⟩ := Mem.own_shape (unhide KK).row.row
      by_cases hlt : j < c
      · have u1 : (j : Int) < (c : Int) := by omega
        obtain ⟨h1, h2, h3⟩ := unhide HH
        have hab := unhide HBD j
        have hst := unhide HST j
        have hlen : Is.length ≤ 12 := by rw [unhide HLJ]; omega
        rw [h1, h2, h3] at hst
        rw [h2] at hab
        have hitem := hide (WNReadI.item_any (w.heap.size + 1) s a f wr h8' hab (unhide KK).x3 r1 r2 r3 x1 x2 x3 (fun W g => errs3 (unhide HE W ((unhide KK).bel.grown g (unhide KK).bel.size (fun k hk => by cases hk; omega)))))
        obtain ⟨⟨⟨p1, L2⟩, a2, f2⟩, hnr⟩ : ∃ r, Pl.itemR s a f = r := ⟨_, rfl⟩
        rw [hnr] at hst hitem
        simp only at hst
        have HCASE : Hid (∀ ta tc, (ST (j + 1)).L = (Is ++ [(⟨p1, ⟨ta, tc, L2⟩⟩ : Pl.It)]).map Pl.It.r ∧ (ST (j + 1)).a = a2 ∧ (ST (j + 1)).f = f2) := hide (fun ta tc => by rw [hst]; exact ⟨by rw [List.map_append]; rfl, rfl, rfl⟩)
        clear hst h1 h2 h3 HH hnr hab HFN HSM HBD HST HE
        go_wp2_with fail
        refine (unhide hitem).mono ?_
        rintro e wX ⟨ta, tc, rfl, ownT, hrd, hgr⟩
        simp only at ownT hrd
        have TN := hide (WNReadK.two_new wX p1 (.slice ta L2.length tc) 81)
        have KA := hide (((unhide KK).read hgr hrd).call ((Below.refl _ _).alloc (Nat.le_refl _) (.cells #[.int .i64 p1, .slice ta L2.length tc] 81)))
        have HPT := hide (fun w4 v' own gr far => (unhide KK).put (w4 := w4) (v' := v') (m := p1) (t := ⟨ta, tc, L2⟩) hgr hrd ownT (Nat.le_refl _) own gr far)
        clear hitem ownT hrd hgr
        go_wp2_with (at_builtin; refine Mem.wpList_append_far _ rfl _ _ 42 rfl (w.heap.size + 1 + 1) 81 i0 (.agg #[.int .i64 0, .slice none 0 0]) 2 32 Tryd.underlying42 hi hz0 hz1 hz2 rfl (by decide) _ _ _ rfl (unhide KA).row.row ⟨wX.heap.size, 0, none⟩ 1 1 [.int .i64 p1, .slice ta L2.length tc] rfl rfl (unhide TN) (WNReadK.two_one _ _ _ _) (by unfold maxLen; omega) (by omega) (unhide KA).big ?_)
        intro v' w9 own' gr far
        have KN := hide (unhide HPT w9 v' own' gr (by simpa [Pl.Tr.val] using far))
        clear own' gr far HPT KA KK TN
        have HC2 := hide (unhide HCASE ta tc)
        clear HCASE
        go_wp2
        go_roundw
        case rel => exact ⟨j + 1, a2, f2, Is ++ [⟨p1, ⟨ta, tc, L2⟩⟩], by go_num, by omega, by rw [List.length_append, unhide HLJ]; rfl, KN, HC2⟩
        case measure => simp [intOf]; omega
      · have u1 : ¬ (j : Int) < (c : Int) := by omega
        obtain rfl : j = c := by omega
        obtain ⟨h1, h2, h3⟩ := unhide HH
        have hll : Is.length ≤ 1048576 := by rw [unhide HLJ]; omega
        have hend := hide (WReadI.end_any (w.heap.size + 1) s a f wr (unhide KK).x3)
        have HF2 := unhide HFN
        rw [h1, h2, h3] at HF2
        cases hen : WReadI.endR s a f with
        | false =>
          have HNO : Hid (RR = ([], 3)) := hide (by
            rw [HF2, if_neg]
            rintro ⟨g1, g2, -⟩
            rw [g1, g2] at hen
            simp [WReadI.endR] at hen)
          rw [hen] at hend
          clear HF2 HH h1 h2 h3 HFN HSM HBD HST HE hen
          go_wp2_with fail
          refine (unhide hend).mono ?_
          rintro e w5 ⟨rfl, b5⟩
          have K5 := hide ((unhide KK).call b5)
          clear hend b5 KK
          have z0 := (unhide K5).x2.cell 0
          have z1 := (unhide K5).x2.cell 1
          simp only [kA0, kA1, kA2] at z0 z1
          have zf0 := (unhide K5).x2.fr 0
          have zf1 := (unhide K5).x2.fr 1
          go_wp2
          refine bodyPost_ret (v := .agg #[.slice none 0 0, .int .i64 3]) (by simp [results, Tryd.results23, go_sem, z0, z1]) rfl ⟨⟨.slice none 0 0, [], by rw [unhide HNO], Mem.Io.nil _ _, by rw [unhide HNO]; rfl⟩, ((unhide K5).done _ _).2⟩
        | true =>
          obtain ⟨g1, g2⟩ : f = none ∧ a = (s.size : Int) := by
            simp only [WReadI.endR, Bool.and_eq_true, decide_eq_true_eq, Option.isNone_iff_eq_none] at hen
            exact hen
          rw [hen] at hend
          have hsm := unhide HSM j (by rw [h3, g1])
          rw [h1] at hsm
          have hcap : Is.length ≤ vc := WNReadK.own_cap (unhide KK).row.row
          have htr := hide (fun W (b : Below wr.heap.size wr W) => WNestI.right_any va vc Is W hll hcap (Mem.items_call (unhide KK).row.items.2 b) (fun x hx => hsm x.r (List.mem_map.2 ⟨x, hx, rfl⟩)) _ _ _ _ _ _ _ _ (unhide HE W ((unhide KK).bel.trans (b.mono (unhide KK).bel.size))))
          have HF3 : Hid (RR = if (Pl.nest (Pl.rowO (Is.map Pl.It.r))).isSome = true then (Is.map Pl.It.r, 0) else ([], 3)) := hide (by
            rw [HF2]
            by_cases ht : (Pl.nest (Pl.rowO (Is.map Pl.It.r))).isSome = true
            · rw [if_pos ⟨g1, g2, ht⟩, if_pos ht]
            · rw [if_neg (fun h => ht h.2.2), if_neg ht])
          generalize (Pl.nest (Pl.rowO (Is.map Pl.It.r))).isSome = TB at htr HF3
          clear HF2 HH h1 h2 h3 HFN HSM HBD HST HE hen g1 g2 hsm hcap
          go_wp2_with fail
          refine (unhide hend).mono ?_
          rintro e w5 ⟨rfl, b5⟩
          have K5 := hide ((unhide KK).call b5)
          have htr2 := hide (unhide htr w5 b5)
          clear hend b5 KK htr
          go_wp2_with fail
          refine (unhide htr2).mono ?_
          rintro e w6 ⟨rfl, b6⟩
          have K6 := hide ((unhide K5).call b6)
          clear htr2 b6 K5
          cases TB
          · have HNO : Hid (RR = ([], 3)) := hide (unhide HF3)
            clear HF3
            have z0 := (unhide K6).x2.cell 0
            have z1 := (unhide K6).x2.cell 1
            simp only [kA0, kA1, kA2] at z0 z1
            have zf0 := (unhide K6).x2.fr 0
            have zf1 := (unhide K6).x2.fr 1
            go_wp2
            refine bodyPost_ret (v := .agg #[.slice none 0 0, .int .i64 3]) (by simp [results, Tryd.results23, go_sem, z0, z1]) rfl ⟨⟨.slice none 0 0, [], by rw [unhide HNO], Mem.Io.nil _ _, by rw [unhide HNO]; rfl⟩, ((unhide K6).done _ _).2⟩
          · have HYE : Hid (RR = (Is.map Pl.It.r, 0)) := hide (unhide HF3)
            have z0 := (unhide K6).x2.cell 0
            have z1 := (unhide K6).x2.cell 1
            simp only [kA0, kA1, kA2] at z0 z1
            have zf0 := (unhide K6).x2.fr 0
            have zf1 := (unhide K6).x2.fr 1
            go_wp2
            refine bodyPost_ret (v := .agg #[.slice va Is.length vc, .int .i64 0]) (by simp [results, Tryd.results23, go_sem, z0, z1]) rfl ⟨⟨.slice va Is.length vc, Is, by rw [unhide HYE], ((unhide K6).done _ _).1, by rw [unhide HYE]⟩, ((unhide K6).done _ _).2⟩
end WNReadJ
end Go.Proofs.YtnbmpbfligdcjaaDoor
