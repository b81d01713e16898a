/- Several texts of one claim in one file: WNReadJ, WFaceD, WNestF, WNestE, WFaceE, WNestL. -/
import Derived.Test.YtioildojmckepaaGreatDoorG32
import Derived.Test.YtioildojmckepaaGreatDoorG42
import Derived.Test.YtioildojmckepaaGreatDoorG02
import Derived.Test.YtioildojmckepaaGreatDoorG08
import Derived.Test.YtioildojmckepaaGreatDoorProg
import Derived.WalkSpells
import Derived.Lib.OthersKept
import Derived.Laws.RangeAny
import Derived.Deep.Draws
import Derived.Deep.QuietTactic
import Derived.BigQuiet
import Derived.Deep.RegionHeld3
import Derived.Test.YtioildojmckepaaGreatDoorG04
import Derived.Test.YtioildojmckepaaGreatDoorG01
import Derived.Test.YtioildojmckepaaGreatDoorG31
namespace Go.Proofs.YtioildojmckepaaGreatDoor
open Go.RowKit
namespace WNReadJ
theorem errs3 {w : World} {r0 r1 r2 r3 : TypeId} {x0 x1 x2 x3 : Value} (h : zc0.zn1 w r0 r1 r2 r3 x0 x1 x2 x3) : zh9.Errs w r1 r2 r3 x1 x2 x3 := h.three
set_option linter.unusedSimpArgs false in
set_option maxRecDepth 100000 in
set_option maxHeartbeats 2000000 in
theorem ze9 (s : ByteArray) (w : World) (r0 r1 r2 r3 : TypeId) (x0 x1 x2 x3 : Value) (hE : zc0.zn1 w r0 r1 r2 r3 x0 x1 x2 x3) :
  Calls Tryz.prog 7 #[.string s] w fun e w' => zf5.Outs w w' (Pl.ze2 s).2 (Pl.ze2 s).1 e ∧ Below w.heap.size w w' := by
 obtain ⟨i0, hi, hz0, hz1, hz2⟩ := info_parts zf5.infoI
 by_cases h8 : 8000 < s.size
 ·have t0 : (8000 : Int) < (s.size : Int) := by omega
  have e0 : Pl.ze2 s = ([], 2) := if_pos h8
  rw [e0]
  have b0 : ∀ o, Below w.heap.size w (w.alloc o) := fun o => (Below.refl _ _).alloc (Nat.le_refl _) o
  clear e0 hE
  go_enter Tryz.func7, Tryz.ntmps7
  go_wp2
  refine bodyPost_ret (v := .agg #[.slice none 0 0, .int .i64 2]) (by simp [results, Tryz.results7, go_sem]) rfl ⟨⟨.slice none 0 0, [], rfl, Mem.Io.nil _ _, rfl⟩, b0 _⟩
 have t0 : ¬ (8000 : Int) < (s.size : Int) := by omega
 have h8' : s.size ≤ 8000 := by omega
 have R0 : Hid (za8.Rd ((w.alloc (.cells #[.slice none 0 0, .int .i64 0] 28)).alloc (.cells #[.string s, .int .i64 0, .nilIface] 52)) (w.heap.size + 1) s 0 none) := hide (by
  have h := Mem.Blk.new (w.alloc (.cells #[.slice none 0 0, .int .i64 0] 28)) #[.string s, .int .i64 0, .nilIface] 52
  show Mem.Blk _ _ #[.string s, .int .i64 0, .nilIface] 52
  simpa using h)
 have K0 : Hid (zf5.Nk w ((w.alloc (.cells #[.slice none 0 0, .int .i64 0] 28)).alloc (.cells #[.string s, .int .i64 0, .nilIface] 52)) w.heap.size (w.heap.size + 1) (w.heap.size + 1 + 1) #[.string s, .int .i64 0, .nilIface] 52 (.slice none 0 0) []) :=
  hide ⟨((Below.refl _ _).alloc (Nat.le_refl _) _).alloc (by simp) _, by simp, (Mem.Blk.new w _ _).alloc _, za R0, Mem.Io.nil _ _, by omega, by omega, by omega⟩
 have HM := hide (Pl.countN_cases s)
 have hnum := hide (za8.zj6 (w.heap.size + 1) s 0 none _ h8' (by omega) (za R0))
 generalize hMM : Pl.numR s 0 none = MM at hnum HM
 obtain ⟨mc, ma, mf⟩ := MM
 simp only at hnum HM
 clear hMM
 have HRN : Hid (Pl.zh1 s = none → Pl.ze2 s = ([], 3)) := hide (fun h => by unfold Pl.ze2; rw [if_neg h8, h])
 have HRS : Hid (∀ L, Pl.zh1 s = some L → Pl.ze2 s = (L, 0)) := hide (fun L h => by unfold Pl.ze2; rw [if_neg h8, h])
 generalize hRR : Pl.ze2 s = RR at HRN HRS ⊢
 have HE := hide (fun W (b : Below w.heap.size w W) => hE.call b)
 have HNEG : Hid (mc < 0 → Pl.zh1 s = none) := hide (by
  intro hneg
  rcases za HM with ⟨c, q, -, -, -, -, h⟩ | ⟨-, h⟩ | ⟨-, -, -, -, h⟩
  ·simp only [Prod.mk.injEq] at h; omega
  ·exact h
  ·exact h)
 clear hRR hE
 go_enter Tryz.func7, Tryz.ntmps7
 go_wp2_with fail
 generalize ((w.alloc (.cells #[.slice none 0 0, .int .i64 0] 28)).alloc (.cells #[.string s, .int .i64 0, .nilIface] 52)) = w3 at K0 R0 hnum ⊢
 refine (za hnum).mono ?_
 rintro e w1 ⟨rfl, hrd, hgr⟩
 have K1 := hide ((za K0).read hgr hrd)
 clear hnum K0 R0 hrd hgr
 by_cases hneg : mc < 0
 ·have HNO : Hid (RR = ([], 3)) := hide (za HRN (za HNEG hneg))
  clear HM HRN HRS HNEG
  have u0 : ¬ (12 : Int) < mc := by omega
  have u1 : ¬ (0 : Int) < mc := by omega
  have hend := hide (za8.zq1 (w.heap.size + 1) s ma mf w1 (za K1).x3)
  have hrt := hide (fun W (b : Below w.heap.size w W) => zc0.ze6 none 0 [] W (by simp) (by simp) (Mem.ya3 _ _) (fun x hx => (by cases hx)) _ _ _ _ _ _ _ _ (za HE W b))
  have hn0 : (Pl.nest (Pl.rowO (([] : List Pl.It).map Pl.It.r))).isSome = false := rfl
  rw [hn0] at hrt
  generalize za8.endR s ma mf = EE at hend
  go_wp2
  go_loopw [5, 17] (fun n i wr => n = .slice none 0 0 ∧ i = .int .i64 0 ∧ wr = w1) (fun _ _ _ => 0)
  case atStart => exact ⟨rfl, rfl, rfl⟩
  case round =>
   obtain ⟨rfl, rfl, rfl⟩ := hrel
   go_wp2_with fail
   refine (za hend).mono ?_
   rintro e w5 ⟨rfl, b5⟩
   have K5 := hide ((za K1).call b5)
   have hrt2 := hide (za hrt w5 (za K5).bel)
   clear hend b5 K1 hrt
   cases EE
   ·skip
    have z0 := (za K5).x2.cell 0
    have z1 := (za K5).x2.cell 1
    simp only [kGs] at z0 z1
    have zf0 := (za K5).x2.fr 0
    have zf1 := (za K5).x2.fr 1
    go_wp2
    refine bodyPost_ret (v := .agg #[.slice none 0 0, .int .i64 3]) (by simp [results, Tryz.results7, go_sem, z0, z1]) rfl ⟨⟨.slice none 0 0, [], by rw [za HNO], Mem.Io.nil _ _, by rw [za HNO]; rfl⟩, ((za K5).done _ _).2⟩
   ·go_wp2_with fail
    refine (za hrt2).mono ?_
    rintro e w6 ⟨rfl, b6⟩
    have K6 := hide ((za K5).call b6)
    clear hrt2 K5 b6
    have z0 := (za K6).x2.cell 0
    have z1 := (za K6).x2.cell 1
    simp only [kGs] at z0 z1
    have zf0 := (za K6).x2.fr 0
    have zf1 := (za K6).x2.fr 1
    go_wp2
    refine bodyPost_ret (v := .agg #[.slice none 0 0, .int .i64 3]) (by simp [results, Tryz.results7, go_sem, z0, z1]) rfl ⟨⟨.slice none 0 0, [], by rw [za HNO], Mem.Io.nil _ _, by rw [za HNO]; rfl⟩, ((za K6).done _ _).2⟩
 clear HNEG
 rcases za HM with ⟨c, q, hg, hc12, hq0, hqs, hme⟩ | ⟨hout, hno⟩ | ⟨code, rfl, rfl, rfl, hno⟩
 rotate_left
 ·have HNO : Hid (RR = ([], 3)) := hide (za HRN hno)
  clear HM HRN HRS hno HE
  have hbig : 12 < mc := by omega
  have z0 := (za K1).x2.cell 0
  have z1 := (za K1).x2.cell 1
  simp only [kGs] at z0 z1
  have zf0 := (za K1).x2.fr 0
  have zf1 := (za K1).x2.fr 1
  go_wp2
  refine bodyPost_ret (v := .agg #[.slice none 0 0, .int .i64 3]) (by simp [results, Tryz.results7, go_sem, z0, z1]) rfl ⟨⟨.slice none 0 0, [], by rw [za HNO], Mem.Io.nil _ _, by rw [za HNO]; rfl⟩, ((za K1).done _ _).2⟩
 ·have HNO : Hid (RR = ([], 3)) := hide (za HRN hno)
  clear HM HRN HRS hno hneg
  have hend := hide (za8.zq1 (w.heap.size + 1) s 0 (some code) w1 (za K1).x3)
  have hef : za8.endR s 0 (some code) = false := rfl
  rw [hef] at hend
  go_wp2
  go_loopw [5, 17] (fun n i wr => n = .slice none 0 0 ∧ i = .int .i64 0 ∧ wr = w1) (fun _ _ _ => 0)
  case atStart => exact ⟨rfl, rfl, rfl⟩
  case round =>
   obtain ⟨rfl, rfl, rfl⟩ := hrel
   go_wp2_with fail
   refine (za hend).mono ?_
   rintro e w5 ⟨rfl, b5⟩
   have K5 := hide ((za K1).call b5)
   clear hend b5
   have z0 := (za K5).x2.cell 0
   have z1 := (za K5).x2.cell 1
   simp only [kGs] at z0 z1
   have zf0 := (za K5).x2.fr 0
   have zf1 := (za K5).x2.fr 1
   go_wp2
   refine bodyPost_ret (v := .agg #[.slice none 0 0, .int .i64 3]) (by simp [results, Tryz.results7, go_sem, z0, z1]) rfl ⟨⟨.slice none 0 0, [], by rw [za HNO], Mem.Io.nil _ _, by rw [za HNO]; rfl⟩, ((za K5).done _ _).2⟩
 ·obtain ⟨e1, e2, e3⟩ : mc = (c : Int) ∧ ma = (q : Int) ∧ mf = none := by simp only [Prod.mk.injEq] at hme; exact hme
  subst e1 e2 e3
  have HFN : Hid (RR = if (Pl.za1 s (q : Int) c).f = none ∧ (Pl.za1 s (q : Int) c).a = (s.size : Int) ∧ (Pl.nest (Pl.rowO (Pl.za1 s (q : Int) c).L)).isSome = true then ((Pl.za1 s (q : Int) c).L, 0) else ([], 3)) := hide (by
   have h' := Pl.nestR_fin hg hc12
   by_cases hcond : (Pl.za1 s (q : Int) c).f = none ∧ (Pl.za1 s (q : Int) c).a = (s.size : Int) ∧ (Pl.nest (Pl.rowO (Pl.za1 s (q : Int) c).L)).isSome = true
   ·rw [if_pos hcond] at h' ⊢; exact za HRS _ h'
   ·rw [if_neg hcond] at h' ⊢; exact za HRN h')
  have HSM : Hid (∀ j, (Pl.za1 s (q : Int) j).f = none → ∀ x ∈ (Pl.za1 s (q : Int) j).L, x.2.length ≤ 1048576 ∧ ∀ n ∈ x.2, n.path.size ≤ 1048576 ∧ n.data.size ≤ 1048576) := hide (fun j hf x hx => Pl.treeB_ok (Pl.ya6 j hf x hx))
  have HBD : Hid (∀ j, (Pl.za1 s (q : Int) j).a ≤ 9223372036854775807) := hide (fun j => Pl.yb4 h8' (by omega) j)
  have HST : Hid (∀ j, Pl.za1 s (q : Int) (j + 1) = ⟨(Pl.za1 s (q : Int) j).L ++ [(Pl.zf7 s (Pl.za1 s (q : Int) j).a (Pl.za1 s (q : Int) j).f).n], (Pl.zf7 s (Pl.za1 s (q : Int) j).a (Pl.za1 s (q : Int) j).f).a, (Pl.zf7 s (Pl.za1 s (q : Int) j).a (Pl.za1 s (q : Int) j).f).f⟩) := hide (fun j => rfl)
  have HZ : Hid ((Pl.za1 s (q : Int) 0).L = [] ∧ (Pl.za1 s (q : Int) 0).a = (q : Int) ∧ (Pl.za1 s (q : Int) 0).f = none) := hide ⟨rfl, rfl, rfl⟩
  generalize Pl.za1 s (q : Int) = ST at HFN HSM HBD HST HZ
  have v1 : ¬ (12 : Int) < (c : Int) := by omega
  clear hme hg HM HRN HRS hneg
  go_wp2
  go_loopw [5, 17] (fun n i wr => ∃ (j : Nat) (a : Int) (f : Option Int) (Is : List Pl.It), i = .int .i64 (j : Int) ∧ j ≤ c ∧ Is.length = j ∧ Hid (zf5.Nk w wr w.heap.size (w.heap.size + 1) (w.heap.size + 1 + 1) #[.string s, .int .i64 a, za8.fv f] 52 n Is) ∧ Hid ((ST j).L = Is.map Pl.It.r ∧ (ST j).a = a ∧ (ST j).f = f)) (fun _ i _ => c - (intOf i).toNat)
  case atStart => exact ⟨0, (q : Int), none, [], rfl, by omega, rfl, K1, HZ⟩
  case round =>
   obtain ⟨j, a, f, Is, rfl, hjc, hlj, KK, HH⟩ := hrel
   clear K1 HZ
   have HLJ := hide hlj
   clear hlj
   obtain ⟨va, vc, rfl⟩ := Mem.za3 (za KK).row.row
   by_cases hlt : j < c
   ·have u1 : (j : Int) < (c : Int) := by omega
    obtain ⟨h1, h2, h3⟩ := za HH
    have hab := za HBD j
    have hst := za HST j
    have hlen : Is.length ≤ 12 := by rw [za HLJ]; omega
    rw [h1, h2, h3] at hst
    rw [h2] at hab
    have hitem := hide (WNReadI.zu7 (w.heap.size + 1) s a f wr h8' hab (za KK).x3 r1 r2 r3 x1 x2 x3 (fun W g => errs3 (za HE W ((za KK).bel.grown g (za KK).bel.size (fun k hk => by cases hk; omega)))))
    obtain ⟨⟨⟨p1, L2⟩, a2, f2⟩, hnr⟩ : ∃ r, Pl.zf7 s a f = r := ⟨_, rfl⟩
    rw [hnr] at hst hitem
    simp only at hst
    have HCASE : Hid (∀ ta tc, (ST (j + 1)).L = (Is ++ [(⟨p1, ⟨ta, tc, L2⟩⟩ : Pl.It)]).map Pl.It.r ∧ (ST (j + 1)).a = a2 ∧ (ST (j + 1)).f = f2) := hide (fun ta tc => by rw [hst]; exact ⟨by rw [List.map_append]; rfl, rfl, rfl⟩)
    clear hst h1 h2 h3 HH hnr hab HFN HSM HBD HST HE
    go_wp2_with fail
    refine (za hitem).mono ?_
    rintro e wX ⟨ta, tc, rfl, ownT, hrd, hgr⟩
    simp only at ownT hrd
    have TN := hide (zf5.zg3 wX p1 (.slice ta L2.length tc) 38)
    have KA := hide (((za KK).read hgr hrd).call ((Below.refl _ _).alloc (Nat.le_refl _) (.cells #[.int .i64 p1, .slice ta L2.length tc] 38)))
    have HPT := hide (fun w4 v' own gr far => (za KK).put (w4 := w4) (v' := v') (m := p1) (t := ⟨ta, tc, L2⟩) hgr hrd ownT (Nat.le_refl _) own gr far)
    clear hitem ownT hrd hgr
    go_wp2_with (at_builtin; refine Mem.zb0 _ rfl _ _ 23 rfl (w.heap.size + 1 + 1) 38 i0 (.agg #[.int .i64 0, .slice none 0 0]) 2 32 Tryz.underlying23 hi hz0 hz1 hz2 rfl (by decide) _ _ _ rfl (za KA).row.row ⟨wX.heap.size, 0, none⟩ 1 1 [.int .i64 p1, .slice ta L2.length tc] rfl rfl (za TN) (zf5.zh4 _ _ _ _) (by unfold maxLen; omega) (by omega) (za KA).big ?_)
    intro v' w9 own' gr far
    have KN := hide (za HPT w9 v' own' gr (by simpa [Pl.Tr.val] using far))
    clear own' gr far HPT KA KK TN
    have HC2 := hide (za HCASE ta tc)
    clear HCASE
    go_wp2
    go_roundw
    case rel => exact ⟨j + 1, a2, f2, Is ++ [⟨p1, ⟨ta, tc, L2⟩⟩], by go_num, by omega, by rw [List.length_append, za HLJ]; rfl, KN, HC2⟩
    case measure => simp [intOf]; omega
   ·have u1 : ¬ (j : Int) < (c : Int) := by omega
    obtain rfl : j = c := by omega
    obtain ⟨h1, h2, h3⟩ := za HH
    have hll : Is.length ≤ 1048576 := by rw [za HLJ]; omega
    have hend := hide (za8.zq1 (w.heap.size + 1) s a f wr (za KK).x3)
    have HF2 := za HFN
    rw [h1, h2, h3] at HF2
    cases hen : za8.endR s a f with
    | false =>
     have HNO : Hid (RR = ([], 3)) := hide (by
      rw [HF2, if_neg]
      rintro ⟨g1, g2, -⟩
      rw [g1, g2] at hen
      simp [za8.endR] at hen)
     rw [hen] at hend
     clear HF2 HH h1 h2 h3 HFN HSM HBD HST HE hen
     go_wp2_with fail
     refine (za hend).mono ?_
     rintro e w5 ⟨rfl, b5⟩
     have K5 := hide ((za KK).call b5)
     clear hend b5 KK
     have z0 := (za K5).x2.cell 0
     have z1 := (za K5).x2.cell 1
     simp only [kGs] at z0 z1
     have zf0 := (za K5).x2.fr 0
     have zf1 := (za K5).x2.fr 1
     go_wp2
     refine bodyPost_ret (v := .agg #[.slice none 0 0, .int .i64 3]) (by simp [results, Tryz.results7, go_sem, z0, z1]) rfl ⟨⟨.slice none 0 0, [], by rw [za HNO], Mem.Io.nil _ _, by rw [za HNO]; rfl⟩, ((za K5).done _ _).2⟩
    | true =>
     obtain ⟨g1, g2⟩ : f = none ∧ a = (s.size : Int) := by
      simp only [za8.endR, Bool.and_eq_true, decide_eq_true_eq, Option.isNone_iff_eq_none] at hen
      exact hen
     rw [hen] at hend
     have hsm := za HSM j (by rw [h3, g1])
     rw [h1] at hsm
     have hcap : Is.length ≤ vc := zf5.own_cap (za KK).row.row
     have htr := hide (fun W (b : Below wr.heap.size wr W) => zc0.ze6 va vc Is W hll hcap (Mem.zg (za KK).row.items.2 b) (fun x hx => hsm x.r (List.mem_map.2 ⟨x, hx, rfl⟩)) _ _ _ _ _ _ _ _ (za HE W ((za KK).bel.trans (b.mono (za KK).bel.size))))
     have HF3 : Hid (RR = if (Pl.nest (Pl.rowO (Is.map Pl.It.r))).isSome = true then (Is.map Pl.It.r, 0) else ([], 3)) := hide (by
      rw [HF2]
      by_cases ht : (Pl.nest (Pl.rowO (Is.map Pl.It.r))).isSome = true
      ·rw [if_pos ⟨g1, g2, ht⟩, if_pos ht]
      ·rw [if_neg (fun h => ht h.2.2), if_neg ht])
     generalize (Pl.nest (Pl.rowO (Is.map Pl.It.r))).isSome = TB at htr HF3
     clear HF2 HH h1 h2 h3 HFN HSM HBD HST HE hen g1 g2 hsm hcap
     go_wp2_with fail
     refine (za hend).mono ?_
     rintro e w5 ⟨rfl, b5⟩
     have K5 := hide ((za KK).call b5)
     have htr2 := hide (za htr w5 b5)
     clear hend b5 KK htr
     go_wp2_with fail
     refine (za htr2).mono ?_
     rintro e w6 ⟨rfl, b6⟩
     have K6 := hide ((za K5).call b6)
     clear htr2 b6 K5
     cases TB
     ·have HNO : Hid (RR = ([], 3)) := hide (za HF3)
      clear HF3
      have z0 := (za K6).x2.cell 0
      have z1 := (za K6).x2.cell 1
      simp only [kGs] at z0 z1
      have zf0 := (za K6).x2.fr 0
      have zf1 := (za K6).x2.fr 1
      go_wp2
      refine bodyPost_ret (v := .agg #[.slice none 0 0, .int .i64 3]) (by simp [results, Tryz.results7, go_sem, z0, z1]) rfl ⟨⟨.slice none 0 0, [], by rw [za HNO], Mem.Io.nil _ _, by rw [za HNO]; rfl⟩, ((za K6).done _ _).2⟩
     ·have HYE : Hid (RR = (Is.map Pl.It.r, 0)) := hide (za HF3)
      have z0 := (za K6).x2.cell 0
      have z1 := (za K6).x2.cell 1
      simp only [kGs] at z0 z1
      have zf0 := (za K6).x2.fr 0
      have zf1 := (za K6).x2.fr 1
      go_wp2
      refine bodyPost_ret (v := .agg #[.slice va Is.length vc, .int .i64 0]) (by simp [results, Tryz.results7, go_sem, z0, z1]) rfl ⟨⟨.slice va Is.length vc, Is, by rw [za HYE], ((za K6).done _ _).1, by rw [za HYE]⟩, ((za K6).done _ _).2⟩
end WNReadJ
end Go.Proofs.YtioildojmckepaaGreatDoor

namespace Go.Proofs.YtioildojmckepaaGreatDoor
open Go.RowKit
namespace zc0
set_option maxRecDepth 100000 in
theorem zs2 (a : Option Addr) (cap : Nat) (Is : List Pl.It) (w : World) (hl : Is.length ≤ 1048576) (hcap : Is.length ≤ cap) (hv : Mem.za7 w a Is) (hok : ∀ x ∈ Is, x.t.L.length ≤ 1048576 ∧ ∀ n ∈ x.t.L, n.path.size ≤ 1048576 ∧ n.data.size ≤ 1048576)
  (r0 r1 r2 r3 : TypeId) (x0 x1 x2 x3 : Value) (hE : zn1 w r0 r1 r2 r3 x0 x1 x2 x3) :
  Calls Tryz.prog 14 #[.slice a Is.length cap] w fun e w' => e = .returned (.int .i64 (Pl.depthO (Pl.nest (Pl.rowO (Is.map Pl.It.r))))) ∧ Below w.heap.size w w' := by
 have hz := hide (zk4 a cap Is w hl hcap hv hok _ _ _ _ _ _ _ _ hE)
 have hsz : ∀ k, Pl.nest (Pl.rowO (Is.map Pl.It.r)) = some k → k.sz ≤ 12 := fun k h => Pl.nest_sz h
 have HZ := hide hsz
 clear hv hok hE hsz
 generalize Pl.nest (Pl.rowO (Is.map Pl.It.r)) = NN at hz HZ ⊢
 go_enter Tryz.func14, Tryz.ntmps14
 go_wp2_with fail
 refine (za hz).mono ?_
 rintro e w1 ⟨h1, b1⟩
 clear hz
 rcases h1 with ⟨k, q, m, va, vcap, rfl, rfl, hlay⟩ | ⟨rfl, r, x, rfl⟩
 ·have bA : Below w1.heap.size w1 (w1.alloc (.cells #[.map q, .int .i64 m, .slice va k.len vcap] 71)) := (Below.refl _ _).alloc (Nat.le_refl _) _
  have bw := b1.trans (bA.mono b1.size)
  have hcall := hide (zw8 _ 1000 (Nat.le_refl _) k q m _ _ (by have := za HZ k rfl; omega) (Mem.zm2 hlay bA))
  clear HZ hlay bA b1
  go_wp2_with fail
  refine (za hcall).mono ?_
  rintro e w2 ⟨rfl, b2⟩
  have bb := bw.trans (b2.mono bw.size)
  clear hcall b2 bw
  go_wp2
  go_ret
  exact ⟨rfl, bb⟩
 ·go_wp2
  go_ret
  exact ⟨rfl, b1.alloc b1.size _⟩
end zc0
end Go.Proofs.YtioildojmckepaaGreatDoor

namespace Go.Proofs.YtioildojmckepaaGreatDoor
open Go.RowKit
namespace zc0
set_option maxRecDepth 100000 in
theorem zy2 (k : Pl.Fo) (q : Option Nat) (m : Int) (a : Option Addr) (cap : Nat) (w : World) :
  Calls Tryz.prog 65 #[.agg #[.map q, .int .i64 m, .slice a k.len cap]] w fun e w' => e = .returned (.bool (decide (k.len = 0))) ∧ Below w.heap.size w w' := by
 by_cases h : k.len = 0
 ·have t : (k.len : Int) = 0 := by omega
  go_enter Tryz.func65, Tryz.ntmps65
  go_wp2
  go_ret
  exact ⟨by simp [h], (Below.refl _ _).alloc (Nat.le_refl _) _⟩
 ·have t : ¬ (k.len : Int) = 0 := by omega
  go_enter Tryz.func65, Tryz.ntmps65
  go_wp2
  go_ret
  exact ⟨by simp [h], (Below.refl _ _).alloc (Nat.le_refl _) _⟩
end zc0
end Go.Proofs.YtioildojmckepaaGreatDoor

namespace Go.Proofs.YtioildojmckepaaGreatDoor
open Go.RowKit
namespace zc0
set_option linter.unusedSimpArgs false in
set_option maxRecDepth 100000 in
set_option maxHeartbeats 1000000 in
theorem zy3 (N : Nat → Prop) (n : Nat) (hn : n ≤ 1000) : ∀ (k : Pl.Fo) (q : Option Nat) (m : Int) (v : Value) (w : World), k.sz ≤ n → Mem.lay w N k v →
  Calls Tryz.prog 44 #[.agg #[.map q, .int .i64 m, v]] w fun e w' => e = .returned (.int .i64 (k.leaves : Int)) ∧ Below w.heap.size w w' := by
 have base : ∀ (q : Option Nat) (m : Int) (a : Option Addr) (cap : Nat) (w : World), Calls Tryz.prog 44 #[.agg #[.map q, .int .i64 m, .slice a 0 cap]] w fun e w' => e = .returned (.int .i64 1) ∧ Below w.heap.size w w' := by
  intro q m a cap w
  have b0 : Below w.heap.size w (w.alloc (.cells #[.map q, .int .i64 m, .slice a 0 cap] 71)) := (Below.refl _ _).alloc (Nat.le_refl _) _
  have hlf := hide (zy2 .nil q m a cap)
  simp only [Pl.Fo.len] at hlf
  go_enter Tryz.func44, Tryz.ntmps44
  go_wp2_with fail
  refine (za hlf _).mono ?_
  rintro e w1 ⟨rfl, b1⟩
  have bb := b0.trans (b1.mono b0.size)
  clear b0 b1 hlf
  go_wp2
  go_ret
  exact ⟨rfl, bb⟩
 induction n with
 | zero =>
  intro k q m v w hs hl
  obtain ⟨a, cap, rfl, -⟩ := hl
  cases k with
  | nil => exact base q m a cap w
  | cons a b => simp [Pl.Fo.sz] at hs
 | succ n ih =>
  intro k q m v w hs hl
  obtain ⟨a, cap, rfl, hrow⟩ := hl
  cases k with
  | nil => exact base q m a cap w
  | cons k0 m0 =>
   rcases hrow with h | ⟨g, rfl, hrow⟩
   ·cases h
   have hpos := Pl.leaves_pos k0 m0
   have hlen : 0 < (Pl.Fo.cons k0 m0).len := by simp [Pl.Fo.len]
   generalize hK : Pl.Fo.cons k0 m0 = K at *
   have hKl := K.len_le
   have hKd := K.leaves1_le
   have hKK : K.leaves = K.ze1 := by unfold Pl.Fo.leaves; omega
   rw [hKK]
   have b0 : Below w.heap.size w (w.alloc (.cells #[.map q, .int .i64 m, .slice (some ⟨g, 0, none⟩) K.len cap] 71)) := (Below.refl _ _).alloc (Nat.le_refl _) _
   have A0 := Mem.Blk.new w #[.map q, .int .i64 m, .slice (some ⟨g, 0, none⟩) K.len cap] 71
   have HI := hide (ih (by omega))
   have HRW := hide (zk0 hrow b0)
   have hlf := hide (zy2 K q m (some ⟨g, 0, none⟩) cap)
   rw [show decide (K.len = 0) = false from decide_eq_false (by omega)] at hlf
   clear hK ih hrow base hKK
   go_enter Tryz.func44, Tryz.ntmps44
   go_wp2_with fail
   generalize w.alloc (.cells #[.map q, .int .i64 m, .slice (some ⟨g, 0, none⟩) K.len cap] 71) = w2 at b0 A0 HRW ⊢
   refine (za hlf _).mono ?_
   rintro e w1 ⟨rfl, b1⟩
   have bb := b0.trans (b1.mono b0.size)
   have c02 := (A0.call b1).cell 2
   simp only [kGs] at c02
   have R0 : Hid (Mem.rowF w1 N K g (0 * 3)) := hide (by simpa using zk0 (za HRW) b1)
   clear b0 b1 hlf A0 HRW
   go_wp2
   go_loopw [3, 11] (fun d i wr => ∃ (j dd : Nat) (F : Pl.Fo), d = .int .i64 (dd : Int) ∧ i = .int .i64 (j : Int) ∧ j + F.len = K.len ∧ dd + F.ze1 = K.ze1 ∧ F.sz ≤ n + 1 ∧ Below w.heap.size w wr ∧ Hid (Mem.rowF wr N F g (j * 3))) (fun _ i _ => K.len - (intOf i).toNat)
   case atStart => exact ⟨0, 0, K, rfl, rfl, by omega, by omega, hs, bb, R0⟩
   case round =>
    obtain ⟨j, dd, F, rfl, rfl, hj, hmax, hsz, hbel, HR⟩ := hrel
    clear R0 bb c02
    cases F with
    | nil =>
     simp only [Pl.Fo.len, Pl.Fo.ze1] at hj hmax
     have u1 : ¬ (j : Int) < (K.len : Int) := by omega
     have hdd : dd = K.ze1 := by omega
     subst hdd
     go_wp2
     go_ret
     exact ⟨rfl, hbel⟩
    | cons k1 m1 =>
     simp only [Pl.Fo.len, Pl.Fo.ze1, Pl.Fo.sz] at hj hmax hsz
     obtain ⟨⟨x, y, a1, cap1, c0, c1, c2, hg, hN, ⟨q1, rfl⟩, ⟨r1, rfl⟩, hsub⟩, hrest⟩ := za HR
     have u1 : (j : Int) < (K.len : Int) := by omega
     have u3 : (0 : Int) ≤ (j : Int) := by omega
     have bA : Below wr.heap.size wr (wr.alloc (.cells #[.map q1, .int .i64 r1, .slice a1 k1.len cap1] 71)) := (Below.refl _ _).alloc (Nat.le_refl _) _
     have HL : Mem.lay wr N k1 (.slice a1 k1.len cap1) := ⟨a1, cap1, rfl, hsub⟩
     have hcall := hide (za HI k1 q1 r1 _ _ (by omega) (Mem.zm2 HL bA))
     have HRR := hide (zk0 hrest bA)
     have bw := hbel.trans (bA.mono hbel.size)
     have hk1 : k1.leaves = max 1 k1.ze1 := rfl
     clear hsub hrest HL HR
     go_wp2_with fail
     refine (za hcall).mono ?_
     rintro e wX ⟨rfl, bX⟩
     have bw2 := bw.trans (bX.mono bw.size)
     have HR2 := hide (zk0 (za HRR) bX)
     rw [show j * 3 + 3 = (j + 1) * 3 by omega] at HR2
     rw [← hk1] at hmax
     clear hcall HRR bX bw hbel c0 c1 c2 bA hk1
     go_wp2
     go_roundw
     case rel => exact ⟨j + 1, dd + k1.leaves, m1, by go_num, by go_num, by omega, by omega, by omega, bw2, HR2⟩
     case measure => simp [intOf]; omega
end zc0
end Go.Proofs.YtioildojmckepaaGreatDoor

namespace Go.Proofs.YtioildojmckepaaGreatDoor
open Go.RowKit
namespace zc0
set_option maxRecDepth 100000 in
theorem leaves_face (a : Option Addr) (cap : Nat) (Is : List Pl.It) (w : World) (hl : Is.length ≤ 1048576) (hcap : Is.length ≤ cap) (hv : Mem.za7 w a Is) (hok : ∀ x ∈ Is, x.t.L.length ≤ 1048576 ∧ ∀ n ∈ x.t.L, n.path.size ≤ 1048576 ∧ n.data.size ≤ 1048576)
  (r0 r1 r2 r3 : TypeId) (x0 x1 x2 x3 : Value) (hE : zn1 w r0 r1 r2 r3 x0 x1 x2 x3) :
  Calls Tryz.prog 16 #[.slice a Is.length cap] w fun e w' => e = .returned (.int .i64 (Pl.zx5 (Pl.nest (Pl.rowO (Is.map Pl.It.r))))) ∧ Below w.heap.size w w' := by
 have hz := hide (zk4 a cap Is w hl hcap hv hok _ _ _ _ _ _ _ _ hE)
 have hsz : ∀ k, Pl.nest (Pl.rowO (Is.map Pl.It.r)) = some k → k.sz ≤ 12 := fun k h => Pl.nest_sz h
 have HZ := hide hsz
 clear hv hok hE hsz
 generalize Pl.nest (Pl.rowO (Is.map Pl.It.r)) = NN at hz HZ ⊢
 go_enter Tryz.func16, Tryz.ntmps16
 go_wp2_with fail
 refine (za hz).mono ?_
 rintro e w1 ⟨h1, b1⟩
 clear hz
 rcases h1 with ⟨k, q, m, va, vcap, rfl, rfl, hlay⟩ | ⟨rfl, r, x, rfl⟩
 ·have bA : Below w1.heap.size w1 (w1.alloc (.cells #[.map q, .int .i64 m, .slice va k.len vcap] 71)) := (Below.refl _ _).alloc (Nat.le_refl _) _
  have bw := b1.trans (bA.mono b1.size)
  have hcall := hide (zy3 _ 1000 (Nat.le_refl _) k q m _ _ (by have := za HZ k rfl; omega) (Mem.zm2 hlay bA))
  clear HZ hlay bA b1
  go_wp2_with fail
  refine (za hcall).mono ?_
  rintro e w2 ⟨rfl, b2⟩
  have bb := bw.trans (b2.mono bw.size)
  clear hcall b2 bw
  go_wp2
  go_ret
  exact ⟨rfl, bb⟩
 ·go_wp2
  go_ret
  exact ⟨rfl, b1.alloc b1.size _⟩
end zc0
end Go.Proofs.YtioildojmckepaaGreatDoor

namespace Go.Proofs.YtioildojmckepaaGreatDoor
open Go.RowKit
namespace zc0
set_option linter.unusedSimpArgs false in
set_option maxRecDepth 100000 in
set_option maxHeartbeats 1000000 in
theorem yb1 (N : Nat → Prop) (n : Nat) (hn : n ≤ 1000) : ∀ (k : Pl.Fo) (q : Option Nat) (m : Int) (v : Value) (w : World), k.sz ≤ n → Mem.lay w N k v →
  Calls Tryz.prog 46 #[.agg #[.map q, .int .i64 m, v]] w fun e w' => e = .returned (.int .i64 (k.level : Int)) ∧ Below w.heap.size w w' := by
 have base : ∀ (q : Option Nat) (m : Int) (a : Option Addr) (cap : Nat) (w : World), Calls Tryz.prog 46 #[.agg #[.map q, .int .i64 m, .slice a 0 cap]] w fun e w' => e = .returned (.int .i64 0) ∧ Below w.heap.size w w' := by
  intro q m a cap w
  have b0 : Below w.heap.size w (w.alloc (.cells #[.map q, .int .i64 m, .slice a 0 cap] 71)) := (Below.refl _ _).alloc (Nat.le_refl _) _
  have hlf := hide (zy2 .nil q m a cap)
  simp only [Pl.Fo.len] at hlf
  go_enter Tryz.func46, Tryz.ntmps46
  go_wp2_with fail
  refine (za hlf _).mono ?_
  rintro e w1 ⟨rfl, b1⟩
  have bb := b0.trans (b1.mono b0.size)
  clear b0 b1 hlf
  go_wp2
  go_ret
  exact ⟨rfl, bb⟩
 induction n with
 | zero =>
  intro k q m v w hs hl
  obtain ⟨a, cap, rfl, -⟩ := hl
  cases k with
  | nil => exact base q m a cap w
  | cons a b => simp [Pl.Fo.sz] at hs
 | succ n ih =>
  intro k q m v w hs hl
  obtain ⟨a, cap, rfl, hrow⟩ := hl
  cases k with
  | nil => exact base q m a cap w
  | cons k0 m0 =>
   rcases hrow with h | ⟨g, rfl, hrow⟩
   ·cases h
   obtain ⟨⟨x, y, a1, cap1, c0, c1, c2, hg, hN, ⟨q1, rfl⟩, ⟨r1, rfl⟩, hsub⟩, -⟩ := hrow
   have hlen : (Pl.Fo.cons k0 m0).len = m0.len + 1 := rfl
   have hlv : (Pl.Fo.cons k0 m0).level = 1 + k0.level := rfl
   have hkd := Pl.level_le k0
   have hkz := k0.zy6
   simp only [Pl.Fo.sz] at hs
   have t1 : (0 : Int) < ((m0.len + 1 : Nat) : Int) := by omega
   have HL : Mem.lay w N k0 (.slice a1 k0.len cap1) := ⟨a1, cap1, rfl, hsub⟩
   have b0 : Below w.heap.size w (w.alloc (.cells #[.map q, .int .i64 m, .slice (some ⟨g, 0, none⟩) (m0.len + 1) cap] 71)) := (Below.refl _ _).alloc (Nat.le_refl _) _
   have A0 := Mem.Blk.new w #[.map q, .int .i64 m, .slice (some ⟨g, 0, none⟩) (m0.len + 1) cap] 71
   have hlf := hide (zy2 (.cons k0 m0) q m (some ⟨g, 0, none⟩) cap)
   rw [show decide ((Pl.Fo.cons k0 m0).len = 0) = false from decide_eq_false (by omega)] at hlf
   rw [hlen] at hlf ⊢
   rw [hlv]
   have HI := hide (fun W (b : Below w.heap.size w W) => ih (by omega) k0 q1 r1 _ W (by omega) (Mem.zm2 HL b))
   have HC : Hid (∀ W, Below w.heap.size w W → W.cell? ⟨g, 0, none⟩ = some (.map q1) ∧ W.cell? ⟨g, 1, none⟩ = some (.int .i64 r1) ∧ W.cell? ⟨g, 2, none⟩ = some (.slice a1 k0.len cap1)) := fun W b => ⟨(b.cell (p := ⟨g, _, none⟩) hg).trans c0, (b.cell (p := ⟨g, _, none⟩) hg).trans c1, (b.cell (p := ⟨g, _, none⟩) hg).trans c2⟩
   clear ih base hsub HL c0 c1 c2 hlen hlv
   go_enter Tryz.func46, Tryz.ntmps46
   go_wp2_with fail
   generalize w.alloc (.cells #[.map q, .int .i64 m, .slice (some ⟨g, 0, none⟩) (m0.len + 1) cap] 71) = w2 at b0 A0 ⊢
   refine (za hlf _).mono ?_
   rintro e w1 ⟨rfl, b1⟩
   have bb := b0.trans (b1.mono b0.size)
   have c02 := (A0.call b1).cell 2
   simp only [kGs] at c02
   obtain ⟨d0, d1, d2⟩ := za HC w1 bb
   have hcall := hide (za HI w1 bb)
   clear b0 b1 hlf A0 HI HC
   go_wp2_with fail
   refine (za hcall).mono ?_
   rintro e wX ⟨rfl, bX⟩
   have bw2 := bb.trans (bX.mono bb.size)
   clear bb bX hcall d0 d1 d2 c02
   go_wp2
   go_ret
   exact ⟨by simp, bw2⟩
end zc0
end Go.Proofs.YtioildojmckepaaGreatDoor

