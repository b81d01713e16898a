/- Several texts of one claim in one file: WNReadT, WReadE. -/
import Derived.Test.YtioildojmckepaaGreatDoorG20
import Derived.Test.YtioildojmckepaaGreatDoorG30
import Derived.Test.YtioildojmckepaaGreatDoorG39
import Derived.Test.YtioildojmckepaaGreatDoorWReadT
import Derived.Deep.Cut
import Derived.Test.YtioildojmckepaaGreatDoorG04
import Derived.Test.YtioildojmckepaaGreatDoorG34
import Derived.BigQuiet
namespace Go.Proofs.YtioildojmckepaaGreatDoor
open Go.RowKit
namespace WNReadT
set_option linter.unusedSimpArgs false in
set_option maxRecDepth 100000 in
set_option maxHeartbeats 2000000 in
theorem zb8 (s : ByteArray) (w : World) :
  Calls Tryz.prog 11 #[.string s] w fun e w' => zf5.Outs w w' (Pl.ze2 s).2 (Pl.ze2 s).1 e ∧ Below w.heap.size w w' := by
 obtain ⟨i0, hi, hz0, hz1, hz2⟩ := info_parts zf5.infoI
 by_cases h8 : 8000 < s.size
 ·have t0 : (8000 : Int) < (s.size : Int) := by omega
  have e0 : Pl.ze2 s = ([], 2) := if_pos h8
  rw [e0]
  have b0 : ∀ o, Below w.heap.size w (w.alloc o) := fun o => (Below.refl _ _).alloc (Nat.le_refl _) o
  clear e0
  go_enter Tryz.func11, Tryz.ntmps11
  go_wp2
  refine bodyPost_ret (v := .agg #[.slice none 0 0, .int .i64 2]) (by simp [results, Tryz.results11, go_sem]) rfl ⟨⟨.slice none 0 0, [], rfl, Mem.Io.nil _ _, rfl⟩, b0 _⟩
 have t0 : ¬ (8000 : Int) < (s.size : Int) := by omega
 have h8' : s.size ≤ 8000 := by omega
 have R0 : Hid (zj9.Rs (((w.alloc (.cells #[.slice none 0 0, .int .i64 0] 28)).alloc (.cells #[.string s, .int .i64 0, .bool false] 60)).alloc (.cells #[] 38)) (w.heap.size + 1) s 0 false) := hide (Mem.zt8 w _ _ _)
 have K0 : Hid (zf5.Nk w (((w.alloc (.cells #[.slice none 0 0, .int .i64 0] 28)).alloc (.cells #[.string s, .int .i64 0, .bool false] 60)).alloc (.cells #[] 38)) w.heap.size (w.heap.size + 1) (w.heap.size + 1 + 1) #[.string s, .int .i64 0, .bool false] 60 (.slice (some ⟨w.heap.size + 1 + 1, 0, none⟩) 0 0) []) :=
  hide ⟨(((Below.refl _ _).alloc (Nat.le_refl _) _).alloc (by simp) _).alloc (by simp; omega) _, by simp, ((Mem.Blk.new w _ _).alloc _).alloc _, Mem.zt8 w _ _ _, ⟨⟨rfl, .inr ⟨w.heap.size + 1 + 1, 0, #[], rfl, Nat.le_refl _, Mem.zk6 w _ _ _, Nat.le_refl _, Nat.zero_le _, rfl, rfl⟩⟩, fun i x h => (by cases h), fun i j x y _ h => (by cases h)⟩, by omega, by omega, by omega⟩
 have HM := hide (Pl.manyN_cases s)
 have hmany := hide (zj9.many_any (w.heap.size + 1) s 0 false 12 _ h8' (by omega) (za R0))
 generalize hMM : Pl.zg4 s 0 false 12 = MM at hmany HM
 obtain ⟨mc, ma, mb⟩ := MM
 simp only at hmany HM
 clear hMM
 have HRN : Hid (Pl.zh1 s = none → Pl.ze2 s = ([], 3)) := hide (fun h => by unfold Pl.ze2; rw [if_neg h8, h])
 have HRS : Hid (∀ L, Pl.zh1 s = some L → Pl.ze2 s = (L, 0)) := hide (fun L h => by unfold Pl.ze2; rw [if_neg h8, h])
 generalize hRR : Pl.ze2 s = RR at HRN HRS ⊢
 clear hRR
 go_enter Tryz.func11, Tryz.ntmps11
 go_wp2_with fail
 generalize (((w.alloc (.cells #[.slice none 0 0, .int .i64 0] 28)).alloc (.cells #[.string s, .int .i64 0, .bool false] 60)).alloc (.cells #[] 38)) = w3 at K0 R0 hmany ⊢
 refine (za hmany).mono ?_
 rintro e w1 ⟨rfl, hrs, hgr⟩
 have K1 := hide ((za K0).read hgr hrs)
 clear hmany K0 R0 hrs hgr
 rcases za HM with ⟨c, q, hg, hc12, hq0, hqs, hme⟩ | ⟨rfl, rfl, -, hno⟩
 rotate_left
 ·have HNO : Hid (RR = ([], 3)) := hide (za HRN hno)
  clear HM HRN HRS hno
  have c32 := (za K1).x3.cell 2
  simp only [kGs] at c32
  go_wp2
  go_loopw [4, 5] (fun n k wr => n = .slice (some ⟨w.heap.size + 1 + 1, 0, none⟩) 0 0 ∧ k = .int .i64 0 ∧ wr = w1) (fun _ _ _ => 0)
  case atStart => exact ⟨rfl, rfl, rfl⟩
  case round =>
   obtain ⟨rfl, rfl, rfl⟩ := hrel
   have z0 := (za K1).x2.cell 0
   have z1 := (za K1).x2.cell 1
   simp only [kGs] at z0 z1
   have zf0 := (za K1).x2.fr 0
   have zf1 := (za K1).x2.fr 1
   go_wp2
   refine bodyPost_ret (v := .agg #[.slice none 0 0, .int .i64 3]) (by simp [results, Tryz.results11, go_sem, z0, z1]) rfl ⟨⟨.slice none 0 0, [], by rw [za HNO], Mem.Io.nil _ _, by rw [za HNO]; rfl⟩, ((za K1).done _ _).2⟩
 ·obtain ⟨e1, e2, e3⟩ : mc = (c : Int) ∧ ma = (q : Int) ∧ mb = false := by simp only [Prod.mk.injEq] at hme; exact hme
  subst e1 e2 e3
  have ht1 : s.toList.isEmpty = false := by rw [Pl.zc5]; exact decide_eq_false (fun h => by rw [Pl.zg2] at h; omega)
  have HFA : Hid (∀ j, j ≤ c → (Pl.za1 s (q : Int) j).f ≠ none → RR = ([], 3)) := hide (fun j hj hf => za HRN (Pl.nestR_none hg hj hf))
  have HEN : Hid ((Pl.za1 s (q : Int) c).f = none → (Pl.zb3 (Pl.za1 s (q : Int) c).L = s → RR = ((Pl.za1 s (q : Int) c).L, 0)) ∧ (¬ Pl.zb3 (Pl.za1 s (q : Int) c).L = s → RR = ([], 3))) := hide (fun hf => ⟨fun hb => za HRS _ (by rw [Pl.yb6 h8' hg hc12 hf, if_pos hb]), fun hb => za HRN (by rw [Pl.yb6 h8' hg hc12 hf, if_neg hb])⟩)
  have HSM : Hid (∀ j, (Pl.za1 s (q : Int) j).f = none → ∀ x ∈ (Pl.za1 s (q : Int) j).L, x.2.length ≤ 1048576 ∧ ∀ n ∈ x.2, n.path.size ≤ 1048576 ∧ n.data.size ≤ 1048576) := hide (fun j hf x hx => Pl.treeB_ok (Pl.ya6 j hf x hx))
  have HBD : Hid (∀ j, (Pl.za1 s (q : Int) j).a ≤ 9223372036854775807) := hide (fun j => Pl.yb4 h8' (by omega) j)
  have HST : Hid (∀ j, (Pl.za1 s (q : Int) j).f = none → ((Pl.zn7 s (Pl.za1 s (q : Int) j).a).2.2 = false ∧ (Pl.za1 s (q : Int) (j + 1)).f = none ∧ (Pl.zn7 s (Pl.za1 s (q : Int) j).a).2.1 = (Pl.za1 s (q : Int) (j + 1)).a ∧ (Pl.za1 s (q : Int) j).L ++ [(Pl.zn7 s (Pl.za1 s (q : Int) j).a).1] = (Pl.za1 s (q : Int) (j + 1)).L) ∨ ((Pl.zn7 s (Pl.za1 s (q : Int) j).a).2.2 = true ∧ (Pl.za1 s (q : Int) (j + 1)).f ≠ none)) := hide (fun j hf => Pl.stepsI_succ hf)
  have HZ : Hid ((Pl.za1 s (q : Int) 0).L = [] ∧ (Pl.za1 s (q : Int) 0).a = (q : Int) ∧ (Pl.za1 s (q : Int) 0).f = none) := hide ⟨rfl, rfl, rfl⟩
  have HLN : Hid (∀ j, (Pl.za1 s (q : Int) j).L.length = j) := hide (fun j => Pl.ye4 s (q : Int) j)
  generalize Pl.za1 s (q : Int) = ST at HFA HEN HSM HBD HST HZ HLN
  clear hme hg HM HRN HRS
  go_wp2
  go_loopw [4, 5] (fun n k wr => ∃ (kk j : Nat) (a : Int) (bad : Bool) (Is : List Pl.It), k = .int .i64 (kk : Int) ∧ kk + j = c ∧ Is.length = j ∧ Hid (zf5.Nk w wr w.heap.size (w.heap.size + 1) (w.heap.size + 1 + 1) #[.string s, .int .i64 a, .bool bad] 60 n Is) ∧ ((bad = false ∧ Hid ((ST j).L = Is.map Pl.It.r ∧ (ST j).a = a ∧ (ST j).f = none)) ∨ (bad = true ∧ Hid (RR = ([], 3))))) (fun _ k _ => (intOf k).toNat)
  case atStart => exact ⟨c, 0, (q : Int), false, [], rfl, by omega, rfl, K1, .inl ⟨rfl, HZ⟩⟩
  case round =>
   obtain ⟨kk, j, a, bad, Is, rfl, hkj, hlj, KK, hcase⟩ := hrel
   clear K1 HZ
   have HLJ := hide hlj
   clear hlj
   have c32 := (za KK).x3.cell 2
   simp only [kGs] at c32
   rcases hcase with ⟨rfl, HH⟩ | ⟨rfl, HNO⟩
   rotate_left
   ·by_cases hk : (0 : Int) < (kk : Int)
    ·skip
     have z0 := (za KK).x2.cell 0
     have z1 := (za KK).x2.cell 1
     simp only [kGs] at z0 z1
     have zf0 := (za KK).x2.fr 0
     have zf1 := (za KK).x2.fr 1
     go_wp2
     refine bodyPost_ret (v := .agg #[.slice none 0 0, .int .i64 3]) (by simp [results, Tryz.results11, go_sem, z0, z1]) rfl ⟨⟨.slice none 0 0, [], by rw [za HNO], Mem.Io.nil _ _, by rw [za HNO]; rfl⟩, ((za KK).done _ _).2⟩
    ·skip
     have z0 := (za KK).x2.cell 0
     have z1 := (za KK).x2.cell 1
     simp only [kGs] at z0 z1
     have zf0 := (za KK).x2.fr 0
     have zf1 := (za KK).x2.fr 1
     go_wp2
     refine bodyPost_ret (v := .agg #[.slice none 0 0, .int .i64 3]) (by simp [results, Tryz.results11, go_sem, z0, z1]) rfl ⟨⟨.slice none 0 0, [], by rw [za HNO], Mem.Io.nil _ _, by rw [za HNO]; rfl⟩, ((za KK).done _ _).2⟩
   ·obtain ⟨va, vc, rfl⟩ := Mem.za3 (za KK).row.row
    cases kk with
    | zero =>
     obtain rfl : j = c := by omega
     obtain ⟨h1, h2, h3⟩ := za HH
     obtain ⟨hE1, hE2⟩ := za HEN h3
     have hll : Is.length ≤ 1048576 := by rw [za HLJ]; omega
     have hsm := za HSM _ h3
     rw [h1] at hE1 hE2 hsm
     have htb := hide (zr6.zb8 va vc Is wr hll (za KK).row.items.2 (fun x hx => hsm x.r (List.mem_map.2 ⟨x, hx, rfl⟩)))
     have HE1 := hide hE1
     have HE2 := hide hE2
     clear hE1 hE2 hsm
     generalize Pl.zb3 (Is.map Pl.It.r) = Y at htb HE1 HE2
     clear HH h1 h2 h3 HFA HEN HSM HBD HST HLN HLJ
     go_wp2_with fail
     refine (za htb).mono ?_
     rintro e w5 ⟨rfl, b5⟩
     have K5 := hide ((za KK).call b5)
     clear htb KK b5 c32
     by_cases hy : Y = s
     ·have HYE := hide (za HE1 hy)
      subst hy
      have z0 := (za K5).x2.cell 0
      have z1 := (za K5).x2.cell 1
      simp only [kGs] at z0 z1
      have zf0 := (za K5).x2.fr 0
      have zf1 := (za K5).x2.fr 1
      go_wp2
      refine bodyPost_ret (v := .agg #[.slice va Is.length vc, .int .i64 0]) (by simp [results, Tryz.results11, go_sem, z0, z1]) rfl ⟨⟨.slice va Is.length vc, Is, by rw [za HYE], ((za K5).done _ _).1, by rw [za HYE]⟩, ((za K5).done _ _).2⟩
     ·have HNO : Hid (RR = ([], 3)) := hide (za HE2 hy)
      have hy1 : ¬ Y.toList = s.toList := fun h => hy (by rw [ByteArray.toList_eq, ByteArray.toList_eq] at h; exact Pl.zh h)
      have hy2 : (Y.toList == s.toList) = false := by simpa using hy1
      have z0 := (za K5).x2.cell 0
      have z1 := (za K5).x2.cell 1
      simp only [kGs] at z0 z1
      have zf0 := (za K5).x2.fr 0
      have zf1 := (za K5).x2.fr 1
      go_wp2
      refine bodyPost_ret (v := .agg #[.slice none 0 0, .int .i64 3]) (by simp [results, Tryz.results11, go_sem, z0, z1]) rfl ⟨⟨.slice none 0 0, [], by rw [za HNO], Mem.Io.nil _ _, by rw [za HNO]; rfl⟩, ((za K5).done _ _).2⟩
    | succ kk =>
     have u1 : (0 : Int) < ((kk + 1 : Nat) : Int) := by omega
     obtain ⟨h1, h2, h3⟩ := za HH
     have hab := za HBD j
     have hst := za HST j h3
     have hlen : Is.length ≤ 12 := by rw [za HLJ]; omega
     rw [h2] at hst hab
     rw [h1] at hst
     unfold Pl.zn7 at hst
     obtain ⟨⟨p1, a1, b1⟩, hr1⟩ : ∃ r, Pl.numS s a false = r := ⟨_, rfl⟩
     have z1 := Pl.zz3 (bad := false) h8' hab
     simp only [hr1] at hst z1
     obtain ⟨⟨p2, a2, b2⟩, hr2⟩ : ∃ r, Pl.zh0 s a1 b1 = r := ⟨_, rfl⟩
     simp only [hr2] at hst
     obtain ⟨⟨L2, co⟩, hr3⟩ : ∃ r, Pl.ze0 p2 = r := ⟨_, rfl⟩
     simp only [hr3] at hst
     have HSS := hide hst
     have c1 := hide (fun W hv => zj9.zj6 (w.heap.size + 1) s a false W h8' hab hv)
     have c2 := hide (fun W hv => zj9.text_any (w.heap.size + 1) s a1 b1 W h8' z1 hv)
     have c3 := hide (fun W => WReadT.zb8 p2 W)
     rw [hr1] at c1
     rw [hr2] at c2
     rw [hr3] at c3
     simp only at c1 c2 c3
     have HNF : Hid ((ST (j + 1)).f ≠ none → RR = ([], 3)) := hide (fun hf => za HFA (j + 1) (by omega) hf)
     clear hst h1 h2 h3 HH hr1 hr2 hr3 z1 HFA HEN HSM HBD HST HLN hab
     go_wp2_with fail
     refine (za c1 _ (za KK).x3).mono ?_
     rintro e w1' ⟨rfl, hrs, hgr⟩
     clear c1 c32
     have hX3 : w.heap.size + 1 < wr.heap.size := (za KK).x3.lt
     have hs1 := hgr.size
     have G2 := hide (Mem.zg9 hgr (Mem.zg1 ((Below.refl _ _).alloc (Nat.le_refl _) (.cells #[.int .i64 p1, .slice none 0 0] 38)) (some (w.heap.size + 1))))
     have R2 := hide (Mem.Blk.alloc hrs (.cells #[.int .i64 p1, .slice none 0 0] 38))
     have N2 := hide (Mem.Blk.new w1' #[.int .i64 p1, .slice none 0 0] 38)
     clear hrs hgr
     generalize hX6 : w1'.heap.size = X6 at N2 hs1
     go_wp2_with fail
     refine (za c2 _ (za R2)).mono ?_
     rintro e w2 ⟨rfl, hrs, hgr⟩
     have G3 := hide (Mem.zg9 (za G2) hgr)
     have N3 := hide ((za N2).grown hgr (fun e => by have := Option.some.inj e; omega))
     have R3 := hide hrs
     have hs2 : wr.heap.size ≤ w2.heap.size := (za G3).size
     have hX62 : X6 < w2.heap.size := (za N3).lt
     clear c2 G2 N2 R2 hrs hgr
     go_wp2_with fail
     refine (za c3 _).mono ?_
     rintro e w4 ⟨vt, rfl, ownT, b4⟩
     obtain ⟨ta, tc, rfl⟩ := Mem.za3 ownT
     have bA : Below w4.heap.size w4 (w4.alloc (.cells #[.slice ta L2.length tc, .int .i64 co] 62)) := (Below.refl _ _).alloc (Nat.le_refl _) _
     have bB := b4.trans (bA.mono b4.size)
     have G4 := hide (Mem.zg9 (za G3) (Mem.zg1 bB _))
     have N4 := hide ((za N3).call bB)
     have R4 := hide (Mem.Blk.call (za R3) bB)
     have T4 := hide (Mem.zo2 ownT bA)
     have Y4 := hide (Mem.Blk.new w4 #[.slice ta L2.length tc, .int .i64 co] 62)
     have hs4 : wr.heap.size ≤ w4.heap.size := Nat.le_trans hs2 b4.size
     have hX64 : X6 < w4.heap.size := Nat.lt_of_lt_of_le (za N3).lt b4.size
     clear c3 G3 N3 R3 ownT b4 bA bB
     go_upto_region 10 with fail
     generalize hX7 : w4.heap.size = X7 at Y4 hX64 hs4 ⊢
     generalize hWW : w4.alloc (.cells #[.slice ta L2.length tc, .int .i64 co] 62) = W4 at G4 N4 R4 T4 Y4 ⊢
     clear hWW
     cases b2 with
     | true =>
      have q1 := (za R4).cell 2
      have q1f := (za R4).fr 2
      have y0 := (za Y4).cell 0
      have y1 := (za Y4).cell 1
      have n0 := (za N4).cell 0
      have n1f := (za N4).fr 1
      simp only [kGs] at q1 y0 y1 n0
      have G5 := hide (Mem.zg9 (za G4) (za8.ze4 (w := W4) (w.heap.size + 1) 2 (.bool true)))
      have R5 := hide (show Mem.Blk (W4.setCell ⟨w.heap.size + 1, 2, none⟩ (.bool true)) (w.heap.size + 1) #[.string s, .int .i64 a2, .bool true] 60 from Mem.Blk.put (za R4) 2 (.bool true))
      have N5 := hide ((za N4).far ⟨w.heap.size + 1, 2, none⟩ (.bool true) (by show X6 ≠ w.heap.size + 1; omega))
      have Y5 := hide ((za Y4).far ⟨w.heap.size + 1, 2, none⟩ (.bool true) (by show X7 ≠ w.heap.size + 1; omega))
      have T5 := hide (Mem.za4 (za T4) ⟨w.heap.size + 1, 2, none⟩ (.bool true) (by show w.heap.size + 1 < w2.heap.size; omega))
      have hd3 : w.heap.size + 1 ≠ X6 := by omega
      have hd4 : w.heap.size + 1 ≠ X7 := by omega
      have hd5 : X6 ≠ X7 := by omega
      clear hX6 hX7
      go_upto_region 11 with fail
      generalize W4.setCell ⟨w.heap.size + 1, 2, none⟩ (.bool true) = W5 at G5 R5 N5 Y5 T5 ⊢
      clear q1 q1f y0 y1 n0 n1f G4 R4 N4 Y4 T4
      have y0 := (za Y5).cell 0
      simp only [kGs] at y0
      have o1 := (za N5).cell 1
      simp only [kGs] at o1
      have n1f := (za N5).fr 1
      have G6 := hide (za8.zd8 (za G5) X6 1 (.slice ta L2.length tc) (by omega))
      have R6 := hide (Mem.Blk.far (za R5) ⟨X6, 1, none⟩ (.slice ta L2.length tc) (by show w.heap.size + 1 ≠ X6; omega))
      have N6 := hide (show Mem.Blk (W5.setCell ⟨X6, 1, none⟩ (.slice ta L2.length tc)) X6 #[.int .i64 p1, .slice ta L2.length tc] 38 from (za N5).put 1 (.slice ta L2.length tc))
      have T6 := hide (Mem.za4 (za T5) ⟨X6, 1, none⟩ (.slice ta L2.length tc) (by show X6 < w2.heap.size; omega))
      go_upto_region 12 with fail
      generalize W5.setCell ⟨X6, 1, none⟩ (.slice ta L2.length tc) = W6 at G6 R6 N6 T6 ⊢
      clear y0 o1 n1f G5 R5 N5 Y5 T5
      have n0 := (za N6).cell 0
      have n1 := (za N6).cell 1
      simp only [kGs] at n0 n1
      have TN := hide (zf5.zg3 W6 p1 (.slice ta L2.length tc) 38)
      have K6 := hide ((za KK).read (za G6) (za R6))
      have KA := hide ((za K6).call ((Below.refl _ _).alloc (Nat.le_refl _) (.cells #[.int .i64 p1, .slice ta L2.length tc] 38)))
      have HPT := hide (fun w4 v' own gr far => (za KK).put (w4 := w4) (v' := v') (m := p1) (t := ⟨ta, tc, L2⟩) (za G6) (za R6) (za T6) hs2 own gr far)
      clear K6 N6 T6 G6 R6
      go_wp2_with (at_builtin; refine Mem.zb0 _ rfl _ _ 23 rfl (w.heap.size + 1 + 1) 38 i0 (.agg #[.int .i64 0, .slice none 0 0]) 2 32 Tryz.underlying23 hi hz0 hz1 hz2 rfl (by decide) _ _ _ rfl (za KA).row.row ⟨W6.heap.size, 0, none⟩ 1 1 [.int .i64 p1, .slice ta L2.length tc] rfl rfl (za TN) (zf5.zh4 _ _ _ _) (by unfold maxLen; omega) (by omega) (za KA).big ?_)
      intro v' w9 own' gr far
      have KN := hide (za HPT w9 v' own' gr (by simpa [Pl.Tr.val] using far))
      clear own' gr far HPT KA KK TN n0 n1
      have HCAS : Hid ((true = false ∧ Hid ((ST (j + 1)).L = (Is ++ [(⟨p1, ⟨ta, tc, L2⟩⟩ : Pl.It)]).map Pl.It.r ∧ (ST (j + 1)).a = a2 ∧ (ST (j + 1)).f = none)) ∨ (true = true ∧ Hid (RR = ([], 3)))) := hide (by
       rcases za HSS with ⟨g1, -⟩ | ⟨-, g2⟩
       ·simp at g1
        try exact absurd g1 hco
       ·exact .inr ⟨rfl, hide (za HNF g2)⟩
      )
      clear HSS HNF
      go_wp2
      go_roundw
      case rel => exact ⟨kk, j + 1, a2, true, Is ++ [⟨p1, ⟨ta, tc, L2⟩⟩], by go_num, by omega, by rw [List.length_append, za HLJ]; rfl, KN, za HCAS⟩
      case measure => simp [intOf]
     | false =>
      by_cases hco : co = 0
      ·subst hco
       have q1 := (za R4).cell 2
       have q1f := (za R4).fr 2
       have y0 := (za Y4).cell 0
       have y1 := (za Y4).cell 1
       have n0 := (za N4).cell 0
       have n1f := (za N4).fr 1
       simp only [kGs] at q1 y0 y1 n0
       have G5 := hide (Mem.zg9 (za G4) (za8.ze4 (w := W4) (w.heap.size + 1) 2 (.bool false)))
       have R5 := hide (show Mem.Blk (W4.setCell ⟨w.heap.size + 1, 2, none⟩ (.bool false)) (w.heap.size + 1) #[.string s, .int .i64 a2, .bool false] 60 from Mem.Blk.put (za R4) 2 (.bool false))
       have N5 := hide ((za N4).far ⟨w.heap.size + 1, 2, none⟩ (.bool false) (by show X6 ≠ w.heap.size + 1; omega))
       have Y5 := hide ((za Y4).far ⟨w.heap.size + 1, 2, none⟩ (.bool false) (by show X7 ≠ w.heap.size + 1; omega))
       have T5 := hide (Mem.za4 (za T4) ⟨w.heap.size + 1, 2, none⟩ (.bool false) (by show w.heap.size + 1 < w2.heap.size; omega))
       have hd3 : w.heap.size + 1 ≠ X6 := by omega
       have hd4 : w.heap.size + 1 ≠ X7 := by omega
       have hd5 : X6 ≠ X7 := by omega
       clear hX6 hX7
       go_upto_region 11 with fail
       generalize W4.setCell ⟨w.heap.size + 1, 2, none⟩ (.bool false) = W5 at G5 R5 N5 Y5 T5 ⊢
       clear q1 q1f y0 y1 n0 n1f G4 R4 N4 Y4 T4
       have y0 := (za Y5).cell 0
       simp only [kGs] at y0
       have o1 := (za N5).cell 1
       simp only [kGs] at o1
       have n1f := (za N5).fr 1
       have G6 := hide (za8.zd8 (za G5) X6 1 (.slice ta L2.length tc) (by omega))
       have R6 := hide (Mem.Blk.far (za R5) ⟨X6, 1, none⟩ (.slice ta L2.length tc) (by show w.heap.size + 1 ≠ X6; omega))
       have N6 := hide (show Mem.Blk (W5.setCell ⟨X6, 1, none⟩ (.slice ta L2.length tc)) X6 #[.int .i64 p1, .slice ta L2.length tc] 38 from (za N5).put 1 (.slice ta L2.length tc))
       have T6 := hide (Mem.za4 (za T5) ⟨X6, 1, none⟩ (.slice ta L2.length tc) (by show X6 < w2.heap.size; omega))
       go_upto_region 12 with fail
       generalize W5.setCell ⟨X6, 1, none⟩ (.slice ta L2.length tc) = W6 at G6 R6 N6 T6 ⊢
       clear y0 o1 n1f G5 R5 N5 Y5 T5
       have n0 := (za N6).cell 0
       have n1 := (za N6).cell 1
       simp only [kGs] at n0 n1
       have TN := hide (zf5.zg3 W6 p1 (.slice ta L2.length tc) 38)
       have K6 := hide ((za KK).read (za G6) (za R6))
       have KA := hide ((za K6).call ((Below.refl _ _).alloc (Nat.le_refl _) (.cells #[.int .i64 p1, .slice ta L2.length tc] 38)))
       have HPT := hide (fun w4 v' own gr far => (za KK).put (w4 := w4) (v' := v') (m := p1) (t := ⟨ta, tc, L2⟩) (za G6) (za R6) (za T6) hs2 own gr far)
       clear K6 N6 T6 G6 R6
       go_wp2_with (at_builtin; refine Mem.zb0 _ rfl _ _ 23 rfl (w.heap.size + 1 + 1) 38 i0 (.agg #[.int .i64 0, .slice none 0 0]) 2 32 Tryz.underlying23 hi hz0 hz1 hz2 rfl (by decide) _ _ _ rfl (za KA).row.row ⟨W6.heap.size, 0, none⟩ 1 1 [.int .i64 p1, .slice ta L2.length tc] rfl rfl (za TN) (zf5.zh4 _ _ _ _) (by unfold maxLen; omega) (by omega) (za KA).big ?_)
       intro v' w9 own' gr far
       have KN := hide (za HPT w9 v' own' gr (by simpa [Pl.Tr.val] using far))
       clear own' gr far HPT KA KK TN n0 n1
       have HCAS : Hid ((false = false ∧ Hid ((ST (j + 1)).L = (Is ++ [(⟨p1, ⟨ta, tc, L2⟩⟩ : Pl.It)]).map Pl.It.r ∧ (ST (j + 1)).a = a2 ∧ (ST (j + 1)).f = none)) ∨ (false = true ∧ Hid (RR = ([], 3)))) := hide (by
        rcases za HSS with ⟨-, g2, g3, g4⟩ | ⟨g1, -⟩
        ·exact .inl ⟨rfl, hide ⟨by rw [← g4, List.map_append]; rfl, g3.symm, g2⟩⟩
        ·simp at g1
       )
       clear HSS HNF
       go_wp2
       go_roundw
       case rel => exact ⟨kk, j + 1, a2, false, Is ++ [⟨p1, ⟨ta, tc, L2⟩⟩], by go_num, by omega, by rw [List.length_append, za HLJ]; rfl, KN, za HCAS⟩
       case measure => simp [intOf]
      ·have hco2 : (co != 0) = true := by simpa using hco
       have hco3 : decide (co = 0) = false := by simpa using hco
       have hco4 : (co == 0) = false := by simpa using hco
       have q1 := (za R4).cell 2
       have q1f := (za R4).fr 2
       have y0 := (za Y4).cell 0
       have y1 := (za Y4).cell 1
       have n0 := (za N4).cell 0
       have n1f := (za N4).fr 1
       simp only [kGs] at q1 y0 y1 n0
       have G5 := hide (Mem.zg9 (za G4) (za8.ze4 (w := W4) (w.heap.size + 1) 2 (.bool true)))
       have R5 := hide (show Mem.Blk (W4.setCell ⟨w.heap.size + 1, 2, none⟩ (.bool true)) (w.heap.size + 1) #[.string s, .int .i64 a2, .bool true] 60 from Mem.Blk.put (za R4) 2 (.bool true))
       have N5 := hide ((za N4).far ⟨w.heap.size + 1, 2, none⟩ (.bool true) (by show X6 ≠ w.heap.size + 1; omega))
       have Y5 := hide ((za Y4).far ⟨w.heap.size + 1, 2, none⟩ (.bool true) (by show X7 ≠ w.heap.size + 1; omega))
       have T5 := hide (Mem.za4 (za T4) ⟨w.heap.size + 1, 2, none⟩ (.bool true) (by show w.heap.size + 1 < w2.heap.size; omega))
       have hd3 : w.heap.size + 1 ≠ X6 := by omega
       have hd4 : w.heap.size + 1 ≠ X7 := by omega
       have hd5 : X6 ≠ X7 := by omega
       clear hX6 hX7
       go_upto_region 11 with fail
       generalize W4.setCell ⟨w.heap.size + 1, 2, none⟩ (.bool true) = W5 at G5 R5 N5 Y5 T5 ⊢
       clear q1 q1f y0 y1 n0 n1f G4 R4 N4 Y4 T4
       have y0 := (za Y5).cell 0
       simp only [kGs] at y0
       have o1 := (za N5).cell 1
       simp only [kGs] at o1
       have n1f := (za N5).fr 1
       have G6 := hide (za8.zd8 (za G5) X6 1 (.slice ta L2.length tc) (by omega))
       have R6 := hide (Mem.Blk.far (za R5) ⟨X6, 1, none⟩ (.slice ta L2.length tc) (by show w.heap.size + 1 ≠ X6; omega))
       have N6 := hide (show Mem.Blk (W5.setCell ⟨X6, 1, none⟩ (.slice ta L2.length tc)) X6 #[.int .i64 p1, .slice ta L2.length tc] 38 from (za N5).put 1 (.slice ta L2.length tc))
       have T6 := hide (Mem.za4 (za T5) ⟨X6, 1, none⟩ (.slice ta L2.length tc) (by show X6 < w2.heap.size; omega))
       go_upto_region 12 with fail
       generalize W5.setCell ⟨X6, 1, none⟩ (.slice ta L2.length tc) = W6 at G6 R6 N6 T6 ⊢
       clear y0 o1 n1f G5 R5 N5 Y5 T5
       have n0 := (za N6).cell 0
       have n1 := (za N6).cell 1
       simp only [kGs] at n0 n1
       have TN := hide (zf5.zg3 W6 p1 (.slice ta L2.length tc) 38)
       have K6 := hide ((za KK).read (za G6) (za R6))
       have KA := hide ((za K6).call ((Below.refl _ _).alloc (Nat.le_refl _) (.cells #[.int .i64 p1, .slice ta L2.length tc] 38)))
       have HPT := hide (fun w4 v' own gr far => (za KK).put (w4 := w4) (v' := v') (m := p1) (t := ⟨ta, tc, L2⟩) (za G6) (za R6) (za T6) hs2 own gr far)
       clear K6 N6 T6 G6 R6
       go_wp2_with (at_builtin; refine Mem.zb0 _ rfl _ _ 23 rfl (w.heap.size + 1 + 1) 38 i0 (.agg #[.int .i64 0, .slice none 0 0]) 2 32 Tryz.underlying23 hi hz0 hz1 hz2 rfl (by decide) _ _ _ rfl (za KA).row.row ⟨W6.heap.size, 0, none⟩ 1 1 [.int .i64 p1, .slice ta L2.length tc] rfl rfl (za TN) (zf5.zh4 _ _ _ _) (by unfold maxLen; omega) (by omega) (za KA).big ?_)
       intro v' w9 own' gr far
       have KN := hide (za HPT w9 v' own' gr (by simpa [Pl.Tr.val] using far))
       clear own' gr far HPT KA KK TN n0 n1
       have HCAS : Hid ((true = false ∧ Hid ((ST (j + 1)).L = (Is ++ [(⟨p1, ⟨ta, tc, L2⟩⟩ : Pl.It)]).map Pl.It.r ∧ (ST (j + 1)).a = a2 ∧ (ST (j + 1)).f = none)) ∨ (true = true ∧ Hid (RR = ([], 3)))) := hide (by
        rcases za HSS with ⟨g1, -⟩ | ⟨-, g2⟩
        ·simp at g1
         try exact absurd g1 hco
        ·exact .inr ⟨rfl, hide (za HNF g2)⟩
       )
       clear HSS HNF
       go_wp2
       go_roundw
       case rel => exact ⟨kk, j + 1, a2, true, Is ++ [⟨p1, ⟨ta, tc, L2⟩⟩], by go_num, by omega, by rw [List.length_append, za HLJ]; rfl, KN, za HCAS⟩
       case measure => simp [intOf]
end WNReadT
end Go.Proofs.YtioildojmckepaaGreatDoor

namespace Go.Proofs.YtioildojmckepaaGreatDoor
open Go.RowKit
namespace za8
def endR (s : ByteArray) (a : Int) (f : Option Int) : Bool := f.isNone && decide (a = (s.size : Int))
set_option linter.unusedSimpArgs false in
set_option maxRecDepth 100000 in
set_option maxHeartbeats 1000000 in
theorem zq1 (X : Nat) (s : ByteArray) (a : Int) (f : Option Int) (w : World) (hv : Rd w X s a f) :
  Calls Tryz.prog 33 #[.pointer (some ⟨X, 0, none⟩)] w fun e w' => e = .returned (.bool (endR s a f)) ∧ Below w.heap.size w w' := by
 have c0 := hv.cell 0
 have c1 := hv.cell 1
 have c2 := hv.cell 2
 simp only [kGs] at c0 c1 c2
 clear hv
 unfold endR
 cases f with
 | some c =>
  simp only [fv] at c2
  go_enter Tryz.func33, Tryz.ntmps33
  go_wp2_with fail
  go_quiet (fail)
  go_wp2
  go_ret
  exact ⟨rfl, Mem.below_drewN (Below.refl _ _) _⟩
 | none =>
  simp only [fv] at c2
  by_cases h : a = (s.size : Int)
  ·subst h
   go_enter Tryz.func33, Tryz.ntmps33
   go_wp2_with fail
   go_quiet (fail)
   go_wp2
   go_ret
   exact ⟨by simp, Mem.below_drewN (Below.refl _ _) _⟩
  ·have t0 : (a == (s.size : Int)) = false := by simpa using h
   have E : Hid (decide (a = (s.size : Int)) = false) := decide_eq_false h
   clear h
   go_enter Tryz.func33, Tryz.ntmps33
   go_wp2_with fail
   go_quiet (fail)
   go_wp2
   go_ret
   exact ⟨by rw [za E]; rfl, Mem.below_drewN (Below.refl _ _) _⟩
end za8
end Go.Proofs.YtioildojmckepaaGreatDoor

