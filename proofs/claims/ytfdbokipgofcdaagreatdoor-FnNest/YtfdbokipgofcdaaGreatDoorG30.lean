/- Several texts of one claim in one file: WReadT, WNReadT, WReadE. -/
import Derived.Test.YtfdbokipgofcdaaGreatDoorG18
import Derived.Test.YtfdbokipgofcdaaGreatDoorG10
import Derived.Test.YtfdbokipgofcdaaGreatDoorG11
import Derived.Test.YtfdbokipgofcdaaGreatDoorG29
import Derived.Test.YtfdbokipgofcdaaGreatDoorG13
import Derived.Deep.Cut
import Derived.Test.YtfdbokipgofcdaaGreatDoorG02
import Derived.Test.YtfdbokipgofcdaaGreatDoorG07
import Derived.BigQuiet
namespace Go.Proofs.YtfdbokipgofcdaaGreatDoor
open Go.RowKit
namespace WReadT
theorem zl3 : (Tryz.prog.info? 89).map (fun i => (i.zero, i.size, i.bytes)) = some (some (.agg #[.string ⟨#[]⟩, .int .i64 0, .string ⟨#[]⟩, .int .i64 0, .int .i64 0]), 5, 56) := by kernel_rfl
set_option linter.unusedSimpArgs false in
set_option maxRecDepth 100000 in
set_option maxHeartbeats 2000000 in
theorem zd0 (s : ByteArray) (w : World) :
  Calls Tryz.prog 45 #[.string s] w fun e w' => ∃ v, e = .returned (.agg #[v, .int .i64 (Pl.zg1 s).2]) ∧ Mem.ownN w' w.heap.size v (Pl.zg1 s).1 ∧ Below w.heap.size w w' := by
 obtain ⟨i0, hi, hz0, hz1, hz2⟩ := info_parts zl3
 by_cases h8 : 8000 < s.size
 ·have t0 : (8000 : Int) < (s.size : Int) := by omega
  rw [Pl.yl7 h8]
  have b0 : Below w.heap.size w (w.alloc (.cells #[.slice none 0 0, .int .i64 0] 42)) := (Below.refl _ _).alloc (Nat.le_refl _) _
  have A0 := Mem.Blk.new w #[.slice none 0 0, .int .i64 0] 42
  have hill := hide (zn7.zk0 2)
  go_enter Tryz.func45, Tryz.ntmps45
  go_wp2_with fail
  refine (za hill _).mono ?_
  rintro e wI ⟨rfl, bI⟩
  have bw := hide (b0.trans (bI.mono b0.size))
  have A1 := A0.call bI
  have z0 := A1.cell 0
  have z1 := A1.cell 1
  simp only [kGs] at z0 z1
  have zf0 := A1.fr 0
  have zf1 := A1.fr 1
  clear hill bI b0 A0
  go_wp2
  refine bodyPost_ret (v := .agg #[.slice none 0 0, .int .i64 2]) (by simp [results, Tryz.results45, go_sem, z0, z1]) rfl ⟨.slice none 0 0, rfl, Mem.zd2 _ _, ?_⟩
  exact ((za bw).setCell (Nat.le_refl _) _).setCell (Nat.le_refl _) _
 have t0 : ¬ (8000 : Int) < (s.size : Int) := by omega
 have h8' : s.size ≤ 8000 := by omega
 have R0 : Hid (zo4.Rs (((w.alloc (.cells #[.slice none 0 0, .int .i64 0] 42)).alloc (.cells #[.string s, .int .i64 0, .bool false] 65)).alloc (.cells #[.slice none 0 0] 36)) (w.heap.size + 1) s 0 false) := hide (Mem.yf6 w _ _ _)
 have K0 : Hid (yg9.Ks w (((w.alloc (.cells #[.slice none 0 0, .int .i64 0] 42)).alloc (.cells #[.string s, .int .i64 0, .bool false] 65)).alloc (.cells #[.slice none 0 0] 36)) w.heap.size (w.heap.size + 1) (w.heap.size + 1 + 1) (w.heap.size + 1 + 1 + 1) #[.string s, .int .i64 0, .bool false] 65 (.slice none 0 0) []) :=
  hide ⟨(((Below.refl _ _).alloc (Nat.le_refl _) _).alloc (by simp) _).alloc (by simp; omega) _, by simp, ((Mem.Blk.new w _ _).alloc _).alloc _, Mem.yf6 w _ _ _, Mem.zq6 w _ _ _, Mem.zd2 _ _, by omega, by omega, by omega, by omega, by omega, by omega⟩
 have HM := hide (Pl.many_cases s)
 have hmany := hide (zo4.many_any (w.heap.size + 1) s 0 false 40 _ h8' (by omega) (za R0))
 generalize hMM : Pl.zj8 s 0 false 40 = MM at hmany HM
 obtain ⟨mc, ma, mb⟩ := MM
 simp only at hmany HM
 clear hMM
 have HRN : Hid (Pl.zk4 s = none → Pl.zg1 s = ([], 3)) := hide (fun h => Pl.ym h8 h)
 have HRS : Hid (∀ L, Pl.zk4 s = some L → Pl.zg1 s = (L, 0)) := hide (fun L h => Pl.ye5 h8 h)
 generalize hRR : Pl.zg1 s = RR at HRN HRS ⊢
 clear hRR
 go_enter Tryz.func45, Tryz.ntmps45
 go_wp2_with fail
 generalize (((w.alloc (.cells #[.slice none 0 0, .int .i64 0] 42)).alloc (.cells #[.string s, .int .i64 0, .bool false] 65)).alloc (.cells #[.slice none 0 0] 36)) = w3 at K0 R0 hmany ⊢
 refine (za hmany).mono ?_
 rintro e w1 ⟨rfl, hrs, hgr⟩
 have K1 := hide ((za K0).read hgr hrs)
 clear hmany K0 R0 hrs hgr
 rcases za HM with ⟨c, q, hg, hc40, hq0, hqs, hme⟩ | ⟨rfl, rfl, -, hno⟩
 rotate_left
 ·have HNO : Hid (RR = ([], 3)) := hide (za HRN hno)
  clear HM HRN HRS hno
  have c32 := (za K1).x3.cell 2
  simp only [kGs] at c32
  go_wp2
  go_loopw [5] (fun k wr => k = .int .i64 0 ∧ wr = w1) (fun _ _ => 0)
  case atStart => exact ⟨rfl, rfl⟩
  case round =>
   obtain ⟨rfl, rfl⟩ := hrel
   have hill := hide (zn7.zk0 3)
   go_wp2_with fail
   refine (za hill _).mono ?_
   rintro e wI ⟨rfl, bI⟩
   have KI := hide ((za K1).call bI)
   have z0 := (za KI).x2.cell 0
   have z1 := (za KI).x2.cell 1
   simp only [kGs] at z0 z1
   have zf0 := (za KI).x2.fr 0
   have zf1 := (za KI).x2.fr 1
   clear hill bI
   go_wp2
   refine bodyPost_ret (v := .agg #[.slice none 0 0, .int .i64 3]) (by simp [results, Tryz.results45, go_sem, z0, z1]) rfl ⟨.slice none 0 0, by rw [za HNO], by rw [za HNO]; exact Mem.zd2 _ _, ((za KI).done _ _).2⟩
 ·obtain ⟨e1, e2, e3⟩ : mc = (c : Int) ∧ ma = (q : Int) ∧ mb = false := by simp only [Prod.mk.injEq] at hme; exact hme
  subst e1 e2 e3
  have ht1 : s.toList.isEmpty = false := by rw [Pl.ze]; exact decide_eq_false (fun h => by rw [Pl.zj1] at h; omega)
  have HG := hide hg
  have HFA : Hid (∀ j, j ≤ c → (Pl.steps s (q : Int) j).f ≠ none → RR = ([], 3)) := hide (fun j hj hf => za HRN (Pl.treeR_none hg hj hf))
  have HEN : Hid ((Pl.steps s (q : Int) c).f = none → (Pl.zf7 (Pl.steps s (q : Int) c).L = s → RR = ((Pl.steps s (q : Int) c).L, 0)) ∧ (¬ Pl.zf7 (Pl.steps s (q : Int) c).L = s → RR = ([], 3))) := hide (fun hf => ⟨fun hb => za HRS _ (by rw [Pl.yr4 hg hc40 hf, if_pos hb]), fun hb => za HRN (by rw [Pl.yr4 hg hc40 hf, if_neg hb])⟩)
  have HSM : Hid (∀ j, (Pl.steps s (q : Int) j).f = none → ∀ n ∈ (Pl.steps s (q : Int) j).L, n.path.size ≤ 1048576 ∧ n.data.size ≤ 1048576) := hide (fun j hf n hn => by
   obtain ⟨-, -, -, -, -, h⟩ := Pl.ym8 hqs j hf
   have := h n hn
   omega)
  have HBD : Hid (∀ j, (Pl.steps s (q : Int) j).a ≤ 9223372036854775807) := hide (fun j => Pl.yt5 h8' (by omega) j)
  have HST : Hid (∀ j, (Pl.steps s (q : Int) j).f = none → ((Pl.zu6 s (Pl.steps s (q : Int) j).a).2.2 = false ∧ (Pl.steps s (q : Int) (j + 1)).f = none ∧ (Pl.zu6 s (Pl.steps s (q : Int) j).a).2.1 = (Pl.steps s (q : Int) (j + 1)).a ∧ (Pl.steps s (q : Int) j).L ++ [(Pl.zu6 s (Pl.steps s (q : Int) j).a).1] = (Pl.steps s (q : Int) (j + 1)).L) ∨ ((Pl.zu6 s (Pl.steps s (q : Int) j).a).2.2 = true ∧ (Pl.steps s (q : Int) (j + 1)).f ≠ none)) := hide (fun j hf => Pl.steps_succ hf)
  have HZ : Hid ((Pl.steps s (q : Int) 0).L = [] ∧ (Pl.steps s (q : Int) 0).a = (q : Int) ∧ (Pl.steps s (q : Int) 0).f = none) := hide ⟨rfl, rfl, rfl⟩
  have HLN : Hid (∀ j, (Pl.steps s (q : Int) j).L.length = j) := hide (fun j => Pl.yq3 s (q : Int) j)
  generalize Pl.steps s (q : Int) = ST at HFA HEN HSM HBD HST HZ HLN
  clear hme hg HM HRN HRS HG
  go_wp2
  go_loopw [5] (fun k wr => ∃ (kk j : Nat) (a : Int) (bad : Bool) (v : Value) (L : List Pl.Nd), k = .int .i64 (kk : Int) ∧ kk + j = c ∧ Hid (yg9.Ks w wr w.heap.size (w.heap.size + 1) (w.heap.size + 1 + 1) (w.heap.size + 1 + 1 + 1) #[.string s, .int .i64 a, .bool bad] 65 v L) ∧ ((bad = false ∧ Hid ((ST j).L = L ∧ (ST j).a = a ∧ (ST j).f = none)) ∨ (bad = true ∧ Hid (RR = ([], 3))))) (fun k _ => (intOf k).toNat)
  case atStart => exact ⟨c, 0, (q : Int), false, _, [], rfl, by omega, K1, .inl ⟨rfl, HZ⟩⟩
  case round =>
   obtain ⟨kk, j, a, bad, v, L, rfl, hkj, KK, hcase⟩ := hrel
   clear K1 HZ
   have c32 := (za KK).x3.cell 2
   simp only [kGs] at c32
   rcases hcase with ⟨rfl, HH⟩ | ⟨rfl, HNO⟩
   rotate_left
   ·by_cases hk : (0 : Int) < (kk : Int)
    ·skip
     have hill := hide (zn7.zk0 3)
     go_wp2_with fail
     refine (za hill _).mono ?_
     rintro e wI ⟨rfl, bI⟩
     have KI := hide ((za KK).call bI)
     have z0 := (za KI).x2.cell 0
     have z1 := (za KI).x2.cell 1
     simp only [kGs] at z0 z1
     have zf0 := (za KI).x2.fr 0
     have zf1 := (za KI).x2.fr 1
     clear hill bI
     go_wp2
     refine bodyPost_ret (v := .agg #[.slice none 0 0, .int .i64 3]) (by simp [results, Tryz.results45, go_sem, z0, z1]) rfl ⟨.slice none 0 0, by rw [za HNO], by rw [za HNO]; exact Mem.zd2 _ _, ((za KI).done _ _).2⟩
    ·skip
     have hill := hide (zn7.zk0 3)
     go_wp2_with fail
     refine (za hill _).mono ?_
     rintro e wI ⟨rfl, bI⟩
     have KI := hide ((za KK).call bI)
     have z0 := (za KI).x2.cell 0
     have z1 := (za KI).x2.cell 1
     simp only [kGs] at z0 z1
     have zf0 := (za KI).x2.fr 0
     have zf1 := (za KI).x2.fr 1
     clear hill bI
     go_wp2
     refine bodyPost_ret (v := .agg #[.slice none 0 0, .int .i64 3]) (by simp [results, Tryz.results45, go_sem, z0, z1]) rfl ⟨.slice none 0 0, by rw [za HNO], by rw [za HNO]; exact Mem.zd2 _ _, ((za KI).done _ _).2⟩
   ·cases kk with
    | zero =>
     obtain rfl : j = c := by omega
     obtain ⟨h1, h2, h3⟩ := za HH
     obtain ⟨va, vc, rfl⟩ := Mem.za1 (za KK).row
     obtain ⟨hE1, hE2⟩ := za HEN h3
     have hll : L.length ≤ 1048576 := by rw [← h1, za HLN]; omega
     have htb := hide (zy.zd0 va vc L wr hll (Mem.zr4 (za KK).row).2 (by rw [← h1]; exact za HSM _ h3))
     rw [h1] at hE1 hE2
     generalize Pl.zf7 L = Y at htb hE1 hE2
     have c40 := (za KK).x4.cell 0
     simp only [kGs] at c40
     have HE1 := hide hE1
     have HE2 := hide hE2
     clear HH h1 h2 h3 hE1 hE2 HFA HEN HSM HBD HST HLN
     go_wp2_with fail
     refine (za htb).mono ?_
     rintro e w5 ⟨rfl, b5⟩
     have K5 := hide ((za KK).call b5)
     clear htb KK b5 c32 c40
     by_cases hy : Y = s
     ·have HYE := hide (za HE1 hy)
      subst hy
      have c40 := (za K5).x4.cell 0
      simp only [kGs] at c40
      have z0 := (za K5).x2.cell 0
      have z1 := (za K5).x2.cell 1
      simp only [kGs] at z0 z1
      have zf0 := (za K5).x2.fr 0
      have zf1 := (za K5).x2.fr 1
      go_wp2
      refine bodyPost_ret (v := .agg #[.slice va L.length vc, .int .i64 0]) (by simp [results, Tryz.results45, go_sem, z0, z1]) rfl ⟨.slice va L.length vc, by rw [za HYE], by rw [za HYE]; exact ((za K5).done _ _).1, ((za K5).done _ _).2⟩
     ·have HNO : Hid (RR = ([], 3)) := hide (za HE2 hy)
      have hy1 : ¬ Y.toList = s.toList := fun h => hy (by rw [ByteArray.toList_eq, ByteArray.toList_eq] at h; exact Pl.zh7 h)
      have hy2 : (Y.toList == s.toList) = false := by simpa using hy1
      have hill := hide (zn7.zk0 3)
      go_wp2_with fail
      refine (za hill _).mono ?_
      rintro e wI ⟨rfl, bI⟩
      have KI := hide ((za K5).call bI)
      have z0 := (za KI).x2.cell 0
      have z1 := (za KI).x2.cell 1
      simp only [kGs] at z0 z1
      have zf0 := (za KI).x2.fr 0
      have zf1 := (za KI).x2.fr 1
      clear hill bI
      go_wp2
      refine bodyPost_ret (v := .agg #[.slice none 0 0, .int .i64 3]) (by simp [results, Tryz.results45, go_sem, z0, z1]) rfl ⟨.slice none 0 0, by rw [za HNO], by rw [za HNO]; exact Mem.zd2 _ _, ((za KI).done _ _).2⟩
    | succ kk =>
     have u1 : (0 : Int) < ((kk + 1 : Nat) : Int) := by omega
     obtain ⟨h1, h2, h3⟩ := za HH
     have hab := za HBD j
     have hst := za HST j h3
     have hlen : L.length ≤ 40 := by rw [← h1, za HLN]; omega
     rw [h2] at hst hab
     rw [h1] at hst
     unfold Pl.zu6 at hst
     obtain ⟨⟨p1, a1, b1⟩, hr1⟩ : ∃ r, Pl.zk5 s a false = r := ⟨_, rfl⟩
     have z1 := Pl.yt8 (bad := false) h8' hab
     simp only [hr1] at hst z1
     obtain ⟨⟨p2, a2, b2⟩, hr2⟩ : ∃ r, Pl.numS s a1 b1 = r := ⟨_, rfl⟩
     have z2 := Pl.yn3 (bad := b1) h8' z1
     simp only [hr2] at hst z2
     obtain ⟨⟨p3, a3, b3⟩, hr3⟩ : ∃ r, Pl.zk5 s a2 b2 = r := ⟨_, rfl⟩
     have z3 := Pl.yt8 (bad := b2) h8' z2
     simp only [hr3] at hst z3
     obtain ⟨⟨p4, a4, b4⟩, hr4⟩ : ∃ r, Pl.numS s a3 b3 = r := ⟨_, rfl⟩
     have z4 := Pl.yn3 (bad := b3) h8' z3
     simp only [hr4] at hst z4
     obtain ⟨⟨p5, a5, b5⟩, hr5⟩ : ∃ r, Pl.numS s a4 b4 = r := ⟨_, rfl⟩
     simp only [hr5] at hst
     have HSS := hide hst
     have c1 := hide (fun W hv => zo4.text_any (w.heap.size + 1) s a false W h8' hab hv)
     have c2 := hide (fun W hv => zo4.zo0 (w.heap.size + 1) s a1 b1 W h8' z1 hv)
     have c3 := hide (fun W hv => zo4.text_any (w.heap.size + 1) s a2 b2 W h8' z2 hv)
     have c4 := hide (fun W hv => zo4.zo0 (w.heap.size + 1) s a3 b3 W h8' z3 hv)
     have c5 := hide (fun W hv => zo4.zo0 (w.heap.size + 1) s a4 b4 W h8' z4 hv)
     rw [hr1] at c1
     rw [hr2] at c2
     rw [hr3] at c3
     rw [hr4] at c4
     rw [hr5] at c5
     simp only at c1 c2 c3 c4 c5
     have HNF : Hid ((ST (j + 1)).f ≠ none → RR = ([], 3)) := hide (fun hf => za HFA (j + 1) (by omega) hf)
     clear hst h1 h2 h3 HH hr1 hr2 hr3 hr4 hr5 z1 z2 z3 z4 HFA HEN HSM HBD HST HLN hab
     go_wp2_with fail
     refine (za c1 _ (za KK).x3).mono ?_
     rintro e w1' ⟨rfl, hrs, hgr⟩
     have K1 := (za KK).read hgr hrs
     clear KK hrs hgr c1 c32
     have hXo : v.ownBlock ≠ some w1'.heap.size := fun e => by have := (K1.own _ e).2; omega
     have hXB : w.heap.size + 1 + 1 + 1 ≤ w1'.heap.size := K1.big
     have hX3 : w.heap.size + 1 ≠ w1'.heap.size := by omega
     have N1 := Mem.Blk.new w1' #[.string p1, .int .i64 0, .string ⟨#[]⟩, .int .i64 0, .int .i64 0] 89
     have K2 := hide (K1.alloc (.cells #[.string p1, .int .i64 0, .string ⟨#[]⟩, .int .i64 0, .int .i64 0] 89))
     have HN1 := hide N1
     clear K1 N1
     generalize hX6 : w1'.heap.size = X6 at hXo hXB hX3 HN1
     go_wp2_with fail
     refine (za c2 _ (za K2).x3).mono ?_
     rintro e wn1 ⟨rfl, hrs, hgr⟩
     have KA := (za K2).read hgr hrs
     have NA := (za HN1).grown hgr (fun e => hX3 (Option.some.inj e).symm)
     clear K2 HN1 hrs hgr c2
     have s0 := NA.cell 1
     simp only [kGs] at s0
     have s1 := NA.fr 1
     have K2 := hide (KA.set ⟨X6, 1, none⟩ (.int .i64 p2) hXB hXo)
     have HN1 := hide (show Mem.Blk (wn1.setCell ⟨X6, 1, none⟩ (.int .i64 p2)) X6 #[.string p1, .int .i64 p2, .string ⟨#[]⟩, .int .i64 0, .int .i64 0] 89 from NA.put 1 (.int .i64 p2))
     clear KA NA
     go_wp2_with fail
     refine (za c3 _ (za K2).x3).mono ?_
     rintro e wn2 ⟨rfl, hrs, hgr⟩
     have KA := (za K2).read hgr hrs
     have NA := (za HN1).grown hgr (fun e => hX3 (Option.some.inj e).symm)
     clear K2 HN1 hrs hgr c3
     have s0 := NA.cell 2
     simp only [kGs] at s0
     have s1 := NA.fr 2
     have K2 := hide (KA.set ⟨X6, 2, none⟩ (.string p3) hXB hXo)
     have HN1 := hide (show Mem.Blk (wn2.setCell ⟨X6, 2, none⟩ (.string p3)) X6 #[.string p1, .int .i64 p2, .string p3, .int .i64 0, .int .i64 0] 89 from NA.put 2 (.string p3))
     clear KA NA
     go_wp2_with fail
     refine (za c4 _ (za K2).x3).mono ?_
     rintro e wn3 ⟨rfl, hrs, hgr⟩
     have KA := (za K2).read hgr hrs
     have NA := (za HN1).grown hgr (fun e => hX3 (Option.some.inj e).symm)
     clear K2 HN1 hrs hgr c4
     have s0 := NA.cell 3
     simp only [kGs] at s0
     have s1 := NA.fr 3
     have K2 := hide (KA.set ⟨X6, 3, none⟩ (.int .i64 p4) hXB hXo)
     have HN1 := hide (show Mem.Blk (wn3.setCell ⟨X6, 3, none⟩ (.int .i64 p4)) X6 #[.string p1, .int .i64 p2, .string p3, .int .i64 p4, .int .i64 0] 89 from NA.put 3 (.int .i64 p4))
     clear KA NA
     go_wp2_with fail
     refine (za c5 _ (za K2).x3).mono ?_
     rintro e wn4 ⟨rfl, hrs, hgr⟩
     have KA := (za K2).read hgr hrs
     have NA := (za HN1).grown hgr (fun e => hX3 (Option.some.inj e).symm)
     clear K2 HN1 hrs hgr c5
     have s0 := NA.cell 4
     simp only [kGs] at s0
     have s1 := NA.fr 4
     have K2 := hide (KA.set ⟨X6, 4, none⟩ (.int .i64 p5) hXB hXo)
     have HN1 := hide (show Mem.Blk (wn4.setCell ⟨X6, 4, none⟩ (.int .i64 p5)) X6 #[.string p1, .int .i64 p2, .string p3, .int .i64 p4, .int .i64 p5] 89 from NA.put 4 (.int .i64 p5))
     clear KA NA
     have n0 := (za HN1).cell 0
     have n1 := (za HN1).cell 1
     have n2 := (za HN1).cell 2
     have n3 := (za HN1).cell 3
     have n4 := (za HN1).cell 4
     simp only [kGs] at n0 n1 n2 n3 n4
     have c40 := (za K2).x4.cell 0
     simp only [kGs] at c40
     have hsz : (wn4.setCell ⟨X6, 4, none⟩ (.int .i64 p5)).heap.size = wn4.heap.size := by simp
     have hbig : w.heap.size + 1 + 1 + 1 ≤ wn4.heap.size := by have := (za K2).big; omega
     have HCS : Hid (∀ j u, [Value.string p1, .int .i64 p2, .string p3, .int .i64 p4, .int .i64 p5][j]? = some u → ((wn4.setCell ⟨X6, 4, none⟩ (.int .i64 p5)).alloc (.cells #[.string p1, .int .i64 p2, .string p3, .int .i64 p4, .int .i64 p5] 89)).cell? ((⟨wn4.heap.size, 0, none⟩ : Addr).add j) = some u) := hide (by
      have h' := Mem.zl4 (wn4.setCell ⟨X6, 4, none⟩ (.int .i64 p5)) ⟨p1, p2, p3, p4, p5⟩ 89
      rw [hsz] at h'; exact h')
     have OA := hide (za K2).row
     have HPT := hide (fun (w4 : World) (v' : Value) own gr => (za K2).put (n := ⟨p1, p2, p3, p4, p5⟩) (o := .cells #[.string p1, .int .i64 p2, .string p3, .int .i64 p4, .int .i64 p5] 89) (w4 := w4) (v' := v') own gr)
     have HMD := hide (fun (w4 : World) gr => (za K2).mid (o := .cells #[.string p1, .int .i64 p2, .string p3, .int .i64 p4, .int .i64 p5] 89) (w4 := w4) gr)
     clear K2 HN1 hX6 hXo hXB hX3
     go_wp2_with (at_builtin; refine wpList_append_own _ rfl _ _ 34 rfl (w.heap.size + 1 + 1 + 1) 89 i0 _ 5 56 Tryz.underlying34 hi hz0 hz1 hz2 rfl (by decide) _ _ _ rfl (Mem.zd1 (za OA) _) ⟨wn4.heap.size, 0, none⟩ 1 1 [.string p1, .int .i64 p2, .string p3, .int .i64 p4, .int .i64 p5] rfl rfl (za HCS) (Mem.zk2 ⟨p1, p2, p3, p4, p5⟩) (by unfold maxLen; omega) (by omega) (by simp; omega) ?_)
     intro v' w4 own' hgrow _
     have M4 := za HMD w4 hgrow
     have m0 := M4.cell 0
     have m1 := M4.fr 0
     simp only [kGs] at m0
     have K3 := hide (za HPT w4 v' own' hgrow)
     obtain ⟨vb, vc, rfl⟩ := Mem.za1 own'
     clear own' hgrow M4 HMD HPT OA HCS n0 n1 n2 n3 n4 c40
     have hcas : (b5 = false ∧ Hid ((ST (j + 1)).L = L ++ [⟨p1, p2, p3, p4, p5⟩] ∧ (ST (j + 1)).a = a5 ∧ (ST (j + 1)).f = none)) ∨ (b5 = true ∧ Hid (RR = ([], 3))) := by
      rcases za HSS with ⟨g1, g2, g3, g4⟩ | ⟨g1, g2⟩
      ·exact .inl ⟨g1, hide ⟨g4.symm, g3.symm, g2⟩⟩
      ·exact .inr ⟨g1, hide (za HNF g2)⟩
     have HCAS := hide hcas
     clear hcas HSS HNF
     go_wp2
     go_roundw
     case rel => exact ⟨kk, j + 1, a5, b5, _, _, by go_num, by omega, K3, za HCAS⟩
     case measure => simp [intOf]
end WReadT
end Go.Proofs.YtfdbokipgofcdaaGreatDoor

namespace Go.Proofs.YtfdbokipgofcdaaGreatDoor
open Go.RowKit
namespace WNReadT
set_option linter.unusedSimpArgs false in
set_option maxRecDepth 100000 in
set_option maxHeartbeats 2000000 in
theorem zd0 (s : ByteArray) (w : World) :
  Calls Tryz.prog 12 #[.string s] w fun e w' => zg8.Outs w w' (Pl.zg4 s).2 (Pl.zg4 s).1 e ∧ Below w.heap.size w w' := by
 obtain ⟨i0, hi, hz0, hz1, hz2⟩ := info_parts zg8.zu5
 by_cases h8 : 8000 < s.size
 ·have t0 : (8000 : Int) < (s.size : Int) := by omega
  have e0 : Pl.zg4 s = ([], 2) := if_pos h8
  rw [e0]
  have b0 : ∀ o, Below w.heap.size w (w.alloc o) := fun o => (Below.refl _ _).alloc (Nat.le_refl _) o
  clear e0
  go_enter Tryz.func12, Tryz.ntmps12
  go_wp2
  refine bodyPost_ret (v := .agg #[.slice none 0 0, .int .i64 2]) (by simp [results, Tryz.results12, go_sem]) rfl ⟨⟨.slice none 0 0, [], rfl, Mem.Io.nil _ _, rfl⟩, b0 _⟩
 have t0 : ¬ (8000 : Int) < (s.size : Int) := by omega
 have h8' : s.size ≤ 8000 := by omega
 have R0 : Hid (zo4.Rs (((w.alloc (.cells #[.slice none 0 0, .int .i64 0] 28)).alloc (.cells #[.string s, .int .i64 0, .bool false] 65)).alloc (.cells #[] 38)) (w.heap.size + 1) s 0 false) := hide (Mem.yf6 w _ _ _)
 have K0 : Hid (zg8.Nk w (((w.alloc (.cells #[.slice none 0 0, .int .i64 0] 28)).alloc (.cells #[.string s, .int .i64 0, .bool false] 65)).alloc (.cells #[] 38)) w.heap.size (w.heap.size + 1) (w.heap.size + 1 + 1) #[.string s, .int .i64 0, .bool false] 65 (.slice (some ⟨w.heap.size + 1 + 1, 0, none⟩) 0 0) []) :=
  hide ⟨(((Below.refl _ _).alloc (Nat.le_refl _) _).alloc (by simp) _).alloc (by simp; omega) _, by simp, ((Mem.Blk.new w _ _).alloc _).alloc _, Mem.yf6 w _ _ _, ⟨⟨rfl, .inr ⟨w.heap.size + 1 + 1, 0, #[], rfl, Nat.le_refl _, Mem.zq6 w _ _ _, Nat.le_refl _, Nat.zero_le _, rfl, rfl⟩⟩, fun i x h => (by cases h), fun i j x y _ h => (by cases h)⟩, by omega, by omega, by omega⟩
 have HM := hide (Pl.manyN_cases s)
 have hmany := hide (zo4.many_any (w.heap.size + 1) s 0 false 12 _ h8' (by omega) (za R0))
 generalize hMM : Pl.zj8 s 0 false 12 = MM at hmany HM
 obtain ⟨mc, ma, mb⟩ := MM
 simp only at hmany HM
 clear hMM
 have HRN : Hid (Pl.zl s = none → Pl.zg4 s = ([], 3)) := hide (fun h => by unfold Pl.zg4; rw [if_neg h8, h])
 have HRS : Hid (∀ L, Pl.zl s = some L → Pl.zg4 s = (L, 0)) := hide (fun L h => by unfold Pl.zg4; rw [if_neg h8, h])
 generalize hRR : Pl.zg4 s = RR at HRN HRS ⊢
 clear hRR
 go_enter Tryz.func12, Tryz.ntmps12
 go_wp2_with fail
 generalize (((w.alloc (.cells #[.slice none 0 0, .int .i64 0] 28)).alloc (.cells #[.string s, .int .i64 0, .bool false] 65)).alloc (.cells #[] 38)) = w3 at K0 R0 hmany ⊢
 refine (za hmany).mono ?_
 rintro e w1 ⟨rfl, hrs, hgr⟩
 have K1 := hide ((za K0).read hgr hrs)
 clear hmany K0 R0 hrs hgr
 rcases za HM with ⟨c, q, hg, hc12, hq0, hqs, hme⟩ | ⟨rfl, rfl, -, hno⟩
 rotate_left
 ·have HNO : Hid (RR = ([], 3)) := hide (za HRN hno)
  clear HM HRN HRS hno
  have c32 := (za K1).x3.cell 2
  simp only [kGs] at c32
  go_wp2
  go_loopw [4, 5] (fun n k wr => n = .slice (some ⟨w.heap.size + 1 + 1, 0, none⟩) 0 0 ∧ k = .int .i64 0 ∧ wr = w1) (fun _ _ _ => 0)
  case atStart => exact ⟨rfl, rfl, rfl⟩
  case round =>
   obtain ⟨rfl, rfl, rfl⟩ := hrel
   have z0 := (za K1).x2.cell 0
   have z1 := (za K1).x2.cell 1
   simp only [kGs] at z0 z1
   have zf0 := (za K1).x2.fr 0
   have zf1 := (za K1).x2.fr 1
   go_wp2
   refine bodyPost_ret (v := .agg #[.slice none 0 0, .int .i64 3]) (by simp [results, Tryz.results12, go_sem, z0, z1]) rfl ⟨⟨.slice none 0 0, [], by rw [za HNO], Mem.Io.nil _ _, by rw [za HNO]; rfl⟩, ((za K1).done _ _).2⟩
 ·obtain ⟨e1, e2, e3⟩ : mc = (c : Int) ∧ ma = (q : Int) ∧ mb = false := by simp only [Prod.mk.injEq] at hme; exact hme
  subst e1 e2 e3
  have ht1 : s.toList.isEmpty = false := by rw [Pl.ze]; exact decide_eq_false (fun h => by rw [Pl.zj1] at h; omega)
  have HFA : Hid (∀ j, j ≤ c → (Pl.za3 s (q : Int) j).f ≠ none → RR = ([], 3)) := hide (fun j hj hf => za HRN (Pl.nestR_none hg hj hf))
  have HEN : Hid ((Pl.za3 s (q : Int) c).f = none → (Pl.zc4 (Pl.za3 s (q : Int) c).L = s → RR = ((Pl.za3 s (q : Int) c).L, 0)) ∧ (¬ Pl.zc4 (Pl.za3 s (q : Int) c).L = s → RR = ([], 3))) := hide (fun hf => ⟨fun hb => za HRS _ (by rw [Pl.yr2 h8' hg hc12 hf, if_pos hb]), fun hb => za HRN (by rw [Pl.yr2 h8' hg hc12 hf, if_neg hb])⟩)
  have HSM : Hid (∀ j, (Pl.za3 s (q : Int) j).f = none → ∀ x ∈ (Pl.za3 s (q : Int) j).L, x.2.length ≤ 1048576 ∧ ∀ n ∈ x.2, n.path.size ≤ 1048576 ∧ n.data.size ≤ 1048576) := hide (fun j hf x hx => Pl.ym7 (Pl.yp7 j hf x hx))
  have HBD : Hid (∀ j, (Pl.za3 s (q : Int) j).a ≤ 9223372036854775807) := hide (fun j => Pl.yp9 h8' (by omega) j)
  have HST : Hid (∀ j, (Pl.za3 s (q : Int) j).f = none → ((Pl.zv2 s (Pl.za3 s (q : Int) j).a).2.2 = false ∧ (Pl.za3 s (q : Int) (j + 1)).f = none ∧ (Pl.zv2 s (Pl.za3 s (q : Int) j).a).2.1 = (Pl.za3 s (q : Int) (j + 1)).a ∧ (Pl.za3 s (q : Int) j).L ++ [(Pl.zv2 s (Pl.za3 s (q : Int) j).a).1] = (Pl.za3 s (q : Int) (j + 1)).L) ∨ ((Pl.zv2 s (Pl.za3 s (q : Int) j).a).2.2 = true ∧ (Pl.za3 s (q : Int) (j + 1)).f ≠ none)) := hide (fun j hf => Pl.stepsI_succ hf)
  have HZ : Hid ((Pl.za3 s (q : Int) 0).L = [] ∧ (Pl.za3 s (q : Int) 0).a = (q : Int) ∧ (Pl.za3 s (q : Int) 0).f = none) := hide ⟨rfl, rfl, rfl⟩
  have HLN : Hid (∀ j, (Pl.za3 s (q : Int) j).L.length = j) := hide (fun j => Pl.yu8 s (q : Int) j)
  generalize Pl.za3 s (q : Int) = ST at HFA HEN HSM HBD HST HZ HLN
  clear hme hg HM HRN HRS
  go_wp2
  go_loopw [4, 5] (fun n k wr => ∃ (kk j : Nat) (a : Int) (bad : Bool) (Is : List Pl.It), k = .int .i64 (kk : Int) ∧ kk + j = c ∧ Is.length = j ∧ Hid (zg8.Nk w wr w.heap.size (w.heap.size + 1) (w.heap.size + 1 + 1) #[.string s, .int .i64 a, .bool bad] 65 n Is) ∧ ((bad = false ∧ Hid ((ST j).L = Is.map Pl.It.r ∧ (ST j).a = a ∧ (ST j).f = none)) ∨ (bad = true ∧ Hid (RR = ([], 3))))) (fun _ k _ => (intOf k).toNat)
  case atStart => exact ⟨c, 0, (q : Int), false, [], rfl, by omega, rfl, K1, .inl ⟨rfl, HZ⟩⟩
  case round =>
   obtain ⟨kk, j, a, bad, Is, rfl, hkj, hlj, KK, hcase⟩ := hrel
   clear K1 HZ
   have HLJ := hide hlj
   clear hlj
   have c32 := (za KK).x3.cell 2
   simp only [kGs] at c32
   rcases hcase with ⟨rfl, HH⟩ | ⟨rfl, HNO⟩
   rotate_left
   ·by_cases hk : (0 : Int) < (kk : Int)
    ·skip
     have z0 := (za KK).x2.cell 0
     have z1 := (za KK).x2.cell 1
     simp only [kGs] at z0 z1
     have zf0 := (za KK).x2.fr 0
     have zf1 := (za KK).x2.fr 1
     go_wp2
     refine bodyPost_ret (v := .agg #[.slice none 0 0, .int .i64 3]) (by simp [results, Tryz.results12, go_sem, z0, z1]) rfl ⟨⟨.slice none 0 0, [], by rw [za HNO], Mem.Io.nil _ _, by rw [za HNO]; rfl⟩, ((za KK).done _ _).2⟩
    ·skip
     have z0 := (za KK).x2.cell 0
     have z1 := (za KK).x2.cell 1
     simp only [kGs] at z0 z1
     have zf0 := (za KK).x2.fr 0
     have zf1 := (za KK).x2.fr 1
     go_wp2
     refine bodyPost_ret (v := .agg #[.slice none 0 0, .int .i64 3]) (by simp [results, Tryz.results12, go_sem, z0, z1]) rfl ⟨⟨.slice none 0 0, [], by rw [za HNO], Mem.Io.nil _ _, by rw [za HNO]; rfl⟩, ((za KK).done _ _).2⟩
   ·obtain ⟨va, vc, rfl⟩ := Mem.za1 (za KK).row.row
    cases kk with
    | zero =>
     obtain rfl : j = c := by omega
     obtain ⟨h1, h2, h3⟩ := za HH
     obtain ⟨hE1, hE2⟩ := za HEN h3
     have hll : Is.length ≤ 1048576 := by rw [za HLJ]; omega
     have hsm := za HSM _ h3
     rw [h1] at hE1 hE2 hsm
     have htb := hide (yc6.zd0 va vc Is wr hll (za KK).row.items.2 (fun x hx => hsm x.r (List.mem_map.2 ⟨x, hx, rfl⟩)))
     have HE1 := hide hE1
     have HE2 := hide hE2
     clear hE1 hE2 hsm
     generalize Pl.zc4 (Is.map Pl.It.r) = Y at htb HE1 HE2
     clear HH h1 h2 h3 HFA HEN HSM HBD HST HLN HLJ
     go_wp2_with fail
     refine (za htb).mono ?_
     rintro e w5 ⟨rfl, b5⟩
     have K5 := hide ((za KK).call b5)
     clear htb KK b5 c32
     by_cases hy : Y = s
     ·have HYE := hide (za HE1 hy)
      subst hy
      have z0 := (za K5).x2.cell 0
      have z1 := (za K5).x2.cell 1
      simp only [kGs] at z0 z1
      have zf0 := (za K5).x2.fr 0
      have zf1 := (za K5).x2.fr 1
      go_wp2
      refine bodyPost_ret (v := .agg #[.slice va Is.length vc, .int .i64 0]) (by simp [results, Tryz.results12, go_sem, z0, z1]) rfl ⟨⟨.slice va Is.length vc, Is, by rw [za HYE], ((za K5).done _ _).1, by rw [za HYE]⟩, ((za K5).done _ _).2⟩
     ·have HNO : Hid (RR = ([], 3)) := hide (za HE2 hy)
      have hy1 : ¬ Y.toList = s.toList := fun h => hy (by rw [ByteArray.toList_eq, ByteArray.toList_eq] at h; exact Pl.zh7 h)
      have hy2 : (Y.toList == s.toList) = false := by simpa using hy1
      have z0 := (za K5).x2.cell 0
      have z1 := (za K5).x2.cell 1
      simp only [kGs] at z0 z1
      have zf0 := (za K5).x2.fr 0
      have zf1 := (za K5).x2.fr 1
      go_wp2
      refine bodyPost_ret (v := .agg #[.slice none 0 0, .int .i64 3]) (by simp [results, Tryz.results12, go_sem, z0, z1]) rfl ⟨⟨.slice none 0 0, [], by rw [za HNO], Mem.Io.nil _ _, by rw [za HNO]; rfl⟩, ((za K5).done _ _).2⟩
    | succ kk =>
     have u1 : (0 : Int) < ((kk + 1 : Nat) : Int) := by omega
     obtain ⟨h1, h2, h3⟩ := za HH
     have hab := za HBD j
     have hst := za HST j h3
     have hlen : Is.length ≤ 12 := by rw [za HLJ]; omega
     rw [h2] at hst hab
     rw [h1] at hst
     unfold Pl.zv2 at hst
     obtain ⟨⟨p1, a1, b1⟩, hr1⟩ : ∃ r, Pl.numS s a false = r := ⟨_, rfl⟩
     have z1 := Pl.yn3 (bad := false) h8' hab
     simp only [hr1] at hst z1
     obtain ⟨⟨p2, a2, b2⟩, hr2⟩ : ∃ r, Pl.zk5 s a1 b1 = r := ⟨_, rfl⟩
     simp only [hr2] at hst
     obtain ⟨⟨L2, co⟩, hr3⟩ : ∃ r, Pl.zg1 p2 = r := ⟨_, rfl⟩
     simp only [hr3] at hst
     have HSS := hide hst
     have c1 := hide (fun W hv => zo4.zo0 (w.heap.size + 1) s a false W h8' hab hv)
     have c2 := hide (fun W hv => zo4.text_any (w.heap.size + 1) s a1 b1 W h8' z1 hv)
     have c3 := hide (fun W => WReadT.zd0 p2 W)
     rw [hr1] at c1
     rw [hr2] at c2
     rw [hr3] at c3
     simp only at c1 c2 c3
     have HNF : Hid ((ST (j + 1)).f ≠ none → RR = ([], 3)) := hide (fun hf => za HFA (j + 1) (by omega) hf)
     clear hst h1 h2 h3 HH hr1 hr2 hr3 z1 HFA HEN HSM HBD HST HLN hab
     go_wp2_with fail
     refine (za c1 _ (za KK).x3).mono ?_
     rintro e w1' ⟨rfl, hrs, hgr⟩
     clear c1 c32
     have hX3 : w.heap.size + 1 < wr.heap.size := (za KK).x3.lt
     have hs1 := hgr.size
     have G2 := hide (Mem.zj5 hgr (Mem.zd8 ((Below.refl _ _).alloc (Nat.le_refl _) (.cells #[.int .i64 p1, .slice none 0 0] 38)) (some (w.heap.size + 1))))
     have R2 := hide (Mem.Blk.alloc hrs (.cells #[.int .i64 p1, .slice none 0 0] 38))
     have N2 := hide (Mem.Blk.new w1' #[.int .i64 p1, .slice none 0 0] 38)
     clear hrs hgr
     generalize hX6 : w1'.heap.size = X6 at N2 hs1
     go_wp2_with fail
     refine (za c2 _ (za R2)).mono ?_
     rintro e w2 ⟨rfl, hrs, hgr⟩
     have G3 := hide (Mem.zj5 (za G2) hgr)
     have N3 := hide ((za N2).grown hgr (fun e => by have := Option.some.inj e; omega))
     have R3 := hide hrs
     have hs2 : wr.heap.size ≤ w2.heap.size := (za G3).size
     have hX62 : X6 < w2.heap.size := (za N3).lt
     clear c2 G2 N2 R2 hrs hgr
     go_wp2_with fail
     refine (za c3 _).mono ?_
     rintro e w4 ⟨vt, rfl, ownT, b4⟩
     obtain ⟨ta, tc, rfl⟩ := Mem.za1 ownT
     have bA : Below w4.heap.size w4 (w4.alloc (.cells #[.slice ta L2.length tc, .int .i64 co] 42)) := (Below.refl _ _).alloc (Nat.le_refl _) _
     have bB := b4.trans (bA.mono b4.size)
     have G4 := hide (Mem.zj5 (za G3) (Mem.zd8 bB _))
     have N4 := hide ((za N3).call bB)
     have R4 := hide (Mem.Blk.call (za R3) bB)
     have T4 := hide (Mem.zl1 ownT bA)
     have Y4 := hide (Mem.Blk.new w4 #[.slice ta L2.length tc, .int .i64 co] 42)
     have hs4 : wr.heap.size ≤ w4.heap.size := Nat.le_trans hs2 b4.size
     have hX64 : X6 < w4.heap.size := Nat.lt_of_lt_of_le (za N3).lt b4.size
     clear c3 G3 N3 R3 ownT b4 bA bB
     go_upto_region 10 with fail
     generalize hX7 : w4.heap.size = X7 at Y4 hX64 hs4 ⊢
     generalize hWW : w4.alloc (.cells #[.slice ta L2.length tc, .int .i64 co] 42) = W4 at G4 N4 R4 T4 Y4 ⊢
     clear hWW
     cases b2 with
     | true =>
      have q1 := (za R4).cell 2
      have q1f := (za R4).fr 2
      have y0 := (za Y4).cell 0
      have y1 := (za Y4).cell 1
      have n0 := (za N4).cell 0
      have n1f := (za N4).fr 1
      simp only [kGs] at q1 y0 y1 n0
      have G5 := hide (Mem.zj5 (za G4) (zb5.zb3 (w := W4) (w.heap.size + 1) 2 (.bool true)))
      have R5 := hide (show Mem.Blk (W4.setCell ⟨w.heap.size + 1, 2, none⟩ (.bool true)) (w.heap.size + 1) #[.string s, .int .i64 a2, .bool true] 65 from Mem.Blk.put (za R4) 2 (.bool true))
      have N5 := hide ((za N4).far ⟨w.heap.size + 1, 2, none⟩ (.bool true) (by show X6 ≠ w.heap.size + 1; omega))
      have Y5 := hide ((za Y4).far ⟨w.heap.size + 1, 2, none⟩ (.bool true) (by show X7 ≠ w.heap.size + 1; omega))
      have T5 := hide (Mem.za7 (za T4) ⟨w.heap.size + 1, 2, none⟩ (.bool true) (by show w.heap.size + 1 < w2.heap.size; omega))
      have hd3 : w.heap.size + 1 ≠ X6 := by omega
      have hd4 : w.heap.size + 1 ≠ X7 := by omega
      have hd5 : X6 ≠ X7 := by omega
      clear hX6 hX7
      go_upto_region 11 with fail
      generalize W4.setCell ⟨w.heap.size + 1, 2, none⟩ (.bool true) = W5 at G5 R5 N5 Y5 T5 ⊢
      clear q1 q1f y0 y1 n0 n1f G4 R4 N4 Y4 T4
      have y0 := (za Y5).cell 0
      simp only [kGs] at y0
      have o1 := (za N5).cell 1
      simp only [kGs] at o1
      have n1f := (za N5).fr 1
      have G6 := hide (zb5.zf6 (za G5) X6 1 (.slice ta L2.length tc) (by omega))
      have R6 := hide (Mem.Blk.far (za R5) ⟨X6, 1, none⟩ (.slice ta L2.length tc) (by show w.heap.size + 1 ≠ X6; omega))
      have N6 := hide (show Mem.Blk (W5.setCell ⟨X6, 1, none⟩ (.slice ta L2.length tc)) X6 #[.int .i64 p1, .slice ta L2.length tc] 38 from (za N5).put 1 (.slice ta L2.length tc))
      have T6 := hide (Mem.za7 (za T5) ⟨X6, 1, none⟩ (.slice ta L2.length tc) (by show X6 < w2.heap.size; omega))
      go_upto_region 12 with fail
      generalize W5.setCell ⟨X6, 1, none⟩ (.slice ta L2.length tc) = W6 at G6 R6 N6 T6 ⊢
      clear y0 o1 n1f G5 R5 N5 Y5 T5
      have n0 := (za N6).cell 0
      have n1 := (za N6).cell 1
      simp only [kGs] at n0 n1
      have TN := hide (zg8.zj0 W6 p1 (.slice ta L2.length tc) 38)
      have K6 := hide ((za KK).read (za G6) (za R6))
      have KA := hide ((za K6).call ((Below.refl _ _).alloc (Nat.le_refl _) (.cells #[.int .i64 p1, .slice ta L2.length tc] 38)))
      have HPT := hide (fun w4 v' own gr far => (za KK).put (w4 := w4) (v' := v') (m := p1) (t := ⟨ta, tc, L2⟩) (za G6) (za R6) (za T6) hs2 own gr far)
      clear K6 N6 T6 G6 R6
      go_wp2_with (at_builtin; refine Mem.zb0 _ rfl _ _ 23 rfl (w.heap.size + 1 + 1) 38 i0 (.agg #[.int .i64 0, .slice none 0 0]) 2 32 Tryz.underlying23 hi hz0 hz1 hz2 rfl (by decide) _ _ _ rfl (za KA).row.row ⟨W6.heap.size, 0, none⟩ 1 1 [.int .i64 p1, .slice ta L2.length tc] rfl rfl (za TN) (zg8.zk1 _ _ _ _) (by unfold maxLen; omega) (by omega) (za KA).big ?_)
      intro v' w9 own' gr far
      have KN := hide (za HPT w9 v' own' gr (by simpa [Pl.Tr.val] using far))
      clear own' gr far HPT KA KK TN n0 n1
      have HCAS : Hid ((true = false ∧ Hid ((ST (j + 1)).L = (Is ++ [(⟨p1, ⟨ta, tc, L2⟩⟩ : Pl.It)]).map Pl.It.r ∧ (ST (j + 1)).a = a2 ∧ (ST (j + 1)).f = none)) ∨ (true = true ∧ Hid (RR = ([], 3)))) := hide (by
       rcases za HSS with ⟨g1, -⟩ | ⟨-, g2⟩
       ·simp at g1
        try exact absurd g1 hco
       ·exact .inr ⟨rfl, hide (za HNF g2)⟩
      )
      clear HSS HNF
      go_wp2
      go_roundw
      case rel => exact ⟨kk, j + 1, a2, true, Is ++ [⟨p1, ⟨ta, tc, L2⟩⟩], by go_num, by omega, by rw [List.length_append, za HLJ]; rfl, KN, za HCAS⟩
      case measure => simp [intOf]
     | false =>
      by_cases hco : co = 0
      ·subst hco
       have q1 := (za R4).cell 2
       have q1f := (za R4).fr 2
       have y0 := (za Y4).cell 0
       have y1 := (za Y4).cell 1
       have n0 := (za N4).cell 0
       have n1f := (za N4).fr 1
       simp only [kGs] at q1 y0 y1 n0
       have G5 := hide (Mem.zj5 (za G4) (zb5.zb3 (w := W4) (w.heap.size + 1) 2 (.bool false)))
       have R5 := hide (show Mem.Blk (W4.setCell ⟨w.heap.size + 1, 2, none⟩ (.bool false)) (w.heap.size + 1) #[.string s, .int .i64 a2, .bool false] 65 from Mem.Blk.put (za R4) 2 (.bool false))
       have N5 := hide ((za N4).far ⟨w.heap.size + 1, 2, none⟩ (.bool false) (by show X6 ≠ w.heap.size + 1; omega))
       have Y5 := hide ((za Y4).far ⟨w.heap.size + 1, 2, none⟩ (.bool false) (by show X7 ≠ w.heap.size + 1; omega))
       have T5 := hide (Mem.za7 (za T4) ⟨w.heap.size + 1, 2, none⟩ (.bool false) (by show w.heap.size + 1 < w2.heap.size; omega))
       have hd3 : w.heap.size + 1 ≠ X6 := by omega
       have hd4 : w.heap.size + 1 ≠ X7 := by omega
       have hd5 : X6 ≠ X7 := by omega
       clear hX6 hX7
       go_upto_region 11 with fail
       generalize W4.setCell ⟨w.heap.size + 1, 2, none⟩ (.bool false) = W5 at G5 R5 N5 Y5 T5 ⊢
       clear q1 q1f y0 y1 n0 n1f G4 R4 N4 Y4 T4
       have y0 := (za Y5).cell 0
       simp only [kGs] at y0
       have o1 := (za N5).cell 1
       simp only [kGs] at o1
       have n1f := (za N5).fr 1
       have G6 := hide (zb5.zf6 (za G5) X6 1 (.slice ta L2.length tc) (by omega))
       have R6 := hide (Mem.Blk.far (za R5) ⟨X6, 1, none⟩ (.slice ta L2.length tc) (by show w.heap.size + 1 ≠ X6; omega))
       have N6 := hide (show Mem.Blk (W5.setCell ⟨X6, 1, none⟩ (.slice ta L2.length tc)) X6 #[.int .i64 p1, .slice ta L2.length tc] 38 from (za N5).put 1 (.slice ta L2.length tc))
       have T6 := hide (Mem.za7 (za T5) ⟨X6, 1, none⟩ (.slice ta L2.length tc) (by show X6 < w2.heap.size; omega))
       go_upto_region 12 with fail
       generalize W5.setCell ⟨X6, 1, none⟩ (.slice ta L2.length tc) = W6 at G6 R6 N6 T6 ⊢
       clear y0 o1 n1f G5 R5 N5 Y5 T5
       have n0 := (za N6).cell 0
       have n1 := (za N6).cell 1
       simp only [kGs] at n0 n1
       have TN := hide (zg8.zj0 W6 p1 (.slice ta L2.length tc) 38)
       have K6 := hide ((za KK).read (za G6) (za R6))
       have KA := hide ((za K6).call ((Below.refl _ _).alloc (Nat.le_refl _) (.cells #[.int .i64 p1, .slice ta L2.length tc] 38)))
       have HPT := hide (fun w4 v' own gr far => (za KK).put (w4 := w4) (v' := v') (m := p1) (t := ⟨ta, tc, L2⟩) (za G6) (za R6) (za T6) hs2 own gr far)
       clear K6 N6 T6 G6 R6
       go_wp2_with (at_builtin; refine Mem.zb0 _ rfl _ _ 23 rfl (w.heap.size + 1 + 1) 38 i0 (.agg #[.int .i64 0, .slice none 0 0]) 2 32 Tryz.underlying23 hi hz0 hz1 hz2 rfl (by decide) _ _ _ rfl (za KA).row.row ⟨W6.heap.size, 0, none⟩ 1 1 [.int .i64 p1, .slice ta L2.length tc] rfl rfl (za TN) (zg8.zk1 _ _ _ _) (by unfold maxLen; omega) (by omega) (za KA).big ?_)
       intro v' w9 own' gr far
       have KN := hide (za HPT w9 v' own' gr (by simpa [Pl.Tr.val] using far))
       clear own' gr far HPT KA KK TN n0 n1
       have HCAS : Hid ((false = false ∧ Hid ((ST (j + 1)).L = (Is ++ [(⟨p1, ⟨ta, tc, L2⟩⟩ : Pl.It)]).map Pl.It.r ∧ (ST (j + 1)).a = a2 ∧ (ST (j + 1)).f = none)) ∨ (false = true ∧ Hid (RR = ([], 3)))) := hide (by
        rcases za HSS with ⟨-, g2, g3, g4⟩ | ⟨g1, -⟩
        ·exact .inl ⟨rfl, hide ⟨by rw [← g4, List.map_append]; rfl, g3.symm, g2⟩⟩
        ·simp at g1
       )
       clear HSS HNF
       go_wp2
       go_roundw
       case rel => exact ⟨kk, j + 1, a2, false, Is ++ [⟨p1, ⟨ta, tc, L2⟩⟩], by go_num, by omega, by rw [List.length_append, za HLJ]; rfl, KN, za HCAS⟩
       case measure => simp [intOf]
      ·have hco2 : (co != 0) = true := by simpa using hco
       have hco3 : decide (co = 0) = false := by simpa using hco
       have hco4 : (co == 0) = false := by simpa using hco
       have q1 := (za R4).cell 2
       have q1f := (za R4).fr 2
       have y0 := (za Y4).cell 0
       have y1 := (za Y4).cell 1
       have n0 := (za N4).cell 0
       have n1f := (za N4).fr 1
       simp only [kGs] at q1 y0 y1 n0
       have G5 := hide (Mem.zj5 (za G4) (zb5.zb3 (w := W4) (w.heap.size + 1) 2 (.bool true)))
       have R5 := hide (show Mem.Blk (W4.setCell ⟨w.heap.size + 1, 2, none⟩ (.bool true)) (w.heap.size + 1) #[.string s, .int .i64 a2, .bool true] 65 from Mem.Blk.put (za R4) 2 (.bool true))
       have N5 := hide ((za N4).far ⟨w.heap.size + 1, 2, none⟩ (.bool true) (by show X6 ≠ w.heap.size + 1; omega))
       have Y5 := hide ((za Y4).far ⟨w.heap.size + 1, 2, none⟩ (.bool true) (by show X7 ≠ w.heap.size + 1; omega))
       have T5 := hide (Mem.za7 (za T4) ⟨w.heap.size + 1, 2, none⟩ (.bool true) (by show w.heap.size + 1 < w2.heap.size; omega))
       have hd3 : w.heap.size + 1 ≠ X6 := by omega
       have hd4 : w.heap.size + 1 ≠ X7 := by omega
       have hd5 : X6 ≠ X7 := by omega
       clear hX6 hX7
       go_upto_region 11 with fail
       generalize W4.setCell ⟨w.heap.size + 1, 2, none⟩ (.bool true) = W5 at G5 R5 N5 Y5 T5 ⊢
       clear q1 q1f y0 y1 n0 n1f G4 R4 N4 Y4 T4
       have y0 := (za Y5).cell 0
       simp only [kGs] at y0
       have o1 := (za N5).cell 1
       simp only [kGs] at o1
       have n1f := (za N5).fr 1
       have G6 := hide (zb5.zf6 (za G5) X6 1 (.slice ta L2.length tc) (by omega))
       have R6 := hide (Mem.Blk.far (za R5) ⟨X6, 1, none⟩ (.slice ta L2.length tc) (by show w.heap.size + 1 ≠ X6; omega))
       have N6 := hide (show Mem.Blk (W5.setCell ⟨X6, 1, none⟩ (.slice ta L2.length tc)) X6 #[.int .i64 p1, .slice ta L2.length tc] 38 from (za N5).put 1 (.slice ta L2.length tc))
       have T6 := hide (Mem.za7 (za T5) ⟨X6, 1, none⟩ (.slice ta L2.length tc) (by show X6 < w2.heap.size; omega))
       go_upto_region 12 with fail
       generalize W5.setCell ⟨X6, 1, none⟩ (.slice ta L2.length tc) = W6 at G6 R6 N6 T6 ⊢
       clear y0 o1 n1f G5 R5 N5 Y5 T5
       have n0 := (za N6).cell 0
       have n1 := (za N6).cell 1
       simp only [kGs] at n0 n1
       have TN := hide (zg8.zj0 W6 p1 (.slice ta L2.length tc) 38)
       have K6 := hide ((za KK).read (za G6) (za R6))
       have KA := hide ((za K6).call ((Below.refl _ _).alloc (Nat.le_refl _) (.cells #[.int .i64 p1, .slice ta L2.length tc] 38)))
       have HPT := hide (fun w4 v' own gr far => (za KK).put (w4 := w4) (v' := v') (m := p1) (t := ⟨ta, tc, L2⟩) (za G6) (za R6) (za T6) hs2 own gr far)
       clear K6 N6 T6 G6 R6
       go_wp2_with (at_builtin; refine Mem.zb0 _ rfl _ _ 23 rfl (w.heap.size + 1 + 1) 38 i0 (.agg #[.int .i64 0, .slice none 0 0]) 2 32 Tryz.underlying23 hi hz0 hz1 hz2 rfl (by decide) _ _ _ rfl (za KA).row.row ⟨W6.heap.size, 0, none⟩ 1 1 [.int .i64 p1, .slice ta L2.length tc] rfl rfl (za TN) (zg8.zk1 _ _ _ _) (by unfold maxLen; omega) (by omega) (za KA).big ?_)
       intro v' w9 own' gr far
       have KN := hide (za HPT w9 v' own' gr (by simpa [Pl.Tr.val] using far))
       clear own' gr far HPT KA KK TN n0 n1
       have HCAS : Hid ((true = false ∧ Hid ((ST (j + 1)).L = (Is ++ [(⟨p1, ⟨ta, tc, L2⟩⟩ : Pl.It)]).map Pl.It.r ∧ (ST (j + 1)).a = a2 ∧ (ST (j + 1)).f = none)) ∨ (true = true ∧ Hid (RR = ([], 3)))) := hide (by
        rcases za HSS with ⟨g1, -⟩ | ⟨-, g2⟩
        ·simp at g1
         try exact absurd g1 hco
        ·exact .inr ⟨rfl, hide (za HNF g2)⟩
       )
       clear HSS HNF
       go_wp2
       go_roundw
       case rel => exact ⟨kk, j + 1, a2, true, Is ++ [⟨p1, ⟨ta, tc, L2⟩⟩], by go_num, by omega, by rw [List.length_append, za HLJ]; rfl, KN, za HCAS⟩
       case measure => simp [intOf]
end WNReadT
end Go.Proofs.YtfdbokipgofcdaaGreatDoor

namespace Go.Proofs.YtfdbokipgofcdaaGreatDoor
open Go.RowKit
namespace zb5
def endR (s : ByteArray) (a : Int) (f : Option Int) : Bool := f.isNone && decide (a = (s.size : Int))
set_option linter.unusedSimpArgs false in
set_option maxRecDepth 100000 in
set_option maxHeartbeats 1000000 in
theorem zy0 (X : Nat) (s : ByteArray) (a : Int) (f : Option Int) (w : World) (hv : Rd w X s a f) :
  Calls Tryz.prog 41 #[.pointer (some ⟨X, 0, none⟩)] w fun e w' => e = .returned (.bool (endR s a f)) ∧ Below w.heap.size w w' := by
 have c0 := hv.cell 0
 have c1 := hv.cell 1
 have c2 := hv.cell 2
 simp only [kGs] at c0 c1 c2
 clear hv
 unfold endR
 cases f with
 | some c =>
  simp only [fv] at c2
  go_enter Tryz.func41, Tryz.ntmps41
  go_wp2_with fail
  go_quiet (fail)
  go_wp2
  go_ret
  exact ⟨rfl, Mem.below_drewN (Below.refl _ _) _⟩
 | none =>
  simp only [fv] at c2
  by_cases h : a = (s.size : Int)
  ·subst h
   go_enter Tryz.func41, Tryz.ntmps41
   go_wp2_with fail
   go_quiet (fail)
   go_wp2
   go_ret
   exact ⟨by simp, Mem.below_drewN (Below.refl _ _) _⟩
  ·have t0 : (a == (s.size : Int)) = false := by simpa using h
   have E : Hid (decide (a = (s.size : Int)) = false) := decide_eq_false h
   clear h
   go_enter Tryz.func41, Tryz.ntmps41
   go_wp2_with fail
   go_quiet (fail)
   go_wp2
   go_ret
   exact ⟨by rw [za E]; rfl, Mem.below_drewN (Below.refl _ _) _⟩
end zb5
end Go.Proofs.YtfdbokipgofcdaaGreatDoor

