import Derived.Test.YtioildojmckepaaGreatDoorG10
import Derived.Test.YtioildojmckepaaGreatDoorPlainRead
import Derived.Test.YtioildojmckepaaGreatDoorG39
namespace Go.Proofs.YtioildojmckepaaGreatDoor
open Go.RowKit
namespace WReadT
theorem zp2 : (Tryz.prog.info? 88).map (fun i => (i.zero, i.size, i.bytes)) = some (some (.agg #[.string ⟨#[]⟩, .int .i64 0, .string ⟨#[]⟩, .int .i64 0, .int .i64 0]), 5, 56) := by kernel_rfl
set_option linter.unusedSimpArgs false in
set_option maxRecDepth 100000 in
set_option maxHeartbeats 2000000 in
theorem zb8 (s : ByteArray) (w : World) :
  Calls Tryz.prog 38 #[.string s] w fun e w' => ∃ v, e = .returned (.agg #[v, .int .i64 (Pl.ze0 s).2]) ∧ Mem.ownN w' w.heap.size v (Pl.ze0 s).1 ∧ Below w.heap.size w w' := by
 obtain ⟨i0, hi, hz0, hz1, hz2⟩ := info_parts zp2
 by_cases h8 : 8000 < s.size
 ·have t0 : (8000 : Int) < (s.size : Int) := by omega
  rw [Pl.zy9 h8]
  have b0 : Below w.heap.size w (w.alloc (.cells #[.slice none 0 0, .int .i64 0] 62)) := (Below.refl _ _).alloc (Nat.le_refl _) _
  have A0 := Mem.Blk.new w #[.slice none 0 0, .int .i64 0] 62
  have hill := hide (zj4.zg5 2)
  go_enter Tryz.func38, Tryz.ntmps38
  go_wp2_with fail
  refine (za hill _).mono ?_
  rintro e wI ⟨rfl, bI⟩
  have bw := hide (b0.trans (bI.mono b0.size))
  have A1 := A0.call bI
  have z0 := A1.cell 0
  have z1 := A1.cell 1
  simp only [kGs] at z0 z1
  have zf0 := A1.fr 0
  have zf1 := A1.fr 1
  clear hill bI b0 A0
  go_wp2
  refine bodyPost_ret (v := .agg #[.slice none 0 0, .int .i64 2]) (by simp [results, Tryz.results38, go_sem, z0, z1]) rfl ⟨.slice none 0 0, rfl, Mem.zc7 _ _, ?_⟩
  exact ((za bw).setCell (Nat.le_refl _) _).setCell (Nat.le_refl _) _
 have t0 : ¬ (8000 : Int) < (s.size : Int) := by omega
 have h8' : s.size ≤ 8000 := by omega
 have R0 : Hid (zj9.Rs (((w.alloc (.cells #[.slice none 0 0, .int .i64 0] 62)).alloc (.cells #[.string s, .int .i64 0, .bool false] 60)).alloc (.cells #[.slice none 0 0] 36)) (w.heap.size + 1) s 0 false) := hide (Mem.zt8 w _ _ _)
 have K0 : Hid (zv5.Ks w (((w.alloc (.cells #[.slice none 0 0, .int .i64 0] 62)).alloc (.cells #[.string s, .int .i64 0, .bool false] 60)).alloc (.cells #[.slice none 0 0] 36)) w.heap.size (w.heap.size + 1) (w.heap.size + 1 + 1) (w.heap.size + 1 + 1 + 1) #[.string s, .int .i64 0, .bool false] 60 (.slice none 0 0) []) :=
  hide ⟨(((Below.refl _ _).alloc (Nat.le_refl _) _).alloc (by simp) _).alloc (by simp; omega) _, by simp, ((Mem.Blk.new w _ _).alloc _).alloc _, Mem.zt8 w _ _ _, Mem.zk6 w _ _ _, Mem.zc7 _ _, by omega, by omega, by omega, by omega, by omega, by omega⟩
 have HM := hide (Pl.many_cases s)
 have hmany := hide (zj9.many_any (w.heap.size + 1) s 0 false 40 _ h8' (by omega) (za R0))
 generalize hMM : Pl.zg4 s 0 false 40 = MM at hmany HM
 obtain ⟨mc, ma, mb⟩ := MM
 simp only at hmany HM
 clear hMM
 have HRN : Hid (Pl.zg8 s = none → Pl.ze0 s = ([], 3)) := hide (fun h => Pl.zz h8 h)
 have HRS : Hid (∀ L, Pl.zg8 s = some L → Pl.ze0 s = (L, 0)) := hide (fun L h => Pl.zt3 h8 h)
 generalize hRR : Pl.ze0 s = RR at HRN HRS ⊢
 clear hRR
 go_enter Tryz.func38, Tryz.ntmps38
 go_wp2_with fail
 generalize (((w.alloc (.cells #[.slice none 0 0, .int .i64 0] 62)).alloc (.cells #[.string s, .int .i64 0, .bool false] 60)).alloc (.cells #[.slice none 0 0] 36)) = w3 at K0 R0 hmany ⊢
 refine (za hmany).mono ?_
 rintro e w1 ⟨rfl, hrs, hgr⟩
 have K1 := hide ((za K0).read hgr hrs)
 clear hmany K0 R0 hrs hgr
 rcases za HM with ⟨c, q, hg, hc40, hq0, hqs, hme⟩ | ⟨rfl, rfl, -, hno⟩
 rotate_left
 ·have HNO : Hid (RR = ([], 3)) := hide (za HRN hno)
  clear HM HRN HRS hno
  have c32 := (za K1).x3.cell 2
  simp only [kGs] at c32
  go_wp2
  go_loopw [5] (fun k wr => k = .int .i64 0 ∧ wr = w1) (fun _ _ => 0)
  case atStart => exact ⟨rfl, rfl⟩
  case round =>
   obtain ⟨rfl, rfl⟩ := hrel
   have hill := hide (zj4.zg5 3)
   go_wp2_with fail
   refine (za hill _).mono ?_
   rintro e wI ⟨rfl, bI⟩
   have KI := hide ((za K1).call bI)
   have z0 := (za KI).x2.cell 0
   have z1 := (za KI).x2.cell 1
   simp only [kGs] at z0 z1
   have zf0 := (za KI).x2.fr 0
   have zf1 := (za KI).x2.fr 1
   clear hill bI
   go_wp2
   refine bodyPost_ret (v := .agg #[.slice none 0 0, .int .i64 3]) (by simp [results, Tryz.results38, go_sem, z0, z1]) rfl ⟨.slice none 0 0, by rw [za HNO], by rw [za HNO]; exact Mem.zc7 _ _, ((za KI).done _ _).2⟩
 ·obtain ⟨e1, e2, e3⟩ : mc = (c : Int) ∧ ma = (q : Int) ∧ mb = false := by simp only [Prod.mk.injEq] at hme; exact hme
  subst e1 e2 e3
  have ht1 : s.toList.isEmpty = false := by rw [Pl.zc5]; exact decide_eq_false (fun h => by rw [Pl.zg2] at h; omega)
  have HG := hide hg
  have HFA : Hid (∀ j, j ≤ c → (Pl.steps s (q : Int) j).f ≠ none → RR = ([], 3)) := hide (fun j hj hf => za HRN (Pl.treeR_none hg hj hf))
  have HEN : Hid ((Pl.steps s (q : Int) c).f = none → (Pl.zd7 (Pl.steps s (q : Int) c).L = s → RR = ((Pl.steps s (q : Int) c).L, 0)) ∧ (¬ Pl.zd7 (Pl.steps s (q : Int) c).L = s → RR = ([], 3))) := hide (fun hf => ⟨fun hb => za HRS _ (by rw [Pl.zz9 hg hc40 hf, if_pos hb]), fun hb => za HRN (by rw [Pl.zz9 hg hc40 hf, if_neg hb])⟩)
  have HSM : Hid (∀ j, (Pl.steps s (q : Int) j).f = none → ∀ n ∈ (Pl.steps s (q : Int) j).L, n.path.size ≤ 1048576 ∧ n.data.size ≤ 1048576) := hide (fun j hf n hn => by
   obtain ⟨-, -, -, -, -, h⟩ := Pl.zy hqs j hf
   have := h n hn
   omega)
  have HBD : Hid (∀ j, (Pl.steps s (q : Int) j).a ≤ 9223372036854775807) := hide (fun j => Pl.yc3 h8' (by omega) j)
  have HST : Hid (∀ j, (Pl.steps s (q : Int) j).f = none → ((Pl.zn5 s (Pl.steps s (q : Int) j).a).2.2 = false ∧ (Pl.steps s (q : Int) (j + 1)).f = none ∧ (Pl.zn5 s (Pl.steps s (q : Int) j).a).2.1 = (Pl.steps s (q : Int) (j + 1)).a ∧ (Pl.steps s (q : Int) j).L ++ [(Pl.zn5 s (Pl.steps s (q : Int) j).a).1] = (Pl.steps s (q : Int) (j + 1)).L) ∨ ((Pl.zn5 s (Pl.steps s (q : Int) j).a).2.2 = true ∧ (Pl.steps s (q : Int) (j + 1)).f ≠ none)) := hide (fun j hf => Pl.steps_succ hf)
  have HZ : Hid ((Pl.steps s (q : Int) 0).L = [] ∧ (Pl.steps s (q : Int) 0).a = (q : Int) ∧ (Pl.steps s (q : Int) 0).f = none) := hide ⟨rfl, rfl, rfl⟩
  have HLN : Hid (∀ j, (Pl.steps s (q : Int) j).L.length = j) := hide (fun j => Pl.yb0 s (q : Int) j)
  generalize Pl.steps s (q : Int) = ST at HFA HEN HSM HBD HST HZ HLN
  clear hme hg HM HRN HRS HG
  go_wp2
  go_loopw [5] (fun k wr => ∃ (kk j : Nat) (a : Int) (bad : Bool) (v : Value) (L : List Pl.Nd), k = .int .i64 (kk : Int) ∧ kk + j = c ∧ Hid (zv5.Ks w wr w.heap.size (w.heap.size + 1) (w.heap.size + 1 + 1) (w.heap.size + 1 + 1 + 1) #[.string s, .int .i64 a, .bool bad] 60 v L) ∧ ((bad = false ∧ Hid ((ST j).L = L ∧ (ST j).a = a ∧ (ST j).f = none)) ∨ (bad = true ∧ Hid (RR = ([], 3))))) (fun k _ => (intOf k).toNat)
  case atStart => exact ⟨c, 0, (q : Int), false, _, [], rfl, by omega, K1, .inl ⟨rfl, HZ⟩⟩
  case round =>
   obtain ⟨kk, j, a, bad, v, L, rfl, hkj, KK, hcase⟩ := hrel
   clear K1 HZ
   have c32 := (za KK).x3.cell 2
   simp only [kGs] at c32
   rcases hcase with ⟨rfl, HH⟩ | ⟨rfl, HNO⟩
   rotate_left
   ·by_cases hk : (0 : Int) < (kk : Int)
    ·skip
     have hill := hide (zj4.zg5 3)
     go_wp2_with fail
     refine (za hill _).mono ?_
     rintro e wI ⟨rfl, bI⟩
     have KI := hide ((za KK).call bI)
     have z0 := (za KI).x2.cell 0
     have z1 := (za KI).x2.cell 1
     simp only [kGs] at z0 z1
     have zf0 := (za KI).x2.fr 0
     have zf1 := (za KI).x2.fr 1
     clear hill bI
     go_wp2
     refine bodyPost_ret (v := .agg #[.slice none 0 0, .int .i64 3]) (by simp [results, Tryz.results38, go_sem, z0, z1]) rfl ⟨.slice none 0 0, by rw [za HNO], by rw [za HNO]; exact Mem.zc7 _ _, ((za KI).done _ _).2⟩
    ·skip
     have hill := hide (zj4.zg5 3)
     go_wp2_with fail
     refine (za hill _).mono ?_
     rintro e wI ⟨rfl, bI⟩
     have KI := hide ((za KK).call bI)
     have z0 := (za KI).x2.cell 0
     have z1 := (za KI).x2.cell 1
     simp only [kGs] at z0 z1
     have zf0 := (za KI).x2.fr 0
     have zf1 := (za KI).x2.fr 1
     clear hill bI
     go_wp2
     refine bodyPost_ret (v := .agg #[.slice none 0 0, .int .i64 3]) (by simp [results, Tryz.results38, go_sem, z0, z1]) rfl ⟨.slice none 0 0, by rw [za HNO], by rw [za HNO]; exact Mem.zc7 _ _, ((za KI).done _ _).2⟩
   ·cases kk with
    | zero =>
     obtain rfl : j = c := by omega
     obtain ⟨h1, h2, h3⟩ := za HH
     obtain ⟨va, vc, rfl⟩ := Mem.za3 (za KK).row
     obtain ⟨hE1, hE2⟩ := za HEN h3
     have hll : L.length ≤ 1048576 := by rw [← h1, za HLN]; omega
     have htb := hide (zo6.zb8 va vc L wr hll (Mem.zs9 (za KK).row).2 (by rw [← h1]; exact za HSM _ h3))
     rw [h1] at hE1 hE2
     generalize Pl.zd7 L = Y at htb hE1 hE2
     have c40 := (za KK).x4.cell 0
     simp only [kGs] at c40
     have HE1 := hide hE1
     have HE2 := hide hE2
     clear HH h1 h2 h3 hE1 hE2 HFA HEN HSM HBD HST HLN
     go_wp2_with fail
     refine (za htb).mono ?_
     rintro e w5 ⟨rfl, b5⟩
     have K5 := hide ((za KK).call b5)
     clear htb KK b5 c32 c40
     by_cases hy : Y = s
     ·have HYE := hide (za HE1 hy)
      subst hy
      have c40 := (za K5).x4.cell 0
      simp only [kGs] at c40
      have z0 := (za K5).x2.cell 0
      have z1 := (za K5).x2.cell 1
      simp only [kGs] at z0 z1
      have zf0 := (za K5).x2.fr 0
      have zf1 := (za K5).x2.fr 1
      go_wp2
      refine bodyPost_ret (v := .agg #[.slice va L.length vc, .int .i64 0]) (by simp [results, Tryz.results38, go_sem, z0, z1]) rfl ⟨.slice va L.length vc, by rw [za HYE], by rw [za HYE]; exact ((za K5).done _ _).1, ((za K5).done _ _).2⟩
     ·have HNO : Hid (RR = ([], 3)) := hide (za HE2 hy)
      have hy1 : ¬ Y.toList = s.toList := fun h => hy (by rw [ByteArray.toList_eq, ByteArray.toList_eq] at h; exact Pl.zh h)
      have hy2 : (Y.toList == s.toList) = false := by simpa using hy1
      have hill := hide (zj4.zg5 3)
      go_wp2_with fail
      refine (za hill _).mono ?_
      rintro e wI ⟨rfl, bI⟩
      have KI := hide ((za K5).call bI)
      have z0 := (za KI).x2.cell 0
      have z1 := (za KI).x2.cell 1
      simp only [kGs] at z0 z1
      have zf0 := (za KI).x2.fr 0
      have zf1 := (za KI).x2.fr 1
      clear hill bI
      go_wp2
      refine bodyPost_ret (v := .agg #[.slice none 0 0, .int .i64 3]) (by simp [results, Tryz.results38, go_sem, z0, z1]) rfl ⟨.slice none 0 0, by rw [za HNO], by rw [za HNO]; exact Mem.zc7 _ _, ((za KI).done _ _).2⟩
    | succ kk =>
     have u1 : (0 : Int) < ((kk + 1 : Nat) : Int) := by omega
     obtain ⟨h1, h2, h3⟩ := za HH
     have hab := za HBD j
     have hst := za HST j h3
     have hlen : L.length ≤ 40 := by rw [← h1, za HLN]; omega
     rw [h2] at hst hab
     rw [h1] at hst
     unfold Pl.zn5 at hst
     obtain ⟨⟨p1, a1, b1⟩, hr1⟩ : ∃ r, Pl.zh0 s a false = r := ⟨_, rfl⟩
     have z1 := Pl.yb9 (bad := false) h8' hab
     simp only [hr1] at hst z1
     obtain ⟨⟨p2, a2, b2⟩, hr2⟩ : ∃ r, Pl.numS s a1 b1 = r := ⟨_, rfl⟩
     have z2 := Pl.zz3 (bad := b1) h8' z1
     simp only [hr2] at hst z2
     obtain ⟨⟨p3, a3, b3⟩, hr3⟩ : ∃ r, Pl.zh0 s a2 b2 = r := ⟨_, rfl⟩
     have z3 := Pl.yb9 (bad := b2) h8' z2
     simp only [hr3] at hst z3
     obtain ⟨⟨p4, a4, b4⟩, hr4⟩ : ∃ r, Pl.numS s a3 b3 = r := ⟨_, rfl⟩
     have z4 := Pl.zz3 (bad := b3) h8' z3
     simp only [hr4] at hst z4
     obtain ⟨⟨p5, a5, b5⟩, hr5⟩ : ∃ r, Pl.numS s a4 b4 = r := ⟨_, rfl⟩
     simp only [hr5] at hst
     have HSS := hide hst
     have c1 := hide (fun W hv => zj9.text_any (w.heap.size + 1) s a false W h8' hab hv)
     have c2 := hide (fun W hv => zj9.zj6 (w.heap.size + 1) s a1 b1 W h8' z1 hv)
     have c3 := hide (fun W hv => zj9.text_any (w.heap.size + 1) s a2 b2 W h8' z2 hv)
     have c4 := hide (fun W hv => zj9.zj6 (w.heap.size + 1) s a3 b3 W h8' z3 hv)
     have c5 := hide (fun W hv => zj9.zj6 (w.heap.size + 1) s a4 b4 W h8' z4 hv)
     rw [hr1] at c1
     rw [hr2] at c2
     rw [hr3] at c3
     rw [hr4] at c4
     rw [hr5] at c5
     simp only at c1 c2 c3 c4 c5
     have HNF : Hid ((ST (j + 1)).f ≠ none → RR = ([], 3)) := hide (fun hf => za HFA (j + 1) (by omega) hf)
     clear hst h1 h2 h3 HH hr1 hr2 hr3 hr4 hr5 z1 z2 z3 z4 HFA HEN HSM HBD HST HLN hab
     go_wp2_with fail
     refine (za c1 _ (za KK).x3).mono ?_
     rintro e w1' ⟨rfl, hrs, hgr⟩
     have K1 := (za KK).read hgr hrs
     clear KK hrs hgr c1 c32
     have hXo : v.ownBlock ≠ some w1'.heap.size := fun e => by have := (K1.own _ e).2; omega
     have hXB : w.heap.size + 1 + 1 + 1 ≤ w1'.heap.size := K1.big
     have hX3 : w.heap.size + 1 ≠ w1'.heap.size := by omega
     have N1 := Mem.Blk.new w1' #[.string p1, .int .i64 0, .string ⟨#[]⟩, .int .i64 0, .int .i64 0] 88
     have K2 := hide (K1.alloc (.cells #[.string p1, .int .i64 0, .string ⟨#[]⟩, .int .i64 0, .int .i64 0] 88))
     have HN1 := hide N1
     clear K1 N1
     generalize hX6 : w1'.heap.size = X6 at hXo hXB hX3 HN1
     go_wp2_with fail
     refine (za c2 _ (za K2).x3).mono ?_
     rintro e wn1 ⟨rfl, hrs, hgr⟩
     have KA := (za K2).read hgr hrs
     have NA := (za HN1).grown hgr (fun e => hX3 (Option.some.inj e).symm)
     clear K2 HN1 hrs hgr c2
     have s0 := NA.cell 1
     simp only [kGs] at s0
     have s1 := NA.fr 1
     have K2 := hide (KA.set ⟨X6, 1, none⟩ (.int .i64 p2) hXB hXo)
     have HN1 := hide (show Mem.Blk (wn1.setCell ⟨X6, 1, none⟩ (.int .i64 p2)) X6 #[.string p1, .int .i64 p2, .string ⟨#[]⟩, .int .i64 0, .int .i64 0] 88 from NA.put 1 (.int .i64 p2))
     clear KA NA
     go_wp2_with fail
     refine (za c3 _ (za K2).x3).mono ?_
     rintro e wn2 ⟨rfl, hrs, hgr⟩
     have KA := (za K2).read hgr hrs
     have NA := (za HN1).grown hgr (fun e => hX3 (Option.some.inj e).symm)
     clear K2 HN1 hrs hgr c3
     have s0 := NA.cell 2
     simp only [kGs] at s0
     have s1 := NA.fr 2
     have K2 := hide (KA.set ⟨X6, 2, none⟩ (.string p3) hXB hXo)
     have HN1 := hide (show Mem.Blk (wn2.setCell ⟨X6, 2, none⟩ (.string p3)) X6 #[.string p1, .int .i64 p2, .string p3, .int .i64 0, .int .i64 0] 88 from NA.put 2 (.string p3))
     clear KA NA
     go_wp2_with fail
     refine (za c4 _ (za K2).x3).mono ?_
     rintro e wn3 ⟨rfl, hrs, hgr⟩
     have KA := (za K2).read hgr hrs
     have NA := (za HN1).grown hgr (fun e => hX3 (Option.some.inj e).symm)
     clear K2 HN1 hrs hgr c4
     have s0 := NA.cell 3
     simp only [kGs] at s0
     have s1 := NA.fr 3
     have K2 := hide (KA.set ⟨X6, 3, none⟩ (.int .i64 p4) hXB hXo)
     have HN1 := hide (show Mem.Blk (wn3.setCell ⟨X6, 3, none⟩ (.int .i64 p4)) X6 #[.string p1, .int .i64 p2, .string p3, .int .i64 p4, .int .i64 0] 88 from NA.put 3 (.int .i64 p4))
     clear KA NA
     go_wp2_with fail
     refine (za c5 _ (za K2).x3).mono ?_
     rintro e wn4 ⟨rfl, hrs, hgr⟩
     have KA := (za K2).read hgr hrs
     have NA := (za HN1).grown hgr (fun e => hX3 (Option.some.inj e).symm)
     clear K2 HN1 hrs hgr c5
     have s0 := NA.cell 4
     simp only [kGs] at s0
     have s1 := NA.fr 4
     have K2 := hide (KA.set ⟨X6, 4, none⟩ (.int .i64 p5) hXB hXo)
     have HN1 := hide (show Mem.Blk (wn4.setCell ⟨X6, 4, none⟩ (.int .i64 p5)) X6 #[.string p1, .int .i64 p2, .string p3, .int .i64 p4, .int .i64 p5] 88 from NA.put 4 (.int .i64 p5))
     clear KA NA
     have n0 := (za HN1).cell 0
     have n1 := (za HN1).cell 1
     have n2 := (za HN1).cell 2
     have n3 := (za HN1).cell 3
     have n4 := (za HN1).cell 4
     simp only [kGs] at n0 n1 n2 n3 n4
     have c40 := (za K2).x4.cell 0
     simp only [kGs] at c40
     have hsz : (wn4.setCell ⟨X6, 4, none⟩ (.int .i64 p5)).heap.size = wn4.heap.size := by simp
     have hbig : w.heap.size + 1 + 1 + 1 ≤ wn4.heap.size := by have := (za K2).big; omega
     have HCS : Hid (∀ j u, [Value.string p1, .int .i64 p2, .string p3, .int .i64 p4, .int .i64 p5][j]? = some u → ((wn4.setCell ⟨X6, 4, none⟩ (.int .i64 p5)).alloc (.cells #[.string p1, .int .i64 p2, .string p3, .int .i64 p4, .int .i64 p5] 88)).cell? ((⟨wn4.heap.size, 0, none⟩ : Addr).add j) = some u) := hide (by
      have h' := Mem.zi9 (wn4.setCell ⟨X6, 4, none⟩ (.int .i64 p5)) ⟨p1, p2, p3, p4, p5⟩ 88
      rw [hsz] at h'; exact h')
     have OA := hide (za K2).row
     have HPT := hide (fun (w4 : World) (v' : Value) own gr => (za K2).put (n := ⟨p1, p2, p3, p4, p5⟩) (o := .cells #[.string p1, .int .i64 p2, .string p3, .int .i64 p4, .int .i64 p5] 88) (w4 := w4) (v' := v') own gr)
     have HMD := hide (fun (w4 : World) gr => (za K2).mid (o := .cells #[.string p1, .int .i64 p2, .string p3, .int .i64 p4, .int .i64 p5] 88) (w4 := w4) gr)
     clear K2 HN1 hX6 hXo hXB hX3
     go_wp2_with (at_builtin; refine wpList_append_own _ rfl _ _ 34 rfl (w.heap.size + 1 + 1 + 1) 88 i0 _ 5 56 Tryz.underlying34 hi hz0 hz1 hz2 rfl (by decide) _ _ _ rfl (Mem.zd4 (za OA) _) ⟨wn4.heap.size, 0, none⟩ 1 1 [.string p1, .int .i64 p2, .string p3, .int .i64 p4, .int .i64 p5] rfl rfl (za HCS) (Mem.zi1 ⟨p1, p2, p3, p4, p5⟩) (by unfold maxLen; omega) (by omega) (by simp; omega) ?_)
     intro v' w4 own' hgrow _
     have M4 := za HMD w4 hgrow
     have m0 := M4.cell 0
     have m1 := M4.fr 0
     simp only [kGs] at m0
     have K3 := hide (za HPT w4 v' own' hgrow)
     obtain ⟨vb, vc, rfl⟩ := Mem.za3 own'
     clear own' hgrow M4 HMD HPT OA HCS n0 n1 n2 n3 n4 c40
     have hcas : (b5 = false ∧ Hid ((ST (j + 1)).L = L ++ [⟨p1, p2, p3, p4, p5⟩] ∧ (ST (j + 1)).a = a5 ∧ (ST (j + 1)).f = none)) ∨ (b5 = true ∧ Hid (RR = ([], 3))) := by
      rcases za HSS with ⟨g1, g2, g3, g4⟩ | ⟨g1, g2⟩
      ·exact .inl ⟨g1, hide ⟨g4.symm, g3.symm, g2⟩⟩
      ·exact .inr ⟨g1, hide (za HNF g2)⟩
     have HCAS := hide hcas
     clear hcas HSS HNF
     go_wp2
     go_roundw
     case rel => exact ⟨kk, j + 1, a5, b5, _, _, by go_num, by omega, K3, za HCAS⟩
     case measure => simp [intOf]
end WReadT
end Go.Proofs.YtioildojmckepaaGreatDoor
