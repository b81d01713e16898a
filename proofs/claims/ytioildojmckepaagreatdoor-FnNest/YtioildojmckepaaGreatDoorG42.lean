/- Several texts of one claim in one file: WReadJ, WNReadI. -/
import Derived.Test.YtioildojmckepaaGreatDoorPlainRead
import Derived.Test.YtioildojmckepaaGreatDoorG39
import Derived.Test.YtioildojmckepaaGreatDoorG41
import Derived.Deep.Cut
namespace Go.Proofs.YtioildojmckepaaGreatDoor
open Go.RowKit
namespace WReadJ
theorem zp2 : (Tryz.prog.info? 88).map (fun i => (i.zero, i.size, i.bytes)) = some (some (.agg #[.string ⟨#[]⟩, .int .i64 0, .string ⟨#[]⟩, .int .i64 0, .int .i64 0]), 5, 56) := by kernel_rfl
theorem Ks_drew {w wr : World} {X2 X3 X4 B : Nat} {rc : Array Value} {T : TypeId} {v : Value} {L : List Pl.Nd} (h : zv5.Ks w wr X2 X3 X4 B rc T v L) : zv5.Ks w wr.drew X2 X3 X4 B rc T v L := h.call ⟨rfl, rfl, rfl, Nat.le_refl _, fun _ _ => rfl⟩
set_option linter.unusedSimpArgs false in
set_option maxRecDepth 100000 in
set_option maxHeartbeats 2000000 in
theorem ze9 (s : ByteArray) (w : World) (r1 r2 r3 : TypeId) (x1 x2 x3 : Value) (hE : zh9.Errs w r1 r2 r3 x1 x2 x3) :
  Calls Tryz.prog 52 #[.string s] w fun e w' => ∃ v, e = .returned (.agg #[v, .int .i64 (Pl.ze0 s).2]) ∧ Mem.ownN w' w.heap.size v (Pl.ze0 s).1 ∧ Below w.heap.size w w' := by
 obtain ⟨i0, hi, hz0, hz1, hz2⟩ := info_parts zp2
 by_cases h8 : 8000 < s.size
 ·have t0 : (8000 : Int) < (s.size : Int) := by omega
  rw [Pl.zy9 h8]
  have b0 : ∀ o, Below w.heap.size w (w.alloc o) := fun o => (Below.refl _ _).alloc (Nat.le_refl _) o
  clear hE
  go_enter Tryz.func52, Tryz.ntmps52
  go_wp2
  refine bodyPost_ret (v := .agg #[.slice none 0 0, .int .i64 2]) (by simp [results, Tryz.results52, go_sem]) rfl ⟨.slice none 0 0, rfl, Mem.zc7 _ _, b0 _⟩
 have t0 : ¬ (8000 : Int) < (s.size : Int) := by omega
 have h8' : s.size ≤ 8000 := by omega
 have R0 : Hid (za8.Rd (((w.alloc (.cells #[.slice none 0 0, .int .i64 0] 62)).alloc (.cells #[.string s, .int .i64 0, .nilIface] 52)).alloc (.cells #[.slice none 0 0] 36)) (w.heap.size + 1) s 0 none) := hide (Mem.zt8 w _ _ _)
 have K0 : Hid (zv5.Ks w (((w.alloc (.cells #[.slice none 0 0, .int .i64 0] 62)).alloc (.cells #[.string s, .int .i64 0, .nilIface] 52)).alloc (.cells #[.slice none 0 0] 36)) w.heap.size (w.heap.size + 1) (w.heap.size + 1 + 1) (w.heap.size + 1 + 1 + 1) #[.string s, .int .i64 0, .nilIface] 52 (.slice none 0 0) []) :=
  hide ⟨(((Below.refl _ _).alloc (Nat.le_refl _) _).alloc (by simp) _).alloc (by simp; omega) _, by simp, ((Mem.Blk.new w _ _).alloc _).alloc _, Mem.zt8 w _ _ _, Mem.zk6 w _ _ _, Mem.zc7 _ _, by omega, by omega, by omega, by omega, by omega, by omega⟩
 have HM := hide (Pl.count_cases s)
 have hnum := hide (za8.zj6 (w.heap.size + 1) s 0 none _ h8' (by omega) (za R0))
 generalize hMM : Pl.numR s 0 none = MM at hnum HM
 obtain ⟨mc, ma, mf⟩ := MM
 simp only at hnum HM
 clear hMM
 have HRN : Hid (Pl.zg8 s = none → Pl.ze0 s = ([], 3)) := hide (fun h => Pl.zz h8 h)
 have HRS : Hid (∀ L, Pl.zg8 s = some L → Pl.ze0 s = (L, 0)) := hide (fun L h => Pl.zt3 h8 h)
 generalize hRR : Pl.ze0 s = RR at HRN HRS ⊢
 have HE := hide (fun W (b : Below w.heap.size w W) => hE.call b)
 clear hRR hE
 go_enter Tryz.func52, Tryz.ntmps52
 go_wp2_with fail
 generalize (((w.alloc (.cells #[.slice none 0 0, .int .i64 0] 62)).alloc (.cells #[.string s, .int .i64 0, .nilIface] 52)).alloc (.cells #[.slice none 0 0] 36)) = w3 at K0 R0 hnum ⊢
 refine (za hnum).mono ?_
 rintro e w1 ⟨rfl, hrd, hgr⟩
 have K1 := hide ((za K0).read hgr hrd)
 clear hnum K0 R0 hrd hgr
 rcases za HM with ⟨c, q, hg, hc40, hq0, hqs, hme⟩ | ⟨hout, hno⟩ | ⟨code, rfl, rfl, rfl, hno⟩
 rotate_left
 ·have HNO : Hid (RR = ([], 3)) := hide (za HRN hno)
  clear HM HRN HRS hno HE
  by_cases hneg : mc < 0
  ·skip
   have z0 := (za K1).x2.cell 0
   have z1 := (za K1).x2.cell 1
   simp only [kGs] at z0 z1
   have zf0 := (za K1).x2.fr 0
   have zf1 := (za K1).x2.fr 1
   go_wp2
   refine bodyPost_ret (v := .agg #[.slice none 0 0, .int .i64 3]) (by simp [results, Tryz.results52, go_sem, z0, z1]) rfl ⟨.slice none 0 0, by rw [za HNO], by rw [za HNO]; exact Mem.zc7 _ _, ((za K1).done _ _).2⟩
  ·have hbig : 40 < mc := by omega
   have z0 := (za K1).x2.cell 0
   have z1 := (za K1).x2.cell 1
   simp only [kGs] at z0 z1
   have zf0 := (za K1).x2.fr 0
   have zf1 := (za K1).x2.fr 1
   go_wp2
   refine bodyPost_ret (v := .agg #[.slice none 0 0, .int .i64 3]) (by simp [results, Tryz.results52, go_sem, z0, z1]) rfl ⟨.slice none 0 0, by rw [za HNO], by rw [za HNO]; exact Mem.zc7 _ _, ((za K1).done _ _).2⟩
 ·have HNO : Hid (RR = ([], 3)) := hide (za HRN hno)
  clear HM HRN HRS hno
  have hend := hide (za8.zq1 (w.heap.size + 1) s 0 (some code) w1 (za K1).x3)
  have hef : za8.endR s 0 (some code) = false := rfl
  rw [hef] at hend
  go_wp2
  go_loopw [21] (fun i wr => i = .int .i64 0 ∧ wr = w1) (fun _ _ => 0)
  case atStart => exact ⟨rfl, rfl⟩
  case round =>
   obtain ⟨rfl, rfl⟩ := hrel
   go_wp2_with fail
   refine (za hend).mono ?_
   rintro e w5 ⟨rfl, b5⟩
   have K5 := hide ((za K1).call b5)
   clear hend b5
   have z0 := (za K5).x2.cell 0
   have z1 := (za K5).x2.cell 1
   simp only [kGs] at z0 z1
   have zf0 := (za K5).x2.fr 0
   have zf1 := (za K5).x2.fr 1
   go_wp2
   refine bodyPost_ret (v := .agg #[.slice none 0 0, .int .i64 3]) (by simp [results, Tryz.results52, go_sem, z0, z1]) rfl ⟨.slice none 0 0, by rw [za HNO], by rw [za HNO]; exact Mem.zc7 _ _, ((za K5).done _ _).2⟩
 ·obtain ⟨e1, e2, e3⟩ : mc = (c : Int) ∧ ma = (q : Int) ∧ mf = none := by simp only [Prod.mk.injEq] at hme; exact hme
  subst e1 e2 e3
  have HFN : Hid (RR = if (Pl.steps s (q : Int) c).f = none ∧ (Pl.steps s (q : Int) c).a = (s.size : Int) ∧ Pl.zb1 (Pl.steps s (q : Int) c).L = true then ((Pl.steps s (q : Int) c).L, 0) else ([], 3)) := hide (by
   have h' := Pl.treeR_fin hg hc40
   by_cases hcond : (Pl.steps s (q : Int) c).f = none ∧ (Pl.steps s (q : Int) c).a = (s.size : Int) ∧ Pl.zb1 (Pl.steps s (q : Int) c).L = true
   ·rw [if_pos hcond] at h' ⊢; exact za HRS _ h'
   ·rw [if_neg hcond] at h' ⊢; exact za HRN h')
  have HSM : Hid (∀ j, (Pl.steps s (q : Int) j).f = none → ∀ n ∈ (Pl.steps s (q : Int) j).L, n.path.size ≤ 1048576 ∧ n.data.size ≤ 1048576) := hide (fun j hf n hn => by
   obtain ⟨-, -, -, -, -, h⟩ := Pl.zy hqs j hf
   have := h n hn
   omega)
  have HBD : Hid (∀ j, (Pl.steps s (q : Int) j).a ≤ 9223372036854775807) := hide (fun j => Pl.yc3 h8' (by omega) j)
  have HST : Hid (∀ j, Pl.steps s (q : Int) (j + 1) = ⟨(Pl.steps s (q : Int) j).L ++ [(Pl.zh2 s (Pl.steps s (q : Int) j).a (Pl.steps s (q : Int) j).f).n], (Pl.zh2 s (Pl.steps s (q : Int) j).a (Pl.steps s (q : Int) j).f).a, (Pl.zh2 s (Pl.steps s (q : Int) j).a (Pl.steps s (q : Int) j).f).f⟩) := hide (fun j => rfl)
  have HZ : Hid ((Pl.steps s (q : Int) 0).L = [] ∧ (Pl.steps s (q : Int) 0).a = (q : Int) ∧ (Pl.steps s (q : Int) 0).f = none) := hide ⟨rfl, rfl, rfl⟩
  have HLN : Hid (∀ j, (Pl.steps s (q : Int) j).L.length = j) := hide (fun j => Pl.yb0 s (q : Int) j)
  generalize Pl.steps s (q : Int) = ST at HFN HSM HBD HST HZ HLN
  have v0 : ¬ (c : Int) < 0 := by omega
  have v1 : ¬ (40 : Int) < (c : Int) := by omega
  clear hme hg HM HRN HRS
  go_wp2
  go_loopw [21] (fun i wr => ∃ (j : Nat) (a : Int) (f : Option Int) (v : Value) (L : List Pl.Nd), i = .int .i64 (j : Int) ∧ j ≤ c ∧ Hid (zv5.Ks w wr w.heap.size (w.heap.size + 1) (w.heap.size + 1 + 1) (w.heap.size + 1 + 1 + 1) #[.string s, .int .i64 a, za8.fv f] 52 v L) ∧ Hid ((ST j).L = L ∧ (ST j).a = a ∧ (ST j).f = f)) (fun i _ => c - (intOf i).toNat)
  case atStart => exact ⟨0, (q : Int), none, _, [], rfl, by omega, K1, HZ⟩
  case round =>
   obtain ⟨j, a, f, v, L, rfl, hjc, KK, HH⟩ := hrel
   clear K1 HZ
   by_cases hlt : j < c
   ·have u1 : (j : Int) < (c : Int) := by omega
    obtain ⟨h1, h2, h3⟩ := za HH
    have hab := za HBD j
    have hst := za HST j
    have hlen : L.length ≤ 40 := by rw [← h1, za HLN]; omega
    rw [h1, h2, h3] at hst
    rw [h2] at hab
    obtain ⟨⟨⟨p1, p2, p3, p4, p5⟩, a5, f5⟩, hnr⟩ : ∃ r, Pl.zh2 s a f = r := ⟨_, rfl⟩
    rw [hnr] at hst
    have hnode := hide (fun W hv => za8.zv6 (w.heap.size + 1) s a f W h8' hab hv)
    rw [hnr] at hnode
    simp only [Pl.Nd.val] at hnode hst
    have HCASE : Hid ((ST (j + 1)).L = L ++ [⟨p1, p2, p3, p4, p5⟩] ∧ (ST (j + 1)).a = a5 ∧ (ST (j + 1)).f = f5) := hide (by rw [hst]; exact ⟨rfl, rfl, rfl⟩)
    obtain ⟨va, vc0, rfl⟩ := Mem.za3 (za KK).row
    have KC := hide (Ks_drew (za KK))
    clear hst h1 h2 h3 HH hnr hab HFN HSM HBD HST HLN KK HE
    go_wp2_with fail
    refine wp_region_held_drew (S := fun _ => True) (by kernel_rfl) ?_ (fun hHeld => ?_)
    ·trivial
    refine tka (i := 0) rfl ?_
    try simp only [Act.put, kBs]
    refine wpAnyH_ready (rs := [1, 2]) (by kernel_rfl) (by simp) ?_
    refine AllReadyH.cons rfl (fun K hK => ?_) (AllReadyH.cons rfl (fun K hK => ?_) AllReadyH.nil)
    ·have c40 := (za KC).x4.cell 0
     simp only [kGs] at c40
     go_simp
     clear c40
     refine hK.out _ _ trivial (fun _ => ?_)
     clear hK K
     try simp only [Act.put, kBs]
     refine wpAnyH_ready (rs := [2]) (by kernel_rfl) (by simp) ?_
     refine AllReadyH.cons rfl (fun K hK => ?_) AllReadyH.nil
     go_simp
     refine (za hnode _ (za KC).x3).mono ?_
     rintro e wX ⟨rfl, hrd, hgr⟩
     replace KC := hide ((za KC).read hgr hrd)
     clear hrd hgr
     refine hK.out _ _ trivial (fun _ => ?_)
     clear hK K
     try simp only [Act.put, kBs]
     refine wpAnyH_ready (rs := [3]) (by kernel_rfl) (by simp) ?_
     refine AllReadyH.cons rfl (fun K hK => ?_) AllReadyH.nil
     go_simp
     refine hK.out _ _ trivial (fun _ => ?_)
     clear hK K
     try simp only [Act.put, kBs]
     refine wpAnyH_ready (rs := [4]) (by kernel_rfl) (by simp) ?_
     refine AllReadyH.cons rfl (fun K hK => ?_) AllReadyH.nil
     refine Mem.zd0 rfl _ _ 34 rfl (w.heap.size + 1 + 1 + 1) 88 i0 _ 5 56 Tryz.underlying34 hi hz0 hz1 hz2 rfl (by decide) (.slice va L.length vc0) L.length (Pl.zb6 L) rfl (Mem.zd4 (za KC).row (.cells #[.string p1, .int .i64 p2, .string p3, .int .i64 p4, .int .i64 p5] 88)) ⟨wX.heap.size, 0, none⟩ 1 1 [.string p1, .int .i64 p2, .string p3, .int .i64 p4, .int .i64 p5] rfl rfl (Mem.zi9 wX ⟨p1, p2, p3, p4, p5⟩ _) (Mem.zi1 ⟨p1, p2, p3, p4, p5⟩) (by unfold maxLen; omega) (by omega) (by have := (za KC).big; simp; omega) ?_
     intro v' w4 own' hgrow
     have M4 := (za KC).mid (o := .cells #[.string p1, .int .i64 p2, .string p3, .int .i64 p4, .int .i64 p5] 88) hgrow
     have K3 := hide ((za KC).put (n := ⟨p1, p2, p3, p4, p5⟩) (o := .cells #[.string p1, .int .i64 p2, .string p3, .int .i64 p4, .int .i64 p5] 88) own' hgrow)
     obtain ⟨vb, vc, rfl⟩ := Mem.za3 own'
     have m0 := M4.cell 0
     have m1 := M4.fr 0
     simp only [kGs] at m0
     clear M4 own' hgrow KC
     refine hK.out _ _ trivial (fun _ => ?_)
     clear hK K
     try simp only [Act.put, kBs]
     refine tka (i := 5) rfl ?_
     try simp only [Act.put, kBs]
     refine wpAnyH_ready (rs := [6]) (by kernel_rfl) (by simp) ?_
     refine AllReadyH.cons rfl (fun K hK => ?_) AllReadyH.nil
     go_simp
     refine hK.out _ _ trivial (fun _ => ?_)
     clear hK K
     try simp only [Act.put, kBs]
     refine wpAnyH_done (by kernel_rfl) ?_ _
     have HC2 := hide (za HCASE)
     clear m0 m1 HCASE hnode
     go_wp2
     go_roundw
     case rel => exact ⟨j + 1, a5, f5, _, _, by go_num, by omega, K3, za HC2⟩
     case measure => simp [intOf]; omega
    ·go_simp
     refine (za hnode _ (za KC).x3).mono ?_
     rintro e wX ⟨rfl, hrd, hgr⟩
     replace KC := hide ((za KC).read hgr hrd)
     clear hrd hgr
     refine hK.out _ _ trivial (fun _ => ?_)
     clear hK K
     try simp only [Act.put, kBs]
     refine wpAnyH_ready (rs := [1, 3]) (by kernel_rfl) (by simp) ?_
     refine AllReadyH.cons rfl (fun K hK => ?_) (AllReadyH.cons rfl (fun K hK => ?_) AllReadyH.nil)
     ·have c40 := (za KC).x4.cell 0
      simp only [kGs] at c40
      go_simp
      clear c40
      refine hK.out _ _ trivial (fun _ => ?_)
      clear hK K
      try simp only [Act.put, kBs]
      refine wpAnyH_ready (rs := [3]) (by kernel_rfl) (by simp) ?_
      refine AllReadyH.cons rfl (fun K hK => ?_) AllReadyH.nil
      go_simp
      refine hK.out _ _ trivial (fun _ => ?_)
      clear hK K
      try simp only [Act.put, kBs]
      refine wpAnyH_ready (rs := [4]) (by kernel_rfl) (by simp) ?_
      refine AllReadyH.cons rfl (fun K hK => ?_) AllReadyH.nil
      refine Mem.zd0 rfl _ _ 34 rfl (w.heap.size + 1 + 1 + 1) 88 i0 _ 5 56 Tryz.underlying34 hi hz0 hz1 hz2 rfl (by decide) (.slice va L.length vc0) L.length (Pl.zb6 L) rfl (Mem.zd4 (za KC).row (.cells #[.string p1, .int .i64 p2, .string p3, .int .i64 p4, .int .i64 p5] 88)) ⟨wX.heap.size, 0, none⟩ 1 1 [.string p1, .int .i64 p2, .string p3, .int .i64 p4, .int .i64 p5] rfl rfl (Mem.zi9 wX ⟨p1, p2, p3, p4, p5⟩ _) (Mem.zi1 ⟨p1, p2, p3, p4, p5⟩) (by unfold maxLen; omega) (by omega) (by have := (za KC).big; simp; omega) ?_
      intro v' w4 own' hgrow
      have M4 := (za KC).mid (o := .cells #[.string p1, .int .i64 p2, .string p3, .int .i64 p4, .int .i64 p5] 88) hgrow
      have K3 := hide ((za KC).put (n := ⟨p1, p2, p3, p4, p5⟩) (o := .cells #[.string p1, .int .i64 p2, .string p3, .int .i64 p4, .int .i64 p5] 88) own' hgrow)
      obtain ⟨vb, vc, rfl⟩ := Mem.za3 own'
      have m0 := M4.cell 0
      have m1 := M4.fr 0
      simp only [kGs] at m0
      clear M4 own' hgrow KC
      refine hK.out _ _ trivial (fun _ => ?_)
      clear hK K
      try simp only [Act.put, kBs]
      refine tka (i := 5) rfl ?_
      try simp only [Act.put, kBs]
      refine wpAnyH_ready (rs := [6]) (by kernel_rfl) (by simp) ?_
      refine AllReadyH.cons rfl (fun K hK => ?_) AllReadyH.nil
      go_simp
      refine hK.out _ _ trivial (fun _ => ?_)
      clear hK K
      try simp only [Act.put, kBs]
      refine wpAnyH_done (by kernel_rfl) ?_ _
      have HC2 := hide (za HCASE)
      clear m0 m1 HCASE hnode
      go_wp2
      go_roundw
      case rel => exact ⟨j + 1, a5, f5, _, _, by go_num, by omega, K3, za HC2⟩
      case measure => simp [intOf]; omega
     ·go_simp
      refine hK.out _ _ trivial (fun _ => ?_)
      clear hK K
      try simp only [Act.put, kBs]
      refine wpAnyH_ready (rs := [1]) (by kernel_rfl) (by simp) ?_
      refine AllReadyH.cons rfl (fun K hK => ?_) AllReadyH.nil
      have c40 := ((za KC).x4.alloc (.cells #[.string p1, .int .i64 p2, .string p3, .int .i64 p4, .int .i64 p5] 88)).cell 0
      simp only [kGs] at c40
      go_simp
      clear c40
      refine hK.out _ _ trivial (fun _ => ?_)
      clear hK K
      try simp only [Act.put, kBs]
      refine wpAnyH_ready (rs := [4]) (by kernel_rfl) (by simp) ?_
      refine AllReadyH.cons rfl (fun K hK => ?_) AllReadyH.nil
      refine Mem.zd0 rfl _ _ 34 rfl (w.heap.size + 1 + 1 + 1) 88 i0 _ 5 56 Tryz.underlying34 hi hz0 hz1 hz2 rfl (by decide) (.slice va L.length vc0) L.length (Pl.zb6 L) rfl (Mem.zd4 (za KC).row (.cells #[.string p1, .int .i64 p2, .string p3, .int .i64 p4, .int .i64 p5] 88)) ⟨wX.heap.size, 0, none⟩ 1 1 [.string p1, .int .i64 p2, .string p3, .int .i64 p4, .int .i64 p5] rfl rfl (Mem.zi9 wX ⟨p1, p2, p3, p4, p5⟩ _) (Mem.zi1 ⟨p1, p2, p3, p4, p5⟩) (by unfold maxLen; omega) (by omega) (by have := (za KC).big; simp; omega) ?_
      intro v' w4 own' hgrow
      have M4 := (za KC).mid (o := .cells #[.string p1, .int .i64 p2, .string p3, .int .i64 p4, .int .i64 p5] 88) hgrow
      have K3 := hide ((za KC).put (n := ⟨p1, p2, p3, p4, p5⟩) (o := .cells #[.string p1, .int .i64 p2, .string p3, .int .i64 p4, .int .i64 p5] 88) own' hgrow)
      obtain ⟨vb, vc, rfl⟩ := Mem.za3 own'
      have m0 := M4.cell 0
      have m1 := M4.fr 0
      simp only [kGs] at m0
      clear M4 own' hgrow KC
      refine hK.out _ _ trivial (fun _ => ?_)
      clear hK K
      try simp only [Act.put, kBs]
      refine tka (i := 5) rfl ?_
      try simp only [Act.put, kBs]
      refine wpAnyH_ready (rs := [6]) (by kernel_rfl) (by simp) ?_
      refine AllReadyH.cons rfl (fun K hK => ?_) AllReadyH.nil
      go_simp
      refine hK.out _ _ trivial (fun _ => ?_)
      clear hK K
      try simp only [Act.put, kBs]
      refine wpAnyH_done (by kernel_rfl) ?_ _
      have HC2 := hide (za HCASE)
      clear m0 m1 HCASE hnode
      go_wp2
      go_roundw
      case rel => exact ⟨j + 1, a5, f5, _, _, by go_num, by omega, K3, za HC2⟩
      case measure => simp [intOf]; omega
   ·have u1 : ¬ (j : Int) < (c : Int) := by omega
    obtain rfl : j = c := by omega
    obtain ⟨h1, h2, h3⟩ := za HH
    obtain ⟨va, vc, rfl⟩ := Mem.za3 (za KK).row
    have hll : L.length ≤ 1048576 := by rw [← h1, za HLN]; omega
    have hend := hide (za8.zq1 (w.heap.size + 1) s a f wr (za KK).x3)
    have HF2 := za HFN
    rw [h1, h2, h3] at HF2
    cases hen : za8.endR s a f with
    | false =>
     have HNO : Hid (RR = ([], 3)) := hide (by
      rw [HF2, if_neg]
      rintro ⟨g1, g2, -⟩
      rw [g1, g2] at hen
      simp [za8.endR] at hen)
     rw [hen] at hend
     clear HF2 HH h1 h2 h3 HFN HSM HBD HST HLN HE hen
     go_wp2_with fail
     refine (za hend).mono ?_
     rintro e w5 ⟨rfl, b5⟩
     have K5 := hide ((za KK).call b5)
     clear hend b5 KK
     have z0 := (za K5).x2.cell 0
     have z1 := (za K5).x2.cell 1
     simp only [kGs] at z0 z1
     have zf0 := (za K5).x2.fr 0
     have zf1 := (za K5).x2.fr 1
     go_wp2
     refine bodyPost_ret (v := .agg #[.slice none 0 0, .int .i64 3]) (by simp [results, Tryz.results52, go_sem, z0, z1]) rfl ⟨.slice none 0 0, by rw [za HNO], by rw [za HNO]; exact Mem.zc7 _ _, ((za K5).done _ _).2⟩
    | true =>
     obtain ⟨g1, g2⟩ : f = none ∧ a = (s.size : Int) := by
      simp only [za8.endR, Bool.and_eq_true, decide_eq_true_eq, Option.isNone_iff_eq_none] at hen
      exact hen
     rw [hen] at hend
     have hok : ∀ n ∈ L, n.path.size ≤ 1048576 ∧ n.data.size ≤ 1048576 := by rw [← h1]; exact za HSM _ (by rw [h3, g1])
     have htr := hide (fun W (b : Below wr.heap.size wr W) => zh9.zz6 va vc L W hll (Mem.za5 (Mem.zs9 (za KK).row).2 b) hok _ _ _ _ _ _ (za HE W ((za KK).bel.trans (b.mono (za KK).bel.size))))
     have HF3 : Hid (RR = if Pl.zb1 L = true then (L, 0) else ([], 3)) := hide (by
      rw [HF2]
      by_cases ht : Pl.zb1 L = true
      ·rw [if_pos ⟨g1, g2, ht⟩, if_pos ht]
      ·rw [if_neg (fun h => ht h.2.2), if_neg ht])
     generalize Pl.zb1 L = TB at htr HF3
     clear HF2 HH h1 h2 h3 HFN HSM HBD HST HLN HE hen g1 g2 hok
     go_wp2_with fail
     refine (za hend).mono ?_
     rintro e w5 ⟨rfl, b5⟩
     have K5 := hide ((za KK).call b5)
     have c40 := (za K5).x4.cell 0
     simp only [kGs] at c40
     have htr2 := hide (za htr w5 b5)
     clear hend b5 KK htr
     go_wp2_with fail
     refine (za htr2).mono ?_
     rintro e w6 ⟨rfl, b6⟩
     have K6 := hide ((za K5).call b6)
     clear htr2 b6 K5 c40
     cases TB
     ·have HNO : Hid (RR = ([], 3)) := hide (za HF3)
      clear HF3
      have z0 := (za K6).x2.cell 0
      have z1 := (za K6).x2.cell 1
      simp only [kGs] at z0 z1
      have zf0 := (za K6).x2.fr 0
      have zf1 := (za K6).x2.fr 1
      go_wp2
      refine bodyPost_ret (v := .agg #[.slice none 0 0, .int .i64 3]) (by simp [results, Tryz.results52, go_sem, z0, z1]) rfl ⟨.slice none 0 0, by rw [za HNO], by rw [za HNO]; exact Mem.zc7 _ _, ((za K6).done _ _).2⟩
     ·have HYE : Hid (RR = (L, 0)) := hide (za HF3)
      have c40 := (za K6).x4.cell 0
      simp only [kGs] at c40
      have z0 := (za K6).x2.cell 0
      have z1 := (za K6).x2.cell 1
      simp only [kGs] at z0 z1
      have zf0 := (za K6).x2.fr 0
      have zf1 := (za K6).x2.fr 1
      go_wp2
      refine bodyPost_ret (v := .agg #[.slice va L.length vc, .int .i64 0]) (by simp [results, Tryz.results52, go_sem, z0, z1]) rfl ⟨.slice va L.length vc, by rw [za HYE], by rw [za HYE]; exact ((za K6).done _ _).1, ((za K6).done _ _).2⟩
end WReadJ
end Go.Proofs.YtioildojmckepaaGreatDoor

namespace Go.Proofs.YtioildojmckepaaGreatDoor
open Go.RowKit
namespace WNReadI
def Got (w w' : World) (X : Nat) (s : ByteArray) (r : Pl.Im) (e : Ending) : Prop := ∃ ta tc, e = .returned (.agg #[.int .i64 r.n.1, .slice ta r.n.2.length tc]) ∧ Mem.ownN w' w.heap.size (.slice ta r.n.2.length tc) r.n.2 ∧ za8.Rd w' X s r.a r.f ∧ w.grownBy w' (some X)
set_option linter.unusedSimpArgs false in
set_option maxRecDepth 100000 in
set_option maxHeartbeats 2000000 in
theorem zu7 (X : Nat) (s : ByteArray) (a : Int) (f : Option Int) (w : World) (h8 : s.size ≤ 8000) (ha : a ≤ 9223372036854775807) (hv : za8.Rd w X s a f) (r1 r2 r3 : TypeId) (x1 x2 x3 : Value) (hE : ∀ W, w.grownBy W (some X) → zh9.Errs W r1 r2 r3 x1 x2 x3) :
  Calls Tryz.prog 32 #[.pointer (some ⟨X, 0, none⟩)] w fun e w' => Got w w' X s (Pl.zf7 s a f) e := by
 have hX : X < w.heap.size := hv.lt
 have HIT : Hid (Pl.zf7 s a f = ⟨((Pl.numR s a f).1, (Pl.ze0 (Pl.strR s (Pl.numR s a f).2.1 (Pl.numR s a f).2.2).1).1), (Pl.strR s (Pl.numR s a f).2.1 (Pl.numR s a f).2.2).2.1, (match (Pl.strR s (Pl.numR s a f).2.1 (Pl.numR s a f).2.2).2.2 with | none => if (Pl.ze0 (Pl.strR s (Pl.numR s a f).2.1 (Pl.numR s a f).2.2).1).2 = 0 then none else some (Pl.ze0 (Pl.strR s (Pl.numR s a f).2.1 (Pl.numR s a f).2.2).1).2 | some c => some c)⟩) := hide rfl
 generalize Pl.zf7 s a f = R at HIT ⊢
 have c1 := hide (fun W h => za8.zj6 X s a f W h8 ha h)
 have z1 : (Pl.numR s a f).2.1 ≤ 9223372036854775807 := Pl.zo h8 ha
 obtain ⟨⟨p1, a1, f1⟩, hr1⟩ : ∃ r, Pl.numR s a f = r := ⟨_, rfl⟩
 rw [hr1] at c1 z1 HIT
 simp only at c1 z1 HIT
 have c2 := hide (fun W h => za8.str_any X s a1 f1 W h8 z1 h)
 obtain ⟨⟨p2, a2, f2⟩, hr2⟩ : ∃ r, Pl.strR s a1 f1 = r := ⟨_, rfl⟩
 rw [hr2] at c2 HIT
 simp only at c2 HIT
 have c3 := hide (fun W h => WReadJ.ze9 p2 W r1 r2 r3 x1 x2 x3 h)
 obtain ⟨⟨L2, co⟩, hr3⟩ : ∃ r, Pl.ze0 p2 = r := ⟨_, rfl⟩
 rw [hr3] at c3 HIT
 simp only at c3 HIT
 have HE := hide hE
 have b0 : Below w.heap.size w (w.alloc (.cells #[.int .i64 0, .slice none 0 0] 38)) := (Below.refl _ _).alloc (Nat.le_refl _) _
 have G0 := hide (Mem.zg1 b0 (some X))
 have R0 := hide (Mem.Blk.call hv b0)
 have Z0 := hide (Mem.Blk.new w #[.int .i64 0, .slice none 0 0] 38)
 clear hv ha hr1 hr2 hr3 hE b0 z1
 go_enter Tryz.func32, Tryz.ntmps32
 go_wp2_with fail
 refine (za c1 _ (za R0)).mono ?_
 rintro e w1 ⟨rfl, hrd, hgr⟩
 have G1 := hide (Mem.zg9 (za G0) hgr)
 have Z1 := hide ((za Z0).grown hgr (fun e => by have := Option.some.inj e; omega))
 have R1 := hide hrd
 clear G0 R0 Z0 hrd hgr c1
 go_wp2_with fail
 refine (za c2 _ (za R1)).mono ?_
 rintro e w2 ⟨rfl, hrd, hgr⟩
 have G2 := hide (Mem.zg9 (za G1) hgr)
 have Z2 := hide ((za Z1).grown hgr (fun e => by have := Option.some.inj e; omega))
 have R2 := hide hrd
 have E2 := hide (za HE _ (za G2))
 clear G1 R1 Z1 hrd hgr c2 HE
 go_wp2_with fail
 refine (za c3 _ (za E2)).mono ?_
 rintro e w4 ⟨vt, rfl, ownT, b4⟩
 obtain ⟨ta, tc, rfl⟩ := Mem.za3 ownT
 have bA : Below w4.heap.size w4 (w4.alloc (.cells #[.slice ta L2.length tc, .int .i64 co] 62)) := (Below.refl _ _).alloc (Nat.le_refl _) _
 have bB := b4.trans (bA.mono b4.size)
 have hs2 := (za G2).size
 have hX2 : X < w2.heap.size := by omega
 have hZ2 : w.heap.size < w2.heap.size := (za Z2).lt
 have G4 := hide (Mem.zg9 (za G2) (Mem.zg1 bB _))
 have Z4 := hide ((za Z2).call bB)
 have R4 := hide (Mem.Blk.call (za R2) bB)
 have T4 := hide (Mem.zo2 ownT bA)
 have Y4 := hide (Mem.Blk.new w4 #[.slice ta L2.length tc, .int .i64 co] 62)
 have hs4 : w2.heap.size ≤ w4.heap.size := b4.size
 clear c3 G2 Z2 R2 ownT b4 bA bB E2
 go_upto_region 3 with fail
 generalize hX7 : w4.heap.size = X7 at Y4 hs4 ⊢
 generalize w4.alloc (.cells #[.slice ta L2.length tc, .int .i64 co] 62) = W4 at G4 Z4 R4 T4 Y4 ⊢
 have q0 := (za R4).cell 2
 have y0 := (za Y4).cell 0
 have y1 := (za Y4).cell 1
 simp only [kGs] at q0 y0 y1
 have hd1 : X ≠ w.heap.size := by omega
 have hd2 : X ≠ X7 := by omega
 have hd3 : w.heap.size ≠ X7 := by omega
 cases f2 with
 | some c0 =>
  simp only [za8.fv] at q0
  have HR : Hid (R = ⟨(p1, L2), a2, some c0⟩) := hide (za HIT)
  have z0 := (za Z4).cell 0
  have z1 := (za Z4).cell 1
  have zf0 := (za Z4).fr 0
  have zf1 := (za Z4).fr 1
  simp only [kGs] at z0 z1
  have G5 := hide (za8.zd8 (za8.zd8 (za G4) w.heap.size 0 (.int .i64 p1) (Nat.le_refl _)) w.heap.size 1 (.slice ta L2.length tc) (Nat.le_refl _))
  have R5 := hide (Mem.Blk.far (Mem.Blk.far (za R4) ⟨w.heap.size, 0, none⟩ (.int .i64 p1) hd1) ⟨w.heap.size, 1, none⟩ (.slice ta L2.length tc) hd1)
  have T5 := hide (Mem.za4 (Mem.za4 (za T4) ⟨w.heap.size, 0, none⟩ (.int .i64 p1) hZ2) ⟨w.heap.size, 1, none⟩ (.slice ta L2.length tc) hZ2)
  clear G4 R4 T4 Y4 Z4
  clear HIT
  go_wp2
  refine bodyPost_ret (v := .agg #[.int .i64 p1, .slice ta L2.length tc]) (by simp [results, Tryz.results32, go_sem, z0, z1]) rfl (by rw [za HR]; exact ⟨ta, tc, rfl, Mem.zb7 (za T5) (by omega), za R5, za G5⟩)
 | none =>
  simp only [za8.fv] at q0
  by_cases hco : co = 0
  ·subst hco
   have HR : Hid (R = ⟨(p1, L2), a2, none⟩) := hide (by have h := za HIT; simpa using h)
   have z0 := (za Z4).cell 0
   have z1 := (za Z4).cell 1
   have zf0 := (za Z4).fr 0
   have zf1 := (za Z4).fr 1
   simp only [kGs] at z0 z1
   have G5 := hide (za8.zd8 (za8.zd8 (za G4) w.heap.size 0 (.int .i64 p1) (Nat.le_refl _)) w.heap.size 1 (.slice ta L2.length tc) (Nat.le_refl _))
   have R5 := hide (Mem.Blk.far (Mem.Blk.far (za R4) ⟨w.heap.size, 0, none⟩ (.int .i64 p1) hd1) ⟨w.heap.size, 1, none⟩ (.slice ta L2.length tc) hd1)
   have T5 := hide (Mem.za4 (Mem.za4 (za T4) ⟨w.heap.size, 0, none⟩ (.int .i64 p1) hZ2) ⟨w.heap.size, 1, none⟩ (.slice ta L2.length tc) hZ2)
   clear G4 R4 T4 Y4 Z4
   clear HIT
   go_wp2
   refine bodyPost_ret (v := .agg #[.int .i64 p1, .slice ta L2.length tc]) (by simp [results, Tryz.results32, go_sem, z0, z1]) rfl (by rw [za HR]; exact ⟨ta, tc, rfl, Mem.zb7 (za T5) (by omega), za R5, za G5⟩)
  ·have hco2 : (co != 0) = true := by simpa using hco
   have hco3 : decide (co = 0) = false := by simpa using hco
   have hco4 : (co == 0) = false := by simpa using hco
   have HR : Hid (R = ⟨(p1, L2), a2, some co⟩) := hide (by have h := za HIT; simpa [hco] using h)
   have q2f := (za R4).fr 2
   have G5 := hide (Mem.zg9 (za G4) (za8.ze4 (w := W4) X 2 (za8.fv (some co))))
   have R5 := hide (show za8.Rd _ X s a2 (some co) from Mem.Blk.put (za R4) 2 (za8.fv (some co)))
   have Z5 := hide ((za Z4).far ⟨X, 2, none⟩ (za8.fv (some co)) (by show w.heap.size ≠ X; omega))
   have Y5 := hide ((za Y4).far ⟨X, 2, none⟩ (za8.fv (some co)) (by show X7 ≠ X; omega))
   have T5 := hide (Mem.za4 (za T4) ⟨X, 2, none⟩ (za8.fv (some co)) (by show X < _; omega))
   simp only [za8.fv] at G5 R5 Z5 Y5 T5
   go_upto_region 5 with fail
   generalize W4.setCell ⟨X, 2, none⟩ (.iface 92 (.agg #[.int .i64 co])) = W5 at G5 R5 Z5 Y5 T5 ⊢
   clear q0 y0 y1 q2f G4 R4 T4 Y4 Z4
   have y0 := (za Y5).cell 0
   have z0 := (za Z5).cell 0
   have z1 := (za Z5).cell 1
   have zf0 := (za Z5).fr 0
   have zf1 := (za Z5).fr 1
   simp only [kGs] at y0 z0 z1
   have G6 := hide (za8.zd8 (za8.zd8 (za G5) w.heap.size 0 (.int .i64 p1) (Nat.le_refl _)) w.heap.size 1 (.slice ta L2.length tc) (Nat.le_refl _))
   have R6 := hide (Mem.Blk.far (Mem.Blk.far (za R5) ⟨w.heap.size, 0, none⟩ (.int .i64 p1) hd1) ⟨w.heap.size, 1, none⟩ (.slice ta L2.length tc) hd1)
   have T6 := hide (Mem.za4 (Mem.za4 (za T5) ⟨w.heap.size, 0, none⟩ (.int .i64 p1) hZ2) ⟨w.heap.size, 1, none⟩ (.slice ta L2.length tc) hZ2)
   clear G5 R5 T5 Y5 Z5
   clear HIT
   go_wp2
   refine bodyPost_ret (v := .agg #[.int .i64 p1, .slice ta L2.length tc]) (by simp [results, Tryz.results32, go_sem, z0, z1]) rfl (by rw [za HR]; exact ⟨ta, tc, rfl, Mem.zb7 (za T6) (by omega), za R6, za G6⟩)
end WNReadI
end Go.Proofs.YtioildojmckepaaGreatDoor

