/- Several texts of one claim in one file: WReadJ, WNReadI, WNReadJ, WNestE. -/
import Derived.Test.YtfdbokipgofcdaaGreatDoorG10
import Derived.Test.YtfdbokipgofcdaaGreatDoorG11
import Derived.Test.YtfdbokipgofcdaaGreatDoorG30
import Derived.Test.YtfdbokipgofcdaaGreatDoorG13
import Derived.Deep.Cut
import Derived.Test.YtfdbokipgofcdaaGreatDoorG29
import Derived.Test.YtfdbokipgofcdaaGreatDoorG04
import Derived.Test.YtfdbokipgofcdaaGreatDoorG14
namespace Go.Proofs.YtfdbokipgofcdaaGreatDoor
open Go.RowKit
namespace WReadJ
theorem zl3 : (Tryz.prog.info? 89).map (fun i => (i.zero, i.size, i.bytes)) = some (some (.agg #[.string ⟨#[]⟩, .int .i64 0, .string ⟨#[]⟩, .int .i64 0, .int .i64 0]), 5, 56) := by kernel_rfl
theorem Ks_drew {w wr : World} {X2 X3 X4 B : Nat} {rc : Array Value} {T : TypeId} {v : Value} {L : List Pl.Nd} (h : yg9.Ks w wr X2 X3 X4 B rc T v L) : yg9.Ks w wr.drew X2 X3 X4 B rc T v L := h.call ⟨rfl, rfl, rfl, Nat.le_refl _, fun _ _ => rfl⟩
set_option linter.unusedSimpArgs false in
set_option maxRecDepth 100000 in
set_option maxHeartbeats 2000000 in
theorem zg5 (s : ByteArray) (w : World) (r1 r2 r3 : TypeId) (x1 x2 x3 : Value) (hE : ze7.Errs w r1 r2 r3 x1 x2 x3) :
  Calls Tryz.prog 67 #[.string s] w fun e w' => ∃ v, e = .returned (.agg #[v, .int .i64 (Pl.zg1 s).2]) ∧ Mem.ownN w' w.heap.size v (Pl.zg1 s).1 ∧ Below w.heap.size w w' := by
 obtain ⟨i0, hi, hz0, hz1, hz2⟩ := info_parts zl3
 by_cases h8 : 8000 < s.size
 ·have t0 : (8000 : Int) < (s.size : Int) := by omega
  rw [Pl.yl7 h8]
  have b0 : ∀ o, Below w.heap.size w (w.alloc o) := fun o => (Below.refl _ _).alloc (Nat.le_refl _) o
  clear hE
  go_enter Tryz.func67, Tryz.ntmps67
  go_wp2
  refine bodyPost_ret (v := .agg #[.slice none 0 0, .int .i64 2]) (by simp [results, Tryz.results67, go_sem]) rfl ⟨.slice none 0 0, rfl, Mem.zd2 _ _, b0 _⟩
 have t0 : ¬ (8000 : Int) < (s.size : Int) := by omega
 have h8' : s.size ≤ 8000 := by omega
 have R0 : Hid (zb5.Rd (((w.alloc (.cells #[.slice none 0 0, .int .i64 0] 42)).alloc (.cells #[.string s, .int .i64 0, .nilIface] 58)).alloc (.cells #[.slice none 0 0] 36)) (w.heap.size + 1) s 0 none) := hide (Mem.yf6 w _ _ _)
 have K0 : Hid (yg9.Ks w (((w.alloc (.cells #[.slice none 0 0, .int .i64 0] 42)).alloc (.cells #[.string s, .int .i64 0, .nilIface] 58)).alloc (.cells #[.slice none 0 0] 36)) w.heap.size (w.heap.size + 1) (w.heap.size + 1 + 1) (w.heap.size + 1 + 1 + 1) #[.string s, .int .i64 0, .nilIface] 58 (.slice none 0 0) []) :=
  hide ⟨(((Below.refl _ _).alloc (Nat.le_refl _) _).alloc (by simp) _).alloc (by simp; omega) _, by simp, ((Mem.Blk.new w _ _).alloc _).alloc _, Mem.yf6 w _ _ _, Mem.zq6 w _ _ _, Mem.zd2 _ _, by omega, by omega, by omega, by omega, by omega, by omega⟩
 have HM := hide (Pl.count_cases s)
 have hnum := hide (zb5.zo0 (w.heap.size + 1) s 0 none _ h8' (by omega) (za R0))
 generalize hMM : Pl.numR s 0 none = MM at hnum HM
 obtain ⟨mc, ma, mf⟩ := MM
 simp only at hnum HM
 clear hMM
 have HRN : Hid (Pl.zk4 s = none → Pl.zg1 s = ([], 3)) := hide (fun h => Pl.ym h8 h)
 have HRS : Hid (∀ L, Pl.zk4 s = some L → Pl.zg1 s = (L, 0)) := hide (fun L h => Pl.ye5 h8 h)
 generalize hRR : Pl.zg1 s = RR at HRN HRS ⊢
 have HE := hide (fun W (b : Below w.heap.size w W) => hE.call b)
 clear hRR hE
 go_enter Tryz.func67, Tryz.ntmps67
 go_wp2_with fail
 generalize (((w.alloc (.cells #[.slice none 0 0, .int .i64 0] 42)).alloc (.cells #[.string s, .int .i64 0, .nilIface] 58)).alloc (.cells #[.slice none 0 0] 36)) = w3 at K0 R0 hnum ⊢
 refine (za hnum).mono ?_
 rintro e w1 ⟨rfl, hrd, hgr⟩
 have K1 := hide ((za K0).read hgr hrd)
 clear hnum K0 R0 hrd hgr
 rcases za HM with ⟨c, q, hg, hc40, hq0, hqs, hme⟩ | ⟨hout, hno⟩ | ⟨code, rfl, rfl, rfl, hno⟩
 rotate_left
 ·have HNO : Hid (RR = ([], 3)) := hide (za HRN hno)
  clear HM HRN HRS hno HE
  by_cases hneg : mc < 0
  ·skip
   have z0 := (za K1).x2.cell 0
   have z1 := (za K1).x2.cell 1
   simp only [kGs] at z0 z1
   have zf0 := (za K1).x2.fr 0
   have zf1 := (za K1).x2.fr 1
   go_wp2
   refine bodyPost_ret (v := .agg #[.slice none 0 0, .int .i64 3]) (by simp [results, Tryz.results67, go_sem, z0, z1]) rfl ⟨.slice none 0 0, by rw [za HNO], by rw [za HNO]; exact Mem.zd2 _ _, ((za K1).done _ _).2⟩
  ·have hbig : 40 < mc := by omega
   have z0 := (za K1).x2.cell 0
   have z1 := (za K1).x2.cell 1
   simp only [kGs] at z0 z1
   have zf0 := (za K1).x2.fr 0
   have zf1 := (za K1).x2.fr 1
   go_wp2
   refine bodyPost_ret (v := .agg #[.slice none 0 0, .int .i64 3]) (by simp [results, Tryz.results67, go_sem, z0, z1]) rfl ⟨.slice none 0 0, by rw [za HNO], by rw [za HNO]; exact Mem.zd2 _ _, ((za K1).done _ _).2⟩
 ·have HNO : Hid (RR = ([], 3)) := hide (za HRN hno)
  clear HM HRN HRS hno
  have hend := hide (zb5.zy0 (w.heap.size + 1) s 0 (some code) w1 (za K1).x3)
  have hef : zb5.endR s 0 (some code) = false := rfl
  rw [hef] at hend
  go_wp2
  go_loopw [21] (fun i wr => i = .int .i64 0 ∧ wr = w1) (fun _ _ => 0)
  case atStart => exact ⟨rfl, rfl⟩
  case round =>
   obtain ⟨rfl, rfl⟩ := hrel
   go_wp2_with fail
   refine (za hend).mono ?_
   rintro e w5 ⟨rfl, b5⟩
   have K5 := hide ((za K1).call b5)
   clear hend b5
   have z0 := (za K5).x2.cell 0
   have z1 := (za K5).x2.cell 1
   simp only [kGs] at z0 z1
   have zf0 := (za K5).x2.fr 0
   have zf1 := (za K5).x2.fr 1
   go_wp2
   refine bodyPost_ret (v := .agg #[.slice none 0 0, .int .i64 3]) (by simp [results, Tryz.results67, go_sem, z0, z1]) rfl ⟨.slice none 0 0, by rw [za HNO], by rw [za HNO]; exact Mem.zd2 _ _, ((za K5).done _ _).2⟩
 ·obtain ⟨e1, e2, e3⟩ : mc = (c : Int) ∧ ma = (q : Int) ∧ mf = none := by simp only [Prod.mk.injEq] at hme; exact hme
  subst e1 e2 e3
  have HFN : Hid (RR = if (Pl.steps s (q : Int) c).f = none ∧ (Pl.steps s (q : Int) c).a = (s.size : Int) ∧ Pl.za2 (Pl.steps s (q : Int) c).L = true then ((Pl.steps s (q : Int) c).L, 0) else ([], 3)) := hide (by
   have h' := Pl.treeR_fin hg hc40
   by_cases hcond : (Pl.steps s (q : Int) c).f = none ∧ (Pl.steps s (q : Int) c).a = (s.size : Int) ∧ Pl.za2 (Pl.steps s (q : Int) c).L = true
   ·rw [if_pos hcond] at h' ⊢; exact za HRS _ h'
   ·rw [if_neg hcond] at h' ⊢; exact za HRN h')
  have HSM : Hid (∀ j, (Pl.steps s (q : Int) j).f = none → ∀ n ∈ (Pl.steps s (q : Int) j).L, n.path.size ≤ 1048576 ∧ n.data.size ≤ 1048576) := hide (fun j hf n hn => by
   obtain ⟨-, -, -, -, -, h⟩ := Pl.ym8 hqs j hf
   have := h n hn
   omega)
  have HBD : Hid (∀ j, (Pl.steps s (q : Int) j).a ≤ 9223372036854775807) := hide (fun j => Pl.yt5 h8' (by omega) j)
  have HST : Hid (∀ j, Pl.steps s (q : Int) (j + 1) = ⟨(Pl.steps s (q : Int) j).L ++ [(Pl.zk7 s (Pl.steps s (q : Int) j).a (Pl.steps s (q : Int) j).f).n], (Pl.zk7 s (Pl.steps s (q : Int) j).a (Pl.steps s (q : Int) j).f).a, (Pl.zk7 s (Pl.steps s (q : Int) j).a (Pl.steps s (q : Int) j).f).f⟩) := hide (fun j => rfl)
  have HZ : Hid ((Pl.steps s (q : Int) 0).L = [] ∧ (Pl.steps s (q : Int) 0).a = (q : Int) ∧ (Pl.steps s (q : Int) 0).f = none) := hide ⟨rfl, rfl, rfl⟩
  have HLN : Hid (∀ j, (Pl.steps s (q : Int) j).L.length = j) := hide (fun j => Pl.yq3 s (q : Int) j)
  generalize Pl.steps s (q : Int) = ST at HFN HSM HBD HST HZ HLN
  have v0 : ¬ (c : Int) < 0 := by omega
  have v1 : ¬ (40 : Int) < (c : Int) := by omega
  clear hme hg HM HRN HRS
  go_wp2
  go_loopw [21] (fun i wr => ∃ (j : Nat) (a : Int) (f : Option Int) (v : Value) (L : List Pl.Nd), i = .int .i64 (j : Int) ∧ j ≤ c ∧ Hid (yg9.Ks w wr w.heap.size (w.heap.size + 1) (w.heap.size + 1 + 1) (w.heap.size + 1 + 1 + 1) #[.string s, .int .i64 a, zb5.fv f] 58 v L) ∧ Hid ((ST j).L = L ∧ (ST j).a = a ∧ (ST j).f = f)) (fun i _ => c - (intOf i).toNat)
  case atStart => exact ⟨0, (q : Int), none, _, [], rfl, by omega, K1, HZ⟩
  case round =>
   obtain ⟨j, a, f, v, L, rfl, hjc, KK, HH⟩ := hrel
   clear K1 HZ
   by_cases hlt : j < c
   ·have u1 : (j : Int) < (c : Int) := by omega
    obtain ⟨h1, h2, h3⟩ := za HH
    have hab := za HBD j
    have hst := za HST j
    have hlen : L.length ≤ 40 := by rw [← h1, za HLN]; omega
    rw [h1, h2, h3] at hst
    rw [h2] at hab
    obtain ⟨⟨⟨p1, p2, p3, p4, p5⟩, a5, f5⟩, hnr⟩ : ∃ r, Pl.zk7 s a f = r := ⟨_, rfl⟩
    rw [hnr] at hst
    have hnode := hide (fun W hv => zb5.yg6 (w.heap.size + 1) s a f W h8' hab hv)
    rw [hnr] at hnode
    simp only [Pl.Nd.val] at hnode hst
    have HCASE : Hid ((ST (j + 1)).L = L ++ [⟨p1, p2, p3, p4, p5⟩] ∧ (ST (j + 1)).a = a5 ∧ (ST (j + 1)).f = f5) := hide (by rw [hst]; exact ⟨rfl, rfl, rfl⟩)
    obtain ⟨va, vc0, rfl⟩ := Mem.za1 (za KK).row
    have KC := hide (Ks_drew (za KK))
    clear hst h1 h2 h3 HH hnr hab HFN HSM HBD HST HLN KK HE
    go_wp2_with fail
    refine wp_region_held_drew (S := fun _ => True) (by kernel_rfl) ?_ (fun hHeld => ?_)
    ·trivial
    refine tka (i := 0) rfl ?_
    try simp only [Act.put, kBs]
    refine wpAnyH_ready (rs := [1, 2]) (by kernel_rfl) (by simp) ?_
    refine AllReadyH.cons rfl (fun K hK => ?_) (AllReadyH.cons rfl (fun K hK => ?_) AllReadyH.nil)
    ·have c40 := (za KC).x4.cell 0
     simp only [kGs] at c40
     go_simp
     clear c40
     refine hK.out _ _ trivial (fun _ => ?_)
     clear hK K
     try simp only [Act.put, kBs]
     refine wpAnyH_ready (rs := [2]) (by kernel_rfl) (by simp) ?_
     refine AllReadyH.cons rfl (fun K hK => ?_) AllReadyH.nil
     go_simp
     refine (za hnode _ (za KC).x3).mono ?_
     rintro e wX ⟨rfl, hrd, hgr⟩
     replace KC := hide ((za KC).read hgr hrd)
     clear hrd hgr
     refine hK.out _ _ trivial (fun _ => ?_)
     clear hK K
     try simp only [Act.put, kBs]
     refine wpAnyH_ready (rs := [3]) (by kernel_rfl) (by simp) ?_
     refine AllReadyH.cons rfl (fun K hK => ?_) AllReadyH.nil
     go_simp
     refine hK.out _ _ trivial (fun _ => ?_)
     clear hK K
     try simp only [Act.put, kBs]
     refine wpAnyH_ready (rs := [4]) (by kernel_rfl) (by simp) ?_
     refine AllReadyH.cons rfl (fun K hK => ?_) AllReadyH.nil
     refine Mem.ze1 rfl _ _ 34 rfl (w.heap.size + 1 + 1 + 1) 89 i0 _ 5 56 Tryz.underlying34 hi hz0 hz1 hz2 rfl (by decide) (.slice va L.length vc0) L.length (Pl.zc5 L) rfl (Mem.zd1 (za KC).row (.cells #[.string p1, .int .i64 p2, .string p3, .int .i64 p4, .int .i64 p5] 89)) ⟨wX.heap.size, 0, none⟩ 1 1 [.string p1, .int .i64 p2, .string p3, .int .i64 p4, .int .i64 p5] rfl rfl (Mem.zl4 wX ⟨p1, p2, p3, p4, p5⟩ _) (Mem.zk2 ⟨p1, p2, p3, p4, p5⟩) (by unfold maxLen; omega) (by omega) (by have := (za KC).big; simp; omega) ?_
     intro v' w4 own' hgrow
     have M4 := (za KC).mid (o := .cells #[.string p1, .int .i64 p2, .string p3, .int .i64 p4, .int .i64 p5] 89) hgrow
     have K3 := hide ((za KC).put (n := ⟨p1, p2, p3, p4, p5⟩) (o := .cells #[.string p1, .int .i64 p2, .string p3, .int .i64 p4, .int .i64 p5] 89) own' hgrow)
     obtain ⟨vb, vc, rfl⟩ := Mem.za1 own'
     have m0 := M4.cell 0
     have m1 := M4.fr 0
     simp only [kGs] at m0
     clear M4 own' hgrow KC
     refine hK.out _ _ trivial (fun _ => ?_)
     clear hK K
     try simp only [Act.put, kBs]
     refine tka (i := 5) rfl ?_
     try simp only [Act.put, kBs]
     refine wpAnyH_ready (rs := [6]) (by kernel_rfl) (by simp) ?_
     refine AllReadyH.cons rfl (fun K hK => ?_) AllReadyH.nil
     go_simp
     refine hK.out _ _ trivial (fun _ => ?_)
     clear hK K
     try simp only [Act.put, kBs]
     refine wpAnyH_done (by kernel_rfl) ?_ _
     have HC2 := hide (za HCASE)
     clear m0 m1 HCASE hnode
     go_wp2
     go_roundw
     case rel => exact ⟨j + 1, a5, f5, _, _, by go_num, by omega, K3, za HC2⟩
     case measure => simp [intOf]; omega
    ·go_simp
     refine (za hnode _ (za KC).x3).mono ?_
     rintro e wX ⟨rfl, hrd, hgr⟩
     replace KC := hide ((za KC).read hgr hrd)
     clear hrd hgr
     refine hK.out _ _ trivial (fun _ => ?_)
     clear hK K
     try simp only [Act.put, kBs]
     refine wpAnyH_ready (rs := [1, 3]) (by kernel_rfl) (by simp) ?_
     refine AllReadyH.cons rfl (fun K hK => ?_) (AllReadyH.cons rfl (fun K hK => ?_) AllReadyH.nil)
     ·have c40 := (za KC).x4.cell 0
      simp only [kGs] at c40
      go_simp
      clear c40
      refine hK.out _ _ trivial (fun _ => ?_)
      clear hK K
      try simp only [Act.put, kBs]
      refine wpAnyH_ready (rs := [3]) (by kernel_rfl) (by simp) ?_
      refine AllReadyH.cons rfl (fun K hK => ?_) AllReadyH.nil
      go_simp
      refine hK.out _ _ trivial (fun _ => ?_)
      clear hK K
      try simp only [Act.put, kBs]
      refine wpAnyH_ready (rs := [4]) (by kernel_rfl) (by simp) ?_
      refine AllReadyH.cons rfl (fun K hK => ?_) AllReadyH.nil
      refine Mem.ze1 rfl _ _ 34 rfl (w.heap.size + 1 + 1 + 1) 89 i0 _ 5 56 Tryz.underlying34 hi hz0 hz1 hz2 rfl (by decide) (.slice va L.length vc0) L.length (Pl.zc5 L) rfl (Mem.zd1 (za KC).row (.cells #[.string p1, .int .i64 p2, .string p3, .int .i64 p4, .int .i64 p5] 89)) ⟨wX.heap.size, 0, none⟩ 1 1 [.string p1, .int .i64 p2, .string p3, .int .i64 p4, .int .i64 p5] rfl rfl (Mem.zl4 wX ⟨p1, p2, p3, p4, p5⟩ _) (Mem.zk2 ⟨p1, p2, p3, p4, p5⟩) (by unfold maxLen; omega) (by omega) (by have := (za KC).big; simp; omega) ?_
      intro v' w4 own' hgrow
      have M4 := (za KC).mid (o := .cells #[.string p1, .int .i64 p2, .string p3, .int .i64 p4, .int .i64 p5] 89) hgrow
      have K3 := hide ((za KC).put (n := ⟨p1, p2, p3, p4, p5⟩) (o := .cells #[.string p1, .int .i64 p2, .string p3, .int .i64 p4, .int .i64 p5] 89) own' hgrow)
      obtain ⟨vb, vc, rfl⟩ := Mem.za1 own'
      have m0 := M4.cell 0
      have m1 := M4.fr 0
      simp only [kGs] at m0
      clear M4 own' hgrow KC
      refine hK.out _ _ trivial (fun _ => ?_)
      clear hK K
      try simp only [Act.put, kBs]
      refine tka (i := 5) rfl ?_
      try simp only [Act.put, kBs]
      refine wpAnyH_ready (rs := [6]) (by kernel_rfl) (by simp) ?_
      refine AllReadyH.cons rfl (fun K hK => ?_) AllReadyH.nil
      go_simp
      refine hK.out _ _ trivial (fun _ => ?_)
      clear hK K
      try simp only [Act.put, kBs]
      refine wpAnyH_done (by kernel_rfl) ?_ _
      have HC2 := hide (za HCASE)
      clear m0 m1 HCASE hnode
      go_wp2
      go_roundw
      case rel => exact ⟨j + 1, a5, f5, _, _, by go_num, by omega, K3, za HC2⟩
      case measure => simp [intOf]; omega
     ·go_simp
      refine hK.out _ _ trivial (fun _ => ?_)
      clear hK K
      try simp only [Act.put, kBs]
      refine wpAnyH_ready (rs := [1]) (by kernel_rfl) (by simp) ?_
      refine AllReadyH.cons rfl (fun K hK => ?_) AllReadyH.nil
      have c40 := ((za KC).x4.alloc (.cells #[.string p1, .int .i64 p2, .string p3, .int .i64 p4, .int .i64 p5] 89)).cell 0
      simp only [kGs] at c40
      go_simp
      clear c40
      refine hK.out _ _ trivial (fun _ => ?_)
      clear hK K
      try simp only [Act.put, kBs]
      refine wpAnyH_ready (rs := [4]) (by kernel_rfl) (by simp) ?_
      refine AllReadyH.cons rfl (fun K hK => ?_) AllReadyH.nil
      refine Mem.ze1 rfl _ _ 34 rfl (w.heap.size + 1 + 1 + 1) 89 i0 _ 5 56 Tryz.underlying34 hi hz0 hz1 hz2 rfl (by decide) (.slice va L.length vc0) L.length (Pl.zc5 L) rfl (Mem.zd1 (za KC).row (.cells #[.string p1, .int .i64 p2, .string p3, .int .i64 p4, .int .i64 p5] 89)) ⟨wX.heap.size, 0, none⟩ 1 1 [.string p1, .int .i64 p2, .string p3, .int .i64 p4, .int .i64 p5] rfl rfl (Mem.zl4 wX ⟨p1, p2, p3, p4, p5⟩ _) (Mem.zk2 ⟨p1, p2, p3, p4, p5⟩) (by unfold maxLen; omega) (by omega) (by have := (za KC).big; simp; omega) ?_
      intro v' w4 own' hgrow
      have M4 := (za KC).mid (o := .cells #[.string p1, .int .i64 p2, .string p3, .int .i64 p4, .int .i64 p5] 89) hgrow
      have K3 := hide ((za KC).put (n := ⟨p1, p2, p3, p4, p5⟩) (o := .cells #[.string p1, .int .i64 p2, .string p3, .int .i64 p4, .int .i64 p5] 89) own' hgrow)
      obtain ⟨vb, vc, rfl⟩ := Mem.za1 own'
      have m0 := M4.cell 0
      have m1 := M4.fr 0
      simp only [kGs] at m0
      clear M4 own' hgrow KC
      refine hK.out _ _ trivial (fun _ => ?_)
      clear hK K
      try simp only [Act.put, kBs]
      refine tka (i := 5) rfl ?_
      try simp only [Act.put, kBs]
      refine wpAnyH_ready (rs := [6]) (by kernel_rfl) (by simp) ?_
      refine AllReadyH.cons rfl (fun K hK => ?_) AllReadyH.nil
      go_simp
      refine hK.out _ _ trivial (fun _ => ?_)
      clear hK K
      try simp only [Act.put, kBs]
      refine wpAnyH_done (by kernel_rfl) ?_ _
      have HC2 := hide (za HCASE)
      clear m0 m1 HCASE hnode
      go_wp2
      go_roundw
      case rel => exact ⟨j + 1, a5, f5, _, _, by go_num, by omega, K3, za HC2⟩
      case measure => simp [intOf]; omega
   ·have u1 : ¬ (j : Int) < (c : Int) := by omega
    obtain rfl : j = c := by omega
    obtain ⟨h1, h2, h3⟩ := za HH
    obtain ⟨va, vc, rfl⟩ := Mem.za1 (za KK).row
    have hll : L.length ≤ 1048576 := by rw [← h1, za HLN]; omega
    have hend := hide (zb5.zy0 (w.heap.size + 1) s a f wr (za KK).x3)
    have HF2 := za HFN
    rw [h1, h2, h3] at HF2
    cases hen : zb5.endR s a f with
    | false =>
     have HNO : Hid (RR = ([], 3)) := hide (by
      rw [HF2, if_neg]
      rintro ⟨g1, g2, -⟩
      rw [g1, g2] at hen
      simp [zb5.endR] at hen)
     rw [hen] at hend
     clear HF2 HH h1 h2 h3 HFN HSM HBD HST HLN HE hen
     go_wp2_with fail
     refine (za hend).mono ?_
     rintro e w5 ⟨rfl, b5⟩
     have K5 := hide ((za KK).call b5)
     clear hend b5 KK
     have z0 := (za K5).x2.cell 0
     have z1 := (za K5).x2.cell 1
     simp only [kGs] at z0 z1
     have zf0 := (za K5).x2.fr 0
     have zf1 := (za K5).x2.fr 1
     go_wp2
     refine bodyPost_ret (v := .agg #[.slice none 0 0, .int .i64 3]) (by simp [results, Tryz.results67, go_sem, z0, z1]) rfl ⟨.slice none 0 0, by rw [za HNO], by rw [za HNO]; exact Mem.zd2 _ _, ((za K5).done _ _).2⟩
    | true =>
     obtain ⟨g1, g2⟩ : f = none ∧ a = (s.size : Int) := by
      simp only [zb5.endR, Bool.and_eq_true, decide_eq_true_eq, Option.isNone_iff_eq_none] at hen
      exact hen
     rw [hen] at hend
     have hok : ∀ n ∈ L, n.path.size ≤ 1048576 ∧ n.data.size ≤ 1048576 := by rw [← h1]; exact za HSM _ (by rw [h3, g1])
     have htr := hide (fun W (b : Below wr.heap.size wr W) => ze7.yd5 va vc L W hll (Mem.za8 (Mem.zr4 (za KK).row).2 b) hok _ _ _ _ _ _ (za HE W ((za KK).bel.trans (b.mono (za KK).bel.size))))
     have HF3 : Hid (RR = if Pl.za2 L = true then (L, 0) else ([], 3)) := hide (by
      rw [HF2]
      by_cases ht : Pl.za2 L = true
      ·rw [if_pos ⟨g1, g2, ht⟩, if_pos ht]
      ·rw [if_neg (fun h => ht h.2.2), if_neg ht])
     generalize Pl.za2 L = TB at htr HF3
     clear HF2 HH h1 h2 h3 HFN HSM HBD HST HLN HE hen g1 g2 hok
     go_wp2_with fail
     refine (za hend).mono ?_
     rintro e w5 ⟨rfl, b5⟩
     have K5 := hide ((za KK).call b5)
     have c40 := (za K5).x4.cell 0
     simp only [kGs] at c40
     have htr2 := hide (za htr w5 b5)
     clear hend b5 KK htr
     go_wp2_with fail
     refine (za htr2).mono ?_
     rintro e w6 ⟨rfl, b6⟩
     have K6 := hide ((za K5).call b6)
     clear htr2 b6 K5 c40
     cases TB
     ·have HNO : Hid (RR = ([], 3)) := hide (za HF3)
      clear HF3
      have z0 := (za K6).x2.cell 0
      have z1 := (za K6).x2.cell 1
      simp only [kGs] at z0 z1
      have zf0 := (za K6).x2.fr 0
      have zf1 := (za K6).x2.fr 1
      go_wp2
      refine bodyPost_ret (v := .agg #[.slice none 0 0, .int .i64 3]) (by simp [results, Tryz.results67, go_sem, z0, z1]) rfl ⟨.slice none 0 0, by rw [za HNO], by rw [za HNO]; exact Mem.zd2 _ _, ((za K6).done _ _).2⟩
     ·have HYE : Hid (RR = (L, 0)) := hide (za HF3)
      have c40 := (za K6).x4.cell 0
      simp only [kGs] at c40
      have z0 := (za K6).x2.cell 0
      have z1 := (za K6).x2.cell 1
      simp only [kGs] at z0 z1
      have zf0 := (za K6).x2.fr 0
      have zf1 := (za K6).x2.fr 1
      go_wp2
      refine bodyPost_ret (v := .agg #[.slice va L.length vc, .int .i64 0]) (by simp [results, Tryz.results67, go_sem, z0, z1]) rfl ⟨.slice va L.length vc, by rw [za HYE], by rw [za HYE]; exact ((za K6).done _ _).1, ((za K6).done _ _).2⟩
end WReadJ
end Go.Proofs.YtfdbokipgofcdaaGreatDoor

namespace Go.Proofs.YtfdbokipgofcdaaGreatDoor
open Go.RowKit
namespace WNReadI
def Got (w w' : World) (X : Nat) (s : ByteArray) (r : Pl.Im) (e : Ending) : Prop := ∃ ta tc, e = .returned (.agg #[.int .i64 r.n.1, .slice ta r.n.2.length tc]) ∧ Mem.ownN w' w.heap.size (.slice ta r.n.2.length tc) r.n.2 ∧ zb5.Rd w' X s r.a r.f ∧ w.grownBy w' (some X)
set_option linter.unusedSimpArgs false in
set_option maxRecDepth 100000 in
set_option maxHeartbeats 2000000 in
theorem zw1 (X : Nat) (s : ByteArray) (a : Int) (f : Option Int) (w : World) (h8 : s.size ≤ 8000) (ha : a ≤ 9223372036854775807) (hv : zb5.Rd w X s a f) (r1 r2 r3 : TypeId) (x1 x2 x3 : Value) (hE : ∀ W, w.grownBy W (some X) → ze7.Errs W r1 r2 r3 x1 x2 x3) :
  Calls Tryz.prog 40 #[.pointer (some ⟨X, 0, none⟩)] w fun e w' => Got w w' X s (Pl.zi3 s a f) e := by
 have hX : X < w.heap.size := hv.lt
 have HIT : Hid (Pl.zi3 s a f = ⟨((Pl.numR s a f).1, (Pl.zg1 (Pl.strR s (Pl.numR s a f).2.1 (Pl.numR s a f).2.2).1).1), (Pl.strR s (Pl.numR s a f).2.1 (Pl.numR s a f).2.2).2.1, (match (Pl.strR s (Pl.numR s a f).2.1 (Pl.numR s a f).2.2).2.2 with | none => if (Pl.zg1 (Pl.strR s (Pl.numR s a f).2.1 (Pl.numR s a f).2.2).1).2 = 0 then none else some (Pl.zg1 (Pl.strR s (Pl.numR s a f).2.1 (Pl.numR s a f).2.2).1).2 | some c => some c)⟩) := hide rfl
 generalize Pl.zi3 s a f = R at HIT ⊢
 have c1 := hide (fun W h => zb5.zo0 X s a f W h8 ha h)
 have z1 : (Pl.numR s a f).2.1 ≤ 9223372036854775807 := Pl.zx3 h8 ha
 obtain ⟨⟨p1, a1, f1⟩, hr1⟩ : ∃ r, Pl.numR s a f = r := ⟨_, rfl⟩
 rw [hr1] at c1 z1 HIT
 simp only at c1 z1 HIT
 have c2 := hide (fun W h => zb5.str_any X s a1 f1 W h8 z1 h)
 obtain ⟨⟨p2, a2, f2⟩, hr2⟩ : ∃ r, Pl.strR s a1 f1 = r := ⟨_, rfl⟩
 rw [hr2] at c2 HIT
 simp only at c2 HIT
 have c3 := hide (fun W h => WReadJ.zg5 p2 W r1 r2 r3 x1 x2 x3 h)
 obtain ⟨⟨L2, co⟩, hr3⟩ : ∃ r, Pl.zg1 p2 = r := ⟨_, rfl⟩
 rw [hr3] at c3 HIT
 simp only at c3 HIT
 have HE := hide hE
 have b0 : Below w.heap.size w (w.alloc (.cells #[.int .i64 0, .slice none 0 0] 38)) := (Below.refl _ _).alloc (Nat.le_refl _) _
 have G0 := hide (Mem.zd8 b0 (some X))
 have R0 := hide (Mem.Blk.call hv b0)
 have Z0 := hide (Mem.Blk.new w #[.int .i64 0, .slice none 0 0] 38)
 clear hv ha hr1 hr2 hr3 hE b0 z1
 go_enter Tryz.func40, Tryz.ntmps40
 go_wp2_with fail
 refine (za c1 _ (za R0)).mono ?_
 rintro e w1 ⟨rfl, hrd, hgr⟩
 have G1 := hide (Mem.zj5 (za G0) hgr)
 have Z1 := hide ((za Z0).grown hgr (fun e => by have := Option.some.inj e; omega))
 have R1 := hide hrd
 clear G0 R0 Z0 hrd hgr c1
 go_wp2_with fail
 refine (za c2 _ (za R1)).mono ?_
 rintro e w2 ⟨rfl, hrd, hgr⟩
 have G2 := hide (Mem.zj5 (za G1) hgr)
 have Z2 := hide ((za Z1).grown hgr (fun e => by have := Option.some.inj e; omega))
 have R2 := hide hrd
 have E2 := hide (za HE _ (za G2))
 clear G1 R1 Z1 hrd hgr c2 HE
 go_wp2_with fail
 refine (za c3 _ (za E2)).mono ?_
 rintro e w4 ⟨vt, rfl, ownT, b4⟩
 obtain ⟨ta, tc, rfl⟩ := Mem.za1 ownT
 have bA : Below w4.heap.size w4 (w4.alloc (.cells #[.slice ta L2.length tc, .int .i64 co] 42)) := (Below.refl _ _).alloc (Nat.le_refl _) _
 have bB := b4.trans (bA.mono b4.size)
 have hs2 := (za G2).size
 have hX2 : X < w2.heap.size := by omega
 have hZ2 : w.heap.size < w2.heap.size := (za Z2).lt
 have G4 := hide (Mem.zj5 (za G2) (Mem.zd8 bB _))
 have Z4 := hide ((za Z2).call bB)
 have R4 := hide (Mem.Blk.call (za R2) bB)
 have T4 := hide (Mem.zl1 ownT bA)
 have Y4 := hide (Mem.Blk.new w4 #[.slice ta L2.length tc, .int .i64 co] 42)
 have hs4 : w2.heap.size ≤ w4.heap.size := b4.size
 clear c3 G2 Z2 R2 ownT b4 bA bB E2
 go_upto_region 3 with fail
 generalize hX7 : w4.heap.size = X7 at Y4 hs4 ⊢
 generalize w4.alloc (.cells #[.slice ta L2.length tc, .int .i64 co] 42) = W4 at G4 Z4 R4 T4 Y4 ⊢
 have q0 := (za R4).cell 2
 have y0 := (za Y4).cell 0
 have y1 := (za Y4).cell 1
 simp only [kGs] at q0 y0 y1
 have hd1 : X ≠ w.heap.size := by omega
 have hd2 : X ≠ X7 := by omega
 have hd3 : w.heap.size ≠ X7 := by omega
 cases f2 with
 | some c0 =>
  simp only [zb5.fv] at q0
  have HR : Hid (R = ⟨(p1, L2), a2, some c0⟩) := hide (za HIT)
  have z0 := (za Z4).cell 0
  have z1 := (za Z4).cell 1
  have zf0 := (za Z4).fr 0
  have zf1 := (za Z4).fr 1
  simp only [kGs] at z0 z1
  have G5 := hide (zb5.zf6 (zb5.zf6 (za G4) w.heap.size 0 (.int .i64 p1) (Nat.le_refl _)) w.heap.size 1 (.slice ta L2.length tc) (Nat.le_refl _))
  have R5 := hide (Mem.Blk.far (Mem.Blk.far (za R4) ⟨w.heap.size, 0, none⟩ (.int .i64 p1) hd1) ⟨w.heap.size, 1, none⟩ (.slice ta L2.length tc) hd1)
  have T5 := hide (Mem.za7 (Mem.za7 (za T4) ⟨w.heap.size, 0, none⟩ (.int .i64 p1) hZ2) ⟨w.heap.size, 1, none⟩ (.slice ta L2.length tc) hZ2)
  clear G4 R4 T4 Y4 Z4
  clear HIT
  go_wp2
  refine bodyPost_ret (v := .agg #[.int .i64 p1, .slice ta L2.length tc]) (by simp [results, Tryz.results40, go_sem, z0, z1]) rfl (by rw [za HR]; exact ⟨ta, tc, rfl, Mem.zb4 (za T5) (by omega), za R5, za G5⟩)
 | none =>
  simp only [zb5.fv] at q0
  by_cases hco : co = 0
  ·subst hco
   have HR : Hid (R = ⟨(p1, L2), a2, none⟩) := hide (by have h := za HIT; simpa using h)
   have z0 := (za Z4).cell 0
   have z1 := (za Z4).cell 1
   have zf0 := (za Z4).fr 0
   have zf1 := (za Z4).fr 1
   simp only [kGs] at z0 z1
   have G5 := hide (zb5.zf6 (zb5.zf6 (za G4) w.heap.size 0 (.int .i64 p1) (Nat.le_refl _)) w.heap.size 1 (.slice ta L2.length tc) (Nat.le_refl _))
   have R5 := hide (Mem.Blk.far (Mem.Blk.far (za R4) ⟨w.heap.size, 0, none⟩ (.int .i64 p1) hd1) ⟨w.heap.size, 1, none⟩ (.slice ta L2.length tc) hd1)
   have T5 := hide (Mem.za7 (Mem.za7 (za T4) ⟨w.heap.size, 0, none⟩ (.int .i64 p1) hZ2) ⟨w.heap.size, 1, none⟩ (.slice ta L2.length tc) hZ2)
   clear G4 R4 T4 Y4 Z4
   clear HIT
   go_wp2
   refine bodyPost_ret (v := .agg #[.int .i64 p1, .slice ta L2.length tc]) (by simp [results, Tryz.results40, go_sem, z0, z1]) rfl (by rw [za HR]; exact ⟨ta, tc, rfl, Mem.zb4 (za T5) (by omega), za R5, za G5⟩)
  ·have hco2 : (co != 0) = true := by simpa using hco
   have hco3 : decide (co = 0) = false := by simpa using hco
   have hco4 : (co == 0) = false := by simpa using hco
   have HR : Hid (R = ⟨(p1, L2), a2, some co⟩) := hide (by have h := za HIT; simpa [hco] using h)
   have q2f := (za R4).fr 2
   have G5 := hide (Mem.zj5 (za G4) (zb5.zb3 (w := W4) X 2 (zb5.fv (some co))))
   have R5 := hide (show zb5.Rd _ X s a2 (some co) from Mem.Blk.put (za R4) 2 (zb5.fv (some co)))
   have Z5 := hide ((za Z4).far ⟨X, 2, none⟩ (zb5.fv (some co)) (by show w.heap.size ≠ X; omega))
   have Y5 := hide ((za Y4).far ⟨X, 2, none⟩ (zb5.fv (some co)) (by show X7 ≠ X; omega))
   have T5 := hide (Mem.za7 (za T4) ⟨X, 2, none⟩ (zb5.fv (some co)) (by show X < _; omega))
   simp only [zb5.fv] at G5 R5 Z5 Y5 T5
   go_upto_region 5 with fail
   generalize W4.setCell ⟨X, 2, none⟩ (.iface 101 (.agg #[.int .i64 co])) = W5 at G5 R5 Z5 Y5 T5 ⊢
   clear q0 y0 y1 q2f G4 R4 T4 Y4 Z4
   have y0 := (za Y5).cell 0
   have z0 := (za Z5).cell 0
   have z1 := (za Z5).cell 1
   have zf0 := (za Z5).fr 0
   have zf1 := (za Z5).fr 1
   simp only [kGs] at y0 z0 z1
   have G6 := hide (zb5.zf6 (zb5.zf6 (za G5) w.heap.size 0 (.int .i64 p1) (Nat.le_refl _)) w.heap.size 1 (.slice ta L2.length tc) (Nat.le_refl _))
   have R6 := hide (Mem.Blk.far (Mem.Blk.far (za R5) ⟨w.heap.size, 0, none⟩ (.int .i64 p1) hd1) ⟨w.heap.size, 1, none⟩ (.slice ta L2.length tc) hd1)
   have T6 := hide (Mem.za7 (Mem.za7 (za T5) ⟨w.heap.size, 0, none⟩ (.int .i64 p1) hZ2) ⟨w.heap.size, 1, none⟩ (.slice ta L2.length tc) hZ2)
   clear G5 R5 T5 Y5 Z5
   clear HIT
   go_wp2
   refine bodyPost_ret (v := .agg #[.int .i64 p1, .slice ta L2.length tc]) (by simp [results, Tryz.results40, go_sem, z0, z1]) rfl (by rw [za HR]; exact ⟨ta, tc, rfl, Mem.zb4 (za T6) (by omega), za R6, za G6⟩)
end WNReadI
end Go.Proofs.YtfdbokipgofcdaaGreatDoor

namespace Go.Proofs.YtfdbokipgofcdaaGreatDoor
open Go.RowKit
namespace WNReadJ
theorem errs3 {w : World} {r0 r1 r2 r3 : TypeId} {x0 x1 x2 x3 : Value} (h : zc0.zq3 w r0 r1 r2 r3 x0 x1 x2 x3) : ze7.Errs w r1 r2 r3 x1 x2 x3 := h.three
set_option linter.unusedSimpArgs false in
set_option maxRecDepth 100000 in
set_option maxHeartbeats 2000000 in
theorem zg5 (s : ByteArray) (w : World) (r0 r1 r2 r3 : TypeId) (x0 x1 x2 x3 : Value) (hE : zc0.zq3 w r0 r1 r2 r3 x0 x1 x2 x3) :
  Calls Tryz.prog 8 #[.string s] w fun e w' => zg8.Outs w w' (Pl.zg4 s).2 (Pl.zg4 s).1 e ∧ Below w.heap.size w w' := by
 obtain ⟨i0, hi, hz0, hz1, hz2⟩ := info_parts zg8.zu5
 by_cases h8 : 8000 < s.size
 ·have t0 : (8000 : Int) < (s.size : Int) := by omega
  have e0 : Pl.zg4 s = ([], 2) := if_pos h8
  rw [e0]
  have b0 : ∀ o, Below w.heap.size w (w.alloc o) := fun o => (Below.refl _ _).alloc (Nat.le_refl _) o
  clear e0 hE
  go_enter Tryz.func8, Tryz.ntmps8
  go_wp2
  refine bodyPost_ret (v := .agg #[.slice none 0 0, .int .i64 2]) (by simp [results, Tryz.results8, go_sem]) rfl ⟨⟨.slice none 0 0, [], rfl, Mem.Io.nil _ _, rfl⟩, b0 _⟩
 have t0 : ¬ (8000 : Int) < (s.size : Int) := by omega
 have h8' : s.size ≤ 8000 := by omega
 have R0 : Hid (zb5.Rd ((w.alloc (.cells #[.slice none 0 0, .int .i64 0] 28)).alloc (.cells #[.string s, .int .i64 0, .nilIface] 58)) (w.heap.size + 1) s 0 none) := hide (by
  have h := Mem.Blk.new (w.alloc (.cells #[.slice none 0 0, .int .i64 0] 28)) #[.string s, .int .i64 0, .nilIface] 58
  show Mem.Blk _ _ #[.string s, .int .i64 0, .nilIface] 58
  simpa using h)
 have K0 : Hid (zg8.Nk w ((w.alloc (.cells #[.slice none 0 0, .int .i64 0] 28)).alloc (.cells #[.string s, .int .i64 0, .nilIface] 58)) w.heap.size (w.heap.size + 1) (w.heap.size + 1 + 1) #[.string s, .int .i64 0, .nilIface] 58 (.slice none 0 0) []) :=
  hide ⟨((Below.refl _ _).alloc (Nat.le_refl _) _).alloc (by simp) _, by simp, (Mem.Blk.new w _ _).alloc _, za R0, Mem.Io.nil _ _, by omega, by omega, by omega⟩
 have HM := hide (Pl.countN_cases s)
 have hnum := hide (zb5.zo0 (w.heap.size + 1) s 0 none _ h8' (by omega) (za R0))
 generalize hMM : Pl.numR s 0 none = MM at hnum HM
 obtain ⟨mc, ma, mf⟩ := MM
 simp only at hnum HM
 clear hMM
 have HRN : Hid (Pl.zl s = none → Pl.zg4 s = ([], 3)) := hide (fun h => by unfold Pl.zg4; rw [if_neg h8, h])
 have HRS : Hid (∀ L, Pl.zl s = some L → Pl.zg4 s = (L, 0)) := hide (fun L h => by unfold Pl.zg4; rw [if_neg h8, h])
 generalize hRR : Pl.zg4 s = RR at HRN HRS ⊢
 have HE := hide (fun W (b : Below w.heap.size w W) => hE.call b)
 have HNEG : Hid (mc < 0 → Pl.zl s = none) := hide (by
  intro hneg
  rcases za HM with ⟨c, q, -, -, -, -, h⟩ | ⟨-, h⟩ | ⟨-, -, -, -, h⟩
  ·simp only [Prod.mk.injEq] at h; omega
  ·exact h
  ·exact h)
 clear hRR hE
 go_enter Tryz.func8, Tryz.ntmps8
 go_wp2_with fail
 generalize ((w.alloc (.cells #[.slice none 0 0, .int .i64 0] 28)).alloc (.cells #[.string s, .int .i64 0, .nilIface] 58)) = w3 at K0 R0 hnum ⊢
 refine (za hnum).mono ?_
 rintro e w1 ⟨rfl, hrd, hgr⟩
 have K1 := hide ((za K0).read hgr hrd)
 clear hnum K0 R0 hrd hgr
 by_cases hneg : mc < 0
 ·have HNO : Hid (RR = ([], 3)) := hide (za HRN (za HNEG hneg))
  clear HM HRN HRS HNEG
  have u0 : ¬ (12 : Int) < mc := by omega
  have u1 : ¬ (0 : Int) < mc := by omega
  have hend := hide (zb5.zy0 (w.heap.size + 1) s ma mf w1 (za K1).x3)
  have hrt := hide (fun W (b : Below w.heap.size w W) => zc0.zf4 none 0 [] W (by simp) (by simp) (Mem.yj0 _ _) (fun x hx => (by cases hx)) _ _ _ _ _ _ _ _ (za HE W b))
  have hn0 : (Pl.nest (Pl.rowO (([] : List Pl.It).map Pl.It.r))).isSome = false := rfl
  rw [hn0] at hrt
  generalize zb5.endR s ma mf = EE at hend
  go_wp2
  go_loopw [5, 17] (fun n i wr => n = .slice none 0 0 ∧ i = .int .i64 0 ∧ wr = w1) (fun _ _ _ => 0)
  case atStart => exact ⟨rfl, rfl, rfl⟩
  case round =>
   obtain ⟨rfl, rfl, rfl⟩ := hrel
   go_wp2_with fail
   refine (za hend).mono ?_
   rintro e w5 ⟨rfl, b5⟩
   have K5 := hide ((za K1).call b5)
   have hrt2 := hide (za hrt w5 (za K5).bel)
   clear hend b5 K1 hrt
   cases EE
   ·skip
    have z0 := (za K5).x2.cell 0
    have z1 := (za K5).x2.cell 1
    simp only [kGs] at z0 z1
    have zf0 := (za K5).x2.fr 0
    have zf1 := (za K5).x2.fr 1
    go_wp2
    refine bodyPost_ret (v := .agg #[.slice none 0 0, .int .i64 3]) (by simp [results, Tryz.results8, go_sem, z0, z1]) rfl ⟨⟨.slice none 0 0, [], by rw [za HNO], Mem.Io.nil _ _, by rw [za HNO]; rfl⟩, ((za K5).done _ _).2⟩
   ·go_wp2_with fail
    refine (za hrt2).mono ?_
    rintro e w6 ⟨rfl, b6⟩
    have K6 := hide ((za K5).call b6)
    clear hrt2 K5 b6
    have z0 := (za K6).x2.cell 0
    have z1 := (za K6).x2.cell 1
    simp only [kGs] at z0 z1
    have zf0 := (za K6).x2.fr 0
    have zf1 := (za K6).x2.fr 1
    go_wp2
    refine bodyPost_ret (v := .agg #[.slice none 0 0, .int .i64 3]) (by simp [results, Tryz.results8, go_sem, z0, z1]) rfl ⟨⟨.slice none 0 0, [], by rw [za HNO], Mem.Io.nil _ _, by rw [za HNO]; rfl⟩, ((za K6).done _ _).2⟩
 clear HNEG
 rcases za HM with ⟨c, q, hg, hc12, hq0, hqs, hme⟩ | ⟨hout, hno⟩ | ⟨code, rfl, rfl, rfl, hno⟩
 rotate_left
 ·have HNO : Hid (RR = ([], 3)) := hide (za HRN hno)
  clear HM HRN HRS hno HE
  have hbig : 12 < mc := by omega
  have z0 := (za K1).x2.cell 0
  have z1 := (za K1).x2.cell 1
  simp only [kGs] at z0 z1
  have zf0 := (za K1).x2.fr 0
  have zf1 := (za K1).x2.fr 1
  go_wp2
  refine bodyPost_ret (v := .agg #[.slice none 0 0, .int .i64 3]) (by simp [results, Tryz.results8, go_sem, z0, z1]) rfl ⟨⟨.slice none 0 0, [], by rw [za HNO], Mem.Io.nil _ _, by rw [za HNO]; rfl⟩, ((za K1).done _ _).2⟩
 ·have HNO : Hid (RR = ([], 3)) := hide (za HRN hno)
  clear HM HRN HRS hno hneg
  have hend := hide (zb5.zy0 (w.heap.size + 1) s 0 (some code) w1 (za K1).x3)
  have hef : zb5.endR s 0 (some code) = false := rfl
  rw [hef] at hend
  go_wp2
  go_loopw [5, 17] (fun n i wr => n = .slice none 0 0 ∧ i = .int .i64 0 ∧ wr = w1) (fun _ _ _ => 0)
  case atStart => exact ⟨rfl, rfl, rfl⟩
  case round =>
   obtain ⟨rfl, rfl, rfl⟩ := hrel
   go_wp2_with fail
   refine (za hend).mono ?_
   rintro e w5 ⟨rfl, b5⟩
   have K5 := hide ((za K1).call b5)
   clear hend b5
   have z0 := (za K5).x2.cell 0
   have z1 := (za K5).x2.cell 1
   simp only [kGs] at z0 z1
   have zf0 := (za K5).x2.fr 0
   have zf1 := (za K5).x2.fr 1
   go_wp2
   refine bodyPost_ret (v := .agg #[.slice none 0 0, .int .i64 3]) (by simp [results, Tryz.results8, go_sem, z0, z1]) rfl ⟨⟨.slice none 0 0, [], by rw [za HNO], Mem.Io.nil _ _, by rw [za HNO]; rfl⟩, ((za K5).done _ _).2⟩
 ·obtain ⟨e1, e2, e3⟩ : mc = (c : Int) ∧ ma = (q : Int) ∧ mf = none := by simp only [Prod.mk.injEq] at hme; exact hme
  subst e1 e2 e3
  have HFN : Hid (RR = if (Pl.za3 s (q : Int) c).f = none ∧ (Pl.za3 s (q : Int) c).a = (s.size : Int) ∧ (Pl.nest (Pl.rowO (Pl.za3 s (q : Int) c).L)).isSome = true then ((Pl.za3 s (q : Int) c).L, 0) else ([], 3)) := hide (by
   have h' := Pl.nestR_fin hg hc12
   by_cases hcond : (Pl.za3 s (q : Int) c).f = none ∧ (Pl.za3 s (q : Int) c).a = (s.size : Int) ∧ (Pl.nest (Pl.rowO (Pl.za3 s (q : Int) c).L)).isSome = true
   ·rw [if_pos hcond] at h' ⊢; exact za HRS _ h'
   ·rw [if_neg hcond] at h' ⊢; exact za HRN h')
  have HSM : Hid (∀ j, (Pl.za3 s (q : Int) j).f = none → ∀ x ∈ (Pl.za3 s (q : Int) j).L, x.2.length ≤ 1048576 ∧ ∀ n ∈ x.2, n.path.size ≤ 1048576 ∧ n.data.size ≤ 1048576) := hide (fun j hf x hx => Pl.ym7 (Pl.yp7 j hf x hx))
  have HBD : Hid (∀ j, (Pl.za3 s (q : Int) j).a ≤ 9223372036854775807) := hide (fun j => Pl.yp9 h8' (by omega) j)
  have HST : Hid (∀ j, Pl.za3 s (q : Int) (j + 1) = ⟨(Pl.za3 s (q : Int) j).L ++ [(Pl.zi3 s (Pl.za3 s (q : Int) j).a (Pl.za3 s (q : Int) j).f).n], (Pl.zi3 s (Pl.za3 s (q : Int) j).a (Pl.za3 s (q : Int) j).f).a, (Pl.zi3 s (Pl.za3 s (q : Int) j).a (Pl.za3 s (q : Int) j).f).f⟩) := hide (fun j => rfl)
  have HZ : Hid ((Pl.za3 s (q : Int) 0).L = [] ∧ (Pl.za3 s (q : Int) 0).a = (q : Int) ∧ (Pl.za3 s (q : Int) 0).f = none) := hide ⟨rfl, rfl, rfl⟩
  generalize Pl.za3 s (q : Int) = ST at HFN HSM HBD HST HZ
  have v1 : ¬ (12 : Int) < (c : Int) := by omega
  clear hme hg HM HRN HRS hneg
  go_wp2
  go_loopw [5, 17] (fun n i wr => ∃ (j : Nat) (a : Int) (f : Option Int) (Is : List Pl.It), i = .int .i64 (j : Int) ∧ j ≤ c ∧ Is.length = j ∧ Hid (zg8.Nk w wr w.heap.size (w.heap.size + 1) (w.heap.size + 1 + 1) #[.string s, .int .i64 a, zb5.fv f] 58 n Is) ∧ Hid ((ST j).L = Is.map Pl.It.r ∧ (ST j).a = a ∧ (ST j).f = f)) (fun _ i _ => c - (intOf i).toNat)
  case atStart => exact ⟨0, (q : Int), none, [], rfl, by omega, rfl, K1, HZ⟩
  case round =>
   obtain ⟨j, a, f, Is, rfl, hjc, hlj, KK, HH⟩ := hrel
   clear K1 HZ
   have HLJ := hide hlj
   clear hlj
   obtain ⟨va, vc, rfl⟩ := Mem.za1 (za KK).row.row
   by_cases hlt : j < c
   ·have u1 : (j : Int) < (c : Int) := by omega
    obtain ⟨h1, h2, h3⟩ := za HH
    have hab := za HBD j
    have hst := za HST j
    have hlen : Is.length ≤ 12 := by rw [za HLJ]; omega
    rw [h1, h2, h3] at hst
    rw [h2] at hab
    have hitem := hide (WNReadI.zw1 (w.heap.size + 1) s a f wr h8' hab (za KK).x3 r1 r2 r3 x1 x2 x3 (fun W g => errs3 (za HE W ((za KK).bel.grown g (za KK).bel.size (fun k hk => by cases hk; omega)))))
    obtain ⟨⟨⟨p1, L2⟩, a2, f2⟩, hnr⟩ : ∃ r, Pl.zi3 s a f = r := ⟨_, rfl⟩
    rw [hnr] at hst hitem
    simp only at hst
    have HCASE : Hid (∀ ta tc, (ST (j + 1)).L = (Is ++ [(⟨p1, ⟨ta, tc, L2⟩⟩ : Pl.It)]).map Pl.It.r ∧ (ST (j + 1)).a = a2 ∧ (ST (j + 1)).f = f2) := hide (fun ta tc => by rw [hst]; exact ⟨by rw [List.map_append]; rfl, rfl, rfl⟩)
    clear hst h1 h2 h3 HH hnr hab HFN HSM HBD HST HE
    go_wp2_with fail
    refine (za hitem).mono ?_
    rintro e wX ⟨ta, tc, rfl, ownT, hrd, hgr⟩
    simp only at ownT hrd
    have TN := hide (zg8.zj0 wX p1 (.slice ta L2.length tc) 38)
    have KA := hide (((za KK).read hgr hrd).call ((Below.refl _ _).alloc (Nat.le_refl _) (.cells #[.int .i64 p1, .slice ta L2.length tc] 38)))
    have HPT := hide (fun w4 v' own gr far => (za KK).put (w4 := w4) (v' := v') (m := p1) (t := ⟨ta, tc, L2⟩) hgr hrd ownT (Nat.le_refl _) own gr far)
    clear hitem ownT hrd hgr
    go_wp2_with (at_builtin; refine Mem.zb0 _ rfl _ _ 23 rfl (w.heap.size + 1 + 1) 38 i0 (.agg #[.int .i64 0, .slice none 0 0]) 2 32 Tryz.underlying23 hi hz0 hz1 hz2 rfl (by decide) _ _ _ rfl (za KA).row.row ⟨wX.heap.size, 0, none⟩ 1 1 [.int .i64 p1, .slice ta L2.length tc] rfl rfl (za TN) (zg8.zk1 _ _ _ _) (by unfold maxLen; omega) (by omega) (za KA).big ?_)
    intro v' w9 own' gr far
    have KN := hide (za HPT w9 v' own' gr (by simpa [Pl.Tr.val] using far))
    clear own' gr far HPT KA KK TN
    have HC2 := hide (za HCASE ta tc)
    clear HCASE
    go_wp2
    go_roundw
    case rel => exact ⟨j + 1, a2, f2, Is ++ [⟨p1, ⟨ta, tc, L2⟩⟩], by go_num, by omega, by rw [List.length_append, za HLJ]; rfl, KN, HC2⟩
    case measure => simp [intOf]; omega
   ·have u1 : ¬ (j : Int) < (c : Int) := by omega
    obtain rfl : j = c := by omega
    obtain ⟨h1, h2, h3⟩ := za HH
    have hll : Is.length ≤ 1048576 := by rw [za HLJ]; omega
    have hend := hide (zb5.zy0 (w.heap.size + 1) s a f wr (za KK).x3)
    have HF2 := za HFN
    rw [h1, h2, h3] at HF2
    cases hen : zb5.endR s a f with
    | false =>
     have HNO : Hid (RR = ([], 3)) := hide (by
      rw [HF2, if_neg]
      rintro ⟨g1, g2, -⟩
      rw [g1, g2] at hen
      simp [zb5.endR] at hen)
     rw [hen] at hend
     clear HF2 HH h1 h2 h3 HFN HSM HBD HST HE hen
     go_wp2_with fail
     refine (za hend).mono ?_
     rintro e w5 ⟨rfl, b5⟩
     have K5 := hide ((za KK).call b5)
     clear hend b5 KK
     have z0 := (za K5).x2.cell 0
     have z1 := (za K5).x2.cell 1
     simp only [kGs] at z0 z1
     have zf0 := (za K5).x2.fr 0
     have zf1 := (za K5).x2.fr 1
     go_wp2
     refine bodyPost_ret (v := .agg #[.slice none 0 0, .int .i64 3]) (by simp [results, Tryz.results8, go_sem, z0, z1]) rfl ⟨⟨.slice none 0 0, [], by rw [za HNO], Mem.Io.nil _ _, by rw [za HNO]; rfl⟩, ((za K5).done _ _).2⟩
    | true =>
     obtain ⟨g1, g2⟩ : f = none ∧ a = (s.size : Int) := by
      simp only [zb5.endR, Bool.and_eq_true, decide_eq_true_eq, Option.isNone_iff_eq_none] at hen
      exact hen
     rw [hen] at hend
     have hsm := za HSM j (by rw [h3, g1])
     rw [h1] at hsm
     have hcap : Is.length ≤ vc := zg8.zz4 (za KK).row.row
     have htr := hide (fun W (b : Below wr.heap.size wr W) => zc0.zf4 va vc Is W hll hcap (Mem.zc1 (za KK).row.items.2 b) (fun x hx => hsm x.r (List.mem_map.2 ⟨x, hx, rfl⟩)) _ _ _ _ _ _ _ _ (za HE W ((za KK).bel.trans (b.mono (za KK).bel.size))))
     have HF3 : Hid (RR = if (Pl.nest (Pl.rowO (Is.map Pl.It.r))).isSome = true then (Is.map Pl.It.r, 0) else ([], 3)) := hide (by
      rw [HF2]
      by_cases ht : (Pl.nest (Pl.rowO (Is.map Pl.It.r))).isSome = true
      ·rw [if_pos ⟨g1, g2, ht⟩, if_pos ht]
      ·rw [if_neg (fun h => ht h.2.2), if_neg ht])
     generalize (Pl.nest (Pl.rowO (Is.map Pl.It.r))).isSome = TB at htr HF3
     clear HF2 HH h1 h2 h3 HFN HSM HBD HST HE hen g1 g2 hsm hcap
     go_wp2_with fail
     refine (za hend).mono ?_
     rintro e w5 ⟨rfl, b5⟩
     have K5 := hide ((za KK).call b5)
     have htr2 := hide (za htr w5 b5)
     clear hend b5 KK htr
     go_wp2_with fail
     refine (za htr2).mono ?_
     rintro e w6 ⟨rfl, b6⟩
     have K6 := hide ((za K5).call b6)
     clear htr2 b6 K5
     cases TB
     ·have HNO : Hid (RR = ([], 3)) := hide (za HF3)
      clear HF3
      have z0 := (za K6).x2.cell 0
      have z1 := (za K6).x2.cell 1
      simp only [kGs] at z0 z1
      have zf0 := (za K6).x2.fr 0
      have zf1 := (za K6).x2.fr 1
      go_wp2
      refine bodyPost_ret (v := .agg #[.slice none 0 0, .int .i64 3]) (by simp [results, Tryz.results8, go_sem, z0, z1]) rfl ⟨⟨.slice none 0 0, [], by rw [za HNO], Mem.Io.nil _ _, by rw [za HNO]; rfl⟩, ((za K6).done _ _).2⟩
     ·have HYE : Hid (RR = (Is.map Pl.It.r, 0)) := hide (za HF3)
      have z0 := (za K6).x2.cell 0
      have z1 := (za K6).x2.cell 1
      simp only [kGs] at z0 z1
      have zf0 := (za K6).x2.fr 0
      have zf1 := (za K6).x2.fr 1
      go_wp2
      refine bodyPost_ret (v := .agg #[.slice va Is.length vc, .int .i64 0]) (by simp [results, Tryz.results8, go_sem, z0, z1]) rfl ⟨⟨.slice va Is.length vc, Is, by rw [za HYE], ((za K6).done _ _).1, by rw [za HYE]⟩, ((za K6).done _ _).2⟩
end WNReadJ
end Go.Proofs.YtfdbokipgofcdaaGreatDoor

namespace Go.Proofs.YtfdbokipgofcdaaGreatDoor
open Go.RowKit
namespace zc0
set_option linter.unusedSimpArgs false in
set_option maxRecDepth 100000 in
set_option maxHeartbeats 1000000 in
theorem yl3 (N : Nat → Prop) (n : Nat) (hn : n ≤ 1000) : ∀ (k : Pl.Fo) (q : Option Nat) (m : Int) (v : Value) (w : World), k.sz ≤ n → Mem.lay w N k v →
  Calls Tryz.prog 51 #[.agg #[.map q, .int .i64 m, v]] w fun e w' => e = .returned (.int .i64 (k.leaves : Int)) ∧ Below w.heap.size w w' := by
 have base : ∀ (q : Option Nat) (m : Int) (a : Option Addr) (cap : Nat) (w : World), Calls Tryz.prog 51 #[.agg #[.map q, .int .i64 m, .slice a 0 cap]] w fun e w' => e = .returned (.int .i64 1) ∧ Below w.heap.size w w' := by
  intro q m a cap w
  have b0 : Below w.heap.size w (w.alloc (.cells #[.map q, .int .i64 m, .slice a 0 cap] 74)) := (Below.refl _ _).alloc (Nat.le_refl _) _
  have hlf := hide (zr1 .nil q m a cap)
  simp only [Pl.Fo.len] at hlf
  go_enter Tryz.func51, Tryz.ntmps51
  go_wp2_with fail
  refine (za hlf _).mono ?_
  rintro e w1 ⟨rfl, b1⟩
  have bb := b0.trans (b1.mono b0.size)
  clear b0 b1 hlf
  go_wp2
  go_ret
  exact ⟨rfl, bb⟩
 induction n with
 | zero =>
  intro k q m v w hs hl
  obtain ⟨a, cap, rfl, -⟩ := hl
  cases k with
  | nil => exact base q m a cap w
  | cons a b => simp [Pl.Fo.sz] at hs
 | succ n ih =>
  intro k q m v w hs hl
  obtain ⟨a, cap, rfl, hrow⟩ := hl
  cases k with
  | nil => exact base q m a cap w
  | cons k0 m0 =>
   rcases hrow with h | ⟨g, rfl, hrow⟩
   ·cases h
   have hpos := Pl.leaves_pos k0 m0
   have hlen : 0 < (Pl.Fo.cons k0 m0).len := by simp [Pl.Fo.len]
   generalize hK : Pl.Fo.cons k0 m0 = K at *
   have hKl := K.len_le
   have hKd := K.leaves1_le
   have hKK : K.leaves = K.zg6 := by unfold Pl.Fo.leaves; omega
   rw [hKK]
   have b0 : Below w.heap.size w (w.alloc (.cells #[.map q, .int .i64 m, .slice (some ⟨g, 0, none⟩) K.len cap] 74)) := (Below.refl _ _).alloc (Nat.le_refl _) _
   have A0 := Mem.Blk.new w #[.map q, .int .i64 m, .slice (some ⟨g, 0, none⟩) K.len cap] 74
   have HI := hide (ih (by omega))
   have HRW := hide (zp5 hrow b0)
   have hlf := hide (zr1 K q m (some ⟨g, 0, none⟩) cap)
   rw [show decide (K.len = 0) = false from decide_eq_false (by omega)] at hlf
   clear hK ih hrow base hKK
   go_enter Tryz.func51, Tryz.ntmps51
   go_wp2_with fail
   generalize w.alloc (.cells #[.map q, .int .i64 m, .slice (some ⟨g, 0, none⟩) K.len cap] 74) = w2 at b0 A0 HRW ⊢
   refine (za hlf _).mono ?_
   rintro e w1 ⟨rfl, b1⟩
   have bb := b0.trans (b1.mono b0.size)
   have c02 := (A0.call b1).cell 2
   simp only [kGs] at c02
   have R0 : Hid (Mem.rowF w1 N K g (0 * 3)) := hide (by simpa using zp5 (za HRW) b1)
   clear b0 b1 hlf A0 HRW
   go_wp2
   go_loopw [3, 11] (fun d i wr => ∃ (j dd : Nat) (F : Pl.Fo), d = .int .i64 (dd : Int) ∧ i = .int .i64 (j : Int) ∧ j + F.len = K.len ∧ dd + F.zg6 = K.zg6 ∧ F.sz ≤ n + 1 ∧ Below w.heap.size w wr ∧ Hid (Mem.rowF wr N F g (j * 3))) (fun _ i _ => K.len - (intOf i).toNat)
   case atStart => exact ⟨0, 0, K, rfl, rfl, by omega, by omega, hs, bb, R0⟩
   case round =>
    obtain ⟨j, dd, F, rfl, rfl, hj, hmax, hsz, hbel, HR⟩ := hrel
    clear R0 bb c02
    cases F with
    | nil =>
     simp only [Pl.Fo.len, Pl.Fo.zg6] at hj hmax
     have u1 : ¬ (j : Int) < (K.len : Int) := by omega
     have hdd : dd = K.zg6 := by omega
     subst hdd
     go_wp2
     go_ret
     exact ⟨rfl, hbel⟩
    | cons k1 m1 =>
     simp only [Pl.Fo.len, Pl.Fo.zg6, Pl.Fo.sz] at hj hmax hsz
     obtain ⟨⟨x, y, a1, cap1, c0, c1, c2, hg, hN, ⟨q1, rfl⟩, ⟨r1, rfl⟩, hsub⟩, hrest⟩ := za HR
     have u1 : (j : Int) < (K.len : Int) := by omega
     have u3 : (0 : Int) ≤ (j : Int) := by omega
     have bA : Below wr.heap.size wr (wr.alloc (.cells #[.map q1, .int .i64 r1, .slice a1 k1.len cap1] 74)) := (Below.refl _ _).alloc (Nat.le_refl _) _
     have HL : Mem.lay wr N k1 (.slice a1 k1.len cap1) := ⟨a1, cap1, rfl, hsub⟩
     have hcall := hide (za HI k1 q1 r1 _ _ (by omega) (Mem.zt8 HL bA))
     have HRR := hide (zp5 hrest bA)
     have bw := hbel.trans (bA.mono hbel.size)
     have hk1 : k1.leaves = max 1 k1.zg6 := rfl
     clear hsub hrest HL HR
     go_wp2_with fail
     refine (za hcall).mono ?_
     rintro e wX ⟨rfl, bX⟩
     have bw2 := bw.trans (bX.mono bw.size)
     have HR2 := hide (zp5 (za HRR) bX)
     rw [show j * 3 + 3 = (j + 1) * 3 by omega] at HR2
     rw [← hk1] at hmax
     clear hcall HRR bX bw hbel c0 c1 c2 bA hk1
     go_wp2
     go_roundw
     case rel => exact ⟨j + 1, dd + k1.leaves, m1, by go_num, by go_num, by omega, by omega, by omega, bw2, HR2⟩
     case measure => simp [intOf]; omega
end zc0
end Go.Proofs.YtfdbokipgofcdaaGreatDoor

