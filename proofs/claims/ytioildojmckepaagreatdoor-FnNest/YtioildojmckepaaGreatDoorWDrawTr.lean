import Derived.Test.YtioildojmckepaaGreatDoorG14
import Derived.Test.YtioildojmckepaaGreatDoorG16
import Derived.Test.YtioildojmckepaaGreatDoorWDrawTk
namespace Go.Proofs.YtioildojmckepaaGreatDoor
open Go.RowKit
namespace WSrc
theorem wrap_small {x : Int} (h0 : 0 ≤ x) (h1 : x ≤ 1048576) : IntKind.i64.wrap x = x := by
 simp [IntKind.wrap, IntKind.bits, IntKind.signed]; omega
set_option linter.unusedSimpArgs false in
set_option maxRecDepth 100000 in
set_option maxHeartbeats 10000000 in
theorem zp8 (S : Nat) (a : Option Addr) (len cap : Nat) (w : World) (hs : Src w S a len cap) :
  Calls Tryz.prog 66 #[.pointer (some ⟨S, 0, none⟩)] w fun e w' => ∃ (va : Option Addr) (vc : Nat) (L : List Pl.Nd), L.length ≤ 64 ∧ Pl.zl0 L ∧ e = .returned (.agg #[.slice va L.length vc]) ∧ zf6 w' w.heap.size va vc L ∧ Src w' S a len cap ∧ w.grownBy w' (some S) := by
 obtain ⟨i0, hi, hz0, hz1, hz2⟩ := info_parts zf4.zp2
 have hS := zr7 hs
 have K0 : Hid (Tk w ((w.alloc (.cells #[.slice none 0 0] 36)).alloc (.cells #[.slice none 0 0] 36)) S a len cap (.slice none 0 0) []) :=
  ⟨hS, zh6 (zh6 hs _) _, (World.grownBy_alloc w _ (some S)).trans (World.grownBy_alloc _ _ (some S)), (Mem.Blk.new w _ _).alloc _, Mem.zu4 _ _ _, Mem.zc7 _ _, fun n hn => by simp at hn⟩
 clear hs
 obtain ⟨sz, z0, z1, cz⟩ := (za K0).size
 go_enter Tryz.func66, Tryz.ntmps66
 go_wp2_with fail
 generalize (w.alloc (.cells #[.slice none 0 0] 36)).alloc (.cells #[.slice none 0 0] 36) = w0 at K0 cz ⊢
 refine (zc9 S a len cap _ _ (za K0).src (by first | omega | (simp; omega))).mono ?_
 rintro e w1 ⟨r, rfl, r0, r1, s1, g1⟩
 obtain ⟨c, rfl⟩ : ∃ c : Nat, r = (c : Int) := ⟨r.toNat, by omega⟩
 have hc : c ≤ 21 := by first | omega | (rcases r1 with h | h <;> simp at h <;> omega)
 have K1 := hide ((za K0).call s1 g1)
 clear K0 s1 g1 r0 r1 cz z0 z1
 go_wp2
 go_loopw [4] (fun k wr => ∃ (kk : Nat) (v : Value) (L : List Pl.Nd), k = .int .i64 (kk : Int) ∧ L.length + kk ≤ 21 ∧ Hid (Tk w wr S a len cap v L)) (fun k _ => (intOf k).toNat)
 case atStart => exact ⟨c, _, [], rfl, by simp; omega, K1⟩
 case round =>
  obtain ⟨kk, v, L, rfl, hk, KK⟩ := hrel
  clear K1 hc
  by_cases hpos : (0 : Int) < (kk : Int)
  ·skip
   go_wp2_with fail
   refine (zv6 S a len cap _ (za KK).src).mono ?_
   rintro e w1 ⟨n, hn1, hn2, hn3, hn4, hn5, hn6, hn7, hn8, rfl, s1, g1⟩
   obtain ⟨np, nk, nd, nt, nm⟩ := n
   simp only [Pl.Nd.val] at hn1 hn2 hn3 hn4 hn5 hn6 hn7 hn8 ⊢
   have K2 := hide (((za KK).call s1 g1).alloc (.cells #[.string np, .int .i64 nk, .string nd, .int .i64 nt, .int .i64 nm] 88))
   have hX1 := ((za KK).call s1 g1).lt
   have HVL := hide (fun q hq => (Mem.zd5 ((za KK).call s1 g1).own q hq).2)
   have HNS : Hid (nd.size ≤ 100 ∧ -2000000 ≤ nk ∧ nk ≤ 2000000 ∧ -2000000 ≤ nt ∧ nt ≤ 2000000 ∧ -2000000 ≤ nm ∧ nm ≤ 2000000) := ⟨hn2, hn3, hn4, hn5, hn6, hn7, hn8⟩
   have HXB := hide (Mem.Blk.new w1 #[.string np, .int .i64 nk, .string nd, .int .i64 nt, .int .i64 nm] 88)
   clear s1 g1 KK hn2 hn3 hn4 hn5 hn6 hn7 hn8
   go_wp2_with fail
   generalize hX : w1.heap.size = X at hX1 HXB ⊢
   refine (zh5 S a len cap 3 _ (za K2).src (by omega)).mono ?_
   rintro e w2 ⟨r3, rfl, s2, g2⟩
   have K3 := hide ((za K2).call s2 g2)
   have BX3 := hide ((za HXB).grown g2 (by have := (za K2).lo; simp; omega))
   have HVX : Hid (∀ q, v.ownBlock = some q → X ≠ q) := fun q hq e => by
    have := za HVL q hq
    omega
   have HX : Hid (w.heap.size + 2 ≤ X ∧ True) := ⟨hX1, trivial⟩
   clear s2 g2 K2 HXB hX1 HVL hX
   cases r3
   ·have HPS : Hid (np.size ≤ 40) := hn1
    clear hn1
    obtain ⟨va, vc, hvv⟩ := Mem.za3 (za K3).own
    subst hvv
    have KA := K3
    have x0 := (za BX3).cell 0
    have x1 := (za BX3).cell 1
    have x2 := (za BX3).cell 2
    have x3 := (za BX3).cell 3
    have x4 := (za BX3).cell 4
    have t0 := (za K3).one.cell 0
    simp only [kGs] at x0 x1 x2 x3 x4 t0
    have TV := zo7 (za K3).own
    have hput := hide (WPutD.zb8 va vc L ⟨np, nk, nd, nt, nm⟩ w2 TV.2.1 (by omega) TV.1 (Pl.zz5 (za K3).ok) ⟨by have := za HPS; dsimp only; omega, by have := za HNS; dsimp only; omega⟩)
    have HLN := hide (Pl.putO_len L ⟨np, nk, nd, nt, nm⟩)
    have HSM := hide (Pl.yf2 (n := ⟨np, nk, nd, nt, nm⟩) (za K3).ok (by have := za HNS; have := za HPS; unfold Pl.zn8; dsimp only; omega))
    simp only [Pl.Nd.val] at hput
    generalize Pl.putO L ⟨np, nk, nd, nt, nm⟩ = PO at hput HLN HSM
    generalize Pl.putC L ⟨np, nk, nd, nt, nm⟩ = C at hput
    clear TV
    go_wp2_with fail
    refine (za hput).mono ?_
    rintro e w4 ⟨v4, rfl, own4, b4⟩
    obtain ⟨a4, c4, hv4⟩ := Mem.za3 own4
    subst hv4
    have K5 := hide ((za K3).below b4)
    have BX4 := hide ((za BX3).call b4)
    have OW := hide own4
    have K6 := hide ((za K5).alloc (.cells #[.slice a4 PO.length c4, .int .i64 C] 62))
    clear hput own4 b4 K3 BX3 x0 x1 x2 x3 x4 t0
    go_wp2_with fail
    refine (zh5 S a len cap 12 _ (za K6).src (by omega)).mono ?_
    rintro e w5 ⟨r12, rfl, s5, g5⟩
    have OY := hide (Mem.zo8 (Mem.zd4 (za OW) _) g5 (fun q hq e => by cases e; have := (Mem.zd5 (za OW) _ hq).1; have := (za K6).lo; have := (za KA).lt; omega))
    have BX := hide (((za BX4).alloc _).grown g5 (by have := (za K6).lo; have := (za HX).1; simp; omega))
    have BY := hide ((Mem.Blk.new w4 #[.slice a4 PO.length c4, .int .i64 C] 62).grown g5 (by have := (za K6).lo; have := (za K5).lt; simp; omega))
    have K7 := hide ((za K6).call s5 g5)
    have HY : Hid (w.heap.size + 2 ≤ w4.heap.size ∧ X < w4.heap.size ∧ (∀ q, (Value.slice va L.length vc).ownBlock = some q → q < w4.heap.size)) := ⟨(za K5).lt, (za BX4).lt, fun q hq => (Mem.zd5 (za K5).own q hq).2⟩
    have HOL := hide (za KA).lt
    clear s5 g5 K6 K5 OW BX4 KA HX
    cases r12
    ·have y0 := (za BY).cell 0
     have y1 := (za BY).cell 1
     simp only [kGs] at y0 y1
     have t1 := (za K7).one.cell 0
     have tf := (za K7).one.fr 0
     by_cases h0 : C = 0
     ·subst C
      have KF := hide ((za K7).put (Mem.zb7 (za OY) (za HOL)) (za HSM))
      clear K7 OY HSM BX BY HY HOL
      go_wp2
      go_roundw
      case rel => exact ⟨kk - 1, _, _, by go_num, by have := za HLN; omega, KF⟩
      case measure => simp [intOf]; omega
     ·clear OY HSM BX BY HY HOL t1 tf y0
      go_wp2
      go_roundw
      case rel => exact ⟨kk - 1, _, _, by go_num, by omega, K7⟩
      case measure => simp [intOf]; omega
    ·obtain ⟨cn, cc, hV⟩ := Pl.get_shape L np
     have t1 := (za K7).one.cell 0
     have x0 := (za BX).cell 0
     simp only [kGs] at t1 x0
     have TV := zo7 (za K7).own
     have hcut := hide (WCutF.zb8 va vc L np cn cc hV w5 (by omega) TV.1 (Pl.zz5 (za K7).ok) (by have := za HPS; omega))
     have HCL := hide (Pl.cutO_len np L cc)
     have HCS := hide (Pl.yf1 (p := np) (c := cc) (za K7).ok)
     generalize Pl.cutO np L cc = CO at hcut HCL HCS
     clear hV TV HSM HLN OY
     go_wp2_with fail
     refine (za hcut).mono ?_
     rintro e w6 ⟨v2, rfl, own6, b6⟩
     obtain ⟨a6, c6, hv6⟩ := Mem.za3 own6
     subst hv6
     have K8 := hide ((za K7).below b6)
     have BY8 := hide ((za BY).call b6)
     have OC := hide own6
     have HL7 := hide (za K7).lt
     have HYL := hide (za BY).lt
     clear hcut own6 b6 K7 BY BX t1 x0
     have f0 := (za BY8).fr 0
     have f1 := (za BY8).fr 1
     have g0 := (za BY8).cell 0
     have g1 := (za BY8).cell 1
     simp only [kGs] at g0 g1
     have BY9 := hide (((za BY8).put 0 (.slice a6 CO.length c6)).put 1 (.int .i64 cc))
     have K9 := hide (((za K8).set w4.heap.size 0 (.slice a6 CO.length c6) (za HY).1 (fun q hq e => by have := (za HY).2.2 q hq; omega)).set w4.heap.size 1 (.int .i64 cc) (za HY).1 (fun q hq e => by have := (za HY).2.2 q hq; omega))
     have OC9 := hide (Mem.za4 (Mem.za4 (za OC) ⟨w4.heap.size, 0, none⟩ (.slice a6 CO.length c6) (za HYL)) ⟨w4.heap.size, 1, none⟩ (.int .i64 cc) (za HYL))
     simp only [kB3, kB4, kB5] at BY9
     have y0 := (za BY9).cell 0
     have y1 := (za BY9).cell 1
     simp only [kGs] at y0 y1
     have t1 := (za K9).one.cell 0
     have tf := (za K9).one.fr 0
     by_cases h0 : cc = 0
     ·subst cc
      have KF := hide ((za K9).put (Mem.zb7 (za OC9) (za HL7)) (za HCS))
      clear K9 OC9 HCS BY9 HY HOL K8 BY8 OC
      go_wp2
      go_roundw
      case rel => exact ⟨kk - 1, _, _, by go_num, by have := za HCL; omega, KF⟩
      case measure => simp [intOf]; omega
     ·clear OC9 HCS BY9 HY HOL K8 BY8 OC t1 tf
      go_wp2
      go_roundw
      case rel => exact ⟨kk - 1, _, _, by go_num, by omega, K9⟩
      case measure => simp [intOf]; omega
   ·have x0 := (za BX3).cell 0
    have xf := (za BX3).fr 0
    simp only [kGs] at x0
    have hbase := hide (zf3.base1_any np w2 (by unfold maxLen; omega))
    have HPS : Hid ((Pl.base np).size ≤ 40) := Nat.le_trans (Pl.base_size np) hn1
    generalize Pl.base np = nq at hbase HPS
    clear hn1
    go_wp2_with fail
    refine (za hbase).mono ?_
    rintro e w3 ⟨rfl, hw3⟩
    subst w3
    have BX3 := hide ((za BX3).put 0 (.string nq))
    simp only [kB3, kB4, kB5] at BX3
    have K3 := hide ((za K3).set X 0 (.string nq) (za HX).1 (za HVX))
    have z0 := x0
    have zf := xf
    clear hbase x0 xf
    obtain ⟨va, vc, hvv⟩ := Mem.za3 (za K3).own
    subst hvv
    have KA := K3
    have x0 := (za BX3).cell 0
    have x1 := (za BX3).cell 1
    have x2 := (za BX3).cell 2
    have x3 := (za BX3).cell 3
    have x4 := (za BX3).cell 4
    have t0 := (za K3).one.cell 0
    simp only [kGs] at x0 x1 x2 x3 x4 t0
    have TV := zo7 (za K3).own
    have hput := hide (WPutD.zb8 va vc L ⟨nq, nk, nd, nt, nm⟩ (w2.setCell ⟨X, 0, none⟩ (.string nq)) TV.2.1 (by omega) TV.1 (Pl.zz5 (za K3).ok) ⟨by have := za HPS; dsimp only; omega, by have := za HNS; dsimp only; omega⟩)
    have HLN := hide (Pl.putO_len L ⟨nq, nk, nd, nt, nm⟩)
    have HSM := hide (Pl.yf2 (n := ⟨nq, nk, nd, nt, nm⟩) (za K3).ok (by have := za HNS; have := za HPS; unfold Pl.zn8; dsimp only; omega))
    simp only [Pl.Nd.val] at hput
    generalize Pl.putO L ⟨nq, nk, nd, nt, nm⟩ = PO at hput HLN HSM
    generalize Pl.putC L ⟨nq, nk, nd, nt, nm⟩ = C at hput
    clear TV
    go_wp2_with fail
    refine (za hput).mono ?_
    rintro e w4 ⟨v4, rfl, own4, b4⟩
    obtain ⟨a4, c4, hv4⟩ := Mem.za3 own4
    subst hv4
    have K5 := hide ((za K3).below b4)
    have BX4 := hide ((za BX3).call b4)
    have OW := hide own4
    have K6 := hide ((za K5).alloc (.cells #[.slice a4 PO.length c4, .int .i64 C] 62))
    clear hput own4 b4 K3 BX3 x0 x1 x2 x3 x4 t0
    go_wp2_with fail
    refine (zh5 S a len cap 12 _ (za K6).src (by omega)).mono ?_
    rintro e w5 ⟨r12, rfl, s5, g5⟩
    have OY := hide (Mem.zo8 (Mem.zd4 (za OW) _) g5 (fun q hq e => by cases e; have := (Mem.zd5 (za OW) _ hq).1; have := (za K6).lo; have := (za KA).lt; omega))
    have BX := hide (((za BX4).alloc _).grown g5 (by have := (za K6).lo; have := (za HX).1; simp; omega))
    have BY := hide ((Mem.Blk.new w4 #[.slice a4 PO.length c4, .int .i64 C] 62).grown g5 (by have := (za K6).lo; have := (za K5).lt; simp; omega))
    have K7 := hide ((za K6).call s5 g5)
    have HY : Hid (w.heap.size + 2 ≤ w4.heap.size ∧ X < w4.heap.size ∧ (∀ q, (Value.slice va L.length vc).ownBlock = some q → q < w4.heap.size)) := ⟨(za K5).lt, (za BX4).lt, fun q hq => (Mem.zd5 (za K5).own q hq).2⟩
    have HOL := hide (za KA).lt
    clear s5 g5 K6 K5 OW BX4 KA HX
    cases r12
    ·have y0 := (za BY).cell 0
     have y1 := (za BY).cell 1
     simp only [kGs] at y0 y1
     have t1 := (za K7).one.cell 0
     have tf := (za K7).one.fr 0
     by_cases h0 : C = 0
     ·subst C
      have KF := hide ((za K7).put (Mem.zb7 (za OY) (za HOL)) (za HSM))
      clear K7 OY HSM BX BY HY HOL
      go_wp2
      go_roundw
      case rel => exact ⟨kk - 1, _, _, by go_num, by have := za HLN; omega, KF⟩
      case measure => simp [intOf]; omega
     ·clear OY HSM BX BY HY HOL t1 tf y0
      go_wp2
      go_roundw
      case rel => exact ⟨kk - 1, _, _, by go_num, by omega, K7⟩
      case measure => simp [intOf]; omega
    ·obtain ⟨cn, cc, hV⟩ := Pl.get_shape L nq
     have t1 := (za K7).one.cell 0
     have x0 := (za BX).cell 0
     simp only [kGs] at t1 x0
     have TV := zo7 (za K7).own
     have hcut := hide (WCutF.zb8 va vc L nq cn cc hV w5 (by omega) TV.1 (Pl.zz5 (za K7).ok) (by have := za HPS; omega))
     have HCL := hide (Pl.cutO_len nq L cc)
     have HCS := hide (Pl.yf1 (p := nq) (c := cc) (za K7).ok)
     generalize Pl.cutO nq L cc = CO at hcut HCL HCS
     clear hV TV HSM HLN OY
     go_wp2_with fail
     refine (za hcut).mono ?_
     rintro e w6 ⟨v2, rfl, own6, b6⟩
     obtain ⟨a6, c6, hv6⟩ := Mem.za3 own6
     subst hv6
     have K8 := hide ((za K7).below b6)
     have BY8 := hide ((za BY).call b6)
     have OC := hide own6
     have HL7 := hide (za K7).lt
     have HYL := hide (za BY).lt
     clear hcut own6 b6 K7 BY BX t1 x0
     have f0 := (za BY8).fr 0
     have f1 := (za BY8).fr 1
     have g0 := (za BY8).cell 0
     have g1 := (za BY8).cell 1
     simp only [kGs] at g0 g1
     have BY9 := hide (((za BY8).put 0 (.slice a6 CO.length c6)).put 1 (.int .i64 cc))
     have K9 := hide (((za K8).set w4.heap.size 0 (.slice a6 CO.length c6) (za HY).1 (fun q hq e => by have := (za HY).2.2 q hq; omega)).set w4.heap.size 1 (.int .i64 cc) (za HY).1 (fun q hq e => by have := (za HY).2.2 q hq; omega))
     have OC9 := hide (Mem.za4 (Mem.za4 (za OC) ⟨w4.heap.size, 0, none⟩ (.slice a6 CO.length c6) (za HYL)) ⟨w4.heap.size, 1, none⟩ (.int .i64 cc) (za HYL))
     simp only [kB3, kB4, kB5] at BY9
     have y0 := (za BY9).cell 0
     have y1 := (za BY9).cell 1
     simp only [kGs] at y0 y1
     have t1 := (za K9).one.cell 0
     have tf := (za K9).one.fr 0
     by_cases h0 : cc = 0
     ·subst cc
      have KF := hide ((za K9).put (Mem.zb7 (za OC9) (za HL7)) (za HCS))
      clear K9 OC9 HCS BY9 HY HOL K8 BY8 OC
      go_wp2
      go_roundw
      case rel => exact ⟨kk - 1, _, _, by go_num, by have := za HCL; omega, KF⟩
      case measure => simp [intOf]; omega
     ·clear OC9 HCS BY9 HY HOL K8 BY8 OC t1 tf
      go_wp2
      go_roundw
      case rel => exact ⟨kk - 1, _, _, by go_num, by omega, K9⟩
      case measure => simp [intOf]; omega
  ·skip
   obtain rfl : kk = 0 := by omega
   obtain ⟨va, vc, hvv⟩ := Mem.za3 (za KK).own
   subst hvv
   go_wp2_with fail
   refine (zh5 S a len cap 25 _ (za KK).src (by omega)).mono ?_
   rintro e w1 ⟨r25, rfl, s1, g1⟩
   have KA := hide ((za KK).call s1 g1)
   clear s1 g1 KK hpos
   cases r25
   ·skip
    have hD := (za KA).done
    have u0 := (za KA).one.cell 0
    have u2 := (za KA).two.cell 0
    have uf := (za KA).two.fr 0
    simp only [kGs] at u0 u2
    have hok := (za KA).ok
    go_wp2
    have q := hD.2.2.2.cell
    refine bodyPost_ret (v := .agg #[.slice va L.length vc]) (by simp [results, Tryz.results66, go_sem, q]) rfl ⟨va, vc, L, ?_, ?_, rfl, hD.1, hD.2.1, hD.2.2.1⟩
    ·omega
    ·exact hok
   ·go_wp2_with fail
    refine (zc9 S a len cap 3 _ (za KA).src (by omega)).mono ?_
    rintro e w2 ⟨r, rfl, r0, r1, s2, g2⟩
    have KB := hide ((za KA).call s2 g2)
    clear s2 g2 KA
    have hr : r = 0 ∨ r = 1 ∨ r = 2 := by omega
    clear r0 r1
    rcases hr with rfl | rfl | rfl
    ·skip
     go_wp2_with fail
     refine wp_region_held_drew (S := fun _ => True) (by kernel_rfl) ?_ (fun hHeld => ?_)
     ·trivial
     have KD := hide (za KB).drew
     generalize w2.drew = WD at KD ⊢
     have u0 := (za KD).one.cell 0
     simp only [kGs] at u0
     clear KB
     refine tka (i := 0) rfl ?_
     try simp only [Act.put, kBs]
     refine tka (i := 2) rfl ?_
     try simp only [Act.put, kBs]
     refine wpAnyH_ready (rs := [1, 3]) (by kernel_rfl) (by simp) ?_
     refine AllReadyH.cons rfl (fun K hK => ?_) (AllReadyH.cons rfl (fun K hK => ?_) AllReadyH.nil)
     ·go_simp
      refine hK.out _ _ trivial (fun hHeld => ?_)
      clear hK K
      try simp only [Act.put, kBs]
      refine wpAnyH_ready (rs := [3]) (by kernel_rfl) (by simp) ?_
      refine AllReadyH.cons rfl (fun K hK => ?_) AllReadyH.nil
      go_simp
      refine (zv6 S a len cap _ (za KD).src).mono ?_
      rintro e wN ⟨n, hn1, hn2, hn3, hn4, hn5, hn6, hn7, hn8, rfl, sN, gN⟩
      have K5 := hide ((za KD).call sN gN)
      obtain ⟨np, nk, nd, nt, nm⟩ := n
      simp only [Pl.Nd.val] at hn1 hn2 hn3 hn4 hn5 hn6 hn7 hn8 ⊢
      have HNN : Hid (Pl.zn8 ⟨np, nk, nd, nt, nm⟩) := ⟨by dsimp only; omega, by dsimp only; omega, hn3, hn4, hn5, hn6, hn7, hn8⟩
      clear sN gN hn1 hn2 hn3 hn4 hn5 hn6 hn7 hn8
      refine hK.out _ _ trivial (fun hHeld => ?_)
      clear hK K
      try simp only [Act.put, kBs]
      refine wpAnyH_ready (rs := [4]) (by kernel_rfl) (by simp) ?_
      refine AllReadyH.cons rfl (fun K hK => ?_) AllReadyH.nil
      go_simp
      refine hK.out _ _ trivial (fun hHeld => ?_)
      clear hK K
      try simp only [Act.put, kBs]
      refine wpAnyH_ready (rs := [5]) (by kernel_rfl) (by simp) ?_
      refine AllReadyH.cons rfl (fun K hK => ?_) AllReadyH.nil
      refine Mem.zd0 rfl _ _ 34 rfl (w.heap.size + 2) 88 i0 _ 5 56 Tryz.underlying34 hi hz0 hz1 hz2 rfl (by decide) _ _ _ rfl (Mem.zd4 (za K5).own _) ⟨wN.heap.size, 0, none⟩ 1 1 (Pl.Nd.cs ⟨np, nk, nd, nt, nm⟩) rfl rfl (Mem.zi9 wN ⟨np, nk, nd, nt, nm⟩ _) (Mem.zi1 ⟨np, nk, nd, nt, nm⟩) (by unfold maxLen; omega) (by omega) (by have := (za K5).lt; simp; omega) ?_
      intro v' wZ hownZ hgrow
      have K6 := hide ((za K5).alloc (.cells (Pl.Nd.cs ⟨np, nk, nd, nt, nm⟩).toArray 88))
      obtain ⟨a', cap', hv'⟩ := Mem.za3 hownZ
      subst hv'
      have BM := hide ((za K6).mid hgrow)
      have hown2 := Mem.zg7 (L := L) (n := ⟨np, nk, nd, nt, nm⟩) hownZ
      have KZ := hide ((za K6).app (v' := .slice a' (L.length + 1) cap') (L' := L ++ [⟨np, nk, nd, nt, nm⟩]) hgrow hown2 (fun m hm => by
       rcases List.mem_append.1 hm with h9 | h9
       ·exact (za K6).ok m h9
       ·rw [List.mem_singleton] at h9; rw [h9]; exact za HNN))
      refine hK.out _ _ trivial (fun hHeld => ?_)
      clear hK K
      try simp only [Act.put, kBs]
      have m0 := (za BM).cell 0
      have mf := (za BM).fr 0
      simp only [kGs] at m0
      clear hownZ hown2 hgrow K5 K6
      refine tka (i := 6) rfl ?_
      try simp only [Act.put, kBs]
      refine wpAnyH_ready (rs := [7]) (by kernel_rfl) (by simp) ?_
      refine AllReadyH.cons rfl (fun K hK => ?_) AllReadyH.nil
      go_simp
      refine hK.out _ _ trivial (fun hHeld => ?_)
      clear hK K
      try simp only [Act.put, kBs]
      refine wpAnyH_done (by kernel_rfl) ?_ _
      have hD := (za KZ).done
      have w0' := (za KZ).one.cell 0
      have w2' := (za KZ).two.cell 0
      have wf' := (za KZ).two.fr 0
      simp only [kGs] at w0' w2'
      have hok := (za KZ).ok
      go_wp2
      have q := hD.2.2.2.cell
      refine bodyPost_ret (v := .agg #[.slice a' (L.length + 1) cap']) (by simp [results, Tryz.results66, go_sem, q]) rfl ⟨a', cap', L ++ [⟨np, nk, nd, nt, nm⟩], by rw [List.length_append, List.length_singleton]; omega, hok, by rw [List.length_append, List.length_singleton], hD.1, hD.2.1, hD.2.2.1⟩
     ·go_simp
      refine (zv6 S a len cap _ (za KD).src).mono ?_
      rintro e wN ⟨n, hn1, hn2, hn3, hn4, hn5, hn6, hn7, hn8, rfl, sN, gN⟩
      have K5 := hide ((za KD).call sN gN)
      obtain ⟨np, nk, nd, nt, nm⟩ := n
      simp only [Pl.Nd.val] at hn1 hn2 hn3 hn4 hn5 hn6 hn7 hn8 ⊢
      have HNN : Hid (Pl.zn8 ⟨np, nk, nd, nt, nm⟩) := ⟨by dsimp only; omega, by dsimp only; omega, hn3, hn4, hn5, hn6, hn7, hn8⟩
      clear sN gN hn1 hn2 hn3 hn4 hn5 hn6 hn7 hn8
      refine hK.out _ _ trivial (fun hHeld => ?_)
      clear hK K
      try simp only [Act.put, kBs]
      have u5 := (za K5).one.cell 0
      simp only [kGs] at u5
      refine wpAnyH_ready (rs := [1, 4]) (by kernel_rfl) (by simp) ?_
      refine AllReadyH.cons rfl (fun K hK => ?_) (AllReadyH.cons rfl (fun K hK => ?_) AllReadyH.nil)
      ·go_simp
       refine hK.out _ _ trivial (fun hHeld => ?_)
       clear hK K
       try simp only [Act.put, kBs]
       refine wpAnyH_ready (rs := [4]) (by kernel_rfl) (by simp) ?_
       refine AllReadyH.cons rfl (fun K hK => ?_) AllReadyH.nil
       go_simp
       refine hK.out _ _ trivial (fun hHeld => ?_)
       clear hK K
       try simp only [Act.put, kBs]
       refine wpAnyH_ready (rs := [5]) (by kernel_rfl) (by simp) ?_
       refine AllReadyH.cons rfl (fun K hK => ?_) AllReadyH.nil
       refine Mem.zd0 rfl _ _ 34 rfl (w.heap.size + 2) 88 i0 _ 5 56 Tryz.underlying34 hi hz0 hz1 hz2 rfl (by decide) _ _ _ rfl (Mem.zd4 (za K5).own _) ⟨wN.heap.size, 0, none⟩ 1 1 (Pl.Nd.cs ⟨np, nk, nd, nt, nm⟩) rfl rfl (Mem.zi9 wN ⟨np, nk, nd, nt, nm⟩ _) (Mem.zi1 ⟨np, nk, nd, nt, nm⟩) (by unfold maxLen; omega) (by omega) (by have := (za K5).lt; simp; omega) ?_
       intro v' wZ hownZ hgrow
       have K6 := hide ((za K5).alloc (.cells (Pl.Nd.cs ⟨np, nk, nd, nt, nm⟩).toArray 88))
       obtain ⟨a', cap', hv'⟩ := Mem.za3 hownZ
       subst hv'
       have BM := hide ((za K6).mid hgrow)
       have hown2 := Mem.zg7 (L := L) (n := ⟨np, nk, nd, nt, nm⟩) hownZ
       have KZ := hide ((za K6).app (v' := .slice a' (L.length + 1) cap') (L' := L ++ [⟨np, nk, nd, nt, nm⟩]) hgrow hown2 (fun m hm => by
        rcases List.mem_append.1 hm with h9 | h9
        ·exact (za K6).ok m h9
        ·rw [List.mem_singleton] at h9; rw [h9]; exact za HNN))
       refine hK.out _ _ trivial (fun hHeld => ?_)
       clear hK K
       try simp only [Act.put, kBs]
       have m0 := (za BM).cell 0
       have mf := (za BM).fr 0
       simp only [kGs] at m0
       clear hownZ hown2 hgrow K5 K6
       refine tka (i := 6) rfl ?_
       try simp only [Act.put, kBs]
       refine wpAnyH_ready (rs := [7]) (by kernel_rfl) (by simp) ?_
       refine AllReadyH.cons rfl (fun K hK => ?_) AllReadyH.nil
       go_simp
       refine hK.out _ _ trivial (fun hHeld => ?_)
       clear hK K
       try simp only [Act.put, kBs]
       refine wpAnyH_done (by kernel_rfl) ?_ _
       have hD := (za KZ).done
       have w0' := (za KZ).one.cell 0
       have w2' := (za KZ).two.cell 0
       have wf' := (za KZ).two.fr 0
       simp only [kGs] at w0' w2'
       have hok := (za KZ).ok
       go_wp2
       have q := hD.2.2.2.cell
       refine bodyPost_ret (v := .agg #[.slice a' (L.length + 1) cap']) (by simp [results, Tryz.results66, go_sem, q]) rfl ⟨a', cap', L ++ [⟨np, nk, nd, nt, nm⟩], by rw [List.length_append, List.length_singleton]; omega, hok, by rw [List.length_append, List.length_singleton], hD.1, hD.2.1, hD.2.2.1⟩
      ·go_simp
       refine hK.out _ _ trivial (fun hHeld => ?_)
       clear hK K
       try simp only [Act.put, kBs]
       have u6 := ((za K5).alloc (.cells (Pl.Nd.cs ⟨np, nk, nd, nt, nm⟩).toArray 88)).one.cell 0
       simp only [kGs, Pl.Nd.cs] at u6
       refine wpAnyH_ready (rs := [1]) (by kernel_rfl) (by simp) ?_
       refine AllReadyH.cons rfl (fun K hK => ?_) AllReadyH.nil
       go_simp
       refine hK.out _ _ trivial (fun hHeld => ?_)
       clear hK K
       try simp only [Act.put, kBs]
       refine wpAnyH_ready (rs := [5]) (by kernel_rfl) (by simp) ?_
       refine AllReadyH.cons rfl (fun K hK => ?_) AllReadyH.nil
       refine Mem.zd0 rfl _ _ 34 rfl (w.heap.size + 2) 88 i0 _ 5 56 Tryz.underlying34 hi hz0 hz1 hz2 rfl (by decide) _ _ _ rfl (Mem.zd4 (za K5).own _) ⟨wN.heap.size, 0, none⟩ 1 1 (Pl.Nd.cs ⟨np, nk, nd, nt, nm⟩) rfl rfl (Mem.zi9 wN ⟨np, nk, nd, nt, nm⟩ _) (Mem.zi1 ⟨np, nk, nd, nt, nm⟩) (by unfold maxLen; omega) (by omega) (by have := (za K5).lt; simp; omega) ?_
       intro v' wZ hownZ hgrow
       have K6 := hide ((za K5).alloc (.cells (Pl.Nd.cs ⟨np, nk, nd, nt, nm⟩).toArray 88))
       obtain ⟨a', cap', hv'⟩ := Mem.za3 hownZ
       subst hv'
       have BM := hide ((za K6).mid hgrow)
       have hown2 := Mem.zg7 (L := L) (n := ⟨np, nk, nd, nt, nm⟩) hownZ
       have KZ := hide ((za K6).app (v' := .slice a' (L.length + 1) cap') (L' := L ++ [⟨np, nk, nd, nt, nm⟩]) hgrow hown2 (fun m hm => by
        rcases List.mem_append.1 hm with h9 | h9
        ·exact (za K6).ok m h9
        ·rw [List.mem_singleton] at h9; rw [h9]; exact za HNN))
       refine hK.out _ _ trivial (fun hHeld => ?_)
       clear hK K
       try simp only [Act.put, kBs]
       have m0 := (za BM).cell 0
       have mf := (za BM).fr 0
       simp only [kGs] at m0
       clear hownZ hown2 hgrow K5 K6
       refine tka (i := 6) rfl ?_
       try simp only [Act.put, kBs]
       refine wpAnyH_ready (rs := [7]) (by kernel_rfl) (by simp) ?_
       refine AllReadyH.cons rfl (fun K hK => ?_) AllReadyH.nil
       go_simp
       refine hK.out _ _ trivial (fun hHeld => ?_)
       clear hK K
       try simp only [Act.put, kBs]
       refine wpAnyH_done (by kernel_rfl) ?_ _
       have hD := (za KZ).done
       have w0' := (za KZ).one.cell 0
       have w2' := (za KZ).two.cell 0
       have wf' := (za KZ).two.fr 0
       simp only [kGs] at w0' w2'
       have hok := (za KZ).ok
       go_wp2
       have q := hD.2.2.2.cell
       refine bodyPost_ret (v := .agg #[.slice a' (L.length + 1) cap']) (by simp [results, Tryz.results66, go_sem, q]) rfl ⟨a', cap', L ++ [⟨np, nk, nd, nt, nm⟩], by rw [List.length_append, List.length_singleton]; omega, hok, by rw [List.length_append, List.length_singleton], hD.1, hD.2.1, hD.2.2.1⟩
    ·skip
     by_cases h1 : ¬ (0 : Int) < (L.length : Int)
     ·have u0 := (za KB).one.cell 0
      simp only [kGs] at u0
      have hD := (za KB).done
      have u2 := (za KB).two.cell 0
      have uf := (za KB).two.fr 0
      simp only [kGs] at u2
      have hok := (za KB).ok
      go_wp2
      have q := hD.2.2.2.cell
      refine bodyPost_ret (v := .agg #[.slice va L.length vc]) (by simp [results, Tryz.results66, go_sem, q]) rfl ⟨va, vc, L, ?_, ?_, rfl, hD.1, hD.2.1, hD.2.2.1⟩
      ·omega
      ·exact hok
     ·have h1' : 0 < L.length := by omega
      have i0' : (0 : Int) < (L.length : Int) := by omega
      clear h1
      obtain ⟨g, rfl, hcv⟩ := (za KB).row h1'
      have u0 := (za KB).one.cell 0
      have u1 := (za KB).one.fr 0
      have u2 := (za KB).two.cell 0
      have uf := (za KB).two.fr 0
      simp only [kGs] at u0 u2
      have hok := (za KB).ok
      have s1 : (1 : Int) ≤ (L.length : Int) := by omega
      by_cases hv1 : vc = 1
      ·have hl1 : L.length = 1 := by omega
       subst hv1
       have hD := (za KB).cut1 (v' := .slice (some ⟨g, 0, none⟩) 0 0) (va' := some ⟨g, 0, none⟩) (vc' := 0) (by rw [List.length_tail, hl1]) h1' (.inl ⟨hl1, rfl⟩)
       go_wp2
       have q := hD.2.2.2.cell
       refine bodyPost_ret (v := .agg #[.slice (some ⟨g, 0, none⟩) 0 0]) (by simp [results, Tryz.results66, go_sem, q]) rfl ⟨_, _, L.tail, by rw [List.length_tail]; omega, fun m hm => hok m (List.mem_of_mem_tail hm), by rw [List.length_tail, hl1], hD.1, hD.2.1, hD.2.2.1⟩
      ·have hD := (za KB).cut1 (v' := .slice (some ⟨g, 5, none⟩) (L.length - 1) (vc - 1)) (va' := some ⟨g, 5, none⟩) (vc' := vc - 1) (by rw [List.length_tail]) h1' (.inr ⟨rfl, rfl⟩)
       go_wp2
       have q := hD.2.2.2.cell
       refine bodyPost_ret (v := .agg #[.slice (some ⟨g, 5, none⟩) (L.length - 1) (vc - 1)]) (by simp [results, Tryz.results66, go_sem, q]) rfl ⟨_, _, L.tail, by rw [List.length_tail]; omega, fun m hm => hok m (List.mem_of_mem_tail hm), by rw [List.length_tail], hD.1, hD.2.1, hD.2.2.1⟩
    ·skip
     have hlL : L.length ≤ 21 := by omega
     clear hk
     go_wp2
     go_loopw [7] (fun i wr => ∃ (j : Nat) (v : Value) (L2 : List Pl.Nd), i = .int .i64 (j : Int) ∧ j ≤ L2.length ∧ L2.length ≤ 42 ∧ Hid (Tk w wr S a len cap v L2)) (fun i _ => 64 - (intOf i).toNat)
     case atStart => exact ⟨0, _, L, rfl, Nat.zero_le _, by omega, KB⟩
     case round =>
      obtain ⟨j, v2, L2, rfl, hj, hj2, KC⟩ := hrel
      clear KB
      obtain ⟨va2, vc2, hv2⟩ := Mem.za3 (za KC).own
      subst hv2
      have MK : Hid (∀ W', Tk w W' S a len cap (.slice va2 L2.length vc2) L2 → (fun W' => Tk w W' S a len cap (.slice va2 L2.length vc2) L2 ∧ W'.cell? ⟨w.heap.size + 1, 0, none⟩ = some (.slice va2 L2.length vc2)) W') := fun W' h => ⟨h, h.one.cell 0⟩
      go_wp2_with fail
      refine wp_region_held_drew (S := fun W' => Tk w W' S a len cap (.slice va2 L2.length vc2) L2 ∧ W'.cell? ⟨w.heap.size + 1, 0, none⟩ = some (.slice va2 L2.length vc2)) (by kernel_rfl) ?_ (fun hHeld => ?_)
      ·exact za MK _ (za KC).drew
      refine tka (i := 0) rfl ?_
      try simp only [Act.put, kBs]
      refine tka (i := 1) rfl ?_
      try simp only [Act.put, kBs]
      refine tka (i := 2) rfl ?_
      try simp only [Act.put, kBs]
      refine tka (i := 3) rfl ?_
      try simp only [Act.put, kBs]
      refine wpAnyH_ready (rs := [4]) (by kernel_rfl) (by simp) ?_
      refine AllReadyH.cons rfl (fun K hK => ?_) AllReadyH.nil
      go_simp
      refine (zc9 S a len cap 3 _ hHeld.1.src (by omega)).mono ?_
      rintro e wX ⟨r, rfl, r0, r1, sX, gX⟩
      refine hK.out _ _ ?_ (fun hHeld => ?_)
      ·exact za MK _ (hHeld.1.call sX gX)
      clear hK K
      try simp only [Act.put, kBs]
      have e39 : IntKind.i64.wrap (39 + r) = 39 + r := wrap_small (by omega) (by omega)
      refine tka (i := 5) rfl ?_
      try simp only [Act.put, kBs]
      refine tka (i := 6) rfl ?_
      try simp only [Act.put, kBs]
      refine wpAnyH_done (by kernel_rfl) ?_ _
      generalize wX = wc at hHeld ⊢
      have KB := hide hHeld.1
      clear hHeld MK KC
      by_cases hlt : (L2.length : Int) < 39 + r
      ·have e100 : IntKind.i64.wrap (100 + (j : Int)) = 100 + (j : Int) := wrap_small (by omega) (by omega)
       have hdec : ∀ W, Calls Tryz.prog 78 #[.int .i64 (100 + (j : Int))] W fun e w' => ∃ t : ByteArray, t.size ≤ 100 + j ∧ e = .returned (.string t) ∧ Below W.heap.size W w' := fun W => by
        have h := WDec.dec_any (100 + j) W (by omega) (by omega)
        rw [show ((100 + j : Nat) : Int) = 100 + (j : Int) by omega] at h
        exact h
       go_wp2_with fail
       refine wp_region_held_drew (S := fun _ => True) (by kernel_rfl) ?_ (fun hHeld => ?_)
       ·trivial
       have KD := hide (za KB).drew
       generalize wc.drew = WD at KD ⊢
       have u0 := (za KD).one.cell 0
       simp only [kGs] at u0
       clear KB
       refine tka (i := 0) rfl ?_
       try simp only [Act.put, kBs]
       refine tka (i := 2) rfl ?_
       try simp only [Act.put, kBs]
       refine tka (i := 3) rfl ?_
       try simp only [Act.put, kBs]
       refine wpAnyH_ready (rs := [1, 4]) (by kernel_rfl) (by simp) ?_
       refine AllReadyH.cons rfl (fun K hK => ?_) (AllReadyH.cons rfl (fun K hK => ?_) AllReadyH.nil)
       ·go_simp
        refine hK.out _ _ trivial (fun hHeld => ?_)
        clear hK K
        try simp only [Act.put, kBs]
        refine wpAnyH_ready (rs := [4]) (by kernel_rfl) (by simp) ?_
        refine AllReadyH.cons rfl (fun K hK => ?_) AllReadyH.nil
        go_simp
        refine (hdec _).mono ?_
        rintro e wN ⟨t, ht, rfl, bN⟩
        have K5 := hide ((za KD).below bN)
        have HNN : Hid (Pl.zn8 ⟨(⟨#[122]⟩ : ByteArray) ++ t, 2, ⟨#[]⟩, 0, 0⟩) := ⟨by show (((⟨#[122]⟩ : ByteArray) ++ t).size : Nat) ≤ 200; rw [ByteArray.size_append]; have : (⟨#[122]⟩ : ByteArray).size = 1 := rfl; omega, by dsimp only; decide, by dsimp only; decide, by dsimp only; decide, by dsimp only; decide, by dsimp only; decide, by dsimp only; decide, by dsimp only; decide⟩
        have ho : ¬ 9223372036854775807 < 1 + t.size := by omega
        clear bN
        refine hK.out _ _ trivial (fun hHeld => ?_)
        clear hK K
        try simp only [Act.put, kBs]
        refine tka (i := 5) rfl ?_
        try simp only [Act.put, kBs]
        refine tka (i := 6) rfl ?_
        try simp only [Act.put, kBs]
        refine wpAnyH_ready (rs := [7]) (by kernel_rfl) (by simp) ?_
        refine AllReadyH.cons rfl (fun K hK => ?_) AllReadyH.nil
        go_simp
        refine hK.out _ _ trivial (fun hHeld => ?_)
        clear hK K
        try simp only [Act.put, kBs]
        refine wpAnyH_ready (rs := [8]) (by kernel_rfl) (by simp) ?_
        refine AllReadyH.cons rfl (fun K hK => ?_) AllReadyH.nil
        refine Mem.zd0 rfl _ _ 34 rfl (w.heap.size + 2) 88 i0 _ 5 56 Tryz.underlying34 hi hz0 hz1 hz2 rfl (by decide) _ _ _ rfl (Mem.zd4 (za K5).own _) ⟨wN.heap.size, 0, none⟩ 1 1 (Pl.Nd.cs ⟨(⟨#[122]⟩ : ByteArray) ++ t, 2, ⟨#[]⟩, 0, 0⟩) rfl rfl (Mem.zi9 wN ⟨(⟨#[122]⟩ : ByteArray) ++ t, 2, ⟨#[]⟩, 0, 0⟩ _) (Mem.zi1 ⟨(⟨#[122]⟩ : ByteArray) ++ t, 2, ⟨#[]⟩, 0, 0⟩) (by unfold maxLen; omega) (by omega) (by have := (za K5).lt; simp; omega) ?_
        intro v' wZ hownZ hgrow
        have K6 := hide ((za K5).alloc (.cells (Pl.Nd.cs ⟨(⟨#[122]⟩ : ByteArray) ++ t, 2, ⟨#[]⟩, 0, 0⟩).toArray 88))
        obtain ⟨a', cap', hv'⟩ := Mem.za3 hownZ
        subst hv'
        have BM := hide ((za K6).mid hgrow)
        have hown2 := Mem.zg7 (L := L2) (n := ⟨(⟨#[122]⟩ : ByteArray) ++ t, 2, ⟨#[]⟩, 0, 0⟩) hownZ
        have KZ := hide ((za K6).app (v' := .slice a' (L2.length + 1) cap') (L' := L2 ++ [⟨(⟨#[122]⟩ : ByteArray) ++ t, 2, ⟨#[]⟩, 0, 0⟩]) hgrow hown2 (fun m hm => by
         rcases List.mem_append.1 hm with h9 | h9
         ·exact (za K6).ok m h9
         ·rw [List.mem_singleton] at h9; rw [h9]; exact za HNN))
        refine hK.out _ _ trivial (fun hHeld => ?_)
        clear hK K
        try simp only [Act.put, kBs]
        have m0 := (za BM).cell 0
        have mf := (za BM).fr 0
        simp only [kGs] at m0
        clear hownZ hown2 hgrow K5 K6
        refine tka (i := 9) rfl ?_
        try simp only [Act.put, kBs]
        refine wpAnyH_ready (rs := [10]) (by kernel_rfl) (by simp) ?_
        refine AllReadyH.cons rfl (fun K hK => ?_) AllReadyH.nil
        go_simp
        refine hK.out _ _ trivial (fun hHeld => ?_)
        clear hK K
        try simp only [Act.put, kBs]
        refine wpAnyH_done (by kernel_rfl) ?_ _
        go_wp2
        go_roundw
        case rel => exact ⟨j + 1, _, _, by go_num, by rw [List.length_append, List.length_singleton]; omega, by rw [List.length_append, List.length_singleton]; omega, KZ⟩
        case measure => simp [intOf]; omega
       ·go_simp
        refine (hdec _).mono ?_
        rintro e wN ⟨t, ht, rfl, bN⟩
        have K5 := hide ((za KD).below bN)
        have HNN : Hid (Pl.zn8 ⟨(⟨#[122]⟩ : ByteArray) ++ t, 2, ⟨#[]⟩, 0, 0⟩) := ⟨by show (((⟨#[122]⟩ : ByteArray) ++ t).size : Nat) ≤ 200; rw [ByteArray.size_append]; have : (⟨#[122]⟩ : ByteArray).size = 1 := rfl; omega, by dsimp only; decide, by dsimp only; decide, by dsimp only; decide, by dsimp only; decide, by dsimp only; decide, by dsimp only; decide, by dsimp only; decide⟩
        have ho : ¬ 9223372036854775807 < 1 + t.size := by omega
        clear bN
        refine hK.out _ _ trivial (fun hHeld => ?_)
        clear hK K
        try simp only [Act.put, kBs]
        refine tka (i := 5) rfl ?_
        try simp only [Act.put, kBs]
        refine tka (i := 6) rfl ?_
        try simp only [Act.put, kBs]
        have u5 := (za K5).one.cell 0
        simp only [kGs] at u5
        refine wpAnyH_ready (rs := [1, 7]) (by kernel_rfl) (by simp) ?_
        refine AllReadyH.cons rfl (fun K hK => ?_) (AllReadyH.cons rfl (fun K hK => ?_) AllReadyH.nil)
        ·go_simp
         refine hK.out _ _ trivial (fun hHeld => ?_)
         clear hK K
         try simp only [Act.put, kBs]
         refine wpAnyH_ready (rs := [7]) (by kernel_rfl) (by simp) ?_
         refine AllReadyH.cons rfl (fun K hK => ?_) AllReadyH.nil
         go_simp
         refine hK.out _ _ trivial (fun hHeld => ?_)
         clear hK K
         try simp only [Act.put, kBs]
         refine wpAnyH_ready (rs := [8]) (by kernel_rfl) (by simp) ?_
         refine AllReadyH.cons rfl (fun K hK => ?_) AllReadyH.nil
         refine Mem.zd0 rfl _ _ 34 rfl (w.heap.size + 2) 88 i0 _ 5 56 Tryz.underlying34 hi hz0 hz1 hz2 rfl (by decide) _ _ _ rfl (Mem.zd4 (za K5).own _) ⟨wN.heap.size, 0, none⟩ 1 1 (Pl.Nd.cs ⟨(⟨#[122]⟩ : ByteArray) ++ t, 2, ⟨#[]⟩, 0, 0⟩) rfl rfl (Mem.zi9 wN ⟨(⟨#[122]⟩ : ByteArray) ++ t, 2, ⟨#[]⟩, 0, 0⟩ _) (Mem.zi1 ⟨(⟨#[122]⟩ : ByteArray) ++ t, 2, ⟨#[]⟩, 0, 0⟩) (by unfold maxLen; omega) (by omega) (by have := (za K5).lt; simp; omega) ?_
         intro v' wZ hownZ hgrow
         have K6 := hide ((za K5).alloc (.cells (Pl.Nd.cs ⟨(⟨#[122]⟩ : ByteArray) ++ t, 2, ⟨#[]⟩, 0, 0⟩).toArray 88))
         obtain ⟨a', cap', hv'⟩ := Mem.za3 hownZ
         subst hv'
         have BM := hide ((za K6).mid hgrow)
         have hown2 := Mem.zg7 (L := L2) (n := ⟨(⟨#[122]⟩ : ByteArray) ++ t, 2, ⟨#[]⟩, 0, 0⟩) hownZ
         have KZ := hide ((za K6).app (v' := .slice a' (L2.length + 1) cap') (L' := L2 ++ [⟨(⟨#[122]⟩ : ByteArray) ++ t, 2, ⟨#[]⟩, 0, 0⟩]) hgrow hown2 (fun m hm => by
          rcases List.mem_append.1 hm with h9 | h9
          ·exact (za K6).ok m h9
          ·rw [List.mem_singleton] at h9; rw [h9]; exact za HNN))
         refine hK.out _ _ trivial (fun hHeld => ?_)
         clear hK K
         try simp only [Act.put, kBs]
         have m0 := (za BM).cell 0
         have mf := (za BM).fr 0
         simp only [kGs] at m0
         clear hownZ hown2 hgrow K5 K6
         refine tka (i := 9) rfl ?_
         try simp only [Act.put, kBs]
         refine wpAnyH_ready (rs := [10]) (by kernel_rfl) (by simp) ?_
         refine AllReadyH.cons rfl (fun K hK => ?_) AllReadyH.nil
         go_simp
         refine hK.out _ _ trivial (fun hHeld => ?_)
         clear hK K
         try simp only [Act.put, kBs]
         refine wpAnyH_done (by kernel_rfl) ?_ _
         go_wp2
         go_roundw
         case rel => exact ⟨j + 1, _, _, by go_num, by rw [List.length_append, List.length_singleton]; omega, by rw [List.length_append, List.length_singleton]; omega, KZ⟩
         case measure => simp [intOf]; omega
        ·go_simp
         refine hK.out _ _ trivial (fun hHeld => ?_)
         clear hK K
         try simp only [Act.put, kBs]
         have u6 := ((za K5).alloc (.cells (Pl.Nd.cs ⟨(⟨#[122]⟩ : ByteArray) ++ t, 2, ⟨#[]⟩, 0, 0⟩).toArray 88)).one.cell 0
         simp only [kGs, Pl.Nd.cs] at u6
         refine wpAnyH_ready (rs := [1]) (by kernel_rfl) (by simp) ?_
         refine AllReadyH.cons rfl (fun K hK => ?_) AllReadyH.nil
         go_simp
         refine hK.out _ _ trivial (fun hHeld => ?_)
         clear hK K
         try simp only [Act.put, kBs]
         refine wpAnyH_ready (rs := [8]) (by kernel_rfl) (by simp) ?_
         refine AllReadyH.cons rfl (fun K hK => ?_) AllReadyH.nil
         refine Mem.zd0 rfl _ _ 34 rfl (w.heap.size + 2) 88 i0 _ 5 56 Tryz.underlying34 hi hz0 hz1 hz2 rfl (by decide) _ _ _ rfl (Mem.zd4 (za K5).own _) ⟨wN.heap.size, 0, none⟩ 1 1 (Pl.Nd.cs ⟨(⟨#[122]⟩ : ByteArray) ++ t, 2, ⟨#[]⟩, 0, 0⟩) rfl rfl (Mem.zi9 wN ⟨(⟨#[122]⟩ : ByteArray) ++ t, 2, ⟨#[]⟩, 0, 0⟩ _) (Mem.zi1 ⟨(⟨#[122]⟩ : ByteArray) ++ t, 2, ⟨#[]⟩, 0, 0⟩) (by unfold maxLen; omega) (by omega) (by have := (za K5).lt; simp; omega) ?_
         intro v' wZ hownZ hgrow
         have K6 := hide ((za K5).alloc (.cells (Pl.Nd.cs ⟨(⟨#[122]⟩ : ByteArray) ++ t, 2, ⟨#[]⟩, 0, 0⟩).toArray 88))
         obtain ⟨a', cap', hv'⟩ := Mem.za3 hownZ
         subst hv'
         have BM := hide ((za K6).mid hgrow)
         have hown2 := Mem.zg7 (L := L2) (n := ⟨(⟨#[122]⟩ : ByteArray) ++ t, 2, ⟨#[]⟩, 0, 0⟩) hownZ
         have KZ := hide ((za K6).app (v' := .slice a' (L2.length + 1) cap') (L' := L2 ++ [⟨(⟨#[122]⟩ : ByteArray) ++ t, 2, ⟨#[]⟩, 0, 0⟩]) hgrow hown2 (fun m hm => by
          rcases List.mem_append.1 hm with h9 | h9
          ·exact (za K6).ok m h9
          ·rw [List.mem_singleton] at h9; rw [h9]; exact za HNN))
         refine hK.out _ _ trivial (fun hHeld => ?_)
         clear hK K
         try simp only [Act.put, kBs]
         have m0 := (za BM).cell 0
         have mf := (za BM).fr 0
         simp only [kGs] at m0
         clear hownZ hown2 hgrow K5 K6
         refine tka (i := 9) rfl ?_
         try simp only [Act.put, kBs]
         refine wpAnyH_ready (rs := [10]) (by kernel_rfl) (by simp) ?_
         refine AllReadyH.cons rfl (fun K hK => ?_) AllReadyH.nil
         go_simp
         refine hK.out _ _ trivial (fun hHeld => ?_)
         clear hK K
         try simp only [Act.put, kBs]
         refine wpAnyH_done (by kernel_rfl) ?_ _
         go_wp2
         go_roundw
         case rel => exact ⟨j + 1, _, _, by go_num, by rw [List.length_append, List.length_singleton]; omega, by rw [List.length_append, List.length_singleton]; omega, KZ⟩
         case measure => simp [intOf]; omega
      ·skip
       have hD := (za KB).done
       have u0 := (za KB).one.cell 0
       have u2 := (za KB).two.cell 0
       have uf := (za KB).two.fr 0
       simp only [kGs] at u0 u2
       have hok := (za KB).ok
       go_wp2
       have q := hD.2.2.2.cell
       refine bodyPost_ret (v := .agg #[.slice va2 L2.length vc2]) (by simp [results, Tryz.results66, go_sem, q]) rfl ⟨va2, vc2, L2, ?_, ?_, rfl, hD.1, hD.2.1, hD.2.2.1⟩
       ·omega
       ·exact hok
end WSrc
end Go.Proofs.YtioildojmckepaaGreatDoor
