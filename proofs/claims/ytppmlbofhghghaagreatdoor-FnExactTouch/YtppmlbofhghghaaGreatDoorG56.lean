/- Several texts of one claim in one file: WTouchT, WTouching, WTouchN. -/
import Derived.Test.YtppmlbofhghghaaGreatDoorG03
import Derived.Test.YtppmlbofhghghaaGreatDoorG28
import Derived.Test.YtppmlbofhghghaaGreatDoorWAboveO
import Derived.Test.YtppmlbofhghghaaGreatDoorG33
import Derived.Test.YtppmlbofhghghaaGreatDoorPlainChg
import Derived.Test.YtppmlbofhghghaaGreatDoorG54
import Derived.Test.YtppmlbofhghghaaGreatDoorPlainWayT
import Derived.Test.YtppmlbofhghghaaGreatDoorG34
import Derived.Laws.EntriesVeiled
import Derived.Test.YtppmlbofhghghaaGreatDoorG39
namespace Go.Proofs.YtppmlbofhghghaaGreatDoor
open Go.RowKit
namespace zh3
set_option linter.unusedSimpArgs false in
set_option maxRecDepth 100000 in
set_option maxHeartbeats 8000000 in
theorem touch_specN (b o cap : Nat) (Is : List Pl.It) (p : ByteArray) (t : Int) (w : World) (hl : Is.length ≤ 1048576) (hv : Mem.zb3 w (some ⟨b, o, none⟩) Is) (hok : ∀ x ∈ Is, x.t.L.length ≤ 1048576 ∧ ∀ n ∈ x.t.L, n.path.size ≤ 1048576 ∧ n.data.size ≤ 1048576) (hA : ∀ x ∈ Is, zb1.okA w x.t.a x.t.cap x.t.L) (hp : p.size ≤ 1048576) :
  Calls Tryz.prog 21 #[.slice (some ⟨b, o, none⟩) Is.length cap, .string p, .int .i64 t] w fun e w' => Outs w w' (Pl.zb5 (Is.map Pl.It.r) (⟨p, 1, ⟨#[]⟩, t, 0⟩ : Pl.Nd) (fun S => Pl.tchC S p) (fun S L1 _ => Pl.putL L1 (Pl.touN S L1 p t))).1 (Pl.zb5 (Is.map Pl.It.r) (⟨p, 1, ⟨#[]⟩, t, 0⟩ : Pl.Nd) (fun S => Pl.tchC S p) (fun S L1 _ => Pl.putL L1 (Pl.touN S L1 p t))).2 e ∧ Below w.heap.size w w' := by
 generalize hNE : Pl.zb5 (Is.map Pl.It.r) (⟨p, 1, ⟨#[]⟩, t, 0⟩ : Pl.Nd) (fun S => Pl.tchC S p) (fun S L1 _ => Pl.putL L1 (Pl.touN S L1 p t)) = NE
 have HNE := hide hNE
 clear hNE
 have hR : ∀ x ∈ Is, Mem.okR x.t.a x.t.cap x.t.L := fun x hx => Mem.zt0 (hA x hx)
 have b1 : Below w.heap.size w (w.alloc (.cells #[.slice none 0 0, .int .i64 0] 26)) := (Below.refl _ _).alloc (Nat.le_refl _) _
 have O1 : Mem.Blk (w.alloc (.cells #[.slice none 0 0, .int .i64 0] 26)) w.heap.size #[.slice none 0 0, .int .i64 0] 26 := Mem.Blk.new _ _ _
 have hs1 : (w.alloc (.cells #[.slice none 0 0, .int .i64 0] 26)).heap.size = w.heap.size + 1 := by simp
 have HBE := hide (ye8 (some ⟨b, o, none⟩) cap Is (⟨p, 2, ⟨#[]⟩, t, 0⟩ : Pl.Nd) (w.alloc (.cells #[.slice none 0 0, .int .i64 0] 26)) hl (Mem.za6 hv b1) hok hR hp (by decide : (⟨#[]⟩ : ByteArray).size ≤ 1048576))
 simp only at HBE
 rw [Pl.begC_kind (Is.map Pl.It.r) p t, Pl.begT_kind (Is.map Pl.It.r) p t] at HBE
 have HV := hide hv
 have HA := hide hA
 have HR := hide hR
 clear hv hok hA hR
 go_enter Tryz.func21, Tryz.ntmps21
 go_wp2_with fail
 generalize (w.alloc (.cells #[.slice none 0 0, .int .i64 0] 26)) = w1 at b1 O1 hs1 HBE ⊢
 refine (za HBE).mono ?_
 rintro e w2 ⟨v, rfl, own, b2⟩
 obtain ⟨va, vc, rfl⟩ := Mem.za2 own
 have bw2 := b1.trans (b2.mono b1.size)
 have O2 := O1.call b2
 rw [hs1] at own
 by_cases hC : Pl.begC (Is.map Pl.It.r) (⟨p, 1, ⟨#[]⟩, t, 0⟩ : Pl.Nd) = 0
 case neg =>
  obtain rfl := (za HNE).symm.trans (Pl.yd0 hC _ _)
  generalize hLn : (Pl.begT (Is.map Pl.It.r) (⟨p, 1, ⟨#[]⟩, t, 0⟩ : Pl.Nd)).length = ln
  have QI := hide (⟨bw2.alloc (o := .cells #[.slice va ln vc] 50) bw2.size, O2.alloc _⟩ : Below w.heap.size w (w2.alloc (.cells #[.slice va ln vc] 50)) ∧ Mem.Blk (w2.alloc (.cells #[.slice va ln vc] 50)) w.heap.size #[.slice none 0 0, .int .i64 0] 26)
  clear O1 O2 own bw2 b2 b1 HBE HV HA HR hLn hs1 HNE
  go_wp2_with fail
  refine (zc1 (Pl.begC (Is.map Pl.It.r) (⟨p, 1, ⟨#[]⟩, t, 0⟩ : Pl.Nd)) _).mono ?_
  rintro e wI ⟨rfl, bI⟩
  have bJ := (za QI).1.trans (bI.mono (za QI).1.size)
  have RJ := (za QI).2.call bI
  have d0 := RJ.cell 0
  have d1 := RJ.cell 1
  have f0 := RJ.fr 0
  have f1 := RJ.fr 1
  simp only [kA0, kA1, kA2] at d0 d1
  go_wp2
  refine bodyPost_ret (v := .agg #[.slice none 0 0, .int .i64 (Pl.begC (Is.map Pl.It.r) (⟨p, 1, ⟨#[]⟩, t, 0⟩ : Pl.Nd))]) (by simp [results, Tryz.results21, go_sem, d0, d1]) rfl ⟨⟨_, [], rfl, Mem.Io.nil _ _, rfl⟩, ?_⟩
  exact (bJ.setCell (Nat.le_refl _) _).setCell (Nat.le_refl _) _
 obtain ⟨z1, z2, z3, z4, z5, z6, z7⟩ := Pl.zu8 hC
 obtain ⟨FF0, hF⟩ := Option.isSome_iff_exists.1 z4
 obtain ⟨L, K, hKs, hfl, hko, hnx⟩ := Pl.zm8 hF
 have hl12 := Pl.zn4 hF
 rw [List.length_map] at hl12
 subst hKs
 rw [z7] at own ⊢
 rw [hC]
 have hpl := Pl.zt9 z6
 have hT40 := Pl.yd9 (Is.map Pl.It.r)
 generalize hT : Pl.zc5 (Is.map Pl.It.r) = T at own hpl hT40 ⊢
 have htr := Pl.ze7 hpl
 have hTn := (Pl.zd2 T).1 htr
 have HPL := hide (fun W (Q : Mem.ownN W (w.heap.size + 1) (.slice va T.length vc) T) => zc3.touch_specG va vc T p t W (by omega) (Mem.zt0 (Mem.zo0 Q)) (Mem.zc7 Q).2 (fun m hm => by
  have h1 := (hTn.2.1 m hm).1
  have h2 := Pl.zb8 (Pl.za9 h1).1
  have h3 := (Pl.zd3 h1).1
  omega) hp)
 have W3o := Mem.ze3 own ((Below.refl w2.heap.size w2).alloc (o := .cells #[.slice va T.length vc] 50) (Nat.le_refl _))
 have Q3 : Hid (Sg w (w2.alloc (.cells #[.slice va T.length vc] 50)) w2.heap.size va vc T) := hide ⟨bw2.alloc (o := .cells #[.slice va T.length vc] 50) bw2.size, O2.alloc _, Mem.Blk.new _ _ _, W3o, by have := O2.lt; omega⟩
 have s0 := (za Q3).sig.cell 0
 simp only [kA0, kA1] at s0
 clear O1 O2 own bw2 b2 b1 HBE W3o hs1 z1 z4
 go_wp2_with fail
 generalize w2.alloc (.cells #[.slice va T.length vc] 50) = w3 at Q3 s0 ⊢
 generalize w2.heap.size = X at Q3 s0 ⊢
 refine (za HPL _ (za Q3).own).mono ?_
 rintro e w4 ⟨v4, rfl, own4, b4⟩
 obtain ⟨a4, c4, rfl⟩ := Mem.za2 own4
 rw [Pl.zw0 ⟨z2, z3⟩ hpl z5]
 by_cases hP : Pl.tchC T p = 0
 case neg =>
  obtain rfl := (za HNE).symm.trans (Pl.beg_pc (pc := (fun S => Pl.tchC S p)) hC (by rw [hT]; exact hP) _)
  simp only [hT]
  have hPz : ¬ Pl.tchC T p = 0 := hP
  generalize hLn : (Pl.chgO T (⟨p, 1, ⟨#[]⟩, t, 0⟩ : Pl.Nd) _ _).length = ln
  have QI := hide (⟨((za Q3).call b4).bel.alloc (o := .cells #[.slice a4 ln c4, .int .i64 (Pl.tchC T p)] 55) ((za Q3).call b4).bel.size, ((za Q3).call b4).out.alloc _⟩ : Below w.heap.size w (w4.alloc (.cells #[.slice a4 ln c4, .int .i64 (Pl.tchC T p)] 55)) ∧ Mem.Blk (w4.alloc (.cells #[.slice a4 ln c4, .int .i64 (Pl.tchC T p)] 55)) w.heap.size #[.slice none 0 0, .int .i64 0] 26)
  have x1 := (Mem.Blk.new w4 #[.slice a4 ln c4, .int .i64 (Pl.tchC T p)] 55).cell 1
  simp only [kA0, kA1, kA2] at x1
  clear Q3 b4 own4 HPL HV HA HR s0 hLn HNE
  go_wp2_with fail
  refine (zc1 (Pl.tchC T p) _).mono ?_
  rintro e wI ⟨rfl, bI⟩
  have bJ := (za QI).1.trans (bI.mono (za QI).1.size)
  have RJ := (za QI).2.call bI
  have d0 := RJ.cell 0
  have d1 := RJ.cell 1
  have f0 := RJ.fr 0
  have f1 := RJ.fr 1
  simp only [kA0, kA1, kA2] at d0 d1
  go_wp2
  refine bodyPost_ret (v := .agg #[.slice none 0 0, .int .i64 (Pl.tchC T p)]) (by simp [results, Tryz.results21, go_sem, d0, d1]) rfl ⟨⟨_, [], rfl, Mem.Io.nil _ _, rfl⟩, ?_⟩
  exact (bJ.setCell (Nat.le_refl _) _).setCell (Nat.le_refl _) _
 have hD := Pl.dir_found htr (Pl.ya0 hP)
 have hLt : Pl.za5 (Pl.zd5 L K) = true := Pl.yc9 L K hko.1 hko.2.2.2.1
 have hpB := (Pl.za9 z5).1
 have hp0 : p.size ≠ 0 := (Pl.za9 z5).2
 obtain ⟨e1, h1, h2, h3⟩ := Pl.abv_all (L := Pl.zd5 L K) htr hLt hpB hD
 simp only at e1 h1 h2 h3
 rw [hP]
 have hYES := Pl.yh hC hnx hfl (pc := (fun S => Pl.tchC S p)) (by rw [hT]; exact hP) (fun S L1 _ => Pl.putL L1 (Pl.touN S L1 p t))
 simp only [hT] at hYES
 rw [e1] at hYES
 have HN2 := hide ((za HNE).symm.trans hYES)
 have HSM := hide (fun (x : Pl.It) (hx : x ∈ Is) => (show x.t.L.length ≤ 1000 by have h := ((Pl.zd2 _).1 (Pl.Fx.ok_mem hko x.r (by rw [hfl]; exact List.mem_map.2 ⟨x, hx, rfl⟩)).1).1; exact Nat.le_trans h (by decide)))
 obtain ⟨x, hxI, hxL, hxc, hxn, hbw, hlev⟩ := ye5 (za HV) hfl
 have hxA := za HA x hxI
 obtain ⟨xm, xa, xc, xL⟩ := x
 simp only [Pl.Tr.val] at hxL hxc hxn hxA
 subst hxL
 have hix : 0 ≤ (K.shape.level : Int) ∧ (K.shape.level : Int) < (Is.length : Int) := by omega
 have HFI := hide (fun W (bb : Below w.heap.size w W) => zs5.zq1 (some ⟨b, o, none⟩) cap Is hl12 W (Mem.za6 (za HV) bb) K.shape hF)
 have hnmP := Pl.zm hpB
 have hn1 : 1 ≤ (Pl.names p).length := List.length_pos_iff.2 (Pl.zs1 hp0)
 have hL40 := ((Pl.zd2 _).1 hLt).1
 have HAB := hide (fun W (Q : Sg w W X va vc T) => yf4 xa xc (Pl.zd5 L K) T va vc p W hnmP.1 hn1 hnmP.2 hp (zb1.zg3 hxA Q.bel.size) (Mem.za0 hxn Q.bel) (by omega) (fun m hm => by have := Pl.zb8 (Pl.za9 (((Pl.zd2 _).1 hLt).2.1 m hm).1).1; omega) (Mem.zc7 Q.own).2 (by omega) h1)
 generalize hxg : Pl.zd5 L K = xL at HAB hxc hxn hxA h2 h3 HN2 ⊢
 generalize hRg : Pl.abvN T xL (Pl.ways (Pl.names p) ((Pl.names p).length - 1)) = R at HAB h2 h3 HN2 ⊢
 obtain ⟨m, hmT⟩ := Pl.ya0 hP
 have HMT := hide hmT
 have HDD := hide (fun hk1 => Pl.dir_nodata htr hmT hk1)
 have hmp := (Pl.zp9 hmT).2
 have hTp : (Pl.touN T R p t).path = p := by unfold Pl.touN; rw [hmT]; exact hmp
 have HDI := hide (fun a' cap' W (hx2 : Mem.za1 W a' R) => yg1 a' cap' R p t W (by omega) hx2)
 simp only [Pl.Nd.val, Pl.dirN] at HDI
 have HPU := hide (fun a' cap' W (h1 : zb1.okA W a' cap' R) (hx2 : Mem.za1 W a' R) => zb1.yb9 a' cap' R (Pl.touN T R p t) W (by omega) h1 hx2 (fun m hm => by have := Pl.zb8 (h2.path m hm).1; omega) (by rw [hTp]; exact z2))
 have hOl := Pl.zx6 R (Pl.touN T R p t)
 have HDO := hide (fun a' ct W (bb : Below w.heap.size w W) (h1 : zb1.okA W a' ct (Pl.putL R (Pl.touN T R p t))) (hx2 : Mem.za1 W a' (Pl.putL R (Pl.touN T R p t))) => yj1 b o cap Is a' ct (Pl.putL R (Pl.touN T R p t)) K.shape W (Mem.za6 (za HV) bb) hl12 hF (fun x hx => za HSM x hx) (za HR) (by omega) (Mem.zt0 h1) hx2)
 generalize hOg : Pl.putL R (Pl.touN T R p t) = O at HPU HDO hOl HN2
 generalize (if 40 < O.length then (9 : Int) else 0) = cd at HDO HN2
 generalize (if 40 < O.length then [] else (Is.map Pl.It.r).set K.shape.level ((0 : Int), O)) = il at HDO HN2
 have MK : Hid (∀ W', Sg w W' X va vc T → (fun W' => Below w.heap.size w W' ∧ W'.cell? ⟨X, 0, none⟩ = some (.slice va T.length vc) ∧ W'.cell? ⟨b, o + K.shape.level * 2 + 1, none⟩ = some (.slice xa xL.length xc)) W') := fun W' h => ⟨h.bel, by have h' := h.sig.cell 0; simpa using h', (h.bel.cell (p := ⟨b, _, none⟩) hbw).trans hxc⟩
 have MG : Hid (∀ W' (Y : Nat) a2 c2, Sg w W' X va vc T → Mem.Blk W' Y #[.slice none 0 0] 50 → (zb1.okA W' a2 c2 R ∧ Mem.za1 W' a2 R) → w.heap.size < Y ∧ X < Y → Sg w (W'.setCell ⟨Y, 0, none⟩ (.slice a2 R.length c2)) X va vc T ∧ Mem.Blk (W'.setCell ⟨Y, 0, none⟩ (.slice a2 R.length c2)) Y #[.slice a2 R.length c2] 50 ∧ zb1.okA (W'.setCell ⟨Y, 0, none⟩ (.slice a2 R.length c2)) a2 c2 R ∧ Mem.za1 (W'.setCell ⟨Y, 0, none⟩ (.slice a2 R.length c2)) a2 R ∧ (w.heap.size < Y ∧ X < Y)) := fun W' Y a2 c2 h hY hl hlo =>
  ⟨h.far hY hlo _, by have h' := hY.put 0 (.slice a2 R.length c2); simpa using h', zb1.zg3 hl.1 (by simp), Mem.yk1 hl.2 hY _, hlo⟩
 have Q4 : Hid (Sg w (w4.alloc (.cells #[.slice a4 (Pl.chgO T (⟨p, 1, ⟨#[]⟩, t, 0⟩ : Pl.Nd) 0 (Pl.tchL T p t)).length c4, .int .i64 0] 55)) X va vc T) := hide (((za Q3).call b4).call ((Below.refl w4.heap.size w4).alloc (o := .cells #[.slice a4 (Pl.chgO T (⟨p, 1, ⟨#[]⟩, t, 0⟩ : Pl.Nd) 0 (Pl.tchL T p t)).length c4, .int .i64 0] 55) (Nat.le_refl _)))
 have x1 := (Mem.Blk.new w4 #[.slice a4 (Pl.chgO T (⟨p, 1, ⟨#[]⟩, t, 0⟩ : Pl.Nd) 0 (Pl.tchL T p t)).length c4, .int .i64 0] 55).cell 1
 simp only [kA0, kA1, kA2] at x1
 clear Q3 b4 own4 HPL HA HR s0 hnmP hLt hpB hp0 htr hTn hpl hC hP hD h2 hxc hxn hxA hxg hRg hnx hfl hko hF hT e1 h1 h3 hYES HNE HV hn1 hL40 hOl hOg hTp hmp hmT
 have QA := Q4
 clear Q4
 go_upto_region 7 with fail
 generalize (w4.alloc (.cells #[.slice a4 (Pl.chgO T (⟨p, 1, ⟨#[]⟩, t, 0⟩ : Pl.Nd) 0 (Pl.tchL T p t)).length c4, .int .i64 0] 55)) = W4 at QA x1 ⊢
 have QB := QA
 clear QA
 refine yd5 (R := fun Tf T' W => ∃ (Y : Nat) (a1 : Option Addr) (c1 : Nat), T' = ((((((((((Tf.setIfInBounds 35 (.slice (some ⟨b, o, none⟩) Is.length cap)).setIfInBounds 36 (.slice (some ⟨b, o, none⟩) Is.length cap)).setIfInBounds 37 (.int .i64 (K.shape.level : Int))).setIfInBounds 38 (.pointer (some ⟨b, o + K.shape.level * 2, none⟩))).setIfInBounds 39 (.pointer (some ⟨b, o + K.shape.level * 2 + 1, none⟩))).setIfInBounds 40 (.agg #[.slice xa xL.length xc])).setIfInBounds 41 (.agg #[.slice va T.length vc])).setIfInBounds 42 (.string p)).setIfInBounds 43 (.agg #[.slice a1 R.length c1])).setIfInBounds 10 (.pointer (some ⟨Y, 0, none⟩))) ∧ (Sg w W X va vc T ∧ Mem.Blk W Y #[.slice a1 R.length c1] 50 ∧ zb1.okA W a1 c1 R ∧ Mem.za1 W a1 R ∧ (w.heap.size < Y ∧ X < Y))) ?_ ?_
 ·skip
  have bd := zw9 W4
  have QQ := hide ((za QB).call bd)
  clear bd QB
  refine wp_region_held_drew (S := fun W' => Below w.heap.size w W' ∧ W'.cell? ⟨X, 0, none⟩ = some (.slice va T.length vc) ∧ W'.cell? ⟨b, o + K.shape.level * 2 + 1, none⟩ = some (.slice xa xL.length xc)) (by kernel_rfl) ?_ (fun hHeld => ?_)
  ·exact za MK _ (za QQ)
  generalize W4.drew = WC at hHeld QQ ⊢
  refine tka (i := 0) rfl ?_
  try simp only [Act.put, kBs]
  refine tka (i := 1) rfl ?_
  try simp only [Act.put, kBs]
  refine tka (i := 6) rfl ?_
  try simp only [Act.put, kBs]
  refine tka (i := 7) rfl ?_
  try simp only [Act.put, kBs]
  refine wpAnyH_ready (rs := [2, 9]) (by kernel_rfl) (by simp) ?_
  refine AllReadyH.cons rfl (fun K1 hK => ?_) (AllReadyH.cons rfl (fun K1 hK => ?_) (AllReadyH.nil))
  ·go_simp
   refine (za HFI _ (za QQ).bel).mono ?_
   rintro e wX ⟨rfl, hwX⟩
   subst wX
   refine hK.out _ _ ?_ (fun hHeld2 => ?_)
   ·assumption
   clear hK K1 hHeld HFI
   have hHeld := hHeld2
   clear hHeld2
   try simp only [Act.put, kBs]
   refine tka (i := 3) rfl ?_
   try simp only [Act.put, kBs]
   refine tka (i := 4) rfl ?_
   try simp only [Act.put, kBs]
   refine tka (i := 5) rfl ?_
   try simp only [Act.put, kBs]
   refine wpAnyH_ready (rs := [8, 9]) (by kernel_rfl) (by simp) ?_
   refine AllReadyH.cons rfl (fun K1 hK => ?_) (AllReadyH.cons rfl (fun K1 hK => ?_) (AllReadyH.nil))
   ·go_simp
    refine (za HAB _ (za QQ)).mono ?_
    rintro e wX ⟨a1, c1, rfl, ok1, nd1, bx⟩
    have QN := hide ((za QQ).call bx)
    have LF := hide (⟨ok1, nd1⟩ : zb1.okA wX a1 c1 R ∧ Mem.za1 wX a1 R)
    refine hK.out _ _ ?_ (fun hHeld2 => ?_)
    ·exact za MK _ (za QN)
    clear hK K1 hHeld HAB bx ok1 nd1 QQ
    have hHeld := hHeld2
    clear hHeld2
    have QQ := QN
    clear QN
    try simp only [Act.put, kBs]
    refine wpAnyH_ready (rs := [9]) (by kernel_rfl) (by simp) ?_
    refine AllReadyH.cons rfl (fun K1 hK => ?_) (AllReadyH.nil)
    go_simp
    have ba : Below wX.heap.size wX (wX.alloc (.cells #[.slice none 0 0] 50)) := (Below.refl _ _).alloc (Nat.le_refl _) _
    have QN := hide ((za QQ).call ba)
    have YBn := hide (Mem.Blk.new wX #[.slice none 0 0] 50)
    have hYlo := (⟨(za QQ).out.lt, (za QQ).sig.lt⟩ : w.heap.size < wX.heap.size ∧ X < wX.heap.size)
    have LF2 := hide (⟨zb1.zg3 (za LF).1 (ba).size, Mem.za0 (za LF).2 ba⟩ : zb1.okA _ a1 c1 R ∧ Mem.za1 _ a1 R)
    refine hK.out _ _ ?_ (fun hHeld2 => ?_)
    ·exact za MK _ (za QN)
    clear hK K1 hHeld QQ ba LF
    have hHeld := hHeld2
    clear hHeld2
    have QQ := QN
    clear QN
    have YB := YBn
    clear YBn
    have LF := LF2
    clear LF2
    try simp only [Act.put, kBs]
    generalize wX.heap.size = Y at YB hYlo ⊢
    generalize wX.alloc (.cells #[.slice none 0 0] 50) = wXa at hHeld QQ YB LF ⊢
    have y0 := (za YB).cell 0
    have g0 := (za YB).fr 0
    simp only [kA0, kA1] at y0
    refine wpAnyH_ready (rs := [10]) (by kernel_rfl) (by simp) ?_
    refine AllReadyH.cons rfl (fun K1 hK => ?_) (AllReadyH.nil)
    go_simp
    have E9 := hide (za MG _ Y a1 c1 (za QQ) (za YB) (za LF) hYlo)
    refine hK.out _ _ ?_ (fun hHeld2 => ?_)
    ·exact za MK _ (za E9).1
    clear hK K1 hHeld hHeld2
    refine wpAnyH_done (by kernel_rfl) ?_ _
    refine ⟨rfl, rfl, Y, a1, c1, ?_, za E9⟩
    simp only [kB3, kB4, kB5]
   ·go_simp
    have ba : Below WC.heap.size WC (WC.alloc (.cells #[.slice none 0 0] 50)) := (Below.refl _ _).alloc (Nat.le_refl _) _
    have QN := hide ((za QQ).call ba)
    have YBn := hide (Mem.Blk.new WC #[.slice none 0 0] 50)
    have hYlo := (⟨(za QQ).out.lt, (za QQ).sig.lt⟩ : w.heap.size < WC.heap.size ∧ X < WC.heap.size)
    refine hK.out _ _ ?_ (fun hHeld2 => ?_)
    ·exact za MK _ (za QN)
    clear hK K1 hHeld QQ ba
    have hHeld := hHeld2
    clear hHeld2
    have QQ := QN
    clear QN
    have YB := YBn
    clear YBn
    try simp only [Act.put, kBs]
    generalize WC.heap.size = Y at YB hYlo ⊢
    generalize WC.alloc (.cells #[.slice none 0 0] 50) = WCa at hHeld QQ YB ⊢
    refine wpAnyH_ready (rs := [8]) (by kernel_rfl) (by simp) ?_
    refine AllReadyH.cons rfl (fun K1 hK => ?_) (AllReadyH.nil)
    go_simp
    refine (za HAB _ (za QQ)).mono ?_
    rintro e wX ⟨a1, c1, rfl, ok1, nd1, bx⟩
    have QN := hide ((za QQ).call bx)
    have LF := hide (⟨ok1, nd1⟩ : zb1.okA wX a1 c1 R ∧ Mem.za1 wX a1 R)
    have YB2 := hide ((za YB).call bx)
    refine hK.out _ _ ?_ (fun hHeld2 => ?_)
    ·exact za MK _ (za QN)
    clear hK K1 hHeld HAB bx ok1 nd1 QQ YB
    have hHeld := hHeld2
    clear hHeld2
    have QQ := QN
    clear QN
    have YB := YB2
    clear YB2
    try simp only [Act.put, kBs]
    have y0 := (za YB).cell 0
    have g0 := (za YB).fr 0
    simp only [kA0, kA1] at y0
    refine wpAnyH_ready (rs := [10]) (by kernel_rfl) (by simp) ?_
    refine AllReadyH.cons rfl (fun K1 hK => ?_) (AllReadyH.nil)
    go_simp
    have E9 := hide (za MG _ Y a1 c1 (za QQ) (za YB) (za LF) hYlo)
    refine hK.out _ _ ?_ (fun hHeld2 => ?_)
    ·exact za MK _ (za E9).1
    clear hK K1 hHeld hHeld2
    refine wpAnyH_done (by kernel_rfl) ?_ _
    refine ⟨rfl, rfl, Y, a1, c1, ?_, za E9⟩
    simp only [kB3, kB4, kB5]
  ·go_simp
   have ba : Below WC.heap.size WC (WC.alloc (.cells #[.slice none 0 0] 50)) := (Below.refl _ _).alloc (Nat.le_refl _) _
   have QN := hide ((za QQ).call ba)
   have YBn := hide (Mem.Blk.new WC #[.slice none 0 0] 50)
   have hYlo := (⟨(za QQ).out.lt, (za QQ).sig.lt⟩ : w.heap.size < WC.heap.size ∧ X < WC.heap.size)
   refine hK.out _ _ ?_ (fun hHeld2 => ?_)
   ·exact za MK _ (za QN)
   clear hK K1 hHeld QQ ba
   have hHeld := hHeld2
   clear hHeld2
   have QQ := QN
   clear QN
   have YB := YBn
   clear YBn
   try simp only [Act.put, kBs]
   generalize WC.heap.size = Y at YB hYlo ⊢
   generalize WC.alloc (.cells #[.slice none 0 0] 50) = WCa at hHeld QQ YB ⊢
   refine wpAnyH_ready (rs := [2]) (by kernel_rfl) (by simp) ?_
   refine AllReadyH.cons rfl (fun K1 hK => ?_) (AllReadyH.nil)
   go_simp
   refine (za HFI _ (za QQ).bel).mono ?_
   rintro e wX ⟨rfl, hwX⟩
   subst wX
   refine hK.out _ _ ?_ (fun hHeld2 => ?_)
   ·assumption
   clear hK K1 hHeld HFI
   have hHeld := hHeld2
   clear hHeld2
   try simp only [Act.put, kBs]
   refine tka (i := 3) rfl ?_
   try simp only [Act.put, kBs]
   refine tka (i := 4) rfl ?_
   try simp only [Act.put, kBs]
   refine tka (i := 5) rfl ?_
   try simp only [Act.put, kBs]
   refine wpAnyH_ready (rs := [8]) (by kernel_rfl) (by simp) ?_
   refine AllReadyH.cons rfl (fun K1 hK => ?_) (AllReadyH.nil)
   go_simp
   refine (za HAB _ (za QQ)).mono ?_
   rintro e wX ⟨a1, c1, rfl, ok1, nd1, bx⟩
   have QN := hide ((za QQ).call bx)
   have LF := hide (⟨ok1, nd1⟩ : zb1.okA wX a1 c1 R ∧ Mem.za1 wX a1 R)
   have YB2 := hide ((za YB).call bx)
   refine hK.out _ _ ?_ (fun hHeld2 => ?_)
   ·exact za MK _ (za QN)
   clear hK K1 hHeld HAB bx ok1 nd1 QQ YB
   have hHeld := hHeld2
   clear hHeld2
   have QQ := QN
   clear QN
   have YB := YB2
   clear YB2
   try simp only [Act.put, kBs]
   have y0 := (za YB).cell 0
   have g0 := (za YB).fr 0
   simp only [kA0, kA1] at y0
   refine wpAnyH_ready (rs := [10]) (by kernel_rfl) (by simp) ?_
   refine AllReadyH.cons rfl (fun K1 hK => ?_) (AllReadyH.nil)
   go_simp
   have E9 := hide (za MG _ Y a1 c1 (za QQ) (za YB) (za LF) hYlo)
   refine hK.out _ _ ?_ (fun hHeld2 => ?_)
   ·exact za MK _ (za E9).1
   clear hK K1 hHeld hHeld2
   refine wpAnyH_done (by kernel_rfl) ?_ _
   refine ⟨rfl, rfl, Y, a1, c1, ?_, za E9⟩
   simp only [kB3, kB4, kB5]
 ·skip
  rintro T' W ⟨Y, a1, c1, hT', hg⟩
  simp only [kB3, kB4, kB5] at hT'
  subst hT'
  have QZ := hide hg
  clear hg MG HAB MK
  obtain ⟨k0, hk0⟩ := List.getElem?_of_mem (Pl.zp9 (za HMT)).1
  obtain ⟨gs, os, ev, -⟩ := (Mem.zc7 (za QZ).1.own).2 k0 m hk0
  subst ev
  clear hk0
  have HAT := hide (fun W (Q : Mem.ownN W (w.heap.size + 1) (.slice (some ⟨gs, os, none⟩) T.length vc) T) => zk5.zr1 (some ⟨gs, os, none⟩) vc T p W (by omega) (Mem.zc7 Q).2)
  have MK8 : Hid (∀ W', Sg w W' X (some ⟨gs, os, none⟩) vc T → (fun W' => W'.cell? ⟨X, 0, none⟩ = some (.slice (some ⟨gs, os, none⟩) T.length vc) ∧ Mem.za1 W' (some ⟨gs, os, none⟩) T) W') := fun W' h => ⟨by have h' := h.sig.cell 0; simpa using h', (Mem.zc7 h.own).2⟩
  go_upto_region 8 with fail
  refine yd5 (R := fun Tf T' W => ∃ (Z : Nat) (k : Nat), T' = ((((((((Tf.setIfInBounds 44 (.pointer (some ⟨X, 0, none⟩))).setIfInBounds 45 (.slice (some ⟨gs, os, none⟩) T.length vc)).setIfInBounds 46 (.agg #[.slice (some ⟨gs, os, none⟩) T.length vc])).setIfInBounds 47 (.string p)).setIfInBounds 48 (.int .i64 (k : Int))).setIfInBounds 49 (.pointer (some ⟨gs, os + k * 5, none⟩))).setIfInBounds 50 (.agg #[.string m.path, .int .i64 m.kind, .string m.data, .int .i64 m.time, .int .i64 m.mark])).setIfInBounds 11 (.pointer (some ⟨Z, 0, none⟩))) ∧ Tg w W X (some ⟨gs, os, none⟩) vc T Y a1 c1 R Z #[.string m.path, .int .i64 m.kind, .string m.data, .int .i64 m.time, .int .i64 m.mark]) ?_ ?_
  ·skip
   have bd := zw9 W
   have QQ := hide (⟨(za QZ).1.call bd, (za QZ).2.1.call bd, zb1.zg3 (za QZ).2.2.1 bd.size, Mem.za0 (za QZ).2.2.2.1 bd, (za QZ).2.2.2.2⟩ : Sg w W.drew X (some ⟨gs, os, none⟩) vc T ∧ Mem.Blk W.drew Y #[.slice a1 R.length c1] 50 ∧ zb1.okA W.drew a1 c1 R ∧ Mem.za1 W.drew a1 R ∧ (w.heap.size < Y ∧ X < Y))
   clear bd QZ
   refine wp_region_held_drew (S := fun W' => W'.cell? ⟨X, 0, none⟩ = some (.slice (some ⟨gs, os, none⟩) T.length vc) ∧ Mem.za1 W' (some ⟨gs, os, none⟩) T) (by kernel_rfl) ?_ (fun hHeld => ?_)
   ·exact za MK8 _ (za QQ).1
   generalize W.drew = WC at hHeld QQ ⊢
   refine tka (i := 0) rfl ?_
   try simp only [Act.put, kBs]
   refine tka (i := 1) rfl ?_
   try simp only [Act.put, kBs]
   refine tka (i := 2) rfl ?_
   try simp only [Act.put, kBs]
   refine tka (i := 3) rfl ?_
   try simp only [Act.put, kBs]
   refine wpAnyH_ready (rs := [4, 7]) (by kernel_rfl) (by simp) ?_
   refine AllReadyH.cons rfl (fun K1 hK => ?_) (AllReadyH.cons rfl (fun K1 hK => ?_) (AllReadyH.nil))
   ·go_simp
    refine (za HAT _ (za QQ).1.own).mono ?_
    rintro e wX ⟨⟨r, rfl, hr⟩, bx⟩
    obtain ⟨k, m', rfl, hk, hf⟩ : ∃ (k : Nat) (m' : Pl.Nd), r = (k : Int) ∧ T[k]? = some m' ∧ Pl.lk T p = some m' := by
     rcases hr.out with h | ⟨-, h⟩
     ·exact h
     ·have hmT := za HMT; rw [show Pl.lk T p = none from h] at hmT; cases hmT
    obtain rfl : m = m' := by rw [za HMT] at hf; exact Option.some.inj hf
    have hkl : k < T.length := (List.getElem?_eq_some_iff.1 hk).1
    have hix2 : 0 ≤ (k : Int) ∧ (k : Int) < (T.length : Int) := by omega
    have QN := hide ((za QQ).1.call bx)
    have LN := hide (⟨(za QQ).2.1.call bx, zb1.zg3 (za QQ).2.2.1 bx.size, Mem.za0 (za QQ).2.2.2.1 bx⟩ : Mem.Blk wX Y #[.slice a1 R.length c1] 50 ∧ zb1.okA wX a1 c1 R ∧ Mem.za1 wX a1 R)
    refine hK.out _ _ ?_ (fun hHeld2 => ?_)
    ·exact za MK8 _ (za QN)
    clear hK K1 hHeld QQ bx HAT hr hf
    have hHeld := hHeld2
    clear hHeld2
    try simp only [Act.put, kBs]
    refine tka (i := 5) rfl ?_
    try simp only [Act.put, kBs]
    refine wpAnyH_take (i := 6) (v := ?_) rfl (by kernel_rfl) (by kernel_rfl) (by kernel_rfl) (fun _ _ _ h => nomatch h.1) (Or.inl ⟨by rfl, ?_⟩) (by assumption) ?_
    rotate_left
    ·(intro w hSw; obtain ⟨y0, y1, y2, y3, y4⟩ := yn6 hSw.2 hk; (try dsimp only at hSw); go_simp; (try with_reducible rfl))
    try simp only [Act.put, kBs]
    refine wpAnyH_ready (rs := [7]) (by kernel_rfl) (by simp) ?_
    refine AllReadyH.cons rfl (fun K1 hK => ?_) (AllReadyH.nil)
    go_simp
    have QT0 := hide (Tg.new (za QN) (za LN).1 (za LN).2.1 (za LN).2.2 #[.string ⟨#[]⟩, .int .i64 0, .string ⟨#[]⟩, .int .i64 0, .int .i64 0])
    refine hK.out _ _ ?_ (fun hHeld2 => ?_)
    ·exact za MK8 _ (za QT0).sg
    clear hK K1 hHeld
    have hHeld := hHeld2
    clear hHeld2 QN LN
    try simp only [Act.put, kBs]
    generalize wX.alloc (.cells #[.string ⟨#[]⟩, .int .i64 0, .string ⟨#[]⟩, .int .i64 0, .int .i64 0] 47) = WA at hHeld QT0 ⊢
    generalize wX.heap.size = Z at QT0 ⊢
    have QT := QT0
    clear QT0
    have z0 := (za QT).nv.cell 0
    have z1 := (za QT).nv.cell 1
    have z2' := (za QT).nv.cell 2
    have z3' := (za QT).nv.cell 3
    have z4 := (za QT).nv.cell 4
    have g0 := (za QT).nv.fr 0
    have g1 := (za QT).nv.fr 1
    have g2 := (za QT).nv.fr 2
    have g3 := (za QT).nv.fr 3
    have g4 := (za QT).nv.fr 4
    simp only [kA0, kA1, kA2] at z0 z1 z2' z3' z4
    refine wpAnyH_ready (rs := [8]) (by kernel_rfl) (by simp) ?_
    refine AllReadyH.cons rfl (fun K1 hK => ?_) (AllReadyH.nil)
    go_simp
    have QU := hide ((((((za QT).put 0 (.string m.path)).put 1 (.int .i64 m.kind)).put 2 (.string m.data)).put 3 (.int .i64 m.time)).put 4 (.int .i64 m.mark))
    simp only [kB3, kB4, kB5] at QU
    refine hK.out _ _ ?_ (fun hHeld2 => ?_)
    ·exact za MK8 _ (za QU).sg
    clear hK K1 hHeld hHeld2
    refine wpAnyH_done (by kernel_rfl) ?_ _
    refine ⟨rfl, rfl, Z, k, ?_, za QU⟩
    simp only [kB3, kB4, kB5]
   ·go_simp
    have QT0 := hide (Tg.new (za QQ).1 (za QQ).2.1 (za QQ).2.2.1 (za QQ).2.2.2.1 #[.string ⟨#[]⟩, .int .i64 0, .string ⟨#[]⟩, .int .i64 0, .int .i64 0])
    refine hK.out _ _ ?_ (fun hHeld2 => ?_)
    ·exact za MK8 _ (za QT0).sg
    clear hK K1 hHeld
    have hHeld := hHeld2
    clear hHeld2 QQ
    try simp only [Act.put, kBs]
    generalize WC.alloc (.cells #[.string ⟨#[]⟩, .int .i64 0, .string ⟨#[]⟩, .int .i64 0, .int .i64 0] 47) = WA at hHeld QT0 ⊢
    generalize WC.heap.size = Z at QT0 ⊢
    have QQ := QT0
    clear QT0
    refine wpAnyH_ready (rs := [4]) (by kernel_rfl) (by simp) ?_
    refine AllReadyH.cons rfl (fun K1 hK => ?_) (AllReadyH.nil)
    go_simp
    refine (za HAT _ (za QQ).sg.own).mono ?_
    rintro e wX ⟨⟨r, rfl, hr⟩, bx⟩
    obtain ⟨k, m', rfl, hk, hf⟩ : ∃ (k : Nat) (m' : Pl.Nd), r = (k : Int) ∧ T[k]? = some m' ∧ Pl.lk T p = some m' := by
     rcases hr.out with h | ⟨-, h⟩
     ·exact h
     ·have hmT := za HMT; rw [show Pl.lk T p = none from h] at hmT; cases hmT
    obtain rfl : m = m' := by rw [za HMT] at hf; exact Option.some.inj hf
    have hkl : k < T.length := (List.getElem?_eq_some_iff.1 hk).1
    have hix2 : 0 ≤ (k : Int) ∧ (k : Int) < (T.length : Int) := by omega
    have QN := hide ((za QQ).call bx)
    refine hK.out _ _ ?_ (fun hHeld2 => ?_)
    ·exact za MK8 _ ((za QN).sg)
    clear hK K1 hHeld QQ bx HAT hr hf
    have hHeld := hHeld2
    clear hHeld2
    try simp only [Act.put, kBs]
    refine tka (i := 5) rfl ?_
    try simp only [Act.put, kBs]
    refine wpAnyH_take (i := 6) (v := ?_) rfl (by kernel_rfl) (by kernel_rfl) (by kernel_rfl) (fun _ _ _ h => nomatch h.1) (Or.inl ⟨by rfl, ?_⟩) (by assumption) ?_
    rotate_left
    ·(intro w hSw; obtain ⟨y0, y1, y2, y3, y4⟩ := yn6 hSw.2 hk; (try dsimp only at hSw); go_simp; (try with_reducible rfl))
    try simp only [Act.put, kBs]
    have QT := QN
    clear QN
    have z0 := (za QT).nv.cell 0
    have z1 := (za QT).nv.cell 1
    have z2' := (za QT).nv.cell 2
    have z3' := (za QT).nv.cell 3
    have z4 := (za QT).nv.cell 4
    have g0 := (za QT).nv.fr 0
    have g1 := (za QT).nv.fr 1
    have g2 := (za QT).nv.fr 2
    have g3 := (za QT).nv.fr 3
    have g4 := (za QT).nv.fr 4
    simp only [kA0, kA1, kA2] at z0 z1 z2' z3' z4
    refine wpAnyH_ready (rs := [8]) (by kernel_rfl) (by simp) ?_
    refine AllReadyH.cons rfl (fun K1 hK => ?_) (AllReadyH.nil)
    go_simp
    have QU := hide ((((((za QT).put 0 (.string m.path)).put 1 (.int .i64 m.kind)).put 2 (.string m.data)).put 3 (.int .i64 m.time)).put 4 (.int .i64 m.mark))
    simp only [kB3, kB4, kB5] at QU
    refine hK.out _ _ ?_ (fun hHeld2 => ?_)
    ·exact za MK8 _ (za QU).sg
    clear hK K1 hHeld hHeld2
    refine wpAnyH_done (by kernel_rfl) ?_ _
    refine ⟨rfl, rfl, Z, k, ?_, za QU⟩
    simp only [kB3, kB4, kB5]
  ·skip
   rintro T' W9 ⟨Z, k, hT', hg⟩
   simp only [kB3, kB4, kB5] at hT'
   subst hT'
   have QT := hide hg
   clear hg HAT MK8
   have g3 := (za QT).nv.fr 3
   have z3' := (za QT).nv.cell 3
   simp only [kA0, kA1, kA2] at z3'
   go_upto_region 10 with fail
   have QV := hide ((za QT).put 3 (.int .i64 t))
   simp only [kB3, kB4, kB5] at QV
   generalize W9.setCell ⟨Z, 3, none⟩ (.int .i64 t) = wK at QV ⊢
   clear QT g3 z3'
   by_cases hk1 : m.kind = 1
   ·have hdd := za HDD hk1
    have eN := Pl.tou_dir (R := R) (t := t) (za HMT) hk1 hdd
    rw [eN] at HPU
    simp only [Pl.Nd.val, Pl.dirN] at HPU
    generalize ((Pl.lk R p).getD Pl.za7).mark = mk at HPU HDI
    have z1 := (za QV).nv.cell 1
    have lc := (za QV).lv.cell 0
    simp only [kA0, kA1, kA2] at z1 lc
    rw [hk1] at z1
    go_wp2_with fail
    refine (za HDI a1 c1 _ (za QV).nd).mono ?_
    rintro e wD ⟨rfl, bD⟩
    have QW := hide ((za QV).call bD)
    have g0 := (za QW).nv.fr 0
    have g1 := (za QW).nv.fr 1
    have g2 := (za QW).nv.fr 2
    have g3 := (za QW).nv.fr 3
    have g4 := (za QW).nv.fr 4
    have y0 := (za QW).nv.cell 0
    have y1 := (za QW).nv.cell 1
    have y2 := (za QW).nv.cell 2
    have y3 := (za QW).nv.cell 3
    have y4 := (za QW).nv.cell 4
    simp only [kA0, kA1, kA2] at y0 y1 y2 y3 y4
    clear z1 lc bD QV eN
    go_upto_region 12 with fail
    have QV := hide ((((((za QW).put 0 (.string p)).put 1 (.int .i64 1)).put 2 (.string ⟨#[]⟩)).put 3 (.int .i64 t)).put 4 (.int .i64 mk))
    simp only [kB3, kB4, kB5] at QV
    generalize (((((wD.setCell ⟨Z, 0, none⟩ (.string p)).setCell ⟨Z, 1, none⟩ (.int .i64 1)).setCell ⟨Z, 2, none⟩ (.string ⟨#[]⟩)).setCell ⟨Z, 3, none⟩ (.int .i64 t)).setCell ⟨Z, 4, none⟩ (.int .i64 mk)) = wL at QV ⊢
    clear QW g0 g1 g2 g3 g4 y0 y1 y2 y3 y4
    have n0 := (za QV).nv.cell 0
    have h0 := (za QV).nv.fr 0
    have n1 := (za QV).nv.cell 1
    have h1 := (za QV).nv.fr 1
    have n2 := (za QV).nv.cell 2
    have h2 := (za QV).nv.fr 2
    have n3 := (za QV).nv.cell 3
    have h3 := (za QV).nv.fr 3
    have n4 := (za QV).nv.cell 4
    have h4 := (za QV).nv.fr 4
    have lc := (za QV).lv.cell 0
    simp only [kA0, kA1, kA2] at n0 n1 n2 n3 n4 lc
    go_wp2_with fail
    refine (za HPU a1 c1 _ (za QV).ok (za QV).nd).mono ?_
    rintro e wP ⟨v5, rfl, own5, bp⟩
    obtain ⟨a9, c9, rfl⟩ := Mem.za2 own5
    have Q5 := hide ((za QV).sg.call bp)
    have OK5 := hide (⟨Mem.zo0 own5, (Mem.zc7 own5).2⟩ : zb1.okA wP a9 c9 O ∧ Mem.za1 wP a9 O)
    clear QV n0 n1 n2 n3 n4 h0 h1 h2 h3 h4 lc own5 bp HPU
    go_wp2_with fail
    refine (za HDO a9 c9 _ (za Q5).bel (za OK5).1 (za OK5).2).mono ?_
    rintro e wX ⟨⟨v3, Js, rfl, io, hJs⟩, bx⟩
    obtain ⟨a3, c3, rfl⟩ := Mem.za2 io.row
    have QG := hide ((za Q5).call bx)
    have hsz := (za Q5).bel.size
    have hszo := (za Q5).out.lt
    have IO := hide io
    have HJ := hide hJs
    clear HDO io hJs bx Q5 OK5
    have d0 := (za QG).out.cell 0
    have d1 := (za QG).out.cell 1
    have f0 := (za QG).out.fr 0
    have f1 := (za QG).out.fr 1
    simp only [kA0, kA1, kA2] at d0 d1
    go_wp2
    refine bodyPost_ret (v := .agg #[.slice a3 Js.length c3, .int .i64 cd]) (by simp [results, Tryz.results21, go_sem, d0, d1]) rfl ⟨⟨_, Js, by rw [za HN2], (((za IO).set _ _ (by show w.heap.size < _; omega)).set _ _ (by show w.heap.size < _; omega)).mono hsz, by rw [za HN2]; exact za HJ⟩, ?_⟩
    exact ((za QG).bel.setCell (Nat.le_refl _) _).setCell (Nat.le_refl _) _
   ·have eN := Pl.tou_file (R := R) (t := t) (za HMT) hk1
    rw [eN] at HPU
    simp only [Pl.Nd.val] at HPU
    have hk1b : (m.kind == 1) = false := by simpa using hk1
    have z1 := (za QV).nv.cell 1
    simp only [kA0, kA1, kA2] at z1
    go_upto_region 12 with fail
    clear z1 eN
    have n0 := (za QV).nv.cell 0
    have h0 := (za QV).nv.fr 0
    have n1 := (za QV).nv.cell 1
    have h1 := (za QV).nv.fr 1
    have n2 := (za QV).nv.cell 2
    have h2 := (za QV).nv.fr 2
    have n3 := (za QV).nv.cell 3
    have h3 := (za QV).nv.fr 3
    have n4 := (za QV).nv.cell 4
    have h4 := (za QV).nv.fr 4
    have lc := (za QV).lv.cell 0
    simp only [kA0, kA1, kA2] at n0 n1 n2 n3 n4 lc
    go_wp2_with fail
    refine (za HPU a1 c1 _ (za QV).ok (za QV).nd).mono ?_
    rintro e wP ⟨v5, rfl, own5, bp⟩
    obtain ⟨a9, c9, rfl⟩ := Mem.za2 own5
    have Q5 := hide ((za QV).sg.call bp)
    have OK5 := hide (⟨Mem.zo0 own5, (Mem.zc7 own5).2⟩ : zb1.okA wP a9 c9 O ∧ Mem.za1 wP a9 O)
    clear QV n0 n1 n2 n3 n4 h0 h1 h2 h3 h4 lc own5 bp HPU
    go_wp2_with fail
    refine (za HDO a9 c9 _ (za Q5).bel (za OK5).1 (za OK5).2).mono ?_
    rintro e wX ⟨⟨v3, Js, rfl, io, hJs⟩, bx⟩
    obtain ⟨a3, c3, rfl⟩ := Mem.za2 io.row
    have QG := hide ((za Q5).call bx)
    have hsz := (za Q5).bel.size
    have hszo := (za Q5).out.lt
    have IO := hide io
    have HJ := hide hJs
    clear HDO io hJs bx Q5 OK5
    have d0 := (za QG).out.cell 0
    have d1 := (za QG).out.cell 1
    have f0 := (za QG).out.fr 0
    have f1 := (za QG).out.fr 1
    simp only [kA0, kA1, kA2] at d0 d1
    go_wp2
    refine bodyPost_ret (v := .agg #[.slice a3 Js.length c3, .int .i64 cd]) (by simp [results, Tryz.results21, go_sem, d0, d1]) rfl ⟨⟨_, Js, by rw [za HN2], (((za IO).set _ _ (by show w.heap.size < _; omega)).set _ _ (by show w.heap.size < _; omega)).mono hsz, by rw [za HN2]; exact za HJ⟩, ?_⟩
    exact ((za QG).bel.setCell (Nat.le_refl _) _).setCell (Nat.le_refl _) _
end zh3
end Go.Proofs.YtppmlbofhghghaaGreatDoor

namespace Go.Proofs.YtppmlbofhghghaaGreatDoor
open Go.RowKit
namespace zc3
set_option linter.unusedSimpArgs false in
set_option maxRecDepth 100000 in
theorem touching_any (p : ByteArray) (t : Int) (w : World) :
  Calls Tryz.prog 52 #[.string p, .int .i64 t] w fun e w' => e = .returned (.agg (chg ⟨p, 1, ⟨#[]⟩, t, 0⟩ 95 96)) ∧ Below w.heap.size w w' := by
 go_enter Tryz.func52, Tryz.ntmps52
 go_wp2
 refine bodyPost_ret (v := .agg (chg ⟨p, 1, ⟨#[]⟩, t, 0⟩ 95 96)) (by simp [results, Tryz.results52, go_sem]) rfl ⟨rfl, ?_⟩
 repeat first | exact (Below.refl _ _).alloc (Nat.le_refl _) _ | refine Below.setCell ?_ (Nat.le_refl _) _
end zc3
end Go.Proofs.YtppmlbofhghghaaGreatDoor

namespace Go.Proofs.YtppmlbofhghghaaGreatDoor
open Go.RowKit Go.Maps
namespace zl1
open zc3
set_option linter.unusedSimpArgs false in
set_option maxRecDepth 100000 in
set_option maxHeartbeats 2000000 in
theorem touch_workN (a : Option Addr) (cap : Nat) (Is : List Pl.It) (p : ByteArray) (t : Int) (qp qt qN : Addr) (w : World) (hqp : w.cell? qp = some (.string p)) (lqp : qp.block < w.heap.size) (hqt : w.cell? qt = some (.int .i64 t)) (lqt : qt.block < w.heap.size) (hqN : w.cell? qN = some (.slice a Is.length cap)) (lqN : qN.block < w.heap.size) (hl : Is.length ≤ 1048576) (hcap : Is.length ≤ cap) (hv : Mem.zb3 w a Is) (hok : ∀ x ∈ Is, x.t.L.length ≤ 1048576 ∧ ∀ n ∈ x.t.L, n.path.size ≤ 1048576 ∧ n.data.size ≤ 1048576) (x : Nat → Addr) (hE : WIs.Six w x) :
  Calls Tryz.prog 51 #[.pointer (some qp), .pointer (some qt), .pointer (some qN)] w fun e w' => EndsN w w' e (Pl.zb5 (Is.map Pl.It.r) (⟨p, 1, ⟨#[]⟩, t, 0⟩ : Pl.Nd) (fun S => Pl.tchC S p) (fun S L1 _ => Pl.putL L1 (Pl.touN S L1 p t))).1 (Pl.zb5 (Is.map Pl.It.r) (⟨p, 1, ⟨#[]⟩, t, 0⟩ : Pl.Nd) (fun S => Pl.tchC S p) (fun S L1 _ => Pl.putL L1 (Pl.touN S L1 p t))).2 := by
 have MK : Hid (∀ W', Below w.heap.size w W' → (fun W' => Below w.heap.size w W' ∧ W'.cell? qp = some (.string p) ∧ W'.cell? qt = some (.int .i64 t) ∧ W'.cell? qN = some (.slice a Is.length cap)) W') := fun W' hb' => ⟨hb', (hb'.cell (p := qp) lqp).trans hqp, (hb'.cell (p := qt) lqt).trans hqt, (hb'.cell (p := qN) lqN).trans hqN⟩
 have HIN := hide (fun W (b : Below w.heap.size w W) => yb6 (⟨p, 1, ⟨#[]⟩, t, 0⟩ : Pl.Nd) 95 96 (fun S => Pl.tchC S p) (fun S => Pl.tchL S p t) (fun S L1 _ => Pl.putL L1 (Pl.touN S L1 p t)) a cap Is W hl hcap (Mem.za6 hv b) hok x (hE.call b) (fun B W => by kernel_rfl) (fun S h1 h2 B W' _ _ ho => touchP_any B S ⟨p, 1, ⟨#[]⟩, t, 0⟩ W' (Pl.ze7 h1) (Pl.za9 h2).1 ho) (fun g W => by kernel_rfl) (fun S L1 qf qs lev N W h1 _ h3 h4 h5 h6 h7 h8 => zv7.touch_any qf qs N lev L1 S ⟨p, 1, ⟨#[]⟩, t, 0⟩ W h1 (Pl.zd9.zv6 (Pl.ze7 h3)) (Pl.za9 h5).1 (Pl.ya0 h4) h6 h7 h8) (fun S L1 lev h1 h3 h4 h5 => Pl.tou_rise h1 (Pl.ze7 h3) (Pl.ya0 h4) t) (fun S h1 h2 h3 => Pl.way_tch (Pl.ze7 h1) h2))
 have HMK := hide (touching_any p t)
 generalize hR0 : (Pl.zb5 (Is.map Pl.It.r) (⟨p, 1, ⟨#[]⟩, t, 0⟩ : Pl.Nd) (fun S => Pl.tchC S p) (fun S L1 _ => Pl.putL L1 (Pl.touN S L1 p t))) = R at HIN ⊢
 clear hv hok hE hR0
 go_enter Tryz.func51, Tryz.ntmps51
 go_wp2_with fail
 refine wp_region_held_drew (S := fun W' => Below w.heap.size w W' ∧ W'.cell? qp = some (.string p) ∧ W'.cell? qt = some (.int .i64 t) ∧ W'.cell? qN = some (.slice a Is.length cap)) (by kernel_rfl) ?_ (fun hHeld => ?_)
 ·exact za MK _ ⟨rfl, rfl, rfl, Nat.le_refl _, fun _ _ => rfl⟩
 refine tka (i := 0) rfl ?_
 try simp only [Act.put, kBs]
 refine tka (i := 1) rfl ?_
 try simp only [Act.put, kBs]
 refine tka (i := 3) rfl ?_
 try simp only [Act.put, kBs]
 generalize hwd : w.drew = wd at hHeld ⊢
 clear hwd
 refine wpAnyH_ready (rs := [2]) (by kernel_rfl) (by simp) ?_
 refine AllReadyH.cons rfl (fun K hK => ?_) AllReadyH.nil
 go_simp
 refine (za HMK _).mono ?_
 rintro e w1 ⟨rfl, b1⟩
 have bw1 := hHeld.1.trans (b1.mono hHeld.1.size)
 refine hK.out _ _ (za MK _ bw1) (fun hHeld1 => ?_)
 clear hK K hHeld b1
 try simp only [Act.put, kBs]
 refine wpAnyH_ready (rs := [4]) (by kernel_rfl) (by simp) ?_
 refine AllReadyH.cons rfl (fun K hK => ?_) AllReadyH.nil
 go_simp
 refine (za HIN _ bw1).mono ?_
 rintro e w2 ⟨h2, b2⟩
 have bw2 := bw1.trans (b2.mono bw1.size)
 rcases h2 with ⟨hc, v, Js, rfl, hio, hr⟩ | ⟨hc, hx, rfl⟩
 ·obtain ⟨a2, cap2, rfl⟩ := zp1 hio
  have HIO := hide (hio.mono bw1.size)
  have HR := hide hr
  refine hK.out _ _ (za MK _ bw2) (fun hHeld2 => ?_)
  clear hK K hHeld1 b2 HIN HMK hio hr
  try simp only [Act.put, kBs]
  refine tka (i := 5) rfl ?_
  try simp only [Act.put, kBs]
  refine wpAnyH_done (by kernel_rfl) ?_ _
  go_wp2
  go_ret
  exact ⟨.inl ⟨hc, _, Js, rfl, za HIO, za HR⟩, bw2⟩
 ·exact ⟨rfl, ⟨.inr ⟨hc, hx, rfl⟩, bw2⟩⟩
set_option linter.unusedSimpArgs false in
set_option maxRecDepth 100000 in
set_option maxHeartbeats 2000000 in
theorem touch_implN (a : Option Addr) (cap : Nat) (Is : List Pl.It) (p : ByteArray) (t : Int) (w : World) (hl : Is.length ≤ 1048576) (hcap : Is.length ≤ cap) (hv : Mem.zb3 w a Is) (hok : ∀ x ∈ Is, x.t.L.length ≤ 1048576 ∧ ∀ n ∈ x.t.L, n.path.size ≤ 1048576 ∧ n.data.size ≤ 1048576) (x : Nat → Addr) (hE : WIs.Six w x) :
  Calls Tryz.prog 22 #[.slice a Is.length cap, .string p, .int .i64 t] w fun e w' => (∃ v Js, e = .returned (.agg #[v, .int .i64 (Pl.zb5 (Is.map Pl.It.r) (⟨p, 1, ⟨#[]⟩, t, 0⟩ : Pl.Nd) (fun S => Pl.tchC S p) (fun S L1 _ => Pl.putL L1 (Pl.touN S L1 p t))).1]) ∧ Mem.Io w' w.heap.size v Js ∧ Js.map Pl.It.r = (Pl.zb5 (Is.map Pl.It.r) (⟨p, 1, ⟨#[]⟩, t, 0⟩ : Pl.Nd) (fun S => Pl.tchC S p) (fun S L1 _ => Pl.putL L1 (Pl.touN S L1 p t))).2) ∧ Below w.heap.size w w' := by
 have hmf : ∀ (fn : Fn) (first cap : Array Value) (w : World), (Instr.makeFunc fn first cap).run Tryz.prog w = .ok (.func fn first cap) w := fun _ _ _ _ => rfl
 have b0 : Below w.heap.size w ((((w.alloc (.cells #[.slice a Is.length cap] 24)).alloc (.cells #[.string p] 9)).alloc (.cells #[.int .i64 t] 2)).alloc (.cells #[.slice none 0 0, .int .i64 0] 26)) := ((((Below.refl _ _).alloc (Nat.le_refl _) _).alloc (by simp) _).alloc (by simp; omega) _).alloc (by simp; omega) _
 have hs : ((((w.alloc (.cells #[.slice a Is.length cap] 24)).alloc (.cells #[.string p] 9)).alloc (.cells #[.int .i64 t] 2)).alloc (.cells #[.slice none 0 0, .int .i64 0] 26)).heap.size = w.heap.size + 1 + 1 + 1 + 1 := by simp
 have B0 : Mem.Blk ((((w.alloc (.cells #[.slice a Is.length cap] 24)).alloc (.cells #[.string p] 9)).alloc (.cells #[.int .i64 t] 2)).alloc (.cells #[.slice none 0 0, .int .i64 0] 26)) (w.heap.size) #[.slice a Is.length cap] 24 := by
  have h : Mem.Blk (w.alloc (.cells #[.slice a Is.length cap] 24)) (w).heap.size #[.slice a Is.length cap] 24 := Mem.Blk.new _ _ _
  rw [show (w).heap.size = w.heap.size by simp] at h
  exact (((h).alloc _).alloc _).alloc _
 have B1 : Mem.Blk ((((w.alloc (.cells #[.slice a Is.length cap] 24)).alloc (.cells #[.string p] 9)).alloc (.cells #[.int .i64 t] 2)).alloc (.cells #[.slice none 0 0, .int .i64 0] 26)) (w.heap.size + 1) #[.string p] 9 := by
  have h : Mem.Blk ((w.alloc (.cells #[.slice a Is.length cap] 24)).alloc (.cells #[.string p] 9)) ((w.alloc (.cells #[.slice a Is.length cap] 24))).heap.size #[.string p] 9 := Mem.Blk.new _ _ _
  rw [show ((w.alloc (.cells #[.slice a Is.length cap] 24))).heap.size = w.heap.size + 1 by simp] at h
  exact ((h).alloc _).alloc _
 have B2 : Mem.Blk ((((w.alloc (.cells #[.slice a Is.length cap] 24)).alloc (.cells #[.string p] 9)).alloc (.cells #[.int .i64 t] 2)).alloc (.cells #[.slice none 0 0, .int .i64 0] 26)) (w.heap.size + 1 + 1) #[.int .i64 t] 2 := by
  have h : Mem.Blk (((w.alloc (.cells #[.slice a Is.length cap] 24)).alloc (.cells #[.string p] 9)).alloc (.cells #[.int .i64 t] 2)) (((w.alloc (.cells #[.slice a Is.length cap] 24)).alloc (.cells #[.string p] 9))).heap.size #[.int .i64 t] 2 := Mem.Blk.new _ _ _
  rw [show (((w.alloc (.cells #[.slice a Is.length cap] 24)).alloc (.cells #[.string p] 9))).heap.size = w.heap.size + 1 + 1 by simp] at h
  exact (h).alloc _
 have B3 : Mem.Blk ((((w.alloc (.cells #[.slice a Is.length cap] 24)).alloc (.cells #[.string p] 9)).alloc (.cells #[.int .i64 t] 2)).alloc (.cells #[.slice none 0 0, .int .i64 0] 26)) (w.heap.size + 1 + 1 + 1) #[.slice none 0 0, .int .i64 0] 26 := by
  have h : Mem.Blk ((((w.alloc (.cells #[.slice a Is.length cap] 24)).alloc (.cells #[.string p] 9)).alloc (.cells #[.int .i64 t] 2)).alloc (.cells #[.slice none 0 0, .int .i64 0] 26)) ((((w.alloc (.cells #[.slice a Is.length cap] 24)).alloc (.cells #[.string p] 9)).alloc (.cells #[.int .i64 t] 2))).heap.size #[.slice none 0 0, .int .i64 0] 26 := Mem.Blk.new _ _ _
  rw [show ((((w.alloc (.cells #[.slice a Is.length cap] 24)).alloc (.cells #[.string p] 9)).alloc (.cells #[.int .i64 t] 2))).heap.size = w.heap.size + 1 + 1 + 1 by simp] at h
  exact h
 have HF := hide (fun W0 (hW0 : W0 = ((((w.alloc (.cells #[.slice a Is.length cap] 24)).alloc (.cells #[.string p] 9)).alloc (.cells #[.int .i64 t] 2)).alloc (.cells #[.slice none 0 0, .int .i64 0] 26))) => zx 51 #[.pointer (some ⟨w.heap.size + 1, 0, none⟩), .pointer (some ⟨w.heap.size + 1 + 1, 0, none⟩), .pointer (some ⟨w.heap.size, 0, none⟩)] (Pl.zb5 (Is.map Pl.It.r) (⟨p, 1, ⟨#[]⟩, t, 0⟩ : Pl.Nd) (fun S => Pl.tchC S p) (fun S L1 _ => Pl.putL L1 (Pl.touN S L1 p t))).1 (Pl.zb5 (Is.map Pl.It.r) (⟨p, 1, ⟨#[]⟩, t, 0⟩ : Pl.Nd) (fun S => Pl.tchC S p) (fun S L1 _ => Pl.putL L1 (Pl.touN S L1 p t))).2 W0 (fun W => by kernel_rfl) (fun W b => by
  subst hW0
  have bw := b0.trans (b.mono b0.size)
  rw [hs] at b
  have hsz := b.size
  have h := touch_workN a cap Is p t ⟨w.heap.size + 1, 0, none⟩ ⟨w.heap.size + 1 + 1, 0, none⟩ ⟨w.heap.size, 0, none⟩ W (by have h := (B1.below b (by omega)).cell 0; simpa using h) (by show w.heap.size + 1 < _; omega) (by have h := (B2.below b (by omega)).cell 0; simpa using h) (by show w.heap.size + 1 + 1 < _; omega) (by have h := (B0.below b (by omega)).cell 0; simpa using h) (by show w.heap.size < _; omega) hl hcap (Mem.za6 hv bw) hok x (hE.call bw)
  exact h))
 have hf := hide (za HF _ rfl)
 clear HF hv hok hE
 generalize (Pl.zb5 (Is.map Pl.It.r) (⟨p, 1, ⟨#[]⟩, t, 0⟩ : Pl.Nd) (fun S => Pl.tchC S p) (fun S L1 _ => Pl.putL L1 (Pl.touN S L1 p t))) = R at hf ⊢
 go_enter Tryz.func22, Tryz.ntmps22
 go_wp2_with fail
 refine (za hf).mono ?_
 rintro e w1 ⟨⟨v, Js, rfl, hio, hr⟩, b1⟩
 obtain ⟨a2, cap2, rfl⟩ := zp1 hio
 rw [hs] at hio
 have bw1 := b0.trans (b1.mono b0.size)
 have R1 := B3.call b1
 have c0 := R1.cell 0
 have c1 := R1.cell 1
 have f0 := R1.fr 0
 have f1 := R1.fr 1
 simp only [kA0, kA1, kA2] at c0 c1
 have HIO := hide hio
 have HR := hide hr
 have HB := hide bw1
 clear hf b0 b1 hio hr bw1 B0 B1 B2 B3
 go_wp2
 refine bodyPost_ret (v := .agg #[.slice a2 Js.length cap2, .int .i64 R.1]) (by simp [results, Tryz.results22, go_sem, c0, c1]) rfl ⟨⟨.slice a2 Js.length cap2, Js, rfl, ?_, za HR⟩, ?_⟩
 ·exact (((za HIO).set _ _ (by show w.heap.size + 1 + 1 + 1 < _; omega)).set _ _ (by show w.heap.size + 1 + 1 + 1 < _; omega)).mono (by omega)
 ·exact ((za HB).setCell (by show w.heap.size ≤ w.heap.size + 1 + 1 + 1; omega) _).setCell (by show w.heap.size ≤ w.heap.size + 1 + 1 + 1; omega) _
end zl1
end Go.Proofs.YtppmlbofhghghaaGreatDoor


