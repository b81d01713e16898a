/- Several texts of one claim in one file: WMakeT, WMaking, WMakeN. -/
import Derived.Test.YtppmlbofhghghaaGreatDoorG03
import Derived.Test.YtppmlbofhghghaaGreatDoorG28
import Derived.Test.YtppmlbofhghghaaGreatDoorWAboveO
import Derived.Test.YtppmlbofhghghaaGreatDoorG33
import Derived.Test.YtppmlbofhghghaaGreatDoorG34
import Derived.Test.YtppmlbofhghghaaGreatDoorG57
import Derived.Test.YtppmlbofhghghaaGreatDoorPlainWayM
import Derived.Laws.EntriesVeiled
import Derived.Test.YtppmlbofhghghaaGreatDoorG39
namespace Go.Proofs.YtppmlbofhghghaaGreatDoor
open Go.RowKit
namespace zh3
set_option linter.unusedSimpArgs false in
set_option maxRecDepth 100000 in
set_option maxHeartbeats 3000000 in
theorem make_specN (b o cap : Nat) (Is : List Pl.It) (p : ByteArray) (t : Int) (w : World) (hl : Is.length ≤ 1048576) (hv : Mem.zb3 w (some ⟨b, o, none⟩) Is) (hok : ∀ x ∈ Is, x.t.L.length ≤ 1048576 ∧ ∀ n ∈ x.t.L, n.path.size ≤ 1048576 ∧ n.data.size ≤ 1048576) (hA : ∀ x ∈ Is, zb1.okA w x.t.a x.t.cap x.t.L) (hp : p.size ≤ 1048576) :
  Calls Tryz.prog 17 #[.slice (some ⟨b, o, none⟩) Is.length cap, .string p, .int .i64 t] w fun e w' => Outs w w' (Pl.zb5 (Is.map Pl.It.r) (⟨p, 1, ⟨#[]⟩, t, 0⟩ : Pl.Nd) (fun S => Pl.makC S (⟨p, 1, ⟨#[]⟩, t, 0⟩ : Pl.Nd)) (fun _ L1 lev => Pl.putL L1 ⟨p, 1, ⟨#[]⟩, t, lev⟩)).1 (Pl.zb5 (Is.map Pl.It.r) (⟨p, 1, ⟨#[]⟩, t, 0⟩ : Pl.Nd) (fun S => Pl.makC S (⟨p, 1, ⟨#[]⟩, t, 0⟩ : Pl.Nd)) (fun _ L1 lev => Pl.putL L1 ⟨p, 1, ⟨#[]⟩, t, lev⟩)).2 e ∧ Below w.heap.size w w' := by
 generalize hNE : Pl.zb5 (Is.map Pl.It.r) (⟨p, 1, ⟨#[]⟩, t, 0⟩ : Pl.Nd) (fun S => Pl.makC S (⟨p, 1, ⟨#[]⟩, t, 0⟩ : Pl.Nd)) (fun _ L1 lev => Pl.putL L1 ⟨p, 1, ⟨#[]⟩, t, lev⟩) = NE
 have HNE := hide hNE
 clear hNE
 have hR : ∀ x ∈ Is, Mem.okR x.t.a x.t.cap x.t.L := fun x hx => Mem.zt0 (hA x hx)
 have b1 : Below w.heap.size w ((w.alloc (.cells #[.slice none 0 0, .int .i64 0] 26)).alloc (.cells #[.string p, .int .i64 1, .string ⟨#[]⟩, .int .i64 t, .int .i64 0] 47)) := ((Below.refl _ _).alloc (Nat.le_refl _) _).alloc (by simp) _
 have O1 : Mem.Blk ((w.alloc (.cells #[.slice none 0 0, .int .i64 0] 26)).alloc (.cells #[.string p, .int .i64 1, .string ⟨#[]⟩, .int .i64 t, .int .i64 0] 47)) w.heap.size #[.slice none 0 0, .int .i64 0] 26 := (Mem.Blk.new _ _ _).alloc _
 have N1 : Mem.Blk ((w.alloc (.cells #[.slice none 0 0, .int .i64 0] 26)).alloc (.cells #[.string p, .int .i64 1, .string ⟨#[]⟩, .int .i64 t, .int .i64 0] 47)) (w.heap.size + 1) #[.string p, .int .i64 1, .string ⟨#[]⟩, .int .i64 t, .int .i64 0] 47 := by
  have h := Mem.Blk.new (w.alloc (.cells #[.slice none 0 0, .int .i64 0] 26)) #[.string p, .int .i64 1, .string ⟨#[]⟩, .int .i64 t, .int .i64 0] 47
  simpa using h
 have hs1 : ((w.alloc (.cells #[.slice none 0 0, .int .i64 0] 26)).alloc (.cells #[.string p, .int .i64 1, .string ⟨#[]⟩, .int .i64 t, .int .i64 0] 47)).heap.size = w.heap.size + 2 := by simp
 have HBE := hide (ye8 (some ⟨b, o, none⟩) cap Is (⟨p, 1, ⟨#[]⟩, t, 0⟩ : Pl.Nd) ((w.alloc (.cells #[.slice none 0 0, .int .i64 0] 26)).alloc (.cells #[.string p, .int .i64 1, .string ⟨#[]⟩, .int .i64 t, .int .i64 0] 47)) hl (Mem.za6 hv b1) hok hR hp (by decide : (⟨#[]⟩ : ByteArray).size ≤ 1048576))
 simp only at HBE
 have HV := hide hv
 have HOK := hide hok
 have HA := hide hA
 have HR := hide hR
 clear hv hok hA hR
 go_enter Tryz.func17, Tryz.ntmps17
 go_wp2_with fail
 generalize ((w.alloc (.cells #[.slice none 0 0, .int .i64 0] 26)).alloc (.cells #[.string p, .int .i64 1, .string ⟨#[]⟩, .int .i64 t, .int .i64 0] 47)) = w1 at b1 O1 N1 hs1 HBE ⊢
 refine (za HBE).mono ?_
 rintro e w2 ⟨v, rfl, own, b2⟩
 obtain ⟨va, vc, rfl⟩ := Mem.za2 own
 have bw2 := b1.trans (b2.mono b1.size)
 have O2 := O1.call b2
 have N2 := N1.call b2
 rw [hs1] at own
 by_cases hC : Pl.begC (Is.map Pl.It.r) (⟨p, 1, ⟨#[]⟩, t, 0⟩ : Pl.Nd) = 0
 case neg =>
  obtain rfl := (za HNE).symm.trans (Pl.yd0 hC _ _)
  generalize hLn : (Pl.begT (Is.map Pl.It.r) (⟨p, 1, ⟨#[]⟩, t, 0⟩ : Pl.Nd)).length = ln
  have QI := hide (⟨bw2.alloc (o := .cells #[.slice va ln vc] 50) bw2.size, O2.alloc _⟩ : Below w.heap.size w (w2.alloc (.cells #[.slice va ln vc] 50)) ∧ Mem.Blk (w2.alloc (.cells #[.slice va ln vc] 50)) w.heap.size #[.slice none 0 0, .int .i64 0] 26)
  clear O1 N1 O2 N2 own bw2 b2 b1 HBE HV HOK HA HR hLn hs1 HNE
  go_wp2_with fail
  refine (zc1 (Pl.begC (Is.map Pl.It.r) (⟨p, 1, ⟨#[]⟩, t, 0⟩ : Pl.Nd)) _).mono ?_
  rintro e wI ⟨rfl, bI⟩
  have bJ := (za QI).1.trans (bI.mono (za QI).1.size)
  have RJ := (za QI).2.call bI
  have d0 := RJ.cell 0
  have d1 := RJ.cell 1
  have f0 := RJ.fr 0
  have f1 := RJ.fr 1
  simp only [kA0, kA1, kA2] at d0 d1
  go_wp2
  refine bodyPost_ret (v := .agg #[.slice none 0 0, .int .i64 (Pl.begC (Is.map Pl.It.r) (⟨p, 1, ⟨#[]⟩, t, 0⟩ : Pl.Nd))]) (by simp [results, Tryz.results17, go_sem, d0, d1]) rfl ⟨⟨_, [], rfl, Mem.Io.nil _ _, rfl⟩, ?_⟩
  exact (bJ.setCell (Nat.le_refl _) _).setCell (Nat.le_refl _) _
 obtain ⟨z1, z2, z3, z4, z5, z6, z7⟩ := Pl.zu8 hC
 obtain ⟨FF0, hF⟩ := Option.isSome_iff_exists.1 z4
 obtain ⟨L, K, hKs, hfl, hko, hnx⟩ := Pl.zm8 hF
 have hl12 := Pl.zn4 hF
 rw [List.length_map] at hl12
 subst hKs
 rw [z7] at own ⊢
 rw [hC]
 have hpl := Pl.zt9 z6
 have hT40 := Pl.yd9 (Is.map Pl.It.r)
 generalize hT : Pl.zc5 (Is.map Pl.It.r) = T at own hpl hT40 ⊢
 have htr := Pl.ze7 hpl
 have hTn := (Pl.zd2 T).1 htr
 have HPL := hide (fun W (Q : Mem.ownN W (w.heap.size + 2) (.slice va T.length vc) T) => zc3.dir_specG va vc T p t W (by omega) (Mem.zo0 Q) (Mem.zc7 Q).2 (fun m hm => by
  have h1 := (hTn.2.1 m hm).1
  have h2 := Pl.zb8 (Pl.za9 h1).1
  have h3 := (Pl.zd3 h1).1
  omega) hp)
 have W3o := Mem.ze3 own ((Below.refl w2.heap.size w2).alloc (o := .cells #[.slice va T.length vc] 50) (Nat.le_refl _))
 have Q3 := hide (⟨⟨bw2.alloc (o := .cells #[.slice va T.length vc] 50) bw2.size, O2.alloc _, Mem.Blk.new _ _ _, Mem.zb4 W3o (by omega), by have := O2.lt; omega⟩, N2.alloc _⟩ : Sg w (w2.alloc (.cells #[.slice va T.length vc] 50)) w2.heap.size va vc T ∧ Mem.Blk (w2.alloc (.cells #[.slice va T.length vc] 50)) (w.heap.size + 1) #[.string p, .int .i64 1, .string ⟨#[]⟩, .int .i64 t, .int .i64 0] 47)
 have OW3 := hide W3o
 have s0 := (za Q3).1.sig.cell 0
 simp only [kA0, kA1] at s0
 have hXlo : w.heap.size + 1 < w2.heap.size := N2.lt
 clear O1 N1 O2 N2 own bw2 b2 b1 HBE W3o hs1 z1 z4
 go_wp2_with fail
 generalize w2.alloc (.cells #[.slice va T.length vc] 50) = w3 at Q3 s0 OW3 ⊢
 generalize w2.heap.size = X at Q3 s0 hXlo ⊢
 refine (za HPL _ (za OW3)).mono ?_
 rintro e w4 ⟨v4, rfl, own4, b4⟩
 obtain ⟨a4, c4, rfl⟩ := Mem.za2 own4
 rw [Pl.zw0 ⟨z2, z3⟩ hpl z5]
 by_cases hP : Pl.makC T (⟨p, 1, ⟨#[]⟩, t, 0⟩ : Pl.Nd) = 0
 case neg =>
  obtain rfl := (za HNE).symm.trans (Pl.beg_pc (pc := (fun S => Pl.makC S (⟨p, 1, ⟨#[]⟩, t, 0⟩ : Pl.Nd))) hC (by rw [hT]; exact hP) _)
  simp only [hT]
  have hPz : ¬ Pl.makC T (⟨p, 1, ⟨#[]⟩, t, 0⟩ : Pl.Nd) = 0 := hP
  generalize hLn : (Pl.chgO T (⟨p, 1, ⟨#[]⟩, t, 0⟩ : Pl.Nd) _ _).length = ln
  have QI := hide (⟨((za Q3).1.call b4).bel.alloc (o := .cells #[.slice a4 ln c4, .int .i64 (Pl.makC T (⟨p, 1, ⟨#[]⟩, t, 0⟩ : Pl.Nd))] 55) ((za Q3).1.call b4).bel.size, ((za Q3).1.call b4).out.alloc _⟩ : Below w.heap.size w (w4.alloc (.cells #[.slice a4 ln c4, .int .i64 (Pl.makC T (⟨p, 1, ⟨#[]⟩, t, 0⟩ : Pl.Nd))] 55)) ∧ Mem.Blk (w4.alloc (.cells #[.slice a4 ln c4, .int .i64 (Pl.makC T (⟨p, 1, ⟨#[]⟩, t, 0⟩ : Pl.Nd))] 55)) w.heap.size #[.slice none 0 0, .int .i64 0] 26)
  have x1 := (Mem.Blk.new w4 #[.slice a4 ln c4, .int .i64 (Pl.makC T (⟨p, 1, ⟨#[]⟩, t, 0⟩ : Pl.Nd))] 55).cell 1
  simp only [kA0, kA1, kA2] at x1
  clear Q3 b4 own4 HPL HV HOK HA HR OW3 s0 hLn HNE
  go_wp2_with fail
  refine (zc1 (Pl.makC T (⟨p, 1, ⟨#[]⟩, t, 0⟩ : Pl.Nd)) _).mono ?_
  rintro e wI ⟨rfl, bI⟩
  have bJ := (za QI).1.trans (bI.mono (za QI).1.size)
  have RJ := (za QI).2.call bI
  have d0 := RJ.cell 0
  have d1 := RJ.cell 1
  have f0 := RJ.fr 0
  have f1 := RJ.fr 1
  simp only [kA0, kA1, kA2] at d0 d1
  go_wp2
  refine bodyPost_ret (v := .agg #[.slice none 0 0, .int .i64 (Pl.makC T (⟨p, 1, ⟨#[]⟩, t, 0⟩ : Pl.Nd))]) (by simp [results, Tryz.results17, go_sem, d0, d1]) rfl ⟨⟨_, [], rfl, Mem.Io.nil _ _, rfl⟩, ?_⟩
  exact (bJ.setCell (Nat.le_refl _) _).setCell (Nat.le_refl _) _
 have hD := Pl.dir_make hP
 have hLt : Pl.za5 (Pl.zd5 L K) = true := Pl.yc9 L K hko.1 hko.2.2.2.1
 have hpB := (Pl.za9 z5).1
 have hp0 : p.size ≠ 0 := (Pl.za9 z5).2
 obtain ⟨e1, h1, h2, h3⟩ := Pl.abv_all (L := Pl.zd5 L K) htr hLt hpB hD
 simp only at e1 h1 h2 h3
 rw [hP]
 have hYES := Pl.yh hC hnx hfl (pc := (fun S => Pl.makC S (⟨p, 1, ⟨#[]⟩, t, 0⟩ : Pl.Nd))) (by rw [hT]; exact hP) (fun _ L1 lev => Pl.putL L1 ⟨p, 1, ⟨#[]⟩, t, lev⟩)
 simp only [hT] at hYES
 rw [e1] at hYES
 have HN2 := hide ((za HNE).symm.trans hYES)
 have HSM := hide (fun (x : Pl.It) (hx : x ∈ Is) => (show x.t.L.length ≤ 1000 by have h := ((Pl.zd2 _).1 (Pl.Fx.ok_mem hko x.r (by rw [hfl]; exact List.mem_map.2 ⟨x, hx, rfl⟩)).1).1; exact Nat.le_trans h (by decide)))
 obtain ⟨x, hxI, hxL, hxc, hxn, hbw, hlev⟩ := ye5 (za HV) hfl
 have hxA := za HA x hxI
 obtain ⟨xm, xa, xc, xL⟩ := x
 simp only [Pl.Tr.val] at hxL hxc hxn hxA
 subst hxL
 have hix : 0 ≤ (K.shape.level : Int) ∧ (K.shape.level : Int) < (Is.length : Int) := by omega
 have HFI := hide (fun W (bb : Below w.heap.size w W) => zs5.zq1 (some ⟨b, o, none⟩) cap Is hl12 W (Mem.za6 (za HV) bb) K.shape hF)
 have hnmP := Pl.zm hpB
 have hn1 : 1 ≤ (Pl.names p).length := List.length_pos_iff.2 (Pl.zs1 hp0)
 have hL40 := ((Pl.zd2 _).1 hLt).1
 have HAB := hide (fun W (Q : Sg w W X va vc T) => yf4 xa xc (Pl.zd5 L K) T va vc p W hnmP.1 hn1 hnmP.2 hp (zb1.zg3 hxA Q.bel.size) (Mem.za0 hxn Q.bel) (by omega) (fun m hm => by have := Pl.zb8 (Pl.za9 (((Pl.zd2 _).1 hLt).2.1 m hm).1).1; omega) (Mem.zc7 Q.own).2 (by omega) h1)
 generalize hxg : Pl.zd5 L K = xL at HAB hxc hxn hxA h2 h3 HN2 ⊢
 generalize hRg : Pl.abvN T xL (Pl.ways (Pl.names p) ((Pl.names p).length - 1)) = R at HAB h2 h3 HN2 ⊢
 have HPU := hide (fun a' cap' W (h1 : zb1.okA W a' cap' R) (hx2 : Mem.za1 W a' R) => zb1.yb9 a' cap' R (⟨p, 1, ⟨#[]⟩, t, (K.shape.level : Int)⟩ : Pl.Nd) W (by omega) h1 hx2 (fun m hm => by have := Pl.zb8 (h2.path m hm).1; omega) (by show p.size ≤ 8000; exact z2))
 have hOl := Pl.zx6 R (⟨p, 1, ⟨#[]⟩, t, (K.shape.level : Int)⟩ : Pl.Nd)
 have HDO := hide (fun a' ct W (bb : Below w.heap.size w W) (h1 : zb1.okA W a' ct (Pl.putL R (⟨p, 1, ⟨#[]⟩, t, (K.shape.level : Int)⟩ : Pl.Nd))) (hx2 : Mem.za1 W a' (Pl.putL R (⟨p, 1, ⟨#[]⟩, t, (K.shape.level : Int)⟩ : Pl.Nd))) => yj1 b o cap Is a' ct (Pl.putL R (⟨p, 1, ⟨#[]⟩, t, (K.shape.level : Int)⟩ : Pl.Nd)) K.shape W (Mem.za6 (za HV) bb) hl12 hF (fun x hx => za HSM x hx) (za HR) (by omega) (Mem.zt0 h1) hx2)
 generalize hOg : Pl.putL R (⟨p, 1, ⟨#[]⟩, t, (K.shape.level : Int)⟩ : Pl.Nd) = O at HPU HDO hOl HN2 ⊢
 generalize (if 40 < O.length then (9 : Int) else 0) = cd at HDO HN2
 generalize (if 40 < O.length then [] else (Is.map Pl.It.r).set K.shape.level ((0 : Int), O)) = il at HDO HN2
 have MK : Hid (∀ W', (Sg w W' X va vc T ∧ Mem.Blk W' (w.heap.size + 1) #[.string p, .int .i64 1, .string ⟨#[]⟩, .int .i64 t, .int .i64 (K.shape.level : Int)] 47) → (fun W' => Below w.heap.size w W' ∧ W'.cell? ⟨X, 0, none⟩ = some (.slice va T.length vc) ∧ W'.cell? ⟨w.heap.size + 1, 0, none⟩ = some (.string p) ∧ W'.cell? ⟨w.heap.size + 1, 1, none⟩ = some (.int .i64 1) ∧ W'.cell? ⟨w.heap.size + 1, 2, none⟩ = some (.string ⟨#[]⟩) ∧ W'.cell? ⟨w.heap.size + 1, 3, none⟩ = some (.int .i64 t) ∧ W'.cell? ⟨w.heap.size + 1, 4, none⟩ = some (.int .i64 (K.shape.level : Int)) ∧ W'.cell? ⟨b, o + K.shape.level * 2 + 1, none⟩ = some (.slice xa xL.length xc)) W') := fun W' h => ⟨h.1.bel, by have h' := h.1.sig.cell 0; simpa using h', by have h' := h.2.cell 0; simpa using h', by have h' := h.2.cell 1; simpa using h', by have h' := h.2.cell 2; simpa using h', by have h' := h.2.cell 3; simpa using h', by have h' := h.2.cell 4; simpa using h', (h.1.bel.cell (p := ⟨b, _, none⟩) hbw).trans hxc⟩
 have MS : Hid (∀ v c W', (Sg w W' X va vc T ∧ Mem.Blk W' (w.heap.size + 1) #[.string p, .int .i64 1, .string ⟨#[]⟩, .int .i64 t, .int .i64 (K.shape.level : Int)] 47) → (fun W' => Below w.heap.size w W' ∧ W'.cell? ⟨X, 0, none⟩ = some (.slice va T.length vc) ∧ W'.cell? ⟨w.heap.size + 1, 0, none⟩ = some (.string p) ∧ W'.cell? ⟨w.heap.size + 1, 1, none⟩ = some (.int .i64 1) ∧ W'.cell? ⟨w.heap.size + 1, 2, none⟩ = some (.string ⟨#[]⟩) ∧ W'.cell? ⟨w.heap.size + 1, 3, none⟩ = some (.int .i64 t) ∧ W'.cell? ⟨w.heap.size + 1, 4, none⟩ = some (.int .i64 (K.shape.level : Int)) ∧ W'.cell? ⟨b, o + K.shape.level * 2 + 1, none⟩ = some (.slice xa xL.length xc)) ((W'.setCell ⟨w.heap.size, 0, none⟩ v).setCell ⟨w.heap.size, 1, none⟩ c)) := fun v c W' h => by
  have hb := (h.1.bel.setCell (p := ⟨w.heap.size, 0, none⟩) (Nat.le_refl _) v).setCell (p := ⟨w.heap.size, 1, none⟩) (Nat.le_refl _) c
  have hg := (h.1.sig.far ⟨w.heap.size, 0, none⟩ v (by show X ≠ w.heap.size; omega)).far ⟨w.heap.size, 1, none⟩ c (by show X ≠ w.heap.size; omega)
  have hn := (h.2.far ⟨w.heap.size, 0, none⟩ v (by show w.heap.size + 1 ≠ w.heap.size; omega)).far ⟨w.heap.size, 1, none⟩ c (by show w.heap.size + 1 ≠ w.heap.size; omega)
  exact ⟨hb, by have h' := hg.cell 0; simpa using h', by have h' := hn.cell 0; simpa using h', by have h' := hn.cell 1; simpa using h', by have h' := hn.cell 2; simpa using h', by have h' := hn.cell 3; simpa using h', by have h' := hn.cell 4; simpa using h', (hb.cell (p := ⟨b, _, none⟩) hbw).trans hxc⟩
 have Q4 := hide (⟨((za Q3).1.call b4).call ((Below.refl w4.heap.size w4).alloc (o := .cells #[.slice a4 (Pl.chgO T (⟨p, 1, ⟨#[]⟩, t, 0⟩ : Pl.Nd) 0 (Pl.putL T (⟨p, 1, ⟨#[]⟩, t, 0⟩ : Pl.Nd))).length c4, .int .i64 0] 55) (Nat.le_refl _)), ((za Q3).2.call b4).alloc _⟩ : Sg w (w4.alloc (.cells #[.slice a4 (Pl.chgO T (⟨p, 1, ⟨#[]⟩, t, 0⟩ : Pl.Nd) 0 (Pl.putL T (⟨p, 1, ⟨#[]⟩, t, 0⟩ : Pl.Nd))).length c4, .int .i64 0] 55)) X va vc T ∧ Mem.Blk (w4.alloc (.cells #[.slice a4 (Pl.chgO T (⟨p, 1, ⟨#[]⟩, t, 0⟩ : Pl.Nd) 0 (Pl.putL T (⟨p, 1, ⟨#[]⟩, t, 0⟩ : Pl.Nd))).length c4, .int .i64 0] 55)) (w.heap.size + 1) #[.string p, .int .i64 1, .string ⟨#[]⟩, .int .i64 t, .int .i64 0] 47)
 have hown2 := (Mem.ze3 (za OW3) b4)
 have hown2 := Mem.ze3 hown2 ((Below.refl w4.heap.size w4).alloc (o := .cells #[.slice a4 (Pl.chgO T (⟨p, 1, ⟨#[]⟩, t, 0⟩ : Pl.Nd) 0 (Pl.putL T (⟨p, 1, ⟨#[]⟩, t, 0⟩ : Pl.Nd))).length c4, .int .i64 0] 55) (Nat.le_refl _))
 have x1 := (Mem.Blk.new w4 #[.slice a4 (Pl.chgO T (⟨p, 1, ⟨#[]⟩, t, 0⟩ : Pl.Nd) 0 (Pl.putL T (⟨p, 1, ⟨#[]⟩, t, 0⟩ : Pl.Nd))).length c4, .int .i64 0] 55).cell 1
 simp only [kA0, kA1, kA2] at x1
 clear Q3 b4 own4 HPL HOK HA HR s0 OW3 hnmP hLt hpB hp0 htr hTn hpl hC hP hD h2 hxc hxn hxA hxg hRg hnx hfl hko hF hT hOg e1 h1 h3 hYES HNE HV hn1 hL40
 have QA := Q4
 clear Q4
 have g4 := (za QA).2.fr 4
 have g0 := (za QA).2.cell 4
 simp only [kA0, kA1, kA2] at g0
 go_wp2_with fail
 generalize (w4.alloc (.cells #[.slice a4 (Pl.chgO T (⟨p, 1, ⟨#[]⟩, t, 0⟩ : Pl.Nd) 0 (Pl.putL T (⟨p, 1, ⟨#[]⟩, t, 0⟩ : Pl.Nd))).length c4, .int .i64 0] 55)) = W4 at QA hown2 x1 g0 g4 ⊢
 refine (za HFI _ (za QA).1.bel).mono ?_
 rintro e wM ⟨rfl, hwM⟩
 subst wM
 have QB := hide (⟨⟨(za QA).1.bel.setCell (by show w.heap.size ≤ w.heap.size + 1; omega) _, (za QA).1.out.far _ _ (by show w.heap.size ≠ w.heap.size + 1; omega), (za QA).1.sig.far _ _ (by show X ≠ w.heap.size + 1; omega), Mem.zb4 (Mem.za8 (B := w.heap.size + 2) hown2 _ _ (by show w.heap.size + 1 < w.heap.size + 2; omega)) (by omega), (za QA).1.lo⟩, (by have h := (za QA).2.put 4 (.int .i64 (K.shape.level : Int)); simpa using h)⟩ : Sg w (W4.setCell ⟨w.heap.size + 1, 4, none⟩ (.int .i64 (K.shape.level : Int))) X va vc T ∧ Mem.Blk (W4.setCell ⟨w.heap.size + 1, 4, none⟩ (.int .i64 (K.shape.level : Int))) (w.heap.size + 1) #[.string p, .int .i64 1, .string ⟨#[]⟩, .int .i64 t, .int .i64 (K.shape.level : Int)] 47)
 go_upto_region 9 with fail
 have bd := zw9 (W4.setCell ⟨w.heap.size + 1, 4, none⟩ (.int .i64 (K.shape.level : Int)))
 have QD := hide (⟨(za QB).1.call bd, (za QB).2.call bd⟩ : Sg w (W4.setCell ⟨w.heap.size + 1, 4, none⟩ (.int .i64 (K.shape.level : Int))).drew X va vc T ∧ Mem.Blk (W4.setCell ⟨w.heap.size + 1, 4, none⟩ (.int .i64 (K.shape.level : Int))).drew (w.heap.size + 1) #[.string p, .int .i64 1, .string ⟨#[]⟩, .int .i64 t, .int .i64 (K.shape.level : Int)] 47)
 clear bd QB
 refine wp_region_held_drew (S := fun W' => Below w.heap.size w W' ∧ W'.cell? ⟨X, 0, none⟩ = some (.slice va T.length vc) ∧ W'.cell? ⟨w.heap.size + 1, 0, none⟩ = some (.string p) ∧ W'.cell? ⟨w.heap.size + 1, 1, none⟩ = some (.int .i64 1) ∧ W'.cell? ⟨w.heap.size + 1, 2, none⟩ = some (.string ⟨#[]⟩) ∧ W'.cell? ⟨w.heap.size + 1, 3, none⟩ = some (.int .i64 t) ∧ W'.cell? ⟨w.heap.size + 1, 4, none⟩ = some (.int .i64 (K.shape.level : Int)) ∧ W'.cell? ⟨b, o + K.shape.level * 2 + 1, none⟩ = some (.slice xa xL.length xc)) (by kernel_rfl) ?_ (fun hHeld => ?_)
 ·exact za MK _ (za QD)
 generalize (W4.setCell ⟨w.heap.size + 1, 4, none⟩ (.int .i64 (K.shape.level : Int))).drew = WD at hHeld QD ⊢
 refine tka (i := 0) rfl ?_
 try simp only [Act.put, kBs]
 refine tka (i := 1) rfl ?_
 try simp only [Act.put, kBs]
 refine tka (i := 2) rfl ?_
 try simp only [Act.put, kBs]
 refine tka (i := 7) rfl ?_
 try simp only [Act.put, kBs]
 refine tka (i := 8) rfl ?_
 try simp only [Act.put, kBs]
 refine tka (i := 10) rfl ?_
 try simp only [Act.put, kBs]
 refine wpAnyH_ready (rs := [3]) (by kernel_rfl) (by simp) ?_
 refine AllReadyH.cons rfl (fun K1 hK => ?_) AllReadyH.nil
 go_simp
 refine (za HFI _ (za QD).1.bel).mono ?_
 rintro e wX ⟨rfl, hwX⟩
 subst wX
 refine hK.out _ _ ?_ (fun hHeld2 => ?_)
 ·assumption
 clear hK K1 hHeld HFI
 have hHeld := hHeld2
 clear hHeld2
 try simp only [Act.put, kBs]
 refine tka (i := 4) rfl ?_
 try simp only [Act.put, kBs]
 refine tka (i := 5) rfl ?_
 try simp only [Act.put, kBs]
 refine tka (i := 6) rfl ?_
 try simp only [Act.put, kBs]
 refine wpAnyH_ready (rs := [9]) (by kernel_rfl) (by simp) ?_
 refine AllReadyH.cons rfl (fun K1 hK => ?_) AllReadyH.nil
 go_simp
 refine (za HAB _ (za QD).1).mono ?_
 rintro e wX ⟨a1, c1, rfl, ok1, nd1, bx⟩
 have QN := hide (⟨(za QD).1.call bx, (za QD).2.call bx⟩ : Sg w wX X va vc T ∧ Mem.Blk wX (w.heap.size + 1) #[.string p, .int .i64 1, .string ⟨#[]⟩, .int .i64 t, .int .i64 (K.shape.level : Int)] 47)
 refine hK.out _ _ ?_ (fun hHeld2 => ?_)
 ·exact za MK _ (za QN)
 clear hK K1 hHeld QD HAB bx
 have hHeld := hHeld2
 clear hHeld2
 have QE := QN
 clear QN
 try simp only [Act.put, kBs]
 refine wpAnyH_ready (rs := [11]) (by kernel_rfl) (by simp) ?_
 refine AllReadyH.cons rfl (fun K1 hK => ?_) AllReadyH.nil
 go_simp
 refine (za HPU a1 c1 _ ok1 nd1).mono ?_
 rintro e wX ⟨v2, rfl, own2, bx⟩
 obtain ⟨a2, c2, rfl⟩ := Mem.za2 own2
 have QN := hide (⟨(za QE).1.call bx, (za QE).2.call bx⟩ : Sg w wX X va vc T ∧ Mem.Blk wX (w.heap.size + 1) #[.string p, .int .i64 1, .string ⟨#[]⟩, .int .i64 t, .int .i64 (K.shape.level : Int)] 47)
 refine hK.out _ _ ?_ (fun hHeld2 => ?_)
 ·exact za MK _ (za QN)
 clear hK K1 hHeld QE HPU bx ok1 nd1
 have hHeld := hHeld2
 clear hHeld2
 have QF := QN
 clear QN
 try simp only [Act.put, kBs]
 refine wpAnyH_ready (rs := [12]) (by kernel_rfl) (by simp) ?_
 refine AllReadyH.cons rfl (fun K1 hK => ?_) AllReadyH.nil
 go_simp
 refine (za HDO a2 c2 _ (za QF).1.bel (Mem.zo0 own2) (Mem.zc7 own2).2).mono ?_
 rintro e wX ⟨⟨v3, Js, rfl, io, hJs⟩, bx⟩
 obtain ⟨a3, c3, rfl⟩ := Mem.za2 io.row
 have QG := hide (⟨(za QF).1.call bx, (za QF).2.call bx⟩ : Sg w wX X va vc T ∧ Mem.Blk wX (w.heap.size + 1) #[.string p, .int .i64 1, .string ⟨#[]⟩, .int .i64 t, .int .i64 (K.shape.level : Int)] 47)
 have hsz := (za QF).1.bel.size
 have hszo := (za QF).1.out.lt
 have IO := hide io
 have HJ := hide hJs
 refine hK.out _ _ ?_ (fun hHeld2 => ?_)
 ·exact za MK _ (za QG)
 clear hK K1 hHeld QF HDO own2 bx io hJs
 have hHeld := hHeld2
 clear hHeld2
 try simp only [Act.put, kBs]
 have d0 := (za QG).1.out.cell 0
 have d1 := (za QG).1.out.cell 1
 have f0 := (za QG).1.out.fr 0
 have f1 := (za QG).1.out.fr 1
 simp only [kA0, kA1, kA2] at d0 d1
 have HS2 := hide (fun v c => za MS v c _ (za QG))
 refine wpAnyH_ready (rs := [13]) (by kernel_rfl) (by simp) ?_
 refine AllReadyH.cons rfl (fun K1 hK => ?_) AllReadyH.nil
 go_simp
 refine hK.out _ _ ?_ (fun hHeld2 => ?_)
 ·exact za HS2 _ _
 clear hK K1 hHeld hHeld2 MK MS HS2
 refine wpAnyH_done (by kernel_rfl) ?_ _
 go_wp2
 refine bodyPost_ret (v := .agg #[.slice a3 Js.length c3, .int .i64 cd]) (by simp [results, Tryz.results17, go_sem, d0, d1]) rfl ⟨⟨_, Js, by rw [za HN2], (((za IO).set _ _ (by show w.heap.size < _; omega)).set _ _ (by show w.heap.size < _; omega)).mono hsz, by rw [za HN2]; exact za HJ⟩, ?_⟩
 exact ((za QG).1.bel.setCell (Nat.le_refl _) _).setCell (Nat.le_refl _) _
end zh3
end Go.Proofs.YtppmlbofhghghaaGreatDoor

namespace Go.Proofs.YtppmlbofhghghaaGreatDoor
open Go.RowKit
namespace zc3
set_option linter.unusedSimpArgs false in
set_option maxRecDepth 100000 in
theorem making_any (p : ByteArray) (t : Int) (w : World) :
  Calls Tryz.prog 43 #[.string p, .int .i64 t] w fun e w' => e = .returned (.agg (chg ⟨p, 1, ⟨#[]⟩, t, 0⟩ 88 89)) ∧ Below w.heap.size w w' := by
 go_enter Tryz.func43, Tryz.ntmps43
 go_wp2
 refine bodyPost_ret (v := .agg (chg ⟨p, 1, ⟨#[]⟩, t, 0⟩ 88 89)) (by simp [results, Tryz.results43, go_sem]) rfl ⟨rfl, ?_⟩
 repeat first | exact (Below.refl _ _).alloc (Nat.le_refl _) _ | refine Below.setCell ?_ (Nat.le_refl _) _
end zc3
end Go.Proofs.YtppmlbofhghghaaGreatDoor

namespace Go.Proofs.YtppmlbofhghghaaGreatDoor
open Go.RowKit Go.Maps
namespace zl1
open zc3
set_option linter.unusedSimpArgs false in
set_option maxRecDepth 100000 in
set_option maxHeartbeats 2000000 in
theorem make_workN (a : Option Addr) (cap : Nat) (Is : List Pl.It) (p : ByteArray) (t : Int) (qp qt qN : Addr) (w : World) (hqp : w.cell? qp = some (.string p)) (lqp : qp.block < w.heap.size) (hqt : w.cell? qt = some (.int .i64 t)) (lqt : qt.block < w.heap.size) (hqN : w.cell? qN = some (.slice a Is.length cap)) (lqN : qN.block < w.heap.size) (hl : Is.length ≤ 1048576) (hcap : Is.length ≤ cap) (hv : Mem.zb3 w a Is) (hok : ∀ x ∈ Is, x.t.L.length ≤ 1048576 ∧ ∀ n ∈ x.t.L, n.path.size ≤ 1048576 ∧ n.data.size ≤ 1048576) (x : Nat → Addr) (hE : WIs.Six w x) :
  Calls Tryz.prog 42 #[.pointer (some qp), .pointer (some qt), .pointer (some qN)] w fun e w' => EndsN w w' e (Pl.zb5 (Is.map Pl.It.r) (⟨p, 1, ⟨#[]⟩, t, 0⟩ : Pl.Nd) (fun S => Pl.makC S ⟨p, 1, ⟨#[]⟩, t, 0⟩) (fun _ L1 lev => Pl.putL L1 ⟨p, 1, ⟨#[]⟩, t, lev⟩)).1 (Pl.zb5 (Is.map Pl.It.r) (⟨p, 1, ⟨#[]⟩, t, 0⟩ : Pl.Nd) (fun S => Pl.makC S ⟨p, 1, ⟨#[]⟩, t, 0⟩) (fun _ L1 lev => Pl.putL L1 ⟨p, 1, ⟨#[]⟩, t, lev⟩)).2 := by
 have MK : Hid (∀ W', Below w.heap.size w W' → (fun W' => Below w.heap.size w W' ∧ W'.cell? qp = some (.string p) ∧ W'.cell? qt = some (.int .i64 t) ∧ W'.cell? qN = some (.slice a Is.length cap)) W') := fun W' hb' => ⟨hb', (hb'.cell (p := qp) lqp).trans hqp, (hb'.cell (p := qt) lqt).trans hqt, (hb'.cell (p := qN) lqN).trans hqN⟩
 have HIN := hide (fun W (b : Below w.heap.size w W) => yb6 (⟨p, 1, ⟨#[]⟩, t, 0⟩ : Pl.Nd) 88 89 (fun S => Pl.makC S ⟨p, 1, ⟨#[]⟩, t, 0⟩) (fun S => Pl.putL S ⟨p, 1, ⟨#[]⟩, t, 0⟩) (fun _ L1 lev => Pl.putL L1 ⟨p, 1, ⟨#[]⟩, t, lev⟩) a cap Is W hl hcap (Mem.za6 hv b) hok x (hE.call b) (fun B W => by kernel_rfl) (fun S h1 h2 B W' b' _ ho => makeP_any B S ⟨p, 1, ⟨#[]⟩, t, 0⟩ W' (Pl.ze7 h1) h2 x (hE.call (b.trans (b'.mono b.size))) ho) (fun g W => by kernel_rfl) (fun S L1 qf qs lev N W h1 _ h3 h4 h5 h6 h7 _ => zv7.make_any qf qs N lev L1 ⟨p, 1, ⟨#[]⟩, t, 0⟩ W h1 (Pl.za9 h5).1 (by have := (Pl.zd3 h5).1; simp only at this ⊢; omega) h6 h7) (fun S L1 lev h1 h3 h4 h5 => h1.put (n := ⟨p, 1, ⟨#[]⟩, t, lev⟩) (Pl.za9 h5).1 (by have := (Pl.zd3 h5).1; simp only at this ⊢; omega)) (fun S h1 h2 h3 => Pl.way_make (Pl.ze7 h1) h3 h2))
 have HMK := hide (making_any p t)
 generalize hR0 : (Pl.zb5 (Is.map Pl.It.r) (⟨p, 1, ⟨#[]⟩, t, 0⟩ : Pl.Nd) (fun S => Pl.makC S ⟨p, 1, ⟨#[]⟩, t, 0⟩) (fun _ L1 lev => Pl.putL L1 ⟨p, 1, ⟨#[]⟩, t, lev⟩)) = R at HIN ⊢
 clear hv hok hE hR0
 go_enter Tryz.func42, Tryz.ntmps42
 go_wp2_with fail
 refine wp_region_held_drew (S := fun W' => Below w.heap.size w W' ∧ W'.cell? qp = some (.string p) ∧ W'.cell? qt = some (.int .i64 t) ∧ W'.cell? qN = some (.slice a Is.length cap)) (by kernel_rfl) ?_ (fun hHeld => ?_)
 ·exact za MK _ ⟨rfl, rfl, rfl, Nat.le_refl _, fun _ _ => rfl⟩
 refine tka (i := 0) rfl ?_
 try simp only [Act.put, kBs]
 refine tka (i := 1) rfl ?_
 try simp only [Act.put, kBs]
 refine tka (i := 3) rfl ?_
 try simp only [Act.put, kBs]
 generalize hwd : w.drew = wd at hHeld ⊢
 clear hwd
 refine wpAnyH_ready (rs := [2]) (by kernel_rfl) (by simp) ?_
 refine AllReadyH.cons rfl (fun K hK => ?_) AllReadyH.nil
 go_simp
 refine (za HMK _).mono ?_
 rintro e w1 ⟨rfl, b1⟩
 have bw1 := hHeld.1.trans (b1.mono hHeld.1.size)
 refine hK.out _ _ (za MK _ bw1) (fun hHeld1 => ?_)
 clear hK K hHeld b1
 try simp only [Act.put, kBs]
 refine wpAnyH_ready (rs := [4]) (by kernel_rfl) (by simp) ?_
 refine AllReadyH.cons rfl (fun K hK => ?_) AllReadyH.nil
 go_simp
 refine (za HIN _ bw1).mono ?_
 rintro e w2 ⟨h2, b2⟩
 have bw2 := bw1.trans (b2.mono bw1.size)
 rcases h2 with ⟨hc, v, Js, rfl, hio, hr⟩ | ⟨hc, hx, rfl⟩
 ·obtain ⟨a2, cap2, rfl⟩ := zp1 hio
  have HIO := hide (hio.mono bw1.size)
  have HR := hide hr
  refine hK.out _ _ (za MK _ bw2) (fun hHeld2 => ?_)
  clear hK K hHeld1 b2 HIN HMK hio hr
  try simp only [Act.put, kBs]
  refine tka (i := 5) rfl ?_
  try simp only [Act.put, kBs]
  refine wpAnyH_done (by kernel_rfl) ?_ _
  go_wp2
  go_ret
  exact ⟨.inl ⟨hc, _, Js, rfl, za HIO, za HR⟩, bw2⟩
 ·exact ⟨rfl, ⟨.inr ⟨hc, hx, rfl⟩, bw2⟩⟩
set_option linter.unusedSimpArgs false in
set_option maxRecDepth 100000 in
set_option maxHeartbeats 2000000 in
theorem make_implN (a : Option Addr) (cap : Nat) (Is : List Pl.It) (p : ByteArray) (t : Int) (w : World) (hl : Is.length ≤ 1048576) (hcap : Is.length ≤ cap) (hv : Mem.zb3 w a Is) (hok : ∀ x ∈ Is, x.t.L.length ≤ 1048576 ∧ ∀ n ∈ x.t.L, n.path.size ≤ 1048576 ∧ n.data.size ≤ 1048576) (x : Nat → Addr) (hE : WIs.Six w x) :
  Calls Tryz.prog 18 #[.slice a Is.length cap, .string p, .int .i64 t] w fun e w' => (∃ v Js, e = .returned (.agg #[v, .int .i64 (Pl.zb5 (Is.map Pl.It.r) (⟨p, 1, ⟨#[]⟩, t, 0⟩ : Pl.Nd) (fun S => Pl.makC S ⟨p, 1, ⟨#[]⟩, t, 0⟩) (fun _ L1 lev => Pl.putL L1 ⟨p, 1, ⟨#[]⟩, t, lev⟩)).1]) ∧ Mem.Io w' w.heap.size v Js ∧ Js.map Pl.It.r = (Pl.zb5 (Is.map Pl.It.r) (⟨p, 1, ⟨#[]⟩, t, 0⟩ : Pl.Nd) (fun S => Pl.makC S ⟨p, 1, ⟨#[]⟩, t, 0⟩) (fun _ L1 lev => Pl.putL L1 ⟨p, 1, ⟨#[]⟩, t, lev⟩)).2) ∧ Below w.heap.size w w' := by
 have hmf : ∀ (fn : Fn) (first cap : Array Value) (w : World), (Instr.makeFunc fn first cap).run Tryz.prog w = .ok (.func fn first cap) w := fun _ _ _ _ => rfl
 have b0 : Below w.heap.size w ((((w.alloc (.cells #[.slice a Is.length cap] 24)).alloc (.cells #[.string p] 9)).alloc (.cells #[.int .i64 t] 2)).alloc (.cells #[.slice none 0 0, .int .i64 0] 26)) := ((((Below.refl _ _).alloc (Nat.le_refl _) _).alloc (by simp) _).alloc (by simp; omega) _).alloc (by simp; omega) _
 have hs : ((((w.alloc (.cells #[.slice a Is.length cap] 24)).alloc (.cells #[.string p] 9)).alloc (.cells #[.int .i64 t] 2)).alloc (.cells #[.slice none 0 0, .int .i64 0] 26)).heap.size = w.heap.size + 1 + 1 + 1 + 1 := by simp
 have B0 : Mem.Blk ((((w.alloc (.cells #[.slice a Is.length cap] 24)).alloc (.cells #[.string p] 9)).alloc (.cells #[.int .i64 t] 2)).alloc (.cells #[.slice none 0 0, .int .i64 0] 26)) (w.heap.size) #[.slice a Is.length cap] 24 := by
  have h : Mem.Blk (w.alloc (.cells #[.slice a Is.length cap] 24)) (w).heap.size #[.slice a Is.length cap] 24 := Mem.Blk.new _ _ _
  rw [show (w).heap.size = w.heap.size by simp] at h
  exact (((h).alloc _).alloc _).alloc _
 have B1 : Mem.Blk ((((w.alloc (.cells #[.slice a Is.length cap] 24)).alloc (.cells #[.string p] 9)).alloc (.cells #[.int .i64 t] 2)).alloc (.cells #[.slice none 0 0, .int .i64 0] 26)) (w.heap.size + 1) #[.string p] 9 := by
  have h : Mem.Blk ((w.alloc (.cells #[.slice a Is.length cap] 24)).alloc (.cells #[.string p] 9)) ((w.alloc (.cells #[.slice a Is.length cap] 24))).heap.size #[.string p] 9 := Mem.Blk.new _ _ _
  rw [show ((w.alloc (.cells #[.slice a Is.length cap] 24))).heap.size = w.heap.size + 1 by simp] at h
  exact ((h).alloc _).alloc _
 have B2 : Mem.Blk ((((w.alloc (.cells #[.slice a Is.length cap] 24)).alloc (.cells #[.string p] 9)).alloc (.cells #[.int .i64 t] 2)).alloc (.cells #[.slice none 0 0, .int .i64 0] 26)) (w.heap.size + 1 + 1) #[.int .i64 t] 2 := by
  have h : Mem.Blk (((w.alloc (.cells #[.slice a Is.length cap] 24)).alloc (.cells #[.string p] 9)).alloc (.cells #[.int .i64 t] 2)) (((w.alloc (.cells #[.slice a Is.length cap] 24)).alloc (.cells #[.string p] 9))).heap.size #[.int .i64 t] 2 := Mem.Blk.new _ _ _
  rw [show (((w.alloc (.cells #[.slice a Is.length cap] 24)).alloc (.cells #[.string p] 9))).heap.size = w.heap.size + 1 + 1 by simp] at h
  exact (h).alloc _
 have B3 : Mem.Blk ((((w.alloc (.cells #[.slice a Is.length cap] 24)).alloc (.cells #[.string p] 9)).alloc (.cells #[.int .i64 t] 2)).alloc (.cells #[.slice none 0 0, .int .i64 0] 26)) (w.heap.size + 1 + 1 + 1) #[.slice none 0 0, .int .i64 0] 26 := by
  have h : Mem.Blk ((((w.alloc (.cells #[.slice a Is.length cap] 24)).alloc (.cells #[.string p] 9)).alloc (.cells #[.int .i64 t] 2)).alloc (.cells #[.slice none 0 0, .int .i64 0] 26)) ((((w.alloc (.cells #[.slice a Is.length cap] 24)).alloc (.cells #[.string p] 9)).alloc (.cells #[.int .i64 t] 2))).heap.size #[.slice none 0 0, .int .i64 0] 26 := Mem.Blk.new _ _ _
  rw [show ((((w.alloc (.cells #[.slice a Is.length cap] 24)).alloc (.cells #[.string p] 9)).alloc (.cells #[.int .i64 t] 2))).heap.size = w.heap.size + 1 + 1 + 1 by simp] at h
  exact h
 have HF := hide (fun W0 (hW0 : W0 = ((((w.alloc (.cells #[.slice a Is.length cap] 24)).alloc (.cells #[.string p] 9)).alloc (.cells #[.int .i64 t] 2)).alloc (.cells #[.slice none 0 0, .int .i64 0] 26))) => zx 42 #[.pointer (some ⟨w.heap.size + 1, 0, none⟩), .pointer (some ⟨w.heap.size + 1 + 1, 0, none⟩), .pointer (some ⟨w.heap.size, 0, none⟩)] (Pl.zb5 (Is.map Pl.It.r) (⟨p, 1, ⟨#[]⟩, t, 0⟩ : Pl.Nd) (fun S => Pl.makC S ⟨p, 1, ⟨#[]⟩, t, 0⟩) (fun _ L1 lev => Pl.putL L1 ⟨p, 1, ⟨#[]⟩, t, lev⟩)).1 (Pl.zb5 (Is.map Pl.It.r) (⟨p, 1, ⟨#[]⟩, t, 0⟩ : Pl.Nd) (fun S => Pl.makC S ⟨p, 1, ⟨#[]⟩, t, 0⟩) (fun _ L1 lev => Pl.putL L1 ⟨p, 1, ⟨#[]⟩, t, lev⟩)).2 W0 (fun W => by kernel_rfl) (fun W b => by
  subst hW0
  have bw := b0.trans (b.mono b0.size)
  rw [hs] at b
  have hsz := b.size
  have h := make_workN a cap Is p t ⟨w.heap.size + 1, 0, none⟩ ⟨w.heap.size + 1 + 1, 0, none⟩ ⟨w.heap.size, 0, none⟩ W (by have h := (B1.below b (by omega)).cell 0; simpa using h) (by show w.heap.size + 1 < _; omega) (by have h := (B2.below b (by omega)).cell 0; simpa using h) (by show w.heap.size + 1 + 1 < _; omega) (by have h := (B0.below b (by omega)).cell 0; simpa using h) (by show w.heap.size < _; omega) hl hcap (Mem.za6 hv bw) hok x (hE.call bw)
  exact h))
 have hf := hide (za HF _ rfl)
 clear HF hv hok hE
 generalize (Pl.zb5 (Is.map Pl.It.r) (⟨p, 1, ⟨#[]⟩, t, 0⟩ : Pl.Nd) (fun S => Pl.makC S ⟨p, 1, ⟨#[]⟩, t, 0⟩) (fun _ L1 lev => Pl.putL L1 ⟨p, 1, ⟨#[]⟩, t, lev⟩)) = R at hf ⊢
 go_enter Tryz.func18, Tryz.ntmps18
 go_wp2_with fail
 refine (za hf).mono ?_
 rintro e w1 ⟨⟨v, Js, rfl, hio, hr⟩, b1⟩
 obtain ⟨a2, cap2, rfl⟩ := zp1 hio
 rw [hs] at hio
 have bw1 := b0.trans (b1.mono b0.size)
 have R1 := B3.call b1
 have c0 := R1.cell 0
 have c1 := R1.cell 1
 have f0 := R1.fr 0
 have f1 := R1.fr 1
 simp only [kA0, kA1, kA2] at c0 c1
 have HIO := hide hio
 have HR := hide hr
 have HB := hide bw1
 clear hf b0 b1 hio hr bw1 B0 B1 B2 B3
 go_wp2
 refine bodyPost_ret (v := .agg #[.slice a2 Js.length cap2, .int .i64 R.1]) (by simp [results, Tryz.results18, go_sem, c0, c1]) rfl ⟨⟨.slice a2 Js.length cap2, Js, rfl, ?_, za HR⟩, ?_⟩
 ·exact (((za HIO).set _ _ (by show w.heap.size + 1 + 1 + 1 < _; omega)).set _ _ (by show w.heap.size + 1 + 1 + 1 < _; omega)).mono (by omega)
 ·exact ((za HB).setCell (by show w.heap.size ≤ w.heap.size + 1 + 1 + 1; omega) _).setCell (by show w.heap.size ≤ w.heap.size + 1 + 1 + 1; omega) _
end zl1
end Go.Proofs.YtppmlbofhghghaaGreatDoor


