import Derived.Test.YtonffldjbmednaaGreatDoorG33
import Derived.Test.YtonffldjbmednaaGreatDoorG34
import Derived.Test.YtonffldjbmednaaGreatDoorG43
import Derived.Test.YtonffldjbmednaaGreatDoorG45
namespace Go.Proofs.YtonffldjbmednaaGreatDoor
open Go.RowKit
namespace WSp
theorem own7 {w : World} {B Y e size n : Nat} {v : Value} {xs : List Value} (h : w.ownsRow B e size v n xs) (hY : Y < B) (v0 v1 v2 v3 v4 v5 v6 : Value) :
  World.ownsRow (((((((w.setCell ⟨Y, 0, none⟩ v0).setCell ⟨Y, 1, none⟩ v1).setCell ⟨Y, 2, none⟩ v2).setCell ⟨Y, 3, none⟩ v3).setCell ⟨Y, 4, none⟩ v4).setCell ⟨Y, 5, none⟩ v5).setCell ⟨Y, 6, none⟩ v6) B e size v n xs :=
 zd4 (zd4 (zd4 (zd4 (zd4 (zd4 (zd4 h 0 v0 hY) 1 v1 hY) 2 v2 hY) 3 v3 hY) 4 v4 hY) 5 v5 hY) 6 v6 hY
theorem iz7 {w : World} {B Y : Nat} {v : Value} {Ns : List Pl.Ns} {lo hi : Nat → Nat} (h : Mem.Iz w B v Ns lo hi) (hY : Y < B) (v0 v1 v2 v3 v4 v5 v6 : Value) :
  Mem.Iz (((((((w.setCell ⟨Y, 0, none⟩ v0).setCell ⟨Y, 1, none⟩ v1).setCell ⟨Y, 2, none⟩ v2).setCell ⟨Y, 3, none⟩ v3).setCell ⟨Y, 4, none⟩ v4).setCell ⟨Y, 5, none⟩ v5).setCell ⟨Y, 6, none⟩ v6) B v Ns lo hi :=
 ((((((h.far 0 v0 hY).far 1 v1 hY).far 2 v2 hY).far 3 v3 hY).far 4 v4 hY).far 5 v5 hY).far 6 v6 hY
theorem far7 {α : Type} {T : TypeId} {cs : α → List Value} {w : World} {B Y : Nat} {v : Value} {L : List α} (h : Mem.own3 T cs w B v L) (hY : Y < B) (v0 v1 v2 v3 v4 v5 v6 : Value) :
  Mem.own3 T cs (((((((w.setCell ⟨Y, 0, none⟩ v0).setCell ⟨Y, 1, none⟩ v1).setCell ⟨Y, 2, none⟩ v2).setCell ⟨Y, 3, none⟩ v3).setCell ⟨Y, 4, none⟩ v4).setCell ⟨Y, 5, none⟩ v5).setCell ⟨Y, 6, none⟩ v6) B v L :=
 zd4 (zd4 (zd4 (zd4 (zd4 (zd4 (zd4 h 0 v0 hY) 1 v1 hY) 2 v2 hY) 3 v3 hY) 4 v4 hY) 5 v5 hY) 6 v6 hY
set_option linter.unusedSimpArgs false in
set_option maxRecDepth 100000 in
set_option maxHeartbeats 4000000 in
theorem closeF_any (s : Pl.Sp) (d : Int) (w : World) (hok : zb.OkS s 1048576) (hv : Mem.zc3 w s) (hma : ∃ g, s.ma = some ⟨g, 0, none⟩) (hha : ∃ g, s.ha = some ⟨g, 0, none⟩) (hrow : ∀ x ∈ s.N, (∃ g, x.a = some ⟨g, 0, none⟩) ∧ ∀ t ∈ x.Is, Mem.okR t.t.a t.t.cap t.t.L)
  (A : Pl.Ao) (hA : Pl.zg8 s d (Pl.ze9 s.next (s.N.map WSp.nr) s.M s.H Pl.wayB) = A) :
  Calls Tryz.prog 20 #[.agg s.cs, .int .i64 d] w fun e w' => (∃ u, e = .returned (.agg (WSpO.so u A.d A.p A.c)) ∧ Mem.zc3 w' u ∧ Pl.Fits u A) ∧ Below w.heap.size w w' := by
 obtain ⟨l0, hl0, hlz0, hlz1, hlz2⟩ := info_parts WCp8.infoHn
 have HX := hide (fun W (b : Below w.heap.size w W) => zg7 s W hok (hv.call b))
 have HHD := hide (fun W (b : Below w.heap.size w W) => hand_any s d W hok.h (hv.call b).hands)
 have HIL := hide ill_any
 have HSM := hide (fun (h : Pl.ze9 s.next (s.N.map WSp.nr) s.M s.H Pl.wayB = true) => Pl.zs8 h)
 have HRS := hide (fun (h : Pl.ze9 s.next (s.N.map WSp.nr) s.M s.H Pl.wayB = true) => Pl.hands_rise h)
 rw [← Pl.handI_inst] at HHD
 generalize HQ : Pl.ze9 s.next (s.N.map WSp.nr) s.M s.H Pl.wayB = RB at HX HSM hA HRS
 have HAT : Hid (RB = true → ¬ Pl.zd3 s.H d < 0 → A = ⟨Pl.keepN (s.N.map Pl.Ns.r) s.M (Pl.delH s.H d), s.M, Pl.delH s.H d, s.next, 0, ⟨#[]⟩, 0⟩) := hide (fun h1 h2 => by rw [← hA]; unfold Pl.zg8; rw [h1, if_neg (by decide), if_neg h2])
 have HA6 : Hid (RB = true → Pl.zd3 s.H d < 0 → A = Pl.Ao.ill 6) := hide (fun h1 h2 => by rw [← hA]; unfold Pl.zg8; rw [h1, if_neg (by decide), if_pos h2])
 have HA1 : Hid (RB = false → A = Pl.Ao.ill 1) := hide (fun h1 => by rw [← hA]; unfold Pl.zg8; rw [h1, if_pos rfl])
 have HCP := hide (fun (h : RB = true) W (b : Below w.heap.size w W) => by
  obtain ⟨k1, k2, k3, k4, k5, k6, -⟩ := za HSM h
  exact WCp8.zr0 s W (hv.call b) (by obtain ⟨g, h⟩ := hma; exact ⟨g, 0, h⟩) (by obtain ⟨g, h⟩ := hha; exact ⟨g, 0, h⟩) k2 k3 k1 (fun x hx => ⟨(k4 x hx).1, (k4 x hx).2.1, fun t ht => by have := (k4 x hx).2.2 t ht; omega, (hrow x hx).1, (hrow x hx).2⟩))
 have HLN := hide (fun (h : RB = true) => (by
  obtain ⟨k1, k2, k3, -⟩ := za HSM h
  exact ⟨k1, k2, k3⟩ : s.N.length ≤ 12 ∧ s.M.length ≤ 6 ∧ s.H.length ≤ 6))
 have HDP := hide (fun (h : RB = true) (k : Nat) (e : Pl.zd3 s.H d = (k : Int)) => (Pl.delH_place (za HRS h) k e))
 have HHA := hide (fun k (e : Pl.zd3 s.H d = ((k : Nat) : Int)) => Pl.handI_at e)
 clear hok hv hA HSM HQ hma hha hrow HRS
 obtain ⟨ia, ic, N, ma, mc, M, ha, hc, H, next⟩ := s
 simp only at HX HCP HAT HA6 HHD HLN HDP HHA ⊢
 unfold Pl.Sp.cs at HX HCP HHD ⊢
 simp only at HX HCP HHD ⊢
 have b0 : Below w.heap.size w ((w.alloc (.cells #[Value.slice ia N.length ic, Value.slice ma M.length mc, Value.slice ha H.length hc, Value.int .i64 next] 32)).alloc (.cells #[Value.slice none 0 0, Value.slice none 0 0, Value.slice none 0 0, Value.int .i64 0, Value.int .i64 0, Value.string ⟨#[]⟩, Value.int .i64 0] 34)) := ((Below.refl _ _).alloc (Nat.le_refl _) _).alloc (by simp) _
 have V0 := hide ((Mem.Blk.new w #[Value.slice ia N.length ic, Value.slice ma M.length mc, Value.slice ha H.length hc, Value.int .i64 next] 32).alloc (.cells #[Value.slice none 0 0, Value.slice none 0 0, Value.slice none 0 0, Value.int .i64 0, Value.int .i64 0, Value.string ⟨#[]⟩, Value.int .i64 0] 34))
 have U0 := hide (Mem.Blk.new (w.alloc (.cells #[Value.slice ia N.length ic, Value.slice ma M.length mc, Value.slice ha H.length hc, Value.int .i64 next] 32)) #[Value.slice none 0 0, Value.slice none 0 0, Value.slice none 0 0, Value.int .i64 0, Value.int .i64 0, Value.string ⟨#[]⟩, Value.int .i64 0] 34)
 rw [show (w.alloc (.cells #[Value.slice ia N.length ic, Value.slice ma M.length mc, Value.slice ha H.length hc, Value.int .i64 next] 32)).heap.size = w.heap.size + 1 by simp] at U0
 have a0 := (za V0).cell 0
 have a1 := (za V0).cell 1
 have a2 := (za V0).cell 2
 have a3 := (za V0).cell 3
 simp only [kGs] at a0 a1 a2 a3
 go_enter Tryz.func20, Tryz.ntmps20
 go_wp2_with fail
 generalize (w.alloc (.cells #[Value.slice ia N.length ic, Value.slice ma M.length mc, Value.slice ha H.length hc, Value.int .i64 next] 32)).alloc (.cells #[Value.slice none 0 0, Value.slice none 0 0, Value.slice none 0 0, Value.int .i64 0, Value.int .i64 0, Value.string ⟨#[]⟩, Value.int .i64 0] 34) = wA at b0 V0 U0 a0 a1 a2 a3 ⊢
 refine (za HX _ b0).mono ?_
 rintro e w1 ⟨rfl, bX⟩
 have b1 := b0.trans (bX.mono b0.size)
 have U1 := hide ((za U0).call bX)
 have V1 := hide ((za V0).call bX)
 clear HX bX V0 a0 a1 a2 a3 b0 U0
 cases RB
 ·have HA := hide (za HA1 rfl)
  clear HA1 HA6 HAT HCP HHD HLN HDP HHA V1
  go_wp2_with fail
  refine (za HIL 1 _).mono ?_
  rintro e wR ⟨rfl, bX⟩
  have bR := b1.trans (bX.mono b1.size)
  have UR := hide ((za U1).call bX)
  clear bX
  have d0 := (za UR).cell 0
  have fd0 := (za UR).fr 0
  have d1 := (za UR).cell 1
  have fd1 := (za UR).fr 1
  have d2 := (za UR).cell 2
  have fd2 := (za UR).fr 2
  have d3 := (za UR).cell 3
  have fd3 := (za UR).fr 3
  have d4 := (za UR).cell 4
  have fd4 := (za UR).fr 4
  have d5 := (za UR).cell 5
  have fd5 := (za UR).fr 5
  have d6 := (za UR).cell 6
  have fd6 := (za UR).fr 6
  simp only [kGs] at d0 d1 d2 d3 d4 d5 d6
  go_wp2
  refine bodyPost_ret (v := .agg #[Value.slice none 0 0, Value.slice none 0 0, Value.slice none 0 0, Value.int .i64 0, Value.int .i64 0, Value.string ⟨#[]⟩, Value.int .i64 1]) (by simp [results, Tryz.results20, go_sem, d0, d1, d2, d3, d4, d5, d6]) rfl ⟨⟨⟨none, 0, [], none, 0, [], none, 0, [], 0⟩, by rw [za HA]; rfl, ⟨Mem.zr8 _ _, Mem.zv5 _ _, Mem.zx9 _ _⟩, by rw [za HA]; exact Pl.Fits.nil _⟩, ?_⟩
  exact (((((((bR.setCell (p := ⟨w.heap.size + 1, 0, none⟩) (by show w.heap.size ≤ w.heap.size + 1; omega) (Value.slice none 0 0)).setCell (p := ⟨w.heap.size + 1, 1, none⟩) (by show w.heap.size ≤ w.heap.size + 1; omega) (Value.slice none 0 0)).setCell (p := ⟨w.heap.size + 1, 2, none⟩) (by show w.heap.size ≤ w.heap.size + 1; omega) (Value.slice none 0 0)).setCell (p := ⟨w.heap.size + 1, 3, none⟩) (by show w.heap.size ≤ w.heap.size + 1; omega) (Value.int .i64 0)).setCell (p := ⟨w.heap.size + 1, 4, none⟩) (by show w.heap.size ≤ w.heap.size + 1; omega) (Value.int .i64 0)).setCell (p := ⟨w.heap.size + 1, 5, none⟩) (by show w.heap.size ≤ w.heap.size + 1; omega) (Value.string ⟨#[]⟩)).setCell (p := ⟨w.heap.size + 1, 6, none⟩) (by show w.heap.size ≤ w.heap.size + 1; omega) (Value.int .i64 1))
 replace HAT := hide (za HAT (by first | exact rfl | exact trivial))
 replace HA6 := hide (za HA6 (by first | exact rfl | exact trivial))
 replace HCP := hide (za HCP (by first | exact rfl | exact trivial))
 replace HLN := hide (za HLN (by first | exact rfl | exact trivial))
 replace HDP := hide (za HDP (by first | exact rfl | exact trivial))
 clear HA1
 have a0 := (za V1).cell 0
 have a1 := (za V1).cell 1
 have a2 := (za V1).cell 2
 have a3 := (za V1).cell 3
 simp only [kGs] at a0 a1 a2 a3
 go_wp2_with fail
 refine (za HHD _ b1).mono ?_
 rintro e w2 ⟨rfl, bX⟩
 have b2 := b1.trans (bX.mono b1.size)
 have U2 := hide ((za U1).call bX)
 have V2 := hide ((za V1).call bX)
 clear HHD bX V1 a0 a1 a2 a3 b1 U1
 have HGE := Pl.handI_ge H d
 generalize Pl.zd3 H d = R at HAT HA6 HDP HHA HGE ⊢
 by_cases hneg : R < 0
 ·have HA := hide (za HA6 hneg)
  clear HA6 HAT HCP HLN HDP HHA V2
  go_wp2_with fail
  refine (za HIL 6 _).mono ?_
  rintro e wR ⟨rfl, bX⟩
  have bR := b2.trans (bX.mono b2.size)
  have UR := hide ((za U2).call bX)
  clear bX
  have d0 := (za UR).cell 0
  have fd0 := (za UR).fr 0
  have d1 := (za UR).cell 1
  have fd1 := (za UR).fr 1
  have d2 := (za UR).cell 2
  have fd2 := (za UR).fr 2
  have d3 := (za UR).cell 3
  have fd3 := (za UR).fr 3
  have d4 := (za UR).cell 4
  have fd4 := (za UR).fr 4
  have d5 := (za UR).cell 5
  have fd5 := (za UR).fr 5
  have d6 := (za UR).cell 6
  have fd6 := (za UR).fr 6
  simp only [kGs] at d0 d1 d2 d3 d4 d5 d6
  go_wp2
  refine bodyPost_ret (v := .agg #[Value.slice none 0 0, Value.slice none 0 0, Value.slice none 0 0, Value.int .i64 0, Value.int .i64 0, Value.string ⟨#[]⟩, Value.int .i64 6]) (by simp [results, Tryz.results20, go_sem, d0, d1, d2, d3, d4, d5, d6]) rfl ⟨⟨⟨none, 0, [], none, 0, [], none, 0, [], 0⟩, by rw [za HA]; rfl, ⟨Mem.zr8 _ _, Mem.zv5 _ _, Mem.zx9 _ _⟩, by rw [za HA]; exact Pl.Fits.nil _⟩, ?_⟩
  exact (((((((bR.setCell (p := ⟨w.heap.size + 1, 0, none⟩) (by show w.heap.size ≤ w.heap.size + 1; omega) (Value.slice none 0 0)).setCell (p := ⟨w.heap.size + 1, 1, none⟩) (by show w.heap.size ≤ w.heap.size + 1; omega) (Value.slice none 0 0)).setCell (p := ⟨w.heap.size + 1, 2, none⟩) (by show w.heap.size ≤ w.heap.size + 1; omega) (Value.slice none 0 0)).setCell (p := ⟨w.heap.size + 1, 3, none⟩) (by show w.heap.size ≤ w.heap.size + 1; omega) (Value.int .i64 0)).setCell (p := ⟨w.heap.size + 1, 4, none⟩) (by show w.heap.size ≤ w.heap.size + 1; omega) (Value.int .i64 0)).setCell (p := ⟨w.heap.size + 1, 5, none⟩) (by show w.heap.size ≤ w.heap.size + 1; omega) (Value.string ⟨#[]⟩)).setCell (p := ⟨w.heap.size + 1, 6, none⟩) (by show w.heap.size ≤ w.heap.size + 1; omega) (Value.int .i64 6))
 obtain ⟨k, rfl⟩ : ∃ k : Nat, R = (k : Int) := ⟨R.toNat, by omega⟩
 have HA := hide (za HAT (by first | exact hneg | omega))
 obtain ⟨t, ht⟩ := za HHA k rfl
 have hkl := (List.getElem?_eq_some_iff.1 ht).1
 have HD := hide (za HDP k rfl)
 obtain ⟨k1, k2, k3⟩ := za HLN
 clear HA6 HAT HLN HDP HHA HIL HGE ht
 have a0 := (za V2).cell 0
 have a1 := (za V2).cell 1
 have a2 := (za V2).cell 2
 have a3 := (za V2).cell 3
 simp only [kGs] at a0 a1 a2 a3
 go_wp2_with fail
 refine (za HCP _ b2).mono ?_
 rintro e w3 ⟨⟨u, rfl, S1, lo, hi, HTD⟩, bX⟩
 have b3 := b2.trans (bX.mono b2.size)
 have U3 := hide ((za U2).call bX)
 have HSP := hide HTD.space
 have hUN := HTD.n
 have hUM := HTD.m
 have hUH := HTD.h
 have hUX := HTD.x
 have hoh := hide HTD.oh
 have HOM := hide HTD.om
 have HIZ := hide HTD.iz
 have hS1 := HTD.s1
 have hw2 := (za U2).lt
 clear bX HCP a0 a1 a2 a3 V2 U2 b2 HTD
 obtain ⟨ui, uc, uN, um, umc, uM, uh, uhc, uH, ux⟩ := u
 simp only at hUN hUM hUH hUX HSP hoh HOM HIZ
 (try unfold Pl.Sp.cs)
 (try simp only)
 subst hUM hUH hUX
 obtain ⟨a9, c9, e9, hrow9, hcap9, hsh9⟩ := Mem.zf7 Pl.Hn.three (za hoh)
 cases e9
 rcases hsh9 with ⟨rfl, rfl, rfl⟩ | ⟨g, rfl, hBg, hgw⟩
 ·simp at hkl
 have bA : Below w3.heap.size w3 (w3.alloc (.cells #[Value.slice ui uN.length uc, Value.slice um uM.length umc, Value.slice (some ⟨g, 0, none⟩) uH.length uhc, Value.int .i64 ux] 32)) := (Below.refl _ _).alloc (Nat.le_refl _) _
 have U4 := hide ((za U3).call bA)
 have X4 := hide (Mem.Blk.new w3 #[Value.slice ui uN.length uc, Value.slice um uM.length umc, Value.slice (some ⟨g, 0, none⟩) uH.length uhc, Value.int .i64 ux] 32)
 have hs4 : (w3.alloc (.cells #[Value.slice ui uN.length uc, Value.slice um uM.length umc, Value.slice (some ⟨g, 0, none⟩) uH.length uhc, Value.int .i64 ux] 32)).heap.size = w3.heap.size + 1 := by simp
 have bB := bA.alloc (o := .cells #[] 87) (by omega)
 have OA : Hid (Mem.own3 87 Pl.Hn.cs ((w3.alloc (.cells #[Value.slice ui uN.length uc, Value.slice um uM.length umc, Value.slice (some ⟨g, 0, none⟩) uH.length uhc, Value.int .i64 ux] 32)).alloc (.cells #[] 87)) (w3.heap.size + 1) (.slice (some ⟨w3.heap.size + 1, 0, none⟩) 0 0) []) :=
  ⟨rfl, .inr ⟨w3.heap.size + 1, 0, #[], rfl, Nat.le_refl _, (by have h := heap_alloc_new (w3.alloc (.cells #[Value.slice ui uN.length uc, Value.slice um uM.length umc, Value.slice (some ⟨g, 0, none⟩) uH.length uhc, Value.int .i64 ux] 32)) (.cells #[] 87); rw [hs4] at h; exact h), Nat.le_refl _, Nat.zero_le _, rfl, rfl⟩⟩
 have U5 := hide ((za U3).call bB)
 have X5 := hide ((za X4).alloc (.cells #[] 87))
 have hs5 : ((w3.alloc (.cells #[Value.slice ui uN.length uc, Value.slice um uM.length umc, Value.slice (some ⟨g, 0, none⟩) uH.length uhc, Value.int .i64 ux] 32)).alloc (.cells #[] 87)).heap.size = w3.heap.size + 2 := by simp
 have hoh5 := Mem.zc0 (za hoh) bB
 have hs1 : ∀ wx, (Instr.slice 30 (.slice (some ⟨g, 0, none⟩) uH.length uhc) none (some (.int .i64 (k : Int))) none).run Tryz.prog wx = .ok (.slice (some ⟨g, 0, none⟩) k uhc) wx := fun wx => Mem.slice_hi (s := 3) Tryz.underlying30 (fun w => by kernel_rfl) wx ⟨g, 0, none⟩ uH.length uhc k (by omega) (by omega)
 have NV := hide (Mem.take_cells Pl.Hn.three hoh5 k)
 have hlk : (Pl.cells3 Pl.Hn.cs (uH.take k)).length = k * 3 := by rw [Pl.za6 Pl.Hn.three, List.length_take, Nat.min_eq_left (by omega)]
 have HS1 := hide hs1
 have x0 := (za X5).cell 0
 have x1 := (za X5).cell 1
 have x2 := (za X5).cell 2
 have x3 := (za X5).cell 3
 simp only [kGs] at x0 x1 x2 x3
 go_wp2_with (at_builtin; refine wpList_append_own _ rfl _ _ 30 rfl (w3.heap.size + 1) 87 l0 _ 3 32 Tryz.underlying30 hl0 hlz0 hlz1 hlz2 rfl (by decide) _ _ _ rfl (za OA) ⟨g, 0, none⟩ k uhc (Pl.cells3 Pl.Hn.cs (uH.take k)) rfl hlk (za NV) (Mem.zb6 Mem.zf3 _) (by rw [List.length_nil, Nat.zero_add]; unfold maxLen; omega) (by rw [List.length_nil, Nat.zero_add]; omega) (by simp) ?_)
 intro v1 w6 ownA growA _
 obtain ⟨l1, c1, rfl⟩ := Mem.za4 ownA
 have HOA := hide (show Mem.own3 87 Pl.Hn.cs w6 (w3.heap.size + 1) (.slice l1 k c1) (uH.take k) by
  unfold Mem.own3
  rw [List.length_take, Nat.min_eq_left (by omega)]
  exact ownA)
 have b6 := bB.grown growA (by omega) (fun q hq => by have h : w3.heap.size + 1 = q := Option.some.inj hq; omega)
 have X6 := hide ((za X5).grown growA (fun e => by have h : w3.heap.size = w3.heap.size + 1 := Option.some.inj e; omega))
 have hs6 : w3.heap.size + 2 ≤ w6.heap.size := by have := growA.size; omega
 clear ownA growA OA NV HS1 X5 X4 U4 U5 hoh5 x0 x1 x2 x3 bA hs4 hs5 hs1 bB
 obtain ⟨p, cp, hs2, hp⟩ := Mem.slice_lo_any (P := Tryz.prog) (dT := 30) (E := 87) (s := 3) Tryz.underlying30 (fun w => by kernel_rfl) g uH.length uhc (k + 1) (by omega) (by omega)
 have NV := hide (Mem.drop_cells Pl.Hn.three (Mem.zc0 (za hoh) b6) (k + 1) hp)
 have hlk2 : (Pl.cells3 Pl.Hn.cs (uH.drop (k + 1))).length = (uH.length - (k + 1)) * 3 := by rw [Pl.za6 Pl.Hn.three, List.length_drop]
 have hkk : ((k : Int) + 1) = ((k + 1 : Nat) : Int) := by omega
 have HKK := hide hkk
 rw [← hkk] at hs2
 clear hkk hp
 have fx2 := (za X6).fr 2
 have x0 := (za X6).cell 0
 have x1 := (za X6).cell 1
 have x2 := (za X6).cell 2
 have x3 := (za X6).cell 3
 simp only [kGs] at x0 x1 x2 x3
 go_wp2_with (at_builtin; refine wpList_append_own _ rfl _ _ 30 rfl (w3.heap.size + 1) 87 l0 _ 3 32 Tryz.underlying30 hl0 hlz0 hlz1 hlz2 rfl (by decide) _ _ _ rfl (show World.ownsRow w6 (w3.heap.size + 1) 87 3 (.slice l1 k c1) k (Pl.cells3 Pl.Hn.cs (uH.take k)) by have h := za HOA; unfold Mem.own3 at h; rw [List.length_take, Nat.min_eq_left (by omega)] at h; exact h) p (uH.length - (k + 1)) cp (Pl.cells3 Pl.Hn.cs (uH.drop (k + 1))) rfl hlk2 (za NV) (Mem.zb6 Mem.zf3 _) (by unfold maxLen; omega) (by omega) (by omega) ?_)
 intro v2 w7 ownB growB _
 obtain ⟨l2, c2, rfl⟩ := Mem.za4 ownB
 have HOB := hide (show Mem.own3 87 Pl.Hn.cs w7 (w3.heap.size + 1) (.slice l2 (k + (uH.length - (k + 1))) c2) (Pl.delH uH d) by
  unfold Mem.own3
  rw [← za HD, List.length_append, List.length_take, Nat.min_eq_left (by omega), List.length_drop, Pl.zu9]
  exact ownB)
 have hlo := fun q hq => (Mem.za5 (za HOA) q hq).1
 have b7 := b6.grown growB (by omega) (fun q hq => by have := hlo q hq; omega)
 have X7 := hide ((za X6).grown growB (fun e => by have := hlo _ e.symm; omega))
 have hs7 : w3.heap.size + 2 ≤ w7.heap.size := by have := growB.size; omega
 have HLD : Hid ((Pl.delH uH d).length = k + (uH.length - (k + 1))) := hide (by rw [← za HD, List.length_append, List.length_take, Nat.min_eq_left (by omega), List.length_drop])
 clear ownB growB HOA X6 hs6 b6 NV hs2 hlo x0 x1 x2 x3 fx2
 have x2 := (za X7).cell 2
 have fx2 := (za X7).fr 2
 simp only [kGs] at x2
 rw [← za HLD] at HOB ⊢
 go_upto_region 9 with fail
 have b8 := b7.setCell (p := ⟨w3.heap.size, 2, none⟩) (by show w3.heap.size ≤ w3.heap.size; omega) (.slice l2 (Pl.delH uH d).length c2)
 have X8 := hide ((za X7).put 2 (.slice l2 (Pl.delH uH d).length c2))
 have HO8 := hide (Mem.za9 (za HOB) ⟨w3.heap.size, 2, none⟩ (.slice l2 (Pl.delH uH d).length c2) (fun g hg => by have := (Mem.za5 (za HOB) g hg).1; show w3.heap.size ≠ g; omega))
 clear X7 HOB x2 fx2 b7 hs7
 generalize w7.setCell ⟨w3.heap.size, 2, none⟩ (.slice l2 (Pl.delH uH d).length c2) = w8 at b8 X8 HO8 ⊢
 have hsp := (za HSP).call b8
 have hlen := congrArg List.length hUN
 simp only [List.length_map] at hlen
 have HCL := hide (clean_any ⟨ui, uc, uN, um, umc, uM, l2, c2, Pl.delH uH d, ux⟩ w8 (by show uN.length ≤ 12; omega) (by show uM.length ≤ 1048576; omega) (by show (Pl.delH uH d).length ≤ 1048576; have := za HLD; omega) ⟨hsp.zf9, hsp.zh, (by
  obtain ⟨a9, c9, e9, hr9, _⟩ := Mem.zf7 Pl.Hn.three (za HO8)
  cases e9
  exact Mem.zf5 hr9)⟩)
 unfold Pl.Sp.cs Cleaned at HCL
 simp only at HCL
 have HSP8 := hide hsp
 have U8 := hide ((za U3).call b8)
 have bw8 := b3.trans (b8.mono b3.size)
 have HUN := hide hUN
 have HB8 := hide b8
 clear hsp HSP U3 b3 b8 hoh hrow9 hlen hUN
 have x0 := (za X8).cell 0
 have x1 := (za X8).cell 1
 have x2 := (za X8).cell 2
 have x3 := (za X8).cell 3
 simp only [kB3, kB4, kB5, kGs] at x0 x1 x2 x3
 go_wp2_with fail
 refine (za HCL).mono ?_
 rintro e w9 ⟨⟨xa, xc, rfl, hin⟩, bX⟩
 have bF := hide (bw8.trans (bX.mono bw8.size))
 have UF := hide ((za U8).call bX)
 have hw8 := bw8.size
 have HIN := hide hin
 have b9 := (za HB8).trans (bX.mono (za HB8).size)
 have HM9 := hide (Mem.zc0 (za HOM) b9)
 have HZ9 := hide ((za HIZ).call b9)
 clear b9 HOM HIZ HB8
 have HHN := hide (Mem.zc0 (za HO8) bX)
 clear hin bX HCL bw8 U8 X8 x0 x1 x2 x3 HSP8 HO8
 have d0 := (za UF).cell 0
 have fd0 := (za UF).fr 0
 have d1 := (za UF).cell 1
 have fd1 := (za UF).fr 1
 have d2 := (za UF).cell 2
 have fd2 := (za UF).fr 2
 have d3 := (za UF).cell 3
 have fd3 := (za UF).fr 3
 have d4 := (za UF).cell 4
 have fd4 := (za UF).fr 4
 have d5 := (za UF).cell 5
 have fd5 := (za UF).fr 5
 have d6 := (za UF).cell 6
 have fd6 := (za UF).fr 6
 simp only [kGs] at d0 d1 d2 d3 d4 d5 d6
 have hfit : (uN.filter (fun x => !decide (Pl.held uM (Pl.delH uH d) x.d = 0))).map Pl.Ns.r = Pl.keepN (N.map Pl.Ns.r) uM (Pl.delH uH d) := by
  have h1 := za HUN
  unfold Pl.keepN
  rw [← h1, List.filter_map]
  rfl
 have HFIT := hide hfit
 clear hfit
 go_wp2
 have hfit := za HFIT
 refine bodyPost_ret (v := .agg #[Value.slice xa (uN.filter (fun x => !decide (Pl.held uM (Pl.delH uH d) x.d = 0))).length xc, Value.slice um uM.length umc, Value.slice l2 (Pl.delH uH d).length c2, Value.int .i64 ux, Value.int .i64 0, Value.string ⟨#[]⟩, Value.int .i64 0]) (by simp [results, Tryz.results20, go_sem, d0, d1, d2, d3, d4, d5, d6]) rfl ⟨⟨⟨xa, xc, uN.filter (fun x => !decide (Pl.held uM (Pl.delH uH d) x.d = 0)), um, umc, uM, l2, c2, Pl.delH uH d, ux⟩, by rw [za HA]; rfl, ⟨?_, ?_, ?_⟩, by rw [za HA]; exact ⟨hfit, rfl, rfl, rfl⟩⟩, ?_⟩
 ·have h1 := iz7 (Y := w.heap.size + 1) (za HZ9) (by omega) (Value.slice xa (uN.filter (fun x => !decide (Pl.held uM (Pl.delH uH d) x.d = 0))).length xc) (Value.slice um uM.length umc) (Value.slice l2 (Pl.delH uH d).length c2) (Value.int .i64 ux) (Value.int .i64 0) (Value.string ⟨#[]⟩) (Value.int .i64 0)
  have h2 := own7 (Y := w.heap.size + 1) (za HIN) (by omega) (Value.slice xa (uN.filter (fun x => !decide (Pl.held uM (Pl.delH uH d) x.d = 0))).length xc) (Value.slice um uM.length umc) (Value.slice l2 (Pl.delH uH d).length c2) (Value.int .i64 ux) (Value.int .i64 0) (Value.string ⟨#[]⟩) (Value.int .i64 0)
  have hmem : ∀ x ∈ uN.filter (fun x => !decide (Pl.held uM (Pl.delH uH d) x.d = 0)), x ∈ uN := fun x hx => (List.mem_filter.1 hx).1
  show Mem.ze4 _ xa (uN.filter (fun x => !decide (Pl.held uM (Pl.delH uH d) x.d = 0)))
  generalize uN.filter (fun x => !decide (Pl.held uM (Pl.delH uH d) x.d = 0)) = NF at h1 h2 hmem ⊢
  generalize (((((((w9.setCell ⟨w.heap.size + 1, 0, none⟩ (Value.slice xa NF.length xc)).setCell ⟨w.heap.size + 1, 1, none⟩ (Value.slice um uM.length umc)).setCell ⟨w.heap.size + 1, 2, none⟩ (Value.slice l2 (Pl.delH uH d).length c2)).setCell ⟨w.heap.size + 1, 3, none⟩ (Value.int .i64 ux)).setCell ⟨w.heap.size + 1, 4, none⟩ (Value.int .i64 0)).setCell ⟨w.heap.size + 1, 5, none⟩ (Value.string ⟨#[]⟩)).setCell ⟨w.heap.size + 1, 6, none⟩ (Value.int .i64 0)) = wF at h1 h2 ⊢
  exact (Mem.insts_own h2 (fun x hx => by
   obtain ⟨i, hi⟩ := List.getElem?_of_mem (hmem x hx)
   exact (h1.zf9.2 i x hi).2)).2
 ·have H0 := za HM9
  have h1 := far7 (Y := w.heap.size + 1) H0 (by omega) (Value.slice xa (uN.filter (fun x => !decide (Pl.held uM (Pl.delH uH d) x.d = 0))).length xc) (Value.slice um uM.length umc) (Value.slice l2 (Pl.delH uH d).length c2) (Value.int .i64 ux) (Value.int .i64 0) (Value.string ⟨#[]⟩) (Value.int .i64 0)
  obtain ⟨a9, c9, e9, hr9, _⟩ := Mem.zf7 Pl.Mn.three h1
  cases e9
  exact Mem.zj3 hr9
 ·have H0 := za HHN
  have h1 := far7 (Y := w.heap.size + 1) H0 (by omega) (Value.slice xa (uN.filter (fun x => !decide (Pl.held uM (Pl.delH uH d) x.d = 0))).length xc) (Value.slice um uM.length umc) (Value.slice l2 (Pl.delH uH d).length c2) (Value.int .i64 ux) (Value.int .i64 0) (Value.string ⟨#[]⟩) (Value.int .i64 0)
  obtain ⟨a9, c9, e9, hr9, _⟩ := Mem.zf7 Pl.Hn.three h1
  cases e9
  exact Mem.zf5 hr9
 ·exact ((((((((za bF).setCell (p := ⟨w.heap.size + 1, 0, none⟩) (by show w.heap.size ≤ w.heap.size + 1; omega) (Value.slice xa (uN.filter (fun x => !decide (Pl.held uM (Pl.delH uH d) x.d = 0))).length xc)).setCell (p := ⟨w.heap.size + 1, 1, none⟩) (by show w.heap.size ≤ w.heap.size + 1; omega) (Value.slice um uM.length umc)).setCell (p := ⟨w.heap.size + 1, 2, none⟩) (by show w.heap.size ≤ w.heap.size + 1; omega) (Value.slice l2 (Pl.delH uH d).length c2)).setCell (p := ⟨w.heap.size + 1, 3, none⟩) (by show w.heap.size ≤ w.heap.size + 1; omega) (Value.int .i64 ux)).setCell (p := ⟨w.heap.size + 1, 4, none⟩) (by show w.heap.size ≤ w.heap.size + 1; omega) (Value.int .i64 0)).setCell (p := ⟨w.heap.size + 1, 5, none⟩) (by show w.heap.size ≤ w.heap.size + 1; omega) (Value.string ⟨#[]⟩)).setCell (p := ⟨w.heap.size + 1, 6, none⟩) (by show w.heap.size ≤ w.heap.size + 1; omega) (Value.int .i64 0))
end WSp
end Go.Proofs.YtonffldjbmednaaGreatDoor
