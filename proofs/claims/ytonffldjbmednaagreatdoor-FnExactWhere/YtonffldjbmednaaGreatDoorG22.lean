/- Several texts of one claim in one file: WSpI12, LayKeys, WKeys. -/
import Derived.Test.YtonffldjbmednaaGreatDoorWSpI8
import Derived.Test.YtonffldjbmednaaGreatDoorG21
import Derived.Shelf.SlIterI.Nil
import Derived.Shelf.SortM.Plain
import Derived.Shelf.SortM.SortNone
import Derived.Test.YtonffldjbmednaaGreatDoorProg
import Derived.Test.YtonffldjbmednaaGreatDoorG00
import Derived.Test.YtonffldjbmednaaGreatDoorG08
namespace Go.Proofs.YtonffldjbmednaaGreatDoor
open Go.RowKit Go.Maps
namespace WSpI
abbrev zS : Value := .agg #[.map none, .slice none 0 0, .slice none 0 0, .int .i64 0]
abbrev zT : Value := .agg #[.string ⟨#[]⟩, .int .i64 0, .bool false, .string ⟨#[]⟩]
def Spotted (w w' : World) (s : Pl.Sp) (p : ByteArray) (R : Bool) (m : Pl.Mn) (e : Ending) : Prop :=
 (Pl.whyI p R = 0 ∧ ∃ q E sa sc ta tc, e = .returned (.tuple #[.agg #[.map (some q), .slice sa s.M.length sc, .slice ta s.H.length tc, .int .i64 s.next], .agg (spot m (Pl.rest p m.p)), .int .i64 0]) ∧ SpO.SpV w.heap.size w' s q E sa sc ta tc) ∨
 (Pl.whyI p R ≠ 0 ∧ e = .returned (.tuple #[zS, zT, .int .i64 (Pl.whyI p R)]))
set_option linter.unusedSimpArgs false in
set_option maxRecDepth 100000 in
set_option maxHeartbeats 4000000 in
theorem at_any (s : Pl.Sp) (p : ByteArray) (w : World) (hp : p.size ≤ 1048576) (hok : za9.OkS s 1048576) (hn : OkN s) (ha : OkA s) (hv : Mem.zd3 w s) (m : Pl.Mn) (hlm : Pl.leadI (Pl.uR p) s.M s.M.length = m)
  (r0 r1 r2 r3 : TypeId) (x0 x1 x2 x3 : Value) (hE : zj0.Errs4 w r0 r1 r2 r3 x0 x1 x2 x3) :
  Calls Tryz.prog 32 #[.agg s.cs, .string p] w fun e w' => Spotted w w' s p (Pl.zd1 s.next (s.N.map WSp.nr) s.M s.H Pl.wayB) m e ∧ Below w.heap.size w w' := by
 have HX := hide (fun W (b : Below w.heap.size w W) => zu4 s W hok hn ha (hv.call b) r0 r1 r2 r3 x0 x1 x2 x3 (hE.call b))
 have HR := hide (fun W => zq3.ze7 p W hp)
 have HL := hide (fun (h : Pl.zd1 s.next (s.N.map WSp.nr) s.M s.H Pl.wayB = true) (h2 : Pl.za1 p = true) => by
  have h1 := Pl.space_lead h
  have h3 := Pl.lead_of h p h2
  rw [hlm] at h3
  exact (⟨h1.2.1, h3.2.1, h3.2.2.2⟩ : (∀ m ∈ s.M, Pl.za1 m.p = true) ∧ m ∈ s.M ∧ (Pl.restO p m.p).1 = Pl.rest p m.p))
 have HM := hok.m
 have hsame := Pl.zr6 s.next (s.N.map WSp.nr) s.M s.H Pl.wayB
 rw [hsame] at HX
 have HLM := hide hlm
 generalize HQ : Pl.zd1 s.next (s.N.map WSp.nr) s.M s.H Pl.wayB = RB at HX HL ⊢
 clear hok hn ha hv hE hlm hsame HQ
 obtain ⟨ia, ic, N, ma, mc, M, ha, hc, H, next⟩ := s
 simp only at HX HM HL HLM ⊢
 unfold Pl.Sp.cs at HX ⊢
 simp only at HX ⊢
 have b0 : Below w.heap.size w (((w.alloc (.cells #[.slice ia N.length ic, .slice ma M.length mc, .slice ha H.length hc, .int .i64 next] 32)).alloc (.cells #[.map none, .slice none 0 0, .slice none 0 0, .int .i64 0] 59)).alloc (.cells #[.string ⟨#[]⟩, .int .i64 0, .bool false, .string ⟨#[]⟩] 61)) := (((Below.refl _ _).alloc (Nat.le_refl _) _).alloc (by simp) _).alloc (by simp; omega) _
 have V0 := hide (((Mem.Blk.new w #[.slice ia N.length ic, .slice ma M.length mc, .slice ha H.length hc, .int .i64 next] 32).alloc (.cells #[.map none, .slice none 0 0, .slice none 0 0, .int .i64 0] 59)).alloc (.cells #[.string ⟨#[]⟩, .int .i64 0, .bool false, .string ⟨#[]⟩] 61))
 have U0 := hide ((Mem.Blk.new (w.alloc (.cells #[.slice ia N.length ic, .slice ma M.length mc, .slice ha H.length hc, .int .i64 next] 32)) #[.map none, .slice none 0 0, .slice none 0 0, .int .i64 0] 59).alloc (.cells #[.string ⟨#[]⟩, .int .i64 0, .bool false, .string ⟨#[]⟩] 61))
 have Y0 := hide (Mem.Blk.new ((w.alloc (.cells #[.slice ia N.length ic, .slice ma M.length mc, .slice ha H.length hc, .int .i64 next] 32)).alloc (.cells #[.map none, .slice none 0 0, .slice none 0 0, .int .i64 0] 59)) #[.string ⟨#[]⟩, .int .i64 0, .bool false, .string ⟨#[]⟩] 61)
 have n1 : (w.alloc (.cells #[.slice ia N.length ic, .slice ma M.length mc, .slice ha H.length hc, .int .i64 next] 32)).heap.size = w.heap.size + 1 := by simp
 have n2 : ((w.alloc (.cells #[.slice ia N.length ic, .slice ma M.length mc, .slice ha H.length hc, .int .i64 next] 32)).alloc (.cells #[.map none, .slice none 0 0, .slice none 0 0, .int .i64 0] 59)).heap.size = w.heap.size + 2 := by simp
 have n3 : (((w.alloc (.cells #[.slice ia N.length ic, .slice ma M.length mc, .slice ha H.length hc, .int .i64 next] 32)).alloc (.cells #[.map none, .slice none 0 0, .slice none 0 0, .int .i64 0] 59)).alloc (.cells #[.string ⟨#[]⟩, .int .i64 0, .bool false, .string ⟨#[]⟩] 61)).heap.size = w.heap.size + 3 := by simp
 rw [n1] at U0
 rw [n2] at Y0
 clear n1 n2
 by_cases hl : 8000 < p.size
 ·have HW : Hid (Pl.whyI p RB = 1) := hide (by unfold Pl.whyI; rw [if_pos hl])
  have l1 : (8000 : Int) < (p.size : Int) := by omega
  clear HX HR HL HLM
  go_enter Tryz.func32, Tryz.ntmps32
  go_wp2
  refine bodyPost_ret (v := .tuple #[zS, zT, .int .i64 1]) (by simp [results, Tryz.results32, go_sem]) rfl ⟨.inr ⟨by rw [za HW]; decide, by rw [za HW]⟩, b0⟩
 have l1 : ¬ (8000 : Int) < (p.size : Int) := by omega
 have a0 := (za V0).cell 0
 have a1 := (za V0).cell 1
 have a2 := (za V0).cell 2
 have a3 := (za V0).cell 3
 simp only [kGs] at a0 a1 a2 a3
 go_enter Tryz.func32, Tryz.ntmps32
 go_wp2_with fail
 generalize ((w.alloc (.cells #[.slice ia N.length ic, .slice ma M.length mc, .slice ha H.length hc, .int .i64 next] 32)).alloc (.cells #[.map none, .slice none 0 0, .slice none 0 0, .int .i64 0] 59)).alloc (.cells #[.string ⟨#[]⟩, .int .i64 0, .bool false, .string ⟨#[]⟩] 61) = wA at b0 V0 U0 Y0 a0 a1 a2 a3 n3 ⊢
 refine (za HX _ b0).mono ?_
 rintro e w1 ⟨hS, bX⟩
 have b1 := b0.trans (bX.mono b0.size)
 have U1 := hide ((za U0).call bX)
 have Y1 := hide ((za Y0).call bX)
 clear HX bX V0 a0 a1 a2 a3 b0 U0 Y0
 rcases hS with ⟨hR, q, E, sa, sc, ta, tc, rfl, HS⟩ | ⟨hR, q, sa, sl, sc, ta, tl, tc, n, rfl⟩
 ·subst hR
  have b2 : Below w1.heap.size w1 (w1.alloc (.cells #[Value.map (some q), Value.slice sa M.length sc, Value.slice ta H.length tc, Value.int .i64 next] 59)) := (Below.refl _ _).alloc (Nat.le_refl _) _
  have b3 := b1.trans (b2.mono b1.size)
  have U2 := hide ((za U1).call b2)
  have Y2 := hide ((za Y1).call b2)
  have X2 := hide (Mem.Blk.new w1 #[Value.map (some q), Value.slice sa M.length sc, Value.slice ta H.length tc, Value.int .i64 next] 59)
  have HS2 := hide (HS.call b2)
  have hX : w.heap.size + 2 < w1.heap.size := (za Y1).lt
  clear HS
  clear U1 Y1 b1 b2
  go_upto_region 4 with fail
  generalize w1.alloc (.cells #[Value.map (some q), Value.slice sa M.length sc, Value.slice ta H.length tc, Value.int .i64 next] 59) = w2 at b3 U2 Y2 X2 HS2 ⊢
  generalize w1.heap.size = X at X2 hX ⊢
  generalize hB : wA.heap.size = B at n3 HS2
  clear hB
  have HBp : Hid (Pl.za1 p = true → Pl.whyI p true = 0 ∧ (∀ m ∈ M, Pl.za1 m.p = true) ∧ m ∈ M ∧ (Pl.restO p m.p).1 = Pl.rest p m.p) := hide (fun h => ⟨by unfold Pl.whyI; rw [if_neg hl, h]; rfl, za HL (by first | exact rfl | exact trivial) h⟩)
  have HBn : Hid (Pl.za1 p = false → Pl.whyI p true = 2) := hide (fun h => by unfold Pl.whyI; rw [if_neg hl, h]; rfl)
  have HLD0 := hide (fun (hpb : Pl.za1 p = true) (h : ∀ m ∈ M, Pl.za1 m.p = true) (hmm : m ∈ M) W i => lead_any (some q) M sa ta sc H.length tc next p W hpb h HM i m (za HLM) (by
   have q1 : m.p.size ≤ 200 := Nat.le_of_not_lt fun h2 => by have := h m hmm; rw [Pl.zq5 h2] at this; cases this
   omega))
  generalize Pl.za1 p = pb at HR HBp HBn HLD0
  clear HL HLM
  go_wp2_with fail
  refine (za HR _).mono ?_
  rintro e w3 ⟨rfl, bX⟩
  replace b3 := b3.trans (bX.mono b3.size)
  replace U2 := hide ((za U2).call bX)
  replace Y2 := hide ((za Y2).call bX)
  replace X2 := hide ((za X2).call bX)
  replace HS2 := hide ((za HS2).call bX)
  clear bX HR
  cases pb
  ·have HW := hide (za HBn rfl)
   clear HBn HBp HLD0 X2 HS2
   have d0 := (za U2).cell 0
   have f0 := (za U2).fr 0
   have d1 := (za U2).cell 1
   have f1 := (za U2).fr 1
   have d2 := (za U2).cell 2
   have f2 := (za U2).fr 2
   have d3 := (za U2).cell 3
   have f3 := (za U2).fr 3
   simp only [kGs] at d0 d1 d2 d3
   have e0 := (za Y2).cell 0
   have g0 := (za Y2).fr 0
   have e1 := (za Y2).cell 1
   have g1 := (za Y2).fr 1
   have e2 := (za Y2).cell 2
   have g2 := (za Y2).fr 2
   have e3 := (za Y2).cell 3
   have g3 := (za Y2).fr 3
   simp only [kGs] at e0 e1 e2 e3
   go_wp2
   refine bodyPost_ret (v := .tuple #[zS, zT, .int .i64 2]) (by simp [results, Tryz.results32, go_sem, d0, d1, d2, d3, e0, e1, e2, e3]) rfl ⟨.inr ⟨by rw [za HW]; decide, by rw [za HW]⟩, ?_⟩
   exact ((((((((b3).setCell (p := ⟨w.heap.size + 1, 0, none⟩) (by show w.heap.size ≤ w.heap.size + 1; omega) (Value.map none)).setCell (p := ⟨w.heap.size + 1, 1, none⟩) (by show w.heap.size ≤ w.heap.size + 1; omega) (Value.slice none 0 0)).setCell (p := ⟨w.heap.size + 1, 2, none⟩) (by show w.heap.size ≤ w.heap.size + 1; omega) (Value.slice none 0 0)).setCell (p := ⟨w.heap.size + 1, 3, none⟩) (by show w.heap.size ≤ w.heap.size + 1; omega) (Value.int .i64 0)).setCell (p := ⟨w.heap.size + 2, 0, none⟩) (by show w.heap.size ≤ w.heap.size + 2; omega) (Value.string ⟨#[]⟩)).setCell (p := ⟨w.heap.size + 2, 1, none⟩) (by show w.heap.size ≤ w.heap.size + 2; omega) (Value.int .i64 0)).setCell (p := ⟨w.heap.size + 2, 2, none⟩) (by show w.heap.size ≤ w.heap.size + 2; omega) (Value.bool false)).setCell (p := ⟨w.heap.size + 2, 3, none⟩) (by show w.heap.size ≤ w.heap.size + 2; omega) (Value.string ⟨#[]⟩)
  obtain ⟨hw0, hmp, hmm, hrt⟩ := za HBp rfl
  have HW := hide hw0
  have HRT := hide hrt
  have HLD := hide (za HLD0 rfl hmp hmm)
  generalize (Pl.restO p m.p).1 = RT at HLD HRT
  have BD : Below w3.heap.size w3 w3.drew := ⟨rfl, rfl, rfl, Nat.le_refl _, fun _ _ => rfl⟩
  have x0 := (za X2).cell 0
  have x1 := (za X2).cell 1
  have x2 := (za X2).cell 2
  have x3 := (za X2).cell 3
  simp only [kGs] at x0 x1 x2 x3
  have U := (za U2).call BD
  have Y := (za Y2).call BD
  have XX := (za X2).call BD
  have HS := (za HS2).call BD
  have bel := b3.trans (BD.mono b3.size)
  have hq := HS.lo
  have MK : Hid (∀ W', Below w.heap.size w W' → Mem.Blk W' X #[Value.map (some q), Value.slice sa M.length sc, Value.slice ta H.length tc, Value.int .i64 next] 59 → (Below w.heap.size w W' ∧ W'.cell? ⟨X, 0, none⟩ = some (Value.map (some q)) ∧ W'.cell? ⟨X, 1, none⟩ = some (Value.slice sa M.length sc) ∧ W'.cell? ⟨X, 2, none⟩ = some (Value.slice ta H.length tc) ∧ W'.cell? ⟨X, 3, none⟩ = some (Value.int .i64 next))) := fun W' b y => ⟨b, y.cell 0, y.cell 1, y.cell 2, y.cell 3⟩
  clear hw0 hmp hmm hrt HLD0 HBn HBp U2 Y2 X2 HS2 BD b3
  go_wp2_with fail
  refine wp_region_held_drew (S := fun W' => Below w.heap.size w W' ∧ W'.cell? ⟨X, 0, none⟩ = some (Value.map (some q)) ∧ W'.cell? ⟨X, 1, none⟩ = some (Value.slice sa M.length sc) ∧ W'.cell? ⟨X, 2, none⟩ = some (Value.slice ta H.length tc) ∧ W'.cell? ⟨X, 3, none⟩ = some (Value.int .i64 next)) (by kernel_rfl) ?_ (fun hHeld => ?_)
  ·exact za MK _ bel XX
  generalize w3.drew = D0 at hHeld U Y XX HS bel ⊢
  refine tka (i := 0) rfl ?_
  try simp only [Act.put, kBs]
  refine tka (i := 1) rfl ?_
  try simp only [Act.put, kBs]
  refine tka (i := 2) rfl ?_
  try simp only [Act.put, kBs]
  refine wpAnyH_ready (rs := [3]) (by kernel_rfl) (by simp) ?_
  refine AllReadyH.cons rfl (fun K hK => ?_) AllReadyH.nil
  go_simp
  refine (za HLD _ HS.zh9).mono ?_
  rintro e wX ⟨rfl, bX⟩
  replace U := U.call bX
  replace Y := Y.call bX
  replace XX := XX.call bX
  replace HS := HS.call bX
  replace bel := bel.trans (bX.mono bel.size)
  clear bX
  unfold spot
  refine hK.out _ _ ?_ (fun hHeld => ?_)
  ·exact za MK _ bel XX
  clear hK K
  try simp only [Act.put, kBs]
  refine wpAnyH_ready (rs := [4]) (by kernel_rfl) (by simp) ?_
  refine AllReadyH.cons rfl (fun K hK => ?_) AllReadyH.nil
  have d0 := (U).cell 0
  have f0 := (U).fr 0
  have d1 := (U).cell 1
  have f1 := (U).fr 1
  have d2 := (U).cell 2
  have f2 := (U).fr 2
  have d3 := (U).cell 3
  have f3 := (U).fr 3
  simp only [kGs] at d0 d1 d2 d3
  go_simp
  clear d0 d1 d2 d3 f0 f1 f2 f3
  replace U := ((((U).put 0 (Value.map (some q))).put 1 (Value.slice sa M.length sc)).put 2 (Value.slice ta H.length tc)).put 3 (Value.int .i64 next)
  replace Y := ((((Y).far ⟨w.heap.size + 1, 0, none⟩ (Value.map (some q)) (by show w.heap.size + 2 ≠ w.heap.size + 1; omega)).far ⟨w.heap.size + 1, 1, none⟩ (Value.slice sa M.length sc) (by show w.heap.size + 2 ≠ w.heap.size + 1; omega)).far ⟨w.heap.size + 1, 2, none⟩ (Value.slice ta H.length tc) (by show w.heap.size + 2 ≠ w.heap.size + 1; omega)).far ⟨w.heap.size + 1, 3, none⟩ (Value.int .i64 next) (by show w.heap.size + 2 ≠ w.heap.size + 1; omega)
  replace XX := ((((XX).far ⟨w.heap.size + 1, 0, none⟩ (Value.map (some q)) (by show X ≠ w.heap.size + 1; omega)).far ⟨w.heap.size + 1, 1, none⟩ (Value.slice sa M.length sc) (by show X ≠ w.heap.size + 1; omega)).far ⟨w.heap.size + 1, 2, none⟩ (Value.slice ta H.length tc) (by show X ≠ w.heap.size + 1; omega)).far ⟨w.heap.size + 1, 3, none⟩ (Value.int .i64 next) (by show X ≠ w.heap.size + 1; omega)
  replace HS := ((((HS).far (Y := w.heap.size + 1) 0 (Value.map (some q)) (by omega)).far (Y := w.heap.size + 1) 1 (Value.slice sa M.length sc) (by omega)).far (Y := w.heap.size + 1) 2 (Value.slice ta H.length tc) (by omega)).far (Y := w.heap.size + 1) 3 (Value.int .i64 next) (by omega)
  replace bel := ((((bel).setCell (p := ⟨w.heap.size + 1, 0, none⟩) (by show w.heap.size ≤ w.heap.size + 1; omega) (Value.map (some q))).setCell (p := ⟨w.heap.size + 1, 1, none⟩) (by show w.heap.size ≤ w.heap.size + 1; omega) (Value.slice sa M.length sc)).setCell (p := ⟨w.heap.size + 1, 2, none⟩) (by show w.heap.size ≤ w.heap.size + 1; omega) (Value.slice ta H.length tc)).setCell (p := ⟨w.heap.size + 1, 3, none⟩) (by show w.heap.size ≤ w.heap.size + 1; omega) (Value.int .i64 next)
  refine hK.out _ _ ?_ (fun hHeld => ?_)
  ·exact za MK _ bel XX
  clear hK K
  try simp only [Act.put, kBs]
  refine wpAnyH_ready (rs := [5]) (by kernel_rfl) (by simp) ?_
  refine AllReadyH.cons rfl (fun K hK => ?_) AllReadyH.nil
  have d0 := (Y).cell 0
  have f0 := (Y).fr 0
  have d1 := (Y).cell 1
  have f1 := (Y).fr 1
  have d2 := (Y).cell 2
  have f2 := (Y).fr 2
  have d3 := (Y).cell 3
  have f3 := (Y).fr 3
  simp only [kGs] at d0 d1 d2 d3
  go_simp
  clear d0 d1 d2 d3 f0 f1 f2 f3
  replace Y := ((((Y).put 0 (Value.string m.p)).put 1 (Value.int .i64 m.i)).put 2 (Value.bool m.z)).put 3 (Value.string RT)
  replace U := ((((U).far ⟨w.heap.size + 2, 0, none⟩ (Value.string m.p) (by show w.heap.size + 1 ≠ w.heap.size + 2; omega)).far ⟨w.heap.size + 2, 1, none⟩ (Value.int .i64 m.i) (by show w.heap.size + 1 ≠ w.heap.size + 2; omega)).far ⟨w.heap.size + 2, 2, none⟩ (Value.bool m.z) (by show w.heap.size + 1 ≠ w.heap.size + 2; omega)).far ⟨w.heap.size + 2, 3, none⟩ (Value.string RT) (by show w.heap.size + 1 ≠ w.heap.size + 2; omega)
  replace XX := ((((XX).far ⟨w.heap.size + 2, 0, none⟩ (Value.string m.p) (by show X ≠ w.heap.size + 2; omega)).far ⟨w.heap.size + 2, 1, none⟩ (Value.int .i64 m.i) (by show X ≠ w.heap.size + 2; omega)).far ⟨w.heap.size + 2, 2, none⟩ (Value.bool m.z) (by show X ≠ w.heap.size + 2; omega)).far ⟨w.heap.size + 2, 3, none⟩ (Value.string RT) (by show X ≠ w.heap.size + 2; omega)
  replace HS := ((((HS).far (Y := w.heap.size + 2) 0 (Value.string m.p) (by omega)).far (Y := w.heap.size + 2) 1 (Value.int .i64 m.i) (by omega)).far (Y := w.heap.size + 2) 2 (Value.bool m.z) (by omega)).far (Y := w.heap.size + 2) 3 (Value.string RT) (by omega)
  replace bel := ((((bel).setCell (p := ⟨w.heap.size + 2, 0, none⟩) (by show w.heap.size ≤ w.heap.size + 2; omega) (Value.string m.p)).setCell (p := ⟨w.heap.size + 2, 1, none⟩) (by show w.heap.size ≤ w.heap.size + 2; omega) (Value.int .i64 m.i)).setCell (p := ⟨w.heap.size + 2, 2, none⟩) (by show w.heap.size ≤ w.heap.size + 2; omega) (Value.bool m.z)).setCell (p := ⟨w.heap.size + 2, 3, none⟩) (by show w.heap.size ≤ w.heap.size + 2; omega) (Value.string RT)
  refine hK.out _ _ ?_ (fun hHeld => ?_)
  ·exact za MK _ bel XX
  clear hK K
  try simp only [Act.put, kBs]
  refine tka (i := 6) rfl ?_
  try simp only [Act.put, kBs]
  refine wpAnyH_done (by kernel_rfl) ?_ _
  have d0 := U.cell 0
  have d1 := U.cell 1
  have d2 := U.cell 2
  have d3 := U.cell 3
  have e0 := Y.cell 0
  have e1 := Y.cell 1
  have e2 := Y.cell 2
  have e3 := Y.cell 3
  simp only [kB3, kB4, kB5, kGs] at d0 d1 d2 d3 e0 e1 e2 e3
  go_wp2
  refine bodyPost_ret (v := .tuple #[.agg #[Value.map (some q), Value.slice sa M.length sc, Value.slice ta H.length tc, Value.int .i64 next], .agg #[Value.string m.p, Value.int .i64 m.i, Value.bool m.z, Value.string RT], .int .i64 0]) (by simp [results, Tryz.results32, go_sem, d0, d1, d2, d3, e0, e1, e2, e3]) rfl ⟨.inl ⟨za HW, _, _, _, _, _, _, by rw [← za HRT]; rfl, ⟨by have := HS.lo; omega, HS.ids, HS.mo, HS.nv, HS.ne⟩⟩, bel⟩
 ·subst hR
  have HW : Hid (Pl.whyI p false = 2) := hide (by unfold Pl.whyI; rw [if_neg hl]; rfl)
  clear HL HLM
  have b2 : Below w1.heap.size w1 (w1.alloc (.cells #[.map q, .slice sa sl sc, .slice ta tl tc, .int .i64 n] 59)) := (Below.refl _ _).alloc (Nat.le_refl _) _
  have b3 := b1.trans (b2.mono b1.size)
  have U2 := hide ((za U1).call b2)
  have Y2 := hide ((za Y1).call b2)
  clear U1 Y1 b1 b2
  go_upto_region 4 with fail
  generalize w1.alloc (.cells #[.map q, .slice sa sl sc, .slice ta tl tc, .int .i64 n] 59) = w2 at b3 U2 Y2 ⊢
  have d0 := (za U2).cell 0
  have f0 := (za U2).fr 0
  have d1 := (za U2).cell 1
  have f1 := (za U2).fr 1
  have d2 := (za U2).cell 2
  have f2 := (za U2).fr 2
  have d3 := (za U2).cell 3
  have f3 := (za U2).fr 3
  simp only [kGs] at d0 d1 d2 d3
  have e0 := (za Y2).cell 0
  have g0 := (za Y2).fr 0
  have e1 := (za Y2).cell 1
  have g1 := (za Y2).fr 1
  have e2 := (za Y2).cell 2
  have g2 := (za Y2).fr 2
  have e3 := (za Y2).cell 3
  have g3 := (za Y2).fr 3
  simp only [kGs] at e0 e1 e2 e3
  go_wp2
  refine bodyPost_ret (v := .tuple #[zS, zT, .int .i64 2]) (by simp [results, Tryz.results32, go_sem, d0, d1, d2, d3, e0, e1, e2, e3]) rfl ⟨.inr ⟨by rw [za HW]; decide, by rw [za HW]⟩, ?_⟩
  exact ((((((((b3).setCell (p := ⟨w.heap.size + 1, 0, none⟩) (by show w.heap.size ≤ w.heap.size + 1; omega) (Value.map none)).setCell (p := ⟨w.heap.size + 1, 1, none⟩) (by show w.heap.size ≤ w.heap.size + 1; omega) (Value.slice none 0 0)).setCell (p := ⟨w.heap.size + 1, 2, none⟩) (by show w.heap.size ≤ w.heap.size + 1; omega) (Value.slice none 0 0)).setCell (p := ⟨w.heap.size + 1, 3, none⟩) (by show w.heap.size ≤ w.heap.size + 1; omega) (Value.int .i64 0)).setCell (p := ⟨w.heap.size + 2, 0, none⟩) (by show w.heap.size ≤ w.heap.size + 2; omega) (Value.string ⟨#[]⟩)).setCell (p := ⟨w.heap.size + 2, 1, none⟩) (by show w.heap.size ≤ w.heap.size + 2; omega) (Value.int .i64 0)).setCell (p := ⟨w.heap.size + 2, 2, none⟩) (by show w.heap.size ≤ w.heap.size + 2; omega) (Value.bool false)).setCell (p := ⟨w.heap.size + 2, 3, none⟩) (by show w.heap.size ≤ w.heap.size + 2; omega) (Value.string ⟨#[]⟩)
end WSpI
end Go.Proofs.YtonffldjbmednaaGreatDoor

namespace Go.Proofs.YtonffldjbmednaaGreatDoor
open Go.Shelf
namespace LayKeys
def keysR : Go.Shelf.Ren := ⟨fun | 7 => 68 | 10 => 110 | n => n, fun | 0 => 0 | 3 => 121 | 4 => 4 | 23 => 57 | 26 => 2 | 27 => 112 | 28 => 113 | 33 => 161 | n => n, fun n => n⟩
set_option maxRecDepth 100000 in
theorem keysL : SlLaysZI.n7 Tryz.prog keysR where
 mixed := by kernel_rfl
 f7 := ⟨ "maps.Keys[map[int64]loop.example/g00449/impl.nest[loop.example/g00449/impl.treeItem],int64,loop.example/g00449/impl.nest[loop.example/g00449/impl.treeItem]]", by decide, Tryz.func68.trans (congrArg some (by kernel_rfl))⟩
 f10 := ⟨ "maps.Keys[map[int64]loop.example/g00449/impl.nest[loop.example/g00449/impl.treeItem],int64,loop.example/g00449/impl.nest[loop.example/g00449/impl.treeItem]]$1", by decide, Tryz.func110.trans (congrArg some (by kernel_rfl))⟩
 t0 := Tryz.underlying0
 a0 := Tryz.isAgg0
 z0 := Tryz.sizeOf0
 v0 := Tryz.zeroValue0
 t4 := Tryz.underlying4
 a4 := Tryz.isAgg4
 z4 := Tryz.sizeOf4
 v4 := Tryz.zeroValue4
 t23 := Tryz.underlying57
 a23 := Tryz.isAgg57
 z23 := Tryz.sizeOf57
 v23 := Tryz.zeroValue57
 t26 := Tryz.underlying2
 a26 := Tryz.isAgg2
 z26 := Tryz.sizeOf2
 v26 := Tryz.zeroValue2
 t27 := Tryz.underlying112
 a27 := Tryz.isAgg112
 z27 := Tryz.sizeOf112
 v27 := Tryz.zeroValue112
 t28 := Tryz.underlying113
 a28 := Tryz.isAgg113
 z28 := Tryz.sizeOf113
 v28 := Tryz.zeroValue113
 t33 := Tryz.underlying161
 a33 := Tryz.isAgg161
 z33 := Tryz.sizeOf161
 v33 := Tryz.zeroValue161
def sortedR : Go.Shelf.Ren := ⟨fun | 6 => 67 | 8 => 108 | 9 => 109 | 11 => 132 | n => n, fun | 0 => 0 | 24 => 110 | 26 => 2 | 28 => 113 | 33 => 161 | n => n, fun n => n⟩
set_option maxRecDepth 100000 in
theorem sortedL : SlLaysZI.n6 Tryz.prog sortedR where
 mixed := by kernel_rfl
 f6 := ⟨ "slices.Sorted[int64]", by decide, Tryz.func67.trans (congrArg some (by kernel_rfl))⟩
 f8 := ⟨ "slices.Collect[int64]", by decide, Tryz.func108.trans (congrArg some (by kernel_rfl))⟩
 f11 := ⟨ "slices.AppendSeq[[]int64,int64]", by decide, Tryz.func132.trans (congrArg some (by kernel_rfl))⟩
 t0 := Tryz.underlying0
 a0 := Tryz.isAgg0
 z0 := Tryz.sizeOf0
 v0 := Tryz.zeroValue0
 t24 := Tryz.underlying110
 a24 := Tryz.isAgg110
 z24 := Tryz.sizeOf110
 v24 := Tryz.zeroValue110
 t26 := Tryz.underlying2
 a26 := Tryz.isAgg2
 z26 := Tryz.sizeOf2
 v26 := Tryz.zeroValue2
 t28 := Tryz.underlying113
 a28 := Tryz.isAgg113
 z28 := Tryz.sizeOf113
 v28 := Tryz.zeroValue113
 i26 := by kernel_rfl
def sortR : Go.Shelf.Ren := ⟨fun | 5 => 109 | 7 => 133 | 8 => 134 | 10 => 150 | 11 => 151 | 12 => 152 | 13 => 153 | 14 => 154 | 15 => 155 | 16 => 156 | 17 => 157 | 18 => 158 | 19 => 159 | 20 => 160 | 30 => 167 | 31 => 168 | 32 => 169 | 33 => 170 | 34 => 171 | 35 => 172 | 40 => 186 | n => n, fun | 0 => 0 | 3 => 3 | 4 => 4 | 5 => 5 | 9 => 9 | 22 => 110 | 23 => 110 | 25 => 2 | 32 => 187 | 35 => 202 | 36 => 203 | 41 => 208 | 44 => 211 | 46 => 213 | 53 => 221 | 57 => 225 | 63 => 239 | 64 => 240 | n => n, fun n => n⟩
set_option maxRecDepth 100000 in
theorem sortL : SlLaysM.n5 Tryz.prog sortR where
 mixed := by kernel_rfl
 f5 := ⟨ "slices.Sort[[]int64,int64]", by decide, Tryz.func109.trans (congrArg some (by kernel_rfl))⟩
 f7 := ⟨ "slices.pdqsortOrdered[int64]", by decide, Tryz.func133.trans (congrArg some (by kernel_rfl))⟩
 f8 := Tryz.func134.trans (congrArg some (by kernel_rfl))
 f10 := ⟨ "slices.insertionSortOrdered[int64]", by decide, Tryz.func150.trans (congrArg some (by kernel_rfl))⟩
 f11 := ⟨ "slices.heapSortOrdered[int64]", by decide, Tryz.func151.trans (congrArg some (by kernel_rfl))⟩
 f12 := ⟨ "slices.breakPatternsOrdered[int64]", by decide, Tryz.func152.trans (congrArg some (by kernel_rfl))⟩
 f13 := ⟨ "slices.choosePivotOrdered[int64]", by decide, Tryz.func153.trans (congrArg some (by kernel_rfl))⟩
 f14 := ⟨ "slices.reverseRangeOrdered[int64]", by decide, Tryz.func154.trans (congrArg some (by kernel_rfl))⟩
 f15 := ⟨ "slices.partialInsertionSortOrdered[int64]", by decide, Tryz.func155.trans (congrArg some (by kernel_rfl))⟩
 f16 := ⟨ "cmp.Less[int64]", by decide, Tryz.func156.trans (congrArg some (by kernel_rfl))⟩
 f17 := ⟨ "slices.partitionEqualOrdered[int64]", by decide, Tryz.func157.trans (congrArg some (by kernel_rfl))⟩
 f18 := ⟨ "slices.partitionOrdered[int64]", by decide, Tryz.func158.trans (congrArg some (by kernel_rfl))⟩
 f19 := Tryz.func159.trans (congrArg some (by kernel_rfl))
 f20 := Tryz.func160.trans (congrArg some (by kernel_rfl))
 f30 := ⟨ "slices.siftDownOrdered[int64]", by decide, Tryz.func167.trans (congrArg some (by kernel_rfl))⟩
 f31 := Tryz.func168.trans (congrArg some (by kernel_rfl))
 f32 := Tryz.func169.trans (congrArg some (by kernel_rfl))
 f33 := ⟨ "slices.medianAdjacentOrdered[int64]", by decide, Tryz.func170.trans (congrArg some (by kernel_rfl))⟩
 f34 := ⟨ "slices.medianOrdered[int64]", by decide, Tryz.func171.trans (congrArg some (by kernel_rfl))⟩
 f35 := ⟨ "cmp.isNaN[int64]", by decide, Tryz.func172.trans (congrArg some (by kernel_rfl))⟩
 f40 := ⟨ "slices.order2Ordered[int64]", by decide, Tryz.func186.trans (congrArg some (by kernel_rfl))⟩
 t0 := Tryz.underlying0
 a0 := Tryz.isAgg0
 z0 := Tryz.sizeOf0
 v0 := Tryz.zeroValue0
 t3 := Tryz.underlying3
 a3 := Tryz.isAgg3
 z3 := Tryz.sizeOf3
 v3 := Tryz.zeroValue3
 t4 := Tryz.underlying4
 a4 := Tryz.isAgg4
 z4 := Tryz.sizeOf4
 v4 := Tryz.zeroValue4
 t5 := Tryz.underlying5
 a5 := Tryz.isAgg5
 z5 := Tryz.sizeOf5
 v5 := Tryz.zeroValue5
 t9 := Tryz.underlying9
 a9 := Tryz.isAgg9
 z9 := Tryz.sizeOf9
 v9 := Tryz.zeroValue9
 t22 := Tryz.underlying110
 a22 := Tryz.isAgg110
 z22 := Tryz.sizeOf110
 v22 := Tryz.zeroValue110
 t23 := Tryz.underlying110
 a23 := Tryz.isAgg110
 z23 := Tryz.sizeOf110
 v23 := Tryz.zeroValue110
 t25 := Tryz.underlying2
 a25 := Tryz.isAgg2
 z25 := Tryz.sizeOf2
 v25 := Tryz.zeroValue2
 t32 := Tryz.underlying187
 a32 := Tryz.isAgg187
 z32 := Tryz.sizeOf187
 v32 := Tryz.zeroValue187
 t35 := Tryz.underlying202
 a35 := Tryz.isAgg202
 z35 := Tryz.sizeOf202
 v35 := Tryz.zeroValue202
 t36 := Tryz.underlying203
 a36 := Tryz.isAgg203
 z36 := Tryz.sizeOf203
 v36 := Tryz.zeroValue203
 t41 := Tryz.underlying208
 a41 := Tryz.isAgg208
 z41 := Tryz.sizeOf208
 v41 := Tryz.zeroValue208
 t44 := Tryz.underlying211
 a44 := Tryz.isAgg211
 z44 := Tryz.sizeOf211
 v44 := Tryz.zeroValue211
 t46 := Tryz.underlying213
 a46 := Tryz.isAgg213
 z46 := Tryz.sizeOf213
 v46 := Tryz.zeroValue213
 t53 := Tryz.underlying221
 a53 := Tryz.isAgg221
 z53 := Tryz.sizeOf221
 v53 := Tryz.zeroValue221
 t57 := Tryz.underlying225
 a57 := Tryz.isAgg225
 z57 := Tryz.sizeOf225
 v57 := Tryz.zeroValue225
 t63 := Tryz.underlying239
 a63 := Tryz.isAgg239
 z63 := Tryz.sizeOf239
 v63 := Tryz.zeroValue239
 t64 := Tryz.underlying240
 a64 := Tryz.isAgg240
 z64 := Tryz.sizeOf240
 v64 := Tryz.zeroValue240
end LayKeys
end Go.Proofs.YtonffldjbmednaaGreatDoor

namespace Go.Proofs.YtonffldjbmednaaGreatDoor
open Go.RowKit Go.Maps Go.Sort Go.Shelf
namespace WKeys
theorem sorts (m : Nat) : AnyZI.SortsIn Tryz.prog LayKeys.sortedR Fence.wide m :=
 ⟨fun blk off cap ss W hH hblk hsz => callsIn_wide.2 (AnyM.slices_Sort_int LayKeys.sortL blk off cap ss W hH hblk hsz),
 fun p cap W => callsIn_wide.2 (AnyM.slices_Sort_int_none LayKeys.sortL p cap W)⟩
theorem keys_any (mb : Option Nat) (W : World) : Calls Tryz.prog 68 #[.map mb] W fun e w' => e = .returned (.func (.func 110) #[] #[.pointer (some ⟨W.heap.size, 0, none⟩)]) ∧ w' = W.alloc (.cells #[.map mb] 57) :=
 (callsIn_wide (n := 5)).1 (AnyZI.keys_in LayKeys.keysL Fence.wide 5 trivial rfl mb W)
theorem sorted_any (q n Bm : Nat) (D : DataW Value) (w : World) (hB : Bm < w.heap.size) (hm : w.cell? ⟨Bm, 0, none⟩ = some (.map (some q))) (hown : w.ownsMap Tryz.prog 2 MapI.elem q n D) (hmax : Maps.size D ≤ 100) :
  Calls Tryz.prog 67 #[.func (.func 110) #[] #[.pointer (some ⟨Bm, 0, none⟩)]] w fun e w' => ∃ (v : Value) (ss : List Int), e = .returned v ∧ ss.Perm (intKeys D) ∧
   w'.ownsRow w.heap.size 2 1 v ss.length ((ss.mergeSort (fun x y => decide (x ≤ y))).map encZ) ∧ Below w.heap.size w w' := by
 have hseq : SeqGives Fence.wide 2 Tryz.prog 110 #[.pointer (some ⟨Bm, 0, none⟩)] encZ (fun ss => ss.Perm (intKeys D)) (Maps.size D) w :=
  AnyZI.keys_gives (ρ := LayKeys.keysR) { LayKeys.keysL with } Fence.wide _ trivial rfl (by omega) Bm q n D _ hB hm hown
 have cS := AnyZI.sorted_in LayKeys.sortedL Fence.wide 5 trivial trivial trivial trivial rfl (by omega) (sorts _) (enters_of Tryz.func109 (by kernel_rfl) rfl) 110 #[.pointer (some ⟨Bm, 0, none⟩)] trivial (enters_of Tryz.func110 (by kernel_rfl) rfl) _ _ (by unfold maxLen; omega) (by omega) _ hseq
 exact ((callsIn_wide (n := 5)).1 cS).mono fun e w' ⟨v, ss, h1, h2, h3, _, h5⟩ => ⟨v, ss, h1, h2, h3, h5⟩
theorem size_le {w : World} {q n : Nat} {D : DataW Value} (h : w.ownsMap Tryz.prog 2 MapI.elem q n D) : Maps.size D ≤ n := by
 obtain ⟨es, clock, hb, F, hs, rfl⟩ := h
 rw [Maps.size_eq, length_read]
 exact hs
theorem ids_perm {w : World} {q n : Nat} {E : List (Int × Value)} (h : w.ownsMap Tryz.prog 2 MapI.elem q n (MapI.mapOf E)) (hE : E.Pairwise (fun a b => a.1 ≠ b.1)) : (E.map (·.1)).Perm (intKeys (MapI.mapOf E)) := by
 obtain ⟨es, hD, hpw, _⟩ := h.entries MapI.law
 obtain ⟨es', hD', hko⟩ := h.keysOf
 obtain rfl : es = es' := by rw [hD] at hD'; simpa using hD'
 have hh := fun x => (MapI.look hE x (.int .i64 0)).1
 rw [hD] at hh ⊢
 refine perm_intKeys hpw (fun p hp => ?_) (by rw [List.Nodup, List.pairwise_map]; exact hE) (fun x => ?_)
 ·obtain ⟨v, hv⟩ := hko p hp
  obtain ⟨x, _, hx, _⟩ := Maps.keyOf_i64 Tryz.underlying2 hv
  exact ⟨x, hx⟩
 ·have := hh x
  unfold MapI.key at this
  rw [this, decide_eq_true_eq]
theorem ids_any (q n Bm : Nat) (E : List (Int × Value)) (w : World) (hn : n ≤ 100) (hB : Bm < w.heap.size) (hm : w.cell? ⟨Bm, 0, none⟩ = some (.map (some q))) (hown : w.ownsMap Tryz.prog 2 MapI.elem q n (MapI.mapOf E)) (hp : (E.map (·.1)).Pairwise (· < ·)) :
  Calls Tryz.prog 67 #[.func (.func 110) #[] #[.pointer (some ⟨Bm, 0, none⟩)]] w fun e w' => ∃ v : Value, e = .returned v ∧
   w'.ownsRow w.heap.size 2 1 v E.length ((E.map (·.1)).map (Value.int .i64)) ∧ Below w.heap.size w w' := by
 have hE : E.Pairwise (fun a b => a.1 ≠ b.1) := (List.pairwise_map.1 hp).imp (fun h => by omega)
 have hpm := ids_perm hown hE
 refine (sorted_any q n Bm _ w hB hm hown (Nat.le_trans (size_le hown) hn)).mono fun e w' ⟨v, ss, h1, h2, h3, h4⟩ => ⟨v, h1, ?_, h4⟩
 have e1 : ss.Perm (E.map (·.1)) := h2.trans hpm.symm
 have e2 : ss.mergeSort (fun x y => decide (x ≤ y)) = E.map (·.1) := by
  refine List.Perm.eq_of_pairwise (le := fun a b : Int => a < b ∨ a = b) (fun a b _ _ h1 h2 => by omega) ?_ (hp.imp (fun h => Or.inl h)) ((List.mergeSort_perm ss _).trans e1)
  refine (List.pairwise_mergeSort (le := fun x y : Int => decide (x ≤ y)) (fun a b c h1 h2 => by simp only [decide_eq_true_eq] at *; omega) (fun a b => by simp only [Bool.or_eq_true, decide_eq_true_eq]; omega) ss).imp (fun h => ?_)
  simp only [decide_eq_true_eq] at h
  omega
 have e3 : ss.length = E.length := by rw [e1.length_eq, List.length_map]
 rw [e2, e3] at h3
 exact h3
end WKeys
end Go.Proofs.YtonffldjbmednaaGreatDoor

