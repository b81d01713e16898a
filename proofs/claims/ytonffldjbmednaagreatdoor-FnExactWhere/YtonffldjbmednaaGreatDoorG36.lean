/- Several texts of one claim in one file: WSpI13, WSpS1. -/
import Derived.Test.YtonffldjbmednaaGreatDoorG22
import Derived.Test.YtonffldjbmednaaGreatDoorWTold
import Derived.Test.YtonffldjbmednaaGreatDoorG34
import Derived.Test.YtonffldjbmednaaGreatDoorPlainAns8
import Derived.Test.YtonffldjbmednaaGreatDoorG00
import Derived.Test.YtonffldjbmednaaGreatDoorG02
import Derived.Test.YtonffldjbmednaaGreatDoorG07
import Derived.Test.YtonffldjbmednaaGreatDoorProg
import Derived.Outline
import Derived.Deep.QuietTactic
import Derived.BigQuiet
set_option linter.unusedSimpArgs false
namespace Go.Proofs.YtonffldjbmednaaGreatDoor
open Go.RowKit Go.Maps
namespace WSpI
def codes : List Int := [0, 2, 1, 7, 6, 12, 11, 13, 9]
theorem codes_call {w w' : World} (hV : ∀ (r : Nat) t, codes[r]? = some t → w.cell? ⟨0, r, none⟩ = some (.int .i64 t)) (b : Below w.heap.size w w') : ∀ (r : Nat) t, codes[r]? = some t → w'.cell? ⟨0, r, none⟩ = some (.int .i64 t) := fun r t h => (b.cell (p := ⟨0, r, none⟩) (World.block_lt_of_cell? w _ (hV r t h))).trans (hV r t h)
theorem an_mono {W : World} {S S' : Nat} {v : Value} {Ns : List Pl.Ns} {lo hi : Nat → Nat} (h : Mem.Iz W S v Ns lo hi) (hs : S' ≤ S) : Mem.Iz W S' v Ns lo hi :=
 ⟨⟨h.row.1, h.row.2.imp id (fun ⟨g, c, cur, e, hb, r⟩ => ⟨g, c, cur, e, Nat.le_trans hs hb, r⟩)⟩, fun j x hx => ⟨(h.each j x hx).1, Nat.le_trans hs (h.each j x hx).2.1, (h.each j x hx).2.2⟩, h.rise⟩
theorem _root_.Go.Proofs.YtonffldjbmednaaGreatDoor.WSpO.An.ofT {w W : World} {s u : Pl.Sp} {S1 S2 S3 : Nat} {lo hi : Nat → Nat} (h : SpO.Told w W s u S1 S2 S3 lo hi) : WSpO.An W u (min S1 W.heap.size) (min S2 W.heap.size) (min S3 W.heap.size) W.heap.size lo hi :=
 ⟨an_mono h.iz (Nat.min_le_left _ _), fun g hg => Nat.lt_min.2 ⟨h.r1 g hg, (World.ownsRow.lt h.iz.row g hg).2⟩, fun j hj => Nat.le_min.2 ⟨h.h1 j hj, (h.iz.each j _ (List.getElem?_eq_getElem hj)).2.2.2.1⟩, Mem.own3_mono h.om (Nat.min_le_left _ _), fun g hg => Nat.lt_min.2 ⟨h.r2 g hg, (Mem.zh3 h.om g hg).2⟩, Mem.own3_mono h.oh (Nat.min_le_left _ _), fun g hg => (Mem.zh3 h.oh g hg).2, by have := h.s2; omega, by have := h.s3; omega, Nat.min_le_right _ _, Nat.le_refl _⟩
theorem _root_.Go.Proofs.YtonffldjbmednaaGreatDoor.WSpO.An.far {W : World} {u : Pl.Sp} {S1 S2 S3 HH Y : Nat} {lo hi : Nat → Nat} (h : WSpO.An W u S1 S2 S3 HH lo hi) (k : Nat) (v : Value) (hY : Y < S1) : WSpO.An (W.setCell ⟨Y, k, none⟩ v) u S1 S2 S3 HH lo hi :=
 ⟨h.iz.far k v hY, h.r1, h.h1, Mem.ze h.om _ _ (fun g hg => by have := (Mem.zh3 h.om g hg).1; have := h.s2; show Y ≠ g; omega), h.r2, Mem.ze h.oh _ _ (fun g hg => by have := (Mem.zh3 h.oh g hg).1; have := h.s2; have := h.s3; show Y ≠ g; omega), h.r3, h.s2, h.s3, h.s4, by rw [World.size_setCell]; exact h.s5⟩
set_option maxRecDepth 100000 in
set_option maxHeartbeats 1000000 in
theorem code_any (i : Nat) (c : Int) (w : World) (hi : codes[i]? = some c) (hV : ∀ (r : Nat) t, codes[r]? = some t → w.cell? ⟨0, r, none⟩ = some (.int .i64 t)) :
  Calls Tryz.prog 66 #[.int .i64 (i : Int)] w fun e w' => e = .returned (.int .i64 c) ∧ Below w.heap.size w w' := by
 have h := hV i c hi
 have h9 : i < 9 := (List.getElem?_eq_some_iff.1 hi).1
 have k1 : (0 : Int) ≤ (i : Int) := by omega
 have k2 : (i : Int) < 9 := by omega
 clear hV hi
 go_enter Tryz.func66, Tryz.ntmps66
 go_wp2
 go_ret
 exact ⟨rfl, Below.refl _ _⟩
set_option maxRecDepth 100000 in
set_option maxHeartbeats 1000000 in
theorem refused_any (i : Nat) (c : Int) (w : World) (hi : codes[i]? = some c) (hV : ∀ (r : Nat) t, codes[r]? = some t → w.cell? ⟨0, r, none⟩ = some (.int .i64 t)) :
  Calls Tryz.prog 33 #[.int .i64 (i : Int)] w fun e w' => e = .returned (.agg #[.slice none 0 0, .slice none 0 0, .slice none 0 0, .int .i64 0, .int .i64 0, .string ⟨#[]⟩, .int .i64 c]) ∧ Below w.heap.size w w' := by
 have b0 := (Below.refl w.heap.size w).alloc (o := .cells #[.slice none 0 0, .slice none 0 0, .slice none 0 0, .int .i64 0, .int .i64 0, .string ⟨#[]⟩, .int .i64 0] 34) (Nat.le_refl _)
 have V0 := hide (Mem.Blk.new w #[.slice none 0 0, .slice none 0 0, .slice none 0 0, .int .i64 0, .int .i64 0, .string ⟨#[]⟩, .int .i64 0] 34)
 have HC := hide (fun W (b : Below w.heap.size w W) => code_any i c W hi (codes_call hV b))
 clear hV hi
 go_enter Tryz.func33, Tryz.ntmps33
 go_wp2_with fail
 refine (za HC _ b0).mono ?_
 rintro e w1 ⟨rfl, bX⟩
 have b1 := b0.trans (bX.mono b0.size)
 have V1 := hide ((za V0).call bX)
 clear b0 V0 bX HC
 have d0 := (za V1).cell 0
 have f0 := (za V1).fr 0
 have d1 := (za V1).cell 1
 have f1 := (za V1).fr 1
 have d2 := (za V1).cell 2
 have f2 := (za V1).fr 2
 have d3 := (za V1).cell 3
 have f3 := (za V1).fr 3
 have d4 := (za V1).cell 4
 have f4 := (za V1).fr 4
 have d5 := (za V1).cell 5
 have f5 := (za V1).fr 5
 have d6 := (za V1).cell 6
 have f6 := (za V1).fr 6
 simp only [kGs] at d0 d1 d2 d3 d4 d5 d6
 go_wp2
 refine bodyPost_ret (v := .agg #[Value.slice none 0 0, Value.slice none 0 0, Value.slice none 0 0, Value.int .i64 0, Value.int .i64 0, Value.string ⟨#[]⟩, Value.int .i64 c]) (by simp [results, Tryz.results33, go_sem, d0, d1, d2, d3, d4, d5, d6]) rfl ⟨rfl, ?_⟩
 exact (((((((b1).setCell (p := ⟨w.heap.size, 0, none⟩) (by show w.heap.size ≤ w.heap.size; omega) (Value.slice none 0 0)).setCell (p := ⟨w.heap.size, 1, none⟩) (by show w.heap.size ≤ w.heap.size; omega) (Value.slice none 0 0)).setCell (p := ⟨w.heap.size, 2, none⟩) (by show w.heap.size ≤ w.heap.size; omega) (Value.slice none 0 0)).setCell (p := ⟨w.heap.size, 3, none⟩) (by show w.heap.size ≤ w.heap.size; omega) (Value.int .i64 0)).setCell (p := ⟨w.heap.size, 4, none⟩) (by show w.heap.size ≤ w.heap.size; omega) (Value.int .i64 0)).setCell (p := ⟨w.heap.size, 5, none⟩) (by show w.heap.size ≤ w.heap.size; omega) (Value.string ⟨#[]⟩)).setCell (p := ⟨w.heap.size, 6, none⟩) (by show w.heap.size ≤ w.heap.size; omega) (Value.int .i64 c)
set_option maxRecDepth 100000 in
set_option maxHeartbeats 4000000 in
theorem where_any (s : Pl.Sp) (p : ByteArray) (w : World) (hp : p.size ≤ 1048576) (hok : za9.OkS s 1048576) (hn : OkN s) (ha : OkA s) (hv : Mem.zd3 w s)
  (hV : ∀ (r : Nat) t, codes[r]? = some t → w.cell? ⟨0, r, none⟩ = some (.int .i64 t))
  (r0 r1 r2 r3 : TypeId) (x0 x1 x2 x3 : Value) (hE : zj0.Errs4 w r0 r1 r2 r3 x0 x1 x2 x3) (A : Pl.Ao) (hA : Pl.whereA s p (Pl.zd1 s.next (s.N.map WSp.nr) s.M s.H Pl.wayB) = A) :
  Calls Tryz.prog 10 #[.agg s.cs, .string p] w fun e w' => (∃ u S1 S2 S3 HH lo hi, e = .returned (.agg (WSpO.so u A.d A.p A.c)) ∧ WSpO.An w' u S1 S2 S3 HH lo hi ∧ w.heap.size ≤ S1 ∧ Pl.Fits u A) ∧ Below w.heap.size w w' := by
 generalize hlm : Pl.leadI (Pl.uR p) s.M s.M.length = m
 have HX := hide (fun W (b : Below w.heap.size w W) => at_any s p W hp hok hn ha (hv.call b) m hlm r0 r1 r2 r3 x0 x1 x2 x3 (hE.call b))
 have HRF := hide (fun i c W (hc : codes[i]? = some c) (b : Below w.heap.size w W) => refused_any i c W hc (codes_call hV b))
 have HSM := hide (fun (h : Pl.zd1 s.next (s.N.map WSp.nr) s.M s.H Pl.wayB = true) => Pl.space_small h)
 generalize HQ : Pl.zd1 s.next (s.N.map WSp.nr) s.M s.H Pl.wayB = RB at HX HSM hA ⊢
 have hRB : Pl.whyI p RB = 0 → RB = true := fun h => by
  unfold Pl.whyI at h
  cases RB with
  | true => rfl
  | false => revert h; split <;> simp
 have HTT := hide (fun (h : Pl.whyI p RB = 0) (q : Nat) E sa ta sc tc B W (hG : SpO.SpV B W s q E sa sc ta tc) => by
  obtain ⟨k1, k2, k3, k4, k5, k6, -⟩ := za HSM (hRB h)
  exact told_any s q E sa ta sc tc B W hG k1 k2 k3 k5 (fun d hd => by have := k6 d hd; unfold MapI.i64; omega) (fun x hx => (k4 x hx).1) hok.mp hok.hp)
 have HAG : Hid (Pl.whyI p RB = 0 → A = ⟨s.N.map Pl.Ns.r, s.M, s.H, s.next, m.i, Pl.rest p m.p, 0⟩) := hide (fun h => by rw [← hA]; unfold Pl.whereA; rw [if_pos h, hlm])
 have HAB : Hid (Pl.whyI p RB ≠ 0 → ∃ (i : Nat) (c : Int), Pl.whyI p RB = (i : Int) ∧ i ≠ 0 ∧ codes[i]? = some c ∧ A = Pl.Ao.ill c) := hide (fun h => by
  rw [← hA]
  unfold Pl.whereA
  rw [if_neg h]
  have h2 : Pl.whyI p RB = 1 ∨ Pl.whyI p RB = 2 := by
   unfold Pl.whyI at h ⊢
   split
   ·exact .inl rfl
   ·rename_i h8
    rw [if_neg h8] at h
    split
    ·rename_i h9
     exact absurd (if_pos h9) h
    ·exact .inr rfl
  rcases h2 with e | e
  ·rw [e, if_pos rfl]
   exact ⟨1, 2, rfl, by decide, rfl, rfl⟩
  ·rw [e, if_neg (by decide)]
   exact ⟨2, 1, rfl, by decide, rfl, rfl⟩)
 clear hok hn ha hv hV hE hlm hA HSM HQ hp hRB
 unfold Spotted at HX
 generalize Pl.rest p m.p = RT at HX HAG ⊢
 obtain ⟨ia, ic, N, ma, mc, M, ha, hc, H, next⟩ := s
 simp only at HX HTT HAG ⊢
 unfold Pl.Sp.cs at HX ⊢
 simp only at HX HTT ⊢
 have b0 : Below w.heap.size w ((w.alloc (.cells #[.slice ia N.length ic, .slice ma M.length mc, .slice ha H.length hc, .int .i64 next] 32)).alloc (.cells #[Value.slice none 0 0, Value.slice none 0 0, Value.slice none 0 0, Value.int .i64 0, Value.int .i64 0, Value.string ⟨#[]⟩, Value.int .i64 0] 34)) := ((Below.refl _ _).alloc (Nat.le_refl _) _).alloc (by simp) _
 have V0 := hide ((Mem.Blk.new w #[.slice ia N.length ic, .slice ma M.length mc, .slice ha H.length hc, .int .i64 next] 32).alloc (.cells #[Value.slice none 0 0, Value.slice none 0 0, Value.slice none 0 0, Value.int .i64 0, Value.int .i64 0, Value.string ⟨#[]⟩, Value.int .i64 0] 34))
 have U0 := hide (Mem.Blk.new (w.alloc (.cells #[.slice ia N.length ic, .slice ma M.length mc, .slice ha H.length hc, .int .i64 next] 32)) #[Value.slice none 0 0, Value.slice none 0 0, Value.slice none 0 0, Value.int .i64 0, Value.int .i64 0, Value.string ⟨#[]⟩, Value.int .i64 0] 34)
 rw [show (w.alloc (.cells #[.slice ia N.length ic, .slice ma M.length mc, .slice ha H.length hc, .int .i64 next] 32)).heap.size = w.heap.size + 1 by simp] at U0
 have a0 := (za V0).cell 0
 have a1 := (za V0).cell 1
 have a2 := (za V0).cell 2
 have a3 := (za V0).cell 3
 simp only [kGs] at a0 a1 a2 a3
 go_enter Tryz.func10, Tryz.ntmps10
 go_wp2_with fail
 generalize (w.alloc (.cells #[.slice ia N.length ic, .slice ma M.length mc, .slice ha H.length hc, .int .i64 next] 32)).alloc (.cells #[Value.slice none 0 0, Value.slice none 0 0, Value.slice none 0 0, Value.int .i64 0, Value.int .i64 0, Value.string ⟨#[]⟩, Value.int .i64 0] 34) = wA at b0 V0 U0 a0 a1 a2 a3 ⊢
 refine (za HX _ b0).mono ?_
 rintro e w1 ⟨hS, bX⟩
 have b1 := b0.trans (bX.mono b0.size)
 have U1 := hide ((za U0).call bX)
 clear HX bX V0 a0 a1 a2 a3 b0 U0
 rcases hS with ⟨h0, q, E, sa, sc, ta, tc, rfl, HS⟩ | ⟨h0, rfl⟩
 ·skip
  have HA : Hid (A = ⟨N.map Pl.Ns.r, M, H, next, m.i, RT, 0⟩) := hide (za HAG h0)
  have HTO := hide (za HTT h0)
  clear HAG HAB HRF HTT
  have hB := b1.size
  unfold spot
  have b2 : Below w1.heap.size w1 ((w1.alloc (.cells #[Value.map (some q), Value.slice sa M.length sc, Value.slice ta H.length tc, Value.int .i64 next] 59)).alloc (.cells #[Value.string m.p, Value.int .i64 m.i, Value.bool m.z, Value.string RT] 61)) := ((Below.refl _ _).alloc (Nat.le_refl _) _).alloc (by simp) _
  have X2 := hide ((Mem.Blk.new w1 #[Value.map (some q), Value.slice sa M.length sc, Value.slice ta H.length tc, Value.int .i64 next] 59).alloc (.cells #[Value.string m.p, Value.int .i64 m.i, Value.bool m.z, Value.string RT] 61))
  have Y2 := hide (Mem.Blk.new (w1.alloc (.cells #[Value.map (some q), Value.slice sa M.length sc, Value.slice ta H.length tc, Value.int .i64 next] 59)) #[Value.string m.p, Value.int .i64 m.i, Value.bool m.z, Value.string RT] 61)
  rw [show (w1.alloc (.cells #[Value.map (some q), Value.slice sa M.length sc, Value.slice ta H.length tc, Value.int .i64 next] 59)).heap.size = w1.heap.size + 1 by simp] at Y2
  have U2 := hide ((za U1).call b2)
  have HS2 := hide (HS.call b2)
  have b3 := b1.trans (b2.mono b1.size)
  have hX : w.heap.size + 1 < w1.heap.size := (za U1).lt
  clear U1 b1 HS b2
  go_upto_region 2 with fail
  generalize (w1.alloc (.cells #[Value.map (some q), Value.slice sa M.length sc, Value.slice ta H.length tc, Value.int .i64 next] 59)).alloc (.cells #[Value.string m.p, Value.int .i64 m.i, Value.bool m.z, Value.string RT] 61) = w2 at b3 U2 X2 Y2 HS2 ⊢
  generalize w1.heap.size = X at X2 Y2 hX hB ⊢
  have BD : Below w2.heap.size w2 w2.drew := ⟨rfl, rfl, rfl, Nat.le_refl _, fun _ _ => rfl⟩
  have U := (za U2).call BD
  have XX := (za X2).call BD
  have YY := (za Y2).call BD
  have HS := (za HS2).call BD
  have bel := b3.trans (BD.mono b3.size)
  have MK : Hid (∀ W', Below w.heap.size w W' → Mem.Blk W' X #[Value.map (some q), Value.slice sa M.length sc, Value.slice ta H.length tc, Value.int .i64 next] 59 → Mem.Blk W' (X + 1) #[Value.string m.p, Value.int .i64 m.i, Value.bool m.z, Value.string RT] 61 → (Below w.heap.size w W' ∧ W'.cell? ⟨X, 0, none⟩ = some (Value.map (some q)) ∧ W'.cell? ⟨X, 1, none⟩ = some (Value.slice sa M.length sc) ∧ W'.cell? ⟨X, 2, none⟩ = some (Value.slice ta H.length tc) ∧ W'.cell? ⟨X, 3, none⟩ = some (Value.int .i64 next) ∧ W'.cell? ⟨X + 1, 0, none⟩ = some (Value.string m.p) ∧ W'.cell? ⟨X + 1, 1, none⟩ = some (Value.int .i64 m.i) ∧ W'.cell? ⟨X + 1, 2, none⟩ = some (Value.bool m.z) ∧ W'.cell? ⟨X + 1, 3, none⟩ = some (Value.string RT))) := fun W' b y z => ⟨b, y.cell 0, y.cell 1, y.cell 2, y.cell 3, z.cell 0, z.cell 1, z.cell 2, z.cell 3⟩
  clear U2 X2 Y2 HS2 BD b3 h0
  go_wp2_with fail
  refine wp_region_held_drew (S := fun W' => Below w.heap.size w W' ∧ W'.cell? ⟨X, 0, none⟩ = some (Value.map (some q)) ∧ W'.cell? ⟨X, 1, none⟩ = some (Value.slice sa M.length sc) ∧ W'.cell? ⟨X, 2, none⟩ = some (Value.slice ta H.length tc) ∧ W'.cell? ⟨X, 3, none⟩ = some (Value.int .i64 next) ∧ W'.cell? ⟨X + 1, 0, none⟩ = some (Value.string m.p) ∧ W'.cell? ⟨X + 1, 1, none⟩ = some (Value.int .i64 m.i) ∧ W'.cell? ⟨X + 1, 2, none⟩ = some (Value.bool m.z) ∧ W'.cell? ⟨X + 1, 3, none⟩ = some (Value.string RT)) (by kernel_rfl) ?_ (fun hHeld => ?_)
  ·exact za MK _ bel XX YY
  generalize w2.drew = D0 at hHeld U XX YY HS bel ⊢
  refine tka (i := 0) rfl ?_
  try simp only [Act.put, kBs]
  refine tka (i := 2) rfl ?_
  try simp only [Act.put, kBs]
  refine tka (i := 3) rfl ?_
  try simp only [Act.put, kBs]
  refine tka (i := 4) rfl ?_
  try simp only [Act.put, kBs]
  refine tka (i := 5) rfl ?_
  try simp only [Act.put, kBs]
  refine tka (i := 6) rfl ?_
  try simp only [Act.put, kBs]
  refine wpAnyH_ready (rs := [1]) (by kernel_rfl) (by simp) ?_
  refine AllReadyH.cons rfl (fun K hK => ?_) AllReadyH.nil
  go_simp
  refine (za HTO _ _ _ _ _ _ _ _ HS).mono ?_
  rintro e wX ⟨⟨u, T1, T2, T3, lo, hi, rfl, HTD⟩, bX⟩
  have HFT := hide (⟨HTD.n, HTD.m, HTD.h, HTD.x⟩ : _ ∧ _ ∧ _ ∧ _)
  have hDX := XX.lt
  have hS1 : w.heap.size + 1 < min T1 wX.heap.size := by have := HTD.s1; have := bX.size; omega
  have HAN := WSpO.An.ofT HTD
  clear HTD
  replace U := U.call bX
  replace XX := XX.call bX
  replace YY := YY.call bX
  replace bel := bel.trans (bX.mono bel.size)
  clear bX HS HTO
  generalize min T1 wX.heap.size = S1 at HAN hS1
  generalize min T2 wX.heap.size = S2 at HAN
  generalize min T3 wX.heap.size = S3 at HAN
  generalize hHH : wX.heap.size = HH at HAN
  clear hHH
  obtain ⟨ui, uc, uN, um, umc, uM, uh, uhc, uH, ux⟩ := u
  unfold Pl.Sp.cs
  simp only at HAN HFT ⊢
  refine hK.out _ _ ?_ (fun hHeld => ?_)
  ·exact za MK _ bel XX YY
  clear hK K
  try simp only [Act.put, kBs]
  refine tka (i := 7) rfl ?_
  try simp only [Act.put, kBs]
  refine wpAnyH_ready (rs := [8]) (by kernel_rfl) (by simp) ?_
  refine AllReadyH.cons rfl (fun K hK => ?_) AllReadyH.nil
  have d0 := (U).cell 0
  have f0 := (U).fr 0
  have d1 := (U).cell 1
  have f1 := (U).fr 1
  have d2 := (U).cell 2
  have f2 := (U).fr 2
  have d3 := (U).cell 3
  have f3 := (U).fr 3
  have d4 := (U).cell 4
  have f4 := (U).fr 4
  have d5 := (U).cell 5
  have f5 := (U).fr 5
  have d6 := (U).cell 6
  have f6 := (U).fr 6
  simp only [kGs] at d0 d1 d2 d3 d4 d5 d6
  go_simp
  clear d0 d1 d2 d3 d4 d5 d6 f0 f1 f2 f3 f4 f5 f6
  replace U := (((((((U).put 0 (Value.slice ui uN.length uc)).put 1 (Value.slice um uM.length umc)).put 2 (Value.slice uh uH.length uhc)).put 3 (Value.int .i64 ux)).put 4 (Value.int .i64 m.i)).put 5 (Value.string RT)).put 6 (Value.int .i64 0)
  replace XX := (((((((XX).far ⟨w.heap.size + 1, 0, none⟩ (Value.slice ui uN.length uc) (by show X ≠ w.heap.size + 1; omega)).far ⟨w.heap.size + 1, 1, none⟩ (Value.slice um uM.length umc) (by show X ≠ w.heap.size + 1; omega)).far ⟨w.heap.size + 1, 2, none⟩ (Value.slice uh uH.length uhc) (by show X ≠ w.heap.size + 1; omega)).far ⟨w.heap.size + 1, 3, none⟩ (Value.int .i64 ux) (by show X ≠ w.heap.size + 1; omega)).far ⟨w.heap.size + 1, 4, none⟩ (Value.int .i64 m.i) (by show X ≠ w.heap.size + 1; omega)).far ⟨w.heap.size + 1, 5, none⟩ (Value.string RT) (by show X ≠ w.heap.size + 1; omega)).far ⟨w.heap.size + 1, 6, none⟩ (Value.int .i64 0) (by show X ≠ w.heap.size + 1; omega)
  replace YY := (((((((YY).far ⟨w.heap.size + 1, 0, none⟩ (Value.slice ui uN.length uc) (by show X + 1 ≠ w.heap.size + 1; omega)).far ⟨w.heap.size + 1, 1, none⟩ (Value.slice um uM.length umc) (by show X + 1 ≠ w.heap.size + 1; omega)).far ⟨w.heap.size + 1, 2, none⟩ (Value.slice uh uH.length uhc) (by show X + 1 ≠ w.heap.size + 1; omega)).far ⟨w.heap.size + 1, 3, none⟩ (Value.int .i64 ux) (by show X + 1 ≠ w.heap.size + 1; omega)).far ⟨w.heap.size + 1, 4, none⟩ (Value.int .i64 m.i) (by show X + 1 ≠ w.heap.size + 1; omega)).far ⟨w.heap.size + 1, 5, none⟩ (Value.string RT) (by show X + 1 ≠ w.heap.size + 1; omega)).far ⟨w.heap.size + 1, 6, none⟩ (Value.int .i64 0) (by show X + 1 ≠ w.heap.size + 1; omega)
  replace HAN := (((((((HAN).far (Y := w.heap.size + 1) 0 (Value.slice ui uN.length uc) (by omega)).far (Y := w.heap.size + 1) 1 (Value.slice um uM.length umc) (by omega)).far (Y := w.heap.size + 1) 2 (Value.slice uh uH.length uhc) (by omega)).far (Y := w.heap.size + 1) 3 (Value.int .i64 ux) (by omega)).far (Y := w.heap.size + 1) 4 (Value.int .i64 m.i) (by omega)).far (Y := w.heap.size + 1) 5 (Value.string RT) (by omega)).far (Y := w.heap.size + 1) 6 (Value.int .i64 0) (by omega)
  replace bel := (((((((bel).setCell (p := ⟨w.heap.size + 1, 0, none⟩) (by show w.heap.size ≤ w.heap.size + 1; omega) (Value.slice ui uN.length uc)).setCell (p := ⟨w.heap.size + 1, 1, none⟩) (by show w.heap.size ≤ w.heap.size + 1; omega) (Value.slice um uM.length umc)).setCell (p := ⟨w.heap.size + 1, 2, none⟩) (by show w.heap.size ≤ w.heap.size + 1; omega) (Value.slice uh uH.length uhc)).setCell (p := ⟨w.heap.size + 1, 3, none⟩) (by show w.heap.size ≤ w.heap.size + 1; omega) (Value.int .i64 ux)).setCell (p := ⟨w.heap.size + 1, 4, none⟩) (by show w.heap.size ≤ w.heap.size + 1; omega) (Value.int .i64 m.i)).setCell (p := ⟨w.heap.size + 1, 5, none⟩) (by show w.heap.size ≤ w.heap.size + 1; omega) (Value.string RT)).setCell (p := ⟨w.heap.size + 1, 6, none⟩) (by show w.heap.size ≤ w.heap.size + 1; omega) (Value.int .i64 0)
  refine hK.out _ _ ?_ (fun hHeld => ?_)
  ·exact za MK _ bel XX YY
  clear hK K
  try simp only [Act.put, kBs]
  refine wpAnyH_done (by kernel_rfl) ?_ _
  have d0 := U.cell 0
  have d1 := U.cell 1
  have d2 := U.cell 2
  have d3 := U.cell 3
  have d4 := U.cell 4
  have d5 := U.cell 5
  have d6 := U.cell 6
  simp only [kB3, kB4, kB5, kGs] at d0 d1 d2 d3 d4 d5 d6
  go_wp2
  refine bodyPost_ret (v := .agg #[Value.slice ui uN.length uc, Value.slice um uM.length umc, Value.slice uh uH.length uhc, Value.int .i64 ux, Value.int .i64 m.i, Value.string RT, Value.int .i64 0]) (by simp [results, Tryz.results10, go_sem, d0, d1, d2, d3, d4, d5, d6]) rfl ⟨⟨_, S1, S2, S3, HH, lo, hi, by rw [za HA]; rfl, HAN, by omega, by rw [za HA]; exact ⟨(za HFT).1, (za HFT).2.1, (za HFT).2.2.1, (za HFT).2.2.2⟩⟩, bel⟩
 ·skip
  obtain ⟨i, c, hi, hi0, hc, hA⟩ := za HAB h0
  have HA := hide hA
  have HC := hide (fun W b => za HRF i c W hc b)
  clear HAG HAB HRF HTT hc hA h0
  rw [hi]
  have z1 : ¬ ((i : Int) = 0) := by omega
  have z2 : ((i : Int) == 0) = false := by simpa using z1
  have z3 : decide ((i : Int) = 0) = false := by simpa using z1
  have b2 : Below w1.heap.size w1 ((w1.alloc (.cells #[.map none, .slice none 0 0, .slice none 0 0, .int .i64 0] 59)).alloc (.cells #[.string ⟨#[]⟩, .int .i64 0, .bool false, .string ⟨#[]⟩] 61)) := ((Below.refl _ _).alloc (Nat.le_refl _) _).alloc (by simp) _
  have U2 := hide ((za U1).call b2)
  have b3 := b1.trans (b2.mono b1.size)
  clear U1 b1 b2 hi
  go_wp2_with fail
  generalize (w1.alloc (.cells #[.map none, .slice none 0 0, .slice none 0 0, .int .i64 0] 59)).alloc (.cells #[.string ⟨#[]⟩, .int .i64 0, .bool false, .string ⟨#[]⟩] 61) = w2 at b3 U2 ⊢
  refine (za HC _ b3).mono ?_
  rintro e w3 ⟨rfl, bX⟩
  have b4 := b3.trans (bX.mono b3.size)
  have U3 := hide ((za U2).call bX)
  clear b3 U2 bX HC
  have d0 := (za U3).cell 0
  have f0 := (za U3).fr 0
  have d1 := (za U3).cell 1
  have f1 := (za U3).fr 1
  have d2 := (za U3).cell 2
  have f2 := (za U3).fr 2
  have d3 := (za U3).cell 3
  have f3 := (za U3).fr 3
  have d4 := (za U3).cell 4
  have f4 := (za U3).fr 4
  have d5 := (za U3).cell 5
  have f5 := (za U3).fr 5
  have d6 := (za U3).cell 6
  have f6 := (za U3).fr 6
  simp only [kGs] at d0 d1 d2 d3 d4 d5 d6
  go_wp2
  refine bodyPost_ret (v := .agg #[Value.slice none 0 0, Value.slice none 0 0, Value.slice none 0 0, Value.int .i64 0, Value.int .i64 0, Value.string ⟨#[]⟩, Value.int .i64 c]) (by simp [results, Tryz.results10, go_sem, d0, d1, d2, d3, d4, d5, d6]) rfl ⟨⟨⟨none, 0, [], none, 0, [], none, 0, [], 0⟩, _, _, _, _, _, _, by rw [za HA]; rfl, WSpO.An.nil _ w.heap.size ?_, Nat.le_refl _, by rw [za HA]; exact Pl.Fits.nil c⟩, ?_⟩
  ·exact ((((((((b4).setCell (p := ⟨w.heap.size + 1, 0, none⟩) (by show w.heap.size ≤ w.heap.size + 1; omega) (Value.slice none 0 0)).setCell (p := ⟨w.heap.size + 1, 1, none⟩) (by show w.heap.size ≤ w.heap.size + 1; omega) (Value.slice none 0 0)).setCell (p := ⟨w.heap.size + 1, 2, none⟩) (by show w.heap.size ≤ w.heap.size + 1; omega) (Value.slice none 0 0)).setCell (p := ⟨w.heap.size + 1, 3, none⟩) (by show w.heap.size ≤ w.heap.size + 1; omega) (Value.int .i64 0)).setCell (p := ⟨w.heap.size + 1, 4, none⟩) (by show w.heap.size ≤ w.heap.size + 1; omega) (Value.int .i64 0)).setCell (p := ⟨w.heap.size + 1, 5, none⟩) (by show w.heap.size ≤ w.heap.size + 1; omega) (Value.string ⟨#[]⟩)).setCell (p := ⟨w.heap.size + 1, 6, none⟩) (by show w.heap.size ≤ w.heap.size + 1; omega) (Value.int .i64 c)).size
  ·exact (((((((b4).setCell (p := ⟨w.heap.size + 1, 0, none⟩) (by show w.heap.size ≤ w.heap.size + 1; omega) (Value.slice none 0 0)).setCell (p := ⟨w.heap.size + 1, 1, none⟩) (by show w.heap.size ≤ w.heap.size + 1; omega) (Value.slice none 0 0)).setCell (p := ⟨w.heap.size + 1, 2, none⟩) (by show w.heap.size ≤ w.heap.size + 1; omega) (Value.slice none 0 0)).setCell (p := ⟨w.heap.size + 1, 3, none⟩) (by show w.heap.size ≤ w.heap.size + 1; omega) (Value.int .i64 0)).setCell (p := ⟨w.heap.size + 1, 4, none⟩) (by show w.heap.size ≤ w.heap.size + 1; omega) (Value.int .i64 0)).setCell (p := ⟨w.heap.size + 1, 5, none⟩) (by show w.heap.size ≤ w.heap.size + 1; omega) (Value.string ⟨#[]⟩)).setCell (p := ⟨w.heap.size + 1, 6, none⟩) (by show w.heap.size ≤ w.heap.size + 1; omega) (Value.int .i64 c)
end WSpI
end Go.Proofs.YtonffldjbmednaaGreatDoor

set_option linter.unusedSimpArgs false
namespace Go.Proofs.YtonffldjbmednaaGreatDoor
open Go.RowKit
namespace WSp
set_option maxRecDepth 100000 in
set_option maxHeartbeats 800000 in
theorem inst_any (s : Pl.Sp) (d : Int) (w : World) (hl : s.N.length ≤ 1048576) (hv : Mem.zh4 w s.ia s.N) :
  Calls Tryz.prog 119 #[.agg s.cs, .int .i64 d] w fun e w' => e = .returned (.int .i64 (Pl.zb9 (s.N.map (·.d)) d)) ∧ Below w.heap.size w w' := by
 obtain ⟨ia, ic, N, ma, mc, M, ha, hc, H, next⟩ := s
 simp only at *
 unfold Pl.Sp.cs
 have b0 := (Below.refl w.heap.size w).alloc (o := .cells #[.slice ia N.length ic, .slice ma M.length mc, .slice ha H.length hc, .int .i64 next] 32) (Nat.le_refl _)
 have V0 := hide (Mem.Blk.new w #[.slice ia N.length ic, .slice ma M.length mc, .slice ha H.length hc, .int .i64 next] 32)
 have HI := hide hv
 have HAT := hide (fun k h hn => Pl.instI_at (l := N.map (·.d)) (d := d) (k := k) h hn)
 have HNO := hide (Pl.instI_no (l := N.map (·.d)) (d := d))
 generalize Pl.zb9 (N.map (·.d)) d = R at HAT HNO ⊢
 clear hv
 go_enter Tryz.func119, Tryz.ntmps119
 go_wp2
 go_loopw [5] (fun i wr => ∃ k : Nat, k ≤ N.length ∧ i = .int .i64 (k : Int) ∧ Below w.heap.size w wr ∧ Hid (Mem.Blk wr w.heap.size #[.slice ia N.length ic, .slice ma M.length mc, .slice ha H.length hc, .int .i64 next] 32) ∧ Hid (∀ j, j < k → (N.map (·.d))[j]? ≠ some d)) (fun i _ => N.length - (intOf i).toNat)
 case atStart => exact ⟨0, Nat.zero_le _, rfl, b0, V0, fun j h => absurd h (by omega)⟩
 case round =>
  obtain ⟨k, hk, rfl, hbel, V, HA⟩ := hrel
  clear V0 b0
  have a0 := (za V).cell 0
  simp only [kGs] at a0
  by_cases hlt : k < N.length
  ·obtain ⟨t, ht⟩ : ∃ n, N[k]? = some n := ⟨_, List.getElem?_eq_getElem hlt⟩
   obtain ⟨⟨g, o, rfl, hg, q0, -⟩, -⟩ := (za HI) k t ht
   have c0 := (hbel.cell (p := ⟨g, _, none⟩) hg).trans q0
   have hm : (N.map (·.d))[k]? = some t.d := by rw [List.getElem?_map, ht]; rfl
   have u1 : (k : Int) < (N.length : Int) := by omega
   have u3 : (0 : Int) ≤ (k : Int) := by omega
   clear q0 ht
   by_cases hd : t.d = d
   ·have hd1 : (t.d == d) = true := by simpa using hd
    have HR : Hid (R = (k : Int)) := hide (za HAT k (by rw [hm, hd]) (za HA))
    clear hm hd HAT HNO HA
    go_wp2
    go_ret
    exact ⟨by rw [za HR]; rfl, hbel⟩
   ·have hd1 : (t.d == d) = false := by simpa using hd
    have HA2 : Hid (∀ j, j < k + 1 → (N.map (·.d))[j]? ≠ some d) := fun j hj => by
     rcases Nat.lt_succ_iff_lt_or_eq.1 hj with h | rfl
     ·exact za HA j h
     ·rw [hm]; exact fun e => hd (Option.some.inj e)
    clear hm
    go_wp2
    go_roundw
    case rel => exact ⟨k + 1, by omega, by go_num, hbel, V, HA2⟩
    case measure => simp [intOf]; omega
  ·have u1 : ¬ (k : Int) < (N.length : Int) := by omega
   have HR : Hid (R = -1) := hide (za HNO (fun j => by
    by_cases h : j < k
    ·exact za HA j h
    ·rw [List.getElem?_eq_none (by rw [List.length_map]; omega)]; exact fun e => by cases e))
   clear HAT HNO HA
   go_wp2
   go_ret
   exact ⟨by rw [za HR]; rfl, hbel⟩
set_option maxRecDepth 100000 in
set_option maxHeartbeats 2000000 in
theorem ze9 (s : Pl.Sp) (d : Int) (w : World) (hml : s.M.length ≤ 1048576) (hhl : s.H.length ≤ 1048576) (hm : Mem.zb4 w s.ma s.M) (hh : Mem.zc4 w s.ha s.H) :
  Calls Tryz.prog 43 #[.agg s.cs, .int .i64 d] w fun e w' => e = .returned (.int .i64 (Pl.held s.M s.H d)) ∧ Below w.heap.size w w' := by
 obtain ⟨ia, ic, N, ma, mc, M, ha, hc, H, next⟩ := s
 simp only at *
 unfold Pl.Sp.cs Pl.held
 have b0 := (Below.refl w.heap.size w).alloc (o := .cells #[.slice ia N.length ic, .slice ma M.length mc, .slice ha H.length hc, .int .i64 next] 32) (Nat.le_refl _)
 have V0 := hide (Mem.Blk.new w #[.slice ia N.length ic, .slice ma M.length mc, .slice ha H.length hc, .int .i64 next] 32)
 have HM := hide hm
 have HH := hide hh
 clear hm hh
 go_enter Tryz.func43, Tryz.ntmps43
 go_wp2
 go_loopw [5, 6] (fun n i wr => ∃ k : Nat, k ≤ M.length ∧ i = .int .i64 (k : Int) ∧ n = .int .i64 (0 + (Pl.cntM (M.take k) d : Int)) ∧ Below w.heap.size w wr ∧ Hid (Mem.Blk wr w.heap.size #[.slice ia N.length ic, .slice ma M.length mc, .slice ha H.length hc, .int .i64 next] 32)) (fun _ i _ => M.length - (intOf i).toNat)
 case atStart => exact ⟨0, Nat.zero_le _, rfl, by simp [Pl.cntM], b0, V0⟩
 case round =>
  obtain ⟨k, hk, rfl, rfl, hbel, V⟩ := hrel
  clear V0 b0
  have a1 := (za V).cell 1
  simp only [kGs] at a1
  have hle := Pl.cntM_le (M.take k) d
  have hle2 : (M.take k).length ≤ M.length := by rw [List.length_take]; omega
  by_cases hlt : k < M.length
  ·obtain ⟨t, ht⟩ : ∃ n, M[k]? = some n := ⟨_, List.getElem?_eq_getElem hlt⟩
   obtain ⟨g, o, rfl, hg, q0, q1, q2⟩ := (za HM) k t ht
   have c1 := (hbel.cell (p := ⟨g, _, none⟩) hg).trans q1
   have HS := hide (Pl.cntM_step ht d)
   have u1 : (k : Int) < (M.length : Int) := by omega
   have u3 : (0 : Int) ≤ (k : Int) := by omega
   clear q0 q1 q2 ht
   generalize hC : Pl.cntM (M.take k) d = C at HS hle ⊢
   by_cases hd : t.i = d
   ·have hd1 : (t.i == d) = true := by simpa using hd
    have HS2 : Hid (Pl.cntM (M.take (k + 1)) d = C + 1) := hide (by rw [za HS, if_pos hd])
    clear hC HS hd
    go_wp2
    go_roundw
    case rel => exact ⟨k + 1, by omega, by go_num, by rw [za HS2]; go_num, hbel, V⟩
    case measure => simp [intOf]; omega
   ·have hd1 : (t.i == d) = false := by simpa using hd
    have HS2 : Hid (Pl.cntM (M.take (k + 1)) d = C) := hide (by rw [za HS, if_neg hd]; rfl)
    clear hC HS
    go_wp2
    go_roundw
    case rel => exact ⟨k + 1, by omega, by go_num, by rw [za HS2], hbel, V⟩
    case measure => simp [intOf]; omega
  ·have u1 : ¬ (k : Int) < (M.length : Int) := by omega
   have hke : k = M.length := by omega
   subst hke
   rw [List.take_length, Int.zero_add]
   clear hle hle2 hlt hk
   have hML := Pl.cntM_le M d
   go_wp2
   go_loopw [5, 7] (fun n i wr => ∃ k : Nat, k ≤ H.length ∧ i = .int .i64 (k : Int) ∧ n = .int .i64 ((Pl.cntM M d : Int) + (Pl.cntH (H.take k) d : Int)) ∧ Below w.heap.size w wr ∧ Hid (Mem.Blk wr w.heap.size #[.slice ia N.length ic, .slice ma M.length mc, .slice ha H.length hc, .int .i64 next] 32)) (fun _ i _ => H.length - (intOf i).toNat)
   case atStart => exact ⟨0, Nat.zero_le _, rfl, by simp [Pl.cntH], hbel, V⟩
   case round =>
    obtain ⟨k, hk, rfl, rfl, hbel, V⟩ := hrel
    have a1 := (za V).cell 2
    simp only [kGs] at a1
    have hle := Pl.cntH_le (H.take k) d
    have hle2 : (H.take k).length ≤ H.length := by rw [List.length_take]; omega
    by_cases hlt : k < H.length
    ·obtain ⟨t, ht⟩ : ∃ n, H[k]? = some n := ⟨_, List.getElem?_eq_getElem hlt⟩
     obtain ⟨g, o, rfl, hg, q0, q1, q2⟩ := (za HH) k t ht
     have c1 := (hbel.cell (p := ⟨g, _, none⟩) hg).trans q1
     have HS := hide (Pl.cntH_step ht d)
     have u1 : (k : Int) < (H.length : Int) := by omega
     have u3 : (0 : Int) ≤ (k : Int) := by omega
     clear q0 q1 q2 ht
     generalize hC : Pl.cntH (H.take k) d = C at HS hle ⊢
     by_cases hd : t.i = d
     ·have hd1 : (t.i == d) = true := by simpa using hd
      have HS2 : Hid (Pl.cntH (H.take (k + 1)) d = C + 1) := hide (by rw [za HS, if_pos hd])
      clear hC HS hd
      go_wp2
      go_roundw
      case rel => exact ⟨k + 1, by omega, by go_num, by rw [za HS2]; go_num, hbel, V⟩
      case measure => simp [intOf]; omega
     ·have hd1 : (t.i == d) = false := by simpa using hd
      have HS2 : Hid (Pl.cntH (H.take (k + 1)) d = C) := hide (by rw [za HS, if_neg hd]; rfl)
      clear hC HS
      go_wp2
      go_roundw
      case rel => exact ⟨k + 1, by omega, by go_num, by rw [za HS2], hbel, V⟩
      case measure => simp [intOf]; omega
    ·have u1 : ¬ (k : Int) < (H.length : Int) := by omega
     have hke : k = H.length := by omega
     subst hke
     rw [List.take_length]
     go_wp2
     go_ret
     exact ⟨rfl, hbel⟩
end WSp
end Go.Proofs.YtonffldjbmednaaGreatDoor

