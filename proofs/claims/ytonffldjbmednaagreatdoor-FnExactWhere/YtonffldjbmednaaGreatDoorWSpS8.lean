import Derived.Test.YtonffldjbmednaaGreatDoorG02
import Derived.Test.YtonffldjbmednaaGreatDoorG20
import Derived.Test.YtonffldjbmednaaGreatDoorG43
namespace Go.Proofs.YtonffldjbmednaaGreatDoor
open Go.RowKit
namespace WSp
set_option linter.unusedSimpArgs false in
set_option maxRecDepth 100000 in
set_option maxHeartbeats 4000000 in
theorem where_any (s : Pl.Sp) (p : ByteArray) (w : World) (hp : p.size ≤ 1048576) (hm : ∀ m ∈ s.M, m.p.size ≤ 1048576) (hM : s.M.length ≤ 1000) (hv : Mem.zd3 w s) (m : Pl.Mn) (hlm : Pl.leadS (Pl.uR p) s.M s.M.length = m) (hu : Pl.under p m.p = true) :
  Calls Tryz.prog 27 #[.agg s.cs, .string p] w fun e w' => e = .returned (.tuple #[.agg #[.string m.p, .int .i64 m.i, .bool m.z], .string (Pl.rest p m.p)]) ∧ Below w.heap.size w w' := by
 have HUN := hide (fun W (t : Pl.Mn) (ht : t ∈ s.M) => (zg3.under1_any p t.p W (hm t ht)).mono (R' := fun e w' => e = .returned (.bool (Pl.uR p t)) ∧ Below W.heap.size W w') (fun e w' h => ⟨h.1, h.2 ▸ Below.refl _ _⟩))
 have HRS := hide (fun W => (zg3.rest1_any p m.p W hp hu).mono (R' := fun e w' => e = .returned (.string (Pl.rest p m.p)) ∧ Below W.heap.size W w') (fun e w' h => ⟨h.1, h.2 ▸ Below.refl _ _⟩))
 have HV := hide hv.zh9
 have HLM := hide hlm
 clear hv hu hp hlm
 generalize Pl.rest p m.p = RT at HRS ⊢
 obtain ⟨mp, mi, mz⟩ := m
 simp only at HRS ⊢
 obtain ⟨ia, ic, N, ma, mc, M, ha, hc, H, next⟩ := s
 unfold Pl.Sp.cs
 simp only at HUN HV HLM hM hm ⊢
 have HP := hide hm
 clear hm
 have b0 : Below w.heap.size w (((w.alloc (.cells #[.slice ia N.length ic, .slice ma M.length mc, .slice ha H.length hc, .int .i64 next] 32)).alloc (.cells #[.string ⟨#[]⟩, .int .i64 0, .bool false] 50)).alloc (.cells #[.string ⟨#[]⟩, .int .i64 0, .bool false] 50)) := (((Below.refl _ _).alloc (Nat.le_refl _) _).alloc (by simp) _).alloc (by simp; omega) _
 have V0 := hide (((Mem.Blk.new w #[.slice ia N.length ic, .slice ma M.length mc, .slice ha H.length hc, .int .i64 next] 32).alloc (.cells #[.string ⟨#[]⟩, .int .i64 0, .bool false] 50)).alloc (.cells #[.string ⟨#[]⟩, .int .i64 0, .bool false] 50))
 have U0 := hide ((Mem.Blk.new (w.alloc (.cells #[.slice ia N.length ic, .slice ma M.length mc, .slice ha H.length hc, .int .i64 next] 32)) #[.string ⟨#[]⟩, .int .i64 0, .bool false] 50).alloc (.cells #[.string ⟨#[]⟩, .int .i64 0, .bool false] 50))
 have Y0 := hide (Mem.Blk.new ((w.alloc (.cells #[.slice ia N.length ic, .slice ma M.length mc, .slice ha H.length hc, .int .i64 next] 32)).alloc (.cells #[.string ⟨#[]⟩, .int .i64 0, .bool false] 50)) #[.string ⟨#[]⟩, .int .i64 0, .bool false] 50)
 have n1 : (w.alloc (.cells #[.slice ia N.length ic, .slice ma M.length mc, .slice ha H.length hc, .int .i64 next] 32)).heap.size = w.heap.size + 1 := by simp
 have n2 : ((w.alloc (.cells #[.slice ia N.length ic, .slice ma M.length mc, .slice ha H.length hc, .int .i64 next] 32)).alloc (.cells #[.string ⟨#[]⟩, .int .i64 0, .bool false] 50)).heap.size = w.heap.size + 2 := by simp
 rw [n1] at U0
 rw [n2] at Y0
 clear n1 n2
 go_enter Tryz.func27, Tryz.ntmps27
 go_wp2
 go_loopw [7] (fun i wr => ∃ k : Nat, k ≤ M.length ∧ i = .int .i64 (k : Int) ∧ Below w.heap.size w wr ∧ Hid (Mem.Blk wr w.heap.size #[.slice ia N.length ic, .slice ma M.length mc, .slice ha H.length hc, .int .i64 next] 32) ∧ Hid (Mem.Blk wr (w.heap.size + 1) #[.string ⟨#[]⟩, .int .i64 0, .bool false] 50) ∧ Hid (Mem.Blk wr (w.heap.size + 2) #[.string (Pl.leadS (Pl.uR p) M k).p, .int .i64 (Pl.leadS (Pl.uR p) M k).i, .bool (Pl.leadS (Pl.uR p) M k).z] 50)) (fun i _ => M.length - (intOf i).toNat)
 case atStart =>
  exact ⟨0, Nat.zero_le _, rfl, b0, V0, U0, Y0⟩
 case round =>
  obtain ⟨k, hk, rfl, hbel, V2, U2, Y2⟩ := hrel
  clear b0 V0 U0 Y0
  have a1 := (za V2).cell 1
  simp only [kGs] at a1
  by_cases hlt : k < M.length
  ·obtain ⟨t, ht⟩ : ∃ n, M[k]? = some n := ⟨_, List.getElem?_eq_getElem hlt⟩
   obtain ⟨g, o, rfl, hg, q0, q1, q2⟩ := (za HV) k t ht
   have c0 := (hbel.cell (p := ⟨g, _, none⟩) hg).trans q0
   have c1 := (hbel.cell (p := ⟨g, _, none⟩) hg).trans q1
   have c2 := (hbel.cell (p := ⟨g, _, none⟩) hg).trans q2
   have HGL : Hid (g < wr.heap.size) := hide (Nat.lt_of_lt_of_le hg hbel.size)
   have u1 : (k : Int) < (M.length : Int) := by omega
   have u3 : (0 : Int) ≤ (k : Int) := by omega
   have HC := hide (fun W => za HUN W t (List.mem_of_getElem? ht))
   have L1 := hide (fun h => Pl.leadS_no (u := Pl.uR p) ht h)
   have L2 := hide (fun h h2 => Pl.leadS_yes (u := Pl.uR p) ht h h2)
   have L3 := hide (fun h h2 => Pl.leadS_short (u := Pl.uR p) ht h h2)
   generalize hq : Pl.leadS (Pl.uR p) M k = q at Y2 L1 L2 L3
   generalize hL : Pl.leadS (Pl.uR p) M (k + 1) = q' at L1 L2 L3
   have HL2 := hide hL
   generalize Pl.uR p t = b at HC L1 L2 L3
   have y0 := (za Y2).cell 0
   have y1 := (za Y2).cell 1
   have y2 := (za Y2).cell 2
   simp only [kGs] at y0 y1 y2
   clear q0 q1 q2 hg ht hq hL
   cases b
   ·have HL : q' = q := za L1 rfl
    have HL : Pl.leadS (Pl.uR p) M (k + 1) = q := (za HL2).trans HL
    clear L1 L2 L3 HL2
    have MK : Hid (∀ W', Below wr.heap.size wr W' → (Below wr.heap.size wr W' ∧ W'.cell? ⟨w.heap.size, 1, none⟩ = some (.slice (some ⟨g, o, none⟩) M.length mc) ∧ W'.cell? ⟨w.heap.size + 2, 0, none⟩ = some (.string q.p) ∧ W'.cell? ⟨w.heap.size + 2, 1, none⟩ = some (.int .i64 q.i) ∧ W'.cell? ⟨w.heap.size + 2, 2, none⟩ = some (.bool q.z) ∧ W'.cell? ⟨g, o + k * 3, none⟩ = some (.string t.p))) := fun W' hb => ⟨hb, ((za V2).call hb).cell 1, ((za Y2).call hb).cell 0, ((za Y2).call hb).cell 1, ((za Y2).call hb).cell 2, (hb.cell (p := ⟨_, _, none⟩) (za HGL)).trans c0⟩
    go_wp2_with fail
    refine wp_region_held_drew (S := fun W' => Below wr.heap.size wr W' ∧ W'.cell? ⟨w.heap.size, 1, none⟩ = some (.slice (some ⟨g, o, none⟩) M.length mc) ∧ W'.cell? ⟨w.heap.size + 2, 0, none⟩ = some (.string q.p) ∧ W'.cell? ⟨w.heap.size + 2, 1, none⟩ = some (.int .i64 q.i) ∧ W'.cell? ⟨w.heap.size + 2, 2, none⟩ = some (.bool q.z) ∧ W'.cell? ⟨g, o + k * 3, none⟩ = some (.string t.p)) (by kernel_rfl) ?_ (fun hHeld => ?_)
    ·exact za MK _ ((Below.refl _ _).trans ⟨rfl, rfl, rfl, Nat.le_refl _, fun _ _ => rfl⟩)
    refine tka (i := 0) rfl ?_
    try simp only [Act.put, kBs]
    refine tka (i := 1) rfl ?_
    try simp only [Act.put, kBs]
    refine tka (i := 2) rfl ?_
    try simp only [Act.put, kBs]
    refine tka (i := 3) rfl ?_
    try simp only [Act.put, kBs]
    refine tka (i := 4) rfl ?_
    try simp only [Act.put, kBs]
    refine tka (i := 5) rfl ?_
    try simp only [Act.put, kBs]
    refine tka (i := 6) rfl ?_
    try simp only [Act.put, kBs]
    refine wpAnyH_ready (rs := [7]) (by kernel_rfl) (by simp) ?_
    refine AllReadyH.cons rfl (fun K hK => ?_) AllReadyH.nil
    go_simp
    refine (za HC _).mono ?_
    rintro e wX ⟨rfl, bX⟩
    refine hK.out _ _ ?_ (fun hHeld => ?_)
    ·exact za MK _ (hHeld.1.trans (bX.mono hHeld.1.size))
    clear hK K
    try simp only [Act.put, kBs]
    refine tka (i := 8) rfl ?_
    try simp only [Act.put, kBs]
    refine tkc (i := 9) rfl ?_
    try simp only [Act.put, kBs]
    refine tkc (i := 10) rfl ?_
    try simp only [Act.put, kBs]
    refine tkc (i := 11) rfl ?_
    try simp only [Act.put, kBs]
    refine tkc (i := 12) rfl ?_
    try simp only [Act.put, kBs]
    refine tkc (i := 13) rfl ?_
    try simp only [Act.put, kBs]
    refine tkc (i := 14) rfl ?_
    try simp only [Act.put, kBs]
    refine tkc (i := 15) rfl ?_
    try simp only [Act.put, kBs]
    refine tkc (i := 16) rfl ?_
    try simp only [Act.put, kBs]
    refine tkc (i := 17) rfl ?_
    try simp only [Act.put, kBs]
    refine tkc (i := 18) rfl ?_
    try simp only [Act.put, kBs]
    refine tkc (i := 19) rfl ?_
    try simp only [Act.put, kBs]
    refine tkc (i := 20) rfl ?_
    try simp only [Act.put, kBs]
    refine tkc (i := 21) rfl ?_
    try simp only [Act.put, kBs]
    refine tkc (i := 22) rfl ?_
    try simp only [Act.put, kBs]
    refine tkc (i := 23) rfl ?_
    try simp only [Act.put, kBs]
    refine tka (i := 24) rfl ?_
    try simp only [Act.put, kBs]
    refine wpAnyH_done (by kernel_rfl) ?_ _
    have bb := hbel.trans (hHeld.1.mono hbel.size)
    have VV := hide ((za V2).call hHeld.1)
    have YY := hide ((za Y2).call hHeld.1)
    have UU := hide ((za U2).call hHeld.1)
    have e0 := (hHeld.1.cell (p := ⟨_, _, none⟩) (za HGL)).trans c0
    have e1 := (hHeld.1.cell (p := ⟨_, _, none⟩) (za HGL)).trans c1
    have e2 := (hHeld.1.cell (p := ⟨_, _, none⟩) (za HGL)).trans c2
    clear hHeld MK hbel V2 Y2 U2 a1 y0 y1 y2 c0 c1 c2
    go_wp2
    go_roundw
    case rel => exact ⟨k + 1, by omega, by go_num, bb, VV, UU, hide (by rw [HL]; exact za YY)⟩
    case measure => simp [intOf]; omega
   clear L1
   by_cases hk0 : k = 0
   ·have HL : Pl.leadS (Pl.uR p) M (k + 1) = t := (za HL2).trans (za L2 rfl (.inl hk0))
    have hk1 : ((k : Int) == 0) = true := by simpa using hk0
    have hk2 : decide ((k : Int) = 0) = true := by simpa using hk0
    clear L2 L3 HL2 hk0
    have MK : Hid (∀ W', Below wr.heap.size wr W' → (Below wr.heap.size wr W' ∧ W'.cell? ⟨w.heap.size, 1, none⟩ = some (.slice (some ⟨g, o, none⟩) M.length mc) ∧ W'.cell? ⟨w.heap.size + 2, 0, none⟩ = some (.string q.p) ∧ W'.cell? ⟨w.heap.size + 2, 1, none⟩ = some (.int .i64 q.i) ∧ W'.cell? ⟨w.heap.size + 2, 2, none⟩ = some (.bool q.z) ∧ W'.cell? ⟨g, o + k * 3, none⟩ = some (.string t.p))) := fun W' hb => ⟨hb, ((za V2).call hb).cell 1, ((za Y2).call hb).cell 0, ((za Y2).call hb).cell 1, ((za Y2).call hb).cell 2, (hb.cell (p := ⟨_, _, none⟩) (za HGL)).trans c0⟩
    go_wp2_with fail
    refine wp_region_held_drew (S := fun W' => Below wr.heap.size wr W' ∧ W'.cell? ⟨w.heap.size, 1, none⟩ = some (.slice (some ⟨g, o, none⟩) M.length mc) ∧ W'.cell? ⟨w.heap.size + 2, 0, none⟩ = some (.string q.p) ∧ W'.cell? ⟨w.heap.size + 2, 1, none⟩ = some (.int .i64 q.i) ∧ W'.cell? ⟨w.heap.size + 2, 2, none⟩ = some (.bool q.z) ∧ W'.cell? ⟨g, o + k * 3, none⟩ = some (.string t.p)) (by kernel_rfl) ?_ (fun hHeld => ?_)
    ·exact za MK _ ((Below.refl _ _).trans ⟨rfl, rfl, rfl, Nat.le_refl _, fun _ _ => rfl⟩)
    refine tka (i := 0) rfl ?_
    try simp only [Act.put, kBs]
    refine tka (i := 1) rfl ?_
    try simp only [Act.put, kBs]
    refine tka (i := 2) rfl ?_
    try simp only [Act.put, kBs]
    refine tka (i := 3) rfl ?_
    try simp only [Act.put, kBs]
    refine tka (i := 4) rfl ?_
    try simp only [Act.put, kBs]
    refine tka (i := 5) rfl ?_
    try simp only [Act.put, kBs]
    refine tka (i := 6) rfl ?_
    try simp only [Act.put, kBs]
    refine wpAnyH_ready (rs := [7]) (by kernel_rfl) (by simp) ?_
    refine AllReadyH.cons rfl (fun K hK => ?_) AllReadyH.nil
    go_simp
    refine (za HC _).mono ?_
    rintro e wX ⟨rfl, bX⟩
    refine hK.out _ _ ?_ (fun hHeld => ?_)
    ·exact za MK _ (hHeld.1.trans (bX.mono hHeld.1.size))
    clear hK K
    try simp only [Act.put, kBs]
    refine tka (i := 8) rfl ?_
    try simp only [Act.put, kBs]
    refine tka (i := 9) rfl ?_
    try simp only [Act.put, kBs]
    refine tka (i := 10) rfl ?_
    try simp only [Act.put, kBs]
    refine tka (i := 11) rfl ?_
    try simp only [Act.put, kBs]
    refine tkc (i := 12) rfl ?_
    try simp only [Act.put, kBs]
    refine tkc (i := 13) rfl ?_
    try simp only [Act.put, kBs]
    refine tkc (i := 14) rfl ?_
    try simp only [Act.put, kBs]
    refine tkc (i := 15) rfl ?_
    try simp only [Act.put, kBs]
    refine tkc (i := 16) rfl ?_
    try simp only [Act.put, kBs]
    refine tkc (i := 17) rfl ?_
    try simp only [Act.put, kBs]
    refine tkc (i := 18) rfl ?_
    try simp only [Act.put, kBs]
    refine tkc (i := 19) rfl ?_
    try simp only [Act.put, kBs]
    refine tkc (i := 20) rfl ?_
    try simp only [Act.put, kBs]
    refine tkc (i := 21) rfl ?_
    try simp only [Act.put, kBs]
    refine tkc (i := 22) rfl ?_
    try simp only [Act.put, kBs]
    refine tka (i := 23) rfl ?_
    try simp only [Act.put, kBs]
    refine tka (i := 24) rfl ?_
    try simp only [Act.put, kBs]
    refine wpAnyH_done (by kernel_rfl) ?_ _
    have bb := hbel.trans (hHeld.1.mono hbel.size)
    have VV := hide ((za V2).call hHeld.1)
    have YY := hide ((za Y2).call hHeld.1)
    have UU := hide ((za U2).call hHeld.1)
    have e0 := (hHeld.1.cell (p := ⟨_, _, none⟩) (za HGL)).trans c0
    have e1 := (hHeld.1.cell (p := ⟨_, _, none⟩) (za HGL)).trans c1
    have e2 := (hHeld.1.cell (p := ⟨_, _, none⟩) (za HGL)).trans c2
    clear hHeld MK hbel V2 Y2 U2 a1 y0 y1 y2 c0 c1 c2
    have a1 := (za VV).cell 1
    have y0 := (za YY).cell 0
    have f0 := (za YY).fr 0
    have y1 := (za YY).cell 1
    have f1 := (za YY).fr 1
    have y2 := (za YY).cell 2
    have f2 := (za YY).fr 2
    simp only [kGs] at a1 y0 y1 y2
    have B3 := hide (((bb.setCell (p := ⟨w.heap.size + 2, 0, none⟩) (by show w.heap.size ≤ w.heap.size + 2; omega) (.string t.p)).setCell (p := ⟨w.heap.size + 2, 1, none⟩) (by show w.heap.size ≤ w.heap.size + 2; omega) (.int .i64 t.i)).setCell (p := ⟨w.heap.size + 2, 2, none⟩) (by show w.heap.size ≤ w.heap.size + 2; omega) (.bool t.z))
    have V3 := hide ((((za VV).far ⟨w.heap.size + 2, 0, none⟩ (.string t.p) (by show w.heap.size ≠ w.heap.size + 2; omega)).far ⟨w.heap.size + 2, 1, none⟩ (.int .i64 t.i) (by show w.heap.size ≠ w.heap.size + 2; omega)).far ⟨w.heap.size + 2, 2, none⟩ (.bool t.z) (by show w.heap.size ≠ w.heap.size + 2; omega))
    have U3 := hide ((((za UU).far ⟨w.heap.size + 2, 0, none⟩ (.string t.p) (by show w.heap.size + 1 ≠ w.heap.size + 2; omega)).far ⟨w.heap.size + 2, 1, none⟩ (.int .i64 t.i) (by show w.heap.size + 1 ≠ w.heap.size + 2; omega)).far ⟨w.heap.size + 2, 2, none⟩ (.bool t.z) (by show w.heap.size + 1 ≠ w.heap.size + 2; omega))
    have Y3 := hide ((((za YY).put 0 (.string t.p)).put 1 (.int .i64 t.i)).put 2 (.bool t.z))
    clear VV UU YY bb
    go_wp2
    go_roundw
    case rel => exact ⟨k + 1, by omega, by go_num, za B3, V3, U3, hide (by rw [HL]; exact za Y3)⟩
    case measure => simp [intOf]; omega
   have hk1 : ((k : Int) == 0) = false := by simpa using hk0
   have hk2 : decide ((k : Int) = 0) = false := by simpa using hk0
   have hk3 : ¬ (k : Int) = 0 := by omega
   by_cases hs : q.p.size < t.p.size
   ·have HL : Pl.leadS (Pl.uR p) M (k + 1) = t := (za HL2).trans (za L2 rfl (.inr hs))
    have v1 : (q.p.size : Int) < (t.p.size : Int) := by omega
    have v2 : decide ((q.p.size : Int) < (t.p.size : Int)) = true := by simpa using hs
    clear L2 L3 HL2
    have MK : Hid (∀ W', Below wr.heap.size wr W' → (Below wr.heap.size wr W' ∧ W'.cell? ⟨w.heap.size, 1, none⟩ = some (.slice (some ⟨g, o, none⟩) M.length mc) ∧ W'.cell? ⟨w.heap.size + 2, 0, none⟩ = some (.string q.p) ∧ W'.cell? ⟨w.heap.size + 2, 1, none⟩ = some (.int .i64 q.i) ∧ W'.cell? ⟨w.heap.size + 2, 2, none⟩ = some (.bool q.z) ∧ W'.cell? ⟨g, o + k * 3, none⟩ = some (.string t.p))) := fun W' hb => ⟨hb, ((za V2).call hb).cell 1, ((za Y2).call hb).cell 0, ((za Y2).call hb).cell 1, ((za Y2).call hb).cell 2, (hb.cell (p := ⟨_, _, none⟩) (za HGL)).trans c0⟩
    go_wp2_with fail
    refine wp_region_held_drew (S := fun W' => Below wr.heap.size wr W' ∧ W'.cell? ⟨w.heap.size, 1, none⟩ = some (.slice (some ⟨g, o, none⟩) M.length mc) ∧ W'.cell? ⟨w.heap.size + 2, 0, none⟩ = some (.string q.p) ∧ W'.cell? ⟨w.heap.size + 2, 1, none⟩ = some (.int .i64 q.i) ∧ W'.cell? ⟨w.heap.size + 2, 2, none⟩ = some (.bool q.z) ∧ W'.cell? ⟨g, o + k * 3, none⟩ = some (.string t.p)) (by kernel_rfl) ?_ (fun hHeld => ?_)
    ·exact za MK _ ((Below.refl _ _).trans ⟨rfl, rfl, rfl, Nat.le_refl _, fun _ _ => rfl⟩)
    refine tka (i := 0) rfl ?_
    try simp only [Act.put, kBs]
    refine tka (i := 1) rfl ?_
    try simp only [Act.put, kBs]
    refine tka (i := 2) rfl ?_
    try simp only [Act.put, kBs]
    refine tka (i := 3) rfl ?_
    try simp only [Act.put, kBs]
    refine tka (i := 4) rfl ?_
    try simp only [Act.put, kBs]
    refine tka (i := 5) rfl ?_
    try simp only [Act.put, kBs]
    refine tka (i := 6) rfl ?_
    try simp only [Act.put, kBs]
    refine wpAnyH_ready (rs := [7]) (by kernel_rfl) (by simp) ?_
    refine AllReadyH.cons rfl (fun K hK => ?_) AllReadyH.nil
    go_simp
    refine (za HC _).mono ?_
    rintro e wX ⟨rfl, bX⟩
    refine hK.out _ _ ?_ (fun hHeld => ?_)
    ·exact za MK _ (hHeld.1.trans (bX.mono hHeld.1.size))
    clear hK K
    try simp only [Act.put, kBs]
    refine tka (i := 8) rfl ?_
    try simp only [Act.put, kBs]
    refine tka (i := 9) rfl ?_
    try simp only [Act.put, kBs]
    refine tka (i := 10) rfl ?_
    try simp only [Act.put, kBs]
    refine tka (i := 11) rfl ?_
    try simp only [Act.put, kBs]
    refine tka (i := 12) rfl ?_
    try simp only [Act.put, kBs]
    refine tka (i := 13) rfl ?_
    try simp only [Act.put, kBs]
    refine tka (i := 14) rfl ?_
    try simp only [Act.put, kBs]
    refine tka (i := 15) rfl ?_
    try simp only [Act.put, kBs]
    refine tka (i := 16) rfl ?_
    try simp only [Act.put, kBs]
    refine tka (i := 17) rfl ?_
    try simp only [Act.put, kBs]
    refine tka (i := 18) rfl ?_
    try simp only [Act.put, kBs]
    refine tka (i := 19) rfl ?_
    try simp only [Act.put, kBs]
    refine tka (i := 20) rfl ?_
    try simp only [Act.put, kBs]
    refine tka (i := 21) rfl ?_
    try simp only [Act.put, kBs]
    refine tka (i := 22) rfl ?_
    try simp only [Act.put, kBs]
    refine tka (i := 23) rfl ?_
    try simp only [Act.put, kBs]
    refine tka (i := 24) rfl ?_
    try simp only [Act.put, kBs]
    refine wpAnyH_done (by kernel_rfl) ?_ _
    have bb := hbel.trans (hHeld.1.mono hbel.size)
    have VV := hide ((za V2).call hHeld.1)
    have YY := hide ((za Y2).call hHeld.1)
    have UU := hide ((za U2).call hHeld.1)
    have e0 := (hHeld.1.cell (p := ⟨_, _, none⟩) (za HGL)).trans c0
    have e1 := (hHeld.1.cell (p := ⟨_, _, none⟩) (za HGL)).trans c1
    have e2 := (hHeld.1.cell (p := ⟨_, _, none⟩) (za HGL)).trans c2
    clear hHeld MK hbel V2 Y2 U2 a1 y0 y1 y2 c0 c1 c2
    have a1 := (za VV).cell 1
    have y0 := (za YY).cell 0
    have f0 := (za YY).fr 0
    have y1 := (za YY).cell 1
    have f1 := (za YY).fr 1
    have y2 := (za YY).cell 2
    have f2 := (za YY).fr 2
    simp only [kGs] at a1 y0 y1 y2
    have B3 := hide (((bb.setCell (p := ⟨w.heap.size + 2, 0, none⟩) (by show w.heap.size ≤ w.heap.size + 2; omega) (.string t.p)).setCell (p := ⟨w.heap.size + 2, 1, none⟩) (by show w.heap.size ≤ w.heap.size + 2; omega) (.int .i64 t.i)).setCell (p := ⟨w.heap.size + 2, 2, none⟩) (by show w.heap.size ≤ w.heap.size + 2; omega) (.bool t.z))
    have V3 := hide ((((za VV).far ⟨w.heap.size + 2, 0, none⟩ (.string t.p) (by show w.heap.size ≠ w.heap.size + 2; omega)).far ⟨w.heap.size + 2, 1, none⟩ (.int .i64 t.i) (by show w.heap.size ≠ w.heap.size + 2; omega)).far ⟨w.heap.size + 2, 2, none⟩ (.bool t.z) (by show w.heap.size ≠ w.heap.size + 2; omega))
    have U3 := hide ((((za UU).far ⟨w.heap.size + 2, 0, none⟩ (.string t.p) (by show w.heap.size + 1 ≠ w.heap.size + 2; omega)).far ⟨w.heap.size + 2, 1, none⟩ (.int .i64 t.i) (by show w.heap.size + 1 ≠ w.heap.size + 2; omega)).far ⟨w.heap.size + 2, 2, none⟩ (.bool t.z) (by show w.heap.size + 1 ≠ w.heap.size + 2; omega))
    have Y3 := hide ((((za YY).put 0 (.string t.p)).put 1 (.int .i64 t.i)).put 2 (.bool t.z))
    clear VV UU YY bb
    go_wp2
    go_roundw
    case rel => exact ⟨k + 1, by omega, by go_num, za B3, V3, U3, hide (by rw [HL]; exact za Y3)⟩
    case measure => simp [intOf]; omega
   ·have HL : Pl.leadS (Pl.uR p) M (k + 1) = q := (za HL2).trans (za L3 hk0 hs)
    have v1 : ¬ (q.p.size : Int) < (t.p.size : Int) := by omega
    have v2 : decide ((q.p.size : Int) < (t.p.size : Int)) = false := by simpa using hs
    clear L2 L3 HL2
    have MK : Hid (∀ W', Below wr.heap.size wr W' → (Below wr.heap.size wr W' ∧ W'.cell? ⟨w.heap.size, 1, none⟩ = some (.slice (some ⟨g, o, none⟩) M.length mc) ∧ W'.cell? ⟨w.heap.size + 2, 0, none⟩ = some (.string q.p) ∧ W'.cell? ⟨w.heap.size + 2, 1, none⟩ = some (.int .i64 q.i) ∧ W'.cell? ⟨w.heap.size + 2, 2, none⟩ = some (.bool q.z) ∧ W'.cell? ⟨g, o + k * 3, none⟩ = some (.string t.p))) := fun W' hb => ⟨hb, ((za V2).call hb).cell 1, ((za Y2).call hb).cell 0, ((za Y2).call hb).cell 1, ((za Y2).call hb).cell 2, (hb.cell (p := ⟨_, _, none⟩) (za HGL)).trans c0⟩
    go_wp2_with fail
    refine wp_region_held_drew (S := fun W' => Below wr.heap.size wr W' ∧ W'.cell? ⟨w.heap.size, 1, none⟩ = some (.slice (some ⟨g, o, none⟩) M.length mc) ∧ W'.cell? ⟨w.heap.size + 2, 0, none⟩ = some (.string q.p) ∧ W'.cell? ⟨w.heap.size + 2, 1, none⟩ = some (.int .i64 q.i) ∧ W'.cell? ⟨w.heap.size + 2, 2, none⟩ = some (.bool q.z) ∧ W'.cell? ⟨g, o + k * 3, none⟩ = some (.string t.p)) (by kernel_rfl) ?_ (fun hHeld => ?_)
    ·exact za MK _ ((Below.refl _ _).trans ⟨rfl, rfl, rfl, Nat.le_refl _, fun _ _ => rfl⟩)
    refine tka (i := 0) rfl ?_
    try simp only [Act.put, kBs]
    refine tka (i := 1) rfl ?_
    try simp only [Act.put, kBs]
    refine tka (i := 2) rfl ?_
    try simp only [Act.put, kBs]
    refine tka (i := 3) rfl ?_
    try simp only [Act.put, kBs]
    refine tka (i := 4) rfl ?_
    try simp only [Act.put, kBs]
    refine tka (i := 5) rfl ?_
    try simp only [Act.put, kBs]
    refine tka (i := 6) rfl ?_
    try simp only [Act.put, kBs]
    refine wpAnyH_ready (rs := [7]) (by kernel_rfl) (by simp) ?_
    refine AllReadyH.cons rfl (fun K hK => ?_) AllReadyH.nil
    go_simp
    refine (za HC _).mono ?_
    rintro e wX ⟨rfl, bX⟩
    refine hK.out _ _ ?_ (fun hHeld => ?_)
    ·exact za MK _ (hHeld.1.trans (bX.mono hHeld.1.size))
    clear hK K
    try simp only [Act.put, kBs]
    refine tka (i := 8) rfl ?_
    try simp only [Act.put, kBs]
    refine tka (i := 9) rfl ?_
    try simp only [Act.put, kBs]
    refine tka (i := 10) rfl ?_
    try simp only [Act.put, kBs]
    refine tka (i := 11) rfl ?_
    try simp only [Act.put, kBs]
    refine tka (i := 12) rfl ?_
    try simp only [Act.put, kBs]
    refine tka (i := 13) rfl ?_
    try simp only [Act.put, kBs]
    refine tka (i := 14) rfl ?_
    try simp only [Act.put, kBs]
    refine tka (i := 15) rfl ?_
    try simp only [Act.put, kBs]
    refine tka (i := 16) rfl ?_
    try simp only [Act.put, kBs]
    refine tka (i := 17) rfl ?_
    try simp only [Act.put, kBs]
    refine tka (i := 18) rfl ?_
    try simp only [Act.put, kBs]
    refine tka (i := 19) rfl ?_
    try simp only [Act.put, kBs]
    refine tka (i := 20) rfl ?_
    try simp only [Act.put, kBs]
    refine tka (i := 21) rfl ?_
    try simp only [Act.put, kBs]
    refine tka (i := 22) rfl ?_
    try simp only [Act.put, kBs]
    refine tka (i := 23) rfl ?_
    try simp only [Act.put, kBs]
    refine tka (i := 24) rfl ?_
    try simp only [Act.put, kBs]
    refine wpAnyH_done (by kernel_rfl) ?_ _
    have bb := hbel.trans (hHeld.1.mono hbel.size)
    have VV := hide ((za V2).call hHeld.1)
    have YY := hide ((za Y2).call hHeld.1)
    have UU := hide ((za U2).call hHeld.1)
    have e0 := (hHeld.1.cell (p := ⟨_, _, none⟩) (za HGL)).trans c0
    have e1 := (hHeld.1.cell (p := ⟨_, _, none⟩) (za HGL)).trans c1
    have e2 := (hHeld.1.cell (p := ⟨_, _, none⟩) (za HGL)).trans c2
    clear hHeld MK hbel V2 Y2 U2 a1 y0 y1 y2 c0 c1 c2
    go_wp2
    go_roundw
    case rel => exact ⟨k + 1, by omega, by go_num, bb, VV, UU, hide (by rw [HL]; exact za YY)⟩
    case measure => simp [intOf]; omega
  ·have u1 : ¬ (k : Int) < (M.length : Int) := by omega
   obtain rfl : k = M.length := by omega
   rw [za HLM] at Y2
   have a0 := (za Y2).cell 0
   have a1' := (za Y2).cell 1
   have a2 := (za Y2).cell 2
   simp only [kGs] at a0 a1' a2
   have MK : Hid (∀ W', Below w.heap.size w W' → Mem.Blk W' (w.heap.size + 2) #[.string mp, .int .i64 mi, .bool mz] 50 → (Below w.heap.size w W' ∧ W'.cell? ⟨w.heap.size + 2, 0, none⟩ = some (.string mp) ∧ W'.cell? ⟨w.heap.size + 2, 1, none⟩ = some (.int .i64 mi) ∧ W'.cell? ⟨w.heap.size + 2, 2, none⟩ = some (.bool mz))) := fun W' b y => ⟨b, y.cell 0, y.cell 1, y.cell 2⟩
   have BD : Below wr.heap.size wr wr.drew := ⟨rfl, rfl, rfl, Nat.le_refl _, fun _ _ => rfl⟩
   have U := (za U2).call BD
   have Y := (za Y2).call BD
   have bel := hbel.trans (BD.mono hbel.size)
   clear U2 Y2 V2 BD hbel HUN HV HLM HP
   go_wp2_with fail
   refine wp_region_held_drew (S := fun W' => Below w.heap.size w W' ∧ W'.cell? ⟨w.heap.size + 2, 0, none⟩ = some (.string mp) ∧ W'.cell? ⟨w.heap.size + 2, 1, none⟩ = some (.int .i64 mi) ∧ W'.cell? ⟨w.heap.size + 2, 2, none⟩ = some (.bool mz)) (by kernel_rfl) ?_ (fun hHeld => ?_)
   ·exact za MK _ bel Y
   generalize wr.drew = D0 at hHeld U Y bel ⊢
   refine tka (i := 0) rfl ?_
   try simp only [Act.put, kBs]
   refine tka (i := 1) rfl ?_
   try simp only [Act.put, kBs]
   refine tka (i := 2) rfl ?_
   try simp only [Act.put, kBs]
   refine tka (i := 3) rfl ?_
   try simp only [Act.put, kBs]
   refine wpAnyH_ready (rs := [4]) (by kernel_rfl) (by simp) ?_
   refine AllReadyH.cons rfl (fun K hK => ?_) AllReadyH.nil
   go_simp
   refine (za HRS _).mono ?_
   rintro e wX ⟨rfl, bX⟩
   replace U := U.call bX
   replace Y := Y.call bX
   replace bel := bel.trans (bX.mono bel.size)
   clear bX
   refine hK.out _ _ ?_ (fun hHeld => ?_)
   ·exact za MK _ bel Y
   clear hK K
   try simp only [Act.put, kBs]
   refine wpAnyH_ready (rs := [5]) (by kernel_rfl) (by simp) ?_
   refine AllReadyH.cons rfl (fun K hK => ?_) AllReadyH.nil
   have d0 := U.cell 0
   have f0 := U.fr 0
   have d1 := U.cell 1
   have f1 := U.fr 1
   have d2 := U.cell 2
   have f2 := U.fr 2
   simp only [kGs] at d0 d1 d2
   go_simp
   replace U := ((U.put 0 (.string mp)).put 1 (.int .i64 mi)).put 2 (.bool mz)
   replace Y := ((Y.far ⟨w.heap.size + 1, 0, none⟩ (.string mp) (by show w.heap.size + 2 ≠ w.heap.size + 1; omega)).far ⟨w.heap.size + 1, 1, none⟩ (.int .i64 mi) (by show w.heap.size + 2 ≠ w.heap.size + 1; omega)).far ⟨w.heap.size + 1, 2, none⟩ (.bool mz) (by show w.heap.size + 2 ≠ w.heap.size + 1; omega)
   replace bel := ((bel.setCell (p := ⟨w.heap.size + 1, 0, none⟩) (by show w.heap.size ≤ w.heap.size + 1; omega) (.string mp)).setCell (p := ⟨w.heap.size + 1, 1, none⟩) (by show w.heap.size ≤ w.heap.size + 1; omega) (.int .i64 mi)).setCell (p := ⟨w.heap.size + 1, 2, none⟩) (by show w.heap.size ≤ w.heap.size + 1; omega) (.bool mz)
   clear d0 d1 d2 f0 f1 f2
   refine hK.out _ _ ?_ (fun hHeld => ?_)
   ·exact za MK _ bel Y
   clear hK K
   try simp only [Act.put, kBs]
   refine tka (i := 6) rfl ?_
   try simp only [Act.put, kBs]
   refine wpAnyH_done (by kernel_rfl) ?_ _
   have d0 := U.cell 0
   have d1 := U.cell 1
   have d2 := U.cell 2
   simp only [kB3, kB4, kB5, kGs] at d0 d1 d2
   go_wp2
   refine bodyPost_ret (v := .tuple #[.agg #[.string mp, .int .i64 mi, .bool mz], .string RT]) (by simp [results, Tryz.results27, go_sem, d0, d1, d2]) rfl ⟨rfl, bel⟩
end WSp
end Go.Proofs.YtonffldjbmednaaGreatDoor
