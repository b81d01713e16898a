/- Several texts of one claim in one file: WReadS, WReadM. -/
import Derived.Test.YtioildojmckepaaGreatDoorG35
import Derived.Test.YtioildojmckepaaGreatDoorG34
import Derived.Test.YtioildojmckepaaGreatDoorG06
set_option linter.unusedSimpArgs false
namespace Go.Proofs.YtioildojmckepaaGreatDoor
open Go.RowKit
namespace Pl
def numS (s : ByteArray) (a : Int) (bad : Bool) : Int × Int × Bool := if bad = true ∨ (za0 s a).2.2 ≠ 0 then (0, a, true) else ((za0 s a).1, (za0 s a).2.1, false)
def zh0 (s : ByteArray) (a : Int) (bad : Bool) : ByteArray × Int × Bool := if bad = true ∨ (za6 s a).2.2 ≠ 0 then (⟨#[]⟩, a, true) else ((za6 s a).1, (za6 s a).2.1, false)
end Pl
namespace zj9
def Rs (W : World) (X : Nat) (s : ByteArray) (a : Int) (bad : Bool) : Prop := Mem.Blk W X #[.string s, .int .i64 a, .bool bad] 60
structure Got3 (w W : World) (Y : Nat) (c0 c1 c2 : Value) (T : TypeId) : Prop where
 bel : Below w.heap.size w W
 lo : w.heap.size ≤ Y
 var : Mem.Blk W Y #[c0, c1, c2] T
theorem Got3.of {w W : World} {Y : Nat} {z0 z1 z2 c0 c1 c2 : Value} {T : TypeId} (b : Below w.heap.size w W) (lo : w.heap.size ≤ Y) (V : Mem.Blk W Y #[z0, z1, z2] T) :
  Got3 w (((W.setCell ⟨Y, 0, none⟩ c0).setCell ⟨Y, 1, none⟩ c1).setCell ⟨Y, 2, none⟩ c2) Y c0 c1 c2 T :=
 ⟨((b.setCell lo _).setCell lo _).setCell lo _, lo, ((V.put 0 _).put 1 _).put 2 _⟩
theorem put_at {W : World} {X : Nat} {s : ByteArray} {a p : Int} {bad : Bool} (h : Rs W X s a bad) : Rs (W.setCell ⟨X, 1, none⟩ (.int .i64 p)) X s p bad := Mem.Blk.put h 1 _
theorem put_bad {W : World} {X : Nat} {s : ByteArray} {a : Int} {bad : Bool} (h : Rs W X s a bad) : Rs (W.setCell ⟨X, 2, none⟩ (.bool true)) X s a true := Mem.Blk.put h 2 _
set_option maxRecDepth 100000 in
set_option maxHeartbeats 2000000 in
theorem zj6 (X : Nat) (s : ByteArray) (a : Int) (bad : Bool) (w : World) (h8 : s.size ≤ 8000) (ha : a ≤ 9223372036854775807) (hv : Rs w X s a bad) :
  Calls Tryz.prog 37 #[.pointer (some ⟨X, 0, none⟩)] w fun e w' => e = .returned (.int .i64 (Pl.numS s a bad).1) ∧ Rs w' X s (Pl.numS s a bad).2.1 (Pl.numS s a bad).2.2 ∧ w.grownBy w' (some X) := by
 have c0 := hv.cell 0
 have c1 := hv.cell 1
 simp only [kGs] at c0 c1
 have hX : X < w.heap.size := hv.lt
 have hz := hide (fun W => WGetS.zb8 s a W (by unfold maxLen; omega) ha)
 have HPL : Hid (Pl.numS s a bad = if bad = true ∨ (Pl.za0 s a).2.2 ≠ 0 then (0, a, true) else ((Pl.za0 s a).1, (Pl.za0 s a).2.1, false)) := rfl
 generalize Pl.numS s a bad = R at HPL ⊢
 obtain ⟨⟨n, p, c⟩, hr⟩ : ∃ r, Pl.za0 s a = r := ⟨_, rfl⟩
 rw [hr] at hz HPL
 have hz : Hid (∀ W, Calls Tryz.prog 58 #[.string s, .int .i64 a] W fun e w' => e = .returned (.agg #[.int .i64 n, .int .i64 p, .int .i64 c]) ∧ Below W.heap.size W w') := hz
 have MK : Hid (∀ W', Below w.heap.size w W' → (Below w.heap.size w W' ∧ W'.cell? ⟨X, 0, none⟩ = some (.string s) ∧ W'.cell? ⟨X, 1, none⟩ = some (.int .i64 a))) := fun W' hb' => ⟨hb', (hb'.cell (p := ⟨X, 0, none⟩) hX).trans c0, (hb'.cell (p := ⟨X, 1, none⟩) hX).trans c1⟩
 have HV := hide hv
 clear c0 c1 hv hr
 go_enter Tryz.func37, Tryz.ntmps37
 go_wp2_with fail
 refine wp_merge (R := fun T T' W => ∃ (Y : Nat), T' = ((((((((((T).setIfInBounds 4 (.pointer (some ⟨X, 0, none⟩))).setIfInBounds 5 (.pointer (some ⟨X, 0, none⟩))).setIfInBounds 6 (.pointer (some ⟨X, 0, none⟩))).setIfInBounds 7 (.string s)).setIfInBounds 8 (.pointer (some ⟨X, 0, none⟩))).setIfInBounds 9 (.pointer (some ⟨X, 0, none⟩))).setIfInBounds 10 (.pointer (some ⟨X, 1, none⟩))).setIfInBounds 11 (.int .i64 a)).setIfInBounds 12 (.agg #[.int .i64 n, .int .i64 p, .int .i64 c])).setIfInBounds 3 (.pointer (some ⟨Y, 0, none⟩)) ∧ Got3 w W Y (.int .i64 n) (.int .i64 p) (.int .i64 c) 95) ?_ ?_
 ·refine wp_region_held_drew (S := fun W' => Below w.heap.size w W' ∧ W'.cell? ⟨X, 0, none⟩ = some (.string s) ∧ W'.cell? ⟨X, 1, none⟩ = some (.int .i64 a)) (by kernel_rfl) ?_ (fun hHeld => ?_)
  ·exact za MK _ ((Below.refl _ _).trans ⟨rfl, rfl, rfl, Nat.le_refl _, fun _ _ => rfl⟩)
  generalize w.drew = D0 at hHeld ⊢
  refine tka (i := 0) rfl ?_
  try simp only [Act.put, kBs]
  refine tka (i := 1) rfl ?_
  try simp only [Act.put, kBs]
  refine tka (i := 2) rfl ?_
  try simp only [Act.put, kBs]
  refine tka (i := 3) rfl ?_
  try simp only [Act.put, kBs]
  refine tka (i := 4) rfl ?_
  try simp only [Act.put, kBs]
  refine tka (i := 5) rfl ?_
  try simp only [Act.put, kBs]
  refine tka (i := 6) rfl ?_
  try simp only [Act.put, kBs]
  refine tka (i := 7) rfl ?_
  try simp only [Act.put, kBs]
  refine wpAnyH_ready (rs := [8, 9]) (by kernel_rfl) (by simp) ?_
  refine AllReadyH.cons rfl (fun K hK => ?_) (AllReadyH.cons rfl (fun K hK => ?_) AllReadyH.nil)
  ·go_simp
   refine (za hz _).mono ?_
   rintro e XF ⟨rfl, bX⟩
   refine hK.out _ _ ?_ (fun hHeld => ?_)
   ·exact za MK _ (hHeld.1.trans (bX.mono hHeld.1.size))
   clear hK K
   try simp only [Act.put, kBs]
   clear bX
   refine wpAnyH_ready (rs := [9]) (by kernel_rfl) (by simp) ?_
   refine AllReadyH.cons rfl (fun K hK => ?_) AllReadyH.nil
   go_simp
   have LY := hHeld.1.size
   have bA : Below XF.heap.size XF (XF.alloc (.cells #[.int .i64 0, .int .i64 0, .int .i64 0] 95)) := (Below.refl _ _).alloc (Nat.le_refl _) _
   have V := Mem.Blk.new XF #[.int .i64 0, .int .i64 0, .int .i64 0] 95
   refine hK.out _ _ ?_ (fun hHeld => ?_)
   ·exact za MK _ (hHeld.1.trans (bA.mono hHeld.1.size))
   clear hK K
   try simp only [Act.put, kBs]
   clear bA
   generalize XF.alloc (.cells #[.int .i64 0, .int .i64 0, .int .i64 0] 95) = XA at hHeld V ⊢
   generalize XF.heap.size = Y at LY V ⊢
   have d0 := V.cell 0
   have d1 := V.cell 1
   have d2 := V.cell 2
   have k0 := V.fr 0
   have k1 := V.fr 1
   have k2 := V.fr 2
   simp only [kGs] at d0 d1 d2
   have GOT := hide (Got3.of (c0 := .int .i64 n) (c1 := .int .i64 p) (c2 := .int .i64 c) hHeld.1 LY V)
   clear V
   refine wpAnyH_ready (rs := [10]) (by kernel_rfl) (by simp) ?_
   refine AllReadyH.cons rfl (fun K hK => ?_) AllReadyH.nil
   go_simp
   refine hK.out _ _ ?_ (fun hHeld => ?_)
   ·exact za MK _ ((za GOT).bel)
   clear hK K
   try simp only [Act.put, kBs]
   refine wpAnyH_done (by kernel_rfl) ?_ _
   refine ⟨rfl, rfl, Y, ?_, za GOT⟩
   simp only [kB3, kB4, kB5]
  ·go_simp
   have LY := hHeld.1.size
   have bA : Below D0.heap.size D0 (D0.alloc (.cells #[.int .i64 0, .int .i64 0, .int .i64 0] 95)) := (Below.refl _ _).alloc (Nat.le_refl _) _
   have V := Mem.Blk.new D0 #[.int .i64 0, .int .i64 0, .int .i64 0] 95
   refine hK.out _ _ ?_ (fun hHeld => ?_)
   ·exact za MK _ (hHeld.1.trans (bA.mono hHeld.1.size))
   clear hK K
   try simp only [Act.put, kBs]
   clear bA
   generalize D0.alloc (.cells #[.int .i64 0, .int .i64 0, .int .i64 0] 95) = XA at hHeld V ⊢
   generalize D0.heap.size = Y at LY V ⊢
   refine wpAnyH_ready (rs := [8]) (by kernel_rfl) (by simp) ?_
   refine AllReadyH.cons rfl (fun K hK => ?_) AllReadyH.nil
   go_simp
   refine (za hz _).mono ?_
   rintro e XF ⟨rfl, bX⟩
   replace V := V.call bX
   refine hK.out _ _ ?_ (fun hHeld => ?_)
   ·exact za MK _ (hHeld.1.trans (bX.mono hHeld.1.size))
   clear hK K
   try simp only [Act.put, kBs]
   clear bX
   have d0 := V.cell 0
   have d1 := V.cell 1
   have d2 := V.cell 2
   have k0 := V.fr 0
   have k1 := V.fr 1
   have k2 := V.fr 2
   simp only [kGs] at d0 d1 d2
   have GOT := hide (Got3.of (c0 := .int .i64 n) (c1 := .int .i64 p) (c2 := .int .i64 c) hHeld.1 LY V)
   clear V
   refine wpAnyH_ready (rs := [10]) (by kernel_rfl) (by simp) ?_
   refine AllReadyH.cons rfl (fun K hK => ?_) AllReadyH.nil
   go_simp
   refine hK.out _ _ ?_ (fun hHeld => ?_)
   ·exact za MK _ ((za GOT).bel)
   clear hK K
   try simp only [Act.put, kBs]
   refine wpAnyH_done (by kernel_rfl) ?_ _
   refine ⟨rfl, rfl, Y, ?_, za GOT⟩
   simp only [kB3, kB4, kB5]
 intro T' W h
 obtain ⟨Y, hT, got⟩ := h
 simp only [kB3, kB4, kB5] at hT
 subst hT
 have hXY : X ≠ Y := by have := got.lo; omega
 have VX : Rs W X s a bad := Mem.Blk.call (za HV) got.bel
 have x0 := VX.cell 0
 have x1 := VX.cell 1
 have x2 := VX.cell 2
 have fx1 := VX.fr 1
 have fx2 := VX.fr 2
 have y0 := got.var.cell 0
 have y1 := got.var.cell 1
 have y2 := got.var.cell 2
 simp only [kGs] at x0 x1 x2 y0 y1 y2
 have hXW : X < W.heap.size := VX.lt
 have gW : w.grownBy W (some X) := Mem.zg1 got.bel _
 have G1 := hide (World.grownBy.trans gW (za8.ze4 X 2 (.bool true)))
 have G2 := hide (World.grownBy.trans gW (za8.ze4 X 1 (.int .i64 p)))
 have P1 := hide (put_bad VX)
 have P2 := hide (put_at (p := p) VX)
 have hYX : Y ≠ X := fun e => hXY e.symm
 have y0' : (W.setCell ⟨X, 1, none⟩ (.int .i64 p)).cell? ⟨Y, 0, none⟩ = some (.int .i64 n) := by rw [World.cell?_setCell_far _ _ _ _ (by show X ≠ Y; exact hXY)]; exact y0
 clear MK got VX gW hz HV
 cases bad with
 | true =>
  have e := za HPL
  rw [if_pos (.inl rfl)] at e
  subst e
  go_wp2
  go_ret
  exact ⟨rfl, za P1, za G1⟩
 | false =>
  by_cases hc : c = 0
  ·subst hc
   have e := za HPL
   rw [if_neg (by simp)] at e
   subst e
   go_wp2
   go_ret
   exact ⟨rfl, za P2, za G2⟩
  ·have e := za HPL
   rw [if_pos (.inr hc)] at e
   subst e
   have t0 : (c == 0) = false := by simpa using hc
   have t1 : (c != 0) = true := by simpa using hc
   go_wp2
   go_ret
   exact ⟨rfl, za P1, za G1⟩
set_option maxRecDepth 100000 in
set_option maxHeartbeats 2000000 in
theorem text_any (X : Nat) (s : ByteArray) (a : Int) (bad : Bool) (w : World) (h8 : s.size ≤ 8000) (ha : a ≤ 9223372036854775807) (hv : Rs w X s a bad) :
  Calls Tryz.prog 39 #[.pointer (some ⟨X, 0, none⟩)] w fun e w' => e = .returned (.string (Pl.zh0 s a bad).1) ∧ Rs w' X s (Pl.zh0 s a bad).2.1 (Pl.zh0 s a bad).2.2 ∧ w.grownBy w' (some X) := by
 have c0 := hv.cell 0
 have c1 := hv.cell 1
 simp only [kGs] at c0 c1
 have hX : X < w.heap.size := hv.lt
 have hz := hide (fun W => WTextS.zb8 s a W (by unfold maxLen; omega) ha)
 have HPL : Hid (Pl.zh0 s a bad = if bad = true ∨ (Pl.za6 s a).2.2 ≠ 0 then (⟨#[]⟩, a, true) else ((Pl.za6 s a).1, (Pl.za6 s a).2.1, false)) := rfl
 generalize Pl.zh0 s a bad = R at HPL ⊢
 obtain ⟨⟨n, p, c⟩, hr⟩ : ∃ r, Pl.za6 s a = r := ⟨_, rfl⟩
 rw [hr] at hz HPL
 have hz : Hid (∀ W, Calls Tryz.prog 61 #[.string s, .int .i64 a] W fun e w' => e = .returned (.agg #[.string n, .int .i64 p, .int .i64 c]) ∧ Below W.heap.size W w') := hz
 have MK : Hid (∀ W', Below w.heap.size w W' → (Below w.heap.size w W' ∧ W'.cell? ⟨X, 0, none⟩ = some (.string s) ∧ W'.cell? ⟨X, 1, none⟩ = some (.int .i64 a))) := fun W' hb' => ⟨hb', (hb'.cell (p := ⟨X, 0, none⟩) hX).trans c0, (hb'.cell (p := ⟨X, 1, none⟩) hX).trans c1⟩
 have HV := hide hv
 clear c0 c1 hv hr
 go_enter Tryz.func39, Tryz.ntmps39
 go_wp2_with fail
 refine wp_merge (R := fun T T' W => ∃ (Y : Nat), T' = ((((((((((T).setIfInBounds 4 (.pointer (some ⟨X, 0, none⟩))).setIfInBounds 5 (.pointer (some ⟨X, 0, none⟩))).setIfInBounds 6 (.pointer (some ⟨X, 0, none⟩))).setIfInBounds 7 (.string s)).setIfInBounds 8 (.pointer (some ⟨X, 0, none⟩))).setIfInBounds 9 (.pointer (some ⟨X, 0, none⟩))).setIfInBounds 10 (.pointer (some ⟨X, 1, none⟩))).setIfInBounds 11 (.int .i64 a)).setIfInBounds 12 (.agg #[.string n, .int .i64 p, .int .i64 c])).setIfInBounds 3 (.pointer (some ⟨Y, 0, none⟩)) ∧ Got3 w W Y (.string n) (.int .i64 p) (.int .i64 c) 99) ?_ ?_
 ·refine wp_region_held_drew (S := fun W' => Below w.heap.size w W' ∧ W'.cell? ⟨X, 0, none⟩ = some (.string s) ∧ W'.cell? ⟨X, 1, none⟩ = some (.int .i64 a)) (by kernel_rfl) ?_ (fun hHeld => ?_)
  ·exact za MK _ ((Below.refl _ _).trans ⟨rfl, rfl, rfl, Nat.le_refl _, fun _ _ => rfl⟩)
  generalize w.drew = D0 at hHeld ⊢
  refine tka (i := 0) rfl ?_
  try simp only [Act.put, kBs]
  refine tka (i := 1) rfl ?_
  try simp only [Act.put, kBs]
  refine tka (i := 2) rfl ?_
  try simp only [Act.put, kBs]
  refine tka (i := 3) rfl ?_
  try simp only [Act.put, kBs]
  refine tka (i := 4) rfl ?_
  try simp only [Act.put, kBs]
  refine tka (i := 5) rfl ?_
  try simp only [Act.put, kBs]
  refine tka (i := 6) rfl ?_
  try simp only [Act.put, kBs]
  refine tka (i := 7) rfl ?_
  try simp only [Act.put, kBs]
  refine wpAnyH_ready (rs := [8, 9]) (by kernel_rfl) (by simp) ?_
  refine AllReadyH.cons rfl (fun K hK => ?_) (AllReadyH.cons rfl (fun K hK => ?_) AllReadyH.nil)
  ·go_simp
   refine (za hz _).mono ?_
   rintro e XF ⟨rfl, bX⟩
   refine hK.out _ _ ?_ (fun hHeld => ?_)
   ·exact za MK _ (hHeld.1.trans (bX.mono hHeld.1.size))
   clear hK K
   try simp only [Act.put, kBs]
   clear bX
   refine wpAnyH_ready (rs := [9]) (by kernel_rfl) (by simp) ?_
   refine AllReadyH.cons rfl (fun K hK => ?_) AllReadyH.nil
   go_simp
   have LY := hHeld.1.size
   have bA : Below XF.heap.size XF (XF.alloc (.cells #[.string ⟨#[]⟩, .int .i64 0, .int .i64 0] 99)) := (Below.refl _ _).alloc (Nat.le_refl _) _
   have V := Mem.Blk.new XF #[.string ⟨#[]⟩, .int .i64 0, .int .i64 0] 99
   refine hK.out _ _ ?_ (fun hHeld => ?_)
   ·exact za MK _ (hHeld.1.trans (bA.mono hHeld.1.size))
   clear hK K
   try simp only [Act.put, kBs]
   clear bA
   generalize XF.alloc (.cells #[.string ⟨#[]⟩, .int .i64 0, .int .i64 0] 99) = XA at hHeld V ⊢
   generalize XF.heap.size = Y at LY V ⊢
   have d0 := V.cell 0
   have d1 := V.cell 1
   have d2 := V.cell 2
   have k0 := V.fr 0
   have k1 := V.fr 1
   have k2 := V.fr 2
   simp only [kGs] at d0 d1 d2
   have GOT := hide (Got3.of (c0 := .string n) (c1 := .int .i64 p) (c2 := .int .i64 c) hHeld.1 LY V)
   clear V
   refine wpAnyH_ready (rs := [10]) (by kernel_rfl) (by simp) ?_
   refine AllReadyH.cons rfl (fun K hK => ?_) AllReadyH.nil
   go_simp
   refine hK.out _ _ ?_ (fun hHeld => ?_)
   ·exact za MK _ ((za GOT).bel)
   clear hK K
   try simp only [Act.put, kBs]
   refine wpAnyH_done (by kernel_rfl) ?_ _
   refine ⟨rfl, rfl, Y, ?_, za GOT⟩
   simp only [kB3, kB4, kB5]
  ·go_simp
   have LY := hHeld.1.size
   have bA : Below D0.heap.size D0 (D0.alloc (.cells #[.string ⟨#[]⟩, .int .i64 0, .int .i64 0] 99)) := (Below.refl _ _).alloc (Nat.le_refl _) _
   have V := Mem.Blk.new D0 #[.string ⟨#[]⟩, .int .i64 0, .int .i64 0] 99
   refine hK.out _ _ ?_ (fun hHeld => ?_)
   ·exact za MK _ (hHeld.1.trans (bA.mono hHeld.1.size))
   clear hK K
   try simp only [Act.put, kBs]
   clear bA
   generalize D0.alloc (.cells #[.string ⟨#[]⟩, .int .i64 0, .int .i64 0] 99) = XA at hHeld V ⊢
   generalize D0.heap.size = Y at LY V ⊢
   refine wpAnyH_ready (rs := [8]) (by kernel_rfl) (by simp) ?_
   refine AllReadyH.cons rfl (fun K hK => ?_) AllReadyH.nil
   go_simp
   refine (za hz _).mono ?_
   rintro e XF ⟨rfl, bX⟩
   replace V := V.call bX
   refine hK.out _ _ ?_ (fun hHeld => ?_)
   ·exact za MK _ (hHeld.1.trans (bX.mono hHeld.1.size))
   clear hK K
   try simp only [Act.put, kBs]
   clear bX
   have d0 := V.cell 0
   have d1 := V.cell 1
   have d2 := V.cell 2
   have k0 := V.fr 0
   have k1 := V.fr 1
   have k2 := V.fr 2
   simp only [kGs] at d0 d1 d2
   have GOT := hide (Got3.of (c0 := .string n) (c1 := .int .i64 p) (c2 := .int .i64 c) hHeld.1 LY V)
   clear V
   refine wpAnyH_ready (rs := [10]) (by kernel_rfl) (by simp) ?_
   refine AllReadyH.cons rfl (fun K hK => ?_) AllReadyH.nil
   go_simp
   refine hK.out _ _ ?_ (fun hHeld => ?_)
   ·exact za MK _ ((za GOT).bel)
   clear hK K
   try simp only [Act.put, kBs]
   refine wpAnyH_done (by kernel_rfl) ?_ _
   refine ⟨rfl, rfl, Y, ?_, za GOT⟩
   simp only [kB3, kB4, kB5]
 intro T' W h
 obtain ⟨Y, hT, got⟩ := h
 simp only [kB3, kB4, kB5] at hT
 subst hT
 have hXY : X ≠ Y := by have := got.lo; omega
 have VX : Rs W X s a bad := Mem.Blk.call (za HV) got.bel
 have x0 := VX.cell 0
 have x1 := VX.cell 1
 have x2 := VX.cell 2
 have fx1 := VX.fr 1
 have fx2 := VX.fr 2
 have y0 := got.var.cell 0
 have y1 := got.var.cell 1
 have y2 := got.var.cell 2
 simp only [kGs] at x0 x1 x2 y0 y1 y2
 have hXW : X < W.heap.size := VX.lt
 have gW : w.grownBy W (some X) := Mem.zg1 got.bel _
 have G1 := hide (World.grownBy.trans gW (za8.ze4 X 2 (.bool true)))
 have G2 := hide (World.grownBy.trans gW (za8.ze4 X 1 (.int .i64 p)))
 have P1 := hide (put_bad VX)
 have P2 := hide (put_at (p := p) VX)
 have hYX : Y ≠ X := fun e => hXY e.symm
 have y0' : (W.setCell ⟨X, 1, none⟩ (.int .i64 p)).cell? ⟨Y, 0, none⟩ = some (.string n) := by rw [World.cell?_setCell_far _ _ _ _ (by show X ≠ Y; exact hXY)]; exact y0
 clear MK got VX gW hz HV
 cases bad with
 | true =>
  have e := za HPL
  rw [if_pos (.inl rfl)] at e
  subst e
  go_wp2
  go_ret
  exact ⟨rfl, za P1, za G1⟩
 | false =>
  by_cases hc : c = 0
  ·subst hc
   have e := za HPL
   rw [if_neg (by simp)] at e
   subst e
   go_wp2
   go_ret
   exact ⟨rfl, za P2, za G2⟩
  ·have e := za HPL
   rw [if_pos (.inr hc)] at e
   subst e
   have t0 : (c == 0) = false := by simpa using hc
   have t1 : (c != 0) = true := by simpa using hc
   go_wp2
   go_ret
   exact ⟨rfl, za P1, za G1⟩
end zj9
end Go.Proofs.YtioildojmckepaaGreatDoor

namespace Go.Proofs.YtioildojmckepaaGreatDoor
open Go.RowKit
namespace Pl
def zg4 (s : ByteArray) (a : Int) (bad : Bool) (most : Int) : Int × Int × Bool :=
 if 0 ≤ (numS s a bad).1 ∧ (numS s a bad).1 ≤ most then numS s a bad else (0, (numS s a bad).2.1, true)
end Pl
namespace zj9
set_option linter.unusedSimpArgs false in
set_option maxRecDepth 100000 in
set_option maxHeartbeats 1000000 in
theorem many_any (X : Nat) (s : ByteArray) (a : Int) (bad : Bool) (most : Int) (w : World) (h8 : s.size ≤ 8000) (ha : a ≤ 9223372036854775807) (hv : Rs w X s a bad) :
  Calls Tryz.prog 36 #[.pointer (some ⟨X, 0, none⟩), .int .i64 most] w fun e w' => e = .returned (.int .i64 (Pl.zg4 s a bad most).1) ∧ Rs w' X s (Pl.zg4 s a bad most).2.1 (Pl.zg4 s a bad most).2.2 ∧ w.grownBy w' (some X) := by
 have hz := hide (zj6 X s a bad w h8 ha hv)
 have HM : Hid (Pl.zg4 s a bad most = if 0 ≤ (Pl.numS s a bad).1 ∧ (Pl.numS s a bad).1 ≤ most then Pl.numS s a bad else (0, (Pl.numS s a bad).2.1, true)) := rfl
 generalize Pl.zg4 s a bad most = R at HM ⊢
 generalize Pl.numS s a bad = r at hz HM
 obtain ⟨n, p, b⟩ := r
 simp only at hz HM
 clear hv
 have hIS := hide (fun W => WNode.is_any n 0 most W)
 by_cases hc : 0 ≤ n ∧ n ≤ most
 ·have e := za HM
  rw [if_pos hc] at e
  subst e
  rw [show (decide (0 ≤ n) && decide (n ≤ most)) = true by simp [hc.1, hc.2]] at hIS
  clear hc HM
  go_enter Tryz.func36, Tryz.ntmps36
  go_wp2_with fail
  refine (za hz).mono ?_
  rintro e w1 ⟨rfl, R1, g1⟩
  have KR := hide R1
  have KG := hide g1
  clear R1 g1
  go_wp2_with fail
  refine (za hIS _).mono ?_
  rintro e w2 ⟨rfl, rfl⟩
  go_wp2
  go_ret
  exact ⟨rfl, za KR, za KG⟩
 ·have e := za HM
  rw [if_neg hc] at e
  subst e
  rw [show (decide (0 ≤ n) && decide (n ≤ most)) = false by rw [← Bool.decide_and]; exact decide_eq_false hc] at hIS
  clear hc HM
  go_enter Tryz.func36, Tryz.ntmps36
  go_wp2_with fail
  refine (za hz).mono ?_
  rintro e w1 ⟨rfl, R1, g1⟩
  have c2 := R1.cell 2
  have f2 := R1.fr 2
  simp only [kGs] at c2
  have KR := hide (put_bad R1)
  have KG := hide (World.grownBy.trans g1 (za8.ze4 X 2 (.bool true)))
  clear R1 g1
  go_wp2_with fail
  refine (za hIS _).mono ?_
  rintro e w2 ⟨rfl, rfl⟩
  go_wp2
  go_ret
  exact ⟨rfl, za KR, za KG⟩
end zj9
end Go.Proofs.YtioildojmckepaaGreatDoor

