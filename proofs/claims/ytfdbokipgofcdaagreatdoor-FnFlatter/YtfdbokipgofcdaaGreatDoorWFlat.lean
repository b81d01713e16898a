import Derived.Test.YtfdbokipgofcdaaGreatDoorG04
import Derived.Test.YtfdbokipgofcdaaGreatDoorG14
import Derived.Test.YtfdbokipgofcdaaGreatDoorG34
import Derived.Test.YtfdbokipgofcdaaGreatDoorG39
set_option linter.unusedSimpArgs false
namespace Go.Proofs.YtfdbokipgofcdaaGreatDoor
open Go.RowKit
namespace WFlat
def yf4 (w' : World) (FK : Option Pl.Fx) (e : Ending) : Prop :=
 (∃ K' a cap, FK = some K' ∧ e = .returned (.tuple #[.agg #[.map none, .int .i64 (K'.len : Int), .slice a K'.len cap], .bool true]) ∧ Mem.layX w' (fun _ => True) K' (.slice a K'.len cap)) ∨
 (FK = none ∧ e = .returned (.tuple #[.agg #[.map none, .int .i64 0, .slice none 0 0], .bool false]))
theorem fit {a b : Nat} (h1 : 1 ≤ a) (h2 : 1 ≤ b) (h4 : a + b ≤ 4) : Builtin.nextslicecap (a + b) a * 40 ≤ 281474976710656 := by
 have ha : a = 1 ∨ a = 2 ∨ a = 3 := by omega
 have hb : b = 1 ∨ b = 2 ∨ b = 3 := by omega
 rcases ha with rfl | rfl | rfl <;> rcases hb with rfl | rfl | rfl <;> first | omega | decide
theorem cellB {w w' : World} {g j : Nat} (b : Below w.heap.size w w') (h : g < w.heap.size) : w'.cell? ⟨g, j, none⟩ = w.cell? ⟨g, j, none⟩ := b.cell (p := ⟨g, j, none⟩) h
set_option maxRecDepth 100000 in
set_option maxHeartbeats 2000000 in
theorem few0 (FK : Option Pl.Fx) (hF : FK = none) (qo : Option Nat) (m : Int) (a : Option Addr) (cap : Nat) (w : World) :
  Calls Tryz.prog 57 #[.agg #[.map qo, .int .i64 m, .slice a 0 cap]] w fun e w' => yf4 w' FK e ∧ Below w.heap.size w w' := by
 have b0 : Below w.heap.size w ((w.alloc (.cells #[.map qo, .int .i64 m, .slice a 0 cap] 74)).alloc (.cells #[.map none, .int .i64 0, .slice none 0 0] 74)) := ((Below.refl _ _).alloc (Nat.le_refl _) _).alloc (by simp) _
 have A0 := (Mem.Blk.new w #[.map qo, .int .i64 m, .slice a 0 cap] 74).alloc (.cells #[.map none, .int .i64 0, .slice none 0 0] 74)
 have R0 : Mem.Blk ((w.alloc (.cells #[.map qo, .int .i64 m, .slice a 0 cap] 74)).alloc (.cells #[.map none, .int .i64 0, .slice none 0 0] 74)) (w.heap.size + 1) #[.map none, .int .i64 0, .slice none 0 0] 74 := Mem.zh2 _ _ _
 have hs0 : ((w.alloc (.cells #[.map qo, .int .i64 m, .slice a 0 cap] 74)).alloc (.cells #[.map none, .int .i64 0, .slice none 0 0] 74)).heap.size = w.heap.size + 1 + 1 := by simp
 have cx := A0.cell 2
 simp only [kGs] at cx
 have E := hide hF
 have HB := hide b0
 have d0 := R0.cell 0
 have d1 := R0.cell 1
 have d2 := R0.cell 2
 have f0 := R0.fr 0
 have f1 := R0.fr 1
 have f2 := R0.fr 2
 simp only [kGs] at d0 d1 d2
 clear A0 R0 b0 hF
 go_enter Tryz.func57, Tryz.ntmps57
 go_wp2
 refine bodyPost_ret (v := .tuple #[.agg #[.map none, .int .i64 0, .slice none 0 0], .bool false]) (by simp [results, Tryz.results57, go_sem, d0, d1, d2]) rfl ⟨Or.inr ⟨za E, rfl⟩, ?_⟩
 first | exact za HB | exact (((za HB).setCell (by show w.heap.size ≤ w.heap.size + 1; omega) _).setCell (by show w.heap.size ≤ w.heap.size + 1; omega) _).setCell (by show w.heap.size ≤ w.heap.size + 1; omega) _
set_option maxRecDepth 100000 in
set_option maxHeartbeats 2000000 in
theorem few1 (FK : Option Pl.Fx) (hF : FK = none) (qo : Option Nat) (m : Int) (a : Option Addr) (cap : Nat) (w : World) :
  Calls Tryz.prog 57 #[.agg #[.map qo, .int .i64 m, .slice a 1 cap]] w fun e w' => yf4 w' FK e ∧ Below w.heap.size w w' := by
 have b0 : Below w.heap.size w ((w.alloc (.cells #[.map qo, .int .i64 m, .slice a 1 cap] 74)).alloc (.cells #[.map none, .int .i64 0, .slice none 0 0] 74)) := ((Below.refl _ _).alloc (Nat.le_refl _) _).alloc (by simp) _
 have A0 := (Mem.Blk.new w #[.map qo, .int .i64 m, .slice a 1 cap] 74).alloc (.cells #[.map none, .int .i64 0, .slice none 0 0] 74)
 have R0 : Mem.Blk ((w.alloc (.cells #[.map qo, .int .i64 m, .slice a 1 cap] 74)).alloc (.cells #[.map none, .int .i64 0, .slice none 0 0] 74)) (w.heap.size + 1) #[.map none, .int .i64 0, .slice none 0 0] 74 := Mem.zh2 _ _ _
 have hs0 : ((w.alloc (.cells #[.map qo, .int .i64 m, .slice a 1 cap] 74)).alloc (.cells #[.map none, .int .i64 0, .slice none 0 0] 74)).heap.size = w.heap.size + 1 + 1 := by simp
 have cx := A0.cell 2
 simp only [kGs] at cx
 have E := hide hF
 have HB := hide b0
 have d0 := R0.cell 0
 have d1 := R0.cell 1
 have d2 := R0.cell 2
 have f0 := R0.fr 0
 have f1 := R0.fr 1
 have f2 := R0.fr 2
 simp only [kGs] at d0 d1 d2
 clear A0 R0 b0 hF
 go_enter Tryz.func57, Tryz.ntmps57
 go_wp2
 refine bodyPost_ret (v := .tuple #[.agg #[.map none, .int .i64 0, .slice none 0 0], .bool false]) (by simp [results, Tryz.results57, go_sem, d0, d1, d2]) rfl ⟨Or.inr ⟨za E, rfl⟩, ?_⟩
 first | exact za HB | exact (((za HB).setCell (by show w.heap.size ≤ w.heap.size + 1; omega) _).setCell (by show w.heap.size ≤ w.heap.size + 1; omega) _).setCell (by show w.heap.size ≤ w.heap.size + 1; omega) _
set_option maxRecDepth 100000 in
set_option maxHeartbeats 2000000 in
theorem many2 (N : Nat → Prop) (A k1 : Pl.Fx) (L1 : List Pl.Nd) (FK : Option Pl.Fx) (hF : FK = if k1.len = 0 ∨ 4 < A.len + k1.len then none else some (A.app k1)) (hA : A.len = 1) (hk4 : k1.len ≤ 4) (qo : Option Nat) (m : Int) (g cap : Nat) (hcap : 2 ≤ cap) (w : World) (hrow : Mem.rowX w N (A.app (.cons L1 k1 .nil)) g 0) :
  Calls Tryz.prog 57 #[.agg #[.map qo, .int .i64 m, .slice (some ⟨g, 0, none⟩) 2 cap]] w fun e w' => yf4 w' FK e ∧ Below w.heap.size w w' := by
 obtain ⟨i0, hi, hz0, hz1, hz2⟩ := info_parts zr9.zl3
 have b0 : Below w.heap.size w ((w.alloc (.cells #[.map qo, .int .i64 m, .slice (some ⟨g, 0, none⟩) 2 cap] 74)).alloc (.cells #[.map none, .int .i64 0, .slice none 0 0] 74)) := ((Below.refl _ _).alloc (Nat.le_refl _) _).alloc (by simp) _
 have A0 := (Mem.Blk.new w #[.map qo, .int .i64 m, .slice (some ⟨g, 0, none⟩) 2 cap] 74).alloc (.cells #[.map none, .int .i64 0, .slice none 0 0] 74)
 have R0 : Mem.Blk ((w.alloc (.cells #[.map qo, .int .i64 m, .slice (some ⟨g, 0, none⟩) 2 cap] 74)).alloc (.cells #[.map none, .int .i64 0, .slice none 0 0] 74)) (w.heap.size + 1) #[.map none, .int .i64 0, .slice none 0 0] 74 := Mem.zh2 _ _ _
 have hs0 : ((w.alloc (.cells #[.map qo, .int .i64 m, .slice (some ⟨g, 0, none⟩) 2 cap] 74)).alloc (.cells #[.map none, .int .i64 0, .slice none 0 0] 74)).heap.size = w.heap.size + 1 + 1 := by simp
 have cx := A0.cell 2
 simp only [kGs] at cx
 obtain ⟨hrA, hrL⟩ := Mem.rowX_app A _ 0 hrow
 obtain ⟨⟨q1, a1, cap1, c0, c1, c2, hg, hNg, hNq, hm1, hsub⟩, -⟩ := hrL
 obtain ⟨xs, hxc, hxl, hxv⟩ := Mem.zu7 A 0 hrA
 simp only [hA, Nat.zero_add, Nat.reduceMul, Nat.reduceAdd] at c0 c1 c2
 have HXL : Hid (xs.length = 1 * 3) := hide (by rw [hxl, hA])
 have e0 := (b0.cell (p := ⟨g, _, none⟩) hg).trans c0
 have e1 := (b0.cell (p := ⟨g, _, none⟩) hg).trans c1
 have e2 := (b0.cell (p := ⟨g, _, none⟩) hg).trans c2
 have hlf := hide (fun W => zc0.zr1 k1.shape (some q1) (k1.len : Int) a1 cap1 W)
 rw [Pl.Fx.zt7] at hlf
 have bA : Below ((w.alloc (.cells #[.map qo, .int .i64 m, .slice (some ⟨g, 0, none⟩) 2 cap] 74)).alloc (.cells #[.map none, .int .i64 0, .slice none 0 0] 74)).heap.size ((w.alloc (.cells #[.map qo, .int .i64 m, .slice (some ⟨g, 0, none⟩) 2 cap] 74)).alloc (.cells #[.map none, .int .i64 0, .slice none 0 0] 74)) (((w.alloc (.cells #[.map qo, .int .i64 m, .slice (some ⟨g, 0, none⟩) 2 cap] 74)).alloc (.cells #[.map none, .int .i64 0, .slice none 0 0] 74)).alloc (.cells #[.map (some q1), .int .i64 (k1.len : Int), .slice a1 k1.len cap1] 74)) := (Below.refl _ _).alloc (Nat.le_refl _) _
 have bw := b0.trans (bA.mono b0.size)
 have R1 := R0.call bA
 have A1 := A0.call bA
 have Y1 := Mem.Blk.new ((w.alloc (.cells #[.map qo, .int .i64 m, .slice (some ⟨g, 0, none⟩) 2 cap] 74)).alloc (.cells #[.map none, .int .i64 0, .slice none 0 0] 74)) #[.map (some q1), .int .i64 (k1.len : Int), .slice a1 k1.len cap1] 74
 have RX := hide (fun W (b : Below w.heap.size w W) => (⟨Mem.zl9 hrA b, hm1⟩ : _ ∧ _))
 have HXC0 := hide hxc
 have HXV := hide (fun j u hj => (by have := hxv j u hj; rw [Nat.zero_add] at this; exact this : w.cell? ⟨g, j, none⟩ = some u))
 have HGLw := hide hg
 have HSUB := hide hsub
 have y2 := Y1.cell 2
 have y0 := Y1.cell 0
 have y1 := Y1.cell 1
 simp only [kGs] at y0 y1 y2
 clear hrow hrA c0 c1 c2 hxc hxl hxv A0 R0 hm1 hNg hNq hsub RX
 go_enter Tryz.func57, Tryz.ntmps57
 go_wp2_with fail
 generalize ((w.alloc (.cells #[.map qo, .int .i64 m, .slice (some ⟨g, 0, none⟩) 2 cap] 74)).alloc (.cells #[.map none, .int .i64 0, .slice none 0 0] 74)).alloc (.cells #[.map (some q1), .int .i64 (k1.len : Int), .slice a1 k1.len cap1] 74) = w2 at bw R1 A1 Y1 y0 y1 y2 ⊢
 clear cx e0 e1 e2 bA b0
 rw [hs0] at Y1 y0 y1 y2
 refine (za hlf _).mono ?_
 rintro e w3 ⟨rfl, b3⟩
 have bw3 := bw.trans (b3.mono bw.size)
 have R3 := R1.call b3
 have A3 := A1.call b3
 have Y3 := Y1.call b3
 clear R1 A1 Y1 y0 y1 y2 bw b3 hlf
 by_cases hk0 : k1.len = 0
 ·have E : Hid (FK = none) := hide (by rw [hF, if_pos (.inl hk0)])
  rw [show decide (k1.len = 0) = true from decide_eq_true hk0]
  have HB := hide bw3
  have d0 := R3.cell 0
  have d1 := R3.cell 1
  have d2 := R3.cell 2
  have f0 := R3.fr 0
  have f1 := R3.fr 1
  have f2 := R3.fr 2
  simp only [kGs] at d0 d1 d2
  clear R3 A3 Y3 bw3 HXC0 HXV HSUB hF
  go_wp2
  refine bodyPost_ret (v := .tuple #[.agg #[.map none, .int .i64 0, .slice none 0 0], .bool false]) (by simp [results, Tryz.results57, go_sem, d0, d1, d2]) rfl ⟨Or.inr ⟨za E, rfl⟩, ?_⟩
  first | exact za HB | exact (((za HB).setCell (by show w.heap.size ≤ w.heap.size + 1; omega) _).setCell (by show w.heap.size ≤ w.heap.size + 1; omega) _).setCell (by show w.heap.size ≤ w.heap.size + 1; omega) _
 rw [show decide (k1.len = 0) = false from decide_eq_false hk0]
 have y2 := Y3.cell 2
 have x2 := A3.cell 2
 simp only [kGs] at y2 x2
 by_cases h4 : 4 < A.len + k1.len
 ·have E : Hid (FK = none) := hide (by rw [hF, if_pos (.inr h4)])
  have u1 : (4 : Int) < 1 + (k1.len : Int) := by omega
  have HB := hide bw3
  have d0 := R3.cell 0
  have d1 := R3.cell 1
  have d2 := R3.cell 2
  have f0 := R3.fr 0
  have f1 := R3.fr 1
  have f2 := R3.fr 2
  simp only [kGs] at d0 d1 d2
  clear R3 A3 Y3 bw3 HXC0 HXV HSUB hF x2
  go_wp2
  refine bodyPost_ret (v := .tuple #[.agg #[.map none, .int .i64 0, .slice none 0 0], .bool false]) (by simp [results, Tryz.results57, go_sem, d0, d1, d2]) rfl ⟨Or.inr ⟨za E, rfl⟩, ?_⟩
  first | exact za HB | exact (((za HB).setCell (by show w.heap.size ≤ w.heap.size + 1; omega) _).setCell (by show w.heap.size ≤ w.heap.size + 1; omega) _).setCell (by show w.heap.size ≤ w.heap.size + 1; omega) _
 have u1 : ¬ (4 : Int) < 1 + (k1.len : Int) := by omega
 have E : Hid (FK = some (A.app k1)) := hide (by rw [hF, if_neg (by omega)])
 rcases za HSUB with h | ⟨g1, rfl, hc1, hr1⟩
 ·rw [h] at hk0; exact absurd rfl hk0
 obtain ⟨ys, hyc, hyl, hyv⟩ := Mem.zu7 k1 0 hr1
 have hg1 : g1 < w.heap.size := by
  cases k1 with
  | nil => exact absurd rfl hk0
  | cons L' k' m' =>
   obtain ⟨⟨q, a', c', -, -, -, h4', -⟩, -⟩ := hr1
   exact h4'
 have HGL : Hid (g < w3.heap.size) := hide (Nat.lt_of_lt_of_le (za HGLw) bw3.size)
 have HGL1 : Hid (g1 < w3.heap.size) := hide (Nat.lt_of_lt_of_le hg1 bw3.size)
 have HXC : Hid (∀ (j : Nat) (u : Value), xs[j]? = some u → w3.cell? ⟨g, j, none⟩ = some u) := hide (fun j u hj => (bw3.cell (p := ⟨g, j, none⟩) (za HGLw)).trans (za HXV j u hj))
 have HYC : Hid (∀ (j : Nat) (u : Value), ys[j]? = some u → w3.cell? ⟨g1, j, none⟩ = some u) := hide (fun j u hj => (bw3.cell (p := ⟨g1, j, none⟩) hg1).trans (by have := hyv j u hj; rw [Nat.zero_add] at this; exact this))
 have HYL := hide hyl
 have HCX : Hid (Mem.zj7 w (fun b => b < w.heap.size) (A.app k1) (xs ++ ys)) := hide (Mem.zn1 (fun b _ hlt => ⟨hlt, hlt, rfl⟩) _ _ (Mem.yn5 A k1 xs ys (za HXC0) hyc))
 have u4 : (1 : Int) ≤ (cap : Int) := by omega
 have HAL := A3.lt
 have HYL2 := Y3.lt
 have MK : Hid (∀ W', Below w3.heap.size w3 W' → (fun W' => Below w3.heap.size w3 W' ∧ W'.cell? ⟨w.heap.size, 2, none⟩ = some (.slice (some ⟨g, 0, none⟩) 2 cap) ∧ W'.cell? ⟨w.heap.size + 1 + 1, 2, none⟩ = some (.slice (some ⟨g1, 0, none⟩) k1.len cap1)) W') := fun W' hb => ⟨hb, (hb.cell (p := ⟨w.heap.size, 2, none⟩) HAL).trans x2, (hb.cell (p := ⟨w.heap.size + 1 + 1, 2, none⟩) HYL2).trans y2⟩
 have hAl : (A.app k1).len = 1 + k1.len := by rw [Pl.Fx.zh9, hA]
 clear HSUB hr1 hyc hyl hyv HXC0 HXV A3 Y3 hF x2
 go_wp2_with fail
 refine wp_region_held_drew (S := fun W' => Below w3.heap.size w3 W' ∧ W'.cell? ⟨w.heap.size, 2, none⟩ = some (.slice (some ⟨g, 0, none⟩) 2 cap) ∧ W'.cell? ⟨w.heap.size + 1 + 1, 2, none⟩ = some (.slice (some ⟨g1, 0, none⟩) k1.len cap1)) (by kernel_rfl) ?_ (fun hHeld => ?_)
 ·exact za MK _ ((Below.refl _ _).trans ⟨rfl, rfl, rfl, Nat.le_refl _, fun _ _ => rfl⟩)
 refine tka (i := 0) rfl ?_
 try simp only [Act.put, kBs]
 refine tka (i := 1) rfl ?_
 try simp only [Act.put, kBs]
 refine tka (i := 2) rfl ?_
 try simp only [Act.put, kBs]
 refine tka (i := 3) rfl ?_
 try simp only [Act.put, kBs]
 refine tka (i := 4) rfl ?_
 try simp only [Act.put, kBs]
 refine tka (i := 5) rfl ?_
 try simp only [Act.put, kBs]
 refine tka (i := 6) rfl ?_
 try simp only [Act.put, kBs]
 refine wpAnyH_ready (rs := [7]) (by kernel_rfl) (by simp) ?_
 refine AllReadyH.cons rfl (fun Kx hK => ?_) AllReadyH.nil
 refine Mem.zw9 rfl _ _ 72 rfl 74 i0 (.agg #[.map none, .int .i64 0, .slice none 0 0]) Tryz.underlying72 hi hz0 ⟨g, 0, none⟩ 1 1 xs rfl (by rw [hz1]; exact za HXL) (fun j u hj => by rw [Mem.add_lit]; exact (cellB hHeld.1 (za HGL)).trans (za HXC j u hj)) ⟨g1, 0, none⟩ k1.len cap1 ys rfl (by rw [hz1]; exact za HYL) (fun j u hj => by rw [Mem.add_lit]; exact (cellB hHeld.1 (za HGL1)).trans (za HYC j u hj)) (by omega) (by omega) (by rw [hz2]; exact fit (by decide) (by omega) (by omega)) ?_
 intro cap' cs hcap' hcs
 have bD : Below w3.heap.size w3 (w3.drew.drew.alloc (.cells cs 74)) := (hHeld.1.trans (Below.mono (B := w3.drew.heap.size) (w := w3.drew) (w' := w3.drew.drew) ⟨rfl, rfl, rfl, Nat.le_refl _, fun _ _ => rfl⟩ (Nat.le_refl _))).alloc (Nat.le_refl _) _
 have HCS := hide hcs
 refine hK.out _ _ ?_ (fun hHeld => ?_)
 ·exact za MK _ bD
 clear hK Kx
 try simp only [Act.put, kBs]
 refine tka (i := 8) rfl ?_
 try simp only [Act.put, kBs]
 refine wpAnyH_done (by kernel_rfl) ?_ _
 have hbN := hHeld.1
 have h9 : (w3.drew.drew.alloc (.cells cs 74)).heap[w3.heap.size]? = some (.cells cs 74 (0, 0)) := heap_alloc_new w3.drew.drew (.cells cs 74)
 have LX : Hid (Mem.layX (w3.drew.drew.alloc (.cells cs 74)) (fun b => b ≠ w.heap.size + 1) (A.app k1) (.slice (some ⟨w3.heap.size, 0, none⟩) (1 + k1.len) cap')) := hide (by
  refine ⟨_, cap', by rw [hAl], .inr ⟨w3.heap.size, rfl, by rw [hAl]; exact hcap', ?_⟩⟩
  refine Mem.zw0 (N := fun b => b < w.heap.size) (fun b hb => by omega) (by have := R3.lt; omega) (Array.getElem?_eq_some_iff.1 h9).1 _ (xs ++ ys) 0 ?_ ?_
  ·exact Mem.zn1 (fun b hb hlt => ⟨hb, Nat.lt_of_lt_of_le (Nat.lt_of_lt_of_le hlt bw3.size) hbN.size, (hbN.block b (Nat.lt_of_lt_of_le hlt bw3.size)).trans (bw3.block b hlt)⟩) _ _ (za HCX)
  ·intro j u hj
   rw [Nat.zero_add, cell_of_row _ _ _ cs _ (0, 0) h9]
   exact za HCS j u hj)
 have R9 := R3.call hbN
 have bw9 := bw3.trans (hbN.mono bw3.size)
 have HB := hide bw9
 have d0 := R9.cell 0
 have d1 := R9.cell 1
 have d2 := R9.cell 2
 have f0 := R9.fr 0
 have f1 := R9.fr 1
 have f2 := R9.fr 2
 simp only [kGs] at d0 d1 d2
 have hRl := R9.lt
 clear R3 R9 hHeld MK hbN h9 bw3 bw9 HCS HCX HXC HYC
 generalize w3.drew.drew.alloc (.cells cs 74) = w9 at LX HB d0 d1 d2 f0 f1 f2 hRl ⊢
 have HLL := hide hAl
 go_wp2
 refine bodyPost_ret (v := .tuple #[.agg #[.map none, .int .i64 ((1 + k1.len : Nat) : Int), .slice (some ⟨w3.heap.size, 0, none⟩) (1 + k1.len) cap'], .bool true]) (by simp [results, Tryz.results57, go_sem, d0, d1, d2]) rfl ⟨Or.inl ⟨A.app k1, _, cap', za E, by rw [za HLL], ?_⟩, ?_⟩
 ·rw [za HLL]
  exact Mem.zq7 (fun b hb hlt => ⟨trivial, by simpa using hlt, by rw [heap_setCell_other _ _ _ _ (show b ≠ w.heap.size + 1 from hb), heap_setCell_other _ _ _ _ (show b ≠ w.heap.size + 1 from hb), heap_setCell_other _ _ _ _ (show b ≠ w.heap.size + 1 from hb)]⟩) (za LX)
 exact (((za HB).setCell (by show w.heap.size ≤ w.heap.size + 1; omega) _).setCell (by show w.heap.size ≤ w.heap.size + 1; omega) _).setCell (by show w.heap.size ≤ w.heap.size + 1; omega) _
set_option maxRecDepth 100000 in
set_option maxHeartbeats 2000000 in
theorem many3 (N : Nat → Prop) (A k1 : Pl.Fx) (L1 : List Pl.Nd) (FK : Option Pl.Fx) (hF : FK = if k1.len = 0 ∨ 4 < A.len + k1.len then none else some (A.app k1)) (hA : A.len = 2) (hk4 : k1.len ≤ 4) (qo : Option Nat) (m : Int) (g cap : Nat) (hcap : 3 ≤ cap) (w : World) (hrow : Mem.rowX w N (A.app (.cons L1 k1 .nil)) g 0) :
  Calls Tryz.prog 57 #[.agg #[.map qo, .int .i64 m, .slice (some ⟨g, 0, none⟩) 3 cap]] w fun e w' => yf4 w' FK e ∧ Below w.heap.size w w' := by
 obtain ⟨i0, hi, hz0, hz1, hz2⟩ := info_parts zr9.zl3
 have b0 : Below w.heap.size w ((w.alloc (.cells #[.map qo, .int .i64 m, .slice (some ⟨g, 0, none⟩) 3 cap] 74)).alloc (.cells #[.map none, .int .i64 0, .slice none 0 0] 74)) := ((Below.refl _ _).alloc (Nat.le_refl _) _).alloc (by simp) _
 have A0 := (Mem.Blk.new w #[.map qo, .int .i64 m, .slice (some ⟨g, 0, none⟩) 3 cap] 74).alloc (.cells #[.map none, .int .i64 0, .slice none 0 0] 74)
 have R0 : Mem.Blk ((w.alloc (.cells #[.map qo, .int .i64 m, .slice (some ⟨g, 0, none⟩) 3 cap] 74)).alloc (.cells #[.map none, .int .i64 0, .slice none 0 0] 74)) (w.heap.size + 1) #[.map none, .int .i64 0, .slice none 0 0] 74 := Mem.zh2 _ _ _
 have hs0 : ((w.alloc (.cells #[.map qo, .int .i64 m, .slice (some ⟨g, 0, none⟩) 3 cap] 74)).alloc (.cells #[.map none, .int .i64 0, .slice none 0 0] 74)).heap.size = w.heap.size + 1 + 1 := by simp
 have cx := A0.cell 2
 simp only [kGs] at cx
 obtain ⟨hrA, hrL⟩ := Mem.rowX_app A _ 0 hrow
 obtain ⟨⟨q1, a1, cap1, c0, c1, c2, hg, hNg, hNq, hm1, hsub⟩, -⟩ := hrL
 obtain ⟨xs, hxc, hxl, hxv⟩ := Mem.zu7 A 0 hrA
 simp only [hA, Nat.zero_add, Nat.reduceMul, Nat.reduceAdd] at c0 c1 c2
 have HXL : Hid (xs.length = 2 * 3) := hide (by rw [hxl, hA])
 have e0 := (b0.cell (p := ⟨g, _, none⟩) hg).trans c0
 have e1 := (b0.cell (p := ⟨g, _, none⟩) hg).trans c1
 have e2 := (b0.cell (p := ⟨g, _, none⟩) hg).trans c2
 have hlf := hide (fun W => zc0.zr1 k1.shape (some q1) (k1.len : Int) a1 cap1 W)
 rw [Pl.Fx.zt7] at hlf
 have bA : Below ((w.alloc (.cells #[.map qo, .int .i64 m, .slice (some ⟨g, 0, none⟩) 3 cap] 74)).alloc (.cells #[.map none, .int .i64 0, .slice none 0 0] 74)).heap.size ((w.alloc (.cells #[.map qo, .int .i64 m, .slice (some ⟨g, 0, none⟩) 3 cap] 74)).alloc (.cells #[.map none, .int .i64 0, .slice none 0 0] 74)) (((w.alloc (.cells #[.map qo, .int .i64 m, .slice (some ⟨g, 0, none⟩) 3 cap] 74)).alloc (.cells #[.map none, .int .i64 0, .slice none 0 0] 74)).alloc (.cells #[.map (some q1), .int .i64 (k1.len : Int), .slice a1 k1.len cap1] 74)) := (Below.refl _ _).alloc (Nat.le_refl _) _
 have bw := b0.trans (bA.mono b0.size)
 have R1 := R0.call bA
 have A1 := A0.call bA
 have Y1 := Mem.Blk.new ((w.alloc (.cells #[.map qo, .int .i64 m, .slice (some ⟨g, 0, none⟩) 3 cap] 74)).alloc (.cells #[.map none, .int .i64 0, .slice none 0 0] 74)) #[.map (some q1), .int .i64 (k1.len : Int), .slice a1 k1.len cap1] 74
 have RX := hide (fun W (b : Below w.heap.size w W) => (⟨Mem.zl9 hrA b, hm1⟩ : _ ∧ _))
 have HXC0 := hide hxc
 have HXV := hide (fun j u hj => (by have := hxv j u hj; rw [Nat.zero_add] at this; exact this : w.cell? ⟨g, j, none⟩ = some u))
 have HGLw := hide hg
 have HSUB := hide hsub
 have y2 := Y1.cell 2
 have y0 := Y1.cell 0
 have y1 := Y1.cell 1
 simp only [kGs] at y0 y1 y2
 clear hrow hrA c0 c1 c2 hxc hxl hxv A0 R0 hm1 hNg hNq hsub RX
 go_enter Tryz.func57, Tryz.ntmps57
 go_wp2_with fail
 generalize ((w.alloc (.cells #[.map qo, .int .i64 m, .slice (some ⟨g, 0, none⟩) 3 cap] 74)).alloc (.cells #[.map none, .int .i64 0, .slice none 0 0] 74)).alloc (.cells #[.map (some q1), .int .i64 (k1.len : Int), .slice a1 k1.len cap1] 74) = w2 at bw R1 A1 Y1 y0 y1 y2 ⊢
 clear cx e0 e1 e2 bA b0
 rw [hs0] at Y1 y0 y1 y2
 refine (za hlf _).mono ?_
 rintro e w3 ⟨rfl, b3⟩
 have bw3 := bw.trans (b3.mono bw.size)
 have R3 := R1.call b3
 have A3 := A1.call b3
 have Y3 := Y1.call b3
 clear R1 A1 Y1 y0 y1 y2 bw b3 hlf
 by_cases hk0 : k1.len = 0
 ·have E : Hid (FK = none) := hide (by rw [hF, if_pos (.inl hk0)])
  rw [show decide (k1.len = 0) = true from decide_eq_true hk0]
  have HB := hide bw3
  have d0 := R3.cell 0
  have d1 := R3.cell 1
  have d2 := R3.cell 2
  have f0 := R3.fr 0
  have f1 := R3.fr 1
  have f2 := R3.fr 2
  simp only [kGs] at d0 d1 d2
  clear R3 A3 Y3 bw3 HXC0 HXV HSUB hF
  go_wp2
  refine bodyPost_ret (v := .tuple #[.agg #[.map none, .int .i64 0, .slice none 0 0], .bool false]) (by simp [results, Tryz.results57, go_sem, d0, d1, d2]) rfl ⟨Or.inr ⟨za E, rfl⟩, ?_⟩
  first | exact za HB | exact (((za HB).setCell (by show w.heap.size ≤ w.heap.size + 1; omega) _).setCell (by show w.heap.size ≤ w.heap.size + 1; omega) _).setCell (by show w.heap.size ≤ w.heap.size + 1; omega) _
 rw [show decide (k1.len = 0) = false from decide_eq_false hk0]
 have y2 := Y3.cell 2
 have x2 := A3.cell 2
 simp only [kGs] at y2 x2
 by_cases h4 : 4 < A.len + k1.len
 ·have E : Hid (FK = none) := hide (by rw [hF, if_pos (.inr h4)])
  have u1 : (4 : Int) < 2 + (k1.len : Int) := by omega
  have HB := hide bw3
  have d0 := R3.cell 0
  have d1 := R3.cell 1
  have d2 := R3.cell 2
  have f0 := R3.fr 0
  have f1 := R3.fr 1
  have f2 := R3.fr 2
  simp only [kGs] at d0 d1 d2
  clear R3 A3 Y3 bw3 HXC0 HXV HSUB hF x2
  go_wp2
  refine bodyPost_ret (v := .tuple #[.agg #[.map none, .int .i64 0, .slice none 0 0], .bool false]) (by simp [results, Tryz.results57, go_sem, d0, d1, d2]) rfl ⟨Or.inr ⟨za E, rfl⟩, ?_⟩
  first | exact za HB | exact (((za HB).setCell (by show w.heap.size ≤ w.heap.size + 1; omega) _).setCell (by show w.heap.size ≤ w.heap.size + 1; omega) _).setCell (by show w.heap.size ≤ w.heap.size + 1; omega) _
 have u1 : ¬ (4 : Int) < 2 + (k1.len : Int) := by omega
 have E : Hid (FK = some (A.app k1)) := hide (by rw [hF, if_neg (by omega)])
 rcases za HSUB with h | ⟨g1, rfl, hc1, hr1⟩
 ·rw [h] at hk0; exact absurd rfl hk0
 obtain ⟨ys, hyc, hyl, hyv⟩ := Mem.zu7 k1 0 hr1
 have hg1 : g1 < w.heap.size := by
  cases k1 with
  | nil => exact absurd rfl hk0
  | cons L' k' m' =>
   obtain ⟨⟨q, a', c', -, -, -, h4', -⟩, -⟩ := hr1
   exact h4'
 have HGL : Hid (g < w3.heap.size) := hide (Nat.lt_of_lt_of_le (za HGLw) bw3.size)
 have HGL1 : Hid (g1 < w3.heap.size) := hide (Nat.lt_of_lt_of_le hg1 bw3.size)
 have HXC : Hid (∀ (j : Nat) (u : Value), xs[j]? = some u → w3.cell? ⟨g, j, none⟩ = some u) := hide (fun j u hj => (bw3.cell (p := ⟨g, j, none⟩) (za HGLw)).trans (za HXV j u hj))
 have HYC : Hid (∀ (j : Nat) (u : Value), ys[j]? = some u → w3.cell? ⟨g1, j, none⟩ = some u) := hide (fun j u hj => (bw3.cell (p := ⟨g1, j, none⟩) hg1).trans (by have := hyv j u hj; rw [Nat.zero_add] at this; exact this))
 have HYL := hide hyl
 have HCX : Hid (Mem.zj7 w (fun b => b < w.heap.size) (A.app k1) (xs ++ ys)) := hide (Mem.zn1 (fun b _ hlt => ⟨hlt, hlt, rfl⟩) _ _ (Mem.yn5 A k1 xs ys (za HXC0) hyc))
 have u4 : (2 : Int) ≤ (cap : Int) := by omega
 have HAL := A3.lt
 have HYL2 := Y3.lt
 have MK : Hid (∀ W', Below w3.heap.size w3 W' → (fun W' => Below w3.heap.size w3 W' ∧ W'.cell? ⟨w.heap.size, 2, none⟩ = some (.slice (some ⟨g, 0, none⟩) 3 cap) ∧ W'.cell? ⟨w.heap.size + 1 + 1, 2, none⟩ = some (.slice (some ⟨g1, 0, none⟩) k1.len cap1)) W') := fun W' hb => ⟨hb, (hb.cell (p := ⟨w.heap.size, 2, none⟩) HAL).trans x2, (hb.cell (p := ⟨w.heap.size + 1 + 1, 2, none⟩) HYL2).trans y2⟩
 have hAl : (A.app k1).len = 2 + k1.len := by rw [Pl.Fx.zh9, hA]
 clear HSUB hr1 hyc hyl hyv HXC0 HXV A3 Y3 hF x2
 go_wp2_with fail
 refine wp_region_held_drew (S := fun W' => Below w3.heap.size w3 W' ∧ W'.cell? ⟨w.heap.size, 2, none⟩ = some (.slice (some ⟨g, 0, none⟩) 3 cap) ∧ W'.cell? ⟨w.heap.size + 1 + 1, 2, none⟩ = some (.slice (some ⟨g1, 0, none⟩) k1.len cap1)) (by kernel_rfl) ?_ (fun hHeld => ?_)
 ·exact za MK _ ((Below.refl _ _).trans ⟨rfl, rfl, rfl, Nat.le_refl _, fun _ _ => rfl⟩)
 refine tka (i := 0) rfl ?_
 try simp only [Act.put, kBs]
 refine tka (i := 1) rfl ?_
 try simp only [Act.put, kBs]
 refine tka (i := 2) rfl ?_
 try simp only [Act.put, kBs]
 refine tka (i := 3) rfl ?_
 try simp only [Act.put, kBs]
 refine tka (i := 4) rfl ?_
 try simp only [Act.put, kBs]
 refine tka (i := 5) rfl ?_
 try simp only [Act.put, kBs]
 refine tka (i := 6) rfl ?_
 try simp only [Act.put, kBs]
 refine wpAnyH_ready (rs := [7]) (by kernel_rfl) (by simp) ?_
 refine AllReadyH.cons rfl (fun Kx hK => ?_) AllReadyH.nil
 refine Mem.zw9 rfl _ _ 72 rfl 74 i0 (.agg #[.map none, .int .i64 0, .slice none 0 0]) Tryz.underlying72 hi hz0 ⟨g, 0, none⟩ 2 2 xs rfl (by rw [hz1]; exact za HXL) (fun j u hj => by rw [Mem.add_lit]; exact (cellB hHeld.1 (za HGL)).trans (za HXC j u hj)) ⟨g1, 0, none⟩ k1.len cap1 ys rfl (by rw [hz1]; exact za HYL) (fun j u hj => by rw [Mem.add_lit]; exact (cellB hHeld.1 (za HGL1)).trans (za HYC j u hj)) (by omega) (by omega) (by rw [hz2]; exact fit (by decide) (by omega) (by omega)) ?_
 intro cap' cs hcap' hcs
 have bD : Below w3.heap.size w3 (w3.drew.drew.alloc (.cells cs 74)) := (hHeld.1.trans (Below.mono (B := w3.drew.heap.size) (w := w3.drew) (w' := w3.drew.drew) ⟨rfl, rfl, rfl, Nat.le_refl _, fun _ _ => rfl⟩ (Nat.le_refl _))).alloc (Nat.le_refl _) _
 have HCS := hide hcs
 refine hK.out _ _ ?_ (fun hHeld => ?_)
 ·exact za MK _ bD
 clear hK Kx
 try simp only [Act.put, kBs]
 refine tka (i := 8) rfl ?_
 try simp only [Act.put, kBs]
 refine wpAnyH_done (by kernel_rfl) ?_ _
 have hbN := hHeld.1
 have h9 : (w3.drew.drew.alloc (.cells cs 74)).heap[w3.heap.size]? = some (.cells cs 74 (0, 0)) := heap_alloc_new w3.drew.drew (.cells cs 74)
 have LX : Hid (Mem.layX (w3.drew.drew.alloc (.cells cs 74)) (fun b => b ≠ w.heap.size + 1) (A.app k1) (.slice (some ⟨w3.heap.size, 0, none⟩) (2 + k1.len) cap')) := hide (by
  refine ⟨_, cap', by rw [hAl], .inr ⟨w3.heap.size, rfl, by rw [hAl]; exact hcap', ?_⟩⟩
  refine Mem.zw0 (N := fun b => b < w.heap.size) (fun b hb => by omega) (by have := R3.lt; omega) (Array.getElem?_eq_some_iff.1 h9).1 _ (xs ++ ys) 0 ?_ ?_
  ·exact Mem.zn1 (fun b hb hlt => ⟨hb, Nat.lt_of_lt_of_le (Nat.lt_of_lt_of_le hlt bw3.size) hbN.size, (hbN.block b (Nat.lt_of_lt_of_le hlt bw3.size)).trans (bw3.block b hlt)⟩) _ _ (za HCX)
  ·intro j u hj
   rw [Nat.zero_add, cell_of_row _ _ _ cs _ (0, 0) h9]
   exact za HCS j u hj)
 have R9 := R3.call hbN
 have bw9 := bw3.trans (hbN.mono bw3.size)
 have HB := hide bw9
 have d0 := R9.cell 0
 have d1 := R9.cell 1
 have d2 := R9.cell 2
 have f0 := R9.fr 0
 have f1 := R9.fr 1
 have f2 := R9.fr 2
 simp only [kGs] at d0 d1 d2
 have hRl := R9.lt
 clear R3 R9 hHeld MK hbN h9 bw3 bw9 HCS HCX HXC HYC
 generalize w3.drew.drew.alloc (.cells cs 74) = w9 at LX HB d0 d1 d2 f0 f1 f2 hRl ⊢
 have HLL := hide hAl
 go_wp2
 refine bodyPost_ret (v := .tuple #[.agg #[.map none, .int .i64 ((2 + k1.len : Nat) : Int), .slice (some ⟨w3.heap.size, 0, none⟩) (2 + k1.len) cap'], .bool true]) (by simp [results, Tryz.results57, go_sem, d0, d1, d2]) rfl ⟨Or.inl ⟨A.app k1, _, cap', za E, by rw [za HLL], ?_⟩, ?_⟩
 ·rw [za HLL]
  exact Mem.zq7 (fun b hb hlt => ⟨trivial, by simpa using hlt, by rw [heap_setCell_other _ _ _ _ (show b ≠ w.heap.size + 1 from hb), heap_setCell_other _ _ _ _ (show b ≠ w.heap.size + 1 from hb), heap_setCell_other _ _ _ _ (show b ≠ w.heap.size + 1 from hb)]⟩) (za LX)
 exact (((za HB).setCell (by show w.heap.size ≤ w.heap.size + 1; omega) _).setCell (by show w.heap.size ≤ w.heap.size + 1; omega) _).setCell (by show w.heap.size ≤ w.heap.size + 1; omega) _
set_option maxRecDepth 100000 in
set_option maxHeartbeats 2000000 in
theorem many4 (N : Nat → Prop) (A k1 : Pl.Fx) (L1 : List Pl.Nd) (FK : Option Pl.Fx) (hF : FK = if k1.len = 0 ∨ 4 < A.len + k1.len then none else some (A.app k1)) (hA : A.len = 3) (hk4 : k1.len ≤ 4) (qo : Option Nat) (m : Int) (g cap : Nat) (hcap : 4 ≤ cap) (w : World) (hrow : Mem.rowX w N (A.app (.cons L1 k1 .nil)) g 0) :
  Calls Tryz.prog 57 #[.agg #[.map qo, .int .i64 m, .slice (some ⟨g, 0, none⟩) 4 cap]] w fun e w' => yf4 w' FK e ∧ Below w.heap.size w w' := by
 obtain ⟨i0, hi, hz0, hz1, hz2⟩ := info_parts zr9.zl3
 have b0 : Below w.heap.size w ((w.alloc (.cells #[.map qo, .int .i64 m, .slice (some ⟨g, 0, none⟩) 4 cap] 74)).alloc (.cells #[.map none, .int .i64 0, .slice none 0 0] 74)) := ((Below.refl _ _).alloc (Nat.le_refl _) _).alloc (by simp) _
 have A0 := (Mem.Blk.new w #[.map qo, .int .i64 m, .slice (some ⟨g, 0, none⟩) 4 cap] 74).alloc (.cells #[.map none, .int .i64 0, .slice none 0 0] 74)
 have R0 : Mem.Blk ((w.alloc (.cells #[.map qo, .int .i64 m, .slice (some ⟨g, 0, none⟩) 4 cap] 74)).alloc (.cells #[.map none, .int .i64 0, .slice none 0 0] 74)) (w.heap.size + 1) #[.map none, .int .i64 0, .slice none 0 0] 74 := Mem.zh2 _ _ _
 have hs0 : ((w.alloc (.cells #[.map qo, .int .i64 m, .slice (some ⟨g, 0, none⟩) 4 cap] 74)).alloc (.cells #[.map none, .int .i64 0, .slice none 0 0] 74)).heap.size = w.heap.size + 1 + 1 := by simp
 have cx := A0.cell 2
 simp only [kGs] at cx
 obtain ⟨hrA, hrL⟩ := Mem.rowX_app A _ 0 hrow
 obtain ⟨⟨q1, a1, cap1, c0, c1, c2, hg, hNg, hNq, hm1, hsub⟩, -⟩ := hrL
 obtain ⟨xs, hxc, hxl, hxv⟩ := Mem.zu7 A 0 hrA
 simp only [hA, Nat.zero_add, Nat.reduceMul, Nat.reduceAdd] at c0 c1 c2
 have HXL : Hid (xs.length = 3 * 3) := hide (by rw [hxl, hA])
 have e0 := (b0.cell (p := ⟨g, _, none⟩) hg).trans c0
 have e1 := (b0.cell (p := ⟨g, _, none⟩) hg).trans c1
 have e2 := (b0.cell (p := ⟨g, _, none⟩) hg).trans c2
 have hlf := hide (fun W => zc0.zr1 k1.shape (some q1) (k1.len : Int) a1 cap1 W)
 rw [Pl.Fx.zt7] at hlf
 have bA : Below ((w.alloc (.cells #[.map qo, .int .i64 m, .slice (some ⟨g, 0, none⟩) 4 cap] 74)).alloc (.cells #[.map none, .int .i64 0, .slice none 0 0] 74)).heap.size ((w.alloc (.cells #[.map qo, .int .i64 m, .slice (some ⟨g, 0, none⟩) 4 cap] 74)).alloc (.cells #[.map none, .int .i64 0, .slice none 0 0] 74)) (((w.alloc (.cells #[.map qo, .int .i64 m, .slice (some ⟨g, 0, none⟩) 4 cap] 74)).alloc (.cells #[.map none, .int .i64 0, .slice none 0 0] 74)).alloc (.cells #[.map (some q1), .int .i64 (k1.len : Int), .slice a1 k1.len cap1] 74)) := (Below.refl _ _).alloc (Nat.le_refl _) _
 have bw := b0.trans (bA.mono b0.size)
 have R1 := R0.call bA
 have A1 := A0.call bA
 have Y1 := Mem.Blk.new ((w.alloc (.cells #[.map qo, .int .i64 m, .slice (some ⟨g, 0, none⟩) 4 cap] 74)).alloc (.cells #[.map none, .int .i64 0, .slice none 0 0] 74)) #[.map (some q1), .int .i64 (k1.len : Int), .slice a1 k1.len cap1] 74
 have RX := hide (fun W (b : Below w.heap.size w W) => (⟨Mem.zl9 hrA b, hm1⟩ : _ ∧ _))
 have HXC0 := hide hxc
 have HXV := hide (fun j u hj => (by have := hxv j u hj; rw [Nat.zero_add] at this; exact this : w.cell? ⟨g, j, none⟩ = some u))
 have HGLw := hide hg
 have HSUB := hide hsub
 have y2 := Y1.cell 2
 have y0 := Y1.cell 0
 have y1 := Y1.cell 1
 simp only [kGs] at y0 y1 y2
 clear hrow hrA c0 c1 c2 hxc hxl hxv A0 R0 hm1 hNg hNq hsub RX
 go_enter Tryz.func57, Tryz.ntmps57
 go_wp2_with fail
 generalize ((w.alloc (.cells #[.map qo, .int .i64 m, .slice (some ⟨g, 0, none⟩) 4 cap] 74)).alloc (.cells #[.map none, .int .i64 0, .slice none 0 0] 74)).alloc (.cells #[.map (some q1), .int .i64 (k1.len : Int), .slice a1 k1.len cap1] 74) = w2 at bw R1 A1 Y1 y0 y1 y2 ⊢
 clear cx e0 e1 e2 bA b0
 rw [hs0] at Y1 y0 y1 y2
 refine (za hlf _).mono ?_
 rintro e w3 ⟨rfl, b3⟩
 have bw3 := bw.trans (b3.mono bw.size)
 have R3 := R1.call b3
 have A3 := A1.call b3
 have Y3 := Y1.call b3
 clear R1 A1 Y1 y0 y1 y2 bw b3 hlf
 by_cases hk0 : k1.len = 0
 ·have E : Hid (FK = none) := hide (by rw [hF, if_pos (.inl hk0)])
  rw [show decide (k1.len = 0) = true from decide_eq_true hk0]
  have HB := hide bw3
  have d0 := R3.cell 0
  have d1 := R3.cell 1
  have d2 := R3.cell 2
  have f0 := R3.fr 0
  have f1 := R3.fr 1
  have f2 := R3.fr 2
  simp only [kGs] at d0 d1 d2
  clear R3 A3 Y3 bw3 HXC0 HXV HSUB hF
  go_wp2
  refine bodyPost_ret (v := .tuple #[.agg #[.map none, .int .i64 0, .slice none 0 0], .bool false]) (by simp [results, Tryz.results57, go_sem, d0, d1, d2]) rfl ⟨Or.inr ⟨za E, rfl⟩, ?_⟩
  first | exact za HB | exact (((za HB).setCell (by show w.heap.size ≤ w.heap.size + 1; omega) _).setCell (by show w.heap.size ≤ w.heap.size + 1; omega) _).setCell (by show w.heap.size ≤ w.heap.size + 1; omega) _
 rw [show decide (k1.len = 0) = false from decide_eq_false hk0]
 have y2 := Y3.cell 2
 have x2 := A3.cell 2
 simp only [kGs] at y2 x2
 by_cases h4 : 4 < A.len + k1.len
 ·have E : Hid (FK = none) := hide (by rw [hF, if_pos (.inr h4)])
  have u1 : (4 : Int) < 3 + (k1.len : Int) := by omega
  have HB := hide bw3
  have d0 := R3.cell 0
  have d1 := R3.cell 1
  have d2 := R3.cell 2
  have f0 := R3.fr 0
  have f1 := R3.fr 1
  have f2 := R3.fr 2
  simp only [kGs] at d0 d1 d2
  clear R3 A3 Y3 bw3 HXC0 HXV HSUB hF x2
  go_wp2
  refine bodyPost_ret (v := .tuple #[.agg #[.map none, .int .i64 0, .slice none 0 0], .bool false]) (by simp [results, Tryz.results57, go_sem, d0, d1, d2]) rfl ⟨Or.inr ⟨za E, rfl⟩, ?_⟩
  first | exact za HB | exact (((za HB).setCell (by show w.heap.size ≤ w.heap.size + 1; omega) _).setCell (by show w.heap.size ≤ w.heap.size + 1; omega) _).setCell (by show w.heap.size ≤ w.heap.size + 1; omega) _
 have u1 : ¬ (4 : Int) < 3 + (k1.len : Int) := by omega
 have E : Hid (FK = some (A.app k1)) := hide (by rw [hF, if_neg (by omega)])
 rcases za HSUB with h | ⟨g1, rfl, hc1, hr1⟩
 ·rw [h] at hk0; exact absurd rfl hk0
 obtain ⟨ys, hyc, hyl, hyv⟩ := Mem.zu7 k1 0 hr1
 have hg1 : g1 < w.heap.size := by
  cases k1 with
  | nil => exact absurd rfl hk0
  | cons L' k' m' =>
   obtain ⟨⟨q, a', c', -, -, -, h4', -⟩, -⟩ := hr1
   exact h4'
 have HGL : Hid (g < w3.heap.size) := hide (Nat.lt_of_lt_of_le (za HGLw) bw3.size)
 have HGL1 : Hid (g1 < w3.heap.size) := hide (Nat.lt_of_lt_of_le hg1 bw3.size)
 have HXC : Hid (∀ (j : Nat) (u : Value), xs[j]? = some u → w3.cell? ⟨g, j, none⟩ = some u) := hide (fun j u hj => (bw3.cell (p := ⟨g, j, none⟩) (za HGLw)).trans (za HXV j u hj))
 have HYC : Hid (∀ (j : Nat) (u : Value), ys[j]? = some u → w3.cell? ⟨g1, j, none⟩ = some u) := hide (fun j u hj => (bw3.cell (p := ⟨g1, j, none⟩) hg1).trans (by have := hyv j u hj; rw [Nat.zero_add] at this; exact this))
 have HYL := hide hyl
 have HCX : Hid (Mem.zj7 w (fun b => b < w.heap.size) (A.app k1) (xs ++ ys)) := hide (Mem.zn1 (fun b _ hlt => ⟨hlt, hlt, rfl⟩) _ _ (Mem.yn5 A k1 xs ys (za HXC0) hyc))
 have u4 : (3 : Int) ≤ (cap : Int) := by omega
 have HAL := A3.lt
 have HYL2 := Y3.lt
 have MK : Hid (∀ W', Below w3.heap.size w3 W' → (fun W' => Below w3.heap.size w3 W' ∧ W'.cell? ⟨w.heap.size, 2, none⟩ = some (.slice (some ⟨g, 0, none⟩) 4 cap) ∧ W'.cell? ⟨w.heap.size + 1 + 1, 2, none⟩ = some (.slice (some ⟨g1, 0, none⟩) k1.len cap1)) W') := fun W' hb => ⟨hb, (hb.cell (p := ⟨w.heap.size, 2, none⟩) HAL).trans x2, (hb.cell (p := ⟨w.heap.size + 1 + 1, 2, none⟩) HYL2).trans y2⟩
 have hAl : (A.app k1).len = 3 + k1.len := by rw [Pl.Fx.zh9, hA]
 clear HSUB hr1 hyc hyl hyv HXC0 HXV A3 Y3 hF x2
 go_wp2_with fail
 refine wp_region_held_drew (S := fun W' => Below w3.heap.size w3 W' ∧ W'.cell? ⟨w.heap.size, 2, none⟩ = some (.slice (some ⟨g, 0, none⟩) 4 cap) ∧ W'.cell? ⟨w.heap.size + 1 + 1, 2, none⟩ = some (.slice (some ⟨g1, 0, none⟩) k1.len cap1)) (by kernel_rfl) ?_ (fun hHeld => ?_)
 ·exact za MK _ ((Below.refl _ _).trans ⟨rfl, rfl, rfl, Nat.le_refl _, fun _ _ => rfl⟩)
 refine tka (i := 0) rfl ?_
 try simp only [Act.put, kBs]
 refine tka (i := 1) rfl ?_
 try simp only [Act.put, kBs]
 refine tka (i := 2) rfl ?_
 try simp only [Act.put, kBs]
 refine tka (i := 3) rfl ?_
 try simp only [Act.put, kBs]
 refine tka (i := 4) rfl ?_
 try simp only [Act.put, kBs]
 refine tka (i := 5) rfl ?_
 try simp only [Act.put, kBs]
 refine tka (i := 6) rfl ?_
 try simp only [Act.put, kBs]
 refine wpAnyH_ready (rs := [7]) (by kernel_rfl) (by simp) ?_
 refine AllReadyH.cons rfl (fun Kx hK => ?_) AllReadyH.nil
 refine Mem.zw9 rfl _ _ 72 rfl 74 i0 (.agg #[.map none, .int .i64 0, .slice none 0 0]) Tryz.underlying72 hi hz0 ⟨g, 0, none⟩ 3 3 xs rfl (by rw [hz1]; exact za HXL) (fun j u hj => by rw [Mem.add_lit]; exact (cellB hHeld.1 (za HGL)).trans (za HXC j u hj)) ⟨g1, 0, none⟩ k1.len cap1 ys rfl (by rw [hz1]; exact za HYL) (fun j u hj => by rw [Mem.add_lit]; exact (cellB hHeld.1 (za HGL1)).trans (za HYC j u hj)) (by omega) (by omega) (by rw [hz2]; exact fit (by decide) (by omega) (by omega)) ?_
 intro cap' cs hcap' hcs
 have bD : Below w3.heap.size w3 (w3.drew.drew.alloc (.cells cs 74)) := (hHeld.1.trans (Below.mono (B := w3.drew.heap.size) (w := w3.drew) (w' := w3.drew.drew) ⟨rfl, rfl, rfl, Nat.le_refl _, fun _ _ => rfl⟩ (Nat.le_refl _))).alloc (Nat.le_refl _) _
 have HCS := hide hcs
 refine hK.out _ _ ?_ (fun hHeld => ?_)
 ·exact za MK _ bD
 clear hK Kx
 try simp only [Act.put, kBs]
 refine tka (i := 8) rfl ?_
 try simp only [Act.put, kBs]
 refine wpAnyH_done (by kernel_rfl) ?_ _
 have hbN := hHeld.1
 have h9 : (w3.drew.drew.alloc (.cells cs 74)).heap[w3.heap.size]? = some (.cells cs 74 (0, 0)) := heap_alloc_new w3.drew.drew (.cells cs 74)
 have LX : Hid (Mem.layX (w3.drew.drew.alloc (.cells cs 74)) (fun b => b ≠ w.heap.size + 1) (A.app k1) (.slice (some ⟨w3.heap.size, 0, none⟩) (3 + k1.len) cap')) := hide (by
  refine ⟨_, cap', by rw [hAl], .inr ⟨w3.heap.size, rfl, by rw [hAl]; exact hcap', ?_⟩⟩
  refine Mem.zw0 (N := fun b => b < w.heap.size) (fun b hb => by omega) (by have := R3.lt; omega) (Array.getElem?_eq_some_iff.1 h9).1 _ (xs ++ ys) 0 ?_ ?_
  ·exact Mem.zn1 (fun b hb hlt => ⟨hb, Nat.lt_of_lt_of_le (Nat.lt_of_lt_of_le hlt bw3.size) hbN.size, (hbN.block b (Nat.lt_of_lt_of_le hlt bw3.size)).trans (bw3.block b hlt)⟩) _ _ (za HCX)
  ·intro j u hj
   rw [Nat.zero_add, cell_of_row _ _ _ cs _ (0, 0) h9]
   exact za HCS j u hj)
 have R9 := R3.call hbN
 have bw9 := bw3.trans (hbN.mono bw3.size)
 have HB := hide bw9
 have d0 := R9.cell 0
 have d1 := R9.cell 1
 have d2 := R9.cell 2
 have f0 := R9.fr 0
 have f1 := R9.fr 1
 have f2 := R9.fr 2
 simp only [kGs] at d0 d1 d2
 have hRl := R9.lt
 clear R3 R9 hHeld MK hbN h9 bw3 bw9 HCS HCX HXC HYC
 generalize w3.drew.drew.alloc (.cells cs 74) = w9 at LX HB d0 d1 d2 f0 f1 f2 hRl ⊢
 have HLL := hide hAl
 go_wp2
 refine bodyPost_ret (v := .tuple #[.agg #[.map none, .int .i64 ((3 + k1.len : Nat) : Int), .slice (some ⟨w3.heap.size, 0, none⟩) (3 + k1.len) cap'], .bool true]) (by simp [results, Tryz.results57, go_sem, d0, d1, d2]) rfl ⟨Or.inl ⟨A.app k1, _, cap', za E, by rw [za HLL], ?_⟩, ?_⟩
 ·rw [za HLL]
  exact Mem.zq7 (fun b hb hlt => ⟨trivial, by simpa using hlt, by rw [heap_setCell_other _ _ _ _ (show b ≠ w.heap.size + 1 from hb), heap_setCell_other _ _ _ _ (show b ≠ w.heap.size + 1 from hb), heap_setCell_other _ _ _ _ (show b ≠ w.heap.size + 1 from hb)]⟩) (za LX)
 exact (((za HB).setCell (by show w.heap.size ≤ w.heap.size + 1; omega) _).setCell (by show w.heap.size ≤ w.heap.size + 1; omega) _).setCell (by show w.heap.size ≤ w.heap.size + 1; omega) _
theorem flat_any (N : Nat → Prop) (K : Pl.Fx) (qo : Option Nat) (m : Int) (v : Value) (w : World) (hK4 : K.len ≤ 4) (hx : K.okX) (hl : Mem.layX w N K v) :
  Calls Tryz.prog 57 #[.agg #[.map qo, .int .i64 m, v]] w fun e w' => yf4 w' K.flatK e ∧ Below w.heap.size w w' := by
 obtain ⟨a, cap, rfl, hrow⟩ := hl
 by_cases h2 : K.len < 2
 ·have E : K.flatK = none := if_pos h2
  have hk : K.len = 0 ∨ K.len = 1 := by omega
  rcases hk with hk | hk
  ·rw [hk]; exact few0 _ E qo m a cap w
  ·rw [hk]; exact few1 _ E qo m a cap w
 rcases hrow with h | ⟨g, rfl, hcap, hrow⟩
 ·rw [h] at h2; exact absurd (by decide) h2
 obtain ⟨hsp, hsl⟩ := K.yb9 (by omega)
 have hfk : K.flatK = if K.zb7.2.2.len = 0 ∨ 4 < K.zb7.1.len + K.zb7.2.2.len then none else some (K.zb7.1.app K.zb7.2.2) := if_neg h2
 rw [hsp] at hrow hx
 have hk4 : K.zb7.2.2.len ≤ 4 := (Pl.Fx.zw8 hx).2.2.2.1
 have hk : K.len = 2 ∨ K.len = 3 ∨ K.len = 4 := by omega
 rcases hk with hk | hk | hk
 ·rw [hk] at hcap ⊢; exact many2 N _ _ _ _ hfk (by omega) hk4 qo m g cap hcap w hrow
 ·rw [hk] at hcap ⊢; exact many3 N _ _ _ _ hfk (by omega) hk4 qo m g cap hcap w hrow
 ·rw [hk] at hcap ⊢; exact many4 N _ _ _ _ hfk (by omega) hk4 qo m g cap hcap w hrow
end WFlat
end Go.Proofs.YtfdbokipgofcdaaGreatDoor

