import Derived.Test.YtfdbokipgofcdaaGreatDoorG52
import Derived.Test.YtfdbokipgofcdaaGreatDoorPlainSightN
namespace Go.Proofs.YtfdbokipgofcdaaGreatDoor
open Go.RowKit
namespace zt9
set_option linter.unusedSimpArgs false in
set_option maxRecDepth 100000 in
set_option maxHeartbeats 1000000 in
theorem sight_any (a : Option Addr) (cap : Nat) (Is : List Pl.It) (w : World) (hl : Is.length ≤ 1048576) (hcap : Is.length ≤ cap) (hv : Mem.za6 w a Is) (hok : ∀ x ∈ Is, x.t.L.length ≤ 1048576 ∧ ∀ n ∈ x.t.L, n.path.size ≤ 1048576 ∧ n.data.size ≤ 1048576) (x : Nat → Addr) (hE : WIs.Six w x) :
  Calls Tryz.prog 28 #[.slice a Is.length cap] w fun e w' => ∃ v, e = .returned (.agg #[v, .int .i64 (Pl.zg7 (Is.map Pl.It.r))]) ∧ Mem.ownN w' w.heap.size v (Pl.zo9 (Is.map Pl.It.r)) ∧ Below w.heap.size w w' := by
 have b0 : Below w.heap.size w (w.alloc (.cells #[.slice none 0 0, .int .i64 0] 42)) := (Below.refl _ _).alloc (Nat.le_refl _) _
 have V0 := Mem.Blk.new w #[.slice none 0 0, .int .i64 0] 42
 have hs0 : (w.alloc (.cells #[.slice none 0 0, .int .i64 0] 42)).heap.size = w.heap.size + 1 := by simp
 have hvi := hide (zt9.view_any a cap Is (w.alloc (.cells #[.slice none 0 0, .int .i64 0] 42)) hl hcap (Mem.zc1 hv b0) hok x (hE.call b0))
 have HN : Hid (Pl.zg7 (Is.map Pl.It.r) ≠ 0 → Pl.zh0 (Is.map Pl.It.r) = [] ∧ Pl.zo9 (Is.map Pl.It.r) = []) := fun h => ⟨Pl.view_nil h, Pl.sight_no h⟩
 have HY : Hid (Pl.zg7 (Is.map Pl.It.r) = 0 → Pl.za2 (Pl.zh0 (Is.map Pl.It.r)) = true ∧ Pl.zo9 (Is.map Pl.It.r) = Pl.ze9 (Pl.zh0 (Is.map Pl.It.r))) := fun h => ⟨Pl.view_tree h, Pl.yr1 h⟩
 have HL := hide (Pl.view_le (Is.map Pl.It.r))
 generalize Pl.zo9 (Is.map Pl.It.r) = O at HN HY ⊢
 generalize Pl.zg7 (Is.map Pl.It.r) = C at hvi HN HY ⊢
 generalize Pl.zh0 (Is.map Pl.It.r) = V at hvi HN HY HL
 have HE := hide (fun W (b : Below w.heap.size w W) => hE.call b)
 clear hv hok hE
 go_enter Tryz.func28, Tryz.ntmps28
 go_wp2_with fail
 generalize w.alloc (.cells #[.slice none 0 0, .int .i64 0] 42) = w2 at b0 V0 hs0 hvi ⊢
 refine (za hvi).mono ?_
 rintro e w1 ⟨v1, rfl, own1, b1⟩
 obtain ⟨a1, c1, rfl⟩ := Mem.za1 own1
 have bw1 := b0.trans (b1.mono b0.size)
 have V3 := (V0.call b1).alloc (.cells #[.slice a1 V.length c1, .int .i64 C] 42)
 have bw3 := bw1.alloc bw1.size (.cells #[.slice a1 V.length c1, .int .i64 C] 42)
 have X3 := Mem.Blk.new w1 #[.slice a1 V.length c1, .int .i64 C] 42
 have O3 := Mem.zd1 own1 (.cells #[.slice a1 V.length c1, .int .i64 C] 42)
 have hs1 := b1.size
 have x0 := X3.cell 0
 have x1 := X3.cell 1
 simp only [kGs] at x0 x1
 clear hvi b0 V0 own1 b1 bw1 X3
 by_cases hC : C = 0
 ·subst hC
  obtain ⟨ht, rfl⟩ := za HY rfl
  have hpl := hide (WPlainO.zg5 a1 c1 V (w1.alloc (.cells #[.slice a1 V.length c1, .int .i64 0] 42)) (by have := (za HL).1; omega) (Mem.zr4 O3).2 (za HL).2 _ _ _ _ _ _ (za HE _ bw3).errs)
  rw [show Pl.yc1 V = 0 by rw [Pl.yc1, if_pos ht], show Pl.plainO V = Pl.ze9 V by rw [Pl.plainO, if_pos ht]] at hpl
  clear HN HY HL ht O3 HE
  go_wp2_with fail
  generalize w1.alloc (.cells #[.slice a1 V.length c1, .int .i64 0] 42) = w4 at V3 bw3 hpl x0 x1 ⊢
  refine (za hpl).mono ?_
  rintro e w5 ⟨v5, rfl, own5, b5⟩
  obtain ⟨a5, c5, rfl⟩ := Mem.za1 own5
  have hR := V3.lt
  have OW := hide (Mem.zb4 (Mem.za7 (Mem.za7 own5 ⟨w.heap.size, 0, none⟩ (.slice a5 (Pl.ze9 V).length c5) (by show w.heap.size < _; omega)) ⟨w.heap.size, 1, none⟩ (.int .i64 0) (by show w.heap.size < _; omega)) (show w.heap.size ≤ w4.heap.size by omega))
  have HB := hide (bw3.trans (b5.mono bw3.size))
  have d0 := (V3.call b5).cell 0
  have d1 := (V3.call b5).cell 1
  have f0 := (V3.call b5).fr 0
  have f1 := (V3.call b5).fr 1
  simp only [kGs] at d0 d1
  clear hpl own5 b5 V3 bw3 x0 x1
  go_wp2
  refine bodyPost_ret (v := .agg #[.slice a5 (Pl.ze9 V).length c5, .int .i64 0]) (by simp [results, Tryz.results28, go_sem, d0, d1]) rfl ⟨_, rfl, za OW, ?_⟩
  first | exact ((za HB).setCell (Nat.le_refl _) _).setCell (Nat.le_refl _) _ | exact (za HB).setCell (Nat.le_refl _) _
 ·obtain ⟨rfl, rfl⟩ := za HN hC
  simp only [List.length_nil] at V3 bw3 O3 x0 x1 ⊢
  have hD1 : (C == 0) = false := by simpa using hC
  have hD2 : decide (C = 0) = false := by simpa using hC
  have hD3 : (C != 0) = true := by simpa using hC
  have OW := hide (Mem.zb4 (Mem.za7 (Mem.za7 O3 ⟨w.heap.size, 0, none⟩ (.slice a1 0 c1) (by show w.heap.size < _; omega)) ⟨w.heap.size, 1, none⟩ (.int .i64 C) (by show w.heap.size < _; omega)) (show w.heap.size ≤ w2.heap.size by omega))
  clear HN HY HL O3 HE
  have HB := hide bw3
  have d0 := V3.cell 0
  have d1 := V3.cell 1
  have f0 := V3.fr 0
  have f1 := V3.fr 1
  simp only [kGs] at d0 d1
  clear V3 bw3
  go_wp2
  refine bodyPost_ret (v := .agg #[.slice a1 0 c1, .int .i64 C]) (by simp [results, Tryz.results28, go_sem, d0, d1]) rfl ⟨_, rfl, za OW, ?_⟩
  first | exact ((za HB).setCell (Nat.le_refl _) _).setCell (Nat.le_refl _) _ | exact (za HB).setCell (Nat.le_refl _) _
end zt9
end Go.Proofs.YtfdbokipgofcdaaGreatDoor
