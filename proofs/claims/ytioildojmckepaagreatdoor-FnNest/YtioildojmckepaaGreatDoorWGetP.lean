import Derived.Test.YtioildojmckepaaGreatDoorG08
import Derived.Test.YtioildojmckepaaGreatDoorG01
namespace Go.Proofs.YtioildojmckepaaGreatDoor
open Go.RowKit
namespace WGetT
def Held (w W : World) : Prop := Below w.heap.size w W ∧ W.heap[w.heap.size + 1]? = some (.cells #[.string ⟨#[]⟩, .int .i64 0, .string ⟨#[]⟩, .int .i64 0, .int .i64 0, .int .i64 0] 126 (0, 0))
theorem Held.call {w W W' : World} (h : Held w W) (b : Below W.heap.size W W') : Held w W' := ⟨h.1.trans (b.mono h.1.size), (b.block _ (Array.getElem?_eq_some_iff.1 h.2).1).trans h.2⟩
theorem Held.at {w W : World} (h : Held w W) (k : Nat) : W.cell? ⟨w.heap.size + 1, k, none⟩ = (#[.string ⟨#[]⟩, .int .i64 0, .string ⟨#[]⟩, .int .i64 0, .int .i64 0, .int .i64 0] : Array Value)[k]? := cell_of_row W _ k _ _ (0, 0) h.2
theorem Held.fr {w W : World} (h : Held w W) (k : Nat) : W.frozen? ⟨w.heap.size + 1, k, none⟩ = false := Mem.zj0 h.2
set_option linter.unusedSimpArgs false in
set_option maxRecDepth 100000 in
set_option maxHeartbeats 4000000 in
theorem zb8 (a : Option Addr) (cap : Nat) (L : List Pl.Nd) (p : ByteArray) (w : World) (hl : L.length ≤ 1048576) (hv : Mem.zb5 w a L) (hok : ∀ n ∈ L, n.path.size ≤ 1048576 ∧ n.data.size ≤ 1048576) (hp : p.size ≤ 1048576) :
  Calls Tryz.prog 92 #[.agg #[.slice a L.length cap], .string p] w fun e w' => e = .returned (Pl.getV L p) ∧ Below w.heap.size w w' := by
 have h0 : Held w ((w.alloc (.cells #[.slice a L.length cap] 36)).alloc (.cells #[.string ⟨#[]⟩, .int .i64 0, .string ⟨#[]⟩, .int .i64 0, .int .i64 0, .int .i64 0] 126)) := ⟨((Below.refl _ _).alloc (Nat.le_refl _) _).alloc (by simp) _, Mem.zu4 _ _ _⟩
 have va := Mem.ya9 (Mem.ze w [.slice a L.length cap] 36) (.cells #[.string ⟨#[]⟩, .int .i64 0, .string ⟨#[]⟩, .int .i64 0, .int .i64 0, .int .i64 0] 126)
 have hrt := hide (fun W (b : Below w.heap.size w W) => zl7.zt0 a cap L W hl (Mem.za5 hv b) hok)
 have hpr := hide (fun W => zf3.right_one p W hp)
 have hat := hide (fun W (b : Below w.heap.size w W) => zl7.at_any a cap L p W hl (Mem.za5 hv b))
 have HV := hide hv
 have E1 : Hid (8000 < p.size → Pl.getV L p = _) := Pl.get_long
 have E2 : Hid (¬ 8000 < p.size → _ → Pl.getV L p = _) := Pl.get_form
 have E3 : Hid (¬ 8000 < p.size → ¬ (Pl.zb1 L = false ∨ p.size = 0 ∨ Pl.zb2 p = false) → _ → Pl.getV L p = _) := Pl.get_none
 have E4 : Hid (∀ m, ¬ 8000 < p.size → ¬ (Pl.zb1 L = false ∨ p.size = 0 ∨ Pl.zb2 p = false) → L.find? (fun m => decide (m.path = p)) = some m → Pl.getV L p = .agg #[.string m.path, .int .i64 m.kind, .string m.data, .int .i64 m.time, .int .i64 m.mark, .int .i64 0]) := fun m => Pl.get_some
 generalize Pl.getV L p = R at E1 E2 E3 E4 ⊢
 generalize Pl.zb1 L = R1 at hrt E2 E3 E4
 generalize Pl.zb2 p = R2 at hpr E2 E3 E4
 clear hv hok
 by_cases hz : 8000 < p.size
 ·have t0 : (8000 : Int) < (p.size : Int) := by omega
  have E := hide (za E1 hz)
  clear hz E1 E2 E3 E4
  go_enter Tryz.func92, Tryz.ntmps92
  go_wp2
  refine bodyPost_ret (v := .agg #[.string ⟨#[]⟩, .int .i64 0, .string ⟨#[]⟩, .int .i64 0, .int .i64 0, .int .i64 2]) (by simp [results, Tryz.results92, go_sem]) rfl ⟨by rw [za E], ?_⟩
  exact ((Below.refl _ _).alloc (Nat.le_refl _) _).alloc (by simp) _
 have t0 : ¬ (8000 : Int) < (p.size : Int) := by omega
 go_enter Tryz.func92, Tryz.ntmps92
 go_wp2_with fail
 refine (za hrt _ h0.1).mono ?_
 rintro e w1 ⟨rfl, b1⟩
 have HO := hide (h0.call b1)
 have va1 := Mem.zf8 va b1
 have bw1 := (za HO).1
 clear hrt va b1 h0
 cases R1
 ·have E := hide (za E2 hz (.inl rfl))
  clear E1 E2 E3 E4 hz va1 bw1
  have HR := za HO
  have z0 := HR.at 0
  have f0 := HR.fr 0
  have z1 := HR.at 1
  have f1 := HR.fr 1
  have z2 := HR.at 2
  have f2 := HR.fr 2
  have z3 := HR.at 3
  have f3 := HR.fr 3
  have z4 := HR.at 4
  have f4 := HR.fr 4
  have z5 := HR.at 5
  have f5 := HR.fr 5
  clear HR
  simp only [kGs] at z0 z1 z2 z3 z4 z5
  go_wp2
  have HR := za HO
  have r6 : ((((((w1.setCell ⟨w.heap.size + 1, 0, none⟩ (.string ⟨#[]⟩)).setCell ⟨w.heap.size + 1, 1, none⟩ (.int .i64 0)).setCell ⟨w.heap.size + 1, 2, none⟩ (.string ⟨#[]⟩)).setCell ⟨w.heap.size + 1, 3, none⟩ (.int .i64 0)).setCell ⟨w.heap.size + 1, 4, none⟩ (.int .i64 0)).setCell ⟨w.heap.size + 1, 5, none⟩ (.int .i64 1)).heap[w.heap.size + 1]? = some (.cells #[.string ⟨#[]⟩, .int .i64 0, .string ⟨#[]⟩, .int .i64 0, .int .i64 0, .int .i64 1] 126 (0, 0)) := (heap_setCell_same _ _ 5 _ _ _ (heap_setCell_same _ _ 4 _ _ _ (heap_setCell_same _ _ 3 _ _ _ (heap_setCell_same _ _ 2 _ _ _ (heap_setCell_same _ _ 1 _ _ _ (heap_setCell_same _ _ 0 _ _ _ HR.2))))))
  have d0 : ((((((w1.setCell ⟨w.heap.size + 1, 0, none⟩ (.string ⟨#[]⟩)).setCell ⟨w.heap.size + 1, 1, none⟩ (.int .i64 0)).setCell ⟨w.heap.size + 1, 2, none⟩ (.string ⟨#[]⟩)).setCell ⟨w.heap.size + 1, 3, none⟩ (.int .i64 0)).setCell ⟨w.heap.size + 1, 4, none⟩ (.int .i64 0)).setCell ⟨w.heap.size + 1, 5, none⟩ (.int .i64 1)).cell? ⟨w.heap.size + 1, 0, none⟩ = some (.string ⟨#[]⟩) := cell_of_row _ _ 0 _ _ (0, 0) r6
  have d1 : ((((((w1.setCell ⟨w.heap.size + 1, 0, none⟩ (.string ⟨#[]⟩)).setCell ⟨w.heap.size + 1, 1, none⟩ (.int .i64 0)).setCell ⟨w.heap.size + 1, 2, none⟩ (.string ⟨#[]⟩)).setCell ⟨w.heap.size + 1, 3, none⟩ (.int .i64 0)).setCell ⟨w.heap.size + 1, 4, none⟩ (.int .i64 0)).setCell ⟨w.heap.size + 1, 5, none⟩ (.int .i64 1)).cell? ⟨w.heap.size + 1, 1, none⟩ = some (.int .i64 0) := cell_of_row _ _ 1 _ _ (0, 0) r6
  have d2 : ((((((w1.setCell ⟨w.heap.size + 1, 0, none⟩ (.string ⟨#[]⟩)).setCell ⟨w.heap.size + 1, 1, none⟩ (.int .i64 0)).setCell ⟨w.heap.size + 1, 2, none⟩ (.string ⟨#[]⟩)).setCell ⟨w.heap.size + 1, 3, none⟩ (.int .i64 0)).setCell ⟨w.heap.size + 1, 4, none⟩ (.int .i64 0)).setCell ⟨w.heap.size + 1, 5, none⟩ (.int .i64 1)).cell? ⟨w.heap.size + 1, 2, none⟩ = some (.string ⟨#[]⟩) := cell_of_row _ _ 2 _ _ (0, 0) r6
  have d3 : ((((((w1.setCell ⟨w.heap.size + 1, 0, none⟩ (.string ⟨#[]⟩)).setCell ⟨w.heap.size + 1, 1, none⟩ (.int .i64 0)).setCell ⟨w.heap.size + 1, 2, none⟩ (.string ⟨#[]⟩)).setCell ⟨w.heap.size + 1, 3, none⟩ (.int .i64 0)).setCell ⟨w.heap.size + 1, 4, none⟩ (.int .i64 0)).setCell ⟨w.heap.size + 1, 5, none⟩ (.int .i64 1)).cell? ⟨w.heap.size + 1, 3, none⟩ = some (.int .i64 0) := cell_of_row _ _ 3 _ _ (0, 0) r6
  have d4 : ((((((w1.setCell ⟨w.heap.size + 1, 0, none⟩ (.string ⟨#[]⟩)).setCell ⟨w.heap.size + 1, 1, none⟩ (.int .i64 0)).setCell ⟨w.heap.size + 1, 2, none⟩ (.string ⟨#[]⟩)).setCell ⟨w.heap.size + 1, 3, none⟩ (.int .i64 0)).setCell ⟨w.heap.size + 1, 4, none⟩ (.int .i64 0)).setCell ⟨w.heap.size + 1, 5, none⟩ (.int .i64 1)).cell? ⟨w.heap.size + 1, 4, none⟩ = some (.int .i64 0) := cell_of_row _ _ 4 _ _ (0, 0) r6
  have d5 : ((((((w1.setCell ⟨w.heap.size + 1, 0, none⟩ (.string ⟨#[]⟩)).setCell ⟨w.heap.size + 1, 1, none⟩ (.int .i64 0)).setCell ⟨w.heap.size + 1, 2, none⟩ (.string ⟨#[]⟩)).setCell ⟨w.heap.size + 1, 3, none⟩ (.int .i64 0)).setCell ⟨w.heap.size + 1, 4, none⟩ (.int .i64 0)).setCell ⟨w.heap.size + 1, 5, none⟩ (.int .i64 1)).cell? ⟨w.heap.size + 1, 5, none⟩ = some (.int .i64 1) := cell_of_row _ _ 5 _ _ (0, 0) r6
  have bf : Below w.heap.size w ((((((w1.setCell ⟨w.heap.size + 1, 0, none⟩ (.string ⟨#[]⟩)).setCell ⟨w.heap.size + 1, 1, none⟩ (.int .i64 0)).setCell ⟨w.heap.size + 1, 2, none⟩ (.string ⟨#[]⟩)).setCell ⟨w.heap.size + 1, 3, none⟩ (.int .i64 0)).setCell ⟨w.heap.size + 1, 4, none⟩ (.int .i64 0)).setCell ⟨w.heap.size + 1, 5, none⟩ (.int .i64 1)) := ((((((HR.1.setCell (by simp) _).setCell (by simp) _).setCell (by simp) _).setCell (by simp) _).setCell (by simp) _).setCell (by simp) _)
  refine bodyPost_ret (v := .agg #[.string ⟨#[]⟩, .int .i64 0, .string ⟨#[]⟩, .int .i64 0, .int .i64 0, .int .i64 1]) (by simp [results, Tryz.results92, go_sem, d0, d1, d2, d3, d4, d5]) rfl ⟨by rw [za E], bf⟩
 by_cases hs : p.size = 0
 ·have t1 : p.toList.isEmpty = true := by rw [Pl.zc5]; simpa [Pl.zg2] using hs
  have E := hide (za E2 hz (.inr (.inl hs)))
  clear E1 E2 E3 E4 hz va1 bw1 hs
  have HR := za HO
  have z0 := HR.at 0
  have f0 := HR.fr 0
  have z1 := HR.at 1
  have f1 := HR.fr 1
  have z2 := HR.at 2
  have f2 := HR.fr 2
  have z3 := HR.at 3
  have f3 := HR.fr 3
  have z4 := HR.at 4
  have f4 := HR.fr 4
  have z5 := HR.at 5
  have f5 := HR.fr 5
  clear HR
  simp only [kGs] at z0 z1 z2 z3 z4 z5
  go_wp2
  have HR := za HO
  have r6 : ((((((w1.setCell ⟨w.heap.size + 1, 0, none⟩ (.string ⟨#[]⟩)).setCell ⟨w.heap.size + 1, 1, none⟩ (.int .i64 0)).setCell ⟨w.heap.size + 1, 2, none⟩ (.string ⟨#[]⟩)).setCell ⟨w.heap.size + 1, 3, none⟩ (.int .i64 0)).setCell ⟨w.heap.size + 1, 4, none⟩ (.int .i64 0)).setCell ⟨w.heap.size + 1, 5, none⟩ (.int .i64 1)).heap[w.heap.size + 1]? = some (.cells #[.string ⟨#[]⟩, .int .i64 0, .string ⟨#[]⟩, .int .i64 0, .int .i64 0, .int .i64 1] 126 (0, 0)) := (heap_setCell_same _ _ 5 _ _ _ (heap_setCell_same _ _ 4 _ _ _ (heap_setCell_same _ _ 3 _ _ _ (heap_setCell_same _ _ 2 _ _ _ (heap_setCell_same _ _ 1 _ _ _ (heap_setCell_same _ _ 0 _ _ _ HR.2))))))
  have d0 : ((((((w1.setCell ⟨w.heap.size + 1, 0, none⟩ (.string ⟨#[]⟩)).setCell ⟨w.heap.size + 1, 1, none⟩ (.int .i64 0)).setCell ⟨w.heap.size + 1, 2, none⟩ (.string ⟨#[]⟩)).setCell ⟨w.heap.size + 1, 3, none⟩ (.int .i64 0)).setCell ⟨w.heap.size + 1, 4, none⟩ (.int .i64 0)).setCell ⟨w.heap.size + 1, 5, none⟩ (.int .i64 1)).cell? ⟨w.heap.size + 1, 0, none⟩ = some (.string ⟨#[]⟩) := cell_of_row _ _ 0 _ _ (0, 0) r6
  have d1 : ((((((w1.setCell ⟨w.heap.size + 1, 0, none⟩ (.string ⟨#[]⟩)).setCell ⟨w.heap.size + 1, 1, none⟩ (.int .i64 0)).setCell ⟨w.heap.size + 1, 2, none⟩ (.string ⟨#[]⟩)).setCell ⟨w.heap.size + 1, 3, none⟩ (.int .i64 0)).setCell ⟨w.heap.size + 1, 4, none⟩ (.int .i64 0)).setCell ⟨w.heap.size + 1, 5, none⟩ (.int .i64 1)).cell? ⟨w.heap.size + 1, 1, none⟩ = some (.int .i64 0) := cell_of_row _ _ 1 _ _ (0, 0) r6
  have d2 : ((((((w1.setCell ⟨w.heap.size + 1, 0, none⟩ (.string ⟨#[]⟩)).setCell ⟨w.heap.size + 1, 1, none⟩ (.int .i64 0)).setCell ⟨w.heap.size + 1, 2, none⟩ (.string ⟨#[]⟩)).setCell ⟨w.heap.size + 1, 3, none⟩ (.int .i64 0)).setCell ⟨w.heap.size + 1, 4, none⟩ (.int .i64 0)).setCell ⟨w.heap.size + 1, 5, none⟩ (.int .i64 1)).cell? ⟨w.heap.size + 1, 2, none⟩ = some (.string ⟨#[]⟩) := cell_of_row _ _ 2 _ _ (0, 0) r6
  have d3 : ((((((w1.setCell ⟨w.heap.size + 1, 0, none⟩ (.string ⟨#[]⟩)).setCell ⟨w.heap.size + 1, 1, none⟩ (.int .i64 0)).setCell ⟨w.heap.size + 1, 2, none⟩ (.string ⟨#[]⟩)).setCell ⟨w.heap.size + 1, 3, none⟩ (.int .i64 0)).setCell ⟨w.heap.size + 1, 4, none⟩ (.int .i64 0)).setCell ⟨w.heap.size + 1, 5, none⟩ (.int .i64 1)).cell? ⟨w.heap.size + 1, 3, none⟩ = some (.int .i64 0) := cell_of_row _ _ 3 _ _ (0, 0) r6
  have d4 : ((((((w1.setCell ⟨w.heap.size + 1, 0, none⟩ (.string ⟨#[]⟩)).setCell ⟨w.heap.size + 1, 1, none⟩ (.int .i64 0)).setCell ⟨w.heap.size + 1, 2, none⟩ (.string ⟨#[]⟩)).setCell ⟨w.heap.size + 1, 3, none⟩ (.int .i64 0)).setCell ⟨w.heap.size + 1, 4, none⟩ (.int .i64 0)).setCell ⟨w.heap.size + 1, 5, none⟩ (.int .i64 1)).cell? ⟨w.heap.size + 1, 4, none⟩ = some (.int .i64 0) := cell_of_row _ _ 4 _ _ (0, 0) r6
  have d5 : ((((((w1.setCell ⟨w.heap.size + 1, 0, none⟩ (.string ⟨#[]⟩)).setCell ⟨w.heap.size + 1, 1, none⟩ (.int .i64 0)).setCell ⟨w.heap.size + 1, 2, none⟩ (.string ⟨#[]⟩)).setCell ⟨w.heap.size + 1, 3, none⟩ (.int .i64 0)).setCell ⟨w.heap.size + 1, 4, none⟩ (.int .i64 0)).setCell ⟨w.heap.size + 1, 5, none⟩ (.int .i64 1)).cell? ⟨w.heap.size + 1, 5, none⟩ = some (.int .i64 1) := cell_of_row _ _ 5 _ _ (0, 0) r6
  have bf : Below w.heap.size w ((((((w1.setCell ⟨w.heap.size + 1, 0, none⟩ (.string ⟨#[]⟩)).setCell ⟨w.heap.size + 1, 1, none⟩ (.int .i64 0)).setCell ⟨w.heap.size + 1, 2, none⟩ (.string ⟨#[]⟩)).setCell ⟨w.heap.size + 1, 3, none⟩ (.int .i64 0)).setCell ⟨w.heap.size + 1, 4, none⟩ (.int .i64 0)).setCell ⟨w.heap.size + 1, 5, none⟩ (.int .i64 1)) := ((((((HR.1.setCell (by simp) _).setCell (by simp) _).setCell (by simp) _).setCell (by simp) _).setCell (by simp) _).setCell (by simp) _)
  refine bodyPost_ret (v := .agg #[.string ⟨#[]⟩, .int .i64 0, .string ⟨#[]⟩, .int .i64 0, .int .i64 0, .int .i64 1]) (by simp [results, Tryz.results92, go_sem, d0, d1, d2, d3, d4, d5]) rfl ⟨by rw [za E], bf⟩
 have t1 : p.toList.isEmpty = false := by rw [Pl.zc5]; simpa [Pl.zg2] using hs
 go_wp2_with fail
 refine (za hpr _).mono ?_
 rintro e w2 ⟨rfl, b2⟩
 have HO2 := hide ((za HO).call b2)
 have va2 := Mem.zf8 va1 b2
 have bw2 := (za HO2).1
 clear HO hpr va1 b2 bw1
 have HO := HO2
 clear HO2
 cases R2
 ·have E := hide (za E2 hz (.inr (.inr rfl)))
  clear E1 E2 E3 E4 hz va2 bw2 hs
  have HR := za HO
  have z0 := HR.at 0
  have f0 := HR.fr 0
  have z1 := HR.at 1
  have f1 := HR.fr 1
  have z2 := HR.at 2
  have f2 := HR.fr 2
  have z3 := HR.at 3
  have f3 := HR.fr 3
  have z4 := HR.at 4
  have f4 := HR.fr 4
  have z5 := HR.at 5
  have f5 := HR.fr 5
  clear HR
  simp only [kGs] at z0 z1 z2 z3 z4 z5
  go_wp2
  have HR := za HO
  have r6 : ((((((w2.setCell ⟨w.heap.size + 1, 0, none⟩ (.string ⟨#[]⟩)).setCell ⟨w.heap.size + 1, 1, none⟩ (.int .i64 0)).setCell ⟨w.heap.size + 1, 2, none⟩ (.string ⟨#[]⟩)).setCell ⟨w.heap.size + 1, 3, none⟩ (.int .i64 0)).setCell ⟨w.heap.size + 1, 4, none⟩ (.int .i64 0)).setCell ⟨w.heap.size + 1, 5, none⟩ (.int .i64 1)).heap[w.heap.size + 1]? = some (.cells #[.string ⟨#[]⟩, .int .i64 0, .string ⟨#[]⟩, .int .i64 0, .int .i64 0, .int .i64 1] 126 (0, 0)) := (heap_setCell_same _ _ 5 _ _ _ (heap_setCell_same _ _ 4 _ _ _ (heap_setCell_same _ _ 3 _ _ _ (heap_setCell_same _ _ 2 _ _ _ (heap_setCell_same _ _ 1 _ _ _ (heap_setCell_same _ _ 0 _ _ _ HR.2))))))
  have d0 : ((((((w2.setCell ⟨w.heap.size + 1, 0, none⟩ (.string ⟨#[]⟩)).setCell ⟨w.heap.size + 1, 1, none⟩ (.int .i64 0)).setCell ⟨w.heap.size + 1, 2, none⟩ (.string ⟨#[]⟩)).setCell ⟨w.heap.size + 1, 3, none⟩ (.int .i64 0)).setCell ⟨w.heap.size + 1, 4, none⟩ (.int .i64 0)).setCell ⟨w.heap.size + 1, 5, none⟩ (.int .i64 1)).cell? ⟨w.heap.size + 1, 0, none⟩ = some (.string ⟨#[]⟩) := cell_of_row _ _ 0 _ _ (0, 0) r6
  have d1 : ((((((w2.setCell ⟨w.heap.size + 1, 0, none⟩ (.string ⟨#[]⟩)).setCell ⟨w.heap.size + 1, 1, none⟩ (.int .i64 0)).setCell ⟨w.heap.size + 1, 2, none⟩ (.string ⟨#[]⟩)).setCell ⟨w.heap.size + 1, 3, none⟩ (.int .i64 0)).setCell ⟨w.heap.size + 1, 4, none⟩ (.int .i64 0)).setCell ⟨w.heap.size + 1, 5, none⟩ (.int .i64 1)).cell? ⟨w.heap.size + 1, 1, none⟩ = some (.int .i64 0) := cell_of_row _ _ 1 _ _ (0, 0) r6
  have d2 : ((((((w2.setCell ⟨w.heap.size + 1, 0, none⟩ (.string ⟨#[]⟩)).setCell ⟨w.heap.size + 1, 1, none⟩ (.int .i64 0)).setCell ⟨w.heap.size + 1, 2, none⟩ (.string ⟨#[]⟩)).setCell ⟨w.heap.size + 1, 3, none⟩ (.int .i64 0)).setCell ⟨w.heap.size + 1, 4, none⟩ (.int .i64 0)).setCell ⟨w.heap.size + 1, 5, none⟩ (.int .i64 1)).cell? ⟨w.heap.size + 1, 2, none⟩ = some (.string ⟨#[]⟩) := cell_of_row _ _ 2 _ _ (0, 0) r6
  have d3 : ((((((w2.setCell ⟨w.heap.size + 1, 0, none⟩ (.string ⟨#[]⟩)).setCell ⟨w.heap.size + 1, 1, none⟩ (.int .i64 0)).setCell ⟨w.heap.size + 1, 2, none⟩ (.string ⟨#[]⟩)).setCell ⟨w.heap.size + 1, 3, none⟩ (.int .i64 0)).setCell ⟨w.heap.size + 1, 4, none⟩ (.int .i64 0)).setCell ⟨w.heap.size + 1, 5, none⟩ (.int .i64 1)).cell? ⟨w.heap.size + 1, 3, none⟩ = some (.int .i64 0) := cell_of_row _ _ 3 _ _ (0, 0) r6
  have d4 : ((((((w2.setCell ⟨w.heap.size + 1, 0, none⟩ (.string ⟨#[]⟩)).setCell ⟨w.heap.size + 1, 1, none⟩ (.int .i64 0)).setCell ⟨w.heap.size + 1, 2, none⟩ (.string ⟨#[]⟩)).setCell ⟨w.heap.size + 1, 3, none⟩ (.int .i64 0)).setCell ⟨w.heap.size + 1, 4, none⟩ (.int .i64 0)).setCell ⟨w.heap.size + 1, 5, none⟩ (.int .i64 1)).cell? ⟨w.heap.size + 1, 4, none⟩ = some (.int .i64 0) := cell_of_row _ _ 4 _ _ (0, 0) r6
  have d5 : ((((((w2.setCell ⟨w.heap.size + 1, 0, none⟩ (.string ⟨#[]⟩)).setCell ⟨w.heap.size + 1, 1, none⟩ (.int .i64 0)).setCell ⟨w.heap.size + 1, 2, none⟩ (.string ⟨#[]⟩)).setCell ⟨w.heap.size + 1, 3, none⟩ (.int .i64 0)).setCell ⟨w.heap.size + 1, 4, none⟩ (.int .i64 0)).setCell ⟨w.heap.size + 1, 5, none⟩ (.int .i64 1)).cell? ⟨w.heap.size + 1, 5, none⟩ = some (.int .i64 1) := cell_of_row _ _ 5 _ _ (0, 0) r6
  have bf : Below w.heap.size w ((((((w2.setCell ⟨w.heap.size + 1, 0, none⟩ (.string ⟨#[]⟩)).setCell ⟨w.heap.size + 1, 1, none⟩ (.int .i64 0)).setCell ⟨w.heap.size + 1, 2, none⟩ (.string ⟨#[]⟩)).setCell ⟨w.heap.size + 1, 3, none⟩ (.int .i64 0)).setCell ⟨w.heap.size + 1, 4, none⟩ (.int .i64 0)).setCell ⟨w.heap.size + 1, 5, none⟩ (.int .i64 1)) := ((((((HR.1.setCell (by simp) _).setCell (by simp) _).setCell (by simp) _).setCell (by simp) _).setCell (by simp) _).setCell (by simp) _)
  refine bodyPost_ret (v := .agg #[.string ⟨#[]⟩, .int .i64 0, .string ⟨#[]⟩, .int .i64 0, .int .i64 0, .int .i64 1]) (by simp [results, Tryz.results92, go_sem, d0, d1, d2, d3, d4, d5]) rfl ⟨by rw [za E], bf⟩
 have c0 := va2.2 0 _ rfl
 go_wp2_with fail
 refine (za hat _ bw2).mono ?_
 rintro e w3 ⟨⟨r, rfl, h1⟩, b3⟩
 have HO3 := hide ((za HO).call b3)
 have va3 := Mem.zf8 va2 b3
 have bw3 := (za HO3).1
 clear HO hat va2 b3 bw2 c0
 have HO := HO3
 clear HO3
 have hno : ¬ (true = false ∨ p.size = 0 ∨ true = false) := by simp [hs]
 rcases h1.out with ⟨k, m, rfl, hk, hf⟩ | ⟨rfl, hf⟩
 ·have E := hide (za E4 m hz hno hf)
  obtain ⟨b, o, rfl, hb, q0, q1, q2, q3, q4⟩ := (Mem.za5 (za HV) bw3) k m hk
  have y1 : (k : Int) < (L.length : Int) := by have := (List.getElem?_eq_some_iff.1 hk).1; omega
  have y3 : (0 : Int) ≤ (k : Int) := by omega
  have c0 := va3.2 0 _ rfl
  clear E1 E2 E3 E4 hz hf hk HV h1 hno hs bw3 va3
  have HR := za HO
  have z0 := HR.at 0
  have f0 := HR.fr 0
  have z1 := HR.at 1
  have f1 := HR.fr 1
  have z2 := HR.at 2
  have f2 := HR.fr 2
  have z3 := HR.at 3
  have f3 := HR.fr 3
  have z4 := HR.at 4
  have f4 := HR.fr 4
  have z5 := HR.at 5
  have f5 := HR.fr 5
  clear HR
  simp only [kGs] at z0 z1 z2 z3 z4 z5
  go_wp2
  have HR := za HO
  have r6 : ((((((w3.setCell ⟨w.heap.size + 1, 0, none⟩ (.string m.path)).setCell ⟨w.heap.size + 1, 1, none⟩ (.int .i64 m.kind)).setCell ⟨w.heap.size + 1, 2, none⟩ (.string m.data)).setCell ⟨w.heap.size + 1, 3, none⟩ (.int .i64 m.time)).setCell ⟨w.heap.size + 1, 4, none⟩ (.int .i64 m.mark)).setCell ⟨w.heap.size + 1, 5, none⟩ (.int .i64 0)).heap[w.heap.size + 1]? = some (.cells #[.string m.path, .int .i64 m.kind, .string m.data, .int .i64 m.time, .int .i64 m.mark, .int .i64 0] 126 (0, 0)) := (heap_setCell_same _ _ 5 _ _ _ (heap_setCell_same _ _ 4 _ _ _ (heap_setCell_same _ _ 3 _ _ _ (heap_setCell_same _ _ 2 _ _ _ (heap_setCell_same _ _ 1 _ _ _ (heap_setCell_same _ _ 0 _ _ _ HR.2))))))
  have d0 : ((((((w3.setCell ⟨w.heap.size + 1, 0, none⟩ (.string m.path)).setCell ⟨w.heap.size + 1, 1, none⟩ (.int .i64 m.kind)).setCell ⟨w.heap.size + 1, 2, none⟩ (.string m.data)).setCell ⟨w.heap.size + 1, 3, none⟩ (.int .i64 m.time)).setCell ⟨w.heap.size + 1, 4, none⟩ (.int .i64 m.mark)).setCell ⟨w.heap.size + 1, 5, none⟩ (.int .i64 0)).cell? ⟨w.heap.size + 1, 0, none⟩ = some (.string m.path) := cell_of_row _ _ 0 _ _ (0, 0) r6
  have d1 : ((((((w3.setCell ⟨w.heap.size + 1, 0, none⟩ (.string m.path)).setCell ⟨w.heap.size + 1, 1, none⟩ (.int .i64 m.kind)).setCell ⟨w.heap.size + 1, 2, none⟩ (.string m.data)).setCell ⟨w.heap.size + 1, 3, none⟩ (.int .i64 m.time)).setCell ⟨w.heap.size + 1, 4, none⟩ (.int .i64 m.mark)).setCell ⟨w.heap.size + 1, 5, none⟩ (.int .i64 0)).cell? ⟨w.heap.size + 1, 1, none⟩ = some (.int .i64 m.kind) := cell_of_row _ _ 1 _ _ (0, 0) r6
  have d2 : ((((((w3.setCell ⟨w.heap.size + 1, 0, none⟩ (.string m.path)).setCell ⟨w.heap.size + 1, 1, none⟩ (.int .i64 m.kind)).setCell ⟨w.heap.size + 1, 2, none⟩ (.string m.data)).setCell ⟨w.heap.size + 1, 3, none⟩ (.int .i64 m.time)).setCell ⟨w.heap.size + 1, 4, none⟩ (.int .i64 m.mark)).setCell ⟨w.heap.size + 1, 5, none⟩ (.int .i64 0)).cell? ⟨w.heap.size + 1, 2, none⟩ = some (.string m.data) := cell_of_row _ _ 2 _ _ (0, 0) r6
  have d3 : ((((((w3.setCell ⟨w.heap.size + 1, 0, none⟩ (.string m.path)).setCell ⟨w.heap.size + 1, 1, none⟩ (.int .i64 m.kind)).setCell ⟨w.heap.size + 1, 2, none⟩ (.string m.data)).setCell ⟨w.heap.size + 1, 3, none⟩ (.int .i64 m.time)).setCell ⟨w.heap.size + 1, 4, none⟩ (.int .i64 m.mark)).setCell ⟨w.heap.size + 1, 5, none⟩ (.int .i64 0)).cell? ⟨w.heap.size + 1, 3, none⟩ = some (.int .i64 m.time) := cell_of_row _ _ 3 _ _ (0, 0) r6
  have d4 : ((((((w3.setCell ⟨w.heap.size + 1, 0, none⟩ (.string m.path)).setCell ⟨w.heap.size + 1, 1, none⟩ (.int .i64 m.kind)).setCell ⟨w.heap.size + 1, 2, none⟩ (.string m.data)).setCell ⟨w.heap.size + 1, 3, none⟩ (.int .i64 m.time)).setCell ⟨w.heap.size + 1, 4, none⟩ (.int .i64 m.mark)).setCell ⟨w.heap.size + 1, 5, none⟩ (.int .i64 0)).cell? ⟨w.heap.size + 1, 4, none⟩ = some (.int .i64 m.mark) := cell_of_row _ _ 4 _ _ (0, 0) r6
  have d5 : ((((((w3.setCell ⟨w.heap.size + 1, 0, none⟩ (.string m.path)).setCell ⟨w.heap.size + 1, 1, none⟩ (.int .i64 m.kind)).setCell ⟨w.heap.size + 1, 2, none⟩ (.string m.data)).setCell ⟨w.heap.size + 1, 3, none⟩ (.int .i64 m.time)).setCell ⟨w.heap.size + 1, 4, none⟩ (.int .i64 m.mark)).setCell ⟨w.heap.size + 1, 5, none⟩ (.int .i64 0)).cell? ⟨w.heap.size + 1, 5, none⟩ = some (.int .i64 0) := cell_of_row _ _ 5 _ _ (0, 0) r6
  have bf : Below w.heap.size w ((((((w3.setCell ⟨w.heap.size + 1, 0, none⟩ (.string m.path)).setCell ⟨w.heap.size + 1, 1, none⟩ (.int .i64 m.kind)).setCell ⟨w.heap.size + 1, 2, none⟩ (.string m.data)).setCell ⟨w.heap.size + 1, 3, none⟩ (.int .i64 m.time)).setCell ⟨w.heap.size + 1, 4, none⟩ (.int .i64 m.mark)).setCell ⟨w.heap.size + 1, 5, none⟩ (.int .i64 0)) := ((((((HR.1.setCell (by simp) _).setCell (by simp) _).setCell (by simp) _).setCell (by simp) _).setCell (by simp) _).setCell (by simp) _)
  refine bodyPost_ret (v := .agg #[.string m.path, .int .i64 m.kind, .string m.data, .int .i64 m.time, .int .i64 m.mark, .int .i64 0]) (by simp [results, Tryz.results92, go_sem, d0, d1, d2, d3, d4, d5]) rfl ⟨by rw [za E], bf⟩
 ·have E := hide (za E3 hz hno hf)
  clear E1 E2 E3 E4 hz hf HV h1 hno hs bw3 va3
  have HR := za HO
  have z0 := HR.at 0
  have f0 := HR.fr 0
  have z1 := HR.at 1
  have f1 := HR.fr 1
  have z2 := HR.at 2
  have f2 := HR.fr 2
  have z3 := HR.at 3
  have f3 := HR.fr 3
  have z4 := HR.at 4
  have f4 := HR.fr 4
  have z5 := HR.at 5
  have f5 := HR.fr 5
  clear HR
  simp only [kGs] at z0 z1 z2 z3 z4 z5
  go_wp2
  have HR := za HO
  have r6 : ((((((w3.setCell ⟨w.heap.size + 1, 0, none⟩ (.string ⟨#[]⟩)).setCell ⟨w.heap.size + 1, 1, none⟩ (.int .i64 0)).setCell ⟨w.heap.size + 1, 2, none⟩ (.string ⟨#[]⟩)).setCell ⟨w.heap.size + 1, 3, none⟩ (.int .i64 0)).setCell ⟨w.heap.size + 1, 4, none⟩ (.int .i64 0)).setCell ⟨w.heap.size + 1, 5, none⟩ (.int .i64 6)).heap[w.heap.size + 1]? = some (.cells #[.string ⟨#[]⟩, .int .i64 0, .string ⟨#[]⟩, .int .i64 0, .int .i64 0, .int .i64 6] 126 (0, 0)) := (heap_setCell_same _ _ 5 _ _ _ (heap_setCell_same _ _ 4 _ _ _ (heap_setCell_same _ _ 3 _ _ _ (heap_setCell_same _ _ 2 _ _ _ (heap_setCell_same _ _ 1 _ _ _ (heap_setCell_same _ _ 0 _ _ _ HR.2))))))
  have d0 : ((((((w3.setCell ⟨w.heap.size + 1, 0, none⟩ (.string ⟨#[]⟩)).setCell ⟨w.heap.size + 1, 1, none⟩ (.int .i64 0)).setCell ⟨w.heap.size + 1, 2, none⟩ (.string ⟨#[]⟩)).setCell ⟨w.heap.size + 1, 3, none⟩ (.int .i64 0)).setCell ⟨w.heap.size + 1, 4, none⟩ (.int .i64 0)).setCell ⟨w.heap.size + 1, 5, none⟩ (.int .i64 6)).cell? ⟨w.heap.size + 1, 0, none⟩ = some (.string ⟨#[]⟩) := cell_of_row _ _ 0 _ _ (0, 0) r6
  have d1 : ((((((w3.setCell ⟨w.heap.size + 1, 0, none⟩ (.string ⟨#[]⟩)).setCell ⟨w.heap.size + 1, 1, none⟩ (.int .i64 0)).setCell ⟨w.heap.size + 1, 2, none⟩ (.string ⟨#[]⟩)).setCell ⟨w.heap.size + 1, 3, none⟩ (.int .i64 0)).setCell ⟨w.heap.size + 1, 4, none⟩ (.int .i64 0)).setCell ⟨w.heap.size + 1, 5, none⟩ (.int .i64 6)).cell? ⟨w.heap.size + 1, 1, none⟩ = some (.int .i64 0) := cell_of_row _ _ 1 _ _ (0, 0) r6
  have d2 : ((((((w3.setCell ⟨w.heap.size + 1, 0, none⟩ (.string ⟨#[]⟩)).setCell ⟨w.heap.size + 1, 1, none⟩ (.int .i64 0)).setCell ⟨w.heap.size + 1, 2, none⟩ (.string ⟨#[]⟩)).setCell ⟨w.heap.size + 1, 3, none⟩ (.int .i64 0)).setCell ⟨w.heap.size + 1, 4, none⟩ (.int .i64 0)).setCell ⟨w.heap.size + 1, 5, none⟩ (.int .i64 6)).cell? ⟨w.heap.size + 1, 2, none⟩ = some (.string ⟨#[]⟩) := cell_of_row _ _ 2 _ _ (0, 0) r6
  have d3 : ((((((w3.setCell ⟨w.heap.size + 1, 0, none⟩ (.string ⟨#[]⟩)).setCell ⟨w.heap.size + 1, 1, none⟩ (.int .i64 0)).setCell ⟨w.heap.size + 1, 2, none⟩ (.string ⟨#[]⟩)).setCell ⟨w.heap.size + 1, 3, none⟩ (.int .i64 0)).setCell ⟨w.heap.size + 1, 4, none⟩ (.int .i64 0)).setCell ⟨w.heap.size + 1, 5, none⟩ (.int .i64 6)).cell? ⟨w.heap.size + 1, 3, none⟩ = some (.int .i64 0) := cell_of_row _ _ 3 _ _ (0, 0) r6
  have d4 : ((((((w3.setCell ⟨w.heap.size + 1, 0, none⟩ (.string ⟨#[]⟩)).setCell ⟨w.heap.size + 1, 1, none⟩ (.int .i64 0)).setCell ⟨w.heap.size + 1, 2, none⟩ (.string ⟨#[]⟩)).setCell ⟨w.heap.size + 1, 3, none⟩ (.int .i64 0)).setCell ⟨w.heap.size + 1, 4, none⟩ (.int .i64 0)).setCell ⟨w.heap.size + 1, 5, none⟩ (.int .i64 6)).cell? ⟨w.heap.size + 1, 4, none⟩ = some (.int .i64 0) := cell_of_row _ _ 4 _ _ (0, 0) r6
  have d5 : ((((((w3.setCell ⟨w.heap.size + 1, 0, none⟩ (.string ⟨#[]⟩)).setCell ⟨w.heap.size + 1, 1, none⟩ (.int .i64 0)).setCell ⟨w.heap.size + 1, 2, none⟩ (.string ⟨#[]⟩)).setCell ⟨w.heap.size + 1, 3, none⟩ (.int .i64 0)).setCell ⟨w.heap.size + 1, 4, none⟩ (.int .i64 0)).setCell ⟨w.heap.size + 1, 5, none⟩ (.int .i64 6)).cell? ⟨w.heap.size + 1, 5, none⟩ = some (.int .i64 6) := cell_of_row _ _ 5 _ _ (0, 0) r6
  have bf : Below w.heap.size w ((((((w3.setCell ⟨w.heap.size + 1, 0, none⟩ (.string ⟨#[]⟩)).setCell ⟨w.heap.size + 1, 1, none⟩ (.int .i64 0)).setCell ⟨w.heap.size + 1, 2, none⟩ (.string ⟨#[]⟩)).setCell ⟨w.heap.size + 1, 3, none⟩ (.int .i64 0)).setCell ⟨w.heap.size + 1, 4, none⟩ (.int .i64 0)).setCell ⟨w.heap.size + 1, 5, none⟩ (.int .i64 6)) := ((((((HR.1.setCell (by simp) _).setCell (by simp) _).setCell (by simp) _).setCell (by simp) _).setCell (by simp) _).setCell (by simp) _)
  refine bodyPost_ret (v := .agg #[.string ⟨#[]⟩, .int .i64 0, .string ⟨#[]⟩, .int .i64 0, .int .i64 0, .int .i64 6]) (by simp [results, Tryz.results92, go_sem, d0, d1, d2, d3, d4, d5]) rfl ⟨by rw [za E], bf⟩
end WGetT
end Go.Proofs.YtioildojmckepaaGreatDoor
