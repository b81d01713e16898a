/- The walk of the program's GetNum. -/
import Derived.Test.YtopipjfomnnjcaaDoorWGetN
import Derived.Test.YtopipjfomnnjcaaDoorWAsB
import Derived.Test.YtopipjfomnnjcaaDoorWNumT
import Derived.Test.YtopipjfomnnjcaaDoorPlainGetZ
namespace Go.Proofs.YtopipjfomnnjcaaDoor
open Go.RowKit
namespace WGet

set_option maxRecDepth 100000 in
set_option maxHeartbeats 1000000 in
theorem impl_any (s : ByteArray) (a : Int) (w : World) (hs : s.size ≤ maxLen) (ha : a ≤ 9223372036854775807)
    (hg : w.cell? ⟨0, 0, none⟩ = some (.iface 74 (.agg #[.pointer (some ⟨1, 42, none⟩)]))) :
    Calls Tryd.prog 7 #[.string s, .int .i64 a] w fun e w' => e = .returned (WGetS.num (Pl.getNum s a)) ∧ Below w.heap.size w w' := by
  unfold maxLen at hs
  by_cases h1 : 8000 < s.size
  · have E : Hid (WGetS.num (Pl.getNum s a) = .agg #[.int .i64 0, .int .i64 0, .int .i64 2]) := by show _ = _; rw [Pl.getNum, if_pos h1]; rfl
    go_enter Tryd.func7, Tryd.ntmps7
    go_wp2
    refine bodyPost_ret (v := .agg #[.int .i64 0, .int .i64 0, .int .i64 2]) (by simp [results, Tryd.results7, go_sem]) rfl ⟨by rw [E.out], ?_⟩
    exact (Below.refl _ _).alloc (Nat.le_refl _) _
  have hlt : 0 < w.heap.size := World.block_lt_of_cell? w ⟨0, 0, none⟩ hg
  have hg1 : (w.alloc (.cells #[.int .i64 0, .int .i64 0, .int .i64 0] 26)).cell? ⟨0, 0, none⟩ = some (.iface 74 (.agg #[.pointer (some ⟨1, 42, none⟩)])) := by
    rw [World.cell?_alloc_lt _ _ ⟨0, 0, none⟩ hlt]; exact hg
  have hr := fun W => read_whole s a W (by omega) ha
  have HR := hide hr
  clear hr
  have HZ := Pl.getNum_zero s a
  generalize Pl.getNum s a = r at HR HZ ⊢
  obtain ⟨x, y, c⟩ := r
  have HXY : c ≠ 0 → x = 0 ∧ y = 0 := HZ
  clear HZ
  by_cases hc : c = 0
  · subst hc
    clear HXY
    have E := hide (told_good (r := (x, y, 0)) rfl)
    go_enter Tryd.func7, Tryd.ntmps7
    go_wp2_with fail
    refine (unhide HR _).mono ?_
    rintro e w1 ⟨rfl, hw⟩
    obtain rfl := hw.symm
    rw [unhide E]
    go_wp2_with fail
    refine (WAs.code_nil _).mono ?_
    rintro e w1 ⟨rfl, b1⟩
    obtain ⟨⟨c0, c1, c2⟩, ⟨f0, f1, f2⟩, b3⟩ := Mem.kept3 b1 (heap_alloc_new w _) ((Below.refl _ _).alloc (Nat.le_refl _) _)
    clear b1
    go_wp2
    refine bodyPost_ret (v := .agg #[.int .i64 x, .int .i64 y, .int .i64 0]) (by simp [results, Tryd.results7, go_sem, c0, c1, c2]) rfl ⟨rfl, ?_⟩
    exact ((b3.setCell (by simp) _).setCell (by simp) _).setCell (by simp) _
  · have E := hide (told_bad (r := (0, 0, c)) rfl hc)
    have hxy : x = 0 ∧ y = 0 := HXY hc
    obtain ⟨rfl, rfl⟩ := hxy
    clear HXY
    go_enter Tryd.func7, Tryd.ntmps7
    go_wp2_with fail
    refine (unhide HR _).mono ?_
    rintro e w1 ⟨rfl, hw⟩
    obtain rfl := hw.symm
    rw [unhide E]
    go_wp2_with fail
    refine (WAs.code_hit c _ hg1).mono ?_
    rintro e w1 ⟨rfl, b1⟩
    obtain ⟨⟨c0, c1, c2⟩, ⟨f0, f1, f2⟩, b3⟩ := Mem.kept3 b1 (heap_alloc_new w _) ((Below.refl _ _).alloc (Nat.le_refl _) _)
    clear b1 hg1
    go_wp2
    refine bodyPost_ret (v := .agg #[.int .i64 0, .int .i64 0, .int .i64 c]) (by simp [results, Tryd.results7, go_sem, c0, c1, c2]) rfl ⟨rfl, ?_⟩
    exact ((b3.setCell (by simp) _).setCell (by simp) _).setCell (by simp) _
end WGet
end Go.Proofs.YtopipjfomnnjcaaDoor
