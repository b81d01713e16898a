/- The walk of the law FnExactGetNum, over the walks of the two functions. -/
import Derived.Test.YtopipjfomnnjcaeDoorWGetI
namespace Go.Proofs.YtopipjfomnnjcaeDoor
open Go.RowKit
namespace fnExactGetNum
theorem eq_any (n a c : Int) (w : World) :
    Calls Tryd.prog 6 #[.agg #[.int .i64 n, .int .i64 a, .int .i64 c], .agg #[.int .i64 n, .int .i64 a, .int .i64 c]] w fun e w' => e = .returned (.bool true) ∧ Below w.heap.size w w' := by
  go_enter Tryd.func6, Tryd.ntmps6
  go_wp2
  go_ret
  exact ⟨rfl, ((Below.refl _ _).alloc (Nat.le_refl _) _).alloc (by simp) _⟩

set_option maxRecDepth 100000 in
theorem walk (a0 : ByteArray) (a1 : Int) (w : World) (w0 : a0.size ≤ maxLen) (w1 : (Lit.int .i64 a1).wf = true)
    (hg : w.cell? ⟨0, 0, none⟩ = some (.iface 53 (.agg #[.pointer (some ⟨1, 30, none⟩)]))) :
    Calls Tryd.prog 3 #[.string a0, .int .i64 a1] w fun e w' => e = .returned (.bool true) ∧ Below w.heap.size w w' := by
  have hi := (i64_of_wf w1).2
  have m0 := w0
  unfold maxLen at m0
  by_cases h : 1048576 < a0.size
  · go_enter Tryd.func3, Tryd.ntmps3
    go_wp2
    go_ret
    exact ⟨rfl, Below.refl _ _⟩
  · obtain ⟨n, t, c, E⟩ : ∃ n t c, Hid (WGetS.num (Pl.getNum a0 a1) = .agg #[.int .i64 n, .int .i64 t, .int .i64 c]) := ⟨_, _, _, rfl⟩
    have hlt0 : 0 < w.heap.size := World.block_lt_of_cell? w ⟨0, 0, none⟩ hg
    have HG := hide hg
    clear hg
    go_enter Tryd.func3, Tryd.ntmps3
    go_wp2_with fail
    refine (WGetS.spec_any a0 a1 _ w0 hi).mono ?_
    rintro e v1 ⟨rfl, b1⟩
    rw [E.out]
    have hg1 : (v1.alloc (.cells #[.int .i64 n, .int .i64 t, .int .i64 c] 23)).cell? ⟨0, 0, none⟩ = some (.iface 53 (.agg #[.pointer (some ⟨1, 30, none⟩)])) := by
      have hs := b1.size
      rw [World.cell?_alloc_lt _ _ ⟨0, 0, none⟩ (by show 0 < _; omega)]
      exact (b1.cell (p := ⟨0, 0, none⟩) hlt0).trans (unhide HG)
    have HG1 := hide hg1
    clear hg1
    go_wp2_with fail
    refine (WGet.impl_any a0 a1 _ w0 hi (unhide HG1)).mono ?_
    rintro e v2 ⟨rfl, b2⟩
    rw [E.out]
    obtain ⟨⟨c0, c1, c2⟩, ⟨f0, f1, f2⟩, b3⟩ := Mem.kept3 b2 (heap_alloc_new v1 _) ((Below.refl _ _).alloc (Nat.le_refl _) _)
    have hlt : v1.heap.size < v2.heap.size := World.block_lt_of_cell? v2 ⟨v1.heap.size, 0, none⟩ c0
    have b4 : Below w.heap.size w v2 := b1.trans (b3.mono b1.size)
    have hs1 := b1.size
    clear b1 b2 b3
    go_wp2_with fail
    refine (eq_any _ _ _ _).mono ?_
    rintro e v3 ⟨rfl, b5⟩
    have b6 := (b4.alloc (by omega) _).trans (b5.mono (by simp; omega))
    clear b4 b5
    go_wp2
    go_ret
    exact ⟨rfl, b6⟩
end fnExactGetNum
end Go.Proofs.YtopipjfomnnjcaeDoor
