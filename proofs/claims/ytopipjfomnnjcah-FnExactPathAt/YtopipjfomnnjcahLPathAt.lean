/- The walk of the law FnExactPathAt, over the walks of the two functions. -/
import Derived.Test.YtopipjfomnnjcahWAtS
import Derived.Test.YtopipjfomnnjcahWAt
namespace Go.Proofs.Ytopipjfomnnjcah
open Go.RowKit
namespace fnExactPathAt
theorem eq_any (t : ByteArray) (a c : Int) (w : World) :
    Calls Try.prog 13 #[.agg #[.string t, .int .i64 a, .int .i64 c], .agg #[.string t, .int .i64 a, .int .i64 c]] w fun e w' => e = .returned (.bool true) ∧ Below w.heap.size w w' := by
  go_enter Try.func13, Try.ntmps13
  go_wp2
  go_ret
  exact ⟨rfl, ((Below.refl _ _).alloc (Nat.le_refl _) _).alloc (by simp) _⟩
set_option maxRecDepth 100000 in
theorem walk (a0 a1 : ByteArray) (w : World) (w0 : a0.size ≤ maxLen) (w1 : a1.size ≤ maxLen) :
    Calls Try.prog 6 #[.string a0, .string a1] w fun e w' => e = .returned (.bool true) ∧ Below w.heap.size w w' := by
  have m0 := w0
  unfold maxLen at m0
  have m1 := w1
  unfold maxLen at m1
  by_cases g0 : 1048576 < a0.size
  · go_enter Try.func6, Try.ntmps6
    go_wp2
    go_ret
    exact ⟨rfl, Below.refl _ _⟩
  have h0 : a0.size ≤ 1048576 := by omega
  by_cases g1 : 1048576 < a1.size
  · go_enter Try.func6, Try.ntmps6
    go_wp2
    go_ret
    exact ⟨rfl, Below.refl _ _⟩
  have h1 : a1.size ≤ 1048576 := by omega
  have hs := hide (fun W => WPathS.atF_any a0 a1 W h0 h1)
  have hi := hide (fun W => WPathI.at_any a0 a1 W h0 h1)
  obtain ⟨t, c, E⟩ : ∃ t c, Hid (Pl.tOut (Pl.atO a0 a1) = .agg #[.string t, .int .i64 0, .int .i64 c]) := ⟨_, _, rfl⟩
  generalize Pl.tOut (Pl.atO a0 a1) = V at hs hi E
  go_enter Try.func6, Try.ntmps6
  go_wp2_with fail
  refine (unhide hs _).mono ?_
  rintro e w1 ⟨rfl, b1⟩
  rw [E.out]
  go_wp2_with fail
  refine (unhide hi _).mono ?_
  rintro e w2 ⟨rfl, b2⟩
  rw [E.out]
  obtain ⟨⟨c0, c1, c2⟩, ⟨f0, f1, f2⟩, b3⟩ := Mem.kept3 b2 (heap_alloc_new w1 _) ((Below.refl _ _).alloc (Nat.le_refl _) _)
  have hlt : w1.heap.size < w2.heap.size := World.block_lt_of_cell? w2 ⟨w1.heap.size, 0, none⟩ c0
  have b4 : Below w.heap.size w w2 := b1.trans (b3.mono b1.size)
  have hs1 := b1.size
  clear b1 b2 b3
  go_wp2_with fail
  refine (eq_any _ _ _ _).mono ?_
  rintro e w3 ⟨rfl, b5⟩
  have b6 := (b4.alloc (by omega) _).trans (b5.mono (by simp; omega))
  clear b4 b5
  go_wp2
  go_ret
  exact ⟨rfl, b6⟩
end fnExactPathAt
end Go.Proofs.Ytopipjfomnnjcah
