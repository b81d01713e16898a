/- The walk of the law FnExactNodeRight, over the walks of the two functions. -/
import Derived.Test.YtepmojmelcngeaaWNode
import Derived.Test.YtepmojmelcngeaaG10
namespace Go.Proofs.Ytepmojmelcngeaa
open Go.RowKit
namespace fnExactNodeRight
set_option maxRecDepth 100000 in
theorem walk (n : Pl.Nd) (w : World) (ok : OpenN.Ok n) :
    Calls Try.prog 3 #[n.val] w fun e w' => e = .returned (.bool true) ∧ Below w.heap.size w w' := by
  obtain ⟨hp, hd, -⟩ := ok
  have hz := hide (fun W => WLaw.szNode_any n 1048576 W hp hd (by omega) (by omega))
  have ht := hide (fun W => WLaw.toNode_any n W)
  have hs := hide (fun W h1 h2 => WNode.spec_any n W h1 h2)
  have hi := hide (fun W h1 h2 => WNode.impl_any n W h1 h2)
  generalize Pl.nodeB n = V at hs hi
  have hb0 : ∀ o, Below w.heap.size w (w.alloc o) := fun o => (Below.refl _ _).alloc (Nat.le_refl _) o
  have HB := hide hb0
  clear hb0
  obtain ⟨p, k, d, t, m⟩ := n
  simp only [Pl.Nd.val] at hz ht hs hi ⊢
  simp only at hp hd
  have hv := Mem.var_new w [.string p, .int .i64 k, .string d, .int .i64 t, .int .i64 m] 23
  go_enter Try.func3, Try.ntmps3
  go_wp2_with fail
  refine (unhide hz _).mono ?_
  rintro e w1 ⟨⟨r, rfl, hr⟩, b1⟩
  have hv1 := Mem.var_call hv b1
  have hb1 := (unhide HB _).trans (b1.mono (unhide HB _).size)
  clear hv b1 hz
  rcases hr with rfl | ⟨hr0, hr1⟩
  · clear hv1
    go_wp2
    go_ret
    exact ⟨rfl, hb1⟩
  have hr2 : ¬ r < 0 := by omega
  obtain ⟨-, hc⟩ := hv1
  have c0 := hc 0 _ rfl
  have c1 := hc 1 _ rfl
  have c2 := hc 2 _ rfl
  have c3 := hc 3 _ rfl
  have c4 := hc 4 _ rfl
  go_wp2_with fail
  refine (unhide ht _).mono ?_
  rintro e w2 ⟨rfl, b2⟩
  obtain ⟨-, hc2⟩ := Mem.var_call (w := w1) (B := w.heap.size) ⟨World.block_lt_of_cell? w1 ⟨w.heap.size, 0, none⟩ c0, hc⟩ b2
  have hb2 := hb1.trans (b2.mono hb1.size)
  clear hc c0 c1 c2 c3 c4 b2 hb1
  have c0 := hc2 0 _ rfl
  have c1 := hc2 1 _ rfl
  have c2 := hc2 2 _ rfl
  have c3 := hc2 3 _ rfl
  have c4 := hc2 4 _ rfl
  go_wp2_with fail
  refine (unhide hs _ (by show p.size ≤ 1048576; omega) (by show d.size ≤ 1048576; omega)).mono ?_
  rintro e w3 ⟨rfl, b3⟩
  obtain ⟨-, hc3⟩ := Mem.var_call (w := w2) (B := w.heap.size) ⟨World.block_lt_of_cell? w2 ⟨w.heap.size, 0, none⟩ c0, hc2⟩ b3
  have hb3 := hb2.trans (b3.mono hb2.size)
  clear hc2 c0 c1 c2 c3 c4 b3 hb2
  have c0 := hc3 0 _ rfl
  have c1 := hc3 1 _ rfl
  have c2 := hc3 2 _ rfl
  have c3 := hc3 3 _ rfl
  have c4 := hc3 4 _ rfl
  go_wp2_with fail
  refine (unhide ht _).mono ?_
  rintro e w4 ⟨rfl, b4⟩
  have hb4 := hb3.trans (b4.mono hb3.size)
  clear hc3 c0 c1 c2 c3 c4 b4 hb3
  go_wp2_with fail
  refine (unhide hi _ (by show p.size ≤ 1048576; omega) (by show d.size ≤ 1048576; omega)).mono ?_
  rintro e w5 ⟨rfl, b5⟩
  have hb5 := hb4.trans (b5.mono hb4.size)
  clear b5 hb4
  cases V
  all_goals
    go_wp2
    go_ret
    exact ⟨rfl, hb5⟩
end fnExactNodeRight
end Go.Proofs.Ytepmojmelcngeaa
