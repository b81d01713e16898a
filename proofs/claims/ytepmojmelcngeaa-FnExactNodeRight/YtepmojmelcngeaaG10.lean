/- Several texts of one claim in one file: WLawN, OkNode, OpenNode. -/
import Derived.Test.YtepmojmelcngeaaG03
import Derived.Test.YtepmojmelcngeaaG04
import Derived.Test.YtepmojmelcngeaaProg
import Derived.Test.YtepmojmelcngeaaRows
import Derived.ProofKit
import Derived.OpenShut
import Derived.ShutString
import Derived.ChangeOld
/- The walks of the laws' own functions on nodes. -/
namespace Go.Proofs.Ytepmojmelcngeaa
open Go.RowKit
namespace WLaw
set_option maxRecDepth 100000 in
/-- What is left of a size behind a node: below 0 if it is used up. -/
theorem szNode_any (n : Pl.Nd) (left : Int) (w : World) (hp : n.path.size ≤ maxLen) (hd : n.data.size ≤ maxLen) (h0 : 0 ≤ left) (h1 : left ≤ 1048576) :
    Calls Try.prog 4 #[n.val, .int .i64 left] w fun e w' => (∃ r : Int, e = .returned (.int .i64 r) ∧ (r = -1 ∨ 0 ≤ r ∧ r + n.path.size + n.data.size = left)) ∧ Below w.heap.size w w' := by
  obtain ⟨p, k, d, t, m⟩ := n
  simp only at hp hd
  unfold maxLen at hp hd
  simp only [Pl.Nd.val]
  have hb : ∀ o, Below w.heap.size w (w.alloc o) := fun o => (Below.refl _ _).alloc (Nat.le_refl _) o
  have HB := hide hb
  clear hb
  by_cases h2 : left < (p.size : Int)
  · have t2 : left - (p.size : Int) < 0 := by omega
    go_enter Try.func4, Try.ntmps4
    go_wp2
    go_ret
    exact ⟨⟨-1, rfl, .inl rfl⟩, unhide HB _⟩
  have t2 : ¬ left - (p.size : Int) < 0 := by omega
  by_cases h3 : left < (p.size : Int) + (d.size : Int)
  · have t3 : left - (p.size : Int) - (d.size : Int) < 0 := by omega
    go_enter Try.func4, Try.ntmps4
    go_wp2
    go_ret
    exact ⟨⟨-1, rfl, .inl rfl⟩, unhide HB _⟩
  · have t3 : ¬ left - (p.size : Int) - (d.size : Int) < 0 := by omega
    go_enter Try.func4, Try.ntmps4
    go_wp2
    go_ret
    exact ⟨⟨_, rfl, .inr ⟨by omega, by omega⟩⟩, unhide HB _⟩
set_option maxRecDepth 100000 in
theorem toNode_any (n : Pl.Nd) (w : World) :
    Calls Try.prog 6 #[n.val] w fun e w' => e = .returned n.val ∧ Below w.heap.size w w' := by
  obtain ⟨p, k, d, t, m⟩ := n
  simp only [Pl.Nd.val]
  go_enter Try.func6, Try.ntmps6
  go_wp2
  refine bodyPost_ret (v := .agg #[.string p, .int .i64 k, .string d, .int .i64 t, .int .i64 m]) (by simp [results, Try.results6, go_sem]) rfl ⟨rfl, ?_⟩
  exact (((Below.refl _ _).alloc (Nat.le_refl _) _).alloc (by simp) _).alloc (by simp; omega) _
end WLaw
end Go.Proofs.Ytepmojmelcngeaa

/- A node that came in: its bounds. -/
namespace Go.Proofs.Ytepmojmelcngeaa
open Go.RowKit
namespace OpenN
def Ok (n : Pl.Nd) : Prop := n.path.size ≤ maxLen ∧ n.data.size ≤ maxLen ∧ (-9223372036854775808 ≤ n.kind ∧ n.kind ≤ 9223372036854775807) ∧ (-9223372036854775808 ≤ n.time ∧ n.time ≤ 9223372036854775807) ∧ (-9223372036854775808 ≤ n.mark ∧ n.mark ≤ 9223372036854775807)
end OpenN
end Go.Proofs.Ytepmojmelcngeaa

/- A Node that came in, opened. -/
namespace Go.Proofs.Ytepmojmelcngeaa
open Go.ChangeShapes Go.WideShapes Go.ChangeAt Go.RowKit
namespace OpenN
theorem five {α : Type} {l : List α} (h : l.length = 5) : ∃ a b c d e, l = [a, b, c, d, e] := by
  match l, h with
  | [a, b, c, d, e], _ => exact ⟨a, b, c, d, e, rfl⟩
theorem cells5 : Try.prog.cellsOf 23 = 5 := by kernel_rfl
theorem cellsS : Try.prog.cellsOf 9 = 1 := by kernel_rfl
theorem cellsI : Try.prog.cellsOf 2 = 1 := by kernel_rfl
set_option maxRecDepth 100000 in
theorem node {H : Type} {enc : TypeId × Value → H} {w : World} {base fuel : Nat} {spare : Nat → Bool} {held : Bool} {cs : List Value} {x : DataW H × List MemPlace}
    (h : DataW.trod enc Try.prog w base spare held fuel 23 cs = some x) : ∃ n : Pl.Nd, cs = n.cells ∧ Ok n := by
  obtain ⟨xs, m, rfl, -, hlen, hxl, hf⟩ := DataW.trod_struct Try.underlying23 h
  obtain ⟨c0, c1, c2, c3, c4, rfl⟩ := five (hlen.trans cells5)
  obtain ⟨y0, y1, y2, y3, y4, rfl⟩ := five hxl
  have h0 := hf 0 _ rfl
  have h1 := hf 1 _ rfl
  have h2 := hf 2 _ rfl
  have h3 := hf 3 _ rfl
  have h4 := hf 4 _ rfl
  change DataW.trod enc Try.prog w base spare held m 9 (([c0, c1, c2, c3, c4].drop 0).take (Try.prog.cellsOf 9)) = some y0 at h0
  rw [cellsS] at h0
  change DataW.trod enc Try.prog w base spare held m 2 (([c0, c1, c2, c3, c4].drop 1).take (Try.prog.cellsOf 2)) = some y1 at h1
  rw [cellsI] at h1
  change DataW.trod enc Try.prog w base spare held m 9 (([c0, c1, c2, c3, c4].drop 2).take (Try.prog.cellsOf 9)) = some y2 at h2
  rw [cellsS] at h2
  change DataW.trod enc Try.prog w base spare held m 2 (([c0, c1, c2, c3, c4].drop 3).take (Try.prog.cellsOf 2)) = some y3 at h3
  rw [cellsI] at h3
  change DataW.trod enc Try.prog w base spare held m 2 (([c0, c1, c2, c3, c4].drop 4).take (Try.prog.cellsOf 2)) = some y4 at h4
  rw [cellsI] at h4
  obtain ⟨p, e0, -, wp⟩ := DataW.trod_string Try.underlying9 h0
  obtain ⟨k, e1, -, wk⟩ := DataW.trod_int Try.underlying2 h1
  obtain ⟨d, e2, -, wd⟩ := DataW.trod_string Try.underlying9 h2
  obtain ⟨t, e3, -, wt⟩ := DataW.trod_int Try.underlying2 h3
  obtain ⟨q, e4, -, wq⟩ := DataW.trod_int Try.underlying2 h4
  simp at e0 e1 e2 e3 e4
  subst e0 e1 e2 e3 e4
  exact ⟨⟨p, k, d, t, q⟩, rfl, wp, wd, i64_of_wf wk, i64_of_wf wt, i64_of_wf wq⟩
set_option maxRecDepth 100000 in
theorem node_arg {H : Type} {enc : TypeId × Value → H} {w : World} {base b0 : Nat} {spare : Nat → Bool} {held : Bool} {r : Reach} {v : Value} {d : DataW H} {ps : List MemPlace}
    (hv : Value.okWide Try.prog w r b0 23 v) (h : DataW.Trod enc Try.prog w base spare held 23 v d ps) : ∃ n : Pl.Nd, v = n.val ∧ Ok n := by
  obtain ⟨cs, rfl, hsz⟩ := okWide_struct Try.underlying23 hv
  obtain ⟨fuel, hf⟩ := h
  obtain ⟨n, hn, ok⟩ := node hf
  refine ⟨n, ?_, ok⟩
  simp [Value.cells] at hn
  rw [show cs = n.cells.toArray from by rw [← hn]]
  rfl
end OpenN
end Go.Proofs.Ytepmojmelcngeaa

