/- Several texts of one claim in one file: OpenNode, OpenTree. -/
import Derived.Test.YtepmojmelcngeaaGreatDoorRows
import Derived.Test.YtepmojmelcngeaaGreatDoorG03
import Derived.Test.YtepmojmelcngeaaGreatDoorG01
import Derived.Test.YtepmojmelcngeaaGreatDoorG41
import Derived.ProofKit
import Derived.OpenShut
import Derived.ShutString
import Derived.ChangeOld
import Derived.Test.YtepmojmelcngeaaGreatDoorG12
/- A Node that came in, opened. -/
namespace Go.Proofs.YtepmojmelcngeaaGreatDoor
open Go.ChangeShapes Go.WideShapes Go.ChangeAt Go.RowKit
namespace OpenN
theorem five {α : Type} {l : List α} (h : l.length = 5) : ∃ a b c d e, l = [a, b, c, d, e] := by
  match l, h with
  | [a, b, c, d, e], _ => exact ⟨a, b, c, d, e, rfl⟩
theorem cells5 : Tryz.prog.cellsOf 26 = 5 := by kernel_rfl
theorem cellsS : Tryz.prog.cellsOf 9 = 1 := by kernel_rfl
theorem cellsI : Tryz.prog.cellsOf 2 = 1 := by kernel_rfl
set_option maxRecDepth 100000 in
theorem node {H : Type} {enc : TypeId × Value → H} {w : World} {base fuel : Nat} {spare : Nat → Bool} {held : Bool} {cs : List Value} {x : DataW H × List MemPlace}
    (h : DataW.trod enc Tryz.prog w base spare held fuel 26 cs = some x) : ∃ n : Pl.Nd, cs = n.cells ∧ Ok n := by
  obtain ⟨xs, m, rfl, -, hlen, hxl, hf⟩ := DataW.trod_struct Tryz.underlying26 h
  obtain ⟨c0, c1, c2, c3, c4, rfl⟩ := five (hlen.trans cells5)
  obtain ⟨y0, y1, y2, y3, y4, rfl⟩ := five hxl
  have h0 := hf 0 _ rfl
  have h1 := hf 1 _ rfl
  have h2 := hf 2 _ rfl
  have h3 := hf 3 _ rfl
  have h4 := hf 4 _ rfl
  change DataW.trod enc Tryz.prog w base spare held m 9 (([c0, c1, c2, c3, c4].drop 0).take (Tryz.prog.cellsOf 9)) = some y0 at h0
  rw [cellsS] at h0
  change DataW.trod enc Tryz.prog w base spare held m 2 (([c0, c1, c2, c3, c4].drop 1).take (Tryz.prog.cellsOf 2)) = some y1 at h1
  rw [cellsI] at h1
  change DataW.trod enc Tryz.prog w base spare held m 9 (([c0, c1, c2, c3, c4].drop 2).take (Tryz.prog.cellsOf 9)) = some y2 at h2
  rw [cellsS] at h2
  change DataW.trod enc Tryz.prog w base spare held m 2 (([c0, c1, c2, c3, c4].drop 3).take (Tryz.prog.cellsOf 2)) = some y3 at h3
  rw [cellsI] at h3
  change DataW.trod enc Tryz.prog w base spare held m 2 (([c0, c1, c2, c3, c4].drop 4).take (Tryz.prog.cellsOf 2)) = some y4 at h4
  rw [cellsI] at h4
  obtain ⟨p, e0, -, wp⟩ := DataW.trod_string Tryz.underlying9 h0
  obtain ⟨k, e1, -, wk⟩ := DataW.trod_int Tryz.underlying2 h1
  obtain ⟨d, e2, -, wd⟩ := DataW.trod_string Tryz.underlying9 h2
  obtain ⟨t, e3, -, wt⟩ := DataW.trod_int Tryz.underlying2 h3
  obtain ⟨q, e4, -, wq⟩ := DataW.trod_int Tryz.underlying2 h4
  simp at e0 e1 e2 e3 e4
  subst e0 e1 e2 e3 e4
  exact ⟨⟨p, k, d, t, q⟩, rfl, wp, wd, i64_of_wf wk, i64_of_wf wt, i64_of_wf wq⟩
set_option maxRecDepth 100000 in
theorem node_arg {H : Type} {enc : TypeId × Value → H} {w : World} {base b0 : Nat} {spare : Nat → Bool} {held : Bool} {r : Reach} {v : Value} {d : DataW H} {ps : List MemPlace}
    (hv : Value.okWide Tryz.prog w r b0 26 v) (h : DataW.Trod enc Tryz.prog w base spare held 26 v d ps) : ∃ n : Pl.Nd, v = n.val ∧ Ok n := by
  obtain ⟨cs, rfl, hsz⟩ := okWide_struct Tryz.underlying26 hv
  obtain ⟨fuel, hf⟩ := h
  obtain ⟨n, hn, ok⟩ := node hf
  refine ⟨n, ?_, ok⟩
  simp [Value.cells] at hn
  rw [show cs = n.cells.toArray from by rw [← hn]]
  rfl
end OpenN
end Go.Proofs.YtepmojmelcngeaaGreatDoor

/- A Tree that came in, opened. -/
namespace Go.Proofs.YtepmojmelcngeaaGreatDoor
open Go.ChangeShapes Go.WideShapes Go.ChangeAt Go.RowKit
namespace OpenT
theorem cells1 : Tryz.prog.cellsOf 24 = 1 := by kernel_rfl
theorem cellsL : Tryz.prog.cellsOf 22 = 1 := by kernel_rfl
structure OkT (w : World) (a : Option Addr) (L : List Pl.Nd) : Prop where
  len : L.length ≤ maxLen
  nodes : Mem.isNodes w a L
  ok : ∀ n ∈ L, OpenN.Ok n
theorem one {α : Type} {l : List α} (h : l.length = 1) : ∃ a, l = [a] := by
  match l, h with
  | [a], _ => exact ⟨a, rfl⟩
theorem mapM5 {f : Nat → Option Value} {c0 c1 c2 c3 c4 : Value} (h : (List.range 5).mapM f = some [c0, c1, c2, c3, c4]) : f 0 = some c0 ∧ f 1 = some c1 ∧ f 2 = some c2 ∧ f 3 = some c3 ∧ f 4 = some c4 := by
  have e : List.range 5 = [0, 1, 2, 3, 4] := rfl
  rw [e] at h
  simp only [List.mapM_cons, List.mapM_nil, Option.pure_def, Option.bind_eq_bind] at h
  cases h0 : f 0 with
  | none => rw [h0] at h; simp at h
  | some a0 =>
    cases h1 : f 1 with
    | none => rw [h0, h1] at h; simp at h
    | some a1 =>
      cases h2 : f 2 with
      | none => rw [h0, h1, h2] at h; simp at h
      | some a2 =>
        cases h3 : f 3 with
        | none => rw [h0, h1, h2, h3] at h; simp at h
        | some a3 =>
          cases h4 : f 4 with
          | none => rw [h0, h1, h2, h3, h4] at h; simp at h
          | some a4 =>
            rw [h0, h1, h2, h3, h4] at h
            simp at h
            obtain ⟨rfl, rfl, rfl, rfl, rfl⟩ := h
            exact ⟨rfl, rfl, rfl, rfl, rfl⟩
set_option maxRecDepth 100000 in
theorem tree_arg {H : Type} {enc : TypeId × Value → H} {w : World} {base b0 : Nat} {spare : Nat → Bool} {held : Bool} {r : Reach} {v : Value} {d : DataW H} {ps : List MemPlace}
    (hv : Value.okWide Tryz.prog w r b0 24 v) (h : DataW.Trod enc Tryz.prog w base spare held 24 v d ps) : ∃ (a : Option Addr) (L : List Pl.Nd) (cap : Nat), v = .agg #[.slice a L.length cap] ∧ OkT w a L := by
  obtain ⟨cs, rfl, hsz⟩ := okWide_struct Tryz.underlying24 hv
  obtain ⟨fuel, hf⟩ := h
  obtain ⟨xs, m, rfl, -, hlen, hxl, hfl⟩ := DataW.trod_struct Tryz.underlying24 hf
  obtain ⟨c, hc⟩ := one (show cs.toList.length = 1 by rw [Array.length_toList, hsz, cells1])
  obtain ⟨y, rfl⟩ := one hxl
  have h0 := hfl 0 _ rfl
  change DataW.trod enc Tryz.prog w base spare held m 22 (((Value.agg cs).cells.toList.drop 0).take (Tryz.prog.cellsOf 22)) = some y at h0
  rw [cellsL, show (Value.agg cs).cells = cs from rfl, hc] at h0
  have hcs : cs = #[c] := by rw [show cs = cs.toList.toArray by simp, hc]
  rcases DataW.trod_slice Tryz.underlying22 h0 with ⟨e, -⟩ | ⟨a, len, cap, elems, rest, k, -, e, -, hb, hl, hm, hel, hE, -, -⟩
  · simp at e
    subst e
    exact ⟨none, [], 0, by rw [hcs]; rfl, ⟨Nat.zero_le _, Mem.nodes_nil _ _, fun n hn => by cases hn⟩⟩
  · simp at e
    subst e
    have each : ∀ i, i < len → ∃ n : Pl.Nd, OpenN.Ok n ∧ (∃ b o, some a = some ⟨b, o, none⟩ ∧ b < w.heap.size ∧
        w.cell? ⟨b, o + i * 5, none⟩ = some (.string n.path) ∧ w.cell? ⟨b, o + i * 5 + 1, none⟩ = some (.int .i64 n.kind) ∧ w.cell? ⟨b, o + i * 5 + 2, none⟩ = some (.string n.data) ∧
        w.cell? ⟨b, o + i * 5 + 3, none⟩ = some (.int .i64 n.time) ∧ w.cell? ⟨b, o + i * 5 + 4, none⟩ = some (.int .i64 n.mark)) := by
      intro i hi
      have h1 := hE i hi
      rw [List.getElem?_eq_getElem (by omega), OpenN.cells5] at h1
      simp only [Option.bind_eq_some_iff] at h1
      obtain ⟨ds, h2, h3⟩ := h1
      obtain ⟨n, rfl, ok⟩ := OpenN.node h3
      unfold World.cells? at h2
      split at h2
      rotate_left
      · cases h2
      obtain ⟨g0, g1, g2, g3, g4⟩ := mapM5 h2
      obtain ⟨b, o, spot⟩ := a
      have hspot : spot = none := by
        have h1 := hE 0 (by omega)
        rw [List.getElem?_eq_getElem (by omega), OpenN.cells5] at h1
        simp only [Option.bind_eq_some_iff] at h1
        obtain ⟨ds, h2, h3⟩ := h1
        obtain ⟨n, rfl, ok⟩ := OpenN.node h3
        unfold World.cells? at h2
        split at h2
        rotate_left
        · cases h2
        simpa [Addr.add] using World.cell?_spot (mapM5 h2).1
      subst hspot
      have add : ∀ j, ((⟨b, o, none⟩ : Addr).add (i * 5)).add j = ⟨b, o + i * 5 + j, none⟩ := fun j => by rw [Mem.add_any, Mem.add_any]
      rw [add] at g0 g1 g2 g3 g4
      exact ⟨n, ok, b, o, rfl, World.block_lt_of_cell? w ⟨b, o + i * 5 + 0, none⟩ g0, g0, g1, g2, g3, g4⟩
    refine ⟨some a, List.ofFn (fun i : Fin len => Classical.choose (each i i.2)), cap, by rw [hcs]; simp, ⟨by simp; omega, fun i n hn => ?_, fun n hn => ?_⟩⟩
    · rw [List.getElem?_ofFn] at hn
      split at hn
      · cases hn; exact (Classical.choose_spec (each i (by assumption))).2
      · cases hn
    · obtain ⟨i, rfl⟩ := List.mem_ofFn.1 hn
      exact (Classical.choose_spec (each i i.2)).1
end OpenT
end Go.Proofs.YtepmojmelcngeaaGreatDoor

