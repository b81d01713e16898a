/- Layers that came in, opened. -/
import Derived.Test.YtkfpfckmjgjanabDoorOpenTree
import Derived.Test.YtkfpfckmjgjanabDoorG27
namespace Go.Proofs.YtkfpfckmjgjanabDoor
open Go.ChangeShapes Go.WideShapes Go.ChangeAt Go.RowKit
namespace OpenL
theorem cells1 : Tryd.prog.cellsOf 24 = 1 := by kernel_rfl
theorem cellsL : Tryd.prog.cellsOf 22 = 1 := by kernel_rfl
structure OkL (w : World) (a : Option Addr) (Ts : List Pl.Tr) : Prop where
  len : Ts.length ≤ maxLen
  trees : Mem.isTrees w a Ts
  ok : ∀ t ∈ Ts, t.L.length ≤ maxLen ∧ ∀ n ∈ t.L, OpenN.Ok n
theorem mapM1 {f : Nat → Option Value} {c0 : Value} (h : (List.range 1).mapM f = some [c0]) : f 0 = some c0 := by
  have e : List.range 1 = [0] := rfl
  rw [e] at h
  simp only [List.mapM_cons, List.mapM_nil, Option.pure_def, Option.bind_eq_bind] at h
  cases h0 : f 0 with
  | none => rw [h0] at h; simp at h
  | some a0 => rw [h0] at h; simp at h; rw [h]
set_option maxRecDepth 100000 in
theorem tree {H : Type} {enc : TypeId × Value → H} {w : World} {base fuel : Nat} {spare : Nat → Bool} {held : Bool} {cs : List Value} {x : DataW H × List MemPlace}
    (hf : DataW.trod enc Tryd.prog w base spare held fuel 35 cs = some x) : ∃ t : Pl.Tr, cs = [t.val] ∧ OpenT.OkT w t.a t.L := by
  obtain ⟨xs, m, rfl, -, hlen, hxl, hfl⟩ := DataW.trod_struct Tryd.underlying35 hf
  obtain ⟨c, rfl⟩ := OpenT.one (hlen.trans OpenT.cells1)
  obtain ⟨y, rfl⟩ := OpenT.one hxl
  have h0 := hfl 0 _ rfl
  change DataW.trod enc Tryd.prog w base spare held m 33 (([c].drop 0).take (Tryd.prog.cellsOf 33)) = some y at h0
  rw [OpenT.cellsL] at h0
  rcases DataW.trod_slice Tryd.underlying33 h0 with ⟨e, -⟩ | ⟨a, len, cap, elems, rest, k, -, e, -, hb, hl, hm, hel, hE, -, -⟩
  · simp at e
    subst e
    exact ⟨⟨none, 0, []⟩, rfl, ⟨Nat.zero_le _, Mem.nodes_nil _ _, fun n hn => by cases hn⟩⟩
  · simp at e
    subst e
    have each : ∀ i, i < len → ∃ n : Pl.Nd, OpenN.Ok n ∧ (∃ b o, some a = some ⟨b, o, none⟩ ∧ b < w.heap.size ∧
        w.cell? ⟨b, o + i * 5, none⟩ = some (.string n.path) ∧ w.cell? ⟨b, o + i * 5 + 1, none⟩ = some (.int .i64 n.kind) ∧ w.cell? ⟨b, o + i * 5 + 2, none⟩ = some (.string n.data) ∧
        w.cell? ⟨b, o + i * 5 + 3, none⟩ = some (.int .i64 n.time) ∧ w.cell? ⟨b, o + i * 5 + 4, none⟩ = some (.int .i64 n.mark)) := by
      intro i hi
      have h1 := hE i hi
      rw [List.getElem?_eq_getElem (by omega), OpenN.cells5] at h1
      simp only [Option.bind_eq_some_iff] at h1
      obtain ⟨ds, h2, h3⟩ := h1
      obtain ⟨n, rfl, ok⟩ := OpenN.node h3
      unfold World.cells? at h2
      split at h2
      rotate_left
      · cases h2
      obtain ⟨g0, g1, g2, g3, g4⟩ := OpenT.mapM5 h2
      obtain ⟨b, o, spot⟩ := a
      have hspot : spot = none := by
        have h1 := hE 0 (by omega)
        rw [List.getElem?_eq_getElem (by omega), OpenN.cells5] at h1
        simp only [Option.bind_eq_some_iff] at h1
        obtain ⟨ds, h2, h3⟩ := h1
        obtain ⟨n, rfl, ok⟩ := OpenN.node h3
        unfold World.cells? at h2
        split at h2
        rotate_left
        · cases h2
        simpa [Addr.add] using World.cell?_spot (OpenT.mapM5 h2).1
      subst hspot
      have add : ∀ j, ((⟨b, o, none⟩ : Addr).add (i * 5)).add j = ⟨b, o + i * 5 + j, none⟩ := fun j => by rw [Mem.add_any, Mem.add_any]
      rw [add] at g0 g1 g2 g3 g4
      exact ⟨n, ok, b, o, rfl, World.block_lt_of_cell? w ⟨b, o + i * 5 + 0, none⟩ g0, g0, g1, g2, g3, g4⟩
    refine ⟨⟨some a, cap, List.ofFn (fun i : Fin len => Classical.choose (each i i.2))⟩, by simp [Pl.Tr.val], ⟨by simp; omega, fun i n hn => ?_, fun n hn => ?_⟩⟩
    · rw [List.getElem?_ofFn] at hn
      split at hn
      · cases hn; exact (Classical.choose_spec (each i (by assumption))).2
      · cases hn
    · obtain ⟨i, rfl⟩ := List.mem_ofFn.1 hn
      exact (Classical.choose_spec (each i i.2)).1
set_option maxRecDepth 100000 in
theorem layers_arg {H : Type} {enc : TypeId × Value → H} {w : World} {base b0 : Nat} {spare : Nat → Bool} {held : Bool} {r : Reach} {v : Value} {d : DataW H} {ps : List MemPlace}
    (hv : Value.okWide Tryd.prog w r b0 24 v) (h : DataW.Trod enc Tryd.prog w base spare held 24 v d ps) : ∃ (a : Option Addr) (Ts : List Pl.Tr) (cap : Nat), v = .agg #[.slice a Ts.length cap] ∧ OkL w a Ts := by
  obtain ⟨cs, rfl, hsz⟩ := okWide_struct Tryd.underlying24 hv
  obtain ⟨fuel, hf⟩ := h
  obtain ⟨xs, m, rfl, -, hlen, hxl, hfl⟩ := DataW.trod_struct Tryd.underlying24 hf
  obtain ⟨c, hc⟩ := OpenT.one (show cs.toList.length = 1 by rw [Array.length_toList, hsz, cells1])
  obtain ⟨y, rfl⟩ := OpenT.one hxl
  have h0 := hfl 0 _ rfl
  change DataW.trod enc Tryd.prog w base spare held m 22 (((Value.agg cs).cells.toList.drop 0).take (Tryd.prog.cellsOf 22)) = some y at h0
  rw [cellsL, show (Value.agg cs).cells = cs from rfl, hc] at h0
  have hcs : cs = #[c] := by rw [show cs = cs.toList.toArray by simp, hc]
  rcases DataW.trod_slice Tryd.underlying22 h0 with ⟨e, -⟩ | ⟨a, len, cap, elems, rest, k, -, e, -, hb, hl, hm, hel, hE, -, -⟩
  · simp at e
    subst e
    exact ⟨none, [], 0, by rw [hcs]; rfl, ⟨Nat.zero_le _, Mem.trees_nil _ _, fun n hn => by cases hn⟩⟩
  · simp at e
    subst e
    have each : ∀ i, i < len → ∃ t : Pl.Tr, OpenT.OkT w t.a t.L ∧ (∃ b o, some a = some ⟨b, o, none⟩ ∧ b < w.heap.size ∧ w.cell? ⟨b, o + i, none⟩ = some t.val) := by
      intro i hi
      have h1 := hE i hi
      rw [List.getElem?_eq_getElem (by omega), OpenT.cells1] at h1
      simp only [Option.bind_eq_some_iff] at h1
      obtain ⟨ds, h2, h3⟩ := h1
      obtain ⟨t, rfl, ok⟩ := tree h3
      unfold World.cells? at h2
      split at h2
      rotate_left
      · cases h2
      have g0 := mapM1 h2
      obtain ⟨b, o, spot⟩ := a
      have hspot : spot = none := by
        have h1 := hE 0 (by omega)
        rw [List.getElem?_eq_getElem (by omega), OpenT.cells1] at h1
        simp only [Option.bind_eq_some_iff] at h1
        obtain ⟨ds, h2, h3⟩ := h1
        obtain ⟨t, rfl, ok⟩ := tree h3
        unfold World.cells? at h2
        split at h2
        rotate_left
        · cases h2
        simpa [Addr.add] using World.cell?_spot (mapM1 h2)
      subst hspot
      have add : ((⟨b, o, none⟩ : Addr).add (i * 1)).add 0 = ⟨b, o + i, none⟩ := by rw [Mem.add_any, Mem.add_any]; simp
      rw [add] at g0
      exact ⟨t, ok, b, o, rfl, World.block_lt_of_cell? w ⟨b, o + i, none⟩ g0, g0⟩
    refine ⟨some a, List.ofFn (fun i : Fin len => Classical.choose (each i i.2)), cap, by rw [hcs]; simp, ⟨by simp; omega, fun i n hn => ?_, fun n hn => ?_⟩⟩
    · rw [List.getElem?_ofFn] at hn
      split at hn
      · cases hn
        have := Classical.choose_spec (each i (by assumption))
        exact ⟨this.2, this.1.nodes⟩
      · cases hn
    · obtain ⟨i, rfl⟩ := List.mem_ofFn.1 hn
      have := Classical.choose_spec (each i i.2)
      exact ⟨this.1.len, this.1.ok⟩
end OpenL
end Go.Proofs.YtkfpfckmjgjanabDoor
