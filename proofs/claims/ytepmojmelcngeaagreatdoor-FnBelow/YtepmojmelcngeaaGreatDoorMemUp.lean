/- An append, in a region that draws, of a row that may be nil. -/
import Derived.Test.YtepmojmelcngeaaGreatDoorG33
import Derived.Deep.Upon
namespace Go.Proofs.YtepmojmelcngeaaGreatDoor
open Go.RowKit
namespace Mem
theorem run_append_any {P : Program} (w : World) (base : Nat) (t ty e : TypeId) (i : TypeInfo) (z : Value) (size bytes : Nat) (ht : P.underlying t = some (.slice e)) (hi : P.info? e = some i) (hz : i.zero = some z)
    (hsize : i.size = size) (hby : i.bytes = bytes) (hzs : z.cells.size = size) (hsz : 0 < size)
    (v : Value) (n : Nat) (xs : List Value) (hown : w.ownsRow base e size v n xs)
    (va : Option Addr) (m c : Nat) (news : List Value) (hl : news.length = m * size) (hsrc : (∃ a, va = some a ∧ ∀ j u, news[j]? = some u → w.cell? (a.add j) = some u) ∨ (va = none ∧ m = 0)) (h1 : ∀ u ∈ news, u.oneCell' = true)
    (h63 : n + m ≤ maxLen) (hbytes : (n + m) * bytes ≤ 140737488355328) (hbase : base ≤ w.heap.size) :
    ∃ v' w', (Builtin.append_ #[t, t] ty #[v, .slice va m c]).run P w = .ok v' w' ∧ w'.ownsRow base e size v' (n + m) (xs ++ news) ∧ w.grownBy w' v.ownBlock ∧ ∀ g, v'.ownBlock = some g → v.ownBlock = some g ∨ w.heap.size ≤ g := by
  rcases hsrc with ⟨a, rfl, hnews⟩ | ⟨rfl, rfl⟩
  · exact run_append_far w base t ty e i z size bytes ht hi hz hsize hby hzs hsz v n xs hown a m c news hl hnews h1 h63 hbytes hbase
  · have hn : news = [] := List.eq_nil_of_length_eq_zero (by rw [hl, Nat.zero_mul])
    subst hn
    have hv : ∃ b cap, v = .slice b n cap ∧ n ≤ cap := by
      rcases hown.2 with ⟨rfl, rfl⟩ | ⟨g, cap, cur, rfl, -, -, hc, -⟩
      · exact ⟨none, 0, rfl, Nat.le_refl _⟩
      · exact ⟨_, cap, rfl, hc⟩
    obtain ⟨b, cap, rfl, hc⟩ := hv
    refine ⟨_, w, run_append_nothing w t t ty e i ht hi b n cap hc (.slice none 0 c) (Src.ofNil w ht c), ?_, grown_of_below (Below.refl _ _) _, fun g hg => .inl hg⟩
    rw [List.append_nil, Nat.add_zero]
    exact hown
theorem step_append_any {P : Program} {ops : Array Oper} {o : Oper} {a : Act} {w : World} {K : Act → World → Prop} {Q : Exit → Act → World → Prop} {E : Prop}
    (hg : o.guard = none) (s x : Operand) (t : TypeId) (hop : o.op = Op.call { callee := Callee.builtin Builtin.append, args := #[s, x], argTypes := #[t, t] })
    (base : Nat) (e : TypeId) (i : TypeInfo) (z : Value) (size bytes : Nat) (h1 : P.underlying t = some (.slice e)) (h2 : P.info? e = some i) (h3 : i.zero = some z) (h4 : i.size = size) (h5 : i.bytes = bytes) (h6 : z.cells.size = size) (h7 : 0 < size)
    (v : Value) (n : Nat) (xs : List Value) (hs : a.eval s = v) (hown : w.ownsRow base e size v n xs)
    (va : Option Addr) (m c : Nat) (news : List Value) (hx : a.eval x = .slice va m c) (hn : news.length = m * size) (hc : (∃ a, va = some a ∧ ∀ j u, news[j]? = some u → w.cell? (a.add j) = some u) ∨ (va = none ∧ m = 0)) (h1c : ∀ u ∈ news, u.oneCell' = true)
    (b1 : n + m ≤ maxLen) (b2 : (n + m) * bytes ≤ 140737488355328) (hbase : base ≤ w.heap.size)
    (hK : ∀ v' w', w'.ownsRow base e size v' (n + m) (xs ++ news) → w.grownBy w' v.ownBlock → (∀ g, v'.ownBlock = some g → v.ownBlock = some g ∨ w.heap.size ≤ g) → K (a.put o.dst v') w') :
    if Region.wanted o (yielded ops a.tmps) = true then Oper.wp P o a w K Q else E := by
  have hw : Region.wanted o (yielded ops a.tmps) = true := by simp [Region.wanted, hg]
  rw [if_pos hw]
  obtain ⟨v', w', hrun, r1, r2, r3⟩ := run_append_any (P := P) w base t o.type e i z size bytes h1 h2 h3 h4 h5 h6 h7 v n xs hown va m c news hn hc h1c b1 b2 hbase
  unfold Oper.wp
  simp [execOp, hop, resolve, invoke, builtin, hs, hx, hrun, Result.andThen]
  exact hK v' w' r1 r2 r3
theorem row_off3 {w w' : World} {B e size n : Nat} {v : Value} {xs : List Value} {r : Option Nat} (h : w.ownsRow B e size v n xs) (hg : w.grownBy w' r) (hr : ∀ g, v.ownBlock = some g → some g ≠ r) : w'.ownsRow B e size v n xs := by
  refine ⟨h.1, ?_⟩
  rcases h.2 with h0 | ⟨g, cap, cur, rfl, hb, hh, rest⟩
  · exact .inl h0
  · exact .inr ⟨g, cap, cur, rfl, hb, (hg.block g (Array.getElem?_eq_some_iff.1 hh).1 (hr g rfl)).trans hh, rest⟩
/-- Drawn trees, as an append reads them. -/
theorem trees_src {w : World} {va : Option Addr} {Ts : List Pl.Tr} (h : isTrees w va Ts) (hn : va = none → Ts.length = 0) : (∃ a, va = some a ∧ ∀ j u, (Ts.map Pl.Tr.val)[j]? = some u → w.cell? (a.add j) = some u) ∨ (va = none ∧ Ts.length = 0) := by
  cases va with
  | none => exact .inr ⟨rfl, hn rfl⟩
  | some a =>
    refine .inl ⟨a, rfl, fun j u hj => ?_⟩
    rw [List.getElem?_map] at hj
    cases ht : Ts[j]? with
    | none => rw [ht] at hj; cases hj
    | some t =>
      rw [ht] at hj
      cases hj
      obtain ⟨⟨b, o, e, -, hc⟩, -⟩ := h j t ht
      cases e
      have ea : (⟨b, o, none⟩ : Addr).add j = ⟨b, o + j, none⟩ := by unfold Addr.add; split <;> simp_all
      rw [ea]; exact hc
theorem trees_none {w : World} {Ts : List Pl.Tr} (h : isTrees w none Ts) : Ts.length = 0 := by
  cases Ts with
  | nil => rfl
  | cons t r =>
    obtain ⟨⟨b, o, e, -⟩, -⟩ := h 0 t rfl
    cases e
/-- A row of trees of the call's own, as trees. -/
theorem trees_row {w : World} {B n cap : Nat} {a : Option Addr} {Ts : List Pl.Tr} (h : w.ownsRow B 31 1 (.slice a n cap) n (Ts.map Pl.Tr.val)) (hN : ∀ t ∈ Ts, isNodes w t.a t.L) : isTrees w a Ts := by
  intro i t hi
  refine ⟨?_, hN t (List.mem_of_getElem? hi)⟩
  rcases h.2 with ⟨e, h0⟩ | ⟨g, c, cur, e, hb, hg, rest⟩
  · have h1 := h.1
    rw [List.length_map, h0] at h1
    have := (List.getElem?_eq_some_iff.1 hi).1
    omega
  · injection e with e1 e2 e3
    subst e1
    refine ⟨g, 0, rfl, (Array.getElem?_eq_some_iff.1 hg).1, ?_⟩
    have := World.ownsRow.cells h (g := g) rfl i t.val (by rw [List.getElem?_map, hi]; rfl)
    rw [add_lit] at this
    rw [Nat.zero_add]; exact this
/-- The layers and the one more, laid in a variable. -/
structure Bth (WB W : World) (Y : Nat) (a : Option Addr) (cap : Nat) (Ts : List Pl.Tr) : Prop where
  bel : Below WB.heap.size WB W
  var : Blk W Y #[.slice a Ts.length cap] 60
  trees : isTrees W a Ts
theorem Bth.of {WB W : World} {Y n cap : Nat} {a : Option Addr} {Ts : List Pl.Tr} (hn : n = Ts.length) (b : Below WB.heap.size WB W) (hY : WB.heap.size ≤ Y) (V : Blk W Y #[.slice none 0 0] 60) (own : W.ownsRow WB.heap.size 31 1 (.slice a n cap) n (Ts.map Pl.Tr.val)) (ne : ∀ g, (Value.slice a n cap).ownBlock = some g → g ≠ Y) (hT : ∀ t ∈ Ts, isNodes WB t.a t.L) : Bth WB (W.setCell ⟨Y, 0, none⟩ (.slice a n cap)) Y a cap Ts := by
  subst hn
  have b2 := b.setCell (p := ⟨Y, 0, none⟩) hY (.slice a Ts.length cap)
  refine ⟨b2, ?_, trees_row (B := WB.heap.size) (n := Ts.length) (cap := cap) ⟨own.1, ?_⟩ (fun t ht => nodes_call (hT t ht) b2)⟩
  · exact heap_setCell_same _ _ _ _ _ _ V
  · rcases own.2 with h0 | ⟨g, c, cur, e, hb, hg, rest⟩
    · exact .inl h0
    · exact .inr ⟨g, c, cur, e, hb, (heap_setCell_other _ _ _ _ (ne g (by rw [e]; rfl))).trans hg, rest⟩
end Mem
end Go.Proofs.YtepmojmelcngeaaGreatDoor
