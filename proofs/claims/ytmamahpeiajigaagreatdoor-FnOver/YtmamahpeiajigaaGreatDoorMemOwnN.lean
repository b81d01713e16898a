/- Rows of nodes that are the call's own: what is in them, one more behind them, and what the marks of a law do to them. -/
import Derived.Test.YtmamahpeiajigaaGreatDoorMemNodes
import Derived.Laws.AppendOwn
namespace Go.Proofs.YtmamahpeiajigaaGreatDoor
open Go.RowKit
namespace Pl
/-- A node's five cells. -/
def Nd.cs (n : Nd) : List Value := [.string n.path, .int .i64 n.kind, .string n.data, .int .i64 n.time, .int .i64 n.mark]
def cellsN (L : List Nd) : List Value := L.flatMap Nd.cs
theorem cellsN_len (L : List Nd) : (cellsN L).length = L.length * 5 := by
  induction L with
  | nil => rfl
  | cons n L ih => rw [cellsN, List.flatMap_cons, List.length_append, ← cellsN, ih, List.length_cons]; simp [Nd.cs]; omega
theorem cellsN_cons (n : Nd) (L : List Nd) : cellsN (n :: L) = n.cs ++ cellsN L := by simp [cellsN]
theorem cellsN_app (L M : List Nd) : cellsN (L ++ M) = cellsN L ++ cellsN M := by simp [cellsN]
theorem cellsN_get (L : List Nd) (i : Nat) (n : Nd) (h : L[i]? = some n) (j : Nat) (hj : j < 5) : (cellsN L)[i * 5 + j]? = n.cs[j]? := by
  induction L generalizing i with
  | nil => simp at h
  | cons m L ih =>
    rw [cellsN_cons]
    have hl : m.cs.length = 5 := rfl
    match i, h with
    | 0, h =>
      simp at h; subst h
      rw [List.getElem?_append_left (by rw [hl]; omega)]
      simp
    | i + 1, h =>
      rw [List.getElem?_append_right (by rw [hl]; omega), hl, show (i + 1) * 5 + j - 5 = i * 5 + j by omega]
      exact ih i (by simpa using h)
end Pl
namespace Mem
/-- A row of nodes of the call's own (or none). -/
def ownN (w : World) (B : Nat) (v : Value) (L : List Pl.Nd) : Prop := w.ownsRow B 36 5 v L.length (Pl.cellsN L)
theorem ownN_nil (w : World) (B : Nat) : ownN w B (.slice none 0 0) [] := ⟨rfl, .inl ⟨rfl, rfl⟩⟩
theorem ownN_is {w : World} {B : Nat} {v : Value} {L : List Pl.Nd} (h : ownN w B v L) : ∃ a cap, v = .slice a L.length cap ∧ isNodes w a L := by
  rcases h.2 with ⟨rfl, h0⟩ | ⟨g, cap, cur, rfl, hb, hg, hc, hm, hsz, ht⟩
  · exact ⟨none, 0, by rw [h0], fun i n hi => by rw [List.length_eq_zero_iff.1 h0] at hi; simp at hi⟩
  · refine ⟨some ⟨g, 0, none⟩, cap, rfl, fun i n hi => ?_⟩
    have hlt : i < L.length := (List.getElem?_eq_some_iff.1 hi).1
    have c : ∀ j, j < 5 → w.cell? ⟨g, 0 + i * 5 + j, none⟩ = n.cs[j]? := fun j hj => by
      rw [cell_of_row w g _ cur _ (0, 0) hg, Nat.zero_add, ← Pl.cellsN_get L i n hi j hj, ← ht, List.getElem?_take_of_lt (by omega), Array.getElem?_toList]
    exact ⟨g, 0, rfl, (Array.getElem?_eq_some_iff.1 hg).1, c 0 (by omega), c 1 (by omega), c 2 (by omega), c 3 (by omega), c 4 (by omega)⟩
theorem cs_one (n : Pl.Nd) : ∀ u ∈ n.cs, u.oneCell' = true := by
  intro u hu
  simp only [Pl.Nd.cs, List.mem_cons, List.not_mem_nil, or_false] at hu
  rcases hu with rfl | rfl | rfl | rfl | rfl <;> rfl
/-- A node that is alone in a block that was just made. -/
theorem cs_new (w : World) (n : Pl.Nd) (T : TypeId) : ∀ j u, n.cs[j]? = some u → (w.alloc (.cells n.cs.toArray T)).cell? ((⟨w.heap.size, 0, none⟩ : Addr).add j) = some u := by
  intro j u hj
  rw [Mem.add_lit]
  exact (Mem.var_new w n.cs T).2 j u hj
theorem cs_var {w : World} {X : Nat} (n : Pl.Nd) (h : Mem.Var w X n.cs) : ∀ j u, n.cs[j]? = some u → w.cell? ((⟨X, 0, none⟩ : Addr).add j) = some u := by
  intro j u hj
  rw [Mem.add_lit]
  exact h.2 j u hj
theorem ownN_snoc {w : World} {B : Nat} {v : Value} {L : List Pl.Nd} {n : Pl.Nd} (h : w.ownsRow B 36 5 v (L.length + 1) (Pl.cellsN L ++ n.cs)) : ownN w B v (L ++ [n]) := by
  unfold ownN
  rw [Pl.cellsN_app, List.length_append]
  have e : Pl.cellsN [n] = n.cs := by simp [Pl.cellsN]
  rw [e]; exact h
theorem ownN_call {w w' : World} {B : Nat} {v : Value} {L : List Pl.Nd} (h : ownN w B v L) (b : Below w.heap.size w w') : ownN w' B v L := by
  refine ⟨h.1, ?_⟩
  rcases h.2 with h0 | ⟨g, cap, cur, hv, hb, hg, rest⟩
  · exact .inl h0
  · exact .inr ⟨g, cap, cur, hv, hb, (b.block _ (Array.getElem?_eq_some_iff.1 hg).1).trans hg, rest⟩
theorem ownN_mono {w : World} {B B' : Nat} {v : Value} {L : List Pl.Nd} (h : ownN w B v L) (hb : B' ≤ B) : ownN w B' v L := own_mono h hb
end Mem
end Go.Proofs.YtmamahpeiajigaaGreatDoor
