/- Rows of nodes that are put together: what serves an append of one row of nodes to another. -/
import Derived.Test.YtkfpfckmjgjanaaDoorProg
import Derived.Test.YtkfpfckmjgjanaaDoorG15
import Derived.Test.YtkfpfckmjgjanaaDoorG17
namespace Go.Proofs.YtkfpfckmjgjanaaDoor
open Go.RowKit
namespace WPutT
theorem infoN : (Tryd.prog.info? 78).map (fun i => (i.zero, i.size, i.bytes)) = some (some (.agg #[.string ⟨#[]⟩, .int .i64 0, .string ⟨#[]⟩, .int .i64 0, .int .i64 0]), 5, 56) := by kernel_rfl
theorem cells_at {w : World} {g o : Nat} {M : List Pl.Nd} (h : Mem.isNodes w (some ⟨g, o, none⟩) M) : ∀ j u, (Pl.cellsN M)[j]? = some u → w.cell? ((⟨g, o, none⟩ : Addr).add j) = some u := by
  intro j u hj
  have hlt : j < M.length * 5 := by
    have := (List.getElem?_eq_some_iff.1 hj).1
    rwa [Pl.cellsN_len] at this
  have hd : j / 5 < M.length := by omega
  obtain ⟨g', o', e, h0, h1, h2, h3, h4, h5⟩ := h (j / 5) M[j / 5] (List.getElem?_eq_getElem hd)
  cases e
  have hc := Pl.cellsN_get M (j / 5) _ (List.getElem?_eq_getElem hd) (j % 5) (by omega)
  rw [show j / 5 * 5 + j % 5 = j by omega, hj] at hc
  rw [Mem.add_any]
  have hm : j % 5 = 0 ∨ j % 5 = 1 ∨ j % 5 = 2 ∨ j % 5 = 3 ∨ j % 5 = 4 := by omega
  have ej : o + j = o + j / 5 * 5 + j % 5 := by omega
  rw [ej, hc]
  rcases hm with h | h | h | h | h <;> rw [h]
  · exact h1
  · exact h2
  · exact h3
  · exact h4
  · exact h5
theorem cells_one (M : List Pl.Nd) : ∀ u ∈ Pl.cellsN M, u.oneCell' = true := by
  intro u hu
  rw [Pl.cellsN, List.mem_flatMap] at hu
  obtain ⟨n, _, hn⟩ := hu
  exact Mem.cs_one n u hn
theorem ownN_app {w : World} {B m : Nat} {v : Value} {A M : List Pl.Nd} (h : w.ownsRow B 78 5 v (A.length + m) (Pl.cellsN A ++ Pl.cellsN M)) (hm : m = M.length) : Mem.ownN w B v (A ++ M) := by
  subst hm
  unfold Mem.ownN
  rw [Pl.cellsN_app, List.length_append]; exact h
theorem nodes_drop {w : World} {g : Nat} {L : List Pl.Nd} (h : Mem.isNodes w (some ⟨g, 0, none⟩) L) (i : Nat) : Mem.isNodes w (some ⟨g, i * 5, none⟩) (L.drop i) := by
  intro k n hk
  rw [List.getElem?_drop] at hk
  obtain ⟨b', o', e, h1, h2, h3, h4, h5, h6⟩ := h (i + k) n hk
  cases e
  have ee : 0 + (i + k) * 5 = i * 5 + k * 5 := by omega
  rw [ee] at h2 h3 h4 h5 h6
  exact ⟨g, i * 5, rfl, h1, h2, h3, h4, h5, h6⟩
theorem nodes_take {w : World} {g : Nat} {L : List Pl.Nd} (h : Mem.isNodes w (some ⟨g, 0, none⟩) L) (i : Nat) : Mem.isNodes w (some ⟨g, 0, none⟩) (L.take i) := by
  intro k n hk
  rw [List.getElem?_take] at hk
  split at hk
  · exact h k n hk
  · cases hk
end WPutT
end Go.Proofs.YtkfpfckmjgjanaaDoor
