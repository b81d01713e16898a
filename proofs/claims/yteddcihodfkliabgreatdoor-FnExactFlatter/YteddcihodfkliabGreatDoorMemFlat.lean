/- Rows of nests put together in new memory. -/
import Derived.Test.YteddcihodfkliabGreatDoorMemFx
import Derived.Test.YteddcihodfkliabGreatDoorPlainFlat
import Derived.Laws.Append
import Derived.Laws.AppendOwn
import Derived.Deep.RegionHeld3
namespace Go.Proofs.YteddcihodfkliabGreatDoor
open Go.RowKit
namespace Mem
theorem rowX_app {w : World} {N : Nat → Prop} {b : Nat} (A B : Pl.Fx) : ∀ i, rowX w N (A.app B) b i → rowX w N A b i ∧ rowX w N B b (i + A.len * 3) := by
  induction A with
  | nil => intro i h; exact ⟨trivial, by simpa [Pl.Fx.len, Pl.Fx.app] using h⟩
  | cons L k m _ ih =>
    intro i h
    obtain ⟨h1, h2⟩ := h
    obtain ⟨g1, g2⟩ := ih (i + 3) h2
    refine ⟨⟨h1, g1⟩, ?_⟩
    rw [Pl.Fx.len, show i + (m.len + 1) * 3 = i + 3 + m.len * 3 by omega]
    exact g2
theorem rowX_cells {w : World} {N : Nat → Prop} {b : Nat} (F : Pl.Fx) : ∀ i, rowX w N F b i → ∃ xs, cellsX w N F xs ∧ xs.length = F.len * 3 ∧ (∀ j u, xs[j]? = some u → w.cell? ⟨b, i + j, none⟩ = some u) := by
  induction F with
  | nil => intro i _; exact ⟨[], rfl, rfl, fun j u h => by cases h⟩
  | cons L k m _ ih =>
    intro i h
    obtain ⟨⟨q, a, cap, h1, h2, h3, h4, h5, hq, hm, h6⟩, h7⟩ := h
    obtain ⟨ys, g1, g2, g3⟩ := ih (i + 3) h7
    refine ⟨.map (some q) :: .int .i64 (k.len : Int) :: .slice a k.len cap :: ys, ⟨q, _, ys, rfl, hq, hm, ⟨a, cap, rfl, h6⟩, g1⟩, by simp [g2, Pl.Fx.len]; omega, fun j u hj => ?_⟩
    match j, hj with
    | 0, hj => cases hj; exact h1
    | 1, hj => cases hj; exact h2
    | 2, hj => cases hj; exact h3
    | j + 3, hj =>
      have := g3 j u (by simpa using hj)
      rw [show i + (j + 3) = i + 3 + j by omega]; exact this
theorem cellsX_app {w : World} {N : Nat → Prop} (A B : Pl.Fx) : ∀ xs ys, cellsX w N A xs → cellsX w N B ys → cellsX w N (A.app B) (xs ++ ys) := by
  induction A with
  | nil => intro xs ys h1 h2; cases h1; exact h2
  | cons L k m _ ih =>
    intro xs ys h1 h2
    obtain ⟨q, v, zs, rfl, hq, hm, hv, hz⟩ := h1
    exact ⟨q, v, zs ++ ys, rfl, hq, hm, hv, ih zs ys hz h2⟩
theorem cellsX_one {w : World} {N : Nat → Prop} (A : Pl.Fx) : ∀ xs, cellsX w N A xs → ∀ u ∈ xs, u.oneCell' = true := by
  induction A with
  | nil => intro xs h u hu; cases h; cases hu
  | cons L k m _ ih =>
    intro xs h u hu
    obtain ⟨q, v, zs, rfl, hq, hm, ⟨a, cap, rfl, -⟩, hz⟩ := h
    simp only [List.mem_cons] at hu
    rcases hu with rfl | rfl | rfl | hu
    · rfl
    · rfl
    · rfl
    · exact ih zs hz u hu
theorem step_append_grow {P : Program} {ops : Array Oper} {o : Oper} {a : Act} {w : World} {K : Act → World → Prop} {Q : Exit → Act → World → Prop} {E : Prop}
    (hg : o.guard = none) (s x : Operand) (t : TypeId) (hop : o.op = Op.call { callee := Callee.builtin Builtin.append, args := #[s, x], argTypes := #[t, t] })
    (e : TypeId) (i : TypeInfo) (z : Value) (h1 : P.underlying t = some (.slice e)) (h2 : P.info? e = some i) (h3 : i.zero = some z)
    (b : Addr) (sLen sCap : Nat) (olds : List Value) (hs : a.eval s = .slice (some b) sLen sCap) (hlo : olds.length = sLen * i.size) (holds : ∀ j v, olds[j]? = some v → w.cell? (b.add j) = some v)
    (ad : Addr) (n c : Nat) (news : List Value) (hx : a.eval x = .slice (some ad) n c) (hl : news.length = n * i.size) (hnews : ∀ j v, news[j]? = some v → w.cell? (ad.add j) = some v)
    (hgr : sCap < sLen + n) (h63 : ((sLen + n : Nat) : Int) ≤ 9223372036854775807) (hfit : Builtin.nextslicecap (sLen + n) sCap * i.bytes ≤ 281474976710656)
    (hK : ∀ (cap' : Nat) (cs : Array Value), sLen + n ≤ cap' → (∀ (j : Nat) (u : Value), (olds ++ news)[j]? = some u → cs[j]? = some u) → K (a.put o.dst (.slice (some ⟨w.heap.size, 0, none⟩) (sLen + n) cap')) (w.drew.alloc (.cells cs e))) :
    if Region.wanted o (yielded ops a.tmps) = true then Oper.wp P o a w K Q else E := by
  have hw : Region.wanted o (yielded ops a.tmps) = true := by simp [Region.wanted, hg]
  rw [if_pos hw]
  have hrun := run_append_grow (P := P) (w := w) t o.type e i z h1 h2 h3 b sLen sCap olds hlo holds ad n c news hl hnews hgr h63 hfit
  unfold Oper.wp
  simp [execOp, hop, resolve, invoke, builtin, hs, hx, hrun, Result.andThen]
  refine hK _ _ (grownCap_ge w (sLen + n) sCap e) fun j u hj => ?_
  have hlt := (List.getElem?_eq_some_iff.1 hj).1
  rw [Array.getElem?_append_left (by simp; simpa using hlt)]
  simpa using hj
end Mem
end Go.Proofs.YteddcihodfkliabGreatDoor
