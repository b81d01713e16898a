/- Several texts of one claim in one file: PlainNestAt, PlainCells. -/
import Derived.Test.YtlgbdbmikmbioaaGreatDoorG10
import Derived.Test.YtlgbdbmikmbioaaGreatDoorG11
import Derived.Test.YtlgbdbmikmbioaaGreatDoorPlainNr
import Derived.Test.YtlgbdbmikmbioaaGreatDoorG02
import Derived.Laws.AppendOwn
import Derived.Test.YtlgbdbmikmbioaaGreatDoorG04
namespace Go.Proofs.YtlgbdbmikmbioaaGreatDoor
namespace Pl
def zc8 : List (Int × List (Int × List Nd)) → Int → Option (List (Int × List Nd))
 | [], _ => none
 | x :: r, d => if x.1 = d then some x.2 else zc8 r d
theorem nestAt_inst (N : List Ns) (d : Int) : (zb9 (N.map (·.d)) d < 0 → zc8 (N.map Ns.r) d = none) ∧ (∀ k : Nat, zb9 (N.map (·.d)) d = (k : Int) → ∃ x, N[k]? = some x ∧ zc8 (N.map Ns.r) d = some (x.Is.map It.r)) := by
 induction N with
 | nil => exact ⟨fun _ => rfl, fun k h => by simp [zb9] at h⟩
 | cons x N ih =>
  simp only [List.map_cons, zb9, zc8]
  by_cases h : x.d = d
  ·rw [if_pos h]
   refine ⟨fun h0 => by omega, fun k hk => ⟨x, ?_, by rw [if_pos (show x.r.1 = d from h)]; rfl⟩⟩
   obtain rfl : k = 0 := by omega
   rfl
  ·rw [if_neg h, if_neg (show ¬ x.r.1 = d from h)]
   by_cases h2 : zb9 (N.map (·.d)) d < 0
   ·rw [if_pos h2]
    exact ⟨fun _ => ih.1 h2, fun k hk => by omega⟩
   ·rw [if_neg h2]
    refine ⟨fun h0 => by omega, fun k hk => ?_⟩
    obtain ⟨k, rfl⟩ : ∃ j, k = j + 1 := ⟨k - 1, by omega⟩
    obtain ⟨y, h3, h4⟩ := ih.2 k (by omega)
    exact ⟨y, by simpa using h3, h4⟩
theorem nestAt_get {P : Nv → Ns → Prop} : ∀ (E : List (Int × Nv)) (N : List Ns) (d : Int), E.map (·.1) = N.map (·.d) → (∀ (i : Nat) y, E[i]? = some y → ∃ x, N[i]? = some x ∧ P y.2 x) → (d ∉ E.map (·.1) → zc8 (N.map Ns.r) d = none) ∧ (d ∈ E.map (·.1) → ∃ x, zc8 (N.map Ns.r) d = some (x.Is.map It.r) ∧ P (getN E d) x ∧ x ∈ N) := by
 intro E
 induction E with
 | nil =>
  intro N d h _
  have : N = [] := by cases N with | nil => rfl | cons a b => simp at h
  subst this
  exact ⟨fun _ => rfl, fun h => by simp at h⟩
 | cons y E ih =>
  intro N d h hP
  cases N with
  | nil => simp at h
  | cons x N =>
   simp only [List.map_cons, List.cons.injEq] at h
   obtain ⟨h1, h2⟩ := h
   obtain ⟨i1, i2⟩ := ih N d h2 (fun i z hz => by
    obtain ⟨x', k1, k2⟩ := hP (i + 1) z (by simpa using hz)
    exact ⟨x', by simpa using k1, k2⟩)
   simp only [List.map_cons, zc8, List.mem_cons]
   by_cases e : y.1 = d
   ·have e2 : x.r.1 = d := by show x.d = d; rw [← h1]; exact e
    rw [if_pos e2]
    refine ⟨fun hn => absurd (Or.inl e.symm) hn, fun _ => ?_⟩
    obtain ⟨x', k1, k2⟩ := hP 0 y rfl
    simp at k1
    subst k1
    refine ⟨x, rfl, ?_, .inl rfl⟩
    unfold getN
    rw [List.find?_cons, decide_eq_true e]
    exact k2
   ·have e2 : ¬ x.r.1 = d := by show ¬ x.d = d; rw [← h1]; exact e
    rw [if_neg e2]
    refine ⟨fun hn => i1 (fun hm => hn (.inr hm)), fun hm => ?_⟩
    rcases hm with hm | hm
    ·exact absurd hm.symm e
    obtain ⟨x', k1, k2, k3⟩ := i2 hm
    refine ⟨x', k1, ?_, .inr k3⟩
    unfold getN at k2 ⊢
    rw [List.find?_cons, decide_eq_false e]
    exact k2
def nestC (R : Bool) (o : Option (List (Int × List Nd))) : Int := if R then (match o with | none => 6 | some _ => 0) else 1
def zj4 (R : Bool) (o : Option (List (Int × List Nd))) : List (Int × List Nd) := if R then (match o with | none => [] | some x => x) else []
theorem zs3 {xs : List (Int × List Nd)} (h : (nest (rowO xs)).isSome = true) : xs.length ≤ 12 ∧ xs.length ≠ 0 ∧ ∀ x ∈ xs, x.2.length ≤ 40 := by
 cases hF : nest (rowO xs) with
 | none => rw [hF] at h; cases h
 | some F =>
  obtain ⟨L, k, -, hfl, hko, -⟩ := nest_fill hF
  refine ⟨nest_len hF, ?_, fun x hx => ?_⟩
  ·rw [← hfl]; simp [Fx.flat]
  ·rw [← hfl] at hx
   have := (Fx.ok_mem hko x hx).1
   unfold zc9 at this
   exact of_decide_eq_true ((Bool.and_eq_true _ _).mp this).1
theorem zp2 {N : List Ns} {M : List Mn} {H : List Hn} {next : Int} {way : ByteArray → Bool} (h : zd1 next (N.map WSp.nr) M H way = true) : ∀ x ∈ N, (nest (rowO (x.Is.map It.r))).isSome = true := by
 rw [← zr6] at h
 unfold zm4 zj1 at h
 simp only [Bool.and_eq_true, all_iff] at h
 intro x hx
 obtain ⟨k, hk, e⟩ := List.mem_iff_getElem.1 hx
 have h1 := h.1.1.1.2 k (by simpa using hk)
 have ht : (N.map WSp.nr)[k]? = some (WSp.nr x) := by rw [List.getElem?_map, List.getElem?_eq_getElem hk, e]; rfl
 simp only [zg1, ht, Bool.and_eq_true] at h1
 exact h1.1
theorem nestAt_mem {L : List (Int × List (Int × List Nd))} {d : Int} {o : List (Int × List Nd)} (h : zc8 L d = some o) : ∃ x ∈ L, x.2 = o := by
 induction L with
 | nil => simp [zc8] at h
 | cons x L ih =>
  rw [zc8] at h
  split at h
  ·exact ⟨x, List.mem_cons_self, Option.some.inj h⟩
  ·obtain ⟨y, h1, h2⟩ := ih h
   exact ⟨y, List.mem_cons_of_mem _ h1, h2⟩
theorem nestL_le {N : List Ns} {M : List Mn} {H : List Hn} {next : Int} {way : ByteArray → Bool} {L : List (Int × List (Int × List Nd))} (hL : N.map Ns.r = L) (d : Int) : (zj4 (zd1 next (N.map WSp.nr) M H way) (zc8 L d)).length ≤ 12 ∧ ∀ x ∈ zj4 (zd1 next (N.map WSp.nr) M H way) (zc8 L d), x.2.length ≤ 40 := by
 unfold zj4
 cases hR : zd1 next (N.map WSp.nr) M H way with
 | false => exact ⟨by simp, fun x hx => by simp at hx⟩
 | true =>
  rw [if_pos rfl]
  cases ho : zc8 L d with
  | none => exact ⟨by simp, fun x hx => by simp at hx⟩
  | some o =>
   obtain ⟨x, h1, h2⟩ := nestAt_mem ho
   rw [← hL] at h1
   obtain ⟨y, h3, h4⟩ := List.mem_map.1 h1
   have := zs3 (zp2 hR y h3)
   have e : y.Is.map It.r = o := by rw [← h2, ← h4]; rfl
   rw [e] at this
   exact ⟨this.1, this.2.2⟩
end Pl
end Go.Proofs.YtlgbdbmikmbioaaGreatDoor

namespace Go.Proofs.YtlgbdbmikmbioaaGreatDoor
open Go.RowKit
namespace Pl
def zb0 (Is : List It) : List Value := Is.flatMap (fun x => [Value.int .i64 x.m, x.t.val])
theorem zt2 (Is : List It) : (zb0 Is).length = Is.length * 2 := by
 induction Is with
 | nil => rfl
 | cons x Is ih => rw [zb0, List.flatMap_cons, List.length_append, ← zb0, ih, List.length_cons]; simp; omega
theorem cellsI_app (A B : List It) : zb0 (A ++ B) = zb0 A ++ zb0 B := by simp [zb0]
theorem zm1 : ∀ (Is : List It) (i : Nat) (x : It), Is[i]? = some x → (zb0 Is)[i * 2]? = some (.int .i64 x.m) ∧ (zb0 Is)[i * 2 + 1]? = some x.t.val := by
 intro Is
 induction Is with
 | nil => intro i x h; cases h
 | cons y Is ih =>
  intro i x h
  have e : zb0 (y :: Is) = Value.int .i64 y.m :: y.t.val :: zb0 Is := rfl
  cases i with
  | zero =>
   have e2 : y = x := by simpa using h
   subst e2
   rw [e]
   exact ⟨rfl, rfl⟩
  | succ i =>
   have h2 : Is[i]? = some x := by simpa using h
   obtain ⟨h3, h4⟩ := ih i x h2
   rw [e, show (i + 1) * 2 = i * 2 + 1 + 1 by omega]
   exact ⟨by simpa using h3, by simpa using h4⟩
theorem zw0 (Is : List It) : ∀ u ∈ zb0 Is, u.oneCell' = true := by
 intro u hu
 obtain ⟨x, -, hx⟩ := List.mem_flatMap.1 hu
 simp only [List.mem_cons, List.not_mem_nil, or_false] at hx
 rcases hx with rfl | rfl <;> rfl
end Pl
end Go.Proofs.YtlgbdbmikmbioaaGreatDoor

