/- What Flatter answers of a list of items: plain. -/
import Derived.Test.YteddcihodfkliabGreatDoorPlainFlat
import Derived.Test.YteddcihodfkliabGreatDoorPlainNestX
namespace Go.Proofs.YteddcihodfkliabGreatDoor
namespace Pl
def flatC (xs : List (Int × List Nd)) : Int := if 400 < xs.length then 2 else match nestX xs with
  | none => 1
  | some p => match p.2.flatK with
    | none => 10
    | some _ => 0
def flatI (xs : List (Int × List Nd)) : List (Int × List Nd) := match nestX xs with
  | none => []
  | some p => match p.2.flatK with
    | none => []
    | some K => ((K.len : Int), []) :: K.flat
theorem flat_long {xs : List (Int × List Nd)} (h : 400 < xs.length) : flatC xs = 2 ∧ flatI xs = [] := by
  refine ⟨if_pos h, ?_⟩
  unfold flatI
  rw [nestX_none]
  cases hn : nest (rowO xs) with
  | none => rfl
  | some F => have := nest_len hn; omega
theorem flat_bad {xs : List (Int × List Nd)} (h : ¬ 400 < xs.length) (hn : nest (rowO xs) = none) : flatC xs = 1 ∧ flatI xs = [] := by
  unfold flatC flatI
  rw [if_neg h, nestX_none hn]
  exact ⟨rfl, rfl⟩
theorem flat_none {xs : List (Int × List Nd)} {L : List Nd} {k : Fx} (hl : xs.length ≤ 12) (h : nestX xs = some (L, k)) (hv : k.flatK = none) : flatC xs = 10 ∧ flatI xs = [] := by
  unfold flatC flatI
  rw [if_neg (by omega), h]
  simp only [hv]
  exact ⟨trivial, trivial⟩
theorem flat_some {xs : List (Int × List Nd)} {L : List Nd} {k K : Fx} (hl : xs.length ≤ 12) (h : nestX xs = some (L, k)) (hv : k.flatK = some K) : flatC xs = 0 ∧ flatI xs = ((K.len : Int), []) :: K.flat := by
  unfold flatC flatI
  rw [if_neg (by omega), h]
  simp only [hv]
  exact ⟨trivial, trivial⟩
theorem flatK_ok {k K : Fx} (hx : k.okX) (h : k.flatK = some K) : K.okX ∧ K.len ≤ 4 ∧ K.sz ≤ k.sz ∧ 2 ≤ k.len ∧ k.splitL.2.2.len ≠ 0 ∧ K = k.splitL.1.app k.splitL.2.2 := by
  unfold Fx.flatK at h
  split at h
  · cases h
  · rename_i h2
    split at h
    · cases h
    · rename_i h3
      cases h
      obtain ⟨hsp, hsl⟩ := k.split_app (by omega)
      have hx2 := hx
      rw [hsp] at hx2
      obtain ⟨g1, g2⟩ := Fx.ok_split hx2
      have hs := congrArg Fx.sz hsp
      rw [Fx.sz_app, Fx.sz] at hs
      refine ⟨Fx.ok_app g1 g2.2.2.2.1, by rw [Fx.len_app]; omega, by rw [Fx.sz_app]; omega, by omega, fun e => h3 (.inl e), rfl⟩
end Pl
end Go.Proofs.YteddcihodfkliabGreatDoor
