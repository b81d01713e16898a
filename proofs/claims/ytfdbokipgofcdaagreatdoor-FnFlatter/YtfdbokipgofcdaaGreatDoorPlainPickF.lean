import Derived.Test.YtfdbokipgofcdaaGreatDoorG11
import Derived.Test.YtfdbokipgofcdaaGreatDoorG34
namespace Go.Proofs.YtfdbokipgofcdaaGreatDoor
namespace Pl
theorem pick_flat {Ds : List It} {L : List Nd} {k K : Fx} (h : (Fx.cons L k .nil).flat = Ds.map It.r) (hx : (Fx.cons L k .nil).okX) (hK : k.flatK = some K) :
  ∃ d x Rs, Ds[0]? = some d ∧ Ds[1 + k.zb7.1.sz]? = some x ∧ Ds.take (1 + k.zb7.1.sz) ++ Ds.drop (1 + k.zb7.1.sz + 1) = d :: Rs ∧ d.t.L = [] ∧ Rs.map It.r = K.flat ∧ d.m = (k.len : Int) ∧ x.m = (k.zb7.2.2.len : Int) ∧
   (k.len : Int) - 1 + (k.zb7.2.2.len : Int) = (K.len : Int) ∧ k.len ≤ 4 ∧ k.zb7.2.2.len ≤ 4 ∧ 2 ≤ k.len ∧ 1 + k.zb7.1.sz + 1 < Ds.length := by
 obtain ⟨o1, o2, o3, o4, o5, o6⟩ := yn hx.2.2.2.1 hK
 obtain ⟨hsp, hsl⟩ := k.yb9 (by omega)
 have hL : L = [] := by
  rcases hx.2.1 with e | e
  ·rw [e] at o4; simp [Fx.len] at o4
  ·exact e
 have hk4 := hx.2.2.1
 generalize k.zb7.1 = A at *
 generalize k.zb7.2.1 = L1 at *
 generalize k.zb7.2.2 = k1 at *
 subst o6
 have hkf : k.flat = A.flat ++ (((k1.len : Int), L1) :: k1.flat) := by
  rw [hsp, Fx.zz9, Fx.flat, Fx.flat, List.append_nil]
 have h2 : Ds.map It.r = (((k.len : Int), L) :: A.flat) ++ (((k1.len : Int), L1) :: k1.flat) := by
  rw [← h, Fx.flat, Fx.flat, List.append_nil, hkf, List.cons_append]
 have hAl : (((k.len : Int), L) :: A.flat).length = 1 + A.sz := by rw [List.length_cons, Fx.zk6]; omega
 have hlen : Ds.length = 1 + A.sz + (1 + k1.sz) := by
  have := congrArg List.length h2
  rw [List.length_map, List.length_append, hAl, List.length_cons, Fx.zk6] at this
  omega
 have hk1 := k1.len_le
 have ht : (Ds.take (1 + A.sz)).map It.r = ((k.len : Int), L) :: A.flat := by rw [List.map_take, h2, ← hAl, List.take_left]
 have hd : (Ds.drop (1 + A.sz)).map It.r = ((k1.len : Int), L1) :: k1.flat := by rw [List.map_drop, h2, ← hAl, List.drop_left]
 cases e1 : Ds.take (1 + A.sz) with
 | nil => rw [e1] at ht; cases ht
 | cons d T =>
  rw [e1, List.map_cons] at ht
  injection ht with g1 g2
  cases e2 : Ds.drop (1 + A.sz) with
  | nil => rw [e2] at hd; cases hd
  | cons x U =>
   rw [e2, List.map_cons] at hd
   injection hd with g3 g4
   have e3 : Ds.drop (1 + A.sz + 1) = U := by rw [← List.drop_drop, e2]; rfl
   refine ⟨d, x, T ++ U, ?_, ?_, by rw [e3]; rfl, ?_, ?_, congrArg Prod.fst g1, congrArg Prod.fst g3, ?_, hk4, ?_, o4, by omega⟩
   ·have := List.getElem?_take (l := Ds) (i := 1 + A.sz) (j := 0)
    rw [e1, if_pos (by omega)] at this
    exact this.symm
   ·have := List.getElem?_drop (xs := Ds) (i := 1 + A.sz) (j := 0)
    rw [e2] at this
    exact this.symm
   ·rw [← hL]; exact congrArg Prod.snd g1
   ·rw [List.map_append, g2, g4, Fx.zz9]
   ·rw [Fx.zh9]; omega
   ·rw [Fx.zh9] at o2; omega
theorem flatI_le {xs : List (Int × List Nd)} (C : Nat) (hC : ∀ L, za2 L = true → L.length ≤ C) : (ze3 xs).length ≤ 12 ∧ ∀ x ∈ ze3 xs, x.2.length ≤ C := by
 by_cases h4 : 400 < xs.length
 ·rw [(yc9 h4).2]; exact ⟨by simp, fun x hx => (by cases hx)⟩
 cases hF : nest (rowO xs) with
 | none => rw [(yh7 h4 hF).2]; exact ⟨by simp, fun x hx => (by cases hx)⟩
 | some F =>
  obtain ⟨L, k, hks, hfl, hko, hnx⟩ := zy2 hF
  have hl12 := zj3 hF
  cases hK : k.flatK with
  | none => rw [(yc hl12 hnx hK).2]; exact ⟨by simp, fun x hx => (by cases hx)⟩
  | some K =>
   rw [(zy1 hl12 hnx hK).2]
   obtain ⟨o1, o2, o3, -, -, -⟩ := yn hko.2.2.2.1 hK
   have h5 := congrArg List.length hfl
   rw [Fx.zk6, Fx.sz, Fx.sz] at h5
   refine ⟨by rw [List.length_cons, Fx.zk6]; omega, fun x hx => ?_⟩
   rcases List.mem_cons.1 hx with rfl | hx
   ·simp
   ·exact hC _ (Fx.ok_mem o1 x hx).1
end Pl
end Go.Proofs.YtfdbokipgofcdaaGreatDoor
