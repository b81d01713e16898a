/- Several texts of one claim in one file: MemOwnI, MemPickO, MemOwnB. -/
import Derived.Test.YtonffldjbmednaaGreatDoorG02
import Derived.Test.YtonffldjbmednaaGreatDoorG03
import Derived.Test.YtonffldjbmednaaGreatDoorG29
import Derived.Test.YtonffldjbmednaaGreatDoorG23
import Derived.Test.YtonffldjbmednaaGreatDoorG04
import Derived.Test.YtonffldjbmednaaGreatDoorG25
namespace Go.Proofs.YtonffldjbmednaaGreatDoor
open Go.RowKit
namespace Pl
def kAt (K : Nat) (Is : List It) : Nat → Nat
 | 0 => K
 | i + 1 => kAt K Is i + match Is[i]? with
  | some x => 1 + 5 * x.t.L.length
  | none => 0
theorem kAt_succ {K : Nat} {Is : List It} {i : Nat} {x : It} (h : Is[i]? = some x) : kAt K Is (i + 1) = kAt K Is i + 1 + 5 * x.t.L.length := by
 rw [kAt, h]
 show kAt K Is i + (1 + 5 * x.t.L.length) = _
 omega
theorem kAt_ge (K : Nat) (Is : List It) (i : Nat) : K ≤ kAt K Is i := by
 induction i with
 | zero => exact Nat.le_refl _
 | succ i ih => simp only [kAt]; omega
def mkIt (K : Nat) (Is : List It) (i : Nat) (x : It) : It := ⟨(kAt K Is i : Int), ⟨x.t.a, x.t.cap, zl6 (kAt K Is i + 1) x.t.L.length⟩⟩
def mkTo (K : Nat) (Is : List It) (i : Nat) : List It := Is.mapIdx (fun j x => if j < i then mkIt K Is j x else x)
theorem zq9 (K : Nat) (Is : List It) (i : Nat) : (mkTo K Is i).length = Is.length := by simp [mkTo]
theorem mkTo_zero (K : Nat) (Is : List It) : mkTo K Is 0 = Is := by
 apply List.ext_getElem?
 intro j
 simp [mkTo, List.getElem?_mapIdx]
theorem zq8 (K : Nat) (Is : List It) (i j : Nat) : (mkTo K Is i)[j]? = Is[j]?.map (fun x => if j < i then mkIt K Is j x else x) := by
 simp [mkTo, List.getElem?_mapIdx]
theorem mkTo_succ (K : Nat) {Is : List It} {i : Nat} {x : It} (h : Is[i]? = some x) : (mkTo K Is i).set i (mkIt K Is i x) = mkTo K Is (i + 1) := by
 apply List.ext_getElem?
 intro j
 have hlt := (List.getElem?_eq_some_iff.1 h).1
 rw [List.getElem?_set, zq8, zq8]
 by_cases e : i = j
 ·subst e
  rw [if_pos rfl, if_pos (by rw [zq9]; exact hlt), h]
  simp
 ·rw [if_neg e]
  cases Is[j]? with
  | none => rfl
  | some y =>
   simp only [Option.map_some]
   congr 1
   by_cases h1 : j < i
   ·rw [if_pos h1, if_pos (by omega)]
   ·rw [if_neg h1, if_neg (by omega)]
end Pl
namespace Mem
structure OwnI (w : World) (B g : Nat) (Is : List Pl.It) : Prop where
 row : ∃ cur, w.heap[g]? = some (.cells cur 151 (0, 0)) ∧ Is.length * 2 ≤ cur.size
 lo : B ≤ g
 items : zb0 w (some ⟨g, 0, none⟩) Is
 own : ∀ (i : Nat) x, Is[i]? = some x → (x.t.a = none ∧ x.t.L = [] ∧ x.t.cap = 0) ∨ ∃ h cur, x.t.a = some ⟨h, 0, none⟩ ∧ B ≤ h ∧ h ≠ g ∧ w.heap[h]? = some (.cells cur 189 (0, 0)) ∧ x.t.L.length * 5 ≤ cur.size
 apart : ∀ (i j : Nat) x y, i ≠ j → Is[i]? = some x → Is[j]? = some y → ∀ h, x.t.a = some ⟨h, 0, none⟩ → y.t.a ≠ some ⟨h, 0, none⟩
theorem OwnI.call {w w' : World} {B g : Nat} {Is : List Pl.It} (o : OwnI w B g Is) (b : Below w.heap.size w w') : OwnI w' B g Is := by
 obtain ⟨cur, h1, h2⟩ := o.row
 refine ⟨⟨cur, (b.block _ (Array.getElem?_eq_some_iff.1 h1).1).trans h1, h2⟩, o.lo, zc2 o.items b, fun i x hx => ?_, o.apart⟩
 rcases o.own i x hx with h | ⟨h, c, k1, k2, k3, k4, k5⟩
 ·exact .inl h
 ·exact .inr ⟨h, c, k1, k2, k3, (b.block _ (Array.getElem?_eq_some_iff.1 k4).1).trans k4, k5⟩
theorem zj6 {Is : List Pl.It} {i : Nat} {x x' : Pl.It} (hx : Is[i]? = some x) {j : Nat} {y : Pl.It} (hy : (Is.set i x')[j]? = some y) : (j = i ∧ y = x') ∨ (j ≠ i ∧ Is[j]? = some y) := by
 rw [List.getElem?_set] at hy
 by_cases e : i = j
 ·subst e
  rw [if_pos rfl, if_pos (List.getElem?_eq_some_iff.1 hx).1] at hy
  cases hy; exact .inl ⟨rfl, rfl⟩
 ·rw [if_neg e] at hy; exact .inr ⟨fun h => e h.symm, hy⟩
theorem OwnI.many {w : World} {B g i : Nat} {Is : List Pl.It} {x : Pl.It} (o : OwnI w B g Is) (hx : Is[i]? = some x) (k : Int) : OwnI (w.setCell ⟨g, i * 2, none⟩ (.int .i64 k)) B g (Is.set i ⟨k, x.t⟩) := by
 obtain ⟨cur, h1, h2⟩ := o.row
 have hlt := (List.getElem?_eq_some_iff.1 hx).1
 have hr := heap_setCell_same w g (i * 2) cur 151 (.int .i64 k) h1
 have hg := (Array.getElem?_eq_some_iff.1 h1).1
 have far : ∀ h, h ≠ g → (w.setCell ⟨g, i * 2, none⟩ (.int .i64 k)).heap[h]? = w.heap[h]? := fun h hh => heap_setCell_other _ _ _ _ hh
 have nod : ∀ (j : Nat) y, Is[j]? = some y → za7 (w.setCell ⟨g, i * 2, none⟩ (.int .i64 k)) y.t.a y.t.L := fun j y hy => by
  rcases o.own j y hy with ⟨e1, e2, -⟩ | ⟨h, c, k1, k2, k3, -⟩
  ·rw [e2]; exact zy1 _ _
  ·have := (o.items j y hy).2
   rw [k1] at this ⊢
   exact zd7 this _ _ (fun e => k3 e.symm)
 refine ⟨⟨_, hr, by simpa using h2⟩, o.lo, fun j y hy => ?_, fun j y hy => ?_, fun a b y z hab hy hz h => ?_⟩
 ·rcases zj6 hx hy with ⟨rfl, rfl⟩ | ⟨hne, hy'⟩
  ·refine ⟨⟨g, 0, rfl, by simpa using hg, ?_, ?_⟩, nod j x hx⟩
   ·rw [cell_of_row _ _ _ _ _ (0, 0) hr, Nat.zero_add, Array.getElem?_setIfInBounds, if_pos rfl, if_pos (by omega)]
   ·obtain ⟨⟨g', o', e, -, -, c2⟩, -⟩ := o.items j x hx
    cases e
    rw [cell_of_row _ _ _ _ _ (0, 0) h1] at c2
    rw [cell_of_row _ _ _ _ _ (0, 0) hr, Array.getElem?_setIfInBounds, if_neg (by omega)]
    exact c2
  ·obtain ⟨⟨g', o', e, -, c1, c2⟩, -⟩ := o.items j y hy'
   cases e
   rw [cell_of_row _ _ _ _ _ (0, 0) h1] at c1 c2
   refine ⟨⟨g, 0, rfl, by simpa using hg, ?_, ?_⟩, nod j y hy'⟩
   ·rw [cell_of_row _ _ _ _ _ (0, 0) hr, Array.getElem?_setIfInBounds, if_neg (by omega)]; exact c1
   ·rw [cell_of_row _ _ _ _ _ (0, 0) hr, Array.getElem?_setIfInBounds, if_neg (by omega)]; exact c2
 ·have key : ∃ (j' : Nat) (y' : Pl.It), Is[j']? = some y' ∧ y'.t = y.t := by
   rcases zj6 hx hy with ⟨rfl, rfl⟩ | ⟨-, hy'⟩
   ·exact ⟨_, x, hx, rfl⟩
   ·exact ⟨_, y, hy', rfl⟩
  obtain ⟨j', y', hy', e⟩ := key
  rw [← e]
  rcases o.own j' y' hy' with h | ⟨h, c, k1, k2, k3, k4, k5⟩
  ·exact .inl h
  ·exact .inr ⟨h, c, k1, k2, k3, (far h k3).trans k4, k5⟩
 ·rcases zj6 hx hy with ⟨rfl, rfl⟩ | ⟨-, hy'⟩
  ·rcases zj6 hx hz with ⟨rfl, -⟩ | ⟨-, hz'⟩
   ·exact absurd rfl hab
   ·exact o.apart _ _ x z hab hx hz' h
  ·rcases zj6 hx hz with ⟨rfl, rfl⟩ | ⟨-, hz'⟩
   ·exact o.apart _ _ y x hab hy' hx h
   ·exact o.apart _ _ y z hab hy' hz' h
theorem OwnI.nodes {w w' : World} {B g i h : Nat} {Is : List Pl.It} {x : Pl.It} {M : List Pl.Nd} (o : OwnI w B g Is) (hx : Is[i]? = some x) (ha : x.t.a = some ⟨h, 0, none⟩) (gr : w.grownBy w' (some h))
  (hrow : ∃ cur, w'.heap[h]? = some (.cells cur 189 (0, 0)) ∧ x.t.L.length * 5 ≤ cur.size) (hn : za7 w' (some ⟨h, 0, none⟩) M) (hM : M.length = x.t.L.length) : OwnI w' B g (Is.set i ⟨x.m, ⟨x.t.a, x.t.cap, M⟩⟩) := by
 obtain ⟨cur, h1, h2⟩ := o.row
 have hg := (Array.getElem?_eq_some_iff.1 h1).1
 have hgh : g ≠ h := by
  rcases o.own i x hx with ⟨e, -, -⟩ | ⟨h', c, k1, -, k3, -⟩
  ·rw [e] at ha; cases ha
  ·rw [k1] at ha; cases ha; exact fun e => k3 e.symm
 have hB : B ≤ h := by
  rcases o.own i x hx with ⟨e, -, -⟩ | ⟨h', c, k1, k2, -⟩
  ·rw [e] at ha; cases ha
  ·rw [k1] at ha; cases ha; exact k2
 have h1' : w'.heap[g]? = some (.cells cur 151 (0, 0)) := (gr.block g hg (fun e => hgh (Option.some.inj e))).trans h1
 have oth : ∀ (j : Nat) y, j ≠ i → Is[j]? = some y → za7 w' y.t.a y.t.L := fun j y hj hy => by
  rcases o.own j y hy with ⟨e1, e2, -⟩ | ⟨h', c, k1, k2, k3, -⟩
  ·rw [e2]; exact zy1 _ _
  ·have hh : h' ≠ h := fun e => by subst e; exact o.apart i j x y (fun e => hj e.symm) hx hy _ ha k1
   have := (o.items j y hy).2
   rw [k1] at this ⊢
   exact nodes_grown this gr (fun e => hh (Option.some.inj e))
 have cel : ∀ (j : Nat) y, Is[j]? = some y → ∃ b o', some ⟨g, 0, none⟩ = some (⟨b, o', none⟩ : Addr) ∧ b < w'.heap.size ∧ w'.cell? ⟨b, o' + j * 2, none⟩ = some (.int .i64 y.m) ∧ w'.cell? ⟨b, o' + j * 2 + 1, none⟩ = some y.t.val := fun j y hy => by
  obtain ⟨⟨g', o', e, -, c1, c2⟩, -⟩ := o.items j y hy
  cases e
  rw [cell_of_row _ _ _ _ _ (0, 0) h1] at c1 c2
  exact ⟨g, 0, rfl, Nat.lt_of_lt_of_le hg gr.size, by rw [cell_of_row _ _ _ _ _ (0, 0) h1']; exact c1, by rw [cell_of_row _ _ _ _ _ (0, 0) h1']; exact c2⟩
 refine ⟨⟨cur, h1', by simpa using h2⟩, o.lo, fun j y hy => ?_, fun j y hy => ?_, fun a b y z hab hy hz k => ?_⟩
 ·rcases zj6 hx hy with ⟨rfl, rfl⟩ | ⟨hne, hy'⟩
  ·obtain ⟨b, o', e, q1, q2, q3⟩ := cel j x hx
   refine ⟨⟨b, o', e, q1, q2, ?_⟩, by simp only [ha]; exact hn⟩
   rw [q3]; simp only [Pl.Tr.val, hM]
  ·exact ⟨cel j y hy', oth j y hne hy'⟩
 ·rcases zj6 hx hy with ⟨rfl, rfl⟩ | ⟨hne, hy'⟩
  ·obtain ⟨c, r1, r2⟩ := hrow
   exact .inr ⟨h, c, ha, hB, fun e => hgh e.symm, r1, by simp only [hM]; exact r2⟩
  ·rcases o.own j y hy' with hh | ⟨h', c, k1, k2, k3, k4, k5⟩
   ·exact .inl hh
   ·have hne' : h' ≠ h := fun e => by subst e; exact o.apart i j x y (fun e => hne e.symm) hx hy' _ ha k1
    exact .inr ⟨h', c, k1, k2, k3, (gr.block h' (Array.getElem?_eq_some_iff.1 k4).1 (fun e => hne' (Option.some.inj e))).trans k4, k5⟩
 ·rcases zj6 hx hy with ⟨rfl, rfl⟩ | ⟨-, hy'⟩
  ·rcases zj6 hx hz with ⟨rfl, -⟩ | ⟨-, hz'⟩
   ·exact absurd rfl hab
   ·exact o.apart _ _ x z hab hx hz' k
  ·rcases zj6 hx hz with ⟨rfl, rfl⟩ | ⟨-, hz'⟩
   ·exact o.apart _ _ y x hab hy' hx k
   ·exact o.apart _ _ y z hab hy' hz' k
end Mem
end Go.Proofs.YtonffldjbmednaaGreatDoor

namespace Go.Proofs.YtonffldjbmednaaGreatDoor
open Go.RowKit
namespace Mem
theorem Io.own {W : World} {S g cap n : Nat} {Is : List Pl.It} (h : Io W S (.slice (some ⟨g, 0, none⟩) n cap) Is) : OwnI W S g Is := by
 obtain ⟨hn, hi⟩ := h.items
 have shp : ∀ {x : Pl.It} {W : World} {S : Nat}, ownN W S x.t.val x.t.L → (x.t.a = none ∧ x.t.L = [] ∧ x.t.cap = 0) ∨ ∃ q cur, x.t.a = some ⟨q, 0, none⟩ ∧ S ≤ q ∧ W.heap[q]? = some (.cells cur 189 (0, 0)) ∧ x.t.L.length * 5 ≤ cur.size := fun {x W S} hx => by
  rcases hx.2 with ⟨e, h0⟩ | ⟨q, c, cur, e, hb, hq, hc, hm, hs, ht⟩
  ·have e2 : Value.slice x.t.a x.t.L.length x.t.cap = .slice none 0 0 := e
   injection e2 with e3 e4 e5
   exact .inl ⟨e3, List.eq_nil_of_length_eq_zero h0, e5⟩
  ·have e2 : Value.slice x.t.a x.t.L.length x.t.cap = .slice (some ⟨q, 0, none⟩) _ c := e
   injection e2 with e3 e4 e5
   exact .inr ⟨q, cur, e3, hb, hq, by omega⟩
 refine ⟨?_, (h.lt.1 g rfl).1, hi, fun i x hx => ?_, fun i j x y hij hx hy q hq e => ?_⟩
 ·rcases h.row.2 with ⟨e, _⟩ | ⟨q, c, cur, e, hb, hq, hc, hm, hs, ht⟩
  ·cases e
  ·cases e
   exact ⟨cur, hq, by omega⟩
 ·obtain ⟨h3, h4⟩ := h.each i x hx
  rcases shp h3 with h5 | ⟨q, cur, e1, e2, e3, e4⟩
  ·exact .inl h5
  ·exact .inr ⟨q, cur, e1, e2, fun e => h4 q (by show (Value.slice x.t.a x.t.L.length x.t.cap).ownBlock = _; rw [e1]; rfl) (by rw [e]; rfl), e3, e4⟩
 ·exact h.apart i j x y hij hx hy q (by show (Value.slice x.t.a x.t.L.length x.t.cap).ownBlock = _; rw [hq]; rfl) (by show (Value.slice y.t.a y.t.L.length y.t.cap).ownBlock = _; rw [e]; rfl)
end Mem
end Go.Proofs.YtonffldjbmednaaGreatDoor

namespace Go.Proofs.YtonffldjbmednaaGreatDoor
open Go.RowKit
namespace Mem
structure OwnB (W : World) (B H g : Nat) (Is : List Pl.It) : Prop where
 o : OwnI W B g Is
 gH : g < H
 hH : ∀ x ∈ Is, ∀ h, x.t.a = some ⟨h, 0, none⟩ → h < H
theorem OwnB.same {W W' : World} {B H g : Nat} {Is : List Pl.It} (h : OwnB W B H g Is) (hs : W.heap.size ≤ W'.heap.size) (hb : ∀ b, B ≤ b → b < H → b < W.heap.size → W'.heap[b]? = W.heap[b]?) : OwnB W' B H g Is := by
 obtain ⟨⟨⟨cur, h1, h2⟩, h3, h4, h5, h6⟩, h7, h8⟩ := h
 have hg := hb g h3 h7 (Array.getElem?_eq_some_iff.1 h1).1
 refine ⟨⟨⟨cur, hg.trans h1, h2⟩, h3, fun i x hx => ?_, fun i x hx => ?_, h6⟩, h7, h8⟩
 ·obtain ⟨⟨b, o, e, k1, k2, k3⟩, k4⟩ := h4 i x hx
  cases e
  refine ⟨⟨g, 0, rfl, by omega, (WMkJ.zf0 hg).trans k2, (WMkJ.zf0 hg).trans k3⟩, fun j n hn => ?_⟩
  obtain ⟨q, p, m1, m2, m3, m4, m5, m6, m7⟩ := k4 j n hn
  rcases h5 i x hx with ⟨e, -⟩ | ⟨q', c, e, e2, e3, e4, e5⟩
  ·rw [e] at m1; cases m1
  ·rw [e] at m1
   cases m1
   have hq := hb q e2 (h8 x (List.mem_of_getElem? hx) q e) m2
   exact ⟨q, 0, e, by omega, (WMkJ.zf0 hq).trans m3, (WMkJ.zf0 hq).trans m4, (WMkJ.zf0 hq).trans m5, (WMkJ.zf0 hq).trans m6, (WMkJ.zf0 hq).trans m7⟩
 ·rcases h5 i x hx with e | ⟨q', c, e, e2, e3, e4, e5⟩
  ·exact .inl e
  ·exact .inr ⟨q', c, e, e2, e3, (hb q' e2 (h8 x (List.mem_of_getElem? hx) q' e) (Array.getElem?_eq_some_iff.1 e4).1).trans e4, e5⟩
theorem Ib.own {W : World} {L H : Nat} {a : Option Addr} {cap : Nat} {Is : List Pl.It} (h : Ib W L H (.slice a Is.length cap) Is) (hn : Is.length ≠ 0) : ∃ g, a = some ⟨g, 0, none⟩ ∧ OwnB W L H g Is := by
 obtain ⟨g, c, e, -⟩ := h.io.there hn
 cases e
 refine ⟨g, rfl, h.io.own, h.h1 g rfl, fun x hx q hq => ?_⟩
 obtain ⟨i, hi⟩ := List.getElem?_of_mem hx
 exact h.h2 i x hi q (by unfold Pl.Tr.val; rw [hq]; rfl)
theorem OwnB.marks {W : World} {B H g K : Nat} {Is : List Pl.It} (o : OwnI W B g (Pl.mkTo K Is Is.length)) (gH : g < H) (hH : ∀ x ∈ Is, ∀ h, x.t.a = some ⟨h, 0, none⟩ → h < H) : OwnB W B H g (Pl.mkTo K Is Is.length) :=
 ⟨o, gH, fun x hx q hq => by
  obtain ⟨i, hi⟩ := List.getElem?_of_mem hx
  rw [Pl.zq8, Option.map_eq_some_iff] at hi
  obtain ⟨y, hy, e⟩ := hi
  have hl := (List.getElem?_eq_some_iff.1 hy).1
  rw [if_pos hl] at e
  subst e
  exact hH y (List.mem_of_getElem? hy) q hq⟩
end Mem
end Go.Proofs.YtonffldjbmednaaGreatDoor

