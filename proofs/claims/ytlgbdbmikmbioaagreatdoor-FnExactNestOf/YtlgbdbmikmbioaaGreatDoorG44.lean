/- Several texts of one claim in one file: MemOwnI, WHdN, WMkI, MemPick, MemPickO, WMkB. -/
import Derived.Test.YtlgbdbmikmbioaaGreatDoorG04
import Derived.Test.YtlgbdbmikmbioaaGreatDoorG42
import Derived.Test.YtlgbdbmikmbioaaGreatDoorG03
import Derived.Test.YtlgbdbmikmbioaaGreatDoorG41
import Derived.Test.YtlgbdbmikmbioaaGreatDoorG29
namespace Go.Proofs.YtlgbdbmikmbioaaGreatDoor
open Go.RowKit
namespace Pl
def kAt (K : Nat) (Is : List It) : Nat → Nat
 | 0 => K
 | i + 1 => kAt K Is i + match Is[i]? with
  | some x => 1 + 5 * x.t.L.length
  | none => 0
theorem kAt_succ {K : Nat} {Is : List It} {i : Nat} {x : It} (h : Is[i]? = some x) : kAt K Is (i + 1) = kAt K Is i + 1 + 5 * x.t.L.length := by
 rw [kAt, h]
 show kAt K Is i + (1 + 5 * x.t.L.length) = _
 omega
theorem kAt_ge (K : Nat) (Is : List It) (i : Nat) : K ≤ kAt K Is i := by
 induction i with
 | zero => exact Nat.le_refl _
 | succ i ih => simp only [kAt]; omega
def mkIt (K : Nat) (Is : List It) (i : Nat) (x : It) : It := ⟨(kAt K Is i : Int), ⟨x.t.a, x.t.cap, zj3 (kAt K Is i + 1) x.t.L.length⟩⟩
def mkTo (K : Nat) (Is : List It) (i : Nat) : List It := Is.mapIdx (fun j x => if j < i then mkIt K Is j x else x)
theorem mkTo_len (K : Nat) (Is : List It) (i : Nat) : (mkTo K Is i).length = Is.length := by simp [mkTo]
theorem mkTo_zero (K : Nat) (Is : List It) : mkTo K Is 0 = Is := by
 apply List.ext_getElem?
 intro j
 simp [mkTo, List.getElem?_mapIdx]
theorem zr0 (K : Nat) (Is : List It) (i j : Nat) : (mkTo K Is i)[j]? = Is[j]?.map (fun x => if j < i then mkIt K Is j x else x) := by
 simp [mkTo, List.getElem?_mapIdx]
theorem mkTo_succ (K : Nat) {Is : List It} {i : Nat} {x : It} (h : Is[i]? = some x) : (mkTo K Is i).set i (mkIt K Is i x) = mkTo K Is (i + 1) := by
 apply List.ext_getElem?
 intro j
 have hlt := (List.getElem?_eq_some_iff.1 h).1
 rw [List.getElem?_set, zr0, zr0]
 by_cases e : i = j
 ·subst e
  rw [if_pos rfl, if_pos (by rw [mkTo_len]; exact hlt), h]
  simp
 ·rw [if_neg e]
  cases Is[j]? with
  | none => rfl
  | some y =>
   simp only [Option.map_some]
   congr 1
   by_cases h1 : j < i
   ·rw [if_pos h1, if_pos (by omega)]
   ·rw [if_neg h1, if_neg (by omega)]
end Pl
namespace Mem
structure OwnI (w : World) (B g : Nat) (Is : List Pl.It) : Prop where
 row : ∃ cur, w.heap[g]? = some (.cells cur 71 (0, 0)) ∧ Is.length * 2 ≤ cur.size
 lo : B ≤ g
 items : za5 w (some ⟨g, 0, none⟩) Is
 own : ∀ (i : Nat) x, Is[i]? = some x → (x.t.a = none ∧ x.t.L = [] ∧ x.t.cap = 0) ∨ ∃ h cur, x.t.a = some ⟨h, 0, none⟩ ∧ B ≤ h ∧ h ≠ g ∧ w.heap[h]? = some (.cells cur 134 (0, 0)) ∧ x.t.L.length * 5 ≤ cur.size
 apart : ∀ (i j : Nat) x y, i ≠ j → Is[i]? = some x → Is[j]? = some y → ∀ h, x.t.a = some ⟨h, 0, none⟩ → y.t.a ≠ some ⟨h, 0, none⟩
theorem OwnI.call {w w' : World} {B g : Nat} {Is : List Pl.It} (o : OwnI w B g Is) (b : Below w.heap.size w w') : OwnI w' B g Is := by
 obtain ⟨cur, h1, h2⟩ := o.row
 refine ⟨⟨cur, (b.block _ (Array.getElem?_eq_some_iff.1 h1).1).trans h1, h2⟩, o.lo, za8 o.items b, fun i x hx => ?_, o.apart⟩
 rcases o.own i x hx with h | ⟨h, c, k1, k2, k3, k4, k5⟩
 ·exact .inl h
 ·exact .inr ⟨h, c, k1, k2, k3, (b.block _ (Array.getElem?_eq_some_iff.1 k4).1).trans k4, k5⟩
theorem zh2 {Is : List Pl.It} {i : Nat} {x x' : Pl.It} (hx : Is[i]? = some x) {j : Nat} {y : Pl.It} (hy : (Is.set i x')[j]? = some y) : (j = i ∧ y = x') ∨ (j ≠ i ∧ Is[j]? = some y) := by
 rw [List.getElem?_set] at hy
 by_cases e : i = j
 ·subst e
  rw [if_pos rfl, if_pos (List.getElem?_eq_some_iff.1 hx).1] at hy
  cases hy; exact .inl ⟨rfl, rfl⟩
 ·rw [if_neg e] at hy; exact .inr ⟨fun h => e h.symm, hy⟩
theorem OwnI.many {w : World} {B g i : Nat} {Is : List Pl.It} {x : Pl.It} (o : OwnI w B g Is) (hx : Is[i]? = some x) (k : Int) : OwnI (w.setCell ⟨g, i * 2, none⟩ (.int .i64 k)) B g (Is.set i ⟨k, x.t⟩) := by
 obtain ⟨cur, h1, h2⟩ := o.row
 have hlt := (List.getElem?_eq_some_iff.1 hx).1
 have hr := heap_setCell_same w g (i * 2) cur 71 (.int .i64 k) h1
 have hg := (Array.getElem?_eq_some_iff.1 h1).1
 have far : ∀ h, h ≠ g → (w.setCell ⟨g, i * 2, none⟩ (.int .i64 k)).heap[h]? = w.heap[h]? := fun h hh => heap_setCell_other _ _ _ _ hh
 have nod : ∀ (j : Nat) y, Is[j]? = some y → za3 (w.setCell ⟨g, i * 2, none⟩ (.int .i64 k)) y.t.a y.t.L := fun j y hy => by
  rcases o.own j y hy with ⟨e1, e2, -⟩ | ⟨h, c, k1, k2, k3, -⟩
  ·rw [e2]; exact zt4 _ _
  ·have := (o.items j y hy).2
   rw [k1] at this ⊢
   exact zc1 this _ _ (fun e => k3 e.symm)
 refine ⟨⟨_, hr, by simpa using h2⟩, o.lo, fun j y hy => ?_, fun j y hy => ?_, fun a b y z hab hy hz h => ?_⟩
 ·rcases zh2 hx hy with ⟨rfl, rfl⟩ | ⟨hne, hy'⟩
  ·refine ⟨⟨g, 0, rfl, by simpa using hg, ?_, ?_⟩, nod j x hx⟩
   ·rw [cell_of_row _ _ _ _ _ (0, 0) hr, Nat.zero_add, Array.getElem?_setIfInBounds, if_pos rfl, if_pos (by omega)]
   ·obtain ⟨⟨g', o', e, -, -, c2⟩, -⟩ := o.items j x hx
    cases e
    rw [cell_of_row _ _ _ _ _ (0, 0) h1] at c2
    rw [cell_of_row _ _ _ _ _ (0, 0) hr, Array.getElem?_setIfInBounds, if_neg (by omega)]
    exact c2
  ·obtain ⟨⟨g', o', e, -, c1, c2⟩, -⟩ := o.items j y hy'
   cases e
   rw [cell_of_row _ _ _ _ _ (0, 0) h1] at c1 c2
   refine ⟨⟨g, 0, rfl, by simpa using hg, ?_, ?_⟩, nod j y hy'⟩
   ·rw [cell_of_row _ _ _ _ _ (0, 0) hr, Array.getElem?_setIfInBounds, if_neg (by omega)]; exact c1
   ·rw [cell_of_row _ _ _ _ _ (0, 0) hr, Array.getElem?_setIfInBounds, if_neg (by omega)]; exact c2
 ·have key : ∃ (j' : Nat) (y' : Pl.It), Is[j']? = some y' ∧ y'.t = y.t := by
   rcases zh2 hx hy with ⟨rfl, rfl⟩ | ⟨-, hy'⟩
   ·exact ⟨_, x, hx, rfl⟩
   ·exact ⟨_, y, hy', rfl⟩
  obtain ⟨j', y', hy', e⟩ := key
  rw [← e]
  rcases o.own j' y' hy' with h | ⟨h, c, k1, k2, k3, k4, k5⟩
  ·exact .inl h
  ·exact .inr ⟨h, c, k1, k2, k3, (far h k3).trans k4, k5⟩
 ·rcases zh2 hx hy with ⟨rfl, rfl⟩ | ⟨-, hy'⟩
  ·rcases zh2 hx hz with ⟨rfl, -⟩ | ⟨-, hz'⟩
   ·exact absurd rfl hab
   ·exact o.apart _ _ x z hab hx hz' h
  ·rcases zh2 hx hz with ⟨rfl, rfl⟩ | ⟨-, hz'⟩
   ·exact o.apart _ _ y x hab hy' hx h
   ·exact o.apart _ _ y z hab hy' hz' h
theorem OwnI.nodes {w w' : World} {B g i h : Nat} {Is : List Pl.It} {x : Pl.It} {M : List Pl.Nd} (o : OwnI w B g Is) (hx : Is[i]? = some x) (ha : x.t.a = some ⟨h, 0, none⟩) (gr : w.grownBy w' (some h))
  (hrow : ∃ cur, w'.heap[h]? = some (.cells cur 134 (0, 0)) ∧ x.t.L.length * 5 ≤ cur.size) (hn : za3 w' (some ⟨h, 0, none⟩) M) (hM : M.length = x.t.L.length) : OwnI w' B g (Is.set i ⟨x.m, ⟨x.t.a, x.t.cap, M⟩⟩) := by
 obtain ⟨cur, h1, h2⟩ := o.row
 have hg := (Array.getElem?_eq_some_iff.1 h1).1
 have hgh : g ≠ h := by
  rcases o.own i x hx with ⟨e, -, -⟩ | ⟨h', c, k1, -, k3, -⟩
  ·rw [e] at ha; cases ha
  ·rw [k1] at ha; cases ha; exact fun e => k3 e.symm
 have hB : B ≤ h := by
  rcases o.own i x hx with ⟨e, -, -⟩ | ⟨h', c, k1, k2, -⟩
  ·rw [e] at ha; cases ha
  ·rw [k1] at ha; cases ha; exact k2
 have h1' : w'.heap[g]? = some (.cells cur 71 (0, 0)) := (gr.block g hg (fun e => hgh (Option.some.inj e))).trans h1
 have oth : ∀ (j : Nat) y, j ≠ i → Is[j]? = some y → za3 w' y.t.a y.t.L := fun j y hj hy => by
  rcases o.own j y hy with ⟨e1, e2, -⟩ | ⟨h', c, k1, k2, k3, -⟩
  ·rw [e2]; exact zt4 _ _
  ·have hh : h' ≠ h := fun e => by subst e; exact o.apart i j x y (fun e => hj e.symm) hx hy _ ha k1
   have := (o.items j y hy).2
   rw [k1] at this ⊢
   exact nodes_grown this gr (fun e => hh (Option.some.inj e))
 have cel : ∀ (j : Nat) y, Is[j]? = some y → ∃ b o', some ⟨g, 0, none⟩ = some (⟨b, o', none⟩ : Addr) ∧ b < w'.heap.size ∧ w'.cell? ⟨b, o' + j * 2, none⟩ = some (.int .i64 y.m) ∧ w'.cell? ⟨b, o' + j * 2 + 1, none⟩ = some y.t.val := fun j y hy => by
  obtain ⟨⟨g', o', e, -, c1, c2⟩, -⟩ := o.items j y hy
  cases e
  rw [cell_of_row _ _ _ _ _ (0, 0) h1] at c1 c2
  exact ⟨g, 0, rfl, Nat.lt_of_lt_of_le hg gr.size, by rw [cell_of_row _ _ _ _ _ (0, 0) h1']; exact c1, by rw [cell_of_row _ _ _ _ _ (0, 0) h1']; exact c2⟩
 refine ⟨⟨cur, h1', by simpa using h2⟩, o.lo, fun j y hy => ?_, fun j y hy => ?_, fun a b y z hab hy hz k => ?_⟩
 ·rcases zh2 hx hy with ⟨rfl, rfl⟩ | ⟨hne, hy'⟩
  ·obtain ⟨b, o', e, q1, q2, q3⟩ := cel j x hx
   refine ⟨⟨b, o', e, q1, q2, ?_⟩, by simp only [ha]; exact hn⟩
   rw [q3]; simp only [Pl.Tr.val, hM]
  ·exact ⟨cel j y hy', oth j y hne hy'⟩
 ·rcases zh2 hx hy with ⟨rfl, rfl⟩ | ⟨hne, hy'⟩
  ·obtain ⟨c, r1, r2⟩ := hrow
   exact .inr ⟨h, c, ha, hB, fun e => hgh e.symm, r1, by simp only [hM]; exact r2⟩
  ·rcases o.own j y hy' with hh | ⟨h', c, k1, k2, k3, k4, k5⟩
   ·exact .inl hh
   ·have hne' : h' ≠ h := fun e => by subst e; exact o.apart i j x y (fun e => hne e.symm) hx hy' _ ha k1
    exact .inr ⟨h', c, k1, k2, k3, (gr.block h' (Array.getElem?_eq_some_iff.1 k4).1 (fun e => hne' (Option.some.inj e))).trans k4, k5⟩
 ·rcases zh2 hx hy with ⟨rfl, rfl⟩ | ⟨-, hy'⟩
  ·rcases zh2 hx hz with ⟨rfl, -⟩ | ⟨-, hz'⟩
   ·exact absurd rfl hab
   ·exact o.apart _ _ x z hab hx hz' k
  ·rcases zh2 hx hz with ⟨rfl, rfl⟩ | ⟨-, hz'⟩
   ·exact o.apart _ _ y x hab hy' hx k
   ·exact o.apart _ _ y z hab hy' hz' k
end Mem
end Go.Proofs.YtlgbdbmikmbioaaGreatDoor

namespace Go.Proofs.YtlgbdbmikmbioaaGreatDoor
open Go.RowKit
namespace zf7
set_option linter.unusedSimpArgs false in
set_option maxRecDepth 100000 in
set_option maxHeartbeats 2000000 in
theorem ze9 (a : Option Addr) (n cap K : Nat) (w : World) (hn : n ≤ 1048576) (hK : 0 < K) (hK2 : K ≤ 1000000) (hv : Mem.za3 w a (Pl.zj3 K n)) :
  Calls Tryz.prog 92 #[.slice a n cap, .int .i64 (K : Int)] w fun e w' => e = .returned (.int .i64 ((K + 5 * n : Nat) : Int)) ∧ Below w.heap.size w w' := by
 have HV := hide hv
 clear hv
 go_enter Tryz.func92, Tryz.ntmps92
 go_wp2
 go_loopw [1, 5] (fun v i wr => ∃ (k q : Nat), k ≤ n ∧ q = K + 5 * k ∧ i = .int .i64 (k : Int) ∧ v = .int .i64 (q : Int) ∧ Below w.heap.size w wr) (fun _ i _ => n - (intOf i).toNat)
 case atStart => exact ⟨0, K, Nat.zero_le _, rfl, rfl, rfl, Below.refl _ _⟩
 case round =>
  obtain ⟨k, q, hk, hq, rfl, rfl, hbel⟩ := hrel
  by_cases hlt : k < n
  ·have y1 : (k : Int) < (n : Int) := by omega
   have y3 : (0 : Int) ≤ (k : Int) := by omega
   obtain ⟨g, o, rfl, hg, c0, c1, c2, c3, c4⟩ := (Mem.za4 (za HV) hbel) k (Pl.zp6 K k) (by simp [Pl.zj3, List.getElem?_range hlt])
   simp only [Pl.zp6, ← hq] at c0 c1 c2 c3 c4
   have HM := hide (fun W => zo0.zc5 q W (by omega) (by omega))
   have HM2 := hide (fun W => zo0.zc5 (q + 2) W (by omega) (by omega))
   rw [show ((q + 2 : Nat) : Int) = (q : Int) + 1 + 1 by omega] at HM2
   rw [show ((q + 1 : Nat) : Int) = (q : Int) + 1 by omega] at c1
   rw [show ((q + 3 : Nat) : Int) = (q : Int) + 1 + 1 + 1 by omega] at c3
   rw [show ((q + 4 : Nat) : Int) = (q : Int) + 1 + 1 + 1 + 1 by omega] at c4
   have HQ := hide hq
   have q1 : (q : Int) ≤ 100000000 := by omega
   clear hq
   have MK : Hid (∀ W', Below wr.heap.size wr W' → (Below wr.heap.size wr W' ∧ W'.cell? ⟨g, o + k * 5, none⟩ = some (.string (Pl.mark q)) ∧ W'.cell? ⟨g, o + k * 5 + 1, none⟩ = some (.int .i64 ((q : Int) + 1)) ∧ W'.cell? ⟨g, o + k * 5 + 2, none⟩ = some (.string (Pl.mark (q + 2))) ∧ W'.cell? ⟨g, o + k * 5 + 3, none⟩ = some (.int .i64 ((q : Int) + 1 + 1 + 1)) ∧ W'.cell? ⟨g, o + k * 5 + 4, none⟩ = some (.int .i64 ((q : Int) + 1 + 1 + 1 + 1)))) := fun W' hb' => ⟨hb', (hb'.cell (p := ⟨g, _, none⟩) hg).trans c0, (hb'.cell (p := ⟨g, _, none⟩) hg).trans c1, (hb'.cell (p := ⟨g, _, none⟩) hg).trans c2, (hb'.cell (p := ⟨g, _, none⟩) hg).trans c3, (hb'.cell (p := ⟨g, _, none⟩) hg).trans c4⟩
   clear c0 c1 c2 c3 c4
   go_wp2_with fail
   refine wp_region_held_drew (S := fun W' => Below wr.heap.size wr W' ∧ W'.cell? ⟨g, o + k * 5, none⟩ = some (.string (Pl.mark q)) ∧ W'.cell? ⟨g, o + k * 5 + 1, none⟩ = some (.int .i64 ((q : Int) + 1)) ∧ W'.cell? ⟨g, o + k * 5 + 2, none⟩ = some (.string (Pl.mark (q + 2))) ∧ W'.cell? ⟨g, o + k * 5 + 3, none⟩ = some (.int .i64 ((q : Int) + 1 + 1 + 1)) ∧ W'.cell? ⟨g, o + k * 5 + 4, none⟩ = some (.int .i64 ((q : Int) + 1 + 1 + 1 + 1))) (by kernel_rfl) ?_ (fun hHeld => ?_)
   ·exact za MK _ ((Below.refl _ _).trans ⟨rfl, rfl, rfl, Nat.le_refl _, fun _ _ => rfl⟩)
   refine tka (i := 0) rfl ?_
   try simp only [Act.put, kBs]
   refine tka (i := 1) rfl ?_
   try simp only [Act.put, kBs]
   refine tka (i := 2) rfl ?_
   try simp only [Act.put, kBs]
   refine tka (i := 3) rfl ?_
   try simp only [Act.put, kBs]
   refine tka (i := 4) rfl ?_
   try simp only [Act.put, kBs]
   refine tka (i := 5) rfl ?_
   try simp only [Act.put, kBs]
   refine wpAnyH_ready (rs := [6]) (by kernel_rfl) (by simp) ?_
   refine AllReadyH.cons rfl (fun K hK => ?_) AllReadyH.nil
   go_simp
   refine (za HM _).mono ?_
   rintro e wA ⟨rfl, bX⟩
   refine hK.out _ _ ?_ (fun hHeld => ?_)
   ·exact za MK _ (hHeld.1.trans (bX.mono hHeld.1.size))
   clear hK K
   try simp only [Act.put, kBs]
   refine tka (i := 7) rfl ?_
   try simp only [Act.put, kBs]
   refine wpAnyH_done (by kernel_rfl) ?_ _
   obtain ⟨hA, -, e1, -, -, -⟩ := hHeld
   go_wp2_with fail
   refine wp_region_held_drew (S := fun W' => Below wr.heap.size wr W' ∧ W'.cell? ⟨g, o + k * 5, none⟩ = some (.string (Pl.mark q)) ∧ W'.cell? ⟨g, o + k * 5 + 1, none⟩ = some (.int .i64 ((q : Int) + 1)) ∧ W'.cell? ⟨g, o + k * 5 + 2, none⟩ = some (.string (Pl.mark (q + 2))) ∧ W'.cell? ⟨g, o + k * 5 + 3, none⟩ = some (.int .i64 ((q : Int) + 1 + 1 + 1)) ∧ W'.cell? ⟨g, o + k * 5 + 4, none⟩ = some (.int .i64 ((q : Int) + 1 + 1 + 1 + 1))) (by kernel_rfl) ?_ (fun hHeld => ?_)
   ·exact za MK _ (hA.trans ⟨rfl, rfl, rfl, Nat.le_refl _, fun _ _ => rfl⟩)
   refine tka (i := 0) rfl ?_
   try simp only [Act.put, kBs]
   refine tka (i := 1) rfl ?_
   try simp only [Act.put, kBs]
   refine tka (i := 2) rfl ?_
   try simp only [Act.put, kBs]
   refine tka (i := 3) rfl ?_
   try simp only [Act.put, kBs]
   refine tka (i := 4) rfl ?_
   try simp only [Act.put, kBs]
   refine tka (i := 5) rfl ?_
   try simp only [Act.put, kBs]
   refine wpAnyH_ready (rs := [6]) (by kernel_rfl) (by simp) ?_
   refine AllReadyH.cons rfl (fun K hK => ?_) AllReadyH.nil
   go_simp
   refine (za HM2 _).mono ?_
   rintro e wB ⟨rfl, bX⟩
   refine hK.out _ _ ?_ (fun hHeld => ?_)
   ·exact za MK _ (hHeld.1.trans (bX.mono hHeld.1.size))
   clear hK K
   try simp only [Act.put, kBs]
   refine tka (i := 7) rfl ?_
   try simp only [Act.put, kBs]
   refine wpAnyH_done (by kernel_rfl) ?_ _
   obtain ⟨hB, -, -, -, e3, e4⟩ := hHeld
   have hfin := hbel.trans (hB.mono hbel.size)
   clear MK hA hB bX HM HM2 hbel e1
   go_wp2
   go_roundw
   case rel => exact ⟨k + 1, q + 5, by omega, by have := za HQ; omega, by go_num, by go_num, hfin⟩
   case measure => simp [intOf]; omega
  ·obtain rfl : k = n := by omega
   have y1 : ¬ (k : Int) < (k : Int) := by omega
   have hq2 : (q : Int) = ((K + 5 * k : Nat) : Int) := by omega
   have HQ := hide hq2
   clear hq2 hq
   go_wp2
   go_ret
   exact ⟨by rw [za HQ]; rfl, hbel⟩
end zf7
end Go.Proofs.YtlgbdbmikmbioaaGreatDoor

set_option linter.unusedSimpArgs false
namespace Go.Proofs.YtlgbdbmikmbioaaGreatDoor
open Go.RowKit
namespace WMarkI
set_option maxRecDepth 100000 in
theorem layNil (K : Nat) (w : World) : Calls Tryz.prog 33 #[.slice none 0 0, .int .i64 (K : Int)] w fun e w' => e = .returned (.int .i64 (K : Int)) ∧ Below w.heap.size w w' := by
 go_enter Tryz.func33, Tryz.ntmps33
 go_wp2
 refine wp_loop_rounds 1 ?_
 rw [rounds_succ]
 go_wp2
 go_ret
 exact ⟨rfl, Below.refl _ _⟩
set_option maxRecDepth 100000 in
set_option maxHeartbeats 1000000 in
theorem ze9 (a : Option Addr) (cap K : Nat) (Is : List Pl.It) (w : World) (hn : Is.length ≤ 1000) (hL : ∀ x ∈ Is, x.t.L.length ≤ 1048576) (hK : 0 < K) (hK2 : ∀ i, i ≤ Is.length → Pl.kAt K Is i ≤ 100000) (hv : Mem.za5 w a (Pl.mkTo K Is Is.length)) :
  Calls Tryz.prog 52 #[.slice a Is.length cap, .int .i64 (K : Int)] w fun e w' => e = .returned (.int .i64 (Pl.kAt K Is Is.length : Int)) ∧ Below w.heap.size w w' := by
 have HV : Hid (∀ (j : Nat) x, Is[j]? = some x → (∃ b o, a = some ⟨b, o, none⟩ ∧ b < w.heap.size ∧ w.cell? ⟨b, o + j * 2, none⟩ = some (.int .i64 (Pl.kAt K Is j : Int)) ∧ w.cell? ⟨b, o + j * 2 + 1, none⟩ = some (.slice x.t.a x.t.L.length x.t.cap)) ∧ Mem.za3 w x.t.a (Pl.zj3 (Pl.kAt K Is j + 1) x.t.L.length)) := hide (fun j x hx => by
  have h := hv j (Pl.mkIt K Is j x) (by rw [Pl.zr0, hx, Option.map_some, if_pos (List.getElem?_eq_some_iff.1 hx).1])
  obtain ⟨⟨b, o, h1, h2, h3, h4⟩, h5⟩ := h
  refine ⟨⟨b, o, h1, h2, h3, ?_⟩, h5⟩
  rw [h4]
  simp [Pl.Tr.val, Pl.mkIt, Pl.zu5])
 have HL := hide hL
 have HK2 := hide hK2
 have HKG : Hid (∀ i, 0 < Pl.kAt K Is i) := hide (fun i => Nat.lt_of_lt_of_le hK (Pl.kAt_ge K Is i))
 have HKS : Hid (∀ (i : Nat) x, Is[i]? = some x → Pl.kAt K Is (i + 1) = Pl.kAt K Is i + 1 + 5 * x.t.L.length) := hide (fun i x h => Pl.kAt_succ h)
 have HK0 : Hid (Pl.kAt K Is 0 = K) := hide rfl
 generalize Pl.kAt K Is = KA at HK2 HKG HKS HV HK0 ⊢
 have hK3 := za HK2 Is.length (Nat.le_refl _)
 clear hL hK2 hv
 go_enter Tryz.func52, Tryz.ntmps52
 go_wp2
 go_loopw [1, 5] (fun q i wr => ∃ j : Nat, j ≤ Is.length ∧ i = .int .i64 (j : Int) ∧ q = .int .i64 (KA j : Int) ∧ Below w.heap.size w wr) (fun _ i _ => Is.length - (intOf i).toNat)
 case atStart => exact ⟨0, Nat.zero_le _, rfl, by rw [za HK0], Below.refl _ _⟩
 case round =>
  obtain ⟨j, hj, rfl, rfl, hbel⟩ := hrel
  by_cases hlt : j < Is.length
  ·obtain ⟨x, hx⟩ : ∃ x, Is[j]? = some x := ⟨_, List.getElem?_eq_getElem hlt⟩
   have u1 : (j : Int) < (Is.length : Int) := by omega
   have u3 : (0 : Int) ≤ (j : Int) := by omega
   have hkj := za HK2 j hj
   have hks := za HKS j x hx
   have hkk := za HKG j
   obtain ⟨⟨b, o, rfl, hb, q0, q1⟩, q2⟩ := za HV j x hx
   have c0 := (hbel.cell (p := ⟨b, _, none⟩) hb).trans q0
   have c1 := (hbel.cell (p := ⟨b, _, none⟩) hb).trans q1
   have hcall := hide (zf7.ze9 x.t.a x.t.L.length x.t.cap (KA j + 1) wr (za HL x (List.mem_of_getElem? hx)) (by omega) (by omega) (Mem.za4 q2 hbel))
   have hpos : ¬ ((KA j + 1 + 5 * x.t.L.length : Nat) : Int) < 0 := by omega
   have HKS2 := hide hks
   clear hx q0 q1 q2 hks
   simp only [Int.natCast_add, Int.cast_ofNat_Int] at hcall hpos
   go_wp2_with fail
   refine (za hcall).mono ?_
   rintro e w2 ⟨rfl, b2⟩
   have hb2 := hbel.trans (b2.mono hbel.size)
   clear hcall b2 c0 c1 hbel
   go_wp2
   go_roundw
   case rel => exact ⟨j + 1, by omega, by go_num, by rw [za HKS2]; go_num, hb2⟩
   case measure => simp [intOf]; omega
  ·have u1 : ¬ (j : Int) < (Is.length : Int) := by omega
   obtain rfl : j = Is.length := by omega
   go_wp2
   go_ret
   exact ⟨rfl, hbel⟩
end WMarkI
end Go.Proofs.YtlgbdbmikmbioaaGreatDoor

namespace Go.Proofs.YtlgbdbmikmbioaaGreatDoor
open Go.RowKit
namespace Mem
theorem Io.many {W : World} {S g cap n : Nat} {x : Pl.It} {Rs : List Pl.It} (h : Io W S (.slice (some ⟨g, 0, none⟩) n cap) (x :: Rs)) (m : Int) : Io (W.setCell ⟨g, 0, none⟩ (.int .i64 m)) S (.slice (some ⟨g, 0, none⟩) n cap) (⟨m, x.t⟩ :: Rs) := by
 obtain ⟨rfl, -⟩ := h.items
 have key : ∀ (i : Nat) y, ((⟨m, x.t⟩ : Pl.It) :: Rs)[i]? = some y → ∃ z, (x :: Rs)[i]? = some z ∧ z.t = y.t := fun i y hy => by
  cases i with
  | zero =>
   have e : (⟨m, x.t⟩ : Pl.It) = y := by simpa using hy
   subst e
   exact ⟨x, rfl, rfl⟩
  | succ i => exact ⟨y, by simpa using hy, rfl⟩
 refine ⟨?_, fun i y hy => ?_, fun i j y z hij hy hz q hq => ?_⟩
 ·have h2 := own_put h.row 0 (.int .i64 m)
  rw [Pl.cellsI_many] at h2
  exact h2
 ·obtain ⟨z, hz, e⟩ := key i y hy
  rw [← e]
  obtain ⟨h3, h4⟩ := h.each i z hz
  exact ⟨ownN_far h3 _ _ (fun q hq e2 => h4 q hq (by rw [← e2]; rfl)), h4⟩
 ·obtain ⟨y', hy', e⟩ := key i y hy
  obtain ⟨z', hz', e2⟩ := key j z hz
  rw [← e2]
  rw [← e] at hq
  exact h.apart i j y' z' hij hy' hz' q hq
end Mem
namespace Pl
end Pl
end Go.Proofs.YtlgbdbmikmbioaaGreatDoor

namespace Go.Proofs.YtlgbdbmikmbioaaGreatDoor
open Go.RowKit
namespace Mem
theorem Io.own {W : World} {S g cap n : Nat} {Is : List Pl.It} (h : Io W S (.slice (some ⟨g, 0, none⟩) n cap) Is) : OwnI W S g Is := by
 obtain ⟨hn, hi⟩ := h.items
 have shp : ∀ {x : Pl.It} {W : World} {S : Nat}, ownN W S x.t.val x.t.L → (x.t.a = none ∧ x.t.L = [] ∧ x.t.cap = 0) ∨ ∃ q cur, x.t.a = some ⟨q, 0, none⟩ ∧ S ≤ q ∧ W.heap[q]? = some (.cells cur 134 (0, 0)) ∧ x.t.L.length * 5 ≤ cur.size := fun {x W S} hx => by
  rcases hx.2 with ⟨e, h0⟩ | ⟨q, c, cur, e, hb, hq, hc, hm, hs, ht⟩
  ·have e2 : Value.slice x.t.a x.t.L.length x.t.cap = .slice none 0 0 := e
   injection e2 with e3 e4 e5
   exact .inl ⟨e3, List.eq_nil_of_length_eq_zero h0, e5⟩
  ·have e2 : Value.slice x.t.a x.t.L.length x.t.cap = .slice (some ⟨q, 0, none⟩) _ c := e
   injection e2 with e3 e4 e5
   exact .inr ⟨q, cur, e3, hb, hq, by omega⟩
 refine ⟨?_, (h.lt.1 g rfl).1, hi, fun i x hx => ?_, fun i j x y hij hx hy q hq e => ?_⟩
 ·rcases h.row.2 with ⟨e, _⟩ | ⟨q, c, cur, e, hb, hq, hc, hm, hs, ht⟩
  ·cases e
  ·cases e
   exact ⟨cur, hq, by omega⟩
 ·obtain ⟨h3, h4⟩ := h.each i x hx
  rcases shp h3 with h5 | ⟨q, cur, e1, e2, e3, e4⟩
  ·exact .inl h5
  ·exact .inr ⟨q, cur, e1, e2, fun e => h4 q (by show (Value.slice x.t.a x.t.L.length x.t.cap).ownBlock = _; rw [e1]; rfl) (by rw [e]; rfl), e3, e4⟩
 ·exact h.apart i j x y hij hx hy q (by show (Value.slice x.t.a x.t.L.length x.t.cap).ownBlock = _; rw [hq]; rfl) (by show (Value.slice y.t.a y.t.L.length y.t.cap).ownBlock = _; rw [e]; rfl)
end Mem
end Go.Proofs.YtlgbdbmikmbioaaGreatDoor

namespace Go.Proofs.YtlgbdbmikmbioaaGreatDoor
open Go.RowKit
namespace WMkB
theorem lay_one {w : World} {B g i K : Nat} {Js : List Pl.It} {x : Pl.It} (o : Mem.OwnI w B g Js) (hx : Js[i]? = some x) (hn : x.t.L.length ≤ 1048576) (hK : 0 < K) (hK2 : K ≤ 1000000) :
  Calls Tryz.prog 33 #[.slice x.t.a x.t.L.length x.t.cap, .int .i64 (K : Int)] w fun e w' => e = .returned (.int .i64 ((K + 5 * x.t.L.length : Nat) : Int)) ∧ Mem.OwnI w' B g (Js.set i ⟨x.m, ⟨x.t.a, x.t.cap, Pl.zj3 K x.t.L.length⟩⟩) ∧ (∀ G, (∀ h, x.t.a = some ⟨h, 0, none⟩ → h < G) → Mem.Band B G w w') := by
 rcases o.own i x hx with ⟨e1, e2, e3⟩ | ⟨h, c, k1, k2, k3, k4, k5⟩
 ·rw [e1, e2, e3]
  refine (WMarkI.layNil K w).mono fun e w' ⟨he, b⟩ => ⟨he, ?_, fun _ _ => Mem.Band.of_below b⟩
  have : Js.set i ⟨x.m, ⟨none, 0, Pl.zj3 K 0⟩⟩ = Js := by
   apply List.ext_getElem?
   intro j
   rw [List.getElem?_set]
   by_cases e : i = j
   ·subst e
    rw [if_pos rfl, if_pos (List.getElem?_eq_some_iff.1 hx).1, hx]
    obtain ⟨m, a, cap, L⟩ := x
    simp only at e1 e2 e3
    subst e1 e2 e3
    rfl
   ·rw [if_neg e]
  simp only [List.length_nil]
  rw [this]
  exact o.call b
 ·rw [k1]
  refine (zf7.lay_any h x.t.L.length x.t.cap K c w hn hK (Nat.le_trans hK2 (by decide)) k4 k5).mono fun e w' ⟨he, ⟨c', r1, r2⟩, hnd, gr⟩ => ⟨he, ?_, fun G hb => ?_⟩
  ·have := o.nodes hx k1 gr ⟨c', r1, by omega⟩ hnd (Pl.zu5 _ _)
   rw [k1] at this; exact this
  ·exact Mem.Band.zq7 gr k2 (hb h rfl)
set_option linter.unusedSimpArgs false in
set_option maxRecDepth 100000 in
set_option maxHeartbeats 1000000 in
theorem zc5 (B g cap K G : Nat) (Is : List Pl.It) (w : World) (hn : Is.length ≤ 1000) (hL : ∀ x ∈ Is, x.t.L.length ≤ 1048576) (hK : 0 < K) (hK2 : ∀ i, i ≤ Is.length → Pl.kAt K Is i ≤ 100000) (o : Mem.OwnI w B g Is) (hgG : g < G) (hG : ∀ x ∈ Is, ∀ h, x.t.a = some ⟨h, 0, none⟩ → h < G) :
  Calls Tryz.prog 11 #[.slice (some ⟨g, 0, none⟩) Is.length cap, .int .i64 (K : Int)] w fun e w' => e = .returned (.int .i64 (Pl.kAt K Is Is.length : Int)) ∧ Mem.OwnI w' B g (Pl.mkTo K Is Is.length) ∧ Mem.Band B G w w' := by
 have HO0 : Hid (Mem.OwnI w B g (Pl.mkTo K Is 0)) := hide (by rw [Pl.mkTo_zero]; exact o)
 have HL := hide hL
 have HG := hide hG
 have HK2 := hide hK2
 have HKG : Hid (∀ i, 0 < Pl.kAt K Is i) := hide (fun i => Nat.lt_of_lt_of_le hK (Pl.kAt_ge K Is i))
 have HKS : Hid (∀ (i : Nat) x, Is[i]? = some x → Pl.kAt K Is (i + 1) = Pl.kAt K Is i + 1 + 5 * x.t.L.length) := hide (fun i x h => Pl.kAt_succ h)
 have HMG : Hid (∀ (i : Nat) x, Is[i]? = some x → (Pl.mkTo K Is i)[i]? = some x) := hide (fun i x h => by rw [Pl.zr0, h]; simp)
 have HMS : Hid (∀ (i : Nat) x, Is[i]? = some x → ((Pl.mkTo K Is i).set i ⟨((Pl.kAt K Is i : Nat) : Int), x.t⟩).set i ⟨((Pl.kAt K Is i : Nat) : Int), ⟨x.t.a, x.t.cap, Pl.zj3 (Pl.kAt K Is i + 1) x.t.L.length⟩⟩ = Pl.mkTo K Is (i + 1)) := hide (fun i x h => by rw [List.set_set]; exact Pl.mkTo_succ K h)
 have HML : Hid (∀ i, (Pl.mkTo K Is i).length = Is.length) := hide (fun i => Pl.mkTo_len K Is i)
 have HK0 : Hid (Pl.kAt K Is 0 = K) := hide rfl
 generalize Pl.mkTo K Is = MT at HO0 HMG HMS HML ⊢
 generalize Pl.kAt K Is = KA at HK2 HKG HKS HMS HK0 ⊢
 have hK3 := za HK2 Is.length (Nat.le_refl _)
 clear hL hK2 o hG
 go_enter Tryz.func11, Tryz.ntmps11
 go_wp2
 go_loopw [1, 5] (fun q i wr => ∃ j : Nat, j ≤ Is.length ∧ i = .int .i64 (j : Int) ∧ q = .int .i64 (KA j : Int) ∧ Hid (Mem.OwnI wr B g (MT j)) ∧ Hid (Mem.Band B G w wr)) (fun _ i _ => Is.length - (intOf i).toNat)
 case atStart => exact ⟨0, Nat.zero_le _, rfl, by rw [za HK0], HO0, Mem.Band.refl _ _ _⟩
 case round =>
  obtain ⟨j, hj, rfl, rfl, HO, hbel⟩ := hrel
  clear HO0
  by_cases hlt : j < Is.length
  ·obtain ⟨x, hx⟩ : ∃ x, Is[j]? = some x := ⟨_, List.getElem?_eq_getElem hlt⟩
   have hmx := za HMG j x hx
   have u1 : (j : Int) < (Is.length : Int) := by omega
   have u3 : (0 : Int) ≤ (j : Int) := by omega
   have hkj := za HK2 j hj
   have hks := za HKS j x hx
   have hkk := za HKG j
   obtain ⟨cur, r1, r2⟩ := (za HO).row
   rw [za HML] at r2
   obtain ⟨x0, s0⟩ : ∃ x, wr.cell? ⟨g, j * 2, none⟩ = some x := ⟨_, (cell_of_row wr _ (j * 2) _ _ (0, 0) r1).trans (Array.getElem?_eq_getElem (by omega))⟩
   have f0 : wr.frozen? ⟨g, j * 2, none⟩ = false := Mem.za6 r1
   have O1 := (za HO).many hmx ((KA j : Nat) : Int)
   have hx1 : ((MT j).set j ⟨((KA j : Nat) : Int), x.t⟩)[j]? = some ⟨((KA j : Nat) : Int), x.t⟩ := by
    rw [List.getElem?_set, if_pos rfl, if_pos (by rw [za HML]; exact hlt)]
   obtain ⟨⟨b', o', e', -, -, c1⟩, -⟩ := O1.items j _ hx1
   cases e'
   simp only [Pl.Tr.val, Nat.zero_add] at c1
   have hcall := hide (lay_one (K := KA j + 1) O1 hx1 (za HL x (List.mem_of_getElem? hx)) (by omega) (by omega))
   have HST := hide (za HMS j x hx)
   have hb1 : Mem.Band B G w (wr.setCell ⟨g, j * 2, none⟩ (.int .i64 ((KA j : Nat) : Int))) := (za hbel).trans (Mem.Band.of_set _ _ (za HO).lo hgG)
   have HGX := hide (za HG x (List.mem_of_getElem? hx))
   have hs1 : (wr.setCell ⟨g, j * 2, none⟩ (.int .i64 ((KA j : Nat) : Int))).heap.size = wr.heap.size := by simp
   have HB1 := hide hb1
   have HKS2 := hide hks
   clear hx hmx r1 r2 O1 hx1 HO hbel hks hb1
   simp only [Int.natCast_add, Int.cast_ofNat_Int] at hcall
   go_wp2_with fail
   refine (za hcall).mono ?_
   rintro e w2 ⟨rfl, o2, b2⟩
   have hb2 := hide ((za HB1).trans (b2 G (za HGX)))
   rw [za HST] at o2
   have HO2 := hide o2
   clear hcall o2 b2 s0 f0 c1 HB1
   go_wp2
   go_roundw
   case rel => exact ⟨j + 1, by omega, by go_num, by rw [za HKS2]; go_num, HO2, hb2⟩
   case measure => simp [intOf]; omega
  ·have u1 : ¬ (j : Int) < (Is.length : Int) := by omega
   obtain rfl : j = Is.length := by omega
   go_wp2
   go_ret
   exact ⟨rfl, za HO, za hbel⟩
set_option maxRecDepth 100000 in
theorem mark_nil (K : Nat) (w : World) : Calls Tryz.prog 11 #[.slice none 0 0, .int .i64 (K : Int)] w fun e w' => e = .returned (.int .i64 (K : Int)) ∧ Below w.heap.size w w' := by
 go_enter Tryz.func11, Tryz.ntmps11
 go_wp2
 refine wp_loop_rounds 1 ?_
 rw [rounds_succ]
 go_wp2
 go_ret
 exact ⟨rfl, Below.refl _ _⟩
theorem mark_own (a : Option Addr) (cap K S G : Nat) (Is : List Pl.It) (w : World) (hn : Is.length ≤ 1000) (hL : ∀ x ∈ Is, x.t.L.length ≤ 1048576) (hK : 0 < K) (hK2 : ∀ i, i ≤ Is.length → Pl.kAt K Is i ≤ 100000) (h : Mem.Io w S (.slice a Is.length cap) Is) (hG : ∀ g, (Value.slice a Is.length cap).ownBlock = some g → g < G) (hG2 : ∀ x ∈ Is, ∀ g, x.t.val.ownBlock = some g → g < G) :
  Calls Tryz.prog 11 #[.slice a Is.length cap, .int .i64 (K : Int)] w fun e w' => e = .returned (.int .i64 (Pl.kAt K Is Is.length : Int)) ∧ Mem.za5 w' a (Pl.mkTo K Is Is.length) ∧ Mem.Band S G w w' := by
 rcases h.row.2 with ⟨e, h0⟩ | ⟨g, c, cur, e, _⟩
 ·have e0 : Is = [] := List.eq_nil_of_length_eq_zero h0
  subst e0
  injection e with e1 e2 e3
  subst e1 e3
  exact (mark_nil K w).mono fun _ _ ⟨he, b⟩ => ⟨he, Mem.zu1 _ _, Mem.Band.of_below b⟩
 ·injection e with e1 e2 e3
  subst e1 e3
  exact (zc5 S g cap K G Is w hn hL hK hK2 h.own (hG g rfl) (fun x hx q hq => hG2 x hx q (by show (Value.slice x.t.a x.t.L.length x.t.cap).ownBlock = _; rw [hq]; rfl))).mono fun _ _ ⟨he, o, b⟩ => ⟨he, o.items, b⟩
end WMkB
end Go.Proofs.YtlgbdbmikmbioaaGreatDoor

