/- Several texts of one claim in one file: WSpI5, Mem3, WSpI6, MemNest, MapN. -/
import Derived.Test.YtlgbdbmikmbioaaGreatDoorG10
import Derived.Test.YtlgbdbmikmbioaaGreatDoorG11
import Derived.Test.YtlgbdbmikmbioaaGreatDoorG14
import Derived.Test.YtlgbdbmikmbioaaGreatDoorG04
import Derived.Test.YtlgbdbmikmbioaaGreatDoorG05
import Derived.Laws.AppendOwnNone
import Derived.Test.YtlgbdbmikmbioaaGreatDoorG00
import Derived.Deep.RegionHeld3
import Derived.Test.YtlgbdbmikmbioaaGreatDoorProg
import Derived.Outline
import Derived.Deep.QuietTactic
import Derived.BigQuiet
import Derived.Test.YtlgbdbmikmbioaaGreatDoorG01
import Derived.Below
import Derived.Laws.AppendOwn
import Derived.Maps.OwnSet
namespace Go.Proofs.YtlgbdbmikmbioaaGreatDoor
open Go.RowKit Go.Maps
namespace MapI
theorem same_ne {a b : Int} (h : a ≠ b) : (key a).sameKey (key b) = false := by simp [key, Lit.sameKey, h]
theorem ent_in {C : List (Int × Value)} {p : Int} {c : DataW Value} (h : ∀ z, (mapOf C).atKey (key p) z = c) : p ∈ C.map (·.1) := by
 by_cases hp : p ∈ C.map (·.1)
 ·exact hp
 ·exfalso
  have h1 := (h (dat (.int .i64 0))).trans (h (dat (.int .i64 1))).symm
  rw [at_no hp, at_no hp] at h1
  have h2 := zn6 h1
  simp at h2
theorem ranges_blk {w : World} {B r n : Nat} {D : DataW Value} {left : Lit → Bool} {cnt : Nat} (h : w.ranges Tryz.prog 2 elem B r n D left cnt) {g : Nat} {cs : Array Value} {T : TypeId} (hg : w.heap[g]? = some (.cells cs T (0, 0))) : g ≠ r ∧ g ≠ B := by
 obtain ⟨es, clock, since, seen, c0, h1, _, _, _, h2, _⟩ := h
 refine ⟨fun e => ?_, fun e => ?_⟩
 ·subst e; rw [hg] at h2; cases h2
 ·subst e; rw [hg] at h1; cases h1
end MapI
namespace WSpI
set_option linter.unusedSimpArgs false in
set_option maxRecDepth 100000 in
set_option maxHeartbeats 4000000 in
theorem unused_any (q : Nat) (E : List (Int × Pl.Nv)) (n : Nat) (ma : Option Addr) (mc : Nat) (M : List Pl.Mn) (ha : Option Addr) (hc : Nat) (H : List Pl.Hn) (next : Int) (w : World) (hml : M.length ≤ 1048576) (hhl : H.length ≤ 1048576) (hm : Mem.zb4 w ma M) (hh : Mem.zc4 w ha H)
  (hE : E.Pairwise (fun a b => a.1 ≠ b.1)) (hown : w.ownsMap Tryz.prog 2 MapI.elem q n (MapI.mapOf (Pl.vals E))) :
  Calls Tryz.prog 87 #[.agg #[.map (some q), .slice ma M.length mc, .slice ha H.length hc, .int .i64 next]] w fun e w' => e = .returned (.bool (Pl.zj7 (E.map (·.1)) M H)) ∧ Below w.heap.size w w' := by
 have HH := hide (fun W (b : Below w.heap.size w W) d => ze9 q ma mc M ha hc H next d W hml hhl (Mem.zc7 hm b) (Mem.zd6 hh b))
 have HM := hide (MapI.zd0 hown ((Below.refl w.heap.size w).alloc (o := .cells #[.map (some q), .slice ma M.length mc, .slice ha H.length hc, .int .i64 next] 87) (Nat.le_refl _)))
 have b0 := (Below.refl w.heap.size w).alloc (o := .cells #[.map (some q), .slice ma M.length mc, .slice ha H.length hc, .int .i64 next] 87) (Nat.le_refl _)
 have V0 := hide (Mem.Blk.new w #[.map (some q), .slice ma M.length mc, .slice ha H.length hc, .int .i64 next] 87)
 have a0 := (za V0).cell 0
 simp only [kGs] at a0
 have HID : Hid ((Pl.vals E).map (·.1) = E.map (·.1)) := hide (Pl.vals_ids E)
 have HENT := hide (fun (p : Int) (c : DataW Value) (h : ∀ z, (MapI.mapOf (Pl.vals E)).atKey (MapI.key p) z = c) => MapI.ent_in h)
 rw [za HID] at HENT
 clear HID
 have HHAS : Hid (∀ d ∈ E.map (·.1), Maps.has (MapI.mapOf (Pl.vals E)) (MapI.key d) = true) := hide (fun d hd => by rw [(Pl.zp1 hE d).1]; exact decide_eq_true hd)
 generalize MapI.mapOf (Pl.vals E) = D at HM HENT HHAS
 generalize E.map (·.1) = ids at HENT HHAS ⊢
 have HU : Hid (Pl.zj7 ids M H = ids.all (fun d => !decide (Pl.held M H d = 0))) := rfl
 generalize Pl.zj7 ids M H = RB at HU ⊢
 clear hown hm hh hE
 have e1 : (w.alloc (.cells #[.map (some q), .slice ma M.length mc, .slice ha H.length hc, .int .i64 next] 87)).heap.size = w.heap.size + 1 := by simp
 go_enter Tryz.func87, Tryz.ntmps87
 go_wp2_with (first
  | (at_range; refine wpList_range_own _ rfl _ 85 rfl 2 79 MapI.law Tryz.underlying85 _ q n _ rfl (za HM) ?_; intro w0 hrg0 hg0 hs0)
  | go_in)
 go_frame
 rw [e1] at hrg0 hs0 ⊢
 have V1 := hide ((za V0).grown hg0 (by simp))
 have B1 := hide (b0.grown hg0 b0.size (fun j hj => by cases hj))
 clear hg0 hs0 e1 V0 b0 HM a0
 go_loopw [2] (fun v wr => ∃ (left : Lit → Bool) (cnt : Nat), wr.ranges Tryz.prog 2 MapI.elem q (w.heap.size + 1) n D left cnt ∧ Hid (∀ d ∈ ids, left (MapI.key d) = false → Pl.held M H d ≠ 0) ∧ Hid (Mem.Blk wr w.heap.size #[.map (some q), .slice ma M.length mc, .slice ha H.length hc, .int .i64 next] 87) ∧ Hid (Below w.heap.size w wr))
  (fun _ wr => wr.rangeLeft q (w.heap.size + 1))
 case atStart => exact ⟨_, _, hrg0, fun d hd h => (by rw [za HHAS d hd] at h; cases h), V1, B1⟩
 case round =>
  obtain ⟨left, cnt, hrg, HGT, V, HB⟩ := hrel
  clear hrg0 V1 B1 HHAS
  go_wp2_with (first
   | (at_next; refine wpList_next_ranges _ rfl _ rfl 2 MapI.law MapI.elem (Value.int .i64) (fun v : Value => v) (fun key kl hk => by obtain ⟨x, hx, _⟩ := Maps.keyOf_int_inv Tryz.underlying2 hk; exact ⟨x, hx⟩) (fun v y hv => ⟨v, rfl⟩) q (w.heap.size + 1) n _ _ _ rfl hrg ?_ ?_)
   | go_in)
  ·intro hc0 hl0
   have HE : Hid (RB = true) := hide (by
    rw [za HU, List.all_eq_true]
    intro d hd
    simpa using za HGT d hd (hl0 _))
   have bb := za HB
   clear HGT hrg hc0 hl0 HENT HB
   go_wp2
   go_ret
   exact ⟨by rw [za HE]; rfl, bb⟩
  ·intro x c kl yd yp w1 cnt1 hkey hlk hR hat hrg1 hlt hg1 hs1 hen
   have ek : kl = MapI.key x := by obtain ⟨x', hx, hk, _⟩ := Maps.keyOf_int_inv Tryz.underlying2 hkey; cases hx; exact hk
   subst ek
   have hin := za HENT x yd hat
   have hne := MapI.ranges_blk hrg (za V)
   have V1 := (za V).grown hg1 (fun e => hne.1 (Option.some.inj e))
   have B1 := (za HB).grown hg1 (za HB).size (fun j hj => by have := Option.some.inj hj; omega)
   have HC := hide (za HH _ B1 x)
   have a0 := V1.cell 0
   have a1 := V1.cell 1
   have a2 := V1.cell 2
   have a3 := V1.cell 3
   simp only [kGs] at a0 a1 a2 a3
   have HRG1 := hide hrg1
   have HLE := hide (hrg.left_eq)
   have HIN := hide hin
   have V2 := hide V1
   clear hat hR hkey hlk hg1 hs1 hrg1 hrg V V1 hin hne HB
   go_wp2_with fail
   refine (za HC).mono ?_
   rintro e w6 ⟨rfl, bX⟩
   have b6 := B1.trans (bX.mono B1.size)
   have V6 := hide ((za V2).call bX)
   have HR6 := hide ((za HRG1).kept (Mem.zl0 bX none) (by simp) (by simp))
   clear HC V2 bX B1 a0 a1 a2 a3 HRG1 hen
   by_cases h0 : Pl.held M H x = 0
   ·have h1 : (Pl.held M H x == 0) = true := by simpa using h0
    have HE : Hid (RB = false) := hide (by
     rw [za HU, List.all_eq_false]
     exact ⟨x, za HIN, by simp [h0]⟩)
    generalize Pl.held M H x = hx at h1 ⊢
    clear h0
    go_wp2
    go_ret
    exact ⟨by rw [za HE]; rfl, b6⟩
   ·have h1 : (Pl.held M H x == 0) = false := by simpa using h0
    have HG2 : Hid (∀ d ∈ ids, (left (MapI.key d) && !(MapI.key d).sameKey (MapI.key x)) = false → Pl.held M H d ≠ 0) := fun d hd h => by
     by_cases e : d = x
     ·subst e; exact h0
     ·rw [MapI.same_ne e] at h
      exact za HGT d hd (by simpa using h)
    generalize Pl.held M H x = hx at h1 ⊢
    clear h0 HGT
    go_wp2
    go_roundw
    case rel => exact ⟨_, cnt1, za HR6, HG2, V6, hide b6⟩
    case measure => rw [(za HR6).left_eq, za HLE]; exact hlt
end WSpI
end Go.Proofs.YtlgbdbmikmbioaaGreatDoor

namespace Go.Proofs.YtlgbdbmikmbioaaGreatDoor
open Go.RowKit
namespace Pl
def Mn.cs (n : Mn) : List Value := [.string n.p, .int .i64 n.i, .bool n.z]
def Hn.cs (n : Hn) : List Value := [.int .i64 n.d, .int .i64 n.i, .string n.p]
theorem Mn.three (n : Mn) : n.cs.length = 3 := rfl
theorem Hn.three (n : Hn) : n.cs.length = 3 := rfl
def cells3 {α : Type} (cs : α → List Value) (L : List α) : List Value := L.flatMap cs
theorem zv1 {α : Type} (cs : α → List Value) (n : α) (L : List α) : cells3 cs (n :: L) = cs n ++ cells3 cs L := by simp [cells3]
theorem zs7 {α : Type} {cs : α → List Value} (h3 : ∀ x, (cs x).length = 3) (L : List α) : (cells3 cs L).length = L.length * 3 := by
 induction L with
 | nil => rfl
 | cons n L ih => rw [zv1, List.length_append, ih, List.length_cons, h3]; omega
theorem zw2 {α : Type} {cs : α → List Value} (h3 : ∀ x, (cs x).length = 3) (L : List α) (i : Nat) (n : α) (h : L[i]? = some n) (j : Nat) (hj : j < 3) : (cells3 cs L)[i * 3 + j]? = (cs n)[j]? := by
 induction L generalizing i with
 | nil => simp at h
 | cons m L ih =>
  rw [zv1]
  match i, h with
  | 0, h =>
   simp at h; subst h
   rw [List.getElem?_append_left (by rw [h3]; omega)]
   simp
  | i + 1, h =>
   rw [List.getElem?_append_right (by rw [h3]; omega), h3, show (i + 1) * 3 + j - 3 = i * 3 + j by omega]
   exact ih i (by simpa using h)
end Pl
namespace Mem
def zp8 {α : Type} (cs : α → List Value) (w : World) (a : Option Addr) (L : List α) : Prop :=
 ∀ (i : Nat) x, L[i]? = some x → ∃ b o, a = some ⟨b, o, none⟩ ∧ b < w.heap.size ∧ ∀ j u, (cs x)[j]? = some u → w.cell? ⟨b, o + i * 3 + j, none⟩ = some u
theorem row_of_mounts {w : World} {a : Option Addr} {L : List Pl.Mn} (h : zb4 w a L) : zp8 Pl.Mn.cs w a L := fun i x hi => by
 obtain ⟨b, o, h1, h2, h3, h4, h5⟩ := h i x hi
 refine ⟨b, o, h1, h2, fun j u hj => ?_⟩
 match j, hj with
 | 0, hj => cases hj; exact h3
 | 1, hj => cases hj; exact h4
 | 2, hj => cases hj; exact h5
 | j + 3, hj => simp [Pl.Mn.cs] at hj
theorem row_of_hands {w : World} {a : Option Addr} {L : List Pl.Hn} (h : zc4 w a L) : zp8 Pl.Hn.cs w a L := fun i x hi => by
 obtain ⟨b, o, h1, h2, h3, h4, h5⟩ := h i x hi
 refine ⟨b, o, h1, h2, fun j u hj => ?_⟩
 match j, hj with
 | 0, hj => cases hj; exact h3
 | 1, hj => cases hj; exact h4
 | 2, hj => cases hj; exact h5
 | j + 3, hj => simp [Pl.Hn.cs] at hj
theorem mounts_of_row {w : World} {a : Option Addr} {L : List Pl.Mn} (h : zp8 Pl.Mn.cs w a L) : zb4 w a L := fun i x hi => by
 obtain ⟨b, o, h1, h2, h3⟩ := h i x hi
 exact ⟨b, o, h1, h2, h3 0 _ rfl, h3 1 _ rfl, h3 2 _ rfl⟩
theorem hands_of_row {w : World} {a : Option Addr} {L : List Pl.Hn} (h : zp8 Pl.Hn.cs w a L) : zc4 w a L := fun i x hi => by
 obtain ⟨b, o, h1, h2, h3⟩ := h i x hi
 exact ⟨b, o, h1, h2, h3 0 _ rfl, h3 1 _ rfl, h3 2 _ rfl⟩
theorem cells3_at {α : Type} {cs : α → List Value} (h3 : ∀ x, (cs x).length = 3) {w : World} {g o : Nat} {M : List α} (h : zp8 cs w (some ⟨g, o, none⟩) M) : ∀ j u, (Pl.cells3 cs M)[j]? = some u → w.cell? ((⟨g, o, none⟩ : Addr).add j) = some u := by
 intro j u hj
 have hlt : j < M.length * 3 := by
  have := (List.getElem?_eq_some_iff.1 hj).1
  rwa [Pl.zs7 h3] at this
 have hd : j / 3 < M.length := by omega
 have hx : M[j / 3]? = some M[j / 3] := List.getElem?_eq_getElem hd
 obtain ⟨b, o', e, h2, h4⟩ := h (j / 3) _ hx
 cases e
 have h5 := Pl.zw2 h3 M (j / 3) _ hx (j % 3) (by omega)
 rw [show j / 3 * 3 + j % 3 = j by omega, hj] at h5
 have h6 := h4 (j % 3) u h5.symm
 rw [show o + j / 3 * 3 + j % 3 = o + j by omega] at h6
 rw [Mem.zn8]
 exact h6
theorem cs3_one {α : Type} {cs : α → List Value} (h1 : ∀ x, ∀ u ∈ cs x, u.oneCell' = true) (M : List α) : ∀ u ∈ Pl.cells3 cs M, u.oneCell' = true := by
 intro u hu
 rw [Pl.cells3, List.mem_flatMap] at hu
 obtain ⟨x, -, h⟩ := hu
 exact h1 x u h
theorem mn_one (n : Pl.Mn) : ∀ u ∈ n.cs, u.oneCell' = true := by
 intro u hu
 simp only [Pl.Mn.cs, List.mem_cons, List.not_mem_nil, or_false] at hu
 rcases hu with rfl | rfl | rfl <;> rfl
theorem hn_one (n : Pl.Hn) : ∀ u ∈ n.cs, u.oneCell' = true := by
 intro u hu
 simp only [Pl.Hn.cs, List.mem_cons, List.not_mem_nil, or_false] at hu
 rcases hu with rfl | rfl | rfl <;> rfl
def own3 {α : Type} (T : TypeId) (cs : α → List Value) (w : World) (B : Nat) (v : Value) (L : List α) : Prop := w.ownsRow B T 3 v L.length (Pl.cells3 cs L)
theorem own3_nil {α : Type} (T : TypeId) (cs : α → List Value) (w : World) (B : Nat) : own3 T cs w B (.slice none 0 0) [] := ⟨rfl, .inl ⟨rfl, rfl⟩⟩
theorem own3_is {α : Type} {T : TypeId} {cs : α → List Value} (h3 : ∀ x, (cs x).length = 3) {w : World} {B : Nat} {v : Value} {L : List α} (h : own3 T cs w B v L) : ∃ a cap, v = .slice a L.length cap ∧ zp8 cs w a L ∧ L.length ≤ cap ∧ ((a = none ∧ cap = 0 ∧ L = []) ∨ ∃ g, a = some ⟨g, 0, none⟩ ∧ B ≤ g ∧ g < w.heap.size) := by
 rcases h.2 with ⟨rfl, h0⟩ | ⟨g, cap, cur, rfl, hb, hg, hc, hm, hsz, ht⟩
 ·have e := List.length_eq_zero_iff.1 h0
  exact ⟨none, 0, by rw [h0], fun i n hi => by rw [e] at hi; simp at hi, by omega, .inl ⟨rfl, rfl, e⟩⟩
 ·have hgl := (Array.getElem?_eq_some_iff.1 hg).1
  refine ⟨some ⟨g, 0, none⟩, cap, rfl, fun i n hi => ?_, by omega, .inr ⟨g, rfl, hb, hgl⟩⟩
  have hlt : i < L.length := (List.getElem?_eq_some_iff.1 hi).1
  refine ⟨g, 0, rfl, hgl, fun j u hj => ?_⟩
  have hj3 : j < 3 := by have := (List.getElem?_eq_some_iff.1 hj).1; rwa [h3] at this
  rw [cell_of_row w g _ cur _ (0, 0) hg, Nat.zero_add, ← hj, ← Pl.zw2 h3 L i n hi j hj3, ← ht, List.getElem?_take_of_lt (by omega), Array.getElem?_toList]
theorem zk {α : Type} {T : TypeId} {cs : α → List Value} {w w' : World} {B : Nat} {v : Value} {L : List α} (h : own3 T cs w B v L) (b : Below w.heap.size w w') : own3 T cs w' B v L :=
 World.ownsRow.kept h (zl0 b none) (Classical.em _)
theorem own3_mono {α : Type} {T : TypeId} {cs : α → List Value} {w : World} {B B' : Nat} {v : Value} {L : List α} (h : own3 T cs w B v L) (hb : B' ≤ B) : own3 T cs w B' v L := own_mono h hb
end Mem
end Go.Proofs.YtlgbdbmikmbioaaGreatDoor

set_option linter.unusedSimpArgs false
namespace Go.Proofs.YtlgbdbmikmbioaaGreatDoor
open Go.RowKit
namespace WSpI
theorem infoMn : (Tryz.prog.info? 66).map (fun i => (i.zero, i.size, i.bytes)) = some (some (.agg #[.string ⟨#[]⟩, .int .i64 0, .bool false]), 3, 32) := by kernel_rfl
set_option maxRecDepth 100000 in
set_option maxHeartbeats 1000000 in
theorem cloneMn_any (a : Option Addr) (cap : Nat) (M : List Pl.Mn) (w : World) (hl : M.length ≤ 1000) (hA : (a = none ∧ cap = 0 ∧ M = []) ∨ ∃ g o, a = some ⟨g, o, none⟩) (hv : Mem.zb4 w a M) :
  Calls Tryz.prog 83 #[.slice a M.length cap] w fun e w' => (∃ v, e = .returned v ∧ Mem.own3 66 Pl.Mn.cs w' w.heap.size v M) ∧ Below w.heap.size w w' := by
 obtain ⟨i0, hi, hz0, hz1, hz2⟩ := info_parts infoMn
 rcases hA with ⟨rfl, rfl, rfl⟩ | ⟨g, o, rfl⟩
 ·have heq : (binOp BinOp.eql 25 (.slice none 0 0) (.slice none 0 0)).run Tryz.prog w = .ok (.bool true) w := by kernel_rfl
  have O := hide (Mem.own3_nil 66 Pl.Mn.cs w w.heap.size)
  go_enter Tryz.func83, Tryz.ntmps83
  go_wp2
  go_ret
  exact ⟨⟨_, rfl, za O⟩, Below.refl _ _⟩
 ·have heq : (binOp BinOp.eql 25 (.slice (some ⟨g, o, none⟩) M.length cap) (.slice none 0 0)).run Tryz.prog w = .ok (.bool false) w := by kernel_rfl
  have b2 : Below w.heap.size w (w.alloc (.cells #[] 66)) := (Below.refl _ _).alloc (Nat.le_refl _) _
  have OA : Hid (Mem.own3 66 Pl.Mn.cs (w.alloc (.cells #[] 66)) w.heap.size (.slice (some ⟨w.heap.size, 0, none⟩) 0 0) []) :=
   ⟨rfl, .inr ⟨w.heap.size, 0, #[], rfl, Nat.le_refl _, heap_alloc_new _ _, Nat.le_refl _, Nat.zero_le _, rfl, rfl⟩⟩
  have NV := hide (Mem.row_of_mounts (Mem.zc7 hv b2))
  go_enter Tryz.func83, Tryz.ntmps83
  go_wp2_with (at_builtin; refine wpList_append_own _ rfl _ _ 25 rfl w.heap.size 66 i0 _ 3 32 Tryz.underlying25 hi hz0 hz1 hz2 rfl (by decide) _ _ _ rfl (za OA) ⟨g, o, none⟩ M.length cap (Pl.cells3 Pl.Mn.cs M) rfl (by rw [Pl.zs7 Pl.Mn.three]) (Mem.cells3_at Pl.Mn.three (za NV)) (Mem.cs3_one Mem.mn_one M) (by rw [List.length_nil, Nat.zero_add]; unfold maxLen; omega) (by rw [List.length_nil, Nat.zero_add]; omega) (by simp) ?_)
  intro v1 wA ownA growA _
  have OB : Hid (Mem.own3 66 Pl.Mn.cs wA w.heap.size v1 M) := hide (show wA.ownsRow _ _ 3 v1 M.length (Pl.cells3 Pl.Mn.cs M) from ownA)
  have b3 := b2.grown growA b2.size (fun q hq => by have h : w.heap.size = q := Option.some.inj hq; omega)
  clear ownA growA OA NV hv
  go_wp2
  go_ret
  exact ⟨⟨_, rfl, za OB⟩, b3⟩
theorem infoHn : (Tryz.prog.info? 130).map (fun i => (i.zero, i.size, i.bytes)) = some (some (.agg #[.int .i64 0, .int .i64 0, .string ⟨#[]⟩]), 3, 32) := by kernel_rfl
set_option maxRecDepth 100000 in
set_option maxHeartbeats 1000000 in
theorem cloneHn_any (a : Option Addr) (cap : Nat) (M : List Pl.Hn) (w : World) (hl : M.length ≤ 1000) (hA : (a = none ∧ cap = 0 ∧ M = []) ∨ ∃ g o, a = some ⟨g, o, none⟩) (hv : Mem.zc4 w a M) :
  Calls Tryz.prog 84 #[.slice a M.length cap] w fun e w' => (∃ v, e = .returned v ∧ Mem.own3 130 Pl.Hn.cs w' w.heap.size v M) ∧ Below w.heap.size w w' := by
 obtain ⟨i0, hi, hz0, hz1, hz2⟩ := info_parts infoHn
 rcases hA with ⟨rfl, rfl, rfl⟩ | ⟨g, o, rfl⟩
 ·have heq : (binOp BinOp.eql 26 (.slice none 0 0) (.slice none 0 0)).run Tryz.prog w = .ok (.bool true) w := by kernel_rfl
  have O := hide (Mem.own3_nil 130 Pl.Hn.cs w w.heap.size)
  go_enter Tryz.func84, Tryz.ntmps84
  go_wp2
  go_ret
  exact ⟨⟨_, rfl, za O⟩, Below.refl _ _⟩
 ·have heq : (binOp BinOp.eql 26 (.slice (some ⟨g, o, none⟩) M.length cap) (.slice none 0 0)).run Tryz.prog w = .ok (.bool false) w := by kernel_rfl
  have b2 : Below w.heap.size w (w.alloc (.cells #[] 130)) := (Below.refl _ _).alloc (Nat.le_refl _) _
  have OA : Hid (Mem.own3 130 Pl.Hn.cs (w.alloc (.cells #[] 130)) w.heap.size (.slice (some ⟨w.heap.size, 0, none⟩) 0 0) []) :=
   ⟨rfl, .inr ⟨w.heap.size, 0, #[], rfl, Nat.le_refl _, heap_alloc_new _ _, Nat.le_refl _, Nat.zero_le _, rfl, rfl⟩⟩
  have NV := hide (Mem.row_of_hands (Mem.zd6 hv b2))
  go_enter Tryz.func84, Tryz.ntmps84
  go_wp2_with (at_builtin; refine wpList_append_own _ rfl _ _ 26 rfl w.heap.size 130 i0 _ 3 32 Tryz.underlying26 hi hz0 hz1 hz2 rfl (by decide) _ _ _ rfl (za OA) ⟨g, o, none⟩ M.length cap (Pl.cells3 Pl.Hn.cs M) rfl (by rw [Pl.zs7 Pl.Hn.three]) (Mem.cells3_at Pl.Hn.three (za NV)) (Mem.cs3_one Mem.hn_one M) (by rw [List.length_nil, Nat.zero_add]; unfold maxLen; omega) (by rw [List.length_nil, Nat.zero_add]; omega) (by simp) ?_)
  intro v1 wA ownA growA _
  have OB : Hid (Mem.own3 130 Pl.Hn.cs wA w.heap.size v1 M) := hide (show wA.ownsRow _ _ 3 v1 M.length (Pl.cells3 Pl.Hn.cs M) from ownA)
  have b3 := b2.grown growA b2.size (fun q hq => by have h : w.heap.size = q := Option.some.inj hq; omega)
  clear ownA growA OA NV hv
  go_wp2
  go_ret
  exact ⟨⟨_, rfl, za OB⟩, b3⟩
end WSpI
end Go.Proofs.YtlgbdbmikmbioaaGreatDoor

namespace Go.Proofs.YtlgbdbmikmbioaaGreatDoor
open Go.RowKit
namespace Mem
def rowF (w : World) (N : Nat → Prop) : Pl.Fo → Nat → Nat → Prop
 | .nil, _, _ => True
 | .cons k m, b, i => (∃ x y a cap, w.cell? ⟨b, i, none⟩ = some x ∧ w.cell? ⟨b, i + 1, none⟩ = some y ∧ w.cell? ⟨b, i + 2, none⟩ = some (.slice a k.len cap) ∧ b < w.heap.size ∧ N b ∧
   (∃ q, x = .map q) ∧ (∃ q, y = .int .i64 q) ∧ (k = .nil ∨ ∃ b', a = some ⟨b', 0, none⟩ ∧ rowF w N k b' 0)) ∧ rowF w N m b (i + 3)
def lay (w : World) (N : Nat → Prop) (k : Pl.Fo) (v : Value) : Prop := ∃ a cap, v = .slice a k.len cap ∧ (k = .nil ∨ ∃ b', a = some ⟨b', 0, none⟩ ∧ rowF w N k b' 0)
theorem rowF_mono {w w' : World} {N N' : Nat → Prop} (h : ∀ b, N b → b < w.heap.size → N' b ∧ b < w'.heap.size ∧ w'.heap[b]? = w.heap[b]?) (F : Pl.Fo) : ∀ b i, rowF w N F b i → rowF w' N' F b i := by
 induction F with
 | nil => intro b i _; trivial
 | cons k m ihk ihm =>
  intro b i hr
  obtain ⟨⟨x, y, a, cap, h1, h2, h3, h4, h5, hx, hy, h6⟩, h7⟩ := hr
  obtain ⟨g1, g2, g3⟩ := h b h5 h4
  have c : ∀ j, w'.cell? ⟨b, j, none⟩ = w.cell? ⟨b, j, none⟩ := fun j => World.cell?_of_block g3
  refine ⟨⟨x, y, a, cap, (c _).trans h1, (c _).trans h2, (c _).trans h3, g2, g1, hx, hy, ?_⟩, ihm _ _ h7⟩
  rcases h6 with h6 | ⟨b', h6, h8⟩
  ·exact .inl h6
  ·exact .inr ⟨b', h6, ihk _ _ h8⟩
theorem lay_mono {w w' : World} {N N' : Nat → Prop} (h : ∀ b, N b → b < w.heap.size → N' b ∧ b < w'.heap.size ∧ w'.heap[b]? = w.heap[b]?) {k : Pl.Fo} {v : Value} (hl : lay w N k v) : lay w' N' k v := by
 obtain ⟨a, cap, h1, h2⟩ := hl
 refine ⟨a, cap, h1, ?_⟩
 rcases h2 with h2 | ⟨b', h2, h3⟩
 ·exact .inl h2
 ·exact .inr ⟨b', h2, rowF_mono h _ _ _ h3⟩
theorem lay_call {w w' : World} {N : Nat → Prop} {k : Pl.Fo} {v : Value} (h : lay w N k v) (b : Below w.heap.size w w') : lay w' N k v := lay_mono (fun g hg hl => ⟨hg, Nat.lt_of_lt_of_le hl b.size, b.block g hl⟩) h
end Mem
end Go.Proofs.YtlgbdbmikmbioaaGreatDoor

namespace Go.Proofs.YtlgbdbmikmbioaaGreatDoor
open Go.RowKit Go.Maps
namespace MapN
def key (p : ByteArray) : Lit := .string p.data.toList
def dat (n : Pl.Nd) : DataW Unit := .agg [.lit (.string n.path.data.toList), .lit (.int .i64 n.kind), .lit (.string n.data.data.toList), .lit (.int .i64 n.time), .lit (.int .i64 n.mark)]
theorem zn6 {a b : Pl.Nd} (h : dat a = dat b) : a = b := by
 obtain ⟨p, k, d, t, m⟩ := a
 obtain ⟨p', k', d', t', m'⟩ := b
 simp only [dat, DataW.agg.injEq, List.cons.injEq, DataW.lit.injEq, Lit.string.injEq, Lit.int.injEq, and_true, true_and] at h
 obtain ⟨h1, h2, h3, h4, h5⟩ := h
 have e1 : p = p' := Pl.zf2 h1
 have e2 : d = d' := Pl.zf2 h3
 subst e1 e2 h2 h4 h5
 rfl
def elem : Value → Option (DataW Unit × List MemPlace)
 | .agg cs => match cs.toList with
  | [.string p, .int .i64 k, .string d, .int .i64 t, .int .i64 m] => some (dat ⟨p, k, d, t, m⟩, [])
  | _ => none
 | _ => none
theorem zn7 (n : Pl.Nd) : elem n.val = some (dat n, []) := rfl
theorem elem_inv {v : Value} {d : DataW Unit} {ps : List MemPlace} (h : elem v = some (d, ps)) : ∃ n : Pl.Nd, v = n.val ∧ d = dat n := by
 unfold elem at h
 split at h
 ·rename_i cs
  split at h
  ·rename_i p k d' t m hcs
   simp only [Option.some.injEq, Prod.mk.injEq] at h
   refine ⟨⟨p, k, d', t, m⟩, ?_, h.1.symm⟩
   rw [Pl.Nd.val, show cs = cs.toList.toArray by simp, hcs]
  ·cases h
 ·cases h
def mapOf (C : List Pl.Nd) : DataW Unit := C.foldl (fun D n => D.put (key n.path) (dat n)) (.map [])
theorem zr2 (C : List Pl.Nd) (n : Pl.Nd) : mapOf (C ++ [n]) = (mapOf C).put (key n.path) (dat n) := by simp [mapOf, List.foldl_append]
theorem key_is (p : ByteArray) : WideAt.IsKeyLit (key p) := by simp [key, WideAt.IsKeyLit]
theorem key_ne {a b : ByteArray} (h : a ≠ b) : key a ≠ key b := fun e => h (Pl.zf2 (Lit.string.inj e))
theorem zr3 : ∀ (C : List Pl.Nd) (D : DataW Unit), IsMap D → IsMap (C.foldl (fun D n => D.put (key n.path) (dat n)) D) := by
 intro C
 induction C with
 | nil => intro D h; exact h
 | cons n C ih => intro D h; exact ih _ (h.put _ _)
theorem zi9 (C : List Pl.Nd) : IsMap (mapOf C) := zr3 C _ isMap_empty
theorem zg8 (p : ByteArray) : ∀ (C : List Pl.Nd) (D : DataW Unit), (∀ n ∈ C, n.path ≠ p) → Maps.has (C.foldl (fun D n => D.put (key n.path) (dat n)) D) (key p) = Maps.has D (key p) ∧ ∀ z, (C.foldl (fun D n => D.put (key n.path) (dat n)) D).atKey (key p) z = D.atKey (key p) z := by
 intro C
 induction C with
 | nil => intro D _; exact ⟨rfl, fun _ => rfl⟩
 | cons n C ih =>
  intro D h
  have h1 : key p ≠ key n.path := key_ne (fun e => h n List.mem_cons_self e.symm)
  obtain ⟨i1, i2⟩ := ih (D.put (key n.path) (dat n)) (fun m hm => h m (List.mem_cons_of_mem _ hm))
  refine ⟨?_, fun z => ?_⟩
  ·show Maps.has (C.foldl _ (D.put (key n.path) (dat n))) (key p) = _
   rw [i1, has_put_other h1]
  ·show (C.foldl _ (D.put (key n.path) (dat n))).atKey (key p) z = _
   rw [i2, atKey_put_other h1]
theorem has_no {C : List Pl.Nd} {p : ByteArray} (h : ∀ n ∈ C, n.path ≠ p) : Maps.has (mapOf C) (key p) = false := by
 rw [mapOf, (zg8 p C _ h).1]; rfl
theorem at_yes {C : List Pl.Nd} {n : Pl.Nd} (hC : C.Pairwise (fun a b => a.path ≠ b.path)) (hn : n ∈ C) : Maps.has (mapOf C) (key n.path) = true ∧ ∀ z, (mapOf C).atKey (key n.path) z = dat n := by
 obtain ⟨A, B, rfl⟩ := List.append_of_mem hn
 rw [List.pairwise_append] at hC
 have h2 := (List.pairwise_cons.1 hC.2.1).1
 have e : mapOf (A ++ n :: B) = B.foldl (fun D n => D.put (key n.path) (dat n)) ((mapOf A).put (key n.path) (dat n)) := by simp [mapOf, List.foldl_append]
 obtain ⟨i1, i2⟩ := zg8 n.path B ((mapOf A).put (key n.path) (dat n)) (fun m hm e => h2 m hm e.symm)
 rw [e]
 exact ⟨by rw [i1, has_put_same (zi9 A) (key_is _)], fun z => by rw [i2, atKey_put_same (zi9 A) (key_is _)]⟩
theorem law : Keyed Tryz.prog 9 := string_keyed Tryz.underlying9
theorem zeroN (w : World) : (zeroValue 134).run Tryz.prog w = .ok (Pl.Nd.val ⟨⟨#[]⟩, 0, ⟨#[]⟩, 0, 0⟩) w := by kernel_rfl
theorem zj6 {p : ByteArray} (h : p.size ≤ maxLen) : keyOf Tryz.prog 9 (.string p) = some (key p) := WideMaps.keyOf_string_mk Tryz.underlying9 h
end MapN
end Go.Proofs.YtlgbdbmikmbioaaGreatDoor

