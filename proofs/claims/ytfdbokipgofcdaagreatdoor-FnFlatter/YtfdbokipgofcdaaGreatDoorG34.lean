/- Several texts of one claim in one file: PlainFx, PlainNestX, PlainFlat, PlainFlatN, PlainEnds, PlainNames, PlainTreeI, PlainLaw, PlainKid, PlainSight, PlainPick, PlainAsk, PlainSeen, PlainIns, PlainNamesK, PlainPlQ, PlainOne, PlainParts. -/
import Derived.Test.YtfdbokipgofcdaaGreatDoorG01
import Derived.Test.YtfdbokipgofcdaaGreatDoorG00
import Derived.Below
import Derived.Deep.RegionHeld3
import Derived.Test.YtfdbokipgofcdaaGreatDoorProg
import Derived.WalkSpells
import Derived.Lib.OthersKept
import Derived.Laws.RangeAny
import Derived.Deep.Draws
import Derived.Deep.QuietTactic
import Derived.BigQuiet
import Derived.RangeFuncNested
import Derived.RangeFuncBound
import Derived.RangeFuncCalls
import Derived.RangeFuncLeaves
import Derived.Shelf.Abstract
import Derived.Shelf.RegionOpen
import Derived.OwnWalkIn
import Derived.TacticsInMore
import Derived.LoopNIn
import Derived.LoopIn
import Derived.Laws.AppendOwn
import Derived.Maps.OwnSet
import Derived.Laws.EntriesVeiled
import Derived.Laws.BitsAllLaws
import Derived.WalkKit
import Derived.Calls
import Derived.Lone
import Derived.RunT
import Derived.Shelf.SlSortCmp.NoneTotal
import Derived.Lib.QuietBelow
import Derived.Maps.RangeWalk
import Derived.Sort.MapsRangeIn
namespace Go.Proofs.YtfdbokipgofcdaaGreatDoor
namespace Pl
inductive Fx where
 | nil : Fx
 | cons (L : List Nd) (kids more : Fx) : Fx
namespace Fx
def shape : Fx → Fo
 | .nil => .nil
 | .cons _ k m => .cons k.shape m.shape
def len : Fx → Nat
 | .nil => 0
 | .cons _ _ m => m.len + 1
def sz : Fx → Nat
 | .nil => 0
 | .cons _ k m => k.sz + m.sz + 1
def flat : Fx → List (Int × List Nd)
 | .nil => []
 | .cons L k m => ((k.len : Int), L) :: (k.flat ++ m.flat)
def app : Fx → Fx → Fx
 | .nil, r => r
 | .cons L k m, r => .cons L k (m.app r)
def okX : Fx → Prop
 | .nil => True
 | .cons L k m => za2 L = true ∧ (k = .nil ∨ L = []) ∧ k.len ≤ 4 ∧ k.okX ∧ m.okX
theorem zt7 (X : Fx) : X.shape.len = X.len := by
 induction X with
 | nil => rfl
 | cons L k m _ ih => rw [shape, Fo.len, len, ih]
theorem zk6 (X : Fx) : X.flat.length = X.sz := by
 induction X with
 | nil => rfl
 | cons L k m ih1 ih2 => rw [flat, List.length_cons, List.length_append, ih1, ih2, sz]
theorem yc5 (a b : Fx) : (a.app b).shape = a.shape.app b.shape := by
 induction a with
 | nil => rfl
 | cons L k m _ ih => rw [app, shape, shape, ih]; rfl
theorem zh9 (a b : Fx) : (a.app b).len = a.len + b.len := by
 induction a with
 | nil => simp [app, len]
 | cons L k m _ ih => rw [app, len, len, ih]; omega
theorem zz9 (a b : Fx) : (a.app b).flat = a.flat ++ b.flat := by
 induction a with
 | nil => rfl
 | cons L k m _ ih => rw [app, flat, flat, ih]; simp
theorem ok_app {a b : Fx} (ha : a.okX) (hb : b.okX) : (a.app b).okX := by
 induction a with
 | nil => exact hb
 | cons L k m _ ih => exact ⟨ha.1, ha.2.1, ha.2.2.1, ha.2.2.2.1, ih ha.2.2.2.2⟩
theorem shape_nil {X : Fx} (h : X.shape = .nil) : X = .nil := by
 cases X with
 | nil => rfl
 | cons L k m => cases h
theorem ym9 {X : Fx} (h : X.len = 0) : X = .nil := by
 cases X with
 | nil => rfl
 | cons L k m => simp [len] at h
theorem len_le (X : Fx) : X.len ≤ X.sz := by
 induction X with
 | nil => exact Nat.le_refl _
 | cons L k m _ ih => rw [len, sz]; omega
theorem ok_mem {X : Fx} (h : X.okX) : ∀ x ∈ X.flat, za2 x.2 = true ∧ 0 ≤ x.1 ∧ x.1 ≤ 4 := by
 induction X with
 | nil => intro x hx; cases hx
 | cons L k m ih1 ih2 =>
  intro x hx
  rw [flat, List.mem_cons, List.mem_append] at hx
  rcases hx with rfl | hx | hx
  ·exact ⟨h.1, by omega, by have := h.2.2.1; omega⟩
  ·exact ih1 h.2.2.2.1 x hx
  ·exact ih2 h.2.2.2.2 x hx
end Fx
end Pl
end Go.Proofs.YtfdbokipgofcdaaGreatDoor

namespace Go.Proofs.YtfdbokipgofcdaaGreatDoor
namespace Pl
def fill : Fo → List (Int × List Nd) → Fx × List (Int × List Nd)
 | .nil, xs => (.nil, xs)
 | .cons _ _, [] => (.nil, [])
 | .cons k m, x :: xs => (.cons x.2 (fill k xs).1 (fill m (fill k xs).2).1, (fill m (fill k xs).2).2)
theorem fill_flat (X : Fx) : ∀ R, fill X.shape (X.flat ++ R) = (X, R) := by
 induction X with
 | nil => intro R; rfl
 | cons L k m ih1 ih2 =>
  intro R
  rw [Fx.shape, Fx.flat, List.cons_append, fill, List.append_assoc, ih1, ih2]
def zn8 (xs : List (Int × List Nd)) : Option (List Nd × Fx) := match nest (rowO xs) with
 | none => none
 | some k => match (fill (.cons k .nil) xs).1 with
  | .cons L K _ => some (L, K)
  | .nil => none
theorem zv4 {xs : List (Int × List Nd)} (h : nest (rowO xs) = none) : zn8 xs = none := by unfold zn8; rw [h]
theorem zu8 {xs : List (Int × List Nd)} {L : List Nd} {k : Fx} (h : nest (rowO xs) = some k.shape) (hf : (Fx.cons L k .nil).flat = xs) : zn8 xs = some (L, k) := by
 unfold zn8
 rw [h]
 have := fill_flat (Fx.cons L k .nil) []
 rw [List.append_nil, hf] at this
 have e2 : fill (Fo.cons k.shape .nil) xs = (Fx.cons L k .nil, []) := this
 simp only [e2]
theorem parse_fill (f : Nat) : ∀ k (xs : List (Int × List Nd)) F R, parse f k (rowO xs) = some (F, R) → ∃ X rest, Fx.shape X = F ∧ R = rowO rest ∧ xs = X.flat ++ rest ∧ X.okX := by
 induction f with
 | zero =>
  intro k xs F R h
  cases k with
  | zero => simp [parse] at h; obtain ⟨rfl, rfl⟩ := h; exact ⟨.nil, xs, rfl, rfl, rfl, trivial⟩
  | succ k => simp [parse] at h
 | succ f ih =>
  intro k xs F R h
  cases k with
  | zero => simp [parse] at h; obtain ⟨rfl, rfl⟩ := h; exact ⟨.nil, xs, rfl, rfl, rfl, trivial⟩
  | succ k =>
   cases xs with
   | nil => simp [rowO, parse] at h
   | cons x xs =>
    have e : rowO (x :: xs) = zi x :: rowO xs := rfl
    rw [e] at h
    cases hx : zi x with
    | none => rw [hx] at h; simp [parse] at h
    | some m =>
     rw [hx] at h
     simp only [parse] at h
     split at h
     ·cases h
     ·rename_i kids R1 h1
      split at h
      ·cases h
      ·rename_i more R2 h2
       cases h
       obtain ⟨K, r1, e1, e2, e3, o1⟩ := ih _ _ _ _ h1
       rw [e2] at h2
       obtain ⟨M, r2, e4, e5, e6, o2⟩ := ih _ _ _ _ h2
       have hm := zv1 hx
       have hl : K.len = m := by rw [← Fx.zt7, e1]; exact (zx2 _ _ _ _ _ h1).1
       have hb : zf9 x.1 x.2 = true := by
        unfold zi at hx
        split at hx
        ·assumption
        ·cases hx
       have hb2 : za2 x.2 = true ∧ (x.1 = 0 ∨ x.2 = []) := by
        unfold zf9 at hb
        simp only [Bool.and_eq_true, Bool.or_eq_true, decide_eq_true_eq, List.isEmpty_iff] at hb
        exact ⟨hb.2, hb.1.2⟩
       refine ⟨.cons x.2 K M, r2, by rw [Fx.shape, e1, e4], e5, ?_, hb2.1, ?_, by omega, o1, o2⟩
       ·rw [Fx.flat, hl, ← hm.1, List.cons_append, List.append_assoc, ← e6, ← e3]
       ·rcases hb2.2 with h0 | h0
        ·exact .inl (Fx.ym9 (by omega))
        ·exact .inr h0
theorem zy2 {xs : List (Int × List Nd)} {F : Fo} (h : nest (rowO xs) = some F) : ∃ L k, Fx.shape k = F ∧ (Fx.cons L k .nil).flat = xs ∧ (Fx.cons L k .nil).okX ∧ zn8 xs = some (L, k) := by
 obtain ⟨-, h2, -⟩ := zl5 h
 obtain ⟨X, rest, e1, e2, e3, o⟩ := parse_fill _ _ _ _ _ h2
 have hr : rest = [] := by
  cases rest with
  | nil => rfl
  | cons a b => simp [rowO] at e2
 subst hr
 rw [List.append_nil] at e3
 cases X with
 | nil => cases e1
 | cons L k m =>
  rw [Fx.shape] at e1
  simp only [Fo.cons.injEq] at e1
  have hm := Fx.shape_nil e1.2
  subst hm
  refine ⟨L, k, e1.1, e3.symm, o, zu8 (by rw [e1.1]; exact h) e3.symm⟩
theorem zj3 {xs : List (Int × List Nd)} {F : Fo} (h : nest (rowO xs) = some F) : xs.length ≤ 12 := by
 have := (zl5 h).1
 rw [zi5] at this
 exact this
end Pl
end Go.Proofs.YtfdbokipgofcdaaGreatDoor

namespace Go.Proofs.YtfdbokipgofcdaaGreatDoor
namespace Pl
namespace Fx
def zb7 : Fx → Fx × List Nd × Fx
 | .nil => (.nil, [], .nil)
 | .cons L k m => if m.len = 0 then (.nil, L, k) else (.cons L k m.zb7.1, m.zb7.2)
theorem yb9 (X : Fx) : X.len ≠ 0 → X = X.zb7.1.app (.cons X.zb7.2.1 X.zb7.2.2 .nil) ∧ X.zb7.1.len + 1 = X.len := by
 induction X with
 | nil => intro h; exact absurd rfl h
 | cons L k m _ ih =>
  intro _
  by_cases hm : m.len = 0
  ·have e := ym9 hm
   subst e
   exact ⟨rfl, rfl⟩
  ·obtain ⟨h1, h2⟩ := ih hm
   rw [zb7, if_neg hm]
   refine ⟨?_, ?_⟩
   ·show Fx.cons L k m = Fx.cons L k (m.zb7.1.app (.cons m.zb7.2.1 m.zb7.2.2 .nil))
    rw [← h1]
   ·show m.zb7.1.len + 1 + 1 = m.len + 1
    rw [h2]
theorem zw8 {a b : Fx} (h : (a.app b).okX) : a.okX ∧ b.okX := by
 induction a with
 | nil => exact ⟨trivial, h⟩
 | cons L k m _ ih =>
  obtain ⟨h1, h2, h3, h4, h5⟩ := h
  obtain ⟨g1, g2⟩ := ih h5
  exact ⟨⟨h1, h2, h3, h4, g1⟩, g2⟩
theorem sz_app (a b : Fx) : (a.app b).sz = a.sz + b.sz := by
 induction a with
 | nil => simp [app, sz]
 | cons L k m _ ih => rw [app, sz, sz, ih]; omega
def flatK (K : Fx) : Option Fx := if K.len < 2 then none else if K.zb7.2.2.len = 0 ∨ 4 < K.zb7.1.len + K.zb7.2.2.len then none else some (K.zb7.1.app K.zb7.2.2)
end Fx
end Pl
end Go.Proofs.YtfdbokipgofcdaaGreatDoor

namespace Go.Proofs.YtfdbokipgofcdaaGreatDoor
namespace Pl
def zh1 (xs : List (Int × List Nd)) : Int := if 400 < xs.length then 2 else match zn8 xs with
 | none => 1
 | some p => match p.2.flatK with
  | none => 10
  | some _ => 0
def ze3 (xs : List (Int × List Nd)) : List (Int × List Nd) := match zn8 xs with
 | none => []
 | some p => match p.2.flatK with
  | none => []
  | some K => ((K.len : Int), []) :: K.flat
theorem yc9 {xs : List (Int × List Nd)} (h : 400 < xs.length) : zh1 xs = 2 ∧ ze3 xs = [] := by
 refine ⟨if_pos h, ?_⟩
 unfold ze3
 rw [zv4]
 cases hn : nest (rowO xs) with
 | none => rfl
 | some F => have := zj3 hn; omega
theorem yh7 {xs : List (Int × List Nd)} (h : ¬ 400 < xs.length) (hn : nest (rowO xs) = none) : zh1 xs = 1 ∧ ze3 xs = [] := by
 unfold zh1 ze3
 rw [if_neg h, zv4 hn]
 exact ⟨rfl, rfl⟩
theorem yc {xs : List (Int × List Nd)} {L : List Nd} {k : Fx} (hl : xs.length ≤ 12) (h : zn8 xs = some (L, k)) (hv : k.flatK = none) : zh1 xs = 10 ∧ ze3 xs = [] := by
 unfold zh1 ze3
 rw [if_neg (by omega), h]
 simp only [hv]
 exact ⟨trivial, trivial⟩
theorem zy1 {xs : List (Int × List Nd)} {L : List Nd} {k K : Fx} (hl : xs.length ≤ 12) (h : zn8 xs = some (L, k)) (hv : k.flatK = some K) : zh1 xs = 0 ∧ ze3 xs = ((K.len : Int), []) :: K.flat := by
 unfold zh1 ze3
 rw [if_neg (by omega), h]
 simp only [hv]
 exact ⟨trivial, trivial⟩
theorem yn {k K : Fx} (hx : k.okX) (h : k.flatK = some K) : K.okX ∧ K.len ≤ 4 ∧ K.sz ≤ k.sz ∧ 2 ≤ k.len ∧ k.zb7.2.2.len ≠ 0 ∧ K = k.zb7.1.app k.zb7.2.2 := by
 unfold Fx.flatK at h
 split at h
 ·cases h
 ·rename_i h2
  split at h
  ·cases h
  ·rename_i h3
   cases h
   obtain ⟨hsp, hsl⟩ := k.yb9 (by omega)
   have hx2 := hx
   rw [hsp] at hx2
   obtain ⟨g1, g2⟩ := Fx.zw8 hx2
   have hs := congrArg Fx.sz hsp
   rw [Fx.sz_app, Fx.sz] at hs
   refine ⟨Fx.ok_app g1 g2.2.2.2.1, by rw [Fx.zh9]; omega, by rw [Fx.sz_app]; omega, by omega, fun e => h3 (.inl e), rfl⟩
end Pl
end Go.Proofs.YtfdbokipgofcdaaGreatDoor

namespace Go.Proofs.YtfdbokipgofcdaaGreatDoor
namespace Pl
theorem take_flat (X : Fx) : ∀ R, X.okX → take X.len (rowO (X.flat ++ R)) = some (X.shape, rowO R) := by
 induction X with
 | nil => intro R _; exact take_zero _
 | cons L k m ih1 ih2 =>
  intro R hx
  obtain ⟨h1, h2, h3, h4, h5⟩ := hx
  have hb : zf9 (k.len : Int) L = true := by
   unfold zf9
   simp only [Bool.and_eq_true, Bool.or_eq_true, decide_eq_true_eq, List.isEmpty_iff]
   exact ⟨⟨⟨by omega, by omega⟩, h2.imp (fun e => by rw [e]; rfl) id⟩, h1⟩
  have e : rowO ((Fx.cons L k m).flat ++ R) = some k.len :: rowO (k.flat ++ (m.flat ++ R)) := by
   rw [Fx.flat, List.cons_append, List.append_assoc]
   show zi ((k.len : Int), L) :: _ = _
   rw [yj3 hb, Int.toNat_natCast]
   rfl
  rw [e, Fx.len, yi1, ih1 _ h4]
  simp only
  rw [ih2 _ h5]
  rfl
def starts : Fx → Nat → List Nat
 | .nil, _ => []
 | .cons _ k m, p => p :: starts m (p + 1 + k.sz)
theorem yo5 (X : Fx) : ∀ p, (starts X p).length = X.len := by
 induction X with
 | nil => intro p; rfl
 | cons L k m _ ih => intro p; rw [starts, List.length_cons, ih, Fx.len]
theorem yn2 (A B : Fx) : ∀ p, starts (A.app B) p = starts A p ++ starts B (p + A.sz) := by
 induction A with
 | nil => intro p; rfl
 | cons L k m _ ih =>
  intro p
  rw [Fx.app, starts, starts, ih, List.cons_append, Fx.sz, show p + 1 + k.sz + m.sz = p + (k.sz + m.sz + 1) by omega]
theorem end_flat {xs : List (Int × List Nd)} {L : List Nd} {k m : Fx} {R : List (Int × List Nd)} {j : Nat} (h : xs.drop j = (Fx.cons L k m).flat ++ R) (hx : (Fx.cons L k m).okX) (hd : k.shape.depth ≤ 3) (hj : j ≤ xs.length) : endI xs.length (ends 1 1 ((rowO xs).drop j)) = ((j + 1 + k.sz : Nat) : Int) := by
 have hx1 : (Fx.cons L k .nil).okX := ⟨hx.1, hx.2.1, hx.2.2.1, hx.2.2.2.1, trivial⟩
 have e1 : (rowO xs).drop j = rowO ((Fx.cons L k .nil).flat ++ (m.flat ++ R)) := by
  unfold rowO
  rw [← List.map_drop, h]
  simp [Fx.flat]
 have e2 := take_flat (Fx.cons L k .nil) (m.flat ++ R) hx1
 have e3 : (Fx.cons L k .nil).len = 1 := rfl
 rw [e3] at e2
 have hl := congrArg List.length h
 rw [List.length_drop, List.length_append, Fx.zk6, Fx.sz] at hl
 unfold ends
 rw [e1, e2]
 have hdp : (Fx.cons L k .nil).shape.depth = k.shape.depth + 1 := Fo.yi5 _
 simp only
 rw [if_pos (by omega), endI, zi5, List.length_append, Fx.zk6]
 omega
theorem depth_cons {L : List Nd} {k m : Fx} : (Fx.cons L k m).shape.depth = max (k.shape.depth + 1) m.shape.depth := rfl
end Pl
end Go.Proofs.YtfdbokipgofcdaaGreatDoor

namespace Go.Proofs.YtfdbokipgofcdaaGreatDoor
namespace Pl
def yb0 (p : ByteArray) (L : List Nd) : List ByteArray := (L.filter (fun n => decide (parent n.path = p))).map (fun n => base n.path)
theorem ya3 {L : List Nd} (h : za2 L = true) : L.Pairwise (fun a b => a.path ≠ b.path) := by
 have h2 : goI [] ⟨#[]⟩ L = true := by unfold za2 at h; simp at h; exact h.2
 exact (goI_rise L [] ⟨#[]⟩ h2 (zi9 rfl).1).1.imp (fun {a b} hab e => by rw [e, zl6] at hab; cases hab)
theorem tree_rise' {L : List Nd} (h : za2 L = true) : L.Pairwise (fun a b => ltP a.path b.path = true) := by
 simp only [za2, Bool.and_eq_true, decide_eq_true_eq] at h
 have hn := zu9 L _ _ h.2
 have hr := (goI_rise L [] ⟨#[]⟩ h.2 (zi9 rfl).1).1
 exact List.Pairwise.imp_of_mem (fun {a b} ha hb hab => by rw [zi6 (ze2 (hn a ha)).1 (ze2 (hn b hb)).1]; exact hab) hr
end Pl
namespace WNamesT
theorem tl_eq {a b : ByteArray} (h : a ≠ b) : (a.toList == b.toList) = false := by
 rw [beq_eq_false_iff_ne]
 intro e
 exact h (Pl.zh7 (by rw [ByteArray.toList_eq, ByteArray.toList_eq] at e; exact e))
end WNamesT
end Go.Proofs.YtfdbokipgofcdaaGreatDoor

namespace Go.Proofs.YtfdbokipgofcdaaGreatDoor
namespace Pl
theorem find_path {L : List Nd} {p : ByteArray} {m : Nd} (h : L.find? (fun m => decide (m.path = p)) = some m) : m.path = p := by
 have := List.find?_some h
 simpa using this
theorem goS_iff (L : List Nd) : ∀ (r : List Nd) (prev : Option ByteArray), goS L prev r = true ↔ (∀ n ∈ r, zb6 n = true ∧ dirS L (parent n.path) = true) ∧ r.Pairwise (fun a b => za9 (names a.path) (names b.path) = true) ∧ ∀ n ∈ r, prevB prev n.path = true := by
 intro r
 induction r with
 | nil => intro prev; simp [goS]
 | cons m r ih =>
  intro prev
  simp only [goS, Bool.and_eq_true]
  rw [ih]
  constructor
  ·rintro ⟨⟨⟨h1, h2⟩, h3⟩, h4, h5, h6⟩
   refine ⟨fun n hn => ?_, List.Pairwise.cons (fun n hn => h6 n hn) h5, fun n hn => ?_⟩
   ·rcases List.mem_cons.1 hn with rfl | hn
    ·exact ⟨h1, h3⟩
    ·exact h4 n hn
   ·rcases List.mem_cons.1 hn with rfl | hn
    ·exact h2
    ·cases prev with
     | none => rfl
     | some q => exact zm9 _ _ _ h2 (h6 n hn)
  ·rintro ⟨h1, h2, h3⟩
   obtain ⟨h4, h5⟩ := List.pairwise_cons.1 h2
   exact ⟨⟨⟨(h1 m (List.mem_cons_self ..)).1, h3 m (List.mem_cons_self ..)⟩, (h1 m (List.mem_cons_self ..)).2⟩, fun n hn => h1 n (List.mem_cons_of_mem _ hn), h5, fun n hn => h4 n hn⟩
theorem zx (L : List Nd) : za2 L = true ↔ L.length ≤ 40 ∧ (∀ n ∈ L, zb6 n = true ∧ dirS L (parent n.path) = true) ∧ L.Pairwise (fun a b => za9 (names a.path) (names b.path) = true) := by
 rw [za2, ← tree_same, Bool.and_eq_true, decide_eq_true_eq, goS_iff]
 constructor
 ·rintro ⟨h1, h2, h3, -⟩; exact ⟨h1, h2, h3⟩
 ·rintro ⟨h1, h2, h3⟩; exact ⟨h1, h2, h3, fun n hn => rfl⟩
theorem dirS_iff {L : List Nd} (h : L.Pairwise (fun a b => za9 (names a.path) (names b.path) = true)) (p : ByteArray) : dirS L p = true ↔ p.size = 0 ∨ ∃ m ∈ L, m.path = p ∧ m.kind = 1 := by
 simp only [dirS, Bool.or_eq_true, decide_eq_true_eq]
 refine or_congr Iff.rfl ?_
 cases hf : L.find? (fun m => decide (m.path = p)) with
 | none =>
  rw [List.find?_eq_none] at hf
  constructor
  ·intro h; cases h
  ·rintro ⟨m, hm, e, _⟩; exact absurd (decide_eq_true e) (hf m hm)
 | some m' =>
  have h1 := List.mem_of_find?_eq_some hf
  have h2 := find_path hf
  simp only [decide_eq_true_eq]
  constructor
  ·intro h3; exact ⟨m', h1, h2, h3⟩
  ·rintro ⟨m, hm, e, hk⟩
   rw [one_path h h1 hm (h2.trans e.symm)]; exact hk
end Pl
end Go.Proofs.YtfdbokipgofcdaaGreatDoor

namespace Go.Proofs.YtfdbokipgofcdaaGreatDoor
namespace Pl
theorem yl : ∀ a b : List UInt8, a ≠ b → Op.bytesLess a b = !Op.bytesLess b a := by
 intro a
 induction a with
 | nil => intro b h; cases b with
  | nil => exact absurd rfl h
  | cons c b => rfl
 | cons x a ih =>
  intro b h
  cases b with
  | nil => rfl
  | cons y b =>
   simp only [Op.bytesLess]
   by_cases hxy : x = y
   ·subst hxy
    have hab : a ≠ b := fun e => h (by rw [e])
    rw [ih b hab]; simp
   ·have h1 : (x == y) = false := by simpa using hxy
    have h2 : (y == x) = false := by simpa using fun e : y = x => hxy e.symm
    rw [h1, h2]
    simp only [Bool.false_and, Bool.or_false]
    by_cases hlt : x < y
    ·have : ¬ y < x := by rw [UInt8.lt_iff_toNat_lt] at hlt ⊢; omega
     simp [hlt, this]
    ·have : y < x := by
      rw [UInt8.lt_iff_toNat_lt] at hlt ⊢
      have : x.toNat ≠ y.toNat := fun e => hxy (UInt8.toNat_inj.1 e)
      omega
     simp [hlt, this]
theorem less_anti : ∀ A B : List ByteArray, A ≠ B → za9 A B = !za9 B A := by
 intro A
 induction A with
 | nil => intro B h; cases B with
  | nil => exact absurd rfl h
  | cons b B => rfl
 | cons a A ih =>
  intro B h
  cases B with
  | nil => rfl
  | cons b B =>
   rw [za9, za9]
   by_cases hab : a = b
   ·subst hab
    rw [if_pos rfl, if_pos rfl]
    exact ih B (fun e => h (by rw [e]))
   ·rw [if_neg hab, if_neg (fun e => hab e.symm)]
    refine yl _ _ ?_
    rw [ByteArray.toList_eq, ByteArray.toList_eq]
    exact fun e => hab (zh7 e)
theorem yt {p : ByteArray} (h : za5 p = true) : glue (zc8 p) = p := by rw [zg2 h, zp7]
theorem glue_one (n : ByteArray) : glue [n] = n := by apply zh7; rw [zu3]; rfl
theorem path_inj {a b : ByteArray} (ha : za5 a = true) (hb : za5 b = true) (h : zc8 a = zc8 b) : a = b := by
 rw [← yt ha, ← yt hb, h]
theorem two_less {a b : ByteArray} (ha : za5 a = true) (hb : za5 b = true) (h : a ≠ b) : (za5 a && za5 b && za9 (zc8 a) (zc8 b)) = !(za5 b && za5 a && za9 (zc8 b) (zc8 a)) := by
 rw [ha, hb, Bool.true_and, Bool.true_and, Bool.true_and]
 exact less_anti _ _ (fun e => h (path_inj ha hb e))
end Pl
end Go.Proofs.YtfdbokipgofcdaaGreatDoor

namespace Go.Proofs.YtfdbokipgofcdaaGreatDoor
namespace Pl
theorem yc3 {q p : ByteArray} (hq : za5 q = true) (h0 : q.size ≠ 0) (h : parent q = p) : names q = names p ++ [base q] := by
 have hn : names p = (names q).dropLast := by rw [← h, yp8 hq, yp5 hq]
 have hne : names q ≠ [] := yl5 h0
 have hl := List.length_pos_iff.2 hne
 have hc : (names q).dropLast ++ [(names q).getLast hne] = names q := List.dropLast_concat_getLast hne
 have hd : (names q).drop ((names q).length - 1) = [(names q).getLast hne] := by
  have e : (names q).length - 1 = (names q).dropLast.length := by rw [List.length_dropLast]
  rw [e]
  conv => lhs; arg 2; rw [← hc]
  exact List.drop_left
 rw [hn, base_glue, hd, glue_one, hc]
theorem ye8 {L : List Nd} (h : za2 L = true) : ∀ n ∈ L, za5 n.path = true ∧ n.path.size ≠ 0 := by
 simp only [za2, Bool.and_eq_true, decide_eq_true_eq] at h
 exact fun n hn => ze2 (zu9 L _ _ h.2 n hn)
end Pl
end Go.Proofs.YtfdbokipgofcdaaGreatDoor

namespace Go.Proofs.YtfdbokipgofcdaaGreatDoor
open Go.RowKit
namespace Pl
structure Sg where
 told : Bool
 node : Nd
 have' : List Bool
def Sg.cs (s : Sg) : List Value := [.bool s.told, .string s.node.path, .int .i64 s.node.kind, .string s.node.data, .int .i64 s.node.time, .int .i64 s.node.mark] ++ s.have'.map .bool
def zi1 : Nd := ⟨⟨#[]⟩, 0, ⟨#[]⟩, 0, 0⟩
def Sg.zero : Sg := ⟨false, zi1, [false, false, false, false]⟩
def zj4 (n : Nd) (m : Int) : Nd := ⟨n.path, n.kind, n.data, n.time, max n.mark m⟩
def zb8 (s : Sg) (k : Nat) (n : Nd) : Sg := ⟨true, zj4 (if s.told then s.node else n) n.mark, s.have'.set k (decide (n.kind = 1))⟩
def zh8 (n : Nd) : Bool := !decide (n.kind = 1) || decide (0 < n.mark)
def upS (s : Sg) : Sg :=
 if s.node.kind = 0 ∧ max (s.node.mark - 1) 0 = 0 then Sg.zero else ⟨s.told, ⟨s.node.path, s.node.kind, s.node.data, s.node.time, max (s.node.mark - 1) 0⟩, s.have'⟩
def goD : Nat → Sg → List (Option Nd) → Sg
 | _, s, [] => s
 | k, s, none :: r => goD (k + 1) s r
 | k, s, some n :: r => if zh8 n then zb8 s k n else goD (k + 1) (zb8 s k n) r
def decS (ns : List (Option Nd)) : Sg := upS (goD 0 Sg.zero ns)
def lk (L : List Nd) (p : ByteArray) : Option Nd := L.find? (fun m => decide (m.path = p))
def nsOf : List Bool → List (List Nd) → ByteArray → List (Option Nd)
 | a :: ab, L :: Ls, p => (if a then lk L p else none) :: nsOf ab Ls p
 | _, _, _ => []
theorem ns_get (p : ByteArray) : ∀ (ab : List Bool) (Ls : List (List Nd)) (k : Nat) (a : Bool) (L : List Nd), ab[k]? = some a → Ls[k]? = some L → (nsOf ab Ls p)[k]? = some (if a then lk L p else none) := by
 intro ab
 induction ab with
 | nil => intro Ls k a L h; simp at h
 | cons x ab ih =>
  intro Ls k a L h1 h2
  cases Ls with
  | nil => simp at h2
  | cons M Ls =>
   cases k with
   | zero => simp at h1 h2; subst h1 h2; rfl
   | succ k => simp at h1 h2; simpa [nsOf] using ih Ls k a L h1 h2
theorem ns_len (p : ByteArray) : ∀ (ab : List Bool) (Ls : List (List Nd)), Ls.length ≤ ab.length → (nsOf ab Ls p).length = Ls.length := by
 intro ab
 induction ab with
 | nil => intro Ls h; cases Ls with | nil => rfl | cons => simp at h
 | cons x ab ih =>
  intro Ls h
  cases Ls with
  | nil => rfl
  | cons M Ls => simp [nsOf]; exact ih Ls (by simpa using h)
theorem go_step {ns : List (Option Nd)} {k : Nat} {x : Option Nd} (h : ns[k]? = some x) (j : Nat) (s : Sg) : goD j s (ns.drop k) = match x with | none => goD (j + 1) s (ns.drop (k + 1)) | some n => if zh8 n then zb8 s j n else goD (j + 1) (zb8 s j n) (ns.drop (k + 1)) := by
 have h1 := List.getElem?_eq_some_iff.1 h
 rw [List.drop_eq_getElem_cons h1.1, h1.2]
 cases x <;> rfl
theorem go_end {ns : List (Option Nd)} {k : Nat} (h : ns.length ≤ k) (j : Nat) (s : Sg) : goD j s (ns.drop k) = s := by
 rw [List.drop_eq_nil_of_le h]; rfl
theorem take_len (s : Sg) (k : Nat) (n : Nd) : (zb8 s k n).have'.length = s.have'.length := by simp [zb8]
theorem take_mark {s : Sg} {k : Nat} {n : Nd} (h : 0 ≤ s.node.mark ∧ s.node.mark ≤ 8) (hn : 0 ≤ n.mark ∧ n.mark ≤ 8) : 0 ≤ (zb8 s k n).node.mark ∧ (zb8 s k n).node.mark ≤ 8 := by
 unfold zb8 zj4
 cases s.told <;> simp <;> omega
theorem up_len {s : Sg} (h : s.have'.length = 4) : (upS s).have'.length = 4 := by
 unfold upS
 split
 ·rfl
 ·exact h
end Pl
end Go.Proofs.YtfdbokipgofcdaaGreatDoor

namespace Go.Proofs.YtfdbokipgofcdaaGreatDoor
open Go.RowKit
namespace Pl
structure Ot where
 ok : Bool
 node : Nd
 parts : List Nat
def finO (o : Ot) (mark : Int) : Ot := ⟨o.ok, ⟨o.node.path, o.node.kind, o.node.data, o.node.time, max 0 (mark - 1)⟩, o.parts⟩
def zp1 (p : ByteArray) (o : Ot) (mark : Int) : List (Nat × Option Nd) → Ot
 | [] => finO o mark
 | (_, none) :: r => zp1 p o mark r
 | (k, some n) :: r =>
  if o.parts = [] then
   if n.kind = 1 then (if 0 < n.mark then finO ⟨true, ⟨p, 1, ⟨#[]⟩, n.time, 0⟩, [k]⟩ (max mark n.mark) else zp1 p ⟨true, ⟨p, 1, ⟨#[]⟩, n.time, 0⟩, [k]⟩ (max mark n.mark) r)
   else if n.kind = 0 then ⟨decide (1 < n.mark), ⟨p, 0, ⟨#[]⟩, 0, n.mark - 1⟩, []⟩ else ⟨true, n, []⟩
  else if n.kind = 1 then (if 0 < n.mark then finO ⟨o.ok, o.node, o.parts ++ [k]⟩ (max mark n.mark) else zp1 p ⟨o.ok, o.node, o.parts ++ [k]⟩ (max mark n.mark) r) else finO o (max mark n.mark)
def numb : Nat → List (Option Nd) → List (Nat × Option Nd)
 | _, [] => []
 | k, x :: r => (k, x) :: numb (k + 1) r
def zc7 (ks : List Nat) : List Bool := (List.range 4).map (fun j => decide (j ∈ ks))
theorem parts_in {ks : List Nat} {k : Nat} (h : k < 4) : (zc7 ks).set k true = zc7 (ks ++ [k]) := by
 obtain rfl | rfl | rfl | rfl : k = 0 ∨ k = 1 ∨ k = 2 ∨ k = 3 := by omega
 all_goals simp [zc7, List.range_succ]
theorem parts_out {ks : List Nat} {k : Nat} (h : k < 4) (hk : k ∉ ks) : (zc7 ks).set k false = zc7 ks := by
 obtain rfl | rfl | rfl | rfl : k = 0 ∨ k = 1 ∨ k = 2 ∨ k = 3 := by omega
 all_goals simp [zc7, List.range_succ, hk]
structure SameO (o : Ot) (s : Sg) : Prop where
 told : o.ok = s.told
 node : o.ok = true → o.node = s.node
 parts : s.have' = zc7 o.parts
 dir : o.parts ≠ [] → o.ok = true ∧ o.node.kind = 1
 no : o.parts = [] → o.ok = true → o.node.kind ≠ 1
theorem yu4 {d : ByteArray} (h : d.size = 0) : d = ⟨#[]⟩ := by
 cases d with
 | mk a => have : a = #[] := Array.size_eq_zero_iff.1 h; rw [this]
def yf3 (p : ByteArray) (ns : List (Option Nd)) : Prop := ∀ n, some n ∈ ns → zb6 n = true ∧ n.path = p
theorem yo1 {p : ByteArray} {t mark : Int} {ks : List Nat} (hks : ks ≠ []) : SameO (finO ⟨true, ⟨p, 1, ⟨#[]⟩, t, 0⟩, ks⟩ mark) (upS ⟨true, ⟨p, 1, ⟨#[]⟩, t, mark⟩, zc7 ks⟩) := by
 have hu : upS ⟨true, ⟨p, 1, ⟨#[]⟩, t, mark⟩, zc7 ks⟩ = ⟨true, ⟨p, 1, ⟨#[]⟩, t, max (mark - 1) 0⟩, zc7 ks⟩ := by
  unfold upS
  rw [if_neg (by simp)]
 rw [hu]
 refine ⟨rfl, fun _ => ?_, rfl, fun _ => ⟨rfl, rfl⟩, fun h => absurd h hks⟩
 simp only [finO]
 rw [Int.max_comm]
theorem pick_dirs (p : ByteArray) : ∀ (ns : List (Option Nd)) (k : Nat) (t mark : Int) (ks : List Nat), yf3 p ns → k + ns.length ≤ 4 → ks ≠ [] → (∀ j ∈ ks, j < k) → 0 ≤ mark →
  SameO (zp1 p ⟨true, ⟨p, 1, ⟨#[]⟩, t, 0⟩, ks⟩ mark (numb k ns)) (upS (goD k ⟨true, ⟨p, 1, ⟨#[]⟩, t, mark⟩, zc7 ks⟩ ns)) := by
 intro ns
 induction ns with
 | nil => intro k t mark ks _ _ hks _ hm; exact yo1 hks
 | cons x ns ih =>
  intro k t mark ks hr hl hks hlt hm
  have hr' : yf3 p ns := fun n hn => hr n (List.mem_cons_of_mem _ hn)
  simp only [List.length_cons] at hl
  cases x with
  | none => exact ih (k + 1) t mark ks hr' (by omega) hks (fun j hj => Nat.lt_succ_of_lt (hlt j hj)) hm
  | some n =>
   have hnk : k ∉ ks := fun h => absurd (hlt k h) (Nat.lt_irrefl _)
   have hm2 : 0 ≤ max mark n.mark := by omega
   simp only [numb, zp1, goD]
   rw [if_neg hks]
   by_cases hk : n.kind = 1
   ·have htk : zb8 ⟨true, ⟨p, 1, ⟨#[]⟩, t, mark⟩, zc7 ks⟩ k n = ⟨true, ⟨p, 1, ⟨#[]⟩, t, max mark n.mark⟩, zc7 (ks ++ [k])⟩ := by
     simp only [zb8, zj4, if_true, hk, decide_true]
     rw [parts_in (by omega)]
    rw [htk, if_pos hk]
    by_cases hmk : 0 < n.mark
    ·have hst : zh8 n = true := by simp [zh8, hmk]
     rw [if_pos hmk, hst, if_pos rfl]
     exact yo1 (by simp)
    ·have hst : zh8 n = false := by simp [zh8, hmk, hk]
     rw [if_neg hmk, hst, if_neg (by decide)]
     exact ih (k + 1) t _ (ks ++ [k]) hr' (by omega) (by simp) (fun j hj => by
      rcases List.mem_append.1 hj with h | h
      ·exact Nat.lt_succ_of_lt (hlt j h)
      ·simp at h; omega) hm2
   ·have htk : zb8 ⟨true, ⟨p, 1, ⟨#[]⟩, t, mark⟩, zc7 ks⟩ k n = ⟨true, ⟨p, 1, ⟨#[]⟩, t, max mark n.mark⟩, zc7 ks⟩ := by
     simp only [zb8, zj4, if_true, hk, decide_false]
     rw [parts_out (by omega) hnk]
    have hst : zh8 n = true := by simp [zh8, hk]
    rw [htk, if_neg hk, hst, if_pos rfl]
    exact yo1 hks
theorem pick_same (p : ByteArray) : ∀ (ns : List (Option Nd)) (k : Nat), yf3 p ns → k + ns.length ≤ 4 → SameO (zp1 p ⟨false, zi1, []⟩ 0 (numb k ns)) (upS (goD k ⟨false, zi1, zc7 []⟩ ns)) := by
 intro ns
 induction ns with
 | nil =>
  intro k _ _
  have hu : upS (goD k ⟨false, zi1, zc7 []⟩ []) = Sg.zero := by
   show upS ⟨false, zi1, zc7 []⟩ = Sg.zero
   unfold upS
   rw [if_pos ⟨rfl, by show max ((0 : Int) - 1) 0 = 0; decide⟩]
  rw [hu]
  exact ⟨rfl, fun h => (by cases h), rfl, fun h => absurd rfl h, fun _ h => (by cases h)⟩
 | cons x ns ih =>
  intro k hr hl
  have hr' : yf3 p ns := fun n hn => hr n (List.mem_cons_of_mem _ hn)
  simp only [List.length_cons] at hl
  cases x with
  | none => exact ih (k + 1) hr' (by omega)
  | some n =>
   obtain ⟨hb, hp⟩ := hr n List.mem_cons_self
   obtain ⟨-, -, hmk8, hkd⟩ := zh3 hb
   obtain ⟨np, nk, nd, nt, nm⟩ := n
   simp only at hp hmk8
   subst hp
   have hnm : max nm nm = nm := by omega
   have hnk : k ∉ ([] : List Nat) := by simp
   simp only [numb, zp1, goD, if_true]
   by_cases hk : nk = 1
   ·subst hk
    have hd : nd = ⟨#[]⟩ := by
     simp [zm5] at hkd
     first | exact hkd | exact yu4 hkd
    subst hd
    have htk : zb8 ⟨false, zi1, zc7 []⟩ k ⟨np, 1, ⟨#[]⟩, nt, nm⟩ = ⟨true, ⟨np, 1, ⟨#[]⟩, nt, nm⟩, zc7 ([] ++ [k])⟩ := by
     simp only [zb8, zj4, Bool.false_eq_true, if_false, decide_true, hnm]
     rw [parts_in (by omega)]
    have hm0 : max 0 nm = nm := by omega
    rw [htk, hm0, List.nil_append, if_pos (rfl : (1 : Int) = 1)]
    by_cases hmk : 0 < nm
    ·have hst : zh8 ⟨np, 1, ⟨#[]⟩, nt, nm⟩ = true := by simp [zh8, hmk]
     rw [if_pos hmk, hst, if_pos rfl]
     exact yo1 (by simp)
    ·have hst : zh8 ⟨np, 1, ⟨#[]⟩, nt, nm⟩ = false := by simp [zh8, hmk]
     rw [if_neg hmk, hst, if_neg (by decide)]
     exact pick_dirs np ns (k + 1) nt nm [k] hr' (by omega) (by simp) (fun j hj => by simp at hj; omega) hmk8.1
   ·have htk : zb8 ⟨false, zi1, zc7 []⟩ k ⟨np, nk, nd, nt, nm⟩ = ⟨true, ⟨np, nk, nd, nt, nm⟩, zc7 []⟩ := by
     simp only [zb8, zj4, Bool.false_eq_true, if_false, hk, decide_false, hnm]
     rw [parts_out (by omega) hnk]
    have hst : zh8 ⟨np, nk, nd, nt, nm⟩ = true := by simp [zh8, hk]
    rw [htk, if_neg hk, hst, if_pos rfl]
    by_cases hz : nk = 0
    ·subst hz
     simp [zm5] at hkd
     obtain ⟨⟨hd, ht⟩, hm⟩ := hkd
     have hd2 : nd = ⟨#[]⟩ := by first | exact hd | exact yu4 hd
     subst hd2 ht
     rw [if_pos rfl]
     by_cases h1 : nm = 1
     ·subst h1
      have hu : upS ⟨true, ⟨np, 0, ⟨#[]⟩, 0, 1⟩, zc7 []⟩ = Sg.zero := by
       unfold upS
       rw [if_pos ⟨rfl, by show max ((1 : Int) - 1) 0 = 0; decide⟩]
      rw [hu]
      exact ⟨rfl, fun h => (by cases h), rfl, fun h => absurd rfl h, fun _ h => (by cases h)⟩
     ·have hu : upS ⟨true, ⟨np, 0, ⟨#[]⟩, 0, nm⟩, zc7 []⟩ = ⟨true, ⟨np, 0, ⟨#[]⟩, 0, nm - 1⟩, zc7 []⟩ := by
       unfold upS
       rw [if_neg (by simp only; omega), show max (nm - 1) 0 = nm - 1 by omega]
      rw [hu]
      exact ⟨by simp; omega, fun _ => rfl, rfl, fun h => absurd rfl h, fun _ _ => (by show (0 : Int) ≠ 1; decide)⟩
    ·have h2 : nm = 0 := by
      simp [zm5, hz, hk] at hkd
      exact hkd.2
     subst h2
     have hu : upS ⟨true, ⟨np, nk, nd, nt, 0⟩, zc7 []⟩ = ⟨true, ⟨np, nk, nd, nt, 0⟩, zc7 []⟩ := by
      unfold upS
      rw [if_neg (fun h => hz h.1)]
      rfl
     rw [hu, if_neg hz]
     exact ⟨rfl, fun _ => rfl, rfl, fun h => absurd rfl h, fun _ _ => hk⟩
theorem pick_dec {p : ByteArray} {ns : List (Option Nd)} (hr : yf3 p ns) (hl : ns.length ≤ 4) : SameO (zp1 p ⟨false, zi1, []⟩ 0 (numb 0 ns)) (decS ns) := pick_same p ns 0 hr (by omega)
end Pl
end Go.Proofs.YtfdbokipgofcdaaGreatDoor

namespace Go.Proofs.YtfdbokipgofcdaaGreatDoor
open Go.RowKit
namespace Pl
def zeroO : Ot := ⟨false, zi1, []⟩
def askO (Ls : List (List Nd)) (ks : List Nat) (q : ByteArray) : List (Nat × Option Nd) := ks.map (fun k => (k, lk (Ls.getD k []) q))
def zq4 (Ls : List (List Nd)) (ks : List Nat) (q : ByteArray) : Ot := zp1 q zeroO 0 (askO Ls ks q)
end Pl
end Go.Proofs.YtfdbokipgofcdaaGreatDoor

namespace Go.Proofs.YtfdbokipgofcdaaGreatDoor
open Go.RowKit
namespace Pl
theorem ns_mem : ∀ (ab : List Bool) (Ls : List (List Nd)) (p : ByteArray) (n : Nd), some n ∈ nsOf ab Ls p → ∃ L ∈ Ls, n ∈ L := by
 intro ab
 induction ab with
 | nil => intro Ls p n h; simp [nsOf] at h
 | cons a ab ih =>
  intro Ls p n h
  cases Ls with
  | nil => simp [nsOf] at h
  | cons L Ls =>
   rw [nsOf] at h
   rcases List.mem_cons.1 h with h | h
   ·cases a
    ·simp at h
    ·simp only [if_true] at h
     exact ⟨L, List.mem_cons_self, by
      have h2 := h.symm
      unfold lk at h2
      exact List.mem_of_find?_eq_some h2⟩
   ·obtain ⟨M, hM, hn⟩ := ih Ls p n h
    exact ⟨M, List.mem_cons_of_mem _ hM, hn⟩
end Pl
end Go.Proofs.YtfdbokipgofcdaaGreatDoor

namespace Go.Proofs.YtfdbokipgofcdaaGreatDoor
open Go.RowKit
namespace Pl
def ya5 (a b : ByteArray) : Bool := Op.bytesLess a.toList b.toList
def insN (t : ByteArray) : List ByteArray → List ByteArray
 | [] => [t]
 | a :: l => if ya5 a t = true then a :: insN t l else if a = t then a :: l else t :: a :: l
end Pl
end Go.Proofs.YtfdbokipgofcdaaGreatDoor

namespace Go.Proofs.YtfdbokipgofcdaaGreatDoor
open Go.RowKit
namespace Pl
def yh3 (out : List ByteArray) (K : List ByteArray) : List ByteArray := K.foldl (fun o t => insN t o) out
def yg8 (Ls : List (List Nd)) (q : ByteArray) (ks : List Nat) : List ByteArray := ks.foldl (fun o k => yh3 o (yb0 q (Ls.getD k []))) []
end Pl
end Go.Proofs.YtfdbokipgofcdaaGreatDoor

namespace Go.Proofs.YtfdbokipgofcdaaGreatDoor
open Go.RowKit
namespace Pl
def Nd.bare (n : Nd) : Nd := ⟨n.path, n.kind, n.data, n.time, 0⟩
def ze9 (L : List Nd) : List Nd := (L.filter (fun n => !decide (n.kind = 0))).map Nd.bare
theorem plainL_in {L : List Nd} {k : Nat} {n : Nd} (hn : L[k]? = some n) (h : n.kind ≠ 0) : ze9 (L.take (k + 1)) = ze9 (L.take k) ++ [n.bare] := by
 have h1 := List.getElem?_eq_some_iff.1 hn
 rw [List.take_succ_eq_append_getElem h1.1, h1.2]
 simp [ze9, h]
theorem plainL_out {L : List Nd} {k : Nat} {n : Nd} (hn : L[k]? = some n) (h : n.kind = 0) : ze9 (L.take (k + 1)) = ze9 (L.take k) := by
 have h1 := List.getElem?_eq_some_iff.1 hn
 rw [List.take_succ_eq_append_getElem h1.1, h1.2]
 simp [ze9, h]
theorem ym6 (L : List Nd) (k : Nat) : (ze9 (L.take k)).length ≤ k := by
 have h1 : (ze9 (L.take k)).length ≤ (L.take k).length := by simpa [ze9] using List.length_filter_le _ (L.take k)
 have h2 : (L.take k).length ≤ k := by simp; omega
 omega
def plainO (L : List Nd) : List Nd := if za2 L then ze9 L else []
def yc1 (L : List Nd) : Int := if za2 L then 0 else 1
end Pl
end Go.Proofs.YtfdbokipgofcdaaGreatDoor

namespace Go.Proofs.YtfdbokipgofcdaaGreatDoor
namespace Pl
theorem sorted_ext {A B : List Nd} (hA : A.Pairwise (fun a b => za9 (names a.path) (names b.path) = true)) (hB : B.Pairwise (fun a b => za9 (names a.path) (names b.path) = true)) (h : ∀ n, n ∈ A ↔ n ∈ B) : A = B := by
 induction A generalizing B with
 | nil =>
  cases B with
  | nil => rfl
  | cons b B => exact absurd ((h b).2 (List.mem_cons_self ..)) (by simp)
 | cons a A ih =>
  cases B with
  | nil => exact absurd ((h a).1 (List.mem_cons_self ..)) (by simp)
  | cons b B =>
   have ha := List.pairwise_cons.1 hA
   have hb := List.pairwise_cons.1 hB
   have e : a = b := by
    rcases List.mem_cons.1 ((h a).1 (List.mem_cons_self ..)) with e | e
    ·exact e
    ·rcases List.mem_cons.1 ((h b).2 (List.mem_cons_self ..)) with e2 | e2
     ·exact e2.symm
     ·have h1 := hb.1 a e
      have h2 := ha.1 b e2
      have h3 := zm9 _ _ _ h1 h2
      rw [zl6] at h3
      cases h3
   subst e
   have hnA : a ∉ A := fun hm => by have := ha.1 a hm; rw [zl6] at this; cases this
   have hnB : a ∉ B := fun hm => by have := hb.1 a hm; rw [zl6] at this; cases this
   rw [ih ha.2 hb.2 (fun n => ⟨fun hn => by
    rcases List.mem_cons.1 ((h n).1 (List.mem_cons_of_mem _ hn)) with e | e
    ·subst e; exact absurd hn hnA
    ·exact e, fun hn => by
    rcases List.mem_cons.1 ((h n).2 (List.mem_cons_of_mem _ hn)) with e | e
    ·subst e; exact absurd hn hnB
    ·exact e⟩)]
end Pl
end Go.Proofs.YtfdbokipgofcdaaGreatDoor

namespace Go.Proofs.YtfdbokipgofcdaaGreatDoor
namespace Pl
theorem bare_node {n : Nd} (h : zb6 n = true) (hk : n.kind ≠ 0) : zb6 n.bare = true := by
 simp only [zb6, Bool.and_eq_true, decide_eq_true_eq] at h ⊢
 obtain ⟨⟨⟨⟨⟨h1, h2⟩, h3⟩, h4⟩, h5⟩, h6⟩ := h
 refine ⟨⟨⟨⟨⟨h1, h2⟩, h3⟩, h4⟩, by simp [Nd.bare]⟩, ?_⟩
 unfold zm5 at h6 ⊢
 have e : n.bare.kind = n.kind := rfl
 rw [e, if_neg hk] at *
 by_cases hk1 : n.kind = 1
 ·rw [if_pos hk1] at h6 ⊢; exact h6
 ·rw [if_neg hk1] at h6 ⊢
  by_cases hk2 : n.kind = 2
  ·rw [if_pos hk2]; simp [Nd.bare]
  ·rw [if_neg hk2] at h6; cases h6
theorem yn1 {L : List Nd} {n : Nd} : n ∈ ze9 L ↔ ∃ m ∈ L, m.kind ≠ 0 ∧ m.bare = n := by
 unfold ze9
 rw [List.mem_map]
 constructor
 ·rintro ⟨m, hm, e⟩
  obtain ⟨h1, h2⟩ := List.mem_filter.1 hm
  exact ⟨m, h1, by simpa using h2, e⟩
 ·rintro ⟨m, h1, h2, e⟩
  exact ⟨m, List.mem_filter.2 ⟨h1, by simpa using h2⟩, e⟩
theorem ys2 {L : List Nd} (h : za2 L = true) : za2 (ze9 L) = true := by
 rw [zx] at h ⊢
 obtain ⟨h1, h2, h3⟩ := h
 have hp : (ze9 L).Pairwise (fun a b => za9 (names a.path) (names b.path) = true) := by
  unfold ze9
  rw [List.pairwise_map]
  exact h3.filter _
 refine ⟨?_, fun n hn => ?_, hp⟩
 ·have := ym6 L L.length
  rw [List.take_length] at this
  omega
 ·obtain ⟨m, hm, hk, rfl⟩ := yn1.1 hn
  refine ⟨bare_node (h2 m hm).1 hk, ?_⟩
  rw [dirS_iff hp]
  rcases (dirS_iff h3 _).1 (h2 m hm).2 with hz | ⟨q, hq, e, hq1⟩
  ·exact .inl hz
  ·exact .inr ⟨q.bare, yn1.2 ⟨q, hq, by rw [hq1]; decide, rfl⟩, e, hq1⟩
end Pl
end Go.Proofs.YtfdbokipgofcdaaGreatDoor

