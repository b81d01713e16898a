/- Several texts of one claim in one file: PlainFx, PlainTreeI, PlainLaw, PlainKid, PlainSight, PlainPick, PlainAsk, PlainSeen, PlainNames, PlainNestX, PlainPl, PlainOne. -/
import Derived.Test.YtcogaghibpajjaaGreatDoorG01
import Derived.Below
import Derived.Deep.RegionHeld3
import Derived.Test.YtcogaghibpajjaaGreatDoorProg
import Derived.WalkSpells
import Derived.Lib.OthersKept
import Derived.Laws.RangeAny
import Derived.Deep.Draws
import Derived.Deep.QuietTactic
import Derived.BigQuiet
import Derived.Test.YtcogaghibpajjaaGreatDoorG00
import Derived.RangeFuncNested
import Derived.RangeFuncBound
import Derived.RangeFuncCalls
import Derived.RangeFuncLeaves
import Derived.Shelf.Abstract
import Derived.Shelf.RegionOpen
import Derived.OwnWalkIn
import Derived.TacticsInMore
import Derived.LoopNIn
import Derived.LoopIn
import Derived.Laws.AppendOwn
import Derived.Maps.OwnSet
import Derived.Laws.EntriesVeiled
import Derived.Calls
import Derived.Lone
import Derived.RunT
import Derived.Shelf.SlSortCmp.NoneTotal
import Derived.Lib.QuietBelow
import Derived.Maps.RangeWalk
import Derived.Sort.MapsRangeIn
import Derived.Deep.Cut
namespace Go.Proofs.YtcogaghibpajjaaGreatDoor
namespace Pl
inductive Fx where
 | nil : Fx
 | cons (L : List Nd) (kids more : Fx) : Fx
namespace Fx
def shape : Fx → Fo
 | .nil => .nil
 | .cons _ k m => .cons k.shape m.shape
def len : Fx → Nat
 | .nil => 0
 | .cons _ _ m => m.len + 1
def sz : Fx → Nat
 | .nil => 0
 | .cons _ k m => k.sz + m.sz + 1
def flat : Fx → List (Int × List Nd)
 | .nil => []
 | .cons L k m => ((k.len : Int), L) :: (k.flat ++ m.flat)
def app : Fx → Fx → Fx
 | .nil, r => r
 | .cons L k m, r => .cons L k (m.app r)
def okX : Fx → Prop
 | .nil => True
 | .cons L k m => za2 L = true ∧ (k = .nil ∨ L = []) ∧ k.len ≤ 4 ∧ k.okX ∧ m.okX
theorem zy6 (X : Fx) : X.shape.len = X.len := by
 induction X with
 | nil => rfl
 | cons L k m _ ih => rw [shape, Fo.len, len, ih]
theorem flat_len (X : Fx) : X.flat.length = X.sz := by
 induction X with
 | nil => rfl
 | cons L k m ih1 ih2 => rw [flat, List.length_cons, List.length_append, ih1, ih2, sz]
theorem shape_app (a b : Fx) : (a.app b).shape = a.shape.app b.shape := by
 induction a with
 | nil => rfl
 | cons L k m _ ih => rw [app, shape, shape, ih]; rfl
theorem len_app (a b : Fx) : (a.app b).len = a.len + b.len := by
 induction a with
 | nil => simp [app, len]
 | cons L k m _ ih => rw [app, len, len, ih]; omega
theorem flat_app (a b : Fx) : (a.app b).flat = a.flat ++ b.flat := by
 induction a with
 | nil => rfl
 | cons L k m _ ih => rw [app, flat, flat, ih]; simp
theorem ok_app {a b : Fx} (ha : a.okX) (hb : b.okX) : (a.app b).okX := by
 induction a with
 | nil => exact hb
 | cons L k m _ ih => exact ⟨ha.1, ha.2.1, ha.2.2.1, ha.2.2.2.1, ih ha.2.2.2.2⟩
theorem shape_nil {X : Fx} (h : X.shape = .nil) : X = .nil := by
 cases X with
 | nil => rfl
 | cons L k m => cases h
theorem yb7 {X : Fx} (h : X.len = 0) : X = .nil := by
 cases X with
 | nil => rfl
 | cons L k m => simp [len] at h
theorem len_le (X : Fx) : X.len ≤ X.sz := by
 induction X with
 | nil => exact Nat.le_refl _
 | cons L k m _ ih => rw [len, sz]; omega
end Fx
end Pl
end Go.Proofs.YtcogaghibpajjaaGreatDoor

namespace Go.Proofs.YtcogaghibpajjaaGreatDoor
namespace Pl
theorem find_path {L : List Nd} {p : ByteArray} {m : Nd} (h : L.find? (fun m => decide (m.path = p)) = some m) : m.path = p := by
 have := List.find?_some h
 simpa using this
theorem goS_iff (L : List Nd) : ∀ (r : List Nd) (prev : Option ByteArray), goS L prev r = true ↔ (∀ n ∈ r, zb n = true ∧ dirS L (parent n.path) = true) ∧ r.Pairwise (fun a b => za6 (names a.path) (names b.path) = true) ∧ ∀ n ∈ r, prevB prev n.path = true := by
 intro r
 induction r with
 | nil => intro prev; simp [goS]
 | cons m r ih =>
  intro prev
  simp only [goS, Bool.and_eq_true]
  rw [ih]
  constructor
  ·rintro ⟨⟨⟨h1, h2⟩, h3⟩, h4, h5, h6⟩
   refine ⟨fun n hn => ?_, List.Pairwise.cons (fun n hn => h6 n hn) h5, fun n hn => ?_⟩
   ·rcases List.mem_cons.1 hn with rfl | hn
    ·exact ⟨h1, h3⟩
    ·exact h4 n hn
   ·rcases List.mem_cons.1 hn with rfl | hn
    ·exact h2
    ·cases prev with
     | none => rfl
     | some q => exact zj5 _ _ _ h2 (h6 n hn)
  ·rintro ⟨h1, h2, h3⟩
   obtain ⟨h4, h5⟩ := List.pairwise_cons.1 h2
   exact ⟨⟨⟨(h1 m (List.mem_cons_self ..)).1, h3 m (List.mem_cons_self ..)⟩, (h1 m (List.mem_cons_self ..)).2⟩, fun n hn => h1 n (List.mem_cons_of_mem _ hn), h5, fun n hn => h4 n hn⟩
theorem zl (L : List Nd) : za2 L = true ↔ L.length ≤ 40 ∧ (∀ n ∈ L, zb n = true ∧ dirS L (parent n.path) = true) ∧ L.Pairwise (fun a b => za6 (names a.path) (names b.path) = true) := by
 rw [za2, ← tree_same, Bool.and_eq_true, decide_eq_true_eq, goS_iff]
 constructor
 ·rintro ⟨h1, h2, h3, -⟩; exact ⟨h1, h2, h3⟩
 ·rintro ⟨h1, h2, h3⟩; exact ⟨h1, h2, h3, fun n hn => rfl⟩
theorem zx2 {L : List Nd} (h : L.Pairwise (fun a b => za6 (names a.path) (names b.path) = true)) (p : ByteArray) : dirS L p = true ↔ p.size = 0 ∨ ∃ m ∈ L, m.path = p ∧ m.kind = 1 := by
 simp only [dirS, Bool.or_eq_true, decide_eq_true_eq]
 refine or_congr Iff.rfl ?_
 cases hf : L.find? (fun m => decide (m.path = p)) with
 | none =>
  rw [List.find?_eq_none] at hf
  constructor
  ·intro h; cases h
  ·rintro ⟨m, hm, e, _⟩; exact absurd (decide_eq_true e) (hf m hm)
 | some m' =>
  have h1 := List.mem_of_find?_eq_some hf
  have h2 := find_path hf
  simp only [decide_eq_true_eq]
  constructor
  ·intro h3; exact ⟨m', h1, h2, h3⟩
  ·rintro ⟨m, hm, e, hk⟩
   rw [one_path h h1 hm (h2.trans e.symm)]; exact hk
end Pl
end Go.Proofs.YtcogaghibpajjaaGreatDoor

namespace Go.Proofs.YtcogaghibpajjaaGreatDoor
namespace Pl
theorem zz5 : ∀ a b : List UInt8, a ≠ b → Op.bytesLess a b = !Op.bytesLess b a := by
 intro a
 induction a with
 | nil => intro b h; cases b with
  | nil => exact absurd rfl h
  | cons c b => rfl
 | cons x a ih =>
  intro b h
  cases b with
  | nil => rfl
  | cons y b =>
   simp only [Op.bytesLess]
   by_cases hxy : x = y
   ·subst hxy
    have hab : a ≠ b := fun e => h (by rw [e])
    rw [ih b hab]; simp
   ·have h1 : (x == y) = false := by simpa using hxy
    have h2 : (y == x) = false := by simpa using fun e : y = x => hxy e.symm
    rw [h1, h2]
    simp only [Bool.false_and, Bool.or_false]
    by_cases hlt : x < y
    ·have : ¬ y < x := by rw [UInt8.lt_iff_toNat_lt] at hlt ⊢; omega
     simp [hlt, this]
    ·have : y < x := by
      rw [UInt8.lt_iff_toNat_lt] at hlt ⊢
      have : x.toNat ≠ y.toNat := fun e => hxy (UInt8.toNat_inj.1 e)
      omega
     simp [hlt, this]
theorem less_anti : ∀ A B : List ByteArray, A ≠ B → za6 A B = !za6 B A := by
 intro A
 induction A with
 | nil => intro B h; cases B with
  | nil => exact absurd rfl h
  | cons b B => rfl
 | cons a A ih =>
  intro B h
  cases B with
  | nil => rfl
  | cons b B =>
   rw [za6, za6]
   by_cases hab : a = b
   ·subst hab
    rw [if_pos rfl, if_pos rfl]
    exact ih B (fun e => h (by rw [e]))
   ·rw [if_neg hab, if_neg (fun e => hab e.symm)]
    refine zz5 _ _ ?_
    rw [ByteArray.toList_eq, ByteArray.toList_eq]
    exact fun e => hab (zi1 e)
theorem ye6 {p : ByteArray} (h : za3 p = true) : glue (zb6 p) = p := by rw [ze4 h, zl7]
theorem glue_one (n : ByteArray) : glue [n] = n := by apply zi1; rw [zo5]; rfl
theorem path_inj {a b : ByteArray} (ha : za3 a = true) (hb : za3 b = true) (h : zb6 a = zb6 b) : a = b := by
 rw [← ye6 ha, ← ye6 hb, h]
theorem two_less {a b : ByteArray} (ha : za3 a = true) (hb : za3 b = true) (h : a ≠ b) : (za3 a && za3 b && za6 (zb6 a) (zb6 b)) = !(za3 b && za3 a && za6 (zb6 b) (zb6 a)) := by
 rw [ha, hb, Bool.true_and, Bool.true_and, Bool.true_and]
 exact less_anti _ _ (fun e => h (path_inj ha hb e))
end Pl
end Go.Proofs.YtcogaghibpajjaaGreatDoor

namespace Go.Proofs.YtcogaghibpajjaaGreatDoor
namespace Pl
theorem zq7 {q p : ByteArray} (hq : za3 q = true) (h0 : q.size ≠ 0) (h : parent q = p) : names q = names p ++ [base q] := by
 have hn : names p = (names q).dropLast := by rw [← h, yd8 hq, yc9 hq]
 have hne : names q ≠ [] := yb4 h0
 have hl := List.length_pos_iff.2 hne
 have hc : (names q).dropLast ++ [(names q).getLast hne] = names q := List.dropLast_concat_getLast hne
 have hd : (names q).drop ((names q).length - 1) = [(names q).getLast hne] := by
  have e : (names q).length - 1 = (names q).dropLast.length := by rw [List.length_dropLast]
  rw [e]
  conv => lhs; arg 2; rw [← hc]
  exact List.drop_left
 rw [hn, base_glue, hd, glue_one, hc]
theorem zv3 {L : List Nd} (h : za2 L = true) : ∀ n ∈ L, za3 n.path = true ∧ n.path.size ≠ 0 := by
 simp only [za2, Bool.and_eq_true, decide_eq_true_eq] at h
 exact fun n hn => ze3 (zo8 L _ _ h.2 n hn)
end Pl
end Go.Proofs.YtcogaghibpajjaaGreatDoor

namespace Go.Proofs.YtcogaghibpajjaaGreatDoor
open Go.RowKit
namespace Pl
structure Sg where
 told : Bool
 node : Nd
 have' : List Bool
def Sg.cs (s : Sg) : List Value := [.bool s.told, .string s.node.path, .int .i64 s.node.kind, .string s.node.data, .int .i64 s.node.time, .int .i64 s.node.mark] ++ s.have'.map .bool
def za8 : Nd := ⟨⟨#[]⟩, 0, ⟨#[]⟩, 0, 0⟩
def Sg.zero : Sg := ⟨false, za8, [false, false, false, false]⟩
def zi0 (n : Nd) (m : Int) : Nd := ⟨n.path, n.kind, n.data, n.time, max n.mark m⟩
def zc0 (s : Sg) (k : Nat) (n : Nd) : Sg := ⟨true, zi0 (if s.told then s.node else n) n.mark, s.have'.set k (decide (n.kind = 1))⟩
def zg1 (n : Nd) : Bool := !decide (n.kind = 1) || decide (0 < n.mark)
def upS (s : Sg) : Sg :=
 if s.node.kind = 0 ∧ max (s.node.mark - 1) 0 = 0 then Sg.zero else ⟨s.told, ⟨s.node.path, s.node.kind, s.node.data, s.node.time, max (s.node.mark - 1) 0⟩, s.have'⟩
def goD : Nat → Sg → List (Option Nd) → Sg
 | _, s, [] => s
 | k, s, none :: r => goD (k + 1) s r
 | k, s, some n :: r => if zg1 n then zc0 s k n else goD (k + 1) (zc0 s k n) r
def decS (ns : List (Option Nd)) : Sg := upS (goD 0 Sg.zero ns)
def lk (L : List Nd) (p : ByteArray) : Option Nd := L.find? (fun m => decide (m.path = p))
def nsOf : List Bool → List (List Nd) → ByteArray → List (Option Nd)
 | a :: ab, L :: Ls, p => (if a then lk L p else none) :: nsOf ab Ls p
 | _, _, _ => []
theorem ns_get (p : ByteArray) : ∀ (ab : List Bool) (Ls : List (List Nd)) (k : Nat) (a : Bool) (L : List Nd), ab[k]? = some a → Ls[k]? = some L → (nsOf ab Ls p)[k]? = some (if a then lk L p else none) := by
 intro ab
 induction ab with
 | nil => intro Ls k a L h; simp at h
 | cons x ab ih =>
  intro Ls k a L h1 h2
  cases Ls with
  | nil => simp at h2
  | cons M Ls =>
   cases k with
   | zero => simp at h1 h2; subst h1 h2; rfl
   | succ k => simp at h1 h2; simpa [nsOf] using ih Ls k a L h1 h2
theorem ns_len (p : ByteArray) : ∀ (ab : List Bool) (Ls : List (List Nd)), Ls.length ≤ ab.length → (nsOf ab Ls p).length = Ls.length := by
 intro ab
 induction ab with
 | nil => intro Ls h; cases Ls with | nil => rfl | cons => simp at h
 | cons x ab ih =>
  intro Ls h
  cases Ls with
  | nil => rfl
  | cons M Ls => simp [nsOf]; exact ih Ls (by simpa using h)
theorem go_step {ns : List (Option Nd)} {k : Nat} {x : Option Nd} (h : ns[k]? = some x) (j : Nat) (s : Sg) : goD j s (ns.drop k) = match x with | none => goD (j + 1) s (ns.drop (k + 1)) | some n => if zg1 n then zc0 s j n else goD (j + 1) (zc0 s j n) (ns.drop (k + 1)) := by
 have h1 := List.getElem?_eq_some_iff.1 h
 rw [List.drop_eq_getElem_cons h1.1, h1.2]
 cases x <;> rfl
theorem go_end {ns : List (Option Nd)} {k : Nat} (h : ns.length ≤ k) (j : Nat) (s : Sg) : goD j s (ns.drop k) = s := by
 rw [List.drop_eq_nil_of_le h]; rfl
theorem take_len (s : Sg) (k : Nat) (n : Nd) : (zc0 s k n).have'.length = s.have'.length := by simp [zc0]
theorem take_mark {s : Sg} {k : Nat} {n : Nd} (h : 0 ≤ s.node.mark ∧ s.node.mark ≤ 8) (hn : 0 ≤ n.mark ∧ n.mark ≤ 8) : 0 ≤ (zc0 s k n).node.mark ∧ (zc0 s k n).node.mark ≤ 8 := by
 unfold zc0 zi0
 cases s.told <;> simp <;> omega
theorem up_len {s : Sg} (h : s.have'.length = 4) : (upS s).have'.length = 4 := by
 unfold upS
 split
 ·rfl
 ·exact h
end Pl
end Go.Proofs.YtcogaghibpajjaaGreatDoor

namespace Go.Proofs.YtcogaghibpajjaaGreatDoor
open Go.RowKit
namespace Pl
structure Ot where
 ok : Bool
 node : Nd
 parts : List Nat
def finO (o : Ot) (mark : Int) : Ot := ⟨o.ok, ⟨o.node.path, o.node.kind, o.node.data, o.node.time, max 0 (mark - 1)⟩, o.parts⟩
def zd2 (p : ByteArray) (o : Ot) (mark : Int) : List (Nat × Option Nd) → Ot
 | [] => finO o mark
 | (_, none) :: r => zd2 p o mark r
 | (k, some n) :: r =>
  if o.parts = [] then
   if n.kind = 1 then (if 0 < n.mark then finO ⟨true, ⟨p, 1, ⟨#[]⟩, n.time, 0⟩, [k]⟩ (max mark n.mark) else zd2 p ⟨true, ⟨p, 1, ⟨#[]⟩, n.time, 0⟩, [k]⟩ (max mark n.mark) r)
   else if n.kind = 0 then ⟨decide (1 < n.mark), ⟨p, 0, ⟨#[]⟩, 0, n.mark - 1⟩, []⟩ else ⟨true, n, []⟩
  else if n.kind = 1 then (if 0 < n.mark then finO ⟨o.ok, o.node, o.parts ++ [k]⟩ (max mark n.mark) else zd2 p ⟨o.ok, o.node, o.parts ++ [k]⟩ (max mark n.mark) r) else finO o (max mark n.mark)
def numb : Nat → List (Option Nd) → List (Nat × Option Nd)
 | _, [] => []
 | k, x :: r => (k, x) :: numb (k + 1) r
def zb3 (ks : List Nat) : List Bool := (List.range 4).map (fun j => decide (j ∈ ks))
theorem parts_in {ks : List Nat} {k : Nat} (h : k < 4) : (zb3 ks).set k true = zb3 (ks ++ [k]) := by
 obtain rfl | rfl | rfl | rfl : k = 0 ∨ k = 1 ∨ k = 2 ∨ k = 3 := by omega
 all_goals simp [zb3, List.range_succ]
theorem parts_out {ks : List Nat} {k : Nat} (h : k < 4) (hk : k ∉ ks) : (zb3 ks).set k false = zb3 ks := by
 obtain rfl | rfl | rfl | rfl : k = 0 ∨ k = 1 ∨ k = 2 ∨ k = 3 := by omega
 all_goals simp [zb3, List.range_succ, hk]
structure SameO (o : Ot) (s : Sg) : Prop where
 told : o.ok = s.told
 node : o.ok = true → o.node = s.node
 parts : s.have' = zb3 o.parts
 dir : o.parts ≠ [] → o.ok = true ∧ o.node.kind = 1
 no : o.parts = [] → o.ok = true → o.node.kind ≠ 1
theorem yg8 {d : ByteArray} (h : d.size = 0) : d = ⟨#[]⟩ := by
 cases d with
 | mk a => have : a = #[] := Array.size_eq_zero_iff.1 h; rw [this]
def zw0 (p : ByteArray) (ns : List (Option Nd)) : Prop := ∀ n, some n ∈ ns → zb n = true ∧ n.path = p
theorem yb1 {p : ByteArray} {t mark : Int} {ks : List Nat} (hks : ks ≠ []) : SameO (finO ⟨true, ⟨p, 1, ⟨#[]⟩, t, 0⟩, ks⟩ mark) (upS ⟨true, ⟨p, 1, ⟨#[]⟩, t, mark⟩, zb3 ks⟩) := by
 have hu : upS ⟨true, ⟨p, 1, ⟨#[]⟩, t, mark⟩, zb3 ks⟩ = ⟨true, ⟨p, 1, ⟨#[]⟩, t, max (mark - 1) 0⟩, zb3 ks⟩ := by
  unfold upS
  rw [if_neg (by simp)]
 rw [hu]
 refine ⟨rfl, fun _ => ?_, rfl, fun _ => ⟨rfl, rfl⟩, fun h => absurd h hks⟩
 simp only [finO]
 rw [Int.max_comm]
theorem pick_dirs (p : ByteArray) : ∀ (ns : List (Option Nd)) (k : Nat) (t mark : Int) (ks : List Nat), zw0 p ns → k + ns.length ≤ 4 → ks ≠ [] → (∀ j ∈ ks, j < k) → 0 ≤ mark →
  SameO (zd2 p ⟨true, ⟨p, 1, ⟨#[]⟩, t, 0⟩, ks⟩ mark (numb k ns)) (upS (goD k ⟨true, ⟨p, 1, ⟨#[]⟩, t, mark⟩, zb3 ks⟩ ns)) := by
 intro ns
 induction ns with
 | nil => intro k t mark ks _ _ hks _ hm; exact yb1 hks
 | cons x ns ih =>
  intro k t mark ks hr hl hks hlt hm
  have hr' : zw0 p ns := fun n hn => hr n (List.mem_cons_of_mem _ hn)
  simp only [List.length_cons] at hl
  cases x with
  | none => exact ih (k + 1) t mark ks hr' (by omega) hks (fun j hj => Nat.lt_succ_of_lt (hlt j hj)) hm
  | some n =>
   have hnk : k ∉ ks := fun h => absurd (hlt k h) (Nat.lt_irrefl _)
   have hm2 : 0 ≤ max mark n.mark := by omega
   simp only [numb, zd2, goD]
   rw [if_neg hks]
   by_cases hk : n.kind = 1
   ·have htk : zc0 ⟨true, ⟨p, 1, ⟨#[]⟩, t, mark⟩, zb3 ks⟩ k n = ⟨true, ⟨p, 1, ⟨#[]⟩, t, max mark n.mark⟩, zb3 (ks ++ [k])⟩ := by
     simp only [zc0, zi0, if_true, hk, decide_true]
     rw [parts_in (by omega)]
    rw [htk, if_pos hk]
    by_cases hmk : 0 < n.mark
    ·have hst : zg1 n = true := by simp [zg1, hmk]
     rw [if_pos hmk, hst, if_pos rfl]
     exact yb1 (by simp)
    ·have hst : zg1 n = false := by simp [zg1, hmk, hk]
     rw [if_neg hmk, hst, if_neg (by decide)]
     exact ih (k + 1) t _ (ks ++ [k]) hr' (by omega) (by simp) (fun j hj => by
      rcases List.mem_append.1 hj with h | h
      ·exact Nat.lt_succ_of_lt (hlt j h)
      ·simp at h; omega) hm2
   ·have htk : zc0 ⟨true, ⟨p, 1, ⟨#[]⟩, t, mark⟩, zb3 ks⟩ k n = ⟨true, ⟨p, 1, ⟨#[]⟩, t, max mark n.mark⟩, zb3 ks⟩ := by
     simp only [zc0, zi0, if_true, hk, decide_false]
     rw [parts_out (by omega) hnk]
    have hst : zg1 n = true := by simp [zg1, hk]
    rw [htk, if_neg hk, hst, if_pos rfl]
    exact yb1 hks
theorem pick_same (p : ByteArray) : ∀ (ns : List (Option Nd)) (k : Nat), zw0 p ns → k + ns.length ≤ 4 → SameO (zd2 p ⟨false, za8, []⟩ 0 (numb k ns)) (upS (goD k ⟨false, za8, zb3 []⟩ ns)) := by
 intro ns
 induction ns with
 | nil =>
  intro k _ _
  have hu : upS (goD k ⟨false, za8, zb3 []⟩ []) = Sg.zero := by
   show upS ⟨false, za8, zb3 []⟩ = Sg.zero
   unfold upS
   rw [if_pos ⟨rfl, by show max ((0 : Int) - 1) 0 = 0; decide⟩]
  rw [hu]
  exact ⟨rfl, fun h => (by cases h), rfl, fun h => absurd rfl h, fun _ h => (by cases h)⟩
 | cons x ns ih =>
  intro k hr hl
  have hr' : zw0 p ns := fun n hn => hr n (List.mem_cons_of_mem _ hn)
  simp only [List.length_cons] at hl
  cases x with
  | none => exact ih (k + 1) hr' (by omega)
  | some n =>
   obtain ⟨hb, hp⟩ := hr n List.mem_cons_self
   obtain ⟨-, -, hmk8, hkd⟩ := zh0 hb
   obtain ⟨np, nk, nd, nt, nm⟩ := n
   simp only at hp hmk8
   subst hp
   have hnm : max nm nm = nm := by omega
   have hnk : k ∉ ([] : List Nat) := by simp
   simp only [numb, zd2, goD, if_true]
   by_cases hk : nk = 1
   ·subst hk
    have hd : nd = ⟨#[]⟩ := by
     simp [zj4] at hkd
     first | exact hkd | exact yg8 hkd
    subst hd
    have htk : zc0 ⟨false, za8, zb3 []⟩ k ⟨np, 1, ⟨#[]⟩, nt, nm⟩ = ⟨true, ⟨np, 1, ⟨#[]⟩, nt, nm⟩, zb3 ([] ++ [k])⟩ := by
     simp only [zc0, zi0, Bool.false_eq_true, if_false, decide_true, hnm]
     rw [parts_in (by omega)]
    have hm0 : max 0 nm = nm := by omega
    rw [htk, hm0, List.nil_append, if_pos (rfl : (1 : Int) = 1)]
    by_cases hmk : 0 < nm
    ·have hst : zg1 ⟨np, 1, ⟨#[]⟩, nt, nm⟩ = true := by simp [zg1, hmk]
     rw [if_pos hmk, hst, if_pos rfl]
     exact yb1 (by simp)
    ·have hst : zg1 ⟨np, 1, ⟨#[]⟩, nt, nm⟩ = false := by simp [zg1, hmk]
     rw [if_neg hmk, hst, if_neg (by decide)]
     exact pick_dirs np ns (k + 1) nt nm [k] hr' (by omega) (by simp) (fun j hj => by simp at hj; omega) hmk8.1
   ·have htk : zc0 ⟨false, za8, zb3 []⟩ k ⟨np, nk, nd, nt, nm⟩ = ⟨true, ⟨np, nk, nd, nt, nm⟩, zb3 []⟩ := by
     simp only [zc0, zi0, Bool.false_eq_true, if_false, hk, decide_false, hnm]
     rw [parts_out (by omega) hnk]
    have hst : zg1 ⟨np, nk, nd, nt, nm⟩ = true := by simp [zg1, hk]
    rw [htk, if_neg hk, hst, if_pos rfl]
    by_cases hz : nk = 0
    ·subst hz
     simp [zj4] at hkd
     obtain ⟨⟨hd, ht⟩, hm⟩ := hkd
     have hd2 : nd = ⟨#[]⟩ := by first | exact hd | exact yg8 hd
     subst hd2 ht
     rw [if_pos rfl]
     by_cases h1 : nm = 1
     ·subst h1
      have hu : upS ⟨true, ⟨np, 0, ⟨#[]⟩, 0, 1⟩, zb3 []⟩ = Sg.zero := by
       unfold upS
       rw [if_pos ⟨rfl, by show max ((1 : Int) - 1) 0 = 0; decide⟩]
      rw [hu]
      exact ⟨rfl, fun h => (by cases h), rfl, fun h => absurd rfl h, fun _ h => (by cases h)⟩
     ·have hu : upS ⟨true, ⟨np, 0, ⟨#[]⟩, 0, nm⟩, zb3 []⟩ = ⟨true, ⟨np, 0, ⟨#[]⟩, 0, nm - 1⟩, zb3 []⟩ := by
       unfold upS
       rw [if_neg (by simp only; omega), show max (nm - 1) 0 = nm - 1 by omega]
      rw [hu]
      exact ⟨by simp; omega, fun _ => rfl, rfl, fun h => absurd rfl h, fun _ _ => (by show (0 : Int) ≠ 1; decide)⟩
    ·have h2 : nm = 0 := by
      simp [zj4, hz, hk] at hkd
      exact hkd.2
     subst h2
     have hu : upS ⟨true, ⟨np, nk, nd, nt, 0⟩, zb3 []⟩ = ⟨true, ⟨np, nk, nd, nt, 0⟩, zb3 []⟩ := by
      unfold upS
      rw [if_neg (fun h => hz h.1)]
      rfl
     rw [hu, if_neg hz]
     exact ⟨rfl, fun _ => rfl, rfl, fun h => absurd rfl h, fun _ _ => hk⟩
theorem pick_dec {p : ByteArray} {ns : List (Option Nd)} (hr : zw0 p ns) (hl : ns.length ≤ 4) : SameO (zd2 p ⟨false, za8, []⟩ 0 (numb 0 ns)) (decS ns) := pick_same p ns 0 hr (by omega)
end Pl
end Go.Proofs.YtcogaghibpajjaaGreatDoor

namespace Go.Proofs.YtcogaghibpajjaaGreatDoor
open Go.RowKit
namespace Pl
def zeroO : Ot := ⟨false, za8, []⟩
def askO (Ls : List (List Nd)) (ks : List Nat) (q : ByteArray) : List (Nat × Option Nd) := ks.map (fun k => (k, lk (Ls.getD k []) q))
def zg6 (Ls : List (List Nd)) (ks : List Nat) (q : ByteArray) : Ot := zd2 q zeroO 0 (askO Ls ks q)
end Pl
end Go.Proofs.YtcogaghibpajjaaGreatDoor

namespace Go.Proofs.YtcogaghibpajjaaGreatDoor
open Go.RowKit
namespace Pl
theorem ns_mem : ∀ (ab : List Bool) (Ls : List (List Nd)) (p : ByteArray) (n : Nd), some n ∈ nsOf ab Ls p → ∃ L ∈ Ls, n ∈ L := by
 intro ab
 induction ab with
 | nil => intro Ls p n h; simp [nsOf] at h
 | cons a ab ih =>
  intro Ls p n h
  cases Ls with
  | nil => simp [nsOf] at h
  | cons L Ls =>
   rw [nsOf] at h
   rcases List.mem_cons.1 h with h | h
   ·cases a
    ·simp at h
    ·simp only [if_true] at h
     exact ⟨L, List.mem_cons_self, by
      have h2 := h.symm
      unfold lk at h2
      exact List.mem_of_find?_eq_some h2⟩
   ·obtain ⟨M, hM, hn⟩ := ih Ls p n h
    exact ⟨M, List.mem_cons_of_mem _ hM, hn⟩
end Pl
end Go.Proofs.YtcogaghibpajjaaGreatDoor

namespace Go.Proofs.YtcogaghibpajjaaGreatDoor
namespace Pl
def ze1 (p : ByteArray) (L : List Nd) : List ByteArray := (L.filter (fun n => decide (parent n.path = p))).map (fun n => base n.path)
theorem kids_in {L : List Nd} {p : ByteArray} {k : Nat} {n : Nd} (hn : L[k]? = some n) (h : parent n.path = p) : ze1 p (L.take (k + 1)) = ze1 p (L.take k) ++ [base n.path] := by
 have h1 := List.getElem?_eq_some_iff.1 hn
 rw [List.take_succ_eq_append_getElem h1.1, h1.2]
 simp [ze1, h]
theorem kids_out {L : List Nd} {p : ByteArray} {k : Nat} {n : Nd} (hn : L[k]? = some n) (h : parent n.path ≠ p) : ze1 p (L.take (k + 1)) = ze1 p (L.take k) := by
 have h1 := List.getElem?_eq_some_iff.1 hn
 rw [List.take_succ_eq_append_getElem h1.1, h1.2]
 simp [ze1, h]
theorem kids_len (p : ByteArray) (L : List Nd) (k : Nat) : (ze1 p (L.take k)).length ≤ k := by
 have h1 : (ze1 p (L.take k)).length ≤ (L.take k).length := by simpa [ze1] using List.length_filter_le _ (L.take k)
 have h2 : (L.take k).length ≤ k := by simp; omega
 omega
theorem zt1 {L : List Nd} (h : za2 L = true) : L.Pairwise (fun a b => a.path ≠ b.path) := by
 have h2 : goI [] ⟨#[]⟩ L = true := by unfold za2 at h; simp at h; exact h.2
 exact (goI_rise L [] ⟨#[]⟩ h2 (zf9 rfl).1).1.imp (fun {a b} hab e => by rw [e, zg3] at hab; cases hab)
theorem tree_rise' {L : List Nd} (h : za2 L = true) : L.Pairwise (fun a b => ltP a.path b.path = true) := by
 simp only [za2, Bool.and_eq_true, decide_eq_true_eq] at h
 have hn := zo8 L _ _ h.2
 have hr := (goI_rise L [] ⟨#[]⟩ h.2 (zf9 rfl).1).1
 exact List.Pairwise.imp_of_mem (fun {a b} ha hb hab => by rw [zg4 (ze3 (hn a ha)).1 (ze3 (hn b hb)).1]; exact hab) hr
end Pl
end Go.Proofs.YtcogaghibpajjaaGreatDoor

namespace Go.Proofs.YtcogaghibpajjaaGreatDoor
namespace Pl
def fill : Fo → List (Int × List Nd) → Fx × List (Int × List Nd)
 | .nil, xs => (.nil, xs)
 | .cons _ _, [] => (.nil, [])
 | .cons k m, x :: xs => (.cons x.2 (fill k xs).1 (fill m (fill k xs).2).1, (fill m (fill k xs).2).2)
theorem fill_flat (X : Fx) : ∀ R, fill X.shape (X.flat ++ R) = (X, R) := by
 induction X with
 | nil => intro R; rfl
 | cons L k m ih1 ih2 =>
  intro R
  rw [Fx.shape, Fx.flat, List.cons_append, fill, List.append_assoc, ih1, ih2]
def zo0 (xs : List (Int × List Nd)) : Option (List Nd × Fx) := match nest (rowO xs) with
 | none => none
 | some k => match (fill (.cons k .nil) xs).1 with
  | .cons L K _ => some (L, K)
  | .nil => none
theorem zv4 {xs : List (Int × List Nd)} (h : nest (rowO xs) = none) : zo0 xs = none := by unfold zo0; rw [h]
theorem zu8 {xs : List (Int × List Nd)} {L : List Nd} {k : Fx} (h : nest (rowO xs) = some k.shape) (hf : (Fx.cons L k .nil).flat = xs) : zo0 xs = some (L, k) := by
 unfold zo0
 rw [h]
 have := fill_flat (Fx.cons L k .nil) []
 rw [List.append_nil, hf] at this
 have e2 : fill (Fo.cons k.shape .nil) xs = (Fx.cons L k .nil, []) := this
 simp only [e2]
theorem parse_fill (f : Nat) : ∀ k (xs : List (Int × List Nd)) F R, parse f k (rowO xs) = some (F, R) → ∃ X rest, Fx.shape X = F ∧ R = rowO rest ∧ xs = X.flat ++ rest ∧ X.okX := by
 induction f with
 | zero =>
  intro k xs F R h
  cases k with
  | zero => simp [parse] at h; obtain ⟨rfl, rfl⟩ := h; exact ⟨.nil, xs, rfl, rfl, rfl, trivial⟩
  | succ k => simp [parse] at h
 | succ f ih =>
  intro k xs F R h
  cases k with
  | zero => simp [parse] at h; obtain ⟨rfl, rfl⟩ := h; exact ⟨.nil, xs, rfl, rfl, rfl, trivial⟩
  | succ k =>
   cases xs with
   | nil => simp [rowO, parse] at h
   | cons x xs =>
    have e : rowO (x :: xs) = zm9 x :: rowO xs := rfl
    rw [e] at h
    cases hx : zm9 x with
    | none => rw [hx] at h; simp [parse] at h
    | some m =>
     rw [hx] at h
     simp only [parse] at h
     split at h
     ·cases h
     ·rename_i kids R1 h1
      split at h
      ·cases h
      ·rename_i more R2 h2
       cases h
       obtain ⟨K, r1, e1, e2, e3, o1⟩ := ih _ _ _ _ h1
       rw [e2] at h2
       obtain ⟨M, r2, e4, e5, e6, o2⟩ := ih _ _ _ _ h2
       have hm := itemO_some hx
       have hl : K.len = m := by rw [← Fx.zy6, e1]; exact (zx6 _ _ _ _ _ h1).1
       have hb : zh5 x.1 x.2 = true := by
        unfold zm9 at hx
        split at hx
        ·assumption
        ·cases hx
       have hb2 : za2 x.2 = true ∧ (x.1 = 0 ∨ x.2 = []) := by
        unfold zh5 at hb
        simp only [Bool.and_eq_true, Bool.or_eq_true, decide_eq_true_eq, List.isEmpty_iff] at hb
        exact ⟨hb.2, hb.1.2⟩
       refine ⟨.cons x.2 K M, r2, by rw [Fx.shape, e1, e4], e5, ?_, hb2.1, ?_, by omega, o1, o2⟩
       ·rw [Fx.flat, hl, ← hm.1, List.cons_append, List.append_assoc, ← e6, ← e3]
       ·rcases hb2.2 with h0 | h0
        ·exact .inl (Fx.yb7 (by omega))
        ·exact .inr h0
theorem yc6 {xs : List (Int × List Nd)} {F : Fo} (h : nest (rowO xs) = some F) : ∃ L k, Fx.shape k = F ∧ (Fx.cons L k .nil).flat = xs ∧ (Fx.cons L k .nil).okX ∧ zo0 xs = some (L, k) := by
 obtain ⟨-, h2, -⟩ := yb8 h
 obtain ⟨X, rest, e1, e2, e3, o⟩ := parse_fill _ _ _ _ _ h2
 have hr : rest = [] := by
  cases rest with
  | nil => rfl
  | cons a b => simp [rowO] at e2
 subst hr
 rw [List.append_nil] at e3
 cases X with
 | nil => cases e1
 | cons L k m =>
  rw [Fx.shape] at e1
  simp only [Fo.cons.injEq] at e1
  have hm := Fx.shape_nil e1.2
  subst hm
  refine ⟨L, k, e1.1, e3.symm, o, zu8 (by rw [e1.1]; exact h) e3.symm⟩
theorem zs4 {xs : List (Int × List Nd)} {F : Fo} (h : nest (rowO xs) = some F) : xs.length ≤ 12 := by
 have := (yb8 h).1
 rw [zp9] at this
 exact this
end Pl
end Go.Proofs.YtcogaghibpajjaaGreatDoor

namespace Go.Proofs.YtcogaghibpajjaaGreatDoor
namespace Pl
def zk3 (L : List Nd) : Bool := za2 L && L.all (fun n => decide (n.mark = 0))
theorem plain_not {L : List Nd} (h : za2 L = false) : zk3 L = false := by simp [zk3, h]
theorem plain_bad {L : List Nd} {k : Nat} {n : Nd} (hn : L[k]? = some n) (h : n.mark ≠ 0) : zk3 L = false := by
 have : L.all (fun n => decide (n.mark = 0)) = false := by
  rw [List.all_eq_false]
  exact ⟨n, List.mem_of_getElem? hn, by simpa using h⟩
 simp [zk3, this]
theorem plain_good {L : List Nd} (h : ∀ (j : Nat) n, L[j]? = some n → n.mark = 0) : zk3 L = za2 L := by
 have : L.all (fun n => decide (n.mark = 0)) = true := by
  rw [List.all_eq_true]
  intro n hn
  obtain ⟨j, hj⟩ := List.mem_iff_getElem?.1 hn
  simpa using h j n hj
 simp [zk3, this]
theorem tree_node {L : List Nd} (h : za2 L = true) {k : Nat} {n : Nd} (hn : L[k]? = some n) : zb n = true := by
 simp only [za2, Bool.and_eq_true] at h
 exact zo8 L _ _ h.2 n (List.mem_of_getElem? hn)
theorem gone_mark {n : Nd} (h : zb n = true) (hk : n.kind = 0) : n.mark ≠ 0 := by
 have := (zh0 h).2.2.2
 simp [zj4, hk] at this
 omega
end Pl
end Go.Proofs.YtcogaghibpajjaaGreatDoor

namespace Go.Proofs.YtcogaghibpajjaaGreatDoor
namespace Pl
theorem sorted_ext {A B : List Nd} (hA : A.Pairwise (fun a b => za6 (names a.path) (names b.path) = true)) (hB : B.Pairwise (fun a b => za6 (names a.path) (names b.path) = true)) (h : ∀ n, n ∈ A ↔ n ∈ B) : A = B := by
 induction A generalizing B with
 | nil =>
  cases B with
  | nil => rfl
  | cons b B => exact absurd ((h b).2 (List.mem_cons_self ..)) (by simp)
 | cons a A ih =>
  cases B with
  | nil => exact absurd ((h a).1 (List.mem_cons_self ..)) (by simp)
  | cons b B =>
   have ha := List.pairwise_cons.1 hA
   have hb := List.pairwise_cons.1 hB
   have e : a = b := by
    rcases List.mem_cons.1 ((h a).1 (List.mem_cons_self ..)) with e | e
    ·exact e
    ·rcases List.mem_cons.1 ((h b).2 (List.mem_cons_self ..)) with e2 | e2
     ·exact e2.symm
     ·have h1 := hb.1 a e
      have h2 := ha.1 b e2
      have h3 := zj5 _ _ _ h1 h2
      rw [zg3] at h3
      cases h3
   subst e
   have hnA : a ∉ A := fun hm => by have := ha.1 a hm; rw [zg3] at this; cases this
   have hnB : a ∉ B := fun hm => by have := hb.1 a hm; rw [zg3] at this; cases this
   rw [ih ha.2 hb.2 (fun n => ⟨fun hn => by
    rcases List.mem_cons.1 ((h n).1 (List.mem_cons_of_mem _ hn)) with e | e
    ·subst e; exact absurd hn hnA
    ·exact e, fun hn => by
    rcases List.mem_cons.1 ((h n).2 (List.mem_cons_of_mem _ hn)) with e | e
    ·subst e; exact absurd hn hnB
    ·exact e⟩)]
end Pl
end Go.Proofs.YtcogaghibpajjaaGreatDoor

