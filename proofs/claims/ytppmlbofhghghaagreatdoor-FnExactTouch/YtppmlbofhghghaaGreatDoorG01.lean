/- Several texts of one claim in one file: PlainItem, PlainFx, PlainLaw, PlainKid, PlainSight, PlainPick, PlainAsk, PlainGetV, PlainSeen, PlainNames, PlainTreeI, PlainNestX, PlainPut, PlainPutP, PlainBelow, PlainOff, PlainPutM. -/
import Derived.Test.YtppmlbofhghghaaGreatDoorG00
import Derived.Below
import Derived.Deep.RegionHeld3
import Derived.Test.YtppmlbofhghghaaGreatDoorProg
import Derived.WalkSpells
import Derived.Lib.OthersKept
import Derived.Laws.RangeAny
import Derived.Deep.Draws
import Derived.Deep.QuietTactic
import Derived.BigQuiet
import Derived.RangeFuncNested
import Derived.RangeFuncBound
import Derived.RangeFuncCalls
import Derived.RangeFuncLeaves
import Derived.Shelf.Abstract
import Derived.Shelf.RegionOpen
import Derived.OwnWalkIn
import Derived.TacticsInMore
import Derived.LoopNIn
import Derived.LoopIn
import Derived.Laws.AppendOwn
import Derived.Maps.OwnSet
import Derived.Laws.EntriesVeiled
namespace Go.Proofs.YtppmlbofhghghaaGreatDoor
namespace Pl
def zk3 (m : Int) (L : List Nd) : Bool := decide (0 ≤ m) && decide (m ≤ 4) && (decide (m = 0) || L.isEmpty) && za5 L
def zr5 (x : Int × List Nd) : Option Nat := if zk3 x.1 x.2 = true then some x.1.toNat else none
def rowO (xs : List (Int × List Nd)) : Row := xs.map zr5
theorem treeB_nil : za5 [] = true := by rfl
theorem yn9 (L : List Nd) : zk3 0 L = za5 L := by simp [zk3]
theorem yj4 {m : Int} (h : m ≠ 0) (L : List Nd) : zk3 m L = (decide (1 ≤ m) && decide (m ≤ 4) && decide (L.length = 0)) := by
 unfold zk3
 rw [show decide (m = 0) = false from decide_eq_false h, Bool.false_or]
 have e : decide (0 ≤ m) = decide (1 ≤ m) := decide_eq_decide.2 (by omega)
 rw [e]
 cases L with
 | nil => simp [treeB_nil]
 | cons a L => simp
theorem yf8 {m : Int} {L : List Nd} (h : zk3 m L = true) : 0 ≤ m ∧ m ≤ 4 := by
 simp [zk3] at h
 exact ⟨h.1.1.1, h.1.1.2⟩
theorem itemO_yes {m : Int} {L : List Nd} (h : zk3 m L = true) : zr5 (m, L) = some m.toNat := by simp [zr5, h]
theorem itemO_no {m : Int} {L : List Nd} (h : zk3 m L = false) : zr5 (m, L) = none := by simp [zr5, h]
theorem yn4 {x : Int × List Nd} {k : Nat} (h : zr5 x = some k) : x.1 = (k : Int) ∧ k ≤ 4 := by
 unfold zr5 at h
 split at h
 ·rename_i hb
  have := yf8 hb
  cases h
  omega
 ·cases h
theorem zx7 (xs : List (Int × List Nd)) : (rowO xs).length = xs.length := by simp [rowO]
theorem rowO_at {xs : List (Int × List Nd)} {i : Nat} {x : Int × List Nd} (h : xs[i]? = some x) : (rowO xs).drop i = zr5 x :: (rowO xs).drop (i + 1) := by
 obtain ⟨h1, h2⟩ := List.getElem?_eq_some_iff.1 h
 rw [List.drop_eq_getElem_cons (by rw [zx7]; exact h1)]
 congr 1
 simp [rowO, h2]
def endI (n : Nat) : Option Row → Int
 | none => -1
 | some R => (n : Int) - (R.length : Int)
theorem ends_at {k deep p n : Nat} {L R : Row} (hn : L.length = n) (hp : p ≤ n) (h : ends k deep (L.drop p) = some R) : ∃ p' : Nat, endI n (some R) = (p' : Int) ∧ p' ≤ n ∧ L.drop p' = R := by
 obtain ⟨h1, h2⟩ := ends_len h
 rw [List.length_drop] at h1 h2
 refine ⟨n - R.length, by rw [endI]; omega, by omega, ?_⟩
 rw [List.drop_drop] at h2
 have e : p + (L.length - p - R.length) = n - R.length := by omega
 rw [e] at h2
 exact h2.symm
def Fo.sz : Fo → Nat
 | .nil => 0
 | .cons k m => k.sz + m.sz + 1
theorem Fo.len_le (F : Fo) : F.len ≤ F.sz := by
 induction F with
 | nil => simp [Fo.len]
 | cons k m _ ih => simp only [Fo.len, Fo.sz]; omega
theorem Fo.depth_le (F : Fo) : F.depth ≤ F.sz := by
 induction F with
 | nil => simp [Fo.depth]
 | cons k m ih1 ih2 => simp only [Fo.depth, Fo.sz]; omega
theorem parse_sz (f : Nat) : ∀ k L F R, parse f k L = some (F, R) → F.sz + R.length = L.length := by
 induction f with
 | zero =>
  intro k L F R h
  cases k with
  | zero => simp [parse] at h; obtain ⟨rfl, rfl⟩ := h; simp [Fo.sz]
  | succ k => simp [parse] at h
 | succ f ih =>
  intro k L F R h
  cases k with
  | zero => simp [parse] at h; obtain ⟨rfl, rfl⟩ := h; simp [Fo.sz]
  | succ k =>
   match L, h with
   | [], h => simp [parse] at h
   | none :: L, h => simp [parse] at h
   | some m :: L, h =>
    simp only [parse] at h
    split at h
    ·cases h
    ·rename_i kids R1 h1
     split at h
     ·cases h
     ·rename_i more R2 h2
      cases h
      have a1 := ih _ _ _ _ h1
      have a2 := ih _ _ _ _ h2
      simp only [Fo.sz, List.length_cons]
      omega
theorem take_sz {k : Nat} {L R : Row} {F : Fo} (h : take k L = some (F, R)) : F.sz + R.length = L.length := parse_sz _ _ _ _ _ h
theorem level_le (k : Fo) : k.level ≤ k.depth := by
 induction k with
 | nil => simp [Fo.level]
 | cons a b ih _ => simp only [Fo.level, Fo.depth]; omega
theorem nest_fail {L : Row} (h : take 1 L = none) : nest L = none := by
 unfold nest; rw [h]; simp
theorem nest_rest {L R : Row} {k : Fo} (h : take 1 L = some (.cons k .nil, R)) (hR : R.length ≠ 0) : nest L = none := by
 unfold nest; rw [h]
 cases R with
 | nil => simp at hR
 | cons a b => simp
theorem nest_deep {L R : Row} {k : Fo} (h : take 1 L = some (.cons k .nil, R)) (hd : 4 < k.depth + 1) : nest L = none := by
 unfold nest; rw [h]
 cases R with
 | nil => simp only; rw [if_neg (show ¬ k.depth ≤ 3 by omega)]; simp
 | cons a b => simp
theorem nest_ok {L R : Row} {k : Fo} (h12 : L.length ≤ 12) (h : take 1 L = some (.cons k .nil, R)) (hR : R.length = 0) (hd : ¬ 4 < k.depth + 1) : nest L = some k := by
 have e : R = [] := List.eq_nil_of_length_eq_zero hR
 subst e
 unfold nest; rw [if_pos h12, h]
 simp only
 rw [if_pos (show k.depth ≤ 3 by omega)]
def went (F : Fo) (o : Option (Fo × Row)) : Option (Fo × Row) := o.map (fun y => (F.app y.1, y.2))
theorem went_start (o : Option (Fo × Row)) : went .nil o = o := by cases o <;> rfl
theorem went_step {F kids : Fo} {k : Nat} {L R : Row} (h : take 1 L = some (.cons kids .nil, R)) : went F (take (k + 1) L) = went (F.app (.cons kids .nil)) (take k R) := by
 rw [yj9, h]
 cases h2 : take k R with
 | none => simp [went, h2]
 | some y => obtain ⟨m, R'⟩ := y; simp [went, h2, Fo.app_assoc]
theorem went_fail {F : Fo} {k : Nat} {L : Row} (h : take 1 L = none) : went F (take (k + 1) L) = none := by
 rw [yj9, h]; rfl
theorem went_end (F : Fo) (L : Row) : went F (take 0 L) = some (F, L) := by simp [went, take_zero, Fo.app_nil]
theorem rowO_drop (xs : List (Int × List Nd)) (k : Nat) : (rowO xs).drop k = rowO (xs.drop k) := by simp [rowO, List.map_drop]
end Pl
end Go.Proofs.YtppmlbofhghghaaGreatDoor

namespace Go.Proofs.YtppmlbofhghghaaGreatDoor
namespace Pl
inductive Fx where
 | nil : Fx
 | cons (L : List Nd) (kids more : Fx) : Fx
namespace Fx
def shape : Fx → Fo
 | .nil => .nil
 | .cons _ k m => .cons k.shape m.shape
def len : Fx → Nat
 | .nil => 0
 | .cons _ _ m => m.len + 1
def sz : Fx → Nat
 | .nil => 0
 | .cons _ k m => k.sz + m.sz + 1
def flat : Fx → List (Int × List Nd)
 | .nil => []
 | .cons L k m => ((k.len : Int), L) :: (k.flat ++ m.flat)
def app : Fx → Fx → Fx
 | .nil, r => r
 | .cons L k m, r => .cons L k (m.app r)
def okX : Fx → Prop
 | .nil => True
 | .cons L k m => za5 L = true ∧ (k = .nil ∨ L = []) ∧ k.len ≤ 4 ∧ k.okX ∧ m.okX
theorem zz2 (X : Fx) : X.shape.len = X.len := by
 induction X with
 | nil => rfl
 | cons L k m _ ih => rw [shape, Fo.len, len, ih]
theorem yd3 (X : Fx) : X.shape.sz = X.sz := by
 induction X with
 | nil => rfl
 | cons L k m ih1 ih2 => rw [shape, Fo.sz, sz, ih1, ih2]
theorem yc8 (X : Fx) : X.flat.length = X.sz := by
 induction X with
 | nil => rfl
 | cons L k m ih1 ih2 => rw [flat, List.length_cons, List.length_append, ih1, ih2, sz]
theorem shape_app (a b : Fx) : (a.app b).shape = a.shape.app b.shape := by
 induction a with
 | nil => rfl
 | cons L k m _ ih => rw [app, shape, shape, ih]; rfl
theorem len_app (a b : Fx) : (a.app b).len = a.len + b.len := by
 induction a with
 | nil => simp [app, len]
 | cons L k m _ ih => rw [app, len, len, ih]; omega
theorem flat_app (a b : Fx) : (a.app b).flat = a.flat ++ b.flat := by
 induction a with
 | nil => rfl
 | cons L k m _ ih => rw [app, flat, flat, ih]; simp
theorem ok_app {a b : Fx} (ha : a.okX) (hb : b.okX) : (a.app b).okX := by
 induction a with
 | nil => exact hb
 | cons L k m _ ih => exact ⟨ha.1, ha.2.1, ha.2.2.1, ha.2.2.2.1, ih ha.2.2.2.2⟩
theorem shape_nil {X : Fx} (h : X.shape = .nil) : X = .nil := by
 cases X with
 | nil => rfl
 | cons L k m => cases h
theorem yi6 {X : Fx} (h : X.len = 0) : X = .nil := by
 cases X with
 | nil => rfl
 | cons L k m => simp [len] at h
theorem len_le (X : Fx) : X.len ≤ X.sz := by
 induction X with
 | nil => exact Nat.le_refl _
 | cons L k m _ ih => rw [len, sz]; omega
theorem ok_mem {X : Fx} (h : X.okX) : ∀ x ∈ X.flat, za5 x.2 = true ∧ 0 ≤ x.1 ∧ x.1 ≤ 4 := by
 induction X with
 | nil => intro x hx; cases hx
 | cons L k m ih1 ih2 =>
  intro x hx
  rw [flat, List.mem_cons, List.mem_append] at hx
  rcases hx with rfl | hx | hx
  ·exact ⟨h.1, by omega, by have := h.2.2.1; omega⟩
  ·exact ih1 h.2.2.2.1 x hx
  ·exact ih2 h.2.2.2.2 x hx
end Fx
end Pl
end Go.Proofs.YtppmlbofhghghaaGreatDoor

namespace Go.Proofs.YtppmlbofhghghaaGreatDoor
namespace Pl
theorem zy0 : ∀ a b : List UInt8, a ≠ b → Op.bytesLess a b = !Op.bytesLess b a := by
 intro a
 induction a with
 | nil => intro b h; cases b with
  | nil => exact absurd rfl h
  | cons c b => rfl
 | cons x a ih =>
  intro b h
  cases b with
  | nil => rfl
  | cons y b =>
   simp only [Op.bytesLess]
   by_cases hxy : x = y
   ·subst hxy
    have hab : a ≠ b := fun e => h (by rw [e])
    rw [ih b hab]; simp
   ·have h1 : (x == y) = false := by simpa using hxy
    have h2 : (y == x) = false := by simpa using fun e : y = x => hxy e.symm
    rw [h1, h2]
    simp only [Bool.false_and, Bool.or_false]
    by_cases hlt : x < y
    ·have : ¬ y < x := by rw [UInt8.lt_iff_toNat_lt] at hlt ⊢; omega
     simp [hlt, this]
    ·have : y < x := by
      rw [UInt8.lt_iff_toNat_lt] at hlt ⊢
      have : x.toNat ≠ y.toNat := fun e => hxy (UInt8.toNat_inj.1 e)
      omega
     simp [hlt, this]
theorem less_anti : ∀ A B : List ByteArray, A ≠ B → zb0 A B = !zb0 B A := by
 intro A
 induction A with
 | nil => intro B h; cases B with
  | nil => exact absurd rfl h
  | cons b B => rfl
 | cons a A ih =>
  intro B h
  cases B with
  | nil => rfl
  | cons b B =>
   rw [zb0, zb0]
   by_cases hab : a = b
   ·subst hab
    rw [if_pos rfl, if_pos rfl]
    exact ih B (fun e => h (by rw [e]))
   ·rw [if_neg hab, if_neg (fun e => hab e.symm)]
    refine zy0 _ _ ?_
    rw [ByteArray.toList_eq, ByteArray.toList_eq]
    exact fun e => hab (zi3 e)
theorem less_under : ∀ A B : List ByteArray, (∀ (j : Nat) t, B[j]? = some t → A[j]? = some t) → zb0 A B = false := by
 intro A
 induction A with
 | nil => intro B h; cases B with
  | nil => rfl
  | cons b B => have := h 0 b rfl; cases this
 | cons a A ih =>
  intro B h
  cases B with
  | nil => rfl
  | cons b B =>
   have h0 := h 0 b rfl
   simp at h0
   subst h0
   rw [zb0, if_pos rfl]
   exact ih B (fun j t ht => by have := h (j + 1) t (by simpa using ht); simpa using this)
theorem ym6 {p : ByteArray} (h : za3 p = true) : glue (zb2 p) = p := by rw [zc8 h, zo3]
theorem glue_one (n : ByteArray) : glue [n] = n := by apply zi3; rw [zt5]; rfl
theorem path_inj {a b : ByteArray} (ha : za3 a = true) (hb : za3 b = true) (h : zb2 a = zb2 b) : a = b := by
 rw [← ym6 ha, ← ym6 hb, h]
theorem two_less {a b : ByteArray} (ha : za3 a = true) (hb : za3 b = true) (h : a ≠ b) : (za3 a && za3 b && zb0 (zb2 a) (zb2 b)) = !(za3 b && za3 a && zb0 (zb2 b) (zb2 a)) := by
 rw [ha, hb, Bool.true_and, Bool.true_and, Bool.true_and]
 exact less_anti _ _ (fun e => h (path_inj ha hb e))
end Pl
end Go.Proofs.YtppmlbofhghghaaGreatDoor

namespace Go.Proofs.YtppmlbofhghghaaGreatDoor
namespace Pl
theorem ye7 {q p : ByteArray} (hq : za3 q = true) (h0 : q.size ≠ 0) (h : parent q = p) : names q = names p ++ [base q] := by
 have hn : names p = (names q).dropLast := by rw [← h, zr7 hq, yk4 hq]
 have hne : names q ≠ [] := zs1 h0
 have hl := List.length_pos_iff.2 hne
 have hc : (names q).dropLast ++ [(names q).getLast hne] = names q := List.dropLast_concat_getLast hne
 have hd : (names q).drop ((names q).length - 1) = [(names q).getLast hne] := by
  have e : (names q).length - 1 = (names q).dropLast.length := by rw [List.length_dropLast]
  rw [e]
  conv => lhs; arg 2; rw [← hc]
  exact List.drop_left
 rw [hn, base_glue, hd, glue_one, hc]
theorem yb1 {L : List Nd} (h : za5 L = true) : ∀ n ∈ L, za3 n.path = true ∧ n.path.size ≠ 0 := by
 simp only [za5, Bool.and_eq_true, decide_eq_true_eq] at h
 exact fun n hn => za9 (zs9 L _ _ h.2 n hn)
end Pl
end Go.Proofs.YtppmlbofhghghaaGreatDoor

namespace Go.Proofs.YtppmlbofhghghaaGreatDoor
open Go.RowKit
namespace Pl
structure Sg where
 told : Bool
 node : Nd
 have' : List Bool
def Sg.cs (s : Sg) : List Value := [.bool s.told, .string s.node.path, .int .i64 s.node.kind, .string s.node.data, .int .i64 s.node.time, .int .i64 s.node.mark] ++ s.have'.map .bool
def za7 : Nd := ⟨⟨#[]⟩, 0, ⟨#[]⟩, 0, 0⟩
def Sg.zero : Sg := ⟨false, za7, [false, false, false, false]⟩
def zm1 (n : Nd) (m : Int) : Nd := ⟨n.path, n.kind, n.data, n.time, max n.mark m⟩
def zh5 (s : Sg) (k : Nat) (n : Nd) : Sg := ⟨true, zm1 (if s.told then s.node else n) n.mark, s.have'.set k (decide (n.kind = 1))⟩
def zk0 (n : Nd) : Bool := !decide (n.kind = 1) || decide (0 < n.mark)
def upS (s : Sg) : Sg :=
 if s.node.kind = 0 ∧ max (s.node.mark - 1) 0 = 0 then Sg.zero else ⟨s.told, ⟨s.node.path, s.node.kind, s.node.data, s.node.time, max (s.node.mark - 1) 0⟩, s.have'⟩
def goD : Nat → Sg → List (Option Nd) → Sg
 | _, s, [] => s
 | k, s, none :: r => goD (k + 1) s r
 | k, s, some n :: r => if zk0 n then zh5 s k n else goD (k + 1) (zh5 s k n) r
def decS (ns : List (Option Nd)) : Sg := upS (goD 0 Sg.zero ns)
def lk (L : List Nd) (p : ByteArray) : Option Nd := L.find? (fun m => decide (m.path = p))
def nsOf : List Bool → List (List Nd) → ByteArray → List (Option Nd)
 | a :: ab, L :: Ls, p => (if a then lk L p else none) :: nsOf ab Ls p
 | _, _, _ => []
theorem ns_get (p : ByteArray) : ∀ (ab : List Bool) (Ls : List (List Nd)) (k : Nat) (a : Bool) (L : List Nd), ab[k]? = some a → Ls[k]? = some L → (nsOf ab Ls p)[k]? = some (if a then lk L p else none) := by
 intro ab
 induction ab with
 | nil => intro Ls k a L h; simp at h
 | cons x ab ih =>
  intro Ls k a L h1 h2
  cases Ls with
  | nil => simp at h2
  | cons M Ls =>
   cases k with
   | zero => simp at h1 h2; subst h1 h2; rfl
   | succ k => simp at h1 h2; simpa [nsOf] using ih Ls k a L h1 h2
theorem ns_len (p : ByteArray) : ∀ (ab : List Bool) (Ls : List (List Nd)), Ls.length ≤ ab.length → (nsOf ab Ls p).length = Ls.length := by
 intro ab
 induction ab with
 | nil => intro Ls h; cases Ls with | nil => rfl | cons => simp at h
 | cons x ab ih =>
  intro Ls h
  cases Ls with
  | nil => rfl
  | cons M Ls => simp [nsOf]; exact ih Ls (by simpa using h)
theorem go_step {ns : List (Option Nd)} {k : Nat} {x : Option Nd} (h : ns[k]? = some x) (j : Nat) (s : Sg) : goD j s (ns.drop k) = match x with | none => goD (j + 1) s (ns.drop (k + 1)) | some n => if zk0 n then zh5 s j n else goD (j + 1) (zh5 s j n) (ns.drop (k + 1)) := by
 have h1 := List.getElem?_eq_some_iff.1 h
 rw [List.drop_eq_getElem_cons h1.1, h1.2]
 cases x <;> rfl
theorem go_end {ns : List (Option Nd)} {k : Nat} (h : ns.length ≤ k) (j : Nat) (s : Sg) : goD j s (ns.drop k) = s := by
 rw [List.drop_eq_nil_of_le h]; rfl
theorem take_len (s : Sg) (k : Nat) (n : Nd) : (zh5 s k n).have'.length = s.have'.length := by simp [zh5]
theorem take_mark {s : Sg} {k : Nat} {n : Nd} (h : 0 ≤ s.node.mark ∧ s.node.mark ≤ 8) (hn : 0 ≤ n.mark ∧ n.mark ≤ 8) : 0 ≤ (zh5 s k n).node.mark ∧ (zh5 s k n).node.mark ≤ 8 := by
 unfold zh5 zm1
 cases s.told <;> simp <;> omega
theorem up_len {s : Sg} (h : s.have'.length = 4) : (upS s).have'.length = 4 := by
 unfold upS
 split
 ·rfl
 ·exact h
end Pl
end Go.Proofs.YtppmlbofhghghaaGreatDoor

namespace Go.Proofs.YtppmlbofhghghaaGreatDoor
open Go.RowKit
namespace Pl
structure Ot where
 ok : Bool
 node : Nd
 parts : List Nat
def finO (o : Ot) (mark : Int) : Ot := ⟨o.ok, ⟨o.node.path, o.node.kind, o.node.data, o.node.time, max 0 (mark - 1)⟩, o.parts⟩
def zg2 (p : ByteArray) (o : Ot) (mark : Int) : List (Nat × Option Nd) → Ot
 | [] => finO o mark
 | (_, none) :: r => zg2 p o mark r
 | (k, some n) :: r =>
  if o.parts = [] then
   if n.kind = 1 then (if 0 < n.mark then finO ⟨true, ⟨p, 1, ⟨#[]⟩, n.time, 0⟩, [k]⟩ (max mark n.mark) else zg2 p ⟨true, ⟨p, 1, ⟨#[]⟩, n.time, 0⟩, [k]⟩ (max mark n.mark) r)
   else if n.kind = 0 then ⟨decide (1 < n.mark), ⟨p, 0, ⟨#[]⟩, 0, n.mark - 1⟩, []⟩ else ⟨true, n, []⟩
  else if n.kind = 1 then (if 0 < n.mark then finO ⟨o.ok, o.node, o.parts ++ [k]⟩ (max mark n.mark) else zg2 p ⟨o.ok, o.node, o.parts ++ [k]⟩ (max mark n.mark) r) else finO o (max mark n.mark)
def numb : Nat → List (Option Nd) → List (Nat × Option Nd)
 | _, [] => []
 | k, x :: r => (k, x) :: numb (k + 1) r
def zc6 (ks : List Nat) : List Bool := (List.range 4).map (fun j => decide (j ∈ ks))
theorem parts_in {ks : List Nat} {k : Nat} (h : k < 4) : (zc6 ks).set k true = zc6 (ks ++ [k]) := by
 obtain rfl | rfl | rfl | rfl : k = 0 ∨ k = 1 ∨ k = 2 ∨ k = 3 := by omega
 all_goals simp [zc6, List.range_succ]
theorem parts_out {ks : List Nat} {k : Nat} (h : k < 4) (hk : k ∉ ks) : (zc6 ks).set k false = zc6 ks := by
 obtain rfl | rfl | rfl | rfl : k = 0 ∨ k = 1 ∨ k = 2 ∨ k = 3 := by omega
 all_goals simp [zc6, List.range_succ, hk]
structure SameO (o : Ot) (s : Sg) : Prop where
 told : o.ok = s.told
 node : o.ok = true → o.node = s.node
 parts : s.have' = zc6 o.parts
 dir : o.parts ≠ [] → o.ok = true ∧ o.node.kind = 1
 no : o.parts = [] → o.ok = true → o.node.kind ≠ 1
theorem yo6 {d : ByteArray} (h : d.size = 0) : d = ⟨#[]⟩ := by
 cases d with
 | mk a => have : a = #[] := Array.size_eq_zero_iff.1 h; rw [this]
def yc0 (p : ByteArray) (ns : List (Option Nd)) : Prop := ∀ n, some n ∈ ns → zb n = true ∧ n.path = p
theorem yi1 {p : ByteArray} {t mark : Int} {ks : List Nat} (hks : ks ≠ []) : SameO (finO ⟨true, ⟨p, 1, ⟨#[]⟩, t, 0⟩, ks⟩ mark) (upS ⟨true, ⟨p, 1, ⟨#[]⟩, t, mark⟩, zc6 ks⟩) := by
 have hu : upS ⟨true, ⟨p, 1, ⟨#[]⟩, t, mark⟩, zc6 ks⟩ = ⟨true, ⟨p, 1, ⟨#[]⟩, t, max (mark - 1) 0⟩, zc6 ks⟩ := by
  unfold upS
  rw [if_neg (by simp)]
 rw [hu]
 refine ⟨rfl, fun _ => ?_, rfl, fun _ => ⟨rfl, rfl⟩, fun h => absurd h hks⟩
 simp only [finO]
 rw [Int.max_comm]
theorem pick_dirs (p : ByteArray) : ∀ (ns : List (Option Nd)) (k : Nat) (t mark : Int) (ks : List Nat), yc0 p ns → k + ns.length ≤ 4 → ks ≠ [] → (∀ j ∈ ks, j < k) → 0 ≤ mark →
  SameO (zg2 p ⟨true, ⟨p, 1, ⟨#[]⟩, t, 0⟩, ks⟩ mark (numb k ns)) (upS (goD k ⟨true, ⟨p, 1, ⟨#[]⟩, t, mark⟩, zc6 ks⟩ ns)) := by
 intro ns
 induction ns with
 | nil => intro k t mark ks _ _ hks _ hm; exact yi1 hks
 | cons x ns ih =>
  intro k t mark ks hr hl hks hlt hm
  have hr' : yc0 p ns := fun n hn => hr n (List.mem_cons_of_mem _ hn)
  simp only [List.length_cons] at hl
  cases x with
  | none => exact ih (k + 1) t mark ks hr' (by omega) hks (fun j hj => Nat.lt_succ_of_lt (hlt j hj)) hm
  | some n =>
   have hnk : k ∉ ks := fun h => absurd (hlt k h) (Nat.lt_irrefl _)
   have hm2 : 0 ≤ max mark n.mark := by omega
   simp only [numb, zg2, goD]
   rw [if_neg hks]
   by_cases hk : n.kind = 1
   ·have htk : zh5 ⟨true, ⟨p, 1, ⟨#[]⟩, t, mark⟩, zc6 ks⟩ k n = ⟨true, ⟨p, 1, ⟨#[]⟩, t, max mark n.mark⟩, zc6 (ks ++ [k])⟩ := by
     simp only [zh5, zm1, if_true, hk, decide_true]
     rw [parts_in (by omega)]
    rw [htk, if_pos hk]
    by_cases hmk : 0 < n.mark
    ·have hst : zk0 n = true := by simp [zk0, hmk]
     rw [if_pos hmk, hst, if_pos rfl]
     exact yi1 (by simp)
    ·have hst : zk0 n = false := by simp [zk0, hmk, hk]
     rw [if_neg hmk, hst, if_neg (by decide)]
     exact ih (k + 1) t _ (ks ++ [k]) hr' (by omega) (by simp) (fun j hj => by
      rcases List.mem_append.1 hj with h | h
      ·exact Nat.lt_succ_of_lt (hlt j h)
      ·simp at h; omega) hm2
   ·have htk : zh5 ⟨true, ⟨p, 1, ⟨#[]⟩, t, mark⟩, zc6 ks⟩ k n = ⟨true, ⟨p, 1, ⟨#[]⟩, t, max mark n.mark⟩, zc6 ks⟩ := by
     simp only [zh5, zm1, if_true, hk, decide_false]
     rw [parts_out (by omega) hnk]
    have hst : zk0 n = true := by simp [zk0, hk]
    rw [htk, if_neg hk, hst, if_pos rfl]
    exact yi1 hks
theorem pick_same (p : ByteArray) : ∀ (ns : List (Option Nd)) (k : Nat), yc0 p ns → k + ns.length ≤ 4 → SameO (zg2 p ⟨false, za7, []⟩ 0 (numb k ns)) (upS (goD k ⟨false, za7, zc6 []⟩ ns)) := by
 intro ns
 induction ns with
 | nil =>
  intro k _ _
  have hu : upS (goD k ⟨false, za7, zc6 []⟩ []) = Sg.zero := by
   show upS ⟨false, za7, zc6 []⟩ = Sg.zero
   unfold upS
   rw [if_pos ⟨rfl, by show max ((0 : Int) - 1) 0 = 0; decide⟩]
  rw [hu]
  exact ⟨rfl, fun h => (by cases h), rfl, fun h => absurd rfl h, fun _ h => (by cases h)⟩
 | cons x ns ih =>
  intro k hr hl
  have hr' : yc0 p ns := fun n hn => hr n (List.mem_cons_of_mem _ hn)
  simp only [List.length_cons] at hl
  cases x with
  | none => exact ih (k + 1) hr' (by omega)
  | some n =>
   obtain ⟨hb, hp⟩ := hr n List.mem_cons_self
   obtain ⟨-, -, hmk8, hkd⟩ := zd3 hb
   obtain ⟨np, nk, nd, nt, nm⟩ := n
   simp only at hp hmk8
   subst hp
   have hnm : max nm nm = nm := by omega
   have hnk : k ∉ ([] : List Nat) := by simp
   simp only [numb, zg2, goD, if_true]
   by_cases hk : nk = 1
   ·subst hk
    have hd : nd = ⟨#[]⟩ := by
     simp [zk1] at hkd
     first | exact hkd | exact yo6 hkd
    subst hd
    have htk : zh5 ⟨false, za7, zc6 []⟩ k ⟨np, 1, ⟨#[]⟩, nt, nm⟩ = ⟨true, ⟨np, 1, ⟨#[]⟩, nt, nm⟩, zc6 ([] ++ [k])⟩ := by
     simp only [zh5, zm1, Bool.false_eq_true, if_false, decide_true, hnm]
     rw [parts_in (by omega)]
    have hm0 : max 0 nm = nm := by omega
    rw [htk, hm0, List.nil_append, if_pos (rfl : (1 : Int) = 1)]
    by_cases hmk : 0 < nm
    ·have hst : zk0 ⟨np, 1, ⟨#[]⟩, nt, nm⟩ = true := by simp [zk0, hmk]
     rw [if_pos hmk, hst, if_pos rfl]
     exact yi1 (by simp)
    ·have hst : zk0 ⟨np, 1, ⟨#[]⟩, nt, nm⟩ = false := by simp [zk0, hmk]
     rw [if_neg hmk, hst, if_neg (by decide)]
     exact pick_dirs np ns (k + 1) nt nm [k] hr' (by omega) (by simp) (fun j hj => by simp at hj; omega) hmk8.1
   ·have htk : zh5 ⟨false, za7, zc6 []⟩ k ⟨np, nk, nd, nt, nm⟩ = ⟨true, ⟨np, nk, nd, nt, nm⟩, zc6 []⟩ := by
     simp only [zh5, zm1, Bool.false_eq_true, if_false, hk, decide_false, hnm]
     rw [parts_out (by omega) hnk]
    have hst : zk0 ⟨np, nk, nd, nt, nm⟩ = true := by simp [zk0, hk]
    rw [htk, if_neg hk, hst, if_pos rfl]
    by_cases hz : nk = 0
    ·subst hz
     simp [zk1] at hkd
     obtain ⟨⟨hd, ht⟩, hm⟩ := hkd
     have hd2 : nd = ⟨#[]⟩ := by first | exact hd | exact yo6 hd
     subst hd2 ht
     rw [if_pos rfl]
     by_cases h1 : nm = 1
     ·subst h1
      have hu : upS ⟨true, ⟨np, 0, ⟨#[]⟩, 0, 1⟩, zc6 []⟩ = Sg.zero := by
       unfold upS
       rw [if_pos ⟨rfl, by show max ((1 : Int) - 1) 0 = 0; decide⟩]
      rw [hu]
      exact ⟨rfl, fun h => (by cases h), rfl, fun h => absurd rfl h, fun _ h => (by cases h)⟩
     ·have hu : upS ⟨true, ⟨np, 0, ⟨#[]⟩, 0, nm⟩, zc6 []⟩ = ⟨true, ⟨np, 0, ⟨#[]⟩, 0, nm - 1⟩, zc6 []⟩ := by
       unfold upS
       rw [if_neg (by simp only; omega), show max (nm - 1) 0 = nm - 1 by omega]
      rw [hu]
      exact ⟨by simp; omega, fun _ => rfl, rfl, fun h => absurd rfl h, fun _ _ => (by show (0 : Int) ≠ 1; decide)⟩
    ·have h2 : nm = 0 := by
      simp [zk1, hz, hk] at hkd
      exact hkd.2
     subst h2
     have hu : upS ⟨true, ⟨np, nk, nd, nt, 0⟩, zc6 []⟩ = ⟨true, ⟨np, nk, nd, nt, 0⟩, zc6 []⟩ := by
      unfold upS
      rw [if_neg (fun h => hz h.1)]
      rfl
     rw [hu, if_neg hz]
     exact ⟨rfl, fun _ => rfl, rfl, fun h => absurd rfl h, fun _ _ => hk⟩
theorem pick_dec {p : ByteArray} {ns : List (Option Nd)} (hr : yc0 p ns) (hl : ns.length ≤ 4) : SameO (zg2 p ⟨false, za7, []⟩ 0 (numb 0 ns)) (decS ns) := pick_same p ns 0 hr (by omega)
end Pl
end Go.Proofs.YtppmlbofhghghaaGreatDoor

namespace Go.Proofs.YtppmlbofhghghaaGreatDoor
open Go.RowKit
namespace Pl
def zeroO : Ot := ⟨false, za7, []⟩
def askO (Ls : List (List Nd)) (ks : List Nat) (q : ByteArray) : List (Nat × Option Nd) := ks.map (fun k => (k, lk (Ls.getD k []) q))
def zj1 (Ls : List (List Nd)) (ks : List Nat) (q : ByteArray) : Ot := zg2 q zeroO 0 (askO Ls ks q)
end Pl
end Go.Proofs.YtppmlbofhghghaaGreatDoor

namespace Go.Proofs.YtppmlbofhghghaaGreatDoor
open Go.RowKit
namespace Pl
theorem zk4 {L : List Nd} (h : za5 L = true) : L.Pairwise (fun a b => a.path ≠ b.path) := by
 have h2 : goI [] ⟨#[]⟩ L = true := by unfold za5 at h; simp at h; exact h.2
 exact (yi5 L [] ⟨#[]⟩ h2 (zh6 rfl).1).1.imp (fun {a b} hab e => by rw [e, zk8] at hab; cases hab)
end Pl
end Go.Proofs.YtppmlbofhghghaaGreatDoor

namespace Go.Proofs.YtppmlbofhghghaaGreatDoor
open Go.RowKit
namespace Pl
theorem ns_mem : ∀ (ab : List Bool) (Ls : List (List Nd)) (p : ByteArray) (n : Nd), some n ∈ nsOf ab Ls p → ∃ L ∈ Ls, n ∈ L := by
 intro ab
 induction ab with
 | nil => intro Ls p n h; simp [nsOf] at h
 | cons a ab ih =>
  intro Ls p n h
  cases Ls with
  | nil => simp [nsOf] at h
  | cons L Ls =>
   rw [nsOf] at h
   rcases List.mem_cons.1 h with h | h
   ·cases a
    ·simp at h
    ·simp only [if_true] at h
     exact ⟨L, List.mem_cons_self, by
      have h2 := h.symm
      unfold lk at h2
      exact List.mem_of_find?_eq_some h2⟩
   ·obtain ⟨M, hM, hn⟩ := ih Ls p n h
    exact ⟨M, List.mem_cons_of_mem _ hM, hn⟩
end Pl
end Go.Proofs.YtppmlbofhghghaaGreatDoor

namespace Go.Proofs.YtppmlbofhghghaaGreatDoor
namespace Pl
def zh4 (p : ByteArray) (L : List Nd) : List ByteArray := (L.filter (fun n => decide (parent n.path = p))).map (fun n => base n.path)
theorem kids_in {L : List Nd} {p : ByteArray} {k : Nat} {n : Nd} (hn : L[k]? = some n) (h : parent n.path = p) : zh4 p (L.take (k + 1)) = zh4 p (L.take k) ++ [base n.path] := by
 have h1 := List.getElem?_eq_some_iff.1 hn
 rw [List.take_succ_eq_append_getElem h1.1, h1.2]
 simp [zh4, h]
theorem kids_out {L : List Nd} {p : ByteArray} {k : Nat} {n : Nd} (hn : L[k]? = some n) (h : parent n.path ≠ p) : zh4 p (L.take (k + 1)) = zh4 p (L.take k) := by
 have h1 := List.getElem?_eq_some_iff.1 hn
 rw [List.take_succ_eq_append_getElem h1.1, h1.2]
 simp [zh4, h]
theorem kids_len (p : ByteArray) (L : List Nd) (k : Nat) : (zh4 p (L.take k)).length ≤ k := by
 have h1 : (zh4 p (L.take k)).length ≤ (L.take k).length := by simpa [zh4] using List.length_filter_le _ (L.take k)
 have h2 : (L.take k).length ≤ k := by simp; omega
 omega
theorem zy5 {L : List Nd} (h : za5 L = true) : L.Pairwise (fun a b => a.path ≠ b.path) := by
 have h2 : goI [] ⟨#[]⟩ L = true := by unfold za5 at h; simp at h; exact h.2
 exact (yi5 L [] ⟨#[]⟩ h2 (zh6 rfl).1).1.imp (fun {a b} hab e => by rw [e, zk8] at hab; cases hab)
theorem tree_rise' {L : List Nd} (h : za5 L = true) : L.Pairwise (fun a b => ltP a.path b.path = true) := by
 simp only [za5, Bool.and_eq_true, decide_eq_true_eq] at h
 have hn := zs9 L _ _ h.2
 have hr := (yi5 L [] ⟨#[]⟩ h.2 (zh6 rfl).1).1
 exact List.Pairwise.imp_of_mem (fun {a b} ha hb hab => by rw [zd8 (za9 (hn a ha)).1 (za9 (hn b hb)).1]; exact hab) hr
end Pl
end Go.Proofs.YtppmlbofhghghaaGreatDoor

namespace Go.Proofs.YtppmlbofhghghaaGreatDoor
namespace Pl
theorem find_path {L : List Nd} {p : ByteArray} {m : Nd} (h : L.find? (fun m => decide (m.path = p)) = some m) : m.path = p := by
 have := List.find?_some h
 simpa using this
theorem goS_iff (L : List Nd) : ∀ (r : List Nd) (prev : Option ByteArray), goS L prev r = true ↔ (∀ n ∈ r, zb n = true ∧ dirS L (parent n.path) = true) ∧ r.Pairwise (fun a b => zb0 (names a.path) (names b.path) = true) ∧ ∀ n ∈ r, prevB prev n.path = true := by
 intro r
 induction r with
 | nil => intro prev; simp [goS]
 | cons m r ih =>
  intro prev
  simp only [goS, Bool.and_eq_true]
  rw [ih]
  constructor
  ·rintro ⟨⟨⟨h1, h2⟩, h3⟩, h4, h5, h6⟩
   refine ⟨fun n hn => ?_, List.Pairwise.cons (fun n hn => h6 n hn) h5, fun n hn => ?_⟩
   ·rcases List.mem_cons.1 hn with rfl | hn
    ·exact ⟨h1, h3⟩
    ·exact h4 n hn
   ·rcases List.mem_cons.1 hn with rfl | hn
    ·exact h2
    ·cases prev with
     | none => rfl
     | some q => exact zm6 _ _ _ h2 (h6 n hn)
  ·rintro ⟨h1, h2, h3⟩
   obtain ⟨h4, h5⟩ := List.pairwise_cons.1 h2
   exact ⟨⟨⟨(h1 m (List.mem_cons_self ..)).1, h3 m (List.mem_cons_self ..)⟩, (h1 m (List.mem_cons_self ..)).2⟩, fun n hn => h1 n (List.mem_cons_of_mem _ hn), h5, fun n hn => h4 n hn⟩
theorem zd2 (L : List Nd) : za5 L = true ↔ L.length ≤ 40 ∧ (∀ n ∈ L, zb n = true ∧ dirS L (parent n.path) = true) ∧ L.Pairwise (fun a b => zb0 (names a.path) (names b.path) = true) := by
 rw [za5, ← tree_same, Bool.and_eq_true, decide_eq_true_eq, goS_iff]
 constructor
 ·rintro ⟨h1, h2, h3, -⟩; exact ⟨h1, h2, h3⟩
 ·rintro ⟨h1, h2, h3⟩; exact ⟨h1, h2, h3, fun n hn => rfl⟩
theorem zu5 {L : List Nd} (h : L.Pairwise (fun a b => zb0 (names a.path) (names b.path) = true)) (p : ByteArray) : dirS L p = true ↔ p.size = 0 ∨ ∃ m ∈ L, m.path = p ∧ m.kind = 1 := by
 simp only [dirS, Bool.or_eq_true, decide_eq_true_eq]
 refine or_congr Iff.rfl ?_
 cases hf : L.find? (fun m => decide (m.path = p)) with
 | none =>
  rw [List.find?_eq_none] at hf
  constructor
  ·intro h; cases h
  ·rintro ⟨m, hm, e, _⟩; exact absurd (decide_eq_true e) (hf m hm)
 | some m' =>
  have h1 := List.mem_of_find?_eq_some hf
  have h2 := find_path hf
  simp only [decide_eq_true_eq]
  constructor
  ·intro h3; exact ⟨m', h1, h2, h3⟩
  ·rintro ⟨m, hm, e, hk⟩
   rw [one_path h h1 hm (h2.trans e.symm)]; exact hk
end Pl
end Go.Proofs.YtppmlbofhghghaaGreatDoor

namespace Go.Proofs.YtppmlbofhghghaaGreatDoor
namespace Pl
def fill : Fo → List (Int × List Nd) → Fx × List (Int × List Nd)
 | .nil, xs => (.nil, xs)
 | .cons _ _, [] => (.nil, [])
 | .cons k m, x :: xs => (.cons x.2 (fill k xs).1 (fill m (fill k xs).2).1, (fill m (fill k xs).2).2)
theorem fill_flat (X : Fx) : ∀ R, fill X.shape (X.flat ++ R) = (X, R) := by
 induction X with
 | nil => intro R; rfl
 | cons L k m ih1 ih2 =>
  intro R
  rw [Fx.shape, Fx.flat, List.cons_append, fill, List.append_assoc, ih1, ih2]
def zn6 (xs : List (Int × List Nd)) : Option (List Nd × Fx) := match nest (rowO xs) with
 | none => none
 | some k => match (fill (.cons k .nil) xs).1 with
  | .cons L K _ => some (L, K)
  | .nil => none
theorem zw3 {xs : List (Int × List Nd)} (h : nest (rowO xs) = none) : zn6 xs = none := by unfold zn6; rw [h]
theorem yb4 {xs : List (Int × List Nd)} {L : List Nd} {k : Fx} (h : nest (rowO xs) = some k.shape) (hf : (Fx.cons L k .nil).flat = xs) : zn6 xs = some (L, k) := by
 unfold zn6
 rw [h]
 have := fill_flat (Fx.cons L k .nil) []
 rw [List.append_nil, hf] at this
 have e2 : fill (Fo.cons k.shape .nil) xs = (Fx.cons L k .nil, []) := this
 simp only [e2]
theorem parse_fill (f : Nat) : ∀ k (xs : List (Int × List Nd)) F R, parse f k (rowO xs) = some (F, R) → ∃ X rest, Fx.shape X = F ∧ R = rowO rest ∧ xs = X.flat ++ rest ∧ X.okX := by
 induction f with
 | zero =>
  intro k xs F R h
  cases k with
  | zero => simp [parse] at h; obtain ⟨rfl, rfl⟩ := h; exact ⟨.nil, xs, rfl, rfl, rfl, trivial⟩
  | succ k => simp [parse] at h
 | succ f ih =>
  intro k xs F R h
  cases k with
  | zero => simp [parse] at h; obtain ⟨rfl, rfl⟩ := h; exact ⟨.nil, xs, rfl, rfl, rfl, trivial⟩
  | succ k =>
   cases xs with
   | nil => simp [rowO, parse] at h
   | cons x xs =>
    have e : rowO (x :: xs) = zr5 x :: rowO xs := rfl
    rw [e] at h
    cases hx : zr5 x with
    | none => rw [hx] at h; simp [parse] at h
    | some m =>
     rw [hx] at h
     simp only [parse] at h
     split at h
     ·cases h
     ·rename_i kids R1 h1
      split at h
      ·cases h
      ·rename_i more R2 h2
       cases h
       obtain ⟨K, r1, e1, e2, e3, o1⟩ := ih _ _ _ _ h1
       rw [e2] at h2
       obtain ⟨M, r2, e4, e5, e6, o2⟩ := ih _ _ _ _ h2
       have hm := yn4 hx
       have hl : K.len = m := by rw [← Fx.zz2, e1]; exact (yf _ _ _ _ _ h1).1
       have hb : zk3 x.1 x.2 = true := by
        unfold zr5 at hx
        split at hx
        ·assumption
        ·cases hx
       have hb2 : za5 x.2 = true ∧ (x.1 = 0 ∨ x.2 = []) := by
        unfold zk3 at hb
        simp only [Bool.and_eq_true, Bool.or_eq_true, decide_eq_true_eq, List.isEmpty_iff] at hb
        exact ⟨hb.2, hb.1.2⟩
       refine ⟨.cons x.2 K M, r2, by rw [Fx.shape, e1, e4], e5, ?_, hb2.1, ?_, by omega, o1, o2⟩
       ·rw [Fx.flat, hl, ← hm.1, List.cons_append, List.append_assoc, ← e6, ← e3]
       ·rcases hb2.2 with h0 | h0
        ·exact .inl (Fx.yi6 (by omega))
        ·exact .inr h0
theorem zm8 {xs : List (Int × List Nd)} {F : Fo} (h : nest (rowO xs) = some F) : ∃ L k, Fx.shape k = F ∧ (Fx.cons L k .nil).flat = xs ∧ (Fx.cons L k .nil).okX ∧ zn6 xs = some (L, k) := by
 obtain ⟨-, h2, -⟩ := nest_yes h
 obtain ⟨X, rest, e1, e2, e3, o⟩ := parse_fill _ _ _ _ _ h2
 have hr : rest = [] := by
  cases rest with
  | nil => rfl
  | cons a b => simp [rowO] at e2
 subst hr
 rw [List.append_nil] at e3
 cases X with
 | nil => cases e1
 | cons L k m =>
  rw [Fx.shape] at e1
  simp only [Fo.cons.injEq] at e1
  have hm := Fx.shape_nil e1.2
  subst hm
  refine ⟨L, k, e1.1, e3.symm, o, yb4 (by rw [e1.1]; exact h) e3.symm⟩
theorem zn4 {xs : List (Int × List Nd)} {F : Fo} (h : nest (rowO xs) = some F) : xs.length ≤ 12 := by
 have := (nest_yes h).1
 rw [zx7] at this
 exact this
end Pl
end Go.Proofs.YtppmlbofhghghaaGreatDoor

namespace Go.Proofs.YtppmlbofhghghaaGreatDoor
namespace Pl
def zq8 (p : ByteArray) : List Nd → List Nd
 | [] => []
 | m :: R => if m.path = p then R else m :: R
def zh (n m : Nd) : Bool := zb0 (names m.path) (names n.path)
def putL (L : List Nd) (n : Nd) : List Nd := L.takeWhile (zh n) ++ n :: zq8 n.path (L.dropWhile (zh n))
theorem put_at (L : List Nd) (n : Nd) (k : Nat) (hk : k ≤ L.length) (h1 : ∀ (j : Nat) m, j < k → L[j]? = some m → zh n m = true) (h2 : ∀ m, L[k]? = some m → zh n m = false) : putL L n = L.take k ++ n :: zq8 n.path (L.drop k) := by
 have h : L.takeWhile (zh n) = L.take k ∧ L.dropWhile (zh n) = L.drop k := by
  induction L generalizing k with
  | nil => simp
  | cons m L ih =>
   match k with
   | 0 =>
    have := h2 m rfl
    rw [List.takeWhile_cons, List.dropWhile_cons, this]; simp
   | k + 1 =>
    have := h1 0 m (by omega) rfl
    rw [List.takeWhile_cons, List.dropWhile_cons, this]
    have i := ih k (by simpa using hk) (fun j x hj hx => h1 (j + 1) x (by omega) (by simpa using hx)) (fun x hx => h2 x (by simpa using hx))
    simp only [if_true, List.take_succ_cons, List.drop_succ_cons]
    exact ⟨by rw [i.1], i.2⟩
 rw [putL, h.1, h.2]
theorem rest_drop (L : List Nd) (p : ByteArray) (k : Nat) : zq8 p (L.drop k) = L.drop (if (∃ m, L[k]? = some m ∧ m.path = p) then k + 1 else k) := by
 by_cases hk : k < L.length
 ·rw [List.drop_eq_getElem_cons hk, zq8]
  have e : L[k]? = some L[k] := List.getElem?_eq_getElem hk
  by_cases h : L[k].path = p
  ·rw [if_pos h, if_pos ⟨_, e, h⟩]
  ·rw [if_neg h, if_neg (fun ⟨m, hm, hp⟩ => by rw [e] at hm; cases hm; exact h hp), List.drop_eq_getElem_cons hk]
 ·rw [if_neg (fun ⟨m, hm, _⟩ => by have := (List.getElem?_eq_some_iff.1 hm).1; omega)]
  rw [List.drop_eq_nil_of_le (by omega)]; rfl
theorem zx6 (L : List Nd) (n : Nd) : (putL L n).length ≤ L.length + 1 := by
 have h1 := congrArg List.length (List.takeWhile_append_dropWhile (p := zh n) (l := L))
 rw [List.length_append] at h1
 have h2 : (zq8 n.path (L.dropWhile (zh n))).length ≤ (L.dropWhile (zh n)).length := by
  cases L.dropWhile (zh n) with
  | nil => exact Nat.le_refl _
  | cons m R => rw [zq8]; split <;> simp
 rw [putL, List.length_append, List.length_cons]
 omega
theorem take_all {n : Nd} (L : List Nd) : ∀ m ∈ L.takeWhile (zh n), zh n m = true := fun m hm => by
 induction L with
 | nil => simp at hm
 | cons x L ih =>
  rw [List.takeWhile_cons] at hm
  cases h : zh n x
  ·rw [h] at hm; simp at hm
  ·rw [h] at hm
   simp only [if_true, List.mem_cons] at hm
   rcases hm with rfl | hm
   ·exact h
   ·exact ih hm
theorem put_ok {L : List Nd} {n : Nd} (hL : ∀ m ∈ L, za3 m.path = true) (hn : za3 n.path = true) (hr : L.Pairwise (fun a b => ltP a.path b.path = true)) :
  (putL L n).Pairwise (fun a b => ltP a.path b.path = true) ∧ (putL L n).Perm (L.filter (fun m => !decide (m.path = n.path)) ++ [n]) := by
 have hsp := List.takeWhile_append_dropWhile (p := zh n) (l := L)
 have hA := take_all (n := n) L
 have hR : ∀ m, (L.dropWhile (zh n)).head? = some m → zh n m = false := fun m hm => by
  have := List.head?_dropWhile_not (zh n) L
  rw [hm] at this
  simpa using this
 unfold putL
 generalize L.takeWhile (zh n) = A at hsp hA
 generalize L.dropWhile (zh n) = R at hsp hR
 subst hsp
 rw [List.pairwise_append] at hr
 obtain ⟨rA, rR, rAR⟩ := hr
 have hLA : ∀ m ∈ A, za3 m.path = true := fun m hm => hL m (List.mem_append_left _ hm)
 have hLR : ∀ m ∈ R, za3 m.path = true := fun m hm => hL m (List.mem_append_right _ hm)
 have ltA : ∀ m ∈ A, ltP m.path n.path = true := fun m hm => by rw [zd8 (hLA m hm) hn]; exact hA m hm
 have neA : ∀ m ∈ A, m.path ≠ n.path := fun m hm e => by
  have := hA m hm
  rw [zh, e, zk8] at this; cases this
 have trn : ∀ {a b c : ByteArray}, za3 a = true → za3 b = true → za3 c = true → ltP a b = true → ltP b c = true → ltP a c = true := fun ha hb hc h1 h2 => by
  rw [zd8 ha hb] at h1
  rw [zd8 hb hc] at h2
  rw [zd8 ha hc]; exact zm6 _ _ _ h1 h2
 have ltn : ∀ {a b : ByteArray}, za3 a = true → ltP a b = true → a ≠ b := fun ha h e => by
  subst e
  rw [zd8 ha ha, zk8] at h; cases h
 have key : (∀ m ∈ zq8 n.path R, ltP n.path m.path = true ∧ za3 m.path = true ∧ m ∈ R) ∧ (zq8 n.path R).Pairwise (fun a b => ltP a.path b.path = true) ∧ R.filter (fun m => !decide (m.path = n.path)) = zq8 n.path R := by
  match R, hR, rR, hLR with
  | [], _, _, _ => exact ⟨fun m hm => by simp [zq8] at hm, List.Pairwise.nil, rfl⟩
  | x :: R, hR, rR, hLR =>
   have hx := hR x rfl
   have px := hLR x List.mem_cons_self
   have rR' := List.pairwise_cons.1 rR
   by_cases e : x.path = n.path
   ·rw [zq8, if_pos e]
    refine ⟨fun m hm => ⟨by rw [← e]; exact rR'.1 m hm, hLR m (List.mem_cons_of_mem _ hm), List.mem_cons_of_mem _ hm⟩, rR'.2, ?_⟩
    rw [List.filter_cons, if_neg (by simp [e])]
    exact List.filter_eq_self.2 (fun m hm => by
     have := ltn px (rR'.1 m hm)
     rw [e] at this
     simpa using fun h => this h.symm)
   ·rw [zq8, if_neg e]
    have hnx : ltP n.path x.path = true := by
     have := two_less px hn e
     change ltP x.path n.path = !ltP n.path x.path at this
     rw [zd8 px hn] at this
     rw [zh] at hx
     rw [hx] at this
     cases h : ltP n.path x.path
     ·rw [h] at this; cases this
     ·rfl
    have all : ∀ m ∈ x :: R, ltP n.path m.path = true := fun m hm => by
     rcases List.mem_cons.1 hm with rfl | hm
     ·exact hnx
     ·exact trn hn px (hLR m (List.mem_cons_of_mem _ hm)) hnx (rR'.1 m hm)
    refine ⟨fun m hm => ⟨all m hm, hLR m hm, hm⟩, rR, ?_⟩
    exact List.filter_eq_self.2 (fun m hm => by
     have := ltn hn (all m hm)
     simpa using fun h => this h.symm)
 obtain ⟨k1, k2, k3⟩ := key
 constructor
 ·rw [List.pairwise_append]
  refine ⟨rA, List.pairwise_cons.2 ⟨fun m hm => (k1 m hm).1, k2⟩, fun a ha b hb => ?_⟩
  rcases List.mem_cons.1 hb with rfl | hb
  ·exact ltA a ha
  ·exact rAR a ha b (k1 b hb).2.2
 ·rw [List.filter_append, k3, List.filter_eq_self.2 (fun m hm => by simpa using neA m hm), List.append_assoc]
  exact List.Perm.append_left _ (List.perm_append_comm (l₁ := [n]) (l₂ := zq8 n.path R))
end Pl
end Go.Proofs.YtppmlbofhghghaaGreatDoor

namespace Go.Proofs.YtppmlbofhghghaaGreatDoor
open Go.RowKit
namespace Pl
theorem apart_put {L : List Nd} {n : Nd} (hC : L.Pairwise (fun a b => a.path ≠ b.path)) : (L.filter (fun m => !decide (m.path = n.path)) ++ [n]).Pairwise (fun a b => a.path ≠ b.path) := by
 rw [List.pairwise_append]
 refine ⟨hC.filter _, by simp, fun a ha b hb => ?_⟩
 simp at hb; subst hb
 have := (List.mem_filter.1 ha).2
 simpa using this
theorem mem_put {L : List Nd} {n m : Nd} (h : m ∈ L.filter (fun m => !decide (m.path = n.path)) ++ [n]) : m ∈ L ∨ m = n := by
 rcases List.mem_append.1 h with h | h
 ·exact .inl (List.mem_filter.1 h).1
 ·simp at h; exact .inr h
end Pl
end Go.Proofs.YtppmlbofhghghaaGreatDoor

namespace Go.Proofs.YtppmlbofhghghaaGreatDoor
namespace Pl
def zc0 (q p : ByteArray) : Bool := !decide (q = p) && (za3 q && za3 p && zn1 (zb2 q) (zb2 p))
def zg1 (L : List Nd) (p : ByteArray) : List Nd := (L.dropWhile (fun n => !zc0 n.path p)).takeWhile (fun n => zc0 n.path p)
theorem mid_L : ∀ P A B C : List ByteArray, (∀ (j : Nat) t, P[j]? = some t → A[j]? = some t) → (∀ (j : Nat) t, P[j]? = some t → C[j]? = some t) → zb0 A B = true → zb0 B C = true → ∀ (j : Nat) t, P[j]? = some t → B[j]? = some t := by
 intro P
 induction P with
 | nil => intro A B C _ _ _ _ j t h; simp at h
 | cons x P ih =>
  intro A B C hA hC h1 h2 j t hj
  have a0 := hA 0 x rfl
  have c0 := hC 0 x rfl
  match A, a0 with
  | a :: A, a0 =>
   simp at a0
   match C, c0 with
   | c :: C, c0 =>
    simp at c0
    subst a0 c0
    match B, h1, h2 with
    | [], h1, _ => simp [zb0] at h1
    | b :: B, h1, h2 =>
     have e : b = c := by
      by_cases e : b = c
      ·exact e
      ·exfalso
       rw [zb0, if_neg (fun h => e h.symm)] at h1
       rw [zb0, if_neg e] at h2
       have hne : c.toList ≠ b.toList := fun h => e (zi3 (by rw [ByteArray.toList_eq, ByteArray.toList_eq] at h; exact h.symm))
       rw [zy0 _ _ hne, h2] at h1
       cases h1
     subst e
     rw [zb0, if_pos rfl] at h1 h2
     match j, hj with
     | 0, hj => simpa using hj
     | j + 1, hj =>
      have hj' : P[j]? = some t := by simpa using hj
      have := ih A B C (fun i u hu => by have := hA (i + 1) u (by simpa using hu); simpa using this) (fun i u hu => by have := hC (i + 1) u (by simpa using hu); simpa using this) h1 h2 j t hj'
      simpa using this
theorem mid {a b c p : ByteArray} (ha : za3 a = true) (hb : za3 b = true) (hc : za3 c = true) (h1 : ltP a b = true) (h2 : ltP b c = true) (ka : zc0 a p = true) (kc : zc0 c p = true) : zc0 b p = true := by
 rw [zd8 ha hb] at h1
 rw [zd8 hb hc] at h2
 simp only [zc0, Bool.and_eq_true, Bool.not_eq_true', decide_eq_false_iff_not] at ka kc ⊢
 obtain ⟨_, ⟨_, hp⟩, ua⟩ := ka
 obtain ⟨_, _, uc⟩ := kc
 rw [zc8 ha, zc8 hp] at ua
 rw [zc8 hc, zc8 hp] at uc
 have hm := mid_L _ _ _ _ ((zp0 _ _).1 ua) ((zp0 _ _).1 uc) h1 h2
 refine ⟨fun e => ?_, ⟨hb, hp⟩, ?_⟩
 ·subst e
  rw [less_under _ _ ((zp0 _ _).1 ua)] at h1
  cases h1
 ·rw [zc8 hb, zc8 hp]
  exact (zp0 _ _).2 hm
theorem take_filter {p : ByteArray} : ∀ (L : List Nd) (n : Nd), za3 n.path = true → zc0 n.path p = true → (∀ m ∈ L, za3 m.path = true ∧ ltP n.path m.path = true) → L.Pairwise (fun a b => ltP a.path b.path = true) →
  L.takeWhile (fun m => zc0 m.path p) = L.filter (fun m => zc0 m.path p) := by
 intro L
 induction L with
 | nil => intros; rfl
 | cons b L ih =>
  intro n hn hk hL hr
  have hb := hL b List.mem_cons_self
  have hr' := List.pairwise_cons.1 hr
  cases kb : zc0 b.path p
  ·have hf : (b :: L).filter (fun m => zc0 m.path p) = [] := by
    rw [List.filter_eq_nil_iff]
    intro c hc kc
    rcases List.mem_cons.1 hc with e | hc
    ·subst e; rw [kb] at kc; cases kc
    ·have := mid hn hb.1 (hL c (List.mem_cons_of_mem _ hc)).1 hb.2 (hr'.1 c hc) hk kc
     rw [kb] at this; cases this
   rw [hf, List.takeWhile_cons, kb]; rfl
  ·rw [List.takeWhile_cons, List.filter_cons, kb]
   simp only [if_true]
   rw [ih b hb.1 kb (fun m hm => ⟨(hL m (List.mem_cons_of_mem _ hm)).1, hr'.1 m hm⟩) hr'.2]
theorem piece_filter (p : ByteArray) : ∀ (L : List Nd), (∀ n ∈ L, za3 n.path = true) → L.Pairwise (fun a b => ltP a.path b.path = true) → zg1 L p = L.filter (fun n => zc0 n.path p) := by
 intro L
 induction L with
 | nil => intros; rfl
 | cons n L ih =>
  intro hok hr
  have hr' := List.pairwise_cons.1 hr
  cases k : zc0 n.path p
  ·rw [zg1, List.dropWhile_cons, k, List.filter_cons, k]
   simp only [Bool.not_false, if_true, Bool.false_eq_true, if_false]
   exact ih (fun m hm => hok m (List.mem_cons_of_mem _ hm)) hr'.2
  ·rw [zg1, List.dropWhile_cons, k, List.filter_cons, k]
   simp only [Bool.not_true, Bool.false_eq_true, if_false, if_true]
   rw [List.takeWhile_cons, k]
   simp only [if_true]
   rw [take_filter L n (hok n List.mem_cons_self) k (fun m hm => ⟨hok m (List.mem_cons_of_mem _ hm), hr'.1 m hm⟩) hr'.2]
theorem piece_at (L : List Nd) (p : ByteArray) (i j : Nat) (hij : i ≤ j) (_hj : j ≤ L.length) (h1 : ∀ (k : Nat) n, k < i → L[k]? = some n → zc0 n.path p = false) (h2 : ∀ n, L[i]? = some n → zc0 n.path p = true)
  (h3 : ∀ (k : Nat) n, i ≤ k → k < j → L[k]? = some n → zc0 n.path p = true) (h4 : ∀ n, L[j]? = some n → zc0 n.path p = false) : zg1 L p = (L.drop i).take (j - i) := by
 have hd : L.dropWhile (fun n => !zc0 n.path p) = L.drop i := by
  clear h3 h4 hij _hj j
  induction L generalizing i with
  | nil => simp
  | cons n L ih =>
   match i with
   | 0 =>
    have := h2 n rfl
    rw [List.dropWhile_cons, this]; simp
   | i + 1 =>
    have := h1 0 n (by omega) rfl
    rw [List.dropWhile_cons, this]
    simp only [Bool.not_false, if_true, List.drop_succ_cons]
    exact ih i (fun k m hk hm => h1 (k + 1) m (by omega) (by simpa using hm)) (fun m hm => h2 m (by simpa using hm))
 rw [zg1, hd]
 have hlen : (L.drop i).length = L.length - i := by simp
 have h3' : ∀ (k : Nat) n, k < j - i → (L.drop i)[k]? = some n → zc0 n.path p = true := fun k n hk hn => h3 (i + k) n (by omega) (by omega) (by simpa [List.getElem?_drop] using hn)
 have h4' : ∀ n, (L.drop i)[j - i]? = some n → zc0 n.path p = false := fun n hn => h4 n (by rw [List.getElem?_drop, show i + (j - i) = j by omega] at hn; exact hn)
 generalize L.drop i = M at h3' h4'
 generalize j - i = q at h3' h4'
 clear hd h1 h2 h3 h4 hlen hij _hj
 induction M generalizing q with
 | nil => simp
 | cons n M ih =>
  match q with
  | 0 => have := h4' n rfl; rw [List.takeWhile_cons, this]; simp
  | q + 1 =>
   have := h3' 0 n (by omega) rfl
   rw [List.takeWhile_cons, this]
   simp only [if_true, List.take_succ_cons]
   rw [ih q (fun k m hk hm => h3' (k + 1) m (by omega) (by simpa using hm)) (fun m hm => h4' m (by simpa using hm))]
theorem ya7 {L : List Nd} {p : ByteArray} : (zg1 L p).length = 0 ↔ L.any (fun n => zc0 n.path p) = false := by
 induction L with
 | nil => simp [zg1]
 | cons n L ih =>
  cases k : zc0 n.path p
  ·rw [zg1, List.dropWhile_cons, k, List.any_cons, k]
   simpa [zg1] using ih
  ·rw [zg1, List.dropWhile_cons, k, List.any_cons, k]
   simp [k]
end Pl
end Go.Proofs.YtppmlbofhghghaaGreatDoor

namespace Go.Proofs.YtppmlbofhghghaaGreatDoor
open Go.RowKit
namespace Pl
def offL (p : ByteArray) (L : List Nd) : List Nd := L.filter (fun n => !under n.path p)
theorem offN_in {L : List Nd} {p : ByteArray} {k : Nat} {n : Nd} (hn : L[k]? = some n) (h : under n.path p = false) : offL p (L.take (k + 1)) = offL p (L.take k) ++ [n] := by
 have h1 := List.getElem?_eq_some_iff.1 hn
 rw [List.take_succ_eq_append_getElem h1.1, h1.2]
 simp [offL, h]
theorem offN_out {L : List Nd} {p : ByteArray} {k : Nat} {n : Nd} (hn : L[k]? = some n) (h : under n.path p = true) : offL p (L.take (k + 1)) = offL p (L.take k) := by
 have h1 := List.getElem?_eq_some_iff.1 hn
 rw [List.take_succ_eq_append_getElem h1.1, h1.2]
 simp [offL, h]
theorem offN_len (L : List Nd) (p : ByteArray) (k : Nat) : (offL p (L.take k)).length ≤ k := by
 have h1 : (offL p (L.take k)).length ≤ (L.take k).length := by simpa [offL] using List.length_filter_le _ (L.take k)
 have h2 : (L.take k).length ≤ k := by simp; omega
 omega
end Pl
end Go.Proofs.YtppmlbofhghghaaGreatDoor

namespace Go.Proofs.YtppmlbofhghghaaGreatDoor
namespace Pl
theorem put_mem {L : List Nd} {n m : Nd} (h : m ∈ putL L n) : m = n ∨ m ∈ L := by
 rw [putL, List.mem_append, List.mem_cons] at h
 rcases h with h | h | h
 ·exact .inr ((List.takeWhile_sublist _).mem h)
 ·exact .inl h
 ·right
  have h2 : m ∈ L.dropWhile (zh n) := by
   generalize L.dropWhile (zh n) = D at h ⊢
   cases D with
   | nil => simp [zq8] at h
   | cons x D =>
    simp only [zq8] at h
    split at h
    ·exact List.mem_cons_of_mem _ h
    ·exact h
  exact (List.dropWhile_sublist _).mem h2
end Pl
end Go.Proofs.YtppmlbofhghghaaGreatDoor

