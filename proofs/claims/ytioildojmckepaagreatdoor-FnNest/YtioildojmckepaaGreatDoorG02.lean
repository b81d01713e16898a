/- Several texts of one claim in one file: PlainNest, PlainItem, PlainNum, PlainGet, PlainGetZ, PlainText. -/
import Derived.Test.YtioildojmckepaaGreatDoorG00
import Derived.WalkKit
import Derived.Laws.IdiomStrings
import Derived.Test.YtioildojmckepaaGreatDoorG01
import Derived.Laws.BitsLemmas
namespace Go.Proofs.YtioildojmckepaaGreatDoor
namespace Pl
inductive Fo where
 | nil : Fo
 | cons (kids more : Fo) : Fo
namespace Fo
def len : Fo → Nat
 | .nil => 0
 | .cons _ m => m.len + 1
def depth : Fo → Nat
 | .nil => 0
 | .cons k m => max (k.depth + 1) m.depth
def ze1 : Fo → Nat
 | .nil => 0
 | .cons k m => max 1 k.ze1 + m.ze1
def leaves (k : Fo) : Nat := max 1 k.ze1
def level : Fo → Nat
 | .nil => 0
 | .cons k _ => 1 + k.level
def app : Fo → Fo → Fo
 | .nil, r => r
 | .cons k m, r => .cons k (m.app r)
theorem app_nil (a : Fo) : a.app .nil = a := by
 induction a with
 | nil => rfl
 | cons k m _ ih => rw [app, ih]
theorem app_assoc (a b c : Fo) : (a.app b).app c = a.app (b.app c) := by
 induction a with
 | nil => rfl
 | cons k m _ ih => rw [app, app, app, ih]
theorem len_app (a b : Fo) : (a.app b).len = a.len + b.len := by
 induction a with
 | nil => simp [app, len]
 | cons k m _ ih => rw [app, len, len, ih]; omega
theorem depth_app (a b : Fo) : (a.app b).depth = max a.depth b.depth := by
 induction a with
 | nil => simp [app, depth]
 | cons k m _ ih => rw [app, depth, depth, ih]; omega
theorem ya8 (k : Fo) : (Fo.cons k .nil).depth = k.depth + 1 := by simp [depth]
theorem leaves1_one (k : Fo) : (Fo.cons k .nil).ze1 = k.leaves := by simp [ze1, leaves]
end Fo
abbrev Row := List (Option Nat)
def parse : Nat → Nat → Row → Option (Fo × Row)
 | _, 0, L => some (.nil, L)
 | 0, _ + 1, _ => none
 | _ + 1, _ + 1, [] => none
 | _ + 1, _ + 1, none :: _ => none
 | f + 1, k + 1, some m :: L => match parse f m L with
  | none => none
  | some (kids, R) => match parse f k R with
   | none => none
   | some (more, R') => some (.cons kids more, R')
theorem zr3 (f : Nat) : ∀ k L F R, parse f k L = some (F, R) → F.len = k ∧ R.length + k ≤ L.length ∧ ∃ n, R = L.drop n := by
 induction f with
 | zero =>
  intro k L F R h
  cases k with
  | zero => simp [parse] at h; obtain ⟨rfl, rfl⟩ := h; exact ⟨rfl, Nat.le_refl _, 0, rfl⟩
  | succ k => simp [parse] at h
 | succ f ih =>
  intro k L F R h
  cases k with
  | zero => simp [parse] at h; obtain ⟨rfl, rfl⟩ := h; exact ⟨rfl, Nat.le_refl _, 0, rfl⟩
  | succ k =>
   match L, h with
   | [], h => simp [parse] at h
   | none :: L, h => simp [parse] at h
   | some m :: L, h =>
    simp only [parse] at h
    split at h
    ·cases h
    ·rename_i kids R1 h1
     split at h
     ·cases h
     ·rename_i more R2 h2
      cases h
      obtain ⟨a1, a2, n1, a3⟩ := ih _ _ _ _ h1
      obtain ⟨b1, b2, n2, b3⟩ := ih _ _ _ _ h2
      refine ⟨by rw [Fo.len, b1], by simp; omega, n1 + n2 + 1, ?_⟩
      rw [b3, a3, List.drop_drop, List.drop_succ_cons]
theorem parse_fuel (f : Nat) : ∀ g k (L : Row), L.length ≤ f → L.length ≤ g → parse f k L = parse g k L := by
 induction f with
 | zero =>
  intro g k L h1 h2
  have : L = [] := List.eq_nil_of_length_eq_zero (by omega)
  subst this
  cases k <;> cases g <;> simp [parse]
 | succ f ih =>
  intro g k L h1 h2
  cases k with
  | zero => cases g <;> simp [parse]
  | succ k =>
   match L, h1, h2 with
   | [], _, _ => cases g <;> simp [parse]
   | none :: L, _, h2 => cases g <;> simp [parse]
   | some m :: L, h1, h2 =>
    cases g with
    | zero => simp at h2
    | succ g =>
     simp only [List.length_cons] at h1 h2
     simp only [parse]
     rw [ih g m L (by omega) (by omega)]
     split
     ·rfl
     ·rename_i kids R h
      have := (zr3 _ _ _ _ _ h).2.1
      rw [ih g k R (by omega) (by omega)]
def take (k : Nat) (L : Row) : Option (Fo × Row) := parse L.length k L
theorem take_zero (L : Row) : take 0 L = some (.nil, L) := by unfold take; cases L.length <;> rfl
theorem ya7 (k m : Nat) (L : Row) : take (k + 1) (some m :: L) = match take m L with
  | none => none
  | some (kids, R) => match take k R with
   | none => none
   | some (more, R') => some (.cons kids more, R') := by
 unfold take
 simp only [List.length_cons, parse]
 split
 ·rfl
 ·rename_i kids R h
  have := (zr3 _ _ _ _ _ h).2.1
  rw [parse_fuel L.length R.length k R (by omega) (Nat.le_refl _)]
theorem zo3 {k : Nat} {L : Row} {F : Fo} {R : Row} (h : take k L = some (F, R)) : F.len = k ∧ R.length + k ≤ L.length ∧ R = L.drop (L.length - R.length) := by
 obtain ⟨h1, h2, n, h3⟩ := zr3 _ _ _ _ _ h
 refine ⟨h1, h2, ?_⟩
 by_cases hn : n ≤ L.length
 ·have : R.length = L.length - n := by rw [h3, List.length_drop]
  rw [this, Nat.sub_sub_self hn]; exact h3
 ·have e : R = [] := by rw [h3]; exact List.drop_eq_nil_of_le (by omega)
  subst e; simp
theorem zp9 (m : Nat) (L : Row) : take 1 (some m :: L) = (take m L).map (fun x => (.cons x.1 .nil, x.2)) := by
 rw [show (1 : Nat) = 0 + 1 from rfl, ya7]
 cases h : take m L with
 | none => rfl
 | some x => obtain ⟨a, b⟩ := x; simp [take_zero]
theorem zw5 (k : Nat) (L : Row) : take (k + 1) L = match take 1 L with
  | none => none
  | some (F, R) => match take k R with
   | none => none
   | some (more, R') => some (F.app more, R') := by
 match L with
 | [] => rfl
 | none :: L => rfl
 | some m :: L =>
  rw [zp9, ya7]
  cases h : take m L with
  | none => rfl
  | some x => obtain ⟨a, b⟩ := x; rfl
theorem ya1 {L : Row} {F : Fo} {R : Row} (h : take 1 L = some (F, R)) : ∃ kids, F = .cons kids .nil := by
 match L, h with
 | [], h => cases h
 | none :: L, h => cases h
 | some m :: L, h =>
  rw [zp9] at h
  cases h' : take m L with
  | none => rw [h'] at h; simp at h
  | some x => rw [h'] at h; simp at h; exact ⟨x.1, h.1.symm⟩
def ends (k deep : Nat) (L : Row) : Option Row := match take k L with
 | none => none
 | some (F, R) => if deep + F.depth ≤ 5 then some R else none
theorem ends_zero (deep : Nat) (L : Row) (h : deep ≤ 5) : ends 0 deep L = some L := by
 unfold ends
 rw [take_zero]
 simp [Fo.depth, h]
theorem ends_step (k deep : Nat) (L : Row) : ends (k + 1) deep L = (ends 1 deep L).bind (ends k deep) := by
 unfold ends
 rw [zw5]
 cases h : take 1 L with
 | none => rfl
 | some x =>
  obtain ⟨F, R⟩ := x
  simp only
  cases h2 : take k R with
  | none =>
   by_cases h3 : deep + F.depth ≤ 5
   ·simp only [if_pos h3, Option.bind_some, h2]
   ·simp only [if_neg h3, Option.bind_none]
  | some y =>
   obtain ⟨M, R'⟩ := y
   simp only [Fo.depth_app]
   by_cases h3 : deep + F.depth ≤ 5
   ·rw [if_pos h3]
    simp only [Option.bind_some, h2]
    by_cases h4 : deep + M.depth ≤ 5
    ·rw [if_pos h4, if_pos (by omega)]
    ·rw [if_neg h4, if_neg (by omega)]
   ·rw [if_neg h3, if_neg (by omega)]; rfl
theorem ends_one (m deep : Nat) (L : Row) : ends 1 deep (some m :: L) = ends m (deep + 1) L := by
 unfold ends
 rw [zp9]
 cases h1 : take m L with
 | none => rfl
 | some x =>
  obtain ⟨F, R⟩ := x
  simp only [Option.map_some]
  have hd := Fo.ya8 F
  by_cases h2 : deep + 1 + F.depth ≤ 5
  ·rw [if_pos h2, if_pos (by omega)]
  ·rw [if_neg h2, if_neg (by omega)]
theorem ends_none (deep : Nat) (L : Row) : ends 1 deep (none :: L) = none := rfl
theorem ends_nil (deep : Nat) : ends 1 deep [] = none := rfl
theorem ends_deep (deep : Nat) (L : Row) (h : 4 < deep) : ends 1 deep L = none := by
 unfold ends
 cases h1 : take 1 L with
 | none => rfl
 | some x =>
  obtain ⟨F, R⟩ := x
  obtain ⟨kids, rfl⟩ := ya1 h1
  have hd := Fo.ya8 kids
  exact if_neg (by omega)
theorem ends_len {k deep : Nat} {L R : Row} (h : ends k deep L = some R) : R.length + k ≤ L.length ∧ R = L.drop (L.length - R.length) := by
 unfold ends at h
 cases h1 : take k L with
 | none => rw [h1] at h; cases h
 | some x =>
  obtain ⟨F, R'⟩ := x
  rw [h1] at h
  simp only at h
  split at h
  ·cases h; exact (zo3 h1).2
  ·cases h
def nest (L : Row) : Option Fo := if L.length ≤ 12 then match take 1 L with
 | some (.cons k .nil, []) => if k.depth ≤ 3 then some k else none
 | _ => none else none
theorem zm0 {L : Row} {k : Fo} (h : nest L = some k) : L.length ≤ 12 ∧ take 1 L = some (.cons k .nil, []) ∧ k.depth ≤ 3 := by
 unfold nest at h
 split at h
 ·split at h
  ·split at h
   ·cases h; exact ⟨by assumption, by assumption, by assumption⟩
   ·cases h
  ·cases h
 ·cases h
theorem nest_ends (L : Row) (h : L.length ≤ 12) : (nest L).isSome = true ↔ ends 1 1 L = some [] := by
 unfold nest ends
 rw [if_pos h]
 cases h1 : take 1 L with
 | none => simp
 | some x =>
  obtain ⟨F, R⟩ := x
  obtain ⟨k, rfl⟩ := ya1 h1
  have hd := Fo.ya8 k
  cases R with
  | nil =>
   simp only
   by_cases h2 : k.depth ≤ 3
   ·rw [if_pos h2, if_pos (by omega)]; simp
   ·rw [if_neg h2, if_neg (by omega)]; simp
  | cons a b => simp only; split <;> simp
theorem zm3 (L : Row) (h : ¬ L.length ≤ 12) : nest L = none := by unfold nest; rw [if_neg h]
def zeros (L : Row) : Nat := L.countP (fun x => decide (x = some 0))
theorem zeros_cons (x : Option Nat) (L : Row) : zeros (x :: L) = zeros L + (if x = some 0 then 1 else 0) := by
 unfold zeros
 rw [List.countP_cons]
 simp
theorem parse_zeros (f : Nat) : ∀ k L F R, parse f k L = some (F, R) → F.ze1 + zeros R = zeros L := by
 induction f with
 | zero =>
  intro k L F R h
  cases k with
  | zero => simp [parse] at h; obtain ⟨rfl, rfl⟩ := h; simp [Fo.ze1]
  | succ k => simp [parse] at h
 | succ f ih =>
  intro k L F R h
  cases k with
  | zero => simp [parse] at h; obtain ⟨rfl, rfl⟩ := h; simp [Fo.ze1]
  | succ k =>
   match L, h with
   | [], h => simp [parse] at h
   | none :: L, h => simp [parse] at h
   | some m :: L, h =>
    simp only [parse] at h
    split at h
    ·cases h
    ·rename_i kids R1 h1
     split at h
     ·cases h
     ·rename_i more R2 h2
      cases h
      have a1 := ih _ _ _ _ h1
      have a2 := ih _ _ _ _ h2
      have a3 := (zr3 _ _ _ _ _ h1).1
      rw [zeros_cons, Fo.ze1]
      cases kids with
      | nil =>
       simp [Fo.len] at a3
       subst a3
       simp only [Fo.ze1, if_true] at a1 ⊢
       omega
      | cons a b =>
       simp only [Fo.len] at a3
       rw [if_neg (by simp; omega)]
       simp only [Fo.ze1] at a1 ⊢
       omega
theorem nest_leaves {L : Row} {k : Fo} (h : nest L = some k) : k.leaves = zeros L := by
 have := parse_zeros _ _ _ _ _ (zm0 h).2.1
 rw [Fo.leaves1_one] at this
 rw [← this]
 simp [zeros]
theorem level_at (F : Fo) : ∀ k L R kids more, F = .cons kids more → take k L = some (F, R) → (∀ j, j < kids.level → ∃ m, L[j]? = some (some (m + 1))) ∧ L[kids.level]? = some (some 0) := by
 induction F with
 | nil => intro k L R kids more h; cases h
 | cons a b ih _ =>
  intro k L R kids more h ht
  cases h
  match k, L, ht with
  | 0, L, ht => rw [take_zero] at ht; cases ht
  | k + 1, [], ht => cases ht
  | k + 1, none :: L, ht => cases ht
  | k + 1, some m :: L, ht =>
   rw [ya7] at ht
   cases h1 : take m L with
   | none => rw [h1] at ht; cases ht
   | some x =>
    obtain ⟨c, S⟩ := x
    rw [h1] at ht
    simp only at ht
    cases h2 : take k S with
    | none => rw [h2] at ht; cases ht
    | some y =>
     rw [h2] at ht
     simp at ht
     obtain ⟨⟨rfl, -⟩, -⟩ := ht
     have hl := (zo3 h1).1
     cases c with
     | nil =>
      simp [Fo.len] at hl
      subst hl
      exact ⟨fun j hj => absurd hj (by simp [Fo.level]), rfl⟩
     | cons p q =>
      simp [Fo.len] at hl
      obtain ⟨i1, i2⟩ := ih _ _ _ _ _ rfl h1
      refine ⟨fun j hj => ?_, ?_⟩
      ·cases j with
       | zero => exact ⟨m - 1, by simp; omega⟩
       | succ j => simpa using i1 j (by simp [Fo.level] at hj; omega)
      ·rw [Fo.level, Nat.add_comm]; simpa using i2
theorem yd3 {L : Row} {k : Fo} (h : nest L = some k) : (∀ j, j < k.level → ∃ m, L[j]? = some (some (m + 1))) ∧ L[k.level]? = some (some 0) :=
 level_at _ _ _ _ _ _ rfl (zm0 h).2.1
end Pl
end Go.Proofs.YtioildojmckepaaGreatDoor

namespace Go.Proofs.YtioildojmckepaaGreatDoor
namespace Pl
def zi5 (m : Int) (L : List Nd) : Bool := decide (0 ≤ m) && decide (m ≤ 4) && (decide (m = 0) || L.isEmpty) && zb1 L
def zh7 (x : Int × List Nd) : Option Nat := if zi5 x.1 x.2 = true then some x.1.toNat else none
def rowO (xs : List (Int × List Nd)) : Row := xs.map zh7
theorem treeB_nil : zb1 [] = true := by rfl
theorem yc7 (L : List Nd) : zi5 0 L = zb1 L := by simp [zi5]
theorem zz0 {m : Int} (h : m ≠ 0) (L : List Nd) : zi5 m L = (decide (1 ≤ m) && decide (m ≤ 4) && decide (L.length = 0)) := by
 unfold zi5
 rw [show decide (m = 0) = false from decide_eq_false h, Bool.false_or]
 have e : decide (0 ≤ m) = decide (1 ≤ m) := decide_eq_decide.2 (by omega)
 rw [e]
 cases L with
 | nil => simp [treeB_nil]
 | cons a L => simp
theorem zq6 {m : Int} {L : List Nd} (h : zi5 m L = true) : 0 ≤ m ∧ m ≤ 4 := by
 simp [zi5] at h
 exact ⟨h.1.1.1, h.1.1.2⟩
theorem itemO_yes {m : Int} {L : List Nd} (h : zi5 m L = true) : zh7 (m, L) = some m.toNat := by simp [zh7, h]
theorem itemO_no {m : Int} {L : List Nd} (h : zi5 m L = false) : zh7 (m, L) = none := by simp [zh7, h]
theorem zp3 {x : Int × List Nd} {k : Nat} (h : zh7 x = some k) : x.1 = (k : Int) ∧ k ≤ 4 := by
 unfold zh7 at h
 split at h
 ·rename_i hb
  have := zq6 hb
  cases h
  omega
 ·cases h
theorem zi7 (xs : List (Int × List Nd)) : (rowO xs).length = xs.length := by simp [rowO]
theorem rowO_at {xs : List (Int × List Nd)} {i : Nat} {x : Int × List Nd} (h : xs[i]? = some x) : (rowO xs).drop i = zh7 x :: (rowO xs).drop (i + 1) := by
 obtain ⟨h1, h2⟩ := List.getElem?_eq_some_iff.1 h
 rw [List.drop_eq_getElem_cons (by rw [zi7]; exact h1)]
 congr 1
 simp [rowO, h2]
def endI (n : Nat) : Option Row → Int
 | none => -1
 | some R => (n : Int) - (R.length : Int)
theorem ends_at {k deep p n : Nat} {L R : Row} (hn : L.length = n) (hp : p ≤ n) (h : ends k deep (L.drop p) = some R) : ∃ p' : Nat, endI n (some R) = (p' : Int) ∧ p' ≤ n ∧ L.drop p' = R := by
 obtain ⟨h1, h2⟩ := ends_len h
 rw [List.length_drop] at h1 h2
 refine ⟨n - R.length, by rw [endI]; omega, by omega, ?_⟩
 rw [List.drop_drop] at h2
 have e : p + (L.length - p - R.length) = n - R.length := by omega
 rw [e] at h2
 exact h2.symm
theorem take_at {k p n : Nat} {L R : Row} {F : Fo} (hn : L.length = n) (hp : p ≤ n) (h : take k (L.drop p) = some (F, R)) : ∃ p' : Nat, (n : Int) - (R.length : Int) = (p' : Int) ∧ p' ≤ n ∧ L.drop p' = R := by
 obtain ⟨-, h1, h2⟩ := zo3 h
 rw [List.length_drop] at h1 h2
 refine ⟨n - R.length, by omega, by omega, ?_⟩
 rw [List.drop_drop] at h2
 have e : p + (L.length - p - R.length) = n - R.length := by omega
 rw [e] at h2
 exact h2.symm
theorem take_split {k : Nat} {L R : Row} {F : Fo} (h : take (k + 1) L = some (F, R)) : ∃ kids more R1, F = .cons kids more ∧ take 1 L = some (.cons kids .nil, R1) ∧ take k R1 = some (more, R) := by
 rw [zw5] at h
 cases h1 : take 1 L with
 | none => rw [h1] at h; cases h
 | some x =>
  obtain ⟨G, R1⟩ := x
  obtain ⟨kids, rfl⟩ := ya1 h1
  rw [h1] at h
  simp only at h
  cases h2 : take k R1 with
  | none => rw [h2] at h; cases h
  | some y =>
   obtain ⟨more, R'⟩ := y
   rw [h2] at h
   simp [Fo.app] at h
   obtain ⟨rfl, rfl⟩ := h
   exact ⟨kids, more, R1, rfl, rfl, h2⟩
def Fo.sz : Fo → Nat
 | .nil => 0
 | .cons k m => k.sz + m.sz + 1
theorem Fo.len_le (F : Fo) : F.len ≤ F.sz := by
 induction F with
 | nil => simp [Fo.len]
 | cons k m _ ih => simp only [Fo.len, Fo.sz]; omega
theorem Fo.zy6 (F : Fo) : F.depth ≤ F.sz := by
 induction F with
 | nil => simp [Fo.depth]
 | cons k m ih1 ih2 => simp only [Fo.depth, Fo.sz]; omega
theorem Fo.leaves1_le (F : Fo) : F.ze1 ≤ F.sz := by
 induction F with
 | nil => simp [Fo.ze1]
 | cons k m ih1 ih2 => simp only [Fo.ze1, Fo.sz]; omega
theorem parse_sz (f : Nat) : ∀ k L F R, parse f k L = some (F, R) → F.sz + R.length = L.length := by
 induction f with
 | zero =>
  intro k L F R h
  cases k with
  | zero => simp [parse] at h; obtain ⟨rfl, rfl⟩ := h; simp [Fo.sz]
  | succ k => simp [parse] at h
 | succ f ih =>
  intro k L F R h
  cases k with
  | zero => simp [parse] at h; obtain ⟨rfl, rfl⟩ := h; simp [Fo.sz]
  | succ k =>
   match L, h with
   | [], h => simp [parse] at h
   | none :: L, h => simp [parse] at h
   | some m :: L, h =>
    simp only [parse] at h
    split at h
    ·cases h
    ·rename_i kids R1 h1
     split at h
     ·cases h
     ·rename_i more R2 h2
      cases h
      have a1 := ih _ _ _ _ h1
      have a2 := ih _ _ _ _ h2
      simp only [Fo.sz, List.length_cons]
      omega
theorem take_sz {k : Nat} {L R : Row} {F : Fo} (h : take k L = some (F, R)) : F.sz + R.length = L.length := parse_sz _ _ _ _ _ h
theorem leaves_pos (k m : Fo) : 1 ≤ (Fo.cons k m).ze1 := by simp only [Fo.ze1]; omega
theorem zeros_le (L : Row) : zeros L ≤ L.length := List.countP_le_length
theorem level_le (k : Fo) : k.level ≤ k.depth := by
 induction k with
 | nil => simp [Fo.level]
 | cons a b ih _ => simp only [Fo.level, Fo.depth]; omega
theorem nest_fail {L : Row} (h : take 1 L = none) : nest L = none := by
 unfold nest; rw [h]; simp
theorem nest_rest {L R : Row} {k : Fo} (h : take 1 L = some (.cons k .nil, R)) (hR : R.length ≠ 0) : nest L = none := by
 unfold nest; rw [h]
 cases R with
 | nil => simp at hR
 | cons a b => simp
theorem nest_deep {L R : Row} {k : Fo} (h : take 1 L = some (.cons k .nil, R)) (hd : 4 < k.depth + 1) : nest L = none := by
 unfold nest; rw [h]
 cases R with
 | nil => simp only; rw [if_neg (show ¬ k.depth ≤ 3 by omega)]; simp
 | cons a b => simp
theorem nest_ok {L R : Row} {k : Fo} (h12 : L.length ≤ 12) (h : take 1 L = some (.cons k .nil, R)) (hR : R.length = 0) (hd : ¬ 4 < k.depth + 1) : nest L = some k := by
 have e : R = [] := List.eq_nil_of_length_eq_zero hR
 subst e
 unfold nest; rw [if_pos h12, h]
 simp only
 rw [if_pos (show k.depth ≤ 3 by omega)]
theorem nest_sz {L : Row} {k : Fo} (h : nest L = some k) : k.sz ≤ 12 := by
 obtain ⟨h1, h2, -⟩ := zm0 h
 have := take_sz h2
 simp [Fo.sz] at this
 omega
def went (F : Fo) (o : Option (Fo × Row)) : Option (Fo × Row) := o.map (fun y => (F.app y.1, y.2))
theorem went_start (o : Option (Fo × Row)) : went .nil o = o := by cases o <;> rfl
theorem went_step {F kids : Fo} {k : Nat} {L R : Row} (h : take 1 L = some (.cons kids .nil, R)) : went F (take (k + 1) L) = went (F.app (.cons kids .nil)) (take k R) := by
 rw [zw5, h]
 cases h2 : take k R with
 | none => simp [went, h2]
 | some y => obtain ⟨m, R'⟩ := y; simp [went, h2, Fo.app_assoc]
theorem went_fail {F : Fo} {k : Nat} {L : Row} (h : take 1 L = none) : went F (take (k + 1) L) = none := by
 rw [zw5, h]; rfl
theorem went_end (F : Fo) (L : Row) : went F (take 0 L) = some (F, L) := by simp [went, take_zero, Fo.app_nil]
theorem rowO_drop (xs : List (Int × List Nd)) (k : Nat) : (rowO xs).drop k = rowO (xs.drop k) := by simp [rowO, List.map_drop]
end Pl
end Go.Proofs.YtioildojmckepaaGreatDoor

namespace Go.Proofs.YtioildojmckepaaGreatDoor
namespace Pl
def depthO : Option Fo → Int
 | none => 0
 | some k => (k.depth : Int) + 1
def zx5 : Option Fo → Int
 | none => 0
 | some k => (k.leaves : Int)
def zp5 : Option Fo → Int
 | none => 0
 | some k => (k.level : Int)
theorem parse_some (f : Nat) : ∀ k L F R, parse f k L = some (F, R) → ∀ i, i + R.length < L.length → L[i]? ≠ some none := by
 induction f with
 | zero =>
  intro k L F R h
  cases k with
  | zero => simp [parse] at h; obtain ⟨rfl, rfl⟩ := h; intro i hi; omega
  | succ k => simp [parse] at h
 | succ f ih =>
  intro k L F R h
  cases k with
  | zero => simp [parse] at h; obtain ⟨rfl, rfl⟩ := h; intro i hi; omega
  | succ k =>
   match L, h with
   | [], h => simp [parse] at h
   | none :: L, h => simp [parse] at h
   | some m :: L, h =>
    simp only [parse] at h
    split at h
    ·cases h
    ·rename_i kids R1 h1
     split at h
     ·cases h
     ·rename_i more R2 h2
      cases h
      have a1 := ih _ _ _ _ h1
      have a2 := ih _ _ _ _ h2
      obtain ⟨-, l1, n, e1⟩ := zr3 _ _ _ _ _ h1
      intro i hi
      cases i with
      | zero => simp
      | succ i =>
       simp only [List.length_cons] at hi
       rw [List.getElem?_cons_succ]
       by_cases hlt : i + R1.length < L.length
       ·exact a1 i hlt
       ·have hn : R1.length = L.length - n := by rw [e1, List.length_drop]
        have := a2 (i - n) (by omega)
        rw [e1, List.getElem?_drop] at this
        by_cases hin : n ≤ i
        ·rw [show n + (i - n) = i by omega] at this; exact this
        ·omega
theorem yc2 {L : Row} {k : Fo} (h : nest L = some k) (i : Nat) : L[i]? ≠ some none := by
 intro hi
 have hlt := (List.getElem?_eq_some_iff.1 hi).1
 exact parse_some _ _ _ _ _ (zm0 h).2.1 i (by simpa using hlt) hi
end Pl
end Go.Proofs.YtioildojmckepaaGreatDoor

namespace Go.Proofs.YtioildojmckepaaGreatDoor
namespace Pl
def unf (u : Nat) : Int := if u % 2 = 1 then -((u / 2 : Nat) : Int) - 1 else ((u / 2 : Nat) : Int)
def zd1 (s : ByteArray) : Nat → Nat → Nat → Nat → Int × Int × Int
 | 0, _, _, _ => (0, 0, 3)
 | f + 1, p, k, X =>
  if s.size ≤ p then (0, 0, 4)
  else
   let c := (s.data.toList.getD p 0).toNat
   if 128 ≤ c then (if k = 9 then (0, 0, 3) else zd1 s f (p + 1) (k + 1) (X + c % 128 * 128 ^ k))
   else if (k = 9 ∧ 1 < c) ∨ (c = 0 ∧ 0 < k) then (0, 0, 3)
   else (unf (X + c * 128 ^ k), ((p + 1 : Nat) : Int), 0)
section
variable {s : ByteArray} {p k X : Nat}
theorem zx3 (f : Nat) (h : s.size ≤ p) : zd1 s (f + 1) p k X = (0, 0, 4) := by rw [zd1, if_pos h]
theorem zt5 (f : Nat) (h : p < s.size) (hc : 128 ≤ s[p].toNat) (hk : k ≠ 9) : zd1 s (f + 1) p k X = zd1 s f (p + 1) (k + 1) (X + s[p].toNat % 128 * 128 ^ k) := by
 rw [zd1, if_neg (by omega), zi0 s p h]
 simp only
 rw [if_pos hc, if_neg hk]
theorem zz1 (f : Nat) (h : p < s.size) (hc : 128 ≤ s[p].toNat) (hk : k = 9) : zd1 s (f + 1) p k X = (0, 0, 3) := by
 rw [zd1, if_neg (by omega), zi0 s p h]
 simp only
 rw [if_pos hc, if_pos hk]
theorem zw2 (f : Nat) (h : p < s.size) (hc : s[p].toNat < 128) (hb : (k = 9 ∧ 1 < s[p].toNat) ∨ (s[p].toNat = 0 ∧ 0 < k)) : zd1 s (f + 1) p k X = (0, 0, 3) := by
 rw [zd1, if_neg (by omega), zi0 s p h]
 simp only
 rw [if_neg (by omega), if_pos hb]
theorem zs7 (f : Nat) (h : p < s.size) (hc : s[p].toNat < 128) (hb : ¬ ((k = 9 ∧ 1 < s[p].toNat) ∨ (s[p].toNat = 0 ∧ 0 < k))) :
  zd1 s (f + 1) p k X = (unf (X + s[p].toNat * 128 ^ k), ((p + 1 : Nat) : Int), 0) := by
 rw [zd1, if_neg (by omega), zi0 s p h]
 simp only
 rw [if_neg (by omega), if_neg hb]
end
def za0 (s : ByteArray) (a : Int) : Int × Int × Int := if 8000 < s.size then (0, 0, 2) else if a < 0 then (0, 0, 1) else zd1 s 10 a.toNat 0 0

theorem next_lt {k X c : Nat} (hX : X < 128 ^ k) : X + c % 128 * 128 ^ k < 128 ^ (k + 1) := by
 have h1 : c % 128 ≤ 127 := by omega
 have h2 : c % 128 * 128 ^ k ≤ 127 * 128 ^ k := Nat.mul_le_mul_right _ h1
 rw [Nat.pow_succ]
 omega
theorem or_form {k X y : Nat} (hX : X < 128 ^ k) (hy : X + y * 128 ^ k < 18446744073709551616) : bits .or .u64 (X : Int) ((y * 128 ^ k : Nat) : Int) = ((X + y * 128 ^ k : Nat) : Int) := by
 have h1 : y * 128 ^ k < 18446744073709551616 := by omega
 have e : (128 : Nat) ^ k = 2 ^ (7 * k) := by rw [show (128 : Nat) = 2 ^ 7 by decide, ← Nat.pow_mul]
 rw [u64_or_nat X (y * 128 ^ k) (by omega) h1, Nat.or_comm, nat_join (7 * k) (y * 128 ^ k) X (by rw [e]; exact Nat.mul_mod_left _ _) (by rw [← e]; exact hX), Nat.add_comm]
theorem tell_form {k X c : Nat} (hX : X < 128 ^ k) (hc : c < 256) (hy : X + c % 128 * 128 ^ k < 18446744073709551616) :
  bits .or .u64 (X : Int) (IntKind.u64.wrap (IntKind.u64.wrap (bits .and .u8 (c : Int) 127) * 2 ^ (7 * k))) = ((X + c % 128 * 128 ^ k : Nat) : Int) := by
 have h1 : bits .and .u8 (c : Int) 127 = ((c % 128 : Nat) : Int) := by
  have h4 := u8_and_nat c 127 hc (by omega)
  have h5 := Nat.and_two_pow_sub_one_eq_mod c 7
  have e : (2 ^ 7 - 1 : Nat) = 127 := rfl
  rw [e] at h5
  rw [h5] at h4
  exact h4
 have e2 : (128 : Nat) ^ k = 2 ^ (7 * k) := by rw [show (128 : Nat) = 2 ^ 7 by decide, ← Nat.pow_mul]
 have h2 : IntKind.u64.wrap ((c % 128 : Nat) : Int) = ((c % 128 : Nat) : Int) := by rw [IntKind.wrap_u64]; omega
 have h3 : ((c % 128 : Nat) : Int) * 2 ^ (7 * k) = ((c % 128 * 128 ^ k : Nat) : Int) := by rw [e2]; simp
 rw [h1, h2, h3]
 have h6 : IntKind.u64.wrap ((c % 128 * 128 ^ k : Nat) : Int) = ((c % 128 * 128 ^ k : Nat) : Int) := by
  rw [IntKind.wrap_u64]
  generalize c % 128 * 128 ^ k = q at *
  omega
 rw [h6]
 exact or_form hX hy
theorem zs4 {k X c : Nat} (hk : k ≤ 8) (hX : X < 128 ^ k) : X + c % 128 * 128 ^ k < 18446744073709551616 := by
 have h1 := next_lt (c := c) hX
 have h2 : (128 : Nat) ^ (k + 1) ≤ 128 ^ 9 := Nat.pow_le_pow_right (by omega) (by omega)
 have h3 : (128 : Nat) ^ 9 = 9223372036854775808 := by decide
 omega
theorem yf {X c : Nat} (hc : c ≤ 1) (hX : X < 128 ^ 9) : X + c % 128 * 128 ^ 9 < 18446744073709551616 := by
 have h3 : (128 : Nat) ^ 9 = 9223372036854775808 := by decide
 rw [h3] at *
 omega
theorem low64_form (u : Nat) (h : u < 18446744073709551616) : bits .and .u64 (u : Int) 1 = (u : Int) % 2 := by
 have h4 := u64_and_nat u 1 h (by omega)
 rw [Nat.and_one_is_mod] at h4
 rw [show (u : Int) % 2 = ((u % 2 : Nat) : Int) by omega]
 exact h4
theorem notI_form (u : Nat) (hu : u < 18446744073709551616) : bits .xor .i64 (-1) ((u : Int) / 2) = -((u / 2 : Nat) : Int) - 1 := by
 have e : (u : Int) / 2 = ((u / 2 : Nat) : Int) := by omega
 rw [e]
 have hh : u / 2 < 9223372036854775808 := by omega
 generalize u / 2 = h at hh
 show IntKind.i64.wrap ((BitVec.ofInt 64 (-1) ^^^ BitVec.ofInt 64 (h : Int)).toNat : Int) = _
 have e1 : (BitVec.ofInt 64 (-1)).toNat = 18446744073709551615 := by decide
 rw [BitVec.toNat_xor, e1, ofInt_u64 h (by omega), Nat.xor_comm, turned64 h (by omega), IntKind.wrap_i64]
 omega
theorem sum_form {k X c : Nat} (hy : X + c % 128 * 128 ^ k < 18446744073709551616) :
  IntKind.u64.wrap ((X : Int) + IntKind.u64.wrap ((c : Int) % 128 * 2 ^ (7 * k))) = ((X + c % 128 * 128 ^ k : Nat) : Int) := by
 have e2 : (128 : Nat) ^ k = 2 ^ (7 * k) := by rw [show (128 : Nat) = 2 ^ 7 by decide, ← Nat.pow_mul]
 have e1 : (c : Int) % 128 = ((c % 128 : Nat) : Int) := by omega
 have h3 : (c : Int) % 128 * 2 ^ (7 * k) = ((c % 128 * 128 ^ k : Nat) : Int) := by rw [e1, e2]; simp
 rw [h3]
 generalize c % 128 * 128 ^ k = q at *
 rw [IntKind.wrap_u64, IntKind.wrap_u64]
 omega
end Pl
end Go.Proofs.YtioildojmckepaaGreatDoor

namespace Go.Proofs.YtioildojmckepaaGreatDoor
namespace Pl
theorem getAt_zero (s : ByteArray) (f : Nat) : ∀ p k X, (zd1 s f p k X).2.2 ≠ 0 → (zd1 s f p k X).1 = 0 ∧ (zd1 s f p k X).2.1 = 0 := by
 induction f with
 | zero => intro p k X _; exact ⟨rfl, rfl⟩
 | succ f ih =>
  intro p k X
  rw [zd1]
  simp only
  split
  ·intro _; exact ⟨rfl, rfl⟩
  ·split
   ·split
    ·intro _; exact ⟨rfl, rfl⟩
    ·exact ih _ _ _
   ·split
    ·intro _; exact ⟨rfl, rfl⟩
    ·intro h; exact absurd rfl h
theorem getNum_zero (s : ByteArray) (a : Int) : (za0 s a).2.2 ≠ 0 → (za0 s a).1 = 0 ∧ (za0 s a).2.1 = 0 := by
 unfold za0
 split
 ·intro _; exact ⟨rfl, rfl⟩
 ·split
  ·intro _; exact ⟨rfl, rfl⟩
  ·exact getAt_zero s _ _ _ _
end Pl
end Go.Proofs.YtioildojmckepaaGreatDoor

namespace Go.Proofs.YtioildojmckepaaGreatDoor
namespace Pl
def za6 (s : ByteArray) (a : Int) : ByteArray × Int × Int :=
 if (za0 s a).2.2 ≠ 0 then (⟨#[]⟩, 0, (za0 s a).2.2)
 else if (za0 s a).1 < 0 ∨ 8000 < (za0 s a).1 then (⟨#[]⟩, 0, 3)
 else if (s.size : Int) < (za0 s a).2.1 + (za0 s a).1 then (⟨#[]⟩, 0, 4)
 else (s.extract (za0 s a).2.1.toNat ((za0 s a).2.1.toNat + (za0 s a).1.toNat), (za0 s a).2.1 + (za0 s a).1, 0)
theorem getAt_ok (s : ByteArray) (f : Nat) : ∀ p k X, (zd1 s f p k X).2.2 = 0 → ∃ q : Nat, (zd1 s f p k X).2.1 = (q : Int) ∧ q ≤ s.size := by
 induction f with
 | zero => intro p k X h; exact absurd h (by simp [zd1])
 | succ f ih =>
  intro p k X
  rw [zd1]
  simp only
  split
  ·intro h; exact absurd h (by simp)
  ·split
   ·split
    ·intro h; exact absurd h (by simp)
    ·exact ih _ _ _
   ·split
    ·intro h; exact absurd h (by simp)
    ·intro _; exact ⟨p + 1, rfl, by omega⟩
theorem getNum_ok (s : ByteArray) (a : Int) : (za0 s a).2.2 = 0 → s.size ≤ 8000 ∧ ∃ q : Nat, (za0 s a).2.1 = (q : Int) ∧ q ≤ s.size := by
 unfold za0
 split
 ·intro h; exact absurd h (by simp)
 ·split
  ·intro h; exact absurd h (by simp)
  ·intro h; exact ⟨by omega, getAt_ok s _ _ _ _ h⟩
theorem zs3 (s : ByteArray) (a : Int) : ∃ n p c, za0 s a = (n, p, c) ∧
  ((c ≠ 0 ∧ n = 0 ∧ p = 0 ∧ za6 s a = (⟨#[]⟩, 0, c)) ∨
  (c = 0 ∧ s.size ≤ 8000 ∧ ∃ q : Nat, p = (q : Int) ∧ q ≤ s.size ∧
   ((n < 0 ∧ za6 s a = (⟨#[]⟩, 0, 3)) ∨ (8000 < n ∧ za6 s a = (⟨#[]⟩, 0, 3)) ∨
   ∃ m : Nat, n = (m : Int) ∧ m ≤ 8000 ∧ ((s.size < q + m ∧ za6 s a = (⟨#[]⟩, 0, 4)) ∨ (q + m ≤ s.size ∧ za6 s a = (s.extract q (q + m), (q : Int) + (m : Int), 0)))))) := by
 have hz := getNum_zero s a
 have hk := getNum_ok s a
 unfold za6
 generalize za0 s a = r at *
 obtain ⟨n, p, c⟩ := r
 refine ⟨n, p, c, rfl, ?_⟩
 simp only at *
 by_cases hc : c = 0
 ·right
  obtain ⟨h8, q, rfl, hq⟩ := hk hc
  refine ⟨hc, h8, q, rfl, hq, ?_⟩
  rw [if_neg (by simp [hc])]
  by_cases h1 : n < 0
  ·left; exact ⟨h1, by rw [if_pos (.inl h1)]⟩
  by_cases h2 : 8000 < n
  ·right; left; exact ⟨h2, by rw [if_pos (.inr h2)]⟩
  right; right
  obtain ⟨m, rfl⟩ := Int.eq_ofNat_of_zero_le (Int.not_lt.1 h1)
  refine ⟨m, rfl, by omega, ?_⟩
  rw [if_neg (by omega)]
  by_cases h3 : s.size < q + m
  ·left; exact ⟨h3, by rw [if_pos (by omega)]⟩
  ·right; exact ⟨by omega, by rw [if_neg (by omega)]; rfl⟩
 ·left
  obtain ⟨hn, hp⟩ := hz hc
  exact ⟨hc, hn, hp, by rw [if_pos hc]⟩
end Pl
end Go.Proofs.YtioildojmckepaaGreatDoor

