/- Several texts of one claim in one file: PlainNest, PlainItem, PlainFx. -/
import Derived.Test.YtlgbdbmikmbioaaDoorPlainTree
/- Nests, plain: a list of items taken as nests one behind the other; how deep they are, how many leaves, where the first leaf is. No program in sight. -/
namespace Go.Proofs.YtlgbdbmikmbioaaDoor
namespace Pl
/-- A row of nests: each what it has in it, and those behind it. -/
inductive Fo where
  | nil : Fo
  | cons (kids more : Fo) : Fo
namespace Fo
def len : Fo → Nat
  | .nil => 0
  | .cons _ m => m.len + 1
def depth : Fo → Nat
  | .nil => 0
  | .cons k m => max (k.depth + 1) m.depth
/-- How many leaves these have. -/
def leaves1 : Fo → Nat
  | .nil => 0
  | .cons k m => max 1 k.leaves1 + m.leaves1
/-- How many leaves a nest has that has these in it. -/
def leaves (k : Fo) : Nat := max 1 k.leaves1
def level : Fo → Nat
  | .nil => 0
  | .cons k _ => 1 + k.level
def app : Fo → Fo → Fo
  | .nil, r => r
  | .cons k m, r => .cons k (m.app r)
theorem app_nil (a : Fo) : a.app .nil = a := by
  induction a with
  | nil => rfl
  | cons k m _ ih => rw [app, ih]
theorem app_assoc (a b c : Fo) : (a.app b).app c = a.app (b.app c) := by
  induction a with
  | nil => rfl
  | cons k m _ ih => rw [app, app, app, ih]
theorem len_app (a b : Fo) : (a.app b).len = a.len + b.len := by
  induction a with
  | nil => simp [app, len]
  | cons k m _ ih => rw [app, len, len, ih]; omega
theorem depth_app (a b : Fo) : (a.app b).depth = max a.depth b.depth := by
  induction a with
  | nil => simp [app, depth]
  | cons k m _ ih => rw [app, depth, depth, ih]; omega
theorem leaves1_app (a b : Fo) : leaves1 (a.app b) = leaves1 a + leaves1 b := by
  induction a with
  | nil => simp [app, leaves1]
  | cons k m _ ih => rw [app, leaves1, leaves1, ih]; omega
theorem depth_one (k : Fo) : (Fo.cons k .nil).depth = k.depth + 1 := by simp [depth]
theorem leaves1_one (k : Fo) : (Fo.cons k .nil).leaves1 = k.leaves := by simp [leaves1, leaves]
end Fo
abbrev Row := List (Option Nat)
/-- k nests off the front of a list. -/
def parse : Nat → Nat → Row → Option (Fo × Row)
  | _, 0, L => some (.nil, L)
  | 0, _ + 1, _ => none
  | _ + 1, _ + 1, [] => none
  | _ + 1, _ + 1, none :: _ => none
  | f + 1, k + 1, some m :: L => match parse f m L with
    | none => none
    | some (kids, R) => match parse f k R with
      | none => none
      | some (more, R') => some (.cons kids more, R')
theorem parse_len (f : Nat) : ∀ k L F R, parse f k L = some (F, R) → F.len = k ∧ R.length + k ≤ L.length ∧ ∃ n, R = L.drop n := by
  induction f with
  | zero =>
    intro k L F R h
    cases k with
    | zero => simp [parse] at h; obtain ⟨rfl, rfl⟩ := h; exact ⟨rfl, Nat.le_refl _, 0, rfl⟩
    | succ k => simp [parse] at h
  | succ f ih =>
    intro k L F R h
    cases k with
    | zero => simp [parse] at h; obtain ⟨rfl, rfl⟩ := h; exact ⟨rfl, Nat.le_refl _, 0, rfl⟩
    | succ k =>
      match L, h with
      | [], h => simp [parse] at h
      | none :: L, h => simp [parse] at h
      | some m :: L, h =>
        simp only [parse] at h
        split at h
        · cases h
        · rename_i kids R1 h1
          split at h
          · cases h
          · rename_i more R2 h2
            cases h
            obtain ⟨a1, a2, n1, a3⟩ := ih _ _ _ _ h1
            obtain ⟨b1, b2, n2, b3⟩ := ih _ _ _ _ h2
            refine ⟨by rw [Fo.len, b1], by simp; omega, n1 + n2 + 1, ?_⟩
            rw [b3, a3, List.drop_drop, List.drop_succ_cons]
theorem parse_fuel (f : Nat) : ∀ g k (L : Row), L.length ≤ f → L.length ≤ g → parse f k L = parse g k L := by
  induction f with
  | zero =>
    intro g k L h1 h2
    have : L = [] := List.eq_nil_of_length_eq_zero (by omega)
    subst this
    cases k <;> cases g <;> simp [parse]
  | succ f ih =>
    intro g k L h1 h2
    cases k with
    | zero => cases g <;> simp [parse]
    | succ k =>
      match L, h1, h2 with
      | [], _, _ => cases g <;> simp [parse]
      | none :: L, _, h2 => cases g <;> simp [parse]
      | some m :: L, h1, h2 =>
        cases g with
        | zero => simp at h2
        | succ g =>
          simp only [List.length_cons] at h1 h2
          simp only [parse]
          rw [ih g m L (by omega) (by omega)]
          split
          · rfl
          · rename_i kids R h
            have := (parse_len _ _ _ _ _ h).2.1
            rw [ih g k R (by omega) (by omega)]
/-- k nests off the front of a list, all of it looked at. -/
def take (k : Nat) (L : Row) : Option (Fo × Row) := parse L.length k L
theorem take_zero (L : Row) : take 0 L = some (.nil, L) := by unfold take; cases L.length <;> rfl
theorem take_nil (k : Nat) : take (k + 1) [] = none := rfl
theorem take_none (k : Nat) (L : Row) : take (k + 1) (none :: L) = none := rfl
theorem take_some (k m : Nat) (L : Row) : take (k + 1) (some m :: L) = match take m L with
    | none => none
    | some (kids, R) => match take k R with
      | none => none
      | some (more, R') => some (.cons kids more, R') := by
  unfold take
  simp only [List.length_cons, parse]
  split
  · rfl
  · rename_i kids R h
    have := (parse_len _ _ _ _ _ h).2.1
    rw [parse_fuel L.length R.length k R (by omega) (Nat.le_refl _)]
theorem takeF_len {k : Nat} {L : Row} {F : Fo} {R : Row} (h : take k L = some (F, R)) : F.len = k ∧ R.length + k ≤ L.length ∧ R = L.drop (L.length - R.length) := by
  obtain ⟨h1, h2, n, h3⟩ := parse_len _ _ _ _ _ h
  refine ⟨h1, h2, ?_⟩
  by_cases hn : n ≤ L.length
  · have : R.length = L.length - n := by rw [h3, List.length_drop]
    rw [this, Nat.sub_sub_self hn]; exact h3
  · have e : R = [] := by rw [h3]; exact List.drop_eq_nil_of_le (by omega)
    subst e; simp
theorem take_one (m : Nat) (L : Row) : take 1 (some m :: L) = (take m L).map (fun x => (.cons x.1 .nil, x.2)) := by
  rw [show (1 : Nat) = 0 + 1 from rfl, take_some]
  cases h : take m L with
  | none => rfl
  | some x => obtain ⟨a, b⟩ := x; simp [take_zero]
/-- One nest, and then the others. -/
theorem take_step (k : Nat) (L : Row) : take (k + 1) L = match take 1 L with
    | none => none
    | some (F, R) => match take k R with
      | none => none
      | some (more, R') => some (F.app more, R') := by
  match L with
  | [] => rfl
  | none :: L => rfl
  | some m :: L =>
    rw [take_one, take_some]
    cases h : take m L with
    | none => rfl
    | some x => obtain ⟨a, b⟩ := x; rfl
theorem one_shape {L : Row} {F : Fo} {R : Row} (h : take 1 L = some (F, R)) : ∃ kids, F = .cons kids .nil := by
  match L, h with
  | [], h => cases h
  | none :: L, h => cases h
  | some m :: L, h =>
    rw [take_one] at h
    cases h' : take m L with
    | none => rw [h'] at h; simp at h
    | some x => rw [h'] at h; simp at h; exact ⟨x.1, h.1.symm⟩
/-- What stands behind k nests that begin so deep, none deeper than four. -/
def ends (k deep : Nat) (L : Row) : Option Row := match take k L with
  | none => none
  | some (F, R) => if deep + F.depth ≤ 5 then some R else none
theorem ends_zero (deep : Nat) (L : Row) (h : deep ≤ 5) : ends 0 deep L = some L := by
  unfold ends
  rw [take_zero]
  simp [Fo.depth, h]
theorem ends_step (k deep : Nat) (L : Row) : ends (k + 1) deep L = (ends 1 deep L).bind (ends k deep) := by
  unfold ends
  rw [take_step]
  cases h : take 1 L with
  | none => rfl
  | some x =>
    obtain ⟨F, R⟩ := x
    simp only
    cases h2 : take k R with
    | none =>
      by_cases h3 : deep + F.depth ≤ 5
      · simp only [if_pos h3, Option.bind_some, h2]
      · simp only [if_neg h3, Option.bind_none]
    | some y =>
      obtain ⟨M, R'⟩ := y
      simp only [Fo.depth_app]
      by_cases h3 : deep + F.depth ≤ 5
      · rw [if_pos h3]
        simp only [Option.bind_some, h2]
        by_cases h4 : deep + M.depth ≤ 5
        · rw [if_pos h4, if_pos (by omega)]
        · rw [if_neg h4, if_neg (by omega)]
      · rw [if_neg h3, if_neg (by omega)]; rfl
theorem ends_one (m deep : Nat) (L : Row) : ends 1 deep (some m :: L) = ends m (deep + 1) L := by
  unfold ends
  rw [take_one]
  cases h1 : take m L with
  | none => rfl
  | some x =>
    obtain ⟨F, R⟩ := x
    simp only [Option.map_some]
    have hd := Fo.depth_one F
    by_cases h2 : deep + 1 + F.depth ≤ 5
    · rw [if_pos h2, if_pos (by omega)]
    · rw [if_neg h2, if_neg (by omega)]
theorem ends_none (deep : Nat) (L : Row) : ends 1 deep (none :: L) = none := rfl
theorem ends_nil (deep : Nat) : ends 1 deep [] = none := rfl
theorem ends_deep (deep : Nat) (L : Row) (h : 4 < deep) : ends 1 deep L = none := by
  unfold ends
  cases h1 : take 1 L with
  | none => rfl
  | some x =>
    obtain ⟨F, R⟩ := x
    obtain ⟨kids, rfl⟩ := one_shape h1
    have hd := Fo.depth_one kids
    exact if_neg (by omega)
theorem ends_len {k deep : Nat} {L R : Row} (h : ends k deep L = some R) : R.length + k ≤ L.length ∧ R = L.drop (L.length - R.length) := by
  unfold ends at h
  cases h1 : take k L with
  | none => rw [h1] at h; cases h
  | some x =>
    obtain ⟨F, R'⟩ := x
    rw [h1] at h
    simp only at h
    split at h
    · cases h; exact (takeF_len h1).2
    · cases h
/-- A right nest: what is in it. -/
def nest (L : Row) : Option Fo := if L.length ≤ 12 then match take 1 L with
  | some (.cons k .nil, []) => if k.depth ≤ 3 then some k else none
  | _ => none else none
theorem nest_yes {L : Row} {k : Fo} (h : nest L = some k) : L.length ≤ 12 ∧ take 1 L = some (.cons k .nil, []) ∧ k.depth ≤ 3 := by
  unfold nest at h
  split at h
  · split at h
    · split at h
      · cases h; exact ⟨by assumption, by assumption, by assumption⟩
      · cases h
    · cases h
  · cases h
theorem nest_ends (L : Row) (h : L.length ≤ 12) : (nest L).isSome = true ↔ ends 1 1 L = some [] := by
  unfold nest ends
  rw [if_pos h]
  cases h1 : take 1 L with
  | none => simp
  | some x =>
    obtain ⟨F, R⟩ := x
    obtain ⟨k, rfl⟩ := one_shape h1
    have hd := Fo.depth_one k
    cases R with
    | nil =>
      simp only
      by_cases h2 : k.depth ≤ 3
      · rw [if_pos h2, if_pos (by omega)]; simp
      · rw [if_neg h2, if_neg (by omega)]; simp
    | cons a b => simp only; split <;> simp
theorem nest_long (L : Row) (h : ¬ L.length ≤ 12) : nest L = none := by unfold nest; rw [if_neg h]
/-- How many leaves a list has. -/
def zeros (L : Row) : Nat := L.countP (fun x => decide (x = some 0))
theorem zeros_cons (x : Option Nat) (L : Row) : zeros (x :: L) = zeros L + (if x = some 0 then 1 else 0) := by
  unfold zeros
  rw [List.countP_cons]
  simp
theorem parse_zeros (f : Nat) : ∀ k L F R, parse f k L = some (F, R) → F.leaves1 + zeros R = zeros L := by
  induction f with
  | zero =>
    intro k L F R h
    cases k with
    | zero => simp [parse] at h; obtain ⟨rfl, rfl⟩ := h; simp [Fo.leaves1]
    | succ k => simp [parse] at h
  | succ f ih =>
    intro k L F R h
    cases k with
    | zero => simp [parse] at h; obtain ⟨rfl, rfl⟩ := h; simp [Fo.leaves1]
    | succ k =>
      match L, h with
      | [], h => simp [parse] at h
      | none :: L, h => simp [parse] at h
      | some m :: L, h =>
        simp only [parse] at h
        split at h
        · cases h
        · rename_i kids R1 h1
          split at h
          · cases h
          · rename_i more R2 h2
            cases h
            have a1 := ih _ _ _ _ h1
            have a2 := ih _ _ _ _ h2
            have a3 := (parse_len _ _ _ _ _ h1).1
            rw [zeros_cons, Fo.leaves1]
            cases kids with
            | nil =>
              simp [Fo.len] at a3
              subst a3
              simp only [Fo.leaves1, if_true] at a1 ⊢
              omega
            | cons a b =>
              simp only [Fo.len] at a3
              rw [if_neg (by simp; omega)]
              simp only [Fo.leaves1] at a1 ⊢
              omega
theorem nest_leaves {L : Row} {k : Fo} (h : nest L = some k) : k.leaves = zeros L := by
  have := parse_zeros _ _ _ _ _ (nest_yes h).2.1
  rw [Fo.leaves1_one] at this
  rw [← this]
  simp [zeros]
theorem level_at (F : Fo) : ∀ k L R kids more, F = .cons kids more → take k L = some (F, R) → (∀ j, j < kids.level → ∃ m, L[j]? = some (some (m + 1))) ∧ L[kids.level]? = some (some 0) := by
  induction F with
  | nil => intro k L R kids more h; cases h
  | cons a b ih _ =>
    intro k L R kids more h ht
    cases h
    match k, L, ht with
    | 0, L, ht => rw [take_zero] at ht; cases ht
    | k + 1, [], ht => cases ht
    | k + 1, none :: L, ht => cases ht
    | k + 1, some m :: L, ht =>
      rw [take_some] at ht
      cases h1 : take m L with
      | none => rw [h1] at ht; cases ht
      | some x =>
        obtain ⟨c, S⟩ := x
        rw [h1] at ht
        simp only at ht
        cases h2 : take k S with
        | none => rw [h2] at ht; cases ht
        | some y =>
          rw [h2] at ht
          simp at ht
          obtain ⟨⟨rfl, -⟩, -⟩ := ht
          have hl := (takeF_len h1).1
          cases c with
          | nil =>
            simp [Fo.len] at hl
            subst hl
            exact ⟨fun j hj => absurd hj (by simp [Fo.level]), rfl⟩
          | cons p q =>
            simp [Fo.len] at hl
            obtain ⟨i1, i2⟩ := ih _ _ _ _ _ rfl h1
            refine ⟨fun j hj => ?_, ?_⟩
            · cases j with
              | zero => exact ⟨m - 1, by simp; omega⟩
              | succ j => simpa using i1 j (by simp [Fo.level] at hj; omega)
            · rw [Fo.level, Nat.add_comm]; simpa using i2
theorem nest_level {L : Row} {k : Fo} (h : nest L = some k) : (∀ j, j < k.level → ∃ m, L[j]? = some (some (m + 1))) ∧ L[k.level]? = some (some 0) :=
  level_at _ _ _ _ _ _ rfl (nest_yes h).2.1
end Pl
end Go.Proofs.YtlgbdbmikmbioaaDoor

/- An item as it reads: may it be, and how many it says to have in it. -/
namespace Go.Proofs.YtlgbdbmikmbioaaDoor
namespace Pl
def itemB (m : Int) (L : List Nd) : Bool := decide (0 ≤ m) && decide (m ≤ 4) && (decide (m = 0) || L.isEmpty) && treeB L
def itemO (x : Int × List Nd) : Option Nat := if itemB x.1 x.2 = true then some x.1.toNat else none
def rowO (xs : List (Int × List Nd)) : Row := xs.map itemO
theorem treeB_nil : treeB [] = true := by rfl
theorem itemB_zero (L : List Nd) : itemB 0 L = treeB L := by simp [itemB]
theorem itemB_more {m : Int} (h : m ≠ 0) (L : List Nd) : itemB m L = (decide (1 ≤ m) && decide (m ≤ 4) && decide (L.length = 0)) := by
  unfold itemB
  rw [show decide (m = 0) = false from decide_eq_false h, Bool.false_or]
  have e : decide (0 ≤ m) = decide (1 ≤ m) := decide_eq_decide.2 (by omega)
  rw [e]
  cases L with
  | nil => simp [treeB_nil]
  | cons a L => simp
theorem itemB_range {m : Int} {L : List Nd} (h : itemB m L = true) : 0 ≤ m ∧ m ≤ 4 := by
  simp [itemB] at h
  exact ⟨h.1.1.1, h.1.1.2⟩
theorem itemO_yes {m : Int} {L : List Nd} (h : itemB m L = true) : itemO (m, L) = some m.toNat := by simp [itemO, h]
theorem itemO_no {m : Int} {L : List Nd} (h : itemB m L = false) : itemO (m, L) = none := by simp [itemO, h]
theorem itemO_some {x : Int × List Nd} {k : Nat} (h : itemO x = some k) : x.1 = (k : Int) ∧ k ≤ 4 := by
  unfold itemO at h
  split at h
  · rename_i hb
    have := itemB_range hb
    cases h
    omega
  · cases h
theorem rowO_len (xs : List (Int × List Nd)) : (rowO xs).length = xs.length := by simp [rowO]
theorem rowO_at {xs : List (Int × List Nd)} {i : Nat} {x : Int × List Nd} (h : xs[i]? = some x) : (rowO xs).drop i = itemO x :: (rowO xs).drop (i + 1) := by
  obtain ⟨h1, h2⟩ := List.getElem?_eq_some_iff.1 h
  rw [List.drop_eq_getElem_cons (by rw [rowO_len]; exact h1)]
  congr 1
  simp [rowO, h2]
/-- The place behind, or -1. -/
def endI (n : Nat) : Option Row → Int
  | none => -1
  | some R => (n : Int) - (R.length : Int)
theorem ends_at {k deep p n : Nat} {L R : Row} (hn : L.length = n) (hp : p ≤ n) (h : ends k deep (L.drop p) = some R) : ∃ p' : Nat, endI n (some R) = (p' : Int) ∧ p' ≤ n ∧ L.drop p' = R := by
  obtain ⟨h1, h2⟩ := ends_len h
  rw [List.length_drop] at h1 h2
  refine ⟨n - R.length, by rw [endI]; omega, by omega, ?_⟩
  rw [List.drop_drop] at h2
  have e : p + (L.length - p - R.length) = n - R.length := by omega
  rw [e] at h2
  exact h2.symm
theorem take_at {k p n : Nat} {L R : Row} {F : Fo} (hn : L.length = n) (hp : p ≤ n) (h : take k (L.drop p) = some (F, R)) : ∃ p' : Nat, (n : Int) - (R.length : Int) = (p' : Int) ∧ p' ≤ n ∧ L.drop p' = R := by
  obtain ⟨-, h1, h2⟩ := takeF_len h
  rw [List.length_drop] at h1 h2
  refine ⟨n - R.length, by omega, by omega, ?_⟩
  rw [List.drop_drop] at h2
  have e : p + (L.length - p - R.length) = n - R.length := by omega
  rw [e] at h2
  exact h2.symm
theorem take_split {k : Nat} {L R : Row} {F : Fo} (h : take (k + 1) L = some (F, R)) : ∃ kids more R1, F = .cons kids more ∧ take 1 L = some (.cons kids .nil, R1) ∧ take k R1 = some (more, R) := by
  rw [take_step] at h
  cases h1 : take 1 L with
  | none => rw [h1] at h; cases h
  | some x =>
    obtain ⟨G, R1⟩ := x
    obtain ⟨kids, rfl⟩ := one_shape h1
    rw [h1] at h
    simp only at h
    cases h2 : take k R1 with
    | none => rw [h2] at h; cases h
    | some y =>
      obtain ⟨more, R'⟩ := y
      rw [h2] at h
      simp [Fo.app] at h
      obtain ⟨rfl, rfl⟩ := h
      exact ⟨kids, more, R1, rfl, rfl, h2⟩
def Fo.sz : Fo → Nat
  | .nil => 0
  | .cons k m => k.sz + m.sz + 1
theorem Fo.len_le (F : Fo) : F.len ≤ F.sz := by
  induction F with
  | nil => simp [Fo.len]
  | cons k m _ ih => simp only [Fo.len, Fo.sz]; omega
theorem Fo.depth_le (F : Fo) : F.depth ≤ F.sz := by
  induction F with
  | nil => simp [Fo.depth]
  | cons k m ih1 ih2 => simp only [Fo.depth, Fo.sz]; omega
theorem Fo.leaves1_le (F : Fo) : F.leaves1 ≤ F.sz := by
  induction F with
  | nil => simp [Fo.leaves1]
  | cons k m ih1 ih2 => simp only [Fo.leaves1, Fo.sz]; omega
theorem parse_sz (f : Nat) : ∀ k L F R, parse f k L = some (F, R) → F.sz + R.length = L.length := by
  induction f with
  | zero =>
    intro k L F R h
    cases k with
    | zero => simp [parse] at h; obtain ⟨rfl, rfl⟩ := h; simp [Fo.sz]
    | succ k => simp [parse] at h
  | succ f ih =>
    intro k L F R h
    cases k with
    | zero => simp [parse] at h; obtain ⟨rfl, rfl⟩ := h; simp [Fo.sz]
    | succ k =>
      match L, h with
      | [], h => simp [parse] at h
      | none :: L, h => simp [parse] at h
      | some m :: L, h =>
        simp only [parse] at h
        split at h
        · cases h
        · rename_i kids R1 h1
          split at h
          · cases h
          · rename_i more R2 h2
            cases h
            have a1 := ih _ _ _ _ h1
            have a2 := ih _ _ _ _ h2
            simp only [Fo.sz, List.length_cons]
            omega
theorem take_sz {k : Nat} {L R : Row} {F : Fo} (h : take k L = some (F, R)) : F.sz + R.length = L.length := parse_sz _ _ _ _ _ h
theorem leaves_pos (k m : Fo) : 1 ≤ (Fo.cons k m).leaves1 := by simp only [Fo.leaves1]; omega
theorem zeros_le (L : Row) : zeros L ≤ L.length := List.countP_le_length
theorem level_le (k : Fo) : k.level ≤ k.depth := by
  induction k with
  | nil => simp [Fo.level]
  | cons a b ih _ => simp only [Fo.level, Fo.depth]; omega
theorem nest_fail {L : Row} (h : take 1 L = none) : nest L = none := by
  unfold nest; rw [h]; simp
theorem nest_rest {L R : Row} {k : Fo} (h : take 1 L = some (.cons k .nil, R)) (hR : R.length ≠ 0) : nest L = none := by
  unfold nest; rw [h]
  cases R with
  | nil => simp at hR
  | cons a b => simp
theorem nest_deep {L R : Row} {k : Fo} (h : take 1 L = some (.cons k .nil, R)) (hd : 4 < k.depth + 1) : nest L = none := by
  unfold nest; rw [h]
  cases R with
  | nil => simp only; rw [if_neg (show ¬ k.depth ≤ 3 by omega)]; simp
  | cons a b => simp
theorem nest_ok {L R : Row} {k : Fo} (h12 : L.length ≤ 12) (h : take 1 L = some (.cons k .nil, R)) (hR : R.length = 0) (hd : ¬ 4 < k.depth + 1) : nest L = some k := by
  have e : R = [] := List.eq_nil_of_length_eq_zero hR
  subst e
  unfold nest; rw [if_pos h12, h]
  simp only
  rw [if_pos (show k.depth ≤ 3 by omega)]
theorem nest_sz {L : Row} {k : Fo} (h : nest L = some k) : k.sz ≤ 12 := by
  obtain ⟨h1, h2, -⟩ := nest_yes h
  have := take_sz h2
  simp [Fo.sz] at this
  omega
/-- What is left to take, with what was taken. -/
def went (F : Fo) (o : Option (Fo × Row)) : Option (Fo × Row) := o.map (fun y => (F.app y.1, y.2))
theorem went_start (o : Option (Fo × Row)) : went .nil o = o := by cases o <;> rfl
theorem went_step {F kids : Fo} {k : Nat} {L R : Row} (h : take 1 L = some (.cons kids .nil, R)) : went F (take (k + 1) L) = went (F.app (.cons kids .nil)) (take k R) := by
  rw [take_step, h]
  cases h2 : take k R with
  | none => simp [went, h2]
  | some y => obtain ⟨m, R'⟩ := y; simp [went, h2, Fo.app_assoc]
theorem went_fail {F : Fo} {k : Nat} {L : Row} (h : take 1 L = none) : went F (take (k + 1) L) = none := by
  rw [take_step, h]; rfl
theorem went_end (F : Fo) (L : Row) : went F (take 0 L) = some (F, L) := by simp [went, take_zero, Fo.app_nil]
theorem rowO_drop (xs : List (Int × List Nd)) (k : Nat) : (rowO xs).drop k = rowO (xs.drop k) := by simp [rowO, List.map_drop]
end Pl
end Go.Proofs.YtlgbdbmikmbioaaDoor

/- Nests with what they are themselves: rows of nests, each with a list of nodes. -/
namespace Go.Proofs.YtlgbdbmikmbioaaDoor
namespace Pl
/-- A row of nests: each with its own nodes, what it has in it, and those behind it. -/
inductive Fx where
  | nil : Fx
  | cons (L : List Nd) (kids more : Fx) : Fx
namespace Fx
def shape : Fx → Fo
  | .nil => .nil
  | .cons _ k m => .cons k.shape m.shape
def len : Fx → Nat
  | .nil => 0
  | .cons _ _ m => m.len + 1
def sz : Fx → Nat
  | .nil => 0
  | .cons _ k m => k.sz + m.sz + 1
/-- The items that they are, one behind the other. -/
def flat : Fx → List (Int × List Nd)
  | .nil => []
  | .cons L k m => ((k.len : Int), L) :: (k.flat ++ m.flat)
def app : Fx → Fx → Fx
  | .nil, r => r
  | .cons L k m, r => .cons L k (m.app r)
/-- The trees are right, and what has others in it has none. -/
def okX : Fx → Prop
  | .nil => True
  | .cons L k m => treeB L = true ∧ (k = .nil ∨ L = []) ∧ k.len ≤ 4 ∧ k.okX ∧ m.okX
theorem shape_len (X : Fx) : X.shape.len = X.len := by
  induction X with
  | nil => rfl
  | cons L k m _ ih => rw [shape, Fo.len, len, ih]
theorem shape_sz (X : Fx) : X.shape.sz = X.sz := by
  induction X with
  | nil => rfl
  | cons L k m ih1 ih2 => rw [shape, Fo.sz, sz, ih1, ih2]
theorem flat_len (X : Fx) : X.flat.length = X.sz := by
  induction X with
  | nil => rfl
  | cons L k m ih1 ih2 => rw [flat, List.length_cons, List.length_append, ih1, ih2, sz]
theorem shape_app (a b : Fx) : (a.app b).shape = a.shape.app b.shape := by
  induction a with
  | nil => rfl
  | cons L k m _ ih => rw [app, shape, shape, ih]; rfl
theorem len_app (a b : Fx) : (a.app b).len = a.len + b.len := by
  induction a with
  | nil => simp [app, len]
  | cons L k m _ ih => rw [app, len, len, ih]; omega
theorem flat_app (a b : Fx) : (a.app b).flat = a.flat ++ b.flat := by
  induction a with
  | nil => rfl
  | cons L k m _ ih => rw [app, flat, flat, ih]; simp
theorem ok_app {a b : Fx} (ha : a.okX) (hb : b.okX) : (a.app b).okX := by
  induction a with
  | nil => exact hb
  | cons L k m _ ih => exact ⟨ha.1, ha.2.1, ha.2.2.1, ha.2.2.2.1, ih ha.2.2.2.2⟩
theorem shape_nil {X : Fx} (h : X.shape = .nil) : X = .nil := by
  cases X with
  | nil => rfl
  | cons L k m => cases h
theorem len_zero {X : Fx} (h : X.len = 0) : X = .nil := by
  cases X with
  | nil => rfl
  | cons L k m => simp [len] at h
theorem len_le (X : Fx) : X.len ≤ X.sz := by
  induction X with
  | nil => exact Nat.le_refl _
  | cons L k m _ ih => rw [len, sz]; omega
theorem ok_mem {X : Fx} (h : X.okX) : ∀ x ∈ X.flat, treeB x.2 = true ∧ 0 ≤ x.1 ∧ x.1 ≤ 4 := by
  induction X with
  | nil => intro x hx; cases hx
  | cons L k m ih1 ih2 =>
    intro x hx
    rw [flat, List.mem_cons, List.mem_append] at hx
    rcases hx with rfl | hx | hx
    · exact ⟨h.1, by omega, by have := h.2.2.1; omega⟩
    · exact ih1 h.2.2.2.1 x hx
    · exact ih2 h.2.2.2.2 x hx
end Fx
end Pl
end Go.Proofs.YtlgbdbmikmbioaaDoor

