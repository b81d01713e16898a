/- Several texts of one claim in one file: PlainItem, PlainNum. -/
import Derived.Test.YtkfpfckmjgjanacDoorPlainNest
/- An item as it reads: may it be, and how many it says to have in it. -/
namespace Go.Proofs.YtkfpfckmjgjanacDoor
namespace Pl
def itemB (m : Int) (L : List Nd) : Bool := decide (0 ≤ m) && decide (m ≤ 4) && (decide (m = 0) || L.isEmpty) && treeB L
def itemO (x : Int × List Nd) : Option Nat := if itemB x.1 x.2 = true then some x.1.toNat else none
def rowO (xs : List (Int × List Nd)) : Row := xs.map itemO
theorem treeB_nil : treeB [] = true := by rfl
theorem itemB_zero (L : List Nd) : itemB 0 L = treeB L := by simp [itemB]
theorem itemB_more {m : Int} (h : m ≠ 0) (L : List Nd) : itemB m L = (decide (1 ≤ m) && decide (m ≤ 4) && decide (L.length = 0)) := by
  unfold itemB
  rw [show decide (m = 0) = false from decide_eq_false h, Bool.false_or]
  have e : decide (0 ≤ m) = decide (1 ≤ m) := decide_eq_decide.2 (by omega)
  rw [e]
  cases L with
  | nil => simp [treeB_nil]
  | cons a L => simp
theorem itemB_range {m : Int} {L : List Nd} (h : itemB m L = true) : 0 ≤ m ∧ m ≤ 4 := by
  simp [itemB] at h
  exact ⟨h.1.1.1, h.1.1.2⟩
theorem itemO_yes {m : Int} {L : List Nd} (h : itemB m L = true) : itemO (m, L) = some m.toNat := by simp [itemO, h]
theorem itemO_no {m : Int} {L : List Nd} (h : itemB m L = false) : itemO (m, L) = none := by simp [itemO, h]
theorem itemO_some {x : Int × List Nd} {k : Nat} (h : itemO x = some k) : x.1 = (k : Int) ∧ k ≤ 4 := by
  unfold itemO at h
  split at h
  · rename_i hb
    have := itemB_range hb
    cases h
    omega
  · cases h
theorem rowO_len (xs : List (Int × List Nd)) : (rowO xs).length = xs.length := by simp [rowO]
theorem rowO_at {xs : List (Int × List Nd)} {i : Nat} {x : Int × List Nd} (h : xs[i]? = some x) : (rowO xs).drop i = itemO x :: (rowO xs).drop (i + 1) := by
  obtain ⟨h1, h2⟩ := List.getElem?_eq_some_iff.1 h
  rw [List.drop_eq_getElem_cons (by rw [rowO_len]; exact h1)]
  congr 1
  simp [rowO, h2]
/-- The place behind, or -1. -/
def endI (n : Nat) : Option Row → Int
  | none => -1
  | some R => (n : Int) - (R.length : Int)
theorem ends_at {k deep p n : Nat} {L R : Row} (hn : L.length = n) (hp : p ≤ n) (h : ends k deep (L.drop p) = some R) : ∃ p' : Nat, endI n (some R) = (p' : Int) ∧ p' ≤ n ∧ L.drop p' = R := by
  obtain ⟨h1, h2⟩ := ends_len h
  rw [List.length_drop] at h1 h2
  refine ⟨n - R.length, by rw [endI]; omega, by omega, ?_⟩
  rw [List.drop_drop] at h2
  have e : p + (L.length - p - R.length) = n - R.length := by omega
  rw [e] at h2
  exact h2.symm
theorem take_at {k p n : Nat} {L R : Row} {F : Fo} (hn : L.length = n) (hp : p ≤ n) (h : take k (L.drop p) = some (F, R)) : ∃ p' : Nat, (n : Int) - (R.length : Int) = (p' : Int) ∧ p' ≤ n ∧ L.drop p' = R := by
  obtain ⟨-, h1, h2⟩ := takeF_len h
  rw [List.length_drop] at h1 h2
  refine ⟨n - R.length, by omega, by omega, ?_⟩
  rw [List.drop_drop] at h2
  have e : p + (L.length - p - R.length) = n - R.length := by omega
  rw [e] at h2
  exact h2.symm
theorem take_split {k : Nat} {L R : Row} {F : Fo} (h : take (k + 1) L = some (F, R)) : ∃ kids more R1, F = .cons kids more ∧ take 1 L = some (.cons kids .nil, R1) ∧ take k R1 = some (more, R) := by
  rw [take_step] at h
  cases h1 : take 1 L with
  | none => rw [h1] at h; cases h
  | some x =>
    obtain ⟨G, R1⟩ := x
    obtain ⟨kids, rfl⟩ := one_shape h1
    rw [h1] at h
    simp only at h
    cases h2 : take k R1 with
    | none => rw [h2] at h; cases h
    | some y =>
      obtain ⟨more, R'⟩ := y
      rw [h2] at h
      simp [Fo.app] at h
      obtain ⟨rfl, rfl⟩ := h
      exact ⟨kids, more, R1, rfl, rfl, h2⟩
def Fo.sz : Fo → Nat
  | .nil => 0
  | .cons k m => k.sz + m.sz + 1
theorem Fo.len_le (F : Fo) : F.len ≤ F.sz := by
  induction F with
  | nil => simp [Fo.len]
  | cons k m _ ih => simp only [Fo.len, Fo.sz]; omega
theorem Fo.depth_le (F : Fo) : F.depth ≤ F.sz := by
  induction F with
  | nil => simp [Fo.depth]
  | cons k m ih1 ih2 => simp only [Fo.depth, Fo.sz]; omega
theorem Fo.leaves1_le (F : Fo) : F.leaves1 ≤ F.sz := by
  induction F with
  | nil => simp [Fo.leaves1]
  | cons k m ih1 ih2 => simp only [Fo.leaves1, Fo.sz]; omega
theorem parse_sz (f : Nat) : ∀ k L F R, parse f k L = some (F, R) → F.sz + R.length = L.length := by
  induction f with
  | zero =>
    intro k L F R h
    cases k with
    | zero => simp [parse] at h; obtain ⟨rfl, rfl⟩ := h; simp [Fo.sz]
    | succ k => simp [parse] at h
  | succ f ih =>
    intro k L F R h
    cases k with
    | zero => simp [parse] at h; obtain ⟨rfl, rfl⟩ := h; simp [Fo.sz]
    | succ k =>
      match L, h with
      | [], h => simp [parse] at h
      | none :: L, h => simp [parse] at h
      | some m :: L, h =>
        simp only [parse] at h
        split at h
        · cases h
        · rename_i kids R1 h1
          split at h
          · cases h
          · rename_i more R2 h2
            cases h
            have a1 := ih _ _ _ _ h1
            have a2 := ih _ _ _ _ h2
            simp only [Fo.sz, List.length_cons]
            omega
theorem take_sz {k : Nat} {L R : Row} {F : Fo} (h : take k L = some (F, R)) : F.sz + R.length = L.length := parse_sz _ _ _ _ _ h
theorem leaves_pos (k m : Fo) : 1 ≤ (Fo.cons k m).leaves1 := by simp only [Fo.leaves1]; omega
theorem zeros_le (L : Row) : zeros L ≤ L.length := List.countP_le_length
theorem level_le (k : Fo) : k.level ≤ k.depth := by
  induction k with
  | nil => simp [Fo.level]
  | cons a b ih _ => simp only [Fo.level, Fo.depth]; omega
theorem nest_fail {L : Row} (h : take 1 L = none) : nest L = none := by
  unfold nest; rw [h]; simp
theorem nest_rest {L R : Row} {k : Fo} (h : take 1 L = some (.cons k .nil, R)) (hR : R.length ≠ 0) : nest L = none := by
  unfold nest; rw [h]
  cases R with
  | nil => simp at hR
  | cons a b => simp
theorem nest_deep {L R : Row} {k : Fo} (h : take 1 L = some (.cons k .nil, R)) (hd : 4 < k.depth + 1) : nest L = none := by
  unfold nest; rw [h]
  cases R with
  | nil => simp only; rw [if_neg (show ¬ k.depth ≤ 3 by omega)]; simp
  | cons a b => simp
theorem nest_ok {L R : Row} {k : Fo} (h12 : L.length ≤ 12) (h : take 1 L = some (.cons k .nil, R)) (hR : R.length = 0) (hd : ¬ 4 < k.depth + 1) : nest L = some k := by
  have e : R = [] := List.eq_nil_of_length_eq_zero hR
  subst e
  unfold nest; rw [if_pos h12, h]
  simp only
  rw [if_pos (show k.depth ≤ 3 by omega)]
theorem nest_sz {L : Row} {k : Fo} (h : nest L = some k) : k.sz ≤ 12 := by
  obtain ⟨h1, h2, -⟩ := nest_yes h
  have := take_sz h2
  simp [Fo.sz] at this
  omega
/-- What is left to take, with what was taken. -/
def went (F : Fo) (o : Option (Fo × Row)) : Option (Fo × Row) := o.map (fun y => (F.app y.1, y.2))
theorem went_start (o : Option (Fo × Row)) : went .nil o = o := by cases o <;> rfl
theorem went_step {F kids : Fo} {k : Nat} {L R : Row} (h : take 1 L = some (.cons kids .nil, R)) : went F (take (k + 1) L) = went (F.app (.cons kids .nil)) (take k R) := by
  rw [take_step, h]
  cases h2 : take k R with
  | none => simp [went, h2]
  | some y => obtain ⟨m, R'⟩ := y; simp [went, h2, Fo.app_assoc]
theorem went_fail {F : Fo} {k : Nat} {L : Row} (h : take 1 L = none) : went F (take (k + 1) L) = none := by
  rw [take_step, h]; rfl
theorem went_end (F : Fo) (L : Row) : went F (take 0 L) = some (F, L) := by simp [went, take_zero, Fo.app_nil]
theorem rowO_drop (xs : List (Int × List Nd)) (k : Nat) : (rowO xs).drop k = rowO (xs.drop k) := by simp [rowO, List.map_drop]
end Pl
end Go.Proofs.YtkfpfckmjgjanacDoor

/- The numbers of a nest, if it is right. -/
namespace Go.Proofs.YtkfpfckmjgjanacDoor
namespace Pl
def depthO : Option Fo → Int
  | none => 0
  | some k => (k.depth : Int) + 1
def leavesO : Option Fo → Int
  | none => 0
  | some k => (k.leaves : Int)
def levelO : Option Fo → Int
  | none => 0
  | some k => (k.level : Int)
theorem parse_some (f : Nat) : ∀ k L F R, parse f k L = some (F, R) → ∀ i, i + R.length < L.length → L[i]? ≠ some none := by
  induction f with
  | zero =>
    intro k L F R h
    cases k with
    | zero => simp [parse] at h; obtain ⟨rfl, rfl⟩ := h; intro i hi; omega
    | succ k => simp [parse] at h
  | succ f ih =>
    intro k L F R h
    cases k with
    | zero => simp [parse] at h; obtain ⟨rfl, rfl⟩ := h; intro i hi; omega
    | succ k =>
      match L, h with
      | [], h => simp [parse] at h
      | none :: L, h => simp [parse] at h
      | some m :: L, h =>
        simp only [parse] at h
        split at h
        · cases h
        · rename_i kids R1 h1
          split at h
          · cases h
          · rename_i more R2 h2
            cases h
            have a1 := ih _ _ _ _ h1
            have a2 := ih _ _ _ _ h2
            obtain ⟨-, l1, n, e1⟩ := parse_len _ _ _ _ _ h1
            intro i hi
            cases i with
            | zero => simp
            | succ i =>
              simp only [List.length_cons] at hi
              rw [List.getElem?_cons_succ]
              by_cases hlt : i + R1.length < L.length
              · exact a1 i hlt
              · have hn : R1.length = L.length - n := by rw [e1, List.length_drop]
                have := a2 (i - n) (by omega)
                rw [e1, List.getElem?_drop] at this
                by_cases hin : n ≤ i
                · rw [show n + (i - n) = i by omega] at this; exact this
                · omega
theorem nest_nonone {L : Row} {k : Fo} (h : nest L = some k) (i : Nat) : L[i]? ≠ some none := by
  intro hi
  have hlt := (List.getElem?_eq_some_iff.1 hi).1
  exact parse_some _ _ _ _ _ (nest_yes h).2.1 i (by simpa using hlt) hi
end Pl
end Go.Proofs.YtkfpfckmjgjanacDoor

