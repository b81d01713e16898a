/- What was read of a nest's bytes: its bytes; right to the end, or the bytes of it: the same. -/
import Derived.Test.YtnbmpbfligdcjaaDoorPlainRead
import Derived.Test.YtnbmpbfligdcjaaDoorPlainNB
namespace Go.Proofs.YtnbmpbfligdcjaaDoor
namespace Pl
theorem treeR_back {t : ByteArray} {L : List Nd} (h : treeR t = some L) : treeB L = true ∧ bytesT L = t := by
  unfold treeR at h
  split at h
  · rename_i h0
    split at h
    · rename_i h1
      cases h
      have h2 := (read_same h0.1 h0.2.1 h1.1).1 ⟨h1.2.1, h1.2.2⟩
      rw [treeBytes_right h1.2.2] at h2
      exact ⟨h1.2.2, h2⟩
    · cases h
  · cases h
theorem readO_zero {t : ByteArray} (h : (readO t).2 = 0) : treeB (readO t).1 = true ∧ bytesT (readO t).1 = t ∧ t.size ≤ 8000 := by
  by_cases h8 : 8000 < t.size
  · rw [readO_long h8] at h; cases h
  · cases hr : treeR t with
    | none => rw [readO_none h8 hr] at h; cases h
    | some L =>
      rw [readO_some h8 hr]
      obtain ⟨h1, h2⟩ := treeR_back hr
      exact ⟨h1, h2, by omega⟩
/-- An item that was read, the place behind it, and the fault. -/
structure Im where
  n : Int × List Nd
  a : Int
  f : Option Int
def itemR (s : ByteArray) (a : Int) (f : Option Int) : Im :=
  ⟨((numR s a f).1, (readO (strR s (numR s a f).2.1 (numR s a f).2.2).1).1), (strR s (numR s a f).2.1 (numR s a f).2.2).2.1,
    match (strR s (numR s a f).2.1 (numR s a f).2.2).2.2 with
    | none => if (readO (strR s (numR s a f).2.1 (numR s a f).2.2).1).2 = 0 then none else some (readO (strR s (numR s a f).2.1 (numR s a f).2.2).1).2
    | some c => some c⟩
theorem itemR_none {s : ByteArray} {a : Int} {f : Option Int} (h : (itemR s a f).f = none) : f = none ∧ ∃ (p q : Nat), a = (p : Int) ∧ (itemR s a f).a = (q : Int) ∧ p < q ∧ q ≤ s.size ∧ piece s p q = cat (itemP (itemR s a f).n) ∧ treeB (itemR s a f).n.2 = true := by
  have h2 : (strR s (numR s a f).2.1 (numR s a f).2.2).2.2 = none := by
    cases hc : (strR s (numR s a f).2.1 (numR s a f).2.2).2.2 with
    | none => rfl
    | some c => simp [itemR, hc] at h
  have h3 : (readO (strR s (numR s a f).2.1 (numR s a f).2.2).1).2 = 0 := by
    by_cases h0 : (readO (strR s (numR s a f).2.1 (numR s a f).2.2).1).2 = 0
    · exact h0
    · simp [itemR, h2, h0] at h
  obtain ⟨t1, t2, -⟩ := readO_zero h3
  have k2 := strR_none h2
  have k1 := numR_none k2.1
  obtain ⟨p2, q2, a2, b2, c2, d2, e2, -⟩ := text_read k2.2.1
  obtain ⟨p1, q1, a1, b1, c1, d1, e1⟩ := num_read k1.2.1
  have g2 := k2.2.2
  have g1 := k1.2.2
  have k : p2 = q1 := by rw [g1] at a2; simp only at a2; omega
  subst k
  refine ⟨k1.1, p1, q2, a1, ?_, by omega, d2, ?_, t1⟩
  · show (strR s _ _).2.1 = _
    rw [g2]; exact b2
  · rw [← piece_app s (q := p2) (by omega) (by omega), e1, e2]
    show _ = cat [num (numR s a f).1, WText.put (bytesT (readO (strR s _ _).1).1)]
    rw [t2, g2, g1]
    simp [cat, by_]
/-- The state behind j items. -/
structure Sj where
  L : List (Int × List Nd)
  a : Int
  f : Option Int
def stepsI (s : ByteArray) (a : Int) : Nat → Sj
  | 0 => ⟨[], a, none⟩
  | j + 1 => ⟨(stepsI s a j).L ++ [(itemR s (stepsI s a j).a (stepsI s a j).f).n], (itemR s (stepsI s a j).a (stepsI s a j).f).a, (itemR s (stepsI s a j).a (stepsI s a j).f).f⟩
theorem stepsI_len (s : ByteArray) (a : Int) (j : Nat) : (stepsI s a j).L.length = j := by
  induction j with
  | zero => rfl
  | succ j ih => simp [stepsI, ih]
theorem stepsI_none {s : ByteArray} {p : Nat} (hp : p ≤ s.size) (j : Nat) (h : (stepsI s (p : Int) j).f = none) : ∃ q : Nat, (stepsI s (p : Int) j).a = (q : Int) ∧ p ≤ q ∧ q ≤ s.size ∧ piece s p q = cat ((stepsI s (p : Int) j).L.flatMap itemP) := by
  induction j with
  | zero => exact ⟨p, rfl, Nat.le_refl _, hp, by simp [stepsI, piece, cat]⟩
  | succ j ih =>
    have h' : (itemR s (stepsI s (p : Int) j).a (stepsI s (p : Int) j).f).f = none := h
    obtain ⟨hf, p1, q1, a1, b1, c1, d1, e1, -⟩ := itemR_none h'
    obtain ⟨q, e2, h2, h3, h4⟩ := ih hf
    have k : p1 = q := by rw [e2] at a1; omega
    subst k
    refine ⟨q1, b1, by omega, d1, ?_⟩
    rw [← piece_app s h2 (Nat.le_of_lt c1), h4, e1]
    simp only [stepsI, List.flatMap_append, List.flatMap_cons, List.flatMap_nil, List.append_nil, cat_app]
theorem stepsI_stay {s : ByteArray} {a : Int} {j : Nat} (h : (stepsI s a j).f ≠ none) (i : Nat) : (stepsI s a (j + i)).f ≠ none := by
  induction i with
  | zero => exact h
  | succ i ih =>
    intro h'
    have h2 : (itemR s (stepsI s a (j + i)).a (stepsI s a (j + i)).f).f = none := h'
    exact ih (itemR_none h2).1
/-- All was read without a fault: right to the end, or the bytes of it: it is the same. -/
theorem readN_same {s : ByteArray} (h8 : s.size ≤ 8000) {c q : Nat} (h : getNum s 0 = ((c : Int), (q : Int), 0)) (hf : (stepsI s (q : Int) c).f = none) :
    ((stepsI s (q : Int) c).a = (s.size : Int) ∧ (nest (rowO (stepsI s (q : Int) c).L)).isSome = true) ↔ nestBytes (stepsI s (q : Int) c).L = s := by
  obtain ⟨p, q', e1, e2, h2, h3, h4⟩ := num_read (s := s) (a := 0) (by rw [h])
  obtain rfl : p = 0 := by omega
  rw [h] at e2 h4
  simp only at e2 h4
  obtain rfl : q = q' := by omega
  obtain ⟨q2, e3, h5, h6, h7⟩ := stepsI_none h3 _ hf
  have hlen := stepsI_len s (q : Int) c
  generalize stepsI s (q : Int) c = S at *
  have hb : by_ (bytesN S.L) = piece s 0 q2 := by
    rw [← piece_app s (Nat.zero_le q) h5, h7, h4]
    unfold bytesN
    rw [by_mk, hlen]
    simp [cat, by_]
  have hsz : (bytesN S.L).size = q2 := by rw [← by_length, hb, piece_len s (Nat.zero_le _) h6]; omega
  unfold nestBytes
  constructor
  · rintro ⟨ha, ht⟩
    rw [e3] at ha
    obtain rfl : q2 = s.size := by omega
    rw [if_pos ht, if_neg (by omega)]
    exact by_inj (by rw [hb, piece_all])
  · intro he
    have h0 : (ByteArray.mk #[]).size = 0 := rfl
    split at he
    · rename_i ht
      rw [if_neg (by omega)] at he
      refine ⟨?_, ht⟩
      rw [e3, ← he, hsz]
    · rw [← he] at h3; omega
/-- An item, as the specification reads it. -/
def itemS (s : ByteArray) (a : Int) : (Int × List Nd) × Int × Bool :=
  (((numS s a false).1, (readO (textS s (numS s a false).2.1 (numS s a false).2.2).1).1), (textS s (numS s a false).2.1 (numS s a false).2.2).2.1,
    (textS s (numS s a false).2.1 (numS s a false).2.2).2.2 || decide ((readO (textS s (numS s a false).2.1 (numS s a false).2.2).1).2 ≠ 0))
theorem item_same (s : ByteArray) (a : Int) : ((itemS s a).2.2 = false ∧ (itemR s a none).f = none ∧ (itemS s a).2.1 = (itemR s a none).a ∧ (itemS s a).1 = (itemR s a none).n) ∨ ((itemS s a).2.2 = true ∧ (itemR s a none).f ≠ none) := by
  have h1 := num_same (s := s) (a := a) (b := a) (bad := false) (f := none) (.inl ⟨rfl, rfl, rfl⟩)
  have h2 := text_same (s := s) (next_same h1)
  rcases h2 with ⟨a2, b2, c2, d2⟩ | ⟨a2, b2⟩
  · have n1 := (strR_none b2).1
    rcases h1 with ⟨-, -, -, d1⟩ | ⟨-, b⟩
    rotate_left
    · exact absurd n1 b
    by_cases h0 : (readO (strR s (numR s a none).2.1 (numR s a none).2.2).1).2 = 0
    · left
      refine ⟨?_, ?_, c2, ?_⟩
      · show (_ || decide _) = false
        rw [a2, d2]; simp [h0]
      · simp [itemR, b2, h0]
      · show ((_ : Int), _) = (_, _)
        rw [d1, d2]
    · right
      refine ⟨?_, ?_⟩
      · show (_ || decide _) = true
        rw [a2, d2]; simp [h0]
      · simp [itemR, b2, h0]
  · right
    refine ⟨?_, ?_⟩
    · show (_ || decide _) = true
      rw [a2]; simp
    · cases hc : (strR s (numR s a none).2.1 (numR s a none).2.2).2.2 with
      | none => exact absurd hc b2
      | some c => simp [itemR, hc]
theorem stepsI_succ {s : ByteArray} {a : Int} {j : Nat} (h : (stepsI s a j).f = none) : ((itemS s (stepsI s a j).a).2.2 = false ∧ (stepsI s a (j + 1)).f = none ∧ (itemS s (stepsI s a j).a).2.1 = (stepsI s a (j + 1)).a ∧ (stepsI s a j).L ++ [(itemS s (stepsI s a j).a).1] = (stepsI s a (j + 1)).L) ∨ ((itemS s (stepsI s a j).a).2.2 = true ∧ (stepsI s a (j + 1)).f ≠ none) := by
  have hn := item_same s (stepsI s a j).a
  rcases hn with ⟨h1, h2, h3, h4⟩ | ⟨h1, h2⟩
  · refine .inl ⟨h1, ?_, ?_, ?_⟩
    · simp only [stepsI, h]; exact h2
    · simp only [stepsI, h]; exact h3
    · simp only [stepsI, h, h4]
  · refine .inr ⟨h1, ?_⟩
    simp only [stepsI, h]; exact h2
/-- What NestRead reads. -/
def nestR (s : ByteArray) : Option (List (Int × List Nd)) :=
  if (getNum s 0).2.2 = 0 ∧ 0 ≤ (getNum s 0).1 ∧ (getNum s 0).1 ≤ 12 then
    (if (stepsI s (getNum s 0).2.1 (getNum s 0).1.toNat).f = none ∧ (stepsI s (getNum s 0).2.1 (getNum s 0).1.toNat).a = (s.size : Int) ∧ (nest (rowO (stepsI s (getNum s 0).2.1 (getNum s 0).1.toNat).L)).isSome = true then some (stepsI s (getNum s 0).2.1 (getNum s 0).1.toNat).L else none)
  else none
/-- What NestRead answers. -/
def nestRO (s : ByteArray) : List (Int × List Nd) × Int := if 8000 < s.size then ([], 2) else match nestR s with
  | some L => (L, 0)
  | none => ([], 3)
theorem manyN_cases (s : ByteArray) : (∃ c q : Nat, getNum s 0 = ((c : Int), (q : Int), 0) ∧ c ≤ 12 ∧ 0 < q ∧ q ≤ s.size ∧ manyS s 0 false 12 = ((c : Int), (q : Int), false)) ∨ ((manyS s 0 false 12).1 = 0 ∧ (manyS s 0 false 12).2.2 = true ∧ (manyS s 0 false 12).2.1 ≤ 8000 + (s.size : Int) ∧ nestR s = none) := by
  by_cases h0 : (getNum s 0).2.2 = 0
  · obtain ⟨p, q, e1, e2, h1, h2, -⟩ := num_read h0
    have en : numS s 0 false = ((getNum s 0).1, (getNum s 0).2.1, false) := if_neg (by simp [h0])
    by_cases hr : 0 ≤ (getNum s 0).1 ∧ (getNum s 0).1 ≤ 12
    · left
      refine ⟨(getNum s 0).1.toNat, q, ?_, by omega, by omega, h2, ?_⟩
      · exact Prod.ext (by simp only; omega) (Prod.ext e2 h0)
      · unfold manyS
        rw [en]
        simp only
        rw [if_pos hr, e2, show (((getNum s 0).1.toNat : Nat) : Int) = (getNum s 0).1 by omega]
    · right
      have em : manyS s 0 false 12 = (0, (getNum s 0).2.1, true) := by
        unfold manyS
        rw [en]
        simp only
        rw [if_neg hr]
      rw [em]
      refine ⟨rfl, rfl, by simp only; omega, ?_⟩
      unfold nestR
      rw [if_neg (fun h => hr ⟨h.2.1, h.2.2⟩)]
  · right
    have en : numS s 0 false = (0, 0, true) := if_pos (.inr h0)
    have em : manyS s 0 false 12 = (0, 0, true) := by
      unfold manyS
      rw [en]
      simp
    rw [em]
    refine ⟨rfl, rfl, by simp only; omega, ?_⟩
    unfold nestR
    rw [if_neg (fun h => h0 h.1)]
theorem nestR_none {s : ByteArray} {c q j : Nat} (h : getNum s 0 = ((c : Int), (q : Int), 0)) (hj : j ≤ c) (hf : (stepsI s (q : Int) j).f ≠ none) : nestR s = none := by
  unfold nestR
  rw [h]
  simp only
  split
  · rw [if_neg]
    intro h'
    have := stepsI_stay hf (c - j)
    rw [show j + (c - j) = c by omega] at this
    exact this (by rw [Int.toNat_natCast] at h'; exact h'.1)
  · rfl
theorem nestR_end {s : ByteArray} (h8 : s.size ≤ 8000) {c q : Nat} (h : getNum s 0 = ((c : Int), (q : Int), 0)) (hc : c ≤ 12) (hf : (stepsI s (q : Int) c).f = none) : nestR s = if nestBytes (stepsI s (q : Int) c).L = s then some (stepsI s (q : Int) c).L else none := by
  have hs := readN_same h8 h hf
  unfold nestR
  rw [h]
  simp only [Int.toNat_natCast]
  rw [if_pos ⟨trivial, by omega, by omega⟩]
  by_cases hb : nestBytes (stepsI s (q : Int) c).L = s
  · rw [if_pos hb, if_pos ⟨hf, (hs.2 hb).1, (hs.2 hb).2⟩]
  · rw [if_neg hb, if_neg (fun h' => hb (hs.1 h'.2))]
theorem nestR_fin {s : ByteArray} {c q : Nat} (h : getNum s 0 = ((c : Int), (q : Int), 0)) (hc : c ≤ 12) : nestR s = if (stepsI s (q : Int) c).f = none ∧ (stepsI s (q : Int) c).a = (s.size : Int) ∧ (nest (rowO (stepsI s (q : Int) c).L)).isSome = true then some (stepsI s (q : Int) c).L else none := by
  unfold nestR
  rw [h]
  simp only [Int.toNat_natCast]
  rw [if_pos ⟨trivial, by omega, by omega⟩]
theorem countN_cases (s : ByteArray) : (∃ c q : Nat, getNum s 0 = ((c : Int), (q : Int), 0) ∧ c ≤ 12 ∧ 0 < q ∧ q ≤ s.size ∧ numR s 0 none = ((c : Int), (q : Int), none)) ∨ (((numR s 0 none).1 < 0 ∨ 12 < (numR s 0 none).1) ∧ nestR s = none) ∨ (∃ code, (numR s 0 none).1 = 0 ∧ (numR s 0 none).2.1 = 0 ∧ (numR s 0 none).2.2 = some code ∧ nestR s = none) := by
  by_cases h0 : (getNum s 0).2.2 = 0
  · obtain ⟨p, q, e1, e2, h1, h2, -⟩ := num_read h0
    have en : numR s 0 none = ((getNum s 0).1, (getNum s 0).2.1, none) := if_pos h0
    by_cases hr : 0 ≤ (getNum s 0).1 ∧ (getNum s 0).1 ≤ 12
    · left
      refine ⟨(getNum s 0).1.toNat, q, ?_, by omega, by omega, h2, ?_⟩
      · exact Prod.ext (by simp only; omega) (Prod.ext e2 h0)
      · rw [en, e2, show (((getNum s 0).1.toNat : Nat) : Int) = (getNum s 0).1 by omega]
    · right; left
      rw [en]
      refine ⟨by simp only; omega, ?_⟩
      unfold nestR
      rw [if_neg (fun h => hr ⟨h.2.1, h.2.2⟩)]
  · right; right
    have en : numR s 0 none = (0, 0, some (getNum s 0).2.2) := if_neg h0
    rw [en]
    refine ⟨_, rfl, rfl, rfl, ?_⟩
    unfold nestR
    rw [if_neg (fun h => h0 h.1)]
end Pl
end Go.Proofs.YtnbmpbfligdcjaaDoor
