import Derived.Test.YtioildojmckepaaGreatDoorPlainRead
namespace Go.Proofs.YtioildojmckepaaGreatDoor
namespace Pl
theorem treeR_back {t : ByteArray} {L : List Nd} (h : zg8 t = some L) : zb1 L = true ∧ zb4 L = t := by
 unfold zg8 at h
 split at h
 ·rename_i h0
  split at h
  ·rename_i h1
   cases h
   have h2 := (read_same h0.1 h0.2.1 h1.1).1 ⟨h1.2.1, h1.2.2⟩
   rw [zl4 h1.2.2] at h2
   exact ⟨h1.2.2, h2⟩
  ·cases h
 ·cases h
theorem readO_zero {t : ByteArray} (h : (ze0 t).2 = 0) : zb1 (ze0 t).1 = true ∧ zb4 (ze0 t).1 = t ∧ t.size ≤ 8000 := by
 by_cases h8 : 8000 < t.size
 ·rw [zy9 h8] at h; cases h
 ·cases hr : zg8 t with
  | none => rw [zz h8 hr] at h; cases h
  | some L =>
   rw [zt3 h8 hr]
   obtain ⟨h1, h2⟩ := treeR_back hr
   exact ⟨h1, h2, by omega⟩
structure Im where
 n : Int × List Nd
 a : Int
 f : Option Int
def zf7 (s : ByteArray) (a : Int) (f : Option Int) : Im :=
 ⟨((numR s a f).1, (ze0 (strR s (numR s a f).2.1 (numR s a f).2.2).1).1), (strR s (numR s a f).2.1 (numR s a f).2.2).2.1,
  match (strR s (numR s a f).2.1 (numR s a f).2.2).2.2 with
  | none => if (ze0 (strR s (numR s a f).2.1 (numR s a f).2.2).1).2 = 0 then none else some (ze0 (strR s (numR s a f).2.1 (numR s a f).2.2).1).2
  | some c => some c⟩
theorem zy1 {s : ByteArray} {a : Int} {f : Option Int} (h : (zf7 s a f).f = none) : f = none ∧ ∃ (p q : Nat), a = (p : Int) ∧ (zf7 s a f).a = (q : Int) ∧ p < q ∧ q ≤ s.size ∧ piece s p q = cat (zc2 (zf7 s a f).n) ∧ zb1 (zf7 s a f).n.2 = true := by
 have h2 : (strR s (numR s a f).2.1 (numR s a f).2.2).2.2 = none := by
  cases hc : (strR s (numR s a f).2.1 (numR s a f).2.2).2.2 with
  | none => rfl
  | some c => simp [zf7, hc] at h
 have h3 : (ze0 (strR s (numR s a f).2.1 (numR s a f).2.2).1).2 = 0 := by
  by_cases h0 : (ze0 (strR s (numR s a f).2.1 (numR s a f).2.2).1).2 = 0
  ·exact h0
  ·simp [zf7, h2, h0] at h
 obtain ⟨t1, t2, -⟩ := readO_zero h3
 have k2 := zq9 h2
 have k1 := zm6 k2.1
 obtain ⟨p2, q2, a2, b2, c2, d2, e2, -⟩ := zx k2.2.1
 obtain ⟨p1, q1, a1, b1, c1, d1, e1⟩ := zi6 k1.2.1
 have g2 := k2.2.2
 have g1 := k1.2.2
 have k : p2 = q1 := by rw [g1] at a2; simp only at a2; omega
 subst k
 refine ⟨k1.1, p1, q2, a1, ?_, by omega, d2, ?_, t1⟩
 ·show (strR s _ _).2.1 = _
  rw [g2]; exact b2
 ·rw [← zi s (q := p2) (by omega) (by omega), e1, e2]
  show _ = cat [num (numR s a f).1, zc6.put (zb4 (ze0 (strR s _ _).1).1)]
  rw [t2, g2, g1]
  simp [cat, by_]
structure Sj where
 L : List (Int × List Nd)
 a : Int
 f : Option Int
def za1 (s : ByteArray) (a : Int) : Nat → Sj
 | 0 => ⟨[], a, none⟩
 | j + 1 => ⟨(za1 s a j).L ++ [(zf7 s (za1 s a j).a (za1 s a j).f).n], (zf7 s (za1 s a j).a (za1 s a j).f).a, (zf7 s (za1 s a j).a (za1 s a j).f).f⟩
theorem ye4 (s : ByteArray) (a : Int) (j : Nat) : (za1 s a j).L.length = j := by
 induction j with
 | zero => rfl
 | succ j ih => simp [za1, ih]
theorem stepsI_none {s : ByteArray} {p : Nat} (hp : p ≤ s.size) (j : Nat) (h : (za1 s (p : Int) j).f = none) : ∃ q : Nat, (za1 s (p : Int) j).a = (q : Int) ∧ p ≤ q ∧ q ≤ s.size ∧ piece s p q = cat ((za1 s (p : Int) j).L.flatMap zc2) := by
 induction j with
 | zero => exact ⟨p, rfl, Nat.le_refl _, hp, by simp [za1, piece, cat]⟩
 | succ j ih =>
  have h' : (zf7 s (za1 s (p : Int) j).a (za1 s (p : Int) j).f).f = none := h
  obtain ⟨hf, p1, q1, a1, b1, c1, d1, e1, -⟩ := zy1 h'
  obtain ⟨q, e2, h2, h3, h4⟩ := ih hf
  have k : p1 = q := by rw [e2] at a1; omega
  subst k
  refine ⟨q1, b1, by omega, d1, ?_⟩
  rw [← zi s h2 (Nat.le_of_lt c1), h4, e1]
  simp only [za1, List.flatMap_append, List.flatMap_cons, List.flatMap_nil, List.append_nil, zo5]
theorem stepsI_stay {s : ByteArray} {a : Int} {j : Nat} (h : (za1 s a j).f ≠ none) (i : Nat) : (za1 s a (j + i)).f ≠ none := by
 induction i with
 | zero => exact h
 | succ i ih =>
  intro h'
  have h2 : (zf7 s (za1 s a (j + i)).a (za1 s a (j + i)).f).f = none := h'
  exact ih (zy1 h2).1
theorem ye1 {s : ByteArray} (h8 : s.size ≤ 8000) {c q : Nat} (h : za0 s 0 = ((c : Int), (q : Int), 0)) (hf : (za1 s (q : Int) c).f = none) :
  ((za1 s (q : Int) c).a = (s.size : Int) ∧ (nest (rowO (za1 s (q : Int) c).L)).isSome = true) ↔ zb3 (za1 s (q : Int) c).L = s := by
 obtain ⟨p, q', e1, e2, h2, h3, h4⟩ := zi6 (s := s) (a := 0) (by rw [h])
 obtain rfl : p = 0 := by omega
 rw [h] at e2 h4
 simp only at e2 h4
 obtain rfl : q = q' := by omega
 obtain ⟨q2, e3, h5, h6, h7⟩ := stepsI_none h3 _ hf
 have hlen := ye4 s (q : Int) c
 generalize za1 s (q : Int) c = S at *
 have hb : by_ (ze7 S.L) = piece s 0 q2 := by
  rw [← zi s (Nat.zero_le q) h5, h7, h4]
  unfold ze7
  rw [by_mk, hlen]
  simp [cat, by_]
 have hsz : (ze7 S.L).size = q2 := by rw [← zb9, hb, piece_len s (Nat.zero_le _) h6]; omega
 unfold zb3
 constructor
 ·rintro ⟨ha, ht⟩
  rw [e3] at ha
  obtain rfl : q2 = s.size := by omega
  rw [if_pos ht, if_neg (by omega)]
  exact zh (by rw [hb, piece_all])
 ·intro he
  have h0 : (ByteArray.mk #[]).size = 0 := rfl
  split at he
  ·rename_i ht
   rw [if_neg (by omega)] at he
   refine ⟨?_, ht⟩
   rw [e3, ← he, hsz]
  ·rw [← he] at h3; omega
def zn7 (s : ByteArray) (a : Int) : (Int × List Nd) × Int × Bool :=
 (((numS s a false).1, (ze0 (zh0 s (numS s a false).2.1 (numS s a false).2.2).1).1), (zh0 s (numS s a false).2.1 (numS s a false).2.2).2.1,
  (zh0 s (numS s a false).2.1 (numS s a false).2.2).2.2 || decide ((ze0 (zh0 s (numS s a false).2.1 (numS s a false).2.2).1).2 ≠ 0))
theorem item_same (s : ByteArray) (a : Int) : ((zn7 s a).2.2 = false ∧ (zf7 s a none).f = none ∧ (zn7 s a).2.1 = (zf7 s a none).a ∧ (zn7 s a).1 = (zf7 s a none).n) ∨ ((zn7 s a).2.2 = true ∧ (zf7 s a none).f ≠ none) := by
 have h1 := zz2 (s := s) (a := a) (b := a) (bad := false) (f := none) (.inl ⟨rfl, rfl, rfl⟩)
 have h2 := zz8 (s := s) (zr0 h1)
 rcases h2 with ⟨a2, b2, c2, d2⟩ | ⟨a2, b2⟩
 ·have n1 := (zq9 b2).1
  rcases h1 with ⟨-, -, -, d1⟩ | ⟨-, b⟩
  rotate_left
  ·exact absurd n1 b
  by_cases h0 : (ze0 (strR s (numR s a none).2.1 (numR s a none).2.2).1).2 = 0
  ·left
   refine ⟨?_, ?_, c2, ?_⟩
   ·show (_ || decide _) = false
    rw [a2, d2]; simp [h0]
   ·simp [zf7, b2, h0]
   ·show ((_ : Int), _) = (_, _)
    rw [d1, d2]
  ·right
   refine ⟨?_, ?_⟩
   ·show (_ || decide _) = true
    rw [a2, d2]; simp [h0]
   ·simp [zf7, b2, h0]
 ·right
  refine ⟨?_, ?_⟩
  ·show (_ || decide _) = true
   rw [a2]; simp
  ·cases hc : (strR s (numR s a none).2.1 (numR s a none).2.2).2.2 with
   | none => exact absurd hc b2
   | some c => simp [zf7, hc]
theorem stepsI_succ {s : ByteArray} {a : Int} {j : Nat} (h : (za1 s a j).f = none) : ((zn7 s (za1 s a j).a).2.2 = false ∧ (za1 s a (j + 1)).f = none ∧ (zn7 s (za1 s a j).a).2.1 = (za1 s a (j + 1)).a ∧ (za1 s a j).L ++ [(zn7 s (za1 s a j).a).1] = (za1 s a (j + 1)).L) ∨ ((zn7 s (za1 s a j).a).2.2 = true ∧ (za1 s a (j + 1)).f ≠ none) := by
 have hn := item_same s (za1 s a j).a
 rcases hn with ⟨h1, h2, h3, h4⟩ | ⟨h1, h2⟩
 ·refine .inl ⟨h1, ?_, ?_, ?_⟩
  ·simp only [za1, h]; exact h2
  ·simp only [za1, h]; exact h3
  ·simp only [za1, h, h4]
 ·refine .inr ⟨h1, ?_⟩
  simp only [za1, h]; exact h2
def zh1 (s : ByteArray) : Option (List (Int × List Nd)) :=
 if (za0 s 0).2.2 = 0 ∧ 0 ≤ (za0 s 0).1 ∧ (za0 s 0).1 ≤ 12 then
  (if (za1 s (za0 s 0).2.1 (za0 s 0).1.toNat).f = none ∧ (za1 s (za0 s 0).2.1 (za0 s 0).1.toNat).a = (s.size : Int) ∧ (nest (rowO (za1 s (za0 s 0).2.1 (za0 s 0).1.toNat).L)).isSome = true then some (za1 s (za0 s 0).2.1 (za0 s 0).1.toNat).L else none)
 else none
def ze2 (s : ByteArray) : List (Int × List Nd) × Int := if 8000 < s.size then ([], 2) else match zh1 s with
 | some L => (L, 0)
 | none => ([], 3)
theorem manyN_cases (s : ByteArray) : (∃ c q : Nat, za0 s 0 = ((c : Int), (q : Int), 0) ∧ c ≤ 12 ∧ 0 < q ∧ q ≤ s.size ∧ zg4 s 0 false 12 = ((c : Int), (q : Int), false)) ∨ ((zg4 s 0 false 12).1 = 0 ∧ (zg4 s 0 false 12).2.2 = true ∧ (zg4 s 0 false 12).2.1 ≤ 8000 + (s.size : Int) ∧ zh1 s = none) := by
 by_cases h0 : (za0 s 0).2.2 = 0
 ·obtain ⟨p, q, e1, e2, h1, h2, -⟩ := zi6 h0
  have en : numS s 0 false = ((za0 s 0).1, (za0 s 0).2.1, false) := if_neg (by simp [h0])
  by_cases hr : 0 ≤ (za0 s 0).1 ∧ (za0 s 0).1 ≤ 12
  ·left
   refine ⟨(za0 s 0).1.toNat, q, ?_, by omega, by omega, h2, ?_⟩
   ·exact Prod.ext (by simp only; omega) (Prod.ext e2 h0)
   ·unfold zg4
    rw [en]
    simp only
    rw [if_pos hr, e2, show (((za0 s 0).1.toNat : Nat) : Int) = (za0 s 0).1 by omega]
  ·right
   have em : zg4 s 0 false 12 = (0, (za0 s 0).2.1, true) := by
    unfold zg4
    rw [en]
    simp only
    rw [if_neg hr]
   rw [em]
   refine ⟨rfl, rfl, by simp only; omega, ?_⟩
   unfold zh1
   rw [if_neg (fun h => hr ⟨h.2.1, h.2.2⟩)]
 ·right
  have en : numS s 0 false = (0, 0, true) := if_pos (.inr h0)
  have em : zg4 s 0 false 12 = (0, 0, true) := by
   unfold zg4
   rw [en]
   simp
  rw [em]
  refine ⟨rfl, rfl, by simp only; omega, ?_⟩
  unfold zh1
  rw [if_neg (fun h => h0 h.1)]
theorem nestR_none {s : ByteArray} {c q j : Nat} (h : za0 s 0 = ((c : Int), (q : Int), 0)) (hj : j ≤ c) (hf : (za1 s (q : Int) j).f ≠ none) : zh1 s = none := by
 unfold zh1
 rw [h]
 simp only
 split
 ·rw [if_neg]
  intro h'
  have := stepsI_stay hf (c - j)
  rw [show j + (c - j) = c by omega] at this
  exact this (by rw [Int.toNat_natCast] at h'; exact h'.1)
 ·rfl
theorem yb6 {s : ByteArray} (h8 : s.size ≤ 8000) {c q : Nat} (h : za0 s 0 = ((c : Int), (q : Int), 0)) (hc : c ≤ 12) (hf : (za1 s (q : Int) c).f = none) : zh1 s = if zb3 (za1 s (q : Int) c).L = s then some (za1 s (q : Int) c).L else none := by
 have hs := ye1 h8 h hf
 unfold zh1
 rw [h]
 simp only [Int.toNat_natCast]
 rw [if_pos ⟨trivial, by omega, by omega⟩]
 by_cases hb : zb3 (za1 s (q : Int) c).L = s
 ·rw [if_pos hb, if_pos ⟨hf, (hs.2 hb).1, (hs.2 hb).2⟩]
 ·rw [if_neg hb, if_neg (fun h' => hb (hs.1 h'.2))]
theorem nestR_fin {s : ByteArray} {c q : Nat} (h : za0 s 0 = ((c : Int), (q : Int), 0)) (hc : c ≤ 12) : zh1 s = if (za1 s (q : Int) c).f = none ∧ (za1 s (q : Int) c).a = (s.size : Int) ∧ (nest (rowO (za1 s (q : Int) c).L)).isSome = true then some (za1 s (q : Int) c).L else none := by
 unfold zh1
 rw [h]
 simp only [Int.toNat_natCast]
 rw [if_pos ⟨trivial, by omega, by omega⟩]
theorem countN_cases (s : ByteArray) : (∃ c q : Nat, za0 s 0 = ((c : Int), (q : Int), 0) ∧ c ≤ 12 ∧ 0 < q ∧ q ≤ s.size ∧ numR s 0 none = ((c : Int), (q : Int), none)) ∨ (((numR s 0 none).1 < 0 ∨ 12 < (numR s 0 none).1) ∧ zh1 s = none) ∨ (∃ code, (numR s 0 none).1 = 0 ∧ (numR s 0 none).2.1 = 0 ∧ (numR s 0 none).2.2 = some code ∧ zh1 s = none) := by
 by_cases h0 : (za0 s 0).2.2 = 0
 ·obtain ⟨p, q, e1, e2, h1, h2, -⟩ := zi6 h0
  have en : numR s 0 none = ((za0 s 0).1, (za0 s 0).2.1, none) := if_pos h0
  by_cases hr : 0 ≤ (za0 s 0).1 ∧ (za0 s 0).1 ≤ 12
  ·left
   refine ⟨(za0 s 0).1.toNat, q, ?_, by omega, by omega, h2, ?_⟩
   ·exact Prod.ext (by simp only; omega) (Prod.ext e2 h0)
   ·rw [en, e2, show (((za0 s 0).1.toNat : Nat) : Int) = (za0 s 0).1 by omega]
  ·right; left
   rw [en]
   refine ⟨by simp only; omega, ?_⟩
   unfold zh1
   rw [if_neg (fun h => hr ⟨h.2.1, h.2.2⟩)]
 ·right; right
  have en : numR s 0 none = (0, 0, some (za0 s 0).2.2) := if_neg h0
  rw [en]
  refine ⟨_, rfl, rfl, rfl, ?_⟩
  unfold zh1
  rw [if_neg (fun h => h0 h.1)]
end Pl
end Go.Proofs.YtioildojmckepaaGreatDoor
