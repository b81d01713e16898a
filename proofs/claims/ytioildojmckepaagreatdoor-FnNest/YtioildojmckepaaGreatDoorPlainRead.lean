import Derived.Test.YtioildojmckepaaGreatDoorPlainNB
import Derived.Test.YtioildojmckepaaGreatDoorG35
import Derived.Test.YtioildojmckepaaGreatDoorG36
namespace Go.Proofs.YtioildojmckepaaGreatDoor
namespace Pl
def piece (s : ByteArray) (p q : Nat) : List UInt8 := ((by_ s).drop p).take (q - p)
theorem zi (s : ByteArray) {p q r : Nat} (h1 : p ≤ q) (h2 : q ≤ r) : piece s p q ++ piece s q r = piece s p r := by
 unfold piece
 rw [show r - p = (q - p) + (r - q) by omega, List.take_add, List.drop_drop]
 congr 3
 omega
theorem piece_len (s : ByteArray) {p q : Nat} (h1 : p ≤ q) (h2 : q ≤ s.size) : (piece s p q).length = q - p := by
 unfold piece
 rw [List.length_take, List.length_drop, zb9]; omega
theorem piece_all (s : ByteArray) : piece s 0 s.size = by_ s := by
 unfold piece
 rw [List.drop_zero, Nat.sub_zero, ← zb9, List.take_length]
theorem piece_one (s : ByteArray) {p : Nat} (h : p < s.size) : piece s p (p + 1) = [s[p]] := by
 unfold piece
 have h' : p < (by_ s).length := by rw [zb9]; exact h
 rw [show p + 1 - p = 1 by omega, List.drop_eq_getElem_cons h']
 simp [by_]
 rfl
theorem piece_cons (s : ByteArray) {p q : Nat} (h : p < s.size) (hq : p + 1 ≤ q) : piece s p q = s[p] :: piece s (p + 1) q := by
 rw [← zi s (Nat.le_succ p) hq, piece_one s h]; rfl
theorem byte_back (b : UInt8) (h : 128 ≤ b.toNat) : UInt8.ofNat (b.toNat % 128 + 128) = b := by
 have h2 : b.toNat < 256 := b.toNat_lt
 rw [show b.toNat % 128 + 128 = b.toNat by omega]
 exact UInt8.ofNat_toNat
theorem getAt_enc (s : ByteArray) (f : Nat) : ∀ p k X, (zd1 s f p k X).2.2 = 0 → ∃ v q : Nat, zd1 s f p k X = (unf (X + v * 128 ^ k), (q : Int), 0) ∧ p < q ∧ q ≤ s.size ∧ piece s p q = enc v ∧ (0 < k → 0 < v) := by
 induction f with
 | zero => intro p k X h; simp [zd1] at h
 | succ f ih =>
  intro p k X h
  by_cases hp : p < s.size
  ·by_cases hc : 128 ≤ s[p].toNat
   ·by_cases hk : k = 9
    ·rw [zz1 f hp hc hk] at h; simp at h
    ·rw [zt5 f hp hc hk] at h ⊢
     obtain ⟨v, q, e, h1, h2, h3, h4⟩ := ih _ _ _ h
     have hv := h4 (by omega)
     refine ⟨s[p].toNat % 128 + v * 128, q, ?_, by omega, h2, ?_, fun _ => by omega⟩
     ·rw [e]
      congr 2
      rw [Nat.pow_succ, Nat.add_mul]
      have : v * (128 ^ k * 128) = v * 128 * 128 ^ k := by rw [Nat.mul_assoc, Nat.mul_comm 128]
      rw [this]; omega
     ·rw [piece_cons s hp (by omega), h3, zu1 (u := s[p].toNat % 128 + v * 128) (by omega), show (s[p].toNat % 128 + v * 128) / 128 = v by omega, show (s[p].toNat % 128 + v * 128) % 128 = s[p].toNat % 128 by omega, byte_back _ hc]
   ·by_cases hb : (k = 9 ∧ 1 < s[p].toNat) ∨ (s[p].toNat = 0 ∧ 0 < k)
    ·rw [zw2 f hp (by omega) hb] at h; simp at h
    ·rw [zs7 f hp (by omega) hb]
     refine ⟨s[p].toNat, p + 1, rfl, by omega, by omega, ?_, fun hk => by omega⟩
     rw [piece_one s hp, zi2 (by omega), UInt8.ofNat_toNat]
  ·rw [zx3 f (by omega)] at h; simp at h
theorem fold_unf (u : Nat) : fold (unf u) = u := by
 unfold unf fold
 split
 ·rw [if_pos (by omega)]; omega
 ·rw [if_neg (by omega)]; omega
theorem zi6 {s : ByteArray} {a : Int} (h : (za0 s a).2.2 = 0) : ∃ p q : Nat, a = (p : Int) ∧ (za0 s a).2.1 = (q : Int) ∧ p < q ∧ q ≤ s.size ∧ piece s p q = by_ (num (za0 s a).1) := by
 unfold za0 at h ⊢
 split at h
 ·simp at h
 ·rename_i h1
  rw [if_neg h1]
  split at h
  ·simp at h
  ·rename_i h2
   rw [if_neg h2]
   obtain ⟨v, q, e, h3, h4, h5, -⟩ := getAt_enc s 10 _ _ _ h
   refine ⟨a.toNat, q, by omega, by rw [e], h3, h4, ?_⟩
   rw [h5, e]
   show enc v = by_ ⟨(enc (fold (unf (0 + v * 128 ^ 0)))).toArray⟩
   rw [by_mk, Nat.pow_zero, Nat.mul_one, Nat.zero_add, fold_unf]
theorem zx {s : ByteArray} {a : Int} (h : (za6 s a).2.2 = 0) : ∃ p q : Nat, a = (p : Int) ∧ (za6 s a).2.1 = (q : Int) ∧ p < q ∧ q ≤ s.size ∧ piece s p q = by_ (zc6.put (za6 s a).1) ∧ (za6 s a).1.size ≤ s.size := by
 obtain ⟨n, p, c, e, hc⟩ := zs3 s a
 rcases hc with ⟨h0, -, -, e2⟩ | ⟨rfl, h8, q, rfl, hq, hc⟩
 ·rw [e2] at h; exact absurd h h0
 rcases hc with ⟨-, e2⟩ | ⟨-, e2⟩ | ⟨m, rfl, hm, hc⟩
 ·rw [e2] at h; simp at h
 ·rw [e2] at h; simp at h
 rcases hc with ⟨-, e2⟩ | ⟨hqm, e2⟩
 ·rw [e2] at h; simp at h
 obtain ⟨p0, q0, e3, e4, h1, h2, h3⟩ := zi6 (s := s) (a := a) (by rw [e])
 rw [e] at e4 h3
 simp only at e4 h3
 obtain rfl : q = q0 := by omega
 have hsz : (s.extract q (q + m)).size = m := by rw [ByteArray.size_extract]; omega
 rw [e2]
 refine ⟨p0, q + m, e3, by simp, by omega, hqm, ?_, by simp only; omega⟩
 rw [← zi s (Nat.le_of_lt h1) (Nat.le_add_right q m), h3, zc6.zm1 (by simp only; omega), by_mk]
 simp only [hsz]
 congr 1
 show piece s q (q + m) = by_ (s.extract q (q + m))
 rw [zn2]; rfl
theorem zm6 {s : ByteArray} {a : Int} {f : Option Int} (h : (numR s a f).2.2 = none) : f = none ∧ (za0 s a).2.2 = 0 ∧ numR s a f = ((za0 s a).1, (za0 s a).2.1, none) := by
 cases f with
 | some c => simp [numR] at h
 | none =>
  by_cases h0 : (za0 s a).2.2 = 0
  ·exact ⟨rfl, h0, if_pos h0⟩
  ·rw [show numR s a none = (0, 0, some (za0 s a).2.2) from if_neg h0] at h; simp at h
theorem zq9 {s : ByteArray} {a : Int} {f : Option Int} (h : (strR s a f).2.2 = none) : f = none ∧ (za6 s a).2.2 = 0 ∧ strR s a f = ((za6 s a).1, (za6 s a).2.1, none) := by
 cases f with
 | some c => simp [strR] at h
 | none =>
  by_cases h0 : (za6 s a).2.2 = 0
  ·exact ⟨rfl, h0, if_pos h0⟩
  ·rw [show strR s a none = (⟨#[]⟩, 0, some (za6 s a).2.2) from if_neg h0] at h; simp at h
theorem yd2 {s : ByteArray} {a : Int} {f : Option Int} (h : (zh2 s a f).f = none) : f = none ∧ ∃ (p q : Nat), a = (p : Int) ∧ (zh2 s a f).a = (q : Int) ∧ p < q ∧ q ≤ s.size ∧ piece s p q = cat (zc4 (zh2 s a f).n) ∧ (zh2 s a f).n.path.size ≤ s.size ∧ (zh2 s a f).n.data.size ≤ s.size := by
 have h5 := zm6 h
 have h4 := zm6 h5.1
 have h3 := zq9 h4.1
 have h2 := zm6 h3.1
 have h1 := zq9 h2.1
 obtain ⟨p5, q5, a5, b5, c5, d5, e5⟩ := zi6 h5.2.1
 obtain ⟨p4, q4, a4, b4, c4, d4, e4⟩ := zi6 h4.2.1
 obtain ⟨p3, q3, a3, b3, c3, d3, e3, z3⟩ := zx h3.2.1
 obtain ⟨p2, q2, a2, b2, c2, d2, e2⟩ := zi6 h2.2.1
 obtain ⟨p1, q1, a1, b1, c1, d1, e1, z1⟩ := zx h1.2.1
 have g5 := h5.2.2
 have g4 := h4.2.2
 have g3 := h3.2.2
 have g2 := h2.2.2
 have g1 := h1.2.2
 refine ⟨h1.1, p1, q5, a1, ?_, ?_, d5, ?_, ?_, ?_⟩
 ·show (numR s _ _).2.1 = _
  rw [g5]; exact b5
 all_goals
  have k1 : p2 = q1 := by rw [g1] at a2; simp only at a2; omega
  have k2 : p3 = q2 := by rw [g2] at a3; simp only at a3; omega
  have k3 : p4 = q3 := by rw [g3] at a4; simp only at a4; omega
  have k4 : p5 = q4 := by rw [g4] at a5; simp only at a5; omega
  subst k1 k2 k3 k4
 ·omega
 ·rw [← zi s (q := p5) (by omega) (by omega), ← zi s (p := p1) (q := p4) (r := p5) (by omega) (by omega), ← zi s (p := p1) (q := p3) (r := p4) (by omega) (by omega), ← zi s (p := p1) (q := p2) (r := p3) (by omega) (by omega), e1, e2, e3, e4, e5]
  show _ = cat [zc6.put (strR s a f).1, num (numR s _ _).1, zc6.put (strR s _ _).1, num (numR s _ _).1, num (numR s _ _).1]
  rw [g5, g4, g3, g2, g1]
  simp [cat, by_]
 ·show (strR s a f).1.size ≤ s.size
  rw [g1]; exact z1
 ·show (strR s _ _).1.size ≤ s.size
  rw [g3]; exact z3
structure St where
 L : List Nd
 a : Int
 f : Option Int
def steps (s : ByteArray) (a : Int) : Nat → St
 | 0 => ⟨[], a, none⟩
 | j + 1 => ⟨(steps s a j).L ++ [(zh2 s (steps s a j).a (steps s a j).f).n], (zh2 s (steps s a j).a (steps s a j).f).a, (zh2 s (steps s a j).a (steps s a j).f).f⟩
theorem yb0 (s : ByteArray) (a : Int) (j : Nat) : (steps s a j).L.length = j := by
 induction j with
 | zero => rfl
 | succ j ih => simp [steps, ih]
theorem yc3 {s : ByteArray} {a : Int} (h8 : s.size ≤ 8000) (ha : a ≤ 9223372036854775807) (j : Nat) : (steps s a j).a ≤ 9223372036854775807 := by
 induction j with
 | zero => exact ha
 | succ j ih => exact nodeR_at h8 ih
theorem zy {s : ByteArray} {p : Nat} (hp : p ≤ s.size) (j : Nat) (h : (steps s (p : Int) j).f = none) : ∃ q : Nat, (steps s (p : Int) j).a = (q : Int) ∧ p ≤ q ∧ q ≤ s.size ∧ piece s p q = cat ((steps s (p : Int) j).L.flatMap zc4) ∧ ∀ n ∈ (steps s (p : Int) j).L, n.path.size ≤ s.size ∧ n.data.size ≤ s.size := by
 induction j with
 | zero => exact ⟨p, rfl, Nat.le_refl _, hp, by simp [piece, steps, cat], fun n hn => by cases hn⟩
 | succ j ih =>
  obtain ⟨h1, p2, q2, e1, e2, h2, h3, h4, h5, h6⟩ := yd2 h
  obtain ⟨q, e3, h7, h8, h9, h10⟩ := ih h1
  have : p2 = q := by rw [e3] at e1; omega
  subst this
  refine ⟨q2, e2, by omega, h3, ?_, ?_⟩
  ·rw [← zi s h7 (Nat.le_of_lt h2), h9, h4]
   simp [steps, zo5]
  ·intro n hn
   simp only [steps, List.mem_append, List.mem_singleton] at hn
   rcases hn with hn | rfl
   ·exact h10 n hn
   ·exact ⟨h5, h6⟩
theorem steps_stay {s : ByteArray} {a : Int} {j : Nat} (h : (steps s a j).f ≠ none) (i : Nat) : (steps s a (j + i)).f ≠ none := by
 induction i with
 | zero => exact h
 | succ i ih => intro h'; exact ih (yd2 h').1
def zg8 (s : ByteArray) : Option (List Nd) :=
 if (za0 s 0).2.2 = 0 ∧ 0 ≤ (za0 s 0).1 ∧ (za0 s 0).1 ≤ 40 then
  (if (steps s (za0 s 0).2.1 (za0 s 0).1.toNat).f = none ∧ (steps s (za0 s 0).2.1 (za0 s 0).1.toNat).a = (s.size : Int) ∧ zb1 (steps s (za0 s 0).2.1 (za0 s 0).1.toNat).L = true then some (steps s (za0 s 0).2.1 (za0 s 0).1.toNat).L else none)
 else none
theorem read_same {s : ByteArray} (h0 : (za0 s 0).2.2 = 0) (h1 : 0 ≤ (za0 s 0).1) (hf : (steps s (za0 s 0).2.1 (za0 s 0).1.toNat).f = none) :
  ((steps s (za0 s 0).2.1 (za0 s 0).1.toNat).a = (s.size : Int) ∧ zb1 (steps s (za0 s 0).2.1 (za0 s 0).1.toNat).L = true) ↔ zd7 (steps s (za0 s 0).2.1 (za0 s 0).1.toNat).L = s := by
 obtain ⟨p, q, e1, e2, h2, h3, h4⟩ := zi6 h0
 obtain rfl : p = 0 := by omega
 rw [e2] at hf ⊢
 obtain ⟨q2, e3, h5, h6, h7, -⟩ := zy h3 _ hf
 have hlen := yb0 s (q : Int) (za0 s 0).1.toNat
 generalize steps s (q : Int) (za0 s 0).1.toNat = S at *
 have hb : by_ (zb4 S.L) = piece s 0 q2 := by
  rw [← zi s (Nat.zero_le q) h5, h7, h4]
  unfold zb4 zj2
  rw [by_mk, show (S.L.length : Int) = (za0 s 0).1 by rw [hlen]; omega]
  simp [cat, by_]
 have hsz : (zb4 S.L).size = q2 := by rw [← zb9, hb, piece_len s (Nat.zero_le _) h6]; omega
 constructor
 ·rintro ⟨ha, ht⟩
  rw [e3] at ha
  obtain rfl : q2 = s.size := by omega
  rw [zl4 ht]
  exact zh (by rw [hb, piece_all])
 ·intro he
  by_cases ht : zb1 S.L = true
  ·rw [zl4 ht] at he
   refine ⟨?_, ht⟩
   rw [e3, ← he, hsz]
  ·have hn : zd7 S.L = ⟨#[]⟩ := by unfold zd7; rw [if_neg ht]
   rw [hn] at he
   rw [← he] at h3
   have : (ByteArray.mk #[]).size = 0 := rfl
   omega
theorem zz2 {s : ByteArray} {a b : Int} {bad : Bool} {f : Option Int} (h : (bad = false ∧ f = none ∧ a = b) ∨ (bad = true ∧ f ≠ none)) :
  ((numS s a bad).2.2 = false ∧ (numR s b f).2.2 = none ∧ (numS s a bad).2.1 = (numR s b f).2.1 ∧ (numS s a bad).1 = (numR s b f).1) ∨ ((numS s a bad).2.2 = true ∧ (numR s b f).2.2 ≠ none) := by
 rcases h with ⟨rfl, rfl, rfl⟩ | ⟨rfl, hf⟩
 ·by_cases h0 : (za0 s a).2.2 = 0
  ·left
   rw [show numS s a false = ((za0 s a).1, (za0 s a).2.1, false) from if_neg (by simp [h0]), show numR s a none = ((za0 s a).1, (za0 s a).2.1, none) from if_pos h0]
   exact ⟨rfl, rfl, rfl, rfl⟩
  ·right
   rw [show numS s a false = (0, a, true) from if_pos (.inr h0), show numR s a none = (0, 0, some (za0 s a).2.2) from if_neg h0]
   exact ⟨rfl, by simp⟩
 ·right
  cases f with
  | none => exact absurd rfl hf
  | some c => exact ⟨by rw [show numS s a true = (0, a, true) from if_pos (.inl rfl)], by simp [numR]⟩
theorem zz8 {s : ByteArray} {a b : Int} {bad : Bool} {f : Option Int} (h : (bad = false ∧ f = none ∧ a = b) ∨ (bad = true ∧ f ≠ none)) :
  ((zh0 s a bad).2.2 = false ∧ (strR s b f).2.2 = none ∧ (zh0 s a bad).2.1 = (strR s b f).2.1 ∧ (zh0 s a bad).1 = (strR s b f).1) ∨ ((zh0 s a bad).2.2 = true ∧ (strR s b f).2.2 ≠ none) := by
 rcases h with ⟨rfl, rfl, rfl⟩ | ⟨rfl, hf⟩
 ·by_cases h0 : (za6 s a).2.2 = 0
  ·left
   rw [show zh0 s a false = ((za6 s a).1, (za6 s a).2.1, false) from if_neg (by simp [h0]), show strR s a none = ((za6 s a).1, (za6 s a).2.1, none) from if_pos h0]
   exact ⟨rfl, rfl, rfl, rfl⟩
  ·right
   rw [show zh0 s a false = (⟨#[]⟩, a, true) from if_pos (.inr h0), show strR s a none = (⟨#[]⟩, 0, some (za6 s a).2.2) from if_neg h0]
   exact ⟨rfl, by simp⟩
 ·right
  cases f with
  | none => exact absurd rfl hf
  | some c => exact ⟨by rw [show zh0 s a true = (⟨#[]⟩, a, true) from if_pos (.inl rfl)], by simp [strR]⟩
theorem zr0 {x : Bool} {y : Option Int} {a b : Int} {P : Prop} (h : (x = false ∧ y = none ∧ a = b ∧ P) ∨ (x = true ∧ y ≠ none)) : (x = false ∧ y = none ∧ a = b) ∨ (x = true ∧ y ≠ none) := by
 rcases h with ⟨h1, h2, h3, -⟩ | h
 ·exact .inl ⟨h1, h2, h3⟩
 ·exact .inr h
def zn5 (s : ByteArray) (a0 : Int) : Nd × Int × Bool :=
 let r1 := zh0 s a0 false
 let r2 := numS s r1.2.1 r1.2.2
 let r3 := zh0 s r2.2.1 r2.2.2
 let r4 := numS s r3.2.1 r3.2.2
 let r5 := numS s r4.2.1 r4.2.2
 (⟨r1.1, r2.1, r3.1, r4.1, r5.1⟩, r5.2.1, r5.2.2)
theorem node_same (s : ByteArray) (a : Int) : ((zn5 s a).2.2 = false ∧ (zh2 s a none).f = none ∧ (zn5 s a).2.1 = (zh2 s a none).a ∧ (zn5 s a).1 = (zh2 s a none).n) ∨ ((zn5 s a).2.2 = true ∧ (zh2 s a none).f ≠ none) := by
 have h1 := zz8 (s := s) (a := a) (b := a) (bad := false) (f := none) (.inl ⟨rfl, rfl, rfl⟩)
 have h2 := zz2 (s := s) (zr0 h1)
 have h3 := zz8 (s := s) (zr0 h2)
 have h4 := zz2 (s := s) (zr0 h3)
 have h5 := zz2 (s := s) (zr0 h4)
 rcases h5 with ⟨a5, b5, c5, d5⟩ | ⟨a5, b5⟩
 ·left
  have n4 := (zm6 b5).1
  have n3 := (zm6 n4).1
  have n2 := (zq9 n3).1
  have n1 := (zm6 n2).1
  rcases h4 with ⟨-, -, -, d4⟩ | ⟨-, b⟩
  rotate_left
  ·exact absurd n4 b
  rcases h3 with ⟨-, -, -, d3⟩ | ⟨-, b⟩
  rotate_left
  ·exact absurd n3 b
  rcases h2 with ⟨-, -, -, d2⟩ | ⟨-, b⟩
  rotate_left
  ·exact absurd n2 b
  rcases h1 with ⟨-, -, -, d1⟩ | ⟨-, b⟩
  rotate_left
  ·exact absurd n1 b
  refine ⟨a5, b5, c5, ?_⟩
  show Nd.mk _ _ _ _ _ = Nd.mk _ _ _ _ _
  rw [d1, d2, d3, d4, d5]
 ·exact .inr ⟨a5, b5⟩
theorem zz3 {s : ByteArray} {a : Int} {bad : Bool} (h8 : s.size ≤ 8000) (ha : a ≤ 9223372036854775807) : (numS s a bad).2.1 ≤ 9223372036854775807 := by
 unfold numS
 split
 ·exact ha
 ·rename_i h
  have h0 : (za0 s a).2.2 = 0 := by
   by_cases h1 : (za0 s a).2.2 = 0
   ·exact h1
   ·exact absurd (.inr h1) h
  have := getNum_at h0
  show (za0 s a).2.1 ≤ _
  omega
theorem yb9 {s : ByteArray} {a : Int} {bad : Bool} (h8 : s.size ≤ 8000) (ha : a ≤ 9223372036854775807) : (zh0 s a bad).2.1 ≤ 9223372036854775807 := by
 unfold zh0
 split
 ·exact ha
 ·rename_i h
  have h0 : (za6 s a).2.2 = 0 := by
   by_cases h1 : (za6 s a).2.2 = 0
   ·exact h1
   ·exact absurd (.inr h1) h
  obtain ⟨p, q, -, e, -, hq, -⟩ := zx h0
  show (za6 s a).2.1 ≤ _
  omega
def ze0 (s : ByteArray) : List Nd × Int := if 8000 < s.size then ([], 2) else match zg8 s with
 | some L => (L, 0)
 | none => ([], 3)
theorem zy9 {s : ByteArray} (h : 8000 < s.size) : ze0 s = ([], 2) := if_pos h
theorem zz {s : ByteArray} (h : ¬ 8000 < s.size) (h2 : zg8 s = none) : ze0 s = ([], 3) := by
 unfold ze0; rw [if_neg h, h2]
theorem zt3 {s : ByteArray} {L : List Nd} (h : ¬ 8000 < s.size) (h2 : zg8 s = some L) : ze0 s = (L, 0) := by
 unfold ze0; rw [if_neg h, h2]
theorem many_cases (s : ByteArray) : (∃ c q : Nat, za0 s 0 = ((c : Int), (q : Int), 0) ∧ c ≤ 40 ∧ 0 < q ∧ q ≤ s.size ∧ zg4 s 0 false 40 = ((c : Int), (q : Int), false)) ∨ ((zg4 s 0 false 40).1 = 0 ∧ (zg4 s 0 false 40).2.2 = true ∧ (zg4 s 0 false 40).2.1 ≤ 8000 + (s.size : Int) ∧ zg8 s = none) := by
 by_cases h0 : (za0 s 0).2.2 = 0
 ·obtain ⟨p, q, e1, e2, h1, h2, -⟩ := zi6 h0
  have en : numS s 0 false = ((za0 s 0).1, (za0 s 0).2.1, false) := if_neg (by simp [h0])
  by_cases hr : 0 ≤ (za0 s 0).1 ∧ (za0 s 0).1 ≤ 40
  ·left
   refine ⟨(za0 s 0).1.toNat, q, ?_, by omega, by omega, h2, ?_⟩
   ·exact Prod.ext (by simp only; omega) (Prod.ext e2 h0)
   ·unfold zg4
    rw [en]
    simp only
    rw [if_pos hr, e2, show (((za0 s 0).1.toNat : Nat) : Int) = (za0 s 0).1 by omega]
  ·right
   have em : zg4 s 0 false 40 = (0, (za0 s 0).2.1, true) := by
    unfold zg4
    rw [en]
    simp only
    rw [if_neg hr]
   rw [em]
   refine ⟨rfl, rfl, by simp only; omega, ?_⟩
   unfold zg8
   rw [if_neg (fun h => hr ⟨h.2.1, h.2.2⟩)]
 ·right
  have en : numS s 0 false = (0, 0, true) := if_pos (.inr h0)
  have em : zg4 s 0 false 40 = (0, 0, true) := by
   unfold zg4
   rw [en]
   simp
  rw [em]
  refine ⟨rfl, rfl, by simp only; omega, ?_⟩
  unfold zg8
  rw [if_neg (fun h => h0 h.1)]
theorem treeR_none {s : ByteArray} {c q j : Nat} (h : za0 s 0 = ((c : Int), (q : Int), 0)) (hj : j ≤ c) (hf : (steps s (q : Int) j).f ≠ none) : zg8 s = none := by
 unfold zg8
 rw [h]
 simp only
 split
 ·rw [if_neg]
  intro h'
  have := steps_stay hf (c - j)
  rw [show j + (c - j) = c by omega] at this
  exact this (by rw [Int.toNat_natCast] at h'; exact h'.1)
 ·rfl
theorem zz9 {s : ByteArray} {c q : Nat} (h : za0 s 0 = ((c : Int), (q : Int), 0)) (hc : c ≤ 40) (hf : (steps s (q : Int) c).f = none) : zg8 s = if zd7 (steps s (q : Int) c).L = s then some (steps s (q : Int) c).L else none := by
 have hs := read_same (s := s) (by rw [h]) (by rw [h]; simp only; omega) (by rw [h]; simp only [Int.toNat_natCast]; exact hf)
 rw [h] at hs
 simp only [Int.toNat_natCast] at hs
 unfold zg8
 rw [h]
 simp only [Int.toNat_natCast]
 rw [if_pos ⟨trivial, by omega, by omega⟩]
 by_cases hb : zd7 (steps s (q : Int) c).L = s
 ·rw [if_pos hb, if_pos ⟨hf, (hs.2 hb).1, (hs.2 hb).2⟩]
 ·rw [if_neg hb, if_neg (fun h' => hb (hs.1 h'.2))]
theorem treeR_fin {s : ByteArray} {c q : Nat} (h : za0 s 0 = ((c : Int), (q : Int), 0)) (hc : c ≤ 40) : zg8 s = if (steps s (q : Int) c).f = none ∧ (steps s (q : Int) c).a = (s.size : Int) ∧ zb1 (steps s (q : Int) c).L = true then some (steps s (q : Int) c).L else none := by
 unfold zg8
 rw [h]
 simp only [Int.toNat_natCast]
 rw [if_pos ⟨trivial, by omega, by omega⟩]
theorem steps_succ {s : ByteArray} {a : Int} {j : Nat} (h : (steps s a j).f = none) : ((zn5 s (steps s a j).a).2.2 = false ∧ (steps s a (j + 1)).f = none ∧ (zn5 s (steps s a j).a).2.1 = (steps s a (j + 1)).a ∧ (steps s a j).L ++ [(zn5 s (steps s a j).a).1] = (steps s a (j + 1)).L) ∨ ((zn5 s (steps s a j).a).2.2 = true ∧ (steps s a (j + 1)).f ≠ none) := by
 have hn := node_same s (steps s a j).a
 rcases hn with ⟨h1, h2, h3, h4⟩ | ⟨h1, h2⟩
 ·refine .inl ⟨h1, ?_, ?_, ?_⟩
  ·simp only [steps, h]; exact h2
  ·simp only [steps, h]; exact h3
  ·simp only [steps, h, h4]
 ·refine .inr ⟨h1, ?_⟩
  simp only [steps, h]; exact h2
theorem count_cases (s : ByteArray) : (∃ c q : Nat, za0 s 0 = ((c : Int), (q : Int), 0) ∧ c ≤ 40 ∧ 0 < q ∧ q ≤ s.size ∧ numR s 0 none = ((c : Int), (q : Int), none)) ∨ (((numR s 0 none).1 < 0 ∨ 40 < (numR s 0 none).1) ∧ zg8 s = none) ∨ (∃ code, (numR s 0 none).1 = 0 ∧ (numR s 0 none).2.1 = 0 ∧ (numR s 0 none).2.2 = some code ∧ zg8 s = none) := by
 by_cases h0 : (za0 s 0).2.2 = 0
 ·obtain ⟨p, q, e1, e2, h1, h2, -⟩ := zi6 h0
  have en : numR s 0 none = ((za0 s 0).1, (za0 s 0).2.1, none) := if_pos h0
  by_cases hr : 0 ≤ (za0 s 0).1 ∧ (za0 s 0).1 ≤ 40
  ·left
   refine ⟨(za0 s 0).1.toNat, q, ?_, by omega, by omega, h2, ?_⟩
   ·exact Prod.ext (by simp only; omega) (Prod.ext e2 h0)
   ·rw [en, e2, show (((za0 s 0).1.toNat : Nat) : Int) = (za0 s 0).1 by omega]
  ·right; left
   rw [en]
   refine ⟨by simp only; omega, ?_⟩
   unfold zg8
   rw [if_neg (fun h => hr ⟨h.2.1, h.2.2⟩)]
 ·right; right
  have en : numR s 0 none = (0, 0, some (za0 s 0).2.2) := if_neg h0
  rw [en]
  refine ⟨_, rfl, rfl, rfl, ?_⟩
  unfold zg8
  rw [if_neg (fun h => h0 h.1)]
end Pl
end Go.Proofs.YtioildojmckepaaGreatDoor
