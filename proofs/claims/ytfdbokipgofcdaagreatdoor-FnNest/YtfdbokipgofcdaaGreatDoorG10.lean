/- Several texts of one claim in one file: PlainRead, PlainNRead. -/
import Derived.Test.YtfdbokipgofcdaaGreatDoorPlainNB
import Derived.Test.YtfdbokipgofcdaaGreatDoorG08
import Derived.Test.YtfdbokipgofcdaaGreatDoorWReadM
namespace Go.Proofs.YtfdbokipgofcdaaGreatDoor
namespace Pl
def piece (s : ByteArray) (p q : Nat) : List UInt8 := ((by_ s).drop p).take (q - p)
theorem zm1 (s : ByteArray) {p q r : Nat} (h1 : p ≤ q) (h2 : q ≤ r) : piece s p q ++ piece s q r = piece s p r := by
 unfold piece
 rw [show r - p = (q - p) + (r - q) by omega, List.take_add, List.drop_drop]
 congr 3
 omega
theorem piece_len (s : ByteArray) {p q : Nat} (h1 : p ≤ q) (h2 : q ≤ s.size) : (piece s p q).length = q - p := by
 unfold piece
 rw [List.length_take, List.length_drop, zc9]; omega
theorem piece_all (s : ByteArray) : piece s 0 s.size = by_ s := by
 unfold piece
 rw [List.drop_zero, Nat.sub_zero, ← zc9, List.take_length]
theorem piece_one (s : ByteArray) {p : Nat} (h : p < s.size) : piece s p (p + 1) = [s[p]] := by
 unfold piece
 have h' : p < (by_ s).length := by rw [zc9]; exact h
 rw [show p + 1 - p = 1 by omega, List.drop_eq_getElem_cons h']
 simp [by_]
 rfl
theorem piece_cons (s : ByteArray) {p q : Nat} (h : p < s.size) (hq : p + 1 ≤ q) : piece s p q = s[p] :: piece s (p + 1) q := by
 rw [← zm1 s (Nat.le_succ p) hq, piece_one s h]; rfl
theorem byte_back (b : UInt8) (h : 128 ≤ b.toNat) : UInt8.ofNat (b.toNat % 128 + 128) = b := by
 have h2 : b.toNat < 256 := b.toNat_lt
 rw [show b.toNat % 128 + 128 = b.toNat by omega]
 exact UInt8.ofNat_toNat
theorem getAt_enc (s : ByteArray) (f : Nat) : ∀ p k X, (ze4 s f p k X).2.2 = 0 → ∃ v q : Nat, ze4 s f p k X = (unf (X + v * 128 ^ k), (q : Int), 0) ∧ p < q ∧ q ≤ s.size ∧ piece s p q = enc v ∧ (0 < k → 0 < v) := by
 induction f with
 | zero => intro p k X h; simp [ze4] at h
 | succ f ih =>
  intro p k X h
  by_cases hp : p < s.size
  ·by_cases hc : 128 ≤ s[p].toNat
   ·by_cases hk : k = 9
    ·rw [yl9 f hp hc hk] at h; simp at h
    ·rw [yf f hp hc hk] at h ⊢
     obtain ⟨v, q, e, h1, h2, h3, h4⟩ := ih _ _ _ h
     have hv := h4 (by omega)
     refine ⟨s[p].toNat % 128 + v * 128, q, ?_, by omega, h2, ?_, fun _ => by omega⟩
     ·rw [e]
      congr 2
      rw [Nat.pow_succ, Nat.add_mul]
      have : v * (128 ^ k * 128) = v * 128 * 128 ^ k := by rw [Nat.mul_assoc, Nat.mul_comm 128]
      rw [this]; omega
     ·rw [piece_cons s hp (by omega), h3, yf8 (u := s[p].toNat % 128 + v * 128) (by omega), show (s[p].toNat % 128 + v * 128) / 128 = v by omega, show (s[p].toNat % 128 + v * 128) % 128 = s[p].toNat % 128 by omega, byte_back _ hc]
   ·by_cases hb : (k = 9 ∧ 1 < s[p].toNat) ∨ (s[p].toNat = 0 ∧ 0 < k)
    ·rw [yj2 f hp (by omega) hb] at h; simp at h
    ·rw [yf1 f hp (by omega) hb]
     refine ⟨s[p].toNat, p + 1, rfl, by omega, by omega, ?_, fun hk => by omega⟩
     rw [piece_one s hp, zm2 (by omega), UInt8.ofNat_toNat]
  ·rw [yj4 f (by omega)] at h; simp at h
theorem fold_unf (u : Nat) : fold (unf u) = u := by
 unfold unf fold
 split
 ·rw [if_pos (by omega)]; omega
 ·rw [if_neg (by omega)]; omega
theorem zm8 {s : ByteArray} {a : Int} (h : (za0 s a).2.2 = 0) : ∃ p q : Nat, a = (p : Int) ∧ (za0 s a).2.1 = (q : Int) ∧ p < q ∧ q ≤ s.size ∧ piece s p q = by_ (num (za0 s a).1) := by
 unfold za0 at h ⊢
 split at h
 ·simp at h
 ·rename_i h1
  rw [if_neg h1]
  split at h
  ·simp at h
  ·rename_i h2
   rw [if_neg h2]
   obtain ⟨v, q, e, h3, h4, h5, -⟩ := getAt_enc s 10 _ _ _ h
   refine ⟨a.toNat, q, by omega, by rw [e], h3, h4, ?_⟩
   rw [h5, e]
   show enc v = by_ ⟨(enc (fold (unf (0 + v * 128 ^ 0)))).toArray⟩
   rw [by_mk, Nat.pow_zero, Nat.mul_one, Nat.zero_add, fold_unf]
theorem yi3 {s : ByteArray} {a : Int} (h : (zb1 s a).2.2 = 0) : ∃ p q : Nat, a = (p : Int) ∧ (zb1 s a).2.1 = (q : Int) ∧ p < q ∧ q ≤ s.size ∧ piece s p q = by_ (zd6.put (zb1 s a).1) ∧ (zb1 s a).1.size ≤ s.size := by
 obtain ⟨n, p, c, e, hc⟩ := yd7 s a
 rcases hc with ⟨h0, -, -, e2⟩ | ⟨rfl, h8, q, rfl, hq, hc⟩
 ·rw [e2] at h; exact absurd h h0
 rcases hc with ⟨-, e2⟩ | ⟨-, e2⟩ | ⟨m, rfl, hm, hc⟩
 ·rw [e2] at h; simp at h
 ·rw [e2] at h; simp at h
 rcases hc with ⟨-, e2⟩ | ⟨hqm, e2⟩
 ·rw [e2] at h; simp at h
 obtain ⟨p0, q0, e3, e4, h1, h2, h3⟩ := zm8 (s := s) (a := a) (by rw [e])
 rw [e] at e4 h3
 simp only at e4 h3
 obtain rfl : q = q0 := by omega
 have hsz : (s.extract q (q + m)).size = m := by rw [ByteArray.size_extract]; omega
 rw [e2]
 refine ⟨p0, q + m, e3, by simp, by omega, hqm, ?_, by simp only; omega⟩
 rw [← zm1 s (Nat.le_of_lt h1) (Nat.le_add_right q m), h3, zd6.zt1 (by simp only; omega), by_mk]
 simp only [hsz]
 congr 1
 show piece s q (q + m) = by_ (s.extract q (q + m))
 rw [zp6]; rfl
theorem zs9 {s : ByteArray} {a : Int} {f : Option Int} (h : (numR s a f).2.2 = none) : f = none ∧ (za0 s a).2.2 = 0 ∧ numR s a f = ((za0 s a).1, (za0 s a).2.1, none) := by
 cases f with
 | some c => simp [numR] at h
 | none =>
  by_cases h0 : (za0 s a).2.2 = 0
  ·exact ⟨rfl, h0, if_pos h0⟩
  ·rw [show numR s a none = (0, 0, some (za0 s a).2.2) from if_neg h0] at h; simp at h
theorem yc4 {s : ByteArray} {a : Int} {f : Option Int} (h : (strR s a f).2.2 = none) : f = none ∧ (zb1 s a).2.2 = 0 ∧ strR s a f = ((zb1 s a).1, (zb1 s a).2.1, none) := by
 cases f with
 | some c => simp [strR] at h
 | none =>
  by_cases h0 : (zb1 s a).2.2 = 0
  ·exact ⟨rfl, h0, if_pos h0⟩
  ·rw [show strR s a none = (⟨#[]⟩, 0, some (zb1 s a).2.2) from if_neg h0] at h; simp at h
theorem yu7 {s : ByteArray} {a : Int} {f : Option Int} (h : (zk7 s a f).f = none) : f = none ∧ ∃ (p q : Nat), a = (p : Int) ∧ (zk7 s a f).a = (q : Int) ∧ p < q ∧ q ≤ s.size ∧ piece s p q = cat (zd5 (zk7 s a f).n) ∧ (zk7 s a f).n.path.size ≤ s.size ∧ (zk7 s a f).n.data.size ≤ s.size := by
 have h5 := zs9 h
 have h4 := zs9 h5.1
 have h3 := yc4 h4.1
 have h2 := zs9 h3.1
 have h1 := yc4 h2.1
 obtain ⟨p5, q5, a5, b5, c5, d5, e5⟩ := zm8 h5.2.1
 obtain ⟨p4, q4, a4, b4, c4, d4, e4⟩ := zm8 h4.2.1
 obtain ⟨p3, q3, a3, b3, c3, d3, e3, z3⟩ := yi3 h3.2.1
 obtain ⟨p2, q2, a2, b2, c2, d2, e2⟩ := zm8 h2.2.1
 obtain ⟨p1, q1, a1, b1, c1, d1, e1, z1⟩ := yi3 h1.2.1
 have g5 := h5.2.2
 have g4 := h4.2.2
 have g3 := h3.2.2
 have g2 := h2.2.2
 have g1 := h1.2.2
 refine ⟨h1.1, p1, q5, a1, ?_, ?_, d5, ?_, ?_, ?_⟩
 ·show (numR s _ _).2.1 = _
  rw [g5]; exact b5
 all_goals
  have k1 : p2 = q1 := by rw [g1] at a2; simp only at a2; omega
  have k2 : p3 = q2 := by rw [g2] at a3; simp only at a3; omega
  have k3 : p4 = q3 := by rw [g3] at a4; simp only at a4; omega
  have k4 : p5 = q4 := by rw [g4] at a5; simp only at a5; omega
  subst k1 k2 k3 k4
 ·omega
 ·rw [← zm1 s (q := p5) (by omega) (by omega), ← zm1 s (p := p1) (q := p4) (r := p5) (by omega) (by omega), ← zm1 s (p := p1) (q := p3) (r := p4) (by omega) (by omega), ← zm1 s (p := p1) (q := p2) (r := p3) (by omega) (by omega), e1, e2, e3, e4, e5]
  show _ = cat [zd6.put (strR s a f).1, num (numR s _ _).1, zd6.put (strR s _ _).1, num (numR s _ _).1, num (numR s _ _).1]
  rw [g5, g4, g3, g2, g1]
  simp [cat, by_]
 ·show (strR s a f).1.size ≤ s.size
  rw [g1]; exact z1
 ·show (strR s _ _).1.size ≤ s.size
  rw [g3]; exact z3
structure St where
 L : List Nd
 a : Int
 f : Option Int
def steps (s : ByteArray) (a : Int) : Nat → St
 | 0 => ⟨[], a, none⟩
 | j + 1 => ⟨(steps s a j).L ++ [(zk7 s (steps s a j).a (steps s a j).f).n], (zk7 s (steps s a j).a (steps s a j).f).a, (zk7 s (steps s a j).a (steps s a j).f).f⟩
theorem yq3 (s : ByteArray) (a : Int) (j : Nat) : (steps s a j).L.length = j := by
 induction j with
 | zero => rfl
 | succ j ih => simp [steps, ih]
theorem yt5 {s : ByteArray} {a : Int} (h8 : s.size ≤ 8000) (ha : a ≤ 9223372036854775807) (j : Nat) : (steps s a j).a ≤ 9223372036854775807 := by
 induction j with
 | zero => exact ha
 | succ j ih => exact nodeR_at h8 ih
theorem ym8 {s : ByteArray} {p : Nat} (hp : p ≤ s.size) (j : Nat) (h : (steps s (p : Int) j).f = none) : ∃ q : Nat, (steps s (p : Int) j).a = (q : Int) ∧ p ≤ q ∧ q ≤ s.size ∧ piece s p q = cat ((steps s (p : Int) j).L.flatMap zd5) ∧ ∀ n ∈ (steps s (p : Int) j).L, n.path.size ≤ s.size ∧ n.data.size ≤ s.size := by
 induction j with
 | zero => exact ⟨p, rfl, Nat.le_refl _, hp, by simp [piece, steps, cat], fun n hn => by cases hn⟩
 | succ j ih =>
  obtain ⟨h1, p2, q2, e1, e2, h2, h3, h4, h5, h6⟩ := yu7 h
  obtain ⟨q, e3, h7, h8, h9, h10⟩ := ih h1
  have : p2 = q := by rw [e3] at e1; omega
  subst this
  refine ⟨q2, e2, by omega, h3, ?_, ?_⟩
  ·rw [← zm1 s h7 (Nat.le_of_lt h2), h9, h4]
   simp [steps, zx7]
  ·intro n hn
   simp only [steps, List.mem_append, List.mem_singleton] at hn
   rcases hn with hn | rfl
   ·exact h10 n hn
   ·exact ⟨h5, h6⟩
theorem steps_stay {s : ByteArray} {a : Int} {j : Nat} (h : (steps s a j).f ≠ none) (i : Nat) : (steps s a (j + i)).f ≠ none := by
 induction i with
 | zero => exact h
 | succ i ih => intro h'; exact ih (yu7 h').1
def zk4 (s : ByteArray) : Option (List Nd) :=
 if (za0 s 0).2.2 = 0 ∧ 0 ≤ (za0 s 0).1 ∧ (za0 s 0).1 ≤ 40 then
  (if (steps s (za0 s 0).2.1 (za0 s 0).1.toNat).f = none ∧ (steps s (za0 s 0).2.1 (za0 s 0).1.toNat).a = (s.size : Int) ∧ za2 (steps s (za0 s 0).2.1 (za0 s 0).1.toNat).L = true then some (steps s (za0 s 0).2.1 (za0 s 0).1.toNat).L else none)
 else none
theorem read_same {s : ByteArray} (h0 : (za0 s 0).2.2 = 0) (h1 : 0 ≤ (za0 s 0).1) (hf : (steps s (za0 s 0).2.1 (za0 s 0).1.toNat).f = none) :
  ((steps s (za0 s 0).2.1 (za0 s 0).1.toNat).a = (s.size : Int) ∧ za2 (steps s (za0 s 0).2.1 (za0 s 0).1.toNat).L = true) ↔ zf7 (steps s (za0 s 0).2.1 (za0 s 0).1.toNat).L = s := by
 obtain ⟨p, q, e1, e2, h2, h3, h4⟩ := zm8 h0
 obtain rfl : p = 0 := by omega
 rw [e2] at hf ⊢
 obtain ⟨q2, e3, h5, h6, h7, -⟩ := ym8 h3 _ hf
 have hlen := yq3 s (q : Int) (za0 s 0).1.toNat
 generalize steps s (q : Int) (za0 s 0).1.toNat = S at *
 have hb : by_ (zc6 S.L) = piece s 0 q2 := by
  rw [← zm1 s (Nat.zero_le q) h5, h7, h4]
  unfold zc6 zn2
  rw [by_mk, show (S.L.length : Int) = (za0 s 0).1 by rw [hlen]; omega]
  simp [cat, by_]
 have hsz : (zc6 S.L).size = q2 := by rw [← zc9, hb, piece_len s (Nat.zero_le _) h6]; omega
 constructor
 ·rintro ⟨ha, ht⟩
  rw [e3] at ha
  obtain rfl : q2 = s.size := by omega
  rw [zs5 ht]
  exact zh7 (by rw [hb, piece_all])
 ·intro he
  by_cases ht : za2 S.L = true
  ·rw [zs5 ht] at he
   refine ⟨?_, ht⟩
   rw [e3, ← he, hsz]
  ·have hn : zf7 S.L = ⟨#[]⟩ := by unfold zf7; rw [if_neg ht]
   rw [hn] at he
   rw [← he] at h3
   have : (ByteArray.mk #[]).size = 0 := rfl
   omega
theorem yn9 {s : ByteArray} {a b : Int} {bad : Bool} {f : Option Int} (h : (bad = false ∧ f = none ∧ a = b) ∨ (bad = true ∧ f ≠ none)) :
  ((numS s a bad).2.2 = false ∧ (numR s b f).2.2 = none ∧ (numS s a bad).2.1 = (numR s b f).2.1 ∧ (numS s a bad).1 = (numR s b f).1) ∨ ((numS s a bad).2.2 = true ∧ (numR s b f).2.2 ≠ none) := by
 rcases h with ⟨rfl, rfl, rfl⟩ | ⟨rfl, hf⟩
 ·by_cases h0 : (za0 s a).2.2 = 0
  ·left
   rw [show numS s a false = ((za0 s a).1, (za0 s a).2.1, false) from if_neg (by simp [h0]), show numR s a none = ((za0 s a).1, (za0 s a).2.1, none) from if_pos h0]
   exact ⟨rfl, rfl, rfl, rfl⟩
  ·right
   rw [show numS s a false = (0, a, true) from if_pos (.inr h0), show numR s a none = (0, 0, some (za0 s a).2.2) from if_neg h0]
   exact ⟨rfl, by simp⟩
 ·right
  cases f with
  | none => exact absurd rfl hf
  | some c => exact ⟨by rw [show numS s a true = (0, a, true) from if_pos (.inl rfl)], by simp [numR]⟩
theorem yp0 {s : ByteArray} {a b : Int} {bad : Bool} {f : Option Int} (h : (bad = false ∧ f = none ∧ a = b) ∨ (bad = true ∧ f ≠ none)) :
  ((zk5 s a bad).2.2 = false ∧ (strR s b f).2.2 = none ∧ (zk5 s a bad).2.1 = (strR s b f).2.1 ∧ (zk5 s a bad).1 = (strR s b f).1) ∨ ((zk5 s a bad).2.2 = true ∧ (strR s b f).2.2 ≠ none) := by
 rcases h with ⟨rfl, rfl, rfl⟩ | ⟨rfl, hf⟩
 ·by_cases h0 : (zb1 s a).2.2 = 0
  ·left
   rw [show zk5 s a false = ((zb1 s a).1, (zb1 s a).2.1, false) from if_neg (by simp [h0]), show strR s a none = ((zb1 s a).1, (zb1 s a).2.1, none) from if_pos h0]
   exact ⟨rfl, rfl, rfl, rfl⟩
  ·right
   rw [show zk5 s a false = (⟨#[]⟩, a, true) from if_pos (.inr h0), show strR s a none = (⟨#[]⟩, 0, some (zb1 s a).2.2) from if_neg h0]
   exact ⟨rfl, by simp⟩
 ·right
  cases f with
  | none => exact absurd rfl hf
  | some c => exact ⟨by rw [show zk5 s a true = (⟨#[]⟩, a, true) from if_pos (.inl rfl)], by simp [strR]⟩
theorem yd2 {x : Bool} {y : Option Int} {a b : Int} {P : Prop} (h : (x = false ∧ y = none ∧ a = b ∧ P) ∨ (x = true ∧ y ≠ none)) : (x = false ∧ y = none ∧ a = b) ∨ (x = true ∧ y ≠ none) := by
 rcases h with ⟨h1, h2, h3, -⟩ | h
 ·exact .inl ⟨h1, h2, h3⟩
 ·exact .inr h
def zu6 (s : ByteArray) (a0 : Int) : Nd × Int × Bool :=
 let r1 := zk5 s a0 false
 let r2 := numS s r1.2.1 r1.2.2
 let r3 := zk5 s r2.2.1 r2.2.2
 let r4 := numS s r3.2.1 r3.2.2
 let r5 := numS s r4.2.1 r4.2.2
 (⟨r1.1, r2.1, r3.1, r4.1, r5.1⟩, r5.2.1, r5.2.2)
theorem node_same (s : ByteArray) (a : Int) : ((zu6 s a).2.2 = false ∧ (zk7 s a none).f = none ∧ (zu6 s a).2.1 = (zk7 s a none).a ∧ (zu6 s a).1 = (zk7 s a none).n) ∨ ((zu6 s a).2.2 = true ∧ (zk7 s a none).f ≠ none) := by
 have h1 := yp0 (s := s) (a := a) (b := a) (bad := false) (f := none) (.inl ⟨rfl, rfl, rfl⟩)
 have h2 := yn9 (s := s) (yd2 h1)
 have h3 := yp0 (s := s) (yd2 h2)
 have h4 := yn9 (s := s) (yd2 h3)
 have h5 := yn9 (s := s) (yd2 h4)
 rcases h5 with ⟨a5, b5, c5, d5⟩ | ⟨a5, b5⟩
 ·left
  have n4 := (zs9 b5).1
  have n3 := (zs9 n4).1
  have n2 := (yc4 n3).1
  have n1 := (zs9 n2).1
  rcases h4 with ⟨-, -, -, d4⟩ | ⟨-, b⟩
  rotate_left
  ·exact absurd n4 b
  rcases h3 with ⟨-, -, -, d3⟩ | ⟨-, b⟩
  rotate_left
  ·exact absurd n3 b
  rcases h2 with ⟨-, -, -, d2⟩ | ⟨-, b⟩
  rotate_left
  ·exact absurd n2 b
  rcases h1 with ⟨-, -, -, d1⟩ | ⟨-, b⟩
  rotate_left
  ·exact absurd n1 b
  refine ⟨a5, b5, c5, ?_⟩
  show Nd.mk _ _ _ _ _ = Nd.mk _ _ _ _ _
  rw [d1, d2, d3, d4, d5]
 ·exact .inr ⟨a5, b5⟩
theorem yn3 {s : ByteArray} {a : Int} {bad : Bool} (h8 : s.size ≤ 8000) (ha : a ≤ 9223372036854775807) : (numS s a bad).2.1 ≤ 9223372036854775807 := by
 unfold numS
 split
 ·exact ha
 ·rename_i h
  have h0 : (za0 s a).2.2 = 0 := by
   by_cases h1 : (za0 s a).2.2 = 0
   ·exact h1
   ·exact absurd (.inr h1) h
  have := getNum_at h0
  show (za0 s a).2.1 ≤ _
  omega
theorem yt8 {s : ByteArray} {a : Int} {bad : Bool} (h8 : s.size ≤ 8000) (ha : a ≤ 9223372036854775807) : (zk5 s a bad).2.1 ≤ 9223372036854775807 := by
 unfold zk5
 split
 ·exact ha
 ·rename_i h
  have h0 : (zb1 s a).2.2 = 0 := by
   by_cases h1 : (zb1 s a).2.2 = 0
   ·exact h1
   ·exact absurd (.inr h1) h
  obtain ⟨p, q, -, e, -, hq, -⟩ := yi3 h0
  show (zb1 s a).2.1 ≤ _
  omega
def zg1 (s : ByteArray) : List Nd × Int := if 8000 < s.size then ([], 2) else match zk4 s with
 | some L => (L, 0)
 | none => ([], 3)
theorem yl7 {s : ByteArray} (h : 8000 < s.size) : zg1 s = ([], 2) := if_pos h
theorem ym {s : ByteArray} (h : ¬ 8000 < s.size) (h2 : zk4 s = none) : zg1 s = ([], 3) := by
 unfold zg1; rw [if_neg h, h2]
theorem ye5 {s : ByteArray} {L : List Nd} (h : ¬ 8000 < s.size) (h2 : zk4 s = some L) : zg1 s = (L, 0) := by
 unfold zg1; rw [if_neg h, h2]
theorem many_cases (s : ByteArray) : (∃ c q : Nat, za0 s 0 = ((c : Int), (q : Int), 0) ∧ c ≤ 40 ∧ 0 < q ∧ q ≤ s.size ∧ zj8 s 0 false 40 = ((c : Int), (q : Int), false)) ∨ ((zj8 s 0 false 40).1 = 0 ∧ (zj8 s 0 false 40).2.2 = true ∧ (zj8 s 0 false 40).2.1 ≤ 8000 + (s.size : Int) ∧ zk4 s = none) := by
 by_cases h0 : (za0 s 0).2.2 = 0
 ·obtain ⟨p, q, e1, e2, h1, h2, -⟩ := zm8 h0
  have en : numS s 0 false = ((za0 s 0).1, (za0 s 0).2.1, false) := if_neg (by simp [h0])
  by_cases hr : 0 ≤ (za0 s 0).1 ∧ (za0 s 0).1 ≤ 40
  ·left
   refine ⟨(za0 s 0).1.toNat, q, ?_, by omega, by omega, h2, ?_⟩
   ·exact Prod.ext (by simp only; omega) (Prod.ext e2 h0)
   ·unfold zj8
    rw [en]
    simp only
    rw [if_pos hr, e2, show (((za0 s 0).1.toNat : Nat) : Int) = (za0 s 0).1 by omega]
  ·right
   have em : zj8 s 0 false 40 = (0, (za0 s 0).2.1, true) := by
    unfold zj8
    rw [en]
    simp only
    rw [if_neg hr]
   rw [em]
   refine ⟨rfl, rfl, by simp only; omega, ?_⟩
   unfold zk4
   rw [if_neg (fun h => hr ⟨h.2.1, h.2.2⟩)]
 ·right
  have en : numS s 0 false = (0, 0, true) := if_pos (.inr h0)
  have em : zj8 s 0 false 40 = (0, 0, true) := by
   unfold zj8
   rw [en]
   simp
  rw [em]
  refine ⟨rfl, rfl, by simp only; omega, ?_⟩
  unfold zk4
  rw [if_neg (fun h => h0 h.1)]
theorem treeR_none {s : ByteArray} {c q j : Nat} (h : za0 s 0 = ((c : Int), (q : Int), 0)) (hj : j ≤ c) (hf : (steps s (q : Int) j).f ≠ none) : zk4 s = none := by
 unfold zk4
 rw [h]
 simp only
 split
 ·rw [if_neg]
  intro h'
  have := steps_stay hf (c - j)
  rw [show j + (c - j) = c by omega] at this
  exact this (by rw [Int.toNat_natCast] at h'; exact h'.1)
 ·rfl
theorem yr4 {s : ByteArray} {c q : Nat} (h : za0 s 0 = ((c : Int), (q : Int), 0)) (hc : c ≤ 40) (hf : (steps s (q : Int) c).f = none) : zk4 s = if zf7 (steps s (q : Int) c).L = s then some (steps s (q : Int) c).L else none := by
 have hs := read_same (s := s) (by rw [h]) (by rw [h]; simp only; omega) (by rw [h]; simp only [Int.toNat_natCast]; exact hf)
 rw [h] at hs
 simp only [Int.toNat_natCast] at hs
 unfold zk4
 rw [h]
 simp only [Int.toNat_natCast]
 rw [if_pos ⟨trivial, by omega, by omega⟩]
 by_cases hb : zf7 (steps s (q : Int) c).L = s
 ·rw [if_pos hb, if_pos ⟨hf, (hs.2 hb).1, (hs.2 hb).2⟩]
 ·rw [if_neg hb, if_neg (fun h' => hb (hs.1 h'.2))]
theorem treeR_fin {s : ByteArray} {c q : Nat} (h : za0 s 0 = ((c : Int), (q : Int), 0)) (hc : c ≤ 40) : zk4 s = if (steps s (q : Int) c).f = none ∧ (steps s (q : Int) c).a = (s.size : Int) ∧ za2 (steps s (q : Int) c).L = true then some (steps s (q : Int) c).L else none := by
 unfold zk4
 rw [h]
 simp only [Int.toNat_natCast]
 rw [if_pos ⟨trivial, by omega, by omega⟩]
theorem steps_succ {s : ByteArray} {a : Int} {j : Nat} (h : (steps s a j).f = none) : ((zu6 s (steps s a j).a).2.2 = false ∧ (steps s a (j + 1)).f = none ∧ (zu6 s (steps s a j).a).2.1 = (steps s a (j + 1)).a ∧ (steps s a j).L ++ [(zu6 s (steps s a j).a).1] = (steps s a (j + 1)).L) ∨ ((zu6 s (steps s a j).a).2.2 = true ∧ (steps s a (j + 1)).f ≠ none) := by
 have hn := node_same s (steps s a j).a
 rcases hn with ⟨h1, h2, h3, h4⟩ | ⟨h1, h2⟩
 ·refine .inl ⟨h1, ?_, ?_, ?_⟩
  ·simp only [steps, h]; exact h2
  ·simp only [steps, h]; exact h3
  ·simp only [steps, h, h4]
 ·refine .inr ⟨h1, ?_⟩
  simp only [steps, h]; exact h2
theorem count_cases (s : ByteArray) : (∃ c q : Nat, za0 s 0 = ((c : Int), (q : Int), 0) ∧ c ≤ 40 ∧ 0 < q ∧ q ≤ s.size ∧ numR s 0 none = ((c : Int), (q : Int), none)) ∨ (((numR s 0 none).1 < 0 ∨ 40 < (numR s 0 none).1) ∧ zk4 s = none) ∨ (∃ code, (numR s 0 none).1 = 0 ∧ (numR s 0 none).2.1 = 0 ∧ (numR s 0 none).2.2 = some code ∧ zk4 s = none) := by
 by_cases h0 : (za0 s 0).2.2 = 0
 ·obtain ⟨p, q, e1, e2, h1, h2, -⟩ := zm8 h0
  have en : numR s 0 none = ((za0 s 0).1, (za0 s 0).2.1, none) := if_pos h0
  by_cases hr : 0 ≤ (za0 s 0).1 ∧ (za0 s 0).1 ≤ 40
  ·left
   refine ⟨(za0 s 0).1.toNat, q, ?_, by omega, by omega, h2, ?_⟩
   ·exact Prod.ext (by simp only; omega) (Prod.ext e2 h0)
   ·rw [en, e2, show (((za0 s 0).1.toNat : Nat) : Int) = (za0 s 0).1 by omega]
  ·right; left
   rw [en]
   refine ⟨by simp only; omega, ?_⟩
   unfold zk4
   rw [if_neg (fun h => hr ⟨h.2.1, h.2.2⟩)]
 ·right; right
  have en : numR s 0 none = (0, 0, some (za0 s 0).2.2) := if_neg h0
  rw [en]
  refine ⟨_, rfl, rfl, rfl, ?_⟩
  unfold zk4
  rw [if_neg (fun h => h0 h.1)]
end Pl
end Go.Proofs.YtfdbokipgofcdaaGreatDoor

namespace Go.Proofs.YtfdbokipgofcdaaGreatDoor
namespace Pl
theorem treeR_back {t : ByteArray} {L : List Nd} (h : zk4 t = some L) : za2 L = true ∧ zc6 L = t := by
 unfold zk4 at h
 split at h
 ·rename_i h0
  split at h
  ·rename_i h1
   cases h
   have h2 := (read_same h0.1 h0.2.1 h1.1).1 ⟨h1.2.1, h1.2.2⟩
   rw [zs5 h1.2.2] at h2
   exact ⟨h1.2.2, h2⟩
  ·cases h
 ·cases h
theorem readO_zero {t : ByteArray} (h : (zg1 t).2 = 0) : za2 (zg1 t).1 = true ∧ zc6 (zg1 t).1 = t ∧ t.size ≤ 8000 := by
 by_cases h8 : 8000 < t.size
 ·rw [yl7 h8] at h; cases h
 ·cases hr : zk4 t with
  | none => rw [ym h8 hr] at h; cases h
  | some L =>
   rw [ye5 h8 hr]
   obtain ⟨h1, h2⟩ := treeR_back hr
   exact ⟨h1, h2, by omega⟩
structure Im where
 n : Int × List Nd
 a : Int
 f : Option Int
def zi3 (s : ByteArray) (a : Int) (f : Option Int) : Im :=
 ⟨((numR s a f).1, (zg1 (strR s (numR s a f).2.1 (numR s a f).2.2).1).1), (strR s (numR s a f).2.1 (numR s a f).2.2).2.1,
  match (strR s (numR s a f).2.1 (numR s a f).2.2).2.2 with
  | none => if (zg1 (strR s (numR s a f).2.1 (numR s a f).2.2).1).2 = 0 then none else some (zg1 (strR s (numR s a f).2.1 (numR s a f).2.2).1).2
  | some c => some c⟩
theorem yn8 {s : ByteArray} {a : Int} {f : Option Int} (h : (zi3 s a f).f = none) : f = none ∧ ∃ (p q : Nat), a = (p : Int) ∧ (zi3 s a f).a = (q : Int) ∧ p < q ∧ q ≤ s.size ∧ piece s p q = cat (zd3 (zi3 s a f).n) ∧ za2 (zi3 s a f).n.2 = true := by
 have h2 : (strR s (numR s a f).2.1 (numR s a f).2.2).2.2 = none := by
  cases hc : (strR s (numR s a f).2.1 (numR s a f).2.2).2.2 with
  | none => rfl
  | some c => simp [zi3, hc] at h
 have h3 : (zg1 (strR s (numR s a f).2.1 (numR s a f).2.2).1).2 = 0 := by
  by_cases h0 : (zg1 (strR s (numR s a f).2.1 (numR s a f).2.2).1).2 = 0
  ·exact h0
  ·simp [zi3, h2, h0] at h
 obtain ⟨t1, t2, -⟩ := readO_zero h3
 have k2 := yc4 h2
 have k1 := zs9 k2.1
 obtain ⟨p2, q2, a2, b2, c2, d2, e2, -⟩ := yi3 k2.2.1
 obtain ⟨p1, q1, a1, b1, c1, d1, e1⟩ := zm8 k1.2.1
 have g2 := k2.2.2
 have g1 := k1.2.2
 have k : p2 = q1 := by rw [g1] at a2; simp only at a2; omega
 subst k
 refine ⟨k1.1, p1, q2, a1, ?_, by omega, d2, ?_, t1⟩
 ·show (strR s _ _).2.1 = _
  rw [g2]; exact b2
 ·rw [← zm1 s (q := p2) (by omega) (by omega), e1, e2]
  show _ = cat [num (numR s a f).1, zd6.put (zc6 (zg1 (strR s _ _).1).1)]
  rw [t2, g2, g1]
  simp [cat, by_]
structure Sj where
 L : List (Int × List Nd)
 a : Int
 f : Option Int
def za3 (s : ByteArray) (a : Int) : Nat → Sj
 | 0 => ⟨[], a, none⟩
 | j + 1 => ⟨(za3 s a j).L ++ [(zi3 s (za3 s a j).a (za3 s a j).f).n], (zi3 s (za3 s a j).a (za3 s a j).f).a, (zi3 s (za3 s a j).a (za3 s a j).f).f⟩
theorem yu8 (s : ByteArray) (a : Int) (j : Nat) : (za3 s a j).L.length = j := by
 induction j with
 | zero => rfl
 | succ j ih => simp [za3, ih]
theorem stepsI_none {s : ByteArray} {p : Nat} (hp : p ≤ s.size) (j : Nat) (h : (za3 s (p : Int) j).f = none) : ∃ q : Nat, (za3 s (p : Int) j).a = (q : Int) ∧ p ≤ q ∧ q ≤ s.size ∧ piece s p q = cat ((za3 s (p : Int) j).L.flatMap zd3) := by
 induction j with
 | zero => exact ⟨p, rfl, Nat.le_refl _, hp, by simp [za3, piece, cat]⟩
 | succ j ih =>
  have h' : (zi3 s (za3 s (p : Int) j).a (za3 s (p : Int) j).f).f = none := h
  obtain ⟨hf, p1, q1, a1, b1, c1, d1, e1, -⟩ := yn8 h'
  obtain ⟨q, e2, h2, h3, h4⟩ := ih hf
  have k : p1 = q := by rw [e2] at a1; omega
  subst k
  refine ⟨q1, b1, by omega, d1, ?_⟩
  rw [← zm1 s h2 (Nat.le_of_lt c1), h4, e1]
  simp only [za3, List.flatMap_append, List.flatMap_cons, List.flatMap_nil, List.append_nil, zx7]
theorem stepsI_stay {s : ByteArray} {a : Int} {j : Nat} (h : (za3 s a j).f ≠ none) (i : Nat) : (za3 s a (j + i)).f ≠ none := by
 induction i with
 | zero => exact h
 | succ i ih =>
  intro h'
  have h2 : (zi3 s (za3 s a (j + i)).a (za3 s a (j + i)).f).f = none := h'
  exact ih (yn8 h2).1
theorem yx {s : ByteArray} (h8 : s.size ≤ 8000) {c q : Nat} (h : za0 s 0 = ((c : Int), (q : Int), 0)) (hf : (za3 s (q : Int) c).f = none) :
  ((za3 s (q : Int) c).a = (s.size : Int) ∧ (nest (rowO (za3 s (q : Int) c).L)).isSome = true) ↔ zc4 (za3 s (q : Int) c).L = s := by
 obtain ⟨p, q', e1, e2, h2, h3, h4⟩ := zm8 (s := s) (a := 0) (by rw [h])
 obtain rfl : p = 0 := by omega
 rw [h] at e2 h4
 simp only at e2 h4
 obtain rfl : q = q' := by omega
 obtain ⟨q2, e3, h5, h6, h7⟩ := stepsI_none h3 _ hf
 have hlen := yu8 s (q : Int) c
 generalize za3 s (q : Int) c = S at *
 have hb : by_ (zh S.L) = piece s 0 q2 := by
  rw [← zm1 s (Nat.zero_le q) h5, h7, h4]
  unfold zh
  rw [by_mk, hlen]
  simp [cat, by_]
 have hsz : (zh S.L).size = q2 := by rw [← zc9, hb, piece_len s (Nat.zero_le _) h6]; omega
 unfold zc4
 constructor
 ·rintro ⟨ha, ht⟩
  rw [e3] at ha
  obtain rfl : q2 = s.size := by omega
  rw [if_pos ht, if_neg (by omega)]
  exact zh7 (by rw [hb, piece_all])
 ·intro he
  have h0 : (ByteArray.mk #[]).size = 0 := rfl
  split at he
  ·rename_i ht
   rw [if_neg (by omega)] at he
   refine ⟨?_, ht⟩
   rw [e3, ← he, hsz]
  ·rw [← he] at h3; omega
def zv2 (s : ByteArray) (a : Int) : (Int × List Nd) × Int × Bool :=
 (((numS s a false).1, (zg1 (zk5 s (numS s a false).2.1 (numS s a false).2.2).1).1), (zk5 s (numS s a false).2.1 (numS s a false).2.2).2.1,
  (zk5 s (numS s a false).2.1 (numS s a false).2.2).2.2 || decide ((zg1 (zk5 s (numS s a false).2.1 (numS s a false).2.2).1).2 ≠ 0))
theorem item_same (s : ByteArray) (a : Int) : ((zv2 s a).2.2 = false ∧ (zi3 s a none).f = none ∧ (zv2 s a).2.1 = (zi3 s a none).a ∧ (zv2 s a).1 = (zi3 s a none).n) ∨ ((zv2 s a).2.2 = true ∧ (zi3 s a none).f ≠ none) := by
 have h1 := yn9 (s := s) (a := a) (b := a) (bad := false) (f := none) (.inl ⟨rfl, rfl, rfl⟩)
 have h2 := yp0 (s := s) (yd2 h1)
 rcases h2 with ⟨a2, b2, c2, d2⟩ | ⟨a2, b2⟩
 ·have n1 := (yc4 b2).1
  rcases h1 with ⟨-, -, -, d1⟩ | ⟨-, b⟩
  rotate_left
  ·exact absurd n1 b
  by_cases h0 : (zg1 (strR s (numR s a none).2.1 (numR s a none).2.2).1).2 = 0
  ·left
   refine ⟨?_, ?_, c2, ?_⟩
   ·show (_ || decide _) = false
    rw [a2, d2]; simp [h0]
   ·simp [zi3, b2, h0]
   ·show ((_ : Int), _) = (_, _)
    rw [d1, d2]
  ·right
   refine ⟨?_, ?_⟩
   ·show (_ || decide _) = true
    rw [a2, d2]; simp [h0]
   ·simp [zi3, b2, h0]
 ·right
  refine ⟨?_, ?_⟩
  ·show (_ || decide _) = true
   rw [a2]; simp
  ·cases hc : (strR s (numR s a none).2.1 (numR s a none).2.2).2.2 with
   | none => exact absurd hc b2
   | some c => simp [zi3, hc]
theorem stepsI_succ {s : ByteArray} {a : Int} {j : Nat} (h : (za3 s a j).f = none) : ((zv2 s (za3 s a j).a).2.2 = false ∧ (za3 s a (j + 1)).f = none ∧ (zv2 s (za3 s a j).a).2.1 = (za3 s a (j + 1)).a ∧ (za3 s a j).L ++ [(zv2 s (za3 s a j).a).1] = (za3 s a (j + 1)).L) ∨ ((zv2 s (za3 s a j).a).2.2 = true ∧ (za3 s a (j + 1)).f ≠ none) := by
 have hn := item_same s (za3 s a j).a
 rcases hn with ⟨h1, h2, h3, h4⟩ | ⟨h1, h2⟩
 ·refine .inl ⟨h1, ?_, ?_, ?_⟩
  ·simp only [za3, h]; exact h2
  ·simp only [za3, h]; exact h3
  ·simp only [za3, h, h4]
 ·refine .inr ⟨h1, ?_⟩
  simp only [za3, h]; exact h2
def zl (s : ByteArray) : Option (List (Int × List Nd)) :=
 if (za0 s 0).2.2 = 0 ∧ 0 ≤ (za0 s 0).1 ∧ (za0 s 0).1 ≤ 12 then
  (if (za3 s (za0 s 0).2.1 (za0 s 0).1.toNat).f = none ∧ (za3 s (za0 s 0).2.1 (za0 s 0).1.toNat).a = (s.size : Int) ∧ (nest (rowO (za3 s (za0 s 0).2.1 (za0 s 0).1.toNat).L)).isSome = true then some (za3 s (za0 s 0).2.1 (za0 s 0).1.toNat).L else none)
 else none
def zg4 (s : ByteArray) : List (Int × List Nd) × Int := if 8000 < s.size then ([], 2) else match zl s with
 | some L => (L, 0)
 | none => ([], 3)
theorem manyN_cases (s : ByteArray) : (∃ c q : Nat, za0 s 0 = ((c : Int), (q : Int), 0) ∧ c ≤ 12 ∧ 0 < q ∧ q ≤ s.size ∧ zj8 s 0 false 12 = ((c : Int), (q : Int), false)) ∨ ((zj8 s 0 false 12).1 = 0 ∧ (zj8 s 0 false 12).2.2 = true ∧ (zj8 s 0 false 12).2.1 ≤ 8000 + (s.size : Int) ∧ zl s = none) := by
 by_cases h0 : (za0 s 0).2.2 = 0
 ·obtain ⟨p, q, e1, e2, h1, h2, -⟩ := zm8 h0
  have en : numS s 0 false = ((za0 s 0).1, (za0 s 0).2.1, false) := if_neg (by simp [h0])
  by_cases hr : 0 ≤ (za0 s 0).1 ∧ (za0 s 0).1 ≤ 12
  ·left
   refine ⟨(za0 s 0).1.toNat, q, ?_, by omega, by omega, h2, ?_⟩
   ·exact Prod.ext (by simp only; omega) (Prod.ext e2 h0)
   ·unfold zj8
    rw [en]
    simp only
    rw [if_pos hr, e2, show (((za0 s 0).1.toNat : Nat) : Int) = (za0 s 0).1 by omega]
  ·right
   have em : zj8 s 0 false 12 = (0, (za0 s 0).2.1, true) := by
    unfold zj8
    rw [en]
    simp only
    rw [if_neg hr]
   rw [em]
   refine ⟨rfl, rfl, by simp only; omega, ?_⟩
   unfold zl
   rw [if_neg (fun h => hr ⟨h.2.1, h.2.2⟩)]
 ·right
  have en : numS s 0 false = (0, 0, true) := if_pos (.inr h0)
  have em : zj8 s 0 false 12 = (0, 0, true) := by
   unfold zj8
   rw [en]
   simp
  rw [em]
  refine ⟨rfl, rfl, by simp only; omega, ?_⟩
  unfold zl
  rw [if_neg (fun h => h0 h.1)]
theorem nestR_none {s : ByteArray} {c q j : Nat} (h : za0 s 0 = ((c : Int), (q : Int), 0)) (hj : j ≤ c) (hf : (za3 s (q : Int) j).f ≠ none) : zl s = none := by
 unfold zl
 rw [h]
 simp only
 split
 ·rw [if_neg]
  intro h'
  have := stepsI_stay hf (c - j)
  rw [show j + (c - j) = c by omega] at this
  exact this (by rw [Int.toNat_natCast] at h'; exact h'.1)
 ·rfl
theorem yr2 {s : ByteArray} (h8 : s.size ≤ 8000) {c q : Nat} (h : za0 s 0 = ((c : Int), (q : Int), 0)) (hc : c ≤ 12) (hf : (za3 s (q : Int) c).f = none) : zl s = if zc4 (za3 s (q : Int) c).L = s then some (za3 s (q : Int) c).L else none := by
 have hs := yx h8 h hf
 unfold zl
 rw [h]
 simp only [Int.toNat_natCast]
 rw [if_pos ⟨trivial, by omega, by omega⟩]
 by_cases hb : zc4 (za3 s (q : Int) c).L = s
 ·rw [if_pos hb, if_pos ⟨hf, (hs.2 hb).1, (hs.2 hb).2⟩]
 ·rw [if_neg hb, if_neg (fun h' => hb (hs.1 h'.2))]
theorem nestR_fin {s : ByteArray} {c q : Nat} (h : za0 s 0 = ((c : Int), (q : Int), 0)) (hc : c ≤ 12) : zl s = if (za3 s (q : Int) c).f = none ∧ (za3 s (q : Int) c).a = (s.size : Int) ∧ (nest (rowO (za3 s (q : Int) c).L)).isSome = true then some (za3 s (q : Int) c).L else none := by
 unfold zl
 rw [h]
 simp only [Int.toNat_natCast]
 rw [if_pos ⟨trivial, by omega, by omega⟩]
theorem countN_cases (s : ByteArray) : (∃ c q : Nat, za0 s 0 = ((c : Int), (q : Int), 0) ∧ c ≤ 12 ∧ 0 < q ∧ q ≤ s.size ∧ numR s 0 none = ((c : Int), (q : Int), none)) ∨ (((numR s 0 none).1 < 0 ∨ 12 < (numR s 0 none).1) ∧ zl s = none) ∨ (∃ code, (numR s 0 none).1 = 0 ∧ (numR s 0 none).2.1 = 0 ∧ (numR s 0 none).2.2 = some code ∧ zl s = none) := by
 by_cases h0 : (za0 s 0).2.2 = 0
 ·obtain ⟨p, q, e1, e2, h1, h2, -⟩ := zm8 h0
  have en : numR s 0 none = ((za0 s 0).1, (za0 s 0).2.1, none) := if_pos h0
  by_cases hr : 0 ≤ (za0 s 0).1 ∧ (za0 s 0).1 ≤ 12
  ·left
   refine ⟨(za0 s 0).1.toNat, q, ?_, by omega, by omega, h2, ?_⟩
   ·exact Prod.ext (by simp only; omega) (Prod.ext e2 h0)
   ·rw [en, e2, show (((za0 s 0).1.toNat : Nat) : Int) = (za0 s 0).1 by omega]
  ·right; left
   rw [en]
   refine ⟨by simp only; omega, ?_⟩
   unfold zl
   rw [if_neg (fun h => hr ⟨h.2.1, h.2.2⟩)]
 ·right; right
  have en : numR s 0 none = (0, 0, some (za0 s 0).2.2) := if_neg h0
  rw [en]
  refine ⟨_, rfl, rfl, rfl, ?_⟩
  unfold zl
  rw [if_neg (fun h => h0 h.1)]
end Pl
end Go.Proofs.YtfdbokipgofcdaaGreatDoor

