/- Several texts of one claim in one file: Plain, PlainPath, PlainNode, PlainGlue. -/
import Derived.Laws.BitsAllLaws
import Derived.WalkKit
import Derived.Laws.IdiomStrings
namespace Go.Proofs.YtioildojmckepaaGreatDoor
namespace Pl

def encF : Nat → Nat → List UInt8
 | 0, u => [UInt8.ofNat u]
 | f + 1, u => if u < 128 then [UInt8.ofNat u] else UInt8.ofNat (u % 128 + 128) :: encF f (u / 128)
def enc (u : Nat) : List UInt8 := encF u u
theorem encF_same (n : Nat) : ∀ u f g, u ≤ n → u ≤ f → u ≤ g → encF f u = encF g u := by
 induction n with
 | zero =>
  intro u f g hu _ _
  obtain rfl : u = 0 := by omega
  cases f <;> cases g <;> simp [encF]
 | succ n ih =>
  intro u f g hu hf hg
  by_cases h : u < 128
  ·cases f <;> cases g <;> simp [encF, h]
  ·obtain ⟨f, rfl⟩ : ∃ f', f = f' + 1 := ⟨f - 1, by omega⟩
   obtain ⟨g, rfl⟩ : ∃ g', g = g' + 1 := ⟨g - 1, by omega⟩
   rw [encF, encF, if_neg h, if_neg h, ih (u / 128) f g (by omega) (by omega) (by omega)]

theorem zi2 {u : Nat} (h : u < 128) : enc u = [UInt8.ofNat u] := by
 unfold enc
 cases u with
 | zero => rfl
 | succ u => rw [encF, if_pos h]
theorem zu1 {u : Nat} (h : 128 ≤ u) : enc u = UInt8.ofNat (u % 128 + 128) :: enc (u / 128) := by
 obtain ⟨f, hf⟩ : ∃ f, u = f + 1 := ⟨u - 1, by omega⟩
 have e : encF u u = UInt8.ofNat (u % 128 + 128) :: encF f (u / 128) := by
  rw [show encF u u = encF (f + 1) u by rw [← hf], encF, if_neg (Nat.not_lt.2 h)]
 unfold enc
 rw [e, encF_same f (u / 128) f (u / 128) (by omega) (by omega) (Nat.le_refl _)]

def zk9 (u : Nat) : Nat → List UInt8
 | 0 => []
 | k + 1 => zk9 u k ++ [UInt8.ofNat (u / 128 ^ k % 128 + 128)]
theorem zi4 (u k : Nat) : (zk9 u k).length = k := by
 induction k with
 | zero => rfl
 | succ k ih => simp [zk9, ih]
theorem enc_split (u k : Nat) (h : ∀ j, j < k → 128 ≤ u / 128 ^ j) : enc u = zk9 u k ++ enc (u / 128 ^ k) := by
 induction k with
 | zero => simp [zk9]
 | succ k ih =>
  rw [ih (fun j hj => h j (by omega)), zu1 (h k (by omega)), zk9, Nat.div_div_eq_div_mul, Nat.pow_succ]
  simp

theorem zj5 (n : Nat) : ∀ u, u < 128 ^ n → (enc u).length ≤ n + 1 := by
 induction n with
 | zero => intro u hu; rw [zi2 (by omega)]; simp
 | succ n ih =>
  intro u hu
  by_cases h : u < 128
  ·rw [zi2 h]; simp
  ·rw [zu1 (by omega), List.length_cons]
   have := ih (u / 128) (by rw [Nat.pow_succ] at hu; exact Nat.div_lt_of_lt_mul (by rw [Nat.mul_comm]; exact hu))
   omega

def fold (n : Int) : Nat := if n < 0 then (-2 * n - 1).toNat else (2 * n).toNat

structure zj8 (u k X : Nat) (C : Array Value) : Prop where
 rest : X = u / 128 ^ k
 big : ∀ j, j < k → 128 ≤ u / 128 ^ j
 cell : ∀ j, j < k → C[j]? = some (.int .u8 ((u / 128 ^ j % 128 + 128 : Nat) : Int))
theorem zj8.start (u : Nat) (C : Array Value) : zj8 u 0 u C := ⟨by simp, fun _ h => absurd h (by omega), fun _ h => absurd h (by omega)⟩
theorem lt_nine {u k X : Nat} (h3 : X = u / 128 ^ k) (hX : 128 ≤ X) (hu : u < 18446744073709551616) : k < 9 := by
 rcases Nat.lt_or_ge k 9 with h9 | h9
 ·exact h9
 ·have h1 : 128 ^ 9 ≤ 128 ^ k := Nat.pow_le_pow_right (by omega) h9
  have h2 : u / 128 ^ k ≤ u / 128 ^ 9 := Nat.div_le_div_left h1 (by decide)
  have h4 : u / 128 ^ 9 < 2 := by omega
  omega
theorem zj8.lt {u k X : Nat} {C : Array Value} (h : zj8 u k X C) (hX : 128 ≤ X) (hu : u < 18446744073709551616) : k < 9 := lt_nine h.rest hX hu
theorem zj8.step {u k X : Nat} {C : Array Value} (h : zj8 u k X C) (hX : 128 ≤ X) (hk : k < C.size) :
  zj8 u (k + 1) (X / 128) (C.setIfInBounds k (.int .u8 ((X % 128 + 128 : Nat) : Int))) := by
 refine ⟨?_, ?_, ?_⟩
 ·rw [h.rest, Nat.div_div_eq_div_mul, Nat.pow_succ]
 ·intro j hj
  rcases Nat.lt_succ_iff_lt_or_eq.1 hj with h' | rfl
  ·exact h.big j h'
  ·rw [← h.rest]; exact hX
 ·intro j hj
  rcases Nat.lt_succ_iff_lt_or_eq.1 hj with h' | rfl
  ·rw [Array.getElem?_setIfInBounds_ne (by omega)]; exact h.cell j h'
  ·rw [Array.getElem?_setIfInBounds_self_of_lt hk, h.rest]

theorem encTo_get (u k j : Nat) (h : j < k) : (zk9 u k)[j]? = some (UInt8.ofNat (u / 128 ^ j % 128 + 128)) := by
 induction k with
 | zero => omega
 | succ k ih =>
  rw [zk9]
  rcases Nat.lt_succ_iff_lt_or_eq.1 h with h' | rfl
  ·rw [List.getElem?_append_left (by rw [zi4]; exact h')]; exact ih h'
  ·rw [List.getElem?_append_right (by rw [zi4]; exact Nat.le_refl _), zi4]; simp
theorem zj8.enc {u k X : Nat} {C : Array Value} (h : zj8 u k X C) (hX : X < 128) : enc u = zk9 u k ++ [UInt8.ofNat X] := by
 rw [enc_split u k h.big, ← h.rest, zi2 hX]
theorem zj8.length {u k X : Nat} {C : Array Value} (h : zj8 u k X C) (hX : X < 128) : (Pl.enc u).length = k + 1 := by
 rw [h.enc hX]; simp [zi4]
theorem zj8.bytes {u k X : Nat} {C : Array Value} (h : zj8 u k X C) (hX : X < 128) (hk : k < C.size) (j : Nat) (hj : j < (Pl.enc u).length) :
  (C.setIfInBounds k (.int .u8 (X : Int)))[j]? = some (.int .u8 ((Pl.enc u)[j].toNat : Int)) := by
 have hl := h.length hX
 have hg : (Pl.enc u)[j]? = some (Pl.enc u)[j] := List.getElem?_eq_getElem hj
 generalize (Pl.enc u)[j] = b at hg ⊢
 rw [h.enc hX] at hg
 rcases Nat.lt_or_ge j k with hjk | hjk
 ·rw [List.getElem?_append_left (by rw [zi4]; exact hjk), encTo_get u k j hjk] at hg
  have hg := (Option.some.inj hg).symm
  rw [Array.getElem?_setIfInBounds_ne (by omega), h.cell j hjk]
  subst hg
  simp [UInt8.toNat_ofNat']
  omega
 ·obtain rfl : j = k := by omega
  rw [List.getElem?_append_right (by rw [zi4]; exact Nat.le_refl _), zi4] at hg
  have hg : UInt8.ofNat X = b := by simpa using hg
  rw [Array.getElem?_setIfInBounds_self_of_lt hk]
  subst hg
  simp [UInt8.toNat_ofNat']
  omega

def zd2 (b : UInt8) : Value := .int .u8 (b.toNat : Int)
structure zj3 (u k X : Nat) : Prop where
 rest : X = u / 128 ^ k
 big : ∀ j, j < k → 128 ≤ u / 128 ^ j
theorem zj3.start (u : Nat) : zj3 u 0 u := ⟨by simp, fun _ h => absurd h (by omega)⟩
theorem zj3.lt {u k X : Nat} (h : zj3 u k X) (hX : 128 ≤ X) (hu : u < 18446744073709551616) : k < 9 := lt_nine h.rest hX hu
theorem zj3.step {u k X : Nat} (h : zj3 u k X) (hX : 128 ≤ X) : zj3 u (k + 1) (X / 128) := by
 refine ⟨?_, ?_⟩
 ·rw [h.rest, Nat.div_div_eq_div_mul, Nat.pow_succ]
 ·intro j hj
  rcases Nat.lt_succ_iff_lt_or_eq.1 hj with h' | rfl
  ·exact h.big j h'
  ·rw [← h.rest]; exact hX
theorem zj3.enc {u k X : Nat} (h : zj3 u k X) (hX : X < 128) : Pl.enc u = zk9 u k ++ [UInt8.ofNat X] := by
 rw [enc_split u k h.big, ← h.rest, zi2 hX]
theorem zj3.cells {u k X : Nat} (h : zj3 u k X) : (zk9 u k).map zd2 ++ [.int .u8 ((X : Int) % 128 + 128)] = (zk9 u (k + 1)).map zd2 := by
 rw [zk9, List.map_append, ← h.rest]
 congr 1
 simp [zd2, UInt8.toNat_ofNat']
 omega
theorem zj3.last {u k X : Nat} (h : zj3 u k X) (hX : X < 128) : (zk9 u k).map zd2 ++ [.int .u8 (X : Int)] = (Pl.enc u).map zd2 := by
 rw [h.enc hX, List.map_append]
 congr 1
 simp [zd2, UInt8.toNat_ofNat']
 omega
theorem zj3.length {u k X : Nat} (h : zj3 u k X) (hX : X < 128) : (Pl.enc u).length = k + 1 := by rw [h.enc hX]; simp [zi4]

theorem fold_neg {n : Int} (h : n < 0) : (fold n : Int) = -2 * n - 1 := by rw [fold, if_pos h]; omega
theorem zl {n : Int} (h : 0 ≤ n) : (fold n : Int) = 2 * n := by rw [fold, if_neg (by omega)]; omega
theorem zu3 {n : Int} (h1 : -9223372036854775808 ≤ n) (h2 : n ≤ 9223372036854775807) : fold n < 18446744073709551616 := by
 by_cases h : n < 0
 ·have := fold_neg h; omega
 ·have := zl (n := n) (by omega); omega
theorem turned64 (a : Nat) (h : a < 18446744073709551616) : a ^^^ 18446744073709551615 = 18446744073709551615 - a := by
 have h1 : (18446744073709551615 : Nat) - a = 2 ^ 64 - (a + 1) := by omega
 rw [h1]
 apply Nat.eq_of_testBit_eq
 intro i
 rw [Nat.testBit_two_pow_sub_succ h, Nat.testBit_xor]
 have h2 : (18446744073709551615 : Nat) = 2 ^ 64 - 1 := rfl
 rw [h2, Nat.testBit_two_pow_sub_one]
 by_cases hi : i < 64
 ·simp [hi]
 ·have : a.testBit i = false := Nat.testBit_lt_two_pow (Nat.lt_of_lt_of_le h (by
   have : (18446744073709551616 : Nat) = 2 ^ 64 := rfl
   rw [this]; exact Nat.pow_le_pow_right (by omega) (by omega)))
  simp [hi, this]
theorem not64_form (R : Nat) (hR : R < 18446744073709551616) : bits .xor .u64 IntKind.u64.max (R : Int) = ((18446744073709551615 - R : Nat) : Int) := by
 have h := u64_xor_nat 18446744073709551615 R (by omega) hR
 rw [Nat.xor_comm, turned64 R hR] at h
 exact h
theorem foldNot_form (n : Int) (h1 : -9223372036854775808 ≤ n) (h2 : n < 0) :
  bits .xor .u64 IntKind.u64.max (IntKind.u64.wrap (IntKind.u64.wrap n * 2)) = (fold n : Int) := by
 have e : IntKind.u64.wrap (IntKind.u64.wrap n * 2) = ((2 * n + 18446744073709551616).toNat : Int) := by
  rw [IntKind.wrap_u64, IntKind.wrap_u64]; omega
 rw [e, not64_form _ (by omega), fold_neg h2]
 omega
theorem low7_form (u : Nat) (h : u < 18446744073709551616) : bits .and .u64 (u : Int) 127 = ((u % 128 : Nat) : Int) := by
 have h4 := u64_and_nat u 127 h (by omega)
 have h5 := Nat.and_two_pow_sub_one_eq_mod u 7
 have e : (2 ^ 7 - 1 : Nat) = 127 := rfl
 rw [e] at h5
 rw [h5] at h4
 exact h4

def tot (ts : List ByteArray) : Nat := (ts.map ByteArray.size).sum
def cat (ts : List ByteArray) : List UInt8 := (ts.map fun t => t.data.toList).flatten
theorem zt7 (ts : List ByteArray) : (cat ts).length = tot ts := by
 induction ts with
 | nil => rfl
 | cons t ts ih =>
  have h1 : (cat (t :: ts)).length = t.data.toList.length + (cat ts).length := by simp [cat]
  have h2 : tot (t :: ts) = t.size + tot ts := by simp [tot]
  rw [h1, h2, ih]; rfl
theorem tot_snoc (ts : List ByteArray) (k : Nat) (t : ByteArray) (h : ts[k]? = some t) : tot (ts.take (k + 1)) = tot (ts.take k) + t.size := by
 rw [List.take_add_one, h]; simp [tot]
theorem cat_snoc (ts : List ByteArray) (k : Nat) (t : ByteArray) (h : ts[k]? = some t) : cat (ts.take (k + 1)) = cat (ts.take k) ++ t.data.toList := by
 rw [List.take_add_one, h]; simp [cat]
theorem tot_le (ts : List ByteArray) (k : Nat) : tot (ts.take k) ≤ tot ts := by
 have h : tot ts = tot (ts.take k) + tot (ts.drop k) := by
  have e : ∀ a b : List ByteArray, tot (a ++ b) = tot a + tot b := fun a b => by simp [tot]
  have := e (ts.take k) (ts.drop k)
  rwa [List.take_append_drop] at this
 omega
theorem cat_two (a b : ByteArray) : cat [a, b] = a.data.toList ++ b.data.toList := by simp [cat]
theorem cat_one (a : ByteArray) : cat [a] = a.data.toList := by simp [cat]
theorem tot_two (a b : ByteArray) : tot [a, b] = a.size + b.size := by simp [tot]
theorem tot_one (a : ByteArray) : tot [a] = a.size := by simp [tot]
theorem yc8 (a : List UInt8) (s : ByteArray) : (⟨a.toArray⟩ : ByteArray) ++ s = ⟨(a ++ s.data.toList).toArray⟩ := by
 apply ByteArray.ext
 simp
theorem part_step {ts : List ByteArray} {k : Nat} {t : ByteArray} {cur : Array Value} (h : ts[k]? = some t)
  (hp : cur.toList.take (tot (ts.take k)) = (cat (ts.take k)).map zd2) :
  (cur.toList.take (tot (ts.take k)) ++ t.data.toList.map zd2 ++ cur.toList.drop (tot (ts.take k) + t.size)).toArray.toList.take (tot (ts.take (k + 1))) = (cat (ts.take (k + 1))).map zd2 := by
 have hl : (cat (ts.take (k + 1))).length = tot (ts.take (k + 1)) := zt7 _
 rw [hp, ← List.map_append, ← cat_snoc ts k t h, List.take_append_of_le_length (by rw [List.length_map, hl]; exact Nat.le_refl _), List.take_of_length_le (by rw [List.length_map, hl]; exact Nat.le_refl _)]

def four (n : Nat) : List UInt8 := [UInt8.ofNat n, UInt8.ofNat (n / 256), UInt8.ofNat (n / 65536), UInt8.ofNat (n / 16777216)]
theorem take_snoc (s : ByteArray) (k : Nat) (h : k < s.size) : s.data.toList.take (k + 1) = s.data.toList.take k ++ [s[k]] := by
 rw [List.take_succ_eq_append_getElem (by simpa using h)]; rfl

abbrev okAt (j n : Nat) : Prop := (97 ≤ n ∧ n ≤ 122) ∨ (j ≠ 0 ∧ ((48 ≤ n ∧ n ≤ 57) ∨ n = 95))
def zd9 (s : ByteArray) : Bool := decide (1 ≤ s.size ∧ s.size ≤ 20 ∧ ∀ j, j < s.size → okAt j ((s.data.toList.getD j 0).toNat))
theorem zi0 (s : ByteArray) (k : Nat) (h : k < s.size) : s.data.toList.getD k 0 = s[k] := by
 have h' : k < s.data.size := h
 simp only [List.getD, Array.getElem?_toList]
 rw [Array.getElem?_eq_getElem h']
 rfl
theorem yc4 {s : ByteArray} (h : s.size < 1) : zd9 s = false := decide_eq_false (by omega)
theorem yc6 {s : ByteArray} (h : 20 < s.size) : zd9 s = false := decide_eq_false (by omega)
theorem zr9 {s : ByteArray} (k : Nat) (h : k < s.size) (hb : ¬ okAt k s[k].toNat) : zd9 s = false :=
 decide_eq_false (fun ⟨_, _, ha⟩ => hb (by have := ha k h; rwa [zi0 s k h] at this))
theorem ye5 {s : ByteArray} (h1 : ¬ s.size < 1) (h2 : ¬ 20 < s.size) (h : ∀ j, j < s.size → okAt j ((s.data.toList.getD j 0).toNat)) : zd9 s = true :=
 decide_eq_true ⟨by omega, by omega, h⟩
theorem zx8 {s : ByteArray} {k : Nat} (h : ∀ j, j < k → okAt j ((s.data.toList.getD j 0).toNat)) (hk : k < s.size) (ho : okAt k s[k].toNat) :
  ∀ j, j < k + 1 → okAt j ((s.data.toList.getD j 0).toNat) := by
 intro j hj
 rcases Nat.lt_succ_iff_lt_or_eq.1 hj with h' | rfl
 ·exact h j h'
 ·rw [zi0 s j hk]; exact ho

theorem kinds (n : Int) : (97 ≤ n ∧ n ≤ 122) ∨ (¬ 97 ≤ n ∧ 48 ≤ n ∧ n ≤ 57 ∧ (n != 95) = true) ∨ (¬ 97 ≤ n ∧ 48 ≤ n ∧ ¬ n ≤ 57 ∧ (n != 95) = true) ∨
  (¬ 97 ≤ n ∧ 48 ≤ n ∧ ¬ n ≤ 57 ∧ (n != 95) = false) ∨ (¬ 97 ≤ n ∧ ¬ 48 ≤ n ∧ (n != 95) = true) ∨ (97 ≤ n ∧ ¬ n ≤ 122 ∧ 48 ≤ n ∧ ¬ n ≤ 57 ∧ (n != 95) = true) := by
 simp only [bne_iff_ne, ne_eq, bne_eq_false_iff_eq]
 omega

end Pl
end Go.Proofs.YtioildojmckepaaGreatDoor

namespace Go.Proofs.YtioildojmckepaaGreatDoor
namespace Pl
def cutF (s : ByteArray) (b : Nat) : Nat → Nat → Nat → List ByteArray
 | 0, from_, _ => [s.extract from_ s.size]
 | f + 1, from_, k => if (s.data.toList.getD k 0).toNat = b then s.extract from_ k :: cutF s b f (k + 1) (k + 1) else cutF s b f from_ (k + 1)
def cut (s : ByteArray) (b : Nat) : List ByteArray := cutF s b s.size 0 0
theorem cutF_hit {s : ByteArray} {b f from_ k : Nat} (h : k < s.size) (hb : s[k].toNat = b) : cutF s b (f + 1) from_ k = s.extract from_ k :: cutF s b f (k + 1) (k + 1) := by
 rw [cutF, zi0 s k h, if_pos hb]
theorem ya0 {s : ByteArray} {b f from_ k : Nat} (h : k < s.size) (hb : s[k].toNat ≠ b) : cutF s b (f + 1) from_ k = cutF s b f from_ (k + 1) := by
 rw [cutF, zi0 s k h, if_neg hb]
def names (s : ByteArray) : List ByteArray := if s.size = 0 then [] else cut s 47
def zb2 (s : ByteArray) : Bool := decide (s.size ≤ 200) && (names s).all zd9 && decide ((names s).length ≤ 6)
theorem zz4 {s : ByteArray} (h : 200 < s.size) : zb2 s = false := by simp [zb2]; omega
theorem pathB_bad {s : ByteArray} {k : Nat} {t : ByteArray} (h : (names s)[k]? = some t) (hb : zd9 t = false) : zb2 s = false := by
 have hm : t ∈ names s := List.mem_of_getElem? h
 have : (names s).all zd9 = false := by
  rw [List.all_eq_false]; exact ⟨t, hm, by simp [hb]⟩
 simp [zb2, this]
theorem pathB_good {s : ByteArray} (h : s.size ≤ 200) (ha : ∀ (j : Nat) t, (names s)[j]? = some t → zd9 t = true) : zb2 s = decide ((names s).length ≤ 6) := by
 have : (names s).all zd9 = true := by
  rw [List.all_eq_true]
  intro t ht
  obtain ⟨j, hj⟩ := List.mem_iff_getElem?.1 ht
  exact ha j t hj
 simp [zb2, this, h]
theorem yc (s : ByteArray) (b : Nat) : ∀ f fr k, (cutF s b f fr k).length ≤ f + 1 := by
 intro f
 induction f with
 | zero => intro fr k; simp [cutF]
 | succ f ih =>
  intro fr k
  rw [cutF]
  split
  ·have := ih (k + 1) (k + 1); simp; omega
  ·have := ih fr (k + 1); omega
theorem zu5 (s : ByteArray) : (names s).length ≤ s.size + 1 := by
 unfold names
 split
 ·simp
 ·exact yc s 47 s.size 0 0
theorem cutF_size (s : ByteArray) (b : Nat) : ∀ f fr k t, t ∈ cutF s b f fr k → t.size ≤ s.size := by
 intro f
 induction f with
 | zero => intro fr k t ht; simp [cutF] at ht; subst ht; simp
 | succ f ih =>
  intro fr k t ht
  rw [cutF] at ht
  split at ht
  ·rcases List.mem_cons.1 ht with rfl | ht
   ·simp; omega
   ·exact ih _ _ t ht
  ·exact ih _ _ t ht
theorem names_size {s : ByteArray} {k : Nat} {t : ByteArray} (h : (names s)[k]? = some t) : t.size ≤ s.size := by
 have hm : t ∈ names s := List.mem_of_getElem? h
 unfold names at hm
 split at hm
 ·simp at hm
 ·exact cutF_size s 47 _ _ _ t hm
def zd6 (s : ByteArray) : Nat → Int
 | 0 => -1
 | k + 1 => if (s.data.toList.getD k 0).toNat = 47 then (k : Int) else zd6 s k
theorem slash_hit {s : ByteArray} {k : Nat} (h : k < s.size) (hb : s[k].toNat = 47) : zd6 s (k + 1) = (k : Int) := by
 rw [zd6, zi0 s k h, if_pos hb]
theorem ye6 {s : ByteArray} {k : Nat} (h : k < s.size) (hb : s[k].toNat ≠ 47) : zd6 s (k + 1) = zd6 s k := by
 rw [zd6, zi0 s k h, if_neg hb]
theorem slash_lt (s : ByteArray) (k : Nat) : -1 ≤ zd6 s k ∧ zd6 s k < (k : Int) := by
 induction k with
 | zero => simp [zd6]
 | succ k ih =>
  rw [zd6]
  split <;> omega
def parent (s : ByteArray) : ByteArray := if zd6 s s.size < 0 then ⟨#[]⟩ else s.extract 0 (zd6 s s.size).toNat
end Pl
end Go.Proofs.YtioildojmckepaaGreatDoor

namespace Go.Proofs.YtioildojmckepaaGreatDoor
namespace Pl
structure Nd where
 path : ByteArray
 kind : Int
 data : ByteArray
 time : Int
 mark : Int
def Nd.cells (n : Nd) : List Value := [.string n.path, .int .i64 n.kind, .string n.data, .int .i64 n.time, .int .i64 n.mark]
def Nd.val (n : Nd) : Value := .agg #[.string n.path, .int .i64 n.kind, .string n.data, .int .i64 n.time, .int .i64 n.mark]
def zl6 (n : Nd) : Bool :=
 if n.kind = 0 then decide (n.data.size = 0) && decide (n.time = 0) && decide (1 ≤ n.mark)
 else if n.kind = 1 then decide (n.data.size = 0)
 else if n.kind = 2 then decide (n.mark = 0) else false
def zc1 (n : Nd) : Bool := decide (n.path.size ≠ 0) && zb2 n.path && decide (n.data.size ≤ 60) && decide (0 ≤ n.time ∧ n.time ≤ 1000000) && decide (0 ≤ n.mark ∧ n.mark ≤ 8) && zl6 n
theorem node_root {n : Nd} (h : n.path.size = 0) : zc1 n = false := by simp [zc1, h]
theorem node_path {n : Nd} (h : zb2 n.path = false) : zc1 n = false := by simp [zc1, h]
theorem node_data {n : Nd} (h : 60 < n.data.size) : zc1 n = false := by
 have : decide (n.data.size ≤ 60) = false := by simp; omega
 simp [zc1, this]
theorem node_time {n : Nd} (h : ¬ (0 ≤ n.time ∧ n.time ≤ 1000000)) : zc1 n = false := by
 have : decide (0 ≤ n.time ∧ n.time ≤ 1000000) = false := by simpa using h
 unfold zc1; rw [this]; simp
theorem node_mark {n : Nd} (h : ¬ (0 ≤ n.mark ∧ n.mark ≤ 8)) : zc1 n = false := by
 have : decide (0 ≤ n.mark ∧ n.mark ≤ 8) = false := by simpa using h
 unfold zc1; rw [this]; simp
theorem node_kind {n : Nd} (h0 : n.path.size ≠ 0) (h1 : zb2 n.path = true) (h2 : n.data.size ≤ 60) (h3 : 0 ≤ n.time ∧ n.time ≤ 1000000) (h4 : 0 ≤ n.mark ∧ n.mark ≤ 8) : zc1 n = zl6 n := by
 have e3 : decide (0 ≤ n.time ∧ n.time ≤ 1000000) = true := by simpa using h3
 have e4 : decide (0 ≤ n.mark ∧ n.mark ≤ 8) = true := by simpa using h4
 unfold zc1; rw [e3, e4]; simp [h0, h1, h2]
def zn0 (n : Nd) : Bool := decide (n.data.size ≤ 60) && decide (0 ≤ n.time ∧ n.time ≤ 1000000) && decide (0 ≤ n.mark ∧ n.mark ≤ 8) && zl6 n
theorem cont_data {n : Nd} (h : 60 < n.data.size) : zn0 n = false := by
 have : decide (n.data.size ≤ 60) = false := by simp; omega
 simp [zn0, this]
theorem cont_time {n : Nd} (h : ¬ (0 ≤ n.time ∧ n.time ≤ 1000000)) : zn0 n = false := by
 have : decide (0 ≤ n.time ∧ n.time ≤ 1000000) = false := by simpa using h
 unfold zn0; rw [this]; simp
theorem cont_mark {n : Nd} (h : ¬ (0 ≤ n.mark ∧ n.mark ≤ 8)) : zn0 n = false := by
 have : decide (0 ≤ n.mark ∧ n.mark ≤ 8) = false := by simpa using h
 unfold zn0; rw [this]; simp
theorem cont_kind {n : Nd} (h2 : n.data.size ≤ 60) (h3 : 0 ≤ n.time ∧ n.time ≤ 1000000) (h4 : 0 ≤ n.mark ∧ n.mark ≤ 8) : zn0 n = zl6 n := by
 have e3 : decide (0 ≤ n.time ∧ n.time ≤ 1000000) = true := by simpa using h3
 have e4 : decide (0 ≤ n.mark ∧ n.mark ≤ 8) = true := by simpa using h4
 unfold zn0; rw [e3, e4]; simp [h2]
theorem node_cont {n : Nd} (h0 : n.path.size ≠ 0) (h1 : zb2 n.path = true) : zc1 n = zn0 n := by
 unfold zc1 zn0; simp [h0, h1, Bool.and_assoc]
end Pl
end Go.Proofs.YtioildojmckepaaGreatDoor

namespace Go.Proofs.YtioildojmckepaaGreatDoor
namespace Pl
def by_ (t : ByteArray) : List UInt8 := t.data.toList
theorem zh {a b : ByteArray} (h : by_ a = by_ b) : a = b := by
 apply ByteArray.ext; exact Array.toList_inj.1 h
theorem zb9 (t : ByteArray) : (by_ t).length = t.size := Array.length_toList
theorem zn2 (t : ByteArray) (a b : Nat) : by_ (t.extract a b) = ((by_ t).drop a).take (b - a) := by
 simp [by_, ByteArray.data_extract, Array.toList_extract, List.extract]
theorem by_mk (l : List UInt8) : by_ ⟨l.toArray⟩ = l := by simp [by_]
def cutL : List UInt8 → List (List UInt8)
 | [] => [[]]
 | b :: l => if b = 47 then [] :: cutL l else match cutL l with | [] => [[b]] | h :: t => (b :: h) :: t
def zg0 : List (List UInt8) → List UInt8
 | [] => []
 | [a] => a
 | a :: b :: r => a ++ 47 :: zg0 (b :: r)
theorem cutL_ex (l : List UInt8) : ∃ h t, cutL l = h :: t := by
 induction l with
 | nil => exact ⟨_, _, rfl⟩
 | cons b l ih =>
  obtain ⟨h, t, e⟩ := ih
  rw [cutL]
  split
  ·exact ⟨_, _, rfl⟩
  ·rw [e]; exact ⟨_, _, rfl⟩
theorem zx6 (l : List UInt8) : cutL l ≠ [] := by obtain ⟨h, t, e⟩ := cutL_ex l; rw [e]; exact List.cons_ne_nil _ _
theorem zv8 (l : List UInt8) : cutL (47 :: l) = [] :: cutL l := by rw [cutL, if_pos rfl]
theorem zs1 {b : UInt8} {l h : List UInt8} {t : List (List UInt8)} (hb : b ≠ 47) (e : cutL l = h :: t) : cutL (b :: l) = (b :: h) :: t := by
 rw [cutL, if_neg hb, e]
theorem zp4 (a : List UInt8) {L : List (List UInt8)} (h : L ≠ []) : zg0 (a :: L) = a ++ 47 :: zg0 L := by
 cases L with
 | nil => exact absurd rfl h
 | cons b r => rw [zg0]
theorem glueL_push (b : UInt8) (h : List UInt8) (t : List (List UInt8)) : zg0 ((b :: h) :: t) = b :: zg0 (h :: t) := by
 cases t with
 | nil => simp [zg0]
 | cons c r => simp [zg0]
theorem glue_cutL (l : List UInt8) : zg0 (cutL l) = l := by
 induction l with
 | nil => rfl
 | cons b l ih =>
  by_cases hb : b = 47
  ·subst hb; rw [zv8, zp4 _ (zx6 l), ih]; rfl
  ·obtain ⟨h, t, e⟩ := cutL_ex l
   rw [zs1 hb e, glueL_push, ← e, ih]
theorem yb8 (a b : List UInt8) : cutL (a ++ 47 :: b) = cutL a ++ cutL b := by
 induction a with
 | nil => rw [List.nil_append, zv8]; rfl
 | cons c a ih =>
  by_cases hc : c = 47
  ·subst hc; rw [List.cons_append, zv8, ih, zv8]; rfl
  ·obtain ⟨h, t, e⟩ := cutL_ex a
   rw [List.cons_append, zs1 hc e, zs1 (t := t ++ cutL b) hc (by rw [ih, e]; rfl)]
   rfl
theorem zx0 {a : List UInt8} (h : (47 : UInt8) ∉ a) : cutL a = [a] := by
 induction a with
 | nil => rfl
 | cons c a ih =>
  rw [List.mem_cons, not_or] at h
  rw [zs1 (fun e => h.1 e.symm) (ih h.2)]
theorem cut_glueL {L : List (List UInt8)} (h0 : L ≠ []) (h : ∀ t ∈ L, (47 : UInt8) ∉ t) : cutL (zg0 L) = L := by
 induction L with
 | nil => exact absurd rfl h0
 | cons a L ih =>
  by_cases hL : L = []
  ·subst hL; exact zx0 (h a List.mem_cons_self)
  ·rw [zp4 a hL, yb8, zx0 (h a List.mem_cons_self), ih hL (fun t ht => h t (List.mem_cons_of_mem _ ht))]
   rfl
theorem zv1 {A B : List (List UInt8)} (hA : A ≠ []) (hB : B ≠ []) : zg0 (A ++ B) = zg0 A ++ 47 :: zg0 B := by
 induction A with
 | nil => exact absurd rfl hA
 | cons a A ih =>
  by_cases h : A = []
  ·subst h; exact zp4 a hB
  ·rw [List.cons_append, zp4 a (by simp [h]), ih h, zp4 a h]; simp

theorem cutF_list (s : ByteArray) : ∀ f fr k, f + k = s.size → fr ≤ k → ∃ h t, cutL ((by_ s).drop k) = h :: t ∧ (cutF s 47 f fr k).map by_ = (((by_ s).drop fr).take (k - fr) ++ h) :: t := by
 intro f
 induction f with
 | zero =>
  intro fr k hk hfr
  refine ⟨[], [], ?_, ?_⟩
  ·rw [List.drop_of_length_le (by rw [zb9]; omega)]; rfl
  ·rw [cutF, List.map_cons, List.map_nil, zn2, List.append_nil]
   obtain rfl : k = s.size := by omega
   rfl
 | succ f ih =>
  intro fr k hk hfr
  have hlt : k < s.size := by omega
  have hlt' : k < (by_ s).length := by rw [zb9]; exact hlt
  have hd : (by_ s).drop k = s[k] :: (by_ s).drop (k + 1) := by
   rw [List.drop_eq_getElem_cons hlt']; rfl
  by_cases hb : s[k].toNat = 47
  ·obtain ⟨h, t, e1, e2⟩ := ih (k + 1) (k + 1) (by omega) (Nat.le_refl _)
   have hb' : s[k] = 47 := UInt8.toNat_inj.1 hb
   refine ⟨[], cutL ((by_ s).drop (k + 1)), ?_, ?_⟩
   ·rw [hd, hb', zv8]
   ·rw [cutF_hit hlt hb, List.map_cons, e2, zn2, e1]
    simp
  ·obtain ⟨h, t, e1, e2⟩ := ih fr (k + 1) (by omega) (by omega)
   have hb' : s[k] ≠ 47 := fun e => hb (by rw [e]; rfl)
   refine ⟨s[k] :: h, t, ?_, ?_⟩
   ·rw [hd, zs1 hb' e1]
   ·rw [ya0 hlt hb, e2]
    congr 1
    have : k + 1 - fr = (k - fr) + 1 := by omega
    rw [this, List.take_add_one, List.getElem?_drop, Nat.add_sub_cancel' hfr, List.getElem?_eq_getElem hlt']
    simp [by_]
    rfl
theorem cut_list (s : ByteArray) : (cut s 47).map by_ = cutL (by_ s) := by
 obtain ⟨h, t, e1, e2⟩ := cutF_list s s.size 0 0 (by omega) (Nat.le_refl _)
 rw [cut, e2]
 rw [List.drop_zero] at e1
 rw [e1]; simp
def zk5 (l : List UInt8) : List (List UInt8) := if l = [] then [] else cutL l
theorem zg2 {s : ByteArray} : by_ s = [] ↔ s.size = 0 := by rw [← zb9, List.length_eq_zero_iff]
theorem zk1 (s : ByteArray) : (names s).map by_ = zk5 (by_ s) := by
 unfold names zk5
 by_cases h : s.size = 0
 ·rw [if_pos h, if_pos (zg2.2 h)]; rfl
 ·rw [if_neg h, if_neg (fun e => h (zg2.1 e)), cut_list]
theorem zl2 (l : List UInt8) : zg0 (zk5 l) = l := by
 unfold zk5; split
 ·subst_vars; rfl
 ·exact glue_cutL l
def glue (ts : List ByteArray) : ByteArray := ⟨(zg0 (ts.map by_)).toArray⟩
theorem zq (ts : List ByteArray) : by_ (glue ts) = zg0 (ts.map by_) := by_mk _
theorem map_by_inj {A B : List ByteArray} (h : A.map by_ = B.map by_) : A = B := by
 induction A generalizing B with
 | nil => cases B with
  | nil => rfl
  | cons => simp at h
 | cons a A ih => cases B with
  | nil => simp at h
  | cons b B => simp at h; rw [zh h.1, ih h.2]
theorem yd5 (s : ByteArray) : glue (names s) = s := by
 apply zh; rw [zq, zk1, zl2]
theorem zo1 {t : ByteArray} (h : zd9 t = true) : (47 : UInt8) ∉ by_ t ∧ by_ t ≠ [] ∧ 1 ≤ t.size ∧ t.size ≤ 20 := by
 have h' := of_decide_eq_true h
 refine ⟨fun hm => ?_, fun e => ?_, h'.1, h'.2.1⟩
 ·obtain ⟨j, hj, e⟩ := List.getElem_of_mem hm
  have hj' : j < t.size := by rw [← zb9]; exact hj
  have ho := h'.2.2 j hj'
  have e2 : t.data.toList.getD j 0 = 47 := by
   rw [zi0 t j hj']; exact e
  rw [e2] at ho
  simp [okAt] at ho
 ·have := zg2.1 e; omega
theorem names_glue {L : List ByteArray} (h : ∀ t ∈ L, zd9 t = true) : names (glue L) = L := by
 apply map_by_inj
 rw [zk1, zq]
 cases L with
 | nil => rfl
 | cons a L =>
  have hne : zg0 ((a :: L).map by_) ≠ [] := by
   have ha := (zo1 (h a List.mem_cons_self)).2.1
   cases L with
   | nil => exact ha
   | cons b L => simp [zg0]
  rw [zk5, if_neg hne]
  apply cut_glueL (by simp)
  intro t ht
  obtain ⟨u, hu, rfl⟩ := List.mem_map.1 ht
  exact (zo1 (h u hu)).1
theorem glueL_le (L : List ByteArray) (h : ∀ t ∈ L, t.size ≤ 20) : (zg0 (L.map by_)).length ≤ 21 * L.length := by
 induction L with
 | nil => simp [zg0]
 | cons a L ih =>
  have ha := h a List.mem_cons_self
  have ih := ih (fun t ht => h t (List.mem_cons_of_mem _ ht))
  cases L with
  | nil => simp [zg0, zb9]; omega
  | cons b L =>
   simp only [List.map_cons, zg0, List.length_append, List.length_cons, zb9] at ih ⊢
   omega
theorem zw3 (L : List ByteArray) (h : ∀ t ∈ L, t.size ≤ 20) : (glue L).size ≤ 21 * L.length := by
 rw [← zb9, zq]; exact glueL_le L h
theorem yb2 {s : ByteArray} (h : zb2 s = true) : (∀ t ∈ names s, zd9 t = true) ∧ (names s).length ≤ 6 := by
 simp [zb2] at h
 exact ⟨h.1.2, h.2⟩
theorem zx1 {s : ByteArray} : zb2 s = ((names s).all zd9 && decide ((names s).length ≤ 6)) := by
 by_cases h : s.size ≤ 200
 ·simp [zb2, h]
 ·have h1 : zb2 s = false := zz4 (by omega)
  rw [h1]
  by_cases h2 : (names s).all zd9 = true
  ·have h3 := List.all_eq_true.1 h2
   have hs := zw3 (names s) (fun t ht => (zo1 (h3 t ht)).2.2.2)
   rw [yd5] at hs
   simp; intro _; omega
  ·simp at h2; simp; intro h4; obtain ⟨x, hx, hy⟩ := h2; exact absurd (h4 x hx) (by simp [hy])
end Pl
end Go.Proofs.YtioildojmckepaaGreatDoor

