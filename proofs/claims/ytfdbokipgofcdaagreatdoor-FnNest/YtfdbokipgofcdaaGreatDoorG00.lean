/- Several texts of one claim in one file: Plain, PlainPath, PlainNode, Kit, PlainGlue, PlainR, PlainLess, PlainPar, PlainTree. -/
import Derived.Laws.BitsAllLaws
import Derived.WalkKit
import Derived.Laws.IdiomStrings
import Derived.Below
namespace Go.Proofs.YtfdbokipgofcdaaGreatDoor
namespace Pl

def encF : Nat → Nat → List UInt8
 | 0, u => [UInt8.ofNat u]
 | f + 1, u => if u < 128 then [UInt8.ofNat u] else UInt8.ofNat (u % 128 + 128) :: encF f (u / 128)
def enc (u : Nat) : List UInt8 := encF u u
theorem encF_same (n : Nat) : ∀ u f g, u ≤ n → u ≤ f → u ≤ g → encF f u = encF g u := by
 induction n with
 | zero =>
  intro u f g hu _ _
  obtain rfl : u = 0 := by omega
  cases f <;> cases g <;> simp [encF]
 | succ n ih =>
  intro u f g hu hf hg
  by_cases h : u < 128
  ·cases f <;> cases g <;> simp [encF, h]
  ·obtain ⟨f, rfl⟩ : ∃ f', f = f' + 1 := ⟨f - 1, by omega⟩
   obtain ⟨g, rfl⟩ : ∃ g', g = g' + 1 := ⟨g - 1, by omega⟩
   rw [encF, encF, if_neg h, if_neg h, ih (u / 128) f g (by omega) (by omega) (by omega)]

theorem zm2 {u : Nat} (h : u < 128) : enc u = [UInt8.ofNat u] := by
 unfold enc
 cases u with
 | zero => rfl
 | succ u => rw [encF, if_pos h]
theorem yf8 {u : Nat} (h : 128 ≤ u) : enc u = UInt8.ofNat (u % 128 + 128) :: enc (u / 128) := by
 obtain ⟨f, hf⟩ : ∃ f, u = f + 1 := ⟨u - 1, by omega⟩
 have e : encF u u = UInt8.ofNat (u % 128 + 128) :: encF f (u / 128) := by
  rw [show encF u u = encF (f + 1) u by rw [← hf], encF, if_neg (Nat.not_lt.2 h)]
 unfold enc
 rw [e, encF_same f (u / 128) f (u / 128) (by omega) (by omega) (Nat.le_refl _)]

def zr5 (u : Nat) : Nat → List UInt8
 | 0 => []
 | k + 1 => zr5 u k ++ [UInt8.ofNat (u / 128 ^ k % 128 + 128)]
theorem zm4 (u k : Nat) : (zr5 u k).length = k := by
 induction k with
 | zero => rfl
 | succ k ih => simp [zr5, ih]
theorem enc_split (u k : Nat) (h : ∀ j, j < k → 128 ≤ u / 128 ^ j) : enc u = zr5 u k ++ enc (u / 128 ^ k) := by
 induction k with
 | zero => simp [zr5]
 | succ k ih =>
  rw [ih (fun j hj => h j (by omega)), yf8 (h k (by omega)), zr5, Nat.div_div_eq_div_mul, Nat.pow_succ]
  simp

theorem zo1 (n : Nat) : ∀ u, u < 128 ^ n → (enc u).length ≤ n + 1 := by
 induction n with
 | zero => intro u hu; rw [zm2 (by omega)]; simp
 | succ n ih =>
  intro u hu
  by_cases h : u < 128
  ·rw [zm2 h]; simp
  ·rw [yf8 (by omega), List.length_cons]
   have := ih (u / 128) (by rw [Nat.pow_succ] at hu; exact Nat.div_lt_of_lt_mul (by rw [Nat.mul_comm]; exact hu))
   omega

def fold (n : Int) : Nat := if n < 0 then (-2 * n - 1).toNat else (2 * n).toNat

structure zp2 (u k X : Nat) (C : Array Value) : Prop where
 rest : X = u / 128 ^ k
 big : ∀ j, j < k → 128 ≤ u / 128 ^ j
 cell : ∀ j, j < k → C[j]? = some (.int .u8 ((u / 128 ^ j % 128 + 128 : Nat) : Int))
theorem zp2.start (u : Nat) (C : Array Value) : zp2 u 0 u C := ⟨by simp, fun _ h => absurd h (by omega), fun _ h => absurd h (by omega)⟩
theorem lt_nine {u k X : Nat} (h3 : X = u / 128 ^ k) (hX : 128 ≤ X) (hu : u < 18446744073709551616) : k < 9 := by
 rcases Nat.lt_or_ge k 9 with h9 | h9
 ·exact h9
 ·have h1 : 128 ^ 9 ≤ 128 ^ k := Nat.pow_le_pow_right (by omega) h9
  have h2 : u / 128 ^ k ≤ u / 128 ^ 9 := Nat.div_le_div_left h1 (by decide)
  have h4 : u / 128 ^ 9 < 2 := by omega
  omega
theorem zp2.lt {u k X : Nat} {C : Array Value} (h : zp2 u k X C) (hX : 128 ≤ X) (hu : u < 18446744073709551616) : k < 9 := lt_nine h.rest hX hu
theorem zp2.step {u k X : Nat} {C : Array Value} (h : zp2 u k X C) (hX : 128 ≤ X) (hk : k < C.size) :
  zp2 u (k + 1) (X / 128) (C.setIfInBounds k (.int .u8 ((X % 128 + 128 : Nat) : Int))) := by
 refine ⟨?_, ?_, ?_⟩
 ·rw [h.rest, Nat.div_div_eq_div_mul, Nat.pow_succ]
 ·intro j hj
  rcases Nat.lt_succ_iff_lt_or_eq.1 hj with h' | rfl
  ·exact h.big j h'
  ·rw [← h.rest]; exact hX
 ·intro j hj
  rcases Nat.lt_succ_iff_lt_or_eq.1 hj with h' | rfl
  ·rw [Array.getElem?_setIfInBounds_ne (by omega)]; exact h.cell j h'
  ·rw [Array.getElem?_setIfInBounds_self_of_lt hk, h.rest]

theorem encTo_get (u k j : Nat) (h : j < k) : (zr5 u k)[j]? = some (UInt8.ofNat (u / 128 ^ j % 128 + 128)) := by
 induction k with
 | zero => omega
 | succ k ih =>
  rw [zr5]
  rcases Nat.lt_succ_iff_lt_or_eq.1 h with h' | rfl
  ·rw [List.getElem?_append_left (by rw [zm4]; exact h')]; exact ih h'
  ·rw [List.getElem?_append_right (by rw [zm4]; exact Nat.le_refl _), zm4]; simp
theorem zp2.enc {u k X : Nat} {C : Array Value} (h : zp2 u k X C) (hX : X < 128) : enc u = zr5 u k ++ [UInt8.ofNat X] := by
 rw [enc_split u k h.big, ← h.rest, zm2 hX]
theorem zp2.length {u k X : Nat} {C : Array Value} (h : zp2 u k X C) (hX : X < 128) : (Pl.enc u).length = k + 1 := by
 rw [h.enc hX]; simp [zm4]
theorem zp2.bytes {u k X : Nat} {C : Array Value} (h : zp2 u k X C) (hX : X < 128) (hk : k < C.size) (j : Nat) (hj : j < (Pl.enc u).length) :
  (C.setIfInBounds k (.int .u8 (X : Int)))[j]? = some (.int .u8 ((Pl.enc u)[j].toNat : Int)) := by
 have hl := h.length hX
 have hg : (Pl.enc u)[j]? = some (Pl.enc u)[j] := List.getElem?_eq_getElem hj
 generalize (Pl.enc u)[j] = b at hg ⊢
 rw [h.enc hX] at hg
 rcases Nat.lt_or_ge j k with hjk | hjk
 ·rw [List.getElem?_append_left (by rw [zm4]; exact hjk), encTo_get u k j hjk] at hg
  have hg := (Option.some.inj hg).symm
  rw [Array.getElem?_setIfInBounds_ne (by omega), h.cell j hjk]
  subst hg
  simp [UInt8.toNat_ofNat']
  omega
 ·obtain rfl : j = k := by omega
  rw [List.getElem?_append_right (by rw [zm4]; exact Nat.le_refl _), zm4] at hg
  have hg : UInt8.ofNat X = b := by simpa using hg
  rw [Array.getElem?_setIfInBounds_self_of_lt hk]
  subst hg
  simp [UInt8.toNat_ofNat']
  omega

def ze6 (b : UInt8) : Value := .int .u8 (b.toNat : Int)
structure zo (u k X : Nat) : Prop where
 rest : X = u / 128 ^ k
 big : ∀ j, j < k → 128 ≤ u / 128 ^ j
theorem zo.start (u : Nat) : zo u 0 u := ⟨by simp, fun _ h => absurd h (by omega)⟩
theorem zo.lt {u k X : Nat} (h : zo u k X) (hX : 128 ≤ X) (hu : u < 18446744073709551616) : k < 9 := lt_nine h.rest hX hu
theorem zo.step {u k X : Nat} (h : zo u k X) (hX : 128 ≤ X) : zo u (k + 1) (X / 128) := by
 refine ⟨?_, ?_⟩
 ·rw [h.rest, Nat.div_div_eq_div_mul, Nat.pow_succ]
 ·intro j hj
  rcases Nat.lt_succ_iff_lt_or_eq.1 hj with h' | rfl
  ·exact h.big j h'
  ·rw [← h.rest]; exact hX
theorem zo.enc {u k X : Nat} (h : zo u k X) (hX : X < 128) : Pl.enc u = zr5 u k ++ [UInt8.ofNat X] := by
 rw [enc_split u k h.big, ← h.rest, zm2 hX]
theorem zo.cells {u k X : Nat} (h : zo u k X) : (zr5 u k).map ze6 ++ [.int .u8 ((X : Int) % 128 + 128)] = (zr5 u (k + 1)).map ze6 := by
 rw [zr5, List.map_append, ← h.rest]
 congr 1
 simp [ze6, UInt8.toNat_ofNat']
 omega
theorem zo.last {u k X : Nat} (h : zo u k X) (hX : X < 128) : (zr5 u k).map ze6 ++ [.int .u8 (X : Int)] = (Pl.enc u).map ze6 := by
 rw [h.enc hX, List.map_append]
 congr 1
 simp [ze6, UInt8.toNat_ofNat']
 omega
theorem zo.length {u k X : Nat} (h : zo u k X) (hX : X < 128) : (Pl.enc u).length = k + 1 := by rw [h.enc hX]; simp [zm4]

theorem fold_neg {n : Int} (h : n < 0) : (fold n : Int) = -2 * n - 1 := by rw [fold, if_pos h]; omega
theorem zq9 {n : Int} (h : 0 ≤ n) : (fold n : Int) = 2 * n := by rw [fold, if_neg (by omega)]; omega
theorem yf9 {n : Int} (h1 : -9223372036854775808 ≤ n) (h2 : n ≤ 9223372036854775807) : fold n < 18446744073709551616 := by
 by_cases h : n < 0
 ·have := fold_neg h; omega
 ·have := zq9 (n := n) (by omega); omega
theorem turned64 (a : Nat) (h : a < 18446744073709551616) : a ^^^ 18446744073709551615 = 18446744073709551615 - a := by
 have h1 : (18446744073709551615 : Nat) - a = 2 ^ 64 - (a + 1) := by omega
 rw [h1]
 apply Nat.eq_of_testBit_eq
 intro i
 rw [Nat.testBit_two_pow_sub_succ h, Nat.testBit_xor]
 have h2 : (18446744073709551615 : Nat) = 2 ^ 64 - 1 := rfl
 rw [h2, Nat.testBit_two_pow_sub_one]
 by_cases hi : i < 64
 ·simp [hi]
 ·have : a.testBit i = false := Nat.testBit_lt_two_pow (Nat.lt_of_lt_of_le h (by
   have : (18446744073709551616 : Nat) = 2 ^ 64 := rfl
   rw [this]; exact Nat.pow_le_pow_right (by omega) (by omega)))
  simp [hi, this]
theorem not64_form (R : Nat) (hR : R < 18446744073709551616) : bits .xor .u64 IntKind.u64.max (R : Int) = ((18446744073709551615 - R : Nat) : Int) := by
 have h := u64_xor_nat 18446744073709551615 R (by omega) hR
 rw [Nat.xor_comm, turned64 R hR] at h
 exact h
theorem foldNot_form (n : Int) (h1 : -9223372036854775808 ≤ n) (h2 : n < 0) :
  bits .xor .u64 IntKind.u64.max (IntKind.u64.wrap (IntKind.u64.wrap n * 2)) = (fold n : Int) := by
 have e : IntKind.u64.wrap (IntKind.u64.wrap n * 2) = ((2 * n + 18446744073709551616).toNat : Int) := by
  rw [IntKind.wrap_u64, IntKind.wrap_u64]; omega
 rw [e, not64_form _ (by omega), fold_neg h2]
 omega
theorem low7_form (u : Nat) (h : u < 18446744073709551616) : bits .and .u64 (u : Int) 127 = ((u % 128 : Nat) : Int) := by
 have h4 := u64_and_nat u 127 h (by omega)
 have h5 := Nat.and_two_pow_sub_one_eq_mod u 7
 have e : (2 ^ 7 - 1 : Nat) = 127 := rfl
 rw [e] at h5
 rw [h5] at h4
 exact h4

def tot (ts : List ByteArray) : Nat := (ts.map ByteArray.size).sum
def cat (ts : List ByteArray) : List UInt8 := (ts.map fun t => t.data.toList).flatten
theorem ye4 (ts : List ByteArray) : (cat ts).length = tot ts := by
 induction ts with
 | nil => rfl
 | cons t ts ih =>
  have h1 : (cat (t :: ts)).length = t.data.toList.length + (cat ts).length := by simp [cat]
  have h2 : tot (t :: ts) = t.size + tot ts := by simp [tot]
  rw [h1, h2, ih]; rfl
theorem tot_snoc (ts : List ByteArray) (k : Nat) (t : ByteArray) (h : ts[k]? = some t) : tot (ts.take (k + 1)) = tot (ts.take k) + t.size := by
 rw [List.take_add_one, h]; simp [tot]
theorem cat_snoc (ts : List ByteArray) (k : Nat) (t : ByteArray) (h : ts[k]? = some t) : cat (ts.take (k + 1)) = cat (ts.take k) ++ t.data.toList := by
 rw [List.take_add_one, h]; simp [cat]
theorem tot_le (ts : List ByteArray) (k : Nat) : tot (ts.take k) ≤ tot ts := by
 have h : tot ts = tot (ts.take k) + tot (ts.drop k) := by
  have e : ∀ a b : List ByteArray, tot (a ++ b) = tot a + tot b := fun a b => by simp [tot]
  have := e (ts.take k) (ts.drop k)
  rwa [List.take_append_drop] at this
 omega
theorem cat_two (a b : ByteArray) : cat [a, b] = a.data.toList ++ b.data.toList := by simp [cat]
theorem cat_one (a : ByteArray) : cat [a] = a.data.toList := by simp [cat]
theorem tot_two (a b : ByteArray) : tot [a, b] = a.size + b.size := by simp [tot]
theorem tot_one (a : ByteArray) : tot [a] = a.size := by simp [tot]
theorem yu (a : List UInt8) (s : ByteArray) : (⟨a.toArray⟩ : ByteArray) ++ s = ⟨(a ++ s.data.toList).toArray⟩ := by
 apply ByteArray.ext
 simp
theorem part_step {ts : List ByteArray} {k : Nat} {t : ByteArray} {cur : Array Value} (h : ts[k]? = some t)
  (hp : cur.toList.take (tot (ts.take k)) = (cat (ts.take k)).map ze6) :
  (cur.toList.take (tot (ts.take k)) ++ t.data.toList.map ze6 ++ cur.toList.drop (tot (ts.take k) + t.size)).toArray.toList.take (tot (ts.take (k + 1))) = (cat (ts.take (k + 1))).map ze6 := by
 have hl : (cat (ts.take (k + 1))).length = tot (ts.take (k + 1)) := ye4 _
 rw [hp, ← List.map_append, ← cat_snoc ts k t h, List.take_append_of_le_length (by rw [List.length_map, hl]; exact Nat.le_refl _), List.take_of_length_le (by rw [List.length_map, hl]; exact Nat.le_refl _)]

def four (n : Nat) : List UInt8 := [UInt8.ofNat n, UInt8.ofNat (n / 256), UInt8.ofNat (n / 65536), UInt8.ofNat (n / 16777216)]
theorem take_snoc (s : ByteArray) (k : Nat) (h : k < s.size) : s.data.toList.take (k + 1) = s.data.toList.take k ++ [s[k]] := by
 rw [List.take_succ_eq_append_getElem (by simpa using h)]; rfl

abbrev okAt (j n : Nat) : Prop := (97 ≤ n ∧ n ≤ 122) ∨ (j ≠ 0 ∧ ((48 ≤ n ∧ n ≤ 57) ∨ n = 95))
def zf5 (s : ByteArray) : Bool := decide (1 ≤ s.size ∧ s.size ≤ 20 ∧ ∀ j, j < s.size → okAt j ((s.data.toList.getD j 0).toNat))
theorem zm0 (s : ByteArray) (k : Nat) (h : k < s.size) : s.data.toList.getD k 0 = s[k] := by
 have h' : k < s.data.size := h
 simp only [List.getD, Array.getElem?_toList]
 rw [Array.getElem?_eq_getElem h']
 rfl
theorem yt4 {s : ByteArray} (h : s.size < 1) : zf5 s = false := decide_eq_false (by omega)
theorem yw3 {s : ByteArray} (h : 20 < s.size) : zf5 s = false := decide_eq_false (by omega)
theorem yb7 {s : ByteArray} (k : Nat) (h : k < s.size) (hb : ¬ okAt k s[k].toNat) : zf5 s = false :=
 decide_eq_false (fun ⟨_, _, ha⟩ => hb (by have := ha k h; rwa [zm0 s k h] at this))
theorem yw8 {s : ByteArray} (h1 : ¬ s.size < 1) (h2 : ¬ 20 < s.size) (h : ∀ j, j < s.size → okAt j ((s.data.toList.getD j 0).toNat)) : zf5 s = true :=
 decide_eq_true ⟨by omega, by omega, h⟩
theorem yk1 {s : ByteArray} {k : Nat} (h : ∀ j, j < k → okAt j ((s.data.toList.getD j 0).toNat)) (hk : k < s.size) (ho : okAt k s[k].toNat) :
  ∀ j, j < k + 1 → okAt j ((s.data.toList.getD j 0).toNat) := by
 intro j hj
 rcases Nat.lt_succ_iff_lt_or_eq.1 hj with h' | rfl
 ·exact h j h'
 ·rw [zm0 s j hk]; exact ho

theorem kinds (n : Int) : (97 ≤ n ∧ n ≤ 122) ∨ (¬ 97 ≤ n ∧ 48 ≤ n ∧ n ≤ 57 ∧ (n != 95) = true) ∨ (¬ 97 ≤ n ∧ 48 ≤ n ∧ ¬ n ≤ 57 ∧ (n != 95) = true) ∨
  (¬ 97 ≤ n ∧ 48 ≤ n ∧ ¬ n ≤ 57 ∧ (n != 95) = false) ∨ (¬ 97 ≤ n ∧ ¬ 48 ≤ n ∧ (n != 95) = true) ∨ (97 ≤ n ∧ ¬ n ≤ 122 ∧ 48 ≤ n ∧ ¬ n ≤ 57 ∧ (n != 95) = true) := by
 simp only [bne_iff_ne, ne_eq, bne_eq_false_iff_eq]
 omega

end Pl
end Go.Proofs.YtfdbokipgofcdaaGreatDoor

namespace Go.Proofs.YtfdbokipgofcdaaGreatDoor
namespace Pl
def cutF (s : ByteArray) (b : Nat) : Nat → Nat → Nat → List ByteArray
 | 0, from_, _ => [s.extract from_ s.size]
 | f + 1, from_, k => if (s.data.toList.getD k 0).toNat = b then s.extract from_ k :: cutF s b f (k + 1) (k + 1) else cutF s b f from_ (k + 1)
def cut (s : ByteArray) (b : Nat) : List ByteArray := cutF s b s.size 0 0
theorem cutF_hit {s : ByteArray} {b f from_ k : Nat} (h : k < s.size) (hb : s[k].toNat = b) : cutF s b (f + 1) from_ k = s.extract from_ k :: cutF s b f (k + 1) (k + 1) := by
 rw [cutF, zm0 s k h, if_pos hb]
theorem yq9 {s : ByteArray} {b f from_ k : Nat} (h : k < s.size) (hb : s[k].toNat ≠ b) : cutF s b (f + 1) from_ k = cutF s b f from_ (k + 1) := by
 rw [cutF, zm0 s k h, if_neg hb]
def names (s : ByteArray) : List ByteArray := if s.size = 0 then [] else cut s 47
def za5 (s : ByteArray) : Bool := decide (s.size ≤ 200) && (names s).all zf5 && decide ((names s).length ≤ 6)
theorem yn0 {s : ByteArray} (h : 200 < s.size) : za5 s = false := by simp [za5]; omega
theorem pathB_bad {s : ByteArray} {k : Nat} {t : ByteArray} (h : (names s)[k]? = some t) (hb : zf5 t = false) : za5 s = false := by
 have hm : t ∈ names s := List.mem_of_getElem? h
 have : (names s).all zf5 = false := by
  rw [List.all_eq_false]; exact ⟨t, hm, by simp [hb]⟩
 simp [za5, this]
theorem pathB_good {s : ByteArray} (h : s.size ≤ 200) (ha : ∀ (j : Nat) t, (names s)[j]? = some t → zf5 t = true) : za5 s = decide ((names s).length ≤ 6) := by
 have : (names s).all zf5 = true := by
  rw [List.all_eq_true]
  intro t ht
  obtain ⟨j, hj⟩ := List.mem_iff_getElem?.1 ht
  exact ha j t hj
 simp [za5, this, h]
theorem ys8 (s : ByteArray) (b : Nat) : ∀ f fr k, (cutF s b f fr k).length ≤ f + 1 := by
 intro f
 induction f with
 | zero => intro fr k; simp [cutF]
 | succ f ih =>
  intro fr k
  rw [cutF]
  split
  ·have := ih (k + 1) (k + 1); simp; omega
  ·have := ih fr (k + 1); omega
theorem yg (s : ByteArray) : (names s).length ≤ s.size + 1 := by
 unfold names
 split
 ·simp
 ·exact ys8 s 47 s.size 0 0
theorem cutF_size (s : ByteArray) (b : Nat) : ∀ f fr k t, t ∈ cutF s b f fr k → t.size ≤ s.size := by
 intro f
 induction f with
 | zero => intro fr k t ht; simp [cutF] at ht; subst ht; simp
 | succ f ih =>
  intro fr k t ht
  rw [cutF] at ht
  split at ht
  ·rcases List.mem_cons.1 ht with rfl | ht
   ·simp; omega
   ·exact ih _ _ t ht
  ·exact ih _ _ t ht
theorem names_size {s : ByteArray} {k : Nat} {t : ByteArray} (h : (names s)[k]? = some t) : t.size ≤ s.size := by
 have hm : t ∈ names s := List.mem_of_getElem? h
 unfold names at hm
 split at hm
 ·simp at hm
 ·exact cutF_size s 47 _ _ _ t hm
def zf3 (s : ByteArray) : Nat → Int
 | 0 => -1
 | k + 1 => if (s.data.toList.getD k 0).toNat = 47 then (k : Int) else zf3 s k
theorem slash_hit {s : ByteArray} {k : Nat} (h : k < s.size) (hb : s[k].toNat = 47) : zf3 s (k + 1) = (k : Int) := by
 rw [zf3, zm0 s k h, if_pos hb]
theorem yw9 {s : ByteArray} {k : Nat} (h : k < s.size) (hb : s[k].toNat ≠ 47) : zf3 s (k + 1) = zf3 s k := by
 rw [zf3, zm0 s k h, if_neg hb]
theorem slash_lt (s : ByteArray) (k : Nat) : -1 ≤ zf3 s k ∧ zf3 s k < (k : Int) := by
 induction k with
 | zero => simp [zf3]
 | succ k ih =>
  rw [zf3]
  split <;> omega
def parent (s : ByteArray) : ByteArray := if zf3 s s.size < 0 then ⟨#[]⟩ else s.extract 0 (zf3 s s.size).toNat
end Pl
end Go.Proofs.YtfdbokipgofcdaaGreatDoor

namespace Go.Proofs.YtfdbokipgofcdaaGreatDoor
namespace Pl
structure Nd where
 path : ByteArray
 kind : Int
 data : ByteArray
 time : Int
 mark : Int
def Nd.cells (n : Nd) : List Value := [.string n.path, .int .i64 n.kind, .string n.data, .int .i64 n.time, .int .i64 n.mark]
def Nd.val (n : Nd) : Value := .agg #[.string n.path, .int .i64 n.kind, .string n.data, .int .i64 n.time, .int .i64 n.mark]
def zm5 (n : Nd) : Bool :=
 if n.kind = 0 then decide (n.data.size = 0) && decide (n.time = 0) && decide (1 ≤ n.mark)
 else if n.kind = 1 then decide (n.data.size = 0)
 else if n.kind = 2 then decide (n.mark = 0) else false
def zb6 (n : Nd) : Bool := decide (n.path.size ≠ 0) && za5 n.path && decide (n.data.size ≤ 60) && decide (0 ≤ n.time ∧ n.time ≤ 1000000) && decide (0 ≤ n.mark ∧ n.mark ≤ 8) && zm5 n
theorem node_root {n : Nd} (h : n.path.size = 0) : zb6 n = false := by simp [zb6, h]
theorem node_path {n : Nd} (h : za5 n.path = false) : zb6 n = false := by simp [zb6, h]
theorem node_data {n : Nd} (h : 60 < n.data.size) : zb6 n = false := by
 have : decide (n.data.size ≤ 60) = false := by simp; omega
 simp [zb6, this]
theorem node_time {n : Nd} (h : ¬ (0 ≤ n.time ∧ n.time ≤ 1000000)) : zb6 n = false := by
 have : decide (0 ≤ n.time ∧ n.time ≤ 1000000) = false := by simpa using h
 unfold zb6; rw [this]; simp
theorem node_mark {n : Nd} (h : ¬ (0 ≤ n.mark ∧ n.mark ≤ 8)) : zb6 n = false := by
 have : decide (0 ≤ n.mark ∧ n.mark ≤ 8) = false := by simpa using h
 unfold zb6; rw [this]; simp
theorem node_kind {n : Nd} (h0 : n.path.size ≠ 0) (h1 : za5 n.path = true) (h2 : n.data.size ≤ 60) (h3 : 0 ≤ n.time ∧ n.time ≤ 1000000) (h4 : 0 ≤ n.mark ∧ n.mark ≤ 8) : zb6 n = zm5 n := by
 have e3 : decide (0 ≤ n.time ∧ n.time ≤ 1000000) = true := by simpa using h3
 have e4 : decide (0 ≤ n.mark ∧ n.mark ≤ 8) = true := by simpa using h4
 unfold zb6; rw [e3, e4]; simp [h0, h1, h2]
def zv7 (n : Nd) : Bool := decide (n.data.size ≤ 60) && decide (0 ≤ n.time ∧ n.time ≤ 1000000) && decide (0 ≤ n.mark ∧ n.mark ≤ 8) && zm5 n
theorem cont_data {n : Nd} (h : 60 < n.data.size) : zv7 n = false := by
 have : decide (n.data.size ≤ 60) = false := by simp; omega
 simp [zv7, this]
theorem cont_time {n : Nd} (h : ¬ (0 ≤ n.time ∧ n.time ≤ 1000000)) : zv7 n = false := by
 have : decide (0 ≤ n.time ∧ n.time ≤ 1000000) = false := by simpa using h
 unfold zv7; rw [this]; simp
theorem cont_mark {n : Nd} (h : ¬ (0 ≤ n.mark ∧ n.mark ≤ 8)) : zv7 n = false := by
 have : decide (0 ≤ n.mark ∧ n.mark ≤ 8) = false := by simpa using h
 unfold zv7; rw [this]; simp
theorem cont_kind {n : Nd} (h2 : n.data.size ≤ 60) (h3 : 0 ≤ n.time ∧ n.time ≤ 1000000) (h4 : 0 ≤ n.mark ∧ n.mark ≤ 8) : zv7 n = zm5 n := by
 have e3 : decide (0 ≤ n.time ∧ n.time ≤ 1000000) = true := by simpa using h3
 have e4 : decide (0 ≤ n.mark ∧ n.mark ≤ 8) = true := by simpa using h4
 unfold zv7; rw [e3, e4]; simp [h2]
theorem node_cont {n : Nd} (h0 : n.path.size ≠ 0) (h1 : za5 n.path = true) : zb6 n = zv7 n := by
 unfold zb6 zv7; simp [h0, h1, Bool.and_assoc]
end Pl
end Go.Proofs.YtfdbokipgofcdaaGreatDoor

namespace Go.Proofs.YtfdbokipgofcdaaGreatDoor
open Go.RowKit
theorem hide {p : Prop} (h : p) : Hid p := h
theorem za {p : Prop} (h : Hid p) : p := h
theorem za4 {a b : Bool} (h : a = b) : Ending.returned (.bool a) = .returned (.bool b) := by rw [h]
theorem zf2 {a b : ByteArray} (h : a = b) : Ending.returned (.string a) = .returned (.string b) := by rw [h]
theorem yf2 {k : IntKind} {a b : Int} (h : a = b) : Ending.returned (.int k a) = .returned (.int k b) := by rw [h]
/- Short names for what the walks' simp calls name over and over. -/
theorem kA0 {α : Type _} {xs : List α} {i : Nat} : xs.toArray[i]? = xs[i]? := List.getElem?_toArray
theorem kA1 {α : Type _} {a : α} {l : List α} : (a :: l)[0]? = some a := List.getElem?_cons_zero
theorem kA2 {α : Type _} {a : α} {l : List α} {i : Nat} : (a :: l)[i + 1]? = l[i]? := List.getElem?_cons_succ
theorem kB0 {α : Type _} {xs : List α} {i : Nat} (h : i < xs.toArray.size) : xs.toArray[i] = xs[i]'(by simpa using h) := List.getElem_toArray h
theorem kB1 {α : Type _} {a : α} {as' : List α} (h : 0 < (a :: as').length) : (a :: as')[0] = a := List.getElem_cons_zero a as' h
theorem kB2 {α : Type _} {a : α} {as' : List α} {i : Nat} (h : i + 1 < (a :: as').length) : (a :: as')[i + 1] = as'[i]'(by simpa using h) := List.getElem_cons_succ a as' i h
theorem kB3 {α : Type _} (l : List α) (i : Nat) (a : α) : l.toArray.setIfInBounds i a = (l.set i a).toArray := List.setIfInBounds_toArray l i a
theorem kB4 {α : Type _} {x : α} {xs : List α} {a : α} : (x :: xs).set 0 a = a :: xs := List.set_cons_zero
theorem kB5 {α : Type _} {x : α} {xs : List α} {n : Nat} {a : α} : (x :: xs).set (n + 1) a = x :: xs.set n a := List.set_cons_succ
end Go.Proofs.YtfdbokipgofcdaaGreatDoor

namespace Go.Proofs.YtfdbokipgofcdaaGreatDoor
namespace Pl
def by_ (t : ByteArray) : List UInt8 := t.data.toList
theorem zh7 {a b : ByteArray} (h : by_ a = by_ b) : a = b := by
 apply ByteArray.ext; exact Array.toList_inj.1 h
theorem zc9 (t : ByteArray) : (by_ t).length = t.size := Array.length_toList
theorem zp6 (t : ByteArray) (a b : Nat) : by_ (t.extract a b) = ((by_ t).drop a).take (b - a) := by
 simp [by_, ByteArray.data_extract, Array.toList_extract, List.extract]
theorem by_mk (l : List UInt8) : by_ ⟨l.toArray⟩ = l := by simp [by_]
def cutL : List UInt8 → List (List UInt8)
 | [] => [[]]
 | b :: l => if b = 47 then [] :: cutL l else match cutL l with | [] => [[b]] | h :: t => (b :: h) :: t
def zi2 : List (List UInt8) → List UInt8
 | [] => []
 | [a] => a
 | a :: b :: r => a ++ 47 :: zi2 (b :: r)
theorem cutL_ex (l : List UInt8) : ∃ h t, cutL l = h :: t := by
 induction l with
 | nil => exact ⟨_, _, rfl⟩
 | cons b l ih =>
  obtain ⟨h, t, e⟩ := ih
  rw [cutL]
  split
  ·exact ⟨_, _, rfl⟩
  ·rw [e]; exact ⟨_, _, rfl⟩
theorem yj9 (l : List UInt8) : cutL l ≠ [] := by obtain ⟨h, t, e⟩ := cutL_ex l; rw [e]; exact List.cons_ne_nil _ _
theorem yg3 (l : List UInt8) : cutL (47 :: l) = [] :: cutL l := by rw [cutL, if_pos rfl]
theorem yd1 {b : UInt8} {l h : List UInt8} {t : List (List UInt8)} (hb : b ≠ 47) (e : cutL l = h :: t) : cutL (b :: l) = (b :: h) :: t := by
 rw [cutL, if_neg hb, e]
theorem zy6 (a : List UInt8) {L : List (List UInt8)} (h : L ≠ []) : zi2 (a :: L) = a ++ 47 :: zi2 L := by
 cases L with
 | nil => exact absurd rfl h
 | cons b r => rw [zi2]
theorem glueL_push (b : UInt8) (h : List UInt8) (t : List (List UInt8)) : zi2 ((b :: h) :: t) = b :: zi2 (h :: t) := by
 cases t with
 | nil => simp [zi2]
 | cons c r => simp [zi2]
theorem glue_cutL (l : List UInt8) : zi2 (cutL l) = l := by
 induction l with
 | nil => rfl
 | cons b l ih =>
  by_cases hb : b = 47
  ·subst hb; rw [yg3, zy6 _ (yj9 l), ih]; rfl
  ·obtain ⟨h, t, e⟩ := cutL_ex l
   rw [yd1 hb e, glueL_push, ← e, ih]
theorem ys7 (a b : List UInt8) : cutL (a ++ 47 :: b) = cutL a ++ cutL b := by
 induction a with
 | nil => rw [List.nil_append, yg3]; rfl
 | cons c a ih =>
  by_cases hc : c = 47
  ·subst hc; rw [List.cons_append, yg3, ih, yg3]; rfl
  ·obtain ⟨h, t, e⟩ := cutL_ex a
   rw [List.cons_append, yd1 hc e, yd1 (t := t ++ cutL b) hc (by rw [ih, e]; rfl)]
   rfl
theorem yc8 {a : List UInt8} (h : (47 : UInt8) ∉ a) : cutL a = [a] := by
 induction a with
 | nil => rfl
 | cons c a ih =>
  rw [List.mem_cons, not_or] at h
  rw [yd1 (fun e => h.1 e.symm) (ih h.2)]
theorem cut_glueL {L : List (List UInt8)} (h0 : L ≠ []) (h : ∀ t ∈ L, (47 : UInt8) ∉ t) : cutL (zi2 L) = L := by
 induction L with
 | nil => exact absurd rfl h0
 | cons a L ih =>
  by_cases hL : L = []
  ·subst hL; exact yc8 (h a List.mem_cons_self)
  ·rw [zy6 a hL, ys7, yc8 (h a List.mem_cons_self), ih hL (fun t ht => h t (List.mem_cons_of_mem _ ht))]
   rfl
theorem yg7 {A B : List (List UInt8)} (hA : A ≠ []) (hB : B ≠ []) : zi2 (A ++ B) = zi2 A ++ 47 :: zi2 B := by
 induction A with
 | nil => exact absurd rfl hA
 | cons a A ih =>
  by_cases h : A = []
  ·subst h; exact zy6 a hB
  ·rw [List.cons_append, zy6 a (by simp [h]), ih h, zy6 a h]; simp

theorem cutF_list (s : ByteArray) : ∀ f fr k, f + k = s.size → fr ≤ k → ∃ h t, cutL ((by_ s).drop k) = h :: t ∧ (cutF s 47 f fr k).map by_ = (((by_ s).drop fr).take (k - fr) ++ h) :: t := by
 intro f
 induction f with
 | zero =>
  intro fr k hk hfr
  refine ⟨[], [], ?_, ?_⟩
  ·rw [List.drop_of_length_le (by rw [zc9]; omega)]; rfl
  ·rw [cutF, List.map_cons, List.map_nil, zp6, List.append_nil]
   obtain rfl : k = s.size := by omega
   rfl
 | succ f ih =>
  intro fr k hk hfr
  have hlt : k < s.size := by omega
  have hlt' : k < (by_ s).length := by rw [zc9]; exact hlt
  have hd : (by_ s).drop k = s[k] :: (by_ s).drop (k + 1) := by
   rw [List.drop_eq_getElem_cons hlt']; rfl
  by_cases hb : s[k].toNat = 47
  ·obtain ⟨h, t, e1, e2⟩ := ih (k + 1) (k + 1) (by omega) (Nat.le_refl _)
   have hb' : s[k] = 47 := UInt8.toNat_inj.1 hb
   refine ⟨[], cutL ((by_ s).drop (k + 1)), ?_, ?_⟩
   ·rw [hd, hb', yg3]
   ·rw [cutF_hit hlt hb, List.map_cons, e2, zp6, e1]
    simp
  ·obtain ⟨h, t, e1, e2⟩ := ih fr (k + 1) (by omega) (by omega)
   have hb' : s[k] ≠ 47 := fun e => hb (by rw [e]; rfl)
   refine ⟨s[k] :: h, t, ?_, ?_⟩
   ·rw [hd, yd1 hb' e1]
   ·rw [yq9 hlt hb, e2]
    congr 1
    have : k + 1 - fr = (k - fr) + 1 := by omega
    rw [this, List.take_add_one, List.getElem?_drop, Nat.add_sub_cancel' hfr, List.getElem?_eq_getElem hlt']
    simp [by_]
    rfl
theorem cut_list (s : ByteArray) : (cut s 47).map by_ = cutL (by_ s) := by
 obtain ⟨h, t, e1, e2⟩ := cutF_list s s.size 0 0 (by omega) (Nat.le_refl _)
 rw [cut, e2]
 rw [List.drop_zero] at e1
 rw [e1]; simp
def zo8 (l : List UInt8) : List (List UInt8) := if l = [] then [] else cutL l
theorem zj1 {s : ByteArray} : by_ s = [] ↔ s.size = 0 := by rw [← zc9, List.length_eq_zero_iff]
theorem zl8 (s : ByteArray) : (names s).map by_ = zo8 (by_ s) := by
 unfold names zo8
 by_cases h : s.size = 0
 ·rw [if_pos h, if_pos (zj1.2 h)]; rfl
 ·rw [if_neg h, if_neg (fun e => h (zj1.1 e)), cut_list]
theorem zs1 (l : List UInt8) : zi2 (zo8 l) = l := by
 unfold zo8; split
 ·subst_vars; rfl
 ·exact glue_cutL l
def glue (ts : List ByteArray) : ByteArray := ⟨(zi2 (ts.map by_)).toArray⟩
theorem zu3 (ts : List ByteArray) : by_ (glue ts) = zi2 (ts.map by_) := by_mk _
theorem map_by_inj {A B : List ByteArray} (h : A.map by_ = B.map by_) : A = B := by
 induction A generalizing B with
 | nil => cases B with
  | nil => rfl
  | cons => simp at h
 | cons a A ih => cases B with
  | nil => simp at h
  | cons b B => simp at h; rw [zh7 h.1, ih h.2]
theorem zp7 (s : ByteArray) : glue (names s) = s := by
 apply zh7; rw [zu3, zl8, zs1]
theorem zu0 {t : ByteArray} (h : zf5 t = true) : (47 : UInt8) ∉ by_ t ∧ by_ t ≠ [] ∧ 1 ≤ t.size ∧ t.size ≤ 20 := by
 have h' := of_decide_eq_true h
 refine ⟨fun hm => ?_, fun e => ?_, h'.1, h'.2.1⟩
 ·obtain ⟨j, hj, e⟩ := List.getElem_of_mem hm
  have hj' : j < t.size := by rw [← zc9]; exact hj
  have ho := h'.2.2 j hj'
  have e2 : t.data.toList.getD j 0 = 47 := by
   rw [zm0 t j hj']; exact e
  rw [e2] at ho
  simp [okAt] at ho
 ·have := zj1.1 e; omega
theorem yo {L : List ByteArray} (h : ∀ t ∈ L, zf5 t = true) : names (glue L) = L := by
 apply map_by_inj
 rw [zl8, zu3]
 cases L with
 | nil => rfl
 | cons a L =>
  have hne : zi2 ((a :: L).map by_) ≠ [] := by
   have ha := (zu0 (h a List.mem_cons_self)).2.1
   cases L with
   | nil => exact ha
   | cons b L => simp [zi2]
  rw [zo8, if_neg hne]
  apply cut_glueL (by simp)
  intro t ht
  obtain ⟨u, hu, rfl⟩ := List.mem_map.1 ht
  exact (zu0 (h u hu)).1
theorem glueL_le (L : List ByteArray) (h : ∀ t ∈ L, t.size ≤ 20) : (zi2 (L.map by_)).length ≤ 21 * L.length := by
 induction L with
 | nil => simp [zi2]
 | cons a L ih =>
  have ha := h a List.mem_cons_self
  have ih := ih (fun t ht => h t (List.mem_cons_of_mem _ ht))
  cases L with
  | nil => simp [zi2, zc9]; omega
  | cons b L =>
   simp only [List.map_cons, zi2, List.length_append, List.length_cons, zc9] at ih ⊢
   omega
theorem yb4 (L : List ByteArray) (h : ∀ t ∈ L, t.size ≤ 20) : (glue L).size ≤ 21 * L.length := by
 rw [← zc9, zu3]; exact glueL_le L h
theorem yo9 {s : ByteArray} (h : za5 s = true) : (∀ t ∈ names s, zf5 t = true) ∧ (names s).length ≤ 6 := by
 simp [za5] at h
 exact ⟨h.1.2, h.2⟩
theorem yv5 {L : List ByteArray} (h : ∀ t ∈ L, zf5 t = true) (h6 : L.length ≤ 6) : za5 (glue L) = true := by
 have hs := yb4 L (fun t ht => (zu0 (h t ht)).2.2.2)
 simp [za5, yo h]
 exact ⟨⟨by omega, h⟩, h6⟩
theorem yj5 {s : ByteArray} : za5 s = ((names s).all zf5 && decide ((names s).length ≤ 6)) := by
 by_cases h : s.size ≤ 200
 ·simp [za5, h]
 ·have h1 : za5 s = false := yn0 (by omega)
  rw [h1]
  by_cases h2 : (names s).all zf5 = true
  ·have h3 := List.all_eq_true.1 h2
   have hs := yb4 (names s) (fun t ht => (zu0 (h3 t ht)).2.2.2)
   rw [zp7] at hs
   simp; intro _; omega
  ·simp at h2; simp; intro h4; obtain ⟨x, hx, hy⟩ := h2; exact absurd (h4 x hx) (by simp [hy])
end Pl
end Go.Proofs.YtfdbokipgofcdaaGreatDoor

namespace Go.Proofs.YtfdbokipgofcdaaGreatDoor
namespace Pl
def zc8 (s : ByteArray) : List ByteArray := if za5 s then names s else []
theorem yj1 {s : ByteArray} (h : za5 s = false) : zc8 s = [] := by rw [zc8, h]; rfl
theorem zg2 {s : ByteArray} (h : za5 s = true) : zc8 s = names s := by rw [zc8, h]; rfl
theorem cut_pos (s : ByteArray) : 0 < (cut s 47).length := by
 have h := cut_list s
 have : (cut s 47).length = (cutL (by_ s)).length := by rw [← h, List.length_map]
 rw [this]
 exact List.length_pos_iff.2 (yj9 _)
theorem zi9 {s : ByteArray} (h : s.size = 0) : za5 s = true ∧ names s = [] := by
 have h1 : names s = [] := if_pos h
 exact ⟨by simp [yj5, h1], h1⟩
theorem cut_length (s : ByteArray) : (cut s 47).length ≤ s.size + 1 := ys8 s 47 s.size 0 0
theorem cut_size {s : ByteArray} {k : Nat} {t : ByteArray} (h : (cut s 47)[k]? = some t) : t.size ≤ s.size := cutF_size s 47 _ _ _ t (List.mem_of_getElem? h)
theorem zp8 (s : ByteArray) : (∀ t ∈ zc8 s, zf5 t = true) ∧ (zc8 s).length ≤ 6 := by
 cases h : za5 s
 ·rw [yj1 h]; simp
 ·rw [zg2 h]; exact yo9 h
theorem yw4 {L : List ByteArray} (h : ∀ t ∈ L, zf5 t = true) (h6 : L.length ≤ 20) : (glue L).size ≤ 1000000 := by
 have := yb4 L (fun t ht => (zu0 (h t ht)).2.2.2); omega
theorem all_take {L : List ByteArray} (h : ∀ t ∈ L, zf5 t = true) (k : Nat) : ∀ t ∈ L.take k, zf5 t = true := fun t ht => h t (List.mem_of_mem_take ht)
theorem yh8 {a b : ByteArray} (h : a = b) : (a.toList == b.toList) = true := by rw [h]; exact beq_self_eq_true _
theorem ya0 {a b : ByteArray} (h : a ≠ b) : (a.toList == b.toList) = false := by
 rw [beq_eq_false_iff_ne, ByteArray.toList_eq, ByteArray.toList_eq]
 exact fun e => h (zh7 e)
theorem ze {t : ByteArray} : t.toList.isEmpty = decide (by_ t = []) := by
 rw [ByteArray.toList_eq]; change (by_ t).isEmpty = _
 cases by_ t <;> simp
end Pl
end Go.Proofs.YtfdbokipgofcdaaGreatDoor

namespace Go.Proofs.YtfdbokipgofcdaaGreatDoor
namespace Pl
def za9 : List ByteArray → List ByteArray → Bool
 | [], [] => false
 | [], _ :: _ => true
 | _ :: _, [] => false
 | a :: A, b :: B => if a = b then za9 A B else Op.bytesLess a.toList b.toList
theorem less_same {A B : List ByteArray} {k : Nat} {a b : ByteArray} (ha : A[k]? = some a) (hb : B[k]? = some b) (h : a = b) : za9 (A.drop k) (B.drop k) = za9 (A.drop (k + 1)) (B.drop (k + 1)) := by
 have h1 := (List.getElem?_eq_some_iff.1 ha)
 have h2 := (List.getElem?_eq_some_iff.1 hb)
 rw [List.drop_eq_getElem_cons h1.1, List.drop_eq_getElem_cons h2.1, za9, if_pos (by rw [h1.2, h2.2]; exact h)]
theorem yv2 {A B : List ByteArray} {k : Nat} {a b : ByteArray} (ha : A[k]? = some a) (hb : B[k]? = some b) (h : a ≠ b) : za9 (A.drop k) (B.drop k) = Op.bytesLess a.toList b.toList := by
 have h1 := (List.getElem?_eq_some_iff.1 ha)
 have h2 := (List.getElem?_eq_some_iff.1 hb)
 rw [List.drop_eq_getElem_cons h1.1, List.drop_eq_getElem_cons h2.1, za9, if_neg (by rw [h1.2, h2.2]; exact h), h1.2, h2.2]
theorem less_end {A B : List ByteArray} {k : Nat} (h : k = A.length ∧ k ≤ B.length ∨ k = B.length ∧ k ≤ A.length) : za9 (A.drop k) (B.drop k) = decide (A.length < B.length) := by
 rcases h with ⟨rfl, h⟩ | ⟨rfl, h⟩
 ·rw [List.drop_length]
  by_cases hl : A.length < B.length
  ·rw [List.drop_eq_getElem_cons hl]; simp [za9, hl]
  ·rw [List.drop_of_length_le (by omega)]; simp [za9, hl]
 ·rw [List.drop_length]
  have hn : ¬ A.length < B.length := by omega
  by_cases hl : B.length < A.length
  ·rw [List.drop_eq_getElem_cons hl]; simp [za9, hn]
  ·rw [List.drop_of_length_le (by omega)]; simp [za9, hn]
end Pl
end Go.Proofs.YtfdbokipgofcdaaGreatDoor

namespace Go.Proofs.YtfdbokipgofcdaaGreatDoor
namespace Pl
theorem by_take_succ (s : ByteArray) (k : Nat) (h : k < s.size) : (by_ s).take (k + 1) = (by_ s).take k ++ [s[k]] := take_snoc s k h
theorem slash_split (s : ByteArray) : ∀ k, k ≤ s.size → ((47 : UInt8) ∉ (by_ s).take k ∧ zf3 s k = -1) ∨ ∃ a b, (by_ s).take k = a ++ 47 :: b ∧ (47 : UInt8) ∉ b ∧ zf3 s k = (a.length : Int) := by
 intro k
 induction k with
 | zero => intro _; left; simp [zf3]
 | succ k ih =>
  intro hk
  have hlt : k < s.size := by omega
  have ih := ih (by omega)
  rw [by_take_succ s k hlt]
  by_cases hb : s[k].toNat = 47
  ·right
   have hb' : s[k] = 47 := UInt8.toNat_inj.1 hb
   refine ⟨(by_ s).take k, [], by rw [hb'], by simp, ?_⟩
   rw [slash_hit hlt hb, List.length_take, zc9, Nat.min_eq_left (by omega)]
  ·have hb' : s[k] ≠ 47 := fun e => hb (by rw [e]; rfl)
   rw [yw9 hlt hb]
   rcases ih with ⟨h1, h2⟩ | ⟨a, b, h1, h2, h3⟩
   ·left
    refine ⟨?_, h2⟩
    rw [List.mem_append, not_or]
    exact ⟨h1, by simpa using fun e => hb' e.symm⟩
   ·right
    refine ⟨a, b ++ [s[k]], by rw [h1]; simp, ?_, h3⟩
    rw [List.mem_append, not_or]
    exact ⟨h2, by simpa using fun e => hb' e.symm⟩
theorem yt7 (s : ByteArray) : ((47 : UInt8) ∉ by_ s ∧ zf3 s s.size = -1) ∨ ∃ a b, by_ s = a ++ 47 :: b ∧ (47 : UInt8) ∉ b ∧ zf3 s s.size = (a.length : Int) := by
 have h := slash_split s s.size (Nat.le_refl _)
 rwa [List.take_of_length_le (by rw [zc9]; exact Nat.le_refl _)] at h
theorem yg4 {l a b : List UInt8} (h : l = a ++ 47 :: b) : zo8 l = cutL a ++ cutL b := by
 subst h; rw [zo8, if_neg (by simp), ys7]
theorem yt0 {l : List UInt8} (h : (47 : UInt8) ∉ l) : zo8 l = if l = [] then [] else [l] := by
 rw [zo8]; split
 ·rfl
 ·exact yc8 h
def base (s : ByteArray) : ByteArray := s.extract (zf3 s s.size + 1).toNat s.size
theorem ys4 (s : ByteArray) : parent s = glue (names s).dropLast := by
 apply zh7
 rw [zu3, List.map_dropLast, zl8]
 unfold parent
 rcases yt7 s with ⟨h1, h2⟩ | ⟨a, b, h1, h2, h3⟩
 ·rw [h2, if_pos (by omega), yt0 h1]
  split <;> rfl
 ·rw [h3, if_neg (by omega), zp6, yg4 h1, yc8 h2, List.dropLast_concat, glue_cutL, h1]
  simp
theorem base_glue (s : ByteArray) : base s = glue ((names s).drop ((names s).length - 1)) := by
 apply zh7
 have hl : (names s).length = (zo8 (by_ s)).length := by rw [← zl8, List.length_map]
 rw [zu3, List.map_drop, zl8, hl]
 unfold base
 rcases yt7 s with ⟨h1, h2⟩ | ⟨a, b, h1, h2, h3⟩
 ·rw [h2, zp6, yt0 h1]
  have e : List.take (s.size - ((-1 : Int) + 1).toNat) (List.drop ((-1 : Int) + 1).toNat (by_ s)) = by_ s := by
   simp [← zc9]
  rw [e]
  split
  ·next h => rw [h]; rfl
  ·rfl
 ·rw [h3, zp6, yg4 h1, yc8 h2]
  have h4 : ((a.length : Int) + 1).toNat = a.length + 1 := by omega
  have h5 : s.size = a.length + 1 + b.length := by rw [← zc9, h1]; simp; omega
  rw [h4, h5, h1]
  simp [zi2]
theorem drop_last {α : Type} (L : List α) : L.take (L.length - 1) = L.dropLast := by rw [List.dropLast_eq_take]
def under (p t : ByteArray) : Bool := ((names t).map by_).isPrefixOf ((names p).map by_)
theorem zx6 (p t : ByteArray) : under p t = true ↔ (by_ t = [] ∨ by_ p = by_ t ∨ ∃ r, by_ p = by_ t ++ 47 :: r) := by
 unfold under
 rw [List.isPrefixOf_iff_prefix, zl8, zl8]
 constructor
 ·rintro ⟨R, e⟩
  by_cases ht : by_ t = []
  ·exact .inl ht
  ·right
   have e2 := congrArg zi2 e
   by_cases hr : R = []
   ·left
    subst hr
    rw [List.append_nil, zs1, zs1] at e2
    exact e2.symm
   ·right
    rw [yg7 (by rw [zo8, if_neg ht]; exact yj9 _) hr, zs1, zs1] at e2
    exact ⟨_, e2.symm⟩
 ·rintro (h | h | ⟨r, h⟩)
  ·rw [h]; exact List.nil_prefix
  ·rw [h]; exact List.prefix_refl _
  ·by_cases ht : by_ t = []
   ·rw [ht]; exact List.nil_prefix
   ·refine ⟨cutL r, ?_⟩
    rw [yg4 h, zo8, if_neg ht]
def rest (p t : ByteArray) : ByteArray := glue ((names p).drop (names t).length)
def zg (p n : ByteArray) : ByteArray := glue (names p ++ [n])
theorem yv6 {p n : ByteArray} (h : by_ p = []) : zg p n = n := by
 apply zh7
 rw [zg, zu3, List.map_append, zl8, h]; rfl
theorem joinN_two {p n : ByteArray} (h : by_ p ≠ []) : by_ (zg p n) = by_ p ++ 47 :: by_ n := by
 rw [zg, zu3, List.map_append, zl8, yg7 (by rw [zo8, if_neg h]; exact yj9 _) (by simp), zs1]; rfl
end Pl
end Go.Proofs.YtfdbokipgofcdaaGreatDoor

namespace Go.Proofs.YtfdbokipgofcdaaGreatDoor
namespace Pl
theorem bytes_trans : ∀ a b c : List UInt8, Op.bytesLess a b = true → Op.bytesLess b c = true → Op.bytesLess a c = true := by
 intro a
 induction a with
 | nil =>
  intro b c h1 h2
  cases c with
  | nil => cases b <;> simp [Op.bytesLess] at h2
  | cons z c => rfl
 | cons x a ih =>
  intro b c h1 h2
  cases b with
  | nil => simp [Op.bytesLess] at h1
  | cons y b =>
   cases c with
   | nil => simp [Op.bytesLess] at h2
   | cons z c =>
    simp only [Op.bytesLess, Bool.or_eq_true, decide_eq_true_eq, Bool.and_eq_true, beq_iff_eq] at h1 h2 ⊢
    rcases h1 with h1 | ⟨rfl, h1⟩
    ·rcases h2 with h2 | ⟨rfl, h2⟩
     ·left; rw [UInt8.lt_iff_toNat_lt] at h1 h2 ⊢; omega
     ·left; exact h1
    ·rcases h2 with h2 | ⟨rfl, h2⟩
     ·left; exact h2
     ·right; exact ⟨rfl, ih b c h1 h2⟩
theorem bytes_irr : ∀ a : List UInt8, Op.bytesLess a a = false := by
 intro a
 induction a with
 | nil => rfl
 | cons x a ih => simp [Op.bytesLess, ih]
theorem zm9 : ∀ A B C : List ByteArray, za9 A B = true → za9 B C = true → za9 A C = true := by
 intro A
 induction A with
 | nil =>
  intro B C h1 h2
  cases C with
  | nil => cases B <;> simp [za9] at h2
  | cons c C => rfl
 | cons a A ih =>
  intro B C h1 h2
  cases B with
  | nil => simp [za9] at h1
  | cons b B =>
   cases C with
   | nil => simp [za9] at h2
   | cons c C =>
    rw [za9] at h1 h2 ⊢
    by_cases hab : a = b
    ·subst hab
     rw [if_pos rfl] at h1
     by_cases hac : a = c
     ·subst hac
      rw [if_pos rfl] at h2 ⊢
      exact ih B C h1 h2
     ·rw [if_neg hac] at h2 ⊢; exact h2
    ·rw [if_neg hab] at h1
     by_cases hbc : b = c
     ·subst hbc
      rw [if_neg hab]; exact h1
     ·rw [if_neg hbc] at h2
      have h3 := bytes_trans _ _ _ h1 h2
      by_cases hac : a = c
      ·subst hac; rw [bytes_irr] at h3; cases h3
      ·rw [if_neg hac]; exact h3
theorem zl6 : ∀ A : List ByteArray, za9 A A = false := by
 intro A
 induction A with
 | nil => rfl
 | cons a A ih => rw [za9, if_pos rfl, ih]
theorem less_drop : ∀ A : List ByteArray, A ≠ [] → za9 A.dropLast A = true := by
 intro A h
 have h1 : A.dropLast ++ [A.getLast h] = A := List.dropLast_concat_getLast h
 have h2 : ∀ (B : List ByteArray) (x : ByteArray), za9 B (B ++ [x]) = true := by
  intro B x
  induction B with
  | nil => rfl
  | cons b B ih => rw [List.cons_append, za9, if_pos rfl]; exact ih
 have h3 := h2 A.dropLast (A.getLast h)
 rw [h1] at h3; exact h3
def ltP (a b : ByteArray) : Bool := za5 a && za5 b && za9 (zc8 a) (zc8 b)
def zd4 (p : ByteArray) : ByteArray := glue (zc8 p).dropLast
def parI (C : List Nd) (p : ByteArray) : Bool := decide ((zd4 p).size = 0) || C.any (fun m => decide (m.path = zd4 p) && decide (m.kind = 1))
def goI (C : List Nd) (last : ByteArray) : List Nd → Bool
 | [] => true
 | n :: r => zb6 n && ltP last n.path && parI C n.path && goI (C ++ [n]) n.path r
def za2 (L : List Nd) : Bool := decide (L.length ≤ 40) && goI [] ⟨#[]⟩ L
def dirS (L : List Nd) (p : ByteArray) : Bool := decide (p.size = 0) || (match L.find? (fun m => decide (m.path = p)) with | some m => decide (m.kind = 1) | none => false)
def prevB (prev : Option ByteArray) (p : ByteArray) : Bool := match prev with | none => true | some q => za9 (names q) (names p)
def goS (L : List Nd) (prev : Option ByteArray) : List Nd → Bool
 | [] => true
 | n :: r => zb6 n && prevB prev n.path && dirS L (parent n.path) && goS L (some n.path) r
theorem ze2 {n : Nd} (h : zb6 n = true) : za5 n.path = true ∧ n.path.size ≠ 0 := by
 unfold zb6 at h
 simp only [Bool.and_eq_true, decide_eq_true_eq] at h
 exact ⟨h.1.1.1.1.2, h.1.1.1.1.1⟩
theorem zh3 {n : Nd} (h : zb6 n = true) : n.data.size ≤ 60 ∧ (0 ≤ n.time ∧ n.time ≤ 1000000) ∧ (0 ≤ n.mark ∧ n.mark ≤ 8) ∧ zm5 n = true := by
 unfold zb6 at h
 simp only [Bool.and_eq_true, decide_eq_true_eq] at h
 exact ⟨h.1.1.1.2, h.1.1.2, h.1.2, h.2⟩
theorem zi7 {p : ByteArray} (h : za5 p = true) : p.size ≤ 200 := by
 unfold za5 at h
 simp only [Bool.and_eq_true, decide_eq_true_eq] at h
 exact h.1.1
theorem yl5 {p : ByteArray} (h : p.size ≠ 0) : names p ≠ [] := by
 intro e
 have := zl8 p
 rw [e] at this
 simp only [List.map_nil, zo8] at this
 split at this
 ·next h1 => rw [zj1] at h1; exact h h1
 ·exact yj9 _ this.symm
theorem yp8 {p : ByteArray} (h : za5 p = true) : parent p = zd4 p := by rw [ys4, zd4, zg2 h]
theorem yp5 {p : ByteArray} (h : za5 p = true) : names (zd4 p) = (names p).dropLast := by
 rw [zd4, zg2 h]
 exact yo (fun t ht => (yo9 h).1 t (List.dropLast_subset _ ht))
theorem zi6 {a b : ByteArray} (ha : za5 a = true) (hb : za5 b = true) : ltP a b = za9 (names a) (names b) := by rw [ltP, ha, hb, zg2 ha, zg2 hb]; rfl
theorem path_eq {a b : ByteArray} (h : names a = names b) : a = b := by rw [← zp7 a, ← zp7 b, h]
theorem rise (L : List Nd) : ∀ (r : List Nd) (q : ByteArray), goS L (some q) r = true → ∀ m ∈ r, za9 (names q) (names m.path) = true := by
 intro r
 induction r with
 | nil => intro q _ m hm; cases hm
 | cons n r ih =>
  intro q h m hm
  simp only [goS, Bool.and_eq_true] at h
  rcases List.mem_cons.1 hm with rfl | hm
  ·exact h.1.1.2
  ·exact zm9 _ _ _ h.1.1.2 (ih n.path h.2 m hm)
theorem find_app {α : Type} {f : α → Bool} (A B : List α) : (A ++ B).find? f = match A.find? f with | some x => some x | none => B.find? f := by
 rw [List.find?_append]; cases A.find? f <;> rfl
theorem one_path {C : List Nd} (h : C.Pairwise (fun a b => za9 (names a.path) (names b.path) = true)) {a b : Nd} (ha : a ∈ C) (hb : b ∈ C) (e : a.path = b.path) : a = b := by
 induction h with
 | nil => cases ha
 | cons hx _ ih =>
  rcases List.mem_cons.1 ha with e1 | h1
  ·rcases List.mem_cons.1 hb with e2 | h2
   ·rw [e1, e2]
   ·have h3 := hx _ h2; rw [← e1, e, zl6] at h3; cases h3
  ·rcases List.mem_cons.1 hb with e2 | h2
   ·have h3 := hx _ h1; rw [← e2, e, zl6] at h3; cases h3
   ·exact ih h1 h2
theorem go_same (L : List Nd) : ∀ (r C : List Nd) (prev : Option ByteArray) (last : ByteArray), L = C ++ r → (prev = none ∧ C = [] ∧ last = ⟨#[]⟩ ∨ prev = some last ∧ za5 last = true) →
  C.Pairwise (fun a b => za9 (names a.path) (names b.path) = true) → (∀ a ∈ C, a.path = last ∨ za9 (names a.path) (names last) = true) → goS L prev r = goI C last r := by
 intro r
 induction r with
 | nil => intros; rfl
 | cons n r ih =>
  intro C prev last hL hprev hC hlast
  simp only [goS, goI]
  cases hn : zb6 n
  ·simp
  obtain ⟨hr, h0⟩ := ze2 hn
  have hlt : prevB prev n.path = ltP last n.path := by
   rcases hprev with ⟨rfl, rfl, rfl⟩ | ⟨rfl, hl⟩
   ·have e1 : za5 (⟨#[]⟩ : ByteArray) = true := (zi9 rfl).1
    have e2 : names (⟨#[]⟩ : ByteArray) = [] := (zi9 rfl).2
    rw [zi6 e1 hr, e2]
    cases hx : names n.path with
    | nil => exact absurd hx (yl5 h0)
    | cons a l => rfl
   ·rw [zi6 hl hr]; rfl
  rw [hlt]
  cases hlt2 : ltP last n.path
  ·simp
  simp only [Bool.true_and, yp8 hr]
  have hall : ∀ a ∈ C, za9 (names a.path) (names n.path) = true := by
   intro a ha
   rcases hprev with ⟨_, rfl, _⟩ | ⟨_, hl⟩
   ·cases ha
   ·rw [zi6 hl hr] at hlt2
    rcases hlast a ha with e | e
    ·rw [e]; exact hlt2
    ·exact zm9 _ _ _ e hlt2
  have hC2 : (C ++ [n]).Pairwise (fun a b => za9 (names a.path) (names b.path) = true) := by
   rw [List.pairwise_append]
   exact ⟨hC, List.pairwise_singleton _ _, fun a ha b hb => by simp at hb; subst hb; exact hall a ha⟩
  have hrest : goS L (some n.path) r = goI (C ++ [n]) n.path r := by
   refine ih (C ++ [n]) (some n.path) n.path (by rw [hL]; simp) (.inr ⟨rfl, hr⟩) hC2 ?_
   intro a ha
   rcases List.mem_append.1 ha with ha | ha
   ·exact .inr (hall a ha)
   ·simp at ha; subst ha; exact .inl rfl
  by_cases hp : (zd4 n.path).size = 0
  ·have e1 : dirS L (zd4 n.path) = true := by simp [dirS, hp]
   have e2 : parI C n.path = true := by simp [parI, hp]
   rw [e1, e2, hrest]
  cases hpar : parI C n.path
  ·have e1 : (dirS L (zd4 n.path) && goS L (some n.path) r) = false := by
    rw [Bool.eq_false_iff]
    intro h
    simp only [Bool.and_eq_true] at h
    have hd := h.1
    simp only [dirS, hp, decide_false, Bool.false_or] at hd
    rw [hL, find_app] at hd
    have hCn : C.find? (fun m => decide (m.path = zd4 n.path)) = none ∨ ∃ m, C.find? (fun m => decide (m.path = zd4 n.path)) = some m := by
     cases C.find? (fun m => decide (m.path = zd4 n.path)) with
     | none => exact .inl rfl
     | some m => exact .inr ⟨m, rfl⟩
    rcases hCn with hCn | ⟨m, hm⟩
    ·rw [hCn] at hd
     cases hf : (n :: r).find? (fun m => decide (m.path = zd4 n.path)) with
     | none => rw [hf] at hd; simp at hd
     | some m =>
      have hm1 := List.mem_of_find?_eq_some hf
      have hm2 : m.path = zd4 n.path := by simpa using List.find?_some hf
      have hless : za9 (names m.path) (names n.path) = true := by
       rw [hm2, yp5 hr]; exact less_drop _ (yl5 h0)
      rcases List.mem_cons.1 hm1 with rfl | hm1
      ·rw [zl6] at hless; cases hless
      ·have h3 := rise L r n.path h.2 m hm1
       have h4 := zm9 _ _ _ hless h3
       rw [zl6] at h4; cases h4
    ·rw [hm] at hd
     have hm1 := List.mem_of_find?_eq_some hm
     have hm2 : m.path = zd4 n.path := by simpa using List.find?_some hm
     have : parI C n.path = true := by
      simp only [parI, Bool.or_eq_true, List.any_eq_true]
      exact .inr ⟨m, hm1, by simpa [hm2] using hd⟩
     rw [hpar] at this; cases this
   rw [e1]; simp
  ·have e1 : dirS L (zd4 n.path) = true := by
    simp only [parI, hp, decide_false, Bool.false_or, List.any_eq_true, Bool.and_eq_true, decide_eq_true_eq] at hpar
    obtain ⟨m, hm, hm2, hm3⟩ := hpar
    have hfind : C.find? (fun m => decide (m.path = zd4 n.path)) = some m := by
     cases hf : C.find? (fun m => decide (m.path = zd4 n.path)) with
     | none =>
      have := List.find?_eq_none.1 hf m hm
      simp [hm2] at this
     | some x =>
      have hx1 := List.mem_of_find?_eq_some hf
      have hx2 : x.path = zd4 n.path := by simpa using List.find?_some hf
      rw [one_path hC hx1 hm (hx2.trans hm2.symm)]
    simp only [dirS, hp, decide_false, Bool.false_or]
    rw [hL, find_app, hfind]
    simpa using hm3
   rw [e1, hrest]
theorem tree_same (L : List Nd) : goS L none L = goI [] ⟨#[]⟩ L :=
 go_same L L [] none ⟨#[]⟩ rfl (.inl ⟨rfl, rfl, rfl⟩) List.Pairwise.nil (fun a ha => by cases ha)
theorem zu9 : ∀ (r C : List Nd) (last : ByteArray), goI C last r = true → ∀ n ∈ r, zb6 n = true := by
 intro r
 induction r with
 | nil => intro C last _ n hn; cases hn
 | cons m r ih =>
  intro C last h n hn
  simp only [goI, Bool.and_eq_true] at h
  rcases List.mem_cons.1 hn with rfl | hn
  ·exact h.1.1.1
  ·exact ih _ _ h.2 n hn
theorem goI_rise : ∀ (r C : List Nd) (last : ByteArray), goI C last r = true → za5 last = true → r.Pairwise (fun a b => za9 (names a.path) (names b.path) = true) ∧ ∀ n ∈ r, za9 (names last) (names n.path) = true := by
 intro r
 induction r with
 | nil => intro C last _ _; exact ⟨List.Pairwise.nil, fun n hn => by cases hn⟩
 | cons m r ih =>
  intro C last h hl
  simp only [goI, Bool.and_eq_true] at h
  obtain ⟨hr, h0⟩ := ze2 h.1.1.1
  obtain ⟨i1, i2⟩ := ih _ _ h.2 hr
  have h1 := h.1.1.2
  rw [zi6 hl hr] at h1
  refine ⟨List.Pairwise.cons (fun n hn => i2 n hn) i1, fun n hn => ?_⟩
  rcases List.mem_cons.1 hn with rfl | hn
  ·exact h1
  ·exact zm9 _ _ _ h1 (i2 n hn)
end Pl
end Go.Proofs.YtfdbokipgofcdaaGreatDoor

