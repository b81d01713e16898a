/- Plain facts on numbers, bytes and lists: the bytes of a number, the register of the CRC, names. No Go in sight. -/
import Derived.Laws.BitsAllLaws
namespace Go.Proofs.YtlgbdbmikmbioaaDoor
namespace Pl

/-- The bytes of a number, at most f + 1 of them: seven bits a byte, the lowest first. -/
def encF : Nat → Nat → List UInt8
  | 0, u => [UInt8.ofNat u]
  | f + 1, u => if u < 128 then [UInt8.ofNat u] else UInt8.ofNat (u % 128 + 128) :: encF f (u / 128)
/-- The bytes of a number. -/
def enc (u : Nat) : List UInt8 := encF u u
theorem encF_same (n : Nat) : ∀ u f g, u ≤ n → u ≤ f → u ≤ g → encF f u = encF g u := by
  induction n with
  | zero =>
    intro u f g hu _ _
    obtain rfl : u = 0 := by omega
    cases f <;> cases g <;> simp [encF]
  | succ n ih =>
    intro u f g hu hf hg
    by_cases h : u < 128
    · cases f <;> cases g <;> simp [encF, h]
    · obtain ⟨f, rfl⟩ : ∃ f', f = f' + 1 := ⟨f - 1, by omega⟩
      obtain ⟨g, rfl⟩ : ∃ g', g = g' + 1 := ⟨g - 1, by omega⟩
      rw [encF, encF, if_neg h, if_neg h, ih (u / 128) f g (by omega) (by omega) (by omega)]

theorem enc_small {u : Nat} (h : u < 128) : enc u = [UInt8.ofNat u] := by
  unfold enc
  cases u with
  | zero => rfl
  | succ u => rw [encF, if_pos h]
theorem enc_big {u : Nat} (h : 128 ≤ u) : enc u = UInt8.ofNat (u % 128 + 128) :: enc (u / 128) := by
  obtain ⟨f, hf⟩ : ∃ f, u = f + 1 := ⟨u - 1, by omega⟩
  have e : encF u u = UInt8.ofNat (u % 128 + 128) :: encF f (u / 128) := by
    rw [show encF u u = encF (f + 1) u by rw [← hf], encF, if_neg (Nat.not_lt.2 h)]
  unfold enc
  rw [e, encF_same f (u / 128) f (u / 128) (by omega) (by omega) (Nat.le_refl _)]

/-- What is done of a number behind k bytes. -/
def encTo (u : Nat) : Nat → List UInt8
  | 0 => []
  | k + 1 => encTo u k ++ [UInt8.ofNat (u / 128 ^ k % 128 + 128)]
theorem encTo_length (u k : Nat) : (encTo u k).length = k := by
  induction k with
  | zero => rfl
  | succ k ih => simp [encTo, ih]
theorem enc_split (u k : Nat) (h : ∀ j, j < k → 128 ≤ u / 128 ^ j) : enc u = encTo u k ++ enc (u / 128 ^ k) := by
  induction k with
  | zero => simp [encTo]
  | succ k ih =>
    rw [ih (fun j hj => h j (by omega)), enc_big (h k (by omega)), encTo, Nat.div_div_eq_div_mul, Nat.pow_succ]
    simp

theorem enc_length_le (n : Nat) : ∀ u, u < 128 ^ n → (enc u).length ≤ n + 1 := by
  induction n with
  | zero => intro u hu; rw [enc_small (by omega)]; simp
  | succ n ih =>
    intro u hu
    by_cases h : u < 128
    · rw [enc_small h]; simp
    · rw [enc_big (by omega), List.length_cons]
      have := ih (u / 128) (by rw [Nat.pow_succ] at hu; exact Nat.div_lt_of_lt_mul (by rw [Nat.mul_comm]; exact hu))
      omega

/-- The number that n is told as. -/
def fold (n : Int) : Nat := if n < 0 then (-2 * n - 1).toNat else (2 * n).toNat

/-- What stands behind k bytes: X is still to be told, the cells are told. -/
structure PutAt (u k X : Nat) (C : Array Value) : Prop where
  rest : X = u / 128 ^ k
  big : ∀ j, j < k → 128 ≤ u / 128 ^ j
  cell : ∀ j, j < k → C[j]? = some (.int .u8 ((u / 128 ^ j % 128 + 128 : Nat) : Int))
theorem PutAt.start (u : Nat) (C : Array Value) : PutAt u 0 u C := ⟨by simp, fun _ h => absurd h (by omega), fun _ h => absurd h (by omega)⟩
theorem lt_nine {u k X : Nat} (h3 : X = u / 128 ^ k) (hX : 128 ≤ X) (hu : u < 18446744073709551616) : k < 9 := by
  rcases Nat.lt_or_ge k 9 with h9 | h9
  · exact h9
  · have h1 : 128 ^ 9 ≤ 128 ^ k := Nat.pow_le_pow_right (by omega) h9
    have h2 : u / 128 ^ k ≤ u / 128 ^ 9 := Nat.div_le_div_left h1 (by decide)
    have h4 : u / 128 ^ 9 < 2 := by omega
    omega
theorem PutAt.lt {u k X : Nat} {C : Array Value} (h : PutAt u k X C) (hX : 128 ≤ X) (hu : u < 18446744073709551616) : k < 9 := lt_nine h.rest hX hu
theorem PutAt.step {u k X : Nat} {C : Array Value} (h : PutAt u k X C) (hX : 128 ≤ X) (hk : k < C.size) :
    PutAt u (k + 1) (X / 128) (C.setIfInBounds k (.int .u8 ((X % 128 + 128 : Nat) : Int))) := by
  refine ⟨?_, ?_, ?_⟩
  · rw [h.rest, Nat.div_div_eq_div_mul, Nat.pow_succ]
  · intro j hj
    rcases Nat.lt_succ_iff_lt_or_eq.1 hj with h' | rfl
    · exact h.big j h'
    · rw [← h.rest]; exact hX
  · intro j hj
    rcases Nat.lt_succ_iff_lt_or_eq.1 hj with h' | rfl
    · rw [Array.getElem?_setIfInBounds_ne (by omega)]; exact h.cell j h'
    · rw [Array.getElem?_setIfInBounds_self_of_lt hk, h.rest]

theorem encTo_get (u k j : Nat) (h : j < k) : (encTo u k)[j]? = some (UInt8.ofNat (u / 128 ^ j % 128 + 128)) := by
  induction k with
  | zero => omega
  | succ k ih =>
    rw [encTo]
    rcases Nat.lt_succ_iff_lt_or_eq.1 h with h' | rfl
    · rw [List.getElem?_append_left (by rw [encTo_length]; exact h')]; exact ih h'
    · rw [List.getElem?_append_right (by rw [encTo_length]; exact Nat.le_refl _), encTo_length]; simp
theorem PutAt.enc {u k X : Nat} {C : Array Value} (h : PutAt u k X C) (hX : X < 128) : enc u = encTo u k ++ [UInt8.ofNat X] := by
  rw [enc_split u k h.big, ← h.rest, enc_small hX]
theorem PutAt.length {u k X : Nat} {C : Array Value} (h : PutAt u k X C) (hX : X < 128) : (Pl.enc u).length = k + 1 := by
  rw [h.enc hX]; simp [encTo_length]
theorem PutAt.bytes {u k X : Nat} {C : Array Value} (h : PutAt u k X C) (hX : X < 128) (hk : k < C.size) (j : Nat) (hj : j < (Pl.enc u).length) :
    (C.setIfInBounds k (.int .u8 (X : Int)))[j]? = some (.int .u8 ((Pl.enc u)[j].toNat : Int)) := by
  have hl := h.length hX
  have hg : (Pl.enc u)[j]? = some (Pl.enc u)[j] := List.getElem?_eq_getElem hj
  generalize (Pl.enc u)[j] = b at hg ⊢
  rw [h.enc hX] at hg
  rcases Nat.lt_or_ge j k with hjk | hjk
  · rw [List.getElem?_append_left (by rw [encTo_length]; exact hjk), encTo_get u k j hjk] at hg
    have hg := (Option.some.inj hg).symm
    rw [Array.getElem?_setIfInBounds_ne (by omega), h.cell j hjk]
    subst hg
    simp [UInt8.toNat_ofNat']
    omega
  · obtain rfl : j = k := by omega
    rw [List.getElem?_append_right (by rw [encTo_length]; exact Nat.le_refl _), encTo_length] at hg
    have hg : UInt8.ofNat X = b := by simpa using hg
    rw [Array.getElem?_setIfInBounds_self_of_lt hk]
    subst hg
    simp [UInt8.toNat_ofNat']
    omega

/-- A byte as a cell. -/
def byteVal (b : UInt8) : Value := .int .u8 (b.toNat : Int)
/-- What stands behind k bytes: X is still to be told. -/
structure EncAt (u k X : Nat) : Prop where
  rest : X = u / 128 ^ k
  big : ∀ j, j < k → 128 ≤ u / 128 ^ j
theorem EncAt.start (u : Nat) : EncAt u 0 u := ⟨by simp, fun _ h => absurd h (by omega)⟩
theorem EncAt.lt {u k X : Nat} (h : EncAt u k X) (hX : 128 ≤ X) (hu : u < 18446744073709551616) : k < 9 := lt_nine h.rest hX hu
theorem EncAt.step {u k X : Nat} (h : EncAt u k X) (hX : 128 ≤ X) : EncAt u (k + 1) (X / 128) := by
  refine ⟨?_, ?_⟩
  · rw [h.rest, Nat.div_div_eq_div_mul, Nat.pow_succ]
  · intro j hj
    rcases Nat.lt_succ_iff_lt_or_eq.1 hj with h' | rfl
    · exact h.big j h'
    · rw [← h.rest]; exact hX
theorem EncAt.enc {u k X : Nat} (h : EncAt u k X) (hX : X < 128) : Pl.enc u = encTo u k ++ [UInt8.ofNat X] := by
  rw [enc_split u k h.big, ← h.rest, enc_small hX]
theorem EncAt.cells {u k X : Nat} (h : EncAt u k X) : (encTo u k).map byteVal ++ [.int .u8 ((X : Int) % 128 + 128)] = (encTo u (k + 1)).map byteVal := by
  rw [encTo, List.map_append, ← h.rest]
  congr 1
  simp [byteVal, UInt8.toNat_ofNat']
  omega
theorem EncAt.last {u k X : Nat} (h : EncAt u k X) (hX : X < 128) : (encTo u k).map byteVal ++ [.int .u8 (X : Int)] = (Pl.enc u).map byteVal := by
  rw [h.enc hX, List.map_append]
  congr 1
  simp [byteVal, UInt8.toNat_ofNat']
  omega
theorem EncAt.length {u k X : Nat} (h : EncAt u k X) (hX : X < 128) : (Pl.enc u).length = k + 1 := by rw [h.enc hX]; simp [encTo_length]

theorem fold_neg {n : Int} (h : n < 0) : (fold n : Int) = -2 * n - 1 := by rw [fold, if_pos h]; omega
theorem fold_pos {n : Int} (h : 0 ≤ n) : (fold n : Int) = 2 * n := by rw [fold, if_neg (by omega)]; omega
theorem fold_lt {n : Int} (h1 : -9223372036854775808 ≤ n) (h2 : n ≤ 9223372036854775807) : fold n < 18446744073709551616 := by
  by_cases h : n < 0
  · have := fold_neg h; omega
  · have := fold_pos (n := n) (by omega); omega
theorem turned64 (a : Nat) (h : a < 18446744073709551616) : a ^^^ 18446744073709551615 = 18446744073709551615 - a := by
  have h1 : (18446744073709551615 : Nat) - a = 2 ^ 64 - (a + 1) := by omega
  rw [h1]
  apply Nat.eq_of_testBit_eq
  intro i
  rw [Nat.testBit_two_pow_sub_succ h, Nat.testBit_xor]
  have h2 : (18446744073709551615 : Nat) = 2 ^ 64 - 1 := rfl
  rw [h2, Nat.testBit_two_pow_sub_one]
  by_cases hi : i < 64
  · simp [hi]
  · have : a.testBit i = false := Nat.testBit_lt_two_pow (Nat.lt_of_lt_of_le h (by
      have : (18446744073709551616 : Nat) = 2 ^ 64 := rfl
      rw [this]; exact Nat.pow_le_pow_right (by omega) (by omega)))
    simp [hi, this]
theorem not64_form (R : Nat) (hR : R < 18446744073709551616) : bits .xor .u64 IntKind.u64.max (R : Int) = ((18446744073709551615 - R : Nat) : Int) := by
  have h := u64_xor_nat 18446744073709551615 R (by omega) hR
  rw [Nat.xor_comm, turned64 R hR] at h
  exact h
theorem foldNot_form (n : Int) (h1 : -9223372036854775808 ≤ n) (h2 : n < 0) :
    bits .xor .u64 IntKind.u64.max (IntKind.u64.wrap (IntKind.u64.wrap n * 2)) = (fold n : Int) := by
  have e : IntKind.u64.wrap (IntKind.u64.wrap n * 2) = ((2 * n + 18446744073709551616).toNat : Int) := by
    rw [IntKind.wrap_u64, IntKind.wrap_u64]; omega
  rw [e, not64_form _ (by omega), fold_neg h2]
  omega
theorem low7_form (u : Nat) (h : u < 18446744073709551616) : bits .and .u64 (u : Int) 127 = ((u % 128 : Nat) : Int) := by
  have h4 := u64_and_nat u 127 h (by omega)
  have h5 := Nat.and_two_pow_sub_one_eq_mod u 7
  have e : (2 ^ 7 - 1 : Nat) = 127 := rfl
  rw [e] at h5
  rw [h5] at h4
  exact h4

/-- One bit of the CRC. -/
def crcBit (r : Nat) : Nat := if r % 2 = 1 then (r / 2) ^^^ 3988292384 else r / 2
/-- k bits. -/
def crcBits : Nat → Nat → Nat
  | 0, r => r
  | k + 1, r => crcBit (crcBits k r)
/-- One byte. -/
def crcByte (r : Nat) (b : UInt8) : Nat := crcBits 8 (r ^^^ b.toNat)
/-- A text. -/
def crcReg (r : Nat) (l : List UInt8) : Nat := l.foldl crcByte r

theorem crcBit_lt {r : Nat} (h : r < 4294967296) : crcBit r < 4294967296 := by
  unfold crcBit
  split
  · exact Nat.xor_lt_two_pow (n := 32) (by omega) (by omega)
  · omega
theorem crcBits_lt {r : Nat} (k : Nat) (h : r < 4294967296) : crcBits k r < 4294967296 := by
  induction k with
  | zero => exact h
  | succ k ih => exact crcBit_lt ih
theorem crcByte_lt {r : Nat} (b : UInt8) (h : r < 4294967296) : crcByte r b < 4294967296 :=
  crcBits_lt 8 (Nat.xor_lt_two_pow (n := 32) h (by have := b.toNat_lt; omega))
theorem crcReg_lt (l : List UInt8) : ∀ {r : Nat}, r < 4294967296 → crcReg r l < 4294967296 := by
  induction l with
  | nil => intro r h; exact h
  | cons b l ih => intro r h; exact ih (crcByte_lt b h)
theorem crcReg_snoc (r : Nat) (l : List UInt8) (b : UInt8) : crcReg r (l ++ [b]) = crcByte (crcReg r l) b := by
  simp [crcReg]
theorem crcReg_append (r : Nat) (l m : List UInt8) : crcReg r (l ++ m) = crcReg (crcReg r l) m := by
  simp [crcReg]

/-- The other way to take in a byte: its bits are held against the register one by one. -/
def oddBit (r b : Nat) (j : Nat) : Nat := (r ^^^ (b >>> j)) % 2
def otherBit (r b : Nat) (j : Nat) : Nat := if oddBit r b j = 1 then (r / 2) ^^^ 3988292384 else r / 2
def otherBits (r b : Nat) : Nat → Nat
  | 0 => r
  | k + 1 => otherBit (otherBits r b k) b k
theorem xor_half (a b : Nat) : (a ^^^ b) / 2 = a / 2 ^^^ b / 2 := by
  have h := @Nat.shiftRight_xor_distrib 1 a b
  simpa [Nat.shiftRight_eq_div_pow] using h
theorem other_eq (r b k : Nat) : crcBits k (r ^^^ b) = otherBits r b k ^^^ (b >>> k) := by
  induction k with
  | zero => simp [crcBits, otherBits]
  | succ k ih =>
    have hs : b >>> (k + 1) = (b >>> k) / 2 := by rw [Nat.shiftRight_succ]
    rw [crcBits, otherBits, ih, crcBit, otherBit, oddBit, hs, xor_half]
    by_cases h : (otherBits r b k ^^^ b >>> k) % 2 = 1
    · rw [if_pos h, if_pos h, Nat.xor_assoc, Nat.xor_assoc, Nat.xor_comm (b >>> k / 2)]
    · rw [if_neg h, if_neg h]
theorem other_byte (r : Nat) (b : UInt8) : otherBits r b.toNat 8 = crcByte r b := by
  have h := other_eq r b.toNat 8
  have hb : b.toNat >>> 8 = 0 := by
    rw [Nat.shiftRight_eq_div_pow]
    have := b.toNat_lt
    omega
  rw [hb, Nat.xor_zero] at h
  exact h.symm
theorem otherBit_lt {r : Nat} (b j : Nat) (h : r < 4294967296) : otherBit r b j < 4294967296 := by
  unfold otherBit
  split
  · exact Nat.xor_lt_two_pow (n := 32) (by omega) (by omega)
  · omega
theorem otherBits_lt {r : Nat} (b k : Nat) (h : r < 4294967296) : otherBits r b k < 4294967296 := by
  induction k with
  | zero => exact h
  | succ k ih => exact otherBit_lt b k ih
/-- All bits turned. -/
theorem turned (a : Nat) (h : a < 4294967296) : a ^^^ 4294967295 = 4294967295 - a := by
  have h1 : (4294967295 : Nat) - a = 2 ^ 32 - (a + 1) := by omega
  rw [h1]
  apply Nat.eq_of_testBit_eq
  intro i
  rw [Nat.testBit_two_pow_sub_succ h, Nat.testBit_xor]
  have h2 : (4294967295 : Nat) = 2 ^ 32 - 1 := rfl
  rw [h2, Nat.testBit_two_pow_sub_one]
  by_cases hi : i < 32
  · simp [hi]
  · have : a.testBit i = false := Nat.testBit_lt_two_pow (Nat.lt_of_lt_of_le h (by
      have : (4294967296 : Nat) = 2 ^ 32 := rfl
      rw [this]; exact Nat.pow_le_pow_right (by omega) (by omega)))
    simp [hi, this]

/-! ### Texts put together -/
/-- How many bytes texts have together. -/
def tot (ts : List ByteArray) : Nat := (ts.map ByteArray.size).sum
/-- The bytes of texts, one behind the other. -/
def cat (ts : List ByteArray) : List UInt8 := (ts.map fun t => t.data.toList).flatten
theorem cat_length (ts : List ByteArray) : (cat ts).length = tot ts := by
  induction ts with
  | nil => rfl
  | cons t ts ih =>
    have h1 : (cat (t :: ts)).length = t.data.toList.length + (cat ts).length := by simp [cat]
    have h2 : tot (t :: ts) = t.size + tot ts := by simp [tot]
    rw [h1, h2, ih]; rfl
theorem tot_snoc (ts : List ByteArray) (k : Nat) (t : ByteArray) (h : ts[k]? = some t) : tot (ts.take (k + 1)) = tot (ts.take k) + t.size := by
  rw [List.take_add_one, h]; simp [tot]
theorem cat_snoc (ts : List ByteArray) (k : Nat) (t : ByteArray) (h : ts[k]? = some t) : cat (ts.take (k + 1)) = cat (ts.take k) ++ t.data.toList := by
  rw [List.take_add_one, h]; simp [cat]
theorem tot_le (ts : List ByteArray) (k : Nat) : tot (ts.take k) ≤ tot ts := by
  have h : tot ts = tot (ts.take k) + tot (ts.drop k) := by
    have e : ∀ a b : List ByteArray, tot (a ++ b) = tot a + tot b := fun a b => by simp [tot]
    have := e (ts.take k) (ts.drop k)
    rwa [List.take_append_drop] at this
  omega
theorem cat_two (a b : ByteArray) : cat [a, b] = a.data.toList ++ b.data.toList := by simp [cat]
theorem cat_one (a : ByteArray) : cat [a] = a.data.toList := by simp [cat]
theorem tot_two (a b : ByteArray) : tot [a, b] = a.size + b.size := by simp [tot]
theorem tot_one (a : ByteArray) : tot [a] = a.size := by simp [tot]
theorem put_behind (a : List UInt8) (s : ByteArray) : (⟨a.toArray⟩ : ByteArray) ++ s = ⟨(a ++ s.data.toList).toArray⟩ := by
  apply ByteArray.ext
  simp
theorem put_after (a : List UInt8) (s : ByteArray) : s ++ (⟨a.toArray⟩ : ByteArray) = ⟨(s.data.toList ++ a).toArray⟩ := by
  apply ByteArray.ext
  simp
/-- The cells behind k texts. -/
theorem part_step {ts : List ByteArray} {k : Nat} {t : ByteArray} {cur : Array Value} (h : ts[k]? = some t)
    (hp : cur.toList.take (tot (ts.take k)) = (cat (ts.take k)).map byteVal) :
    (cur.toList.take (tot (ts.take k)) ++ t.data.toList.map byteVal ++ cur.toList.drop (tot (ts.take k) + t.size)).toArray.toList.take (tot (ts.take (k + 1))) = (cat (ts.take (k + 1))).map byteVal := by
  have hl : (cat (ts.take (k + 1))).length = tot (ts.take (k + 1)) := cat_length _
  rw [hp, ← List.map_append, ← cat_snoc ts k t h, List.take_append_of_le_length (by rw [List.length_map, hl]; exact Nat.le_refl _), List.take_of_length_le (by rw [List.length_map, hl]; exact Nat.le_refl _)]

/-! ### The register in the walk's own forms -/
theorem odd_form (R b k : Nat) (hR : R < 4294967296) (hb : b < 256) :
    bits .and .u32 (bits .xor .u32 (R : Int) ((b : Int) / 2 ^ k % 4294967296)) 1 = ((oddBit R b k : Nat) : Int) := by
  have h0 : b / 2 ^ k ≤ b := Nat.div_le_self _ _
  have h1 : (b : Int) / 2 ^ k % 4294967296 = ((b >>> k : Nat) : Int) := by
    have e : ((b : Int) / 2 ^ k) = ((b / 2 ^ k : Nat) : Int) := by simp
    rw [e, Nat.shiftRight_eq_div_pow]
    generalize b / 2 ^ k = q at *
    omega
  have h2 : b >>> k < 4294967296 := by rw [Nat.shiftRight_eq_div_pow]; omega
  have h3 : R ^^^ b >>> k < 4294967296 := Nat.xor_lt_two_pow (n := 32) hR h2
  rw [h1, u32_xor_nat _ _ hR h2]
  have h4 := u32_and_nat _ 1 h3 (by omega)
  rw [Nat.and_one_is_mod] at h4
  exact h4
theorem low_form (R : Nat) (hR : R < 4294967296) : bits .and .u32 (R : Int) 1 = ((R % 2 : Nat) : Int) := by
  have h4 := u32_and_nat R 1 hR (by omega)
  rw [Nat.and_one_is_mod] at h4
  exact h4
theorem half_form (R : Nat) (hR : R < 4294967296) : bits .xor .u32 ((R : Int) / 2) 3988292384 = ((R / 2 ^^^ 3988292384 : Nat) : Int) := by
  have e : ((R : Int) / 2) = ((R / 2 : Nat) : Int) := by omega
  rw [e]
  exact u32_xor_nat _ 3988292384 (by omega) (by omega)
theorem turn_form (R : Nat) (hR : R < 4294967296) : bits .xor .u32 (R : Int) 4294967295 = ((4294967295 - R : Nat) : Int) := by
  have h := u32_xor_nat R 4294967295 hR (by omega)
  rw [turned R hR] at h
  exact h
theorem not_form (R : Nat) (hR : R < 4294967296) : bits .xor .u32 IntKind.u32.max (R : Int) = ((4294967295 - R : Nat) : Int) := by
  have h := u32_xor_nat 4294967295 R (by omega) hR
  rw [Nat.xor_comm, turned R hR] at h
  exact h
theorem byte_form (R : Nat) (b : UInt8) (hR : R < 4294967296) : bits .xor .u32 (R : Int) ((b.toNat : Int) % 4294967296) = ((R ^^^ b.toNat : Nat) : Int) := by
  have := b.toNat_lt
  rw [show (b.toNat : Int) % 4294967296 = (b.toNat : Int) by omega]
  exact u32_xor_nat _ _ hR (by omega)
theorem other_yes {r b k R : Nat} (h : R = otherBits r b k) (ho : ((oddBit R b k : Nat) : Int) = 1) : R / 2 ^^^ 3988292384 = otherBits r b (k + 1) := by
  subst h
  rw [otherBits, otherBit, if_pos (by omega)]
theorem other_no {r b k R : Nat} (h : R = otherBits r b k) (ho : ¬ ((oddBit R b k : Nat) : Int) = 1) : R / 2 = otherBits r b (k + 1) := by
  subst h
  rw [otherBits, otherBit, if_neg (by omega)]
theorem bits_yes {x k R : Nat} (h : R = crcBits k x) (ho : ((R % 2 : Nat) : Int) = 1) : R / 2 ^^^ 3988292384 = crcBits (k + 1) x := by
  subst h
  rw [crcBits, crcBit, if_pos (by omega)]
theorem bits_no {x k R : Nat} (h : R = crcBits k x) (ho : ¬ ((R % 2 : Nat) : Int) = 1) : R / 2 = crcBits (k + 1) x := by
  subst h
  rw [crcBits, crcBit, if_neg (by omega)]
/-- The CRC behind another one. -/
def crcOut (c : Nat) (l : List UInt8) : Nat := 4294967295 - crcReg (4294967295 - c) l
theorem crcOut_le (c : Nat) (l : List UInt8) : crcOut c l ≤ 4294967295 := Nat.sub_le _ _
/-- The four bytes of a number, the lowest first. -/
def four (n : Nat) : List UInt8 := [UInt8.ofNat n, UInt8.ofNat (n / 256), UInt8.ofNat (n / 65536), UInt8.ofNat (n / 16777216)]
/-- The byte at place j of them. -/
def fourAt (n j : Nat) : Nat := n / 2 ^ (8 * j) % 256
theorem four_get (n j : Nat) (h : j < 4) : (four n)[j]? = some (UInt8.ofNat (fourAt n j)) := by
  have hx : ∀ m, UInt8.ofNat (m % 256) = UInt8.ofNat m := fun m => by
    apply UInt8.toNat_inj.1; simp [UInt8.toNat_ofNat']
  match j, h with
  | 0, _ => simp [four, fourAt, hx]
  | 1, _ => simp [four, fourAt, hx]
  | 2, _ => simp [four, fourAt, hx]
  | 3, _ => simp [four, fourAt, hx]
theorem four_cell (n j : Nat) (h : j < 4) : ((four n).map byteVal)[j]? = some (.int .u8 (fourAt n j : Int)) := by
  rw [List.getElem?_map, four_get n j h]
  simp [byteVal, UInt8.toNat_ofNat', fourAt]
theorem four_direct (n : Nat) (hn : n < 4294967296) :
    (#[.int .u8 ((n : Int) % 256), .int .u8 ((n : Int) / 256 % 256), .int .u8 ((n : Int) / 65536 % 256), .int .u8 ((n : Int) / 16777216)] : Array Value).toList.take 4 = (four n).map byteVal := by
  simp [four, byteVal, UInt8.toNat_ofNat']
  omega
theorem four_cells {n : Nat} {C : Array Value} (hC : C.size = 4) (h : ∀ j, j < 4 → C[j]? = some (.int .u8 (fourAt n j : Int))) : C.toList.take 4 = (four n).map byteVal := by
  apply List.ext_getElem?
  intro j
  rcases Nat.lt_or_ge j 4 with hj | hj
  · rw [List.getElem?_take_of_lt hj, Array.getElem?_toList, h j hj, four_cell n j hj]
  · rw [List.getElem?_eq_none (by simp; omega), List.getElem?_eq_none (by simp [four]; omega)]
theorem four_step {n k : Nat} {C : Array Value} (hC : C.size = 4) (hk : k < 4) (h : ∀ j, j < k → C[j]? = some (.int .u8 (fourAt n j : Int))) :
    ∀ j, j < k + 1 → (C.setIfInBounds k (.int .u8 ((n : Int) / 2 ^ (8 * k) % 256)))[j]? = some (.int .u8 (fourAt n j : Int)) := by
  intro j hj
  rcases Nat.lt_succ_iff_lt_or_eq.1 hj with h' | rfl
  · rw [Array.getElem?_setIfInBounds_ne (by omega)]; exact h j h'
  · rw [Array.getElem?_setIfInBounds_self_of_lt (by omega)]
    simp [fourAt]
/-- CrcMore's answer. -/
def crcMore (c : Int) (s : ByteArray) : Int := if 8000 < s.size ∨ c < 0 ∨ 4294967295 < c then 0 else (crcOut c.toNat s.data.toList : Nat)
theorem crcMore_no {c : Int} {s : ByteArray} (h : 8000 < s.size ∨ c < 0 ∨ 4294967295 < c) : crcMore c s = 0 := by rw [crcMore, if_pos h]
theorem crcMore_yes {c : Nat} {s : ByteArray} (h : s.size ≤ 8000) (hc : c < 4294967296) : crcMore (c : Int) s = (crcOut c s.data.toList : Nat) := by
  rw [crcMore, if_neg (by omega)]; rfl
theorem take_snoc (s : ByteArray) (k : Nat) (h : k < s.size) : s.data.toList.take (k + 1) = s.data.toList.take k ++ [s[k]] := by
  rw [List.take_succ_eq_append_getElem (by simpa using h)]; rfl

/-- What may stand at place j of a name. -/
abbrev okAt (j n : Nat) : Prop := (97 ≤ n ∧ n ≤ 122) ∨ (j ≠ 0 ∧ ((48 ≤ n ∧ n ≤ 57) ∨ n = 95))
/-- Is it a name? -/
def nameB (s : ByteArray) : Bool := decide (1 ≤ s.size ∧ s.size ≤ 20 ∧ ∀ j, j < s.size → okAt j ((s.data.toList.getD j 0).toNat))
theorem byte_getD (s : ByteArray) (k : Nat) (h : k < s.size) : s.data.toList.getD k 0 = s[k] := by
  have h' : k < s.data.size := h
  simp only [List.getD, Array.getElem?_toList]
  rw [Array.getElem?_eq_getElem h']
  rfl
theorem nameB_short {s : ByteArray} (h : s.size < 1) : nameB s = false := decide_eq_false (by omega)
theorem nameB_long {s : ByteArray} (h : 20 < s.size) : nameB s = false := decide_eq_false (by omega)
theorem nameB_bad {s : ByteArray} (k : Nat) (h : k < s.size) (hb : ¬ okAt k s[k].toNat) : nameB s = false :=
  decide_eq_false (fun ⟨_, _, ha⟩ => hb (by have := ha k h; rwa [byte_getD s k h] at this))
theorem nameB_good {s : ByteArray} (h1 : ¬ s.size < 1) (h2 : ¬ 20 < s.size) (h : ∀ j, j < s.size → okAt j ((s.data.toList.getD j 0).toNat)) : nameB s = true :=
  decide_eq_true ⟨by omega, by omega, h⟩
theorem ok_step {s : ByteArray} {k : Nat} (h : ∀ j, j < k → okAt j ((s.data.toList.getD j 0).toNat)) (hk : k < s.size) (ho : okAt k s[k].toNat) :
    ∀ j, j < k + 1 → okAt j ((s.data.toList.getD j 0).toNat) := by
  intro j hj
  rcases Nat.lt_succ_iff_lt_or_eq.1 hj with h' | rfl
  · exact h j h'
  · rw [byte_getD s j hk]; exact ho

/-- The kinds of a byte, each test decided. -/
theorem kinds (n : Int) : (97 ≤ n ∧ n ≤ 122) ∨ (¬ 97 ≤ n ∧ 48 ≤ n ∧ n ≤ 57 ∧ (n != 95) = true) ∨ (¬ 97 ≤ n ∧ 48 ≤ n ∧ ¬ n ≤ 57 ∧ (n != 95) = true) ∨
    (¬ 97 ≤ n ∧ 48 ≤ n ∧ ¬ n ≤ 57 ∧ (n != 95) = false) ∨ (¬ 97 ≤ n ∧ ¬ 48 ≤ n ∧ (n != 95) = true) ∨ (97 ≤ n ∧ ¬ n ≤ 122 ∧ 48 ≤ n ∧ ¬ n ≤ 57 ∧ (n != 95) = true) := by
  simp only [bne_iff_ne, ne_eq, bne_eq_false_iff_eq]
  omega

end Pl
end Go.Proofs.YtlgbdbmikmbioaaDoor
