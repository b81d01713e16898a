/- Several texts of one claim in one file: Kit, Plain, Mem, MemTexts, MemVars, PlainPath, PlainGlue, PlainPar, PlainR, PlainLess, PlainNode, PlainTree, PlainLaw, PlainBelow, MemNodes, MemOwnN, MemBlk, MemAppend, PlainPut. -/
import Derived.Below
import Derived.Laws.BitsAllLaws
import Derived.WalkKit
import Derived.Laws.IdiomStrings
import Derived.Deep.Draws
import Derived.Laws.AppendOwn
import Derived.Deep.RegionHeld3
/- Small words for the walks: a fact kept from the walk, and got out again. -/
namespace Go.Proofs.YteddcihodfkliaaGreatDoor
open Go.RowKit
theorem hide {p : Prop} (h : p) : Hid p := h
theorem unhide {p : Prop} (h : Hid p) : p := h
theorem ret_bool {a b : Bool} (h : a = b) : Ending.returned (.bool a) = .returned (.bool b) := by rw [h]
theorem ret_string {a b : ByteArray} (h : a = b) : Ending.returned (.string a) = .returned (.string b) := by rw [h]
theorem ret_int {k : IntKind} {a b : Int} (h : a = b) : Ending.returned (.int k a) = .returned (.int k b) := by rw [h]
theorem bcell {W w1 : World} (hb : Below W.heap.size W w1) : (∀ b o, b < W.heap.size → w1.cell? ⟨b, o, none⟩ = W.cell? ⟨b, o, none⟩) ∧ (∀ b o, b < W.heap.size → w1.frozen? ⟨b, o, none⟩ = W.frozen? ⟨b, o, none⟩) :=
  ⟨fun b o h => hb.cell (p := ⟨b, o, none⟩) h, fun b o h => hb.frozen (p := ⟨b, o, none⟩) h⟩
theorem i64_of_wf {x : Int} (h : (Lit.int .i64 x).wf = true) : -9223372036854775808 ≤ x ∧ x ≤ 9223372036854775807 := by
  simp [Lit.wf, IntKind.min, IntKind.max, IntKind.signed, IntKind.bits] at h
  omega
end Go.Proofs.YteddcihodfkliaaGreatDoor

/- Plain facts on numbers, bytes and lists: the bytes of a number, the register of the CRC, names. No Go in sight. -/
namespace Go.Proofs.YteddcihodfkliaaGreatDoor
namespace Pl

/-- The bytes of a number, at most f + 1 of them: seven bits a byte, the lowest first. -/
def encF : Nat → Nat → List UInt8
  | 0, u => [UInt8.ofNat u]
  | f + 1, u => if u < 128 then [UInt8.ofNat u] else UInt8.ofNat (u % 128 + 128) :: encF f (u / 128)
/-- The bytes of a number. -/
def enc (u : Nat) : List UInt8 := encF u u
theorem encF_same (n : Nat) : ∀ u f g, u ≤ n → u ≤ f → u ≤ g → encF f u = encF g u := by
  induction n with
  | zero =>
    intro u f g hu _ _
    obtain rfl : u = 0 := by omega
    cases f <;> cases g <;> simp [encF]
  | succ n ih =>
    intro u f g hu hf hg
    by_cases h : u < 128
    · cases f <;> cases g <;> simp [encF, h]
    · obtain ⟨f, rfl⟩ : ∃ f', f = f' + 1 := ⟨f - 1, by omega⟩
      obtain ⟨g, rfl⟩ : ∃ g', g = g' + 1 := ⟨g - 1, by omega⟩
      rw [encF, encF, if_neg h, if_neg h, ih (u / 128) f g (by omega) (by omega) (by omega)]

theorem enc_small {u : Nat} (h : u < 128) : enc u = [UInt8.ofNat u] := by
  unfold enc
  cases u with
  | zero => rfl
  | succ u => rw [encF, if_pos h]
theorem enc_big {u : Nat} (h : 128 ≤ u) : enc u = UInt8.ofNat (u % 128 + 128) :: enc (u / 128) := by
  obtain ⟨f, hf⟩ : ∃ f, u = f + 1 := ⟨u - 1, by omega⟩
  have e : encF u u = UInt8.ofNat (u % 128 + 128) :: encF f (u / 128) := by
    rw [show encF u u = encF (f + 1) u by rw [← hf], encF, if_neg (Nat.not_lt.2 h)]
  unfold enc
  rw [e, encF_same f (u / 128) f (u / 128) (by omega) (by omega) (Nat.le_refl _)]

/-- What is done of a number behind k bytes. -/
def encTo (u : Nat) : Nat → List UInt8
  | 0 => []
  | k + 1 => encTo u k ++ [UInt8.ofNat (u / 128 ^ k % 128 + 128)]
theorem encTo_length (u k : Nat) : (encTo u k).length = k := by
  induction k with
  | zero => rfl
  | succ k ih => simp [encTo, ih]
theorem enc_split (u k : Nat) (h : ∀ j, j < k → 128 ≤ u / 128 ^ j) : enc u = encTo u k ++ enc (u / 128 ^ k) := by
  induction k with
  | zero => simp [encTo]
  | succ k ih =>
    rw [ih (fun j hj => h j (by omega)), enc_big (h k (by omega)), encTo, Nat.div_div_eq_div_mul, Nat.pow_succ]
    simp

theorem enc_length_le (n : Nat) : ∀ u, u < 128 ^ n → (enc u).length ≤ n + 1 := by
  induction n with
  | zero => intro u hu; rw [enc_small (by omega)]; simp
  | succ n ih =>
    intro u hu
    by_cases h : u < 128
    · rw [enc_small h]; simp
    · rw [enc_big (by omega), List.length_cons]
      have := ih (u / 128) (by rw [Nat.pow_succ] at hu; exact Nat.div_lt_of_lt_mul (by rw [Nat.mul_comm]; exact hu))
      omega

/-- The number that n is told as. -/
def fold (n : Int) : Nat := if n < 0 then (-2 * n - 1).toNat else (2 * n).toNat

/-- What stands behind k bytes: X is still to be told, the cells are told. -/
structure PutAt (u k X : Nat) (C : Array Value) : Prop where
  rest : X = u / 128 ^ k
  big : ∀ j, j < k → 128 ≤ u / 128 ^ j
  cell : ∀ j, j < k → C[j]? = some (.int .u8 ((u / 128 ^ j % 128 + 128 : Nat) : Int))
theorem PutAt.start (u : Nat) (C : Array Value) : PutAt u 0 u C := ⟨by simp, fun _ h => absurd h (by omega), fun _ h => absurd h (by omega)⟩
theorem lt_nine {u k X : Nat} (h3 : X = u / 128 ^ k) (hX : 128 ≤ X) (hu : u < 18446744073709551616) : k < 9 := by
  rcases Nat.lt_or_ge k 9 with h9 | h9
  · exact h9
  · have h1 : 128 ^ 9 ≤ 128 ^ k := Nat.pow_le_pow_right (by omega) h9
    have h2 : u / 128 ^ k ≤ u / 128 ^ 9 := Nat.div_le_div_left h1 (by decide)
    have h4 : u / 128 ^ 9 < 2 := by omega
    omega
theorem PutAt.lt {u k X : Nat} {C : Array Value} (h : PutAt u k X C) (hX : 128 ≤ X) (hu : u < 18446744073709551616) : k < 9 := lt_nine h.rest hX hu
theorem PutAt.step {u k X : Nat} {C : Array Value} (h : PutAt u k X C) (hX : 128 ≤ X) (hk : k < C.size) :
    PutAt u (k + 1) (X / 128) (C.setIfInBounds k (.int .u8 ((X % 128 + 128 : Nat) : Int))) := by
  refine ⟨?_, ?_, ?_⟩
  · rw [h.rest, Nat.div_div_eq_div_mul, Nat.pow_succ]
  · intro j hj
    rcases Nat.lt_succ_iff_lt_or_eq.1 hj with h' | rfl
    · exact h.big j h'
    · rw [← h.rest]; exact hX
  · intro j hj
    rcases Nat.lt_succ_iff_lt_or_eq.1 hj with h' | rfl
    · rw [Array.getElem?_setIfInBounds_ne (by omega)]; exact h.cell j h'
    · rw [Array.getElem?_setIfInBounds_self_of_lt hk, h.rest]

theorem encTo_get (u k j : Nat) (h : j < k) : (encTo u k)[j]? = some (UInt8.ofNat (u / 128 ^ j % 128 + 128)) := by
  induction k with
  | zero => omega
  | succ k ih =>
    rw [encTo]
    rcases Nat.lt_succ_iff_lt_or_eq.1 h with h' | rfl
    · rw [List.getElem?_append_left (by rw [encTo_length]; exact h')]; exact ih h'
    · rw [List.getElem?_append_right (by rw [encTo_length]; exact Nat.le_refl _), encTo_length]; simp
theorem PutAt.enc {u k X : Nat} {C : Array Value} (h : PutAt u k X C) (hX : X < 128) : enc u = encTo u k ++ [UInt8.ofNat X] := by
  rw [enc_split u k h.big, ← h.rest, enc_small hX]
theorem PutAt.length {u k X : Nat} {C : Array Value} (h : PutAt u k X C) (hX : X < 128) : (Pl.enc u).length = k + 1 := by
  rw [h.enc hX]; simp [encTo_length]
theorem PutAt.bytes {u k X : Nat} {C : Array Value} (h : PutAt u k X C) (hX : X < 128) (hk : k < C.size) (j : Nat) (hj : j < (Pl.enc u).length) :
    (C.setIfInBounds k (.int .u8 (X : Int)))[j]? = some (.int .u8 ((Pl.enc u)[j].toNat : Int)) := by
  have hl := h.length hX
  have hg : (Pl.enc u)[j]? = some (Pl.enc u)[j] := List.getElem?_eq_getElem hj
  generalize (Pl.enc u)[j] = b at hg ⊢
  rw [h.enc hX] at hg
  rcases Nat.lt_or_ge j k with hjk | hjk
  · rw [List.getElem?_append_left (by rw [encTo_length]; exact hjk), encTo_get u k j hjk] at hg
    have hg := (Option.some.inj hg).symm
    rw [Array.getElem?_setIfInBounds_ne (by omega), h.cell j hjk]
    subst hg
    simp [UInt8.toNat_ofNat']
    omega
  · obtain rfl : j = k := by omega
    rw [List.getElem?_append_right (by rw [encTo_length]; exact Nat.le_refl _), encTo_length] at hg
    have hg : UInt8.ofNat X = b := by simpa using hg
    rw [Array.getElem?_setIfInBounds_self_of_lt hk]
    subst hg
    simp [UInt8.toNat_ofNat']
    omega

/-- A byte as a cell. -/
def byteVal (b : UInt8) : Value := .int .u8 (b.toNat : Int)
/-- What stands behind k bytes: X is still to be told. -/
structure EncAt (u k X : Nat) : Prop where
  rest : X = u / 128 ^ k
  big : ∀ j, j < k → 128 ≤ u / 128 ^ j
theorem EncAt.start (u : Nat) : EncAt u 0 u := ⟨by simp, fun _ h => absurd h (by omega)⟩
theorem EncAt.lt {u k X : Nat} (h : EncAt u k X) (hX : 128 ≤ X) (hu : u < 18446744073709551616) : k < 9 := lt_nine h.rest hX hu
theorem EncAt.step {u k X : Nat} (h : EncAt u k X) (hX : 128 ≤ X) : EncAt u (k + 1) (X / 128) := by
  refine ⟨?_, ?_⟩
  · rw [h.rest, Nat.div_div_eq_div_mul, Nat.pow_succ]
  · intro j hj
    rcases Nat.lt_succ_iff_lt_or_eq.1 hj with h' | rfl
    · exact h.big j h'
    · rw [← h.rest]; exact hX
theorem EncAt.enc {u k X : Nat} (h : EncAt u k X) (hX : X < 128) : Pl.enc u = encTo u k ++ [UInt8.ofNat X] := by
  rw [enc_split u k h.big, ← h.rest, enc_small hX]
theorem EncAt.cells {u k X : Nat} (h : EncAt u k X) : (encTo u k).map byteVal ++ [.int .u8 ((X : Int) % 128 + 128)] = (encTo u (k + 1)).map byteVal := by
  rw [encTo, List.map_append, ← h.rest]
  congr 1
  simp [byteVal, UInt8.toNat_ofNat']
  omega
theorem EncAt.last {u k X : Nat} (h : EncAt u k X) (hX : X < 128) : (encTo u k).map byteVal ++ [.int .u8 (X : Int)] = (Pl.enc u).map byteVal := by
  rw [h.enc hX, List.map_append]
  congr 1
  simp [byteVal, UInt8.toNat_ofNat']
  omega
theorem EncAt.length {u k X : Nat} (h : EncAt u k X) (hX : X < 128) : (Pl.enc u).length = k + 1 := by rw [h.enc hX]; simp [encTo_length]

theorem fold_neg {n : Int} (h : n < 0) : (fold n : Int) = -2 * n - 1 := by rw [fold, if_pos h]; omega
theorem fold_pos {n : Int} (h : 0 ≤ n) : (fold n : Int) = 2 * n := by rw [fold, if_neg (by omega)]; omega
theorem fold_lt {n : Int} (h1 : -9223372036854775808 ≤ n) (h2 : n ≤ 9223372036854775807) : fold n < 18446744073709551616 := by
  by_cases h : n < 0
  · have := fold_neg h; omega
  · have := fold_pos (n := n) (by omega); omega
theorem turned64 (a : Nat) (h : a < 18446744073709551616) : a ^^^ 18446744073709551615 = 18446744073709551615 - a := by
  have h1 : (18446744073709551615 : Nat) - a = 2 ^ 64 - (a + 1) := by omega
  rw [h1]
  apply Nat.eq_of_testBit_eq
  intro i
  rw [Nat.testBit_two_pow_sub_succ h, Nat.testBit_xor]
  have h2 : (18446744073709551615 : Nat) = 2 ^ 64 - 1 := rfl
  rw [h2, Nat.testBit_two_pow_sub_one]
  by_cases hi : i < 64
  · simp [hi]
  · have : a.testBit i = false := Nat.testBit_lt_two_pow (Nat.lt_of_lt_of_le h (by
      have : (18446744073709551616 : Nat) = 2 ^ 64 := rfl
      rw [this]; exact Nat.pow_le_pow_right (by omega) (by omega)))
    simp [hi, this]
theorem not64_form (R : Nat) (hR : R < 18446744073709551616) : bits .xor .u64 IntKind.u64.max (R : Int) = ((18446744073709551615 - R : Nat) : Int) := by
  have h := u64_xor_nat 18446744073709551615 R (by omega) hR
  rw [Nat.xor_comm, turned64 R hR] at h
  exact h
theorem foldNot_form (n : Int) (h1 : -9223372036854775808 ≤ n) (h2 : n < 0) :
    bits .xor .u64 IntKind.u64.max (IntKind.u64.wrap (IntKind.u64.wrap n * 2)) = (fold n : Int) := by
  have e : IntKind.u64.wrap (IntKind.u64.wrap n * 2) = ((2 * n + 18446744073709551616).toNat : Int) := by
    rw [IntKind.wrap_u64, IntKind.wrap_u64]; omega
  rw [e, not64_form _ (by omega), fold_neg h2]
  omega
theorem low7_form (u : Nat) (h : u < 18446744073709551616) : bits .and .u64 (u : Int) 127 = ((u % 128 : Nat) : Int) := by
  have h4 := u64_and_nat u 127 h (by omega)
  have h5 := Nat.and_two_pow_sub_one_eq_mod u 7
  have e : (2 ^ 7 - 1 : Nat) = 127 := rfl
  rw [e] at h5
  rw [h5] at h4
  exact h4

/-- One bit of the CRC. -/
def crcBit (r : Nat) : Nat := if r % 2 = 1 then (r / 2) ^^^ 3988292384 else r / 2
/-- k bits. -/
def crcBits : Nat → Nat → Nat
  | 0, r => r
  | k + 1, r => crcBit (crcBits k r)
/-- One byte. -/
def crcByte (r : Nat) (b : UInt8) : Nat := crcBits 8 (r ^^^ b.toNat)
/-- A text. -/
def crcReg (r : Nat) (l : List UInt8) : Nat := l.foldl crcByte r

theorem crcBit_lt {r : Nat} (h : r < 4294967296) : crcBit r < 4294967296 := by
  unfold crcBit
  split
  · exact Nat.xor_lt_two_pow (n := 32) (by omega) (by omega)
  · omega
theorem crcBits_lt {r : Nat} (k : Nat) (h : r < 4294967296) : crcBits k r < 4294967296 := by
  induction k with
  | zero => exact h
  | succ k ih => exact crcBit_lt ih
theorem crcByte_lt {r : Nat} (b : UInt8) (h : r < 4294967296) : crcByte r b < 4294967296 :=
  crcBits_lt 8 (Nat.xor_lt_two_pow (n := 32) h (by have := b.toNat_lt; omega))
theorem crcReg_lt (l : List UInt8) : ∀ {r : Nat}, r < 4294967296 → crcReg r l < 4294967296 := by
  induction l with
  | nil => intro r h; exact h
  | cons b l ih => intro r h; exact ih (crcByte_lt b h)
theorem crcReg_snoc (r : Nat) (l : List UInt8) (b : UInt8) : crcReg r (l ++ [b]) = crcByte (crcReg r l) b := by
  simp [crcReg]
theorem crcReg_append (r : Nat) (l m : List UInt8) : crcReg r (l ++ m) = crcReg (crcReg r l) m := by
  simp [crcReg]

/-- The other way to take in a byte: its bits are held against the register one by one. -/
def oddBit (r b : Nat) (j : Nat) : Nat := (r ^^^ (b >>> j)) % 2
def otherBit (r b : Nat) (j : Nat) : Nat := if oddBit r b j = 1 then (r / 2) ^^^ 3988292384 else r / 2
def otherBits (r b : Nat) : Nat → Nat
  | 0 => r
  | k + 1 => otherBit (otherBits r b k) b k
theorem xor_half (a b : Nat) : (a ^^^ b) / 2 = a / 2 ^^^ b / 2 := by
  have h := @Nat.shiftRight_xor_distrib 1 a b
  simpa [Nat.shiftRight_eq_div_pow] using h
theorem other_eq (r b k : Nat) : crcBits k (r ^^^ b) = otherBits r b k ^^^ (b >>> k) := by
  induction k with
  | zero => simp [crcBits, otherBits]
  | succ k ih =>
    have hs : b >>> (k + 1) = (b >>> k) / 2 := by rw [Nat.shiftRight_succ]
    rw [crcBits, otherBits, ih, crcBit, otherBit, oddBit, hs, xor_half]
    by_cases h : (otherBits r b k ^^^ b >>> k) % 2 = 1
    · rw [if_pos h, if_pos h, Nat.xor_assoc, Nat.xor_assoc, Nat.xor_comm (b >>> k / 2)]
    · rw [if_neg h, if_neg h]
theorem other_byte (r : Nat) (b : UInt8) : otherBits r b.toNat 8 = crcByte r b := by
  have h := other_eq r b.toNat 8
  have hb : b.toNat >>> 8 = 0 := by
    rw [Nat.shiftRight_eq_div_pow]
    have := b.toNat_lt
    omega
  rw [hb, Nat.xor_zero] at h
  exact h.symm
theorem otherBit_lt {r : Nat} (b j : Nat) (h : r < 4294967296) : otherBit r b j < 4294967296 := by
  unfold otherBit
  split
  · exact Nat.xor_lt_two_pow (n := 32) (by omega) (by omega)
  · omega
theorem otherBits_lt {r : Nat} (b k : Nat) (h : r < 4294967296) : otherBits r b k < 4294967296 := by
  induction k with
  | zero => exact h
  | succ k ih => exact otherBit_lt b k ih
/-- All bits turned. -/
theorem turned (a : Nat) (h : a < 4294967296) : a ^^^ 4294967295 = 4294967295 - a := by
  have h1 : (4294967295 : Nat) - a = 2 ^ 32 - (a + 1) := by omega
  rw [h1]
  apply Nat.eq_of_testBit_eq
  intro i
  rw [Nat.testBit_two_pow_sub_succ h, Nat.testBit_xor]
  have h2 : (4294967295 : Nat) = 2 ^ 32 - 1 := rfl
  rw [h2, Nat.testBit_two_pow_sub_one]
  by_cases hi : i < 32
  · simp [hi]
  · have : a.testBit i = false := Nat.testBit_lt_two_pow (Nat.lt_of_lt_of_le h (by
      have : (4294967296 : Nat) = 2 ^ 32 := rfl
      rw [this]; exact Nat.pow_le_pow_right (by omega) (by omega)))
    simp [hi, this]

/-! ### Texts put together -/
/-- How many bytes texts have together. -/
def tot (ts : List ByteArray) : Nat := (ts.map ByteArray.size).sum
/-- The bytes of texts, one behind the other. -/
def cat (ts : List ByteArray) : List UInt8 := (ts.map fun t => t.data.toList).flatten
theorem cat_length (ts : List ByteArray) : (cat ts).length = tot ts := by
  induction ts with
  | nil => rfl
  | cons t ts ih =>
    have h1 : (cat (t :: ts)).length = t.data.toList.length + (cat ts).length := by simp [cat]
    have h2 : tot (t :: ts) = t.size + tot ts := by simp [tot]
    rw [h1, h2, ih]; rfl
theorem tot_snoc (ts : List ByteArray) (k : Nat) (t : ByteArray) (h : ts[k]? = some t) : tot (ts.take (k + 1)) = tot (ts.take k) + t.size := by
  rw [List.take_add_one, h]; simp [tot]
theorem cat_snoc (ts : List ByteArray) (k : Nat) (t : ByteArray) (h : ts[k]? = some t) : cat (ts.take (k + 1)) = cat (ts.take k) ++ t.data.toList := by
  rw [List.take_add_one, h]; simp [cat]
theorem tot_le (ts : List ByteArray) (k : Nat) : tot (ts.take k) ≤ tot ts := by
  have h : tot ts = tot (ts.take k) + tot (ts.drop k) := by
    have e : ∀ a b : List ByteArray, tot (a ++ b) = tot a + tot b := fun a b => by simp [tot]
    have := e (ts.take k) (ts.drop k)
    rwa [List.take_append_drop] at this
  omega
theorem cat_two (a b : ByteArray) : cat [a, b] = a.data.toList ++ b.data.toList := by simp [cat]
theorem cat_one (a : ByteArray) : cat [a] = a.data.toList := by simp [cat]
theorem tot_two (a b : ByteArray) : tot [a, b] = a.size + b.size := by simp [tot]
theorem tot_one (a : ByteArray) : tot [a] = a.size := by simp [tot]
theorem put_behind (a : List UInt8) (s : ByteArray) : (⟨a.toArray⟩ : ByteArray) ++ s = ⟨(a ++ s.data.toList).toArray⟩ := by
  apply ByteArray.ext
  simp
theorem put_after (a : List UInt8) (s : ByteArray) : s ++ (⟨a.toArray⟩ : ByteArray) = ⟨(s.data.toList ++ a).toArray⟩ := by
  apply ByteArray.ext
  simp
/-- The cells behind k texts. -/
theorem part_step {ts : List ByteArray} {k : Nat} {t : ByteArray} {cur : Array Value} (h : ts[k]? = some t)
    (hp : cur.toList.take (tot (ts.take k)) = (cat (ts.take k)).map byteVal) :
    (cur.toList.take (tot (ts.take k)) ++ t.data.toList.map byteVal ++ cur.toList.drop (tot (ts.take k) + t.size)).toArray.toList.take (tot (ts.take (k + 1))) = (cat (ts.take (k + 1))).map byteVal := by
  have hl : (cat (ts.take (k + 1))).length = tot (ts.take (k + 1)) := cat_length _
  rw [hp, ← List.map_append, ← cat_snoc ts k t h, List.take_append_of_le_length (by rw [List.length_map, hl]; exact Nat.le_refl _), List.take_of_length_le (by rw [List.length_map, hl]; exact Nat.le_refl _)]

/-! ### The register in the walk's own forms -/
theorem odd_form (R b k : Nat) (hR : R < 4294967296) (hb : b < 256) :
    bits .and .u32 (bits .xor .u32 (R : Int) ((b : Int) / 2 ^ k % 4294967296)) 1 = ((oddBit R b k : Nat) : Int) := by
  have h0 : b / 2 ^ k ≤ b := Nat.div_le_self _ _
  have h1 : (b : Int) / 2 ^ k % 4294967296 = ((b >>> k : Nat) : Int) := by
    have e : ((b : Int) / 2 ^ k) = ((b / 2 ^ k : Nat) : Int) := by simp
    rw [e, Nat.shiftRight_eq_div_pow]
    generalize b / 2 ^ k = q at *
    omega
  have h2 : b >>> k < 4294967296 := by rw [Nat.shiftRight_eq_div_pow]; omega
  have h3 : R ^^^ b >>> k < 4294967296 := Nat.xor_lt_two_pow (n := 32) hR h2
  rw [h1, u32_xor_nat _ _ hR h2]
  have h4 := u32_and_nat _ 1 h3 (by omega)
  rw [Nat.and_one_is_mod] at h4
  exact h4
theorem low_form (R : Nat) (hR : R < 4294967296) : bits .and .u32 (R : Int) 1 = ((R % 2 : Nat) : Int) := by
  have h4 := u32_and_nat R 1 hR (by omega)
  rw [Nat.and_one_is_mod] at h4
  exact h4
theorem half_form (R : Nat) (hR : R < 4294967296) : bits .xor .u32 ((R : Int) / 2) 3988292384 = ((R / 2 ^^^ 3988292384 : Nat) : Int) := by
  have e : ((R : Int) / 2) = ((R / 2 : Nat) : Int) := by omega
  rw [e]
  exact u32_xor_nat _ 3988292384 (by omega) (by omega)
theorem turn_form (R : Nat) (hR : R < 4294967296) : bits .xor .u32 (R : Int) 4294967295 = ((4294967295 - R : Nat) : Int) := by
  have h := u32_xor_nat R 4294967295 hR (by omega)
  rw [turned R hR] at h
  exact h
theorem not_form (R : Nat) (hR : R < 4294967296) : bits .xor .u32 IntKind.u32.max (R : Int) = ((4294967295 - R : Nat) : Int) := by
  have h := u32_xor_nat 4294967295 R (by omega) hR
  rw [Nat.xor_comm, turned R hR] at h
  exact h
theorem byte_form (R : Nat) (b : UInt8) (hR : R < 4294967296) : bits .xor .u32 (R : Int) ((b.toNat : Int) % 4294967296) = ((R ^^^ b.toNat : Nat) : Int) := by
  have := b.toNat_lt
  rw [show (b.toNat : Int) % 4294967296 = (b.toNat : Int) by omega]
  exact u32_xor_nat _ _ hR (by omega)
theorem other_yes {r b k R : Nat} (h : R = otherBits r b k) (ho : ((oddBit R b k : Nat) : Int) = 1) : R / 2 ^^^ 3988292384 = otherBits r b (k + 1) := by
  subst h
  rw [otherBits, otherBit, if_pos (by omega)]
theorem other_no {r b k R : Nat} (h : R = otherBits r b k) (ho : ¬ ((oddBit R b k : Nat) : Int) = 1) : R / 2 = otherBits r b (k + 1) := by
  subst h
  rw [otherBits, otherBit, if_neg (by omega)]
theorem bits_yes {x k R : Nat} (h : R = crcBits k x) (ho : ((R % 2 : Nat) : Int) = 1) : R / 2 ^^^ 3988292384 = crcBits (k + 1) x := by
  subst h
  rw [crcBits, crcBit, if_pos (by omega)]
theorem bits_no {x k R : Nat} (h : R = crcBits k x) (ho : ¬ ((R % 2 : Nat) : Int) = 1) : R / 2 = crcBits (k + 1) x := by
  subst h
  rw [crcBits, crcBit, if_neg (by omega)]
/-- The CRC behind another one. -/
def crcOut (c : Nat) (l : List UInt8) : Nat := 4294967295 - crcReg (4294967295 - c) l
theorem crcOut_le (c : Nat) (l : List UInt8) : crcOut c l ≤ 4294967295 := Nat.sub_le _ _
/-- The four bytes of a number, the lowest first. -/
def four (n : Nat) : List UInt8 := [UInt8.ofNat n, UInt8.ofNat (n / 256), UInt8.ofNat (n / 65536), UInt8.ofNat (n / 16777216)]
/-- The byte at place j of them. -/
def fourAt (n j : Nat) : Nat := n / 2 ^ (8 * j) % 256
theorem four_get (n j : Nat) (h : j < 4) : (four n)[j]? = some (UInt8.ofNat (fourAt n j)) := by
  have hx : ∀ m, UInt8.ofNat (m % 256) = UInt8.ofNat m := fun m => by
    apply UInt8.toNat_inj.1; simp [UInt8.toNat_ofNat']
  match j, h with
  | 0, _ => simp [four, fourAt, hx]
  | 1, _ => simp [four, fourAt, hx]
  | 2, _ => simp [four, fourAt, hx]
  | 3, _ => simp [four, fourAt, hx]
theorem four_cell (n j : Nat) (h : j < 4) : ((four n).map byteVal)[j]? = some (.int .u8 (fourAt n j : Int)) := by
  rw [List.getElem?_map, four_get n j h]
  simp [byteVal, UInt8.toNat_ofNat', fourAt]
theorem four_direct (n : Nat) (hn : n < 4294967296) :
    (#[.int .u8 ((n : Int) % 256), .int .u8 ((n : Int) / 256 % 256), .int .u8 ((n : Int) / 65536 % 256), .int .u8 ((n : Int) / 16777216)] : Array Value).toList.take 4 = (four n).map byteVal := by
  simp [four, byteVal, UInt8.toNat_ofNat']
  omega
theorem four_cells {n : Nat} {C : Array Value} (hC : C.size = 4) (h : ∀ j, j < 4 → C[j]? = some (.int .u8 (fourAt n j : Int))) : C.toList.take 4 = (four n).map byteVal := by
  apply List.ext_getElem?
  intro j
  rcases Nat.lt_or_ge j 4 with hj | hj
  · rw [List.getElem?_take_of_lt hj, Array.getElem?_toList, h j hj, four_cell n j hj]
  · rw [List.getElem?_eq_none (by simp; omega), List.getElem?_eq_none (by simp [four]; omega)]
theorem four_step {n k : Nat} {C : Array Value} (hC : C.size = 4) (hk : k < 4) (h : ∀ j, j < k → C[j]? = some (.int .u8 (fourAt n j : Int))) :
    ∀ j, j < k + 1 → (C.setIfInBounds k (.int .u8 ((n : Int) / 2 ^ (8 * k) % 256)))[j]? = some (.int .u8 (fourAt n j : Int)) := by
  intro j hj
  rcases Nat.lt_succ_iff_lt_or_eq.1 hj with h' | rfl
  · rw [Array.getElem?_setIfInBounds_ne (by omega)]; exact h j h'
  · rw [Array.getElem?_setIfInBounds_self_of_lt (by omega)]
    simp [fourAt]
/-- CrcMore's answer. -/
def crcMore (c : Int) (s : ByteArray) : Int := if 8000 < s.size ∨ c < 0 ∨ 4294967295 < c then 0 else (crcOut c.toNat s.data.toList : Nat)
theorem crcMore_no {c : Int} {s : ByteArray} (h : 8000 < s.size ∨ c < 0 ∨ 4294967295 < c) : crcMore c s = 0 := by rw [crcMore, if_pos h]
theorem crcMore_yes {c : Nat} {s : ByteArray} (h : s.size ≤ 8000) (hc : c < 4294967296) : crcMore (c : Int) s = (crcOut c s.data.toList : Nat) := by
  rw [crcMore, if_neg (by omega)]; rfl
theorem take_snoc (s : ByteArray) (k : Nat) (h : k < s.size) : s.data.toList.take (k + 1) = s.data.toList.take k ++ [s[k]] := by
  rw [List.take_succ_eq_append_getElem (by simpa using h)]; rfl

/-- What may stand at place j of a name. -/
abbrev okAt (j n : Nat) : Prop := (97 ≤ n ∧ n ≤ 122) ∨ (j ≠ 0 ∧ ((48 ≤ n ∧ n ≤ 57) ∨ n = 95))
/-- Is it a name? -/
def nameB (s : ByteArray) : Bool := decide (1 ≤ s.size ∧ s.size ≤ 20 ∧ ∀ j, j < s.size → okAt j ((s.data.toList.getD j 0).toNat))
theorem byte_getD (s : ByteArray) (k : Nat) (h : k < s.size) : s.data.toList.getD k 0 = s[k] := by
  have h' : k < s.data.size := h
  simp only [List.getD, Array.getElem?_toList]
  rw [Array.getElem?_eq_getElem h']
  rfl
theorem nameB_short {s : ByteArray} (h : s.size < 1) : nameB s = false := decide_eq_false (by omega)
theorem nameB_long {s : ByteArray} (h : 20 < s.size) : nameB s = false := decide_eq_false (by omega)
theorem nameB_bad {s : ByteArray} (k : Nat) (h : k < s.size) (hb : ¬ okAt k s[k].toNat) : nameB s = false :=
  decide_eq_false (fun ⟨_, _, ha⟩ => hb (by have := ha k h; rwa [byte_getD s k h] at this))
theorem nameB_good {s : ByteArray} (h1 : ¬ s.size < 1) (h2 : ¬ 20 < s.size) (h : ∀ j, j < s.size → okAt j ((s.data.toList.getD j 0).toNat)) : nameB s = true :=
  decide_eq_true ⟨by omega, by omega, h⟩
theorem ok_step {s : ByteArray} {k : Nat} (h : ∀ j, j < k → okAt j ((s.data.toList.getD j 0).toNat)) (hk : k < s.size) (ho : okAt k s[k].toNat) :
    ∀ j, j < k + 1 → okAt j ((s.data.toList.getD j 0).toNat) := by
  intro j hj
  rcases Nat.lt_succ_iff_lt_or_eq.1 hj with h' | rfl
  · exact h j h'
  · rw [byte_getD s j hk]; exact ho

/-- The kinds of a byte, each test decided. -/
theorem kinds (n : Int) : (97 ≤ n ∧ n ≤ 122) ∨ (¬ 97 ≤ n ∧ 48 ≤ n ∧ n ≤ 57 ∧ (n != 95) = true) ∨ (¬ 97 ≤ n ∧ 48 ≤ n ∧ ¬ n ≤ 57 ∧ (n != 95) = true) ∨
    (¬ 97 ≤ n ∧ 48 ≤ n ∧ ¬ n ≤ 57 ∧ (n != 95) = false) ∨ (¬ 97 ≤ n ∧ ¬ 48 ≤ n ∧ (n != 95) = true) ∨ (97 ≤ n ∧ ¬ n ≤ 122 ∧ 48 ≤ n ∧ ¬ n ≤ 57 ∧ (n != 95) = true) := by
  simp only [bne_iff_ne, ne_eq, bne_eq_false_iff_eq]
  omega

end Pl
end Go.Proofs.YteddcihodfkliaaGreatDoor

/- Memory of the call's own: bytes that were appended, read as a text; what stays below. No program in sight. -/
namespace Go.Proofs.YteddcihodfkliaaGreatDoor
open Go.RowKit
namespace Mem
theorem add_lit (b j : Nat) : (⟨b, 0, none⟩ : Addr).add j = ⟨b, j, none⟩ := by unfold Addr.add; split <;> simp_all

/-- 'string(b)' of bytes that the call itself has gathered. -/
theorem own_text {P : Program} {src dst e : TypeId} (hs : P.underlying src = some (.slice e)) (he : P.underlying e = some (.int .u8)) (hd : P.underlying dst = some .string)
    {w : World} {base : Nat} {v : Value} {n : Nat} (l : List UInt8) (hn : l.length = n) (h0 : 0 < n) (h : w.ownsRow base e 1 v n (l.map Pl.byteVal)) :
    (convert src dst v).run P w = .ok (.string ⟨l.toArray⟩) w := by
  subst hn
  rcases h.2 with ⟨_, h'⟩ | ⟨g, cap, cur, rfl, hb, hg, hcap, hm, hsz, ht⟩
  · omega
  refine run_convert_bytes_back w src dst e ⟨g, 0, none⟩ cap l hs he hd (fun j hj => ?_)
  rw [add_lit, cell_of_row w g j cur e (0, 0) hg]
  have h1 : (cur.toList.take (l.length * 1))[j]? = (l.map Pl.byteVal)[j]? := by rw [ht]
  rw [List.getElem?_take_of_lt (by omega)] at h1
  simpa [Pl.byteVal, hj] using h1

/-- 'string(b)' of a row of the call's own. -/
theorem row_text {P : Program} {src dst e : TypeId} (hs : P.underlying src = some (.slice e)) (he : P.underlying e = some (.int .u8)) (hd : P.underlying dst = some .string)
    {w : World} {g n cap : Nat} {cur : Array Value} {t : TypeId} (l : List UInt8) (hn : l.length = n) (hg : w.heap[g]? = some (.cells cur t (0, 0))) (ht : cur.toList.take n = l.map Pl.byteVal) :
    (convert src dst (.slice (some ⟨g, 0, none⟩) n cap)).run P w = .ok (.string ⟨l.toArray⟩) w := by
  subst hn
  refine run_convert_bytes_back w src dst e ⟨g, 0, none⟩ cap l hs he hd (fun j hj => ?_)
  rw [add_lit, cell_of_row w g j cur t (0, 0) hg]
  have h1 : (cur.toList.take l.length)[j]? = (l.map Pl.byteVal)[j]? := by rw [ht]
  rw [List.getElem?_take_of_lt (by omega)] at h1
  simpa [Pl.byteVal, hj] using h1

/-- Behind an append: old memory is as it was. -/
theorem below_append {B : Nat} {a w w1 : World} {o : Obj} {e : TypeId} {size n : Nat} {v : Value} {xs : List Value} (h : Below B a w) (hB : B ≤ a.heap.size) (hown : w.ownsRow B e size v n xs) (hg : (w.alloc o).grownBy w1 v.ownBlock) : Below B a w1 :=
  have hs := h.size
  (h.alloc (by omega) o).grown hg (by simp; omega) (fun k hk => (hown.lt k hk).1)

theorem one_new (w : World) (v : Value) (e : TypeId) : ∀ j u, [v][j]? = some u → (w.alloc (.cells #[v] e)).cell? ((⟨w.heap.size, 0, none⟩ : Addr).add j) = some u := by
  intro j u hj
  match j, hj with
  | 0, hj => simp at hj; subst hj; rw [add_lit]; simp
  | j + 1, hj => simp at hj
theorem one_cell (k : IntKind) (x : Int) : ∀ u ∈ [Value.int k x], u.oneCell' = true := by
  intro u hu; simp at hu; subst hu; rfl

theorem two_texts (w : World) (a b : ByteArray) (e : TypeId) : ∀ j t, [a, b][j]? = some t → (w.alloc (.cells #[.string a, .string b] e)).cell? ⟨w.heap.size, 0 + j, none⟩ = some (.string t) := by
  intro j t hj
  match j, hj with
  | 0, hj => simp at hj; subst hj; simp
  | 1, hj => simp at hj; subst hj; simp
  | j + 2, hj => simp at hj
theorem one_text (w : World) (a : ByteArray) (e : TypeId) : ∀ j t, [a][j]? = some t → (w.alloc (.cells #[.string a] e)).cell? ⟨w.heap.size, 0 + j, none⟩ = some (.string t) := by
  intro j t hj
  match j, hj with
  | 0, hj => simp at hj; subst hj; simp
  | j + 1, hj => simp at hj

theorem row_frozen {w : World} {g j : Nat} {cur : Array Value} {t : TypeId} (hg : w.heap[g]? = some (.cells cur t (0, 0))) : w.frozen? ⟨g, j, none⟩ = false := by
  simp [World.frozen?, hg]
/-- A variable of three cells behind a call that makes memory. -/
theorem kept3 {w W w' : World} {T : TypeId} {B : Nat} {x y z : Value} (b : Below W.heap.size W w') (hh : W.heap[B]? = some (.cells #[x, y, z] T (0, 0))) (hW : Below B w W) :
    (w'.cell? ⟨B, 0, none⟩ = some x ∧ w'.cell? ⟨B, 1, none⟩ = some y ∧ w'.cell? ⟨B, 2, none⟩ = some z) ∧
    (w'.frozen? ⟨B, 0, none⟩ = false ∧ w'.frozen? ⟨B, 1, none⟩ = false ∧ w'.frozen? ⟨B, 2, none⟩ = false) ∧ Below B w w' := by
  have hlt : B < W.heap.size := (Array.getElem?_eq_some_iff.1 hh).1
  have h' : w'.heap[B]? = some (.cells #[x, y, z] T (0, 0)) := (b.block B hlt).trans hh
  refine ⟨⟨?_, ?_, ?_⟩, ⟨row_frozen h', row_frozen h', row_frozen h'⟩, hW.trans (b.mono (Nat.le_of_lt hlt))⟩
  · rw [cell_of_row w' B 0 _ T (0, 0) h']; rfl
  · rw [cell_of_row w' B 1 _ T (0, 0) h']; rfl
  · rw [cell_of_row w' B 2 _ T (0, 0) h']; rfl
/-- .. and behind a new block and one more such call. -/
theorem again3 {w W w' : World} {o : Obj} {B : Nat} {x y z : Value} (b : Below (W.alloc o).heap.size (W.alloc o) w') (hlt : B < W.heap.size) (hW : Below B w W)
    (c0 : W.cell? ⟨B, 0, none⟩ = some x) (c1 : W.cell? ⟨B, 1, none⟩ = some y) (c2 : W.cell? ⟨B, 2, none⟩ = some z) (f0 : W.frozen? ⟨B, 0, none⟩ = false) (f1 : W.frozen? ⟨B, 1, none⟩ = false) (f2 : W.frozen? ⟨B, 2, none⟩ = false) :
    (w'.cell? ⟨B, 0, none⟩ = some x ∧ w'.cell? ⟨B, 1, none⟩ = some y ∧ w'.cell? ⟨B, 2, none⟩ = some z) ∧
    (w'.frozen? ⟨B, 0, none⟩ = false ∧ w'.frozen? ⟨B, 1, none⟩ = false ∧ w'.frozen? ⟨B, 2, none⟩ = false) ∧ Below B w w' := by
  have hs : W.heap.size ≤ (W.alloc o).heap.size := by simp
  have hb : Below W.heap.size W w' := ((Below.refl _ _).alloc (Nat.le_refl _) o).trans (b.mono hs)
  refine ⟨⟨?_, ?_, ?_⟩, ⟨?_, ?_, ?_⟩, hW.trans (hb.mono (Nat.le_of_lt hlt))⟩
  · rw [hb.cell hlt]; exact c0
  · rw [hb.cell hlt]; exact c1
  · rw [hb.cell hlt]; exact c2
  · rw [hb.frozen hlt]; exact f0
  · rw [hb.frozen hlt]; exact f1
  · rw [hb.frozen hlt]; exact f2

/-- The cells of 'make([]byte, n)'. -/
def zeros (n : Nat) : Array Value := madeCells (Value.int .u8 0).cells n
theorem zeros_size (n : Nat) : (zeros n).size = n := size_madeCells _ _
theorem make_bytes {P : Program} {T E : TypeId} (ht : P.underlying T = some (.slice E)) (hi : (P.info? E).map (fun i => (i.zero, i.size, i.bytes)) = some (some (.int .u8 0), 1, 1)) (n : Nat) (hn : n ≤ 1000000000) (w : World) :
    (Instr.makeSlice T (.int .i64 (n : Int)) (.int .i64 (n : Int))).run P w = .ok (.slice (some ⟨w.heap.size, 0, none⟩) n n) (w.alloc (.cells (zeros n) E)) := by
  obtain ⟨i0, h0, h1, h2, h3⟩ := info_parts hi
  have h := run_make (P := P) w T E i0 (.int .u8 0) ht h0 h1 .i64 .i64 (n : Int) (n : Int) (by omega) (Int.le_refl _) (by rw [h3]; omega) (by omega)
  rw [h, h2]
  simp [zeros]

theorem bytes_one (l : List UInt8) : ∀ v ∈ l.map Pl.byteVal, v.oneCell' = true := by
  intro v hv
  obtain ⟨b, _, rfl⟩ := List.mem_map.1 hv
  rfl
/-- 'copy(all[p:], t)' into a row of the call's own, the whole of t. -/
theorem copy_on {P : Program} {dT sT E : TypeId} (hu : P.underlying dT = some (.slice E)) (hz : ∀ w, (sizeOf E).run P w = .ok 1 w) (w : World) (B p N : Nat) (cur : Array Value)
    (hB : w.heap[B]? = some (.cells cur E (0, 0))) (hc : cur.size = N) (t : ByteArray) (hfit : p + t.size ≤ N) :
    ∃ D w', (∀ wx, (Instr.slice dT (.slice (some ⟨B, 0, none⟩) N N) (some (.int .i64 (p : Int))) none none).run P wx = .ok D wx) ∧
      (∀ ty, (Builtin.copy_ #[dT, sT] ty #[D, .string t]).run P w = .ok (.int .i64 (t.size : Int)) w') ∧
      w'.heap[B]? = some (.cells (cur.toList.take p ++ t.data.toList.map Pl.byteVal ++ cur.toList.drop (p + t.size)).toArray E (0, 0)) ∧ Below B w w' := by
  have ht : P.underlying dT = some (.slice (P.elem dT)) := by simp [Program.elem, hu]
  have he : P.elem dT = E := by simp [Program.elem, hu]
  have hsl : ∀ wx, (Instr.slice dT (.slice (some ⟨B, 0, none⟩) N N) (some (.int .i64 (p : Int))) none none).run P wx = .ok (sliced (some ⟨B, 0, none⟩) p N N 1) wx := by
    intro wx
    have h := run_slice_l (P := P) wx dT (some ⟨B, 0, none⟩) N N ht .i64 (p : Int) (by omega) (by omega)
    rw [h, he, hz]
    rfl
  by_cases hp : p = N
  · subst hp
    have h0 : t.size = 0 := by omega
    have hd : t.data = #[] := Array.eq_empty_of_size_eq_zero h0
    refine ⟨.slice (some ⟨B, 0, none⟩) 0 0, w, ?_, ?_, ?_, Below.refl _ _⟩
    · intro wx; rw [hsl]; simp [sliced]
    · intro ty
      simp [Builtin.copy_, run_underlying hu, Builtin.lenOf, Builtin.firstCells, hz, h0, goInt, storeCells]
    · rw [hB, h0, hd]; simp
  · have hlt : p < N := by omega
    have hlen : (t.data.toList.map Pl.byteVal).length = t.size := by rw [List.length_map]; rfl
    have hst := run_storeCells_at P B p E (t.data.toList.map Pl.byteVal) 0 cur w hB (by rw [hlen]; omega) (bytes_one _)
    rw [hlen] at hst
    simp only [Nat.add_zero] at hst
    refine ⟨.slice (some ⟨B, p, none⟩) (N - p) (N - p), _, ?_, ?_, setRow_heap w B cur _ E _ hB, ?_⟩
    · intro wx
      rw [hsl]
      have h1 : ¬ N = p := fun h => hp h.symm
      simp [sliced, h1, add_lit]
    · intro ty
      have hmin : Nat.min t.size (N - p) = t.size := Nat.min_eq_left (by omega)
      have htk : List.take t.size (List.map (fun b : UInt8 => Value.int IntKind.u8 (b.toNat : Int)) t.data.toList) = t.data.toList.map Pl.byteVal := by
        rw [List.take_of_length_le (by rw [List.length_map]; exact Nat.le_refl _)]; rfl
      simp [Builtin.copy_, run_underlying hu, Builtin.lenOf, Builtin.firstCells, hz, hmin]
      rw [htk, hst, List.append_assoc]
      rfl
    · exact ⟨rfl, rfl, rfl, by simp, fun k hk => setRow_other w B k _ (by omega)⟩
theorem own_mono {w : World} {B B' e size n : Nat} {v : Value} {xs : List Value} (h : w.ownsRow B e size v n xs) (hb : B' ≤ B) : w.ownsRow B' e size v n xs := by
  refine ⟨h.1, ?_⟩
  rcases h.2 with h0 | ⟨g, cap, cur, hv, hg, rest⟩
  · exact .inl h0
  · exact .inr ⟨g, cap, cur, hv, Nat.le_trans hb hg, rest⟩
theorem own_shape {w : World} {B e size n : Nat} {v : Value} {xs : List Value} (h : w.ownsRow B e size v n xs) : ∃ a cap, v = .slice a n cap := by
  rcases h.2 with ⟨rfl, rfl⟩ | ⟨g, cap, cur, rfl, _⟩
  · exact ⟨_, _, rfl⟩
  · exact ⟨_, _, rfl⟩
end Mem
end Go.Proofs.YteddcihodfkliaaGreatDoor

/- Rows of texts: of the call's own, handed on, cut, and kept behind calls. No program in sight. -/
namespace Go.Proofs.YteddcihodfkliaaGreatDoor
open Go.RowKit
namespace Mem
/-- A row of texts of the call's own: nil, or its cells. -/
theorem texts {w : World} {B T : Nat} {v : Value} {L : List ByteArray} (h : w.ownsRow B T 1 v L.length (L.map Value.string)) :
    (v = .slice none 0 0 ∧ L = []) ∨ ∃ g cap, v = .slice (some ⟨g, 0, none⟩) L.length cap ∧ L.length ≤ cap ∧ cap ≤ maxLen ∧ B ≤ g ∧ g < w.heap.size ∧ ∀ (k : Nat) t, L[k]? = some t → w.cell? ⟨g, k, none⟩ = some (.string t) := by
  rcases h.2 with ⟨rfl, h0⟩ | ⟨g, cap, cur, rfl, hgb, hg, hcap, hm, hsz, htk⟩
  · exact .inl ⟨rfl, List.eq_nil_of_length_eq_zero h0⟩
  · refine .inr ⟨g, cap, rfl, hcap, hm, hgb, (Array.getElem?_eq_some_iff.1 hg).1, fun k t ht => ?_⟩
    have hk := (List.getElem?_eq_some_iff.1 ht).1
    rw [cell_of_row w g k cur T (0, 0) hg]
    have h1 : (cur.toList.take (L.length * 1))[k]? = (L.map Value.string)[k]? := by rw [htk]
    rw [List.getElem?_take_of_lt (by omega), List.getElem?_map, ht] at h1
    simpa using h1
theorem one_str (t : ByteArray) : ∀ u ∈ [Value.string t], u.oneCell' = true := by
  intro u hu; simp at hu; subst hu; rfl
/-- A slice of texts: nil, or its cells (below the heap's end). -/
def isTexts (w : World) (v : Value) (ts : List ByteArray) : Prop :=
  (v = .slice none 0 0 ∧ ts = []) ∨ ∃ b o cap, v = .slice (some ⟨b, o, none⟩) ts.length cap ∧ b < w.heap.size ∧ ∀ (j : Nat) t, ts[j]? = some t → w.cell? ⟨b, o + j, none⟩ = some (.string t)
theorem own_texts {w : World} {B T : Nat} {v : Value} {L : List ByteArray} (h : w.ownsRow B T 1 v L.length (L.map Value.string)) : isTexts w v L := by
  rcases texts h with h | ⟨g, cap, h1, h2, h3, h4, h5, h6⟩
  · exact .inl h
  · exact .inr ⟨g, 0, cap, h1, h5, fun j t ht => by rw [Nat.zero_add]; exact h6 j t ht⟩
theorem take_texts {w : World} {g cap : Nat} {L : List ByteArray} (hg : g < w.heap.size) (hc : ∀ (k : Nat) t, L[k]? = some t → w.cell? ⟨g, k, none⟩ = some (.string t)) (n : Nat) (hn : n ≤ L.length) :
    isTexts w (.slice (some ⟨g, 0, none⟩) n cap) (L.take n) := by
  refine .inr ⟨g, 0, cap, by rw [List.length_take, Nat.min_eq_left hn], hg, fun j t ht => ?_⟩
  rw [Nat.zero_add]
  refine hc j t ?_
  have hj : j < n := by have := (List.getElem?_eq_some_iff.1 ht).1; rw [List.length_take] at this; omega
  rwa [List.getElem?_take_of_lt hj] at ht
theorem drop_texts {w : World} {g cap : Nat} {L : List ByteArray} (hg : g < w.heap.size) (hc : ∀ (k : Nat) t, L[k]? = some t → w.cell? ⟨g, k, none⟩ = some (.string t)) (n : Nat) :
    isTexts w (.slice (some ⟨g, n, none⟩) (L.length - n) cap) (L.drop n) := by
  refine .inr ⟨g, n, cap, by rw [List.length_drop], hg, fun j t ht => ?_⟩
  refine hc (n + j) t ?_
  rwa [List.getElem?_drop] at ht
theorem own_below {w w' : World} {B B' e size n : Nat} {v : Value} {xs : List Value} (h : w.ownsRow B e size v n xs) (hb : Below B' w w') (hB : ∀ k, v.ownBlock = some k → k < B') : w'.ownsRow B e size v n xs := by
  refine ⟨h.1, ?_⟩
  rcases h.2 with h0 | ⟨g, cap, cur, rfl, hgb, hg, rest⟩
  · exact .inl h0
  · exact .inr ⟨g, cap, cur, rfl, hgb, (hb.block g (hB g rfl)).trans hg, rest⟩
theorem own_call {w w' : World} {B e size n : Nat} {v : Value} {xs : List Value} (h : w.ownsRow B e size v n xs) (hb : Below w.heap.size w w') : w'.ownsRow B e size v n xs :=
  own_below h hb (fun k hk => (h.lt k hk).2)
theorem texts_call {w w' : World} {v : Value} {ts : List ByteArray} (h : isTexts w v ts) (hb : Below w.heap.size w w') : isTexts w' v ts := by
  rcases h with h | ⟨b, o, cap, rfl, hlt, hc⟩
  · exact .inl h
  · exact .inr ⟨b, o, cap, rfl, Nat.lt_of_lt_of_le hlt hb.size, fun j t ht => (hb.cell (p := ⟨b, o + j, none⟩) hlt).trans (hc j t ht)⟩
theorem below_drewN {B : Nat} {a w : World} (h : Below B a w) (q : Nat) : Below B a (w.drewN q) := h.trans ⟨rfl, rfl, rfl, Nat.le_refl _, fun _ _ => rfl⟩
/-- A slice of texts: its shape, and its cells in whatever world comes behind. -/
theorem texts_shape {w : World} {v : Value} {ts : List ByteArray} (h : isTexts w v ts) : ∃ a cap, v = .slice a ts.length cap := by
  rcases h with ⟨rfl, rfl⟩ | ⟨b, o, cap, rfl, _⟩ <;> exact ⟨_, _, rfl⟩
theorem own_textsN {w : World} {B T n : Nat} {v : Value} {L : List ByteArray} (h : w.ownsRow B T 1 v n (L.map Value.string)) (hn : L.length = n) : isTexts w v L := by
  subst hn; exact own_texts h
end Mem
end Go.Proofs.YteddcihodfkliaaGreatDoor

/- A variable of some cells, through calls. No program in sight. -/
namespace Go.Proofs.YteddcihodfkliaaGreatDoor
open Go.RowKit
namespace Mem
def Var (w : World) (B : Nat) (cs : List Value) : Prop := B < w.heap.size ∧ ∀ (j : Nat) v, cs[j]? = some v → w.cell? ⟨B, j, none⟩ = some v
theorem var_call {w w' : World} {B : Nat} {cs : List Value} (h : Var w B cs) (b : Below w.heap.size w w') : Var w' B cs :=
  ⟨Nat.lt_of_lt_of_le h.1 b.size, fun j v hv => (b.cell (p := ⟨B, j, none⟩) h.1).trans (h.2 j v hv)⟩
theorem var_new (w : World) (cs : List Value) (T : TypeId) : Var (w.alloc (.cells cs.toArray T)) w.heap.size cs :=
  ⟨by simp, fun j v hv => by rw [cell_of_row _ _ j _ T (0, 0) (heap_alloc_new w _)]; simpa using hv⟩
theorem var_alloc {w : World} {B : Nat} {cs : List Value} (h : Var w B cs) (o : Obj) : Var (w.alloc o) B cs :=
  var_call h ((Below.refl _ _).alloc (Nat.le_refl _) o)
theorem var_drew {w : World} {B : Nat} {cs : List Value} (h : Var w B cs) : Var w.drew B cs := h
theorem new_two (w : World) (o1 o2 : Obj) : ((w.alloc o1).alloc o2).heap[w.heap.size + 1]? = some o2 := by
  have h := heap_alloc_new (w.alloc o1) o2
  rwa [show (w.alloc o1).heap.size = w.heap.size + 1 by simp] at h
theorem new_mid (w : World) (o1 o2 o3 : Obj) : (((w.alloc o1).alloc o2).alloc o3).heap[w.heap.size + 1]? = some o2 :=
  ((World.grownBy_alloc ((w.alloc o1).alloc o2) o3 none).block (w.heap.size + 1) (by simp) (by simp)).trans (new_two w o1 o2)
theorem new_three (w : World) (o1 o2 o3 : Obj) : (((w.alloc o1).alloc o2).alloc o3).heap[w.heap.size + 1 + 1]? = some o3 := by
  have h := heap_alloc_new ((w.alloc o1).alloc o2) o3
  rwa [show ((w.alloc o1).alloc o2).heap.size = w.heap.size + 1 + 1 by simp] at h
end Mem
end Go.Proofs.YteddcihodfkliaaGreatDoor

/- Plain facts on texts cut at a byte, and on paths. No Go in sight. -/
namespace Go.Proofs.YteddcihodfkliaaGreatDoor
namespace Pl
/-- The pieces from byte k on, the piece at hand begins at 'from_'; f: how many bytes are left at most. -/
def cutF (s : ByteArray) (b : Nat) : Nat → Nat → Nat → List ByteArray
  | 0, from_, _ => [s.extract from_ s.size]
  | f + 1, from_, k => if (s.data.toList.getD k 0).toNat = b then s.extract from_ k :: cutF s b f (k + 1) (k + 1) else cutF s b f from_ (k + 1)
/-- A text cut at each byte b. -/
def cut (s : ByteArray) (b : Nat) : List ByteArray := cutF s b s.size 0 0
theorem cutF_hit {s : ByteArray} {b f from_ k : Nat} (h : k < s.size) (hb : s[k].toNat = b) : cutF s b (f + 1) from_ k = s.extract from_ k :: cutF s b f (k + 1) (k + 1) := by
  rw [cutF, byte_getD s k h, if_pos hb]
theorem cutF_miss {s : ByteArray} {b f from_ k : Nat} (h : k < s.size) (hb : s[k].toNat ≠ b) : cutF s b (f + 1) from_ k = cutF s b f from_ (k + 1) := by
  rw [cutF, byte_getD s k h, if_neg hb]
/-- The names of a path, whatever it is. -/
def names (s : ByteArray) : List ByteArray := if s.size = 0 then [] else cut s 47
/-- Is a path right? -/
def pathB (s : ByteArray) : Bool := decide (s.size ≤ 200) && (names s).all nameB && decide ((names s).length ≤ 6)
theorem pathB_long {s : ByteArray} (h : 200 < s.size) : pathB s = false := by simp [pathB]; omega
theorem pathB_bad {s : ByteArray} {k : Nat} {t : ByteArray} (h : (names s)[k]? = some t) (hb : nameB t = false) : pathB s = false := by
  have hm : t ∈ names s := List.mem_of_getElem? h
  have : (names s).all nameB = false := by
    rw [List.all_eq_false]; exact ⟨t, hm, by simp [hb]⟩
  simp [pathB, this]
theorem pathB_good {s : ByteArray} (h : s.size ≤ 200) (ha : ∀ (j : Nat) t, (names s)[j]? = some t → nameB t = true) : pathB s = decide ((names s).length ≤ 6) := by
  have : (names s).all nameB = true := by
    rw [List.all_eq_true]
    intro t ht
    obtain ⟨j, hj⟩ := List.mem_iff_getElem?.1 ht
    exact ha j t hj
  simp [pathB, this, h]
theorem cutF_length (s : ByteArray) (b : Nat) : ∀ f fr k, (cutF s b f fr k).length ≤ f + 1 := by
  intro f
  induction f with
  | zero => intro fr k; simp [cutF]
  | succ f ih =>
    intro fr k
    rw [cutF]
    split
    · have := ih (k + 1) (k + 1); simp; omega
    · have := ih fr (k + 1); omega
theorem names_length (s : ByteArray) : (names s).length ≤ s.size + 1 := by
  unfold names
  split
  · simp
  · exact cutF_length s 47 s.size 0 0
theorem cutF_size (s : ByteArray) (b : Nat) : ∀ f fr k t, t ∈ cutF s b f fr k → t.size ≤ s.size := by
  intro f
  induction f with
  | zero => intro fr k t ht; simp [cutF] at ht; subst ht; simp
  | succ f ih =>
    intro fr k t ht
    rw [cutF] at ht
    split at ht
    · rcases List.mem_cons.1 ht with rfl | ht
      · simp; omega
      · exact ih _ _ t ht
    · exact ih _ _ t ht
theorem names_size {s : ByteArray} {k : Nat} {t : ByteArray} (h : (names s)[k]? = some t) : t.size ≤ s.size := by
  have hm : t ∈ names s := List.mem_of_getElem? h
  unfold names at hm
  split at hm
  · simp at hm
  · exact cutF_size s 47 _ _ _ t hm
/-- The place of the last slash among the first k bytes; -1: there is none. -/
def slashTo (s : ByteArray) : Nat → Int
  | 0 => -1
  | k + 1 => if (s.data.toList.getD k 0).toNat = 47 then (k : Int) else slashTo s k
theorem slash_hit {s : ByteArray} {k : Nat} (h : k < s.size) (hb : s[k].toNat = 47) : slashTo s (k + 1) = (k : Int) := by
  rw [slashTo, byte_getD s k h, if_pos hb]
theorem slash_miss {s : ByteArray} {k : Nat} (h : k < s.size) (hb : s[k].toNat ≠ 47) : slashTo s (k + 1) = slashTo s k := by
  rw [slashTo, byte_getD s k h, if_neg hb]
theorem slash_lt (s : ByteArray) (k : Nat) : -1 ≤ slashTo s k ∧ slashTo s k < (k : Int) := by
  induction k with
  | zero => simp [slashTo]
  | succ k ih =>
    rw [slashTo]
    split <;> omega
/-- The parent of a path. -/
def parent (s : ByteArray) : ByteArray := if slashTo s s.size < 0 then ⟨#[]⟩ else s.extract 0 (slashTo s s.size).toNat
end Pl
end Go.Proofs.YteddcihodfkliaaGreatDoor

/- Texts cut at slashes and put together again. No Go in sight. -/
namespace Go.Proofs.YteddcihodfkliaaGreatDoor
namespace Pl
def by_ (t : ByteArray) : List UInt8 := t.data.toList
theorem by_inj {a b : ByteArray} (h : by_ a = by_ b) : a = b := by
  apply ByteArray.ext; exact Array.toList_inj.1 h
theorem by_length (t : ByteArray) : (by_ t).length = t.size := Array.length_toList
theorem by_extract (t : ByteArray) (a b : Nat) : by_ (t.extract a b) = ((by_ t).drop a).take (b - a) := by
  simp [by_, ByteArray.data_extract, Array.toList_extract, List.extract]
theorem by_mk (l : List UInt8) : by_ ⟨l.toArray⟩ = l := by simp [by_]
def cutL : List UInt8 → List (List UInt8)
  | [] => [[]]
  | b :: l => if b = 47 then [] :: cutL l else match cutL l with | [] => [[b]] | h :: t => (b :: h) :: t
def glueL : List (List UInt8) → List UInt8
  | [] => []
  | [a] => a
  | a :: b :: r => a ++ 47 :: glueL (b :: r)
theorem cutL_ex (l : List UInt8) : ∃ h t, cutL l = h :: t := by
  induction l with
  | nil => exact ⟨_, _, rfl⟩
  | cons b l ih =>
    obtain ⟨h, t, e⟩ := ih
    rw [cutL]
    split
    · exact ⟨_, _, rfl⟩
    · rw [e]; exact ⟨_, _, rfl⟩
theorem cutL_ne (l : List UInt8) : cutL l ≠ [] := by obtain ⟨h, t, e⟩ := cutL_ex l; rw [e]; exact List.cons_ne_nil _ _
theorem cutL_hit (l : List UInt8) : cutL (47 :: l) = [] :: cutL l := by rw [cutL, if_pos rfl]
theorem cutL_miss {b : UInt8} {l h : List UInt8} {t : List (List UInt8)} (hb : b ≠ 47) (e : cutL l = h :: t) : cutL (b :: l) = (b :: h) :: t := by
  rw [cutL, if_neg hb, e]
theorem glueL_cons (a : List UInt8) {L : List (List UInt8)} (h : L ≠ []) : glueL (a :: L) = a ++ 47 :: glueL L := by
  cases L with
  | nil => exact absurd rfl h
  | cons b r => rw [glueL]
theorem glueL_push (b : UInt8) (h : List UInt8) (t : List (List UInt8)) : glueL ((b :: h) :: t) = b :: glueL (h :: t) := by
  cases t with
  | nil => simp [glueL]
  | cons c r => simp [glueL]
theorem glue_cutL (l : List UInt8) : glueL (cutL l) = l := by
  induction l with
  | nil => rfl
  | cons b l ih =>
    by_cases hb : b = 47
    · subst hb; rw [cutL_hit, glueL_cons _ (cutL_ne l), ih]; rfl
    · obtain ⟨h, t, e⟩ := cutL_ex l
      rw [cutL_miss hb e, glueL_push, ← e, ih]
theorem cutL_append (a b : List UInt8) : cutL (a ++ 47 :: b) = cutL a ++ cutL b := by
  induction a with
  | nil => rw [List.nil_append, cutL_hit]; rfl
  | cons c a ih =>
    by_cases hc : c = 47
    · subst hc; rw [List.cons_append, cutL_hit, ih, cutL_hit]; rfl
    · obtain ⟨h, t, e⟩ := cutL_ex a
      rw [List.cons_append, cutL_miss hc e, cutL_miss (t := t ++ cutL b) hc (by rw [ih, e]; rfl)]
      rfl
theorem cutL_free {a : List UInt8} (h : (47 : UInt8) ∉ a) : cutL a = [a] := by
  induction a with
  | nil => rfl
  | cons c a ih =>
    rw [List.mem_cons, not_or] at h
    rw [cutL_miss (fun e => h.1 e.symm) (ih h.2)]
theorem cutL_pieces (l : List UInt8) : ∀ t ∈ cutL l, (47 : UInt8) ∉ t := by
  induction l with
  | nil => intro t ht; simp [cutL] at ht; subst ht; simp
  | cons b l ih =>
    by_cases hb : b = 47
    · subst hb; rw [cutL_hit]; intro t ht
      rcases List.mem_cons.1 ht with rfl | ht
      · simp
      · exact ih t ht
    · obtain ⟨h, r, e⟩ := cutL_ex l
      rw [cutL_miss hb e]
      intro t ht
      rw [e] at ih
      rcases List.mem_cons.1 ht with rfl | ht
      · rw [List.mem_cons, not_or]; exact ⟨fun e => hb e.symm, ih h List.mem_cons_self⟩
      · exact ih t (List.mem_cons_of_mem _ ht)
theorem cut_glueL {L : List (List UInt8)} (h0 : L ≠ []) (h : ∀ t ∈ L, (47 : UInt8) ∉ t) : cutL (glueL L) = L := by
  induction L with
  | nil => exact absurd rfl h0
  | cons a L ih =>
    by_cases hL : L = []
    · subst hL; exact cutL_free (h a List.mem_cons_self)
    · rw [glueL_cons a hL, cutL_append, cutL_free (h a List.mem_cons_self), ih hL (fun t ht => h t (List.mem_cons_of_mem _ ht))]
      rfl
theorem glueL_append {A B : List (List UInt8)} (hA : A ≠ []) (hB : B ≠ []) : glueL (A ++ B) = glueL A ++ 47 :: glueL B := by
  induction A with
  | nil => exact absurd rfl hA
  | cons a A ih =>
    by_cases h : A = []
    · subst h; exact glueL_cons a hB
    · rw [List.cons_append, glueL_cons a (by simp [h]), ih h, glueL_cons a h]; simp

/-- The pieces of a text are those of its bytes. -/
theorem cutF_list (s : ByteArray) : ∀ f fr k, f + k = s.size → fr ≤ k → ∃ h t, cutL ((by_ s).drop k) = h :: t ∧ (cutF s 47 f fr k).map by_ = (((by_ s).drop fr).take (k - fr) ++ h) :: t := by
  intro f
  induction f with
  | zero =>
    intro fr k hk hfr
    refine ⟨[], [], ?_, ?_⟩
    · rw [List.drop_of_length_le (by rw [by_length]; omega)]; rfl
    · rw [cutF, List.map_cons, List.map_nil, by_extract, List.append_nil]
      obtain rfl : k = s.size := by omega
      rfl
  | succ f ih =>
    intro fr k hk hfr
    have hlt : k < s.size := by omega
    have hlt' : k < (by_ s).length := by rw [by_length]; exact hlt
    have hd : (by_ s).drop k = s[k] :: (by_ s).drop (k + 1) := by
      rw [List.drop_eq_getElem_cons hlt']; rfl
    by_cases hb : s[k].toNat = 47
    · obtain ⟨h, t, e1, e2⟩ := ih (k + 1) (k + 1) (by omega) (Nat.le_refl _)
      have hb' : s[k] = 47 := UInt8.toNat_inj.1 hb
      refine ⟨[], cutL ((by_ s).drop (k + 1)), ?_, ?_⟩
      · rw [hd, hb', cutL_hit]
      · rw [cutF_hit hlt hb, List.map_cons, e2, by_extract, e1]
        simp
    · obtain ⟨h, t, e1, e2⟩ := ih fr (k + 1) (by omega) (by omega)
      have hb' : s[k] ≠ 47 := fun e => hb (by rw [e]; rfl)
      refine ⟨s[k] :: h, t, ?_, ?_⟩
      · rw [hd, cutL_miss hb' e1]
      · rw [cutF_miss hlt hb, e2]
        congr 1
        have : k + 1 - fr = (k - fr) + 1 := by omega
        rw [this, List.take_add_one, List.getElem?_drop, Nat.add_sub_cancel' hfr, List.getElem?_eq_getElem hlt']
        simp [by_]
        rfl
theorem cut_list (s : ByteArray) : (cut s 47).map by_ = cutL (by_ s) := by
  obtain ⟨h, t, e1, e2⟩ := cutF_list s s.size 0 0 (by omega) (Nat.le_refl _)
  rw [cut, e2]
  rw [List.drop_zero] at e1
  rw [e1]; simp
def namesL (l : List UInt8) : List (List UInt8) := if l = [] then [] else cutL l
theorem by_nil {s : ByteArray} : by_ s = [] ↔ s.size = 0 := by rw [← by_length, List.length_eq_zero_iff]
theorem names_list (s : ByteArray) : (names s).map by_ = namesL (by_ s) := by
  unfold names namesL
  by_cases h : s.size = 0
  · rw [if_pos h, if_pos (by_nil.2 h)]; rfl
  · rw [if_neg h, if_neg (fun e => h (by_nil.1 e)), cut_list]
theorem glue_namesL (l : List UInt8) : glueL (namesL l) = l := by
  unfold namesL; split
  · subst_vars; rfl
  · exact glue_cutL l
/-- Names with a slash between. -/
def glue (ts : List ByteArray) : ByteArray := ⟨(glueL (ts.map by_)).toArray⟩
theorem by_glue (ts : List ByteArray) : by_ (glue ts) = glueL (ts.map by_) := by_mk _
theorem map_by_inj {A B : List ByteArray} (h : A.map by_ = B.map by_) : A = B := by
  induction A generalizing B with
  | nil => cases B with
    | nil => rfl
    | cons => simp at h
  | cons a A ih => cases B with
    | nil => simp at h
    | cons b B => simp at h; rw [by_inj h.1, ih h.2]
theorem glue_names (s : ByteArray) : glue (names s) = s := by
  apply by_inj; rw [by_glue, names_list, glue_namesL]
theorem name_free {t : ByteArray} (h : nameB t = true) : (47 : UInt8) ∉ by_ t ∧ by_ t ≠ [] ∧ 1 ≤ t.size ∧ t.size ≤ 20 := by
  have h' := of_decide_eq_true h
  refine ⟨fun hm => ?_, fun e => ?_, h'.1, h'.2.1⟩
  · obtain ⟨j, hj, e⟩ := List.getElem_of_mem hm
    have hj' : j < t.size := by rw [← by_length]; exact hj
    have ho := h'.2.2 j hj'
    have e2 : t.data.toList.getD j 0 = 47 := by
      rw [byte_getD t j hj']; exact e
    rw [e2] at ho
    simp [okAt] at ho
  · have := by_nil.1 e; omega
theorem names_glue {L : List ByteArray} (h : ∀ t ∈ L, nameB t = true) : names (glue L) = L := by
  apply map_by_inj
  rw [names_list, by_glue]
  cases L with
  | nil => rfl
  | cons a L =>
    have hne : glueL ((a :: L).map by_) ≠ [] := by
      have ha := (name_free (h a List.mem_cons_self)).2.1
      cases L with
      | nil => exact ha
      | cons b L => simp [glueL]
    rw [namesL, if_neg hne]
    apply cut_glueL (by simp)
    intro t ht
    obtain ⟨u, hu, rfl⟩ := List.mem_map.1 ht
    exact (name_free (h u hu)).1
theorem glueL_le (L : List ByteArray) (h : ∀ t ∈ L, t.size ≤ 20) : (glueL (L.map by_)).length ≤ 21 * L.length := by
  induction L with
  | nil => simp [glueL]
  | cons a L ih =>
    have ha := h a List.mem_cons_self
    have ih := ih (fun t ht => h t (List.mem_cons_of_mem _ ht))
    cases L with
    | nil => simp [glueL, by_length]; omega
    | cons b L =>
      simp only [List.map_cons, glueL, List.length_append, List.length_cons, by_length] at ih ⊢
      omega
theorem glue_size (L : List ByteArray) (h : ∀ t ∈ L, t.size ≤ 20) : (glue L).size ≤ 21 * L.length := by
  rw [← by_length, by_glue]; exact glueL_le L h
theorem pathB_all {s : ByteArray} (h : pathB s = true) : (∀ t ∈ names s, nameB t = true) ∧ (names s).length ≤ 6 := by
  simp [pathB] at h
  exact ⟨h.1.2, h.2⟩
theorem pathB_glue {L : List ByteArray} (h : ∀ t ∈ L, nameB t = true) (h6 : L.length ≤ 6) : pathB (glue L) = true := by
  have hs := glue_size L (fun t ht => (name_free (h t ht)).2.2.2)
  simp [pathB, names_glue h]
  exact ⟨⟨by omega, h⟩, h6⟩
/-- Right, without the word on how long it is. -/
theorem pathB_short {s : ByteArray} : pathB s = ((names s).all nameB && decide ((names s).length ≤ 6)) := by
  by_cases h : s.size ≤ 200
  · simp [pathB, h]
  · have h1 : pathB s = false := pathB_long (by omega)
    rw [h1]
    by_cases h2 : (names s).all nameB = true
    · have h3 := List.all_eq_true.1 h2
      have hs := glue_size (names s) (fun t ht => (name_free (h3 t ht)).2.2.2)
      rw [glue_names] at hs
      simp; intro _; omega
    · simp at h2; simp; intro h4; obtain ⟨x, hx, hy⟩ := h2; exact absurd (h4 x hx) (by simp [hy])
end Pl
end Go.Proofs.YteddcihodfkliaaGreatDoor

/- Parents, last names, what lies under what, rests, and the way of a text. No Go in sight. -/
namespace Go.Proofs.YteddcihodfkliaaGreatDoor
namespace Pl
theorem by_take_succ (s : ByteArray) (k : Nat) (h : k < s.size) : (by_ s).take (k + 1) = (by_ s).take k ++ [s[k]] := take_snoc s k h
theorem slash_split (s : ByteArray) : ∀ k, k ≤ s.size → ((47 : UInt8) ∉ (by_ s).take k ∧ slashTo s k = -1) ∨ ∃ a b, (by_ s).take k = a ++ 47 :: b ∧ (47 : UInt8) ∉ b ∧ slashTo s k = (a.length : Int) := by
  intro k
  induction k with
  | zero => intro _; left; simp [slashTo]
  | succ k ih =>
    intro hk
    have hlt : k < s.size := by omega
    have ih := ih (by omega)
    rw [by_take_succ s k hlt]
    by_cases hb : s[k].toNat = 47
    · right
      have hb' : s[k] = 47 := UInt8.toNat_inj.1 hb
      refine ⟨(by_ s).take k, [], by rw [hb'], by simp, ?_⟩
      rw [slash_hit hlt hb, List.length_take, by_length, Nat.min_eq_left (by omega)]
    · have hb' : s[k] ≠ 47 := fun e => hb (by rw [e]; rfl)
      rw [slash_miss hlt hb]
      rcases ih with ⟨h1, h2⟩ | ⟨a, b, h1, h2, h3⟩
      · left
        refine ⟨?_, h2⟩
        rw [List.mem_append, not_or]
        exact ⟨h1, by simpa using fun e => hb' e.symm⟩
      · right
        refine ⟨a, b ++ [s[k]], by rw [h1]; simp, ?_, h3⟩
        rw [List.mem_append, not_or]
        exact ⟨h2, by simpa using fun e => hb' e.symm⟩
/-- Either there is no slash, or the last one is there. -/
theorem slash_parts (s : ByteArray) : ((47 : UInt8) ∉ by_ s ∧ slashTo s s.size = -1) ∨ ∃ a b, by_ s = a ++ 47 :: b ∧ (47 : UInt8) ∉ b ∧ slashTo s s.size = (a.length : Int) := by
  have h := slash_split s s.size (Nat.le_refl _)
  rwa [List.take_of_length_le (by rw [by_length]; exact Nat.le_refl _)] at h
theorem namesL_split {l a b : List UInt8} (h : l = a ++ 47 :: b) : namesL l = cutL a ++ cutL b := by
  subst h; rw [namesL, if_neg (by simp), cutL_append]
theorem namesL_free {l : List UInt8} (h : (47 : UInt8) ∉ l) : namesL l = if l = [] then [] else [l] := by
  rw [namesL]; split
  · rfl
  · exact cutL_free h
/-- The last name of a path. -/
def base (s : ByteArray) : ByteArray := s.extract (slashTo s s.size + 1).toNat s.size
theorem parent_glue (s : ByteArray) : parent s = glue (names s).dropLast := by
  apply by_inj
  rw [by_glue, List.map_dropLast, names_list]
  unfold parent
  rcases slash_parts s with ⟨h1, h2⟩ | ⟨a, b, h1, h2, h3⟩
  · rw [h2, if_pos (by omega), namesL_free h1]
    split <;> rfl
  · rw [h3, if_neg (by omega), by_extract, namesL_split h1, cutL_free h2, List.dropLast_concat, glue_cutL, h1]
    simp
theorem base_glue (s : ByteArray) : base s = glue ((names s).drop ((names s).length - 1)) := by
  apply by_inj
  have hl : (names s).length = (namesL (by_ s)).length := by rw [← names_list, List.length_map]
  rw [by_glue, List.map_drop, names_list, hl]
  unfold base
  rcases slash_parts s with ⟨h1, h2⟩ | ⟨a, b, h1, h2, h3⟩
  · rw [h2, by_extract, namesL_free h1]
    have e : List.take (s.size - ((-1 : Int) + 1).toNat) (List.drop ((-1 : Int) + 1).toNat (by_ s)) = by_ s := by
      simp [← by_length]
    rw [e]
    split
    · next h => rw [h]; rfl
    · rfl
  · rw [h3, by_extract, namesL_split h1, cutL_free h2]
    have h4 : ((a.length : Int) + 1).toNat = a.length + 1 := by omega
    have h5 : s.size = a.length + 1 + b.length := by rw [← by_length, h1]; simp; omega
    rw [h4, h5, h1]
    simp [glueL]
theorem drop_last {α : Type} (L : List α) : L.take (L.length - 1) = L.dropLast := by rw [List.dropLast_eq_take]
/-- Is a path another one, or under it: by names. -/
def under (p t : ByteArray) : Bool := ((names t).map by_).isPrefixOf ((names p).map by_)
theorem under_iff (p t : ByteArray) : under p t = true ↔ (by_ t = [] ∨ by_ p = by_ t ∨ ∃ r, by_ p = by_ t ++ 47 :: r) := by
  unfold under
  rw [List.isPrefixOf_iff_prefix, names_list, names_list]
  constructor
  · rintro ⟨R, e⟩
    by_cases ht : by_ t = []
    · exact .inl ht
    · right
      have e2 := congrArg glueL e
      by_cases hr : R = []
      · left
        subst hr
        rw [List.append_nil, glue_namesL, glue_namesL] at e2
        exact e2.symm
      · right
        rw [glueL_append (by rw [namesL, if_neg ht]; exact cutL_ne _) hr, glue_namesL, glue_namesL] at e2
        exact ⟨_, e2.symm⟩
  · rintro (h | h | ⟨r, h⟩)
    · rw [h]; exact List.nil_prefix
    · rw [h]; exact List.prefix_refl _
    · by_cases ht : by_ t = []
      · rw [ht]; exact List.nil_prefix
      · refine ⟨cutL r, ?_⟩
        rw [namesL_split h, namesL, if_neg ht]
/-- What a path has behind another one. -/
def rest (p t : ByteArray) : ByteArray := glue ((names p).drop (names t).length)
theorem rest_root {p t : ByteArray} (h : by_ t = []) : rest p t = p := by
  have : names t = [] := by apply map_by_inj; rw [names_list, h]; rfl
  rw [rest, this]; exact glue_names p
theorem rest_same (p : ByteArray) : rest p p = ⟨#[]⟩ := by
  rw [rest, List.drop_length]; rfl
theorem rest_more {p t : ByteArray} {r : List UInt8} (ht : by_ t ≠ []) (h : by_ p = by_ t ++ 47 :: r) : rest p t = p.extract (t.size + 1) p.size := by
  have h1 : (names p).map by_ = (names t).map by_ ++ cutL r := by
    rw [names_list, names_list, namesL_split h, namesL, if_neg ht]
  apply by_inj
  rw [rest, by_glue, List.map_drop, h1, ← List.length_map (f := by_) (as := names t), List.drop_left, glue_cutL, by_extract, h]
  have h2 : p.size = t.size + 1 + r.length := by rw [← by_length, h, List.length_append, List.length_cons, by_length]; omega
  have h3 : t.size = (by_ t).length := (by_length t).symm
  rw [h2, h3]; simp
/-- The names of two, one behind the other. -/
def both (t p : ByteArray) : ByteArray := glue (names t ++ names p)
theorem both_none {t p : ByteArray} (h : by_ t = [] ∨ by_ p = []) : both t p = t ++ p := by
  apply by_inj
  rw [both, by_glue, List.map_append, names_list, names_list]
  have e : by_ (t ++ p) = by_ t ++ by_ p := by simp [by_]
  rw [e]
  rcases h with h | h
  · rw [h]; simp [namesL]; exact glue_namesL _
  · rw [h]; simp [namesL]; exact glue_namesL _
theorem both_two {t p : ByteArray} (h1 : by_ t ≠ []) (h2 : by_ p ≠ []) : by_ (both t p) = by_ t ++ 47 :: by_ p := by
  rw [both, by_glue, List.map_append, names_list, names_list, glueL_append (by rw [namesL, if_neg h1]; exact cutL_ne _) (by rw [namesL, if_neg h2]; exact cutL_ne _), glue_namesL, glue_namesL]
/-- A path and a name. -/
def joinN (p n : ByteArray) : ByteArray := glue (names p ++ [n])
theorem joinN_root {p n : ByteArray} (h : by_ p = []) : joinN p n = n := by
  apply by_inj
  rw [joinN, by_glue, List.map_append, names_list, h]; rfl
theorem joinN_two {p n : ByteArray} (h : by_ p ≠ []) : by_ (joinN p n) = by_ p ++ 47 :: by_ n := by
  rw [joinN, by_glue, List.map_append, names_list, glueL_append (by rw [namesL, if_neg h]; exact cutL_ne _) (by simp), glue_namesL]; rfl
/-- One word of a text, from names on: the names behind it, or why not. -/
def stepW (h : List ByteArray) (t : ByteArray) : Except Int (List ByteArray) :=
  if by_ t = [] ∨ by_ t = [46] then .ok h
  else if by_ t = [46, 46] then .ok h.dropLast
  else if nameB t = false then .error 3
  else if h.length = 6 then .error 9
  else .ok (h ++ [t])
def walkW (h : List ByteArray) : List ByteArray → Except Int (List ByteArray)
  | [] => .ok h
  | t :: ts => match stepW h t with | .ok h' => walkW h' ts | .error c => .error c
end Pl
end Go.Proofs.YteddcihodfkliaaGreatDoor

/- The names of a right path; none of another one. No Go in sight. -/
namespace Go.Proofs.YteddcihodfkliaaGreatDoor
namespace Pl
/-- The names of a right path; none of another one. -/
def namesR (s : ByteArray) : List ByteArray := if pathB s then names s else []
theorem namesR_no {s : ByteArray} (h : pathB s = false) : namesR s = [] := by rw [namesR, h]; rfl
theorem namesR_yes {s : ByteArray} (h : pathB s = true) : namesR s = names s := by rw [namesR, h]; rfl
theorem cut_pos (s : ByteArray) : 0 < (cut s 47).length := by
  have h := cut_list s
  have : (cut s 47).length = (cutL (by_ s)).length := by rw [← h, List.length_map]
  rw [this]
  exact List.length_pos_iff.2 (cutL_ne _)
theorem right_root {s : ByteArray} (h : s.size = 0) : pathB s = true ∧ names s = [] := by
  have h1 : names s = [] := if_pos h
  exact ⟨by simp [pathB_short, h1], h1⟩
theorem cut_length (s : ByteArray) : (cut s 47).length ≤ s.size + 1 := cutF_length s 47 s.size 0 0
theorem cut_size {s : ByteArray} {k : Nat} {t : ByteArray} (h : (cut s 47)[k]? = some t) : t.size ≤ s.size := cutF_size s 47 _ _ _ t (List.mem_of_getElem? h)
theorem namesR_all (s : ByteArray) : (∀ t ∈ namesR s, nameB t = true) ∧ (namesR s).length ≤ 6 := by
  cases h : pathB s
  · rw [namesR_no h]; simp
  · rw [namesR_yes h]; exact pathB_all h
theorem glue_small {L : List ByteArray} (h : ∀ t ∈ L, nameB t = true) (h6 : L.length ≤ 20) : (glue L).size ≤ 1000000 := by
  have := glue_size L (fun t ht => (name_free (h t ht)).2.2.2); omega
theorem all_take {L : List ByteArray} (h : ∀ t ∈ L, nameB t = true) (k : Nat) : ∀ t ∈ L.take k, nameB t = true := fun t ht => h t (List.mem_of_mem_take ht)
theorem all_drop {L : List ByteArray} (h : ∀ t ∈ L, nameB t = true) (k : Nat) : ∀ t ∈ L.drop k, nameB t = true := fun t ht => h t (List.mem_of_mem_drop ht)
/-- Does the list A begin with all of B? -/
def underR (A B : List ByteArray) : Bool := (B.map by_).isPrefixOf (A.map by_)
theorem under_names (p t : ByteArray) : under p t = underR (names p) (names t) := rfl
theorem underR_iff (A B : List ByteArray) : underR A B = true ↔ ∀ (j : Nat) t, B[j]? = some t → A[j]? = some t := by
  unfold underR
  rw [List.isPrefixOf_iff_prefix]
  constructor
  · rintro ⟨R, hR⟩ j t ht
    have h1 : (A.map by_)[j]? = some (by_ t) := by
      rw [← hR, List.getElem?_append_left (by rw [List.length_map]; exact (List.getElem?_eq_some_iff.1 ht).1), List.getElem?_map, ht]; rfl
    rw [List.getElem?_map] at h1
    cases hA : A[j]? with
    | none => rw [hA] at h1; simp at h1
    | some a => rw [hA] at h1; simp at h1; rw [by_inj h1]
  · intro h
    have : B = A.take B.length := by
      apply List.ext_getElem?
      intro j
      by_cases hj : j < B.length
      · rw [List.getElem?_take_of_lt hj, List.getElem?_eq_getElem hj, h j _ (List.getElem?_eq_getElem hj)]
      · rw [List.getElem?_eq_none (by omega), List.getElem?_eq_none (by simp; omega)]
    rw [this, List.map_take]
    exact List.take_prefix _ _
theorem underR_short {A B : List ByteArray} (h : A.length < B.length) : underR A B = false := by
  rw [Bool.eq_false_iff]
  intro h1
  have h2 := (underR_iff A B).1 h1 A.length _ (List.getElem?_eq_getElem h)
  rw [List.getElem?_eq_none (Nat.le_refl _)] at h2; cases h2
theorem underR_not {A B : List ByteArray} {j : Nat} {a b : ByteArray} (ha : A[j]? = some a) (hb : B[j]? = some b) (h : a ≠ b) : underR A B = false := by
  rw [Bool.eq_false_iff]
  intro h1
  have h2 := (underR_iff A B).1 h1 j b hb
  rw [ha] at h2; cases h2; exact h rfl
theorem eq_lists {a b : ByteArray} (h : a = b) : (a.toList == b.toList) = true := by rw [h]; exact beq_self_eq_true _
theorem ne_lists {a b : ByteArray} (h : a ≠ b) : (a.toList == b.toList) = false := by
  rw [beq_eq_false_iff_ne, ByteArray.toList_eq, ByteArray.toList_eq]
  exact fun e => h (by_inj e)
/-- A text and a code, as a TextOut. -/
def tOut (x : ByteArray × Int) : Value := .agg #[.string x.1, .int .i64 0, .int .i64 x.2]
def joinO (p n : ByteArray) : ByteArray × Int :=
  if 8000 < p.size ∨ 8000 < n.size then (⟨#[]⟩, 2) else if ¬ (pathB p = true ∧ nameB n = true) then (⟨#[]⟩, 1) else if (namesR p).length = 6 then (⟨#[]⟩, 9) else (glue (namesR p ++ [n]), 0)
def restO (p t : ByteArray) : ByteArray × Int :=
  if 8000 < p.size ∨ 8000 < t.size then (⟨#[]⟩, 2) else if ¬ (pathB p = true ∧ pathB t = true) then (⟨#[]⟩, 1) else if underR (namesR p) (namesR t) = false then (⟨#[]⟩, 6) else (glue ((namesR p).drop (namesR t).length), 0)
def bothO (t p : ByteArray) : ByteArray × Int :=
  if 8000 < t.size ∨ 8000 < p.size then (⟨#[]⟩, 2) else if ¬ (pathB t = true ∧ pathB p = true) then (⟨#[]⟩, 1) else if 6 < (namesR t).length + (namesR p).length then (⟨#[]⟩, 9) else (glue (namesR t ++ namesR p), 0)
theorem underR_length {A B : List ByteArray} (h : underR A B = true) : B.length ≤ A.length := by
  by_cases hl : A.length < B.length
  · rw [underR_short hl] at h; cases h
  · omega
theorem step_stay {h : List ByteArray} {t : ByteArray} (hd : by_ t = [] ∨ by_ t = [46]) : stepW h t = .ok h := by rw [stepW, if_pos hd]
theorem step_up {h : List ByteArray} {t : ByteArray} (h1 : ¬ (by_ t = [] ∨ by_ t = [46])) (h2 : by_ t = [46, 46]) : stepW h t = .ok h.dropLast := by rw [stepW, if_neg h1, if_pos h2]
theorem step_bad {h : List ByteArray} {t : ByteArray} (h1 : ¬ (by_ t = [] ∨ by_ t = [46])) (h2 : ¬ by_ t = [46, 46]) (h3 : nameB t = false) : stepW h t = .error 3 := by rw [stepW, if_neg h1, if_neg h2, if_pos h3]
theorem step_full {h : List ByteArray} {t : ByteArray} (h1 : ¬ (by_ t = [] ∨ by_ t = [46])) (h2 : ¬ by_ t = [46, 46]) (h3 : ¬ nameB t = false) (h4 : h.length = 6) : stepW h t = .error 9 := by rw [stepW, if_neg h1, if_neg h2, if_neg h3, if_pos h4]
theorem step_into {h : List ByteArray} {t : ByteArray} (h1 : ¬ (by_ t = [] ∨ by_ t = [46])) (h2 : ¬ by_ t = [46, 46]) (h3 : ¬ nameB t = false) (h4 : ¬ h.length = 6) : stepW h t = .ok (h ++ [t]) := by rw [stepW, if_neg h1, if_neg h2, if_neg h3, if_neg h4]
theorem empty_list {t : ByteArray} : t.toList.isEmpty = decide (by_ t = []) := by
  rw [ByteArray.toList_eq]; change (by_ t).isEmpty = _
  cases by_ t <;> simp
theorem list_is {t : ByteArray} {l : List UInt8} : (t.toList == l) = decide (by_ t = l) := by
  rw [ByteArray.toList_eq]; change (by_ t == l) = _
  exact Bool.beq_eq_decide_eq _ _
/-- Does a text begin with a slash? -/
def slashB (s : ByteArray) : Bool := (by_ s).head? == some 47
theorem cut_first {s t : ByteArray} (h : (cut s 47)[0]? = some t) : slashB s = (decide (by_ t = []) && decide (1 < (cut s 47).length)) := by
  have h1 : (cutL (by_ s))[0]? = some (by_ t) := by rw [← cut_list, List.getElem?_map, h]; rfl
  have h2 : (cut s 47).length = (cutL (by_ s)).length := by rw [← cut_list, List.length_map]
  rw [h2]
  unfold slashB
  cases hs : by_ s with
  | nil => rw [hs] at h1; simp [cutL] at h1 ⊢
  | cons b l =>
    rw [hs] at h1
    by_cases hb : b = 47
    · subst hb
      rw [cutL_hit] at h1 ⊢
      have := cutL_ne l
      simp at h1 ⊢
      exact ⟨h1, List.length_pos_iff.2 this⟩
    · obtain ⟨x, r, e⟩ := cutL_ex l
      rw [cutL_miss hb e] at h1 ⊢
      simp at h1 ⊢
      simp [hb, ← h1]
theorem step_all {h h' : List ByteArray} {t : ByteArray} (hs : stepW h t = .ok h') (ha : ∀ u ∈ h, nameB u = true) (hl : h.length ≤ 6) : (∀ u ∈ h', nameB u = true) ∧ h'.length ≤ 6 := by
  unfold stepW at hs
  split at hs
  · cases hs; exact ⟨ha, hl⟩
  split at hs
  · cases hs; exact ⟨fun u hu => ha u (List.dropLast_subset _ hu), by rw [List.length_dropLast]; omega⟩
  split at hs
  · cases hs
  split at hs
  · cases hs
  · cases hs
    rename_i h3 h4
    refine ⟨fun u hu => ?_, by simp; omega⟩
    rcases List.mem_append.1 hu with hu | hu
    · exact ha u hu
    · simp at hu; subst hu; simpa using h3
def start (b t : ByteArray) : List ByteArray := if slashB t then [] else namesR b
def atO (b t : ByteArray) : ByteArray × Int :=
  if 8000 < b.size ∨ 8000 < t.size then (⟨#[]⟩, 2) else if pathB b = false then (⟨#[]⟩, 1) else
    match walkW (start b t) (cut t 47) with
    | .ok h => (glue h, 0)
    | .error c => (⟨#[]⟩, c)
theorem walk_ok {h h' : List ByteArray} {W : List ByteArray} {k : Nat} {t : ByteArray} (hk : W[k]? = some t) (hs : stepW h t = .ok h') : walkW h (W.drop k) = walkW h' (W.drop (k + 1)) := by
  have h1 := (List.getElem?_eq_some_iff.1 hk)
  rw [List.drop_eq_getElem_cons h1.1, walkW, h1.2, hs]
theorem walk_no {h : List ByteArray} {W : List ByteArray} {k : Nat} {t : ByteArray} {c : Int} (hk : W[k]? = some t) (hs : stepW h t = .error c) : walkW h (W.drop k) = .error c := by
  have h1 := (List.getElem?_eq_some_iff.1 hk)
  rw [List.drop_eq_getElem_cons h1.1, walkW, h1.2, hs]
theorem walk_end {h : List ByteArray} (W : List ByteArray) : walkW h (W.drop W.length) = .ok h := by rw [List.drop_length, walkW]
end Pl
end Go.Proofs.YteddcihodfkliaaGreatDoor

/- Which of two lists of names is ahead. No program in sight. -/
namespace Go.Proofs.YteddcihodfkliaaGreatDoor
namespace Pl
def lessL : List ByteArray → List ByteArray → Bool
  | [], [] => false
  | [], _ :: _ => true
  | _ :: _, [] => false
  | a :: A, b :: B => if a = b then lessL A B else Op.bytesLess a.toList b.toList
theorem less_same {A B : List ByteArray} {k : Nat} {a b : ByteArray} (ha : A[k]? = some a) (hb : B[k]? = some b) (h : a = b) : lessL (A.drop k) (B.drop k) = lessL (A.drop (k + 1)) (B.drop (k + 1)) := by
  have h1 := (List.getElem?_eq_some_iff.1 ha)
  have h2 := (List.getElem?_eq_some_iff.1 hb)
  rw [List.drop_eq_getElem_cons h1.1, List.drop_eq_getElem_cons h2.1, lessL, if_pos (by rw [h1.2, h2.2]; exact h)]
theorem less_other {A B : List ByteArray} {k : Nat} {a b : ByteArray} (ha : A[k]? = some a) (hb : B[k]? = some b) (h : a ≠ b) : lessL (A.drop k) (B.drop k) = Op.bytesLess a.toList b.toList := by
  have h1 := (List.getElem?_eq_some_iff.1 ha)
  have h2 := (List.getElem?_eq_some_iff.1 hb)
  rw [List.drop_eq_getElem_cons h1.1, List.drop_eq_getElem_cons h2.1, lessL, if_neg (by rw [h1.2, h2.2]; exact h), h1.2, h2.2]
theorem less_end {A B : List ByteArray} {k : Nat} (h : k = A.length ∧ k ≤ B.length ∨ k = B.length ∧ k ≤ A.length) : lessL (A.drop k) (B.drop k) = decide (A.length < B.length) := by
  rcases h with ⟨rfl, h⟩ | ⟨rfl, h⟩
  · rw [List.drop_length]
    by_cases hl : A.length < B.length
    · rw [List.drop_eq_getElem_cons hl]; simp [lessL, hl]
    · rw [List.drop_of_length_le (by omega)]; simp [lessL, hl]
  · rw [List.drop_length]
    have hn : ¬ A.length < B.length := by omega
    by_cases hl : B.length < A.length
    · rw [List.drop_eq_getElem_cons hl]; simp [lessL, hn]
    · rw [List.drop_of_length_le (by omega)]; simp [lessL, hn]
end Pl
end Go.Proofs.YteddcihodfkliaaGreatDoor

/- Nodes, and whether they are right. No program in sight but its values. -/
namespace Go.Proofs.YteddcihodfkliaaGreatDoor
namespace Pl
structure Nd where
  path : ByteArray
  kind : Int
  data : ByteArray
  time : Int
  mark : Int
def Nd.cells (n : Nd) : List Value := [.string n.path, .int .i64 n.kind, .string n.data, .int .i64 n.time, .int .i64 n.mark]
def Nd.val (n : Nd) : Value := .agg #[.string n.path, .int .i64 n.kind, .string n.data, .int .i64 n.time, .int .i64 n.mark]
def kindB (n : Nd) : Bool :=
  if n.kind = 0 then decide (n.data.size = 0) && decide (n.time = 0) && decide (1 ≤ n.mark)
  else if n.kind = 1 then decide (n.data.size = 0)
  else if n.kind = 2 then decide (n.mark = 0) else false
def nodeB (n : Nd) : Bool := decide (n.path.size ≠ 0) && pathB n.path && decide (n.data.size ≤ 60) && decide (0 ≤ n.time ∧ n.time ≤ 1000000) && decide (0 ≤ n.mark ∧ n.mark ≤ 8) && kindB n
theorem node_root {n : Nd} (h : n.path.size = 0) : nodeB n = false := by simp [nodeB, h]
theorem node_path {n : Nd} (h : pathB n.path = false) : nodeB n = false := by simp [nodeB, h]
theorem node_data {n : Nd} (h : 60 < n.data.size) : nodeB n = false := by
  have : decide (n.data.size ≤ 60) = false := by simp; omega
  simp [nodeB, this]
theorem node_time {n : Nd} (h : ¬ (0 ≤ n.time ∧ n.time ≤ 1000000)) : nodeB n = false := by
  have : decide (0 ≤ n.time ∧ n.time ≤ 1000000) = false := by simpa using h
  unfold nodeB; rw [this]; simp
theorem node_mark {n : Nd} (h : ¬ (0 ≤ n.mark ∧ n.mark ≤ 8)) : nodeB n = false := by
  have : decide (0 ≤ n.mark ∧ n.mark ≤ 8) = false := by simpa using h
  unfold nodeB; rw [this]; simp
theorem node_kind {n : Nd} (h0 : n.path.size ≠ 0) (h1 : pathB n.path = true) (h2 : n.data.size ≤ 60) (h3 : 0 ≤ n.time ∧ n.time ≤ 1000000) (h4 : 0 ≤ n.mark ∧ n.mark ≤ 8) : nodeB n = kindB n := by
  have e3 : decide (0 ≤ n.time ∧ n.time ≤ 1000000) = true := by simpa using h3
  have e4 : decide (0 ≤ n.mark ∧ n.mark ≤ 8) = true := by simpa using h4
  unfold nodeB; rw [e3, e4]; simp [h0, h1, h2]
/-- What a node has in it, whatever its path is. -/
def contB (n : Nd) : Bool := decide (n.data.size ≤ 60) && decide (0 ≤ n.time ∧ n.time ≤ 1000000) && decide (0 ≤ n.mark ∧ n.mark ≤ 8) && kindB n
theorem cont_data {n : Nd} (h : 60 < n.data.size) : contB n = false := by
  have : decide (n.data.size ≤ 60) = false := by simp; omega
  simp [contB, this]
theorem cont_time {n : Nd} (h : ¬ (0 ≤ n.time ∧ n.time ≤ 1000000)) : contB n = false := by
  have : decide (0 ≤ n.time ∧ n.time ≤ 1000000) = false := by simpa using h
  unfold contB; rw [this]; simp
theorem cont_mark {n : Nd} (h : ¬ (0 ≤ n.mark ∧ n.mark ≤ 8)) : contB n = false := by
  have : decide (0 ≤ n.mark ∧ n.mark ≤ 8) = false := by simpa using h
  unfold contB; rw [this]; simp
theorem cont_kind {n : Nd} (h2 : n.data.size ≤ 60) (h3 : 0 ≤ n.time ∧ n.time ≤ 1000000) (h4 : 0 ≤ n.mark ∧ n.mark ≤ 8) : contB n = kindB n := by
  have e3 : decide (0 ≤ n.time ∧ n.time ≤ 1000000) = true := by simpa using h3
  have e4 : decide (0 ≤ n.mark ∧ n.mark ≤ 8) = true := by simpa using h4
  unfold contB; rw [e3, e4]; simp [h2]
theorem node_cont {n : Nd} (h0 : n.path.size ≠ 0) (h1 : pathB n.path = true) : nodeB n = contB n := by
  unfold nodeB contB; simp [h0, h1, Bool.and_assoc]
end Pl
end Go.Proofs.YteddcihodfkliaaGreatDoor

/- Right trees: as the program goes through the nodes, and as the specification does. No program in sight. -/
namespace Go.Proofs.YteddcihodfkliaaGreatDoor
namespace Pl
theorem bytes_trans : ∀ a b c : List UInt8, Op.bytesLess a b = true → Op.bytesLess b c = true → Op.bytesLess a c = true := by
  intro a
  induction a with
  | nil =>
    intro b c h1 h2
    cases c with
    | nil => cases b <;> simp [Op.bytesLess] at h2
    | cons z c => rfl
  | cons x a ih =>
    intro b c h1 h2
    cases b with
    | nil => simp [Op.bytesLess] at h1
    | cons y b =>
      cases c with
      | nil => simp [Op.bytesLess] at h2
      | cons z c =>
        simp only [Op.bytesLess, Bool.or_eq_true, decide_eq_true_eq, Bool.and_eq_true, beq_iff_eq] at h1 h2 ⊢
        rcases h1 with h1 | ⟨rfl, h1⟩
        · rcases h2 with h2 | ⟨rfl, h2⟩
          · left; rw [UInt8.lt_iff_toNat_lt] at h1 h2 ⊢; omega
          · left; exact h1
        · rcases h2 with h2 | ⟨rfl, h2⟩
          · left; exact h2
          · right; exact ⟨rfl, ih b c h1 h2⟩
theorem bytes_irr : ∀ a : List UInt8, Op.bytesLess a a = false := by
  intro a
  induction a with
  | nil => rfl
  | cons x a ih => simp [Op.bytesLess, ih]
theorem less_trans : ∀ A B C : List ByteArray, lessL A B = true → lessL B C = true → lessL A C = true := by
  intro A
  induction A with
  | nil =>
    intro B C h1 h2
    cases C with
    | nil => cases B <;> simp [lessL] at h2
    | cons c C => rfl
  | cons a A ih =>
    intro B C h1 h2
    cases B with
    | nil => simp [lessL] at h1
    | cons b B =>
      cases C with
      | nil => simp [lessL] at h2
      | cons c C =>
        rw [lessL] at h1 h2 ⊢
        by_cases hab : a = b
        · subst hab
          rw [if_pos rfl] at h1
          by_cases hac : a = c
          · subst hac
            rw [if_pos rfl] at h2 ⊢
            exact ih B C h1 h2
          · rw [if_neg hac] at h2 ⊢; exact h2
        · rw [if_neg hab] at h1
          by_cases hbc : b = c
          · subst hbc
            rw [if_neg hab]; exact h1
          · rw [if_neg hbc] at h2
            have h3 := bytes_trans _ _ _ h1 h2
            by_cases hac : a = c
            · subst hac; rw [bytes_irr] at h3; cases h3
            · rw [if_neg hac]; exact h3
theorem less_irr : ∀ A : List ByteArray, lessL A A = false := by
  intro A
  induction A with
  | nil => rfl
  | cons a A ih => rw [lessL, if_pos rfl, ih]
theorem less_drop : ∀ A : List ByteArray, A ≠ [] → lessL A.dropLast A = true := by
  intro A h
  have h1 : A.dropLast ++ [A.getLast h] = A := List.dropLast_concat_getLast h
  have h2 : ∀ (B : List ByteArray) (x : ByteArray), lessL B (B ++ [x]) = true := by
    intro B x
    induction B with
    | nil => rfl
    | cons b B ih => rw [List.cons_append, lessL, if_pos rfl]; exact ih
  have h3 := h2 A.dropLast (A.getLast h)
  rw [h1] at h3; exact h3
/-- Which of two right paths is ahead; the parent of a right path. -/
def ltP (a b : ByteArray) : Bool := pathB a && pathB b && lessL (namesR a) (namesR b)
def parentP (p : ByteArray) : ByteArray := glue (namesR p).dropLast
def parI (C : List Nd) (p : ByteArray) : Bool := decide ((parentP p).size = 0) || C.any (fun m => decide (m.path = parentP p) && decide (m.kind = 1))
def goI (C : List Nd) (last : ByteArray) : List Nd → Bool
  | [] => true
  | n :: r => nodeB n && ltP last n.path && parI C n.path && goI (C ++ [n]) n.path r
def treeB (L : List Nd) : Bool := decide (L.length ≤ 40) && goI [] ⟨#[]⟩ L
def dirS (L : List Nd) (p : ByteArray) : Bool := decide (p.size = 0) || (match L.find? (fun m => decide (m.path = p)) with | some m => decide (m.kind = 1) | none => false)
def prevB (prev : Option ByteArray) (p : ByteArray) : Bool := match prev with | none => true | some q => lessL (names q) (names p)
def goS (L : List Nd) (prev : Option ByteArray) : List Nd → Bool
  | [] => true
  | n :: r => nodeB n && prevB prev n.path && dirS L (parent n.path) && goS L (some n.path) r
theorem node_right {n : Nd} (h : nodeB n = true) : pathB n.path = true ∧ n.path.size ≠ 0 := by
  unfold nodeB at h
  simp only [Bool.and_eq_true, decide_eq_true_eq] at h
  exact ⟨h.1.1.1.1.2, h.1.1.1.1.1⟩
theorem node_bounds {n : Nd} (h : nodeB n = true) : n.data.size ≤ 60 ∧ (0 ≤ n.time ∧ n.time ≤ 1000000) ∧ (0 ≤ n.mark ∧ n.mark ≤ 8) ∧ kindB n = true := by
  unfold nodeB at h
  simp only [Bool.and_eq_true, decide_eq_true_eq] at h
  exact ⟨h.1.1.1.2, h.1.1.2, h.1.2, h.2⟩
theorem pathB_le {p : ByteArray} (h : pathB p = true) : p.size ≤ 200 := by
  unfold pathB at h
  simp only [Bool.and_eq_true, decide_eq_true_eq] at h
  exact h.1.1
theorem names_ne {p : ByteArray} (h : p.size ≠ 0) : names p ≠ [] := by
  intro e
  have := names_list p
  rw [e] at this
  simp only [List.map_nil, namesL] at this
  split at this
  · next h1 => rw [by_nil] at h1; exact h h1
  · exact cutL_ne _ this.symm
theorem parent_right {p : ByteArray} (h : pathB p = true) : parent p = parentP p := by rw [parent_glue, parentP, namesR_yes h]
theorem parent_names {p : ByteArray} (h : pathB p = true) : names (parentP p) = (names p).dropLast := by
  rw [parentP, namesR_yes h]
  exact names_glue (fun t ht => (pathB_all h).1 t (List.dropLast_subset _ ht))
theorem ltP_right {a b : ByteArray} (ha : pathB a = true) (hb : pathB b = true) : ltP a b = lessL (names a) (names b) := by rw [ltP, ha, hb, namesR_yes ha, namesR_yes hb]; rfl
theorem path_eq {a b : ByteArray} (h : names a = names b) : a = b := by rw [← glue_names a, ← glue_names b, h]
theorem rise (L : List Nd) : ∀ (r : List Nd) (q : ByteArray), goS L (some q) r = true → ∀ m ∈ r, lessL (names q) (names m.path) = true := by
  intro r
  induction r with
  | nil => intro q _ m hm; cases hm
  | cons n r ih =>
    intro q h m hm
    simp only [goS, Bool.and_eq_true] at h
    rcases List.mem_cons.1 hm with rfl | hm
    · exact h.1.1.2
    · exact less_trans _ _ _ h.1.1.2 (ih n.path h.2 m hm)
theorem find_app {α : Type} {f : α → Bool} (A B : List α) : (A ++ B).find? f = match A.find? f with | some x => some x | none => B.find? f := by
  rw [List.find?_append]; cases A.find? f <;> rfl
theorem one_path {C : List Nd} (h : C.Pairwise (fun a b => lessL (names a.path) (names b.path) = true)) {a b : Nd} (ha : a ∈ C) (hb : b ∈ C) (e : a.path = b.path) : a = b := by
  induction h with
  | nil => cases ha
  | cons hx _ ih =>
    rcases List.mem_cons.1 ha with e1 | h1
    · rcases List.mem_cons.1 hb with e2 | h2
      · rw [e1, e2]
      · have h3 := hx _ h2; rw [← e1, e, less_irr] at h3; cases h3
    · rcases List.mem_cons.1 hb with e2 | h2
      · have h3 := hx _ h1; rw [← e2, e, less_irr] at h3; cases h3
      · exact ih h1 h2
theorem go_same (L : List Nd) : ∀ (r C : List Nd) (prev : Option ByteArray) (last : ByteArray), L = C ++ r → (prev = none ∧ C = [] ∧ last = ⟨#[]⟩ ∨ prev = some last ∧ pathB last = true) →
    C.Pairwise (fun a b => lessL (names a.path) (names b.path) = true) → (∀ a ∈ C, a.path = last ∨ lessL (names a.path) (names last) = true) → goS L prev r = goI C last r := by
  intro r
  induction r with
  | nil => intros; rfl
  | cons n r ih =>
    intro C prev last hL hprev hC hlast
    simp only [goS, goI]
    cases hn : nodeB n
    · simp
    obtain ⟨hr, h0⟩ := node_right hn
    have hlt : prevB prev n.path = ltP last n.path := by
      rcases hprev with ⟨rfl, rfl, rfl⟩ | ⟨rfl, hl⟩
      · have e1 : pathB (⟨#[]⟩ : ByteArray) = true := (right_root rfl).1
        have e2 : names (⟨#[]⟩ : ByteArray) = [] := (right_root rfl).2
        rw [ltP_right e1 hr, e2]
        cases hx : names n.path with
        | nil => exact absurd hx (names_ne h0)
        | cons a l => rfl
      · rw [ltP_right hl hr]; rfl
    rw [hlt]
    cases hlt2 : ltP last n.path
    · simp
    simp only [Bool.true_and, parent_right hr]
    have hall : ∀ a ∈ C, lessL (names a.path) (names n.path) = true := by
      intro a ha
      rcases hprev with ⟨_, rfl, _⟩ | ⟨_, hl⟩
      · cases ha
      · rw [ltP_right hl hr] at hlt2
        rcases hlast a ha with e | e
        · rw [e]; exact hlt2
        · exact less_trans _ _ _ e hlt2
    have hC2 : (C ++ [n]).Pairwise (fun a b => lessL (names a.path) (names b.path) = true) := by
      rw [List.pairwise_append]
      exact ⟨hC, List.pairwise_singleton _ _, fun a ha b hb => by simp at hb; subst hb; exact hall a ha⟩
    have hrest : goS L (some n.path) r = goI (C ++ [n]) n.path r := by
      refine ih (C ++ [n]) (some n.path) n.path (by rw [hL]; simp) (.inr ⟨rfl, hr⟩) hC2 ?_
      intro a ha
      rcases List.mem_append.1 ha with ha | ha
      · exact .inr (hall a ha)
      · simp at ha; subst ha; exact .inl rfl
    by_cases hp : (parentP n.path).size = 0
    · have e1 : dirS L (parentP n.path) = true := by simp [dirS, hp]
      have e2 : parI C n.path = true := by simp [parI, hp]
      rw [e1, e2, hrest]
    cases hpar : parI C n.path
    · have e1 : (dirS L (parentP n.path) && goS L (some n.path) r) = false := by
        rw [Bool.eq_false_iff]
        intro h
        simp only [Bool.and_eq_true] at h
        have hd := h.1
        simp only [dirS, hp, decide_false, Bool.false_or] at hd
        rw [hL, find_app] at hd
        have hCn : C.find? (fun m => decide (m.path = parentP n.path)) = none ∨ ∃ m, C.find? (fun m => decide (m.path = parentP n.path)) = some m := by
          cases C.find? (fun m => decide (m.path = parentP n.path)) with
          | none => exact .inl rfl
          | some m => exact .inr ⟨m, rfl⟩
        rcases hCn with hCn | ⟨m, hm⟩
        · rw [hCn] at hd
          cases hf : (n :: r).find? (fun m => decide (m.path = parentP n.path)) with
          | none => rw [hf] at hd; simp at hd
          | some m =>
            have hm1 := List.mem_of_find?_eq_some hf
            have hm2 : m.path = parentP n.path := by simpa using List.find?_some hf
            have hless : lessL (names m.path) (names n.path) = true := by
              rw [hm2, parent_names hr]; exact less_drop _ (names_ne h0)
            rcases List.mem_cons.1 hm1 with rfl | hm1
            · rw [less_irr] at hless; cases hless
            · have h3 := rise L r n.path h.2 m hm1
              have h4 := less_trans _ _ _ hless h3
              rw [less_irr] at h4; cases h4
        · rw [hm] at hd
          have hm1 := List.mem_of_find?_eq_some hm
          have hm2 : m.path = parentP n.path := by simpa using List.find?_some hm
          have : parI C n.path = true := by
            simp only [parI, Bool.or_eq_true, List.any_eq_true]
            exact .inr ⟨m, hm1, by simpa [hm2] using hd⟩
          rw [hpar] at this; cases this
      rw [e1]; simp
    · have e1 : dirS L (parentP n.path) = true := by
        simp only [parI, hp, decide_false, Bool.false_or, List.any_eq_true, Bool.and_eq_true, decide_eq_true_eq] at hpar
        obtain ⟨m, hm, hm2, hm3⟩ := hpar
        have hfind : C.find? (fun m => decide (m.path = parentP n.path)) = some m := by
          cases hf : C.find? (fun m => decide (m.path = parentP n.path)) with
          | none =>
            have := List.find?_eq_none.1 hf m hm
            simp [hm2] at this
          | some x =>
            have hx1 := List.mem_of_find?_eq_some hf
            have hx2 : x.path = parentP n.path := by simpa using List.find?_some hf
            rw [one_path hC hx1 hm (hx2.trans hm2.symm)]
        simp only [dirS, hp, decide_false, Bool.false_or]
        rw [hL, find_app, hfind]
        simpa using hm3
      rw [e1, hrest]
theorem tree_same (L : List Nd) : goS L none L = goI [] ⟨#[]⟩ L :=
  go_same L L [] none ⟨#[]⟩ rfl (.inl ⟨rfl, rfl, rfl⟩) List.Pairwise.nil (fun a ha => by cases ha)
/-- What a right tree's nodes are. -/
theorem goI_all : ∀ (r C : List Nd) (last : ByteArray), goI C last r = true → ∀ n ∈ r, nodeB n = true := by
  intro r
  induction r with
  | nil => intro C last _ n hn; cases hn
  | cons m r ih =>
    intro C last h n hn
    simp only [goI, Bool.and_eq_true] at h
    rcases List.mem_cons.1 hn with rfl | hn
    · exact h.1.1.1
    · exact ih _ _ h.2 n hn
theorem goI_rise : ∀ (r C : List Nd) (last : ByteArray), goI C last r = true → pathB last = true → r.Pairwise (fun a b => lessL (names a.path) (names b.path) = true) ∧ ∀ n ∈ r, lessL (names last) (names n.path) = true := by
  intro r
  induction r with
  | nil => intro C last _ _; exact ⟨List.Pairwise.nil, fun n hn => by cases hn⟩
  | cons m r ih =>
    intro C last h hl
    simp only [goI, Bool.and_eq_true] at h
    obtain ⟨hr, h0⟩ := node_right h.1.1.1
    obtain ⟨i1, i2⟩ := ih _ _ h.2 hr
    have h1 := h.1.1.2
    rw [ltP_right hl hr] at h1
    refine ⟨List.Pairwise.cons (fun n hn => i2 n hn) i1, fun n hn => ?_⟩
    rcases List.mem_cons.1 hn with rfl | hn
    · exact h1
    · exact less_trans _ _ _ h1 (i2 n hn)
end Pl
end Go.Proofs.YteddcihodfkliaaGreatDoor

/- What the laws of chapter 3 ask of paths. No program in sight. -/
namespace Go.Proofs.YteddcihodfkliaaGreatDoor
namespace Pl
theorem bytesLess_anti : ∀ a b : List UInt8, a ≠ b → Op.bytesLess a b = !Op.bytesLess b a := by
  intro a
  induction a with
  | nil => intro b h; cases b with
    | nil => exact absurd rfl h
    | cons c b => rfl
  | cons x a ih =>
    intro b h
    cases b with
    | nil => rfl
    | cons y b =>
      simp only [Op.bytesLess]
      by_cases hxy : x = y
      · subst hxy
        have hab : a ≠ b := fun e => h (by rw [e])
        rw [ih b hab]; simp
      · have h1 : (x == y) = false := by simpa using hxy
        have h2 : (y == x) = false := by simpa using fun e : y = x => hxy e.symm
        rw [h1, h2]
        simp only [Bool.false_and, Bool.or_false]
        by_cases hlt : x < y
        · have : ¬ y < x := by rw [UInt8.lt_iff_toNat_lt] at hlt ⊢; omega
          simp [hlt, this]
        · have : y < x := by
            rw [UInt8.lt_iff_toNat_lt] at hlt ⊢
            have : x.toNat ≠ y.toNat := fun e => hxy (UInt8.toNat_inj.1 e)
            omega
          simp [hlt, this]
theorem less_anti : ∀ A B : List ByteArray, A ≠ B → lessL A B = !lessL B A := by
  intro A
  induction A with
  | nil => intro B h; cases B with
    | nil => exact absurd rfl h
    | cons b B => rfl
  | cons a A ih =>
    intro B h
    cases B with
    | nil => rfl
    | cons b B =>
      rw [lessL, lessL]
      by_cases hab : a = b
      · subst hab
        rw [if_pos rfl, if_pos rfl]
        exact ih B (fun e => h (by rw [e]))
      · rw [if_neg hab, if_neg (fun e => hab e.symm)]
        refine bytesLess_anti _ _ ?_
        rw [ByteArray.toList_eq, ByteArray.toList_eq]
        exact fun e => hab (by_inj e)
theorem less_under : ∀ A B : List ByteArray, (∀ (j : Nat) t, B[j]? = some t → A[j]? = some t) → lessL A B = false := by
  intro A
  induction A with
  | nil => intro B h; cases B with
    | nil => rfl
    | cons b B => have := h 0 b rfl; cases this
  | cons a A ih =>
    intro B h
    cases B with
    | nil => rfl
    | cons b B =>
      have h0 := h 0 b rfl
      simp at h0
      subst h0
      rw [lessL, if_pos rfl]
      exact ih B (fun j t ht => by have := h (j + 1) t (by simpa using ht); simpa using this)
theorem less_more : ∀ (A : List ByteArray) (n : ByteArray), lessL A (A ++ [n]) = true := by
  intro A n
  induction A with
  | nil => rfl
  | cons a A ih => rw [List.cons_append, lessL, if_pos rfl]; exact ih
theorem glue_namesR {p : ByteArray} (h : pathB p = true) : glue (namesR p) = p := by rw [namesR_yes h, glue_names]
theorem namesR_glue {L : List ByteArray} (h : ∀ t ∈ L, nameB t = true) (h6 : L.length ≤ 6) : namesR (glue L) = L := by
  rw [namesR_yes (pathB_glue h h6), names_glue h]
theorem glue_one (n : ByteArray) : glue [n] = n := by apply by_inj; rw [by_glue]; rfl
theorem path_inj {a b : ByteArray} (ha : pathB a = true) (hb : pathB b = true) (h : namesR a = namesR b) : a = b := by
  rw [← glue_namesR ha, ← glue_namesR hb, h]
theorem under_self (A B : List ByteArray) : underR (A ++ B) A = true := by
  rw [underR_iff]
  intro j t ht
  rw [List.getElem?_append_left (List.getElem?_eq_some_iff.1 ht).1]; exact ht
/-- FnPath: what is joined. -/
theorem join_ok {p n : ByteArray} (h : (joinO p n).2 = 0) : pathB p = true ∧ nameB n = true ∧ (namesR p).length ≤ 5 ∧ (joinO p n).1 = glue (namesR p ++ [n]) := by
  unfold joinO at h ⊢
  split at h
  · cases h
  split at h
  · cases h
  split at h
  · cases h
  rename_i h1 h2 h3
  rw [if_neg h1, if_neg h2, if_neg h3]
  have h4 : pathB p = true ∧ nameB n = true := Classical.byContradiction (fun e => h2 e)
  have := (namesR_all p).2
  exact ⟨h4.1, h4.2, by omega, rfl⟩
theorem join_law {p n : ByteArray} (h : (joinO p n).2 = 0) :
    glue (namesR (joinO p n).1).dropLast = p ∧ glue ((namesR (joinO p n).1).drop ((namesR (joinO p n).1).length - 1)) = n ∧
    (pathB (joinO p n).1 && pathB p && underR (namesR (joinO p n).1) (namesR p)) = true ∧ (pathB p && pathB (joinO p n).1 && lessL (namesR p) (namesR (joinO p n).1)) = true ∧ (joinO p n).1.size ≤ 1000 := by
  obtain ⟨h1, h2, h3, h4⟩ := join_ok h
  have ha : ∀ t ∈ namesR p ++ [n], nameB t = true := by
    intro t ht
    rcases List.mem_append.1 ht with ht | ht
    · exact (namesR_all p).1 t ht
    · simp at ht; subst ht; exact h2
  have hl : (namesR p ++ [n]).length ≤ 6 := by rw [List.length_append]; simp; omega
  have e1 := namesR_glue ha hl
  have e2 := pathB_glue ha hl
  have e3 := glue_size (namesR p ++ [n]) (fun t ht => (name_free (ha t ht)).2.2.2)
  rw [h4, e1, e2, h1]
  refine ⟨by rw [List.dropLast_concat]; exact glue_namesR h1, ?_, by rw [under_self]; rfl, by rw [less_more]; rfl, by omega⟩
  have : (namesR p ++ [n]).length - 1 = (namesR p).length := by rw [List.length_append]; simp
  rw [this, List.drop_left]; exact glue_one n
theorem join_size (p n : ByteArray) : (joinO p n).1.size ≤ 1000 := by
  by_cases h : (joinO p n).2 = 0
  · exact (join_law h).2.2.2.2
  · unfold joinO at h ⊢
    split
    · exact Nat.zero_le _
    split
    · exact Nat.zero_le _
    split
    · exact Nat.zero_le _
    · rename_i h1 h2 h3; rw [if_neg h1, if_neg h2, if_neg h3] at h; exact absurd rfl h
theorem under_less (u t : ByteArray) : (pathB u && pathB t && underR (namesR u) (namesR t)) = true → (pathB u && pathB t && lessL (namesR u) (namesR t)) = false := by
  intro h
  simp only [Bool.and_eq_true] at h
  rw [less_under _ _ ((underR_iff _ _).1 h.2)]; simp
theorem two_less {a b : ByteArray} (ha : pathB a = true) (hb : pathB b = true) (h : a ≠ b) : (pathB a && pathB b && lessL (namesR a) (namesR b)) = !(pathB b && pathB a && lessL (namesR b) (namesR a)) := by
  rw [ha, hb, Bool.true_and, Bool.true_and, Bool.true_and]
  exact less_anti _ _ (fun e => h (path_inj ha hb e))
/-- FnRest. -/
theorem rest_ok {p t : ByteArray} (hp : p.size ≤ 100) (ht : t.size ≤ 100) : ((restO p t).2 = 0 ↔ (pathB p && pathB t && underR (namesR p) (namesR t)) = true) := by
  unfold restO
  rw [if_neg (by omega)]
  by_cases h1 : pathB p = true ∧ pathB t = true
  · rw [if_neg (by simpa using h1), h1.1, h1.2]
    cases h2 : underR (namesR p) (namesR t)
    · rw [if_pos rfl]; simp
    · rw [if_neg (by simp)]; simp
  · rw [if_pos h1]
    constructor
    · intro h; cases h
    · intro h
      simp only [Bool.and_eq_true] at h
      exact absurd h.1 h1
theorem rest_law {p t : ByteArray} (hp : p.size ≤ 100) (ht : t.size ≤ 100) (h : (restO p t).2 = 0) : bothO t (restO p t).1 = (p, 0) ∧ (restO p t).1.size ≤ 1000 := by
  have hu := (rest_ok hp ht).1 h
  simp only [Bool.and_eq_true] at hu
  obtain ⟨⟨h1, h2⟩, h3⟩ := hu
  have e : (restO p t).1 = glue ((namesR p).drop (namesR t).length) := by
    unfold restO
    rw [if_neg (by omega), if_neg (by simp [h1, h2]), if_neg (by simp [h3])]
  rw [e]
  have ha : ∀ u ∈ (namesR p).drop (namesR t).length, nameB u = true := all_drop (namesR_all p).1 _
  have hl : ((namesR p).drop (namesR t).length).length ≤ 6 := by have := (namesR_all p).2; rw [List.length_drop]; omega
  have e1 := namesR_glue ha hl
  have e2 := pathB_glue ha hl
  have e3 := glue_size _ (fun u hu => (name_free (ha u hu)).2.2.2)
  have hle := underR_length h3
  have hcat : namesR t ++ (namesR p).drop (namesR t).length = namesR p := by
    have : namesR t = (namesR p).take (namesR t).length := by
      apply List.ext_getElem?
      intro j
      by_cases hj : j < (namesR t).length
      · rw [List.getElem?_take_of_lt hj, List.getElem?_eq_getElem hj, (underR_iff _ _).1 h3 j _ (List.getElem?_eq_getElem hj)]
      · rw [List.getElem?_eq_none (by omega), List.getElem?_eq_none (by simp; omega)]
    conv => lhs; lhs; rw [this]
    rw [List.take_append_drop]
  refine ⟨?_, by omega⟩
  unfold bothO
  have h6 := (namesR_all p).2
  rw [if_neg (by omega), if_neg (by simp [h2, e2]), e1, if_neg (by rw [List.length_drop]; omega), hcat, glue_namesR h1]
theorem both_law {a b : ByteArray} (ha : a.size ≤ 100) (hb : b.size ≤ 100) (h : (bothO a b).2 = 0) : restO (bothO a b).1 a = (b, 0) := by
  unfold bothO at h
  rw [if_neg (by omega)] at h
  split at h
  · cases h
  split at h
  · cases h
  rename_i h1 h2
  have h3 : pathB a = true ∧ pathB b = true := Classical.byContradiction h1
  have e : (bothO a b).1 = glue (namesR a ++ namesR b) := by unfold bothO; rw [if_neg (by omega), if_neg h1, if_neg h2]
  rw [e]
  have hx : ∀ u ∈ namesR a ++ namesR b, nameB u = true := by
    intro t ht
    rcases List.mem_append.1 ht with ht | ht
    · exact (namesR_all a).1 t ht
    · exact (namesR_all b).1 t ht
  have hl : (namesR a ++ namesR b).length ≤ 6 := by rw [List.length_append]; omega
  have e1 := namesR_glue hx hl
  have e2 := pathB_glue hx hl
  have e3 := glue_size _ (fun u hu => (name_free (hx u hu)).2.2.2)
  unfold restO
  rw [if_neg (by omega), if_neg (by simp [h3.1, e2]), e1, if_neg (by rw [under_self]; simp), List.drop_left, glue_namesR h3.2]
theorem both_size (a b : ByteArray) : (bothO a b).1.size ≤ 1000 := by
  unfold bothO
  split
  · exact Nat.zero_le _
  split
  · exact Nat.zero_le _
  split
  · exact Nat.zero_le _
  rename_i h2
  have := glue_size (namesR a ++ namesR b) (fun u hu => by
    rcases List.mem_append.1 hu with ht | ht
    · exact (name_free ((namesR_all a).1 u ht)).2.2.2
    · exact (name_free ((namesR_all b).1 u ht)).2.2.2)
  rw [List.length_append] at this
  show (glue (namesR a ++ namesR b)).size ≤ 1000
  omega
theorem rest_size (a b : ByteArray) : (restO a b).1.size ≤ 1000 := by
  unfold restO
  split
  · exact Nat.zero_le _
  split
  · exact Nat.zero_le _
  split
  · exact Nat.zero_le _
  have h6 := (namesR_all a).2
  have := glue_size ((namesR a).drop (namesR b).length) (fun u hu => (name_free ((namesR_all a).1 u (List.mem_of_mem_drop hu))).2.2.2)
  rw [List.length_drop] at this
  show (glue ((namesR a).drop (namesR b).length)).size ≤ 1000
  omega
end Pl
end Go.Proofs.YteddcihodfkliaaGreatDoor

/- What lies below a path, in a list of nodes that rises: side by side. No program in sight. -/
namespace Go.Proofs.YteddcihodfkliaaGreatDoor
namespace Pl
/-- A path that is not another one, and is under it. -/
def belowP (q p : ByteArray) : Bool := !decide (q = p) && (pathB q && pathB p && underR (namesR q) (namesR p))
def pieceL (L : List Nd) (p : ByteArray) : List Nd := (L.dropWhile (fun n => !belowP n.path p)).takeWhile (fun n => belowP n.path p)
theorem mid_L : ∀ P A B C : List ByteArray, (∀ (j : Nat) t, P[j]? = some t → A[j]? = some t) → (∀ (j : Nat) t, P[j]? = some t → C[j]? = some t) → lessL A B = true → lessL B C = true → ∀ (j : Nat) t, P[j]? = some t → B[j]? = some t := by
  intro P
  induction P with
  | nil => intro A B C _ _ _ _ j t h; simp at h
  | cons x P ih =>
    intro A B C hA hC h1 h2 j t hj
    have a0 := hA 0 x rfl
    have c0 := hC 0 x rfl
    match A, a0 with
    | a :: A, a0 =>
      simp at a0
      match C, c0 with
      | c :: C, c0 =>
        simp at c0
        subst a0 c0
        match B, h1, h2 with
        | [], h1, _ => simp [lessL] at h1
        | b :: B, h1, h2 =>
          have e : b = c := by
            by_cases e : b = c
            · exact e
            · exfalso
              rw [lessL, if_neg (fun h => e h.symm)] at h1
              rw [lessL, if_neg e] at h2
              have hne : c.toList ≠ b.toList := fun h => e (by_inj (by rw [ByteArray.toList_eq, ByteArray.toList_eq] at h; exact h.symm))
              rw [bytesLess_anti _ _ hne, h2] at h1
              cases h1
          subst e
          rw [lessL, if_pos rfl] at h1 h2
          match j, hj with
          | 0, hj => simpa using hj
          | j + 1, hj =>
            have hj' : P[j]? = some t := by simpa using hj
            have := ih A B C (fun i u hu => by have := hA (i + 1) u (by simpa using hu); simpa using this) (fun i u hu => by have := hC (i + 1) u (by simpa using hu); simpa using this) h1 h2 j t hj'
            simpa using this
theorem mid {a b c p : ByteArray} (ha : pathB a = true) (hb : pathB b = true) (hc : pathB c = true) (h1 : ltP a b = true) (h2 : ltP b c = true) (ka : belowP a p = true) (kc : belowP c p = true) : belowP b p = true := by
  rw [ltP_right ha hb] at h1
  rw [ltP_right hb hc] at h2
  simp only [belowP, Bool.and_eq_true, Bool.not_eq_true', decide_eq_false_iff_not] at ka kc ⊢
  obtain ⟨_, ⟨_, hp⟩, ua⟩ := ka
  obtain ⟨_, _, uc⟩ := kc
  rw [namesR_yes ha, namesR_yes hp] at ua
  rw [namesR_yes hc, namesR_yes hp] at uc
  have hm := mid_L _ _ _ _ ((underR_iff _ _).1 ua) ((underR_iff _ _).1 uc) h1 h2
  refine ⟨fun e => ?_, ⟨hb, hp⟩, ?_⟩
  · subst e
    rw [less_under _ _ ((underR_iff _ _).1 ua)] at h1
    cases h1
  · rw [namesR_yes hb, namesR_yes hp]
    exact (underR_iff _ _).2 hm
theorem take_filter {p : ByteArray} : ∀ (L : List Nd) (n : Nd), pathB n.path = true → belowP n.path p = true → (∀ m ∈ L, pathB m.path = true ∧ ltP n.path m.path = true) → L.Pairwise (fun a b => ltP a.path b.path = true) →
    L.takeWhile (fun m => belowP m.path p) = L.filter (fun m => belowP m.path p) := by
  intro L
  induction L with
  | nil => intros; rfl
  | cons b L ih =>
    intro n hn hk hL hr
    have hb := hL b List.mem_cons_self
    have hr' := List.pairwise_cons.1 hr
    cases kb : belowP b.path p
    · have hf : (b :: L).filter (fun m => belowP m.path p) = [] := by
        rw [List.filter_eq_nil_iff]
        intro c hc kc
        rcases List.mem_cons.1 hc with e | hc
        · subst e; rw [kb] at kc; cases kc
        · have := mid hn hb.1 (hL c (List.mem_cons_of_mem _ hc)).1 hb.2 (hr'.1 c hc) hk kc
          rw [kb] at this; cases this
      rw [hf, List.takeWhile_cons, kb]; rfl
    · rw [List.takeWhile_cons, List.filter_cons, kb]
      simp only [if_true]
      rw [ih b hb.1 kb (fun m hm => ⟨(hL m (List.mem_cons_of_mem _ hm)).1, hr'.1 m hm⟩) hr'.2]
theorem piece_filter (p : ByteArray) : ∀ (L : List Nd), (∀ n ∈ L, pathB n.path = true) → L.Pairwise (fun a b => ltP a.path b.path = true) → pieceL L p = L.filter (fun n => belowP n.path p) := by
  intro L
  induction L with
  | nil => intros; rfl
  | cons n L ih =>
    intro hok hr
    have hr' := List.pairwise_cons.1 hr
    cases k : belowP n.path p
    · rw [pieceL, List.dropWhile_cons, k, List.filter_cons, k]
      simp only [Bool.not_false, if_true, Bool.false_eq_true, if_false]
      exact ih (fun m hm => hok m (List.mem_cons_of_mem _ hm)) hr'.2
    · rw [pieceL, List.dropWhile_cons, k, List.filter_cons, k]
      simp only [Bool.not_true, Bool.false_eq_true, if_false, if_true]
      rw [List.takeWhile_cons, k]
      simp only [if_true]
      rw [take_filter L n (hok n List.mem_cons_self) k (fun m hm => ⟨hok m (List.mem_cons_of_mem _ hm), hr'.1 m hm⟩) hr'.2]
/-- The piece of a list, cut by its two places. -/
theorem piece_at (L : List Nd) (p : ByteArray) (i j : Nat) (hij : i ≤ j) (_hj : j ≤ L.length) (h1 : ∀ (k : Nat) n, k < i → L[k]? = some n → belowP n.path p = false) (h2 : ∀ n, L[i]? = some n → belowP n.path p = true)
    (h3 : ∀ (k : Nat) n, i ≤ k → k < j → L[k]? = some n → belowP n.path p = true) (h4 : ∀ n, L[j]? = some n → belowP n.path p = false) : pieceL L p = (L.drop i).take (j - i) := by
  have hd : L.dropWhile (fun n => !belowP n.path p) = L.drop i := by
    clear h3 h4 hij _hj j
    induction L generalizing i with
    | nil => simp
    | cons n L ih =>
      match i with
      | 0 =>
        have := h2 n rfl
        rw [List.dropWhile_cons, this]; simp
      | i + 1 =>
        have := h1 0 n (by omega) rfl
        rw [List.dropWhile_cons, this]
        simp only [Bool.not_false, if_true, List.drop_succ_cons]
        exact ih i (fun k m hk hm => h1 (k + 1) m (by omega) (by simpa using hm)) (fun m hm => h2 m (by simpa using hm))
  rw [pieceL, hd]
  have hlen : (L.drop i).length = L.length - i := by simp
  have h3' : ∀ (k : Nat) n, k < j - i → (L.drop i)[k]? = some n → belowP n.path p = true := fun k n hk hn => h3 (i + k) n (by omega) (by omega) (by simpa [List.getElem?_drop] using hn)
  have h4' : ∀ n, (L.drop i)[j - i]? = some n → belowP n.path p = false := fun n hn => h4 n (by rw [List.getElem?_drop, show i + (j - i) = j by omega] at hn; exact hn)
  generalize L.drop i = M at h3' h4'
  generalize j - i = q at h3' h4'
  clear hd h1 h2 h3 h4 hlen hij _hj
  induction M generalizing q with
  | nil => simp
  | cons n M ih =>
    match q with
    | 0 => have := h4' n rfl; rw [List.takeWhile_cons, this]; simp
    | q + 1 =>
      have := h3' 0 n (by omega) rfl
      rw [List.takeWhile_cons, this]
      simp only [if_true, List.take_succ_cons]
      rw [ih q (fun k m hk hm => h3' (k + 1) m (by omega) (by simpa using hm)) (fun m hm => h4' m (by simpa using hm))]
theorem piece_none {L : List Nd} {p : ByteArray} : (pieceL L p).length = 0 ↔ L.any (fun n => belowP n.path p) = false := by
  induction L with
  | nil => simp [pieceL]
  | cons n L ih =>
    cases k : belowP n.path p
    · rw [pieceL, List.dropWhile_cons, k, List.any_cons, k]
      simpa [pieceL] using ih
    · rw [pieceL, List.dropWhile_cons, k, List.any_cons, k]
      simp [k]
end Pl
end Go.Proofs.YteddcihodfkliaaGreatDoor

/- Rows of nodes. No program in sight. -/
namespace Go.Proofs.YteddcihodfkliaaGreatDoor
open Go.RowKit
namespace Mem
/-- A slice of nodes: its length, and its cells (below the heap's end). -/
def isNodes (w : World) (a : Option Addr) (L : List Pl.Nd) : Prop :=
  ∀ (i : Nat) n, L[i]? = some n → ∃ b o, a = some ⟨b, o, none⟩ ∧ b < w.heap.size ∧
    w.cell? ⟨b, o + i * 5, none⟩ = some (.string n.path) ∧ w.cell? ⟨b, o + i * 5 + 1, none⟩ = some (.int .i64 n.kind) ∧ w.cell? ⟨b, o + i * 5 + 2, none⟩ = some (.string n.data) ∧
    w.cell? ⟨b, o + i * 5 + 3, none⟩ = some (.int .i64 n.time) ∧ w.cell? ⟨b, o + i * 5 + 4, none⟩ = some (.int .i64 n.mark)
theorem nodes_call {w w' : World} {a : Option Addr} {L : List Pl.Nd} (h : isNodes w a L) (b : Below w.heap.size w w') : isNodes w' a L := fun i n hi => by
  obtain ⟨g, o, h1, h2, h3, h4, h5, h6, h7⟩ := h i n hi
  exact ⟨g, o, h1, Nat.lt_of_lt_of_le h2 b.size, (b.cell (p := ⟨g, _, none⟩) h2).trans h3, (b.cell (p := ⟨g, _, none⟩) h2).trans h4, (b.cell (p := ⟨g, _, none⟩) h2).trans h5, (b.cell (p := ⟨g, _, none⟩) h2).trans h6, (b.cell (p := ⟨g, _, none⟩) h2).trans h7⟩
theorem add_any (b o j : Nat) : (⟨b, o, none⟩ : Addr).add j = ⟨b, o + j, none⟩ := by unfold Addr.add; split <;> simp_all
theorem nodes_nil (w : World) (a : Option Addr) : isNodes w a [] := fun i n hi => by simp at hi
end Mem
end Go.Proofs.YteddcihodfkliaaGreatDoor

/- Rows of nodes that are the call's own: what is in them, one more behind them, and what the marks of a law do to them. -/
namespace Go.Proofs.YteddcihodfkliaaGreatDoor
open Go.RowKit
namespace Pl
/-- A node's five cells. -/
def Nd.cs (n : Nd) : List Value := [.string n.path, .int .i64 n.kind, .string n.data, .int .i64 n.time, .int .i64 n.mark]
def cellsN (L : List Nd) : List Value := L.flatMap Nd.cs
theorem cellsN_len (L : List Nd) : (cellsN L).length = L.length * 5 := by
  induction L with
  | nil => rfl
  | cons n L ih => rw [cellsN, List.flatMap_cons, List.length_append, ← cellsN, ih, List.length_cons]; simp [Nd.cs]; omega
theorem cellsN_cons (n : Nd) (L : List Nd) : cellsN (n :: L) = n.cs ++ cellsN L := by simp [cellsN]
theorem cellsN_app (L M : List Nd) : cellsN (L ++ M) = cellsN L ++ cellsN M := by simp [cellsN]
theorem cellsN_get (L : List Nd) (i : Nat) (n : Nd) (h : L[i]? = some n) (j : Nat) (hj : j < 5) : (cellsN L)[i * 5 + j]? = n.cs[j]? := by
  induction L generalizing i with
  | nil => simp at h
  | cons m L ih =>
    rw [cellsN_cons]
    have hl : m.cs.length = 5 := rfl
    match i, h with
    | 0, h =>
      simp at h; subst h
      rw [List.getElem?_append_left (by rw [hl]; omega)]
      simp
    | i + 1, h =>
      rw [List.getElem?_append_right (by rw [hl]; omega), hl, show (i + 1) * 5 + j - 5 = i * 5 + j by omega]
      exact ih i (by simpa using h)
end Pl
namespace Mem
/-- A row of nodes of the call's own (or none). -/
def ownN (w : World) (B : Nat) (v : Value) (L : List Pl.Nd) : Prop := w.ownsRow B 34 5 v L.length (Pl.cellsN L)
theorem ownN_nil (w : World) (B : Nat) : ownN w B (.slice none 0 0) [] := ⟨rfl, .inl ⟨rfl, rfl⟩⟩
theorem ownN_is {w : World} {B : Nat} {v : Value} {L : List Pl.Nd} (h : ownN w B v L) : ∃ a cap, v = .slice a L.length cap ∧ isNodes w a L := by
  rcases h.2 with ⟨rfl, h0⟩ | ⟨g, cap, cur, rfl, hb, hg, hc, hm, hsz, ht⟩
  · exact ⟨none, 0, by rw [h0], fun i n hi => by rw [List.length_eq_zero_iff.1 h0] at hi; simp at hi⟩
  · refine ⟨some ⟨g, 0, none⟩, cap, rfl, fun i n hi => ?_⟩
    have hlt : i < L.length := (List.getElem?_eq_some_iff.1 hi).1
    have c : ∀ j, j < 5 → w.cell? ⟨g, 0 + i * 5 + j, none⟩ = n.cs[j]? := fun j hj => by
      rw [cell_of_row w g _ cur _ (0, 0) hg, Nat.zero_add, ← Pl.cellsN_get L i n hi j hj, ← ht, List.getElem?_take_of_lt (by omega), Array.getElem?_toList]
    exact ⟨g, 0, rfl, (Array.getElem?_eq_some_iff.1 hg).1, c 0 (by omega), c 1 (by omega), c 2 (by omega), c 3 (by omega), c 4 (by omega)⟩
theorem cs_one (n : Pl.Nd) : ∀ u ∈ n.cs, u.oneCell' = true := by
  intro u hu
  simp only [Pl.Nd.cs, List.mem_cons, List.not_mem_nil, or_false] at hu
  rcases hu with rfl | rfl | rfl | rfl | rfl <;> rfl
/-- A node that is alone in a block that was just made. -/
theorem cs_new (w : World) (n : Pl.Nd) (T : TypeId) : ∀ j u, n.cs[j]? = some u → (w.alloc (.cells n.cs.toArray T)).cell? ((⟨w.heap.size, 0, none⟩ : Addr).add j) = some u := by
  intro j u hj
  rw [Mem.add_lit]
  exact (Mem.var_new w n.cs T).2 j u hj
theorem cs_var {w : World} {X : Nat} (n : Pl.Nd) (h : Mem.Var w X n.cs) : ∀ j u, n.cs[j]? = some u → w.cell? ((⟨X, 0, none⟩ : Addr).add j) = some u := by
  intro j u hj
  rw [Mem.add_lit]
  exact h.2 j u hj
theorem ownN_snoc {w : World} {B : Nat} {v : Value} {L : List Pl.Nd} {n : Pl.Nd} (h : w.ownsRow B 34 5 v (L.length + 1) (Pl.cellsN L ++ n.cs)) : ownN w B v (L ++ [n]) := by
  unfold ownN
  rw [Pl.cellsN_app, List.length_append]
  have e : Pl.cellsN [n] = n.cs := by simp [Pl.cellsN]
  rw [e]; exact h
theorem ownN_call {w w' : World} {B : Nat} {v : Value} {L : List Pl.Nd} (h : ownN w B v L) (b : Below w.heap.size w w') : ownN w' B v L := by
  refine ⟨h.1, ?_⟩
  rcases h.2 with h0 | ⟨g, cap, cur, hv, hb, hg, rest⟩
  · exact .inl h0
  · exact .inr ⟨g, cap, cur, hv, hb, (b.block _ (Array.getElem?_eq_some_iff.1 hg).1).trans hg, rest⟩
theorem ownN_mono {w : World} {B B' : Nat} {v : Value} {L : List Pl.Nd} (h : ownN w B v L) (hb : B' ≤ B) : ownN w B' v L := own_mono h hb
end Mem
end Go.Proofs.YteddcihodfkliaaGreatDoor

/- A block of cells that stands in the heap: through calls, new blocks, appends and stores. No program in sight. -/
namespace Go.Proofs.YteddcihodfkliaaGreatDoor
open Go.RowKit
namespace Mem
def Blk (w : World) (X : Nat) (cs : Array Value) (T : TypeId) : Prop := w.heap[X]? = some (.cells cs T (0, 0))
theorem Blk.lt {w : World} {X : Nat} {cs : Array Value} {T : TypeId} (h : Blk w X cs T) : X < w.heap.size := (Array.getElem?_eq_some_iff.1 h).1
theorem Blk.cell {w : World} {X : Nat} {cs : Array Value} {T : TypeId} (h : Blk w X cs T) (k : Nat) : w.cell? ⟨X, k, none⟩ = cs[k]? := cell_of_row w X k cs T (0, 0) h
theorem Blk.fr {w : World} {X : Nat} {cs : Array Value} {T : TypeId} (h : Blk w X cs T) (k : Nat) : w.frozen? ⟨X, k, none⟩ = false := row_frozen h
theorem Blk.call {w w' : World} {X : Nat} {cs : Array Value} {T : TypeId} (h : Blk w X cs T) (b : Below w.heap.size w w') : Blk w' X cs T := (b.block _ h.lt).trans h
theorem Blk.below {w w' : World} {X B : Nat} {cs : Array Value} {T : TypeId} (h : Blk w X cs T) (b : Below B w w') (hX : X < B) : Blk w' X cs T := (b.block _ hX).trans h
theorem Blk.alloc {w : World} {X : Nat} {cs : Array Value} {T : TypeId} (h : Blk w X cs T) (o : Obj) : Blk (w.alloc o) X cs T := h.call ((Below.refl _ _).alloc (Nat.le_refl _) o)
theorem Blk.new (w : World) (cs : Array Value) (T : TypeId) : Blk (w.alloc (.cells cs T)) w.heap.size cs T := heap_alloc_new w _
theorem Blk.grown {w w' : World} {X : Nat} {cs : Array Value} {T : TypeId} {r : Option Nat} (h : Blk w X cs T) (g : w.grownBy w' r) (hr : some X ≠ r) : Blk w' X cs T := (g.block _ h.lt hr).trans h
theorem Blk.put {w : World} {X : Nat} {cs : Array Value} {T : TypeId} (h : Blk w X cs T) (k : Nat) (v : Value) : Blk (w.setCell ⟨X, k, none⟩ v) X (cs.setIfInBounds k v) T := heap_setCell_same w X k cs T v h
theorem Blk.far {w : World} {X : Nat} {cs : Array Value} {T : TypeId} (h : Blk w X cs T) (a : Addr) (v : Value) (ha : X ≠ a.block) : Blk (w.setCell a v) X cs T := (heap_setCell_other w a X v ha).trans h
theorem ownN_set {w : World} {B : Nat} {v : Value} {L : List Pl.Nd} (h : ownN w B v L) (a : Addr) (u : Value) (ha : a.block < B) : ownN (w.setCell a u) B v L := by
  refine ⟨h.1, ?_⟩
  rcases h.2 with h0 | ⟨g, cap, cur, hv, hb, hg, rest⟩
  · exact .inl h0
  · exact .inr ⟨g, cap, cur, hv, hb, (heap_setCell_other w a g u (by omega)).trans hg, rest⟩
theorem ownN_far {w : World} {B : Nat} {v : Value} {L : List Pl.Nd} (h : ownN w B v L) (a : Addr) (u : Value) (ha : ∀ g, v.ownBlock = some g → a.block ≠ g) : ownN (w.setCell a u) B v L := by
  refine ⟨h.1, ?_⟩
  rcases h.2 with h0 | ⟨g, cap, cur, rfl, hb, hg, rest⟩
  · exact .inl h0
  · exact .inr ⟨g, cap, cur, rfl, hb, (heap_setCell_other w a g u (fun e => ha g rfl e.symm)).trans hg, rest⟩
theorem ownN_alloc {w : World} {B : Nat} {v : Value} {L : List Pl.Nd} (h : ownN w B v L) (o : Obj) : ownN (w.alloc o) B v L := ownN_call h ((Below.refl _ _).alloc (Nat.le_refl _) o)
theorem ownN_lt {w : World} {B : Nat} {v : Value} {L : List Pl.Nd} (h : ownN w B v L) : ∀ g, v.ownBlock = some g → B ≤ g ∧ g < w.heap.size := fun g hg => World.ownsRow.lt h g hg
theorem ownN_nodes {w : World} {B n cap : Nat} {a : Option Addr} {L : List Pl.Nd} (h : ownN w B (.slice a n cap) L) : n = L.length ∧ isNodes w a L := by
  obtain ⟨a', cap', e, hn⟩ := ownN_is h
  injection e with e1 e2 e3
  subst e1 e2 e3
  exact ⟨rfl, hn⟩
theorem nodes_grown {w w' : World} {g o : Nat} {r : Option Nat} {L : List Pl.Nd} (h : isNodes w (some ⟨g, o, none⟩) L) (hg : w.grownBy w' r) (hr : some g ≠ r) : isNodes w' (some ⟨g, o, none⟩) L := fun i n hi => by
  obtain ⟨g', o', h1, h2, h3, h4, h5, h6, h7⟩ := h i n hi
  cases h1
  exact ⟨g, o, rfl, Nat.lt_of_lt_of_le h2 hg.size, hg.cell h3 hr, hg.cell h4 hr, hg.cell h5 hr, hg.cell h6 hr, hg.cell h7 hr⟩
theorem ownN_grown {w w' : World} {B : Nat} {v : Value} {r : Option Nat} {L : List Pl.Nd} (h : ownN w B v L) (hg : w.grownBy w' r) (hr : ∀ g, v.ownBlock = some g → some g ≠ r) : ownN w' B v L := by
  refine ⟨h.1, ?_⟩
  rcases h.2 with h0 | ⟨g, cap, cur, rfl, hb, hh, rest⟩
  · exact .inl h0
  · exact .inr ⟨g, cap, cur, rfl, hb, (hg.block g (Array.getElem?_eq_some_iff.1 hh).1 (hr g rfl)).trans hh, rest⟩
theorem grown_of_below {w w' : World} (b : Below w.heap.size w w') (r : Option Nat) : w.grownBy w' r := ⟨b.os, b.tape, b.output, b.size, fun j hj _ => b.block j hj⟩
theorem grown_trans {w v v' : World} {r : Option Nat} (h : w.grownBy v r) (h' : v.grownBy v' r) : w.grownBy v' r :=
  ⟨h'.os.trans h.os, h'.tape.trans h.tape, h'.output.trans h.output, Nat.le_trans h.size h'.size, fun j hj hne => (h'.block j (Nat.lt_of_lt_of_le hj h.size) hne).trans (h.block j hj hne)⟩
end Mem
end Go.Proofs.YteddcihodfkliaaGreatDoor

/- An append to a row of the call's own, inside a region that draws its order; a variable of five cells through it. -/
namespace Go.Proofs.YteddcihodfkliaaGreatDoor
open Go.RowKit
namespace Mem
theorem step_append_own {P : Program} {ops : Array Oper} {o : Oper} {a : Act} {w : World} {K : Act → World → Prop} {Q : Exit → Act → World → Prop} {E : Prop}
    (hg : o.guard = none) (s x : Operand) (t : TypeId) (hop : o.op = Op.call { callee := Callee.builtin Builtin.append, args := #[s, x], argTypes := #[t, t] })
    (base : Nat) (e : TypeId) (i : TypeInfo) (z : Value) (size bytes : Nat) (h1 : P.underlying t = some (.slice e)) (h2 : P.info? e = some i) (h3 : i.zero = some z) (h4 : i.size = size) (h5 : i.bytes = bytes) (h6 : z.cells.size = size) (h7 : 0 < size)
    (v : Value) (n : Nat) (xs : List Value) (hs : a.eval s = v) (hown : w.ownsRow base e size v n xs)
    (ad : Addr) (m c : Nat) (news : List Value) (hx : a.eval x = .slice (some ad) m c) (hn : news.length = m * size) (hc : ∀ j u, news[j]? = some u → w.cell? (ad.add j) = some u) (h1c : ∀ u ∈ news, u.oneCell' = true)
    (b1 : n + m ≤ maxLen) (b2 : (n + m) * bytes ≤ 140737488355328) (hbase : base ≤ w.heap.size)
    (hK : ∀ v' w', w'.ownsRow base e size v' (n + m) (xs ++ news) → w.grownBy w' v.ownBlock → K (a.put o.dst v') w') :
    if Region.wanted o (yielded ops a.tmps) = true then Oper.wp P o a w K Q else E := by
  have hw : Region.wanted o (yielded ops a.tmps) = true := by simp [Region.wanted, hg]
  rw [if_pos hw]
  obtain ⟨v', w', hrun, r1, r2, _⟩ := run_append_own (P := P) w base t o.type e i z size bytes h1 h2 h3 h4 h5 h6 h7 v n xs hown ad m c news hn hc h1c b1 b2 hbase
  unfold Oper.wp
  simp [execOp, hop, resolve, invoke, builtin, hs, hx, hrun, Result.andThen]
  exact hK v' w' r1 r2
theorem five_new (w : World) (a b c d e : ByteArray) (T : TypeId) (g : Nat) (hg : g = w.heap.size) : ∀ j u, [Value.string a, .string b, .string c, .string d, .string e][j]? = some u → (w.alloc (.cells #[.string a, .string b, .string c, .string d, .string e] T)).cell? ((⟨g, 0, none⟩ : Addr).add j) = some u := by
  subst hg
  intro j u hj
  rw [Mem.add_lit]
  exact (Mem.var_new w [.string a, .string b, .string c, .string d, .string e] T).2 j u hj
theorem five_one (a b c d e : ByteArray) : ∀ u ∈ [Value.string a, .string b, .string c, .string d, .string e], u.oneCell' = true := by
  intro u hu
  simp only [List.mem_cons, List.not_mem_nil, or_false] at hu
  rcases hu with rfl | rfl | rfl | rfl | rfl <;> rfl
end Mem
end Go.Proofs.YteddcihodfkliaaGreatDoor

/- A node in its place in a list that rises. No program in sight. -/
namespace Go.Proofs.YteddcihodfkliaaGreatDoor
namespace Pl
def restP (p : ByteArray) : List Nd → List Nd
  | [] => []
  | m :: R => if m.path = p then R else m :: R
def aheadP (n m : Nd) : Bool := lessL (names m.path) (names n.path)
def putL (L : List Nd) (n : Nd) : List Nd := L.takeWhile (aheadP n) ++ n :: restP n.path (L.dropWhile (aheadP n))
theorem put_at (L : List Nd) (n : Nd) (k : Nat) (hk : k ≤ L.length) (h1 : ∀ (j : Nat) m, j < k → L[j]? = some m → aheadP n m = true) (h2 : ∀ m, L[k]? = some m → aheadP n m = false) : putL L n = L.take k ++ n :: restP n.path (L.drop k) := by
  have h : L.takeWhile (aheadP n) = L.take k ∧ L.dropWhile (aheadP n) = L.drop k := by
    induction L generalizing k with
    | nil => simp
    | cons m L ih =>
      match k with
      | 0 =>
        have := h2 m rfl
        rw [List.takeWhile_cons, List.dropWhile_cons, this]; simp
      | k + 1 =>
        have := h1 0 m (by omega) rfl
        rw [List.takeWhile_cons, List.dropWhile_cons, this]
        have i := ih k (by simpa using hk) (fun j x hj hx => h1 (j + 1) x (by omega) (by simpa using hx)) (fun x hx => h2 x (by simpa using hx))
        simp only [if_true, List.take_succ_cons, List.drop_succ_cons]
        exact ⟨by rw [i.1], i.2⟩
  rw [putL, h.1, h.2]
theorem rest_drop (L : List Nd) (p : ByteArray) (k : Nat) : restP p (L.drop k) = L.drop (if (∃ m, L[k]? = some m ∧ m.path = p) then k + 1 else k) := by
  by_cases hk : k < L.length
  · rw [List.drop_eq_getElem_cons hk, restP]
    have e : L[k]? = some L[k] := List.getElem?_eq_getElem hk
    by_cases h : L[k].path = p
    · rw [if_pos h, if_pos ⟨_, e, h⟩]
    · rw [if_neg h, if_neg (fun ⟨m, hm, hp⟩ => by rw [e] at hm; cases hm; exact h hp), List.drop_eq_getElem_cons hk]
  · rw [if_neg (fun ⟨m, hm, _⟩ => by have := (List.getElem?_eq_some_iff.1 hm).1; omega)]
    rw [List.drop_eq_nil_of_le (by omega)]; rfl
theorem put_len (L : List Nd) (n : Nd) : (putL L n).length ≤ L.length + 1 := by
  have h1 := congrArg List.length (List.takeWhile_append_dropWhile (p := aheadP n) (l := L))
  rw [List.length_append] at h1
  have h2 : (restP n.path (L.dropWhile (aheadP n))).length ≤ (L.dropWhile (aheadP n)).length := by
    cases L.dropWhile (aheadP n) with
    | nil => exact Nat.le_refl _
    | cons m R => rw [restP]; split <;> simp
  rw [putL, List.length_append, List.length_cons]
  omega
theorem take_all {n : Nd} (L : List Nd) : ∀ m ∈ L.takeWhile (aheadP n), aheadP n m = true := fun m hm => by
  induction L with
  | nil => simp at hm
  | cons x L ih =>
    rw [List.takeWhile_cons] at hm
    cases h : aheadP n x
    · rw [h] at hm; simp at hm
    · rw [h] at hm
      simp only [if_true, List.mem_cons] at hm
      rcases hm with rfl | hm
      · exact h
      · exact ih hm
/-- What the place is good for. -/
theorem put_ok {L : List Nd} {n : Nd} (hL : ∀ m ∈ L, pathB m.path = true) (hn : pathB n.path = true) (hr : L.Pairwise (fun a b => ltP a.path b.path = true)) :
    (putL L n).Pairwise (fun a b => ltP a.path b.path = true) ∧ (putL L n).Perm (L.filter (fun m => !decide (m.path = n.path)) ++ [n]) := by
  have hsp := List.takeWhile_append_dropWhile (p := aheadP n) (l := L)
  have hA := take_all (n := n) L
  have hR : ∀ m, (L.dropWhile (aheadP n)).head? = some m → aheadP n m = false := fun m hm => by
    have := List.head?_dropWhile_not (aheadP n) L
    rw [hm] at this
    simpa using this
  unfold putL
  generalize L.takeWhile (aheadP n) = A at hsp hA
  generalize L.dropWhile (aheadP n) = R at hsp hR
  subst hsp
  rw [List.pairwise_append] at hr
  obtain ⟨rA, rR, rAR⟩ := hr
  have hLA : ∀ m ∈ A, pathB m.path = true := fun m hm => hL m (List.mem_append_left _ hm)
  have hLR : ∀ m ∈ R, pathB m.path = true := fun m hm => hL m (List.mem_append_right _ hm)
  have ltA : ∀ m ∈ A, ltP m.path n.path = true := fun m hm => by rw [ltP_right (hLA m hm) hn]; exact hA m hm
  have neA : ∀ m ∈ A, m.path ≠ n.path := fun m hm e => by
    have := hA m hm
    rw [aheadP, e, less_irr] at this; cases this
  have trn : ∀ {a b c : ByteArray}, pathB a = true → pathB b = true → pathB c = true → ltP a b = true → ltP b c = true → ltP a c = true := fun ha hb hc h1 h2 => by
    rw [ltP_right ha hb] at h1
    rw [ltP_right hb hc] at h2
    rw [ltP_right ha hc]; exact less_trans _ _ _ h1 h2
  have ltn : ∀ {a b : ByteArray}, pathB a = true → ltP a b = true → a ≠ b := fun ha h e => by
    subst e
    rw [ltP_right ha ha, less_irr] at h; cases h
  have key : (∀ m ∈ restP n.path R, ltP n.path m.path = true ∧ pathB m.path = true ∧ m ∈ R) ∧ (restP n.path R).Pairwise (fun a b => ltP a.path b.path = true) ∧ R.filter (fun m => !decide (m.path = n.path)) = restP n.path R := by
    match R, hR, rR, hLR with
    | [], _, _, _ => exact ⟨fun m hm => by simp [restP] at hm, List.Pairwise.nil, rfl⟩
    | x :: R, hR, rR, hLR =>
      have hx := hR x rfl
      have px := hLR x List.mem_cons_self
      have rR' := List.pairwise_cons.1 rR
      by_cases e : x.path = n.path
      · rw [restP, if_pos e]
        refine ⟨fun m hm => ⟨by rw [← e]; exact rR'.1 m hm, hLR m (List.mem_cons_of_mem _ hm), List.mem_cons_of_mem _ hm⟩, rR'.2, ?_⟩
        rw [List.filter_cons, if_neg (by simp [e])]
        exact List.filter_eq_self.2 (fun m hm => by
          have := ltn px (rR'.1 m hm)
          rw [e] at this
          simpa using fun h => this h.symm)
      · rw [restP, if_neg e]
        have hnx : ltP n.path x.path = true := by
          have := two_less px hn e
          change ltP x.path n.path = !ltP n.path x.path at this
          rw [ltP_right px hn] at this
          rw [aheadP] at hx
          rw [hx] at this
          cases h : ltP n.path x.path
          · rw [h] at this; cases this
          · rfl
        have all : ∀ m ∈ x :: R, ltP n.path m.path = true := fun m hm => by
          rcases List.mem_cons.1 hm with rfl | hm
          · exact hnx
          · exact trn hn px (hLR m (List.mem_cons_of_mem _ hm)) hnx (rR'.1 m hm)
        refine ⟨fun m hm => ⟨all m hm, hLR m hm, hm⟩, rR, ?_⟩
        exact List.filter_eq_self.2 (fun m hm => by
          have := ltn hn (all m hm)
          simpa using fun h => this h.symm)
  obtain ⟨k1, k2, k3⟩ := key
  constructor
  · rw [List.pairwise_append]
    refine ⟨rA, List.pairwise_cons.2 ⟨fun m hm => (k1 m hm).1, k2⟩, fun a ha b hb => ?_⟩
    rcases List.mem_cons.1 hb with rfl | hb
    · exact ltA a ha
    · exact rAR a ha b (k1 b hb).2.2
  · rw [List.filter_append, k3, List.filter_eq_self.2 (fun m hm => by simpa using neA m hm), List.append_assoc]
    exact List.Perm.append_left _ (List.perm_append_comm (l₁ := [n]) (l₂ := restP n.path R))
end Pl
end Go.Proofs.YteddcihodfkliaaGreatDoor

