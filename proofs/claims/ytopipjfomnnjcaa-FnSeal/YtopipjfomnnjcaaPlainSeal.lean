/- Seals, plain: with any one byte turned the sum is another. No Go in sight. -/
import Derived.Test.YtopipjfomnnjcaaPlainGlue
namespace Go.Proofs.Ytopipjfomnnjcaa
namespace Pl
theorem xor_can {a b c : Nat} (h : a ^^^ c = b ^^^ c) : a = b := by
  have := congrArg (fun x => x ^^^ c) h
  simpa [Nat.xor_assoc, Nat.xor_self] using this
theorem xor_can' {a b c : Nat} (h : a ^^^ b = a ^^^ c) : b = c := by
  rw [Nat.xor_comm a b, Nat.xor_comm a c] at h; exact xor_can h
theorem crcBit_inj {r s : Nat} (hr : r < 4294967296) (hs : s < 4294967296) (h : crcBit r = crcBit s) : r = s := by
  have key : ∀ x, x < 2147483648 → x ^^^ 3988292384 = (x ^^^ 1840808736) + 2147483648 := fun x hx => by
    have e : (3988292384 : Nat) = 1840808736 ^^^ 2147483648 := by decide
    rw [e, ← Nat.xor_assoc]
    have hlt : x ^^^ 1840808736 < 2 ^ 31 := Nat.xor_lt_two_pow (by omega) (by omega)
    have e2 : (2147483648 : Nat) = 2 ^ 31 := by decide
    rw [e2]
    generalize x ^^^ 1840808736 = y at hlt
    apply Nat.eq_of_testBit_eq
    intro i
    rw [Nat.testBit_xor, Nat.testBit_two_pow, Nat.add_comm]
    by_cases hi : i = 31
    · subst hi
      rw [Nat.testBit_two_pow_add_eq, Nat.testBit_lt_two_pow hlt]; simp
    · by_cases hi2 : i < 31
      · rw [Nat.testBit_two_pow_add_gt hi2]
        have : ¬ 31 = i := fun e => hi e.symm
        simp [this]
      · have h1 : y.testBit i = false := Nat.testBit_lt_two_pow (Nat.lt_of_lt_of_le hlt (Nat.pow_le_pow_right (by omega) (by omega)))
        have h2 : (2 ^ 31 + y).testBit i = false := Nat.testBit_lt_two_pow (by
          have : 2 ^ 32 ≤ 2 ^ i := Nat.pow_le_pow_right (by omega) (by omega)
          omega)
        have : ¬ 31 = i := fun e => hi e.symm
        rw [h1, h2]; simp [this]
  unfold crcBit at h
  by_cases h1 : r % 2 = 1
  · rw [if_pos h1, key (r / 2) (by omega)] at h
    by_cases h2 : s % 2 = 1
    · rw [if_pos h2, key (s / 2) (by omega)] at h
      have h3 : r / 2 ^^^ 1840808736 = s / 2 ^^^ 1840808736 := by omega
      have h4 := xor_can h3
      omega
    · rw [if_neg h2] at h; omega
  · rw [if_neg h1] at h
    by_cases h2 : s % 2 = 1
    · rw [if_pos h2, key (s / 2) (by omega)] at h; omega
    · rw [if_neg h2] at h; omega
theorem crcBits_inj (k : Nat) : ∀ r s, r < 4294967296 → s < 4294967296 → crcBits k r = crcBits k s → r = s := by
  induction k with
  | zero => intro r s _ _ h; exact h
  | succ k ih => intro r s hr hs h; exact ih r s hr hs (crcBit_inj (crcBits_lt k hr) (crcBits_lt k hs) h)
theorem xor_lt32 {r b : Nat} (hr : r < 4294967296) (hb : b < 256) : r ^^^ b < 4294967296 := by
  have : r ^^^ b < 2 ^ 32 := Nat.xor_lt_two_pow (by omega) (by omega)
  omega
theorem crcByte_lt' {r : Nat} (b : UInt8) (hr : r < 4294967296) : crcByte r b < 4294967296 := crcBits_lt 8 (xor_lt32 hr b.toNat_lt)
theorem crcReg_lt' (l : List UInt8) : ∀ r, r < 4294967296 → crcReg r l < 4294967296 := by
  induction l with
  | nil => intro r h; exact h
  | cons b l ih => intro r h; exact ih _ (crcByte_lt' b h)
theorem crcReg_inj (l : List UInt8) : ∀ r s, r < 4294967296 → s < 4294967296 → crcReg r l = crcReg s l → r = s := by
  induction l with
  | nil => intro r s _ _ h; exact h
  | cons b l ih =>
    intro r s hr hs h
    have h1 := ih _ _ (crcByte_lt' b hr) (crcByte_lt' b hs) h
    have h2 := crcBits_inj 8 _ _ (xor_lt32 hr b.toNat_lt) (xor_lt32 hs b.toNat_lt) h1
    exact xor_can h2
theorem crcReg_app (r : Nat) (a b : List UInt8) : crcReg r (a ++ b) = crcReg (crcReg r a) b := by simp [crcReg]
/-- One byte turned: another sum. -/
theorem crcOut_turned (p s : List UInt8) (b b' : UInt8) (h : b ≠ b') : crcOut 0 (p ++ b :: s) ≠ crcOut 0 (p ++ b' :: s) := by
  intro e
  have h0 : (4294967295 - 0 : Nat) < 4294967296 := by omega
  have l1 := crcReg_lt' (p ++ b :: s) _ h0
  have l2 := crcReg_lt' (p ++ b' :: s) _ h0
  unfold crcOut at e
  have e1 : crcReg (4294967295 - 0) (p ++ b :: s) = crcReg (4294967295 - 0) (p ++ b' :: s) := by omega
  rw [crcReg_app, crcReg_app] at e1
  have hq := crcReg_lt' p _ h0
  have e2 := crcReg_inj s _ _ (crcByte_lt' b hq) (crcByte_lt' b' hq) e1
  have e3 := crcBits_inj 8 _ _ (xor_lt32 hq b.toNat_lt) (xor_lt32 hq b'.toNat_lt) e2
  exact h (UInt8.toNat_inj.1 (xor_can' e3))
theorem crcOut_more (a b : List UInt8) : crcOut (crcOut 0 a) b = crcOut 0 (a ++ b) := by
  have h0 : (4294967295 - 0 : Nat) < 4294967296 := by omega
  have l1 := crcReg_lt' a _ h0
  unfold crcOut
  rw [crcReg_app]
  congr 2
  omega
theorem four_inj {n m : Nat} (hn : n < 4294967296) (hm : m < 4294967296) (h : four n = four m) : n = m := by
  unfold four at h
  simp only [List.cons.injEq, and_true] at h
  obtain ⟨h0, h1, h2, h3⟩ := h
  have f : ∀ x y : Nat, UInt8.ofNat x = UInt8.ofNat y → x % 256 = y % 256 := fun x y e => by
    have := congrArg UInt8.toNat e
    simpa [UInt8.toNat_ofNat'] using this
  have g0 := f _ _ h0
  have g1 := f _ _ h1
  have g2 := f _ _ h2
  have g3 := f _ _ h3
  omega
/-- A sealed text with one byte turned: its sum does not fit. -/
theorem seal_turned (t : List UInt8) (k : Nat) (c : UInt8) (L : List UInt8) (hL : L = t ++ four (crcOut 0 t)) (hk : k < L.length) (hc : L[k]? ≠ some c) : (L.set k c).drop (L.length - 4) ≠ four (crcOut 0 ((L.set k c).take (L.length - 4))) := by
  have hlen : L.length = t.length + 4 := by rw [hL]; simp [four]
  have e4 : L.length - 4 = t.length := by omega
  rw [e4]
  by_cases hkt : k < t.length
  · have h1 : L.set k c = t.set k c ++ four (crcOut 0 t) := by rw [hL, List.set_append_left _ _ hkt]
    rw [h1, List.drop_left' (by simp), List.take_left' (by simp)]
    intro e
    have e2 := four_inj (by have := crcOut_le 0 t; omega) (by have := crcOut_le 0 (t.set k c); omega) e
    have ht : t = t.take k ++ t[k] :: t.drop (k + 1) := by rw [← List.drop_eq_getElem_cons hkt, List.take_append_drop]
    have hs : t.set k c = t.take k ++ c :: t.drop (k + 1) := by rw [List.set_eq_take_append_cons_drop, if_pos hkt]
    have hne : t[k] ≠ c := fun e => hc (by rw [hL, List.getElem?_append_left hkt, List.getElem?_eq_getElem hkt, e])
    rw [hs] at e2
    exact crcOut_turned (t.take k) (t.drop (k + 1)) t[k] c hne (by rw [← ht]; exact e2)
  · have h1 : L.set k c = t ++ (four (crcOut 0 t)).set (k - t.length) c := by rw [hL, List.set_append_right _ _ (by omega)]
    rw [h1, List.drop_left' rfl, List.take_left' rfl]
    intro e
    have hj : k - t.length < (four (crcOut 0 t)).length := by simp [four]; omega
    have := congrArg (fun l => l[k - t.length]?) e
    simp only [List.getElem?_set, if_true, hj] at this
    exact hc (by rw [hL, List.getElem?_append_right (by omega)]; exact this.symm)
end Pl
end Go.Proofs.Ytopipjfomnnjcaa
