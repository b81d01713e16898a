/- Several texts of one claim in one file: PlainFwd, PlainFB. -/
import Derived.Test.YtkfpfckmjgjanaaDoorG21
import Derived.Test.YtkfpfckmjgjanaaDoorG01
import Derived.Test.YtkfpfckmjgjanaaDoorG16
import Derived.Test.YtkfpfckmjgjanaaDoorPlainRead
/- Reading what was written, plain: a number, a text, and what ends too early. -/
namespace Go.Proofs.YtkfpfckmjgjanaaDoor
namespace Pl
theorem get_by (s : ByteArray) {p : Nat} {b : UInt8} {r : List UInt8} (h : (by_ s).drop p = b :: r) : ∃ hp : p < s.size, s[p] = b ∧ (by_ s).drop (p + 1) = r := by
  have hl : p < (by_ s).length := by
    apply Nat.lt_of_not_le
    intro hle
    rw [List.drop_eq_nil_of_le hle] at h
    cases h
  have hp : p < s.size := by rw [by_length] at hl; exact hl
  rw [List.drop_eq_getElem_cons hl] at h
  injection h with h1 h2
  refine ⟨hp, ?_, h2⟩
  rw [← h1]
  simp [by_]
  rfl
theorem small_k {v k : Nat} (hk : v * 128 ^ k < 18446744073709551616) (h9 : 9 ≤ k) : v ≤ 1 := by
  have h1 : (128 : Nat) ^ 9 ≤ 128 ^ k := Nat.pow_le_pow_right (by omega) h9
  have h2 : v * 128 ^ 9 ≤ v * 128 ^ k := Nat.mul_le_mul_left _ h1
  have h3 : (128 : Nat) ^ 9 = 9223372036854775808 := by decide
  omega
theorem enc_len (f : Nat) : ∀ v k, v ≤ f → v * 128 ^ k < 18446744073709551616 → k ≤ 9 → (enc v).length + k ≤ 10 := by
  induction f with
  | zero =>
    intro v k hv h hk
    obtain rfl : v = 0 := by omega
    rw [enc_small (by omega)]; simp; omega
  | succ f ih =>
    intro v k hv h hk
    by_cases hs : v < 128
    · rw [enc_small hs]; simp; omega
    · by_cases h9 : k = 9
      · have := small_k h (by omega); omega
      · rw [enc_big (by omega), List.length_cons]
        have h2 : v / 128 * 128 ^ (k + 1) < 18446744073709551616 := by
          rw [Nat.pow_succ, Nat.mul_comm (128 ^ k) 128, ← Nat.mul_assoc]
          exact Nat.lt_of_le_of_lt (Nat.mul_le_mul_right _ (Nat.div_mul_le_self v 128)) h
        have := ih (v / 128) (k + 1) (by omega) h2 (by omega)
        omega
theorem enc_pos (v : Nat) : 1 ≤ (enc v).length := by
  by_cases h : v < 128
  · rw [enc_small h]; simp
  · rw [enc_big (by omega)]; simp
theorem getAt_fwd (s : ByteArray) (f : Nat) : ∀ v p k X r, (by_ s).drop p = enc v ++ r → v * 128 ^ k < 18446744073709551616 → k ≤ 9 → 10 ≤ f + k → (0 < k → 0 < v) → getAt s f p k X = (unf (X + v * 128 ^ k), ((p + (enc v).length : Nat) : Int), 0) := by
  induction f with
  | zero => intro v p k X r _ _ hk hf; omega
  | succ f ih =>
    intro v p k X r hd hv hk hf h0
    by_cases hs : v < 128
    · rw [enc_small hs] at hd ⊢
      obtain ⟨hp, hb, -⟩ := get_by s hd
      have hb2 : s[p].toNat = v := by rw [hb]; simp; omega
      rw [getAt_good f hp (by omega) (by
        rintro (⟨h9, h1⟩ | ⟨h1, h2⟩)
        · have := small_k hv (by omega); omega
        · have := h0 h2; omega), hb2]
      rfl
    · have h9 : k ≠ 9 := fun e => by have := small_k hv (by omega); omega
      rw [enc_big (by omega)] at hd ⊢
      obtain ⟨hp, hb, hr⟩ := get_by s hd
      have hb2 : s[p].toNat = v % 128 + 128 := by rw [hb]; simp; omega
      have h2 : v / 128 * 128 ^ (k + 1) < 18446744073709551616 := by
        rw [Nat.pow_succ, Nat.mul_comm (128 ^ k) 128, ← Nat.mul_assoc]
        exact Nat.lt_of_le_of_lt (Nat.mul_le_mul_right _ (Nat.div_mul_le_self v 128)) hv
      rw [getAt_more f hp (by omega) h9, hb2, show (v % 128 + 128) % 128 = v % 128 by omega, ih (v / 128) (p + 1) (k + 1) _ r hr h2 (by omega) (by omega) (fun _ => by omega)]
      have e : X + v % 128 * 128 ^ k + v / 128 * 128 ^ (k + 1) = X + v * 128 ^ k := by
        rw [Nat.pow_succ, Nat.mul_comm (128 ^ k) 128, ← Nat.mul_assoc, Nat.add_assoc, ← Nat.add_mul]
        congr 2; omega
      rw [e, List.length_cons]
      congr 2
      omega
theorem getAt_cut (s : ByteArray) (f : Nat) : ∀ v p k X, (by_ s).drop p = (enc v).dropLast → v * 128 ^ k < 18446744073709551616 → k ≤ 9 → 10 ≤ f + k → getAt s f p k X = (0, 0, 4) := by
  induction f with
  | zero => intro v p k X _ _ hk hf; omega
  | succ f ih =>
    intro v p k X hd hv hk hf
    by_cases hs : v < 128
    · rw [enc_small hs] at hd
      simp at hd
      rw [by_length] at hd
      exact getAt_short f (by omega)
    · have h9 : k ≠ 9 := fun e => by have := small_k hv (by omega); omega
      rw [enc_big (by omega)] at hd
      have hne : enc (v / 128) ≠ [] := fun e => by have := enc_pos (v / 128); rw [e] at this; simp at this
      rw [List.dropLast_cons_of_ne_nil hne] at hd
      obtain ⟨hp, hb, hr⟩ := get_by s hd
      have hb2 : s[p].toNat = v % 128 + 128 := by rw [hb]; simp; omega
      have h2 : v / 128 * 128 ^ (k + 1) < 18446744073709551616 := by
        rw [Nat.pow_succ, Nat.mul_comm (128 ^ k) 128, ← Nat.mul_assoc]
        exact Nat.lt_of_le_of_lt (Nat.mul_le_mul_right _ (Nat.div_mul_le_self v 128)) hv
      rw [getAt_more f hp (by omega) h9]
      exact ih (v / 128) (p + 1) (k + 1) _ hr h2 (by omega) (by omega)
theorem unf_fold (n : Int) : unf (fold n) = n := by
  unfold unf fold
  by_cases h : n < 0
  · rw [if_pos h, if_pos (by omega)]; omega
  · rw [if_neg h, if_neg (by omega)]; omega
theorem getNum_fwd {s : ByteArray} {n : Int} {p : Nat} {r : List UInt8} (h8 : s.size ≤ 8000) (h1 : -9223372036854775808 ≤ n) (h2 : n ≤ 9223372036854775807) (hd : (by_ s).drop p = enc (fold n) ++ r) : getNum s (p : Int) = (n, ((p + (enc (fold n)).length : Nat) : Int), 0) := by
  have hf := fold_lt h1 h2
  unfold getNum
  rw [if_neg (by omega), if_neg (by omega), Int.toNat_natCast, getAt_fwd s 10 (fold n) p 0 0 r hd (by simpa using hf) (by omega) (by omega) (fun h => absurd h (by omega))]
  simp [unf_fold]
theorem getNum_cut {s : ByteArray} {n : Int} (h8 : s.size ≤ 8000) (h1 : -9223372036854775808 ≤ n) (h2 : n ≤ 9223372036854775807) (hd : by_ s = (enc (fold n)).dropLast) : getNum s 0 = (0, 0, 4) := by
  have hf := fold_lt h1 h2
  unfold getNum
  rw [if_neg (by omega), if_neg (by omega)]
  exact getAt_cut s 10 (fold n) 0 0 0 (by simpa using hd) (by simpa using hf) (by omega) (by omega)
theorem num_len {n : Int} (h1 : -9223372036854775808 ≤ n) (h2 : n ≤ 9223372036854775807) : 1 ≤ (enc (fold n)).length ∧ (enc (fold n)).length ≤ 10 := by
  have := enc_len (fold n) (fold n) 0 (Nat.le_refl _) (by simpa using fold_lt h1 h2) (by omega)
  exact ⟨enc_pos _, by omega⟩
theorem getText_fwd {s u : ByteArray} {p : Nat} (h8 : s.size ≤ 8000) (hu : u.size ≤ 8000) (hd : (by_ s).drop p = enc (fold (u.size : Int)) ++ by_ u) : getText s (p : Int) = (u, ((p + (enc (fold (u.size : Int))).length + u.size : Nat) : Int), 0) := by
  have hn := getNum_fwd (n := (u.size : Int)) h8 (by omega) (by omega) hd
  have hl : (by_ s).length - p = (enc (fold (u.size : Int))).length + u.size := by rw [← List.length_drop, hd, List.length_append, by_length]
  rw [by_length] at hl
  have hlen := (num_len (n := (u.size : Int)) (by omega) (by omega)).1
  unfold getText
  rw [hn]
  simp only [ne_eq, not_true_eq_false, if_false, Int.toNat_natCast]
  rw [if_neg (by omega), if_neg (by omega)]
  refine Prod.ext (by_inj ?_) (Prod.ext (by simp only; omega) rfl)
  simp only
  rw [by_extract, ← List.drop_drop, hd, List.drop_left, show p + (enc (fold (u.size : Int))).length + u.size - (p + (enc (fold (u.size : Int))).length) = u.size by omega, ← by_length, List.take_length]
theorem getText_cut {s u : ByteArray} (h8 : s.size ≤ 8000) (hu : u.size ≤ 8000) (hd : by_ s = (enc (fold (u.size : Int)) ++ by_ u).dropLast) : (getText s 0).2.2 = 4 := by
  by_cases h0 : u.size = 0
  · have e : by_ u = [] := by_nil.2 h0
    rw [e, List.append_nil] at hd
    have := getNum_cut (n := (u.size : Int)) h8 (by omega) (by omega) hd
    unfold getText
    rw [this]
    simp
  · have e : by_ u ≠ [] := fun h => h0 (by_nil.1 h)
    rw [List.dropLast_append_of_ne_nil e] at hd
    have hn := getNum_fwd (s := s) (p := 0) (n := (u.size : Int)) h8 (by omega) (by omega) (by simpa using hd)
    have hl : s.size = (enc (fold (u.size : Int))).length + (u.size - 1) := by rw [← by_length, hd, List.length_append, List.length_dropLast, by_length]
    have hn2 : getNum s 0 = ((u.size : Int), ((enc (fold (u.size : Int))).length : Int), 0) := by simpa using hn
    unfold getText
    rw [hn2]
    simp only [ne_eq, not_true_eq_false, if_false]
    rw [if_neg (by omega), if_pos (by omega)]
end Pl
end Go.Proofs.YtkfpfckmjgjanaaDoor

/- Plain facts of the law FnTreeBytes: a right tree is read back from its bytes. No program in sight. -/
namespace Go.Proofs.YtkfpfckmjgjanaaDoor
namespace Pl
theorem getText_fwd' {s u : ByteArray} {p : Nat} {r : List UInt8} (h8 : s.size ≤ 8000) (hu : u.size ≤ 8000) (hd : (by_ s).drop p = enc (fold (u.size : Int)) ++ (by_ u ++ r)) : getText s (p : Int) = (u, ((p + (enc (fold (u.size : Int))).length + u.size : Nat) : Int), 0) := by
  have hn := getNum_fwd (n := (u.size : Int)) h8 (by omega) (by omega) hd
  have hl : (by_ s).length - p = (enc (fold (u.size : Int))).length + (u.size + r.length) := by rw [← List.length_drop, hd, List.length_append, List.length_append, by_length]
  rw [by_length] at hl
  have hlen := (num_len (n := (u.size : Int)) (by omega) (by omega)).1
  unfold getText
  rw [hn]
  simp only [ne_eq, not_true_eq_false, if_false, Int.toNat_natCast]
  rw [if_neg (by omega), if_neg (by omega)]
  refine Prod.ext (by_inj ?_) (Prod.ext (by simp only; omega) rfl)
  simp only
  rw [by_extract, ← List.drop_drop, hd, List.drop_left, show p + (enc (fold (u.size : Int))).length + u.size - (p + (enc (fold (u.size : Int))).length) = u.size by omega, ← by_length, List.take_left]
theorem by_put {u : ByteArray} (hu : u.size ≤ 8000) : by_ (WText.put u) = enc (fold (u.size : Int)) ++ by_ u := by
  rw [WText.put_short (by omega), by_mk]; rfl
theorem by_num (n : Int) : by_ (num n) = enc (fold n) := by_mk _
theorem strR_fwd {s u : ByteArray} {p : Nat} {r : List UInt8} (h8 : s.size ≤ 8000) (hu : u.size ≤ 8000) (hd : (by_ s).drop p = by_ (WText.put u) ++ r) : strR s (p : Int) none = (u, ((p + (by_ (WText.put u)).length : Nat) : Int), none) ∧ (by_ s).drop (p + (by_ (WText.put u)).length) = r := by
  have e := by_put hu
  rw [e, List.append_assoc] at hd
  have h := getText_fwd' h8 hu hd
  have hl : (by_ (WText.put u)).length = (enc (fold (u.size : Int))).length + u.size := by rw [e, List.length_append, by_length]
  refine ⟨?_, ?_⟩
  · simp only [strR]
    rw [h, if_pos rfl, hl, Nat.add_assoc]
  · rw [← List.drop_drop, hd, ← List.append_assoc, ← e, List.drop_left]
theorem numR_fwd {s : ByteArray} {n : Int} {p : Nat} {r : List UInt8} (h8 : s.size ≤ 8000) (h1 : -9223372036854775808 ≤ n) (h2 : n ≤ 9223372036854775807) (hd : (by_ s).drop p = by_ (num n) ++ r) : numR s (p : Int) none = (n, ((p + (by_ (num n)).length : Nat) : Int), none) ∧ (by_ s).drop (p + (by_ (num n)).length) = r := by
  rw [by_num] at hd
  have h := getNum_fwd h8 h1 h2 hd
  refine ⟨?_, ?_⟩
  · simp only [numR]
    rw [h, if_pos rfl, by_num]
  · rw [← List.drop_drop, hd, by_num, List.drop_left]
def okN (n : Nd) : Prop := n.path.size ≤ 8000 ∧ n.data.size ≤ 8000 ∧ (-9223372036854775808 ≤ n.kind ∧ n.kind ≤ 9223372036854775807) ∧ (-9223372036854775808 ≤ n.time ∧ n.time ≤ 9223372036854775807) ∧ (-9223372036854775808 ≤ n.mark ∧ n.mark ≤ 9223372036854775807)
theorem cat_node (n : Nd) : cat (nodeP n) = by_ (WText.put n.path) ++ (by_ (num n.kind) ++ (by_ (WText.put n.data) ++ (by_ (num n.time) ++ by_ (num n.mark)))) := by
  simp [cat, nodeP, by_]
theorem nodeR_fwd {s : ByteArray} {n : Nd} {p : Nat} {r : List UInt8} (h8 : s.size ≤ 8000) (hn : okN n) (hd : (by_ s).drop p = cat (nodeP n) ++ r) : nodeR s (p : Int) none = ⟨n, ((p + (cat (nodeP n)).length : Nat) : Int), none⟩ ∧ (by_ s).drop (p + (cat (nodeP n)).length) = r := by
  obtain ⟨h1, h2, h3, h4, h5⟩ := hn
  have hc := cat_node n
  have hd2 : (by_ s).drop (p + (cat (nodeP n)).length) = r := by rw [← List.drop_drop, hd, List.drop_left]
  rw [hc] at hd
  simp only [List.append_assoc] at hd
  obtain ⟨a1, d1⟩ := strR_fwd h8 h1 hd
  obtain ⟨a2, d2⟩ := numR_fwd h8 h3.1 h3.2 d1
  obtain ⟨a3, d3⟩ := strR_fwd h8 h2 d2
  obtain ⟨a4, d4⟩ := numR_fwd h8 h4.1 h4.2 d3
  obtain ⟨a5, d5⟩ := numR_fwd h8 h5.1 h5.2 d4
  refine ⟨?_, hd2⟩
  simp only [nodeR]
  rw [a1]; simp only
  rw [a2]; simp only
  rw [a3]; simp only
  rw [a4]; simp only
  rw [a5]; simp only
  rw [hc]
  simp only [List.length_append]
  congr 2
  omega
theorem steps_fwd {s : ByteArray} {L : List Nd} {q : Nat} {r : List UInt8} (h8 : s.size ≤ 8000) (hL : ∀ n ∈ L, okN n) (hd : (by_ s).drop q = cat (L.flatMap nodeP) ++ r) : ∀ j, j ≤ L.length → steps s (q : Int) j = ⟨L.take j, ((q + (cat ((L.take j).flatMap nodeP)).length : Nat) : Int), none⟩ := by
  intro j
  induction j with
  | zero => intro _; simp [steps, cat]
  | succ j ih =>
    intro hj
    have hlt : j < L.length := by omega
    have i1 := ih (by omega)
    have e1 : L.take (j + 1) = L.take j ++ [L[j]] := List.take_succ_eq_append_getElem hlt
    have e2 : L = L.take j ++ L[j] :: L.drop (j + 1) := by rw [← List.drop_eq_getElem_cons hlt, List.take_append_drop]
    have hd2 : (by_ s).drop (q + (cat ((L.take j).flatMap nodeP)).length) = cat (nodeP L[j]) ++ (cat ((L.drop (j + 1)).flatMap nodeP) ++ r) := by
      have e3 : cat (L.flatMap nodeP) = cat ((L.take j).flatMap nodeP) ++ (cat (nodeP L[j]) ++ cat ((L.drop (j + 1)).flatMap nodeP)) := by
        have := congrArg (fun M => cat (M.flatMap nodeP)) e2
        simp only [List.flatMap_append, List.flatMap_cons, cat_app] at this
        exact this
      rw [← List.drop_drop, hd, e3, List.append_assoc, List.append_assoc, List.drop_left]
    obtain ⟨a1, -⟩ := nodeR_fwd h8 (hL _ (List.getElem_mem hlt)) hd2
    simp only [steps]
    rw [i1]
    simp only
    rw [a1, e1]
    simp only [List.flatMap_append, cat_app, List.length_append, List.flatMap_cons, List.flatMap_nil, List.append_nil]
    congr 2
    omega
theorem okN_right {n : Nd} (h : nodeB n = true) : okN n := by
  have h1 := pathB_le (node_right h).1
  obtain ⟨h2, h3, h4, h5⟩ := node_bounds h
  refine ⟨by omega, by omega, ?_, by omega, by omega⟩
  unfold kindB at h5
  split at h5
  · omega
  · split at h5
    · omega
    · split at h5
      · omega
      · cases h5
/-- A right tree comes back from its bytes. -/
theorem treeR_fwd {L : List Nd} (h : treeB L = true) (h8 : (bytesT L).size ≤ 8000) : treeR (bytesT L) = some L := by
  have hb : by_ (bytesT L) = by_ (num L.length) ++ cat (L.flatMap nodeP) := by
    unfold bytesT
    rw [by_mk]
    simp [partsT, cat, by_]
  have h0 := h
  simp only [treeB, Bool.and_eq_true, decide_eq_true_eq] at h0
  have hn : ∀ n ∈ L, okN n := fun n hn => okN_right (goI_all L _ _ h0.2 n hn)
  have hg := getNum_fwd (s := bytesT L) (n := (L.length : Int)) (p := 0) (r := cat (L.flatMap nodeP)) h8 (by omega) (by omega) (by rw [List.drop_zero, hb, by_num])
  rw [Nat.zero_add] at hg
  have hd : (by_ (bytesT L)).drop (enc (fold (L.length : Int))).length = cat (L.flatMap nodeP) ++ [] := by
    rw [hb, by_num, List.drop_left, List.append_nil]
  have hs := steps_fwd h8 hn hd L.length (Nat.le_refl _)
  rw [List.take_length] at hs
  have hg' : getNum (bytesT L) 0 = ((L.length : Int), ((enc (fold (L.length : Int))).length : Int), 0) := hg
  rw [treeR_end hg' h0.1 (by rw [hs]), hs, if_pos]
  show treeBytes L = bytesT L
  rw [treeBytes, if_pos h, if_neg (by omega)]
end Pl
end Go.Proofs.YtkfpfckmjgjanaaDoor

