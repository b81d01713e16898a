/- Plain facts on texts cut at a byte, and on paths. No Go in sight. -/
import Derived.Test.YtmamahpeiajigaaGreatDoorPlain
namespace Go.Proofs.YtmamahpeiajigaaGreatDoor
namespace Pl
/-- The pieces from byte k on, the piece at hand begins at 'from_'; f: how many bytes are left at most. -/
def cutF (s : ByteArray) (b : Nat) : Nat → Nat → Nat → List ByteArray
  | 0, from_, _ => [s.extract from_ s.size]
  | f + 1, from_, k => if (s.data.toList.getD k 0).toNat = b then s.extract from_ k :: cutF s b f (k + 1) (k + 1) else cutF s b f from_ (k + 1)
/-- A text cut at each byte b. -/
def cut (s : ByteArray) (b : Nat) : List ByteArray := cutF s b s.size 0 0
theorem cutF_hit {s : ByteArray} {b f from_ k : Nat} (h : k < s.size) (hb : s[k].toNat = b) : cutF s b (f + 1) from_ k = s.extract from_ k :: cutF s b f (k + 1) (k + 1) := by
  rw [cutF, byte_getD s k h, if_pos hb]
theorem cutF_miss {s : ByteArray} {b f from_ k : Nat} (h : k < s.size) (hb : s[k].toNat ≠ b) : cutF s b (f + 1) from_ k = cutF s b f from_ (k + 1) := by
  rw [cutF, byte_getD s k h, if_neg hb]
/-- The names of a path, whatever it is. -/
def names (s : ByteArray) : List ByteArray := if s.size = 0 then [] else cut s 47
/-- Is a path right? -/
def pathB (s : ByteArray) : Bool := decide (s.size ≤ 200) && (names s).all nameB && decide ((names s).length ≤ 6)
theorem pathB_long {s : ByteArray} (h : 200 < s.size) : pathB s = false := by simp [pathB]; omega
theorem pathB_bad {s : ByteArray} {k : Nat} {t : ByteArray} (h : (names s)[k]? = some t) (hb : nameB t = false) : pathB s = false := by
  have hm : t ∈ names s := List.mem_of_getElem? h
  have : (names s).all nameB = false := by
    rw [List.all_eq_false]; exact ⟨t, hm, by simp [hb]⟩
  simp [pathB, this]
theorem pathB_good {s : ByteArray} (h : s.size ≤ 200) (ha : ∀ (j : Nat) t, (names s)[j]? = some t → nameB t = true) : pathB s = decide ((names s).length ≤ 6) := by
  have : (names s).all nameB = true := by
    rw [List.all_eq_true]
    intro t ht
    obtain ⟨j, hj⟩ := List.mem_iff_getElem?.1 ht
    exact ha j t hj
  simp [pathB, this, h]
theorem cutF_length (s : ByteArray) (b : Nat) : ∀ f fr k, (cutF s b f fr k).length ≤ f + 1 := by
  intro f
  induction f with
  | zero => intro fr k; simp [cutF]
  | succ f ih =>
    intro fr k
    rw [cutF]
    split
    · have := ih (k + 1) (k + 1); simp; omega
    · have := ih fr (k + 1); omega
theorem names_length (s : ByteArray) : (names s).length ≤ s.size + 1 := by
  unfold names
  split
  · simp
  · exact cutF_length s 47 s.size 0 0
theorem cutF_size (s : ByteArray) (b : Nat) : ∀ f fr k t, t ∈ cutF s b f fr k → t.size ≤ s.size := by
  intro f
  induction f with
  | zero => intro fr k t ht; simp [cutF] at ht; subst ht; simp
  | succ f ih =>
    intro fr k t ht
    rw [cutF] at ht
    split at ht
    · rcases List.mem_cons.1 ht with rfl | ht
      · simp; omega
      · exact ih _ _ t ht
    · exact ih _ _ t ht
theorem names_size {s : ByteArray} {k : Nat} {t : ByteArray} (h : (names s)[k]? = some t) : t.size ≤ s.size := by
  have hm : t ∈ names s := List.mem_of_getElem? h
  unfold names at hm
  split at hm
  · simp at hm
  · exact cutF_size s 47 _ _ _ t hm
/-- The place of the last slash among the first k bytes; -1: there is none. -/
def slashTo (s : ByteArray) : Nat → Int
  | 0 => -1
  | k + 1 => if (s.data.toList.getD k 0).toNat = 47 then (k : Int) else slashTo s k
theorem slash_hit {s : ByteArray} {k : Nat} (h : k < s.size) (hb : s[k].toNat = 47) : slashTo s (k + 1) = (k : Int) := by
  rw [slashTo, byte_getD s k h, if_pos hb]
theorem slash_miss {s : ByteArray} {k : Nat} (h : k < s.size) (hb : s[k].toNat ≠ 47) : slashTo s (k + 1) = slashTo s k := by
  rw [slashTo, byte_getD s k h, if_neg hb]
theorem slash_lt (s : ByteArray) (k : Nat) : -1 ≤ slashTo s k ∧ slashTo s k < (k : Int) := by
  induction k with
  | zero => simp [slashTo]
  | succ k ih =>
    rw [slashTo]
    split <;> omega
/-- The parent of a path. -/
def parent (s : ByteArray) : ByteArray := if slashTo s s.size < 0 then ⟨#[]⟩ else s.extract 0 (slashTo s s.size).toNat
end Pl
end Go.Proofs.YtmamahpeiajigaaGreatDoor
