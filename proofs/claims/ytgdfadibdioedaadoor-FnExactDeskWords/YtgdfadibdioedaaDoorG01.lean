/- Several texts of one claim in one file: Kit, PlainPath. -/
import Derived.Below
import Derived.Test.YtgdfadibdioedaaDoorPlain
/- Small words for the walks: a fact kept from the walk, and got out again. -/
namespace Go.Proofs.YtgdfadibdioedaaDoor
open Go.RowKit
theorem hide {p : Prop} (h : p) : Hid p := h
theorem unhide {p : Prop} (h : Hid p) : p := h
theorem ret_bool {a b : Bool} (h : a = b) : Ending.returned (.bool a) = .returned (.bool b) := by rw [h]
theorem ret_string {a b : ByteArray} (h : a = b) : Ending.returned (.string a) = .returned (.string b) := by rw [h]
theorem ret_int {k : IntKind} {a b : Int} (h : a = b) : Ending.returned (.int k a) = .returned (.int k b) := by rw [h]
theorem bcell {W w1 : World} (hb : Below W.heap.size W w1) : (∀ b o, b < W.heap.size → w1.cell? ⟨b, o, none⟩ = W.cell? ⟨b, o, none⟩) ∧ (∀ b o, b < W.heap.size → w1.frozen? ⟨b, o, none⟩ = W.frozen? ⟨b, o, none⟩) :=
  ⟨fun b o h => hb.cell (p := ⟨b, o, none⟩) h, fun b o h => hb.frozen (p := ⟨b, o, none⟩) h⟩
theorem i64_of_wf {x : Int} (h : (Lit.int .i64 x).wf = true) : -9223372036854775808 ≤ x ∧ x ≤ 9223372036854775807 := by
  simp [Lit.wf, IntKind.min, IntKind.max, IntKind.signed, IntKind.bits] at h
  omega
/- Short names for what the walks' simp calls name over and over. -/
theorem kA0 {α : Type _} {xs : List α} {i : Nat} : xs.toArray[i]? = xs[i]? := List.getElem?_toArray
theorem kA1 {α : Type _} {a : α} {l : List α} : (a :: l)[0]? = some a := List.getElem?_cons_zero
theorem kA2 {α : Type _} {a : α} {l : List α} {i : Nat} : (a :: l)[i + 1]? = l[i]? := List.getElem?_cons_succ
theorem kB0 {α : Type _} {xs : List α} {i : Nat} (h : i < xs.toArray.size) : xs.toArray[i] = xs[i]'(by simpa using h) := List.getElem_toArray h
theorem kB1 {α : Type _} {a : α} {as' : List α} (h : 0 < (a :: as').length) : (a :: as')[0] = a := List.getElem_cons_zero a as' h
theorem kB2 {α : Type _} {a : α} {as' : List α} {i : Nat} (h : i + 1 < (a :: as').length) : (a :: as')[i + 1] = as'[i]'(by simpa using h) := List.getElem_cons_succ a as' i h
theorem kB3 {α : Type _} (l : List α) (i : Nat) (a : α) : l.toArray.setIfInBounds i a = (l.set i a).toArray := List.setIfInBounds_toArray l i a
theorem kB4 {α : Type _} {x : α} {xs : List α} {a : α} : (x :: xs).set 0 a = a :: xs := List.set_cons_zero
theorem kB5 {α : Type _} {x : α} {xs : List α} {n : Nat} {a : α} : (x :: xs).set (n + 1) a = x :: xs.set n a := List.set_cons_succ
end Go.Proofs.YtgdfadibdioedaaDoor

/- Plain facts on texts cut at a byte, and on paths. No Go in sight. -/
namespace Go.Proofs.YtgdfadibdioedaaDoor
namespace Pl
/-- The pieces from byte k on, the piece at hand begins at 'from_'; f: how many bytes are left at most. -/
def cutF (s : ByteArray) (b : Nat) : Nat → Nat → Nat → List ByteArray
  | 0, from_, _ => [s.extract from_ s.size]
  | f + 1, from_, k => if (s.data.toList.getD k 0).toNat = b then s.extract from_ k :: cutF s b f (k + 1) (k + 1) else cutF s b f from_ (k + 1)
/-- A text cut at each byte b. -/
def cut (s : ByteArray) (b : Nat) : List ByteArray := cutF s b s.size 0 0
theorem cutF_hit {s : ByteArray} {b f from_ k : Nat} (h : k < s.size) (hb : s[k].toNat = b) : cutF s b (f + 1) from_ k = s.extract from_ k :: cutF s b f (k + 1) (k + 1) := by
  rw [cutF, byte_getD s k h, if_pos hb]
theorem cutF_miss {s : ByteArray} {b f from_ k : Nat} (h : k < s.size) (hb : s[k].toNat ≠ b) : cutF s b (f + 1) from_ k = cutF s b f from_ (k + 1) := by
  rw [cutF, byte_getD s k h, if_neg hb]
/-- The names of a path, whatever it is. -/
def names (s : ByteArray) : List ByteArray := if s.size = 0 then [] else cut s 47
/-- Is a path right? -/
def pathB (s : ByteArray) : Bool := decide (s.size ≤ 200) && (names s).all nameB && decide ((names s).length ≤ 6)
theorem pathB_long {s : ByteArray} (h : 200 < s.size) : pathB s = false := by simp [pathB]; omega
theorem pathB_bad {s : ByteArray} {k : Nat} {t : ByteArray} (h : (names s)[k]? = some t) (hb : nameB t = false) : pathB s = false := by
  have hm : t ∈ names s := List.mem_of_getElem? h
  have : (names s).all nameB = false := by
    rw [List.all_eq_false]; exact ⟨t, hm, by simp [hb]⟩
  simp [pathB, this]
theorem pathB_good {s : ByteArray} (h : s.size ≤ 200) (ha : ∀ (j : Nat) t, (names s)[j]? = some t → nameB t = true) : pathB s = decide ((names s).length ≤ 6) := by
  have : (names s).all nameB = true := by
    rw [List.all_eq_true]
    intro t ht
    obtain ⟨j, hj⟩ := List.mem_iff_getElem?.1 ht
    exact ha j t hj
  simp [pathB, this, h]
theorem cutF_length (s : ByteArray) (b : Nat) : ∀ f fr k, (cutF s b f fr k).length ≤ f + 1 := by
  intro f
  induction f with
  | zero => intro fr k; simp [cutF]
  | succ f ih =>
    intro fr k
    rw [cutF]
    split
    · have := ih (k + 1) (k + 1); simp; omega
    · have := ih fr (k + 1); omega
theorem names_length (s : ByteArray) : (names s).length ≤ s.size + 1 := by
  unfold names
  split
  · simp
  · exact cutF_length s 47 s.size 0 0
theorem cutF_size (s : ByteArray) (b : Nat) : ∀ f fr k t, t ∈ cutF s b f fr k → t.size ≤ s.size := by
  intro f
  induction f with
  | zero => intro fr k t ht; simp [cutF] at ht; subst ht; simp
  | succ f ih =>
    intro fr k t ht
    rw [cutF] at ht
    split at ht
    · rcases List.mem_cons.1 ht with rfl | ht
      · simp; omega
      · exact ih _ _ t ht
    · exact ih _ _ t ht
theorem names_size {s : ByteArray} {k : Nat} {t : ByteArray} (h : (names s)[k]? = some t) : t.size ≤ s.size := by
  have hm : t ∈ names s := List.mem_of_getElem? h
  unfold names at hm
  split at hm
  · simp at hm
  · exact cutF_size s 47 _ _ _ t hm
/-- The place of the last slash among the first k bytes; -1: there is none. -/
def slashTo (s : ByteArray) : Nat → Int
  | 0 => -1
  | k + 1 => if (s.data.toList.getD k 0).toNat = 47 then (k : Int) else slashTo s k
theorem slash_hit {s : ByteArray} {k : Nat} (h : k < s.size) (hb : s[k].toNat = 47) : slashTo s (k + 1) = (k : Int) := by
  rw [slashTo, byte_getD s k h, if_pos hb]
theorem slash_miss {s : ByteArray} {k : Nat} (h : k < s.size) (hb : s[k].toNat ≠ 47) : slashTo s (k + 1) = slashTo s k := by
  rw [slashTo, byte_getD s k h, if_neg hb]
theorem slash_lt (s : ByteArray) (k : Nat) : -1 ≤ slashTo s k ∧ slashTo s k < (k : Int) := by
  induction k with
  | zero => simp [slashTo]
  | succ k ih =>
    rw [slashTo]
    split <;> omega
/-- The parent of a path. -/
def parent (s : ByteArray) : ByteArray := if slashTo s s.size < 0 then ⟨#[]⟩ else s.extract 0 (slashTo s s.size).toNat
end Pl
end Go.Proofs.YtgdfadibdioedaaDoor

