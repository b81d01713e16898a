/- Several texts of one claim in one file: Kit, PlainPath, PlainGlue, PlainPar. -/
import Derived.Below
import Derived.Test.YtlgbdbmikmbioaaDoorPlain
/- Small words for the walks: a fact kept from the walk, and got out again. -/
namespace Go.Proofs.YtlgbdbmikmbioaaDoor
open Go.RowKit
theorem hide {p : Prop} (h : p) : Hid p := h
theorem unhide {p : Prop} (h : Hid p) : p := h
theorem ret_bool {a b : Bool} (h : a = b) : Ending.returned (.bool a) = .returned (.bool b) := by rw [h]
theorem ret_string {a b : ByteArray} (h : a = b) : Ending.returned (.string a) = .returned (.string b) := by rw [h]
theorem ret_int {k : IntKind} {a b : Int} (h : a = b) : Ending.returned (.int k a) = .returned (.int k b) := by rw [h]
theorem bcell {W w1 : World} (hb : Below W.heap.size W w1) : (∀ b o, b < W.heap.size → w1.cell? ⟨b, o, none⟩ = W.cell? ⟨b, o, none⟩) ∧ (∀ b o, b < W.heap.size → w1.frozen? ⟨b, o, none⟩ = W.frozen? ⟨b, o, none⟩) :=
  ⟨fun b o h => hb.cell (p := ⟨b, o, none⟩) h, fun b o h => hb.frozen (p := ⟨b, o, none⟩) h⟩
theorem i64_of_wf {x : Int} (h : (Lit.int .i64 x).wf = true) : -9223372036854775808 ≤ x ∧ x ≤ 9223372036854775807 := by
  simp [Lit.wf, IntKind.min, IntKind.max, IntKind.signed, IntKind.bits] at h
  omega
/- Short names for what the walks' simp calls name over and over. -/
theorem kA0 {α : Type _} {xs : List α} {i : Nat} : xs.toArray[i]? = xs[i]? := List.getElem?_toArray
theorem kA1 {α : Type _} {a : α} {l : List α} : (a :: l)[0]? = some a := List.getElem?_cons_zero
theorem kA2 {α : Type _} {a : α} {l : List α} {i : Nat} : (a :: l)[i + 1]? = l[i]? := List.getElem?_cons_succ
theorem kB0 {α : Type _} {xs : List α} {i : Nat} (h : i < xs.toArray.size) : xs.toArray[i] = xs[i]'(by simpa using h) := List.getElem_toArray h
theorem kB1 {α : Type _} {a : α} {as' : List α} (h : 0 < (a :: as').length) : (a :: as')[0] = a := List.getElem_cons_zero a as' h
theorem kB2 {α : Type _} {a : α} {as' : List α} {i : Nat} (h : i + 1 < (a :: as').length) : (a :: as')[i + 1] = as'[i]'(by simpa using h) := List.getElem_cons_succ a as' i h
theorem kB3 {α : Type _} (l : List α) (i : Nat) (a : α) : l.toArray.setIfInBounds i a = (l.set i a).toArray := List.setIfInBounds_toArray l i a
theorem kB4 {α : Type _} {x : α} {xs : List α} {a : α} : (x :: xs).set 0 a = a :: xs := List.set_cons_zero
theorem kB5 {α : Type _} {x : α} {xs : List α} {n : Nat} {a : α} : (x :: xs).set (n + 1) a = x :: xs.set n a := List.set_cons_succ
end Go.Proofs.YtlgbdbmikmbioaaDoor

/- Plain facts on texts cut at a byte, and on paths. No Go in sight. -/
namespace Go.Proofs.YtlgbdbmikmbioaaDoor
namespace Pl
/-- The pieces from byte k on, the piece at hand begins at 'from_'; f: how many bytes are left at most. -/
def cutF (s : ByteArray) (b : Nat) : Nat → Nat → Nat → List ByteArray
  | 0, from_, _ => [s.extract from_ s.size]
  | f + 1, from_, k => if (s.data.toList.getD k 0).toNat = b then s.extract from_ k :: cutF s b f (k + 1) (k + 1) else cutF s b f from_ (k + 1)
/-- A text cut at each byte b. -/
def cut (s : ByteArray) (b : Nat) : List ByteArray := cutF s b s.size 0 0
theorem cutF_hit {s : ByteArray} {b f from_ k : Nat} (h : k < s.size) (hb : s[k].toNat = b) : cutF s b (f + 1) from_ k = s.extract from_ k :: cutF s b f (k + 1) (k + 1) := by
  rw [cutF, byte_getD s k h, if_pos hb]
theorem cutF_miss {s : ByteArray} {b f from_ k : Nat} (h : k < s.size) (hb : s[k].toNat ≠ b) : cutF s b (f + 1) from_ k = cutF s b f from_ (k + 1) := by
  rw [cutF, byte_getD s k h, if_neg hb]
/-- The names of a path, whatever it is. -/
def names (s : ByteArray) : List ByteArray := if s.size = 0 then [] else cut s 47
/-- Is a path right? -/
def pathB (s : ByteArray) : Bool := decide (s.size ≤ 200) && (names s).all nameB && decide ((names s).length ≤ 6)
theorem pathB_long {s : ByteArray} (h : 200 < s.size) : pathB s = false := by simp [pathB]; omega
theorem pathB_bad {s : ByteArray} {k : Nat} {t : ByteArray} (h : (names s)[k]? = some t) (hb : nameB t = false) : pathB s = false := by
  have hm : t ∈ names s := List.mem_of_getElem? h
  have : (names s).all nameB = false := by
    rw [List.all_eq_false]; exact ⟨t, hm, by simp [hb]⟩
  simp [pathB, this]
theorem pathB_good {s : ByteArray} (h : s.size ≤ 200) (ha : ∀ (j : Nat) t, (names s)[j]? = some t → nameB t = true) : pathB s = decide ((names s).length ≤ 6) := by
  have : (names s).all nameB = true := by
    rw [List.all_eq_true]
    intro t ht
    obtain ⟨j, hj⟩ := List.mem_iff_getElem?.1 ht
    exact ha j t hj
  simp [pathB, this, h]
theorem cutF_length (s : ByteArray) (b : Nat) : ∀ f fr k, (cutF s b f fr k).length ≤ f + 1 := by
  intro f
  induction f with
  | zero => intro fr k; simp [cutF]
  | succ f ih =>
    intro fr k
    rw [cutF]
    split
    · have := ih (k + 1) (k + 1); simp; omega
    · have := ih fr (k + 1); omega
theorem names_length (s : ByteArray) : (names s).length ≤ s.size + 1 := by
  unfold names
  split
  · simp
  · exact cutF_length s 47 s.size 0 0
theorem cutF_size (s : ByteArray) (b : Nat) : ∀ f fr k t, t ∈ cutF s b f fr k → t.size ≤ s.size := by
  intro f
  induction f with
  | zero => intro fr k t ht; simp [cutF] at ht; subst ht; simp
  | succ f ih =>
    intro fr k t ht
    rw [cutF] at ht
    split at ht
    · rcases List.mem_cons.1 ht with rfl | ht
      · simp; omega
      · exact ih _ _ t ht
    · exact ih _ _ t ht
theorem names_size {s : ByteArray} {k : Nat} {t : ByteArray} (h : (names s)[k]? = some t) : t.size ≤ s.size := by
  have hm : t ∈ names s := List.mem_of_getElem? h
  unfold names at hm
  split at hm
  · simp at hm
  · exact cutF_size s 47 _ _ _ t hm
/-- The place of the last slash among the first k bytes; -1: there is none. -/
def slashTo (s : ByteArray) : Nat → Int
  | 0 => -1
  | k + 1 => if (s.data.toList.getD k 0).toNat = 47 then (k : Int) else slashTo s k
theorem slash_hit {s : ByteArray} {k : Nat} (h : k < s.size) (hb : s[k].toNat = 47) : slashTo s (k + 1) = (k : Int) := by
  rw [slashTo, byte_getD s k h, if_pos hb]
theorem slash_miss {s : ByteArray} {k : Nat} (h : k < s.size) (hb : s[k].toNat ≠ 47) : slashTo s (k + 1) = slashTo s k := by
  rw [slashTo, byte_getD s k h, if_neg hb]
theorem slash_lt (s : ByteArray) (k : Nat) : -1 ≤ slashTo s k ∧ slashTo s k < (k : Int) := by
  induction k with
  | zero => simp [slashTo]
  | succ k ih =>
    rw [slashTo]
    split <;> omega
/-- The parent of a path. -/
def parent (s : ByteArray) : ByteArray := if slashTo s s.size < 0 then ⟨#[]⟩ else s.extract 0 (slashTo s s.size).toNat
end Pl
end Go.Proofs.YtlgbdbmikmbioaaDoor

/- Texts cut at slashes and put together again. No Go in sight. -/
namespace Go.Proofs.YtlgbdbmikmbioaaDoor
namespace Pl
def by_ (t : ByteArray) : List UInt8 := t.data.toList
theorem by_inj {a b : ByteArray} (h : by_ a = by_ b) : a = b := by
  apply ByteArray.ext; exact Array.toList_inj.1 h
theorem by_length (t : ByteArray) : (by_ t).length = t.size := Array.length_toList
theorem by_extract (t : ByteArray) (a b : Nat) : by_ (t.extract a b) = ((by_ t).drop a).take (b - a) := by
  simp [by_, ByteArray.data_extract, Array.toList_extract, List.extract]
theorem by_mk (l : List UInt8) : by_ ⟨l.toArray⟩ = l := by simp [by_]
def cutL : List UInt8 → List (List UInt8)
  | [] => [[]]
  | b :: l => if b = 47 then [] :: cutL l else match cutL l with | [] => [[b]] | h :: t => (b :: h) :: t
def glueL : List (List UInt8) → List UInt8
  | [] => []
  | [a] => a
  | a :: b :: r => a ++ 47 :: glueL (b :: r)
theorem cutL_ex (l : List UInt8) : ∃ h t, cutL l = h :: t := by
  induction l with
  | nil => exact ⟨_, _, rfl⟩
  | cons b l ih =>
    obtain ⟨h, t, e⟩ := ih
    rw [cutL]
    split
    · exact ⟨_, _, rfl⟩
    · rw [e]; exact ⟨_, _, rfl⟩
theorem cutL_ne (l : List UInt8) : cutL l ≠ [] := by obtain ⟨h, t, e⟩ := cutL_ex l; rw [e]; exact List.cons_ne_nil _ _
theorem cutL_hit (l : List UInt8) : cutL (47 :: l) = [] :: cutL l := by rw [cutL, if_pos rfl]
theorem cutL_miss {b : UInt8} {l h : List UInt8} {t : List (List UInt8)} (hb : b ≠ 47) (e : cutL l = h :: t) : cutL (b :: l) = (b :: h) :: t := by
  rw [cutL, if_neg hb, e]
theorem glueL_cons (a : List UInt8) {L : List (List UInt8)} (h : L ≠ []) : glueL (a :: L) = a ++ 47 :: glueL L := by
  cases L with
  | nil => exact absurd rfl h
  | cons b r => rw [glueL]
theorem glueL_push (b : UInt8) (h : List UInt8) (t : List (List UInt8)) : glueL ((b :: h) :: t) = b :: glueL (h :: t) := by
  cases t with
  | nil => simp [glueL]
  | cons c r => simp [glueL]
theorem glue_cutL (l : List UInt8) : glueL (cutL l) = l := by
  induction l with
  | nil => rfl
  | cons b l ih =>
    by_cases hb : b = 47
    · subst hb; rw [cutL_hit, glueL_cons _ (cutL_ne l), ih]; rfl
    · obtain ⟨h, t, e⟩ := cutL_ex l
      rw [cutL_miss hb e, glueL_push, ← e, ih]
theorem cutL_append (a b : List UInt8) : cutL (a ++ 47 :: b) = cutL a ++ cutL b := by
  induction a with
  | nil => rw [List.nil_append, cutL_hit]; rfl
  | cons c a ih =>
    by_cases hc : c = 47
    · subst hc; rw [List.cons_append, cutL_hit, ih, cutL_hit]; rfl
    · obtain ⟨h, t, e⟩ := cutL_ex a
      rw [List.cons_append, cutL_miss hc e, cutL_miss (t := t ++ cutL b) hc (by rw [ih, e]; rfl)]
      rfl
theorem cutL_free {a : List UInt8} (h : (47 : UInt8) ∉ a) : cutL a = [a] := by
  induction a with
  | nil => rfl
  | cons c a ih =>
    rw [List.mem_cons, not_or] at h
    rw [cutL_miss (fun e => h.1 e.symm) (ih h.2)]
theorem cutL_pieces (l : List UInt8) : ∀ t ∈ cutL l, (47 : UInt8) ∉ t := by
  induction l with
  | nil => intro t ht; simp [cutL] at ht; subst ht; simp
  | cons b l ih =>
    by_cases hb : b = 47
    · subst hb; rw [cutL_hit]; intro t ht
      rcases List.mem_cons.1 ht with rfl | ht
      · simp
      · exact ih t ht
    · obtain ⟨h, r, e⟩ := cutL_ex l
      rw [cutL_miss hb e]
      intro t ht
      rw [e] at ih
      rcases List.mem_cons.1 ht with rfl | ht
      · rw [List.mem_cons, not_or]; exact ⟨fun e => hb e.symm, ih h List.mem_cons_self⟩
      · exact ih t (List.mem_cons_of_mem _ ht)
theorem cut_glueL {L : List (List UInt8)} (h0 : L ≠ []) (h : ∀ t ∈ L, (47 : UInt8) ∉ t) : cutL (glueL L) = L := by
  induction L with
  | nil => exact absurd rfl h0
  | cons a L ih =>
    by_cases hL : L = []
    · subst hL; exact cutL_free (h a List.mem_cons_self)
    · rw [glueL_cons a hL, cutL_append, cutL_free (h a List.mem_cons_self), ih hL (fun t ht => h t (List.mem_cons_of_mem _ ht))]
      rfl
theorem glueL_append {A B : List (List UInt8)} (hA : A ≠ []) (hB : B ≠ []) : glueL (A ++ B) = glueL A ++ 47 :: glueL B := by
  induction A with
  | nil => exact absurd rfl hA
  | cons a A ih =>
    by_cases h : A = []
    · subst h; exact glueL_cons a hB
    · rw [List.cons_append, glueL_cons a (by simp [h]), ih h, glueL_cons a h]; simp

/-- The pieces of a text are those of its bytes. -/
theorem cutF_list (s : ByteArray) : ∀ f fr k, f + k = s.size → fr ≤ k → ∃ h t, cutL ((by_ s).drop k) = h :: t ∧ (cutF s 47 f fr k).map by_ = (((by_ s).drop fr).take (k - fr) ++ h) :: t := by
  intro f
  induction f with
  | zero =>
    intro fr k hk hfr
    refine ⟨[], [], ?_, ?_⟩
    · rw [List.drop_of_length_le (by rw [by_length]; omega)]; rfl
    · rw [cutF, List.map_cons, List.map_nil, by_extract, List.append_nil]
      obtain rfl : k = s.size := by omega
      rfl
  | succ f ih =>
    intro fr k hk hfr
    have hlt : k < s.size := by omega
    have hlt' : k < (by_ s).length := by rw [by_length]; exact hlt
    have hd : (by_ s).drop k = s[k] :: (by_ s).drop (k + 1) := by
      rw [List.drop_eq_getElem_cons hlt']; rfl
    by_cases hb : s[k].toNat = 47
    · obtain ⟨h, t, e1, e2⟩ := ih (k + 1) (k + 1) (by omega) (Nat.le_refl _)
      have hb' : s[k] = 47 := UInt8.toNat_inj.1 hb
      refine ⟨[], cutL ((by_ s).drop (k + 1)), ?_, ?_⟩
      · rw [hd, hb', cutL_hit]
      · rw [cutF_hit hlt hb, List.map_cons, e2, by_extract, e1]
        simp
    · obtain ⟨h, t, e1, e2⟩ := ih fr (k + 1) (by omega) (by omega)
      have hb' : s[k] ≠ 47 := fun e => hb (by rw [e]; rfl)
      refine ⟨s[k] :: h, t, ?_, ?_⟩
      · rw [hd, cutL_miss hb' e1]
      · rw [cutF_miss hlt hb, e2]
        congr 1
        have : k + 1 - fr = (k - fr) + 1 := by omega
        rw [this, List.take_add_one, List.getElem?_drop, Nat.add_sub_cancel' hfr, List.getElem?_eq_getElem hlt']
        simp [by_]
        rfl
theorem cut_list (s : ByteArray) : (cut s 47).map by_ = cutL (by_ s) := by
  obtain ⟨h, t, e1, e2⟩ := cutF_list s s.size 0 0 (by omega) (Nat.le_refl _)
  rw [cut, e2]
  rw [List.drop_zero] at e1
  rw [e1]; simp
def namesL (l : List UInt8) : List (List UInt8) := if l = [] then [] else cutL l
theorem by_nil {s : ByteArray} : by_ s = [] ↔ s.size = 0 := by rw [← by_length, List.length_eq_zero_iff]
theorem names_list (s : ByteArray) : (names s).map by_ = namesL (by_ s) := by
  unfold names namesL
  by_cases h : s.size = 0
  · rw [if_pos h, if_pos (by_nil.2 h)]; rfl
  · rw [if_neg h, if_neg (fun e => h (by_nil.1 e)), cut_list]
theorem glue_namesL (l : List UInt8) : glueL (namesL l) = l := by
  unfold namesL; split
  · subst_vars; rfl
  · exact glue_cutL l
/-- Names with a slash between. -/
def glue (ts : List ByteArray) : ByteArray := ⟨(glueL (ts.map by_)).toArray⟩
theorem by_glue (ts : List ByteArray) : by_ (glue ts) = glueL (ts.map by_) := by_mk _
theorem map_by_inj {A B : List ByteArray} (h : A.map by_ = B.map by_) : A = B := by
  induction A generalizing B with
  | nil => cases B with
    | nil => rfl
    | cons => simp at h
  | cons a A ih => cases B with
    | nil => simp at h
    | cons b B => simp at h; rw [by_inj h.1, ih h.2]
theorem glue_names (s : ByteArray) : glue (names s) = s := by
  apply by_inj; rw [by_glue, names_list, glue_namesL]
theorem name_free {t : ByteArray} (h : nameB t = true) : (47 : UInt8) ∉ by_ t ∧ by_ t ≠ [] ∧ 1 ≤ t.size ∧ t.size ≤ 20 := by
  have h' := of_decide_eq_true h
  refine ⟨fun hm => ?_, fun e => ?_, h'.1, h'.2.1⟩
  · obtain ⟨j, hj, e⟩ := List.getElem_of_mem hm
    have hj' : j < t.size := by rw [← by_length]; exact hj
    have ho := h'.2.2 j hj'
    have e2 : t.data.toList.getD j 0 = 47 := by
      rw [byte_getD t j hj']; exact e
    rw [e2] at ho
    simp [okAt] at ho
  · have := by_nil.1 e; omega
theorem names_glue {L : List ByteArray} (h : ∀ t ∈ L, nameB t = true) : names (glue L) = L := by
  apply map_by_inj
  rw [names_list, by_glue]
  cases L with
  | nil => rfl
  | cons a L =>
    have hne : glueL ((a :: L).map by_) ≠ [] := by
      have ha := (name_free (h a List.mem_cons_self)).2.1
      cases L with
      | nil => exact ha
      | cons b L => simp [glueL]
    rw [namesL, if_neg hne]
    apply cut_glueL (by simp)
    intro t ht
    obtain ⟨u, hu, rfl⟩ := List.mem_map.1 ht
    exact (name_free (h u hu)).1
theorem glueL_le (L : List ByteArray) (h : ∀ t ∈ L, t.size ≤ 20) : (glueL (L.map by_)).length ≤ 21 * L.length := by
  induction L with
  | nil => simp [glueL]
  | cons a L ih =>
    have ha := h a List.mem_cons_self
    have ih := ih (fun t ht => h t (List.mem_cons_of_mem _ ht))
    cases L with
    | nil => simp [glueL, by_length]; omega
    | cons b L =>
      simp only [List.map_cons, glueL, List.length_append, List.length_cons, by_length] at ih ⊢
      omega
theorem glue_size (L : List ByteArray) (h : ∀ t ∈ L, t.size ≤ 20) : (glue L).size ≤ 21 * L.length := by
  rw [← by_length, by_glue]; exact glueL_le L h
theorem pathB_all {s : ByteArray} (h : pathB s = true) : (∀ t ∈ names s, nameB t = true) ∧ (names s).length ≤ 6 := by
  simp [pathB] at h
  exact ⟨h.1.2, h.2⟩
theorem pathB_glue {L : List ByteArray} (h : ∀ t ∈ L, nameB t = true) (h6 : L.length ≤ 6) : pathB (glue L) = true := by
  have hs := glue_size L (fun t ht => (name_free (h t ht)).2.2.2)
  simp [pathB, names_glue h]
  exact ⟨⟨by omega, h⟩, h6⟩
/-- Right, without the word on how long it is. -/
theorem pathB_short {s : ByteArray} : pathB s = ((names s).all nameB && decide ((names s).length ≤ 6)) := by
  by_cases h : s.size ≤ 200
  · simp [pathB, h]
  · have h1 : pathB s = false := pathB_long (by omega)
    rw [h1]
    by_cases h2 : (names s).all nameB = true
    · have h3 := List.all_eq_true.1 h2
      have hs := glue_size (names s) (fun t ht => (name_free (h3 t ht)).2.2.2)
      rw [glue_names] at hs
      simp; intro _; omega
    · simp at h2; simp; intro h4; obtain ⟨x, hx, hy⟩ := h2; exact absurd (h4 x hx) (by simp [hy])
end Pl
end Go.Proofs.YtlgbdbmikmbioaaDoor

/- Parents, last names, what lies under what, rests, and the way of a text. No Go in sight. -/
namespace Go.Proofs.YtlgbdbmikmbioaaDoor
namespace Pl
theorem by_take_succ (s : ByteArray) (k : Nat) (h : k < s.size) : (by_ s).take (k + 1) = (by_ s).take k ++ [s[k]] := take_snoc s k h
theorem slash_split (s : ByteArray) : ∀ k, k ≤ s.size → ((47 : UInt8) ∉ (by_ s).take k ∧ slashTo s k = -1) ∨ ∃ a b, (by_ s).take k = a ++ 47 :: b ∧ (47 : UInt8) ∉ b ∧ slashTo s k = (a.length : Int) := by
  intro k
  induction k with
  | zero => intro _; left; simp [slashTo]
  | succ k ih =>
    intro hk
    have hlt : k < s.size := by omega
    have ih := ih (by omega)
    rw [by_take_succ s k hlt]
    by_cases hb : s[k].toNat = 47
    · right
      have hb' : s[k] = 47 := UInt8.toNat_inj.1 hb
      refine ⟨(by_ s).take k, [], by rw [hb'], by simp, ?_⟩
      rw [slash_hit hlt hb, List.length_take, by_length, Nat.min_eq_left (by omega)]
    · have hb' : s[k] ≠ 47 := fun e => hb (by rw [e]; rfl)
      rw [slash_miss hlt hb]
      rcases ih with ⟨h1, h2⟩ | ⟨a, b, h1, h2, h3⟩
      · left
        refine ⟨?_, h2⟩
        rw [List.mem_append, not_or]
        exact ⟨h1, by simpa using fun e => hb' e.symm⟩
      · right
        refine ⟨a, b ++ [s[k]], by rw [h1]; simp, ?_, h3⟩
        rw [List.mem_append, not_or]
        exact ⟨h2, by simpa using fun e => hb' e.symm⟩
/-- Either there is no slash, or the last one is there. -/
theorem slash_parts (s : ByteArray) : ((47 : UInt8) ∉ by_ s ∧ slashTo s s.size = -1) ∨ ∃ a b, by_ s = a ++ 47 :: b ∧ (47 : UInt8) ∉ b ∧ slashTo s s.size = (a.length : Int) := by
  have h := slash_split s s.size (Nat.le_refl _)
  rwa [List.take_of_length_le (by rw [by_length]; exact Nat.le_refl _)] at h
theorem namesL_split {l a b : List UInt8} (h : l = a ++ 47 :: b) : namesL l = cutL a ++ cutL b := by
  subst h; rw [namesL, if_neg (by simp), cutL_append]
theorem namesL_free {l : List UInt8} (h : (47 : UInt8) ∉ l) : namesL l = if l = [] then [] else [l] := by
  rw [namesL]; split
  · rfl
  · exact cutL_free h
/-- The last name of a path. -/
def base (s : ByteArray) : ByteArray := s.extract (slashTo s s.size + 1).toNat s.size
theorem parent_glue (s : ByteArray) : parent s = glue (names s).dropLast := by
  apply by_inj
  rw [by_glue, List.map_dropLast, names_list]
  unfold parent
  rcases slash_parts s with ⟨h1, h2⟩ | ⟨a, b, h1, h2, h3⟩
  · rw [h2, if_pos (by omega), namesL_free h1]
    split <;> rfl
  · rw [h3, if_neg (by omega), by_extract, namesL_split h1, cutL_free h2, List.dropLast_concat, glue_cutL, h1]
    simp
theorem base_glue (s : ByteArray) : base s = glue ((names s).drop ((names s).length - 1)) := by
  apply by_inj
  have hl : (names s).length = (namesL (by_ s)).length := by rw [← names_list, List.length_map]
  rw [by_glue, List.map_drop, names_list, hl]
  unfold base
  rcases slash_parts s with ⟨h1, h2⟩ | ⟨a, b, h1, h2, h3⟩
  · rw [h2, by_extract, namesL_free h1]
    have e : List.take (s.size - ((-1 : Int) + 1).toNat) (List.drop ((-1 : Int) + 1).toNat (by_ s)) = by_ s := by
      simp [← by_length]
    rw [e]
    split
    · next h => rw [h]; rfl
    · rfl
  · rw [h3, by_extract, namesL_split h1, cutL_free h2]
    have h4 : ((a.length : Int) + 1).toNat = a.length + 1 := by omega
    have h5 : s.size = a.length + 1 + b.length := by rw [← by_length, h1]; simp; omega
    rw [h4, h5, h1]
    simp [glueL]
theorem drop_last {α : Type} (L : List α) : L.take (L.length - 1) = L.dropLast := by rw [List.dropLast_eq_take]
/-- Is a path another one, or under it: by names. -/
def under (p t : ByteArray) : Bool := ((names t).map by_).isPrefixOf ((names p).map by_)
theorem under_iff (p t : ByteArray) : under p t = true ↔ (by_ t = [] ∨ by_ p = by_ t ∨ ∃ r, by_ p = by_ t ++ 47 :: r) := by
  unfold under
  rw [List.isPrefixOf_iff_prefix, names_list, names_list]
  constructor
  · rintro ⟨R, e⟩
    by_cases ht : by_ t = []
    · exact .inl ht
    · right
      have e2 := congrArg glueL e
      by_cases hr : R = []
      · left
        subst hr
        rw [List.append_nil, glue_namesL, glue_namesL] at e2
        exact e2.symm
      · right
        rw [glueL_append (by rw [namesL, if_neg ht]; exact cutL_ne _) hr, glue_namesL, glue_namesL] at e2
        exact ⟨_, e2.symm⟩
  · rintro (h | h | ⟨r, h⟩)
    · rw [h]; exact List.nil_prefix
    · rw [h]; exact List.prefix_refl _
    · by_cases ht : by_ t = []
      · rw [ht]; exact List.nil_prefix
      · refine ⟨cutL r, ?_⟩
        rw [namesL_split h, namesL, if_neg ht]
/-- What a path has behind another one. -/
def rest (p t : ByteArray) : ByteArray := glue ((names p).drop (names t).length)
theorem rest_root {p t : ByteArray} (h : by_ t = []) : rest p t = p := by
  have : names t = [] := by apply map_by_inj; rw [names_list, h]; rfl
  rw [rest, this]; exact glue_names p
theorem rest_same (p : ByteArray) : rest p p = ⟨#[]⟩ := by
  rw [rest, List.drop_length]; rfl
theorem rest_more {p t : ByteArray} {r : List UInt8} (ht : by_ t ≠ []) (h : by_ p = by_ t ++ 47 :: r) : rest p t = p.extract (t.size + 1) p.size := by
  have h1 : (names p).map by_ = (names t).map by_ ++ cutL r := by
    rw [names_list, names_list, namesL_split h, namesL, if_neg ht]
  apply by_inj
  rw [rest, by_glue, List.map_drop, h1, ← List.length_map (f := by_) (as := names t), List.drop_left, glue_cutL, by_extract, h]
  have h2 : p.size = t.size + 1 + r.length := by rw [← by_length, h, List.length_append, List.length_cons, by_length]; omega
  have h3 : t.size = (by_ t).length := (by_length t).symm
  rw [h2, h3]; simp
/-- The names of two, one behind the other. -/
def both (t p : ByteArray) : ByteArray := glue (names t ++ names p)
theorem both_none {t p : ByteArray} (h : by_ t = [] ∨ by_ p = []) : both t p = t ++ p := by
  apply by_inj
  rw [both, by_glue, List.map_append, names_list, names_list]
  have e : by_ (t ++ p) = by_ t ++ by_ p := by simp [by_]
  rw [e]
  rcases h with h | h
  · rw [h]; simp [namesL]; exact glue_namesL _
  · rw [h]; simp [namesL]; exact glue_namesL _
theorem both_two {t p : ByteArray} (h1 : by_ t ≠ []) (h2 : by_ p ≠ []) : by_ (both t p) = by_ t ++ 47 :: by_ p := by
  rw [both, by_glue, List.map_append, names_list, names_list, glueL_append (by rw [namesL, if_neg h1]; exact cutL_ne _) (by rw [namesL, if_neg h2]; exact cutL_ne _), glue_namesL, glue_namesL]
/-- A path and a name. -/
def joinN (p n : ByteArray) : ByteArray := glue (names p ++ [n])
theorem joinN_root {p n : ByteArray} (h : by_ p = []) : joinN p n = n := by
  apply by_inj
  rw [joinN, by_glue, List.map_append, names_list, h]; rfl
theorem joinN_two {p n : ByteArray} (h : by_ p ≠ []) : by_ (joinN p n) = by_ p ++ 47 :: by_ n := by
  rw [joinN, by_glue, List.map_append, names_list, glueL_append (by rw [namesL, if_neg h]; exact cutL_ne _) (by simp), glue_namesL]; rfl
/-- One word of a text, from names on: the names behind it, or why not. -/
def stepW (h : List ByteArray) (t : ByteArray) : Except Int (List ByteArray) :=
  if by_ t = [] ∨ by_ t = [46] then .ok h
  else if by_ t = [46, 46] then .ok h.dropLast
  else if nameB t = false then .error 3
  else if h.length = 6 then .error 9
  else .ok (h ++ [t])
def walkW (h : List ByteArray) : List ByteArray → Except Int (List ByteArray)
  | [] => .ok h
  | t :: ts => match stepW h t with | .ok h' => walkW h' ts | .error c => .error c
end Pl
end Go.Proofs.YtlgbdbmikmbioaaDoor

