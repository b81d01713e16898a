/- Several texts of one claim in one file: PlainPar, PlainR, PlainLess, PlainTree, Kit, PlainPut, PlainOff, PlainCut, PlainGetV, PlainPutM. -/
import Derived.Test.YtioildojmckepaaGreatDoorG00
import Derived.WalkKit
import Derived.Laws.IdiomStrings
import Derived.Below
import Derived.Test.YtioildojmckepaaGreatDoorProg
import Derived.WalkSpells
import Derived.Deep.RegionHeld3
import Derived.Lib.OthersKept
import Derived.Laws.RangeAny
import Derived.Deep.Draws
import Derived.Deep.QuietTactic
import Derived.BigQuiet
namespace Go.Proofs.YtioildojmckepaaGreatDoor
namespace Pl
theorem by_take_succ (s : ByteArray) (k : Nat) (h : k < s.size) : (by_ s).take (k + 1) = (by_ s).take k ++ [s[k]] := take_snoc s k h
theorem slash_split (s : ByteArray) : ∀ k, k ≤ s.size → ((47 : UInt8) ∉ (by_ s).take k ∧ zd6 s k = -1) ∨ ∃ a b, (by_ s).take k = a ++ 47 :: b ∧ (47 : UInt8) ∉ b ∧ zd6 s k = (a.length : Int) := by
 intro k
 induction k with
 | zero => intro _; left; simp [zd6]
 | succ k ih =>
  intro hk
  have hlt : k < s.size := by omega
  have ih := ih (by omega)
  rw [by_take_succ s k hlt]
  by_cases hb : s[k].toNat = 47
  ·right
   have hb' : s[k] = 47 := UInt8.toNat_inj.1 hb
   refine ⟨(by_ s).take k, [], by rw [hb'], by simp, ?_⟩
   rw [slash_hit hlt hb, List.length_take, zb9, Nat.min_eq_left (by omega)]
  ·have hb' : s[k] ≠ 47 := fun e => hb (by rw [e]; rfl)
   rw [ye6 hlt hb]
   rcases ih with ⟨h1, h2⟩ | ⟨a, b, h1, h2, h3⟩
   ·left
    refine ⟨?_, h2⟩
    rw [List.mem_append, not_or]
    exact ⟨h1, by simpa using fun e => hb' e.symm⟩
   ·right
    refine ⟨a, b ++ [s[k]], by rw [h1]; simp, ?_, h3⟩
    rw [List.mem_append, not_or]
    exact ⟨h2, by simpa using fun e => hb' e.symm⟩
theorem slash_parts (s : ByteArray) : ((47 : UInt8) ∉ by_ s ∧ zd6 s s.size = -1) ∨ ∃ a b, by_ s = a ++ 47 :: b ∧ (47 : UInt8) ∉ b ∧ zd6 s s.size = (a.length : Int) := by
 have h := slash_split s s.size (Nat.le_refl _)
 rwa [List.take_of_length_le (by rw [zb9]; exact Nat.le_refl _)] at h
theorem ya2 {l a b : List UInt8} (h : l = a ++ 47 :: b) : zk5 l = cutL a ++ cutL b := by
 subst h; rw [zk5, if_neg (by simp), yb8]
theorem namesL_free {l : List UInt8} (h : (47 : UInt8) ∉ l) : zk5 l = if l = [] then [] else [l] := by
 rw [zk5]; split
 ·rfl
 ·exact zx0 h
def base (s : ByteArray) : ByteArray := s.extract (zd6 s s.size + 1).toNat s.size
theorem parent_glue (s : ByteArray) : parent s = glue (names s).dropLast := by
 apply zh
 rw [zq, List.map_dropLast, zk1]
 unfold parent
 rcases slash_parts s with ⟨h1, h2⟩ | ⟨a, b, h1, h2, h3⟩
 ·rw [h2, if_pos (by omega), namesL_free h1]
  split <;> rfl
 ·rw [h3, if_neg (by omega), zn2, ya2 h1, zx0 h2, List.dropLast_concat, glue_cutL, h1]
  simp
theorem drop_last {α : Type} (L : List α) : L.take (L.length - 1) = L.dropLast := by rw [List.dropLast_eq_take]
def under (p t : ByteArray) : Bool := ((names t).map by_).isPrefixOf ((names p).map by_)
theorem zo0 (p t : ByteArray) : under p t = true ↔ (by_ t = [] ∨ by_ p = by_ t ∨ ∃ r, by_ p = by_ t ++ 47 :: r) := by
 unfold under
 rw [List.isPrefixOf_iff_prefix, zk1, zk1]
 constructor
 ·rintro ⟨R, e⟩
  by_cases ht : by_ t = []
  ·exact .inl ht
  ·right
   have e2 := congrArg zg0 e
   by_cases hr : R = []
   ·left
    subst hr
    rw [List.append_nil, zl2, zl2] at e2
    exact e2.symm
   ·right
    rw [zv1 (by rw [zk5, if_neg ht]; exact zx6 _) hr, zl2, zl2] at e2
    exact ⟨_, e2.symm⟩
 ·rintro (h | h | ⟨r, h⟩)
  ·rw [h]; exact List.nil_prefix
  ·rw [h]; exact List.prefix_refl _
  ·by_cases ht : by_ t = []
   ·rw [ht]; exact List.nil_prefix
   ·refine ⟨cutL r, ?_⟩
    rw [ya2 h, zk5, if_neg ht]
def rest (p t : ByteArray) : ByteArray := glue ((names p).drop (names t).length)
def zq3 (p n : ByteArray) : ByteArray := glue (names p ++ [n])
theorem ye2 {p n : ByteArray} (h : by_ p = []) : zq3 p n = n := by
 apply zh
 rw [zq3, zq, List.map_append, zk1, h]; rfl
theorem joinN_two {p n : ByteArray} (h : by_ p ≠ []) : by_ (zq3 p n) = by_ p ++ 47 :: by_ n := by
 rw [zq3, zq, List.map_append, zk1, zv1 (by rw [zk5, if_neg h]; exact zx6 _) (by simp), zl2]; rfl
end Pl
end Go.Proofs.YtioildojmckepaaGreatDoor

namespace Go.Proofs.YtioildojmckepaaGreatDoor
namespace Pl
def ze5 (s : ByteArray) : List ByteArray := if zb2 s then names s else []
theorem zw7 {s : ByteArray} (h : zb2 s = false) : ze5 s = [] := by rw [ze5, h]; rfl
theorem zk8 {s : ByteArray} (h : zb2 s = true) : ze5 s = names s := by rw [ze5, h]; rfl
theorem cut_pos (s : ByteArray) : 0 < (cut s 47).length := by
 have h := cut_list s
 have : (cut s 47).length = (cutL (by_ s)).length := by rw [← h, List.length_map]
 rw [this]
 exact List.length_pos_iff.2 (zx6 _)
theorem zm9 {s : ByteArray} (h : s.size = 0) : zb2 s = true ∧ names s = [] := by
 have h1 : names s = [] := if_pos h
 exact ⟨by simp [zx1, h1], h1⟩
theorem cut_length (s : ByteArray) : (cut s 47).length ≤ s.size + 1 := yc s 47 s.size 0 0
theorem cut_size {s : ByteArray} {k : Nat} {t : ByteArray} (h : (cut s 47)[k]? = some t) : t.size ≤ s.size := cutF_size s 47 _ _ _ t (List.mem_of_getElem? h)
theorem zs6 (s : ByteArray) : (∀ t ∈ ze5 s, zd9 t = true) ∧ (ze5 s).length ≤ 6 := by
 cases h : zb2 s
 ·rw [zw7 h]; simp
 ·rw [zk8 h]; exact yb2 h
theorem glue_small {L : List ByteArray} (h : ∀ t ∈ L, zd9 t = true) (h6 : L.length ≤ 20) : (glue L).size ≤ 1000000 := by
 have := zw3 L (fun t ht => (zo1 (h t ht)).2.2.2); omega
theorem all_take {L : List ByteArray} (h : ∀ t ∈ L, zd9 t = true) (k : Nat) : ∀ t ∈ L.take k, zd9 t = true := fun t ht => h t (List.mem_of_mem_take ht)
theorem zu8 {a b : ByteArray} (h : a = b) : (a.toList == b.toList) = true := by rw [h]; exact beq_self_eq_true _
theorem zp7 {a b : ByteArray} (h : a ≠ b) : (a.toList == b.toList) = false := by
 rw [beq_eq_false_iff_ne, ByteArray.toList_eq, ByteArray.toList_eq]
 exact fun e => h (zh e)
theorem zc5 {t : ByteArray} : t.toList.isEmpty = decide (by_ t = []) := by
 rw [ByteArray.toList_eq]; change (by_ t).isEmpty = _
 cases by_ t <;> simp
end Pl
end Go.Proofs.YtioildojmckepaaGreatDoor

namespace Go.Proofs.YtioildojmckepaaGreatDoor
namespace Pl
def za9 : List ByteArray → List ByteArray → Bool
 | [], [] => false
 | [], _ :: _ => true
 | _ :: _, [] => false
 | a :: A, b :: B => if a = b then za9 A B else Op.bytesLess a.toList b.toList
theorem less_same {A B : List ByteArray} {k : Nat} {a b : ByteArray} (ha : A[k]? = some a) (hb : B[k]? = some b) (h : a = b) : za9 (A.drop k) (B.drop k) = za9 (A.drop (k + 1)) (B.drop (k + 1)) := by
 have h1 := (List.getElem?_eq_some_iff.1 ha)
 have h2 := (List.getElem?_eq_some_iff.1 hb)
 rw [List.drop_eq_getElem_cons h1.1, List.drop_eq_getElem_cons h2.1, za9, if_pos (by rw [h1.2, h2.2]; exact h)]
theorem yd0 {A B : List ByteArray} {k : Nat} {a b : ByteArray} (ha : A[k]? = some a) (hb : B[k]? = some b) (h : a ≠ b) : za9 (A.drop k) (B.drop k) = Op.bytesLess a.toList b.toList := by
 have h1 := (List.getElem?_eq_some_iff.1 ha)
 have h2 := (List.getElem?_eq_some_iff.1 hb)
 rw [List.drop_eq_getElem_cons h1.1, List.drop_eq_getElem_cons h2.1, za9, if_neg (by rw [h1.2, h2.2]; exact h), h1.2, h2.2]
theorem less_end {A B : List ByteArray} {k : Nat} (h : k = A.length ∧ k ≤ B.length ∨ k = B.length ∧ k ≤ A.length) : za9 (A.drop k) (B.drop k) = decide (A.length < B.length) := by
 rcases h with ⟨rfl, h⟩ | ⟨rfl, h⟩
 ·rw [List.drop_length]
  by_cases hl : A.length < B.length
  ·rw [List.drop_eq_getElem_cons hl]; simp [za9, hl]
  ·rw [List.drop_of_length_le (by omega)]; simp [za9, hl]
 ·rw [List.drop_length]
  have hn : ¬ A.length < B.length := by omega
  by_cases hl : B.length < A.length
  ·rw [List.drop_eq_getElem_cons hl]; simp [za9, hn]
  ·rw [List.drop_of_length_le (by omega)]; simp [za9, hn]
end Pl
end Go.Proofs.YtioildojmckepaaGreatDoor

namespace Go.Proofs.YtioildojmckepaaGreatDoor
namespace Pl
theorem bytes_trans : ∀ a b c : List UInt8, Op.bytesLess a b = true → Op.bytesLess b c = true → Op.bytesLess a c = true := by
 intro a
 induction a with
 | nil =>
  intro b c h1 h2
  cases c with
  | nil => cases b <;> simp [Op.bytesLess] at h2
  | cons z c => rfl
 | cons x a ih =>
  intro b c h1 h2
  cases b with
  | nil => simp [Op.bytesLess] at h1
  | cons y b =>
   cases c with
   | nil => simp [Op.bytesLess] at h2
   | cons z c =>
    simp only [Op.bytesLess, Bool.or_eq_true, decide_eq_true_eq, Bool.and_eq_true, beq_iff_eq] at h1 h2 ⊢
    rcases h1 with h1 | ⟨rfl, h1⟩
    ·rcases h2 with h2 | ⟨rfl, h2⟩
     ·left; rw [UInt8.lt_iff_toNat_lt] at h1 h2 ⊢; omega
     ·left; exact h1
    ·rcases h2 with h2 | ⟨rfl, h2⟩
     ·left; exact h2
     ·right; exact ⟨rfl, ih b c h1 h2⟩
theorem bytes_irr : ∀ a : List UInt8, Op.bytesLess a a = false := by
 intro a
 induction a with
 | nil => rfl
 | cons x a ih => simp [Op.bytesLess, ih]
theorem zs5 : ∀ A B C : List ByteArray, za9 A B = true → za9 B C = true → za9 A C = true := by
 intro A
 induction A with
 | nil =>
  intro B C h1 h2
  cases C with
  | nil => cases B <;> simp [za9] at h2
  | cons c C => rfl
 | cons a A ih =>
  intro B C h1 h2
  cases B with
  | nil => simp [za9] at h1
  | cons b B =>
   cases C with
   | nil => simp [za9] at h2
   | cons c C =>
    rw [za9] at h1 h2 ⊢
    by_cases hab : a = b
    ·subst hab
     rw [if_pos rfl] at h1
     by_cases hac : a = c
     ·subst hac
      rw [if_pos rfl] at h2 ⊢
      exact ih B C h1 h2
     ·rw [if_neg hac] at h2 ⊢; exact h2
    ·rw [if_neg hab] at h1
     by_cases hbc : b = c
     ·subst hbc
      rw [if_neg hab]; exact h1
     ·rw [if_neg hbc] at h2
      have h3 := bytes_trans _ _ _ h1 h2
      by_cases hac : a = c
      ·subst hac; rw [bytes_irr] at h3; cases h3
      ·rw [if_neg hac]; exact h3
theorem zv4 : ∀ A : List ByteArray, za9 A A = false := by
 intro A
 induction A with
 | nil => rfl
 | cons a A ih => rw [za9, if_pos rfl, ih]
theorem less_drop : ∀ A : List ByteArray, A ≠ [] → za9 A.dropLast A = true := by
 intro A h
 have h1 : A.dropLast ++ [A.getLast h] = A := List.dropLast_concat_getLast h
 have h2 : ∀ (B : List ByteArray) (x : ByteArray), za9 B (B ++ [x]) = true := by
  intro B x
  induction B with
  | nil => rfl
  | cons b B ih => rw [List.cons_append, za9, if_pos rfl]; exact ih
 have h3 := h2 A.dropLast (A.getLast h)
 rw [h1] at h3; exact h3
def ltP (a b : ByteArray) : Bool := zb2 a && zb2 b && za9 (ze5 a) (ze5 b)
def zc3 (p : ByteArray) : ByteArray := glue (ze5 p).dropLast
def parI (C : List Nd) (p : ByteArray) : Bool := decide ((zc3 p).size = 0) || C.any (fun m => decide (m.path = zc3 p) && decide (m.kind = 1))
def goI (C : List Nd) (last : ByteArray) : List Nd → Bool
 | [] => true
 | n :: r => zc1 n && ltP last n.path && parI C n.path && goI (C ++ [n]) n.path r
def zb1 (L : List Nd) : Bool := decide (L.length ≤ 40) && goI [] ⟨#[]⟩ L
def dirS (L : List Nd) (p : ByteArray) : Bool := decide (p.size = 0) || (match L.find? (fun m => decide (m.path = p)) with | some m => decide (m.kind = 1) | none => false)
def prevB (prev : Option ByteArray) (p : ByteArray) : Bool := match prev with | none => true | some q => za9 (names q) (names p)
def goS (L : List Nd) (prev : Option ByteArray) : List Nd → Bool
 | [] => true
 | n :: r => zc1 n && prevB prev n.path && dirS L (parent n.path) && goS L (some n.path) r
theorem zf9 {n : Nd} (h : zc1 n = true) : zb2 n.path = true ∧ n.path.size ≠ 0 := by
 unfold zc1 at h
 simp only [Bool.and_eq_true, decide_eq_true_eq] at h
 exact ⟨h.1.1.1.1.2, h.1.1.1.1.1⟩
theorem zl3 {n : Nd} (h : zc1 n = true) : n.data.size ≤ 60 ∧ (0 ≤ n.time ∧ n.time ≤ 1000000) ∧ (0 ≤ n.mark ∧ n.mark ≤ 8) ∧ zl6 n = true := by
 unfold zc1 at h
 simp only [Bool.and_eq_true, decide_eq_true_eq] at h
 exact ⟨h.1.1.1.2, h.1.1.2, h.1.2, h.2⟩
theorem zk7 {p : ByteArray} (h : zb2 p = true) : p.size ≤ 200 := by
 unfold zb2 at h
 simp only [Bool.and_eq_true, decide_eq_true_eq] at h
 exact h.1.1
theorem names_ne {p : ByteArray} (h : p.size ≠ 0) : names p ≠ [] := by
 intro e
 have := zk1 p
 rw [e] at this
 simp only [List.map_nil, zk5] at this
 split at this
 ·next h1 => rw [zg2] at h1; exact h h1
 ·exact zx6 _ this.symm
theorem parent_right {p : ByteArray} (h : zb2 p = true) : parent p = zc3 p := by rw [parent_glue, zc3, zk8 h]
theorem parent_names {p : ByteArray} (h : zb2 p = true) : names (zc3 p) = (names p).dropLast := by
 rw [zc3, zk8 h]
 exact names_glue (fun t ht => (yb2 h).1 t (List.dropLast_subset _ ht))
theorem zw {a b : ByteArray} (ha : zb2 a = true) (hb : zb2 b = true) : ltP a b = za9 (names a) (names b) := by rw [ltP, ha, hb, zk8 ha, zk8 hb]; rfl
theorem rise (L : List Nd) : ∀ (r : List Nd) (q : ByteArray), goS L (some q) r = true → ∀ m ∈ r, za9 (names q) (names m.path) = true := by
 intro r
 induction r with
 | nil => intro q _ m hm; cases hm
 | cons n r ih =>
  intro q h m hm
  simp only [goS, Bool.and_eq_true] at h
  rcases List.mem_cons.1 hm with rfl | hm
  ·exact h.1.1.2
  ·exact zs5 _ _ _ h.1.1.2 (ih n.path h.2 m hm)
theorem find_app {α : Type} {f : α → Bool} (A B : List α) : (A ++ B).find? f = match A.find? f with | some x => some x | none => B.find? f := by
 rw [List.find?_append]; cases A.find? f <;> rfl
theorem one_path {C : List Nd} (h : C.Pairwise (fun a b => za9 (names a.path) (names b.path) = true)) {a b : Nd} (ha : a ∈ C) (hb : b ∈ C) (e : a.path = b.path) : a = b := by
 induction h with
 | nil => cases ha
 | cons hx _ ih =>
  rcases List.mem_cons.1 ha with e1 | h1
  ·rcases List.mem_cons.1 hb with e2 | h2
   ·rw [e1, e2]
   ·have h3 := hx _ h2; rw [← e1, e, zv4] at h3; cases h3
  ·rcases List.mem_cons.1 hb with e2 | h2
   ·have h3 := hx _ h1; rw [← e2, e, zv4] at h3; cases h3
   ·exact ih h1 h2
theorem go_same (L : List Nd) : ∀ (r C : List Nd) (prev : Option ByteArray) (last : ByteArray), L = C ++ r → (prev = none ∧ C = [] ∧ last = ⟨#[]⟩ ∨ prev = some last ∧ zb2 last = true) →
  C.Pairwise (fun a b => za9 (names a.path) (names b.path) = true) → (∀ a ∈ C, a.path = last ∨ za9 (names a.path) (names last) = true) → goS L prev r = goI C last r := by
 intro r
 induction r with
 | nil => intros; rfl
 | cons n r ih =>
  intro C prev last hL hprev hC hlast
  simp only [goS, goI]
  cases hn : zc1 n
  ·simp
  obtain ⟨hr, h0⟩ := zf9 hn
  have hlt : prevB prev n.path = ltP last n.path := by
   rcases hprev with ⟨rfl, rfl, rfl⟩ | ⟨rfl, hl⟩
   ·have e1 : zb2 (⟨#[]⟩ : ByteArray) = true := (zm9 rfl).1
    have e2 : names (⟨#[]⟩ : ByteArray) = [] := (zm9 rfl).2
    rw [zw e1 hr, e2]
    cases hx : names n.path with
    | nil => exact absurd hx (names_ne h0)
    | cons a l => rfl
   ·rw [zw hl hr]; rfl
  rw [hlt]
  cases hlt2 : ltP last n.path
  ·simp
  simp only [Bool.true_and, parent_right hr]
  have hall : ∀ a ∈ C, za9 (names a.path) (names n.path) = true := by
   intro a ha
   rcases hprev with ⟨_, rfl, _⟩ | ⟨_, hl⟩
   ·cases ha
   ·rw [zw hl hr] at hlt2
    rcases hlast a ha with e | e
    ·rw [e]; exact hlt2
    ·exact zs5 _ _ _ e hlt2
  have hC2 : (C ++ [n]).Pairwise (fun a b => za9 (names a.path) (names b.path) = true) := by
   rw [List.pairwise_append]
   exact ⟨hC, List.pairwise_singleton _ _, fun a ha b hb => by simp at hb; subst hb; exact hall a ha⟩
  have hrest : goS L (some n.path) r = goI (C ++ [n]) n.path r := by
   refine ih (C ++ [n]) (some n.path) n.path (by rw [hL]; simp) (.inr ⟨rfl, hr⟩) hC2 ?_
   intro a ha
   rcases List.mem_append.1 ha with ha | ha
   ·exact .inr (hall a ha)
   ·simp at ha; subst ha; exact .inl rfl
  by_cases hp : (zc3 n.path).size = 0
  ·have e1 : dirS L (zc3 n.path) = true := by simp [dirS, hp]
   have e2 : parI C n.path = true := by simp [parI, hp]
   rw [e1, e2, hrest]
  cases hpar : parI C n.path
  ·have e1 : (dirS L (zc3 n.path) && goS L (some n.path) r) = false := by
    rw [Bool.eq_false_iff]
    intro h
    simp only [Bool.and_eq_true] at h
    have hd := h.1
    simp only [dirS, hp, decide_false, Bool.false_or] at hd
    rw [hL, find_app] at hd
    have hCn : C.find? (fun m => decide (m.path = zc3 n.path)) = none ∨ ∃ m, C.find? (fun m => decide (m.path = zc3 n.path)) = some m := by
     cases C.find? (fun m => decide (m.path = zc3 n.path)) with
     | none => exact .inl rfl
     | some m => exact .inr ⟨m, rfl⟩
    rcases hCn with hCn | ⟨m, hm⟩
    ·rw [hCn] at hd
     cases hf : (n :: r).find? (fun m => decide (m.path = zc3 n.path)) with
     | none => rw [hf] at hd; simp at hd
     | some m =>
      have hm1 := List.mem_of_find?_eq_some hf
      have hm2 : m.path = zc3 n.path := by simpa using List.find?_some hf
      have hless : za9 (names m.path) (names n.path) = true := by
       rw [hm2, parent_names hr]; exact less_drop _ (names_ne h0)
      rcases List.mem_cons.1 hm1 with rfl | hm1
      ·rw [zv4] at hless; cases hless
      ·have h3 := rise L r n.path h.2 m hm1
       have h4 := zs5 _ _ _ hless h3
       rw [zv4] at h4; cases h4
    ·rw [hm] at hd
     have hm1 := List.mem_of_find?_eq_some hm
     have hm2 : m.path = zc3 n.path := by simpa using List.find?_some hm
     have : parI C n.path = true := by
      simp only [parI, Bool.or_eq_true, List.any_eq_true]
      exact .inr ⟨m, hm1, by simpa [hm2] using hd⟩
     rw [hpar] at this; cases this
   rw [e1]; simp
  ·have e1 : dirS L (zc3 n.path) = true := by
    simp only [parI, hp, decide_false, Bool.false_or, List.any_eq_true, Bool.and_eq_true, decide_eq_true_eq] at hpar
    obtain ⟨m, hm, hm2, hm3⟩ := hpar
    have hfind : C.find? (fun m => decide (m.path = zc3 n.path)) = some m := by
     cases hf : C.find? (fun m => decide (m.path = zc3 n.path)) with
     | none =>
      have := List.find?_eq_none.1 hf m hm
      simp [hm2] at this
     | some x =>
      have hx1 := List.mem_of_find?_eq_some hf
      have hx2 : x.path = zc3 n.path := by simpa using List.find?_some hf
      rw [one_path hC hx1 hm (hx2.trans hm2.symm)]
    simp only [dirS, hp, decide_false, Bool.false_or]
    rw [hL, find_app, hfind]
    simpa using hm3
   rw [e1, hrest]
theorem tree_same (L : List Nd) : goS L none L = goI [] ⟨#[]⟩ L :=
 go_same L L [] none ⟨#[]⟩ rfl (.inl ⟨rfl, rfl, rfl⟩) List.Pairwise.nil (fun a ha => by cases ha)
theorem goI_all : ∀ (r C : List Nd) (last : ByteArray), goI C last r = true → ∀ n ∈ r, zc1 n = true := by
 intro r
 induction r with
 | nil => intro C last _ n hn; cases hn
 | cons m r ih =>
  intro C last h n hn
  simp only [goI, Bool.and_eq_true] at h
  rcases List.mem_cons.1 hn with rfl | hn
  ·exact h.1.1.1
  ·exact ih _ _ h.2 n hn
end Pl
end Go.Proofs.YtioildojmckepaaGreatDoor

namespace Go.Proofs.YtioildojmckepaaGreatDoor
open Go.RowKit
theorem hide {p : Prop} (h : p) : Hid p := h
theorem za {p : Prop} (h : Hid p) : p := h
theorem za2 {a b : Bool} (h : a = b) : Ending.returned (.bool a) = .returned (.bool b) := by rw [h]
theorem zd3 {a b : ByteArray} (h : a = b) : Ending.returned (.string a) = .returned (.string b) := by rw [h]
theorem zt9 {k : IntKind} {a b : Int} (h : a = b) : Ending.returned (.int k a) = .returned (.int k b) := by rw [h]
/- Short names for what the walks' simp calls name over and over. -/
theorem kA0 {α : Type _} {xs : List α} {i : Nat} : xs.toArray[i]? = xs[i]? := List.getElem?_toArray
theorem kA1 {α : Type _} {a : α} {l : List α} : (a :: l)[0]? = some a := List.getElem?_cons_zero
theorem kA2 {α : Type _} {a : α} {l : List α} {i : Nat} : (a :: l)[i + 1]? = l[i]? := List.getElem?_cons_succ
theorem kB0 {α : Type _} {xs : List α} {i : Nat} (h : i < xs.toArray.size) : xs.toArray[i] = xs[i]'(by simpa using h) := List.getElem_toArray h
theorem kB1 {α : Type _} {a : α} {as' : List α} (h : 0 < (a :: as').length) : (a :: as')[0] = a := List.getElem_cons_zero a as' h
theorem kB2 {α : Type _} {a : α} {as' : List α} {i : Nat} (h : i + 1 < (a :: as').length) : (a :: as')[i + 1] = as'[i]'(by simpa using h) := List.getElem_cons_succ a as' i h
theorem kB3 {α : Type _} (l : List α) (i : Nat) (a : α) : l.toArray.setIfInBounds i a = (l.set i a).toArray := List.setIfInBounds_toArray l i a
theorem kB4 {α : Type _} {x : α} {xs : List α} {a : α} : (x :: xs).set 0 a = a :: xs := List.set_cons_zero
theorem kB5 {α : Type _} {x : α} {xs : List α} {n : Nat} {a : α} : (x :: xs).set (n + 1) a = x :: xs.set n a := List.set_cons_succ
end Go.Proofs.YtioildojmckepaaGreatDoor

namespace Go.Proofs.YtioildojmckepaaGreatDoor
namespace Pl
def restP (p : ByteArray) : List Nd → List Nd
 | [] => []
 | m :: R => if m.path = p then R else m :: R
def zi3 (n m : Nd) : Bool := za9 (names m.path) (names n.path)
def putL (L : List Nd) (n : Nd) : List Nd := L.takeWhile (zi3 n) ++ n :: restP n.path (L.dropWhile (zi3 n))
theorem put_at (L : List Nd) (n : Nd) (k : Nat) (hk : k ≤ L.length) (h1 : ∀ (j : Nat) m, j < k → L[j]? = some m → zi3 n m = true) (h2 : ∀ m, L[k]? = some m → zi3 n m = false) : putL L n = L.take k ++ n :: restP n.path (L.drop k) := by
 have h : L.takeWhile (zi3 n) = L.take k ∧ L.dropWhile (zi3 n) = L.drop k := by
  induction L generalizing k with
  | nil => simp
  | cons m L ih =>
   match k with
   | 0 =>
    have := h2 m rfl
    rw [List.takeWhile_cons, List.dropWhile_cons, this]; simp
   | k + 1 =>
    have := h1 0 m (by omega) rfl
    rw [List.takeWhile_cons, List.dropWhile_cons, this]
    have i := ih k (by simpa using hk) (fun j x hj hx => h1 (j + 1) x (by omega) (by simpa using hx)) (fun x hx => h2 x (by simpa using hx))
    simp only [if_true, List.take_succ_cons, List.drop_succ_cons]
    exact ⟨by rw [i.1], i.2⟩
 rw [putL, h.1, h.2]
theorem rest_drop (L : List Nd) (p : ByteArray) (k : Nat) : restP p (L.drop k) = L.drop (if (∃ m, L[k]? = some m ∧ m.path = p) then k + 1 else k) := by
 by_cases hk : k < L.length
 ·rw [List.drop_eq_getElem_cons hk, restP]
  have e : L[k]? = some L[k] := List.getElem?_eq_getElem hk
  by_cases h : L[k].path = p
  ·rw [if_pos h, if_pos ⟨_, e, h⟩]
  ·rw [if_neg h, if_neg (fun ⟨m, hm, hp⟩ => by rw [e] at hm; cases hm; exact h hp), List.drop_eq_getElem_cons hk]
 ·rw [if_neg (fun ⟨m, hm, _⟩ => by have := (List.getElem?_eq_some_iff.1 hm).1; omega)]
  rw [List.drop_eq_nil_of_le (by omega)]; rfl
theorem put_len (L : List Nd) (n : Nd) : (putL L n).length ≤ L.length + 1 := by
 have h1 := congrArg List.length (List.takeWhile_append_dropWhile (p := zi3 n) (l := L))
 rw [List.length_append] at h1
 have h2 : (restP n.path (L.dropWhile (zi3 n))).length ≤ (L.dropWhile (zi3 n)).length := by
  cases L.dropWhile (zi3 n) with
  | nil => exact Nat.le_refl _
  | cons m R => rw [restP]; split <;> simp
 rw [putL, List.length_append, List.length_cons]
 omega
end Pl
end Go.Proofs.YtioildojmckepaaGreatDoor

namespace Go.Proofs.YtioildojmckepaaGreatDoor
open Go.RowKit
namespace Pl
def offL (p : ByteArray) (L : List Nd) : List Nd := L.filter (fun n => !under n.path p)
theorem offN_in {L : List Nd} {p : ByteArray} {k : Nat} {n : Nd} (hn : L[k]? = some n) (h : under n.path p = false) : offL p (L.take (k + 1)) = offL p (L.take k) ++ [n] := by
 have h1 := List.getElem?_eq_some_iff.1 hn
 rw [List.take_succ_eq_append_getElem h1.1, h1.2]
 simp [offL, h]
theorem offN_out {L : List Nd} {p : ByteArray} {k : Nat} {n : Nd} (hn : L[k]? = some n) (h : under n.path p = true) : offL p (L.take (k + 1)) = offL p (L.take k) := by
 have h1 := List.getElem?_eq_some_iff.1 hn
 rw [List.take_succ_eq_append_getElem h1.1, h1.2]
 simp [offL, h]
theorem offN_len (L : List Nd) (p : ByteArray) (k : Nat) : (offL p (L.take k)).length ≤ k := by
 have h1 : (offL p (L.take k)).length ≤ (L.take k).length := by simpa [offL] using List.length_filter_le _ (L.take k)
 have h2 : (L.take k).length ≤ k := by simp; omega
 omega
end Pl
end Go.Proofs.YtioildojmckepaaGreatDoor

namespace Go.Proofs.YtioildojmckepaaGreatDoor
open Go.RowKit
namespace Pl
theorem off_len (p : ByteArray) (L : List Nd) : (offL p L).length ≤ L.length := List.length_filter_le _ _
def cutO (p : ByteArray) (L : List Nd) (c : Int) : List Nd := if c = 0 then offL p L else []
theorem cutO_len (p : ByteArray) (L : List Nd) (c : Int) : (cutO p L c).length ≤ L.length := by
 unfold cutO
 split
 ·exact off_len p L
 ·exact Nat.zero_le _
end Pl
end Go.Proofs.YtioildojmckepaaGreatDoor

namespace Go.Proofs.YtioildojmckepaaGreatDoor
open Go.RowKit
namespace Pl
def getV (L : List Nd) (p : ByteArray) : Value :=
 if 8000 < p.size then .agg #[.string ⟨#[]⟩, .int .i64 0, .string ⟨#[]⟩, .int .i64 0, .int .i64 0, .int .i64 2] else if zb1 L = false ∨ p.size = 0 ∨ zb2 p = false then .agg #[.string ⟨#[]⟩, .int .i64 0, .string ⟨#[]⟩, .int .i64 0, .int .i64 0, .int .i64 1] else
  match L.find? (fun m => decide (m.path = p)) with | none => .agg #[.string ⟨#[]⟩, .int .i64 0, .string ⟨#[]⟩, .int .i64 0, .int .i64 0, .int .i64 6] | some m => .agg #[.string m.path, .int .i64 m.kind, .string m.data, .int .i64 m.time, .int .i64 m.mark, .int .i64 0]
theorem get_long {L : List Nd} {p : ByteArray} (h : 8000 < p.size) : getV L p = .agg #[.string ⟨#[]⟩, .int .i64 0, .string ⟨#[]⟩, .int .i64 0, .int .i64 0, .int .i64 2] := by rw [getV, if_pos h]
theorem get_form {L : List Nd} {p : ByteArray} (h : ¬ 8000 < p.size) (h2 : zb1 L = false ∨ p.size = 0 ∨ zb2 p = false) : getV L p = .agg #[.string ⟨#[]⟩, .int .i64 0, .string ⟨#[]⟩, .int .i64 0, .int .i64 0, .int .i64 1] := by rw [getV, if_neg h, if_pos h2]
theorem get_none {L : List Nd} {p : ByteArray} (h : ¬ 8000 < p.size) (h2 : ¬ (zb1 L = false ∨ p.size = 0 ∨ zb2 p = false)) (hf : L.find? (fun m => decide (m.path = p)) = none) : getV L p = .agg #[.string ⟨#[]⟩, .int .i64 0, .string ⟨#[]⟩, .int .i64 0, .int .i64 0, .int .i64 6] := by rw [getV, if_neg h, if_neg h2, hf]
theorem get_some {L : List Nd} {p : ByteArray} {m : Nd} (h : ¬ 8000 < p.size) (h2 : ¬ (zb1 L = false ∨ p.size = 0 ∨ zb2 p = false)) (hf : L.find? (fun m => decide (m.path = p)) = some m) : getV L p = .agg #[.string m.path, .int .i64 m.kind, .string m.data, .int .i64 m.time, .int .i64 m.mark, .int .i64 0] := by rw [getV, if_neg h, if_neg h2, hf]
theorem get_shape (L : List Nd) (p : ByteArray) : ∃ (n : Nd) (c : Int), getV L p = .agg #[.string n.path, .int .i64 n.kind, .string n.data, .int .i64 n.time, .int .i64 n.mark, .int .i64 c] := by
 unfold getV
 split
 ·exact ⟨⟨⟨#[]⟩, 0, ⟨#[]⟩, 0, 0⟩, _, rfl⟩
 split
 ·exact ⟨⟨⟨#[]⟩, 0, ⟨#[]⟩, 0, 0⟩, _, rfl⟩
 split
 ·exact ⟨⟨⟨#[]⟩, 0, ⟨#[]⟩, 0, 0⟩, _, rfl⟩
 ·exact ⟨_, _, rfl⟩
end Pl
end Go.Proofs.YtioildojmckepaaGreatDoor

namespace Go.Proofs.YtioildojmckepaaGreatDoor
namespace Pl
theorem put_mem {L : List Nd} {n m : Nd} (h : m ∈ putL L n) : m = n ∨ m ∈ L := by
 rw [putL, List.mem_append, List.mem_cons] at h
 rcases h with h | h | h
 ·exact .inr ((List.takeWhile_sublist _).mem h)
 ·exact .inl h
 ·right
  have h2 : m ∈ L.dropWhile (zi3 n) := by
   generalize L.dropWhile (zi3 n) = D at h ⊢
   cases D with
   | nil => simp [restP] at h
   | cons x D =>
    simp only [restP] at h
    split at h
    ·exact List.mem_cons_of_mem _ h
    ·exact h
  exact (List.dropWhile_sublist _).mem h2
end Pl
end Go.Proofs.YtioildojmckepaaGreatDoor

