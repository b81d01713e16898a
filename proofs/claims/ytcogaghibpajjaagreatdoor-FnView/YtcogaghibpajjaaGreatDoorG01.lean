/- Several texts of one claim in one file: PlainTree, Kit, PlainPut, PlainOff, PlainCut, PlainGetV, PlainPutM, PlainNest, PlainItem. -/
import Derived.Test.YtcogaghibpajjaaGreatDoorG00
import Derived.Below
import Derived.Test.YtcogaghibpajjaaGreatDoorProg
import Derived.WalkSpells
import Derived.Deep.RegionHeld3
import Derived.Lib.OthersKept
import Derived.Laws.RangeAny
import Derived.Deep.Draws
import Derived.Deep.QuietTactic
import Derived.BigQuiet
import Derived.WalkKit
import Derived.Laws.IdiomStrings
namespace Go.Proofs.YtcogaghibpajjaaGreatDoor
namespace Pl
theorem bytes_trans : ∀ a b c : List UInt8, Op.bytesLess a b = true → Op.bytesLess b c = true → Op.bytesLess a c = true := by
 intro a
 induction a with
 | nil =>
  intro b c h1 h2
  cases c with
  | nil => cases b <;> simp [Op.bytesLess] at h2
  | cons z c => rfl
 | cons x a ih =>
  intro b c h1 h2
  cases b with
  | nil => simp [Op.bytesLess] at h1
  | cons y b =>
   cases c with
   | nil => simp [Op.bytesLess] at h2
   | cons z c =>
    simp only [Op.bytesLess, Bool.or_eq_true, decide_eq_true_eq, Bool.and_eq_true, beq_iff_eq] at h1 h2 ⊢
    rcases h1 with h1 | ⟨rfl, h1⟩
    ·rcases h2 with h2 | ⟨rfl, h2⟩
     ·left; rw [UInt8.lt_iff_toNat_lt] at h1 h2 ⊢; omega
     ·left; exact h1
    ·rcases h2 with h2 | ⟨rfl, h2⟩
     ·left; exact h2
     ·right; exact ⟨rfl, ih b c h1 h2⟩
theorem bytes_irr : ∀ a : List UInt8, Op.bytesLess a a = false := by
 intro a
 induction a with
 | nil => rfl
 | cons x a ih => simp [Op.bytesLess, ih]
theorem zj5 : ∀ A B C : List ByteArray, za6 A B = true → za6 B C = true → za6 A C = true := by
 intro A
 induction A with
 | nil =>
  intro B C h1 h2
  cases C with
  | nil => cases B <;> simp [za6] at h2
  | cons c C => rfl
 | cons a A ih =>
  intro B C h1 h2
  cases B with
  | nil => simp [za6] at h1
  | cons b B =>
   cases C with
   | nil => simp [za6] at h2
   | cons c C =>
    rw [za6] at h1 h2 ⊢
    by_cases hab : a = b
    ·subst hab
     rw [if_pos rfl] at h1
     by_cases hac : a = c
     ·subst hac
      rw [if_pos rfl] at h2 ⊢
      exact ih B C h1 h2
     ·rw [if_neg hac] at h2 ⊢; exact h2
    ·rw [if_neg hab] at h1
     by_cases hbc : b = c
     ·subst hbc
      rw [if_neg hab]; exact h1
     ·rw [if_neg hbc] at h2
      have h3 := bytes_trans _ _ _ h1 h2
      by_cases hac : a = c
      ·subst hac; rw [bytes_irr] at h3; cases h3
      ·rw [if_neg hac]; exact h3
theorem zg3 : ∀ A : List ByteArray, za6 A A = false := by
 intro A
 induction A with
 | nil => rfl
 | cons a A ih => rw [za6, if_pos rfl, ih]
theorem less_drop : ∀ A : List ByteArray, A ≠ [] → za6 A.dropLast A = true := by
 intro A h
 have h1 : A.dropLast ++ [A.getLast h] = A := List.dropLast_concat_getLast h
 have h2 : ∀ (B : List ByteArray) (x : ByteArray), za6 B (B ++ [x]) = true := by
  intro B x
  induction B with
  | nil => rfl
  | cons b B ih => rw [List.cons_append, za6, if_pos rfl]; exact ih
 have h3 := h2 A.dropLast (A.getLast h)
 rw [h1] at h3; exact h3
def ltP (a b : ByteArray) : Bool := za3 a && za3 b && za6 (zb6 a) (zb6 b)
def zb9 (p : ByteArray) : ByteArray := glue (zb6 p).dropLast
def parI (C : List Nd) (p : ByteArray) : Bool := decide ((zb9 p).size = 0) || C.any (fun m => decide (m.path = zb9 p) && decide (m.kind = 1))
def goI (C : List Nd) (last : ByteArray) : List Nd → Bool
 | [] => true
 | n :: r => zb n && ltP last n.path && parI C n.path && goI (C ++ [n]) n.path r
def za2 (L : List Nd) : Bool := decide (L.length ≤ 40) && goI [] ⟨#[]⟩ L
def dirS (L : List Nd) (p : ByteArray) : Bool := decide (p.size = 0) || (match L.find? (fun m => decide (m.path = p)) with | some m => decide (m.kind = 1) | none => false)
def prevB (prev : Option ByteArray) (p : ByteArray) : Bool := match prev with | none => true | some q => za6 (names q) (names p)
def goS (L : List Nd) (prev : Option ByteArray) : List Nd → Bool
 | [] => true
 | n :: r => zb n && prevB prev n.path && dirS L (parent n.path) && goS L (some n.path) r
theorem ze3 {n : Nd} (h : zb n = true) : za3 n.path = true ∧ n.path.size ≠ 0 := by
 unfold zb at h
 simp only [Bool.and_eq_true, decide_eq_true_eq] at h
 exact ⟨h.1.1.1.1.2, h.1.1.1.1.1⟩
theorem zh0 {n : Nd} (h : zb n = true) : n.data.size ≤ 60 ∧ (0 ≤ n.time ∧ n.time ≤ 1000000) ∧ (0 ≤ n.mark ∧ n.mark ≤ 8) ∧ zj4 n = true := by
 unfold zb at h
 simp only [Bool.and_eq_true, decide_eq_true_eq] at h
 exact ⟨h.1.1.1.2, h.1.1.2, h.1.2, h.2⟩
theorem zh1 {p : ByteArray} (h : za3 p = true) : p.size ≤ 200 := by
 unfold za3 at h
 simp only [Bool.and_eq_true, decide_eq_true_eq] at h
 exact h.1.1
theorem yb4 {p : ByteArray} (h : p.size ≠ 0) : names p ≠ [] := by
 intro e
 have := zi8 p
 rw [e] at this
 simp only [List.map_nil, zk5] at this
 split at this
 ·next h1 => rw [zi2] at h1; exact h h1
 ·exact ya0 _ this.symm
theorem yd8 {p : ByteArray} (h : za3 p = true) : parent p = zb9 p := by rw [yf2, zb9, ze4 h]
theorem yc9 {p : ByteArray} (h : za3 p = true) : names (zb9 p) = (names p).dropLast := by
 rw [zb9, ze4 h]
 exact ya6 (fun t ht => (pathB_all h).1 t (List.dropLast_subset _ ht))
theorem zg4 {a b : ByteArray} (ha : za3 a = true) (hb : za3 b = true) : ltP a b = za6 (names a) (names b) := by rw [ltP, ha, hb, ze4 ha, ze4 hb]; rfl
theorem path_eq {a b : ByteArray} (h : names a = names b) : a = b := by rw [← zl7 a, ← zl7 b, h]
theorem rise (L : List Nd) : ∀ (r : List Nd) (q : ByteArray), goS L (some q) r = true → ∀ m ∈ r, za6 (names q) (names m.path) = true := by
 intro r
 induction r with
 | nil => intro q _ m hm; cases hm
 | cons n r ih =>
  intro q h m hm
  simp only [goS, Bool.and_eq_true] at h
  rcases List.mem_cons.1 hm with rfl | hm
  ·exact h.1.1.2
  ·exact zj5 _ _ _ h.1.1.2 (ih n.path h.2 m hm)
theorem find_app {α : Type} {f : α → Bool} (A B : List α) : (A ++ B).find? f = match A.find? f with | some x => some x | none => B.find? f := by
 rw [List.find?_append]; cases A.find? f <;> rfl
theorem one_path {C : List Nd} (h : C.Pairwise (fun a b => za6 (names a.path) (names b.path) = true)) {a b : Nd} (ha : a ∈ C) (hb : b ∈ C) (e : a.path = b.path) : a = b := by
 induction h with
 | nil => cases ha
 | cons hx _ ih =>
  rcases List.mem_cons.1 ha with e1 | h1
  ·rcases List.mem_cons.1 hb with e2 | h2
   ·rw [e1, e2]
   ·have h3 := hx _ h2; rw [← e1, e, zg3] at h3; cases h3
  ·rcases List.mem_cons.1 hb with e2 | h2
   ·have h3 := hx _ h1; rw [← e2, e, zg3] at h3; cases h3
   ·exact ih h1 h2
theorem go_same (L : List Nd) : ∀ (r C : List Nd) (prev : Option ByteArray) (last : ByteArray), L = C ++ r → (prev = none ∧ C = [] ∧ last = ⟨#[]⟩ ∨ prev = some last ∧ za3 last = true) →
  C.Pairwise (fun a b => za6 (names a.path) (names b.path) = true) → (∀ a ∈ C, a.path = last ∨ za6 (names a.path) (names last) = true) → goS L prev r = goI C last r := by
 intro r
 induction r with
 | nil => intros; rfl
 | cons n r ih =>
  intro C prev last hL hprev hC hlast
  simp only [goS, goI]
  cases hn : zb n
  ·simp
  obtain ⟨hr, h0⟩ := ze3 hn
  have hlt : prevB prev n.path = ltP last n.path := by
   rcases hprev with ⟨rfl, rfl, rfl⟩ | ⟨rfl, hl⟩
   ·have e1 : za3 (⟨#[]⟩ : ByteArray) = true := (zf9 rfl).1
    have e2 : names (⟨#[]⟩ : ByteArray) = [] := (zf9 rfl).2
    rw [zg4 e1 hr, e2]
    cases hx : names n.path with
    | nil => exact absurd hx (yb4 h0)
    | cons a l => rfl
   ·rw [zg4 hl hr]; rfl
  rw [hlt]
  cases hlt2 : ltP last n.path
  ·simp
  simp only [Bool.true_and, yd8 hr]
  have hall : ∀ a ∈ C, za6 (names a.path) (names n.path) = true := by
   intro a ha
   rcases hprev with ⟨_, rfl, _⟩ | ⟨_, hl⟩
   ·cases ha
   ·rw [zg4 hl hr] at hlt2
    rcases hlast a ha with e | e
    ·rw [e]; exact hlt2
    ·exact zj5 _ _ _ e hlt2
  have hC2 : (C ++ [n]).Pairwise (fun a b => za6 (names a.path) (names b.path) = true) := by
   rw [List.pairwise_append]
   exact ⟨hC, List.pairwise_singleton _ _, fun a ha b hb => by simp at hb; subst hb; exact hall a ha⟩
  have hrest : goS L (some n.path) r = goI (C ++ [n]) n.path r := by
   refine ih (C ++ [n]) (some n.path) n.path (by rw [hL]; simp) (.inr ⟨rfl, hr⟩) hC2 ?_
   intro a ha
   rcases List.mem_append.1 ha with ha | ha
   ·exact .inr (hall a ha)
   ·simp at ha; subst ha; exact .inl rfl
  by_cases hp : (zb9 n.path).size = 0
  ·have e1 : dirS L (zb9 n.path) = true := by simp [dirS, hp]
   have e2 : parI C n.path = true := by simp [parI, hp]
   rw [e1, e2, hrest]
  cases hpar : parI C n.path
  ·have e1 : (dirS L (zb9 n.path) && goS L (some n.path) r) = false := by
    rw [Bool.eq_false_iff]
    intro h
    simp only [Bool.and_eq_true] at h
    have hd := h.1
    simp only [dirS, hp, decide_false, Bool.false_or] at hd
    rw [hL, find_app] at hd
    have hCn : C.find? (fun m => decide (m.path = zb9 n.path)) = none ∨ ∃ m, C.find? (fun m => decide (m.path = zb9 n.path)) = some m := by
     cases C.find? (fun m => decide (m.path = zb9 n.path)) with
     | none => exact .inl rfl
     | some m => exact .inr ⟨m, rfl⟩
    rcases hCn with hCn | ⟨m, hm⟩
    ·rw [hCn] at hd
     cases hf : (n :: r).find? (fun m => decide (m.path = zb9 n.path)) with
     | none => rw [hf] at hd; simp at hd
     | some m =>
      have hm1 := List.mem_of_find?_eq_some hf
      have hm2 : m.path = zb9 n.path := by simpa using List.find?_some hf
      have hless : za6 (names m.path) (names n.path) = true := by
       rw [hm2, yc9 hr]; exact less_drop _ (yb4 h0)
      rcases List.mem_cons.1 hm1 with rfl | hm1
      ·rw [zg3] at hless; cases hless
      ·have h3 := rise L r n.path h.2 m hm1
       have h4 := zj5 _ _ _ hless h3
       rw [zg3] at h4; cases h4
    ·rw [hm] at hd
     have hm1 := List.mem_of_find?_eq_some hm
     have hm2 : m.path = zb9 n.path := by simpa using List.find?_some hm
     have : parI C n.path = true := by
      simp only [parI, Bool.or_eq_true, List.any_eq_true]
      exact .inr ⟨m, hm1, by simpa [hm2] using hd⟩
     rw [hpar] at this; cases this
   rw [e1]; simp
  ·have e1 : dirS L (zb9 n.path) = true := by
    simp only [parI, hp, decide_false, Bool.false_or, List.any_eq_true, Bool.and_eq_true, decide_eq_true_eq] at hpar
    obtain ⟨m, hm, hm2, hm3⟩ := hpar
    have hfind : C.find? (fun m => decide (m.path = zb9 n.path)) = some m := by
     cases hf : C.find? (fun m => decide (m.path = zb9 n.path)) with
     | none =>
      have := List.find?_eq_none.1 hf m hm
      simp [hm2] at this
     | some x =>
      have hx1 := List.mem_of_find?_eq_some hf
      have hx2 : x.path = zb9 n.path := by simpa using List.find?_some hf
      rw [one_path hC hx1 hm (hx2.trans hm2.symm)]
    simp only [dirS, hp, decide_false, Bool.false_or]
    rw [hL, find_app, hfind]
    simpa using hm3
   rw [e1, hrest]
theorem tree_same (L : List Nd) : goS L none L = goI [] ⟨#[]⟩ L :=
 go_same L L [] none ⟨#[]⟩ rfl (.inl ⟨rfl, rfl, rfl⟩) List.Pairwise.nil (fun a ha => by cases ha)
theorem zo8 : ∀ (r C : List Nd) (last : ByteArray), goI C last r = true → ∀ n ∈ r, zb n = true := by
 intro r
 induction r with
 | nil => intro C last _ n hn; cases hn
 | cons m r ih =>
  intro C last h n hn
  simp only [goI, Bool.and_eq_true] at h
  rcases List.mem_cons.1 hn with rfl | hn
  ·exact h.1.1.1
  ·exact ih _ _ h.2 n hn
theorem goI_rise : ∀ (r C : List Nd) (last : ByteArray), goI C last r = true → za3 last = true → r.Pairwise (fun a b => za6 (names a.path) (names b.path) = true) ∧ ∀ n ∈ r, za6 (names last) (names n.path) = true := by
 intro r
 induction r with
 | nil => intro C last _ _; exact ⟨List.Pairwise.nil, fun n hn => by cases hn⟩
 | cons m r ih =>
  intro C last h hl
  simp only [goI, Bool.and_eq_true] at h
  obtain ⟨hr, h0⟩ := ze3 h.1.1.1
  obtain ⟨i1, i2⟩ := ih _ _ h.2 hr
  have h1 := h.1.1.2
  rw [zg4 hl hr] at h1
  refine ⟨List.Pairwise.cons (fun n hn => i2 n hn) i1, fun n hn => ?_⟩
  rcases List.mem_cons.1 hn with rfl | hn
  ·exact h1
  ·exact zj5 _ _ _ h1 (i2 n hn)
end Pl
end Go.Proofs.YtcogaghibpajjaaGreatDoor

namespace Go.Proofs.YtcogaghibpajjaaGreatDoor
open Go.RowKit
theorem hide {p : Prop} (h : p) : Hid p := h
theorem za {p : Prop} (h : Hid p) : p := h
theorem za1 {a b : Bool} (h : a = b) : Ending.returned (.bool a) = .returned (.bool b) := by rw [h]
theorem zv6 {a b : ByteArray} (h : a = b) : Ending.returned (.string a) = .returned (.string b) := by rw [h]
/- Short names for what the walks' simp calls name over and over. -/
theorem kA0 {α : Type _} {xs : List α} {i : Nat} : xs.toArray[i]? = xs[i]? := List.getElem?_toArray
theorem kA1 {α : Type _} {a : α} {l : List α} : (a :: l)[0]? = some a := List.getElem?_cons_zero
theorem kA2 {α : Type _} {a : α} {l : List α} {i : Nat} : (a :: l)[i + 1]? = l[i]? := List.getElem?_cons_succ
theorem kB0 {α : Type _} {xs : List α} {i : Nat} (h : i < xs.toArray.size) : xs.toArray[i] = xs[i]'(by simpa using h) := List.getElem_toArray h
theorem kB1 {α : Type _} {a : α} {as' : List α} (h : 0 < (a :: as').length) : (a :: as')[0] = a := List.getElem_cons_zero a as' h
theorem kB2 {α : Type _} {a : α} {as' : List α} {i : Nat} (h : i + 1 < (a :: as').length) : (a :: as')[i + 1] = as'[i]'(by simpa using h) := List.getElem_cons_succ a as' i h
theorem kB3 {α : Type _} (l : List α) (i : Nat) (a : α) : l.toArray.setIfInBounds i a = (l.set i a).toArray := List.setIfInBounds_toArray l i a
theorem kB4 {α : Type _} {x : α} {xs : List α} {a : α} : (x :: xs).set 0 a = a :: xs := List.set_cons_zero
theorem kB5 {α : Type _} {x : α} {xs : List α} {n : Nat} {a : α} : (x :: xs).set (n + 1) a = x :: xs.set n a := List.set_cons_succ
end Go.Proofs.YtcogaghibpajjaaGreatDoor

namespace Go.Proofs.YtcogaghibpajjaaGreatDoor
namespace Pl
def restP (p : ByteArray) : List Nd → List Nd
 | [] => []
 | m :: R => if m.path = p then R else m :: R
def zj0 (n m : Nd) : Bool := za6 (names m.path) (names n.path)
def putL (L : List Nd) (n : Nd) : List Nd := L.takeWhile (zj0 n) ++ n :: restP n.path (L.dropWhile (zj0 n))
theorem put_at (L : List Nd) (n : Nd) (k : Nat) (hk : k ≤ L.length) (h1 : ∀ (j : Nat) m, j < k → L[j]? = some m → zj0 n m = true) (h2 : ∀ m, L[k]? = some m → zj0 n m = false) : putL L n = L.take k ++ n :: restP n.path (L.drop k) := by
 have h : L.takeWhile (zj0 n) = L.take k ∧ L.dropWhile (zj0 n) = L.drop k := by
  induction L generalizing k with
  | nil => simp
  | cons m L ih =>
   match k with
   | 0 =>
    have := h2 m rfl
    rw [List.takeWhile_cons, List.dropWhile_cons, this]; simp
   | k + 1 =>
    have := h1 0 m (by omega) rfl
    rw [List.takeWhile_cons, List.dropWhile_cons, this]
    have i := ih k (by simpa using hk) (fun j x hj hx => h1 (j + 1) x (by omega) (by simpa using hx)) (fun x hx => h2 x (by simpa using hx))
    simp only [if_true, List.take_succ_cons, List.drop_succ_cons]
    exact ⟨by rw [i.1], i.2⟩
 rw [putL, h.1, h.2]
theorem rest_drop (L : List Nd) (p : ByteArray) (k : Nat) : restP p (L.drop k) = L.drop (if (∃ m, L[k]? = some m ∧ m.path = p) then k + 1 else k) := by
 by_cases hk : k < L.length
 ·rw [List.drop_eq_getElem_cons hk, restP]
  have e : L[k]? = some L[k] := List.getElem?_eq_getElem hk
  by_cases h : L[k].path = p
  ·rw [if_pos h, if_pos ⟨_, e, h⟩]
  ·rw [if_neg h, if_neg (fun ⟨m, hm, hp⟩ => by rw [e] at hm; cases hm; exact h hp), List.drop_eq_getElem_cons hk]
 ·rw [if_neg (fun ⟨m, hm, _⟩ => by have := (List.getElem?_eq_some_iff.1 hm).1; omega)]
  rw [List.drop_eq_nil_of_le (by omega)]; rfl
theorem put_len (L : List Nd) (n : Nd) : (putL L n).length ≤ L.length + 1 := by
 have h1 := congrArg List.length (List.takeWhile_append_dropWhile (p := zj0 n) (l := L))
 rw [List.length_append] at h1
 have h2 : (restP n.path (L.dropWhile (zj0 n))).length ≤ (L.dropWhile (zj0 n)).length := by
  cases L.dropWhile (zj0 n) with
  | nil => exact Nat.le_refl _
  | cons m R => rw [restP]; split <;> simp
 rw [putL, List.length_append, List.length_cons]
 omega
end Pl
end Go.Proofs.YtcogaghibpajjaaGreatDoor

namespace Go.Proofs.YtcogaghibpajjaaGreatDoor
open Go.RowKit
namespace Pl
def offL (p : ByteArray) (L : List Nd) : List Nd := L.filter (fun n => !under n.path p)
theorem offN_in {L : List Nd} {p : ByteArray} {k : Nat} {n : Nd} (hn : L[k]? = some n) (h : under n.path p = false) : offL p (L.take (k + 1)) = offL p (L.take k) ++ [n] := by
 have h1 := List.getElem?_eq_some_iff.1 hn
 rw [List.take_succ_eq_append_getElem h1.1, h1.2]
 simp [offL, h]
theorem offN_out {L : List Nd} {p : ByteArray} {k : Nat} {n : Nd} (hn : L[k]? = some n) (h : under n.path p = true) : offL p (L.take (k + 1)) = offL p (L.take k) := by
 have h1 := List.getElem?_eq_some_iff.1 hn
 rw [List.take_succ_eq_append_getElem h1.1, h1.2]
 simp [offL, h]
theorem offN_len (L : List Nd) (p : ByteArray) (k : Nat) : (offL p (L.take k)).length ≤ k := by
 have h1 : (offL p (L.take k)).length ≤ (L.take k).length := by simpa [offL] using List.length_filter_le _ (L.take k)
 have h2 : (L.take k).length ≤ k := by simp; omega
 omega
end Pl
end Go.Proofs.YtcogaghibpajjaaGreatDoor

namespace Go.Proofs.YtcogaghibpajjaaGreatDoor
open Go.RowKit
namespace Pl
theorem off_len (p : ByteArray) (L : List Nd) : (offL p L).length ≤ L.length := List.length_filter_le _ _
def cutO (p : ByteArray) (L : List Nd) (c : Int) : List Nd := if c = 0 then offL p L else []
theorem cutO_len (p : ByteArray) (L : List Nd) (c : Int) : (cutO p L c).length ≤ L.length := by
 unfold cutO
 split
 ·exact off_len p L
 ·exact Nat.zero_le _
end Pl
end Go.Proofs.YtcogaghibpajjaaGreatDoor

namespace Go.Proofs.YtcogaghibpajjaaGreatDoor
open Go.RowKit
namespace Pl
def getV (L : List Nd) (p : ByteArray) : Value :=
 if 8000 < p.size then .agg #[.string ⟨#[]⟩, .int .i64 0, .string ⟨#[]⟩, .int .i64 0, .int .i64 0, .int .i64 2] else if za2 L = false ∨ p.size = 0 ∨ za3 p = false then .agg #[.string ⟨#[]⟩, .int .i64 0, .string ⟨#[]⟩, .int .i64 0, .int .i64 0, .int .i64 1] else
  match L.find? (fun m => decide (m.path = p)) with | none => .agg #[.string ⟨#[]⟩, .int .i64 0, .string ⟨#[]⟩, .int .i64 0, .int .i64 0, .int .i64 6] | some m => .agg #[.string m.path, .int .i64 m.kind, .string m.data, .int .i64 m.time, .int .i64 m.mark, .int .i64 0]
theorem get_long {L : List Nd} {p : ByteArray} (h : 8000 < p.size) : getV L p = .agg #[.string ⟨#[]⟩, .int .i64 0, .string ⟨#[]⟩, .int .i64 0, .int .i64 0, .int .i64 2] := by rw [getV, if_pos h]
theorem get_form {L : List Nd} {p : ByteArray} (h : ¬ 8000 < p.size) (h2 : za2 L = false ∨ p.size = 0 ∨ za3 p = false) : getV L p = .agg #[.string ⟨#[]⟩, .int .i64 0, .string ⟨#[]⟩, .int .i64 0, .int .i64 0, .int .i64 1] := by rw [getV, if_neg h, if_pos h2]
theorem get_none {L : List Nd} {p : ByteArray} (h : ¬ 8000 < p.size) (h2 : ¬ (za2 L = false ∨ p.size = 0 ∨ za3 p = false)) (hf : L.find? (fun m => decide (m.path = p)) = none) : getV L p = .agg #[.string ⟨#[]⟩, .int .i64 0, .string ⟨#[]⟩, .int .i64 0, .int .i64 0, .int .i64 6] := by rw [getV, if_neg h, if_neg h2, hf]
theorem get_some {L : List Nd} {p : ByteArray} {m : Nd} (h : ¬ 8000 < p.size) (h2 : ¬ (za2 L = false ∨ p.size = 0 ∨ za3 p = false)) (hf : L.find? (fun m => decide (m.path = p)) = some m) : getV L p = .agg #[.string m.path, .int .i64 m.kind, .string m.data, .int .i64 m.time, .int .i64 m.mark, .int .i64 0] := by rw [getV, if_neg h, if_neg h2, hf]
theorem get_shape (L : List Nd) (p : ByteArray) : ∃ (n : Nd) (c : Int), getV L p = .agg #[.string n.path, .int .i64 n.kind, .string n.data, .int .i64 n.time, .int .i64 n.mark, .int .i64 c] := by
 unfold getV
 split
 ·exact ⟨⟨⟨#[]⟩, 0, ⟨#[]⟩, 0, 0⟩, _, rfl⟩
 split
 ·exact ⟨⟨⟨#[]⟩, 0, ⟨#[]⟩, 0, 0⟩, _, rfl⟩
 split
 ·exact ⟨⟨⟨#[]⟩, 0, ⟨#[]⟩, 0, 0⟩, _, rfl⟩
 ·exact ⟨_, _, rfl⟩
theorem zr3 {L : List Nd} (h : za2 L = true) : L.Pairwise (fun a b => a.path ≠ b.path) := by
 have h2 : goI [] ⟨#[]⟩ L = true := by unfold za2 at h; simp at h; exact h.2
 exact (goI_rise L [] ⟨#[]⟩ h2 (zf9 rfl).1).1.imp (fun {a b} hab e => by rw [e, zg3] at hab; cases hab)
end Pl
end Go.Proofs.YtcogaghibpajjaaGreatDoor

namespace Go.Proofs.YtcogaghibpajjaaGreatDoor
namespace Pl
theorem put_mem {L : List Nd} {n m : Nd} (h : m ∈ putL L n) : m = n ∨ m ∈ L := by
 rw [putL, List.mem_append, List.mem_cons] at h
 rcases h with h | h | h
 ·exact .inr ((List.takeWhile_sublist _).mem h)
 ·exact .inl h
 ·right
  have h2 : m ∈ L.dropWhile (zj0 n) := by
   generalize L.dropWhile (zj0 n) = D at h ⊢
   cases D with
   | nil => simp [restP] at h
   | cons x D =>
    simp only [restP] at h
    split at h
    ·exact List.mem_cons_of_mem _ h
    ·exact h
  exact (List.dropWhile_sublist _).mem h2
end Pl
end Go.Proofs.YtcogaghibpajjaaGreatDoor

namespace Go.Proofs.YtcogaghibpajjaaGreatDoor
namespace Pl
inductive Fo where
 | nil : Fo
 | cons (kids more : Fo) : Fo
namespace Fo
def len : Fo → Nat
 | .nil => 0
 | .cons _ m => m.len + 1
def depth : Fo → Nat
 | .nil => 0
 | .cons k m => max (k.depth + 1) m.depth
def app : Fo → Fo → Fo
 | .nil, r => r
 | .cons k m, r => .cons k (m.app r)
theorem app_nil (a : Fo) : a.app .nil = a := by
 induction a with
 | nil => rfl
 | cons k m _ ih => rw [app, ih]
theorem app_assoc (a b c : Fo) : (a.app b).app c = a.app (b.app c) := by
 induction a with
 | nil => rfl
 | cons k m _ ih => rw [app, app, app, ih]
theorem len_app (a b : Fo) : (a.app b).len = a.len + b.len := by
 induction a with
 | nil => simp [app, len]
 | cons k m _ ih => rw [app, len, len, ih]; omega
theorem depth_app (a b : Fo) : (a.app b).depth = max a.depth b.depth := by
 induction a with
 | nil => simp [app, depth]
 | cons k m _ ih => rw [app, depth, depth, ih]; omega
theorem yc7 (k : Fo) : (Fo.cons k .nil).depth = k.depth + 1 := by simp [depth]
end Fo
abbrev Row := List (Option Nat)
def parse : Nat → Nat → Row → Option (Fo × Row)
 | _, 0, L => some (.nil, L)
 | 0, _ + 1, _ => none
 | _ + 1, _ + 1, [] => none
 | _ + 1, _ + 1, none :: _ => none
 | f + 1, k + 1, some m :: L => match parse f m L with
  | none => none
  | some (kids, R) => match parse f k R with
   | none => none
   | some (more, R') => some (.cons kids more, R')
theorem zx6 (f : Nat) : ∀ k L F R, parse f k L = some (F, R) → F.len = k ∧ R.length + k ≤ L.length ∧ ∃ n, R = L.drop n := by
 induction f with
 | zero =>
  intro k L F R h
  cases k with
  | zero => simp [parse] at h; obtain ⟨rfl, rfl⟩ := h; exact ⟨rfl, Nat.le_refl _, 0, rfl⟩
  | succ k => simp [parse] at h
 | succ f ih =>
  intro k L F R h
  cases k with
  | zero => simp [parse] at h; obtain ⟨rfl, rfl⟩ := h; exact ⟨rfl, Nat.le_refl _, 0, rfl⟩
  | succ k =>
   match L, h with
   | [], h => simp [parse] at h
   | none :: L, h => simp [parse] at h
   | some m :: L, h =>
    simp only [parse] at h
    split at h
    ·cases h
    ·rename_i kids R1 h1
     split at h
     ·cases h
     ·rename_i more R2 h2
      cases h
      obtain ⟨a1, a2, n1, a3⟩ := ih _ _ _ _ h1
      obtain ⟨b1, b2, n2, b3⟩ := ih _ _ _ _ h2
      refine ⟨by rw [Fo.len, b1], by simp; omega, n1 + n2 + 1, ?_⟩
      rw [b3, a3, List.drop_drop, List.drop_succ_cons]
theorem parse_fuel (f : Nat) : ∀ g k (L : Row), L.length ≤ f → L.length ≤ g → parse f k L = parse g k L := by
 induction f with
 | zero =>
  intro g k L h1 h2
  have : L = [] := List.eq_nil_of_length_eq_zero (by omega)
  subst this
  cases k <;> cases g <;> simp [parse]
 | succ f ih =>
  intro g k L h1 h2
  cases k with
  | zero => cases g <;> simp [parse]
  | succ k =>
   match L, h1, h2 with
   | [], _, _ => cases g <;> simp [parse]
   | none :: L, _, h2 => cases g <;> simp [parse]
   | some m :: L, h1, h2 =>
    cases g with
    | zero => simp at h2
    | succ g =>
     simp only [List.length_cons] at h1 h2
     simp only [parse]
     rw [ih g m L (by omega) (by omega)]
     split
     ·rfl
     ·rename_i kids R h
      have := (zx6 _ _ _ _ _ h).2.1
      rw [ih g k R (by omega) (by omega)]
def take (k : Nat) (L : Row) : Option (Fo × Row) := parse L.length k L
theorem take_zero (L : Row) : take 0 L = some (.nil, L) := by unfold take; cases L.length <;> rfl
theorem take_some (k m : Nat) (L : Row) : take (k + 1) (some m :: L) = match take m L with
  | none => none
  | some (kids, R) => match take k R with
   | none => none
   | some (more, R') => some (.cons kids more, R') := by
 unfold take
 simp only [List.length_cons, parse]
 split
 ·rfl
 ·rename_i kids R h
  have := (zx6 _ _ _ _ _ h).2.1
  rw [parse_fuel L.length R.length k R (by omega) (Nat.le_refl _)]
theorem takeF_len {k : Nat} {L : Row} {F : Fo} {R : Row} (h : take k L = some (F, R)) : F.len = k ∧ R.length + k ≤ L.length ∧ R = L.drop (L.length - R.length) := by
 obtain ⟨h1, h2, n, h3⟩ := zx6 _ _ _ _ _ h
 refine ⟨h1, h2, ?_⟩
 by_cases hn : n ≤ L.length
 ·have : R.length = L.length - n := by rw [h3, List.length_drop]
  rw [this, Nat.sub_sub_self hn]; exact h3
 ·have e : R = [] := by rw [h3]; exact List.drop_eq_nil_of_le (by omega)
  subst e; simp
theorem zw6 (m : Nat) (L : Row) : take 1 (some m :: L) = (take m L).map (fun x => (.cons x.1 .nil, x.2)) := by
 rw [show (1 : Nat) = 0 + 1 from rfl, take_some]
 cases h : take m L with
 | none => rfl
 | some x => obtain ⟨a, b⟩ := x; simp [take_zero]
theorem yd7 (k : Nat) (L : Row) : take (k + 1) L = match take 1 L with
  | none => none
  | some (F, R) => match take k R with
   | none => none
   | some (more, R') => some (F.app more, R') := by
 match L with
 | [] => rfl
 | none :: L => rfl
 | some m :: L =>
  rw [zw6, take_some]
  cases h : take m L with
  | none => rfl
  | some x => obtain ⟨a, b⟩ := x; rfl
theorem one_shape {L : Row} {F : Fo} {R : Row} (h : take 1 L = some (F, R)) : ∃ kids, F = .cons kids .nil := by
 match L, h with
 | [], h => cases h
 | none :: L, h => cases h
 | some m :: L, h =>
  rw [zw6] at h
  cases h' : take m L with
  | none => rw [h'] at h; simp at h
  | some x => rw [h'] at h; simp at h; exact ⟨x.1, h.1.symm⟩
def ends (k deep : Nat) (L : Row) : Option Row := match take k L with
 | none => none
 | some (F, R) => if deep + F.depth ≤ 5 then some R else none
theorem ends_zero (deep : Nat) (L : Row) (h : deep ≤ 5) : ends 0 deep L = some L := by
 unfold ends
 rw [take_zero]
 simp [Fo.depth, h]
theorem ends_step (k deep : Nat) (L : Row) : ends (k + 1) deep L = (ends 1 deep L).bind (ends k deep) := by
 unfold ends
 rw [yd7]
 cases h : take 1 L with
 | none => rfl
 | some x =>
  obtain ⟨F, R⟩ := x
  simp only
  cases h2 : take k R with
  | none =>
   by_cases h3 : deep + F.depth ≤ 5
   ·simp only [if_pos h3, Option.bind_some, h2]
   ·simp only [if_neg h3, Option.bind_none]
  | some y =>
   obtain ⟨M, R'⟩ := y
   simp only [Fo.depth_app]
   by_cases h3 : deep + F.depth ≤ 5
   ·rw [if_pos h3]
    simp only [Option.bind_some, h2]
    by_cases h4 : deep + M.depth ≤ 5
    ·rw [if_pos h4, if_pos (by omega)]
    ·rw [if_neg h4, if_neg (by omega)]
   ·rw [if_neg h3, if_neg (by omega)]; rfl
theorem ends_one (m deep : Nat) (L : Row) : ends 1 deep (some m :: L) = ends m (deep + 1) L := by
 unfold ends
 rw [zw6]
 cases h1 : take m L with
 | none => rfl
 | some x =>
  obtain ⟨F, R⟩ := x
  simp only [Option.map_some]
  have hd := Fo.yc7 F
  by_cases h2 : deep + 1 + F.depth ≤ 5
  ·rw [if_pos h2, if_pos (by omega)]
  ·rw [if_neg h2, if_neg (by omega)]
theorem ends_none (deep : Nat) (L : Row) : ends 1 deep (none :: L) = none := rfl
theorem ends_nil (deep : Nat) : ends 1 deep [] = none := rfl
theorem ends_deep (deep : Nat) (L : Row) (h : 4 < deep) : ends 1 deep L = none := by
 unfold ends
 cases h1 : take 1 L with
 | none => rfl
 | some x =>
  obtain ⟨F, R⟩ := x
  obtain ⟨kids, rfl⟩ := one_shape h1
  have hd := Fo.yc7 kids
  exact if_neg (by omega)
theorem ends_len {k deep : Nat} {L R : Row} (h : ends k deep L = some R) : R.length + k ≤ L.length ∧ R = L.drop (L.length - R.length) := by
 unfold ends at h
 cases h1 : take k L with
 | none => rw [h1] at h; cases h
 | some x =>
  obtain ⟨F, R'⟩ := x
  rw [h1] at h
  simp only at h
  split at h
  ·cases h; exact (takeF_len h1).2
  ·cases h
def nest (L : Row) : Option Fo := if L.length ≤ 12 then match take 1 L with
 | some (.cons k .nil, []) => if k.depth ≤ 3 then some k else none
 | _ => none else none
theorem yb8 {L : Row} {k : Fo} (h : nest L = some k) : L.length ≤ 12 ∧ take 1 L = some (.cons k .nil, []) ∧ k.depth ≤ 3 := by
 unfold nest at h
 split at h
 ·split at h
  ·split at h
   ·cases h; exact ⟨by assumption, by assumption, by assumption⟩
   ·cases h
  ·cases h
 ·cases h
theorem nest_ends (L : Row) (h : L.length ≤ 12) : (nest L).isSome = true ↔ ends 1 1 L = some [] := by
 unfold nest ends
 rw [if_pos h]
 cases h1 : take 1 L with
 | none => simp
 | some x =>
  obtain ⟨F, R⟩ := x
  obtain ⟨k, rfl⟩ := one_shape h1
  have hd := Fo.yc7 k
  cases R with
  | nil =>
   simp only
   by_cases h2 : k.depth ≤ 3
   ·rw [if_pos h2, if_pos (by omega)]; simp
   ·rw [if_neg h2, if_neg (by omega)]; simp
  | cons a b => simp only; split <;> simp
theorem yd5 (L : Row) (h : ¬ L.length ≤ 12) : nest L = none := by unfold nest; rw [if_neg h]
end Pl
end Go.Proofs.YtcogaghibpajjaaGreatDoor

namespace Go.Proofs.YtcogaghibpajjaaGreatDoor
namespace Pl
def zh5 (m : Int) (L : List Nd) : Bool := decide (0 ≤ m) && decide (m ≤ 4) && (decide (m = 0) || L.isEmpty) && za2 L
def zm9 (x : Int × List Nd) : Option Nat := if zh5 x.1 x.2 = true then some x.1.toNat else none
def rowO (xs : List (Int × List Nd)) : Row := xs.map zm9
theorem treeB_nil : za2 [] = true := by rfl
theorem yg6 (L : List Nd) : zh5 0 L = za2 L := by simp [zh5]
theorem yb6 {m : Int} (h : m ≠ 0) (L : List Nd) : zh5 m L = (decide (1 ≤ m) && decide (m ≤ 4) && decide (L.length = 0)) := by
 unfold zh5
 rw [show decide (m = 0) = false from decide_eq_false h, Bool.false_or]
 have e : decide (0 ≤ m) = decide (1 ≤ m) := decide_eq_decide.2 (by omega)
 rw [e]
 cases L with
 | nil => simp [treeB_nil]
 | cons a L => simp
theorem zy8 {m : Int} {L : List Nd} (h : zh5 m L = true) : 0 ≤ m ∧ m ≤ 4 := by
 simp [zh5] at h
 exact ⟨h.1.1.1, h.1.1.2⟩
theorem itemO_yes {m : Int} {L : List Nd} (h : zh5 m L = true) : zm9 (m, L) = some m.toNat := by simp [zm9, h]
theorem itemO_no {m : Int} {L : List Nd} (h : zh5 m L = false) : zm9 (m, L) = none := by simp [zm9, h]
theorem itemO_some {x : Int × List Nd} {k : Nat} (h : zm9 x = some k) : x.1 = (k : Int) ∧ k ≤ 4 := by
 unfold zm9 at h
 split at h
 ·rename_i hb
  have := zy8 hb
  cases h
  omega
 ·cases h
theorem zp9 (xs : List (Int × List Nd)) : (rowO xs).length = xs.length := by simp [rowO]
theorem rowO_at {xs : List (Int × List Nd)} {i : Nat} {x : Int × List Nd} (h : xs[i]? = some x) : (rowO xs).drop i = zm9 x :: (rowO xs).drop (i + 1) := by
 obtain ⟨h1, h2⟩ := List.getElem?_eq_some_iff.1 h
 rw [List.drop_eq_getElem_cons (by rw [zp9]; exact h1)]
 congr 1
 simp [rowO, h2]
def endI (n : Nat) : Option Row → Int
 | none => -1
 | some R => (n : Int) - (R.length : Int)
theorem ends_at {k deep p n : Nat} {L R : Row} (hn : L.length = n) (hp : p ≤ n) (h : ends k deep (L.drop p) = some R) : ∃ p' : Nat, endI n (some R) = (p' : Int) ∧ p' ≤ n ∧ L.drop p' = R := by
 obtain ⟨h1, h2⟩ := ends_len h
 rw [List.length_drop] at h1 h2
 refine ⟨n - R.length, by rw [endI]; omega, by omega, ?_⟩
 rw [List.drop_drop] at h2
 have e : p + (L.length - p - R.length) = n - R.length := by omega
 rw [e] at h2
 exact h2.symm
def Fo.sz : Fo → Nat
 | .nil => 0
 | .cons k m => k.sz + m.sz + 1
theorem Fo.len_le (F : Fo) : F.len ≤ F.sz := by
 induction F with
 | nil => simp [Fo.len]
 | cons k m _ ih => simp only [Fo.len, Fo.sz]; omega
theorem Fo.depth_le (F : Fo) : F.depth ≤ F.sz := by
 induction F with
 | nil => simp [Fo.depth]
 | cons k m ih1 ih2 => simp only [Fo.depth, Fo.sz]; omega
theorem parse_sz (f : Nat) : ∀ k L F R, parse f k L = some (F, R) → F.sz + R.length = L.length := by
 induction f with
 | zero =>
  intro k L F R h
  cases k with
  | zero => simp [parse] at h; obtain ⟨rfl, rfl⟩ := h; simp [Fo.sz]
  | succ k => simp [parse] at h
 | succ f ih =>
  intro k L F R h
  cases k with
  | zero => simp [parse] at h; obtain ⟨rfl, rfl⟩ := h; simp [Fo.sz]
  | succ k =>
   match L, h with
   | [], h => simp [parse] at h
   | none :: L, h => simp [parse] at h
   | some m :: L, h =>
    simp only [parse] at h
    split at h
    ·cases h
    ·rename_i kids R1 h1
     split at h
     ·cases h
     ·rename_i more R2 h2
      cases h
      have a1 := ih _ _ _ _ h1
      have a2 := ih _ _ _ _ h2
      simp only [Fo.sz, List.length_cons]
      omega
theorem take_sz {k : Nat} {L R : Row} {F : Fo} (h : take k L = some (F, R)) : F.sz + R.length = L.length := parse_sz _ _ _ _ _ h
theorem nest_fail {L : Row} (h : take 1 L = none) : nest L = none := by
 unfold nest; rw [h]; simp
theorem nest_rest {L R : Row} {k : Fo} (h : take 1 L = some (.cons k .nil, R)) (hR : R.length ≠ 0) : nest L = none := by
 unfold nest; rw [h]
 cases R with
 | nil => simp at hR
 | cons a b => simp
theorem nest_deep {L R : Row} {k : Fo} (h : take 1 L = some (.cons k .nil, R)) (hd : 4 < k.depth + 1) : nest L = none := by
 unfold nest; rw [h]
 cases R with
 | nil => simp only; rw [if_neg (show ¬ k.depth ≤ 3 by omega)]; simp
 | cons a b => simp
theorem nest_ok {L R : Row} {k : Fo} (h12 : L.length ≤ 12) (h : take 1 L = some (.cons k .nil, R)) (hR : R.length = 0) (hd : ¬ 4 < k.depth + 1) : nest L = some k := by
 have e : R = [] := List.eq_nil_of_length_eq_zero hR
 subst e
 unfold nest; rw [if_pos h12, h]
 simp only
 rw [if_pos (show k.depth ≤ 3 by omega)]
def went (F : Fo) (o : Option (Fo × Row)) : Option (Fo × Row) := o.map (fun y => (F.app y.1, y.2))
theorem went_start (o : Option (Fo × Row)) : went .nil o = o := by cases o <;> rfl
theorem went_step {F kids : Fo} {k : Nat} {L R : Row} (h : take 1 L = some (.cons kids .nil, R)) : went F (take (k + 1) L) = went (F.app (.cons kids .nil)) (take k R) := by
 rw [yd7, h]
 cases h2 : take k R with
 | none => simp [went, h2]
 | some y => obtain ⟨m, R'⟩ := y; simp [went, h2, Fo.app_assoc]
theorem went_fail {F : Fo} {k : Nat} {L : Row} (h : take 1 L = none) : went F (take (k + 1) L) = none := by
 rw [yd7, h]; rfl
theorem went_end (F : Fo) (L : Row) : went F (take 0 L) = some (F, L) := by simp [went, take_zero, Fo.app_nil]
theorem rowO_drop (xs : List (Int × List Nd)) (k : Nat) : (rowO xs).drop k = rowO (xs.drop k) := by simp [rowO, List.map_drop]
end Pl
end Go.Proofs.YtcogaghibpajjaaGreatDoor

