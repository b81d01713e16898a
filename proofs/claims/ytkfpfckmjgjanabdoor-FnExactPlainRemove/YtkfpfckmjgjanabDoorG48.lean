/- Several texts of one claim in one file: PlainBelow, PlainOff. -/
import Derived.Test.YtkfpfckmjgjanabDoorG04
import Derived.Test.YtkfpfckmjgjanabDoorPlainLaw
/- What lies below a path, in a list of nodes that rises: side by side. No program in sight. -/
namespace Go.Proofs.YtkfpfckmjgjanabDoor
namespace Pl
/-- A path that is not another one, and is under it. -/
def belowP (q p : ByteArray) : Bool := !decide (q = p) && (pathB q && pathB p && underR (namesR q) (namesR p))
def pieceL (L : List Nd) (p : ByteArray) : List Nd := (L.dropWhile (fun n => !belowP n.path p)).takeWhile (fun n => belowP n.path p)
theorem mid_L : ∀ P A B C : List ByteArray, (∀ (j : Nat) t, P[j]? = some t → A[j]? = some t) → (∀ (j : Nat) t, P[j]? = some t → C[j]? = some t) → lessL A B = true → lessL B C = true → ∀ (j : Nat) t, P[j]? = some t → B[j]? = some t := by
  intro P
  induction P with
  | nil => intro A B C _ _ _ _ j t h; simp at h
  | cons x P ih =>
    intro A B C hA hC h1 h2 j t hj
    have a0 := hA 0 x rfl
    have c0 := hC 0 x rfl
    match A, a0 with
    | a :: A, a0 =>
      simp at a0
      match C, c0 with
      | c :: C, c0 =>
        simp at c0
        subst a0 c0
        match B, h1, h2 with
        | [], h1, _ => simp [lessL] at h1
        | b :: B, h1, h2 =>
          have e : b = c := by
            by_cases e : b = c
            · exact e
            · exfalso
              rw [lessL, if_neg (fun h => e h.symm)] at h1
              rw [lessL, if_neg e] at h2
              have hne : c.toList ≠ b.toList := fun h => e (by_inj (by rw [ByteArray.toList_eq, ByteArray.toList_eq] at h; exact h.symm))
              rw [bytesLess_anti _ _ hne, h2] at h1
              cases h1
          subst e
          rw [lessL, if_pos rfl] at h1 h2
          match j, hj with
          | 0, hj => simpa using hj
          | j + 1, hj =>
            have hj' : P[j]? = some t := by simpa using hj
            have := ih A B C (fun i u hu => by have := hA (i + 1) u (by simpa using hu); simpa using this) (fun i u hu => by have := hC (i + 1) u (by simpa using hu); simpa using this) h1 h2 j t hj'
            simpa using this
theorem mid {a b c p : ByteArray} (ha : pathB a = true) (hb : pathB b = true) (hc : pathB c = true) (h1 : ltP a b = true) (h2 : ltP b c = true) (ka : belowP a p = true) (kc : belowP c p = true) : belowP b p = true := by
  rw [ltP_right ha hb] at h1
  rw [ltP_right hb hc] at h2
  simp only [belowP, Bool.and_eq_true, Bool.not_eq_true', decide_eq_false_iff_not] at ka kc ⊢
  obtain ⟨_, ⟨_, hp⟩, ua⟩ := ka
  obtain ⟨_, _, uc⟩ := kc
  rw [namesR_yes ha, namesR_yes hp] at ua
  rw [namesR_yes hc, namesR_yes hp] at uc
  have hm := mid_L _ _ _ _ ((underR_iff _ _).1 ua) ((underR_iff _ _).1 uc) h1 h2
  refine ⟨fun e => ?_, ⟨hb, hp⟩, ?_⟩
  · subst e
    rw [less_under _ _ ((underR_iff _ _).1 ua)] at h1
    cases h1
  · rw [namesR_yes hb, namesR_yes hp]
    exact (underR_iff _ _).2 hm
theorem take_filter {p : ByteArray} : ∀ (L : List Nd) (n : Nd), pathB n.path = true → belowP n.path p = true → (∀ m ∈ L, pathB m.path = true ∧ ltP n.path m.path = true) → L.Pairwise (fun a b => ltP a.path b.path = true) →
    L.takeWhile (fun m => belowP m.path p) = L.filter (fun m => belowP m.path p) := by
  intro L
  induction L with
  | nil => intros; rfl
  | cons b L ih =>
    intro n hn hk hL hr
    have hb := hL b List.mem_cons_self
    have hr' := List.pairwise_cons.1 hr
    cases kb : belowP b.path p
    · have hf : (b :: L).filter (fun m => belowP m.path p) = [] := by
        rw [List.filter_eq_nil_iff]
        intro c hc kc
        rcases List.mem_cons.1 hc with e | hc
        · subst e; rw [kb] at kc; cases kc
        · have := mid hn hb.1 (hL c (List.mem_cons_of_mem _ hc)).1 hb.2 (hr'.1 c hc) hk kc
          rw [kb] at this; cases this
      rw [hf, List.takeWhile_cons, kb]; rfl
    · rw [List.takeWhile_cons, List.filter_cons, kb]
      simp only [if_true]
      rw [ih b hb.1 kb (fun m hm => ⟨(hL m (List.mem_cons_of_mem _ hm)).1, hr'.1 m hm⟩) hr'.2]
theorem piece_filter (p : ByteArray) : ∀ (L : List Nd), (∀ n ∈ L, pathB n.path = true) → L.Pairwise (fun a b => ltP a.path b.path = true) → pieceL L p = L.filter (fun n => belowP n.path p) := by
  intro L
  induction L with
  | nil => intros; rfl
  | cons n L ih =>
    intro hok hr
    have hr' := List.pairwise_cons.1 hr
    cases k : belowP n.path p
    · rw [pieceL, List.dropWhile_cons, k, List.filter_cons, k]
      simp only [Bool.not_false, if_true, Bool.false_eq_true, if_false]
      exact ih (fun m hm => hok m (List.mem_cons_of_mem _ hm)) hr'.2
    · rw [pieceL, List.dropWhile_cons, k, List.filter_cons, k]
      simp only [Bool.not_true, Bool.false_eq_true, if_false, if_true]
      rw [List.takeWhile_cons, k]
      simp only [if_true]
      rw [take_filter L n (hok n List.mem_cons_self) k (fun m hm => ⟨hok m (List.mem_cons_of_mem _ hm), hr'.1 m hm⟩) hr'.2]
/-- The piece of a list, cut by its two places. -/
theorem piece_at (L : List Nd) (p : ByteArray) (i j : Nat) (hij : i ≤ j) (_hj : j ≤ L.length) (h1 : ∀ (k : Nat) n, k < i → L[k]? = some n → belowP n.path p = false) (h2 : ∀ n, L[i]? = some n → belowP n.path p = true)
    (h3 : ∀ (k : Nat) n, i ≤ k → k < j → L[k]? = some n → belowP n.path p = true) (h4 : ∀ n, L[j]? = some n → belowP n.path p = false) : pieceL L p = (L.drop i).take (j - i) := by
  have hd : L.dropWhile (fun n => !belowP n.path p) = L.drop i := by
    clear h3 h4 hij _hj j
    induction L generalizing i with
    | nil => simp
    | cons n L ih =>
      match i with
      | 0 =>
        have := h2 n rfl
        rw [List.dropWhile_cons, this]; simp
      | i + 1 =>
        have := h1 0 n (by omega) rfl
        rw [List.dropWhile_cons, this]
        simp only [Bool.not_false, if_true, List.drop_succ_cons]
        exact ih i (fun k m hk hm => h1 (k + 1) m (by omega) (by simpa using hm)) (fun m hm => h2 m (by simpa using hm))
  rw [pieceL, hd]
  have hlen : (L.drop i).length = L.length - i := by simp
  have h3' : ∀ (k : Nat) n, k < j - i → (L.drop i)[k]? = some n → belowP n.path p = true := fun k n hk hn => h3 (i + k) n (by omega) (by omega) (by simpa [List.getElem?_drop] using hn)
  have h4' : ∀ n, (L.drop i)[j - i]? = some n → belowP n.path p = false := fun n hn => h4 n (by rw [List.getElem?_drop, show i + (j - i) = j by omega] at hn; exact hn)
  generalize L.drop i = M at h3' h4'
  generalize j - i = q at h3' h4'
  clear hd h1 h2 h3 h4 hlen hij _hj
  induction M generalizing q with
  | nil => simp
  | cons n M ih =>
    match q with
    | 0 => have := h4' n rfl; rw [List.takeWhile_cons, this]; simp
    | q + 1 =>
      have := h3' 0 n (by omega) rfl
      rw [List.takeWhile_cons, this]
      simp only [if_true, List.take_succ_cons]
      rw [ih q (fun k m hk hm => h3' (k + 1) m (by omega) (by simpa using hm)) (fun m hm => h4' m (by simpa using hm))]
theorem piece_none {L : List Nd} {p : ByteArray} : (pieceL L p).length = 0 ↔ L.any (fun n => belowP n.path p) = false := by
  induction L with
  | nil => simp [pieceL]
  | cons n L ih =>
    cases k : belowP n.path p
    · rw [pieceL, List.dropWhile_cons, k, List.any_cons, k]
      simpa [pieceL] using ih
    · rw [pieceL, List.dropWhile_cons, k, List.any_cons, k]
      simp [k]
end Pl
end Go.Proofs.YtkfpfckmjgjanabDoor

/- A tree without a path, and all under it. -/
namespace Go.Proofs.YtkfpfckmjgjanabDoor
open Go.RowKit
namespace Pl
/-- A tree without a path, and all under it. -/
def offL (p : ByteArray) (L : List Nd) : List Nd := L.filter (fun n => !under n.path p)
theorem offN_in {L : List Nd} {p : ByteArray} {k : Nat} {n : Nd} (hn : L[k]? = some n) (h : under n.path p = false) : offL p (L.take (k + 1)) = offL p (L.take k) ++ [n] := by
  have h1 := List.getElem?_eq_some_iff.1 hn
  rw [List.take_succ_eq_append_getElem h1.1, h1.2]
  simp [offL, h]
theorem offN_out {L : List Nd} {p : ByteArray} {k : Nat} {n : Nd} (hn : L[k]? = some n) (h : under n.path p = true) : offL p (L.take (k + 1)) = offL p (L.take k) := by
  have h1 := List.getElem?_eq_some_iff.1 hn
  rw [List.take_succ_eq_append_getElem h1.1, h1.2]
  simp [offL, h]
theorem offN_len (L : List Nd) (p : ByteArray) (k : Nat) : (offL p (L.take k)).length ≤ k := by
  have h1 : (offL p (L.take k)).length ≤ (L.take k).length := by simpa [offL] using List.length_filter_le _ (L.take k)
  have h2 : (L.take k).length ≤ k := by simp; omega
  omega
end Pl
end Go.Proofs.YtkfpfckmjgjanabDoor

