/- Several texts of one claim in one file: PlainBelow, PlainPut, PlainNames, PlainOff. -/
import Derived.Test.YtepmojmelcngeaaGreatDoorPlainTree
import Derived.Test.YtepmojmelcngeaaGreatDoorG03
import Derived.Test.YtepmojmelcngeaaGreatDoorG02
/- What lies below a path, in a list of nodes that rises: side by side. No program in sight. -/
namespace Go.Proofs.YtepmojmelcngeaaGreatDoor
namespace Pl
/-- A path that is not another one, and is under it. -/
def belowP (q p : ByteArray) : Bool := !decide (q = p) && (pathB q && pathB p && underR (namesR q) (namesR p))
def pieceL (L : List Nd) (p : ByteArray) : List Nd := (L.dropWhile (fun n => !belowP n.path p)).takeWhile (fun n => belowP n.path p)
theorem mid_L : ∀ P A B C : List ByteArray, (∀ (j : Nat) t, P[j]? = some t → A[j]? = some t) → (∀ (j : Nat) t, P[j]? = some t → C[j]? = some t) → lessL A B = true → lessL B C = true → ∀ (j : Nat) t, P[j]? = some t → B[j]? = some t := by
  intro P
  induction P with
  | nil => intro A B C _ _ _ _ j t h; simp at h
  | cons x P ih =>
    intro A B C hA hC h1 h2 j t hj
    have a0 := hA 0 x rfl
    have c0 := hC 0 x rfl
    match A, a0 with
    | a :: A, a0 =>
      simp at a0
      match C, c0 with
      | c :: C, c0 =>
        simp at c0
        subst a0 c0
        match B, h1, h2 with
        | [], h1, _ => simp [lessL] at h1
        | b :: B, h1, h2 =>
          have e : b = c := by
            by_cases e : b = c
            · exact e
            · exfalso
              rw [lessL, if_neg (fun h => e h.symm)] at h1
              rw [lessL, if_neg e] at h2
              have hne : c.toList ≠ b.toList := fun h => e (by_inj (by rw [ByteArray.toList_eq, ByteArray.toList_eq] at h; exact h.symm))
              rw [bytesLess_anti _ _ hne, h2] at h1
              cases h1
          subst e
          rw [lessL, if_pos rfl] at h1 h2
          match j, hj with
          | 0, hj => simpa using hj
          | j + 1, hj =>
            have hj' : P[j]? = some t := by simpa using hj
            have := ih A B C (fun i u hu => by have := hA (i + 1) u (by simpa using hu); simpa using this) (fun i u hu => by have := hC (i + 1) u (by simpa using hu); simpa using this) h1 h2 j t hj'
            simpa using this
theorem mid {a b c p : ByteArray} (ha : pathB a = true) (hb : pathB b = true) (hc : pathB c = true) (h1 : ltP a b = true) (h2 : ltP b c = true) (ka : belowP a p = true) (kc : belowP c p = true) : belowP b p = true := by
  rw [ltP_right ha hb] at h1
  rw [ltP_right hb hc] at h2
  simp only [belowP, Bool.and_eq_true, Bool.not_eq_true', decide_eq_false_iff_not] at ka kc ⊢
  obtain ⟨_, ⟨_, hp⟩, ua⟩ := ka
  obtain ⟨_, _, uc⟩ := kc
  rw [namesR_yes ha, namesR_yes hp] at ua
  rw [namesR_yes hc, namesR_yes hp] at uc
  have hm := mid_L _ _ _ _ ((underR_iff _ _).1 ua) ((underR_iff _ _).1 uc) h1 h2
  refine ⟨fun e => ?_, ⟨hb, hp⟩, ?_⟩
  · subst e
    rw [less_under _ _ ((underR_iff _ _).1 ua)] at h1
    cases h1
  · rw [namesR_yes hb, namesR_yes hp]
    exact (underR_iff _ _).2 hm
theorem take_filter {p : ByteArray} : ∀ (L : List Nd) (n : Nd), pathB n.path = true → belowP n.path p = true → (∀ m ∈ L, pathB m.path = true ∧ ltP n.path m.path = true) → L.Pairwise (fun a b => ltP a.path b.path = true) →
    L.takeWhile (fun m => belowP m.path p) = L.filter (fun m => belowP m.path p) := by
  intro L
  induction L with
  | nil => intros; rfl
  | cons b L ih =>
    intro n hn hk hL hr
    have hb := hL b List.mem_cons_self
    have hr' := List.pairwise_cons.1 hr
    cases kb : belowP b.path p
    · have hf : (b :: L).filter (fun m => belowP m.path p) = [] := by
        rw [List.filter_eq_nil_iff]
        intro c hc kc
        rcases List.mem_cons.1 hc with e | hc
        · subst e; rw [kb] at kc; cases kc
        · have := mid hn hb.1 (hL c (List.mem_cons_of_mem _ hc)).1 hb.2 (hr'.1 c hc) hk kc
          rw [kb] at this; cases this
      rw [hf, List.takeWhile_cons, kb]; rfl
    · rw [List.takeWhile_cons, List.filter_cons, kb]
      simp only [if_true]
      rw [ih b hb.1 kb (fun m hm => ⟨(hL m (List.mem_cons_of_mem _ hm)).1, hr'.1 m hm⟩) hr'.2]
theorem piece_filter (p : ByteArray) : ∀ (L : List Nd), (∀ n ∈ L, pathB n.path = true) → L.Pairwise (fun a b => ltP a.path b.path = true) → pieceL L p = L.filter (fun n => belowP n.path p) := by
  intro L
  induction L with
  | nil => intros; rfl
  | cons n L ih =>
    intro hok hr
    have hr' := List.pairwise_cons.1 hr
    cases k : belowP n.path p
    · rw [pieceL, List.dropWhile_cons, k, List.filter_cons, k]
      simp only [Bool.not_false, if_true, Bool.false_eq_true, if_false]
      exact ih (fun m hm => hok m (List.mem_cons_of_mem _ hm)) hr'.2
    · rw [pieceL, List.dropWhile_cons, k, List.filter_cons, k]
      simp only [Bool.not_true, Bool.false_eq_true, if_false, if_true]
      rw [List.takeWhile_cons, k]
      simp only [if_true]
      rw [take_filter L n (hok n List.mem_cons_self) k (fun m hm => ⟨hok m (List.mem_cons_of_mem _ hm), hr'.1 m hm⟩) hr'.2]
/-- The piece of a list, cut by its two places. -/
theorem piece_at (L : List Nd) (p : ByteArray) (i j : Nat) (hij : i ≤ j) (_hj : j ≤ L.length) (h1 : ∀ (k : Nat) n, k < i → L[k]? = some n → belowP n.path p = false) (h2 : ∀ n, L[i]? = some n → belowP n.path p = true)
    (h3 : ∀ (k : Nat) n, i ≤ k → k < j → L[k]? = some n → belowP n.path p = true) (h4 : ∀ n, L[j]? = some n → belowP n.path p = false) : pieceL L p = (L.drop i).take (j - i) := by
  have hd : L.dropWhile (fun n => !belowP n.path p) = L.drop i := by
    clear h3 h4 hij _hj j
    induction L generalizing i with
    | nil => simp
    | cons n L ih =>
      match i with
      | 0 =>
        have := h2 n rfl
        rw [List.dropWhile_cons, this]; simp
      | i + 1 =>
        have := h1 0 n (by omega) rfl
        rw [List.dropWhile_cons, this]
        simp only [Bool.not_false, if_true, List.drop_succ_cons]
        exact ih i (fun k m hk hm => h1 (k + 1) m (by omega) (by simpa using hm)) (fun m hm => h2 m (by simpa using hm))
  rw [pieceL, hd]
  have hlen : (L.drop i).length = L.length - i := by simp
  have h3' : ∀ (k : Nat) n, k < j - i → (L.drop i)[k]? = some n → belowP n.path p = true := fun k n hk hn => h3 (i + k) n (by omega) (by omega) (by simpa [List.getElem?_drop] using hn)
  have h4' : ∀ n, (L.drop i)[j - i]? = some n → belowP n.path p = false := fun n hn => h4 n (by rw [List.getElem?_drop, show i + (j - i) = j by omega] at hn; exact hn)
  generalize L.drop i = M at h3' h4'
  generalize j - i = q at h3' h4'
  clear hd h1 h2 h3 h4 hlen hij _hj
  induction M generalizing q with
  | nil => simp
  | cons n M ih =>
    match q with
    | 0 => have := h4' n rfl; rw [List.takeWhile_cons, this]; simp
    | q + 1 =>
      have := h3' 0 n (by omega) rfl
      rw [List.takeWhile_cons, this]
      simp only [if_true, List.take_succ_cons]
      rw [ih q (fun k m hk hm => h3' (k + 1) m (by omega) (by simpa using hm)) (fun m hm => h4' m (by simpa using hm))]
theorem piece_none {L : List Nd} {p : ByteArray} : (pieceL L p).length = 0 ↔ L.any (fun n => belowP n.path p) = false := by
  induction L with
  | nil => simp [pieceL]
  | cons n L ih =>
    cases k : belowP n.path p
    · rw [pieceL, List.dropWhile_cons, k, List.any_cons, k]
      simpa [pieceL] using ih
    · rw [pieceL, List.dropWhile_cons, k, List.any_cons, k]
      simp [k]
end Pl
end Go.Proofs.YtepmojmelcngeaaGreatDoor

/- A node in its place in a list that rises. No program in sight. -/
namespace Go.Proofs.YtepmojmelcngeaaGreatDoor
namespace Pl
def restP (p : ByteArray) : List Nd → List Nd
  | [] => []
  | m :: R => if m.path = p then R else m :: R
def aheadP (n m : Nd) : Bool := lessL (names m.path) (names n.path)
def putL (L : List Nd) (n : Nd) : List Nd := L.takeWhile (aheadP n) ++ n :: restP n.path (L.dropWhile (aheadP n))
theorem put_at (L : List Nd) (n : Nd) (k : Nat) (hk : k ≤ L.length) (h1 : ∀ (j : Nat) m, j < k → L[j]? = some m → aheadP n m = true) (h2 : ∀ m, L[k]? = some m → aheadP n m = false) : putL L n = L.take k ++ n :: restP n.path (L.drop k) := by
  have h : L.takeWhile (aheadP n) = L.take k ∧ L.dropWhile (aheadP n) = L.drop k := by
    induction L generalizing k with
    | nil => simp
    | cons m L ih =>
      match k with
      | 0 =>
        have := h2 m rfl
        rw [List.takeWhile_cons, List.dropWhile_cons, this]; simp
      | k + 1 =>
        have := h1 0 m (by omega) rfl
        rw [List.takeWhile_cons, List.dropWhile_cons, this]
        have i := ih k (by simpa using hk) (fun j x hj hx => h1 (j + 1) x (by omega) (by simpa using hx)) (fun x hx => h2 x (by simpa using hx))
        simp only [if_true, List.take_succ_cons, List.drop_succ_cons]
        exact ⟨by rw [i.1], i.2⟩
  rw [putL, h.1, h.2]
theorem rest_drop (L : List Nd) (p : ByteArray) (k : Nat) : restP p (L.drop k) = L.drop (if (∃ m, L[k]? = some m ∧ m.path = p) then k + 1 else k) := by
  by_cases hk : k < L.length
  · rw [List.drop_eq_getElem_cons hk, restP]
    have e : L[k]? = some L[k] := List.getElem?_eq_getElem hk
    by_cases h : L[k].path = p
    · rw [if_pos h, if_pos ⟨_, e, h⟩]
    · rw [if_neg h, if_neg (fun ⟨m, hm, hp⟩ => by rw [e] at hm; cases hm; exact h hp), List.drop_eq_getElem_cons hk]
  · rw [if_neg (fun ⟨m, hm, _⟩ => by have := (List.getElem?_eq_some_iff.1 hm).1; omega)]
    rw [List.drop_eq_nil_of_le (by omega)]; rfl
theorem put_len (L : List Nd) (n : Nd) : (putL L n).length ≤ L.length + 1 := by
  have h1 := congrArg List.length (List.takeWhile_append_dropWhile (p := aheadP n) (l := L))
  rw [List.length_append] at h1
  have h2 : (restP n.path (L.dropWhile (aheadP n))).length ≤ (L.dropWhile (aheadP n)).length := by
    cases L.dropWhile (aheadP n) with
    | nil => exact Nat.le_refl _
    | cons m R => rw [restP]; split <;> simp
  rw [putL, List.length_append, List.length_cons]
  omega
theorem take_all {n : Nd} (L : List Nd) : ∀ m ∈ L.takeWhile (aheadP n), aheadP n m = true := fun m hm => by
  induction L with
  | nil => simp at hm
  | cons x L ih =>
    rw [List.takeWhile_cons] at hm
    cases h : aheadP n x
    · rw [h] at hm; simp at hm
    · rw [h] at hm
      simp only [if_true, List.mem_cons] at hm
      rcases hm with rfl | hm
      · exact h
      · exact ih hm
/-- What the place is good for. -/
theorem put_ok {L : List Nd} {n : Nd} (hL : ∀ m ∈ L, pathB m.path = true) (hn : pathB n.path = true) (hr : L.Pairwise (fun a b => ltP a.path b.path = true)) :
    (putL L n).Pairwise (fun a b => ltP a.path b.path = true) ∧ (putL L n).Perm (L.filter (fun m => !decide (m.path = n.path)) ++ [n]) := by
  have hsp := List.takeWhile_append_dropWhile (p := aheadP n) (l := L)
  have hA := take_all (n := n) L
  have hR : ∀ m, (L.dropWhile (aheadP n)).head? = some m → aheadP n m = false := fun m hm => by
    have := List.head?_dropWhile_not (aheadP n) L
    rw [hm] at this
    simpa using this
  unfold putL
  generalize L.takeWhile (aheadP n) = A at hsp hA
  generalize L.dropWhile (aheadP n) = R at hsp hR
  subst hsp
  rw [List.pairwise_append] at hr
  obtain ⟨rA, rR, rAR⟩ := hr
  have hLA : ∀ m ∈ A, pathB m.path = true := fun m hm => hL m (List.mem_append_left _ hm)
  have hLR : ∀ m ∈ R, pathB m.path = true := fun m hm => hL m (List.mem_append_right _ hm)
  have ltA : ∀ m ∈ A, ltP m.path n.path = true := fun m hm => by rw [ltP_right (hLA m hm) hn]; exact hA m hm
  have neA : ∀ m ∈ A, m.path ≠ n.path := fun m hm e => by
    have := hA m hm
    rw [aheadP, e, less_irr] at this; cases this
  have trn : ∀ {a b c : ByteArray}, pathB a = true → pathB b = true → pathB c = true → ltP a b = true → ltP b c = true → ltP a c = true := fun ha hb hc h1 h2 => by
    rw [ltP_right ha hb] at h1
    rw [ltP_right hb hc] at h2
    rw [ltP_right ha hc]; exact less_trans _ _ _ h1 h2
  have ltn : ∀ {a b : ByteArray}, pathB a = true → ltP a b = true → a ≠ b := fun ha h e => by
    subst e
    rw [ltP_right ha ha, less_irr] at h; cases h
  have key : (∀ m ∈ restP n.path R, ltP n.path m.path = true ∧ pathB m.path = true ∧ m ∈ R) ∧ (restP n.path R).Pairwise (fun a b => ltP a.path b.path = true) ∧ R.filter (fun m => !decide (m.path = n.path)) = restP n.path R := by
    match R, hR, rR, hLR with
    | [], _, _, _ => exact ⟨fun m hm => by simp [restP] at hm, List.Pairwise.nil, rfl⟩
    | x :: R, hR, rR, hLR =>
      have hx := hR x rfl
      have px := hLR x List.mem_cons_self
      have rR' := List.pairwise_cons.1 rR
      by_cases e : x.path = n.path
      · rw [restP, if_pos e]
        refine ⟨fun m hm => ⟨by rw [← e]; exact rR'.1 m hm, hLR m (List.mem_cons_of_mem _ hm), List.mem_cons_of_mem _ hm⟩, rR'.2, ?_⟩
        rw [List.filter_cons, if_neg (by simp [e])]
        exact List.filter_eq_self.2 (fun m hm => by
          have := ltn px (rR'.1 m hm)
          rw [e] at this
          simpa using fun h => this h.symm)
      · rw [restP, if_neg e]
        have hnx : ltP n.path x.path = true := by
          have := two_less px hn e
          change ltP x.path n.path = !ltP n.path x.path at this
          rw [ltP_right px hn] at this
          rw [aheadP] at hx
          rw [hx] at this
          cases h : ltP n.path x.path
          · rw [h] at this; cases this
          · rfl
        have all : ∀ m ∈ x :: R, ltP n.path m.path = true := fun m hm => by
          rcases List.mem_cons.1 hm with rfl | hm
          · exact hnx
          · exact trn hn px (hLR m (List.mem_cons_of_mem _ hm)) hnx (rR'.1 m hm)
        refine ⟨fun m hm => ⟨all m hm, hLR m hm, hm⟩, rR, ?_⟩
        exact List.filter_eq_self.2 (fun m hm => by
          have := ltn hn (all m hm)
          simpa using fun h => this h.symm)
  obtain ⟨k1, k2, k3⟩ := key
  constructor
  · rw [List.pairwise_append]
    refine ⟨rA, List.pairwise_cons.2 ⟨fun m hm => (k1 m hm).1, k2⟩, fun a ha b hb => ?_⟩
    rcases List.mem_cons.1 hb with rfl | hb
    · exact ltA a ha
    · exact rAR a ha b (k1 b hb).2.2
  · rw [List.filter_append, k3, List.filter_eq_self.2 (fun m hm => by simpa using neA m hm), List.append_assoc]
    exact List.Perm.append_left _ (List.perm_append_comm (l₁ := [n]) (l₂ := restP n.path R))
end Pl
end Go.Proofs.YtepmojmelcngeaaGreatDoor

/- The names of a directory. No program in sight. -/
namespace Go.Proofs.YtepmojmelcngeaaGreatDoor
namespace Pl
def kidsL (p : ByteArray) (L : List Nd) : List ByteArray := (L.filter (fun n => decide (parent n.path = p))).map (fun n => base n.path)
theorem kids_in {L : List Nd} {p : ByteArray} {k : Nat} {n : Nd} (hn : L[k]? = some n) (h : parent n.path = p) : kidsL p (L.take (k + 1)) = kidsL p (L.take k) ++ [base n.path] := by
  have h1 := List.getElem?_eq_some_iff.1 hn
  rw [List.take_succ_eq_append_getElem h1.1, h1.2]
  simp [kidsL, h]
theorem kids_out {L : List Nd} {p : ByteArray} {k : Nat} {n : Nd} (hn : L[k]? = some n) (h : parent n.path ≠ p) : kidsL p (L.take (k + 1)) = kidsL p (L.take k) := by
  have h1 := List.getElem?_eq_some_iff.1 hn
  rw [List.take_succ_eq_append_getElem h1.1, h1.2]
  simp [kidsL, h]
theorem kids_len (p : ByteArray) (L : List Nd) (k : Nat) : (kidsL p (L.take k)).length ≤ k := by
  have h1 : (kidsL p (L.take k)).length ≤ (L.take k).length := by simpa [kidsL] using List.length_filter_le _ (L.take k)
  have h2 : (L.take k).length ≤ k := by simp; omega
  omega
def kidsO (p : ByteArray) (L : List Nd) : List ByteArray := if treeB L = true ∧ dirS L p = true then kidsL p L else []
theorem kidsO_len (p : ByteArray) (L : List Nd) : (kidsO p L).length ≤ 40 := by
  unfold kidsO
  split
  · rename_i h
    have h2 := h.1
    simp only [treeB, Bool.and_eq_true, decide_eq_true_eq] at h2
    have := kids_len p L L.length
    rw [List.take_length] at this
    omega
  · exact Nat.zero_le _
/-- A child is below. -/
theorem kid_below {q p : ByteArray} (hq : pathB q = true) (h0 : q.size ≠ 0) (hp : pathB p = true) (h : parent q = p) : belowP q p = true := by
  have hn : names p = (names q).dropLast := by rw [← h, parent_right hq, parent_names hq]
  have hne : names q ≠ [] := fun e => h0 (by
    have := glue_names q
    rw [e] at this
    rw [← this]; rfl)
  simp only [belowP, Bool.and_eq_true, Bool.not_eq_true', decide_eq_false_iff_not]
  refine ⟨fun e => ?_, ⟨hq, hp⟩, ?_⟩
  · rw [← e] at hn
    have h1 := congrArg List.length hn
    rw [List.length_dropLast] at h1
    have h2 : 0 < (names q).length := List.length_pos_iff.2 hne
    omega
  · rw [namesR_yes hq, namesR_yes hp, hn]
    refine (underR_iff _ _).2 (fun j t hj => ?_)
    rw [List.getElem?_dropLast] at hj
    split at hj
    · exact hj
    · cases hj
theorem kids_piece {L : List Nd} {p : ByteArray} (hL : ∀ n ∈ L, pathB n.path = true ∧ n.path.size ≠ 0) (hp : pathB p = true) : kidsL p (L.filter (fun n => belowP n.path p)) = kidsL p L := by
  unfold kidsL
  rw [List.filter_filter]
  congr 1
  apply List.filter_congr
  intro n hn
  by_cases h : parent n.path = p
  · rw [kid_below (hL n hn).1 (hL n hn).2 hp h]; simp
  · simp [h]
theorem dir_right {L : List Nd} {p : ByteArray} (hL : ∀ n ∈ L, pathB n.path = true) (h : dirS L p = true) : pathB p = true := by
  simp only [dirS, Bool.or_eq_true, decide_eq_true_eq] at h
  rcases h with h | h
  · exact (right_root h).1
  · split at h
    · rename_i m hm
      have h1 := List.mem_of_find?_eq_some hm
      have h2 := List.find?_some hm
      simp at h2
      rw [← h2]; exact hL m h1
    · cases h
theorem tree_apart' {L : List Nd} (h : treeB L = true) : L.Pairwise (fun a b => a.path ≠ b.path) := by
  have h2 : goI [] ⟨#[]⟩ L = true := by unfold treeB at h; simp at h; exact h.2
  exact (goI_rise L [] ⟨#[]⟩ h2 (right_root rfl).1).1.imp (fun {a b} hab e => by rw [e, less_irr] at hab; cases hab)
theorem tree_rise' {L : List Nd} (h : treeB L = true) : L.Pairwise (fun a b => ltP a.path b.path = true) := by
  simp only [treeB, Bool.and_eq_true, decide_eq_true_eq] at h
  have hn := goI_all L _ _ h.2
  have hr := (goI_rise L [] ⟨#[]⟩ h.2 (right_root rfl).1).1
  exact List.Pairwise.imp_of_mem (fun {a b} ha hb hab => by rw [ltP_right (node_right (hn a ha)).1 (node_right (hn b hb)).1]; exact hab) hr
end Pl
end Go.Proofs.YtepmojmelcngeaaGreatDoor

/- A tree without a path, and all under it. -/
namespace Go.Proofs.YtepmojmelcngeaaGreatDoor
open Go.RowKit
namespace Pl
/-- A tree without a path, and all under it. -/
def offL (p : ByteArray) (L : List Nd) : List Nd := L.filter (fun n => !under n.path p)
theorem offN_in {L : List Nd} {p : ByteArray} {k : Nat} {n : Nd} (hn : L[k]? = some n) (h : under n.path p = false) : offL p (L.take (k + 1)) = offL p (L.take k) ++ [n] := by
  have h1 := List.getElem?_eq_some_iff.1 hn
  rw [List.take_succ_eq_append_getElem h1.1, h1.2]
  simp [offL, h]
theorem offN_out {L : List Nd} {p : ByteArray} {k : Nat} {n : Nd} (hn : L[k]? = some n) (h : under n.path p = true) : offL p (L.take (k + 1)) = offL p (L.take k) := by
  have h1 := List.getElem?_eq_some_iff.1 hn
  rw [List.take_succ_eq_append_getElem h1.1, h1.2]
  simp [offL, h]
theorem offN_len (L : List Nd) (p : ByteArray) (k : Nat) : (offL p (L.take k)).length ≤ k := by
  have h1 : (offL p (L.take k)).length ≤ (L.take k).length := by simpa [offL] using List.length_filter_le _ (L.take k)
  have h2 : (L.take k).length ≤ k := by simp; omega
  omega
end Pl
end Go.Proofs.YtepmojmelcngeaaGreatDoor

