/- Several texts of one claim in one file: PlainOv2, PlainFirst, PlainMore. -/
import Derived.Test.YtepmojmelcngeaaGreatDoorPlainOverC
import Derived.Test.YtepmojmelcngeaaGreatDoorG48
/- What Over answers, plainly. -/
namespace Go.Proofs.YtepmojmelcngeaaGreatDoor
namespace Pl
theorem over_small (Ls : List (List Nd)) : ∀ n ∈ overN Ls (allO Ls), n.path.size ≤ 1048576 ∧ n.data.size ≤ 1048576 := by
  intro n hn
  unfold overN at hn
  split at hn
  · rename_i h
    obtain ⟨h4, htr⟩ := lay_ok h.1
    have h2 := told_ok htr (((all_told h4 htr).mem n).1 hn)
    have := pathB_le h2.1
    exact ⟨by omega, h2.2⟩
  · cases hn
theorem all_lay (Ls : List (List Nd)) (h : layB Ls = true) : AllN Ls (allO Ls) := all_told (lay_ok h).1 (lay_ok h).2
theorem over_le (Ls : List (List Nd)) (O : List Nd) : (overN Ls O).length ≤ 40 := by
  unfold overN
  split
  · rename_i h; exact h.2
  · exact Nat.zero_le _
theorem over_all {Ls : List (List Nd)} (h : overC Ls (allO Ls) = 0) : layB Ls = true ∧ (allO Ls).length ≤ 40 ∧ overN Ls (allO Ls) = allO Ls := by
  unfold overC at h
  split at h
  · rename_i hl
    split at h
    · cases h
    · rename_i h40
      have h41 : (allO Ls).length ≤ 40 := by omega
      exact ⟨hl, h41, by rw [overN, if_pos ⟨hl, h41⟩]⟩
  · cases h
theorem over_tree {Ls : List (List Nd)} (h : overC Ls (allO Ls) = 0) : treeB (overN Ls (allO Ls)) = true := by
  obtain ⟨h1, h2, h3⟩ := over_all h
  rw [h3]
  exact all_tree (lay_ok h1).1 (lay_ok h1).2 h2
theorem over_get {Ls : List (List Nd)} (h : overC Ls (allO Ls) = 0) (p : ByteArray) : getV (overN Ls (allO Ls)) p = seenV Ls p := by
  obtain ⟨h1, h2, h3⟩ := over_all h
  rw [h3]
  exact (seen_get h1 h2 p).symm
end Pl
end Go.Proofs.YtepmojmelcngeaaGreatDoor

/- What stands in the uppermost layer is seen as it is there; a layer more below changes nothing of it; who has a part in a path. -/
namespace Go.Proofs.YtepmojmelcngeaaGreatDoor
namespace Pl
/-- A node but for its mark. -/
structure Alike (a b : Nd) : Prop where
  path : a.path = b.path
  kind : a.kind = b.kind
  data : a.data = b.data
  time : a.time = b.time
theorem Alike.refl (a : Nd) : Alike a a := ⟨rfl, rfl, rfl, rfl⟩
theorem Alike.trans {a b c : Nd} (h : Alike a b) (g : Alike b c) : Alike a c := ⟨h.1.trans g.1, h.2.trans g.2, h.3.trans g.3, h.4.trans g.4⟩
theorem take_told {s : Sg} {k : Nat} {n : Nd} (h : s.told = true) : Alike (takeS s k n).node s.node := by
  unfold takeS markMax
  rw [h]
  exact ⟨rfl, rfl, rfl, rfl⟩
theorem go_keep : ∀ (ns : List (Option Nd)) (k : Nat) (s : Sg), s.told = true → (goD k s ns).told = true ∧ Alike (goD k s ns).node s.node := by
  intro ns
  induction ns with
  | nil => intro k s h; exact ⟨h, Alike.refl _⟩
  | cons x ns ih =>
    intro k s h
    cases x with
    | none => exact ih _ _ h
    | some n =>
      rw [goD]
      split
      · exact ⟨rfl, take_told h⟩
      · obtain ⟨h1, h2⟩ := ih (k + 1) (takeS s k n) rfl
        exact ⟨h1, h2.trans (take_told h)⟩
theorem go_low : ∀ (ns : List (Option Nd)) (k : Nat) (s : Sg) (i : Nat), i < k → (goD k s ns).have'[i]? = s.have'[i]? := by
  intro ns
  induction ns with
  | nil => intro k s i _; rfl
  | cons x ns ih =>
    intro k s i hi
    cases x with
    | none => exact ih _ _ _ (by omega)
    | some n =>
      have ht : (takeS s k n).have'[i]? = s.have'[i]? := by
        unfold takeS
        simp only
        rw [List.getElem?_set_ne (by omega)]
      rw [goD]
      split
      · exact ht
      · rw [ih _ _ _ (by omega), ht]
theorem up_dir {s : Sg} (h : s.node.kind ≠ 0) : (upS s).told = s.told ∧ Alike (upS s).node s.node ∧ (upS s).have' = s.have' := by
  unfold upS
  rw [if_neg (fun h2 => h h2.1)]
  exact ⟨rfl, ⟨rfl, rfl, rfl, rfl⟩, rfl⟩
theorem up_gone {s : Sg} (h : s.node.kind = 0) (ht : (upS s).told = true) : (upS s).node.kind = 0 := by
  unfold upS at ht ⊢
  split at ht
  · cases ht
  · rename_i hz
    rw [if_neg hz]
    exact h
/-- What the first one of those that are asked has, is what is seen. -/
theorem dec_first {n : Nd} (hn : nodeB n = true) (r : List (Option Nd)) :
    (n.kind = 0 → (decS (some n :: r)).told = true → (decS (some n :: r)).node.kind = 0) ∧
    (n.kind = 2 → (decS (some n :: r)).told = true ∧ (decS (some n :: r)).node = n) ∧
    (n.kind = 1 → (decS (some n :: r)).told = true ∧ Alike (decS (some n :: r)).node n ∧ (decS (some n :: r)).have'[0]? = some true) := by
  have e : (takeS Sg.zero 0 n).node = n := by
    unfold takeS markMax Sg.zero
    simp
  have et : (takeS Sg.zero 0 n).told = true := rfl
  unfold decS
  refine ⟨fun hk => ?_, fun hk => ?_, fun hk => ?_⟩
  · have hs : stopB n = true := by simp [stopB, hk]
    rw [goD, if_pos hs]
    exact up_gone (by rw [e]; exact hk)
  · have hs : stopB n = true := by simp [stopB, hk]
    have hm : n.mark = 0 := by
      unfold nodeB at hn
      simp only [Bool.and_eq_true, decide_eq_true_eq] at hn
      have h2 := hn.2
      unfold kindB at h2
      simpa [hk] using h2
    rw [goD, if_pos hs]
    have hu : upS (takeS Sg.zero 0 n) = ⟨true, ⟨n.path, n.kind, n.data, n.time, max (n.mark - 1) 0⟩, (takeS Sg.zero 0 n).have'⟩ := by
      unfold upS
      rw [if_neg (by rw [e]; omega), e]
      rfl
    rw [hu]
    refine ⟨rfl, ?_⟩
    rw [hm]
    obtain ⟨p, k, d, t, m⟩ := n
    simp only at hm
    subst hm
    rfl
  · have hh : (takeS Sg.zero 0 n).have'[0]? = some true := by
      unfold takeS Sg.zero
      simp [hk]
    have key : ∀ s : Sg, s.told = true → Alike s.node n → s.have'[0]? = some true → (upS s).told = true ∧ Alike (upS s).node n ∧ (upS s).have'[0]? = some true := fun s h1 h2 h3 => by
      obtain ⟨g1, g2, g3⟩ := up_dir (s := s) (by rw [h2.kind, hk]; decide)
      exact ⟨by rw [g1]; exact h1, g2.trans h2, by rw [g3]; exact h3⟩
    rw [goD]
    split
    · exact key _ rfl (by rw [e]; exact Alike.refl n) hh
    · obtain ⟨h1, h2⟩ := go_keep r 1 (takeS Sg.zero 0 n) rfl
      refine key _ h1 (by rw [e] at h2; exact h2) ?_
      rw [go_low r 1 _ 0 (by omega)]
      exact hh
theorem lk_in {L : List Nd} (h : treeB L = true) {n : Nd} (hn : n ∈ L) : lk L n.path = some n := by
  obtain ⟨-, -, hr⟩ := (tree_iff L).1 h
  unfold lk
  cases hf : L.find? (fun m => decide (m.path = n.path)) with
  | none =>
    rw [List.find?_eq_none] at hf
    exact absurd (decide_eq_true rfl) (hf _ hn)
  | some m =>
    have h1 := List.mem_of_find?_eq_some hf
    have h2 : m.path = n.path := by simpa using List.find?_some hf
    by_cases e : m = n
    · rw [e]
    · exfalso
      obtain ⟨i, hi⟩ := List.getElem?_of_mem h1
      obtain ⟨j, hj⟩ := List.getElem?_of_mem hn
      have hi2 := List.getElem?_eq_some_iff.1 hi
      have hj2 := List.getElem?_eq_some_iff.1 hj
      rw [List.pairwise_iff_getElem] at hr
      rcases Nat.lt_trichotomy i j with hlt | heq | hlt
      · have := hr i j hi2.1 hj2.1 hlt
        rw [hi2.2, hj2.2, h2, less_irr] at this
        cases this
      · subst heq
        rw [hi] at hj
        exact e (Option.some.inj hj)
      · have := hr j i hj2.1 hi2.1 hlt
        rw [hi2.2, hj2.2, h2, less_irr] at this
        cases this
theorem root_part (L : List Nd) (Ls : List (List Nd)) (h4 : (L :: Ls).length ≤ 4) {q : ByteArray} (h : q.size = 0) : (seenS (L :: Ls) q).have'[0]? = some true := by
  have e : q = ⟨#[]⟩ := by
    cases q with
    | mk a => have : a = #[] := Array.size_eq_zero_iff.1 h; rw [this]
  subst e
  rw [(at4_root h4).parts]
  simp [partsB]
/-- The uppermost layer has a part in each of its directories. -/
theorem first_part {L : List Nd} {Ls : List (List Nd)} (h4 : (L :: Ls).length ≤ 4) (hL : treeB L = true) : ∀ (N : Nat) (q : ByteArray), (names q).length = N → pathB q = true → (q.size = 0 ∨ ∃ m ∈ L, m.path = q ∧ m.kind = 1) → (seenS (L :: Ls) q).have'[0]? = some true := by
  intro N
  induction N with
  | zero =>
    intro q hN hq _
    refine root_part L Ls h4 ?_
    by_cases h : q.size = 0
    · exact h
    · have := names_pos h; omega
  | succ N ih =>
    intro q hN hq hd
    rcases hd with h0 | ⟨m, hm, he, hk⟩
    · exact root_part L Ls h4 h0
    · subst he
      have hz := (node_way hL hm).2
      obtain ⟨-, hnd, hr⟩ := (tree_iff L).1 hL
      have hn := kid_names hq hz rfl
      have hpq := parent_ok hq
      have hpart := ih (parent m.path) (by rw [hn, List.length_append, List.length_singleton] at hN; omega) hpq ((dirS_iff hr _).1 (hnd m hm).2)
      rw [seen_kid hpq hq hn]
      cases hh : (seenS (L :: Ls) (parent m.path)).have' with
      | nil => rw [hh] at hpart; cases hpart
      | cons a ab =>
        rw [hh] at hpart
        have ha : a = true := by simpa using hpart
        subst ha
        rw [nsOf, if_pos rfl, lk_in hL hm]
        exact ((dec_first (hnd m hm).1 _).2.2 hk).2.2
/-- What stands in the uppermost layer is decided first. -/
theorem first_seen {L : List Nd} {Ls : List (List Nd)} (h4 : (L :: Ls).length ≤ 4) (hL : treeB L = true) {n : Nd} (hn : n ∈ L) : nodeB n = true ∧ ∃ r, seenS (L :: Ls) n.path = decS (some n :: r) := by
  obtain ⟨hp, hz⟩ := node_way hL hn
  obtain ⟨-, hnd, hr⟩ := (tree_iff L).1 hL
  have hnm := kid_names hp hz rfl
  have hpq := parent_ok hp
  have hpart := first_part (Ls := Ls) h4 hL _ (parent n.path) rfl hpq ((dirS_iff hr _).1 (hnd n hn).2)
  refine ⟨(hnd n hn).1, ?_⟩
  rw [seen_kid hpq hp hnm]
  cases hh : (seenS (L :: Ls) (parent n.path)).have' with
  | nil => rw [hh] at hpart; cases hpart
  | cons a ab =>
    rw [hh] at hpart
    have ha : a = true := by simpa using hpart
    subst ha
    rw [nsOf, if_pos rfl, lk_in hL hn]
    exact ⟨_, rfl⟩
/-- What SeenAt answers of a node of the uppermost layer. -/
theorem first_says {Ls : List (List Nd)} (hl : layB Ls = true) {L : List Nd} (h0 : Ls[0]? = some L) {n : Nd} (hn : n ∈ L) :
    ∃ (np : ByteArray) (nk : Int) (nd : ByteArray) (nt nm c : Int), seenV Ls n.path = .agg #[.string np, .int .i64 nk, .string nd, .int .i64 nt, .int .i64 nm, .int .i64 c] ∧
      (n.kind = 0 → c = 0 → nk = 0) ∧ (n.kind = 2 → np = n.path ∧ nk = 2 ∧ nd = n.data ∧ nt = n.time ∧ nm = n.mark ∧ c = 0) ∧ (n.kind = 1 → c = 0 ∧ nk = 1 ∧ nt = n.time) ∧ (n.kind = 0 ∨ n.kind = 1 ∨ n.kind = 2) := by
  obtain ⟨h4, htr⟩ := lay_ok hl
  cases Ls with
  | nil => cases h0
  | cons M Ls =>
    have e : M = L := by simpa using h0
    subst e
    have hL := htr M List.mem_cons_self
    obtain ⟨hp, hz⟩ := node_way hL hn
    obtain ⟨hb, r, hs⟩ := first_seen (Ls := Ls) h4 hL hn
    obtain ⟨f0, f2, f1⟩ := dec_first hb r
    rw [← hs] at f0 f2 f1
    have h8 : ¬ 8000 < n.path.size := by have := pathB_le hp; omega
    rw [seen_end h8 hl hz hp]
    have hk3 : n.kind = 0 ∨ n.kind = 1 ∨ n.kind = 2 := by
      unfold nodeB at hb
      simp only [Bool.and_eq_true, decide_eq_true_eq] at hb
      have h2 := hb.2
      unfold kindB at h2
      by_cases k0 : n.kind = 0
      · exact .inl k0
      by_cases k1 : n.kind = 1
      · exact .inr (.inl k1)
      by_cases k2 : n.kind = 2
      · exact .inr (.inr k2)
      simp [k0, k1, k2] at h2
    by_cases ht : (seenS (M :: Ls) n.path).told = true
    · rw [if_pos ht]
      refine ⟨_, _, _, _, _, _, rfl, fun hk _ => f0 hk ht, fun hk => ?_, fun hk => ?_, hk3⟩
      · rw [(f2 hk).2]
        exact ⟨rfl, hk, rfl, rfl, rfl, rfl⟩
      · obtain ⟨-, g2, -⟩ := f1 hk
        exact ⟨rfl, g2.kind.trans hk, g2.time⟩
    · rw [if_neg ht]
      refine ⟨_, _, _, _, _, _, rfl, fun _ h => (by cases h), fun hk => absurd (f2 hk).1 ht, fun hk => absurd (f1 hk).1 ht, hk3⟩
end Pl
end Go.Proofs.YtepmojmelcngeaaGreatDoor

/- A layer more below changes nothing of what is seen already. -/
namespace Go.Proofs.YtepmojmelcngeaaGreatDoor
namespace Pl
/-- What is seen ahead is seen behind. -/
structure Agr (k : Nat) (s t : Sg) : Prop where
  part : ∀ i, i < k → s.have'[i]? = t.have'[i]?
  told : s.told = true → s.node.kind ≠ 0 → t.told = true ∧ Alike t.node s.node
theorem ns_nil (ab : List Bool) (p : ByteArray) : nsOf ab [] p = [] := by cases ab <;> rfl
theorem ns_more (p : ByteArray) (T : List Nd) : ∀ (Ls : List (List Nd)) (ab ab' : List Bool), Ls.length < ab'.length → Ls.length ≤ ab.length → (∀ i, i < Ls.length → ab[i]? = ab'[i]?) → ∃ x, nsOf ab' (Ls ++ [T]) p = nsOf ab Ls p ++ [x] := by
  intro Ls
  induction Ls with
  | nil =>
    intro ab ab' h _ _
    cases ab' with
    | nil => simp at h
    | cons a r => exact ⟨if a then lk T p else none, by rw [ns_nil]; show nsOf (a :: r) [T] p = _; rw [nsOf, ns_nil]; rfl⟩
  | cons L Ls ih =>
    intro ab ab' h1 h2 h3
    cases ab' with
    | nil => simp at h1
    | cons a' r' =>
      cases ab with
      | nil => simp at h2
      | cons a r =>
        have e : a = a' := by simpa using h3 0 (by simp)
        subst e
        obtain ⟨x, hx⟩ := ih r r' (by simpa using h1) (by simpa using h2) (fun i hi => by simpa using h3 (i + 1) (by simpa using hi))
        exact ⟨x, by rw [List.cons_append, nsOf, hx, nsOf]; rfl⟩
theorem go_more : ∀ (ns : List (Option Nd)) (k : Nat) (s : Sg) (x : Option Nd), (s.told = true → s.node.kind = 1) → goD k s (ns ++ [x]) = goD k s ns ∨ (((goD k s ns).told = true → (goD k s ns).node.kind = 1) ∧ ∃ n, goD k s (ns ++ [x]) = takeS (goD k s ns) (k + ns.length) n) := by
  intro ns
  induction ns with
  | nil =>
    intro k s x hs
    cases x with
    | none => exact .inl rfl
    | some n =>
      refine .inr ⟨hs, n, ?_⟩
      show goD k s [some n] = takeS s (k + 0) n
      rw [goD]
      split <;> rfl
  | cons y ns ih =>
    intro k s x hs
    cases y with
    | none =>
      have := ih (k + 1) s x hs
      rw [show k + 1 + ns.length = k + (none :: ns : List (Option Nd)).length by simp; omega] at this
      exact this
    | some n =>
      rw [List.cons_append, goD, goD]
      by_cases h : stopB n = true
      · rw [if_pos h, if_pos h]; exact .inl rfl
      · rw [if_neg h, if_neg h]
        have hk : n.kind = 1 := by
          simp [stopB] at h
          exact h.1
        have := ih (k + 1) (takeS s k n) x (fun _ => by
          unfold takeS markMax
          cases hst : s.told
          · simpa using hk
          · simpa using hs hst)
        rw [show k + 1 + ns.length = k + (some n :: ns : List (Option Nd)).length by simp; omega] at this
        exact this
theorem go_zero : ∀ (ns : List (Option Nd)) (k : Nat) (s : Sg), (goD k s ns).told = false → goD k s ns = s := by
  intro ns
  induction ns with
  | nil => intro k s _; rfl
  | cons y ns ih =>
    intro k s h
    cases y with
    | none => exact ih _ _ h
    | some n =>
      exfalso
      rw [goD] at h
      split at h
      · cases h
      · have := (go_keep ns (k + 1) (takeS s k n) rfl).1
        rw [this] at h
        cases h
theorem go_length : ∀ (ns : List (Option Nd)) (k : Nat) (s : Sg), (goD k s ns).have'.length = s.have'.length := by
  intro ns
  induction ns with
  | nil => intro k s; rfl
  | cons y ns ih =>
    intro k s
    cases y with
    | none => exact ih _ _
    | some n =>
      rw [goD]
      split
      · exact take_len s k n
      · rw [ih, take_len]
theorem dec_length (ns : List (Option Nd)) : (decS ns).have'.length = 4 := up_len (by rw [go_length]; rfl)
theorem up_zero : upS Sg.zero = Sg.zero := by
  unfold upS
  split <;> rfl
theorem dec_more (ns : List (Option Nd)) (x : Option Nd) : Agr ns.length (decS ns) (decS (ns ++ [x])) := by
  have h := go_more ns 0 Sg.zero x (fun h => by cases h)
  unfold decS
  rcases h with e | ⟨hd, n, e⟩
  · rw [e]; exact ⟨fun _ _ => rfl, fun h _ => ⟨h, Alike.refl _⟩⟩
  · rw [e, Nat.zero_add]
    have hset : ∀ (s : Sg) (i : Nat), i < ns.length → (takeS s ns.length n).have'[i]? = s.have'[i]? := fun s i hi => by
      unfold takeS
      simp only
      rw [List.getElem?_set_ne (by omega)]
    cases ht : (goD 0 Sg.zero ns).told
    · rw [go_zero _ _ _ ht, up_zero]
      refine ⟨fun i hi => ?_, fun h => by cases h⟩
      unfold upS
      split
      · rfl
      · exact (hset Sg.zero i hi).symm
    · have hk := hd ht
      have ha := take_told (k := ns.length) (n := n) ht
      obtain ⟨u1, u2, u3⟩ := up_dir (s := goD 0 Sg.zero ns) (by rw [hk]; decide)
      obtain ⟨v1, v2, v3⟩ := up_dir (s := takeS (goD 0 Sg.zero ns) ns.length n) (by rw [ha.kind, hk]; decide)
      refine ⟨fun i hi => by rw [u3, v3, hset _ i hi], fun _ _ => ⟨by rw [v1]; rfl, ?_⟩⟩
      have u2' : Alike (goD 0 Sg.zero ns).node (upS (goD 0 Sg.zero ns)).node := ⟨u2.1.symm, u2.2.symm, u2.3.symm, u2.4.symm⟩
      exact v2.trans (ha.trans u2')
theorem walk_more (Ls : List (List Nd)) (T : List Nd) (h4 : Ls.length < 4) : ∀ (ps : List ByteArray) (s t : Sg), s.have'.length = 4 → t.have'.length = 4 → Agr Ls.length s t → Agr Ls.length (walkS Ls s ps) (walkS (Ls ++ [T]) t ps) := by
  intro ps
  induction ps with
  | nil => intro s t _ _ h; exact h
  | cons p ps ih =>
    intro s t hs ht h
    obtain ⟨x, hx⟩ := ns_more p T Ls s.have' t.have' (by omega) (by omega) h.part
    have hd : Agr Ls.length (decS (nsOf s.have' Ls p)) (decS (nsOf t.have' (Ls ++ [T]) p)) := by
      rw [hx]
      have := dec_more (nsOf s.have' Ls p) x
      rw [ns_len p _ Ls (by omega)] at this
      exact this
    exact ih _ _ (dec_length _) (dec_length _) hd
theorem seen_more (Ls : List (List Nd)) (T : List Nd) (h4 : Ls.length < 4) (p : ByteArray) : Agr Ls.length (seenS Ls p) (seenS (Ls ++ [T]) p) := by
  refine walk_more Ls T h4 _ _ _ ?_ ?_ ⟨fun i hi => ?_, fun h => by cases h⟩
  · simp [rootS, partsR]
  · simp [rootS, partsR]
  · show (partsR Ls.length)[i]? = (partsR (Ls ++ [T]).length)[i]?
    rw [List.length_append, List.length_singleton]
    generalize Ls.length = k at hi h4
    have : i = 0 ∨ i = 1 ∨ i = 2 := by omega
    rcases this with rfl | rfl | rfl
    all_goals
      simp only [partsR, kA1, kA2]
      congr 1
      rw [decide_eq_decide]
      omega
/-- What SeenAt answers of a node that was seen ahead of the layer more. -/
theorem more_says {Ls : List (List Nd)} {T : List Nd} (hl : layB Ls = true) (hl2 : layB (Ls ++ [T]) = true) {n : Nd} (hn : n ∈ allO Ls) (hk : n.kind ≠ 0) :
    ∃ (np : ByteArray) (nm : Int), seenV (Ls ++ [T]) n.path = .agg #[.string np, .int .i64 n.kind, .string n.data, .int .i64 n.time, .int .i64 nm, .int .i64 0] := by
  obtain ⟨h4, htr⟩ := lay_ok hl
  have h5 := (lay_ok hl2).1
  rw [List.length_append, List.length_singleton] at h5
  obtain ⟨h1, h2, hp, hz⟩ := told_path htr (((all_told h4 htr).mem n).1 hn)
  have hg := (seen_more Ls T (by omega) n.path).told h1 (by rw [← h2]; exact hk)
  rw [← h2] at hg
  obtain ⟨g1, g2⟩ := hg
  have h8 : ¬ 8000 < n.path.size := by have := pathB_le hp; omega
  rw [seen_end h8 hl2 hz hp, if_pos g1]
  exact ⟨_, _, by rw [g2.kind, g2.data, g2.time]⟩
end Pl
end Go.Proofs.YtepmojmelcngeaaGreatDoor

