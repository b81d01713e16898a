/- Several texts of one claim in one file: PlainParts, PlainPartsB. -/
import Derived.Test.YtibmflhelgedeaaGreatDoorG75
import Derived.Test.YtibmflhelgedeaaGreatDoorWPlainT
import Derived.Test.YtibmflhelgedeaaGreatDoorPlainTreeI
import Derived.Test.YtibmflhelgedeaaGreatDoorG38
import Derived.Test.YtibmflhelgedeaaGreatDoorPlainGather
import Derived.Test.YtibmflhelgedeaaGreatDoorPlainSeen
import Derived.Test.YtibmflhelgedeaaGreatDoorPlainGetV
/- What is plain; who has a part in a path: plain facts of FnParts. -/
namespace Go.Proofs.YtibmflhelgedeaaGreatDoor
namespace Pl
theorem bare_node {n : Nd} (h : nodeB n = true) (hk : n.kind ≠ 0) : nodeB n.bare = true := by
  simp only [nodeB, Bool.and_eq_true, decide_eq_true_eq] at h ⊢
  obtain ⟨⟨⟨⟨⟨h1, h2⟩, h3⟩, h4⟩, h5⟩, h6⟩ := h
  refine ⟨⟨⟨⟨⟨h1, h2⟩, h3⟩, h4⟩, by simp [Nd.bare]⟩, ?_⟩
  unfold kindB at h6 ⊢
  have e : n.bare.kind = n.kind := rfl
  rw [e, if_neg hk] at *
  by_cases hk1 : n.kind = 1
  · rw [if_pos hk1] at h6 ⊢; exact h6
  · rw [if_neg hk1] at h6 ⊢
    by_cases hk2 : n.kind = 2
    · rw [if_pos hk2]; simp [Nd.bare]
    · rw [if_neg hk2] at h6; cases h6
theorem plainL_mem {L : List Nd} {n : Nd} : n ∈ plainL L ↔ ∃ m ∈ L, m.kind ≠ 0 ∧ m.bare = n := by
  unfold plainL
  rw [List.mem_map]
  constructor
  · rintro ⟨m, hm, e⟩
    obtain ⟨h1, h2⟩ := List.mem_filter.1 hm
    exact ⟨m, h1, by simpa using h2, e⟩
  · rintro ⟨m, h1, h2, e⟩
    exact ⟨m, List.mem_filter.2 ⟨h1, by simpa using h2⟩, e⟩
theorem plainL_tree {L : List Nd} (h : treeB L = true) : treeB (plainL L) = true := by
  rw [tree_iff] at h ⊢
  obtain ⟨h1, h2, h3⟩ := h
  have hp : (plainL L).Pairwise (fun a b => lessL (names a.path) (names b.path) = true) := by
    unfold plainL
    rw [List.pairwise_map]
    exact h3.filter _
  refine ⟨?_, fun n hn => ?_, hp⟩
  · have := plainL_len L L.length
    rw [List.take_length] at this
    omega
  · obtain ⟨m, hm, hk, rfl⟩ := plainL_mem.1 hn
    refine ⟨bare_node (h2 m hm).1 hk, ?_⟩
    rw [dirS_iff hp]
    rcases (dirS_iff h3 _).1 (h2 m hm).2 with hz | ⟨q, hq, e, hq1⟩
    · exact .inl hz
    · exact .inr ⟨q.bare, plainL_mem.2 ⟨q, hq, by rw [hq1]; decide, rfl⟩, e, hq1⟩
theorem plainL_again (L : List Nd) : plainL (plainL L) = plainL L := by
  induction L with
  | nil => rfl
  | cons n L ih =>
    by_cases hk : n.kind = 0
    · have e : plainL (n :: L) = plainL L := by simp [plainL, hk]
      rw [e, ih]
    · have e : plainL (n :: L) = n.bare :: plainL L := by simp [plainL, hk]
      have e2 : plainL (n.bare :: plainL L) = n.bare.bare :: plainL (plainL L) := by
        have hk2 : n.bare.kind ≠ 0 := hk
        simp [plainL, hk2]
      rw [e, e2, ih]
      rfl
theorem plainL_plain {L : List Nd} (h : treeB L = true) : plainB (plainL L) = true := by
  unfold plainB
  rw [plainL_tree h, Bool.true_and, List.all_eq_true]
  intro n hn
  obtain ⟨m, -, -, rfl⟩ := plainL_mem.1 hn
  rfl
/-- Of what is decided: somebody has a part just if a directory is told. -/
structure Fits (s : Sg) : Prop where
  yes : s.told = true → s.node.kind = 1 → ∃ i : Nat, s.have'[i]? = some true
  no : ∀ i : Nat, s.have'[i]? = some true → s.told = true ∧ s.node.kind = 1
theorem take_kind (s : Sg) (k : Nat) (n : Nd) : (takeS s k n).node.kind = if s.told = true then s.node.kind else n.kind := by
  unfold takeS markMax
  by_cases h : s.told = true <;> simp [h]
theorem go_fits : ∀ (ns : List (Option Nd)) (k : Nat) (s : Sg), k + ns.length ≤ s.have'.length → Fits s → (s.told = true → s.node.kind = 1) → (∀ i, k ≤ i → s.have'[i]? ≠ some true) → Fits (goD k s ns) := by
  intro ns
  induction ns with
  | nil => intro k s _ h _ _; exact h
  | cons x ns ih =>
    intro k s hl hf hs hk
    rw [List.length_cons] at hl
    cases x with
    | none => exact ih (k + 1) s (by omega) hf hs (fun i hi => hk i (by omega))
    | some n =>
      have hlt : k < s.have'.length := by omega
      have hset : ∀ i : Nat, (takeS s k n).have'[i]? = if k = i then some (decide (n.kind = 1)) else s.have'[i]? := fun i => by
        show (s.have'.set k (decide (n.kind = 1)))[i]? = _
        rw [List.getElem?_set]
        by_cases e : k = i
        · subst e; rw [if_pos rfl, if_pos rfl, if_pos hlt]
        · rw [if_neg e, if_neg e]
      have ht : (takeS s k n).told = true := rfl
      have f2 : Fits (takeS s k n) := by
        refine ⟨fun _ h1 => ?_, fun i hi => ⟨ht, ?_⟩⟩
        · rw [take_kind] at h1
          by_cases hst : s.told = true
          · rw [if_pos hst] at h1
            obtain ⟨i, hi⟩ := hf.yes hst h1
            have : i ≠ k := fun e => hk i (by omega) hi
            exact ⟨i, by rw [hset, if_neg (fun e => this e.symm)]; exact hi⟩
          · rw [if_neg hst] at h1
            exact ⟨k, by rw [hset, if_pos rfl, h1]; rfl⟩
        · rw [take_kind]
          rw [hset] at hi
          by_cases hst : s.told = true
          · rw [if_pos hst]; exact hs hst
          · rw [if_neg hst]
            by_cases e : k = i
            · rw [if_pos e] at hi
              simpa using hi
            · rw [if_neg e] at hi
              exact absurd (hf.no i hi).1 hst
      rw [goD]
      by_cases hst : stopB n = true
      · rw [if_pos hst]; exact f2
      · rw [if_neg hst]
        have hk1 : n.kind = 1 := by
          simp [stopB] at hst
          exact hst.1
        refine ih (k + 1) _ (by rw [take_len]; omega) f2 (fun _ => ?_) (fun i hi => ?_)
        · rw [take_kind]
          by_cases h2 : s.told = true
          · rw [if_pos h2]; exact hs h2
          · rw [if_neg h2]; exact hk1
        · rw [hset, if_neg (by omega)]
          exact hk i (by omega)
theorem dec_fits (ns : List (Option Nd)) (h : ns.length ≤ 4) : Fits (decS ns) := by
  have z : Fits Sg.zero := ⟨fun h => by (cases h), fun i hi => by
    exfalso
    have : i < 4 := (List.getElem?_eq_some_iff.1 hi).1
    match i, this, hi with
    | 0, _, hi => cases hi
    | 1, _, hi => cases hi
    | 2, _, hi => cases hi
    | 3, _, hi => cases hi⟩
  have f := go_fits ns 0 Sg.zero (by show 0 + ns.length ≤ 4; omega) z (fun h => by (cases h)) (fun i _ hi => by have := (z.no i hi).1; cases this)
  unfold decS upS
  split
  · exact z
  · exact ⟨f.yes, f.no⟩
end Pl
end Go.Proofs.YtibmflhelgedeaaGreatDoor

/- Who has a part in a path: plain facts of FnParts. -/
namespace Go.Proofs.YtibmflhelgedeaaGreatDoor
namespace Pl
theorem go_have : ∀ (ns : List (Option Nd)) (k : Nat) (s : Sg) (i : Nat), (goD k s ns).have'[i]? = some true → s.have'[i]? = some true ∨ ∃ n, k ≤ i ∧ ns[i - k]? = some (some n) ∧ n.kind = 1 := by
  intro ns
  induction ns with
  | nil => intro k s i h; exact .inl h
  | cons x ns ih =>
    intro k s i h
    have shift : (∃ n, k + 1 ≤ i ∧ ns[i - (k + 1)]? = some (some n) ∧ n.kind = 1) → ∃ n, k ≤ i ∧ (x :: ns)[i - k]? = some (some n) ∧ n.kind = 1 := by
      rintro ⟨n, h1, h2, h3⟩
      exact ⟨n, by omega, by rw [show i - k = i - (k + 1) + 1 by omega, List.getElem?_cons_succ]; exact h2, h3⟩
    cases x with
    | none =>
      rcases ih (k + 1) s i h with h | h
      · exact .inl h
      · exact .inr (shift h)
    | some n =>
      have key : (takeS s k n).have'[i]? = some true → s.have'[i]? = some true ∨ ∃ m, k ≤ i ∧ (some n :: ns)[i - k]? = some (some m) ∧ m.kind = 1 := fun h => by
        have h2 : (s.have'.set k (decide (n.kind = 1)))[i]? = some true := h
        rw [List.getElem?_set] at h2
        by_cases e : k = i
        · subst e
          rw [if_pos rfl] at h2
          split at h2
          · exact .inr ⟨n, Nat.le_refl _, by rw [Nat.sub_self]; rfl, by simpa using h2⟩
          · cases h2
        · rw [if_neg e] at h2
          exact .inl h2
      rw [goD] at h
      split at h
      · exact key h
      · rcases ih (k + 1) _ i h with h | h
        · exact key h
        · exact .inr (shift h)
theorem dec_have {ns : List (Option Nd)} {i : Nat} (h : (decS ns).have'[i]? = some true) : ∃ n, ns[i]? = some (some n) ∧ n.kind = 1 := by
  have z : ∀ i : Nat, Sg.zero.have'[i]? ≠ some true := fun i hi => by
    have : i < 4 := (List.getElem?_eq_some_iff.1 hi).1
    match i, this, hi with
    | 0, _, hi => cases hi
    | 1, _, hi => cases hi
    | 2, _, hi => cases hi
    | 3, _, hi => cases hi
  unfold decS upS at h
  split at h
  · exact absurd h (z i)
  · rcases go_have ns 0 Sg.zero i h with h | ⟨n, -, h2, h3⟩
    · exact absurd h (z i)
    · exact ⟨n, h2, h3⟩
theorem ns_at : ∀ (ab : List Bool) (Ls : List (List Nd)) (p : ByteArray) (i : Nat) (n : Nd), (nsOf ab Ls p)[i]? = some (some n) → ∃ L, Ls[i]? = some L ∧ lk L p = some n := by
  intro ab
  induction ab with
  | nil => intro Ls p i n h; cases Ls <;> simp [nsOf] at h
  | cons a ab ih =>
    intro Ls p i n h
    cases Ls with
    | nil => simp [nsOf] at h
    | cons L Ls =>
      rw [nsOf] at h
      cases i with
      | zero =>
        rw [List.getElem?_cons_zero] at h
        cases a
        · simp at h
        · exact ⟨L, rfl, by simpa using h⟩
      | succ i =>
        rw [List.getElem?_cons_succ] at h
        obtain ⟨M, h1, h2⟩ := ih Ls p i n h
        exact ⟨M, by rw [List.getElem?_cons_succ]; exact h1, h2⟩
theorem ns_le : ∀ (ab : List Bool) (Ls : List (List Nd)) (p : ByteArray), (nsOf ab Ls p).length ≤ Ls.length := by
  intro ab
  induction ab with
  | nil => intro Ls p; cases Ls <;> simp [nsOf]
  | cons a ab ih =>
    intro Ls p
    cases Ls with
    | nil => simp [nsOf]
    | cons L Ls => simpa [nsOf] using ih Ls p
theorem getD_some {l : List Bool} {i : Nat} : l.getD i false = true ↔ l[i]? = some true := by
  rw [List.getD_eq_getElem?_getD]
  cases l[i]? with
  | none => simp
  | some b => simp
theorem lay_in {Ls : List (List Nd)} {p : ByteArray} {i : Nat} (h : i ∈ layO Ls p) : layB Ls = true ∧ pathB p = true ∧ i < Ls.length ∧ (seenS Ls p).have'[i]? = some true := by
  unfold layO at h
  split at h
  · rename_i h2
    obtain ⟨h3, h4⟩ := List.mem_filter.1 h
    exact ⟨h2.1, h2.2, List.mem_range.1 h3, getD_some.1 h4⟩
  · cases h
theorem lay_rise (Ls : List (List Nd)) (p : ByteArray) : (layO Ls p).Pairwise (· < ·) := by
  unfold layO
  split
  · exact List.pairwise_lt_range.filter _
  · exact List.Pairwise.nil
/-- Each that has a part in a path has a directory there. -/
theorem lay_dir {Ls : List (List Nd)} {p : ByteArray} {i : Nat} (h : i ∈ layO Ls p) (hz : ¬ p.size = 0) : ∃ (L : List Nd) (n : Nd), Ls[i]? = some L ∧ getV L p = .agg #[.string n.path, .int .i64 1, .string n.data, .int .i64 n.time, .int .i64 n.mark, .int .i64 0] := by
  obtain ⟨hl, hp, -, hh⟩ := lay_in h
  obtain ⟨ab, e⟩ := seen_dec (Ls := Ls) hp hz
  rw [e] at hh
  obtain ⟨n, h1, h2⟩ := dec_have hh
  obtain ⟨L, h3, h4⟩ := ns_at ab Ls p i n h1
  have htr := (lay_ok hl).2 L (List.mem_of_getElem? h3)
  have h8 : ¬ 8000 < p.size := by have := pathB_le hp; omega
  refine ⟨L, n, h3, ?_⟩
  rw [get_some h8 (by rw [htr, hp]; simp [hz]) h4, h2]
/-- Some have a part in a path just if a directory is seen there. -/
theorem lay_says (Ls : List (List Nd)) {p : ByteArray} (hz : ¬ p.size = 0) : ∃ (np : ByteArray) (nk : Int) (nd : ByteArray) (nt nm c : Int), seenV Ls p = .agg #[.string np, .int .i64 nk, .string nd, .int .i64 nt, .int .i64 nm, .int .i64 c] ∧ (layO Ls p ≠ [] ↔ c = 0 ∧ nk = 1) := by
  by_cases h8 : 8000 < p.size
  · refine ⟨⟨#[]⟩, 0, ⟨#[]⟩, 0, 0, 2, by rw [seenV, if_pos h8], ?_⟩
    have : pathB p = false := by
      cases hp : pathB p
      · rfl
      · have := pathB_le hp; omega
    rw [layO_no (.inr this)]
    simp
  by_cases hb : layB Ls = false ∨ p.size = 0 ∨ pathB p = false
  · refine ⟨_, _, _, _, _, _, seen_form h8 hb, ?_⟩
    have : layB Ls = false ∨ pathB p = false := by
      rcases hb with h | h | h
      · exact .inl h
      · exact absurd h hz
      · exact .inr h
    rw [layO_no this]
    simp
  have hl : layB Ls = true := by
    cases h : layB Ls
    · exact absurd (.inl h) hb
    · rfl
  have hp : pathB p = true := by
    cases h : pathB p
    · exact absurd (.inr (.inr h)) hb
    · rfl
  obtain ⟨ab, e⟩ := seen_dec (Ls := Ls) hp hz
  have hf : Fits (seenS Ls p) := by
    rw [e]
    exact dec_fits _ (Nat.le_trans (ns_le ab Ls p) (lay_ok hl).1)
  have hne : layO Ls p ≠ [] ↔ (seenS Ls p).told = true ∧ (seenS Ls p).node.kind = 1 := by
    constructor
    · intro h
      obtain ⟨i, hi⟩ := List.exists_mem_of_ne_nil _ h
      exact hf.no i (lay_in hi).2.2.2
    · rintro ⟨h1, h2⟩ h3
      obtain ⟨i, hi⟩ := hf.yes h1 h2
      have hlt : i < Ls.length := by
        have hi2 := hi
        rw [e] at hi2
        obtain ⟨n, g1, -⟩ := dec_have hi2
        obtain ⟨M, g2, -⟩ := ns_at ab Ls p i n g1
        exact (List.getElem?_eq_some_iff.1 g2).1
      have : i ∈ layO Ls p := by
        rw [layO_yes hl hp]
        exact List.mem_filter.2 ⟨List.mem_range.2 hlt, getD_some.2 hi⟩
      rw [h3] at this
      cases this
  rw [seen_end h8 hl hz hp]
  by_cases ht : (seenS Ls p).told = true
  · rw [if_pos ht]
    exact ⟨_, _, _, _, _, _, rfl, by rw [hne]; simp [ht]⟩
  · rw [if_neg ht]
    exact ⟨_, _, _, _, _, _, rfl, by rw [hne]; simp [ht]⟩
end Pl
end Go.Proofs.YtibmflhelgedeaaGreatDoor

