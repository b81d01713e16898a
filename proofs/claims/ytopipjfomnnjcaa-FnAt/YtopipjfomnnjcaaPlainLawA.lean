/- What the law of texts seen from a path asks. No program in sight. -/
import Derived.Test.YtopipjfomnnjcaaPlainLaw
namespace Go.Proofs.Ytopipjfomnnjcaa
namespace Pl
theorem name_first {t : ByteArray} (h : nameB t = true) : by_ t ≠ [] ∧ by_ t ≠ [46] ∧ by_ t ≠ [46, 46] := by
  have h1 := of_decide_eq_true h
  have h2 := h1.2.2 0 (by omega)
  have h3 : (t.data.toList.getD 0 0).toNat ≠ 46 := by
    intro e
    rw [e] at h2
    revert h2
    decide
  have h4 : by_ t ≠ [] := (name_free h).2.1
  refine ⟨h4, fun e => h3 ?_, fun e => h3 ?_⟩
  · change ((by_ t).getD 0 0).toNat = 46; rw [e]; rfl
  · change ((by_ t).getD 0 0).toNat = 46; rw [e]; rfl
theorem step_name {h : List ByteArray} {t : ByteArray} (hn : nameB t = true) (hl : h.length ≤ 5) : stepW h t = .ok (h ++ [t]) := by
  obtain ⟨h1, h2, h3⟩ := name_first hn
  exact step_into (fun e => e.elim h1 h2) h3 (by rw [hn]; simp) (by omega)
theorem walk_names : ∀ (N h : List ByteArray), (∀ t ∈ N, nameB t = true) → h.length + N.length ≤ 6 → walkW h N = .ok (h ++ N) := by
  intro N
  induction N with
  | nil => intro h _ _; rw [walkW, List.append_nil]
  | cons n N ih =>
    intro h hn hl
    rw [List.length_cons] at hl
    rw [walkW, step_name (hn n List.mem_cons_self) (by omega)]
    show walkW (h ++ [n]) N = _
    rw [ih (h ++ [n]) (fun t ht => hn t (List.mem_cons_of_mem _ ht)) (by rw [List.length_append]; simp; omega)]
    simp
theorem walk_append : ∀ (A B h : List ByteArray), walkW h (A ++ B) = match walkW h A with | .ok h' => walkW h' B | .error c => .error c := by
  intro A
  induction A with
  | nil => intro B h; rw [List.nil_append, walkW]
  | cons a A ih =>
    intro B h
    rw [List.cons_append, walkW, walkW]
    cases stepW h a with
    | error c => rfl
    | ok h' => exact ih B h'
theorem walk_all : ∀ (A h h' : List ByteArray), walkW h A = .ok h' → (∀ u ∈ h, nameB u = true) → h.length ≤ 6 → (∀ u ∈ h', nameB u = true) ∧ h'.length ≤ 6 := by
  intro A
  induction A with
  | nil => intro h h' e ha hl; rw [walkW] at e; cases e; exact ⟨ha, hl⟩
  | cons a A ih =>
    intro h h' e ha hl
    rw [walkW] at e
    cases hs : stepW h a with
    | error c => rw [hs] at e; cases e
    | ok h1 =>
      rw [hs] at e
      have := step_all hs ha hl
      exact ih h1 h' e this.1 this.2
theorem walk_code : ∀ (A h : List ByteArray) (c : Int), walkW h A = .error c → c ≠ 0 := by
  intro A
  induction A with
  | nil => intro h c e; rw [walkW] at e; cases e
  | cons a A ih =>
    intro h c e
    rw [walkW] at e
    cases hs : stepW h a with
    | error c' =>
      rw [hs] at e
      cases e
      unfold stepW at hs
      split at hs
      · cases hs
      split at hs
      · cases hs
      split at hs
      · cases hs; decide
      split at hs
      · cases hs; decide
      · cases hs
    | ok h1 => rw [hs] at e; exact ih h1 c e
theorem by_app (a b : ByteArray) : by_ (a ++ b) = by_ a ++ by_ b := by simp [by_]
theorem cut_two (t u : ByteArray) : cut (t ++ ⟨#[47]⟩ ++ u) 47 = cut t 47 ++ cut u 47 := by
  apply map_by_inj
  rw [cut_list, List.map_append, cut_list, cut_list, by_app, by_app]
  have : by_ (⟨#[47]⟩ : ByteArray) = [47] := rfl
  rw [this, List.append_assoc]
  exact cutL_append _ _
theorem cut_lead (x : ByteArray) : cut ((⟨#[47]⟩ : ByteArray) ++ x) 47 = ⟨#[]⟩ :: cut x 47 := by
  apply map_by_inj
  rw [cut_list, List.map_cons, cut_list, by_app]
  exact cutL_hit _
theorem slash_lead (x : ByteArray) : slashB ((⟨#[47]⟩ : ByteArray) ++ x) = true := by
  unfold slashB
  rw [by_app]
  rfl
theorem slash_two {t : ByteArray} (u : ByteArray) (h : 0 < t.size) : slashB (t ++ ⟨#[47]⟩ ++ u) = slashB t := by
  unfold slashB
  rw [by_app, by_app]
  cases ht : by_ t with
  | nil => rw [by_nil] at ht; omega
  | cons a l => rfl
theorem walk_glue {L : List ByteArray} (h : ∀ t ∈ L, nameB t = true) (h6 : L.length ≤ 6) : walkW [] (cut (glue L) 47) = .ok L := by
  by_cases h0 : L = []
  · subst h0
    have : cut (glue []) 47 = [⟨#[]⟩] := by apply map_by_inj; rw [cut_list, by_glue]; rfl
    rw [this, walkW, step_stay (.inl rfl)]
    rfl
  · have : cut (glue L) 47 = L := by
      apply map_by_inj
      rw [cut_list, by_glue, cut_glueL (by simpa using h0) (fun t ht => by
        obtain ⟨u, hu, rfl⟩ := List.mem_map.1 ht
        exact (name_free (h u hu)).1)]
    rw [this]
    exact walk_names L [] h (by simpa using h6)
theorem start_all (b t : ByteArray) : (∀ u ∈ start b t, nameB u = true) ∧ (start b t).length ≤ 6 := by
  unfold start
  split
  · simp
  · exact namesR_all b
theorem at_ok {p t : ByteArray} (hp : p.size ≤ 1000) (ht : t.size ≤ 1000) (h : (atO p t).2 = 0) :
    pathB p = true ∧ ∃ L, walkW (start p t) (cut t 47) = .ok L ∧ atO p t = (glue L, 0) ∧ (∀ u ∈ L, nameB u = true) ∧ L.length ≤ 6 := by
  unfold atO at h ⊢
  rw [if_neg (by omega)] at h ⊢
  cases hb : pathB p
  · rw [hb, if_pos rfl] at h; cases h
  · rw [hb, if_neg (by simp)] at h
    rw [if_neg (by simp)]
    cases hw : walkW (start p t) (cut t 47) with
    | error c => rw [hw] at h; exact absurd h (walk_code _ _ _ hw)
    | ok L =>
      have := walk_all _ _ _ hw (start_all p t).1 (start_all p t).2
      exact ⟨rfl, L, rfl, rfl, this.1, this.2⟩
theorem root_right : pathB (⟨#[]⟩ : ByteArray) = true := (right_root rfl).1
theorem root_names : namesR (⟨#[]⟩ : ByteArray) = [] := by rw [namesR_yes root_right]; exact (right_root rfl).2
theorem at_size {p t : ByteArray} (hp : p.size ≤ 1000) (ht : t.size ≤ 1000) : (atO p t).1.size ≤ 1000 := by
  by_cases h : (atO p t).2 = 0
  · obtain ⟨_, L, _, e, ha, hl⟩ := at_ok hp ht h
    rw [e]
    have := glue_size L (fun u hu => (name_free (ha u hu)).2.2.2)
    show (glue L).size ≤ 1000
    omega
  · unfold atO at h ⊢
    rw [if_neg (by omega)] at h ⊢
    split
    · exact Nat.zero_le _
    · cases hw : walkW (start p t) (cut t 47) with
      | error c => exact Nat.zero_le _
      | ok L => rename_i h1; rw [if_neg h1, hw] at h; exact absurd rfl h
theorem at_law {p t : ByteArray} (hp : p.size ≤ 100) (ht : t.size ≤ 100) (h : (atO p t).2 = 0) :
    pathB (atO p t).1 = true ∧ atO ⟨#[]⟩ ((⟨#[47]⟩ : ByteArray) ++ (atO p t).1) = atO p t ∧ (slashB t = true → atO ⟨#[]⟩ t = atO p t) ∧
    ∀ u : ByteArray, u.size ≤ 100 → 0 < t.size → slashB u = false → atO p (t ++ ⟨#[47]⟩ ++ u) = atO (atO p t).1 u := by
  obtain ⟨hb, L, hw, e, ha, hl⟩ := at_ok (by omega) (by omega) h
  have hz := at_size (p := p) (t := t) (by omega) (by omega)
  have e1 := pathB_glue ha hl
  have e2 := namesR_glue ha hl
  have hz2 : (glue L).size ≤ 1000 := by rw [e] at hz; exact hz
  rw [e]
  refine ⟨e1, ?_, fun hs => ?_, fun u hu h0 hs => ?_⟩
  · unfold atO
    have hsz : ((⟨#[47]⟩ : ByteArray) ++ glue L).size = 1 + (glue L).size := by rw [ByteArray.size_append]; rfl
    have h00 : (⟨#[]⟩ : ByteArray).size = 0 := rfl
    rw [if_neg (by show ¬ (8000 < (⟨#[]⟩ : ByteArray).size ∨ 8000 < ((⟨#[47]⟩ : ByteArray) ++ glue L).size); omega), if_neg (by rw [root_right]; simp)]
    have : start ⟨#[]⟩ ((⟨#[47]⟩ : ByteArray) ++ glue L) = [] := by unfold start; rw [slash_lead]; rfl
    show (match walkW (start ⟨#[]⟩ ((⟨#[47]⟩ : ByteArray) ++ glue L)) (cut ((⟨#[47]⟩ : ByteArray) ++ glue L) 47) with | .ok h => (glue h, 0) | .error c => (⟨#[]⟩, c)) = (glue L, 0)
    rw [this, cut_lead, walkW, step_stay (.inl rfl)]
    show (match walkW [] (cut (glue L) 47) with | .ok h => (glue h, 0) | .error c => (⟨#[]⟩, c)) = (glue L, 0)
    rw [walk_glue ha hl]
  · unfold atO
    have : start ⟨#[]⟩ t = start p t := by unfold start; rw [hs]; rfl
    have h00 : (⟨#[]⟩ : ByteArray).size = 0 := rfl
    rw [if_neg (by omega), if_neg (by rw [root_right]; simp), this, hw]
  · unfold atO
    have hsz : (t ++ (⟨#[47]⟩ : ByteArray) ++ u).size = t.size + 1 + u.size := by rw [ByteArray.size_append, ByteArray.size_append]; rfl
    have hst : start p (t ++ ⟨#[47]⟩ ++ u) = start p t := by unfold start; rw [slash_two u h0]
    have hst2 : start (glue L) u = L := by unfold start; rw [hs, e2]; rfl
    show (if 8000 < p.size ∨ 8000 < (t ++ (⟨#[47]⟩ : ByteArray) ++ u).size then _ else if pathB p = false then _ else match walkW (start p (t ++ ⟨#[47]⟩ ++ u)) (cut (t ++ ⟨#[47]⟩ ++ u) 47) with | .ok h => (glue h, 0) | .error c => (⟨#[]⟩, c)) = (if 8000 < (glue L).size ∨ 8000 < u.size then _ else if pathB (glue L) = false then _ else match walkW (start (glue L) u) (cut u 47) with | .ok h => (glue h, 0) | .error c => (⟨#[]⟩, c))
    rw [if_neg (by omega), if_neg (by rw [hb]; simp), if_neg (by omega), if_neg (by rw [e1]; simp), hst, hst2, cut_two, walk_append, hw]
end Pl
end Go.Proofs.Ytopipjfomnnjcaa
