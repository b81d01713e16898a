/- Several texts of one claim in one file: PlainView, PlainNX. -/
import Derived.Test.YteddcihodfkliaaGreatDoorPartN
import Derived.Test.YteddcihodfkliaaGreatDoorPartY
/- What is seen of a nest, as if it were one leaf: plain. -/
namespace Go.Proofs.YteddcihodfkliaaGreatDoor
namespace Pl
/-- All that is told of layers, if a tree has room for it. -/
def overO : Option (List (List Nd)) → Option (List Nd)
  | none => none
  | some Ls => if (allO Ls).length ≤ 40 then some (allO Ls) else none
/-- What is seen of each of a row of nests. -/
def viewsX : Fx → Option (List (List Nd))
  | .nil => some []
  | .cons L k m => match (if k.len = 0 then some L else overO (viewsX k)), viewsX m with
    | some V, some R => some (V :: R)
    | _, _ => none
/-- What is seen of a nest of these nodes and these layers. -/
def viewX (L : List Nd) (k : Fx) : Option (List Nd) := if k.len = 0 then some L else overO (viewsX k)
theorem views_cons (L : List Nd) (k m : Fx) : viewsX (.cons L k m) = match viewX L k, viewsX m with
    | some V, some R => some (V :: R)
    | _, _ => none := rfl
theorem view_leaf {L : List Nd} {k : Fx} (h : k.len = 0) : viewX L k = some L := if_pos h
theorem view_nest {L : List Nd} {k : Fx} (h : k.len ≠ 0) : viewX L k = overO (viewsX k) := if_neg h
theorem over_ok {Ls : List (List Nd)} {V : List Nd} (h4 : Ls.length ≤ 4) (htr : ∀ L ∈ Ls, treeB L = true) (h : overO (some Ls) = some V) : treeB V = true := by
  rw [show overO (some Ls) = if (allO Ls).length ≤ 40 then some (allO Ls) else none from rfl] at h
  split at h
  · cases h; exact all_tree h4 htr (by assumption)
  · cases h
theorem views_ok (X : Fx) : ∀ (Ls : List (List Nd)), X.okX → viewsX X = some Ls → Ls.length = X.len ∧ ∀ L ∈ Ls, treeB L = true := by
  induction X with
  | nil => intro Ls _ h; cases h; exact ⟨rfl, fun L hL => by cases hL⟩
  | cons L k m ih1 ih2 =>
    intro Ls hx h
    obtain ⟨h1, h2, h3, h5, h6⟩ := hx
    rw [views_cons] at h
    cases hv : viewX L k with
    | none => rw [hv] at h; cases h
    | some V =>
      rw [hv] at h
      cases hr : viewsX m with
      | none => rw [hr] at h; cases h
      | some R =>
        rw [hr] at h
        cases h
        obtain ⟨g1, g2⟩ := ih2 R h6 hr
        refine ⟨by rw [List.length_cons, g1]; rfl, fun M hM => ?_⟩
        rcases List.mem_cons.1 hM with rfl | hM
        · by_cases hk : k.len = 0
          · rw [view_leaf hk] at hv; cases hv; exact h1
          · rw [view_nest hk] at hv
            cases hw : viewsX k with
            | none => rw [hw] at hv; cases hv
            | some Ks =>
              rw [hw] at hv
              obtain ⟨g3, g4⟩ := ih1 Ks h5 hw
              exact over_ok (by omega) g4 hv
        · exact g2 M hM
theorem view_ok {L : List Nd} {k : Fx} {V : List Nd} (hx : (Fx.cons L k .nil).okX) (h : viewX L k = some V) : treeB V = true := by
  have h2 : viewsX (.cons L k .nil) = some [V] := by rw [views_cons, h]; rfl
  exact (views_ok _ _ hx h2).2 V List.mem_cons_self
/-- How far the layers have been gone through. -/
def seenF (K F : Fx) (Ls : List (List Nd)) : Prop := viewsX K = (viewsX F).map (fun R => Ls ++ R)
theorem seenF_start (K : Fx) : seenF K K [] := by
  unfold seenF
  cases viewsX K <;> rfl
theorem seenF_step {K m k : Fx} {L V : List Nd} {Ls : List (List Nd)} (h : seenF K (.cons L k m) Ls) (hv : viewX L k = some V) : seenF K m (Ls ++ [V]) := by
  unfold seenF at h ⊢
  rw [h, views_cons, hv]
  cases viewsX m with
  | none => rfl
  | some R => simp
theorem seenF_fail {K m k : Fx} {L : List Nd} {Ls : List (List Nd)} (h : seenF K (.cons L k m) Ls) (hv : viewX L k = none) : viewsX K = none := by
  unfold seenF at h
  rw [h, views_cons, hv]
  rfl
theorem seenF_end {K : Fx} {Ls : List (List Nd)} (h : seenF K .nil Ls) : viewsX K = some Ls := by
  unfold seenF at h
  rw [h]
  simp [viewsX]
end Pl
end Go.Proofs.YteddcihodfkliaaGreatDoor

/- The nest that a list of items is, with what each is itself; what is seen of it. -/
namespace Go.Proofs.YteddcihodfkliaaGreatDoor
namespace Pl
/-- Items put to a shape, and those behind. -/
def fill : Fo → List (Int × List Nd) → Fx × List (Int × List Nd)
  | .nil, xs => (.nil, xs)
  | .cons _ _, [] => (.nil, [])
  | .cons k m, x :: xs => (.cons x.2 (fill k xs).1 (fill m (fill k xs).2).1, (fill m (fill k xs).2).2)
theorem fill_flat (X : Fx) : ∀ R, fill X.shape (X.flat ++ R) = (X, R) := by
  induction X with
  | nil => intro R; rfl
  | cons L k m ih1 ih2 =>
    intro R
    rw [Fx.shape, Fx.flat, List.cons_append, fill, List.append_assoc, ih1, ih2]
/-- The nest that a list of items is, if it is right: its own nodes, and its layers. -/
def nestX (xs : List (Int × List Nd)) : Option (List Nd × Fx) := match nest (rowO xs) with
  | none => none
  | some k => match (fill (.cons k .nil) xs).1 with
    | .cons L K _ => some (L, K)
    | .nil => none
theorem nestX_none {xs : List (Int × List Nd)} (h : nest (rowO xs) = none) : nestX xs = none := by unfold nestX; rw [h]
theorem nestX_some {xs : List (Int × List Nd)} {L : List Nd} {k : Fx} (h : nest (rowO xs) = some k.shape) (hf : (Fx.cons L k .nil).flat = xs) : nestX xs = some (L, k) := by
  unfold nestX
  rw [h]
  have := fill_flat (Fx.cons L k .nil) []
  rw [List.append_nil, hf] at this
  have e2 : fill (Fo.cons k.shape .nil) xs = (Fx.cons L k .nil, []) := this
  simp only [e2]
theorem parse_fill (f : Nat) : ∀ k (xs : List (Int × List Nd)) F R, parse f k (rowO xs) = some (F, R) → ∃ X rest, Fx.shape X = F ∧ R = rowO rest ∧ xs = X.flat ++ rest ∧ X.okX := by
  induction f with
  | zero =>
    intro k xs F R h
    cases k with
    | zero => simp [parse] at h; obtain ⟨rfl, rfl⟩ := h; exact ⟨.nil, xs, rfl, rfl, rfl, trivial⟩
    | succ k => simp [parse] at h
  | succ f ih =>
    intro k xs F R h
    cases k with
    | zero => simp [parse] at h; obtain ⟨rfl, rfl⟩ := h; exact ⟨.nil, xs, rfl, rfl, rfl, trivial⟩
    | succ k =>
      cases xs with
      | nil => simp [rowO, parse] at h
      | cons x xs =>
        have e : rowO (x :: xs) = itemO x :: rowO xs := rfl
        rw [e] at h
        cases hx : itemO x with
        | none => rw [hx] at h; simp [parse] at h
        | some m =>
          rw [hx] at h
          simp only [parse] at h
          split at h
          · cases h
          · rename_i kids R1 h1
            split at h
            · cases h
            · rename_i more R2 h2
              cases h
              obtain ⟨K, r1, e1, e2, e3, o1⟩ := ih _ _ _ _ h1
              rw [e2] at h2
              obtain ⟨M, r2, e4, e5, e6, o2⟩ := ih _ _ _ _ h2
              have hm := itemO_some hx
              have hl : K.len = m := by rw [← Fx.shape_len, e1]; exact (parse_len _ _ _ _ _ h1).1
              have hb : itemB x.1 x.2 = true := by
                unfold itemO at hx
                split at hx
                · assumption
                · cases hx
              have hb2 : treeB x.2 = true ∧ (x.1 = 0 ∨ x.2 = []) := by
                unfold itemB at hb
                simp only [Bool.and_eq_true, Bool.or_eq_true, decide_eq_true_eq, List.isEmpty_iff] at hb
                exact ⟨hb.2, hb.1.2⟩
              refine ⟨.cons x.2 K M, r2, by rw [Fx.shape, e1, e4], e5, ?_, hb2.1, ?_, by omega, o1, o2⟩
              · rw [Fx.flat, hl, ← hm.1, List.cons_append, List.append_assoc, ← e6, ← e3]
              · rcases hb2.2 with h0 | h0
                · exact .inl (Fx.len_zero (by omega))
                · exact .inr h0
/-- A right nest is one. -/
theorem nest_fill {xs : List (Int × List Nd)} {F : Fo} (h : nest (rowO xs) = some F) : ∃ L k, Fx.shape k = F ∧ (Fx.cons L k .nil).flat = xs ∧ (Fx.cons L k .nil).okX ∧ nestX xs = some (L, k) := by
  obtain ⟨-, h2, -⟩ := nest_yes h
  obtain ⟨X, rest, e1, e2, e3, o⟩ := parse_fill _ _ _ _ _ h2
  have hr : rest = [] := by
    cases rest with
    | nil => rfl
    | cons a b => simp [rowO] at e2
  subst hr
  rw [List.append_nil] at e3
  cases X with
  | nil => cases e1
  | cons L k m =>
    rw [Fx.shape] at e1
    simp only [Fo.cons.injEq] at e1
    have hm := Fx.shape_nil e1.2
    subst hm
    refine ⟨L, k, e1.1, e3.symm, o, nestX_some (by rw [e1.1]; exact h) e3.symm⟩
/-- The code, and the nodes, of what is seen of a nest. -/
def viewC (xs : List (Int × List Nd)) : Int := if 400 < xs.length then 2 else match nestX xs with
  | none => 1
  | some p => match viewX p.1 p.2 with
    | none => 9
    | some _ => 0
def viewN (xs : List (Int × List Nd)) : List Nd := match nestX xs with
  | none => []
  | some p => (viewX p.1 p.2).getD []
theorem nest_len {xs : List (Int × List Nd)} {F : Fo} (h : nest (rowO xs) = some F) : xs.length ≤ 12 := by
  have := (nest_yes h).1
  rw [rowO_len] at this
  exact this
theorem view_long {xs : List (Int × List Nd)} (h : 400 < xs.length) : viewC xs = 2 ∧ viewN xs = [] := by
  refine ⟨if_pos h, ?_⟩
  unfold viewN
  rw [nestX_none]
  cases hn : nest (rowO xs) with
  | none => rfl
  | some F => have := nest_len hn; omega
theorem view_bad {xs : List (Int × List Nd)} (h : ¬ 400 < xs.length) (hn : nest (rowO xs) = none) : viewC xs = 1 ∧ viewN xs = [] := by
  unfold viewC viewN
  rw [if_neg h, nestX_none hn]
  exact ⟨rfl, rfl⟩
theorem view_none {xs : List (Int × List Nd)} {L : List Nd} {k : Fx} (hl : xs.length ≤ 12) (h : nestX xs = some (L, k)) (hv : viewX L k = none) : viewC xs = 9 ∧ viewN xs = [] := by
  unfold viewC viewN
  rw [if_neg (by omega), h]
  simp only [hv]
  exact ⟨trivial, rfl⟩
theorem view_some {xs : List (Int × List Nd)} {L V : List Nd} {k : Fx} (hl : xs.length ≤ 12) (h : nestX xs = some (L, k)) (hv : viewX L k = some V) : viewC xs = 0 ∧ viewN xs = V := by
  unfold viewC viewN
  rw [if_neg (by omega), h]
  simp only [hv]
  exact ⟨trivial, rfl⟩
theorem view_tree {xs : List (Int × List Nd)} (h : viewC xs = 0) : treeB (viewN xs) = true := by
  unfold viewC at h
  split at h
  · cases h
  · unfold viewN
    cases hn : nestX xs with
    | none => rw [hn] at h; cases h
    | some p =>
      rw [hn] at h
      cases hv : viewX p.1 p.2 with
      | none => simp only [hv] at h; cases h
      | some V =>
        simp only [hv, Option.getD_some]
        cases hF : nest (rowO xs) with
        | none => rw [nestX_none hF] at hn; cases hn
        | some F =>
          obtain ⟨L, k, -, -, o, e⟩ := nest_fill hF
          rw [hn] at e
          have e2 := Option.some.inj e
          rw [e2] at hv
          exact view_ok o hv
theorem view_nil {xs : List (Int × List Nd)} (h : viewC xs ≠ 0) : viewN xs = [] := by
  unfold viewC at h
  split at h
  · exact (view_long (by assumption)).2
  · unfold viewN
    cases hn : nestX xs with
    | none => rfl
    | some p =>
      rw [hn] at h
      cases hv : viewX p.1 p.2 with
      | none => simp [hv]
      | some V => simp [hv] at h
theorem view_le (xs : List (Int × List Nd)) : (viewN xs).length ≤ 40 ∧ ∀ n ∈ viewN xs, n.path.size ≤ 1048576 ∧ n.data.size ≤ 1048576 := by
  by_cases h : viewC xs = 0
  · have ht := view_tree h
    refine ⟨((tree_iff _).1 ht).1, fun n hn => ?_⟩
    have h2 := (((tree_iff _).1 ht).2.1 n hn).1
    have h3 := pathB_le (node_right h2).1
    have h4 := (node_bounds h2).1
    exact ⟨by omega, by omega⟩
  · have e : viewN xs = [] := by
      unfold viewC at h
      split at h
      · exact (view_long (by assumption)).2
      · unfold viewN
        cases hn : nestX xs with
        | none => rfl
        | some p =>
          rw [hn] at h
          cases hv : viewX p.1 p.2 with
          | none => simp [hv]
          | some V => simp [hv] at h
    rw [e]
    exact ⟨Nat.zero_le _, fun n hn => by cases hn⟩
end Pl
end Go.Proofs.YteddcihodfkliaaGreatDoor

