/- Several texts of one claim in one file: WSameT, WSameE, WSameF, WLwG, WLwTree. -/
import Derived.Test.YtfjpbmacfcabaabDoorWTreeR
import Derived.Test.YtfjpbmacfcabaabDoorWNodesJ
import Derived.Deep.RegionHeld3
import Derived.Test.YtfjpbmacfcabaabDoorWNodesR
import Derived.Test.YtfjpbmacfcabaabDoorPartA
import Derived.Deep.QuietTactic
import Derived.BigQuiet
/- The walks of TreeSame, of the program and of the specification. -/
namespace Go.Proofs.YtfjpbmacfcabaabDoor
open Go.RowKit
namespace Pl
def eqN (a b : Nd) : Bool := decide (a.path = b.path) && decide (a.kind = b.kind) && decide (a.data = b.data) && decide (a.time = b.time) && decide (a.mark = b.mark)
def eqL (A B : List Nd) : Bool := decide (A.length = B.length) && (List.range A.length).all (fun i => match A[i]?, B[i]? with | some a, some b => eqN a b | _, _ => false)
theorem eqL_len {A B : List Nd} (h : A.length ≠ B.length) : eqL A B = false := by simp [eqL, h]
theorem eqL_bad {A B : List Nd} {k : Nat} {a b : Nd} (ha : A[k]? = some a) (hb : B[k]? = some b) (h : eqN a b = false) : eqL A B = false := by
  have : (List.range A.length).all (fun i => match A[i]?, B[i]? with | some a, some b => eqN a b | _, _ => false) = false := by
    rw [List.all_eq_false]
    exact ⟨k, List.mem_range.2 (List.getElem?_eq_some_iff.1 ha).1, by rw [ha, hb]; simp [h]⟩
  simp [eqL, this]
theorem eqL_good {A B : List Nd} (hl : A.length = B.length) (h : ∀ (k : Nat) a b, A[k]? = some a → B[k]? = some b → eqN a b = true) : eqL A B = true := by
  have : (List.range A.length).all (fun i => match A[i]?, B[i]? with | some a, some b => eqN a b | _, _ => false) = true := by
    rw [List.all_eq_true]
    intro i hi
    have hi' := List.mem_range.1 hi
    rw [List.getElem?_eq_getElem hi', List.getElem?_eq_getElem (by omega)]
    exact h i _ _ (List.getElem?_eq_getElem hi') (List.getElem?_eq_getElem (by omega))
  rw [eqL, this]; simp [hl]
theorem list_eq {a b : ByteArray} : (a.toList = b.toList) = (a = b) := propext ⟨fun h => by rw [ByteArray.toList_eq, ByteArray.toList_eq] at h; exact by_inj h, fun h => by rw [h]⟩
theorem neq_walk {α : Type} (x y : Nd) (t f : α) : (if x.path.toList = y.path.toList then if x.kind = y.kind then if x.data.toList = y.data.toList then if x.time = y.time then if x.mark = y.mark then f else t else t else t else t else t) = if eqN x y then f else t := by
  simp only [list_eq, eqN]
  by_cases h1 : x.path = y.path <;> by_cases h2 : x.kind = y.kind <;> by_cases h3 : x.data = y.data <;> by_cases h4 : x.time = y.time <;> by_cases h5 : x.mark = y.mark <;> simp [h1, h2, h3, h4, h5]
theorem neq_imp {x y : Nd} (h : eqN x y = false) : x.path.toList = y.path.toList → x.kind = y.kind → x.data.toList = y.data.toList → x.time = y.time → ¬ x.mark = y.mark := by
  intro h1 h2 h3 h4 h5
  rw [list_eq] at h1 h3
  simp [eqN, h1, h2, h3, h4, h5] at h
theorem eqN_eq {x y : Nd} (h : eqN x y = true) : x = y := by
  cases x; cases y
  simp [eqN] at h
  obtain ⟨⟨⟨⟨h1, h2⟩, h3⟩, h4⟩, h5⟩ := h
  subst h1 h2 h3 h4 h5; rfl
theorem eq_walk {α : Type} (x y : Nd) (t f : α) : (if x.path.toList = y.path.toList then if x.kind = y.kind then if x.data.toList = y.data.toList then if x.time = y.time then if x.mark = y.mark then t else f else f else f else f else f) = if eqN x y then t else f := neq_walk x y f t
end Pl
namespace WSameT
set_option linter.unusedSimpArgs false in
set_option maxRecDepth 100000 in
set_option maxHeartbeats 2000000 in
theorem same_any (a b : Option Addr) (c1 c2 : Nat) (A B : List Pl.Nd) (w : World) (hA : A.length ≤ 1048576) (hv : Mem.isNodes w a A) (hu : Mem.isNodes w b B) :
    Calls Tryd.prog 35 #[.agg #[.slice a A.length c1], .agg #[.slice b B.length c2]] w fun e w' => e = .returned (.bool (Pl.eqL A B)) ∧ Below w.heap.size w w' := by
  have b0 : Below w.heap.size w ((w.alloc (.cells #[.slice a A.length c1] 25)).alloc (.cells #[.slice b B.length c2] 25)) := ((Below.refl _ _).alloc (Nat.le_refl _) _).alloc (by simp) _
  have E1 : Hid (A.length ≠ B.length → Pl.eqL A B = false) := Pl.eqL_len
  have E2 : Hid (∀ (k : Nat) x y, A[k]? = some x → B[k]? = some y → Pl.eqN x y = false → Pl.eqL A B = false) := fun k x y => Pl.eqL_bad
  have E3 : Hid (A.length = B.length → (∀ (k : Nat) x y, A[k]? = some x → B[k]? = some y → Pl.eqN x y = true) → Pl.eqL A B = true) := Pl.eqL_good
  generalize Pl.eqL A B = R at E1 E2 E3 ⊢
  have HV := hide hv
  have HU := hide hu
  clear hv hu
  by_cases hl : A.length = B.length
  rotate_left
  · have E := hide (unhide E1 hl)
    have t0 : ((A.length : Int) == (B.length : Int)) = false := by rw [beq_eq_false_iff_ne]; omega
    clear hl
    go_enter Tryd.func35, Tryd.ntmps35
    go_wp2
    go_ret
    exact ⟨ret_bool (unhide E).symm, b0⟩
  have t0 : ((A.length : Int) == (B.length : Int)) = true := by rw [beq_iff_eq]; omega
  have HL := hide hl
  clear hl
  go_enter Tryd.func35, Tryd.ntmps35
  go_wp2
  go_loopw [5] (fun i wr => ∃ k : Nat, k ≤ A.length ∧ i = .int .i64 (k : Int) ∧ Below w.heap.size w wr ∧ Hid (Mem.Var wr w.heap.size [.slice a A.length c1]) ∧ Hid (Mem.Var wr (w.heap.size + 1) [.slice b B.length c2]) ∧ Hid (∀ (j : Nat) x y, j < k → A[j]? = some x → B[j]? = some y → Pl.eqN x y = true)) (fun i _ => A.length - (intOf i).toNat)
  case atStart =>
    refine ⟨0, Nat.zero_le _, rfl, b0, ?_, ?_, fun j x y h => absurd h (by omega)⟩
    · exact hide (Mem.var_alloc (Mem.var_new w [.slice a A.length c1] 25) _)
    · have h := Mem.var_new (w.alloc (.cells #[.slice a A.length c1] 25)) [.slice b B.length c2] 25
      rw [show (w.alloc (.cells #[.slice a A.length c1] 25)).heap.size = w.heap.size + 1 by simp] at h
      exact hide h
  case round =>
    obtain ⟨k, hk, rfl, hbel, V1, V2, HA⟩ := hrel
    have cv1 := (unhide V1).2 0 _ rfl
    have cv2 := (unhide V2).2 0 _ rfl
    by_cases hlt : k < A.length
    · obtain ⟨x, hx⟩ : ∃ x, A[k]? = some x := ⟨_, List.getElem?_eq_getElem hlt⟩
      obtain ⟨y, hy⟩ : ∃ y, B[k]? = some y := ⟨_, List.getElem?_eq_getElem (by have := unhide HL; omega)⟩
      obtain ⟨g, o, rfl, hg, q0, q1, q2, q3, q4⟩ := (Mem.nodes_call (unhide HV) hbel) k x hx
      obtain ⟨g2, o2, rfl, hg2, p0, p1, p2, p3, p4⟩ := (Mem.nodes_call (unhide HU) hbel) k y hy
      have y1 : (k : Int) < (A.length : Int) := by omega
      have y2 : (k : Int) < (B.length : Int) := by have := unhide HL; omega
      have y3 : (0 : Int) ≤ (k : Int) := by omega
      have HX := hide hx
      have HY := hide hy
      cases hq : Pl.eqN x y
      · have E := hide (unhide E2 k x y hx hy hq)
        have HQ := hide hq
        clear hx hy hq
        go_wp2
        refine wp_region_held_drew (S := fun W' => W'.cell? ⟨w.heap.size, 0, none⟩ = some (.slice (some ⟨g, o, none⟩) A.length c1) ∧ W'.cell? ⟨w.heap.size + 1, 0, none⟩ = some (.slice (some ⟨g2, o2, none⟩) B.length c2) ∧ W'.cell? ⟨g, o + k * 5, none⟩ = some (.string x.path) ∧ W'.cell? ⟨g, o + k * 5 + 1, none⟩ = some (.int .i64 x.kind) ∧ W'.cell? ⟨g, o + k * 5 + 2, none⟩ = some (.string x.data) ∧ W'.cell? ⟨g, o + k * 5 + 3, none⟩ = some (.int .i64 x.time) ∧ W'.cell? ⟨g, o + k * 5 + 4, none⟩ = some (.int .i64 x.mark) ∧ W'.cell? ⟨g2, o2 + k * 5, none⟩ = some (.string y.path) ∧ W'.cell? ⟨g2, o2 + k * 5 + 1, none⟩ = some (.int .i64 y.kind) ∧ W'.cell? ⟨g2, o2 + k * 5 + 2, none⟩ = some (.string y.data) ∧ W'.cell? ⟨g2, o2 + k * 5 + 3, none⟩ = some (.int .i64 y.time) ∧ W'.cell? ⟨g2, o2 + k * 5 + 4, none⟩ = some (.int .i64 y.mark)) (by kernel_rfl) ?_ (fun hHeld => ?_)
        · exact ⟨cv1, cv2, q0, q1, q2, q3, q4, p0, p1, p2, p3, p4⟩
        refine wpAnyH_take (i := 0) (v := ?_) rfl (by kernel_rfl) (by kernel_rfl) (by kernel_rfl) (fun _ _ _ h => h) (Or.inl ⟨by rfl, ?_⟩) (by assumption) ?_
        rotate_left
        · (intro w hSw; (try dsimp only at hSw); go_simp; (try with_reducible rfl))
        try simp only [Act.put, List.getElem_toArray, List.getElem_cons_zero, List.getElem_cons_succ, List.setIfInBounds_toArray, List.set_cons_zero, List.set_cons_succ]
        refine wpAnyH_take (i := 1) (v := ?_) rfl (by kernel_rfl) (by kernel_rfl) (by kernel_rfl) (fun _ _ _ h => h) (Or.inl ⟨by rfl, ?_⟩) (by assumption) ?_
        rotate_left
        · (intro w hSw; (try dsimp only at hSw); go_simp; (try with_reducible rfl))
        try simp only [Act.put, List.getElem_toArray, List.getElem_cons_zero, List.getElem_cons_succ, List.setIfInBounds_toArray, List.set_cons_zero, List.set_cons_succ]
        refine wpAnyH_take (i := 2) (v := ?_) rfl (by kernel_rfl) (by kernel_rfl) (by kernel_rfl) (fun _ _ _ h => h) (Or.inl ⟨by rfl, ?_⟩) (by assumption) ?_
        rotate_left
        · (intro w hSw; (try dsimp only at hSw); go_simp; (try with_reducible rfl))
        try simp only [Act.put, List.getElem_toArray, List.getElem_cons_zero, List.getElem_cons_succ, List.setIfInBounds_toArray, List.set_cons_zero, List.set_cons_succ]
        refine wpAnyH_take (i := 3) (v := ?_) rfl (by kernel_rfl) (by kernel_rfl) (by kernel_rfl) (fun _ _ _ h => h) (Or.inl ⟨by rfl, ?_⟩) (by assumption) ?_
        rotate_left
        · (intro w hSw; (try dsimp only at hSw); go_simp; (try with_reducible rfl))
        try simp only [Act.put, List.getElem_toArray, List.getElem_cons_zero, List.getElem_cons_succ, List.setIfInBounds_toArray, List.set_cons_zero, List.set_cons_succ]
        refine wpAnyH_take (i := 4) (v := ?_) rfl (by kernel_rfl) (by kernel_rfl) (by kernel_rfl) (fun _ _ _ h => h) (Or.inl ⟨by rfl, ?_⟩) (by assumption) ?_
        rotate_left
        · (intro w hSw; (try dsimp only at hSw); go_simp; (try with_reducible rfl))
        try simp only [Act.put, List.getElem_toArray, List.getElem_cons_zero, List.getElem_cons_succ, List.setIfInBounds_toArray, List.set_cons_zero, List.set_cons_succ]
        refine wpAnyH_take (i := 5) (v := ?_) rfl (by kernel_rfl) (by kernel_rfl) (by kernel_rfl) (fun _ _ _ h => h) (Or.inl ⟨by rfl, ?_⟩) (by assumption) ?_
        rotate_left
        · (intro w hSw; (try dsimp only at hSw); go_simp; (try with_reducible rfl))
        try simp only [Act.put, List.getElem_toArray, List.getElem_cons_zero, List.getElem_cons_succ, List.setIfInBounds_toArray, List.set_cons_zero, List.set_cons_succ]
        refine wpAnyH_take (i := 6) (v := ?_) rfl (by kernel_rfl) (by kernel_rfl) (by kernel_rfl) (fun _ _ _ h => h) (Or.inl ⟨by rfl, ?_⟩) (by assumption) ?_
        rotate_left
        · (intro w hSw; (try dsimp only at hSw); go_simp; (try with_reducible rfl))
        try simp only [Act.put, List.getElem_toArray, List.getElem_cons_zero, List.getElem_cons_succ, List.setIfInBounds_toArray, List.set_cons_zero, List.set_cons_succ]
        refine wpAnyH_take (i := 7) (v := ?_) rfl (by kernel_rfl) (by kernel_rfl) (by kernel_rfl) (fun _ _ _ h => h) (Or.inl ⟨by rfl, ?_⟩) (by assumption) ?_
        rotate_left
        · (intro w hSw; (try dsimp only at hSw); go_simp; (try with_reducible rfl))
        try simp only [Act.put, List.getElem_toArray, List.getElem_cons_zero, List.getElem_cons_succ, List.setIfInBounds_toArray, List.set_cons_zero, List.set_cons_succ]
        refine wpAnyH_take (i := 8) (v := ?_) rfl (by kernel_rfl) (by kernel_rfl) (by kernel_rfl) (fun _ _ _ h => h) (Or.inl ⟨by rfl, ?_⟩) (by assumption) ?_
        rotate_left
        · (intro w hSw; (try dsimp only at hSw); go_simp; (try with_reducible rfl))
        try simp only [Act.put, List.getElem_toArray, List.getElem_cons_zero, List.getElem_cons_succ, List.setIfInBounds_toArray, List.set_cons_zero, List.set_cons_succ]
        refine wpAnyH_take (i := 9) (v := ?_) rfl (by kernel_rfl) (by kernel_rfl) (by kernel_rfl) (fun _ _ _ h => h) (Or.inl ⟨by rfl, ?_⟩) (by assumption) ?_
        rotate_left
        · (intro w hSw; (try dsimp only at hSw); go_simp; (try with_reducible rfl))
        try simp only [Act.put, List.getElem_toArray, List.getElem_cons_zero, List.getElem_cons_succ, List.setIfInBounds_toArray, List.set_cons_zero, List.set_cons_succ]
        refine wpAnyH_take (i := 10) (v := .bool true) rfl (by kernel_rfl) (by kernel_rfl) (by kernel_rfl) (fun _ _ _ h => h) (Or.inl ⟨by rfl, ?_⟩) (by assumption) ?_
        · (intro w hSw; (try dsimp only at hSw); go_simp; exact Pl.neq_imp (unhide HQ))
        try simp only [Act.put, List.getElem_toArray, List.getElem_cons_zero, List.getElem_cons_succ, List.setIfInBounds_toArray, List.set_cons_zero, List.set_cons_succ]
        refine wpAnyH_done (by kernel_rfl) ?_ _
        clear hHeld
        go_wp2
        go_ret
        exact ⟨ret_bool (unhide E).symm, Mem.below_drewN hbel 1⟩
      · have HA2 : Hid (∀ (j : Nat) x y, j < k + 1 → A[j]? = some x → B[j]? = some y → Pl.eqN x y = true) := fun j x' y' hj h1 h2 => by
          rcases Nat.lt_succ_iff_lt_or_eq.1 hj with h'' | rfl
          · exact HA.out j x' y' h'' h1 h2
          · rw [hx] at h1; rw [hy] at h2; cases h1; cases h2; exact hq
        obtain rfl := Pl.eqN_eq hq
        clear hx hy hq
        go_wp2
        refine wp_region_held_drew (S := fun W' => W'.cell? ⟨w.heap.size, 0, none⟩ = some (.slice (some ⟨g, o, none⟩) A.length c1) ∧ W'.cell? ⟨w.heap.size + 1, 0, none⟩ = some (.slice (some ⟨g2, o2, none⟩) B.length c2) ∧ W'.cell? ⟨g, o + k * 5, none⟩ = some (.string x.path) ∧ W'.cell? ⟨g, o + k * 5 + 1, none⟩ = some (.int .i64 x.kind) ∧ W'.cell? ⟨g, o + k * 5 + 2, none⟩ = some (.string x.data) ∧ W'.cell? ⟨g, o + k * 5 + 3, none⟩ = some (.int .i64 x.time) ∧ W'.cell? ⟨g, o + k * 5 + 4, none⟩ = some (.int .i64 x.mark) ∧ W'.cell? ⟨g2, o2 + k * 5, none⟩ = some (.string x.path) ∧ W'.cell? ⟨g2, o2 + k * 5 + 1, none⟩ = some (.int .i64 x.kind) ∧ W'.cell? ⟨g2, o2 + k * 5 + 2, none⟩ = some (.string x.data) ∧ W'.cell? ⟨g2, o2 + k * 5 + 3, none⟩ = some (.int .i64 x.time) ∧ W'.cell? ⟨g2, o2 + k * 5 + 4, none⟩ = some (.int .i64 x.mark)) (by kernel_rfl) ?_ (fun hHeld => ?_)
        · exact ⟨cv1, cv2, q0, q1, q2, q3, q4, p0, p1, p2, p3, p4⟩
        refine wpAnyH_take (i := 0) (v := ?_) rfl (by kernel_rfl) (by kernel_rfl) (by kernel_rfl) (fun _ _ _ h => h) (Or.inl ⟨by rfl, ?_⟩) (by assumption) ?_
        rotate_left
        · (intro w hSw; (try dsimp only at hSw); go_simp; (try with_reducible rfl))
        try simp only [Act.put, List.getElem_toArray, List.getElem_cons_zero, List.getElem_cons_succ, List.setIfInBounds_toArray, List.set_cons_zero, List.set_cons_succ]
        refine wpAnyH_take (i := 1) (v := ?_) rfl (by kernel_rfl) (by kernel_rfl) (by kernel_rfl) (fun _ _ _ h => h) (Or.inl ⟨by rfl, ?_⟩) (by assumption) ?_
        rotate_left
        · (intro w hSw; (try dsimp only at hSw); go_simp; (try with_reducible rfl))
        try simp only [Act.put, List.getElem_toArray, List.getElem_cons_zero, List.getElem_cons_succ, List.setIfInBounds_toArray, List.set_cons_zero, List.set_cons_succ]
        refine wpAnyH_take (i := 2) (v := ?_) rfl (by kernel_rfl) (by kernel_rfl) (by kernel_rfl) (fun _ _ _ h => h) (Or.inl ⟨by rfl, ?_⟩) (by assumption) ?_
        rotate_left
        · (intro w hSw; (try dsimp only at hSw); go_simp; (try with_reducible rfl))
        try simp only [Act.put, List.getElem_toArray, List.getElem_cons_zero, List.getElem_cons_succ, List.setIfInBounds_toArray, List.set_cons_zero, List.set_cons_succ]
        refine wpAnyH_take (i := 3) (v := ?_) rfl (by kernel_rfl) (by kernel_rfl) (by kernel_rfl) (fun _ _ _ h => h) (Or.inl ⟨by rfl, ?_⟩) (by assumption) ?_
        rotate_left
        · (intro w hSw; (try dsimp only at hSw); go_simp; (try with_reducible rfl))
        try simp only [Act.put, List.getElem_toArray, List.getElem_cons_zero, List.getElem_cons_succ, List.setIfInBounds_toArray, List.set_cons_zero, List.set_cons_succ]
        refine wpAnyH_take (i := 4) (v := ?_) rfl (by kernel_rfl) (by kernel_rfl) (by kernel_rfl) (fun _ _ _ h => h) (Or.inl ⟨by rfl, ?_⟩) (by assumption) ?_
        rotate_left
        · (intro w hSw; (try dsimp only at hSw); go_simp; (try with_reducible rfl))
        try simp only [Act.put, List.getElem_toArray, List.getElem_cons_zero, List.getElem_cons_succ, List.setIfInBounds_toArray, List.set_cons_zero, List.set_cons_succ]
        refine wpAnyH_take (i := 5) (v := ?_) rfl (by kernel_rfl) (by kernel_rfl) (by kernel_rfl) (fun _ _ _ h => h) (Or.inl ⟨by rfl, ?_⟩) (by assumption) ?_
        rotate_left
        · (intro w hSw; (try dsimp only at hSw); go_simp; (try with_reducible rfl))
        try simp only [Act.put, List.getElem_toArray, List.getElem_cons_zero, List.getElem_cons_succ, List.setIfInBounds_toArray, List.set_cons_zero, List.set_cons_succ]
        refine wpAnyH_take (i := 6) (v := ?_) rfl (by kernel_rfl) (by kernel_rfl) (by kernel_rfl) (fun _ _ _ h => h) (Or.inl ⟨by rfl, ?_⟩) (by assumption) ?_
        rotate_left
        · (intro w hSw; (try dsimp only at hSw); go_simp; (try with_reducible rfl))
        try simp only [Act.put, List.getElem_toArray, List.getElem_cons_zero, List.getElem_cons_succ, List.setIfInBounds_toArray, List.set_cons_zero, List.set_cons_succ]
        refine wpAnyH_take (i := 7) (v := ?_) rfl (by kernel_rfl) (by kernel_rfl) (by kernel_rfl) (fun _ _ _ h => h) (Or.inl ⟨by rfl, ?_⟩) (by assumption) ?_
        rotate_left
        · (intro w hSw; (try dsimp only at hSw); go_simp; (try with_reducible rfl))
        try simp only [Act.put, List.getElem_toArray, List.getElem_cons_zero, List.getElem_cons_succ, List.setIfInBounds_toArray, List.set_cons_zero, List.set_cons_succ]
        refine wpAnyH_take (i := 8) (v := ?_) rfl (by kernel_rfl) (by kernel_rfl) (by kernel_rfl) (fun _ _ _ h => h) (Or.inl ⟨by rfl, ?_⟩) (by assumption) ?_
        rotate_left
        · (intro w hSw; (try dsimp only at hSw); go_simp; (try with_reducible rfl))
        try simp only [Act.put, List.getElem_toArray, List.getElem_cons_zero, List.getElem_cons_succ, List.setIfInBounds_toArray, List.set_cons_zero, List.set_cons_succ]
        refine wpAnyH_take (i := 9) (v := ?_) rfl (by kernel_rfl) (by kernel_rfl) (by kernel_rfl) (fun _ _ _ h => h) (Or.inl ⟨by rfl, ?_⟩) (by assumption) ?_
        rotate_left
        · (intro w hSw; (try dsimp only at hSw); go_simp; (try with_reducible rfl))
        try simp only [Act.put, List.getElem_toArray, List.getElem_cons_zero, List.getElem_cons_succ, List.setIfInBounds_toArray, List.set_cons_zero, List.set_cons_succ]
        refine wpAnyH_take (i := 10) (v := .bool false) rfl (by kernel_rfl) (by kernel_rfl) (by kernel_rfl) (fun _ _ _ h => h) (Or.inl ⟨by rfl, ?_⟩) (by assumption) ?_
        · (intro w hSw; (try dsimp only at hSw); go_simp; (try with_reducible rfl))
        try simp only [Act.put, List.getElem_toArray, List.getElem_cons_zero, List.getElem_cons_succ, List.setIfInBounds_toArray, List.set_cons_zero, List.set_cons_succ]
        refine wpAnyH_done (by kernel_rfl) ?_ _
        clear hHeld
        go_wp2
        go_roundw
        case rel => exact ⟨k + 1, by omega, by go_num, Mem.below_drewN hbel 1, V1, V2, HA2⟩
        case measure => simp [intOf]; omega
    · have E := hide (unhide E3 (unhide HL) (fun j x y h1 h2 => HA.out j x y (by have := (List.getElem?_eq_some_iff.1 h1).1; omega) h1 h2))
      have y1 : ¬ (k : Int) < (A.length : Int) := by omega
      go_wp2
      go_ret
      exact ⟨ret_bool (unhide E).symm, hbel⟩
end WSameT
end Go.Proofs.YtfjpbmacfcabaabDoor

/- The walks of slices.Equal over nodes and of TreeSame. -/
namespace Go.Proofs.YtfjpbmacfcabaabDoor
open Go.RowKit
namespace WSameT
set_option linter.unusedSimpArgs false in
set_option maxRecDepth 100000 in
set_option maxHeartbeats 2000000 in
theorem equal_any (a b : Option Addr) (c1 c2 : Nat) (A B : List Pl.Nd) (w : World) (hA : A.length ≤ 1048576) (hv : Mem.isNodes w a A) (hu : Mem.isNodes w b B) :
    Calls Tryd.prog 29 #[.slice a A.length c1, .slice b B.length c2] w fun e w' => e = .returned (.bool (Pl.eqL A B)) ∧ Below w.heap.size w w' := by
  have E1 : Hid (A.length ≠ B.length → Pl.eqL A B = false) := Pl.eqL_len
  have E2 : Hid (∀ (k : Nat) x y, A[k]? = some x → B[k]? = some y → Pl.eqN x y = false → Pl.eqL A B = false) := fun k x y => Pl.eqL_bad
  have E3 : Hid (A.length = B.length → (∀ (k : Nat) x y, A[k]? = some x → B[k]? = some y → Pl.eqN x y = true) → Pl.eqL A B = true) := Pl.eqL_good
  generalize Pl.eqL A B = R at E1 E2 E3 ⊢
  have HV := hide hv
  have HU := hide hu
  clear hv hu
  by_cases hl : A.length = B.length
  rotate_left
  · have E := hide (unhide E1 hl)
    have t0 : ((A.length : Int) == (B.length : Int)) = false := by rw [beq_eq_false_iff_ne]; omega
    clear hl
    go_enter Tryd.func29, Tryd.ntmps29
    go_wp2
    go_ret
    exact ⟨ret_bool (unhide E).symm, Below.refl _ _⟩
  have t0 : ((A.length : Int) == (B.length : Int)) = true := by rw [beq_iff_eq]; omega
  have HL := hide hl
  clear hl
  go_enter Tryd.func29, Tryd.ntmps29
  go_wp2
  go_loopw [13] (fun i wr => ∃ k : Nat, k ≤ A.length ∧ i = .int .i64 (k : Int) ∧ Below w.heap.size w wr ∧ Hid (∀ (j : Nat) x y, j < k → A[j]? = some x → B[j]? = some y → Pl.eqN x y = true)) (fun i _ => A.length - (intOf i).toNat)
  case atStart => exact ⟨0, Nat.zero_le _, rfl, Below.refl _ _, fun j x y h => absurd h (by omega)⟩
  case round =>
    obtain ⟨k, hk, rfl, hbel, HA⟩ := hrel
    by_cases hlt : k < A.length
    · obtain ⟨x, hx⟩ : ∃ x, A[k]? = some x := ⟨_, List.getElem?_eq_getElem hlt⟩
      obtain ⟨y, hy⟩ : ∃ y, B[k]? = some y := ⟨_, List.getElem?_eq_getElem (by have := unhide HL; omega)⟩
      obtain ⟨g, o, rfl, hg, q0, q1, q2, q3, q4⟩ := (Mem.nodes_call (unhide HV) hbel) k x hx
      obtain ⟨g2, o2, rfl, hg2, p0, p1, p2, p3, p4⟩ := (Mem.nodes_call (unhide HU) hbel) k y hy
      have y1 : (k : Int) < (A.length : Int) := by omega
      have y2 : (k : Int) < (B.length : Int) := by have := unhide HL; omega
      have y3 : (0 : Int) ≤ (k : Int) := by omega
      cases hq : Pl.eqN x y
      · have E := hide (unhide E2 k x y hx hy hq)
        have HQ := hide hq
        clear hx hy hq
        go_wp2
        refine wp_region_held_drew (S := fun W' => True ∧ W'.cell? ⟨g, o + k * 5, none⟩ = some (.string x.path) ∧ W'.cell? ⟨g, o + k * 5 + 1, none⟩ = some (.int .i64 x.kind) ∧ W'.cell? ⟨g, o + k * 5 + 2, none⟩ = some (.string x.data) ∧ W'.cell? ⟨g, o + k * 5 + 3, none⟩ = some (.int .i64 x.time) ∧ W'.cell? ⟨g, o + k * 5 + 4, none⟩ = some (.int .i64 x.mark) ∧ W'.cell? ⟨g2, o2 + k * 5, none⟩ = some (.string y.path) ∧ W'.cell? ⟨g2, o2 + k * 5 + 1, none⟩ = some (.int .i64 y.kind) ∧ W'.cell? ⟨g2, o2 + k * 5 + 2, none⟩ = some (.string y.data) ∧ W'.cell? ⟨g2, o2 + k * 5 + 3, none⟩ = some (.int .i64 y.time) ∧ W'.cell? ⟨g2, o2 + k * 5 + 4, none⟩ = some (.int .i64 y.mark)) (by kernel_rfl) ?_ (fun hHeld => ?_)
        · exact ⟨trivial, q0, q1, q2, q3, q4, p0, p1, p2, p3, p4⟩
        refine wpAnyH_take (i := 0) (v := ?_) rfl (by kernel_rfl) (by kernel_rfl) (by kernel_rfl) (fun _ _ _ h => h) (Or.inl ⟨by rfl, ?_⟩) (by assumption) ?_
        rotate_left
        · (intro w hSw; (try dsimp only at hSw); go_simp; (try with_reducible rfl))
        try simp only [Act.put, List.getElem_toArray, List.getElem_cons_zero, List.getElem_cons_succ, List.setIfInBounds_toArray, List.set_cons_zero, List.set_cons_succ]
        refine wpAnyH_take (i := 1) (v := ?_) rfl (by kernel_rfl) (by kernel_rfl) (by kernel_rfl) (fun _ _ _ h => h) (Or.inl ⟨by rfl, ?_⟩) (by assumption) ?_
        rotate_left
        · (intro w hSw; (try dsimp only at hSw); go_simp; (try with_reducible rfl))
        try simp only [Act.put, List.getElem_toArray, List.getElem_cons_zero, List.getElem_cons_succ, List.setIfInBounds_toArray, List.set_cons_zero, List.set_cons_succ]
        refine wpAnyH_take (i := 2) (v := ?_) rfl (by kernel_rfl) (by kernel_rfl) (by kernel_rfl) (fun _ _ _ h => h) (Or.inl ⟨by rfl, ?_⟩) (by assumption) ?_
        rotate_left
        · (intro w hSw; (try dsimp only at hSw); go_simp; (try with_reducible rfl))
        try simp only [Act.put, List.getElem_toArray, List.getElem_cons_zero, List.getElem_cons_succ, List.setIfInBounds_toArray, List.set_cons_zero, List.set_cons_succ]
        refine wpAnyH_take (i := 3) (v := ?_) rfl (by kernel_rfl) (by kernel_rfl) (by kernel_rfl) (fun _ _ _ h => h) (Or.inl ⟨by rfl, ?_⟩) (by assumption) ?_
        rotate_left
        · (intro w hSw; (try dsimp only at hSw); go_simp; (try with_reducible rfl))
        try simp only [Act.put, List.getElem_toArray, List.getElem_cons_zero, List.getElem_cons_succ, List.setIfInBounds_toArray, List.set_cons_zero, List.set_cons_succ]
        refine wpAnyH_take (i := 4) (v := ?_) rfl (by kernel_rfl) (by kernel_rfl) (by kernel_rfl) (fun _ _ _ h => h) (Or.inl ⟨by rfl, ?_⟩) (by assumption) ?_
        rotate_left
        · (intro w hSw; (try dsimp only at hSw); go_simp; (try with_reducible rfl))
        try simp only [Act.put, List.getElem_toArray, List.getElem_cons_zero, List.getElem_cons_succ, List.setIfInBounds_toArray, List.set_cons_zero, List.set_cons_succ]
        refine wpAnyH_take (i := 5) (v := ?_) rfl (by kernel_rfl) (by kernel_rfl) (by kernel_rfl) (fun _ _ _ h => h) (Or.inl ⟨by rfl, ?_⟩) (by assumption) ?_
        rotate_left
        · (intro w hSw; (try dsimp only at hSw); go_simp; (try with_reducible rfl))
        try simp only [Act.put, List.getElem_toArray, List.getElem_cons_zero, List.getElem_cons_succ, List.setIfInBounds_toArray, List.set_cons_zero, List.set_cons_succ]
        refine wpAnyH_take (i := 6) (v := ?_) rfl (by kernel_rfl) (by kernel_rfl) (by kernel_rfl) (fun _ _ _ h => h) (Or.inl ⟨by rfl, ?_⟩) (by assumption) ?_
        rotate_left
        · (intro w hSw; (try dsimp only at hSw); go_simp; (try with_reducible rfl))
        try simp only [Act.put, List.getElem_toArray, List.getElem_cons_zero, List.getElem_cons_succ, List.setIfInBounds_toArray, List.set_cons_zero, List.set_cons_succ]
        refine wpAnyH_take (i := 7) (v := ?_) rfl (by kernel_rfl) (by kernel_rfl) (by kernel_rfl) (fun _ _ _ h => h) (Or.inl ⟨by rfl, ?_⟩) (by assumption) ?_
        rotate_left
        · (intro w hSw; (try dsimp only at hSw); go_simp; (try with_reducible rfl))
        try simp only [Act.put, List.getElem_toArray, List.getElem_cons_zero, List.getElem_cons_succ, List.setIfInBounds_toArray, List.set_cons_zero, List.set_cons_succ]
        refine wpAnyH_take (i := 8) (v := .bool true) rfl (by kernel_rfl) (by kernel_rfl) (by kernel_rfl) (fun _ _ _ h => h) (Or.inl ⟨by rfl, ?_⟩) (by assumption) ?_
        · (intro w hSw; (try dsimp only at hSw); go_simp; exact Pl.neq_imp (unhide HQ))
        try simp only [Act.put, List.getElem_toArray, List.getElem_cons_zero, List.getElem_cons_succ, List.setIfInBounds_toArray, List.set_cons_zero, List.set_cons_succ]
        refine wpAnyH_done (by kernel_rfl) ?_ _
        clear hHeld
        go_wp2
        go_ret
        exact ⟨ret_bool (unhide E).symm, Mem.below_drewN hbel 1⟩
      · have HA2 : Hid (∀ (j : Nat) x y, j < k + 1 → A[j]? = some x → B[j]? = some y → Pl.eqN x y = true) := fun j x' y' hj h1 h2 => by
          rcases Nat.lt_succ_iff_lt_or_eq.1 hj with h'' | rfl
          · exact HA.out j x' y' h'' h1 h2
          · rw [hx] at h1; rw [hy] at h2; cases h1; cases h2; exact hq
        obtain rfl := Pl.eqN_eq hq
        clear hx hy hq
        go_wp2
        refine wp_region_held_drew (S := fun W' => True ∧ W'.cell? ⟨g, o + k * 5, none⟩ = some (.string x.path) ∧ W'.cell? ⟨g, o + k * 5 + 1, none⟩ = some (.int .i64 x.kind) ∧ W'.cell? ⟨g, o + k * 5 + 2, none⟩ = some (.string x.data) ∧ W'.cell? ⟨g, o + k * 5 + 3, none⟩ = some (.int .i64 x.time) ∧ W'.cell? ⟨g, o + k * 5 + 4, none⟩ = some (.int .i64 x.mark) ∧ W'.cell? ⟨g2, o2 + k * 5, none⟩ = some (.string x.path) ∧ W'.cell? ⟨g2, o2 + k * 5 + 1, none⟩ = some (.int .i64 x.kind) ∧ W'.cell? ⟨g2, o2 + k * 5 + 2, none⟩ = some (.string x.data) ∧ W'.cell? ⟨g2, o2 + k * 5 + 3, none⟩ = some (.int .i64 x.time) ∧ W'.cell? ⟨g2, o2 + k * 5 + 4, none⟩ = some (.int .i64 x.mark)) (by kernel_rfl) ?_ (fun hHeld => ?_)
        · exact ⟨trivial, q0, q1, q2, q3, q4, p0, p1, p2, p3, p4⟩
        refine wpAnyH_take (i := 0) (v := ?_) rfl (by kernel_rfl) (by kernel_rfl) (by kernel_rfl) (fun _ _ _ h => h) (Or.inl ⟨by rfl, ?_⟩) (by assumption) ?_
        rotate_left
        · (intro w hSw; (try dsimp only at hSw); go_simp; (try with_reducible rfl))
        try simp only [Act.put, List.getElem_toArray, List.getElem_cons_zero, List.getElem_cons_succ, List.setIfInBounds_toArray, List.set_cons_zero, List.set_cons_succ]
        refine wpAnyH_take (i := 1) (v := ?_) rfl (by kernel_rfl) (by kernel_rfl) (by kernel_rfl) (fun _ _ _ h => h) (Or.inl ⟨by rfl, ?_⟩) (by assumption) ?_
        rotate_left
        · (intro w hSw; (try dsimp only at hSw); go_simp; (try with_reducible rfl))
        try simp only [Act.put, List.getElem_toArray, List.getElem_cons_zero, List.getElem_cons_succ, List.setIfInBounds_toArray, List.set_cons_zero, List.set_cons_succ]
        refine wpAnyH_take (i := 2) (v := ?_) rfl (by kernel_rfl) (by kernel_rfl) (by kernel_rfl) (fun _ _ _ h => h) (Or.inl ⟨by rfl, ?_⟩) (by assumption) ?_
        rotate_left
        · (intro w hSw; (try dsimp only at hSw); go_simp; (try with_reducible rfl))
        try simp only [Act.put, List.getElem_toArray, List.getElem_cons_zero, List.getElem_cons_succ, List.setIfInBounds_toArray, List.set_cons_zero, List.set_cons_succ]
        refine wpAnyH_take (i := 3) (v := ?_) rfl (by kernel_rfl) (by kernel_rfl) (by kernel_rfl) (fun _ _ _ h => h) (Or.inl ⟨by rfl, ?_⟩) (by assumption) ?_
        rotate_left
        · (intro w hSw; (try dsimp only at hSw); go_simp; (try with_reducible rfl))
        try simp only [Act.put, List.getElem_toArray, List.getElem_cons_zero, List.getElem_cons_succ, List.setIfInBounds_toArray, List.set_cons_zero, List.set_cons_succ]
        refine wpAnyH_take (i := 4) (v := ?_) rfl (by kernel_rfl) (by kernel_rfl) (by kernel_rfl) (fun _ _ _ h => h) (Or.inl ⟨by rfl, ?_⟩) (by assumption) ?_
        rotate_left
        · (intro w hSw; (try dsimp only at hSw); go_simp; (try with_reducible rfl))
        try simp only [Act.put, List.getElem_toArray, List.getElem_cons_zero, List.getElem_cons_succ, List.setIfInBounds_toArray, List.set_cons_zero, List.set_cons_succ]
        refine wpAnyH_take (i := 5) (v := ?_) rfl (by kernel_rfl) (by kernel_rfl) (by kernel_rfl) (fun _ _ _ h => h) (Or.inl ⟨by rfl, ?_⟩) (by assumption) ?_
        rotate_left
        · (intro w hSw; (try dsimp only at hSw); go_simp; (try with_reducible rfl))
        try simp only [Act.put, List.getElem_toArray, List.getElem_cons_zero, List.getElem_cons_succ, List.setIfInBounds_toArray, List.set_cons_zero, List.set_cons_succ]
        refine wpAnyH_take (i := 6) (v := ?_) rfl (by kernel_rfl) (by kernel_rfl) (by kernel_rfl) (fun _ _ _ h => h) (Or.inl ⟨by rfl, ?_⟩) (by assumption) ?_
        rotate_left
        · (intro w hSw; (try dsimp only at hSw); go_simp; (try with_reducible rfl))
        try simp only [Act.put, List.getElem_toArray, List.getElem_cons_zero, List.getElem_cons_succ, List.setIfInBounds_toArray, List.set_cons_zero, List.set_cons_succ]
        refine wpAnyH_take (i := 7) (v := ?_) rfl (by kernel_rfl) (by kernel_rfl) (by kernel_rfl) (fun _ _ _ h => h) (Or.inl ⟨by rfl, ?_⟩) (by assumption) ?_
        rotate_left
        · (intro w hSw; (try dsimp only at hSw); go_simp; (try with_reducible rfl))
        try simp only [Act.put, List.getElem_toArray, List.getElem_cons_zero, List.getElem_cons_succ, List.setIfInBounds_toArray, List.set_cons_zero, List.set_cons_succ]
        refine wpAnyH_take (i := 8) (v := .bool false) rfl (by kernel_rfl) (by kernel_rfl) (by kernel_rfl) (fun _ _ _ h => h) (Or.inl ⟨by rfl, ?_⟩) (by assumption) ?_
        · (intro w hSw; (try dsimp only at hSw); go_simp; (try with_reducible rfl))
        try simp only [Act.put, List.getElem_toArray, List.getElem_cons_zero, List.getElem_cons_succ, List.setIfInBounds_toArray, List.set_cons_zero, List.set_cons_succ]
        refine wpAnyH_done (by kernel_rfl) ?_ _
        clear hHeld
        go_wp2
        go_roundw
        case rel => exact ⟨k + 1, by omega, by go_num, Mem.below_drewN hbel 1, HA2⟩
        case measure => simp [intOf]; omega
    · have E := hide (unhide E3 (unhide HL) (fun j x y h1 h2 => HA.out j x y (by have := (List.getElem?_eq_some_iff.1 h1).1; omega) h1 h2))
      have y1 : ¬ (k : Int) < (A.length : Int) := by omega
      go_wp2
      go_ret
      exact ⟨ret_bool (unhide E).symm, hbel⟩
end WSameT
end Go.Proofs.YtfjpbmacfcabaabDoor

/- The walks of TreeSame, of both sides. -/
namespace Go.Proofs.YtfjpbmacfcabaabDoor
open Go.RowKit
namespace WSameT
def sameB (A B : List Pl.Nd) : Bool := Pl.treeB A && Pl.treeB B && Pl.eqL A B
set_option linter.unusedSimpArgs false in
set_option maxRecDepth 100000 in
set_option maxHeartbeats 2000000 in
theorem spec_any (a b : Option Addr) (c1 c2 : Nat) (A B : List Pl.Nd) (w : World) (hA : A.length ≤ 1048576) (hB : B.length ≤ 1048576) (hv : Mem.isNodes w a A) (hu : Mem.isNodes w b B) (okA : ∀ n ∈ A, n.path.size ≤ 1048576 ∧ n.data.size ≤ 1048576) (okB : ∀ n ∈ B, n.path.size ≤ 1048576 ∧ n.data.size ≤ 1048576) :
    Calls Tryd.prog 14 #[.agg #[.slice a A.length c1], .agg #[.slice b B.length c2]] w fun e w' => e = .returned (.bool (sameB A B)) ∧ Below w.heap.size w w' := by
  have b0 : Below w.heap.size w ((w.alloc (.cells #[.slice a A.length c1] 25)).alloc (.cells #[.slice b B.length c2] 25)) := ((Below.refl _ _).alloc (Nat.le_refl _) _).alloc (by simp) _
  have va := Mem.var_alloc (Mem.var_new w [.slice a A.length c1] 25) (.cells #[.slice b B.length c2] 25)
  have vb := Mem.var_new (w.alloc (.cells #[.slice a A.length c1] 25)) [.slice b B.length c2] 25
  rw [show (w.alloc (.cells #[.slice a A.length c1] 25)).heap.size = w.heap.size + 1 by simp] at vb
  have hra := hide (fun W (bw : Below w.heap.size w W) => WTreeS.right_tree a c1 A W hA (Mem.nodes_call hv bw) okA)
  have hrb := hide (fun W (bw : Below w.heap.size w W) => WTreeS.right_tree b c2 B W hB (Mem.nodes_call hu bw) okB)
  have hs := hide (fun W (bw : Below w.heap.size w W) => same_any a b c1 c2 A B W hA (Mem.nodes_call hv bw) (Mem.nodes_call hu bw))
  unfold sameB
  generalize Pl.eqL A B = R3 at hs ⊢
  generalize Pl.treeB A = R1 at hra ⊢
  generalize Pl.treeB B = R2 at hrb ⊢
  clear hv hu okA okB
  go_enter Tryd.func14, Tryd.ntmps14
  go_wp2_with fail
  refine (unhide hra _ b0).mono ?_
  rintro e w1 ⟨rfl, b1⟩
  have bw1 := b0.trans (b1.mono b0.size)
  have va1 := Mem.var_call va b1
  have vb1 := Mem.var_call vb b1
  clear hra va vb b1 b0
  cases R1
  · clear va1 vb1
    go_wp2
    go_ret
    exact ⟨rfl, bw1⟩
  have c0 := vb1.2 0 _ rfl
  go_wp2_with fail
  refine (unhide hrb _ bw1).mono ?_
  rintro e w2 ⟨rfl, b2⟩
  have bw2 := bw1.trans (b2.mono bw1.size)
  have va2 := Mem.var_call va1 b2
  have vb2 := Mem.var_call vb1 b2
  clear hrb va1 vb1 b2 bw1 c0
  cases R2
  · clear va2 vb2
    go_wp2
    go_ret
    exact ⟨rfl, bw2⟩
  have c0 := va2.2 0 _ rfl
  have d0 := vb2.2 0 _ rfl
  go_wp2_with fail
  refine (unhide hs _ bw2).mono ?_
  rintro e w3 ⟨rfl, b3⟩
  have bw3 := bw2.trans (b3.mono bw2.size)
  clear hs va2 vb2 b3 bw2 c0 d0
  go_wp2
  go_ret
  exact ⟨ret_bool (by simp), bw3⟩
set_option linter.unusedSimpArgs false in
set_option maxRecDepth 100000 in
set_option maxHeartbeats 2000000 in
theorem impl_any (a b : Option Addr) (c1 c2 : Nat) (A B : List Pl.Nd) (w : World) (hA : A.length ≤ 1048576) (hB : B.length ≤ 1048576) (hv : Mem.isNodes w a A) (hu : Mem.isNodes w b B) (okA : ∀ n ∈ A, n.path.size ≤ 1048576 ∧ n.data.size ≤ 1048576) (okB : ∀ n ∈ B, n.path.size ≤ 1048576 ∧ n.data.size ≤ 1048576) (r1 r2 r3 : TypeId) (x1 x2 x3 : Value) (hE : WNodesI.Errs w r1 r2 r3 x1 x2 x3) :
    Calls Tryd.prog 9 #[.agg #[.slice a A.length c1], .agg #[.slice b B.length c2]] w fun e w' => e = .returned (.bool (sameB A B)) ∧ Below w.heap.size w w' := by
  have b0 : Below w.heap.size w ((w.alloc (.cells #[.slice a A.length c1] 25)).alloc (.cells #[.slice b B.length c2] 25)) := ((Below.refl _ _).alloc (Nat.le_refl _) _).alloc (by simp) _
  have va := Mem.var_alloc (Mem.var_new w [.slice a A.length c1] 25) (.cells #[.slice b B.length c2] 25)
  have vb := Mem.var_new (w.alloc (.cells #[.slice a A.length c1] 25)) [.slice b B.length c2] 25
  rw [show (w.alloc (.cells #[.slice a A.length c1] 25)).heap.size = w.heap.size + 1 by simp] at vb
  have hra := hide (fun W (bw : Below w.heap.size w W) => WNodesI.treeRight_any a c1 A W hA (Mem.nodes_call hv bw) okA r1 r2 r3 x1 x2 x3 (hE.call bw))
  have hrb := hide (fun W (bw : Below w.heap.size w W) => WNodesI.treeRight_any b c2 B W hB (Mem.nodes_call hu bw) okB r1 r2 r3 x1 x2 x3 (hE.call bw))
  have hs := hide (fun W (bw : Below w.heap.size w W) => equal_any a b c1 c2 A B W hA (Mem.nodes_call hv bw) (Mem.nodes_call hu bw))
  unfold sameB
  generalize Pl.eqL A B = R3 at hs ⊢
  generalize Pl.treeB A = R1 at hra ⊢
  generalize Pl.treeB B = R2 at hrb ⊢
  clear hv hu okA okB hE
  go_enter Tryd.func9, Tryd.ntmps9
  go_wp2_with fail
  refine (unhide hra _ b0).mono ?_
  rintro e w1 ⟨rfl, b1⟩
  have bw1 := b0.trans (b1.mono b0.size)
  have va1 := Mem.var_call va b1
  have vb1 := Mem.var_call vb b1
  clear hra va vb b1 b0
  cases R1
  · clear va1 vb1
    go_wp2
    go_ret
    exact ⟨rfl, bw1⟩
  have c0 := vb1.2 0 _ rfl
  go_wp2_with fail
  refine (unhide hrb _ bw1).mono ?_
  rintro e w2 ⟨rfl, b2⟩
  have bw2 := bw1.trans (b2.mono bw1.size)
  have va2 := Mem.var_call va1 b2
  have vb2 := Mem.var_call vb1 b2
  clear hrb va1 vb1 b2 bw1 c0
  cases R2
  · clear va2 vb2
    go_wp2
    go_ret
    exact ⟨rfl, bw2⟩
  have c0 := va2.2 0 _ rfl
  have d0 := vb2.2 0 _ rfl
  go_wp2_with fail
  refine (unhide hs _ bw2).mono ?_
  rintro e w3 ⟨rfl, b3⟩
  have bw3 := bw2.trans (b3.mono bw2.size)
  clear hs va2 vb2 b3 bw2 c0 d0
  go_wp2
  go_ret
  exact ⟨ret_bool (by simp), bw3⟩
end WSameT
end Go.Proofs.YtfjpbmacfcabaabDoor

/- The walk of the laws' own lwTree over any two trees (turned from WSameT). -/
namespace Go.Proofs.YtfjpbmacfcabaabDoor
open Go.RowKit
namespace WLwG
set_option linter.unusedSimpArgs false in
set_option maxRecDepth 100000 in
set_option maxHeartbeats 2000000 in
theorem lw_any (a b : Option Addr) (c1 c2 : Nat) (A B : List Pl.Nd) (w : World) (hA : A.length ≤ 1048576) (hv : Mem.isNodes w a A) (hu : Mem.isNodes w b B) :
    Calls Tryd.prog 11 #[.agg #[.slice a A.length c1], .agg #[.slice b B.length c2]] w fun e w' => e = .returned (.bool (Pl.eqL A B)) ∧ Below w.heap.size w w' := by
  have b0 : Below w.heap.size w ((w.alloc (.cells #[.slice a A.length c1] 25)).alloc (.cells #[.slice b B.length c2] 25)) := ((Below.refl _ _).alloc (Nat.le_refl _) _).alloc (by simp) _
  have E1 : Hid (A.length ≠ B.length → Pl.eqL A B = false) := Pl.eqL_len
  have E2 : Hid (∀ (k : Nat) x y, A[k]? = some x → B[k]? = some y → Pl.eqN x y = false → Pl.eqL A B = false) := fun k x y => Pl.eqL_bad
  have E3 : Hid (A.length = B.length → (∀ (k : Nat) x y, A[k]? = some x → B[k]? = some y → Pl.eqN x y = true) → Pl.eqL A B = true) := Pl.eqL_good
  generalize Pl.eqL A B = R at E1 E2 E3 ⊢
  have HV := hide hv
  have HU := hide hu
  clear hv hu
  by_cases hl : A.length = B.length
  rotate_left
  · have E := hide (unhide E1 hl)
    have t0 : ((A.length : Int) == (B.length : Int)) = false := by rw [beq_eq_false_iff_ne]; omega
    clear hl
    go_enter Tryd.func11, Tryd.ntmps11
    go_wp2
    go_ret
    exact ⟨ret_bool (unhide E).symm, b0⟩
  have t0 : ((A.length : Int) == (B.length : Int)) = true := by rw [beq_iff_eq]; omega
  have HL := hide hl
  clear hl
  go_enter Tryd.func11, Tryd.ntmps11
  go_wp2
  go_loopw [5] (fun i wr => ∃ k : Nat, k ≤ A.length ∧ i = .int .i64 (k : Int) ∧ Below w.heap.size w wr ∧ Hid (Mem.Var wr w.heap.size [.slice a A.length c1]) ∧ Hid (Mem.Var wr (w.heap.size + 1) [.slice b B.length c2]) ∧ Hid (∀ (j : Nat) x y, j < k → A[j]? = some x → B[j]? = some y → Pl.eqN x y = true)) (fun i _ => A.length - (intOf i).toNat)
  case atStart =>
    refine ⟨0, Nat.zero_le _, rfl, b0, ?_, ?_, fun j x y h => absurd h (by omega)⟩
    · exact hide (Mem.var_alloc (Mem.var_new w [.slice a A.length c1] 25) _)
    · have h := Mem.var_new (w.alloc (.cells #[.slice a A.length c1] 25)) [.slice b B.length c2] 25
      rw [show (w.alloc (.cells #[.slice a A.length c1] 25)).heap.size = w.heap.size + 1 by simp] at h
      exact hide h
  case round =>
    obtain ⟨k, hk, rfl, hbel, V1, V2, HA⟩ := hrel
    have cv1 := (unhide V1).2 0 _ rfl
    have cv2 := (unhide V2).2 0 _ rfl
    by_cases hlt : k < A.length
    · obtain ⟨x, hx⟩ : ∃ x, A[k]? = some x := ⟨_, List.getElem?_eq_getElem hlt⟩
      obtain ⟨y, hy⟩ : ∃ y, B[k]? = some y := ⟨_, List.getElem?_eq_getElem (by have := unhide HL; omega)⟩
      obtain ⟨g, o, rfl, hg, q0, q1, q2, q3, q4⟩ := (Mem.nodes_call (unhide HV) hbel) k x hx
      obtain ⟨g2, o2, rfl, hg2, p0, p1, p2, p3, p4⟩ := (Mem.nodes_call (unhide HU) hbel) k y hy
      have y1 : (k : Int) < (A.length : Int) := by omega
      have y2 : (k : Int) < (B.length : Int) := by have := unhide HL; omega
      have y3 : (0 : Int) ≤ (k : Int) := by omega
      have HX := hide hx
      have HY := hide hy
      cases hq : Pl.eqN x y
      · have E := hide (unhide E2 k x y hx hy hq)
        have HQ := hide hq
        clear hx hy hq
        go_wp2
        refine wp_region_held_drew (S := fun W' => W'.cell? ⟨w.heap.size, 0, none⟩ = some (.slice (some ⟨g, o, none⟩) A.length c1) ∧ W'.cell? ⟨w.heap.size + 1, 0, none⟩ = some (.slice (some ⟨g2, o2, none⟩) B.length c2) ∧ W'.cell? ⟨g, o + k * 5, none⟩ = some (.string x.path) ∧ W'.cell? ⟨g, o + k * 5 + 1, none⟩ = some (.int .i64 x.kind) ∧ W'.cell? ⟨g, o + k * 5 + 2, none⟩ = some (.string x.data) ∧ W'.cell? ⟨g, o + k * 5 + 3, none⟩ = some (.int .i64 x.time) ∧ W'.cell? ⟨g, o + k * 5 + 4, none⟩ = some (.int .i64 x.mark) ∧ W'.cell? ⟨g2, o2 + k * 5, none⟩ = some (.string y.path) ∧ W'.cell? ⟨g2, o2 + k * 5 + 1, none⟩ = some (.int .i64 y.kind) ∧ W'.cell? ⟨g2, o2 + k * 5 + 2, none⟩ = some (.string y.data) ∧ W'.cell? ⟨g2, o2 + k * 5 + 3, none⟩ = some (.int .i64 y.time) ∧ W'.cell? ⟨g2, o2 + k * 5 + 4, none⟩ = some (.int .i64 y.mark)) (by kernel_rfl) ?_ (fun hHeld => ?_)
        · exact ⟨cv1, cv2, q0, q1, q2, q3, q4, p0, p1, p2, p3, p4⟩
        refine wpAnyH_take (i := 0) (v := ?_) rfl (by kernel_rfl) (by kernel_rfl) (by kernel_rfl) (fun _ _ _ h => h) (Or.inl ⟨by rfl, ?_⟩) (by assumption) ?_
        rotate_left
        · (intro w hSw; (try dsimp only at hSw); go_simp; (try with_reducible rfl))
        try simp only [Act.put, List.getElem_toArray, List.getElem_cons_zero, List.getElem_cons_succ, List.setIfInBounds_toArray, List.set_cons_zero, List.set_cons_succ]
        refine wpAnyH_take (i := 1) (v := ?_) rfl (by kernel_rfl) (by kernel_rfl) (by kernel_rfl) (fun _ _ _ h => h) (Or.inl ⟨by rfl, ?_⟩) (by assumption) ?_
        rotate_left
        · (intro w hSw; (try dsimp only at hSw); go_simp; (try with_reducible rfl))
        try simp only [Act.put, List.getElem_toArray, List.getElem_cons_zero, List.getElem_cons_succ, List.setIfInBounds_toArray, List.set_cons_zero, List.set_cons_succ]
        refine wpAnyH_take (i := 2) (v := ?_) rfl (by kernel_rfl) (by kernel_rfl) (by kernel_rfl) (fun _ _ _ h => h) (Or.inl ⟨by rfl, ?_⟩) (by assumption) ?_
        rotate_left
        · (intro w hSw; (try dsimp only at hSw); go_simp; (try with_reducible rfl))
        try simp only [Act.put, List.getElem_toArray, List.getElem_cons_zero, List.getElem_cons_succ, List.setIfInBounds_toArray, List.set_cons_zero, List.set_cons_succ]
        refine wpAnyH_take (i := 3) (v := ?_) rfl (by kernel_rfl) (by kernel_rfl) (by kernel_rfl) (fun _ _ _ h => h) (Or.inl ⟨by rfl, ?_⟩) (by assumption) ?_
        rotate_left
        · (intro w hSw; (try dsimp only at hSw); go_simp; (try with_reducible rfl))
        try simp only [Act.put, List.getElem_toArray, List.getElem_cons_zero, List.getElem_cons_succ, List.setIfInBounds_toArray, List.set_cons_zero, List.set_cons_succ]
        refine wpAnyH_take (i := 4) (v := ?_) rfl (by kernel_rfl) (by kernel_rfl) (by kernel_rfl) (fun _ _ _ h => h) (Or.inl ⟨by rfl, ?_⟩) (by assumption) ?_
        rotate_left
        · (intro w hSw; (try dsimp only at hSw); go_simp; (try with_reducible rfl))
        try simp only [Act.put, List.getElem_toArray, List.getElem_cons_zero, List.getElem_cons_succ, List.setIfInBounds_toArray, List.set_cons_zero, List.set_cons_succ]
        refine wpAnyH_take (i := 5) (v := ?_) rfl (by kernel_rfl) (by kernel_rfl) (by kernel_rfl) (fun _ _ _ h => h) (Or.inl ⟨by rfl, ?_⟩) (by assumption) ?_
        rotate_left
        · (intro w hSw; (try dsimp only at hSw); go_simp; (try with_reducible rfl))
        try simp only [Act.put, List.getElem_toArray, List.getElem_cons_zero, List.getElem_cons_succ, List.setIfInBounds_toArray, List.set_cons_zero, List.set_cons_succ]
        refine wpAnyH_take (i := 6) (v := ?_) rfl (by kernel_rfl) (by kernel_rfl) (by kernel_rfl) (fun _ _ _ h => h) (Or.inl ⟨by rfl, ?_⟩) (by assumption) ?_
        rotate_left
        · (intro w hSw; (try dsimp only at hSw); go_simp; (try with_reducible rfl))
        try simp only [Act.put, List.getElem_toArray, List.getElem_cons_zero, List.getElem_cons_succ, List.setIfInBounds_toArray, List.set_cons_zero, List.set_cons_succ]
        refine wpAnyH_take (i := 7) (v := ?_) rfl (by kernel_rfl) (by kernel_rfl) (by kernel_rfl) (fun _ _ _ h => h) (Or.inl ⟨by rfl, ?_⟩) (by assumption) ?_
        rotate_left
        · (intro w hSw; (try dsimp only at hSw); go_simp; (try with_reducible rfl))
        try simp only [Act.put, List.getElem_toArray, List.getElem_cons_zero, List.getElem_cons_succ, List.setIfInBounds_toArray, List.set_cons_zero, List.set_cons_succ]
        refine wpAnyH_take (i := 8) (v := ?_) rfl (by kernel_rfl) (by kernel_rfl) (by kernel_rfl) (fun _ _ _ h => h) (Or.inl ⟨by rfl, ?_⟩) (by assumption) ?_
        rotate_left
        · (intro w hSw; (try dsimp only at hSw); go_simp; (try with_reducible rfl))
        try simp only [Act.put, List.getElem_toArray, List.getElem_cons_zero, List.getElem_cons_succ, List.setIfInBounds_toArray, List.set_cons_zero, List.set_cons_succ]
        refine wpAnyH_take (i := 9) (v := ?_) rfl (by kernel_rfl) (by kernel_rfl) (by kernel_rfl) (fun _ _ _ h => h) (Or.inl ⟨by rfl, ?_⟩) (by assumption) ?_
        rotate_left
        · (intro w hSw; (try dsimp only at hSw); go_simp; (try with_reducible rfl))
        try simp only [Act.put, List.getElem_toArray, List.getElem_cons_zero, List.getElem_cons_succ, List.setIfInBounds_toArray, List.set_cons_zero, List.set_cons_succ]
        refine wpAnyH_take (i := 10) (v := .bool true) rfl (by kernel_rfl) (by kernel_rfl) (by kernel_rfl) (fun _ _ _ h => h) (Or.inl ⟨by rfl, ?_⟩) (by assumption) ?_
        · (intro w hSw; (try dsimp only at hSw); go_simp; exact Pl.neq_imp (unhide HQ))
        try simp only [Act.put, List.getElem_toArray, List.getElem_cons_zero, List.getElem_cons_succ, List.setIfInBounds_toArray, List.set_cons_zero, List.set_cons_succ]
        refine wpAnyH_done (by kernel_rfl) ?_ _
        clear hHeld
        go_wp2
        go_ret
        exact ⟨ret_bool (unhide E).symm, Mem.below_drewN hbel 1⟩
      · have HA2 : Hid (∀ (j : Nat) x y, j < k + 1 → A[j]? = some x → B[j]? = some y → Pl.eqN x y = true) := fun j x' y' hj h1 h2 => by
          rcases Nat.lt_succ_iff_lt_or_eq.1 hj with h'' | rfl
          · exact HA.out j x' y' h'' h1 h2
          · rw [hx] at h1; rw [hy] at h2; cases h1; cases h2; exact hq
        obtain rfl := Pl.eqN_eq hq
        clear hx hy hq
        go_wp2
        refine wp_region_held_drew (S := fun W' => W'.cell? ⟨w.heap.size, 0, none⟩ = some (.slice (some ⟨g, o, none⟩) A.length c1) ∧ W'.cell? ⟨w.heap.size + 1, 0, none⟩ = some (.slice (some ⟨g2, o2, none⟩) B.length c2) ∧ W'.cell? ⟨g, o + k * 5, none⟩ = some (.string x.path) ∧ W'.cell? ⟨g, o + k * 5 + 1, none⟩ = some (.int .i64 x.kind) ∧ W'.cell? ⟨g, o + k * 5 + 2, none⟩ = some (.string x.data) ∧ W'.cell? ⟨g, o + k * 5 + 3, none⟩ = some (.int .i64 x.time) ∧ W'.cell? ⟨g, o + k * 5 + 4, none⟩ = some (.int .i64 x.mark) ∧ W'.cell? ⟨g2, o2 + k * 5, none⟩ = some (.string x.path) ∧ W'.cell? ⟨g2, o2 + k * 5 + 1, none⟩ = some (.int .i64 x.kind) ∧ W'.cell? ⟨g2, o2 + k * 5 + 2, none⟩ = some (.string x.data) ∧ W'.cell? ⟨g2, o2 + k * 5 + 3, none⟩ = some (.int .i64 x.time) ∧ W'.cell? ⟨g2, o2 + k * 5 + 4, none⟩ = some (.int .i64 x.mark)) (by kernel_rfl) ?_ (fun hHeld => ?_)
        · exact ⟨cv1, cv2, q0, q1, q2, q3, q4, p0, p1, p2, p3, p4⟩
        refine wpAnyH_take (i := 0) (v := ?_) rfl (by kernel_rfl) (by kernel_rfl) (by kernel_rfl) (fun _ _ _ h => h) (Or.inl ⟨by rfl, ?_⟩) (by assumption) ?_
        rotate_left
        · (intro w hSw; (try dsimp only at hSw); go_simp; (try with_reducible rfl))
        try simp only [Act.put, List.getElem_toArray, List.getElem_cons_zero, List.getElem_cons_succ, List.setIfInBounds_toArray, List.set_cons_zero, List.set_cons_succ]
        refine wpAnyH_take (i := 1) (v := ?_) rfl (by kernel_rfl) (by kernel_rfl) (by kernel_rfl) (fun _ _ _ h => h) (Or.inl ⟨by rfl, ?_⟩) (by assumption) ?_
        rotate_left
        · (intro w hSw; (try dsimp only at hSw); go_simp; (try with_reducible rfl))
        try simp only [Act.put, List.getElem_toArray, List.getElem_cons_zero, List.getElem_cons_succ, List.setIfInBounds_toArray, List.set_cons_zero, List.set_cons_succ]
        refine wpAnyH_take (i := 2) (v := ?_) rfl (by kernel_rfl) (by kernel_rfl) (by kernel_rfl) (fun _ _ _ h => h) (Or.inl ⟨by rfl, ?_⟩) (by assumption) ?_
        rotate_left
        · (intro w hSw; (try dsimp only at hSw); go_simp; (try with_reducible rfl))
        try simp only [Act.put, List.getElem_toArray, List.getElem_cons_zero, List.getElem_cons_succ, List.setIfInBounds_toArray, List.set_cons_zero, List.set_cons_succ]
        refine wpAnyH_take (i := 3) (v := ?_) rfl (by kernel_rfl) (by kernel_rfl) (by kernel_rfl) (fun _ _ _ h => h) (Or.inl ⟨by rfl, ?_⟩) (by assumption) ?_
        rotate_left
        · (intro w hSw; (try dsimp only at hSw); go_simp; (try with_reducible rfl))
        try simp only [Act.put, List.getElem_toArray, List.getElem_cons_zero, List.getElem_cons_succ, List.setIfInBounds_toArray, List.set_cons_zero, List.set_cons_succ]
        refine wpAnyH_take (i := 4) (v := ?_) rfl (by kernel_rfl) (by kernel_rfl) (by kernel_rfl) (fun _ _ _ h => h) (Or.inl ⟨by rfl, ?_⟩) (by assumption) ?_
        rotate_left
        · (intro w hSw; (try dsimp only at hSw); go_simp; (try with_reducible rfl))
        try simp only [Act.put, List.getElem_toArray, List.getElem_cons_zero, List.getElem_cons_succ, List.setIfInBounds_toArray, List.set_cons_zero, List.set_cons_succ]
        refine wpAnyH_take (i := 5) (v := ?_) rfl (by kernel_rfl) (by kernel_rfl) (by kernel_rfl) (fun _ _ _ h => h) (Or.inl ⟨by rfl, ?_⟩) (by assumption) ?_
        rotate_left
        · (intro w hSw; (try dsimp only at hSw); go_simp; (try with_reducible rfl))
        try simp only [Act.put, List.getElem_toArray, List.getElem_cons_zero, List.getElem_cons_succ, List.setIfInBounds_toArray, List.set_cons_zero, List.set_cons_succ]
        refine wpAnyH_take (i := 6) (v := ?_) rfl (by kernel_rfl) (by kernel_rfl) (by kernel_rfl) (fun _ _ _ h => h) (Or.inl ⟨by rfl, ?_⟩) (by assumption) ?_
        rotate_left
        · (intro w hSw; (try dsimp only at hSw); go_simp; (try with_reducible rfl))
        try simp only [Act.put, List.getElem_toArray, List.getElem_cons_zero, List.getElem_cons_succ, List.setIfInBounds_toArray, List.set_cons_zero, List.set_cons_succ]
        refine wpAnyH_take (i := 7) (v := ?_) rfl (by kernel_rfl) (by kernel_rfl) (by kernel_rfl) (fun _ _ _ h => h) (Or.inl ⟨by rfl, ?_⟩) (by assumption) ?_
        rotate_left
        · (intro w hSw; (try dsimp only at hSw); go_simp; (try with_reducible rfl))
        try simp only [Act.put, List.getElem_toArray, List.getElem_cons_zero, List.getElem_cons_succ, List.setIfInBounds_toArray, List.set_cons_zero, List.set_cons_succ]
        refine wpAnyH_take (i := 8) (v := ?_) rfl (by kernel_rfl) (by kernel_rfl) (by kernel_rfl) (fun _ _ _ h => h) (Or.inl ⟨by rfl, ?_⟩) (by assumption) ?_
        rotate_left
        · (intro w hSw; (try dsimp only at hSw); go_simp; (try with_reducible rfl))
        try simp only [Act.put, List.getElem_toArray, List.getElem_cons_zero, List.getElem_cons_succ, List.setIfInBounds_toArray, List.set_cons_zero, List.set_cons_succ]
        refine wpAnyH_take (i := 9) (v := ?_) rfl (by kernel_rfl) (by kernel_rfl) (by kernel_rfl) (fun _ _ _ h => h) (Or.inl ⟨by rfl, ?_⟩) (by assumption) ?_
        rotate_left
        · (intro w hSw; (try dsimp only at hSw); go_simp; (try with_reducible rfl))
        try simp only [Act.put, List.getElem_toArray, List.getElem_cons_zero, List.getElem_cons_succ, List.setIfInBounds_toArray, List.set_cons_zero, List.set_cons_succ]
        refine wpAnyH_take (i := 10) (v := .bool false) rfl (by kernel_rfl) (by kernel_rfl) (by kernel_rfl) (fun _ _ _ h => h) (Or.inl ⟨by rfl, ?_⟩) (by assumption) ?_
        · (intro w hSw; (try dsimp only at hSw); go_simp; (try with_reducible rfl))
        try simp only [Act.put, List.getElem_toArray, List.getElem_cons_zero, List.getElem_cons_succ, List.setIfInBounds_toArray, List.set_cons_zero, List.set_cons_succ]
        refine wpAnyH_done (by kernel_rfl) ?_ _
        clear hHeld
        go_wp2
        go_roundw
        case rel => exact ⟨k + 1, by omega, by go_num, Mem.below_drewN hbel 1, V1, V2, HA2⟩
        case measure => simp [intOf]; omega
    · have E := hide (unhide E3 (unhide HL) (fun j x y h1 h2 => HA.out j x y (by have := (List.getElem?_eq_some_iff.1 h1).1; omega) h1 h2))
      have y1 : ¬ (k : Int) < (A.length : Int) := by omega
      go_wp2
      go_ret
      exact ⟨ret_bool (unhide E).symm, hbel⟩
end WLwG
end Go.Proofs.YtfjpbmacfcabaabDoor

/- The walks of the laws' own lwTree (over the same nodes) and lwTrees. -/
namespace Go.Proofs.YtfjpbmacfcabaabDoor
open Go.RowKit
namespace WLw
set_option linter.unusedSimpArgs false in
set_option maxRecDepth 100000 in
set_option maxHeartbeats 2000000 in
theorem tree_any (a b : Option Addr) (c1 c2 : Nat) (L : List Pl.Nd) (w : World) (hA : L.length ≤ 1048576) (hv : Mem.isNodes w a L) (hu : Mem.isNodes w b L) :
    Calls Tryd.prog 11 #[.agg #[.slice a L.length c1], .agg #[.slice b L.length c2]] w fun e w' => e = .returned (.bool true) ∧ Below w.heap.size w w' := by
  have b0 : Below w.heap.size w ((w.alloc (.cells #[.slice a L.length c1] 25)).alloc (.cells #[.slice b L.length c2] 25)) := ((Below.refl _ _).alloc (Nat.le_refl _) _).alloc (by simp) _
  have HV := hide hv
  have HU := hide hu
  clear hv hu
  go_enter Tryd.func11, Tryd.ntmps11
  go_wp2
  go_loopw [5] (fun i wr => ∃ k : Nat, k ≤ L.length ∧ i = .int .i64 (k : Int) ∧ Below w.heap.size w wr ∧ Hid (Mem.Var wr w.heap.size [.slice a L.length c1]) ∧ Hid (Mem.Var wr (w.heap.size + 1) [.slice b L.length c2])) (fun i _ => L.length - (intOf i).toNat)
  case atStart =>
    refine ⟨0, Nat.zero_le _, rfl, b0, ?_, ?_⟩
    · exact hide (Mem.var_alloc (Mem.var_new w [.slice a L.length c1] 25) _)
    · have h := Mem.var_new (w.alloc (.cells #[.slice a L.length c1] 25)) [.slice b L.length c2] 25
      rw [show (w.alloc (.cells #[.slice a L.length c1] 25)).heap.size = w.heap.size + 1 by simp] at h
      exact hide h
  case round =>
    obtain ⟨k, hk, rfl, hbel, V1, V2⟩ := hrel
    have cv1 := (unhide V1).2 0 _ rfl
    have cv2 := (unhide V2).2 0 _ rfl
    by_cases hlt : k < L.length
    · obtain ⟨n, hn⟩ : ∃ n, L[k]? = some n := ⟨_, List.getElem?_eq_getElem hlt⟩
      have y1 : (k : Int) < (L.length : Int) := by omega
      have y3 : (0 : Int) ≤ (k : Int) := by omega
      obtain ⟨g, o, rfl, hg, q0, q1, q2, q3, q4⟩ := (Mem.nodes_call (unhide HV) hbel) k n hn
      obtain ⟨g2, o2, rfl, hg2, p0, p1, p2, p3, p4⟩ := (Mem.nodes_call (unhide HU) hbel) k n hn
      obtain ⟨np, nk, nd, nt, nm⟩ := n
      simp only at q0 q1 q2 q3 q4 p0 p1 p2 p3 p4
      clear hn HV HU b0
      go_wp2
      go_quiet (fail)
      go_wp2
      go_roundw
      case rel => exact ⟨k + 1, by omega, by go_num, Mem.below_drewN hbel _, unhide V1, unhide V2⟩
      case measure => simp [intOf]; omega
    · have y1 : ¬ (k : Int) < (L.length : Int) := by omega
      go_wp2
      go_ret
      exact ⟨rfl, hbel⟩
set_option linter.unusedSimpArgs false in
set_option maxRecDepth 100000 in
set_option maxHeartbeats 2000000 in
theorem trees_any (a b : Option Addr) (c1 c2 : Nat) (C : Int) (L : List Pl.Nd) (w : World) (hA : L.length ≤ 1048576) (hv : Mem.isNodes w a L) (hu : Mem.isNodes w b L) (hok : ∀ n ∈ L, n.path.size ≤ 1048576 ∧ n.data.size ≤ 1048576) (hr : C = 0 → Pl.treeB L = true) :
    Calls Tryd.prog 12 #[.agg #[.slice a L.length c1, .int .i64 C], .agg #[.slice b L.length c2, .int .i64 C]] w fun e w' => e = .returned (.bool true) ∧ Below w.heap.size w w' := by
  have b0 : Below w.heap.size w ((w.alloc (.cells #[.slice a L.length c1, .int .i64 C] 30)).alloc (.cells #[.slice b L.length c2, .int .i64 C] 30)) := ((Below.refl _ _).alloc (Nat.le_refl _) _).alloc (by simp) _
  have B1 := hide ((Mem.Blk.new w #[.slice a L.length c1, .int .i64 C] 30).alloc (.cells #[.slice b L.length c2, .int .i64 C] 30))
  have B2 : Hid (Mem.Blk ((w.alloc (.cells #[.slice a L.length c1, .int .i64 C] 30)).alloc (.cells #[.slice b L.length c2, .int .i64 C] 30)) (w.heap.size + 1) #[.slice b L.length c2, .int .i64 C] 30) := Mem.new_two _ _ _
  have HT := hide (tree_any a b c1 c2 L _ hA (Mem.nodes_call hv b0) (Mem.nodes_call hu b0))
  have HR := hide (fun W (b : Below w.heap.size w W) => WTreeS.right_tree a c1 L W hA (Mem.nodes_call hv b) hok)
  clear hv hu hok
  have x0 := (unhide B1).cell 0
  have x1 := (unhide B1).cell 1
  have y0 := (unhide B2).cell 0
  have y1 := (unhide B2).cell 1
  simp only [List.getElem?_toArray, List.getElem?_cons_zero, List.getElem?_cons_succ] at x0 x1 y0 y1
  go_enter Tryd.func12, Tryd.ntmps12
  go_wp2_with fail
  refine (unhide HT).mono ?_
  rintro e w1 ⟨rfl, b1⟩
  have B3 := hide ((unhide B1).call b1)
  have bw1 := b0.trans (b1.mono b0.size)
  clear HT x0 x1 y0 y1 B1 B2 b1 b0
  have x0 := (unhide B3).cell 0
  have x1 := (unhide B3).cell 1
  simp only [List.getElem?_toArray, List.getElem?_cons_zero, List.getElem?_cons_succ] at x0 x1
  by_cases h0 : C = 0
  · subst h0
    have hr' := hide (hr rfl)
    clear hr
    rw [unhide hr'] at HR
    go_wp2_with fail
    refine (unhide HR _ bw1).mono ?_
    rintro e w2 ⟨rfl, b2⟩
    go_wp2
    go_ret
    exact ⟨rfl, bw1.trans (b2.mono bw1.size)⟩
  · clear HR hr
    go_wp2
    go_ret
    exact ⟨rfl, bw1⟩
end WLw
end Go.Proofs.YtfjpbmacfcabaabDoor

