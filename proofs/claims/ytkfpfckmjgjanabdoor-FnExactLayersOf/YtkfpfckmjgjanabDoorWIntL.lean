/- Rows of numbers: the laws' own eqInt64S, markInt64S, heldInt64S. -/
import Derived.Test.YtkfpfckmjgjanabDoorG76
namespace Go.Proofs.YtkfpfckmjgjanabDoor
open Go.RowKit
namespace WIntL
set_option maxRecDepth 100000 in
set_option maxHeartbeats 400000 in
theorem eq_any (v u : Value) (A : List Nat) (w : World) (hA : A.length ≤ 1000) (hv : isInts w v A) (hu : isInts w u A) :
    Calls Tryd.prog 28 #[v, u] w fun e w' => e = .returned (.bool true) ∧ Below w.heap.size w w' := by
  obtain ⟨va, vc, rfl⟩ := ints_shape hv
  obtain ⟨ua, uc, rfl⟩ := ints_shape hu
  have HCA : Hid (∀ (k x : Nat), A[k]? = some x → ∃ b, va = some ⟨b, 0, none⟩ ∧ b < w.heap.size ∧ w.cell? ⟨b, k, none⟩ = some (.int .i64 (x : Int))) := fun k x hx => by
    rcases hv with ⟨_, rfl⟩ | ⟨b, cap, h1, h2, h3⟩
    · simp at hx
    · cases h1; exact ⟨b, rfl, h2, h3 k x hx⟩
  have HCB : Hid (∀ (k x : Nat), A[k]? = some x → ∃ b, ua = some ⟨b, 0, none⟩ ∧ b < w.heap.size ∧ w.cell? ⟨b, k, none⟩ = some (.int .i64 (x : Int))) := fun k x hx => by
    rcases hu with ⟨_, rfl⟩ | ⟨b, cap, h1, h2, h3⟩
    · simp at hx
    · cases h1; exact ⟨b, rfl, h2, h3 k x hx⟩
  clear hv hu
  go_enter Tryd.func28, Tryd.ntmps28
  go_wp2
  go_loopw [5] (fun i wr => ∃ k : Nat, k ≤ A.length ∧ i = .int .i64 (k : Int) ∧ Below w.heap.size w wr) (fun i _ => A.length - (intOf i).toNat)
  case atStart => exact ⟨0, Nat.zero_le _, rfl, Below.refl _ _⟩
  case round =>
    obtain ⟨k, hk, rfl, hbel⟩ := hrel
    by_cases hlt : k < A.length
    · obtain ⟨x, hx⟩ : ∃ x, A[k]? = some x := ⟨_, List.getElem?_eq_getElem (by omega)⟩
      obtain ⟨b, rfl, hb, hcb⟩ := HCB.out k x hx
      obtain ⟨b', rfl, hb', hca⟩ := HCA.out k x hx
      have hc1 : wr.cell? ⟨b, k, none⟩ = some (.int .i64 (x : Int)) := (hbel.cell (p := ⟨b, k, none⟩) hb).trans hcb
      have hc2 : wr.cell? ⟨b', k, none⟩ = some (.int .i64 (x : Int)) := (hbel.cell (p := ⟨b', k, none⟩) hb').trans hca
      have u1 : (k : Int) < (A.length : Int) := by omega
      have u3 : (0 : Int) ≤ (k : Int) := by omega
      clear hcb hca hx HCA HCB
      go_wp2
      go_quiet (fail)
      go_wp2
      go_roundw
      case rel => exact ⟨k + 1, by omega, by go_num, Mem.below_drewN hbel _⟩
      case measure => simp [intOf]; omega
    · go_wp2
      go_ret
      exact ⟨rfl, hbel⟩
/-- n numbers, from k on. -/
def marksI (k : Nat) : Nat → List Nat
  | 0 => []
  | n + 1 => marksI k n ++ [k + n]
theorem marksI_length (k n : Nat) : (marksI k n).length = n := by
  induction n with
  | zero => rfl
  | succ n ih => rw [marksI, List.length_append, ih]; rfl
theorem marksI_get (k : Nat) : ∀ n j, j < n → (marksI k n)[j]? = some (k + j) := by
  intro n
  induction n with
  | zero => intro j h; omega
  | succ n ih =>
    intro j h
    rw [marksI]
    by_cases hj : j < n
    · rw [List.getElem?_append_left (by rw [marksI_length]; exact hj)]; exact ih j hj
    · obtain rfl : j = n := by omega
      rw [List.getElem?_append_right (by rw [marksI_length]; exact Nat.le_refl _), marksI_length, Nat.sub_self]; rfl
set_option maxRecDepth 100000 in
set_option maxHeartbeats 400000 in
theorem lay_any (B g n cap : Nat) (xs : List Value) (w : World) (hn : n ≤ 1000) (hown : w.ownsRow B 2 1 (.slice (some ⟨g, 0, none⟩) n cap) n xs) :
    Calls Tryd.prog 30 #[.slice (some ⟨g, 0, none⟩) n cap, .int .i64 ((1 : Nat) : Int)] w fun e w' => e = .returned (.int .i64 ((1 + n : Nat) : Int)) ∧
      w'.ownsRow B 2 1 (.slice (some ⟨g, 0, none⟩) n cap) n (valsI (marksI 1 n)) ∧ w.grownBy w' (some g) := by
  have hlt0 := hown.lt g rfl
  go_enter Tryd.func30, Tryd.ntmps30
  go_wp2
  go_loopw [1, 5] (fun a i wr => ∃ (k : Nat) (ys : List Value), k ≤ n ∧ i = .int .i64 (k : Int) ∧ a = .int .i64 ((1 + k : Nat) : Int) ∧ wr.ownsRow B 2 1 (.slice (some ⟨g, 0, none⟩) n cap) n ys ∧ w.grownBy wr (some g) ∧
      Hid (ys.take k = valsI (marksI 1 k))) (fun _ i _ => n - (intOf i).toNat)
  case atStart => exact ⟨0, xs, Nat.zero_le _, rfl, rfl, hown, ⟨rfl, rfl, rfl, Nat.le_refl _, fun _ _ _ => rfl⟩, rfl⟩
  case round =>
    obtain ⟨k, ys, hk, rfl, rfl, hown1, hgr, HX⟩ := hrel
    have hsz := hgr.size
    have hyl : ys.length = n := by have := hown1.1; omega
    by_cases hlt : k < n
    · have u1 : (k : Int) < (n : Int) := by omega
      have u3 : (0 : Int) ≤ (k : Int) := by omega
      obtain ⟨hown3, hgr3⟩ := hown1.stored k (.int .i64 ((1 + k : Nat) : Int))
      have hce : wr.cell? ⟨g, k, none⟩ = some ys[k] := by
        rw [hown1.cellAt k (by omega), List.getElem?_eq_getElem (by omega)]
      have hfr := hown1.frozenAt k
      have hgr4 : w.grownBy (wr.setCell ⟨g, k, none⟩ (.int .i64 ((1 + k : Nat) : Int))) (some g) := Mem.grown_trans hgr hgr3
      have H3 : Hid ((ys.set k (.int .i64 ((1 + k : Nat) : Int))).take (k + 1) = valsI (marksI 1 (k + 1))) := by
        show _ = _
        rw [marksI, valsI, List.map_append, ← valsI, ← HX.out, List.take_add_one, List.take_set_of_le (by omega), List.getElem?_set_self (by omega)]; rfl
      have HO3 := hide hown3
      have HG4 := hide hgr4
      generalize hq : 1 + k = q at HO3 HG4 H3 ⊢
      have HQ := hide hq
      have q1 : (q : Int) ≤ 1001 := by omega
      clear hown1 hgr hgr3 HX hown3 hgr4 hq
      go_wp2
      go_roundw
      case rel => exact ⟨k + 1, _, by omega, by go_num, by have := unhide HQ; subst this; go_num, unhide HO3, unhide HG4, H3⟩
      case measure => simp [intOf]; omega
    · obtain rfl : k = n := by omega
      have H2 : Hid (ys = valsI (marksI 1 k)) := by
        show _ = _
        have h1 := HX.out
        rwa [List.take_of_length_le (by omega)] at h1
      have HO := hide hown1
      have HG := hide hgr
      clear hown1 hgr
      go_wp2
      go_ret
      exact ⟨rfl, by rw [← unhide H2]; exact unhide HO, unhide HG⟩
set_option maxRecDepth 100000 in
theorem layNil (w : World) : Calls Tryd.prog 30 #[.slice none 0 0, .int .i64 ((1 : Nat) : Int)] w fun e w' => e = .returned (.int .i64 ((1 : Nat) : Int)) ∧ Below w.heap.size w w' := by
  go_enter Tryd.func30, Tryd.ntmps30
  go_wp2
  refine wp_loop_rounds 1 ?_
  rw [rounds_succ]
  go_wp2
  go_ret
  exact ⟨rfl, Below.refl _ _⟩
theorem lay_own (v : Value) (B : Nat) (ks : List Nat) (w : World) (hn : ks.length ≤ 1000) (h : Own w B v ks) :
    Calls Tryd.prog 30 #[v, .int .i64 ((1 : Nat) : Int)] w fun e w' => e = .returned (.int .i64 ((1 + ks.length : Nat) : Int)) ∧ isInts w' v (marksI 1 ks.length) ∧ w.grownBy w' v.ownBlock := by
  rcases h.2 with ⟨rfl, h0⟩ | ⟨g, cap, cur, rfl, _⟩
  · rw [h0]
    refine (layNil w).mono fun e w' ⟨he, b⟩ => ⟨he, ?_, Mem.grown_of_below b _⟩
    exact .inl ⟨rfl, rfl⟩
  · refine (lay_any B g ks.length cap (valsI ks) w hn h).mono fun e w' ⟨he, ho, hg⟩ => ⟨he, ?_, hg⟩
    have e : (marksI 1 ks.length).length = ks.length := marksI_length 1 _
    have h2 : Own w' B (.slice (some ⟨g, 0, none⟩) ks.length cap) (marksI 1 ks.length) := by unfold Own; rw [e]; exact ho
    exact h2.ints
set_option maxRecDepth 100000 in
set_option maxHeartbeats 400000 in
theorem held_any (v : Value) (n : Nat) (w : World) (hn : n ≤ 1000) (hv : isInts w v (marksI 1 n)) :
    Calls Tryd.prog 31 #[v, .int .i64 ((1 : Nat) : Int)] w fun e w' => e = .returned (.int .i64 ((1 + n : Nat) : Int)) ∧ Below w.heap.size w w' := by
  have hsh := ints_shape hv
  rw [marksI_length] at hsh
  obtain ⟨va, vc, rfl⟩ := hsh
  have HCA : Hid (∀ (k : Nat), k < n → ∃ b, va = some ⟨b, 0, none⟩ ∧ b < w.heap.size ∧ w.cell? ⟨b, k, none⟩ = some (.int .i64 ((1 + k : Nat) : Int))) := fun k hk => by
    have hx := marksI_get 1 n k hk
    rcases hv with ⟨_, h0⟩ | ⟨b, cap, h1, h2, h3⟩
    · rw [h0] at hx; simp at hx
    · rw [marksI_length] at h1; cases h1; exact ⟨b, rfl, h2, h3 k _ hx⟩
  clear hv
  go_enter Tryd.func31, Tryd.ntmps31
  go_wp2
  go_loopw [1, 5] (fun a i wr => ∃ (k : Nat), k ≤ n ∧ i = .int .i64 (k : Int) ∧ a = .int .i64 ((1 + k : Nat) : Int) ∧ Below w.heap.size w wr) (fun _ i _ => n - (intOf i).toNat)
  case atStart => exact ⟨0, Nat.zero_le _, rfl, rfl, Below.refl _ _⟩
  case round =>
    obtain ⟨k, hk, rfl, rfl, hbel⟩ := hrel
    by_cases hlt : k < n
    · obtain ⟨b, rfl, hb, hc⟩ := HCA.out k hlt
      have hc1 : wr.cell? ⟨b, k, none⟩ = some (.int .i64 ((1 + k : Nat) : Int)) := (hbel.cell (p := ⟨b, k, none⟩) hb).trans hc
      have u1 : (k : Int) < (n : Int) := by omega
      have u3 : (0 : Int) ≤ (k : Int) := by omega
      generalize hq : 1 + k = q at hc1 ⊢
      have HQ := hide hq
      have q1 : (q : Int) ≤ 1001 := by omega
      clear hc HCA hq
      go_wp2
      go_roundw
      case rel => exact ⟨k + 1, by omega, by go_num, by have := unhide HQ; subst this; go_num, hbel⟩
      case measure => simp [intOf]; omega
    · obtain rfl : k = n := by omega
      go_wp2
      go_ret
      exact ⟨rfl, hbel⟩
end WIntL
end Go.Proofs.YtkfpfckmjgjanabDoor
