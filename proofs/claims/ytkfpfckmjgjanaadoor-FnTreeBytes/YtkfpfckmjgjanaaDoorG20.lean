/- Several texts of one claim in one file: WSameE, WSameF. -/
import Derived.Test.YtkfpfckmjgjanaaDoorWSameT
import Derived.Test.YtkfpfckmjgjanaaDoorWNodesR
import Derived.Test.YtkfpfckmjgjanaaDoorWTreeR
import Derived.Test.YtkfpfckmjgjanaaDoorG08
/- The walks of slices.Equal over nodes and of TreeSame. -/
namespace Go.Proofs.YtkfpfckmjgjanaaDoor
open Go.RowKit
namespace WSameT
set_option linter.unusedSimpArgs false in
set_option maxRecDepth 100000 in
set_option maxHeartbeats 2000000 in
theorem equal_any (a b : Option Addr) (c1 c2 : Nat) (A B : List Pl.Nd) (w : World) (hA : A.length ≤ 1048576) (hv : Mem.isNodes w a A) (hu : Mem.isNodes w b B) :
    Calls Tryd.prog 57 #[.slice a A.length c1, .slice b B.length c2] w fun e w' => e = .returned (.bool (Pl.eqL A B)) ∧ Below w.heap.size w w' := by
  have E1 : Hid (A.length ≠ B.length → Pl.eqL A B = false) := Pl.eqL_len
  have E2 : Hid (∀ (k : Nat) x y, A[k]? = some x → B[k]? = some y → Pl.eqN x y = false → Pl.eqL A B = false) := fun k x y => Pl.eqL_bad
  have E3 : Hid (A.length = B.length → (∀ (k : Nat) x y, A[k]? = some x → B[k]? = some y → Pl.eqN x y = true) → Pl.eqL A B = true) := Pl.eqL_good
  generalize Pl.eqL A B = R at E1 E2 E3 ⊢
  have HV := hide hv
  have HU := hide hu
  clear hv hu
  by_cases hl : A.length = B.length
  rotate_left
  · have E := hide (unhide E1 hl)
    have t0 : ((A.length : Int) == (B.length : Int)) = false := by rw [beq_eq_false_iff_ne]; omega
    clear hl
    go_enter Tryd.func57, Tryd.ntmps57
    go_wp2
    go_ret
    exact ⟨ret_bool (unhide E).symm, Below.refl _ _⟩
  have t0 : ((A.length : Int) == (B.length : Int)) = true := by rw [beq_iff_eq]; omega
  have HL := hide hl
  clear hl
  go_enter Tryd.func57, Tryd.ntmps57
  go_wp2
  go_loopw [13] (fun i wr => ∃ k : Nat, k ≤ A.length ∧ i = .int .i64 (k : Int) ∧ Below w.heap.size w wr ∧ Hid (∀ (j : Nat) x y, j < k → A[j]? = some x → B[j]? = some y → Pl.eqN x y = true)) (fun i _ => A.length - (intOf i).toNat)
  case atStart => exact ⟨0, Nat.zero_le _, rfl, Below.refl _ _, fun j x y h => absurd h (by omega)⟩
  case round =>
    obtain ⟨k, hk, rfl, hbel, HA⟩ := hrel
    by_cases hlt : k < A.length
    · obtain ⟨x, hx⟩ : ∃ x, A[k]? = some x := ⟨_, List.getElem?_eq_getElem hlt⟩
      obtain ⟨y, hy⟩ : ∃ y, B[k]? = some y := ⟨_, List.getElem?_eq_getElem (by have := unhide HL; omega)⟩
      obtain ⟨g, o, rfl, hg, q0, q1, q2, q3, q4⟩ := (Mem.nodes_call (unhide HV) hbel) k x hx
      obtain ⟨g2, o2, rfl, hg2, p0, p1, p2, p3, p4⟩ := (Mem.nodes_call (unhide HU) hbel) k y hy
      have y1 : (k : Int) < (A.length : Int) := by omega
      have y2 : (k : Int) < (B.length : Int) := by have := unhide HL; omega
      have y3 : (0 : Int) ≤ (k : Int) := by omega
      cases hq : Pl.eqN x y
      · have E := hide (unhide E2 k x y hx hy hq)
        have HQ := hide hq
        clear hx hy hq
        go_wp2
        refine wp_region_held_drew (S := fun W' => True ∧ W'.cell? ⟨g, o + k * 5, none⟩ = some (.string x.path) ∧ W'.cell? ⟨g, o + k * 5 + 1, none⟩ = some (.int .i64 x.kind) ∧ W'.cell? ⟨g, o + k * 5 + 2, none⟩ = some (.string x.data) ∧ W'.cell? ⟨g, o + k * 5 + 3, none⟩ = some (.int .i64 x.time) ∧ W'.cell? ⟨g, o + k * 5 + 4, none⟩ = some (.int .i64 x.mark) ∧ W'.cell? ⟨g2, o2 + k * 5, none⟩ = some (.string y.path) ∧ W'.cell? ⟨g2, o2 + k * 5 + 1, none⟩ = some (.int .i64 y.kind) ∧ W'.cell? ⟨g2, o2 + k * 5 + 2, none⟩ = some (.string y.data) ∧ W'.cell? ⟨g2, o2 + k * 5 + 3, none⟩ = some (.int .i64 y.time) ∧ W'.cell? ⟨g2, o2 + k * 5 + 4, none⟩ = some (.int .i64 y.mark)) (by kernel_rfl) ?_ (fun hHeld => ?_)
        · exact ⟨trivial, q0, q1, q2, q3, q4, p0, p1, p2, p3, p4⟩
        refine wpAnyH_take (i := 0) (v := ?_) rfl (by kernel_rfl) (by kernel_rfl) (by kernel_rfl) (fun _ _ _ h => h) (Or.inl ⟨by rfl, ?_⟩) (by assumption) ?_
        rotate_left
        · (intro w hSw; (try dsimp only at hSw); go_simp; (try with_reducible rfl))
        try simp only [Act.put, kB0, kB1, kB2, kB3, kB4, kB5]
        refine wpAnyH_take (i := 1) (v := ?_) rfl (by kernel_rfl) (by kernel_rfl) (by kernel_rfl) (fun _ _ _ h => h) (Or.inl ⟨by rfl, ?_⟩) (by assumption) ?_
        rotate_left
        · (intro w hSw; (try dsimp only at hSw); go_simp; (try with_reducible rfl))
        try simp only [Act.put, kB0, kB1, kB2, kB3, kB4, kB5]
        refine wpAnyH_take (i := 2) (v := ?_) rfl (by kernel_rfl) (by kernel_rfl) (by kernel_rfl) (fun _ _ _ h => h) (Or.inl ⟨by rfl, ?_⟩) (by assumption) ?_
        rotate_left
        · (intro w hSw; (try dsimp only at hSw); go_simp; (try with_reducible rfl))
        try simp only [Act.put, kB0, kB1, kB2, kB3, kB4, kB5]
        refine wpAnyH_take (i := 3) (v := ?_) rfl (by kernel_rfl) (by kernel_rfl) (by kernel_rfl) (fun _ _ _ h => h) (Or.inl ⟨by rfl, ?_⟩) (by assumption) ?_
        rotate_left
        · (intro w hSw; (try dsimp only at hSw); go_simp; (try with_reducible rfl))
        try simp only [Act.put, kB0, kB1, kB2, kB3, kB4, kB5]
        refine wpAnyH_take (i := 4) (v := ?_) rfl (by kernel_rfl) (by kernel_rfl) (by kernel_rfl) (fun _ _ _ h => h) (Or.inl ⟨by rfl, ?_⟩) (by assumption) ?_
        rotate_left
        · (intro w hSw; (try dsimp only at hSw); go_simp; (try with_reducible rfl))
        try simp only [Act.put, kB0, kB1, kB2, kB3, kB4, kB5]
        refine wpAnyH_take (i := 5) (v := ?_) rfl (by kernel_rfl) (by kernel_rfl) (by kernel_rfl) (fun _ _ _ h => h) (Or.inl ⟨by rfl, ?_⟩) (by assumption) ?_
        rotate_left
        · (intro w hSw; (try dsimp only at hSw); go_simp; (try with_reducible rfl))
        try simp only [Act.put, kB0, kB1, kB2, kB3, kB4, kB5]
        refine wpAnyH_take (i := 6) (v := ?_) rfl (by kernel_rfl) (by kernel_rfl) (by kernel_rfl) (fun _ _ _ h => h) (Or.inl ⟨by rfl, ?_⟩) (by assumption) ?_
        rotate_left
        · (intro w hSw; (try dsimp only at hSw); go_simp; (try with_reducible rfl))
        try simp only [Act.put, kB0, kB1, kB2, kB3, kB4, kB5]
        refine wpAnyH_take (i := 7) (v := ?_) rfl (by kernel_rfl) (by kernel_rfl) (by kernel_rfl) (fun _ _ _ h => h) (Or.inl ⟨by rfl, ?_⟩) (by assumption) ?_
        rotate_left
        · (intro w hSw; (try dsimp only at hSw); go_simp; (try with_reducible rfl))
        try simp only [Act.put, kB0, kB1, kB2, kB3, kB4, kB5]
        refine wpAnyH_take (i := 8) (v := .bool true) rfl (by kernel_rfl) (by kernel_rfl) (by kernel_rfl) (fun _ _ _ h => h) (Or.inl ⟨by rfl, ?_⟩) (by assumption) ?_
        · (intro w hSw; (try dsimp only at hSw); go_simp; exact Pl.neq_imp (unhide HQ))
        try simp only [Act.put, kB0, kB1, kB2, kB3, kB4, kB5]
        refine wpAnyH_done (by kernel_rfl) ?_ _
        clear hHeld
        go_wp2
        go_ret
        exact ⟨ret_bool (unhide E).symm, Mem.below_drewN hbel 1⟩
      · have HA2 : Hid (∀ (j : Nat) x y, j < k + 1 → A[j]? = some x → B[j]? = some y → Pl.eqN x y = true) := fun j x' y' hj h1 h2 => by
          rcases Nat.lt_succ_iff_lt_or_eq.1 hj with h'' | rfl
          · exact HA.out j x' y' h'' h1 h2
          · rw [hx] at h1; rw [hy] at h2; cases h1; cases h2; exact hq
        obtain rfl := Pl.eqN_eq hq
        clear hx hy hq
        go_wp2
        refine wp_region_held_drew (S := fun W' => True ∧ W'.cell? ⟨g, o + k * 5, none⟩ = some (.string x.path) ∧ W'.cell? ⟨g, o + k * 5 + 1, none⟩ = some (.int .i64 x.kind) ∧ W'.cell? ⟨g, o + k * 5 + 2, none⟩ = some (.string x.data) ∧ W'.cell? ⟨g, o + k * 5 + 3, none⟩ = some (.int .i64 x.time) ∧ W'.cell? ⟨g, o + k * 5 + 4, none⟩ = some (.int .i64 x.mark) ∧ W'.cell? ⟨g2, o2 + k * 5, none⟩ = some (.string x.path) ∧ W'.cell? ⟨g2, o2 + k * 5 + 1, none⟩ = some (.int .i64 x.kind) ∧ W'.cell? ⟨g2, o2 + k * 5 + 2, none⟩ = some (.string x.data) ∧ W'.cell? ⟨g2, o2 + k * 5 + 3, none⟩ = some (.int .i64 x.time) ∧ W'.cell? ⟨g2, o2 + k * 5 + 4, none⟩ = some (.int .i64 x.mark)) (by kernel_rfl) ?_ (fun hHeld => ?_)
        · exact ⟨trivial, q0, q1, q2, q3, q4, p0, p1, p2, p3, p4⟩
        refine wpAnyH_take (i := 0) (v := ?_) rfl (by kernel_rfl) (by kernel_rfl) (by kernel_rfl) (fun _ _ _ h => h) (Or.inl ⟨by rfl, ?_⟩) (by assumption) ?_
        rotate_left
        · (intro w hSw; (try dsimp only at hSw); go_simp; (try with_reducible rfl))
        try simp only [Act.put, kB0, kB1, kB2, kB3, kB4, kB5]
        refine wpAnyH_take (i := 1) (v := ?_) rfl (by kernel_rfl) (by kernel_rfl) (by kernel_rfl) (fun _ _ _ h => h) (Or.inl ⟨by rfl, ?_⟩) (by assumption) ?_
        rotate_left
        · (intro w hSw; (try dsimp only at hSw); go_simp; (try with_reducible rfl))
        try simp only [Act.put, kB0, kB1, kB2, kB3, kB4, kB5]
        refine wpAnyH_take (i := 2) (v := ?_) rfl (by kernel_rfl) (by kernel_rfl) (by kernel_rfl) (fun _ _ _ h => h) (Or.inl ⟨by rfl, ?_⟩) (by assumption) ?_
        rotate_left
        · (intro w hSw; (try dsimp only at hSw); go_simp; (try with_reducible rfl))
        try simp only [Act.put, kB0, kB1, kB2, kB3, kB4, kB5]
        refine wpAnyH_take (i := 3) (v := ?_) rfl (by kernel_rfl) (by kernel_rfl) (by kernel_rfl) (fun _ _ _ h => h) (Or.inl ⟨by rfl, ?_⟩) (by assumption) ?_
        rotate_left
        · (intro w hSw; (try dsimp only at hSw); go_simp; (try with_reducible rfl))
        try simp only [Act.put, kB0, kB1, kB2, kB3, kB4, kB5]
        refine wpAnyH_take (i := 4) (v := ?_) rfl (by kernel_rfl) (by kernel_rfl) (by kernel_rfl) (fun _ _ _ h => h) (Or.inl ⟨by rfl, ?_⟩) (by assumption) ?_
        rotate_left
        · (intro w hSw; (try dsimp only at hSw); go_simp; (try with_reducible rfl))
        try simp only [Act.put, kB0, kB1, kB2, kB3, kB4, kB5]
        refine wpAnyH_take (i := 5) (v := ?_) rfl (by kernel_rfl) (by kernel_rfl) (by kernel_rfl) (fun _ _ _ h => h) (Or.inl ⟨by rfl, ?_⟩) (by assumption) ?_
        rotate_left
        · (intro w hSw; (try dsimp only at hSw); go_simp; (try with_reducible rfl))
        try simp only [Act.put, kB0, kB1, kB2, kB3, kB4, kB5]
        refine wpAnyH_take (i := 6) (v := ?_) rfl (by kernel_rfl) (by kernel_rfl) (by kernel_rfl) (fun _ _ _ h => h) (Or.inl ⟨by rfl, ?_⟩) (by assumption) ?_
        rotate_left
        · (intro w hSw; (try dsimp only at hSw); go_simp; (try with_reducible rfl))
        try simp only [Act.put, kB0, kB1, kB2, kB3, kB4, kB5]
        refine wpAnyH_take (i := 7) (v := ?_) rfl (by kernel_rfl) (by kernel_rfl) (by kernel_rfl) (fun _ _ _ h => h) (Or.inl ⟨by rfl, ?_⟩) (by assumption) ?_
        rotate_left
        · (intro w hSw; (try dsimp only at hSw); go_simp; (try with_reducible rfl))
        try simp only [Act.put, kB0, kB1, kB2, kB3, kB4, kB5]
        refine wpAnyH_take (i := 8) (v := .bool false) rfl (by kernel_rfl) (by kernel_rfl) (by kernel_rfl) (fun _ _ _ h => h) (Or.inl ⟨by rfl, ?_⟩) (by assumption) ?_
        · (intro w hSw; (try dsimp only at hSw); go_simp; (try with_reducible rfl))
        try simp only [Act.put, kB0, kB1, kB2, kB3, kB4, kB5]
        refine wpAnyH_done (by kernel_rfl) ?_ _
        clear hHeld
        go_wp2
        go_roundw
        case rel => exact ⟨k + 1, by omega, by go_num, Mem.below_drewN hbel 1, HA2⟩
        case measure => simp [intOf]; omega
    · have E := hide (unhide E3 (unhide HL) (fun j x y h1 h2 => HA.out j x y (by have := (List.getElem?_eq_some_iff.1 h1).1; omega) h1 h2))
      have y1 : ¬ (k : Int) < (A.length : Int) := by omega
      go_wp2
      go_ret
      exact ⟨ret_bool (unhide E).symm, hbel⟩
end WSameT
end Go.Proofs.YtkfpfckmjgjanaaDoor

/- The walks of TreeSame, of both sides. -/
namespace Go.Proofs.YtkfpfckmjgjanaaDoor
open Go.RowKit
namespace WSameT
def sameB (A B : List Pl.Nd) : Bool := Pl.treeB A && Pl.treeB B && Pl.eqL A B
set_option linter.unusedSimpArgs false in
set_option maxRecDepth 100000 in
set_option maxHeartbeats 2000000 in
theorem spec_any (a b : Option Addr) (c1 c2 : Nat) (A B : List Pl.Nd) (w : World) (hA : A.length ≤ 1048576) (hB : B.length ≤ 1048576) (hv : Mem.isNodes w a A) (hu : Mem.isNodes w b B) (okA : ∀ n ∈ A, n.path.size ≤ 1048576 ∧ n.data.size ≤ 1048576) (okB : ∀ n ∈ B, n.path.size ≤ 1048576 ∧ n.data.size ≤ 1048576) :
    Calls Tryd.prog 24 #[.agg #[.slice a A.length c1], .agg #[.slice b B.length c2]] w fun e w' => e = .returned (.bool (sameB A B)) ∧ Below w.heap.size w w' := by
  have b0 : Below w.heap.size w ((w.alloc (.cells #[.slice a A.length c1] 32)).alloc (.cells #[.slice b B.length c2] 32)) := ((Below.refl _ _).alloc (Nat.le_refl _) _).alloc (by simp) _
  have va := Mem.var_alloc (Mem.var_new w [.slice a A.length c1] 32) (.cells #[.slice b B.length c2] 32)
  have vb := Mem.var_new (w.alloc (.cells #[.slice a A.length c1] 32)) [.slice b B.length c2] 32
  rw [show (w.alloc (.cells #[.slice a A.length c1] 32)).heap.size = w.heap.size + 1 by simp] at vb
  have hra := hide (fun W (bw : Below w.heap.size w W) => WTreeS.right_tree a c1 A W hA (Mem.nodes_call hv bw) okA)
  have hrb := hide (fun W (bw : Below w.heap.size w W) => WTreeS.right_tree b c2 B W hB (Mem.nodes_call hu bw) okB)
  have hs := hide (fun W (bw : Below w.heap.size w W) => same_any a b c1 c2 A B W hA (Mem.nodes_call hv bw) (Mem.nodes_call hu bw))
  unfold sameB
  generalize Pl.eqL A B = R3 at hs ⊢
  generalize Pl.treeB A = R1 at hra ⊢
  generalize Pl.treeB B = R2 at hrb ⊢
  clear hv hu okA okB
  go_enter Tryd.func24, Tryd.ntmps24
  go_wp2_with fail
  refine (unhide hra _ b0).mono ?_
  rintro e w1 ⟨rfl, b1⟩
  have bw1 := b0.trans (b1.mono b0.size)
  have va1 := Mem.var_call va b1
  have vb1 := Mem.var_call vb b1
  clear hra va vb b1 b0
  cases R1
  · clear va1 vb1
    go_wp2
    go_ret
    exact ⟨rfl, bw1⟩
  have c0 := vb1.2 0 _ rfl
  go_wp2_with fail
  refine (unhide hrb _ bw1).mono ?_
  rintro e w2 ⟨rfl, b2⟩
  have bw2 := bw1.trans (b2.mono bw1.size)
  have va2 := Mem.var_call va1 b2
  have vb2 := Mem.var_call vb1 b2
  clear hrb va1 vb1 b2 bw1 c0
  cases R2
  · clear va2 vb2
    go_wp2
    go_ret
    exact ⟨rfl, bw2⟩
  have c0 := va2.2 0 _ rfl
  have d0 := vb2.2 0 _ rfl
  go_wp2_with fail
  refine (unhide hs _ bw2).mono ?_
  rintro e w3 ⟨rfl, b3⟩
  have bw3 := bw2.trans (b3.mono bw2.size)
  clear hs va2 vb2 b3 bw2 c0 d0
  go_wp2
  go_ret
  exact ⟨ret_bool (by simp), bw3⟩
set_option linter.unusedSimpArgs false in
set_option maxRecDepth 100000 in
set_option maxHeartbeats 2000000 in
theorem impl_any (a b : Option Addr) (c1 c2 : Nat) (A B : List Pl.Nd) (w : World) (hA : A.length ≤ 1048576) (hB : B.length ≤ 1048576) (hv : Mem.isNodes w a A) (hu : Mem.isNodes w b B) (okA : ∀ n ∈ A, n.path.size ≤ 1048576 ∧ n.data.size ≤ 1048576) (okB : ∀ n ∈ B, n.path.size ≤ 1048576 ∧ n.data.size ≤ 1048576) (r1 r2 r3 : TypeId) (x1 x2 x3 : Value) (hE : WNodesI.Errs w r1 r2 r3 x1 x2 x3) :
    Calls Tryd.prog 19 #[.agg #[.slice a A.length c1], .agg #[.slice b B.length c2]] w fun e w' => e = .returned (.bool (sameB A B)) ∧ Below w.heap.size w w' := by
  have b0 : Below w.heap.size w ((w.alloc (.cells #[.slice a A.length c1] 32)).alloc (.cells #[.slice b B.length c2] 32)) := ((Below.refl _ _).alloc (Nat.le_refl _) _).alloc (by simp) _
  have va := Mem.var_alloc (Mem.var_new w [.slice a A.length c1] 32) (.cells #[.slice b B.length c2] 32)
  have vb := Mem.var_new (w.alloc (.cells #[.slice a A.length c1] 32)) [.slice b B.length c2] 32
  rw [show (w.alloc (.cells #[.slice a A.length c1] 32)).heap.size = w.heap.size + 1 by simp] at vb
  have hra := hide (fun W (bw : Below w.heap.size w W) => WNodesI.treeRight_any a c1 A W hA (Mem.nodes_call hv bw) okA r1 r2 r3 x1 x2 x3 (hE.call bw))
  have hrb := hide (fun W (bw : Below w.heap.size w W) => WNodesI.treeRight_any b c2 B W hB (Mem.nodes_call hu bw) okB r1 r2 r3 x1 x2 x3 (hE.call bw))
  have hs := hide (fun W (bw : Below w.heap.size w W) => equal_any a b c1 c2 A B W hA (Mem.nodes_call hv bw) (Mem.nodes_call hu bw))
  unfold sameB
  generalize Pl.eqL A B = R3 at hs ⊢
  generalize Pl.treeB A = R1 at hra ⊢
  generalize Pl.treeB B = R2 at hrb ⊢
  clear hv hu okA okB hE
  go_enter Tryd.func19, Tryd.ntmps19
  go_wp2_with fail
  refine (unhide hra _ b0).mono ?_
  rintro e w1 ⟨rfl, b1⟩
  have bw1 := b0.trans (b1.mono b0.size)
  have va1 := Mem.var_call va b1
  have vb1 := Mem.var_call vb b1
  clear hra va vb b1 b0
  cases R1
  · clear va1 vb1
    go_wp2
    go_ret
    exact ⟨rfl, bw1⟩
  have c0 := vb1.2 0 _ rfl
  go_wp2_with fail
  refine (unhide hrb _ bw1).mono ?_
  rintro e w2 ⟨rfl, b2⟩
  have bw2 := bw1.trans (b2.mono bw1.size)
  have va2 := Mem.var_call va1 b2
  have vb2 := Mem.var_call vb1 b2
  clear hrb va1 vb1 b2 bw1 c0
  cases R2
  · clear va2 vb2
    go_wp2
    go_ret
    exact ⟨rfl, bw2⟩
  have c0 := va2.2 0 _ rfl
  have d0 := vb2.2 0 _ rfl
  go_wp2_with fail
  refine (unhide hs _ bw2).mono ?_
  rintro e w3 ⟨rfl, b3⟩
  have bw3 := bw2.trans (b3.mono bw2.size)
  clear hs va2 vb2 b3 bw2 c0 d0
  go_wp2
  go_ret
  exact ⟨ret_bool (by simp), bw3⟩
end WSameT
end Go.Proofs.YtkfpfckmjgjanaaDoor

