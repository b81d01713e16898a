/- The walks of leaves of a nest. -/
import Derived.Test.YtkgifofleilabaaDoorWNestF
namespace Go.Proofs.YtkgifofleilabaaDoor
open Go.RowKit
namespace WNestI
set_option linter.unusedSimpArgs false in
set_option maxRecDepth 100000 in
set_option maxHeartbeats 1000000 in
theorem leaves_any (N : Nat → Prop) (n : Nat) (hn : n ≤ 1000) : ∀ (k : Pl.Fo) (q : Option Nat) (m : Int) (v : Value) (w : World), k.sz ≤ n → Mem.lay w N k v →
    Calls Tryd.prog 19 #[.agg #[.map q, .int .i64 m, v]] w fun e w' => e = .returned (.int .i64 (k.leaves : Int)) ∧ Below w.heap.size w w' := by
  have base : ∀ (q : Option Nat) (m : Int) (a : Option Addr) (cap : Nat) (w : World), Calls Tryd.prog 19 #[.agg #[.map q, .int .i64 m, .slice a 0 cap]] w fun e w' => e = .returned (.int .i64 1) ∧ Below w.heap.size w w' := by
    intro q m a cap w
    have b0 : Below w.heap.size w (w.alloc (.cells #[.map q, .int .i64 m, .slice a 0 cap] 50)) := (Below.refl _ _).alloc (Nat.le_refl _) _
    have hlf := hide (leaf_any .nil q m a cap)
    simp only [Pl.Fo.len] at hlf
    go_enter Tryd.func19, Tryd.ntmps19
    go_wp2_with fail
    refine (unhide hlf _).mono ?_
    rintro e w1 ⟨rfl, b1⟩
    have bb := b0.trans (b1.mono b0.size)
    clear b0 b1 hlf
    go_wp2
    go_ret
    exact ⟨rfl, bb⟩
  induction n with
  | zero =>
    intro k q m v w hs hl
    obtain ⟨a, cap, rfl, -⟩ := hl
    cases k with
    | nil => exact base q m a cap w
    | cons a b => simp [Pl.Fo.sz] at hs
  | succ n ih =>
    intro k q m v w hs hl
    obtain ⟨a, cap, rfl, hrow⟩ := hl
    cases k with
    | nil => exact base q m a cap w
    | cons k0 m0 =>
      rcases hrow with h | ⟨g, rfl, hrow⟩
      · cases h
      have hpos := Pl.leaves_pos k0 m0
      have hlen : 0 < (Pl.Fo.cons k0 m0).len := by simp [Pl.Fo.len]
      generalize hK : Pl.Fo.cons k0 m0 = K at *
      have hKl := K.len_le
      have hKd := K.leaves1_le
      have hKK : K.leaves = K.leaves1 := by unfold Pl.Fo.leaves; omega
      rw [hKK]
      have b0 : Below w.heap.size w (w.alloc (.cells #[.map q, .int .i64 m, .slice (some ⟨g, 0, none⟩) K.len cap] 50)) := (Below.refl _ _).alloc (Nat.le_refl _) _
      have A0 := Mem.Blk.new w #[.map q, .int .i64 m, .slice (some ⟨g, 0, none⟩) K.len cap] 50
      have HI := hide (ih (by omega))
      have HRW := hide (row_below hrow b0)
      have hlf := hide (leaf_any K q m (some ⟨g, 0, none⟩) cap)
      rw [show decide (K.len = 0) = false from decide_eq_false (by omega)] at hlf
      clear hK ih hrow base hKK
      go_enter Tryd.func19, Tryd.ntmps19
      go_wp2_with fail
      generalize w.alloc (.cells #[.map q, .int .i64 m, .slice (some ⟨g, 0, none⟩) K.len cap] 50) = w2 at b0 A0 HRW ⊢
      refine (unhide hlf _).mono ?_
      rintro e w1 ⟨rfl, b1⟩
      have bb := b0.trans (b1.mono b0.size)
      have c02 := (A0.call b1).cell 2
      simp only [List.getElem?_toArray, List.getElem?_cons_zero, List.getElem?_cons_succ] at c02
      have R0 : Hid (Mem.rowF w1 N K g (0 * 3)) := hide (by simpa using row_below (unhide HRW) b1)
      clear b0 b1 hlf A0 HRW
      go_wp2
      go_loopw [3, 11] (fun d i wr => ∃ (j dd : Nat) (F : Pl.Fo), d = .int .i64 (dd : Int) ∧ i = .int .i64 (j : Int) ∧ j + F.len = K.len ∧ dd + F.leaves1 = K.leaves1 ∧ F.sz ≤ n + 1 ∧ Below w.heap.size w wr ∧ Hid (Mem.rowF wr N F g (j * 3))) (fun _ i _ => K.len - (intOf i).toNat)
      case atStart => exact ⟨0, 0, K, rfl, rfl, by omega, by omega, hs, bb, R0⟩
      case round =>
        obtain ⟨j, dd, F, rfl, rfl, hj, hmax, hsz, hbel, HR⟩ := hrel
        clear R0 bb c02
        cases F with
        | nil =>
          simp only [Pl.Fo.len, Pl.Fo.leaves1] at hj hmax
          have u1 : ¬ (j : Int) < (K.len : Int) := by omega
          have hdd : dd = K.leaves1 := by omega
          subst hdd
          go_wp2
          go_ret
          exact ⟨rfl, hbel⟩
        | cons k1 m1 =>
          simp only [Pl.Fo.len, Pl.Fo.leaves1, Pl.Fo.sz] at hj hmax hsz
          obtain ⟨⟨x, y, a1, cap1, c0, c1, c2, hg, hN, ⟨q1, rfl⟩, ⟨r1, rfl⟩, hsub⟩, hrest⟩ := unhide HR
          have u1 : (j : Int) < (K.len : Int) := by omega
          have u3 : (0 : Int) ≤ (j : Int) := by omega
          have bA : Below wr.heap.size wr (wr.alloc (.cells #[.map q1, .int .i64 r1, .slice a1 k1.len cap1] 50)) := (Below.refl _ _).alloc (Nat.le_refl _) _
          have HL : Mem.lay wr N k1 (.slice a1 k1.len cap1) := ⟨a1, cap1, rfl, hsub⟩
          have hcall := hide (unhide HI k1 q1 r1 _ _ (by omega) (Mem.lay_call HL bA))
          have HRR := hide (row_below hrest bA)
          have bw := hbel.trans (bA.mono hbel.size)
          have hk1 : k1.leaves = max 1 k1.leaves1 := rfl
          clear hsub hrest HL HR
          go_wp2_with fail
          refine (unhide hcall).mono ?_
          rintro e wX ⟨rfl, bX⟩
          have bw2 := bw.trans (bX.mono bw.size)
          have HR2 := hide (row_below (unhide HRR) bX)
          rw [show j * 3 + 3 = (j + 1) * 3 by omega] at HR2
          rw [← hk1] at hmax
          clear hcall HRR bX bw hbel c0 c1 c2 bA hk1
          go_wp2
          go_roundw
          case rel => exact ⟨j + 1, dd + k1.leaves, m1, by go_num, by go_num, by omega, by omega, by omega, bw2, HR2⟩
          case measure => simp [intOf]; omega
end WNestI
end Go.Proofs.YtkgifofleilabaaDoor
