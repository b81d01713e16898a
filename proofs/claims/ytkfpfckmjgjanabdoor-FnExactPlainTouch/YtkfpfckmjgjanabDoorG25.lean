/- Several texts of one claim in one file: WNodesR, WIll3, WHdN. -/
import Derived.Test.YtkfpfckmjgjanabDoorWNodesJ
import Derived.Test.YtkfpfckmjgjanabDoorG17
import Derived.Test.YtkfpfckmjgjanabDoorProg
import Derived.WalkKit
import Derived.Test.YtkfpfckmjgjanabDoorG21
/- The walk of the program's TreeRight. -/
namespace Go.Proofs.YtkfpfckmjgjanabDoor
open Go.RowKit Go.Maps
namespace WNodesI
set_option maxRecDepth 100000 in
theorem treeRight_any (a : Option Addr) (cap : Nat) (L : List Pl.Nd) (w : World) (hl : L.length ≤ 1048576) (hv : Mem.isNodes w a L) (hok : ∀ n ∈ L, n.path.size ≤ 1048576 ∧ n.data.size ≤ 1048576)
    (r1 r2 r3 : TypeId) (x1 x2 x3 : Value) (hE : Errs w r1 r2 r3 x1 x2 x3) :
    Calls Tryd.prog 46 #[.agg #[.slice a L.length cap]] w fun e w' => e = .returned (.bool (Pl.treeB L)) ∧ Below w.heap.size w w' := by
  have b0 : Below w.heap.size w (w.alloc (.cells #[.slice a L.length cap] 39)) := (Below.refl _ _).alloc (Nat.le_refl _) _
  have hn := hide (nodes_any a cap L _ hl (Mem.nodes_call hv b0) hok r1 r2 r3 x1 x2 x3 (hE.call b0))
  clear hv hok hE
  generalize Pl.treeB L = R at hn ⊢
  go_enter Tryd.func46, Tryd.ntmps46
  go_wp2_with fail
  refine (unhide hn).mono ?_
  rintro e w1 ⟨h1, b1⟩
  have b2 := b0.trans (b1.mono b0.size)
  clear hn b0 b1
  rcases h1 with ⟨rfl, B, rfl, -, -⟩ | ⟨rfl, rfl⟩
  · go_wp2
    go_ret
    exact ⟨rfl, b2⟩
  · go_wp2
    go_ret
    exact ⟨rfl, b2⟩
end WNodesI
end Go.Proofs.YtkfpfckmjgjanabDoor

/- The walk of the specification's l03Ill. -/
namespace Go.Proofs.YtkfpfckmjgjanabDoor
open Go.RowKit
namespace WIll3
set_option maxRecDepth 100000 in
theorem ill_any (c : Int) (w : World) :
    Calls Tryd.prog 43 #[.int .i64 c] w fun e w' => e = .returned (.agg #[.slice none 0 0, .int .i64 c]) ∧ Below w.heap.size w w' := by
  have b0 : Below w.heap.size w (w.alloc (.cells #[.slice none 0 0, .int .i64 c] 41)) := (Below.refl _ _).alloc (Nat.le_refl _) _
  have HB := hide (fun o (a : Addr) v (h : w.heap.size ≤ a.block) (a2 : Addr) v2 (h2 : w.heap.size ≤ a2.block) => ((((Below.refl w.heap.size w).alloc (Nat.le_refl _) o).setCell h v).setCell h2 v2))
  clear b0
  go_enter Tryd.func43, Tryd.ntmps43
  go_wp2
  refine bodyPost_ret (v := .agg #[.slice none 0 0, .int .i64 c]) (by simp [results, Tryd.results43, go_sem]) rfl ⟨rfl, ?_⟩
  exact (Below.refl _ _).alloc (Nat.le_refl _) _
end WIll3
end Go.Proofs.YtkfpfckmjgjanabDoor

/- Marks on nodes that are still there. -/
namespace Go.Proofs.YtkfpfckmjgjanabDoor
open Go.RowKit
namespace WMarkN
set_option linter.unusedSimpArgs false in
set_option maxRecDepth 100000 in
set_option maxHeartbeats 2000000 in
theorem held_any (a : Option Addr) (n cap K : Nat) (w : World) (hn : n ≤ 1048576) (hK : 0 < K) (hK2 : K ≤ 1000000) (hv : Mem.isNodes w a (Pl.markN K n)) :
    Calls Tryd.prog 81 #[.slice a n cap, .int .i64 (K : Int)] w fun e w' => e = .returned (.int .i64 ((K + 5 * n : Nat) : Int)) ∧ Below w.heap.size w w' := by
  have HV := hide hv
  clear hv
  go_enter Tryd.func81, Tryd.ntmps81
  go_wp2
  go_loopw [1, 5] (fun v i wr => ∃ (k q : Nat), k ≤ n ∧ q = K + 5 * k ∧ i = .int .i64 (k : Int) ∧ v = .int .i64 (q : Int) ∧ Below w.heap.size w wr) (fun _ i _ => n - (intOf i).toNat)
  case atStart => exact ⟨0, K, Nat.zero_le _, rfl, rfl, rfl, Below.refl _ _⟩
  case round =>
    obtain ⟨k, q, hk, hq, rfl, rfl, hbel⟩ := hrel
    by_cases hlt : k < n
    · have y1 : (k : Int) < (n : Int) := by omega
      have y3 : (0 : Int) ≤ (k : Int) := by omega
      obtain ⟨g, o, rfl, hg, c0, c1, c2, c3, c4⟩ := (Mem.nodes_call (unhide HV) hbel) k (Pl.markNd K k) (by simp [Pl.markN, List.getElem?_range hlt])
      simp only [Pl.markNd, ← hq] at c0 c1 c2 c3 c4
      have HM := hide (fun W => WMarks.mark_any q W (by omega) (by omega))
      have HM2 := hide (fun W => WMarks.mark_any (q + 2) W (by omega) (by omega))
      rw [show ((q + 2 : Nat) : Int) = (q : Int) + 1 + 1 by omega] at HM2
      rw [show ((q + 1 : Nat) : Int) = (q : Int) + 1 by omega] at c1
      rw [show ((q + 3 : Nat) : Int) = (q : Int) + 1 + 1 + 1 by omega] at c3
      rw [show ((q + 4 : Nat) : Int) = (q : Int) + 1 + 1 + 1 + 1 by omega] at c4
      have HQ := hide hq
      have q1 : (q : Int) ≤ 100000000 := by omega
      clear hq
      have MK : Hid (∀ W', Below wr.heap.size wr W' → (Below wr.heap.size wr W' ∧ W'.cell? ⟨g, o + k * 5, none⟩ = some (.string (Pl.mark q)) ∧ W'.cell? ⟨g, o + k * 5 + 1, none⟩ = some (.int .i64 ((q : Int) + 1)) ∧ W'.cell? ⟨g, o + k * 5 + 2, none⟩ = some (.string (Pl.mark (q + 2))) ∧ W'.cell? ⟨g, o + k * 5 + 3, none⟩ = some (.int .i64 ((q : Int) + 1 + 1 + 1)) ∧ W'.cell? ⟨g, o + k * 5 + 4, none⟩ = some (.int .i64 ((q : Int) + 1 + 1 + 1 + 1)))) := fun W' hb' => ⟨hb', (hb'.cell (p := ⟨g, _, none⟩) hg).trans c0, (hb'.cell (p := ⟨g, _, none⟩) hg).trans c1, (hb'.cell (p := ⟨g, _, none⟩) hg).trans c2, (hb'.cell (p := ⟨g, _, none⟩) hg).trans c3, (hb'.cell (p := ⟨g, _, none⟩) hg).trans c4⟩
      clear c0 c1 c2 c3 c4
      go_wp2_with fail
      refine wp_region_held_drew (S := fun W' => Below wr.heap.size wr W' ∧ W'.cell? ⟨g, o + k * 5, none⟩ = some (.string (Pl.mark q)) ∧ W'.cell? ⟨g, o + k * 5 + 1, none⟩ = some (.int .i64 ((q : Int) + 1)) ∧ W'.cell? ⟨g, o + k * 5 + 2, none⟩ = some (.string (Pl.mark (q + 2))) ∧ W'.cell? ⟨g, o + k * 5 + 3, none⟩ = some (.int .i64 ((q : Int) + 1 + 1 + 1)) ∧ W'.cell? ⟨g, o + k * 5 + 4, none⟩ = some (.int .i64 ((q : Int) + 1 + 1 + 1 + 1))) (by kernel_rfl) ?_ (fun hHeld => ?_)
      · exact unhide MK _ ((Below.refl _ _).trans ⟨rfl, rfl, rfl, Nat.le_refl _, fun _ _ => rfl⟩)
      refine wpAnyH_take (i := 0) (v := ?_) rfl (by kernel_rfl) (by kernel_rfl) (by kernel_rfl) (fun _ _ _ h => h) (Or.inl ⟨by rfl, ?_⟩) (by assumption) ?_
      rotate_left
      · (intro w hSw; (try dsimp only at hSw); go_simp; (try with_reducible rfl))
      try simp only [Act.put, kB0, kB1, kB2, kB3, kB4, kB5]
      refine wpAnyH_take (i := 1) (v := ?_) rfl (by kernel_rfl) (by kernel_rfl) (by kernel_rfl) (fun _ _ _ h => h) (Or.inl ⟨by rfl, ?_⟩) (by assumption) ?_
      rotate_left
      · (intro w hSw; (try dsimp only at hSw); go_simp; (try with_reducible rfl))
      try simp only [Act.put, kB0, kB1, kB2, kB3, kB4, kB5]
      refine wpAnyH_take (i := 2) (v := ?_) rfl (by kernel_rfl) (by kernel_rfl) (by kernel_rfl) (fun _ _ _ h => h) (Or.inl ⟨by rfl, ?_⟩) (by assumption) ?_
      rotate_left
      · (intro w hSw; (try dsimp only at hSw); go_simp; (try with_reducible rfl))
      try simp only [Act.put, kB0, kB1, kB2, kB3, kB4, kB5]
      refine wpAnyH_take (i := 3) (v := ?_) rfl (by kernel_rfl) (by kernel_rfl) (by kernel_rfl) (fun _ _ _ h => h) (Or.inl ⟨by rfl, ?_⟩) (by assumption) ?_
      rotate_left
      · (intro w hSw; (try dsimp only at hSw); go_simp; (try with_reducible rfl))
      try simp only [Act.put, kB0, kB1, kB2, kB3, kB4, kB5]
      refine wpAnyH_take (i := 4) (v := ?_) rfl (by kernel_rfl) (by kernel_rfl) (by kernel_rfl) (fun _ _ _ h => h) (Or.inl ⟨by rfl, ?_⟩) (by assumption) ?_
      rotate_left
      · (intro w hSw; (try dsimp only at hSw); go_simp; (try with_reducible rfl))
      try simp only [Act.put, kB0, kB1, kB2, kB3, kB4, kB5]
      refine wpAnyH_take (i := 5) (v := ?_) rfl (by kernel_rfl) (by kernel_rfl) (by kernel_rfl) (fun _ _ _ h => h) (Or.inl ⟨by rfl, ?_⟩) (by assumption) ?_
      rotate_left
      · (intro w hSw; (try dsimp only at hSw); go_simp; (try with_reducible rfl))
      try simp only [Act.put, kB0, kB1, kB2, kB3, kB4, kB5]
      refine wpAnyH_ready (rs := [6]) (by kernel_rfl) (by simp) ?_
      refine AllReadyH.cons rfl (fun K hK => ?_) AllReadyH.nil
      go_simp
      refine (unhide HM _).mono ?_
      rintro e wA ⟨rfl, bX⟩
      refine hK.out _ _ ?_ (fun hHeld => ?_)
      · exact unhide MK _ (hHeld.1.trans (bX.mono hHeld.1.size))
      clear hK K
      try simp only [Act.put, kB0, kB1, kB2, kB3, kB4, kB5]
      refine wpAnyH_take (i := 7) (v := ?_) rfl (by kernel_rfl) (by kernel_rfl) (by kernel_rfl) (fun _ _ _ h => h) (Or.inl ⟨by rfl, ?_⟩) (by assumption) ?_
      rotate_left
      · (intro w hSw; (try dsimp only at hSw); go_simp; (try with_reducible rfl))
      try simp only [Act.put, kB0, kB1, kB2, kB3, kB4, kB5]
      refine wpAnyH_done (by kernel_rfl) ?_ _
      obtain ⟨hA, -, e1, -, -, -⟩ := hHeld
      go_wp2_with fail
      refine wp_region_held_drew (S := fun W' => Below wr.heap.size wr W' ∧ W'.cell? ⟨g, o + k * 5, none⟩ = some (.string (Pl.mark q)) ∧ W'.cell? ⟨g, o + k * 5 + 1, none⟩ = some (.int .i64 ((q : Int) + 1)) ∧ W'.cell? ⟨g, o + k * 5 + 2, none⟩ = some (.string (Pl.mark (q + 2))) ∧ W'.cell? ⟨g, o + k * 5 + 3, none⟩ = some (.int .i64 ((q : Int) + 1 + 1 + 1)) ∧ W'.cell? ⟨g, o + k * 5 + 4, none⟩ = some (.int .i64 ((q : Int) + 1 + 1 + 1 + 1))) (by kernel_rfl) ?_ (fun hHeld => ?_)
      · exact unhide MK _ (hA.trans ⟨rfl, rfl, rfl, Nat.le_refl _, fun _ _ => rfl⟩)
      refine wpAnyH_take (i := 0) (v := ?_) rfl (by kernel_rfl) (by kernel_rfl) (by kernel_rfl) (fun _ _ _ h => h) (Or.inl ⟨by rfl, ?_⟩) (by assumption) ?_
      rotate_left
      · (intro w hSw; (try dsimp only at hSw); go_simp; (try with_reducible rfl))
      try simp only [Act.put, kB0, kB1, kB2, kB3, kB4, kB5]
      refine wpAnyH_take (i := 1) (v := ?_) rfl (by kernel_rfl) (by kernel_rfl) (by kernel_rfl) (fun _ _ _ h => h) (Or.inl ⟨by rfl, ?_⟩) (by assumption) ?_
      rotate_left
      · (intro w hSw; (try dsimp only at hSw); go_simp; (try with_reducible rfl))
      try simp only [Act.put, kB0, kB1, kB2, kB3, kB4, kB5]
      refine wpAnyH_take (i := 2) (v := ?_) rfl (by kernel_rfl) (by kernel_rfl) (by kernel_rfl) (fun _ _ _ h => h) (Or.inl ⟨by rfl, ?_⟩) (by assumption) ?_
      rotate_left
      · (intro w hSw; (try dsimp only at hSw); go_simp; (try with_reducible rfl))
      try simp only [Act.put, kB0, kB1, kB2, kB3, kB4, kB5]
      refine wpAnyH_take (i := 3) (v := ?_) rfl (by kernel_rfl) (by kernel_rfl) (by kernel_rfl) (fun _ _ _ h => h) (Or.inl ⟨by rfl, ?_⟩) (by assumption) ?_
      rotate_left
      · (intro w hSw; (try dsimp only at hSw); go_simp; (try with_reducible rfl))
      try simp only [Act.put, kB0, kB1, kB2, kB3, kB4, kB5]
      refine wpAnyH_take (i := 4) (v := ?_) rfl (by kernel_rfl) (by kernel_rfl) (by kernel_rfl) (fun _ _ _ h => h) (Or.inl ⟨by rfl, ?_⟩) (by assumption) ?_
      rotate_left
      · (intro w hSw; (try dsimp only at hSw); go_simp; (try with_reducible rfl))
      try simp only [Act.put, kB0, kB1, kB2, kB3, kB4, kB5]
      refine wpAnyH_take (i := 5) (v := ?_) rfl (by kernel_rfl) (by kernel_rfl) (by kernel_rfl) (fun _ _ _ h => h) (Or.inl ⟨by rfl, ?_⟩) (by assumption) ?_
      rotate_left
      · (intro w hSw; (try dsimp only at hSw); go_simp; (try with_reducible rfl))
      try simp only [Act.put, kB0, kB1, kB2, kB3, kB4, kB5]
      refine wpAnyH_ready (rs := [6]) (by kernel_rfl) (by simp) ?_
      refine AllReadyH.cons rfl (fun K hK => ?_) AllReadyH.nil
      go_simp
      refine (unhide HM2 _).mono ?_
      rintro e wB ⟨rfl, bX⟩
      refine hK.out _ _ ?_ (fun hHeld => ?_)
      · exact unhide MK _ (hHeld.1.trans (bX.mono hHeld.1.size))
      clear hK K
      try simp only [Act.put, kB0, kB1, kB2, kB3, kB4, kB5]
      refine wpAnyH_take (i := 7) (v := ?_) rfl (by kernel_rfl) (by kernel_rfl) (by kernel_rfl) (fun _ _ _ h => h) (Or.inl ⟨by rfl, ?_⟩) (by assumption) ?_
      rotate_left
      · (intro w hSw; (try dsimp only at hSw); go_simp; (try with_reducible rfl))
      try simp only [Act.put, kB0, kB1, kB2, kB3, kB4, kB5]
      refine wpAnyH_done (by kernel_rfl) ?_ _
      obtain ⟨hB, -, -, -, e3, e4⟩ := hHeld
      have hfin := hbel.trans (hB.mono hbel.size)
      clear MK hA hB bX HM HM2 hbel e1
      go_wp2
      go_roundw
      case rel => exact ⟨k + 1, q + 5, by omega, by have := unhide HQ; omega, by go_num, by go_num, hfin⟩
      case measure => simp [intOf]; omega
    · obtain rfl : k = n := by omega
      have y1 : ¬ (k : Int) < (k : Int) := by omega
      have hq2 : (q : Int) = ((K + 5 * k : Nat) : Int) := by omega
      have HQ := hide hq2
      clear hq2 hq
      go_wp2
      go_ret
      exact ⟨by rw [unhide HQ]; rfl, hbel⟩
end WMarkN
end Go.Proofs.YtkfpfckmjgjanabDoor

