/- Several texts of one claim in one file: WMkN, WHdN. -/
import Derived.Test.YtepmojmelcngeaaGreatDoorG39
import Derived.Test.YtepmojmelcngeaaGreatDoorG12
import Derived.Deep.RegionHeld3
/- The walks of the laws' own marks on nodes. -/
namespace Go.Proofs.YtepmojmelcngeaaGreatDoor
open Go.RowKit
namespace Pl
/-- The i-th node's marks, from K on. -/
def markNd (K i : Nat) : Nd := ⟨mark (K + 5 * i), ((K + 5 * i + 1 : Nat) : Int), mark (K + 5 * i + 2), ((K + 5 * i + 3 : Nat) : Int), ((K + 5 * i + 4 : Nat) : Int)⟩
def markN (K n : Nat) : List Nd := (List.range n).map (markNd K)
theorem markN_get {K n i : Nat} {m : Nd} (h : (markN K n)[i]? = some m) : i < n ∧ m = markNd K i := by
  unfold markN at h
  rw [List.getElem?_map, Option.map_eq_some_iff] at h
  obtain ⟨j, hj, rfl⟩ := h
  obtain ⟨h1, h2⟩ := List.getElem?_eq_some_iff.1 hj
  simp at h1 h2
  subst h2
  exact ⟨h1, rfl⟩
theorem markN_length (K n : Nat) : (markN K n).length = n := by simp [markN]
/-- The j-th node of a row of cells. -/
def rowAt (cv : Array Value) (j : Nat) (m : Nd) : Prop := cv[j * 5]? = some (.string m.path) ∧ cv[j * 5 + 1]? = some (.int .i64 m.kind) ∧ cv[j * 5 + 2]? = some (.string m.data) ∧ cv[j * 5 + 3]? = some (.int .i64 m.time) ∧ cv[j * 5 + 4]? = some (.int .i64 m.mark)
end Pl
namespace WMarkN
theorem grown_call {w v v' : World} {g : Nat} (h : w.grownBy v (some g)) (b : Below v.heap.size v v') : w.grownBy v' (some g) :=
  ⟨b.os.trans h.os, b.tape.trans h.tape, b.output.trans h.output, Nat.le_trans h.size b.size, fun j hj hne => (b.block j (Nat.lt_of_lt_of_le hj h.size)).trans (h.block j hj hne)⟩
theorem grown_set {w v : World} {g o : Nat} {x : Value} (h : w.grownBy v (some g)) : w.grownBy (v.setCell ⟨g, o, none⟩ x) (some g) :=
  ⟨h.os, h.tape, h.output, Nat.le_trans h.size (by simp [World.setCell]), fun j hj hne => (Below.heap_setCell _ _ _ _ (by intro e; exact hne (by rw [e]))).trans (h.block j hj hne)⟩
set_option maxRecDepth 100000 in
set_option maxHeartbeats 400000 in
theorem lay_any (g n cap K : Nat) (cur : Array Value) (w : World) (hn : n ≤ 1048576) (hK : 0 < K) (hK2 : K ≤ 100000000000000000) (hrow : w.heap[g]? = some (.cells cur 36 (0, 0))) (hsz : n * 5 ≤ cur.size) :
    Calls Tryz.prog 47 #[.slice (some ⟨g, 0, none⟩) n cap, .int .i64 (K : Int)] w fun e w' => e = .returned (.int .i64 ((K + 5 * n : Nat) : Int)) ∧
      (∃ cur', w'.heap[g]? = some (.cells cur' 36 (0, 0)) ∧ cur'.size = cur.size) ∧ Mem.isNodes w' (some ⟨g, 0, none⟩) (Pl.markN K n) ∧ w.grownBy w' (some g) := by
  have HR0 := hide hrow
  have HS0 := hide hsz
  clear hrow hsz
  go_enter Tryz.func47, Tryz.ntmps47
  go_wp2
  go_loopw [1, 5] (fun a i wr => ∃ (k q : Nat) (cv : Array Value), k ≤ n ∧ q = K + 5 * k ∧ i = .int .i64 (k : Int) ∧ a = .int .i64 (q : Int) ∧ Hid (wr.heap[g]? = some (.cells cv 36 (0, 0))) ∧ Hid (cv.size = cur.size) ∧ Hid (w.grownBy wr (some g)) ∧
      Hid (∀ j, j < k → Pl.rowAt cv j (Pl.markNd K j))) (fun _ i _ => n - (intOf i).toNat)
  case atStart => exact ⟨0, K, cur, Nat.zero_le _, rfl, rfl, rfl, HR0, rfl, ⟨rfl, rfl, rfl, Nat.le_refl _, fun _ _ _ => rfl⟩, fun j h => absurd h (by omega)⟩
  case round =>
    obtain ⟨k, q, cv, hk, hq, rfl, rfl, HR, HS, HG, HA⟩ := hrel
    by_cases hlt : k < n
    · have y1 : (k : Int) < (n : Int) := by omega
      have y3 : (0 : Int) ≤ (k : Int) := by omega
      have HM := hide (fun W => WMarks.mark_any q W (by omega) (by omega))
      have HM2 := hide (fun W => WMarks.mark_any (q + 2) W (by omega) (by omega))
      rw [show ((q + 2 : Nat) : Int) = (q : Int) + 1 + 1 by omega] at HM2
      have HQ := hide hq
      have q1 : (q : Int) ≤ 1000000000000000000 := by omega
      clear hq
      go_wp2_with fail
      refine (unhide HM _).mono ?_
      rintro e w2 ⟨rfl, b2⟩
      have hg : g < wr.heap.size := (Array.getElem?_eq_some_iff.1 (unhide HR)).1
      have HR2 := hide ((b2.block _ hg).trans (unhide HR))
      have hcz : n * 5 ≤ cv.size := by rw [unhide HS]; exact unhide HS0
      have s0 : ∃ x, w2.cell? ⟨g, k * 5, none⟩ = some x := ⟨_, (cell_of_row w2 _ (k * 5) _ _ (0, 0) (unhide HR2)).trans (Array.getElem?_eq_getElem (by omega))⟩
      have s1 : ∃ x, w2.cell? ⟨g, k * 5 + 1, none⟩ = some x := ⟨_, (cell_of_row w2 _ (k * 5 + 1) _ _ (0, 0) (unhide HR2)).trans (Array.getElem?_eq_getElem (by omega))⟩
      obtain ⟨x0, s0⟩ := s0
      obtain ⟨x1, s1⟩ := s1
      have f0 : ∀ j, w2.frozen? ⟨g, j, none⟩ = false := fun j => Mem.row_frozen (unhide HR2)
      have HG2 := hide (grown_call (unhide HG) b2)
      have HCZ := hide hcz
      clear b2 HR HG hcz hg HM
      go_wp2_with fail
      have HR3 := hide (heap_setCell_same _ _ (k * 5 + 1) _ _ (.int .i64 ((q : Int) + 1)) (heap_setCell_same _ _ (k * 5) _ _ (.string (Pl.mark q)) (unhide HR2)))
      have HG3 := hide (grown_set (o := k * 5 + 1) (x := .int .i64 ((q : Int) + 1)) (grown_set (o := k * 5) (x := .string (Pl.mark q)) (unhide HG2)))
      refine (unhide HM2 _).mono ?_
      rintro e w4 ⟨rfl, b4⟩
      have HR4 := hide ((b4.block _ (Array.getElem?_eq_some_iff.1 (unhide HR3)).1).trans (unhide HR3))
      have HG4 := hide (grown_call (unhide HG3) b4)
      have hcz := unhide HCZ
      have s2 : ∃ x, w4.cell? ⟨g, k * 5 + 2, none⟩ = some x := ⟨_, (cell_of_row w4 _ (k * 5 + 2) _ _ (0, 0) (unhide HR4)).trans (Array.getElem?_eq_getElem (by simp; omega))⟩
      have s3 : ∃ x, w4.cell? ⟨g, k * 5 + 3, none⟩ = some x := ⟨_, (cell_of_row w4 _ (k * 5 + 3) _ _ (0, 0) (unhide HR4)).trans (Array.getElem?_eq_getElem (by simp; omega))⟩
      have s4 : ∃ x, w4.cell? ⟨g, k * 5 + 4, none⟩ = some x := ⟨_, (cell_of_row w4 _ (k * 5 + 4) _ _ (0, 0) (unhide HR4)).trans (Array.getElem?_eq_getElem (by simp; omega))⟩
      obtain ⟨x2, s2⟩ := s2
      obtain ⟨x3, s3⟩ := s3
      obtain ⟨x4, s4⟩ := s4
      have f4 : ∀ j, w4.frozen? ⟨g, j, none⟩ = false := fun j => Mem.row_frozen (unhide HR4)
      clear b4 HR2 HG2 HR3 HG3 hcz HM2 s0 s1 f0
      go_wp2
      go_roundw
      case rel =>
        refine ⟨k + 1, q + 5, _, by omega, by have := unhide HQ; omega, by go_num, by go_num, hide (heap_setCell_same _ _ (k * 5 + 4) _ _ _ (heap_setCell_same _ _ (k * 5 + 3) _ _ _ (heap_setCell_same _ _ (k * 5 + 2) _ _ _ (unhide HR4)))), ?_, hide (grown_set (grown_set (grown_set (unhide HG4)))), ?_⟩
        · exact hide (by simpa using unhide HS)
        · intro j hj
          have hcz := unhide HCZ
          rcases Nat.lt_succ_iff_lt_or_eq.1 hj with h'' | rfl
          · obtain ⟨i0, i1, i2, i3, i4⟩ := HA.out j h''
            simp only [Pl.rowAt, Array.getElem?_setIfInBounds]
            refine ⟨?_, ?_, ?_, ?_, ?_⟩ <;> (repeat (rw [if_neg (by omega)])) <;> assumption
          · have hq := unhide HQ
            simp only [Pl.rowAt, Pl.markNd, Array.getElem?_setIfInBounds, Array.size_setIfInBounds, ← hq]
            refine ⟨?_, ?_, ?_, ?_, ?_⟩ <;> simp <;> omega
      case measure => simp [intOf]; omega
    · obtain rfl : k = n := by omega
      have y1 : ¬ (k : Int) < (k : Int) := by omega
      have hq2 : (q : Int) = ((K + 5 * k : Nat) : Int) := by omega
      have HQ := hide hq2
      clear hq2 hq
      go_wp2
      go_ret
      refine ⟨by rw [unhide HQ]; rfl, ⟨cv, unhide HR, unhide HS⟩, fun j m hj => ?_, unhide HG⟩
      obtain ⟨hjl, rfl⟩ := Pl.markN_get hj
      obtain ⟨i0, i1, i2, i3, i4⟩ := HA.out j hjl
      refine ⟨g, 0, rfl, (Array.getElem?_eq_some_iff.1 (unhide HR)).1, ?_, ?_, ?_, ?_, ?_⟩
      · rw [cell_of_row wr _ _ _ _ (0, 0) (unhide HR), Nat.zero_add]; exact i0
      · rw [cell_of_row wr _ _ _ _ (0, 0) (unhide HR), Nat.zero_add]; exact i1
      · rw [cell_of_row wr _ _ _ _ (0, 0) (unhide HR), Nat.zero_add]; exact i2
      · rw [cell_of_row wr _ _ _ _ (0, 0) (unhide HR), Nat.zero_add]; exact i3
      · rw [cell_of_row wr _ _ _ _ (0, 0) (unhide HR), Nat.zero_add]; exact i4
end WMarkN
end Go.Proofs.YtepmojmelcngeaaGreatDoor

/- Marks on nodes that are still there. -/
namespace Go.Proofs.YtepmojmelcngeaaGreatDoor
open Go.RowKit
namespace WMarkN
set_option linter.unusedSimpArgs false in
set_option maxRecDepth 100000 in
set_option maxHeartbeats 2000000 in
theorem held_any (a : Option Addr) (n cap K : Nat) (w : World) (hn : n ≤ 1048576) (hK : 0 < K) (hK2 : K ≤ 1000000) (hv : Mem.isNodes w a (Pl.markN K n)) :
    Calls Tryz.prog 91 #[.slice a n cap, .int .i64 (K : Int)] w fun e w' => e = .returned (.int .i64 ((K + 5 * n : Nat) : Int)) ∧ Below w.heap.size w w' := by
  have HV := hide hv
  clear hv
  go_enter Tryz.func91, Tryz.ntmps91
  go_wp2
  go_loopw [1, 5] (fun v i wr => ∃ (k q : Nat), k ≤ n ∧ q = K + 5 * k ∧ i = .int .i64 (k : Int) ∧ v = .int .i64 (q : Int) ∧ Below w.heap.size w wr) (fun _ i _ => n - (intOf i).toNat)
  case atStart => exact ⟨0, K, Nat.zero_le _, rfl, rfl, rfl, Below.refl _ _⟩
  case round =>
    obtain ⟨k, q, hk, hq, rfl, rfl, hbel⟩ := hrel
    by_cases hlt : k < n
    · have y1 : (k : Int) < (n : Int) := by omega
      have y3 : (0 : Int) ≤ (k : Int) := by omega
      obtain ⟨g, o, rfl, hg, c0, c1, c2, c3, c4⟩ := (Mem.nodes_call (unhide HV) hbel) k (Pl.markNd K k) (by simp [Pl.markN, List.getElem?_range hlt])
      simp only [Pl.markNd, ← hq] at c0 c1 c2 c3 c4
      have HM := hide (fun W => WMarks.mark_any q W (by omega) (by omega))
      have HM2 := hide (fun W => WMarks.mark_any (q + 2) W (by omega) (by omega))
      rw [show ((q + 2 : Nat) : Int) = (q : Int) + 1 + 1 by omega] at HM2
      rw [show ((q + 1 : Nat) : Int) = (q : Int) + 1 by omega] at c1
      rw [show ((q + 3 : Nat) : Int) = (q : Int) + 1 + 1 + 1 by omega] at c3
      rw [show ((q + 4 : Nat) : Int) = (q : Int) + 1 + 1 + 1 + 1 by omega] at c4
      have HQ := hide hq
      have q1 : (q : Int) ≤ 100000000 := by omega
      clear hq
      have MK : Hid (∀ W', Below wr.heap.size wr W' → (Below wr.heap.size wr W' ∧ W'.cell? ⟨g, o + k * 5, none⟩ = some (.string (Pl.mark q)) ∧ W'.cell? ⟨g, o + k * 5 + 1, none⟩ = some (.int .i64 ((q : Int) + 1)) ∧ W'.cell? ⟨g, o + k * 5 + 2, none⟩ = some (.string (Pl.mark (q + 2))) ∧ W'.cell? ⟨g, o + k * 5 + 3, none⟩ = some (.int .i64 ((q : Int) + 1 + 1 + 1)) ∧ W'.cell? ⟨g, o + k * 5 + 4, none⟩ = some (.int .i64 ((q : Int) + 1 + 1 + 1 + 1)))) := fun W' hb' => ⟨hb', (hb'.cell (p := ⟨g, _, none⟩) hg).trans c0, (hb'.cell (p := ⟨g, _, none⟩) hg).trans c1, (hb'.cell (p := ⟨g, _, none⟩) hg).trans c2, (hb'.cell (p := ⟨g, _, none⟩) hg).trans c3, (hb'.cell (p := ⟨g, _, none⟩) hg).trans c4⟩
      clear c0 c1 c2 c3 c4
      go_wp2_with fail
      refine wp_region_held_drew (S := fun W' => Below wr.heap.size wr W' ∧ W'.cell? ⟨g, o + k * 5, none⟩ = some (.string (Pl.mark q)) ∧ W'.cell? ⟨g, o + k * 5 + 1, none⟩ = some (.int .i64 ((q : Int) + 1)) ∧ W'.cell? ⟨g, o + k * 5 + 2, none⟩ = some (.string (Pl.mark (q + 2))) ∧ W'.cell? ⟨g, o + k * 5 + 3, none⟩ = some (.int .i64 ((q : Int) + 1 + 1 + 1)) ∧ W'.cell? ⟨g, o + k * 5 + 4, none⟩ = some (.int .i64 ((q : Int) + 1 + 1 + 1 + 1))) (by kernel_rfl) ?_ (fun hHeld => ?_)
      · exact unhide MK _ ((Below.refl _ _).trans ⟨rfl, rfl, rfl, Nat.le_refl _, fun _ _ => rfl⟩)
      refine wpAnyH_take (i := 0) (v := ?_) rfl (by kernel_rfl) (by kernel_rfl) (by kernel_rfl) (fun _ _ _ h => h) (Or.inl ⟨by rfl, ?_⟩) (by assumption) ?_
      rotate_left
      · (intro w hSw; (try dsimp only at hSw); go_simp; (try with_reducible rfl))
      try simp only [Act.put, kB0, kB1, kB2, kB3, kB4, kB5]
      refine wpAnyH_take (i := 1) (v := ?_) rfl (by kernel_rfl) (by kernel_rfl) (by kernel_rfl) (fun _ _ _ h => h) (Or.inl ⟨by rfl, ?_⟩) (by assumption) ?_
      rotate_left
      · (intro w hSw; (try dsimp only at hSw); go_simp; (try with_reducible rfl))
      try simp only [Act.put, kB0, kB1, kB2, kB3, kB4, kB5]
      refine wpAnyH_take (i := 2) (v := ?_) rfl (by kernel_rfl) (by kernel_rfl) (by kernel_rfl) (fun _ _ _ h => h) (Or.inl ⟨by rfl, ?_⟩) (by assumption) ?_
      rotate_left
      · (intro w hSw; (try dsimp only at hSw); go_simp; (try with_reducible rfl))
      try simp only [Act.put, kB0, kB1, kB2, kB3, kB4, kB5]
      refine wpAnyH_take (i := 3) (v := ?_) rfl (by kernel_rfl) (by kernel_rfl) (by kernel_rfl) (fun _ _ _ h => h) (Or.inl ⟨by rfl, ?_⟩) (by assumption) ?_
      rotate_left
      · (intro w hSw; (try dsimp only at hSw); go_simp; (try with_reducible rfl))
      try simp only [Act.put, kB0, kB1, kB2, kB3, kB4, kB5]
      refine wpAnyH_take (i := 4) (v := ?_) rfl (by kernel_rfl) (by kernel_rfl) (by kernel_rfl) (fun _ _ _ h => h) (Or.inl ⟨by rfl, ?_⟩) (by assumption) ?_
      rotate_left
      · (intro w hSw; (try dsimp only at hSw); go_simp; (try with_reducible rfl))
      try simp only [Act.put, kB0, kB1, kB2, kB3, kB4, kB5]
      refine wpAnyH_take (i := 5) (v := ?_) rfl (by kernel_rfl) (by kernel_rfl) (by kernel_rfl) (fun _ _ _ h => h) (Or.inl ⟨by rfl, ?_⟩) (by assumption) ?_
      rotate_left
      · (intro w hSw; (try dsimp only at hSw); go_simp; (try with_reducible rfl))
      try simp only [Act.put, kB0, kB1, kB2, kB3, kB4, kB5]
      refine wpAnyH_ready (rs := [6]) (by kernel_rfl) (by simp) ?_
      refine AllReadyH.cons rfl (fun K hK => ?_) AllReadyH.nil
      go_simp
      refine (unhide HM _).mono ?_
      rintro e wA ⟨rfl, bX⟩
      refine hK.out _ _ ?_ (fun hHeld => ?_)
      · exact unhide MK _ (hHeld.1.trans (bX.mono hHeld.1.size))
      clear hK K
      try simp only [Act.put, kB0, kB1, kB2, kB3, kB4, kB5]
      refine wpAnyH_take (i := 7) (v := ?_) rfl (by kernel_rfl) (by kernel_rfl) (by kernel_rfl) (fun _ _ _ h => h) (Or.inl ⟨by rfl, ?_⟩) (by assumption) ?_
      rotate_left
      · (intro w hSw; (try dsimp only at hSw); go_simp; (try with_reducible rfl))
      try simp only [Act.put, kB0, kB1, kB2, kB3, kB4, kB5]
      refine wpAnyH_done (by kernel_rfl) ?_ _
      obtain ⟨hA, -, e1, -, -, -⟩ := hHeld
      go_wp2_with fail
      refine wp_region_held_drew (S := fun W' => Below wr.heap.size wr W' ∧ W'.cell? ⟨g, o + k * 5, none⟩ = some (.string (Pl.mark q)) ∧ W'.cell? ⟨g, o + k * 5 + 1, none⟩ = some (.int .i64 ((q : Int) + 1)) ∧ W'.cell? ⟨g, o + k * 5 + 2, none⟩ = some (.string (Pl.mark (q + 2))) ∧ W'.cell? ⟨g, o + k * 5 + 3, none⟩ = some (.int .i64 ((q : Int) + 1 + 1 + 1)) ∧ W'.cell? ⟨g, o + k * 5 + 4, none⟩ = some (.int .i64 ((q : Int) + 1 + 1 + 1 + 1))) (by kernel_rfl) ?_ (fun hHeld => ?_)
      · exact unhide MK _ (hA.trans ⟨rfl, rfl, rfl, Nat.le_refl _, fun _ _ => rfl⟩)
      refine wpAnyH_take (i := 0) (v := ?_) rfl (by kernel_rfl) (by kernel_rfl) (by kernel_rfl) (fun _ _ _ h => h) (Or.inl ⟨by rfl, ?_⟩) (by assumption) ?_
      rotate_left
      · (intro w hSw; (try dsimp only at hSw); go_simp; (try with_reducible rfl))
      try simp only [Act.put, kB0, kB1, kB2, kB3, kB4, kB5]
      refine wpAnyH_take (i := 1) (v := ?_) rfl (by kernel_rfl) (by kernel_rfl) (by kernel_rfl) (fun _ _ _ h => h) (Or.inl ⟨by rfl, ?_⟩) (by assumption) ?_
      rotate_left
      · (intro w hSw; (try dsimp only at hSw); go_simp; (try with_reducible rfl))
      try simp only [Act.put, kB0, kB1, kB2, kB3, kB4, kB5]
      refine wpAnyH_take (i := 2) (v := ?_) rfl (by kernel_rfl) (by kernel_rfl) (by kernel_rfl) (fun _ _ _ h => h) (Or.inl ⟨by rfl, ?_⟩) (by assumption) ?_
      rotate_left
      · (intro w hSw; (try dsimp only at hSw); go_simp; (try with_reducible rfl))
      try simp only [Act.put, kB0, kB1, kB2, kB3, kB4, kB5]
      refine wpAnyH_take (i := 3) (v := ?_) rfl (by kernel_rfl) (by kernel_rfl) (by kernel_rfl) (fun _ _ _ h => h) (Or.inl ⟨by rfl, ?_⟩) (by assumption) ?_
      rotate_left
      · (intro w hSw; (try dsimp only at hSw); go_simp; (try with_reducible rfl))
      try simp only [Act.put, kB0, kB1, kB2, kB3, kB4, kB5]
      refine wpAnyH_take (i := 4) (v := ?_) rfl (by kernel_rfl) (by kernel_rfl) (by kernel_rfl) (fun _ _ _ h => h) (Or.inl ⟨by rfl, ?_⟩) (by assumption) ?_
      rotate_left
      · (intro w hSw; (try dsimp only at hSw); go_simp; (try with_reducible rfl))
      try simp only [Act.put, kB0, kB1, kB2, kB3, kB4, kB5]
      refine wpAnyH_take (i := 5) (v := ?_) rfl (by kernel_rfl) (by kernel_rfl) (by kernel_rfl) (fun _ _ _ h => h) (Or.inl ⟨by rfl, ?_⟩) (by assumption) ?_
      rotate_left
      · (intro w hSw; (try dsimp only at hSw); go_simp; (try with_reducible rfl))
      try simp only [Act.put, kB0, kB1, kB2, kB3, kB4, kB5]
      refine wpAnyH_ready (rs := [6]) (by kernel_rfl) (by simp) ?_
      refine AllReadyH.cons rfl (fun K hK => ?_) AllReadyH.nil
      go_simp
      refine (unhide HM2 _).mono ?_
      rintro e wB ⟨rfl, bX⟩
      refine hK.out _ _ ?_ (fun hHeld => ?_)
      · exact unhide MK _ (hHeld.1.trans (bX.mono hHeld.1.size))
      clear hK K
      try simp only [Act.put, kB0, kB1, kB2, kB3, kB4, kB5]
      refine wpAnyH_take (i := 7) (v := ?_) rfl (by kernel_rfl) (by kernel_rfl) (by kernel_rfl) (fun _ _ _ h => h) (Or.inl ⟨by rfl, ?_⟩) (by assumption) ?_
      rotate_left
      · (intro w hSw; (try dsimp only at hSw); go_simp; (try with_reducible rfl))
      try simp only [Act.put, kB0, kB1, kB2, kB3, kB4, kB5]
      refine wpAnyH_done (by kernel_rfl) ?_ _
      obtain ⟨hB, -, -, -, e3, e4⟩ := hHeld
      have hfin := hbel.trans (hB.mono hbel.size)
      clear MK hA hB bX HM HM2 hbel e1
      go_wp2
      go_roundw
      case rel => exact ⟨k + 1, q + 5, by omega, by have := unhide HQ; omega, by go_num, by go_num, hfin⟩
      case measure => simp [intOf]; omega
    · obtain rfl : k = n := by omega
      have y1 : ¬ (k : Int) < (k : Int) := by omega
      have hq2 : (q : Int) = ((K + 5 * k : Nat) : Int) := by omega
      have HQ := hide hq2
      clear hq2 hq
      go_wp2
      go_ret
      exact ⟨by rw [unhide HQ]; rfl, hbel⟩
end WMarkN
end Go.Proofs.YtepmojmelcngeaaGreatDoor

