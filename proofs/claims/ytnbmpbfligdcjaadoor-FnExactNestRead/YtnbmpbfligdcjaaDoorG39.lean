/- Several texts of one claim in one file: WHdN, WMkI, MemBand. -/
import Derived.Test.YtnbmpbfligdcjaaDoorG28
import Derived.Test.YtnbmpbfligdcjaaDoorG20
/- Marks on nodes that are still there. -/
namespace Go.Proofs.YtnbmpbfligdcjaaDoor
open Go.RowKit
namespace WMarkN
set_option linter.unusedSimpArgs false in
set_option maxRecDepth 100000 in
set_option maxHeartbeats 2000000 in
theorem held_any (a : Option Addr) (n cap K : Nat) (w : World) (hn : n ≤ 1048576) (hK : 0 < K) (hK2 : K ≤ 1000000) (hv : Mem.isNodes w a (Pl.markN K n)) :
    Calls Tryd.prog 72 #[.slice a n cap, .int .i64 (K : Int)] w fun e w' => e = .returned (.int .i64 ((K + 5 * n : Nat) : Int)) ∧ Below w.heap.size w w' := by
  have HV := hide hv
  clear hv
  go_enter Tryd.func72, Tryd.ntmps72
  go_wp2
  go_loopw [1, 5] (fun v i wr => ∃ (k q : Nat), k ≤ n ∧ q = K + 5 * k ∧ i = .int .i64 (k : Int) ∧ v = .int .i64 (q : Int) ∧ Below w.heap.size w wr) (fun _ i _ => n - (intOf i).toNat)
  case atStart => exact ⟨0, K, Nat.zero_le _, rfl, rfl, rfl, Below.refl _ _⟩
  case round =>
    obtain ⟨k, q, hk, hq, rfl, rfl, hbel⟩ := hrel
    by_cases hlt : k < n
    · have y1 : (k : Int) < (n : Int) := by omega
      have y3 : (0 : Int) ≤ (k : Int) := by omega
      obtain ⟨g, o, rfl, hg, c0, c1, c2, c3, c4⟩ := (Mem.nodes_call (unhide HV) hbel) k (Pl.markNd K k) (by simp [Pl.markN, List.getElem?_range hlt])
      simp only [Pl.markNd, ← hq] at c0 c1 c2 c3 c4
      have HM := hide (fun W => WMarks.mark_any q W (by omega) (by omega))
      have HM2 := hide (fun W => WMarks.mark_any (q + 2) W (by omega) (by omega))
      rw [show ((q + 2 : Nat) : Int) = (q : Int) + 1 + 1 by omega] at HM2
      rw [show ((q + 1 : Nat) : Int) = (q : Int) + 1 by omega] at c1
      rw [show ((q + 3 : Nat) : Int) = (q : Int) + 1 + 1 + 1 by omega] at c3
      rw [show ((q + 4 : Nat) : Int) = (q : Int) + 1 + 1 + 1 + 1 by omega] at c4
      have HQ := hide hq
      have q1 : (q : Int) ≤ 100000000 := by omega
      clear hq
      have MK : Hid (∀ W', Below wr.heap.size wr W' → (Below wr.heap.size wr W' ∧ W'.cell? ⟨g, o + k * 5, none⟩ = some (.string (Pl.mark q)) ∧ W'.cell? ⟨g, o + k * 5 + 1, none⟩ = some (.int .i64 ((q : Int) + 1)) ∧ W'.cell? ⟨g, o + k * 5 + 2, none⟩ = some (.string (Pl.mark (q + 2))) ∧ W'.cell? ⟨g, o + k * 5 + 3, none⟩ = some (.int .i64 ((q : Int) + 1 + 1 + 1)) ∧ W'.cell? ⟨g, o + k * 5 + 4, none⟩ = some (.int .i64 ((q : Int) + 1 + 1 + 1 + 1)))) := fun W' hb' => ⟨hb', (hb'.cell (p := ⟨g, _, none⟩) hg).trans c0, (hb'.cell (p := ⟨g, _, none⟩) hg).trans c1, (hb'.cell (p := ⟨g, _, none⟩) hg).trans c2, (hb'.cell (p := ⟨g, _, none⟩) hg).trans c3, (hb'.cell (p := ⟨g, _, none⟩) hg).trans c4⟩
      clear c0 c1 c2 c3 c4
      go_wp2_with fail
      refine wp_region_held_drew (S := fun W' => Below wr.heap.size wr W' ∧ W'.cell? ⟨g, o + k * 5, none⟩ = some (.string (Pl.mark q)) ∧ W'.cell? ⟨g, o + k * 5 + 1, none⟩ = some (.int .i64 ((q : Int) + 1)) ∧ W'.cell? ⟨g, o + k * 5 + 2, none⟩ = some (.string (Pl.mark (q + 2))) ∧ W'.cell? ⟨g, o + k * 5 + 3, none⟩ = some (.int .i64 ((q : Int) + 1 + 1 + 1)) ∧ W'.cell? ⟨g, o + k * 5 + 4, none⟩ = some (.int .i64 ((q : Int) + 1 + 1 + 1 + 1))) (by kernel_rfl) ?_ (fun hHeld => ?_)
      · exact unhide MK _ ((Below.refl _ _).trans ⟨rfl, rfl, rfl, Nat.le_refl _, fun _ _ => rfl⟩)
      refine wpAnyH_take (i := 0) (v := ?_) rfl (by kernel_rfl) (by kernel_rfl) (by kernel_rfl) (fun _ _ _ h => h) (Or.inl ⟨by rfl, ?_⟩) (by assumption) ?_
      rotate_left
      · (intro w hSw; (try dsimp only at hSw); go_simp; (try with_reducible rfl))
      try simp only [Act.put, kB0, kB1, kB2, kB3, kB4, kB5]
      refine wpAnyH_take (i := 1) (v := ?_) rfl (by kernel_rfl) (by kernel_rfl) (by kernel_rfl) (fun _ _ _ h => h) (Or.inl ⟨by rfl, ?_⟩) (by assumption) ?_
      rotate_left
      · (intro w hSw; (try dsimp only at hSw); go_simp; (try with_reducible rfl))
      try simp only [Act.put, kB0, kB1, kB2, kB3, kB4, kB5]
      refine wpAnyH_take (i := 2) (v := ?_) rfl (by kernel_rfl) (by kernel_rfl) (by kernel_rfl) (fun _ _ _ h => h) (Or.inl ⟨by rfl, ?_⟩) (by assumption) ?_
      rotate_left
      · (intro w hSw; (try dsimp only at hSw); go_simp; (try with_reducible rfl))
      try simp only [Act.put, kB0, kB1, kB2, kB3, kB4, kB5]
      refine wpAnyH_take (i := 3) (v := ?_) rfl (by kernel_rfl) (by kernel_rfl) (by kernel_rfl) (fun _ _ _ h => h) (Or.inl ⟨by rfl, ?_⟩) (by assumption) ?_
      rotate_left
      · (intro w hSw; (try dsimp only at hSw); go_simp; (try with_reducible rfl))
      try simp only [Act.put, kB0, kB1, kB2, kB3, kB4, kB5]
      refine wpAnyH_take (i := 4) (v := ?_) rfl (by kernel_rfl) (by kernel_rfl) (by kernel_rfl) (fun _ _ _ h => h) (Or.inl ⟨by rfl, ?_⟩) (by assumption) ?_
      rotate_left
      · (intro w hSw; (try dsimp only at hSw); go_simp; (try with_reducible rfl))
      try simp only [Act.put, kB0, kB1, kB2, kB3, kB4, kB5]
      refine wpAnyH_take (i := 5) (v := ?_) rfl (by kernel_rfl) (by kernel_rfl) (by kernel_rfl) (fun _ _ _ h => h) (Or.inl ⟨by rfl, ?_⟩) (by assumption) ?_
      rotate_left
      · (intro w hSw; (try dsimp only at hSw); go_simp; (try with_reducible rfl))
      try simp only [Act.put, kB0, kB1, kB2, kB3, kB4, kB5]
      refine wpAnyH_ready (rs := [6]) (by kernel_rfl) (by simp) ?_
      refine AllReadyH.cons rfl (fun K hK => ?_) AllReadyH.nil
      go_simp
      refine (unhide HM _).mono ?_
      rintro e wA ⟨rfl, bX⟩
      refine hK.out _ _ ?_ (fun hHeld => ?_)
      · exact unhide MK _ (hHeld.1.trans (bX.mono hHeld.1.size))
      clear hK K
      try simp only [Act.put, kB0, kB1, kB2, kB3, kB4, kB5]
      refine wpAnyH_take (i := 7) (v := ?_) rfl (by kernel_rfl) (by kernel_rfl) (by kernel_rfl) (fun _ _ _ h => h) (Or.inl ⟨by rfl, ?_⟩) (by assumption) ?_
      rotate_left
      · (intro w hSw; (try dsimp only at hSw); go_simp; (try with_reducible rfl))
      try simp only [Act.put, kB0, kB1, kB2, kB3, kB4, kB5]
      refine wpAnyH_done (by kernel_rfl) ?_ _
      obtain ⟨hA, -, e1, -, -, -⟩ := hHeld
      go_wp2_with fail
      refine wp_region_held_drew (S := fun W' => Below wr.heap.size wr W' ∧ W'.cell? ⟨g, o + k * 5, none⟩ = some (.string (Pl.mark q)) ∧ W'.cell? ⟨g, o + k * 5 + 1, none⟩ = some (.int .i64 ((q : Int) + 1)) ∧ W'.cell? ⟨g, o + k * 5 + 2, none⟩ = some (.string (Pl.mark (q + 2))) ∧ W'.cell? ⟨g, o + k * 5 + 3, none⟩ = some (.int .i64 ((q : Int) + 1 + 1 + 1)) ∧ W'.cell? ⟨g, o + k * 5 + 4, none⟩ = some (.int .i64 ((q : Int) + 1 + 1 + 1 + 1))) (by kernel_rfl) ?_ (fun hHeld => ?_)
      · exact unhide MK _ (hA.trans ⟨rfl, rfl, rfl, Nat.le_refl _, fun _ _ => rfl⟩)
      refine wpAnyH_take (i := 0) (v := ?_) rfl (by kernel_rfl) (by kernel_rfl) (by kernel_rfl) (fun _ _ _ h => h) (Or.inl ⟨by rfl, ?_⟩) (by assumption) ?_
      rotate_left
      · (intro w hSw; (try dsimp only at hSw); go_simp; (try with_reducible rfl))
      try simp only [Act.put, kB0, kB1, kB2, kB3, kB4, kB5]
      refine wpAnyH_take (i := 1) (v := ?_) rfl (by kernel_rfl) (by kernel_rfl) (by kernel_rfl) (fun _ _ _ h => h) (Or.inl ⟨by rfl, ?_⟩) (by assumption) ?_
      rotate_left
      · (intro w hSw; (try dsimp only at hSw); go_simp; (try with_reducible rfl))
      try simp only [Act.put, kB0, kB1, kB2, kB3, kB4, kB5]
      refine wpAnyH_take (i := 2) (v := ?_) rfl (by kernel_rfl) (by kernel_rfl) (by kernel_rfl) (fun _ _ _ h => h) (Or.inl ⟨by rfl, ?_⟩) (by assumption) ?_
      rotate_left
      · (intro w hSw; (try dsimp only at hSw); go_simp; (try with_reducible rfl))
      try simp only [Act.put, kB0, kB1, kB2, kB3, kB4, kB5]
      refine wpAnyH_take (i := 3) (v := ?_) rfl (by kernel_rfl) (by kernel_rfl) (by kernel_rfl) (fun _ _ _ h => h) (Or.inl ⟨by rfl, ?_⟩) (by assumption) ?_
      rotate_left
      · (intro w hSw; (try dsimp only at hSw); go_simp; (try with_reducible rfl))
      try simp only [Act.put, kB0, kB1, kB2, kB3, kB4, kB5]
      refine wpAnyH_take (i := 4) (v := ?_) rfl (by kernel_rfl) (by kernel_rfl) (by kernel_rfl) (fun _ _ _ h => h) (Or.inl ⟨by rfl, ?_⟩) (by assumption) ?_
      rotate_left
      · (intro w hSw; (try dsimp only at hSw); go_simp; (try with_reducible rfl))
      try simp only [Act.put, kB0, kB1, kB2, kB3, kB4, kB5]
      refine wpAnyH_take (i := 5) (v := ?_) rfl (by kernel_rfl) (by kernel_rfl) (by kernel_rfl) (fun _ _ _ h => h) (Or.inl ⟨by rfl, ?_⟩) (by assumption) ?_
      rotate_left
      · (intro w hSw; (try dsimp only at hSw); go_simp; (try with_reducible rfl))
      try simp only [Act.put, kB0, kB1, kB2, kB3, kB4, kB5]
      refine wpAnyH_ready (rs := [6]) (by kernel_rfl) (by simp) ?_
      refine AllReadyH.cons rfl (fun K hK => ?_) AllReadyH.nil
      go_simp
      refine (unhide HM2 _).mono ?_
      rintro e wB ⟨rfl, bX⟩
      refine hK.out _ _ ?_ (fun hHeld => ?_)
      · exact unhide MK _ (hHeld.1.trans (bX.mono hHeld.1.size))
      clear hK K
      try simp only [Act.put, kB0, kB1, kB2, kB3, kB4, kB5]
      refine wpAnyH_take (i := 7) (v := ?_) rfl (by kernel_rfl) (by kernel_rfl) (by kernel_rfl) (fun _ _ _ h => h) (Or.inl ⟨by rfl, ?_⟩) (by assumption) ?_
      rotate_left
      · (intro w hSw; (try dsimp only at hSw); go_simp; (try with_reducible rfl))
      try simp only [Act.put, kB0, kB1, kB2, kB3, kB4, kB5]
      refine wpAnyH_done (by kernel_rfl) ?_ _
      obtain ⟨hB, -, -, -, e3, e4⟩ := hHeld
      have hfin := hbel.trans (hB.mono hbel.size)
      clear MK hA hB bX HM HM2 hbel e1
      go_wp2
      go_roundw
      case rel => exact ⟨k + 1, q + 5, by omega, by have := unhide HQ; omega, by go_num, by go_num, hfin⟩
      case measure => simp [intOf]; omega
    · obtain rfl : k = n := by omega
      have y1 : ¬ (k : Int) < (k : Int) := by omega
      have hq2 : (q : Int) = ((K + 5 * k : Nat) : Int) := by omega
      have HQ := hide hq2
      clear hq2 hq
      go_wp2
      go_ret
      exact ⟨by rw [unhide HQ]; rfl, hbel⟩
end WMarkN
end Go.Proofs.YtnbmpbfligdcjaaDoor

/- The walks of markItemS and heldItemS. -/
namespace Go.Proofs.YtnbmpbfligdcjaaDoor
open Go.RowKit
namespace WMarkI
set_option maxRecDepth 100000 in
theorem layNil (K : Nat) (w : World) : Calls Tryd.prog 71 #[.slice none 0 0, .int .i64 (K : Int)] w fun e w' => e = .returned (.int .i64 (K : Int)) ∧ Below w.heap.size w w' := by
  go_enter Tryd.func71, Tryd.ntmps71
  go_wp2
  refine wp_loop_rounds 1 ?_
  rw [rounds_succ]
  go_wp2
  go_ret
  exact ⟨rfl, Below.refl _ _⟩
/-- The marks of one tree's nodes. -/
theorem lay_one {w : World} {B g i K : Nat} {Js : List Pl.It} {x : Pl.It} (o : Mem.OwnI w B g Js) (hx : Js[i]? = some x) (hn : x.t.L.length ≤ 1048576) (hK : 0 < K) (hK2 : K ≤ 1000000) :
    Calls Tryd.prog 71 #[.slice x.t.a x.t.L.length x.t.cap, .int .i64 (K : Int)] w fun e w' => e = .returned (.int .i64 ((K + 5 * x.t.L.length : Nat) : Int)) ∧ Mem.OwnI w' B g (Js.set i ⟨x.m, ⟨x.t.a, x.t.cap, Pl.markN K x.t.L.length⟩⟩) ∧ (B ≤ w.heap.size → Below B w w') := by
  rcases o.own i x hx with ⟨e1, e2, e3⟩ | ⟨h, c, k1, k2, k3, k4, k5⟩
  · rw [e1, e2, e3]
    refine (layNil K w).mono fun e w' ⟨he, b⟩ => ⟨he, ?_, fun hb => b.mono hb⟩
    have : Js.set i ⟨x.m, ⟨none, 0, Pl.markN K 0⟩⟩ = Js := by
      apply List.ext_getElem?
      intro j
      rw [List.getElem?_set]
      by_cases e : i = j
      · subst e
        rw [if_pos rfl, if_pos (List.getElem?_eq_some_iff.1 hx).1, hx]
        obtain ⟨m, a, cap, L⟩ := x
        simp only at e1 e2 e3
        subst e1 e2 e3
        rfl
      · rw [if_neg e]
    simp only [List.length_nil]
    rw [this]
    exact o.call b
  · rw [k1]
    refine (WMarkN.lay_any h x.t.L.length x.t.cap K c w hn hK (Nat.le_trans hK2 (by decide)) k4 k5).mono fun e w' ⟨he, ⟨c', r1, r2⟩, hnd, gr⟩ => ⟨he, ?_, fun hb => ?_⟩
    · have := o.nodes hx k1 gr ⟨c', r1, by omega⟩ hnd (Pl.markN_length _ _)
      rw [k1] at this; exact this
    · exact ⟨gr.os, gr.tape, gr.output, gr.size, fun k hk => gr.block k (by omega) (fun e => by cases e; omega)⟩
set_option linter.unusedSimpArgs false in
set_option maxRecDepth 100000 in
set_option maxHeartbeats 1000000 in
theorem mark_any (B g cap K : Nat) (Is : List Pl.It) (w : World) (hn : Is.length ≤ 1000) (hL : ∀ x ∈ Is, x.t.L.length ≤ 1048576) (hK : 0 < K) (hK2 : ∀ i, i ≤ Is.length → Pl.kAt K Is i ≤ 100000) (o : Mem.OwnI w B g Is) (hB : B ≤ w.heap.size) :
    Calls Tryd.prog 53 #[.slice (some ⟨g, 0, none⟩) Is.length cap, .int .i64 (K : Int)] w fun e w' => e = .returned (.int .i64 (Pl.kAt K Is Is.length : Int)) ∧ Mem.OwnI w' B g (Pl.mkTo K Is Is.length) ∧ Below B w w' := by
  have HO0 : Hid (Mem.OwnI w B g (Pl.mkTo K Is 0)) := hide (by rw [Pl.mkTo_zero]; exact o)
  have HL := hide hL
  have HK2 := hide hK2
  have HKG : Hid (∀ i, 0 < Pl.kAt K Is i) := hide (fun i => Nat.lt_of_lt_of_le hK (Pl.kAt_ge K Is i))
  have HKS : Hid (∀ (i : Nat) x, Is[i]? = some x → Pl.kAt K Is (i + 1) = Pl.kAt K Is i + 1 + 5 * x.t.L.length) := hide (fun i x h => Pl.kAt_succ h)
  have HMG : Hid (∀ (i : Nat) x, Is[i]? = some x → (Pl.mkTo K Is i)[i]? = some x) := hide (fun i x h => by rw [Pl.mkTo_get, h]; simp)
  have HMS : Hid (∀ (i : Nat) x, Is[i]? = some x → ((Pl.mkTo K Is i).set i ⟨((Pl.kAt K Is i : Nat) : Int), x.t⟩).set i ⟨((Pl.kAt K Is i : Nat) : Int), ⟨x.t.a, x.t.cap, Pl.markN (Pl.kAt K Is i + 1) x.t.L.length⟩⟩ = Pl.mkTo K Is (i + 1)) := hide (fun i x h => by rw [List.set_set]; exact Pl.mkTo_succ K h)
  have HML : Hid (∀ i, (Pl.mkTo K Is i).length = Is.length) := hide (fun i => Pl.mkTo_len K Is i)
  have HK0 : Hid (Pl.kAt K Is 0 = K) := hide rfl
  generalize Pl.mkTo K Is = MT at HO0 HMG HMS HML ⊢
  generalize Pl.kAt K Is = KA at HK2 HKG HKS HMS HK0 ⊢
  have hK3 := unhide HK2 Is.length (Nat.le_refl _)
  clear hL hK2 o
  go_enter Tryd.func53, Tryd.ntmps53
  go_wp2
  go_loopw [1, 5] (fun q i wr => ∃ j : Nat, j ≤ Is.length ∧ i = .int .i64 (j : Int) ∧ q = .int .i64 (KA j : Int) ∧ Hid (Mem.OwnI wr B g (MT j)) ∧ Below B w wr) (fun _ i _ => Is.length - (intOf i).toNat)
  case atStart => exact ⟨0, Nat.zero_le _, rfl, by rw [unhide HK0], HO0, Below.refl _ _⟩
  case round =>
    obtain ⟨j, hj, rfl, rfl, HO, hbel⟩ := hrel
    clear HO0
    by_cases hlt : j < Is.length
    · obtain ⟨x, hx⟩ : ∃ x, Is[j]? = some x := ⟨_, List.getElem?_eq_getElem hlt⟩
      have hmx := unhide HMG j x hx
      have u1 : (j : Int) < (Is.length : Int) := by omega
      have u3 : (0 : Int) ≤ (j : Int) := by omega
      have hkj := unhide HK2 j hj
      have hks := unhide HKS j x hx
      have hkk := unhide HKG j
      obtain ⟨cur, r1, r2⟩ := (unhide HO).row
      rw [unhide HML] at r2
      obtain ⟨x0, s0⟩ : ∃ x, wr.cell? ⟨g, j * 2, none⟩ = some x := ⟨_, (cell_of_row wr _ (j * 2) _ _ (0, 0) r1).trans (Array.getElem?_eq_getElem (by omega))⟩
      have f0 : wr.frozen? ⟨g, j * 2, none⟩ = false := Mem.row_frozen r1
      have O1 := (unhide HO).many hmx ((KA j : Nat) : Int)
      have hx1 : ((MT j).set j ⟨((KA j : Nat) : Int), x.t⟩)[j]? = some ⟨((KA j : Nat) : Int), x.t⟩ := by
        rw [List.getElem?_set, if_pos rfl, if_pos (by rw [unhide HML]; exact hlt)]
      obtain ⟨⟨b', o', e', -, -, c1⟩, -⟩ := O1.items j _ hx1
      cases e'
      simp only [Pl.Tr.val, Nat.zero_add] at c1
      have hcall := hide (lay_one (K := KA j + 1) O1 hx1 (unhide HL x (List.mem_of_getElem? hx)) (by omega) (by omega))
      have HST := hide (unhide HMS j x hx)
      have hB2 := hbel.size
      have hb1 : Below B w (wr.setCell ⟨g, j * 2, none⟩ (.int .i64 ((KA j : Nat) : Int))) := hbel.setCell (unhide HO).lo _
      have hs1 : (wr.setCell ⟨g, j * 2, none⟩ (.int .i64 ((KA j : Nat) : Int))).heap.size = wr.heap.size := by simp
      have HB1 := hide hb1
      have HKS2 := hide hks
      clear hx hmx r1 r2 O1 hx1 HO hbel hks hb1
      simp only [Int.natCast_add, Int.cast_ofNat_Int] at hcall
      go_wp2_with fail
      refine (unhide hcall).mono ?_
      rintro e w2 ⟨rfl, o2, b2⟩
      have hb2 := (unhide HB1).trans (b2 (by omega))
      rw [unhide HST] at o2
      have HO2 := hide o2
      clear hcall o2 b2 s0 f0 c1 HB1
      go_wp2
      go_roundw
      case rel => exact ⟨j + 1, by omega, by go_num, by rw [unhide HKS2]; go_num, HO2, hb2⟩
      case measure => simp [intOf]; omega
    · have u1 : ¬ (j : Int) < (Is.length : Int) := by omega
      obtain rfl : j = Is.length := by omega
      go_wp2
      go_ret
      exact ⟨rfl, unhide HO, hbel⟩
set_option linter.unusedSimpArgs false in
set_option maxRecDepth 100000 in
set_option maxHeartbeats 1000000 in
theorem held_any (a : Option Addr) (cap K : Nat) (Is : List Pl.It) (w : World) (hn : Is.length ≤ 1000) (hL : ∀ x ∈ Is, x.t.L.length ≤ 1048576) (hK : 0 < K) (hK2 : ∀ i, i ≤ Is.length → Pl.kAt K Is i ≤ 100000) (hv : Mem.isItems w a (Pl.mkTo K Is Is.length)) :
    Calls Tryd.prog 54 #[.slice a Is.length cap, .int .i64 (K : Int)] w fun e w' => e = .returned (.int .i64 (Pl.kAt K Is Is.length : Int)) ∧ Below w.heap.size w w' := by
  have HV : Hid (∀ (j : Nat) x, Is[j]? = some x → (∃ b o, a = some ⟨b, o, none⟩ ∧ b < w.heap.size ∧ w.cell? ⟨b, o + j * 2, none⟩ = some (.int .i64 (Pl.kAt K Is j : Int)) ∧ w.cell? ⟨b, o + j * 2 + 1, none⟩ = some (.slice x.t.a x.t.L.length x.t.cap)) ∧ Mem.isNodes w x.t.a (Pl.markN (Pl.kAt K Is j + 1) x.t.L.length)) := hide (fun j x hx => by
    have h := hv j (Pl.mkIt K Is j x) (by rw [Pl.mkTo_get, hx, Option.map_some, if_pos (List.getElem?_eq_some_iff.1 hx).1])
    obtain ⟨⟨b, o, h1, h2, h3, h4⟩, h5⟩ := h
    refine ⟨⟨b, o, h1, h2, h3, ?_⟩, h5⟩
    rw [h4]
    simp [Pl.Tr.val, Pl.mkIt, Pl.markN_length])
  have HL := hide hL
  have HK2 := hide hK2
  have HKG : Hid (∀ i, 0 < Pl.kAt K Is i) := hide (fun i => Nat.lt_of_lt_of_le hK (Pl.kAt_ge K Is i))
  have HKS : Hid (∀ (i : Nat) x, Is[i]? = some x → Pl.kAt K Is (i + 1) = Pl.kAt K Is i + 1 + 5 * x.t.L.length) := hide (fun i x h => Pl.kAt_succ h)
  have HK0 : Hid (Pl.kAt K Is 0 = K) := hide rfl
  generalize Pl.kAt K Is = KA at HK2 HKG HKS HV HK0 ⊢
  have hK3 := unhide HK2 Is.length (Nat.le_refl _)
  clear hL hK2 hv
  go_enter Tryd.func54, Tryd.ntmps54
  go_wp2
  go_loopw [1, 5] (fun q i wr => ∃ j : Nat, j ≤ Is.length ∧ i = .int .i64 (j : Int) ∧ q = .int .i64 (KA j : Int) ∧ Below w.heap.size w wr) (fun _ i _ => Is.length - (intOf i).toNat)
  case atStart => exact ⟨0, Nat.zero_le _, rfl, by rw [unhide HK0], Below.refl _ _⟩
  case round =>
    obtain ⟨j, hj, rfl, rfl, hbel⟩ := hrel
    by_cases hlt : j < Is.length
    · obtain ⟨x, hx⟩ : ∃ x, Is[j]? = some x := ⟨_, List.getElem?_eq_getElem hlt⟩
      have u1 : (j : Int) < (Is.length : Int) := by omega
      have u3 : (0 : Int) ≤ (j : Int) := by omega
      have hkj := unhide HK2 j hj
      have hks := unhide HKS j x hx
      have hkk := unhide HKG j
      obtain ⟨⟨b, o, rfl, hb, q0, q1⟩, q2⟩ := unhide HV j x hx
      have c0 := (hbel.cell (p := ⟨b, _, none⟩) hb).trans q0
      have c1 := (hbel.cell (p := ⟨b, _, none⟩) hb).trans q1
      have hcall := hide (WMarkN.held_any x.t.a x.t.L.length x.t.cap (KA j + 1) wr (unhide HL x (List.mem_of_getElem? hx)) (by omega) (by omega) (Mem.nodes_call q2 hbel))
      have hpos : ¬ ((KA j + 1 + 5 * x.t.L.length : Nat) : Int) < 0 := by omega
      have HKS2 := hide hks
      clear hx q0 q1 q2 hks
      simp only [Int.natCast_add, Int.cast_ofNat_Int] at hcall hpos
      go_wp2_with fail
      refine (unhide hcall).mono ?_
      rintro e w2 ⟨rfl, b2⟩
      have hb2 := hbel.trans (b2.mono hbel.size)
      clear hcall b2 c0 c1 hbel
      go_wp2
      go_roundw
      case rel => exact ⟨j + 1, by omega, by go_num, by rw [unhide HKS2]; go_num, hb2⟩
      case measure => simp [intOf]; omega
    · have u1 : ¬ (j : Int) < (Is.length : Int) := by omega
      obtain rfl : j = Is.length := by omega
      go_wp2
      go_ret
      exact ⟨rfl, hbel⟩
end WMarkI
end Go.Proofs.YtnbmpbfligdcjaaDoor

/- All is as it was, but for a band of blocks. -/
namespace Go.Proofs.YtnbmpbfligdcjaaDoor
open Go.RowKit
namespace Mem
/-- All is as it was, but for the blocks from one number on and below another one. -/
structure Band (Y X : Nat) (w w' : World) : Prop where
  os : w'.os = w.os
  tape : w'.tape = w.tape
  output : w'.output = w.output
  size : w.heap.size ≤ w'.heap.size
  block : ∀ j, j < w.heap.size → (j < Y ∨ X ≤ j) → w'.heap[j]? = w.heap[j]?
theorem Band.refl (Y X : Nat) (w : World) : Band Y X w w := ⟨rfl, rfl, rfl, Nat.le_refl _, fun _ _ _ => rfl⟩
theorem Band.of_below {Y X : Nat} {w w' : World} (b : Below w.heap.size w w') : Band Y X w w' := ⟨b.os, b.tape, b.output, b.size, fun j hj _ => b.block j hj⟩
theorem Band.of_grown {Y X g : Nat} {w w' : World} (b : w.grownBy w' (some g)) (h1 : Y ≤ g) (h2 : g < X) : Band Y X w w' := ⟨b.os, b.tape, b.output, b.size, fun j hj hh => b.block j hj (fun e => by cases e; omega)⟩
theorem Band.trans {Y X : Nat} {w v v' : World} (h : Band Y X w v) (h' : Band Y X v v') : Band Y X w v' :=
  ⟨h'.os.trans h.os, h'.tape.trans h.tape, h'.output.trans h.output, Nat.le_trans h.size h'.size, fun j hj hh => (h'.block j (Nat.lt_of_lt_of_le hj h.size) hh).trans (h.block j hj hh)⟩
theorem Band.below {Y X B : Nat} {w v v' : World} (h : Band Y X v v') (b : Below B w v) (hB : B ≤ Y) (hs : B ≤ v.heap.size) : Below B w v' :=
  ⟨h.os.trans b.os, h.tape.trans b.tape, h.output.trans b.output, Nat.le_trans b.size h.size, fun j hj => (h.block j (by omega) (.inl (by omega))).trans (b.block j hj)⟩
theorem Band.blk {Y X g : Nat} {w w' : World} {cs : Array Value} {T : TypeId} (h : Band Y X w w') (hb : Blk w g cs T) (hg : g < Y ∨ X ≤ g) : Blk w' g cs T := (h.block g hb.lt hg).trans hb
theorem Band.row {Y X B e size n : Nat} {w w' : World} {v : Value} {xs : List Value} (h : Band Y X w w') (o : w.ownsRow B e size v n xs) (hg : ∀ g, v.ownBlock = some g → g < Y ∨ X ≤ g) : w'.ownsRow B e size v n xs := by
  refine ⟨o.1, ?_⟩
  rcases o.2 with h0 | ⟨g, cap, cur, rfl, hb, hh, rest⟩
  · exact .inl h0
  · exact .inr ⟨g, cap, cur, rfl, hb, (h.block g (Array.getElem?_eq_some_iff.1 hh).1 (hg g rfl)).trans hh, rest⟩
theorem Band.of_set {Y X : Nat} {w : World} (p : Addr) (v : Value) (h1 : Y ≤ p.block) (h2 : p.block < X) : Band Y X w (w.setCell p v) :=
  have b : Below 0 w (w.setCell p v) := (Below.refl 0 w).setCell (Nat.zero_le _) v
  ⟨b.os, b.tape, b.output, b.size, fun j _ hh => heap_setCell_other _ _ _ _ (by omega)⟩
end Mem
end Go.Proofs.YtnbmpbfligdcjaaDoor

