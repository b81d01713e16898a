/- Several texts of one claim in one file: WSource, WDrawRw, WDrawSm. -/
import Derived.Test.YtepmojmelcngeaaGreatDoorG44
import Derived.Test.YtepmojmelcngeaaGreatDoorWDrawTr
/- The walk of the draws' beginning: a source out of bytes. -/
namespace Go.Proofs.YtepmojmelcngeaaGreatDoor
open Go.RowKit
namespace WSrc
theorem fin {w wr w1 : World} {len cap p : Nat} {a : Option Addr} {v : Value} {m sz : Int} {C : Array Value} (hr : RowB w w.heap.size a len cap) (hbel : Below w.heap.size w wr) (hp : p ≤ len) (hz0 : 0 ≤ sz) (hz1 : sz ≤ 12)
    (hsz : wr.heap.size ≤ w1.heap.size) (hk : ∀ j, j < w.heap.size → w1.heap[j]? = wr.heap[j]?) (e1 : w1.os = wr.os) (e2 : w1.tape = wr.tape) (e3 : w1.output = wr.output)
    (hb : w1.heap[w.heap.size]? = some (.cells C 132 (0, 0))) (hC : C = #[.slice a len cap, .int .i64 (p : Int), v, .int .i64 sz]) (hv : v = .int .u64 m) : Src w1 w.heap.size a len cap ∧ Below w.heap.size w w1 := by
  have hbel2 : Below w.heap.size w w1 := hbel.trans ⟨e1, e2, e3, hsz, hk⟩
  refine ⟨⟨⟨hr.1, hr.2.1, fun i hi => ?_⟩, p, m, sz, by rw [hb, hC, hv], hp, hz0, hz1⟩, hbel2⟩
  obtain ⟨b, o, n, h1, h2, h3, h4⟩ := hr.2.2 i hi
  exact ⟨b, o, n, h1, h2, h3, (hbel2.cell (p := ⟨b, o + i, none⟩) h2).trans h4⟩
set_option maxRecDepth 100000 in
theorem source_any (a : Option Addr) (len cap : Nat) (w : World) (hr : RowB w w.heap.size a len cap) :
    Calls Tryz.prog 64 #[.slice a len cap] w fun e w' => e = .returned (.pointer (some ⟨w.heap.size, 0, none⟩)) ∧ Src w' w.heap.size a len cap ∧ Below w.heap.size w w' := by
  have hl : (len : Int) ≤ 9223372036854775807 := by have h1 := hr.2.1; have h2 := hr.1; unfold maxLen at h1; omega
  have HR := hide hr
  clear hr
  go_enter Tryz.func64, Tryz.ntmps64
  go_wp2
  go_loopw [4] (fun i wr => ∃ (k : Nat) (m : Int), k ≤ 64 ∧ k ≤ len ∧ i = .int .i64 (k : Int) ∧ Hid (wr.heap[w.heap.size]? = some (.cells #[.slice a len cap, .int .i64 0, .int .u64 m, .int .i64 0] 132 (0, 0))) ∧ Below w.heap.size w wr) (fun i _ => 64 - (intOf i).toNat)
  case atStart => exact ⟨0, _, by omega, by omega, rfl, hide (heap_alloc_new w _), (Below.refl _ _).alloc (Nat.le_refl _) _⟩
  case round =>
    obtain ⟨k, m, hk, hkl, rfl, HB, hbel⟩ := hrel
    have c0 : wr.cell? ⟨w.heap.size, 0, none⟩ = some (.slice a len cap) := by rw [cell_of_row wr _ 0 _ _ (0, 0) (unhide HB)]; rfl
    have c2 : wr.cell? ⟨w.heap.size, 2, none⟩ = some (.int .u64 m) := by rw [cell_of_row wr _ 2 _ _ (0, 0) (unhide HB)]; rfl
    have c3 : wr.cell? ⟨w.heap.size, 3, none⟩ = some (.int .i64 0) := by rw [cell_of_row wr _ 3 _ _ (0, 0) (unhide HB)]; rfl
    have f2 : wr.frozen? ⟨w.heap.size, 2, none⟩ = false := Mem.row_frozen (unhide HB)
    have f3 : wr.frozen? ⟨w.heap.size, 3, none⟩ = false := Mem.row_frozen (unhide HB)
    by_cases hlt : k < len ∧ k < 64
    · obtain ⟨b, o, n, rfl, hbS, hn, hc⟩ := (unhide HR).2.2 k hlt.1
      have hc1 : wr.cell? ⟨b, o + k, none⟩ = some (.int .u8 (n : Int)) := (hbel.cell (p := ⟨b, o + k, none⟩) hbS).trans hc
      have t1 : (k : Int) < (len : Int) := by omega
      have t2 : (k : Int) < 64 := by omega
      have t3 : (0 : Int) ≤ (k : Int) := by omega
      clear hc hlt
      go_wp2
      go_region
      go_wp2
      go_roundw
      case rel =>
        refine ⟨k + 1, _, by omega, by omega, by go_num, hide (heap_setCell_same _ _ 2 _ _ _ (unhide HB)), ?_⟩
        exact hbel.trans ⟨rfl, rfl, rfl, by simp [World.setCell], fun j hj => Below.heap_setCell _ _ _ _ (by show j ≠ w.heap.size; omega)⟩
      case measure => simp [intOf]; omega
    · have HF : Hid (¬ (k < len ∧ k < 64)) := hlt
      by_cases h12 : 12 < len / 20
      · have t4 : (12 : Int) < (len : Int) / 20 := by omega
        have hlt1 : k < len := by omega
        have hlt2 : ¬ (k : Int) < 64 := by omega
        have hlt3 : (k : Int) < (len : Int) := by omega
        clear hlt
        go_wp2
        go_ret
        exact ⟨rfl, fin (unhide HR) hbel (Nat.zero_le _) (by omega) (by omega) (by rw [size_set, size_set]; exact Nat.le_refl _) (fun j hj => by rw [Below.heap_setCell _ _ _ _ (by show j ≠ w.heap.size; omega), Below.heap_setCell _ _ _ _ (by show j ≠ w.heap.size; omega)]) rfl rfl rfl (heap_setCell_same _ _ 3 _ _ _ (heap_setCell_same _ _ 3 _ _ _ (unhide HB))) rfl rfl⟩
      · have t4 : ¬ (12 : Int) < (len : Int) / 20 := by omega
        by_cases hlt1 : k < len
        · have hlt2 : ¬ (k : Int) < 64 := by omega
          have hlt3 : (k : Int) < (len : Int) := by omega
          clear hlt
          go_wp2
          go_ret
          exact ⟨rfl, fin (unhide HR) hbel (Nat.zero_le _) (by omega) (by omega) (by rw [size_set]; exact Nat.le_refl _) (fun j hj => by rw [Below.heap_setCell _ _ _ _ (by show j ≠ w.heap.size; omega)]) rfl rfl rfl (heap_setCell_same _ _ 3 _ _ _ (unhide HB)) rfl rfl⟩
        · have hlt3 : ¬ (k : Int) < (len : Int) := by omega
          clear hlt
          go_wp2
          go_ret
          exact ⟨rfl, fin (unhide HR) hbel (Nat.zero_le _) (by omega) (by omega) (by rw [size_set]; exact Nat.le_refl _) (fun j hj => by rw [Below.heap_setCell _ _ _ _ (by show j ≠ w.heap.size; omega)]) rfl rfl rfl (heap_setCell_same _ _ 3 _ _ _ (unhide HB)) rfl rfl⟩
end WSrc
end Go.Proofs.YtepmojmelcngeaaGreatDoor

/- A row below lies below what comes later (of WDrawSm). -/
namespace Go.Proofs.YtepmojmelcngeaaGreatDoor
open Go.RowKit
namespace WSrc
theorem row_up {w W : World} {S len cap : Nat} {a : Option Addr} (h : RowB w w.heap.size a len cap) (b : Below w.heap.size w W) (hS : w.heap.size ≤ S) : RowB W S a len cap :=
  ⟨h.1, h.2.1, fun i hi => by
    obtain ⟨g, o, n, h1, h2, h3, h4⟩ := h.2.2 i hi
    exact ⟨g, o, n, h1, Nat.lt_of_lt_of_le h2 hS, h3, (b.cell (p := ⟨g, o + i, none⟩) h2).trans h4⟩⟩
end WSrc
end Go.Proofs.YtepmojmelcngeaaGreatDoor

/- The walk of the draw of a path of a tree (WDrawTs's first part, by genDS.py). -/
namespace Go.Proofs.YtepmojmelcngeaaGreatDoor
open Go.RowKit
namespace WSrc
set_option linter.unusedSimpArgs false in
set_option maxRecDepth 100000 in
set_option maxHeartbeats 4000000 in
theorem some_any (S : Nat) (a : Option Addr) (len cap : Nat) (B : Nat) (va : Option Addr) (vc : Nat) (L : List Pl.Nd) (w : World) (hs : Src w S a len cap) (hB : S < B) (tv : TreeV w B va vc L) (hl : L.length ≤ 64) (hsm : Pl.smallL L) :
    Calls Tryz.prog 68 #[.pointer (some ⟨S, 0, none⟩), .agg #[.slice va L.length vc]] w fun e w' => ∃ p : ByteArray, p.size ≤ 200 ∧ e = .returned (.string p) ∧ Src w' S a len cap ∧ w.grownBy w' (some S) := by
  have hS := src_lt hs
  have HSM := hide hsm
  have hs0 := hide (src_alloc hs (.cells #[.slice va L.length vc] 31))
  have BX := Mem.Blk.new w #[.slice va L.length vc] 31
  have g0 := World.grownBy_alloc w (.cells #[.slice va L.length vc] 31) (some S)
  have TV := hide (tv.alloc (.cells #[.slice va L.length vc] 31))
  clear hs tv hsm
  by_cases h0 : (0 : Int) < (L.length : Int)
  · obtain ⟨b, o, rfl⟩ : ∃ b o, va = some ⟨b, o, none⟩ := by
      rcases (unhide TV).2.1 with ⟨_, _, rfl⟩ | ⟨b, o, e, _⟩
      · simp at h0
      · exact ⟨b, o, e⟩
    have hbB := (unhide TV).2.2 b o rfl
    have x0 := BX.cell 0
    simp only [kA0, kA1, kA2] at x0
    go_enter Tryz.func68, Tryz.ntmps68
    go_wp2_with fail
    generalize w.alloc (.cells #[.slice (some ⟨b, o, none⟩) L.length vc] 31) = w1 at hs0 BX g0 TV x0 ⊢
    refine (one_any S a len cap 4 _ (unhide hs0) (by omega)).mono ?_
    rintro e w2 ⟨r4, rfl, s1, g1⟩
    have BX := BX.grown g1 (by simp; omega)
    have NV := hide (Mem.nodes_grown (unhide TV).1 g1 (by simp; omega))
    have g0 := g0.trans g1
    clear g1 x0 TV hs0
    cases r4
    · have x0 := BX.cell 0
      simp only [kA0, kA1, kA2] at x0
      go_wp2_with fail
      refine wp_region_held_drew (S := fun W' => W'.cell? ⟨w.heap.size, 0, none⟩ = some (.slice (some ⟨b, o, none⟩) L.length vc)) (by kernel_rfl) ?_ (fun hHeld => ?_)
      · exact (BX.cell 0)
      have s1' : Src w2.drew S a len cap := s1
      have BX' : Mem.Blk w2.drew w.heap.size #[.slice (some ⟨b, o, none⟩) L.length vc] 31 := BX
      have NV' : Hid (Mem.isNodes w2.drew (some ⟨b, o, none⟩) L) := unhide NV
      have g0' := grown_drew g0
      generalize w2.drew = WD at s1' BX' NV' g0' hHeld ⊢
      clear s1 BX NV g0 x0
      refine wpAnyH_take (i := 0) (v := ?_) rfl (by kernel_rfl) (by kernel_rfl) (by kernel_rfl) (fun _ _ _ h => h) (Or.inl ⟨by rfl, ?_⟩) (by assumption) ?_
      rotate_left
      · (intro w hSw; (try dsimp only at hSw); go_simp; (try with_reducible rfl))
      try simp only [Act.put, kB0, kB1, kB2, kB3, kB4, kB5]
      refine wpAnyH_take (i := 1) (v := ?_) rfl (by kernel_rfl) (by kernel_rfl) (by kernel_rfl) (fun _ _ _ h => h) (Or.inl ⟨by rfl, ?_⟩) (by assumption) ?_
      rotate_left
      · (intro w hSw; (try dsimp only at hSw); go_simp; (try with_reducible rfl))
      try simp only [Act.put, kB0, kB1, kB2, kB3, kB4, kB5]
      refine wpAnyH_take (i := 2) (v := ?_) rfl (by kernel_rfl) (by kernel_rfl) (by kernel_rfl) (fun _ _ _ h => h) (Or.inl ⟨by rfl, ?_⟩) (by assumption) ?_
      rotate_left
      · (intro w hSw; (try dsimp only at hSw); go_simp; (try with_reducible rfl))
      try simp only [Act.put, kB0, kB1, kB2, kB3, kB4, kB5]
      refine wpAnyH_take (i := 3) (v := ?_) rfl (by kernel_rfl) (by kernel_rfl) (by kernel_rfl) (fun _ _ _ h => h) (Or.inl ⟨by rfl, ?_⟩) (by assumption) ?_
      rotate_left
      · (intro w hSw; (try dsimp only at hSw); go_simp; (try with_reducible rfl))
      try simp only [Act.put, kB0, kB1, kB2, kB3, kB4, kB5]
      refine wpAnyH_take (i := 4) (v := ?_) rfl (by kernel_rfl) (by kernel_rfl) (by kernel_rfl) (fun _ _ _ h => h) (Or.inl ⟨by rfl, ?_⟩) (by assumption) ?_
      rotate_left
      · (intro w hSw; (try dsimp only at hSw); go_simp; (try with_reducible rfl))
      try simp only [Act.put, kB0, kB1, kB2, kB3, kB4, kB5]
      refine wpAnyH_take (i := 5) (v := ?_) rfl (by kernel_rfl) (by kernel_rfl) (by kernel_rfl) (fun _ _ _ h => h) (Or.inl ⟨by rfl, ?_⟩) (by assumption) ?_
      rotate_left
      · (intro w hSw; (try dsimp only at hSw); go_simp; (try with_reducible rfl))
      try simp only [Act.put, kB0, kB1, kB2, kB3, kB4, kB5]
      refine wpAnyH_ready (rs := [6]) (by kernel_rfl) (by simp) ?_
      refine AllReadyH.cons rfl (fun K hK => ?_) AllReadyH.nil
      go_simp
      refine (n_any S a len cap (L.length : Int) _ s1' (by omega)).mono ?_
      rintro e wX ⟨r, rfl, r0, r1, sX, gX⟩
      refine hK.out _ _ ?_ (fun hHeld => ?_)
      · exact (BX'.grown gX (by simp; omega)).cell 0
      clear hK K
      try simp only [Act.put, kB0, kB1, kB2, kB3, kB4, kB5]
      obtain ⟨k, rfl⟩ : ∃ k : Nat, r = (k : Int) := ⟨r.toNat, by omega⟩
      have hk : k < L.length := by omega
      have y1 : (k : Int) < (L.length : Int) := by omega
      have y3 : (0 : Int) ≤ (k : Int) := by omega
      obtain ⟨m, hm⟩ : ∃ m, L[k]? = some m := ⟨_, List.getElem?_eq_getElem hk⟩
      have hmp : m.path.size ≤ 200 := (unhide HSM m (List.mem_of_getElem? hm)).1
      obtain ⟨b', o', e', -, q0, -⟩ := (Mem.nodes_grown (unhide NV') gX (by simp; omega)) k m hm
      cases e'
      have GG := hide (g0'.trans gX)
      refine wpAnyH_take (i := 7) (v := ?_) rfl (by kernel_rfl) (by kernel_rfl) (by kernel_rfl) (fun _ _ _ h => h) (Or.inl ⟨by rfl, ?_⟩) (by assumption) ?_
      rotate_left
      · (intro w hSw; (try dsimp only at hSw); go_simp; (try with_reducible rfl))
      try simp only [Act.put, kB0, kB1, kB2, kB3, kB4, kB5]
      refine wpAnyH_take (i := 8) (v := ?_) rfl (by kernel_rfl) (by kernel_rfl) (by kernel_rfl) (fun _ _ _ h => h) (Or.inl ⟨by rfl, ?_⟩) (by assumption) ?_
      rotate_left
      · (intro w hSw; (try dsimp only at hSw); go_simp; (try with_reducible rfl))
      try simp only [Act.put, kB0, kB1, kB2, kB3, kB4, kB5]
      refine wpAnyH_ready (rs := [9]) (by kernel_rfl) (by simp) ?_
      refine AllReadyH.cons rfl (fun K hK => ?_) AllReadyH.nil
      go_simp
      refine hK.out _ _ ?_ (fun hHeld => ?_)
      · exact hHeld
      clear hK K
      try simp only [Act.put, kB0, kB1, kB2, kB3, kB4, kB5]
      refine wpAnyH_take (i := 10) (v := ?_) rfl (by kernel_rfl) (by kernel_rfl) (by kernel_rfl) (fun _ _ _ h => h) (Or.inl ⟨by rfl, ?_⟩) (by assumption) ?_
      rotate_left
      · (intro w hSw; (try dsimp only at hSw); go_simp; (try with_reducible rfl))
      try simp only [Act.put, kB0, kB1, kB2, kB3, kB4, kB5]
      refine wpAnyH_done (by kernel_rfl) ?_ _
      go_wp2
      go_ret
      exact ⟨_, hmp, rfl, sX, unhide GG⟩
    · go_wp2_with fail
      refine (path_any S a len cap _ s1).mono ?_
      rintro e w3 ⟨t, ht, rfl, s3, g3⟩
      go_wp2
      go_ret
      exact ⟨t, by omega, rfl, s3, g0.trans g3⟩
  · have x0 := BX.cell 0
    simp only [kA0, kA1, kA2] at x0
    go_enter Tryz.func68, Tryz.ntmps68
    go_wp2_with fail
    refine (path_any S a len cap _ (unhide hs0)).mono ?_
    rintro e w3 ⟨t, ht, rfl, s3, g3⟩
    go_wp2
    go_ret
    exact ⟨t, by omega, rfl, s3, g0.trans g3⟩
end WSrc
end Go.Proofs.YtepmojmelcngeaaGreatDoor

