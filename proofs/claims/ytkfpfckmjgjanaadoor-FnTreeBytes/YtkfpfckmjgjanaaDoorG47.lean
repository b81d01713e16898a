/- Several texts of one claim in one file: WSource, WSpoil, WDrawTd, WDrawTb, WCopyT. -/
import Derived.Test.YtkfpfckmjgjanaaDoorG32
import Derived.Laws.OwnMore
import Derived.Test.YtkfpfckmjgjanaaDoorWDrawTr
import Derived.Test.YtkfpfckmjgjanaaDoorG18
import Derived.Test.YtkfpfckmjgjanaaDoorWPutH
/- The walk of the draws' beginning: a source out of bytes. -/
namespace Go.Proofs.YtkfpfckmjgjanaaDoor
open Go.RowKit
namespace WSrc
theorem fin {w wr w1 : World} {len cap p : Nat} {a : Option Addr} {v : Value} {m sz : Int} {C : Array Value} (hr : RowB w w.heap.size a len cap) (hbel : Below w.heap.size w wr) (hp : p ≤ len) (hz0 : 0 ≤ sz) (hz1 : sz ≤ 12)
    (hsz : wr.heap.size ≤ w1.heap.size) (hk : ∀ j, j < w.heap.size → w1.heap[j]? = wr.heap[j]?) (e1 : w1.os = wr.os) (e2 : w1.tape = wr.tape) (e3 : w1.output = wr.output)
    (hb : w1.heap[w.heap.size]? = some (.cells C 119 (0, 0))) (hC : C = #[.slice a len cap, .int .i64 (p : Int), v, .int .i64 sz]) (hv : v = .int .u64 m) : Src w1 w.heap.size a len cap ∧ Below w.heap.size w w1 := by
  have hbel2 : Below w.heap.size w w1 := hbel.trans ⟨e1, e2, e3, hsz, hk⟩
  refine ⟨⟨⟨hr.1, hr.2.1, fun i hi => ?_⟩, p, m, sz, by rw [hb, hC, hv], hp, hz0, hz1⟩, hbel2⟩
  obtain ⟨b, o, n, h1, h2, h3, h4⟩ := hr.2.2 i hi
  exact ⟨b, o, n, h1, h2, h3, (hbel2.cell (p := ⟨b, o + i, none⟩) h2).trans h4⟩
set_option maxRecDepth 100000 in
theorem source_any (a : Option Addr) (len cap : Nat) (w : World) (hr : RowB w w.heap.size a len cap) :
    Calls Tryd.prog 44 #[.slice a len cap] w fun e w' => e = .returned (.pointer (some ⟨w.heap.size, 0, none⟩)) ∧ Src w' w.heap.size a len cap ∧ Below w.heap.size w w' := by
  have hl : (len : Int) ≤ 9223372036854775807 := by have h1 := hr.2.1; have h2 := hr.1; unfold maxLen at h1; omega
  have HR := hide hr
  clear hr
  go_enter Tryd.func44, Tryd.ntmps44
  go_wp2
  go_loopw [4] (fun i wr => ∃ (k : Nat) (m : Int), k ≤ 64 ∧ k ≤ len ∧ i = .int .i64 (k : Int) ∧ Hid (wr.heap[w.heap.size]? = some (.cells #[.slice a len cap, .int .i64 0, .int .u64 m, .int .i64 0] 119 (0, 0))) ∧ Below w.heap.size w wr) (fun i _ => 64 - (intOf i).toNat)
  case atStart => exact ⟨0, _, by omega, by omega, rfl, hide (heap_alloc_new w _), (Below.refl _ _).alloc (Nat.le_refl _) _⟩
  case round =>
    obtain ⟨k, m, hk, hkl, rfl, HB, hbel⟩ := hrel
    have c0 : wr.cell? ⟨w.heap.size, 0, none⟩ = some (.slice a len cap) := by rw [cell_of_row wr _ 0 _ _ (0, 0) (unhide HB)]; rfl
    have c2 : wr.cell? ⟨w.heap.size, 2, none⟩ = some (.int .u64 m) := by rw [cell_of_row wr _ 2 _ _ (0, 0) (unhide HB)]; rfl
    have c3 : wr.cell? ⟨w.heap.size, 3, none⟩ = some (.int .i64 0) := by rw [cell_of_row wr _ 3 _ _ (0, 0) (unhide HB)]; rfl
    have f2 : wr.frozen? ⟨w.heap.size, 2, none⟩ = false := Mem.row_frozen (unhide HB)
    have f3 : wr.frozen? ⟨w.heap.size, 3, none⟩ = false := Mem.row_frozen (unhide HB)
    by_cases hlt : k < len ∧ k < 64
    · obtain ⟨b, o, n, rfl, hbS, hn, hc⟩ := (unhide HR).2.2 k hlt.1
      have hc1 : wr.cell? ⟨b, o + k, none⟩ = some (.int .u8 (n : Int)) := (hbel.cell (p := ⟨b, o + k, none⟩) hbS).trans hc
      have t1 : (k : Int) < (len : Int) := by omega
      have t2 : (k : Int) < 64 := by omega
      have t3 : (0 : Int) ≤ (k : Int) := by omega
      clear hc hlt
      go_wp2
      go_region
      go_wp2
      go_roundw
      case rel =>
        refine ⟨k + 1, _, by omega, by omega, by go_num, hide (heap_setCell_same _ _ 2 _ _ _ (unhide HB)), ?_⟩
        exact hbel.trans ⟨rfl, rfl, rfl, by simp [World.setCell], fun j hj => Below.heap_setCell _ _ _ _ (by show j ≠ w.heap.size; omega)⟩
      case measure => simp [intOf]; omega
    · have HF : Hid (¬ (k < len ∧ k < 64)) := hlt
      by_cases h12 : 12 < len / 20
      · have t4 : (12 : Int) < (len : Int) / 20 := by omega
        have hlt1 : k < len := by omega
        have hlt2 : ¬ (k : Int) < 64 := by omega
        have hlt3 : (k : Int) < (len : Int) := by omega
        clear hlt
        go_wp2
        go_ret
        exact ⟨rfl, fin (unhide HR) hbel (Nat.zero_le _) (by omega) (by omega) (by rw [size_set, size_set]; exact Nat.le_refl _) (fun j hj => by rw [Below.heap_setCell _ _ _ _ (by show j ≠ w.heap.size; omega), Below.heap_setCell _ _ _ _ (by show j ≠ w.heap.size; omega)]) rfl rfl rfl (heap_setCell_same _ _ 3 _ _ _ (heap_setCell_same _ _ 3 _ _ _ (unhide HB))) rfl rfl⟩
      · have t4 : ¬ (12 : Int) < (len : Int) / 20 := by omega
        by_cases hlt1 : k < len
        · have hlt2 : ¬ (k : Int) < 64 := by omega
          have hlt3 : (k : Int) < (len : Int) := by omega
          clear hlt
          go_wp2
          go_ret
          exact ⟨rfl, fin (unhide HR) hbel (Nat.zero_le _) (by omega) (by omega) (by rw [size_set]; exact Nat.le_refl _) (fun j hj => by rw [Below.heap_setCell _ _ _ _ (by show j ≠ w.heap.size; omega)]) rfl rfl rfl (heap_setCell_same _ _ 3 _ _ _ (unhide HB)) rfl rfl⟩
        · have hlt3 : ¬ (k : Int) < (len : Int) := by omega
          clear hlt
          go_wp2
          go_ret
          exact ⟨rfl, fin (unhide HR) hbel (Nat.zero_le _) (by omega) (by omega) (by rw [size_set]; exact Nat.le_refl _) (fun j hj => by rw [Below.heap_setCell _ _ _ _ (by show j ≠ w.heap.size; omega)]) rfl rfl rfl (heap_setCell_same _ _ 3 _ _ _ (unhide HB)) rfl rfl⟩
end WSrc
end Go.Proofs.YtkfpfckmjgjanaaDoor

/- The walk of the draws' spoil: a text that is changed a little. -/
namespace Go.Proofs.YtkfpfckmjgjanaaDoor
open Go.RowKit
namespace WSrc
theorem src_drewN {W : World} {S len cap q : Nat} {a : Option Addr} (h : Src W S a len cap) : Src (W.drewN q) S a len cap := h
set_option linter.unusedSimpArgs false in
set_option maxRecDepth 100000 in
set_option maxHeartbeats 4000000 in
theorem spoil_any (S : Nat) (a : Option Addr) (len cap : Nat) (t : ByteArray) (w : World) (hs : Src w S a len cap) (ht : t.size ≤ 8000) :
    Calls Tryd.prog 52 #[.pointer (some ⟨S, 0, none⟩), .string t] w fun e w' => ∃ u : ByteArray, u.size ≤ 8001 ∧ e = .returned (.string u) ∧ Src w' S a len cap ∧ w.grownBy w' (some S) := by
  have hS := src_lt hs
  have h1 := hide (n_any S a len cap ((t.size : Int) + 1) w hs (by omega))
  clear hs
  go_enter Tryd.func52, Tryd.ntmps52
  go_wp2_with fail
  refine (unhide h1).mono ?_
  rintro e w1 ⟨r, rfl, r0, r1, s1, g1⟩
  obtain ⟨k, rfl⟩ : ∃ k : Nat, r = (k : Int) := ⟨r.toNat, by omega⟩
  have hk : k ≤ t.size := by omega
  clear h1 r0 r1
  go_wp2_with fail
  refine (n_any S a len cap 17 _ s1 (by omega)).mono ?_
  rintro e w2 ⟨r, rfl, r0, r1, s2, g2⟩
  obtain ⟨j, rfl⟩ : ∃ j : Nat, r = (j : Int) := ⟨r.toNat, by omega⟩
  have hj : j < 17 := by omega
  have hj2 : (j : Int) < 17 := by omega
  have g := g1.trans g2
  clear r0 r1 g1 g2 s1
  have hcv : ∀ b : UInt8, (convert 29 9 (.slice (some ⟨w2.heap.size, 0, none⟩) 1 1)).run Tryd.prog (w2.alloc (.cells #[.int .u8 (b.toNat : Int)] 5)) = .ok (.string ⟨#[b]⟩) (w2.alloc (.cells #[.int .u8 (b.toNat : Int)] 5)) := fun b =>
    Mem.row_text Tryd.underlying29 Tryd.underlying5 Tryd.underlying9 [b] rfl (heap_alloc_new w2 _) (by simp [Pl.byteVal])
  have kz : (0 : Int) ≤ (k : Int) := by omega
  have kt : (k : Int) ≤ (t.size : Int) := by omega
  by_cases hkt : k = t.size
  · have e1 : ((k : Int) == (t.size : Int)) = true := by rw [beq_iff_eq]; omega
    clear hkt
    have SA := src_alloc s2
    have GA := fun o => g.trans (World.grownBy_alloc w2 o (some S))
    clear s2 g
    go_wp2
    go_quiet (fail)
    go_wp2
    go_ret
    exact ⟨_, by simp only [ByteArray.size_append, ByteArray.size_extract]; have h1 : ∀ b : UInt8, (⟨#[b]⟩ : ByteArray).size = 1 := fun _ => rfl; (try simp only [h1]); omega, rfl, src_drewN (SA _), grown_drewN (GA _) _⟩
  · have e1 : ((k : Int) == (t.size : Int)) = false := by rw [beq_eq_false_iff_ne]; omega
    have k1 : (k : Int) + 1 ≤ (t.size : Int) := by omega
    have k2 : (0 : Int) ≤ (k : Int) + 1 := by omega
    clear hkt
    have SA := src_alloc s2
    have GA := fun o => g.trans (World.grownBy_alloc w2 o (some S))
    clear s2 g
    go_wp2_with fail
    refine (one_any S a len cap 3 _ (SA _) (by omega)).mono ?_
    rintro e w3 ⟨r3, rfl, s3, g3⟩
    have G3 := (GA _).trans g3
    clear SA GA g3
    cases r3
    · go_wp2_with fail
      refine (one_any S a len cap 2 _ s3 (by omega)).mono ?_
      rintro e w4 ⟨r4, rfl, s4, g4⟩
      have G4 := G3.trans g4
      clear s3 g4 G3
      cases r4
      · go_wp2
        go_quiet (fail)
        go_wp2
        go_ret
        exact ⟨_, by simp only [ByteArray.size_append, ByteArray.size_extract]; have h1 : ∀ b : UInt8, (⟨#[b]⟩ : ByteArray).size = 1 := fun _ => rfl; (try simp only [h1]); omega, rfl, src_drewN s4, grown_drewN G4 _⟩
      · go_wp2
        go_quiet (fail)
        go_wp2
        go_ret
        exact ⟨_, by simp only [ByteArray.size_append, ByteArray.size_extract]; have h1 : ∀ b : UInt8, (⟨#[b]⟩ : ByteArray).size = 1 := fun _ => rfl; (try simp only [h1]); omega, rfl, src_drewN s4, grown_drewN G4 _⟩
    · go_wp2
      go_quiet (fail)
      go_wp2
      go_ret
      exact ⟨_, by simp only [ByteArray.size_append, ByteArray.size_extract]; have h1 : ∀ b : UInt8, (⟨#[b]⟩ : ByteArray).size = 1 := fun _ => rfl; (try simp only [h1]); omega, rfl, src_drewN s3, grown_drewN G3 _⟩
end WSrc
end Go.Proofs.YtkfpfckmjgjanaaDoor

/- The walk of the draw DrawTreeRead: the bytes of a tree, changed a little, as a rule. -/
namespace Go.Proofs.YtkfpfckmjgjanaaDoor
open Go.RowKit
namespace Pl
theorem bytes_size (L : List Nd) : (treeBytes L).size ≤ 8000 := by
  unfold treeBytes
  split
  · split
    · exact Nat.zero_le _
    · omega
  · exact Nat.zero_le _
end Pl
namespace WSrc
theorem on_r {w w1 w2 : World} (hb : Below w.heap.size w w1) (hg : w1.grownBy w2 (some w.heap.size)) : Below w.heap.size w w2 :=
  hb.grown hg hb.size (fun k e => by cases e; exact Nat.le_refl _)
set_option linter.unusedSimpArgs false in
set_option maxRecDepth 100000 in
set_option maxHeartbeats 2000000 in
theorem drawRead_any (a : Option Addr) (len cap : Nat) (w : World) (hr : RowB w w.heap.size a len cap) :
    Calls Tryd.prog 16 #[.slice a len cap] w fun e w' => ∃ u : ByteArray, u.size ≤ 8001 ∧ e = .returned (.string u) ∧ Below w.heap.size w w' := by
  have h0 := hide (source_any a len cap w hr)
  clear hr
  go_enter Tryd.func16, Tryd.ntmps16
  go_wp2_with fail
  refine (unhide h0).mono ?_
  rintro e w1 ⟨rfl, hs, b1⟩
  clear h0
  go_wp2_with fail
  refine (tree_any w.heap.size a len cap _ hs).mono ?_
  rintro e w2 ⟨va, vc, L, hl, hsm, rfl, tv, s2, g2⟩
  have b2 := on_r b1 g2
  have hB := hide (WBytesT.spec_any va vc L w2 (by omega) tv.1 (Pl.small_ok hsm))
  have hT := Pl.bytes_size L
  generalize Pl.treeBytes L = T at hB hT
  clear hs g2 b1 tv hsm
  go_wp2_with fail
  refine (unhide hB).mono ?_
  rintro e w3 ⟨rfl, b3⟩
  have s3 := src_below s2 b3
  have b4 := b2.trans (b3.mono b2.size)
  clear hB s2 b2 b3
  go_wp2_with fail
  refine (n_any w.heap.size a len cap 4 _ s3 (by omega)).mono ?_
  rintro e w4 ⟨r, rfl, r0, r1, s4, g4⟩
  have b5 := on_r b4 g4
  clear s3 g4 b4
  have hr : r = 0 ∨ r = 1 ∨ (¬ r = 0 ∧ ¬ r = 1) := by omega
  clear r0 r1
  rcases hr with rfl | rfl | ⟨q0, q1⟩
  · go_wp2_with fail
    refine (spoil_any w.heap.size a len cap T _ s4 hT).mono ?_
    rintro e w5 ⟨u, hu, rfl, s5, g5⟩
    go_wp2
    go_ret
    exact ⟨u, hu, rfl, on_r b5 g5⟩
  · have h1 := hide (n_any w.heap.size a len cap ((T.size : Int) + 1) w4 s4 (by omega))
    go_wp2_with fail
    refine (unhide h1).mono ?_
    rintro e w5 ⟨r, rfl, r0, r1, s5, g5⟩
    obtain ⟨k, rfl⟩ : ∃ k : Nat, r = (k : Int) := ⟨r.toNat, by omega⟩
    have kz : (0 : Int) ≤ (k : Int) := by omega
    have kt : (k : Int) ≤ (T.size : Int) := by omega
    clear h1
    go_wp2
    go_ret
    exact ⟨_, by simp only [ByteArray.size_extract]; omega, rfl, on_r b5 g5⟩
  · have p0 : (r == 0) = false := by simpa using q0
    have p1 : (r == 1) = false := by simpa using q1
    go_wp2
    go_ret
    exact ⟨T, by omega, rfl, b5⟩
end WSrc
end Go.Proofs.YtkfpfckmjgjanaaDoor

/- The walk of the draw DrawTreeBytes. -/
namespace Go.Proofs.YtkfpfckmjgjanaaDoor
open Go.RowKit
namespace WSrc
theorem row_upB {w W : World} {S len cap : Nat} {a : Option Addr} (h : RowB w w.heap.size a len cap) (b : Below w.heap.size w W) (hS : w.heap.size ≤ S) : RowB W S a len cap :=
  ⟨h.1, h.2.1, fun i hi => by
    obtain ⟨g, o, n, h1, h2, h3, h4⟩ := h.2.2 i hi
    exact ⟨g, o, n, h1, Nat.lt_of_lt_of_le h2 hS, h3, (b.cell (p := ⟨g, o + i, none⟩) h2).trans h4⟩⟩
set_option linter.unusedSimpArgs false in
set_option maxRecDepth 100000 in
set_option maxHeartbeats 2000000 in
theorem drawBytes_any (a : Option Addr) (len cap : Nat) (w : World) (hr : RowB w w.heap.size a len cap) :
    Calls Tryd.prog 14 #[.slice a len cap] w fun e w' => ∃ (va : Option Addr) (vc : Nat) (L : List Pl.Nd), L.length ≤ 64 ∧ Pl.smallL L ∧ e = .returned (.agg #[.slice va L.length vc]) ∧ TreeV w' w.heap.size va vc L ∧ Below w.heap.size w w' := by
  have b0 : Below w.heap.size w (w.alloc (.cells #[.slice none 0 0] 32)) := (Below.refl _ _).alloc (Nat.le_refl _) _
  have hz0 : (w.alloc (.cells #[.slice none 0 0] 32)).heap.size = w.heap.size + 1 := by simp
  have h0 := hide (source_any a len cap (w.alloc (.cells #[.slice none 0 0] 32)) (row_upB hr b0 (by omega)))
  have BA := Mem.Blk.new w #[.slice none 0 0] 32
  rw [hz0] at h0
  clear hr
  go_enter Tryd.func14, Tryd.ntmps14
  go_wp2_with fail
  generalize w.alloc (.cells #[.slice none 0 0] 32) = w0 at h0 b0 BA hz0 ⊢
  refine (unhide h0).mono ?_
  rintro e w1 ⟨rfl, hs, b1⟩
  have BA := BA.below b1 (by omega)
  have b1 := b0.trans (b1.mono (by omega))
  clear h0 b0
  go_wp2_with fail
  refine (tree_any (w.heap.size + 1) a len cap _ hs).mono ?_
  rintro e w2 ⟨va, vc, L, hl, hsm, rfl, tv, s2, g2⟩
  have HSM := hide hsm
  have hlt := src_lt hs
  have BA := BA.grown g2 (by simp)
  have b2 := b1.grown g2 b1.size (fun q hq => by cases hq; omega)
  have TV := hide ((tv.mono (show w.heap.size + 1 ≤ w1.heap.size by omega)).set w.heap.size 0 (.slice va L.length vc) (by omega))
  have BB := BA.put 0 (.slice va L.length vc)
  have k0 := BA.cell 0
  have kf := BA.fr 0
  have q := BB.cell
  simp only [kA0, kA1, kA2] at k0
  clear hs s2 g2 tv hsm b1
  go_wp2
  refine bodyPost_ret (v := .agg #[.slice va L.length vc]) (by simp [results, Tryd.results14, go_sem, q]) rfl ?_
  exact ⟨va, vc, L, hl, unhide HSM, rfl, (unhide TV).mono (by omega), b2.setCell (Nat.le_refl _) _⟩
end WSrc
end Go.Proofs.YtkfpfckmjgjanaaDoor

/- The walk of the specification's l03Copy: a tree's nodes in a row of its own. -/
namespace Go.Proofs.YtkfpfckmjgjanaaDoor
open Go.RowKit
namespace WCopyT
set_option linter.unusedSimpArgs false in
set_option maxRecDepth 100000 in
set_option maxHeartbeats 1000000 in
theorem copy_any (a : Option Addr) (cap : Nat) (L : List Pl.Nd) (w : World) (hl : L.length ≤ 1000) (hA : WPutG.okA w a cap L) (hv : Mem.isNodes w a L) :
    Calls Tryd.prog 56 #[.agg #[.slice a L.length cap]] w fun e w' => ∃ v, e = .returned (.agg #[v]) ∧ Mem.ownN w' w.heap.size v L ∧ Below w.heap.size w w' := by
  obtain ⟨i0, hi, hz0, hz1, hz2⟩ := info_parts WPutT.infoN
  have b2 : Below w.heap.size w (((w.alloc (.cells #[.slice a L.length cap] 32)).alloc (.cells #[.slice none 0 0] 32)).alloc (.cells #[] 78)) := (((Below.refl _ _).alloc (Nat.le_refl _) _).alloc (by simp) _).alloc (by simp; omega) _
  have B0 := ((Mem.Blk.new w #[.slice a L.length cap] 32).alloc (.cells #[.slice none 0 0] 32)).alloc (.cells #[] 78)
  have B1 : Mem.Blk (((w.alloc (.cells #[.slice a L.length cap] 32)).alloc (.cells #[.slice none 0 0] 32)).alloc (.cells #[] 78)) (w.heap.size + 1) #[.slice none 0 0] 32 := (show Mem.Blk ((w.alloc (.cells #[.slice a L.length cap] 32)).alloc (.cells #[.slice none 0 0] 32)) (w.heap.size + 1) #[.slice none 0 0] 32 from Mem.new_two _ _ _).alloc _
  have OA : Hid (Mem.ownN (((w.alloc (.cells #[.slice a L.length cap] 32)).alloc (.cells #[.slice none 0 0] 32)).alloc (.cells #[] 78)) (w.heap.size + 2) (.slice (some ⟨w.heap.size + 2, 0, none⟩) 0 0) []) := by
    refine ⟨rfl, .inr ⟨w.heap.size + 2, 0, #[], rfl, Nat.le_refl _, ?_, Nat.le_refl _, Nat.zero_le _, rfl, rfl⟩⟩
    have h := heap_alloc_new ((w.alloc (.cells #[.slice a L.length cap] 32)).alloc (.cells #[.slice none 0 0] 32)) (.cells #[] 78)
    rw [show ((w.alloc (.cells #[.slice a L.length cap] 32)).alloc (.cells #[.slice none 0 0] 32)).heap.size = w.heap.size + 2 by simp] at h
    exact h
  have NV := hide (Mem.nodes_call hv b2)
  have x0 := B0.cell 0
  simp only [kA0, kA1] at x0
  clear hv
  rcases hA with ⟨rfl, rfl, rfl⟩ | ⟨g, o, rfl, hg, hc⟩
  · simp only [List.length_nil] at OA B1 b2 x0 ⊢
    have z0 := B1.cell 0
    have zf := B1.fr 0
    simp only [kA0, kA1] at z0
    have BB := (B1.put 0 (.slice (some ⟨w.heap.size + 2, 0, none⟩) 0 0)).cell 0
    go_enter Tryd.func56, Tryd.ntmps56
    go_wp2_with (at_builtin; refine wpList_append_own_none rfl _ _ 30 rfl (w.heap.size + 2) 78 i0 5 Tryd.underlying30 hi _ _ _ rfl (unhide OA) rfl ?_)
    refine bodyPost_ret (v := .agg #[.slice (some ⟨w.heap.size + 1 + 1, 0, none⟩) 0 0]) (by simp [results, Tryd.results56, go_sem, z0]) rfl ⟨_, rfl, ?_, ?_⟩
    · refine ⟨rfl, .inr ⟨w.heap.size + 1 + 1, 0, #[], rfl, by omega, ?_, Nat.le_refl _, Nat.zero_le _, rfl, rfl⟩⟩
      have h := heap_alloc_new ((w.alloc (.cells #[.slice none 0 0] 32)).alloc (.cells #[.slice (some ⟨w.heap.size + 1 + 1, 0, none⟩) 0 0] 32)) (.cells #[] 78)
      rw [show ((w.alloc (.cells #[.slice none 0 0] 32)).alloc (.cells #[.slice (some ⟨w.heap.size + 1 + 1, 0, none⟩) 0 0] 32)).heap.size = w.heap.size + 1 + 1 by simp] at h
      exact h
    · exact (((Below.refl _ _).alloc (Nat.le_refl _) _).alloc (by simp) _).alloc (by simp; omega) _
  · go_enter Tryd.func56, Tryd.ntmps56
    go_wp2_with (at_builtin; refine wpList_append_own _ rfl _ _ 30 rfl (w.heap.size + 2) 78 i0 _ 5 56 Tryd.underlying30 hi hz0 hz1 hz2 rfl (by decide) _ _ _ rfl (unhide OA) ⟨g, o, none⟩ L.length cap (Pl.cellsN L) rfl (by rw [Pl.cellsN_len]) (WPutT.cells_at (unhide NV)) (WPutT.cells_one _) (by rw [List.length_nil, Nat.zero_add]; unfold maxLen; omega) (by rw [List.length_nil, Nat.zero_add]; omega) (by simp) ?_)
    intro v1 wA ownA growA _
    have OB := hide (WPutT.ownN_app (A := []) (M := L) (m := L.length) (by rw [List.length_nil, Nat.zero_add]; exact ownA) rfl)
    rw [List.nil_append] at OB
    have hg1 : ∀ q, (Value.slice (some ⟨w.heap.size + 2, 0, none⟩) 0 0).ownBlock = some q → q = w.heap.size + 2 := fun q hq => (Option.some.inj hq).symm
    have B1 := B1.grown growA (fun e => by have := hg1 _ e.symm; omega)
    have b3 := b2.grown growA b2.size (fun q hq => by have := hg1 q hq; omega)
    obtain ⟨a3, c3, hv3⟩ := Mem.own_shape (unhide OB)
    subst hv3
    have z0 := B1.cell 0
    have zf := B1.fr 0
    simp only [kA0, kA1] at z0
    clear ownA growA hg1 OA NV x0 B0 b2
    go_wp2
    refine bodyPost_ret (v := .agg #[.slice a3 L.length c3]) (by simp [results, Tryd.results56, go_sem, z0]) rfl ⟨_, rfl, ?_, ?_⟩
    · exact Mem.ownN_mono (Mem.ownN_set (unhide OB) _ _ (by show w.heap.size + 1 < w.heap.size + 2; omega)) (by omega)
    · exact b3.setCell (by show w.heap.size ≤ w.heap.size + 1; omega) _
end WCopyT
end Go.Proofs.YtkfpfckmjgjanaaDoor

