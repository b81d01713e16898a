/- Several texts of one claim in one file: WSource, WDraw. -/
import Derived.Test.YteddcihodfkliaaGreatDoorWSrc
import Derived.Test.YteddcihodfkliaaGreatDoorPartB
/- The walk of the draws' beginning: a source out of bytes. -/
namespace Go.Proofs.YteddcihodfkliaaGreatDoor
open Go.RowKit
namespace WSrc
theorem fin {w wr w1 : World} {len cap p : Nat} {a : Option Addr} {v : Value} {m sz : Int} {C : Array Value} (hr : RowB w w.heap.size a len cap) (hbel : Below w.heap.size w wr) (hp : p ≤ len) (hz0 : 0 ≤ sz) (hz1 : sz ≤ 12)
    (hsz : wr.heap.size ≤ w1.heap.size) (hk : ∀ j, j < w.heap.size → w1.heap[j]? = wr.heap[j]?) (e1 : w1.os = wr.os) (e2 : w1.tape = wr.tape) (e3 : w1.output = wr.output)
    (hb : w1.heap[w.heap.size]? = some (.cells C 122 (0, 0))) (hC : C = #[.slice a len cap, .int .i64 (p : Int), v, .int .i64 sz]) (hv : v = .int .u64 m) : Src w1 w.heap.size a len cap ∧ Below w.heap.size w w1 := by
  have hbel2 : Below w.heap.size w w1 := hbel.trans ⟨e1, e2, e3, hsz, hk⟩
  refine ⟨⟨⟨hr.1, hr.2.1, fun i hi => ?_⟩, p, m, sz, by rw [hb, hC, hv], hp, hz0, hz1⟩, hbel2⟩
  obtain ⟨b, o, n, h1, h2, h3, h4⟩ := hr.2.2 i hi
  exact ⟨b, o, n, h1, h2, h3, (hbel2.cell (p := ⟨b, o + i, none⟩) h2).trans h4⟩
set_option maxRecDepth 100000 in
theorem source_any (a : Option Addr) (len cap : Nat) (w : World) (hr : RowB w w.heap.size a len cap) :
    Calls Tryz.prog 36 #[.slice a len cap] w fun e w' => e = .returned (.pointer (some ⟨w.heap.size, 0, none⟩)) ∧ Src w' w.heap.size a len cap ∧ Below w.heap.size w w' := by
  have hl : (len : Int) ≤ 9223372036854775807 := by have h1 := hr.2.1; have h2 := hr.1; unfold maxLen at h1; omega
  have HR := hide hr
  clear hr
  go_enter Tryz.func36, Tryz.ntmps36
  go_wp2
  go_loopw [4] (fun i wr => ∃ (k : Nat) (m : Int), k ≤ 64 ∧ k ≤ len ∧ i = .int .i64 (k : Int) ∧ Hid (wr.heap[w.heap.size]? = some (.cells #[.slice a len cap, .int .i64 0, .int .u64 m, .int .i64 0] 122 (0, 0))) ∧ Below w.heap.size w wr) (fun i _ => 64 - (intOf i).toNat)
  case atStart => exact ⟨0, _, by omega, by omega, rfl, hide (heap_alloc_new w _), (Below.refl _ _).alloc (Nat.le_refl _) _⟩
  case round =>
    obtain ⟨k, m, hk, hkl, rfl, HB, hbel⟩ := hrel
    have c0 : wr.cell? ⟨w.heap.size, 0, none⟩ = some (.slice a len cap) := by rw [cell_of_row wr _ 0 _ _ (0, 0) (unhide HB)]; rfl
    have c2 : wr.cell? ⟨w.heap.size, 2, none⟩ = some (.int .u64 m) := by rw [cell_of_row wr _ 2 _ _ (0, 0) (unhide HB)]; rfl
    have c3 : wr.cell? ⟨w.heap.size, 3, none⟩ = some (.int .i64 0) := by rw [cell_of_row wr _ 3 _ _ (0, 0) (unhide HB)]; rfl
    have f2 : wr.frozen? ⟨w.heap.size, 2, none⟩ = false := Mem.row_frozen (unhide HB)
    have f3 : wr.frozen? ⟨w.heap.size, 3, none⟩ = false := Mem.row_frozen (unhide HB)
    by_cases hlt : k < len ∧ k < 64
    · obtain ⟨b, o, n, rfl, hbS, hn, hc⟩ := (unhide HR).2.2 k hlt.1
      have hc1 : wr.cell? ⟨b, o + k, none⟩ = some (.int .u8 (n : Int)) := (hbel.cell (p := ⟨b, o + k, none⟩) hbS).trans hc
      have t1 : (k : Int) < (len : Int) := by omega
      have t2 : (k : Int) < 64 := by omega
      have t3 : (0 : Int) ≤ (k : Int) := by omega
      clear hc hlt
      go_wp2
      go_region
      go_wp2
      go_roundw
      case rel =>
        refine ⟨k + 1, _, by omega, by omega, by go_num, hide (heap_setCell_same _ _ 2 _ _ _ (unhide HB)), ?_⟩
        exact hbel.trans ⟨rfl, rfl, rfl, by simp [World.setCell], fun j hj => Below.heap_setCell _ _ _ _ (by show j ≠ w.heap.size; omega)⟩
      case measure => simp [intOf]; omega
    · have HF : Hid (¬ (k < len ∧ k < 64)) := hlt
      by_cases h12 : 12 < len / 20
      · have t4 : (12 : Int) < (len : Int) / 20 := by omega
        have hlt1 : k < len := by omega
        have hlt2 : ¬ (k : Int) < 64 := by omega
        have hlt3 : (k : Int) < (len : Int) := by omega
        clear hlt
        go_wp2
        go_ret
        exact ⟨rfl, fin (unhide HR) hbel (Nat.zero_le _) (by omega) (by omega) (by rw [size_set, size_set]; exact Nat.le_refl _) (fun j hj => by rw [Below.heap_setCell _ _ _ _ (by show j ≠ w.heap.size; omega), Below.heap_setCell _ _ _ _ (by show j ≠ w.heap.size; omega)]) rfl rfl rfl (heap_setCell_same _ _ 3 _ _ _ (heap_setCell_same _ _ 3 _ _ _ (unhide HB))) rfl rfl⟩
      · have t4 : ¬ (12 : Int) < (len : Int) / 20 := by omega
        by_cases hlt1 : k < len
        · have hlt2 : ¬ (k : Int) < 64 := by omega
          have hlt3 : (k : Int) < (len : Int) := by omega
          clear hlt
          go_wp2
          go_ret
          exact ⟨rfl, fin (unhide HR) hbel (Nat.zero_le _) (by omega) (by omega) (by rw [size_set]; exact Nat.le_refl _) (fun j hj => by rw [Below.heap_setCell _ _ _ _ (by show j ≠ w.heap.size; omega)]) rfl rfl rfl (heap_setCell_same _ _ 3 _ _ _ (unhide HB)) rfl rfl⟩
        · have hlt3 : ¬ (k : Int) < (len : Int) := by omega
          clear hlt
          go_wp2
          go_ret
          exact ⟨rfl, fin (unhide HR) hbel (Nat.zero_le _) (by omega) (by omega) (by rw [size_set]; exact Nat.le_refl _) (fun j hj => by rw [Below.heap_setCell _ _ _ _ (by show j ≠ w.heap.size; omega)]) rfl rfl rfl (heap_setCell_same _ _ 3 _ _ _ (unhide HB)) rfl rfl⟩
end WSrc
end Go.Proofs.YteddcihodfkliaaGreatDoor

/- The walks of the draws: one of some texts, names and paths. -/
namespace Go.Proofs.YteddcihodfkliaaGreatDoor
open Go.RowKit
namespace WSrc
theorem src_grown {w w' : World} {S len cap : Nat} {a : Option Addr} (h : Src w S a len cap) (hg : w.grownBy w' none) : Src w' S a len cap := by
  obtain ⟨hr, p, m, sz, hb, hp, h0, h1⟩ := h
  have hS : S < w.heap.size := (Array.getElem?_eq_some_iff.1 hb).1
  refine ⟨⟨hr.1, hr.2.1, fun i hi => ?_⟩, p, m, sz, (hg.block S hS (by simp)).trans hb, hp, h0, h1⟩
  obtain ⟨b, o, n, e1, e2, e3, e4⟩ := hr.2.2 i hi
  exact ⟨b, o, n, e1, e2, e3, (cell_heap (hg.block b (by omega) (by simp))).trans e4⟩
theorem src_lt {w : World} {S len cap : Nat} {a : Option Addr} (h : Src w S a len cap) : S < w.heap.size := by
  obtain ⟨hr, p, m, sz, hb, _⟩ := h
  exact (Array.getElem?_eq_some_iff.1 hb).1
theorem src_below {w w' : World} {S len cap : Nat} {a : Option Addr} (h : Src w S a len cap) (hb : Below w.heap.size w w') : Src w' S a len cap :=
  src_grown h ⟨hb.os, hb.tape, hb.output, hb.size, fun k hk _ => hb.block k hk⟩
theorem below_grown {w w' : World} (hb : Below w.heap.size w w') (r : Option Nat) : w.grownBy w' r := ⟨hb.os, hb.tape, hb.output, hb.size, fun k hk _ => hb.block k hk⟩
set_option maxRecDepth 100000 in
theorem one_any (S : Nat) (a : Option Addr) (len cap : Nat) (most : Int) (w : World) (hs : Src w S a len cap) (hm : most ≤ 1048576) :
    Calls Tryz.prog 54 #[.pointer (some ⟨S, 0, none⟩), .int .i64 most] w fun e w' => ∃ r : Bool, e = .returned (.bool r) ∧ Src w' S a len cap ∧ w.grownBy w' (some S) := by
  have hn := hide (n_any S a len cap most w hs hm)
  clear hs
  go_enter Tryz.func54, Tryz.ntmps54
  go_wp2_with fail
  refine (unhide hn).mono ?_
  rintro e w1 ⟨r, rfl, -, -, h1, h2⟩
  go_wp2
  go_ret
  exact ⟨_, rfl, h1, h2⟩
set_option maxRecDepth 100000 in
theorem pick_any (S g cp : Nat) (ts : List ByteArray) (a : Option Addr) (len cap : Nat) (w : World) (hs : Src w S a len cap) (h0 : 0 < ts.length) (hl : ts.length ≤ 1000) (hg : g ≠ S)
    (hc : ∀ (k : Nat) t, ts[k]? = some t → w.cell? ⟨g, k, none⟩ = some (.string t)) :
    Calls Tryz.prog 121 #[.pointer (some ⟨S, 0, none⟩), .slice (some ⟨g, 0, none⟩) ts.length cp] w fun e w' => ∃ t, t ∈ ts ∧ e = .returned (.string t) ∧ Src w' S a len cap ∧ w.grownBy w' (some S) := by
  have hn := hide (n_any S a len cap ts.length w hs (by omega))
  have HC := hide hc
  clear hs hc
  go_enter Tryz.func121, Tryz.ntmps121
  go_wp2_with fail
  refine (unhide hn).mono ?_
  rintro e w1 ⟨r, rfl, hr0, hr1, h1, h2⟩
  obtain ⟨k, rfl⟩ : ∃ k : Nat, r = (k : Int) := ⟨r.toNat, by omega⟩
  have hk : k < ts.length := by omega
  have hk2 : (k : Int) < (ts.length : Int) := by omega
  obtain ⟨t, ht⟩ : ∃ t, ts[k]? = some t := ⟨_, List.getElem?_eq_getElem hk⟩
  have hcell : w1.cell? ⟨g, k, none⟩ = some (.string t) := h2.cell (HC.out k t ht) (by simpa using hg)
  have HM := hide (List.mem_of_getElem? ht)
  clear ht hn hr1
  go_wp2
  go_ret
  exact ⟨t, unhide HM, rfl, h1, h2⟩
/-- The cells of a written list of texts. -/
theorem lit_cells (w : World) (ts : List ByteArray) (e : TypeId) : ∀ (k : Nat) t, ts[k]? = some t → (w.alloc (.cells (ts.map Value.string).toArray e)).cell? ⟨w.heap.size, k, none⟩ = some (.string t) := by
  intro k t ht
  rw [cell_of_row _ w.heap.size k _ e (0, 0) (heap_alloc_new w _)]
  simp [ht]
theorem src_alloc {w : World} {S len cap : Nat} {a : Option Addr} (h : Src w S a len cap) (o : Obj) : Src (w.alloc o) S a len cap := src_grown h (World.grownBy_alloc w o none)
set_option maxRecDepth 100000 in
theorem name_any (S : Nat) (a : Option Addr) (len cap : Nat) (w : World) (hs : Src w S a len cap) :
    Calls Tryz.prog 120 #[.pointer (some ⟨S, 0, none⟩)] w fun e w' => ∃ t, t.size ≤ 2 ∧ e = .returned (.string t) ∧ Src w' S a len cap ∧ w.grownBy w' (some S) := by
  have hS := src_lt hs
  have hp := hide (fun ts h0 h1 => pick_any S w.heap.size ts.length ts a len cap (w.alloc (.cells (ts.map Value.string).toArray 9)) (src_alloc hs _) h0 h1 (by omega) (lit_cells w ts _))
  clear hs
  go_enter Tryz.func120, Tryz.ntmps120
  go_wp2_with fail
  refine (unhide hp [⟨#[97]⟩, ⟨#[98]⟩, ⟨#[99]⟩, ⟨#[97, 97]⟩] (by simp) (by simp)).mono ?_
  rintro e w1 ⟨t, hm, rfl, h1, h2⟩
  have hz : t.size ≤ 2 := by
    simp only [List.mem_cons, List.not_mem_nil, or_false] at hm
    rcases hm with rfl | rfl | rfl | rfl <;> decide
  clear hm hp
  go_wp2
  go_ret
  exact ⟨t, hz, rfl, h1, (World.grownBy_alloc w _ _).trans h2⟩
theorem joinN_size (p n : ByteArray) : (Pl.joinN p n).size ≤ p.size + n.size + 1 := by
  by_cases h : Pl.by_ p = []
  · rw [Pl.joinN_root h]; omega
  · have := congrArg List.length (Pl.joinN_two (n := n) h)
    rw [List.length_append, List.length_cons, Pl.by_length, Pl.by_length, Pl.by_length] at this
    omega
set_option maxRecDepth 100000 in
theorem path_any (S : Nat) (a : Option Addr) (len cap : Nat) (w : World) (hs : Src w S a len cap) :
    Calls Tryz.prog 91 #[.pointer (some ⟨S, 0, none⟩)] w fun e w' => ∃ t, t.size ≤ 20 ∧ e = .returned (.string t) ∧ Src w' S a len cap ∧ w.grownBy w' (some S) := by
  have hn := hide (n_any S a len cap 4 w hs (by omega))
  clear hs
  go_enter Tryz.func91, Tryz.ntmps91
  go_wp2_with fail
  refine (unhide hn).mono ?_
  rintro e w1 ⟨r, rfl, hr0, hr1, h1, h2⟩
  clear hn
  go_wp2
  go_loopw [3, 4] (fun t i wr => ∃ (k : Nat) (t0 : ByteArray), k ≤ 3 ∧ i = .int .i64 (k : Int) ∧ t = .string t0 ∧ t0.size + 3 * k ≤ 9 ∧ Src wr S a len cap ∧ w.grownBy wr (some S)) (fun _ i _ => (intOf i).toNat)
  case atStart => exact ⟨r.toNat, ⟨#[]⟩, by omega, by congr 1; omega, rfl, by show 0 + 3 * r.toNat ≤ 9; omega, h1, h2⟩
  case round =>
    obtain ⟨k, t0, hk, rfl, rfl, hz, hs, hg⟩ := hrel
    by_cases h0 : 0 < k
    · have hk1 : (0 : Int) < (k : Int) := by omega
      go_wp2_with fail
      refine (name_any S a len cap _ hs).mono ?_
      rintro e w2 ⟨t, ht, rfl, h3, h4⟩
      go_wp2_with fail
      refine (WPathS.join1_any t0 t _ (by omega) (by omega)).mono ?_
      rintro e w3 ⟨rfl, rfl⟩
      have hj := joinN_size t0 t
      generalize Pl.joinN t0 t = t1 at hj
      have hg2 := hg.trans h4
      clear hs hg h4
      go_wp2
      go_roundw
      case rel => exact ⟨k - 1, t1, by omega, by congr 1; omega, rfl, by omega, h3, hg2⟩
      case measure => simp [intOf]; omega
    · obtain rfl : k = 0 := by omega
      go_wp2_with fail
      refine (one_any S a len cap 20 _ hs (by omega)).mono ?_
      rintro e w2 ⟨b, rfl, h3, h4⟩
      have hg2 := hg.trans h4
      clear hs hg h4
      cases b
      · go_wp2
        go_ret
        exact ⟨t0, by omega, rfl, h3, hg2⟩
      · have hS := src_lt h3
        have hp := hide (fun ts h0 h1 => pick_any S w2.heap.size ts.length ts a len cap (w2.alloc (.cells (ts.map Value.string).toArray 9)) (src_alloc h3 _) h0 h1 (by omega) (lit_cells w2 ts _))
        go_wp2_with fail
        refine (unhide hp [⟨#[47]⟩, ⟨#[97, 47]⟩, ⟨#[47, 97]⟩, ⟨#[65]⟩, ⟨#[97, 47, 47, 98]⟩, ⟨#[97, 47, 98, 47, 99, 47, 97, 47, 98, 47, 99]⟩, ⟨#[97, 47, 98, 47, 99, 47, 97, 47, 98, 47, 99, 47, 97]⟩] (by simp) (by simp)).mono ?_
        rintro e w3 ⟨t, hm, rfl, h5, h6⟩
        have hz2 : t.size ≤ 20 := by
          simp only [List.mem_cons, List.not_mem_nil, or_false] at hm
          rcases hm with rfl | rfl | rfl | rfl | rfl | rfl | rfl <;> decide
        have hg3 := hg2.trans ((World.grownBy_alloc w2 _ _).trans h6)
        clear hm hp h6 hg2
        go_wp2
        go_ret
        exact ⟨t, hz2, rfl, h5, hg3⟩
end WSrc
end Go.Proofs.YteddcihodfkliaaGreatDoor

