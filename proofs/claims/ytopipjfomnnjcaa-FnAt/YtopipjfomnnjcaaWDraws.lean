/- The walks of the draws of chapter 3: two texts of at most 100 bytes; what was there stays. -/
import Derived.Test.YtopipjfomnnjcaaWDraw
import Derived.Test.YtopipjfomnnjcaaWSource
import Derived.Test.YtopipjfomnnjcaaWSpecA
namespace Go.Proofs.Ytopipjfomnnjcaa
open Go.RowKit
namespace WSrc
theorem on {w w1 w2 : World} (hb : Below w.heap.size w w1) (hg : w1.grownBy w2 (some w.heap.size)) : Below w.heap.size w w2 :=
  hb.grown hg hb.size (fun k e => by cases e; exact Nat.le_refl _)
set_option maxRecDepth 100000 in
theorem drawNames_any (a : Option Addr) (len cap : Nat) (w : World) (hr : RowB w w.heap.size a len cap) :
    Calls Try.prog 20 #[.slice a len cap] w fun e w' => ∃ t : ByteArray, t.size ≤ 100 ∧ e = .returned (.string t) ∧ Below w.heap.size w w' := by
  have h0 := hide (source_any a len cap w hr)
  clear hr
  go_enter Try.func20, Try.ntmps20
  go_wp2_with fail
  refine (unhide h0).mono ?_
  rintro e w1 ⟨rfl, hs, b1⟩
  go_wp2_with fail
  refine (path_any _ a len cap _ hs).mono ?_
  rintro e w2 ⟨t, ht, rfl, h1, h2⟩
  have b2 := on b1 h2
  clear h0 hs b1 h2
  go_wp2
  go_ret
  exact ⟨t, by omega, rfl, b2⟩
set_option maxRecDepth 100000 in
theorem drawLess_any (a : Option Addr) (len cap : Nat) (w : World) (hr : RowB w w.heap.size a len cap) :
    Calls Try.prog 18 #[.slice a len cap] w fun e w' => ∃ p t : ByteArray, p.size ≤ 100 ∧ t.size ≤ 100 ∧ e = .returned (.tuple #[.string p, .string t]) ∧ Below w.heap.size w w' := by
  have h0 := hide (source_any a len cap w hr)
  clear hr
  go_enter Try.func18, Try.ntmps18
  go_wp2_with fail
  refine (unhide h0).mono ?_
  rintro e w1 ⟨rfl, hs, b1⟩
  go_wp2_with fail
  refine (path_any _ a len cap _ hs).mono ?_
  rintro e w2 ⟨p, hp, rfl, h1, h2⟩
  have b2 := on b1 h2
  clear h0 hs b1 h2
  go_wp2_with fail
  refine (path_any _ a len cap _ h1).mono ?_
  rintro e w3 ⟨t, ht, rfl, h3, h4⟩
  have b3 := on b2 h4
  clear h1 b2 h4
  go_wp2
  go_ret2
  exact ⟨p, t, by omega, by omega, rfl, b3⟩
set_option maxRecDepth 100000 in
theorem drawBoth_any (a : Option Addr) (len cap : Nat) (w : World) (hr : RowB w w.heap.size a len cap) :
    Calls Try.prog 37 #[.slice a len cap] w fun e w' => ∃ p t : ByteArray, p.size ≤ 100 ∧ t.size ≤ 100 ∧ e = .returned (.tuple #[.string p, .string t]) ∧ Below w.heap.size w w' := by
  have h0 := hide (source_any a len cap w hr)
  clear hr
  go_enter Try.func37, Try.ntmps37
  go_wp2_with fail
  refine (unhide h0).mono ?_
  rintro e w1 ⟨rfl, hs, b1⟩
  go_wp2_with fail
  refine (path_any _ a len cap _ hs).mono ?_
  rintro e w2 ⟨p, hp, rfl, h1, h2⟩
  have b2 := on b1 h2
  clear h0 hs b1 h2
  go_wp2_with fail
  refine (path_any _ a len cap _ h1).mono ?_
  rintro e w3 ⟨t, ht, rfl, h3, h4⟩
  have b3 := on b2 h4
  clear h1 b2 h4
  go_wp2
  go_ret2
  exact ⟨p, t, by omega, by omega, rfl, b3⟩
set_option maxRecDepth 100000 in
theorem drawJoin_any (a : Option Addr) (len cap : Nat) (w : World) (hr : RowB w w.heap.size a len cap) :
    Calls Try.prog 16 #[.slice a len cap] w fun e w' => ∃ p t : ByteArray, p.size ≤ 100 ∧ t.size ≤ 100 ∧ e = .returned (.tuple #[.string p, .string t]) ∧ Below w.heap.size w w' := by
  have h0 := hide (source_any a len cap w hr)
  clear hr
  go_enter Try.func16, Try.ntmps16
  go_wp2_with fail
  refine (unhide h0).mono ?_
  rintro e w1 ⟨rfl, hs, b1⟩
  go_wp2_with fail
  refine (path_any _ a len cap _ hs).mono ?_
  rintro e w2 ⟨p, hp, rfl, h1, h2⟩
  have b2 := on b1 h2
  clear h0 hs b1 h2
  go_wp2_with fail
  refine (one_any _ a len cap 8 _ h1 (by omega)).mono ?_
  rintro e w3 ⟨b, rfl, h3, h4⟩
  have b3 := on b2 h4
  clear h1 b2 h4
  cases b
  · go_wp2_with fail
    refine (name_any _ a len cap _ h3).mono ?_
    rintro e w4 ⟨t, ht, rfl, h5, h6⟩
    have b4 := on b3 h6
    clear h3 b3 h6
    go_wp2
    go_ret2
    exact ⟨p, t, by omega, by omega, rfl, b4⟩
  · have hS := src_lt h3
    have hp := hide (fun ts h0 h1 => pick_any w.heap.size w3.heap.size ts.length ts a len cap (w3.alloc (.cells (ts.map Value.string).toArray 9)) (src_alloc h3 _) h0 h1 (by omega) (lit_cells w3 ts _))
    go_wp2_with fail
    refine (unhide hp [⟨#[]⟩, ⟨#[65]⟩, ⟨#[97, 47, 98]⟩] (by simp) (by simp)).mono ?_
    rintro e w4 ⟨t, hm, rfl, h5, h6⟩
    have hz2 : t.size ≤ 20 := by
      simp only [List.mem_cons, List.not_mem_nil, or_false] at hm
      rcases hm with rfl | rfl | rfl <;> decide
    have b4 := on b3 ((World.grownBy_alloc w3 _ _).trans h6)
    clear hm hp h6 b3
    go_wp2
    go_ret2
    exact ⟨p, t, by omega, by omega, rfl, b4⟩
theorem parent_size (s : ByteArray) : (Pl.glue (Pl.namesR s).dropLast).size ≤ s.size := by
  cases h : Pl.pathB s
  · rw [Pl.namesR_no h]; exact Nat.zero_le _
  · rw [Pl.namesR_yes h, ← Pl.parent_glue]
    unfold Pl.parent
    split
    · exact Nat.zero_le _
    · rw [ByteArray.size_extract]; omega
set_option maxRecDepth 100000 in
theorem drawUnder_any (a : Option Addr) (len cap : Nat) (w : World) (hr : RowB w w.heap.size a len cap) :
    Calls Try.prog 19 #[.slice a len cap] w fun e w' => ∃ p t : ByteArray, p.size ≤ 100 ∧ t.size ≤ 100 ∧ e = .returned (.tuple #[.string p, .string t]) ∧ Below w.heap.size w w' := by
  have h0 := hide (source_any a len cap w hr)
  clear hr
  go_enter Try.func19, Try.ntmps19
  go_wp2_with fail
  refine (unhide h0).mono ?_
  rintro e w1 ⟨rfl, hs, b1⟩
  go_wp2_with fail
  refine (path_any _ a len cap _ hs).mono ?_
  rintro e w2 ⟨p, hp, rfl, h1, h2⟩
  have b2 := on b1 h2
  clear h0 hs b1 h2
  go_wp2_with fail
  refine (n_any _ a len cap 3 _ h1 (by omega)).mono ?_
  rintro e w3 ⟨r, rfl, hr0, hr1, h3, h4⟩
  have b3 := on b2 h4
  clear h1 b2 h4
  have hr : r = 0 ∨ r = 1 ∨ r = 2 := by omega
  clear hr0 hr1
  rcases hr with rfl | rfl | rfl
  · go_wp2_with fail
    refine (name_any _ a len cap _ h3).mono ?_
    rintro e w4 ⟨t, ht, rfl, h5, h6⟩
    have b4 := on b3 h6
    clear h3 b3 h6
    go_wp2_with fail
    refine (WPathS.join1_any p t _ (by omega) (by omega)).mono ?_
    rintro e w5 ⟨rfl, rfl⟩
    have hj := joinN_size p t
    generalize Pl.joinN p t = t1 at hj
    go_wp2
    go_ret2
    exact ⟨t1, p, by omega, by omega, rfl, b4⟩
  · go_wp2_with fail
    refine (WPathS.parentF_any p _ (by omega)).mono ?_
    rintro e w4 ⟨rfl, h5⟩
    have hj := parent_size p
    generalize Pl.glue (Pl.namesR p).dropLast = t1 at hj
    have b4 := b3.trans (h5.mono b3.size)
    clear h5 b3
    go_wp2
    go_ret2
    exact ⟨p, t1, by omega, by omega, rfl, b4⟩
  · go_wp2_with fail
    refine (path_any _ a len cap _ h3).mono ?_
    rintro e w4 ⟨t, ht, rfl, h5, h6⟩
    have b4 := on b3 h6
    clear h3 b3 h6
    go_wp2
    go_ret2
    exact ⟨p, t, by omega, by omega, rfl, b4⟩
set_option maxRecDepth 100000 in
theorem drawRest_any (a : Option Addr) (len cap : Nat) (w : World) (hr : RowB w w.heap.size a len cap) :
    Calls Try.prog 35 #[.slice a len cap] w fun e w' => ∃ p t : ByteArray, p.size ≤ 100 ∧ t.size ≤ 100 ∧ e = .returned (.tuple #[.string p, .string t]) ∧ Below w.heap.size w w' := by
  have h0 := hide (drawUnder_any a len cap w hr)
  clear hr
  go_enter Try.func35, Try.ntmps35
  go_wp2_with fail
  refine (unhide h0).mono ?_
  rintro e w1 ⟨p, t, hp, ht, rfl, b1⟩
  clear h0
  go_wp2
  go_ret2
  exact ⟨p, t, hp, ht, rfl, b1⟩
set_option maxRecDepth 100000 in
theorem drawAt_any (a : Option Addr) (len cap : Nat) (w : World) (hr : RowB w w.heap.size a len cap) :
    Calls Try.prog 41 #[.slice a len cap] w fun e w' => ∃ p t : ByteArray, p.size ≤ 100 ∧ t.size ≤ 100 ∧ e = .returned (.tuple #[.string p, .string t]) ∧ Below w.heap.size w w' := by
  have h0 := hide (source_any a len cap w hr)
  clear hr
  go_enter Try.func41, Try.ntmps41
  go_wp2_with fail
  refine (unhide h0).mono ?_
  rintro e w1 ⟨rfl, hs, b1⟩
  go_wp2_with fail
  refine (path_any _ a len cap _ hs).mono ?_
  rintro e w2 ⟨p, hp, rfl, h1, h2⟩
  have b2 := on b1 h2
  clear h0 hs b1 h2
  have hS := src_lt h1
  have hp1 := hide (fun ts h0 h2 => pick_any w.heap.size w2.heap.size ts.length ts a len cap (w2.alloc (.cells (ts.map Value.string).toArray 9)) (src_alloc h1 _) h0 h2 (by omega) (lit_cells w2 ts _))
  go_wp2_with fail
  refine (unhide hp1 [⟨#[]⟩, ⟨#[47]⟩] (by simp) (by simp)).mono ?_
  rintro e w3 ⟨t, hm, rfl, h3, h4⟩
  have ht : t.size ≤ 1 := by
    simp only [List.mem_cons, List.not_mem_nil, or_false] at hm
    rcases hm with rfl | rfl <;> decide
  have b3 := on b2 ((World.grownBy_alloc w2 _ _).trans h4)
  clear hm hp1 h4 b2 hS h1
  go_wp2_with fail
  refine (n_any _ a len cap 5 _ h3 (by omega)).mono ?_
  rintro e w4 ⟨r, rfl, hr0, hr1, h5, h6⟩
  have b4 := on b3 h6
  clear h3 h6 b3
  go_wp2
  go_loopw [6, 7] (fun t i wr => ∃ (k : Nat) (t0 : ByteArray), k ≤ 4 ∧ i = .int .i64 (k : Int) ∧ t = .string t0 ∧ t0.size + 3 * k ≤ 20 ∧ Src wr w.heap.size a len cap ∧ Below w.heap.size w wr) (fun _ i _ => (intOf i).toNat)
  case atStart => exact ⟨r.toNat, t, by omega, by congr 1; omega, rfl, by omega, h5, b4⟩
  case round =>
    obtain ⟨k, t0, hk, rfl, rfl, hz, hs, hbel⟩ := hrel
    by_cases h0 : 0 < k
    · have hk1 : (0 : Int) < (k : Int) := by omega
      have hS := src_lt hs
      have hp1 := hide (fun ts h0 h2 => pick_any w.heap.size wr.heap.size ts.length ts a len cap (wr.alloc (.cells (ts.map Value.string).toArray 9)) (src_alloc hs _) h0 h2 (by omega) (lit_cells wr ts _))
      go_wp2_with fail
      refine (unhide hp1 [⟨#[46, 46]⟩, ⟨#[46]⟩, ⟨#[97]⟩, ⟨#[98]⟩, ⟨#[]⟩, ⟨#[65]⟩, ⟨#[46, 46]⟩, ⟨#[99]⟩] (by simp) (by simp)).mono ?_
      rintro e w5 ⟨u, hm, rfl, h6, h7⟩
      have hu : u.size ≤ 2 := by
        simp only [List.mem_cons, List.not_mem_nil, or_false] at hm
        rcases hm with rfl | rfl | rfl | rfl | rfl | rfl | rfl | rfl <;> decide
      have b5 := on hbel ((World.grownBy_alloc wr _ _).trans h7)
      have h47 : (⟨#[47]⟩ : ByteArray).size = 1 := rfl
      have hsz : (t0 ++ u ++ (⟨#[47]⟩ : ByteArray)).size = t0.size + u.size + 1 := by rw [ByteArray.size_append, ByteArray.size_append, h47]
      clear hm hp1 h7 hs hbel
      go_wp2
      go_roundw
      case rel => exact ⟨k - 1, _, by omega, by congr 1; omega, rfl, by rw [hsz]; omega, h6, b5⟩
      case measure => simp [intOf]; omega
    · obtain rfl : k = 0 := by omega
      go_wp2
      go_ret2
      exact ⟨p, t0, by omega, by omega, rfl, hbel⟩
end WSrc
end Go.Proofs.Ytopipjfomnnjcaa
