/- The walks of DrawSeal and DrawCrcMore. -/
import Derived.Test.YtopipjfomnnjcaaWDrawE
import Derived.Test.YtopipjfomnnjcaaWCrcS
namespace Go.Proofs.Ytopipjfomnnjcaa
open Go.RowKit
namespace WSrc
set_option linter.unusedSimpArgs false in
set_option maxRecDepth 100000 in
theorem drawSeal_any (a : Option Addr) (len cap : Nat) (w : World) (hr : RowB w w.heap.size a len cap) :
    Calls Try.prog 7 #[.slice a len cap] w fun e w' => ∃ t : ByteArray, t.size ≤ 30000 ∧ e = .returned (.string t) ∧ Below w.heap.size w w' := by
  have h0 := hide (source_any a len cap w hr)
  clear hr
  go_enter Try.func7, Try.ntmps7
  go_wp2_with fail
  refine (unhide h0).mono ?_
  rintro e w1 ⟨rfl, hs, b1⟩
  have h1 := hide (one_any _ a len cap 30 w1 hs (by omega))
  clear h0 hs
  go_wp2_with fail
  refine (unhide h1).mono ?_
  rintro e w2 ⟨b, rfl, hs2, hg2⟩
  have b2 := on b1 hg2
  clear h1 b1 hg2
  cases b
  · have h2 := hide (n_any _ a len cap 20 w2 hs2 (by omega))
    clear hs2
    go_wp2_with fail
    refine (unhide h2).mono ?_
    rintro e w3 ⟨r, rfl, hr0, hr1, hs3, hg3⟩
    have b3 := on b2 hg3
    have h3 := hide (bytes_any _ a len cap r hr0 (by omega) w3 hs3)
    clear h2 b2 hg3 hs3
    go_wp2_with fail
    refine (unhide h3).mono ?_
    rintro e w4 ⟨t, ht, rfl, -, hg4⟩
    have b4 := on b3 hg4
    clear h3 b3 hg4
    go_wp2
    go_ret
    exact ⟨t, by omega, rfl, b4⟩
  · have h2 := hide (n_any _ a len cap 3 w2 hs2 (by omega))
    clear hs2
    go_wp2_with fail
    refine (unhide h2).mono ?_
    rintro e w3 ⟨r, rfl, hr0, hr1, -, hg3⟩
    have b3 := on b2 hg3
    obtain ⟨k, hk⟩ : ∃ k : Nat, 19995 + r = (k : Int) := ⟨(19995 + r).toNat, by omega⟩
    have hk2 : k ≤ 19997 := by omega
    have hw : IntKind.i64.wrap (19995 + r) = (k : Int) := by rw [hk, IntKind.wrap_i64]; omega
    have hmk := make8 k (by omega) w3
    have htx := text8 k w3
    have hsz : (ByteArray.mk (List.replicate k (0 : UInt8)).toArray).size ≤ 30000 := by show (List.replicate k (0 : UInt8)).toArray.size ≤ 30000; simp; omega
    have b4 := b3.alloc b3.size (.cells (madeCells #[.int .u8 0] k) 5)
    clear h2 b2 hg3 b3
    go_wp2
    go_ret
    exact ⟨_, hsz, rfl, b4⟩
set_option maxRecDepth 100000 in
theorem drawCrcMore_any (a : Option Addr) (len cap : Nat) (w : World) (hr : RowB w w.heap.size a len cap) :
    Calls Try.prog 12 #[.slice a len cap] w fun e w' => ∃ (r : Int) (t : ByteArray), t.size ≤ 1000 ∧ e = .returned (.tuple #[.int .i64 r, .string t]) ∧ Below w.heap.size w w' := by
  have h0 := hide (source_any a len cap w hr)
  clear hr
  go_enter Try.func12, Try.ntmps12
  go_wp2_with fail
  refine (unhide h0).mono ?_
  rintro e w1 ⟨rfl, hs, b1⟩
  have h1 := hide (n_any _ a len cap 9 w1 hs (by omega))
  clear h0 hs
  go_wp2_with fail
  refine (unhide h1).mono ?_
  rintro e w2 ⟨r, rfl, hr0, hr1, hs2, hg2⟩
  have b2 := on b1 hg2
  have h2 := hide (bytes_any _ a len cap r hr0 (by omega) w2 hs2)
  clear h1 b1 hg2 hs2
  go_wp2_with fail
  refine (unhide h2).mono ?_
  rintro e w3 ⟨t, ht, rfl, hs3, hg3⟩
  have b3 := on b2 hg3
  have h3 := hide (one_any _ a len cap 5 w3 hs3 (by omega))
  clear h2 b2 hg3 hs3
  go_wp2_with fail
  refine (unhide h3).mono ?_
  rintro e w4 ⟨b, rfl, hs4, hg4⟩
  have b4 := on b3 hg4
  clear h3 b3 hg4
  cases b
  · have h5 := hide (n_any _ a len cap 9 w4 hs4 (by omega))
    clear hs4
    go_wp2_with fail
    refine (unhide h5).mono ?_
    rintro e w5 ⟨r5, rfl, hq0, hq1, hs5, hg5⟩
    have b5 := on b4 hg5
    have h6 := hide (bytes_any _ a len cap r5 hq0 (by omega) w5 hs5)
    clear h5 b4 hg5 hs5
    go_wp2_with fail
    refine (unhide h6).mono ?_
    rintro e w6 ⟨t6, ht6, rfl, hs6, hg6⟩
    have b6 := on b5 hg6
    have h7 := hide (WCrc.specCrc_any t6 w6 (by unfold maxLen; omega))
    clear h6 b5 hg6 hs6
    go_wp2_with fail
    refine (unhide h7).mono ?_
    rintro e w7 ⟨rfl, rfl⟩
    generalize Pl.crcMore 0 t6 = z
    clear h7
    go_wp2
    go_ret2
    exact ⟨_, t, ht, rfl, b6⟩
  · have h5 := hide (edge_any _ a len cap w4 hs4)
    clear hs4
    go_wp2_with fail
    refine (unhide h5).mono ?_
    rintro e w5 ⟨z, rfl, -, -, hs5, hg5⟩
    have b5 := on b4 hg5
    clear h5 b4 hg5 hs5
    go_wp2
    go_ret2
    exact ⟨_, t, ht, rfl, b5⟩
end WSrc
end Go.Proofs.Ytopipjfomnnjcaa
