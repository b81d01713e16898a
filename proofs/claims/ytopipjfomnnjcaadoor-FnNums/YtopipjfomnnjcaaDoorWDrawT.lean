/- The walk of DrawPutText. -/
import Derived.Test.YtopipjfomnnjcaaDoorWDrawN
import Derived.Laws.OwnMore
namespace Go.Proofs.YtopipjfomnnjcaaDoor
open Go.RowKit
namespace WSrc
theorem make8 (n : Nat) (hn : n ≤ 1048576) (w : World) : (Instr.makeSlice 22 (.int .i64 (n : Int)) (.int .i64 (n : Int))).run Tryd.prog w = .ok (.slice (some ⟨w.heap.size, 0, none⟩) n n) (w.alloc (.cells (madeCells #[.int .u8 0] n) 5)) := by
  obtain ⟨i0, h0, h1, h2, h3⟩ := info_parts info8d
  have h := run_make (P := Tryd.prog) w 22 5 i0 (.int .u8 0) Tryd.underlying22 h0 h1 .i64 .i64 (n : Int) (n : Int) (by omega) (Int.le_refl _) (by rw [h3]; omega) (by omega)
  rw [h, h2]
  simp [Value.cells]
theorem text8 (n : Nat) (w : World) : (convert 22 9 (.slice (some ⟨w.heap.size, 0, none⟩) n n)).run Tryd.prog (w.alloc (.cells (madeCells #[.int .u8 0] n) 5)) = .ok (.string ⟨(List.replicate n (0 : UInt8)).toArray⟩) (w.alloc (.cells (madeCells #[.int .u8 0] n) 5)) :=
  Mem.row_text Tryd.underlying22 Tryd.underlying5 Tryd.underlying9 (List.replicate n 0) (by simp) (heap_alloc_new w _) (by rw [toList_madeCells_one]; simp [Pl.byteVal])
set_option linter.unusedSimpArgs false in
set_option maxRecDepth 100000 in
theorem drawPutText_any (a : Option Addr) (len cap : Nat) (w : World) (hr : RowB w w.heap.size a len cap) :
    Calls Tryd.prog 8 #[.slice a len cap] w fun e w' => ∃ t : ByteArray, t.size ≤ 30000 ∧ e = .returned (.string t) ∧ Below w.heap.size w w' := by
  have h0 := hide (source_any a len cap w hr)
  clear hr
  go_enter Tryd.func8, Tryd.ntmps8
  go_wp2_with fail
  refine (unhide h0).mono ?_
  rintro e w1 ⟨rfl, hs, b1⟩
  have h1 := hide (one_any _ a len cap 8 w1 hs (by omega))
  clear h0 hs
  go_wp2_with fail
  refine (unhide h1).mono ?_
  rintro e w2 ⟨b, rfl, hs2, hg2⟩
  have b2 := on b1 hg2
  clear h1 b1 hg2
  cases b
  · have h2 := hide (n_any _ a len cap 20 w2 hs2 (by omega))
    clear hs2
    go_wp2_with fail
    refine (unhide h2).mono ?_
    rintro e w3 ⟨r, rfl, hr0, hr1, hs3, hg3⟩
    have b3 := on b2 hg3
    have h3 := hide (bytes_any _ a len cap r hr0 (by omega) w3 hs3)
    clear h2 b2 hg3 hs3
    go_wp2_with fail
    refine (unhide h3).mono ?_
    rintro e w4 ⟨t, ht, rfl, -, hg4⟩
    have b4 := on b3 hg4
    clear h3 b3 hg4
    go_wp2
    go_ret
    exact ⟨t, by omega, rfl, b4⟩
  · have h2 := hide (n_any _ a len cap 3 w2 hs2 (by omega))
    clear hs2
    go_wp2_with fail
    refine (unhide h2).mono ?_
    rintro e w3 ⟨r, rfl, hr0, hr1, -, hg3⟩
    have b3 := on b2 hg3
    obtain ⟨k, hk⟩ : ∃ k : Nat, 19999 + r = (k : Int) := ⟨(19999 + r).toNat, by omega⟩
    have hk2 : k ≤ 20001 := by omega
    have hw : IntKind.i64.wrap (19999 + r) = (k : Int) := by rw [hk, IntKind.wrap_i64]; omega
    have hmk := make8 k (by omega) w3
    have htx := text8 k w3
    have hsz : (ByteArray.mk (List.replicate k (0 : UInt8)).toArray).size ≤ 30000 := by show (List.replicate k (0 : UInt8)).toArray.size ≤ 30000; simp; omega
    have b4 := b3.alloc b3.size (.cells (madeCells #[.int .u8 0] k) 5)
    clear h2 b2 hg3 b3
    go_wp2
    go_ret
    exact ⟨_, hsz, rfl, b4⟩
end WSrc
end Go.Proofs.YtopipjfomnnjcaaDoor
