/- The walks of the source's one, edge and bytes. What is drawn is not said, only its bounds. -/
import Derived.Test.YtopipjfomnnjcaaWSource
import Derived.Laws.AppendOwn
import Derived.Laws.OwnMore
namespace Go.Proofs.Ytopipjfomnnjcaa
open Go.RowKit
namespace WSrc
theorem one_any (S : Nat) (a : Option Addr) (len cap : Nat) (most : Int) (w : World) (hs : Src w S a len cap) (hm : most ≤ 1048576) :
    Calls Try.prog 45 #[.pointer (some ⟨S, 0, none⟩), .int .i64 most] w fun e w' => ∃ r : Bool, e = .returned (.bool r) ∧ Src w' S a len cap ∧ w.grownBy w' (some S) := by
  have hn := hide (n_any S a len cap most w hs hm)
  clear hs
  go_enter Try.func45, Try.ntmps45
  go_wp2_with fail
  refine (unhide hn).mono ?_
  rintro e w1 ⟨r, rfl, -, -, h1, h2⟩
  go_wp2
  go_ret
  exact ⟨_, rfl, h1, h2⟩
theorem src_row {w w' : World} {S len cap : Nat} {a : Option Addr} {r : Option Nat} (h : Src w S a len cap) (hg : w.grownBy w' r) (hr : ∀ g, r = some g → S < g) : Src w' S a len cap := by
  obtain ⟨h0, p, m, sz, hb, rest⟩ := h
  have hS := (Array.getElem?_eq_some_iff.1 hb).1
  refine ⟨⟨h0.1, h0.2.1, fun i hi => ?_⟩, p, m, sz, (hg.block S hS (fun e => by have := hr _ e.symm; omega)).trans hb, rest⟩
  obtain ⟨b, o, n, h1, h2, h3, h4⟩ := h0.2.2 i hi
  exact ⟨b, o, n, h1, h2, h3, (cell_heap (hg.block b (by omega) (fun e => by have := hr _ e.symm; omega))).trans h4⟩
theorem grown_on {w v v' : World} {r s : Option Nat} (h : w.grownBy v r) (h' : v.grownBy v' s) (hs : ∀ g, s = some g → w.heap.size ≤ g) : w.grownBy v' r :=
  ⟨h'.os.trans h.os, h'.tape.trans h.tape, h'.output.trans h.output, Nat.le_trans h.size h'.size, fun j hj hne => (h'.block j (Nat.lt_of_lt_of_le hj h.size) (fun e => by have := hs _ e.symm; omega)).trans (h.block j hj hne)⟩
theorem grown_trans {w v v' : World} {r : Option Nat} (h : w.grownBy v r) (h' : v.grownBy v' r) : w.grownBy v' r :=
  ⟨h'.os.trans h.os, h'.tape.trans h.tape, h'.output.trans h.output, Nat.le_trans h.size h'.size, fun j hj hne => (h'.block j (Nat.lt_of_lt_of_le hj h.size) hne).trans (h.block j hj hne)⟩
theorem src_in {w : World} {S len cap : Nat} {a : Option Addr} (h : Src w S a len cap) : S < w.heap.size := by
  obtain ⟨-, p, m, sz, hb, -⟩ := h
  exact (Array.getElem?_eq_some_iff.1 hb).1
def edges : List Int := [0, 1, -1, 2, 1000, 1001, 2147483648, 2147483647, -2147483648, 4611686018427387904, 9223372036854775807, -9223372036854775808, 1000000, 1000001]
theorem edges_ok : ∀ k, k < 14 → ∃ z, edges[k]? = some z ∧ -9223372036854775808 ≤ z ∧ z ≤ 9223372036854775807 := by
  intro k hk
  have hl : k < edges.length := hk
  refine ⟨edges[k], List.getElem?_eq_getElem hl, ?_⟩
  have : ∀ z ∈ edges, -9223372036854775808 ≤ z ∧ z ≤ 9223372036854775807 := by decide
  exact this _ (List.getElem_mem hl)
def edgeC : Array Value := #[.int .i64 0, .int .i64 1, .int .i64 (-1), .int .i64 2, .int .i64 1000, .int .i64 1001, .int .i64 2147483648, .int .i64 2147483647, .int .i64 (-2147483648), .int .i64 4611686018427387904, .int .i64 9223372036854775807, .int .i64 (-9223372036854775808), .int .i64 1000000, .int .i64 1000001]
theorem edgeC_at (k : Nat) : edgeC[k]? = edges[k]?.map (Value.int .i64) := by
  have : edgeC = (edges.map (Value.int .i64)).toArray := rfl
  rw [this]
  simp
set_option linter.unusedSimpArgs false in
set_option maxRecDepth 100000 in
theorem edge_any (S : Nat) (a : Option Addr) (len cap : Nat) (w : World) (hs : Src w S a len cap) :
    Calls Try.prog 52 #[.pointer (some ⟨S, 0, none⟩)] w fun e w' => ∃ r : Int, e = .returned (.int .i64 r) ∧ -9223372036854775808 ≤ r ∧ r ≤ 9223372036854775807 ∧ Src w' S a len cap ∧ w.grownBy w' (some S) := by
  have hS := src_in hs
  have g0 : w.grownBy (w.alloc (.cells edgeC 2)) none := World.grownBy_alloc w _ none
  have hn := hide (n_any S a len cap 14 _ (src_row hs g0 (fun g e => by cases e)) (by omega))
  have HC : Hid (∀ W, (w.alloc (.cells edgeC 2)).grownBy W (some S) → ∀ k, k < 14 → ∃ z, W.cell? ⟨w.heap.size, k, none⟩ = some (.int .i64 z) ∧ -9223372036854775808 ≤ z ∧ z ≤ 9223372036854775807) := hide (fun W hg k hk => by
    obtain ⟨z, h1, h2⟩ := edges_ok k hk
    refine ⟨z, ?_, h2⟩
    have hb : W.heap[w.heap.size]? = some (.cells edgeC 2 (0, 0)) := (hg.block _ (by simp) (fun e => by cases e; omega)).trans (heap_alloc_new w _)
    rw [cell_of_row W _ _ _ _ (0, 0) hb, edgeC_at, h1]; rfl)
  have HG := hide (fun W (hg : (w.alloc (.cells edgeC 2)).grownBy W (some S)) => grown_trans (World.grownBy_alloc w (.cells edgeC 2) (some S)) hg)
  clear hs g0
  go_enter Try.func52, Try.ntmps52
  go_wp2_with fail
  refine (unhide hn).mono ?_
  rintro e w1 ⟨r, rfl, hr0, hr1, h1, h2⟩
  obtain ⟨k, rfl⟩ : ∃ k : Nat, r = (k : Int) := ⟨r.toNat, by omega⟩
  obtain ⟨z, c0, hz1, hz2⟩ := unhide HC w1 h2 k (by omega)
  have u1 : (k : Int) < 14 := by omega
  have HG2 := hide (unhide HG w1 h2)
  have H1 := hide h1
  clear hn HC HG h1 h2
  go_wp2
  go_ret
  exact ⟨z, rfl, hz1, hz2, unhide H1, unhide HG2⟩
theorem info8d : (Try.prog.info? 5).map (fun i => (i.zero, i.size, i.bytes)) = some (some (.int .u8 0), 1, 1) := by kernel_rfl
/-- 'string(b)' of bytes of the call's own, also of none. -/
theorem own_str {w : World} {B n : Nat} {v : Value} (l : List UInt8) (hn : l.length = n) (h : w.ownsRow B 5 1 v n (l.map Pl.byteVal)) (hv : ∃ g cap, v = .slice (some ⟨g, 0, none⟩) n cap) :
    (convert 22 9 v).run Try.prog w = .ok (.string ⟨l.toArray⟩) w := by
  obtain ⟨g, cap, rfl⟩ := hv
  rcases h.2 with ⟨e, -⟩ | ⟨g', cap', cur, e, hb, hg, hcap, hm, hsz, ht⟩
  · cases e
  · cases e
    exact Mem.row_text Try.underlying22 Try.underlying5 Try.underlying9 l hn hg (by simpa using ht)
set_option linter.unusedSimpArgs false in
set_option maxRecDepth 100000 in
set_option maxHeartbeats 800000 in
theorem bytes_any (S : Nat) (a : Option Addr) (len cap : Nat) (n : Int) (hn0 : 0 ≤ n) (hn1 : n ≤ 1000) (w : World) (hs : Src w S a len cap) :
    Calls Try.prog 47 #[.pointer (some ⟨S, 0, none⟩), .int .i64 n] w fun e w' => ∃ t : ByteArray, t.size ≤ 1000 ∧ e = .returned (.string t) ∧ Src w' S a len cap ∧ w.grownBy w' (some S) := by
  obtain ⟨i0, hi, hz0, hz1, hz2⟩ := info_parts info8d
  have hS := src_in hs
  have S0 : Hid (Src (w.alloc (.cells #[] 5)) S a len cap) := hide (src_row hs (World.grownBy_alloc w _ none) (fun g e => by cases e))
  have O0 : Hid ((w.alloc (.cells #[] 5)).ownsRow w.heap.size 5 1 (.slice (some ⟨w.heap.size, 0, none⟩) 0 0) 0 (([] : List UInt8).map Pl.byteVal)) := hide (World.ownsRow_made w #[] 0 (Nat.le_refl _) (Nat.zero_le _) rfl)
  have G0 : Hid (w.grownBy (w.alloc (.cells #[] 5)) (some S)) := hide (World.grownBy_alloc w _ _)
  clear hs
  go_enter Try.func47, Try.ntmps47
  go_wp2
  go_loopw [5, 6] (fun v i wr => ∃ (k : Nat) (l : List UInt8) (g cp : Nat), (k : Int) ≤ n ∧ i = .int .i64 (k : Int) ∧ v = .slice (some ⟨g, 0, none⟩) k cp ∧ l.length = k ∧ Hid (wr.ownsRow w.heap.size 5 1 v k (l.map Pl.byteVal)) ∧ Hid (Src wr S a len cap) ∧ Hid (w.grownBy wr (some S))) (fun _ i _ => (n - intOf i).toNat)
  case atStart => exact ⟨0, [], _, _, hn0, rfl, rfl, rfl, O0, S0, G0⟩
  case round =>
    obtain ⟨k, l, g, cp, hk, rfl, rfl, hlk, HO, HS, HG⟩ := hrel
    clear S0 O0 G0
    by_cases hlt : (k : Int) < n
    · have hcall := hide (n_any S a len cap 256 wr (unhide HS) (by omega))
      go_wp2_with fail
      refine (unhide hcall).mono ?_
      rintro e w1 ⟨r, rfl, hr0, hr1, hs1, hg1⟩
      obtain ⟨c, rfl⟩ : ∃ c : Nat, r = (c : Int) := ⟨r.toNat, by omega⟩
      have hc : c < 256 := by omega
      have hown1 : w1.ownsRow w.heap.size 5 1 (.slice (some ⟨g, 0, none⟩) k cp) k (l.map Pl.byteVal) := (unhide HO).kept hg1 (.inr (fun e => by have := ((unhide HO).lt _ rfl).1; cases e; omega))
      have hlo := (hown1.lt _ rfl).1
      have hbig : w.heap.size ≤ w1.heap.size := Nat.le_trans (unhide HG).size hg1.size
      have HS1 := hide hs1
      have HG1 := hide (grown_trans (unhide HG) hg1)
      have HO1 := hide hown1
      have HBV : Hid (l.map Pl.byteVal ++ [Value.int .u8 (c : Int)] = (l ++ [UInt8.ofNat c]).map Pl.byteVal) := hide (by simp [Pl.byteVal, UInt8.toNat_ofNat', Nat.mod_eq_of_lt hc])
      have hw8 : IntKind.u8.wrap (c : Int) = (c : Int) := by rw [IntKind.wrap_u8]; omega
      clear hcall HO HS HG hs1 hg1 hown1 hr0 hr1
      go_wp2_with (at_builtin; refine wpList_append_own _ rfl _ _ 22 rfl w.heap.size 5 i0 (.int .u8 0) 1 1 Try.underlying22 hi hz0 hz1 hz2 rfl (by decide) _ _ _ rfl ((unhide HO1).alloc _) ⟨w1.heap.size, 0, none⟩ 1 1 [.int .u8 (c : Int)] rfl rfl (Mem.one_new _ _ _) (Mem.one_cell _ _) (by unfold maxLen; omega) (by omega) (by simp; omega) ?_)
      intro v' w2 own' hgrow hnn
      rw [unhide HBV] at own'
      have hS2 := src_row (src_row (unhide HS1) (World.grownBy_alloc w1 _ none) (fun g e => by cases e)) hgrow (fun g' e => by have e' : g = g' := Option.some.inj e; omega)
      have hG2 := grown_on (grown_on (unhide HG1) (World.grownBy_alloc w1 _ none) (fun g e => by cases e)) hgrow (fun g' e => by have e' : g = g' := Option.some.inj e; omega)
      have hsh : ∃ g' cp', v' = .slice (some ⟨g', 0, none⟩) (k + 1) cp' := by
        rcases own'.2 with ⟨e, h0⟩ | ⟨g', cp', cur, e, -⟩
        · omega
        · exact ⟨g', cp', e⟩
      obtain ⟨g', cp', rfl⟩ := hsh
      have HO2 := hide own'
      have HS2 := hide hS2
      have HG2 := hide hG2
      clear own' hgrow hnn hS2 hG2 HO1 HS1 HG1 HBV
      go_wp2
      go_roundw
      case rel => exact ⟨k + 1, l ++ [UInt8.ofNat c], g', cp', by omega, by go_num, rfl, by simp [hlk], HO2, HS2, HG2⟩
      case measure => simp [intOf]; omega
    · have hcv := own_str l hlk (unhide HO) ⟨g, cp, rfl⟩
      have hsz : (ByteArray.mk l.toArray).size ≤ 1000 := by show l.toArray.size ≤ 1000; simp; omega
      go_wp2
      go_ret
      exact ⟨_, hsz, rfl, unhide HS, unhide HG⟩
theorem on {w w1 w2 : World} (hb : Below w.heap.size w w1) (hg : w1.grownBy w2 (some w.heap.size)) : Below w.heap.size w w2 :=
  hb.grown hg hb.size (fun k e => by cases e; exact Nat.le_refl _)
theorem make8 (n : Nat) (hn : n ≤ 1048576) (w : World) : (Instr.makeSlice 22 (.int .i64 (n : Int)) (.int .i64 (n : Int))).run Try.prog w = .ok (.slice (some ⟨w.heap.size, 0, none⟩) n n) (w.alloc (.cells (madeCells #[.int .u8 0] n) 5)) := by
  obtain ⟨i0, h0, h1, h2, h3⟩ := info_parts info8d
  have h := run_make (P := Try.prog) w 22 5 i0 (.int .u8 0) Try.underlying22 h0 h1 .i64 .i64 (n : Int) (n : Int) (by omega) (Int.le_refl _) (by rw [h3]; omega) (by omega)
  rw [h, h2]
  simp [Value.cells]
theorem text8 (n : Nat) (w : World) : (convert 22 9 (.slice (some ⟨w.heap.size, 0, none⟩) n n)).run Try.prog (w.alloc (.cells (madeCells #[.int .u8 0] n) 5)) = .ok (.string ⟨(List.replicate n (0 : UInt8)).toArray⟩) (w.alloc (.cells (madeCells #[.int .u8 0] n) 5)) :=
  Mem.row_text Try.underlying22 Try.underlying5 Try.underlying9 (List.replicate n 0) (by simp) (heap_alloc_new w _) (by rw [toList_madeCells_one]; simp [Pl.byteVal])
end WSrc
end Go.Proofs.Ytopipjfomnnjcaa
