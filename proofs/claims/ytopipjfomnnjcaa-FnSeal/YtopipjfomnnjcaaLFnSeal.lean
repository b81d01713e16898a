/- The walk of the law FnSeal, over the walks of the functions and of the draws. -/
import Derived.Test.YtopipjfomnnjcaaWDrawS
import Derived.Test.YtopipjfomnnjcaaWSealF
import Derived.Test.YtopipjfomnnjcaaWUnsealI
import Derived.Test.YtopipjfomnnjcaaPlainSeal
import Derived.Test.YtopipjfomnnjcaaPlainR
namespace Go.Proofs.Ytopipjfomnnjcaa
open Go.RowKit
namespace fnSeal
theorem row_below {w w' : World} {a : Option Addr} {len cap : Nat} (h : WSrc.RowB w w.heap.size a len cap) (b : Below w.heap.size w w') : WSrc.RowB w' w'.heap.size a len cap :=
  ⟨h.1, h.2.1, fun i hi => by
    obtain ⟨g, o, n, h1, h2, h3, h4⟩ := h.2.2 i hi
    exact ⟨g, o, n, h1, Nat.lt_of_lt_of_le h2 b.size, h3, (b.cell (p := ⟨g, o + i, none⟩) h2).trans h4⟩⟩
theorem row_cells {w w' : World} {a : Option Addr} {len cap S : Nat} (h : WSrc.RowB w S a len cap) (b : ∀ k, k < S → w'.heap[k]? = w.heap[k]?) : WSrc.RowB w' S a len cap :=
  ⟨h.1, h.2.1, fun i hi => by
    obtain ⟨g, o, n, h1, h2, h3, h4⟩ := h.2.2 i hi
    exact ⟨g, o, n, h1, h2, h3, (WSrc.cell_heap (b g h2)).trans h4⟩⟩
set_option linter.unusedSimpArgs false in
set_option maxRecDepth 100000 in
theorem at_any (a : Option Addr) (len cap p S : Nat) (most : Int) (hm : most ≤ 1048576) (w : World) (hr : WSrc.RowB w S a len cap) :
    Calls Try.prog 10 #[.slice a len cap, .int .i64 (p : Int), .int .i64 most] w fun e w' => (∃ r : Int, e = .returned (.int .i64 r) ∧ 0 ≤ r ∧ (r = 0 ∨ r < most)) ∧ w' = w := by
  by_cases h1 : most ≤ 1
  · clear hr
    go_enter Try.func10, Try.ntmps10
    go_wp2
    go_ret
    exact ⟨⟨0, rfl, by omega, .inl rfl⟩, rfl⟩
  by_cases h2 : len = 0
  · subst h2
    clear hr
    go_enter Try.func10, Try.ntmps10
    go_wp2
    go_ret
    exact ⟨⟨0, rfl, by omega, .inl rfl⟩, rfl⟩
  have hl : (len : Int) ≤ 9223372036854775807 := by have h1 := hr.2.1; have h2 := hr.1; unfold maxLen at h1; omega
  have t1 : ¬ (len : Int) = 0 := by omega
  have hlt : p % len < len := Nat.mod_lt _ (by omega)
  have ht : (p : Int).tmod (len : Int) = ((p % len : Nat) : Int) := rfl
  obtain ⟨g, o, n, rfl, hg, hn, hc⟩ := hr.2.2 _ hlt
  generalize p % len = q at hlt ht hc
  have u1 : (q : Int) < (len : Int) := by omega
  have u2 : (0 : Int) ≤ (q : Int) := by omega
  have hz := Int.tmod_nonneg most (show (0 : Int) ≤ (n : Int) by omega)
  have hy := Int.tmod_lt_of_pos (n : Int) (show 0 < most by omega)
  have hw : IntKind.i64.wrap ((n : Int).tmod most) = (n : Int).tmod most := by rw [IntKind.wrap_i64]; omega
  have hw2 : IntKind.i64.wrap (q : Int) = (q : Int) := by rw [IntKind.wrap_i64]; omega
  have t2 : ¬ most = 0 := by omega
  clear hr
  go_enter Try.func10, Try.ntmps10
  go_wp2
  go_ret
  exact ⟨⟨_, rfl, Int.emod_nonneg _ (by omega), .inr (Int.emod_lt_of_pos _ (by omega))⟩, rfl⟩
theorem good_iff (s : ByteArray) (_h4 : 4 ≤ s.size) : WUnseal.good s = decide ((Pl.by_ s).drop (s.size - 4) = Pl.four (Pl.crcOut 0 ((Pl.by_ s).take (s.size - 4)))) := by
  have e : (s.extract (s.size - 4) s.size).toList = (Pl.by_ s).drop (s.size - 4) := by
    rw [ByteArray.toList_eq]
    show Pl.by_ _ = _
    rw [Pl.by_extract, List.take_of_length_le (by rw [List.length_drop, Pl.by_length]; omega)]
  unfold WUnseal.good
  rw [e]
  show (_ == _) = _
  by_cases h : (Pl.by_ s).drop (s.size - 4) = Pl.four (Pl.crcOut 0 ((Pl.by_ s).take (s.size - 4)))
  · rw [h]
    simp [Pl.by_]
  · rw [decide_eq_false h]
    exact beq_eq_false_iff_ne.2 (fun e => h e.symm)
theorem by_sealed {t : ByteArray} (h : ¬ 7996 < t.size) : Pl.by_ (WSeal.sealed t) = Pl.by_ t ++ Pl.four (Pl.crcOut 0 (Pl.by_ t)) := by
  rw [WSeal.sealed_short h, Pl.by_mk]; rfl
theorem size_sealed {t : ByteArray} (h : ¬ 7996 < t.size) : (WSeal.sealed t).size = t.size + 4 := by
  rw [← Pl.by_length, by_sealed h, List.length_append, Pl.by_length]; rfl
theorem out_sealed {t : ByteArray} (h : ¬ 7996 < t.size) : WUnseal.out (WSeal.sealed t) = .agg #[.string t, .int .i64 0, .int .i64 0] := by
  have hs := size_sealed h
  have hb := by_sealed h
  have hg : WUnseal.good (WSeal.sealed t) = true := by
    rw [good_iff _ (by omega), hs, hb, show t.size + 4 - 4 = t.size by omega, ← Pl.by_length t, List.drop_left, List.take_left]
    simp
  unfold WUnseal.out WUnseal.text WUnseal.code
  rw [if_neg (by omega), if_neg (by omega), if_pos hg, if_neg (by omega), if_neg (by omega), if_pos hg]
  congr 4
  apply Pl.by_inj
  rw [Pl.by_extract, hb, hs, List.drop_zero, show t.size + 4 - 4 - 0 = t.size by omega, ← Pl.by_length t, List.take_left]
theorem out_turned {t S : ByteArray} {k : Nat} {c : UInt8} (h : ¬ 7996 < t.size) (hk : k < t.size + 4) (hc : (Pl.by_ (WSeal.sealed t))[k]? ≠ some c) (hS : Pl.by_ S = (Pl.by_ (WSeal.sealed t)).set k c) : ∃ y, WUnseal.out S = .agg #[.string y, .int .i64 0, .int .i64 5] := by
  have hs := size_sealed h
  have hl : S.size = t.size + 4 := by rw [← Pl.by_length, hS, List.length_set, Pl.by_length, hs]
  have hL : (Pl.by_ (WSeal.sealed t)).length = t.size + 4 := by rw [Pl.by_length, hs]
  have key := Pl.seal_turned (Pl.by_ t) k c (Pl.by_ (WSeal.sealed t)) (by_sealed h) (by rw [hL]; exact hk) hc
  rw [hL, ← hS] at key
  have hg : WUnseal.good S = false := by
    rw [good_iff _ (by omega), hl]
    exact decide_eq_false key
  refine ⟨WUnseal.text S, ?_⟩
  unfold WUnseal.out WUnseal.code
  rw [if_neg (by omega), if_neg (by omega), if_neg (by rw [hg]; simp)]
theorem crc_more {t u : ByteArray} (h : t.size + u.size ≤ 8000) : Pl.crcMore (Pl.crcMore 0 t) u = Pl.crcMore 0 (t ++ u) := by
  have h1 := Pl.crcMore_yes (c := 0) (s := t) (by omega) (by omega)
  have h2 := Pl.crcMore_yes (c := 0) (s := t ++ u) (by rw [ByteArray.size_append]; omega) (by omega)
  have h3 := Pl.crcMore_yes (c := Pl.crcOut 0 t.data.toList) (s := u) (by omega) (by have := Pl.crcOut_le 0 t.data.toList; omega)
  have e0 : ((0 : Nat) : Int) = 0 := rfl
  rw [e0] at h1 h2
  rw [h1, h3, h2, Pl.crcOut_more]
  simp
set_option linter.unusedSimpArgs false in
set_option maxRecDepth 100000 in
set_option maxHeartbeats 2000000 in
theorem walk (a0 : Option Addr) (len0 cap0 : Nat) (a1 : Option Addr) (len1 cap1 : Nat) (w : World) (w0 : WSrc.RowB w w.heap.size a0 len0 cap0) (w1 : WSrc.RowB w w.heap.size a1 len1 cap1) :
    Calls Try.prog 3 #[.slice a0 len0 cap0, .slice a1 len1 cap1] w fun e w' => e = .returned (.bool true) ∧ Below w.heap.size w w' := by
  by_cases hL0 : (1048576 : Int) < (len0 : Int)
  · clear w0 w1
    go_enter Try.func3, Try.ntmps3
    go_wp2
    go_ret
    exact ⟨rfl, Below.refl _ _⟩
  by_cases hL1 : (1048576 : Int) < (len1 : Int)
  · clear w0 w1
    go_enter Try.func3, Try.ntmps3
    go_wp2
    go_ret
    exact ⟨rfl, Below.refl _ _⟩
  have hf2 : ∀ (y1 : ByteArray) (y2 : Int) (W : World), (Instr.field 27 (.agg #[.string y1, .int .i64 y2, .int .i64 5]) 2).run Try.prog W = .ok (.int .i64 5) W := fun _ _ _ => by kernel_rfl
  have hd1 := hide (WSrc.drawSeal_any a0 len0 cap0 w w0)
  have hd2 := hide (fun W (b : Below w.heap.size w W) => WSrc.drawCrcMore_any a1 len1 cap1 W (row_below w1 b))
  have HR1 := hide (fun W (b : Below w.heap.size w W) => row_cells w1 b.block)
  clear w0 w1
  go_enter Try.func3, Try.ntmps3
  go_wp2_with fail
  refine (unhide hd1).mono ?_
  rintro e v1 ⟨t, ht, rfl, b1⟩
  clear hd1
  have hsI := hide (fun W => WSeal.impl_any t W (by unfold maxLen; omega))
  have hsS := hide (fun W => WSeal.spec_any t W (by unfold maxLen; omega))
  by_cases hlong : 7996 < t.size
  · rw [WSeal.sealed_long hlong] at hsI hsS
    clear HR1
    go_wp2_with fail
    refine (unhide hsI _).mono ?_
    rintro e v2 ⟨rfl, b2⟩
    have bw2 := b1.trans (b2.mono b1.size)
    go_wp2_with fail
    refine (unhide hsS _).mono ?_
    rintro e v3 ⟨rfl, b3⟩
    have BW := bw2.trans (b3.mono bw2.size)
    clear hsI hsS b1 b2 bw2 b3
    go_wp2_with fail
    refine (unhide hd2 _ BW).mono ?_
    rintro e vA ⟨r, u, hu, rfl, bA⟩
    have bB := BW.trans (bA.mono BW.size)
    clear hd2 BW bA
    by_cases hbig : (8000 : Int) < (t.size : Int) + (u.size : Int)
    · go_wp2
      go_ret
      exact ⟨rfl, bB⟩
    have c1 := hide (fun W => WCrc.more_any r u W (by unfold maxLen; omega))
    have c2 := hide (fun W => WCrc.specMore_any r u W (by unfold maxLen; omega))
    have c3 := hide (fun W => WCrc.crc_any t W (by unfold maxLen; omega))
    have c4 := hide (fun W => WCrc.more_any (Pl.crcMore 0 t) u W (by unfold maxLen; omega))
    have c5 := hide (fun W => WCrc.crc_any (t ++ u) W (by unfold maxLen; rw [ByteArray.size_append]; omega))
    rw [crc_more (by omega)] at c4
    generalize Pl.crcMore 0 (t ++ u) = z5 at c4 c5
    generalize Pl.crcMore 0 t = z3 at c3 c4
    generalize Pl.crcMore r u = z1 at c1 c2
    go_wp2_with fail
    refine (unhide c1 _).mono ?_
    rintro e _ ⟨rfl, rfl⟩
    go_wp2_with fail
    refine (unhide c2 _).mono ?_
    rintro e _ ⟨rfl, rfl⟩
    go_wp2_with fail
    refine (unhide c3 _).mono ?_
    rintro e _ ⟨rfl, rfl⟩
    go_wp2_with fail
    refine (unhide c4 _).mono ?_
    rintro e _ ⟨rfl, rfl⟩
    go_wp2_with fail
    refine (unhide c5 _).mono ?_
    rintro e _ ⟨rfl, rfl⟩
    clear c1 c2 c3 c4 c5
    go_wp2
    go_ret
    exact ⟨rfl, bB⟩
  have hSb := by_sealed hlong
  have hSs := size_sealed hlong
  have hSo := out_sealed hlong
  have HTU := hide (fun (S : ByteArray) (k : Nat) (c : UInt8) (hk : k < t.size + 4) hc hS => out_turned (t := t) (S := S) (k := k) (c := c) hlong hk hc hS)
  generalize WSeal.sealed t = S at hsI hsS hSb hSs hSo HTU
  have hSe : S.toList.isEmpty = false := by rw [Pl.empty_list]; exact decide_eq_false (fun h => by rw [Pl.by_nil] at h; omega)
  go_wp2_with fail
  refine (unhide hsI _).mono ?_
  rintro e v2 ⟨rfl, b2⟩
  have bw2 := b1.trans (b2.mono b1.size)
  go_wp2_with fail
  refine (unhide hsS _).mono ?_
  rintro e v3 ⟨rfl, b3⟩
  have BW := bw2.trans (b3.mono bw2.size)
  clear hsI hsS b1 b2 bw2 b3
  have hcv := run_bytes_of_string (P := Try.prog) v3 9 22 5 S Try.underlying9 Try.underlying22 Try.underlying5
  go_wp2_with fail
  have hbk : (v3.alloc (.cells (bytesRow S (grownCap v3 (t.size + 4) 0 5)) 5 ((bytesRow S (grownCap v3 (t.size + 4) 0 5)).size, (bytesRow S (grownCap v3 (t.size + 4) 0 5)).size + 1))).drew.heap[v3.heap.size]? = some (.cells (bytesRow S (grownCap v3 (t.size + 4) 0 5)) 5 ((bytesRow S (grownCap v3 (t.size + 4) 0 5)).size, (bytesRow S (grownCap v3 (t.size + 4) 0 5)).size + 1)) := heap_alloc_new v3 _
  have bB : Below w.heap.size w (v3.alloc (.cells (bytesRow S (grownCap v3 (t.size + 4) 0 5)) 5 ((bytesRow S (grownCap v3 (t.size + 4) 0 5)).size, (bytesRow S (grownCap v3 (t.size + 4) 0 5)).size + 1))).drew := Mem.below_drewN (BW.alloc BW.size _) 1
  have hszB : S.size ≤ (bytesRow S (grownCap v3 (t.size + 4) 0 5)).size := by
    simp [bytesRow]
  have hcl : ∀ (j : Nat) (x : UInt8), (Pl.by_ S)[j]? = some x → (bytesRow S (grownCap v3 (t.size + 4) 0 5))[j]? = some (Value.int .u8 (x.toNat : Int)) := fun j x hx => by
    have hj : j < S.data.size := by have := (List.getElem?_eq_some_iff.1 hx).1; rw [Pl.by_length] at this; exact this
    rw [bytesRow, Array.getElem?_append_left (by simpa using hj), Array.getElem?_map]
    rw [Pl.by_, Array.getElem?_toList] at hx
    rw [hx]; rfl
  generalize bytesRow S (grownCap v3 (t.size + 4) 0 5) = BR at hbk bB hszB hcl ⊢
  generalize (v3.alloc (.cells BR 5 (BR.size, BR.size + 1))).drew = WB at hbk bB ⊢
  have hgl : v3.heap.size < WB.heap.size := (Array.getElem?_eq_some_iff.1 hbk).1
  have hgw : w.heap.size ≤ v3.heap.size := BW.size
  generalize v3.heap.size = g at hbk hgl hgw ⊢
  have hat1 := hide (at_any a1 len1 cap1 0 w.heap.size ((t.size : Int) + 4) (by omega) WB (unhide HR1 _ bB))
  have hat2 := hide (at_any a1 len1 cap1 1 w.heap.size 255 (by omega) WB.drew (unhide HR1 _ (Mem.below_drewN bB 1)))
  have HBK := hide hbk
  have HCL := hide hcl
  clear HR1 hcv BW hbk hcl
  refine (unhide hat1).mono ?_
  rintro e wZ ⟨⟨r1, rfl, hr10, hr11⟩, hwZ⟩
  subst wZ
  obtain ⟨k, rfl⟩ : ∃ k : Nat, r1 = (k : Int) := ⟨r1.toNat, by omega⟩
  have hk : k < t.size + 4 := by omega
  obtain ⟨x, hx⟩ : ∃ x, (Pl.by_ S)[k]? = some x := ⟨_, List.getElem?_eq_getElem (by rw [Pl.by_length, hSs]; exact hk)⟩
  have s0 : WB.cell? ⟨g, k, none⟩ = some (Value.int .u8 (x.toNat : Int)) := by
    rw [cell_of_row WB g k _ _ _ (unhide HBK)]; exact unhide HCL k x hx
  have f0 : WB.frozen? ⟨g, k, none⟩ = false := by
    simp [World.frozen?, unhide HBK]; omega
  have HXO : Hid (∀ r2 : Int, 0 ≤ r2 → r2 < 255 → ∃ c : UInt8, bits .xor .u8 (x.toNat : Int) (1 + r2) = (c.toNat : Int) ∧ c ≠ x) := hide (fun r2 h0 h1 => by
    obtain ⟨y, rfl⟩ : ∃ y : Nat, r2 = (y : Int) := ⟨r2.toNat, by omega⟩
    have hxl := x.toNat_lt
    have hlt : x.toNat ^^^ (1 + y) < 2 ^ 8 := Nat.xor_lt_two_pow (by omega) (by omega)
    refine ⟨UInt8.ofNat (x.toNat ^^^ (1 + y)), ?_, fun e => ?_⟩
    · rw [show (1 : Int) + (y : Int) = ((1 + y : Nat) : Int) by omega, u8_xor_nat _ _ (by omega) (by omega)]
      rw [UInt8.toNat_ofNat', Nat.mod_eq_of_lt hlt]
    · have h2 := congrArg UInt8.toNat e
      rw [UInt8.toNat_ofNat', Nat.mod_eq_of_lt hlt] at h2
      have h3 := Pl.xor_can' (a := x.toNat) (b := 1 + y) (c := 0) (by rw [Nat.xor_zero]; exact h2)
      omega)
  have HC1 : Hid (∀ (c : UInt8) (j : Nat) (y : UInt8), ((Pl.by_ S).set k c)[j]? = some y → (WB.setCell ⟨g, k, none⟩ (.int .u8 (c.toNat : Int))).drew.cell? ⟨g, j, none⟩ = some (Value.int .u8 (y.toNat : Int))) := hide (fun c j y hy => by
    by_cases e : k = j
    · subst e
      rw [List.getElem?_set_self (by rw [Pl.by_length, hSs]; exact hk)] at hy
      obtain rfl := Option.some.inj hy
      exact World.cell?_setCell_same (h := s0) ..
    · rw [List.getElem?_set_ne e] at hy
      refine Eq.trans (World.cell?_setCell_other (w := WB) (h := fun h => e (congrArg Addr.off h)) ..) ((cell_of_row WB g j _ _ _ (unhide HBK)).trans (unhide HCL j y hy)))
  have HB1 : Hid (∀ c : UInt8, Below w.heap.size w (WB.setCell ⟨g, k, none⟩ (.int .u8 (c.toNat : Int))).drew) := hide (fun c => Mem.below_drewN (bB.setCell hgw _) 1)
  have HG1 : Hid (∀ c : UInt8, g < (WB.setCell ⟨g, k, none⟩ (.int .u8 (c.toNat : Int))).drew.heap.size) := hide (fun c => by
    show g < (WB.setCell ⟨g, k, none⟩ (.int .u8 (c.toNat : Int))).heap.size
    rw [World.size_setCell]; exact hgl)
  have u1 : (k : Int) < (t.size : Int) + 4 := by omega
  have u2 : (0 : Int) ≤ (k : Int) := by omega
  clear hat1 hr10 hr11
  go_wp2_with fail
  refine wp_region_held_drew (S := fun _ => True) (by kernel_rfl) ?_ (fun hHeld => ?_)
  · trivial
  refine wpAnyH_take (i := 0) (v := ?_) rfl (by kernel_rfl) (by kernel_rfl) (by kernel_rfl) (fun _ _ _ h => h) (Or.inl ⟨by rfl, ?_⟩) (by assumption) ?_
  rotate_left
  · (intro w hSw; (try dsimp only at hSw); go_simp; (try with_reducible rfl))
  try simp only [Act.put, List.getElem_toArray, List.getElem_cons_zero, List.getElem_cons_succ, List.setIfInBounds_toArray, List.set_cons_zero, List.set_cons_succ]
  refine wpAnyH_take (i := 1) (v := ?_) rfl (by kernel_rfl) (by kernel_rfl) (by kernel_rfl) (fun _ _ _ h => h) (Or.inl ⟨by rfl, ?_⟩) (by assumption) ?_
  rotate_left
  · (intro w hSw; (try dsimp only at hSw); go_simp; (try with_reducible rfl))
  try simp only [Act.put, List.getElem_toArray, List.getElem_cons_zero, List.getElem_cons_succ, List.setIfInBounds_toArray, List.set_cons_zero, List.set_cons_succ]
  refine wpAnyH_take (i := 2) (v := ?_) rfl (by kernel_rfl) (by kernel_rfl) (by kernel_rfl) (fun _ _ _ h => h) (Or.inl ⟨by rfl, ?_⟩) (by assumption) ?_
  rotate_left
  · (intro w hSw; (try dsimp only at hSw); go_simp; (try with_reducible rfl))
  try simp only [Act.put, List.getElem_toArray, List.getElem_cons_zero, List.getElem_cons_succ, List.setIfInBounds_toArray, List.set_cons_zero, List.set_cons_succ]
  refine wpAnyH_take (i := 3) (v := ?_) rfl (by kernel_rfl) (by kernel_rfl) (by kernel_rfl) (fun _ _ _ h => h) (Or.inl ⟨by rfl, ?_⟩) (by assumption) ?_
  rotate_left
  · (intro w hSw; (try dsimp only at hSw); go_simp; (try with_reducible rfl))
  try simp only [Act.put, List.getElem_toArray, List.getElem_cons_zero, List.getElem_cons_succ, List.setIfInBounds_toArray, List.set_cons_zero, List.set_cons_succ]
  refine wpAnyH_take (i := 4) (v := ?_) rfl (by kernel_rfl) (by kernel_rfl) (by kernel_rfl) (fun _ _ _ h => h) (Or.inl ⟨by rfl, ?_⟩) (by assumption) ?_
  rotate_left
  · (intro w hSw; (try dsimp only at hSw); go_simp; (try with_reducible rfl))
  try simp only [Act.put, List.getElem_toArray, List.getElem_cons_zero, List.getElem_cons_succ, List.setIfInBounds_toArray, List.set_cons_zero, List.set_cons_succ]
  refine wpAnyH_take (i := 6) (v := ?_) rfl (by kernel_rfl) (by kernel_rfl) (by kernel_rfl) (fun _ _ _ h => h) (Or.inl ⟨by rfl, ?_⟩) (by assumption) ?_
  rotate_left
  · (intro w hSw; (try dsimp only at hSw); go_simp; (try with_reducible rfl))
  try simp only [Act.put, List.getElem_toArray, List.getElem_cons_zero, List.getElem_cons_succ, List.setIfInBounds_toArray, List.set_cons_zero, List.set_cons_succ]
  refine wpAnyH_ready (rs := [5, 7]) (by kernel_rfl) (by simp) ?_
  refine AllReadyH.cons rfl (fun K hK => ?_) (AllReadyH.cons rfl (fun K hK => ?_) AllReadyH.nil)
  · go_simp
    refine hK.out _ _ trivial (fun _ => ?_)
    clear hK K
    try simp only [Act.put, List.getElem_toArray, List.getElem_cons_zero, List.getElem_cons_succ, List.setIfInBounds_toArray, List.set_cons_zero, List.set_cons_succ]
    refine wpAnyH_ready (rs := [7]) (by kernel_rfl) (by simp) ?_
    refine AllReadyH.cons rfl (fun K hK => ?_) AllReadyH.nil
    go_simp
    refine (unhide hat2).mono ?_
    rintro e wZ ⟨⟨r2, rfl, hr20, hr21⟩, hwZ⟩
    subst wZ
    obtain ⟨c, hc1, hc2⟩ := unhide HXO r2 hr20 (by omega)
    have hw64 : IntKind.i64.wrap (1 + r2) = 1 + r2 := by rw [IntKind.wrap_i64]; omega
    have hw8 : IntKind.u8.wrap (1 + r2) = 1 + r2 := by rw [IntKind.wrap_u8]; omega
    refine hK.out _ _ trivial (fun _ => ?_)
    clear hK K
    try simp only [Act.put, List.getElem_toArray, List.getElem_cons_zero, List.getElem_cons_succ, List.setIfInBounds_toArray, List.set_cons_zero, List.set_cons_succ]
    refine wpAnyH_take (i := 8) (v := ?_) rfl (by kernel_rfl) (by kernel_rfl) (by kernel_rfl) (fun _ _ _ h => h) (Or.inl ⟨by rfl, ?_⟩) (by assumption) ?_
    rotate_left
    · (intro w hSw; (try dsimp only at hSw); go_simp; (try with_reducible rfl))
    try simp only [Act.put, List.getElem_toArray, List.getElem_cons_zero, List.getElem_cons_succ, List.setIfInBounds_toArray, List.set_cons_zero, List.set_cons_succ]
    refine wpAnyH_take (i := 9) (v := ?_) rfl (by kernel_rfl) (by kernel_rfl) (by kernel_rfl) (fun _ _ _ h => h) (Or.inl ⟨by rfl, ?_⟩) (by assumption) ?_
    rotate_left
    · (intro w hSw; (try dsimp only at hSw); go_simp; (try with_reducible rfl))
    try simp only [Act.put, List.getElem_toArray, List.getElem_cons_zero, List.getElem_cons_succ, List.setIfInBounds_toArray, List.set_cons_zero, List.set_cons_succ]
    refine wpAnyH_take (i := 10) (v := ?_) rfl (by kernel_rfl) (by kernel_rfl) (by kernel_rfl) (fun _ _ _ h => h) (Or.inl ⟨by rfl, ?_⟩) (by assumption) ?_
    rotate_left
    · (intro w hSw; (try dsimp only at hSw); go_simp; (try with_reducible rfl))
    try simp only [Act.put, List.getElem_toArray, List.getElem_cons_zero, List.getElem_cons_succ, List.setIfInBounds_toArray, List.set_cons_zero, List.set_cons_succ]
    refine wpAnyH_take (i := 11) (v := ?_) rfl (by kernel_rfl) (by kernel_rfl) (by kernel_rfl) (fun _ _ _ h => h) (Or.inl ⟨by rfl, ?_⟩) (by assumption) ?_
    rotate_left
    · (intro w hSw; (try dsimp only at hSw); go_simp; (try with_reducible rfl))
    try simp only [Act.put, List.getElem_toArray, List.getElem_cons_zero, List.getElem_cons_succ, List.setIfInBounds_toArray, List.set_cons_zero, List.set_cons_succ]
    refine wpAnyH_ready (rs := [12]) (by kernel_rfl) (by simp) ?_
    refine AllReadyH.cons rfl (fun K hK => ?_) AllReadyH.nil
    go_simp
    refine hK.out _ _ trivial (fun _ => ?_)
    clear hK K
    try simp only [Act.put, List.getElem_toArray, List.getElem_cons_zero, List.getElem_cons_succ, List.setIfInBounds_toArray, List.set_cons_zero, List.set_cons_succ]
    refine wpAnyH_done (by kernel_rfl) ?_ _
    try simp only [hw64, hw8, hc1]
    clear hw64 hw8 hc1 hat2 hHeld HXO s0 f0 hr20 hr21
    go_wp2_with fail
    have bW1 := unhide HB1 c
    have hg1 := unhide HG1 c
    have hC1 := unhide HC1 c
    clear HB1 HG1 HC1
    generalize (WB.setCell ⟨g, k, none⟩ (.int .u8 (c.toNat : Int))).drew = W1 at bW1 hg1 hC1 ⊢
    have hu1 := WUnseal.impl_any S W1 (by unfold maxLen; omega)
    rw [hSo] at hu1
    refine hu1.mono ?_
    rintro e v4 ⟨rfl, b4⟩
    have BW := bW1.trans (b4.mono bW1.size)
    have hcv : (convert 22 9 (.slice (some ⟨g, 0, none⟩) (t.size + 4) (grownCap v3 (t.size + 4) 0 5))).run Try.prog v4 = .ok (.string ⟨((Pl.by_ S).set k c).toArray⟩) v4 := by
      have hl : ((Pl.by_ S).set k c).length = t.size + 4 := by rw [List.length_set, Pl.by_length, hSs]
      have e := run_convert_bytes_back (P := Try.prog) v4 22 9 5 ⟨g, 0, none⟩ (grownCap v3 (t.size + 4) 0 5) ((Pl.by_ S).set k c) Try.underlying22 Try.underlying5 Try.underlying9 (fun j hj => by
        have h := (b4.cell (p := ⟨g, j, none⟩) hg1).trans (hC1 j _ (List.getElem?_eq_getElem hj))
        rw [Mem.add_lit]
        exact h)
      rw [hl] at e
      exact e
    obtain ⟨y, hy⟩ := unhide HTU ⟨((Pl.by_ S).set k c).toArray⟩ k c hk (by rw [hx]; exact fun e => hc2 (Option.some.inj e).symm) (by rw [Pl.by_mk])
    have hz : (⟨((Pl.by_ S).set k c).toArray⟩ : ByteArray).size = t.size + 4 := by rw [← Pl.by_length, Pl.by_mk, List.length_set, Pl.by_length, hSs]
    generalize (⟨((Pl.by_ S).set k c).toArray⟩ : ByteArray) = S2 at hcv hy hz
    have hu2 := hide (fun W => WUnseal.impl_any S2 W (by unfold maxLen; omega))
    rw [hy] at hu2
    clear HTU hC1 hg1 hu1 bW1 b4 HCL HBK hx hc2 hk hszB hgl hgw bB hSo hSb
    go_wp2_with fail
    refine (unhide hu2 _).mono ?_
    rintro e v5 ⟨rfl, b5⟩
    have BW := BW.trans (b5.mono BW.size)
    clear hu2 b5 hy hcv
    go_wp2_with fail
    refine (unhide hd2 _ BW).mono ?_
    rintro e vA ⟨r, u, hu, rfl, bA⟩
    have bB := BW.trans (bA.mono BW.size)
    clear hd2 BW bA
    by_cases hbig : (8000 : Int) < (t.size : Int) + (u.size : Int)
    · go_wp2
      go_ret
      exact ⟨rfl, bB⟩
    have c1 := hide (fun W => WCrc.more_any r u W (by unfold maxLen; omega))
    have c2 := hide (fun W => WCrc.specMore_any r u W (by unfold maxLen; omega))
    have c3 := hide (fun W => WCrc.crc_any t W (by unfold maxLen; omega))
    have c4 := hide (fun W => WCrc.more_any (Pl.crcMore 0 t) u W (by unfold maxLen; omega))
    have c5 := hide (fun W => WCrc.crc_any (t ++ u) W (by unfold maxLen; rw [ByteArray.size_append]; omega))
    rw [crc_more (by omega)] at c4
    generalize Pl.crcMore 0 (t ++ u) = z5 at c4 c5
    generalize Pl.crcMore 0 t = z3 at c3 c4
    generalize Pl.crcMore r u = z1 at c1 c2
    go_wp2_with fail
    refine (unhide c1 _).mono ?_
    rintro e _ ⟨rfl, rfl⟩
    go_wp2_with fail
    refine (unhide c2 _).mono ?_
    rintro e _ ⟨rfl, rfl⟩
    go_wp2_with fail
    refine (unhide c3 _).mono ?_
    rintro e _ ⟨rfl, rfl⟩
    go_wp2_with fail
    refine (unhide c4 _).mono ?_
    rintro e _ ⟨rfl, rfl⟩
    go_wp2_with fail
    refine (unhide c5 _).mono ?_
    rintro e _ ⟨rfl, rfl⟩
    clear c1 c2 c3 c4 c5
    go_wp2
    go_ret
    exact ⟨rfl, bB⟩
  · go_simp
    refine (unhide hat2).mono ?_
    rintro e wZ ⟨⟨r2, rfl, hr20, hr21⟩, hwZ⟩
    subst wZ
    obtain ⟨c, hc1, hc2⟩ := unhide HXO r2 hr20 (by omega)
    have hw64 : IntKind.i64.wrap (1 + r2) = 1 + r2 := by rw [IntKind.wrap_i64]; omega
    have hw8 : IntKind.u8.wrap (1 + r2) = 1 + r2 := by rw [IntKind.wrap_u8]; omega
    refine hK.out _ _ trivial (fun _ => ?_)
    clear hK K
    try simp only [Act.put, List.getElem_toArray, List.getElem_cons_zero, List.getElem_cons_succ, List.setIfInBounds_toArray, List.set_cons_zero, List.set_cons_succ]
    refine wpAnyH_take (i := 8) (v := ?_) rfl (by kernel_rfl) (by kernel_rfl) (by kernel_rfl) (fun _ _ _ h => h) (Or.inl ⟨by rfl, ?_⟩) (by assumption) ?_
    rotate_left
    · (intro w hSw; (try dsimp only at hSw); go_simp; (try with_reducible rfl))
    try simp only [Act.put, List.getElem_toArray, List.getElem_cons_zero, List.getElem_cons_succ, List.setIfInBounds_toArray, List.set_cons_zero, List.set_cons_succ]
    refine wpAnyH_take (i := 9) (v := ?_) rfl (by kernel_rfl) (by kernel_rfl) (by kernel_rfl) (fun _ _ _ h => h) (Or.inl ⟨by rfl, ?_⟩) (by assumption) ?_
    rotate_left
    · (intro w hSw; (try dsimp only at hSw); go_simp; (try with_reducible rfl))
    try simp only [Act.put, List.getElem_toArray, List.getElem_cons_zero, List.getElem_cons_succ, List.setIfInBounds_toArray, List.set_cons_zero, List.set_cons_succ]
    refine wpAnyH_ready (rs := [5]) (by kernel_rfl) (by simp) ?_
    refine AllReadyH.cons rfl (fun K hK => ?_) AllReadyH.nil
    go_simp
    refine hK.out _ _ trivial (fun _ => ?_)
    clear hK K
    try simp only [Act.put, List.getElem_toArray, List.getElem_cons_zero, List.getElem_cons_succ, List.setIfInBounds_toArray, List.set_cons_zero, List.set_cons_succ]
    refine wpAnyH_take (i := 10) (v := ?_) rfl (by kernel_rfl) (by kernel_rfl) (by kernel_rfl) (fun _ _ _ h => h) (Or.inl ⟨by rfl, ?_⟩) (by assumption) ?_
    rotate_left
    · (intro w hSw; (try dsimp only at hSw); go_simp; (try with_reducible rfl))
    try simp only [Act.put, List.getElem_toArray, List.getElem_cons_zero, List.getElem_cons_succ, List.setIfInBounds_toArray, List.set_cons_zero, List.set_cons_succ]
    refine wpAnyH_take (i := 11) (v := ?_) rfl (by kernel_rfl) (by kernel_rfl) (by kernel_rfl) (fun _ _ _ h => h) (Or.inl ⟨by rfl, ?_⟩) (by assumption) ?_
    rotate_left
    · (intro w hSw; (try dsimp only at hSw); go_simp; (try with_reducible rfl))
    try simp only [Act.put, List.getElem_toArray, List.getElem_cons_zero, List.getElem_cons_succ, List.setIfInBounds_toArray, List.set_cons_zero, List.set_cons_succ]
    refine wpAnyH_ready (rs := [12]) (by kernel_rfl) (by simp) ?_
    refine AllReadyH.cons rfl (fun K hK => ?_) AllReadyH.nil
    go_simp
    refine hK.out _ _ trivial (fun _ => ?_)
    clear hK K
    try simp only [Act.put, List.getElem_toArray, List.getElem_cons_zero, List.getElem_cons_succ, List.setIfInBounds_toArray, List.set_cons_zero, List.set_cons_succ]
    refine wpAnyH_done (by kernel_rfl) ?_ _
    try simp only [hw64, hw8, hc1]
    clear hw64 hw8 hc1 hat2 hHeld HXO s0 f0 hr20 hr21
    go_wp2_with fail
    have bW1 := unhide HB1 c
    have hg1 := unhide HG1 c
    have hC1 := unhide HC1 c
    clear HB1 HG1 HC1
    generalize (WB.setCell ⟨g, k, none⟩ (.int .u8 (c.toNat : Int))).drew = W1 at bW1 hg1 hC1 ⊢
    have hu1 := WUnseal.impl_any S W1 (by unfold maxLen; omega)
    rw [hSo] at hu1
    refine hu1.mono ?_
    rintro e v4 ⟨rfl, b4⟩
    have BW := bW1.trans (b4.mono bW1.size)
    have hcv : (convert 22 9 (.slice (some ⟨g, 0, none⟩) (t.size + 4) (grownCap v3 (t.size + 4) 0 5))).run Try.prog v4 = .ok (.string ⟨((Pl.by_ S).set k c).toArray⟩) v4 := by
      have hl : ((Pl.by_ S).set k c).length = t.size + 4 := by rw [List.length_set, Pl.by_length, hSs]
      have e := run_convert_bytes_back (P := Try.prog) v4 22 9 5 ⟨g, 0, none⟩ (grownCap v3 (t.size + 4) 0 5) ((Pl.by_ S).set k c) Try.underlying22 Try.underlying5 Try.underlying9 (fun j hj => by
        have h := (b4.cell (p := ⟨g, j, none⟩) hg1).trans (hC1 j _ (List.getElem?_eq_getElem hj))
        rw [Mem.add_lit]
        exact h)
      rw [hl] at e
      exact e
    obtain ⟨y, hy⟩ := unhide HTU ⟨((Pl.by_ S).set k c).toArray⟩ k c hk (by rw [hx]; exact fun e => hc2 (Option.some.inj e).symm) (by rw [Pl.by_mk])
    have hz : (⟨((Pl.by_ S).set k c).toArray⟩ : ByteArray).size = t.size + 4 := by rw [← Pl.by_length, Pl.by_mk, List.length_set, Pl.by_length, hSs]
    generalize (⟨((Pl.by_ S).set k c).toArray⟩ : ByteArray) = S2 at hcv hy hz
    have hu2 := hide (fun W => WUnseal.impl_any S2 W (by unfold maxLen; omega))
    rw [hy] at hu2
    clear HTU hC1 hg1 hu1 bW1 b4 HCL HBK hx hc2 hk hszB hgl hgw bB hSo hSb
    go_wp2_with fail
    refine (unhide hu2 _).mono ?_
    rintro e v5 ⟨rfl, b5⟩
    have BW := BW.trans (b5.mono BW.size)
    clear hu2 b5 hy hcv
    go_wp2_with fail
    refine (unhide hd2 _ BW).mono ?_
    rintro e vA ⟨r, u, hu, rfl, bA⟩
    have bB := BW.trans (bA.mono BW.size)
    clear hd2 BW bA
    by_cases hbig : (8000 : Int) < (t.size : Int) + (u.size : Int)
    · go_wp2
      go_ret
      exact ⟨rfl, bB⟩
    have c1 := hide (fun W => WCrc.more_any r u W (by unfold maxLen; omega))
    have c2 := hide (fun W => WCrc.specMore_any r u W (by unfold maxLen; omega))
    have c3 := hide (fun W => WCrc.crc_any t W (by unfold maxLen; omega))
    have c4 := hide (fun W => WCrc.more_any (Pl.crcMore 0 t) u W (by unfold maxLen; omega))
    have c5 := hide (fun W => WCrc.crc_any (t ++ u) W (by unfold maxLen; rw [ByteArray.size_append]; omega))
    rw [crc_more (by omega)] at c4
    generalize Pl.crcMore 0 (t ++ u) = z5 at c4 c5
    generalize Pl.crcMore 0 t = z3 at c3 c4
    generalize Pl.crcMore r u = z1 at c1 c2
    go_wp2_with fail
    refine (unhide c1 _).mono ?_
    rintro e _ ⟨rfl, rfl⟩
    go_wp2_with fail
    refine (unhide c2 _).mono ?_
    rintro e _ ⟨rfl, rfl⟩
    go_wp2_with fail
    refine (unhide c3 _).mono ?_
    rintro e _ ⟨rfl, rfl⟩
    go_wp2_with fail
    refine (unhide c4 _).mono ?_
    rintro e _ ⟨rfl, rfl⟩
    go_wp2_with fail
    refine (unhide c5 _).mono ?_
    rintro e _ ⟨rfl, rfl⟩
    clear c1 c2 c3 c4 c5
    go_wp2
    go_ret
    exact ⟨rfl, bB⟩
end fnSeal
end Go.Proofs.Ytopipjfomnnjcaa
