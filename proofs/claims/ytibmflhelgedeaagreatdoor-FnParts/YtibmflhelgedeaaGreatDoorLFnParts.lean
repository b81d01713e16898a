/- The walk of the law FnParts, over the walks of the functions and of the draws (by genPr.py). -/
import Derived.Test.YtibmflhelgedeaaGreatDoorG75
import Derived.Test.YtibmflhelgedeaaGreatDoorWPlainT
import Derived.Test.YtibmflhelgedeaaGreatDoorWSeenF
import Derived.Test.YtibmflhelgedeaaGreatDoorWGetI
import Derived.Test.YtibmflhelgedeaaGreatDoorWLwTree
import Derived.Test.YtibmflhelgedeaaGreatDoorWLwNum
import Derived.Test.YtibmflhelgedeaaGreatDoorG77
import Derived.Laws.Cover1
import Derived.Deep.Cut
import Derived.Deep.CutRange
namespace Go.Proofs.YtibmflhelgedeaaGreatDoor
open Go.RowKit
namespace fnParts
theorem lay_all {W : World} {B : Nat} {va : Option Addr} {Ts : List Pl.Tr} (h : WSrc.LayV W B va Ts) : ∀ t ∈ Ts, t.L.length ≤ 1048576 ∧ ∀ n ∈ t.L, n.path.size ≤ 1048576 ∧ n.data.size ≤ 1048576 := fun t ht =>
  ⟨by have := (h.each t ht).2.1; omega, Pl.small_ok (h.each t ht).2.2⟩
theorem lay_short (Ls : List (List Pl.Nd)) (p : ByteArray) : (Pl.layO Ls p).length ≤ Ls.length := by
  unfold Pl.layO
  split
  · exact Nat.le_trans (List.length_filter_le _ _) (by rw [List.length_range]; exact Nat.le_refl _)
  · exact Nat.zero_le _
theorem ints_cell {W : World} {ib cap : Nat} {n : Nat} {K : List Nat} (h : WIntL.isInts W (.slice (some ⟨ib, 0, none⟩) n cap) K) (k kk : Nat) (hk : K[k]? = some kk) : W.cell? ⟨ib, k, none⟩ = some (.int .i64 (kk : Int)) := by
  rcases h with ⟨h1, -⟩ | ⟨b, cap', h1, -, h2⟩
  · cases h1
  · injection h1 with e1 e2 e3
    cases e1
    exact h2 k kk hk
theorem ints_block {W : World} {ia : Option Addr} {n cap : Nat} {K : List Nat} (h : WIntL.isInts W (.slice ia n cap) K) {k kk : Nat} (hk : K[k]? = some kk) : ∃ ib, ia = some ⟨ib, 0, none⟩ := by
  rcases h with ⟨-, h1⟩ | ⟨b, cap', h1, -, -⟩
  · subst h1; cases hk
  · injection h1 with e1 e2 e3
    exact ⟨b, e1⟩
theorem says_all (Ls : List (List Pl.Nd)) (p : ByteArray) : ∃ (np : ByteArray) (nk : Int) (nd : ByteArray) (nt nm c : Int), Pl.seenV Ls p = .agg #[.string np, .int .i64 nk, .string nd, .int .i64 nt, .int .i64 nm, .int .i64 c] ∧ (¬ p.size = 0 → (Pl.layO Ls p ≠ [] ↔ c = 0 ∧ nk = 1)) := by
  by_cases hz : p.size = 0
  · exact ⟨_, _, _, _, _, _, Pl.seen_form (by omega) (.inr (.inl hz)), fun h => absurd hz h⟩
  · obtain ⟨np, nk, nd, nt, nm, c, h1, h2⟩ := Pl.lay_says Ls hz
    exact ⟨np, nk, nd, nt, nm, c, h1, fun _ => h2⟩
theorem again_tree {L : List Pl.Nd} (h : Pl.plainC L = 0) : Pl.treeB (Pl.plainO L) = true := by
  unfold Pl.plainC at h
  split at h
  · rename_i ht
    unfold Pl.plainO
    rw [if_pos ht]
    exact Pl.plainL_tree ht
  · cases h
theorem again {L : List Pl.Nd} (h : Pl.plainC L = 0) : Pl.plainB (Pl.plainO L) = true ∧ Pl.plainO (Pl.plainO L) = Pl.plainO L ∧ Pl.plainC (Pl.plainO L) = 0 := by
  have h2 := again_tree h
  unfold Pl.plainC at h
  split at h
  · rename_i ht
    have e : Pl.plainO L = Pl.plainL L := by unfold Pl.plainO; rw [if_pos ht]
    rw [e] at h2 ⊢
    refine ⟨Pl.plainL_plain ht, ?_, ?_⟩
    · unfold Pl.plainO; rw [if_pos h2]; exact Pl.plainL_again L
    · unfold Pl.plainC; rw [if_pos h2]
  · cases h
/-- What stands while the law asks. -/
structure Fk (w W : World) (X5 X8 X9 X10 : Nat) (la ia ta xa ma : Option Addr) (lc ic tc xc mc : Nat) (Ts : List Pl.Tr) (K : List Nat) (L O M : List Pl.Nd) (C : Int) : Prop where
  bel : Below w.heap.size w W
  b5 : Mem.Blk W X5 #[.slice la Ts.length lc] 56
  t5 : Mem.isTrees W la Ts
  n7 : WIntL.isInts W (.slice ia K.length ic) K
  b8 : Mem.Blk W X8 #[.slice ta L.length tc] 25
  n8 : Mem.isNodes W ta L
  b9 : Mem.Blk W X9 #[.slice xa O.length xc, .int .i64 C] 31
  n9 : Mem.isNodes W xa O
  b10 : Mem.Blk W X10 #[.slice ma M.length mc] 25
  n10 : Mem.isNodes W ma M
section
variable {w W W' : World} {X5 X8 X9 X10 : Nat} {la ia ta xa ma : Option Addr} {lc ic tc xc mc : Nat} {Ts : List Pl.Tr} {K : List Nat} {L O M : List Pl.Nd} {C : Int}
theorem Fk.call (h : Fk w W X5 X8 X9 X10 la ia ta xa ma lc ic tc xc mc Ts K L O M C) (b : Below W.heap.size W W') : Fk w W' X5 X8 X9 X10 la ia ta xa ma lc ic tc xc mc Ts K L O M C :=
  ⟨h.bel.trans (b.mono h.bel.size), h.b5.call b, Mem.trees_call h.t5 b, WIntL.ints_call h.n7 b, h.b8.call b, Mem.nodes_call h.n8 b, h.b9.call b, Mem.nodes_call h.n9 b, h.b10.call b, Mem.nodes_call h.n10 b⟩
theorem Fk.drew (h : Fk w W X5 X8 X9 X10 la ia ta xa ma lc ic tc xc mc Ts K L O M C) : Fk w W.drew X5 X8 X9 X10 la ia ta xa ma lc ic tc xc mc Ts K L O M C :=
  h.call ⟨rfl, rfl, rfl, Nat.le_refl _, fun _ _ => rfl⟩
end
set_option linter.unusedSimpArgs false in
set_option maxRecDepth 100000 in
set_option maxHeartbeats 40000000 in
theorem walk (a0 : Option Addr) (len0 cap0 : Nat) (b0 : Option Addr) (len1 cap1 : Nat) (w : World) (w0 : WSrc.RowB w w.heap.size a0 len0 cap0) (w1 : WSrc.RowB w w.heap.size b0 len1 cap1) (x : Nat → Addr) (hE : WIs.Six w x) :
    Calls Tryz.prog 6 #[.slice a0 len0 cap0, .slice b0 len1 cap1] w fun e w' => e = .returned (.bool true) ∧ Below w.heap.size w w' := by
  by_cases hL0 : (1048576 : Int) < (len0 : Int)
  · clear w0 w1 hE
    go_enter Tryz.func6, Tryz.ntmps6
    go_wp2
    go_ret
    exact ⟨rfl, Below.refl _ _⟩
  by_cases hL1 : (1048576 : Int) < (len1 : Int)
  · clear w0 w1 hE
    go_enter Tryz.func6, Tryz.ntmps6
    go_wp2
    go_ret
    exact ⟨rfl, Below.refl _ _⟩
  have HE := hide (fun W (b : Below w.heap.size w W) => hE.call b)
  have hd1 := hide (WSrc.drawLayersOf_any a0 len0 cap0 w w0)
  have hd2 := hide (fun W (b : Below w.heap.size w W) => WSrc.drawPlain_any b0 len1 cap1 W (WSrc.row_upP w1 b b.size))
  have hd3 := hide (fun W (b : Below w.heap.size w W) => WSrc.drawTreePlain_any b0 len1 cap1 W (WSrc.row_upP w1 b b.size))
  clear w0 w1 hE
  go_enter Tryz.func6, Tryz.ntmps6
  go_wp2_with fail
  refine (unhide hd1).mono ?_
  rintro e v1 ⟨la, lc, Ts, p, hl, hp, rfl, lv, b1⟩
  have OKT := hide (lay_all lv)
  have B5 := hide (Mem.Blk.new v1 #[.slice la Ts.length lc] 56)
  have T5 := hide (Mem.trees_call lv.trees ((Below.refl _ _).alloc (Nat.le_refl _) (.cells #[.slice la Ts.length lc] 56)))
  have b2 := b1.alloc b1.size (.cells #[.slice la Ts.length lc] 56)
  clear hd1 lv b1
  have hli := hide (fun W (b : Below w.heap.size w W) (v : Mem.isTrees W la Ts) => WIntL.impl_any la lc Ts p W (by omega) v (unhide OKT) (by omega) _ _ _ _ _ _ (unhide HE W b).errs)
  have hls := hide (fun W (v : Mem.isTrees W la Ts) => WIntL.spec_any la lc Ts p W (by omega) v (unhide OKT) (by omega))
  have HKS := hide (Pl.lay_rise (Ts.map (·.L)) p)
  have hkl := lay_short (Ts.map (·.L)) p
  rw [List.length_map] at hkl
  have HKI := hide (fun i (h : i ∈ Pl.layO (Ts.map (·.L)) p) => (Pl.lay_in h).2.2.1)
  have HKD := hide (fun i (h : i ∈ Pl.layO (Ts.map (·.L)) p) hz => Pl.lay_dir h hz)
  have HKY := hide (says_all (Ts.map (·.L)) p)
  have hsv := hide (fun W (b : Below w.heap.size w W) (v : Mem.isTrees W la Ts) => WSeen.impl_any la lc Ts p W (by omega) v (unhide OKT) (by omega) _ _ _ _ _ _ (unhide HE W b).errs)
  generalize Pl.layO (Ts.map (·.L)) p = K at hli hls HKS HKI HKD HKY hkl
  have x5 := (unhide B5).cell 0
  simp only [kA0, kA1, kA2] at x5
  go_wp2_with fail
  generalize v1.alloc (.cells #[.slice la Ts.length lc] 56) = v2 at B5 T5 b2 x5 ⊢
  generalize v1.heap.size = X5 at B5 x5 ⊢
  refine (unhide hli _ b2 (unhide T5)).mono ?_
  rintro e v3 ⟨vk, rfl, ownK, b3⟩
  obtain ⟨ia, ic, hvk⟩ := WIntL.ints_shape ownK.ints
  subst hvk
  have N7 := hide ownK.ints
  have B5 := hide ((unhide B5).call b3)
  have T5 := hide (Mem.trees_call (unhide T5) b3)
  have b4 := b2.trans (b3.mono b2.size)
  clear hli ownK b3 b2 x5
  go_wp2_with fail
  refine (unhide hd2 _ b4).mono ?_
  rintro e v4 ⟨ta, tc, L, hLl, hsm, rfl, tv, b5⟩
  have OKL := hide (Pl.small_ok hsm)
  have b5' := b5.alloc b5.size (.cells #[.slice ta L.length tc] 25)
  have B8 := hide (Mem.Blk.new v4 #[.slice ta L.length tc] 25)
  have N8 := hide (tv.call ((Below.refl _ _).alloc (Nat.le_refl _) (.cells #[.slice ta L.length tc] 25))).1
  have B5 := hide ((unhide B5).call b5')
  have T5 := hide (Mem.trees_call (unhide T5) b5')
  have N7 := hide (WIntL.ints_call (unhide N7) b5')
  have b6 := b4.trans (b5'.mono b4.size)
  clear hd2 tv hsm b5 b5' b4
  have hpi := hide (fun W (b : Below w.heap.size w W) (v : Mem.isNodes W ta L) => WPlainO.impl_any ta tc L W (by omega) v (unhide OKL) _ _ _ _ _ _ (unhide HE W b).errs)
  have hps := hide (fun W (v : Mem.isNodes W ta L) => WPlainO.spec_any ta tc L W (by omega) v (unhide OKL))
  have HOO := hide (WSrc.plainO_ok (unhide OKL))
  have hol := Pl.plainO_len L
  have HOT : Hid (Pl.plainC L = 0 → Pl.treeB (Pl.plainO L) = true) := fun h => again_tree h
  have HOP : Hid (Pl.plainC L = 0 → Pl.plainB (Pl.plainO L) = true ∧ Pl.plainO (Pl.plainO L) = Pl.plainO L ∧ Pl.plainC (Pl.plainO L) = 0) := fun h => again h
  generalize Pl.plainO L = O at hpi hps HOO hol HOT HOP
  generalize Pl.plainC L = C at hpi hps HOT HOP
  have x8 := (unhide B8).cell 0
  simp only [kA0, kA1, kA2] at x8
  go_wp2_with fail
  generalize v4.alloc (.cells #[.slice ta L.length tc] 25) = v5 at B5 B8 T5 N7 N8 b6 x8 ⊢
  generalize v4.heap.size = X8 at B8 x8 ⊢
  refine (unhide hpi _ b6 (unhide N8)).mono ?_
  rintro e v6 ⟨vx, rfl, own6, b7⟩
  obtain ⟨xa, xc, hvx⟩ := Mem.own_shape own6
  subst hvx
  have b7' := b7.alloc b7.size (.cells #[.slice xa O.length xc, .int .i64 C] 31)
  have B9 := hide (Mem.Blk.new v6 #[.slice xa O.length xc, .int .i64 C] 31)
  have N9 := hide (Mem.ownN_nodes (Mem.ownN_alloc own6 (.cells #[.slice xa O.length xc, .int .i64 C] 31))).2
  have B5 := hide ((unhide B5).call b7')
  have B8 := hide ((unhide B8).call b7')
  have T5 := hide (Mem.trees_call (unhide T5) b7')
  have N7 := hide (WIntL.ints_call (unhide N7) b7')
  have N8 := hide (Mem.nodes_call (unhide N8) b7')
  have b8 := b6.trans (b7'.mono b6.size)
  clear hpi own6 b7 b7' b6 x8
  go_wp2_with fail
  generalize v6.alloc (.cells #[.slice xa O.length xc, .int .i64 C] 31) = v7 at B5 B8 B9 T5 N7 N8 N9 b8 ⊢
  generalize v6.heap.size = X9 at B9 ⊢
  refine (unhide hd3 _ b8).mono ?_
  rintro e v8 ⟨ma, mc, M, hml, hok, rfl, nm, b9⟩
  have OKM := hide hok
  have b9' := b9.alloc b9.size (.cells #[.slice ma M.length mc] 25)
  have K4 : Hid (Fk w (v8.alloc (.cells #[.slice ma M.length mc] 25)) X5 X8 X9 v8.heap.size la ia ta xa ma lc ic tc xc mc Ts K L O M C) :=
    ⟨b8.trans (b9'.mono b8.size), (unhide B5).call b9', Mem.trees_call (unhide T5) b9', WIntL.ints_call (unhide N7) b9', (unhide B8).call b9', Mem.nodes_call (unhide N8) b9', (unhide B9).call b9', Mem.nodes_call (unhide N9) b9', Mem.Blk.new _ _ _, Mem.nodes_call nm ((Below.refl _ _).alloc (Nat.le_refl _) _)⟩
  clear hd3 hok nm b9 b9' b8 B5 B8 B9 T5 N7 N8 N9
  go_wp2_with fail
  generalize v8.alloc (.cells #[.slice ma M.length mc] 25) = v9 at K4 ⊢
  generalize v8.heap.size = X10 at K4 ⊢
  have hti := hide (fun W ma mc (M : List Pl.Nd) (h : M.length ≤ 64) (b : Below w.heap.size w W) (v : Mem.isNodes W ma M) h2 => WPlainT.impl_any ma mc M W (by omega) v h2 _ _ _ _ _ _ (unhide HE W b).errs)
  have hts := hide (fun W ma mc (M : List Pl.Nd) (h : M.length ≤ 64) (v : Mem.isNodes W ma M) h2 => WPlainT.spec_any ma mc M W (by omega) v h2)
  have hto := hide (fun W (b : Below w.heap.size w W) (v : Mem.isNodes W xa O) => WPlainT.impl_any xa xc O W (by omega) v (unhide HOO) _ _ _ _ _ _ (unhide HE W b).errs)
  have hpo := hide (fun W (b : Below w.heap.size w W) (v : Mem.isNodes W xa O) => WPlainO.impl_any xa xc O W (by omega) v (unhide HOO) _ _ _ _ _ _ (unhide HE W b).errs)
  generalize Pl.plainB M = PM at hti hts
  have hb0 : (PM != PM) = false := by simp
  go_cut [75] from 35 to 75 (fun s wc => s = .bool false ∧ Fk w wc X5 X8 X9 X10 la ia ta xa ma lc ic tc xc mc Ts K L O M C)
  case first =>
    by_cases hC : C = 0
    · obtain ⟨e1, e2, e3⟩ := unhide HOP hC
      rw [e1] at hto
      rw [e2, e3] at hpo
      subst hC
      have MK : Hid (∀ W', Fk w W' X5 X8 X9 X10 la ia ta xa ma lc ic tc xc mc Ts K L O M 0 → (fun W' => Fk w W' X5 X8 X9 X10 la ia ta xa ma lc ic tc xc mc Ts K L O M 0 ∧ W'.cell? ⟨X5, 0, none⟩ = some (.slice la Ts.length lc) ∧ W'.cell? ⟨X8, 0, none⟩ = some (.slice ta L.length tc) ∧ W'.cell? ⟨X9, 0, none⟩ = some (.slice xa O.length xc) ∧ W'.cell? ⟨X9, 1, none⟩ = some (.int .i64 0) ∧ W'.cell? ⟨X10, 0, none⟩ = some (.slice ma M.length mc)) W') := fun W' h => ⟨h, (by have e := h.b5.cell 0; simp only [kA0, kA1, kA2] at e; exact e), (by have e := h.b8.cell 0; simp only [kA0, kA1, kA2] at e; exact e), (by have e := h.b9.cell 0; simp only [kA0, kA1, kA2] at e; exact e), (by have e := h.b9.cell 1; simp only [kA0, kA1, kA2] at e; exact e), (by have e := h.b10.cell 0; simp only [kA0, kA1, kA2] at e; exact e)⟩
      refine wp_region_held_drew (S := fun W' => Fk w W' X5 X8 X9 X10 la ia ta xa ma lc ic tc xc mc Ts K L O M 0 ∧ W'.cell? ⟨X5, 0, none⟩ = some (.slice la Ts.length lc) ∧ W'.cell? ⟨X8, 0, none⟩ = some (.slice ta L.length tc) ∧ W'.cell? ⟨X9, 0, none⟩ = some (.slice xa O.length xc) ∧ W'.cell? ⟨X9, 1, none⟩ = some (.int .i64 0) ∧ W'.cell? ⟨X10, 0, none⟩ = some (.slice ma M.length mc)) (by kernel_rfl) ?_ (fun hHeld => ?_)
      · exact unhide MK _ (unhide K4).drew
      clear K4
      refine wpAnyH_take (i := 0) (v := ?_) rfl (by kernel_rfl) (by kernel_rfl) (by kernel_rfl) (fun _ _ _ h => h) (Or.inl ⟨by rfl, ?_⟩) (by assumption) ?_
      rotate_left
      · (intro w hSw; (try dsimp only at hSw); go_simp; (try with_reducible rfl))
      try simp only [Act.put, kB0, kB1, kB2, kB3, kB4, kB5]
      refine wpAnyH_take (i := 1) (v := ?_) rfl (by kernel_rfl) (by kernel_rfl) (by kernel_rfl) (fun _ _ _ h => h) (Or.inl ⟨by rfl, ?_⟩) (by assumption) ?_
      rotate_left
      · (intro w hSw; (try dsimp only at hSw); go_simp; (try with_reducible rfl))
      try simp only [Act.put, kB0, kB1, kB2, kB3, kB4, kB5]
      refine wpAnyH_take (i := 2) (v := ?_) rfl (by kernel_rfl) (by kernel_rfl) (by kernel_rfl) (fun _ _ _ h => h) (Or.inl ⟨by rfl, ?_⟩) (by assumption) ?_
      rotate_left
      · (intro w hSw; (try dsimp only at hSw); go_simp; (try with_reducible rfl))
      try simp only [Act.put, kB0, kB1, kB2, kB3, kB4, kB5]
      refine wpAnyH_ready (rs := [3]) (by kernel_rfl) (by simp) ?_
      refine AllReadyH.cons rfl (fun K_ hK => ?_) AllReadyH.nil
      go_simp
      refine (unhide hls _ hHeld.1.t5).mono ?_
      rintro e wX ⟨vs, rfl, ownS, bX⟩
      obtain ⟨sa, sc, hvs⟩ := WIntL.ints_shape ownS.ints
      subst hvs
      have NI := hide ownS.ints
      clear ownS
      refine hK.out _ _ ?_ (fun hHeld => ?_)
      · exact unhide MK _ (hHeld.1.call bX)
      clear hK K_
      try simp only [Act.put, kB0, kB1, kB2, kB3, kB4, kB5]
      refine wpAnyH_ready (rs := [4]) (by kernel_rfl) (by simp) ?_
      refine AllReadyH.cons rfl (fun K_ hK => ?_) AllReadyH.nil
      go_simp
      refine (WIntL.nums_any _ _ K _ (by omega) hHeld.1.n7 (unhide NI)).mono ?_
      rintro e wX ⟨rfl, bX⟩
      refine hK.out _ _ ?_ (fun hHeld => ?_)
      · exact unhide MK _ (hHeld.1.call bX)
      clear hK K_
      try simp only [Act.put, kB0, kB1, kB2, kB3, kB4, kB5]
      clear NI
      refine wpAnyH_take (i := 5) (v := ?_) rfl (by kernel_rfl) (by kernel_rfl) (by kernel_rfl) (fun _ _ _ h => h) (Or.inl ⟨by rfl, ?_⟩) (by assumption) ?_
      rotate_left
      · (intro w hSw; (try dsimp only at hSw); go_simp; (try with_reducible rfl))
      try simp only [Act.put, kB0, kB1, kB2, kB3, kB4, kB5]
      refine wpAnyH_take (i := 6) (v := ?_) rfl (by kernel_rfl) (by kernel_rfl) (by kernel_rfl) (fun _ _ _ h => h) (Or.inl ⟨by rfl, ?_⟩) (by assumption) ?_
      rotate_left
      · (intro w hSw; (try dsimp only at hSw); go_simp; (try with_reducible rfl))
      try simp only [Act.put, kB0, kB1, kB2, kB3, kB4, kB5]
      refine wpAnyH_take (i := 7) (v := ?_) rfl (by kernel_rfl) (by kernel_rfl) (by kernel_rfl) (fun _ _ _ h => h) (Or.inl ⟨by rfl, ?_⟩) (by assumption) ?_
      rotate_left
      · (intro w hSw; (try dsimp only at hSw); go_simp; (try with_reducible rfl))
      try simp only [Act.put, kB0, kB1, kB2, kB3, kB4, kB5]
      refine wpAnyH_take (i := 8) (v := ?_) rfl (by kernel_rfl) (by kernel_rfl) (by kernel_rfl) (fun _ _ _ h => h) (Or.inl ⟨by rfl, ?_⟩) (by assumption) ?_
      rotate_left
      · (intro w hSw; (try dsimp only at hSw); go_simp; (try with_reducible rfl))
      try simp only [Act.put, kB0, kB1, kB2, kB3, kB4, kB5]
      refine wpAnyH_ready (rs := [9]) (by kernel_rfl) (by simp) ?_
      refine AllReadyH.cons rfl (fun K_ hK => ?_) AllReadyH.nil
      go_simp
      refine (unhide hps _ hHeld.1.n8).mono ?_
      rintro e wX ⟨vz, rfl, ownZ, bX⟩
      obtain ⟨za, zc, hvz⟩ := Mem.own_shape ownZ
      subst hvz
      have NZ := hide (Mem.ownN_nodes ownZ).2
      clear ownZ
      refine hK.out _ _ ?_ (fun hHeld => ?_)
      · exact unhide MK _ (hHeld.1.call bX)
      clear hK K_
      try simp only [Act.put, kB0, kB1, kB2, kB3, kB4, kB5]
      refine wpAnyH_ready (rs := [10]) (by kernel_rfl) (by simp) ?_
      refine AllReadyH.cons rfl (fun K_ hK => ?_) AllReadyH.nil
      go_simp
      refine (WLw.trees_any xa za xc zc 0 O _ (by omega) hHeld.1.n9 (unhide NZ) (unhide HOO) (unhide HOT)).mono ?_
      rintro e wX ⟨rfl, bX⟩
      refine hK.out _ _ ?_ (fun hHeld => ?_)
      · exact unhide MK _ (hHeld.1.call bX)
      clear hK K_
      try simp only [Act.put, kB0, kB1, kB2, kB3, kB4, kB5]
      clear NZ
      refine wpAnyH_take (i := 11) (v := ?_) rfl (by kernel_rfl) (by kernel_rfl) (by kernel_rfl) (fun _ _ _ h => h) (Or.inl ⟨by rfl, ?_⟩) (by assumption) ?_
      rotate_left
      · (intro w hSw; (try dsimp only at hSw); go_simp; (try with_reducible rfl))
      try simp only [Act.put, kB0, kB1, kB2, kB3, kB4, kB5]
      refine wpAnyH_take (i := 12) (v := ?_) rfl (by kernel_rfl) (by kernel_rfl) (by kernel_rfl) (fun _ _ _ h => h) (Or.inl ⟨by rfl, ?_⟩) (by assumption) ?_
      rotate_left
      · (intro w hSw; (try dsimp only at hSw); go_simp; (try with_reducible rfl))
      try simp only [Act.put, kB0, kB1, kB2, kB3, kB4, kB5]
      refine wpAnyH_take (i := 13) (v := ?_) rfl (by kernel_rfl) (by kernel_rfl) (by kernel_rfl) (fun _ _ _ h => h) (Or.inl ⟨by rfl, ?_⟩) (by assumption) ?_
      rotate_left
      · (intro w hSw; (try dsimp only at hSw); go_simp; (try with_reducible rfl))
      try simp only [Act.put, kB0, kB1, kB2, kB3, kB4, kB5]
      refine wpAnyH_take (i := 14) (v := ?_) rfl (by kernel_rfl) (by kernel_rfl) (by kernel_rfl) (fun _ _ _ h => h) (Or.inl ⟨by rfl, ?_⟩) (by assumption) ?_
      rotate_left
      · (intro w hSw; (try dsimp only at hSw); go_simp; (try with_reducible rfl))
      try simp only [Act.put, kB0, kB1, kB2, kB3, kB4, kB5]
      refine wpAnyH_take (i := 16) (v := ?_) rfl (by kernel_rfl) (by kernel_rfl) (by kernel_rfl) (fun _ _ _ h => h) (Or.inl ⟨by rfl, ?_⟩) (by assumption) ?_
      rotate_left
      · (intro w hSw; (try dsimp only at hSw); go_simp; (try with_reducible rfl))
      try simp only [Act.put, kB0, kB1, kB2, kB3, kB4, kB5]
      refine wpAnyH_ready (rs := [15]) (by kernel_rfl) (by simp) ?_
      refine AllReadyH.cons rfl (fun K_ hK => ?_) AllReadyH.nil
      go_simp
      refine (unhide hti _ ma mc M hml hHeld.1.bel hHeld.1.n10 (unhide OKM)).mono ?_
      rintro e wX ⟨rfl, bX⟩
      refine hK.out _ _ ?_ (fun hHeld => ?_)
      · exact unhide MK _ (hHeld.1.call bX)
      clear hK K_
      try simp only [Act.put, kB0, kB1, kB2, kB3, kB4, kB5]
      refine wpAnyH_ready (rs := [17]) (by kernel_rfl) (by simp) ?_
      refine AllReadyH.cons rfl (fun K_ hK => ?_) AllReadyH.nil
      go_simp
      refine (unhide hts _ ma mc M hml hHeld.1.n10 (unhide OKM)).mono ?_
      rintro e wX ⟨rfl, bX⟩
      refine hK.out _ _ ?_ (fun hHeld => ?_)
      · exact unhide MK _ (hHeld.1.call bX)
      clear hK K_
      try simp only [Act.put, kB0, kB1, kB2, kB3, kB4, kB5]
      refine wpAnyH_take (i := 18) (v := ?_) rfl (by kernel_rfl) (by kernel_rfl) (by kernel_rfl) (fun _ _ _ h => h) (Or.inl ⟨by rfl, ?_⟩) (by assumption) ?_
      rotate_left
      · (intro w hSw; (try dsimp only at hSw); go_simp; (try with_reducible rfl))
      try simp only [Act.put, kB0, kB1, kB2, kB3, kB4, kB5]
      refine wpAnyH_take (i := 19) (v := ?_) rfl (by kernel_rfl) (by kernel_rfl) (by kernel_rfl) (fun _ _ _ h => h) (Or.inl ⟨by rfl, ?_⟩) (by assumption) ?_
      rotate_left
      · (intro w hSw; (try dsimp only at hSw); go_simp; (try with_reducible rfl))
      try simp only [Act.put, kB0, kB1, kB2, kB3, kB4, kB5]
      refine wpAnyH_take (i := 20) (v := ?_) rfl (by kernel_rfl) (by kernel_rfl) (by kernel_rfl) (fun _ _ _ h => h) (Or.inl ⟨by rfl, ?_⟩) (by assumption) ?_
      rotate_left
      · (intro w hSw; (try dsimp only at hSw); go_simp; (try with_reducible rfl))
      try simp only [Act.put, kB0, kB1, kB2, kB3, kB4, kB5]
      refine wpAnyH_take (i := 21) (v := ?_) rfl (by kernel_rfl) (by kernel_rfl) (by kernel_rfl) (fun _ _ _ h => h) (Or.inl ⟨by rfl, ?_⟩) (by assumption) ?_
      rotate_left
      · (intro w hSw; (try dsimp only at hSw); go_simp; (try with_reducible rfl))
      try simp only [Act.put, kB0, kB1, kB2, kB3, kB4, kB5]
      refine wpAnyH_take (i := 22) (v := ?_) rfl (by kernel_rfl) (by kernel_rfl) (by kernel_rfl) (fun _ _ _ h => h) (Or.inl ⟨by rfl, ?_⟩) (by assumption) ?_
      rotate_left
      · (intro w hSw; (try dsimp only at hSw); go_simp; (try with_reducible rfl))
      try simp only [Act.put, kB0, kB1, kB2, kB3, kB4, kB5]
      refine wpAnyH_take (i := 23) (v := ?_) rfl (by kernel_rfl) (by kernel_rfl) (by kernel_rfl) (fun _ _ _ h => h) (Or.inl ⟨by rfl, ?_⟩) (by assumption) ?_
      rotate_left
      · (intro w hSw; (try dsimp only at hSw); go_simp; (try with_reducible rfl))
      try simp only [Act.put, kB0, kB1, kB2, kB3, kB4, kB5]
      refine wpAnyH_take (i := 24) (v := ?_) rfl (by kernel_rfl) (by kernel_rfl) (by kernel_rfl) (fun _ _ _ h => h) (Or.inl ⟨by rfl, ?_⟩) (by assumption) ?_
      rotate_left
      · (intro w hSw; (try dsimp only at hSw); go_simp; (try with_reducible rfl))
      try simp only [Act.put, kB0, kB1, kB2, kB3, kB4, kB5]
      refine wpAnyH_take (i := 25) (v := ?_) rfl (by kernel_rfl) (by kernel_rfl) (by kernel_rfl) (fun _ _ _ h => h) (Or.inl ⟨by rfl, ?_⟩) (by assumption) ?_
      rotate_left
      · (intro w hSw; (try dsimp only at hSw); go_simp; (try with_reducible rfl))
      try simp only [Act.put, kB0, kB1, kB2, kB3, kB4, kB5]
      refine wpAnyH_take (i := 26) (v := ?_) rfl (by kernel_rfl) (by kernel_rfl) (by kernel_rfl) (fun _ _ _ h => h) (Or.inl ⟨by rfl, ?_⟩) (by assumption) ?_
      rotate_left
      · (intro w hSw; (try dsimp only at hSw); go_simp; (try with_reducible rfl))
      try simp only [Act.put, kB0, kB1, kB2, kB3, kB4, kB5]
      refine wpAnyH_ready (rs := [27]) (by kernel_rfl) (by simp) ?_
      refine AllReadyH.cons rfl (fun K_ hK => ?_) AllReadyH.nil
      go_simp
      refine (unhide hto _ hHeld.1.bel hHeld.1.n9).mono ?_
      rintro e wX ⟨rfl, bX⟩
      refine hK.out _ _ ?_ (fun hHeld => ?_)
      · exact unhide MK _ (hHeld.1.call bX)
      clear hK K_
      try simp only [Act.put, kB0, kB1, kB2, kB3, kB4, kB5]
      refine wpAnyH_take (i := 28) (v := ?_) rfl (by kernel_rfl) (by kernel_rfl) (by kernel_rfl) (fun _ _ _ h => h) (Or.inl ⟨by rfl, ?_⟩) (by assumption) ?_
      rotate_left
      · (intro w hSw; (try dsimp only at hSw); go_simp; (try with_reducible rfl))
      try simp only [Act.put, kB0, kB1, kB2, kB3, kB4, kB5]
      refine wpAnyH_take (i := 29) (v := ?_) rfl (by kernel_rfl) (by kernel_rfl) (by kernel_rfl) (fun _ _ _ h => h) (Or.inl ⟨by rfl, ?_⟩) (by assumption) ?_
      rotate_left
      · (intro w hSw; (try dsimp only at hSw); go_simp; (try with_reducible rfl))
      try simp only [Act.put, kB0, kB1, kB2, kB3, kB4, kB5]
      refine wpAnyH_take (i := 30) (v := ?_) rfl (by kernel_rfl) (by kernel_rfl) (by kernel_rfl) (fun _ _ _ h => h) (Or.inl ⟨by rfl, ?_⟩) (by assumption) ?_
      rotate_left
      · (intro w hSw; (try dsimp only at hSw); go_simp; (try with_reducible rfl))
      try simp only [Act.put, kB0, kB1, kB2, kB3, kB4, kB5]
      refine wpAnyH_take (i := 31) (v := ?_) rfl (by kernel_rfl) (by kernel_rfl) (by kernel_rfl) (fun _ _ _ h => h) (Or.inl ⟨by rfl, ?_⟩) (by assumption) ?_
      rotate_left
      · (intro w hSw; (try dsimp only at hSw); go_simp; (try with_reducible rfl))
      try simp only [Act.put, kB0, kB1, kB2, kB3, kB4, kB5]
      refine wpAnyH_take (i := 34) (v := ?_) rfl (by kernel_rfl) (by kernel_rfl) (by kernel_rfl) (fun _ _ _ h => h) (Or.inl ⟨by rfl, ?_⟩) (by assumption) ?_
      rotate_left
      · (intro w hSw; (try dsimp only at hSw); go_simp; (try with_reducible rfl))
      try simp only [Act.put, kB0, kB1, kB2, kB3, kB4, kB5]
      refine wpAnyH_take (i := 35) (v := ?_) rfl (by kernel_rfl) (by kernel_rfl) (by kernel_rfl) (fun _ _ _ h => h) (Or.inl ⟨by rfl, ?_⟩) (by assumption) ?_
      rotate_left
      · (intro w hSw; (try dsimp only at hSw); go_simp; (try with_reducible rfl))
      try simp only [Act.put, kB0, kB1, kB2, kB3, kB4, kB5]
      refine wpAnyH_ready (rs := [32]) (by kernel_rfl) (by simp) ?_
      refine AllReadyH.cons rfl (fun K_ hK => ?_) AllReadyH.nil
      go_simp
      refine (unhide hpo _ hHeld.1.bel hHeld.1.n9).mono ?_
      rintro e wX ⟨vy, rfl, ownY, bX⟩
      obtain ⟨ya, yc, hvy⟩ := Mem.own_shape ownY
      subst hvy
      have NY := hide (Mem.ownN_nodes ownY).2
      clear ownY
      have hf := hide (fun W => (by kernel_rfl : (Instr.field 31 (.agg #[.slice ya O.length yc, .int .i64 0]) 0).run Tryz.prog W = .ok (.agg #[.slice ya O.length yc]) W))
      have hf' := unhide hf
      refine hK.out _ _ ?_ (fun hHeld => ?_)
      · exact unhide MK _ (hHeld.1.call bX)
      clear hK K_
      try simp only [Act.put, kB0, kB1, kB2, kB3, kB4, kB5]
      refine wpAnyH_take (i := 33) (v := ?_) rfl (by kernel_rfl) (by kernel_rfl) (by kernel_rfl) (fun _ _ _ h => h) (Or.inl ⟨by rfl, ?_⟩) (by assumption) ?_
      rotate_left
      · (intro w hSw; (try dsimp only at hSw); go_simp; (try with_reducible rfl))
      try simp only [Act.put, kB0, kB1, kB2, kB3, kB4, kB5]
      refine wpAnyH_ready (rs := [36]) (by kernel_rfl) (by simp) ?_
      refine AllReadyH.cons rfl (fun K_ hK => ?_) AllReadyH.nil
      go_simp
      refine (WLw.tree_any ya xa yc xc O _ (by omega) (unhide NY) hHeld.1.n9).mono ?_
      rintro e wX ⟨rfl, bX⟩
      refine hK.out _ _ ?_ (fun hHeld => ?_)
      · exact unhide MK _ (hHeld.1.call bX)
      clear hK K_
      try simp only [Act.put, kB0, kB1, kB2, kB3, kB4, kB5]
      clear NY hf hf'
      refine wpAnyH_take (i := 37) (v := ?_) rfl (by kernel_rfl) (by kernel_rfl) (by kernel_rfl) (fun _ _ _ h => h) (Or.inl ⟨by rfl, ?_⟩) (by assumption) ?_
      rotate_left
      · (intro w hSw; (try dsimp only at hSw); go_simp; (try with_reducible rfl))
      try simp only [Act.put, kB0, kB1, kB2, kB3, kB4, kB5]
      refine wpAnyH_take (i := 38) (v := ?_) rfl (by kernel_rfl) (by kernel_rfl) (by kernel_rfl) (fun _ _ _ h => h) (Or.inl ⟨by rfl, ?_⟩) (by assumption) ?_
      rotate_left
      · (intro w hSw; (try dsimp only at hSw); go_simp; (try with_reducible rfl))
      try simp only [Act.put, kB0, kB1, kB2, kB3, kB4, kB5]
      refine wpAnyH_take (i := 39) (v := ?_) rfl (by kernel_rfl) (by kernel_rfl) (by kernel_rfl) (fun _ _ _ h => h) (Or.inl ⟨by rfl, ?_⟩) (by assumption) ?_
      rotate_left
      · (intro w hSw; (try dsimp only at hSw); go_simp; (try with_reducible rfl))
      try simp only [Act.put, kB0, kB1, kB2, kB3, kB4, kB5]
      refine wpAnyH_take (i := 40) (v := ?_) rfl (by kernel_rfl) (by kernel_rfl) (by kernel_rfl) (fun _ _ _ h => h) (Or.inl ⟨by rfl, ?_⟩) (by assumption) ?_
      rotate_left
      · (intro w hSw; (try dsimp only at hSw); go_simp; (try with_reducible rfl))
      try simp only [Act.put, kB0, kB1, kB2, kB3, kB4, kB5]
      refine wpAnyH_done (by kernel_rfl) ?_ _
      have K4 := hide hHeld.1
      clear hHeld
      go_wp2_with fail
      go_meet
      case rel => exact ⟨rfl, unhide K4⟩
    · have hD1 : (C == 0) = false := by simpa using hC
      have hD2 : decide (C = 0) = false := by simpa using hC
      have hD3 : (C != 0) = true := by simpa using hC
      have MK : Hid (∀ W', Fk w W' X5 X8 X9 X10 la ia ta xa ma lc ic tc xc mc Ts K L O M C → (fun W' => Fk w W' X5 X8 X9 X10 la ia ta xa ma lc ic tc xc mc Ts K L O M C ∧ W'.cell? ⟨X5, 0, none⟩ = some (.slice la Ts.length lc) ∧ W'.cell? ⟨X8, 0, none⟩ = some (.slice ta L.length tc) ∧ W'.cell? ⟨X9, 0, none⟩ = some (.slice xa O.length xc) ∧ W'.cell? ⟨X9, 1, none⟩ = some (.int .i64 C) ∧ W'.cell? ⟨X10, 0, none⟩ = some (.slice ma M.length mc)) W') := fun W' h => ⟨h, (by have e := h.b5.cell 0; simp only [kA0, kA1, kA2] at e; exact e), (by have e := h.b8.cell 0; simp only [kA0, kA1, kA2] at e; exact e), (by have e := h.b9.cell 0; simp only [kA0, kA1, kA2] at e; exact e), (by have e := h.b9.cell 1; simp only [kA0, kA1, kA2] at e; exact e), (by have e := h.b10.cell 0; simp only [kA0, kA1, kA2] at e; exact e)⟩
      refine wp_region_held_drew (S := fun W' => Fk w W' X5 X8 X9 X10 la ia ta xa ma lc ic tc xc mc Ts K L O M C ∧ W'.cell? ⟨X5, 0, none⟩ = some (.slice la Ts.length lc) ∧ W'.cell? ⟨X8, 0, none⟩ = some (.slice ta L.length tc) ∧ W'.cell? ⟨X9, 0, none⟩ = some (.slice xa O.length xc) ∧ W'.cell? ⟨X9, 1, none⟩ = some (.int .i64 C) ∧ W'.cell? ⟨X10, 0, none⟩ = some (.slice ma M.length mc)) (by kernel_rfl) ?_ (fun hHeld => ?_)
      · exact unhide MK _ (unhide K4).drew
      clear K4
      refine wpAnyH_take (i := 0) (v := ?_) rfl (by kernel_rfl) (by kernel_rfl) (by kernel_rfl) (fun _ _ _ h => h) (Or.inl ⟨by rfl, ?_⟩) (by assumption) ?_
      rotate_left
      · (intro w hSw; (try dsimp only at hSw); go_simp; (try with_reducible rfl))
      try simp only [Act.put, kB0, kB1, kB2, kB3, kB4, kB5]
      refine wpAnyH_take (i := 1) (v := ?_) rfl (by kernel_rfl) (by kernel_rfl) (by kernel_rfl) (fun _ _ _ h => h) (Or.inl ⟨by rfl, ?_⟩) (by assumption) ?_
      rotate_left
      · (intro w hSw; (try dsimp only at hSw); go_simp; (try with_reducible rfl))
      try simp only [Act.put, kB0, kB1, kB2, kB3, kB4, kB5]
      refine wpAnyH_take (i := 2) (v := ?_) rfl (by kernel_rfl) (by kernel_rfl) (by kernel_rfl) (fun _ _ _ h => h) (Or.inl ⟨by rfl, ?_⟩) (by assumption) ?_
      rotate_left
      · (intro w hSw; (try dsimp only at hSw); go_simp; (try with_reducible rfl))
      try simp only [Act.put, kB0, kB1, kB2, kB3, kB4, kB5]
      refine wpAnyH_ready (rs := [3]) (by kernel_rfl) (by simp) ?_
      refine AllReadyH.cons rfl (fun K_ hK => ?_) AllReadyH.nil
      go_simp
      refine (unhide hls _ hHeld.1.t5).mono ?_
      rintro e wX ⟨vs, rfl, ownS, bX⟩
      obtain ⟨sa, sc, hvs⟩ := WIntL.ints_shape ownS.ints
      subst hvs
      have NI := hide ownS.ints
      clear ownS
      refine hK.out _ _ ?_ (fun hHeld => ?_)
      · exact unhide MK _ (hHeld.1.call bX)
      clear hK K_
      try simp only [Act.put, kB0, kB1, kB2, kB3, kB4, kB5]
      refine wpAnyH_ready (rs := [4]) (by kernel_rfl) (by simp) ?_
      refine AllReadyH.cons rfl (fun K_ hK => ?_) AllReadyH.nil
      go_simp
      refine (WIntL.nums_any _ _ K _ (by omega) hHeld.1.n7 (unhide NI)).mono ?_
      rintro e wX ⟨rfl, bX⟩
      refine hK.out _ _ ?_ (fun hHeld => ?_)
      · exact unhide MK _ (hHeld.1.call bX)
      clear hK K_
      try simp only [Act.put, kB0, kB1, kB2, kB3, kB4, kB5]
      clear NI
      refine wpAnyH_take (i := 5) (v := ?_) rfl (by kernel_rfl) (by kernel_rfl) (by kernel_rfl) (fun _ _ _ h => h) (Or.inl ⟨by rfl, ?_⟩) (by assumption) ?_
      rotate_left
      · (intro w hSw; (try dsimp only at hSw); go_simp; (try with_reducible rfl))
      try simp only [Act.put, kB0, kB1, kB2, kB3, kB4, kB5]
      refine wpAnyH_take (i := 6) (v := ?_) rfl (by kernel_rfl) (by kernel_rfl) (by kernel_rfl) (fun _ _ _ h => h) (Or.inl ⟨by rfl, ?_⟩) (by assumption) ?_
      rotate_left
      · (intro w hSw; (try dsimp only at hSw); go_simp; (try with_reducible rfl))
      try simp only [Act.put, kB0, kB1, kB2, kB3, kB4, kB5]
      refine wpAnyH_take (i := 7) (v := ?_) rfl (by kernel_rfl) (by kernel_rfl) (by kernel_rfl) (fun _ _ _ h => h) (Or.inl ⟨by rfl, ?_⟩) (by assumption) ?_
      rotate_left
      · (intro w hSw; (try dsimp only at hSw); go_simp; (try with_reducible rfl))
      try simp only [Act.put, kB0, kB1, kB2, kB3, kB4, kB5]
      refine wpAnyH_take (i := 8) (v := ?_) rfl (by kernel_rfl) (by kernel_rfl) (by kernel_rfl) (fun _ _ _ h => h) (Or.inl ⟨by rfl, ?_⟩) (by assumption) ?_
      rotate_left
      · (intro w hSw; (try dsimp only at hSw); go_simp; (try with_reducible rfl))
      try simp only [Act.put, kB0, kB1, kB2, kB3, kB4, kB5]
      refine wpAnyH_ready (rs := [9]) (by kernel_rfl) (by simp) ?_
      refine AllReadyH.cons rfl (fun K_ hK => ?_) AllReadyH.nil
      go_simp
      refine (unhide hps _ hHeld.1.n8).mono ?_
      rintro e wX ⟨vz, rfl, ownZ, bX⟩
      obtain ⟨za, zc, hvz⟩ := Mem.own_shape ownZ
      subst hvz
      have NZ := hide (Mem.ownN_nodes ownZ).2
      clear ownZ
      refine hK.out _ _ ?_ (fun hHeld => ?_)
      · exact unhide MK _ (hHeld.1.call bX)
      clear hK K_
      try simp only [Act.put, kB0, kB1, kB2, kB3, kB4, kB5]
      refine wpAnyH_ready (rs := [10]) (by kernel_rfl) (by simp) ?_
      refine AllReadyH.cons rfl (fun K_ hK => ?_) AllReadyH.nil
      go_simp
      refine (WLw.trees_any xa za xc zc C O _ (by omega) hHeld.1.n9 (unhide NZ) (unhide HOO) (unhide HOT)).mono ?_
      rintro e wX ⟨rfl, bX⟩
      refine hK.out _ _ ?_ (fun hHeld => ?_)
      · exact unhide MK _ (hHeld.1.call bX)
      clear hK K_
      try simp only [Act.put, kB0, kB1, kB2, kB3, kB4, kB5]
      clear NZ
      refine wpAnyH_take (i := 11) (v := ?_) rfl (by kernel_rfl) (by kernel_rfl) (by kernel_rfl) (fun _ _ _ h => h) (Or.inl ⟨by rfl, ?_⟩) (by assumption) ?_
      rotate_left
      · (intro w hSw; (try dsimp only at hSw); go_simp; (try with_reducible rfl))
      try simp only [Act.put, kB0, kB1, kB2, kB3, kB4, kB5]
      refine wpAnyH_take (i := 12) (v := ?_) rfl (by kernel_rfl) (by kernel_rfl) (by kernel_rfl) (fun _ _ _ h => h) (Or.inl ⟨by rfl, ?_⟩) (by assumption) ?_
      rotate_left
      · (intro w hSw; (try dsimp only at hSw); go_simp; (try with_reducible rfl))
      try simp only [Act.put, kB0, kB1, kB2, kB3, kB4, kB5]
      refine wpAnyH_take (i := 13) (v := ?_) rfl (by kernel_rfl) (by kernel_rfl) (by kernel_rfl) (fun _ _ _ h => h) (Or.inl ⟨by rfl, ?_⟩) (by assumption) ?_
      rotate_left
      · (intro w hSw; (try dsimp only at hSw); go_simp; (try with_reducible rfl))
      try simp only [Act.put, kB0, kB1, kB2, kB3, kB4, kB5]
      refine wpAnyH_take (i := 14) (v := ?_) rfl (by kernel_rfl) (by kernel_rfl) (by kernel_rfl) (fun _ _ _ h => h) (Or.inl ⟨by rfl, ?_⟩) (by assumption) ?_
      rotate_left
      · (intro w hSw; (try dsimp only at hSw); go_simp; (try with_reducible rfl))
      try simp only [Act.put, kB0, kB1, kB2, kB3, kB4, kB5]
      refine wpAnyH_take (i := 16) (v := ?_) rfl (by kernel_rfl) (by kernel_rfl) (by kernel_rfl) (fun _ _ _ h => h) (Or.inl ⟨by rfl, ?_⟩) (by assumption) ?_
      rotate_left
      · (intro w hSw; (try dsimp only at hSw); go_simp; (try with_reducible rfl))
      try simp only [Act.put, kB0, kB1, kB2, kB3, kB4, kB5]
      refine wpAnyH_ready (rs := [15]) (by kernel_rfl) (by simp) ?_
      refine AllReadyH.cons rfl (fun K_ hK => ?_) AllReadyH.nil
      go_simp
      refine (unhide hti _ ma mc M hml hHeld.1.bel hHeld.1.n10 (unhide OKM)).mono ?_
      rintro e wX ⟨rfl, bX⟩
      refine hK.out _ _ ?_ (fun hHeld => ?_)
      · exact unhide MK _ (hHeld.1.call bX)
      clear hK K_
      try simp only [Act.put, kB0, kB1, kB2, kB3, kB4, kB5]
      refine wpAnyH_ready (rs := [17]) (by kernel_rfl) (by simp) ?_
      refine AllReadyH.cons rfl (fun K_ hK => ?_) AllReadyH.nil
      go_simp
      refine (unhide hts _ ma mc M hml hHeld.1.n10 (unhide OKM)).mono ?_
      rintro e wX ⟨rfl, bX⟩
      refine hK.out _ _ ?_ (fun hHeld => ?_)
      · exact unhide MK _ (hHeld.1.call bX)
      clear hK K_
      try simp only [Act.put, kB0, kB1, kB2, kB3, kB4, kB5]
      refine wpAnyH_take (i := 18) (v := ?_) rfl (by kernel_rfl) (by kernel_rfl) (by kernel_rfl) (fun _ _ _ h => h) (Or.inl ⟨by rfl, ?_⟩) (by assumption) ?_
      rotate_left
      · (intro w hSw; (try dsimp only at hSw); go_simp; (try with_reducible rfl))
      try simp only [Act.put, kB0, kB1, kB2, kB3, kB4, kB5]
      refine wpAnyH_take (i := 19) (v := ?_) rfl (by kernel_rfl) (by kernel_rfl) (by kernel_rfl) (fun _ _ _ h => h) (Or.inl ⟨by rfl, ?_⟩) (by assumption) ?_
      rotate_left
      · (intro w hSw; (try dsimp only at hSw); go_simp; (try with_reducible rfl))
      try simp only [Act.put, kB0, kB1, kB2, kB3, kB4, kB5]
      refine wpAnyH_take (i := 20) (v := ?_) rfl (by kernel_rfl) (by kernel_rfl) (by kernel_rfl) (fun _ _ _ h => h) (Or.inl ⟨by rfl, ?_⟩) (by assumption) ?_
      rotate_left
      · (intro w hSw; (try dsimp only at hSw); go_simp; (try with_reducible rfl))
      try simp only [Act.put, kB0, kB1, kB2, kB3, kB4, kB5]
      refine wpAnyH_take (i := 21) (v := ?_) rfl (by kernel_rfl) (by kernel_rfl) (by kernel_rfl) (fun _ _ _ h => h) (Or.inl ⟨by rfl, ?_⟩) (by assumption) ?_
      rotate_left
      · (intro w hSw; (try dsimp only at hSw); go_simp; (try with_reducible rfl))
      try simp only [Act.put, kB0, kB1, kB2, kB3, kB4, kB5]
      refine wpAnyH_take (i := 22) (v := ?_) rfl (by kernel_rfl) (by kernel_rfl) (by kernel_rfl) (fun _ _ _ h => h) (Or.inl ⟨by rfl, ?_⟩) (by assumption) ?_
      rotate_left
      · (intro w hSw; (try dsimp only at hSw); go_simp; (try with_reducible rfl))
      try simp only [Act.put, kB0, kB1, kB2, kB3, kB4, kB5]
      refine wpAnyH_take (i := 23) (v := ?_) rfl (by kernel_rfl) (by kernel_rfl) (by kernel_rfl) (fun _ _ _ h => h) (Or.inl ⟨by rfl, ?_⟩) (by assumption) ?_
      rotate_left
      · (intro w hSw; (try dsimp only at hSw); go_simp; (try with_reducible rfl))
      try simp only [Act.put, kB0, kB1, kB2, kB3, kB4, kB5]
      refine wpAnyH_take (i := 24) (v := ?_) rfl (by kernel_rfl) (by kernel_rfl) (by kernel_rfl) (fun _ _ _ h => h) (Or.inl ⟨by rfl, ?_⟩) (by assumption) ?_
      rotate_left
      · (intro w hSw; (try dsimp only at hSw); go_simp; (try with_reducible rfl))
      try simp only [Act.put, kB0, kB1, kB2, kB3, kB4, kB5]
      refine wpAnyH_take (i := 25) (v := undef) rfl (by kernel_rfl) (by kernel_rfl) (by kernel_rfl) (fun _ _ _ h => h) (Or.inr ⟨by rfl, rfl⟩) (by assumption) ?_
      try simp only [Act.put, kB0, kB1, kB2, kB3, kB4, kB5]
      refine wpAnyH_take (i := 26) (v := undef) rfl (by kernel_rfl) (by kernel_rfl) (by kernel_rfl) (fun _ _ _ h => h) (Or.inr ⟨by rfl, rfl⟩) (by assumption) ?_
      try simp only [Act.put, kB0, kB1, kB2, kB3, kB4, kB5]
      refine wpAnyH_take (i := 27) (v := undef) rfl (by kernel_rfl) (by kernel_rfl) (by kernel_rfl) (fun _ _ _ h => h) (Or.inr ⟨by rfl, rfl⟩) (by assumption) ?_
      try simp only [Act.put, kB0, kB1, kB2, kB3, kB4, kB5]
      refine wpAnyH_take (i := 28) (v := undef) rfl (by kernel_rfl) (by kernel_rfl) (by kernel_rfl) (fun _ _ _ h => h) (Or.inr ⟨by rfl, rfl⟩) (by assumption) ?_
      try simp only [Act.put, kB0, kB1, kB2, kB3, kB4, kB5]
      refine wpAnyH_take (i := 29) (v := undef) rfl (by kernel_rfl) (by kernel_rfl) (by kernel_rfl) (fun _ _ _ h => h) (Or.inr ⟨by rfl, rfl⟩) (by assumption) ?_
      try simp only [Act.put, kB0, kB1, kB2, kB3, kB4, kB5]
      refine wpAnyH_take (i := 30) (v := undef) rfl (by kernel_rfl) (by kernel_rfl) (by kernel_rfl) (fun _ _ _ h => h) (Or.inr ⟨by rfl, rfl⟩) (by assumption) ?_
      try simp only [Act.put, kB0, kB1, kB2, kB3, kB4, kB5]
      refine wpAnyH_take (i := 31) (v := undef) rfl (by kernel_rfl) (by kernel_rfl) (by kernel_rfl) (fun _ _ _ h => h) (Or.inr ⟨by rfl, rfl⟩) (by assumption) ?_
      try simp only [Act.put, kB0, kB1, kB2, kB3, kB4, kB5]
      refine wpAnyH_take (i := 32) (v := undef) rfl (by kernel_rfl) (by kernel_rfl) (by kernel_rfl) (fun _ _ _ h => h) (Or.inr ⟨by rfl, rfl⟩) (by assumption) ?_
      try simp only [Act.put, kB0, kB1, kB2, kB3, kB4, kB5]
      refine wpAnyH_take (i := 33) (v := undef) rfl (by kernel_rfl) (by kernel_rfl) (by kernel_rfl) (fun _ _ _ h => h) (Or.inr ⟨by rfl, rfl⟩) (by assumption) ?_
      try simp only [Act.put, kB0, kB1, kB2, kB3, kB4, kB5]
      refine wpAnyH_take (i := 34) (v := undef) rfl (by kernel_rfl) (by kernel_rfl) (by kernel_rfl) (fun _ _ _ h => h) (Or.inr ⟨by rfl, rfl⟩) (by assumption) ?_
      try simp only [Act.put, kB0, kB1, kB2, kB3, kB4, kB5]
      refine wpAnyH_take (i := 35) (v := undef) rfl (by kernel_rfl) (by kernel_rfl) (by kernel_rfl) (fun _ _ _ h => h) (Or.inr ⟨by rfl, rfl⟩) (by assumption) ?_
      try simp only [Act.put, kB0, kB1, kB2, kB3, kB4, kB5]
      refine wpAnyH_take (i := 36) (v := undef) rfl (by kernel_rfl) (by kernel_rfl) (by kernel_rfl) (fun _ _ _ h => h) (Or.inr ⟨by rfl, rfl⟩) (by assumption) ?_
      try simp only [Act.put, kB0, kB1, kB2, kB3, kB4, kB5]
      refine wpAnyH_take (i := 37) (v := undef) rfl (by kernel_rfl) (by kernel_rfl) (by kernel_rfl) (fun _ _ _ h => h) (Or.inr ⟨by rfl, rfl⟩) (by assumption) ?_
      try simp only [Act.put, kB0, kB1, kB2, kB3, kB4, kB5]
      refine wpAnyH_take (i := 38) (v := undef) rfl (by kernel_rfl) (by kernel_rfl) (by kernel_rfl) (fun _ _ _ h => h) (Or.inr ⟨by rfl, rfl⟩) (by assumption) ?_
      try simp only [Act.put, kB0, kB1, kB2, kB3, kB4, kB5]
      refine wpAnyH_take (i := 39) (v := ?_) rfl (by kernel_rfl) (by kernel_rfl) (by kernel_rfl) (fun _ _ _ h => h) (Or.inl ⟨by rfl, ?_⟩) (by assumption) ?_
      rotate_left
      · (intro w hSw; (try dsimp only at hSw); go_simp; (try with_reducible rfl))
      try simp only [Act.put, kB0, kB1, kB2, kB3, kB4, kB5]
      refine wpAnyH_take (i := 40) (v := ?_) rfl (by kernel_rfl) (by kernel_rfl) (by kernel_rfl) (fun _ _ _ h => h) (Or.inl ⟨by rfl, ?_⟩) (by assumption) ?_
      rotate_left
      · (intro w hSw; (try dsimp only at hSw); go_simp; (try with_reducible rfl))
      try simp only [Act.put, kB0, kB1, kB2, kB3, kB4, kB5]
      refine wpAnyH_done (by kernel_rfl) ?_ _
      have K4 := hide hHeld.1
      clear hHeld
      go_wp2_with fail
      go_meet
      case rel => exact ⟨rfl, unhide K4⟩
  case rest =>
    obtain ⟨rfl, k4⟩ := hcut
    have K4 := hide k4
    have x5 := k4.b5.cell 0
    simp only [kA0, kA1, kA2] at x5
    clear k4 hti hts hto hpo HOO HOT HOP hb0 OKL OKM hls hps
    have hgt1 := hide (fun (L : List Pl.Nd) W (b : Below w.heap.size w W) a cap (hl : L.length ≤ 1048576) (v : Mem.isNodes W a L) hok => WGetT.impl_any a cap L p W hl v hok (by omega) x (unhide HE W b))
    obtain ⟨np, nk, nd, nt, nm, c, hsv2, hiff⟩ := unhide HKY
    rw [hsv2] at hsv
    clear HKY hsv2
    go_wp2_with fail
    refine (unhide hsv _ (unhide K4).bel (unhide K4).t5).mono ?_
    rintro e v10 ⟨rfl, b10⟩
    have K5 := hide (((unhide K4).call b10).call ((Below.refl _ _).alloc (Nat.le_refl _) (.cells #[.string np, .int .i64 nk, .string nd, .int .i64 nt, .int .i64 nm, .int .i64 c] 38)))
    have B11 := Mem.Blk.new v10 #[.string np, .int .i64 nk, .string nd, .int .i64 nt, .int .i64 nm, .int .i64 c] 38
    have y1 := B11.cell 1
    have y5 := B11.cell 5
    simp only [kA0, kA1, kA2] at y1 y5
    clear K4 b10 x5 hsv B11
    have hiff := hide hiff
    by_cases hz : p.size = 0
    · have t1 : p.toList.isEmpty = true := by rw [Pl.empty_list]; simpa [Pl.by_nil] using hz
      go_wp2_with fail
      go_loopw [12] (fun i wr => ∃ k : Nat, k ≤ K.length ∧ i = .int .i64 (k : Int) ∧ Hid (Fk w wr X5 X8 X9 X10 la ia ta xa ma lc ic tc xc mc Ts K L O M C)) (fun i _ => K.length - (intOf i).toNat)
      case atStart => exact ⟨0, Nat.zero_le _, rfl, K5⟩
      case round =>
        obtain ⟨k, hk, rfl, K4⟩ := hrel
        clear K5
        by_cases hlt : k < K.length
        · have y0 : (k : Int) < (K.length : Int) := by omega
          obtain ⟨kk, hkk⟩ : ∃ kk, K[k]? = some kk := ⟨_, List.getElem?_eq_getElem hlt⟩
          cases k with
          | zero =>
            go_wp2_with fail
            obtain ⟨t, htk⟩ : ∃ t, Ts[kk]? = some t := ⟨_, List.getElem?_eq_getElem (by have := unhide HKI kk (List.mem_of_getElem? hkk); rw [List.length_map] at this; exact this)⟩
            obtain ⟨⟨tb, tof, hla, -, -⟩, -⟩ := (unhide K4).t5 kk t htk
            subst hla
            obtain ⟨ib, hia⟩ := ints_block (unhide K4).n7 hkk
            subst hia
            have hkb : kk < Ts.length := (List.getElem?_eq_some_iff.1 htk).1
            have g1 : ¬ ((kk : Int) < 0) := by omega
            have g2 : ¬ ((Ts.length : Int) ≤ (kk : Int)) := by omega
            have g3 : decide ((kk : Int) < 0) = false := by simp
            have g4 : decide ((Ts.length : Int) ≤ (kk : Int)) = false := decide_eq_false g2
            have ix : 0 ≤ (kk : Int) ∧ (kk : Int) < (Ts.length : Int) := by omega
            have ik : 0 ≤ (0 : Int) ∧ (0 : Int) < (K.length : Int) := by omega
            have gz : decide ((0 : Int) < 0) = false := rfl
            have MK : Hid (∀ W', Fk w W' X5 X8 X9 X10 (some ⟨tb, tof, none⟩) (some ⟨ib, 0, none⟩) ta xa ma lc ic tc xc mc Ts K L O M C → (fun W' => Fk w W' X5 X8 X9 X10 (some ⟨tb, tof, none⟩) (some ⟨ib, 0, none⟩) ta xa ma lc ic tc xc mc Ts K L O M C ∧ W'.cell? ⟨X5, 0, none⟩ = some (.slice (some ⟨tb, tof, none⟩) Ts.length lc) ∧ W'.cell? ⟨ib, 0, none⟩ = some (.int .i64 (kk : Int)) ∧ W'.cell? ⟨tb, tof + kk, none⟩ = some (.slice t.a t.L.length t.cap)) W') := fun W' h => ⟨h, (by have e := h.b5.cell 0; simp only [kA0, kA1, kA2] at e; exact e), (by have e := ints_cell h.n7 0 kk hkk; exact e), (by obtain ⟨⟨b', o', e1, e2, e3⟩, -⟩ := h.t5 kk t htk; cases e1; exact e3)⟩
            refine wp_region_held_drew (S := fun W' => Fk w W' X5 X8 X9 X10 (some ⟨tb, tof, none⟩) (some ⟨ib, 0, none⟩) ta xa ma lc ic tc xc mc Ts K L O M C ∧ W'.cell? ⟨X5, 0, none⟩ = some (.slice (some ⟨tb, tof, none⟩) Ts.length lc) ∧ W'.cell? ⟨ib, 0, none⟩ = some (.int .i64 (kk : Int)) ∧ W'.cell? ⟨tb, tof + kk, none⟩ = some (.slice t.a t.L.length t.cap)) (by kernel_rfl) ?_ (fun hHeld => ?_)
            · exact unhide MK _ (unhide K4).drew
            clear K4
            refine wpAnyH_take (i := 0) (v := ?_) rfl (by kernel_rfl) (by kernel_rfl) (by kernel_rfl) (fun _ _ _ h => h) (Or.inl ⟨by rfl, ?_⟩) (by assumption) ?_
            rotate_left
            · (intro w hSw; (try dsimp only at hSw); go_simp; (try with_reducible rfl))
            try simp only [Act.put, kB0, kB1, kB2, kB3, kB4, kB5]
            refine wpAnyH_take (i := 1) (v := ?_) rfl (by kernel_rfl) (by kernel_rfl) (by kernel_rfl) (fun _ _ _ h => h) (Or.inl ⟨by rfl, ?_⟩) (by assumption) ?_
            rotate_left
            · (intro w hSw; (try dsimp only at hSw); go_simp; (try with_reducible rfl))
            try simp only [Act.put, kB0, kB1, kB2, kB3, kB4, kB5]
            refine wpAnyH_take (i := 2) (v := ?_) rfl (by kernel_rfl) (by kernel_rfl) (by kernel_rfl) (fun _ _ _ h => h) (Or.inl ⟨by rfl, ?_⟩) (by assumption) ?_
            rotate_left
            · (intro w hSw; (try dsimp only at hSw); go_simp; (try with_reducible rfl))
            try simp only [Act.put, kB0, kB1, kB2, kB3, kB4, kB5]
            refine wpAnyH_take (i := 3) (v := undef) rfl (by kernel_rfl) (by kernel_rfl) (by kernel_rfl) (fun _ _ _ h => h) (Or.inr ⟨by rfl, rfl⟩) (by assumption) ?_
            try simp only [Act.put, kB0, kB1, kB2, kB3, kB4, kB5]
            refine wpAnyH_take (i := 4) (v := undef) rfl (by kernel_rfl) (by kernel_rfl) (by kernel_rfl) (fun _ _ _ h => h) (Or.inr ⟨by rfl, rfl⟩) (by assumption) ?_
            try simp only [Act.put, kB0, kB1, kB2, kB3, kB4, kB5]
            refine wpAnyH_take (i := 5) (v := undef) rfl (by kernel_rfl) (by kernel_rfl) (by kernel_rfl) (fun _ _ _ h => h) (Or.inr ⟨by rfl, rfl⟩) (by assumption) ?_
            try simp only [Act.put, kB0, kB1, kB2, kB3, kB4, kB5]
            refine wpAnyH_take (i := 6) (v := undef) rfl (by kernel_rfl) (by kernel_rfl) (by kernel_rfl) (fun _ _ _ h => h) (Or.inr ⟨by rfl, rfl⟩) (by assumption) ?_
            try simp only [Act.put, kB0, kB1, kB2, kB3, kB4, kB5]
            refine wpAnyH_take (i := 7) (v := undef) rfl (by kernel_rfl) (by kernel_rfl) (by kernel_rfl) (fun _ _ _ h => h) (Or.inr ⟨by rfl, rfl⟩) (by assumption) ?_
            try simp only [Act.put, kB0, kB1, kB2, kB3, kB4, kB5]
            refine wpAnyH_take (i := 8) (v := undef) rfl (by kernel_rfl) (by kernel_rfl) (by kernel_rfl) (fun _ _ _ h => h) (Or.inr ⟨by rfl, rfl⟩) (by assumption) ?_
            try simp only [Act.put, kB0, kB1, kB2, kB3, kB4, kB5]
            refine wpAnyH_take (i := 9) (v := undef) rfl (by kernel_rfl) (by kernel_rfl) (by kernel_rfl) (fun _ _ _ h => h) (Or.inr ⟨by rfl, rfl⟩) (by assumption) ?_
            try simp only [Act.put, kB0, kB1, kB2, kB3, kB4, kB5]
            refine wpAnyH_take (i := 10) (v := undef) rfl (by kernel_rfl) (by kernel_rfl) (by kernel_rfl) (fun _ _ _ h => h) (Or.inr ⟨by rfl, rfl⟩) (by assumption) ?_
            try simp only [Act.put, kB0, kB1, kB2, kB3, kB4, kB5]
            refine wpAnyH_take (i := 11) (v := undef) rfl (by kernel_rfl) (by kernel_rfl) (by kernel_rfl) (fun _ _ _ h => h) (Or.inr ⟨by rfl, rfl⟩) (by assumption) ?_
            try simp only [Act.put, kB0, kB1, kB2, kB3, kB4, kB5]
            refine wpAnyH_take (i := 12) (v := undef) rfl (by kernel_rfl) (by kernel_rfl) (by kernel_rfl) (fun _ _ _ h => h) (Or.inr ⟨by rfl, rfl⟩) (by assumption) ?_
            try simp only [Act.put, kB0, kB1, kB2, kB3, kB4, kB5]
            refine wpAnyH_take (i := 13) (v := ?_) rfl (by kernel_rfl) (by kernel_rfl) (by kernel_rfl) (fun _ _ _ h => h) (Or.inl ⟨by rfl, ?_⟩) (by assumption) ?_
            rotate_left
            · (intro w hSw; (try dsimp only at hSw); go_simp; (try with_reducible rfl))
            try simp only [Act.put, kB0, kB1, kB2, kB3, kB4, kB5]
            refine wpAnyH_take (i := 14) (v := ?_) rfl (by kernel_rfl) (by kernel_rfl) (by kernel_rfl) (fun _ _ _ h => h) (Or.inl ⟨by rfl, ?_⟩) (by assumption) ?_
            rotate_left
            · (intro w hSw; (try dsimp only at hSw); go_simp; (try with_reducible rfl))
            try simp only [Act.put, kB0, kB1, kB2, kB3, kB4, kB5]
            refine wpAnyH_take (i := 15) (v := ?_) rfl (by kernel_rfl) (by kernel_rfl) (by kernel_rfl) (fun _ _ _ h => h) (Or.inl ⟨by rfl, ?_⟩) (by assumption) ?_
            rotate_left
            · (intro w hSw; (try dsimp only at hSw); go_simp; (try with_reducible rfl))
            try simp only [Act.put, kB0, kB1, kB2, kB3, kB4, kB5]
            refine wpAnyH_take (i := 16) (v := ?_) rfl (by kernel_rfl) (by kernel_rfl) (by kernel_rfl) (fun _ _ _ h => h) (Or.inl ⟨by rfl, ?_⟩) (by assumption) ?_
            rotate_left
            · (intro w hSw; (try dsimp only at hSw); go_simp; (try with_reducible rfl))
            try simp only [Act.put, kB0, kB1, kB2, kB3, kB4, kB5]
            refine wpAnyH_take (i := 17) (v := ?_) rfl (by kernel_rfl) (by kernel_rfl) (by kernel_rfl) (fun _ _ _ h => h) (Or.inl ⟨by rfl, ?_⟩) (by assumption) ?_
            rotate_left
            · (intro w hSw; (try dsimp only at hSw); go_simp; (try with_reducible rfl))
            try simp only [Act.put, kB0, kB1, kB2, kB3, kB4, kB5]
            refine wpAnyH_take (i := 18) (v := ?_) rfl (by kernel_rfl) (by kernel_rfl) (by kernel_rfl) (fun _ _ _ h => h) (Or.inl ⟨by rfl, ?_⟩) (by assumption) ?_
            rotate_left
            · (intro w hSw; (try dsimp only at hSw); go_simp; (try with_reducible rfl))
            try simp only [Act.put, kB0, kB1, kB2, kB3, kB4, kB5]
            refine wpAnyH_take (i := 19) (v := ?_) rfl (by kernel_rfl) (by kernel_rfl) (by kernel_rfl) (fun _ _ _ h => h) (Or.inl ⟨by rfl, ?_⟩) (by assumption) ?_
            rotate_left
            · (intro w hSw; (try dsimp only at hSw); go_simp; (try with_reducible rfl))
            try simp only [Act.put, kB0, kB1, kB2, kB3, kB4, kB5]
            refine wpAnyH_take (i := 20) (v := ?_) rfl (by kernel_rfl) (by kernel_rfl) (by kernel_rfl) (fun _ _ _ h => h) (Or.inl ⟨by rfl, ?_⟩) (by assumption) ?_
            rotate_left
            · (intro w hSw; (try dsimp only at hSw); go_simp; (try with_reducible rfl))
            try simp only [Act.put, kB0, kB1, kB2, kB3, kB4, kB5]
            refine wpAnyH_take (i := 21) (v := ?_) rfl (by kernel_rfl) (by kernel_rfl) (by kernel_rfl) (fun _ _ _ h => h) (Or.inl ⟨by rfl, ?_⟩) (by assumption) ?_
            rotate_left
            · (intro w hSw; (try dsimp only at hSw); go_simp; (try with_reducible rfl))
            try simp only [Act.put, kB0, kB1, kB2, kB3, kB4, kB5]
            refine wpAnyH_take (i := 22) (v := ?_) rfl (by kernel_rfl) (by kernel_rfl) (by kernel_rfl) (fun _ _ _ h => h) (Or.inl ⟨by rfl, ?_⟩) (by assumption) ?_
            rotate_left
            · (intro w hSw; (try dsimp only at hSw); go_simp; (try with_reducible rfl))
            try simp only [Act.put, kB0, kB1, kB2, kB3, kB4, kB5]
            refine wpAnyH_take (i := 23) (v := ?_) rfl (by kernel_rfl) (by kernel_rfl) (by kernel_rfl) (fun _ _ _ h => h) (Or.inl ⟨by rfl, ?_⟩) (by assumption) ?_
            rotate_left
            · (intro w hSw; (try dsimp only at hSw); go_simp; (try with_reducible rfl))
            try simp only [Act.put, kB0, kB1, kB2, kB3, kB4, kB5]
            refine wpAnyH_take (i := 24) (v := ?_) rfl (by kernel_rfl) (by kernel_rfl) (by kernel_rfl) (fun _ _ _ h => h) (Or.inl ⟨by rfl, ?_⟩) (by assumption) ?_
            rotate_left
            · (intro w hSw; (try dsimp only at hSw); go_simp; (try with_reducible rfl))
            try simp only [Act.put, kB0, kB1, kB2, kB3, kB4, kB5]
            refine wpAnyH_take (i := 25) (v := ?_) rfl (by kernel_rfl) (by kernel_rfl) (by kernel_rfl) (fun _ _ _ h => h) (Or.inl ⟨by rfl, ?_⟩) (by assumption) ?_
            rotate_left
            · (intro w hSw; (try dsimp only at hSw); go_simp; (try with_reducible rfl))
            try simp only [Act.put, kB0, kB1, kB2, kB3, kB4, kB5]
            refine wpAnyH_take (i := 26) (v := ?_) rfl (by kernel_rfl) (by kernel_rfl) (by kernel_rfl) (fun _ _ _ h => h) (Or.inl ⟨by rfl, ?_⟩) (by assumption) ?_
            rotate_left
            · (intro w hSw; (try dsimp only at hSw); go_simp; (try with_reducible rfl))
            try simp only [Act.put, kB0, kB1, kB2, kB3, kB4, kB5]
            refine wpAnyH_take (i := 27) (v := ?_) rfl (by kernel_rfl) (by kernel_rfl) (by kernel_rfl) (fun _ _ _ h => h) (Or.inl ⟨by rfl, ?_⟩) (by assumption) ?_
            rotate_left
            · (intro w hSw; (try dsimp only at hSw); go_simp; (try with_reducible rfl))
            try simp only [Act.put, kB0, kB1, kB2, kB3, kB4, kB5]
            refine wpAnyH_take (i := 28) (v := ?_) rfl (by kernel_rfl) (by kernel_rfl) (by kernel_rfl) (fun _ _ _ h => h) (Or.inl ⟨by rfl, ?_⟩) (by assumption) ?_
            rotate_left
            · (intro w hSw; (try dsimp only at hSw); go_simp; (try with_reducible rfl))
            try simp only [Act.put, kB0, kB1, kB2, kB3, kB4, kB5]
            refine wpAnyH_take (i := 29) (v := ?_) rfl (by kernel_rfl) (by kernel_rfl) (by kernel_rfl) (fun _ _ _ h => h) (Or.inl ⟨by rfl, ?_⟩) (by assumption) ?_
            rotate_left
            · (intro w hSw; (try dsimp only at hSw); go_simp; (try with_reducible rfl))
            try simp only [Act.put, kB0, kB1, kB2, kB3, kB4, kB5]
            refine wpAnyH_take (i := 30) (v := ?_) rfl (by kernel_rfl) (by kernel_rfl) (by kernel_rfl) (fun _ _ _ h => h) (Or.inl ⟨by rfl, ?_⟩) (by assumption) ?_
            rotate_left
            · (intro w hSw; (try dsimp only at hSw); go_simp; (try with_reducible rfl))
            try simp only [Act.put, kB0, kB1, kB2, kB3, kB4, kB5]
            refine wpAnyH_take (i := 31) (v := ?_) rfl (by kernel_rfl) (by kernel_rfl) (by kernel_rfl) (fun _ _ _ h => h) (Or.inl ⟨by rfl, ?_⟩) (by assumption) ?_
            rotate_left
            · (intro w hSw; (try dsimp only at hSw); go_simp; (try with_reducible rfl))
            try simp only [Act.put, kB0, kB1, kB2, kB3, kB4, kB5]
            refine wpAnyH_take (i := 32) (v := ?_) rfl (by kernel_rfl) (by kernel_rfl) (by kernel_rfl) (fun _ _ _ h => h) (Or.inl ⟨by rfl, ?_⟩) (by assumption) ?_
            rotate_left
            · (intro w hSw; (try dsimp only at hSw); go_simp; (try with_reducible rfl))
            try simp only [Act.put, kB0, kB1, kB2, kB3, kB4, kB5]
            refine wpAnyH_take (i := 33) (v := ?_) rfl (by kernel_rfl) (by kernel_rfl) (by kernel_rfl) (fun _ _ _ h => h) (Or.inl ⟨by rfl, ?_⟩) (by assumption) ?_
            rotate_left
            · (intro w hSw; (try dsimp only at hSw); go_simp; (try with_reducible rfl))
            try simp only [Act.put, kB0, kB1, kB2, kB3, kB4, kB5]
            refine wpAnyH_take (i := 34) (v := ?_) rfl (by kernel_rfl) (by kernel_rfl) (by kernel_rfl) (fun _ _ _ h => h) (Or.inl ⟨by rfl, ?_⟩) (by assumption) ?_
            rotate_left
            · (intro w hSw; (try dsimp only at hSw); go_simp; (try with_reducible rfl))
            try simp only [Act.put, kB0, kB1, kB2, kB3, kB4, kB5]
            refine wpAnyH_take (i := 35) (v := undef) rfl (by kernel_rfl) (by kernel_rfl) (by kernel_rfl) (fun _ _ _ h => h) (Or.inr ⟨by rfl, rfl⟩) (by assumption) ?_
            try simp only [Act.put, kB0, kB1, kB2, kB3, kB4, kB5]
            refine wpAnyH_take (i := 36) (v := undef) rfl (by kernel_rfl) (by kernel_rfl) (by kernel_rfl) (fun _ _ _ h => h) (Or.inr ⟨by rfl, rfl⟩) (by assumption) ?_
            try simp only [Act.put, kB0, kB1, kB2, kB3, kB4, kB5]
            refine wpAnyH_take (i := 37) (v := undef) rfl (by kernel_rfl) (by kernel_rfl) (by kernel_rfl) (fun _ _ _ h => h) (Or.inr ⟨by rfl, rfl⟩) (by assumption) ?_
            try simp only [Act.put, kB0, kB1, kB2, kB3, kB4, kB5]
            refine wpAnyH_take (i := 38) (v := undef) rfl (by kernel_rfl) (by kernel_rfl) (by kernel_rfl) (fun _ _ _ h => h) (Or.inr ⟨by rfl, rfl⟩) (by assumption) ?_
            try simp only [Act.put, kB0, kB1, kB2, kB3, kB4, kB5]
            refine wpAnyH_take (i := 39) (v := undef) rfl (by kernel_rfl) (by kernel_rfl) (by kernel_rfl) (fun _ _ _ h => h) (Or.inr ⟨by rfl, rfl⟩) (by assumption) ?_
            try simp only [Act.put, kB0, kB1, kB2, kB3, kB4, kB5]
            refine wpAnyH_take (i := 40) (v := undef) rfl (by kernel_rfl) (by kernel_rfl) (by kernel_rfl) (fun _ _ _ h => h) (Or.inr ⟨by rfl, rfl⟩) (by assumption) ?_
            try simp only [Act.put, kB0, kB1, kB2, kB3, kB4, kB5]
            refine wpAnyH_take (i := 41) (v := undef) rfl (by kernel_rfl) (by kernel_rfl) (by kernel_rfl) (fun _ _ _ h => h) (Or.inr ⟨by rfl, rfl⟩) (by assumption) ?_
            try simp only [Act.put, kB0, kB1, kB2, kB3, kB4, kB5]
            refine wpAnyH_take (i := 42) (v := undef) rfl (by kernel_rfl) (by kernel_rfl) (by kernel_rfl) (fun _ _ _ h => h) (Or.inr ⟨by rfl, rfl⟩) (by assumption) ?_
            try simp only [Act.put, kB0, kB1, kB2, kB3, kB4, kB5]
            refine wpAnyH_take (i := 43) (v := undef) rfl (by kernel_rfl) (by kernel_rfl) (by kernel_rfl) (fun _ _ _ h => h) (Or.inr ⟨by rfl, rfl⟩) (by assumption) ?_
            try simp only [Act.put, kB0, kB1, kB2, kB3, kB4, kB5]
            refine wpAnyH_take (i := 44) (v := undef) rfl (by kernel_rfl) (by kernel_rfl) (by kernel_rfl) (fun _ _ _ h => h) (Or.inr ⟨by rfl, rfl⟩) (by assumption) ?_
            try simp only [Act.put, kB0, kB1, kB2, kB3, kB4, kB5]
            refine wpAnyH_take (i := 45) (v := undef) rfl (by kernel_rfl) (by kernel_rfl) (by kernel_rfl) (fun _ _ _ h => h) (Or.inr ⟨by rfl, rfl⟩) (by assumption) ?_
            try simp only [Act.put, kB0, kB1, kB2, kB3, kB4, kB5]
            refine wpAnyH_take (i := 46) (v := undef) rfl (by kernel_rfl) (by kernel_rfl) (by kernel_rfl) (fun _ _ _ h => h) (Or.inr ⟨by rfl, rfl⟩) (by assumption) ?_
            try simp only [Act.put, kB0, kB1, kB2, kB3, kB4, kB5]
            refine wpAnyH_take (i := 47) (v := undef) rfl (by kernel_rfl) (by kernel_rfl) (by kernel_rfl) (fun _ _ _ h => h) (Or.inr ⟨by rfl, rfl⟩) (by assumption) ?_
            try simp only [Act.put, kB0, kB1, kB2, kB3, kB4, kB5]
            refine wpAnyH_take (i := 48) (v := ?_) rfl (by kernel_rfl) (by kernel_rfl) (by kernel_rfl) (fun _ _ _ h => h) (Or.inl ⟨by rfl, ?_⟩) (by assumption) ?_
            rotate_left
            · (intro w hSw; (try dsimp only at hSw); go_simp; (try with_reducible rfl))
            try simp only [Act.put, kB0, kB1, kB2, kB3, kB4, kB5]
            refine wpAnyH_take (i := 49) (v := ?_) rfl (by kernel_rfl) (by kernel_rfl) (by kernel_rfl) (fun _ _ _ h => h) (Or.inl ⟨by rfl, ?_⟩) (by assumption) ?_
            rotate_left
            · (intro w hSw; (try dsimp only at hSw); go_simp; (try with_reducible rfl))
            try simp only [Act.put, kB0, kB1, kB2, kB3, kB4, kB5]
            refine wpAnyH_done (by kernel_rfl) ?_ _
            have K4 := hide hHeld.1
            clear hHeld
            go_wp2_with fail
            go_roundw
            case rel => exact ⟨1, by omega, by go_num, K4⟩
            case measure => simp [intOf]; omega
          | succ j =>
            obtain ⟨kj, hkj⟩ : ∃ kj, K[j]? = some kj := ⟨_, List.getElem?_eq_getElem (by omega)⟩
            push_cast at y0 ⊢
            go_wp2_with fail
            obtain ⟨t, htk⟩ : ∃ t, Ts[kk]? = some t := ⟨_, List.getElem?_eq_getElem (by have := unhide HKI kk (List.mem_of_getElem? hkk); rw [List.length_map] at this; exact this)⟩
            obtain ⟨⟨tb, tof, hla, -, -⟩, -⟩ := (unhide K4).t5 kk t htk
            subst hla
            obtain ⟨ib, hia⟩ := ints_block (unhide K4).n7 hkk
            subst hia
            have hkb : kk < Ts.length := (List.getElem?_eq_some_iff.1 htk).1
            have g1 : ¬ ((kk : Int) < 0) := by omega
            have g2 : ¬ ((Ts.length : Int) ≤ (kk : Int)) := by omega
            have g3 : decide ((kk : Int) < 0) = false := by simp
            have g4 : decide ((Ts.length : Int) ≤ (kk : Int)) = false := decide_eq_false g2
            have ix : 0 ≤ (kk : Int) ∧ (kk : Int) < (Ts.length : Int) := by omega
            have ik : 0 ≤ (j : Int) + 1 ∧ (j : Int) + 1 < (K.length : Int) := by omega
            have ij : 0 ≤ (j : Int) ∧ (j : Int) < (K.length : Int) := by omega
            have hw1 : IntKind.i64.wrap ((j : Int) + 1 - 1) = (j : Int) := by simp only [IntKind.wrap_i64]; omega
            have hw2 : IntKind.i64.wrap (j : Int) = (j : Int) := by simp only [IntKind.wrap_i64]; omega
            have hr := (List.pairwise_iff_getElem.1 (unhide HKS)) j (j + 1) (by omega) (by omega) (by omega)
            rw [(List.getElem?_eq_some_iff.1 hkj).2, (List.getElem?_eq_some_iff.1 hkk).2] at hr
            have g5 : ¬ ((kk : Int) ≤ (kj : Int)) := by omega
            have g6 : decide ((kk : Int) ≤ (kj : Int)) = false := decide_eq_false g5
            have gz : decide ((0 : Int) < (j : Int) + 1) = true := decide_eq_true (by omega)
            clear hr
            have MK : Hid (∀ W', Fk w W' X5 X8 X9 X10 (some ⟨tb, tof, none⟩) (some ⟨ib, 0, none⟩) ta xa ma lc ic tc xc mc Ts K L O M C → (fun W' => Fk w W' X5 X8 X9 X10 (some ⟨tb, tof, none⟩) (some ⟨ib, 0, none⟩) ta xa ma lc ic tc xc mc Ts K L O M C ∧ W'.cell? ⟨X5, 0, none⟩ = some (.slice (some ⟨tb, tof, none⟩) Ts.length lc) ∧ W'.cell? ⟨ib, j + 1, none⟩ = some (.int .i64 (kk : Int)) ∧ W'.cell? ⟨tb, tof + kk, none⟩ = some (.slice t.a t.L.length t.cap) ∧ W'.cell? ⟨ib, j, none⟩ = some (.int .i64 (kj : Int))) W') := fun W' h => ⟨h, (by have e := h.b5.cell 0; simp only [kA0, kA1, kA2] at e; exact e), (by have e := ints_cell h.n7 (j + 1) kk hkk; exact e), (by obtain ⟨⟨b', o', e1, e2, e3⟩, -⟩ := h.t5 kk t htk; cases e1; exact e3), (by have e := ints_cell h.n7 j kj hkj; exact e)⟩
            refine wp_region_held_drew (S := fun W' => Fk w W' X5 X8 X9 X10 (some ⟨tb, tof, none⟩) (some ⟨ib, 0, none⟩) ta xa ma lc ic tc xc mc Ts K L O M C ∧ W'.cell? ⟨X5, 0, none⟩ = some (.slice (some ⟨tb, tof, none⟩) Ts.length lc) ∧ W'.cell? ⟨ib, j + 1, none⟩ = some (.int .i64 (kk : Int)) ∧ W'.cell? ⟨tb, tof + kk, none⟩ = some (.slice t.a t.L.length t.cap) ∧ W'.cell? ⟨ib, j, none⟩ = some (.int .i64 (kj : Int))) (by kernel_rfl) ?_ (fun hHeld => ?_)
            · exact unhide MK _ (unhide K4).drew
            clear K4
            refine wpAnyH_take (i := 0) (v := ?_) rfl (by kernel_rfl) (by kernel_rfl) (by kernel_rfl) (fun _ _ _ h => h) (Or.inl ⟨by rfl, ?_⟩) (by assumption) ?_
            rotate_left
            · (intro w hSw; (try dsimp only at hSw); go_simp; (try with_reducible rfl))
            try simp only [Act.put, kB0, kB1, kB2, kB3, kB4, kB5]
            refine wpAnyH_take (i := 1) (v := ?_) rfl (by kernel_rfl) (by kernel_rfl) (by kernel_rfl) (fun _ _ _ h => h) (Or.inl ⟨by rfl, ?_⟩) (by assumption) ?_
            rotate_left
            · (intro w hSw; (try dsimp only at hSw); go_simp; (try with_reducible rfl))
            try simp only [Act.put, kB0, kB1, kB2, kB3, kB4, kB5]
            refine wpAnyH_take (i := 2) (v := ?_) rfl (by kernel_rfl) (by kernel_rfl) (by kernel_rfl) (fun _ _ _ h => h) (Or.inl ⟨by rfl, ?_⟩) (by assumption) ?_
            rotate_left
            · (intro w hSw; (try dsimp only at hSw); go_simp; (try with_reducible rfl))
            try simp only [Act.put, kB0, kB1, kB2, kB3, kB4, kB5]
            refine wpAnyH_take (i := 3) (v := ?_) rfl (by kernel_rfl) (by kernel_rfl) (by kernel_rfl) (fun _ _ _ h => h) (Or.inl ⟨by rfl, ?_⟩) (by assumption) ?_
            rotate_left
            · (intro w hSw; (try dsimp only at hSw); go_simp; (try with_reducible rfl))
            try simp only [Act.put, kB0, kB1, kB2, kB3, kB4, kB5]
            refine wpAnyH_take (i := 4) (v := ?_) rfl (by kernel_rfl) (by kernel_rfl) (by kernel_rfl) (fun _ _ _ h => h) (Or.inl ⟨by rfl, ?_⟩) (by assumption) ?_
            rotate_left
            · (intro w hSw; (try dsimp only at hSw); go_simp; (try with_reducible rfl))
            try simp only [Act.put, kB0, kB1, kB2, kB3, kB4, kB5]
            refine wpAnyH_take (i := 5) (v := ?_) rfl (by kernel_rfl) (by kernel_rfl) (by kernel_rfl) (fun _ _ _ h => h) (Or.inl ⟨by rfl, ?_⟩) (by assumption) ?_
            rotate_left
            · (intro w hSw; (try dsimp only at hSw); go_simp; (try with_reducible rfl))
            try simp only [Act.put, kB0, kB1, kB2, kB3, kB4, kB5]
            refine wpAnyH_take (i := 6) (v := ?_) rfl (by kernel_rfl) (by kernel_rfl) (by kernel_rfl) (fun _ _ _ h => h) (Or.inl ⟨by rfl, ?_⟩) (by assumption) ?_
            rotate_left
            · (intro w hSw; (try dsimp only at hSw); go_simp; (try with_reducible rfl))
            try simp only [Act.put, kB0, kB1, kB2, kB3, kB4, kB5]
            refine wpAnyH_take (i := 7) (v := ?_) rfl (by kernel_rfl) (by kernel_rfl) (by kernel_rfl) (fun _ _ _ h => h) (Or.inl ⟨by rfl, ?_⟩) (by assumption) ?_
            rotate_left
            · (intro w hSw; (try dsimp only at hSw); go_simp; (try with_reducible rfl))
            try simp only [Act.put, kB0, kB1, kB2, kB3, kB4, kB5]
            refine wpAnyH_take (i := 8) (v := ?_) rfl (by kernel_rfl) (by kernel_rfl) (by kernel_rfl) (fun _ _ _ h => h) (Or.inl ⟨by rfl, ?_⟩) (by assumption) ?_
            rotate_left
            · (intro w hSw; (try dsimp only at hSw); go_simp; (try with_reducible rfl))
            try simp only [Act.put, kB0, kB1, kB2, kB3, kB4, kB5]
            refine wpAnyH_take (i := 9) (v := ?_) rfl (by kernel_rfl) (by kernel_rfl) (by kernel_rfl) (fun _ _ _ h => h) (Or.inl ⟨by rfl, ?_⟩) (by assumption) ?_
            rotate_left
            · (intro w hSw; (try dsimp only at hSw); go_simp; (try with_reducible rfl))
            try simp only [Act.put, kB0, kB1, kB2, kB3, kB4, kB5]
            refine wpAnyH_take (i := 10) (v := ?_) rfl (by kernel_rfl) (by kernel_rfl) (by kernel_rfl) (fun _ _ _ h => h) (Or.inl ⟨by rfl, ?_⟩) (by assumption) ?_
            rotate_left
            · (intro w hSw; (try dsimp only at hSw); go_simp; (try with_reducible rfl))
            try simp only [Act.put, kB0, kB1, kB2, kB3, kB4, kB5]
            refine wpAnyH_take (i := 11) (v := ?_) rfl (by kernel_rfl) (by kernel_rfl) (by kernel_rfl) (fun _ _ _ h => h) (Or.inl ⟨by rfl, ?_⟩) (by assumption) ?_
            rotate_left
            · (intro w hSw; (try dsimp only at hSw); go_simp; (try with_reducible rfl))
            try simp only [Act.put, kB0, kB1, kB2, kB3, kB4, kB5]
            refine wpAnyH_take (i := 12) (v := ?_) rfl (by kernel_rfl) (by kernel_rfl) (by kernel_rfl) (fun _ _ _ h => h) (Or.inl ⟨by rfl, ?_⟩) (by assumption) ?_
            rotate_left
            · (intro w hSw; (try dsimp only at hSw); go_simp; (try with_reducible rfl))
            try simp only [Act.put, kB0, kB1, kB2, kB3, kB4, kB5]
            refine wpAnyH_take (i := 13) (v := ?_) rfl (by kernel_rfl) (by kernel_rfl) (by kernel_rfl) (fun _ _ _ h => h) (Or.inl ⟨by rfl, ?_⟩) (by assumption) ?_
            rotate_left
            · (intro w hSw; (try dsimp only at hSw); go_simp; (try with_reducible rfl))
            try simp only [Act.put, kB0, kB1, kB2, kB3, kB4, kB5]
            refine wpAnyH_take (i := 14) (v := ?_) rfl (by kernel_rfl) (by kernel_rfl) (by kernel_rfl) (fun _ _ _ h => h) (Or.inl ⟨by rfl, ?_⟩) (by assumption) ?_
            rotate_left
            · (intro w hSw; (try dsimp only at hSw); go_simp; (try with_reducible rfl))
            try simp only [Act.put, kB0, kB1, kB2, kB3, kB4, kB5]
            refine wpAnyH_take (i := 15) (v := ?_) rfl (by kernel_rfl) (by kernel_rfl) (by kernel_rfl) (fun _ _ _ h => h) (Or.inl ⟨by rfl, ?_⟩) (by assumption) ?_
            rotate_left
            · (intro w hSw; (try dsimp only at hSw); go_simp; (try with_reducible rfl))
            try simp only [Act.put, kB0, kB1, kB2, kB3, kB4, kB5]
            refine wpAnyH_take (i := 16) (v := ?_) rfl (by kernel_rfl) (by kernel_rfl) (by kernel_rfl) (fun _ _ _ h => h) (Or.inl ⟨by rfl, ?_⟩) (by assumption) ?_
            rotate_left
            · (intro w hSw; (try dsimp only at hSw); go_simp; (try with_reducible rfl))
            try simp only [Act.put, kB0, kB1, kB2, kB3, kB4, kB5]
            refine wpAnyH_take (i := 17) (v := ?_) rfl (by kernel_rfl) (by kernel_rfl) (by kernel_rfl) (fun _ _ _ h => h) (Or.inl ⟨by rfl, ?_⟩) (by assumption) ?_
            rotate_left
            · (intro w hSw; (try dsimp only at hSw); go_simp; (try with_reducible rfl))
            try simp only [Act.put, kB0, kB1, kB2, kB3, kB4, kB5]
            refine wpAnyH_take (i := 18) (v := ?_) rfl (by kernel_rfl) (by kernel_rfl) (by kernel_rfl) (fun _ _ _ h => h) (Or.inl ⟨by rfl, ?_⟩) (by assumption) ?_
            rotate_left
            · (intro w hSw; (try dsimp only at hSw); go_simp; (try with_reducible rfl))
            try simp only [Act.put, kB0, kB1, kB2, kB3, kB4, kB5]
            refine wpAnyH_take (i := 19) (v := ?_) rfl (by kernel_rfl) (by kernel_rfl) (by kernel_rfl) (fun _ _ _ h => h) (Or.inl ⟨by rfl, ?_⟩) (by assumption) ?_
            rotate_left
            · (intro w hSw; (try dsimp only at hSw); go_simp; (try with_reducible rfl))
            try simp only [Act.put, kB0, kB1, kB2, kB3, kB4, kB5]
            refine wpAnyH_take (i := 20) (v := ?_) rfl (by kernel_rfl) (by kernel_rfl) (by kernel_rfl) (fun _ _ _ h => h) (Or.inl ⟨by rfl, ?_⟩) (by assumption) ?_
            rotate_left
            · (intro w hSw; (try dsimp only at hSw); go_simp; (try with_reducible rfl))
            try simp only [Act.put, kB0, kB1, kB2, kB3, kB4, kB5]
            refine wpAnyH_take (i := 21) (v := ?_) rfl (by kernel_rfl) (by kernel_rfl) (by kernel_rfl) (fun _ _ _ h => h) (Or.inl ⟨by rfl, ?_⟩) (by assumption) ?_
            rotate_left
            · (intro w hSw; (try dsimp only at hSw); go_simp; (try with_reducible rfl))
            try simp only [Act.put, kB0, kB1, kB2, kB3, kB4, kB5]
            refine wpAnyH_take (i := 22) (v := ?_) rfl (by kernel_rfl) (by kernel_rfl) (by kernel_rfl) (fun _ _ _ h => h) (Or.inl ⟨by rfl, ?_⟩) (by assumption) ?_
            rotate_left
            · (intro w hSw; (try dsimp only at hSw); go_simp; (try with_reducible rfl))
            try simp only [Act.put, kB0, kB1, kB2, kB3, kB4, kB5]
            refine wpAnyH_take (i := 23) (v := ?_) rfl (by kernel_rfl) (by kernel_rfl) (by kernel_rfl) (fun _ _ _ h => h) (Or.inl ⟨by rfl, ?_⟩) (by assumption) ?_
            rotate_left
            · (intro w hSw; (try dsimp only at hSw); go_simp; (try with_reducible rfl))
            try simp only [Act.put, kB0, kB1, kB2, kB3, kB4, kB5]
            refine wpAnyH_take (i := 24) (v := ?_) rfl (by kernel_rfl) (by kernel_rfl) (by kernel_rfl) (fun _ _ _ h => h) (Or.inl ⟨by rfl, ?_⟩) (by assumption) ?_
            rotate_left
            · (intro w hSw; (try dsimp only at hSw); go_simp; (try with_reducible rfl))
            try simp only [Act.put, kB0, kB1, kB2, kB3, kB4, kB5]
            refine wpAnyH_take (i := 25) (v := ?_) rfl (by kernel_rfl) (by kernel_rfl) (by kernel_rfl) (fun _ _ _ h => h) (Or.inl ⟨by rfl, ?_⟩) (by assumption) ?_
            rotate_left
            · (intro w hSw; (try dsimp only at hSw); go_simp; (try with_reducible rfl))
            try simp only [Act.put, kB0, kB1, kB2, kB3, kB4, kB5]
            refine wpAnyH_take (i := 26) (v := ?_) rfl (by kernel_rfl) (by kernel_rfl) (by kernel_rfl) (fun _ _ _ h => h) (Or.inl ⟨by rfl, ?_⟩) (by assumption) ?_
            rotate_left
            · (intro w hSw; (try dsimp only at hSw); go_simp; (try with_reducible rfl))
            try simp only [Act.put, kB0, kB1, kB2, kB3, kB4, kB5]
            refine wpAnyH_take (i := 27) (v := ?_) rfl (by kernel_rfl) (by kernel_rfl) (by kernel_rfl) (fun _ _ _ h => h) (Or.inl ⟨by rfl, ?_⟩) (by assumption) ?_
            rotate_left
            · (intro w hSw; (try dsimp only at hSw); go_simp; (try with_reducible rfl))
            try simp only [Act.put, kB0, kB1, kB2, kB3, kB4, kB5]
            refine wpAnyH_take (i := 28) (v := ?_) rfl (by kernel_rfl) (by kernel_rfl) (by kernel_rfl) (fun _ _ _ h => h) (Or.inl ⟨by rfl, ?_⟩) (by assumption) ?_
            rotate_left
            · (intro w hSw; (try dsimp only at hSw); go_simp; (try with_reducible rfl))
            try simp only [Act.put, kB0, kB1, kB2, kB3, kB4, kB5]
            refine wpAnyH_take (i := 29) (v := ?_) rfl (by kernel_rfl) (by kernel_rfl) (by kernel_rfl) (fun _ _ _ h => h) (Or.inl ⟨by rfl, ?_⟩) (by assumption) ?_
            rotate_left
            · (intro w hSw; (try dsimp only at hSw); go_simp; (try with_reducible rfl))
            try simp only [Act.put, kB0, kB1, kB2, kB3, kB4, kB5]
            refine wpAnyH_take (i := 30) (v := ?_) rfl (by kernel_rfl) (by kernel_rfl) (by kernel_rfl) (fun _ _ _ h => h) (Or.inl ⟨by rfl, ?_⟩) (by assumption) ?_
            rotate_left
            · (intro w hSw; (try dsimp only at hSw); go_simp; (try with_reducible rfl))
            try simp only [Act.put, kB0, kB1, kB2, kB3, kB4, kB5]
            refine wpAnyH_take (i := 31) (v := ?_) rfl (by kernel_rfl) (by kernel_rfl) (by kernel_rfl) (fun _ _ _ h => h) (Or.inl ⟨by rfl, ?_⟩) (by assumption) ?_
            rotate_left
            · (intro w hSw; (try dsimp only at hSw); go_simp; (try with_reducible rfl))
            try simp only [Act.put, kB0, kB1, kB2, kB3, kB4, kB5]
            refine wpAnyH_take (i := 32) (v := ?_) rfl (by kernel_rfl) (by kernel_rfl) (by kernel_rfl) (fun _ _ _ h => h) (Or.inl ⟨by rfl, ?_⟩) (by assumption) ?_
            rotate_left
            · (intro w hSw; (try dsimp only at hSw); go_simp; (try with_reducible rfl))
            try simp only [Act.put, kB0, kB1, kB2, kB3, kB4, kB5]
            refine wpAnyH_take (i := 33) (v := ?_) rfl (by kernel_rfl) (by kernel_rfl) (by kernel_rfl) (fun _ _ _ h => h) (Or.inl ⟨by rfl, ?_⟩) (by assumption) ?_
            rotate_left
            · (intro w hSw; (try dsimp only at hSw); go_simp; (try with_reducible rfl))
            try simp only [Act.put, kB0, kB1, kB2, kB3, kB4, kB5]
            refine wpAnyH_take (i := 34) (v := ?_) rfl (by kernel_rfl) (by kernel_rfl) (by kernel_rfl) (fun _ _ _ h => h) (Or.inl ⟨by rfl, ?_⟩) (by assumption) ?_
            rotate_left
            · (intro w hSw; (try dsimp only at hSw); go_simp; (try with_reducible rfl))
            try simp only [Act.put, kB0, kB1, kB2, kB3, kB4, kB5]
            refine wpAnyH_take (i := 35) (v := undef) rfl (by kernel_rfl) (by kernel_rfl) (by kernel_rfl) (fun _ _ _ h => h) (Or.inr ⟨by rfl, rfl⟩) (by assumption) ?_
            try simp only [Act.put, kB0, kB1, kB2, kB3, kB4, kB5]
            refine wpAnyH_take (i := 36) (v := undef) rfl (by kernel_rfl) (by kernel_rfl) (by kernel_rfl) (fun _ _ _ h => h) (Or.inr ⟨by rfl, rfl⟩) (by assumption) ?_
            try simp only [Act.put, kB0, kB1, kB2, kB3, kB4, kB5]
            refine wpAnyH_take (i := 37) (v := undef) rfl (by kernel_rfl) (by kernel_rfl) (by kernel_rfl) (fun _ _ _ h => h) (Or.inr ⟨by rfl, rfl⟩) (by assumption) ?_
            try simp only [Act.put, kB0, kB1, kB2, kB3, kB4, kB5]
            refine wpAnyH_take (i := 38) (v := undef) rfl (by kernel_rfl) (by kernel_rfl) (by kernel_rfl) (fun _ _ _ h => h) (Or.inr ⟨by rfl, rfl⟩) (by assumption) ?_
            try simp only [Act.put, kB0, kB1, kB2, kB3, kB4, kB5]
            refine wpAnyH_take (i := 39) (v := undef) rfl (by kernel_rfl) (by kernel_rfl) (by kernel_rfl) (fun _ _ _ h => h) (Or.inr ⟨by rfl, rfl⟩) (by assumption) ?_
            try simp only [Act.put, kB0, kB1, kB2, kB3, kB4, kB5]
            refine wpAnyH_take (i := 40) (v := undef) rfl (by kernel_rfl) (by kernel_rfl) (by kernel_rfl) (fun _ _ _ h => h) (Or.inr ⟨by rfl, rfl⟩) (by assumption) ?_
            try simp only [Act.put, kB0, kB1, kB2, kB3, kB4, kB5]
            refine wpAnyH_take (i := 41) (v := undef) rfl (by kernel_rfl) (by kernel_rfl) (by kernel_rfl) (fun _ _ _ h => h) (Or.inr ⟨by rfl, rfl⟩) (by assumption) ?_
            try simp only [Act.put, kB0, kB1, kB2, kB3, kB4, kB5]
            refine wpAnyH_take (i := 42) (v := undef) rfl (by kernel_rfl) (by kernel_rfl) (by kernel_rfl) (fun _ _ _ h => h) (Or.inr ⟨by rfl, rfl⟩) (by assumption) ?_
            try simp only [Act.put, kB0, kB1, kB2, kB3, kB4, kB5]
            refine wpAnyH_take (i := 43) (v := undef) rfl (by kernel_rfl) (by kernel_rfl) (by kernel_rfl) (fun _ _ _ h => h) (Or.inr ⟨by rfl, rfl⟩) (by assumption) ?_
            try simp only [Act.put, kB0, kB1, kB2, kB3, kB4, kB5]
            refine wpAnyH_take (i := 44) (v := undef) rfl (by kernel_rfl) (by kernel_rfl) (by kernel_rfl) (fun _ _ _ h => h) (Or.inr ⟨by rfl, rfl⟩) (by assumption) ?_
            try simp only [Act.put, kB0, kB1, kB2, kB3, kB4, kB5]
            refine wpAnyH_take (i := 45) (v := undef) rfl (by kernel_rfl) (by kernel_rfl) (by kernel_rfl) (fun _ _ _ h => h) (Or.inr ⟨by rfl, rfl⟩) (by assumption) ?_
            try simp only [Act.put, kB0, kB1, kB2, kB3, kB4, kB5]
            refine wpAnyH_take (i := 46) (v := undef) rfl (by kernel_rfl) (by kernel_rfl) (by kernel_rfl) (fun _ _ _ h => h) (Or.inr ⟨by rfl, rfl⟩) (by assumption) ?_
            try simp only [Act.put, kB0, kB1, kB2, kB3, kB4, kB5]
            refine wpAnyH_take (i := 47) (v := undef) rfl (by kernel_rfl) (by kernel_rfl) (by kernel_rfl) (fun _ _ _ h => h) (Or.inr ⟨by rfl, rfl⟩) (by assumption) ?_
            try simp only [Act.put, kB0, kB1, kB2, kB3, kB4, kB5]
            refine wpAnyH_take (i := 48) (v := ?_) rfl (by kernel_rfl) (by kernel_rfl) (by kernel_rfl) (fun _ _ _ h => h) (Or.inl ⟨by rfl, ?_⟩) (by assumption) ?_
            rotate_left
            · (intro w hSw; (try dsimp only at hSw); go_simp; (try with_reducible rfl))
            try simp only [Act.put, kB0, kB1, kB2, kB3, kB4, kB5]
            refine wpAnyH_take (i := 49) (v := ?_) rfl (by kernel_rfl) (by kernel_rfl) (by kernel_rfl) (fun _ _ _ h => h) (Or.inl ⟨by rfl, ?_⟩) (by assumption) ?_
            rotate_left
            · (intro w hSw; (try dsimp only at hSw); go_simp; (try with_reducible rfl))
            try simp only [Act.put, kB0, kB1, kB2, kB3, kB4, kB5]
            refine wpAnyH_done (by kernel_rfl) ?_ _
            have K4 := hide hHeld.1
            clear hHeld
            go_wp2_with fail
            go_roundw
            case rel => exact ⟨j + 1 + 1, by omega, by go_num, K4⟩
            case measure => simp [intOf]; omega
        · obtain rfl : k = K.length := by omega
          have y0 : ¬ ((K.length : Int) < (K.length : Int)) := by omega
          go_wp2
          go_ret
          exact ⟨rfl, (unhide K4).bel⟩
    · have t1 : p.toList.isEmpty = false := by rw [Pl.empty_list]; simpa [Pl.by_nil] using hz
      by_cases hK : K = []
      · have hKl : K.length = 0 := by rw [hK]; rfl
        have hn : ¬ (c = 0 ∧ nk = 1) := fun h => (unhide hiff hz).2 h hK
        have g0 : ¬ ((0 : Int) < (K.length : Int)) := by omega
        have g0' : decide ((0 : Int) < (K.length : Int)) = false := decide_eq_false g0
        by_cases hc : c = 0
        · subst hc
          have hnk : (nk == 1) = false := by simpa using fun h => hn ⟨rfl, h⟩
          have hnk' : decide (nk = 1) = false := by simpa using fun h => hn ⟨rfl, h⟩
          have HKL := hide hKl
          clear hn hKl hK
          go_wp2_with fail
          go_loopw [12] (fun i wr => ∃ k : Nat, k ≤ K.length ∧ i = .int .i64 (k : Int) ∧ Hid (Fk w wr X5 X8 X9 X10 la ia ta xa ma lc ic tc xc mc Ts K L O M C)) (fun i _ => K.length - (intOf i).toNat)
          case atStart => exact ⟨0, Nat.zero_le _, rfl, K5⟩
          case round =>
            obtain ⟨k, hk, rfl, K4⟩ := hrel
            clear K5
            by_cases hlt : k < K.length
            · exact absurd hlt (by have := unhide HKL; omega)
            · obtain rfl : k = K.length := by omega
              have y0 : ¬ ((K.length : Int) < (K.length : Int)) := by omega
              go_wp2
              go_ret
              exact ⟨rfl, (unhide K4).bel⟩
        · have hc1 : (c == 0) = false := by simpa using hc
          have hc2 : decide (c = 0) = false := by simpa using hc
          have HKL := hide hKl
          clear hn hKl hK
          go_wp2_with fail
          go_loopw [12] (fun i wr => ∃ k : Nat, k ≤ K.length ∧ i = .int .i64 (k : Int) ∧ Hid (Fk w wr X5 X8 X9 X10 la ia ta xa ma lc ic tc xc mc Ts K L O M C)) (fun i _ => K.length - (intOf i).toNat)
          case atStart => exact ⟨0, Nat.zero_le _, rfl, K5⟩
          case round =>
            obtain ⟨k, hk, rfl, K4⟩ := hrel
            clear K5
            by_cases hlt : k < K.length
            · exact absurd hlt (by have := unhide HKL; omega)
            · obtain rfl : k = K.length := by omega
              have y0 : ¬ ((K.length : Int) < (K.length : Int)) := by omega
              go_wp2
              go_ret
              exact ⟨rfl, (unhide K4).bel⟩
      · obtain ⟨hc, hnk⟩ := (unhide hiff hz).1 hK
        subst hc hnk
        have hKl : 0 < K.length := List.length_pos_iff.2 hK
        have g0 : (0 : Int) < (K.length : Int) := by omega
        have g0' : decide ((0 : Int) < (K.length : Int)) = true := decide_eq_true g0
        clear hK
        go_wp2_with fail
        go_loopw [12] (fun i wr => ∃ k : Nat, k ≤ K.length ∧ i = .int .i64 (k : Int) ∧ Hid (Fk w wr X5 X8 X9 X10 la ia ta xa ma lc ic tc xc mc Ts K L O M C)) (fun i _ => K.length - (intOf i).toNat)
        case atStart => exact ⟨0, Nat.zero_le _, rfl, K5⟩
        case round =>
          obtain ⟨k, hk, rfl, K4⟩ := hrel
          clear K5
          by_cases hlt : k < K.length
          · have y0 : (k : Int) < (K.length : Int) := by omega
            obtain ⟨kk, hkk⟩ : ∃ kk, K[k]? = some kk := ⟨_, List.getElem?_eq_getElem hlt⟩
            cases k with
            | zero =>
              go_wp2_with fail
              obtain ⟨t, htk⟩ : ∃ t, Ts[kk]? = some t := ⟨_, List.getElem?_eq_getElem (by have := unhide HKI kk (List.mem_of_getElem? hkk); rw [List.length_map] at this; exact this)⟩
              obtain ⟨⟨tb, tof, hla, -, -⟩, -⟩ := (unhide K4).t5 kk t htk
              subst hla
              obtain ⟨ib, hia⟩ := ints_block (unhide K4).n7 hkk
              subst hia
              have hkb : kk < Ts.length := (List.getElem?_eq_some_iff.1 htk).1
              have g1 : ¬ ((kk : Int) < 0) := by omega
              have g2 : ¬ ((Ts.length : Int) ≤ (kk : Int)) := by omega
              have g3 : decide ((kk : Int) < 0) = false := by simp
              have g4 : decide ((Ts.length : Int) ≤ (kk : Int)) = false := decide_eq_false g2
              have ix : 0 ≤ (kk : Int) ∧ (kk : Int) < (Ts.length : Int) := by omega
              have ik : 0 ≤ (0 : Int) ∧ (0 : Int) < (K.length : Int) := by omega
              have gz : decide ((0 : Int) < 0) = false := rfl
              obtain ⟨L', nn, hL', hgv⟩ := unhide HKD kk (List.mem_of_getElem? hkk) hz
              rw [List.getElem?_map, htk] at hL'
              cases hL'
              have hgt := hide (unhide hgt1 t.L)
              rw [hgv] at hgt
              have hf1 := hide (fun W => (by kernel_rfl : (Instr.field 38 (.agg #[.string nn.path, .int .i64 1, .string nn.data, .int .i64 nn.time, .int .i64 nn.mark, .int .i64 0]) 0).run Tryz.prog W = .ok (.agg #[.string nn.path, .int .i64 1, .string nn.data, .int .i64 nn.time, .int .i64 nn.mark]) W))
              have hf1' := unhide hf1
              have hf2 := hide (fun W => (by kernel_rfl : (Instr.field 27 (.agg #[.string nn.path, .int .i64 1, .string nn.data, .int .i64 nn.time, .int .i64 nn.mark]) 1).run Tryz.prog W = .ok (.int .i64 1) W))
              have hf2' := unhide hf2
              have MK : Hid (∀ W', Fk w W' X5 X8 X9 X10 (some ⟨tb, tof, none⟩) (some ⟨ib, 0, none⟩) ta xa ma lc ic tc xc mc Ts K L O M C → (fun W' => Fk w W' X5 X8 X9 X10 (some ⟨tb, tof, none⟩) (some ⟨ib, 0, none⟩) ta xa ma lc ic tc xc mc Ts K L O M C ∧ W'.cell? ⟨X5, 0, none⟩ = some (.slice (some ⟨tb, tof, none⟩) Ts.length lc) ∧ W'.cell? ⟨ib, 0, none⟩ = some (.int .i64 (kk : Int)) ∧ W'.cell? ⟨tb, tof + kk, none⟩ = some (.slice t.a t.L.length t.cap)) W') := fun W' h => ⟨h, (by have e := h.b5.cell 0; simp only [kA0, kA1, kA2] at e; exact e), (by have e := ints_cell h.n7 0 kk hkk; exact e), (by obtain ⟨⟨b', o', e1, e2, e3⟩, -⟩ := h.t5 kk t htk; cases e1; exact e3)⟩
              refine wp_region_held_drew (S := fun W' => Fk w W' X5 X8 X9 X10 (some ⟨tb, tof, none⟩) (some ⟨ib, 0, none⟩) ta xa ma lc ic tc xc mc Ts K L O M C ∧ W'.cell? ⟨X5, 0, none⟩ = some (.slice (some ⟨tb, tof, none⟩) Ts.length lc) ∧ W'.cell? ⟨ib, 0, none⟩ = some (.int .i64 (kk : Int)) ∧ W'.cell? ⟨tb, tof + kk, none⟩ = some (.slice t.a t.L.length t.cap)) (by kernel_rfl) ?_ (fun hHeld => ?_)
              · exact unhide MK _ (unhide K4).drew
              clear K4
              refine wpAnyH_take (i := 0) (v := ?_) rfl (by kernel_rfl) (by kernel_rfl) (by kernel_rfl) (fun _ _ _ h => h) (Or.inl ⟨by rfl, ?_⟩) (by assumption) ?_
              rotate_left
              · (intro w hSw; (try dsimp only at hSw); go_simp; (try with_reducible rfl))
              try simp only [Act.put, kB0, kB1, kB2, kB3, kB4, kB5]
              refine wpAnyH_take (i := 1) (v := ?_) rfl (by kernel_rfl) (by kernel_rfl) (by kernel_rfl) (fun _ _ _ h => h) (Or.inl ⟨by rfl, ?_⟩) (by assumption) ?_
              rotate_left
              · (intro w hSw; (try dsimp only at hSw); go_simp; (try with_reducible rfl))
              try simp only [Act.put, kB0, kB1, kB2, kB3, kB4, kB5]
              refine wpAnyH_take (i := 2) (v := ?_) rfl (by kernel_rfl) (by kernel_rfl) (by kernel_rfl) (fun _ _ _ h => h) (Or.inl ⟨by rfl, ?_⟩) (by assumption) ?_
              rotate_left
              · (intro w hSw; (try dsimp only at hSw); go_simp; (try with_reducible rfl))
              try simp only [Act.put, kB0, kB1, kB2, kB3, kB4, kB5]
              refine wpAnyH_take (i := 3) (v := undef) rfl (by kernel_rfl) (by kernel_rfl) (by kernel_rfl) (fun _ _ _ h => h) (Or.inr ⟨by rfl, rfl⟩) (by assumption) ?_
              try simp only [Act.put, kB0, kB1, kB2, kB3, kB4, kB5]
              refine wpAnyH_take (i := 4) (v := undef) rfl (by kernel_rfl) (by kernel_rfl) (by kernel_rfl) (fun _ _ _ h => h) (Or.inr ⟨by rfl, rfl⟩) (by assumption) ?_
              try simp only [Act.put, kB0, kB1, kB2, kB3, kB4, kB5]
              refine wpAnyH_take (i := 5) (v := undef) rfl (by kernel_rfl) (by kernel_rfl) (by kernel_rfl) (fun _ _ _ h => h) (Or.inr ⟨by rfl, rfl⟩) (by assumption) ?_
              try simp only [Act.put, kB0, kB1, kB2, kB3, kB4, kB5]
              refine wpAnyH_take (i := 6) (v := undef) rfl (by kernel_rfl) (by kernel_rfl) (by kernel_rfl) (fun _ _ _ h => h) (Or.inr ⟨by rfl, rfl⟩) (by assumption) ?_
              try simp only [Act.put, kB0, kB1, kB2, kB3, kB4, kB5]
              refine wpAnyH_take (i := 7) (v := undef) rfl (by kernel_rfl) (by kernel_rfl) (by kernel_rfl) (fun _ _ _ h => h) (Or.inr ⟨by rfl, rfl⟩) (by assumption) ?_
              try simp only [Act.put, kB0, kB1, kB2, kB3, kB4, kB5]
              refine wpAnyH_take (i := 8) (v := undef) rfl (by kernel_rfl) (by kernel_rfl) (by kernel_rfl) (fun _ _ _ h => h) (Or.inr ⟨by rfl, rfl⟩) (by assumption) ?_
              try simp only [Act.put, kB0, kB1, kB2, kB3, kB4, kB5]
              refine wpAnyH_take (i := 9) (v := undef) rfl (by kernel_rfl) (by kernel_rfl) (by kernel_rfl) (fun _ _ _ h => h) (Or.inr ⟨by rfl, rfl⟩) (by assumption) ?_
              try simp only [Act.put, kB0, kB1, kB2, kB3, kB4, kB5]
              refine wpAnyH_take (i := 10) (v := undef) rfl (by kernel_rfl) (by kernel_rfl) (by kernel_rfl) (fun _ _ _ h => h) (Or.inr ⟨by rfl, rfl⟩) (by assumption) ?_
              try simp only [Act.put, kB0, kB1, kB2, kB3, kB4, kB5]
              refine wpAnyH_take (i := 11) (v := undef) rfl (by kernel_rfl) (by kernel_rfl) (by kernel_rfl) (fun _ _ _ h => h) (Or.inr ⟨by rfl, rfl⟩) (by assumption) ?_
              try simp only [Act.put, kB0, kB1, kB2, kB3, kB4, kB5]
              refine wpAnyH_take (i := 12) (v := undef) rfl (by kernel_rfl) (by kernel_rfl) (by kernel_rfl) (fun _ _ _ h => h) (Or.inr ⟨by rfl, rfl⟩) (by assumption) ?_
              try simp only [Act.put, kB0, kB1, kB2, kB3, kB4, kB5]
              refine wpAnyH_take (i := 13) (v := ?_) rfl (by kernel_rfl) (by kernel_rfl) (by kernel_rfl) (fun _ _ _ h => h) (Or.inl ⟨by rfl, ?_⟩) (by assumption) ?_
              rotate_left
              · (intro w hSw; (try dsimp only at hSw); go_simp; (try with_reducible rfl))
              try simp only [Act.put, kB0, kB1, kB2, kB3, kB4, kB5]
              refine wpAnyH_take (i := 14) (v := ?_) rfl (by kernel_rfl) (by kernel_rfl) (by kernel_rfl) (fun _ _ _ h => h) (Or.inl ⟨by rfl, ?_⟩) (by assumption) ?_
              rotate_left
              · (intro w hSw; (try dsimp only at hSw); go_simp; (try with_reducible rfl))
              try simp only [Act.put, kB0, kB1, kB2, kB3, kB4, kB5]
              refine wpAnyH_take (i := 15) (v := ?_) rfl (by kernel_rfl) (by kernel_rfl) (by kernel_rfl) (fun _ _ _ h => h) (Or.inl ⟨by rfl, ?_⟩) (by assumption) ?_
              rotate_left
              · (intro w hSw; (try dsimp only at hSw); go_simp; (try with_reducible rfl))
              try simp only [Act.put, kB0, kB1, kB2, kB3, kB4, kB5]
              refine wpAnyH_take (i := 16) (v := ?_) rfl (by kernel_rfl) (by kernel_rfl) (by kernel_rfl) (fun _ _ _ h => h) (Or.inl ⟨by rfl, ?_⟩) (by assumption) ?_
              rotate_left
              · (intro w hSw; (try dsimp only at hSw); go_simp; (try with_reducible rfl))
              try simp only [Act.put, kB0, kB1, kB2, kB3, kB4, kB5]
              refine wpAnyH_take (i := 17) (v := ?_) rfl (by kernel_rfl) (by kernel_rfl) (by kernel_rfl) (fun _ _ _ h => h) (Or.inl ⟨by rfl, ?_⟩) (by assumption) ?_
              rotate_left
              · (intro w hSw; (try dsimp only at hSw); go_simp; (try with_reducible rfl))
              try simp only [Act.put, kB0, kB1, kB2, kB3, kB4, kB5]
              refine wpAnyH_take (i := 18) (v := ?_) rfl (by kernel_rfl) (by kernel_rfl) (by kernel_rfl) (fun _ _ _ h => h) (Or.inl ⟨by rfl, ?_⟩) (by assumption) ?_
              rotate_left
              · (intro w hSw; (try dsimp only at hSw); go_simp; (try with_reducible rfl))
              try simp only [Act.put, kB0, kB1, kB2, kB3, kB4, kB5]
              refine wpAnyH_take (i := 19) (v := ?_) rfl (by kernel_rfl) (by kernel_rfl) (by kernel_rfl) (fun _ _ _ h => h) (Or.inl ⟨by rfl, ?_⟩) (by assumption) ?_
              rotate_left
              · (intro w hSw; (try dsimp only at hSw); go_simp; (try with_reducible rfl))
              try simp only [Act.put, kB0, kB1, kB2, kB3, kB4, kB5]
              refine wpAnyH_take (i := 20) (v := ?_) rfl (by kernel_rfl) (by kernel_rfl) (by kernel_rfl) (fun _ _ _ h => h) (Or.inl ⟨by rfl, ?_⟩) (by assumption) ?_
              rotate_left
              · (intro w hSw; (try dsimp only at hSw); go_simp; (try with_reducible rfl))
              try simp only [Act.put, kB0, kB1, kB2, kB3, kB4, kB5]
              refine wpAnyH_take (i := 21) (v := ?_) rfl (by kernel_rfl) (by kernel_rfl) (by kernel_rfl) (fun _ _ _ h => h) (Or.inl ⟨by rfl, ?_⟩) (by assumption) ?_
              rotate_left
              · (intro w hSw; (try dsimp only at hSw); go_simp; (try with_reducible rfl))
              try simp only [Act.put, kB0, kB1, kB2, kB3, kB4, kB5]
              refine wpAnyH_take (i := 22) (v := ?_) rfl (by kernel_rfl) (by kernel_rfl) (by kernel_rfl) (fun _ _ _ h => h) (Or.inl ⟨by rfl, ?_⟩) (by assumption) ?_
              rotate_left
              · (intro w hSw; (try dsimp only at hSw); go_simp; (try with_reducible rfl))
              try simp only [Act.put, kB0, kB1, kB2, kB3, kB4, kB5]
              refine wpAnyH_take (i := 23) (v := ?_) rfl (by kernel_rfl) (by kernel_rfl) (by kernel_rfl) (fun _ _ _ h => h) (Or.inl ⟨by rfl, ?_⟩) (by assumption) ?_
              rotate_left
              · (intro w hSw; (try dsimp only at hSw); go_simp; (try with_reducible rfl))
              try simp only [Act.put, kB0, kB1, kB2, kB3, kB4, kB5]
              refine wpAnyH_take (i := 24) (v := ?_) rfl (by kernel_rfl) (by kernel_rfl) (by kernel_rfl) (fun _ _ _ h => h) (Or.inl ⟨by rfl, ?_⟩) (by assumption) ?_
              rotate_left
              · (intro w hSw; (try dsimp only at hSw); go_simp; (try with_reducible rfl))
              try simp only [Act.put, kB0, kB1, kB2, kB3, kB4, kB5]
              refine wpAnyH_take (i := 25) (v := ?_) rfl (by kernel_rfl) (by kernel_rfl) (by kernel_rfl) (fun _ _ _ h => h) (Or.inl ⟨by rfl, ?_⟩) (by assumption) ?_
              rotate_left
              · (intro w hSw; (try dsimp only at hSw); go_simp; (try with_reducible rfl))
              try simp only [Act.put, kB0, kB1, kB2, kB3, kB4, kB5]
              refine wpAnyH_take (i := 26) (v := ?_) rfl (by kernel_rfl) (by kernel_rfl) (by kernel_rfl) (fun _ _ _ h => h) (Or.inl ⟨by rfl, ?_⟩) (by assumption) ?_
              rotate_left
              · (intro w hSw; (try dsimp only at hSw); go_simp; (try with_reducible rfl))
              try simp only [Act.put, kB0, kB1, kB2, kB3, kB4, kB5]
              refine wpAnyH_take (i := 27) (v := ?_) rfl (by kernel_rfl) (by kernel_rfl) (by kernel_rfl) (fun _ _ _ h => h) (Or.inl ⟨by rfl, ?_⟩) (by assumption) ?_
              rotate_left
              · (intro w hSw; (try dsimp only at hSw); go_simp; (try with_reducible rfl))
              try simp only [Act.put, kB0, kB1, kB2, kB3, kB4, kB5]
              refine wpAnyH_take (i := 28) (v := ?_) rfl (by kernel_rfl) (by kernel_rfl) (by kernel_rfl) (fun _ _ _ h => h) (Or.inl ⟨by rfl, ?_⟩) (by assumption) ?_
              rotate_left
              · (intro w hSw; (try dsimp only at hSw); go_simp; (try with_reducible rfl))
              try simp only [Act.put, kB0, kB1, kB2, kB3, kB4, kB5]
              refine wpAnyH_take (i := 29) (v := ?_) rfl (by kernel_rfl) (by kernel_rfl) (by kernel_rfl) (fun _ _ _ h => h) (Or.inl ⟨by rfl, ?_⟩) (by assumption) ?_
              rotate_left
              · (intro w hSw; (try dsimp only at hSw); go_simp; (try with_reducible rfl))
              try simp only [Act.put, kB0, kB1, kB2, kB3, kB4, kB5]
              refine wpAnyH_take (i := 30) (v := ?_) rfl (by kernel_rfl) (by kernel_rfl) (by kernel_rfl) (fun _ _ _ h => h) (Or.inl ⟨by rfl, ?_⟩) (by assumption) ?_
              rotate_left
              · (intro w hSw; (try dsimp only at hSw); go_simp; (try with_reducible rfl))
              try simp only [Act.put, kB0, kB1, kB2, kB3, kB4, kB5]
              refine wpAnyH_take (i := 31) (v := ?_) rfl (by kernel_rfl) (by kernel_rfl) (by kernel_rfl) (fun _ _ _ h => h) (Or.inl ⟨by rfl, ?_⟩) (by assumption) ?_
              rotate_left
              · (intro w hSw; (try dsimp only at hSw); go_simp; (try with_reducible rfl))
              try simp only [Act.put, kB0, kB1, kB2, kB3, kB4, kB5]
              refine wpAnyH_take (i := 32) (v := ?_) rfl (by kernel_rfl) (by kernel_rfl) (by kernel_rfl) (fun _ _ _ h => h) (Or.inl ⟨by rfl, ?_⟩) (by assumption) ?_
              rotate_left
              · (intro w hSw; (try dsimp only at hSw); go_simp; (try with_reducible rfl))
              try simp only [Act.put, kB0, kB1, kB2, kB3, kB4, kB5]
              refine wpAnyH_take (i := 33) (v := ?_) rfl (by kernel_rfl) (by kernel_rfl) (by kernel_rfl) (fun _ _ _ h => h) (Or.inl ⟨by rfl, ?_⟩) (by assumption) ?_
              rotate_left
              · (intro w hSw; (try dsimp only at hSw); go_simp; (try with_reducible rfl))
              try simp only [Act.put, kB0, kB1, kB2, kB3, kB4, kB5]
              refine wpAnyH_take (i := 34) (v := ?_) rfl (by kernel_rfl) (by kernel_rfl) (by kernel_rfl) (fun _ _ _ h => h) (Or.inl ⟨by rfl, ?_⟩) (by assumption) ?_
              rotate_left
              · (intro w hSw; (try dsimp only at hSw); go_simp; (try with_reducible rfl))
              try simp only [Act.put, kB0, kB1, kB2, kB3, kB4, kB5]
              refine wpAnyH_take (i := 35) (v := ?_) rfl (by kernel_rfl) (by kernel_rfl) (by kernel_rfl) (fun _ _ _ h => h) (Or.inl ⟨by rfl, ?_⟩) (by assumption) ?_
              rotate_left
              · (intro w hSw; (try dsimp only at hSw); go_simp; (try with_reducible rfl))
              try simp only [Act.put, kB0, kB1, kB2, kB3, kB4, kB5]
              refine wpAnyH_take (i := 36) (v := ?_) rfl (by kernel_rfl) (by kernel_rfl) (by kernel_rfl) (fun _ _ _ h => h) (Or.inl ⟨by rfl, ?_⟩) (by assumption) ?_
              rotate_left
              · (intro w hSw; (try dsimp only at hSw); go_simp; (try with_reducible rfl))
              try simp only [Act.put, kB0, kB1, kB2, kB3, kB4, kB5]
              refine wpAnyH_take (i := 37) (v := ?_) rfl (by kernel_rfl) (by kernel_rfl) (by kernel_rfl) (fun _ _ _ h => h) (Or.inl ⟨by rfl, ?_⟩) (by assumption) ?_
              rotate_left
              · (intro w hSw; (try dsimp only at hSw); go_simp; (try with_reducible rfl))
              try simp only [Act.put, kB0, kB1, kB2, kB3, kB4, kB5]
              refine wpAnyH_take (i := 38) (v := ?_) rfl (by kernel_rfl) (by kernel_rfl) (by kernel_rfl) (fun _ _ _ h => h) (Or.inl ⟨by rfl, ?_⟩) (by assumption) ?_
              rotate_left
              · (intro w hSw; (try dsimp only at hSw); go_simp; (try with_reducible rfl))
              try simp only [Act.put, kB0, kB1, kB2, kB3, kB4, kB5]
              refine wpAnyH_take (i := 39) (v := ?_) rfl (by kernel_rfl) (by kernel_rfl) (by kernel_rfl) (fun _ _ _ h => h) (Or.inl ⟨by rfl, ?_⟩) (by assumption) ?_
              rotate_left
              · (intro w hSw; (try dsimp only at hSw); go_simp; (try with_reducible rfl))
              try simp only [Act.put, kB0, kB1, kB2, kB3, kB4, kB5]
              refine wpAnyH_take (i := 40) (v := ?_) rfl (by kernel_rfl) (by kernel_rfl) (by kernel_rfl) (fun _ _ _ h => h) (Or.inl ⟨by rfl, ?_⟩) (by assumption) ?_
              rotate_left
              · (intro w hSw; (try dsimp only at hSw); go_simp; (try with_reducible rfl))
              try simp only [Act.put, kB0, kB1, kB2, kB3, kB4, kB5]
              refine wpAnyH_take (i := 41) (v := ?_) rfl (by kernel_rfl) (by kernel_rfl) (by kernel_rfl) (fun _ _ _ h => h) (Or.inl ⟨by rfl, ?_⟩) (by assumption) ?_
              rotate_left
              · (intro w hSw; (try dsimp only at hSw); go_simp; (try with_reducible rfl))
              try simp only [Act.put, kB0, kB1, kB2, kB3, kB4, kB5]
              refine wpAnyH_take (i := 42) (v := ?_) rfl (by kernel_rfl) (by kernel_rfl) (by kernel_rfl) (fun _ _ _ h => h) (Or.inl ⟨by rfl, ?_⟩) (by assumption) ?_
              rotate_left
              · (intro w hSw; (try dsimp only at hSw); go_simp; (try with_reducible rfl))
              try simp only [Act.put, kB0, kB1, kB2, kB3, kB4, kB5]
              refine wpAnyH_take (i := 43) (v := ?_) rfl (by kernel_rfl) (by kernel_rfl) (by kernel_rfl) (fun _ _ _ h => h) (Or.inl ⟨by rfl, ?_⟩) (by assumption) ?_
              rotate_left
              · (intro w hSw; (try dsimp only at hSw); go_simp; (try with_reducible rfl))
              try simp only [Act.put, kB0, kB1, kB2, kB3, kB4, kB5]
              refine wpAnyH_ready (rs := [44]) (by kernel_rfl) (by simp) ?_
              refine AllReadyH.cons rfl (fun K_ hK => ?_) AllReadyH.nil
              go_simp
              refine (unhide hgt _ hHeld.1.bel t.a t.cap (unhide OKT t (List.mem_of_getElem? htk)).1 (hHeld.1.t5 kk t htk).2 (unhide OKT t (List.mem_of_getElem? htk)).2).mono ?_
              rintro e wX ⟨rfl, bX⟩
              refine hK.out _ _ ?_ (fun hHeld => ?_)
              · exact unhide MK _ (hHeld.1.call bX)
              clear hK K_
              try simp only [Act.put, kB0, kB1, kB2, kB3, kB4, kB5]
              refine wpAnyH_take (i := 45) (v := ?_) rfl (by kernel_rfl) (by kernel_rfl) (by kernel_rfl) (fun _ _ _ h => h) (Or.inl ⟨by rfl, ?_⟩) (by assumption) ?_
              rotate_left
              · (intro w hSw; (try dsimp only at hSw); go_simp; (try with_reducible rfl))
              try simp only [Act.put, kB0, kB1, kB2, kB3, kB4, kB5]
              refine wpAnyH_take (i := 46) (v := ?_) rfl (by kernel_rfl) (by kernel_rfl) (by kernel_rfl) (fun _ _ _ h => h) (Or.inl ⟨by rfl, ?_⟩) (by assumption) ?_
              rotate_left
              · (intro w hSw; (try dsimp only at hSw); go_simp; (try with_reducible rfl))
              try simp only [Act.put, kB0, kB1, kB2, kB3, kB4, kB5]
              refine wpAnyH_take (i := 47) (v := ?_) rfl (by kernel_rfl) (by kernel_rfl) (by kernel_rfl) (fun _ _ _ h => h) (Or.inl ⟨by rfl, ?_⟩) (by assumption) ?_
              rotate_left
              · (intro w hSw; (try dsimp only at hSw); go_simp; (try with_reducible rfl))
              try simp only [Act.put, kB0, kB1, kB2, kB3, kB4, kB5]
              refine wpAnyH_take (i := 48) (v := ?_) rfl (by kernel_rfl) (by kernel_rfl) (by kernel_rfl) (fun _ _ _ h => h) (Or.inl ⟨by rfl, ?_⟩) (by assumption) ?_
              rotate_left
              · (intro w hSw; (try dsimp only at hSw); go_simp; (try with_reducible rfl))
              try simp only [Act.put, kB0, kB1, kB2, kB3, kB4, kB5]
              refine wpAnyH_take (i := 49) (v := ?_) rfl (by kernel_rfl) (by kernel_rfl) (by kernel_rfl) (fun _ _ _ h => h) (Or.inl ⟨by rfl, ?_⟩) (by assumption) ?_
              rotate_left
              · (intro w hSw; (try dsimp only at hSw); go_simp; (try with_reducible rfl))
              try simp only [Act.put, kB0, kB1, kB2, kB3, kB4, kB5]
              refine wpAnyH_done (by kernel_rfl) ?_ _
              have K4 := hide hHeld.1
              clear hHeld
              go_wp2_with fail
              go_roundw
              case rel => exact ⟨1, by omega, by go_num, K4⟩
              case measure => simp [intOf]; omega
            | succ j =>
              obtain ⟨kj, hkj⟩ : ∃ kj, K[j]? = some kj := ⟨_, List.getElem?_eq_getElem (by omega)⟩
              push_cast at y0 ⊢
              go_wp2_with fail
              obtain ⟨t, htk⟩ : ∃ t, Ts[kk]? = some t := ⟨_, List.getElem?_eq_getElem (by have := unhide HKI kk (List.mem_of_getElem? hkk); rw [List.length_map] at this; exact this)⟩
              obtain ⟨⟨tb, tof, hla, -, -⟩, -⟩ := (unhide K4).t5 kk t htk
              subst hla
              obtain ⟨ib, hia⟩ := ints_block (unhide K4).n7 hkk
              subst hia
              have hkb : kk < Ts.length := (List.getElem?_eq_some_iff.1 htk).1
              have g1 : ¬ ((kk : Int) < 0) := by omega
              have g2 : ¬ ((Ts.length : Int) ≤ (kk : Int)) := by omega
              have g3 : decide ((kk : Int) < 0) = false := by simp
              have g4 : decide ((Ts.length : Int) ≤ (kk : Int)) = false := decide_eq_false g2
              have ix : 0 ≤ (kk : Int) ∧ (kk : Int) < (Ts.length : Int) := by omega
              have ik : 0 ≤ (j : Int) + 1 ∧ (j : Int) + 1 < (K.length : Int) := by omega
              have ij : 0 ≤ (j : Int) ∧ (j : Int) < (K.length : Int) := by omega
              have hw1 : IntKind.i64.wrap ((j : Int) + 1 - 1) = (j : Int) := by simp only [IntKind.wrap_i64]; omega
              have hw2 : IntKind.i64.wrap (j : Int) = (j : Int) := by simp only [IntKind.wrap_i64]; omega
              have hr := (List.pairwise_iff_getElem.1 (unhide HKS)) j (j + 1) (by omega) (by omega) (by omega)
              rw [(List.getElem?_eq_some_iff.1 hkj).2, (List.getElem?_eq_some_iff.1 hkk).2] at hr
              have g5 : ¬ ((kk : Int) ≤ (kj : Int)) := by omega
              have g6 : decide ((kk : Int) ≤ (kj : Int)) = false := decide_eq_false g5
              have gz : decide ((0 : Int) < (j : Int) + 1) = true := decide_eq_true (by omega)
              clear hr
              obtain ⟨L', nn, hL', hgv⟩ := unhide HKD kk (List.mem_of_getElem? hkk) hz
              rw [List.getElem?_map, htk] at hL'
              cases hL'
              have hgt := hide (unhide hgt1 t.L)
              rw [hgv] at hgt
              have hf1 := hide (fun W => (by kernel_rfl : (Instr.field 38 (.agg #[.string nn.path, .int .i64 1, .string nn.data, .int .i64 nn.time, .int .i64 nn.mark, .int .i64 0]) 0).run Tryz.prog W = .ok (.agg #[.string nn.path, .int .i64 1, .string nn.data, .int .i64 nn.time, .int .i64 nn.mark]) W))
              have hf1' := unhide hf1
              have hf2 := hide (fun W => (by kernel_rfl : (Instr.field 27 (.agg #[.string nn.path, .int .i64 1, .string nn.data, .int .i64 nn.time, .int .i64 nn.mark]) 1).run Tryz.prog W = .ok (.int .i64 1) W))
              have hf2' := unhide hf2
              have MK : Hid (∀ W', Fk w W' X5 X8 X9 X10 (some ⟨tb, tof, none⟩) (some ⟨ib, 0, none⟩) ta xa ma lc ic tc xc mc Ts K L O M C → (fun W' => Fk w W' X5 X8 X9 X10 (some ⟨tb, tof, none⟩) (some ⟨ib, 0, none⟩) ta xa ma lc ic tc xc mc Ts K L O M C ∧ W'.cell? ⟨X5, 0, none⟩ = some (.slice (some ⟨tb, tof, none⟩) Ts.length lc) ∧ W'.cell? ⟨ib, j + 1, none⟩ = some (.int .i64 (kk : Int)) ∧ W'.cell? ⟨tb, tof + kk, none⟩ = some (.slice t.a t.L.length t.cap) ∧ W'.cell? ⟨ib, j, none⟩ = some (.int .i64 (kj : Int))) W') := fun W' h => ⟨h, (by have e := h.b5.cell 0; simp only [kA0, kA1, kA2] at e; exact e), (by have e := ints_cell h.n7 (j + 1) kk hkk; exact e), (by obtain ⟨⟨b', o', e1, e2, e3⟩, -⟩ := h.t5 kk t htk; cases e1; exact e3), (by have e := ints_cell h.n7 j kj hkj; exact e)⟩
              refine wp_region_held_drew (S := fun W' => Fk w W' X5 X8 X9 X10 (some ⟨tb, tof, none⟩) (some ⟨ib, 0, none⟩) ta xa ma lc ic tc xc mc Ts K L O M C ∧ W'.cell? ⟨X5, 0, none⟩ = some (.slice (some ⟨tb, tof, none⟩) Ts.length lc) ∧ W'.cell? ⟨ib, j + 1, none⟩ = some (.int .i64 (kk : Int)) ∧ W'.cell? ⟨tb, tof + kk, none⟩ = some (.slice t.a t.L.length t.cap) ∧ W'.cell? ⟨ib, j, none⟩ = some (.int .i64 (kj : Int))) (by kernel_rfl) ?_ (fun hHeld => ?_)
              · exact unhide MK _ (unhide K4).drew
              clear K4
              refine wpAnyH_take (i := 0) (v := ?_) rfl (by kernel_rfl) (by kernel_rfl) (by kernel_rfl) (fun _ _ _ h => h) (Or.inl ⟨by rfl, ?_⟩) (by assumption) ?_
              rotate_left
              · (intro w hSw; (try dsimp only at hSw); go_simp; (try with_reducible rfl))
              try simp only [Act.put, kB0, kB1, kB2, kB3, kB4, kB5]
              refine wpAnyH_take (i := 1) (v := ?_) rfl (by kernel_rfl) (by kernel_rfl) (by kernel_rfl) (fun _ _ _ h => h) (Or.inl ⟨by rfl, ?_⟩) (by assumption) ?_
              rotate_left
              · (intro w hSw; (try dsimp only at hSw); go_simp; (try with_reducible rfl))
              try simp only [Act.put, kB0, kB1, kB2, kB3, kB4, kB5]
              refine wpAnyH_take (i := 2) (v := ?_) rfl (by kernel_rfl) (by kernel_rfl) (by kernel_rfl) (fun _ _ _ h => h) (Or.inl ⟨by rfl, ?_⟩) (by assumption) ?_
              rotate_left
              · (intro w hSw; (try dsimp only at hSw); go_simp; (try with_reducible rfl))
              try simp only [Act.put, kB0, kB1, kB2, kB3, kB4, kB5]
              refine wpAnyH_take (i := 3) (v := ?_) rfl (by kernel_rfl) (by kernel_rfl) (by kernel_rfl) (fun _ _ _ h => h) (Or.inl ⟨by rfl, ?_⟩) (by assumption) ?_
              rotate_left
              · (intro w hSw; (try dsimp only at hSw); go_simp; (try with_reducible rfl))
              try simp only [Act.put, kB0, kB1, kB2, kB3, kB4, kB5]
              refine wpAnyH_take (i := 4) (v := ?_) rfl (by kernel_rfl) (by kernel_rfl) (by kernel_rfl) (fun _ _ _ h => h) (Or.inl ⟨by rfl, ?_⟩) (by assumption) ?_
              rotate_left
              · (intro w hSw; (try dsimp only at hSw); go_simp; (try with_reducible rfl))
              try simp only [Act.put, kB0, kB1, kB2, kB3, kB4, kB5]
              refine wpAnyH_take (i := 5) (v := ?_) rfl (by kernel_rfl) (by kernel_rfl) (by kernel_rfl) (fun _ _ _ h => h) (Or.inl ⟨by rfl, ?_⟩) (by assumption) ?_
              rotate_left
              · (intro w hSw; (try dsimp only at hSw); go_simp; (try with_reducible rfl))
              try simp only [Act.put, kB0, kB1, kB2, kB3, kB4, kB5]
              refine wpAnyH_take (i := 6) (v := ?_) rfl (by kernel_rfl) (by kernel_rfl) (by kernel_rfl) (fun _ _ _ h => h) (Or.inl ⟨by rfl, ?_⟩) (by assumption) ?_
              rotate_left
              · (intro w hSw; (try dsimp only at hSw); go_simp; (try with_reducible rfl))
              try simp only [Act.put, kB0, kB1, kB2, kB3, kB4, kB5]
              refine wpAnyH_take (i := 7) (v := ?_) rfl (by kernel_rfl) (by kernel_rfl) (by kernel_rfl) (fun _ _ _ h => h) (Or.inl ⟨by rfl, ?_⟩) (by assumption) ?_
              rotate_left
              · (intro w hSw; (try dsimp only at hSw); go_simp; (try with_reducible rfl))
              try simp only [Act.put, kB0, kB1, kB2, kB3, kB4, kB5]
              refine wpAnyH_take (i := 8) (v := ?_) rfl (by kernel_rfl) (by kernel_rfl) (by kernel_rfl) (fun _ _ _ h => h) (Or.inl ⟨by rfl, ?_⟩) (by assumption) ?_
              rotate_left
              · (intro w hSw; (try dsimp only at hSw); go_simp; (try with_reducible rfl))
              try simp only [Act.put, kB0, kB1, kB2, kB3, kB4, kB5]
              refine wpAnyH_take (i := 9) (v := ?_) rfl (by kernel_rfl) (by kernel_rfl) (by kernel_rfl) (fun _ _ _ h => h) (Or.inl ⟨by rfl, ?_⟩) (by assumption) ?_
              rotate_left
              · (intro w hSw; (try dsimp only at hSw); go_simp; (try with_reducible rfl))
              try simp only [Act.put, kB0, kB1, kB2, kB3, kB4, kB5]
              refine wpAnyH_take (i := 10) (v := ?_) rfl (by kernel_rfl) (by kernel_rfl) (by kernel_rfl) (fun _ _ _ h => h) (Or.inl ⟨by rfl, ?_⟩) (by assumption) ?_
              rotate_left
              · (intro w hSw; (try dsimp only at hSw); go_simp; (try with_reducible rfl))
              try simp only [Act.put, kB0, kB1, kB2, kB3, kB4, kB5]
              refine wpAnyH_take (i := 11) (v := ?_) rfl (by kernel_rfl) (by kernel_rfl) (by kernel_rfl) (fun _ _ _ h => h) (Or.inl ⟨by rfl, ?_⟩) (by assumption) ?_
              rotate_left
              · (intro w hSw; (try dsimp only at hSw); go_simp; (try with_reducible rfl))
              try simp only [Act.put, kB0, kB1, kB2, kB3, kB4, kB5]
              refine wpAnyH_take (i := 12) (v := ?_) rfl (by kernel_rfl) (by kernel_rfl) (by kernel_rfl) (fun _ _ _ h => h) (Or.inl ⟨by rfl, ?_⟩) (by assumption) ?_
              rotate_left
              · (intro w hSw; (try dsimp only at hSw); go_simp; (try with_reducible rfl))
              try simp only [Act.put, kB0, kB1, kB2, kB3, kB4, kB5]
              refine wpAnyH_take (i := 13) (v := ?_) rfl (by kernel_rfl) (by kernel_rfl) (by kernel_rfl) (fun _ _ _ h => h) (Or.inl ⟨by rfl, ?_⟩) (by assumption) ?_
              rotate_left
              · (intro w hSw; (try dsimp only at hSw); go_simp; (try with_reducible rfl))
              try simp only [Act.put, kB0, kB1, kB2, kB3, kB4, kB5]
              refine wpAnyH_take (i := 14) (v := ?_) rfl (by kernel_rfl) (by kernel_rfl) (by kernel_rfl) (fun _ _ _ h => h) (Or.inl ⟨by rfl, ?_⟩) (by assumption) ?_
              rotate_left
              · (intro w hSw; (try dsimp only at hSw); go_simp; (try with_reducible rfl))
              try simp only [Act.put, kB0, kB1, kB2, kB3, kB4, kB5]
              refine wpAnyH_take (i := 15) (v := ?_) rfl (by kernel_rfl) (by kernel_rfl) (by kernel_rfl) (fun _ _ _ h => h) (Or.inl ⟨by rfl, ?_⟩) (by assumption) ?_
              rotate_left
              · (intro w hSw; (try dsimp only at hSw); go_simp; (try with_reducible rfl))
              try simp only [Act.put, kB0, kB1, kB2, kB3, kB4, kB5]
              refine wpAnyH_take (i := 16) (v := ?_) rfl (by kernel_rfl) (by kernel_rfl) (by kernel_rfl) (fun _ _ _ h => h) (Or.inl ⟨by rfl, ?_⟩) (by assumption) ?_
              rotate_left
              · (intro w hSw; (try dsimp only at hSw); go_simp; (try with_reducible rfl))
              try simp only [Act.put, kB0, kB1, kB2, kB3, kB4, kB5]
              refine wpAnyH_take (i := 17) (v := ?_) rfl (by kernel_rfl) (by kernel_rfl) (by kernel_rfl) (fun _ _ _ h => h) (Or.inl ⟨by rfl, ?_⟩) (by assumption) ?_
              rotate_left
              · (intro w hSw; (try dsimp only at hSw); go_simp; (try with_reducible rfl))
              try simp only [Act.put, kB0, kB1, kB2, kB3, kB4, kB5]
              refine wpAnyH_take (i := 18) (v := ?_) rfl (by kernel_rfl) (by kernel_rfl) (by kernel_rfl) (fun _ _ _ h => h) (Or.inl ⟨by rfl, ?_⟩) (by assumption) ?_
              rotate_left
              · (intro w hSw; (try dsimp only at hSw); go_simp; (try with_reducible rfl))
              try simp only [Act.put, kB0, kB1, kB2, kB3, kB4, kB5]
              refine wpAnyH_take (i := 19) (v := ?_) rfl (by kernel_rfl) (by kernel_rfl) (by kernel_rfl) (fun _ _ _ h => h) (Or.inl ⟨by rfl, ?_⟩) (by assumption) ?_
              rotate_left
              · (intro w hSw; (try dsimp only at hSw); go_simp; (try with_reducible rfl))
              try simp only [Act.put, kB0, kB1, kB2, kB3, kB4, kB5]
              refine wpAnyH_take (i := 20) (v := ?_) rfl (by kernel_rfl) (by kernel_rfl) (by kernel_rfl) (fun _ _ _ h => h) (Or.inl ⟨by rfl, ?_⟩) (by assumption) ?_
              rotate_left
              · (intro w hSw; (try dsimp only at hSw); go_simp; (try with_reducible rfl))
              try simp only [Act.put, kB0, kB1, kB2, kB3, kB4, kB5]
              refine wpAnyH_take (i := 21) (v := ?_) rfl (by kernel_rfl) (by kernel_rfl) (by kernel_rfl) (fun _ _ _ h => h) (Or.inl ⟨by rfl, ?_⟩) (by assumption) ?_
              rotate_left
              · (intro w hSw; (try dsimp only at hSw); go_simp; (try with_reducible rfl))
              try simp only [Act.put, kB0, kB1, kB2, kB3, kB4, kB5]
              refine wpAnyH_take (i := 22) (v := ?_) rfl (by kernel_rfl) (by kernel_rfl) (by kernel_rfl) (fun _ _ _ h => h) (Or.inl ⟨by rfl, ?_⟩) (by assumption) ?_
              rotate_left
              · (intro w hSw; (try dsimp only at hSw); go_simp; (try with_reducible rfl))
              try simp only [Act.put, kB0, kB1, kB2, kB3, kB4, kB5]
              refine wpAnyH_take (i := 23) (v := ?_) rfl (by kernel_rfl) (by kernel_rfl) (by kernel_rfl) (fun _ _ _ h => h) (Or.inl ⟨by rfl, ?_⟩) (by assumption) ?_
              rotate_left
              · (intro w hSw; (try dsimp only at hSw); go_simp; (try with_reducible rfl))
              try simp only [Act.put, kB0, kB1, kB2, kB3, kB4, kB5]
              refine wpAnyH_take (i := 24) (v := ?_) rfl (by kernel_rfl) (by kernel_rfl) (by kernel_rfl) (fun _ _ _ h => h) (Or.inl ⟨by rfl, ?_⟩) (by assumption) ?_
              rotate_left
              · (intro w hSw; (try dsimp only at hSw); go_simp; (try with_reducible rfl))
              try simp only [Act.put, kB0, kB1, kB2, kB3, kB4, kB5]
              refine wpAnyH_take (i := 25) (v := ?_) rfl (by kernel_rfl) (by kernel_rfl) (by kernel_rfl) (fun _ _ _ h => h) (Or.inl ⟨by rfl, ?_⟩) (by assumption) ?_
              rotate_left
              · (intro w hSw; (try dsimp only at hSw); go_simp; (try with_reducible rfl))
              try simp only [Act.put, kB0, kB1, kB2, kB3, kB4, kB5]
              refine wpAnyH_take (i := 26) (v := ?_) rfl (by kernel_rfl) (by kernel_rfl) (by kernel_rfl) (fun _ _ _ h => h) (Or.inl ⟨by rfl, ?_⟩) (by assumption) ?_
              rotate_left
              · (intro w hSw; (try dsimp only at hSw); go_simp; (try with_reducible rfl))
              try simp only [Act.put, kB0, kB1, kB2, kB3, kB4, kB5]
              refine wpAnyH_take (i := 27) (v := ?_) rfl (by kernel_rfl) (by kernel_rfl) (by kernel_rfl) (fun _ _ _ h => h) (Or.inl ⟨by rfl, ?_⟩) (by assumption) ?_
              rotate_left
              · (intro w hSw; (try dsimp only at hSw); go_simp; (try with_reducible rfl))
              try simp only [Act.put, kB0, kB1, kB2, kB3, kB4, kB5]
              refine wpAnyH_take (i := 28) (v := ?_) rfl (by kernel_rfl) (by kernel_rfl) (by kernel_rfl) (fun _ _ _ h => h) (Or.inl ⟨by rfl, ?_⟩) (by assumption) ?_
              rotate_left
              · (intro w hSw; (try dsimp only at hSw); go_simp; (try with_reducible rfl))
              try simp only [Act.put, kB0, kB1, kB2, kB3, kB4, kB5]
              refine wpAnyH_take (i := 29) (v := ?_) rfl (by kernel_rfl) (by kernel_rfl) (by kernel_rfl) (fun _ _ _ h => h) (Or.inl ⟨by rfl, ?_⟩) (by assumption) ?_
              rotate_left
              · (intro w hSw; (try dsimp only at hSw); go_simp; (try with_reducible rfl))
              try simp only [Act.put, kB0, kB1, kB2, kB3, kB4, kB5]
              refine wpAnyH_take (i := 30) (v := ?_) rfl (by kernel_rfl) (by kernel_rfl) (by kernel_rfl) (fun _ _ _ h => h) (Or.inl ⟨by rfl, ?_⟩) (by assumption) ?_
              rotate_left
              · (intro w hSw; (try dsimp only at hSw); go_simp; (try with_reducible rfl))
              try simp only [Act.put, kB0, kB1, kB2, kB3, kB4, kB5]
              refine wpAnyH_take (i := 31) (v := ?_) rfl (by kernel_rfl) (by kernel_rfl) (by kernel_rfl) (fun _ _ _ h => h) (Or.inl ⟨by rfl, ?_⟩) (by assumption) ?_
              rotate_left
              · (intro w hSw; (try dsimp only at hSw); go_simp; (try with_reducible rfl))
              try simp only [Act.put, kB0, kB1, kB2, kB3, kB4, kB5]
              refine wpAnyH_take (i := 32) (v := ?_) rfl (by kernel_rfl) (by kernel_rfl) (by kernel_rfl) (fun _ _ _ h => h) (Or.inl ⟨by rfl, ?_⟩) (by assumption) ?_
              rotate_left
              · (intro w hSw; (try dsimp only at hSw); go_simp; (try with_reducible rfl))
              try simp only [Act.put, kB0, kB1, kB2, kB3, kB4, kB5]
              refine wpAnyH_take (i := 33) (v := ?_) rfl (by kernel_rfl) (by kernel_rfl) (by kernel_rfl) (fun _ _ _ h => h) (Or.inl ⟨by rfl, ?_⟩) (by assumption) ?_
              rotate_left
              · (intro w hSw; (try dsimp only at hSw); go_simp; (try with_reducible rfl))
              try simp only [Act.put, kB0, kB1, kB2, kB3, kB4, kB5]
              refine wpAnyH_take (i := 34) (v := ?_) rfl (by kernel_rfl) (by kernel_rfl) (by kernel_rfl) (fun _ _ _ h => h) (Or.inl ⟨by rfl, ?_⟩) (by assumption) ?_
              rotate_left
              · (intro w hSw; (try dsimp only at hSw); go_simp; (try with_reducible rfl))
              try simp only [Act.put, kB0, kB1, kB2, kB3, kB4, kB5]
              refine wpAnyH_take (i := 35) (v := ?_) rfl (by kernel_rfl) (by kernel_rfl) (by kernel_rfl) (fun _ _ _ h => h) (Or.inl ⟨by rfl, ?_⟩) (by assumption) ?_
              rotate_left
              · (intro w hSw; (try dsimp only at hSw); go_simp; (try with_reducible rfl))
              try simp only [Act.put, kB0, kB1, kB2, kB3, kB4, kB5]
              refine wpAnyH_take (i := 36) (v := ?_) rfl (by kernel_rfl) (by kernel_rfl) (by kernel_rfl) (fun _ _ _ h => h) (Or.inl ⟨by rfl, ?_⟩) (by assumption) ?_
              rotate_left
              · (intro w hSw; (try dsimp only at hSw); go_simp; (try with_reducible rfl))
              try simp only [Act.put, kB0, kB1, kB2, kB3, kB4, kB5]
              refine wpAnyH_take (i := 37) (v := ?_) rfl (by kernel_rfl) (by kernel_rfl) (by kernel_rfl) (fun _ _ _ h => h) (Or.inl ⟨by rfl, ?_⟩) (by assumption) ?_
              rotate_left
              · (intro w hSw; (try dsimp only at hSw); go_simp; (try with_reducible rfl))
              try simp only [Act.put, kB0, kB1, kB2, kB3, kB4, kB5]
              refine wpAnyH_take (i := 38) (v := ?_) rfl (by kernel_rfl) (by kernel_rfl) (by kernel_rfl) (fun _ _ _ h => h) (Or.inl ⟨by rfl, ?_⟩) (by assumption) ?_
              rotate_left
              · (intro w hSw; (try dsimp only at hSw); go_simp; (try with_reducible rfl))
              try simp only [Act.put, kB0, kB1, kB2, kB3, kB4, kB5]
              refine wpAnyH_take (i := 39) (v := ?_) rfl (by kernel_rfl) (by kernel_rfl) (by kernel_rfl) (fun _ _ _ h => h) (Or.inl ⟨by rfl, ?_⟩) (by assumption) ?_
              rotate_left
              · (intro w hSw; (try dsimp only at hSw); go_simp; (try with_reducible rfl))
              try simp only [Act.put, kB0, kB1, kB2, kB3, kB4, kB5]
              refine wpAnyH_take (i := 40) (v := ?_) rfl (by kernel_rfl) (by kernel_rfl) (by kernel_rfl) (fun _ _ _ h => h) (Or.inl ⟨by rfl, ?_⟩) (by assumption) ?_
              rotate_left
              · (intro w hSw; (try dsimp only at hSw); go_simp; (try with_reducible rfl))
              try simp only [Act.put, kB0, kB1, kB2, kB3, kB4, kB5]
              refine wpAnyH_take (i := 41) (v := ?_) rfl (by kernel_rfl) (by kernel_rfl) (by kernel_rfl) (fun _ _ _ h => h) (Or.inl ⟨by rfl, ?_⟩) (by assumption) ?_
              rotate_left
              · (intro w hSw; (try dsimp only at hSw); go_simp; (try with_reducible rfl))
              try simp only [Act.put, kB0, kB1, kB2, kB3, kB4, kB5]
              refine wpAnyH_take (i := 42) (v := ?_) rfl (by kernel_rfl) (by kernel_rfl) (by kernel_rfl) (fun _ _ _ h => h) (Or.inl ⟨by rfl, ?_⟩) (by assumption) ?_
              rotate_left
              · (intro w hSw; (try dsimp only at hSw); go_simp; (try with_reducible rfl))
              try simp only [Act.put, kB0, kB1, kB2, kB3, kB4, kB5]
              refine wpAnyH_take (i := 43) (v := ?_) rfl (by kernel_rfl) (by kernel_rfl) (by kernel_rfl) (fun _ _ _ h => h) (Or.inl ⟨by rfl, ?_⟩) (by assumption) ?_
              rotate_left
              · (intro w hSw; (try dsimp only at hSw); go_simp; (try with_reducible rfl))
              try simp only [Act.put, kB0, kB1, kB2, kB3, kB4, kB5]
              refine wpAnyH_ready (rs := [44]) (by kernel_rfl) (by simp) ?_
              refine AllReadyH.cons rfl (fun K_ hK => ?_) AllReadyH.nil
              go_simp
              refine (unhide hgt _ hHeld.1.bel t.a t.cap (unhide OKT t (List.mem_of_getElem? htk)).1 (hHeld.1.t5 kk t htk).2 (unhide OKT t (List.mem_of_getElem? htk)).2).mono ?_
              rintro e wX ⟨rfl, bX⟩
              refine hK.out _ _ ?_ (fun hHeld => ?_)
              · exact unhide MK _ (hHeld.1.call bX)
              clear hK K_
              try simp only [Act.put, kB0, kB1, kB2, kB3, kB4, kB5]
              refine wpAnyH_take (i := 45) (v := ?_) rfl (by kernel_rfl) (by kernel_rfl) (by kernel_rfl) (fun _ _ _ h => h) (Or.inl ⟨by rfl, ?_⟩) (by assumption) ?_
              rotate_left
              · (intro w hSw; (try dsimp only at hSw); go_simp; (try with_reducible rfl))
              try simp only [Act.put, kB0, kB1, kB2, kB3, kB4, kB5]
              refine wpAnyH_take (i := 46) (v := ?_) rfl (by kernel_rfl) (by kernel_rfl) (by kernel_rfl) (fun _ _ _ h => h) (Or.inl ⟨by rfl, ?_⟩) (by assumption) ?_
              rotate_left
              · (intro w hSw; (try dsimp only at hSw); go_simp; (try with_reducible rfl))
              try simp only [Act.put, kB0, kB1, kB2, kB3, kB4, kB5]
              refine wpAnyH_take (i := 47) (v := ?_) rfl (by kernel_rfl) (by kernel_rfl) (by kernel_rfl) (fun _ _ _ h => h) (Or.inl ⟨by rfl, ?_⟩) (by assumption) ?_
              rotate_left
              · (intro w hSw; (try dsimp only at hSw); go_simp; (try with_reducible rfl))
              try simp only [Act.put, kB0, kB1, kB2, kB3, kB4, kB5]
              refine wpAnyH_take (i := 48) (v := ?_) rfl (by kernel_rfl) (by kernel_rfl) (by kernel_rfl) (fun _ _ _ h => h) (Or.inl ⟨by rfl, ?_⟩) (by assumption) ?_
              rotate_left
              · (intro w hSw; (try dsimp only at hSw); go_simp; (try with_reducible rfl))
              try simp only [Act.put, kB0, kB1, kB2, kB3, kB4, kB5]
              refine wpAnyH_take (i := 49) (v := ?_) rfl (by kernel_rfl) (by kernel_rfl) (by kernel_rfl) (fun _ _ _ h => h) (Or.inl ⟨by rfl, ?_⟩) (by assumption) ?_
              rotate_left
              · (intro w hSw; (try dsimp only at hSw); go_simp; (try with_reducible rfl))
              try simp only [Act.put, kB0, kB1, kB2, kB3, kB4, kB5]
              refine wpAnyH_done (by kernel_rfl) ?_ _
              have K4 := hide hHeld.1
              clear hHeld
              go_wp2_with fail
              go_roundw
              case rel => exact ⟨j + 1 + 1, by omega, by go_num, K4⟩
              case measure => simp [intOf]; omega
          · obtain rfl : k = K.length := by omega
            have y0 : ¬ ((K.length : Int) < (K.length : Int)) := by omega
            go_wp2
            go_ret
            exact ⟨rfl, (unhide K4).bel⟩
end fnParts
end Go.Proofs.YtibmflhelgedeaaGreatDoor
