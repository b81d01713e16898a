/- The specification's l08Handles (by genSp2.py). -/
import Derived.Test.YtlgbdbmikmbioaaDoorWSpS1
import Derived.Test.YtlgbdbmikmbioaaDoorG22
import Derived.Test.YtlgbdbmikmbioaaDoorG20
import Derived.Deep.RegionHeld3
import Derived.Deep.Cut
namespace Go.Proofs.YtlgbdbmikmbioaaDoor
open Go.RowKit
namespace WSp
theorem is_below (a b c : Int) (w : World) : Calls Tryd.prog 15 #[.int .i64 a, .int .i64 b, .int .i64 c] w fun e w' => e = .returned (.bool (Pl.isB a b c)) ∧ Below w.heap.size w w' :=
  (WNode.is_any a b c w).mono fun _ _ ⟨h1, h2⟩ => ⟨h1, by rw [h2]; exact Below.refl _ _⟩
set_option linter.unusedSimpArgs false in
set_option maxRecDepth 100000 in
set_option maxHeartbeats 8000000 in
theorem handles_any (s : Pl.Sp) (w : World) (hok : WLawSp.OkS s 1048576) (hv : Mem.isSpace w s) (hn0 : 1 ≤ s.next) (hn1 : s.next ≤ 1000000) :
    Calls Tryd.prog 16 #[.agg s.cs] w fun e w' => e = .returned (.bool (Pl.handsB (s.N.map (·.d)) s.next Pl.wayB s.H)) ∧ Below w.heap.size w w' := by
  obtain ⟨ia, ic, N, ma, mc, M, ha, hc, H, next⟩ := s
  simp only at hn0 hn1 ⊢
  unfold Pl.Sp.cs
  simp only
  have hin := hide (fun W (b : Below w.heap.size w W) d => inst_any ⟨ia, ic, N, ma, mc, M, ha, hc, H, next⟩ d W hok.n (Mem.insts_call hv.insts b))
  have HP := hide hok.hp
  have HV := hide hv.hands
  have hHl := hok.h
  simp only [Pl.Sp.cs] at hin HP HV hHl
  generalize hids : N.map (·.d) = ids at hin ⊢
  have b0 := (Below.refl w.heap.size w).alloc (o := .cells #[.slice ia N.length ic, .slice ma M.length mc, .slice ha H.length hc, .int .i64 next] 33) (Nat.le_refl _)
  have V0 := hide (Mem.Blk.new w #[.slice ia N.length ic, .slice ma M.length mc, .slice ha H.length hc, .int .i64 next] 33)
  clear hv hok hids
  by_cases h6 : 6 < H.length
  · have t0 : (6 : Int) < (H.length : Int) := by omega
    have e0 : Pl.handsB ids next Pl.wayB H = false := by unfold Pl.handsB; rw [decide_eq_false (by omega)]; rfl
    rw [e0]
    have a2 := (unhide V0).cell 2
    simp only [kA0, kA1, kA2] at a2
    clear hin HP HV e0
    go_enter Tryd.func16, Tryd.ntmps16
    go_wp2
    go_ret
    exact ⟨rfl, b0⟩
  have t0 : ¬ (6 : Int) < (H.length : Int) := by omega
  have HR0 : Hid (Pl.handsB ids next Pl.wayB H = (List.range H.length).all (Pl.stepH ids next Pl.wayB H)) := hide (by unfold Pl.handsB; rw [decide_eq_true (by omega)]; rfl)
  generalize Pl.handsB ids next Pl.wayB H = RB at HR0 ⊢
  have a2 := (unhide V0).cell 2
  simp only [kA0, kA1, kA2] at a2
  have hw9 : IntKind.i64.wrap (next - 1) = next - 1 := by simp only [IntKind.wrap_i64]; omega
  go_enter Tryd.func16, Tryd.ntmps16
  go_wp2
  go_loopw [3] (fun i wr => ∃ k : Nat, k ≤ H.length ∧ i = .int .i64 (k : Int) ∧ Below w.heap.size w wr ∧ Hid (Mem.Blk wr w.heap.size #[.slice ia N.length ic, .slice ma M.length mc, .slice ha H.length hc, .int .i64 next] 33) ∧ Hid (∀ j, j < k → Pl.stepH ids next Pl.wayB H j = true)) (fun i _ => H.length - (intOf i).toNat)
  case atStart => exact ⟨0, Nat.zero_le _, rfl, b0, V0, fun j h => absurd h (by omega)⟩
  case round =>
    obtain ⟨k, hk, rfl, hbel, V, HA⟩ := hrel
    clear V0 b0 a2
    have a2 := (unhide V).cell 2
    simp only [kA0, kA1, kA2] at a2
    by_cases hlt : k < H.length
    · obtain ⟨t, ht⟩ : ∃ n, H[k]? = some n := ⟨_, List.getElem?_eq_getElem hlt⟩
      obtain ⟨g, o, rfl, hg, q0, q1, q2⟩ := (unhide HV) k t ht
      have HNO : Hid (Pl.stepH ids next Pl.wayB H k = false → RB = false) := hide (fun h => by rw [unhide HR0]; exact Pl.all_no hlt h)
      have u1 : (k : Int) < (H.length : Int) := by omega
      have u3 : (0 : Int) ≤ (k : Int) := by omega
      have b2 : Below wr.heap.size wr (wr.alloc (.cells #[.int .i64 t.d, .int .i64 t.i, .string t.p] 65)) := (Below.refl _ _).alloc (Nat.le_refl _) _
      have hbel2 := hbel.trans (b2.mono hbel.size)
      have c0 := (hbel.cell (p := ⟨g, _, none⟩) hg).trans q0
      have c1 := (hbel.cell (p := ⟨g, _, none⟩) hg).trans q1
      have c2 := (hbel.cell (p := ⟨g, _, none⟩) hg).trans q2
      have X := Mem.Blk.new wr #[.int .i64 t.d, .int .i64 t.i, .string t.p] 65
      have V2 := hide ((unhide V).call b2)
      have x0 := X.cell 0
      have x1 := X.cell 1
      have x2 := X.cell 2
      have w2 := (unhide V2).cell 2
      have w3 := (unhide V2).cell 3
      have w0 := (unhide V2).cell 0
      have w1 := (unhide V2).cell 1
      simp only [kA0, kA1, kA2] at x0 x1 x2 w0 w1 w2 w3
      have hpz := unhide HP t (List.mem_of_getElem? ht)
      have HIN := hide (unhide hin)
      clear q0 q1 q2 X b2 V
      go_upto_region 7 with fail
      generalize wr.alloc (.cells #[.int .i64 t.d, .int .i64 t.i, .string t.p] 65) = wZ at hbel2 V2 x0 x1 x2 w0 w1 w2 w3 ⊢
      generalize wr.heap.size = X at x0 x1 x2 ⊢
      have HC1 := hide (fun W => is_below t.d 1 (next - 1) W)
      have HC2 := hide (fun W (b : Below wZ.heap.size wZ W) => unhide HIN W (hbel2.trans (b.mono hbel2.size)) t.i)
      have HC3 := hide (fun W => WPanic.l07path_any t.p W hpz)
      have HS0 : Hid (k = 0 → Pl.stepH ids next Pl.wayB H k = (Pl.isB t.d 1 (next - 1) && true && !decide (Pl.instI ids t.i < 0) && Pl.wayB t.p)) := hide (fun e => by subst e; unfold Pl.stepH; rw [ht])
      have HS1 : Hid (∀ k' p, k = k' + 1 → H[k']? = some p → Pl.stepH ids next Pl.wayB H k = (Pl.isB t.d 1 (next - 1) && decide (p.d < t.d) && !decide (Pl.instI ids t.i < 0) && Pl.wayB t.p)) := hide (fun k' p e hp => by subst e; unfold Pl.stepH; rw [ht]; simp only [hp])
      have HSB : Hid (Pl.isB t.d 1 (next - 1) = false → Pl.stepH ids next Pl.wayB H k = false) := hide (fun e => by unfold Pl.stepH; rw [ht]; simp only [e, Bool.false_and])
      generalize Pl.isB t.d 1 (next - 1) = b1 at HC1 HS0 HS1 HSB
      generalize Pl.instI ids t.i = R at HC2 HS0 HS1
      generalize Pl.wayB t.p = c4 at HC3 HS0 HS1
      have VZ := hide (unhide V2).lt
      have hXl : Hid (X < wZ.heap.size) := hide (World.block_lt_of_cell? wZ ⟨X, 0, none⟩ x0)
      clear hpz HIN hbel a2 c0 c1 c2
      cases b1
      · have hb0 := unhide HSB rfl
        have HE0 : Hid (RB = false) := hide (unhide HNO (hb0))
        have MK : Hid (∀ W', Below wZ.heap.size wZ W' → (Below wZ.heap.size wZ W' ∧ W'.cell? ⟨X, 0, none⟩ = some (.int .i64 t.d) ∧ W'.cell? ⟨X, 1, none⟩ = some (.int .i64 t.i) ∧ W'.cell? ⟨X, 2, none⟩ = some (.string t.p) ∧ W'.cell? ⟨w.heap.size, 0, none⟩ = some (.slice ia N.length ic) ∧ W'.cell? ⟨w.heap.size, 1, none⟩ = some (.slice ma M.length mc) ∧ W'.cell? ⟨w.heap.size, 2, none⟩ = some (.slice (some ⟨g, o, none⟩) H.length hc) ∧ W'.cell? ⟨w.heap.size, 3, none⟩ = some (.int .i64 next))) := fun W' hb => ⟨hb, (hb.cell (p := ⟨_, _, none⟩) (unhide hXl)).trans x0, (hb.cell (p := ⟨_, _, none⟩) (unhide hXl)).trans x1, (hb.cell (p := ⟨_, _, none⟩) (unhide hXl)).trans x2, (hb.cell (p := ⟨_, _, none⟩) (unhide VZ)).trans w0, (hb.cell (p := ⟨_, _, none⟩) (unhide VZ)).trans w1, (hb.cell (p := ⟨_, _, none⟩) (unhide VZ)).trans w2, (hb.cell (p := ⟨_, _, none⟩) (unhide VZ)).trans w3⟩
        go_wp2_with fail
        refine wp_region_held_drew (S := fun W' => Below wZ.heap.size wZ W' ∧ W'.cell? ⟨X, 0, none⟩ = some (.int .i64 t.d) ∧ W'.cell? ⟨X, 1, none⟩ = some (.int .i64 t.i) ∧ W'.cell? ⟨X, 2, none⟩ = some (.string t.p) ∧ W'.cell? ⟨w.heap.size, 0, none⟩ = some (.slice ia N.length ic) ∧ W'.cell? ⟨w.heap.size, 1, none⟩ = some (.slice ma M.length mc) ∧ W'.cell? ⟨w.heap.size, 2, none⟩ = some (.slice (some ⟨g, o, none⟩) H.length hc) ∧ W'.cell? ⟨w.heap.size, 3, none⟩ = some (.int .i64 next)) (by kernel_rfl) ?_ (fun hHeld => ?_)
        · exact unhide MK _ ((Below.refl _ _).trans ⟨rfl, rfl, rfl, Nat.le_refl _, fun _ _ => rfl⟩)
        refine wpAnyH_take (i := 0) (v := ?_) rfl (by kernel_rfl) (by kernel_rfl) (by kernel_rfl) (fun _ _ _ h => h) (Or.inl ⟨by kernel_rfl, ?_⟩) (by assumption) ?_
        rotate_left
        · (intro w hSw; (try dsimp only at hSw); go_simp; (try with_reducible rfl))
        try simp only [Act.put, kB0, kB1, kB2, kB3, kB4, kB5]
        refine wpAnyH_take (i := 1) (v := ?_) rfl (by kernel_rfl) (by kernel_rfl) (by kernel_rfl) (fun _ _ _ h => h) (Or.inl ⟨by kernel_rfl, ?_⟩) (by assumption) ?_
        rotate_left
        · (intro w hSw; (try dsimp only at hSw); go_simp; (try with_reducible rfl))
        try simp only [Act.put, kB0, kB1, kB2, kB3, kB4, kB5]
        refine wpAnyH_take (i := 2) (v := ?_) rfl (by kernel_rfl) (by kernel_rfl) (by kernel_rfl) (fun _ _ _ h => h) (Or.inl ⟨by kernel_rfl, ?_⟩) (by assumption) ?_
        rotate_left
        · (intro w hSw; (try dsimp only at hSw); go_simp; (try with_reducible rfl))
        try simp only [Act.put, kB0, kB1, kB2, kB3, kB4, kB5]
        refine wpAnyH_take (i := 3) (v := ?_) rfl (by kernel_rfl) (by kernel_rfl) (by kernel_rfl) (fun _ _ _ h => h) (Or.inl ⟨by kernel_rfl, ?_⟩) (by assumption) ?_
        rotate_left
        · (intro w hSw; (try dsimp only at hSw); go_simp; (try with_reducible rfl))
        try simp only [Act.put, kB0, kB1, kB2, kB3, kB4, kB5]
        refine wpAnyH_take (i := 4) (v := ?_) rfl (by kernel_rfl) (by kernel_rfl) (by kernel_rfl) (fun _ _ _ h => h) (Or.inl ⟨by kernel_rfl, ?_⟩) (by assumption) ?_
        rotate_left
        · (intro w hSw; (try dsimp only at hSw); go_simp; (try with_reducible rfl))
        try simp only [Act.put, kB0, kB1, kB2, kB3, kB4, kB5]
        refine wpAnyH_ready (rs := [5]) (by kernel_rfl) (by simp) ?_
        refine AllReadyH.cons rfl (fun K hK => ?_) AllReadyH.nil
        go_simp
        refine (unhide HC1 _).mono ?_
        rintro e wX ⟨rfl, bX⟩
        refine hK.out _ _ ?_ (fun hHeld => ?_)
        · exact unhide MK _ (hHeld.1.trans (bX.mono hHeld.1.size))
        clear hK K
        try simp only [Act.put, kB0, kB1, kB2, kB3, kB4, kB5]
        refine wpAnyH_take (i := 6) (v := ?_) rfl (by kernel_rfl) (by kernel_rfl) (by kernel_rfl) (fun _ _ _ h => h) (Or.inl ⟨by kernel_rfl, ?_⟩) (by assumption) ?_
        rotate_left
        · (intro w hSw; (try dsimp only at hSw); go_simp; (try with_reducible rfl))
        try simp only [Act.put, kB0, kB1, kB2, kB3, kB4, kB5]
        refine wpAnyH_take (i := 7) (v := ?_) rfl (by kernel_rfl) (by kernel_rfl) (by kernel_rfl) (fun _ _ _ h => h) (Or.inl ⟨by kernel_rfl, ?_⟩) (by assumption) ?_
        rotate_left
        · (intro w hSw; (try dsimp only at hSw); go_simp; (try with_reducible rfl))
        try simp only [Act.put, kB0, kB1, kB2, kB3, kB4, kB5]
        refine wpAnyH_take (i := 8) (v := undef) rfl (by kernel_rfl) (by kernel_rfl) (by kernel_rfl) (fun _ _ _ h => h) (Or.inr ⟨by kernel_rfl, rfl⟩) (by assumption) ?_
        try simp only [Act.put, kB0, kB1, kB2, kB3, kB4, kB5]
        refine wpAnyH_take (i := 9) (v := undef) rfl (by kernel_rfl) (by kernel_rfl) (by kernel_rfl) (fun _ _ _ h => h) (Or.inr ⟨by kernel_rfl, rfl⟩) (by assumption) ?_
        try simp only [Act.put, kB0, kB1, kB2, kB3, kB4, kB5]
        refine wpAnyH_take (i := 10) (v := undef) rfl (by kernel_rfl) (by kernel_rfl) (by kernel_rfl) (fun _ _ _ h => h) (Or.inr ⟨by kernel_rfl, rfl⟩) (by assumption) ?_
        try simp only [Act.put, kB0, kB1, kB2, kB3, kB4, kB5]
        refine wpAnyH_take (i := 11) (v := undef) rfl (by kernel_rfl) (by kernel_rfl) (by kernel_rfl) (fun _ _ _ h => h) (Or.inr ⟨by kernel_rfl, rfl⟩) (by assumption) ?_
        try simp only [Act.put, kB0, kB1, kB2, kB3, kB4, kB5]
        refine wpAnyH_take (i := 12) (v := undef) rfl (by kernel_rfl) (by kernel_rfl) (by kernel_rfl) (fun _ _ _ h => h) (Or.inr ⟨by kernel_rfl, rfl⟩) (by assumption) ?_
        try simp only [Act.put, kB0, kB1, kB2, kB3, kB4, kB5]
        refine wpAnyH_take (i := 13) (v := undef) rfl (by kernel_rfl) (by kernel_rfl) (by kernel_rfl) (fun _ _ _ h => h) (Or.inr ⟨by kernel_rfl, rfl⟩) (by assumption) ?_
        try simp only [Act.put, kB0, kB1, kB2, kB3, kB4, kB5]
        refine wpAnyH_take (i := 14) (v := undef) rfl (by kernel_rfl) (by kernel_rfl) (by kernel_rfl) (fun _ _ _ h => h) (Or.inr ⟨by kernel_rfl, rfl⟩) (by assumption) ?_
        try simp only [Act.put, kB0, kB1, kB2, kB3, kB4, kB5]
        refine wpAnyH_take (i := 15) (v := undef) rfl (by kernel_rfl) (by kernel_rfl) (by kernel_rfl) (fun _ _ _ h => h) (Or.inr ⟨by kernel_rfl, rfl⟩) (by assumption) ?_
        try simp only [Act.put, kB0, kB1, kB2, kB3, kB4, kB5]
        refine wpAnyH_take (i := 16) (v := undef) rfl (by kernel_rfl) (by kernel_rfl) (by kernel_rfl) (fun _ _ _ h => h) (Or.inr ⟨by kernel_rfl, rfl⟩) (by assumption) ?_
        try simp only [Act.put, kB0, kB1, kB2, kB3, kB4, kB5]
        refine wpAnyH_take (i := 17) (v := undef) rfl (by kernel_rfl) (by kernel_rfl) (by kernel_rfl) (fun _ _ _ h => h) (Or.inr ⟨by kernel_rfl, rfl⟩) (by assumption) ?_
        try simp only [Act.put, kB0, kB1, kB2, kB3, kB4, kB5]
        refine wpAnyH_take (i := 18) (v := undef) rfl (by kernel_rfl) (by kernel_rfl) (by kernel_rfl) (fun _ _ _ h => h) (Or.inr ⟨by kernel_rfl, rfl⟩) (by assumption) ?_
        try simp only [Act.put, kB0, kB1, kB2, kB3, kB4, kB5]
        refine wpAnyH_take (i := 19) (v := undef) rfl (by kernel_rfl) (by kernel_rfl) (by kernel_rfl) (fun _ _ _ h => h) (Or.inr ⟨by kernel_rfl, rfl⟩) (by assumption) ?_
        try simp only [Act.put, kB0, kB1, kB2, kB3, kB4, kB5]
        refine wpAnyH_take (i := 20) (v := undef) rfl (by kernel_rfl) (by kernel_rfl) (by kernel_rfl) (fun _ _ _ h => h) (Or.inr ⟨by kernel_rfl, rfl⟩) (by assumption) ?_
        try simp only [Act.put, kB0, kB1, kB2, kB3, kB4, kB5]
        refine wpAnyH_take (i := 21) (v := undef) rfl (by kernel_rfl) (by kernel_rfl) (by kernel_rfl) (fun _ _ _ h => h) (Or.inr ⟨by kernel_rfl, rfl⟩) (by assumption) ?_
        try simp only [Act.put, kB0, kB1, kB2, kB3, kB4, kB5]
        refine wpAnyH_take (i := 22) (v := ?_) rfl (by kernel_rfl) (by kernel_rfl) (by kernel_rfl) (fun _ _ _ h => h) (Or.inl ⟨by kernel_rfl, ?_⟩) (by assumption) ?_
        rotate_left
        · (intro w hSw; (try dsimp only at hSw); go_simp; (try with_reducible rfl))
        try simp only [Act.put, kB0, kB1, kB2, kB3, kB4, kB5]
        refine wpAnyH_take (i := 23) (v := ?_) rfl (by kernel_rfl) (by kernel_rfl) (by kernel_rfl) (fun _ _ _ h => h) (Or.inl ⟨by kernel_rfl, ?_⟩) (by assumption) ?_
        rotate_left
        · (intro w hSw; (try dsimp only at hSw); go_simp; (try with_reducible rfl))
        try simp only [Act.put, kB0, kB1, kB2, kB3, kB4, kB5]
        refine wpAnyH_take (i := 24) (v := undef) rfl (by kernel_rfl) (by kernel_rfl) (by kernel_rfl) (fun _ _ _ h => h) (Or.inr ⟨by kernel_rfl, rfl⟩) (by assumption) ?_
        try simp only [Act.put, kB0, kB1, kB2, kB3, kB4, kB5]
        refine wpAnyH_take (i := 25) (v := undef) rfl (by kernel_rfl) (by kernel_rfl) (by kernel_rfl) (fun _ _ _ h => h) (Or.inr ⟨by kernel_rfl, rfl⟩) (by assumption) ?_
        try simp only [Act.put, kB0, kB1, kB2, kB3, kB4, kB5]
        refine wpAnyH_take (i := 26) (v := undef) rfl (by kernel_rfl) (by kernel_rfl) (by kernel_rfl) (fun _ _ _ h => h) (Or.inr ⟨by kernel_rfl, rfl⟩) (by assumption) ?_
        try simp only [Act.put, kB0, kB1, kB2, kB3, kB4, kB5]
        refine wpAnyH_take (i := 27) (v := undef) rfl (by kernel_rfl) (by kernel_rfl) (by kernel_rfl) (fun _ _ _ h => h) (Or.inr ⟨by kernel_rfl, rfl⟩) (by assumption) ?_
        try simp only [Act.put, kB0, kB1, kB2, kB3, kB4, kB5]
        refine wpAnyH_take (i := 28) (v := undef) rfl (by kernel_rfl) (by kernel_rfl) (by kernel_rfl) (fun _ _ _ h => h) (Or.inr ⟨by kernel_rfl, rfl⟩) (by assumption) ?_
        try simp only [Act.put, kB0, kB1, kB2, kB3, kB4, kB5]
        refine wpAnyH_take (i := 29) (v := ?_) rfl (by kernel_rfl) (by kernel_rfl) (by kernel_rfl) (fun _ _ _ h => h) (Or.inl ⟨by kernel_rfl, ?_⟩) (by assumption) ?_
        rotate_left
        · (intro w hSw; (try dsimp only at hSw); go_simp; (try with_reducible rfl))
        try simp only [Act.put, kB0, kB1, kB2, kB3, kB4, kB5]
        refine wpAnyH_take (i := 30) (v := ?_) rfl (by kernel_rfl) (by kernel_rfl) (by kernel_rfl) (fun _ _ _ h => h) (Or.inl ⟨by kernel_rfl, ?_⟩) (by assumption) ?_
        rotate_left
        · (intro w hSw; (try dsimp only at hSw); go_simp; (try with_reducible rfl))
        try simp only [Act.put, kB0, kB1, kB2, kB3, kB4, kB5]
        refine wpAnyH_take (i := 31) (v := undef) rfl (by kernel_rfl) (by kernel_rfl) (by kernel_rfl) (fun _ _ _ h => h) (Or.inr ⟨by kernel_rfl, rfl⟩) (by assumption) ?_
        try simp only [Act.put, kB0, kB1, kB2, kB3, kB4, kB5]
        refine wpAnyH_take (i := 32) (v := undef) rfl (by kernel_rfl) (by kernel_rfl) (by kernel_rfl) (fun _ _ _ h => h) (Or.inr ⟨by kernel_rfl, rfl⟩) (by assumption) ?_
        try simp only [Act.put, kB0, kB1, kB2, kB3, kB4, kB5]
        refine wpAnyH_take (i := 33) (v := undef) rfl (by kernel_rfl) (by kernel_rfl) (by kernel_rfl) (fun _ _ _ h => h) (Or.inr ⟨by kernel_rfl, rfl⟩) (by assumption) ?_
        try simp only [Act.put, kB0, kB1, kB2, kB3, kB4, kB5]
        refine wpAnyH_take (i := 34) (v := undef) rfl (by kernel_rfl) (by kernel_rfl) (by kernel_rfl) (fun _ _ _ h => h) (Or.inr ⟨by kernel_rfl, rfl⟩) (by assumption) ?_
        try simp only [Act.put, kB0, kB1, kB2, kB3, kB4, kB5]
        refine wpAnyH_take (i := 35) (v := ?_) rfl (by kernel_rfl) (by kernel_rfl) (by kernel_rfl) (fun _ _ _ h => h) (Or.inl ⟨by kernel_rfl, ?_⟩) (by assumption) ?_
        rotate_left
        · (intro w hSw; (try dsimp only at hSw); go_simp; (try with_reducible rfl))
        try simp only [Act.put, kB0, kB1, kB2, kB3, kB4, kB5]
        refine wpAnyH_done (by kernel_rfl) ?_ _
        have bb := hbel2.trans (hHeld.1.mono hbel2.size)
        have VV := hide ((unhide V2).call hHeld.1)
        clear hHeld MK hbel2 V2
        go_wp2
        go_ret
        exact ⟨by rw [unhide HE0]; rfl, bb⟩
      by_cases hk0 : k = 0
      · have z1 : ¬ (0 : Int) < (k : Int) := by omega
        have HSTEP := hide (unhide HS0 hk0)
        by_cases hR : R < 0
        · have hR2 : decide (R < 0) = true := by simpa using hR
          have HE0 : Hid (RB = false) := hide (unhide HNO (by rw [unhide HSTEP]; simp [hR2]))
          have MK : Hid (∀ W', Below wZ.heap.size wZ W' → (Below wZ.heap.size wZ W' ∧ W'.cell? ⟨X, 0, none⟩ = some (.int .i64 t.d) ∧ W'.cell? ⟨X, 1, none⟩ = some (.int .i64 t.i) ∧ W'.cell? ⟨X, 2, none⟩ = some (.string t.p) ∧ W'.cell? ⟨w.heap.size, 0, none⟩ = some (.slice ia N.length ic) ∧ W'.cell? ⟨w.heap.size, 1, none⟩ = some (.slice ma M.length mc) ∧ W'.cell? ⟨w.heap.size, 2, none⟩ = some (.slice (some ⟨g, o, none⟩) H.length hc) ∧ W'.cell? ⟨w.heap.size, 3, none⟩ = some (.int .i64 next))) := fun W' hb => ⟨hb, (hb.cell (p := ⟨_, _, none⟩) (unhide hXl)).trans x0, (hb.cell (p := ⟨_, _, none⟩) (unhide hXl)).trans x1, (hb.cell (p := ⟨_, _, none⟩) (unhide hXl)).trans x2, (hb.cell (p := ⟨_, _, none⟩) (unhide VZ)).trans w0, (hb.cell (p := ⟨_, _, none⟩) (unhide VZ)).trans w1, (hb.cell (p := ⟨_, _, none⟩) (unhide VZ)).trans w2, (hb.cell (p := ⟨_, _, none⟩) (unhide VZ)).trans w3⟩
          go_wp2_with fail
          refine wp_region_held_drew (S := fun W' => Below wZ.heap.size wZ W' ∧ W'.cell? ⟨X, 0, none⟩ = some (.int .i64 t.d) ∧ W'.cell? ⟨X, 1, none⟩ = some (.int .i64 t.i) ∧ W'.cell? ⟨X, 2, none⟩ = some (.string t.p) ∧ W'.cell? ⟨w.heap.size, 0, none⟩ = some (.slice ia N.length ic) ∧ W'.cell? ⟨w.heap.size, 1, none⟩ = some (.slice ma M.length mc) ∧ W'.cell? ⟨w.heap.size, 2, none⟩ = some (.slice (some ⟨g, o, none⟩) H.length hc) ∧ W'.cell? ⟨w.heap.size, 3, none⟩ = some (.int .i64 next)) (by kernel_rfl) ?_ (fun hHeld => ?_)
          · exact unhide MK _ ((Below.refl _ _).trans ⟨rfl, rfl, rfl, Nat.le_refl _, fun _ _ => rfl⟩)
          refine wpAnyH_take (i := 0) (v := ?_) rfl (by kernel_rfl) (by kernel_rfl) (by kernel_rfl) (fun _ _ _ h => h) (Or.inl ⟨by kernel_rfl, ?_⟩) (by assumption) ?_
          rotate_left
          · (intro w hSw; (try dsimp only at hSw); go_simp; (try with_reducible rfl))
          try simp only [Act.put, kB0, kB1, kB2, kB3, kB4, kB5]
          refine wpAnyH_take (i := 1) (v := ?_) rfl (by kernel_rfl) (by kernel_rfl) (by kernel_rfl) (fun _ _ _ h => h) (Or.inl ⟨by kernel_rfl, ?_⟩) (by assumption) ?_
          rotate_left
          · (intro w hSw; (try dsimp only at hSw); go_simp; (try with_reducible rfl))
          try simp only [Act.put, kB0, kB1, kB2, kB3, kB4, kB5]
          refine wpAnyH_take (i := 2) (v := ?_) rfl (by kernel_rfl) (by kernel_rfl) (by kernel_rfl) (fun _ _ _ h => h) (Or.inl ⟨by kernel_rfl, ?_⟩) (by assumption) ?_
          rotate_left
          · (intro w hSw; (try dsimp only at hSw); go_simp; (try with_reducible rfl))
          try simp only [Act.put, kB0, kB1, kB2, kB3, kB4, kB5]
          refine wpAnyH_take (i := 3) (v := ?_) rfl (by kernel_rfl) (by kernel_rfl) (by kernel_rfl) (fun _ _ _ h => h) (Or.inl ⟨by kernel_rfl, ?_⟩) (by assumption) ?_
          rotate_left
          · (intro w hSw; (try dsimp only at hSw); go_simp; (try with_reducible rfl))
          try simp only [Act.put, kB0, kB1, kB2, kB3, kB4, kB5]
          refine wpAnyH_take (i := 4) (v := ?_) rfl (by kernel_rfl) (by kernel_rfl) (by kernel_rfl) (fun _ _ _ h => h) (Or.inl ⟨by kernel_rfl, ?_⟩) (by assumption) ?_
          rotate_left
          · (intro w hSw; (try dsimp only at hSw); go_simp; (try with_reducible rfl))
          try simp only [Act.put, kB0, kB1, kB2, kB3, kB4, kB5]
          refine wpAnyH_ready (rs := [5]) (by kernel_rfl) (by simp) ?_
          refine AllReadyH.cons rfl (fun K hK => ?_) AllReadyH.nil
          go_simp
          refine (unhide HC1 _).mono ?_
          rintro e wX ⟨rfl, bX⟩
          refine hK.out _ _ ?_ (fun hHeld => ?_)
          · exact unhide MK _ (hHeld.1.trans (bX.mono hHeld.1.size))
          clear hK K
          try simp only [Act.put, kB0, kB1, kB2, kB3, kB4, kB5]
          refine wpAnyH_take (i := 6) (v := ?_) rfl (by kernel_rfl) (by kernel_rfl) (by kernel_rfl) (fun _ _ _ h => h) (Or.inl ⟨by kernel_rfl, ?_⟩) (by assumption) ?_
          rotate_left
          · (intro w hSw; (try dsimp only at hSw); go_simp; (try with_reducible rfl))
          try simp only [Act.put, kB0, kB1, kB2, kB3, kB4, kB5]
          refine wpAnyH_take (i := 7) (v := ?_) rfl (by kernel_rfl) (by kernel_rfl) (by kernel_rfl) (fun _ _ _ h => h) (Or.inl ⟨by kernel_rfl, ?_⟩) (by assumption) ?_
          rotate_left
          · (intro w hSw; (try dsimp only at hSw); go_simp; (try with_reducible rfl))
          try simp only [Act.put, kB0, kB1, kB2, kB3, kB4, kB5]
          refine wpAnyH_take (i := 8) (v := ?_) rfl (by kernel_rfl) (by kernel_rfl) (by kernel_rfl) (fun _ _ _ h => h) (Or.inl ⟨by kernel_rfl, ?_⟩) (by assumption) ?_
          rotate_left
          · (intro w hSw; (try dsimp only at hSw); go_simp; (try with_reducible rfl))
          try simp only [Act.put, kB0, kB1, kB2, kB3, kB4, kB5]
          refine wpAnyH_take (i := 9) (v := ?_) rfl (by kernel_rfl) (by kernel_rfl) (by kernel_rfl) (fun _ _ _ h => h) (Or.inl ⟨by kernel_rfl, ?_⟩) (by assumption) ?_
          rotate_left
          · (intro w hSw; (try dsimp only at hSw); go_simp; (try with_reducible rfl))
          try simp only [Act.put, kB0, kB1, kB2, kB3, kB4, kB5]
          refine wpAnyH_take (i := 10) (v := ?_) rfl (by kernel_rfl) (by kernel_rfl) (by kernel_rfl) (fun _ _ _ h => h) (Or.inl ⟨by kernel_rfl, ?_⟩) (by assumption) ?_
          rotate_left
          · (intro w hSw; (try dsimp only at hSw); go_simp; (try with_reducible rfl))
          try simp only [Act.put, kB0, kB1, kB2, kB3, kB4, kB5]
          refine wpAnyH_take (i := 11) (v := undef) rfl (by kernel_rfl) (by kernel_rfl) (by kernel_rfl) (fun _ _ _ h => h) (Or.inr ⟨by kernel_rfl, rfl⟩) (by assumption) ?_
          try simp only [Act.put, kB0, kB1, kB2, kB3, kB4, kB5]
          refine wpAnyH_take (i := 12) (v := undef) rfl (by kernel_rfl) (by kernel_rfl) (by kernel_rfl) (fun _ _ _ h => h) (Or.inr ⟨by kernel_rfl, rfl⟩) (by assumption) ?_
          try simp only [Act.put, kB0, kB1, kB2, kB3, kB4, kB5]
          refine wpAnyH_take (i := 13) (v := undef) rfl (by kernel_rfl) (by kernel_rfl) (by kernel_rfl) (fun _ _ _ h => h) (Or.inr ⟨by kernel_rfl, rfl⟩) (by assumption) ?_
          try simp only [Act.put, kB0, kB1, kB2, kB3, kB4, kB5]
          refine wpAnyH_take (i := 14) (v := undef) rfl (by kernel_rfl) (by kernel_rfl) (by kernel_rfl) (fun _ _ _ h => h) (Or.inr ⟨by kernel_rfl, rfl⟩) (by assumption) ?_
          try simp only [Act.put, kB0, kB1, kB2, kB3, kB4, kB5]
          refine wpAnyH_take (i := 15) (v := undef) rfl (by kernel_rfl) (by kernel_rfl) (by kernel_rfl) (fun _ _ _ h => h) (Or.inr ⟨by kernel_rfl, rfl⟩) (by assumption) ?_
          try simp only [Act.put, kB0, kB1, kB2, kB3, kB4, kB5]
          refine wpAnyH_take (i := 16) (v := undef) rfl (by kernel_rfl) (by kernel_rfl) (by kernel_rfl) (fun _ _ _ h => h) (Or.inr ⟨by kernel_rfl, rfl⟩) (by assumption) ?_
          try simp only [Act.put, kB0, kB1, kB2, kB3, kB4, kB5]
          refine wpAnyH_take (i := 17) (v := undef) rfl (by kernel_rfl) (by kernel_rfl) (by kernel_rfl) (fun _ _ _ h => h) (Or.inr ⟨by kernel_rfl, rfl⟩) (by assumption) ?_
          try simp only [Act.put, kB0, kB1, kB2, kB3, kB4, kB5]
          refine wpAnyH_take (i := 18) (v := undef) rfl (by kernel_rfl) (by kernel_rfl) (by kernel_rfl) (fun _ _ _ h => h) (Or.inr ⟨by kernel_rfl, rfl⟩) (by assumption) ?_
          try simp only [Act.put, kB0, kB1, kB2, kB3, kB4, kB5]
          refine wpAnyH_take (i := 19) (v := undef) rfl (by kernel_rfl) (by kernel_rfl) (by kernel_rfl) (fun _ _ _ h => h) (Or.inr ⟨by kernel_rfl, rfl⟩) (by assumption) ?_
          try simp only [Act.put, kB0, kB1, kB2, kB3, kB4, kB5]
          refine wpAnyH_take (i := 20) (v := undef) rfl (by kernel_rfl) (by kernel_rfl) (by kernel_rfl) (fun _ _ _ h => h) (Or.inr ⟨by kernel_rfl, rfl⟩) (by assumption) ?_
          try simp only [Act.put, kB0, kB1, kB2, kB3, kB4, kB5]
          refine wpAnyH_take (i := 21) (v := ?_) rfl (by kernel_rfl) (by kernel_rfl) (by kernel_rfl) (fun _ _ _ h => h) (Or.inl ⟨by kernel_rfl, ?_⟩) (by assumption) ?_
          rotate_left
          · (intro w hSw; (try dsimp only at hSw); go_simp; (try with_reducible rfl))
          try simp only [Act.put, kB0, kB1, kB2, kB3, kB4, kB5]
          refine wpAnyH_take (i := 22) (v := ?_) rfl (by kernel_rfl) (by kernel_rfl) (by kernel_rfl) (fun _ _ _ h => h) (Or.inl ⟨by kernel_rfl, ?_⟩) (by assumption) ?_
          rotate_left
          · (intro w hSw; (try dsimp only at hSw); go_simp; (try with_reducible rfl))
          try simp only [Act.put, kB0, kB1, kB2, kB3, kB4, kB5]
          refine wpAnyH_take (i := 23) (v := ?_) rfl (by kernel_rfl) (by kernel_rfl) (by kernel_rfl) (fun _ _ _ h => h) (Or.inl ⟨by kernel_rfl, ?_⟩) (by assumption) ?_
          rotate_left
          · (intro w hSw; (try dsimp only at hSw); go_simp; (try with_reducible rfl))
          try simp only [Act.put, kB0, kB1, kB2, kB3, kB4, kB5]
          refine wpAnyH_take (i := 24) (v := ?_) rfl (by kernel_rfl) (by kernel_rfl) (by kernel_rfl) (fun _ _ _ h => h) (Or.inl ⟨by kernel_rfl, ?_⟩) (by assumption) ?_
          rotate_left
          · (intro w hSw; (try dsimp only at hSw); go_simp; (try with_reducible rfl))
          try simp only [Act.put, kB0, kB1, kB2, kB3, kB4, kB5]
          refine wpAnyH_take (i := 25) (v := ?_) rfl (by kernel_rfl) (by kernel_rfl) (by kernel_rfl) (fun _ _ _ h => h) (Or.inl ⟨by kernel_rfl, ?_⟩) (by assumption) ?_
          rotate_left
          · (intro w hSw; (try dsimp only at hSw); go_simp; (try with_reducible rfl))
          try simp only [Act.put, kB0, kB1, kB2, kB3, kB4, kB5]
          refine wpAnyH_take (i := 26) (v := ?_) rfl (by kernel_rfl) (by kernel_rfl) (by kernel_rfl) (fun _ _ _ h => h) (Or.inl ⟨by kernel_rfl, ?_⟩) (by assumption) ?_
          rotate_left
          · (intro w hSw; (try dsimp only at hSw); go_simp; (try with_reducible rfl))
          try simp only [Act.put, kB0, kB1, kB2, kB3, kB4, kB5]
          refine wpAnyH_ready (rs := [27]) (by kernel_rfl) (by simp) ?_
          refine AllReadyH.cons rfl (fun K hK => ?_) AllReadyH.nil
          go_simp
          refine (unhide HC2 _ hHeld.1).mono ?_
          rintro e wX ⟨rfl, bX⟩
          refine hK.out _ _ ?_ (fun hHeld => ?_)
          · exact unhide MK _ (hHeld.1.trans (bX.mono hHeld.1.size))
          clear hK K
          try simp only [Act.put, kB0, kB1, kB2, kB3, kB4, kB5]
          refine wpAnyH_take (i := 28) (v := ?_) rfl (by kernel_rfl) (by kernel_rfl) (by kernel_rfl) (fun _ _ _ h => h) (Or.inl ⟨by kernel_rfl, ?_⟩) (by assumption) ?_
          rotate_left
          · (intro w hSw; (try dsimp only at hSw); go_simp; (try with_reducible rfl))
          try simp only [Act.put, kB0, kB1, kB2, kB3, kB4, kB5]
          refine wpAnyH_take (i := 29) (v := ?_) rfl (by kernel_rfl) (by kernel_rfl) (by kernel_rfl) (fun _ _ _ h => h) (Or.inl ⟨by kernel_rfl, ?_⟩) (by assumption) ?_
          rotate_left
          · (intro w hSw; (try dsimp only at hSw); go_simp; (try with_reducible rfl))
          try simp only [Act.put, kB0, kB1, kB2, kB3, kB4, kB5]
          refine wpAnyH_take (i := 30) (v := ?_) rfl (by kernel_rfl) (by kernel_rfl) (by kernel_rfl) (fun _ _ _ h => h) (Or.inl ⟨by kernel_rfl, ?_⟩) (by assumption) ?_
          rotate_left
          · (intro w hSw; (try dsimp only at hSw); go_simp; (try with_reducible rfl))
          try simp only [Act.put, kB0, kB1, kB2, kB3, kB4, kB5]
          refine wpAnyH_take (i := 31) (v := undef) rfl (by kernel_rfl) (by kernel_rfl) (by kernel_rfl) (fun _ _ _ h => h) (Or.inr ⟨by kernel_rfl, rfl⟩) (by assumption) ?_
          try simp only [Act.put, kB0, kB1, kB2, kB3, kB4, kB5]
          refine wpAnyH_take (i := 32) (v := undef) rfl (by kernel_rfl) (by kernel_rfl) (by kernel_rfl) (fun _ _ _ h => h) (Or.inr ⟨by kernel_rfl, rfl⟩) (by assumption) ?_
          try simp only [Act.put, kB0, kB1, kB2, kB3, kB4, kB5]
          refine wpAnyH_take (i := 33) (v := undef) rfl (by kernel_rfl) (by kernel_rfl) (by kernel_rfl) (fun _ _ _ h => h) (Or.inr ⟨by kernel_rfl, rfl⟩) (by assumption) ?_
          try simp only [Act.put, kB0, kB1, kB2, kB3, kB4, kB5]
          refine wpAnyH_take (i := 34) (v := undef) rfl (by kernel_rfl) (by kernel_rfl) (by kernel_rfl) (fun _ _ _ h => h) (Or.inr ⟨by kernel_rfl, rfl⟩) (by assumption) ?_
          try simp only [Act.put, kB0, kB1, kB2, kB3, kB4, kB5]
          refine wpAnyH_take (i := 35) (v := ?_) rfl (by kernel_rfl) (by kernel_rfl) (by kernel_rfl) (fun _ _ _ h => h) (Or.inl ⟨by kernel_rfl, ?_⟩) (by assumption) ?_
          rotate_left
          · (intro w hSw; (try dsimp only at hSw); go_simp; (try with_reducible rfl))
          try simp only [Act.put, kB0, kB1, kB2, kB3, kB4, kB5]
          refine wpAnyH_done (by kernel_rfl) ?_ _
          have bb := hbel2.trans (hHeld.1.mono hbel2.size)
          have VV := hide ((unhide V2).call hHeld.1)
          clear hHeld MK hbel2 V2
          go_wp2
          go_ret
          exact ⟨by rw [unhide HE0]; rfl, bb⟩
        · have hR2 : decide (R < 0) = false := by simpa using hR
          cases c4
          · have HE0 : Hid (RB = false) := hide (unhide HNO (by rw [unhide HSTEP]; simp))
            have MK : Hid (∀ W', Below wZ.heap.size wZ W' → (Below wZ.heap.size wZ W' ∧ W'.cell? ⟨X, 0, none⟩ = some (.int .i64 t.d) ∧ W'.cell? ⟨X, 1, none⟩ = some (.int .i64 t.i) ∧ W'.cell? ⟨X, 2, none⟩ = some (.string t.p) ∧ W'.cell? ⟨w.heap.size, 0, none⟩ = some (.slice ia N.length ic) ∧ W'.cell? ⟨w.heap.size, 1, none⟩ = some (.slice ma M.length mc) ∧ W'.cell? ⟨w.heap.size, 2, none⟩ = some (.slice (some ⟨g, o, none⟩) H.length hc) ∧ W'.cell? ⟨w.heap.size, 3, none⟩ = some (.int .i64 next))) := fun W' hb => ⟨hb, (hb.cell (p := ⟨_, _, none⟩) (unhide hXl)).trans x0, (hb.cell (p := ⟨_, _, none⟩) (unhide hXl)).trans x1, (hb.cell (p := ⟨_, _, none⟩) (unhide hXl)).trans x2, (hb.cell (p := ⟨_, _, none⟩) (unhide VZ)).trans w0, (hb.cell (p := ⟨_, _, none⟩) (unhide VZ)).trans w1, (hb.cell (p := ⟨_, _, none⟩) (unhide VZ)).trans w2, (hb.cell (p := ⟨_, _, none⟩) (unhide VZ)).trans w3⟩
            go_wp2_with fail
            refine wp_region_held_drew (S := fun W' => Below wZ.heap.size wZ W' ∧ W'.cell? ⟨X, 0, none⟩ = some (.int .i64 t.d) ∧ W'.cell? ⟨X, 1, none⟩ = some (.int .i64 t.i) ∧ W'.cell? ⟨X, 2, none⟩ = some (.string t.p) ∧ W'.cell? ⟨w.heap.size, 0, none⟩ = some (.slice ia N.length ic) ∧ W'.cell? ⟨w.heap.size, 1, none⟩ = some (.slice ma M.length mc) ∧ W'.cell? ⟨w.heap.size, 2, none⟩ = some (.slice (some ⟨g, o, none⟩) H.length hc) ∧ W'.cell? ⟨w.heap.size, 3, none⟩ = some (.int .i64 next)) (by kernel_rfl) ?_ (fun hHeld => ?_)
            · exact unhide MK _ ((Below.refl _ _).trans ⟨rfl, rfl, rfl, Nat.le_refl _, fun _ _ => rfl⟩)
            refine wpAnyH_take (i := 0) (v := ?_) rfl (by kernel_rfl) (by kernel_rfl) (by kernel_rfl) (fun _ _ _ h => h) (Or.inl ⟨by kernel_rfl, ?_⟩) (by assumption) ?_
            rotate_left
            · (intro w hSw; (try dsimp only at hSw); go_simp; (try with_reducible rfl))
            try simp only [Act.put, kB0, kB1, kB2, kB3, kB4, kB5]
            refine wpAnyH_take (i := 1) (v := ?_) rfl (by kernel_rfl) (by kernel_rfl) (by kernel_rfl) (fun _ _ _ h => h) (Or.inl ⟨by kernel_rfl, ?_⟩) (by assumption) ?_
            rotate_left
            · (intro w hSw; (try dsimp only at hSw); go_simp; (try with_reducible rfl))
            try simp only [Act.put, kB0, kB1, kB2, kB3, kB4, kB5]
            refine wpAnyH_take (i := 2) (v := ?_) rfl (by kernel_rfl) (by kernel_rfl) (by kernel_rfl) (fun _ _ _ h => h) (Or.inl ⟨by kernel_rfl, ?_⟩) (by assumption) ?_
            rotate_left
            · (intro w hSw; (try dsimp only at hSw); go_simp; (try with_reducible rfl))
            try simp only [Act.put, kB0, kB1, kB2, kB3, kB4, kB5]
            refine wpAnyH_take (i := 3) (v := ?_) rfl (by kernel_rfl) (by kernel_rfl) (by kernel_rfl) (fun _ _ _ h => h) (Or.inl ⟨by kernel_rfl, ?_⟩) (by assumption) ?_
            rotate_left
            · (intro w hSw; (try dsimp only at hSw); go_simp; (try with_reducible rfl))
            try simp only [Act.put, kB0, kB1, kB2, kB3, kB4, kB5]
            refine wpAnyH_take (i := 4) (v := ?_) rfl (by kernel_rfl) (by kernel_rfl) (by kernel_rfl) (fun _ _ _ h => h) (Or.inl ⟨by kernel_rfl, ?_⟩) (by assumption) ?_
            rotate_left
            · (intro w hSw; (try dsimp only at hSw); go_simp; (try with_reducible rfl))
            try simp only [Act.put, kB0, kB1, kB2, kB3, kB4, kB5]
            refine wpAnyH_ready (rs := [5]) (by kernel_rfl) (by simp) ?_
            refine AllReadyH.cons rfl (fun K hK => ?_) AllReadyH.nil
            go_simp
            refine (unhide HC1 _).mono ?_
            rintro e wX ⟨rfl, bX⟩
            refine hK.out _ _ ?_ (fun hHeld => ?_)
            · exact unhide MK _ (hHeld.1.trans (bX.mono hHeld.1.size))
            clear hK K
            try simp only [Act.put, kB0, kB1, kB2, kB3, kB4, kB5]
            refine wpAnyH_take (i := 6) (v := ?_) rfl (by kernel_rfl) (by kernel_rfl) (by kernel_rfl) (fun _ _ _ h => h) (Or.inl ⟨by kernel_rfl, ?_⟩) (by assumption) ?_
            rotate_left
            · (intro w hSw; (try dsimp only at hSw); go_simp; (try with_reducible rfl))
            try simp only [Act.put, kB0, kB1, kB2, kB3, kB4, kB5]
            refine wpAnyH_take (i := 7) (v := ?_) rfl (by kernel_rfl) (by kernel_rfl) (by kernel_rfl) (fun _ _ _ h => h) (Or.inl ⟨by kernel_rfl, ?_⟩) (by assumption) ?_
            rotate_left
            · (intro w hSw; (try dsimp only at hSw); go_simp; (try with_reducible rfl))
            try simp only [Act.put, kB0, kB1, kB2, kB3, kB4, kB5]
            refine wpAnyH_take (i := 8) (v := ?_) rfl (by kernel_rfl) (by kernel_rfl) (by kernel_rfl) (fun _ _ _ h => h) (Or.inl ⟨by kernel_rfl, ?_⟩) (by assumption) ?_
            rotate_left
            · (intro w hSw; (try dsimp only at hSw); go_simp; (try with_reducible rfl))
            try simp only [Act.put, kB0, kB1, kB2, kB3, kB4, kB5]
            refine wpAnyH_take (i := 9) (v := ?_) rfl (by kernel_rfl) (by kernel_rfl) (by kernel_rfl) (fun _ _ _ h => h) (Or.inl ⟨by kernel_rfl, ?_⟩) (by assumption) ?_
            rotate_left
            · (intro w hSw; (try dsimp only at hSw); go_simp; (try with_reducible rfl))
            try simp only [Act.put, kB0, kB1, kB2, kB3, kB4, kB5]
            refine wpAnyH_take (i := 10) (v := ?_) rfl (by kernel_rfl) (by kernel_rfl) (by kernel_rfl) (fun _ _ _ h => h) (Or.inl ⟨by kernel_rfl, ?_⟩) (by assumption) ?_
            rotate_left
            · (intro w hSw; (try dsimp only at hSw); go_simp; (try with_reducible rfl))
            try simp only [Act.put, kB0, kB1, kB2, kB3, kB4, kB5]
            refine wpAnyH_take (i := 11) (v := undef) rfl (by kernel_rfl) (by kernel_rfl) (by kernel_rfl) (fun _ _ _ h => h) (Or.inr ⟨by kernel_rfl, rfl⟩) (by assumption) ?_
            try simp only [Act.put, kB0, kB1, kB2, kB3, kB4, kB5]
            refine wpAnyH_take (i := 12) (v := undef) rfl (by kernel_rfl) (by kernel_rfl) (by kernel_rfl) (fun _ _ _ h => h) (Or.inr ⟨by kernel_rfl, rfl⟩) (by assumption) ?_
            try simp only [Act.put, kB0, kB1, kB2, kB3, kB4, kB5]
            refine wpAnyH_take (i := 13) (v := undef) rfl (by kernel_rfl) (by kernel_rfl) (by kernel_rfl) (fun _ _ _ h => h) (Or.inr ⟨by kernel_rfl, rfl⟩) (by assumption) ?_
            try simp only [Act.put, kB0, kB1, kB2, kB3, kB4, kB5]
            refine wpAnyH_take (i := 14) (v := undef) rfl (by kernel_rfl) (by kernel_rfl) (by kernel_rfl) (fun _ _ _ h => h) (Or.inr ⟨by kernel_rfl, rfl⟩) (by assumption) ?_
            try simp only [Act.put, kB0, kB1, kB2, kB3, kB4, kB5]
            refine wpAnyH_take (i := 15) (v := undef) rfl (by kernel_rfl) (by kernel_rfl) (by kernel_rfl) (fun _ _ _ h => h) (Or.inr ⟨by kernel_rfl, rfl⟩) (by assumption) ?_
            try simp only [Act.put, kB0, kB1, kB2, kB3, kB4, kB5]
            refine wpAnyH_take (i := 16) (v := undef) rfl (by kernel_rfl) (by kernel_rfl) (by kernel_rfl) (fun _ _ _ h => h) (Or.inr ⟨by kernel_rfl, rfl⟩) (by assumption) ?_
            try simp only [Act.put, kB0, kB1, kB2, kB3, kB4, kB5]
            refine wpAnyH_take (i := 17) (v := undef) rfl (by kernel_rfl) (by kernel_rfl) (by kernel_rfl) (fun _ _ _ h => h) (Or.inr ⟨by kernel_rfl, rfl⟩) (by assumption) ?_
            try simp only [Act.put, kB0, kB1, kB2, kB3, kB4, kB5]
            refine wpAnyH_take (i := 18) (v := undef) rfl (by kernel_rfl) (by kernel_rfl) (by kernel_rfl) (fun _ _ _ h => h) (Or.inr ⟨by kernel_rfl, rfl⟩) (by assumption) ?_
            try simp only [Act.put, kB0, kB1, kB2, kB3, kB4, kB5]
            refine wpAnyH_take (i := 19) (v := undef) rfl (by kernel_rfl) (by kernel_rfl) (by kernel_rfl) (fun _ _ _ h => h) (Or.inr ⟨by kernel_rfl, rfl⟩) (by assumption) ?_
            try simp only [Act.put, kB0, kB1, kB2, kB3, kB4, kB5]
            refine wpAnyH_take (i := 20) (v := undef) rfl (by kernel_rfl) (by kernel_rfl) (by kernel_rfl) (fun _ _ _ h => h) (Or.inr ⟨by kernel_rfl, rfl⟩) (by assumption) ?_
            try simp only [Act.put, kB0, kB1, kB2, kB3, kB4, kB5]
            refine wpAnyH_take (i := 21) (v := ?_) rfl (by kernel_rfl) (by kernel_rfl) (by kernel_rfl) (fun _ _ _ h => h) (Or.inl ⟨by kernel_rfl, ?_⟩) (by assumption) ?_
            rotate_left
            · (intro w hSw; (try dsimp only at hSw); go_simp; (try with_reducible rfl))
            try simp only [Act.put, kB0, kB1, kB2, kB3, kB4, kB5]
            refine wpAnyH_take (i := 22) (v := ?_) rfl (by kernel_rfl) (by kernel_rfl) (by kernel_rfl) (fun _ _ _ h => h) (Or.inl ⟨by kernel_rfl, ?_⟩) (by assumption) ?_
            rotate_left
            · (intro w hSw; (try dsimp only at hSw); go_simp; (try with_reducible rfl))
            try simp only [Act.put, kB0, kB1, kB2, kB3, kB4, kB5]
            refine wpAnyH_take (i := 23) (v := ?_) rfl (by kernel_rfl) (by kernel_rfl) (by kernel_rfl) (fun _ _ _ h => h) (Or.inl ⟨by kernel_rfl, ?_⟩) (by assumption) ?_
            rotate_left
            · (intro w hSw; (try dsimp only at hSw); go_simp; (try with_reducible rfl))
            try simp only [Act.put, kB0, kB1, kB2, kB3, kB4, kB5]
            refine wpAnyH_take (i := 24) (v := ?_) rfl (by kernel_rfl) (by kernel_rfl) (by kernel_rfl) (fun _ _ _ h => h) (Or.inl ⟨by kernel_rfl, ?_⟩) (by assumption) ?_
            rotate_left
            · (intro w hSw; (try dsimp only at hSw); go_simp; (try with_reducible rfl))
            try simp only [Act.put, kB0, kB1, kB2, kB3, kB4, kB5]
            refine wpAnyH_take (i := 25) (v := ?_) rfl (by kernel_rfl) (by kernel_rfl) (by kernel_rfl) (fun _ _ _ h => h) (Or.inl ⟨by kernel_rfl, ?_⟩) (by assumption) ?_
            rotate_left
            · (intro w hSw; (try dsimp only at hSw); go_simp; (try with_reducible rfl))
            try simp only [Act.put, kB0, kB1, kB2, kB3, kB4, kB5]
            refine wpAnyH_take (i := 26) (v := ?_) rfl (by kernel_rfl) (by kernel_rfl) (by kernel_rfl) (fun _ _ _ h => h) (Or.inl ⟨by kernel_rfl, ?_⟩) (by assumption) ?_
            rotate_left
            · (intro w hSw; (try dsimp only at hSw); go_simp; (try with_reducible rfl))
            try simp only [Act.put, kB0, kB1, kB2, kB3, kB4, kB5]
            refine wpAnyH_ready (rs := [27]) (by kernel_rfl) (by simp) ?_
            refine AllReadyH.cons rfl (fun K hK => ?_) AllReadyH.nil
            go_simp
            refine (unhide HC2 _ hHeld.1).mono ?_
            rintro e wX ⟨rfl, bX⟩
            refine hK.out _ _ ?_ (fun hHeld => ?_)
            · exact unhide MK _ (hHeld.1.trans (bX.mono hHeld.1.size))
            clear hK K
            try simp only [Act.put, kB0, kB1, kB2, kB3, kB4, kB5]
            refine wpAnyH_take (i := 28) (v := ?_) rfl (by kernel_rfl) (by kernel_rfl) (by kernel_rfl) (fun _ _ _ h => h) (Or.inl ⟨by kernel_rfl, ?_⟩) (by assumption) ?_
            rotate_left
            · (intro w hSw; (try dsimp only at hSw); go_simp; (try with_reducible rfl))
            try simp only [Act.put, kB0, kB1, kB2, kB3, kB4, kB5]
            refine wpAnyH_take (i := 29) (v := ?_) rfl (by kernel_rfl) (by kernel_rfl) (by kernel_rfl) (fun _ _ _ h => h) (Or.inl ⟨by kernel_rfl, ?_⟩) (by assumption) ?_
            rotate_left
            · (intro w hSw; (try dsimp only at hSw); go_simp; (try with_reducible rfl))
            try simp only [Act.put, kB0, kB1, kB2, kB3, kB4, kB5]
            refine wpAnyH_take (i := 30) (v := ?_) rfl (by kernel_rfl) (by kernel_rfl) (by kernel_rfl) (fun _ _ _ h => h) (Or.inl ⟨by kernel_rfl, ?_⟩) (by assumption) ?_
            rotate_left
            · (intro w hSw; (try dsimp only at hSw); go_simp; (try with_reducible rfl))
            try simp only [Act.put, kB0, kB1, kB2, kB3, kB4, kB5]
            refine wpAnyH_take (i := 31) (v := ?_) rfl (by kernel_rfl) (by kernel_rfl) (by kernel_rfl) (fun _ _ _ h => h) (Or.inl ⟨by kernel_rfl, ?_⟩) (by assumption) ?_
            rotate_left
            · (intro w hSw; (try dsimp only at hSw); go_simp; (try with_reducible rfl))
            try simp only [Act.put, kB0, kB1, kB2, kB3, kB4, kB5]
            refine wpAnyH_take (i := 32) (v := ?_) rfl (by kernel_rfl) (by kernel_rfl) (by kernel_rfl) (fun _ _ _ h => h) (Or.inl ⟨by kernel_rfl, ?_⟩) (by assumption) ?_
            rotate_left
            · (intro w hSw; (try dsimp only at hSw); go_simp; (try with_reducible rfl))
            try simp only [Act.put, kB0, kB1, kB2, kB3, kB4, kB5]
            refine wpAnyH_ready (rs := [33]) (by kernel_rfl) (by simp) ?_
            refine AllReadyH.cons rfl (fun K hK => ?_) AllReadyH.nil
            go_simp
            refine (unhide HC3 _).mono ?_
            rintro e wX ⟨rfl, bX⟩
            refine hK.out _ _ ?_ (fun hHeld => ?_)
            · exact unhide MK _ (hHeld.1.trans (bX.mono hHeld.1.size))
            clear hK K
            try simp only [Act.put, kB0, kB1, kB2, kB3, kB4, kB5]
            refine wpAnyH_take (i := 34) (v := ?_) rfl (by kernel_rfl) (by kernel_rfl) (by kernel_rfl) (fun _ _ _ h => h) (Or.inl ⟨by kernel_rfl, ?_⟩) (by assumption) ?_
            rotate_left
            · (intro w hSw; (try dsimp only at hSw); go_simp; (try with_reducible rfl))
            try simp only [Act.put, kB0, kB1, kB2, kB3, kB4, kB5]
            refine wpAnyH_take (i := 35) (v := ?_) rfl (by kernel_rfl) (by kernel_rfl) (by kernel_rfl) (fun _ _ _ h => h) (Or.inl ⟨by kernel_rfl, ?_⟩) (by assumption) ?_
            rotate_left
            · (intro w hSw; (try dsimp only at hSw); go_simp; (try with_reducible rfl))
            try simp only [Act.put, kB0, kB1, kB2, kB3, kB4, kB5]
            refine wpAnyH_done (by kernel_rfl) ?_ _
            have bb := hbel2.trans (hHeld.1.mono hbel2.size)
            have VV := hide ((unhide V2).call hHeld.1)
            clear hHeld MK hbel2 V2
            go_wp2
            go_ret
            exact ⟨by rw [unhide HE0]; rfl, bb⟩
          · have HA2 : Hid (∀ j, j < k + 1 → Pl.stepH ids next Pl.wayB H j = true) := fun j hj => by
              rcases Nat.lt_succ_iff_lt_or_eq.1 hj with h | h
              · exact unhide HA j h
              · rw [h, unhide HSTEP]; simp [hR2]
            have MK : Hid (∀ W', Below wZ.heap.size wZ W' → (Below wZ.heap.size wZ W' ∧ W'.cell? ⟨X, 0, none⟩ = some (.int .i64 t.d) ∧ W'.cell? ⟨X, 1, none⟩ = some (.int .i64 t.i) ∧ W'.cell? ⟨X, 2, none⟩ = some (.string t.p) ∧ W'.cell? ⟨w.heap.size, 0, none⟩ = some (.slice ia N.length ic) ∧ W'.cell? ⟨w.heap.size, 1, none⟩ = some (.slice ma M.length mc) ∧ W'.cell? ⟨w.heap.size, 2, none⟩ = some (.slice (some ⟨g, o, none⟩) H.length hc) ∧ W'.cell? ⟨w.heap.size, 3, none⟩ = some (.int .i64 next))) := fun W' hb => ⟨hb, (hb.cell (p := ⟨_, _, none⟩) (unhide hXl)).trans x0, (hb.cell (p := ⟨_, _, none⟩) (unhide hXl)).trans x1, (hb.cell (p := ⟨_, _, none⟩) (unhide hXl)).trans x2, (hb.cell (p := ⟨_, _, none⟩) (unhide VZ)).trans w0, (hb.cell (p := ⟨_, _, none⟩) (unhide VZ)).trans w1, (hb.cell (p := ⟨_, _, none⟩) (unhide VZ)).trans w2, (hb.cell (p := ⟨_, _, none⟩) (unhide VZ)).trans w3⟩
            go_wp2_with fail
            refine wp_region_held_drew (S := fun W' => Below wZ.heap.size wZ W' ∧ W'.cell? ⟨X, 0, none⟩ = some (.int .i64 t.d) ∧ W'.cell? ⟨X, 1, none⟩ = some (.int .i64 t.i) ∧ W'.cell? ⟨X, 2, none⟩ = some (.string t.p) ∧ W'.cell? ⟨w.heap.size, 0, none⟩ = some (.slice ia N.length ic) ∧ W'.cell? ⟨w.heap.size, 1, none⟩ = some (.slice ma M.length mc) ∧ W'.cell? ⟨w.heap.size, 2, none⟩ = some (.slice (some ⟨g, o, none⟩) H.length hc) ∧ W'.cell? ⟨w.heap.size, 3, none⟩ = some (.int .i64 next)) (by kernel_rfl) ?_ (fun hHeld => ?_)
            · exact unhide MK _ ((Below.refl _ _).trans ⟨rfl, rfl, rfl, Nat.le_refl _, fun _ _ => rfl⟩)
            refine wpAnyH_take (i := 0) (v := ?_) rfl (by kernel_rfl) (by kernel_rfl) (by kernel_rfl) (fun _ _ _ h => h) (Or.inl ⟨by kernel_rfl, ?_⟩) (by assumption) ?_
            rotate_left
            · (intro w hSw; (try dsimp only at hSw); go_simp; (try with_reducible rfl))
            try simp only [Act.put, kB0, kB1, kB2, kB3, kB4, kB5]
            refine wpAnyH_take (i := 1) (v := ?_) rfl (by kernel_rfl) (by kernel_rfl) (by kernel_rfl) (fun _ _ _ h => h) (Or.inl ⟨by kernel_rfl, ?_⟩) (by assumption) ?_
            rotate_left
            · (intro w hSw; (try dsimp only at hSw); go_simp; (try with_reducible rfl))
            try simp only [Act.put, kB0, kB1, kB2, kB3, kB4, kB5]
            refine wpAnyH_take (i := 2) (v := ?_) rfl (by kernel_rfl) (by kernel_rfl) (by kernel_rfl) (fun _ _ _ h => h) (Or.inl ⟨by kernel_rfl, ?_⟩) (by assumption) ?_
            rotate_left
            · (intro w hSw; (try dsimp only at hSw); go_simp; (try with_reducible rfl))
            try simp only [Act.put, kB0, kB1, kB2, kB3, kB4, kB5]
            refine wpAnyH_take (i := 3) (v := ?_) rfl (by kernel_rfl) (by kernel_rfl) (by kernel_rfl) (fun _ _ _ h => h) (Or.inl ⟨by kernel_rfl, ?_⟩) (by assumption) ?_
            rotate_left
            · (intro w hSw; (try dsimp only at hSw); go_simp; (try with_reducible rfl))
            try simp only [Act.put, kB0, kB1, kB2, kB3, kB4, kB5]
            refine wpAnyH_take (i := 4) (v := ?_) rfl (by kernel_rfl) (by kernel_rfl) (by kernel_rfl) (fun _ _ _ h => h) (Or.inl ⟨by kernel_rfl, ?_⟩) (by assumption) ?_
            rotate_left
            · (intro w hSw; (try dsimp only at hSw); go_simp; (try with_reducible rfl))
            try simp only [Act.put, kB0, kB1, kB2, kB3, kB4, kB5]
            refine wpAnyH_ready (rs := [5]) (by kernel_rfl) (by simp) ?_
            refine AllReadyH.cons rfl (fun K hK => ?_) AllReadyH.nil
            go_simp
            refine (unhide HC1 _).mono ?_
            rintro e wX ⟨rfl, bX⟩
            refine hK.out _ _ ?_ (fun hHeld => ?_)
            · exact unhide MK _ (hHeld.1.trans (bX.mono hHeld.1.size))
            clear hK K
            try simp only [Act.put, kB0, kB1, kB2, kB3, kB4, kB5]
            refine wpAnyH_take (i := 6) (v := ?_) rfl (by kernel_rfl) (by kernel_rfl) (by kernel_rfl) (fun _ _ _ h => h) (Or.inl ⟨by kernel_rfl, ?_⟩) (by assumption) ?_
            rotate_left
            · (intro w hSw; (try dsimp only at hSw); go_simp; (try with_reducible rfl))
            try simp only [Act.put, kB0, kB1, kB2, kB3, kB4, kB5]
            refine wpAnyH_take (i := 7) (v := ?_) rfl (by kernel_rfl) (by kernel_rfl) (by kernel_rfl) (fun _ _ _ h => h) (Or.inl ⟨by kernel_rfl, ?_⟩) (by assumption) ?_
            rotate_left
            · (intro w hSw; (try dsimp only at hSw); go_simp; (try with_reducible rfl))
            try simp only [Act.put, kB0, kB1, kB2, kB3, kB4, kB5]
            refine wpAnyH_take (i := 8) (v := ?_) rfl (by kernel_rfl) (by kernel_rfl) (by kernel_rfl) (fun _ _ _ h => h) (Or.inl ⟨by kernel_rfl, ?_⟩) (by assumption) ?_
            rotate_left
            · (intro w hSw; (try dsimp only at hSw); go_simp; (try with_reducible rfl))
            try simp only [Act.put, kB0, kB1, kB2, kB3, kB4, kB5]
            refine wpAnyH_take (i := 9) (v := ?_) rfl (by kernel_rfl) (by kernel_rfl) (by kernel_rfl) (fun _ _ _ h => h) (Or.inl ⟨by kernel_rfl, ?_⟩) (by assumption) ?_
            rotate_left
            · (intro w hSw; (try dsimp only at hSw); go_simp; (try with_reducible rfl))
            try simp only [Act.put, kB0, kB1, kB2, kB3, kB4, kB5]
            refine wpAnyH_take (i := 10) (v := ?_) rfl (by kernel_rfl) (by kernel_rfl) (by kernel_rfl) (fun _ _ _ h => h) (Or.inl ⟨by kernel_rfl, ?_⟩) (by assumption) ?_
            rotate_left
            · (intro w hSw; (try dsimp only at hSw); go_simp; (try with_reducible rfl))
            try simp only [Act.put, kB0, kB1, kB2, kB3, kB4, kB5]
            refine wpAnyH_take (i := 11) (v := undef) rfl (by kernel_rfl) (by kernel_rfl) (by kernel_rfl) (fun _ _ _ h => h) (Or.inr ⟨by kernel_rfl, rfl⟩) (by assumption) ?_
            try simp only [Act.put, kB0, kB1, kB2, kB3, kB4, kB5]
            refine wpAnyH_take (i := 12) (v := undef) rfl (by kernel_rfl) (by kernel_rfl) (by kernel_rfl) (fun _ _ _ h => h) (Or.inr ⟨by kernel_rfl, rfl⟩) (by assumption) ?_
            try simp only [Act.put, kB0, kB1, kB2, kB3, kB4, kB5]
            refine wpAnyH_take (i := 13) (v := undef) rfl (by kernel_rfl) (by kernel_rfl) (by kernel_rfl) (fun _ _ _ h => h) (Or.inr ⟨by kernel_rfl, rfl⟩) (by assumption) ?_
            try simp only [Act.put, kB0, kB1, kB2, kB3, kB4, kB5]
            refine wpAnyH_take (i := 14) (v := undef) rfl (by kernel_rfl) (by kernel_rfl) (by kernel_rfl) (fun _ _ _ h => h) (Or.inr ⟨by kernel_rfl, rfl⟩) (by assumption) ?_
            try simp only [Act.put, kB0, kB1, kB2, kB3, kB4, kB5]
            refine wpAnyH_take (i := 15) (v := undef) rfl (by kernel_rfl) (by kernel_rfl) (by kernel_rfl) (fun _ _ _ h => h) (Or.inr ⟨by kernel_rfl, rfl⟩) (by assumption) ?_
            try simp only [Act.put, kB0, kB1, kB2, kB3, kB4, kB5]
            refine wpAnyH_take (i := 16) (v := undef) rfl (by kernel_rfl) (by kernel_rfl) (by kernel_rfl) (fun _ _ _ h => h) (Or.inr ⟨by kernel_rfl, rfl⟩) (by assumption) ?_
            try simp only [Act.put, kB0, kB1, kB2, kB3, kB4, kB5]
            refine wpAnyH_take (i := 17) (v := undef) rfl (by kernel_rfl) (by kernel_rfl) (by kernel_rfl) (fun _ _ _ h => h) (Or.inr ⟨by kernel_rfl, rfl⟩) (by assumption) ?_
            try simp only [Act.put, kB0, kB1, kB2, kB3, kB4, kB5]
            refine wpAnyH_take (i := 18) (v := undef) rfl (by kernel_rfl) (by kernel_rfl) (by kernel_rfl) (fun _ _ _ h => h) (Or.inr ⟨by kernel_rfl, rfl⟩) (by assumption) ?_
            try simp only [Act.put, kB0, kB1, kB2, kB3, kB4, kB5]
            refine wpAnyH_take (i := 19) (v := undef) rfl (by kernel_rfl) (by kernel_rfl) (by kernel_rfl) (fun _ _ _ h => h) (Or.inr ⟨by kernel_rfl, rfl⟩) (by assumption) ?_
            try simp only [Act.put, kB0, kB1, kB2, kB3, kB4, kB5]
            refine wpAnyH_take (i := 20) (v := undef) rfl (by kernel_rfl) (by kernel_rfl) (by kernel_rfl) (fun _ _ _ h => h) (Or.inr ⟨by kernel_rfl, rfl⟩) (by assumption) ?_
            try simp only [Act.put, kB0, kB1, kB2, kB3, kB4, kB5]
            refine wpAnyH_take (i := 21) (v := ?_) rfl (by kernel_rfl) (by kernel_rfl) (by kernel_rfl) (fun _ _ _ h => h) (Or.inl ⟨by kernel_rfl, ?_⟩) (by assumption) ?_
            rotate_left
            · (intro w hSw; (try dsimp only at hSw); go_simp; (try with_reducible rfl))
            try simp only [Act.put, kB0, kB1, kB2, kB3, kB4, kB5]
            refine wpAnyH_take (i := 22) (v := ?_) rfl (by kernel_rfl) (by kernel_rfl) (by kernel_rfl) (fun _ _ _ h => h) (Or.inl ⟨by kernel_rfl, ?_⟩) (by assumption) ?_
            rotate_left
            · (intro w hSw; (try dsimp only at hSw); go_simp; (try with_reducible rfl))
            try simp only [Act.put, kB0, kB1, kB2, kB3, kB4, kB5]
            refine wpAnyH_take (i := 23) (v := ?_) rfl (by kernel_rfl) (by kernel_rfl) (by kernel_rfl) (fun _ _ _ h => h) (Or.inl ⟨by kernel_rfl, ?_⟩) (by assumption) ?_
            rotate_left
            · (intro w hSw; (try dsimp only at hSw); go_simp; (try with_reducible rfl))
            try simp only [Act.put, kB0, kB1, kB2, kB3, kB4, kB5]
            refine wpAnyH_take (i := 24) (v := ?_) rfl (by kernel_rfl) (by kernel_rfl) (by kernel_rfl) (fun _ _ _ h => h) (Or.inl ⟨by kernel_rfl, ?_⟩) (by assumption) ?_
            rotate_left
            · (intro w hSw; (try dsimp only at hSw); go_simp; (try with_reducible rfl))
            try simp only [Act.put, kB0, kB1, kB2, kB3, kB4, kB5]
            refine wpAnyH_take (i := 25) (v := ?_) rfl (by kernel_rfl) (by kernel_rfl) (by kernel_rfl) (fun _ _ _ h => h) (Or.inl ⟨by kernel_rfl, ?_⟩) (by assumption) ?_
            rotate_left
            · (intro w hSw; (try dsimp only at hSw); go_simp; (try with_reducible rfl))
            try simp only [Act.put, kB0, kB1, kB2, kB3, kB4, kB5]
            refine wpAnyH_take (i := 26) (v := ?_) rfl (by kernel_rfl) (by kernel_rfl) (by kernel_rfl) (fun _ _ _ h => h) (Or.inl ⟨by kernel_rfl, ?_⟩) (by assumption) ?_
            rotate_left
            · (intro w hSw; (try dsimp only at hSw); go_simp; (try with_reducible rfl))
            try simp only [Act.put, kB0, kB1, kB2, kB3, kB4, kB5]
            refine wpAnyH_ready (rs := [27]) (by kernel_rfl) (by simp) ?_
            refine AllReadyH.cons rfl (fun K hK => ?_) AllReadyH.nil
            go_simp
            refine (unhide HC2 _ hHeld.1).mono ?_
            rintro e wX ⟨rfl, bX⟩
            refine hK.out _ _ ?_ (fun hHeld => ?_)
            · exact unhide MK _ (hHeld.1.trans (bX.mono hHeld.1.size))
            clear hK K
            try simp only [Act.put, kB0, kB1, kB2, kB3, kB4, kB5]
            refine wpAnyH_take (i := 28) (v := ?_) rfl (by kernel_rfl) (by kernel_rfl) (by kernel_rfl) (fun _ _ _ h => h) (Or.inl ⟨by kernel_rfl, ?_⟩) (by assumption) ?_
            rotate_left
            · (intro w hSw; (try dsimp only at hSw); go_simp; (try with_reducible rfl))
            try simp only [Act.put, kB0, kB1, kB2, kB3, kB4, kB5]
            refine wpAnyH_take (i := 29) (v := ?_) rfl (by kernel_rfl) (by kernel_rfl) (by kernel_rfl) (fun _ _ _ h => h) (Or.inl ⟨by kernel_rfl, ?_⟩) (by assumption) ?_
            rotate_left
            · (intro w hSw; (try dsimp only at hSw); go_simp; (try with_reducible rfl))
            try simp only [Act.put, kB0, kB1, kB2, kB3, kB4, kB5]
            refine wpAnyH_take (i := 30) (v := ?_) rfl (by kernel_rfl) (by kernel_rfl) (by kernel_rfl) (fun _ _ _ h => h) (Or.inl ⟨by kernel_rfl, ?_⟩) (by assumption) ?_
            rotate_left
            · (intro w hSw; (try dsimp only at hSw); go_simp; (try with_reducible rfl))
            try simp only [Act.put, kB0, kB1, kB2, kB3, kB4, kB5]
            refine wpAnyH_take (i := 31) (v := ?_) rfl (by kernel_rfl) (by kernel_rfl) (by kernel_rfl) (fun _ _ _ h => h) (Or.inl ⟨by kernel_rfl, ?_⟩) (by assumption) ?_
            rotate_left
            · (intro w hSw; (try dsimp only at hSw); go_simp; (try with_reducible rfl))
            try simp only [Act.put, kB0, kB1, kB2, kB3, kB4, kB5]
            refine wpAnyH_take (i := 32) (v := ?_) rfl (by kernel_rfl) (by kernel_rfl) (by kernel_rfl) (fun _ _ _ h => h) (Or.inl ⟨by kernel_rfl, ?_⟩) (by assumption) ?_
            rotate_left
            · (intro w hSw; (try dsimp only at hSw); go_simp; (try with_reducible rfl))
            try simp only [Act.put, kB0, kB1, kB2, kB3, kB4, kB5]
            refine wpAnyH_ready (rs := [33]) (by kernel_rfl) (by simp) ?_
            refine AllReadyH.cons rfl (fun K hK => ?_) AllReadyH.nil
            go_simp
            refine (unhide HC3 _).mono ?_
            rintro e wX ⟨rfl, bX⟩
            refine hK.out _ _ ?_ (fun hHeld => ?_)
            · exact unhide MK _ (hHeld.1.trans (bX.mono hHeld.1.size))
            clear hK K
            try simp only [Act.put, kB0, kB1, kB2, kB3, kB4, kB5]
            refine wpAnyH_take (i := 34) (v := ?_) rfl (by kernel_rfl) (by kernel_rfl) (by kernel_rfl) (fun _ _ _ h => h) (Or.inl ⟨by kernel_rfl, ?_⟩) (by assumption) ?_
            rotate_left
            · (intro w hSw; (try dsimp only at hSw); go_simp; (try with_reducible rfl))
            try simp only [Act.put, kB0, kB1, kB2, kB3, kB4, kB5]
            refine wpAnyH_take (i := 35) (v := ?_) rfl (by kernel_rfl) (by kernel_rfl) (by kernel_rfl) (fun _ _ _ h => h) (Or.inl ⟨by kernel_rfl, ?_⟩) (by assumption) ?_
            rotate_left
            · (intro w hSw; (try dsimp only at hSw); go_simp; (try with_reducible rfl))
            try simp only [Act.put, kB0, kB1, kB2, kB3, kB4, kB5]
            refine wpAnyH_done (by kernel_rfl) ?_ _
            have bb := hbel2.trans (hHeld.1.mono hbel2.size)
            have VV := hide ((unhide V2).call hHeld.1)
            clear hHeld MK hbel2 V2
            go_wp2
            go_roundw
            case rel => exact ⟨k + 1, by omega, by go_num, bb, VV, HA2⟩
            case measure => simp [intOf]; omega
      · have z1 : (0 : Int) < (k : Int) := by omega
        have z4 : 0 < k := by omega
        obtain ⟨k', hk'⟩ : ∃ k', k = k' + 1 := ⟨k - 1, by omega⟩
        obtain ⟨p, hp⟩ : ∃ n, H[k']? = some n := ⟨_, List.getElem?_eq_getElem (by omega)⟩
        have HSTEP := hide (unhide HS1 k' p hk' hp)
        obtain ⟨g', o', e', hg', q0, -, -⟩ := (unhide HV) k' p hp
        cases e'
        have pp := (hbel2.cell (p := ⟨g, _, none⟩) hg).trans q0
        have hwk : IntKind.i64.wrap ((k : Int) - 1) = (k' : Int) := by simp only [IntKind.wrap_i64]; omega
        have z2 : (k' : Int) < (H.length : Int) := by omega
        have z3 : (0 : Int) ≤ (k' : Int) := by omega
        have hgl : Hid (g < wZ.heap.size) := hide (World.block_lt_of_cell? wZ ⟨g, _, none⟩ pp)
        have HKE := hide hk'
        clear q0 hp hk' hk0
        by_cases hpd : t.d ≤ p.d
        · have hp2 : decide (p.d < t.d) = false := by simp; omega
          have HE0 : Hid (RB = false) := hide (unhide HNO (by rw [unhide HSTEP]; simp [hp2]))
          have MK : Hid (∀ W', Below wZ.heap.size wZ W' → (Below wZ.heap.size wZ W' ∧ W'.cell? ⟨X, 0, none⟩ = some (.int .i64 t.d) ∧ W'.cell? ⟨X, 1, none⟩ = some (.int .i64 t.i) ∧ W'.cell? ⟨X, 2, none⟩ = some (.string t.p) ∧ W'.cell? ⟨w.heap.size, 0, none⟩ = some (.slice ia N.length ic) ∧ W'.cell? ⟨w.heap.size, 1, none⟩ = some (.slice ma M.length mc) ∧ W'.cell? ⟨w.heap.size, 2, none⟩ = some (.slice (some ⟨g, o, none⟩) H.length hc) ∧ W'.cell? ⟨w.heap.size, 3, none⟩ = some (.int .i64 next) ∧ W'.cell? ⟨g, o + k' * 3, none⟩ = some (.int .i64 p.d))) := fun W' hb => ⟨hb, (hb.cell (p := ⟨_, _, none⟩) (unhide hXl)).trans x0, (hb.cell (p := ⟨_, _, none⟩) (unhide hXl)).trans x1, (hb.cell (p := ⟨_, _, none⟩) (unhide hXl)).trans x2, (hb.cell (p := ⟨_, _, none⟩) (unhide VZ)).trans w0, (hb.cell (p := ⟨_, _, none⟩) (unhide VZ)).trans w1, (hb.cell (p := ⟨_, _, none⟩) (unhide VZ)).trans w2, (hb.cell (p := ⟨_, _, none⟩) (unhide VZ)).trans w3, (hb.cell (p := ⟨_, _, none⟩) (unhide hgl)).trans pp⟩
          go_wp2_with fail
          refine wp_region_held_drew (S := fun W' => Below wZ.heap.size wZ W' ∧ W'.cell? ⟨X, 0, none⟩ = some (.int .i64 t.d) ∧ W'.cell? ⟨X, 1, none⟩ = some (.int .i64 t.i) ∧ W'.cell? ⟨X, 2, none⟩ = some (.string t.p) ∧ W'.cell? ⟨w.heap.size, 0, none⟩ = some (.slice ia N.length ic) ∧ W'.cell? ⟨w.heap.size, 1, none⟩ = some (.slice ma M.length mc) ∧ W'.cell? ⟨w.heap.size, 2, none⟩ = some (.slice (some ⟨g, o, none⟩) H.length hc) ∧ W'.cell? ⟨w.heap.size, 3, none⟩ = some (.int .i64 next) ∧ W'.cell? ⟨g, o + k' * 3, none⟩ = some (.int .i64 p.d)) (by kernel_rfl) ?_ (fun hHeld => ?_)
          · exact unhide MK _ ((Below.refl _ _).trans ⟨rfl, rfl, rfl, Nat.le_refl _, fun _ _ => rfl⟩)
          refine wpAnyH_take (i := 0) (v := ?_) rfl (by kernel_rfl) (by kernel_rfl) (by kernel_rfl) (fun _ _ _ h => h) (Or.inl ⟨by kernel_rfl, ?_⟩) (by assumption) ?_
          rotate_left
          · (intro w hSw; (try dsimp only at hSw); go_simp; (try with_reducible rfl))
          try simp only [Act.put, kB0, kB1, kB2, kB3, kB4, kB5]
          refine wpAnyH_take (i := 1) (v := ?_) rfl (by kernel_rfl) (by kernel_rfl) (by kernel_rfl) (fun _ _ _ h => h) (Or.inl ⟨by kernel_rfl, ?_⟩) (by assumption) ?_
          rotate_left
          · (intro w hSw; (try dsimp only at hSw); go_simp; (try with_reducible rfl))
          try simp only [Act.put, kB0, kB1, kB2, kB3, kB4, kB5]
          refine wpAnyH_take (i := 2) (v := ?_) rfl (by kernel_rfl) (by kernel_rfl) (by kernel_rfl) (fun _ _ _ h => h) (Or.inl ⟨by kernel_rfl, ?_⟩) (by assumption) ?_
          rotate_left
          · (intro w hSw; (try dsimp only at hSw); go_simp; (try with_reducible rfl))
          try simp only [Act.put, kB0, kB1, kB2, kB3, kB4, kB5]
          refine wpAnyH_take (i := 3) (v := ?_) rfl (by kernel_rfl) (by kernel_rfl) (by kernel_rfl) (fun _ _ _ h => h) (Or.inl ⟨by kernel_rfl, ?_⟩) (by assumption) ?_
          rotate_left
          · (intro w hSw; (try dsimp only at hSw); go_simp; (try with_reducible rfl))
          try simp only [Act.put, kB0, kB1, kB2, kB3, kB4, kB5]
          refine wpAnyH_take (i := 4) (v := ?_) rfl (by kernel_rfl) (by kernel_rfl) (by kernel_rfl) (fun _ _ _ h => h) (Or.inl ⟨by kernel_rfl, ?_⟩) (by assumption) ?_
          rotate_left
          · (intro w hSw; (try dsimp only at hSw); go_simp; (try with_reducible rfl))
          try simp only [Act.put, kB0, kB1, kB2, kB3, kB4, kB5]
          refine wpAnyH_ready (rs := [5]) (by kernel_rfl) (by simp) ?_
          refine AllReadyH.cons rfl (fun K hK => ?_) AllReadyH.nil
          go_simp
          refine (unhide HC1 _).mono ?_
          rintro e wX ⟨rfl, bX⟩
          refine hK.out _ _ ?_ (fun hHeld => ?_)
          · exact unhide MK _ (hHeld.1.trans (bX.mono hHeld.1.size))
          clear hK K
          try simp only [Act.put, kB0, kB1, kB2, kB3, kB4, kB5]
          refine wpAnyH_take (i := 6) (v := ?_) rfl (by kernel_rfl) (by kernel_rfl) (by kernel_rfl) (fun _ _ _ h => h) (Or.inl ⟨by kernel_rfl, ?_⟩) (by assumption) ?_
          rotate_left
          · (intro w hSw; (try dsimp only at hSw); go_simp; (try with_reducible rfl))
          try simp only [Act.put, kB0, kB1, kB2, kB3, kB4, kB5]
          refine wpAnyH_take (i := 7) (v := ?_) rfl (by kernel_rfl) (by kernel_rfl) (by kernel_rfl) (fun _ _ _ h => h) (Or.inl ⟨by kernel_rfl, ?_⟩) (by assumption) ?_
          rotate_left
          · (intro w hSw; (try dsimp only at hSw); go_simp; (try with_reducible rfl))
          try simp only [Act.put, kB0, kB1, kB2, kB3, kB4, kB5]
          refine wpAnyH_take (i := 8) (v := ?_) rfl (by kernel_rfl) (by kernel_rfl) (by kernel_rfl) (fun _ _ _ h => h) (Or.inl ⟨by kernel_rfl, ?_⟩) (by assumption) ?_
          rotate_left
          · (intro w hSw; (try dsimp only at hSw); go_simp; (try with_reducible rfl))
          try simp only [Act.put, kB0, kB1, kB2, kB3, kB4, kB5]
          refine wpAnyH_take (i := 9) (v := ?_) rfl (by kernel_rfl) (by kernel_rfl) (by kernel_rfl) (fun _ _ _ h => h) (Or.inl ⟨by kernel_rfl, ?_⟩) (by assumption) ?_
          rotate_left
          · (intro w hSw; (try dsimp only at hSw); go_simp; (try with_reducible rfl))
          try simp only [Act.put, kB0, kB1, kB2, kB3, kB4, kB5]
          refine wpAnyH_take (i := 10) (v := ?_) rfl (by kernel_rfl) (by kernel_rfl) (by kernel_rfl) (fun _ _ _ h => h) (Or.inl ⟨by kernel_rfl, ?_⟩) (by assumption) ?_
          rotate_left
          · (intro w hSw; (try dsimp only at hSw); go_simp; (try with_reducible rfl))
          try simp only [Act.put, kB0, kB1, kB2, kB3, kB4, kB5]
          refine wpAnyH_take (i := 11) (v := ?_) rfl (by kernel_rfl) (by kernel_rfl) (by kernel_rfl) (fun _ _ _ h => h) (Or.inl ⟨by kernel_rfl, ?_⟩) (by assumption) ?_
          rotate_left
          · (intro w hSw; (try dsimp only at hSw); go_simp; (try with_reducible rfl))
          try simp only [Act.put, kB0, kB1, kB2, kB3, kB4, kB5]
          refine wpAnyH_take (i := 12) (v := ?_) rfl (by kernel_rfl) (by kernel_rfl) (by kernel_rfl) (fun _ _ _ h => h) (Or.inl ⟨by kernel_rfl, ?_⟩) (by assumption) ?_
          rotate_left
          · (intro w hSw; (try dsimp only at hSw); go_simp; (try with_reducible rfl))
          try simp only [Act.put, kB0, kB1, kB2, kB3, kB4, kB5]
          refine wpAnyH_take (i := 13) (v := ?_) rfl (by kernel_rfl) (by kernel_rfl) (by kernel_rfl) (fun _ _ _ h => h) (Or.inl ⟨by kernel_rfl, ?_⟩) (by assumption) ?_
          rotate_left
          · (intro w hSw; (try dsimp only at hSw); go_simp; (try with_reducible rfl))
          try simp only [Act.put, kB0, kB1, kB2, kB3, kB4, kB5]
          refine wpAnyH_take (i := 14) (v := ?_) rfl (by kernel_rfl) (by kernel_rfl) (by kernel_rfl) (fun _ _ _ h => h) (Or.inl ⟨by kernel_rfl, ?_⟩) (by assumption) ?_
          rotate_left
          · (intro w hSw; (try dsimp only at hSw); go_simp; (try with_reducible rfl))
          try simp only [Act.put, kB0, kB1, kB2, kB3, kB4, kB5]
          refine wpAnyH_take (i := 15) (v := ?_) rfl (by kernel_rfl) (by kernel_rfl) (by kernel_rfl) (fun _ _ _ h => h) (Or.inl ⟨by kernel_rfl, ?_⟩) (by assumption) ?_
          rotate_left
          · (intro w hSw; (try dsimp only at hSw); go_simp; (try with_reducible rfl))
          try simp only [Act.put, kB0, kB1, kB2, kB3, kB4, kB5]
          refine wpAnyH_take (i := 16) (v := ?_) rfl (by kernel_rfl) (by kernel_rfl) (by kernel_rfl) (fun _ _ _ h => h) (Or.inl ⟨by kernel_rfl, ?_⟩) (by assumption) ?_
          rotate_left
          · (intro w hSw; (try dsimp only at hSw); go_simp; (try with_reducible rfl))
          try simp only [Act.put, kB0, kB1, kB2, kB3, kB4, kB5]
          refine wpAnyH_take (i := 17) (v := ?_) rfl (by kernel_rfl) (by kernel_rfl) (by kernel_rfl) (fun _ _ _ h => h) (Or.inl ⟨by kernel_rfl, ?_⟩) (by assumption) ?_
          rotate_left
          · (intro w hSw; (try dsimp only at hSw); go_simp; (try with_reducible rfl))
          try simp only [Act.put, kB0, kB1, kB2, kB3, kB4, kB5]
          refine wpAnyH_take (i := 18) (v := ?_) rfl (by kernel_rfl) (by kernel_rfl) (by kernel_rfl) (fun _ _ _ h => h) (Or.inl ⟨by kernel_rfl, ?_⟩) (by assumption) ?_
          rotate_left
          · (intro w hSw; (try dsimp only at hSw); go_simp; (try with_reducible rfl))
          try simp only [Act.put, kB0, kB1, kB2, kB3, kB4, kB5]
          refine wpAnyH_take (i := 19) (v := ?_) rfl (by kernel_rfl) (by kernel_rfl) (by kernel_rfl) (fun _ _ _ h => h) (Or.inl ⟨by kernel_rfl, ?_⟩) (by assumption) ?_
          rotate_left
          · (intro w hSw; (try dsimp only at hSw); go_simp; (try with_reducible rfl))
          try simp only [Act.put, kB0, kB1, kB2, kB3, kB4, kB5]
          refine wpAnyH_take (i := 20) (v := ?_) rfl (by kernel_rfl) (by kernel_rfl) (by kernel_rfl) (fun _ _ _ h => h) (Or.inl ⟨by kernel_rfl, ?_⟩) (by assumption) ?_
          rotate_left
          · (intro w hSw; (try dsimp only at hSw); go_simp; (try with_reducible rfl))
          try simp only [Act.put, kB0, kB1, kB2, kB3, kB4, kB5]
          refine wpAnyH_take (i := 21) (v := ?_) rfl (by kernel_rfl) (by kernel_rfl) (by kernel_rfl) (fun _ _ _ h => h) (Or.inl ⟨by kernel_rfl, ?_⟩) (by assumption) ?_
          rotate_left
          · (intro w hSw; (try dsimp only at hSw); go_simp; (try with_reducible rfl))
          try simp only [Act.put, kB0, kB1, kB2, kB3, kB4, kB5]
          refine wpAnyH_take (i := 22) (v := ?_) rfl (by kernel_rfl) (by kernel_rfl) (by kernel_rfl) (fun _ _ _ h => h) (Or.inl ⟨by kernel_rfl, ?_⟩) (by assumption) ?_
          rotate_left
          · (intro w hSw; (try dsimp only at hSw); go_simp; (try with_reducible rfl))
          try simp only [Act.put, kB0, kB1, kB2, kB3, kB4, kB5]
          refine wpAnyH_take (i := 23) (v := ?_) rfl (by kernel_rfl) (by kernel_rfl) (by kernel_rfl) (fun _ _ _ h => h) (Or.inl ⟨by kernel_rfl, ?_⟩) (by assumption) ?_
          rotate_left
          · (intro w hSw; (try dsimp only at hSw); go_simp; (try with_reducible rfl))
          try simp only [Act.put, kB0, kB1, kB2, kB3, kB4, kB5]
          refine wpAnyH_take (i := 24) (v := undef) rfl (by kernel_rfl) (by kernel_rfl) (by kernel_rfl) (fun _ _ _ h => h) (Or.inr ⟨by kernel_rfl, rfl⟩) (by assumption) ?_
          try simp only [Act.put, kB0, kB1, kB2, kB3, kB4, kB5]
          refine wpAnyH_take (i := 25) (v := undef) rfl (by kernel_rfl) (by kernel_rfl) (by kernel_rfl) (fun _ _ _ h => h) (Or.inr ⟨by kernel_rfl, rfl⟩) (by assumption) ?_
          try simp only [Act.put, kB0, kB1, kB2, kB3, kB4, kB5]
          refine wpAnyH_take (i := 26) (v := undef) rfl (by kernel_rfl) (by kernel_rfl) (by kernel_rfl) (fun _ _ _ h => h) (Or.inr ⟨by kernel_rfl, rfl⟩) (by assumption) ?_
          try simp only [Act.put, kB0, kB1, kB2, kB3, kB4, kB5]
          refine wpAnyH_take (i := 27) (v := undef) rfl (by kernel_rfl) (by kernel_rfl) (by kernel_rfl) (fun _ _ _ h => h) (Or.inr ⟨by kernel_rfl, rfl⟩) (by assumption) ?_
          try simp only [Act.put, kB0, kB1, kB2, kB3, kB4, kB5]
          refine wpAnyH_take (i := 28) (v := undef) rfl (by kernel_rfl) (by kernel_rfl) (by kernel_rfl) (fun _ _ _ h => h) (Or.inr ⟨by kernel_rfl, rfl⟩) (by assumption) ?_
          try simp only [Act.put, kB0, kB1, kB2, kB3, kB4, kB5]
          refine wpAnyH_take (i := 29) (v := ?_) rfl (by kernel_rfl) (by kernel_rfl) (by kernel_rfl) (fun _ _ _ h => h) (Or.inl ⟨by kernel_rfl, ?_⟩) (by assumption) ?_
          rotate_left
          · (intro w hSw; (try dsimp only at hSw); go_simp; (try with_reducible rfl))
          try simp only [Act.put, kB0, kB1, kB2, kB3, kB4, kB5]
          refine wpAnyH_take (i := 30) (v := ?_) rfl (by kernel_rfl) (by kernel_rfl) (by kernel_rfl) (fun _ _ _ h => h) (Or.inl ⟨by kernel_rfl, ?_⟩) (by assumption) ?_
          rotate_left
          · (intro w hSw; (try dsimp only at hSw); go_simp; (try with_reducible rfl))
          try simp only [Act.put, kB0, kB1, kB2, kB3, kB4, kB5]
          refine wpAnyH_take (i := 31) (v := undef) rfl (by kernel_rfl) (by kernel_rfl) (by kernel_rfl) (fun _ _ _ h => h) (Or.inr ⟨by kernel_rfl, rfl⟩) (by assumption) ?_
          try simp only [Act.put, kB0, kB1, kB2, kB3, kB4, kB5]
          refine wpAnyH_take (i := 32) (v := undef) rfl (by kernel_rfl) (by kernel_rfl) (by kernel_rfl) (fun _ _ _ h => h) (Or.inr ⟨by kernel_rfl, rfl⟩) (by assumption) ?_
          try simp only [Act.put, kB0, kB1, kB2, kB3, kB4, kB5]
          refine wpAnyH_take (i := 33) (v := undef) rfl (by kernel_rfl) (by kernel_rfl) (by kernel_rfl) (fun _ _ _ h => h) (Or.inr ⟨by kernel_rfl, rfl⟩) (by assumption) ?_
          try simp only [Act.put, kB0, kB1, kB2, kB3, kB4, kB5]
          refine wpAnyH_take (i := 34) (v := undef) rfl (by kernel_rfl) (by kernel_rfl) (by kernel_rfl) (fun _ _ _ h => h) (Or.inr ⟨by kernel_rfl, rfl⟩) (by assumption) ?_
          try simp only [Act.put, kB0, kB1, kB2, kB3, kB4, kB5]
          refine wpAnyH_take (i := 35) (v := ?_) rfl (by kernel_rfl) (by kernel_rfl) (by kernel_rfl) (fun _ _ _ h => h) (Or.inl ⟨by kernel_rfl, ?_⟩) (by assumption) ?_
          rotate_left
          · (intro w hSw; (try dsimp only at hSw); go_simp; (try with_reducible rfl))
          try simp only [Act.put, kB0, kB1, kB2, kB3, kB4, kB5]
          refine wpAnyH_done (by kernel_rfl) ?_ _
          have bb := hbel2.trans (hHeld.1.mono hbel2.size)
          have VV := hide ((unhide V2).call hHeld.1)
          clear hHeld MK hbel2 V2
          go_wp2
          go_ret
          exact ⟨by rw [unhide HE0]; rfl, bb⟩
        · have hp2 : decide (p.d < t.d) = true := by simp; omega
          have hp3 : decide (t.d ≤ p.d) = false := by simp; omega
          have hp4 : p.d < t.d := by omega
          by_cases hR : R < 0
          · have hR2 : decide (R < 0) = true := by simpa using hR
            have HE0 : Hid (RB = false) := hide (unhide HNO (by rw [unhide HSTEP]; simp [hR2]))
            have MK : Hid (∀ W', Below wZ.heap.size wZ W' → (Below wZ.heap.size wZ W' ∧ W'.cell? ⟨X, 0, none⟩ = some (.int .i64 t.d) ∧ W'.cell? ⟨X, 1, none⟩ = some (.int .i64 t.i) ∧ W'.cell? ⟨X, 2, none⟩ = some (.string t.p) ∧ W'.cell? ⟨w.heap.size, 0, none⟩ = some (.slice ia N.length ic) ∧ W'.cell? ⟨w.heap.size, 1, none⟩ = some (.slice ma M.length mc) ∧ W'.cell? ⟨w.heap.size, 2, none⟩ = some (.slice (some ⟨g, o, none⟩) H.length hc) ∧ W'.cell? ⟨w.heap.size, 3, none⟩ = some (.int .i64 next) ∧ W'.cell? ⟨g, o + k' * 3, none⟩ = some (.int .i64 p.d))) := fun W' hb => ⟨hb, (hb.cell (p := ⟨_, _, none⟩) (unhide hXl)).trans x0, (hb.cell (p := ⟨_, _, none⟩) (unhide hXl)).trans x1, (hb.cell (p := ⟨_, _, none⟩) (unhide hXl)).trans x2, (hb.cell (p := ⟨_, _, none⟩) (unhide VZ)).trans w0, (hb.cell (p := ⟨_, _, none⟩) (unhide VZ)).trans w1, (hb.cell (p := ⟨_, _, none⟩) (unhide VZ)).trans w2, (hb.cell (p := ⟨_, _, none⟩) (unhide VZ)).trans w3, (hb.cell (p := ⟨_, _, none⟩) (unhide hgl)).trans pp⟩
            go_wp2_with fail
            refine wp_region_held_drew (S := fun W' => Below wZ.heap.size wZ W' ∧ W'.cell? ⟨X, 0, none⟩ = some (.int .i64 t.d) ∧ W'.cell? ⟨X, 1, none⟩ = some (.int .i64 t.i) ∧ W'.cell? ⟨X, 2, none⟩ = some (.string t.p) ∧ W'.cell? ⟨w.heap.size, 0, none⟩ = some (.slice ia N.length ic) ∧ W'.cell? ⟨w.heap.size, 1, none⟩ = some (.slice ma M.length mc) ∧ W'.cell? ⟨w.heap.size, 2, none⟩ = some (.slice (some ⟨g, o, none⟩) H.length hc) ∧ W'.cell? ⟨w.heap.size, 3, none⟩ = some (.int .i64 next) ∧ W'.cell? ⟨g, o + k' * 3, none⟩ = some (.int .i64 p.d)) (by kernel_rfl) ?_ (fun hHeld => ?_)
            · exact unhide MK _ ((Below.refl _ _).trans ⟨rfl, rfl, rfl, Nat.le_refl _, fun _ _ => rfl⟩)
            refine wpAnyH_take (i := 0) (v := ?_) rfl (by kernel_rfl) (by kernel_rfl) (by kernel_rfl) (fun _ _ _ h => h) (Or.inl ⟨by kernel_rfl, ?_⟩) (by assumption) ?_
            rotate_left
            · (intro w hSw; (try dsimp only at hSw); go_simp; (try with_reducible rfl))
            try simp only [Act.put, kB0, kB1, kB2, kB3, kB4, kB5]
            refine wpAnyH_take (i := 1) (v := ?_) rfl (by kernel_rfl) (by kernel_rfl) (by kernel_rfl) (fun _ _ _ h => h) (Or.inl ⟨by kernel_rfl, ?_⟩) (by assumption) ?_
            rotate_left
            · (intro w hSw; (try dsimp only at hSw); go_simp; (try with_reducible rfl))
            try simp only [Act.put, kB0, kB1, kB2, kB3, kB4, kB5]
            refine wpAnyH_take (i := 2) (v := ?_) rfl (by kernel_rfl) (by kernel_rfl) (by kernel_rfl) (fun _ _ _ h => h) (Or.inl ⟨by kernel_rfl, ?_⟩) (by assumption) ?_
            rotate_left
            · (intro w hSw; (try dsimp only at hSw); go_simp; (try with_reducible rfl))
            try simp only [Act.put, kB0, kB1, kB2, kB3, kB4, kB5]
            refine wpAnyH_take (i := 3) (v := ?_) rfl (by kernel_rfl) (by kernel_rfl) (by kernel_rfl) (fun _ _ _ h => h) (Or.inl ⟨by kernel_rfl, ?_⟩) (by assumption) ?_
            rotate_left
            · (intro w hSw; (try dsimp only at hSw); go_simp; (try with_reducible rfl))
            try simp only [Act.put, kB0, kB1, kB2, kB3, kB4, kB5]
            refine wpAnyH_take (i := 4) (v := ?_) rfl (by kernel_rfl) (by kernel_rfl) (by kernel_rfl) (fun _ _ _ h => h) (Or.inl ⟨by kernel_rfl, ?_⟩) (by assumption) ?_
            rotate_left
            · (intro w hSw; (try dsimp only at hSw); go_simp; (try with_reducible rfl))
            try simp only [Act.put, kB0, kB1, kB2, kB3, kB4, kB5]
            refine wpAnyH_ready (rs := [5]) (by kernel_rfl) (by simp) ?_
            refine AllReadyH.cons rfl (fun K hK => ?_) AllReadyH.nil
            go_simp
            refine (unhide HC1 _).mono ?_
            rintro e wX ⟨rfl, bX⟩
            refine hK.out _ _ ?_ (fun hHeld => ?_)
            · exact unhide MK _ (hHeld.1.trans (bX.mono hHeld.1.size))
            clear hK K
            try simp only [Act.put, kB0, kB1, kB2, kB3, kB4, kB5]
            refine wpAnyH_take (i := 6) (v := ?_) rfl (by kernel_rfl) (by kernel_rfl) (by kernel_rfl) (fun _ _ _ h => h) (Or.inl ⟨by kernel_rfl, ?_⟩) (by assumption) ?_
            rotate_left
            · (intro w hSw; (try dsimp only at hSw); go_simp; (try with_reducible rfl))
            try simp only [Act.put, kB0, kB1, kB2, kB3, kB4, kB5]
            refine wpAnyH_take (i := 7) (v := ?_) rfl (by kernel_rfl) (by kernel_rfl) (by kernel_rfl) (fun _ _ _ h => h) (Or.inl ⟨by kernel_rfl, ?_⟩) (by assumption) ?_
            rotate_left
            · (intro w hSw; (try dsimp only at hSw); go_simp; (try with_reducible rfl))
            try simp only [Act.put, kB0, kB1, kB2, kB3, kB4, kB5]
            refine wpAnyH_take (i := 8) (v := ?_) rfl (by kernel_rfl) (by kernel_rfl) (by kernel_rfl) (fun _ _ _ h => h) (Or.inl ⟨by kernel_rfl, ?_⟩) (by assumption) ?_
            rotate_left
            · (intro w hSw; (try dsimp only at hSw); go_simp; (try with_reducible rfl))
            try simp only [Act.put, kB0, kB1, kB2, kB3, kB4, kB5]
            refine wpAnyH_take (i := 9) (v := ?_) rfl (by kernel_rfl) (by kernel_rfl) (by kernel_rfl) (fun _ _ _ h => h) (Or.inl ⟨by kernel_rfl, ?_⟩) (by assumption) ?_
            rotate_left
            · (intro w hSw; (try dsimp only at hSw); go_simp; (try with_reducible rfl))
            try simp only [Act.put, kB0, kB1, kB2, kB3, kB4, kB5]
            refine wpAnyH_take (i := 10) (v := ?_) rfl (by kernel_rfl) (by kernel_rfl) (by kernel_rfl) (fun _ _ _ h => h) (Or.inl ⟨by kernel_rfl, ?_⟩) (by assumption) ?_
            rotate_left
            · (intro w hSw; (try dsimp only at hSw); go_simp; (try with_reducible rfl))
            try simp only [Act.put, kB0, kB1, kB2, kB3, kB4, kB5]
            refine wpAnyH_take (i := 11) (v := ?_) rfl (by kernel_rfl) (by kernel_rfl) (by kernel_rfl) (fun _ _ _ h => h) (Or.inl ⟨by kernel_rfl, ?_⟩) (by assumption) ?_
            rotate_left
            · (intro w hSw; (try dsimp only at hSw); go_simp; (try with_reducible rfl))
            try simp only [Act.put, kB0, kB1, kB2, kB3, kB4, kB5]
            refine wpAnyH_take (i := 12) (v := ?_) rfl (by kernel_rfl) (by kernel_rfl) (by kernel_rfl) (fun _ _ _ h => h) (Or.inl ⟨by kernel_rfl, ?_⟩) (by assumption) ?_
            rotate_left
            · (intro w hSw; (try dsimp only at hSw); go_simp; (try with_reducible rfl))
            try simp only [Act.put, kB0, kB1, kB2, kB3, kB4, kB5]
            refine wpAnyH_take (i := 13) (v := ?_) rfl (by kernel_rfl) (by kernel_rfl) (by kernel_rfl) (fun _ _ _ h => h) (Or.inl ⟨by kernel_rfl, ?_⟩) (by assumption) ?_
            rotate_left
            · (intro w hSw; (try dsimp only at hSw); go_simp; (try with_reducible rfl))
            try simp only [Act.put, kB0, kB1, kB2, kB3, kB4, kB5]
            refine wpAnyH_take (i := 14) (v := ?_) rfl (by kernel_rfl) (by kernel_rfl) (by kernel_rfl) (fun _ _ _ h => h) (Or.inl ⟨by kernel_rfl, ?_⟩) (by assumption) ?_
            rotate_left
            · (intro w hSw; (try dsimp only at hSw); go_simp; (try with_reducible rfl))
            try simp only [Act.put, kB0, kB1, kB2, kB3, kB4, kB5]
            refine wpAnyH_take (i := 15) (v := ?_) rfl (by kernel_rfl) (by kernel_rfl) (by kernel_rfl) (fun _ _ _ h => h) (Or.inl ⟨by kernel_rfl, ?_⟩) (by assumption) ?_
            rotate_left
            · (intro w hSw; (try dsimp only at hSw); go_simp; (try with_reducible rfl))
            try simp only [Act.put, kB0, kB1, kB2, kB3, kB4, kB5]
            refine wpAnyH_take (i := 16) (v := ?_) rfl (by kernel_rfl) (by kernel_rfl) (by kernel_rfl) (fun _ _ _ h => h) (Or.inl ⟨by kernel_rfl, ?_⟩) (by assumption) ?_
            rotate_left
            · (intro w hSw; (try dsimp only at hSw); go_simp; (try with_reducible rfl))
            try simp only [Act.put, kB0, kB1, kB2, kB3, kB4, kB5]
            refine wpAnyH_take (i := 17) (v := ?_) rfl (by kernel_rfl) (by kernel_rfl) (by kernel_rfl) (fun _ _ _ h => h) (Or.inl ⟨by kernel_rfl, ?_⟩) (by assumption) ?_
            rotate_left
            · (intro w hSw; (try dsimp only at hSw); go_simp; (try with_reducible rfl))
            try simp only [Act.put, kB0, kB1, kB2, kB3, kB4, kB5]
            refine wpAnyH_take (i := 18) (v := ?_) rfl (by kernel_rfl) (by kernel_rfl) (by kernel_rfl) (fun _ _ _ h => h) (Or.inl ⟨by kernel_rfl, ?_⟩) (by assumption) ?_
            rotate_left
            · (intro w hSw; (try dsimp only at hSw); go_simp; (try with_reducible rfl))
            try simp only [Act.put, kB0, kB1, kB2, kB3, kB4, kB5]
            refine wpAnyH_take (i := 19) (v := ?_) rfl (by kernel_rfl) (by kernel_rfl) (by kernel_rfl) (fun _ _ _ h => h) (Or.inl ⟨by kernel_rfl, ?_⟩) (by assumption) ?_
            rotate_left
            · (intro w hSw; (try dsimp only at hSw); go_simp; (try with_reducible rfl))
            try simp only [Act.put, kB0, kB1, kB2, kB3, kB4, kB5]
            refine wpAnyH_take (i := 20) (v := ?_) rfl (by kernel_rfl) (by kernel_rfl) (by kernel_rfl) (fun _ _ _ h => h) (Or.inl ⟨by kernel_rfl, ?_⟩) (by assumption) ?_
            rotate_left
            · (intro w hSw; (try dsimp only at hSw); go_simp; (try with_reducible rfl))
            try simp only [Act.put, kB0, kB1, kB2, kB3, kB4, kB5]
            refine wpAnyH_take (i := 21) (v := ?_) rfl (by kernel_rfl) (by kernel_rfl) (by kernel_rfl) (fun _ _ _ h => h) (Or.inl ⟨by kernel_rfl, ?_⟩) (by assumption) ?_
            rotate_left
            · (intro w hSw; (try dsimp only at hSw); go_simp; (try with_reducible rfl))
            try simp only [Act.put, kB0, kB1, kB2, kB3, kB4, kB5]
            refine wpAnyH_take (i := 22) (v := ?_) rfl (by kernel_rfl) (by kernel_rfl) (by kernel_rfl) (fun _ _ _ h => h) (Or.inl ⟨by kernel_rfl, ?_⟩) (by assumption) ?_
            rotate_left
            · (intro w hSw; (try dsimp only at hSw); go_simp; (try with_reducible rfl))
            try simp only [Act.put, kB0, kB1, kB2, kB3, kB4, kB5]
            refine wpAnyH_take (i := 23) (v := ?_) rfl (by kernel_rfl) (by kernel_rfl) (by kernel_rfl) (fun _ _ _ h => h) (Or.inl ⟨by kernel_rfl, ?_⟩) (by assumption) ?_
            rotate_left
            · (intro w hSw; (try dsimp only at hSw); go_simp; (try with_reducible rfl))
            try simp only [Act.put, kB0, kB1, kB2, kB3, kB4, kB5]
            refine wpAnyH_take (i := 24) (v := ?_) rfl (by kernel_rfl) (by kernel_rfl) (by kernel_rfl) (fun _ _ _ h => h) (Or.inl ⟨by kernel_rfl, ?_⟩) (by assumption) ?_
            rotate_left
            · (intro w hSw; (try dsimp only at hSw); go_simp; (try with_reducible rfl))
            try simp only [Act.put, kB0, kB1, kB2, kB3, kB4, kB5]
            refine wpAnyH_take (i := 25) (v := ?_) rfl (by kernel_rfl) (by kernel_rfl) (by kernel_rfl) (fun _ _ _ h => h) (Or.inl ⟨by kernel_rfl, ?_⟩) (by assumption) ?_
            rotate_left
            · (intro w hSw; (try dsimp only at hSw); go_simp; (try with_reducible rfl))
            try simp only [Act.put, kB0, kB1, kB2, kB3, kB4, kB5]
            refine wpAnyH_take (i := 26) (v := ?_) rfl (by kernel_rfl) (by kernel_rfl) (by kernel_rfl) (fun _ _ _ h => h) (Or.inl ⟨by kernel_rfl, ?_⟩) (by assumption) ?_
            rotate_left
            · (intro w hSw; (try dsimp only at hSw); go_simp; (try with_reducible rfl))
            try simp only [Act.put, kB0, kB1, kB2, kB3, kB4, kB5]
            refine wpAnyH_ready (rs := [27]) (by kernel_rfl) (by simp) ?_
            refine AllReadyH.cons rfl (fun K hK => ?_) AllReadyH.nil
            go_simp
            refine (unhide HC2 _ hHeld.1).mono ?_
            rintro e wX ⟨rfl, bX⟩
            refine hK.out _ _ ?_ (fun hHeld => ?_)
            · exact unhide MK _ (hHeld.1.trans (bX.mono hHeld.1.size))
            clear hK K
            try simp only [Act.put, kB0, kB1, kB2, kB3, kB4, kB5]
            refine wpAnyH_take (i := 28) (v := ?_) rfl (by kernel_rfl) (by kernel_rfl) (by kernel_rfl) (fun _ _ _ h => h) (Or.inl ⟨by kernel_rfl, ?_⟩) (by assumption) ?_
            rotate_left
            · (intro w hSw; (try dsimp only at hSw); go_simp; (try with_reducible rfl))
            try simp only [Act.put, kB0, kB1, kB2, kB3, kB4, kB5]
            refine wpAnyH_take (i := 29) (v := ?_) rfl (by kernel_rfl) (by kernel_rfl) (by kernel_rfl) (fun _ _ _ h => h) (Or.inl ⟨by kernel_rfl, ?_⟩) (by assumption) ?_
            rotate_left
            · (intro w hSw; (try dsimp only at hSw); go_simp; (try with_reducible rfl))
            try simp only [Act.put, kB0, kB1, kB2, kB3, kB4, kB5]
            refine wpAnyH_take (i := 30) (v := ?_) rfl (by kernel_rfl) (by kernel_rfl) (by kernel_rfl) (fun _ _ _ h => h) (Or.inl ⟨by kernel_rfl, ?_⟩) (by assumption) ?_
            rotate_left
            · (intro w hSw; (try dsimp only at hSw); go_simp; (try with_reducible rfl))
            try simp only [Act.put, kB0, kB1, kB2, kB3, kB4, kB5]
            refine wpAnyH_take (i := 31) (v := undef) rfl (by kernel_rfl) (by kernel_rfl) (by kernel_rfl) (fun _ _ _ h => h) (Or.inr ⟨by kernel_rfl, rfl⟩) (by assumption) ?_
            try simp only [Act.put, kB0, kB1, kB2, kB3, kB4, kB5]
            refine wpAnyH_take (i := 32) (v := undef) rfl (by kernel_rfl) (by kernel_rfl) (by kernel_rfl) (fun _ _ _ h => h) (Or.inr ⟨by kernel_rfl, rfl⟩) (by assumption) ?_
            try simp only [Act.put, kB0, kB1, kB2, kB3, kB4, kB5]
            refine wpAnyH_take (i := 33) (v := undef) rfl (by kernel_rfl) (by kernel_rfl) (by kernel_rfl) (fun _ _ _ h => h) (Or.inr ⟨by kernel_rfl, rfl⟩) (by assumption) ?_
            try simp only [Act.put, kB0, kB1, kB2, kB3, kB4, kB5]
            refine wpAnyH_take (i := 34) (v := undef) rfl (by kernel_rfl) (by kernel_rfl) (by kernel_rfl) (fun _ _ _ h => h) (Or.inr ⟨by kernel_rfl, rfl⟩) (by assumption) ?_
            try simp only [Act.put, kB0, kB1, kB2, kB3, kB4, kB5]
            refine wpAnyH_take (i := 35) (v := ?_) rfl (by kernel_rfl) (by kernel_rfl) (by kernel_rfl) (fun _ _ _ h => h) (Or.inl ⟨by kernel_rfl, ?_⟩) (by assumption) ?_
            rotate_left
            · (intro w hSw; (try dsimp only at hSw); go_simp; (try with_reducible rfl))
            try simp only [Act.put, kB0, kB1, kB2, kB3, kB4, kB5]
            refine wpAnyH_done (by kernel_rfl) ?_ _
            have bb := hbel2.trans (hHeld.1.mono hbel2.size)
            have VV := hide ((unhide V2).call hHeld.1)
            clear hHeld MK hbel2 V2
            go_wp2
            go_ret
            exact ⟨by rw [unhide HE0]; rfl, bb⟩
          · have hR2 : decide (R < 0) = false := by simpa using hR
            cases c4
            · have HE0 : Hid (RB = false) := hide (unhide HNO (by rw [unhide HSTEP]; simp))
              have MK : Hid (∀ W', Below wZ.heap.size wZ W' → (Below wZ.heap.size wZ W' ∧ W'.cell? ⟨X, 0, none⟩ = some (.int .i64 t.d) ∧ W'.cell? ⟨X, 1, none⟩ = some (.int .i64 t.i) ∧ W'.cell? ⟨X, 2, none⟩ = some (.string t.p) ∧ W'.cell? ⟨w.heap.size, 0, none⟩ = some (.slice ia N.length ic) ∧ W'.cell? ⟨w.heap.size, 1, none⟩ = some (.slice ma M.length mc) ∧ W'.cell? ⟨w.heap.size, 2, none⟩ = some (.slice (some ⟨g, o, none⟩) H.length hc) ∧ W'.cell? ⟨w.heap.size, 3, none⟩ = some (.int .i64 next) ∧ W'.cell? ⟨g, o + k' * 3, none⟩ = some (.int .i64 p.d))) := fun W' hb => ⟨hb, (hb.cell (p := ⟨_, _, none⟩) (unhide hXl)).trans x0, (hb.cell (p := ⟨_, _, none⟩) (unhide hXl)).trans x1, (hb.cell (p := ⟨_, _, none⟩) (unhide hXl)).trans x2, (hb.cell (p := ⟨_, _, none⟩) (unhide VZ)).trans w0, (hb.cell (p := ⟨_, _, none⟩) (unhide VZ)).trans w1, (hb.cell (p := ⟨_, _, none⟩) (unhide VZ)).trans w2, (hb.cell (p := ⟨_, _, none⟩) (unhide VZ)).trans w3, (hb.cell (p := ⟨_, _, none⟩) (unhide hgl)).trans pp⟩
              go_wp2_with fail
              refine wp_region_held_drew (S := fun W' => Below wZ.heap.size wZ W' ∧ W'.cell? ⟨X, 0, none⟩ = some (.int .i64 t.d) ∧ W'.cell? ⟨X, 1, none⟩ = some (.int .i64 t.i) ∧ W'.cell? ⟨X, 2, none⟩ = some (.string t.p) ∧ W'.cell? ⟨w.heap.size, 0, none⟩ = some (.slice ia N.length ic) ∧ W'.cell? ⟨w.heap.size, 1, none⟩ = some (.slice ma M.length mc) ∧ W'.cell? ⟨w.heap.size, 2, none⟩ = some (.slice (some ⟨g, o, none⟩) H.length hc) ∧ W'.cell? ⟨w.heap.size, 3, none⟩ = some (.int .i64 next) ∧ W'.cell? ⟨g, o + k' * 3, none⟩ = some (.int .i64 p.d)) (by kernel_rfl) ?_ (fun hHeld => ?_)
              · exact unhide MK _ ((Below.refl _ _).trans ⟨rfl, rfl, rfl, Nat.le_refl _, fun _ _ => rfl⟩)
              refine wpAnyH_take (i := 0) (v := ?_) rfl (by kernel_rfl) (by kernel_rfl) (by kernel_rfl) (fun _ _ _ h => h) (Or.inl ⟨by kernel_rfl, ?_⟩) (by assumption) ?_
              rotate_left
              · (intro w hSw; (try dsimp only at hSw); go_simp; (try with_reducible rfl))
              try simp only [Act.put, kB0, kB1, kB2, kB3, kB4, kB5]
              refine wpAnyH_take (i := 1) (v := ?_) rfl (by kernel_rfl) (by kernel_rfl) (by kernel_rfl) (fun _ _ _ h => h) (Or.inl ⟨by kernel_rfl, ?_⟩) (by assumption) ?_
              rotate_left
              · (intro w hSw; (try dsimp only at hSw); go_simp; (try with_reducible rfl))
              try simp only [Act.put, kB0, kB1, kB2, kB3, kB4, kB5]
              refine wpAnyH_take (i := 2) (v := ?_) rfl (by kernel_rfl) (by kernel_rfl) (by kernel_rfl) (fun _ _ _ h => h) (Or.inl ⟨by kernel_rfl, ?_⟩) (by assumption) ?_
              rotate_left
              · (intro w hSw; (try dsimp only at hSw); go_simp; (try with_reducible rfl))
              try simp only [Act.put, kB0, kB1, kB2, kB3, kB4, kB5]
              refine wpAnyH_take (i := 3) (v := ?_) rfl (by kernel_rfl) (by kernel_rfl) (by kernel_rfl) (fun _ _ _ h => h) (Or.inl ⟨by kernel_rfl, ?_⟩) (by assumption) ?_
              rotate_left
              · (intro w hSw; (try dsimp only at hSw); go_simp; (try with_reducible rfl))
              try simp only [Act.put, kB0, kB1, kB2, kB3, kB4, kB5]
              refine wpAnyH_take (i := 4) (v := ?_) rfl (by kernel_rfl) (by kernel_rfl) (by kernel_rfl) (fun _ _ _ h => h) (Or.inl ⟨by kernel_rfl, ?_⟩) (by assumption) ?_
              rotate_left
              · (intro w hSw; (try dsimp only at hSw); go_simp; (try with_reducible rfl))
              try simp only [Act.put, kB0, kB1, kB2, kB3, kB4, kB5]
              refine wpAnyH_ready (rs := [5]) (by kernel_rfl) (by simp) ?_
              refine AllReadyH.cons rfl (fun K hK => ?_) AllReadyH.nil
              go_simp
              refine (unhide HC1 _).mono ?_
              rintro e wX ⟨rfl, bX⟩
              refine hK.out _ _ ?_ (fun hHeld => ?_)
              · exact unhide MK _ (hHeld.1.trans (bX.mono hHeld.1.size))
              clear hK K
              try simp only [Act.put, kB0, kB1, kB2, kB3, kB4, kB5]
              refine wpAnyH_take (i := 6) (v := ?_) rfl (by kernel_rfl) (by kernel_rfl) (by kernel_rfl) (fun _ _ _ h => h) (Or.inl ⟨by kernel_rfl, ?_⟩) (by assumption) ?_
              rotate_left
              · (intro w hSw; (try dsimp only at hSw); go_simp; (try with_reducible rfl))
              try simp only [Act.put, kB0, kB1, kB2, kB3, kB4, kB5]
              refine wpAnyH_take (i := 7) (v := ?_) rfl (by kernel_rfl) (by kernel_rfl) (by kernel_rfl) (fun _ _ _ h => h) (Or.inl ⟨by kernel_rfl, ?_⟩) (by assumption) ?_
              rotate_left
              · (intro w hSw; (try dsimp only at hSw); go_simp; (try with_reducible rfl))
              try simp only [Act.put, kB0, kB1, kB2, kB3, kB4, kB5]
              refine wpAnyH_take (i := 8) (v := ?_) rfl (by kernel_rfl) (by kernel_rfl) (by kernel_rfl) (fun _ _ _ h => h) (Or.inl ⟨by kernel_rfl, ?_⟩) (by assumption) ?_
              rotate_left
              · (intro w hSw; (try dsimp only at hSw); go_simp; (try with_reducible rfl))
              try simp only [Act.put, kB0, kB1, kB2, kB3, kB4, kB5]
              refine wpAnyH_take (i := 9) (v := ?_) rfl (by kernel_rfl) (by kernel_rfl) (by kernel_rfl) (fun _ _ _ h => h) (Or.inl ⟨by kernel_rfl, ?_⟩) (by assumption) ?_
              rotate_left
              · (intro w hSw; (try dsimp only at hSw); go_simp; (try with_reducible rfl))
              try simp only [Act.put, kB0, kB1, kB2, kB3, kB4, kB5]
              refine wpAnyH_take (i := 10) (v := ?_) rfl (by kernel_rfl) (by kernel_rfl) (by kernel_rfl) (fun _ _ _ h => h) (Or.inl ⟨by kernel_rfl, ?_⟩) (by assumption) ?_
              rotate_left
              · (intro w hSw; (try dsimp only at hSw); go_simp; (try with_reducible rfl))
              try simp only [Act.put, kB0, kB1, kB2, kB3, kB4, kB5]
              refine wpAnyH_take (i := 11) (v := ?_) rfl (by kernel_rfl) (by kernel_rfl) (by kernel_rfl) (fun _ _ _ h => h) (Or.inl ⟨by kernel_rfl, ?_⟩) (by assumption) ?_
              rotate_left
              · (intro w hSw; (try dsimp only at hSw); go_simp; (try with_reducible rfl))
              try simp only [Act.put, kB0, kB1, kB2, kB3, kB4, kB5]
              refine wpAnyH_take (i := 12) (v := ?_) rfl (by kernel_rfl) (by kernel_rfl) (by kernel_rfl) (fun _ _ _ h => h) (Or.inl ⟨by kernel_rfl, ?_⟩) (by assumption) ?_
              rotate_left
              · (intro w hSw; (try dsimp only at hSw); go_simp; (try with_reducible rfl))
              try simp only [Act.put, kB0, kB1, kB2, kB3, kB4, kB5]
              refine wpAnyH_take (i := 13) (v := ?_) rfl (by kernel_rfl) (by kernel_rfl) (by kernel_rfl) (fun _ _ _ h => h) (Or.inl ⟨by kernel_rfl, ?_⟩) (by assumption) ?_
              rotate_left
              · (intro w hSw; (try dsimp only at hSw); go_simp; (try with_reducible rfl))
              try simp only [Act.put, kB0, kB1, kB2, kB3, kB4, kB5]
              refine wpAnyH_take (i := 14) (v := ?_) rfl (by kernel_rfl) (by kernel_rfl) (by kernel_rfl) (fun _ _ _ h => h) (Or.inl ⟨by kernel_rfl, ?_⟩) (by assumption) ?_
              rotate_left
              · (intro w hSw; (try dsimp only at hSw); go_simp; (try with_reducible rfl))
              try simp only [Act.put, kB0, kB1, kB2, kB3, kB4, kB5]
              refine wpAnyH_take (i := 15) (v := ?_) rfl (by kernel_rfl) (by kernel_rfl) (by kernel_rfl) (fun _ _ _ h => h) (Or.inl ⟨by kernel_rfl, ?_⟩) (by assumption) ?_
              rotate_left
              · (intro w hSw; (try dsimp only at hSw); go_simp; (try with_reducible rfl))
              try simp only [Act.put, kB0, kB1, kB2, kB3, kB4, kB5]
              refine wpAnyH_take (i := 16) (v := ?_) rfl (by kernel_rfl) (by kernel_rfl) (by kernel_rfl) (fun _ _ _ h => h) (Or.inl ⟨by kernel_rfl, ?_⟩) (by assumption) ?_
              rotate_left
              · (intro w hSw; (try dsimp only at hSw); go_simp; (try with_reducible rfl))
              try simp only [Act.put, kB0, kB1, kB2, kB3, kB4, kB5]
              refine wpAnyH_take (i := 17) (v := ?_) rfl (by kernel_rfl) (by kernel_rfl) (by kernel_rfl) (fun _ _ _ h => h) (Or.inl ⟨by kernel_rfl, ?_⟩) (by assumption) ?_
              rotate_left
              · (intro w hSw; (try dsimp only at hSw); go_simp; (try with_reducible rfl))
              try simp only [Act.put, kB0, kB1, kB2, kB3, kB4, kB5]
              refine wpAnyH_take (i := 18) (v := ?_) rfl (by kernel_rfl) (by kernel_rfl) (by kernel_rfl) (fun _ _ _ h => h) (Or.inl ⟨by kernel_rfl, ?_⟩) (by assumption) ?_
              rotate_left
              · (intro w hSw; (try dsimp only at hSw); go_simp; (try with_reducible rfl))
              try simp only [Act.put, kB0, kB1, kB2, kB3, kB4, kB5]
              refine wpAnyH_take (i := 19) (v := ?_) rfl (by kernel_rfl) (by kernel_rfl) (by kernel_rfl) (fun _ _ _ h => h) (Or.inl ⟨by kernel_rfl, ?_⟩) (by assumption) ?_
              rotate_left
              · (intro w hSw; (try dsimp only at hSw); go_simp; (try with_reducible rfl))
              try simp only [Act.put, kB0, kB1, kB2, kB3, kB4, kB5]
              refine wpAnyH_take (i := 20) (v := ?_) rfl (by kernel_rfl) (by kernel_rfl) (by kernel_rfl) (fun _ _ _ h => h) (Or.inl ⟨by kernel_rfl, ?_⟩) (by assumption) ?_
              rotate_left
              · (intro w hSw; (try dsimp only at hSw); go_simp; (try with_reducible rfl))
              try simp only [Act.put, kB0, kB1, kB2, kB3, kB4, kB5]
              refine wpAnyH_take (i := 21) (v := ?_) rfl (by kernel_rfl) (by kernel_rfl) (by kernel_rfl) (fun _ _ _ h => h) (Or.inl ⟨by kernel_rfl, ?_⟩) (by assumption) ?_
              rotate_left
              · (intro w hSw; (try dsimp only at hSw); go_simp; (try with_reducible rfl))
              try simp only [Act.put, kB0, kB1, kB2, kB3, kB4, kB5]
              refine wpAnyH_take (i := 22) (v := ?_) rfl (by kernel_rfl) (by kernel_rfl) (by kernel_rfl) (fun _ _ _ h => h) (Or.inl ⟨by kernel_rfl, ?_⟩) (by assumption) ?_
              rotate_left
              · (intro w hSw; (try dsimp only at hSw); go_simp; (try with_reducible rfl))
              try simp only [Act.put, kB0, kB1, kB2, kB3, kB4, kB5]
              refine wpAnyH_take (i := 23) (v := ?_) rfl (by kernel_rfl) (by kernel_rfl) (by kernel_rfl) (fun _ _ _ h => h) (Or.inl ⟨by kernel_rfl, ?_⟩) (by assumption) ?_
              rotate_left
              · (intro w hSw; (try dsimp only at hSw); go_simp; (try with_reducible rfl))
              try simp only [Act.put, kB0, kB1, kB2, kB3, kB4, kB5]
              refine wpAnyH_take (i := 24) (v := ?_) rfl (by kernel_rfl) (by kernel_rfl) (by kernel_rfl) (fun _ _ _ h => h) (Or.inl ⟨by kernel_rfl, ?_⟩) (by assumption) ?_
              rotate_left
              · (intro w hSw; (try dsimp only at hSw); go_simp; (try with_reducible rfl))
              try simp only [Act.put, kB0, kB1, kB2, kB3, kB4, kB5]
              refine wpAnyH_take (i := 25) (v := ?_) rfl (by kernel_rfl) (by kernel_rfl) (by kernel_rfl) (fun _ _ _ h => h) (Or.inl ⟨by kernel_rfl, ?_⟩) (by assumption) ?_
              rotate_left
              · (intro w hSw; (try dsimp only at hSw); go_simp; (try with_reducible rfl))
              try simp only [Act.put, kB0, kB1, kB2, kB3, kB4, kB5]
              refine wpAnyH_take (i := 26) (v := ?_) rfl (by kernel_rfl) (by kernel_rfl) (by kernel_rfl) (fun _ _ _ h => h) (Or.inl ⟨by kernel_rfl, ?_⟩) (by assumption) ?_
              rotate_left
              · (intro w hSw; (try dsimp only at hSw); go_simp; (try with_reducible rfl))
              try simp only [Act.put, kB0, kB1, kB2, kB3, kB4, kB5]
              refine wpAnyH_ready (rs := [27]) (by kernel_rfl) (by simp) ?_
              refine AllReadyH.cons rfl (fun K hK => ?_) AllReadyH.nil
              go_simp
              refine (unhide HC2 _ hHeld.1).mono ?_
              rintro e wX ⟨rfl, bX⟩
              refine hK.out _ _ ?_ (fun hHeld => ?_)
              · exact unhide MK _ (hHeld.1.trans (bX.mono hHeld.1.size))
              clear hK K
              try simp only [Act.put, kB0, kB1, kB2, kB3, kB4, kB5]
              refine wpAnyH_take (i := 28) (v := ?_) rfl (by kernel_rfl) (by kernel_rfl) (by kernel_rfl) (fun _ _ _ h => h) (Or.inl ⟨by kernel_rfl, ?_⟩) (by assumption) ?_
              rotate_left
              · (intro w hSw; (try dsimp only at hSw); go_simp; (try with_reducible rfl))
              try simp only [Act.put, kB0, kB1, kB2, kB3, kB4, kB5]
              refine wpAnyH_take (i := 29) (v := ?_) rfl (by kernel_rfl) (by kernel_rfl) (by kernel_rfl) (fun _ _ _ h => h) (Or.inl ⟨by kernel_rfl, ?_⟩) (by assumption) ?_
              rotate_left
              · (intro w hSw; (try dsimp only at hSw); go_simp; (try with_reducible rfl))
              try simp only [Act.put, kB0, kB1, kB2, kB3, kB4, kB5]
              refine wpAnyH_take (i := 30) (v := ?_) rfl (by kernel_rfl) (by kernel_rfl) (by kernel_rfl) (fun _ _ _ h => h) (Or.inl ⟨by kernel_rfl, ?_⟩) (by assumption) ?_
              rotate_left
              · (intro w hSw; (try dsimp only at hSw); go_simp; (try with_reducible rfl))
              try simp only [Act.put, kB0, kB1, kB2, kB3, kB4, kB5]
              refine wpAnyH_take (i := 31) (v := ?_) rfl (by kernel_rfl) (by kernel_rfl) (by kernel_rfl) (fun _ _ _ h => h) (Or.inl ⟨by kernel_rfl, ?_⟩) (by assumption) ?_
              rotate_left
              · (intro w hSw; (try dsimp only at hSw); go_simp; (try with_reducible rfl))
              try simp only [Act.put, kB0, kB1, kB2, kB3, kB4, kB5]
              refine wpAnyH_take (i := 32) (v := ?_) rfl (by kernel_rfl) (by kernel_rfl) (by kernel_rfl) (fun _ _ _ h => h) (Or.inl ⟨by kernel_rfl, ?_⟩) (by assumption) ?_
              rotate_left
              · (intro w hSw; (try dsimp only at hSw); go_simp; (try with_reducible rfl))
              try simp only [Act.put, kB0, kB1, kB2, kB3, kB4, kB5]
              refine wpAnyH_ready (rs := [33]) (by kernel_rfl) (by simp) ?_
              refine AllReadyH.cons rfl (fun K hK => ?_) AllReadyH.nil
              go_simp
              refine (unhide HC3 _).mono ?_
              rintro e wX ⟨rfl, bX⟩
              refine hK.out _ _ ?_ (fun hHeld => ?_)
              · exact unhide MK _ (hHeld.1.trans (bX.mono hHeld.1.size))
              clear hK K
              try simp only [Act.put, kB0, kB1, kB2, kB3, kB4, kB5]
              refine wpAnyH_take (i := 34) (v := ?_) rfl (by kernel_rfl) (by kernel_rfl) (by kernel_rfl) (fun _ _ _ h => h) (Or.inl ⟨by kernel_rfl, ?_⟩) (by assumption) ?_
              rotate_left
              · (intro w hSw; (try dsimp only at hSw); go_simp; (try with_reducible rfl))
              try simp only [Act.put, kB0, kB1, kB2, kB3, kB4, kB5]
              refine wpAnyH_take (i := 35) (v := ?_) rfl (by kernel_rfl) (by kernel_rfl) (by kernel_rfl) (fun _ _ _ h => h) (Or.inl ⟨by kernel_rfl, ?_⟩) (by assumption) ?_
              rotate_left
              · (intro w hSw; (try dsimp only at hSw); go_simp; (try with_reducible rfl))
              try simp only [Act.put, kB0, kB1, kB2, kB3, kB4, kB5]
              refine wpAnyH_done (by kernel_rfl) ?_ _
              have bb := hbel2.trans (hHeld.1.mono hbel2.size)
              have VV := hide ((unhide V2).call hHeld.1)
              clear hHeld MK hbel2 V2
              go_wp2
              go_ret
              exact ⟨by rw [unhide HE0]; rfl, bb⟩
            · have HA2 : Hid (∀ j, j < k + 1 → Pl.stepH ids next Pl.wayB H j = true) := fun j hj => by
                rcases Nat.lt_succ_iff_lt_or_eq.1 hj with h | h
                · exact unhide HA j h
                · rw [h, unhide HSTEP]; simp [hR2, hp2]
              have MK : Hid (∀ W', Below wZ.heap.size wZ W' → (Below wZ.heap.size wZ W' ∧ W'.cell? ⟨X, 0, none⟩ = some (.int .i64 t.d) ∧ W'.cell? ⟨X, 1, none⟩ = some (.int .i64 t.i) ∧ W'.cell? ⟨X, 2, none⟩ = some (.string t.p) ∧ W'.cell? ⟨w.heap.size, 0, none⟩ = some (.slice ia N.length ic) ∧ W'.cell? ⟨w.heap.size, 1, none⟩ = some (.slice ma M.length mc) ∧ W'.cell? ⟨w.heap.size, 2, none⟩ = some (.slice (some ⟨g, o, none⟩) H.length hc) ∧ W'.cell? ⟨w.heap.size, 3, none⟩ = some (.int .i64 next) ∧ W'.cell? ⟨g, o + k' * 3, none⟩ = some (.int .i64 p.d))) := fun W' hb => ⟨hb, (hb.cell (p := ⟨_, _, none⟩) (unhide hXl)).trans x0, (hb.cell (p := ⟨_, _, none⟩) (unhide hXl)).trans x1, (hb.cell (p := ⟨_, _, none⟩) (unhide hXl)).trans x2, (hb.cell (p := ⟨_, _, none⟩) (unhide VZ)).trans w0, (hb.cell (p := ⟨_, _, none⟩) (unhide VZ)).trans w1, (hb.cell (p := ⟨_, _, none⟩) (unhide VZ)).trans w2, (hb.cell (p := ⟨_, _, none⟩) (unhide VZ)).trans w3, (hb.cell (p := ⟨_, _, none⟩) (unhide hgl)).trans pp⟩
              go_wp2_with fail
              refine wp_region_held_drew (S := fun W' => Below wZ.heap.size wZ W' ∧ W'.cell? ⟨X, 0, none⟩ = some (.int .i64 t.d) ∧ W'.cell? ⟨X, 1, none⟩ = some (.int .i64 t.i) ∧ W'.cell? ⟨X, 2, none⟩ = some (.string t.p) ∧ W'.cell? ⟨w.heap.size, 0, none⟩ = some (.slice ia N.length ic) ∧ W'.cell? ⟨w.heap.size, 1, none⟩ = some (.slice ma M.length mc) ∧ W'.cell? ⟨w.heap.size, 2, none⟩ = some (.slice (some ⟨g, o, none⟩) H.length hc) ∧ W'.cell? ⟨w.heap.size, 3, none⟩ = some (.int .i64 next) ∧ W'.cell? ⟨g, o + k' * 3, none⟩ = some (.int .i64 p.d)) (by kernel_rfl) ?_ (fun hHeld => ?_)
              · exact unhide MK _ ((Below.refl _ _).trans ⟨rfl, rfl, rfl, Nat.le_refl _, fun _ _ => rfl⟩)
              refine wpAnyH_take (i := 0) (v := ?_) rfl (by kernel_rfl) (by kernel_rfl) (by kernel_rfl) (fun _ _ _ h => h) (Or.inl ⟨by kernel_rfl, ?_⟩) (by assumption) ?_
              rotate_left
              · (intro w hSw; (try dsimp only at hSw); go_simp; (try with_reducible rfl))
              try simp only [Act.put, kB0, kB1, kB2, kB3, kB4, kB5]
              refine wpAnyH_take (i := 1) (v := ?_) rfl (by kernel_rfl) (by kernel_rfl) (by kernel_rfl) (fun _ _ _ h => h) (Or.inl ⟨by kernel_rfl, ?_⟩) (by assumption) ?_
              rotate_left
              · (intro w hSw; (try dsimp only at hSw); go_simp; (try with_reducible rfl))
              try simp only [Act.put, kB0, kB1, kB2, kB3, kB4, kB5]
              refine wpAnyH_take (i := 2) (v := ?_) rfl (by kernel_rfl) (by kernel_rfl) (by kernel_rfl) (fun _ _ _ h => h) (Or.inl ⟨by kernel_rfl, ?_⟩) (by assumption) ?_
              rotate_left
              · (intro w hSw; (try dsimp only at hSw); go_simp; (try with_reducible rfl))
              try simp only [Act.put, kB0, kB1, kB2, kB3, kB4, kB5]
              refine wpAnyH_take (i := 3) (v := ?_) rfl (by kernel_rfl) (by kernel_rfl) (by kernel_rfl) (fun _ _ _ h => h) (Or.inl ⟨by kernel_rfl, ?_⟩) (by assumption) ?_
              rotate_left
              · (intro w hSw; (try dsimp only at hSw); go_simp; (try with_reducible rfl))
              try simp only [Act.put, kB0, kB1, kB2, kB3, kB4, kB5]
              refine wpAnyH_take (i := 4) (v := ?_) rfl (by kernel_rfl) (by kernel_rfl) (by kernel_rfl) (fun _ _ _ h => h) (Or.inl ⟨by kernel_rfl, ?_⟩) (by assumption) ?_
              rotate_left
              · (intro w hSw; (try dsimp only at hSw); go_simp; (try with_reducible rfl))
              try simp only [Act.put, kB0, kB1, kB2, kB3, kB4, kB5]
              refine wpAnyH_ready (rs := [5]) (by kernel_rfl) (by simp) ?_
              refine AllReadyH.cons rfl (fun K hK => ?_) AllReadyH.nil
              go_simp
              refine (unhide HC1 _).mono ?_
              rintro e wX ⟨rfl, bX⟩
              refine hK.out _ _ ?_ (fun hHeld => ?_)
              · exact unhide MK _ (hHeld.1.trans (bX.mono hHeld.1.size))
              clear hK K
              try simp only [Act.put, kB0, kB1, kB2, kB3, kB4, kB5]
              refine wpAnyH_take (i := 6) (v := ?_) rfl (by kernel_rfl) (by kernel_rfl) (by kernel_rfl) (fun _ _ _ h => h) (Or.inl ⟨by kernel_rfl, ?_⟩) (by assumption) ?_
              rotate_left
              · (intro w hSw; (try dsimp only at hSw); go_simp; (try with_reducible rfl))
              try simp only [Act.put, kB0, kB1, kB2, kB3, kB4, kB5]
              refine wpAnyH_take (i := 7) (v := ?_) rfl (by kernel_rfl) (by kernel_rfl) (by kernel_rfl) (fun _ _ _ h => h) (Or.inl ⟨by kernel_rfl, ?_⟩) (by assumption) ?_
              rotate_left
              · (intro w hSw; (try dsimp only at hSw); go_simp; (try with_reducible rfl))
              try simp only [Act.put, kB0, kB1, kB2, kB3, kB4, kB5]
              refine wpAnyH_take (i := 8) (v := ?_) rfl (by kernel_rfl) (by kernel_rfl) (by kernel_rfl) (fun _ _ _ h => h) (Or.inl ⟨by kernel_rfl, ?_⟩) (by assumption) ?_
              rotate_left
              · (intro w hSw; (try dsimp only at hSw); go_simp; (try with_reducible rfl))
              try simp only [Act.put, kB0, kB1, kB2, kB3, kB4, kB5]
              refine wpAnyH_take (i := 9) (v := ?_) rfl (by kernel_rfl) (by kernel_rfl) (by kernel_rfl) (fun _ _ _ h => h) (Or.inl ⟨by kernel_rfl, ?_⟩) (by assumption) ?_
              rotate_left
              · (intro w hSw; (try dsimp only at hSw); go_simp; (try with_reducible rfl))
              try simp only [Act.put, kB0, kB1, kB2, kB3, kB4, kB5]
              refine wpAnyH_take (i := 10) (v := ?_) rfl (by kernel_rfl) (by kernel_rfl) (by kernel_rfl) (fun _ _ _ h => h) (Or.inl ⟨by kernel_rfl, ?_⟩) (by assumption) ?_
              rotate_left
              · (intro w hSw; (try dsimp only at hSw); go_simp; (try with_reducible rfl))
              try simp only [Act.put, kB0, kB1, kB2, kB3, kB4, kB5]
              refine wpAnyH_take (i := 11) (v := ?_) rfl (by kernel_rfl) (by kernel_rfl) (by kernel_rfl) (fun _ _ _ h => h) (Or.inl ⟨by kernel_rfl, ?_⟩) (by assumption) ?_
              rotate_left
              · (intro w hSw; (try dsimp only at hSw); go_simp; (try with_reducible rfl))
              try simp only [Act.put, kB0, kB1, kB2, kB3, kB4, kB5]
              refine wpAnyH_take (i := 12) (v := ?_) rfl (by kernel_rfl) (by kernel_rfl) (by kernel_rfl) (fun _ _ _ h => h) (Or.inl ⟨by kernel_rfl, ?_⟩) (by assumption) ?_
              rotate_left
              · (intro w hSw; (try dsimp only at hSw); go_simp; (try with_reducible rfl))
              try simp only [Act.put, kB0, kB1, kB2, kB3, kB4, kB5]
              refine wpAnyH_take (i := 13) (v := ?_) rfl (by kernel_rfl) (by kernel_rfl) (by kernel_rfl) (fun _ _ _ h => h) (Or.inl ⟨by kernel_rfl, ?_⟩) (by assumption) ?_
              rotate_left
              · (intro w hSw; (try dsimp only at hSw); go_simp; (try with_reducible rfl))
              try simp only [Act.put, kB0, kB1, kB2, kB3, kB4, kB5]
              refine wpAnyH_take (i := 14) (v := ?_) rfl (by kernel_rfl) (by kernel_rfl) (by kernel_rfl) (fun _ _ _ h => h) (Or.inl ⟨by kernel_rfl, ?_⟩) (by assumption) ?_
              rotate_left
              · (intro w hSw; (try dsimp only at hSw); go_simp; (try with_reducible rfl))
              try simp only [Act.put, kB0, kB1, kB2, kB3, kB4, kB5]
              refine wpAnyH_take (i := 15) (v := ?_) rfl (by kernel_rfl) (by kernel_rfl) (by kernel_rfl) (fun _ _ _ h => h) (Or.inl ⟨by kernel_rfl, ?_⟩) (by assumption) ?_
              rotate_left
              · (intro w hSw; (try dsimp only at hSw); go_simp; (try with_reducible rfl))
              try simp only [Act.put, kB0, kB1, kB2, kB3, kB4, kB5]
              refine wpAnyH_take (i := 16) (v := ?_) rfl (by kernel_rfl) (by kernel_rfl) (by kernel_rfl) (fun _ _ _ h => h) (Or.inl ⟨by kernel_rfl, ?_⟩) (by assumption) ?_
              rotate_left
              · (intro w hSw; (try dsimp only at hSw); go_simp; (try with_reducible rfl))
              try simp only [Act.put, kB0, kB1, kB2, kB3, kB4, kB5]
              refine wpAnyH_take (i := 17) (v := ?_) rfl (by kernel_rfl) (by kernel_rfl) (by kernel_rfl) (fun _ _ _ h => h) (Or.inl ⟨by kernel_rfl, ?_⟩) (by assumption) ?_
              rotate_left
              · (intro w hSw; (try dsimp only at hSw); go_simp; (try with_reducible rfl))
              try simp only [Act.put, kB0, kB1, kB2, kB3, kB4, kB5]
              refine wpAnyH_take (i := 18) (v := ?_) rfl (by kernel_rfl) (by kernel_rfl) (by kernel_rfl) (fun _ _ _ h => h) (Or.inl ⟨by kernel_rfl, ?_⟩) (by assumption) ?_
              rotate_left
              · (intro w hSw; (try dsimp only at hSw); go_simp; (try with_reducible rfl))
              try simp only [Act.put, kB0, kB1, kB2, kB3, kB4, kB5]
              refine wpAnyH_take (i := 19) (v := ?_) rfl (by kernel_rfl) (by kernel_rfl) (by kernel_rfl) (fun _ _ _ h => h) (Or.inl ⟨by kernel_rfl, ?_⟩) (by assumption) ?_
              rotate_left
              · (intro w hSw; (try dsimp only at hSw); go_simp; (try with_reducible rfl))
              try simp only [Act.put, kB0, kB1, kB2, kB3, kB4, kB5]
              refine wpAnyH_take (i := 20) (v := ?_) rfl (by kernel_rfl) (by kernel_rfl) (by kernel_rfl) (fun _ _ _ h => h) (Or.inl ⟨by kernel_rfl, ?_⟩) (by assumption) ?_
              rotate_left
              · (intro w hSw; (try dsimp only at hSw); go_simp; (try with_reducible rfl))
              try simp only [Act.put, kB0, kB1, kB2, kB3, kB4, kB5]
              refine wpAnyH_take (i := 21) (v := ?_) rfl (by kernel_rfl) (by kernel_rfl) (by kernel_rfl) (fun _ _ _ h => h) (Or.inl ⟨by kernel_rfl, ?_⟩) (by assumption) ?_
              rotate_left
              · (intro w hSw; (try dsimp only at hSw); go_simp; (try with_reducible rfl))
              try simp only [Act.put, kB0, kB1, kB2, kB3, kB4, kB5]
              refine wpAnyH_take (i := 22) (v := ?_) rfl (by kernel_rfl) (by kernel_rfl) (by kernel_rfl) (fun _ _ _ h => h) (Or.inl ⟨by kernel_rfl, ?_⟩) (by assumption) ?_
              rotate_left
              · (intro w hSw; (try dsimp only at hSw); go_simp; (try with_reducible rfl))
              try simp only [Act.put, kB0, kB1, kB2, kB3, kB4, kB5]
              refine wpAnyH_take (i := 23) (v := ?_) rfl (by kernel_rfl) (by kernel_rfl) (by kernel_rfl) (fun _ _ _ h => h) (Or.inl ⟨by kernel_rfl, ?_⟩) (by assumption) ?_
              rotate_left
              · (intro w hSw; (try dsimp only at hSw); go_simp; (try with_reducible rfl))
              try simp only [Act.put, kB0, kB1, kB2, kB3, kB4, kB5]
              refine wpAnyH_take (i := 24) (v := ?_) rfl (by kernel_rfl) (by kernel_rfl) (by kernel_rfl) (fun _ _ _ h => h) (Or.inl ⟨by kernel_rfl, ?_⟩) (by assumption) ?_
              rotate_left
              · (intro w hSw; (try dsimp only at hSw); go_simp; (try with_reducible rfl))
              try simp only [Act.put, kB0, kB1, kB2, kB3, kB4, kB5]
              refine wpAnyH_take (i := 25) (v := ?_) rfl (by kernel_rfl) (by kernel_rfl) (by kernel_rfl) (fun _ _ _ h => h) (Or.inl ⟨by kernel_rfl, ?_⟩) (by assumption) ?_
              rotate_left
              · (intro w hSw; (try dsimp only at hSw); go_simp; (try with_reducible rfl))
              try simp only [Act.put, kB0, kB1, kB2, kB3, kB4, kB5]
              refine wpAnyH_take (i := 26) (v := ?_) rfl (by kernel_rfl) (by kernel_rfl) (by kernel_rfl) (fun _ _ _ h => h) (Or.inl ⟨by kernel_rfl, ?_⟩) (by assumption) ?_
              rotate_left
              · (intro w hSw; (try dsimp only at hSw); go_simp; (try with_reducible rfl))
              try simp only [Act.put, kB0, kB1, kB2, kB3, kB4, kB5]
              refine wpAnyH_ready (rs := [27]) (by kernel_rfl) (by simp) ?_
              refine AllReadyH.cons rfl (fun K hK => ?_) AllReadyH.nil
              go_simp
              refine (unhide HC2 _ hHeld.1).mono ?_
              rintro e wX ⟨rfl, bX⟩
              refine hK.out _ _ ?_ (fun hHeld => ?_)
              · exact unhide MK _ (hHeld.1.trans (bX.mono hHeld.1.size))
              clear hK K
              try simp only [Act.put, kB0, kB1, kB2, kB3, kB4, kB5]
              refine wpAnyH_take (i := 28) (v := ?_) rfl (by kernel_rfl) (by kernel_rfl) (by kernel_rfl) (fun _ _ _ h => h) (Or.inl ⟨by kernel_rfl, ?_⟩) (by assumption) ?_
              rotate_left
              · (intro w hSw; (try dsimp only at hSw); go_simp; (try with_reducible rfl))
              try simp only [Act.put, kB0, kB1, kB2, kB3, kB4, kB5]
              refine wpAnyH_take (i := 29) (v := ?_) rfl (by kernel_rfl) (by kernel_rfl) (by kernel_rfl) (fun _ _ _ h => h) (Or.inl ⟨by kernel_rfl, ?_⟩) (by assumption) ?_
              rotate_left
              · (intro w hSw; (try dsimp only at hSw); go_simp; (try with_reducible rfl))
              try simp only [Act.put, kB0, kB1, kB2, kB3, kB4, kB5]
              refine wpAnyH_take (i := 30) (v := ?_) rfl (by kernel_rfl) (by kernel_rfl) (by kernel_rfl) (fun _ _ _ h => h) (Or.inl ⟨by kernel_rfl, ?_⟩) (by assumption) ?_
              rotate_left
              · (intro w hSw; (try dsimp only at hSw); go_simp; (try with_reducible rfl))
              try simp only [Act.put, kB0, kB1, kB2, kB3, kB4, kB5]
              refine wpAnyH_take (i := 31) (v := ?_) rfl (by kernel_rfl) (by kernel_rfl) (by kernel_rfl) (fun _ _ _ h => h) (Or.inl ⟨by kernel_rfl, ?_⟩) (by assumption) ?_
              rotate_left
              · (intro w hSw; (try dsimp only at hSw); go_simp; (try with_reducible rfl))
              try simp only [Act.put, kB0, kB1, kB2, kB3, kB4, kB5]
              refine wpAnyH_take (i := 32) (v := ?_) rfl (by kernel_rfl) (by kernel_rfl) (by kernel_rfl) (fun _ _ _ h => h) (Or.inl ⟨by kernel_rfl, ?_⟩) (by assumption) ?_
              rotate_left
              · (intro w hSw; (try dsimp only at hSw); go_simp; (try with_reducible rfl))
              try simp only [Act.put, kB0, kB1, kB2, kB3, kB4, kB5]
              refine wpAnyH_ready (rs := [33]) (by kernel_rfl) (by simp) ?_
              refine AllReadyH.cons rfl (fun K hK => ?_) AllReadyH.nil
              go_simp
              refine (unhide HC3 _).mono ?_
              rintro e wX ⟨rfl, bX⟩
              refine hK.out _ _ ?_ (fun hHeld => ?_)
              · exact unhide MK _ (hHeld.1.trans (bX.mono hHeld.1.size))
              clear hK K
              try simp only [Act.put, kB0, kB1, kB2, kB3, kB4, kB5]
              refine wpAnyH_take (i := 34) (v := ?_) rfl (by kernel_rfl) (by kernel_rfl) (by kernel_rfl) (fun _ _ _ h => h) (Or.inl ⟨by kernel_rfl, ?_⟩) (by assumption) ?_
              rotate_left
              · (intro w hSw; (try dsimp only at hSw); go_simp; (try with_reducible rfl))
              try simp only [Act.put, kB0, kB1, kB2, kB3, kB4, kB5]
              refine wpAnyH_take (i := 35) (v := ?_) rfl (by kernel_rfl) (by kernel_rfl) (by kernel_rfl) (fun _ _ _ h => h) (Or.inl ⟨by kernel_rfl, ?_⟩) (by assumption) ?_
              rotate_left
              · (intro w hSw; (try dsimp only at hSw); go_simp; (try with_reducible rfl))
              try simp only [Act.put, kB0, kB1, kB2, kB3, kB4, kB5]
              refine wpAnyH_done (by kernel_rfl) ?_ _
              have bb := hbel2.trans (hHeld.1.mono hbel2.size)
              have VV := hide ((unhide V2).call hHeld.1)
              clear hHeld MK hbel2 V2
              go_wp2
              go_roundw
              case rel => exact ⟨k + 1, by omega, by go_num, bb, VV, HA2⟩
              case measure => simp [intOf]; omega
    · have u1 : ¬ (k : Int) < (H.length : Int) := by omega
      have HE : Hid (RB = true) := hide (by rw [unhide HR0]; exact Pl.all_yes (fun j hj => unhide HA j (by omega)))
      go_wp2
      go_ret
      exact ⟨by rw [unhide HE]; rfl, hbel⟩
end WSp
end Go.Proofs.YtlgbdbmikmbioaaDoor
