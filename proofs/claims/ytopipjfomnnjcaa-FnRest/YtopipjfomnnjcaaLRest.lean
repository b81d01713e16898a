/- The walk of the law FnRest, over the walks of the draws and of the functions. -/
import Derived.Test.YtopipjfomnnjcaaWDraws
import Derived.Test.YtopipjfomnnjcaaMemVar
import Derived.Test.YtopipjfomnnjcaaPlainLaw
import Derived.Test.YtopipjfomnnjcaaWFace
import Derived.Test.YtopipjfomnnjcaaWFaceB
import Derived.Test.YtopipjfomnnjcaaWFaceC
import Derived.Test.YtopipjfomnnjcaaWSpecC
namespace Go.Proofs.Ytopipjfomnnjcaa
open Go.RowKit
namespace fnRest
set_option maxRecDepth 100000 in
set_option maxHeartbeats 1000000 in
theorem walk (a0 : Option Addr) (len0 cap0 : Nat) (a1 : Option Addr) (len1 cap1 : Nat) (w : World) (w0 : WSrc.RowB w w.heap.size a0 len0 cap0) (w1 : WSrc.RowB w w.heap.size a1 len1 cap1) :
    Calls Try.prog 5 #[.slice a0 len0 cap0, .slice a1 len1 cap1] w fun e w' => e = .returned (.bool true) ∧ Below w.heap.size w w' := by
  by_cases g0 : 1048576 < len0
  · have t0 : (1048576 : Int) < (len0 : Int) := by omega
    clear w0 w1
    go_enter Try.func5, Try.ntmps5
    go_wp2
    go_ret
    exact ⟨rfl, Below.refl _ _⟩
  have t0 : ¬ (1048576 : Int) < (len0 : Int) := by omega
  by_cases g1 : 1048576 < len1
  · have t1 : (1048576 : Int) < (len1 : Int) := by omega
    clear w0 w1
    go_enter Try.func5, Try.ntmps5
    go_wp2
    go_ret
    exact ⟨rfl, Below.refl _ _⟩
  have t1 : ¬ (1048576 : Int) < (len1 : Int) := by omega
  have R0 := hide w0
  have R1 := hide w1
  clear w0 w1
  go_enter Try.func5, Try.ntmps5
  go_wp2_with fail
  refine (WSrc.drawRest_any a0 len0 cap0 w (unhide R0)).mono ?_
  rintro e w1 ⟨p, t, hp, ht, rfl, b1⟩
  have cX := hide (fun W => WPathI.rest_any p t W (by omega) (by omega))
  have cXS := hide (fun W => WPathS.restF_any p t W (by omega) (by omega))
  have cU := hide (fun W => WPathI.under_any p t W (by omega) (by omega))
  have HL := hide (@Pl.rest_law p t hp ht)
  have HO := hide (Pl.rest_ok hp ht)
  have HZ := hide (Pl.rest_size p t)
  obtain ⟨X, C, hE⟩ : ∃ X C, Pl.restO p t = (X, C) := ⟨_, _, rfl⟩
  rw [hE] at cX cXS HL HZ HO
  clear hE
  simp only [Pl.tOut] at cX cXS HL HZ HO
  have hX : X.size ≤ 1000 := unhide HZ
  have cB := hide (fun W => WPathI.both_any t X W (by omega) (by omega))
  generalize (Pl.pathB p && Pl.pathB t && Pl.underR (Pl.namesR p) (Pl.namesR t)) = rU at cU HO
  clear HZ R0
  go_wp2_with fail
  refine (unhide cX _).mono ?_
  rintro e w2 ⟨rfl, b2⟩
  have bel2 := b1.trans (b2.mono b1.size)
  have bel3 := bel2.alloc bel2.size (.cells #[.string X, .int .i64 0, .int .i64 C] 27)
  have vx := hide (Mem.var3_new w2 (.string X) (.int .i64 0) (.int .i64 C) 27)
  have hRM := hide (WSrc.row_below (unhide R1) bel3)
  go_wp2_with fail
  refine (WSrc.drawBoth_any a1 len1 cap1 _ (unhide hRM)).mono ?_
  rintro e w3 ⟨a, b, ha, hb, rfl, b3⟩
  have vx2 := hide (Mem.var3_call (unhide vx) b3)
  have bel4 := bel3.trans (b3.mono bel3.size)
  generalize w2.heap.size = B at vx2
  clear b1 b2 bel2 bel3 b3 vx hRM cX R1
  have cY := hide (fun W => WPathI.both_any a b W (by omega) (by omega))
  have cYS := hide (fun W => WPathS.bothF_any a b W (by omega) (by omega))
  have HL2 := hide (@Pl.both_law a b ha hb)
  have HZ := hide (Pl.both_size a b)
  obtain ⟨Y, D, hE⟩ : ∃ Y D, Pl.bothO a b = (Y, D) := ⟨_, _, rfl⟩
  rw [hE] at cY cYS HL2 HZ
  clear hE
  simp only [Pl.tOut] at cY cYS HL2 HZ
  have hY : Y.size ≤ 1000 := unhide HZ
  have cR := hide (fun W => WPathI.rest_any Y a W (by omega) (by omega))
  clear HZ
  go_wp2_with fail
  refine (unhide cY _).mono ?_
  rintro e w4 ⟨rfl, b4⟩
  have vx := hide (Mem.var3_call (unhide vx2) b4)
  have bel5 := bel4.trans (b4.mono bel4.size)
  have bel6 := bel5.alloc bel5.size (.cells #[.string Y, .int .i64 0, .int .i64 D] 27)
  have vy := hide (Mem.var3_new w4 (.string Y) (.int .i64 0) (.int .i64 D) 27)
  have vz := hide (Mem.var3_call (unhide vx) (((Below.refl w4.heap.size w4).alloc (Nat.le_refl _) (.cells #[.string Y, .int .i64 0, .int .i64 D] 27))))
  clear bel4 b4 bel5 vx2 vx cY
  rcases Classical.em (C = 0) with hC | hC
  · subst hC
    have e1 := (unhide HO).1 rfl
    subst e1
    have e2 := (unhide HL rfl).1
    rw [e2] at cB
    clear e2 HL HO
    simp only [Pl.tOut] at cB
    go_wp2_with fail
    go_region_held3 (fun W' => Below w.heap.size w W' ∧ W'.cell? ⟨B, 0, none⟩ = some (.string X) ∧ W'.cell? ⟨B, 1, none⟩ = some (.int .i64 0) ∧ W'.cell? ⟨B, 2, none⟩ = some (.int .i64 0) ∧ W'.cell? ⟨w4.heap.size, 0, none⟩ = some (.string Y) ∧ W'.cell? ⟨w4.heap.size, 1, none⟩ = some (.int .i64 0) ∧ W'.cell? ⟨w4.heap.size, 2, none⟩ = some (.int .i64 D)) (first | exact Mem.startT bel6 (unhide vz) (unhide vy) | (go_keep; done) | exact Mem.keepT (by assumption) bX)
      (first
        | (go_at_call 39; refine (unhide cXS _).mono ?_; rintro e wX ⟨rfl, bX⟩)
        | (go_at_call 40; refine (unhide cYS _).mono ?_; rintro e wX ⟨rfl, bX⟩)
        | (go_at_call 24; refine (unhide cU _).mono ?_; rintro e wX ⟨rfl, bX⟩))
    have HS : Hid (Below w.heap.size w wX ∧ wX.cell? ⟨B, 0, none⟩ = some (.string X) ∧ wX.cell? ⟨B, 1, none⟩ = some (.int .i64 0) ∧ wX.cell? ⟨B, 2, none⟩ = some (.int .i64 0) ∧ wX.cell? ⟨w4.heap.size, 0, none⟩ = some (.string Y) ∧ wX.cell? ⟨w4.heap.size, 1, none⟩ = some (.int .i64 0) ∧ wX.cell? ⟨w4.heap.size, 2, none⟩ = some (.int .i64 D)) := by assumption
    obtain ⟨bb, d0, d1, d2, d3, d4, d5⟩ := unhide HS
    have bel := hide bb
    clear bb HS
    go_wp2_with fail
    refine (unhide cB _).mono ?_
    rintro e w6 ⟨rfl, b6⟩
    obtain ⟨z0, z1, z2⟩ := Mem.var3_call (w := wX) ⟨d3, d4, d5⟩ b6
    have bel2 := hide ((unhide bel).trans (b6.mono (unhide bel).size))
    clear bel b6 d0 d1 d2 d3 d4 d5
    have bel := bel2
    clear bel2
    rcases Classical.em (D = 0) with hD | hD
    · subst hD
      have e2 := unhide HL2 rfl
      rw [e2] at cR
      clear e2
      simp only [Pl.tOut] at cR
      go_wp2_with fail
      refine (unhide cR _).mono ?_
      rintro e w7 ⟨rfl, b7⟩
      have bel2 := hide ((unhide bel).trans (b7.mono (unhide bel).size))
      clear bel b7
      go_wp2
      go_ret
      exact ⟨rfl, unhide bel2⟩
    · have hD2 : (D == 0) = false := by simpa using hD
      go_wp2
      go_ret
      exact ⟨rfl, unhide bel⟩
  · have e1 : rU = false := by
      cases rU
      · rfl
      · exact absurd ((unhide HO).2 rfl) hC
    subst e1
    have hC2 : (C == 0) = false := by simpa using hC
    clear HL HO
    go_wp2_with fail
    go_region_held3 (fun W' => Below w.heap.size w W' ∧ W'.cell? ⟨B, 0, none⟩ = some (.string X) ∧ W'.cell? ⟨B, 1, none⟩ = some (.int .i64 0) ∧ W'.cell? ⟨B, 2, none⟩ = some (.int .i64 C) ∧ W'.cell? ⟨w4.heap.size, 0, none⟩ = some (.string Y) ∧ W'.cell? ⟨w4.heap.size, 1, none⟩ = some (.int .i64 0) ∧ W'.cell? ⟨w4.heap.size, 2, none⟩ = some (.int .i64 D)) (first | exact Mem.startT bel6 (unhide vz) (unhide vy) | (go_keep; done) | exact Mem.keepT (by assumption) bX)
      (first
        | (go_at_call 39; refine (unhide cXS _).mono ?_; rintro e wX ⟨rfl, bX⟩)
        | (go_at_call 40; refine (unhide cYS _).mono ?_; rintro e wX ⟨rfl, bX⟩)
        | (go_at_call 24; refine (unhide cU _).mono ?_; rintro e wX ⟨rfl, bX⟩))
    have HS : Hid (Below w.heap.size w wX ∧ wX.cell? ⟨B, 0, none⟩ = some (.string X) ∧ wX.cell? ⟨B, 1, none⟩ = some (.int .i64 0) ∧ wX.cell? ⟨B, 2, none⟩ = some (.int .i64 C) ∧ wX.cell? ⟨w4.heap.size, 0, none⟩ = some (.string Y) ∧ wX.cell? ⟨w4.heap.size, 1, none⟩ = some (.int .i64 0) ∧ wX.cell? ⟨w4.heap.size, 2, none⟩ = some (.int .i64 D)) := by assumption
    obtain ⟨bb, d0, d1, d2, d3, d4, d5⟩ := unhide HS
    have bel := hide bb
    clear bb HS
    rcases Classical.em (D = 0) with hD | hD
    · subst hD
      have e2 := unhide HL2 rfl
      rw [e2] at cR
      clear e2
      simp only [Pl.tOut] at cR
      go_wp2_with fail
      refine (unhide cR _).mono ?_
      rintro e w7 ⟨rfl, b7⟩
      have bel2 := hide ((unhide bel).trans (b7.mono (unhide bel).size))
      clear bel b7
      go_wp2
      go_ret
      exact ⟨rfl, unhide bel2⟩
    · have hD2 : (D == 0) = false := by simpa using hD
      go_wp2
      go_ret
      exact ⟨rfl, unhide bel⟩
end fnRest
end Go.Proofs.Ytopipjfomnnjcaa
