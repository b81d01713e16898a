/- The walk of the law FnPath, over the walks of the draws and of the functions. -/
import Derived.Test.YtopipjfomnnjcaaWDraws
import Derived.Test.YtopipjfomnnjcaaPlainLaw
import Derived.Test.YtopipjfomnnjcaaWFaceJ
import Derived.Test.YtopipjfomnnjcaaWFace
import Derived.Test.YtopipjfomnnjcaaWLess
import Derived.Test.YtopipjfomnnjcaaWParI
import Derived.Test.YtopipjfomnnjcaaWNamesI
import Derived.Test.YtopipjfomnnjcaaWSpecB
import Derived.Test.YtopipjfomnnjcaaWLessS
import Derived.Test.YtopipjfomnnjcaaWUnderS
import Derived.Outline
namespace Go.Proofs.Ytopipjfomnnjcaa
open Go.RowKit
namespace WSrc
theorem row_below {w w' : World} {a : Option Addr} {len cap : Nat} (h : RowB w w.heap.size a len cap) (hb : Below w.heap.size w w') : RowB w' w'.heap.size a len cap :=
  ⟨h.1, h.2.1, fun i hi => by
    obtain ⟨b, o, n, h1, h2, h3, h4⟩ := h.2.2 i hi
    exact ⟨b, o, n, h1, Nat.lt_of_lt_of_le h2 hb.size, h3, (hb.cell (p := ⟨b, o + i, none⟩) h2).trans h4⟩⟩
end WSrc
namespace Mem
/-- A variable of three cells. -/
def Var3 (w : World) (B : Nat) (x y z : Value) : Prop := w.cell? ⟨B, 0, none⟩ = some x ∧ w.cell? ⟨B, 1, none⟩ = some y ∧ w.cell? ⟨B, 2, none⟩ = some z
theorem var3_call {w w' : World} {B : Nat} {x y z : Value} (h : Var3 w B x y z) (b : Below w.heap.size w w') : Var3 w' B x y z := by
  have hB : B < w.heap.size := World.block_lt_of_cell? w ⟨B, 0, none⟩ h.1
  exact ⟨(b.cell (p := ⟨B, 0, none⟩) hB).trans h.1, (b.cell (p := ⟨B, 1, none⟩) hB).trans h.2.1, (b.cell (p := ⟨B, 2, none⟩) hB).trans h.2.2⟩
theorem var3_new (w : World) (x y z : Value) (T : TypeId) : Var3 (w.alloc (.cells #[x, y, z] T)) w.heap.size x y z := by
  refine ⟨?_, ?_, ?_⟩
  · rw [cell_of_row _ _ 0 _ T (0, 0) (heap_alloc_new w _)]; rfl
  · rw [cell_of_row _ _ 1 _ T (0, 0) (heap_alloc_new w _)]; rfl
  · rw [cell_of_row _ _ 2 _ T (0, 0) (heap_alloc_new w _)]; rfl
end Mem
namespace fnPath
set_option maxRecDepth 100000 in
set_option maxHeartbeats 400000 in
/-- Two lists of the same texts are the same. -/
theorem eq_any (v u : Value) (A : List ByteArray) (w : World) (hA : A.length ≤ 1000) (hv : Mem.isTexts w v A) (hu : Mem.isTexts w u A) :
    Calls Try.prog 26 #[v, u] w fun e w' => e = .returned (.bool true) ∧ Below w.heap.size w w' := by
  obtain ⟨va, vc, rfl⟩ := Mem.texts_shape hv
  obtain ⟨ua, uc, rfl⟩ := Mem.texts_shape hu
  have HCA : Hid (∀ (k : Nat) x, A[k]? = some x → ∃ b o, va = some ⟨b, o, none⟩ ∧ b < w.heap.size ∧ w.cell? ⟨b, o + k, none⟩ = some (.string x)) := fun k x hx => by
    rcases hv with ⟨_, rfl⟩ | ⟨b, o, cap, h1, h2, h3⟩
    · simp at hx
    · cases h1; exact ⟨b, o, rfl, h2, h3 k x hx⟩
  have HCB : Hid (∀ (k : Nat) x, A[k]? = some x → ∃ b o, ua = some ⟨b, o, none⟩ ∧ b < w.heap.size ∧ w.cell? ⟨b, o + k, none⟩ = some (.string x)) := fun k x hx => by
    rcases hu with ⟨_, rfl⟩ | ⟨b, o, cap, h1, h2, h3⟩
    · simp at hx
    · cases h1; exact ⟨b, o, rfl, h2, h3 k x hx⟩
  clear hv hu
  go_enter Try.func26, Try.ntmps26
  go_wp2
  go_loopw [5] (fun i wr => ∃ k : Nat, k ≤ A.length ∧ i = .int .i64 (k : Int) ∧ Below w.heap.size w wr) (fun i _ => A.length - (intOf i).toNat)
  case atStart => exact ⟨0, Nat.zero_le _, rfl, Below.refl _ _⟩
  case round =>
    obtain ⟨k, hk, rfl, hbel⟩ := hrel
    by_cases hlt : k < A.length
    · obtain ⟨x, hx⟩ : ∃ x, A[k]? = some x := ⟨_, List.getElem?_eq_getElem (by omega)⟩
      obtain ⟨b, o, rfl, hb, hcb⟩ := HCB.out k x hx
      obtain ⟨b', o', rfl, hb', hca⟩ := HCA.out k x hx
      have hc1 : wr.cell? ⟨b, o + k, none⟩ = some (.string x) := (hbel.cell (p := ⟨b, o + k, none⟩) hb).trans hcb
      have hc2 : wr.cell? ⟨b', o' + k, none⟩ = some (.string x) := (hbel.cell (p := ⟨b', o' + k, none⟩) hb').trans hca
      have u1 : (k : Int) < (A.length : Int) := by omega
      have u3 : (0 : Int) ≤ (k : Int) := by omega
      clear hcb hca hx HCA HCB
      go_wp2
      go_quiet (fail)
      go_wp2
      go_roundw
      case rel => exact ⟨k + 1, by omega, by go_num, Mem.below_drewN hbel _⟩
      case measure => simp [intOf]; omega
    · go_wp2
      go_ret
      exact ⟨rfl, hbel⟩
theorem keepS {w W W' : World} {B : Nat} {x y z : Value} (h : Below w.heap.size w W ∧ W.cell? ⟨B, 0, none⟩ = some x ∧ W.cell? ⟨B, 1, none⟩ = some y ∧ W.cell? ⟨B, 2, none⟩ = some z) (b : Below W.heap.size W W') :
    Below w.heap.size w W' ∧ W'.cell? ⟨B, 0, none⟩ = some x ∧ W'.cell? ⟨B, 1, none⟩ = some y ∧ W'.cell? ⟨B, 2, none⟩ = some z :=
  ⟨h.1.trans (b.mono h.1.size), Mem.var3_call h.2 b⟩
theorem startS {w W : World} {B : Nat} {x y z : Value} (h : Below w.heap.size w W) (v : Mem.Var3 W B x y z) :
    Below w.heap.size w W.drew ∧ W.drew.cell? ⟨B, 0, none⟩ = some x ∧ W.drew.cell? ⟨B, 1, none⟩ = some y ∧ W.drew.cell? ⟨B, 2, none⟩ = some z :=
  ⟨⟨h.os, h.tape, h.output, h.size, h.block⟩, v⟩
set_option maxRecDepth 100000 in
set_option maxHeartbeats 1000000 in
theorem walk (a0 : Option Addr) (len0 cap0 : Nat) (a1 : Option Addr) (len1 cap1 : Nat) (w : World) (w0 : WSrc.RowB w w.heap.size a0 len0 cap0) (w1 : WSrc.RowB w w.heap.size a1 len1 cap1) :
    Calls Try.prog 4 #[.slice a0 len0 cap0, .slice a1 len1 cap1] w fun e w' => e = .returned (.bool true) ∧ Below w.heap.size w w' := by
  by_cases g0 : 1048576 < len0
  · have t0 : (1048576 : Int) < (len0 : Int) := by omega
    clear w0 w1
    go_enter Try.func4, Try.ntmps4
    go_wp2
    go_ret
    exact ⟨rfl, Below.refl _ _⟩
  have t0 : ¬ (1048576 : Int) < (len0 : Int) := by omega
  by_cases g1 : 1048576 < len1
  · have t1 : (1048576 : Int) < (len1 : Int) := by omega
    clear w0 w1
    go_enter Try.func4, Try.ntmps4
    go_wp2
    go_ret
    exact ⟨rfl, Below.refl _ _⟩
  have t1 : ¬ (1048576 : Int) < (len1 : Int) := by omega
  have R0 := hide w0
  have R1 := hide w1
  clear w0 w1
  go_enter Try.func4, Try.ntmps4
  go_wp2_with fail
  refine (WSrc.drawJoin_any a0 len0 cap0 w (unhide R0)).mono ?_
  rintro e w1 ⟨p, n, hp, hn, rfl, b1⟩
  have bel := b1
  clear b1
  have HJ := hide (fun W => WPathI.join_any p n W (by omega) (by omega))
  have HJ2 := hide (fun W => WPathS.joinF_any p n W (by omega) (by omega))
  have HL := hide (@Pl.join_law p n)
  have HZ := hide (Pl.join_size p n)
  obtain ⟨X, C, hE⟩ : ∃ X C, Pl.joinO p n = (X, C) := ⟨_, _, rfl⟩
  rw [hE] at HJ HJ2 HL HZ
  clear hE
  simp only [Pl.tOut] at HJ HJ2 HL HZ
  have hX : X.size ≤ 1000 := unhide HZ
  clear HZ
  go_wp2_with fail
  refine (unhide HJ _).mono ?_
  rintro e w2 ⟨rfl, b2⟩
  have bel2 := bel.trans (b2.mono bel.size)
  have bel3 := bel2.alloc bel2.size (.cells #[.string X, .int .i64 0, .int .i64 C] 27)
  have vx := hide (Mem.var3_new w2 (.string X) (.int .i64 0) (.int .i64 C) 27)
  have hRM := hide (WSrc.row_below (unhide R1) bel3)
  go_wp2_with fail
  refine (WSrc.drawLess_any a1 len1 cap1 _ (unhide hRM)).mono ?_
  rintro e w3 ⟨a, b, ha, hb, rfl, b3⟩
  have vx2 := hide (Mem.var3_call (unhide vx) b3)
  have bel4 := bel3.trans (b3.mono bel3.size)
  generalize w2.heap.size = B at vx2
  clear bel b2 bel2 bel3 b3 vx hRM HJ
  have bel := bel4
  have vx := vx2
  clear bel4 vx2
  have hRM := hide (WSrc.row_below (unhide R1) bel)
  go_wp2_with fail
  refine (WSrc.drawUnder_any a1 len1 cap1 _ (unhide hRM)).mono ?_
  rintro e w4 ⟨u, top, hu, ht, rfl, b4⟩
  have vx2 := hide (Mem.var3_call (unhide vx) b4)
  have bel2 := bel.trans (b4.mono bel.size)
  clear bel b4 vx
  have bel := bel2
  have vx := vx2
  clear bel2 vx2
  clear hRM
  have hRM := hide (WSrc.row_below (unhide R0) bel)
  go_wp2_with fail
  refine (WSrc.drawNames_any a0 len0 cap0 _ (unhide hRM)).mono ?_
  rintro e w5 ⟨q, hq, rfl, b5⟩
  have vx2 := hide (Mem.var3_call (unhide vx) b5)
  have bel2 := bel.trans (b5.mono bel.size)
  clear bel b5 vx
  have bel := bel2
  have vx := vx2
  clear bel2 vx2
  clear hRM R0 R1
  have cL := hide (fun x y W (hx : x.size ≤ 1000) (hy : y.size ≤ 1000) => WLess.less_any x y W (by omega) (by omega))
  have cLS := hide (fun W => WPathS.lessF_any a b W (by omega) (by omega))
  have cU := hide (fun x y W (hx : x.size ≤ 1000) (hy : y.size ≤ 1000) => WPathI.under_any x y W (by omega) (by omega))
  have cUS := hide (fun W => WPathS.underF_any u top W (by omega) (by omega))
  have cN := hide (fun W => WNamesI.any q W (by omega))
  have cNS := hide (fun W => WPathS.namesF_any q W (by omega))
  have cP := hide (fun x W (hx : x.size ≤ 1000) => WPathI.parent_any x W (by omega))
  have cPS := hide (fun W => WPathS.parentF_any q W (by omega))
  have cB := hide (fun x W (hx : x.size ≤ 1000) => WPathI.base_any x W (by omega))
  have cBS := hide (fun W => WPathS.baseF_any q W (by omega))
  have cR := hide (fun W => WPathI.right_any q W (by omega))
  have cRS := hide (fun x W (hx : x.size ≤ 1000) => WPathS.right_one x W (by omega))
  have hNl := hide (Pl.namesR_all q).2
  have cL1 := hide (fun W => unhide cL a b W (by omega) (by omega))
  have cU1 := hide (fun W => unhide cU u top W (by omega) (by omega))
  have cP1 := hide (fun W => unhide cP q W (by omega))
  have cB1 := hide (fun W => unhide cB q W (by omega))
  have cR1 := hide (fun W => unhide cRS q W (by omega))
  have cL2 := hide (fun W => unhide cL b a W (by omega) (by omega))
  have cL3 := hide (fun W => unhide cL u top W (by omega) (by omega))
  have cRa := hide (fun W => unhide cRS a W (by omega))
  have cRb := hide (fun W => unhide cRS b W (by omega))
  have cPX := hide (fun W => unhide cP X W (by omega))
  have cBX := hide (fun W => unhide cB X W (by omega))
  have cUX := hide (fun W => unhide cU X p W (by omega) (by omega))
  have cLX := hide (fun W => unhide cL p X W (by omega) (by omega))
  have F1 := hide (@Pl.two_less a b)
  have F2 := hide (Pl.under_less u top)
  generalize (Pl.pathB a && Pl.pathB b && Pl.lessL (Pl.namesR a) (Pl.namesR b)) = rL at cL1 cLS F1
  generalize (Pl.pathB b && Pl.pathB a && Pl.lessL (Pl.namesR b) (Pl.namesR a)) = rL2 at cL2 F1
  generalize Pl.pathB a = ra at cRa F1
  generalize Pl.pathB b = rb at cRb F1
  generalize (Pl.pathB u && Pl.pathB top && Pl.underR (Pl.namesR u) (Pl.namesR top)) = rU at cU1 cUS F2
  generalize (Pl.pathB u && Pl.pathB top && Pl.lessL (Pl.namesR u) (Pl.namesR top)) = rUL at cL3 F2
  generalize Pl.glue (Pl.namesR X).dropLast = rPX at cPX HL
  generalize Pl.glue ((Pl.namesR X).drop ((Pl.namesR X).length - 1)) = rBX at cBX HL
  generalize (Pl.pathB X && Pl.pathB p && Pl.underR (Pl.namesR X) (Pl.namesR p)) = rUX at cUX HL
  generalize (Pl.pathB p && Pl.pathB X && Pl.lessL (Pl.namesR p) (Pl.namesR X)) = rLX at cLX HL
  generalize Pl.glue (Pl.namesR q).dropLast = rP at cP1 cPS
  generalize Pl.glue ((Pl.namesR q).drop ((Pl.namesR q).length - 1)) = rB at cB1 cBS
  generalize Pl.pathB q = rR at cR cR1
  generalize Pl.namesR q = LN at cN cNS hNl
  go_wp2_with fail
  go_region_held3 (fun W' => Below w.heap.size w W' ∧ W'.cell? ⟨B, 0, none⟩ = some (.string X) ∧ W'.cell? ⟨B, 1, none⟩ = some (.int .i64 0) ∧ W'.cell? ⟨B, 2, none⟩ = some (.int .i64 C)) (first | exact startS bel (unhide vx) | (go_keep; done) | exact keepS (by assumption) bX)
    (first
      | (go_at_call 21; refine (unhide HJ2 _).mono ?_; rintro e wX ⟨rfl, bX⟩)
      | (go_at_call 22; refine (unhide cL1 _).mono ?_; rintro e wX ⟨rfl, bX⟩)
      | (go_at_call 23; refine (unhide cLS _).mono ?_; rintro e wX ⟨rfl, bX⟩)
      | (go_at_call 24; refine (unhide cU1 _).mono ?_; rintro e wX ⟨rfl, bX⟩)
      | (go_at_call 25; refine (unhide cUS _).mono ?_; rintro e wX ⟨rfl, bX⟩)
      | (go_at_call 27; refine (unhide cN _).mono ?_; rintro e wX ⟨g, rfl, hoN, bX⟩; have hiN := Mem.own_texts hoN)
      | (go_at_call 28; refine (unhide cNS _).mono ?_; rintro e wX ⟨v, rfl, hoM, bX⟩; have hiM := Mem.own_texts hoM; have hiN2 := Mem.texts_call hiN bX)
      | (go_at_call 26; refine (eq_any _ _ LN _ (by have := unhide hNl; omega) hiN2 hiM).mono ?_; rintro e wX ⟨rfl, bX⟩)
      | (go_at_call 29; refine (unhide cP1 _).mono ?_; rintro e wX ⟨rfl, bX⟩)
      | (go_at_call 30; refine (unhide cPS _).mono ?_; rintro e wX ⟨rfl, bX⟩)
      | (go_at_call 31; refine (unhide cB1 _).mono ?_; rintro e wX ⟨rfl, bX⟩)
      | (go_at_call 32; refine (unhide cBS _).mono ?_; rintro e wX ⟨rfl, bX⟩)
      | (go_at_call 33; refine (unhide cR _).mono ?_; rintro e wX ⟨rfl, bX⟩)
      | (go_at_call 34; refine (unhide cR1 _).mono ?_; rintro e wX ⟨rfl, bX⟩))
  have HS : Hid (Below w.heap.size w wX ∧ wX.cell? ⟨B, 0, none⟩ = some (.string X) ∧ wX.cell? ⟨B, 1, none⟩ = some (.int .i64 0) ∧ wX.cell? ⟨B, 2, none⟩ = some (.int .i64 C)) := by assumption
  obtain ⟨bb, d0, d1, d2⟩ := unhide HS
  clear bel vx
  have bel := hide bb
  clear bb
  rcases Classical.em (C = 0) with hC | hC
  rotate_left
  · have hC2 : (C == 0) = false := by simpa using hC
    clear d0 d1
    go_wp2_with fail
    refine (unhide cU1 _).mono ?_
    rintro e yU ⟨rfl, byU⟩
    have bel2 := hide ((unhide bel).trans (byU.mono (unhide bel).size))
    clear bel byU
    have bel := bel2
    clear bel2
    cases rU
    · go_wp2_with fail
      refine (unhide cRa _).mono ?_
      rintro e yA ⟨rfl, byA⟩
      have bel2 := hide ((unhide bel).trans (byA.mono (unhide bel).size))
      clear bel byA
      cases ra
      · go_wp2
        go_ret
        exact ⟨rfl, unhide bel2⟩
      go_wp2_with fail
      refine (unhide cRb _).mono ?_
      rintro e yB ⟨rfl, byB⟩
      have bel3 := hide ((unhide bel2).trans (byB.mono (unhide bel2).size))
      clear bel2 byB
      cases rb
      · go_wp2
        go_ret
        exact ⟨rfl, unhide bel3⟩
      rcases Classical.em (a = b) with hab | hab
      · have hab2 := Pl.eq_lists hab
        clear hab
        go_wp2
        go_ret
        exact ⟨rfl, unhide bel3⟩
      have hab2 := Pl.ne_lists hab
      have hF : rL = !rL2 := by first | exact unhide F1 rfl rfl hab | exact unhide F1 trivial trivial hab | exact unhide F1 rfl trivial hab | exact unhide F1 trivial rfl hab
      clear hab F1
      subst hF
      go_wp2_with fail
      refine (unhide cL1 _).mono ?_
      rintro e yC ⟨rfl, byC⟩
      have bel4 := hide ((unhide bel3).trans (byC.mono (unhide bel3).size))
      clear bel3 byC
      go_wp2_with fail
      refine (unhide cL2 _).mono ?_
      rintro e yD ⟨rfl, byD⟩
      have bel5 := hide ((unhide bel4).trans (byD.mono (unhide bel4).size))
      clear bel4 byD
      cases rL2
      all_goals
        go_wp2
        go_ret
        exact ⟨rfl, unhide bel5⟩
    · have hUL := unhide F2 rfl
      subst hUL
      go_wp2_with fail
      refine (unhide cL3 _).mono ?_
      rintro e yV ⟨rfl, byV⟩
      have bel2 := hide ((unhide bel).trans (byV.mono (unhide bel).size))
      clear bel byV
      have bel := bel2
      clear bel2
      go_wp2_with fail
      refine (unhide cRa _).mono ?_
      rintro e yA ⟨rfl, byA⟩
      have bel2 := hide ((unhide bel).trans (byA.mono (unhide bel).size))
      clear bel byA
      cases ra
      · go_wp2
        go_ret
        exact ⟨rfl, unhide bel2⟩
      go_wp2_with fail
      refine (unhide cRb _).mono ?_
      rintro e yB ⟨rfl, byB⟩
      have bel3 := hide ((unhide bel2).trans (byB.mono (unhide bel2).size))
      clear bel2 byB
      cases rb
      · go_wp2
        go_ret
        exact ⟨rfl, unhide bel3⟩
      rcases Classical.em (a = b) with hab | hab
      · have hab2 := Pl.eq_lists hab
        clear hab
        go_wp2
        go_ret
        exact ⟨rfl, unhide bel3⟩
      have hab2 := Pl.ne_lists hab
      have hF : rL = !rL2 := by first | exact unhide F1 rfl rfl hab | exact unhide F1 trivial trivial hab | exact unhide F1 rfl trivial hab | exact unhide F1 trivial rfl hab
      clear hab F1
      subst hF
      go_wp2_with fail
      refine (unhide cL1 _).mono ?_
      rintro e yC ⟨rfl, byC⟩
      have bel4 := hide ((unhide bel3).trans (byC.mono (unhide bel3).size))
      clear bel3 byC
      go_wp2_with fail
      refine (unhide cL2 _).mono ?_
      rintro e yD ⟨rfl, byD⟩
      have bel5 := hide ((unhide bel4).trans (byD.mono (unhide bel4).size))
      clear bel4 byD
      cases rL2
      all_goals
        go_wp2
        go_ret
        exact ⟨rfl, unhide bel5⟩
  · obtain ⟨e1, e2, e3, e4, -⟩ := unhide HL hC
    subst hC
    subst e1
    subst e2
    subst e3
    subst e4
    go_wp2_with fail
    refine (unhide cPX _).mono ?_
    rintro e y1 ⟨rfl, by1⟩
    have bel2 := hide ((unhide bel).trans (by1.mono (unhide bel).size))
    obtain ⟨z0, z1, z2⟩ := Mem.var3_call ⟨d0, d1, d2⟩ by1
    clear bel by1 d0 d1 d2
    have bel := bel2
    have d0 := z0
    have d1 := z1
    have d2 := z2
    clear bel2 z0 z1 z2
    go_wp2_with fail
    refine (unhide cBX _).mono ?_
    rintro e y2 ⟨rfl, by2⟩
    have bel2 := hide ((unhide bel).trans (by2.mono (unhide bel).size))
    obtain ⟨z0, z1, z2⟩ := Mem.var3_call ⟨d0, d1, d2⟩ by2
    clear bel by2 d0 d1 d2
    have bel := bel2
    have d0 := z0
    have d1 := z1
    have d2 := z2
    clear bel2 z0 z1 z2
    go_wp2_with fail
    refine (unhide cUX _).mono ?_
    rintro e y3 ⟨rfl, by3⟩
    have bel2 := hide ((unhide bel).trans (by3.mono (unhide bel).size))
    obtain ⟨z0, z1, z2⟩ := Mem.var3_call ⟨d0, d1, d2⟩ by3
    clear bel by3 d0 d1 d2
    have bel := bel2
    have d0 := z0
    have d1 := z1
    have d2 := z2
    clear bel2 z0 z1 z2
    go_wp2_with fail
    refine (unhide cLX _).mono ?_
    rintro e y4 ⟨rfl, by4⟩
    have bel2 := hide ((unhide bel).trans (by4.mono (unhide bel).size))
    clear bel by4
    have bel := bel2
    clear bel2
    clear d0 d1 d2
    go_wp2_with fail
    refine (unhide cU1 _).mono ?_
    rintro e yU ⟨rfl, byU⟩
    have bel2 := hide ((unhide bel).trans (byU.mono (unhide bel).size))
    clear bel byU
    have bel := bel2
    clear bel2
    cases rU
    · go_wp2_with fail
      refine (unhide cRa _).mono ?_
      rintro e yA ⟨rfl, byA⟩
      have bel2 := hide ((unhide bel).trans (byA.mono (unhide bel).size))
      clear bel byA
      cases ra
      · go_wp2
        go_ret
        exact ⟨rfl, unhide bel2⟩
      go_wp2_with fail
      refine (unhide cRb _).mono ?_
      rintro e yB ⟨rfl, byB⟩
      have bel3 := hide ((unhide bel2).trans (byB.mono (unhide bel2).size))
      clear bel2 byB
      cases rb
      · go_wp2
        go_ret
        exact ⟨rfl, unhide bel3⟩
      rcases Classical.em (a = b) with hab | hab
      · have hab2 := Pl.eq_lists hab
        clear hab
        go_wp2
        go_ret
        exact ⟨rfl, unhide bel3⟩
      have hab2 := Pl.ne_lists hab
      have hF : rL = !rL2 := by first | exact unhide F1 rfl rfl hab | exact unhide F1 trivial trivial hab | exact unhide F1 rfl trivial hab | exact unhide F1 trivial rfl hab
      clear hab F1
      subst hF
      go_wp2_with fail
      refine (unhide cL1 _).mono ?_
      rintro e yC ⟨rfl, byC⟩
      have bel4 := hide ((unhide bel3).trans (byC.mono (unhide bel3).size))
      clear bel3 byC
      go_wp2_with fail
      refine (unhide cL2 _).mono ?_
      rintro e yD ⟨rfl, byD⟩
      have bel5 := hide ((unhide bel4).trans (byD.mono (unhide bel4).size))
      clear bel4 byD
      cases rL2
      all_goals
        go_wp2
        go_ret
        exact ⟨rfl, unhide bel5⟩
    · have hUL := unhide F2 rfl
      subst hUL
      go_wp2_with fail
      refine (unhide cL3 _).mono ?_
      rintro e yV ⟨rfl, byV⟩
      have bel2 := hide ((unhide bel).trans (byV.mono (unhide bel).size))
      clear bel byV
      have bel := bel2
      clear bel2
      go_wp2_with fail
      refine (unhide cRa _).mono ?_
      rintro e yA ⟨rfl, byA⟩
      have bel2 := hide ((unhide bel).trans (byA.mono (unhide bel).size))
      clear bel byA
      cases ra
      · go_wp2
        go_ret
        exact ⟨rfl, unhide bel2⟩
      go_wp2_with fail
      refine (unhide cRb _).mono ?_
      rintro e yB ⟨rfl, byB⟩
      have bel3 := hide ((unhide bel2).trans (byB.mono (unhide bel2).size))
      clear bel2 byB
      cases rb
      · go_wp2
        go_ret
        exact ⟨rfl, unhide bel3⟩
      rcases Classical.em (a = b) with hab | hab
      · have hab2 := Pl.eq_lists hab
        clear hab
        go_wp2
        go_ret
        exact ⟨rfl, unhide bel3⟩
      have hab2 := Pl.ne_lists hab
      have hF : rL = !rL2 := by first | exact unhide F1 rfl rfl hab | exact unhide F1 trivial trivial hab | exact unhide F1 rfl trivial hab | exact unhide F1 trivial rfl hab
      clear hab F1
      subst hF
      go_wp2_with fail
      refine (unhide cL1 _).mono ?_
      rintro e yC ⟨rfl, byC⟩
      have bel4 := hide ((unhide bel3).trans (byC.mono (unhide bel3).size))
      clear bel3 byC
      go_wp2_with fail
      refine (unhide cL2 _).mono ?_
      rintro e yD ⟨rfl, byD⟩
      have bel5 := hide ((unhide bel4).trans (byD.mono (unhide bel4).size))
      clear bel4 byD
      cases rL2
      all_goals
        go_wp2
        go_ret
        exact ⟨rfl, unhide bel5⟩
end fnPath
end Go.Proofs.Ytopipjfomnnjcaa
