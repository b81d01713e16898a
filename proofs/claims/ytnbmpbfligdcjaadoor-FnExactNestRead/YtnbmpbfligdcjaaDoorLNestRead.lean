/- The walk of the law FnExactNestRead, over the walks of the two functions and of the laws' own (by genLNR.py). -/
import Derived.Test.YtnbmpbfligdcjaaDoorWNReadT
import Derived.Test.YtnbmpbfligdcjaaDoorWNReadJ
import Derived.Test.YtnbmpbfligdcjaaDoorG43
namespace Go.Proofs.YtnbmpbfligdcjaaDoor
open Go.RowKit
namespace fnExactNestRead
theorem read_le (s : ByteArray) : (Pl.nestRO s).1.length ≤ 12 ∧ ∀ x ∈ (Pl.nestRO s).1, x.2.length ≤ 40 := by
  unfold Pl.nestRO
  split
  · exact ⟨by simp, fun x hx => (by cases hx)⟩
  · split
    · rename_i L h
      unfold Pl.nestR at h
      split at h
      · rename_i hc
        split at h
        · rename_i h1
          cases h
          refine ⟨?_, fun x hx => ?_⟩
          · show (Pl.stepsI s _ _).L.length ≤ _
            rw [Pl.stepsI_len]; omega
          · have := Pl.stepsI_right _ h1.1 x hx
            unfold Pl.treeB at this
            exact of_decide_eq_true ((Bool.and_eq_true _ _).mp this).1
        · cases h
      · cases h
    · exact ⟨by simp, fun x hx => (by cases hx)⟩
set_option linter.unusedSimpArgs false in
set_option maxRecDepth 100000 in
set_option maxHeartbeats 4000000 in
theorem walk (s : ByteArray) (w : World) (_ok : s.size ≤ maxLen) (r0 r1 r2 r3 : TypeId) (x0 x1 x2 x3 : Value) (hE : WNestI.Errs4 w r0 r1 r2 r3 x0 x1 x2 x3) :
    Calls Tryd.prog 6 #[.string s] w fun e w' => e = .returned (.bool true) ∧ Below w.heap.size w w' := by
  have hol0 := read_le s
  have hs := hide (WNReadT.spec_any s w)
  have hi := hide (fun W h5 => WNReadJ.impl_any s W r0 r1 r2 r3 x0 x1 x2 x3 h5)
  generalize (Pl.nestRO s).1 = O at hs hi hol0
  generalize (Pl.nestRO s).2 = c at hs hi
  have heo := hide (WMkR.eq_any O hol0.1 hol0.2)
  have hmo := hide (WMkR.mark_any O hol0.1 hol0.2)
  have hho := hide (WMkR.held_any O hol0.1 hol0.2)
  have HE := hide hE
  clear hE hol0
  by_cases hz : 1048576 < s.size
  · have t0 : (1048576 : Int) < (s.size : Int) := by omega
    go_enter Tryd.func6, Tryd.ntmps6
    go_wp2
    go_ret
    exact ⟨rfl, Below.refl _ _⟩
  have t0 : ¬ (1048576 : Int) < (s.size : Int) := by omega
  go_enter Tryd.func6, Tryd.ntmps6
  go_wp2_with fail
  refine (unhide hs).mono ?_
  rintro e w3 ⟨⟨vw, U, rfl, ownw, hrw⟩, b3⟩
  obtain ⟨aw, cw, rfl⟩ := Mem.own_shape ownw.row
  rw [WMkR.len_of hrw] at ownw ⊢
  have S3 : Hid (WMkR.OW w (w3.alloc (.cells #[.slice aw O.length cw, .int .i64 c] 47)) w3.heap.size w.heap.size aw cw U O c) :=
    hide ⟨b3.alloc b3.size _, Mem.Blk.new _ _ _, ownw.call ((Below.refl _ _).alloc (Nat.le_refl _) _), hrw, fun g hg => (ownw.lt.1 g hg).2, fun x hx g hg => (ownw.mem_lt x hx g hg).2, b3.size⟩
  have hY : (w3.alloc (.cells #[.slice aw O.length cw, .int .i64 c] 47)).heap.size = w3.heap.size + 1 := by simp
  have hE3 := hide ((unhide HE).call (unhide S3).bel)
  clear b3 hs ownw hrw
  go_wp2_with fail
  refine (unhide hi _ (unhide hE3)).mono ?_
  rintro e w7 ⟨⟨vg, T, rfl, owng, hrg⟩, b7⟩
  obtain ⟨ag, cg, rfl⟩ := Mem.own_shape owng.row
  rw [WMkR.len_of hrg] at owng ⊢
  rw [hY] at owng
  have S7 := (unhide S3).call b7
  have hX7 : w3.heap.size + 1 ≤ w7.heap.size := by have := b7.size; omega
  clear S3 hE3 b7 hY
  generalize w3.heap.size = Y at S7 owng hX7 ⊢
  have b8 : Below w7.heap.size w7 (w7.alloc (.cells #[.slice ag O.length cg, .int .i64 c] 47)) := (Below.refl _ _).alloc (Nat.le_refl _) _
  have S8 := hide (S7.call b8)
  have G8 : Hid (WMkR.G0 (w7.alloc (.cells #[.slice ag O.length cg, .int .i64 c] 47)) w7.heap.size (Y + 1) ag cg T O c) := ⟨Mem.Blk.new _ _ _, owng.call b8, hrg, fun g hg => (owng.lt.1 g hg).2, fun x hx g hg => (owng.mem_lt x hx g hg).2, hX7⟩
  have HRG := hide hrg
  clear S7 b8 owng hrg
  have d0 := (unhide S8).var.cell 0
  have d1 := (unhide S8).var.cell 1
  simp only [kA0, kA1, kA2] at d0 d1
  go_wp2_with fail
  refine (unhide heo ag aw cg cw c T U _ (unhide HRG) (unhide S8).reads (unhide G8).items (unhide S8).items).mono ?_
  rintro e w13 ⟨rfl, b13⟩
  have S13 := hide ((unhide S8).call b13)
  have G14 := hide ((unhide G8).call b13)
  generalize w7.heap.size = G at G14 hX7 ⊢
  clear S8 G8 b13 d0 d1
  have e0 := (unhide G14).var.cell 0
  have e1 := (unhide G14).var.cell 1
  simp only [kA0, kA1, kA2] at e0 e1
  go_wp2_with fail
  refine (unhide hmo ag cg (Y + 1) G c T _ (unhide G14)).mono ?_
  rintro e w15 ⟨rfl, M15, hb15⟩
  have S15 := hide ((unhide S13).band hb15 (by omega))
  have HM0 : ¬ ((Pl.kAt 1 T O.length : Nat) : Int) < 0 := by omega
  clear S13 G14 hb15 hmo e0 e1
  have e0 := M15.var.cell 0
  have e1 := M15.var.cell 1
  simp only [kA0, kA1, kA2] at e0 e1
  have M16 := hide M15
  clear M15
  have hh2 := hide (fun W h => unhide hho ag cg G c T W (unhide HRG) h)
  generalize Pl.kAt 1 T O.length = mm at HM0 hh2 ⊢
  clear hho
  go_wp2_with fail
  refine (unhide hh2 _ (unhide M16)).mono ?_
  rintro e w17 ⟨rfl, b17⟩
  have S17 := hide ((unhide S15).call b17)
  have M17 := hide ((unhide M16).call b17)
  have hE18 := hide ((unhide HE).call (unhide S17).bel)
  clear S15 M16 b17 e0 e1
  go_wp2_with fail
  refine (unhide hi _ (unhide hE18)).mono ?_
  rintro e w19 ⟨⟨vh, V, rfl, ownh, hrh⟩, b19⟩
  obtain ⟨ah, ch, rfl⟩ := Mem.own_shape ownh.row
  rw [WMkR.len_of hrh] at ownh ⊢
  have b20 : Below w19.heap.size w19 (w19.alloc (.cells #[.slice ah O.length ch, .int .i64 c] 47)) := (Below.refl _ _).alloc (Nat.le_refl _) _
  have S20 := hide (((unhide S17).call b19).call b20)
  have M20 := hide (((unhide M17).call b19).call b20)
  have OH := hide (ownh.call b20).items.2
  have HRH := hide hrh
  clear S17 M17 b19 b20 ownh hE18 hrh
  have d0 := (unhide S20).var.cell 0
  have d1 := (unhide S20).var.cell 1
  simp only [kA0, kA1, kA2] at d0 d1
  go_wp2_with fail
  refine (unhide heo ah aw ch cw c V U _ (unhide HRH) (unhide S20).reads (unhide OH) (unhide S20).items).mono ?_
  rintro e w21 ⟨rfl, b21⟩
  have S21 := hide ((unhide S20).call b21)
  have M21 := hide ((unhide M20).call b21)
  clear S20 M20 b21 d0 d1 OH
  have e0 := (unhide M21).var.cell 0
  have e1 := (unhide M21).var.cell 1
  simp only [kA0, kA1, kA2] at e0 e1
  go_wp2_with fail
  refine (unhide hh2 _ (unhide M21)).mono ?_
  rintro e w22 ⟨rfl, b22⟩
  have bfin := ((unhide S21).call b22).bel
  clear S21 M21 b22 e0 e1
  go_wp2
  go_ret
  exact ⟨rfl, bfin⟩
end fnExactNestRead
end Go.Proofs.YtnbmpbfligdcjaaDoor
