/- The walk of the law FnExactTreeRead, over the walks of the two functions and of the laws' own. -/
import Derived.Test.YtkfpfckmjgjanaaDoorG28
import Derived.Test.YtkfpfckmjgjanaaDoorWReadJ
import Derived.Test.YtkfpfckmjgjanaaDoorG52
namespace Go.Proofs.YtkfpfckmjgjanaaDoor
open Go.RowKit
namespace fnExactTreeRead
theorem readO_len (s : ByteArray) : (Pl.readO s).1.length ≤ 1048576 := by
  unfold Pl.readO
  split
  · simp
  · split
    · rename_i L h
      unfold Pl.treeR at h
      split at h
      · rename_i hc
        split at h
        · cases h
          show (Pl.steps s _ _).L.length ≤ _
          rw [Pl.steps_len]; omega
        · cases h
      · cases h
    · simp
/-- What the specification gave, through the calls. -/
structure V0 (w W : World) (Y : Nat) (aw : Option Addr) (cw : Nat) (O : List Pl.Nd) (c : Int) : Prop where
  bel : Below w.heap.size w W
  var : Mem.Blk W Y #[.slice aw O.length cw, .int .i64 c] 37
  own : Mem.ownN W w.heap.size (.slice aw O.length cw) O
  hi : ∀ g, (Value.slice aw O.length cw).ownBlock = some g → g < Y
  y : w.heap.size ≤ Y
theorem V0.call {w W W' : World} {aw : Option Addr} {Y cw : Nat} {O : List Pl.Nd} {c : Int} (h : V0 w W Y aw cw O c) (b : Below W.heap.size W W') : V0 w W' Y aw cw O c :=
  ⟨h.bel.trans (b.mono h.bel.size), h.var.call b, Mem.ownN_call h.own b, h.hi, h.y⟩
theorem V0.grown {w W W' : World} {aw : Option Addr} {Y cw : Nat} {O : List Pl.Nd} {c : Int} {r : Option Nat} (h : V0 w W Y aw cw O c) (b : W.grownBy W' r) (hr : ∀ g, r = some g → Y < g) : V0 w W' Y aw cw O c :=
  ⟨h.bel.grown b h.bel.size (fun q hq => by have := hr q hq; have := h.y; omega), h.var.grown b (fun e => by have := hr _ e.symm; omega),
    Mem.ownN_grown h.own b (fun g hg e => by have := hr _ e.symm; have := h.hi g hg; omega), h.hi, h.y⟩
set_option linter.unusedSimpArgs false in
set_option maxRecDepth 100000 in
set_option maxHeartbeats 4000000 in
theorem walk (s : ByteArray) (w : World) (_ok : s.size ≤ maxLen) (r1 r2 r3 : TypeId) (x1 x2 x3 : Value) (hE : WNodesI.Errs w r1 r2 r3 x1 x2 x3) :
    Calls Tryd.prog 6 #[.string s] w fun e w' => e = .returned (.bool true) ∧ Below w.heap.size w w' := by
  have heo := hide (fun (ag aw : Option Addr) (cg cw : Nat) W h3 h4 => WMarkN.eqO_any ag aw cg cw (Pl.readO s).2 (Pl.readO s).1 W (readO_len s) h3 h4)
  have hmo := hide (fun (ag : Option Addr) (cg B : Nat) W h3 => WMarkN.layO_own ag (Pl.readO s).1.length cg 1 B (Pl.readO s).2 (Pl.readO s).1 W (readO_len s) (by omega) (by omega) h3)
  have hho := hide (fun (ag : Option Addr) (cg : Nat) W h3 => WMarkN.heldO_any ag (Pl.readO s).1.length cg 1 (Pl.readO s).2 W (readO_len s) (by omega) (by omega) h3)
  have hs := hide (WReadT.spec_any s w)
  have hi := hide (fun W h5 => WReadJ.impl_any s W r1 r2 r3 x1 x2 x3 h5)
  generalize (Pl.readO s).1 = O at heo hmo hho hs hi
  generalize (Pl.readO s).2 = c at heo hmo hho hs hi
  have HE := hide hE
  clear hE
  by_cases hz : 1048576 < s.size
  · have t0 : (1048576 : Int) < (s.size : Int) := by omega
    go_enter Tryd.func6, Tryd.ntmps6
    go_wp2
    go_ret
    exact ⟨rfl, Below.refl _ _⟩
  have t0 : ¬ (1048576 : Int) < (s.size : Int) := by omega
  go_enter Tryd.func6, Tryd.ntmps6
  go_wp2_with fail
  refine (unhide hs).mono ?_
  rintro e w3 ⟨vw, rfl, ownw, b3⟩
  obtain ⟨aw, cw, rfl⟩ := Mem.own_shape ownw
  have S3 : Hid (V0 w (w3.alloc (.cells #[.slice aw O.length cw, .int .i64 c] 37)) w3.heap.size aw cw O c) :=
    hide ⟨b3.alloc b3.size _, Mem.Blk.new _ _ _, Mem.ownN_alloc ownw _, fun g hg => (Mem.ownN_lt ownw g hg).2, b3.size⟩
  have hY : (w3.alloc (.cells #[.slice aw O.length cw, .int .i64 c] 37)).heap.size = w3.heap.size + 1 := by simp
  have hE3 := hide ((unhide HE).call (unhide S3).bel)
  clear b3 hs ownw
  go_wp2_with fail
  refine (unhide hi _ (unhide hE3)).mono ?_
  rintro e w7 ⟨vg, rfl, owng, b7⟩
  obtain ⟨ag, cg, rfl⟩ := Mem.own_shape owng
  rw [hY] at owng
  have S7 := (unhide S3).call b7
  have hX7 : w3.heap.size + 1 ≤ w7.heap.size := by have := b7.size; omega
  clear S3 hE3 b7 hY
  generalize w3.heap.size = Y at S7 owng hX7 ⊢
  have b8 : Below w7.heap.size w7 (w7.alloc (.cells #[.slice ag O.length cg, .int .i64 c] 37)) := (Below.refl _ _).alloc (Nat.le_refl _) _
  have S8 := hide (S7.call b8)
  have G8 : Hid (WMarkN.G0 (w7.alloc (.cells #[.slice ag O.length cg, .int .i64 c] 37)) w7.heap.size (Y + 1) ag cg O c) := hide ⟨Mem.Blk.new _ _ _, Mem.ownN_alloc owng _, fun g hg => (Mem.ownN_lt owng g hg).2, hX7⟩
  clear S7 b8 owng
  have d0 := (unhide S8).var.cell 0
  have d1 := (unhide S8).var.cell 1
  simp only [kA0, kA1, kA2] at d0 d1
  go_wp2_with fail
  refine (unhide heo ag aw cg cw _ (Mem.ownN_nodes (unhide G8).own).2 (Mem.ownN_nodes (unhide S8).own).2).mono ?_
  rintro e w13 ⟨rfl, b13⟩
  have S13 := hide ((unhide S8).call b13)
  have G13 := (unhide G8).call b13
  generalize w7.heap.size = G at G13 hX7 ⊢
  clear S8 G8 b13 d0 d1
  have e0 := G13.var.cell 0
  have e1 := G13.var.cell 1
  simp only [kA0, kA1, kA2] at e0 e1
  have G14 := hide G13
  clear G13
  go_wp2_with fail
  refine (unhide hmo ag cg _ _ (unhide G14).own).mono ?_
  rintro e w15 ⟨rfl, hn15, hg15⟩
  have HLG := hide (unhide G14).hi
  have HBG := hide (fun g hg => (Mem.ownN_lt (unhide G14).own g hg).1)
  have S15 := hide ((unhide S13).grown hg15 (fun g hg => by have := unhide HBG g hg; omega))
  have M15 : WMarkN.M0 w15 G ag O.length cg 1 c := ⟨(unhide G14).var.grown hg15 (fun e => by have := unhide HLG _ e.symm; omega), hn15⟩
  have HM0 : ¬ ((1 + 5 * O.length : Nat) : Int) < 0 := by omega
  clear S13 G14 hn15 hg15 hmo e0 e1 HLG HBG
  have e0 := M15.var.cell 0
  have e1 := M15.var.cell 1
  simp only [kA0, kA1, kA2] at e0 e1
  have M16 := hide M15
  clear M15
  generalize 1 + 5 * O.length = mm at HM0 hho ⊢
  go_wp2_with fail
  refine (unhide hho ag cg _ (unhide M16).nodes).mono ?_
  rintro e w17 ⟨rfl, b17⟩
  have S17 := hide ((unhide S15).call b17)
  have M17 := hide ((unhide M16).call b17)
  have hE18 := hide ((unhide HE).call (unhide S17).bel)
  clear S15 M16 b17 e0 e1
  go_wp2_with fail
  refine (unhide hi _ (unhide hE18)).mono ?_
  rintro e w19 ⟨vh, rfl, ownh, b19⟩
  obtain ⟨ah, ch, rfl⟩ := Mem.own_shape ownh
  have b20 : Below w19.heap.size w19 (w19.alloc (.cells #[.slice ah O.length ch, .int .i64 c] 37)) := (Below.refl _ _).alloc (Nat.le_refl _) _
  have S20 := hide (((unhide S17).call b19).call b20)
  have M20 := hide (((unhide M17).call b19).call b20)
  have OH := hide (Mem.ownN_nodes (Mem.ownN_alloc ownh (.cells #[.slice ah O.length ch, .int .i64 c] 37))).2
  clear S17 M17 b19 b20 ownh hE18
  have d0 := (unhide S20).var.cell 0
  have d1 := (unhide S20).var.cell 1
  simp only [kA0, kA1, kA2] at d0 d1
  go_wp2_with fail
  refine (unhide heo ah aw ch cw _ (unhide OH) (Mem.ownN_nodes (unhide S20).own).2).mono ?_
  rintro e w21 ⟨rfl, b21⟩
  have S21 := hide ((unhide S20).call b21)
  have M21 := hide ((unhide M20).call b21)
  clear S20 M20 b21 d0 d1 OH
  have e0 := (unhide M21).var.cell 0
  have e1 := (unhide M21).var.cell 1
  simp only [kA0, kA1, kA2] at e0 e1
  go_wp2_with fail
  refine (unhide hho ag cg _ (unhide M21).nodes).mono ?_
  rintro e w22 ⟨rfl, b22⟩
  have bfin := ((unhide S21).call b22).bel
  clear S21 M21 b22 e0 e1
  go_wp2
  go_ret
  exact ⟨rfl, bfin⟩
end fnExactTreeRead
end Go.Proofs.YtkfpfckmjgjanaaDoor
