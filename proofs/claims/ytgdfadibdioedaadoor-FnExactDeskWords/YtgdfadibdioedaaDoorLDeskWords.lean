/- The walk of the law FnExactDeskWords, over the walks of the two functions and of the laws' own. -/
import Derived.Test.YtgdfadibdioedaaDoorWDeskW
import Derived.Test.YtgdfadibdioedaaDoorWMarks
namespace Go.Proofs.YtgdfadibdioedaaDoor
open Go.RowKit
namespace fnExactDeskWords
set_option maxRecDepth 100000 in
set_option maxHeartbeats 1000000 in
theorem walk (w : World) (hV : ∀ r t, Pl.words10[r]? = some t → w.cell? ⟨0, r, none⟩ = some (.string t)) :
    Calls Tryd.prog 3 #[] w fun e w' => e = .returned (.bool true) ∧ Below w.heap.size w w' := by
  have hs := hide (fun W => WDeskW.spec_any W)
  have hi := hide (fun W (b : Below w.heap.size w W) => WDeskW.impl_any W (fun r t h => by
    have h1 := hV r t h
    exact (b.cell (p := ⟨0, r, none⟩) (World.block_lt_of_cell? w _ h1)).trans h1))
  have hl : Pl.words10.length = 15 := rfl
  generalize Pl.words10 = L at hs hi hl
  rw [← hl] at hs hi
  have hl6 : L.length ≤ 15 := by omega
  clear hl hV
  have t0 : ¬ ((1 + L.length : Nat) : Int) < 0 := by omega
  go_enter Tryd.func3, Tryd.ntmps3
  go_wp2_with fail
  refine (unhide hs _).mono ?_
  rintro e w1 ⟨⟨gu, cu, rfl, ho1⟩, b1⟩
  generalize hu' : Value.slice (some ⟨gu, 0, none⟩) L.length cu = u at ho1 ⊢
  have HU := hide hu'
  clear hu'
  have HO1 := hide ho1
  clear ho1
  go_wp2_with fail
  refine (unhide hi _ b1).mono ?_
  rintro e w2 ⟨⟨g, cg, rfl, ho2⟩, b2⟩
  have hg1 := ho2.lt g rfl
  have HO1b := hide (Mem.own_call (unhide HO1) b2)
  have HUL := hide (fun k (hk : u.ownBlock = some k) => ((unhide HO1).lt k hk).2)
  have hi1 := hide (Mem.own_texts (unhide HO1b))
  have hi2 := hide (Mem.own_texts ho2)
  have HO2 := hide ho2
  have b12 := b1.trans (b2.mono b1.size)
  have hsz1 := b1.size
  have hsz2 := b2.size
  clear ho2 HO1 b1 b2
  go_wp2_with fail
  refine (WMarks.eq_any _ _ L _ (by omega) (unhide hi2) (unhide hi1)).mono ?_
  rintro e w3 ⟨rfl, b3⟩
  have HO1c := hide (Mem.own_call (unhide HO1b) b3)
  have HO2c := hide (Mem.own_call (unhide HO2) b3)
  have b13 := b12.trans (b3.mono b12.size)
  have hsz3 := b3.size
  clear HO1b HO2 hi1 hi2 b3 b12
  go_wp2_with fail
  refine (WMarks.lay_any w1.heap.size g L.length cg 1 _ _ (by omega) (by omega) (by omega) (unhide HO2c)).mono ?_
  rintro e w4 ⟨rfl, ho4, hgr4⟩
  have hne : u.ownBlock = none ∨ u.ownBlock ≠ some g := by
    cases hu : u.ownBlock with
    | none => exact .inl rfl
    | some k => exact .inr (fun e => by cases e; have := unhide HUL g hu; omega)
  have HO1d := hide ((unhide HO1c).kept hgr4 hne)
  have b14 : Below w.heap.size w w4 := b13.grown hgr4 (by omega) (fun k hk => by cases hk; omega)
  have hsz4 := hgr4.size
  have HO4 := hide ho4
  have i4 := hide (Mem.own_textsN (unhide HO4) (Pl.marks_length 1 L.length))
  clear HO1c HO2c hgr4 ho4 hne b13
  go_wp2_with fail
  refine (WMarks.held_any _ L.length 1 _ (by omega) (by omega) (by omega) (unhide i4)).mono ?_
  rintro e w5 ⟨rfl, b5⟩
  have i5 := hide (Mem.texts_call (unhide i4) b5)
  have HO1e := hide (Mem.own_call (unhide HO1d) b5)
  have b15 := b14.trans (b5.mono b14.size)
  clear i4 HO1d b5 b14 HO4
  go_wp2_with fail
  refine (unhide hi _ b15).mono ?_
  rintro e w6 ⟨⟨g6, c6, rfl, ho6⟩, b6⟩
  have i6 := hide (Mem.texts_call (unhide i5) b6)
  have j6 := hide (Mem.own_texts (Mem.own_call (unhide HO1e) b6))
  have k6 := hide (Mem.own_texts ho6)
  have b16 := b15.trans (b6.mono b15.size)
  clear i5 HO1e b6 b15 ho6
  go_wp2_with fail
  refine (WMarks.eq_any _ _ L _ (by omega) (unhide k6) (unhide j6)).mono ?_
  rintro e w7 ⟨rfl, b7⟩
  have i7 := hide (Mem.texts_call (unhide i6) b7)
  have b17 := b16.trans (b7.mono b16.size)
  clear i6 j6 k6 b7 b16
  go_wp2_with fail
  refine (WMarks.held_any _ L.length 1 _ (by omega) (by omega) (by omega) (unhide i7)).mono ?_
  rintro e w8 ⟨rfl, b8⟩
  have b18 := b17.trans (b8.mono b17.size)
  clear i7 b8 b17
  go_wp2
  go_ret
  exact ⟨rfl, b18⟩
end fnExactDeskWords
end Go.Proofs.YtgdfadibdioedaaDoor
