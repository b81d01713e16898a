/- The walk of the draw DrawTreeNames (by genDS.py). -/
import Derived.Test.YthkfhjemcekpgaaGreatDoorWDrawTs
namespace Go.Proofs.YthkfhjemcekpgaaGreatDoor
open Go.RowKit
namespace WSrc
set_option linter.unusedSimpArgs false in
set_option maxRecDepth 100000 in
theorem drawTNames_any (a : Option Addr) (len cap : Nat) (w : World) (hr : RowB w w.heap.size a len cap) :
    Calls Tryz.prog 23 #[.slice a len cap] w fun e w' => ∃ (va : Option Addr) (vc : Nat) (L : List Pl.Nd) (p : ByteArray), L.length ≤ 64 ∧ Pl.smallL L ∧ p.size ≤ 200 ∧ e = .returned (.tuple #[.agg #[.slice va L.length vc], .string p]) ∧ TreeV w' w.heap.size va vc L ∧ Below w.heap.size w w' := by
  have b0 : Below w.heap.size w (w.alloc (.cells #[.slice none 0 0] 25)) := (Below.refl _ _).alloc (Nat.le_refl _) _
  have hz0 : (w.alloc (.cells #[.slice none 0 0] 25)).heap.size = w.heap.size + 1 := by simp
  have h0 := hide (drawGet_any a len cap (w.alloc (.cells #[.slice none 0 0] 25)) (row_up hr b0 (by omega)))
  have BA := Mem.Blk.new w #[.slice none 0 0] 25
  clear hr
  go_enter Tryz.func23, Tryz.ntmps23
  go_wp2_with fail
  generalize w.alloc (.cells #[.slice none 0 0] 25) = w0 at h0 b0 BA hz0 ⊢
  refine (unhide h0).mono ?_
  rintro e w1 ⟨va, vc, L, p, hl, hsm, hp, rfl, tv, b1⟩
  have BA := BA.below b1 (by omega)
  have b2 := b0.trans (b1.mono (by omega))
  have HSM := hide hsm
  have TV := hide (tv.set w.heap.size 0 (.slice va L.length vc) (by omega))
  have BB := BA.put 0 (.slice va L.length vc)
  have k0 := BA.cell 0
  have kf := BA.fr 0
  have q := BB.cell
  simp only [List.getElem?_toArray, List.getElem?_cons_zero, List.getElem?_cons_succ] at k0
  clear h0 b0 b1 tv hsm
  go_wp2
  refine bodyPost_ret (v := .tuple #[.agg #[.slice va L.length vc], .string p]) (by simp [results, Tryz.results23, go_sem, q]) rfl ?_
  exact ⟨va, vc, L, p, hl, unhide HSM, hp, rfl, (unhide TV).mono (by omega), b2.setCell (Nat.le_refl _) _⟩
end WSrc
end Go.Proofs.YthkfhjemcekpgaaGreatDoor
