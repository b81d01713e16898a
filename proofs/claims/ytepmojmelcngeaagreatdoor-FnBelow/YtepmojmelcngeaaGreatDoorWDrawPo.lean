/- The walk of the draw DrawPlainOf. -/
import Derived.Test.YtepmojmelcngeaaGreatDoorWDrawTr
import Derived.Test.YtepmojmelcngeaaGreatDoorG26
namespace Go.Proofs.YtepmojmelcngeaaGreatDoor
open Go.RowKit
namespace WSrc
theorem row_upP {w W : World} {S len cap : Nat} {a : Option Addr} (h : RowB w w.heap.size a len cap) (b : Below w.heap.size w W) (hS : w.heap.size ≤ S) : RowB W S a len cap :=
  ⟨h.1, h.2.1, fun i hi => by
    obtain ⟨g, o, n, h1, h2, h3, h4⟩ := h.2.2 i hi
    exact ⟨g, o, n, h1, Nat.lt_of_lt_of_le h2 hS, h3, (b.cell (p := ⟨g, o + i, none⟩) h2).trans h4⟩⟩
set_option linter.unusedSimpArgs false in
set_option maxRecDepth 100000 in
set_option maxHeartbeats 2000000 in
theorem drawPlain_any (a : Option Addr) (len cap : Nat) (w : World) (hr : RowB w w.heap.size a len cap) :
    Calls Tryz.prog 36 #[.slice a len cap] w fun e w' => ∃ (va : Option Addr) (vc : Nat) (L : List Pl.Nd), L.length ≤ 64 ∧ Pl.smallL L ∧ e = .returned (.agg #[.slice va L.length vc]) ∧ TreeV w' w.heap.size va vc L ∧ Below w.heap.size w w' := by
  have b0 : Below w.heap.size w (w.alloc (.cells #[.slice none 0 0] 31)) := (Below.refl _ _).alloc (Nat.le_refl _) _
  have hz0 : (w.alloc (.cells #[.slice none 0 0] 31)).heap.size = w.heap.size + 1 := by simp
  have h0 := hide (source_any a len cap (w.alloc (.cells #[.slice none 0 0] 31)) (row_upP hr b0 (by omega)))
  have BA := Mem.Blk.new w #[.slice none 0 0] 31
  rw [hz0] at h0
  clear hr
  go_enter Tryz.func36, Tryz.ntmps36
  go_wp2_with fail
  generalize w.alloc (.cells #[.slice none 0 0] 31) = w0 at h0 b0 BA hz0 ⊢
  refine (unhide h0).mono ?_
  rintro e w1 ⟨rfl, hs, b1⟩
  have BA := BA.below b1 (by omega)
  have b1 := b0.trans (b1.mono (by omega))
  clear h0 b0
  go_wp2_with fail
  refine (tree_any (w.heap.size + 1) a len cap _ hs).mono ?_
  rintro e w2 ⟨va, vc, L, hl, hsm, rfl, tv, s2, g2⟩
  have HSM := hide hsm
  have hlt := src_lt hs
  have BA := BA.grown g2 (by simp)
  have b2 := b1.grown g2 b1.size (fun q hq => by cases hq; omega)
  have TV := hide ((tv.mono (show w.heap.size + 1 ≤ w1.heap.size by omega)).set w.heap.size 0 (.slice va L.length vc) (by omega))
  have BB := BA.put 0 (.slice va L.length vc)
  have k0 := BA.cell 0
  have kf := BA.fr 0
  have q := BB.cell
  simp only [kA0, kA1, kA2] at k0
  clear hs s2 g2 tv hsm b1
  go_wp2
  refine bodyPost_ret (v := .agg #[.slice va L.length vc]) (by simp [results, Tryz.results36, go_sem, q]) rfl ?_
  exact ⟨va, vc, L, hl, unhide HSM, rfl, (unhide TV).mono (by omega), b2.setCell (Nat.le_refl _) _⟩
end WSrc
end Go.Proofs.YtepmojmelcngeaaGreatDoor
