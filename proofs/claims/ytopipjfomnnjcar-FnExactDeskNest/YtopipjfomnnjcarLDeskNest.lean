/- The walk of the law FnExactDeskNest, over the walks of the two functions and of the laws' own. -/
import Derived.Test.YtopipjfomnnjcarWDesk
import Derived.Test.YtopipjfomnnjcarWMkI
import Derived.Test.YtopipjfomnnjcarWEqI
namespace Go.Proofs.Ytopipjfomnnjcar
open Go.RowKit
namespace fnExactDeskNest
set_option linter.unusedSimpArgs false in
set_option maxRecDepth 100000 in
set_option maxHeartbeats 1000000 in
theorem walk (w : World) : Calls Try.prog 3 #[] w fun e w' => e = .returned (.bool true) ∧ Below w.heap.size w w' := by
  have hs := hide (WDesk.spec_any w)
  have hi := hide WDesk.impl_any
  have heq := hide (fun (a b : Nat) (h1 h2 k1 k2 : Nat) W h3 h4 => WLaw.eqItemS_any (some ⟨a, 0, none⟩) (some ⟨b, 0, none⟩) 6 6 (Pl.desk h1 h2) (Pl.desk k1 k2) W (by rw [Pl.desk_len]; omega) (Pl.desk_r k1 k2 h1 h2) h3 h4 (Pl.desk_L h1 h2))
  have hmk := hide (fun (B g h1 h2 : Nat) W o hB => by
    have h := WMarkI.mark_any B g 6 1 (Pl.desk h1 h2) W (by rw [Pl.desk_len]; omega) (Pl.desk_L h1 h2) (by omega) (Pl.desk_ks h1 h2) o hB
    rw [Pl.desk_len, Pl.desk_k] at h; exact h)
  have hhd := hide (fun (g h1 h2 : Nat) W hv => by
    have h := WMarkI.held_any (some ⟨g, 0, none⟩) 6 1 (Pl.desk h1 h2) W (by rw [Pl.desk_len]; omega) (Pl.desk_L h1 h2) (by omega) (Pl.desk_ks h1 h2) hv
    rw [Pl.desk_len, Pl.desk_k] at h; exact h)
  simp only [Pl.desk_len] at heq
  go_enter Try.func3, Try.ntmps3
  go_wp2_with fail
  refine (unhide hs).mono ?_
  rintro e w1 ⟨g0, h1, h2, rfl, o0, b1⟩
  have HI0 := hide o0.items
  clear hs o0
  go_wp2_with fail
  refine (unhide hi _).mono ?_
  rintro e w2 ⟨g1, k1, k2, rfl, o1, b2⟩
  have HO1 := hide o1
  have HB2 := hide b2
  clear o1 b2
  go_wp2_with fail
  refine (unhide heq g1 g0 k1 k2 h1 h2 _ (unhide HO1).items (Mem.items_call (unhide HI0) (unhide HB2))).mono ?_
  rintro e w3 ⟨rfl, b3⟩
  have HO3 := hide ((unhide HO1).call b3)
  have HB3 := hide ((unhide HB2).trans (b3.mono (unhide HB2).size))
  clear HO1 HB2 b3
  go_wp2_with fail
  refine (unhide hmk w1.heap.size g1 k1 k2 _ (unhide HO3) (unhide HB3).size).mono ?_
  rintro e w4 ⟨rfl, o4, b4⟩
  have HO4 := hide o4.items
  have HB4 := hide ((unhide HB3).trans b4)
  clear o4 b4 HO3 HB3
  go_wp2_with fail
  refine (unhide hhd g1 k1 k2 _ (unhide HO4)).mono ?_
  rintro e w5 ⟨rfl, b5⟩
  have HO5 := hide (Mem.items_call (unhide HO4) b5)
  have HB5 := hide ((unhide HB4).trans (b5.mono (unhide HB4).size))
  clear HO4 HB4 b5
  go_wp2_with fail
  refine (unhide hi _).mono ?_
  rintro e w6 ⟨g2, j1, j2, rfl, o6, b6⟩
  have HO6 := hide (Mem.items_call (unhide HO5) b6)
  have HB6 := hide ((unhide HB5).trans (b6.mono (unhide HB5).size))
  have HP6 := hide o6.items
  clear HO5 HB5 o6 b6
  go_wp2_with fail
  refine (unhide heq g2 g0 j1 j2 h1 h2 _ (unhide HP6) (Mem.items_call (unhide HI0) (unhide HB6))).mono ?_
  rintro e w7 ⟨rfl, b7⟩
  have HO7 := hide (Mem.items_call (unhide HO6) b7)
  have HB7 := hide ((unhide HB6).trans (b7.mono (unhide HB6).size))
  clear HO6 HB6 b7 HP6
  go_wp2_with fail
  refine (unhide hhd g1 k1 k2 _ (unhide HO7)).mono ?_
  rintro e w8 ⟨rfl, b8⟩
  have HB8 := (unhide HB7).trans (b8.mono (unhide HB7).size)
  have bfin := b1.trans (HB8.mono b1.size)
  clear HO7 HB7 b8 HB8 b1
  go_wp2
  go_ret
  exact ⟨rfl, bfin⟩
end fnExactDeskNest
end Go.Proofs.Ytopipjfomnnjcar
