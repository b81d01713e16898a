/- The specification's l07Path; what l03At tells of a tree. -/
import Derived.Test.YtnmdmhokdcmhcaaDoorWTreeS
import Derived.Test.YtnmdmhokdcmhcaaDoorPartB
import Derived.Test.YtnmdmhokdcmhcaaDoorWParentI
namespace Go.Proofs.YtnmdmhokdcmhcaaDoor
open Go.RowKit
namespace Pl
/-- A right path that is not the root. -/
def wayB (p : ByteArray) : Bool := decide (p.size ≠ 0) && pathB p
end Pl
namespace WPanic
theorem at_none {L : List Pl.Nd} {p : ByteArray} {r : Int} (h : WTreeS.AtIs L p r) (hr : r < 0) : L.find? (fun m => decide (m.path = p)) = none := by
  rcases h.out with ⟨k, n, h1, _, _⟩ | ⟨_, h2⟩
  · omega
  · exact h2
theorem at_some {L : List Pl.Nd} {p : ByteArray} {r : Int} (h : WTreeS.AtIs L p r) (hr : ¬ r < 0) : L.find? (fun m => decide (m.path = p)) ≠ none := by
  rcases h.out with ⟨k, n, _, _, h3⟩ | ⟨h1, _⟩
  · rw [h3]; simp
  · omega
set_option linter.unusedSimpArgs false in
set_option maxRecDepth 100000 in
theorem l07path_any (p : ByteArray) (w : World) (hp : p.size ≤ 1048576) :
    Calls Tryd.prog 60 #[.string p] w fun e w' => e = .returned (.bool (Pl.wayB p)) ∧ Below w.heap.size w w' := by
  have hr := hide (fun W => WPathS.right_one p W hp)
  by_cases hs : p.size = 0
  · have t1 : p.toList.isEmpty = true := by rw [Pl.empty_list]; simpa [Pl.by_nil] using hs
    rw [show Pl.wayB p = false by simp [Pl.wayB, hs]]
    go_enter Tryd.func60, Tryd.ntmps60
    go_wp2
    go_ret
    exact ⟨rfl, Below.refl _ _⟩
  · have t1 : p.toList.isEmpty = false := by rw [Pl.empty_list]; simpa [Pl.by_nil] using hs
    rw [show Pl.wayB p = Pl.pathB p by simp [Pl.wayB, hs]]
    go_enter Tryd.func60, Tryd.ntmps60
    go_wp2_with fail
    refine (unhide hr _).mono ?_
    rintro e w1 ⟨rfl, b1⟩
    go_wp2
    go_ret
    exact ⟨rfl, b1⟩
end WPanic
end Go.Proofs.YtnmdmhokdcmhcaaDoor
