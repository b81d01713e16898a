/- The walk of atEnd. -/
import Derived.Test.YtnbmpbfligdcjaaDoorG21
import Derived.Test.YtnbmpbfligdcjaaDoorG07
import Derived.BigQuiet
namespace Go.Proofs.YtnbmpbfligdcjaaDoor
open Go.RowKit
namespace WReadI
def endR (s : ByteArray) (a : Int) (f : Option Int) : Bool := f.isNone && decide (a = (s.size : Int))
set_option linter.unusedSimpArgs false in
set_option maxRecDepth 100000 in
set_option maxHeartbeats 1000000 in
theorem end_any (X : Nat) (s : ByteArray) (a : Int) (f : Option Int) (w : World) (hv : Rd w X s a f) :
    Calls Tryd.prog 43 #[.pointer (some ⟨X, 0, none⟩)] w fun e w' => e = .returned (.bool (endR s a f)) ∧ Below w.heap.size w w' := by
  have c0 := hv.cell 0
  have c1 := hv.cell 1
  have c2 := hv.cell 2
  simp only [kA0, kA1, kA2] at c0 c1 c2
  clear hv
  unfold endR
  cases f with
  | some c =>
    simp only [fv] at c2
    go_enter Tryd.func43, Tryd.ntmps43
    go_wp2_with fail
    go_quiet (fail)
    go_wp2
    go_ret
    exact ⟨rfl, Mem.below_drewN (Below.refl _ _) _⟩
  | none =>
    simp only [fv] at c2
    by_cases h : a = (s.size : Int)
    · subst h
      go_enter Tryd.func43, Tryd.ntmps43
      go_wp2_with fail
      go_quiet (fail)
      go_wp2
      go_ret
      exact ⟨by simp, Mem.below_drewN (Below.refl _ _) _⟩
    · have t0 : (a == (s.size : Int)) = false := by simpa using h
      have E : Hid (decide (a = (s.size : Int)) = false) := decide_eq_false h
      clear h
      go_enter Tryd.func43, Tryd.ntmps43
      go_wp2_with fail
      go_quiet (fail)
      go_wp2
      go_ret
      exact ⟨by rw [unhide E]; rfl, Mem.below_drewN (Below.refl _ _) _⟩
end WReadI
end Go.Proofs.YtnbmpbfligdcjaaDoor
