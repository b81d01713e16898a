/- The walks of isLeaf of a nest. -/
import Derived.Test.YtjfnmfnjlacbeadDoorG26
namespace Go.Proofs.YtjfnmfnjlacbeadDoor
open Go.RowKit
namespace WNestI
set_option maxRecDepth 100000 in
theorem leaf_any (k : Pl.Fo) (q : Option Nat) (m : Int) (a : Option Addr) (cap : Nat) (w : World) :
    Calls Tryd.prog 37 #[.agg #[.map q, .int .i64 m, .slice a k.len cap]] w fun e w' => e = .returned (.bool (decide (k.len = 0))) ∧ Below w.heap.size w w' := by
  by_cases h : k.len = 0
  · have t : (k.len : Int) = 0 := by omega
    go_enter Tryd.func37, Tryd.ntmps37
    go_wp2
    go_ret
    exact ⟨by simp [h], (Below.refl _ _).alloc (Nat.le_refl _) _⟩
  · have t : ¬ (k.len : Int) = 0 := by omega
    go_enter Tryd.func37, Tryd.ntmps37
    go_wp2
    go_ret
    exact ⟨by simp [h], (Below.refl _ _).alloc (Nat.le_refl _) _⟩
end WNestI
end Go.Proofs.YtjfnmfnjlacbeadDoor
