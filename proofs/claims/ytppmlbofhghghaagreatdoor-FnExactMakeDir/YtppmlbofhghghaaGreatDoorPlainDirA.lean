import Derived.Test.YtppmlbofhghghaaGreatDoorG33
namespace Go.Proofs.YtppmlbofhghghaaGreatDoor
namespace Pl
theorem dir_add {S : List Nd} {n : Nd} (h : addC S n = 0) : dirS S (parent n.path) = true := by
 cases hd : dirS S (parent n.path) with
 | true => rfl
 | false =>
  unfold addC at h
  split at h
  ·cases h
  ·first | cases h | (rw [if_pos hd] at h; cases h)
end Pl
end Go.Proofs.YtppmlbofhghghaaGreatDoor
