import Derived.Test.YtcogaghibpajjaaGreatDoorPlainNX
import Derived.Test.YtcogaghibpajjaaGreatDoorG42
namespace Go.Proofs.YtcogaghibpajjaaGreatDoor
namespace Pl
def zh4 (xs : List (Int × List Nd)) : List Nd := if zc3 xs = 0 then zb4 (zc5 xs) else []
theorem sight_le (xs : List (Int × List Nd)) : (zh4 xs).length ≤ 40 := by
 unfold zh4
 split
 ·have h1 := (zw xs).1
  have h2 := zv5 (zc5 xs) (zc5 xs).length
  rw [List.take_length] at h2
  omega
 ·exact Nat.zero_le _
theorem sight_no {xs : List (Int × List Nd)} (h : zc3 xs ≠ 0) : zh4 xs = [] := if_neg h
theorem zq3 {xs : List (Int × List Nd)} (h : zc3 xs = 0) : zh4 xs = zb4 (zc5 xs) := if_pos h
end Pl
end Go.Proofs.YtcogaghibpajjaaGreatDoor
