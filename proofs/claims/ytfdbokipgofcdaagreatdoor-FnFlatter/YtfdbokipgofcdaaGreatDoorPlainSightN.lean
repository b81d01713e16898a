import Derived.Test.YtfdbokipgofcdaaGreatDoorPlainNX
import Derived.Test.YtfdbokipgofcdaaGreatDoorG34
namespace Go.Proofs.YtfdbokipgofcdaaGreatDoor
namespace Pl
def zo9 (xs : List (Int × List Nd)) : List Nd := if zg7 xs = 0 then ze9 (zh0 xs) else []
theorem sight_le (xs : List (Int × List Nd)) : (zo9 xs).length ≤ 40 := by
 unfold zo9
 split
 ·have h1 := (view_le xs).1
  have h2 := ym6 (zh0 xs) (zh0 xs).length
  rw [List.take_length] at h2
  omega
 ·exact Nat.zero_le _
theorem sight_no {xs : List (Int × List Nd)} (h : zg7 xs ≠ 0) : zo9 xs = [] := if_neg h
theorem yr1 {xs : List (Int × List Nd)} (h : zg7 xs = 0) : zo9 xs = ze9 (zh0 xs) := if_pos h
end Pl
end Go.Proofs.YtfdbokipgofcdaaGreatDoor
