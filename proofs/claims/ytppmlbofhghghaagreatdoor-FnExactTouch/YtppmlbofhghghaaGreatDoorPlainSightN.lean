import Derived.Test.YtppmlbofhghghaaGreatDoorG11
import Derived.Test.YtppmlbofhghghaaGreatDoorWPlainQ
namespace Go.Proofs.YtppmlbofhghghaaGreatDoor
namespace Pl
def zc5 (xs : List (Int × List Nd)) : List Nd := if ze xs = 0 then zd4 (ze8 xs) else []
theorem yd9 (xs : List (Int × List Nd)) : (zc5 xs).length ≤ 40 := by
 unfold zc5
 split
 ·have h1 := (view_le xs).1
  have h2 := yb3 (ze8 xs) (ze8 xs).length
  rw [List.take_length] at h2
  omega
 ·exact Nat.zero_le _
theorem sight_no {xs : List (Int × List Nd)} (h : ze xs ≠ 0) : zc5 xs = [] := if_neg h
theorem yj8 {xs : List (Int × List Nd)} (h : ze xs = 0) : zc5 xs = zd4 (ze8 xs) := if_pos h
end Pl
end Go.Proofs.YtppmlbofhghghaaGreatDoor
