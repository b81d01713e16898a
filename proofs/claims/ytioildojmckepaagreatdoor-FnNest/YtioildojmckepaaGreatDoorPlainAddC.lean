import Derived.Test.YtioildojmckepaaGreatDoorG01
import Derived.Test.YtioildojmckepaaGreatDoorG08
namespace Go.Proofs.YtioildojmckepaaGreatDoor
open Go.RowKit
namespace Pl
def addC (L : List Nd) (n : Nd) : Int :=
 if (parent n.path).size ≠ 0 ∧ L.find? (fun m => decide (m.path = parent n.path)) = none then 6 else if dirS L (parent n.path) = false then 12 else if n.kind ≠ 1 ∧ zj7 L n.path = true then 11 else if L.find? (fun m => decide (m.path = n.path)) = none ∧ 40 ≤ L.length then 9 else 0
def addO (L : List Nd) (n : Nd) : List Nd := if addC L n = 0 then putL L n else []
def putC (L : List Nd) (n : Nd) : Int := if zb1 L = true ∧ zc1 n = true then addC L n else 1
def putO (L : List Nd) (n : Nd) : List Nd := if zb1 L = true ∧ zc1 n = true then addO L n else []
theorem putO_len (L : List Nd) (n : Nd) : (putO L n).length ≤ L.length + 1 := by
 unfold putO addO
 split
 ·split
  ·exact put_len L n
  ·exact Nat.zero_le _
 ·exact Nat.zero_le _
end Pl
end Go.Proofs.YtioildojmckepaaGreatDoor
