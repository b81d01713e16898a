import Derived.Test.YtpggbphcbcogdaaGreatDoorWNodesI
namespace Go.Proofs.YtpggbphcbcogdaaGreatDoor
open Go.RowKit
namespace zh4
structure Errs4 (w:World) (u0 u1 u2 u3:TypeId) (x0 x1 x2 x3:Value):Prop where
 c0:w.cell? ⟨0,0,none⟩=some (.iface u0 x0)
 three:zk2.Errs w u1 u2 u3 x1 x2 x3
theorem Errs4.call {w w':World} {u0 u1 u2 u3:TypeId} {x0 x1 x2 x3:Value} (h:Errs4 w u0 u1 u2 u3 x0 x1 x2 x3) (b:Below w.heap.size w w'):Errs4 w' u0 u1 u2 u3 x0 x1 x2 x3:=
 ⟨(b.cell (p:=⟨_,0,none⟩) (World.block_lt_of_cell? w ⟨_,0,none⟩ h.c0)).trans h.c0,h.three.call b⟩
end zh4
end Go.Proofs.YtpggbphcbcogdaaGreatDoor
