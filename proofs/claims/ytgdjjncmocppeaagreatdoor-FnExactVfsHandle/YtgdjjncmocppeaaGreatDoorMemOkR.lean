import Derived.Test.YtgdjjncmocppeaaGreatDoorG00
namespace Go.Proofs.YtgdjjncmocppeaaGreatDoor
open Go.RowKit
namespace Mem
def okR (a:Option Addr) (cap:Nat) (L:List Pl.Nd):Prop:=(a=none∧cap=0∧L=[])∨∃g o,a=some ⟨g,o,none⟩
end Mem
end Go.Proofs.YtgdjjncmocppeaaGreatDoor
