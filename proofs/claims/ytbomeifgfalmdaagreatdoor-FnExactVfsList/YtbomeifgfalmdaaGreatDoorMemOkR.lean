import Derived.Test.YtbomeifgfalmdaaGreatDoorG00
namespace Go.Proofs.YtbomeifgfalmdaaGreatDoor
open Go.RowKit
namespace Mem
def okR (a:Option Addr) (cap:Nat) (L:List Pl.Nd):Prop:=(a=none∧cap=0∧L=[])∨∃g o,a=some ⟨g,o,none⟩
end Mem
end Go.Proofs.YtbomeifgfalmdaaGreatDoor
