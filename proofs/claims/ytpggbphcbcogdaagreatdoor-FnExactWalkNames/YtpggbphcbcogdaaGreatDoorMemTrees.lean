import Derived.Test.YtpggbphcbcogdaaGreatDoorPlainNode
import Derived.Below
namespace Go.Proofs.YtpggbphcbcogdaaGreatDoor
open Go.RowKit
namespace Pl
structure Tr where
 a:Option Addr
 cap:Nat
 L:List Nd
def Tr.val (t:Tr):Value:= .slice t.a t.L.length t.cap
end Pl
namespace Mem
end Mem
end Go.Proofs.YtpggbphcbcogdaaGreatDoor
