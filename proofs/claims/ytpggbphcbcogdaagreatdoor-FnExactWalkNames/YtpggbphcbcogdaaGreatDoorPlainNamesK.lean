import Derived.Test.YtpggbphcbcogdaaGreatDoorPlainIns
import Derived.Laws.IdiomStrings
namespace Go.Proofs.YtpggbphcbcogdaaGreatDoor
open Go.RowKit
namespace Pl
def insAll (out:List ByteArray) (K:List ByteArray):List ByteArray:=K.foldl (fun o t=>insN t o) out
end Pl
end Go.Proofs.YtpggbphcbcogdaaGreatDoor
