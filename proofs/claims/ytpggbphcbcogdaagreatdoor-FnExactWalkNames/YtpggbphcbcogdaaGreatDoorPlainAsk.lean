import Derived.Test.YtpggbphcbcogdaaGreatDoorPlainPick
namespace Go.Proofs.YtpggbphcbcogdaaGreatDoor
open Go.RowKit
namespace Pl
def zg9:Ot:=⟨false,za3,[]⟩
end Pl
end Go.Proofs.YtpggbphcbcogdaaGreatDoor
