import Derived.Test.YtlgbdbmikmbioaaGreatDoorG05
import Derived.Test.YtlgbdbmikmbioaaGreatDoorG01
namespace Go.Proofs.YtlgbdbmikmbioaaGreatDoor
namespace WSp
def nr (x : Pl.Ns) : Int × Bool := (x.d, (Pl.nest (Pl.rowO (x.Is.map Pl.It.r))).isSome)
end WSp
end Go.Proofs.YtlgbdbmikmbioaaGreatDoor
