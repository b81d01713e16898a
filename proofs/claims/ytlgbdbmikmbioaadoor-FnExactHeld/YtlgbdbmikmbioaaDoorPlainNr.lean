/- An instance: its number, and whether its nest is right. -/
import Derived.Test.YtlgbdbmikmbioaaDoorG09
import Derived.Test.YtlgbdbmikmbioaaDoorG04
namespace Go.Proofs.YtlgbdbmikmbioaaDoor
namespace WSp
def nr (x : Pl.Ns) : Int × Bool := (x.d, (Pl.nest (Pl.rowO (x.Is.map Pl.It.r))).isSome)
end WSp
end Go.Proofs.YtlgbdbmikmbioaaDoor
