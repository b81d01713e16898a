import Derived.Test.YtonffldjbmednaaGreatDoorG03
import Derived.Test.YtonffldjbmednaaGreatDoorG01
namespace Go.Proofs.YtonffldjbmednaaGreatDoor
namespace WSp
def nr (x:Pl.Ns):Int × Bool:=(x.d,(Pl.nest (Pl.rowO (x.Is.map Pl.It.r))).isSome)
end WSp
end Go.Proofs.YtonffldjbmednaaGreatDoor
