import Derived.Test.YtonffldjbmednaaGreatDoorG06
import Derived.Laws.AppendOwn
import Derived.Test.YtonffldjbmednaaGreatDoorProg
import Derived.Maps.OwnSet
import Derived.Maps.RangeWalk
namespace Go.Proofs.YtonffldjbmednaaGreatDoor
namespace Pl
def keepN (N:List (Int × List (Int × List Nd))) (M:List Mn) (H:List Hn):List (Int × List (Int × List Nd)):=N.filter (fun x=>!decide (held M H x.1=0))
end Pl
end Go.Proofs.YtonffldjbmednaaGreatDoor
