/- 'm[k]' at nodes, where there is none. -/
import Derived.Test.YteddcihodfkliaaGreatDoorPartD
import Derived.Test.YteddcihodfkliaaGreatDoorMapLook
import Derived.Test.YteddcihodfkliaaGreatDoorPartF
import Derived.Test.YteddcihodfkliaaGreatDoorWCopied
import Derived.Test.YteddcihodfkliaaGreatDoorPartQ
namespace Go.Proofs.YteddcihodfkliaaGreatDoor
open Go.RowKit Go.Maps
end Go.Proofs.YteddcihodfkliaaGreatDoor
