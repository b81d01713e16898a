/- 'm[k]' at nodes, where there is none. -/
import Derived.Test.YthkfhjemcekpgaaGreatDoorWGetP
import Derived.Test.YthkfhjemcekpgaaGreatDoorMapLook
import Derived.Test.YthkfhjemcekpgaaGreatDoorPartJ
import Derived.Test.YthkfhjemcekpgaaGreatDoorWCopied
import Derived.Test.YthkfhjemcekpgaaGreatDoorPartO
namespace Go.Proofs.YthkfhjemcekpgaaGreatDoor
open Go.RowKit Go.Maps
end Go.Proofs.YthkfhjemcekpgaaGreatDoor
