/- 'm[k]' at nodes, where there is none. -/
import Derived.Test.YtnmdmhokdcmhcaaDoorWGetP
import Derived.Test.YtnmdmhokdcmhcaaDoorMapLook
import Derived.Test.YtnmdmhokdcmhcaaDoorPartF
import Derived.Test.YtnmdmhokdcmhcaaDoorWCopied
import Derived.Test.YtnmdmhokdcmhcaaDoorWNodesJ
namespace Go.Proofs.YtnmdmhokdcmhcaaDoor
open Go.RowKit Go.Maps
end Go.Proofs.YtnmdmhokdcmhcaaDoor
