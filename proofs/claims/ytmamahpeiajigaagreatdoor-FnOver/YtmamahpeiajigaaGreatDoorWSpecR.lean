/- The specification's PathRight, under the bound of the laws. -/
import Derived.Test.YtmamahpeiajigaaGreatDoorWPathS
import Derived.Test.YtmamahpeiajigaaGreatDoorPlainR
namespace Go.Proofs.YtmamahpeiajigaaGreatDoor
open Go.RowKit
namespace WPathS
theorem right_one (s : ByteArray) (w : World) (hs : s.size ≤ 1048576) :
    Calls Tryz.prog 30 #[.string s] w fun e w' => e = .returned (.bool (Pl.pathB s)) ∧ Below w.heap.size w w' := right_any s w (by unfold maxLen; omega)
end WPathS
end Go.Proofs.YtmamahpeiajigaaGreatDoor
