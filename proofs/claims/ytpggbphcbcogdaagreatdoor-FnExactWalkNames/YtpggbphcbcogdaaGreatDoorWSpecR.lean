import Derived.Test.YtpggbphcbcogdaaGreatDoorWPathS
namespace Go.Proofs.YtpggbphcbcogdaaGreatDoor
open Go.RowKit
namespace ze1
theorem right_one (s:ByteArray) (w:World) (hs:s.size≤1048576):
  Calls Tryz.prog 15 #[.string s] w fun e w'=>e= .returned (.bool (Pl.za2 s))∧Below w.heap.size w w':=zh9 s w (by unfold maxLen;omega)
end ze1
end Go.Proofs.YtpggbphcbcogdaaGreatDoor
