import Derived.Test.YtpggbphcbcogdaaGreatDoorWNames
namespace Go.Proofs.YtpggbphcbcogdaaGreatDoor
open Go.RowKit
namespace zh3
theorem zh9 (s:ByteArray) (w:World) (hs:s.size≤1048576):
  Calls Tryz.prog 23 #[.string s] w fun e w'=>e= .returned (.bool (Pl.za2 s))∧Below w.heap.size w w':=by
 go_enter Tryz.func23,Tryz.ntmps23
 go_wp2_with fail
 refine (zn6.any s _ hs).mono ?_;rintro e w1 ⟨v,rfl,hown,hb⟩;clear hown;go_wp2
 go_ret
 exact ⟨rfl,hb⟩
end zh3
end Go.Proofs.YtpggbphcbcogdaaGreatDoor
