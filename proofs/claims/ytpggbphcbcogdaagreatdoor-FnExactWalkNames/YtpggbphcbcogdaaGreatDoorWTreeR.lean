import Derived.Test.YtpggbphcbcogdaaGreatDoorWTreeS
namespace Go.Proofs.YtpggbphcbcogdaaGreatDoor
open Go.RowKit
namespace WTreeS
theorem right_tree (a:Option Addr) (cap:Nat) (L:List Pl.Nd) (w:World) (hl:L.length≤1048576) (hv:Mem.zb5 w a L) (hok:∀n∈L,n.path.size≤1048576∧n.data.size≤1048576):
  Calls Tryz.prog 66 #[.agg #[.slice a L.length cap]] w fun e w'=>e= .returned (.bool (Pl.zb9 L))∧Below w.heap.size w w':=by
 have h:=zh9 a cap L w hl hv hok;rw [Pl.tree_same] at h;exact h
end WTreeS
end Go.Proofs.YtpggbphcbcogdaaGreatDoor
