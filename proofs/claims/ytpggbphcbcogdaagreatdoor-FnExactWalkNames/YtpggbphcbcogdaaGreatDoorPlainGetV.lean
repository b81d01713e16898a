import Derived.Test.YtpggbphcbcogdaaGreatDoorG01
import Derived.Deep.RegionHeld3
import Derived.Test.YtpggbphcbcogdaaGreatDoorProg
import Derived.WalkSpells
import Derived.Lib.OthersKept
import Derived.BigQuiet
namespace Go.Proofs.YtpggbphcbcogdaaGreatDoor
open Go.RowKit
namespace Pl
theorem zx {L:List Nd} (h:zb9 L=true):L.Pairwise (fun a b=>a.path≠b.path):=by
 have h2:goI [] ⟨#[]⟩ L=true:=by unfold zb9 at h;simp at h;exact h.2
 exact (goI_rise L [] ⟨#[]⟩ h2 (zi rfl).1).1.imp (fun {a b} hab e=>by rw [e,zm9] at hab;cases hab)
end Pl
end Go.Proofs.YtpggbphcbcogdaaGreatDoor
