/- What a map of nodes reads behind a put; what is below a path. -/
import Derived.Test.YtepmojmelcngeaaGreatDoorG17
import Derived.Test.YtepmojmelcngeaaGreatDoorG22
import Derived.Test.YtepmojmelcngeaaGreatDoorWNodesJ
import Derived.Test.YtepmojmelcngeaaGreatDoorG28
import Derived.Test.YtepmojmelcngeaaGreatDoorMapPut
namespace Go.Proofs.YtepmojmelcngeaaGreatDoor
open Go.RowKit Go.Maps
namespace Pl
theorem over_below {L : List Nd} {p : ByteArray} (hL : ∀ n ∈ L, pathB n.path = true) (hp : pathB p = true) : L.any (fun n => belowP n.path p) = overL L p := by
  have key : ∀ n ∈ L, belowP n.path p = (!decide (n.path = p) && under n.path p) := fun n hn => by
    have hn' := hL n hn
    rw [belowP, hn', hp, namesR_yes hn', namesR_yes hp, under_names]
    simp
  unfold overL
  apply Bool.eq_iff_iff.2
  simp only [List.any_eq_true]
  exact ⟨fun ⟨n, hn, h⟩ => ⟨n, hn, by rw [← key n hn]; exact h⟩, fun ⟨n, hn, h⟩ => ⟨n, hn, by rw [key n hn]; exact h⟩⟩
end Pl
end Go.Proofs.YtepmojmelcngeaaGreatDoor
