import Derived.Test.YtppmlbofhghghaaGreatDoorG01
import Derived.Test.YtppmlbofhghghaaGreatDoorG28
import Derived.Calls
import Derived.Lone
import Derived.RunT
import Derived.Shelf.SlSortCmp.NoneTotal
import Derived.Lib.QuietBelow
import Derived.Maps.OwnSet
import Derived.Maps.RangeWalk
import Derived.Sort.MapsRangeIn
namespace Go.Proofs.YtppmlbofhghghaaGreatDoor
open Go.RowKit Go.Maps
namespace Pl
theorem yo4 {L : List Nd} {p : ByteArray} (hL : ∀ n ∈ L, za3 n.path = true) (hp : za3 p = true) : L.any (fun n => zc0 n.path p) = ze9 L p := by
 have key : ∀ n ∈ L, zc0 n.path p = (!decide (n.path = p) && under n.path p) := fun n hn => by
  have hn' := hL n hn
  rw [zc0, hn', hp, zc8 hn', zc8 hp, ym4]
  simp
 unfold ze9
 apply Bool.eq_iff_iff.2
 simp only [List.any_eq_true]
 exact ⟨fun ⟨n, hn, h⟩ => ⟨n, hn, by rw [← key n hn]; exact h⟩, fun ⟨n, hn, h⟩ => ⟨n, hn, by rw [key n hn]; exact h⟩⟩
end Pl
end Go.Proofs.YtppmlbofhghghaaGreatDoor
