import Derived.Test.YtppmlbofhghghaaGreatDoorG33
import Derived.Test.YtppmlbofhghghaaGreatDoorPlainDirA
import Derived.Test.YtppmlbofhghghaaGreatDoorG57
namespace Go.Proofs.YtppmlbofhghghaaGreatDoor
namespace Pl
theorem way_make {S : List Nd} (ht : za5 S = true) {n : Nd} (hn : zb n = true) (h : makC S n = 0) : ∀ q ∈ zj4 n.path, ∃ d, lk S q = some d := by
 unfold makC at h
 split at h
 ·exact way_add ht hn h
 ·cases h
theorem dir_make {S : List Nd} {n : Nd} (h : makC S n = 0) : dirS S (parent n.path) = true := by
 unfold makC at h
 split at h
 ·exact dir_add h
 ·cases h
end Pl
end Go.Proofs.YtppmlbofhghghaaGreatDoor
