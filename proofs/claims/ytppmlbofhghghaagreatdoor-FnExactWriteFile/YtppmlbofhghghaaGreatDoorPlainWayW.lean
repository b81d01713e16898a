import Derived.Test.YtppmlbofhghghaaGreatDoorG33
import Derived.Test.YtppmlbofhghghaaGreatDoorG51
import Derived.Test.YtppmlbofhghghaaGreatDoorPlainDirA
namespace Go.Proofs.YtppmlbofhghghaaGreatDoor
namespace Pl
theorem way_write {S : List Nd} (ht : za5 S = true) {n : Nd} (hn : zb n = true) (h : wrtC S n = 0) : ∀ q ∈ zj4 n.path, ∃ d, lk S q = some d := by
 unfold wrtC at h
 split at h
 ·cases h
 ·exact way_add ht hn h
theorem dir_write {S : List Nd} {n : Nd} (h : wrtC S n = 0) : dirS S (parent n.path) = true := by
 unfold wrtC at h
 split at h
 ·cases h
 ·exact dir_add h
end Pl
end Go.Proofs.YtppmlbofhghghaaGreatDoor
