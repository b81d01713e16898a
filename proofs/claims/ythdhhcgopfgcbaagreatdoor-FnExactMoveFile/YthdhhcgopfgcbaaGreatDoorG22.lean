/- Several texts of one claim in one file: PlainDirA, PlainWayW. -/
import Derived.Test.YthdhhcgopfgcbaaGreatDoorG21
namespace Go.Proofs.YthdhhcgopfgcbaaGreatDoor
section
namespace Pl
theorem dir_add {S:List Nd} {n:Nd} (h:addC S n=0):dirS S (parent n.path)=true:=by
 cases hd:dirS S (parent n.path) with
 |true=>rfl
 |false=>
  unfold addC at h
  split at h
  ·cases h
  ·first |cases h|(rw [if_pos hd] at h;cases h)
end Pl
end
section
namespace Pl
theorem way_write {S:List Nd} (ht:za5 S=true) {n:Nd} (hn:za7 n=true) (h:wrtC S n=0):∀q∈zi9 n.path,∃d,lk S q=some d:=by
 unfold wrtC at h
 split at h
 ·cases h
 ·exact way_add ht hn h
theorem dir_write {S:List Nd} {n:Nd} (h:wrtC S n=0):dirS S (parent n.path)=true:=by
 unfold wrtC at h
 split at h
 ·cases h
 ·exact dir_add h
end Pl
end
end Go.Proofs.YthdhhcgopfgcbaaGreatDoor
