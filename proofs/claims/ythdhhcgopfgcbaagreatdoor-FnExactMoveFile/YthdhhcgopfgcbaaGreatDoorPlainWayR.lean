import Derived.Test.YthdhhcgopfgcbaaGreatDoorG16
import Derived.Test.YthdhhcgopfgcbaaGreatDoorG23
namespace Go.Proofs.YthdhhcgopfgcbaaGreatDoor
namespace Pl
theorem rem_found {S:List Nd} {p:ByteArray} (h:remC S p=0):∃d,lk S p=some d:=by
 unfold remC at h
 split at h
 ·cases h
 ·next hf=>
  cases e:lk S p with
  |none=>exact absurd e hf
  |some d=>exact ⟨d,rfl⟩
theorem way_rem {S:List Nd} (ht:za5 S=true) {p:ByteArray} (h:remC S p=0):∀q∈zi9 p,∃d,lk S q=some d:=by
 obtain ⟨d,hd⟩:=rem_found h;exact way_found ht hd
theorem rem_rise {L:List Nd} (hL:zc9 L) {p:ByteArray} (hp:za1 p=true) (lev:Int):zc9 (remL L p lev):=by
 unfold remL
 split
 ·exact (hL.off p).put (n:=⟨p,0,⟨#[]⟩,0,lev⟩) hp yb5.yn1
 ·exact hL.off p
end Pl
end Go.Proofs.YthdhhcgopfgcbaaGreatDoor
