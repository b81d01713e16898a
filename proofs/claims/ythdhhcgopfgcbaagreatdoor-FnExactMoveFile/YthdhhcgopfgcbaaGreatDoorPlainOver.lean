import Derived.Test.YthdhhcgopfgcbaaGreatDoorWPutS
import Derived.Sort.MapsRangeIn
namespace Go.Proofs.YthdhhcgopfgcbaaGreatDoor
open Go.RowKit Go.Maps
namespace Pl
theorem yn4 {L:List Nd} {p:ByteArray} (hL:∀n∈L,za1 n.path=true) (hp:za1 p=true):L.any (fun n=>zb7 n.path p)=ze4 L p:=by
 have key:∀n∈L,zb7 n.path p=(!decide (n.path=p)&&under n.path p):=fun n hn=>by
  have hn':=hL n hn;rw [zb7,hn',hp,zc1 hn',zc1 hp,yk3];simp
 unfold ze4
 apply Bool.eq_iff_iff.2
 simp only [List.any_eq_true];exact ⟨fun ⟨n,hn,h⟩=>⟨n,hn,by rw [←key n hn];exact h⟩,fun ⟨n,hn,h⟩=>⟨n,hn,by rw [key n hn];exact h⟩⟩
end Pl
end Go.Proofs.YthdhhcgopfgcbaaGreatDoor
