import Derived.Test.YtpggbphcbcogdaaGreatDoorPlainNames
import Derived.Test.YtpggbphcbcogdaaGreatDoorPlainKid
namespace Go.Proofs.YtpggbphcbcogdaaGreatDoor
namespace Pl
theorem zq8 {q:ByteArray} (h:za2 q=true):(∀t∈names q,zb4 t=true)∧(names q).length≤6:=by
 have e:=ze2 q;rw [zc0 h] at e;exact e
theorem kid_in {L:List Nd} {q t:ByteArray} (hL:zb9 L=true) (ht:t∈za6 q L):∃n∈L,names n.path=names q++[t]∧za2 n.path=true:=by
 unfold za6 at ht;obtain ⟨n,hn,rfl⟩:=List.mem_map.1 ht;obtain ⟨hn1,hn2⟩:=List.mem_filter.1 hn;have h1:=zs2 hL n hn1;exact ⟨n,hn1,kid_names h1.1 h1.2 (of_decide_eq_true hn2),h1.1⟩
theorem zv2 {q t p:ByteArray} (_:za2 p=true) (h:names p=names q++[t]):ze8 q t=p:=by
 rw [ze8,←h,zl4]
end Pl
end Go.Proofs.YtpggbphcbcogdaaGreatDoor
