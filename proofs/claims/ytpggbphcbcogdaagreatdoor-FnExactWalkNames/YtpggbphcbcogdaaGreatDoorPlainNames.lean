import Derived.Test.YtpggbphcbcogdaaGreatDoorPlainPar
import Derived.Test.YtpggbphcbcogdaaGreatDoorPlainNode
namespace Go.Proofs.YtpggbphcbcogdaaGreatDoor
namespace Pl
def za6 (p:ByteArray) (L:List Nd):List ByteArray:=(L.filter (fun n=>decide (parent n.path=p))).map (fun n=>base n.path)
theorem kids_in {L:List Nd} {p:ByteArray} {k:Nat} {n:Nd} (hn:L[k]? =some n) (h:parent n.path=p):za6 p (L.take (k+1))=za6 p (L.take k)++[base n.path]:=by
 have h1:=List.getElem?_eq_some_iff.1 hn;rw [List.take_succ_eq_append_getElem h1.1,h1.2];simp [za6,h]
theorem kids_out {L:List Nd} {p:ByteArray} {k:Nat} {n:Nd} (hn:L[k]? =some n) (h:parent n.path≠p):za6 p (L.take (k+1))=za6 p (L.take k):=by
 have h1:=List.getElem?_eq_some_iff.1 hn;rw [List.take_succ_eq_append_getElem h1.1,h1.2];simp [za6,h]
theorem kids_len (p:ByteArray) (L:List Nd) (k:Nat):(za6 p (L.take k)).length≤k:=by
 have h1:(za6 p (L.take k)).length≤(L.take k).length:=by simpa [za6] using List.length_filter_le _ (L.take k)
 have h2:(L.take k).length≤k:=by simp;omega
 omega
end Pl
namespace zj0
theorem tl_eq {a b:ByteArray} (h:a≠b):(a.toList==b.toList)=false:=by
 rw [beq_eq_false_iff_ne];intro e;exact h (Pl.zh7 (by rw [ByteArray.toList_eq,ByteArray.toList_eq] at e;exact e))
end zj0
end Go.Proofs.YtpggbphcbcogdaaGreatDoor
