import Derived.Test.YtpggbphcbcogdaaGreatDoorPlain
import Derived.WalkKit
namespace Go.Proofs.YtpggbphcbcogdaaGreatDoor
namespace Pl
def za8:List ByteArray→List ByteArray→Bool
 | [],[]=>false
 | [],_::_=>true
 |_::_,[]=>false
 |a::A,b::B=>if a=b then za8 A B else Op.bytesLess a.toList b.toList
theorem less_same {A B:List ByteArray} {k:Nat} {a b:ByteArray} (ha:A[k]? =some a) (hb:B[k]? =some b) (h:a=b):za8 (A.drop k) (B.drop k)=za8 (A.drop (k+1)) (B.drop (k+1)):=by
 have h1:=(List.getElem?_eq_some_iff.1 ha);have h2:=(List.getElem?_eq_some_iff.1 hb);rw [List.drop_eq_getElem_cons h1.1,List.drop_eq_getElem_cons h2.1,za8,if_pos (by rw [h1.2,h2.2];exact h)]
theorem zx5 {A B:List ByteArray} {k:Nat} {a b:ByteArray} (ha:A[k]? =some a) (hb:B[k]? =some b) (h:a≠b):za8 (A.drop k) (B.drop k)=Op.bytesLess a.toList b.toList:=by
 have h1:=(List.getElem?_eq_some_iff.1 ha);have h2:=(List.getElem?_eq_some_iff.1 hb);rw [List.drop_eq_getElem_cons h1.1,List.drop_eq_getElem_cons h2.1,za8,if_neg (by rw [h1.2,h2.2];exact h),h1.2,h2.2]
theorem less_end {A B:List ByteArray} {k:Nat} (h:k=A.length∧k≤B.length∨k=B.length∧k≤A.length):za8 (A.drop k) (B.drop k)=decide (A.length<B.length):=by
 rcases h with ⟨rfl,h⟩|⟨rfl,h⟩
 ·rw [List.drop_length];by_cases hl:A.length<B.length
  ·rw [List.drop_eq_getElem_cons hl];simp [za8,hl]
  ·rw [List.drop_of_length_le (by omega)];simp [za8,hl]
 ·rw [List.drop_length];have hn:¬A.length<B.length:=by omega
  by_cases hl:B.length<A.length
  ·rw [List.drop_eq_getElem_cons hl];simp [za8,hn]
  ·rw [List.drop_of_length_le (by omega)];simp [za8,hn]
end Pl
end Go.Proofs.YtpggbphcbcogdaaGreatDoor
