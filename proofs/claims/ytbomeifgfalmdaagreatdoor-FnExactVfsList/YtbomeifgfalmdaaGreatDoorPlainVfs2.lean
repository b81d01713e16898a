import Derived.Test.YtbomeifgfalmdaaGreatDoorG17
namespace Go.Proofs.YtbomeifgfalmdaaGreatDoor
namespace Pl
theorem kind_of {n:Nd} (h:zb6 n=true) (h0:n.kind≠0):n.kind=1∨n.kind=2:=by
 unfold zb6 zj0 at h;simp only [Bool.and_eq_true] at h;have h1:=h.2;rw [if_neg h0] at h1;by_cases k1:n.kind=1
 ·exact .inl k1
 ·rw [if_neg k1] at h1;by_cases k2:n.kind=2
  ·exact .inr k2
  ·rw [if_neg k2] at h1;cases h1
theorem yj9 {R:List (Int × List Nd)} {q:ByteArray} (hr:(nest (rowO R)).isSome=true) (hp:za0 q=true) (hz:¬q.size=0) {n:Nd} (h:zk1 R q=some n):(n.kind=1∨n.kind=2)∧n.data.size≤60:=by
 cases hF:nest (rowO R) with
 |none=>rw [hF] at hr;cases hr
 |some F=>
  obtain ⟨L,K, -, -,hko,hnx⟩:=zr5 hF;unfold zk1 at h;rw [hnx] at h;simp only [zc9] at h
  split at h
  ·cases h
  ·next m hm=>
   split at h
   ·cases h
   ·next h0=>
    cases h
    refine ⟨?_,(walkO_small hko.1 hko.2.2.2.1 hp hz (yc7 hm h0)).2⟩;show m.kind=1∨m.kind=2;exact kind_of (fn_right hko.1 hko.2.2.2.1 q m hp hz hm).1 h0
end Pl
end Go.Proofs.YtbomeifgfalmdaaGreatDoor
