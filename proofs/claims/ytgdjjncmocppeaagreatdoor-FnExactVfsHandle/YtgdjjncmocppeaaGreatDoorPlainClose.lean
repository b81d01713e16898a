import Derived.Test.YtgdjjncmocppeaaGreatDoorG05
import Derived.Maps.RangeWalk
namespace Go.Proofs.YtgdjjncmocppeaaGreatDoor
namespace Pl
def handI:List Hn→Int→Int
 | [],_=> -1
 |h::r,d=>if h.d=d then 0 else if handI r d<0 then -1 else handI r d+1
theorem handI_inst (H:List Hn) (d:Int):handI H d=zc6 (H.map (·.d)) d:=by
 induction H with
 |nil=>rfl
 |cons h r ih=>
  rw [handI,ih];rfl
theorem handI_at {H:List Hn} {d:Int} {k:Nat} (h:handI H d=(k:Int)):∃t,H[k]? =some t:=by
 induction H generalizing k with
 |nil=>rw [handI] at h;omega
 |cons x r ih=>
  rw [handI] at h;by_cases e:x.d=d
  ·rw [if_pos e] at h;obtain rfl:k=0:=by omega
   exact ⟨x,rfl⟩
  ·rw [if_neg e] at h;by_cases h2:handI r d<0
   ·rw [if_pos h2] at h;omega
   ·rw [if_neg h2] at h;obtain ⟨k,rfl⟩:∃j,k=j+1:=⟨k - 1,by omega⟩;obtain ⟨t,ht⟩:=ih (k:=k) (by omega);exact ⟨t,by simpa using ht⟩
theorem handI_ge (H:List Hn) (d:Int): -1≤handI H d:=by
 cases H with
 |nil=>rw [handI];omega
 |cons x r=>rw [handI];split;omega;split <;> omega
end Pl
end Go.Proofs.YtgdjjncmocppeaaGreatDoor
