/- Several texts of one claim in one file: PlainAns8, PlainNew. -/
import Derived.Test.YtggadpalljhiaaaGreatDoorG05
import Derived.Laws.AppendOwn
import Derived.Test.YtggadpalljhiaaaGreatDoorProg
import Derived.Maps.OwnSet
import Derived.Maps.RangeWalk
import Derived.Test.YtggadpalljhiaaaGreatDoorG40
namespace Go.Proofs.YtggadpalljhiaaaGreatDoor
section
namespace Pl
structure Ao where
 N:List (Int × List (Int × List Nd))
 M:List Mn
 H:List Hn
 next :Int
 d:Int
 p:ByteArray
 c:Int
def Ao.ill (c:Int):Ao:=⟨[],[],[],0,0,⟨#[]⟩,c⟩
structure Fits (u:Sp) (A:Ao):Prop where
 n:u.N.map Ns.r=A.N
 m:u.M=A.M
 h:u.H=A.H
 x:u.next=A.next
theorem Fits.nil (c:Int):Fits ⟨none,0,[],none,0,[],none,0,[],0⟩ (Ao.ill c):=⟨rfl,rfl,rfl,rfl⟩
structure Ao.Small (A:Ao):Prop where
 n:A.N.length≤12
 m:A.M.length≤6
 h:A.H.length≤6
 i:∀x∈A.N,x.2.length≤12∧x.2.length≠0∧∀t∈x.2,t.2.length≤40
theorem Ao.ill_small (c:Int):(Ao.ill c).Small:=⟨Nat.zero_le _,Nat.zero_le _,Nat.zero_le _,fun x h=>by cases h⟩
end Pl
end
section
namespace Pl
def newC (X:List (Int × List Nd)):Int:=if 400<X.length then 2 else if (nest (rowO X)).isSome=true then 0 else 1
def newA (X:List (Int × List Nd)):Ao:=if newC X=0 then ⟨[(1,X)],[⟨⟨#[]⟩,1,false⟩],[],2,0,⟨#[]⟩,0⟩ else Ao.ill (newC X)
theorem new_right {X:List (Int × List Nd)} (h:newC X=0):X.length≤400∧(nest (rowO X)).isSome=true:=by
 unfold newC at h
 split at h
 ·cases h
 ·split at h
  ·rename_i h1 h2
   exact ⟨by omega,h2⟩
  ·cases h
theorem newA_small (X:List (Int × List Nd)):(newA X).Small:=by
 unfold newA
 split
 ·rename_i h
  have h1:=nest_small (new_right h).2;refine ⟨by simp,by simp,by simp,fun x hx=>?_⟩;rw [List.mem_singleton] at hx;subst hx;exact h1
 ·exact Ao.ill_small _
end Pl
theorem _root_.Go.Proofs.YtggadpalljhiaaaGreatDoor.WSpO.new_sm {u:Pl.Sp} {A:Pl.Ao} (h:A.Small) (f:Pl.Fits u A):WSpO.Sm u:=by
 have e:u.N.length=A.N.length:=by have :=congrArg List.length f.n;simpa using this
 refine ⟨by rw [e];exact h.n,by rw [f.m];exact h.m,by rw [f.h];exact h.h,fun x hx=>?_⟩;have h2:x.r∈A.N:=by rw [←f.n];exact List.mem_map.2 ⟨x,hx,rfl⟩
 obtain ⟨k1,k2,k3⟩:=h.i _ h2;rw [show x.r.2=x.Is.map Pl.It.r from rfl,List.length_map] at k1 k2;exact ⟨k1,k2,fun t ht=>k3 t.r (List.mem_map.2 ⟨t,ht,rfl⟩)⟩
theorem _root_.Go.Proofs.YtggadpalljhiaaaGreatDoor.zb.new_ok {u:Pl.Sp} {Ts:List Pl.It} (hk:∀t∈Ts,t.t.L.length≤1048576∧∀n∈t.t.L,n.path.size≤1048576∧n.data.size≤1048576) (f:Pl.Fits u (Pl.newA (Ts.map Pl.It.r))):zb.OkS u 1048576:=by
 have hs:=WSpO.new_sm (Pl.newA_small _) f;have hm:=f.m;have hh:=f.h;have hn:=f.n;unfold Pl.newA at hm hh hn;refine ⟨by have :=hs.n;omega,by have :=hs.m;omega,by have :=hs.h;omega,fun x hx=>?_,fun x hx=>?_,fun x hx=>?_⟩
 ·have h2:=(hs.i x hx);refine ⟨by omega,fun t ht=>⟨by have :=h2.2.2 t ht;omega,?_⟩⟩;have h3:x.r∈u.N.map Pl.Ns.r:=List.mem_map.2 ⟨x,hx,rfl⟩;rw [hn] at h3
  split at h3
  ·rw [List.mem_singleton] at h3;have h4:x.Is.map Pl.It.r=Ts.map Pl.It.r:=congrArg Prod.snd h3;have h5:t.r∈Ts.map Pl.It.r:=by rw [←h4];exact List.mem_map.2 ⟨t,ht,rfl⟩
   obtain ⟨v,hv,e⟩:=List.mem_map.1 h5;have e5:v.t.L=t.t.L:=congrArg Prod.snd e;rw [←e5];exact (hk v hv).2
  ·cases h3
 ·rw [hm] at hx
  split at hx
  ·rw [List.mem_singleton] at hx;subst hx;decide
  ·cases hx
 ·rw [hh] at hx
  split at hx
  ·cases hx
  ·cases hx
end
end Go.Proofs.YtggadpalljhiaaaGreatDoor
