/- Several texts of one claim in one file: PlainSub, PlainVfs. -/
import Derived.Test.YtgdjjncmocppeaaGreatDoorG18
import Derived.Test.YtgdjjncmocppeaaGreatDoorPlainClose
import Derived.Test.YtgdjjncmocppeaaGreatDoorG12
namespace Go.Proofs.YtgdjjncmocppeaaGreatDoor
section
open Go.RowKit
namespace Pl
structure Ao.Sub (A:Ao) (s:Sp):Prop where
 n:A.N.Sublist (s.N.map Ns.r)
 m:A.M.Sublist s.M
 h:A.H.Sublist s.H
end Pl
theorem _root_.Go.Proofs.YtgdjjncmocppeaaGreatDoor.za8.sub_ok {s u:Pl.Sp} {A:Pl.Ao} (hk:za8.OkS s 1048576) (hA:A.Sub s) (f:Pl.Fits u A):za8.OkS u 1048576:=by
 have e:u.N.length=A.N.length:=by have :=congrArg List.length f.n;simpa using this
 have e1:=hA.n.length_le;rw [List.length_map] at e1;refine ⟨by have :=hk.n;omega,by rw [f.m];exact Nat.le_trans hA.m.length_le hk.m,by rw [f.h];exact Nat.le_trans hA.h.length_le hk.h,fun x hx=>?_,fun x hx=>hk.mp x (hA.m.subset (by rw [←f.m];exact hx)),fun x hx=>hk.hp x (hA.h.subset (by rw [←f.h];exact hx))⟩;have h1:x.r∈s.N.map Pl.Ns.r:=hA.n.subset (by rw [←f.n];exact List.mem_map.2 ⟨x,hx,rfl⟩);obtain ⟨y,hy,e⟩:=List.mem_map.1 h1;have e2:y.Is.map Pl.It.r=x.Is.map Pl.It.r:=congrArg Prod.snd e;have e3:y.Is.length=x.Is.length:=by have :=congrArg List.length e2;simpa using this
 refine ⟨by rw [←e3];exact (hk.each y hy).1,fun t ht=>?_⟩;have h3:t.r∈y.Is.map Pl.It.r:=by rw [e2];exact List.mem_map.2 ⟨t,ht,rfl⟩
 obtain ⟨v,hv,e4⟩:=List.mem_map.1 h3;have e5:v.t.L=t.t.L:=congrArg Prod.snd e4;rw [←e5];exact (hk.each y hy).2 v hv
theorem _root_.Go.Proofs.YtgdjjncmocppeaaGreatDoor.WSpO.sub_sm {u:Pl.Sp} {A:Pl.Ao} (h:A.Small) (f:Pl.Fits u A):WSpO.Sm u:=by
 have e:u.N.length=A.N.length:=by have :=congrArg List.length f.n;simpa using this
 refine ⟨by rw [e];exact h.n,by rw [f.m];exact h.m,by rw [f.h];exact h.h,fun x hx=>?_⟩;have h2:x.r∈A.N:=by rw [←f.n];exact List.mem_map.2 ⟨x,hx,rfl⟩
 obtain ⟨k1,k2,k3⟩:=h.i _ h2;rw [show x.r.2=x.Is.map Pl.It.r from rfl,List.length_map] at k1 k2;exact ⟨k1,k2,fun t ht=>k3 t.r (List.mem_map.2 ⟨t,ht,rfl⟩)⟩
end
section
namespace Pl
def zo (o:Option Nd):Ao:=match o with
 |none=>Ao.ill 6
 |some n=>if n.kind=2 then ⟨[],[],[],0,n.time,n.data,0⟩ else Ao.ill 11
def zh7 (o:Option Nd) (q:ByteArray):Ao:=if q.size=0 then Ao.ill 11 else zo o
def handO (s:Sp) (d:Int):Option Nd:=match s.H[(handI s.H d).toNat]? with
 |none=>none
 |some h=>sightW (zm7 (s.N.map Ns.r) h.i) h.p
def vhandA (s:Sp) (d:Int) (R:Bool):Ao:=if R=true then (if handI s.H d<0 then Ao.ill 6 else zo (handO s d)) else Ao.ill 1
theorem fileA_nil (o:Option Nd):(zo o).N=[]∧(zo o).M=[]∧(zo o).H=[]∧(zo o).next=0:=by
 unfold zo
 split
 ·exact ⟨rfl,rfl,rfl,rfl⟩
 ·split <;> exact ⟨rfl,rfl,rfl,rfl⟩
theorem vhandA_nil (s:Sp) (d:Int) (R:Bool):(vhandA s d R).N=[]∧(vhandA s d R).M=[]∧(vhandA s d R).H=[]∧(vhandA s d R).next=0:=by
 unfold vhandA
 split
 ·split
  ·exact ⟨rfl,rfl,rfl,rfl⟩
  ·exact fileA_nil _
 ·exact ⟨rfl,rfl,rfl,rfl⟩
theorem nil_small {A:Ao} (h:A.N=[]∧A.M=[]∧A.H=[]∧A.next=0):A.Small:=by
 obtain ⟨h1,h2,h3, -⟩:=h;refine ⟨by simp [h1],by simp [h2],by simp [h3],fun x hx=>?_⟩;rw [h1] at hx;cases hx
theorem nil_sub {A:Ao} (s:Sp) (h:A.N=[]∧A.M=[]∧A.H=[]∧A.next=0):A.Sub s:=by
 obtain ⟨h1,h2,h3, -⟩:=h;exact ⟨by rw [h1];exact List.nil_sublist _,by rw [h2];exact List.nil_sublist _,by rw [h3];exact List.nil_sublist _⟩
theorem nil_fits {A:Ao} (h:A.N=[]∧A.M=[]∧A.H=[]∧A.next=0):Fits ⟨none,0,[],none,0,[],none,0,[],0⟩ A:=by
 obtain ⟨h1,h2,h3,h4⟩:=h;exact ⟨by rw [h1];rfl,by rw [h2],by rw [h3],by rw [h4]⟩
theorem vhandA_small (s:Sp) (d:Int) (R:Bool):(vhandA s d R).Small:=nil_small (vhandA_nil s d R)
theorem vhandA_sub (s:Sp) (d:Int) (R:Bool):(vhandA s d R).Sub s:=nil_sub s (vhandA_nil s d R)
end Pl
end
end Go.Proofs.YtgdjjncmocppeaaGreatDoor
