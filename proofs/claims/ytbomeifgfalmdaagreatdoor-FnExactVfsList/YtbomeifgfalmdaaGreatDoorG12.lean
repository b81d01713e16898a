/- Several texts of one claim in one file: PlainAns8, PlainSub, PlainVfs. -/
import Derived.Test.YtbomeifgfalmdaaGreatDoorG11
namespace Go.Proofs.YtbomeifgfalmdaaGreatDoor
section
namespace Pl
theorem steps_apart {l:List Int} (h1:∀ (k:Nat) (x:Int),l[k]? =some x→∀ (j:Nat) (p:Int),k=j+1→l[j]? =some p→p<x):l.Pairwise (· < ·):=by
 rw [List.pairwise_iff_getElem];intro i j hi hj hij
 induction j with
 |zero=>omega
 |succ j ih=>
  have h2:=h1 (j+1) l[j+1] (List.getElem?_eq_getElem hj) j (l[j]'(by omega)) rfl (List.getElem?_eq_getElem (by omega));by_cases e:i=j
  ·subst e;exact h2
  ·have :=ih (by omega) (by omega);omega
theorem yh9 {next :Int} {N:List Ns} {M:List Mn} {H:List Hn} {way:ByteArray→Bool} (h:zc4 next (N.map WSp.nr) M H way=true):
  N.length≤12∧M.length≤6∧H.length≤6∧(∀x∈N,x.Is.length≤12∧x.Is.length≠0∧∀t∈x.Is,t.t.L.length≤40)∧(N.map (·.d)).Pairwise (· < ·)∧(∀d∈N.map (·.d),1≤d∧d≤1000000)∧1≤next ∧next ≤1000000:=by
 unfold zc4 at h;simp only [Bool.and_eq_true] at h;obtain ⟨⟨⟨hn,hh⟩,hm⟩,hi⟩:=h;have hn:=(zp4 _ _ _).1 hn;unfold zo3 at hh;unfold zj6 at hm;unfold zp0 at hi;simp only [Bool.and_eq_true,decide_eq_true_eq,List.length_map] at hh hm hi
 have key:∀ (k:Nat) (x:Ns),N[k]? =some x→isB x.d 1 (next - 1)=true∧(nest (rowO (x.Is.map It.r))).isSome=true∧∀ (j:Nat) (y:Ns),k=j+1→N[j]? =some y→y.d<x.d:=fun k x hk=>by
  have h1:=hi.2;rw [List.all_eq_true] at h1;have h2:=h1 k (List.mem_range.2 (List.getElem?_eq_some_iff.1 hk).1);unfold zl1 at h2;rw [List.getElem?_map,hk] at h2;simp only [Option.map_some,Bool.and_eq_true] at h2;refine ⟨h2.1.1.1,h2.1.2,fun j y e hy=>?_⟩;subst e;have h3:=h2.1.1.2;simp only [List.getElem?_map,hy,Option.map_some,decide_eq_true_eq] at h3;exact h3
 refine ⟨hi.1,hm.1.1.2,hh.1,fun x hx=>?_,steps_apart fun k x hx j p e hp=>?_,fun d hd=>?_,hn⟩
 ·obtain ⟨k,hk⟩:=List.getElem?_of_mem hx;have :=nest_small (key k x hk).2.1;rw [List.length_map] at this;exact ⟨this.1,this.2.1,fun t ht=>this.2.2 t.r (List.mem_map.2 ⟨t,ht,rfl⟩)⟩
 ·rw [List.getElem?_map] at hx hp;obtain ⟨x',h1,rfl⟩:=Option.map_eq_some_iff.1 hx;obtain ⟨p',h2,rfl⟩:=Option.map_eq_some_iff.1 hp;exact (key k x' h1).2.2 j p' e h2
 ·obtain ⟨x,hx,rfl⟩:=List.mem_map.1 hd;obtain ⟨k,hk⟩:=List.getElem?_of_mem hx;have :=(zp4 _ _ _).1 (key k x hk).1;omega
structure Ao where
 N:List (Int × List (Int × List Nd))
 M:List Mn
 H:List Hn
 next :Int
 d:Int
 p:ByteArray
 c:Int
def Ao.ill (c:Int):Ao:=⟨[],[],[],0,0,⟨#[]⟩,c⟩
structure Fits (u:Sp) (A:Ao):Prop where
 n:u.N.map Ns.r=A.N
 m:u.M=A.M
 h:u.H=A.H
 x:u.next=A.next
theorem Fits.nil (c:Int):Fits ⟨none,0,[],none,0,[],none,0,[],0⟩ (Ao.ill c):=⟨rfl,rfl,rfl,rfl⟩
structure Ao.Small (A:Ao):Prop where
 n:A.N.length≤12
 m:A.M.length≤6
 h:A.H.length≤6
 i:∀x∈A.N,x.2.length≤12∧x.2.length≠0∧∀t∈x.2,t.2.length≤40
end Pl
end
section
open Go.RowKit
namespace Pl
structure Ao.Sub (A:Ao) (s:Sp):Prop where
 n:A.N.Sublist (s.N.map Ns.r)
 m:A.M.Sublist s.M
 h:A.H.Sublist s.H
end Pl
theorem _root_.Go.Proofs.YtbomeifgfalmdaaGreatDoor.zb0.sub_ok {s u:Pl.Sp} {A:Pl.Ao} (hk:zb0.OkS s 1048576) (hA:A.Sub s) (f:Pl.Fits u A):zb0.OkS u 1048576:=by
 have e:u.N.length=A.N.length:=by have :=congrArg List.length f.n;simpa using this
 have e1:=hA.n.length_le;rw [List.length_map] at e1;refine ⟨by have :=hk.n;omega,by rw [f.m];exact Nat.le_trans hA.m.length_le hk.m,by rw [f.h];exact Nat.le_trans hA.h.length_le hk.h,fun x hx=>?_,fun x hx=>hk.mp x (hA.m.subset (by rw [←f.m];exact hx)),fun x hx=>hk.hp x (hA.h.subset (by rw [←f.h];exact hx))⟩;have h1:x.r∈s.N.map Pl.Ns.r:=hA.n.subset (by rw [←f.n];exact List.mem_map.2 ⟨x,hx,rfl⟩);obtain ⟨y,hy,e⟩:=List.mem_map.1 h1;have e2:y.Is.map Pl.It.r=x.Is.map Pl.It.r:=congrArg Prod.snd e;have e3:y.Is.length=x.Is.length:=by have :=congrArg List.length e2;simpa using this
 refine ⟨by rw [←e3];exact (hk.each y hy).1,fun t ht=>?_⟩;have h3:t.r∈y.Is.map Pl.It.r:=by rw [e2];exact List.mem_map.2 ⟨t,ht,rfl⟩
 obtain ⟨v,hv,e4⟩:=List.mem_map.1 h3;have e5:v.t.L=t.t.L:=congrArg Prod.snd e4;rw [←e5];exact (hk.each y hy).2 v hv
theorem _root_.Go.Proofs.YtbomeifgfalmdaaGreatDoor.WSpO.sub_sm {u:Pl.Sp} {A:Pl.Ao} (h:A.Small) (f:Pl.Fits u A):WSpO.Sm u:=by
 have e:u.N.length=A.N.length:=by have :=congrArg List.length f.n;simpa using this
 refine ⟨by rw [e];exact h.n,by rw [f.m];exact h.m,by rw [f.h];exact h.h,fun x hx=>?_⟩;have h2:x.r∈A.N:=by rw [←f.n];exact List.mem_map.2 ⟨x,hx,rfl⟩
 obtain ⟨k1,k2,k3⟩:=h.i _ h2;rw [show x.r.2=x.Is.map Pl.It.r from rfl,List.length_map] at k1 k2;exact ⟨k1,k2,fun t ht=>k3 t.r (List.mem_map.2 ⟨t,ht,rfl⟩)⟩
end
section
namespace Pl
theorem nil_small {A:Ao} (h:A.N=[]∧A.M=[]∧A.H=[]∧A.next=0):A.Small:=by
 obtain ⟨h1,h2,h3, -⟩:=h;refine ⟨by simp [h1],by simp [h2],by simp [h3],fun x hx=>?_⟩;rw [h1] at hx;cases hx
theorem nil_sub {A:Ao} (s:Sp) (h:A.N=[]∧A.M=[]∧A.H=[]∧A.next=0):A.Sub s:=by
 obtain ⟨h1,h2,h3, -⟩:=h;exact ⟨by rw [h1];exact List.nil_sublist _,by rw [h2];exact List.nil_sublist _,by rw [h3];exact List.nil_sublist _⟩
theorem nil_fits {A:Ao} (h:A.N=[]∧A.M=[]∧A.H=[]∧A.next=0):Fits ⟨none,0,[],none,0,[],none,0,[],0⟩ A:=by
 obtain ⟨h1,h2,h3,h4⟩:=h;exact ⟨by rw [h1];rfl,by rw [h2],by rw [h3],by rw [h4]⟩
end Pl
end
end Go.Proofs.YtbomeifgfalmdaaGreatDoor
