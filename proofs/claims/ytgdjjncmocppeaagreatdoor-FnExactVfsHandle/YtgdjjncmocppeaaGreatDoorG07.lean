/- Several texts of one claim in one file: PlainNr, PlainNestAt, PlainAns8. -/
import Derived.Test.YtgdjjncmocppeaaGreatDoorG01
import Derived.Test.YtgdjjncmocppeaaGreatDoorG05
import Derived.Test.YtgdjjncmocppeaaGreatDoorG06
namespace Go.Proofs.YtgdjjncmocppeaaGreatDoor
section
namespace WSp
def nr (x:Pl.Ns):Int × Bool:=(x.d,(Pl.nest (Pl.rowO (x.Is.map Pl.It.r))).isSome)
end WSp
end
section
namespace Pl
def zm7:List (Int × List (Int × List Nd))→Int→Option (List (Int × List Nd))
 | [],_=>none
 |x::r,d=>if x.1=d then some x.2 else zm7 r d
theorem nestAt_inst (N:List Ns) (d:Int):(zc6 (N.map (·.d)) d<0→zm7 (N.map Ns.r) d=none)∧(∀k:Nat,zc6 (N.map (·.d)) d=(k:Int)→∃x,N[k]? =some x∧zm7 (N.map Ns.r) d=some (x.Is.map It.r)):=by
 induction N with
 |nil=>exact ⟨fun _=>rfl,fun k h=>by simp [zc6] at h⟩
 |cons x N ih=>
  simp only [List.map_cons,zc6,zm7];by_cases h:x.d=d
  ·rw [if_pos h];refine ⟨fun h0=>by omega,fun k hk=>⟨x,?_,by rw [if_pos (show x.r.1=d from h)];rfl⟩⟩;obtain rfl:k=0:=by omega
   rfl
  ·rw [if_neg h,if_neg (show ¬x.r.1=d from h)];by_cases h2:zc6 (N.map (·.d)) d<0
   ·rw [if_pos h2];exact ⟨fun _=>ih.1 h2,fun k hk=>by omega⟩
   ·rw [if_neg h2];refine ⟨fun h0=>by omega,fun k hk=>?_⟩;obtain ⟨k,rfl⟩:∃j,k=j+1:=⟨k - 1,by omega⟩;obtain ⟨y,h3,h4⟩:=ih.2 k (by omega);exact ⟨y,by simpa using h3,h4⟩
theorem nestAt_get {P:Nv→Ns→Prop}:∀ (E:List (Int × Nv)) (N:List Ns) (d:Int),E.map (·.1)=N.map (·.d)→(∀ (i:Nat) y,E[i]? =some y→∃x,N[i]? =some x∧P y.2 x)→(d∉E.map (·.1)→zm7 (N.map Ns.r) d=none)∧(d∈E.map (·.1)→∃x,zm7 (N.map Ns.r) d=some (x.Is.map It.r)∧P (getN E d) x∧x∈N):=by
 intro E
 induction E with
 |nil=>
  intro N d h _;have :N=[]:=by cases N with |nil=>rfl |cons a b=>simp at h
  subst this;exact ⟨fun _=>rfl,fun h=>by simp at h⟩
 |cons y E ih=>
  intro N d h hP;cases N with
  |nil=>simp at h
  |cons x N=>
   simp only [List.map_cons,List.cons.injEq] at h;obtain ⟨h1,h2⟩:=h
   obtain ⟨i1,i2⟩:=ih N d h2 (fun i z hz=>by
    obtain ⟨x',k1,k2⟩:=hP (i+1) z (by simpa using hz)
    exact ⟨x',by simpa using k1,k2⟩)
   simp only [List.map_cons,zm7,List.mem_cons];by_cases e:y.1=d
   ·have e2:x.r.1=d:=by show x.d=d;rw [←h1];exact e
    rw [if_pos e2];refine ⟨fun hn=>absurd (Or.inl e.symm) hn,fun _=>?_⟩;obtain ⟨x',k1,k2⟩:=hP 0 y rfl;simp at k1
    subst k1;refine ⟨x,rfl,?_, .inl rfl⟩;unfold getN;rw [List.find?_cons,decide_eq_true e];exact k2
   ·have e2:¬x.r.1=d:=by show ¬x.d=d;rw [←h1];exact e
    rw [if_neg e2];refine ⟨fun hn=>i1 (fun hm=>hn (.inr hm)),fun hm=>?_⟩
    rcases hm with hm|hm
    ·exact absurd hm.symm e
    obtain ⟨x',k1,k2,k3⟩:=i2 hm;refine ⟨x',k1,?_, .inr k3⟩;unfold getN at k2 ⊢;rw [List.find?_cons,decide_eq_false e];exact k2
theorem nest_small {xs:List (Int × List Nd)} (h:(nest (rowO xs)).isSome=true):xs.length≤12∧xs.length≠0∧∀x∈xs,x.2.length≤40:=by
 cases hF:nest (rowO xs) with
 |none=>rw [hF] at h;cases h
 |some F=>
  obtain ⟨L,k, -,hfl,hko, -⟩:=ya8 hF;refine ⟨nest_len hF,?_,fun x hx=>?_⟩
  ·rw [←hfl];simp [Fx.flat]
  ·rw [←hfl] at hx;have :=(Fx.ok_mem hko x hx).1;unfold zc7 at this;exact of_decide_eq_true ((Bool.and_eq_true _ _).mp this).1
theorem yd7 {N:List Ns} {M:List Mn} {H:List Hn} {next :Int} {way:ByteArray→Bool} (h:zb6 next (N.map WSp.nr) M H way=true):∀x∈N,(nest (rowO (x.Is.map It.r))).isSome=true:=by
 rw [←yg4] at h;unfold zt9 zo3 at h;simp only [Bool.and_eq_true,all_iff] at h;intro x hx;obtain ⟨k,hk,e⟩:=List.mem_iff_getElem.1 hx;have h1:=h.1.1.1.2 k (by simpa using hk);have ht:(N.map WSp.nr)[k]? =some (WSp.nr x):=by rw [List.getElem?_map,List.getElem?_eq_getElem hk,e];rfl
 simp only [zj8,ht,Bool.and_eq_true] at h1;exact h1.1
end Pl
end
section
namespace Pl
theorem steps_apart {l:List Int} (h1:∀ (k:Nat) (x:Int),l[k]? =some x→∀ (j:Nat) (p:Int),k=j+1→l[j]? =some p→p<x):l.Pairwise (· < ·):=by
 rw [List.pairwise_iff_getElem];intro i j hi hj hij
 induction j with
 |zero=>omega
 |succ j ih=>
  have h2:=h1 (j+1) l[j+1] (List.getElem?_eq_getElem hj) j (l[j]'(by omega)) rfl (List.getElem?_eq_getElem (by omega));by_cases e:i=j
  ·subst e;exact h2
  ·have :=ih (by omega) (by omega);omega
theorem yc9 {next :Int} {N:List Ns} {M:List Mn} {H:List Hn} {way:ByteArray→Bool} (h:zb6 next (N.map WSp.nr) M H way=true):
  N.length≤12∧M.length≤6∧H.length≤6∧(∀x∈N,x.Is.length≤12∧x.Is.length≠0∧∀t∈x.Is,t.t.L.length≤40)∧(N.map (·.d)).Pairwise (· < ·)∧(∀d∈N.map (·.d),1≤d∧d≤1000000)∧1≤next ∧next ≤1000000:=by
 unfold zb6 at h;simp only [Bool.and_eq_true] at h;obtain ⟨⟨⟨hn,hh⟩,hm⟩,hi⟩:=h;have hn:=(zn4 _ _ _).1 hn;unfold zm5 at hh;unfold zi0 at hm;unfold zm2 at hi;simp only [Bool.and_eq_true,decide_eq_true_eq,List.length_map] at hh hm hi
 have key:∀ (k:Nat) (x:Ns),N[k]? =some x→isB x.d 1 (next - 1)=true∧(nest (rowO (x.Is.map It.r))).isSome=true∧∀ (j:Nat) (y:Ns),k=j+1→N[j]? =some y→y.d<x.d:=fun k x hk=>by
  have h1:=hi.2;rw [List.all_eq_true] at h1;have h2:=h1 k (List.mem_range.2 (List.getElem?_eq_some_iff.1 hk).1);unfold zj9 at h2;rw [List.getElem?_map,hk] at h2;simp only [Option.map_some,Bool.and_eq_true] at h2;refine ⟨h2.1.1.1,h2.1.2,fun j y e hy=>?_⟩;subst e;have h3:=h2.1.1.2;simp only [List.getElem?_map,hy,Option.map_some,decide_eq_true_eq] at h3;exact h3
 refine ⟨hi.1,hm.1.1.2,hh.1,fun x hx=>?_,steps_apart fun k x hx j p e hp=>?_,fun d hd=>?_,hn⟩
 ·obtain ⟨k,hk⟩:=List.getElem?_of_mem hx;have :=nest_small (key k x hk).2.1;rw [List.length_map] at this;exact ⟨this.1,this.2.1,fun t ht=>this.2.2 t.r (List.mem_map.2 ⟨t,ht,rfl⟩)⟩
 ·rw [List.getElem?_map] at hx hp;obtain ⟨x',h1,rfl⟩:=Option.map_eq_some_iff.1 hx;obtain ⟨p',h2,rfl⟩:=Option.map_eq_some_iff.1 hp;exact (key k x' h1).2.2 j p' e h2
 ·obtain ⟨x,hx,rfl⟩:=List.mem_map.1 hd;obtain ⟨k,hk⟩:=List.getElem?_of_mem hx;have :=(zn4 _ _ _).1 (key k x hk).1;omega
structure Ao where
 N:List (Int × List (Int × List Nd))
 M:List Mn
 H:List Hn
 next :Int
 d:Int
 p:ByteArray
 c:Int
def Ao.ill (c:Int):Ao:=⟨[],[],[],0,0,⟨#[]⟩,c⟩
structure Fits (u:Sp) (A:Ao):Prop where
 n:u.N.map Ns.r=A.N
 m:u.M=A.M
 h:u.H=A.H
 x:u.next=A.next
theorem Fits.nil (c:Int):Fits ⟨none,0,[],none,0,[],none,0,[],0⟩ (Ao.ill c):=⟨rfl,rfl,rfl,rfl⟩
structure Ao.Small (A:Ao):Prop where
 n:A.N.length≤12
 m:A.M.length≤6
 h:A.H.length≤6
 i:∀x∈A.N,x.2.length≤12∧x.2.length≠0∧∀t∈x.2,t.2.length≤40
end Pl
end
end Go.Proofs.YtgdjjncmocppeaaGreatDoor
