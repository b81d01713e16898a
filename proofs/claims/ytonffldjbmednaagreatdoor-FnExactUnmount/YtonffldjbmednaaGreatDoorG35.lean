/- Several texts of one claim in one file: PlainAns8, PlainDetach. -/
import Derived.Test.YtonffldjbmednaaGreatDoorG06
import Derived.Test.YtonffldjbmednaaGreatDoorPlainNr
import Derived.Test.YtonffldjbmednaaGreatDoorPlainNestAt
import Derived.Test.YtonffldjbmednaaGreatDoorPlainLead
import Derived.Test.YtonffldjbmednaaGreatDoorPlainClose
namespace Go.Proofs.YtonffldjbmednaaGreatDoor
section
namespace Pl
theorem zy7 {l:List Int} (h1:∀ (k:Nat) (x:Int),l[k]? =some x→∀ (j:Nat) (p:Int),k=j+1→l[j]? =some p→p<x):l.Pairwise (· < ·):=by
 rw [List.pairwise_iff_getElem];intro i j hi hj hij
 induction j with
 |zero=>omega
 |succ j ih=>
  have h2:=h1 (j+1) l[j+1] (List.getElem?_eq_getElem hj) j (l[j]'(by omega)) rfl (List.getElem?_eq_getElem (by omega));by_cases e:i=j
  ·subst e;exact h2
  ·have :=ih (by omega) (by omega);omega
theorem zs8 {next :Int} {N:List Ns} {M:List Mn} {H:List Hn} {way:ByteArray→Bool} (h:ze9 next (N.map WSp.nr) M H way=true):
  N.length≤12∧M.length≤6∧H.length≤6∧(∀x∈N,x.Is.length≤12∧x.Is.length≠0∧∀t∈x.Is,t.t.L.length≤40)∧(N.map (·.d)).Pairwise (· < ·)∧(∀d∈N.map (·.d),1≤d∧d≤1000000)∧1≤next ∧next ≤1000000:=by
 unfold ze9 at h;simp only [Bool.and_eq_true] at h;obtain ⟨⟨⟨hn,hh⟩,hm⟩,hi⟩:=h;have hn:=(zk7 _ _ _).1 hn;unfold zj4 at hh;unfold zi3 at hm;unfold zk4 at hi;simp only [Bool.and_eq_true,decide_eq_true_eq,List.length_map] at hh hm hi
 have key:∀ (k:Nat) (x:Ns),N[k]? =some x→isB x.d 1 (next - 1)=true∧(nest (rowO (x.Is.map It.r))).isSome=true∧∀ (j:Nat) (y:Ns),k=j+1→N[j]? =some y→y.d<x.d:=fun k x hk=>by
  have h1:=hi.2;rw [List.all_eq_true] at h1;have h2:=h1 k (List.mem_range.2 (List.getElem?_eq_some_iff.1 hk).1);unfold zi2 at h2;rw [List.getElem?_map,hk] at h2;simp only [Option.map_some,Bool.and_eq_true] at h2;refine ⟨h2.1.1.1,h2.1.2,fun j y e hy=>?_⟩;subst e;have h3:=h2.1.1.2;simp only [List.getElem?_map,hy,Option.map_some,decide_eq_true_eq] at h3;exact h3
 refine ⟨hi.1,hm.1.1.2,hh.1,fun x hx=>?_,zy7 fun k x hx j p e hp=>?_,fun d hd=>?_,hn⟩
 ·obtain ⟨k,hk⟩:=List.getElem?_of_mem hx;have :=nest_small (key k x hk).2.1;rw [List.length_map] at this;exact ⟨this.1,this.2.1,fun t ht=>this.2.2 t.r (List.mem_map.2 ⟨t,ht,rfl⟩)⟩
 ·rw [List.getElem?_map] at hx hp;obtain ⟨x',h1,rfl⟩:=Option.map_eq_some_iff.1 hx;obtain ⟨p',h2,rfl⟩:=Option.map_eq_some_iff.1 hp;exact (key k x' h1).2.2 j p' e h2
 ·obtain ⟨x,hx,rfl⟩:=List.mem_map.1 hd;obtain ⟨k,hk⟩:=List.getElem?_of_mem hx;have :=(zk7 _ _ _).1 (key k x hk).1;omega
structure Ao where
 N:List (Int × List (Int × List Nd))
 M:List Mn
 H:List Hn
 next :Int
 d:Int
 p:ByteArray
 c:Int
def Ao.ill (c:Int):Ao:=⟨[],[],[],0,0,⟨#[]⟩,c⟩
structure Fits (u:Sp) (A:Ao):Prop where
 n:u.N.map Ns.r=A.N
 m:u.M=A.M
 h:u.H=A.H
 x:u.next=A.next
theorem Fits.nil (c:Int):Fits ⟨none,0,[],none,0,[],none,0,[],0⟩ (Ao.ill c):=⟨rfl,rfl,rfl,rfl⟩
structure Ao.Small (A:Ao):Prop where
 n:A.N.length≤12
 m:A.M.length≤6
 h:A.H.length≤6
 i:∀x∈A.N,x.2.length≤12∧x.2.length≠0∧∀t∈x.2,t.2.length≤40
theorem Ao.ill_small (c:Int):(Ao.ill c).Small:=⟨Nat.zero_le _,Nat.zero_le _,Nat.zero_le _,fun x h=>by cases h⟩
end Pl
end
section
namespace Pl
def onI:List Mn→ByteArray→Int
 | [],_=> -1
 |m::r,p=>if m.p=p then 0 else if onI r p<0 then -1 else onI r p+1
theorem onI_at {M:List Mn} {p:ByteArray} {k:Nat} {m:Mn} (h:M[k]? =some m) (hm:m.p=p) (hn:∀ (j:Nat) x,j<k→M[j]? =some x→x.p≠p):onI M p=(k:Int):=by
 induction M generalizing k with
 |nil=>simp at h
 |cons x r ih=>
  rw [onI];cases k with
  |zero=>simp at h;subst h;rw [if_pos hm];rfl
  |succ k=>
   have h0:x.p≠p:=hn 0 x (by omega) rfl;have :=ih (k:=k) (by simpa using h) (fun j y hj hy=>hn (j+1) y (by omega) (by simpa using hy));rw [if_neg h0,this,if_neg (by omega)];omega
theorem onI_no {M:List Mn} {p:ByteArray} (hn:∀ (j:Nat) x,M[j]? =some x→x.p≠p):onI M p= -1:=by
 induction M with
 |nil=>rfl
 |cons x r ih=>
  rw [onI,if_neg (hn 0 x rfl),if_pos (by rw [ih (fun j y hy=>hn (j+1) y (by simpa using hy))];decide)]
theorem onI_ge (M:List Mn) (p:ByteArray): -1≤onI M p:=by
 cases M with
 |nil=>rw [onI];omega
 |cons x r=>rw [onI];split;omega;split <;> omega
theorem onI_hit {M:List Mn} {p:ByteArray} {k:Nat} (h:onI M p=(k:Int)):∃m,M[k]? =some m∧m.p=p∧∀ (j:Nat) x,j<k→M[j]? =some x→x.p≠p:=by
 induction M generalizing k with
 |nil=>rw [onI] at h;omega
 |cons x r ih=>
  rw [onI] at h;by_cases e:x.p=p
  ·rw [if_pos e] at h;obtain rfl:k=0:=by omega
   exact ⟨x,rfl,e,fun j _ hj=>absurd hj (by omega)⟩
  ·rw [if_neg e] at h;by_cases h2:onI r p<0
   ·rw [if_pos h2] at h;omega
   ·rw [if_neg h2] at h;obtain ⟨k,rfl⟩:∃j,k=j+1:=⟨k - 1,by omega⟩;obtain ⟨m,h3,h4,h5⟩:=ih (k:=k) (by omega);refine ⟨m,by simpa using h3,h4,fun j y hj hy=>?_⟩;cases j with
    |zero=>cases hy;exact e
    |succ j=>exact h5 j y (by omega) (by simpa using hy)
theorem onI_neg {M:List Mn} {p:ByteArray}:onI M p<0↔∀m∈M,m.p≠p:=by
 refine ⟨fun h m hm e=>?_,fun h=>?_⟩
 ·induction M with
  |nil=>cases hm
  |cons x r ih=>
   rw [onI] at h;by_cases e2:x.p=p
   ·rw [if_pos e2] at h;omega
   ·rw [if_neg e2] at h;by_cases h2:onI r p<0
    ·rcases List.mem_cons.1 hm with rfl |hm
     ·exact e2 e
     ·exact ih h2 hm
    ·rw [if_neg h2] at h;omega
 ·rw [onI_no fun j x hx=>h x (List.mem_of_getElem? hx)]
  decide
theorem leadI_late (u:Mn→Bool) (M:List Mn):∀ (k:Nat) (j:Nat) (m:Mn),k≤M.length→j<k→M[j]? =some m→u m=true→∃i,j≤i∧i<k∧M[i]? =some (leadI u M k):=by
 intro k
 induction k with
 |zero=>intro j m _ h;omega
 |succ k ih=>
  intro j m hk hj hm hu;obtain ⟨x,hx⟩:∃x,M[k]? =some x:=⟨_,List.getElem?_eq_getElem (by omega)⟩;cases hux:u x with
  |true=>rw [leadI_yes hx hux];exact ⟨k,by omega,by omega,hx⟩
  |false=>
   rw [leadI_no hx hux];by_cases e:j=k
   ·subst e;rw [hx] at hm;cases hm;rw [hu] at hux;cases hux
   ·obtain ⟨i,h1,h2,h3⟩:=ih j m (by omega) (by omega) hm hu;exact ⟨i,h1,by omega,h3⟩
theorem glue_empty {L:List ByteArray} (h:∀t∈L,zc8 t=true) (he:glue L=⟨#[]⟩):L=[]:=by
 have h1:=names_glue h;rw [he] at h1;rw [←h1];exact (zg4 rfl).2
theorem names_all {s:ByteArray} (h:za2 s=true):∀t∈names s,zc8 t=true:=by
 unfold za2 at h;simp only [Bool.and_eq_true,List.all_eq_true] at h;exact fun t ht=>h.1.2 t ht
theorem rest_on {next :Int} {N:List (Int × Bool)} {M:List Mn} {H:List Hn} {way:ByteArray→Bool} (h:ze9 next N M H way=true) (p:ByteArray) (hp:za2 p=true):
  (rest p (leadI (uR p) M M.length).p=⟨#[]⟩↔(leadI (uR p) M M.length).p=p)∧((leadI (uR p) M M.length).p=p↔¬onI M p<0):=by
 obtain ⟨-,k2,k3, -⟩:=lead_of h p hp;obtain ⟨h1,h2,h3,h4⟩:=space_lead h;refine ⟨⟨fun e=>?_,fun e=>by rw [e];exact rest_same p⟩,⟨fun e hn=>onI_neg.1 hn _ k2 e,fun hn=>?_⟩⟩
 ·unfold rest at e;have hd:=glue_empty (fun t ht=>names_all hp t (List.mem_of_mem_drop ht)) e;have hle:=underR_length (show underR (names p) (names (leadI (uR p) M M.length).p)=true from k3);have hle2:=List.drop_eq_nil_iff.1 hd;have hu:=(underR_iff _ _).1 (show underR (names p) (names (leadI (uR p) M M.length).p)=true from k3)
  have he:names (leadI (uR p) M M.length).p=names p:=by
   refine List.ext_getElem? fun j=>?_
   rcases Nat.lt_or_ge j (names (leadI (uR p) M M.length).p).length with hj|hj
   ·have h1:(names (leadI (uR p) M M.length).p)[j]? =some ((names (leadI (uR p) M M.length).p)[j]'hj):=List.getElem?_eq_getElem hj;rw [hu j _ h1,h1]
   ·rw [List.getElem?_eq_none hj,List.getElem?_eq_none (by omega)]
  rw [←yb4 (leadI (uR p) M M.length).p,he,yb4]
 ·have hex:∃m∈M,m.p=p:=by
   refine Classical.byContradiction fun hc=>hn (onI_neg.2 fun m hm e=>hc ⟨m,hm,e⟩)
  obtain ⟨m,hm,e⟩:=hex;obtain ⟨j,hj⟩:=List.getElem?_of_mem hm
  have hum:uR p m=true:=by
   unfold uR;rw [e];exact (under_iff p p).2 (.inr (.inl rfl))
  obtain ⟨i,i1,i2,i3⟩:=leadI_late (uR p) M M.length j m (Nat.le_refl _) (List.getElem?_eq_some_iff.1 hj).1 hj hum;by_cases ei:i=j
  ·subst ei;rw [hj] at i3;rw [←Option.some.inj i3];exact e
  ·exfalso;have hl:=h4 i j m _ hj i3 (by omega);have hb:=under_bigger (show underR (names p) (names m.p)=true from hum) (show underR (names p) (names (leadI (uR p) M M.length).p)=true from k3) hl;rw [e] at hb
   rcases (under_iff _ _).1 k3 with h5|h5|⟨r,h5⟩
   ·have :(leadI (uR p) M M.length).p.size=0:=by rw [←zg6,h5];rfl
    omega
   ·have :p.size=(leadI (uR p) M M.length).p.size:=by rw [←zg6,←zg6,h5]
    omega
   ·have :p.size=(leadI (uR p) M M.length).p.size+1+r.length:=by
     rw [←zg6,h5,List.length_append,zg6,List.length_cons];omega
    omega
def delM (M:List Mn) (p:ByteArray):List Mn:=M.filter (fun m=>!under m.p p)
def whyD (p:ByteArray) (R:Bool) (M:List Mn):Int:=if whyI p R≠0 then whyI p R else if p.size=0 then 2 else if onI M p<0 then 4 else 0
def codeW (i:Int):Int:=if i=1 then 2 else if i=2 then 1 else 6
theorem whyI_cases (p:ByteArray) (R:Bool):whyI p R=0∧R=true∧za2 p=true∨whyI p R=1∨whyI p R=2:=by
 unfold whyI
 split
 ·exact .inr (.inl rfl)
 ·split
  ·rename_i h
   rw [Bool.and_eq_true] at h;exact .inl ⟨rfl,h.1,h.2⟩
  ·exact .inr (.inr rfl)
theorem whyD_cases (p:ByteArray) (R:Bool) (M:List Mn):(whyD p R M=0∧R=true∧za2 p=true∧p.size≠0∧¬onI M p<0)∨whyD p R M=1∨whyD p R M=2∨whyD p R M=4:=by
 unfold whyD
 rcases whyI_cases p R with ⟨h,h1,h2⟩|h|h <;> rw [h]
 ·rw [if_neg (by decide)]
  split
  ·exact .inr (.inr (.inl rfl))
  ·rename_i h3
   split
   ·exact .inr (.inr (.inr rfl))
   ·rename_i h4
    exact .inl ⟨rfl,h1,h2,h3,h4⟩
 ·exact .inr (.inl rfl)
 ·exact .inr (.inr (.inl rfl))
theorem cut_small {s:Sp} {M:List Mn} {p:ByteArray} {d:Int} {R:Bool} (h0:R=true) (h:R=true→s.N.length≤12∧s.M.length≤6∧s.H.length≤6∧∀x∈s.N,x.Is.length≤12∧x.Is.length≠0∧∀t∈x.Is,t.t.L.length≤40) (hM:M.length≤s.M.length):(⟨keepN (s.N.map Ns.r) M s.H,M,s.H,s.next,d,p,0⟩:Ao).Small:=by
 obtain ⟨h1,h2,h3,h4⟩:=h h0;refine ⟨Nat.le_trans (List.length_filter_le _ _) (by rw [List.length_map];exact h1),Nat.le_trans hM h2,h3,fun x hx=>?_⟩;obtain ⟨y,hy,rfl⟩:=List.mem_map.1 (List.mem_filter.1 hx).1;obtain ⟨k1,k2,k3⟩:=h4 y hy;refine ⟨by rw [show y.r.2=y.Is.map It.r from rfl,List.length_map];exact k1,by rw [show y.r.2=y.Is.map It.r from rfl,List.length_map];exact k2,fun t ht=>?_⟩;obtain ⟨z,hz,rfl⟩:=List.mem_map.1 ht;exact k3 z hz
end Pl
end
end Go.Proofs.YtonffldjbmednaaGreatDoor
