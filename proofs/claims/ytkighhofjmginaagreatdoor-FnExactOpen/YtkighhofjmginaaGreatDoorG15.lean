/- Several texts of one claim in one file: PlainSpT, PlainLead, PlainDetach, PlainNestAt, PlainAns8. -/
import Derived.Test.YtkighhofjmginaaGreatDoorWSpI8
import Derived.Test.YtkighhofjmginaaGreatDoorMemOkR
namespace Go.Proofs.YtkighhofjmginaaGreatDoor
section
open Go.RowKit
namespace zb0
theorem each_ok {N N':List Pl.Ns} {K:Nat} (h:N'.map Pl.Ns.r=N.map Pl.Ns.r) (hp:∀x∈N,x.Is.length≤K∧∀t∈x.Is,t.t.L.length≤K∧∀n∈t.t.L,n.path.size≤K∧n.data.size≤K):∀x∈N',x.Is.length≤K∧∀t∈x.Is,t.t.L.length≤K∧∀n∈t.t.L,n.path.size≤K∧n.data.size≤K:=fun x hx=>by
 have :x.r∈N.map Pl.Ns.r:=by rw [←h];exact List.mem_map.2 ⟨x,hx,rfl⟩
 obtain ⟨y,hy,e⟩:=List.mem_map.1 this;have e2:y.Is.map Pl.It.r=x.Is.map Pl.It.r:=congrArg Prod.snd e;have e3:y.Is.length=x.Is.length:=by have :=congrArg List.length e2;simpa using this
 refine ⟨by rw [←e3];exact (hp y hy).1,fun t ht=>?_⟩;have h3:t.r∈y.Is.map Pl.It.r:=by rw [e2];exact List.mem_map.2 ⟨t,ht,rfl⟩
 obtain ⟨u,hu,e4⟩:=List.mem_map.1 h3;have e5:u.t.L=t.t.L:=congrArg Prod.snd e4;rw [←e5];exact (hp y hy).2 u hu
theorem SpT.ok {v W:World} {s s':Pl.Sp} {K:Nat} (T:SpT v W s s') (h:OkS s K):OkS s' K:=
 ⟨by rw [T.nl];exact h.n,by rw [T.m];exact h.m,by rw [T.h];exact h.h,each_ok T.n h.each,by rw [T.m];exact h.mp,by rw [T.h];exact h.hp⟩
theorem SpT.okN {v W:World} {s s':Pl.Sp} (T:SpT v W s s') (h:WSpI.OkN s):WSpI.OkN s':=⟨by rw [T.m];exact h.m,by rw [T.h];exact h.h⟩
theorem SpT.okA {v W:World} {s s':Pl.Sp} (T:SpT v W s s'):WSpI.OkA s':=
 ⟨.inr (by obtain ⟨g,h⟩:=T.am;exact ⟨g,0,h⟩), .inr (by obtain ⟨g,h⟩:=T.ah;exact ⟨g,0,h⟩),fun x hx=>by rw [(T.each x hx).1];exact Nat.le_refl _⟩
theorem SpT.nr {v W:World} {s s':Pl.Sp} (T:SpT v W s s'):s'.N.map WSp.nr=s.N.map WSp.nr:=by
 have e:WSp.nr=(fun y:Int × List (Int × List Pl.Nd)=>(y.1,(Pl.nest (Pl.rowO y.2)).isSome)) ∘ Pl.Ns.r:=rfl;rw [e,←List.map_map,←List.map_map,T.n]
theorem SpT.rows {v W:World} {s s':Pl.Sp} (T:SpT v W s s'):∀x∈s'.N,(∃g,x.a=some ⟨g,0,none⟩)∧∀t∈x.Is,Mem.okR t.t.a t.t.cap t.t.L:=fun x hx=>by
 obtain ⟨gi,gm,gh,B, -, -,h⟩:=T.has;obtain ⟨j,hj⟩:=List.getElem?_of_mem hx;obtain ⟨g,h1, -,h3⟩:=h.band j x hj;refine ⟨⟨g,h1⟩,fun t ht=>?_⟩;obtain ⟨i,hi⟩:=List.getElem?_of_mem ht;obtain ⟨q,h4, -⟩:=h3.each i t hi;exact .inr ⟨q,0,h4⟩
end zb0
end
section
namespace Pl
def zM:Mn:=⟨⟨#[]⟩,0,false⟩
def ze1 (u:Mn→Bool) (M:List Mn):Nat→Mn
 |0=>zM
 |k+1=>match M[k]? with
  |none=>ze1 u M k
  |some m=>bif u m then m else ze1 u M k
def zf9 (u:Mn→Bool) (M:List Mn):Nat→Mn
 |0=>zM
 |k+1=>match M[k]? with
  |none=>zf9 u M k
  |some m=>bif u m&&(decide (k=0)||decide ((zf9 u M k).p.size<m.p.size)) then m else zf9 u M k
theorem leadI_yes {u:Mn→Bool} {M:List Mn} {k:Nat} {m:Mn} (h:M[k]? =some m) (hu:u m=true):ze1 u M (k+1)=m:=by rw [ze1,h];simp [hu]
theorem leadI_no {u:Mn→Bool} {M:List Mn} {k:Nat} {m:Mn} (h:M[k]? =some m) (hu:u m=false):ze1 u M (k+1)=ze1 u M k:=by rw [ze1,h];simp [hu]
theorem leadS_yes {u:Mn→Bool} {M:List Mn} {k:Nat} {m:Mn} (h:M[k]? =some m) (hu:u m=true) (h2:k=0∨(zf9 u M k).p.size<m.p.size):zf9 u M (k+1)=m:=by
 rw [zf9,h]
 rcases h2 with h2|h2 <;> simp [hu,h2]
theorem leadS_no {u:Mn→Bool} {M:List Mn} {k:Nat} {m:Mn} (h:M[k]? =some m) (hu:u m=false):zf9 u M (k+1)=zf9 u M k:=by rw [zf9,h];simp [hu]
theorem leadS_short {u:Mn→Bool} {M:List Mn} {k:Nat} {m:Mn} (h:M[k]? =some m) (h1:k≠0) (h2:¬ (zf9 u M k).p.size<m.p.size):zf9 u M (k+1)=zf9 u M k:=by rw [zf9,h];simp [h1,h2]
theorem lead_same {u:Mn→Bool} {M:List Mn} (h0:∀m:Mn,M[0]? =some m→u m=true) (hr:∀ (k j:Nat) (a b:Mn),M[j]? =some a→M[k]? =some b→j<k→u a=true→u b=true→a.p.size<b.p.size):
  ∀k,k≤M.length→zf9 u M k=ze1 u M k∧(0<k→∃j,j<k∧M[j]? =some (ze1 u M k)∧u (ze1 u M k)=true):=by
 intro k
 induction k with
 |zero=>exact fun _=>⟨rfl,fun h=>absurd h (Nat.lt_irrefl _)⟩
 |succ k ih=>
  intro hk;have hm:M[k]? =some (M[k]'(by omega)):=List.getElem?_eq_getElem (by omega);generalize M[k]'(by omega)=m at hm;obtain ⟨h1,h2⟩:=ih (by omega);cases hu:u m with
  |false=>
   rw [leadI_no hm hu,leadS_no hm hu];refine ⟨h1,fun _=>?_⟩
   rcases Nat.eq_zero_or_pos k with e|e
   ·subst e;rw [h0 m hm] at hu;cases hu
   ·obtain ⟨j,j1,j2,j3⟩:=h2 e;exact ⟨j,by omega,j2,j3⟩
  |true=>
   rw [leadI_yes hm hu];refine ⟨leadS_yes hm hu ?_,fun _=>⟨k,by omega,hm,hu⟩⟩
   rcases Nat.eq_zero_or_pos k with e|e
   ·exact .inl e
   ·obtain ⟨j,j1,j2,j3⟩:=h2 e;rw [h1];exact .inr (hr k j _ m j2 hm j1 j3 hu)
theorem under_bigger {p a b:ByteArray} (ha:zh (names p) (names a)=true) (hb:zh (names p) (names b)=true) (h:za4 (names a) (names b)=true):a.size<b.size:=by
 have ha':=(zp6 _ _).1 ha;have hb':=(zp6 _ _).1 hb
 have hl:(names a).length<(names b).length:=by
  refine Nat.lt_of_not_le fun hle=>?_
  rw [less_under (names a) (names b) (fun j t ht=>by
   have hj:=(List.getElem?_eq_some_iff.1 ht).1;have h1:(names a)[j]? =some ((names a)[j]'(by omega)):=List.getElem?_eq_getElem (by omega);have h2:=ha' j _ h1;rw [hb' j t ht] at h2
   rw [h1,h2])] at h
  cases h
 have hs:names b=names a++(names b).drop (names a).length:=by
  have e:(names b).take (names a).length=names a:=by
   refine List.ext_getElem? fun j=>?_
   rcases Nat.lt_or_ge j (names a).length with hj|hj
   ·have h1:(names a)[j]? =some ((names a)[j]'hj):=List.getElem?_eq_getElem hj;have h3:(names b)[j]? =some ((names b)[j]'(by omega)):=List.getElem?_eq_getElem (by omega);have h2:=ha' j _ h1;rw [hb' j _ h3] at h2;rw [List.getElem?_take_of_lt hj,h1,h3,h2]
   ·rw [List.getElem?_eq_none (by simp;omega),List.getElem?_eq_none hj]
  rw [←e,List.length_take,Nat.min_eq_left (by omega)];exact (List.take_append_drop _ _).symm
 by_cases h0:names a=[]
 ·have e:=zk0 a;rw [h0] at e;have ea:a.size=0:=by rw [←e];rfl
  have eb:b.size≠0:=fun e2=>by
   have :=(zh7 e2).2;rw [this] at hl;exact absurd hl (Nat.not_lt_zero _)
  omega
 ·have e:by_ b=by_ a++47::zf7 (((names b).drop (names a).length).map by_):=by
   have e1:=congrArg by_ (zk0 b);have e2:=congrArg by_ (zk0 a);rw [zp7] at e1 e2;rw [←e1,hs,List.map_append,zt2 (by simpa using h0) (by simp;omega),e2];simp
  have :=congrArg List.length e;rw [zd2,List.length_append,zd2,List.length_cons] at this;omega
theorem yi9 {next :Int} {N:List (Int × Bool)} {M:List Mn} {H:List Hn} {way:ByteArray→Bool} (h:zc2 next N M H way=true):1≤M.length∧(∀m∈M,za0 m.p=true)∧(∀m:Mn,M[0]? =some m→m.p.size=0)∧∀ (k j:Nat) (a b:Mn),M[j]? =some a→M[k]? =some b→j<k→za4 (names a.p) (names b.p)=true:=by
 unfold zc2 at h;simp only [Bool.and_eq_true] at h;obtain ⟨⟨-,hm⟩, -⟩:=h;unfold zj5 at hm;simp only [Bool.and_eq_true,decide_eq_true_eq] at hm;obtain ⟨⟨⟨h1, -⟩,h0⟩,hs⟩:=hm
 have hst:∀ (k:Nat) (m:Mn),M[k]? =some m→zg4 (N.map (·.1)) M k=true:=fun k m hk=>by
  rw [List.all_eq_true] at hs;exact hs k (List.mem_range.2 (List.getElem?_eq_some_iff.1 hk).1)
 have key:∀ (k:Nat) (m:Mn),M[k]? =some m→za0 m.p=true∧(match k with |0=>true|j+1=>(match M[j]? with |none=>true|some p=>za4 (names p.p) (names m.p)))=true:=fun k m hk=>by
  have :=hst k m hk;unfold zg4 at this;rw [hk] at this;simp only [Bool.and_eq_true] at this;exact ⟨this.1.1.1.2,this.1.1.2⟩
 refine ⟨h1,fun m hm=>?_,fun m hm=>?_,yh1 fun k m hm j q e hq=>?_⟩
 ·obtain ⟨k,hk⟩:=List.getElem?_of_mem hm;exact (key k m hk).1
 ·cases M with
  |nil=>cases hm
  |cons x R=>
   cases hm
   simpa using h0
 ·subst e;have :=(key (j+1) m hm).2;simp only [hq] at this;exact this
def uR (p:ByteArray) (m:Mn):Bool:=under p m.p
theorem uR_in {p:ByteArray} (hp:za0 p=true) {m:Mn} (hm:za0 m.p=true):(za0 p&&za0 m.p&&zh (za8 p) (za8 m.p))=uR p m:=by
 rw [hp,hm,zd1 hp,zd1 hm];rfl
theorem lead_of {next :Int} {N:List (Int × Bool)} {M:List Mn} {H:List Hn} {way:ByteArray→Bool} (h:zc2 next N M H way=true) (p:ByteArray) (hp:za0 p=true):
  zf9 (uR p) M M.length=ze1 (uR p) M M.length∧ze1 (uR p) M M.length∈M∧under p (ze1 (uR p) M M.length).p=true∧(zj8 p (ze1 (uR p) M M.length).p).1=rest p (ze1 (uR p) M M.length).p:=by
 obtain ⟨h1,h2,h3,h4⟩:=yi9 h;obtain ⟨k1,k2⟩:=lead_same (u:=uR p) (M:=M) (fun m hm=>(zl7 _ _).2 (.inl (zh0.2 (h3 m hm)))) (fun k j a b ha hb hj hua hub=>under_bigger hua hub (h4 k j a b ha hb hj)) M.length (Nat.le_refl _);obtain ⟨j, -,j2,j3⟩:=k2 (by omega);have hmem:=List.mem_of_getElem? j2;have hq:=h2 _ hmem;refine ⟨k1,hmem,j3,?_⟩;have q1:∀ {s:ByteArray},za0 s=true→s.size≤200:=fun {s} hs=>Nat.le_of_not_lt fun h=>by rw [zn0 h] at hs;cases hs
 rw [zj8,if_neg (by have :=q1 hp;have :=q1 hq;omega),if_neg (fun g=>g ⟨hp,hq⟩),if_neg (by rw [zd1 hp,zd1 hq];have e:zh (names p) (names (ze1 (uR p) M M.length).p)=true:=j3;rw [e];simp),zd1 hp,zd1 hq];rfl
def whyI (p:ByteArray) (R:Bool):Int:=if 8000<p.size then 1 else if (R&&za0 p)=true then 0 else 2
end Pl
end
section
namespace Pl
theorem zs8 (p:ByteArray) (R:Bool):whyI p R=0∧R=true∧za0 p=true∨whyI p R=1∨whyI p R=2:=by
 unfold whyI
 split
 ·exact .inr (.inl rfl)
 ·split
  ·rename_i h
   rw [Bool.and_eq_true] at h;exact .inl ⟨rfl,h.1,h.2⟩
  ·exact .inr (.inr rfl)
end Pl
end
section
namespace Pl
def zn9:List (Int × List (Int × List Nd))→Int→Option (List (Int × List Nd))
 | [],_=>none
 |x::r,d=>if x.1=d then some x.2 else zn9 r d
theorem nestAt_inst (N:List Ns) (d:Int):(zd4 (N.map (·.d)) d<0→zn9 (N.map Ns.r) d=none)∧(∀k:Nat,zd4 (N.map (·.d)) d=(k:Int)→∃x,N[k]? =some x∧zn9 (N.map Ns.r) d=some (x.Is.map It.r)):=by
 induction N with
 |nil=>exact ⟨fun _=>rfl,fun k h=>by simp [zd4] at h⟩
 |cons x N ih=>
  simp only [List.map_cons,zd4,zn9];by_cases h:x.d=d
  ·rw [if_pos h];refine ⟨fun h0=>by omega,fun k hk=>⟨x,?_,by rw [if_pos (show x.r.1=d from h)];rfl⟩⟩;obtain rfl:k=0:=by omega
   rfl
  ·rw [if_neg h,if_neg (show ¬x.r.1=d from h)];by_cases h2:zd4 (N.map (·.d)) d<0
   ·rw [if_pos h2];exact ⟨fun _=>ih.1 h2,fun k hk=>by omega⟩
   ·rw [if_neg h2];refine ⟨fun h0=>by omega,fun k hk=>?_⟩;obtain ⟨k,rfl⟩:∃j,k=j+1:=⟨k - 1,by omega⟩;obtain ⟨y,h3,h4⟩:=ih.2 k (by omega);exact ⟨y,by simpa using h3,h4⟩
theorem nestAt_get {P:Nv→Ns→Prop}:∀ (E:List (Int × Nv)) (N:List Ns) (d:Int),E.map (·.1)=N.map (·.d)→(∀ (i:Nat) y,E[i]? =some y→∃x,N[i]? =some x∧P y.2 x)→(d∉E.map (·.1)→zn9 (N.map Ns.r) d=none)∧(d∈E.map (·.1)→∃x,zn9 (N.map Ns.r) d=some (x.Is.map It.r)∧P (getN E d) x∧x∈N):=by
 intro E
 induction E with
 |nil=>
  intro N d h _;have :N=[]:=by cases N with |nil=>rfl |cons a b=>simp at h
  subst this;exact ⟨fun _=>rfl,fun h=>by simp at h⟩
 |cons y E ih=>
  intro N d h hP;cases N with
  |nil=>simp at h
  |cons x N=>
   simp only [List.map_cons,List.cons.injEq] at h;obtain ⟨h1,h2⟩:=h
   obtain ⟨i1,i2⟩:=ih N d h2 (fun i z hz=>by
    obtain ⟨x',k1,k2⟩:=hP (i+1) z (by simpa using hz)
    exact ⟨x',by simpa using k1,k2⟩)
   simp only [List.map_cons,zn9,List.mem_cons];by_cases e:y.1=d
   ·have e2:x.r.1=d:=by show x.d=d;rw [←h1];exact e
    rw [if_pos e2];refine ⟨fun hn=>absurd (Or.inl e.symm) hn,fun _=>?_⟩;obtain ⟨x',k1,k2⟩:=hP 0 y rfl;simp at k1
    subst k1;refine ⟨x,rfl,?_, .inl rfl⟩;unfold getN;rw [List.find?_cons,decide_eq_true e];exact k2
   ·have e2:¬x.r.1=d:=by show ¬x.d=d;rw [←h1];exact e
    rw [if_neg e2];refine ⟨fun hn=>i1 (fun hm=>hn (.inr hm)),fun hm=>?_⟩
    rcases hm with hm|hm
    ·exact absurd hm.symm e
    obtain ⟨x',k1,k2,k3⟩:=i2 hm;refine ⟨x',k1,?_, .inr k3⟩;unfold getN at k2 ⊢;rw [List.find?_cons,decide_eq_false e];exact k2
theorem nest_small {xs:List (Int × List Nd)} (h:(nest (rowO xs)).isSome=true):xs.length≤12∧xs.length≠0∧∀x∈xs,x.2.length≤40:=by
 cases hF:nest (rowO xs) with
 |none=>rw [hF] at h;cases h
 |some F=>
  obtain ⟨L,k, -,hfl,hko, -⟩:=yf9 hF;refine ⟨nest_len hF,?_,fun x hx=>?_⟩
  ·rw [←hfl];simp [Fx.flat]
  ·rw [←hfl] at hx;have :=(Fx.ok_mem hko x hx).1;unfold zc7 at this;exact of_decide_eq_true ((Bool.and_eq_true _ _).mp this).1
theorem yh7 {N:List Ns} {M:List Mn} {H:List Hn} {next :Int} {way:ByteArray→Bool} (h:zc2 next (N.map WSp.nr) M H way=true):∀x∈N,(nest (rowO (x.Is.map It.r))).isSome=true:=by
 rw [←yj5] at h;unfold zy3 zq3 at h;simp only [Bool.and_eq_true,all_iff] at h;intro x hx;obtain ⟨k,hk,e⟩:=List.mem_iff_getElem.1 hx;have h1:=h.1.1.1.2 k (by simpa using hk);have ht:(N.map WSp.nr)[k]? =some (WSp.nr x):=by rw [List.getElem?_map,List.getElem?_eq_getElem hk,e];rfl
 simp only [zl3,ht,Bool.and_eq_true] at h1;exact h1.1
end Pl
end
section
namespace Pl
theorem steps_apart {l:List Int} (h1:∀ (k:Nat) (x:Int),l[k]? =some x→∀ (j:Nat) (p:Int),k=j+1→l[j]? =some p→p<x):l.Pairwise (· < ·):=by
 rw [List.pairwise_iff_getElem];intro i j hi hj hij
 induction j with
 |zero=>omega
 |succ j ih=>
  have h2:=h1 (j+1) l[j+1] (List.getElem?_eq_getElem hj) j (l[j]'(by omega)) rfl (List.getElem?_eq_getElem (by omega));by_cases e:i=j
  ·subst e;exact h2
  ·have :=ih (by omega) (by omega);omega
theorem zq1 {next :Int} {N:List Ns} {M:List Mn} {H:List Hn} {way:ByteArray→Bool} (h:zc2 next (N.map WSp.nr) M H way=true):
  N.length≤12∧M.length≤6∧H.length≤6∧(∀x∈N,x.Is.length≤12∧x.Is.length≠0∧∀t∈x.Is,t.t.L.length≤40)∧(N.map (·.d)).Pairwise (· < ·)∧(∀d∈N.map (·.d),1≤d∧d≤1000000)∧1≤next ∧next ≤1000000:=by
 unfold zc2 at h;simp only [Bool.and_eq_true] at h;obtain ⟨⟨⟨hn,hh⟩,hm⟩,hi⟩:=h;have hn:=(zp0 _ _ _).1 hn;unfold zo8 at hh;unfold zj5 at hm;unfold zo5 at hi;simp only [Bool.and_eq_true,decide_eq_true_eq,List.length_map] at hh hm hi
 have key:∀ (k:Nat) (x:Ns),N[k]? =some x→isB x.d 1 (next - 1)=true∧(nest (rowO (x.Is.map It.r))).isSome=true∧∀ (j:Nat) (y:Ns),k=j+1→N[j]? =some y→y.d<x.d:=fun k x hk=>by
  have h1:=hi.2;rw [List.all_eq_true] at h1;have h2:=h1 k (List.mem_range.2 (List.getElem?_eq_some_iff.1 hk).1);unfold zl4 at h2;rw [List.getElem?_map,hk] at h2;simp only [Option.map_some,Bool.and_eq_true] at h2;refine ⟨h2.1.1.1,h2.1.2,fun j y e hy=>?_⟩;subst e;have h3:=h2.1.1.2;simp only [List.getElem?_map,hy,Option.map_some,decide_eq_true_eq] at h3;exact h3
 refine ⟨hi.1,hm.1.1.2,hh.1,fun x hx=>?_,steps_apart fun k x hx j p e hp=>?_,fun d hd=>?_,hn⟩
 ·obtain ⟨k,hk⟩:=List.getElem?_of_mem hx;have :=nest_small (key k x hk).2.1;rw [List.length_map] at this;exact ⟨this.1,this.2.1,fun t ht=>this.2.2 t.r (List.mem_map.2 ⟨t,ht,rfl⟩)⟩
 ·rw [List.getElem?_map] at hx hp;obtain ⟨x',h1,rfl⟩:=Option.map_eq_some_iff.1 hx;obtain ⟨p',h2,rfl⟩:=Option.map_eq_some_iff.1 hp;exact (key k x' h1).2.2 j p' e h2
 ·obtain ⟨x,hx,rfl⟩:=List.mem_map.1 hd;obtain ⟨k,hk⟩:=List.getElem?_of_mem hx;have :=(zp0 _ _ _).1 (key k x hk).1;omega
structure Ao where
 N:List (Int × List (Int × List Nd))
 M:List Mn
 H:List Hn
 next :Int
 d:Int
 p:ByteArray
 c:Int
def Ao.ill (c:Int):Ao:=⟨[],[],[],0,0,⟨#[]⟩,c⟩
structure Fits (u:Sp) (A:Ao):Prop where
 n:u.N.map Ns.r=A.N
 m:u.M=A.M
 h:u.H=A.H
 x:u.next=A.next
theorem Fits.nil (c:Int):Fits ⟨none,0,[],none,0,[],none,0,[],0⟩ (Ao.ill c):=⟨rfl,rfl,rfl,rfl⟩
structure Ao.Small (A:Ao):Prop where
 n:A.N.length≤12
 m:A.M.length≤6
 h:A.H.length≤6
 i:∀x∈A.N,x.2.length≤12∧x.2.length≠0∧∀t∈x.2,t.2.length≤40
theorem Ao.ill_small (c:Int):(Ao.ill c).Small:=⟨Nat.zero_le _,Nat.zero_le _,Nat.zero_le _,fun x h=>by cases h⟩
end Pl
end
end Go.Proofs.YtkighhofjmginaaGreatDoor
