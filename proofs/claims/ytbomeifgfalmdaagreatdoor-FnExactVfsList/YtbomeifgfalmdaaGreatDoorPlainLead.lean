import Derived.Test.YtbomeifgfalmdaaGreatDoorG10
namespace Go.Proofs.YtbomeifgfalmdaaGreatDoor
namespace Pl
def zM:Mn:=⟨⟨#[]⟩,0,false⟩
def zf8 (u:Mn→Bool) (M:List Mn):Nat→Mn
 |0=>zM
 |k+1=>match M[k]? with
  |none=>zf8 u M k
  |some m=>bif u m then m else zf8 u M k
def zg2 (u:Mn→Bool) (M:List Mn):Nat→Mn
 |0=>zM
 |k+1=>match M[k]? with
  |none=>zg2 u M k
  |some m=>bif u m&&(decide (k=0)||decide ((zg2 u M k).p.size<m.p.size)) then m else zg2 u M k
theorem leadI_yes {u:Mn→Bool} {M:List Mn} {k:Nat} {m:Mn} (h:M[k]? =some m) (hu:u m=true):zf8 u M (k+1)=m:=by rw [zf8,h];simp [hu]
theorem leadI_no {u:Mn→Bool} {M:List Mn} {k:Nat} {m:Mn} (h:M[k]? =some m) (hu:u m=false):zf8 u M (k+1)=zf8 u M k:=by rw [zf8,h];simp [hu]
theorem leadS_yes {u:Mn→Bool} {M:List Mn} {k:Nat} {m:Mn} (h:M[k]? =some m) (hu:u m=true) (h2:k=0∨(zg2 u M k).p.size<m.p.size):zg2 u M (k+1)=m:=by
 rw [zg2,h]
 rcases h2 with h2|h2 <;> simp [hu,h2]
theorem leadS_no {u:Mn→Bool} {M:List Mn} {k:Nat} {m:Mn} (h:M[k]? =some m) (hu:u m=false):zg2 u M (k+1)=zg2 u M k:=by rw [zg2,h];simp [hu]
theorem leadS_short {u:Mn→Bool} {M:List Mn} {k:Nat} {m:Mn} (h:M[k]? =some m) (h1:k≠0) (h2:¬ (zg2 u M k).p.size<m.p.size):zg2 u M (k+1)=zg2 u M k:=by rw [zg2,h];simp [h1,h2]
theorem lead_same {u:Mn→Bool} {M:List Mn} (h0:∀m:Mn,M[0]? =some m→u m=true) (hr:∀ (k j:Nat) (a b:Mn),M[j]? =some a→M[k]? =some b→j<k→u a=true→u b=true→a.p.size<b.p.size):
  ∀k,k≤M.length→zg2 u M k=zf8 u M k∧(0<k→∃j,j<k∧M[j]? =some (zf8 u M k)∧u (zf8 u M k)=true):=by
 intro k
 induction k with
 |zero=>exact fun _=>⟨rfl,fun h=>absurd h (Nat.lt_irrefl _)⟩
 |succ k ih=>
  intro hk;have hm:M[k]? =some (M[k]'(by omega)):=List.getElem?_eq_getElem (by omega);generalize M[k]'(by omega)=m at hm;obtain ⟨h1,h2⟩:=ih (by omega);cases hu:u m with
  |false=>
   rw [leadI_no hm hu,leadS_no hm hu];refine ⟨h1,fun _=>?_⟩
   rcases Nat.eq_zero_or_pos k with e|e
   ·subst e;rw [h0 m hm] at hu;cases hu
   ·obtain ⟨j,j1,j2,j3⟩:=h2 e;exact ⟨j,by omega,j2,j3⟩
  |true=>
   rw [leadI_yes hm hu];refine ⟨leadS_yes hm hu ?_,fun _=>⟨k,by omega,hm,hu⟩⟩
   rcases Nat.eq_zero_or_pos k with e|e
   ·exact .inl e
   ·obtain ⟨j,j1,j2,j3⟩:=h2 e;rw [h1];exact .inr (hr k j _ m j2 hm j1 j3 hu)
theorem under_bigger {p a b:ByteArray} (ha:zh1 (names p) (names a)=true) (hb:zh1 (names p) (names b)=true) (h:za7 (names a) (names b)=true):a.size<b.size:=by
 have ha':=(zp2 _ _).1 ha;have hb':=(zp2 _ _).1 hb
 have hl:(names a).length<(names b).length:=by
  refine Nat.lt_of_not_le fun hle=>?_
  rw [less_under (names a) (names b) (fun j t ht=>by
   have hj:=(List.getElem?_eq_some_iff.1 ht).1;have h1:(names a)[j]? =some ((names a)[j]'(by omega)):=List.getElem?_eq_getElem (by omega);have h2:=ha' j _ h1;rw [hb' j t ht] at h2
   rw [h1,h2])] at h
  cases h
 have hs:names b=names a++(names b).drop (names a).length:=by
  have e:(names b).take (names a).length=names a:=by
   refine List.ext_getElem? fun j=>?_
   rcases Nat.lt_or_ge j (names a).length with hj|hj
   ·have h1:(names a)[j]? =some ((names a)[j]'hj):=List.getElem?_eq_getElem hj;have h3:(names b)[j]? =some ((names b)[j]'(by omega)):=List.getElem?_eq_getElem (by omega);have h2:=ha' j _ h1;rw [hb' j _ h3] at h2;rw [List.getElem?_take_of_lt hj,h1,h3,h2]
   ·rw [List.getElem?_eq_none (by simp;omega),List.getElem?_eq_none hj]
  rw [←e,List.length_take,Nat.min_eq_left (by omega)];exact (List.take_append_drop _ _).symm
 by_cases h0:names a=[]
 ·have e:=zj2 a;rw [h0] at e;have ea:a.size=0:=by rw [←e];rfl
  have eb:b.size≠0:=fun e2=>by
   have :=(zj1 e2).2;rw [this] at hl;exact absurd hl (Nat.not_lt_zero _)
  omega
 ·have e:by_ b=by_ a++47::zf7 (((names b).drop (names a).length).map by_):=by
   have e1:=congrArg by_ (zj2 b);have e2:=congrArg by_ (zj2 a);rw [zl7] at e1 e2;rw [←e1,hs,List.map_append,zs7 (by simpa using h0) (by simp;omega),e2];simp
  have :=congrArg List.length e;rw [zc8,List.length_append,zc8,List.length_cons] at this;omega
theorem yk6 {next :Int} {N:List (Int × Bool)} {M:List Mn} {H:List Hn} {way:ByteArray→Bool} (h:zc4 next N M H way=true):1≤M.length∧(∀m∈M,za0 m.p=true)∧(∀m:Mn,M[0]? =some m→m.p.size=0)∧∀ (k j:Nat) (a b:Mn),M[j]? =some a→M[k]? =some b→j<k→za7 (names a.p) (names b.p)=true:=by
 unfold zc4 at h;simp only [Bool.and_eq_true] at h;obtain ⟨⟨-,hm⟩, -⟩:=h;unfold zj6 at hm;simp only [Bool.and_eq_true,decide_eq_true_eq] at hm;obtain ⟨⟨⟨h1, -⟩,h0⟩,hs⟩:=hm
 have hst:∀ (k:Nat) (m:Mn),M[k]? =some m→zg8 (N.map (·.1)) M k=true:=fun k m hk=>by
  rw [List.all_eq_true] at hs;exact hs k (List.mem_range.2 (List.getElem?_eq_some_iff.1 hk).1)
 have key:∀ (k:Nat) (m:Mn),M[k]? =some m→za0 m.p=true∧(match k with |0=>true|j+1=>(match M[j]? with |none=>true|some p=>za7 (names p.p) (names m.p)))=true:=fun k m hk=>by
  have :=hst k m hk;unfold zg8 at this;rw [hk] at this;simp only [Bool.and_eq_true] at this;exact ⟨this.1.1.1.2,this.1.1.2⟩
 refine ⟨h1,fun m hm=>?_,fun m hm=>?_,yg7 fun k m hm j q e hq=>?_⟩
 ·obtain ⟨k,hk⟩:=List.getElem?_of_mem hm;exact (key k m hk).1
 ·cases M with
  |nil=>cases hm
  |cons x R=>
   cases hm
   simpa using h0
 ·subst e;have :=(key (j+1) m hm).2;simp only [hq] at this;exact this
def uR (p:ByteArray) (m:Mn):Bool:=under p m.p
theorem uR_in {p:ByteArray} (hp:za0 p=true) {m:Mn} (hm:za0 m.p=true):(za0 p&&za0 m.p&&zh1 (za6 p) (za6 m.p))=uR p m:=by
 rw [hp,hm,zc1 hp,zc1 hm];rfl
theorem lead_of {next :Int} {N:List (Int × Bool)} {M:List Mn} {H:List Hn} {way:ByteArray→Bool} (h:zc4 next N M H way=true) (p:ByteArray) (hp:za0 p=true):
  zg2 (uR p) M M.length=zf8 (uR p) M M.length∧zf8 (uR p) M M.length∈M∧under p (zf8 (uR p) M M.length).p=true∧(zj9 p (zf8 (uR p) M M.length).p).1=rest p (zf8 (uR p) M M.length).p:=by
 obtain ⟨h1,h2,h3,h4⟩:=yk6 h;obtain ⟨k1,k2⟩:=lead_same (u:=uR p) (M:=M) (fun m hm=>(zl9 _ _).2 (.inl (zf5.2 (h3 m hm)))) (fun k j a b ha hb hj hua hub=>under_bigger hua hub (h4 k j a b ha hb hj)) M.length (Nat.le_refl _);obtain ⟨j, -,j2,j3⟩:=k2 (by omega);have hmem:=List.mem_of_getElem? j2;have hq:=h2 _ hmem;refine ⟨k1,hmem,j3,?_⟩;have q1:∀ {s:ByteArray},za0 s=true→s.size≤200:=fun {s} hs=>Nat.le_of_not_lt fun h=>by rw [zp6 h] at hs;cases hs
 rw [zj9,if_neg (by have :=q1 hp;have :=q1 hq;omega),if_neg (fun g=>g ⟨hp,hq⟩),if_neg (by rw [zc1 hp,zc1 hq];have e:zh1 (names p) (names (zf8 (uR p) M M.length).p)=true:=j3;rw [e];simp),zc1 hp,zc1 hq];rfl
def whyI (p:ByteArray) (R:Bool):Int:=if 8000<p.size then 1 else if (R&&za0 p)=true then 0 else 2
end Pl
end Go.Proofs.YtbomeifgfalmdaaGreatDoor
