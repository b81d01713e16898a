import Derived.Test.YtonffldjbmednaaGreatDoorG06
import Derived.Test.YtonffldjbmednaaGreatDoorG01
namespace Go.Proofs.YtonffldjbmednaaGreatDoor
namespace Pl
def zM:Mn:=⟨⟨#[]⟩,0,false⟩
def leadI (u:Mn→Bool) (M:List Mn):Nat→Mn
 |0=>zM
 |k+1=>match M[k]? with
  |none=>leadI u M k
  |some m=>bif u m then m else leadI u M k
def leadS (u:Mn→Bool) (M:List Mn):Nat→Mn
 |0=>zM
 |k+1=>match M[k]? with
  |none=>leadS u M k
  |some m=>bif u m&&(decide (k=0)||decide ((leadS u M k).p.size<m.p.size)) then m else leadS u M k
theorem leadI_yes {u:Mn→Bool} {M:List Mn} {k:Nat} {m:Mn} (h:M[k]? =some m) (hu:u m=true):leadI u M (k+1)=m:=by rw [leadI,h];simp [hu]
theorem leadI_no {u:Mn→Bool} {M:List Mn} {k:Nat} {m:Mn} (h:M[k]? =some m) (hu:u m=false):leadI u M (k+1)=leadI u M k:=by rw [leadI,h];simp [hu]
theorem leadS_yes {u:Mn→Bool} {M:List Mn} {k:Nat} {m:Mn} (h:M[k]? =some m) (hu:u m=true) (h2:k=0∨(leadS u M k).p.size<m.p.size):leadS u M (k+1)=m:=by
 rw [leadS,h]
 rcases h2 with h2|h2 <;> simp [hu,h2]
theorem leadS_no {u:Mn→Bool} {M:List Mn} {k:Nat} {m:Mn} (h:M[k]? =some m) (hu:u m=false):leadS u M (k+1)=leadS u M k:=by rw [leadS,h];simp [hu]
theorem lead_same {u:Mn→Bool} {M:List Mn} (h0:∀m:Mn,M[0]? =some m→u m=true) (hr:∀ (k j:Nat) (a b:Mn),M[j]? =some a→M[k]? =some b→j<k→u a=true→u b=true→a.p.size<b.p.size):
  ∀k,k≤M.length→leadS u M k=leadI u M k∧(0<k→∃j,j<k∧M[j]? =some (leadI u M k)∧u (leadI u M k)=true):=by
 intro k
 induction k with
 |zero=>exact fun _=>⟨rfl,fun h=>absurd h (Nat.lt_irrefl _)⟩
 |succ k ih=>
  intro hk;have hm:M[k]? =some (M[k]'(by omega)):=List.getElem?_eq_getElem (by omega);generalize M[k]'(by omega)=m at hm;obtain ⟨h1,h2⟩:=ih (by omega);cases hu:u m with
  |false=>
   rw [leadI_no hm hu,leadS_no hm hu];refine ⟨h1,fun _=>?_⟩
   rcases Nat.eq_zero_or_pos k with e|e
   ·subst e;rw [h0 m hm] at hu;cases hu
   ·obtain ⟨j,j1,j2,j3⟩:=h2 e;exact ⟨j,by omega,j2,j3⟩
  |true=>
   rw [leadI_yes hm hu];refine ⟨leadS_yes hm hu ?_,fun _=>⟨k,by omega,hm,hu⟩⟩
   rcases Nat.eq_zero_or_pos k with e|e
   ·exact .inl e
   ·obtain ⟨j,j1,j2,j3⟩:=h2 e;rw [h1];exact .inr (hr k j _ m j2 hm j1 j3 hu)
theorem under_bigger {p a b:ByteArray} (ha:underR (names p) (names a)=true) (hb:underR (names p) (names b)=true) (h:za3 (names a) (names b)=true):a.size<b.size:=by
 have ha':=(underR_iff _ _).1 ha;have hb':=(underR_iff _ _).1 hb
 have hl:(names a).length<(names b).length:=by
  refine Nat.lt_of_not_le fun hle=>?_
  rw [less_under (names a) (names b) (fun j t ht=>by
   have hj:=(List.getElem?_eq_some_iff.1 ht).1;have h1:(names a)[j]? =some ((names a)[j]'(by omega)):=List.getElem?_eq_getElem (by omega);have h2:=ha' j _ h1;rw [hb' j t ht] at h2
   rw [h1,h2])] at h
  cases h
 have hs:names b=names a++(names b).drop (names a).length:=by
  have e:(names b).take (names a).length=names a:=by
   refine List.ext_getElem? fun j=>?_
   rcases Nat.lt_or_ge j (names a).length with hj|hj
   ·have h1:(names a)[j]? =some ((names a)[j]'hj):=List.getElem?_eq_getElem hj;have h3:(names b)[j]? =some ((names b)[j]'(by omega)):=List.getElem?_eq_getElem (by omega);have h2:=ha' j _ h1;rw [hb' j _ h3] at h2;rw [List.getElem?_take_of_lt hj,h1,h3,h2]
   ·rw [List.getElem?_eq_none (by simp;omega),List.getElem?_eq_none hj]
  rw [←e,List.length_take,Nat.min_eq_left (by omega)];exact (List.take_append_drop _ _).symm
 by_cases h0:names a=[]
 ·have e:=yb4 a;rw [h0] at e;have ea:a.size=0:=by rw [←e];rfl
  have eb:b.size≠0:=fun e2=>by
   have :=(zg4 e2).2;rw [this] at hl;exact absurd hl (Nat.not_lt_zero _)
  omega
 ·have e:by_ b=by_ a++47::ze1 (((names b).drop (names a).length).map by_):=by
   have e1:=congrArg by_ (yb4 b);have e2:=congrArg by_ (yb4 a);rw [zt5] at e1 e2;rw [←e1,hs,List.map_append,glueL_append (by simpa using h0) (by simp;omega),e2];simp
  have :=congrArg List.length e;rw [zg6,List.length_append,zg6,List.length_cons] at this;omega
theorem space_lead {next :Int} {N:List (Int × Bool)} {M:List Mn} {H:List Hn} {way:ByteArray→Bool} (h:ze9 next N M H way=true):1≤M.length∧(∀m∈M,za2 m.p=true)∧(∀m:Mn,M[0]? =some m→m.p.size=0)∧∀ (k j:Nat) (a b:Mn),M[j]? =some a→M[k]? =some b→j<k→za3 (names a.p) (names b.p)=true:=by
 unfold ze9 at h;simp only [Bool.and_eq_true] at h;obtain ⟨⟨-,hm⟩, -⟩:=h;unfold zi3 at hm;simp only [Bool.and_eq_true,decide_eq_true_eq] at hm;obtain ⟨⟨⟨h1, -⟩,h0⟩,hs⟩:=hm
 have hst:∀ (k:Nat) (m:Mn),M[k]? =some m→zf2 (N.map (·.1)) M k=true:=fun k m hk=>by
  rw [List.all_eq_true] at hs;exact hs k (List.mem_range.2 (List.getElem?_eq_some_iff.1 hk).1)
 have key:∀ (k:Nat) (m:Mn),M[k]? =some m→za2 m.p=true∧(match k with |0=>true|j+1=>(match M[j]? with |none=>true|some p=>za3 (names p.p) (names m.p)))=true:=fun k m hk=>by
  have :=hst k m hk;unfold zf2 at this;rw [hk] at this;simp only [Bool.and_eq_true] at this;exact ⟨this.1.1.1.2,this.1.1.2⟩
 refine ⟨h1,fun m hm=>?_,fun m hm=>?_,mounts_rise fun k m hm j q e hq=>?_⟩
 ·obtain ⟨k,hk⟩:=List.getElem?_of_mem hm;exact (key k m hk).1
 ·cases M with
  |nil=>cases hm
  |cons x R=>
   cases hm
   simpa using h0
 ·subst e;have :=(key (j+1) m hm).2;simp only [hq] at this;exact this
def uR (p:ByteArray) (m:Mn):Bool:=under p m.p
theorem uR_in {p:ByteArray} (hp:za2 p=true) {m:Mn} (hm:za2 m.p=true):(za2 p&&za2 m.p&&underR (zb7 p) (zb7 m.p))=uR p m:=by
 rw [hp,hm,zh5 hp,zh5 hm];rfl
theorem lead_of {next :Int} {N:List (Int × Bool)} {M:List Mn} {H:List Hn} {way:ByteArray→Bool} (h:ze9 next N M H way=true) (p:ByteArray) (hp:za2 p=true):
  leadS (uR p) M M.length=leadI (uR p) M M.length∧leadI (uR p) M M.length∈M∧under p (leadI (uR p) M M.length).p=true∧(restO p (leadI (uR p) M M.length).p).1=rest p (leadI (uR p) M M.length).p:=by
 obtain ⟨h1,h2,h3,h4⟩:=space_lead h;obtain ⟨k1,k2⟩:=lead_same (u:=uR p) (M:=M) (fun m hm=>(under_iff _ _).2 (.inl (zg0.2 (h3 m hm)))) (fun k j a b ha hb hj hua hub=>under_bigger hua hub (h4 k j a b ha hb hj)) M.length (Nat.le_refl _);obtain ⟨j, -,j2,j3⟩:=k2 (by omega);have hmem:=List.mem_of_getElem? j2;have hq:=h2 _ hmem;refine ⟨k1,hmem,j3,?_⟩;have q1:∀ {s:ByteArray},za2 s=true→s.size≤200:=fun {s} hs=>Nat.le_of_not_lt fun h=>by rw [zv7 h] at hs;cases hs
 rw [restO,if_neg (by have :=q1 hp;have :=q1 hq;omega),if_neg (fun g=>g ⟨hp,hq⟩),if_neg (by rw [zh5 hp,zh5 hq];have e:underR (names p) (names (leadI (uR p) M M.length).p)=true:=j3;rw [e];simp),zh5 hp,zh5 hq];rfl
def whyI (p:ByteArray) (R:Bool):Int:=if 8000<p.size then 1 else if (R&&za2 p)=true then 0 else 2
end Pl
end Go.Proofs.YtonffldjbmednaaGreatDoor
