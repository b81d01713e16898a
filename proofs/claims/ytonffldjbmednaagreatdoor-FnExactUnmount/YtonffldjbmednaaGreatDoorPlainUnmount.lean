import Derived.Test.YtonffldjbmednaaGreatDoorG35
namespace Go.Proofs.YtonffldjbmednaaGreatDoor
namespace Pl
def neM (o m:Mn):Bool:= !(decide (o.p=m.p)&&decide (o.i=m.i)&&decide (o.z=m.z))
def busyI (M:List Mn) (H:List Hn) (m:Mn):Bool:=decide (0<(cntH H m.i:Int))||M.any (fun o=>neM o m&&under o.p m.p)
def busyS (M:List Mn) (H:List Hn) (p:ByteArray) (k:Nat) (i:Int):Bool:=decide (1<held M H i)||(List.range M.length).any (fun j=>match M[j]? with |none=>false|some o=>decide (j≠k)&&under o.p p)
theorem one_inst {next :Int} {N:List (Int × Bool)} {M:List Mn} {H:List Hn} {way:ByteArray→Bool} (h:ze9 next N M H way=true):∀ (j k:Nat) (a b:Mn),M[j]? =some a→M[k]? =some b→a.i=b.i→j=k:=by
 unfold ze9 at h;simp only [Bool.and_eq_true] at h;obtain ⟨⟨-,hm⟩, -⟩:=h;unfold zi3 at hm;simp only [Bool.and_eq_true] at hm;have hs:=hm.2;rw [List.all_eq_true] at hs
 have key:∀ (j k:Nat) (a b:Mn),j<k→M[j]? =some a→M[k]? =some b→a.i≠b.i:=fun j k a b hjk ha hb=>by
  have hkl:=(List.getElem?_eq_some_iff.1 hb).1;have h1:=hs k (List.mem_range.2 hkl);unfold zf2 at h1;rw [hb] at h1;simp only [Bool.and_eq_true] at h1;have h2:=h1.2;rw [List.all_eq_true] at h2;have h3:=h2 a (List.mem_of_getElem? (i:=j) (by rw [List.getElem?_take_of_lt hjk];exact ha))
  simpa using h3
 intro j k a b ha hb e
 rcases Nat.lt_trichotomy j k with h1|h1|h1
 ·exact absurd e (key j k a b h1 ha hb)
 ·exact h1
 ·exact absurd e.symm (key k j b a h1 hb ha)
theorem cnt_one {M:List Mn} {k:Nat} {m:Mn} (hm:M[k]? =some m) (h:∀ (j:Nat) (a:Mn),M[j]? =some a→a.i=m.i→j=k):cntM M m.i=1:=by
 unfold cntM;have hl:=(List.getElem?_eq_some_iff.1 hm).1
 have e:M=M.take k++m::M.drop (k+1):=by
  have h1:=(List.getElem?_eq_some_iff.1 hm).2;rw [←h1,←List.drop_eq_getElem_cons hl,List.take_append_drop]
 have h0:(M.take k).countP (fun x=>decide (x.i=m.i))=0:=by
  rw [List.countP_eq_zero];intro x hx;obtain ⟨j,hj⟩:=List.getElem?_of_mem hx;have hj2:=(List.getElem?_eq_some_iff.1 hj).1;rw [List.length_take] at hj2;rw [List.getElem?_take_of_lt (by omega)] at hj;simp only [decide_eq_true_eq];intro e;have :=h j x hj e;omega
 have h2:(M.drop (k+1)).countP (fun x=>decide (x.i=m.i))=0:=by
  rw [List.countP_eq_zero];intro x hx;obtain ⟨j,hj⟩:=List.getElem?_of_mem hx;rw [List.getElem?_drop] at hj;simp only [decide_eq_true_eq];intro e;have :=h _ x hj e;omega
 rw [e,List.countP_append,List.countP_cons,h0,h2];simp
theorem busy_same {next :Int} {N:List (Int × Bool)} {M:List Mn} {H:List Hn} {way:ByteArray→Bool} (h:ze9 next N M H way=true) {k:Nat} {m:Mn} (hm:M[k]? =some m):busyI M H m=busyS M H m.p k m.i:=by
 have h1:=one_inst h;have hc:=cnt_one hm (fun j a ha e=>h1 j k a m ha hm e);unfold busyI busyS held;rw [hc]
 have hd:decide (0<(cntH H m.i:Int))=decide (1<((1:Nat):Int)+(cntH H m.i:Int)):=by
  rw [Bool.eq_iff_iff];simp only [decide_eq_true_eq];omega
 rw [hd]
 congr 1
 rw [Bool.eq_iff_iff,List.any_eq_true,List.any_eq_true]
 constructor
 ·rintro ⟨o,ho,h2⟩;rw [Bool.and_eq_true] at h2;obtain ⟨j,hj⟩:=List.getElem?_of_mem ho;refine ⟨j,List.mem_range.2 (List.getElem?_eq_some_iff.1 hj).1,?_⟩;rw [hj];simp only [Bool.and_eq_true,decide_eq_true_eq];refine ⟨fun e=>?_,h2.2⟩;subst e;rw [hm] at hj;cases hj
  have h3:=h2.1;simp [neM] at h3
 ·rintro ⟨j,hj,h2⟩;obtain ⟨o,ho⟩:∃o,M[j]? =some o:=⟨_,List.getElem?_eq_getElem (List.mem_range.1 hj)⟩;rw [ho] at h2;simp only [Bool.and_eq_true,decide_eq_true_eq] at h2;refine ⟨o,List.mem_of_getElem? ho,?_⟩;rw [Bool.and_eq_true];refine ⟨?_,h2.2⟩;unfold neM;rw [Bool.not_eq_true'];rw [Bool.and_eq_false_iff,Bool.and_eq_false_iff]
  left;right
  rw [decide_eq_false_iff_not];exact fun e=>h2.1 (h1 j k o m ho hm e)
def busyP (s:Sp) (p:ByteArray):Bool:=match s.M[(onI s.M p).toNat]? with |none=>false|some m=>busyS s.M s.H p (onI s.M p).toNat m.i
theorem on_mem {next :Int} {N:List (Int × Bool)} {M:List Mn} {H:List Hn} {way:ByteArray→Bool} (h:ze9 next N M H way=true) {m:Mn} (hm:m∈M):∃k:Nat,onI M m.p=(k:Int)∧M[k]? =some m:=by
 have hn:¬onI M m.p<0:=fun e=>onI_neg.1 e m hm rfl;obtain ⟨k,hk⟩:∃k:Nat,onI M m.p=(k:Int):=⟨(onI M m.p).toNat,by omega⟩;obtain ⟨x,h1,h2,h3⟩:=onI_hit hk;obtain ⟨j,hj⟩:=List.getElem?_of_mem hm;have h4:=(space_lead h).2.2.2;refine ⟨k,hk,?_⟩;by_cases e:j=k
 ·subst e;exact hj
 ·exfalso
  rcases Nat.lt_or_gt_of_ne e with e|e
  ·exact h3 j m e hj rfl
  ·have :=h4 j k x m h1 hj e;rw [h2,zj1] at this;cases this
theorem busyP_is {s:Sp} {N:List (Int × Bool)} {way:ByteArray→Bool} (h:ze9 s.next N s.M s.H way=true) {m:Mn} (hm:m∈s.M):busyP s m.p=busyI s.M s.H m:=by
 obtain ⟨k,h1,h2⟩:=on_mem h hm;unfold busyP;rw [h1,Int.toNat_natCast,h2];exact (busy_same h h2).symm
def unmountA (s:Sp) (p:ByteArray) (R:Bool):Ao:=if whyD p R s.M=0 then (if busyP s p=true then Ao.ill 13 else ⟨keepN (s.N.map Ns.r) (delM s.M p) s.H,delM s.M p,s.H,s.next,0,⟨#[]⟩,0⟩) else Ao.ill (codeW (whyD p R s.M))
theorem unmountA_small {s:Sp} {p:ByteArray} {R:Bool} (h:R=true→s.N.length≤12∧s.M.length≤6∧s.H.length≤6∧∀x∈s.N,x.Is.length≤12∧x.Is.length≠0∧∀t∈x.Is,t.t.L.length≤40):(unmountA s p R).Small:=by
 unfold unmountA
 split
 ·rename_i h0
  split
  ·exact Ao.ill_small _
  ·have hR:R=true:=by rcases whyD_cases p R s.M with ⟨_,h1,_⟩|h1|h1|h1 <;> first |exact h1|(rw [h1] at h0;exact absurd h0 (by decide))
   exact cut_small hR h (List.length_filter_le _ _)
 ·exact Ao.ill_small _
end Pl
end Go.Proofs.YtonffldjbmednaaGreatDoor
