/- Several texts of one claim in one file: PlainPickQ, PlainAsk, PlainTreeI, PlainNames, PlainIns, PlainNamesK, PlainRise, PlainKid, PlainKids, PlainGetV, PlainEnds, PlainComp. -/
import Derived.Test.YtbomeifgfalmdaaGreatDoorG00
import Derived.Deep.RegionHeld3
import Derived.Test.YtbomeifgfalmdaaGreatDoorProg
import Derived.WalkSpells
import Derived.Lib.OthersKept
import Derived.BigQuiet
import Derived.Lib.SlicesCompact
import Derived.Sort.Walk0
namespace Go.Proofs.YtbomeifgfalmdaaGreatDoor
section
open Go.RowKit
namespace Pl
theorem go_len:∀ (ns:List (Option Nd)) (k:Nat) (s:Sg),s.have'.length=4→(goD k s ns).have'.length=4:=by
 intro ns
 induction ns with
 |nil=>intro k s h;exact h
 |cons x ns ih=>
  intro k s h;cases x with
  |none=>exact ih _ _ h
  |some n=>
   rw [goD]
   split
   ·rw [take_len];exact h
   ·exact ih _ _ (by rw [take_len];exact h)
theorem dec_len (ns:List (Option Nd)):(decS ns).have'.length=4:=up_len (go_len ns 0 Sg.zero rfl)
theorem pick_skip (p:ByteArray):∀ (l:List (Nat × Option Nd)) (o:Ot) (m:Int),zd8 p o m l=zd8 p o m (l.filter (fun x=>x.2.isSome)):=by
 intro l
 induction l with
 |nil=>intro o m;rfl
 |cons x l ih=>
  intro o m;obtain ⟨k,y⟩:=x;cases y with
  |none=>simp only [zd8,List.filter];exact ih o m
  |some n=>
   simp only [List.filter,Option.isSome,zd8];rw [ih,ih];rfl
theorem sub_filter {l m:List Nat} (h:l.Sublist m):m.Nodup→m.filter (fun k=>decide (k∈l))=l:=by
 induction h with
 |slnil=>intro _;rfl
 | @cons l m a h ih=>
  intro hn;have hn':=List.nodup_cons.1 hn;have ha:a∉l:=fun h2=>hn'.1 (h.subset h2);rw [List.filter_cons_of_neg (by simpa using ha)];exact ih hn'.2
 | @cons_cons l m a h ih=>
  intro hn;have hn':=List.nodup_cons.1 hn;rw [List.filter_cons_of_pos (by simp)]
  congr 1
  rw [←ih hn'.2]
  apply List.filter_congr
  intro k hk;have :k≠a:=fun e=>hn'.1 (e ▸ hk);rw [ih hn'.2];simp [this]
theorem numb_map:∀ (ns:List (Option Nd)) (j:Nat),numb j ns=(List.range ns.length).map (fun i=>(j+i,ns.getD i none)):=by
 intro ns
 induction ns with
 |nil=>intro j;rfl
 |cons x ns ih=>
  intro j;rw [numb,ih,List.length_cons,List.range_succ_eq_map,List.map_cons,List.map_map]
  congr 1
  apply List.map_congr_left
  intro i _;simp
  omega
theorem filter_ask (ks:List Nat) (R:List Nat) (f:Nat→Option Nd):(R.map (fun i=>(i,if decide (i∈ks) then f i else none))).filter (fun x=>x.2.isSome)=((R.filter (fun k=>decide (k∈ks))).map (fun i=>(i,f i))).filter (fun x=>x.2.isSome):=by
 induction R with
 |nil=>rfl
 |cons a R ih=>
  by_cases h:a∈ks
  ·simp only [List.map_cons,List.filter_cons,h,decide_true,if_true]
   split <;> rw [ih]
  ·simp only [List.map_cons,List.filter_cons,h,decide_false,Bool.false_eq_true,if_false,Option.isSome];exact ih
theorem pick_sub (p:ByteArray):∀ (l:List (Nat × Option Nd)) (o:Ot) (m:Int),∃ks,ks.Sublist (l.map Prod.fst)∧((zd8 p o m l).parts=o.parts++ks∨(zd8 p o m l).parts=[]):=by
 intro l
 induction l with
 |nil=>intro o m;exact ⟨[],List.nil_sublist _, .inl (by simp [zd8,finO])⟩
 |cons x l ih=>
  intro o m;obtain ⟨k,y⟩:=x;cases y with
  |none=>
   obtain ⟨ks,h1,h2⟩:=ih o m;exact ⟨ks,h1.cons _,h2⟩
  |some n=>
   simp only [zd8];by_cases hp:o.parts=[]
   ·rw [if_pos hp];by_cases hk:n.kind=1
    ·rw [if_pos hk];by_cases hm:0<n.mark
     ·rw [if_pos hm];exact ⟨[k],by simp, .inl (by simp [finO,hp])⟩
     ·rw [if_neg hm];obtain ⟨ks,h1,h2⟩:=ih ⟨true,⟨p,1,⟨#[]⟩,n.time,0⟩,[k]⟩ (max m n.mark);refine ⟨k::ks,h1.cons_cons _,?_⟩
      rcases h2 with h2|h2
      ·exact .inl (by rw [h2,hp];rfl)
      ·exact .inr h2
    ·rw [if_neg hk]
     split
     ·exact ⟨[],List.nil_sublist _, .inr rfl⟩
     ·exact ⟨[],List.nil_sublist _, .inr rfl⟩
   ·rw [if_neg hp];by_cases hk:n.kind=1
    ·rw [if_pos hk];by_cases hm:0<n.mark
     ·rw [if_pos hm];exact ⟨[k],by simp, .inl (by simp [finO])⟩
     ·rw [if_neg hm];obtain ⟨ks,h1,h2⟩:=ih ⟨o.ok,o.node,o.parts++[k]⟩ (max m n.mark);refine ⟨k::ks,h1.cons_cons _,?_⟩
      rcases h2 with h2|h2
      ·exact .inl (by rw [h2];simp)
      ·exact .inr h2
    ·rw [if_neg hk];exact ⟨[],List.nil_sublist _, .inl (by simp [finO])⟩
theorem go_path (p:ByteArray):∀ (ns:List (Option Nd)) (k:Nat) (s:Sg),(∀n,some n∈ns→n.path=p)→(s.told=true→s.node.path=p)→(goD k s ns).told=true→(goD k s ns).node.path=p:=by
 intro ns
 induction ns with
 |nil=>intro k s _ hs h;exact hs h
 |cons x ns ih=>
  intro k s hn hs h;have hn':∀n,some n∈ns→n.path=p:=fun n hm=>hn n (List.mem_cons_of_mem _ hm);cases x with
  |none=>exact ih _ _ hn' hs h
  |some n=>
   have h1:=hn n List.mem_cons_self
   have ht:(zd6 s k n).node.path=p:=by
    unfold zd6 zi5;cases hst:s.told
    ·exact h1
    ·exact hs hst
   rw [goD] at h ⊢
   split at h
   ·rw [if_pos (by assumption)];exact ht
   ·rw [if_neg (by assumption)];exact ih _ _ hn' (fun _=>ht) h
theorem dec_path {p:ByteArray} {ns:List (Option Nd)} (hn:∀n,some n∈ns→n.path=p) (h:(decS ns).told=true):(decS ns).node.path=p:=by
 unfold decS upS at h ⊢
 split at h
 ·cases h
 ·rw [if_neg (by assumption)];exact go_path p ns 0 Sg.zero hn (fun h2=>by cases h2) h
theorem mark_node {n:Nd} {m:Int} (h:zb6 n=true) (hk:n.kind=1) (hm:0≤m∧m≤8):zb6 ⟨n.path,n.kind,n.data,n.time,m⟩=true:=by
 unfold zb6 at h ⊢;simp only [Bool.and_eq_true,decide_eq_true_eq] at h ⊢;refine ⟨⟨h.1.1,hm⟩,?_⟩;have h2:=h.2;unfold zj0 at h2 ⊢;simp only [hk] at h2 ⊢
 simpa using h2
theorem go_node:∀ (ns:List (Option Nd)) (k:Nat) (s:Sg),(∀n,some n∈ns→zb6 n=true)→(s.told=true→zb6 s.node=true∧s.node.kind=1)→(goD k s ns).told=true→zb6 (goD k s ns).node=true:=by
 intro ns
 induction ns with
 |nil=>intro k s _ hs h;exact (hs h).1
 |cons x ns ih=>
  intro k s hn hs h;have hn':∀n,some n∈ns→zb6 n=true:=fun n hm=>hn n (List.mem_cons_of_mem _ hm);cases x with
  |none=>exact ih _ _ hn' hs h
  |some n=>
   have h1:=hn n List.mem_cons_self;have hb:=zu3 h1
   have ht:zb6 (zd6 s k n).node=true∧(n.kind=1→(zd6 s k n).node.kind=1):=by
    unfold zd6 zi5;cases hst:s.told
    ·simp only [Bool.false_eq_true,if_false];rw [Int.max_self];exact ⟨h1,fun h=>h⟩
    ·obtain ⟨h2,h3⟩:=hs hst;have hb2:=zu3 h2;simp only [if_true];exact ⟨mark_node h2 h3 (by omega),fun _=>h3⟩
   rw [goD] at h ⊢
   split at h
   ·rw [if_pos (by assumption)];exact ht.1
   ·rename_i hst
    rw [if_neg hst];refine ih _ _ hn' (fun _=>⟨ht.1,ht.2 ?_⟩) h;simp [zh2] at hst
    exact hst.1
theorem up_node {s:Sg} (h:s.told=true→zb6 s.node=true) (ht:(upS s).told=true):zb6 (upS s).node=true:=by
 unfold upS at ht ⊢
 split at ht
 ·cases ht
 ·rename_i hz
  rw [if_neg hz];have h1:=h ht;have hb:=zu3 h1;unfold zb6 at h1 ⊢;simp only [Bool.and_eq_true,decide_eq_true_eq] at h1 ⊢;refine ⟨⟨h1.1.1,by omega⟩,?_⟩;have h2:=h1.2;unfold zj0 at h2 ⊢;simp only at hz h2 ⊢;by_cases k0:s.node.kind=0
  ·simp only [k0,if_true,Bool.and_eq_true,decide_eq_true_eq,true_and] at hz h2 ⊢;exact ⟨h2.1,by omega⟩
  ·by_cases k1:s.node.kind=1
   ·simp only [if_neg k0,if_pos k1] at h2 ⊢;exact h2
   ·simp only [if_neg k0,if_neg k1] at h2 ⊢
    split at h2
    ·rename_i k2
     rw [if_pos k2];simp only [decide_eq_true_eq] at h2 ⊢;omega
    ·cases h2
theorem dec_node {ns:List (Option Nd)} (hn:∀n,some n∈ns→zb6 n=true) (ht:(decS ns).told=true):zb6 (decS ns).node=true:=
 up_node (fun h=>go_node ns 0 Sg.zero hn (fun h2=>by cases h2) h) ht
theorem up_zero:upS Sg.zero=Sg.zero:=by
 unfold upS
 split <;> rfl
end Pl
end
section
open Go.RowKit
namespace Pl
def zk5:Ot:=⟨false,za3,[]⟩
end Pl
end
section
namespace Pl
theorem find_path {L:List Nd} {p:ByteArray} {m:Nd} (h:L.find? (fun m=>decide (m.path=p))=some m):m.path=p:=by
 have :=List.find?_some h
 simpa using this
theorem goS_iff (L:List Nd):∀ (r:List Nd) (prev:Option ByteArray),goS L prev r=true↔(∀n∈r,zb6 n=true∧dirS L (parent n.path)=true)∧r.Pairwise (fun a b=>za7 (names a.path) (names b.path)=true)∧∀n∈r,prevB prev n.path=true:=by
 intro r
 induction r with
 |nil=>intro prev;simp [goS]
 |cons m r ih=>
  intro prev;simp only [goS,Bool.and_eq_true];rw [ih]
  constructor
  ·rintro ⟨⟨⟨h1,h2⟩,h3⟩,h4,h5,h6⟩;refine ⟨fun n hn=>?_,List.Pairwise.cons (fun n hn=>h6 n hn) h5,fun n hn=>?_⟩
   ·rcases List.mem_cons.1 hn with rfl |hn
    ·exact ⟨h1,h3⟩
    ·exact h4 n hn
   ·rcases List.mem_cons.1 hn with rfl |hn
    ·exact h2
    ·cases prev with
     |none=>rfl
     |some q=>exact zn3 _ _ _ h2 (h6 n hn)
  ·rintro ⟨h1,h2,h3⟩;obtain ⟨h4,h5⟩:=List.pairwise_cons.1 h2;exact ⟨⟨⟨(h1 m (List.mem_cons_self ..)).1,h3 m (List.mem_cons_self ..)⟩,(h1 m (List.mem_cons_self ..)).2⟩,fun n hn=>h1 n (List.mem_cons_of_mem _ hn),h5,fun n hn=>h4 n hn⟩
theorem zr1 (L:List Nd):zc7 L=true↔L.length≤40∧(∀n∈L,zb6 n=true∧dirS L (parent n.path)=true)∧L.Pairwise (fun a b=>za7 (names a.path) (names b.path)=true):=by
 rw [zc7,←tree_same,Bool.and_eq_true,decide_eq_true_eq,goS_iff]
 constructor
 ·rintro ⟨h1,h2,h3, -⟩;exact ⟨h1,h2,h3⟩
 ·rintro ⟨h1,h2,h3⟩;exact ⟨h1,h2,h3,fun n hn=>rfl⟩
theorem dirS_iff {L:List Nd} (h:L.Pairwise (fun a b=>za7 (names a.path) (names b.path)=true)) (p:ByteArray):dirS L p=true↔p.size=0∨∃m∈L,m.path=p∧m.kind=1:=by
 simp only [dirS,Bool.or_eq_true,decide_eq_true_eq];refine or_congr Iff.rfl ?_;cases hf:L.find? (fun m=>decide (m.path=p)) with
 |none=>
  rw [List.find?_eq_none] at hf
  constructor
  ·intro h;cases h
  ·rintro ⟨m,hm,e,_⟩;exact absurd (decide_eq_true e) (hf m hm)
 |some m'=>
  have h1:=List.mem_of_find?_eq_some hf;have h2:=find_path hf;simp only [decide_eq_true_eq]
  constructor
  ·intro h3;exact ⟨m',h1,h2,h3⟩
  ·rintro ⟨m,hm,e,hk⟩;rw [one_path h h1 hm (h2.trans e.symm)];exact hk
end Pl
end
section
namespace Pl
def zb2 (p:ByteArray) (L:List Nd):List ByteArray:=(L.filter (fun n=>decide (parent n.path=p))).map (fun n=>base n.path)
theorem kids_in {L:List Nd} {p:ByteArray} {k:Nat} {n:Nd} (hn:L[k]? =some n) (h:parent n.path=p):zb2 p (L.take (k+1))=zb2 p (L.take k)++[base n.path]:=by
 have h1:=List.getElem?_eq_some_iff.1 hn;rw [List.take_succ_eq_append_getElem h1.1,h1.2];simp [zb2,h]
theorem kids_out {L:List Nd} {p:ByteArray} {k:Nat} {n:Nd} (hn:L[k]? =some n) (h:parent n.path≠p):zb2 p (L.take (k+1))=zb2 p (L.take k):=by
 have h1:=List.getElem?_eq_some_iff.1 hn;rw [List.take_succ_eq_append_getElem h1.1,h1.2];simp [zb2,h]
theorem kids_len (p:ByteArray) (L:List Nd) (k:Nat):(zb2 p (L.take k)).length≤k:=by
 have h1:(zb2 p (L.take k)).length≤(L.take k).length:=by simpa [zb2] using List.length_filter_le _ (L.take k)
 have h2:(L.take k).length≤k:=by simp;omega
 omega
end Pl
namespace zn4
theorem tl_eq {a b:ByteArray} (h:a≠b):(a.toList==b.toList)=false:=by
 rw [beq_eq_false_iff_ne];intro e;exact h (Pl.ze4 (by rw [ByteArray.toList_eq,ByteArray.toList_eq] at e;exact e))
end zn4
end
section
open Go.RowKit
namespace Pl
def zm4 (a b:ByteArray):Bool:=Op.bytesLess a.toList b.toList
def insN (t:ByteArray):List ByteArray→List ByteArray
 | []=>[t]
 |a::l=>if zm4 a t=true then a::insN t l else if a=t then a::l else t::a::l
theorem ins_at (t:ByteArray):∀ (l:List ByteArray) (k:Nat),(∀ (j:Nat) x,j<k→l[j]? =some x→zm4 x t=true)→(∀x,l[k]? =some x→zm4 x t=false)→k≤l.length→insN t l=if l[k]? =some t then l else l.take k++[t]++l.drop k:=by
 intro l
 induction l with
 |nil=>
  intro k _ _ hk;have :k=0:=by simpa using hk
  subst this;simp [insN]
 |cons a l ih=>
  intro k h1 h2 hk;cases k with
  |zero=>
   have h3:=h2 a rfl;rw [insN,if_neg (by rw [h3];simp)];by_cases e:a=t
   ·simp [e]
   ·simp [e]
  |succ k=>
   have h3:=h1 0 a (by omega) rfl;rw [insN,if_pos h3,ih k (fun j x hj hx=>h1 (j+1) x (by omega) (by simpa using hx)) (fun x hx=>h2 x (by simpa using hx)) (by simpa using hk)];simp only [List.getElem?_cons_succ,List.take_succ_cons,List.drop_succ_cons,List.cons_append]
   split <;> rfl
theorem ins_len (t:ByteArray) (l:List ByteArray):(insN t l).length≤l.length+1:=by
 induction l with
 |nil=>simp [insN]
 |cons a l ih=>
  rw [insN]
  split
  ·simp;omega
  ·split <;> simp
end Pl
end
section
open Go.RowKit
namespace Pl
def insAll (out:List ByteArray) (K:List ByteArray):List ByteArray:=K.foldl (fun o t=>insN t o) out
end Pl
end
section
open Go.RowKit
namespace Pl
theorem yh3 {a b c:ByteArray} (h1:zm4 a b=true) (h2:zm4 b c=true):zm4 a c=true:=bytes_trans _ _ _ h1 h2
theorem ye0 (a:ByteArray):zm4 a a=false:=zy5 _
theorem lessT_tot {a b:ByteArray} (h:a≠b) (h2:zm4 a b=false):zm4 b a=true:=by
 have h3:=zl6 a.toList b.toList (fun e=>h (by have :=zn4.tl_eq h;rw [e] at this;simp at this));unfold zm4 at h2 ⊢;rw [h2] at h3;cases h4:Op.bytesLess b.toList a.toList
 ·rw [h4] at h3;cases h3
 ·rfl
def Rise (l:List ByteArray):Prop:=l.Pairwise (fun a b=>zm4 a b=true)
theorem ins_mem (t x:ByteArray):∀l:List ByteArray,x∈insN t l↔x=t∨x∈l:=by
 intro l
 induction l with
 |nil=>simp [insN]
 |cons a l ih=>
  rw [insN]
  split
  ·rw [List.mem_cons,ih,List.mem_cons]
   constructor
   ·rintro (h|h|h)
    ·exact .inr (.inl h)
    ·exact .inl h
    ·exact .inr (.inr h)
   ·rintro (h|h|h)
    ·exact .inr (.inl h)
    ·exact .inl h
    ·exact .inr (.inr h)
  ·split
   ·rename_i e
    subst e;simp
   ·simp
theorem ins_rise (t:ByteArray):∀l:List ByteArray,Rise l→Rise (insN t l):=by
 intro l
 induction l with
 |nil=>intro _;exact List.pairwise_singleton _ _
 |cons a l ih=>
  intro h;have h':=List.pairwise_cons.1 h;rw [insN]
  split
  ·rename_i hlt
   refine List.pairwise_cons.2 ⟨fun x hx=>?_,ih h'.2⟩
   rcases (ins_mem t x l).1 hx with e|e
   ·rw [e];exact hlt
   ·exact h'.1 x e
  ·rename_i hlt
   split
   ·exact h
   ·rename_i hne
    have hta:zm4 t a=true:=lessT_tot (fun e=>hne e) (by simpa using hlt);refine List.pairwise_cons.2 ⟨fun x hx=>?_,h⟩
    rcases List.mem_cons.1 hx with e|e
    ·rw [e];exact hta
    ·exact yh3 hta (h'.1 x e)
theorem insAll_ok:∀ (K out:List ByteArray),Rise out→Rise (insAll out K)∧∀x,x∈insAll out K↔x∈out∨x∈K:=by
 intro K
 induction K with
 |nil=>intro out h;exact ⟨h,fun x=>by simp [insAll]⟩
 |cons t K ih=>
  intro out h;obtain ⟨h1,h2⟩:=ih (insN t out) (ins_rise t out h);refine ⟨h1,fun x=>?_⟩;show x∈insAll (insN t out) K↔_;rw [h2,ins_mem,List.mem_cons]
  constructor
  ·rintro ((h|h)|h)
   ·exact .inr (.inl h)
   ·exact .inl h
   ·exact .inr (.inr h)
  ·rintro (h|h|h)
   ·exact .inl (.inr h)
   ·exact .inl (.inl h)
   ·exact .inr h
end Pl
end
section
namespace Pl
theorem kid_names {q p:ByteArray} (hq:za0 q=true) (h0:q.size≠0) (h:parent q=p):names q=names p++[base q]:=by
 have hn:names p=(names q).dropLast:=by rw [←h,ye7 hq,yd8 hq]
 have hne:names q≠[]:=yb2 h0;have hl:=List.length_pos_iff.2 hne;have hc:(names q).dropLast++[(names q).getLast hne]=names q:=List.dropLast_concat_getLast hne
 have hd:(names q).drop ((names q).length - 1)=[(names q).getLast hne]:=by
  have e:(names q).length - 1=(names q).dropLast.length:=by rw [List.length_dropLast]
  rw [e]
  conv=>lhs;arg 2;rw [←hc]
  exact List.drop_left
 rw [hn,base_glue,hd,glue_one,hc]
theorem yd2 {L:List Nd} (h:zc7 L=true):∀n∈L,za0 n.path=true∧n.path.size≠0:=by
 simp only [zc7,Bool.and_eq_true,decide_eq_true_eq] at h;exact fun n hn=>zm2 (goI_all L _ _ h.2 n hn)
end Pl
end
section
namespace Pl
theorem zw5 {q:ByteArray} (h:za0 q=true):(∀t∈names q,zb8 t=true)∧(names q).length≤6:=by
 have e:=ze q;rw [zc1 h] at e;exact e
theorem kid_in {L:List Nd} {q t:ByteArray} (hL:zc7 L=true) (ht:t∈zb2 q L):∃n∈L,names n.path=names q++[t]∧za0 n.path=true:=by
 unfold zb2 at ht;obtain ⟨n,hn,rfl⟩:=List.mem_map.1 ht;obtain ⟨hn1,hn2⟩:=List.mem_filter.1 hn;have h1:=yd2 hL n hn1;exact ⟨n,hn1,kid_names h1.1 h1.2 (of_decide_eq_true hn2),h1.1⟩
theorem yf0 {q t p:ByteArray} (_:za0 p=true) (h:names p=names q++[t]):zh5 q t=p:=by
 rw [zh5,←h,zj2]
end Pl
end
section
open Go.RowKit
namespace Pl
theorem yk4 {L:List Nd} (h:zc7 L=true):L.Pairwise (fun a b=>a.path≠b.path):=by
 have h2:goI [] ⟨#[]⟩ L=true:=by unfold zc7 at h;simp at h;exact h.2
 exact (goI_rise L [] ⟨#[]⟩ h2 (zj1 rfl).1).1.imp (fun {a b} hab e=>by rw [e,zq9] at hab;cases hab)
end Pl
end
section
namespace Pl
theorem ye6 (X:Fx):∀R,X.okX→take X.len (rowO (X.flat++R))=some (X.shape,rowO R):=by
 induction X with
 |nil=>intro R _;exact take_zero _
 |cons L k m ih1 ih2=>
  intro R hx;obtain ⟨h1,h2,h3,h4,h5⟩:=hx
  have hb:zg6 (k.len:Int) L=true:=by
   unfold zg6;simp only [Bool.and_eq_true,Bool.or_eq_true,decide_eq_true_eq,List.isEmpty_iff];exact ⟨⟨⟨by omega,by omega⟩,h2.imp (fun e=>by rw [e];rfl) id⟩,h1⟩
  have e:rowO ((Fx.cons L k m).flat++R)=some k.len::rowO (k.flat++(m.flat++R)):=by
   rw [Fx.flat,List.cons_append,List.append_assoc];show zm8 ((k.len:Int),L)::_=_;rw [ye9 hb,Int.toNat_natCast];rfl
  rw [e,Fx.len,yf9,ih1 _ h4];simp only;rw [ih2 _ h5];rfl
def starts:Fx→Nat→List Nat
 | .nil,_=>[]
 | .cons _ k m,p=>p::starts m (p+1+k.sz)
theorem starts_len (X:Fx):∀p,(starts X p).length=X.len:=by
 induction X with
 |nil=>intro p;rfl
 |cons L k m _ ih=>intro p;rw [starts,List.length_cons,ih,Fx.len]
theorem end_flat {xs:List (Int × List Nd)} {L:List Nd} {k m:Fx} {R:List (Int × List Nd)} {j:Nat} (h:xs.drop j=(Fx.cons L k m).flat++R) (hx:(Fx.cons L k m).okX) (hd:k.shape.depth≤3) (hj:j≤xs.length):endI xs.length (ends 1 1 ((rowO xs).drop j))=((j+1+k.sz:Nat):Int):=by
 have hx1:(Fx.cons L k .nil).okX:=⟨hx.1,hx.2.1,hx.2.2.1,hx.2.2.2.1,trivial⟩
 have e1:(rowO xs).drop j=rowO ((Fx.cons L k .nil).flat++(m.flat++R)):=by
  unfold rowO;rw [←List.map_drop,h];simp [Fx.flat]
 have e2:=ye6 (Fx.cons L k .nil) (m.flat++R) hx1;have e3:(Fx.cons L k .nil).len=1:=rfl;rw [e3] at e2;have hl:=congrArg List.length h;rw [List.length_drop,List.length_append,Fx.yc5,Fx.sz] at hl;unfold ends;rw [e1,e2];have hdp:(Fx.cons L k .nil).shape.depth=k.shape.depth+1:=Fo.zz0 _;simp only;rw [if_pos (by omega),endI,zm9,List.length_append,Fx.yc5];omega
theorem depth_cons {L:List Nd} {k m:Fx}:(Fx.cons L k m).shape.depth=max (k.shape.depth+1) m.shape.depth:=rfl
end Pl
end
section
open Go.RowKit
namespace Pl
theorem le_dec (x y:List UInt8):decide (x≤y)= !Op.bytesLess y x:=by
 rw [bytesLess_eq];by_cases h:y<x
 ·rw [decide_eq_true h,decide_eq_false (fun h2=>h2 h)];rfl
 ·rw [decide_eq_false h,decide_eq_true (show x≤y from h)];rfl
theorem le_trans3 (a b c:List UInt8) (h1:Op.bytesLess b a=false) (h2:Op.bytesLess c b=false):Op.bytesLess c a=false:=by
 cases h:Op.bytesLess c a with
 |false=>rfl
 |true=>
  by_cases e:a=b
  ·subst e;rw [h2] at h;cases h
  ·have h3:=zl6 a b e;rw [h1] at h3;have h4:=bytes_trans _ _ _ h h3;rw [h2] at h4;cases h4
theorem lt_of (a b c:List UInt8) (h1:Op.bytesLess b a=false) (h2:Op.bytesLess c b=false) (hne:c≠b):Op.bytesLess a c=true:=by
 have h3:=zl6 b c (fun e=>hne e.symm);rw [h2] at h3;by_cases e:a=b
 ·subst e;exact h3
 ·have h4:=zl6 a b e;rw [h1] at h4;exact bytes_trans _ _ _ h4 h3
theorem compact_ok (zs:List (List UInt8)) (h:zs.Pairwise (fun a b=>Op.bytesLess b a=false)):(Lib.compact zs).Pairwise (fun a b=>Op.bytesLess a b=true)∧(∀x,x∈Lib.compact zs↔x∈zs):=by
 have key:∀m,m≤zs.length→(Lib.compactUpTo zs.toArray m).Pairwise (fun a b=>Op.bytesLess a b=true)∧∀x,x∈Lib.compactUpTo zs.toArray m↔x∈zs.take m:=by
  intro m
  induction m with
  |zero=>intro _;exact ⟨List.Pairwise.nil,fun x=>by simp [Lib.compactUpTo]⟩
  |succ m ih=>
   intro hm;obtain ⟨h1,h2⟩:=ih (by omega);have hlt:m<zs.length:=by omega
   have hg:zs.toArray[m]! =zs[m]:=by simp [getElem!_pos,hlt]
   rw [Lib.compactUpTo_succ,List.take_succ_eq_append_getElem hlt,hg];by_cases hk:Lib.keeps zs.toArray m=true
   ·rw [if_pos hk];refine ⟨List.pairwise_append.2 ⟨h1,List.pairwise_singleton _ _,fun a ha b hb=>?_⟩,fun x=>by rw [List.mem_append,List.mem_append,h2]⟩;rw [List.mem_singleton] at hb;subst hb;obtain ⟨j,hj,e⟩:=List.getElem_of_mem ((h2 a).1 ha);rw [List.length_take] at hj;rw [List.getElem_take] at e;have hkk:m=0∨zs.toArray[m]! ≠zs.toArray[m - 1]! :=by simpa [Lib.keeps] using hk
    have hm0:zs[m]≠zs[m - 1]:=by
     rcases hkk with h0|h0
     ·omega
     ·simpa [getElem!_pos,hlt,show m - 1<zs.length by omega] using h0
    have p:=List.pairwise_iff_getElem.1 h;have q1:=p (m - 1) m (by omega) hlt (by omega);by_cases hjm:j=m - 1
    ·subst hjm;rw [←e];exact lt_of _ _ _ (zy5 _) q1 hm0
    ·have q2:=p j (m - 1) (by omega) (by omega) (by omega);rw [←e];exact lt_of _ _ _ q2 q1 hm0
   ·rw [if_neg hk];rw [List.append_nil];have hkk:¬ (m=0∨zs.toArray[m]! ≠zs.toArray[m - 1]!):=by simpa [Lib.keeps] using hk
    have hm1:m≠0:=fun e=>hkk (.inl e)
    have he:zs[m]=zs[m - 1]:=by
     have :zs.toArray[m]! =zs.toArray[m - 1]! :=Classical.byContradiction fun e=>hkk (.inr e)
     simpa [getElem!_pos,hlt,show m - 1<zs.length by omega] using this
    refine ⟨h1,fun x=>?_⟩;rw [h2,List.mem_append,List.mem_singleton];refine ⟨.inl,fun hx=>?_⟩
    rcases hx with hx|hx
    ·exact hx
    ·subst hx;rw [he];exact List.mem_take_iff_getElem.2 ⟨m - 1,by omega,rfl⟩
 have h5:=key zs.length (Nat.le_refl _);rw [List.take_length] at h5;exact h5
def outL (ys:List ByteArray):List ByteArray:=(Lib.compact ((ys.map (fun t=>t.data.toList)).mergeSort fun x y=>decide (x≤y))).map (fun l=>⟨l.toArray⟩)
theorem out_ok (ys:List ByteArray):Rise (outL ys)∧∀t,t∈outL ys↔t∈ys:=by
 have hs:((ys.map (fun t:ByteArray=>t.data.toList)).mergeSort fun x y=>decide (x≤y)).Pairwise (fun a b=>Op.bytesLess b a=false):=by
  have h0:=List.pairwise_mergeSort (le:=fun x y:List UInt8=>decide (x≤y)) (fun a b c h1 h2=>by
   rw [le_dec] at h1 h2 ⊢;rw [le_trans3 a b c (by simpa using h1) (by simpa using h2)]
   rfl) (fun a b=>by
   rw [le_dec,le_dec];by_cases e:a=b
   ·subst e;rw [zy5];rfl
   ·rw [zl6 a b e];cases Op.bytesLess b a <;> rfl) (ys.map (fun t:ByteArray=>t.data.toList))
  exact h0.imp (fun {a b} h=>by rw [le_dec] at h;simpa using h)
 obtain ⟨h1,h2⟩:=compact_ok _ hs;refine ⟨?_,fun t=>?_⟩
 ·unfold Rise outL;refine List.pairwise_map.2 (h1.imp (fun {a b} h=>?_));show Op.bytesLess (ByteArray.toList ⟨a.toArray⟩) (ByteArray.toList ⟨b.toArray⟩)=true;rw [ByteArray.toList_eq,ByteArray.toList_eq];exact h
 ·unfold outL;rw [List.mem_map]
  constructor
  ·rintro ⟨l,hl,rfl⟩;rw [h2,List.mem_mergeSort,List.mem_map] at hl;obtain ⟨t,ht,rfl⟩:=hl;exact ht
  ·intro ht;exact ⟨t.data.toList,by rw [h2,List.mem_mergeSort];exact List.mem_map.2 ⟨t,ht,rfl⟩,rfl⟩
end Pl
end
end Go.Proofs.YtbomeifgfalmdaaGreatDoor
