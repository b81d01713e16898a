/- Several texts of one claim in one file: PlainAtS, PlainWalkO, PlainOverC, PlainWalkP, PlainOverT, PlainView, PlainNX, PlainSightN. -/
import Derived.Test.YthdhhcgopfgcbaaGreatDoorG04
namespace Go.Proofs.YthdhhcgopfgcbaaGreatDoor
section
open Go.RowKit
namespace Pl
theorem ns_path:∀ (ab:List Bool) (Ls:List (List Nd)) (p:ByteArray) (n:Nd),some n∈nsOf ab Ls p→n.path=p:=by
 intro ab
 induction ab with
 |nil=>intro Ls p n h;simp [nsOf] at h
 |cons a ab ih=>
  intro Ls p n h;cases Ls with
  |nil=>simp [nsOf] at h
  |cons L Ls=>
   rw [nsOf] at h
   rcases List.mem_cons.1 h with h|h
   ·cases a
    ·simp at h
    ·simp only [if_true] at h;have h2:=h.symm;unfold lk at h2
     simpa using List.find?_some h2
   ·exact ih Ls p n h
theorem ask_same {Ls:List (List Nd)} {ks:List Nat} {q:ByteArray} (h4:Ls.length≤4) (hs:ks.Sublist (List.range Ls.length)):(numb 0 (nsOf (zc0 ks) Ls q)).filter (fun x=>x.2.isSome)=(askO Ls ks q).filter (fun x=>x.2.isSome):=by
 have hl:(nsOf (zc0 ks) Ls q).length=Ls.length:=ns_len q (zc0 ks) Ls (by simpa [zc0] using h4)
 have hget:∀i,i<Ls.length→(nsOf (zc0 ks) Ls q).getD i none=if decide (i∈ks) then lk (Ls.getD i []) q else none:=fun i hi=>by
  have h1:(zc0 ks)[i]? =some (decide (i∈ks)):=by simp [zc0,show i<4 by omega]
  have h2:Ls[i]? =some (Ls.getD i []):=by simp [List.getD,hi]
  rw [List.getD,ns_get q (zc0 ks) Ls i _ _ h1 h2];rfl
 rw [numb_map,hl]
 have e:(List.range Ls.length).map (fun i=>(0+i,(nsOf (zc0 ks) Ls q).getD i none))=(List.range Ls.length).map (fun i=>(i,if decide (i∈ks) then lk (Ls.getD i []) q else none)):=by
  apply List.map_congr_left
  intro i hi;rw [hget i (List.mem_range.1 hi),Nat.zero_add]
 rw [e,askO]
 conv=>rhs;rw [←sub_filter hs (List.nodup_range)]
 exact filter_ask _ _ (fun i=>lk (Ls.getD i []) q)
theorem child_sub {Ls:List (List Nd)} {ks:List Nat} {q:ByteArray} (hs:ks.Sublist (List.range Ls.length)):(zi5 Ls ks q).parts.Sublist (List.range Ls.length):=by
 obtain ⟨js,h1,h2⟩:=pick_sub q (askO Ls ks q) zeroO 0
 have e:(askO Ls ks q).map Prod.fst=ks:=by
  unfold askO;rw [List.map_map];exact List.map_id' ks
 rw [e] at h1;unfold zi5
 rcases h2 with h2|h2
 ·rw [h2];exact h1.trans hs
 ·rw [h2];exact List.nil_sublist _
theorem child_same {Ls:List (List Nd)} {ks:List Nat} {q:ByteArray} (h4:Ls.length≤4) (htr:∀L∈Ls,za5 L=true) (hs:ks.Sublist (List.range Ls.length)):SameO (zi5 Ls ks q) (decS (nsOf (zc0 ks) Ls q)):=by
 have hr:ya6 q (nsOf (zc0 ks) Ls q):=fun n hn=>by
  obtain ⟨L,hL,hm⟩:=ns_mem _ _ _ _ hn;have h1:=htr L hL;simp only [za5,Bool.and_eq_true,decide_eq_true_eq] at h1;exact ⟨zt L _ _ h1.2 n hm,ns_path _ _ _ _ hn⟩
 have h:=pick_dec hr (by rw [ns_len q (zc0 ks) Ls (by simpa [zc0] using h4)];exact h4);rw [pick_skip,ask_same h4 hs,←pick_skip] at h;exact h
theorem dec_none (Ls:List (List Nd)) (q:ByteArray):decS (nsOf (zc0 []) Ls q)=Sg.zero:=by
 have h:∀ (ab:List Bool) (Ls:List (List Nd)) (k:Nat),(∀b∈ab,b=false)→goD k Sg.zero (nsOf ab Ls q)=Sg.zero:=by
  intro ab
  induction ab with
  |nil=>intro Ls k _;rfl
  |cons a ab ih=>
   intro Ls k hb;cases Ls with
   |nil=>rfl
   |cons L Ls=>
    have ha:=hb a List.mem_cons_self;subst ha;exact ih Ls (k+1) (fun b h=>hb b (List.mem_cons_of_mem _ h))
 unfold decS;rw [h _ _ _ (by simp [zc0])];rfl
theorem walk_none (Ls:List (List Nd)):∀ (ps:List ByteArray) (s:Sg),s.have'=zc0 []→ps≠[]→zo4 Ls s ps=Sg.zero:=by
 intro ps
 induction ps with
 |nil=>intro s _ h;exact absurd rfl h
 |cons q ps ih=>
  intro s hs _;show zo4 Ls (decS (nsOf s.have' Ls q)) ps=Sg.zero;rw [hs,dec_none];by_cases hp:ps=[]
  ·subst hp;rfl
  ·exact ih _ rfl hp
end Pl
end
section
namespace Pl
theorem lessT_trans {a b c:ByteArray} (h1:zp5 a b=true) (h2:zp5 b c=true):zp5 a c=true:=bytes_trans _ _ _ h1 h2
theorem lessT_irr (a:ByteArray):zp5 a a=false:=bytes_irr _
theorem lessT_tot {a b:ByteArray} (h:a≠b) (h2:zp5 a b=false):zp5 b a=true:=by
 have h3:=zw9 a.toList b.toList (fun e=>h (by have :=ya3.tl_eq h;rw [e] at this;simp at this));unfold zp5 at h2 ⊢;rw [h2] at h3;cases h4:Op.bytesLess b.toList a.toList
 ·rw [h4] at h3;cases h3
 ·rfl
def Rise (l:List ByteArray):Prop:=l.Pairwise (fun a b=>zp5 a b=true)
theorem ins_mem (t x:ByteArray):∀l:List ByteArray,x∈insN t l↔x=t∨x∈l:=by
 intro l
 induction l with
 |nil=>simp [insN]
 |cons a l ih=>
  rw [insN]
  split
  ·rw [List.mem_cons,ih,List.mem_cons]
   constructor
   ·rintro (h|h|h)
    ·exact .inr (.inl h)
    ·exact .inl h
    ·exact .inr (.inr h)
   ·rintro (h|h|h)
    ·exact .inr (.inl h)
    ·exact .inl h
    ·exact .inr (.inr h)
  ·split
   ·rename_i e
    subst e;simp
   ·simp
theorem ins_rise (t:ByteArray):∀l:List ByteArray,Rise l→Rise (insN t l):=by
 intro l
 induction l with
 |nil=>intro _;exact List.pairwise_singleton _ _
 |cons a l ih=>
  intro h;have h':=List.pairwise_cons.1 h;rw [insN]
  split
  ·rename_i hlt
   refine List.pairwise_cons.2 ⟨fun x hx=>?_,ih h'.2⟩
   rcases (ins_mem t x l).1 hx with e|e
   ·rw [e];exact hlt
   ·exact h'.1 x e
  ·rename_i hlt
   split
   ·exact h
   ·rename_i hne
    have hta:zp5 t a=true:=lessT_tot (fun e=>hne e) (by simpa using hlt);refine List.pairwise_cons.2 ⟨fun x hx=>?_,h⟩
    rcases List.mem_cons.1 hx with e|e
    ·rw [e];exact hta
    ·exact lessT_trans hta (h'.1 x e)
theorem insAll_ok:∀ (K out:List ByteArray),Rise out→Rise (zi out K)∧∀x,x∈zi out K↔x∈out∨x∈K:=by
 intro K
 induction K with
 |nil=>intro out h;exact ⟨h,fun x=>by simp [zi]⟩
 |cons t K ih=>
  intro out h;obtain ⟨h1,h2⟩:=ih (insN t out) (ins_rise t out h);refine ⟨h1,fun x=>?_⟩;show x∈zi (insN t out) K↔_;rw [h2,ins_mem,List.mem_cons]
  constructor
  ·rintro ((h|h)|h)
   ·exact .inr (.inl h)
   ·exact .inl h
   ·exact .inr (.inr h)
  ·rintro (h|h|h)
   ·exact .inl (.inr h)
   ·exact .inl (.inl h)
   ·exact .inr h
theorem yh (Ls:List (List Nd)) (q:ByteArray) (ks:List Nat):Rise (zg6 Ls q ks)∧∀x,x∈zg6 Ls q ks↔∃k∈ks,x∈zh0 q (Ls.getD k []):=by
 have key:∀ (ks:List Nat) (out:List ByteArray),Rise out→Rise (ks.foldl (fun o k=>zi o (zh0 q (Ls.getD k []))) out)∧∀x,x∈ks.foldl (fun o k=>zi o (zh0 q (Ls.getD k []))) out↔x∈out∨∃k∈ks,x∈zh0 q (Ls.getD k []):=by
  intro ks
  induction ks with
  |nil=>intro out h;exact ⟨h,fun x=>by simp⟩
  |cons k ks ih=>
   intro out h;obtain ⟨h1,h2⟩:=insAll_ok (zh0 q (Ls.getD k [])) out h;obtain ⟨h3,h4⟩:=ih _ h1;refine ⟨h3,fun x=>?_⟩;rw [List.foldl_cons,h4,h2]
   constructor
   ·rintro ((h|h)|⟨j,hj,hx⟩)
    ·exact .inl h
    ·exact .inr ⟨k,List.mem_cons_self,h⟩
    ·exact .inr ⟨j,List.mem_cons_of_mem _ hj,hx⟩
   ·rintro (h|⟨j,hj,hx⟩)
    ·exact .inl (.inl h)
    ·rcases List.mem_cons.1 hj with e|e
     ·subst e;exact .inl (.inr hx)
     ·exact .inr ⟨j,e,hx⟩
 obtain ⟨h1,h2⟩:=key ks [] List.Pairwise.nil;exact ⟨h1,fun x=>by show x∈ks.foldl _ []↔_;rw [h2];simp⟩
def zx7 (sub:List Nat→ByteArray→List Nd) (Ls:List (List Nd)) (ks:List Nat) (q t:ByteArray):List Nd:=
 if (zi5 Ls ks (ze0 q t)).ok=true then (zi5 Ls ks (ze0 q t)).node::(if (zi5 Ls ks (ze0 q t)).node.kind=1 then sub (zi5 Ls ks (ze0 q t)).parts (ze0 q t) else []) else []
def zl (Ls:List (List Nd)):Nat→List Nat→ByteArray→List Nd
 |0,_,_=>[]
 |d+1,ks,q=>(zg6 Ls q ks).flatMap (zx7 (zl Ls d) Ls ks q)
structure At4 (Ls:List (List Nd)) (ks:List Nat) (q:ByteArray):Prop where
 sub:ks.Sublist (List.range Ls.length)
 path:za1 q=true
 parts:(zc3 Ls q).have'=zc0 ks
theorem seen_kid {Ls:List (List Nd)} {q p t:ByteArray} (hq:za1 q=true) (hp:za1 p=true) (h:names p=names q++[t]):zc3 Ls p=decS (nsOf (zc3 Ls q).have' Ls p):=by
 unfold zc3;rw [zc1 hp,zc1 hq,h,List.length_append,List.length_singleton,yd2,yc7]
 have e1:ways (names q++[t]) (names q).length=ways (names q) (names q).length:=by
  unfold ways
  apply List.map_congr_left
  intro i hi;have hi2:=List.mem_range.1 hi;rw [List.take_append_of_le_length (by omega)]
 have e2:glue ((names q++[t]).take ((names q).length+1))=p:=by
  rw [List.take_of_length_le (by simp),←h,zo2]
 rw [e1,e2]
end Pl
end
section
open Go.RowKit Go.Maps
namespace Pl
structure AllN (Ls:List (List Nd)) (O:List Nd):Prop where
 rise:O.Pairwise (fun a b=>ltP a.path b.path=true)
 mem:∀n,n∈O↔zo9 Ls n
theorem all_perm {Ls:List (List Nd)} {O C:List Nd} (htr:∀L∈Ls,za5 L=true) (h:AllN Ls O) (hC:C.Pairwise (fun a b=>a.path≠b.path)) (hm:∀n,n∈C↔zo9 Ls n):O.Perm C:=by
 refine (List.perm_ext_iff_of_nodup ?_ (hC.imp (fun {a b} hne e=>hne (by rw [e])))).2 fun x=>(h.mem x).trans (hm x).symm;refine List.Pairwise.imp_of_mem (fun {a b} ha _ hlt e=>?_) h.rise;subst e;have hp:=(zr6 htr ((h.mem a).1 ha)).2.2.1;rw [zd4 hp hp,zj8] at hlt;cases hlt
end Pl
end
section
namespace Pl
theorem zy4 {q:ByteArray} (h:za1 q=true):(∀t∈names q,ze t=true)∧(names q).length≤6:=by
 have e:=zg0 q;rw [zc1 h] at e;exact e
theorem kid_in {L:List Nd} {q t:ByteArray} (hL:za5 L=true) (ht:t∈zh0 q L):∃n∈L,names n.path=names q++[t]∧za1 n.path=true:=by
 unfold zh0 at ht;obtain ⟨n,hn,rfl⟩:=List.mem_map.1 ht;obtain ⟨hn1,hn2⟩:=List.mem_filter.1 hn;have h1:=zz9 hL n hn1;exact ⟨n,hn1,yc3 h1.1 h1.2 (of_decide_eq_true hn2),h1.1⟩
theorem kid_of {L:List Nd} {q t:ByteArray} {n:Nd} (hL:za5 L=true) (hn:n∈L) (h:names n.path=names q++[t]):t∈zh0 q L:=by
 have h1:=zz9 hL n hn;have hk:=yc3 h1.1 h1.2 rfl;rw [h] at hk;have h2:=List.append_inj_left' hk rfl;have h3:=List.append_inj_right' hk rfl;have h4:parent n.path=q:=path_eq h2.symm;unfold zh0;refine List.mem_map.2 ⟨n,List.mem_filter.2 ⟨hn,by simpa using h4⟩,?_⟩
 simpa using h3.symm
theorem join_path {q t p:ByteArray} (_:za1 p=true) (h:names p=names q++[t]):ze0 q t=p:=by
 rw [ze0,←h,zo2]
theorem nk_node {Ls:List (List Nd)} (_:Ls.length≤4) (htr:∀L∈Ls,za5 L=true) {ks:List Nat} {q t:ByteArray} (ha:At4 Ls ks q) (ht:t∈zg6 Ls q ks):∃L∈Ls,∃n∈L,n.path=ze0 q t∧names (ze0 q t)=names q++[t]∧za1 (ze0 q t)=true:=by
 obtain ⟨k,hk,hx⟩:=((yh Ls q ks).2 t).1 ht;have hkl:k<Ls.length:=by have :=ha.sub.subset hk;rwa [List.mem_range] at this
 have hL:Ls.getD k []=Ls[k]:=by simp [List.getD,hkl]
 rw [hL] at hx;have hm:Ls[k]∈Ls:=List.getElem_mem hkl;obtain ⟨n,hn,h1,h2⟩:=kid_in (htr _ hm) hx;have e:=join_path h2 h1;rw [e];exact ⟨Ls[k],hm,n,hn,rfl,h1,h2⟩
theorem zs7 {Ls:List (List Nd)} (h4:Ls.length≤4) (htr:∀L∈Ls,za5 L=true) {ks:List Nat} {q p t:ByteArray} (ha:At4 Ls ks q) (hp:za1 p=true) (hn:names p=names q++[t]):SameO (zi5 Ls ks p) (zc3 Ls p):=by
 rw [seen_kid ha.path hp hn,ha.parts];exact child_same h4 htr ha.sub
theorem yc0 {Ls:List (List Nd)} (h4:Ls.length≤4) (htr:∀L∈Ls,za5 L=true) {ks:List Nat} {q p t:ByteArray} (ha:At4 Ls ks q) (hp:za1 p=true) (hn:names p=names q++[t]):At4 Ls (zi5 Ls ks p).parts p:=
 ⟨child_sub ha.sub,hp,(zs7 h4 htr ha hp hn).parts⟩
theorem step_in {Ls:List (List Nd)} (h4:Ls.length≤4) (htr:∀L∈Ls,za5 L=true) {ks:List Nat} {q t:ByteArray} (ha:At4 Ls ks q) (ht:t∈zg6 Ls q ks) {sub:List Nat→ByteArray→List Nd} {n:Nd} (hn:n∈zx7 sub Ls ks q t):
  names (ze0 q t)=names q++[t]∧za1 (ze0 q t)=true∧((zo9 Ls n∧n.path=ze0 q t)∨(At4 Ls (zi5 Ls ks (ze0 q t)).parts (ze0 q t)∧n∈sub (zi5 Ls ks (ze0 q t)).parts (ze0 q t))):=by
 obtain ⟨L,hL,m,hm,e1,e2,e3⟩:=nk_node h4 htr ha ht;refine ⟨e2,e3,?_⟩;have hc:=zs7 h4 htr ha e3 e2;unfold zx7 at hn
 split at hn
 ·rename_i hok
  rcases List.mem_cons.1 hn with h|h
  ·left
   have h1:=hc.node hok;have h2:(zc3 Ls (ze0 q t)).told=true:=by rw [←hc.told];exact hok
   have hz:¬ (ze0 q t).size=0:=by
    have :=zz9 (htr L hL) m hm;rw [e1] at this;exact this.2
   refine ⟨⟨L,hL,m,hm,?_,?_⟩,?_⟩
   ·rw [e1];exact h2
   ·rw [e1,h,h1]
   ·rw [h,h1];exact zu5 e3 hz h2
  ·right
   split at h
   ·exact ⟨yc0 h4 htr ha e3 e2,h⟩
   ·cases h
 ·cases hn
theorem zz2 {Ls:List (List Nd)} (h4:Ls.length≤4) (htr:∀L∈Ls,za5 L=true):∀ (d:Nat) (ks:List Nat) (q:ByteArray),At4 Ls ks q→∀n∈zl Ls d ks q,zo9 Ls n∧∃t R,names n.path=names q++t::R:=by
 intro d
 induction d with
 |zero=>intro ks q _ n hn;cases hn
 |succ d ih=>
  intro ks q ha n hn;rw [zl] at hn;obtain ⟨t,ht,hx⟩:=List.mem_flatMap.1 hn;obtain ⟨e2,e3,h⟩:=step_in h4 htr ha ht hx
  rcases h with ⟨h1,h2⟩|⟨h1,h2⟩
  ·exact ⟨h1,t,[],by rw [h2,e2]⟩
  ·obtain ⟨g1,t',R',g2⟩:=ih _ _ h1 n h2;exact ⟨g1,t,t'::R',by rw [g2,e2];simp⟩
theorem less_app (Q A B:List ByteArray):za9 (Q++A) (Q++B)=za9 A B:=by
 induction Q with
 |nil=>rfl
 |cons a Q ih=>simp only [List.cons_append,za9,if_true];exact ih
theorem yi3 {Ls:List (List Nd)} (h4:Ls.length≤4) (htr:∀L∈Ls,za5 L=true):∀ (d:Nat) (ks:List Nat) (q:ByteArray),At4 Ls ks q→(zl Ls d ks q).Pairwise (fun a b=>za9 (names a.path) (names b.path)=true):=by
 intro d
 induction d with
 |zero=>intro ks q _;exact List.Pairwise.nil
 |succ d ih=>
  intro ks q ha;rw [zl,List.pairwise_flatMap]
  have hgrp:∀t∈zg6 Ls q ks,∀x∈zx7 (zl Ls d) Ls ks q t,∃R,names x.path=names q++t::R:=fun t ht x hx=>by
   obtain ⟨e2,e3,h⟩:=step_in h4 htr ha ht hx
   rcases h with ⟨h1,h2⟩|⟨h1,h2⟩
   ·exact ⟨[],by rw [h2,e2]⟩
   ·obtain ⟨-,t',R',g2⟩:=zz2 h4 htr d _ _ h1 x h2;exact ⟨t'::R',by rw [g2,e2];simp⟩
  refine ⟨fun t ht=>?_,?_⟩
  ·obtain ⟨L,hL,m,hm,e1,e2,e3⟩:=nk_node h4 htr ha ht;have hd:=yc0 h4 htr ha e3 e2;have hc:=zs7 h4 htr ha e3 e2
   have hz:¬ (ze0 q t).size=0:=by
    have :=zz9 (htr L hL) m hm;rw [e1] at this;exact this.2
   unfold zx7
   split
   ·rename_i hok
    refine List.pairwise_cons.2 ⟨fun x hx=>?_,?_⟩
    ·split at hx
     ·obtain ⟨-,t',R',g2⟩:=zz2 h4 htr d _ _ hd x hx;have h1:=hc.node hok;have h2:(zc3 Ls (ze0 q t)).told=true:=by rw [←hc.told];exact hok
      rw [h1,zu5 e3 hz h2,g2];have :=less_app (names (ze0 q t)) [] (t'::R');rw [List.append_nil] at this;rw [this];rfl
     ·cases hx
    ·split
     ·exact ih _ _ hd
     ·exact List.Pairwise.nil
   ·exact List.Pairwise.nil
  ·refine List.Pairwise.imp_of_mem (fun {t1 t2} ht1 ht2 hlt=>?_) (yh Ls q ks).1;intro x hx y hy;obtain ⟨R1,e1⟩:=hgrp t1 ht1 x hx;obtain ⟨R2,e2⟩:=hgrp t2 ht2 y hy;rw [e1,e2,less_app];have hne:t1≠t2:=fun e=>by rw [e,lessT_irr] at hlt;cases hlt
   simp only [za9,if_neg hne];exact hlt
theorem go_none:∀ (ns:List (Option Nd)) (k:Nat) (s:Sg),(goD k s ns).told=true→s.told=true∨∃n,some n∈ns:=by
 intro ns
 induction ns with
 |nil=>intro k s h;exact .inl h
 |cons x ns ih=>
  intro k s h;cases x with
  |none=>
   rcases ih _ _ h with h1|⟨n,h1⟩
   ·exact .inl h1
   ·exact .inr ⟨n,List.mem_cons_of_mem _ h1⟩
  |some n=>exact .inr ⟨n,List.mem_cons_self⟩
theorem dec_some {ns:List (Option Nd)} (h:(decS ns).told=true):∃n,some n∈ns:=by
 unfold decS upS at h
 split at h
 ·cases h
 ·rcases go_none _ _ _ h with h1|h1
  ·cases h1
  ·exact h1
theorem ns_which:∀ (ab:List Bool) (Ls:List (List Nd)) (p:ByteArray) (n:Nd),some n∈nsOf ab Ls p→∃ (k:Nat) (L:List Nd),ab[k]? =some true∧Ls[k]? =some L∧n∈L∧n.path=p:=by
 intro ab
 induction ab with
 |nil=>intro Ls p n h;simp [nsOf] at h
 |cons a ab ih=>
  intro Ls p n h;cases Ls with
  |nil=>simp [nsOf] at h
  |cons L Ls=>
   rw [nsOf] at h
   rcases List.mem_cons.1 h with h|h
   ·cases a
    ·simp at h
    ·simp only [if_true] at h;have h2:=h.symm;unfold lk at h2;exact ⟨0,L,rfl,rfl,List.mem_of_find?_eq_some h2,by simpa using List.find?_some h2⟩
   ·obtain ⟨k,M,h1,h2,h3,h5⟩:=ih Ls p n h;exact ⟨k+1,M,by simpa using h1,by simpa using h2,h3,h5⟩
theorem parts_mem {ks:List Nat} {k:Nat} (h:(zc0 ks)[k]? =some true):k∈ks:=by
 unfold zc0 at h;rw [List.getElem?_map] at h;cases hk:(List.range 4)[k]? with
 |none=>rw [hk] at h;simp at h
 |some j=>
  rw [hk] at h;have hlt:=(List.getElem?_eq_some_iff.1 hk).1;rw [List.length_range] at hlt;rw [List.getElem?_range hlt] at hk;cases hk
  simpa using h
theorem name_told {Ls:List (List Nd)} (htr:∀L∈Ls,za5 L=true) {ks:List Nat} {q p t:ByteArray} (ha:At4 Ls ks q) (hp:za1 p=true) (hn:names p=names q++[t]) (ht:(zc3 Ls p).told=true):t∈zg6 Ls q ks:=by
 rw [seen_kid ha.path hp hn,ha.parts] at ht;obtain ⟨n,h1⟩:=dec_some ht;obtain ⟨k,L,h2,h3,h5,h6⟩:=ns_which _ _ _ _ h1;refine ((yh Ls q ks).2 t).2 ⟨k,parts_mem h2,?_⟩;rw [show Ls.getD k []=L by simp [List.getD,h3]];exact kid_of (htr L (List.mem_of_getElem? h3)) h5 (by rw [h6];exact hn)
theorem walk_app (Ls:List (List Nd)) (s:Sg) (ps qs:List ByteArray):zo4 Ls s (ps++qs)=zo4 Ls (zo4 Ls s ps) qs:=by simp [zo4]
theorem seen_rest {Ls:List (List Nd)} {p p1:ByteArray} {R:List ByteArray} (hp:za1 p=true) (hp1:za1 p1=true) (hn:names p=names p1++R) (hR:R≠[]):∃ps,ps≠[]∧zc3 Ls p=zo4 Ls (zc3 Ls p1) ps:=by
 unfold zc3;rw [zc1 hp,zc1 hp1,hn];refine ⟨((List.range R.length).map ((names p1).length+ ·)).map (fun i=>glue ((names p1++R).take (i+1))),?_,?_⟩
 ·intro e;have :=congrArg List.length e;simp at this
  exact hR this
 ·rw [←walk_app]
  congr 1
  unfold ways;rw [List.length_append,List.range_add,List.map_append]
  congr 1
  apply List.map_congr_left
  intro i hi;have hi2:=List.mem_range.1 hi;rw [List.take_append_of_le_length (by omega)]
theorem walk_complete {Ls:List (List Nd)} (h4:Ls.length≤4) (htr:∀L∈Ls,za5 L=true):∀ (R:List ByteArray) (d:Nat) (ks:List Nat) (q p:ByteArray),At4 Ls ks q→za1 p=true→names p=names q++R→R≠[]→R.length≤d→(zc3 Ls p).told=true→(zc3 Ls p).node∈zl Ls d ks q:=by
 intro R
 induction R with
 |nil=>intro d ks q p _ _ _ h;exact absurd rfl h
 |cons t R ih=>
  intro d ks q p ha hp hn _ hd ht;obtain ⟨d,rfl⟩:∃e,d=e+1:=⟨d - 1,by simp at hd;omega⟩;have hall:=zy4 hp
  have hn1:names (glue (names q++[t]))=names q++[t]:=zo0 (fun x hx=>hall.1 x (by
   rw [hn]
   rcases List.mem_append.1 hx with h|h
   ·exact List.mem_append_left _ h
   ·simp at h;subst h;simp))
  have hp1:za1 (glue (names q++[t]))=true:=yn3 (fun x hx=>hall.1 x (by
   rw [hn]
   rcases List.mem_append.1 hx with h|h
   ·exact List.mem_append_left _ h
   ·simp at h;subst h;simp)) (by
    have h1:=hall.2;rw [hn] at h1;simp at h1 ⊢
    omega)
  have hj:ze0 q t=glue (names q++[t]):=rfl;generalize glue (names q++[t])=p1 at hn1 hp1 hj;have hc:=zs7 h4 htr ha hp1 hn1;rw [zl];by_cases hR:R=[]
  ·subst hR;have e:p=p1:=path_eq (by rw [hn,hn1]);subst e;refine List.mem_flatMap.2 ⟨t,name_told htr ha hp1 hn1 ht,?_⟩;unfold zx7;rw [hj];have hok:(zi5 Ls ks p).ok=true:=by rw [hc.told];exact ht
   rw [if_pos hok,←hc.node hok];exact List.mem_cons_self
  ·have hn2:names p=names p1++R:=by rw [hn,hn1];simp
   have hpt:(zi5 Ls ks p1).parts≠[]:=fun e=>by
    obtain ⟨ps,h1,h2⟩:=seen_rest (Ls:=Ls) hp hp1 hn2 hR;rw [h2,walk_none Ls ps _ (by rw [hc.parts,e]) h1] at ht;cases ht
   obtain ⟨hok,hk1⟩:=hc.dir hpt;have ht1:(zc3 Ls p1).told=true:=by rw [←hc.told];exact hok
   refine List.mem_flatMap.2 ⟨t,name_told htr ha hp1 hn1 ht1,?_⟩;unfold zx7;rw [hj,if_pos hok,if_pos hk1];refine List.mem_cons_of_mem _ (ih d _ p1 p (yc0 h4 htr ha hp1 hn1) hp hn2 hR (by simp at hd;omega) ht)
theorem yb3 {Ls:List (List Nd)} (h4:Ls.length≤4):At4 Ls (List.range Ls.length) ⟨#[]⟩:=by
 have h:=zh3 (s:=⟨#[]⟩) rfl;refine ⟨List.Sublist.refl _,h.1,?_⟩;have e:zc3 Ls ⟨#[]⟩=zt3 Ls.length:=by unfold zc3;rw [zc1 h.1,h.2];rfl
 rw [e];obtain h|h|h|h|h:Ls.length=0∨Ls.length=1∨Ls.length=2∨Ls.length=3∨Ls.length=4:=by omega
 all_goals (rw [h];decide)
def allO (Ls:List (List Nd)):List Nd:=zl Ls 7 (List.range Ls.length) ⟨#[]⟩
theorem all_told {Ls:List (List Nd)} (h4:Ls.length≤4) (htr:∀L∈Ls,za5 L=true):AllN Ls (allO Ls):=by
 have ha:=yb3 h4;have hs:=zz2 h4 htr 7 _ _ ha;refine ⟨List.Pairwise.imp_of_mem (fun {a b} h1 h2 h=>?_) (yi3 h4 htr 7 _ _ ha),fun n=>⟨fun h=>(hs n h).1,fun h=>?_⟩⟩
 ·have p1:=(zr6 htr (hs a h1).1).2.2.1;have p2:=(zr6 htr (hs b h2).1).2.2.1;rw [zd4 p1 p2];exact h
 ·obtain ⟨t1,t2,t3,t5⟩:=zr6 htr h;have h0:names (⟨#[]⟩:ByteArray)=[]:=(zh3 rfl).2;have :=walk_complete h4 htr (names n.path) 7 _ _ n.path ha t3 (by rw [h0];rfl) (zw7 t5) (by have :=(zy4 t3).2;omega) t1;rw [←t2] at this;exact this
theorem nodup_le:∀ (l m:List ByteArray),l.Nodup→(∀x∈l,x∈m)→l.length≤m.length:=by
 intro l
 induction l with
 |nil=>intro m _ _;exact Nat.zero_le _
 |cons a l ih=>
  intro m hn hs;have hn':=List.nodup_cons.1 hn;have ha:=hs a List.mem_cons_self;obtain ⟨u,v,rfl⟩:=List.append_of_mem ha
  have h1:=ih (u++v) hn'.2 (fun x hx=>by
   rcases List.mem_append.1 (hs x (List.mem_cons_of_mem _ hx)) with h|h
   ·exact List.mem_append_left _ h
   ·rcases List.mem_cons.1 h with e|h
    ·exact absurd (e ▸ hx) hn'.1
    ·exact List.mem_append_right _ h)
  simp only [List.length_append,List.length_cons] at h1 ⊢;omega
theorem flat_le:∀ (Ls:List (List Nd)),(∀L∈Ls,za5 L=true)→(Ls.flatMap (fun L=>L.map (·.path))).length≤40*Ls.length:=by
 intro Ls
 induction Ls with
 |nil=>intro _;exact Nat.le_refl _
 |cons L Ls ih=>
  intro h;have h1:=ih (fun M hM=>h M (List.mem_cons_of_mem _ hM));have h2:=h L List.mem_cons_self;simp only [za5,Bool.and_eq_true,decide_eq_true_eq] at h2;rw [List.flatMap_cons,List.length_append,List.length_map,List.length_cons];omega
theorem all_len {Ls:List (List Nd)} (h4:Ls.length≤4) (htr:∀L∈Ls,za5 L=true):(allO Ls).length≤160:=by
 have ha:=yb3 h4;have hs:=zz2 h4 htr 7 _ _ ha
 have h1:=nodup_le ((allO Ls).map (·.path)) (Ls.flatMap (fun L=>L.map (·.path))) (by
  unfold List.Nodup;rw [List.pairwise_map]
  exact (yi3 h4 htr 7 _ _ ha).imp (fun {a b} h e=>by rw [e,zj8] at h;cases h)) (fun x hx=>by
  obtain ⟨n,hn,rfl⟩:=List.mem_map.1 hx;have ht:=(hs n hn).1;obtain ⟨L,hL,m,hm,h5,h6⟩:=ht;have hw:=zw4 (htr L hL) hm;refine List.mem_flatMap.2 ⟨L,hL,List.mem_map.2 ⟨m,hm,?_⟩⟩
  rw [h6,zu5 hw.1 hw.2 h5])
 have h2:=flat_le Ls htr;rw [List.length_map] at h1;omega
end Pl
end
section
namespace Pl
theorem node_told {Ls:List (List Nd)} (htr:∀L∈Ls,za5 L=true) {p:ByteArray} (hp:za1 p=true) (hz:¬p.size=0) (ht:(zc3 Ls p).told=true):za7 (zc3 Ls p).node=true:=by
 obtain ⟨ab,e⟩:=seen_dec (Ls:=Ls) hp hz;rw [e] at ht ⊢;refine dec_node (fun n hn=>?_) ht;obtain ⟨L,hL,hm⟩:=ns_mem _ _ _ _ hn;have h1:=htr L hL;simp only [za5,Bool.and_eq_true,decide_eq_true_eq] at h1;exact zt L _ _ h1.2 n hm
theorem told_of {Ls:List (List Nd)} {p:ByteArray} (hp:za1 p=true) (hz:¬p.size=0) (ht:(zc3 Ls p).told=true):zo9 Ls (zc3 Ls p).node:=by
 obtain ⟨ab,e⟩:=seen_dec (Ls:=Ls) hp hz;have h1:=ht;rw [e] at h1;obtain ⟨n,hn⟩:=dec_some h1;obtain ⟨k,L, -,h3,h5,h6⟩:=ns_which _ _ _ _ hn;exact ⟨L,List.mem_of_getElem? h3,n,h5,by rw [h6];exact ht,by rw [h6]⟩
theorem yc5 {p:ByteArray} (hp:za1 p=true):za1 (parent p)=true:=by
 have h:=zy4 hp;rw [zq5];exact yn3 (fun t ht=>h.1 t (List.dropLast_subset _ ht)) (by rw [List.length_dropLast];omega)
theorem at4_all {Ls:List (List Nd)} (h4:Ls.length≤4) (htr:∀L∈Ls,za5 L=true):∀ (N:Nat) (p:ByteArray),za1 p=true→(names p).length=N→∃ks,At4 Ls ks p∧(¬p.size=0→ks≠[]→(zc3 Ls p).told=true∧(zc3 Ls p).node.kind=1):=by
 intro N
 induction N with
 |zero=>
  intro p _ hN;have h0:names p=[]:=List.eq_nil_of_length_eq_zero hN;have e:p=⟨#[]⟩:=path_eq (by rw [h0,(zh3 (s:=⟨#[]⟩) rfl).2]);subst e;exact ⟨_,yb3 h4,fun h=>absurd rfl h⟩
 |succ N ih=>
  intro p hp hN;have hz:p.size≠0:=fun h=>by rw [(zh3 h).2] at hN;cases hN
  have hn:=yc3 hp hz rfl;obtain ⟨ks,ha, -⟩:=ih (parent p) (yc5 hp) (by rw [hn,List.length_append,List.length_singleton] at hN;omega);have hc:=zs7 h4 htr ha hp hn;refine ⟨_,yc0 h4 htr ha hp hn,fun _ hk=>?_⟩;obtain ⟨h1,h2⟩:=hc.dir hk;exact ⟨by rw [←hc.told];exact h1,by rw [←hc.node h1];exact h2⟩
theorem all_tree {Ls:List (List Nd)} (h4:Ls.length≤4) (htr:∀L∈Ls,za5 L=true) (h40:(allO Ls).length≤40):za5 (allO Ls)=true:=by
 have ha:=all_told h4 htr;have hr:=yi3 h4 htr 7 _ _ (yb3 h4);refine (ze2 _).2 ⟨h40,fun n hn=>?_,hr⟩;obtain ⟨h1,h2,h3,h5⟩:=zr6 htr ((ha.mem n).1 hn);refine ⟨by rw [h2];exact node_told htr h3 h5 h1,(zt9 hr _).2 ?_⟩;by_cases hq:(parent n.path).size=0
 ·exact .inl hq
 ·right
  have hpq:=yc5 h3;have hnm:=yc3 h3 h5 rfl;obtain ⟨ks,ha4,hd⟩:=at4_all h4 htr _ (parent n.path) hpq rfl
  have hks:ks≠[]:=fun e=>by
   obtain ⟨ps,g1,g2⟩:=seen_rest (Ls:=Ls) h3 hpq hnm (by simp);rw [g2,walk_none Ls ps _ (by rw [ha4.parts,e]) g1] at h1;cases h1
  obtain ⟨g1,g2⟩:=hd hq hks;exact ⟨_,(ha.mem _).2 (told_of hpq hq g1),zu5 hpq hq g1,g2⟩
end Pl
end
section
namespace Pl
def zv9:Option (List (List Nd))→Option (List Nd)
 |none=>none
 |some Ls=>if (allO Ls).length≤40 then some (allO Ls) else none
def zh8:Fx→Option (List (List Nd))
 | .nil=>some []
 | .cons L k m=>match (if k.len=0 then some L else zv9 (zh8 k)),zh8 m with
  |some V,some R=>some (V::R)
  |_,_=>none
def zi1 (L:List Nd) (k:Fx):Option (List Nd):=if k.len=0 then some L else zv9 (zh8 k)
theorem zz6 (L:List Nd) (k m:Fx):zh8 (.cons L k m)=match zi1 L k,zh8 m with
  |some V,some R=>some (V::R)
  |_,_=>none:=rfl
theorem view_leaf {L:List Nd} {k:Fx} (h:k.len=0):zi1 L k=some L:=if_pos h
theorem yi5 {L:List Nd} {k:Fx} (h:k.len≠0):zi1 L k=zv9 (zh8 k):=if_neg h
theorem over_ok {Ls:List (List Nd)} {V:List Nd} (h4:Ls.length≤4) (htr:∀L∈Ls,za5 L=true) (h:zv9 (some Ls)=some V):za5 V=true:=by
 rw [show zv9 (some Ls)=if (allO Ls).length≤40 then some (allO Ls) else none from rfl] at h
 split at h
 ·cases h;exact all_tree h4 htr (by assumption)
 ·cases h
theorem views_ok (X:Fx):∀ (Ls:List (List Nd)),X.okX→zh8 X=some Ls→Ls.length=X.len∧∀L∈Ls,za5 L=true:=by
 induction X with
 |nil=>intro Ls _ h;cases h;exact ⟨rfl,fun L hL=>by cases hL⟩
 |cons L k m ih1 ih2=>
  intro Ls hx h;obtain ⟨h1,h2,h3,h5,h6⟩:=hx;rw [zz6] at h;cases hv:zi1 L k with
  |none=>rw [hv] at h;cases h
  |some V=>
   rw [hv] at h;cases hr:zh8 m with
   |none=>rw [hr] at h;cases h
   |some R=>
    rw [hr] at h;cases h
    obtain ⟨g1,g2⟩:=ih2 R h6 hr;refine ⟨by rw [List.length_cons,g1];rfl,fun M hM=>?_⟩
    rcases List.mem_cons.1 hM with rfl |hM
    ·by_cases hk:k.len=0
     ·rw [view_leaf hk] at hv;cases hv;exact h1
     ·rw [yi5 hk] at hv;cases hw:zh8 k with
      |none=>rw [hw] at hv;cases hv
      |some Ks=>
       rw [hw] at hv;obtain ⟨g3,g4⟩:=ih1 Ks h5 hw;exact over_ok (by omega) g4 hv
    ·exact g2 M hM
theorem view_ok {L:List Nd} {k:Fx} {V:List Nd} (hx:(Fx.cons L k .nil).okX) (h:zi1 L k=some V):za5 V=true:=by
 have h2:zh8 (.cons L k .nil)=some [V]:=by rw [zz6,h];rfl
 exact (views_ok _ _ hx h2).2 V List.mem_cons_self
def zv5 (K F:Fx) (Ls:List (List Nd)):Prop:=zh8 K=(zh8 F).map (fun R=>Ls++R)
theorem yk4 (K:Fx):zv5 K K []:=by
 unfold zv5;cases zh8 K <;> rfl
theorem ym {K m k:Fx} {L V:List Nd} {Ls:List (List Nd)} (h:zv5 K (.cons L k m) Ls) (hv:zi1 L k=some V):zv5 K m (Ls++[V]):=by
 unfold zv5 at h ⊢;rw [h,zz6,hv];cases zh8 m with
 |none=>rfl
 |some R=>simp
theorem yl8 {K m k:Fx} {L:List Nd} {Ls:List (List Nd)} (h:zv5 K (.cons L k m) Ls) (hv:zi1 L k=none):zh8 K=none:=by
 unfold zv5 at h;rw [h,zz6,hv];rfl
theorem seenF_end {K:Fx} {Ls:List (List Nd)} (h:zv5 K .nil Ls):zh8 K=some Ls:=by
 unfold zv5 at h;rw [h];simp [zh8]
end Pl
end
section
namespace Pl
def zb9 (xs:List (Int × List Nd)):Int:=if 400<xs.length then 2 else match zn1 xs with
 |none=>1
 |some p=>match zi1 p.1 p.2 with
  |none=>9
  |some _=>0
def ze5 (xs:List (Int × List Nd)):List Nd:=match zn1 xs with
 |none=>[]
 |some p=>(zi1 p.1 p.2).getD []
theorem yc4 {xs:List (Int × List Nd)} (h:400<xs.length):zb9 xs=2∧ze5 xs=[]:=by
 refine ⟨if_pos h,?_⟩;unfold ze5;rw [zt1];cases hn:nest (rowO xs) with
 |none=>rfl
 |some F=>have :=zo6 hn;omega
theorem view_bad {xs:List (Int × List Nd)} (h:¬400<xs.length) (hn:nest (rowO xs)=none):zb9 xs=1∧ze5 xs=[]:=by
 unfold zb9 ze5;rw [if_neg h,zt1 hn];exact ⟨rfl,rfl⟩
theorem view_none {xs:List (Int × List Nd)} {L:List Nd} {k:Fx} (hl:xs.length≤12) (h:zn1 xs=some (L,k)) (hv:zi1 L k=none):zb9 xs=9∧ze5 xs=[]:=by
 unfold zb9 ze5;rw [if_neg (by omega),h];simp only [hv];exact ⟨trivial,rfl⟩
theorem view_some {xs:List (Int × List Nd)} {L V:List Nd} {k:Fx} (hl:xs.length≤12) (h:zn1 xs=some (L,k)) (hv:zi1 L k=some V):zb9 xs=0∧ze5 xs=V:=by
 unfold zb9 ze5;rw [if_neg (by omega),h];simp only [hv];exact ⟨trivial,rfl⟩
theorem yd0 {xs:List (Int × List Nd)} (h:zb9 xs=0):za5 (ze5 xs)=true:=by
 unfold zb9 at h
 split at h
 ·cases h
 ·unfold ze5;cases hn:zn1 xs with
  |none=>rw [hn] at h;cases h
  |some p=>
   rw [hn] at h;cases hv:zi1 p.1 p.2 with
   |none=>simp only [hv] at h;cases h
   |some V=>
    simp only [hv,Option.getD_some];cases hF:nest (rowO xs) with
    |none=>rw [zt1 hF] at hn;cases hn
    |some F=>
     obtain ⟨L,k, -, -,o,e⟩:=zm5 hF;rw [hn] at e;have e2:=Option.some.inj e;rw [e2] at hv;exact view_ok o hv
theorem view_nil {xs:List (Int × List Nd)} (h:zb9 xs≠0):ze5 xs=[]:=by
 unfold zb9 at h
 split at h
 ·exact (yc4 (by assumption)).2
 ·unfold ze5;cases hn:zn1 xs with
  |none=>rfl
  |some p=>
   rw [hn] at h;cases hv:zi1 p.1 p.2 with
   |none=>simp [hv]
   |some V=>simp [hv] at h
theorem view_le (xs:List (Int × List Nd)):(ze5 xs).length≤40∧∀n∈ze5 xs,n.path.size≤1048576∧n.data.size≤1048576:=by
 by_cases h:zb9 xs=0
 ·have ht:=yd0 h;refine ⟨((ze2 _).1 ht).1,fun n hn=>?_⟩;have h2:=(((ze2 _).1 ht).2.1 n hn).1;have h3:=zd1 (zb1 h2).1;have h4:=(zd8 h2).1;exact ⟨by omega,by omega⟩
 ·have e:ze5 xs=[]:=by
   unfold zb9 at h
   split at h
   ·exact (yc4 (by assumption)).2
   ·unfold ze5;cases hn:zn1 xs with
    |none=>rfl
    |some p=>
     rw [hn] at h;cases hv:zi1 p.1 p.2 with
     |none=>simp [hv]
     |some V=>simp [hv] at h
  rw [e];exact ⟨Nat.zero_le _,fun n hn=>by cases hn⟩
end Pl
end
section
namespace Pl
def zb8 (xs:List (Int × List Nd)):List Nd:=if zb9 xs=0 then zc8 (ze5 xs) else []
theorem yc (xs:List (Int × List Nd)):(zb8 xs).length≤40:=by
 unfold zb8
 split
 ·have h1:=(view_le xs).1;have h2:=zz0 (ze5 xs) (ze5 xs).length;rw [List.take_length] at h2;omega
 ·exact Nat.zero_le _
theorem sight_no {xs:List (Int × List Nd)} (h:zb9 xs≠0):zb8 xs=[]:=if_neg h
theorem yi1 {xs:List (Int × List Nd)} (h:zb9 xs=0):zb8 xs=zc8 (ze5 xs):=if_pos h
end Pl
end
end Go.Proofs.YthdhhcgopfgcbaaGreatDoor
