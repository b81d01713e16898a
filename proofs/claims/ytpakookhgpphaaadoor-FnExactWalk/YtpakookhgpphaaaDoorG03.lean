/- Several texts of one claim in one file: PlainPick, PlainAsk, PlainPickQ. -/
import Derived.Test.YtpakookhgpphaaaDoorG02
namespace Go.Proofs.YtpakookhgpphaaaDoor
section
open Go.RowKit
namespace Pl
structure Ot where
 ok:Bool
 node:Nd
 parts:List Nat
def finO (o:Ot) (mark:Int):Ot:=⟨o.ok,⟨o.node.path,o.node.kind,o.node.data,o.node.time,max 0 (mark - 1)⟩,o.parts⟩
def pickO (p:ByteArray) (o:Ot) (mark:Int):List (Nat × Option Nd)→Ot
 | []=>finO o mark
 |(_,none)::r=>pickO p o mark r
 |(k,some n)::r=>
  if o.parts=[] then
   if n.kind=1 then (if 0<n.mark then finO ⟨true,⟨p,1,⟨#[]⟩,n.time,0⟩,[k]⟩ (max mark n.mark) else pickO p ⟨true,⟨p,1,⟨#[]⟩,n.time,0⟩,[k]⟩ (max mark n.mark) r)
   else if n.kind=0 then ⟨decide (1<n.mark),⟨p,0,⟨#[]⟩,0,n.mark - 1⟩,[]⟩ else ⟨true,n,[]⟩
  else if n.kind=1 then (if 0<n.mark then finO ⟨o.ok,o.node,o.parts++[k]⟩ (max mark n.mark) else pickO p ⟨o.ok,o.node,o.parts++[k]⟩ (max mark n.mark) r) else finO o (max mark n.mark)
def numb:Nat→List (Option Nd)→List (Nat × Option Nd)
 |_,[]=>[]
 |k,x::r=>(k,x)::numb (k+1) r
def partsB (ks:List Nat):List Bool:=(List.range 4).map (fun j=>decide (j∈ks))
theorem parts_in {ks:List Nat} {k:Nat} (h:k<4):(partsB ks).set k true=partsB (ks++[k]):=by
 obtain rfl |rfl |rfl |rfl:k=0∨k=1∨k=2∨k=3:=by omega
 all_goals simp [partsB,List.range_succ]
theorem parts_out {ks:List Nat} {k:Nat} (h:k<4) (hk:k∉ks):(partsB ks).set k false=partsB ks:=by
 obtain rfl |rfl |rfl |rfl:k=0∨k=1∨k=2∨k=3:=by omega
 all_goals simp [partsB,List.range_succ,hk]
structure SameO (o:Ot) (s:Sg):Prop where
 told:o.ok=s.told
 node:o.ok=true→o.node=s.node
 parts:s.have'=partsB o.parts
 dir:o.parts≠[]→o.ok=true∧o.node.kind=1
 no:o.parts=[]→o.ok=true→o.node.kind≠1
theorem empty_data {d:ByteArray} (h:d.size=0):d=⟨#[]⟩:=by
 cases d with
 |mk a=>have :a=#[]:=Array.size_eq_zero_iff.1 h;rw [this]
def RightAt (p:ByteArray) (ns:List (Option Nd)):Prop:=∀n,some n∈ns→zc5 n=true∧n.path=p
theorem fin_same {p:ByteArray} {t mark:Int} {ks:List Nat} (hks:ks≠[]):SameO (finO ⟨true,⟨p,1,⟨#[]⟩,t,0⟩,ks⟩ mark) (upS ⟨true,⟨p,1,⟨#[]⟩,t,mark⟩,partsB ks⟩):=by
 have hu:upS ⟨true,⟨p,1,⟨#[]⟩,t,mark⟩,partsB ks⟩=⟨true,⟨p,1,⟨#[]⟩,t,max (mark - 1) 0⟩,partsB ks⟩:=by
  unfold upS;rw [if_neg (by simp)]
 rw [hu];refine ⟨rfl,fun _=>?_,rfl,fun _=>⟨rfl,rfl⟩,fun h=>absurd h hks⟩;simp only [finO];rw [Int.max_comm]
theorem pick_dirs (p:ByteArray):∀ (ns:List (Option Nd)) (k:Nat) (t mark:Int) (ks:List Nat),RightAt p ns→k+ns.length≤4→ks≠[]→(∀j∈ks,j<k)→0≤mark→
  SameO (pickO p ⟨true,⟨p,1,⟨#[]⟩,t,0⟩,ks⟩ mark (numb k ns)) (upS (goD k ⟨true,⟨p,1,⟨#[]⟩,t,mark⟩,partsB ks⟩ ns)):=by
 intro ns
 induction ns with
 |nil=>intro k t mark ks _ _ hks _ hm;exact fin_same hks
 |cons x ns ih=>
  intro k t mark ks hr hl hks hlt hm;have hr':RightAt p ns:=fun n hn=>hr n (List.mem_cons_of_mem _ hn);simp only [List.length_cons] at hl;cases x with
  |none=>exact ih (k+1) t mark ks hr' (by omega) hks (fun j hj=>Nat.lt_succ_of_lt (hlt j hj)) hm
  |some n=>
   have hnk:k∉ks:=fun h=>absurd (hlt k h) (Nat.lt_irrefl _);have hm2:0≤max mark n.mark:=by omega
   simp only [numb,pickO,goD];rw [if_neg hks];by_cases hk:n.kind=1
   ·have htk:takeS ⟨true,⟨p,1,⟨#[]⟩,t,mark⟩,partsB ks⟩ k n=⟨true,⟨p,1,⟨#[]⟩,t,max mark n.mark⟩,partsB (ks++[k])⟩:=by
     simp only [takeS,markMax,if_true,hk,decide_true];rw [parts_in (by omega)]
    rw [htk,if_pos hk];by_cases hmk:0<n.mark
    ·have hst:stopB n=true:=by simp [stopB,hmk]
     rw [if_pos hmk,hst,if_pos rfl];exact fin_same (by simp)
    ·have hst:stopB n=false:=by simp [stopB,hmk,hk]
     rw [if_neg hmk,hst,if_neg (by decide)]
     exact ih (k+1) t _ (ks++[k]) hr' (by omega) (by simp) (fun j hj=>by
      rcases List.mem_append.1 hj with h|h
      ·exact Nat.lt_succ_of_lt (hlt j h)
      ·simp at h;omega) hm2
   ·have htk:takeS ⟨true,⟨p,1,⟨#[]⟩,t,mark⟩,partsB ks⟩ k n=⟨true,⟨p,1,⟨#[]⟩,t,max mark n.mark⟩,partsB ks⟩:=by
     simp only [takeS,markMax,if_true,hk,decide_false];rw [parts_out (by omega) hnk]
    have hst:stopB n=true:=by simp [stopB,hk]
    rw [htk,if_neg hk,hst,if_pos rfl];exact fin_same hks
theorem pick_same (p:ByteArray):∀ (ns:List (Option Nd)) (k:Nat),RightAt p ns→k+ns.length≤4→SameO (pickO p ⟨false,zeroN,[]⟩ 0 (numb k ns)) (upS (goD k ⟨false,zeroN,partsB []⟩ ns)):=by
 intro ns
 induction ns with
 |nil=>
  intro k _ _
  have hu:upS (goD k ⟨false,zeroN,partsB []⟩ [])=Sg.zero:=by
   show upS ⟨false,zeroN,partsB []⟩=Sg.zero;unfold upS;rw [if_pos ⟨rfl,by show max ((0:Int) - 1) 0=0;decide⟩]
  rw [hu];exact ⟨rfl,fun h=>(by cases h),rfl,fun h=>absurd rfl h,fun _ h=>(by cases h)⟩
 |cons x ns ih=>
  intro k hr hl;have hr':RightAt p ns:=fun n hn=>hr n (List.mem_cons_of_mem _ hn);simp only [List.length_cons] at hl;cases x with
  |none=>exact ih (k+1) hr' (by omega)
  |some n=>
   obtain ⟨hb,hp⟩:=hr n List.mem_cons_self;obtain ⟨-, -,hmk8,hkd⟩:=node_bounds hb;obtain ⟨np,nk,nd,nt,nm⟩:=n;simp only at hp hmk8;subst hp;have hnm:max nm nm=nm:=by omega
   have hnk:k∉([]:List Nat):=by simp
   simp only [numb,pickO,goD,if_true];by_cases hk:nk=1
   ·subst hk
    have hd:nd=⟨#[]⟩:=by
     simp [zm9] at hkd
     first |exact hkd|exact empty_data hkd
    subst hd
    have htk:takeS ⟨false,zeroN,partsB []⟩ k ⟨np,1,⟨#[]⟩,nt,nm⟩=⟨true,⟨np,1,⟨#[]⟩,nt,nm⟩,partsB ([]++[k])⟩:=by
     simp only [takeS,markMax,Bool.false_eq_true,if_false,decide_true,hnm];rw [parts_in (by omega)]
    have hm0:max 0 nm=nm:=by omega
    rw [htk,hm0,List.nil_append,if_pos (rfl:(1:Int)=1)];by_cases hmk:0<nm
    ·have hst:stopB ⟨np,1,⟨#[]⟩,nt,nm⟩=true:=by simp [stopB,hmk]
     rw [if_pos hmk,hst,if_pos rfl];exact fin_same (by simp)
    ·have hst:stopB ⟨np,1,⟨#[]⟩,nt,nm⟩=false:=by simp [stopB,hmk]
     rw [if_neg hmk,hst,if_neg (by decide)];exact pick_dirs np ns (k+1) nt nm [k] hr' (by omega) (by simp) (fun j hj=>by simp at hj;omega) hmk8.1
   ·have htk:takeS ⟨false,zeroN,partsB []⟩ k ⟨np,nk,nd,nt,nm⟩=⟨true,⟨np,nk,nd,nt,nm⟩,partsB []⟩:=by
     simp only [takeS,markMax,Bool.false_eq_true,if_false,hk,decide_false,hnm];rw [parts_out (by omega) hnk]
    have hst:stopB ⟨np,nk,nd,nt,nm⟩=true:=by simp [stopB,hk]
    rw [htk,if_neg hk,hst,if_pos rfl];by_cases hz:nk=0
    ·subst hz;simp [zm9] at hkd
     obtain ⟨⟨hd,ht⟩,hm⟩:=hkd;have hd2:nd=⟨#[]⟩:=by first |exact hd|exact empty_data hd
     subst hd2 ht;rw [if_pos rfl];by_cases h1:nm=1
     ·subst h1
      have hu:upS ⟨true,⟨np,0,⟨#[]⟩,0,1⟩,partsB []⟩=Sg.zero:=by
       unfold upS;rw [if_pos ⟨rfl,by show max ((1:Int) - 1) 0=0;decide⟩]
      rw [hu];exact ⟨rfl,fun h=>(by cases h),rfl,fun h=>absurd rfl h,fun _ h=>(by cases h)⟩
     ·have hu:upS ⟨true,⟨np,0,⟨#[]⟩,0,nm⟩,partsB []⟩=⟨true,⟨np,0,⟨#[]⟩,0,nm - 1⟩,partsB []⟩:=by
       unfold upS;rw [if_neg (by simp only;omega),show max (nm - 1) 0=nm - 1 by omega]
      rw [hu];exact ⟨by simp;omega,fun _=>rfl,rfl,fun h=>absurd rfl h,fun _ _=>(by show (0:Int)≠1;decide)⟩
    ·have h2:nm=0:=by
      simp [zm9,hz,hk] at hkd
      exact hkd.2
     subst h2
     have hu:upS ⟨true,⟨np,nk,nd,nt,0⟩,partsB []⟩=⟨true,⟨np,nk,nd,nt,0⟩,partsB []⟩:=by
      unfold upS;rw [if_neg (fun h=>hz h.1)];rfl
     rw [hu,if_neg hz];exact ⟨rfl,fun _=>rfl,rfl,fun h=>absurd rfl h,fun _ _=>hk⟩
theorem pick_dec {p:ByteArray} {ns:List (Option Nd)} (hr:RightAt p ns) (hl:ns.length≤4):SameO (pickO p ⟨false,zeroN,[]⟩ 0 (numb 0 ns)) (decS ns):=pick_same p ns 0 hr (by omega)
end Pl
end
section
open Go.RowKit
namespace Pl
def zeroO:Ot:=⟨false,zeroN,[]⟩
end Pl
end
section
open Go.RowKit
namespace Pl
theorem go_len:∀ (ns:List (Option Nd)) (k:Nat) (s:Sg),s.have'.length=4→(goD k s ns).have'.length=4:=by
 intro ns
 induction ns with
 |nil=>intro k s h;exact h
 |cons x ns ih=>
  intro k s h;cases x with
  |none=>exact ih _ _ h
  |some n=>
   rw [goD]
   split
   ·rw [take_len];exact h
   ·exact ih _ _ (by rw [take_len];exact h)
theorem dec_len (ns:List (Option Nd)):(decS ns).have'.length=4:=up_len (go_len ns 0 Sg.zero rfl)
theorem pick_skip (p:ByteArray):∀ (l:List (Nat × Option Nd)) (o:Ot) (m:Int),pickO p o m l=pickO p o m (l.filter (fun x=>x.2.isSome)):=by
 intro l
 induction l with
 |nil=>intro o m;rfl
 |cons x l ih=>
  intro o m;obtain ⟨k,y⟩:=x;cases y with
  |none=>simp only [pickO,List.filter];exact ih o m
  |some n=>
   simp only [List.filter,Option.isSome,pickO];rw [ih,ih];rfl
theorem sub_filter {l m:List Nat} (h:l.Sublist m):m.Nodup→m.filter (fun k=>decide (k∈l))=l:=by
 induction h with
 |slnil=>intro _;rfl
 | @cons l m a h ih=>
  intro hn;have hn':=List.nodup_cons.1 hn;have ha:a∉l:=fun h2=>hn'.1 (h.subset h2);rw [List.filter_cons_of_neg (by simpa using ha)];exact ih hn'.2
 | @cons_cons l m a h ih=>
  intro hn;have hn':=List.nodup_cons.1 hn;rw [List.filter_cons_of_pos (by simp)]
  congr 1
  rw [←ih hn'.2]
  apply List.filter_congr
  intro k hk;have :k≠a:=fun e=>hn'.1 (e ▸ hk);rw [ih hn'.2];simp [this]
theorem numb_map:∀ (ns:List (Option Nd)) (j:Nat),numb j ns=(List.range ns.length).map (fun i=>(j+i,ns.getD i none)):=by
 intro ns
 induction ns with
 |nil=>intro j;rfl
 |cons x ns ih=>
  intro j;rw [numb,ih,List.length_cons,List.range_succ_eq_map,List.map_cons,List.map_map]
  congr 1
  apply List.map_congr_left
  intro i _;simp
  omega
theorem filter_ask (ks:List Nat) (R:List Nat) (f:Nat→Option Nd):(R.map (fun i=>(i,if decide (i∈ks) then f i else none))).filter (fun x=>x.2.isSome)=((R.filter (fun k=>decide (k∈ks))).map (fun i=>(i,f i))).filter (fun x=>x.2.isSome):=by
 induction R with
 |nil=>rfl
 |cons a R ih=>
  by_cases h:a∈ks
  ·simp only [List.map_cons,List.filter_cons,h,decide_true,if_true]
   split <;> rw [ih]
  ·simp only [List.map_cons,List.filter_cons,h,decide_false,Bool.false_eq_true,if_false,Option.isSome];exact ih
theorem pick_sub (p:ByteArray):∀ (l:List (Nat × Option Nd)) (o:Ot) (m:Int),∃ks,ks.Sublist (l.map Prod.fst)∧((pickO p o m l).parts=o.parts++ks∨(pickO p o m l).parts=[]):=by
 intro l
 induction l with
 |nil=>intro o m;exact ⟨[],List.nil_sublist _, .inl (by simp [pickO,finO])⟩
 |cons x l ih=>
  intro o m;obtain ⟨k,y⟩:=x;cases y with
  |none=>
   obtain ⟨ks,h1,h2⟩:=ih o m;exact ⟨ks,h1.cons _,h2⟩
  |some n=>
   simp only [pickO];by_cases hp:o.parts=[]
   ·rw [if_pos hp];by_cases hk:n.kind=1
    ·rw [if_pos hk];by_cases hm:0<n.mark
     ·rw [if_pos hm];exact ⟨[k],by simp, .inl (by simp [finO,hp])⟩
     ·rw [if_neg hm];obtain ⟨ks,h1,h2⟩:=ih ⟨true,⟨p,1,⟨#[]⟩,n.time,0⟩,[k]⟩ (max m n.mark);refine ⟨k::ks,h1.cons_cons _,?_⟩
      rcases h2 with h2|h2
      ·exact .inl (by rw [h2,hp];rfl)
      ·exact .inr h2
    ·rw [if_neg hk]
     split
     ·exact ⟨[],List.nil_sublist _, .inr rfl⟩
     ·exact ⟨[],List.nil_sublist _, .inr rfl⟩
   ·rw [if_neg hp];by_cases hk:n.kind=1
    ·rw [if_pos hk];by_cases hm:0<n.mark
     ·rw [if_pos hm];exact ⟨[k],by simp, .inl (by simp [finO])⟩
     ·rw [if_neg hm];obtain ⟨ks,h1,h2⟩:=ih ⟨o.ok,o.node,o.parts++[k]⟩ (max m n.mark);refine ⟨k::ks,h1.cons_cons _,?_⟩
      rcases h2 with h2|h2
      ·exact .inl (by rw [h2];simp)
      ·exact .inr h2
    ·rw [if_neg hk];exact ⟨[],List.nil_sublist _, .inl (by simp [finO])⟩
theorem go_path (p:ByteArray):∀ (ns:List (Option Nd)) (k:Nat) (s:Sg),(∀n,some n∈ns→n.path=p)→(s.told=true→s.node.path=p)→(goD k s ns).told=true→(goD k s ns).node.path=p:=by
 intro ns
 induction ns with
 |nil=>intro k s _ hs h;exact hs h
 |cons x ns ih=>
  intro k s hn hs h;have hn':∀n,some n∈ns→n.path=p:=fun n hm=>hn n (List.mem_cons_of_mem _ hm);cases x with
  |none=>exact ih _ _ hn' hs h
  |some n=>
   have h1:=hn n List.mem_cons_self
   have ht:(takeS s k n).node.path=p:=by
    unfold takeS markMax;cases hst:s.told
    ·exact h1
    ·exact hs hst
   rw [goD] at h ⊢
   split at h
   ·rw [if_pos (by assumption)];exact ht
   ·rw [if_neg (by assumption)];exact ih _ _ hn' (fun _=>ht) h
theorem dec_path {p:ByteArray} {ns:List (Option Nd)} (hn:∀n,some n∈ns→n.path=p) (h:(decS ns).told=true):(decS ns).node.path=p:=by
 unfold decS upS at h ⊢
 split at h
 ·cases h
 ·rw [if_neg (by assumption)];exact go_path p ns 0 Sg.zero hn (fun h2=>by cases h2) h
theorem mark_node {n:Nd} {m:Int} (h:zc5 n=true) (hk:n.kind=1) (hm:0≤m∧m≤8):zc5 ⟨n.path,n.kind,n.data,n.time,m⟩=true:=by
 unfold zc5 at h ⊢;simp only [Bool.and_eq_true,decide_eq_true_eq] at h ⊢;refine ⟨⟨h.1.1,hm⟩,?_⟩;have h2:=h.2;unfold zm9 at h2 ⊢;simp only [hk] at h2 ⊢
 simpa using h2
theorem go_node:∀ (ns:List (Option Nd)) (k:Nat) (s:Sg),(∀n,some n∈ns→zc5 n=true)→(s.told=true→zc5 s.node=true∧s.node.kind=1)→(goD k s ns).told=true→zc5 (goD k s ns).node=true:=by
 intro ns
 induction ns with
 |nil=>intro k s _ hs h;exact (hs h).1
 |cons x ns ih=>
  intro k s hn hs h;have hn':∀n,some n∈ns→zc5 n=true:=fun n hm=>hn n (List.mem_cons_of_mem _ hm);cases x with
  |none=>exact ih _ _ hn' hs h
  |some n=>
   have h1:=hn n List.mem_cons_self;have hb:=node_bounds h1
   have ht:zc5 (takeS s k n).node=true∧(n.kind=1→(takeS s k n).node.kind=1):=by
    unfold takeS markMax;cases hst:s.told
    ·simp only [Bool.false_eq_true,if_false];rw [Int.max_self];exact ⟨h1,fun h=>h⟩
    ·obtain ⟨h2,h3⟩:=hs hst;have hb2:=node_bounds h2;simp only [if_true];exact ⟨mark_node h2 h3 (by omega),fun _=>h3⟩
   rw [goD] at h ⊢
   split at h
   ·rw [if_pos (by assumption)];exact ht.1
   ·rename_i hst
    rw [if_neg hst];refine ih _ _ hn' (fun _=>⟨ht.1,ht.2 ?_⟩) h;simp [stopB] at hst
    exact hst.1
theorem up_node {s:Sg} (h:s.told=true→zc5 s.node=true) (ht:(upS s).told=true):zc5 (upS s).node=true:=by
 unfold upS at ht ⊢
 split at ht
 ·cases ht
 ·rename_i hz
  rw [if_neg hz];have h1:=h ht;have hb:=node_bounds h1;unfold zc5 at h1 ⊢;simp only [Bool.and_eq_true,decide_eq_true_eq] at h1 ⊢;refine ⟨⟨h1.1.1,by omega⟩,?_⟩;have h2:=h1.2;unfold zm9 at h2 ⊢;simp only at hz h2 ⊢;by_cases k0:s.node.kind=0
  ·simp only [k0,if_true,Bool.and_eq_true,decide_eq_true_eq,true_and] at hz h2 ⊢;exact ⟨h2.1,by omega⟩
  ·by_cases k1:s.node.kind=1
   ·simp only [if_neg k0,if_pos k1] at h2 ⊢;exact h2
   ·simp only [if_neg k0,if_neg k1] at h2 ⊢
    split at h2
    ·rename_i k2
     rw [if_pos k2];simp only [decide_eq_true_eq] at h2 ⊢;omega
    ·cases h2
theorem dec_node {ns:List (Option Nd)} (hn:∀n,some n∈ns→zc5 n=true) (ht:(decS ns).told=true):zc5 (decS ns).node=true:=
 up_node (fun h=>go_node ns 0 Sg.zero hn (fun h2=>by cases h2) h) ht
theorem up_zero:upS Sg.zero=Sg.zero:=by
 unfold upS
 split <;> rfl
end Pl
end
end Go.Proofs.YtpakookhgpphaaaDoor
