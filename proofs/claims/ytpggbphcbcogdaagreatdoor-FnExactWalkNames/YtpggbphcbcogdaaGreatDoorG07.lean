/- Several texts of one claim in one file: PlainDirs, PlainState, PlainHist. -/
import Derived.Test.YtpggbphcbcogdaaGreatDoorG06
namespace Go.Proofs.YtpggbphcbcogdaaGreatDoor
section
namespace Pl
theorem zl1 {s:ByteArray} (h:s.size=0):names s=[]:=by
 have e:s=⟨#[]⟩:=by
  apply zh7
  rw [zf7.2 h];rfl
 rw [e];rfl
theorem glue_pos {L:List ByteArray} (h:∀t∈L,zb4 t=true) (hl:L≠[]):¬ (glue L).size=0:=fun e=>by
 have h2:=zi4 h;rw [zl1 e] at h2;exact hl h2.symm
theorem way_dirs {S:List Nd} (ht:zb9 S=true) {p:ByteArray} (hp:za2 p=true) (hd:dirS S (parent p)=true):∀ (j k:Nat),k+j=(names p).length - 1→dirS S (glue ((names p).take k))=true:=by
 have hall:=zk9 hp;intro j
 induction j with
 |zero=>
  intro k hk;rw [zn4,List.dropLast_eq_take] at hd;rw [show k=(names p).length - 1 by omega];exact hd
 |succ j ih=>
  intro k hk;have h1:=ih (k+1) (by omega);rw [dirS_iff ((zk7 S).1 ht).2.2] at h1
  rcases h1 with h1|⟨m,hm,e, -⟩
  ·exact absurd h1 (glue_pos (zn1 hall.1 _) (fun e3=>by have :=congrArg List.length e3;rw [List.length_take,List.length_nil] at this;omega))
  ·have h2:=(((zk7 S).1 ht).2.1 m hm).2;rw [zn4,e,zi4 (zn1 hall.1 _)] at h2;have e2:((names p).take (k+1)).dropLast=(names p).take k:=by rw [List.dropLast_eq_take,List.length_take,Nat.min_eq_left (by omega),List.take_take];congr 1;omega
   rw [e2] at h2;exact h2
theorem way_K {S:List Nd} (ht:zb9 S=true) {p:ByteArray} (hp:za2 p=true) (hd:dirS S (parent p)=true):∀q∈ways (names p) ((names p).length - 1),∃d,lk S q=some d∧d.kind=1∧d.data.size=0:=by
 intro q hq;obtain ⟨i,hi,rfl⟩:=List.mem_map.1 hq;have hi:=List.mem_range.1 hi;have h1:=way_dirs ht hp hd ((names p).length - 1 - (i+1)) (i+1) (by omega);have h0:¬ (glue ((names p).take (i+1))).size=0:=glue_pos (zn1 (zk9 hp).1 _) (fun e3=>by have :=congrArg List.length e3;rw [List.length_take,List.length_nil] at this;omega);unfold dirS at h1;simp only [h0,decide_false,Bool.false_or] at h1;cases hf:S.find? (fun m=>decide (m.path=glue ((names p).take (i+1)))) with
 |none=>rw [hf] at h1;cases h1
 |some d=>
  rw [hf] at h1;have hk:d.kind=1:=of_decide_eq_true h1;refine ⟨d,hf,hk,?_⟩;have h2:=(((zk7 S).1 ht).2.1 d (List.mem_of_find?_eq_some hf)).1
  have h3:zg3 d=true:=by
   unfold zb3 at h2;simp only [Bool.and_eq_true] at h2;exact h2.2
  unfold zg3 at h3;rw [if_neg (by rw [hk];decide),if_pos hk] at h3;exact of_decide_eq_true h3
theorem dir_found {S:List Nd} (ht:zb9 S=true) {p:ByteArray} (h:∃d,lk S p=some d):dirS S (parent p)=true:=by
 obtain ⟨d,hd⟩:=h;have h1:=List.mem_of_find?_eq_some hd;have h2:d.path=p:=by simpa using List.find?_some hd
 rw [←h2];exact (((zk7 S).1 ht).2.1 d h1).2
end Pl
end
section
open Go.RowKit
namespace Pl
abbrev Fq:=ByteArray→Option Nd
def zj1 (s:Sg):Option Nd:=if s.told=true then some s.node else none
def nsF {α:Type}:List Bool→List (α→Option Nd)→α→List (Option Nd)
 |a::ab,f::fs,p=>(if a then f p else none)::nsF ab fs p
 |_,_,_=>[]
def zd6 {α:Type} (fs:List (α→Option Nd)) (s:Sg) (ps:List α):Sg:=ps.foldl (fun s p=>decS (nsF s.have' fs p)) s
def zb1 (q:ByteArray):List ByteArray:=ways (names q) (names q).length
def fnsX:Fx→List Fq
 | .nil=>[]
 | .cons L k m=>(fun q=>if k.len=0 then lk L q else zj1 (zd6 (fnsX k) (zd2 k.len) (zb1 q)))::fnsX m
def fnX (L:List Nd) (k:Fx):Fq:=fun q=>if k.len=0 then lk L q else zj1 (zd6 (fnsX k) (zd2 k.len) (zb1 q))
theorem fns_cons (L:List Nd) (k m:Fx):fnsX (.cons L k m)=fnX L k::fnsX m:=rfl
theorem fn_leaf {L:List Nd} {k:Fx} (h:k.len=0) (q:ByteArray):fnX L k q=lk L q:=if_pos h
theorem fn_nest {L:List Nd} {k:Fx} (h:k.len≠0) (q:ByteArray):fnX L k q=zj1 (zd6 (fnsX k) (zd2 k.len) (zb1 q)):=if_neg h
def kid:Fx→Nat→Option (List Nd × Fx)
 | .nil,_=>none
 | .cons L k _,0=>some (L,k)
 | .cons _ _ m,i+1=>kid m i
theorem zr8 {F:Fx}:∀ {i:Nat},i<F.len→∃L k,kid F i=some (L,k):=by
 induction F with
 |nil=>intro i h;exact absurd h (Nat.not_lt_zero _)
 |cons L k m _ ih=>
  intro i h;cases i with
  |zero=>exact ⟨L,k,rfl⟩
  |succ i=>exact ih (i:=i) (by have :i+1<m.len+1:=h;omega)
theorem fns_len (F:Fx):(fnsX F).length=F.len:=by
 induction F with
 |nil=>rfl
 |cons L k m _ ih=>rw [fns_cons,List.length_cons,ih];rfl
theorem fns_get {F:Fx}:∀ {i:Nat} {L:List Nd} {k:Fx},kid F i=some (L,k)→(fnsX F)[i]? =some (fnX L k):=by
 induction F with
 |nil=>intro i L k h;cases h
 |cons L' k' m _ ih=>
  intro i L k h;cases i with
  |zero=>cases h;rfl
  |succ i=>rw [fns_cons,List.getElem?_cons_succ];exact ih (i:=i) h
theorem kid_ok {F:Fx}:∀ {i:Nat} {L:List Nd} {k:Fx},F.okX→kid F i=some (L,k)→zb9 L=true∧(k= .nil∨L=[])∧k.len≤4∧k.okX:=by
 induction F with
 |nil=>intro i L k _ h;cases h
 |cons L' k' m _ ih=>
  intro i L k ho h;cases i with
  |zero=>cases h;exact ⟨ho.1,ho.2.1,ho.2.2.1,ho.2.2.2.1⟩
  |succ i=>exact ih (i:=i) ho.2.2.2.2 h
theorem zt7 {F:Fx}:∀ {i:Nat} {L:List Nd} {k:Fx},kid F i=some (L,k)→k.shape.depth+1≤F.shape.depth:=by
 induction F with
 |nil=>intro i L k h;cases h
 |cons L' k' m _ ih=>
  intro i L k h;cases i with
  |zero=>cases h;simp only [Fx.shape,Fo.depth];omega
  |succ i=>have :=ih (i:=i) h;simp only [Fx.shape,Fo.depth];omega
theorem nsF_get {α:Type} (p:α):∀ (ab:List Bool) (fs:List (α→Option Nd)) (k:Nat) (a:Bool) (f:α→Option Nd),ab[k]? =some a→fs[k]? =some f→(nsF ab fs p)[k]? =some (if a then f p else none):=by
 intro ab
 induction ab with
 |nil=>intro fs k a f h;simp at h
 |cons x ab ih=>
  intro fs k a f h1 h2;cases fs with
  |nil=>simp at h2
  |cons g fs=>
   cases k with
   |zero=>simp at h1 h2;subst h1 h2;rfl
   |succ k=>simp at h1 h2;simpa [nsF] using ih fs k a f h1 h2
theorem nsF_len {α:Type} (p:α):∀ (ab:List Bool) (fs:List (α→Option Nd)),fs.length≤ab.length→(nsF ab fs p).length=fs.length:=by
 intro ab
 induction ab with
 |nil=>intro fs h;cases fs with |nil=>rfl |cons=>simp at h
 |cons x ab ih=>
  intro fs h;cases fs with
  |nil=>rfl
  |cons g fs=>simp [nsF];exact ih fs (by simpa using h)
theorem nsF_mem {α:Type} (p:α):∀ (ab:List Bool) (fs:List (α→Option Nd)) (n:Nd),some n∈nsF ab fs p→∃f∈fs,f p=some n:=by
 intro ab
 induction ab with
 |nil=>intro fs n h;simp [nsF] at h
 |cons a ab ih=>
  intro fs n h;cases fs with
  |nil=>simp [nsF] at h
  |cons f fs=>
   rw [nsF] at h
   rcases List.mem_cons.1 h with h|h
   ·cases a
    ·simp at h
    ·simp only [if_true] at h;exact ⟨f,List.mem_cons_self,h.symm⟩
   ·obtain ⟨g,hg,hn⟩:=ih fs n h;exact ⟨g,List.mem_cons_of_mem _ hg,hn⟩
theorem zl9 {α:Type} (fs:List (α→Option Nd)) (s:Sg) (ps:List α) (p:α):zd6 fs s (ps++[p])=decS (nsF (zd6 fs s ps).have' fs p):=by simp [zd6]
theorem walkF_len {α:Type} (fs:List (α→Option Nd)) (n:Nat) (ps:List α):(zd6 fs (zd2 n) ps).have'.length=4:=by
 rcases List.eq_nil_or_concat ps with rfl |⟨qs,q,rfl⟩
 ·rfl
 ·rw [List.concat_eq_append,zl9];exact dec_len _
def RightF (f:Fq):Prop:=∀q n,za2 q=true→¬q.size=0→f q=some n→zb3 n=true∧n.path=q
theorem zq6 {q:ByteArray} (hz:¬q.size=0):∃ps,zb1 q=ps++[q]:=by
 obtain ⟨k,hk⟩:∃k,(names q).length=k+1:=⟨(names q).length - 1,by
  have :1≤(names q).length:=by unfold names;rw [if_neg hz];exact cut_pos q
  omega⟩
 refine ⟨ways (names q) k,?_⟩;rw [zb1,hk,zt0,List.take_of_length_le (by omega),zl4]
theorem zx9 {fs:List Fq} (hf:∀f∈fs,RightF f) {q:ByteArray} (hq:za2 q=true) (hz:¬q.size=0) (ab:List Bool):zm8 q (nsF ab fs q):=fun n hn=>by
 obtain ⟨f,h1,h2⟩:=nsF_mem _ _ _ _ hn;exact hf f h1 q n hq hz h2
theorem tell_right {ns:List (Option Nd)} {q:ByteArray} (h:zm8 q ns) {n:Nd} (hn:zj1 (decS ns)=some n):zb3 n=true∧n.path=q:=by
 unfold zj1 at hn
 split at hn
 ·next ht=>cases hn;exact ⟨dec_node (fun m hm=>(h m hm).1) ht,dec_path (fun m hm=>(h m hm).2) ht⟩
 ·cases hn
theorem lk_right {L:List Nd} (h:zb9 L=true):RightF (lk L):=fun q n _ _ hn=>by
 have hm:=List.mem_of_find?_eq_some hn;simp only [zb9,Bool.and_eq_true,decide_eq_true_eq] at h;exact ⟨goI_all L _ _ h.2 n hm,by simpa using List.find?_some hn⟩
theorem fns_right (F:Fx):F.okX→∀f∈fnsX F,RightF f:=by
 induction F with
 |nil=>intro _ f h;cases h
 |cons L k m ihk ihm=>
  intro ho f hf;rw [fns_cons] at hf
  rcases List.mem_cons.1 hf with rfl |hf
  ·intro q n hq hz hn;by_cases hk:k.len=0
   ·rw [fn_leaf hk] at hn;exact lk_right ho.1 q n hq hz hn
   ·rw [fn_nest hk] at hn;obtain ⟨ps,hps⟩:=zq6 hz;rw [hps,zl9] at hn;exact tell_right (zx9 (ihk ho.2.2.2.1) hq hz _) hn
  ·exact ihm ho.2.2.2.2 f hf
def askF (fs:List Fq) (ks:List Nat) (q:ByteArray):List (Nat × Option Nd):=ks.map (fun k=>(k,(fs.getD k (fun _=>none)) q))
def zc7 (fs:List Fq) (ks:List Nat) (q:ByteArray):Ot:=zc4 q zg9 0 (askF fs ks q)
def atF (fs:List Fq):List Nat→List ByteArray→Ot
 |_,[]=>zg9
 |ks,[q]=>if (zc7 fs ks q).ok=true then zc7 fs ks q else zg9
 |ks,q::q2::r=>if (zc7 fs ks q).ok=true∧(zc7 fs ks q).node.kind=1 then atF fs (zc7 fs ks q).parts (q2::r) else zg9
theorem askF_same {fs:List Fq} {ks:List Nat} {q:ByteArray} (h4:fs.length≤4) (hs:ks.Sublist (List.range fs.length)):(numb 0 (nsF (zb2 ks) fs q)).filter (fun x=>x.2.isSome)=(askF fs ks q).filter (fun x=>x.2.isSome):=by
 have hl:(nsF (zb2 ks) fs q).length=fs.length:=nsF_len q (zb2 ks) fs (by simpa [zb2] using h4)
 have hget:∀i,i<fs.length→(nsF (zb2 ks) fs q).getD i none=if decide (i∈ks) then (fs.getD i (fun _=>none)) q else none:=fun i hi=>by
  have h1:(zb2 ks)[i]? =some (decide (i∈ks)):=by simp [zb2,show i<4 by omega]
  have h2:fs[i]? =some (fs.getD i (fun _=>none)):=by simp [List.getD,hi]
  rw [List.getD,nsF_get q (zb2 ks) fs i _ _ h1 h2];rfl
 rw [numb_map,hl]
 have e:(List.range fs.length).map (fun i=>(0+i,(nsF (zb2 ks) fs q).getD i none))=(List.range fs.length).map (fun i=>(i,if decide (i∈ks) then (fs.getD i (fun _=>none)) q else none)):=by
  apply List.map_congr_left
  intro i hi;rw [hget i (List.mem_range.1 hi),Nat.zero_add]
 rw [e,askF]
 conv=>rhs;rw [←sub_filter hs (List.nodup_range)]
 exact filter_ask _ _ (fun i=>(fs.getD i (fun _=>none)) q)
theorem zy4 {fs:List Fq} {ks:List Nat} {q:ByteArray} (hs:ks.Sublist (List.range fs.length)):(zc7 fs ks q).parts.Sublist (List.range fs.length):=by
 obtain ⟨js,h1,h2⟩:=pick_sub q (askF fs ks q) zg9 0
 have e:(askF fs ks q).map Prod.fst=ks:=by
  unfold askF;rw [List.map_map];exact List.map_id' ks
 rw [e] at h1;unfold zc7
 rcases h2 with h2|h2
 ·rw [h2];exact h1.trans hs
 ·rw [h2];exact List.nil_sublist _
theorem zv3 {fs:List Fq} {ks:List Nat} {q:ByteArray} (h4:fs.length≤4) (hf:∀f∈fs,RightF f) (hq:za2 q=true) (hz:¬q.size=0) (hs:ks.Sublist (List.range fs.length)):SameO (zc7 fs ks q) (decS (nsF (zb2 ks) fs q)):=by
 have h:=pick_dec (zx9 hf hq hz (zb2 ks)) (by rw [nsF_len q (zb2 ks) fs (by simpa [zb2] using h4)];exact h4);rw [pick_skip,askF_same h4 hs,←pick_skip] at h;exact h
theorem decF_none (fs:List Fq) (q:ByteArray):decS (nsF (zb2 []) fs q)=Sg.zero:=by
 have h:∀ (ab:List Bool) (fs:List Fq) (k:Nat),(∀b∈ab,b=false)→goD k Sg.zero (nsF ab fs q)=Sg.zero:=by
  intro ab
  induction ab with
  |nil=>intro fs k _;rfl
  |cons a ab ih=>
   intro fs k hb;cases fs with
   |nil=>rfl
   |cons f fs=>
    have ha:=hb a List.mem_cons_self;subst ha;exact ih fs (k+1) (fun b h=>hb b (List.mem_cons_of_mem _ h))
 unfold decS;rw [h _ _ _ (by simp [zb2])];rfl
theorem walkF_none (fs:List Fq):∀ (ps:List ByteArray) (s:Sg),s.have'=zb2 []→ps≠[]→zd6 fs s ps=Sg.zero:=by
 intro ps
 induction ps with
 |nil=>intro s _ h;exact absurd rfl h
 |cons q ps ih=>
  intro s hs _;show zd6 fs (decS (nsF s.have' fs q)) ps=Sg.zero;rw [hs,decF_none];by_cases hp:ps=[]
  ·subst hp;rfl
  ·exact ih _ rfl hp
theorem atF_same {fs:List Fq} (h4:fs.length≤4) (hf:∀f∈fs,RightF f):∀ (ps:List ByteArray) (ks:List Nat) (s:Sg),(∀q∈ps,za2 q=true∧¬q.size=0)→ps≠[]→ks.Sublist (List.range fs.length)→s.have'=zb2 ks→
  (atF fs ks ps).ok=(zd6 fs s ps).told∧((atF fs ks ps).ok=true→(atF fs ks ps).node=(zd6 fs s ps).node)∧(zd6 fs s ps).have'=zb2 (atF fs ks ps).parts:=by
 intro ps
 induction ps with
 |nil=>intro ks s _ h;exact absurd rfl h
 |cons q ps ih=>
  intro ks s hps _ hs hh;have hc:=zv3 (q:=q) h4 hf (hps q List.mem_cons_self).1 (hps q List.mem_cons_self).2 hs;have e:zd6 fs s (q::ps)=zd6 fs (decS (nsF (zb2 ks) fs q)) ps:=by rw [←hh];rfl
  rw [e];cases ps with
  |nil=>
   show (if (zc7 fs ks q).ok=true then zc7 fs ks q else zg9).ok=(decS _).told∧_∧_;by_cases hk:(zc7 fs ks q).ok=true
   ·simp only [atF];rw [if_pos hk];exact ⟨hc.told,hc.node,hc.parts⟩
   ·simp only [atF];rw [if_neg hk]
    have h0:(zc7 fs ks q).parts=[]:=by
     by_cases hp:(zc7 fs ks q).parts=[]
     ·exact hp
     ·exact absurd (hc.dir hp).1 hk
    exact ⟨by rw [←hc.told];simp at hk;rw [hk];rfl,fun h=>(by cases h),by rw [show zd6 fs (decS (nsF (zb2 ks) fs q)) []=decS (nsF (zb2 ks) fs q) from rfl,hc.parts,h0];rfl⟩
  |cons q2 r=>
   simp only [atF];by_cases hk:(zc7 fs ks q).ok=true∧(zc7 fs ks q).node.kind=1
   ·rw [if_pos hk];exact ih (zc7 fs ks q).parts _ (fun x hx=>hps x (List.mem_cons_of_mem _ hx)) (by simp) (zy4 hs) hc.parts
   ·rw [if_neg hk]
    have h0:(zc7 fs ks q).parts=[]:=by
     by_cases hp:(zc7 fs ks q).parts=[]
     ·exact hp
     ·exact absurd (hc.dir hp) hk
    have hz:=walkF_none fs (q2::r) (decS (nsF (zb2 ks) fs q)) (by rw [hc.parts,h0]) (by simp);rw [hz];exact ⟨rfl,fun h=>(by cases h),rfl⟩
def stO (L:List Nd) (k:Fx) (q:ByteArray):Ot:=
 if k.len=0 then (match lk L q with |none=>zg9|some n=>⟨true,n,[]⟩) else atF (fnsX k) (List.range k.len) (zb1 q)
theorem zi3 {q:ByteArray} (hq:za2 q=true):∀p∈zb1 q,za2 p=true∧¬p.size=0:=by
 intro p hp;obtain ⟨i,hi,rfl⟩:=List.mem_map.1 hp;have hi':=List.mem_range.1 hi;have e:=(ze2 q);rw [zc0 hq] at e;have hn:∀t∈(names q).take (i+1),zb4 t=true:=zn1 e.1 _;have e2:=zi4 hn;refine ⟨pathB_glue hn (by rw [List.length_take];omega),fun h0=>?_⟩;have h3:names (glue ((names q).take (i+1)))=[]:=zl1 h0;rw [e2] at h3;have :=congrArg List.length h3;rw [List.length_take,List.length_nil] at this;omega
theorem rootF_parts {n:Nat} (h:n≤4):(zd2 n).have'=zb2 (List.range n):=by
 obtain rfl |rfl |rfl |rfl |rfl:n=0∨n=1∨n=2∨n=3∨n=4:=by omega
 all_goals decide
theorem st_fn {L:List Nd} {k:Fx} {q:ByteArray} (h4:k.len≤4) (hk:k.okX) (hq:za2 q=true) (hz:¬q.size=0):fnX L k q=if (stO L k q).ok=true then some (stO L k q).node else none:=by
 unfold stO;by_cases h0:k.len=0
 ·rw [fn_leaf h0,if_pos h0];cases lk L q <;> rfl
 ·rw [fn_nest h0,if_neg h0];obtain ⟨ps,hps⟩:=zq6 hz;obtain ⟨h1,h2, -⟩:=atF_same (fs:=fnsX k) (by rw [fns_len];exact h4) (fns_right k hk) (zb1 q) (List.range k.len) (zd2 k.len) (zi3 hq) (by rw [hps];simp) (by rw [fns_len];exact List.Sublist.refl _) (rootF_parts h4);unfold zj1;rw [←h1]
  split
  ·next ht=>rw [h2 ht]
  ·rfl
theorem st_none {L:List Nd} {k:Fx} {q:ByteArray} (h:(stO L k q).ok=false):stO L k q=zg9:=by
 unfold stO at h ⊢
 split at h
 ·next hk=>rw [if_pos hk];split at h <;> first |rfl |cases h
 ·next hk=>
  rw [if_neg hk];generalize zb1 q=ps at h ⊢;generalize List.range k.len=ks at h ⊢
  induction ps generalizing ks with
  |nil=>rfl
  |cons q ps ih=>
   cases ps with
   |nil=>
    simp only [atF] at h ⊢
    split at h
    ·next ht=>rw [ht] at h;cases h
    ·next ht=>rw [if_neg ht]
   |cons q2 r=>
    simp only [atF] at h ⊢
    split at h
    ·next ht=>rw [if_pos ht];exact ih _ h
    ·next ht=>rw [if_neg ht]
end Pl
end
section
open Go.RowKit
namespace Pl
def hist (h:List ByteArray):List (List ByteArray):=(List.range h.length).map (fun i=>h.take (i+1))
theorem hist_nil:hist []=[]:=rfl
theorem zu3 (h:List ByteArray) (q:ByteArray):hist (h++[q])=hist h++[h++[q]]:=by
 unfold hist;rw [List.length_append,List.length_singleton,List.range_succ,List.map_append]
 congr 1
 ·apply List.map_congr_left
  intro i hi;rw [List.take_append_of_le_length (by have :=List.mem_range.1 hi;omega)]
 ·simp [List.take_of_length_le]
def fnsH:Fx→List (List ByteArray→Option Nd)
 | .nil=>[]
 | .cons L k m=>(fun h=>if k.len=0 then lk L (h.getLastD ⟨#[]⟩) else zj1 (zd6 (fnsH k) (zd2 k.len) (hist h)))::fnsH m
def fnH (L:List Nd) (k:Fx):List ByteArray→Option Nd:=fun h=>if k.len=0 then lk L (h.getLastD ⟨#[]⟩) else zj1 (zd6 (fnsH k) (zd2 k.len) (hist h))
theorem fnsH_cons (L:List Nd) (k m:Fx):fnsH (.cons L k m)=fnH L k::fnsH m:=rfl
theorem fnH_leaf {L:List Nd} {k:Fx} (h0:k.len=0) (h:List ByteArray) (q:ByteArray):fnH L k (h++[q])=lk L q:=by
 unfold fnH;rw [if_pos h0];simp
theorem fnH_nest {L:List Nd} {k:Fx} (h0:k.len≠0) (h:List ByteArray):fnH L k h=zj1 (zd6 (fnsH k) (zd2 k.len) (hist h)):=if_neg h0
theorem fnsH_len (F:Fx):(fnsH F).length=F.len:=by
 induction F with
 |nil=>rfl
 |cons L k m _ ih=>rw [fnsH_cons,List.length_cons,ih];rfl
theorem fnsH_get {F:Fx}:∀ {i:Nat} {L:List Nd} {k:Fx},kid F i=some (L,k)→(fnsH F)[i]? =some (fnH L k):=by
 induction F with
 |nil=>intro i L k h;cases h
 |cons L' k' m _ ih=>
  intro i L k h;cases i with
  |zero=>cases h;rfl
  |succ i=>rw [fnsH_cons,List.getElem?_cons_succ];exact ih (i:=i) h
theorem mark_of {n:Nd} (h:zb3 n=true):0≤n.mark∧n.mark≤8:=by
 simp only [zb3,Bool.and_eq_true,decide_eq_true_eq] at h;omega
theorem go_mark:∀ (ns:List (Option Nd)) (k:Nat) (s:Sg),(0≤s.node.mark∧s.node.mark≤8)→(∀n,some n∈ns→0≤n.mark∧n.mark≤8)→0≤(goD k s ns).node.mark∧(goD k s ns).node.mark≤8:=by
 intro ns
 induction ns with
 |nil=>intro k s h _;exact h
 |cons y ns ih=>
  intro k s h hn;cases y with
  |none=>exact ih _ _ h (fun n hm=>hn n (List.mem_cons_of_mem _ hm))
  |some n=>
   have h2:=take_mark (k:=k) h (hn n List.mem_cons_self);rw [goD]
   split
   ·exact h2
   ·exact ih _ _ h2 (fun n hm=>hn n (List.mem_cons_of_mem _ hm))
theorem dec_mark {ns:List (Option Nd)} (hn:∀n,some n∈ns→0≤n.mark∧n.mark≤8):0≤(decS ns).node.mark∧(decS ns).node.mark≤8:=by
 have h:=go_mark ns 0 Sg.zero (by decide) hn;unfold decS upS
 split
 ·decide
 ·dsimp only;omega
theorem fnsH_mark (F:Fx):F.okX→∀f∈fnsH F,∀h m,f h=some m→0≤m.mark∧m.mark≤8:=by
 induction F with
 |nil=>intro _ f h;cases h
 |cons L k m ihk ihm=>
  intro ho f hf;rw [fnsH_cons] at hf
  rcases List.mem_cons.1 hf with rfl |hf
  ·intro h n hn;by_cases hk:k.len=0
   ·unfold fnH at hn;rw [if_pos hk] at hn;have hm:=List.mem_of_find?_eq_some hn;have ht:=ho.1;simp only [zb9,Bool.and_eq_true,decide_eq_true_eq] at ht;exact mark_of (goI_all L _ _ ht.2 n hm)
   ·rw [fnH_nest hk] at hn;unfold zj1 at hn
    split at hn
    ·cases hn
     rcases List.eq_nil_or_concat h with rfl |⟨h',q,rfl⟩
     ·rw [hist_nil];exact ⟨Int.le_refl _,(by decide :(0:Int)≤8)⟩
     ·rw [List.concat_eq_append,zu3,zl9]
      exact dec_mark (fun n hn=>by
       obtain ⟨g,hg,e⟩:=nsF_mem _ _ _ _ hn
       exact ihk ho.2.2.2.1 g hg _ n e)
    ·cases hn
  ·exact ihm ho.2.2.2.2 f hf
theorem zp1 {q:ByteArray} (hq:za2 q=true) {i:Nat} (hi:i<(zb1 q).length):zb1 (glue ((names q).take (i+1)))=(zb1 q).take (i+1):=by
 have e:=(ze2 q);rw [zc0 hq] at e;have hn:∀t∈(names q).take (i+1),zb4 t=true:=zn1 e.1 _;have e2:=zi4 hn;have hl:(zb1 q).length=(names q).length:=zi0 _ _;unfold zb1;rw [e2];unfold ways;rw [List.length_take,Nat.min_eq_left (by omega),←List.map_take,List.take_range,Nat.min_eq_left (by omega)]
 apply List.map_congr_left
 intro j hj;have :=List.mem_range.1 hj;rw [List.take_take,Nat.min_eq_left (by omega)]
theorem zq7 {q:ByteArray} {i:Nat} (hi:i<(zb1 q).length):(zb1 q)[i]? =some (glue ((names q).take (i+1))):=by
 have hl:(zb1 q).length=(names q).length:=zi0 _ _;unfold zb1 ways;rw [List.getElem?_map,List.getElem?_range (by omega)];rfl
theorem hist_ways {q:ByteArray} (hq:za2 q=true):hist (zb1 q)=(zb1 q).map zb1:=by
 apply List.ext_getElem?
 intro i;by_cases hi:i<(zb1 q).length
 ·unfold hist;rw [List.getElem?_map,List.getElem?_map,List.getElem?_range hi,zq7 hi];simp only [Option.map_some];rw [zp1 hq hi]
 ·rw [List.getElem?_eq_none (by unfold hist;simp;omega),List.getElem?_eq_none (by simp;omega)]
theorem nsF_hist {fs:List Fq} {gs:List (List ByteArray→Option Nd)} {q:ByteArray} (h:∀ (i:Nat) (f:Fq) (g:List ByteArray→Option Nd),fs[i]? =some f→gs[i]? =some g→g (zb1 q)=f q):∀ (ab:List Bool),fs.length=gs.length→nsF ab gs (zb1 q)=nsF ab fs q:=by
 intro ab
 induction ab generalizing fs gs with
 |nil=>intro _;rfl
 |cons a ab ih=>
  intro hl;cases fs with
  |nil=>cases gs with
   |nil=>rfl
   |cons=>simp at hl
  |cons f fs=>cases gs with
   |nil=>simp at hl
   |cons g gs=>
    show (if a then g (zb1 q) else none)::nsF ab gs (zb1 q)=(if a then f q else none)::nsF ab fs q;rw [h 0 f g rfl rfl,ih (fun i f g h1 h2=>h (i+1) f g h1 h2) (by simpa using hl)]
theorem walkF_hist {fs:List Fq} {gs:List (List ByteArray→Option Nd)} (hl:fs.length=gs.length):∀ (ps:List ByteArray) (s:Sg),(∀q∈ps,∀ (i:Nat) (f:Fq) (g:List ByteArray→Option Nd),fs[i]? =some f→gs[i]? =some g→g (zb1 q)=f q)→zd6 gs s (ps.map zb1)=zd6 fs s ps:=by
 intro ps
 induction ps with
 |nil=>intro s _;rfl
 |cons q ps ih=>
  intro s h;show zd6 gs (decS (nsF s.have' gs (zb1 q))) (ps.map zb1)=zd6 fs (decS (nsF s.have' fs q)) ps;rw [nsF_hist (h q List.mem_cons_self) _ hl];exact ih _ (fun x hx=>h x (List.mem_cons_of_mem _ hx))
theorem fnsH_ways (F:Fx):∀q,za2 q=true→¬q.size=0→∀ (i:Nat) (f:Fq) (g:List ByteArray→Option Nd),(fnsX F)[i]? =some f→(fnsH F)[i]? =some g→g (zb1 q)=f q:=by
 induction F with
 |nil=>intro q _ _ i f g h;cases i <;> cases h
 |cons L k m ihk ihm=>
  intro q hq hz i f g h1 h2;cases i with
  |zero=>
   rw [fns_cons] at h1;rw [fnsH_cons] at h2;cases h1
   cases h2
   by_cases hk:k.len=0
   ·rw [fn_leaf hk];obtain ⟨ps,hps⟩:=zq6 hz;rw [hps,fnH_leaf hk]
   ·rw [fn_nest hk,fnH_nest hk,hist_ways hq,walkF_hist (by rw [fns_len,fnsH_len]) (zb1 q) (zd2 k.len) (fun x hx=>ihk x (zi3 hq x hx).1 (zi3 hq x hx).2)]
  |succ i=>exact ihm q hq hz i f g h1 h2
theorem fnH_ways (L:List Nd) (k:Fx) {q:ByteArray} (hq:za2 q=true) (hz:¬q.size=0):fnH L k (zb1 q)=fnX L k q:=
 fnsH_ways (.cons L k .nil) q hq hz 0 _ _ rfl rfl
end Pl
end
end Go.Proofs.YtpggbphcbcogdaaGreatDoor
