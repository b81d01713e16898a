/- Several texts of one claim in one file: PlainDirs, PlainState, PlainHist, PlainWalk, PlainOpen. -/
import Derived.Test.YtgdjjncmocppeaaGreatDoorG11
import Derived.Test.YtgdjjncmocppeaaGreatDoorG05
namespace Go.Proofs.YtgdjjncmocppeaaGreatDoor
section
namespace Pl
theorem zp1 {s:ByteArray} (h:s.size=0):names s=[]:=by
 have e:s=⟨#[]⟩:=by
  apply ze5
  rw [ze8.2 h];rfl
 rw [e];rfl
theorem glue_pos {L:List ByteArray} (h:∀t∈L,zc0 t=true) (hl:L≠[]):¬ (glue L).size=0:=fun e=>by
 have h2:=zk6 h;rw [zp1 e] at h2;exact hl h2.symm
theorem way_dirs {S:List Nd} (ht:zc7 S=true) {p:ByteArray} (hp:za0 p=true) (hd:dirS S (parent p)=true):∀ (j k:Nat),k+j=(names p).length - 1→dirS S (glue ((names p).take k))=true:=by
 have hall:=zl9 hp;intro j
 induction j with
 |zero=>
  intro k hk;rw [zw5,List.dropLast_eq_take] at hd;rw [show k=(names p).length - 1 by omega];exact hd
 |succ j ih=>
  intro k hk;have h1:=ih (k+1) (by omega);rw [dirS_iff ((zu1 S).1 ht).2.2] at h1
  rcases h1 with h1|⟨m,hm,e, -⟩
  ·exact absurd h1 (glue_pos (zq6 hall.1 _) (fun e3=>by have :=congrArg List.length e3;rw [List.length_take,List.length_nil] at this;omega))
  ·have h2:=(((zu1 S).1 ht).2.1 m hm).2;rw [zw5,e,zk6 (zq6 hall.1 _)] at h2;have e2:((names p).take (k+1)).dropLast=(names p).take k:=by rw [List.dropLast_eq_take,List.length_take,Nat.min_eq_left (by omega),List.take_take];congr 1;omega
   rw [e2] at h2;exact h2
theorem way_K {S:List Nd} (ht:zc7 S=true) {p:ByteArray} (hp:za0 p=true) (hd:dirS S (parent p)=true):∀q∈ways (names p) ((names p).length - 1),∃d,lk S q=some d∧d.kind=1∧d.data.size=0:=by
 intro q hq;obtain ⟨i,hi,rfl⟩:=List.mem_map.1 hq;have hi:=List.mem_range.1 hi;have h1:=way_dirs ht hp hd ((names p).length - 1 - (i+1)) (i+1) (by omega);have h0:¬ (glue ((names p).take (i+1))).size=0:=glue_pos (zq6 (zl9 hp).1 _) (fun e3=>by have :=congrArg List.length e3;rw [List.length_take,List.length_nil] at this;omega);unfold dirS at h1;simp only [h0,decide_false,Bool.false_or] at h1;cases hf:S.find? (fun m=>decide (m.path=glue ((names p).take (i+1)))) with
 |none=>rw [hf] at h1;cases h1
 |some d=>
  rw [hf] at h1;have hk:d.kind=1:=of_decide_eq_true h1;refine ⟨d,hf,hk,?_⟩;have h2:=(((zu1 S).1 ht).2.1 d (List.mem_of_find?_eq_some hf)).1
  have h3:zh8 d=true:=by
   unfold zb1 at h2;simp only [Bool.and_eq_true] at h2;exact h2.2
  unfold zh8 at h3;rw [if_neg (by rw [hk];decide),if_pos hk] at h3;exact of_decide_eq_true h3
theorem dir_found {S:List Nd} (ht:zc7 S=true) {p:ByteArray} (h:∃d,lk S p=some d):dirS S (parent p)=true:=by
 obtain ⟨d,hd⟩:=h;have h1:=List.mem_of_find?_eq_some hd;have h2:d.path=p:=by simpa using List.find?_some hd
 rw [←h2];exact (((zu1 S).1 ht).2.1 d h1).2
end Pl
end
section
open Go.RowKit
namespace Pl
abbrev Fq:=ByteArray→Option Nd
def zl7 (s:Sg):Option Nd:=if s.told=true then some s.node else none
def nsF {α:Type}:List Bool→List (α→Option Nd)→α→List (Option Nd)
 |a::ab,f::fs,p=>(if a then f p else none)::nsF ab fs p
 |_,_,_=>[]
def ze1 {α:Type} (fs:List (α→Option Nd)) (s:Sg) (ps:List α):Sg:=ps.foldl (fun s p=>decS (nsF s.have' fs p)) s
def zb0 (q:ByteArray):List ByteArray:=ways (names q) (names q).length
def fnsX:Fx→List Fq
 | .nil=>[]
 | .cons L k m=>(fun q=>if k.len=0 then lk L q else zl7 (ze1 (fnsX k) (zd6 k.len) (zb0 q)))::fnsX m
def fnX (L:List Nd) (k:Fx):Fq:=fun q=>if k.len=0 then lk L q else zl7 (ze1 (fnsX k) (zd6 k.len) (zb0 q))
theorem fns_cons (L:List Nd) (k m:Fx):fnsX (.cons L k m)=fnX L k::fnsX m:=rfl
theorem fn_leaf {L:List Nd} {k:Fx} (h:k.len=0) (q:ByteArray):fnX L k q=lk L q:=if_pos h
theorem fn_nest {L:List Nd} {k:Fx} (h:k.len≠0) (q:ByteArray):fnX L k q=zl7 (ze1 (fnsX k) (zd6 k.len) (zb0 q)):=if_neg h
def kid:Fx→Nat→Option (List Nd × Fx)
 | .nil,_=>none
 | .cons L k _,0=>some (L,k)
 | .cons _ _ m,i+1=>kid m i
theorem ya0 {F:Fx}:∀ {i:Nat},i<F.len→∃L k,kid F i=some (L,k):=by
 induction F with
 |nil=>intro i h;exact absurd h (Nat.not_lt_zero _)
 |cons L k m _ ih=>
  intro i h;cases i with
  |zero=>exact ⟨L,k,rfl⟩
  |succ i=>exact ih (i:=i) (by have :i+1<m.len+1:=h;omega)
theorem fns_len (F:Fx):(fnsX F).length=F.len:=by
 induction F with
 |nil=>rfl
 |cons L k m _ ih=>rw [fns_cons,List.length_cons,ih];rfl
theorem fns_get {F:Fx}:∀ {i:Nat} {L:List Nd} {k:Fx},kid F i=some (L,k)→(fnsX F)[i]? =some (fnX L k):=by
 induction F with
 |nil=>intro i L k h;cases h
 |cons L' k' m _ ih=>
  intro i L k h;cases i with
  |zero=>cases h;rfl
  |succ i=>rw [fns_cons,List.getElem?_cons_succ];exact ih (i:=i) h
theorem kid_ok {F:Fx}:∀ {i:Nat} {L:List Nd} {k:Fx},F.okX→kid F i=some (L,k)→zc7 L=true∧(k= .nil∨L=[])∧k.len≤4∧k.okX:=by
 induction F with
 |nil=>intro i L k _ h;cases h
 |cons L' k' m _ ih=>
  intro i L k ho h;cases i with
  |zero=>cases h;exact ⟨ho.1,ho.2.1,ho.2.2.1,ho.2.2.2.1⟩
  |succ i=>exact ih (i:=i) ho.2.2.2.2 h
theorem yc1 {F:Fx}:∀ {i:Nat} {L:List Nd} {k:Fx},kid F i=some (L,k)→k.shape.depth+1≤F.shape.depth:=by
 induction F with
 |nil=>intro i L k h;cases h
 |cons L' k' m _ ih=>
  intro i L k h;cases i with
  |zero=>cases h;simp only [Fx.shape,Fo.depth];omega
  |succ i=>have :=ih (i:=i) h;simp only [Fx.shape,Fo.depth];omega
theorem nsF_get {α:Type} (p:α):∀ (ab:List Bool) (fs:List (α→Option Nd)) (k:Nat) (a:Bool) (f:α→Option Nd),ab[k]? =some a→fs[k]? =some f→(nsF ab fs p)[k]? =some (if a then f p else none):=by
 intro ab
 induction ab with
 |nil=>intro fs k a f h;simp at h
 |cons x ab ih=>
  intro fs k a f h1 h2;cases fs with
  |nil=>simp at h2
  |cons g fs=>
   cases k with
   |zero=>simp at h1 h2;subst h1 h2;rfl
   |succ k=>simp at h1 h2;simpa [nsF] using ih fs k a f h1 h2
theorem nsF_len {α:Type} (p:α):∀ (ab:List Bool) (fs:List (α→Option Nd)),fs.length≤ab.length→(nsF ab fs p).length=fs.length:=by
 intro ab
 induction ab with
 |nil=>intro fs h;cases fs with |nil=>rfl |cons=>simp at h
 |cons x ab ih=>
  intro fs h;cases fs with
  |nil=>rfl
  |cons g fs=>simp [nsF];exact ih fs (by simpa using h)
theorem nsF_mem {α:Type} (p:α):∀ (ab:List Bool) (fs:List (α→Option Nd)) (n:Nd),some n∈nsF ab fs p→∃f∈fs,f p=some n:=by
 intro ab
 induction ab with
 |nil=>intro fs n h;simp [nsF] at h
 |cons a ab ih=>
  intro fs n h;cases fs with
  |nil=>simp [nsF] at h
  |cons f fs=>
   rw [nsF] at h
   rcases List.mem_cons.1 h with h|h
   ·cases a
    ·simp at h
    ·simp only [if_true] at h;exact ⟨f,List.mem_cons_self,h.symm⟩
   ·obtain ⟨g,hg,hn⟩:=ih fs n h;exact ⟨g,List.mem_cons_of_mem _ hg,hn⟩
theorem zn8 {α:Type} (fs:List (α→Option Nd)) (s:Sg) (ps:List α) (p:α):ze1 fs s (ps++[p])=decS (nsF (ze1 fs s ps).have' fs p):=by simp [ze1]
theorem walkF_len {α:Type} (fs:List (α→Option Nd)) (n:Nat) (ps:List α):(ze1 fs (zd6 n) ps).have'.length=4:=by
 rcases List.eq_nil_or_concat ps with rfl |⟨qs,q,rfl⟩
 ·rfl
 ·rw [List.concat_eq_append,zn8];exact dec_len _
def zx (f:Fq):Prop:=∀q n,za0 q=true→¬q.size=0→f q=some n→zb1 n=true∧n.path=q
theorem zs5 {q:ByteArray} (hz:¬q.size=0):∃ps,zb0 q=ps++[q]:=by
 obtain ⟨k,hk⟩:∃k,(names q).length=k+1:=⟨(names q).length - 1,by
  have :1≤(names q).length:=by unfold names;rw [if_neg hz];exact cut_pos q
  omega⟩
 refine ⟨ways (names q) k,?_⟩;rw [zb0,hk,yb4,List.take_of_length_le (by omega),zl0]
theorem ya2 {fs:List Fq} (hf:∀f∈fs,zx f) {q:ByteArray} (hq:za0 q=true) (hz:¬q.size=0) (ab:List Bool):zq5 q (nsF ab fs q):=fun n hn=>by
 obtain ⟨f,h1,h2⟩:=nsF_mem _ _ _ _ hn;exact hf f h1 q n hq hz h2
theorem yf5 {ns:List (Option Nd)} {q:ByteArray} (h:zq5 q ns) {n:Nd} (hn:zl7 (decS ns)=some n):zb1 n=true∧n.path=q:=by
 unfold zl7 at hn
 split at hn
 ·next ht=>cases hn;exact ⟨dec_node (fun m hm=>(h m hm).1) ht,dec_path (fun m hm=>(h m hm).2) ht⟩
 ·cases hn
theorem lk_right {L:List Nd} (h:zc7 L=true):zx (lk L):=fun q n _ _ hn=>by
 have hm:=List.mem_of_find?_eq_some hn;simp only [zc7,Bool.and_eq_true,decide_eq_true_eq] at h;exact ⟨goI_all L _ _ h.2 n hm,by simpa using List.find?_some hn⟩
theorem fns_right (F:Fx):F.okX→∀f∈fnsX F,zx f:=by
 induction F with
 |nil=>intro _ f h;cases h
 |cons L k m ihk ihm=>
  intro ho f hf;rw [fns_cons] at hf
  rcases List.mem_cons.1 hf with rfl |hf
  ·intro q n hq hz hn;by_cases hk:k.len=0
   ·rw [fn_leaf hk] at hn;exact lk_right ho.1 q n hq hz hn
   ·rw [fn_nest hk] at hn;obtain ⟨ps,hps⟩:=zs5 hz;rw [hps,zn8] at hn;exact yf5 (ya2 (ihk ho.2.2.2.1) hq hz _) hn
  ·exact ihm ho.2.2.2.2 f hf
theorem fn_right {L:List Nd} {k:Fx} (h1:zc7 L=true) (h2:k.okX):zx (fnX L k):=fun q n hq hz hn=>by
 by_cases hk:k.len=0
 ·rw [fn_leaf hk] at hn;exact lk_right h1 q n hq hz hn
 ·rw [fn_nest hk] at hn;obtain ⟨ps,hps⟩:=zs5 hz;rw [hps,zn8] at hn;exact yf5 (ya2 (fns_right k h2) hq hz _) hn
def askF (fs:List Fq) (ks:List Nat) (q:ByteArray):List (Nat × Option Nd):=ks.map (fun k=>(k,(fs.getD k (fun _=>none)) q))
def zd2 (fs:List Fq) (ks:List Nat) (q:ByteArray):Ot:=zc9 q zj3 0 (askF fs ks q)
def atF (fs:List Fq):List Nat→List ByteArray→Ot
 |_,[]=>zj3
 |ks,[q]=>if (zd2 fs ks q).ok=true then zd2 fs ks q else zj3
 |ks,q::q2::r=>if (zd2 fs ks q).ok=true∧(zd2 fs ks q).node.kind=1 then atF fs (zd2 fs ks q).parts (q2::r) else zj3
theorem askF_same {fs:List Fq} {ks:List Nat} {q:ByteArray} (h4:fs.length≤4) (hs:ks.Sublist (List.range fs.length)):(numb 0 (nsF (zb ks) fs q)).filter (fun x=>x.2.isSome)=(askF fs ks q).filter (fun x=>x.2.isSome):=by
 have hl:(nsF (zb ks) fs q).length=fs.length:=nsF_len q (zb ks) fs (by simpa [zb] using h4)
 have hget:∀i,i<fs.length→(nsF (zb ks) fs q).getD i none=if decide (i∈ks) then (fs.getD i (fun _=>none)) q else none:=fun i hi=>by
  have h1:(zb ks)[i]? =some (decide (i∈ks)):=by simp [zb,show i<4 by omega]
  have h2:fs[i]? =some (fs.getD i (fun _=>none)):=by simp [List.getD,hi]
  rw [List.getD,nsF_get q (zb ks) fs i _ _ h1 h2];rfl
 rw [numb_map,hl]
 have e:(List.range fs.length).map (fun i=>(0+i,(nsF (zb ks) fs q).getD i none))=(List.range fs.length).map (fun i=>(i,if decide (i∈ks) then (fs.getD i (fun _=>none)) q else none)):=by
  apply List.map_congr_left
  intro i hi;rw [hget i (List.mem_range.1 hi),Nat.zero_add]
 rw [e,askF]
 conv=>rhs;rw [←sub_filter hs (List.nodup_range)]
 exact filter_ask _ _ (fun i=>(fs.getD i (fun _=>none)) q)
theorem ye6 {fs:List Fq} {ks:List Nat} {q:ByteArray} (hs:ks.Sublist (List.range fs.length)):(zd2 fs ks q).parts.Sublist (List.range fs.length):=by
 obtain ⟨js,h1,h2⟩:=pick_sub q (askF fs ks q) zj3 0
 have e:(askF fs ks q).map Prod.fst=ks:=by
  unfold askF;rw [List.map_map];exact List.map_id' ks
 rw [e] at h1;unfold zd2
 rcases h2 with h2|h2
 ·rw [h2];exact h1.trans hs
 ·rw [h2];exact List.nil_sublist _
theorem yc7 {fs:List Fq} {ks:List Nat} {q:ByteArray} (h4:fs.length≤4) (hf:∀f∈fs,zx f) (hq:za0 q=true) (hz:¬q.size=0) (hs:ks.Sublist (List.range fs.length)):SameO (zd2 fs ks q) (decS (nsF (zb ks) fs q)):=by
 have h:=pick_dec (ya2 hf hq hz (zb ks)) (by rw [nsF_len q (zb ks) fs (by simpa [zb] using h4)];exact h4);rw [pick_skip,askF_same h4 hs,←pick_skip] at h;exact h
theorem decF_none (fs:List Fq) (q:ByteArray):decS (nsF (zb []) fs q)=Sg.zero:=by
 have h:∀ (ab:List Bool) (fs:List Fq) (k:Nat),(∀b∈ab,b=false)→goD k Sg.zero (nsF ab fs q)=Sg.zero:=by
  intro ab
  induction ab with
  |nil=>intro fs k _;rfl
  |cons a ab ih=>
   intro fs k hb;cases fs with
   |nil=>rfl
   |cons f fs=>
    have ha:=hb a List.mem_cons_self;subst ha;exact ih fs (k+1) (fun b h=>hb b (List.mem_cons_of_mem _ h))
 unfold decS;rw [h _ _ _ (by simp [zb])];rfl
theorem walkF_none (fs:List Fq):∀ (ps:List ByteArray) (s:Sg),s.have'=zb []→ps≠[]→ze1 fs s ps=Sg.zero:=by
 intro ps
 induction ps with
 |nil=>intro s _ h;exact absurd rfl h
 |cons q ps ih=>
  intro s hs _;show ze1 fs (decS (nsF s.have' fs q)) ps=Sg.zero;rw [hs,decF_none];by_cases hp:ps=[]
  ·subst hp;rfl
  ·exact ih _ rfl hp
theorem atF_same {fs:List Fq} (h4:fs.length≤4) (hf:∀f∈fs,zx f):∀ (ps:List ByteArray) (ks:List Nat) (s:Sg),(∀q∈ps,za0 q=true∧¬q.size=0)→ps≠[]→ks.Sublist (List.range fs.length)→s.have'=zb ks→
  (atF fs ks ps).ok=(ze1 fs s ps).told∧((atF fs ks ps).ok=true→(atF fs ks ps).node=(ze1 fs s ps).node)∧(ze1 fs s ps).have'=zb (atF fs ks ps).parts:=by
 intro ps
 induction ps with
 |nil=>intro ks s _ h;exact absurd rfl h
 |cons q ps ih=>
  intro ks s hps _ hs hh;have hc:=yc7 (q:=q) h4 hf (hps q List.mem_cons_self).1 (hps q List.mem_cons_self).2 hs;have e:ze1 fs s (q::ps)=ze1 fs (decS (nsF (zb ks) fs q)) ps:=by rw [←hh];rfl
  rw [e];cases ps with
  |nil=>
   show (if (zd2 fs ks q).ok=true then zd2 fs ks q else zj3).ok=(decS _).told∧_∧_;by_cases hk:(zd2 fs ks q).ok=true
   ·simp only [atF];rw [if_pos hk];exact ⟨hc.told,hc.node,hc.parts⟩
   ·simp only [atF];rw [if_neg hk]
    have h0:(zd2 fs ks q).parts=[]:=by
     by_cases hp:(zd2 fs ks q).parts=[]
     ·exact hp
     ·exact absurd (hc.dir hp).1 hk
    exact ⟨by rw [←hc.told];simp at hk;rw [hk];rfl,fun h=>(by cases h),by rw [show ze1 fs (decS (nsF (zb ks) fs q)) []=decS (nsF (zb ks) fs q) from rfl,hc.parts,h0];rfl⟩
  |cons q2 r=>
   simp only [atF];by_cases hk:(zd2 fs ks q).ok=true∧(zd2 fs ks q).node.kind=1
   ·rw [if_pos hk];exact ih (zd2 fs ks q).parts _ (fun x hx=>hps x (List.mem_cons_of_mem _ hx)) (by simp) (ye6 hs) hc.parts
   ·rw [if_neg hk]
    have h0:(zd2 fs ks q).parts=[]:=by
     by_cases hp:(zd2 fs ks q).parts=[]
     ·exact hp
     ·exact absurd (hc.dir hp) hk
    have hz:=walkF_none fs (q2::r) (decS (nsF (zb ks) fs q)) (by rw [hc.parts,h0]) (by simp);rw [hz];exact ⟨rfl,fun h=>(by cases h),rfl⟩
def stO (L:List Nd) (k:Fx) (q:ByteArray):Ot:=
 if k.len=0 then (match lk L q with |none=>zj3|some n=>⟨true,n,[]⟩) else atF (fnsX k) (List.range k.len) (zb0 q)
theorem zk8 {q:ByteArray} (hq:za0 q=true):∀p∈zb0 q,za0 p=true∧¬p.size=0:=by
 intro p hp;obtain ⟨i,hi,rfl⟩:=List.mem_map.1 hp;have hi':=List.mem_range.1 hi;have e:=(ze7 q);rw [zc5 hq] at e;have hn:∀t∈(names q).take (i+1),zc0 t=true:=zq6 e.1 _;have e2:=zk6 hn;refine ⟨ye4 hn (by rw [List.length_take];omega),fun h0=>?_⟩;have h3:names (glue ((names q).take (i+1)))=[]:=zp1 h0;rw [e2] at h3;have :=congrArg List.length h3;rw [List.length_take,List.length_nil] at this;omega
theorem rootF_parts {n:Nat} (h:n≤4):(zd6 n).have'=zb (List.range n):=by
 obtain rfl |rfl |rfl |rfl |rfl:n=0∨n=1∨n=2∨n=3∨n=4:=by omega
 all_goals decide
theorem st_fn {L:List Nd} {k:Fx} {q:ByteArray} (h4:k.len≤4) (hk:k.okX) (hq:za0 q=true) (hz:¬q.size=0):fnX L k q=if (stO L k q).ok=true then some (stO L k q).node else none:=by
 unfold stO;by_cases h0:k.len=0
 ·rw [fn_leaf h0,if_pos h0];cases lk L q <;> rfl
 ·rw [fn_nest h0,if_neg h0];obtain ⟨ps,hps⟩:=zs5 hz;obtain ⟨h1,h2, -⟩:=atF_same (fs:=fnsX k) (by rw [fns_len];exact h4) (fns_right k hk) (zb0 q) (List.range k.len) (zd6 k.len) (zk8 hq) (by rw [hps];simp) (by rw [fns_len];exact List.Sublist.refl _) (rootF_parts h4);unfold zl7;rw [←h1]
  split
  ·next ht=>rw [h2 ht]
  ·rfl
theorem st_none {L:List Nd} {k:Fx} {q:ByteArray} (h:(stO L k q).ok=false):stO L k q=zj3:=by
 unfold stO at h ⊢
 split at h
 ·next hk=>rw [if_pos hk];split at h <;> first |rfl |cases h
 ·next hk=>
  rw [if_neg hk];generalize zb0 q=ps at h ⊢;generalize List.range k.len=ks at h ⊢
  induction ps generalizing ks with
  |nil=>rfl
  |cons q ps ih=>
   cases ps with
   |nil=>
    simp only [atF] at h ⊢
    split at h
    ·next ht=>rw [ht] at h;cases h
    ·next ht=>rw [if_neg ht]
   |cons q2 r=>
    simp only [atF] at h ⊢
    split at h
    ·next ht=>rw [if_pos ht];exact ih _ h
    ·next ht=>rw [if_neg ht]
end Pl
end
section
open Go.RowKit
namespace Pl
def hist (h:List ByteArray):List (List ByteArray):=(List.range h.length).map (fun i=>h.take (i+1))
theorem hist_nil:hist []=[]:=rfl
theorem yc3 (h:List ByteArray) (q:ByteArray):hist (h++[q])=hist h++[h++[q]]:=by
 unfold hist;rw [List.length_append,List.length_singleton,List.range_succ,List.map_append]
 congr 1
 ·apply List.map_congr_left
  intro i hi;rw [List.take_append_of_le_length (by have :=List.mem_range.1 hi;omega)]
 ·simp [List.take_of_length_le]
def fnsH:Fx→List (List ByteArray→Option Nd)
 | .nil=>[]
 | .cons L k m=>(fun h=>if k.len=0 then lk L (h.getLastD ⟨#[]⟩) else zl7 (ze1 (fnsH k) (zd6 k.len) (hist h)))::fnsH m
def fnH (L:List Nd) (k:Fx):List ByteArray→Option Nd:=fun h=>if k.len=0 then lk L (h.getLastD ⟨#[]⟩) else zl7 (ze1 (fnsH k) (zd6 k.len) (hist h))
theorem fnsH_cons (L:List Nd) (k m:Fx):fnsH (.cons L k m)=fnH L k::fnsH m:=rfl
theorem fnH_leaf {L:List Nd} {k:Fx} (h0:k.len=0) (h:List ByteArray) (q:ByteArray):fnH L k (h++[q])=lk L q:=by
 unfold fnH;rw [if_pos h0];simp
theorem fnH_nest {L:List Nd} {k:Fx} (h0:k.len≠0) (h:List ByteArray):fnH L k h=zl7 (ze1 (fnsH k) (zd6 k.len) (hist h)):=if_neg h0
theorem fnsH_len (F:Fx):(fnsH F).length=F.len:=by
 induction F with
 |nil=>rfl
 |cons L k m _ ih=>rw [fnsH_cons,List.length_cons,ih];rfl
theorem fnsH_get {F:Fx}:∀ {i:Nat} {L:List Nd} {k:Fx},kid F i=some (L,k)→(fnsH F)[i]? =some (fnH L k):=by
 induction F with
 |nil=>intro i L k h;cases h
 |cons L' k' m _ ih=>
  intro i L k h;cases i with
  |zero=>cases h;rfl
  |succ i=>rw [fnsH_cons,List.getElem?_cons_succ];exact ih (i:=i) h
theorem mark_of {n:Nd} (h:zb1 n=true):0≤n.mark∧n.mark≤8:=by
 simp only [zb1,Bool.and_eq_true,decide_eq_true_eq] at h;omega
theorem go_mark:∀ (ns:List (Option Nd)) (k:Nat) (s:Sg),(0≤s.node.mark∧s.node.mark≤8)→(∀n,some n∈ns→0≤n.mark∧n.mark≤8)→0≤(goD k s ns).node.mark∧(goD k s ns).node.mark≤8:=by
 intro ns
 induction ns with
 |nil=>intro k s h _;exact h
 |cons y ns ih=>
  intro k s h hn;cases y with
  |none=>exact ih _ _ h (fun n hm=>hn n (List.mem_cons_of_mem _ hm))
  |some n=>
   have h2:=take_mark (k:=k) h (hn n List.mem_cons_self);rw [goD]
   split
   ·exact h2
   ·exact ih _ _ h2 (fun n hm=>hn n (List.mem_cons_of_mem _ hm))
theorem dec_mark {ns:List (Option Nd)} (hn:∀n,some n∈ns→0≤n.mark∧n.mark≤8):0≤(decS ns).node.mark∧(decS ns).node.mark≤8:=by
 have h:=go_mark ns 0 Sg.zero (by decide) hn;unfold decS upS
 split
 ·decide
 ·dsimp only;omega
theorem fnsH_mark (F:Fx):F.okX→∀f∈fnsH F,∀h m,f h=some m→0≤m.mark∧m.mark≤8:=by
 induction F with
 |nil=>intro _ f h;cases h
 |cons L k m ihk ihm=>
  intro ho f hf;rw [fnsH_cons] at hf
  rcases List.mem_cons.1 hf with rfl |hf
  ·intro h n hn;by_cases hk:k.len=0
   ·unfold fnH at hn;rw [if_pos hk] at hn;have hm:=List.mem_of_find?_eq_some hn;have ht:=ho.1;simp only [zc7,Bool.and_eq_true,decide_eq_true_eq] at ht;exact mark_of (goI_all L _ _ ht.2 n hm)
   ·rw [fnH_nest hk] at hn;unfold zl7 at hn
    split at hn
    ·cases hn
     rcases List.eq_nil_or_concat h with rfl |⟨h',q,rfl⟩
     ·rw [hist_nil];exact ⟨Int.le_refl _,(by decide :(0:Int)≤8)⟩
     ·rw [List.concat_eq_append,yc3,zn8]
      exact dec_mark (fun n hn=>by
       obtain ⟨g,hg,e⟩:=nsF_mem _ _ _ _ hn
       exact ihk ho.2.2.2.1 g hg _ n e)
    ·cases hn
  ·exact ihm ho.2.2.2.2 f hf
theorem zt3 {q:ByteArray} (hq:za0 q=true) {i:Nat} (hi:i<(zb0 q).length):zb0 (glue ((names q).take (i+1)))=(zb0 q).take (i+1):=by
 have e:=(ze7 q);rw [zc5 hq] at e;have hn:∀t∈(names q).take (i+1),zc0 t=true:=zq6 e.1 _;have e2:=zk6 hn;have hl:(zb0 q).length=(names q).length:=zm _ _;unfold zb0;rw [e2];unfold ways;rw [List.length_take,Nat.min_eq_left (by omega),←List.map_take,List.take_range,Nat.min_eq_left (by omega)]
 apply List.map_congr_left
 intro j hj;have :=List.mem_range.1 hj;rw [List.take_take,Nat.min_eq_left (by omega)]
theorem zv1 {q:ByteArray} {i:Nat} (hi:i<(zb0 q).length):(zb0 q)[i]? =some (glue ((names q).take (i+1))):=by
 have hl:(zb0 q).length=(names q).length:=zm _ _;unfold zb0 ways;rw [List.getElem?_map,List.getElem?_range (by omega)];rfl
theorem hist_ways {q:ByteArray} (hq:za0 q=true):hist (zb0 q)=(zb0 q).map zb0:=by
 apply List.ext_getElem?
 intro i;by_cases hi:i<(zb0 q).length
 ·unfold hist;rw [List.getElem?_map,List.getElem?_map,List.getElem?_range hi,zv1 hi];simp only [Option.map_some];rw [zt3 hq hi]
 ·rw [List.getElem?_eq_none (by unfold hist;simp;omega),List.getElem?_eq_none (by simp;omega)]
theorem nsF_hist {fs:List Fq} {gs:List (List ByteArray→Option Nd)} {q:ByteArray} (h:∀ (i:Nat) (f:Fq) (g:List ByteArray→Option Nd),fs[i]? =some f→gs[i]? =some g→g (zb0 q)=f q):∀ (ab:List Bool),fs.length=gs.length→nsF ab gs (zb0 q)=nsF ab fs q:=by
 intro ab
 induction ab generalizing fs gs with
 |nil=>intro _;rfl
 |cons a ab ih=>
  intro hl;cases fs with
  |nil=>cases gs with
   |nil=>rfl
   |cons=>simp at hl
  |cons f fs=>cases gs with
   |nil=>simp at hl
   |cons g gs=>
    show (if a then g (zb0 q) else none)::nsF ab gs (zb0 q)=(if a then f q else none)::nsF ab fs q;rw [h 0 f g rfl rfl,ih (fun i f g h1 h2=>h (i+1) f g h1 h2) (by simpa using hl)]
theorem walkF_hist {fs:List Fq} {gs:List (List ByteArray→Option Nd)} (hl:fs.length=gs.length):∀ (ps:List ByteArray) (s:Sg),(∀q∈ps,∀ (i:Nat) (f:Fq) (g:List ByteArray→Option Nd),fs[i]? =some f→gs[i]? =some g→g (zb0 q)=f q)→ze1 gs s (ps.map zb0)=ze1 fs s ps:=by
 intro ps
 induction ps with
 |nil=>intro s _;rfl
 |cons q ps ih=>
  intro s h;show ze1 gs (decS (nsF s.have' gs (zb0 q))) (ps.map zb0)=ze1 fs (decS (nsF s.have' fs q)) ps;rw [nsF_hist (h q List.mem_cons_self) _ hl];exact ih _ (fun x hx=>h x (List.mem_cons_of_mem _ hx))
theorem fnsH_ways (F:Fx):∀q,za0 q=true→¬q.size=0→∀ (i:Nat) (f:Fq) (g:List ByteArray→Option Nd),(fnsX F)[i]? =some f→(fnsH F)[i]? =some g→g (zb0 q)=f q:=by
 induction F with
 |nil=>intro q _ _ i f g h;cases i <;> cases h
 |cons L k m ihk ihm=>
  intro q hq hz i f g h1 h2;cases i with
  |zero=>
   rw [fns_cons] at h1;rw [fnsH_cons] at h2;cases h1
   cases h2
   by_cases hk:k.len=0
   ·rw [fn_leaf hk];obtain ⟨ps,hps⟩:=zs5 hz;rw [hps,fnH_leaf hk]
   ·rw [fn_nest hk,fnH_nest hk,hist_ways hq,walkF_hist (by rw [fns_len,fnsH_len]) (zb0 q) (zd6 k.len) (fun x hx=>ihk x (zk8 hq x hx).1 (zk8 hq x hx).2)]
  |succ i=>exact ihm q hq hz i f g h1 h2
theorem fnH_ways (L:List Nd) (k:Fx) {q:ByteArray} (hq:za0 q=true) (hz:¬q.size=0):fnH L k (zb0 q)=fnX L k q:=
 fnsH_ways (.cons L k .nil) q hq hz 0 _ _ rfl rfl
end Pl
end
section
open Go.RowKit
namespace Pl
def noMark (n:Nd):Nd:=⟨n.path,n.kind,n.data,n.time,0⟩
def zf2 (L:List Nd) (k:Fx) (q:ByteArray):Option Nd:=
 match fnX L k q with
 |none=>none
 |some n=>if n.kind=0 then none else some (noMark n)
theorem atF_up (fs:List Fq):∀ (ps:List ByteArray) (ks:List Nat) (q:ByteArray) (r:List ByteArray),ps≠[]→(atF fs ks (ps++q::r)).ok=true→(atF fs ks ps).ok=true∧(atF fs ks ps).node.kind=1:=by
 intro ps
 induction ps with
 |nil=>intro ks q r h;exact absurd rfl h
 |cons p ps ih=>
  intro ks q r _ h;cases ps with
  |nil=>
   simp only [List.cons_append,List.nil_append,atF] at h ⊢
   split at h
   ·next hc=>rw [if_pos hc.1];exact hc
   ·cases h
  |cons p2 ps=>
   simp only [List.cons_append,atF] at h ⊢
   split at h
   ·next hc=>rw [if_pos hc];exact ih _ q r (by simp) h
   ·cases h
theorem fn_up {L:List Nd} {k:Fx} (ht:zc7 L=true) (h4:k.len≤4) (hk:k.okX) {q:ByteArray} (hq:za0 q=true) (hz:¬q.size=0) {n:Nd} (h:fnX L k q=some n):∀i,i+1<(zb0 q).length→∃d,fnX L k (glue ((names q).take (i+1)))=some d∧d.kind=1:=by
 intro i hi;have hl:(zb0 q).length=(names q).length:=zm _ _;have hmem:glue ((names q).take (i+1))∈zb0 q:=List.mem_of_getElem? (zv1 (show i<(zb0 q).length by omega));obtain ⟨hq',hz'⟩:=zk8 hq _ hmem;by_cases h0:k.len=0
 ·rw [fn_leaf h0] at h;obtain ⟨d,h1,h2, -⟩:=way_K ht hq (dir_found ht ⟨n,h⟩) _ (List.mem_map.2 ⟨i,List.mem_range.2 (by omega),rfl⟩);exact ⟨d,by rw [fn_leaf h0];exact h1,h2⟩
 ·rw [st_fn h4 hk hq hz] at h;rw [st_fn h4 hk hq' hz']
  split at h
  ·next hok=>
   unfold stO at hok ⊢;rw [if_neg h0] at hok ⊢;have e:=zt3 hq (show i<(zb0 q).length by omega)
   have hsp:zb0 q=zb0 (glue ((names q).take (i+1)))++(zb0 q)[i+1]::(zb0 q).drop (i+2):=by
    rw [e]
    conv=>lhs;rw [←List.take_append_drop (i+1) (zb0 q),List.drop_eq_getElem_cons hi]
   rw [hsp] at hok;obtain ⟨h1,h2⟩:=atF_up (fnsX k) _ _ _ _ (by rw [e];intro e2;have :=congrArg List.length e2;rw [List.length_take,List.length_nil] at this;omega) hok;rw [if_pos h1];exact ⟨_,rfl,h2⟩
  ·cases h
theorem walk_stop {L:List Nd} {k:Fx} (ht:zc7 L=true) (h4:k.len≤4) (hk:k.okX) {q:ByteArray} (hq:za0 q=true) (hz:¬q.size=0) {i:Nat} (hi:i<(zb0 q).length) (s:Option Nd) (hs:fnX L k (glue ((names q).take (i+1)))=s) (b:Bool)
  (hb:(s=none∧b=false)∨(∃n,s=some n∧n.kind=0∧b=false)∨(∃n,s=some n∧n.kind=2∧b=decide (glue ((names q).take (i+1))=q))):zf2 L k q=if b then some (noMark (s.getD za3)) else none:=by
 have hl:(zb0 q).length=(names q).length:=zm _ _;by_cases he:i+1<(zb0 q).length
 ·have hno:b=false→zf2 L k q=if b then some (noMark (s.getD za3)) else none:=fun e=>by
   rw [e];unfold zf2;cases h:fnX L k q with
   |none=>rfl
   |some n=>
    exfalso;obtain ⟨d,h1,h2⟩:=fn_up ht h4 hk hq hz h i he;rw [hs] at h1;subst e
    rcases hb with ⟨h3, -⟩|⟨m,h3,h5, -⟩|⟨m,h3,h5, -⟩
    ·rw [h3] at h1;cases h1
    ·rw [h3] at h1;cases h1;omega
    ·rw [h3] at h1;cases h1;omega
  apply hno
  rcases hb with ⟨-,h3⟩|⟨m, -, -,h3⟩|⟨m, -, -,h3⟩
  ·exact h3
  ·exact h3
  ·rw [h3]
   apply decide_eq_false
   intro e;have e2:=zt3 hq hi;rw [e] at e2;have :=congrArg List.length e2;rw [List.length_take] at this;omega
 ·have e:glue ((names q).take (i+1))=q:=by rw [List.take_of_length_le (by omega),zl0]
  rw [e] at hs hb;unfold zf2;rw [hs]
  rcases hb with ⟨rfl,rfl⟩|⟨m,rfl,h5,rfl⟩|⟨m,rfl,h5,rfl⟩
  ·rfl
  ·simp [h5]
  ·simp [h5]
theorem walk_done {L:List Nd} {k:Fx} {q:ByteArray} {n:Nd} (h:fnX L k q=some n) (h0:n.kind≠0):zf2 L k q=some (noMark n):=by
 unfold zf2;rw [h];simp [h0]
theorem walkO_root {L:List Nd} {k:Fx} (ht:zc7 L=true) {q:ByteArray} (hz:q.size=0):zf2 L k q=none:=by
 unfold zf2
 have h:fnX L k q=none:=by
  by_cases h0:k.len=0
  ·rw [fn_leaf h0];cases h:lk L q with
   |none=>rfl
   |some n=>
    exfalso;have h1:=List.mem_of_find?_eq_some h;have h2:n.path=q:=by simpa using List.find?_some h
    have h3:=(((zu1 L).1 ht).2.1 n h1).1;rw [yb1 (by rw [h2];exact hz)] at h3;cases h3
  ·rw [fn_nest h0,zb0,zp1 hz];rfl
 rw [h]
end Pl
end
section
namespace Pl
def zi (R:List (Int × List Nd)) (q:ByteArray):Option Nd:=match nestX R with
 |none=>none
 |some x=>zf2 x.1 x.2 q
def sightW (o:Option (List (Int × List Nd))) (q:ByteArray):Option Nd:=match o with
 |none=>none
 |some R=>zi R q
theorem instI_get:∀ {l:List Int} {d:Int} {k:Nat},zc6 l d=(k:Int)→l[k]? =some d:=by
 intro l
 induction l with
 |nil=>intro d k h;simp [zc6] at h
 |cons x r ih=>
  intro d k h;rw [zc6] at h;by_cases e:x=d
  ·rw [if_pos e] at h;obtain rfl:k=0:=by omega
   rw [e];rfl
  ·rw [if_neg e] at h;by_cases h2:zc6 r d<0
   ·rw [if_pos h2] at h;omega
   ·rw [if_neg h2] at h;obtain ⟨j,rfl⟩:∃j,k=j+1:=⟨k - 1,by omega⟩;rw [List.getElem?_cons_succ];exact ih (by omega)
end Pl
end
end Go.Proofs.YtgdjjncmocppeaaGreatDoor
