/- Several texts of one claim in one file: PlainDirs, PlainState, PlainHist, PlainWalk, PlainOpen, PlainWalkR. -/
import Derived.Test.YtbomeifgfalmdaaGreatDoorG11
import Derived.Test.YtbomeifgfalmdaaGreatDoorG01
import Derived.Test.YtbomeifgfalmdaaGreatDoorWRootS
namespace Go.Proofs.YtbomeifgfalmdaaGreatDoor
section
namespace Pl
theorem zs1 {s:ByteArray} (h:s.size=0):names s=[]:=by
 have e:s=⟨#[]⟩:=by
  apply ze4
  rw [zf5.2 h];rfl
 rw [e];rfl
theorem glue_pos {L:List ByteArray} (h:∀t∈L,zb8 t=true) (hl:L≠[]):¬ (glue L).size=0:=fun e=>by
 have h2:=zn0 h;rw [zs1 e] at h2;exact hl h2.symm
theorem way_dirs {S:List Nd} (ht:zc7 S=true) {p:ByteArray} (hp:za0 p=true) (hd:dirS S (parent p)=true):∀ (j k:Nat),k+j=(names p).length - 1→dirS S (glue ((names p).take k))=true:=by
 have hall:=zp1 hp;intro j
 induction j with
 |zero=>
  intro k hk;rw [zu0,List.dropLast_eq_take] at hd;rw [show k=(names p).length - 1 by omega];exact hd
 |succ j ih=>
  intro k hk;have h1:=ih (k+1) (by omega);rw [dirS_iff ((zr1 S).1 ht).2.2] at h1
  rcases h1 with h1|⟨m,hm,e, -⟩
  ·exact absurd h1 (glue_pos (zt9 hall.1 _) (fun e3=>by have :=congrArg List.length e3;rw [List.length_take,List.length_nil] at this;omega))
  ·have h2:=(((zr1 S).1 ht).2.1 m hm).2;rw [zu0,e,zn0 (zt9 hall.1 _)] at h2;have e2:((names p).take (k+1)).dropLast=(names p).take k:=by rw [List.dropLast_eq_take,List.length_take,Nat.min_eq_left (by omega),List.take_take];congr 1;omega
   rw [e2] at h2;exact h2
theorem way_K {S:List Nd} (ht:zc7 S=true) {p:ByteArray} (hp:za0 p=true) (hd:dirS S (parent p)=true):∀q∈ways (names p) ((names p).length - 1),∃d,lk S q=some d∧d.kind=1∧d.data.size=0:=by
 intro q hq;obtain ⟨i,hi,rfl⟩:=List.mem_map.1 hq;have hi:=List.mem_range.1 hi;have h1:=way_dirs ht hp hd ((names p).length - 1 - (i+1)) (i+1) (by omega);have h0:¬ (glue ((names p).take (i+1))).size=0:=glue_pos (zt9 (zp1 hp).1 _) (fun e3=>by have :=congrArg List.length e3;rw [List.length_take,List.length_nil] at this;omega);unfold dirS at h1;simp only [h0,decide_false,Bool.false_or] at h1;cases hf:S.find? (fun m=>decide (m.path=glue ((names p).take (i+1)))) with
 |none=>rw [hf] at h1;cases h1
 |some d=>
  rw [hf] at h1;have hk:d.kind=1:=of_decide_eq_true h1;refine ⟨d,hf,hk,?_⟩;have h2:=(((zr1 S).1 ht).2.1 d (List.mem_of_find?_eq_some hf)).1
  have h3:zj0 d=true:=by
   unfold zb6 at h2;simp only [Bool.and_eq_true] at h2;exact h2.2
  unfold zj0 at h3;rw [if_neg (by rw [hk];decide),if_pos hk] at h3;exact of_decide_eq_true h3
theorem dir_found {S:List Nd} (ht:zc7 S=true) {p:ByteArray} (h:∃d,lk S p=some d):dirS S (parent p)=true:=by
 obtain ⟨d,hd⟩:=h;have h1:=List.mem_of_find?_eq_some hd;have h2:d.path=p:=by simpa using List.find?_some hd
 rw [←h2];exact (((zr1 S).1 ht).2.1 d h1).2
end Pl
end
section
open Go.RowKit
namespace Pl
abbrev Fq:=ByteArray→Option Nd
def zn7 (s:Sg):Option Nd:=if s.told=true then some s.node else none
def nsF {α:Type}:List Bool→List (α→Option Nd)→α→List (Option Nd)
 |a::ab,f::fs,p=>(if a then f p else none)::nsF ab fs p
 |_,_,_=>[]
def zf4 {α:Type} (fs:List (α→Option Nd)) (s:Sg) (ps:List α):Sg:=ps.foldl (fun s p=>decS (nsF s.have' fs p)) s
def zb3 (q:ByteArray):List ByteArray:=ways (names q) (names q).length
def fnsX:Fx→List Fq
 | .nil=>[]
 | .cons L k m=>(fun q=>if k.len=0 then lk L q else zn7 (zf4 (fnsX k) (ze9 k.len) (zb3 q)))::fnsX m
def fnX (L:List Nd) (k:Fx):Fq:=fun q=>if k.len=0 then lk L q else zn7 (zf4 (fnsX k) (ze9 k.len) (zb3 q))
theorem fns_cons (L:List Nd) (k m:Fx):fnsX (.cons L k m)=fnX L k::fnsX m:=rfl
theorem fn_leaf {L:List Nd} {k:Fx} (h:k.len=0) (q:ByteArray):fnX L k q=lk L q:=if_pos h
theorem fn_nest {L:List Nd} {k:Fx} (h:k.len≠0) (q:ByteArray):fnX L k q=zn7 (zf4 (fnsX k) (ze9 k.len) (zb3 q)):=if_neg h
def kid:Fx→Nat→Option (List Nd × Fx)
 | .nil,_=>none
 | .cons L k _,0=>some (L,k)
 | .cons _ _ m,i+1=>kid m i
theorem yd1 {F:Fx}:∀ {i:Nat},i<F.len→∃L k,kid F i=some (L,k):=by
 induction F with
 |nil=>intro i h;exact absurd h (Nat.not_lt_zero _)
 |cons L k m _ ih=>
  intro i h;cases i with
  |zero=>exact ⟨L,k,rfl⟩
  |succ i=>exact ih (i:=i) (by have :i+1<m.len+1:=h;omega)
theorem fns_len (F:Fx):(fnsX F).length=F.len:=by
 induction F with
 |nil=>rfl
 |cons L k m _ ih=>rw [fns_cons,List.length_cons,ih];rfl
theorem fns_get {F:Fx}:∀ {i:Nat} {L:List Nd} {k:Fx},kid F i=some (L,k)→(fnsX F)[i]? =some (fnX L k):=by
 induction F with
 |nil=>intro i L k h;cases h
 |cons L' k' m _ ih=>
  intro i L k h;cases i with
  |zero=>cases h;rfl
  |succ i=>rw [fns_cons,List.getElem?_cons_succ];exact ih (i:=i) h
theorem kid_ok {F:Fx}:∀ {i:Nat} {L:List Nd} {k:Fx},F.okX→kid F i=some (L,k)→zc7 L=true∧(k= .nil∨L=[])∧k.len≤4∧k.okX:=by
 induction F with
 |nil=>intro i L k _ h;cases h
 |cons L' k' m _ ih=>
  intro i L k ho h;cases i with
  |zero=>cases h;exact ⟨ho.1,ho.2.1,ho.2.2.1,ho.2.2.2.1⟩
  |succ i=>exact ih (i:=i) ho.2.2.2.2 h
theorem ye8 {F:Fx}:∀ {i:Nat} {L:List Nd} {k:Fx},kid F i=some (L,k)→k.shape.depth+1≤F.shape.depth:=by
 induction F with
 |nil=>intro i L k h;cases h
 |cons L' k' m _ ih=>
  intro i L k h;cases i with
  |zero=>cases h;simp only [Fx.shape,Fo.depth];omega
  |succ i=>have :=ih (i:=i) h;simp only [Fx.shape,Fo.depth];omega
theorem nsF_get {α:Type} (p:α):∀ (ab:List Bool) (fs:List (α→Option Nd)) (k:Nat) (a:Bool) (f:α→Option Nd),ab[k]? =some a→fs[k]? =some f→(nsF ab fs p)[k]? =some (if a then f p else none):=by
 intro ab
 induction ab with
 |nil=>intro fs k a f h;simp at h
 |cons x ab ih=>
  intro fs k a f h1 h2;cases fs with
  |nil=>simp at h2
  |cons g fs=>
   cases k with
   |zero=>simp at h1 h2;subst h1 h2;rfl
   |succ k=>simp at h1 h2;simpa [nsF] using ih fs k a f h1 h2
theorem nsF_len {α:Type} (p:α):∀ (ab:List Bool) (fs:List (α→Option Nd)),fs.length≤ab.length→(nsF ab fs p).length=fs.length:=by
 intro ab
 induction ab with
 |nil=>intro fs h;cases fs with |nil=>rfl |cons=>simp at h
 |cons x ab ih=>
  intro fs h;cases fs with
  |nil=>rfl
  |cons g fs=>simp [nsF];exact ih fs (by simpa using h)
theorem nsF_mem {α:Type} (p:α):∀ (ab:List Bool) (fs:List (α→Option Nd)) (n:Nd),some n∈nsF ab fs p→∃f∈fs,f p=some n:=by
 intro ab
 induction ab with
 |nil=>intro fs n h;simp [nsF] at h
 |cons a ab ih=>
  intro fs n h;cases fs with
  |nil=>simp [nsF] at h
  |cons f fs=>
   rw [nsF] at h
   rcases List.mem_cons.1 h with h|h
   ·cases a
    ·simp at h
    ·simp only [if_true] at h;exact ⟨f,List.mem_cons_self,h.symm⟩
   ·obtain ⟨g,hg,hn⟩:=ih fs n h;exact ⟨g,List.mem_cons_of_mem _ hg,hn⟩
theorem zp8 {α:Type} (fs:List (α→Option Nd)) (s:Sg) (ps:List α) (p:α):zf4 fs s (ps++[p])=decS (nsF (zf4 fs s ps).have' fs p):=by simp [zf4]
theorem walkF_len {α:Type} (fs:List (α→Option Nd)) (n:Nat) (ps:List α):(zf4 fs (ze9 n) ps).have'.length=4:=by
 rcases List.eq_nil_or_concat ps with rfl |⟨qs,q,rfl⟩
 ·rfl
 ·rw [List.concat_eq_append,zp8];exact dec_len _
def zz7 (f:Fq):Prop:=∀q n,za0 q=true→¬q.size=0→f q=some n→zb6 n=true∧n.path=q
theorem zv9 {q:ByteArray} (hz:¬q.size=0):∃ps,zb3 q=ps++[q]:=by
 obtain ⟨k,hk⟩:∃k,(names q).length=k+1:=⟨(names q).length - 1,by
  have :1≤(names q).length:=by unfold names;rw [if_neg hz];exact cut_pos q
  omega⟩
 refine ⟨ways (names q) k,?_⟩;rw [zb3,hk,yg,List.take_of_length_le (by omega),zj2]
theorem yc2 {fs:List Fq} (hf:∀f∈fs,zz7 f) {q:ByteArray} (hq:za0 q=true) (hz:¬q.size=0) (ab:List Bool):zt4 q (nsF ab fs q):=fun n hn=>by
 obtain ⟨f,h1,h2⟩:=nsF_mem _ _ _ _ hn;exact hf f h1 q n hq hz h2
theorem yj2 {ns:List (Option Nd)} {q:ByteArray} (h:zt4 q ns) {n:Nd} (hn:zn7 (decS ns)=some n):zb6 n=true∧n.path=q:=by
 unfold zn7 at hn
 split at hn
 ·next ht=>cases hn;exact ⟨dec_node (fun m hm=>(h m hm).1) ht,dec_path (fun m hm=>(h m hm).2) ht⟩
 ·cases hn
theorem lk_right {L:List Nd} (h:zc7 L=true):zz7 (lk L):=fun q n _ _ hn=>by
 have hm:=List.mem_of_find?_eq_some hn;simp only [zc7,Bool.and_eq_true,decide_eq_true_eq] at h;exact ⟨goI_all L _ _ h.2 n hm,by simpa using List.find?_some hn⟩
theorem fns_right (F:Fx):F.okX→∀f∈fnsX F,zz7 f:=by
 induction F with
 |nil=>intro _ f h;cases h
 |cons L k m ihk ihm=>
  intro ho f hf;rw [fns_cons] at hf
  rcases List.mem_cons.1 hf with rfl |hf
  ·intro q n hq hz hn;by_cases hk:k.len=0
   ·rw [fn_leaf hk] at hn;exact lk_right ho.1 q n hq hz hn
   ·rw [fn_nest hk] at hn;obtain ⟨ps,hps⟩:=zv9 hz;rw [hps,zp8] at hn;exact yj2 (yc2 (ihk ho.2.2.2.1) hq hz _) hn
  ·exact ihm ho.2.2.2.2 f hf
theorem fn_right {L:List Nd} {k:Fx} (h1:zc7 L=true) (h2:k.okX):zz7 (fnX L k):=fun q n hq hz hn=>by
 by_cases hk:k.len=0
 ·rw [fn_leaf hk] at hn;exact lk_right h1 q n hq hz hn
 ·rw [fn_nest hk] at hn;obtain ⟨ps,hps⟩:=zv9 hz;rw [hps,zp8] at hn;exact yj2 (yc2 (fns_right k h2) hq hz _) hn
def askF (fs:List Fq) (ks:List Nat) (q:ByteArray):List (Nat × Option Nd):=ks.map (fun k=>(k,(fs.getD k (fun _=>none)) q))
def ze0 (fs:List Fq) (ks:List Nat) (q:ByteArray):Ot:=zd8 q zk5 0 (askF fs ks q)
def atF (fs:List Fq):List Nat→List ByteArray→Ot
 |_,[]=>zk5
 |ks,[q]=>if (ze0 fs ks q).ok=true then ze0 fs ks q else zk5
 |ks,q::q2::r=>if (ze0 fs ks q).ok=true∧(ze0 fs ks q).node.kind=1 then atF fs (ze0 fs ks q).parts (q2::r) else zk5
theorem askF_same {fs:List Fq} {ks:List Nat} {q:ByteArray} (h4:fs.length≤4) (hs:ks.Sublist (List.range fs.length)):(numb 0 (nsF (zb5 ks) fs q)).filter (fun x=>x.2.isSome)=(askF fs ks q).filter (fun x=>x.2.isSome):=by
 have hl:(nsF (zb5 ks) fs q).length=fs.length:=nsF_len q (zb5 ks) fs (by simpa [zb5] using h4)
 have hget:∀i,i<fs.length→(nsF (zb5 ks) fs q).getD i none=if decide (i∈ks) then (fs.getD i (fun _=>none)) q else none:=fun i hi=>by
  have h1:(zb5 ks)[i]? =some (decide (i∈ks)):=by simp [zb5,show i<4 by omega]
  have h2:fs[i]? =some (fs.getD i (fun _=>none)):=by simp [List.getD,hi]
  rw [List.getD,nsF_get q (zb5 ks) fs i _ _ h1 h2];rfl
 rw [numb_map,hl]
 have e:(List.range fs.length).map (fun i=>(0+i,(nsF (zb5 ks) fs q).getD i none))=(List.range fs.length).map (fun i=>(i,if decide (i∈ks) then (fs.getD i (fun _=>none)) q else none)):=by
  apply List.map_congr_left
  intro i hi;rw [hget i (List.mem_range.1 hi),Nat.zero_add]
 rw [e,askF]
 conv=>rhs;rw [←sub_filter hs (List.nodup_range)]
 exact filter_ask _ _ (fun i=>(fs.getD i (fun _=>none)) q)
theorem yk2 {fs:List Fq} {ks:List Nat} {q:ByteArray} (hs:ks.Sublist (List.range fs.length)):(ze0 fs ks q).parts.Sublist (List.range fs.length):=by
 obtain ⟨js,h1,h2⟩:=pick_sub q (askF fs ks q) zk5 0
 have e:(askF fs ks q).map Prod.fst=ks:=by
  unfold askF;rw [List.map_map];exact List.map_id' ks
 rw [e] at h1;unfold ze0
 rcases h2 with h2|h2
 ·rw [h2];exact h1.trans hs
 ·rw [h2];exact List.nil_sublist _
theorem yg5 {fs:List Fq} {ks:List Nat} {q:ByteArray} (h4:fs.length≤4) (hf:∀f∈fs,zz7 f) (hq:za0 q=true) (hz:¬q.size=0) (hs:ks.Sublist (List.range fs.length)):SameO (ze0 fs ks q) (decS (nsF (zb5 ks) fs q)):=by
 have h:=pick_dec (yc2 hf hq hz (zb5 ks)) (by rw [nsF_len q (zb5 ks) fs (by simpa [zb5] using h4)];exact h4);rw [pick_skip,askF_same h4 hs,←pick_skip] at h;exact h
theorem decF_none (fs:List Fq) (q:ByteArray):decS (nsF (zb5 []) fs q)=Sg.zero:=by
 have h:∀ (ab:List Bool) (fs:List Fq) (k:Nat),(∀b∈ab,b=false)→goD k Sg.zero (nsF ab fs q)=Sg.zero:=by
  intro ab
  induction ab with
  |nil=>intro fs k _;rfl
  |cons a ab ih=>
   intro fs k hb;cases fs with
   |nil=>rfl
   |cons f fs=>
    have ha:=hb a List.mem_cons_self;subst ha;exact ih fs (k+1) (fun b h=>hb b (List.mem_cons_of_mem _ h))
 unfold decS;rw [h _ _ _ (by simp [zb5])];rfl
theorem walkF_none (fs:List Fq):∀ (ps:List ByteArray) (s:Sg),s.have'=zb5 []→ps≠[]→zf4 fs s ps=Sg.zero:=by
 intro ps
 induction ps with
 |nil=>intro s _ h;exact absurd rfl h
 |cons q ps ih=>
  intro s hs _;show zf4 fs (decS (nsF s.have' fs q)) ps=Sg.zero;rw [hs,decF_none];by_cases hp:ps=[]
  ·subst hp;rfl
  ·exact ih _ rfl hp
theorem atF_same {fs:List Fq} (h4:fs.length≤4) (hf:∀f∈fs,zz7 f):∀ (ps:List ByteArray) (ks:List Nat) (s:Sg),(∀q∈ps,za0 q=true∧¬q.size=0)→ps≠[]→ks.Sublist (List.range fs.length)→s.have'=zb5 ks→
  (atF fs ks ps).ok=(zf4 fs s ps).told∧((atF fs ks ps).ok=true→(atF fs ks ps).node=(zf4 fs s ps).node)∧(zf4 fs s ps).have'=zb5 (atF fs ks ps).parts:=by
 intro ps
 induction ps with
 |nil=>intro ks s _ h;exact absurd rfl h
 |cons q ps ih=>
  intro ks s hps _ hs hh;have hc:=yg5 (q:=q) h4 hf (hps q List.mem_cons_self).1 (hps q List.mem_cons_self).2 hs;have e:zf4 fs s (q::ps)=zf4 fs (decS (nsF (zb5 ks) fs q)) ps:=by rw [←hh];rfl
  rw [e];cases ps with
  |nil=>
   show (if (ze0 fs ks q).ok=true then ze0 fs ks q else zk5).ok=(decS _).told∧_∧_;by_cases hk:(ze0 fs ks q).ok=true
   ·simp only [atF];rw [if_pos hk];exact ⟨hc.told,hc.node,hc.parts⟩
   ·simp only [atF];rw [if_neg hk]
    have h0:(ze0 fs ks q).parts=[]:=by
     by_cases hp:(ze0 fs ks q).parts=[]
     ·exact hp
     ·exact absurd (hc.dir hp).1 hk
    exact ⟨by rw [←hc.told];simp at hk;rw [hk];rfl,fun h=>(by cases h),by rw [show zf4 fs (decS (nsF (zb5 ks) fs q)) []=decS (nsF (zb5 ks) fs q) from rfl,hc.parts,h0];rfl⟩
  |cons q2 r=>
   simp only [atF];by_cases hk:(ze0 fs ks q).ok=true∧(ze0 fs ks q).node.kind=1
   ·rw [if_pos hk];exact ih (ze0 fs ks q).parts _ (fun x hx=>hps x (List.mem_cons_of_mem _ hx)) (by simp) (yk2 hs) hc.parts
   ·rw [if_neg hk]
    have h0:(ze0 fs ks q).parts=[]:=by
     by_cases hp:(ze0 fs ks q).parts=[]
     ·exact hp
     ·exact absurd (hc.dir hp) hk
    have hz:=walkF_none fs (q2::r) (decS (nsF (zb5 ks) fs q)) (by rw [hc.parts,h0]) (by simp);rw [hz];exact ⟨rfl,fun h=>(by cases h),rfl⟩
def stO (L:List Nd) (k:Fx) (q:ByteArray):Ot:=
 if k.len=0 then (match lk L q with |none=>zk5|some n=>⟨true,n,[]⟩) else atF (fnsX k) (List.range k.len) (zb3 q)
theorem zn1 {q:ByteArray} (hq:za0 q=true):∀p∈zb3 q,za0 p=true∧¬p.size=0:=by
 intro p hp;obtain ⟨i,hi,rfl⟩:=List.mem_map.1 hp;have hi':=List.mem_range.1 hi;have e:=(ze q);rw [zc1 hq] at e;have hn:∀t∈(names q).take (i+1),zb8 t=true:=zt9 e.1 _;have e2:=zn0 hn;refine ⟨yl0 hn (by rw [List.length_take];omega),fun h0=>?_⟩;have h3:names (glue ((names q).take (i+1)))=[]:=zs1 h0;rw [e2] at h3;have :=congrArg List.length h3;rw [List.length_take,List.length_nil] at this;omega
theorem rootF_parts {n:Nat} (h:n≤4):(ze9 n).have'=zb5 (List.range n):=by
 obtain rfl |rfl |rfl |rfl |rfl:n=0∨n=1∨n=2∨n=3∨n=4:=by omega
 all_goals decide
theorem st_fn {L:List Nd} {k:Fx} {q:ByteArray} (h4:k.len≤4) (hk:k.okX) (hq:za0 q=true) (hz:¬q.size=0):fnX L k q=if (stO L k q).ok=true then some (stO L k q).node else none:=by
 unfold stO;by_cases h0:k.len=0
 ·rw [fn_leaf h0,if_pos h0];cases lk L q <;> rfl
 ·rw [fn_nest h0,if_neg h0];obtain ⟨ps,hps⟩:=zv9 hz;obtain ⟨h1,h2, -⟩:=atF_same (fs:=fnsX k) (by rw [fns_len];exact h4) (fns_right k hk) (zb3 q) (List.range k.len) (ze9 k.len) (zn1 hq) (by rw [hps];simp) (by rw [fns_len];exact List.Sublist.refl _) (rootF_parts h4);unfold zn7;rw [←h1]
  split
  ·next ht=>rw [h2 ht]
  ·rfl
theorem st_none {L:List Nd} {k:Fx} {q:ByteArray} (h:(stO L k q).ok=false):stO L k q=zk5:=by
 unfold stO at h ⊢
 split at h
 ·next hk=>rw [if_pos hk];split at h <;> first |rfl |cases h
 ·next hk=>
  rw [if_neg hk];generalize zb3 q=ps at h ⊢;generalize List.range k.len=ks at h ⊢
  induction ps generalizing ks with
  |nil=>rfl
  |cons q ps ih=>
   cases ps with
   |nil=>
    simp only [atF] at h ⊢
    split at h
    ·next ht=>rw [ht] at h;cases h
    ·next ht=>rw [if_neg ht]
   |cons q2 r=>
    simp only [atF] at h ⊢
    split at h
    ·next ht=>rw [if_pos ht];exact ih _ h
    ·next ht=>rw [if_neg ht]
end Pl
end
section
open Go.RowKit
namespace Pl
def hist (h:List ByteArray):List (List ByteArray):=(List.range h.length).map (fun i=>h.take (i+1))
theorem hist_nil:hist []=[]:=rfl
theorem yf6 (h:List ByteArray) (q:ByteArray):hist (h++[q])=hist h++[h++[q]]:=by
 unfold hist;rw [List.length_append,List.length_singleton,List.range_succ,List.map_append]
 congr 1
 ·apply List.map_congr_left
  intro i hi;rw [List.take_append_of_le_length (by have :=List.mem_range.1 hi;omega)]
 ·simp [List.take_of_length_le]
def fnsH:Fx→List (List ByteArray→Option Nd)
 | .nil=>[]
 | .cons L k m=>(fun h=>if k.len=0 then lk L (h.getLastD ⟨#[]⟩) else zn7 (zf4 (fnsH k) (ze9 k.len) (hist h)))::fnsH m
def fnH (L:List Nd) (k:Fx):List ByteArray→Option Nd:=fun h=>if k.len=0 then lk L (h.getLastD ⟨#[]⟩) else zn7 (zf4 (fnsH k) (ze9 k.len) (hist h))
theorem fnsH_cons (L:List Nd) (k m:Fx):fnsH (.cons L k m)=fnH L k::fnsH m:=rfl
theorem fnH_leaf {L:List Nd} {k:Fx} (h0:k.len=0) (h:List ByteArray) (q:ByteArray):fnH L k (h++[q])=lk L q:=by
 unfold fnH;rw [if_pos h0];simp
theorem fnH_nest {L:List Nd} {k:Fx} (h0:k.len≠0) (h:List ByteArray):fnH L k h=zn7 (zf4 (fnsH k) (ze9 k.len) (hist h)):=if_neg h0
theorem fnsH_len (F:Fx):(fnsH F).length=F.len:=by
 induction F with
 |nil=>rfl
 |cons L k m _ ih=>rw [fnsH_cons,List.length_cons,ih];rfl
theorem fnsH_get {F:Fx}:∀ {i:Nat} {L:List Nd} {k:Fx},kid F i=some (L,k)→(fnsH F)[i]? =some (fnH L k):=by
 induction F with
 |nil=>intro i L k h;cases h
 |cons L' k' m _ ih=>
  intro i L k h;cases i with
  |zero=>cases h;rfl
  |succ i=>rw [fnsH_cons,List.getElem?_cons_succ];exact ih (i:=i) h
theorem mark_of {n:Nd} (h:zb6 n=true):0≤n.mark∧n.mark≤8:=by
 simp only [zb6,Bool.and_eq_true,decide_eq_true_eq] at h;omega
theorem go_mark:∀ (ns:List (Option Nd)) (k:Nat) (s:Sg),(0≤s.node.mark∧s.node.mark≤8)→(∀n,some n∈ns→0≤n.mark∧n.mark≤8)→0≤(goD k s ns).node.mark∧(goD k s ns).node.mark≤8:=by
 intro ns
 induction ns with
 |nil=>intro k s h _;exact h
 |cons y ns ih=>
  intro k s h hn;cases y with
  |none=>exact ih _ _ h (fun n hm=>hn n (List.mem_cons_of_mem _ hm))
  |some n=>
   have h2:=take_mark (k:=k) h (hn n List.mem_cons_self);rw [goD]
   split
   ·exact h2
   ·exact ih _ _ h2 (fun n hm=>hn n (List.mem_cons_of_mem _ hm))
theorem dec_mark {ns:List (Option Nd)} (hn:∀n,some n∈ns→0≤n.mark∧n.mark≤8):0≤(decS ns).node.mark∧(decS ns).node.mark≤8:=by
 have h:=go_mark ns 0 Sg.zero (by decide) hn;unfold decS upS
 split
 ·decide
 ·dsimp only;omega
theorem fnsH_mark (F:Fx):F.okX→∀f∈fnsH F,∀h m,f h=some m→0≤m.mark∧m.mark≤8:=by
 induction F with
 |nil=>intro _ f h;cases h
 |cons L k m ihk ihm=>
  intro ho f hf;rw [fnsH_cons] at hf
  rcases List.mem_cons.1 hf with rfl |hf
  ·intro h n hn;by_cases hk:k.len=0
   ·unfold fnH at hn;rw [if_pos hk] at hn;have hm:=List.mem_of_find?_eq_some hn;have ht:=ho.1;simp only [zc7,Bool.and_eq_true,decide_eq_true_eq] at ht;exact mark_of (goI_all L _ _ ht.2 n hm)
   ·rw [fnH_nest hk] at hn;unfold zn7 at hn
    split at hn
    ·cases hn
     rcases List.eq_nil_or_concat h with rfl |⟨h',q,rfl⟩
     ·rw [hist_nil];exact ⟨Int.le_refl _,(by decide :(0:Int)≤8)⟩
     ·rw [List.concat_eq_append,yf6,zp8]
      exact dec_mark (fun n hn=>by
       obtain ⟨g,hg,e⟩:=nsF_mem _ _ _ _ hn
       exact ihk ho.2.2.2.1 g hg _ n e)
    ·cases hn
  ·exact ihm ho.2.2.2.2 f hf
theorem zw6 {q:ByteArray} (hq:za0 q=true) {i:Nat} (hi:i<(zb3 q).length):zb3 (glue ((names q).take (i+1)))=(zb3 q).take (i+1):=by
 have e:=(ze q);rw [zc1 hq] at e;have hn:∀t∈(names q).take (i+1),zb8 t=true:=zt9 e.1 _;have e2:=zn0 hn;have hl:(zb3 q).length=(names q).length:=zm7 _ _;unfold zb3;rw [e2];unfold ways;rw [List.length_take,Nat.min_eq_left (by omega),←List.map_take,List.take_range,Nat.min_eq_left (by omega)]
 apply List.map_congr_left
 intro j hj;have :=List.mem_range.1 hj;rw [List.take_take,Nat.min_eq_left (by omega)]
theorem zy2 {q:ByteArray} {i:Nat} (hi:i<(zb3 q).length):(zb3 q)[i]? =some (glue ((names q).take (i+1))):=by
 have hl:(zb3 q).length=(names q).length:=zm7 _ _;unfold zb3 ways;rw [List.getElem?_map,List.getElem?_range (by omega)];rfl
theorem hist_ways {q:ByteArray} (hq:za0 q=true):hist (zb3 q)=(zb3 q).map zb3:=by
 apply List.ext_getElem?
 intro i;by_cases hi:i<(zb3 q).length
 ·unfold hist;rw [List.getElem?_map,List.getElem?_map,List.getElem?_range hi,zy2 hi];simp only [Option.map_some];rw [zw6 hq hi]
 ·rw [List.getElem?_eq_none (by unfold hist;simp;omega),List.getElem?_eq_none (by simp;omega)]
theorem nsF_hist {fs:List Fq} {gs:List (List ByteArray→Option Nd)} {q:ByteArray} (h:∀ (i:Nat) (f:Fq) (g:List ByteArray→Option Nd),fs[i]? =some f→gs[i]? =some g→g (zb3 q)=f q):∀ (ab:List Bool),fs.length=gs.length→nsF ab gs (zb3 q)=nsF ab fs q:=by
 intro ab
 induction ab generalizing fs gs with
 |nil=>intro _;rfl
 |cons a ab ih=>
  intro hl;cases fs with
  |nil=>cases gs with
   |nil=>rfl
   |cons=>simp at hl
  |cons f fs=>cases gs with
   |nil=>simp at hl
   |cons g gs=>
    show (if a then g (zb3 q) else none)::nsF ab gs (zb3 q)=(if a then f q else none)::nsF ab fs q;rw [h 0 f g rfl rfl,ih (fun i f g h1 h2=>h (i+1) f g h1 h2) (by simpa using hl)]
theorem walkF_hist {fs:List Fq} {gs:List (List ByteArray→Option Nd)} (hl:fs.length=gs.length):∀ (ps:List ByteArray) (s:Sg),(∀q∈ps,∀ (i:Nat) (f:Fq) (g:List ByteArray→Option Nd),fs[i]? =some f→gs[i]? =some g→g (zb3 q)=f q)→zf4 gs s (ps.map zb3)=zf4 fs s ps:=by
 intro ps
 induction ps with
 |nil=>intro s _;rfl
 |cons q ps ih=>
  intro s h;show zf4 gs (decS (nsF s.have' gs (zb3 q))) (ps.map zb3)=zf4 fs (decS (nsF s.have' fs q)) ps;rw [nsF_hist (h q List.mem_cons_self) _ hl];exact ih _ (fun x hx=>h x (List.mem_cons_of_mem _ hx))
theorem fnsH_ways (F:Fx):∀q,za0 q=true→¬q.size=0→∀ (i:Nat) (f:Fq) (g:List ByteArray→Option Nd),(fnsX F)[i]? =some f→(fnsH F)[i]? =some g→g (zb3 q)=f q:=by
 induction F with
 |nil=>intro q _ _ i f g h;cases i <;> cases h
 |cons L k m ihk ihm=>
  intro q hq hz i f g h1 h2;cases i with
  |zero=>
   rw [fns_cons] at h1;rw [fnsH_cons] at h2;cases h1
   cases h2
   by_cases hk:k.len=0
   ·rw [fn_leaf hk];obtain ⟨ps,hps⟩:=zv9 hz;rw [hps,fnH_leaf hk]
   ·rw [fn_nest hk,fnH_nest hk,hist_ways hq,walkF_hist (by rw [fns_len,fnsH_len]) (zb3 q) (ze9 k.len) (fun x hx=>ihk x (zn1 hq x hx).1 (zn1 hq x hx).2)]
  |succ i=>exact ihm q hq hz i f g h1 h2
theorem fnH_ways (L:List Nd) (k:Fx) {q:ByteArray} (hq:za0 q=true) (hz:¬q.size=0):fnH L k (zb3 q)=fnX L k q:=
 fnsH_ways (.cons L k .nil) q hq hz 0 _ _ rfl rfl
end Pl
end
section
open Go.RowKit
namespace Pl
def noMark (n:Nd):Nd:=⟨n.path,n.kind,n.data,n.time,0⟩
def zc9 (L:List Nd) (k:Fx) (q:ByteArray):Option Nd:=
 match fnX L k q with
 |none=>none
 |some n=>if n.kind=0 then none else some (noMark n)
theorem atF_up (fs:List Fq):∀ (ps:List ByteArray) (ks:List Nat) (q:ByteArray) (r:List ByteArray),ps≠[]→(atF fs ks (ps++q::r)).ok=true→(atF fs ks ps).ok=true∧(atF fs ks ps).node.kind=1:=by
 intro ps
 induction ps with
 |nil=>intro ks q r h;exact absurd rfl h
 |cons p ps ih=>
  intro ks q r _ h;cases ps with
  |nil=>
   simp only [List.cons_append,List.nil_append,atF] at h ⊢
   split at h
   ·next hc=>rw [if_pos hc.1];exact hc
   ·cases h
  |cons p2 ps=>
   simp only [List.cons_append,atF] at h ⊢
   split at h
   ·next hc=>rw [if_pos hc];exact ih _ q r (by simp) h
   ·cases h
theorem fn_up {L:List Nd} {k:Fx} (ht:zc7 L=true) (h4:k.len≤4) (hk:k.okX) {q:ByteArray} (hq:za0 q=true) (hz:¬q.size=0) {n:Nd} (h:fnX L k q=some n):∀i,i+1<(zb3 q).length→∃d,fnX L k (glue ((names q).take (i+1)))=some d∧d.kind=1:=by
 intro i hi;have hl:(zb3 q).length=(names q).length:=zm7 _ _;have hmem:glue ((names q).take (i+1))∈zb3 q:=List.mem_of_getElem? (zy2 (show i<(zb3 q).length by omega));obtain ⟨hq',hz'⟩:=zn1 hq _ hmem;by_cases h0:k.len=0
 ·rw [fn_leaf h0] at h;obtain ⟨d,h1,h2, -⟩:=way_K ht hq (dir_found ht ⟨n,h⟩) _ (List.mem_map.2 ⟨i,List.mem_range.2 (by omega),rfl⟩);exact ⟨d,by rw [fn_leaf h0];exact h1,h2⟩
 ·rw [st_fn h4 hk hq hz] at h;rw [st_fn h4 hk hq' hz']
  split at h
  ·next hok=>
   unfold stO at hok ⊢;rw [if_neg h0] at hok ⊢;have e:=zw6 hq (show i<(zb3 q).length by omega)
   have hsp:zb3 q=zb3 (glue ((names q).take (i+1)))++(zb3 q)[i+1]::(zb3 q).drop (i+2):=by
    rw [e]
    conv=>lhs;rw [←List.take_append_drop (i+1) (zb3 q),List.drop_eq_getElem_cons hi]
   rw [hsp] at hok;obtain ⟨h1,h2⟩:=atF_up (fnsX k) _ _ _ _ (by rw [e];intro e2;have :=congrArg List.length e2;rw [List.length_take,List.length_nil] at this;omega) hok;rw [if_pos h1];exact ⟨_,rfl,h2⟩
  ·cases h
theorem walk_stop {L:List Nd} {k:Fx} (ht:zc7 L=true) (h4:k.len≤4) (hk:k.okX) {q:ByteArray} (hq:za0 q=true) (hz:¬q.size=0) {i:Nat} (hi:i<(zb3 q).length) (s:Option Nd) (hs:fnX L k (glue ((names q).take (i+1)))=s) (b:Bool)
  (hb:(s=none∧b=false)∨(∃n,s=some n∧n.kind=0∧b=false)∨(∃n,s=some n∧n.kind=2∧b=decide (glue ((names q).take (i+1))=q))):zc9 L k q=if b then some (noMark (s.getD za3)) else none:=by
 have hl:(zb3 q).length=(names q).length:=zm7 _ _;by_cases he:i+1<(zb3 q).length
 ·have hno:b=false→zc9 L k q=if b then some (noMark (s.getD za3)) else none:=fun e=>by
   rw [e];unfold zc9;cases h:fnX L k q with
   |none=>rfl
   |some n=>
    exfalso;obtain ⟨d,h1,h2⟩:=fn_up ht h4 hk hq hz h i he;rw [hs] at h1;subst e
    rcases hb with ⟨h3, -⟩|⟨m,h3,h5, -⟩|⟨m,h3,h5, -⟩
    ·rw [h3] at h1;cases h1
    ·rw [h3] at h1;cases h1;omega
    ·rw [h3] at h1;cases h1;omega
  apply hno
  rcases hb with ⟨-,h3⟩|⟨m, -, -,h3⟩|⟨m, -, -,h3⟩
  ·exact h3
  ·exact h3
  ·rw [h3]
   apply decide_eq_false
   intro e;have e2:=zw6 hq hi;rw [e] at e2;have :=congrArg List.length e2;rw [List.length_take] at this;omega
 ·have e:glue ((names q).take (i+1))=q:=by rw [List.take_of_length_le (by omega),zj2]
  rw [e] at hs hb;unfold zc9;rw [hs]
  rcases hb with ⟨rfl,rfl⟩|⟨m,rfl,h5,rfl⟩|⟨m,rfl,h5,rfl⟩
  ·rfl
  ·simp [h5]
  ·simp [h5]
theorem walk_done {L:List Nd} {k:Fx} {q:ByteArray} {n:Nd} (h:fnX L k q=some n) (h0:n.kind≠0):zc9 L k q=some (noMark n):=by
 unfold zc9;rw [h];simp [h0]
theorem yb4 {L:List Nd} {k:Fx} (ht:zc7 L=true) {q:ByteArray} (hz:q.size=0):zc9 L k q=none:=by
 unfold zc9
 have h:fnX L k q=none:=by
  by_cases h0:k.len=0
  ·rw [fn_leaf h0];cases h:lk L q with
   |none=>rfl
   |some n=>
    exfalso;have h1:=List.mem_of_find?_eq_some h;have h2:n.path=q:=by simpa using List.find?_some h
    have h3:=(((zr1 L).1 ht).2.1 n h1).1;rw [yf2 (by rw [h2];exact hz)] at h3;cases h3
  ·rw [fn_nest h0,zb3,zs1 hz];rfl
 rw [h]
end Pl
end
section
namespace Pl
def zk1 (R:List (Int × List Nd)) (q:ByteArray):Option Nd:=match nestX R with
 |none=>none
 |some x=>zc9 x.1 x.2 q
theorem yj4 {p:ByteArray} (hp:za0 p=true) (t:ByteArray):za0 (rest p t)=true:=by
 obtain ⟨h1,h2⟩:=zp1 hp;exact yl0 (fun x hx=>h1 x (List.mem_of_mem_drop hx)) (by rw [List.length_drop];omega)
theorem instI_get:∀ {l:List Int} {d:Int} {k:Nat},zd3 l d=(k:Int)→l[k]? =some d:=by
 intro l
 induction l with
 |nil=>intro d k h;simp [zd3] at h
 |cons x r ih=>
  intro d k h;rw [zd3] at h;by_cases e:x=d
  ·rw [if_pos e] at h;obtain rfl:k=0:=by omega
   rw [e];rfl
  ·rw [if_neg e] at h;by_cases h2:zd3 r d<0
   ·rw [if_pos h2] at h;omega
   ·rw [if_neg h2] at h;obtain ⟨j,rfl⟩:∃j,k=j+1:=⟨k - 1,by omega⟩;rw [List.getElem?_cons_succ];exact ih (by omega)
theorem yl2 {next :Int} {N:List Ns} {M:List Mn} {H:List Hn} {way:ByteArray→Bool} (h:zc4 next (N.map WSp.nr) M H way=true) {m:Mn} (hm:m∈M):∃ (k:Nat) (x:Ns),N[k]? =some x∧x.d=m.i∧zo5 (N.map Ns.r) m.i=some (x.Is.map It.r)∧zd3 (N.map (·.d)) m.i=(k:Int):=by
 have hd:¬zd3 (N.map (·.d)) m.i<0:=by
  unfold zc4 at h;simp only [Bool.and_eq_true] at h;have h1:=h.1.2;unfold zj6 at h1;simp only [Bool.and_eq_true] at h1;have h2:=h1.2;rw [List.all_eq_true] at h2;obtain ⟨k,hk⟩:=List.getElem?_of_mem hm;have h3:=h2 k (List.mem_range.2 (List.getElem?_eq_some_iff.1 hk).1);unfold zg8 at h3;rw [hk] at h3;simp only [Bool.and_eq_true,Bool.not_eq_true',decide_eq_false_iff_not] at h3;have h4:=h3.1.2;rw [List.map_map] at h4;exact h4
 obtain ⟨k,hk⟩:∃k:Nat,zd3 (N.map (·.d)) m.i=(k:Int):=⟨(zd3 (N.map (·.d)) m.i).toNat,by omega⟩;obtain ⟨x,h1,h2⟩:=(nestAt_inst N m.i).2 k hk;refine ⟨k,x,h1,?_,h2,hk⟩;have :=instI_get hk;rw [List.getElem?_map,h1] at this
 simpa using this
end Pl
end
section
open Go.RowKit
namespace Pl
theorem yi6 {L:List Nd} {k:Fx} {p:ByteArray} {o:Option Nd} (h:fnX L k p=o) (h2:∀n,o=some n→n.kind=0):zc9 L k p=none:=by
 unfold zc9;rw [h];cases o with
 |none=>rfl
 |some n=>exact if_pos (h2 n rfl)
theorem yc7 {L:List Nd} {k:Fx} {p:ByteArray} {n:Nd} (h:fnX L k p=some n) (h2:¬n.kind=0):zc9 L k p=some (noMark n):=by
 unfold zc9;rw [h];exact if_neg h2
theorem walkO_small {L:List Nd} {k:Fx} {p:ByteArray} {m:Nd} (ht:zc7 L=true) (hk:k.okX) (hp:za0 p=true) (hz:¬p.size=0) (h:zc9 L k p=some m):m.path.size≤200∧m.data.size≤60:=by
 unfold zc9 at h
 split at h
 ·cases h
 ·next n hn=>
  split at h
  ·cases h
  ·cases h
   obtain ⟨h1,h2⟩:=fn_right ht hk p n hp hz hn;have h3:=zg0 hp;simp only [zb6,Bool.and_eq_true,decide_eq_true_eq] at h1;exact ⟨by show n.path.size≤200;rw [h2];exact h3,by show n.data.size≤60;omega⟩
end Pl
namespace WWk
theorem ret6 {w W:World} (hb:Below w.heap.size w W) (hr:Mem.Blk W w.heap.size #[.string ⟨#[]⟩, .int .i64 0, .string ⟨#[]⟩, .int .i64 0, .int .i64 0, .int .i64 0] 57) (p:ByteArray) (k:Int) (d:ByteArray) (t m c:Int):
  Mem.Blk ((((((W.setCell ⟨w.heap.size,0,none⟩ (.string (p))).setCell ⟨w.heap.size,1,none⟩ (.int .i64 (k))).setCell ⟨w.heap.size,2,none⟩ (.string (d))).setCell ⟨w.heap.size,3,none⟩ (.int .i64 (t))).setCell ⟨w.heap.size,4,none⟩ (.int .i64 (m))).setCell ⟨w.heap.size,5,none⟩ (.int .i64 (c))) w.heap.size #[.string p, .int .i64 k, .string d, .int .i64 t, .int .i64 m, .int .i64 c] 57∧Below w.heap.size w ((((((W.setCell ⟨w.heap.size,0,none⟩ (.string (p))).setCell ⟨w.heap.size,1,none⟩ (.int .i64 (k))).setCell ⟨w.heap.size,2,none⟩ (.string (d))).setCell ⟨w.heap.size,3,none⟩ (.int .i64 (t))).setCell ⟨w.heap.size,4,none⟩ (.int .i64 (m))).setCell ⟨w.heap.size,5,none⟩ (.int .i64 (c))):=by
 refine ⟨?_,(((((hb.setCell (p:=⟨w.heap.size,0,none⟩) (Nat.le_refl _) _).setCell (p:=⟨w.heap.size,1,none⟩) (Nat.le_refl _) _).setCell (p:=⟨w.heap.size,2,none⟩) (Nat.le_refl _) _).setCell (p:=⟨w.heap.size,3,none⟩) (Nat.le_refl _) _).setCell (p:=⟨w.heap.size,4,none⟩) (Nat.le_refl _) _).setCell (p:=⟨w.heap.size,5,none⟩) (Nat.le_refl _) _⟩;have h2:=(((((hr.put 0 (.string p)).put 1 (.int .i64 k)).put 2 (.string d)).put 3 (.int .i64 t)).put 4 (.int .i64 m)).put 5 (.int .i64 c);simp only [kB3] at h2;exact h2
end WWk
end
end Go.Proofs.YtbomeifgfalmdaaGreatDoor
