/- Several texts of one claim in one file: PlainGather, PlainCanon. -/
import Derived.Test.YthdhhcgopfgcbaaGreatDoorWSeenI
import Derived.Maps.Ext
namespace Go.Proofs.YthdhhcgopfgcbaaGreatDoor
section
open Go.RowKit Go.Maps
namespace Pl
theorem ns_pathS:∀ (ab:List Bool) (Ls:List (List Nd)) (p:ByteArray) (n:Nd),some n∈nsOf ab Ls p→n.path=p:=by
 intro ab
 induction ab with
 |nil=>intro Ls p n h;simp [nsOf] at h
 |cons a ab ih=>
  intro Ls p n h;cases Ls with
  |nil=>simp [nsOf] at h
  |cons L Ls=>
   rw [nsOf] at h
   rcases List.mem_cons.1 h with h|h
   ·cases a
    ·simp at h
    ·simp only [if_true] at h;have h2:=h.symm;unfold lk at h2
     simpa using List.find?_some h2
   ·exact ih Ls p n h
theorem names_pos {p:ByteArray} (h:¬p.size=0):1≤(names p).length:=by
 unfold names;rw [if_neg h];exact cut_pos p
theorem seen_dec {Ls:List (List Nd)} {p:ByteArray} (hp:za1 p=true) (hz:¬p.size=0):∃ab,zc3 Ls p=decS (nsOf ab Ls p):=by
 unfold zc3;rw [zc1 hp];have h1:=names_pos hz;obtain ⟨m,hm⟩:∃m,(names p).length=m+1:=⟨(names p).length - 1,by omega⟩;rw [hm,yd2,yc7,←hm,List.take_length,zo2];exact ⟨_,rfl⟩
theorem zu5 {Ls:List (List Nd)} {p:ByteArray} (hp:za1 p=true) (hz:¬p.size=0) (h:(zc3 Ls p).told=true):(zc3 Ls p).node.path=p:=by
 obtain ⟨ab,e⟩:=seen_dec (Ls:=Ls) hp hz;rw [e] at h ⊢;exact dec_path (fun n hn=>ns_pathS _ _ _ _ hn) h
def zo9 (Ls:List (List Nd)) (n:Nd):Prop:=∃L∈Ls,∃m∈L,(zc3 Ls m.path).told=true∧n=(zc3 Ls m.path).node
theorem zw4 {L:List Nd} (h:za5 L=true) {m:Nd} (hm:m∈L):za1 m.path=true∧¬m.path.size=0:=by
 simp only [za5,Bool.and_eq_true,decide_eq_true_eq] at h;have h2:=zt L _ _ h.2 m hm;have h3:=zb1 h2;exact ⟨h3.1,h3.2⟩
theorem zr6 {Ls:List (List Nd)} (htr:∀L∈Ls,za5 L=true) {n:Nd} (h:zo9 Ls n):(zc3 Ls n.path).told=true∧n=(zc3 Ls n.path).node∧za1 n.path=true∧¬n.path.size=0:=by
 obtain ⟨L,hL,m,hm,h1,h2⟩:=h;obtain ⟨h3,h4⟩:=zw4 (htr L hL) hm;have h5:=zu5 h3 h4 h1;rw [←h2] at h5;rw [h5];exact ⟨h1,h2,h3,h4⟩
theorem told_one {Ls:List (List Nd)} (htr:∀L∈Ls,za5 L=true) {a b:Nd} (ha:zo9 Ls a) (hb:zo9 Ls b) (e:a.path=b.path):a=b:=by
 rw [(zr6 htr ha).2.1,(zr6 htr hb).2.1,e]
end Pl
namespace MapN
structure Gt (Ls:List (List Pl.Nd)) (D:DataW Unit) (C:List Pl.Nd):Prop where
 reads:Reads D C
 tidy:Tidy D
 apart:C.Pairwise (fun a b=>a.path≠b.path)
 miss:∀p,(∀m∈C,m.path≠p)→Maps.has D (key p)=false
 size:Maps.size D=C.length
 sub:∀n∈C,Pl.zo9 Ls n
theorem Gt.start (Ls:List (List Pl.Nd)):Gt Ls (.map []) []:=
 ⟨⟨fun n hn=>(by cases hn),fun p c h=>by
  exfalso;have a1:=(h (dat ⟨p,c.kind+1,p,0,0⟩)).symm;have a2:=zs5 a1;have a3:=congrArg Pl.Nd.kind a2;simp only at a3
  omega⟩,tidy_empty,List.Pairwise.nil,fun _ _=>rfl,rfl,fun n hn=>by cases hn⟩
theorem filter_one:∀ {C:List Pl.Nd} {p:ByteArray} {m:Pl.Nd},C.Pairwise (fun a b=>a.path≠b.path)→m∈C→m.path=p→(C.filter (fun m=>!decide (m.path=p))).length+1=C.length:=by
 intro C
 induction C with
 |nil=>intro p m _ hm;cases hm
 |cons a C ih=>
  intro p m hp hm e;have hp':=List.pairwise_cons.1 hp;by_cases ha:a.path=p
  ·rw [List.filter_cons_of_neg (by simp [ha]),List.filter_eq_self.2 (fun x hx=>by have :=hp'.1 x hx;rw [ha] at this;simpa using fun e2=>this e2.symm)];rfl
  ·rw [List.filter_cons_of_pos (by simp [ha]),List.length_cons,List.length_cons]
   rcases List.mem_cons.1 hm with h1|h1
   ·rw [h1] at e;exact absurd e ha
   ·rw [ih hp'.2 h1 e]
def putC (C:List Pl.Nd) (n:Pl.Nd):List Pl.Nd:=C.filter (fun m=>!decide (m.path=n.path))++[n]
theorem Gt.put {Ls:List (List Pl.Nd)} {D:DataW Unit} {C:List Pl.Nd} (h:Gt Ls D C) (htr:∀L∈Ls,Pl.za5 L=true) {n:Pl.Nd} (hn:Pl.zo9 Ls n):Gt Ls (D.put (key n.path) (dat n)) (putC C n)∧∀m,m∈putC C n↔m∈C∨m=n:=by
 have hmem:∀m,m∈putC C n↔m∈C∨m=n:=fun m=>by
  unfold putC;rw [List.mem_append,List.mem_filter]
  constructor
  ·rintro (⟨h1, -⟩|h1)
   ·exact .inl h1
   ·simp at h1;exact .inr h1
  ·rintro (h1|h1)
   ·by_cases e:m.path=n.path
    ·exact .inr (by simp;exact Pl.told_one htr (h.sub m h1) hn e)
    ·exact .inl ⟨h1,by simpa using e⟩
   ·exact .inr (by simp [h1])
 refine ⟨⟨zu4 h.reads h.tidy.isMap n,h.tidy.put (yc1 _) _,?_,fun p hp=>?_,?_,fun m hm=>?_⟩,hmem⟩
 ·unfold putC;rw [List.pairwise_append];refine ⟨h.apart.filter _,List.pairwise_singleton _ _,fun a ha b hb=>?_⟩;simp at hb
  subst hb
  simpa using (List.mem_filter.1 ha).2
 ·have hne:p≠n.path:=fun e=>hp n ((hmem n).2 (.inr rfl)) e.symm;rw [has_put_other (zy7 hne)];exact h.miss p (fun m hm=>hp m ((hmem m).2 (.inl hm)))
 ·rw [size_put h.tidy];unfold putC;rw [List.length_append];by_cases hh:∃m∈C,m.path=n.path
  ·obtain ⟨m,hm,e⟩:=hh;have h1:=h.reads.has m hm;rw [e] at h1;rw [if_pos h1,h.size];have hl:(C.filter (fun m=>!decide (m.path=n.path))).length+1=C.length:=filter_one h.apart hm e;simp;omega
  ·have hno:∀m∈C,m.path≠n.path:=fun m hm e=>hh ⟨m,hm,e⟩;rw [if_neg (by rw [h.miss _ hno];simp),h.size,List.filter_eq_self.2 (fun m hm=>by simpa using hno m hm)];simp
 ·rcases (hmem m).1 hm with h1|h1
  ·exact h.sub m h1
  ·rw [h1];exact hn
end MapN
end
section
open Go.RowKit Go.Maps
namespace MapN
def Str (D:DataW Unit):Prop:=∃es,D= .map es∧es.Pairwise (fun p q=>p.1.before q.1=true)∧∀p∈es,(∃s,p.1= .string s)∧∃n,p.2=dat n
theorem str_put {D:DataW Unit} (h:Str D) (n:Pl.Nd):Str (D.put (key n.path) (dat n)):=by
 obtain ⟨es,rfl,h1,h2⟩:=h;refine ⟨_,rfl,?_,fun x hx=>?_⟩
 ·refine ChangeMaps.insert_sorted (x:=(key n.path,dat n)) ⟨_,rfl⟩ _ (h1.filter _) (fun x hx=>(h2 x (List.mem_filter.1 hx).1).1) (fun x hx=>?_);have :=(List.mem_filter.1 hx).2;intro e;rw [e,WideAt.sameKey_self (yc1 n.path)] at this;cases this
 ·rcases ChangeMaps.mem_insert_iff.1 hx with rfl |hx
  ·exact ⟨⟨_,rfl⟩,_,rfl⟩
  ·exact h2 x (List.mem_filter.1 hx).1
theorem str_fold:∀ (C:List Pl.Nd) (D:DataW Unit),Str D→Str (C.foldl (fun D n=>D.put (key n.path) (dat n)) D):=by
 intro C
 induction C with
 |nil=>intro D h;exact h
 |cons n C ih=>intro D h;exact ih _ (str_put h n)
theorem str_mapOf (C:List Pl.Nd):Str (mapOf C):=str_fold C (.map []) ⟨[],rfl,List.Pairwise.nil,fun _ h=>by cases h⟩
theorem Str.canon {D:DataW Unit} (h:Str D):Canon D:=by
 obtain ⟨es,e,h1,h2⟩:=h;refine ⟨es,e,h1,fun p hp=>?_⟩;obtain ⟨s,hs⟩:=(h2 p hp).1;rw [hs];simp [WideAt.IsKeyLit]
theorem own_str {w:World} {b n:Nat} {D:DataW Unit} (h:w.ownsMap Tryz.prog 9 MapN.elem b n D):Str D:=by
 have hc:=h.canon law;obtain ⟨es,clock, -,F, -,rfl⟩:=h;obtain ⟨es2,e2,h1, -⟩:=hc;refine ⟨_,rfl,?_,fun p hp=>?_⟩
 ·have :=DataW.map.inj e2;rw [this];exact h1
 ·obtain ⟨x,hx,rfl⟩:=List.mem_map.1 (mem_sorted.1 hp);obtain ⟨y,hy⟩:=F.reads x hx;rw [WideElems.rg_of hy];have hk:=WideElems.rd_key hy;unfold WideElems.rd at hy;simp only [Option.bind_eq_some_iff,Option.map_eq_some_iff] at hy;obtain ⟨kl,h3,⟨d,ps⟩,h4,rfl⟩:=hy
  have hs:∃s,kl= .string s:=by
   generalize x.key=kv at h3;cases kv <;> simp [keyOf,Tryz.underlying9,mapKey] at h3
   exact ⟨_,h3.2.symm⟩
  obtain ⟨n, -,hn⟩:=zt8 h4;exact ⟨hs,n,hn⟩
theorem Str.has {D:DataW Unit} (h:Str D) {k:Lit} (hk:Maps.has D k=true):∃p n,k=key p∧∀z,D.atKey k z=dat n:=by
 obtain ⟨es,rfl,h1,h2⟩:=h;obtain ⟨x,hx,hs⟩:=List.any_eq_true.1 hk;have e:=WideAt.sameKey_eq hs;obtain ⟨⟨s,h3⟩,n,h4⟩:=h2 x hx;have hkey:WideAt.IsKeyLit x.1:=by rw [h3];simp [WideAt.IsKeyLit]
 refine ⟨⟨⟨s⟩⟩,n,by rw [←e,h3];rfl,fun z=>?_⟩;rw [←e,←h4];exact WideAt.atKey_mem z hkey (apart_of_rising h1) hx
theorem yi8 {w:World} {b N:Nat} {D:DataW Unit} {C O:List Pl.Nd} (h:w.ownsMap Tryz.prog 9 MapN.elem b N D) (g:Reads D C) (hO:O.Pairwise (fun a b=>a.path≠b.path)) (hm:∀n,n∈C↔n∈O):D=mapOf O:=by
 have hs:=own_str h;have ho:=str_mapOf O;have hro:=fun (n:Pl.Nd) (hn:n∈O)=>zp0 (C:=O) (n:=n) hO hn
 have key1:∀k,Maps.has D k=true→∃n∈C,k=key n.path∧∀z,D.atKey k z=dat n:=fun k hk=>by
  obtain ⟨p,n,rfl,hz⟩:=hs.has hk;obtain ⟨h1,rfl⟩:=g.ent p n hz;exact ⟨n,h1,rfl,hz⟩
 refine ext hs.canon ho.canon (fun k=>?_) (fun k z hk=>?_)
 ·cases hk:Maps.has D k
  ·cases hk2:Maps.has (mapOf O) k
   ·rfl
   ·obtain ⟨p,n,rfl,hz⟩:=ho.has hk2;by_cases hp:∃m∈O,m.path=p
    ·obtain ⟨m,hm1,rfl⟩:=hp;rw [g.has m ((hm m).2 hm1)] at hk;cases hk
    ·rw [zr9 (fun n hn e=>hp ⟨n,hn,e⟩)] at hk2;cases hk2
  ·obtain ⟨n,hn,rfl, -⟩:=key1 k hk;exact (hro n ((hm n).1 hn)).1.symm
 ·obtain ⟨n,hn,rfl,hz⟩:=key1 k hk;rw [hz,(hro n ((hm n).1 hn)).2]
theorem is_mapOf {w:World} {b N:Nat} {Ls:List (List Pl.Nd)} {D:DataW Unit} {C O:List Pl.Nd} (h:w.ownsMap Tryz.prog 9 MapN.elem b N D) (g:Gt Ls D C) (hO:O.Pairwise (fun a b=>a.path≠b.path)) (hm:∀n,n∈C↔n∈O):D=mapOf O:=yi8 h g.reads hO hm
end MapN
end
end Go.Proofs.YthdhhcgopfgcbaaGreatDoor
