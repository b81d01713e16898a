/- Several texts of one claim in one file: PlainR, PlainNode, PlainLess, PlainTree, PlainNest. -/
import Derived.Test.YtpggbphcbcogdaaGreatDoorG00
import Derived.WalkKit
namespace Go.Proofs.YtpggbphcbcogdaaGreatDoor
section
namespace Pl
def zb0 (s:ByteArray):List ByteArray:=if za2 s then names s else []
theorem zp9 {s:ByteArray} (h:za2 s=false):zb0 s=[]:=by rw [zb0,h];rfl
theorem zc0 {s:ByteArray} (h:za2 s=true):zb0 s=names s:=by rw [zb0,h];rfl
theorem cut_pos (s:ByteArray):0<(cut s 47).length:=by
 have h:=cut_list s;have :(cut s 47).length=(cutL (by_ s)).length:=by rw [←h,List.length_map]
 rw [this];exact List.length_pos_iff.2 (cutL_ne _)
theorem zi {s:ByteArray} (h:s.size=0):za2 s=true∧names s=[]:=by
 have h1:names s=[]:=if_pos h;exact ⟨by simp [zr0,h1],h1⟩
theorem cut_length (s:ByteArray):(cut s 47).length≤s.size+1:=zw2 s 47 s.size 0 0
theorem cut_size {s:ByteArray} {k:Nat} {t:ByteArray} (h:(cut s 47)[k]? =some t):t.size≤s.size:=cutF_size s 47 _ _ _ t (List.mem_of_getElem? h)
theorem ze2 (s:ByteArray):(∀t∈zb0 s,zb4 t=true)∧(zb0 s).length≤6:=by
 cases h:za2 s
 ·rw [zp9 h];simp
 ·rw [zc0 h];exact zk9 h
theorem zm {L:List ByteArray} (h:∀t∈L,zb4 t=true) (h6:L.length≤20):(glue L).size≤1000000:=by
 have :=zp8 L (fun t ht=>(zj4 (h t ht)).2.2.2);omega
theorem zn1 {L:List ByteArray} (h:∀t∈L,zb4 t=true) (k:Nat):∀t∈L.take k,zb4 t=true:=fun t ht=>h t (List.mem_of_mem_take ht)
theorem all_drop {L:List ByteArray} (h:∀t∈L,zb4 t=true) (k:Nat):∀t∈L.drop k,zb4 t=true:=fun t ht=>h t (List.mem_of_mem_drop ht)
theorem zp5 {a b:ByteArray} (h:a=b):(a.toList==b.toList)=true:=by rw [h];exact beq_self_eq_true _
theorem zm2 {a b:ByteArray} (h:a≠b):(a.toList==b.toList)=false:=by
 rw [beq_eq_false_iff_ne,ByteArray.toList_eq,ByteArray.toList_eq];exact fun e=>h (zh7 e)
def tOut (x:ByteArray × Int):Value:= .agg #[.string x.1, .int .i64 0, .int .i64 x.2]
def zc6 (p n:ByteArray):ByteArray × Int:=
 if 8000<p.size∨8000<n.size then (⟨#[]⟩,2) else if ¬ (za2 p=true∧zb4 n=true) then (⟨#[]⟩,1) else if (zb0 p).length=6 then (⟨#[]⟩,9) else (glue (zb0 p++[n]),0)
theorem zd7 {t:ByteArray}:t.toList.isEmpty=decide (by_ t=[]):=by
 rw [ByteArray.toList_eq];change (by_ t).isEmpty=_;cases by_ t <;> simp
end Pl
end
section
namespace Pl
structure Nd where
 path:ByteArray
 kind:Int
 data:ByteArray
 time:Int
 mark:Int
def Nd.cells (n:Nd):List Value:=[.string n.path, .int .i64 n.kind, .string n.data, .int .i64 n.time, .int .i64 n.mark]
def Nd.val (n:Nd):Value:= .agg #[.string n.path, .int .i64 n.kind, .string n.data, .int .i64 n.time, .int .i64 n.mark]
def zg3 (n:Nd):Bool:=
 if n.kind=0 then decide (n.data.size=0)&&decide (n.time=0)&&decide (1≤n.mark)
 else if n.kind=1 then decide (n.data.size=0)
 else if n.kind=2 then decide (n.mark=0) else false
def zb3 (n:Nd):Bool:=decide (n.path.size≠0)&&za2 n.path&&decide (n.data.size≤60)&&decide (0≤n.time∧n.time≤1000000)&&decide (0≤n.mark∧n.mark≤8)&&zg3 n
theorem zu0 {n:Nd} (h:n.path.size=0):zb3 n=false:=by simp [zb3,h]
theorem node_path {n:Nd} (h:za2 n.path=false):zb3 n=false:=by simp [zb3,h]
theorem node_data {n:Nd} (h:60<n.data.size):zb3 n=false:=by
 have :decide (n.data.size≤60)=false:=by simp;omega
 simp [zb3,this]
theorem node_time {n:Nd} (h:¬ (0≤n.time∧n.time≤1000000)):zb3 n=false:=by
 have :decide (0≤n.time∧n.time≤1000000)=false:=by simpa using h
 unfold zb3;rw [this];simp
theorem node_mark {n:Nd} (h:¬ (0≤n.mark∧n.mark≤8)):zb3 n=false:=by
 have :decide (0≤n.mark∧n.mark≤8)=false:=by simpa using h
 unfold zb3;rw [this];simp
theorem node_kind {n:Nd} (h0:n.path.size≠0) (h1:za2 n.path=true) (h2:n.data.size≤60) (h3:0≤n.time∧n.time≤1000000) (h4:0≤n.mark∧n.mark≤8):zb3 n=zg3 n:=by
 have e3:decide (0≤n.time∧n.time≤1000000)=true:=by simpa using h3
 have e4:decide (0≤n.mark∧n.mark≤8)=true:=by simpa using h4
 unfold zb3;rw [e3,e4];simp [h0,h1,h2]
def zj9 (n:Nd):Bool:=decide (n.data.size≤60)&&decide (0≤n.time∧n.time≤1000000)&&decide (0≤n.mark∧n.mark≤8)&&zg3 n
theorem cont_data {n:Nd} (h:60<n.data.size):zj9 n=false:=by
 have :decide (n.data.size≤60)=false:=by simp;omega
 simp [zj9,this]
theorem cont_time {n:Nd} (h:¬ (0≤n.time∧n.time≤1000000)):zj9 n=false:=by
 have :decide (0≤n.time∧n.time≤1000000)=false:=by simpa using h
 unfold zj9;rw [this];simp
theorem cont_mark {n:Nd} (h:¬ (0≤n.mark∧n.mark≤8)):zj9 n=false:=by
 have :decide (0≤n.mark∧n.mark≤8)=false:=by simpa using h
 unfold zj9;rw [this];simp
theorem cont_kind {n:Nd} (h2:n.data.size≤60) (h3:0≤n.time∧n.time≤1000000) (h4:0≤n.mark∧n.mark≤8):zj9 n=zg3 n:=by
 have e3:decide (0≤n.time∧n.time≤1000000)=true:=by simpa using h3
 have e4:decide (0≤n.mark∧n.mark≤8)=true:=by simpa using h4
 unfold zj9;rw [e3,e4];simp [h2]
theorem node_cont {n:Nd} (h0:n.path.size≠0) (h1:za2 n.path=true):zb3 n=zj9 n:=by
 unfold zb3 zj9;simp [h0,h1,Bool.and_assoc]
end Pl
end
section
namespace Pl
def za8:List ByteArray→List ByteArray→Bool
 | [],[]=>false
 | [],_::_=>true
 |_::_,[]=>false
 |a::A,b::B=>if a=b then za8 A B else Op.bytesLess a.toList b.toList
theorem less_same {A B:List ByteArray} {k:Nat} {a b:ByteArray} (ha:A[k]? =some a) (hb:B[k]? =some b) (h:a=b):za8 (A.drop k) (B.drop k)=za8 (A.drop (k+1)) (B.drop (k+1)):=by
 have h1:=(List.getElem?_eq_some_iff.1 ha);have h2:=(List.getElem?_eq_some_iff.1 hb);rw [List.drop_eq_getElem_cons h1.1,List.drop_eq_getElem_cons h2.1,za8,if_pos (by rw [h1.2,h2.2];exact h)]
theorem zx5 {A B:List ByteArray} {k:Nat} {a b:ByteArray} (ha:A[k]? =some a) (hb:B[k]? =some b) (h:a≠b):za8 (A.drop k) (B.drop k)=Op.bytesLess a.toList b.toList:=by
 have h1:=(List.getElem?_eq_some_iff.1 ha);have h2:=(List.getElem?_eq_some_iff.1 hb);rw [List.drop_eq_getElem_cons h1.1,List.drop_eq_getElem_cons h2.1,za8,if_neg (by rw [h1.2,h2.2];exact h),h1.2,h2.2]
theorem less_end {A B:List ByteArray} {k:Nat} (h:k=A.length∧k≤B.length∨k=B.length∧k≤A.length):za8 (A.drop k) (B.drop k)=decide (A.length<B.length):=by
 rcases h with ⟨rfl,h⟩|⟨rfl,h⟩
 ·rw [List.drop_length];by_cases hl:A.length<B.length
  ·rw [List.drop_eq_getElem_cons hl];simp [za8,hl]
  ·rw [List.drop_of_length_le (by omega)];simp [za8,hl]
 ·rw [List.drop_length];have hn:¬A.length<B.length:=by omega
  by_cases hl:B.length<A.length
  ·rw [List.drop_eq_getElem_cons hl];simp [za8,hn]
  ·rw [List.drop_of_length_le (by omega)];simp [za8,hn]
end Pl
end
section
namespace Pl
theorem bytes_trans:∀a b c:List UInt8,Op.bytesLess a b=true→Op.bytesLess b c=true→Op.bytesLess a c=true:=by
 intro a
 induction a with
 |nil=>
  intro b c h1 h2;cases c with
  |nil=>cases b <;> simp [Op.bytesLess] at h2
  |cons z c=>rfl
 |cons x a ih=>
  intro b c h1 h2;cases b with
  |nil=>simp [Op.bytesLess] at h1
  |cons y b=>
   cases c with
   |nil=>simp [Op.bytesLess] at h2
   |cons z c=>
    simp only [Op.bytesLess,Bool.or_eq_true,decide_eq_true_eq,Bool.and_eq_true,beq_iff_eq] at h1 h2 ⊢
    rcases h1 with h1|⟨rfl,h1⟩
    ·rcases h2 with h2|⟨rfl,h2⟩
     ·left;rw [UInt8.lt_iff_toNat_lt] at h1 h2 ⊢;omega
     ·left;exact h1
    ·rcases h2 with h2|⟨rfl,h2⟩
     ·left;exact h2
     ·right;exact ⟨rfl,ih b c h1 h2⟩
theorem zq5:∀a:List UInt8,Op.bytesLess a a=false:=by
 intro a
 induction a with
 |nil=>rfl
 |cons x a ih=>simp [Op.bytesLess,ih]
theorem zk0:∀A B C:List ByteArray,za8 A B=true→za8 B C=true→za8 A C=true:=by
 intro A
 induction A with
 |nil=>
  intro B C h1 h2;cases C with
  |nil=>cases B <;> simp [za8] at h2
  |cons c C=>rfl
 |cons a A ih=>
  intro B C h1 h2;cases B with
  |nil=>simp [za8] at h1
  |cons b B=>
   cases C with
   |nil=>simp [za8] at h2
   |cons c C=>
    rw [za8] at h1 h2 ⊢;by_cases hab:a=b
    ·subst hab;rw [if_pos rfl] at h1;by_cases hac:a=c
     ·subst hac;rw [if_pos rfl] at h2 ⊢;exact ih B C h1 h2
     ·rw [if_neg hac] at h2 ⊢;exact h2
    ·rw [if_neg hab] at h1;by_cases hbc:b=c
     ·subst hbc;rw [if_neg hab];exact h1
     ·rw [if_neg hbc] at h2;have h3:=bytes_trans _ _ _ h1 h2;by_cases hac:a=c
      ·subst hac;rw [zq5] at h3;cases h3
      ·rw [if_neg hac];exact h3
theorem zm9:∀A:List ByteArray,za8 A A=false:=by
 intro A
 induction A with
 |nil=>rfl
 |cons a A ih=>rw [za8,if_pos rfl,ih]
theorem less_drop:∀A:List ByteArray,A≠[]→za8 A.dropLast A=true:=by
 intro A h;have h1:A.dropLast++[A.getLast h]=A:=List.dropLast_concat_getLast h
 have h2:∀ (B:List ByteArray) (x:ByteArray),za8 B (B++[x])=true:=by
  intro B x
  induction B with
  |nil=>rfl
  |cons b B ih=>rw [List.cons_append,za8,if_pos rfl];exact ih
 have h3:=h2 A.dropLast (A.getLast h);rw [h1] at h3;exact h3
def ltP (a b:ByteArray):Bool:=za2 a&&za2 b&&za8 (zb0 a) (zb0 b)
def zb6 (p:ByteArray):ByteArray:=glue (zb0 p).dropLast
def parI (C:List Nd) (p:ByteArray):Bool:=decide ((zb6 p).size=0)||C.any (fun m=>decide (m.path=zb6 p)&&decide (m.kind=1))
def goI (C:List Nd) (last:ByteArray):List Nd→Bool
 | []=>true
 |n::r=>zb3 n&&ltP last n.path&&parI C n.path&&goI (C++[n]) n.path r
def zb9 (L:List Nd):Bool:=decide (L.length≤40)&&goI [] ⟨#[]⟩ L
def dirS (L:List Nd) (p:ByteArray):Bool:=decide (p.size=0)||(match L.find? (fun m=>decide (m.path=p)) with |some m=>decide (m.kind=1)|none=>false)
def prevB (prev:Option ByteArray) (p:ByteArray):Bool:=match prev with |none=>true|some q=>za8 (names q) (names p)
def goS (L:List Nd) (prev:Option ByteArray):List Nd→Bool
 | []=>true
 |n::r=>zb3 n&&prevB prev n.path&&dirS L (parent n.path)&&goS L (some n.path) r
theorem zi1 {n:Nd} (h:zb3 n=true):za2 n.path=true∧n.path.size≠0:=by
 unfold zb3 at h;simp only [Bool.and_eq_true,decide_eq_true_eq] at h;exact ⟨h.1.1.1.1.2,h.1.1.1.1.1⟩
theorem zn5 {n:Nd} (h:zb3 n=true):n.data.size≤60∧(0≤n.time∧n.time≤1000000)∧(0≤n.mark∧n.mark≤8)∧zg3 n=true:=by
 unfold zb3 at h;simp only [Bool.and_eq_true,decide_eq_true_eq] at h;exact ⟨h.1.1.1.2,h.1.1.2,h.1.2,h.2⟩
theorem zf1 {p:ByteArray} (h:za2 p=true):p.size≤200:=by
 unfold za2 at h;simp only [Bool.and_eq_true,decide_eq_true_eq] at h;exact h.1.1
theorem zs3 {p:ByteArray} (h:p.size≠0):names p≠[]:=by
 intro e;have :=zh p;rw [e] at this;simp only [List.map_nil,zi8] at this
 split at this
 ·next h1=>rw [zf7] at h1;exact h h1
 ·exact cutL_ne _ this.symm
theorem zt3 {p:ByteArray} (h:za2 p=true):parent p=zb6 p:=by rw [zn4,zb6,zc0 h]
theorem zu4 {p:ByteArray} (h:za2 p=true):names (zb6 p)=(names p).dropLast:=by
 rw [zb6,zc0 h];exact zi4 (fun t ht=>(zk9 h).1 t (List.dropLast_subset _ ht))
theorem zo8 {a b:ByteArray} (ha:za2 a=true) (hb:za2 b=true):ltP a b=za8 (names a) (names b):=by rw [ltP,ha,hb,zc0 ha,zc0 hb];rfl
theorem rise (L:List Nd):∀ (r:List Nd) (q:ByteArray),goS L (some q) r=true→∀m∈r,za8 (names q) (names m.path)=true:=by
 intro r
 induction r with
 |nil=>intro q _ m hm;cases hm
 |cons n r ih=>
  intro q h m hm;simp only [goS,Bool.and_eq_true] at h
  rcases List.mem_cons.1 hm with rfl |hm
  ·exact h.1.1.2
  ·exact zk0 _ _ _ h.1.1.2 (ih n.path h.2 m hm)
theorem find_app {α:Type} {f:α→Bool} (A B:List α):(A++B).find? f=match A.find? f with |some x=>some x|none=>B.find? f:=by
 rw [List.find?_append];cases A.find? f <;> rfl
theorem one_path {C:List Nd} (h:C.Pairwise (fun a b=>za8 (names a.path) (names b.path)=true)) {a b:Nd} (ha:a∈C) (hb:b∈C) (e:a.path=b.path):a=b:=by
 induction h with
 |nil=>cases ha
 |cons hx _ ih=>
  rcases List.mem_cons.1 ha with e1|h1
  ·rcases List.mem_cons.1 hb with e2|h2
   ·rw [e1,e2]
   ·have h3:=hx _ h2;rw [←e1,e,zm9] at h3;cases h3
  ·rcases List.mem_cons.1 hb with e2|h2
   ·have h3:=hx _ h1;rw [←e2,e,zm9] at h3;cases h3
   ·exact ih h1 h2
theorem go_same (L:List Nd):∀ (r C:List Nd) (prev:Option ByteArray) (last:ByteArray),L=C++r→(prev=none∧C=[]∧last=⟨#[]⟩∨prev=some last∧za2 last=true)→
  C.Pairwise (fun a b=>za8 (names a.path) (names b.path)=true)→(∀a∈C,a.path=last∨za8 (names a.path) (names last)=true)→goS L prev r=goI C last r:=by
 intro r
 induction r with
 |nil=>intros;rfl
 |cons n r ih=>
  intro C prev last hL hprev hC hlast;simp only [goS,goI];cases hn:zb3 n
  ·simp
  obtain ⟨hr,h0⟩:=zi1 hn
  have hlt:prevB prev n.path=ltP last n.path:=by
   rcases hprev with ⟨rfl,rfl,rfl⟩|⟨rfl,hl⟩
   ·have e1:za2 (⟨#[]⟩:ByteArray)=true:=(zi rfl).1;have e2:names (⟨#[]⟩:ByteArray)=[]:=(zi rfl).2;rw [zo8 e1 hr,e2];cases hx:names n.path with
    |nil=>exact absurd hx (zs3 h0)
    |cons a l=>rfl
   ·rw [zo8 hl hr];rfl
  rw [hlt];cases hlt2:ltP last n.path
  ·simp
  simp only [Bool.true_and,zt3 hr]
  have hall:∀a∈C,za8 (names a.path) (names n.path)=true:=by
   intro a ha
   rcases hprev with ⟨_,rfl,_⟩|⟨_,hl⟩
   ·cases ha
   ·rw [zo8 hl hr] at hlt2
    rcases hlast a ha with e|e
    ·rw [e];exact hlt2
    ·exact zk0 _ _ _ e hlt2
  have hC2:(C++[n]).Pairwise (fun a b=>za8 (names a.path) (names b.path)=true):=by
   rw [List.pairwise_append];exact ⟨hC,List.pairwise_singleton _ _,fun a ha b hb=>by simp at hb;subst hb;exact hall a ha⟩
  have hrest:goS L (some n.path) r=goI (C++[n]) n.path r:=by
   refine ih (C++[n]) (some n.path) n.path (by rw [hL];simp) (.inr ⟨rfl,hr⟩) hC2 ?_;intro a ha
   rcases List.mem_append.1 ha with ha|ha
   ·exact .inr (hall a ha)
   ·simp at ha;subst ha;exact .inl rfl
  by_cases hp:(zb6 n.path).size=0
  ·have e1:dirS L (zb6 n.path)=true:=by simp [dirS,hp]
   have e2:parI C n.path=true:=by simp [parI,hp]
   rw [e1,e2,hrest]
  cases hpar:parI C n.path
  ·have e1:(dirS L (zb6 n.path)&&goS L (some n.path) r)=false:=by
    rw [Bool.eq_false_iff];intro h;simp only [Bool.and_eq_true] at h;have hd:=h.1;simp only [dirS,hp,decide_false,Bool.false_or] at hd;rw [hL,find_app] at hd
    have hCn:C.find? (fun m=>decide (m.path=zb6 n.path))=none∨∃m,C.find? (fun m=>decide (m.path=zb6 n.path))=some m:=by
     cases C.find? (fun m=>decide (m.path=zb6 n.path)) with
     |none=>exact .inl rfl
     |some m=>exact .inr ⟨m,rfl⟩
    rcases hCn with hCn|⟨m,hm⟩
    ·rw [hCn] at hd;cases hf:(n::r).find? (fun m=>decide (m.path=zb6 n.path)) with
     |none=>rw [hf] at hd;simp at hd
     |some m=>
      have hm1:=List.mem_of_find?_eq_some hf;have hm2:m.path=zb6 n.path:=by simpa using List.find?_some hf
      have hless:za8 (names m.path) (names n.path)=true:=by
       rw [hm2,zu4 hr];exact less_drop _ (zs3 h0)
      rcases List.mem_cons.1 hm1 with rfl |hm1
      ·rw [zm9] at hless;cases hless
      ·have h3:=rise L r n.path h.2 m hm1;have h4:=zk0 _ _ _ hless h3;rw [zm9] at h4;cases h4
    ·rw [hm] at hd;have hm1:=List.mem_of_find?_eq_some hm;have hm2:m.path=zb6 n.path:=by simpa using List.find?_some hm
     have :parI C n.path=true:=by
      simp only [parI,Bool.or_eq_true,List.any_eq_true];exact .inr ⟨m,hm1,by simpa [hm2] using hd⟩
     rw [hpar] at this;cases this
   rw [e1];simp
  ·have e1:dirS L (zb6 n.path)=true:=by
    simp only [parI,hp,decide_false,Bool.false_or,List.any_eq_true,Bool.and_eq_true,decide_eq_true_eq] at hpar;obtain ⟨m,hm,hm2,hm3⟩:=hpar
    have hfind:C.find? (fun m=>decide (m.path=zb6 n.path))=some m:=by
     cases hf:C.find? (fun m=>decide (m.path=zb6 n.path)) with
     |none=>
      have :=List.find?_eq_none.1 hf m hm;simp [hm2] at this
     |some x=>
      have hx1:=List.mem_of_find?_eq_some hf;have hx2:x.path=zb6 n.path:=by simpa using List.find?_some hf
      rw [one_path hC hx1 hm (hx2.trans hm2.symm)]
    simp only [dirS,hp,decide_false,Bool.false_or];rw [hL,find_app,hfind]
    simpa using hm3
   rw [e1,hrest]
theorem tree_same (L:List Nd):goS L none L=goI [] ⟨#[]⟩ L:=
 go_same L L [] none ⟨#[]⟩ rfl (.inl ⟨rfl,rfl,rfl⟩) List.Pairwise.nil (fun a ha=>by cases ha)
theorem goI_all:∀ (r C:List Nd) (last:ByteArray),goI C last r=true→∀n∈r,zb3 n=true:=by
 intro r
 induction r with
 |nil=>intro C last _ n hn;cases hn
 |cons m r ih=>
  intro C last h n hn;simp only [goI,Bool.and_eq_true] at h
  rcases List.mem_cons.1 hn with rfl |hn
  ·exact h.1.1.1
  ·exact ih _ _ h.2 n hn
theorem goI_rise:∀ (r C:List Nd) (last:ByteArray),goI C last r=true→za2 last=true→r.Pairwise (fun a b=>za8 (names a.path) (names b.path)=true)∧∀n∈r,za8 (names last) (names n.path)=true:=by
 intro r
 induction r with
 |nil=>intro C last _ _;exact ⟨List.Pairwise.nil,fun n hn=>by cases hn⟩
 |cons m r ih=>
  intro C last h hl;simp only [goI,Bool.and_eq_true] at h;obtain ⟨hr,h0⟩:=zi1 h.1.1.1;obtain ⟨i1,i2⟩:=ih _ _ h.2 hr;have h1:=h.1.1.2;rw [zo8 hl hr] at h1;refine ⟨List.Pairwise.cons (fun n hn=>i2 n hn) i1,fun n hn=>?_⟩
  rcases List.mem_cons.1 hn with rfl |hn
  ·exact h1
  ·exact zk0 _ _ _ h1 (i2 n hn)
end Pl
end
section
namespace Pl
inductive Fo where
 |nil:Fo
 |cons (kids more:Fo):Fo
namespace Fo
def len:Fo→Nat
 | .nil=>0
 | .cons _ m=>m.len+1
def depth:Fo→Nat
 | .nil=>0
 | .cons k m=>max (k.depth+1) m.depth
def app:Fo→Fo→Fo
 | .nil,r=>r
 | .cons k m,r=> .cons k (m.app r)
theorem app_nil (a:Fo):a.app .nil=a:=by
 induction a with
 |nil=>rfl
 |cons k m _ ih=>rw [app,ih]
theorem app_assoc (a b c:Fo):(a.app b).app c=a.app (b.app c):=by
 induction a with
 |nil=>rfl
 |cons k m _ ih=>rw [app,app,app,ih]
theorem len_app (a b:Fo):(a.app b).len=a.len+b.len:=by
 induction a with
 |nil=>simp [app,len]
 |cons k m _ ih=>rw [app,len,len,ih];omega
theorem depth_app (a b:Fo):(a.app b).depth=max a.depth b.depth:=by
 induction a with
 |nil=>simp [app,depth]
 |cons k m _ ih=>rw [app,depth,depth,ih];omega
theorem zq1 (k:Fo):(Fo.cons k .nil).depth=k.depth+1:=by simp [depth]
end Fo
abbrev Row:=List (Option Nat)
def parse:Nat→Nat→Row→Option (Fo × Row)
 |_,0,L=>some (.nil,L)
 |0,_+1,_=>none
 |_+1,_+1,[]=>none
 |_+1,_+1,none::_=>none
 |f+1,k+1,some m::L=>match parse f m L with
  |none=>none
  |some (kids,R)=>match parse f k R with
   |none=>none
   |some (more,R')=>some (.cons kids more,R')
theorem zq (f:Nat):∀k L F R,parse f k L=some (F,R)→F.len=k∧R.length+k≤L.length∧∃n,R=L.drop n:=by
 induction f with
 |zero=>
  intro k L F R h;cases k with
  |zero=>simp [parse] at h;obtain ⟨rfl,rfl⟩:=h;exact ⟨rfl,Nat.le_refl _,0,rfl⟩
  |succ k=>simp [parse] at h
 |succ f ih=>
  intro k L F R h;cases k with
  |zero=>simp [parse] at h;obtain ⟨rfl,rfl⟩:=h;exact ⟨rfl,Nat.le_refl _,0,rfl⟩
  |succ k=>
   match L,h with
   | [],h=>simp [parse] at h
   |none::L,h=>simp [parse] at h
   |some m::L,h=>
    simp only [parse] at h
    split at h
    ·cases h
    ·rename_i kids R1 h1
     split at h
     ·cases h
     ·rename_i more R2 h2
      cases h
      obtain ⟨a1,a2,n1,a3⟩:=ih _ _ _ _ h1;obtain ⟨b1,b2,n2,b3⟩:=ih _ _ _ _ h2;refine ⟨by rw [Fo.len,b1],by simp;omega,n1+n2+1,?_⟩;rw [b3,a3,List.drop_drop,List.drop_succ_cons]
theorem parse_fuel (f:Nat):∀g k (L:Row),L.length≤f→L.length≤g→parse f k L=parse g k L:=by
 induction f with
 |zero=>
  intro g k L h1 h2;have :L=[]:=List.eq_nil_of_length_eq_zero (by omega);subst this;cases k <;> cases g <;> simp [parse]
 |succ f ih=>
  intro g k L h1 h2;cases k with
  |zero=>cases g <;> simp [parse]
  |succ k=>
   match L,h1,h2 with
   | [],_,_=>cases g <;> simp [parse]
   |none::L,_,h2=>cases g <;> simp [parse]
   |some m::L,h1,h2=>
    cases g with
    |zero=>simp at h2
    |succ g=>
     simp only [List.length_cons] at h1 h2;simp only [parse];rw [ih g m L (by omega) (by omega)]
     split
     ·rfl
     ·rename_i kids R h
      have :=(zq _ _ _ _ _ h).2.1;rw [ih g k R (by omega) (by omega)]
def take (k:Nat) (L:Row):Option (Fo × Row):=parse L.length k L
theorem take_zero (L:Row):take 0 L=some (.nil,L):=by unfold take;cases L.length <;> rfl
theorem zt2 (k m:Nat) (L:Row):take (k+1) (some m::L)=match take m L with
  |none=>none
  |some (kids,R)=>match take k R with
   |none=>none
   |some (more,R')=>some (.cons kids more,R'):=by
 unfold take;simp only [List.length_cons,parse]
 split
 ·rfl
 ·rename_i kids R h
  have :=(zq _ _ _ _ _ h).2.1;rw [parse_fuel L.length R.length k R (by omega) (Nat.le_refl _)]
theorem takeF_len {k:Nat} {L:Row} {F:Fo} {R:Row} (h:take k L=some (F,R)):F.len=k∧R.length+k≤L.length∧R=L.drop (L.length - R.length):=by
 obtain ⟨h1,h2,n,h3⟩:=zq _ _ _ _ _ h;refine ⟨h1,h2,?_⟩;by_cases hn:n≤L.length
 ·have :R.length=L.length - n:=by rw [h3,List.length_drop]
  rw [this,Nat.sub_sub_self hn];exact h3
 ·have e:R=[]:=by rw [h3];exact List.drop_eq_nil_of_le (by omega)
  subst e;simp
theorem zs1 (m:Nat) (L:Row):take 1 (some m::L)=(take m L).map (fun x=>(.cons x.1 .nil,x.2)):=by
 rw [show (1:Nat)=0+1 from rfl,zt2];cases h:take m L with
 |none=>rfl
 |some x=>obtain ⟨a,b⟩:=x;simp [take_zero]
theorem zu1 (k:Nat) (L:Row):take (k+1) L=match take 1 L with
  |none=>none
  |some (F,R)=>match take k R with
   |none=>none
   |some (more,R')=>some (F.app more,R'):=by
 match L with
 | []=>rfl
 |none::L=>rfl
 |some m::L=>
  rw [zs1,zt2];cases h:take m L with
  |none=>rfl
  |some x=>obtain ⟨a,b⟩:=x;rfl
theorem one_shape {L:Row} {F:Fo} {R:Row} (h:take 1 L=some (F,R)):∃kids,F= .cons kids .nil:=by
 match L,h with
 | [],h=>cases h
 |none::L,h=>cases h
 |some m::L,h=>
  rw [zs1] at h;cases h':take m L with
  |none=>rw [h'] at h;simp at h
  |some x=>rw [h'] at h;simp at h;exact ⟨x.1,h.1.symm⟩
def ends (k deep:Nat) (L:Row):Option Row:=match take k L with
 |none=>none
 |some (F,R)=>if deep+F.depth≤5 then some R else none
theorem ends_zero (deep:Nat) (L:Row) (h:deep≤5):ends 0 deep L=some L:=by
 unfold ends;rw [take_zero];simp [Fo.depth,h]
theorem ends_step (k deep:Nat) (L:Row):ends (k+1) deep L=(ends 1 deep L).bind (ends k deep):=by
 unfold ends;rw [zu1];cases h:take 1 L with
 |none=>rfl
 |some x=>
  obtain ⟨F,R⟩:=x;simp only;cases h2:take k R with
  |none=>
   by_cases h3:deep+F.depth≤5
   ·simp only [if_pos h3,Option.bind_some,h2]
   ·simp only [if_neg h3,Option.bind_none]
  |some y=>
   obtain ⟨M,R'⟩:=y;simp only [Fo.depth_app];by_cases h3:deep+F.depth≤5
   ·rw [if_pos h3];simp only [Option.bind_some,h2];by_cases h4:deep+M.depth≤5
    ·rw [if_pos h4,if_pos (by omega)]
    ·rw [if_neg h4,if_neg (by omega)]
   ·rw [if_neg h3,if_neg (by omega)];rfl
theorem ends_one (m deep:Nat) (L:Row):ends 1 deep (some m::L)=ends m (deep+1) L:=by
 unfold ends;rw [zs1];cases h1:take m L with
 |none=>rfl
 |some x=>
  obtain ⟨F,R⟩:=x;simp only [Option.map_some];have hd:=Fo.zq1 F;by_cases h2:deep+1+F.depth≤5
  ·rw [if_pos h2,if_pos (by omega)]
  ·rw [if_neg h2,if_neg (by omega)]
theorem ends_none (deep:Nat) (L:Row):ends 1 deep (none::L)=none:=rfl
theorem ends_nil (deep:Nat):ends 1 deep []=none:=rfl
theorem ends_deep (deep:Nat) (L:Row) (h:4<deep):ends 1 deep L=none:=by
 unfold ends;cases h1:take 1 L with
 |none=>rfl
 |some x=>
  obtain ⟨F,R⟩:=x;obtain ⟨kids,rfl⟩:=one_shape h1;have hd:=Fo.zq1 kids;exact if_neg (by omega)
theorem ends_len {k deep:Nat} {L R:Row} (h:ends k deep L=some R):R.length+k≤L.length∧R=L.drop (L.length - R.length):=by
 unfold ends at h;cases h1:take k L with
 |none=>rw [h1] at h;cases h
 |some x=>
  obtain ⟨F,R'⟩:=x;rw [h1] at h;simp only at h
  split at h
  ·cases h;exact (takeF_len h1).2
  ·cases h
def nest (L:Row):Option Fo:=if L.length≤12 then match take 1 L with
 |some (.cons k .nil,[])=>if k.depth≤3 then some k else none
 |_=>none else none
theorem nest_yes {L:Row} {k:Fo} (h:nest L=some k):L.length≤12∧take 1 L=some (.cons k .nil,[])∧k.depth≤3:=by
 unfold nest at h
 split at h
 ·split at h
  ·split at h
   ·cases h;exact ⟨by assumption,by assumption,by assumption⟩
   ·cases h
  ·cases h
 ·cases h
theorem nest_ends (L:Row) (h:L.length≤12):(nest L).isSome=true↔ends 1 1 L=some []:=by
 unfold nest ends;rw [if_pos h];cases h1:take 1 L with
 |none=>simp
 |some x=>
  obtain ⟨F,R⟩:=x;obtain ⟨k,rfl⟩:=one_shape h1;have hd:=Fo.zq1 k;cases R with
  |nil=>
   simp only;by_cases h2:k.depth≤3
   ·rw [if_pos h2,if_pos (by omega)];simp
   ·rw [if_neg h2,if_neg (by omega)];simp
  |cons a b=>simp only;split <;> simp
theorem zt5 (L:Row) (h:¬L.length≤12):nest L=none:=by unfold nest;rw [if_neg h]
end Pl
end
end Go.Proofs.YtpggbphcbcogdaaGreatDoor
