import Derived.Test.YtpggbphcbcogdaaGreatDoorPlainPar
import Derived.Test.YtpggbphcbcogdaaGreatDoorPlainR
import Derived.Test.YtpggbphcbcogdaaGreatDoorPlainNode
import Derived.Test.YtpggbphcbcogdaaGreatDoorPlainLess
namespace Go.Proofs.YtpggbphcbcogdaaGreatDoor
namespace Pl
theorem bytes_trans:∀a b c:List UInt8,Op.bytesLess a b=true→Op.bytesLess b c=true→Op.bytesLess a c=true:=by
 intro a
 induction a with
 |nil=>
  intro b c h1 h2;cases c with
  |nil=>cases b <;> simp [Op.bytesLess] at h2
  |cons z c=>rfl
 |cons x a ih=>
  intro b c h1 h2;cases b with
  |nil=>simp [Op.bytesLess] at h1
  |cons y b=>
   cases c with
   |nil=>simp [Op.bytesLess] at h2
   |cons z c=>
    simp only [Op.bytesLess,Bool.or_eq_true,decide_eq_true_eq,Bool.and_eq_true,beq_iff_eq] at h1 h2 ⊢
    rcases h1 with h1|⟨rfl,h1⟩
    ·rcases h2 with h2|⟨rfl,h2⟩
     ·left;rw [UInt8.lt_iff_toNat_lt] at h1 h2 ⊢;omega
     ·left;exact h1
    ·rcases h2 with h2|⟨rfl,h2⟩
     ·left;exact h2
     ·right;exact ⟨rfl,ih b c h1 h2⟩
theorem zq5:∀a:List UInt8,Op.bytesLess a a=false:=by
 intro a
 induction a with
 |nil=>rfl
 |cons x a ih=>simp [Op.bytesLess,ih]
theorem zk0:∀A B C:List ByteArray,za8 A B=true→za8 B C=true→za8 A C=true:=by
 intro A
 induction A with
 |nil=>
  intro B C h1 h2;cases C with
  |nil=>cases B <;> simp [za8] at h2
  |cons c C=>rfl
 |cons a A ih=>
  intro B C h1 h2;cases B with
  |nil=>simp [za8] at h1
  |cons b B=>
   cases C with
   |nil=>simp [za8] at h2
   |cons c C=>
    rw [za8] at h1 h2 ⊢;by_cases hab:a=b
    ·subst hab;rw [if_pos rfl] at h1;by_cases hac:a=c
     ·subst hac;rw [if_pos rfl] at h2 ⊢;exact ih B C h1 h2
     ·rw [if_neg hac] at h2 ⊢;exact h2
    ·rw [if_neg hab] at h1;by_cases hbc:b=c
     ·subst hbc;rw [if_neg hab];exact h1
     ·rw [if_neg hbc] at h2;have h3:=bytes_trans _ _ _ h1 h2;by_cases hac:a=c
      ·subst hac;rw [zq5] at h3;cases h3
      ·rw [if_neg hac];exact h3
theorem zm9:∀A:List ByteArray,za8 A A=false:=by
 intro A
 induction A with
 |nil=>rfl
 |cons a A ih=>rw [za8,if_pos rfl,ih]
theorem less_drop:∀A:List ByteArray,A≠[]→za8 A.dropLast A=true:=by
 intro A h;have h1:A.dropLast++[A.getLast h]=A:=List.dropLast_concat_getLast h
 have h2:∀ (B:List ByteArray) (x:ByteArray),za8 B (B++[x])=true:=by
  intro B x
  induction B with
  |nil=>rfl
  |cons b B ih=>rw [List.cons_append,za8,if_pos rfl];exact ih
 have h3:=h2 A.dropLast (A.getLast h);rw [h1] at h3;exact h3
def ltP (a b:ByteArray):Bool:=za2 a&&za2 b&&za8 (zb0 a) (zb0 b)
def zb6 (p:ByteArray):ByteArray:=glue (zb0 p).dropLast
def parI (C:List Nd) (p:ByteArray):Bool:=decide ((zb6 p).size=0)||C.any (fun m=>decide (m.path=zb6 p)&&decide (m.kind=1))
def goI (C:List Nd) (last:ByteArray):List Nd→Bool
 | []=>true
 |n::r=>zb3 n&&ltP last n.path&&parI C n.path&&goI (C++[n]) n.path r
def zb9 (L:List Nd):Bool:=decide (L.length≤40)&&goI [] ⟨#[]⟩ L
def dirS (L:List Nd) (p:ByteArray):Bool:=decide (p.size=0)||(match L.find? (fun m=>decide (m.path=p)) with |some m=>decide (m.kind=1)|none=>false)
def prevB (prev:Option ByteArray) (p:ByteArray):Bool:=match prev with |none=>true|some q=>za8 (names q) (names p)
def goS (L:List Nd) (prev:Option ByteArray):List Nd→Bool
 | []=>true
 |n::r=>zb3 n&&prevB prev n.path&&dirS L (parent n.path)&&goS L (some n.path) r
theorem zi1 {n:Nd} (h:zb3 n=true):za2 n.path=true∧n.path.size≠0:=by
 unfold zb3 at h;simp only [Bool.and_eq_true,decide_eq_true_eq] at h;exact ⟨h.1.1.1.1.2,h.1.1.1.1.1⟩
theorem zn5 {n:Nd} (h:zb3 n=true):n.data.size≤60∧(0≤n.time∧n.time≤1000000)∧(0≤n.mark∧n.mark≤8)∧zg3 n=true:=by
 unfold zb3 at h;simp only [Bool.and_eq_true,decide_eq_true_eq] at h;exact ⟨h.1.1.1.2,h.1.1.2,h.1.2,h.2⟩
theorem zf1 {p:ByteArray} (h:za2 p=true):p.size≤200:=by
 unfold za2 at h;simp only [Bool.and_eq_true,decide_eq_true_eq] at h;exact h.1.1
theorem zs3 {p:ByteArray} (h:p.size≠0):names p≠[]:=by
 intro e;have :=zh p;rw [e] at this;simp only [List.map_nil,zi8] at this
 split at this
 ·next h1=>rw [zf7] at h1;exact h h1
 ·exact cutL_ne _ this.symm
theorem zt3 {p:ByteArray} (h:za2 p=true):parent p=zb6 p:=by rw [zn4,zb6,zc0 h]
theorem zu4 {p:ByteArray} (h:za2 p=true):names (zb6 p)=(names p).dropLast:=by
 rw [zb6,zc0 h];exact zi4 (fun t ht=>(zk9 h).1 t (List.dropLast_subset _ ht))
theorem zo8 {a b:ByteArray} (ha:za2 a=true) (hb:za2 b=true):ltP a b=za8 (names a) (names b):=by rw [ltP,ha,hb,zc0 ha,zc0 hb];rfl
theorem rise (L:List Nd):∀ (r:List Nd) (q:ByteArray),goS L (some q) r=true→∀m∈r,za8 (names q) (names m.path)=true:=by
 intro r
 induction r with
 |nil=>intro q _ m hm;cases hm
 |cons n r ih=>
  intro q h m hm;simp only [goS,Bool.and_eq_true] at h
  rcases List.mem_cons.1 hm with rfl |hm
  ·exact h.1.1.2
  ·exact zk0 _ _ _ h.1.1.2 (ih n.path h.2 m hm)
theorem find_app {α:Type} {f:α→Bool} (A B:List α):(A++B).find? f=match A.find? f with |some x=>some x|none=>B.find? f:=by
 rw [List.find?_append];cases A.find? f <;> rfl
theorem one_path {C:List Nd} (h:C.Pairwise (fun a b=>za8 (names a.path) (names b.path)=true)) {a b:Nd} (ha:a∈C) (hb:b∈C) (e:a.path=b.path):a=b:=by
 induction h with
 |nil=>cases ha
 |cons hx _ ih=>
  rcases List.mem_cons.1 ha with e1|h1
  ·rcases List.mem_cons.1 hb with e2|h2
   ·rw [e1,e2]
   ·have h3:=hx _ h2;rw [←e1,e,zm9] at h3;cases h3
  ·rcases List.mem_cons.1 hb with e2|h2
   ·have h3:=hx _ h1;rw [←e2,e,zm9] at h3;cases h3
   ·exact ih h1 h2
theorem go_same (L:List Nd):∀ (r C:List Nd) (prev:Option ByteArray) (last:ByteArray),L=C++r→(prev=none∧C=[]∧last=⟨#[]⟩∨prev=some last∧za2 last=true)→
  C.Pairwise (fun a b=>za8 (names a.path) (names b.path)=true)→(∀a∈C,a.path=last∨za8 (names a.path) (names last)=true)→goS L prev r=goI C last r:=by
 intro r
 induction r with
 |nil=>intros;rfl
 |cons n r ih=>
  intro C prev last hL hprev hC hlast;simp only [goS,goI];cases hn:zb3 n
  ·simp
  obtain ⟨hr,h0⟩:=zi1 hn
  have hlt:prevB prev n.path=ltP last n.path:=by
   rcases hprev with ⟨rfl,rfl,rfl⟩|⟨rfl,hl⟩
   ·have e1:za2 (⟨#[]⟩:ByteArray)=true:=(zi rfl).1;have e2:names (⟨#[]⟩:ByteArray)=[]:=(zi rfl).2;rw [zo8 e1 hr,e2];cases hx:names n.path with
    |nil=>exact absurd hx (zs3 h0)
    |cons a l=>rfl
   ·rw [zo8 hl hr];rfl
  rw [hlt];cases hlt2:ltP last n.path
  ·simp
  simp only [Bool.true_and,zt3 hr]
  have hall:∀a∈C,za8 (names a.path) (names n.path)=true:=by
   intro a ha
   rcases hprev with ⟨_,rfl,_⟩|⟨_,hl⟩
   ·cases ha
   ·rw [zo8 hl hr] at hlt2
    rcases hlast a ha with e|e
    ·rw [e];exact hlt2
    ·exact zk0 _ _ _ e hlt2
  have hC2:(C++[n]).Pairwise (fun a b=>za8 (names a.path) (names b.path)=true):=by
   rw [List.pairwise_append];exact ⟨hC,List.pairwise_singleton _ _,fun a ha b hb=>by simp at hb;subst hb;exact hall a ha⟩
  have hrest:goS L (some n.path) r=goI (C++[n]) n.path r:=by
   refine ih (C++[n]) (some n.path) n.path (by rw [hL];simp) (.inr ⟨rfl,hr⟩) hC2 ?_;intro a ha
   rcases List.mem_append.1 ha with ha|ha
   ·exact .inr (hall a ha)
   ·simp at ha;subst ha;exact .inl rfl
  by_cases hp:(zb6 n.path).size=0
  ·have e1:dirS L (zb6 n.path)=true:=by simp [dirS,hp]
   have e2:parI C n.path=true:=by simp [parI,hp]
   rw [e1,e2,hrest]
  cases hpar:parI C n.path
  ·have e1:(dirS L (zb6 n.path)&&goS L (some n.path) r)=false:=by
    rw [Bool.eq_false_iff];intro h;simp only [Bool.and_eq_true] at h;have hd:=h.1;simp only [dirS,hp,decide_false,Bool.false_or] at hd;rw [hL,find_app] at hd
    have hCn:C.find? (fun m=>decide (m.path=zb6 n.path))=none∨∃m,C.find? (fun m=>decide (m.path=zb6 n.path))=some m:=by
     cases C.find? (fun m=>decide (m.path=zb6 n.path)) with
     |none=>exact .inl rfl
     |some m=>exact .inr ⟨m,rfl⟩
    rcases hCn with hCn|⟨m,hm⟩
    ·rw [hCn] at hd;cases hf:(n::r).find? (fun m=>decide (m.path=zb6 n.path)) with
     |none=>rw [hf] at hd;simp at hd
     |some m=>
      have hm1:=List.mem_of_find?_eq_some hf;have hm2:m.path=zb6 n.path:=by simpa using List.find?_some hf
      have hless:za8 (names m.path) (names n.path)=true:=by
       rw [hm2,zu4 hr];exact less_drop _ (zs3 h0)
      rcases List.mem_cons.1 hm1 with rfl |hm1
      ·rw [zm9] at hless;cases hless
      ·have h3:=rise L r n.path h.2 m hm1;have h4:=zk0 _ _ _ hless h3;rw [zm9] at h4;cases h4
    ·rw [hm] at hd;have hm1:=List.mem_of_find?_eq_some hm;have hm2:m.path=zb6 n.path:=by simpa using List.find?_some hm
     have :parI C n.path=true:=by
      simp only [parI,Bool.or_eq_true,List.any_eq_true];exact .inr ⟨m,hm1,by simpa [hm2] using hd⟩
     rw [hpar] at this;cases this
   rw [e1];simp
  ·have e1:dirS L (zb6 n.path)=true:=by
    simp only [parI,hp,decide_false,Bool.false_or,List.any_eq_true,Bool.and_eq_true,decide_eq_true_eq] at hpar;obtain ⟨m,hm,hm2,hm3⟩:=hpar
    have hfind:C.find? (fun m=>decide (m.path=zb6 n.path))=some m:=by
     cases hf:C.find? (fun m=>decide (m.path=zb6 n.path)) with
     |none=>
      have :=List.find?_eq_none.1 hf m hm;simp [hm2] at this
     |some x=>
      have hx1:=List.mem_of_find?_eq_some hf;have hx2:x.path=zb6 n.path:=by simpa using List.find?_some hf
      rw [one_path hC hx1 hm (hx2.trans hm2.symm)]
    simp only [dirS,hp,decide_false,Bool.false_or];rw [hL,find_app,hfind]
    simpa using hm3
   rw [e1,hrest]
theorem tree_same (L:List Nd):goS L none L=goI [] ⟨#[]⟩ L:=
 go_same L L [] none ⟨#[]⟩ rfl (.inl ⟨rfl,rfl,rfl⟩) List.Pairwise.nil (fun a ha=>by cases ha)
theorem goI_all:∀ (r C:List Nd) (last:ByteArray),goI C last r=true→∀n∈r,zb3 n=true:=by
 intro r
 induction r with
 |nil=>intro C last _ n hn;cases hn
 |cons m r ih=>
  intro C last h n hn;simp only [goI,Bool.and_eq_true] at h
  rcases List.mem_cons.1 hn with rfl |hn
  ·exact h.1.1.1
  ·exact ih _ _ h.2 n hn
theorem goI_rise:∀ (r C:List Nd) (last:ByteArray),goI C last r=true→za2 last=true→r.Pairwise (fun a b=>za8 (names a.path) (names b.path)=true)∧∀n∈r,za8 (names last) (names n.path)=true:=by
 intro r
 induction r with
 |nil=>intro C last _ _;exact ⟨List.Pairwise.nil,fun n hn=>by cases hn⟩
 |cons m r ih=>
  intro C last h hl;simp only [goI,Bool.and_eq_true] at h;obtain ⟨hr,h0⟩:=zi1 h.1.1.1;obtain ⟨i1,i2⟩:=ih _ _ h.2 hr;have h1:=h.1.1.2;rw [zo8 hl hr] at h1;refine ⟨List.Pairwise.cons (fun n hn=>i2 n hn) i1,fun n hn=>?_⟩
  rcases List.mem_cons.1 hn with rfl |hn
  ·exact h1
  ·exact zk0 _ _ _ h1 (i2 n hn)
end Pl
end Go.Proofs.YtpggbphcbcogdaaGreatDoor
