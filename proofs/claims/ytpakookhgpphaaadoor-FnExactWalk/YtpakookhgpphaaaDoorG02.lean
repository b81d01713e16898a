/- Several texts of one claim in one file: PlainTree, PlainSight. -/
import Derived.Test.YtpakookhgpphaaaDoorG01
import Derived.Test.YtpakookhgpphaaaDoorG00
namespace Go.Proofs.YtpakookhgpphaaaDoor
section
namespace Pl
theorem bytes_trans:∀a b c:List UInt8,Op.bytesLess a b=true→Op.bytesLess b c=true→Op.bytesLess a c=true:=by
 intro a
 induction a with
 |nil=>
  intro b c h1 h2;cases c with
  |nil=>cases b <;> simp [Op.bytesLess] at h2
  |cons z c=>rfl
 |cons x a ih=>
  intro b c h1 h2;cases b with
  |nil=>simp [Op.bytesLess] at h1
  |cons y b=>
   cases c with
   |nil=>simp [Op.bytesLess] at h2
   |cons z c=>
    simp only [Op.bytesLess,Bool.or_eq_true,decide_eq_true_eq,Bool.and_eq_true,beq_iff_eq] at h1 h2 ⊢
    rcases h1 with h1|⟨rfl,h1⟩
    ·rcases h2 with h2|⟨rfl,h2⟩
     ·left;rw [UInt8.lt_iff_toNat_lt] at h1 h2 ⊢;omega
     ·left;exact h1
    ·rcases h2 with h2|⟨rfl,h2⟩
     ·left;exact h2
     ·right;exact ⟨rfl,ih b c h1 h2⟩
theorem bytes_irr:∀a:List UInt8,Op.bytesLess a a=false:=by
 intro a
 induction a with
 |nil=>rfl
 |cons x a ih=>simp [Op.bytesLess,ih]
theorem zg2:∀A B C:List ByteArray,za3 A B=true→za3 B C=true→za3 A C=true:=by
 intro A
 induction A with
 |nil=>
  intro B C h1 h2;cases C with
  |nil=>cases B <;> simp [za3] at h2
  |cons c C=>rfl
 |cons a A ih=>
  intro B C h1 h2;cases B with
  |nil=>simp [za3] at h1
  |cons b B=>
   cases C with
   |nil=>simp [za3] at h2
   |cons c C=>
    rw [za3] at h1 h2 ⊢;by_cases hab:a=b
    ·subst hab;rw [if_pos rfl] at h1;by_cases hac:a=c
     ·subst hac;rw [if_pos rfl] at h2 ⊢;exact ih B C h1 h2
     ·rw [if_neg hac] at h2 ⊢;exact h2
    ·rw [if_neg hab] at h1;by_cases hbc:b=c
     ·subst hbc;rw [if_neg hab];exact h1
     ·rw [if_neg hbc] at h2;have h3:=bytes_trans _ _ _ h1 h2;by_cases hac:a=c
      ·subst hac;rw [bytes_irr] at h3;cases h3
      ·rw [if_neg hac];exact h3
theorem zj1:∀A:List ByteArray,za3 A A=false:=by
 intro A
 induction A with
 |nil=>rfl
 |cons a A ih=>rw [za3,if_pos rfl,ih]
theorem less_drop:∀A:List ByteArray,A≠[]→za3 A.dropLast A=true:=by
 intro A h;have h1:A.dropLast++[A.getLast h]=A:=List.dropLast_concat_getLast h
 have h2:∀ (B:List ByteArray) (x:ByteArray),za3 B (B++[x])=true:=by
  intro B x
  induction B with
  |nil=>rfl
  |cons b B ih=>rw [List.cons_append,za3,if_pos rfl];exact ih
 have h3:=h2 A.dropLast (A.getLast h);rw [h1] at h3;exact h3
def ltP (a b:ByteArray):Bool:=za2 a&&za2 b&&za3 (zb7 a) (zb7 b)
def zb4 (p:ByteArray):ByteArray:=glue (zb7 p).dropLast
def parI (C:List Nd) (p:ByteArray):Bool:=decide ((zb4 p).size=0)||C.any (fun m=>decide (m.path=zb4 p)&&decide (m.kind=1))
def goI (C:List Nd) (last:ByteArray):List Nd→Bool
 | []=>true
 |n::r=>zc5 n&&ltP last n.path&&parI C n.path&&goI (C++[n]) n.path r
def ze2 (L:List Nd):Bool:=decide (L.length≤40)&&goI [] ⟨#[]⟩ L
def dirS (L:List Nd) (p:ByteArray):Bool:=decide (p.size=0)||(match L.find? (fun m=>decide (m.path=p)) with |some m=>decide (m.kind=1)|none=>false)
def prevB (prev:Option ByteArray) (p:ByteArray):Bool:=match prev with |none=>true|some q=>za3 (names q) (names p)
def goS (L:List Nd) (prev:Option ByteArray):List Nd→Bool
 | []=>true
 |n::r=>zc5 n&&prevB prev n.path&&dirS L (parent n.path)&&goS L (some n.path) r
theorem zg3 {n:Nd} (h:zc5 n=true):za2 n.path=true∧n.path.size≠0:=by
 unfold zc5 at h;simp only [Bool.and_eq_true,decide_eq_true_eq] at h;exact ⟨h.1.1.1.1.2,h.1.1.1.1.1⟩
theorem node_bounds {n:Nd} (h:zc5 n=true):n.data.size≤60∧(0≤n.time∧n.time≤1000000)∧(0≤n.mark∧n.mark≤8)∧zm9 n=true:=by
 unfold zc5 at h;simp only [Bool.and_eq_true,decide_eq_true_eq] at h;exact ⟨h.1.1.1.2,h.1.1.2,h.1.2,h.2⟩
theorem zh9 {p:ByteArray} (h:za2 p=true):p.size≤200:=by
 unfold za2 at h;simp only [Bool.and_eq_true,decide_eq_true_eq] at h;exact h.1.1
theorem names_ne {p:ByteArray} (h:p.size≠0):names p≠[]:=by
 intro e;have :=zq3 p;rw [e] at this;simp only [List.map_nil,zl5] at this
 split at this
 ·next h1=>rw [zg0] at h1;exact h h1
 ·exact cutL_ne _ this.symm
theorem parent_right {p:ByteArray} (h:za2 p=true):parent p=zb4 p:=by rw [parent_glue,zb4,zh5 h]
theorem parent_names {p:ByteArray} (h:za2 p=true):names (zb4 p)=(names p).dropLast:=by
 rw [zb4,zh5 h];exact names_glue (fun t ht=>(pathB_all h).1 t (List.dropLast_subset _ ht))
theorem ze {a b:ByteArray} (ha:za2 a=true) (hb:za2 b=true):ltP a b=za3 (names a) (names b):=by rw [ltP,ha,hb,zh5 ha,zh5 hb];rfl
theorem rise (L:List Nd):∀ (r:List Nd) (q:ByteArray),goS L (some q) r=true→∀m∈r,za3 (names q) (names m.path)=true:=by
 intro r
 induction r with
 |nil=>intro q _ m hm;cases hm
 |cons n r ih=>
  intro q h m hm;simp only [goS,Bool.and_eq_true] at h
  rcases List.mem_cons.1 hm with rfl |hm
  ·exact h.1.1.2
  ·exact zg2 _ _ _ h.1.1.2 (ih n.path h.2 m hm)
theorem find_app {α:Type} {f:α→Bool} (A B:List α):(A++B).find? f=match A.find? f with |some x=>some x|none=>B.find? f:=by
 rw [List.find?_append];cases A.find? f <;> rfl
theorem one_path {C:List Nd} (h:C.Pairwise (fun a b=>za3 (names a.path) (names b.path)=true)) {a b:Nd} (ha:a∈C) (hb:b∈C) (e:a.path=b.path):a=b:=by
 induction h with
 |nil=>cases ha
 |cons hx _ ih=>
  rcases List.mem_cons.1 ha with e1|h1
  ·rcases List.mem_cons.1 hb with e2|h2
   ·rw [e1,e2]
   ·have h3:=hx _ h2;rw [←e1,e,zj1] at h3;cases h3
  ·rcases List.mem_cons.1 hb with e2|h2
   ·have h3:=hx _ h1;rw [←e2,e,zj1] at h3;cases h3
   ·exact ih h1 h2
theorem go_same (L:List Nd):∀ (r C:List Nd) (prev:Option ByteArray) (last:ByteArray),L=C++r→(prev=none∧C=[]∧last=⟨#[]⟩∨prev=some last∧za2 last=true)→
  C.Pairwise (fun a b=>za3 (names a.path) (names b.path)=true)→(∀a∈C,a.path=last∨za3 (names a.path) (names last)=true)→goS L prev r=goI C last r:=by
 intro r
 induction r with
 |nil=>intros;rfl
 |cons n r ih=>
  intro C prev last hL hprev hC hlast;simp only [goS,goI];cases hn:zc5 n
  ·simp
  obtain ⟨hr,h0⟩:=zg3 hn
  have hlt:prevB prev n.path=ltP last n.path:=by
   rcases hprev with ⟨rfl,rfl,rfl⟩|⟨rfl,hl⟩
   ·have e1:za2 (⟨#[]⟩:ByteArray)=true:=(zg4 rfl).1;have e2:names (⟨#[]⟩:ByteArray)=[]:=(zg4 rfl).2;rw [ze e1 hr,e2];cases hx:names n.path with
    |nil=>exact absurd hx (names_ne h0)
    |cons a l=>rfl
   ·rw [ze hl hr];rfl
  rw [hlt];cases hlt2:ltP last n.path
  ·simp
  simp only [Bool.true_and,parent_right hr]
  have hall:∀a∈C,za3 (names a.path) (names n.path)=true:=by
   intro a ha
   rcases hprev with ⟨_,rfl,_⟩|⟨_,hl⟩
   ·cases ha
   ·rw [ze hl hr] at hlt2
    rcases hlast a ha with e|e
    ·rw [e];exact hlt2
    ·exact zg2 _ _ _ e hlt2
  have hC2:(C++[n]).Pairwise (fun a b=>za3 (names a.path) (names b.path)=true):=by
   rw [List.pairwise_append];exact ⟨hC,List.pairwise_singleton _ _,fun a ha b hb=>by simp at hb;subst hb;exact hall a ha⟩
  have hrest:goS L (some n.path) r=goI (C++[n]) n.path r:=by
   refine ih (C++[n]) (some n.path) n.path (by rw [hL];simp) (.inr ⟨rfl,hr⟩) hC2 ?_;intro a ha
   rcases List.mem_append.1 ha with ha|ha
   ·exact .inr (hall a ha)
   ·simp at ha;subst ha;exact .inl rfl
  by_cases hp:(zb4 n.path).size=0
  ·have e1:dirS L (zb4 n.path)=true:=by simp [dirS,hp]
   have e2:parI C n.path=true:=by simp [parI,hp]
   rw [e1,e2,hrest]
  cases hpar:parI C n.path
  ·have e1:(dirS L (zb4 n.path)&&goS L (some n.path) r)=false:=by
    rw [Bool.eq_false_iff];intro h;simp only [Bool.and_eq_true] at h;have hd:=h.1;simp only [dirS,hp,decide_false,Bool.false_or] at hd;rw [hL,find_app] at hd
    have hCn:C.find? (fun m=>decide (m.path=zb4 n.path))=none∨∃m,C.find? (fun m=>decide (m.path=zb4 n.path))=some m:=by
     cases C.find? (fun m=>decide (m.path=zb4 n.path)) with
     |none=>exact .inl rfl
     |some m=>exact .inr ⟨m,rfl⟩
    rcases hCn with hCn|⟨m,hm⟩
    ·rw [hCn] at hd;cases hf:(n::r).find? (fun m=>decide (m.path=zb4 n.path)) with
     |none=>rw [hf] at hd;simp at hd
     |some m=>
      have hm1:=List.mem_of_find?_eq_some hf;have hm2:m.path=zb4 n.path:=by simpa using List.find?_some hf
      have hless:za3 (names m.path) (names n.path)=true:=by
       rw [hm2,parent_names hr];exact less_drop _ (names_ne h0)
      rcases List.mem_cons.1 hm1 with rfl |hm1
      ·rw [zj1] at hless;cases hless
      ·have h3:=rise L r n.path h.2 m hm1;have h4:=zg2 _ _ _ hless h3;rw [zj1] at h4;cases h4
    ·rw [hm] at hd;have hm1:=List.mem_of_find?_eq_some hm;have hm2:m.path=zb4 n.path:=by simpa using List.find?_some hm
     have :parI C n.path=true:=by
      simp only [parI,Bool.or_eq_true,List.any_eq_true];exact .inr ⟨m,hm1,by simpa [hm2] using hd⟩
     rw [hpar] at this;cases this
   rw [e1];simp
  ·have e1:dirS L (zb4 n.path)=true:=by
    simp only [parI,hp,decide_false,Bool.false_or,List.any_eq_true,Bool.and_eq_true,decide_eq_true_eq] at hpar;obtain ⟨m,hm,hm2,hm3⟩:=hpar
    have hfind:C.find? (fun m=>decide (m.path=zb4 n.path))=some m:=by
     cases hf:C.find? (fun m=>decide (m.path=zb4 n.path)) with
     |none=>
      have :=List.find?_eq_none.1 hf m hm;simp [hm2] at this
     |some x=>
      have hx1:=List.mem_of_find?_eq_some hf;have hx2:x.path=zb4 n.path:=by simpa using List.find?_some hf
      rw [one_path hC hx1 hm (hx2.trans hm2.symm)]
    simp only [dirS,hp,decide_false,Bool.false_or];rw [hL,find_app,hfind]
    simpa using hm3
   rw [e1,hrest]
theorem tree_same (L:List Nd):goS L none L=goI [] ⟨#[]⟩ L:=
 go_same L L [] none ⟨#[]⟩ rfl (.inl ⟨rfl,rfl,rfl⟩) List.Pairwise.nil (fun a ha=>by cases ha)
theorem goI_all:∀ (r C:List Nd) (last:ByteArray),goI C last r=true→∀n∈r,zc5 n=true:=by
 intro r
 induction r with
 |nil=>intro C last _ n hn;cases hn
 |cons m r ih=>
  intro C last h n hn;simp only [goI,Bool.and_eq_true] at h
  rcases List.mem_cons.1 hn with rfl |hn
  ·exact h.1.1.1
  ·exact ih _ _ h.2 n hn
theorem goI_rise:∀ (r C:List Nd) (last:ByteArray),goI C last r=true→za2 last=true→r.Pairwise (fun a b=>za3 (names a.path) (names b.path)=true)∧∀n∈r,za3 (names last) (names n.path)=true:=by
 intro r
 induction r with
 |nil=>intro C last _ _;exact ⟨List.Pairwise.nil,fun n hn=>by cases hn⟩
 |cons m r ih=>
  intro C last h hl;simp only [goI,Bool.and_eq_true] at h;obtain ⟨hr,h0⟩:=zg3 h.1.1.1;obtain ⟨i1,i2⟩:=ih _ _ h.2 hr;have h1:=h.1.1.2;rw [ze hl hr] at h1;refine ⟨List.Pairwise.cons (fun n hn=>i2 n hn) i1,fun n hn=>?_⟩
  rcases List.mem_cons.1 hn with rfl |hn
  ·exact h1
  ·exact zg2 _ _ _ h1 (i2 n hn)
end Pl
end
section
open Go.RowKit
namespace Pl
structure Sg where
 told:Bool
 node:Nd
 have':List Bool
def Sg.cs (s:Sg):List Value:=[.bool s.told, .string s.node.path, .int .i64 s.node.kind, .string s.node.data, .int .i64 s.node.time, .int .i64 s.node.mark]++s.have'.map .bool
def zeroN:Nd:=⟨⟨#[]⟩,0,⟨#[]⟩,0,0⟩
def Sg.zero:Sg:=⟨false,zeroN,[false,false,false,false]⟩
def markMax (n:Nd) (m:Int):Nd:=⟨n.path,n.kind,n.data,n.time,max n.mark m⟩
def takeS (s:Sg) (k:Nat) (n:Nd):Sg:=⟨true,markMax (if s.told then s.node else n) n.mark,s.have'.set k (decide (n.kind=1))⟩
def stopB (n:Nd):Bool:= !decide (n.kind=1)||decide (0<n.mark)
def upS (s:Sg):Sg:=
 if s.node.kind=0∧max (s.node.mark - 1) 0=0 then Sg.zero else ⟨s.told,⟨s.node.path,s.node.kind,s.node.data,s.node.time,max (s.node.mark - 1) 0⟩,s.have'⟩
def goD:Nat→Sg→List (Option Nd)→Sg
 |_,s,[]=>s
 |k,s,none::r=>goD (k+1) s r
 |k,s,some n::r=>if stopB n then takeS s k n else goD (k+1) (takeS s k n) r
def decS (ns:List (Option Nd)):Sg:=upS (goD 0 Sg.zero ns)
def lk (L:List Nd) (p:ByteArray):Option Nd:=L.find? (fun m=>decide (m.path=p))
theorem go_step {ns:List (Option Nd)} {k:Nat} {x:Option Nd} (h:ns[k]? =some x) (j:Nat) (s:Sg):goD j s (ns.drop k)=match x with |none=>goD (j+1) s (ns.drop (k+1))|some n=>if stopB n then takeS s j n else goD (j+1) (takeS s j n) (ns.drop (k+1)):=by
 have h1:=List.getElem?_eq_some_iff.1 h;rw [List.drop_eq_getElem_cons h1.1,h1.2];cases x <;> rfl
theorem go_end {ns:List (Option Nd)} {k:Nat} (h:ns.length≤k) (j:Nat) (s:Sg):goD j s (ns.drop k)=s:=by
 rw [List.drop_eq_nil_of_le h];rfl
theorem take_len (s:Sg) (k:Nat) (n:Nd):(takeS s k n).have'.length=s.have'.length:=by simp [takeS]
theorem take_mark {s:Sg} {k:Nat} {n:Nd} (h:0≤s.node.mark∧s.node.mark≤8) (hn:0≤n.mark∧n.mark≤8):0≤(takeS s k n).node.mark∧(takeS s k n).node.mark≤8:=by
 unfold takeS markMax;cases s.told <;> simp <;> omega
theorem up_len {s:Sg} (h:s.have'.length=4):(upS s).have'.length=4:=by
 unfold upS
 split
 ·rfl
 ·exact h
end Pl
end
end Go.Proofs.YtpakookhgpphaaaDoor
