/- Several texts of one claim in one file: PlainTree, PlainNest, PlainItem, PlainFx, PlainLaw, PlainNames, PlainTreeI, PlainNestX, PlainDel. -/
import Derived.Test.YtonffldjbmednaaGreatDoorG00
import Derived.WalkKit
import Derived.Laws.IdiomStrings
import Derived.Below
import Derived.Deep.RegionHeld3
import Derived.Test.YtonffldjbmednaaGreatDoorProg
import Derived.WalkSpells
import Derived.Lib.OthersKept
import Derived.Laws.RangeAny
import Derived.Deep.Draws
import Derived.Deep.QuietTactic
import Derived.BigQuiet
import Derived.Maps.OwnSet
import Derived.Maps.RangeWalk
namespace Go.Proofs.YtonffldjbmednaaGreatDoor
section
namespace Pl
theorem bytes_trans:∀a b c:List UInt8,Op.bytesLess a b=true→Op.bytesLess b c=true→Op.bytesLess a c=true:=by
 intro a
 induction a with
 |nil=>
  intro b c h1 h2;cases c with
  |nil=>cases b <;> simp [Op.bytesLess] at h2
  |cons z c=>rfl
 |cons x a ih=>
  intro b c h1 h2;cases b with
  |nil=>simp [Op.bytesLess] at h1
  |cons y b=>
   cases c with
   |nil=>simp [Op.bytesLess] at h2
   |cons z c=>
    simp only [Op.bytesLess,Bool.or_eq_true,decide_eq_true_eq,Bool.and_eq_true,beq_iff_eq] at h1 h2 ⊢
    rcases h1 with h1|⟨rfl,h1⟩
    ·rcases h2 with h2|⟨rfl,h2⟩
     ·left;rw [UInt8.lt_iff_toNat_lt] at h1 h2 ⊢;omega
     ·left;exact h1
    ·rcases h2 with h2|⟨rfl,h2⟩
     ·left;exact h2
     ·right;exact ⟨rfl,ih b c h1 h2⟩
theorem bytes_irr:∀a:List UInt8,Op.bytesLess a a=false:=by
 intro a
 induction a with
 |nil=>rfl
 |cons x a ih=>simp [Op.bytesLess,ih]
theorem zg2:∀A B C:List ByteArray,za3 A B=true→za3 B C=true→za3 A C=true:=by
 intro A
 induction A with
 |nil=>
  intro B C h1 h2;cases C with
  |nil=>cases B <;> simp [za3] at h2
  |cons c C=>rfl
 |cons a A ih=>
  intro B C h1 h2;cases B with
  |nil=>simp [za3] at h1
  |cons b B=>
   cases C with
   |nil=>simp [za3] at h2
   |cons c C=>
    rw [za3] at h1 h2 ⊢;by_cases hab:a=b
    ·subst hab;rw [if_pos rfl] at h1;by_cases hac:a=c
     ·subst hac;rw [if_pos rfl] at h2 ⊢;exact ih B C h1 h2
     ·rw [if_neg hac] at h2 ⊢;exact h2
    ·rw [if_neg hab] at h1;by_cases hbc:b=c
     ·subst hbc;rw [if_neg hab];exact h1
     ·rw [if_neg hbc] at h2;have h3:=bytes_trans _ _ _ h1 h2;by_cases hac:a=c
      ·subst hac;rw [bytes_irr] at h3;cases h3
      ·rw [if_neg hac];exact h3
theorem zj1:∀A:List ByteArray,za3 A A=false:=by
 intro A
 induction A with
 |nil=>rfl
 |cons a A ih=>rw [za3,if_pos rfl,ih]
theorem less_drop:∀A:List ByteArray,A≠[]→za3 A.dropLast A=true:=by
 intro A h;have h1:A.dropLast++[A.getLast h]=A:=List.dropLast_concat_getLast h
 have h2:∀ (B:List ByteArray) (x:ByteArray),za3 B (B++[x])=true:=by
  intro B x
  induction B with
  |nil=>rfl
  |cons b B ih=>rw [List.cons_append,za3,if_pos rfl];exact ih
 have h3:=h2 A.dropLast (A.getLast h);rw [h1] at h3;exact h3
def ltP (a b:ByteArray):Bool:=za2 a&&za2 b&&za3 (zb7 a) (zb7 b)
def zb4 (p:ByteArray):ByteArray:=glue (zb7 p).dropLast
def parI (C:List Nd) (p:ByteArray):Bool:=decide ((zb4 p).size=0)||C.any (fun m=>decide (m.path=zb4 p)&&decide (m.kind=1))
def goI (C:List Nd) (last:ByteArray):List Nd→Bool
 | []=>true
 |n::r=>zc5 n&&ltP last n.path&&parI C n.path&&goI (C++[n]) n.path r
def ze2 (L:List Nd):Bool:=decide (L.length≤40)&&goI [] ⟨#[]⟩ L
def dirS (L:List Nd) (p:ByteArray):Bool:=decide (p.size=0)||(match L.find? (fun m=>decide (m.path=p)) with |some m=>decide (m.kind=1)|none=>false)
def prevB (prev:Option ByteArray) (p:ByteArray):Bool:=match prev with |none=>true|some q=>za3 (names q) (names p)
def goS (L:List Nd) (prev:Option ByteArray):List Nd→Bool
 | []=>true
 |n::r=>zc5 n&&prevB prev n.path&&dirS L (parent n.path)&&goS L (some n.path) r
theorem zg3 {n:Nd} (h:zc5 n=true):za2 n.path=true∧n.path.size≠0:=by
 unfold zc5 at h;simp only [Bool.and_eq_true,decide_eq_true_eq] at h;exact ⟨h.1.1.1.1.2,h.1.1.1.1.1⟩
theorem node_bounds {n:Nd} (h:zc5 n=true):n.data.size≤60∧(0≤n.time∧n.time≤1000000)∧(0≤n.mark∧n.mark≤8)∧zm9 n=true:=by
 unfold zc5 at h;simp only [Bool.and_eq_true,decide_eq_true_eq] at h;exact ⟨h.1.1.1.2,h.1.1.2,h.1.2,h.2⟩
theorem zh9 {p:ByteArray} (h:za2 p=true):p.size≤200:=by
 unfold za2 at h;simp only [Bool.and_eq_true,decide_eq_true_eq] at h;exact h.1.1
theorem names_ne {p:ByteArray} (h:p.size≠0):names p≠[]:=by
 intro e;have :=zq3 p;rw [e] at this;simp only [List.map_nil,zl5] at this
 split at this
 ·next h1=>rw [zg0] at h1;exact h h1
 ·exact cutL_ne _ this.symm
theorem parent_right {p:ByteArray} (h:za2 p=true):parent p=zb4 p:=by rw [parent_glue,zb4,zh5 h]
theorem parent_names {p:ByteArray} (h:za2 p=true):names (zb4 p)=(names p).dropLast:=by
 rw [zb4,zh5 h];exact names_glue (fun t ht=>(pathB_all h).1 t (List.dropLast_subset _ ht))
theorem ze {a b:ByteArray} (ha:za2 a=true) (hb:za2 b=true):ltP a b=za3 (names a) (names b):=by rw [ltP,ha,hb,zh5 ha,zh5 hb];rfl
theorem rise (L:List Nd):∀ (r:List Nd) (q:ByteArray),goS L (some q) r=true→∀m∈r,za3 (names q) (names m.path)=true:=by
 intro r
 induction r with
 |nil=>intro q _ m hm;cases hm
 |cons n r ih=>
  intro q h m hm;simp only [goS,Bool.and_eq_true] at h
  rcases List.mem_cons.1 hm with rfl |hm
  ·exact h.1.1.2
  ·exact zg2 _ _ _ h.1.1.2 (ih n.path h.2 m hm)
theorem find_app {α:Type} {f:α→Bool} (A B:List α):(A++B).find? f=match A.find? f with |some x=>some x|none=>B.find? f:=by
 rw [List.find?_append];cases A.find? f <;> rfl
theorem one_path {C:List Nd} (h:C.Pairwise (fun a b=>za3 (names a.path) (names b.path)=true)) {a b:Nd} (ha:a∈C) (hb:b∈C) (e:a.path=b.path):a=b:=by
 induction h with
 |nil=>cases ha
 |cons hx _ ih=>
  rcases List.mem_cons.1 ha with e1|h1
  ·rcases List.mem_cons.1 hb with e2|h2
   ·rw [e1,e2]
   ·have h3:=hx _ h2;rw [←e1,e,zj1] at h3;cases h3
  ·rcases List.mem_cons.1 hb with e2|h2
   ·have h3:=hx _ h1;rw [←e2,e,zj1] at h3;cases h3
   ·exact ih h1 h2
theorem go_same (L:List Nd):∀ (r C:List Nd) (prev:Option ByteArray) (last:ByteArray),L=C++r→(prev=none∧C=[]∧last=⟨#[]⟩∨prev=some last∧za2 last=true)→
  C.Pairwise (fun a b=>za3 (names a.path) (names b.path)=true)→(∀a∈C,a.path=last∨za3 (names a.path) (names last)=true)→goS L prev r=goI C last r:=by
 intro r
 induction r with
 |nil=>intros;rfl
 |cons n r ih=>
  intro C prev last hL hprev hC hlast;simp only [goS,goI];cases hn:zc5 n
  ·simp
  obtain ⟨hr,h0⟩:=zg3 hn
  have hlt:prevB prev n.path=ltP last n.path:=by
   rcases hprev with ⟨rfl,rfl,rfl⟩|⟨rfl,hl⟩
   ·have e1:za2 (⟨#[]⟩:ByteArray)=true:=(zg4 rfl).1;have e2:names (⟨#[]⟩:ByteArray)=[]:=(zg4 rfl).2;rw [ze e1 hr,e2];cases hx:names n.path with
    |nil=>exact absurd hx (names_ne h0)
    |cons a l=>rfl
   ·rw [ze hl hr];rfl
  rw [hlt];cases hlt2:ltP last n.path
  ·simp
  simp only [Bool.true_and,parent_right hr]
  have hall:∀a∈C,za3 (names a.path) (names n.path)=true:=by
   intro a ha
   rcases hprev with ⟨_,rfl,_⟩|⟨_,hl⟩
   ·cases ha
   ·rw [ze hl hr] at hlt2
    rcases hlast a ha with e|e
    ·rw [e];exact hlt2
    ·exact zg2 _ _ _ e hlt2
  have hC2:(C++[n]).Pairwise (fun a b=>za3 (names a.path) (names b.path)=true):=by
   rw [List.pairwise_append];exact ⟨hC,List.pairwise_singleton _ _,fun a ha b hb=>by simp at hb;subst hb;exact hall a ha⟩
  have hrest:goS L (some n.path) r=goI (C++[n]) n.path r:=by
   refine ih (C++[n]) (some n.path) n.path (by rw [hL];simp) (.inr ⟨rfl,hr⟩) hC2 ?_;intro a ha
   rcases List.mem_append.1 ha with ha|ha
   ·exact .inr (hall a ha)
   ·simp at ha;subst ha;exact .inl rfl
  by_cases hp:(zb4 n.path).size=0
  ·have e1:dirS L (zb4 n.path)=true:=by simp [dirS,hp]
   have e2:parI C n.path=true:=by simp [parI,hp]
   rw [e1,e2,hrest]
  cases hpar:parI C n.path
  ·have e1:(dirS L (zb4 n.path)&&goS L (some n.path) r)=false:=by
    rw [Bool.eq_false_iff];intro h;simp only [Bool.and_eq_true] at h;have hd:=h.1;simp only [dirS,hp,decide_false,Bool.false_or] at hd;rw [hL,find_app] at hd
    have hCn:C.find? (fun m=>decide (m.path=zb4 n.path))=none∨∃m,C.find? (fun m=>decide (m.path=zb4 n.path))=some m:=by
     cases C.find? (fun m=>decide (m.path=zb4 n.path)) with
     |none=>exact .inl rfl
     |some m=>exact .inr ⟨m,rfl⟩
    rcases hCn with hCn|⟨m,hm⟩
    ·rw [hCn] at hd;cases hf:(n::r).find? (fun m=>decide (m.path=zb4 n.path)) with
     |none=>rw [hf] at hd;simp at hd
     |some m=>
      have hm1:=List.mem_of_find?_eq_some hf;have hm2:m.path=zb4 n.path:=by simpa using List.find?_some hf
      have hless:za3 (names m.path) (names n.path)=true:=by
       rw [hm2,parent_names hr];exact less_drop _ (names_ne h0)
      rcases List.mem_cons.1 hm1 with rfl |hm1
      ·rw [zj1] at hless;cases hless
      ·have h3:=rise L r n.path h.2 m hm1;have h4:=zg2 _ _ _ hless h3;rw [zj1] at h4;cases h4
    ·rw [hm] at hd;have hm1:=List.mem_of_find?_eq_some hm;have hm2:m.path=zb4 n.path:=by simpa using List.find?_some hm
     have :parI C n.path=true:=by
      simp only [parI,Bool.or_eq_true,List.any_eq_true];exact .inr ⟨m,hm1,by simpa [hm2] using hd⟩
     rw [hpar] at this;cases this
   rw [e1];simp
  ·have e1:dirS L (zb4 n.path)=true:=by
    simp only [parI,hp,decide_false,Bool.false_or,List.any_eq_true,Bool.and_eq_true,decide_eq_true_eq] at hpar;obtain ⟨m,hm,hm2,hm3⟩:=hpar
    have hfind:C.find? (fun m=>decide (m.path=zb4 n.path))=some m:=by
     cases hf:C.find? (fun m=>decide (m.path=zb4 n.path)) with
     |none=>
      have :=List.find?_eq_none.1 hf m hm;simp [hm2] at this
     |some x=>
      have hx1:=List.mem_of_find?_eq_some hf;have hx2:x.path=zb4 n.path:=by simpa using List.find?_some hf
      rw [one_path hC hx1 hm (hx2.trans hm2.symm)]
    simp only [dirS,hp,decide_false,Bool.false_or];rw [hL,find_app,hfind]
    simpa using hm3
   rw [e1,hrest]
theorem tree_same (L:List Nd):goS L none L=goI [] ⟨#[]⟩ L:=
 go_same L L [] none ⟨#[]⟩ rfl (.inl ⟨rfl,rfl,rfl⟩) List.Pairwise.nil (fun a ha=>by cases ha)
theorem goI_all:∀ (r C:List Nd) (last:ByteArray),goI C last r=true→∀n∈r,zc5 n=true:=by
 intro r
 induction r with
 |nil=>intro C last _ n hn;cases hn
 |cons m r ih=>
  intro C last h n hn;simp only [goI,Bool.and_eq_true] at h
  rcases List.mem_cons.1 hn with rfl |hn
  ·exact h.1.1.1
  ·exact ih _ _ h.2 n hn
theorem goI_rise:∀ (r C:List Nd) (last:ByteArray),goI C last r=true→za2 last=true→r.Pairwise (fun a b=>za3 (names a.path) (names b.path)=true)∧∀n∈r,za3 (names last) (names n.path)=true:=by
 intro r
 induction r with
 |nil=>intro C last _ _;exact ⟨List.Pairwise.nil,fun n hn=>by cases hn⟩
 |cons m r ih=>
  intro C last h hl;simp only [goI,Bool.and_eq_true] at h;obtain ⟨hr,h0⟩:=zg3 h.1.1.1;obtain ⟨i1,i2⟩:=ih _ _ h.2 hr;have h1:=h.1.1.2;rw [ze hl hr] at h1;refine ⟨List.Pairwise.cons (fun n hn=>i2 n hn) i1,fun n hn=>?_⟩
  rcases List.mem_cons.1 hn with rfl |hn
  ·exact h1
  ·exact zg2 _ _ _ h1 (i2 n hn)
end Pl
end
section
namespace Pl
inductive Fo where
 |nil:Fo
 |cons (kids more:Fo):Fo
namespace Fo
def len:Fo→Nat
 | .nil=>0
 | .cons _ m=>m.len+1
def depth:Fo→Nat
 | .nil=>0
 | .cons k m=>max (k.depth+1) m.depth
def app:Fo→Fo→Fo
 | .nil,r=>r
 | .cons k m,r=> .cons k (m.app r)
theorem app_nil (a:Fo):a.app .nil=a:=by
 induction a with
 |nil=>rfl
 |cons k m _ ih=>rw [app,ih]
theorem app_assoc (a b c:Fo):(a.app b).app c=a.app (b.app c):=by
 induction a with
 |nil=>rfl
 |cons k m _ ih=>rw [app,app,app,ih]
theorem len_app (a b:Fo):(a.app b).len=a.len+b.len:=by
 induction a with
 |nil=>simp [app,len]
 |cons k m _ ih=>rw [app,len,len,ih];omega
theorem depth_app (a b:Fo):(a.app b).depth=max a.depth b.depth:=by
 induction a with
 |nil=>simp [app,depth]
 |cons k m _ ih=>rw [app,depth,depth,ih];omega
theorem zy (k:Fo):(Fo.cons k .nil).depth=k.depth+1:=by simp [depth]
end Fo
abbrev Row:=List (Option Nat)
def parse:Nat→Nat→Row→Option (Fo × Row)
 |_,0,L=>some (.nil,L)
 |0,_+1,_=>none
 |_+1,_+1,[]=>none
 |_+1,_+1,none::_=>none
 |f+1,k+1,some m::L=>match parse f m L with
  |none=>none
  |some (kids,R)=>match parse f k R with
   |none=>none
   |some (more,R')=>some (.cons kids more,R')
theorem zs3 (f:Nat):∀k L F R,parse f k L=some (F,R)→F.len=k∧R.length+k≤L.length∧∃n,R=L.drop n:=by
 induction f with
 |zero=>
  intro k L F R h;cases k with
  |zero=>simp [parse] at h;obtain ⟨rfl,rfl⟩:=h;exact ⟨rfl,Nat.le_refl _,0,rfl⟩
  |succ k=>simp [parse] at h
 |succ f ih=>
  intro k L F R h;cases k with
  |zero=>simp [parse] at h;obtain ⟨rfl,rfl⟩:=h;exact ⟨rfl,Nat.le_refl _,0,rfl⟩
  |succ k=>
   match L,h with
   | [],h=>simp [parse] at h
   |none::L,h=>simp [parse] at h
   |some m::L,h=>
    simp only [parse] at h
    split at h
    ·cases h
    ·rename_i kids R1 h1
     split at h
     ·cases h
     ·rename_i more R2 h2
      cases h
      obtain ⟨a1,a2,n1,a3⟩:=ih _ _ _ _ h1;obtain ⟨b1,b2,n2,b3⟩:=ih _ _ _ _ h2;refine ⟨by rw [Fo.len,b1],by simp;omega,n1+n2+1,?_⟩;rw [b3,a3,List.drop_drop,List.drop_succ_cons]
theorem parse_fuel (f:Nat):∀g k (L:Row),L.length≤f→L.length≤g→parse f k L=parse g k L:=by
 induction f with
 |zero=>
  intro g k L h1 h2;have :L=[]:=List.eq_nil_of_length_eq_zero (by omega);subst this;cases k <;> cases g <;> simp [parse]
 |succ f ih=>
  intro g k L h1 h2;cases k with
  |zero=>cases g <;> simp [parse]
  |succ k=>
   match L,h1,h2 with
   | [],_,_=>cases g <;> simp [parse]
   |none::L,_,h2=>cases g <;> simp [parse]
   |some m::L,h1,h2=>
    cases g with
    |zero=>simp at h2
    |succ g=>
     simp only [List.length_cons] at h1 h2;simp only [parse];rw [ih g m L (by omega) (by omega)]
     split
     ·rfl
     ·rename_i kids R h
      have :=(zs3 _ _ _ _ _ h).2.1;rw [ih g k R (by omega) (by omega)]
def take (k:Nat) (L:Row):Option (Fo × Row):=parse L.length k L
theorem take_zero (L:Row):take 0 L=some (.nil,L):=by unfold take;cases L.length <;> rfl
theorem take_some (k m:Nat) (L:Row):take (k+1) (some m::L)=match take m L with
  |none=>none
  |some (kids,R)=>match take k R with
   |none=>none
   |some (more,R')=>some (.cons kids more,R'):=by
 unfold take;simp only [List.length_cons,parse]
 split
 ·rfl
 ·rename_i kids R h
  have :=(zs3 _ _ _ _ _ h).2.1;rw [parse_fuel L.length R.length k R (by omega) (Nat.le_refl _)]
theorem takeF_len {k:Nat} {L:Row} {F:Fo} {R:Row} (h:take k L=some (F,R)):F.len=k∧R.length+k≤L.length∧R=L.drop (L.length - R.length):=by
 obtain ⟨h1,h2,n,h3⟩:=zs3 _ _ _ _ _ h;refine ⟨h1,h2,?_⟩;by_cases hn:n≤L.length
 ·have :R.length=L.length - n:=by rw [h3,List.length_drop]
  rw [this,Nat.sub_sub_self hn];exact h3
 ·have e:R=[]:=by rw [h3];exact List.drop_eq_nil_of_le (by omega)
  subst e;simp
theorem zv2 (m:Nat) (L:Row):take 1 (some m::L)=(take m L).map (fun x=>(.cons x.1 .nil,x.2)):=by
 rw [show (1:Nat)=0+1 from rfl,take_some];cases h:take m L with
 |none=>rfl
 |some x=>obtain ⟨a,b⟩:=x;simp [take_zero]
theorem zy3 (k:Nat) (L:Row):take (k+1) L=match take 1 L with
  |none=>none
  |some (F,R)=>match take k R with
   |none=>none
   |some (more,R')=>some (F.app more,R'):=by
 match L with
 | []=>rfl
 |none::L=>rfl
 |some m::L=>
  rw [zv2,take_some];cases h:take m L with
  |none=>rfl
  |some x=>obtain ⟨a,b⟩:=x;rfl
theorem one_shape {L:Row} {F:Fo} {R:Row} (h:take 1 L=some (F,R)):∃kids,F= .cons kids .nil:=by
 match L,h with
 | [],h=>cases h
 |none::L,h=>cases h
 |some m::L,h=>
  rw [zv2] at h;cases h':take m L with
  |none=>rw [h'] at h;simp at h
  |some x=>rw [h'] at h;simp at h;exact ⟨x.1,h.1.symm⟩
def ends (k deep:Nat) (L:Row):Option Row:=match take k L with
 |none=>none
 |some (F,R)=>if deep+F.depth≤5 then some R else none
theorem ends_zero (deep:Nat) (L:Row) (h:deep≤5):ends 0 deep L=some L:=by
 unfold ends;rw [take_zero];simp [Fo.depth,h]
theorem ends_step (k deep:Nat) (L:Row):ends (k+1) deep L=(ends 1 deep L).bind (ends k deep):=by
 unfold ends;rw [zy3];cases h:take 1 L with
 |none=>rfl
 |some x=>
  obtain ⟨F,R⟩:=x;simp only;cases h2:take k R with
  |none=>
   by_cases h3:deep+F.depth≤5
   ·simp only [if_pos h3,Option.bind_some,h2]
   ·simp only [if_neg h3,Option.bind_none]
  |some y=>
   obtain ⟨M,R'⟩:=y;simp only [Fo.depth_app];by_cases h3:deep+F.depth≤5
   ·rw [if_pos h3];simp only [Option.bind_some,h2];by_cases h4:deep+M.depth≤5
    ·rw [if_pos h4,if_pos (by omega)]
    ·rw [if_neg h4,if_neg (by omega)]
   ·rw [if_neg h3,if_neg (by omega)];rfl
theorem ends_one (m deep:Nat) (L:Row):ends 1 deep (some m::L)=ends m (deep+1) L:=by
 unfold ends;rw [zv2];cases h1:take m L with
 |none=>rfl
 |some x=>
  obtain ⟨F,R⟩:=x;simp only [Option.map_some];have hd:=Fo.zy F;by_cases h2:deep+1+F.depth≤5
  ·rw [if_pos h2,if_pos (by omega)]
  ·rw [if_neg h2,if_neg (by omega)]
theorem ends_none (deep:Nat) (L:Row):ends 1 deep (none::L)=none:=rfl
theorem ends_nil (deep:Nat):ends 1 deep []=none:=rfl
theorem ends_deep (deep:Nat) (L:Row) (h:4<deep):ends 1 deep L=none:=by
 unfold ends;cases h1:take 1 L with
 |none=>rfl
 |some x=>
  obtain ⟨F,R⟩:=x;obtain ⟨kids,rfl⟩:=one_shape h1;have hd:=Fo.zy kids;exact if_neg (by omega)
theorem ends_len {k deep:Nat} {L R:Row} (h:ends k deep L=some R):R.length+k≤L.length∧R=L.drop (L.length - R.length):=by
 unfold ends at h;cases h1:take k L with
 |none=>rw [h1] at h;cases h
 |some x=>
  obtain ⟨F,R'⟩:=x;rw [h1] at h;simp only at h
  split at h
  ·cases h;exact (takeF_len h1).2
  ·cases h
def nest (L:Row):Option Fo:=if L.length≤12 then match take 1 L with
 |some (.cons k .nil,[])=>if k.depth≤3 then some k else none
 |_=>none else none
theorem nest_yes {L:Row} {k:Fo} (h:nest L=some k):L.length≤12∧take 1 L=some (.cons k .nil,[])∧k.depth≤3:=by
 unfold nest at h
 split at h
 ·split at h
  ·split at h
   ·cases h;exact ⟨by assumption,by assumption,by assumption⟩
   ·cases h
  ·cases h
 ·cases h
theorem nest_ends (L:Row) (h:L.length≤12):(nest L).isSome=true↔ends 1 1 L=some []:=by
 unfold nest ends;rw [if_pos h];cases h1:take 1 L with
 |none=>simp
 |some x=>
  obtain ⟨F,R⟩:=x;obtain ⟨k,rfl⟩:=one_shape h1;have hd:=Fo.zy k;cases R with
  |nil=>
   simp only;by_cases h2:k.depth≤3
   ·rw [if_pos h2,if_pos (by omega)];simp
   ·rw [if_neg h2,if_neg (by omega)];simp
  |cons a b=>simp only;split <;> simp
theorem zx7 (L:Row) (h:¬L.length≤12):nest L=none:=by unfold nest;rw [if_neg h]
end Pl
end
section
namespace Pl
def ze7 (m:Int) (L:List Nd):Bool:=decide (0≤m)&&decide (m≤4)&&(decide (m=0)||L.isEmpty)&&ze2 L
def zj9 (x:Int × List Nd):Option Nat:=if ze7 x.1 x.2=true then some x.1.toNat else none
def rowO (xs:List (Int × List Nd)):Row:=xs.map zj9
theorem treeB_nil:ze2 []=true:=by rfl
theorem ya2 (L:List Nd):ze7 0 L=ze2 L:=by simp [ze7]
theorem zv4 {m:Int} (h:m≠0) (L:List Nd):ze7 m L=(decide (1≤m)&&decide (m≤4)&&decide (L.length=0)):=by
 unfold ze7;rw [show decide (m=0)=false from decide_eq_false h,Bool.false_or];have e:decide (0≤m)=decide (1≤m):=decide_eq_decide.2 (by omega);rw [e];cases L with
 |nil=>simp [treeB_nil]
 |cons a L=>simp
theorem zs7 {m:Int} {L:List Nd} (h:ze7 m L=true):0≤m∧m≤4:=by
 simp [ze7] at h
 exact ⟨h.1.1.1,h.1.1.2⟩
theorem itemO_yes {m:Int} {L:List Nd} (h:ze7 m L=true):zj9 (m,L)=some m.toNat:=by simp [zj9,h]
theorem itemO_no {m:Int} {L:List Nd} (h:ze7 m L=false):zj9 (m,L)=none:=by simp [zj9,h]
theorem itemO_some {x:Int × List Nd} {k:Nat} (h:zj9 x=some k):x.1=(k:Int)∧k≤4:=by
 unfold zj9 at h
 split at h
 ·rename_i hb
  have :=zs7 hb;cases h
  omega
 ·cases h
theorem zn9 (xs:List (Int × List Nd)):(rowO xs).length=xs.length:=by simp [rowO]
theorem rowO_at {xs:List (Int × List Nd)} {i:Nat} {x:Int × List Nd} (h:xs[i]? =some x):(rowO xs).drop i=zj9 x::(rowO xs).drop (i+1):=by
 obtain ⟨h1,h2⟩:=List.getElem?_eq_some_iff.1 h;rw [List.drop_eq_getElem_cons (by rw [zn9];exact h1)]
 congr 1
 simp [rowO,h2]
def endI (n:Nat):Option Row→Int
 |none=> -1
 |some R=>(n:Int) - (R.length:Int)
theorem ends_at {k deep p n:Nat} {L R:Row} (hn:L.length=n) (hp:p≤n) (h:ends k deep (L.drop p)=some R):∃p':Nat,endI n (some R)=(p':Int)∧p'≤n∧L.drop p'=R:=by
 obtain ⟨h1,h2⟩:=ends_len h;rw [List.length_drop] at h1 h2;refine ⟨n - R.length,by rw [endI];omega,by omega,?_⟩;rw [List.drop_drop] at h2;have e:p+(L.length - p - R.length)=n - R.length:=by omega
 rw [e] at h2;exact h2.symm
def Fo.sz:Fo→Nat
 | .nil=>0
 | .cons k m=>k.sz+m.sz+1
theorem Fo.len_le (F:Fo):F.len≤F.sz:=by
 induction F with
 |nil=>simp [Fo.len]
 |cons k m _ ih=>simp only [Fo.len,Fo.sz];omega
theorem Fo.depth_le (F:Fo):F.depth≤F.sz:=by
 induction F with
 |nil=>simp [Fo.depth]
 |cons k m ih1 ih2=>simp only [Fo.depth,Fo.sz];omega
theorem parse_sz (f:Nat):∀k L F R,parse f k L=some (F,R)→F.sz+R.length=L.length:=by
 induction f with
 |zero=>
  intro k L F R h;cases k with
  |zero=>simp [parse] at h;obtain ⟨rfl,rfl⟩:=h;simp [Fo.sz]
  |succ k=>simp [parse] at h
 |succ f ih=>
  intro k L F R h;cases k with
  |zero=>simp [parse] at h;obtain ⟨rfl,rfl⟩:=h;simp [Fo.sz]
  |succ k=>
   match L,h with
   | [],h=>simp [parse] at h
   |none::L,h=>simp [parse] at h
   |some m::L,h=>
    simp only [parse] at h
    split at h
    ·cases h
    ·rename_i kids R1 h1
     split at h
     ·cases h
     ·rename_i more R2 h2
      cases h
      have a1:=ih _ _ _ _ h1;have a2:=ih _ _ _ _ h2;simp only [Fo.sz,List.length_cons];omega
theorem take_sz {k:Nat} {L R:Row} {F:Fo} (h:take k L=some (F,R)):F.sz+R.length=L.length:=parse_sz _ _ _ _ _ h
theorem nest_fail {L:Row} (h:take 1 L=none):nest L=none:=by
 unfold nest;rw [h];simp
theorem nest_rest {L R:Row} {k:Fo} (h:take 1 L=some (.cons k .nil,R)) (hR:R.length≠0):nest L=none:=by
 unfold nest;rw [h];cases R with
 |nil=>simp at hR
 |cons a b=>simp
theorem nest_deep {L R:Row} {k:Fo} (h:take 1 L=some (.cons k .nil,R)) (hd:4<k.depth+1):nest L=none:=by
 unfold nest;rw [h];cases R with
 |nil=>simp only;rw [if_neg (show ¬k.depth≤3 by omega)];simp
 |cons a b=>simp
theorem nest_ok {L R:Row} {k:Fo} (h12:L.length≤12) (h:take 1 L=some (.cons k .nil,R)) (hR:R.length=0) (hd:¬4<k.depth+1):nest L=some k:=by
 have e:R=[]:=List.eq_nil_of_length_eq_zero hR;subst e;unfold nest;rw [if_pos h12,h];simp only;rw [if_pos (show k.depth≤3 by omega)]
def went (F:Fo) (o:Option (Fo × Row)):Option (Fo × Row):=o.map (fun y=>(F.app y.1,y.2))
theorem went_start (o:Option (Fo × Row)):went .nil o=o:=by cases o <;> rfl
theorem went_step {F kids:Fo} {k:Nat} {L R:Row} (h:take 1 L=some (.cons kids .nil,R)):went F (take (k+1) L)=went (F.app (.cons kids .nil)) (take k R):=by
 rw [zy3,h];cases h2:take k R with
 |none=>simp [went,h2]
 |some y=>obtain ⟨m,R'⟩:=y;simp [went,h2,Fo.app_assoc]
theorem went_fail {F:Fo} {k:Nat} {L:Row} (h:take 1 L=none):went F (take (k+1) L)=none:=by
 rw [zy3,h];rfl
theorem went_end (F:Fo) (L:Row):went F (take 0 L)=some (F,L):=by simp [went,take_zero,Fo.app_nil]
theorem rowO_drop (xs:List (Int × List Nd)) (k:Nat):(rowO xs).drop k=rowO (xs.drop k):=by simp [rowO,List.map_drop]
end Pl
end
section
namespace Pl
inductive Fx where
 |nil:Fx
 |cons (L:List Nd) (kids more:Fx):Fx
namespace Fx
def shape:Fx→Fo
 | .nil=> .nil
 | .cons _ k m=> .cons k.shape m.shape
def len:Fx→Nat
 | .nil=>0
 | .cons _ _ m=>m.len+1
def sz:Fx→Nat
 | .nil=>0
 | .cons _ k m=>k.sz+m.sz+1
def flat:Fx→List (Int × List Nd)
 | .nil=>[]
 | .cons L k m=>((k.len:Int),L)::(k.flat++m.flat)
def app:Fx→Fx→Fx
 | .nil,r=>r
 | .cons L k m,r=> .cons L k (m.app r)
def okX:Fx→Prop
 | .nil=>True
 | .cons L k m=>ze2 L=true∧(k= .nil∨L=[])∧k.len≤4∧k.okX∧m.okX
theorem zx2 (X:Fx):X.shape.len=X.len:=by
 induction X with
 |nil=>rfl
 |cons L k m _ ih=>rw [shape,Fo.len,len,ih]
theorem flat_len (X:Fx):X.flat.length=X.sz:=by
 induction X with
 |nil=>rfl
 |cons L k m ih1 ih2=>rw [flat,List.length_cons,List.length_append,ih1,ih2,sz]
theorem shape_app (a b:Fx):(a.app b).shape=a.shape.app b.shape:=by
 induction a with
 |nil=>rfl
 |cons L k m _ ih=>rw [app,shape,shape,ih];rfl
theorem len_app (a b:Fx):(a.app b).len=a.len+b.len:=by
 induction a with
 |nil=>simp [app,len]
 |cons L k m _ ih=>rw [app,len,len,ih];omega
theorem flat_app (a b:Fx):(a.app b).flat=a.flat++b.flat:=by
 induction a with
 |nil=>rfl
 |cons L k m _ ih=>rw [app,flat,flat,ih];simp
theorem ok_app {a b:Fx} (ha:a.okX) (hb:b.okX):(a.app b).okX:=by
 induction a with
 |nil=>exact hb
 |cons L k m _ ih=>exact ⟨ha.1,ha.2.1,ha.2.2.1,ha.2.2.2.1,ih ha.2.2.2.2⟩
theorem shape_nil {X:Fx} (h:X.shape= .nil):X= .nil:=by
 cases X with
 |nil=>rfl
 |cons L k m=>cases h
theorem len_zero {X:Fx} (h:X.len=0):X= .nil:=by
 cases X with
 |nil=>rfl
 |cons L k m=>simp [len] at h
theorem len_le (X:Fx):X.len≤X.sz:=by
 induction X with
 |nil=>exact Nat.le_refl _
 |cons L k m _ ih=>rw [len,sz];omega
theorem ok_mem {X:Fx} (h:X.okX):∀x∈X.flat,ze2 x.2=true∧0≤x.1∧x.1≤4:=by
 induction X with
 |nil=>intro x hx;cases hx
 |cons L k m ih1 ih2=>
  intro x hx;rw [flat,List.mem_cons,List.mem_append] at hx
  rcases hx with rfl |hx|hx
  ·exact ⟨h.1,by omega,by have :=h.2.2.1;omega⟩
  ·exact ih1 h.2.2.2.1 x hx
  ·exact ih2 h.2.2.2.2 x hx
end Fx
end Pl
end
section
namespace Pl
theorem yc3:∀a b:List UInt8,a≠b→Op.bytesLess a b= !Op.bytesLess b a:=by
 intro a
 induction a with
 |nil=>intro b h;cases b with
  |nil=>exact absurd rfl h
  |cons c b=>rfl
 |cons x a ih=>
  intro b h;cases b with
  |nil=>rfl
  |cons y b=>
   simp only [Op.bytesLess];by_cases hxy:x=y
   ·subst hxy;have hab:a≠b:=fun e=>h (by rw [e]);rw [ih b hab];simp
   ·have h1:(x==y)=false:=by simpa using hxy
    have h2:(y==x)=false:=by simpa using fun e:y=x=>hxy e.symm
    rw [h1,h2];simp only [Bool.false_and,Bool.or_false];by_cases hlt:x<y
    ·have :¬y<x:=by rw [UInt8.lt_iff_toNat_lt] at hlt ⊢;omega
     simp [hlt,this]
    ·have :y<x:=by
      rw [UInt8.lt_iff_toNat_lt] at hlt ⊢;have :x.toNat≠y.toNat:=fun e=>hxy (UInt8.toNat_inj.1 e);omega
     simp [hlt,this]
theorem less_anti:∀A B:List ByteArray,A≠B→za3 A B= !za3 B A:=by
 intro A
 induction A with
 |nil=>intro B h;cases B with
  |nil=>exact absurd rfl h
  |cons b B=>rfl
 |cons a A ih=>
  intro B h;cases B with
  |nil=>rfl
  |cons b B=>
   rw [za3,za3];by_cases hab:a=b
   ·subst hab;rw [if_pos rfl,if_pos rfl];exact ih B (fun e=>h (by rw [e]))
   ·rw [if_neg hab,if_neg (fun e=>hab e.symm)];refine yc3 _ _ ?_;rw [ByteArray.toList_eq,ByteArray.toList_eq];exact fun e=>hab (zh4 e)
theorem less_under:∀A B:List ByteArray,(∀ (j:Nat) t,B[j]? =some t→A[j]? =some t)→za3 A B=false:=by
 intro A
 induction A with
 |nil=>intro B h;cases B with
  |nil=>rfl
  |cons b B=>have :=h 0 b rfl;cases this
 |cons a A ih=>
  intro B h;cases B with
  |nil=>rfl
  |cons b B=>
   have h0:=h 0 b rfl;simp at h0
   subst h0;rw [za3,if_pos rfl];exact ih B (fun j t ht=>by have :=h (j+1) t (by simpa using ht);simpa using this)
theorem zy8 {p:ByteArray} (h:za2 p=true):glue (zb7 p)=p:=by rw [zh5 h,yb4]
theorem path_inj {a b:ByteArray} (ha:za2 a=true) (hb:za2 b=true) (h:zb7 a=zb7 b):a=b:=by
 rw [←zy8 ha,←zy8 hb,h]
theorem two_less {a b:ByteArray} (ha:za2 a=true) (hb:za2 b=true) (h:a≠b):(za2 a&&za2 b&&za3 (zb7 a) (zb7 b))= !(za2 b&&za2 a&&za3 (zb7 b) (zb7 a)):=by
 rw [ha,hb,Bool.true_and,Bool.true_and,Bool.true_and];exact less_anti _ _ (fun e=>h (path_inj ha hb e))
end Pl
end
section
namespace Pl
theorem zz1 {L:List Nd} (h:ze2 L=true):L.Pairwise (fun a b=>a.path≠b.path):=by
 have h2:goI [] ⟨#[]⟩ L=true:=by unfold ze2 at h;simp at h;exact h.2
 exact (goI_rise L [] ⟨#[]⟩ h2 (zg4 rfl).1).1.imp (fun {a b} hab e=>by rw [e,zj1] at hab;cases hab)
theorem tree_rise' {L:List Nd} (h:ze2 L=true):L.Pairwise (fun a b=>ltP a.path b.path=true):=by
 simp only [ze2,Bool.and_eq_true,decide_eq_true_eq] at h;have hn:=goI_all L _ _ h.2;have hr:=(goI_rise L [] ⟨#[]⟩ h.2 (zg4 rfl).1).1;exact List.Pairwise.imp_of_mem (fun {a b} ha hb hab=>by rw [ze (zg3 (hn a ha)).1 (zg3 (hn b hb)).1];exact hab) hr
end Pl
namespace WNamesT
end WNamesT
end
section
namespace Pl
theorem goS_iff (L:List Nd):∀ (r:List Nd) (prev:Option ByteArray),goS L prev r=true↔(∀n∈r,zc5 n=true∧dirS L (parent n.path)=true)∧r.Pairwise (fun a b=>za3 (names a.path) (names b.path)=true)∧∀n∈r,prevB prev n.path=true:=by
 intro r
 induction r with
 |nil=>intro prev;simp [goS]
 |cons m r ih=>
  intro prev;simp only [goS,Bool.and_eq_true];rw [ih]
  constructor
  ·rintro ⟨⟨⟨h1,h2⟩,h3⟩,h4,h5,h6⟩;refine ⟨fun n hn=>?_,List.Pairwise.cons (fun n hn=>h6 n hn) h5,fun n hn=>?_⟩
   ·rcases List.mem_cons.1 hn with rfl |hn
    ·exact ⟨h1,h3⟩
    ·exact h4 n hn
   ·rcases List.mem_cons.1 hn with rfl |hn
    ·exact h2
    ·cases prev with
     |none=>rfl
     |some q=>exact zg2 _ _ _ h2 (h6 n hn)
  ·rintro ⟨h1,h2,h3⟩;obtain ⟨h4,h5⟩:=List.pairwise_cons.1 h2;exact ⟨⟨⟨(h1 m (List.mem_cons_self ..)).1,h3 m (List.mem_cons_self ..)⟩,(h1 m (List.mem_cons_self ..)).2⟩,fun n hn=>h1 n (List.mem_cons_of_mem _ hn),h5,fun n hn=>h4 n hn⟩
theorem tree_iff (L:List Nd):ze2 L=true↔L.length≤40∧(∀n∈L,zc5 n=true∧dirS L (parent n.path)=true)∧L.Pairwise (fun a b=>za3 (names a.path) (names b.path)=true):=by
 rw [ze2,←tree_same,Bool.and_eq_true,decide_eq_true_eq,goS_iff]
 constructor
 ·rintro ⟨h1,h2,h3, -⟩;exact ⟨h1,h2,h3⟩
 ·rintro ⟨h1,h2,h3⟩;exact ⟨h1,h2,h3,fun n hn=>rfl⟩
end Pl
end
section
namespace Pl
def fill:Fo→List (Int × List Nd)→Fx × List (Int × List Nd)
 | .nil,xs=>(.nil,xs)
 | .cons _ _,[]=>(.nil,[])
 | .cons k m,x::xs=>(.cons x.2 (fill k xs).1 (fill m (fill k xs).2).1,(fill m (fill k xs).2).2)
theorem fill_flat (X:Fx):∀R,fill X.shape (X.flat++R)=(X,R):=by
 induction X with
 |nil=>intro R;rfl
 |cons L k m ih1 ih2=>
  intro R;rw [Fx.shape,Fx.flat,List.cons_append,fill,List.append_assoc,ih1,ih2]
def nestX (xs:List (Int × List Nd)):Option (List Nd × Fx):=match nest (rowO xs) with
 |none=>none
 |some k=>match (fill (.cons k .nil) xs).1 with
  | .cons L K _=>some (L,K)
  | .nil=>none
theorem nestX_some {xs:List (Int × List Nd)} {L:List Nd} {k:Fx} (h:nest (rowO xs)=some k.shape) (hf:(Fx.cons L k .nil).flat=xs):nestX xs=some (L,k):=by
 unfold nestX;rw [h];have :=fill_flat (Fx.cons L k .nil) [];rw [List.append_nil,hf] at this;have e2:fill (Fo.cons k.shape .nil) xs=(Fx.cons L k .nil,[]):=this;simp only [e2]
theorem parse_fill (f:Nat):∀k (xs:List (Int × List Nd)) F R,parse f k (rowO xs)=some (F,R)→∃X rest,Fx.shape X=F∧R=rowO rest∧xs=X.flat++rest∧X.okX:=by
 induction f with
 |zero=>
  intro k xs F R h;cases k with
  |zero=>simp [parse] at h;obtain ⟨rfl,rfl⟩:=h;exact ⟨.nil,xs,rfl,rfl,rfl,trivial⟩
  |succ k=>simp [parse] at h
 |succ f ih=>
  intro k xs F R h;cases k with
  |zero=>simp [parse] at h;obtain ⟨rfl,rfl⟩:=h;exact ⟨.nil,xs,rfl,rfl,rfl,trivial⟩
  |succ k=>
   cases xs with
   |nil=>simp [rowO,parse] at h
   |cons x xs=>
    have e:rowO (x::xs)=zj9 x::rowO xs:=rfl;rw [e] at h;cases hx:zj9 x with
    |none=>rw [hx] at h;simp [parse] at h
    |some m=>
     rw [hx] at h;simp only [parse] at h
     split at h
     ·cases h
     ·rename_i kids R1 h1
      split at h
      ·cases h
      ·rename_i more R2 h2
       cases h
       obtain ⟨K,r1,e1,e2,e3,o1⟩:=ih _ _ _ _ h1;rw [e2] at h2;obtain ⟨M,r2,e4,e5,e6,o2⟩:=ih _ _ _ _ h2;have hm:=itemO_some hx;have hl:K.len=m:=by rw [←Fx.zx2,e1];exact (zs3 _ _ _ _ _ h1).1
       have hb:ze7 x.1 x.2=true:=by
        unfold zj9 at hx
        split at hx
        ·assumption
        ·cases hx
       have hb2:ze2 x.2=true∧(x.1=0∨x.2=[]):=by
        unfold ze7 at hb;simp only [Bool.and_eq_true,Bool.or_eq_true,decide_eq_true_eq,List.isEmpty_iff] at hb;exact ⟨hb.2,hb.1.2⟩
       refine ⟨.cons x.2 K M,r2,by rw [Fx.shape,e1,e4],e5,?_,hb2.1,?_,by omega,o1,o2⟩
       ·rw [Fx.flat,hl,←hm.1,List.cons_append,List.append_assoc,←e6,←e3]
       ·rcases hb2.2 with h0|h0
        ·exact .inl (Fx.len_zero (by omega))
        ·exact .inr h0
theorem nest_fill {xs:List (Int × List Nd)} {F:Fo} (h:nest (rowO xs)=some F):∃L k,Fx.shape k=F∧(Fx.cons L k .nil).flat=xs∧(Fx.cons L k .nil).okX∧nestX xs=some (L,k):=by
 obtain ⟨-,h2, -⟩:=nest_yes h;obtain ⟨X,rest,e1,e2,e3,o⟩:=parse_fill _ _ _ _ _ h2
 have hr:rest=[]:=by
  cases rest with
  |nil=>rfl
  |cons a b=>simp [rowO] at e2
 subst hr;rw [List.append_nil] at e3;cases X with
 |nil=>cases e1
 |cons L k m=>
  rw [Fx.shape] at e1;simp only [Fo.cons.injEq] at e1;have hm:=Fx.shape_nil e1.2;subst hm;refine ⟨L,k,e1.1,e3.symm,o,nestX_some (by rw [e1.1];exact h) e3.symm⟩
theorem nest_len {xs:List (Int × List Nd)} {F:Fo} (h:nest (rowO xs)=some F):xs.length≤12:=by
 have :=(nest_yes h).1;rw [zn9] at this;exact this
end Pl
end
section
namespace Pl
structure DelK {α:Type} (f:α→Bool) (M L:List α) (i j:Nat):Prop where
 len:L.length=M.length
 lt:i<j
 hi:L.drop j=M.drop j
 lo:L.take i=(M.take j).filter (fun x=>!f x)
section
variable {α:Type} {f:α→Bool} {M L:List α} {i j k:Nat} {x:α}
theorem zw8 (h:M[k]? =some x):M.take (k+1)=M.take k++[x]:=by
 rw [List.take_add_one,h];rfl
theorem DelK.start (h:M[k]? =some x) (hf:f x=true) (hb:∀ (j:Nat) y,j<k→M[j]? =some y→f y=false):DelK f M M k (k+1):=by
 refine ⟨rfl,by omega,rfl,?_⟩;rw [zw8 h,List.filter_append,List.filter_cons,if_neg (by simp [hf]),List.filter_nil,List.append_nil]
 symm
 rw [List.filter_eq_self];intro y hy;obtain ⟨n,hn,e⟩:=List.mem_iff_getElem.1 hy;rw [List.length_take] at hn;rw [List.getElem_take] at e;rw [hb n y (by omega) (by rw [←e];exact List.getElem?_eq_getElem _)];rfl
theorem DelK.at (h:DelK f M L i j) (hj:M[j]? =some x):L[j]? =some x:=by
 have h1:(L.drop j)[0]? =(M.drop j)[0]?:=by rw [h.hi]
 rw [List.getElem?_drop,List.getElem?_drop] at h1
 simpa [hj] using h1
theorem DelK.skip (h:DelK f M L i j) (hj:M[j]? =some x) (hf:f x=true):DelK f M L i (j+1):=by
 refine ⟨h.len,by have :=h.lt;omega,?_,?_⟩
 ·have :(L.drop j).drop 1=(M.drop j).drop 1:=by rw [h.hi]
  rwa [List.drop_drop,List.drop_drop] at this
 ·rw [h.lo,zw8 hj,List.filter_append,List.filter_cons,if_neg (by simp [hf]),List.filter_nil,List.append_nil]
theorem DelK.keep (h:DelK f M L i j) (hj:M[j]? =some x) (hf:f x=false):DelK f M (L.set i x) (i+1) (j+1):=by
 have hl:=(List.getElem?_eq_some_iff.1 hj).1;have hlt:=h.lt;have hlen:=h.len;refine ⟨by rw [List.length_set];exact hlen,by omega,?_,?_⟩
 ·rw [List.drop_set_of_lt (by omega)];have :(L.drop j).drop 1=(M.drop j).drop 1:=by rw [h.hi]
  rwa [List.drop_drop,List.drop_drop] at this
 ·rw [zw8 (k:=i) (x:=x) (by rw [List.getElem?_set_self (by omega)]),List.take_set_of_le (Nat.le_refl _),h.lo,zw8 hj,List.filter_append,List.filter_cons,if_pos (by simp [hf]),List.filter_nil]
theorem DelK.done (h:DelK f M L i j) (hj:j=M.length):L.take i=M.filter (fun x=>!f x)∧i=(M.filter (fun x=>!f x)).length∧i<M.length:=by
 subst hj;have h1:=h.lo;rw [List.take_of_length_le (Nat.le_refl _)] at h1;have h2:=congrArg List.length h1;rw [List.length_take,h.len] at h2;have :=h.lt;exact ⟨h1,by omega,this⟩
theorem filter_none {f:α→Bool} (h:∀ (j:Nat) y,M[j]? =some y→f y=false):M.filter (fun x=>!f x)=M:=by
 rw [List.filter_eq_self];intro y hy;obtain ⟨n,hn⟩:=List.getElem?_of_mem hy;rw [h n y hn];rfl
end
end Pl
end
end Go.Proofs.YtonffldjbmednaaGreatDoor
