import Derived.Test.YtpggbphcbcogdaaGreatDoorPlain
import Derived.WalkKit
import Derived.Laws.IdiomStrings
namespace Go.Proofs.YtpggbphcbcogdaaGreatDoor
namespace Pl
inductive Fo where
 |nil:Fo
 |cons (kids more:Fo):Fo
namespace Fo
def len:Fo→Nat
 | .nil=>0
 | .cons _ m=>m.len+1
def depth:Fo→Nat
 | .nil=>0
 | .cons k m=>max (k.depth+1) m.depth
def app:Fo→Fo→Fo
 | .nil,r=>r
 | .cons k m,r=> .cons k (m.app r)
theorem app_nil (a:Fo):a.app .nil=a:=by
 induction a with
 |nil=>rfl
 |cons k m _ ih=>rw [app,ih]
theorem app_assoc (a b c:Fo):(a.app b).app c=a.app (b.app c):=by
 induction a with
 |nil=>rfl
 |cons k m _ ih=>rw [app,app,app,ih]
theorem len_app (a b:Fo):(a.app b).len=a.len+b.len:=by
 induction a with
 |nil=>simp [app,len]
 |cons k m _ ih=>rw [app,len,len,ih];omega
theorem depth_app (a b:Fo):(a.app b).depth=max a.depth b.depth:=by
 induction a with
 |nil=>simp [app,depth]
 |cons k m _ ih=>rw [app,depth,depth,ih];omega
theorem zq1 (k:Fo):(Fo.cons k .nil).depth=k.depth+1:=by simp [depth]
end Fo
abbrev Row:=List (Option Nat)
def parse:Nat→Nat→Row→Option (Fo × Row)
 |_,0,L=>some (.nil,L)
 |0,_+1,_=>none
 |_+1,_+1,[]=>none
 |_+1,_+1,none::_=>none
 |f+1,k+1,some m::L=>match parse f m L with
  |none=>none
  |some (kids,R)=>match parse f k R with
   |none=>none
   |some (more,R')=>some (.cons kids more,R')
theorem zq (f:Nat):∀k L F R,parse f k L=some (F,R)→F.len=k∧R.length+k≤L.length∧∃n,R=L.drop n:=by
 induction f with
 |zero=>
  intro k L F R h;cases k with
  |zero=>simp [parse] at h;obtain ⟨rfl,rfl⟩:=h;exact ⟨rfl,Nat.le_refl _,0,rfl⟩
  |succ k=>simp [parse] at h
 |succ f ih=>
  intro k L F R h;cases k with
  |zero=>simp [parse] at h;obtain ⟨rfl,rfl⟩:=h;exact ⟨rfl,Nat.le_refl _,0,rfl⟩
  |succ k=>
   match L,h with
   | [],h=>simp [parse] at h
   |none::L,h=>simp [parse] at h
   |some m::L,h=>
    simp only [parse] at h
    split at h
    ·cases h
    ·rename_i kids R1 h1
     split at h
     ·cases h
     ·rename_i more R2 h2
      cases h
      obtain ⟨a1,a2,n1,a3⟩:=ih _ _ _ _ h1;obtain ⟨b1,b2,n2,b3⟩:=ih _ _ _ _ h2;refine ⟨by rw [Fo.len,b1],by simp;omega,n1+n2+1,?_⟩;rw [b3,a3,List.drop_drop,List.drop_succ_cons]
theorem parse_fuel (f:Nat):∀g k (L:Row),L.length≤f→L.length≤g→parse f k L=parse g k L:=by
 induction f with
 |zero=>
  intro g k L h1 h2;have :L=[]:=List.eq_nil_of_length_eq_zero (by omega);subst this;cases k <;> cases g <;> simp [parse]
 |succ f ih=>
  intro g k L h1 h2;cases k with
  |zero=>cases g <;> simp [parse]
  |succ k=>
   match L,h1,h2 with
   | [],_,_=>cases g <;> simp [parse]
   |none::L,_,h2=>cases g <;> simp [parse]
   |some m::L,h1,h2=>
    cases g with
    |zero=>simp at h2
    |succ g=>
     simp only [List.length_cons] at h1 h2;simp only [parse];rw [ih g m L (by omega) (by omega)]
     split
     ·rfl
     ·rename_i kids R h
      have :=(zq _ _ _ _ _ h).2.1;rw [ih g k R (by omega) (by omega)]
def take (k:Nat) (L:Row):Option (Fo × Row):=parse L.length k L
theorem take_zero (L:Row):take 0 L=some (.nil,L):=by unfold take;cases L.length <;> rfl
theorem zt2 (k m:Nat) (L:Row):take (k+1) (some m::L)=match take m L with
  |none=>none
  |some (kids,R)=>match take k R with
   |none=>none
   |some (more,R')=>some (.cons kids more,R'):=by
 unfold take;simp only [List.length_cons,parse]
 split
 ·rfl
 ·rename_i kids R h
  have :=(zq _ _ _ _ _ h).2.1;rw [parse_fuel L.length R.length k R (by omega) (Nat.le_refl _)]
theorem takeF_len {k:Nat} {L:Row} {F:Fo} {R:Row} (h:take k L=some (F,R)):F.len=k∧R.length+k≤L.length∧R=L.drop (L.length - R.length):=by
 obtain ⟨h1,h2,n,h3⟩:=zq _ _ _ _ _ h;refine ⟨h1,h2,?_⟩;by_cases hn:n≤L.length
 ·have :R.length=L.length - n:=by rw [h3,List.length_drop]
  rw [this,Nat.sub_sub_self hn];exact h3
 ·have e:R=[]:=by rw [h3];exact List.drop_eq_nil_of_le (by omega)
  subst e;simp
theorem zs1 (m:Nat) (L:Row):take 1 (some m::L)=(take m L).map (fun x=>(.cons x.1 .nil,x.2)):=by
 rw [show (1:Nat)=0+1 from rfl,zt2];cases h:take m L with
 |none=>rfl
 |some x=>obtain ⟨a,b⟩:=x;simp [take_zero]
theorem zu1 (k:Nat) (L:Row):take (k+1) L=match take 1 L with
  |none=>none
  |some (F,R)=>match take k R with
   |none=>none
   |some (more,R')=>some (F.app more,R'):=by
 match L with
 | []=>rfl
 |none::L=>rfl
 |some m::L=>
  rw [zs1,zt2];cases h:take m L with
  |none=>rfl
  |some x=>obtain ⟨a,b⟩:=x;rfl
theorem one_shape {L:Row} {F:Fo} {R:Row} (h:take 1 L=some (F,R)):∃kids,F= .cons kids .nil:=by
 match L,h with
 | [],h=>cases h
 |none::L,h=>cases h
 |some m::L,h=>
  rw [zs1] at h;cases h':take m L with
  |none=>rw [h'] at h;simp at h
  |some x=>rw [h'] at h;simp at h;exact ⟨x.1,h.1.symm⟩
def ends (k deep:Nat) (L:Row):Option Row:=match take k L with
 |none=>none
 |some (F,R)=>if deep+F.depth≤5 then some R else none
theorem ends_zero (deep:Nat) (L:Row) (h:deep≤5):ends 0 deep L=some L:=by
 unfold ends;rw [take_zero];simp [Fo.depth,h]
theorem ends_step (k deep:Nat) (L:Row):ends (k+1) deep L=(ends 1 deep L).bind (ends k deep):=by
 unfold ends;rw [zu1];cases h:take 1 L with
 |none=>rfl
 |some x=>
  obtain ⟨F,R⟩:=x;simp only;cases h2:take k R with
  |none=>
   by_cases h3:deep+F.depth≤5
   ·simp only [if_pos h3,Option.bind_some,h2]
   ·simp only [if_neg h3,Option.bind_none]
  |some y=>
   obtain ⟨M,R'⟩:=y;simp only [Fo.depth_app];by_cases h3:deep+F.depth≤5
   ·rw [if_pos h3];simp only [Option.bind_some,h2];by_cases h4:deep+M.depth≤5
    ·rw [if_pos h4,if_pos (by omega)]
    ·rw [if_neg h4,if_neg (by omega)]
   ·rw [if_neg h3,if_neg (by omega)];rfl
theorem ends_one (m deep:Nat) (L:Row):ends 1 deep (some m::L)=ends m (deep+1) L:=by
 unfold ends;rw [zs1];cases h1:take m L with
 |none=>rfl
 |some x=>
  obtain ⟨F,R⟩:=x;simp only [Option.map_some];have hd:=Fo.zq1 F;by_cases h2:deep+1+F.depth≤5
  ·rw [if_pos h2,if_pos (by omega)]
  ·rw [if_neg h2,if_neg (by omega)]
theorem ends_none (deep:Nat) (L:Row):ends 1 deep (none::L)=none:=rfl
theorem ends_nil (deep:Nat):ends 1 deep []=none:=rfl
theorem ends_deep (deep:Nat) (L:Row) (h:4<deep):ends 1 deep L=none:=by
 unfold ends;cases h1:take 1 L with
 |none=>rfl
 |some x=>
  obtain ⟨F,R⟩:=x;obtain ⟨kids,rfl⟩:=one_shape h1;have hd:=Fo.zq1 kids;exact if_neg (by omega)
theorem ends_len {k deep:Nat} {L R:Row} (h:ends k deep L=some R):R.length+k≤L.length∧R=L.drop (L.length - R.length):=by
 unfold ends at h;cases h1:take k L with
 |none=>rw [h1] at h;cases h
 |some x=>
  obtain ⟨F,R'⟩:=x;rw [h1] at h;simp only at h
  split at h
  ·cases h;exact (takeF_len h1).2
  ·cases h
def nest (L:Row):Option Fo:=if L.length≤12 then match take 1 L with
 |some (.cons k .nil,[])=>if k.depth≤3 then some k else none
 |_=>none else none
theorem nest_yes {L:Row} {k:Fo} (h:nest L=some k):L.length≤12∧take 1 L=some (.cons k .nil,[])∧k.depth≤3:=by
 unfold nest at h
 split at h
 ·split at h
  ·split at h
   ·cases h;exact ⟨by assumption,by assumption,by assumption⟩
   ·cases h
  ·cases h
 ·cases h
theorem nest_ends (L:Row) (h:L.length≤12):(nest L).isSome=true↔ends 1 1 L=some []:=by
 unfold nest ends;rw [if_pos h];cases h1:take 1 L with
 |none=>simp
 |some x=>
  obtain ⟨F,R⟩:=x;obtain ⟨k,rfl⟩:=one_shape h1;have hd:=Fo.zq1 k;cases R with
  |nil=>
   simp only;by_cases h2:k.depth≤3
   ·rw [if_pos h2,if_pos (by omega)];simp
   ·rw [if_neg h2,if_neg (by omega)];simp
  |cons a b=>simp only;split <;> simp
theorem zt5 (L:Row) (h:¬L.length≤12):nest L=none:=by unfold nest;rw [if_neg h]
end Pl
end Go.Proofs.YtpggbphcbcogdaaGreatDoor
