/- Several texts of one claim in one file: PlainNest, PlainItem, PlainFx, PlainTreeI, PlainEnds. -/
import Derived.Test.YtpakookhgpphaaaDoorG00
import Derived.WalkKit
import Derived.Laws.IdiomStrings
import Derived.Test.YtpakookhgpphaaaDoorG02
import Derived.Below
import Derived.Deep.RegionHeld3
import Derived.Test.YtpakookhgpphaaaDoorProg
import Derived.WalkSpells
import Derived.Lib.OthersKept
import Derived.Laws.RangeAny
import Derived.Deep.Draws
import Derived.Deep.QuietTactic
import Derived.BigQuiet
namespace Go.Proofs.YtpakookhgpphaaaDoor
section
namespace Pl
inductive Fo where
 |nil:Fo
 |cons (kids more:Fo):Fo
namespace Fo
def len:Fo→Nat
 | .nil=>0
 | .cons _ m=>m.len+1
def depth:Fo→Nat
 | .nil=>0
 | .cons k m=>max (k.depth+1) m.depth
def app:Fo→Fo→Fo
 | .nil,r=>r
 | .cons k m,r=> .cons k (m.app r)
theorem app_nil (a:Fo):a.app .nil=a:=by
 induction a with
 |nil=>rfl
 |cons k m _ ih=>rw [app,ih]
theorem app_assoc (a b c:Fo):(a.app b).app c=a.app (b.app c):=by
 induction a with
 |nil=>rfl
 |cons k m _ ih=>rw [app,app,app,ih]
theorem len_app (a b:Fo):(a.app b).len=a.len+b.len:=by
 induction a with
 |nil=>simp [app,len]
 |cons k m _ ih=>rw [app,len,len,ih];omega
theorem depth_app (a b:Fo):(a.app b).depth=max a.depth b.depth:=by
 induction a with
 |nil=>simp [app,depth]
 |cons k m _ ih=>rw [app,depth,depth,ih];omega
theorem zy (k:Fo):(Fo.cons k .nil).depth=k.depth+1:=by simp [depth]
end Fo
abbrev Row:=List (Option Nat)
def parse:Nat→Nat→Row→Option (Fo × Row)
 |_,0,L=>some (.nil,L)
 |0,_+1,_=>none
 |_+1,_+1,[]=>none
 |_+1,_+1,none::_=>none
 |f+1,k+1,some m::L=>match parse f m L with
  |none=>none
  |some (kids,R)=>match parse f k R with
   |none=>none
   |some (more,R')=>some (.cons kids more,R')
theorem zs3 (f:Nat):∀k L F R,parse f k L=some (F,R)→F.len=k∧R.length+k≤L.length∧∃n,R=L.drop n:=by
 induction f with
 |zero=>
  intro k L F R h;cases k with
  |zero=>simp [parse] at h;obtain ⟨rfl,rfl⟩:=h;exact ⟨rfl,Nat.le_refl _,0,rfl⟩
  |succ k=>simp [parse] at h
 |succ f ih=>
  intro k L F R h;cases k with
  |zero=>simp [parse] at h;obtain ⟨rfl,rfl⟩:=h;exact ⟨rfl,Nat.le_refl _,0,rfl⟩
  |succ k=>
   match L,h with
   | [],h=>simp [parse] at h
   |none::L,h=>simp [parse] at h
   |some m::L,h=>
    simp only [parse] at h
    split at h
    ·cases h
    ·rename_i kids R1 h1
     split at h
     ·cases h
     ·rename_i more R2 h2
      cases h
      obtain ⟨a1,a2,n1,a3⟩:=ih _ _ _ _ h1;obtain ⟨b1,b2,n2,b3⟩:=ih _ _ _ _ h2;refine ⟨by rw [Fo.len,b1],by simp;omega,n1+n2+1,?_⟩;rw [b3,a3,List.drop_drop,List.drop_succ_cons]
theorem parse_fuel (f:Nat):∀g k (L:Row),L.length≤f→L.length≤g→parse f k L=parse g k L:=by
 induction f with
 |zero=>
  intro g k L h1 h2;have :L=[]:=List.eq_nil_of_length_eq_zero (by omega);subst this;cases k <;> cases g <;> simp [parse]
 |succ f ih=>
  intro g k L h1 h2;cases k with
  |zero=>cases g <;> simp [parse]
  |succ k=>
   match L,h1,h2 with
   | [],_,_=>cases g <;> simp [parse]
   |none::L,_,h2=>cases g <;> simp [parse]
   |some m::L,h1,h2=>
    cases g with
    |zero=>simp at h2
    |succ g=>
     simp only [List.length_cons] at h1 h2;simp only [parse];rw [ih g m L (by omega) (by omega)]
     split
     ·rfl
     ·rename_i kids R h
      have :=(zs3 _ _ _ _ _ h).2.1;rw [ih g k R (by omega) (by omega)]
def take (k:Nat) (L:Row):Option (Fo × Row):=parse L.length k L
theorem take_zero (L:Row):take 0 L=some (.nil,L):=by unfold take;cases L.length <;> rfl
theorem take_some (k m:Nat) (L:Row):take (k+1) (some m::L)=match take m L with
  |none=>none
  |some (kids,R)=>match take k R with
   |none=>none
   |some (more,R')=>some (.cons kids more,R'):=by
 unfold take;simp only [List.length_cons,parse]
 split
 ·rfl
 ·rename_i kids R h
  have :=(zs3 _ _ _ _ _ h).2.1;rw [parse_fuel L.length R.length k R (by omega) (Nat.le_refl _)]
theorem takeF_len {k:Nat} {L:Row} {F:Fo} {R:Row} (h:take k L=some (F,R)):F.len=k∧R.length+k≤L.length∧R=L.drop (L.length - R.length):=by
 obtain ⟨h1,h2,n,h3⟩:=zs3 _ _ _ _ _ h;refine ⟨h1,h2,?_⟩;by_cases hn:n≤L.length
 ·have :R.length=L.length - n:=by rw [h3,List.length_drop]
  rw [this,Nat.sub_sub_self hn];exact h3
 ·have e:R=[]:=by rw [h3];exact List.drop_eq_nil_of_le (by omega)
  subst e;simp
theorem zv2 (m:Nat) (L:Row):take 1 (some m::L)=(take m L).map (fun x=>(.cons x.1 .nil,x.2)):=by
 rw [show (1:Nat)=0+1 from rfl,take_some];cases h:take m L with
 |none=>rfl
 |some x=>obtain ⟨a,b⟩:=x;simp [take_zero]
theorem zy3 (k:Nat) (L:Row):take (k+1) L=match take 1 L with
  |none=>none
  |some (F,R)=>match take k R with
   |none=>none
   |some (more,R')=>some (F.app more,R'):=by
 match L with
 | []=>rfl
 |none::L=>rfl
 |some m::L=>
  rw [zv2,take_some];cases h:take m L with
  |none=>rfl
  |some x=>obtain ⟨a,b⟩:=x;rfl
theorem one_shape {L:Row} {F:Fo} {R:Row} (h:take 1 L=some (F,R)):∃kids,F= .cons kids .nil:=by
 match L,h with
 | [],h=>cases h
 |none::L,h=>cases h
 |some m::L,h=>
  rw [zv2] at h;cases h':take m L with
  |none=>rw [h'] at h;simp at h
  |some x=>rw [h'] at h;simp at h;exact ⟨x.1,h.1.symm⟩
def ends (k deep:Nat) (L:Row):Option Row:=match take k L with
 |none=>none
 |some (F,R)=>if deep+F.depth≤5 then some R else none
theorem ends_zero (deep:Nat) (L:Row) (h:deep≤5):ends 0 deep L=some L:=by
 unfold ends;rw [take_zero];simp [Fo.depth,h]
theorem ends_step (k deep:Nat) (L:Row):ends (k+1) deep L=(ends 1 deep L).bind (ends k deep):=by
 unfold ends;rw [zy3];cases h:take 1 L with
 |none=>rfl
 |some x=>
  obtain ⟨F,R⟩:=x;simp only;cases h2:take k R with
  |none=>
   by_cases h3:deep+F.depth≤5
   ·simp only [if_pos h3,Option.bind_some,h2]
   ·simp only [if_neg h3,Option.bind_none]
  |some y=>
   obtain ⟨M,R'⟩:=y;simp only [Fo.depth_app];by_cases h3:deep+F.depth≤5
   ·rw [if_pos h3];simp only [Option.bind_some,h2];by_cases h4:deep+M.depth≤5
    ·rw [if_pos h4,if_pos (by omega)]
    ·rw [if_neg h4,if_neg (by omega)]
   ·rw [if_neg h3,if_neg (by omega)];rfl
theorem ends_one (m deep:Nat) (L:Row):ends 1 deep (some m::L)=ends m (deep+1) L:=by
 unfold ends;rw [zv2];cases h1:take m L with
 |none=>rfl
 |some x=>
  obtain ⟨F,R⟩:=x;simp only [Option.map_some];have hd:=Fo.zy F;by_cases h2:deep+1+F.depth≤5
  ·rw [if_pos h2,if_pos (by omega)]
  ·rw [if_neg h2,if_neg (by omega)]
theorem ends_none (deep:Nat) (L:Row):ends 1 deep (none::L)=none:=rfl
theorem ends_nil (deep:Nat):ends 1 deep []=none:=rfl
theorem ends_deep (deep:Nat) (L:Row) (h:4<deep):ends 1 deep L=none:=by
 unfold ends;cases h1:take 1 L with
 |none=>rfl
 |some x=>
  obtain ⟨F,R⟩:=x;obtain ⟨kids,rfl⟩:=one_shape h1;have hd:=Fo.zy kids;exact if_neg (by omega)
theorem ends_len {k deep:Nat} {L R:Row} (h:ends k deep L=some R):R.length+k≤L.length∧R=L.drop (L.length - R.length):=by
 unfold ends at h;cases h1:take k L with
 |none=>rw [h1] at h;cases h
 |some x=>
  obtain ⟨F,R'⟩:=x;rw [h1] at h;simp only at h
  split at h
  ·cases h;exact (takeF_len h1).2
  ·cases h
def nest (L:Row):Option Fo:=if L.length≤12 then match take 1 L with
 |some (.cons k .nil,[])=>if k.depth≤3 then some k else none
 |_=>none else none
theorem nest_yes {L:Row} {k:Fo} (h:nest L=some k):L.length≤12∧take 1 L=some (.cons k .nil,[])∧k.depth≤3:=by
 unfold nest at h
 split at h
 ·split at h
  ·split at h
   ·cases h;exact ⟨by assumption,by assumption,by assumption⟩
   ·cases h
  ·cases h
 ·cases h
theorem nest_ends (L:Row) (h:L.length≤12):(nest L).isSome=true↔ends 1 1 L=some []:=by
 unfold nest ends;rw [if_pos h];cases h1:take 1 L with
 |none=>simp
 |some x=>
  obtain ⟨F,R⟩:=x;obtain ⟨k,rfl⟩:=one_shape h1;have hd:=Fo.zy k;cases R with
  |nil=>
   simp only;by_cases h2:k.depth≤3
   ·rw [if_pos h2,if_pos (by omega)];simp
   ·rw [if_neg h2,if_neg (by omega)];simp
  |cons a b=>simp only;split <;> simp
theorem zx7 (L:Row) (h:¬L.length≤12):nest L=none:=by unfold nest;rw [if_neg h]
end Pl
end
section
namespace Pl
def ze7 (m:Int) (L:List Nd):Bool:=decide (0≤m)&&decide (m≤4)&&(decide (m=0)||L.isEmpty)&&ze2 L
def zj9 (x:Int × List Nd):Option Nat:=if ze7 x.1 x.2=true then some x.1.toNat else none
def rowO (xs:List (Int × List Nd)):Row:=xs.map zj9
theorem treeB_nil:ze2 []=true:=by rfl
theorem ya2 (L:List Nd):ze7 0 L=ze2 L:=by simp [ze7]
theorem zv4 {m:Int} (h:m≠0) (L:List Nd):ze7 m L=(decide (1≤m)&&decide (m≤4)&&decide (L.length=0)):=by
 unfold ze7;rw [show decide (m=0)=false from decide_eq_false h,Bool.false_or];have e:decide (0≤m)=decide (1≤m):=decide_eq_decide.2 (by omega);rw [e];cases L with
 |nil=>simp [treeB_nil]
 |cons a L=>simp
theorem zs7 {m:Int} {L:List Nd} (h:ze7 m L=true):0≤m∧m≤4:=by
 simp [ze7] at h
 exact ⟨h.1.1.1,h.1.1.2⟩
theorem itemO_yes {m:Int} {L:List Nd} (h:ze7 m L=true):zj9 (m,L)=some m.toNat:=by simp [zj9,h]
theorem itemO_no {m:Int} {L:List Nd} (h:ze7 m L=false):zj9 (m,L)=none:=by simp [zj9,h]
theorem itemO_some {x:Int × List Nd} {k:Nat} (h:zj9 x=some k):x.1=(k:Int)∧k≤4:=by
 unfold zj9 at h
 split at h
 ·rename_i hb
  have :=zs7 hb;cases h
  omega
 ·cases h
theorem zn9 (xs:List (Int × List Nd)):(rowO xs).length=xs.length:=by simp [rowO]
theorem rowO_at {xs:List (Int × List Nd)} {i:Nat} {x:Int × List Nd} (h:xs[i]? =some x):(rowO xs).drop i=zj9 x::(rowO xs).drop (i+1):=by
 obtain ⟨h1,h2⟩:=List.getElem?_eq_some_iff.1 h;rw [List.drop_eq_getElem_cons (by rw [zn9];exact h1)]
 congr 1
 simp [rowO,h2]
def endI (n:Nat):Option Row→Int
 |none=> -1
 |some R=>(n:Int) - (R.length:Int)
theorem ends_at {k deep p n:Nat} {L R:Row} (hn:L.length=n) (hp:p≤n) (h:ends k deep (L.drop p)=some R):∃p':Nat,endI n (some R)=(p':Int)∧p'≤n∧L.drop p'=R:=by
 obtain ⟨h1,h2⟩:=ends_len h;rw [List.length_drop] at h1 h2;refine ⟨n - R.length,by rw [endI];omega,by omega,?_⟩;rw [List.drop_drop] at h2;have e:p+(L.length - p - R.length)=n - R.length:=by omega
 rw [e] at h2;exact h2.symm
def Fo.sz:Fo→Nat
 | .nil=>0
 | .cons k m=>k.sz+m.sz+1
theorem Fo.len_le (F:Fo):F.len≤F.sz:=by
 induction F with
 |nil=>simp [Fo.len]
 |cons k m _ ih=>simp only [Fo.len,Fo.sz];omega
theorem Fo.depth_le (F:Fo):F.depth≤F.sz:=by
 induction F with
 |nil=>simp [Fo.depth]
 |cons k m ih1 ih2=>simp only [Fo.depth,Fo.sz];omega
theorem parse_sz (f:Nat):∀k L F R,parse f k L=some (F,R)→F.sz+R.length=L.length:=by
 induction f with
 |zero=>
  intro k L F R h;cases k with
  |zero=>simp [parse] at h;obtain ⟨rfl,rfl⟩:=h;simp [Fo.sz]
  |succ k=>simp [parse] at h
 |succ f ih=>
  intro k L F R h;cases k with
  |zero=>simp [parse] at h;obtain ⟨rfl,rfl⟩:=h;simp [Fo.sz]
  |succ k=>
   match L,h with
   | [],h=>simp [parse] at h
   |none::L,h=>simp [parse] at h
   |some m::L,h=>
    simp only [parse] at h
    split at h
    ·cases h
    ·rename_i kids R1 h1
     split at h
     ·cases h
     ·rename_i more R2 h2
      cases h
      have a1:=ih _ _ _ _ h1;have a2:=ih _ _ _ _ h2;simp only [Fo.sz,List.length_cons];omega
theorem take_sz {k:Nat} {L R:Row} {F:Fo} (h:take k L=some (F,R)):F.sz+R.length=L.length:=parse_sz _ _ _ _ _ h
theorem nest_fail {L:Row} (h:take 1 L=none):nest L=none:=by
 unfold nest;rw [h];simp
theorem nest_rest {L R:Row} {k:Fo} (h:take 1 L=some (.cons k .nil,R)) (hR:R.length≠0):nest L=none:=by
 unfold nest;rw [h];cases R with
 |nil=>simp at hR
 |cons a b=>simp
theorem nest_deep {L R:Row} {k:Fo} (h:take 1 L=some (.cons k .nil,R)) (hd:4<k.depth+1):nest L=none:=by
 unfold nest;rw [h];cases R with
 |nil=>simp only;rw [if_neg (show ¬k.depth≤3 by omega)];simp
 |cons a b=>simp
theorem nest_ok {L R:Row} {k:Fo} (h12:L.length≤12) (h:take 1 L=some (.cons k .nil,R)) (hR:R.length=0) (hd:¬4<k.depth+1):nest L=some k:=by
 have e:R=[]:=List.eq_nil_of_length_eq_zero hR;subst e;unfold nest;rw [if_pos h12,h];simp only;rw [if_pos (show k.depth≤3 by omega)]
def went (F:Fo) (o:Option (Fo × Row)):Option (Fo × Row):=o.map (fun y=>(F.app y.1,y.2))
theorem went_start (o:Option (Fo × Row)):went .nil o=o:=by cases o <;> rfl
theorem went_step {F kids:Fo} {k:Nat} {L R:Row} (h:take 1 L=some (.cons kids .nil,R)):went F (take (k+1) L)=went (F.app (.cons kids .nil)) (take k R):=by
 rw [zy3,h];cases h2:take k R with
 |none=>simp [went,h2]
 |some y=>obtain ⟨m,R'⟩:=y;simp [went,h2,Fo.app_assoc]
theorem went_fail {F:Fo} {k:Nat} {L:Row} (h:take 1 L=none):went F (take (k+1) L)=none:=by
 rw [zy3,h];rfl
theorem went_end (F:Fo) (L:Row):went F (take 0 L)=some (F,L):=by simp [went,take_zero,Fo.app_nil]
theorem rowO_drop (xs:List (Int × List Nd)) (k:Nat):(rowO xs).drop k=rowO (xs.drop k):=by simp [rowO,List.map_drop]
end Pl
end
section
namespace Pl
inductive Fx where
 |nil:Fx
 |cons (L:List Nd) (kids more:Fx):Fx
namespace Fx
def shape:Fx→Fo
 | .nil=> .nil
 | .cons _ k m=> .cons k.shape m.shape
def len:Fx→Nat
 | .nil=>0
 | .cons _ _ m=>m.len+1
def sz:Fx→Nat
 | .nil=>0
 | .cons _ k m=>k.sz+m.sz+1
def flat:Fx→List (Int × List Nd)
 | .nil=>[]
 | .cons L k m=>((k.len:Int),L)::(k.flat++m.flat)
def app:Fx→Fx→Fx
 | .nil,r=>r
 | .cons L k m,r=> .cons L k (m.app r)
def okX:Fx→Prop
 | .nil=>True
 | .cons L k m=>ze2 L=true∧(k= .nil∨L=[])∧k.len≤4∧k.okX∧m.okX
theorem zx2 (X:Fx):X.shape.len=X.len:=by
 induction X with
 |nil=>rfl
 |cons L k m _ ih=>rw [shape,Fo.len,len,ih]
theorem flat_len (X:Fx):X.flat.length=X.sz:=by
 induction X with
 |nil=>rfl
 |cons L k m ih1 ih2=>rw [flat,List.length_cons,List.length_append,ih1,ih2,sz]
theorem shape_app (a b:Fx):(a.app b).shape=a.shape.app b.shape:=by
 induction a with
 |nil=>rfl
 |cons L k m _ ih=>rw [app,shape,shape,ih];rfl
theorem len_app (a b:Fx):(a.app b).len=a.len+b.len:=by
 induction a with
 |nil=>simp [app,len]
 |cons L k m _ ih=>rw [app,len,len,ih];omega
theorem flat_app (a b:Fx):(a.app b).flat=a.flat++b.flat:=by
 induction a with
 |nil=>rfl
 |cons L k m _ ih=>rw [app,flat,flat,ih];simp
theorem ok_app {a b:Fx} (ha:a.okX) (hb:b.okX):(a.app b).okX:=by
 induction a with
 |nil=>exact hb
 |cons L k m _ ih=>exact ⟨ha.1,ha.2.1,ha.2.2.1,ha.2.2.2.1,ih ha.2.2.2.2⟩
theorem shape_nil {X:Fx} (h:X.shape= .nil):X= .nil:=by
 cases X with
 |nil=>rfl
 |cons L k m=>cases h
theorem len_zero {X:Fx} (h:X.len=0):X= .nil:=by
 cases X with
 |nil=>rfl
 |cons L k m=>simp [len] at h
theorem len_le (X:Fx):X.len≤X.sz:=by
 induction X with
 |nil=>exact Nat.le_refl _
 |cons L k m _ ih=>rw [len,sz];omega
end Fx
end Pl
end
section
namespace Pl
theorem find_path {L:List Nd} {p:ByteArray} {m:Nd} (h:L.find? (fun m=>decide (m.path=p))=some m):m.path=p:=by
 have :=List.find?_some h
 simpa using this
theorem goS_iff (L:List Nd):∀ (r:List Nd) (prev:Option ByteArray),goS L prev r=true↔(∀n∈r,zc5 n=true∧dirS L (parent n.path)=true)∧r.Pairwise (fun a b=>za3 (names a.path) (names b.path)=true)∧∀n∈r,prevB prev n.path=true:=by
 intro r
 induction r with
 |nil=>intro prev;simp [goS]
 |cons m r ih=>
  intro prev;simp only [goS,Bool.and_eq_true];rw [ih]
  constructor
  ·rintro ⟨⟨⟨h1,h2⟩,h3⟩,h4,h5,h6⟩;refine ⟨fun n hn=>?_,List.Pairwise.cons (fun n hn=>h6 n hn) h5,fun n hn=>?_⟩
   ·rcases List.mem_cons.1 hn with rfl |hn
    ·exact ⟨h1,h3⟩
    ·exact h4 n hn
   ·rcases List.mem_cons.1 hn with rfl |hn
    ·exact h2
    ·cases prev with
     |none=>rfl
     |some q=>exact zg2 _ _ _ h2 (h6 n hn)
  ·rintro ⟨h1,h2,h3⟩;obtain ⟨h4,h5⟩:=List.pairwise_cons.1 h2;exact ⟨⟨⟨(h1 m (List.mem_cons_self ..)).1,h3 m (List.mem_cons_self ..)⟩,(h1 m (List.mem_cons_self ..)).2⟩,fun n hn=>h1 n (List.mem_cons_of_mem _ hn),h5,fun n hn=>h4 n hn⟩
theorem tree_iff (L:List Nd):ze2 L=true↔L.length≤40∧(∀n∈L,zc5 n=true∧dirS L (parent n.path)=true)∧L.Pairwise (fun a b=>za3 (names a.path) (names b.path)=true):=by
 rw [ze2,←tree_same,Bool.and_eq_true,decide_eq_true_eq,goS_iff]
 constructor
 ·rintro ⟨h1,h2,h3, -⟩;exact ⟨h1,h2,h3⟩
 ·rintro ⟨h1,h2,h3⟩;exact ⟨h1,h2,h3,fun n hn=>rfl⟩
theorem dirS_iff {L:List Nd} (h:L.Pairwise (fun a b=>za3 (names a.path) (names b.path)=true)) (p:ByteArray):dirS L p=true↔p.size=0∨∃m∈L,m.path=p∧m.kind=1:=by
 simp only [dirS,Bool.or_eq_true,decide_eq_true_eq];refine or_congr Iff.rfl ?_;cases hf:L.find? (fun m=>decide (m.path=p)) with
 |none=>
  rw [List.find?_eq_none] at hf
  constructor
  ·intro h;cases h
  ·rintro ⟨m,hm,e,_⟩;exact absurd (decide_eq_true e) (hf m hm)
 |some m'=>
  have h1:=List.mem_of_find?_eq_some hf;have h2:=find_path hf;simp only [decide_eq_true_eq]
  constructor
  ·intro h3;exact ⟨m',h1,h2,h3⟩
  ·rintro ⟨m,hm,e,hk⟩;rw [one_path h h1 hm (h2.trans e.symm)];exact hk
end Pl
end
section
namespace Pl
theorem take_flat (X:Fx):∀R,X.okX→take X.len (rowO (X.flat++R))=some (X.shape,rowO R):=by
 induction X with
 |nil=>intro R _;exact take_zero _
 |cons L k m ih1 ih2=>
  intro R hx;obtain ⟨h1,h2,h3,h4,h5⟩:=hx
  have hb:ze7 (k.len:Int) L=true:=by
   unfold ze7;simp only [Bool.and_eq_true,Bool.or_eq_true,decide_eq_true_eq,List.isEmpty_iff];exact ⟨⟨⟨by omega,by omega⟩,h2.imp (fun e=>by rw [e];rfl) id⟩,h1⟩
  have e:rowO ((Fx.cons L k m).flat++R)=some k.len::rowO (k.flat++(m.flat++R)):=by
   rw [Fx.flat,List.cons_append,List.append_assoc];show zj9 ((k.len:Int),L)::_=_;rw [itemO_yes hb,Int.toNat_natCast];rfl
  rw [e,Fx.len,take_some,ih1 _ h4];simp only;rw [ih2 _ h5];rfl
def starts:Fx→Nat→List Nat
 | .nil,_=>[]
 | .cons _ k m,p=>p::starts m (p+1+k.sz)
theorem starts_len (X:Fx):∀p,(starts X p).length=X.len:=by
 induction X with
 |nil=>intro p;rfl
 |cons L k m _ ih=>intro p;rw [starts,List.length_cons,ih,Fx.len]
theorem end_flat {xs:List (Int × List Nd)} {L:List Nd} {k m:Fx} {R:List (Int × List Nd)} {j:Nat} (h:xs.drop j=(Fx.cons L k m).flat++R) (hx:(Fx.cons L k m).okX) (hd:k.shape.depth≤3) (hj:j≤xs.length):endI xs.length (ends 1 1 ((rowO xs).drop j))=((j+1+k.sz:Nat):Int):=by
 have hx1:(Fx.cons L k .nil).okX:=⟨hx.1,hx.2.1,hx.2.2.1,hx.2.2.2.1,trivial⟩
 have e1:(rowO xs).drop j=rowO ((Fx.cons L k .nil).flat++(m.flat++R)):=by
  unfold rowO;rw [←List.map_drop,h];simp [Fx.flat]
 have e2:=take_flat (Fx.cons L k .nil) (m.flat++R) hx1;have e3:(Fx.cons L k .nil).len=1:=rfl;rw [e3] at e2;have hl:=congrArg List.length h;rw [List.length_drop,List.length_append,Fx.flat_len,Fx.sz] at hl;unfold ends;rw [e1,e2];have hdp:(Fx.cons L k .nil).shape.depth=k.shape.depth+1:=Fo.zy _;simp only;rw [if_pos (by omega),endI,zn9,List.length_append,Fx.flat_len];omega
theorem depth_cons {L:List Nd} {k m:Fx}:(Fx.cons L k m).shape.depth=max (k.shape.depth+1) m.shape.depth:=rfl
end Pl
end
end Go.Proofs.YtpakookhgpphaaaDoor
