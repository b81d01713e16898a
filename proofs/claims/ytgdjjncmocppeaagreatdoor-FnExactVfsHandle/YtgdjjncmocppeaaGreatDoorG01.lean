/- Several texts of one claim in one file: PlainNest, PlainItem, PlainFx, PlainNestX, PlainSight, PlainPick, PlainPickQ, PlainAsk, PlainTreeI, PlainGetV, PlainEnds. -/
import Derived.Test.YtgdjjncmocppeaaGreatDoorG00
import Derived.Deep.RegionHeld3
import Derived.Test.YtgdjjncmocppeaaGreatDoorProg
import Derived.WalkSpells
import Derived.Lib.OthersKept
import Derived.BigQuiet
namespace Go.Proofs.YtgdjjncmocppeaaGreatDoor
section
namespace Pl
inductive Fo where
 |nil:Fo
 |cons (kids more:Fo):Fo
namespace Fo
def len:Fo→Nat
 | .nil=>0
 | .cons _ m=>m.len+1
def depth:Fo→Nat
 | .nil=>0
 | .cons k m=>max (k.depth+1) m.depth
def app:Fo→Fo→Fo
 | .nil,r=>r
 | .cons k m,r=> .cons k (m.app r)
theorem app_nil (a:Fo):a.app .nil=a:=by
 induction a with
 |nil=>rfl
 |cons k m _ ih=>rw [app,ih]
theorem app_assoc (a b c:Fo):(a.app b).app c=a.app (b.app c):=by
 induction a with
 |nil=>rfl
 |cons k m _ ih=>rw [app,app,app,ih]
theorem len_app (a b:Fo):(a.app b).len=a.len+b.len:=by
 induction a with
 |nil=>simp [app,len]
 |cons k m _ ih=>rw [app,len,len,ih];omega
theorem depth_app (a b:Fo):(a.app b).depth=max a.depth b.depth:=by
 induction a with
 |nil=>simp [app,depth]
 |cons k m _ ih=>rw [app,depth,depth,ih];omega
theorem zw0 (k:Fo):(Fo.cons k .nil).depth=k.depth+1:=by simp [depth]
end Fo
abbrev Row:=List (Option Nat)
def parse:Nat→Nat→Row→Option (Fo × Row)
 |_,0,L=>some (.nil,L)
 |0,_+1,_=>none
 |_+1,_+1,[]=>none
 |_+1,_+1,none::_=>none
 |f+1,k+1,some m::L=>match parse f m L with
  |none=>none
  |some (kids,R)=>match parse f k R with
   |none=>none
   |some (more,R')=>some (.cons kids more,R')
theorem zv6 (f:Nat):∀k L F R,parse f k L=some (F,R)→F.len=k∧R.length+k≤L.length∧∃n,R=L.drop n:=by
 induction f with
 |zero=>
  intro k L F R h;cases k with
  |zero=>simp [parse] at h;obtain ⟨rfl,rfl⟩:=h;exact ⟨rfl,Nat.le_refl _,0,rfl⟩
  |succ k=>simp [parse] at h
 |succ f ih=>
  intro k L F R h;cases k with
  |zero=>simp [parse] at h;obtain ⟨rfl,rfl⟩:=h;exact ⟨rfl,Nat.le_refl _,0,rfl⟩
  |succ k=>
   match L,h with
   | [],h=>simp [parse] at h
   |none::L,h=>simp [parse] at h
   |some m::L,h=>
    simp only [parse] at h
    split at h
    ·cases h
    ·rename_i kids R1 h1
     split at h
     ·cases h
     ·rename_i more R2 h2
      cases h
      obtain ⟨a1,a2,n1,a3⟩:=ih _ _ _ _ h1;obtain ⟨b1,b2,n2,b3⟩:=ih _ _ _ _ h2;refine ⟨by rw [Fo.len,b1],by simp;omega,n1+n2+1,?_⟩;rw [b3,a3,List.drop_drop,List.drop_succ_cons]
theorem parse_fuel (f:Nat):∀g k (L:Row),L.length≤f→L.length≤g→parse f k L=parse g k L:=by
 induction f with
 |zero=>
  intro g k L h1 h2;have :L=[]:=List.eq_nil_of_length_eq_zero (by omega);subst this;cases k <;> cases g <;> simp [parse]
 |succ f ih=>
  intro g k L h1 h2;cases k with
  |zero=>cases g <;> simp [parse]
  |succ k=>
   match L,h1,h2 with
   | [],_,_=>cases g <;> simp [parse]
   |none::L,_,h2=>cases g <;> simp [parse]
   |some m::L,h1,h2=>
    cases g with
    |zero=>simp at h2
    |succ g=>
     simp only [List.length_cons] at h1 h2;simp only [parse];rw [ih g m L (by omega) (by omega)]
     split
     ·rfl
     ·rename_i kids R h
      have :=(zv6 _ _ _ _ _ h).2.1;rw [ih g k R (by omega) (by omega)]
def take (k:Nat) (L:Row):Option (Fo × Row):=parse L.length k L
theorem take_zero (L:Row):take 0 L=some (.nil,L):=by unfold take;cases L.length <;> rfl
theorem yb6 (k m:Nat) (L:Row):take (k+1) (some m::L)=match take m L with
  |none=>none
  |some (kids,R)=>match take k R with
   |none=>none
   |some (more,R')=>some (.cons kids more,R'):=by
 unfold take;simp only [List.length_cons,parse]
 split
 ·rfl
 ·rename_i kids R h
  have :=(zv6 _ _ _ _ _ h).2.1;rw [parse_fuel L.length R.length k R (by omega) (Nat.le_refl _)]
theorem takeF_len {k:Nat} {L:Row} {F:Fo} {R:Row} (h:take k L=some (F,R)):F.len=k∧R.length+k≤L.length∧R=L.drop (L.length - R.length):=by
 obtain ⟨h1,h2,n,h3⟩:=zv6 _ _ _ _ _ h;refine ⟨h1,h2,?_⟩;by_cases hn:n≤L.length
 ·have :R.length=L.length - n:=by rw [h3,List.length_drop]
  rw [this,Nat.sub_sub_self hn];exact h3
 ·have e:R=[]:=by rw [h3];exact List.drop_eq_nil_of_le (by omega)
  subst e;simp
theorem zz7 (m:Nat) (L:Row):take 1 (some m::L)=(take m L).map (fun x=>(.cons x.1 .nil,x.2)):=by
 rw [show (1:Nat)=0+1 from rfl,yb6];cases h:take m L with
 |none=>rfl
 |some x=>obtain ⟨a,b⟩:=x;simp [take_zero]
theorem yc2 (k:Nat) (L:Row):take (k+1) L=match take 1 L with
  |none=>none
  |some (F,R)=>match take k R with
   |none=>none
   |some (more,R')=>some (F.app more,R'):=by
 match L with
 | []=>rfl
 |none::L=>rfl
 |some m::L=>
  rw [zz7,yb6];cases h:take m L with
  |none=>rfl
  |some x=>obtain ⟨a,b⟩:=x;rfl
theorem one_shape {L:Row} {F:Fo} {R:Row} (h:take 1 L=some (F,R)):∃kids,F= .cons kids .nil:=by
 match L,h with
 | [],h=>cases h
 |none::L,h=>cases h
 |some m::L,h=>
  rw [zz7] at h;cases h':take m L with
  |none=>rw [h'] at h;simp at h
  |some x=>rw [h'] at h;simp at h;exact ⟨x.1,h.1.symm⟩
def ends (k deep:Nat) (L:Row):Option Row:=match take k L with
 |none=>none
 |some (F,R)=>if deep+F.depth≤5 then some R else none
theorem ends_zero (deep:Nat) (L:Row) (h:deep≤5):ends 0 deep L=some L:=by
 unfold ends;rw [take_zero];simp [Fo.depth,h]
theorem ends_step (k deep:Nat) (L:Row):ends (k+1) deep L=(ends 1 deep L).bind (ends k deep):=by
 unfold ends;rw [yc2];cases h:take 1 L with
 |none=>rfl
 |some x=>
  obtain ⟨F,R⟩:=x;simp only;cases h2:take k R with
  |none=>
   by_cases h3:deep+F.depth≤5
   ·simp only [if_pos h3,Option.bind_some,h2]
   ·simp only [if_neg h3,Option.bind_none]
  |some y=>
   obtain ⟨M,R'⟩:=y;simp only [Fo.depth_app];by_cases h3:deep+F.depth≤5
   ·rw [if_pos h3];simp only [Option.bind_some,h2];by_cases h4:deep+M.depth≤5
    ·rw [if_pos h4,if_pos (by omega)]
    ·rw [if_neg h4,if_neg (by omega)]
   ·rw [if_neg h3,if_neg (by omega)];rfl
theorem ends_one (m deep:Nat) (L:Row):ends 1 deep (some m::L)=ends m (deep+1) L:=by
 unfold ends;rw [zz7];cases h1:take m L with
 |none=>rfl
 |some x=>
  obtain ⟨F,R⟩:=x;simp only [Option.map_some];have hd:=Fo.zw0 F;by_cases h2:deep+1+F.depth≤5
  ·rw [if_pos h2,if_pos (by omega)]
  ·rw [if_neg h2,if_neg (by omega)]
theorem ends_none (deep:Nat) (L:Row):ends 1 deep (none::L)=none:=rfl
theorem ends_nil (deep:Nat):ends 1 deep []=none:=rfl
theorem ends_deep (deep:Nat) (L:Row) (h:4<deep):ends 1 deep L=none:=by
 unfold ends;cases h1:take 1 L with
 |none=>rfl
 |some x=>
  obtain ⟨F,R⟩:=x;obtain ⟨kids,rfl⟩:=one_shape h1;have hd:=Fo.zw0 kids;exact if_neg (by omega)
theorem ends_len {k deep:Nat} {L R:Row} (h:ends k deep L=some R):R.length+k≤L.length∧R=L.drop (L.length - R.length):=by
 unfold ends at h;cases h1:take k L with
 |none=>rw [h1] at h;cases h
 |some x=>
  obtain ⟨F,R'⟩:=x;rw [h1] at h;simp only at h
  split at h
  ·cases h;exact (takeF_len h1).2
  ·cases h
def nest (L:Row):Option Fo:=if L.length≤12 then match take 1 L with
 |some (.cons k .nil,[])=>if k.depth≤3 then some k else none
 |_=>none else none
theorem ya1 {L:Row} {k:Fo} (h:nest L=some k):L.length≤12∧take 1 L=some (.cons k .nil,[])∧k.depth≤3:=by
 unfold nest at h
 split at h
 ·split at h
  ·split at h
   ·cases h;exact ⟨by assumption,by assumption,by assumption⟩
   ·cases h
  ·cases h
 ·cases h
theorem nest_ends (L:Row) (h:L.length≤12):(nest L).isSome=true↔ends 1 1 L=some []:=by
 unfold nest ends;rw [if_pos h];cases h1:take 1 L with
 |none=>simp
 |some x=>
  obtain ⟨F,R⟩:=x;obtain ⟨k,rfl⟩:=one_shape h1;have hd:=Fo.zw0 k;cases R with
  |nil=>
   simp only;by_cases h2:k.depth≤3
   ·rw [if_pos h2,if_pos (by omega)];simp
   ·rw [if_neg h2,if_neg (by omega)];simp
  |cons a b=>simp only;split <;> simp
theorem yc (L:Row) (h:¬L.length≤12):nest L=none:=by unfold nest;rw [if_neg h]
end Pl
end
section
namespace Pl
def zf0 (m:Int) (L:List Nd):Bool:=decide (0≤m)&&decide (m≤4)&&(decide (m=0)||L.isEmpty)&&zc7 L
def zl (x:Int × List Nd):Option Nat:=if zf0 x.1 x.2=true then some x.1.toNat else none
def rowO (xs:List (Int × List Nd)):Row:=xs.map zl
theorem treeB_nil:zc7 []=true:=by rfl
theorem yf8 (L:List Nd):zf0 0 L=zc7 L:=by simp [zf0]
theorem zz8 {m:Int} (h:m≠0) (L:List Nd):zf0 m L=(decide (1≤m)&&decide (m≤4)&&decide (L.length=0)):=by
 unfold zf0;rw [show decide (m=0)=false from decide_eq_false h,Bool.false_or];have e:decide (0≤m)=decide (1≤m):=decide_eq_decide.2 (by omega);rw [e];cases L with
 |nil=>simp [treeB_nil]
 |cons a L=>simp
theorem zw7 {m:Int} {L:List Nd} (h:zf0 m L=true):0≤m∧m≤4:=by
 simp [zf0] at h
 exact ⟨h.1.1.1,h.1.1.2⟩
theorem yb5 {m:Int} {L:List Nd} (h:zf0 m L=true):zl (m,L)=some m.toNat:=by simp [zl,h]
theorem itemO_no {m:Int} {L:List Nd} (h:zf0 m L=false):zl (m,L)=none:=by simp [zl,h]
theorem itemO_some {x:Int × List Nd} {k:Nat} (h:zl x=some k):x.1=(k:Int)∧k≤4:=by
 unfold zl at h
 split at h
 ·rename_i hb
  have :=zw7 hb;cases h
  omega
 ·cases h
theorem zm4 (xs:List (Int × List Nd)):(rowO xs).length=xs.length:=by simp [rowO]
theorem rowO_at {xs:List (Int × List Nd)} {i:Nat} {x:Int × List Nd} (h:xs[i]? =some x):(rowO xs).drop i=zl x::(rowO xs).drop (i+1):=by
 obtain ⟨h1,h2⟩:=List.getElem?_eq_some_iff.1 h;rw [List.drop_eq_getElem_cons (by rw [zm4];exact h1)]
 congr 1
 simp [rowO,h2]
def endI (n:Nat):Option Row→Int
 |none=> -1
 |some R=>(n:Int) - (R.length:Int)
theorem ends_at {k deep p n:Nat} {L R:Row} (hn:L.length=n) (hp:p≤n) (h:ends k deep (L.drop p)=some R):∃p':Nat,endI n (some R)=(p':Int)∧p'≤n∧L.drop p'=R:=by
 obtain ⟨h1,h2⟩:=ends_len h;rw [List.length_drop] at h1 h2;refine ⟨n - R.length,by rw [endI];omega,by omega,?_⟩;rw [List.drop_drop] at h2;have e:p+(L.length - p - R.length)=n - R.length:=by omega
 rw [e] at h2;exact h2.symm
def Fo.sz:Fo→Nat
 | .nil=>0
 | .cons k m=>k.sz+m.sz+1
theorem Fo.len_le (F:Fo):F.len≤F.sz:=by
 induction F with
 |nil=>simp [Fo.len]
 |cons k m _ ih=>simp only [Fo.len,Fo.sz];omega
theorem Fo.depth_le (F:Fo):F.depth≤F.sz:=by
 induction F with
 |nil=>simp [Fo.depth]
 |cons k m ih1 ih2=>simp only [Fo.depth,Fo.sz];omega
theorem parse_sz (f:Nat):∀k L F R,parse f k L=some (F,R)→F.sz+R.length=L.length:=by
 induction f with
 |zero=>
  intro k L F R h;cases k with
  |zero=>simp [parse] at h;obtain ⟨rfl,rfl⟩:=h;simp [Fo.sz]
  |succ k=>simp [parse] at h
 |succ f ih=>
  intro k L F R h;cases k with
  |zero=>simp [parse] at h;obtain ⟨rfl,rfl⟩:=h;simp [Fo.sz]
  |succ k=>
   match L,h with
   | [],h=>simp [parse] at h
   |none::L,h=>simp [parse] at h
   |some m::L,h=>
    simp only [parse] at h
    split at h
    ·cases h
    ·rename_i kids R1 h1
     split at h
     ·cases h
     ·rename_i more R2 h2
      cases h
      have a1:=ih _ _ _ _ h1;have a2:=ih _ _ _ _ h2;simp only [Fo.sz,List.length_cons];omega
theorem take_sz {k:Nat} {L R:Row} {F:Fo} (h:take k L=some (F,R)):F.sz+R.length=L.length:=parse_sz _ _ _ _ _ h
theorem nest_fail {L:Row} (h:take 1 L=none):nest L=none:=by
 unfold nest;rw [h];simp
theorem nest_rest {L R:Row} {k:Fo} (h:take 1 L=some (.cons k .nil,R)) (hR:R.length≠0):nest L=none:=by
 unfold nest;rw [h];cases R with
 |nil=>simp at hR
 |cons a b=>simp
theorem nest_deep {L R:Row} {k:Fo} (h:take 1 L=some (.cons k .nil,R)) (hd:4<k.depth+1):nest L=none:=by
 unfold nest;rw [h];cases R with
 |nil=>simp only;rw [if_neg (show ¬k.depth≤3 by omega)];simp
 |cons a b=>simp
theorem nest_ok {L R:Row} {k:Fo} (h12:L.length≤12) (h:take 1 L=some (.cons k .nil,R)) (hR:R.length=0) (hd:¬4<k.depth+1):nest L=some k:=by
 have e:R=[]:=List.eq_nil_of_length_eq_zero hR;subst e;unfold nest;rw [if_pos h12,h];simp only;rw [if_pos (show k.depth≤3 by omega)]
def went (F:Fo) (o:Option (Fo × Row)):Option (Fo × Row):=o.map (fun y=>(F.app y.1,y.2))
theorem went_start (o:Option (Fo × Row)):went .nil o=o:=by cases o <;> rfl
theorem went_step {F kids:Fo} {k:Nat} {L R:Row} (h:take 1 L=some (.cons kids .nil,R)):went F (take (k+1) L)=went (F.app (.cons kids .nil)) (take k R):=by
 rw [yc2,h];cases h2:take k R with
 |none=>simp [went,h2]
 |some y=>obtain ⟨m,R'⟩:=y;simp [went,h2,Fo.app_assoc]
theorem went_fail {F:Fo} {k:Nat} {L:Row} (h:take 1 L=none):went F (take (k+1) L)=none:=by
 rw [yc2,h];rfl
theorem went_end (F:Fo) (L:Row):went F (take 0 L)=some (F,L):=by simp [went,take_zero,Fo.app_nil]
theorem rowO_drop (xs:List (Int × List Nd)) (k:Nat):(rowO xs).drop k=rowO (xs.drop k):=by simp [rowO,List.map_drop]
end Pl
end
section
namespace Pl
inductive Fx where
 |nil:Fx
 |cons (L:List Nd) (kids more:Fx):Fx
namespace Fx
def shape:Fx→Fo
 | .nil=> .nil
 | .cons _ k m=> .cons k.shape m.shape
def len:Fx→Nat
 | .nil=>0
 | .cons _ _ m=>m.len+1
def sz:Fx→Nat
 | .nil=>0
 | .cons _ k m=>k.sz+m.sz+1
def flat:Fx→List (Int × List Nd)
 | .nil=>[]
 | .cons L k m=>((k.len:Int),L)::(k.flat++m.flat)
def app:Fx→Fx→Fx
 | .nil,r=>r
 | .cons L k m,r=> .cons L k (m.app r)
def okX:Fx→Prop
 | .nil=>True
 | .cons L k m=>zc7 L=true∧(k= .nil∨L=[])∧k.len≤4∧k.okX∧m.okX
theorem zv2 (X:Fx):X.shape.len=X.len:=by
 induction X with
 |nil=>rfl
 |cons L k m _ ih=>rw [shape,Fo.len,len,ih]
theorem flat_len (X:Fx):X.flat.length=X.sz:=by
 induction X with
 |nil=>rfl
 |cons L k m ih1 ih2=>rw [flat,List.length_cons,List.length_append,ih1,ih2,sz]
theorem shape_app (a b:Fx):(a.app b).shape=a.shape.app b.shape:=by
 induction a with
 |nil=>rfl
 |cons L k m _ ih=>rw [app,shape,shape,ih];rfl
theorem len_app (a b:Fx):(a.app b).len=a.len+b.len:=by
 induction a with
 |nil=>simp [app,len]
 |cons L k m _ ih=>rw [app,len,len,ih];omega
theorem flat_app (a b:Fx):(a.app b).flat=a.flat++b.flat:=by
 induction a with
 |nil=>rfl
 |cons L k m _ ih=>rw [app,flat,flat,ih];simp
theorem ok_app {a b:Fx} (ha:a.okX) (hb:b.okX):(a.app b).okX:=by
 induction a with
 |nil=>exact hb
 |cons L k m _ ih=>exact ⟨ha.1,ha.2.1,ha.2.2.1,ha.2.2.2.1,ih ha.2.2.2.2⟩
theorem shape_nil {X:Fx} (h:X.shape= .nil):X= .nil:=by
 cases X with
 |nil=>rfl
 |cons L k m=>cases h
theorem len_zero {X:Fx} (h:X.len=0):X= .nil:=by
 cases X with
 |nil=>rfl
 |cons L k m=>simp [len] at h
theorem len_le (X:Fx):X.len≤X.sz:=by
 induction X with
 |nil=>exact Nat.le_refl _
 |cons L k m _ ih=>rw [len,sz];omega
theorem ok_mem {X:Fx} (h:X.okX):∀x∈X.flat,zc7 x.2=true∧0≤x.1∧x.1≤4:=by
 induction X with
 |nil=>intro x hx;cases hx
 |cons L k m ih1 ih2=>
  intro x hx;rw [flat,List.mem_cons,List.mem_append] at hx
  rcases hx with rfl |hx|hx
  ·exact ⟨h.1,by omega,by have :=h.2.2.1;omega⟩
  ·exact ih1 h.2.2.2.1 x hx
  ·exact ih2 h.2.2.2.2 x hx
end Fx
end Pl
end
section
namespace Pl
def fill:Fo→List (Int × List Nd)→Fx × List (Int × List Nd)
 | .nil,xs=>(.nil,xs)
 | .cons _ _,[]=>(.nil,[])
 | .cons k m,x::xs=>(.cons x.2 (fill k xs).1 (fill m (fill k xs).2).1,(fill m (fill k xs).2).2)
theorem fill_flat (X:Fx):∀R,fill X.shape (X.flat++R)=(X,R):=by
 induction X with
 |nil=>intro R;rfl
 |cons L k m ih1 ih2=>
  intro R;rw [Fx.shape,Fx.flat,List.cons_append,fill,List.append_assoc,ih1,ih2]
def nestX (xs:List (Int × List Nd)):Option (List Nd × Fx):=match nest (rowO xs) with
 |none=>none
 |some k=>match (fill (.cons k .nil) xs).1 with
  | .cons L K _=>some (L,K)
  | .nil=>none
theorem yg {xs:List (Int × List Nd)} {L:List Nd} {k:Fx} (h:nest (rowO xs)=some k.shape) (hf:(Fx.cons L k .nil).flat=xs):nestX xs=some (L,k):=by
 unfold nestX;rw [h];have :=fill_flat (Fx.cons L k .nil) [];rw [List.append_nil,hf] at this;have e2:fill (Fo.cons k.shape .nil) xs=(Fx.cons L k .nil,[]):=this;simp only [e2]
theorem parse_fill (f:Nat):∀k (xs:List (Int × List Nd)) F R,parse f k (rowO xs)=some (F,R)→∃X rest,Fx.shape X=F∧R=rowO rest∧xs=X.flat++rest∧X.okX:=by
 induction f with
 |zero=>
  intro k xs F R h;cases k with
  |zero=>simp [parse] at h;obtain ⟨rfl,rfl⟩:=h;exact ⟨.nil,xs,rfl,rfl,rfl,trivial⟩
  |succ k=>simp [parse] at h
 |succ f ih=>
  intro k xs F R h;cases k with
  |zero=>simp [parse] at h;obtain ⟨rfl,rfl⟩:=h;exact ⟨.nil,xs,rfl,rfl,rfl,trivial⟩
  |succ k=>
   cases xs with
   |nil=>simp [rowO,parse] at h
   |cons x xs=>
    have e:rowO (x::xs)=zl x::rowO xs:=rfl;rw [e] at h;cases hx:zl x with
    |none=>rw [hx] at h;simp [parse] at h
    |some m=>
     rw [hx] at h;simp only [parse] at h
     split at h
     ·cases h
     ·rename_i kids R1 h1
      split at h
      ·cases h
      ·rename_i more R2 h2
       cases h
       obtain ⟨K,r1,e1,e2,e3,o1⟩:=ih _ _ _ _ h1;rw [e2] at h2;obtain ⟨M,r2,e4,e5,e6,o2⟩:=ih _ _ _ _ h2;have hm:=itemO_some hx;have hl:K.len=m:=by rw [←Fx.zv2,e1];exact (zv6 _ _ _ _ _ h1).1
       have hb:zf0 x.1 x.2=true:=by
        unfold zl at hx
        split at hx
        ·assumption
        ·cases hx
       have hb2:zc7 x.2=true∧(x.1=0∨x.2=[]):=by
        unfold zf0 at hb;simp only [Bool.and_eq_true,Bool.or_eq_true,decide_eq_true_eq,List.isEmpty_iff] at hb;exact ⟨hb.2,hb.1.2⟩
       refine ⟨.cons x.2 K M,r2,by rw [Fx.shape,e1,e4],e5,?_,hb2.1,?_,by omega,o1,o2⟩
       ·rw [Fx.flat,hl,←hm.1,List.cons_append,List.append_assoc,←e6,←e3]
       ·rcases hb2.2 with h0|h0
        ·exact .inl (Fx.len_zero (by omega))
        ·exact .inr h0
theorem ya8 {xs:List (Int × List Nd)} {F:Fo} (h:nest (rowO xs)=some F):∃L k,Fx.shape k=F∧(Fx.cons L k .nil).flat=xs∧(Fx.cons L k .nil).okX∧nestX xs=some (L,k):=by
 obtain ⟨-,h2, -⟩:=ya1 h;obtain ⟨X,rest,e1,e2,e3,o⟩:=parse_fill _ _ _ _ _ h2
 have hr:rest=[]:=by
  cases rest with
  |nil=>rfl
  |cons a b=>simp [rowO] at e2
 subst hr;rw [List.append_nil] at e3;cases X with
 |nil=>cases e1
 |cons L k m=>
  rw [Fx.shape] at e1;simp only [Fo.cons.injEq] at e1;have hm:=Fx.shape_nil e1.2;subst hm;refine ⟨L,k,e1.1,e3.symm,o,yg (by rw [e1.1];exact h) e3.symm⟩
theorem nest_len {xs:List (Int × List Nd)} {F:Fo} (h:nest (rowO xs)=some F):xs.length≤12:=by
 have :=(ya1 h).1;rw [zm4] at this;exact this
end Pl
end
section
open Go.RowKit
namespace Pl
structure Sg where
 told:Bool
 node:Nd
 have':List Bool
def Sg.cs (s:Sg):List Value:=[.bool s.told, .string s.node.path, .int .i64 s.node.kind, .string s.node.data, .int .i64 s.node.time, .int .i64 s.node.mark]++s.have'.map .bool
def za3:Nd:=⟨⟨#[]⟩,0,⟨#[]⟩,0,0⟩
def Sg.zero:Sg:=⟨false,za3,[false,false,false,false]⟩
def zh5 (n:Nd) (m:Int):Nd:=⟨n.path,n.kind,n.data,n.time,max n.mark m⟩
def zc8 (s:Sg) (k:Nat) (n:Nd):Sg:=⟨true,zh5 (if s.told then s.node else n) n.mark,s.have'.set k (decide (n.kind=1))⟩
def zf9 (n:Nd):Bool:= !decide (n.kind=1)||decide (0<n.mark)
def upS (s:Sg):Sg:=
 if s.node.kind=0∧max (s.node.mark - 1) 0=0 then Sg.zero else ⟨s.told,⟨s.node.path,s.node.kind,s.node.data,s.node.time,max (s.node.mark - 1) 0⟩,s.have'⟩
def goD:Nat→Sg→List (Option Nd)→Sg
 |_,s,[]=>s
 |k,s,none::r=>goD (k+1) s r
 |k,s,some n::r=>if zf9 n then zc8 s k n else goD (k+1) (zc8 s k n) r
def decS (ns:List (Option Nd)):Sg:=upS (goD 0 Sg.zero ns)
def lk (L:List Nd) (p:ByteArray):Option Nd:=L.find? (fun m=>decide (m.path=p))
theorem go_step {ns:List (Option Nd)} {k:Nat} {x:Option Nd} (h:ns[k]? =some x) (j:Nat) (s:Sg):goD j s (ns.drop k)=match x with |none=>goD (j+1) s (ns.drop (k+1))|some n=>if zf9 n then zc8 s j n else goD (j+1) (zc8 s j n) (ns.drop (k+1)):=by
 have h1:=List.getElem?_eq_some_iff.1 h;rw [List.drop_eq_getElem_cons h1.1,h1.2];cases x <;> rfl
theorem go_end {ns:List (Option Nd)} {k:Nat} (h:ns.length≤k) (j:Nat) (s:Sg):goD j s (ns.drop k)=s:=by
 rw [List.drop_eq_nil_of_le h];rfl
theorem take_len (s:Sg) (k:Nat) (n:Nd):(zc8 s k n).have'.length=s.have'.length:=by simp [zc8]
theorem take_mark {s:Sg} {k:Nat} {n:Nd} (h:0≤s.node.mark∧s.node.mark≤8) (hn:0≤n.mark∧n.mark≤8):0≤(zc8 s k n).node.mark∧(zc8 s k n).node.mark≤8:=by
 unfold zc8 zh5;cases s.told <;> simp <;> omega
theorem up_len {s:Sg} (h:s.have'.length=4):(upS s).have'.length=4:=by
 unfold upS
 split
 ·rfl
 ·exact h
end Pl
end
section
open Go.RowKit
namespace Pl
structure Ot where
 ok:Bool
 node:Nd
 parts:List Nat
def finO (o:Ot) (mark:Int):Ot:=⟨o.ok,⟨o.node.path,o.node.kind,o.node.data,o.node.time,max 0 (mark - 1)⟩,o.parts⟩
def zc9 (p:ByteArray) (o:Ot) (mark:Int):List (Nat × Option Nd)→Ot
 | []=>finO o mark
 |(_,none)::r=>zc9 p o mark r
 |(k,some n)::r=>
  if o.parts=[] then
   if n.kind=1 then (if 0<n.mark then finO ⟨true,⟨p,1,⟨#[]⟩,n.time,0⟩,[k]⟩ (max mark n.mark) else zc9 p ⟨true,⟨p,1,⟨#[]⟩,n.time,0⟩,[k]⟩ (max mark n.mark) r)
   else if n.kind=0 then ⟨decide (1<n.mark),⟨p,0,⟨#[]⟩,0,n.mark - 1⟩,[]⟩ else ⟨true,n,[]⟩
  else if n.kind=1 then (if 0<n.mark then finO ⟨o.ok,o.node,o.parts++[k]⟩ (max mark n.mark) else zc9 p ⟨o.ok,o.node,o.parts++[k]⟩ (max mark n.mark) r) else finO o (max mark n.mark)
def numb:Nat→List (Option Nd)→List (Nat × Option Nd)
 |_,[]=>[]
 |k,x::r=>(k,x)::numb (k+1) r
def zb (ks:List Nat):List Bool:=(List.range 4).map (fun j=>decide (j∈ks))
theorem parts_in {ks:List Nat} {k:Nat} (h:k<4):(zb ks).set k true=zb (ks++[k]):=by
 obtain rfl |rfl |rfl |rfl:k=0∨k=1∨k=2∨k=3:=by omega
 all_goals simp [zb,List.range_succ]
theorem parts_out {ks:List Nat} {k:Nat} (h:k<4) (hk:k∉ks):(zb ks).set k false=zb ks:=by
 obtain rfl |rfl |rfl |rfl:k=0∨k=1∨k=2∨k=3:=by omega
 all_goals simp [zb,List.range_succ,hk]
structure SameO (o:Ot) (s:Sg):Prop where
 told:o.ok=s.told
 node:o.ok=true→o.node=s.node
 parts:s.have'=zb o.parts
 dir:o.parts≠[]→o.ok=true∧o.node.kind=1
 no:o.parts=[]→o.ok=true→o.node.kind≠1
theorem yg3 {d:ByteArray} (h:d.size=0):d=⟨#[]⟩:=by
 cases d with
 |mk a=>have :a=#[]:=Array.size_eq_zero_iff.1 h;rw [this]
def zq5 (p:ByteArray) (ns:List (Option Nd)):Prop:=∀n,some n∈ns→zb1 n=true∧n.path=p
theorem zy4 {p:ByteArray} {t mark:Int} {ks:List Nat} (hks:ks≠[]):SameO (finO ⟨true,⟨p,1,⟨#[]⟩,t,0⟩,ks⟩ mark) (upS ⟨true,⟨p,1,⟨#[]⟩,t,mark⟩,zb ks⟩):=by
 have hu:upS ⟨true,⟨p,1,⟨#[]⟩,t,mark⟩,zb ks⟩=⟨true,⟨p,1,⟨#[]⟩,t,max (mark - 1) 0⟩,zb ks⟩:=by
  unfold upS;rw [if_neg (by simp)]
 rw [hu];refine ⟨rfl,fun _=>?_,rfl,fun _=>⟨rfl,rfl⟩,fun h=>absurd h hks⟩;simp only [finO];rw [Int.max_comm]
theorem pick_dirs (p:ByteArray):∀ (ns:List (Option Nd)) (k:Nat) (t mark:Int) (ks:List Nat),zq5 p ns→k+ns.length≤4→ks≠[]→(∀j∈ks,j<k)→0≤mark→
  SameO (zc9 p ⟨true,⟨p,1,⟨#[]⟩,t,0⟩,ks⟩ mark (numb k ns)) (upS (goD k ⟨true,⟨p,1,⟨#[]⟩,t,mark⟩,zb ks⟩ ns)):=by
 intro ns
 induction ns with
 |nil=>intro k t mark ks _ _ hks _ hm;exact zy4 hks
 |cons x ns ih=>
  intro k t mark ks hr hl hks hlt hm;have hr':zq5 p ns:=fun n hn=>hr n (List.mem_cons_of_mem _ hn);simp only [List.length_cons] at hl;cases x with
  |none=>exact ih (k+1) t mark ks hr' (by omega) hks (fun j hj=>Nat.lt_succ_of_lt (hlt j hj)) hm
  |some n=>
   have hnk:k∉ks:=fun h=>absurd (hlt k h) (Nat.lt_irrefl _);have hm2:0≤max mark n.mark:=by omega
   simp only [numb,zc9,goD];rw [if_neg hks];by_cases hk:n.kind=1
   ·have htk:zc8 ⟨true,⟨p,1,⟨#[]⟩,t,mark⟩,zb ks⟩ k n=⟨true,⟨p,1,⟨#[]⟩,t,max mark n.mark⟩,zb (ks++[k])⟩:=by
     simp only [zc8,zh5,if_true,hk,decide_true];rw [parts_in (by omega)]
    rw [htk,if_pos hk];by_cases hmk:0<n.mark
    ·have hst:zf9 n=true:=by simp [zf9,hmk]
     rw [if_pos hmk,hst,if_pos rfl];exact zy4 (by simp)
    ·have hst:zf9 n=false:=by simp [zf9,hmk,hk]
     rw [if_neg hmk,hst,if_neg (by decide)]
     exact ih (k+1) t _ (ks++[k]) hr' (by omega) (by simp) (fun j hj=>by
      rcases List.mem_append.1 hj with h|h
      ·exact Nat.lt_succ_of_lt (hlt j h)
      ·simp at h;omega) hm2
   ·have htk:zc8 ⟨true,⟨p,1,⟨#[]⟩,t,mark⟩,zb ks⟩ k n=⟨true,⟨p,1,⟨#[]⟩,t,max mark n.mark⟩,zb ks⟩:=by
     simp only [zc8,zh5,if_true,hk,decide_false];rw [parts_out (by omega) hnk]
    have hst:zf9 n=true:=by simp [zf9,hk]
    rw [htk,if_neg hk,hst,if_pos rfl];exact zy4 hks
theorem pick_same (p:ByteArray):∀ (ns:List (Option Nd)) (k:Nat),zq5 p ns→k+ns.length≤4→SameO (zc9 p ⟨false,za3,[]⟩ 0 (numb k ns)) (upS (goD k ⟨false,za3,zb []⟩ ns)):=by
 intro ns
 induction ns with
 |nil=>
  intro k _ _
  have hu:upS (goD k ⟨false,za3,zb []⟩ [])=Sg.zero:=by
   show upS ⟨false,za3,zb []⟩=Sg.zero;unfold upS;rw [if_pos ⟨rfl,by show max ((0:Int) - 1) 0=0;decide⟩]
  rw [hu];exact ⟨rfl,fun h=>(by cases h),rfl,fun h=>absurd rfl h,fun _ h=>(by cases h)⟩
 |cons x ns ih=>
  intro k hr hl;have hr':zq5 p ns:=fun n hn=>hr n (List.mem_cons_of_mem _ hn);simp only [List.length_cons] at hl;cases x with
  |none=>exact ih (k+1) hr' (by omega)
  |some n=>
   obtain ⟨hb,hp⟩:=hr n List.mem_cons_self;obtain ⟨-, -,hmk8,hkd⟩:=zr1 hb;obtain ⟨np,nk,nd,nt,nm⟩:=n;simp only at hp hmk8;subst hp;have hnm:max nm nm=nm:=by omega
   have hnk:k∉([]:List Nat):=by simp
   simp only [numb,zc9,goD,if_true];by_cases hk:nk=1
   ·subst hk
    have hd:nd=⟨#[]⟩:=by
     simp [zh8] at hkd
     first |exact hkd|exact yg3 hkd
    subst hd
    have htk:zc8 ⟨false,za3,zb []⟩ k ⟨np,1,⟨#[]⟩,nt,nm⟩=⟨true,⟨np,1,⟨#[]⟩,nt,nm⟩,zb ([]++[k])⟩:=by
     simp only [zc8,zh5,Bool.false_eq_true,if_false,decide_true,hnm];rw [parts_in (by omega)]
    have hm0:max 0 nm=nm:=by omega
    rw [htk,hm0,List.nil_append,if_pos (rfl:(1:Int)=1)];by_cases hmk:0<nm
    ·have hst:zf9 ⟨np,1,⟨#[]⟩,nt,nm⟩=true:=by simp [zf9,hmk]
     rw [if_pos hmk,hst,if_pos rfl];exact zy4 (by simp)
    ·have hst:zf9 ⟨np,1,⟨#[]⟩,nt,nm⟩=false:=by simp [zf9,hmk]
     rw [if_neg hmk,hst,if_neg (by decide)];exact pick_dirs np ns (k+1) nt nm [k] hr' (by omega) (by simp) (fun j hj=>by simp at hj;omega) hmk8.1
   ·have htk:zc8 ⟨false,za3,zb []⟩ k ⟨np,nk,nd,nt,nm⟩=⟨true,⟨np,nk,nd,nt,nm⟩,zb []⟩:=by
     simp only [zc8,zh5,Bool.false_eq_true,if_false,hk,decide_false,hnm];rw [parts_out (by omega) hnk]
    have hst:zf9 ⟨np,nk,nd,nt,nm⟩=true:=by simp [zf9,hk]
    rw [htk,if_neg hk,hst,if_pos rfl];by_cases hz:nk=0
    ·subst hz;simp [zh8] at hkd
     obtain ⟨⟨hd,ht⟩,hm⟩:=hkd;have hd2:nd=⟨#[]⟩:=by first |exact hd|exact yg3 hd
     subst hd2 ht;rw [if_pos rfl];by_cases h1:nm=1
     ·subst h1
      have hu:upS ⟨true,⟨np,0,⟨#[]⟩,0,1⟩,zb []⟩=Sg.zero:=by
       unfold upS;rw [if_pos ⟨rfl,by show max ((1:Int) - 1) 0=0;decide⟩]
      rw [hu];exact ⟨rfl,fun h=>(by cases h),rfl,fun h=>absurd rfl h,fun _ h=>(by cases h)⟩
     ·have hu:upS ⟨true,⟨np,0,⟨#[]⟩,0,nm⟩,zb []⟩=⟨true,⟨np,0,⟨#[]⟩,0,nm - 1⟩,zb []⟩:=by
       unfold upS;rw [if_neg (by simp only;omega),show max (nm - 1) 0=nm - 1 by omega]
      rw [hu];exact ⟨by simp;omega,fun _=>rfl,rfl,fun h=>absurd rfl h,fun _ _=>(by show (0:Int)≠1;decide)⟩
    ·have h2:nm=0:=by
      simp [zh8,hz,hk] at hkd
      exact hkd.2
     subst h2
     have hu:upS ⟨true,⟨np,nk,nd,nt,0⟩,zb []⟩=⟨true,⟨np,nk,nd,nt,0⟩,zb []⟩:=by
      unfold upS;rw [if_neg (fun h=>hz h.1)];rfl
     rw [hu,if_neg hz];exact ⟨rfl,fun _=>rfl,rfl,fun h=>absurd rfl h,fun _ _=>hk⟩
theorem pick_dec {p:ByteArray} {ns:List (Option Nd)} (hr:zq5 p ns) (hl:ns.length≤4):SameO (zc9 p ⟨false,za3,[]⟩ 0 (numb 0 ns)) (decS ns):=pick_same p ns 0 hr (by omega)
end Pl
end
section
open Go.RowKit
namespace Pl
theorem go_len:∀ (ns:List (Option Nd)) (k:Nat) (s:Sg),s.have'.length=4→(goD k s ns).have'.length=4:=by
 intro ns
 induction ns with
 |nil=>intro k s h;exact h
 |cons x ns ih=>
  intro k s h;cases x with
  |none=>exact ih _ _ h
  |some n=>
   rw [goD]
   split
   ·rw [take_len];exact h
   ·exact ih _ _ (by rw [take_len];exact h)
theorem dec_len (ns:List (Option Nd)):(decS ns).have'.length=4:=up_len (go_len ns 0 Sg.zero rfl)
theorem pick_skip (p:ByteArray):∀ (l:List (Nat × Option Nd)) (o:Ot) (m:Int),zc9 p o m l=zc9 p o m (l.filter (fun x=>x.2.isSome)):=by
 intro l
 induction l with
 |nil=>intro o m;rfl
 |cons x l ih=>
  intro o m;obtain ⟨k,y⟩:=x;cases y with
  |none=>simp only [zc9,List.filter];exact ih o m
  |some n=>
   simp only [List.filter,Option.isSome,zc9];rw [ih,ih];rfl
theorem sub_filter {l m:List Nat} (h:l.Sublist m):m.Nodup→m.filter (fun k=>decide (k∈l))=l:=by
 induction h with
 |slnil=>intro _;rfl
 | @cons l m a h ih=>
  intro hn;have hn':=List.nodup_cons.1 hn;have ha:a∉l:=fun h2=>hn'.1 (h.subset h2);rw [List.filter_cons_of_neg (by simpa using ha)];exact ih hn'.2
 | @cons_cons l m a h ih=>
  intro hn;have hn':=List.nodup_cons.1 hn;rw [List.filter_cons_of_pos (by simp)]
  congr 1
  rw [←ih hn'.2]
  apply List.filter_congr
  intro k hk;have :k≠a:=fun e=>hn'.1 (e ▸ hk);rw [ih hn'.2];simp [this]
theorem numb_map:∀ (ns:List (Option Nd)) (j:Nat),numb j ns=(List.range ns.length).map (fun i=>(j+i,ns.getD i none)):=by
 intro ns
 induction ns with
 |nil=>intro j;rfl
 |cons x ns ih=>
  intro j;rw [numb,ih,List.length_cons,List.range_succ_eq_map,List.map_cons,List.map_map]
  congr 1
  apply List.map_congr_left
  intro i _;simp
  omega
theorem filter_ask (ks:List Nat) (R:List Nat) (f:Nat→Option Nd):(R.map (fun i=>(i,if decide (i∈ks) then f i else none))).filter (fun x=>x.2.isSome)=((R.filter (fun k=>decide (k∈ks))).map (fun i=>(i,f i))).filter (fun x=>x.2.isSome):=by
 induction R with
 |nil=>rfl
 |cons a R ih=>
  by_cases h:a∈ks
  ·simp only [List.map_cons,List.filter_cons,h,decide_true,if_true]
   split <;> rw [ih]
  ·simp only [List.map_cons,List.filter_cons,h,decide_false,Bool.false_eq_true,if_false,Option.isSome];exact ih
theorem pick_sub (p:ByteArray):∀ (l:List (Nat × Option Nd)) (o:Ot) (m:Int),∃ks,ks.Sublist (l.map Prod.fst)∧((zc9 p o m l).parts=o.parts++ks∨(zc9 p o m l).parts=[]):=by
 intro l
 induction l with
 |nil=>intro o m;exact ⟨[],List.nil_sublist _, .inl (by simp [zc9,finO])⟩
 |cons x l ih=>
  intro o m;obtain ⟨k,y⟩:=x;cases y with
  |none=>
   obtain ⟨ks,h1,h2⟩:=ih o m;exact ⟨ks,h1.cons _,h2⟩
  |some n=>
   simp only [zc9];by_cases hp:o.parts=[]
   ·rw [if_pos hp];by_cases hk:n.kind=1
    ·rw [if_pos hk];by_cases hm:0<n.mark
     ·rw [if_pos hm];exact ⟨[k],by simp, .inl (by simp [finO,hp])⟩
     ·rw [if_neg hm];obtain ⟨ks,h1,h2⟩:=ih ⟨true,⟨p,1,⟨#[]⟩,n.time,0⟩,[k]⟩ (max m n.mark);refine ⟨k::ks,h1.cons_cons _,?_⟩
      rcases h2 with h2|h2
      ·exact .inl (by rw [h2,hp];rfl)
      ·exact .inr h2
    ·rw [if_neg hk]
     split
     ·exact ⟨[],List.nil_sublist _, .inr rfl⟩
     ·exact ⟨[],List.nil_sublist _, .inr rfl⟩
   ·rw [if_neg hp];by_cases hk:n.kind=1
    ·rw [if_pos hk];by_cases hm:0<n.mark
     ·rw [if_pos hm];exact ⟨[k],by simp, .inl (by simp [finO])⟩
     ·rw [if_neg hm];obtain ⟨ks,h1,h2⟩:=ih ⟨o.ok,o.node,o.parts++[k]⟩ (max m n.mark);refine ⟨k::ks,h1.cons_cons _,?_⟩
      rcases h2 with h2|h2
      ·exact .inl (by rw [h2];simp)
      ·exact .inr h2
    ·rw [if_neg hk];exact ⟨[],List.nil_sublist _, .inl (by simp [finO])⟩
theorem go_path (p:ByteArray):∀ (ns:List (Option Nd)) (k:Nat) (s:Sg),(∀n,some n∈ns→n.path=p)→(s.told=true→s.node.path=p)→(goD k s ns).told=true→(goD k s ns).node.path=p:=by
 intro ns
 induction ns with
 |nil=>intro k s _ hs h;exact hs h
 |cons x ns ih=>
  intro k s hn hs h;have hn':∀n,some n∈ns→n.path=p:=fun n hm=>hn n (List.mem_cons_of_mem _ hm);cases x with
  |none=>exact ih _ _ hn' hs h
  |some n=>
   have h1:=hn n List.mem_cons_self
   have ht:(zc8 s k n).node.path=p:=by
    unfold zc8 zh5;cases hst:s.told
    ·exact h1
    ·exact hs hst
   rw [goD] at h ⊢
   split at h
   ·rw [if_pos (by assumption)];exact ht
   ·rw [if_neg (by assumption)];exact ih _ _ hn' (fun _=>ht) h
theorem dec_path {p:ByteArray} {ns:List (Option Nd)} (hn:∀n,some n∈ns→n.path=p) (h:(decS ns).told=true):(decS ns).node.path=p:=by
 unfold decS upS at h ⊢
 split at h
 ·cases h
 ·rw [if_neg (by assumption)];exact go_path p ns 0 Sg.zero hn (fun h2=>by cases h2) h
theorem mark_node {n:Nd} {m:Int} (h:zb1 n=true) (hk:n.kind=1) (hm:0≤m∧m≤8):zb1 ⟨n.path,n.kind,n.data,n.time,m⟩=true:=by
 unfold zb1 at h ⊢;simp only [Bool.and_eq_true,decide_eq_true_eq] at h ⊢;refine ⟨⟨h.1.1,hm⟩,?_⟩;have h2:=h.2;unfold zh8 at h2 ⊢;simp only [hk] at h2 ⊢
 simpa using h2
theorem go_node:∀ (ns:List (Option Nd)) (k:Nat) (s:Sg),(∀n,some n∈ns→zb1 n=true)→(s.told=true→zb1 s.node=true∧s.node.kind=1)→(goD k s ns).told=true→zb1 (goD k s ns).node=true:=by
 intro ns
 induction ns with
 |nil=>intro k s _ hs h;exact (hs h).1
 |cons x ns ih=>
  intro k s hn hs h;have hn':∀n,some n∈ns→zb1 n=true:=fun n hm=>hn n (List.mem_cons_of_mem _ hm);cases x with
  |none=>exact ih _ _ hn' hs h
  |some n=>
   have h1:=hn n List.mem_cons_self;have hb:=zr1 h1
   have ht:zb1 (zc8 s k n).node=true∧(n.kind=1→(zc8 s k n).node.kind=1):=by
    unfold zc8 zh5;cases hst:s.told
    ·simp only [Bool.false_eq_true,if_false];rw [Int.max_self];exact ⟨h1,fun h=>h⟩
    ·obtain ⟨h2,h3⟩:=hs hst;have hb2:=zr1 h2;simp only [if_true];exact ⟨mark_node h2 h3 (by omega),fun _=>h3⟩
   rw [goD] at h ⊢
   split at h
   ·rw [if_pos (by assumption)];exact ht.1
   ·rename_i hst
    rw [if_neg hst];refine ih _ _ hn' (fun _=>⟨ht.1,ht.2 ?_⟩) h;simp [zf9] at hst
    exact hst.1
theorem up_node {s:Sg} (h:s.told=true→zb1 s.node=true) (ht:(upS s).told=true):zb1 (upS s).node=true:=by
 unfold upS at ht ⊢
 split at ht
 ·cases ht
 ·rename_i hz
  rw [if_neg hz];have h1:=h ht;have hb:=zr1 h1;unfold zb1 at h1 ⊢;simp only [Bool.and_eq_true,decide_eq_true_eq] at h1 ⊢;refine ⟨⟨h1.1.1,by omega⟩,?_⟩;have h2:=h1.2;unfold zh8 at h2 ⊢;simp only at hz h2 ⊢;by_cases k0:s.node.kind=0
  ·simp only [k0,if_true,Bool.and_eq_true,decide_eq_true_eq,true_and] at hz h2 ⊢;exact ⟨h2.1,by omega⟩
  ·by_cases k1:s.node.kind=1
   ·simp only [if_neg k0,if_pos k1] at h2 ⊢;exact h2
   ·simp only [if_neg k0,if_neg k1] at h2 ⊢
    split at h2
    ·rename_i k2
     rw [if_pos k2];simp only [decide_eq_true_eq] at h2 ⊢;omega
    ·cases h2
theorem dec_node {ns:List (Option Nd)} (hn:∀n,some n∈ns→zb1 n=true) (ht:(decS ns).told=true):zb1 (decS ns).node=true:=
 up_node (fun h=>go_node ns 0 Sg.zero hn (fun h2=>by cases h2) h) ht
theorem up_zero:upS Sg.zero=Sg.zero:=by
 unfold upS
 split <;> rfl
end Pl
end
section
open Go.RowKit
namespace Pl
def zj3:Ot:=⟨false,za3,[]⟩
end Pl
end
section
namespace Pl
theorem find_path {L:List Nd} {p:ByteArray} {m:Nd} (h:L.find? (fun m=>decide (m.path=p))=some m):m.path=p:=by
 have :=List.find?_some h
 simpa using this
theorem goS_iff (L:List Nd):∀ (r:List Nd) (prev:Option ByteArray),goS L prev r=true↔(∀n∈r,zb1 n=true∧dirS L (parent n.path)=true)∧r.Pairwise (fun a b=>za5 (names a.path) (names b.path)=true)∧∀n∈r,prevB prev n.path=true:=by
 intro r
 induction r with
 |nil=>intro prev;simp [goS]
 |cons m r ih=>
  intro prev;simp only [goS,Bool.and_eq_true];rw [ih]
  constructor
  ·rintro ⟨⟨⟨h1,h2⟩,h3⟩,h4,h5,h6⟩;refine ⟨fun n hn=>?_,List.Pairwise.cons (fun n hn=>h6 n hn) h5,fun n hn=>?_⟩
   ·rcases List.mem_cons.1 hn with rfl |hn
    ·exact ⟨h1,h3⟩
    ·exact h4 n hn
   ·rcases List.mem_cons.1 hn with rfl |hn
    ·exact h2
    ·cases prev with
     |none=>rfl
     |some q=>exact zk7 _ _ _ h2 (h6 n hn)
  ·rintro ⟨h1,h2,h3⟩;obtain ⟨h4,h5⟩:=List.pairwise_cons.1 h2;exact ⟨⟨⟨(h1 m (List.mem_cons_self ..)).1,h3 m (List.mem_cons_self ..)⟩,(h1 m (List.mem_cons_self ..)).2⟩,fun n hn=>h1 n (List.mem_cons_of_mem _ hn),h5,fun n hn=>h4 n hn⟩
theorem zu1 (L:List Nd):zc7 L=true↔L.length≤40∧(∀n∈L,zb1 n=true∧dirS L (parent n.path)=true)∧L.Pairwise (fun a b=>za5 (names a.path) (names b.path)=true):=by
 rw [zc7,←tree_same,Bool.and_eq_true,decide_eq_true_eq,goS_iff]
 constructor
 ·rintro ⟨h1,h2,h3, -⟩;exact ⟨h1,h2,h3⟩
 ·rintro ⟨h1,h2,h3⟩;exact ⟨h1,h2,h3,fun n hn=>rfl⟩
theorem dirS_iff {L:List Nd} (h:L.Pairwise (fun a b=>za5 (names a.path) (names b.path)=true)) (p:ByteArray):dirS L p=true↔p.size=0∨∃m∈L,m.path=p∧m.kind=1:=by
 simp only [dirS,Bool.or_eq_true,decide_eq_true_eq];refine or_congr Iff.rfl ?_;cases hf:L.find? (fun m=>decide (m.path=p)) with
 |none=>
  rw [List.find?_eq_none] at hf
  constructor
  ·intro h;cases h
  ·rintro ⟨m,hm,e,_⟩;exact absurd (decide_eq_true e) (hf m hm)
 |some m'=>
  have h1:=List.mem_of_find?_eq_some hf;have h2:=find_path hf;simp only [decide_eq_true_eq]
  constructor
  ·intro h3;exact ⟨m',h1,h2,h3⟩
  ·rintro ⟨m,hm,e,hk⟩;rw [one_path h h1 hm (h2.trans e.symm)];exact hk
end Pl
end
section
open Go.RowKit
namespace Pl
theorem tree_apart {L:List Nd} (h:zc7 L=true):L.Pairwise (fun a b=>a.path≠b.path):=by
 have h2:goI [] ⟨#[]⟩ L=true:=by unfold zc7 at h;simp at h;exact h.2
 exact (goI_rise L [] ⟨#[]⟩ h2 (zh9 rfl).1).1.imp (fun {a b} hab e=>by rw [e,zo6] at hab;cases hab)
end Pl
end
section
namespace Pl
theorem take_flat (X:Fx):∀R,X.okX→take X.len (rowO (X.flat++R))=some (X.shape,rowO R):=by
 induction X with
 |nil=>intro R _;exact take_zero _
 |cons L k m ih1 ih2=>
  intro R hx;obtain ⟨h1,h2,h3,h4,h5⟩:=hx
  have hb:zf0 (k.len:Int) L=true:=by
   unfold zf0;simp only [Bool.and_eq_true,Bool.or_eq_true,decide_eq_true_eq,List.isEmpty_iff];exact ⟨⟨⟨by omega,by omega⟩,h2.imp (fun e=>by rw [e];rfl) id⟩,h1⟩
  have e:rowO ((Fx.cons L k m).flat++R)=some k.len::rowO (k.flat++(m.flat++R)):=by
   rw [Fx.flat,List.cons_append,List.append_assoc];show zl ((k.len:Int),L)::_=_;rw [yb5 hb,Int.toNat_natCast];rfl
  rw [e,Fx.len,yb6,ih1 _ h4];simp only;rw [ih2 _ h5];rfl
def starts:Fx→Nat→List Nat
 | .nil,_=>[]
 | .cons _ k m,p=>p::starts m (p+1+k.sz)
theorem starts_len (X:Fx):∀p,(starts X p).length=X.len:=by
 induction X with
 |nil=>intro p;rfl
 |cons L k m _ ih=>intro p;rw [starts,List.length_cons,ih,Fx.len]
theorem end_flat {xs:List (Int × List Nd)} {L:List Nd} {k m:Fx} {R:List (Int × List Nd)} {j:Nat} (h:xs.drop j=(Fx.cons L k m).flat++R) (hx:(Fx.cons L k m).okX) (hd:k.shape.depth≤3) (hj:j≤xs.length):endI xs.length (ends 1 1 ((rowO xs).drop j))=((j+1+k.sz:Nat):Int):=by
 have hx1:(Fx.cons L k .nil).okX:=⟨hx.1,hx.2.1,hx.2.2.1,hx.2.2.2.1,trivial⟩
 have e1:(rowO xs).drop j=rowO ((Fx.cons L k .nil).flat++(m.flat++R)):=by
  unfold rowO;rw [←List.map_drop,h];simp [Fx.flat]
 have e2:=take_flat (Fx.cons L k .nil) (m.flat++R) hx1;have e3:(Fx.cons L k .nil).len=1:=rfl;rw [e3] at e2;have hl:=congrArg List.length h;rw [List.length_drop,List.length_append,Fx.flat_len,Fx.sz] at hl;unfold ends;rw [e1,e2];have hdp:(Fx.cons L k .nil).shape.depth=k.shape.depth+1:=Fo.zw0 _;simp only;rw [if_pos (by omega),endI,zm4,List.length_append,Fx.flat_len];omega
theorem depth_cons {L:List Nd} {k m:Fx}:(Fx.cons L k m).shape.depth=max (k.shape.depth+1) m.shape.depth:=rfl
end Pl
end
end Go.Proofs.YtgdjjncmocppeaaGreatDoor
