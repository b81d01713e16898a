/- Several texts of one claim in one file: PlainItem, PlainFx, PlainLaw, PlainNames, PlainTreeI, PlainNestX. -/
import Derived.Test.YtggadpalljhiaaaGreatDoorG02
import Derived.Test.YtggadpalljhiaaaGreatDoorG01
import Derived.Below
import Derived.Deep.RegionHeld3
import Derived.Test.YtggadpalljhiaaaGreatDoorProg
import Derived.WalkSpells
import Derived.Lib.OthersKept
import Derived.Laws.RangeAny
import Derived.Deep.Draws
import Derived.Deep.QuietTactic
import Derived.BigQuiet
namespace Go.Proofs.YtggadpalljhiaaaGreatDoor
section
namespace Pl
def ze7 (m:Int) (L:List Nd):Bool:=decide (0≤m)&&decide (m≤4)&&(decide (m=0)||L.isEmpty)&&ze2 L
def zj9 (x:Int × List Nd):Option Nat:=if ze7 x.1 x.2=true then some x.1.toNat else none
def rowO (xs:List (Int × List Nd)):Row:=xs.map zj9
theorem treeB_nil:ze2 []=true:=by rfl
theorem ya2 (L:List Nd):ze7 0 L=ze2 L:=by simp [ze7]
theorem zv4 {m:Int} (h:m≠0) (L:List Nd):ze7 m L=(decide (1≤m)&&decide (m≤4)&&decide (L.length=0)):=by
 unfold ze7;rw [show decide (m=0)=false from decide_eq_false h,Bool.false_or];have e:decide (0≤m)=decide (1≤m):=decide_eq_decide.2 (by omega);rw [e];cases L with
 |nil=>simp [treeB_nil]
 |cons a L=>simp
theorem zs7 {m:Int} {L:List Nd} (h:ze7 m L=true):0≤m∧m≤4:=by
 simp [ze7] at h
 exact ⟨h.1.1.1,h.1.1.2⟩
theorem itemO_yes {m:Int} {L:List Nd} (h:ze7 m L=true):zj9 (m,L)=some m.toNat:=by simp [zj9,h]
theorem itemO_no {m:Int} {L:List Nd} (h:ze7 m L=false):zj9 (m,L)=none:=by simp [zj9,h]
theorem itemO_some {x:Int × List Nd} {k:Nat} (h:zj9 x=some k):x.1=(k:Int)∧k≤4:=by
 unfold zj9 at h
 split at h
 ·rename_i hb
  have :=zs7 hb;cases h
  omega
 ·cases h
theorem zn9 (xs:List (Int × List Nd)):(rowO xs).length=xs.length:=by simp [rowO]
theorem rowO_at {xs:List (Int × List Nd)} {i:Nat} {x:Int × List Nd} (h:xs[i]? =some x):(rowO xs).drop i=zj9 x::(rowO xs).drop (i+1):=by
 obtain ⟨h1,h2⟩:=List.getElem?_eq_some_iff.1 h;rw [List.drop_eq_getElem_cons (by rw [zn9];exact h1)]
 congr 1
 simp [rowO,h2]
def endI (n:Nat):Option Row→Int
 |none=> -1
 |some R=>(n:Int) - (R.length:Int)
theorem ends_at {k deep p n:Nat} {L R:Row} (hn:L.length=n) (hp:p≤n) (h:ends k deep (L.drop p)=some R):∃p':Nat,endI n (some R)=(p':Int)∧p'≤n∧L.drop p'=R:=by
 obtain ⟨h1,h2⟩:=ends_len h;rw [List.length_drop] at h1 h2;refine ⟨n - R.length,by rw [endI];omega,by omega,?_⟩;rw [List.drop_drop] at h2;have e:p+(L.length - p - R.length)=n - R.length:=by omega
 rw [e] at h2;exact h2.symm
def Fo.sz:Fo→Nat
 | .nil=>0
 | .cons k m=>k.sz+m.sz+1
theorem Fo.len_le (F:Fo):F.len≤F.sz:=by
 induction F with
 |nil=>simp [Fo.len]
 |cons k m _ ih=>simp only [Fo.len,Fo.sz];omega
theorem Fo.depth_le (F:Fo):F.depth≤F.sz:=by
 induction F with
 |nil=>simp [Fo.depth]
 |cons k m ih1 ih2=>simp only [Fo.depth,Fo.sz];omega
theorem parse_sz (f:Nat):∀k L F R,parse f k L=some (F,R)→F.sz+R.length=L.length:=by
 induction f with
 |zero=>
  intro k L F R h;cases k with
  |zero=>simp [parse] at h;obtain ⟨rfl,rfl⟩:=h;simp [Fo.sz]
  |succ k=>simp [parse] at h
 |succ f ih=>
  intro k L F R h;cases k with
  |zero=>simp [parse] at h;obtain ⟨rfl,rfl⟩:=h;simp [Fo.sz]
  |succ k=>
   match L,h with
   | [],h=>simp [parse] at h
   |none::L,h=>simp [parse] at h
   |some m::L,h=>
    simp only [parse] at h
    split at h
    ·cases h
    ·rename_i kids R1 h1
     split at h
     ·cases h
     ·rename_i more R2 h2
      cases h
      have a1:=ih _ _ _ _ h1;have a2:=ih _ _ _ _ h2;simp only [Fo.sz,List.length_cons];omega
theorem take_sz {k:Nat} {L R:Row} {F:Fo} (h:take k L=some (F,R)):F.sz+R.length=L.length:=parse_sz _ _ _ _ _ h
theorem nest_fail {L:Row} (h:take 1 L=none):nest L=none:=by
 unfold nest;rw [h];simp
theorem nest_rest {L R:Row} {k:Fo} (h:take 1 L=some (.cons k .nil,R)) (hR:R.length≠0):nest L=none:=by
 unfold nest;rw [h];cases R with
 |nil=>simp at hR
 |cons a b=>simp
theorem nest_deep {L R:Row} {k:Fo} (h:take 1 L=some (.cons k .nil,R)) (hd:4<k.depth+1):nest L=none:=by
 unfold nest;rw [h];cases R with
 |nil=>simp only;rw [if_neg (show ¬k.depth≤3 by omega)];simp
 |cons a b=>simp
theorem nest_ok {L R:Row} {k:Fo} (h12:L.length≤12) (h:take 1 L=some (.cons k .nil,R)) (hR:R.length=0) (hd:¬4<k.depth+1):nest L=some k:=by
 have e:R=[]:=List.eq_nil_of_length_eq_zero hR;subst e;unfold nest;rw [if_pos h12,h];simp only;rw [if_pos (show k.depth≤3 by omega)]
def went (F:Fo) (o:Option (Fo × Row)):Option (Fo × Row):=o.map (fun y=>(F.app y.1,y.2))
theorem went_start (o:Option (Fo × Row)):went .nil o=o:=by cases o <;> rfl
theorem went_step {F kids:Fo} {k:Nat} {L R:Row} (h:take 1 L=some (.cons kids .nil,R)):went F (take (k+1) L)=went (F.app (.cons kids .nil)) (take k R):=by
 rw [zy3,h];cases h2:take k R with
 |none=>simp [went,h2]
 |some y=>obtain ⟨m,R'⟩:=y;simp [went,h2,Fo.app_assoc]
theorem went_fail {F:Fo} {k:Nat} {L:Row} (h:take 1 L=none):went F (take (k+1) L)=none:=by
 rw [zy3,h];rfl
theorem went_end (F:Fo) (L:Row):went F (take 0 L)=some (F,L):=by simp [went,take_zero,Fo.app_nil]
theorem rowO_drop (xs:List (Int × List Nd)) (k:Nat):(rowO xs).drop k=rowO (xs.drop k):=by simp [rowO,List.map_drop]
end Pl
end
section
namespace Pl
inductive Fx where
 |nil:Fx
 |cons (L:List Nd) (kids more:Fx):Fx
namespace Fx
def shape:Fx→Fo
 | .nil=> .nil
 | .cons _ k m=> .cons k.shape m.shape
def len:Fx→Nat
 | .nil=>0
 | .cons _ _ m=>m.len+1
def sz:Fx→Nat
 | .nil=>0
 | .cons _ k m=>k.sz+m.sz+1
def flat:Fx→List (Int × List Nd)
 | .nil=>[]
 | .cons L k m=>((k.len:Int),L)::(k.flat++m.flat)
def app:Fx→Fx→Fx
 | .nil,r=>r
 | .cons L k m,r=> .cons L k (m.app r)
def okX:Fx→Prop
 | .nil=>True
 | .cons L k m=>ze2 L=true∧(k= .nil∨L=[])∧k.len≤4∧k.okX∧m.okX
theorem zx2 (X:Fx):X.shape.len=X.len:=by
 induction X with
 |nil=>rfl
 |cons L k m _ ih=>rw [shape,Fo.len,len,ih]
theorem flat_len (X:Fx):X.flat.length=X.sz:=by
 induction X with
 |nil=>rfl
 |cons L k m ih1 ih2=>rw [flat,List.length_cons,List.length_append,ih1,ih2,sz]
theorem shape_app (a b:Fx):(a.app b).shape=a.shape.app b.shape:=by
 induction a with
 |nil=>rfl
 |cons L k m _ ih=>rw [app,shape,shape,ih];rfl
theorem len_app (a b:Fx):(a.app b).len=a.len+b.len:=by
 induction a with
 |nil=>simp [app,len]
 |cons L k m _ ih=>rw [app,len,len,ih];omega
theorem flat_app (a b:Fx):(a.app b).flat=a.flat++b.flat:=by
 induction a with
 |nil=>rfl
 |cons L k m _ ih=>rw [app,flat,flat,ih];simp
theorem ok_app {a b:Fx} (ha:a.okX) (hb:b.okX):(a.app b).okX:=by
 induction a with
 |nil=>exact hb
 |cons L k m _ ih=>exact ⟨ha.1,ha.2.1,ha.2.2.1,ha.2.2.2.1,ih ha.2.2.2.2⟩
theorem shape_nil {X:Fx} (h:X.shape= .nil):X= .nil:=by
 cases X with
 |nil=>rfl
 |cons L k m=>cases h
theorem len_zero {X:Fx} (h:X.len=0):X= .nil:=by
 cases X with
 |nil=>rfl
 |cons L k m=>simp [len] at h
theorem len_le (X:Fx):X.len≤X.sz:=by
 induction X with
 |nil=>exact Nat.le_refl _
 |cons L k m _ ih=>rw [len,sz];omega
theorem ok_mem {X:Fx} (h:X.okX):∀x∈X.flat,ze2 x.2=true∧0≤x.1∧x.1≤4:=by
 induction X with
 |nil=>intro x hx;cases hx
 |cons L k m ih1 ih2=>
  intro x hx;rw [flat,List.mem_cons,List.mem_append] at hx
  rcases hx with rfl |hx|hx
  ·exact ⟨h.1,by omega,by have :=h.2.2.1;omega⟩
  ·exact ih1 h.2.2.2.1 x hx
  ·exact ih2 h.2.2.2.2 x hx
end Fx
end Pl
end
section
namespace Pl
theorem yc3:∀a b:List UInt8,a≠b→Op.bytesLess a b= !Op.bytesLess b a:=by
 intro a
 induction a with
 |nil=>intro b h;cases b with
  |nil=>exact absurd rfl h
  |cons c b=>rfl
 |cons x a ih=>
  intro b h;cases b with
  |nil=>rfl
  |cons y b=>
   simp only [Op.bytesLess];by_cases hxy:x=y
   ·subst hxy;have hab:a≠b:=fun e=>h (by rw [e]);rw [ih b hab];simp
   ·have h1:(x==y)=false:=by simpa using hxy
    have h2:(y==x)=false:=by simpa using fun e:y=x=>hxy e.symm
    rw [h1,h2];simp only [Bool.false_and,Bool.or_false];by_cases hlt:x<y
    ·have :¬y<x:=by rw [UInt8.lt_iff_toNat_lt] at hlt ⊢;omega
     simp [hlt,this]
    ·have :y<x:=by
      rw [UInt8.lt_iff_toNat_lt] at hlt ⊢;have :x.toNat≠y.toNat:=fun e=>hxy (UInt8.toNat_inj.1 e);omega
     simp [hlt,this]
theorem less_anti:∀A B:List ByteArray,A≠B→za3 A B= !za3 B A:=by
 intro A
 induction A with
 |nil=>intro B h;cases B with
  |nil=>exact absurd rfl h
  |cons b B=>rfl
 |cons a A ih=>
  intro B h;cases B with
  |nil=>rfl
  |cons b B=>
   rw [za3,za3];by_cases hab:a=b
   ·subst hab;rw [if_pos rfl,if_pos rfl];exact ih B (fun e=>h (by rw [e]))
   ·rw [if_neg hab,if_neg (fun e=>hab e.symm)];refine yc3 _ _ ?_;rw [ByteArray.toList_eq,ByteArray.toList_eq];exact fun e=>hab (zh4 e)
theorem zy8 {p:ByteArray} (h:za2 p=true):glue (zb7 p)=p:=by rw [zh5 h,yb4]
theorem path_inj {a b:ByteArray} (ha:za2 a=true) (hb:za2 b=true) (h:zb7 a=zb7 b):a=b:=by
 rw [←zy8 ha,←zy8 hb,h]
theorem two_less {a b:ByteArray} (ha:za2 a=true) (hb:za2 b=true) (h:a≠b):(za2 a&&za2 b&&za3 (zb7 a) (zb7 b))= !(za2 b&&za2 a&&za3 (zb7 b) (zb7 a)):=by
 rw [ha,hb,Bool.true_and,Bool.true_and,Bool.true_and];exact less_anti _ _ (fun e=>h (path_inj ha hb e))
end Pl
end
section
namespace Pl
theorem zz1 {L:List Nd} (h:ze2 L=true):L.Pairwise (fun a b=>a.path≠b.path):=by
 have h2:goI [] ⟨#[]⟩ L=true:=by unfold ze2 at h;simp at h;exact h.2
 exact (goI_rise L [] ⟨#[]⟩ h2 (zg4 rfl).1).1.imp (fun {a b} hab e=>by rw [e,zj1] at hab;cases hab)
theorem tree_rise' {L:List Nd} (h:ze2 L=true):L.Pairwise (fun a b=>ltP a.path b.path=true):=by
 simp only [ze2,Bool.and_eq_true,decide_eq_true_eq] at h;have hn:=goI_all L _ _ h.2;have hr:=(goI_rise L [] ⟨#[]⟩ h.2 (zg4 rfl).1).1;exact List.Pairwise.imp_of_mem (fun {a b} ha hb hab=>by rw [ze (zg3 (hn a ha)).1 (zg3 (hn b hb)).1];exact hab) hr
end Pl
namespace WNamesT
end WNamesT
end
section
namespace Pl
theorem goS_iff (L:List Nd):∀ (r:List Nd) (prev:Option ByteArray),goS L prev r=true↔(∀n∈r,zc5 n=true∧dirS L (parent n.path)=true)∧r.Pairwise (fun a b=>za3 (names a.path) (names b.path)=true)∧∀n∈r,prevB prev n.path=true:=by
 intro r
 induction r with
 |nil=>intro prev;simp [goS]
 |cons m r ih=>
  intro prev;simp only [goS,Bool.and_eq_true];rw [ih]
  constructor
  ·rintro ⟨⟨⟨h1,h2⟩,h3⟩,h4,h5,h6⟩;refine ⟨fun n hn=>?_,List.Pairwise.cons (fun n hn=>h6 n hn) h5,fun n hn=>?_⟩
   ·rcases List.mem_cons.1 hn with rfl |hn
    ·exact ⟨h1,h3⟩
    ·exact h4 n hn
   ·rcases List.mem_cons.1 hn with rfl |hn
    ·exact h2
    ·cases prev with
     |none=>rfl
     |some q=>exact zg2 _ _ _ h2 (h6 n hn)
  ·rintro ⟨h1,h2,h3⟩;obtain ⟨h4,h5⟩:=List.pairwise_cons.1 h2;exact ⟨⟨⟨(h1 m (List.mem_cons_self ..)).1,h3 m (List.mem_cons_self ..)⟩,(h1 m (List.mem_cons_self ..)).2⟩,fun n hn=>h1 n (List.mem_cons_of_mem _ hn),h5,fun n hn=>h4 n hn⟩
theorem tree_iff (L:List Nd):ze2 L=true↔L.length≤40∧(∀n∈L,zc5 n=true∧dirS L (parent n.path)=true)∧L.Pairwise (fun a b=>za3 (names a.path) (names b.path)=true):=by
 rw [ze2,←tree_same,Bool.and_eq_true,decide_eq_true_eq,goS_iff]
 constructor
 ·rintro ⟨h1,h2,h3, -⟩;exact ⟨h1,h2,h3⟩
 ·rintro ⟨h1,h2,h3⟩;exact ⟨h1,h2,h3,fun n hn=>rfl⟩
end Pl
end
section
namespace Pl
def fill:Fo→List (Int × List Nd)→Fx × List (Int × List Nd)
 | .nil,xs=>(.nil,xs)
 | .cons _ _,[]=>(.nil,[])
 | .cons k m,x::xs=>(.cons x.2 (fill k xs).1 (fill m (fill k xs).2).1,(fill m (fill k xs).2).2)
theorem fill_flat (X:Fx):∀R,fill X.shape (X.flat++R)=(X,R):=by
 induction X with
 |nil=>intro R;rfl
 |cons L k m ih1 ih2=>
  intro R;rw [Fx.shape,Fx.flat,List.cons_append,fill,List.append_assoc,ih1,ih2]
def nestX (xs:List (Int × List Nd)):Option (List Nd × Fx):=match nest (rowO xs) with
 |none=>none
 |some k=>match (fill (.cons k .nil) xs).1 with
  | .cons L K _=>some (L,K)
  | .nil=>none
theorem nestX_some {xs:List (Int × List Nd)} {L:List Nd} {k:Fx} (h:nest (rowO xs)=some k.shape) (hf:(Fx.cons L k .nil).flat=xs):nestX xs=some (L,k):=by
 unfold nestX;rw [h];have :=fill_flat (Fx.cons L k .nil) [];rw [List.append_nil,hf] at this;have e2:fill (Fo.cons k.shape .nil) xs=(Fx.cons L k .nil,[]):=this;simp only [e2]
theorem parse_fill (f:Nat):∀k (xs:List (Int × List Nd)) F R,parse f k (rowO xs)=some (F,R)→∃X rest,Fx.shape X=F∧R=rowO rest∧xs=X.flat++rest∧X.okX:=by
 induction f with
 |zero=>
  intro k xs F R h;cases k with
  |zero=>simp [parse] at h;obtain ⟨rfl,rfl⟩:=h;exact ⟨.nil,xs,rfl,rfl,rfl,trivial⟩
  |succ k=>simp [parse] at h
 |succ f ih=>
  intro k xs F R h;cases k with
  |zero=>simp [parse] at h;obtain ⟨rfl,rfl⟩:=h;exact ⟨.nil,xs,rfl,rfl,rfl,trivial⟩
  |succ k=>
   cases xs with
   |nil=>simp [rowO,parse] at h
   |cons x xs=>
    have e:rowO (x::xs)=zj9 x::rowO xs:=rfl;rw [e] at h;cases hx:zj9 x with
    |none=>rw [hx] at h;simp [parse] at h
    |some m=>
     rw [hx] at h;simp only [parse] at h
     split at h
     ·cases h
     ·rename_i kids R1 h1
      split at h
      ·cases h
      ·rename_i more R2 h2
       cases h
       obtain ⟨K,r1,e1,e2,e3,o1⟩:=ih _ _ _ _ h1;rw [e2] at h2;obtain ⟨M,r2,e4,e5,e6,o2⟩:=ih _ _ _ _ h2;have hm:=itemO_some hx;have hl:K.len=m:=by rw [←Fx.zx2,e1];exact (zs3 _ _ _ _ _ h1).1
       have hb:ze7 x.1 x.2=true:=by
        unfold zj9 at hx
        split at hx
        ·assumption
        ·cases hx
       have hb2:ze2 x.2=true∧(x.1=0∨x.2=[]):=by
        unfold ze7 at hb;simp only [Bool.and_eq_true,Bool.or_eq_true,decide_eq_true_eq,List.isEmpty_iff] at hb;exact ⟨hb.2,hb.1.2⟩
       refine ⟨.cons x.2 K M,r2,by rw [Fx.shape,e1,e4],e5,?_,hb2.1,?_,by omega,o1,o2⟩
       ·rw [Fx.flat,hl,←hm.1,List.cons_append,List.append_assoc,←e6,←e3]
       ·rcases hb2.2 with h0|h0
        ·exact .inl (Fx.len_zero (by omega))
        ·exact .inr h0
theorem nest_fill {xs:List (Int × List Nd)} {F:Fo} (h:nest (rowO xs)=some F):∃L k,Fx.shape k=F∧(Fx.cons L k .nil).flat=xs∧(Fx.cons L k .nil).okX∧nestX xs=some (L,k):=by
 obtain ⟨-,h2, -⟩:=nest_yes h;obtain ⟨X,rest,e1,e2,e3,o⟩:=parse_fill _ _ _ _ _ h2
 have hr:rest=[]:=by
  cases rest with
  |nil=>rfl
  |cons a b=>simp [rowO] at e2
 subst hr;rw [List.append_nil] at e3;cases X with
 |nil=>cases e1
 |cons L k m=>
  rw [Fx.shape] at e1;simp only [Fo.cons.injEq] at e1;have hm:=Fx.shape_nil e1.2;subst hm;refine ⟨L,k,e1.1,e3.symm,o,nestX_some (by rw [e1.1];exact h) e3.symm⟩
theorem nest_len {xs:List (Int × List Nd)} {F:Fo} (h:nest (rowO xs)=some F):xs.length≤12:=by
 have :=(nest_yes h).1;rw [zn9] at this;exact this
end Pl
end
end Go.Proofs.YtggadpalljhiaaaGreatDoor
