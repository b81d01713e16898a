/- Several texts of one claim in one file: PlainItem, PlainFx, PlainNestX, PlainSight, PlainPick. -/
import Derived.Test.YtpggbphcbcogdaaGreatDoorG01
namespace Go.Proofs.YtpggbphcbcogdaaGreatDoor
section
namespace Pl
def ze3 (m:Int) (L:List Nd):Bool:=decide (0≤m)&&decide (m≤4)&&(decide (m=0)||L.isEmpty)&&zb9 L
def zi2 (x:Int × List Nd):Option Nat:=if ze3 x.1 x.2=true then some x.1.toNat else none
def rowO (xs:List (Int × List Nd)):Row:=xs.map zi2
theorem treeB_nil:zb9 []=true:=by rfl
theorem zy1 (L:List Nd):ze3 0 L=zb9 L:=by simp [ze3]
theorem zr9 {m:Int} (h:m≠0) (L:List Nd):ze3 m L=(decide (1≤m)&&decide (m≤4)&&decide (L.length=0)):=by
 unfold ze3;rw [show decide (m=0)=false from decide_eq_false h,Bool.false_or];have e:decide (0≤m)=decide (1≤m):=decide_eq_decide.2 (by omega);rw [e];cases L with
 |nil=>simp [treeB_nil]
 |cons a L=>simp
theorem zq9 {m:Int} {L:List Nd} (h:ze3 m L=true):0≤m∧m≤4:=by
 simp [ze3] at h
 exact ⟨h.1.1.1,h.1.1.2⟩
theorem zv0 {m:Int} {L:List Nd} (h:ze3 m L=true):zi2 (m,L)=some m.toNat:=by simp [zi2,h]
theorem itemO_no {m:Int} {L:List Nd} (h:ze3 m L=false):zi2 (m,L)=none:=by simp [zi2,h]
theorem itemO_some {x:Int × List Nd} {k:Nat} (h:zi2 x=some k):x.1=(k:Int)∧k≤4:=by
 unfold zi2 at h
 split at h
 ·rename_i hb
  have :=zq9 hb;cases h
  omega
 ·cases h
theorem zj7 (xs:List (Int × List Nd)):(rowO xs).length=xs.length:=by simp [rowO]
theorem rowO_at {xs:List (Int × List Nd)} {i:Nat} {x:Int × List Nd} (h:xs[i]? =some x):(rowO xs).drop i=zi2 x::(rowO xs).drop (i+1):=by
 obtain ⟨h1,h2⟩:=List.getElem?_eq_some_iff.1 h;rw [List.drop_eq_getElem_cons (by rw [zj7];exact h1)]
 congr 1
 simp [rowO,h2]
def endI (n:Nat):Option Row→Int
 |none=> -1
 |some R=>(n:Int) - (R.length:Int)
theorem ends_at {k deep p n:Nat} {L R:Row} (hn:L.length=n) (hp:p≤n) (h:ends k deep (L.drop p)=some R):∃p':Nat,endI n (some R)=(p':Int)∧p'≤n∧L.drop p'=R:=by
 obtain ⟨h1,h2⟩:=ends_len h;rw [List.length_drop] at h1 h2;refine ⟨n - R.length,by rw [endI];omega,by omega,?_⟩;rw [List.drop_drop] at h2;have e:p+(L.length - p - R.length)=n - R.length:=by omega
 rw [e] at h2;exact h2.symm
def Fo.sz:Fo→Nat
 | .nil=>0
 | .cons k m=>k.sz+m.sz+1
theorem Fo.len_le (F:Fo):F.len≤F.sz:=by
 induction F with
 |nil=>simp [Fo.len]
 |cons k m _ ih=>simp only [Fo.len,Fo.sz];omega
theorem Fo.depth_le (F:Fo):F.depth≤F.sz:=by
 induction F with
 |nil=>simp [Fo.depth]
 |cons k m ih1 ih2=>simp only [Fo.depth,Fo.sz];omega
theorem parse_sz (f:Nat):∀k L F R,parse f k L=some (F,R)→F.sz+R.length=L.length:=by
 induction f with
 |zero=>
  intro k L F R h;cases k with
  |zero=>simp [parse] at h;obtain ⟨rfl,rfl⟩:=h;simp [Fo.sz]
  |succ k=>simp [parse] at h
 |succ f ih=>
  intro k L F R h;cases k with
  |zero=>simp [parse] at h;obtain ⟨rfl,rfl⟩:=h;simp [Fo.sz]
  |succ k=>
   match L,h with
   | [],h=>simp [parse] at h
   |none::L,h=>simp [parse] at h
   |some m::L,h=>
    simp only [parse] at h
    split at h
    ·cases h
    ·rename_i kids R1 h1
     split at h
     ·cases h
     ·rename_i more R2 h2
      cases h
      have a1:=ih _ _ _ _ h1;have a2:=ih _ _ _ _ h2;simp only [Fo.sz,List.length_cons];omega
theorem take_sz {k:Nat} {L R:Row} {F:Fo} (h:take k L=some (F,R)):F.sz+R.length=L.length:=parse_sz _ _ _ _ _ h
theorem nest_fail {L:Row} (h:take 1 L=none):nest L=none:=by
 unfold nest;rw [h];simp
theorem nest_rest {L R:Row} {k:Fo} (h:take 1 L=some (.cons k .nil,R)) (hR:R.length≠0):nest L=none:=by
 unfold nest;rw [h];cases R with
 |nil=>simp at hR
 |cons a b=>simp
theorem nest_deep {L R:Row} {k:Fo} (h:take 1 L=some (.cons k .nil,R)) (hd:4<k.depth+1):nest L=none:=by
 unfold nest;rw [h];cases R with
 |nil=>simp only;rw [if_neg (show ¬k.depth≤3 by omega)];simp
 |cons a b=>simp
theorem nest_ok {L R:Row} {k:Fo} (h12:L.length≤12) (h:take 1 L=some (.cons k .nil,R)) (hR:R.length=0) (hd:¬4<k.depth+1):nest L=some k:=by
 have e:R=[]:=List.eq_nil_of_length_eq_zero hR;subst e;unfold nest;rw [if_pos h12,h];simp only;rw [if_pos (show k.depth≤3 by omega)]
def went (F:Fo) (o:Option (Fo × Row)):Option (Fo × Row):=o.map (fun y=>(F.app y.1,y.2))
theorem went_start (o:Option (Fo × Row)):went .nil o=o:=by cases o <;> rfl
theorem went_step {F kids:Fo} {k:Nat} {L R:Row} (h:take 1 L=some (.cons kids .nil,R)):went F (take (k+1) L)=went (F.app (.cons kids .nil)) (take k R):=by
 rw [zu1,h];cases h2:take k R with
 |none=>simp [went,h2]
 |some y=>obtain ⟨m,R'⟩:=y;simp [went,h2,Fo.app_assoc]
theorem went_fail {F:Fo} {k:Nat} {L:Row} (h:take 1 L=none):went F (take (k+1) L)=none:=by
 rw [zu1,h];rfl
theorem went_end (F:Fo) (L:Row):went F (take 0 L)=some (F,L):=by simp [went,take_zero,Fo.app_nil]
theorem rowO_drop (xs:List (Int × List Nd)) (k:Nat):(rowO xs).drop k=rowO (xs.drop k):=by simp [rowO,List.map_drop]
end Pl
end
section
namespace Pl
inductive Fx where
 |nil:Fx
 |cons (L:List Nd) (kids more:Fx):Fx
namespace Fx
def shape:Fx→Fo
 | .nil=> .nil
 | .cons _ k m=> .cons k.shape m.shape
def len:Fx→Nat
 | .nil=>0
 | .cons _ _ m=>m.len+1
def sz:Fx→Nat
 | .nil=>0
 | .cons _ k m=>k.sz+m.sz+1
def flat:Fx→List (Int × List Nd)
 | .nil=>[]
 | .cons L k m=>((k.len:Int),L)::(k.flat++m.flat)
def app:Fx→Fx→Fx
 | .nil,r=>r
 | .cons L k m,r=> .cons L k (m.app r)
def okX:Fx→Prop
 | .nil=>True
 | .cons L k m=>zb9 L=true∧(k= .nil∨L=[])∧k.len≤4∧k.okX∧m.okX
theorem zo7 (X:Fx):X.shape.len=X.len:=by
 induction X with
 |nil=>rfl
 |cons L k m _ ih=>rw [shape,Fo.len,len,ih]
theorem zt (X:Fx):X.flat.length=X.sz:=by
 induction X with
 |nil=>rfl
 |cons L k m ih1 ih2=>rw [flat,List.length_cons,List.length_append,ih1,ih2,sz]
theorem shape_app (a b:Fx):(a.app b).shape=a.shape.app b.shape:=by
 induction a with
 |nil=>rfl
 |cons L k m _ ih=>rw [app,shape,shape,ih];rfl
theorem len_app (a b:Fx):(a.app b).len=a.len+b.len:=by
 induction a with
 |nil=>simp [app,len]
 |cons L k m _ ih=>rw [app,len,len,ih];omega
theorem flat_app (a b:Fx):(a.app b).flat=a.flat++b.flat:=by
 induction a with
 |nil=>rfl
 |cons L k m _ ih=>rw [app,flat,flat,ih];simp
theorem ok_app {a b:Fx} (ha:a.okX) (hb:b.okX):(a.app b).okX:=by
 induction a with
 |nil=>exact hb
 |cons L k m _ ih=>exact ⟨ha.1,ha.2.1,ha.2.2.1,ha.2.2.2.1,ih ha.2.2.2.2⟩
theorem shape_nil {X:Fx} (h:X.shape= .nil):X= .nil:=by
 cases X with
 |nil=>rfl
 |cons L k m=>cases h
theorem zm5 {X:Fx} (h:X.len=0):X= .nil:=by
 cases X with
 |nil=>rfl
 |cons L k m=>simp [len] at h
theorem len_le (X:Fx):X.len≤X.sz:=by
 induction X with
 |nil=>exact Nat.le_refl _
 |cons L k m _ ih=>rw [len,sz];omega
theorem ok_mem {X:Fx} (h:X.okX):∀x∈X.flat,zb9 x.2=true∧0≤x.1∧x.1≤4:=by
 induction X with
 |nil=>intro x hx;cases hx
 |cons L k m ih1 ih2=>
  intro x hx;rw [flat,List.mem_cons,List.mem_append] at hx
  rcases hx with rfl |hx|hx
  ·exact ⟨h.1,by omega,by have :=h.2.2.1;omega⟩
  ·exact ih1 h.2.2.2.1 x hx
  ·exact ih2 h.2.2.2.2 x hx
end Fx
end Pl
end
section
namespace Pl
def fill:Fo→List (Int × List Nd)→Fx × List (Int × List Nd)
 | .nil,xs=>(.nil,xs)
 | .cons _ _,[]=>(.nil,[])
 | .cons k m,x::xs=>(.cons x.2 (fill k xs).1 (fill m (fill k xs).2).1,(fill m (fill k xs).2).2)
theorem fill_flat (X:Fx):∀R,fill X.shape (X.flat++R)=(X,R):=by
 induction X with
 |nil=>intro R;rfl
 |cons L k m ih1 ih2=>
  intro R;rw [Fx.shape,Fx.flat,List.cons_append,fill,List.append_assoc,ih1,ih2]
def nestX (xs:List (Int × List Nd)):Option (List Nd × Fx):=match nest (rowO xs) with
 |none=>none
 |some k=>match (fill (.cons k .nil) xs).1 with
  | .cons L K _=>some (L,K)
  | .nil=>none
theorem zy0 {xs:List (Int × List Nd)} {L:List Nd} {k:Fx} (h:nest (rowO xs)=some k.shape) (hf:(Fx.cons L k .nil).flat=xs):nestX xs=some (L,k):=by
 unfold nestX;rw [h];have :=fill_flat (Fx.cons L k .nil) [];rw [List.append_nil,hf] at this;have e2:fill (Fo.cons k.shape .nil) xs=(Fx.cons L k .nil,[]):=this;simp only [e2]
theorem parse_fill (f:Nat):∀k (xs:List (Int × List Nd)) F R,parse f k (rowO xs)=some (F,R)→∃X rest,Fx.shape X=F∧R=rowO rest∧xs=X.flat++rest∧X.okX:=by
 induction f with
 |zero=>
  intro k xs F R h;cases k with
  |zero=>simp [parse] at h;obtain ⟨rfl,rfl⟩:=h;exact ⟨.nil,xs,rfl,rfl,rfl,trivial⟩
  |succ k=>simp [parse] at h
 |succ f ih=>
  intro k xs F R h;cases k with
  |zero=>simp [parse] at h;obtain ⟨rfl,rfl⟩:=h;exact ⟨.nil,xs,rfl,rfl,rfl,trivial⟩
  |succ k=>
   cases xs with
   |nil=>simp [rowO,parse] at h
   |cons x xs=>
    have e:rowO (x::xs)=zi2 x::rowO xs:=rfl;rw [e] at h;cases hx:zi2 x with
    |none=>rw [hx] at h;simp [parse] at h
    |some m=>
     rw [hx] at h;simp only [parse] at h
     split at h
     ·cases h
     ·rename_i kids R1 h1
      split at h
      ·cases h
      ·rename_i more R2 h2
       cases h
       obtain ⟨K,r1,e1,e2,e3,o1⟩:=ih _ _ _ _ h1;rw [e2] at h2;obtain ⟨M,r2,e4,e5,e6,o2⟩:=ih _ _ _ _ h2;have hm:=itemO_some hx;have hl:K.len=m:=by rw [←Fx.zo7,e1];exact (zq _ _ _ _ _ h1).1
       have hb:ze3 x.1 x.2=true:=by
        unfold zi2 at hx
        split at hx
        ·assumption
        ·cases hx
       have hb2:zb9 x.2=true∧(x.1=0∨x.2=[]):=by
        unfold ze3 at hb;simp only [Bool.and_eq_true,Bool.or_eq_true,decide_eq_true_eq,List.isEmpty_iff] at hb;exact ⟨hb.2,hb.1.2⟩
       refine ⟨.cons x.2 K M,r2,by rw [Fx.shape,e1,e4],e5,?_,hb2.1,?_,by omega,o1,o2⟩
       ·rw [Fx.flat,hl,←hm.1,List.cons_append,List.append_assoc,←e6,←e3]
       ·rcases hb2.2 with h0|h0
        ·exact .inl (Fx.zm5 (by omega))
        ·exact .inr h0
theorem zt4 {xs:List (Int × List Nd)} {F:Fo} (h:nest (rowO xs)=some F):∃L k,Fx.shape k=F∧(Fx.cons L k .nil).flat=xs∧(Fx.cons L k .nil).okX∧nestX xs=some (L,k):=by
 obtain ⟨-,h2, -⟩:=nest_yes h;obtain ⟨X,rest,e1,e2,e3,o⟩:=parse_fill _ _ _ _ _ h2
 have hr:rest=[]:=by
  cases rest with
  |nil=>rfl
  |cons a b=>simp [rowO] at e2
 subst hr;rw [List.append_nil] at e3;cases X with
 |nil=>cases e1
 |cons L k m=>
  rw [Fx.shape] at e1;simp only [Fo.cons.injEq] at e1;have hm:=Fx.shape_nil e1.2;subst hm;refine ⟨L,k,e1.1,e3.symm,o,zy0 (by rw [e1.1];exact h) e3.symm⟩
theorem nest_len {xs:List (Int × List Nd)} {F:Fo} (h:nest (rowO xs)=some F):xs.length≤12:=by
 have :=(nest_yes h).1;rw [zj7] at this;exact this
end Pl
end
section
open Go.RowKit
namespace Pl
structure Sg where
 told:Bool
 node:Nd
 have':List Bool
def Sg.cs (s:Sg):List Value:=[.bool s.told, .string s.node.path, .int .i64 s.node.kind, .string s.node.data, .int .i64 s.node.time, .int .i64 s.node.mark]++s.have'.map .bool
def za3:Nd:=⟨⟨#[]⟩,0,⟨#[]⟩,0,0⟩
def Sg.zero:Sg:=⟨false,za3,[false,false,false,false]⟩
def zf8 (n:Nd) (m:Int):Nd:=⟨n.path,n.kind,n.data,n.time,max n.mark m⟩
def zc2 (s:Sg) (k:Nat) (n:Nd):Sg:=⟨true,zf8 (if s.told then s.node else n) n.mark,s.have'.set k (decide (n.kind=1))⟩
def ze6 (n:Nd):Bool:= !decide (n.kind=1)||decide (0<n.mark)
def upS (s:Sg):Sg:=
 if s.node.kind=0∧max (s.node.mark - 1) 0=0 then Sg.zero else ⟨s.told,⟨s.node.path,s.node.kind,s.node.data,s.node.time,max (s.node.mark - 1) 0⟩,s.have'⟩
def goD:Nat→Sg→List (Option Nd)→Sg
 |_,s,[]=>s
 |k,s,none::r=>goD (k+1) s r
 |k,s,some n::r=>if ze6 n then zc2 s k n else goD (k+1) (zc2 s k n) r
def decS (ns:List (Option Nd)):Sg:=upS (goD 0 Sg.zero ns)
def lk (L:List Nd) (p:ByteArray):Option Nd:=L.find? (fun m=>decide (m.path=p))
theorem go_step {ns:List (Option Nd)} {k:Nat} {x:Option Nd} (h:ns[k]? =some x) (j:Nat) (s:Sg):goD j s (ns.drop k)=match x with |none=>goD (j+1) s (ns.drop (k+1))|some n=>if ze6 n then zc2 s j n else goD (j+1) (zc2 s j n) (ns.drop (k+1)):=by
 have h1:=List.getElem?_eq_some_iff.1 h;rw [List.drop_eq_getElem_cons h1.1,h1.2];cases x <;> rfl
theorem go_end {ns:List (Option Nd)} {k:Nat} (h:ns.length≤k) (j:Nat) (s:Sg):goD j s (ns.drop k)=s:=by
 rw [List.drop_eq_nil_of_le h];rfl
theorem take_len (s:Sg) (k:Nat) (n:Nd):(zc2 s k n).have'.length=s.have'.length:=by simp [zc2]
theorem take_mark {s:Sg} {k:Nat} {n:Nd} (h:0≤s.node.mark∧s.node.mark≤8) (hn:0≤n.mark∧n.mark≤8):0≤(zc2 s k n).node.mark∧(zc2 s k n).node.mark≤8:=by
 unfold zc2 zf8;cases s.told <;> simp <;> omega
theorem up_len {s:Sg} (h:s.have'.length=4):(upS s).have'.length=4:=by
 unfold upS
 split
 ·rfl
 ·exact h
end Pl
end
section
open Go.RowKit
namespace Pl
structure Ot where
 ok:Bool
 node:Nd
 parts:List Nat
def finO (o:Ot) (mark:Int):Ot:=⟨o.ok,⟨o.node.path,o.node.kind,o.node.data,o.node.time,max 0 (mark - 1)⟩,o.parts⟩
def zc4 (p:ByteArray) (o:Ot) (mark:Int):List (Nat × Option Nd)→Ot
 | []=>finO o mark
 |(_,none)::r=>zc4 p o mark r
 |(k,some n)::r=>
  if o.parts=[] then
   if n.kind=1 then (if 0<n.mark then finO ⟨true,⟨p,1,⟨#[]⟩,n.time,0⟩,[k]⟩ (max mark n.mark) else zc4 p ⟨true,⟨p,1,⟨#[]⟩,n.time,0⟩,[k]⟩ (max mark n.mark) r)
   else if n.kind=0 then ⟨decide (1<n.mark),⟨p,0,⟨#[]⟩,0,n.mark - 1⟩,[]⟩ else ⟨true,n,[]⟩
  else if n.kind=1 then (if 0<n.mark then finO ⟨o.ok,o.node,o.parts++[k]⟩ (max mark n.mark) else zc4 p ⟨o.ok,o.node,o.parts++[k]⟩ (max mark n.mark) r) else finO o (max mark n.mark)
def numb:Nat→List (Option Nd)→List (Nat × Option Nd)
 |_,[]=>[]
 |k,x::r=>(k,x)::numb (k+1) r
def zb2 (ks:List Nat):List Bool:=(List.range 4).map (fun j=>decide (j∈ks))
theorem parts_in {ks:List Nat} {k:Nat} (h:k<4):(zb2 ks).set k true=zb2 (ks++[k]):=by
 obtain rfl |rfl |rfl |rfl:k=0∨k=1∨k=2∨k=3:=by omega
 all_goals simp [zb2,List.range_succ]
theorem parts_out {ks:List Nat} {k:Nat} (h:k<4) (hk:k∉ks):(zb2 ks).set k false=zb2 ks:=by
 obtain rfl |rfl |rfl |rfl:k=0∨k=1∨k=2∨k=3:=by omega
 all_goals simp [zb2,List.range_succ,hk]
structure SameO (o:Ot) (s:Sg):Prop where
 told:o.ok=s.told
 node:o.ok=true→o.node=s.node
 parts:s.have'=zb2 o.parts
 dir:o.parts≠[]→o.ok=true∧o.node.kind=1
 no:o.parts=[]→o.ok=true→o.node.kind≠1
theorem zy {d:ByteArray} (h:d.size=0):d=⟨#[]⟩:=by
 cases d with
 |mk a=>have :a=#[]:=Array.size_eq_zero_iff.1 h;rw [this]
def zm8 (p:ByteArray) (ns:List (Option Nd)):Prop:=∀n,some n∈ns→zb3 n=true∧n.path=p
theorem zr6 {p:ByteArray} {t mark:Int} {ks:List Nat} (hks:ks≠[]):SameO (finO ⟨true,⟨p,1,⟨#[]⟩,t,0⟩,ks⟩ mark) (upS ⟨true,⟨p,1,⟨#[]⟩,t,mark⟩,zb2 ks⟩):=by
 have hu:upS ⟨true,⟨p,1,⟨#[]⟩,t,mark⟩,zb2 ks⟩=⟨true,⟨p,1,⟨#[]⟩,t,max (mark - 1) 0⟩,zb2 ks⟩:=by
  unfold upS;rw [if_neg (by simp)]
 rw [hu];refine ⟨rfl,fun _=>?_,rfl,fun _=>⟨rfl,rfl⟩,fun h=>absurd h hks⟩;simp only [finO];rw [Int.max_comm]
theorem pick_dirs (p:ByteArray):∀ (ns:List (Option Nd)) (k:Nat) (t mark:Int) (ks:List Nat),zm8 p ns→k+ns.length≤4→ks≠[]→(∀j∈ks,j<k)→0≤mark→
  SameO (zc4 p ⟨true,⟨p,1,⟨#[]⟩,t,0⟩,ks⟩ mark (numb k ns)) (upS (goD k ⟨true,⟨p,1,⟨#[]⟩,t,mark⟩,zb2 ks⟩ ns)):=by
 intro ns
 induction ns with
 |nil=>intro k t mark ks _ _ hks _ hm;exact zr6 hks
 |cons x ns ih=>
  intro k t mark ks hr hl hks hlt hm;have hr':zm8 p ns:=fun n hn=>hr n (List.mem_cons_of_mem _ hn);simp only [List.length_cons] at hl;cases x with
  |none=>exact ih (k+1) t mark ks hr' (by omega) hks (fun j hj=>Nat.lt_succ_of_lt (hlt j hj)) hm
  |some n=>
   have hnk:k∉ks:=fun h=>absurd (hlt k h) (Nat.lt_irrefl _);have hm2:0≤max mark n.mark:=by omega
   simp only [numb,zc4,goD];rw [if_neg hks];by_cases hk:n.kind=1
   ·have htk:zc2 ⟨true,⟨p,1,⟨#[]⟩,t,mark⟩,zb2 ks⟩ k n=⟨true,⟨p,1,⟨#[]⟩,t,max mark n.mark⟩,zb2 (ks++[k])⟩:=by
     simp only [zc2,zf8,if_true,hk,decide_true];rw [parts_in (by omega)]
    rw [htk,if_pos hk];by_cases hmk:0<n.mark
    ·have hst:ze6 n=true:=by simp [ze6,hmk]
     rw [if_pos hmk,hst,if_pos rfl];exact zr6 (by simp)
    ·have hst:ze6 n=false:=by simp [ze6,hmk,hk]
     rw [if_neg hmk,hst,if_neg (by decide)]
     exact ih (k+1) t _ (ks++[k]) hr' (by omega) (by simp) (fun j hj=>by
      rcases List.mem_append.1 hj with h|h
      ·exact Nat.lt_succ_of_lt (hlt j h)
      ·simp at h;omega) hm2
   ·have htk:zc2 ⟨true,⟨p,1,⟨#[]⟩,t,mark⟩,zb2 ks⟩ k n=⟨true,⟨p,1,⟨#[]⟩,t,max mark n.mark⟩,zb2 ks⟩:=by
     simp only [zc2,zf8,if_true,hk,decide_false];rw [parts_out (by omega) hnk]
    have hst:ze6 n=true:=by simp [ze6,hk]
    rw [htk,if_neg hk,hst,if_pos rfl];exact zr6 hks
theorem pick_same (p:ByteArray):∀ (ns:List (Option Nd)) (k:Nat),zm8 p ns→k+ns.length≤4→SameO (zc4 p ⟨false,za3,[]⟩ 0 (numb k ns)) (upS (goD k ⟨false,za3,zb2 []⟩ ns)):=by
 intro ns
 induction ns with
 |nil=>
  intro k _ _
  have hu:upS (goD k ⟨false,za3,zb2 []⟩ [])=Sg.zero:=by
   show upS ⟨false,za3,zb2 []⟩=Sg.zero;unfold upS;rw [if_pos ⟨rfl,by show max ((0:Int) - 1) 0=0;decide⟩]
  rw [hu];exact ⟨rfl,fun h=>(by cases h),rfl,fun h=>absurd rfl h,fun _ h=>(by cases h)⟩
 |cons x ns ih=>
  intro k hr hl;have hr':zm8 p ns:=fun n hn=>hr n (List.mem_cons_of_mem _ hn);simp only [List.length_cons] at hl;cases x with
  |none=>exact ih (k+1) hr' (by omega)
  |some n=>
   obtain ⟨hb,hp⟩:=hr n List.mem_cons_self;obtain ⟨-, -,hmk8,hkd⟩:=zn5 hb;obtain ⟨np,nk,nd,nt,nm⟩:=n;simp only at hp hmk8;subst hp;have hnm:max nm nm=nm:=by omega
   have hnk:k∉([]:List Nat):=by simp
   simp only [numb,zc4,goD,if_true];by_cases hk:nk=1
   ·subst hk
    have hd:nd=⟨#[]⟩:=by
     simp [zg3] at hkd
     first |exact hkd|exact zy hkd
    subst hd
    have htk:zc2 ⟨false,za3,zb2 []⟩ k ⟨np,1,⟨#[]⟩,nt,nm⟩=⟨true,⟨np,1,⟨#[]⟩,nt,nm⟩,zb2 ([]++[k])⟩:=by
     simp only [zc2,zf8,Bool.false_eq_true,if_false,decide_true,hnm];rw [parts_in (by omega)]
    have hm0:max 0 nm=nm:=by omega
    rw [htk,hm0,List.nil_append,if_pos (rfl:(1:Int)=1)];by_cases hmk:0<nm
    ·have hst:ze6 ⟨np,1,⟨#[]⟩,nt,nm⟩=true:=by simp [ze6,hmk]
     rw [if_pos hmk,hst,if_pos rfl];exact zr6 (by simp)
    ·have hst:ze6 ⟨np,1,⟨#[]⟩,nt,nm⟩=false:=by simp [ze6,hmk]
     rw [if_neg hmk,hst,if_neg (by decide)];exact pick_dirs np ns (k+1) nt nm [k] hr' (by omega) (by simp) (fun j hj=>by simp at hj;omega) hmk8.1
   ·have htk:zc2 ⟨false,za3,zb2 []⟩ k ⟨np,nk,nd,nt,nm⟩=⟨true,⟨np,nk,nd,nt,nm⟩,zb2 []⟩:=by
     simp only [zc2,zf8,Bool.false_eq_true,if_false,hk,decide_false,hnm];rw [parts_out (by omega) hnk]
    have hst:ze6 ⟨np,nk,nd,nt,nm⟩=true:=by simp [ze6,hk]
    rw [htk,if_neg hk,hst,if_pos rfl];by_cases hz:nk=0
    ·subst hz;simp [zg3] at hkd
     obtain ⟨⟨hd,ht⟩,hm⟩:=hkd;have hd2:nd=⟨#[]⟩:=by first |exact hd|exact zy hd
     subst hd2 ht;rw [if_pos rfl];by_cases h1:nm=1
     ·subst h1
      have hu:upS ⟨true,⟨np,0,⟨#[]⟩,0,1⟩,zb2 []⟩=Sg.zero:=by
       unfold upS;rw [if_pos ⟨rfl,by show max ((1:Int) - 1) 0=0;decide⟩]
      rw [hu];exact ⟨rfl,fun h=>(by cases h),rfl,fun h=>absurd rfl h,fun _ h=>(by cases h)⟩
     ·have hu:upS ⟨true,⟨np,0,⟨#[]⟩,0,nm⟩,zb2 []⟩=⟨true,⟨np,0,⟨#[]⟩,0,nm - 1⟩,zb2 []⟩:=by
       unfold upS;rw [if_neg (by simp only;omega),show max (nm - 1) 0=nm - 1 by omega]
      rw [hu];exact ⟨by simp;omega,fun _=>rfl,rfl,fun h=>absurd rfl h,fun _ _=>(by show (0:Int)≠1;decide)⟩
    ·have h2:nm=0:=by
      simp [zg3,hz,hk] at hkd
      exact hkd.2
     subst h2
     have hu:upS ⟨true,⟨np,nk,nd,nt,0⟩,zb2 []⟩=⟨true,⟨np,nk,nd,nt,0⟩,zb2 []⟩:=by
      unfold upS;rw [if_neg (fun h=>hz h.1)];rfl
     rw [hu,if_neg hz];exact ⟨rfl,fun _=>rfl,rfl,fun h=>absurd rfl h,fun _ _=>hk⟩
theorem pick_dec {p:ByteArray} {ns:List (Option Nd)} (hr:zm8 p ns) (hl:ns.length≤4):SameO (zc4 p ⟨false,za3,[]⟩ 0 (numb 0 ns)) (decS ns):=pick_same p ns 0 hr (by omega)
end Pl
end
end Go.Proofs.YtpggbphcbcogdaaGreatDoor
