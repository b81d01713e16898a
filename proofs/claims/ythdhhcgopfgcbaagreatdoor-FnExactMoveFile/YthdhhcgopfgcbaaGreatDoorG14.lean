/- Several texts of one claim in one file: PlainNestCh, PlainSetF, PlainBeg, PlainNestLe. -/
import Derived.Test.YthdhhcgopfgcbaaGreatDoorPlainWay
import Derived.Test.YthdhhcgopfgcbaaGreatDoorG10
import Derived.Test.YthdhhcgopfgcbaaGreatDoorG13
namespace Go.Proofs.YthdhhcgopfgcbaaGreatDoor
section
namespace Pl
def zi9 (p:ByteArray):List ByteArray:=ways (zb (zb4 p)) (zb (zb4 p)).length
def ze8 (XS:List (Int × List Nd)) (n:Nd) (pc:List Nd→Int) (lf:List Nd→List Nd→Int→List Nd):Int × List (Int × List Nd):=
 if n.path.size≤8000∧n.data.size≤8000 then
  if 400<XS.length then (2,[]) else
  match zn1 XS with
  |none=>(1,[])
  |some (L,K)=>
   if za7 n=true then
    if zb9 XS=0 then
     if pc (zb8 XS)=0 then
      if 40<(lf (zb8 XS) (zg3 (zb8 XS) (zd6 L K) (zi9 n.path)) (K.shape.level:Int)).length then (9,[])
      else (0,(setF (lf (zb8 XS) (zg3 (zb8 XS) (zd6 L K) (zi9 n.path)) (K.shape.level:Int)) (.cons L K .nil)).flat)
     else (pc (zb8 XS),[])
    else (zb9 XS,[])
   else (1,[])
 else (2,[])
theorem setF_okR {O:List Nd} (hO:zc9 O) (X:Fx):X.okR→(setF O X).okR:=by
 induction X with
 |nil=>intro h;exact h
 |cons L k m ih _=>cases k with
  |nil=>intro h;exact ⟨hO, .inl rfl,h.2.2.1,trivial,h.2.2.2.2⟩
  |cons L1 k1 m1=>
   intro h;refine ⟨h.1,?_,?_,ih h.2.2.2.1,h.2.2.2.2⟩
   ·rcases h.2.1 with h1|h1
    ·cases h1
    ·exact .inr h1
   ·rw [zw8];exact h.2.2.1
theorem setF_sz (O:List Nd) (X:Fx):(setF O X).sz=X.sz:=by
 rw [←Fx.yb1,←Fx.yb1,setF_shape]
theorem zq7 {XS:List (Int × List Nd)} (h:zb9 XS=0):zd0 (zb8 XS)=true:=by
 rw [yi1 h];exact plainL_plain (yd0 h)
end Pl
end
section
namespace Pl
theorem level_lt (X:Fx):∀L k m,X= .cons L k m→k.shape.level<X.flat.length:=by
 induction X with
 |nil=>intro L k m h;cases h
 |cons L0 k0 m0 ih _=>
  intro L k m h;cases h
  cases k0 with
  |nil=>simp [Fx.shape,Fo.level,Fx.flat]
  |cons L1 k1 m1=>
   have :=ih L1 k1 m1 rfl;rw [Fx.flat];simp only [Fx.shape,Fo.level,List.length_cons,List.length_append];omega
theorem setF_flat (O:List Nd) (X:Fx):∀L k m,X= .cons L k m→(setF O X).flat=X.flat.set k.shape.level ((0:Int),O):=by
 induction X with
 |nil=>intro L k m h;cases h
 |cons L0 k0 m0 ih _=>
  intro L k m h;cases h
  cases k0 with
  |nil=>simp [setF,Fx.shape,Fo.level,Fx.flat,Fx.len]
  |cons L1 k1 m1=>
   have h1:=ih L1 k1 m1 rfl;have h2:=level_lt (.cons L1 k1 m1) L1 k1 m1 rfl;rw [setF,Fx.flat,h1,zw8,show (Fx.cons L0 (.cons L1 k1 m1) m0).flat=(((Fx.cons L1 k1 m1).len:Int),L0)::((Fx.cons L1 k1 m1).flat++m0.flat) from rfl];simp only [Fx.shape,Fo.level];rw [Nat.add_comm 1,List.set_cons_succ,List.set_append_left _ _ h2]
theorem first_flat (X:Fx):∀L k m,X= .cons L k m→X.flat[k.shape.level]? =some ((0:Int),zd6 L k):=by
 induction X with
 |nil=>intro L k m h;cases h
 |cons L0 k0 m0 ih _=>
  intro L k m h;cases h
  cases k0 with
  |nil=>simp [zd6,Fx.shape,Fo.level,Fx.flat,Fx.len]
  |cons L1 k1 m1=>
   have h1:=ih L1 k1 m1 rfl;have h2:=level_lt (.cons L1 k1 m1) L1 k1 m1 rfl;rw [Fx.flat,zd6];simp only [Fx.shape,Fo.level];rw [Nat.add_comm 1,List.getElem?_cons_succ,List.getElem?_append_left h2];exact h1
end Pl
end
section
namespace Pl
def begC (XS:List (Int × List Nd)) (n:Nd):Int:=if 400<XS.length∨8000<n.path.size∨8000<n.data.size then 2 else if (nest (rowO XS)).isSome=true∧za7 n=true then zb9 XS else 1
def begT (XS:List (Int × List Nd)) (n:Nd):List Nd:=if 400<XS.length∨8000<n.path.size∨8000<n.data.size then [] else if (nest (rowO XS)).isSome=true∧za7 n=true then zb8 XS else []
theorem zw3 {XS:List (Int × List Nd)} {n:Nd} (h:400<XS.length∨8000<n.path.size∨8000<n.data.size):begC XS n=2∧begT XS n=[]:=⟨if_pos h,if_pos h⟩
theorem yb6 {XS:List (Int × List Nd)} {n:Nd} (h:¬ (400<XS.length∨8000<n.path.size∨8000<n.data.size)) (h2:¬ ((nest (rowO XS)).isSome=true∧za7 n=true)):begC XS n=1∧begT XS n=[]:=by
 unfold begC begT;rw [if_neg h,if_neg h,if_neg h2,if_neg h2];exact ⟨rfl,rfl⟩
theorem beg_go {XS:List (Int × List Nd)} {n:Nd} (h:¬ (400<XS.length∨8000<n.path.size∨8000<n.data.size)) (h2:(nest (rowO XS)).isSome=true∧za7 n=true):begC XS n=zb9 XS∧begT XS n=zb8 XS:=by
 unfold begC begT;rw [if_neg h,if_neg h,if_pos h2,if_pos h2];exact ⟨rfl,rfl⟩
theorem zx {XS:List (Int × List Nd)} {n:Nd} (h:begC XS n=0):XS.length≤400∧n.path.size≤8000∧n.data.size≤8000∧(nest (rowO XS)).isSome=true∧za7 n=true∧zb9 XS=0∧begT XS n=zb8 XS:=by
 by_cases h1:400<XS.length∨8000<n.path.size∨8000<n.data.size
 ·rw [(zw3 h1).1] at h;cases h
 ·by_cases h2:(nest (rowO XS)).isSome=true∧za7 n=true
  ·rw [(beg_go h1 h2).1] at h;exact ⟨by omega,by omega,by omega,h2.1,h2.2,h,(beg_go h1 h2).2⟩
  ·rw [(yb6 h1 h2).1] at h;cases h
theorem beg_none {XS:List (Int × List Nd)} {n:Nd} (h:begC XS n≠0) (pc:List Nd→Int) (lf:List Nd→List Nd→Int→List Nd):ze8 XS n pc lf=(begC XS n,[]):=by
 by_cases h1:400<XS.length∨8000<n.path.size∨8000<n.data.size
 ·rw [(zw3 h1).1];unfold ze8;by_cases h3:n.path.size≤8000∧n.data.size≤8000
  ·rw [if_pos h3,if_pos (by omega)]
  ·rw [if_neg h3]
 ·have h3:n.path.size≤8000∧n.data.size≤8000:=by omega
  by_cases h2:(nest (rowO XS)).isSome=true∧za7 n=true
  ·rw [(beg_go h1 h2).1] at h ⊢;obtain ⟨F,hF⟩:=Option.isSome_iff_exists.1 h2.1;obtain ⟨L,k, -, -, -,hx⟩:=zm5 hF;unfold ze8;rw [if_pos h3,if_neg (by omega),hx];simp only;rw [if_pos h2.2,if_neg h]
  ·rw [(yb6 h1 h2).1];unfold ze8;rw [if_pos h3,if_neg (by omega)];cases hN:nest (rowO XS) with
   |none=>rw [zt1 hN]
   |some F=>
    obtain ⟨L,k, -, -, -,hx⟩:=zm5 hN;rw [hx];simp only;rw [if_neg (fun h4=>h2 ⟨by rw [hN];rfl,h4⟩)]
theorem beg_pc {XS:List (Int × List Nd)} {n:Nd} (h:begC XS n=0) {pc:List Nd→Int} (hp:pc (zb8 XS)≠0) (lf:List Nd→List Nd→Int→List Nd):ze8 XS n pc lf=(pc (zb8 XS),[]):=by
 obtain ⟨h1,h2,h3,h4,h5,h6, -⟩:=zx h;obtain ⟨F,hF⟩:=Option.isSome_iff_exists.1 h4;obtain ⟨L,k, -, -, -,hx⟩:=zm5 hF;unfold ze8;rw [if_pos ⟨h2,h3⟩,if_neg (by omega),hx];simp only;rw [if_pos h5,if_pos h6,if_neg hp]
theorem beg_yes {XS:List (Int × List Nd)} {n:Nd} (h:begC XS n=0) {L:List Nd} {K:Fx} (hx:zn1 XS=some (L,K)) (hf:(Fx.cons L K .nil).flat=XS) {pc:List Nd→Int} (hp:pc (zb8 XS)=0) (lf:List Nd→List Nd→Int→List Nd):
  ze8 XS n pc lf=(if 40<(lf (zb8 XS) (zg3 (zb8 XS) (zd6 L K) (zi9 n.path)) (K.shape.level:Int)).length then 9 else 0,if 40<(lf (zb8 XS) (zg3 (zb8 XS) (zd6 L K) (zi9 n.path)) (K.shape.level:Int)).length then [] else XS.set K.shape.level ((0:Int),lf (zb8 XS) (zg3 (zb8 XS) (zd6 L K) (zi9 n.path)) (K.shape.level:Int))):=by
 obtain ⟨h1,h2,h3,h4,h5,h6, -⟩:=zx h;unfold ze8;rw [if_pos ⟨h2,h3⟩,if_neg (by omega),hx];simp only;rw [if_pos h5,if_pos h6,if_pos hp,setF_flat _ _ L K .nil rfl,hf]
 split <;> rfl
theorem kind_two (p:ByteArray) (t:Int):za7 ⟨p,2,⟨#[]⟩,t,0⟩=za7 ⟨p,1,⟨#[]⟩,t,0⟩:=by
 have e:(⟨#[]⟩:ByteArray).size=0:=rfl;simp [za7,zj9,e]
theorem begC_kind (XS:List (Int × List Nd)) (p:ByteArray) (t:Int):begC XS ⟨p,2,⟨#[]⟩,t,0⟩=begC XS ⟨p,1,⟨#[]⟩,t,0⟩:=by unfold begC;rw [kind_two]
theorem begT_kind (XS:List (Int × List Nd)) (p:ByteArray) (t:Int):begT XS ⟨p,2,⟨#[]⟩,t,0⟩=begT XS ⟨p,1,⟨#[]⟩,t,0⟩:=by unfold begT;rw [kind_two]
end Pl
end
section
namespace Pl
theorem nestCh_le (XS:List (Int × List Nd)) (n:Nd) (pc:List Nd→Int) (lf:List Nd→List Nd→Int→List Nd):(ze8 XS n pc lf).2.length≤12∧∀x∈(ze8 XS n pc lf).2,x.2.length≤40:=by
 have hnil:∀c:Int,((c,([]:List (Int × List Nd))).2).length≤12∧∀x∈(c,([]:List (Int × List Nd))).2,x.2.length≤40:=fun c=>⟨by simp,fun x hx=>by cases hx⟩;by_cases hC:begC XS n=0
 ·by_cases hp:pc (zb8 XS)=0
  ·obtain ⟨F,hF⟩:=Option.isSome_iff_exists.1 (zx hC).2.2.2.1;obtain ⟨L,k, -,hfl,hko,hx⟩:=zm5 hF;rw [beg_yes hC hx hfl hp];by_cases h40:40<(lf (zb8 XS) (zg3 (zb8 XS) (zd6 L k) (zi9 n.path)) (k.shape.level:Int)).length
   ·rw [if_pos h40,if_pos h40];exact hnil 9
   ·rw [if_neg h40,if_neg h40];refine ⟨by rw [List.length_set];exact zo6 hF,fun x hx=>?_⟩
    rcases List.mem_or_eq_of_mem_set hx with h|h
    ·rw [←hfl] at h;exact ((ze2 _).1 (Fx.ok_mem hko x h).1).1
    ·rw [h];exact Nat.le_of_not_lt h40
  ·rw [beg_pc hC hp];exact hnil _
 ·rw [beg_none hC];exact hnil _
end Pl
end
end Go.Proofs.YthdhhcgopfgcbaaGreatDoor
