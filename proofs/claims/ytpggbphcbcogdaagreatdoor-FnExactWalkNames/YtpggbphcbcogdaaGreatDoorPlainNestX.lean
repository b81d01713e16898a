import Derived.Test.YtpggbphcbcogdaaGreatDoorPlainFx
namespace Go.Proofs.YtpggbphcbcogdaaGreatDoor
namespace Pl
def fill:Fo→List (Int × List Nd)→Fx × List (Int × List Nd)
 | .nil,xs=>(.nil,xs)
 | .cons _ _,[]=>(.nil,[])
 | .cons k m,x::xs=>(.cons x.2 (fill k xs).1 (fill m (fill k xs).2).1,(fill m (fill k xs).2).2)
theorem fill_flat (X:Fx):∀R,fill X.shape (X.flat++R)=(X,R):=by
 induction X with
 |nil=>intro R;rfl
 |cons L k m ih1 ih2=>
  intro R;rw [Fx.shape,Fx.flat,List.cons_append,fill,List.append_assoc,ih1,ih2]
def nestX (xs:List (Int × List Nd)):Option (List Nd × Fx):=match nest (rowO xs) with
 |none=>none
 |some k=>match (fill (.cons k .nil) xs).1 with
  | .cons L K _=>some (L,K)
  | .nil=>none
theorem zy0 {xs:List (Int × List Nd)} {L:List Nd} {k:Fx} (h:nest (rowO xs)=some k.shape) (hf:(Fx.cons L k .nil).flat=xs):nestX xs=some (L,k):=by
 unfold nestX;rw [h];have :=fill_flat (Fx.cons L k .nil) [];rw [List.append_nil,hf] at this;have e2:fill (Fo.cons k.shape .nil) xs=(Fx.cons L k .nil,[]):=this;simp only [e2]
theorem parse_fill (f:Nat):∀k (xs:List (Int × List Nd)) F R,parse f k (rowO xs)=some (F,R)→∃X rest,Fx.shape X=F∧R=rowO rest∧xs=X.flat++rest∧X.okX:=by
 induction f with
 |zero=>
  intro k xs F R h;cases k with
  |zero=>simp [parse] at h;obtain ⟨rfl,rfl⟩:=h;exact ⟨.nil,xs,rfl,rfl,rfl,trivial⟩
  |succ k=>simp [parse] at h
 |succ f ih=>
  intro k xs F R h;cases k with
  |zero=>simp [parse] at h;obtain ⟨rfl,rfl⟩:=h;exact ⟨.nil,xs,rfl,rfl,rfl,trivial⟩
  |succ k=>
   cases xs with
   |nil=>simp [rowO,parse] at h
   |cons x xs=>
    have e:rowO (x::xs)=zi2 x::rowO xs:=rfl;rw [e] at h;cases hx:zi2 x with
    |none=>rw [hx] at h;simp [parse] at h
    |some m=>
     rw [hx] at h;simp only [parse] at h
     split at h
     ·cases h
     ·rename_i kids R1 h1
      split at h
      ·cases h
      ·rename_i more R2 h2
       cases h
       obtain ⟨K,r1,e1,e2,e3,o1⟩:=ih _ _ _ _ h1;rw [e2] at h2;obtain ⟨M,r2,e4,e5,e6,o2⟩:=ih _ _ _ _ h2;have hm:=itemO_some hx;have hl:K.len=m:=by rw [←Fx.zo7,e1];exact (zq _ _ _ _ _ h1).1
       have hb:ze3 x.1 x.2=true:=by
        unfold zi2 at hx
        split at hx
        ·assumption
        ·cases hx
       have hb2:zb9 x.2=true∧(x.1=0∨x.2=[]):=by
        unfold ze3 at hb;simp only [Bool.and_eq_true,Bool.or_eq_true,decide_eq_true_eq,List.isEmpty_iff] at hb;exact ⟨hb.2,hb.1.2⟩
       refine ⟨.cons x.2 K M,r2,by rw [Fx.shape,e1,e4],e5,?_,hb2.1,?_,by omega,o1,o2⟩
       ·rw [Fx.flat,hl,←hm.1,List.cons_append,List.append_assoc,←e6,←e3]
       ·rcases hb2.2 with h0|h0
        ·exact .inl (Fx.zm5 (by omega))
        ·exact .inr h0
theorem zt4 {xs:List (Int × List Nd)} {F:Fo} (h:nest (rowO xs)=some F):∃L k,Fx.shape k=F∧(Fx.cons L k .nil).flat=xs∧(Fx.cons L k .nil).okX∧nestX xs=some (L,k):=by
 obtain ⟨-,h2, -⟩:=nest_yes h;obtain ⟨X,rest,e1,e2,e3,o⟩:=parse_fill _ _ _ _ _ h2
 have hr:rest=[]:=by
  cases rest with
  |nil=>rfl
  |cons a b=>simp [rowO] at e2
 subst hr;rw [List.append_nil] at e3;cases X with
 |nil=>cases e1
 |cons L k m=>
  rw [Fx.shape] at e1;simp only [Fo.cons.injEq] at e1;have hm:=Fx.shape_nil e1.2;subst hm;refine ⟨L,k,e1.1,e3.symm,o,zy0 (by rw [e1.1];exact h) e3.symm⟩
theorem nest_len {xs:List (Int × List Nd)} {F:Fo} (h:nest (rowO xs)=some F):xs.length≤12:=by
 have :=(nest_yes h).1;rw [zj7] at this;exact this
end Pl
end Go.Proofs.YtpggbphcbcogdaaGreatDoor
