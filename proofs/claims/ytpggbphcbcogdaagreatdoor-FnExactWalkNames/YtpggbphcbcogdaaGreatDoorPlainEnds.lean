import Derived.Test.YtpggbphcbcogdaaGreatDoorPlainFx
namespace Go.Proofs.YtpggbphcbcogdaaGreatDoor
namespace Pl
theorem take_flat (X:Fx):∀R,X.okX→take X.len (rowO (X.flat++R))=some (X.shape,rowO R):=by
 induction X with
 |nil=>intro R _;exact take_zero _
 |cons L k m ih1 ih2=>
  intro R hx;obtain ⟨h1,h2,h3,h4,h5⟩:=hx
  have hb:ze3 (k.len:Int) L=true:=by
   unfold ze3;simp only [Bool.and_eq_true,Bool.or_eq_true,decide_eq_true_eq,List.isEmpty_iff];exact ⟨⟨⟨by omega,by omega⟩,h2.imp (fun e=>by rw [e];rfl) id⟩,h1⟩
  have e:rowO ((Fx.cons L k m).flat++R)=some k.len::rowO (k.flat++(m.flat++R)):=by
   rw [Fx.flat,List.cons_append,List.append_assoc];show zi2 ((k.len:Int),L)::_=_;rw [zv0 hb,Int.toNat_natCast];rfl
  rw [e,Fx.len,zt2,ih1 _ h4];simp only;rw [ih2 _ h5];rfl
def starts:Fx→Nat→List Nat
 | .nil,_=>[]
 | .cons _ k m,p=>p::starts m (p+1+k.sz)
theorem starts_len (X:Fx):∀p,(starts X p).length=X.len:=by
 induction X with
 |nil=>intro p;rfl
 |cons L k m _ ih=>intro p;rw [starts,List.length_cons,ih,Fx.len]
theorem end_flat {xs:List (Int × List Nd)} {L:List Nd} {k m:Fx} {R:List (Int × List Nd)} {j:Nat} (h:xs.drop j=(Fx.cons L k m).flat++R) (hx:(Fx.cons L k m).okX) (hd:k.shape.depth≤3) (hj:j≤xs.length):endI xs.length (ends 1 1 ((rowO xs).drop j))=((j+1+k.sz:Nat):Int):=by
 have hx1:(Fx.cons L k .nil).okX:=⟨hx.1,hx.2.1,hx.2.2.1,hx.2.2.2.1,trivial⟩
 have e1:(rowO xs).drop j=rowO ((Fx.cons L k .nil).flat++(m.flat++R)):=by
  unfold rowO;rw [←List.map_drop,h];simp [Fx.flat]
 have e2:=take_flat (Fx.cons L k .nil) (m.flat++R) hx1;have e3:(Fx.cons L k .nil).len=1:=rfl;rw [e3] at e2;have hl:=congrArg List.length h;rw [List.length_drop,List.length_append,Fx.zt,Fx.sz] at hl;unfold ends;rw [e1,e2];have hdp:(Fx.cons L k .nil).shape.depth=k.shape.depth+1:=Fo.zq1 _;simp only;rw [if_pos (by omega),endI,zj7,List.length_append,Fx.zt];omega
theorem depth_cons {L:List Nd} {k m:Fx}:(Fx.cons L k m).shape.depth=max (k.shape.depth+1) m.shape.depth:=rfl
end Pl
end Go.Proofs.YtpggbphcbcogdaaGreatDoor
