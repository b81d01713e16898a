import Derived.Test.YtpggbphcbcogdaaGreatDoorPlainGlue
import Derived.WalkKit
import Derived.Laws.IdiomStrings
namespace Go.Proofs.YtpggbphcbcogdaaGreatDoor
namespace Pl
theorem zh6:∀a b:List UInt8,a≠b→Op.bytesLess a b= !Op.bytesLess b a:=by
 intro a
 induction a with
 |nil=>intro b h;cases b with
  |nil=>exact absurd rfl h
  |cons c b=>rfl
 |cons x a ih=>
  intro b h;cases b with
  |nil=>rfl
  |cons y b=>
   simp only [Op.bytesLess];by_cases hxy:x=y
   ·subst hxy;have hab:a≠b:=fun e=>h (by rw [e]);rw [ih b hab];simp
   ·have h1:(x==y)=false:=by simpa using hxy
    have h2:(y==x)=false:=by simpa using fun e:y=x=>hxy e.symm
    rw [h1,h2];simp only [Bool.false_and,Bool.or_false];by_cases hlt:x<y
    ·have :¬y<x:=by rw [UInt8.lt_iff_toNat_lt] at hlt ⊢;omega
     simp [hlt,this]
    ·have :y<x:=by
      rw [UInt8.lt_iff_toNat_lt] at hlt ⊢;have :x.toNat≠y.toNat:=fun e=>hxy (UInt8.toNat_inj.1 e);omega
     simp [hlt,this]
theorem glue_one (n:ByteArray):glue [n]=n:=by apply zh7;rw [zk3];rfl
end Pl
end Go.Proofs.YtpggbphcbcogdaaGreatDoor
