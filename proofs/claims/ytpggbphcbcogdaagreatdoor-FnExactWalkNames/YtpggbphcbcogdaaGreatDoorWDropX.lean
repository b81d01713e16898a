import Derived.Test.YtpggbphcbcogdaaGreatDoorPlainFx
import Derived.Test.YtpggbphcbcogdaaGreatDoorMemItems
namespace Go.Proofs.YtpggbphcbcogdaaGreatDoor
namespace zn8
theorem zo {Is:List Pl.It} {p:Nat} {L:List Pl.Nd} {k m:Pl.Fx} {R:List (Int × List Pl.Nd)} (h:(Is.drop p).map Pl.It.r=(Pl.Fx.cons L k m).flat++R):∃x,Is[p]? =some x∧x.m=(k.len:Int)∧x.t.L=L∧(Is.drop (p+1)).map Pl.It.r=k.flat++(m.flat++R):=by
 rw [Pl.Fx.flat,List.cons_append] at h;cases hd:Is.drop p with
 |nil=>rw [hd] at h;cases h
 |cons x T=>
  rw [hd] at h;simp only [List.map_cons,List.cons.injEq] at h
  have hx:Is[p]? =some x:=by
   have :=List.getElem?_drop (xs:=Is) (i:=p) (j:=0);rw [hd] at this
   simpa using this.symm
  have hT:Is.drop (p+1)=T:=by rw [←List.drop_drop,hd];rfl
  refine ⟨x,hx,congrArg Prod.fst h.1,congrArg Prod.snd h.1,?_⟩;rw [hT,h.2,List.append_assoc]
theorem drop_more {Is:List Pl.It} {k:Pl.Fx}:∀ {p:Nat} {R:List (Int × List Pl.Nd)},(Is.drop p).map Pl.It.r=k.flat++R→(Is.drop (p+k.sz)).map Pl.It.r=R:=by
 intro p R h;rw [←List.drop_drop,List.map_drop,h,←Pl.Fx.zt,List.drop_left]
end zn8
end Go.Proofs.YtpggbphcbcogdaaGreatDoor
