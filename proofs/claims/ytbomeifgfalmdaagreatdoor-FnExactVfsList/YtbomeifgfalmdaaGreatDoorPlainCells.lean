import Derived.Test.YtbomeifgfalmdaaGreatDoorG02
namespace Go.Proofs.YtbomeifgfalmdaaGreatDoor
open Go.RowKit
namespace Pl
def zd2 (Is:List It):List Value:=Is.flatMap (fun x=>[Value.int .i64 x.m,x.t.val])
theorem cellsI_app (A B:List It):zd2 (A++B)=zd2 A++zd2 B:=by simp [zd2]
theorem cellsI_at:∀ (Is:List It) (i:Nat) (x:It),Is[i]? =some x→(zd2 Is)[i*2]? =some (.int .i64 x.m)∧(zd2 Is)[i*2+1]? =some x.t.val:=by
 intro Is
 induction Is with
 |nil=>intro i x h;cases h
 |cons y Is ih=>
  intro i x h;have e:zd2 (y::Is)=Value.int .i64 y.m::y.t.val::zd2 Is:=rfl;cases i with
  |zero=>
   have e2:y=x:=by simpa using h
   subst e2;rw [e];exact ⟨rfl,rfl⟩
  |succ i=>
   have h2:Is[i]? =some x:=by simpa using h
   obtain ⟨h3,h4⟩:=ih i x h2;rw [e,show (i+1)*2=i*2+1+1 by omega];exact ⟨by simpa using h3,by simpa using h4⟩
end Pl
end Go.Proofs.YtbomeifgfalmdaaGreatDoor
