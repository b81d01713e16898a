import Derived.Test.YtgdjjncmocppeaaGreatDoorG02
namespace Go.Proofs.YtgdjjncmocppeaaGreatDoor
open Go.RowKit
namespace Pl
def zc4 (Is:List It):List Value:=Is.flatMap (fun x=>[Value.int .i64 x.m,x.t.val])
theorem cellsI_app (A B:List It):zc4 (A++B)=zc4 A++zc4 B:=by simp [zc4]
theorem cellsI_at:∀ (Is:List It) (i:Nat) (x:It),Is[i]? =some x→(zc4 Is)[i*2]? =some (.int .i64 x.m)∧(zc4 Is)[i*2+1]? =some x.t.val:=by
 intro Is
 induction Is with
 |nil=>intro i x h;cases h
 |cons y Is ih=>
  intro i x h;have e:zc4 (y::Is)=Value.int .i64 y.m::y.t.val::zc4 Is:=rfl;cases i with
  |zero=>
   have e2:y=x:=by simpa using h
   subst e2;rw [e];exact ⟨rfl,rfl⟩
  |succ i=>
   have h2:Is[i]? =some x:=by simpa using h
   obtain ⟨h3,h4⟩:=ih i x h2;rw [e,show (i+1)*2=i*2+1+1 by omega];exact ⟨by simpa using h3,by simpa using h4⟩
end Pl
end Go.Proofs.YtgdjjncmocppeaaGreatDoor
