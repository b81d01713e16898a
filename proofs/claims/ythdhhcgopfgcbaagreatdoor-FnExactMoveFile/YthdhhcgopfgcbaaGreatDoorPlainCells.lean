import Derived.Test.YthdhhcgopfgcbaaGreatDoorG11
namespace Go.Proofs.YthdhhcgopfgcbaaGreatDoor
open Go.RowKit
namespace Pl
def zd7 (Is:List It):List Value:=Is.flatMap (fun x=>[Value.int .i64 x.m,x.t.val])
theorem yg8 (Is:List It):(zd7 Is).length=Is.length*2:=by
 induction Is with
 |nil=>rfl
 |cons x Is ih=>rw [zd7,List.flatMap_cons,List.length_append,←zd7,ih,List.length_cons];simp;omega
theorem cellsI_app (A B:List It):zd7 (A++B)=zd7 A++zd7 B:=by simp [zd7]
theorem zu8:∀ (Is:List It) (i:Nat) (x:It),Is[i]? =some x→(zd7 Is)[i*2]? =some (.int .i64 x.m)∧(zd7 Is)[i*2+1]? =some x.t.val:=by
 intro Is
 induction Is with
 |nil=>intro i x h;cases h
 |cons y Is ih=>
  intro i x h;have e:zd7 (y::Is)=Value.int .i64 y.m::y.t.val::zd7 Is:=rfl;cases i with
  |zero=>
   have e2:y=x:=by simpa using h
   subst e2;rw [e];exact ⟨rfl,rfl⟩
  |succ i=>
   have h2:Is[i]? =some x:=by simpa using h
   obtain ⟨h3,h4⟩:=ih i x h2;rw [e,show (i+1)*2=i*2+1+1 by omega];exact ⟨by simpa using h3,by simpa using h4⟩
theorem yn2 (Is:List It):∀u∈zd7 Is,u.oneCell'=true:=by
 intro u hu;obtain ⟨x, -,hx⟩:=List.mem_flatMap.1 hu;simp only [List.mem_cons,List.not_mem_nil,or_false] at hx
 rcases hx with rfl |rfl <;> rfl
end Pl
end Go.Proofs.YthdhhcgopfgcbaaGreatDoor
