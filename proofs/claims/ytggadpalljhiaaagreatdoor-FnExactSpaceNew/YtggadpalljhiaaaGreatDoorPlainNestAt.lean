import Derived.Test.YtggadpalljhiaaaGreatDoorG05
import Derived.Test.YtggadpalljhiaaaGreatDoorG07
import Derived.Test.YtggadpalljhiaaaGreatDoorG03
import Derived.Laws.AppendOwn
namespace Go.Proofs.YtggadpalljhiaaaGreatDoor
namespace Pl
def zt1:List (Int × List (Int × List Nd))→Int→Option (List (Int × List Nd))
 | [],_=>none
 |x::r,d=>if x.1=d then some x.2 else zt1 r d
theorem nestAt_get {P:Nv→Ns→Prop}:∀ (E:List (Int × Nv)) (N:List Ns) (d:Int),E.map (·.1)=N.map (·.d)→(∀ (i:Nat) y,E[i]? =some y→∃x,N[i]? =some x∧P y.2 x)→(d∉E.map (·.1)→zt1 (N.map Ns.r) d=none)∧(d∈E.map (·.1)→∃x,zt1 (N.map Ns.r) d=some (x.Is.map It.r)∧P (getN E d) x∧x∈N):=by
 intro E
 induction E with
 |nil=>
  intro N d h _;have :N=[]:=by cases N with |nil=>rfl |cons a b=>simp at h
  subst this;exact ⟨fun _=>rfl,fun h=>by simp at h⟩
 |cons y E ih=>
  intro N d h hP;cases N with
  |nil=>simp at h
  |cons x N=>
   simp only [List.map_cons,List.cons.injEq] at h;obtain ⟨h1,h2⟩:=h
   obtain ⟨i1,i2⟩:=ih N d h2 (fun i z hz=>by
    obtain ⟨x',k1,k2⟩:=hP (i+1) z (by simpa using hz)
    exact ⟨x',by simpa using k1,k2⟩)
   simp only [List.map_cons,zt1,List.mem_cons];by_cases e:y.1=d
   ·have e2:x.r.1=d:=by show x.d=d;rw [←h1];exact e
    rw [if_pos e2];refine ⟨fun hn=>absurd (Or.inl e.symm) hn,fun _=>?_⟩;obtain ⟨x',k1,k2⟩:=hP 0 y rfl;simp at k1
    subst k1;refine ⟨x,rfl,?_, .inl rfl⟩;unfold getN;rw [List.find?_cons,decide_eq_true e];exact k2
   ·have e2:¬x.r.1=d:=by show ¬x.d=d;rw [←h1];exact e
    rw [if_neg e2];refine ⟨fun hn=>i1 (fun hm=>hn (.inr hm)),fun hm=>?_⟩
    rcases hm with hm|hm
    ·exact absurd hm.symm e
    obtain ⟨x',k1,k2,k3⟩:=i2 hm;refine ⟨x',k1,?_, .inr k3⟩;unfold getN at k2 ⊢;rw [List.find?_cons,decide_eq_false e];exact k2
theorem nest_small {xs:List (Int × List Nd)} (h:(nest (rowO xs)).isSome=true):xs.length≤12∧xs.length≠0∧∀x∈xs,x.2.length≤40:=by
 cases hF:nest (rowO xs) with
 |none=>rw [hF] at h;cases h
 |some F=>
  obtain ⟨L,k, -,hfl,hko, -⟩:=nest_fill hF;refine ⟨nest_len hF,?_,fun x hx=>?_⟩
  ·rw [←hfl];simp [Fx.flat]
  ·rw [←hfl] at hx;have :=(Fx.ok_mem hko x hx).1;unfold ze2 at this;exact of_decide_eq_true ((Bool.and_eq_true _ _).mp this).1
end Pl
end Go.Proofs.YtggadpalljhiaaaGreatDoor
