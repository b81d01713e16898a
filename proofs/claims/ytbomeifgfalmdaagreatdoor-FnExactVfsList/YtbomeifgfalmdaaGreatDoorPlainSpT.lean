import Derived.Test.YtbomeifgfalmdaaGreatDoorWSpI8
import Derived.Test.YtbomeifgfalmdaaGreatDoorMemOkR
namespace Go.Proofs.YtbomeifgfalmdaaGreatDoor
open Go.RowKit
namespace zb0
theorem each_ok {N N':List Pl.Ns} {K:Nat} (h:N'.map Pl.Ns.r=N.map Pl.Ns.r) (hp:∀x∈N,x.Is.length≤K∧∀t∈x.Is,t.t.L.length≤K∧∀n∈t.t.L,n.path.size≤K∧n.data.size≤K):∀x∈N',x.Is.length≤K∧∀t∈x.Is,t.t.L.length≤K∧∀n∈t.t.L,n.path.size≤K∧n.data.size≤K:=fun x hx=>by
 have :x.r∈N.map Pl.Ns.r:=by rw [←h];exact List.mem_map.2 ⟨x,hx,rfl⟩
 obtain ⟨y,hy,e⟩:=List.mem_map.1 this;have e2:y.Is.map Pl.It.r=x.Is.map Pl.It.r:=congrArg Prod.snd e;have e3:y.Is.length=x.Is.length:=by have :=congrArg List.length e2;simpa using this
 refine ⟨by rw [←e3];exact (hp y hy).1,fun t ht=>?_⟩;have h3:t.r∈y.Is.map Pl.It.r:=by rw [e2];exact List.mem_map.2 ⟨t,ht,rfl⟩
 obtain ⟨u,hu,e4⟩:=List.mem_map.1 h3;have e5:u.t.L=t.t.L:=congrArg Prod.snd e4;rw [←e5];exact (hp y hy).2 u hu
theorem SpT.ok {v W:World} {s s':Pl.Sp} {K:Nat} (T:SpT v W s s') (h:OkS s K):OkS s' K:=
 ⟨by rw [T.nl];exact h.n,by rw [T.m];exact h.m,by rw [T.h];exact h.h,each_ok T.n h.each,by rw [T.m];exact h.mp,by rw [T.h];exact h.hp⟩
theorem SpT.okN {v W:World} {s s':Pl.Sp} (T:SpT v W s s') (h:WSpI.OkN s):WSpI.OkN s':=⟨by rw [T.m];exact h.m,by rw [T.h];exact h.h⟩
theorem SpT.okA {v W:World} {s s':Pl.Sp} (T:SpT v W s s'):WSpI.OkA s':=
 ⟨.inr (by obtain ⟨g,h⟩:=T.am;exact ⟨g,0,h⟩), .inr (by obtain ⟨g,h⟩:=T.ah;exact ⟨g,0,h⟩),fun x hx=>by rw [(T.each x hx).1];exact Nat.le_refl _⟩
theorem SpT.nr {v W:World} {s s':Pl.Sp} (T:SpT v W s s'):s'.N.map WSp.nr=s.N.map WSp.nr:=by
 have e:WSp.nr=(fun y:Int × List (Int × List Pl.Nd)=>(y.1,(Pl.nest (Pl.rowO y.2)).isSome)) ∘ Pl.Ns.r:=rfl;rw [e,←List.map_map,←List.map_map,T.n]
theorem SpT.rows {v W:World} {s s':Pl.Sp} (T:SpT v W s s'):∀x∈s'.N,(∃g,x.a=some ⟨g,0,none⟩)∧∀t∈x.Is,Mem.okR t.t.a t.t.cap t.t.L:=fun x hx=>by
 obtain ⟨gi,gm,gh,B, -, -,h⟩:=T.has;obtain ⟨j,hj⟩:=List.getElem?_of_mem hx;obtain ⟨g,h1, -,h3⟩:=h.band j x hj;refine ⟨⟨g,h1⟩,fun t ht=>?_⟩;obtain ⟨i,hi⟩:=List.getElem?_of_mem ht;obtain ⟨q,h4, -⟩:=h3.each i t hi;exact .inr ⟨q,0,h4⟩
end zb0
end Go.Proofs.YtbomeifgfalmdaaGreatDoor
