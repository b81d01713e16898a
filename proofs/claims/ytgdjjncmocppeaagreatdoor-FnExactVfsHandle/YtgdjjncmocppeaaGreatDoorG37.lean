/- Several texts of one claim in one file: PlainSpT, PlainVfs3. -/
import Derived.Test.YtgdjjncmocppeaaGreatDoorWSpI8
import Derived.Test.YtgdjjncmocppeaaGreatDoorMemOkR
namespace Go.Proofs.YtgdjjncmocppeaaGreatDoor
section
open Go.RowKit
namespace za8
theorem each_ok {N N':List Pl.Ns} {K:Nat} (h:N'.map Pl.Ns.r=N.map Pl.Ns.r) (hp:∀x∈N,x.Is.length≤K∧∀t∈x.Is,t.t.L.length≤K∧∀n∈t.t.L,n.path.size≤K∧n.data.size≤K):∀x∈N',x.Is.length≤K∧∀t∈x.Is,t.t.L.length≤K∧∀n∈t.t.L,n.path.size≤K∧n.data.size≤K:=fun x hx=>by
 have :x.r∈N.map Pl.Ns.r:=by rw [←h];exact List.mem_map.2 ⟨x,hx,rfl⟩
 obtain ⟨y,hy,e⟩:=List.mem_map.1 this;have e2:y.Is.map Pl.It.r=x.Is.map Pl.It.r:=congrArg Prod.snd e;have e3:y.Is.length=x.Is.length:=by have :=congrArg List.length e2;simpa using this
 refine ⟨by rw [←e3];exact (hp y hy).1,fun t ht=>?_⟩;have h3:t.r∈y.Is.map Pl.It.r:=by rw [e2];exact List.mem_map.2 ⟨t,ht,rfl⟩
 obtain ⟨u,hu,e4⟩:=List.mem_map.1 h3;have e5:u.t.L=t.t.L:=congrArg Prod.snd e4;rw [←e5];exact (hp y hy).2 u hu
theorem SpT.ok {v W:World} {s s':Pl.Sp} {K:Nat} (T:SpT v W s s') (h:OkS s K):OkS s' K:=
 ⟨by rw [T.nl];exact h.n,by rw [T.m];exact h.m,by rw [T.h];exact h.h,each_ok T.n h.each,by rw [T.m];exact h.mp,by rw [T.h];exact h.hp⟩
theorem SpT.okN {v W:World} {s s':Pl.Sp} (T:SpT v W s s') (h:WSpI.OkN s):WSpI.OkN s':=⟨by rw [T.m];exact h.m,by rw [T.h];exact h.h⟩
theorem SpT.okA {v W:World} {s s':Pl.Sp} (T:SpT v W s s'):WSpI.OkA s':=
 ⟨.inr (by obtain ⟨g,h⟩:=T.am;exact ⟨g,0,h⟩), .inr (by obtain ⟨g,h⟩:=T.ah;exact ⟨g,0,h⟩),fun x hx=>by rw [(T.each x hx).1];exact Nat.le_refl _⟩
theorem SpT.nr {v W:World} {s s':Pl.Sp} (T:SpT v W s s'):s'.N.map WSp.nr=s.N.map WSp.nr:=by
 have e:WSp.nr=(fun y:Int × List (Int × List Pl.Nd)=>(y.1,(Pl.nest (Pl.rowO y.2)).isSome)) ∘ Pl.Ns.r:=rfl;rw [e,←List.map_map,←List.map_map,T.n]
theorem SpT.rows {v W:World} {s s':Pl.Sp} (T:SpT v W s s'):∀x∈s'.N,(∃g,x.a=some ⟨g,0,none⟩)∧∀t∈x.Is,Mem.okR t.t.a t.t.cap t.t.L:=fun x hx=>by
 obtain ⟨gi,gm,gh,B, -, -,h⟩:=T.has;obtain ⟨j,hj⟩:=List.getElem?_of_mem hx;obtain ⟨g,h1, -,h3⟩:=h.band j x hj;refine ⟨⟨g,h1⟩,fun t ht=>?_⟩;obtain ⟨i,hi⟩:=List.getElem?_of_mem ht;obtain ⟨q,h4, -⟩:=h3.each i t hi;exact .inr ⟨q,0,h4⟩
end za8
end
section
namespace Pl
theorem hand_inst {next :Int} {N:List Ns} {M:List Mn} {H:List Hn} (h:zb6 next (N.map WSp.nr) M H wayB=true) {k:Nat} {t:Hn} (ht:H[k]? =some t):
  (za0 t.p=true∧¬t.p.size=0)∧∃ (j:Nat) (x:Ns),N[j]? =some x∧x.d=t.i∧zm7 (N.map Ns.r) t.i=some (x.Is.map It.r)∧zc6 (N.map (·.d)) t.i=(j:Int):=by
 have hs:wayB t.p=true∧¬zc6 (N.map (·.d)) t.i<0:=by
  unfold zb6 at h;simp only [Bool.and_eq_true] at h;have h1:=h.1.1.2;unfold zm5 at h1;simp only [Bool.and_eq_true] at h1;have h2:=h1.2;rw [List.all_eq_true] at h2;have h3:=h2 k (List.mem_range.2 (List.getElem?_eq_some_iff.1 ht).1);rw [stepH_eq ht] at h3;simp only [Bool.and_eq_true,Bool.not_eq_true',decide_eq_false_iff_not] at h3;refine ⟨h3.2,?_⟩;have h4:=h3.1.2;rw [List.map_map] at h4;exact h4
 obtain ⟨hw,hd⟩:=hs;unfold wayB at hw;simp only [Bool.and_eq_true,decide_eq_true_eq] at hw;obtain ⟨j,hj⟩:∃j:Nat,zc6 (N.map (·.d)) t.i=(j:Int):=⟨(zc6 (N.map (·.d)) t.i).toNat,by omega⟩;obtain ⟨x,h1,h2⟩:=(nestAt_inst N t.i).2 j hj;refine ⟨⟨hw.2,hw.1⟩,j,x,h1,?_,h2,hj⟩;have :=instI_get hj;rw [List.getElem?_map,h1] at this
 simpa using this
theorem vhand_yes {s:Sp} {d:Int} {k:Nat} {t:Hn} {x:Ns} (hk:handI s.H d=(k:Int)) (ht:s.H[k]? =some t) (hx:zm7 (s.N.map Ns.r) t.i=some (x.Is.map It.r)):vhandA s d true=zo (zi (x.Is.map It.r) t.p):=by
 unfold vhandA handO;rw [if_pos rfl,if_neg (by omega),hk,Int.toNat_natCast,ht];simp only [sightW,hx]
theorem vhand_no {s:Sp} {d:Int} (hk:handI s.H d<0):vhandA s d true=Ao.ill 6:=by
 unfold vhandA;rw [if_pos rfl,if_pos hk]
theorem vhand_ill (s:Sp) (d:Int):vhandA s d false=Ao.ill 1:=rfl
end Pl
end
end Go.Proofs.YtgdjjncmocppeaaGreatDoor
