/- Several texts of one claim in one file: PlainSub, PlainOpenK. -/
import Derived.Test.YtkighhofjmginaaGreatDoorG23
import Derived.Test.YtkighhofjmginaaGreatDoorG18
namespace Go.Proofs.YtkighhofjmginaaGreatDoor
section
open Go.RowKit
namespace Pl
structure Ao.Sub (A:Ao) (s:Sp):Prop where
 n:A.N.Sublist (s.N.map Ns.r)
 m:A.M.Sublist s.M
 h:A.H.Sublist s.H
theorem Ao.ill_sub (c:Int) (s:Sp):(Ao.ill c).Sub s:=⟨List.nil_sublist _,List.nil_sublist _,List.nil_sublist _⟩
end Pl
theorem _root_.Go.Proofs.YtkighhofjmginaaGreatDoor.zb0.sub_ok {s u:Pl.Sp} {A:Pl.Ao} (hk:zb0.OkS s 1048576) (hA:A.Sub s) (f:Pl.Fits u A):zb0.OkS u 1048576:=by
 have e:u.N.length=A.N.length:=by have :=congrArg List.length f.n;simpa using this
 have e1:=hA.n.length_le;rw [List.length_map] at e1;refine ⟨by have :=hk.n;omega,by rw [f.m];exact Nat.le_trans hA.m.length_le hk.m,by rw [f.h];exact Nat.le_trans hA.h.length_le hk.h,fun x hx=>?_,fun x hx=>hk.mp x (hA.m.subset (by rw [←f.m];exact hx)),fun x hx=>hk.hp x (hA.h.subset (by rw [←f.h];exact hx))⟩;have h1:x.r∈s.N.map Pl.Ns.r:=hA.n.subset (by rw [←f.n];exact List.mem_map.2 ⟨x,hx,rfl⟩);obtain ⟨y,hy,e⟩:=List.mem_map.1 h1;have e2:y.Is.map Pl.It.r=x.Is.map Pl.It.r:=congrArg Prod.snd e;have e3:y.Is.length=x.Is.length:=by have :=congrArg List.length e2;simpa using this
 refine ⟨by rw [←e3];exact (hk.each y hy).1,fun t ht=>?_⟩;have h3:t.r∈y.Is.map Pl.It.r:=by rw [e2];exact List.mem_map.2 ⟨t,ht,rfl⟩
 obtain ⟨v,hv,e4⟩:=List.mem_map.1 h3;have e5:v.t.L=t.t.L:=congrArg Prod.snd e4;rw [←e5];exact (hk.each y hy).2 v hv
theorem _root_.Go.Proofs.YtkighhofjmginaaGreatDoor.WSpO.sub_sm {u:Pl.Sp} {A:Pl.Ao} (h:A.Small) (f:Pl.Fits u A):WSpO.Sm u:=by
 have e:u.N.length=A.N.length:=by have :=congrArg List.length f.n;simpa using this
 refine ⟨by rw [e];exact h.n,by rw [f.m];exact h.m,by rw [f.h];exact h.h,fun x hx=>?_⟩;have h2:x.r∈A.N:=by rw [←f.n];exact List.mem_map.2 ⟨x,hx,rfl⟩
 obtain ⟨k1,k2,k3⟩:=h.i _ h2;rw [show x.r.2=x.Is.map Pl.It.r from rfl,List.length_map] at k1 k2;exact ⟨k1,k2,fun t ht=>k3 t.r (List.mem_map.2 ⟨t,ht,rfl⟩)⟩
end
section
open Go.RowKit
theorem _root_.Go.Proofs.YtkighhofjmginaaGreatDoor.Pl.right_short {p:ByteArray} (h:Pl.za0 p=true):p.size≤200:=by
 by_cases h2:200<p.size
 ·rw [Pl.zn0 h2] at h;cases h
 ·omega
theorem _root_.Go.Proofs.YtkighhofjmginaaGreatDoor.zb0.open_ok {s u:Pl.Sp} {p:ByteArray} {R:Bool} {A:Pl.Ao} (hk:zb0.OkS s 1048576) (hR:R=true→s.H.length≤6) (hA:Pl.zp1 s p R=A) (f:Pl.Fits u A):zb0.OkS u 1048576:=by
 have ill:∀c,Pl.Ao.ill c=A→zb0.OkS u 1048576:=fun c h=>zb0.sub_ok hk (h ▸ Pl.Ao.ill_sub c s) f;unfold Pl.zp1 at hA
 split at hA
 ·rename_i h0
  have hr:Pl.za0 p=true∧R=true:=by
   rcases Pl.zs8 p R with ⟨-,h1,h2⟩|h1|h1
   ·exact ⟨h2,h1⟩
   ·rw [h1] at h0;cases h0
   ·rw [h1] at h0;cases h0
  split at hA
  ·subst hA;have e:u.N.length=s.N.length:=by have :=congrArg List.length f.n;simpa using this
   have eh:u.H=s.H++[⟨s.next,(Pl.ze1 (Pl.uR p) s.M s.M.length).i,Pl.rest p (Pl.ze1 (Pl.uR p) s.M s.M.length).p⟩]:=f.h;refine ⟨by rw [e];exact hk.n,by rw [f.m];exact hk.m,by rw [eh,List.length_append];have :=hR hr.2;show s.H.length+1≤_;omega,zb0.each_ok f.n hk.each,by rw [f.m];exact hk.mp,fun x hx=>?_⟩;rw [eh] at hx
   rcases List.mem_append.1 hx with h|h
   ·exact hk.hp x h
   ·rw [List.mem_singleton.1 h];have :=Pl.right_short (Pl.yf hr.1 (Pl.ze1 (Pl.uR p) s.M s.M.length).p);show (Pl.rest p _).size≤_;omega
  ·exact ill _ hA
 ·exact ill _ hA
end
end Go.Proofs.YtkighhofjmginaaGreatDoor
