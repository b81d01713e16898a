/- Several texts of one claim in one file: PlainSub, PlainSubU. -/
import Derived.Test.YtonffldjbmednaaGreatDoorG29
import Derived.Test.YtonffldjbmednaaGreatDoorG35
import Derived.Lib.OthersKept
import Derived.Laws.RangeAny
import Derived.Test.YtonffldjbmednaaGreatDoorPlainUnmount
namespace Go.Proofs.YtonffldjbmednaaGreatDoor
section
open Go.RowKit
namespace Pl
structure Ao.Sub (A:Ao) (s:Sp):Prop where
 n:A.N.Sublist (s.N.map Ns.r)
 m:A.M.Sublist s.M
 h:A.H.Sublist s.H
theorem Ao.ill_sub (c:Int) (s:Sp):(Ao.ill c).Sub s:=⟨List.nil_sublist _,List.nil_sublist _,List.nil_sublist _⟩
end Pl
theorem _root_.Go.Proofs.YtonffldjbmednaaGreatDoor.zb.sub_ok {s u:Pl.Sp} {A:Pl.Ao} (hk:zb.OkS s 1048576) (hA:A.Sub s) (f:Pl.Fits u A):zb.OkS u 1048576:=by
 have e:u.N.length=A.N.length:=by have :=congrArg List.length f.n;simpa using this
 have e1:=hA.n.length_le;rw [List.length_map] at e1;refine ⟨by have :=hk.n;omega,by rw [f.m];exact Nat.le_trans hA.m.length_le hk.m,by rw [f.h];exact Nat.le_trans hA.h.length_le hk.h,fun x hx=>?_,fun x hx=>hk.mp x (hA.m.subset (by rw [←f.m];exact hx)),fun x hx=>hk.hp x (hA.h.subset (by rw [←f.h];exact hx))⟩;have h1:x.r∈s.N.map Pl.Ns.r:=hA.n.subset (by rw [←f.n];exact List.mem_map.2 ⟨x,hx,rfl⟩);obtain ⟨y,hy,e⟩:=List.mem_map.1 h1;have e2:y.Is.map Pl.It.r=x.Is.map Pl.It.r:=congrArg Prod.snd e;have e3:y.Is.length=x.Is.length:=by have :=congrArg List.length e2;simpa using this
 refine ⟨by rw [←e3];exact (hk.each y hy).1,fun t ht=>?_⟩;have h3:t.r∈y.Is.map Pl.It.r:=by rw [e2];exact List.mem_map.2 ⟨t,ht,rfl⟩
 obtain ⟨v,hv,e4⟩:=List.mem_map.1 h3;have e5:v.t.L=t.t.L:=congrArg Prod.snd e4;rw [←e5];exact (hk.each y hy).2 v hv
theorem _root_.Go.Proofs.YtonffldjbmednaaGreatDoor.WSpO.sub_sm {u:Pl.Sp} {A:Pl.Ao} (h:A.Small) (f:Pl.Fits u A):WSpO.Sm u:=by
 have e:u.N.length=A.N.length:=by have :=congrArg List.length f.n;simpa using this
 refine ⟨by rw [e];exact h.n,by rw [f.m];exact h.m,by rw [f.h];exact h.h,fun x hx=>?_⟩;have h2:x.r∈A.N:=by rw [←f.n];exact List.mem_map.2 ⟨x,hx,rfl⟩
 obtain ⟨k1,k2,k3⟩:=h.i _ h2;rw [show x.r.2=x.Is.map Pl.It.r from rfl,List.length_map] at k1 k2;exact ⟨k1,k2,fun t ht=>k3 t.r (List.mem_map.2 ⟨t,ht,rfl⟩)⟩
end
section
namespace Pl
theorem unmountA_sub (s:Sp) (p:ByteArray) (R:Bool):(unmountA s p R).Sub s:=by
 unfold unmountA
 split
 ·split
  ·exact Ao.ill_sub _ _
  ·exact ⟨List.filter_sublist,List.filter_sublist,List.Sublist.refl _⟩
 ·exact Ao.ill_sub _ _
end Pl
end
end Go.Proofs.YtonffldjbmednaaGreatDoor
