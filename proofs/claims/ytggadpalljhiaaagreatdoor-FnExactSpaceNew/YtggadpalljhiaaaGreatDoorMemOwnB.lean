import Derived.Test.YtggadpalljhiaaaGreatDoorG10
import Derived.Test.YtggadpalljhiaaaGreatDoorG29
import Derived.Test.YtggadpalljhiaaaGreatDoorG33
namespace Go.Proofs.YtggadpalljhiaaaGreatDoor
open Go.RowKit
namespace Mem
structure OwnB (W:World) (B H g:Nat) (Is:List Pl.It):Prop where
 o:OwnI W B g Is
 gH:g<H
 hH:∀x∈Is,∀h,x.t.a=some ⟨h,0,none⟩→h<H
theorem OwnB.same {W W':World} {B H g:Nat} {Is:List Pl.It} (h:OwnB W B H g Is) (hs:W.heap.size≤W'.heap.size) (hb:∀b,B≤b→b<H→b<W.heap.size→W'.heap[b]? =W.heap[b]?):OwnB W' B H g Is:=by
 obtain ⟨⟨⟨cur,h1,h2⟩,h3,h4,h5,h6⟩,h7,h8⟩:=h;have hg:=hb g h3 h7 (Array.getElem?_eq_some_iff.1 h1).1;refine ⟨⟨⟨cur,hg.trans h1,h2⟩,h3,fun i x hx=>?_,fun i x hx=>?_,h6⟩,h7,h8⟩
 ·obtain ⟨⟨b,o,e,k1,k2,k3⟩,k4⟩:=h4 i x hx;cases e
  refine ⟨⟨g,0,rfl,by omega,(WMkJ.zf0 hg).trans k2,(WMkJ.zf0 hg).trans k3⟩,fun j n hn=>?_⟩;obtain ⟨q,p,m1,m2,m3,m4,m5,m6,m7⟩:=k4 j n hn
  rcases h5 i x hx with ⟨e, -⟩|⟨q',c,e,e2,e3,e4,e5⟩
  ·rw [e] at m1;cases m1
  ·rw [e] at m1;cases m1
   have hq:=hb q e2 (h8 x (List.mem_of_getElem? hx) q e) m2;exact ⟨q,0,e,by omega,(WMkJ.zf0 hq).trans m3,(WMkJ.zf0 hq).trans m4,(WMkJ.zf0 hq).trans m5,(WMkJ.zf0 hq).trans m6,(WMkJ.zf0 hq).trans m7⟩
 ·rcases h5 i x hx with e|⟨q',c,e,e2,e3,e4,e5⟩
  ·exact .inl e
  ·exact .inr ⟨q',c,e,e2,e3,(hb q' e2 (h8 x (List.mem_of_getElem? hx) q' e) (Array.getElem?_eq_some_iff.1 e4).1).trans e4,e5⟩
theorem Ib.own {W:World} {L H:Nat} {a:Option Addr} {cap:Nat} {Is:List Pl.It} (h:Ib W L H (.slice a Is.length cap) Is) (hn:Is.length≠0):∃g,a=some ⟨g,0,none⟩∧OwnB W L H g Is:=by
 obtain ⟨g,c,e, -⟩:=h.io.there hn;cases e
 refine ⟨g,rfl,h.io.own,h.h1 g rfl,fun x hx q hq=>?_⟩;obtain ⟨i,hi⟩:=List.getElem?_of_mem hx;exact h.h2 i x hi q (by unfold Pl.Tr.val;rw [hq];rfl)
theorem OwnB.marks {W:World} {B H g K:Nat} {Is:List Pl.It} (o:OwnI W B g (Pl.mkTo K Is Is.length)) (gH:g<H) (hH:∀x∈Is,∀h,x.t.a=some ⟨h,0,none⟩→h<H):OwnB W B H g (Pl.mkTo K Is Is.length):=
 ⟨o,gH,fun x hx q hq=>by
  obtain ⟨i,hi⟩:=List.getElem?_of_mem hx;rw [Pl.zq8,Option.map_eq_some_iff] at hi;obtain ⟨y,hy,e⟩:=hi;have hl:=(List.getElem?_eq_some_iff.1 hy).1;rw [if_pos hl] at e;subst e
  exact hH y (List.mem_of_getElem? hy) q hq⟩
end Mem
end Go.Proofs.YtggadpalljhiaaaGreatDoor
