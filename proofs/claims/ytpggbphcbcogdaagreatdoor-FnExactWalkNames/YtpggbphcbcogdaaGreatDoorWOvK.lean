import Derived.Test.YtpggbphcbcogdaaGreatDoorMemBlk
import Derived.Test.YtpggbphcbcogdaaGreatDoorWNodesI
namespace Go.Proofs.YtpggbphcbcogdaaGreatDoor
open Go.RowKit Go.Maps
namespace Pl
end Pl
namespace WOverI
def layV (b:Nat):Value:= .iface 57 (.map (some b))
theorem ze7 {w w':World} {B n:Nat} {T:TypeId} {v:Value} {xs:List Value} (h:w.ownsRow B T 1 v n xs) (b:Below w.heap.size w w'):w'.ownsRow B T 1 v n xs:=by
 refine ⟨h.1,?_⟩
 rcases h.2 with h0|⟨g,cap,cur,hv,hb,hg,rest⟩
 ·exact .inl h0
 ·exact .inr ⟨g,cap,cur,hv,hb,(b.block g (Array.getElem?_eq_some_iff.1 hg).1).trans hg,rest⟩
structure Ov (w:World) (B:Nat) (v:Value) (Bs:List Nat) (Ls:List (List Pl.Nd)):Prop where
 row:w.ownsRow B 113 1 v Bs.length (Bs.map layV)
 len:Bs.length=Ls.length
 maps:∀ (j:Nat) b L,Bs[j]? =some b→Ls[j]? =some L→B≤b∧w.ownsMap Tryz.prog 9 MapN.elem b 40 (MapN.mapOf L)
theorem Ov.call {w w':World} {B:Nat} {v:Value} {Bs:List Nat} {Ls:List (List Pl.Nd)} (h:Ov w B v Bs Ls) (b:Below w.heap.size w w'):Ov w' B v Bs Ls:=
 ⟨ze7 h.row b,h.len,fun j c L h1 h2=>⟨(h.maps j c L h1 h2).1,zk2.zk8 (h.maps j c L h1 h2).2 b⟩⟩
theorem map_not {w:World} {B b n m:Nat} {T:TypeId} {v:Value} {xs:List Value} {D:DataW Unit} (h:w.ownsRow B T 1 v n xs) (hm:w.ownsMap Tryz.prog 9 MapN.elem b m D):some b≠v.ownBlock:=fun e=>by
 obtain ⟨es,clock,h1,_⟩:=hm
 rcases h.2 with ⟨rfl,_⟩|⟨g,cap,cur,rfl,_,hg,_⟩
 ·cases e
 ·cases e
  rw [hg] at h1;cases h1
theorem Ov.put {w w':World} {B b:Nat} {v v':Value} {Bs:List Nat} {Ls:List (List Pl.Nd)} {L:List Pl.Nd} (h:Ov w B v Bs Ls) (hm:w.ownsMap Tryz.prog 9 MapN.elem b 40 (MapN.mapOf L)) (hb:B≤b)
  (hr:w'.ownsRow B 113 1 v' (Bs.length+1) (Bs.map layV++[layV b])) (hg:w.grownBy w' v.ownBlock):Ov w' B v' (Bs++[b]) (Ls++[L]):=by
 refine ⟨by simpa using hr,by simp [h.len],fun j c M h1 h2=>?_⟩;by_cases e:j<Bs.length
 ·rw [List.getElem?_append_left e] at h1;rw [List.getElem?_append_left (by rw [←h.len];exact e)] at h2;obtain ⟨h3,h4⟩:=h.maps j c M h1 h2;exact ⟨h3,h4.kept hg (map_not h.row h4)⟩
 ·rw [List.getElem?_append_right (by omega)] at h1;rw [List.getElem?_append_right (by rw [←h.len];omega)] at h2
  have e0:j - Bs.length=0:=by
   have :=(List.getElem?_eq_some_iff.1 h1).1;simp at this;omega
  rw [e0] at h1;rw [←h.len,e0] at h2;simp at h1 h2
  subst h1 h2;exact ⟨hb,hm.kept hg (map_not h.row hm)⟩
theorem infoL:(Tryz.prog.info? 113).map (fun i=>(i.zero,i.size,i.bytes))=some (some .nilIface,1,16):=by kernel_rfl
end WOverI
end Go.Proofs.YtpggbphcbcogdaaGreatDoor
