import Derived.Test.YtpggbphcbcogdaaGreatDoorWPathsTo
import Derived.Test.YtpggbphcbcogdaaGreatDoorWChildA
namespace Go.Proofs.YtpggbphcbcogdaaGreatDoor
open Go.RowKit
namespace zf3
structure AtQ (w W:World) (X:Nat) (vk:Value) (ks:List Nat) (o:Pl.Ot) (v vl:Value) (L:List ByteArray):Prop where
 lt:w.heap.size+1≤X
 bel:Below w.heap.size w W
 res:Mem.Blk W w.heap.size (za5 ⟨false,Pl.za3,[]⟩ (.slice none 0 0)).toArray 75
 out:Mem.Blk W X (za5 o v).toArray 75
 ownK:ownI W (w.heap.size+1) vk ks
 own:ownI W (w.heap.size+1) v o.parts
 txt:W.ownsRow (w.heap.size+1) 9 1 vl L.length (L.map Value.string)
 farK:vk.ownBlock≠some X
 far:v.ownBlock≠some X
 farT:vl.ownBlock≠some X
theorem AtQ.call {w W W':World} {X:Nat} {vk:Value} {ks:List Nat} {o:Pl.Ot} {v vl:Value} {L:List ByteArray} (h:AtQ w W X vk ks o v vl L) (b:Below W.heap.size W W'):AtQ w W' X vk ks o v vl L:=
 ⟨h.lt,h.bel.trans (b.mono h.bel.size),h.res.call b,h.out.call b,ze7 h.ownK b,ze7 h.own b,ze7 h.txt b,h.farK,h.far,h.farT⟩
theorem zc9 {w:World} {B e size n:Nat} {v:Value} {xs:List Value} (h:w.ownsRow B e size v n xs) (a:Addr) (u:Value) (ha:v.ownBlock≠some a.block):(w.setCell a u).ownsRow B e size v n xs:=by
 refine ⟨h.1,?_⟩
 rcases h.2 with h0|⟨g,cap,cur,rfl,hb,hg,rest⟩
 ·exact .inl h0
 ·exact .inr ⟨g,cap,cur,rfl,hb,(heap_setCell_other w a g u (fun e=>ha (by rw [←e];rfl))).trans hg,rest⟩
theorem AtQ.put {w W:World} {X:Nat} {vk:Value} {ks:List Nat} {o:Pl.Ot} {v vl:Value} {L:List ByteArray} (h:AtQ w W X vk ks o v vl L) {o':Pl.Ot} {v':Value} (own':ownI W (w.heap.size+1) v' o'.parts) (far':v'.ownBlock≠some X):
  AtQ w (((((((W.setCell ⟨X,0,none⟩ (.bool o'.ok)).setCell ⟨X,1,none⟩ (.string o'.node.path)).setCell ⟨X,2,none⟩ (.int .i64 o'.node.kind)).setCell ⟨X,3,none⟩ (.string o'.node.data)).setCell ⟨X,4,none⟩ (.int .i64 o'.node.time)).setCell ⟨X,5,none⟩ (.int .i64 o'.node.mark)).setCell ⟨X,6,none⟩ v') X vk ks o' v' vl L:=by
 have hx:w.heap.size≤X:=by have :=h.lt;omega
 have hne:w.heap.size≠X:=by have :=h.lt;omega
 refine ⟨h.lt,((((((h.bel.setCell (p:=⟨X,0,none⟩) hx _).setCell (p:=⟨X,1,none⟩) hx _).setCell (p:=⟨X,2,none⟩) hx _).setCell (p:=⟨X,3,none⟩) hx _).setCell (p:=⟨X,4,none⟩) hx _).setCell (p:=⟨X,5,none⟩) hx _).setCell (p:=⟨X,6,none⟩) hx _,((((((h.res.far ⟨X,0,none⟩ _ hne).far ⟨X,1,none⟩ _ hne).far ⟨X,2,none⟩ _ hne).far ⟨X,3,none⟩ _ hne).far ⟨X,4,none⟩ _ hne).far ⟨X,5,none⟩ _ hne).far ⟨X,6,none⟩ _ hne,?_,?_,?_,?_,h.farK,far',h.farT⟩
 ·have h2:=((((((h.out.put 0 (.bool o'.ok)).put 1 (.string o'.node.path)).put 2 (.int .i64 o'.node.kind)).put 3 (.string o'.node.data)).put 4 (.int .i64 o'.node.time)).put 5 (.int .i64 o'.node.mark)).put 6 v';simp only [List.setIfInBounds_toArray] at h2;exact h2
 ·exact zc9 (zc9 (zc9 (zc9 (zc9 (zc9 (zc9 h.ownK _ _ h.farK) _ _ h.farK) _ _ h.farK) _ _ h.farK) _ _ h.farK) _ _ h.farK) _ _ h.farK
 ·exact zc9 (zc9 (zc9 (zc9 (zc9 (zc9 (zc9 own' _ _ far') _ _ far') _ _ far') _ _ far') _ _ far') _ _ far') _ _ far'
 ·exact zc9 (zc9 (zc9 (zc9 (zc9 (zc9 (zc9 h.txt _ _ h.farT) _ _ h.farT) _ _ h.farT) _ _ h.farT) _ _ h.farT) _ _ h.farT) _ _ h.farT
theorem AtQ.next {w W:World} {X:Nat} {vk:Value} {ks:List Nat} {o:Pl.Ot} {v vl:Value} {L:List ByteArray} (h:AtQ w W X vk ks o v vl L):AtQ w W X v o.parts o v vl L:=
 ⟨h.lt,h.bel,h.res,h.out,h.own,h.own,h.txt,h.far,h.far,h.farT⟩
theorem zx4 {W:World} {B:Nat} {v:Value} {ks:List Nat} (h:ownI W B v ks) (hk:ks≠[]):∃g cap,v= .slice (some ⟨g,0,none⟩) ks.length cap∧B≤g∧g<W.heap.size∧∀ (i k:Nat),ks[i]? =some k→W.cell? ⟨g,i,none⟩=some (.int .i64 (k:Int)):=by
 have hp:=List.length_pos_iff.2 hk
 rcases h.2 with ⟨_,h0⟩|⟨g,cap,cur,hv,hb,hg, -⟩
 ·omega
 subst hv;refine ⟨g,cap,rfl,hb,(Array.getElem?_eq_some_iff.1 hg).1,fun i k hi=>?_⟩;have :=World.ownsRow.cells h (g:=g) rfl i (.int .i64 (k:Int)) (by simp [intsV,hi]);rw [Mem.add_lit] at this;exact this
theorem ownI_new {W:World} {B:Nat} {v:Value} {ks:List Nat} (h:ownI W B v ks) {X:Nat} (hX:X<B):v.ownBlock≠some X:=fun e=>by have :=(World.ownsRow.lt h X e).1;omega
end zf3
namespace Pl
theorem way_get {L:List ByteArray} {j:Nat} (h:j<L.length):(ways L L.length)[j]? =some (glue (L.take (j+1))):=by simp [ways,h]
theorem way_join {L:List ByteArray} {j:Nat} {t:ByteArray} (hL:∀t∈L,zb4 t=true) (h:L[j]? =some t):ze8 (glue (L.take j)) t=glue (L.take (j+1)):=by
 have h1:=List.getElem?_eq_some_iff.1 h;rw [ze8,zi4 (fun t ht=>hL t (List.mem_of_mem_take ht)),List.take_succ_eq_append_getElem h1.1,h1.2]
end Pl
end Go.Proofs.YtpggbphcbcogdaaGreatDoor
