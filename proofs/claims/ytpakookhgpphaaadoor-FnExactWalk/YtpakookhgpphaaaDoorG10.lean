/- Several texts of one claim in one file: WPathsTo, WAtQ. -/
import Derived.Test.YtpakookhgpphaaaDoorG01
import Derived.Test.YtpakookhgpphaaaDoorG06
import Derived.Test.YtpakookhgpphaaaDoorG09
import Derived.RangeFuncNested
import Derived.RangeFuncBound
import Derived.RangeFuncCalls
import Derived.RangeFuncLeaves
import Derived.Shelf.Abstract
import Derived.Shelf.RegionOpen
import Derived.OwnWalkIn
import Derived.TacticsInMore
import Derived.LoopNIn
import Derived.LoopIn
import Derived.Test.YtpakookhgpphaaaDoorProg
import Derived.WalkSpells
import Derived.Lib.OthersKept
import Derived.Laws.RangeAny
namespace Go.Proofs.YtpakookhgpphaaaDoor
section
open Go.RowKit Go.Shelf
attribute [local go_sem] Oper.semAt_some
namespace Pl
def ways (L:List ByteArray) (k:Nat):List ByteArray:=(List.range k).map (fun i=>glue (L.take (i+1)))
theorem ways_succ (L:List ByteArray) (k:Nat):ways L (k+1)=ways L k++[glue (L.take (k+1))]:=by simp [ways,List.range_succ]
theorem ways_len (L:List ByteArray) (k:Nat):(ways L k).length=k:=by simp [ways]
end Pl
namespace WWays
def KC (X:Nat) (W W':World):Prop:=W.heap.size≤W'.heap.size∧∀ (j:Nat) (o:Obj),j≠X→W.heap[j]? =some o→o.isCells=true→W'.heap[j]? =some o
theorem KC.trans {X:Nat} {A B C:World} (h1:KC X A B) (h2:KC X B C):KC X A C:=⟨Nat.le_trans h1.1 h2.1,fun j o hj ho hc=>h2.2 j o hj (h1.2 j o hj ho hc) hc⟩
theorem KC.put {X l:Nat} (W:World) (o o':Obj) (hl:W.heap[l]? =some o) (ho:o.isCells=false):KC X W (W.putObj l o'):=by
 refine ⟨by simp,fun j p _ hp hc=>?_⟩;have hne:j≠l:=fun e=>by rw [e,hl] at hp;cases hp;rw [ho] at hc;cases hc
 exact (World.putObj_heap_other hne).trans hp
end WWays
namespace Mem
theorem texts_take {w:World} {a:Option Addr} {n cap:Nat} {L:List ByteArray} (h:zm w (.slice a n cap) L) (k:Nat) (hk:k≤L.length) (h0:0<k):zm w (.slice a k cap) (L.take k):=by
 rcases h with ⟨_,h2⟩|⟨b,o,cap',hv,hb,hc⟩
 ·subst h2;simp at hk;omega
 ·injection hv with e1 e2 e3
  subst e1;refine .inr ⟨b,o,cap,by rw [List.length_take,Nat.min_eq_left hk],hb,fun j t hj=>hc j t ?_⟩;rw [List.getElem?_take] at hj
  split at hj
  ·exact hj
  ·cases hj
theorem own_cap {w:World} {B T n cap:Nat} {a:Option Addr} {xs:List Value} (h:w.ownsRow B T 1 (.slice a n cap) n xs):n≤cap:=by
 rcases h.2 with ⟨hv,h0⟩|⟨g,cap',cur,hv,hb,hg,hc,rest⟩
 ·omega
 ·injection hv with e1 e2 e3
  omega
end Mem
namespace WWays
set_option maxRecDepth 100000 in
theorem paths_any (p:ByteArray) (w:World):Calls Tryd.prog 33 #[.string p] w fun e w'=>e= .returned (.func (.func 53) #[] #[.pointer (some ⟨w.heap.size,0,none⟩)])∧w'=w.alloc (.cells #[.string p] 9):=by
 have hmf:∀ (fn:Fn) (first cap:Array Value) (w:World),(Instr.makeFunc fn first cap).run Tryd.prog w= .ok (.func fn first cap) w:=fun _ _ _ _=>rfl;go_enter Tryd.func33,Tryd.ntmps33
 go_wp2
 go_ret
 exact ⟨rfl,rfl⟩
end WWays
end
section
open Go.RowKit
namespace WPick
structure AtQ (w W:World) (X:Nat) (vk:Value) (ks:List Nat) (o:Pl.Ot) (v vl:Value) (L:List ByteArray):Prop where
 lt:w.heap.size+1≤X
 bel:Below w.heap.size w W
 res:Mem.Blk W w.heap.size (cellsO ⟨false,Pl.zeroN,[]⟩ (.slice none 0 0)).toArray 71
 out:Mem.Blk W X (cellsO o v).toArray 71
 ownK:ownI W (w.heap.size+1) vk ks
 own:ownI W (w.heap.size+1) v o.parts
 txt:W.ownsRow (w.heap.size+1) 9 1 vl L.length (L.map Value.string)
 farK:vk.ownBlock≠some X
 far:v.ownBlock≠some X
 farT:vl.ownBlock≠some X
theorem AtQ.call {w W W':World} {X:Nat} {vk:Value} {ks:List Nat} {o:Pl.Ot} {v vl:Value} {L:List ByteArray} (h:AtQ w W X vk ks o v vl L) (b:Below W.heap.size W W'):AtQ w W' X vk ks o v vl L:=
 ⟨h.lt,h.bel.trans (b.mono h.bel.size),h.res.call b,h.out.call b,row_call h.ownK b,row_call h.own b,row_call h.txt b,h.farK,h.far,h.farT⟩
theorem row_set {w:World} {B e size n:Nat} {v:Value} {xs:List Value} (h:w.ownsRow B e size v n xs) (a:Addr) (u:Value) (ha:v.ownBlock≠some a.block):(w.setCell a u).ownsRow B e size v n xs:=by
 refine ⟨h.1,?_⟩
 rcases h.2 with h0|⟨g,cap,cur,rfl,hb,hg,rest⟩
 ·exact .inl h0
 ·exact .inr ⟨g,cap,cur,rfl,hb,(heap_setCell_other w a g u (fun e=>ha (by rw [←e];rfl))).trans hg,rest⟩
theorem AtQ.put {w W:World} {X:Nat} {vk:Value} {ks:List Nat} {o:Pl.Ot} {v vl:Value} {L:List ByteArray} (h:AtQ w W X vk ks o v vl L) {o':Pl.Ot} {v':Value} (own':ownI W (w.heap.size+1) v' o'.parts) (far':v'.ownBlock≠some X):
  AtQ w (((((((W.setCell ⟨X,0,none⟩ (.bool o'.ok)).setCell ⟨X,1,none⟩ (.string o'.node.path)).setCell ⟨X,2,none⟩ (.int .i64 o'.node.kind)).setCell ⟨X,3,none⟩ (.string o'.node.data)).setCell ⟨X,4,none⟩ (.int .i64 o'.node.time)).setCell ⟨X,5,none⟩ (.int .i64 o'.node.mark)).setCell ⟨X,6,none⟩ v') X vk ks o' v' vl L:=by
 have hx:w.heap.size≤X:=by have :=h.lt;omega
 have hne:w.heap.size≠X:=by have :=h.lt;omega
 refine ⟨h.lt,((((((h.bel.setCell (p:=⟨X,0,none⟩) hx _).setCell (p:=⟨X,1,none⟩) hx _).setCell (p:=⟨X,2,none⟩) hx _).setCell (p:=⟨X,3,none⟩) hx _).setCell (p:=⟨X,4,none⟩) hx _).setCell (p:=⟨X,5,none⟩) hx _).setCell (p:=⟨X,6,none⟩) hx _,((((((h.res.far ⟨X,0,none⟩ _ hne).far ⟨X,1,none⟩ _ hne).far ⟨X,2,none⟩ _ hne).far ⟨X,3,none⟩ _ hne).far ⟨X,4,none⟩ _ hne).far ⟨X,5,none⟩ _ hne).far ⟨X,6,none⟩ _ hne,?_,?_,?_,?_,h.farK,far',h.farT⟩
 ·have h2:=((((((h.out.put 0 (.bool o'.ok)).put 1 (.string o'.node.path)).put 2 (.int .i64 o'.node.kind)).put 3 (.string o'.node.data)).put 4 (.int .i64 o'.node.time)).put 5 (.int .i64 o'.node.mark)).put 6 v';simp only [List.setIfInBounds_toArray] at h2;exact h2
 ·exact row_set (row_set (row_set (row_set (row_set (row_set (row_set h.ownK _ _ h.farK) _ _ h.farK) _ _ h.farK) _ _ h.farK) _ _ h.farK) _ _ h.farK) _ _ h.farK
 ·exact row_set (row_set (row_set (row_set (row_set (row_set (row_set own' _ _ far') _ _ far') _ _ far') _ _ far') _ _ far') _ _ far') _ _ far'
 ·exact row_set (row_set (row_set (row_set (row_set (row_set (row_set h.txt _ _ h.farT) _ _ h.farT) _ _ h.farT) _ _ h.farT) _ _ h.farT) _ _ h.farT) _ _ h.farT
theorem AtQ.next {w W:World} {X:Nat} {vk:Value} {ks:List Nat} {o:Pl.Ot} {v vl:Value} {L:List ByteArray} (h:AtQ w W X vk ks o v vl L):AtQ w W X v o.parts o v vl L:=
 ⟨h.lt,h.bel,h.res,h.out,h.own,h.own,h.txt,h.far,h.far,h.farT⟩
theorem ownI_cells {W:World} {B:Nat} {v:Value} {ks:List Nat} (h:ownI W B v ks) (hk:ks≠[]):∃g cap,v= .slice (some ⟨g,0,none⟩) ks.length cap∧B≤g∧g<W.heap.size∧∀ (i k:Nat),ks[i]? =some k→W.cell? ⟨g,i,none⟩=some (.int .i64 (k:Int)):=by
 have hp:=List.length_pos_iff.2 hk
 rcases h.2 with ⟨_,h0⟩|⟨g,cap,cur,hv,hb,hg, -⟩
 ·omega
 subst hv;refine ⟨g,cap,rfl,hb,(Array.getElem?_eq_some_iff.1 hg).1,fun i k hi=>?_⟩;have :=World.ownsRow.cells h (g:=g) rfl i (.int .i64 (k:Int)) (by simp [intsV,hi]);rw [Mem.add_lit] at this;exact this
theorem ownI_new {W:World} {B:Nat} {v:Value} {ks:List Nat} (h:ownI W B v ks) {X:Nat} (hX:X<B):v.ownBlock≠some X:=fun e=>by have :=(World.ownsRow.lt h X e).1;omega
end WPick
namespace Pl
theorem way_get {L:List ByteArray} {j:Nat} (h:j<L.length):(ways L L.length)[j]? =some (glue (L.take (j+1))):=by simp [ways,h]
theorem way_join {L:List ByteArray} {j:Nat} {t:ByteArray} (hL:∀t∈L,zc8 t=true) (h:L[j]? =some t):joinN (glue (L.take j)) t=glue (L.take (j+1)):=by
 have h1:=List.getElem?_eq_some_iff.1 h;rw [joinN,names_glue (fun t ht=>hL t (List.mem_of_mem_take ht)),List.take_succ_eq_append_getElem h1.1,h1.2]
end Pl
end
end Go.Proofs.YtpakookhgpphaaaDoor
