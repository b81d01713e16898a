import Derived.Test.YtpggbphcbcogdaaGreatDoorPlainGlue
import Derived.Test.YtpggbphcbcogdaaGreatDoorMemBlk
import Derived.Test.YtpggbphcbcogdaaGreatDoorMemTexts
import Derived.RangeFuncNested
import Derived.RangeFuncBound
import Derived.RangeFuncCalls
import Derived.RangeFuncLeaves
import Derived.Shelf.Abstract
import Derived.Shelf.RegionOpen
import Derived.OwnWalkIn
import Derived.TacticsInMore
import Derived.LoopNIn
import Derived.LoopIn
import Derived.Test.YtpggbphcbcogdaaGreatDoorProg
import Derived.WalkSpells
import Derived.Lib.OthersKept
import Derived.Laws.RangeAny
namespace Go.Proofs.YtpggbphcbcogdaaGreatDoor
open Go.RowKit Go.Shelf
attribute [local go_sem] Oper.semAt_some
namespace Pl
def ways (L:List ByteArray) (k:Nat):List ByteArray:=(List.range k).map (fun i=>glue (L.take (i+1)))
theorem zt0 (L:List ByteArray) (k:Nat):ways L (k+1)=ways L k++[glue (L.take (k+1))]:=by simp [ways,List.range_succ]
theorem zi0 (L:List ByteArray) (k:Nat):(ways L k).length=k:=by simp [ways]
end Pl
namespace zj8
def KC (X:Nat) (W W':World):Prop:=W.heap.size≤W'.heap.size∧∀ (j:Nat) (o:Obj),j≠X→W.heap[j]? =some o→o.isCells=true→W'.heap[j]? =some o
theorem KC.trans {X:Nat} {A B C:World} (h1:KC X A B) (h2:KC X B C):KC X A C:=⟨Nat.le_trans h1.1 h2.1,fun j o hj ho hc=>h2.2 j o hj (h1.2 j o hj ho hc) hc⟩
theorem KC.put {X l:Nat} (W:World) (o o':Obj) (hl:W.heap[l]? =some o) (ho:o.isCells=false):KC X W (W.putObj l o'):=by
 refine ⟨by simp,fun j p _ hp hc=>?_⟩;have hne:j≠l:=fun e=>by rw [e,hl] at hp;cases hp;rw [ho] at hc;cases hc
 exact (World.putObj_heap_other hne).trans hp
end zj8
namespace Mem
theorem texts_take {w:World} {a:Option Addr} {n cap:Nat} {L:List ByteArray} (h:ze5 w (.slice a n cap) L) (k:Nat) (hk:k≤L.length) (h0:0<k):ze5 w (.slice a k cap) (L.take k):=by
 rcases h with ⟨_,h2⟩|⟨b,o,cap',hv,hb,hc⟩
 ·subst h2;simp at hk;omega
 ·injection hv with e1 e2 e3
  subst e1;refine .inr ⟨b,o,cap,by rw [List.length_take,Nat.min_eq_left hk],hb,fun j t hj=>hc j t ?_⟩;rw [List.getElem?_take] at hj
  split at hj
  ·exact hj
  ·cases hj
theorem own_cap {w:World} {B T n cap:Nat} {a:Option Addr} {xs:List Value} (h:w.ownsRow B T 1 (.slice a n cap) n xs):n≤cap:=by
 rcases h.2 with ⟨hv,h0⟩|⟨g,cap',cur,hv,hb,hg,hc,rest⟩
 ·omega
 ·injection hv with e1 e2 e3
  omega
end Mem
namespace zj8
set_option maxRecDepth 100000 in
theorem paths_any (p:ByteArray) (w:World):Calls Tryz.prog 62 #[.string p] w fun e w'=>e= .returned (.func (.func 79) #[] #[.pointer (some ⟨w.heap.size,0,none⟩)])∧w'=w.alloc (.cells #[.string p] 9):=by
 have hmf:∀ (fn:Fn) (first cap:Array Value) (w:World),(Instr.makeFunc fn first cap).run Tryz.prog w= .ok (.func fn first cap) w:=fun _ _ _ _=>rfl;go_enter Tryz.func62,Tryz.ntmps62
 go_wp2
 go_ret
 exact ⟨rfl,rfl⟩
end zj8
end Go.Proofs.YtpggbphcbcogdaaGreatDoor
