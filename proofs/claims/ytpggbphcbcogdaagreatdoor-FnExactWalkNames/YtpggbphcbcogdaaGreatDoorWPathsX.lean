import Derived.Test.YtpggbphcbcogdaaGreatDoorG26
namespace Go.Proofs.YtpggbphcbcogdaaGreatDoor
open Go.RowKit Go.Shelf
attribute [local go_sem] Oper.semAt_some
namespace zj8
def KF (N:Nat) (W W':World):Prop:=W.heap.size≤W'.heap.size∧∀ (j:Nat) (o:Obj),N≤j→W.heap[j]? =some o→o.isCells=true→W'.heap[j]? =some o
theorem KF.trans {N:Nat} {A B C:World} (h1:KF N A B) (h2:KF N B C):KF N A C:=⟨Nat.le_trans h1.1 h2.1,fun j o hj ho hc=>h2.2 j o hj (h1.2 j o hj ho hc) hc⟩
theorem KF.put {N l:Nat} (W:World) (o o':Obj) (hl:W.heap[l]? =some o) (ho:o.isCells=false):KF N W (W.putObj l o'):=by
 refine ⟨by simp,fun j p _ hp hc=>?_⟩;have hne:j≠l:=fun e=>by rw [e,hl] at hp;cases hp;rw [ho] at hc;cases hc
 exact (World.putObj_heap_other hne).trans hp
theorem row_keptF {N:Nat} {W W':World} {B T n:Nat} {v:Value} {xs:List Value} (h:W.ownsRow B T 1 v n xs) (k:KF N W W') (hX:N≤B):W'.ownsRow B T 1 v n xs:=by
 refine ⟨h.1,?_⟩
 rcases h.2 with h0|⟨g,cap,cur,hv,hb,hg,rest⟩
 ·exact .inl h0
 ·exact .inr ⟨g,cap,cur,hv,hb,k.2 g _ (by omega) hg rfl,rest⟩
abbrev WayX (L:List ByteArray):={ x:ByteArray // x∈Pl.ways L L.length }
theorem wayX_mem {L:List ByteArray} {k:Nat} (h:k<L.length):Pl.glue (L.take (k+1))∈Pl.ways L L.length:=List.mem_map.2 ⟨k,List.mem_range.2 h,rfl⟩
set_option linter.unusedSimpArgs false in
set_option maxRecDepth 100000 in
set_option maxHeartbeats 2000000 in
theorem iter_waysX (L:List ByteArray) (n:Nat) (X:Nat) (q:Addr) (p:ByteArray) (w:World) (hX:X≤w.heap.size) (hq:w.cell? q=some (.string p)) (hql:q.block<w.heap.size) (hp:p.size≤1048576) (hLp:Pl.zb0 p=L):
  SeqStopsK Fence.wide n Tryz.prog 79 #[.pointer (some q)] (fun x:WayX (L)=>#[Value.string x.1]) (KF X) (fun xs=>xs.map Subtype.val=Pl.ways (L) (L).length) (fun xs=>∃k,k<L.length∧xs.map Subtype.val=Pl.ways L (k+1)) (L).length w:=fun l J Jx W hW hJ _ hY h0=>by
 have hq1:W.cell? q=some (.string p):=(hW.cell hql).trans hq;have hXW:X≤W.heap.size:=Nat.le_trans hX hW.size;have HN:=hide (zn6.any p W hp);generalize Pl.za2 p=rr at HN;have hl6:L.length≤6:=by rw [←hLp];exact (Pl.ze2 p).2
 have HGL:Hid (∀k,(Pl.glue ((L).take k)).size≤1000000):=fun k=>Pl.zm (fun t ht=>(Pl.ze2 p).1 t (by rw [hLp];exact List.mem_of_mem_take ht)) (by have :=(Pl.ze2 p).2;rw [hLp] at this;simp;omega);rw [hLp] at HN;refine callsIn_of_wp Tryz.func79 rfl trivial ?_ rfl;simp only [Tryz.ntmps79,List.size_toArray,List.length_cons,List.length_nil,Nat.reduceAdd,Nat.reduceSub,Array.replicate_succ,Array.replicate_zero,List.push_toArray,List.append_toArray,List.nil_append,List.cons_append]
 gi_wp2_with fail
 refine ⟨trivial,fun h=>(by cases h),?_⟩;refine (callsIn_wide.2 (za HN)).mono ?_;rintro e w1 ⟨v,rfl,own,b1⟩;obtain ⟨a,cap,rfl⟩:=Mem.zh8 own;have hJ1:Hid (∃pre:List (WayX L),pre.map Subtype.val=Pl.ways L 0∧J pre w1):=⟨[],rfl,hJ [] W w1 none h0 (Mem.za4 b1 none) (fun r e=>by cases e)⟩;have OW:=hide own;have HY:=hide hY;clear HN own b1 h0 hY
 gi_wp2_with fail
 gi_loopw [13] (fun i wr=>∃k:Nat,k≤L.length∧i= .int .i64 k∧Hid (∃pre:List (WayX L),pre.map Subtype.val=Pl.ways L k∧J pre wr)∧Hid (wr.ownsRow W.heap.size 9 1 (.slice a L.length cap) L.length (L.map Value.string)))
  (fun i _=>L.length - (intOf i).toNat)
 case atStart=>exact ⟨0,Nat.zero_le _,rfl,hJ1,OW⟩
 case round=>
  obtain ⟨k,hk,rfl,HJ,HO⟩:=hrel;clear hJ1 OW;by_cases hlt:k<L.length
  ·have y1:(k:Int)<(L.length:Int):=by omega
   have hT:=Mem.texts_take (Mem.ze4 (za HO)) (k+1) (by omega) (by omega);have HP:=hide (zk1.any (.slice a (k+1) cap) (L.take (k+1)) wr (by simp;omega) (za HGL (k+1)) hT);have hcap:=Mem.own_cap (za HO);have hw1:IntKind.i64.wrap ((k:Int)+1)=(k:Int)+1:=by simp only [IntKind.wrap_i64];omega
   clear hT
   gi_wp2_with fail
   refine ⟨trivial,fun h=>(by cases h),?_⟩;refine (callsIn_wide.2 (za HP)).mono ?_;rintro e w2 ⟨rfl,b2⟩;obtain ⟨pre,hpre,hJp⟩:=za HJ;have HJ2:J pre w2:=hJ _ wr w2 none hJp (Mem.za4 b2 none) (fun r e=>by cases e);have HO2:=hide (Mem.zc8 (za HO) b2);obtain ⟨fn,tmps,assign,body,hy,hR⟩:=za HY pre ⟨Pl.glue (L.take (k+1)),wayX_mem hlt⟩ w2 HJ2 (by have :=congrArg List.length hpre;rw [Pl.zi0,List.length_map] at this;omega);have HWS:Hid ((pre++[(⟨Pl.glue (L.take (k+1)),wayX_mem hlt⟩:WayX L)]).map Subtype.val=Pl.ways L (k+1)):=by rw [List.map_append,hpre,Pl.zt0];exact rfl
   dsimp only at hy
   clear HP HJ HO HJ2 b2 hpre hJp
   gi_wp2
   refine ⟨fun h=>(by cases h),?_⟩;refine hR.mono ?_;rintro e W3 (⟨rfl,hJ3,hk3⟩|⟨rfl,hJx3⟩)
   ·have HJ3:Hid (∃pre:List (WayX L),pre.map Subtype.val=Pl.ways L (k+1)∧J pre W3):=⟨_,za HWS,hJ3⟩;have HO3:=hide (row_keptF (za HO2) hk3 hXW);clear hJ3 hk3 HO2 hR hy HWS
    gi_wp2
    go_roundw
    case rel=>exact ⟨k+1,by omega,by go_num,HJ3,HO3⟩
    case measure=>simp [intOf];omega
   ·gi_wp2
    refine bodyPost_ret (results_none rfl _ _ _) rfl ?_;exact ⟨⟨_,rfl⟩, .inr ⟨_,⟨k,hlt,za HWS⟩,hJx3⟩⟩
  ·obtain rfl:k=L.length:=by omega
   have y1:¬ ((L.length:Int)<(L.length:Int)):=by omega
   gi_wp2
   go_end0
   exact ⟨⟨_,rfl⟩, .inl (za HJ)⟩
end zj8
end Go.Proofs.YtpggbphcbcogdaaGreatDoor
