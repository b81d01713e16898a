import Derived.Test.YtpggbphcbcogdaaGreatDoorMemVars
import Derived.Test.YtpggbphcbcogdaaGreatDoorWNodesI
import Derived.Test.YtpggbphcbcogdaaGreatDoorMemMaps
namespace Go.Proofs.YtpggbphcbcogdaaGreatDoor
open Go.RowKit
namespace zn9
theorem infoN:(Tryz.prog.info? 62).map (fun i=>(i.zero,i.size,i.bytes))=some (some (.agg #[.map none, .int .i64 0, .slice none 0 0]),3,40):=by kernel_rfl
structure Tk (w wr:World) (B X2 X7:Nat) (q:Nat) (L:List Pl.Nd) (m:Int) (v:Value) (F:Pl.Fx) (xs:List Value):Prop where
 bel:Below w.heap.size w wr
 big:B≤wr.heap.size
 x2:Mem.Blk wr X2 #[.map none, .int .i64 0, .slice none 0 0] 62
 x7:Mem.Blk wr X7 #[.map (some q), .int .i64 m,v] 62
 l2:w.heap.size≤X2∧X2<B
 l7:w.heap.size≤X7∧X7<B
 ne:X2≠X7
 row:wr.ownsRow B 62 3 v F.len xs
 cells:Mem.zg5 wr (fun b=>B≤b∧v.ownBlock≠some b) F xs
 lq:w.heap.size≤q∧q<B∧q≠X2∧q≠X7
 mq:Mem.ownM wr q L
 ord:(q::Mem.zh1 wr F xs).Pairwise (· < ·)
theorem ze7 {w w':World} {B n s:Nat} {T:TypeId} {v:Value} {xs:List Value} (h:w.ownsRow B T s v n xs) (b:Below w.heap.size w w'):w'.ownsRow B T s v n xs:=by
 refine ⟨h.1,?_⟩
 rcases h.2 with h0|⟨g,cap,cur,hv,hb,hg,rest⟩
 ·exact .inl h0
 ·exact .inr ⟨g,cap,cur,hv,hb,(b.block g (Array.getElem?_eq_some_iff.1 hg).1).trans hg,rest⟩
theorem zc9 {w:World} {B n s:Nat} {T:TypeId} {v:Value} {xs:List Value} (h:w.ownsRow B T s v n xs) (p:Addr) (u:Value) (hp:p.block<B):(w.setCell p u).ownsRow B T s v n xs:=by
 refine ⟨h.1,?_⟩
 rcases h.2 with h0|⟨g,cap,cur,hv,hb,hg,rest⟩
 ·exact .inl h0
 ·exact .inr ⟨g,cap,cur,hv,hb,(heap_setCell_other _ _ _ _ (by omega)).trans hg,rest⟩
theorem Tk.step {w wr w1 w4:World} {B X2 X7:Nat} {q q1:Nat} {L L1:List Pl.Nd} {m:Int} {v v1 v':Value} {F kids:Pl.Fx} {xs:List Value} {o1 o2:Obj} (h:Tk w wr B X2 X7 q L m v F xs)
  (b1:Below wr.heap.size wr w1) (hl:Mem.layX w1 (fun b=>wr.heap.size≤b) kids v1) (hq1:wr.heap.size≤q1) (hap:Mem.apart w1 q1 kids v1) (hm1:Mem.ownM w1 q1 L1)
  (own:w4.ownsRow B 62 3 v' (F.len+1) (xs++[.map (some q1), .int .i64 (kids.len:Int),v1])) (gr:((w1.alloc o1).alloc o2).grownBy w4 v.ownBlock) (far:∀g,v'.ownBlock=some g→v.ownBlock=some g∨((w1.alloc o1).alloc o2).heap.size≤g):
  Tk w (w4.setCell ⟨X7,2,none⟩ v') B X2 X7 q L m v' (F.app (.cons L1 kids .nil)) (xs++[.map (some q1), .int .i64 (kids.len:Int),v1]):=by
 have hw1:wr.heap.size≤w1.heap.size:=b1.size;have hs3:((w1.alloc o1).alloc o2).heap.size=w1.heap.size+1+1:=by simp
 have b3:Below wr.heap.size wr ((w1.alloc o1).alloc o2):=(b1.alloc hw1 o1).alloc (by simp;omega) o2;have b13:Below w1.heap.size w1 ((w1.alloc o1).alloc o2):=((Below.refl _ _).alloc (Nat.le_refl _) o1).alloc (by simp) o2;have e5:(w4.setCell ⟨X7,2,none⟩ v').heap.size=w4.heap.size:=by simp
 have hv7:some X7≠v.ownBlock:=fun e=>by have :=(h.row.lt X7 e.symm).1;have :=h.l7.2;omega
 have hv2:some X2≠v.ownBlock:=fun e=>by have :=(h.row.lt X2 e.symm).1;have :=h.l2.2;omega
 have hbig:=h.big
 have keep:∀b,B≤b→v.ownBlock≠some b→b<w1.heap.size→(w4.setCell ⟨X7,2,none⟩ v').heap[b]? =w1.heap[b]?:=fun b hb hne hlt=>by
  rw [heap_setCell_other _ _ _ _ (by show b≠X7;have :=h.l7.2;omega),gr.block b (by omega) (fun e=>hne e.symm)];exact b13.block b hlt
 have hsz:∀b,b<w1.heap.size→b<(w4.setCell ⟨X7,2,none⟩ v').heap.size:=fun b hb=>by have :=gr.size;omega
 have hnew:∀b,v.ownBlock≠some b→b<w1.heap.size→v'.ownBlock≠some b:=fun b hne hlt e=>by
  rcases far b e with h'|h'
  ·exact hne h'
  ·omega
 have hnw:∀b,wr.heap.size≤b→b<w1.heap.size→v.ownBlock≠some b:=fun b hb hlt e=>by have :=(h.row.lt b e).2;omega
 refine ⟨?_,?_,?_,?_,h.l2,h.l7,h.ne,?_,?_,h.lq,?_,?_⟩
 ·refine Below.setCell ?_ (by show w.heap.size≤X7;exact h.l7.1) _;have bw3:=h.bel.trans (b3.mono h.bel.size);refine ⟨gr.os.trans bw3.os,gr.tape.trans bw3.tape,gr.output.trans bw3.output,Nat.le_trans bw3.size gr.size,fun k hk=>?_⟩;have hk2:=h.bel.size;rw [gr.block k (by omega) (fun e=>by have :=(h.row.lt k e.symm).1;have :=h.l7;omega)];exact bw3.block k hk
 ·have :=gr.size;omega
 ·exact ((h.x2.call b3).grown gr hv2).far _ _ h.ne
 ·exact ((h.x7.call b3).grown gr hv7).put 2 v'
 ·rw [Pl.Fx.len_app];exact zc9 own _ _ h.l7.2
 ·refine Mem.cellsX_snoc ⟨by omega,hnew q1 (hnw q1 hq1 hm1.lt) hm1.lt⟩ (hm1.same (keep q1 (by omega) (hnw q1 hq1 hm1.lt) hm1.lt)) (Mem.zl0 (fun b hb hlt=>?_) hl) F xs (Mem.zw5 (fun b hb hlt=>?_) F xs h.cells)
  ·exact ⟨⟨by omega,hnew b (hnw b hb hlt) hlt⟩,hsz b hlt,keep b (by omega) (hnw b hb hlt) hlt⟩
  ·exact ⟨⟨hb.1,hnew b hb.2 (by omega)⟩,hsz b (by omega),(keep b hb.1 hb.2 (by omega)).trans (b1.block b hlt)⟩
 ·have hq:=h.mq.lt;refine h.mq.same ?_;rw [heap_setCell_other _ _ _ _ (show q≠X7 from h.lq.2.2.2),gr.block q (by omega) (fun e=>by have :=(h.row.lt q e.symm).1;have :=h.lq.2.1;omega)];exact b3.block q hq
 ·have c1:Mem.zg5 (w4.setCell ⟨X7,2,none⟩ v') (fun b=>B≤b) F xs:=Mem.zw5 (fun b hb hlt=>⟨hb.1,hsz b (by omega),(keep b hb.1 hb.2 (by omega)).trans (b1.block b hlt)⟩) F xs h.cells;have e1:Mem.zh1 (w4.setCell ⟨X7,2,none⟩ v') F xs=Mem.zh1 wr F xs:=Mem.mapsC_same (fun b hb hlt=>(keep b hb.1 hb.2 (by omega)).trans (b1.block b hlt)) F xs h.cells;have e2:Mem.zh2 (w4.setCell ⟨X7,2,none⟩ v') kids v1=Mem.zh2 w1 kids v1:=Mem.zp2 (fun b hb hlt=>keep b (by omega) (hnw b hb hlt) hlt) hl;rw [Mem.mapsC_snoc L1 kids q1 _ v1 F xs c1,e1,e2,←List.cons_append,List.pairwise_append];refine ⟨h.ord,hap,fun x hx y hy=>?_⟩
  have hxl:x<wr.heap.size:=by
   rcases List.mem_cons.1 hx with rfl |hx
   ·exact h.mq.lt
   ·exact (Mem.mapsC_in F xs h.cells x hx).2
  have hyl:wr.heap.size≤y:=by
   rcases List.mem_cons.1 hy with rfl |hy
   ·exact hq1
   ·exact (Mem.mapsL_in hl y hy).1
  omega
theorem Tk.mid {w wr w1 w4:World} {B X2 X7:Nat} {q:Nat} {L:List Pl.Nd} {m:Int} {v:Value} {F:Pl.Fx} {xs:List Value} {o1 o2:Obj} (h:Tk w wr B X2 X7 q L m v F xs)
  (b1:Below wr.heap.size wr w1) (gr:((w1.alloc o1).alloc o2).grownBy w4 v.ownBlock):Mem.Blk w4 X7 #[.map (some q), .int .i64 m,v] 62:=
 (((h.x7.call b1).alloc o1).alloc o2).grown gr (fun e=>by have :=(h.row.lt X7 e.symm).1;have :=h.l7.2;omega)
theorem Tk.conc {w wr:World} {B X2 X7:Nat} {q:Nat} {L:List Pl.Nd} {m:Int} {v:Value} {F:Pl.Fx} {xs:List Value} (h:Tk w wr B X2 X7 q L m v F xs):∃a cap,v= .slice a F.len cap:=by
 rcases h.row.2 with ⟨h1,h0⟩|⟨g,cap,cur,h1,_⟩
 ·exact ⟨none,0,by rw [h1,h0]⟩
 ·exact ⟨_,cap,h1⟩
theorem conc {w:World} {B n s:Nat} {T:TypeId} {v:Value} {xs:List Value} (h:w.ownsRow B T s v n xs):∃a cap,v= .slice a n cap:=by
 rcases h.2 with ⟨h1,h0⟩|⟨g,cap,cur,h1,_⟩
 ·exact ⟨none,0,by rw [h1,h0]⟩
 ·exact ⟨_,cap,h1⟩
theorem three_new (w:World) (cs:List Value) (T:TypeId) (o:Obj):∀j u,cs[j]? =some u→((w.alloc o).alloc (.cells cs.toArray T)).cell? ((⟨w.heap.size+1,0,none⟩:Addr).add j)=some u:=by
 intro j u hj;rw [Mem.add_lit];have :=(Mem.zg4 (w.alloc o) cs T).2 j u hj
 simpa using this
theorem Tk.done {w wr:World} {B X2 X7:Nat} {q:Nat} {L:List Pl.Nd} {m:Int} {v:Value} {F:Pl.Fx} {xs:List Value} (h:Tk w wr B X2 X7 q L m v F xs) (u0 u1 u2:Value):
  Mem.layX (((wr.setCell ⟨X2,0,none⟩ u0).setCell ⟨X2,1,none⟩ u1).setCell ⟨X2,2,none⟩ u2) (fun b=>w.heap.size≤b) F v:=by
 refine Mem.zl0 (fun b hb hlt=>⟨?_,by simpa using hlt,?_⟩) (Mem.zv5 h.row h.cells (fun b hb=>hb.1))
 ·have :=h.l2;omega
 ·have :=h.l2.2;rw [heap_setCell_other _ _ _ _ (by show b≠X2;omega),heap_setCell_other _ _ _ _ (by show b≠X2;omega),heap_setCell_other _ _ _ _ (by show b≠X2;omega)]
theorem Tk.own {w wr:World} {B X2 X7:Nat} {q:Nat} {L:List Pl.Nd} {m:Int} {v:Value} {F:Pl.Fx} {xs:List Value} (h:Tk w wr B X2 X7 q L m v F xs) (u0 u1 u2:Value):
  Mem.ownM (((wr.setCell ⟨X2,0,none⟩ u0).setCell ⟨X2,1,none⟩ u1).setCell ⟨X2,2,none⟩ u2) q L:=
 ((h.mq.set _ _ h.lq.2.2.1).set _ _ h.lq.2.2.1).set _ _ h.lq.2.2.1
theorem Tk.apart {w wr:World} {B X2 X7:Nat} {q:Nat} {L:List Pl.Nd} {m:Int} {v:Value} {F:Pl.Fx} {xs:List Value} (h:Tk w wr B X2 X7 q L m v F xs) (u0 u1 u2:Value):
  Mem.apart (((wr.setCell ⟨X2,0,none⟩ u0).setCell ⟨X2,1,none⟩ u1).setCell ⟨X2,2,none⟩ u2) q F v:=by
 have e:Mem.zh2 (((wr.setCell ⟨X2,0,none⟩ u0).setCell ⟨X2,1,none⟩ u1).setCell ⟨X2,2,none⟩ u2) F v=Mem.zh2 wr F v:=Mem.zp2 (fun b hb hlt=>by
  have :=h.l2.2
  rw [heap_setCell_other _ _ _ _ (by show b≠X2;omega),heap_setCell_other _ _ _ _ (by show b≠X2;omega),heap_setCell_other _ _ _ _ (by show b≠X2;omega)]) (Mem.zv5 h.row h.cells (fun b hb=>hb.1))
 show (q::_).Pairwise _;rw [e,Mem.mapsL_of_row h.row h.cells];exact h.ord
end zn9
end Go.Proofs.YtpggbphcbcogdaaGreatDoor
