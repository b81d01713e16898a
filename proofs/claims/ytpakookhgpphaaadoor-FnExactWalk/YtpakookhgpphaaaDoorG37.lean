/- Several texts of one claim in one file: MemMaps, WTakeX. -/
import Derived.Test.YtpakookhgpphaaaDoorG29
import Derived.Test.YtpakookhgpphaaaDoorG06
import Derived.Test.YtpakookhgpphaaaDoorG26
namespace Go.Proofs.YtpakookhgpphaaaDoor
section
open Go.RowKit Go.Maps
namespace Mem
def mapQ:Option Value→Nat
 |some (.map (some q))=>q
 |_=>0
def rowB:Option Value→Option Nat
 |some (.slice (some p) _ _)=>some p.block
 |_=>none
def zn1 (w:World):Pl.Fx→Nat→Nat→List Nat
 | .nil,_,_=>[]
 | .cons _ k m,b,i=>mapQ (w.cell? ⟨b,i,none⟩)::((match rowB (w.cell? ⟨b,i+2,none⟩) with |some b'=>zn1 w k b' 0|none=>[])++zn1 w m b (i+3))
def zi0 (w:World) (k:Pl.Fx) (v:Value):List Nat:=match rowB (some v) with |some b'=>zn1 w k b' 0|none=>[]
def zi1 (w:World):Pl.Fx→List Value→List Nat
 | .nil,_=>[]
 | .cons _ k m,xs=>mapQ xs[0]?::(zi0 w k (xs[2]?.getD undef)++zi1 w m (xs.drop 3))
theorem zq2 {w:World} {L:List Pl.Nd} {k m:Pl.Fx} {b i q:Nat} {v:Value} (h1:w.cell? ⟨b,i,none⟩=some (.map (some q))) (h2:w.cell? ⟨b,i+2,none⟩=some v):zn1 w (.cons L k m) b i=q::(zi0 w k v++zn1 w m b (i+3)):=by
 rw [zn1,h1,h2];rfl
theorem zk (w:World) (v:Value):zi0 w .nil v=[]:=by
 unfold zi0
 split <;> rfl
theorem zr5 (w:World) (k:Pl.Fx) (b n cap:Nat):zi0 w k (.slice (some ⟨b,0,none⟩) n cap)=zn1 w k b 0:=rfl
theorem mapsR_same {w w':World} {N:Nat→Prop} (h:∀b,N b→b<w.heap.size→w'.heap[b]? =w.heap[b]?) (F:Pl.Fx):∀b i,rowX w N F b i→zn1 w' F b i=zn1 w F b i:=by
 induction F with
 |nil=>intro b i _;rfl
 |cons L k m ihk ihm=>
  intro b i hr;obtain ⟨⟨q,a,cap,h1,h2,h3,h4,h5,hq,hm,h6⟩,h7⟩:=hr;have c:∀j,w'.cell? ⟨b,j,none⟩=w.cell? ⟨b,j,none⟩:=fun j=>World.cell?_of_block (h b h5 h4);rw [zq2 ((c _).trans h1) ((c _).trans h3),zq2 h1 h3,ihm _ _ h7]
  rcases h6 with rfl |⟨b',rfl, -,h9⟩
  ·rw [zk,zk]
  ·rw [zr5,zr5,ihk _ _ h9]
theorem zq1 {w w':World} {N:Nat→Prop} (h:∀b,N b→b<w.heap.size→w'.heap[b]? =w.heap[b]?) {k:Pl.Fx} {v:Value} (hl:layX w N k v):zi0 w' k v=zi0 w k v:=by
 obtain ⟨a,cap,rfl,h2⟩:=hl
 rcases h2 with rfl |⟨b',rfl, -,h4⟩
 ·rw [zk,zk]
 ·rw [zr5,zr5,mapsR_same h _ _ _ h4]
theorem zj0 (w:World) (L:List Pl.Nd) (k m:Pl.Fx) (q:Nat) (c v:Value) (ys:List Value):zi1 w (.cons L k m) (.map (some q)::c::v::ys)=q::(zi0 w k v++zi1 w m ys):=rfl
theorem mapsC_same {w w':World} {N:Nat→Prop} (h:∀b,N b→b<w.heap.size→w'.heap[b]? =w.heap[b]?) (F:Pl.Fx):∀xs,zh2 w N F xs→zi1 w' F xs=zi1 w F xs:=by
 induction F with
 |nil=>intro xs _;rfl
 |cons L k m _ ih=>
  intro xs hx;obtain ⟨q,v,ys,rfl,hq,hm,h2,h3⟩:=hx;rw [zj0,zj0,zq1 h h2,ih _ h3]
theorem mapsR_in {w:World} {N:Nat→Prop} (F:Pl.Fx):∀b i,rowX w N F b i→∀j∈zn1 w F b i,N j∧j<w.heap.size:=by
 induction F with
 |nil=>intro b i _ j hj;cases hj
 |cons L k m ihk ihm=>
  intro b i hr j hj;obtain ⟨⟨q,a,cap,h1,h2,h3,h4,h5,hq,hm,h6⟩,h7⟩:=hr;rw [zq2 h1 h3] at hj
  rcases List.mem_cons.1 hj with rfl |hj
  ·exact ⟨hq,hm.lt⟩
  rcases List.mem_append.1 hj with hj|hj
  ·rcases h6 with rfl |⟨b',rfl, -,h9⟩
   ·rw [zk] at hj;cases hj
   ·exact ihk _ _ h9 j hj
  ·exact ihm _ _ h7 j hj
theorem mapsL_in {w:World} {N:Nat→Prop} {k:Pl.Fx} {v:Value} (hl:layX w N k v):∀j∈zi0 w k v,N j∧j<w.heap.size:=by
 obtain ⟨a,cap,rfl,h2⟩:=hl
 rcases h2 with rfl |⟨b',rfl, -,h4⟩
 ·rw [zk];intro j hj;cases hj
 ·exact mapsR_in _ _ _ h4
theorem mapsC_in {w:World} {N:Nat→Prop} (F:Pl.Fx):∀xs,zh2 w N F xs→∀j∈zi1 w F xs,N j∧j<w.heap.size:=by
 induction F with
 |nil=>intro xs _ j hj;cases hj
 |cons L k m _ ih=>
  intro xs hx j hj;obtain ⟨q,v,ys,rfl,hq,hm,h2,h3⟩:=hx;rw [zj0] at hj
  rcases List.mem_cons.1 hj with rfl |hj
  ·exact ⟨hq,hm.lt⟩
  rcases List.mem_append.1 hj with hj|hj
  ·exact mapsL_in h2 j hj
  ·exact ih _ h3 j hj
theorem mapsC_snoc {w:World} {N:Nat→Prop} (L:List Pl.Nd) (k:Pl.Fx) (q:Nat) (c v:Value) (F:Pl.Fx):∀xs,zh2 w N F xs→zi1 w (F.app (.cons L k .nil)) (xs++[.map (some q),c,v])=zi1 w F xs++q::zi0 w k v:=by
 induction F with
 |nil=>intro xs h;cases h;show zi1 w (.cons L k .nil) _=_;rw [List.nil_append,zj0];simp [zi1]
 |cons L' k' m _ ih=>
  intro xs hx;obtain ⟨q',v',ys,rfl,hq',hm',h2,h3⟩:=hx;show zi1 w (.cons L' k' (m.app _)) (.map (some q')::_::v'::(ys++_))=_;rw [zj0,zj0,ih _ h3];simp
theorem yc2 {w:World} {N:Nat→Prop} {g:Nat} (F:Pl.Fx):∀ (xs:List Value) (i:Nat),zh2 w N F xs→(∀j u,xs[j]? =some u→w.cell? ⟨g,i+j,none⟩=some u)→zn1 w F g i=zi1 w F xs:=by
 induction F with
 |nil=>intro xs i _ _;rfl
 |cons L k m _ ih=>
  intro xs i hx hc;obtain ⟨q,v,ys,rfl,hq,hm,h2,h3⟩:=hx;have e0:w.cell? ⟨g,i,none⟩=some (.map (some q)):=hc 0 _ rfl;rw [zq2 e0 (hc 2 _ rfl),zj0,ih ys (i+3) h3 fun j u hj=>?_];have :=hc (j+3) u (by simpa using hj);rw [show i+3+j=i+(j+3) by omega];exact this
theorem mapsL_of_row {w:World} {B:Nat} {T:TypeId} {v:Value} {N:Nat→Prop} {F:Pl.Fx} {xs:List Value} (h:w.ownsRow B T 3 v F.len xs) (hc:zh2 w N F xs):zi0 w F v=zi1 w F xs:=by
 rcases h.2 with ⟨rfl,h0⟩|⟨g,cap,cur,rfl,hb,hg,hc2,hm,hsz,ht⟩
 ·cases F with
  |nil=>exact zk _ _
  |cons L k m=>simp [Pl.Fx.len] at h0
 ·rw [zr5];refine yc2 F xs 0 hc fun j u hj=>?_;rw [cell_of_row w g _ cur _ (0,0) hg,Nat.zero_add];rw [←ht,List.getElem?_take] at hj
  split at hj
  ·simpa using hj
  ·cases hj
def apart (w:World) (q:Nat) (k:Pl.Fx) (v:Value):Prop:=(q::zi0 w k v).Pairwise (· < ·)
theorem zu0 {w w':World} {N:Nat→Prop} (h:∀b,N b→b<w.heap.size→w'.heap[b]? =w.heap[b]?) {q:Nat} {k:Pl.Fx} {v:Value} (hl:layX w N k v) (ha:apart w q k v):apart w' q k v:=by
 show (q::_).Pairwise _;rw [zq1 h hl];exact ha
theorem yb3 {w w':World} {N:Nat→Prop} {q:Nat} {k:Pl.Fx} {v:Value} (hl:layX w N k v) (ha:apart w q k v) (b:Below w.heap.size w w'):apart w' q k v:=zu0 (fun j _ hj=>b.block j hj) hl ha
end Mem
end
section
open Go.RowKit
namespace zo5
theorem infoN:(Tryd.prog.info? 54).map (fun i=>(i.zero,i.size,i.bytes))=some (some (.agg #[.map none, .int .i64 0, .slice none 0 0]),3,40):=by kernel_rfl
structure Tk (w wr:World) (B X2 X7:Nat) (q:Nat) (L:List Pl.Nd) (m:Int) (v:Value) (F:Pl.Fx) (xs:List Value):Prop where
 bel:Below w.heap.size w wr
 big:B≤wr.heap.size
 x2:Mem.Blk wr X2 #[.map none, .int .i64 0, .slice none 0 0] 54
 x7:Mem.Blk wr X7 #[.map (some q), .int .i64 m,v] 54
 l2:w.heap.size≤X2∧X2<B
 l7:w.heap.size≤X7∧X7<B
 ne:X2≠X7
 row:wr.ownsRow B 54 3 v F.len xs
 cells:Mem.zh2 wr (fun b=>B≤b∧v.ownBlock≠some b) F xs
 lq:w.heap.size≤q∧q<B∧q≠X2∧q≠X7
 mq:Mem.ownM wr q L
 ord:(q::Mem.zi1 wr F xs).Pairwise (· < ·)
theorem row_call {w w':World} {B n s:Nat} {T:TypeId} {v:Value} {xs:List Value} (h:w.ownsRow B T s v n xs) (b:Below w.heap.size w w'):w'.ownsRow B T s v n xs:=by
 refine ⟨h.1,?_⟩
 rcases h.2 with h0|⟨g,cap,cur,hv,hb,hg,rest⟩
 ·exact .inl h0
 ·exact .inr ⟨g,cap,cur,hv,hb,(b.block g (Array.getElem?_eq_some_iff.1 hg).1).trans hg,rest⟩
theorem row_set {w:World} {B n s:Nat} {T:TypeId} {v:Value} {xs:List Value} (h:w.ownsRow B T s v n xs) (p:Addr) (u:Value) (hp:p.block<B):(w.setCell p u).ownsRow B T s v n xs:=by
 refine ⟨h.1,?_⟩
 rcases h.2 with h0|⟨g,cap,cur,hv,hb,hg,rest⟩
 ·exact .inl h0
 ·exact .inr ⟨g,cap,cur,hv,hb,(heap_setCell_other _ _ _ _ (by omega)).trans hg,rest⟩
theorem Tk.step {w wr w1 w4:World} {B X2 X7:Nat} {q q1:Nat} {L L1:List Pl.Nd} {m:Int} {v v1 v':Value} {F kids:Pl.Fx} {xs:List Value} {o1 o2:Obj} (h:Tk w wr B X2 X7 q L m v F xs)
  (b1:Below wr.heap.size wr w1) (hl:Mem.layX w1 (fun b=>wr.heap.size≤b) kids v1) (hq1:wr.heap.size≤q1) (hap:Mem.apart w1 q1 kids v1) (hm1:Mem.ownM w1 q1 L1)
  (own:w4.ownsRow B 54 3 v' (F.len+1) (xs++[.map (some q1), .int .i64 (kids.len:Int),v1])) (gr:((w1.alloc o1).alloc o2).grownBy w4 v.ownBlock) (far:∀g,v'.ownBlock=some g→v.ownBlock=some g∨((w1.alloc o1).alloc o2).heap.size≤g):
  Tk w (w4.setCell ⟨X7,2,none⟩ v') B X2 X7 q L m v' (F.app (.cons L1 kids .nil)) (xs++[.map (some q1), .int .i64 (kids.len:Int),v1]):=by
 have hw1:wr.heap.size≤w1.heap.size:=b1.size;have hs3:((w1.alloc o1).alloc o2).heap.size=w1.heap.size+1+1:=by simp
 have b3:Below wr.heap.size wr ((w1.alloc o1).alloc o2):=(b1.alloc hw1 o1).alloc (by simp;omega) o2;have b13:Below w1.heap.size w1 ((w1.alloc o1).alloc o2):=((Below.refl _ _).alloc (Nat.le_refl _) o1).alloc (by simp) o2;have e5:(w4.setCell ⟨X7,2,none⟩ v').heap.size=w4.heap.size:=by simp
 have hv7:some X7≠v.ownBlock:=fun e=>by have :=(h.row.lt X7 e.symm).1;have :=h.l7.2;omega
 have hv2:some X2≠v.ownBlock:=fun e=>by have :=(h.row.lt X2 e.symm).1;have :=h.l2.2;omega
 have hbig:=h.big
 have keep:∀b,B≤b→v.ownBlock≠some b→b<w1.heap.size→(w4.setCell ⟨X7,2,none⟩ v').heap[b]? =w1.heap[b]?:=fun b hb hne hlt=>by
  rw [heap_setCell_other _ _ _ _ (by show b≠X7;have :=h.l7.2;omega),gr.block b (by omega) (fun e=>hne e.symm)];exact b13.block b hlt
 have hsz:∀b,b<w1.heap.size→b<(w4.setCell ⟨X7,2,none⟩ v').heap.size:=fun b hb=>by have :=gr.size;omega
 have hnew:∀b,v.ownBlock≠some b→b<w1.heap.size→v'.ownBlock≠some b:=fun b hne hlt e=>by
  rcases far b e with h'|h'
  ·exact hne h'
  ·omega
 have hnw:∀b,wr.heap.size≤b→b<w1.heap.size→v.ownBlock≠some b:=fun b hb hlt e=>by have :=(h.row.lt b e).2;omega
 refine ⟨?_,?_,?_,?_,h.l2,h.l7,h.ne,?_,?_,h.lq,?_,?_⟩
 ·refine Below.setCell ?_ (by show w.heap.size≤X7;exact h.l7.1) _;have bw3:=h.bel.trans (b3.mono h.bel.size);refine ⟨gr.os.trans bw3.os,gr.tape.trans bw3.tape,gr.output.trans bw3.output,Nat.le_trans bw3.size gr.size,fun k hk=>?_⟩;have hk2:=h.bel.size;rw [gr.block k (by omega) (fun e=>by have :=(h.row.lt k e.symm).1;have :=h.l7;omega)];exact bw3.block k hk
 ·have :=gr.size;omega
 ·exact ((h.x2.call b3).grown gr hv2).far _ _ h.ne
 ·exact ((h.x7.call b3).grown gr hv7).put 2 v'
 ·rw [Pl.Fx.len_app];exact row_set own _ _ h.l7.2
 ·refine Mem.cellsX_snoc ⟨by omega,hnew q1 (hnw q1 hq1 hm1.lt) hm1.lt⟩ (hm1.same (keep q1 (by omega) (hnw q1 hq1 hm1.lt) hm1.lt)) (Mem.zk3 (fun b hb hlt=>?_) hl) F xs (Mem.zz3 (fun b hb hlt=>?_) F xs h.cells)
  ·exact ⟨⟨by omega,hnew b (hnw b hb hlt) hlt⟩,hsz b hlt,keep b (by omega) (hnw b hb hlt) hlt⟩
  ·exact ⟨⟨hb.1,hnew b hb.2 (by omega)⟩,hsz b (by omega),(keep b hb.1 hb.2 (by omega)).trans (b1.block b hlt)⟩
 ·have hq:=h.mq.lt;refine h.mq.same ?_;rw [heap_setCell_other _ _ _ _ (show q≠X7 from h.lq.2.2.2),gr.block q (by omega) (fun e=>by have :=(h.row.lt q e.symm).1;have :=h.lq.2.1;omega)];exact b3.block q hq
 ·have c1:Mem.zh2 (w4.setCell ⟨X7,2,none⟩ v') (fun b=>B≤b) F xs:=Mem.zz3 (fun b hb hlt=>⟨hb.1,hsz b (by omega),(keep b hb.1 hb.2 (by omega)).trans (b1.block b hlt)⟩) F xs h.cells;have e1:Mem.zi1 (w4.setCell ⟨X7,2,none⟩ v') F xs=Mem.zi1 wr F xs:=Mem.mapsC_same (fun b hb hlt=>(keep b hb.1 hb.2 (by omega)).trans (b1.block b hlt)) F xs h.cells;have e2:Mem.zi0 (w4.setCell ⟨X7,2,none⟩ v') kids v1=Mem.zi0 w1 kids v1:=Mem.zq1 (fun b hb hlt=>keep b (by omega) (hnw b hb hlt) hlt) hl;rw [Mem.mapsC_snoc L1 kids q1 _ v1 F xs c1,e1,e2,←List.cons_append,List.pairwise_append];refine ⟨h.ord,hap,fun x hx y hy=>?_⟩
  have hxl:x<wr.heap.size:=by
   rcases List.mem_cons.1 hx with rfl |hx
   ·exact h.mq.lt
   ·exact (Mem.mapsC_in F xs h.cells x hx).2
  have hyl:wr.heap.size≤y:=by
   rcases List.mem_cons.1 hy with rfl |hy
   ·exact hq1
   ·exact (Mem.mapsL_in hl y hy).1
  omega
theorem Tk.mid {w wr w1 w4:World} {B X2 X7:Nat} {q:Nat} {L:List Pl.Nd} {m:Int} {v:Value} {F:Pl.Fx} {xs:List Value} {o1 o2:Obj} (h:Tk w wr B X2 X7 q L m v F xs)
  (b1:Below wr.heap.size wr w1) (gr:((w1.alloc o1).alloc o2).grownBy w4 v.ownBlock):Mem.Blk w4 X7 #[.map (some q), .int .i64 m,v] 54:=
 (((h.x7.call b1).alloc o1).alloc o2).grown gr (fun e=>by have :=(h.row.lt X7 e.symm).1;have :=h.l7.2;omega)
theorem Tk.conc {w wr:World} {B X2 X7:Nat} {q:Nat} {L:List Pl.Nd} {m:Int} {v:Value} {F:Pl.Fx} {xs:List Value} (h:Tk w wr B X2 X7 q L m v F xs):∃a cap,v= .slice a F.len cap:=by
 rcases h.row.2 with ⟨h1,h0⟩|⟨g,cap,cur,h1,_⟩
 ·exact ⟨none,0,by rw [h1,h0]⟩
 ·exact ⟨_,cap,h1⟩
theorem conc {w:World} {B n s:Nat} {T:TypeId} {v:Value} {xs:List Value} (h:w.ownsRow B T s v n xs):∃a cap,v= .slice a n cap:=by
 rcases h.2 with ⟨h1,h0⟩|⟨g,cap,cur,h1,_⟩
 ·exact ⟨none,0,by rw [h1,h0]⟩
 ·exact ⟨_,cap,h1⟩
theorem three_new (w:World) (cs:List Value) (T:TypeId) (o:Obj):∀j u,cs[j]? =some u→((w.alloc o).alloc (.cells cs.toArray T)).cell? ((⟨w.heap.size+1,0,none⟩:Addr).add j)=some u:=by
 intro j u hj;rw [Mem.add_lit];have :=(Mem.ze5 (w.alloc o) cs T).2 j u hj
 simpa using this
theorem Tk.done {w wr:World} {B X2 X7:Nat} {q:Nat} {L:List Pl.Nd} {m:Int} {v:Value} {F:Pl.Fx} {xs:List Value} (h:Tk w wr B X2 X7 q L m v F xs) (u0 u1 u2:Value):
  Mem.layX (((wr.setCell ⟨X2,0,none⟩ u0).setCell ⟨X2,1,none⟩ u1).setCell ⟨X2,2,none⟩ u2) (fun b=>w.heap.size≤b) F v:=by
 refine Mem.zk3 (fun b hb hlt=>⟨?_,by simpa using hlt,?_⟩) (Mem.zz5 h.row h.cells (fun b hb=>hb.1))
 ·have :=h.l2;omega
 ·have :=h.l2.2;rw [heap_setCell_other _ _ _ _ (by show b≠X2;omega),heap_setCell_other _ _ _ _ (by show b≠X2;omega),heap_setCell_other _ _ _ _ (by show b≠X2;omega)]
theorem Tk.own {w wr:World} {B X2 X7:Nat} {q:Nat} {L:List Pl.Nd} {m:Int} {v:Value} {F:Pl.Fx} {xs:List Value} (h:Tk w wr B X2 X7 q L m v F xs) (u0 u1 u2:Value):
  Mem.ownM (((wr.setCell ⟨X2,0,none⟩ u0).setCell ⟨X2,1,none⟩ u1).setCell ⟨X2,2,none⟩ u2) q L:=
 ((h.mq.set _ _ h.lq.2.2.1).set _ _ h.lq.2.2.1).set _ _ h.lq.2.2.1
theorem Tk.apart {w wr:World} {B X2 X7:Nat} {q:Nat} {L:List Pl.Nd} {m:Int} {v:Value} {F:Pl.Fx} {xs:List Value} (h:Tk w wr B X2 X7 q L m v F xs) (u0 u1 u2:Value):
  Mem.apart (((wr.setCell ⟨X2,0,none⟩ u0).setCell ⟨X2,1,none⟩ u1).setCell ⟨X2,2,none⟩ u2) q F v:=by
 have e:Mem.zi0 (((wr.setCell ⟨X2,0,none⟩ u0).setCell ⟨X2,1,none⟩ u1).setCell ⟨X2,2,none⟩ u2) F v=Mem.zi0 wr F v:=Mem.zq1 (fun b hb hlt=>by
  have :=h.l2.2
  rw [heap_setCell_other _ _ _ _ (by show b≠X2;omega),heap_setCell_other _ _ _ _ (by show b≠X2;omega),heap_setCell_other _ _ _ _ (by show b≠X2;omega)]) (Mem.zz5 h.row h.cells (fun b hb=>hb.1))
 show (q::_).Pairwise _;rw [e,Mem.mapsL_of_row h.row h.cells];exact h.ord
end zo5
end
end Go.Proofs.YtpakookhgpphaaaDoor
