import Derived.Test.YtbomeifgfalmdaaGreatDoorG29
import Derived.Laws.EntriesVeiled
set_option linter.unusedSimpArgs false
namespace Go.Proofs.YtbomeifgfalmdaaGreatDoor
open Go.RowKit Go.Shelf Go.Maps
attribute [local go_sem] Oper.semAt_some
namespace WWk
theorem blk_two (w:World) (o:Obj) (cs:Array Value) (T:TypeId):Mem.Blk ((w.alloc o).alloc (.cells cs T)) (w.heap.size+1) cs T:=Mem.zh9 _ _ _
theorem yf (w:World) (o o2:Obj) (cs:Array Value) (T:TypeId):Mem.Blk (((w.alloc o).alloc o2).alloc (.cells cs T)) (w.heap.size+1+1) cs T:=by
 have h:=blk_two (w.alloc o) o2 cs T;rw [show (w.alloc o).heap.size=w.heap.size+1 by simp] at h;exact h
theorem blk_four (w:World) (o o2 o3:Obj) (cs:Array Value) (T:TypeId):Mem.Blk ((((w.alloc o).alloc o2).alloc o3).alloc (.cells cs T)) (w.heap.size+1+1+1) cs T:=by
 have h:=yf (w.alloc o) o2 o3 cs T;rw [show (w.alloc o).heap.size=w.heap.size+1 by simp] at h;exact h
structure Lp (w:World) (d:Nat) (L:List Pl.Nd) (K:Pl.Fx) (u:Value) (hi X:Nat) (p:ByteArray) (ps:List ByteArray) (n:Pl.Nd) (b:Bool) (W:World):Prop where
 bel:Below w.heap.size w W
 pth:Mem.Blk W (w.heap.size+1) #[.string p] 9
 res:Mem.Blk W (w.heap.size+1+1) #[.string ⟨#[]⟩, .int .i64 0, .string ⟨#[]⟩, .int .i64 0, .int .i64 0] 55
 dn:Mem.Blk W X #[u] 223
 seen:Mem.Blk W (X+1) #[.string n.path, .int .i64 n.kind, .string n.data, .int .i64 n.time, .int .i64 n.mark] 55
 th:Mem.Blk W (X+1+1) #[.bool b] 4
 wk:Wk w.heap.size d L K ps u (w.heap.size+3) hi W
 hiX:hi≤X
 lo:w.heap.size+3≤hi
theorem zt0 {W W':World} {j:Nat} {cs:Array Value} {T:TypeId} {row:Option Nat} (h:Mem.Blk W j cs T) (g:W.grownBy W' row) (hr:∀r,row=some r→∃o:Obj,W.heap[r]? =some o∧o.isCells=false):Mem.Blk W' j cs T:=
 h.grown g (fun e=>by
  obtain ⟨o,ho,hc⟩:=hr j e.symm;have h2:W.heap[j]? =some (.cells cs T (0,0)):=h;rw [h2] at ho;cases ho
  cases hc)
theorem Lp.own {w W W':World} {d:Nat} {L:List Pl.Nd} {K:Pl.Fx} {u:Value} {hi X N:Nat} {p:ByteArray} {ps:List ByteArray} {n:Pl.Nd} {b:Bool} {row:Option Nat} (h:Lp w d L K u hi X p ps n b W) (g:W.grownBy W' row) (hN:X<N) (hr:∀r,row=some r→N≤r∧∃o:Obj,W.heap[r]? =some o∧o.isCells=false):Lp w d L K u hi X p ps n b W':=by
 have hx:=h.dn.lt;have h1:=h.hiX;have h2:=h.lo;refine ⟨h.bel.grown g h.bel.size (fun r e=>by have :=(hr r e).1;omega),zt0 h.pth g (fun r e=>(hr r e).2),zt0 h.res g (fun r e=>(hr r e).2),zt0 h.dn g (fun r e=>(hr r e).2),zt0 h.seen g (fun r e=>(hr r e).2),zt0 h.th g (fun r e=>(hr r e).2),?_,h1,h2⟩;exact zt5 _ _ _ _ _ _ _ _ W W' (by omega) h.bel.size h.wk ⟨g.size,fun c hc hh=>g.block c hc (fun e=>by have :=(hr c e.symm).1;omega)⟩
theorem Lp.step {w W W1 W2:World} {d:Nat} {L:List Pl.Nd} {K:Pl.Fx} {u:Value} {hi X:Nat} {p:ByteArray} {ps ps':List ByteArray} {n n':Pl.Nd} {b b':Bool} (h:Lp w d L K u hi X p ps n b W) (bd:Mem.Band (w.heap.size+3) hi W W1) (hw:Wk w.heap.size d L K ps' u (w.heap.size+3) hi W1)
  (h2:W2.heap.size=W1.heap.size) (hk:∀j,j≠X+1→j≠X+1+1→W2.heap[j]? =W1.heap[j]?) (ho:W2.os=W1.os∧W2.tape=W1.tape∧W2.output=W1.output) (hs:Mem.Blk W2 (X+1) #[.string n'.path, .int .i64 n'.kind, .string n'.data, .int .i64 n'.time, .int .i64 n'.mark] 55) (ht:Mem.Blk W2 (X+1+1) #[.bool b'] 4):
  Lp w d L K u hi X p ps' n' b' W2∧(∀N,X+1+1+1≤N→KeepsFrom N W W2)∧zp5.KF (X+1+1+1) W W2:=by
 have h1:=h.hiX;have h3:=h.lo;have hx:=h.dn.lt;have hsz:=bd.size;have e:∀j,j<W.heap.size→(j<w.heap.size+3∨hi≤j)→j≠X+1→j≠X+1+1→W2.heap[j]? =W.heap[j]?:=fun j a1 a2 a3 a4=>(hk j a3 a4).trans (bd.block j a1 a2);have hl:=h.bel.size;refine ⟨⟨⟨ho.1.trans (bd.os.trans h.bel.os),ho.2.1.trans (bd.tape.trans h.bel.tape),ho.2.2.trans (bd.output.trans h.bel.output),by omega,fun j hj=>(e j (by omega) (by omega) (by omega) (by omega)).trans (h.bel.block j hj)⟩,(e _ h.pth.lt (by omega) (by omega) (by omega)).trans h.pth,(e _ h.res.lt (by omega) (by omega) (by omega)).trans h.res,(e _ hx (by omega) (by omega) (by omega)).trans h.dn,hs,ht,?_,h1,h3⟩,fun N hN=>⟨by omega,fun j o hB hj hc=>(e j (Array.getElem?_eq_some_iff.1 hj).1 (by omega) (by omega) (by omega)).trans hj⟩,⟨by omega,fun j o hB hj hc=>(e j (Array.getElem?_eq_some_iff.1 hj).1 (by omega) (by omega) (by omega)).trans hj⟩⟩
 exact zt5 _ _ _ _ _ _ _ _ W1 W2 (by omega) (by omega) hw ⟨by omega,fun c hc hh=>hk c (by omega) (by omega)⟩
theorem Lp.put {w W W1:World} {d:Nat} {L:List Pl.Nd} {K:Pl.Fx} {u:Value} {hi X:Nat} {p:ByteArray} {ps ps':List ByteArray} {n:Pl.Nd} {b:Bool} (h:Lp w d L K u hi X p ps n b W) (bd:Mem.Band (w.heap.size+3) hi W W1) (hw:Wk w.heap.size d L K ps' u (w.heap.size+3) hi W1) (n':Pl.Nd) (b':Bool) (W2:World) (e2:W2=((((((W1.setCell ⟨X+1,0,none⟩ (.string n'.path)).setCell ⟨X+1,1,none⟩ (.int .i64 n'.kind)).setCell ⟨X+1,2,none⟩ (.string n'.data)).setCell ⟨X+1,3,none⟩ (.int .i64 n'.time)).setCell ⟨X+1,4,none⟩ (.int .i64 n'.mark)).setCell ⟨X+1+1,0,none⟩ (.bool b'))):
  Lp w d L K u hi X p ps' n' b' W2∧(∀N,X+1+1+1≤N→KeepsFrom N W W2)∧zp5.KF (X+1+1+1) W W2:=by
 have h1:=h.hiX;have S1:=bd.blk h.seen (.inr (by omega));have T1:=bd.blk h.th (.inr (by omega));have G1:W1.grownBy (((((W1.setCell ⟨X+1,0,none⟩ (.string n'.path)).setCell ⟨X+1,1,none⟩ (.int .i64 n'.kind)).setCell ⟨X+1,2,none⟩ (.string n'.data)).setCell ⟨X+1,3,none⟩ (.int .i64 n'.time)).setCell ⟨X+1,4,none⟩ (.int .i64 n'.mark)) (some (X+1)):=zi3.za2 (zi3.za2 (zi3.za2 (zi3.za2 (zi3.za2 (Mem.za4 (Below.refl _ W1) (some (X+1))) 0 (.string n'.path)) 1 (.int .i64 n'.kind)) 2 (.string n'.data)) 3 (.int .i64 n'.time)) 4 (.int .i64 n'.mark)
 have G2:(((((W1.setCell ⟨X+1,0,none⟩ (.string n'.path)).setCell ⟨X+1,1,none⟩ (.int .i64 n'.kind)).setCell ⟨X+1,2,none⟩ (.string n'.data)).setCell ⟨X+1,3,none⟩ (.int .i64 n'.time)).setCell ⟨X+1,4,none⟩ (.int .i64 n'.mark)).grownBy W2 (some (X+1+1)):=by
  rw [e2];exact zi3.za2 (Mem.za4 (Below.refl _ _) (some (X+1+1))) 0 (.bool b')
 have hz1:(((((W1.setCell ⟨X+1,0,none⟩ (.string n'.path)).setCell ⟨X+1,1,none⟩ (.int .i64 n'.kind)).setCell ⟨X+1,2,none⟩ (.string n'.data)).setCell ⟨X+1,3,none⟩ (.int .i64 n'.time)).setCell ⟨X+1,4,none⟩ (.int .i64 n'.mark)).heap.size=W1.heap.size:=by simp
 have hz2:W2.heap.size=W1.heap.size:=by rw [e2];simp
 refine h.step bd hw hz2 (fun j h1 h2=>?_) ⟨G2.os.trans G1.os,G2.tape.trans G1.tape,G2.output.trans G1.output⟩ ?_ ?_
 ·by_cases hj:j<W1.heap.size
  ·exact (G2.block j (by omega) (fun e=>h2 (Option.some.inj e))).trans (G1.block j hj (fun e=>h1 (Option.some.inj e)))
  ·rw [Array.getElem?_eq_none (by omega),Array.getElem?_eq_none (by omega)]
 ·have hs:=(((((S1.put 0 (.string n'.path)).put 1 (.int .i64 n'.kind)).put 2 (.string n'.data)).put 3 (.int .i64 n'.time)).put 4 (.int .i64 n'.mark)).far ⟨X+1+1,0,none⟩ (.bool b') (by show X+1≠X+1+1;omega);simp only [kB3,kB4,kB5] at hs;rw [e2];exact hs
 ·have e:∀i v W',Mem.Blk W' (X+1+1) #[.bool b] 4→Mem.Blk (W'.setCell ⟨X+1,i,none⟩ v) (X+1+1) #[.bool b] 4:=fun i v W' hh=>hh.far _ _ (by show X+1+1≠X+1;omega);have hs:=(e 4 (.int .i64 n'.mark) _ (e 3 (.int .i64 n'.time) _ (e 2 (.string n'.data) _ (e 1 (.int .i64 n'.kind) _ (e 0 (.string n'.path) _ T1))))).put 0 (.bool b');simp only [kB3,kB4,kB5] at hs;rw [e2];exact hs
theorem Lp.flag {w W:World} {d:Nat} {L:List Pl.Nd} {K:Pl.Fx} {u:Value} {hi X:Nat} {p:ByteArray} {ps:List ByteArray} {n:Pl.Nd} {b:Bool} (h:Lp w d L K u hi X p ps n b W) (b':Bool):Lp w d L K u hi X p ps n b' (W.setCell ⟨X+1+1,0,none⟩ (.bool b'))∧(∀N,X+1+1+1≤N→KeepsFrom N W (W.setCell ⟨X+1+1,0,none⟩ (.bool b'))):=by
 have hs:=h.th.put 0 (.bool b');simp only [kB3,kB4] at hs;have h2:=h.step (W1:=W) (W2:=W.setCell ⟨X+1+1,0,none⟩ (.bool b')) (Mem.Band.refl _ _ _) h.wk (by simp) (fun j _ h2=>heap_setCell_other _ _ _ _ (by exact h2)) ⟨rfl,rfl,rfl⟩ (h.seen.far _ _ (by show X+1≠X+1+1;omega)) hs;exact ⟨h2.1,h2.2.1⟩
def GoesOn (L:List Pl.Nd) (K:Pl.Fx) (ps:List ByteArray) (n:Pl.Nd) (b:Bool):Prop:=(ps=[]∧n=Pl.za3∧b=false)∨(ps≠[]∧Pl.fnH L K ps=some n∧b=true∧n.kind≠0∧n.kind≠2)
def Stops (L:List Pl.Nd) (K:Pl.Fx) (p:ByteArray) (ps:List ByteArray) (n:Pl.Nd) (b:Bool):Prop:=
 n=(Pl.fnH L K ps).getD Pl.za3∧((Pl.fnH L K ps=none∧b=false)∨(∃m,Pl.fnH L K ps=some m∧m.kind=0∧b=false)∨(∃m,Pl.fnH L K ps=some m∧m.kind=2∧b=decide (ps.getLastD ⟨#[]⟩=p)))
theorem stops_is {L:List Pl.Nd} {K:Pl.Fx} {p:ByteArray} (ht:Pl.zc7 L=true) (h4:K.len≤4) (hk:K.okX) (hp:Pl.za0 p=true) {ps:List ByteArray} {n:Pl.Nd} {b:Bool} (h:∃k,k<(Pl.za6 p).length∧ps=Pl.ways (Pl.za6 p) (k+1)) (hs:Stops L K p ps n b):Pl.zc9 L K p=if b then some (Pl.noMark n) else none:=by
 obtain ⟨k,hk1,rfl⟩:=h;obtain ⟨rfl,hs⟩:=hs;rw [Pl.zc1 hp] at hk1 hs ⊢;have hz:¬p.size=0:=fun e=>by rw [Pl.zs1 e] at hk1;exact absurd hk1 (Nat.not_lt_zero _)
 have hl:(Pl.zb3 p).length=(Pl.names p).length:=Pl.zm7 _ _;have hk2:k<(Pl.zb3 p).length:=by omega
 obtain ⟨hq,hqz⟩:=Pl.zn1 hp _ (List.mem_of_getElem? (Pl.zy2 hk2))
 have e:Pl.ways (Pl.names p) (k+1)=Pl.zb3 (Pl.glue ((Pl.names p).take (k+1))):=by
  rw [Pl.zw6 hp hk2];unfold Pl.zb3 Pl.ways;rw [←List.map_take,List.take_range,Nat.min_eq_left (by omega)]
 have e2:(Pl.ways (Pl.names p) (k+1)).getLastD ⟨#[]⟩=Pl.glue ((Pl.names p).take (k+1)):=by rw [Pl.yg];simp
 rw [e2] at hs;rw [e,Pl.fnH_ways L K hq hqz] at hs ⊢;exact Pl.walk_stop ht h4 hk hp hz hk2 _ rfl b hs
theorem goes_is {L:List Pl.Nd} {K:Pl.Fx} {p:ByteArray} (ht:Pl.zc7 L=true) (hp:Pl.za0 p=true) {ps:List ByteArray} {n:Pl.Nd} {b:Bool} (h:ps=Pl.ways (Pl.za6 p) (Pl.za6 p).length) (hs:GoesOn L K ps n b):Pl.zc9 L K p=if b then some (Pl.noMark n) else none:=by
 subst h;rw [Pl.zc1 hp] at hs;have e:Pl.ways (Pl.names p) (Pl.names p).length=Pl.zb3 p:=rfl;rw [e] at hs;by_cases hz:p.size=0
 ·have e0:Pl.zb3 p=[]:=by rw [Pl.zb3,Pl.zs1 hz];rfl
  rcases hs with ⟨-, -,rfl⟩|⟨h0, -⟩
  ·rw [Pl.yb4 ht hz];rfl
  ·exact absurd e0 h0
 rcases hs with ⟨h0, -⟩|⟨-,h1,rfl,h2, -⟩
 ·obtain ⟨ps,hps⟩:=Pl.zv9 hz;rw [hps] at h0;simp at h0
 ·rw [Pl.fnH_ways L K hp hz] at h1;exact Pl.walk_done h1 h2
set_option maxRecDepth 100000 in
set_option maxHeartbeats 4000000 in
theorem walk_any (d:Nat) (K:Pl.Fx) (L:List Pl.Nd) (q:Nat) (m:Int) (v:Value) (p:ByteArray) (w:World) (hd:K.shape.depth≤d) (h4:K.len≤4) (hx:K.okX) (ht:Pl.zc7 L=true) (hm:Mem.ownM w q L) (hl:Mem.layX w (fun b=>b<w.heap.size) K v) (hp:Pl.za0 p=true):
  Calls Tryz.prog 91 #[.agg #[.map (some q), .int .i64 m,v], .string p] w fun e w'=>(∃n b,e= .returned (.tuple #[.agg #[.string n.path, .int .i64 n.kind, .string n.data, .int .i64 n.time, .int .i64 0], .bool b])∧Pl.zc9 L K p=if b then some (Pl.noMark n) else none)∧Below w.heap.size w w':=by
 obtain ⟨a,cap,rfl,hrow⟩:=hl;have hps:=Pl.zg0 hp;have b0:Below w.heap.size w (((w.alloc (.cells #[.map (some q), .int .i64 m, .slice a K.len cap] 135)).alloc (.cells #[.string p] 9)).alloc (.cells #[.string ⟨#[]⟩, .int .i64 0, .string ⟨#[]⟩, .int .i64 0, .int .i64 0] 55)):=((bE0).alloc (by simp) _).alloc (by simp;omega) _;have N0:Mem.Blk (((w.alloc (.cells #[.map (some q), .int .i64 m, .slice a K.len cap] 135)).alloc (.cells #[.string p] 9)).alloc (.cells #[.string ⟨#[]⟩, .int .i64 0, .string ⟨#[]⟩, .int .i64 0, .int .i64 0] 55)) w.heap.size #[.map (some q), .int .i64 m, .slice a K.len cap] 135:=((Mem.Blk.new _ _ _).alloc _).alloc _
 have P0:Mem.Blk (((w.alloc (.cells #[.map (some q), .int .i64 m, .slice a K.len cap] 135)).alloc (.cells #[.string p] 9)).alloc (.cells #[.string ⟨#[]⟩, .int .i64 0, .string ⟨#[]⟩, .int .i64 0, .int .i64 0] 55)) (w.heap.size+1) #[.string p] 9:=(blk_two _ _ _ _).alloc _;have R0:Mem.Blk (((w.alloc (.cells #[.map (some q), .int .i64 m, .slice a K.len cap] 135)).alloc (.cells #[.string p] 9)).alloc (.cells #[.string ⟨#[]⟩, .int .i64 0, .string ⟨#[]⟩, .int .i64 0, .int .i64 0] 55)) (w.heap.size+1+1) #[.string ⟨#[]⟩, .int .i64 0, .string ⟨#[]⟩, .int .i64 0, .int .i64 0] 55:=yf _ _ _ _ _
 have hz3:(((w.alloc (.cells #[.map (some q), .int .i64 m, .slice a K.len cap] 135)).alloc (.cells #[.string p] 9)).alloc (.cells #[.string ⟨#[]⟩, .int .i64 0, .string ⟨#[]⟩, .int .i64 0, .int .i64 0] 55)).heap.size=w.heap.size+3:=by simp
 obtain ⟨c0,c1,c2⟩:=jc3 N0;have HOF:=hide (of_any w.heap.size d K L q m (.slice a K.len cap) _ hd h4 hx b0.size hm.lt (hm.call b0) (Mem.zo1 ⟨a,cap,rfl,hrow⟩ b0));have HASK:=hide (fun (W:World) (lo hi:Nat) (u:Value) (ps:List ByteArray) (x:ByteArray) (hxs:x.size≤1048576) (hw:Wk w.heap.size d L K ps u lo hi W)=>ask_any w.heap.size x hxs ps d L K u lo hi W hd ht hx h4 hw)
 have HLE:=hide (fun x (h:x∈Pl.ways (Pl.za6 p) (Pl.za6 p).length)=>(by
  have e:Pl.ways (Pl.za6 p) (Pl.za6 p).length=Pl.zb3 p:=by unfold Pl.zb3;rw [Pl.zc1 hp]
  rw [e] at h;have :=Pl.zg0 (Pl.zn1 hp x h).1
  omega :x.size≤1048576))
 have HFIN:Hid (∀ps n b,(∃k,k<(Pl.za6 p).length∧ps=Pl.ways (Pl.za6 p) (k+1))→Stops L K p ps n b→Pl.zc9 L K p=if b then some (Pl.noMark n) else none):=hide fun ps n b hk hs=>stops_is ht h4 hx hp hk hs;have HDON:Hid (∀ps n b,ps=Pl.ways (Pl.za6 p) (Pl.za6 p).length→GoesOn L K ps n b→Pl.zc9 L K p=if b then some (Pl.noMark n) else none):=hide fun ps n b hk hs=>goes_is ht hp hk hs;clear hrow hm hd hx;refine (callsIn_wide (n:=3)).1 ?_;refine callsIn_of_wp_marks Tryz.func91 rfl trivial ?_ rfl;simp only [Tryz.ntmps91,List.size_toArray,List.length_cons,List.length_nil,Nat.reduceAdd,Nat.reduceSub,Array.replicate_succ,Array.replicate_zero,List.push_toArray,List.append_toArray,List.nil_append,List.cons_append]
 gi_wp2_with fail
 refine wpIn_wide.2 (wp_scope_straight ((wpIn_wide (n:=3)).1 ?_))
 gi_wp2_with fail
 refine ⟨trivial,?_⟩;generalize ((w.alloc (.cells #[.map (some q), .int .i64 m, .slice a K.len cap] 135)).alloc (.cells #[.string p] 9)).alloc (.cells #[.string ⟨#[]⟩, .int .i64 0, .string ⟨#[]⟩, .int .i64 0, .int .i64 0] 55)=w1 at b0 N0 P0 R0 c0 c1 c2 HOF hz3 ⊢;refine (callsIn_wide.2 (za HOF)).mono ?_;rintro e w2 ⟨u,rfl,hw2,b2⟩;rw [hz3] at hw2;have hz2:=b2.size;rw [hz3] at hz2;have hb2:=b0.trans (b2.mono b0.size);have P2:=P0.call b2;have R2:=R0.call b2;obtain ⟨uT,ux,hu⟩:=wk_iface hw2
 have b5:Below w2.heap.size w2 ((((w2.alloc (.cells #[u] 223)).alloc (.cells #[.string ⟨#[]⟩, .int .i64 0, .string ⟨#[]⟩, .int .i64 0, .int .i64 0] 55)).alloc (.cells #[.bool false] 4)).alloc (.cells #[.string p] 9)):=(((bE0).alloc (by simp) _).alloc (by simp;omega) _).alloc (by simp;omega) _;have D5:Mem.Blk ((((w2.alloc (.cells #[u] 223)).alloc (.cells #[.string ⟨#[]⟩, .int .i64 0, .string ⟨#[]⟩, .int .i64 0, .int .i64 0] 55)).alloc (.cells #[.bool false] 4)).alloc (.cells #[.string p] 9)) w2.heap.size #[u] 223:=(((Mem.Blk.new _ _ _).alloc _).alloc _).alloc _
 have S5:Mem.Blk ((((w2.alloc (.cells #[u] 223)).alloc (.cells #[.string ⟨#[]⟩, .int .i64 0, .string ⟨#[]⟩, .int .i64 0, .int .i64 0] 55)).alloc (.cells #[.bool false] 4)).alloc (.cells #[.string p] 9)) (w2.heap.size+1) #[.string ⟨#[]⟩, .int .i64 0, .string ⟨#[]⟩, .int .i64 0, .int .i64 0] 55:=((blk_two _ _ _ _).alloc _).alloc _;have T5:Mem.Blk ((((w2.alloc (.cells #[u] 223)).alloc (.cells #[.string ⟨#[]⟩, .int .i64 0, .string ⟨#[]⟩, .int .i64 0, .int .i64 0] 55)).alloc (.cells #[.bool false] 4)).alloc (.cells #[.string p] 9)) (w2.heap.size+1+1) #[.bool false] 4:=(yf _ _ _ _ _).alloc _
 have Q5:Mem.Blk ((((w2.alloc (.cells #[u] 223)).alloc (.cells #[.string ⟨#[]⟩, .int .i64 0, .string ⟨#[]⟩, .int .i64 0, .int .i64 0] 55)).alloc (.cells #[.bool false] 4)).alloc (.cells #[.string p] 9)) (w2.heap.size+1+1+1) #[.string p] 9:=blk_four _ _ _ _ _ _;have z5:((((w2.alloc (.cells #[u] 223)).alloc (.cells #[.string ⟨#[]⟩, .int .i64 0, .string ⟨#[]⟩, .int .i64 0, .int .i64 0] 55)).alloc (.cells #[.bool false] 4)).alloc (.cells #[.string p] 9)).heap.size=w2.heap.size+1+1+1+1:=by simp
 have z4:(((w2.alloc (.cells #[u] 223)).alloc (.cells #[.string ⟨#[]⟩, .int .i64 0, .string ⟨#[]⟩, .int .i64 0, .int .i64 0] 55)).alloc (.cells #[.bool false] 4)).heap.size=w2.heap.size+1+1+1:=by simp
 have z6:((w2.alloc (.cells #[u] 223)).alloc (.cells #[.string ⟨#[]⟩, .int .i64 0, .string ⟨#[]⟩, .int .i64 0, .int .i64 0] 55)).heap.size=w2.heap.size+1+1:=by simp
 have z7:(w2.alloc (.cells #[u] 223)).heap.size=w2.heap.size+1:=by simp
 have L5:Hid (Lp w d L K u w2.heap.size w2.heap.size p [] Pl.za3 false ((((w2.alloc (.cells #[u] 223)).alloc (.cells #[.string ⟨#[]⟩, .int .i64 0, .string ⟨#[]⟩, .int .i64 0, .int .i64 0] 55)).alloc (.cells #[.bool false] 4)).alloc (.cells #[.string p] 9))):=hide ⟨hb2.trans (b5.mono hb2.size),P2.call b5,R2.call b5,D5,S5,T5,zz5 hw2 (Nat.le_refl _) hb2.size b5,Nat.le_refl _,hz2⟩;have q3:=(P2.alloc (.cells #[u] 223)).cell 0;have q4:=((P2.alloc (.cells #[u] 223)).alloc (.cells #[.string ⟨#[]⟩, .int .i64 0, .string ⟨#[]⟩, .int .i64 0, .int .i64 0] 55)).cell 0;have q5:=(((P2.alloc (.cells #[u] 223)).alloc (.cells #[.string ⟨#[]⟩, .int .i64 0, .string ⟨#[]⟩, .int .i64 0, .int .i64 0] 55)).alloc (.cells #[.bool false] 4)).cell 0;have q6:=Q5.cell 0;simp only [kGs] at q3 q4 q5 q6
 have hb5:=hide (hb2.trans (b5.mono hb2.size));clear b0 N0 P0 R0 c0 c1 c2 HOF b2 b5 D5 S5 T5 Q5 hb2 P2 R2 hw2;subst hu
 gi_wp2_with fail
 refine wpIn_label ?_
 gi_wp2_with fail
 refine ⟨trivial,?_⟩;refine (callsIn_wide.2 (zp5.paths_any p _)).mono ?_;rintro e w5 ⟨rfl,hw5⟩
 try rw [z4]
 have L6:Hid (Lp w d L K (.iface uT ux) w2.heap.size w2.heap.size p [] Pl.za3 false w5):=by rw [hw5];exact L5
 have HZQ:Hid (w5.heap.size=w2.heap.size+1+1+1+1):=hide (by rw [hw5];exact z5);rw [←hw5] at q6;have Q6:=hide q6;clear hw5 L5 z5 z4 z6 z7 q3 q4 q5 q6 hb5;generalize w2.heap.size=X at L6 HZQ Q6 hz2 ⊢;have HLO:w.heap.size+3≤X:=hz2
 gi_wp2_with fail
 refine wpIn_rangeFunc_ownG rfl (by omega) (gf:=144) (lb:=#[.pointer (some ⟨X+1+1+1,0,none⟩)]) rfl trivial (enters_of Tryz.func144 (by kernel_rfl) rfl)
  (zp5.iter_waysX (Pl.za6 p) 2 (X+1+1+1) ⟨X+1+1+1,0,none⟩ p w5 (by rw [za HZQ];omega) (za Q6) (by show X+1+1+1<_;rw [za HZQ];omega) (by omega) rfl) zp5.KF.trans (fun W l o o' _ hl ho _=>zp5.KF.put W o o' hl ho) (Below.refl _ _) (fun _=>rfl)
  (fun (pre:List (zp5.WayX (Pl.za6 p))) W=>∃n b,Lp w d L K (.iface uT ux) X X p (pre.map Subtype.val) n b W∧GoesOn L K (pre.map Subtype.val) n b)
  (fun c pre W=>c= .exit 0∧∃n b,Lp w d L K (.iface uT ux) X X p (pre.map Subtype.val) n b W∧Stops L K p (pre.map Subtype.val) n b)
  (fun s A A' row ⟨n,b,hs,hg2⟩ hg hr=>⟨n,b,hs.own hg (N:=w5.heap.size) (by rw [za HZQ];omega) hr,hg2⟩)
  (fun c s A A' row ⟨hc,n,b,hs,hg2⟩ hg hr=>⟨hc,n,b,hs.own hg (N:=w5.heap.size) (by rw [za HZQ];omega) hr,hg2⟩)
  ⟨_,_,za L6, .inl ⟨rfl,rfl,rfl⟩⟩
  (fun x=>{ tmps:=#[.agg #[.map (some q), .int .i64 m, .slice a K.len cap], .string p, .pointer (some ⟨w.heap.size,0,none⟩), .pointer (some ⟨w.heap.size+1,0,none⟩), .pointer (some ⟨w.heap.size+1+1,0,none⟩), .bool false, .pointer (some ⟨X,0,none⟩), .pointer (some ⟨X+1,0,none⟩), .pointer (some ⟨X+1+1,0,none⟩), .string x.1, .agg #[.map (some q), .int .i64 m, .slice a K.len cap], .iface uT ux, .string p, .func (.func 144) #[] #[.pointer (some ⟨X+1+1+1,0,none⟩)], .string x.1,undef,undef,undef,undef,undef,undef,undef,undef,undef,undef,undef,undef,undef,undef,undef,undef,undef,undef,undef,undef,undef,undef,undef,undef],defers:=[] }) ?assign ?body ?done ?stop
 case assign=>
  intro l x W K hK
  gi_wp2
  exact hK
 case body=>
  rintro l pre ⟨x,hx⟩ W ⟨n,b,hL,hG⟩ hlen;have HM:Hid ((pre++[(⟨x,hx⟩:zp5.WayX (Pl.za6 p))]).map Subtype.val=pre.map Subtype.val++[x]):=by rw [List.map_append];exact rfl
  have hxs:=za HLE x hx;obtain ⟨T,xv,F,r,hv,hmt,hcf,hat⟩:=za HASK W _ X (.iface uT ux) (pre.map Subtype.val) x hxs hL.wk;obtain ⟨rfl,rfl⟩:uT=T∧ux=xv:=by injection hv with e1 e2;exact ⟨e1,e2⟩
  generalize pre.map Subtype.val=ps at hL hG HM hat;have k0:=hL.dn.cell 0;simp only [kA0,kA1] at k0;have hB:=za HZQ;have HFE:=hide (rfl:Pl.fnH L K (ps++[x])=Pl.fnH L K (ps++[x]));have KL:=hide hL;have HEQ:Hid (w5.heap.size=X+1+1+1+1):=hide hB;clear hL hG hB hv;cases ho:Pl.fnH L K (ps++[x]) with
  |none=>
   rw [ho] at hat;simp only [Option.getD_none,Option.isSome_none,Pl.za3,Pl.Nd.val] at hat;replace hat:=hide hat;have HO:=hide ho;clear ho HFE
   gi_wp2_with fail
   refine ⟨trivial,?_⟩;refine (CallsIn.inRound l (callsIn_wide.2 (za hat))).mono ?_;rintro e w1 ⟨rfl,bd,hw⟩;have PP:=(za KL).put bd hw Pl.za3 false _ rfl;have P2:=PP.1.flag false;have HE:Hid (_∧_):=hide ⟨P2.1,fun N hN=>(PP.2.1 N hN).trans (P2.2 N hN)⟩;have hXX:=(za KL).hiX;have S1:=bd.blk (za KL).seen (.inr (by omega));have T1:=bd.blk (za KL).th (.inr (by omega));obtain ⟨⟨s0,s1,s2,s3,s4⟩,fs0,fs1,fs2,fs3,fs4⟩:=jf5 S1;have t0:=T1.cell 0;have ft0:=T1.fr 0;simp only [kGs] at t0;clear PP P2 S1 T1 hat bd hw k0;simp only [Pl.za3] at HE
   gi_wp2
   exact ⟨(za HE).2 _ (by rw [za HEQ];omega),rfl,_,_,by rw [za HM];exact (za HE).1,by rw [za HM];exact ⟨by rw [za HO];rfl, .inl ⟨za HO,rfl⟩⟩⟩
  |some nn=>
   obtain ⟨np,nk,nd,nt,nm⟩:=nn;rw [ho] at hat;simp only [Option.getD_some,Option.isSome_some,Pl.Nd.val] at hat;replace hat:=hide hat;have HO:=hide ho;clear ho HFE;have hn0:nk=0∨nk≠0:=by omega
   have hXX:=(za KL).hiX;by_cases hk0:nk=0
   ·subst hk0
    gi_wp2_with fail
    refine ⟨trivial,?_⟩;refine (CallsIn.inRound l (callsIn_wide.2 (za hat))).mono ?_;rintro e w1 ⟨rfl,bd,hw⟩;have PP:=(za KL).put bd hw ⟨np,0,nd,nt,nm⟩ true _ rfl;have P2:=PP.1.flag false;have HE:Hid (_∧_):=hide ⟨P2.1,fun N hN=>(PP.2.1 N hN).trans (P2.2 N hN)⟩;have S1:=bd.blk (za KL).seen (.inr (by omega));have T1:=bd.blk (za KL).th (.inr (by omega));obtain ⟨⟨s0,s1,s2,s3,s4⟩,fs0,fs1,fs2,fs3,fs4⟩:=jf5 S1;have t0:=T1.cell 0;have ft0:=T1.fr 0;simp only [kGs] at t0;clear PP P2 S1 T1 hat bd hw k0
    gi_wp2
    exact ⟨(za HE).2 _ (by rw [za HEQ];omega),rfl,_,_,by rw [za HM];exact (za HE).1,by rw [za HM];exact ⟨by rw [za HO];rfl, .inr (.inl ⟨_,za HO,rfl,rfl⟩)⟩⟩
   by_cases hk2:nk=2
   ·subst hk2
    have hxp:(x=p∧decide (x=p)=true)∨(x≠p∧decide (x=p)=false):=by
     by_cases e:x=p
     ·exact .inl ⟨e,decide_eq_true e⟩
     ·exact .inr ⟨e,decide_eq_false e⟩
    have q1:=(za KL).pth.cell 0
    gi_wp2_with fail
    refine ⟨trivial,?_⟩;refine (CallsIn.inRound l (callsIn_wide.2 (za hat))).mono ?_;rintro e w1 ⟨rfl,bd,hw⟩;have PP:=(za KL).put bd hw ⟨np,2,nd,nt,nm⟩ true _ rfl;have P2:=fun b=>PP.1.flag b;have HE:Hid (∀b:Bool,_∧_):=hide fun b=>⟨(P2 b).1,fun N hN=>(PP.2.1 N hN).trans ((P2 b).2 N hN)⟩;have S1:=bd.blk (za KL).seen (.inr (by omega));have T1:=bd.blk (za KL).th (.inr (by omega));have pp:=(bd.blk (za KL).pth (.inl (by omega))).cell 0;simp only [kGs] at pp;obtain ⟨⟨s0,s1,s2,s3,s4⟩,fs0,fs1,fs2,fs3,fs4⟩:=jf5 S1;have t0:=T1.cell 0;have ft0:=T1.fr 0;simp only [kGs] at t0;clear PP P2 S1 T1 hat bd hw k0 q1
    rcases hxp with ⟨e0,e2⟩|⟨e0,e2⟩
    ·gi_wp2
     exact ⟨(za HE true).2 _ (by rw [za HEQ];omega),rfl,_,_,by rw [za HM];exact (za HE true).1,by rw [za HM];exact ⟨by rw [za HO];rfl, .inr (.inr ⟨_,za HO,rfl,by simpa using e0⟩)⟩⟩
    ·have e3:(x.toList==p.toList)=false:=Pl.zj8 e0
     gi_wp2
     exact ⟨(za HE false).2 _ (by rw [za HEQ];omega),rfl,_,_,by rw [za HM];exact (za HE false).1,by rw [za HM];exact ⟨by rw [za HO];rfl, .inr (.inr ⟨_,za HO,rfl,by simpa using e0⟩)⟩⟩
   ·have ek0:(nk==0)=false:=by simpa using hk0
    have ek2:(nk==2)=false:=by simpa using hk2
    gi_wp2_with fail
    refine ⟨trivial,?_⟩;refine (CallsIn.inRound l (callsIn_wide.2 (za hat))).mono ?_;rintro e w1 ⟨rfl,bd,hw⟩;have PP:=hide ((za KL).put bd hw ⟨np,nk,nd,nt,nm⟩ true _ rfl);have S1:=bd.blk (za KL).seen (.inr (by omega));have T1:=bd.blk (za KL).th (.inr (by omega));obtain ⟨⟨s0,s1,s2,s3,s4⟩,fs0,fs1,fs2,fs3,fs4⟩:=jf5 S1;have t0:=T1.cell 0;have ft0:=T1.fr 0;simp only [kGs] at t0;clear S1 T1 hat bd hw k0
    gi_wp2
    exact ⟨(za PP).2.1 _ (by rw [za HEQ];omega),(za PP).2.2,_,_,by rw [za HM];exact (za PP).1,by rw [za HM];exact .inr ⟨by simp,za HO,rfl,hk0,hk2⟩⟩
 case done=>
  rintro D ys W hD hy ⟨n,b,hL,hG⟩ hK;rw [hy] at hG hL;have HO:=hide (za HDON _ n b rfl hG);clear hG hy;obtain ⟨np,nk,nd,nt,nm⟩:=n;have hDX:w.heap.size+1+1≤D∧X+1+1<D:=by rw [za HZQ] at hD;omega
  have HK:=hide hK;have HH:=hide hL;have LO:=hide (⟨hL.hiX,hL.lo⟩:_∧_);obtain ⟨⟨s0,s1,s2,s3,s4⟩,fs0,fs1,fs2,fs3,fs4⟩:=jf5 (hL.seen);have t0:=(hL.th).cell 0;simp only [kGs] at t0;obtain ⟨⟨r0,r1,r2,r3,r4⟩,fr0,fr1,fr2,fr3,fr4⟩:=jf5 (hL.res);have SW:=hL.seen.put 4 (.int .i64 0);have RW:=hL.res.far ⟨X+1,4,none⟩ (.int .i64 0) (by have :=hL.hiX;have :=hL.lo;show w.heap.size+1+1≠X+1;omega)
  have TW:=hL.th.far ⟨X+1,4,none⟩ (.int .i64 0) (by show X+1+1≠X+1;omega);have BW:=hide (hL.bel.setCell (p:=⟨X+1,4,none⟩) (by have :=hL.hiX;have :=hL.lo;show w.heap.size≤X+1;omega) (.int .i64 0));have DW:=hide (show (W.setCell ⟨X+1,4,none⟩ (.int .i64 0)).heap[D]? =some (.deferred (some [])) from (heap_setCell_other _ _ _ _ (by show D≠X+1;omega)).trans (za HK));clear hL hK HK;simp only [kB3,kB4,kB5] at SW
  gi_wp2_with fail
  clear s0 s1 s2 s3 s4 fs0 fs1 fs2 fs3 fs4 t0 r0 r1 r2 r3 r4 fr0 fr1 fr2 fr3 fr4;generalize W.setCell ⟨X+1,4,none⟩ (.int .i64 0)=W2 at SW RW TW BW DW ⊢;obtain ⟨s0,s1,s2,s3,s4⟩:=jc5 SW;have t0:=(TW).cell 0;simp only [kGs] at t0;obtain ⟨⟨r0,r1,r2,r3,r4⟩,fr0,fr1,fr2,fr3,fr4⟩:=jf5 RW
  gi_region
  gi_wp2_with fail
  have R5:=(((((RW.put 0 (.string np)).put 1 (.int .i64 nk)).put 2 (.string nd)).put 3 (.int .i64 nt)).put 4 (.int .i64 0));have B5:=((((((za BW).setCell (p:=⟨w.heap.size+1+1,0,none⟩) (by show w.heap.size≤w.heap.size+1+1;omega) (.string np)).setCell (p:=⟨w.heap.size+1+1,1,none⟩) (by show w.heap.size≤w.heap.size+1+1;omega) (.int .i64 nk)).setCell (p:=⟨w.heap.size+1+1,2,none⟩) (by show w.heap.size≤w.heap.size+1+1;omega) (.string nd)).setCell (p:=⟨w.heap.size+1+1,3,none⟩) (by show w.heap.size≤w.heap.size+1+1;omega) (.int .i64 nt)).setCell (p:=⟨w.heap.size+1+1,4,none⟩) (by show w.heap.size≤w.heap.size+1+1;omega) (.int .i64 0))
  have D5:(((((W2.setCell ⟨w.heap.size+1+1,0,none⟩ (.string np)).setCell ⟨w.heap.size+1+1,1,none⟩ (.int .i64 nk)).setCell ⟨w.heap.size+1+1,2,none⟩ (.string nd)).setCell ⟨w.heap.size+1+1,3,none⟩ (.int .i64 nt)).setCell ⟨w.heap.size+1+1,4,none⟩ (.int .i64 0)).heap[D]? =some (.deferred (some [])):=by
   rw [heap_setCell_other _ _ _ _ (by show D≠w.heap.size+1+1;omega),heap_setCell_other _ _ _ _ (by show D≠w.heap.size+1+1;omega),heap_setCell_other _ _ _ _ (by show D≠w.heap.size+1+1;omega),heap_setCell_other _ _ _ _ (by show D≠w.heap.size+1+1;omega),heap_setCell_other _ _ _ _ (by show D≠w.heap.size+1+1;omega)];exact za DW
  simp only [kB3,kB4,kB5] at R5;generalize (((((W2.setCell ⟨w.heap.size+1+1,0,none⟩ (.string np)).setCell ⟨w.heap.size+1+1,1,none⟩ (.int .i64 nk)).setCell ⟨w.heap.size+1+1,2,none⟩ (.string nd)).setCell ⟨w.heap.size+1+1,3,none⟩ (.int .i64 nt)).setCell ⟨w.heap.size+1+1,4,none⟩ (.int .i64 0))=W3 at R5 B5 D5 ⊢;have B6:=B5.trans ((bD (n:=W3.heap.size) W3).mono B5.size);have R6:=R5.call (bD _);have D6:W3.drew.heap[D]? =some (.deferred (some [])):=D5;generalize W3.drew=W4 at B6 R6 D6 ⊢;have R7:=zt0 R6 (grownBy_putObj' _ D (.deferred none)) (fun r e=>by cases e;exact ⟨_,D6,rfl⟩);have B7:=B6.grown (grownBy_putObj' _ D (.deferred none)) B6.size (fun q hq=>by cases hq;omega);obtain ⟨g0,g1,g2,g3,g4⟩:=jc5 R7;rw [Exit.noGoto_ret]
  refine ⟨by simp, .inl ⟨_,_,rfl,run_takeDeferred D6,?_⟩⟩;exact ⟨.tuple #[.agg #[.string np, .int .i64 nk, .string nd, .int .i64 nt, .int .i64 0], .bool b],by simp [results,Tryz.results91,go_sem,g0,g1,g2,g3,g4],⟨_,_,rfl,za HO⟩,B7⟩
 case stop=>
  rintro D c pre W hD hy ⟨rfl,n,b,hL,hG⟩ hK;have HO:=hide (za HFIN _ n b hy hG);clear hG hy;obtain ⟨np,nk,nd,nt,nm⟩:=n;have hDX:w.heap.size+1+1≤D∧X+1+1<D:=by rw [za HZQ] at hD;omega
  have HK:=hide hK;have HH:=hide hL;have LO:=hide (⟨hL.hiX,hL.lo⟩:_∧_);obtain ⟨⟨s0,s1,s2,s3,s4⟩,fs0,fs1,fs2,fs3,fs4⟩:=jf5 (hL.seen);have t0:=(hL.th).cell 0;simp only [kGs] at t0;obtain ⟨⟨r0,r1,r2,r3,r4⟩,fr0,fr1,fr2,fr3,fr4⟩:=jf5 (hL.res);have SW:=hL.seen.put 4 (.int .i64 0);have RW:=hL.res.far ⟨X+1,4,none⟩ (.int .i64 0) (by have :=hL.hiX;have :=hL.lo;show w.heap.size+1+1≠X+1;omega)
  have TW:=hL.th.far ⟨X+1,4,none⟩ (.int .i64 0) (by show X+1+1≠X+1;omega);have BW:=hide (hL.bel.setCell (p:=⟨X+1,4,none⟩) (by have :=hL.hiX;have :=hL.lo;show w.heap.size≤X+1;omega) (.int .i64 0));have DW:=hide (show (W.setCell ⟨X+1,4,none⟩ (.int .i64 0)).heap[D]? =some (.deferred (some [])) from (heap_setCell_other _ _ _ _ (by show D≠X+1;omega)).trans (za HK));clear hL hK HK;simp only [kB3,kB4,kB5] at SW
  gi_wp2_with fail
  clear s0 s1 s2 s3 s4 fs0 fs1 fs2 fs3 fs4 t0 r0 r1 r2 r3 r4 fr0 fr1 fr2 fr3 fr4;generalize W.setCell ⟨X+1,4,none⟩ (.int .i64 0)=W2 at SW RW TW BW DW ⊢;obtain ⟨s0,s1,s2,s3,s4⟩:=jc5 SW;have t0:=(TW).cell 0;simp only [kGs] at t0;obtain ⟨⟨r0,r1,r2,r3,r4⟩,fr0,fr1,fr2,fr3,fr4⟩:=jf5 RW
  gi_region
  gi_wp2_with fail
  have R5:=(((((RW.put 0 (.string np)).put 1 (.int .i64 nk)).put 2 (.string nd)).put 3 (.int .i64 nt)).put 4 (.int .i64 0));have B5:=((((((za BW).setCell (p:=⟨w.heap.size+1+1,0,none⟩) (by show w.heap.size≤w.heap.size+1+1;omega) (.string np)).setCell (p:=⟨w.heap.size+1+1,1,none⟩) (by show w.heap.size≤w.heap.size+1+1;omega) (.int .i64 nk)).setCell (p:=⟨w.heap.size+1+1,2,none⟩) (by show w.heap.size≤w.heap.size+1+1;omega) (.string nd)).setCell (p:=⟨w.heap.size+1+1,3,none⟩) (by show w.heap.size≤w.heap.size+1+1;omega) (.int .i64 nt)).setCell (p:=⟨w.heap.size+1+1,4,none⟩) (by show w.heap.size≤w.heap.size+1+1;omega) (.int .i64 0))
  have D5:(((((W2.setCell ⟨w.heap.size+1+1,0,none⟩ (.string np)).setCell ⟨w.heap.size+1+1,1,none⟩ (.int .i64 nk)).setCell ⟨w.heap.size+1+1,2,none⟩ (.string nd)).setCell ⟨w.heap.size+1+1,3,none⟩ (.int .i64 nt)).setCell ⟨w.heap.size+1+1,4,none⟩ (.int .i64 0)).heap[D]? =some (.deferred (some [])):=by
   rw [heap_setCell_other _ _ _ _ (by show D≠w.heap.size+1+1;omega),heap_setCell_other _ _ _ _ (by show D≠w.heap.size+1+1;omega),heap_setCell_other _ _ _ _ (by show D≠w.heap.size+1+1;omega),heap_setCell_other _ _ _ _ (by show D≠w.heap.size+1+1;omega),heap_setCell_other _ _ _ _ (by show D≠w.heap.size+1+1;omega)];exact za DW
  simp only [kB3,kB4,kB5] at R5;generalize (((((W2.setCell ⟨w.heap.size+1+1,0,none⟩ (.string np)).setCell ⟨w.heap.size+1+1,1,none⟩ (.int .i64 nk)).setCell ⟨w.heap.size+1+1,2,none⟩ (.string nd)).setCell ⟨w.heap.size+1+1,3,none⟩ (.int .i64 nt)).setCell ⟨w.heap.size+1+1,4,none⟩ (.int .i64 0))=W3 at R5 B5 D5 ⊢;have B6:=B5.trans ((bD (n:=W3.heap.size) W3).mono B5.size);have R6:=R5.call (bD _);have D6:W3.drew.heap[D]? =some (.deferred (some [])):=D5;generalize W3.drew=W4 at B6 R6 D6 ⊢;have R7:=zt0 R6 (grownBy_putObj' _ D (.deferred none)) (fun r e=>by cases e;exact ⟨_,D6,rfl⟩);have B7:=B6.grown (grownBy_putObj' _ D (.deferred none)) B6.size (fun q hq=>by cases hq;omega);obtain ⟨g0,g1,g2,g3,g4⟩:=jc5 R7;rw [Exit.noGoto_ret]
  refine ⟨by simp, .inl ⟨_,_,rfl,run_takeDeferred D6,?_⟩⟩;exact ⟨.tuple #[.agg #[.string np, .int .i64 nk, .string nd, .int .i64 nt, .int .i64 0], .bool b],by simp [results,Tryz.results91,go_sem,g0,g1,g2,g3,g4],⟨_,_,rfl,za HO⟩,B7⟩
end WWk
end Go.Proofs.YtbomeifgfalmdaaGreatDoor
