/- Several texts of one claim in one file: MemTold, MemPickO, MemOwnB, MemPutI, MemPick, WMkB, WMkY, WAn, WAn2, WMarks, WMarkU, WVfsL0, WPathsTo. -/
import Derived.Test.YtbomeifgfalmdaaGreatDoorG10
import Derived.RangeFuncNested
import Derived.RangeFuncBound
import Derived.Shelf.RegionOpen
import Derived.OwnWalkIn
import Derived.LoopNIn
import Derived.LoopIn
set_option linter.unusedSimpArgs false
set_option maxRecDepth 100000
set_option maxHeartbeats 2000000
namespace Go.Proofs.YtbomeifgfalmdaaGreatDoor
section
open Go.RowKit Go.Maps
namespace Mem
theorem Iz.up {W W':World} {S S2:Nat} {v:Value} {Ns:List Pl.Ns} {lo hi:Nat→Nat} {r:Option Nat} (h:Iz W S v Ns lo hi) (gr:W.grownBy W' r) (hr:∀g,r=some g→S2≤g) (hv:∀g,v.ownBlock=some g→g<S2) (hh:∀j,j<Ns.length→hi j≤S2):Iz W' S v Ns lo hi:=
 ⟨zi7 h.row (fun g hg=>gr.block g (World.ownsRow.lt h.row g hg).2 (fun e=>by have :=hr g e.symm;have :=hv g hg;omega)),fun j x hx=>by
  obtain ⟨h1,h2,h3,h4,h5⟩:=h.each j x hx;have :=hh j (List.getElem?_eq_some_iff.1 hx).1
  exact ⟨h1.same (fun b hb1 hb2=>gr.block b (by omega) (fun e=>by have :=hr b e.symm;omega)),h2,h3,Nat.le_trans h4 gr.size,h5⟩,h.rise⟩
end Mem
namespace SpO
structure Tk (w W:World) (q:Nat) (sa ta:Option Addr) (sc tc:Nat) (s:Pl.Sp) (O:Array Value):Prop where
 bel:Below w.heap.size w W
 b1:Mem.Blk W w.heap.size #[.map (some q), .slice sa s.M.length sc, .slice ta s.H.length tc, .int .i64 s.next] 65
 b2:Mem.Blk W (w.heap.size+1) #[.slice none 0 0, .slice none 0 0, .slice none 0 0, .int .i64 0] 32
 b3:Mem.Blk W (w.heap.size+2) O 32
theorem Tk.call {w W W':World} {q:Nat} {sa ta:Option Addr} {sc tc:Nat} {s:Pl.Sp} {O:Array Value} (h:Tk w W q sa ta sc tc s O) (b:Below W.heap.size W W'):Tk w W' q sa ta sc tc s O:=⟨h.bel.trans (b.mono h.bel.size),h.b1.call b,h.b2.call b,h.b3.call b⟩
theorem Tk.put {w W:World} {q:Nat} {sa ta:Option Addr} {sc tc:Nat} {s:Pl.Sp} {O:Array Value} (h:Tk w W q sa ta sc tc s O) (k:Nat) (v:Value):Tk w (W.setCell ⟨w.heap.size+2,k,none⟩ v) q sa ta sc tc s (O.setIfInBounds k v):=
 ⟨h.bel.setCell (by show w.heap.size≤w.heap.size+2;omega) _,h.b1.far _ _ (by show w.heap.size≠w.heap.size+2;omega),h.b2.far _ _ (by show w.heap.size+1≠w.heap.size+2;omega),h.b3.put k v⟩
theorem Tk.grown {w W W':World} {q:Nat} {sa ta:Option Addr} {sc tc:Nat} {s:Pl.Sp} {O:Array Value} {r:Option Nat} (h:Tk w W q sa ta sc tc s O) (g:W.grownBy W' r) (hr:∀b,r=some b→w.heap.size+2<b):Tk w W' q sa ta sc tc s O:=
 ⟨⟨g.os.trans h.bel.os,g.tape.trans h.bel.tape,g.output.trans h.bel.output,Nat.le_trans h.bel.size g.size,fun j hj=>(g.block j (Nat.lt_of_lt_of_le hj h.bel.size) (fun e=>by have :=hr j e.symm;omega)).trans (h.bel.block j hj)⟩,h.b1.grown g (fun e=>by have :=hr _ e.symm;omega),h.b2.grown g (fun e=>by have :=hr _ e.symm;omega),h.b3.grown g (fun e=>by have :=hr _ e.symm;omega)⟩
def ids (w:World) (lo hi:Nat) (a:Option Addr) (L:List Int):Prop:=∀ (i:Nat) x,L[i]? =some x→∃b,a=some ⟨b,0,none⟩∧lo<b∧b<hi∧w.cell? ⟨b,i,none⟩=some (.int .i64 x)
theorem nest_of {W:World} {B:Nat} {E:List (Int × Pl.Nv)} {N:List Pl.Ns} (h:Mem.zi1 W B E N) (he:E.map (·.1)=N.map (·.d)) (hp:(N.map (·.d)).Pairwise (· ≠ ·)) {k:Nat} {x:Pl.Ns} (hx:N[k]? =some x):Mem.zj3 W B (Pl.getN E x.d) (x.Is.map Pl.It.r):=by
 obtain ⟨y,h1,h2, -⟩:=(Pl.nestAt_get (P:=fun v z=>Mem.zj3 W B v (z.Is.map Pl.It.r)) E N x.d he (fun i z hz=>by
  obtain ⟨x',k1, -,k3⟩:=h i z hz
  exact ⟨x',k1,k3⟩)).2 (by rw [he];exact List.mem_map.2 ⟨x,List.mem_of_getElem? hx,rfl⟩)
 have key:∀ (N:List Pl.Ns) (k:Nat),(N.map (·.d)).Pairwise (· ≠ ·)→N[k]? =some x→Pl.zo5 (N.map Pl.Ns.r) x.d=some (x.Is.map Pl.It.r):=by
  intro N
  induction N with
  |nil=>intro k _ h;cases h
  |cons z N ih=>
   intro k hp hk;rw [List.map_cons,List.pairwise_cons] at hp;rw [List.map_cons,Pl.zo5];cases k with
   |zero=>simp at hk;subst hk;rw [if_pos (show z.r.1=z.d from rfl)];rfl
   |succ k=>
    have hk2:N[k]? =some x:=by simpa using hk
    rw [if_neg (show ¬z.r.1=x.d from hp.1 x.d (List.mem_map.2 ⟨x,List.mem_of_getElem? hk2,rfl⟩))];exact ih k hp.2 hk2
 rw [key N k hp hx] at h1;rw [Option.some.inj h1];exact h2
end SpO
end
section
open Go.RowKit
namespace Mem
theorem Io.own {W:World} {S g cap n:Nat} {Is:List Pl.It} (h:Io W S (.slice (some ⟨g,0,none⟩) n cap) Is):OwnI W S g Is:=by
 obtain ⟨hn,hi⟩:=h.items
 have shp:∀ {x:Pl.It} {W:World} {S:Nat},ownN W S x.t.val x.t.L→(x.t.a=none∧x.t.L=[]∧x.t.cap=0)∨∃q cur,x.t.a=some ⟨q,0,none⟩∧S≤q∧W.heap[q]? =some (.cells cur 55 (0,0))∧x.t.L.length*5≤cur.size:=fun {x W S} hx=>by
  rcases hx.2 with ⟨e,h0⟩|⟨q,c,cur,e,hb,hq,hc,hm,hs,ht⟩
  ·have e2:Value.slice x.t.a x.t.L.length x.t.cap= .slice none 0 0:=e
   injection e2 with e3 e4 e5
   exact .inl ⟨e3,List.eq_nil_of_length_eq_zero h0,e5⟩
  ·have e2:Value.slice x.t.a x.t.L.length x.t.cap= .slice (some ⟨q,0,none⟩) _ c:=e
   injection e2 with e3 e4 e5
   exact .inr ⟨q,cur,e3,hb,hq,by omega⟩
 refine ⟨?_,(h.lt.1 g rfl).1,hi,fun i x hx=>?_,fun i j x y hij hx hy q hq e=>?_⟩
 ·rcases h.row.2 with ⟨e,_⟩|⟨q,c,cur,e,hb,hq,hc,hm,hs,ht⟩
  ·cases e
  ·cases e
   exact ⟨cur,hq,by omega⟩
 ·obtain ⟨h3,h4⟩:=h.each i x hx
  rcases shp h3 with h5|⟨q,cur,e1,e2,e3,e4⟩
  ·exact .inl h5
  ·exact .inr ⟨q,cur,e1,e2,fun e=>h4 q (by show (Value.slice x.t.a x.t.L.length x.t.cap).ownBlock=_;rw [e1];rfl) (by rw [e];rfl),e3,e4⟩
 ·exact h.apart i j x y hij hx hy q (by show (Value.slice x.t.a x.t.L.length x.t.cap).ownBlock=_;rw [hq];rfl) (by show (Value.slice y.t.a y.t.L.length y.t.cap).ownBlock=_;rw [e];rfl)
end Mem
end
section
open Go.RowKit
namespace Mem
structure OwnB (W:World) (B H g:Nat) (Is:List Pl.It):Prop where
 o:OwnI W B g Is
 gH:g<H
 hH:∀x∈Is,∀h,x.t.a=some ⟨h,0,none⟩→h<H
theorem OwnB.same {W W':World} {B H g:Nat} {Is:List Pl.It} (h:OwnB W B H g Is) (hs:W.heap.size≤W'.heap.size) (hb:∀b,B≤b→b<H→b<W.heap.size→W'.heap[b]? =W.heap[b]?):OwnB W' B H g Is:=by
 obtain ⟨⟨⟨cur,h1,h2⟩,h3,h4,h5,h6⟩,h7,h8⟩:=h;have hg:=hb g h3 h7 (Array.getElem?_eq_some_iff.1 h1).1;refine ⟨⟨⟨cur,hg.trans h1,h2⟩,h3,fun i x hx=>?_,fun i x hx=>?_,h6⟩,h7,h8⟩
 ·obtain ⟨⟨b,o,e,k1,k2,k3⟩,k4⟩:=h4 i x hx;cases e
  refine ⟨⟨g,0,rfl,by omega,(WMkJ.zi hg).trans k2,(WMkJ.zi hg).trans k3⟩,fun j n hn=>?_⟩;obtain ⟨q,p,m1,m2,m3,m4,m5,m6,m7⟩:=k4 j n hn
  rcases h5 i x hx with ⟨e, -⟩|⟨q',c,e,e2,e3,e4,e5⟩
  ·rw [e] at m1;cases m1
  ·rw [e] at m1;cases m1
   have hq:=hb q e2 (h8 x (List.mem_of_getElem? hx) q e) m2;exact ⟨q,0,e,by omega,(WMkJ.zi hq).trans m3,(WMkJ.zi hq).trans m4,(WMkJ.zi hq).trans m5,(WMkJ.zi hq).trans m6,(WMkJ.zi hq).trans m7⟩
 ·rcases h5 i x hx with e|⟨q',c,e,e2,e3,e4,e5⟩
  ·exact .inl e
  ·exact .inr ⟨q',c,e,e2,e3,(hb q' e2 (h8 x (List.mem_of_getElem? hx) q' e) (Array.getElem?_eq_some_iff.1 e4).1).trans e4,e5⟩
theorem Ib.own {W:World} {L H:Nat} {a:Option Addr} {cap:Nat} {Is:List Pl.It} (h:Ib W L H (.slice a Is.length cap) Is) (hn:Is.length≠0):∃g,a=some ⟨g,0,none⟩∧OwnB W L H g Is:=by
 obtain ⟨g,c,e, -⟩:=h.io.there hn;cases e
 refine ⟨g,rfl,h.io.own,h.h1 g rfl,fun x hx q hq=>?_⟩;obtain ⟨i,hi⟩:=List.getElem?_of_mem hx;exact h.h2 i x hi q (by unfold Pl.Tr.val;rw [hq];rfl)
theorem OwnB.marks {W:World} {B H g K:Nat} {Is:List Pl.It} (o:OwnI W B g (Pl.mkTo K Is Is.length)) (gH:g<H) (hH:∀x∈Is,∀h,x.t.a=some ⟨h,0,none⟩→h<H):OwnB W B H g (Pl.mkTo K Is Is.length):=
 ⟨o,gH,fun x hx q hq=>by
  obtain ⟨i,hi⟩:=List.getElem?_of_mem hx;rw [Pl.zx5,Option.map_eq_some_iff] at hi;obtain ⟨y,hy,e⟩:=hi;have hl:=(List.getElem?_eq_some_iff.1 hy).1;rw [if_pos hl] at e;subst e
  exact hH y (List.mem_of_getElem? hy) q hq⟩
end Mem
end
section
open Go.RowKit
namespace Mem
theorem own_put {W:World} {S g T size n cap:Nat} {xs:List Value} (h:W.ownsRow S T size (.slice (some ⟨g,0,none⟩) n cap) n xs) (k:Nat) (u:Value):(W.setCell ⟨g,k,none⟩ u).ownsRow S T size (.slice (some ⟨g,0,none⟩) n cap) n (xs.set k u):=by
 refine ⟨by rw [List.length_set];exact h.1,?_⟩
 rcases h.2 with ⟨e,_⟩|⟨g',c',cur,e,hb,hg,hc,hm,hs,ht⟩
 ·cases e
 ·cases e
  refine .inr ⟨g,cap,cur.setIfInBounds k u,rfl,hb,heap_setCell_same _ _ _ _ _ _ hg,hc,hm,by rw [Array.size_setIfInBounds];exact hs,?_⟩;rw [Array.toList_setIfInBounds,List.take_set,ht]
theorem ya9 {W:World} {S g T size n cap:Nat} {xs:List Value} (h:W.ownsRow S T size (.slice (some ⟨g,0,none⟩) n cap) n xs) {k:Nat} {u:Value} (hk:xs[k]? =some u):W.cell? ⟨g,k,none⟩=some u∧W.frozen? ⟨g,k,none⟩=false:=by
 refine ⟨?_,?_⟩
 ·have :=World.ownsRow.cells h (g:=g) rfl k u hk;rw [add_lit] at this;exact this
 ·rcases h.2 with ⟨e,_⟩|⟨g',c',cur,e,hb,hg,_⟩
  ·cases e
  ·cases e
   exact zc2 hg
end Mem
namespace Pl
theorem yi1 (x:It) (Is:List It):zd2 (x::Is)=Value.int .i64 x.m::x.t.val::zd2 Is:=rfl
theorem cellsI_tree (x:It) (t:Tr) (Rs:List It):∀Ds:List It,(zd2 (Ds++x::Rs)).set (Ds.length*2+1) t.val=zd2 (Ds++⟨x.m,t⟩::Rs):=by
 intro Ds
 induction Ds with
 |nil=>rfl
 |cons y Ds ih=>
  rw [List.cons_append,List.cons_append,yi1,yi1,List.length_cons,show (Ds.length+1)*2+1=Ds.length*2+1+1+1 by omega,List.set_cons_succ,List.set_cons_succ,ih]
theorem cellsI_many (x:It) (m:Int) (Rs:List It):(zd2 (x::Rs)).set 0 (.int .i64 m)=zd2 (⟨m,x.t⟩::Rs):=rfl
end Pl
namespace Mem
structure Cq (W:World) (S g cap:Nat) (Ds Rs:List Pl.It):Prop where
 row:W.ownsRow S 109 2 (.slice (some ⟨g,0,none⟩) (Ds.length+Rs.length) cap) (Ds.length+Rs.length) (Pl.zd2 (Ds++Rs))
 each:∀ (i:Nat) x,Ds[i]? =some x→ownN W S x.t.val x.t.L∧∀q,x.t.val.ownBlock=some q→q≠g
 apart:∀ (i j:Nat) x y,i≠j→Ds[i]? =some x→Ds[j]? =some y→∀q,x.t.val.ownBlock=some q→y.t.val.ownBlock≠some q
theorem Cq.call {W W':World} {S g cap:Nat} {Ds Rs:List Pl.It} (h:Cq W S g cap Ds Rs) (b:Below W.heap.size W W'):Cq W' S g cap Ds Rs:=
 ⟨zd0 h.row b,fun i x hx=>⟨ownN_call (h.each i x hx).1 b,(h.each i x hx).2⟩,h.apart⟩
theorem Cq.step {W W1:World} {S g cap:Nat} {Ds Rs:List Pl.It} {x:Pl.It} {t:Pl.Tr} (h:Cq W S g cap Ds (x::Rs)) (b:Below W.heap.size W W1) (hS:S≤W.heap.size) (ht:ownN W1 W.heap.size t.val t.L):Cq (W1.setCell ⟨g,Ds.length*2+1,none⟩ t.val) S g cap (Ds++[⟨x.m,t⟩]) Rs:=by
 have h1:=h.call b;have hg:g<W.heap.size:=(World.ownsRow.lt h.row g rfl).2;have hgS:S≤g:=(World.ownsRow.lt h.row g rfl).1
 have off:∀ {v:Value} {L:List Pl.Nd} {B:Nat},ownN W1 B v L→(∀q,v.ownBlock=some q→q≠g)→ownN (W1.setCell ⟨g,Ds.length*2+1,none⟩ t.val) B v L:=fun {v L B} hv hn=>by
  refine ⟨hv.1,?_⟩
  rcases hv.2 with h0|⟨q,c,cur,e,hb,hq,rest⟩
  ·exact .inl h0
  ·exact .inr ⟨q,c,cur,e,hb,(heap_setCell_other _ _ _ _ (hn q (by rw [e];rfl))).trans hq,rest⟩
 have hlo:∀q,t.val.ownBlock=some q→W.heap.size≤q:=fun q hq=>(zx ht q hq).1;refine ⟨?_,fun i y hy=>?_,fun i j y z hij hy hz q hq=>?_⟩
 ·have h2:=own_put h1.row (Ds.length*2+1) t.val;rw [Pl.cellsI_tree] at h2;have e:(Ds++[(⟨x.m,t⟩:Pl.It)]).length+Rs.length=Ds.length+(x::Rs).length:=by simp;omega
  rw [e,List.append_assoc];exact h2
 ·by_cases e:i<Ds.length
  ·rw [List.getElem?_append_left e] at hy;exact ⟨off (h1.each i y hy).1 (h1.each i y hy).2,(h1.each i y hy).2⟩
  ·rw [List.getElem?_append_right (by omega)] at hy
   have e0:i - Ds.length=0:=by
    have :=(List.getElem?_eq_some_iff.1 hy).1;simp at this;omega
   rw [e0] at hy;simp at hy
   subst hy;have hn:∀q,t.val.ownBlock=some q→q≠g:=fun q hq=>by have :=hlo q hq;omega
   exact ⟨off (yd7 ht hS) hn,hn⟩
 ·by_cases e:i<Ds.length
  ·rw [List.getElem?_append_left e] at hy;by_cases e2:j<Ds.length
   ·rw [List.getElem?_append_left e2] at hz;exact h.apart i j y z hij hy hz q hq
   ·rw [List.getElem?_append_right (by omega)] at hz
    have e0:j - Ds.length=0:=by
     have :=(List.getElem?_eq_some_iff.1 hz).1;simp at this;omega
    rw [e0] at hz;simp at hz
    subst hz;intro e3;have h5:=hlo q e3;have h6:=(zx (h.each i y hy).1 q hq).2;omega
  ·rw [List.getElem?_append_right (by omega)] at hy
   have e0:i - Ds.length=0:=by
    have :=(List.getElem?_eq_some_iff.1 hy).1;simp at this;omega
   rw [e0] at hy;simp at hy
   subst hy;have h5:=hlo q hq
   have hj:j<Ds.length:=by
    have :=(List.getElem?_eq_some_iff.1 hz).1;simp at this;omega
   rw [List.getElem?_append_left hj] at hz;intro e3;have h6:=(zx (h.each j z hz).1 q e3).2;omega
theorem Cq.done {W:World} {S g cap:Nat} {Ds:List Pl.It} (h:Cq W S g cap Ds []):Io W S (.slice (some ⟨g,0,none⟩) Ds.length cap) Ds:=by
 have h1:=h.row;rw [List.length_nil,Nat.add_zero,List.append_nil] at h1;exact ⟨h1,fun i x hx=>⟨(h.each i x hx).1,fun q hq e=>(h.each i x hx).2 q hq (Option.some.inj e).symm⟩,h.apart⟩
end Mem
end
section
open Go.RowKit
namespace Mem
theorem Io.many {W:World} {S g cap n:Nat} {x:Pl.It} {Rs:List Pl.It} (h:Io W S (.slice (some ⟨g,0,none⟩) n cap) (x::Rs)) (m:Int):Io (W.setCell ⟨g,0,none⟩ (.int .i64 m)) S (.slice (some ⟨g,0,none⟩) n cap) (⟨m,x.t⟩::Rs):=by
 obtain ⟨rfl, -⟩:=h.items
 have key:∀ (i:Nat) y,((⟨m,x.t⟩:Pl.It)::Rs)[i]? =some y→∃z,(x::Rs)[i]? =some z∧z.t=y.t:=fun i y hy=>by
  cases i with
  |zero=>
   have e:(⟨m,x.t⟩:Pl.It)=y:=by simpa using hy
   subst e;exact ⟨x,rfl,rfl⟩
  |succ i=>exact ⟨y,by simpa using hy,rfl⟩
 refine ⟨?_,fun i y hy=>?_,fun i j y z hij hy hz q hq=>?_⟩
 ·have h2:=own_put h.row 0 (.int .i64 m);rw [Pl.cellsI_many] at h2;exact h2
 ·obtain ⟨z,hz,e⟩:=key i y hy;rw [←e];obtain ⟨h3,h4⟩:=h.each i z hz;exact ⟨ownN_far h3 _ _ (fun q hq e2=>h4 q hq (by rw [←e2];rfl)),h4⟩
 ·obtain ⟨y',hy',e⟩:=key i y hy;obtain ⟨z',hz',e2⟩:=key j z hz;rw [←e2];rw [←e] at hq;exact h.apart i j y' z' hij hy' hz' q hq
end Mem
namespace Pl
end Pl
end
section
open Go.RowKit
namespace WMkB
theorem lay_one {w:World} {B g i K:Nat} {Js:List Pl.It} {x:Pl.It} (o:Mem.OwnI w B g Js) (hx:Js[i]? =some x) (hn:x.t.L.length≤1048576) (hK:0<K) (hK2:K≤1000000):
  Calls Tryz.prog 97 #[.slice x.t.a x.t.L.length x.t.cap, .int .i64 (K:Int)] w fun e w'=>e= .returned (.int .i64 ((K+5*x.t.L.length:Nat):Int))∧Mem.OwnI w' B g (Js.set i ⟨x.m,⟨x.t.a,x.t.cap,Pl.zq7 K x.t.L.length⟩⟩)∧(∀G,(∀h,x.t.a=some ⟨h,0,none⟩→h<G)→Mem.Band B G w w'):=by
 rcases o.own i x hx with ⟨e1,e2,e3⟩|⟨h,c,k1,k2,k3,k4,k5⟩
 ·rw [e1,e2,e3];refine (WMarkI.layNil K w).mono fun e w' ⟨he,b⟩=>⟨he,?_,fun _ _=>Mem.Band.of_below b⟩
  have :Js.set i ⟨x.m,⟨none,0,Pl.zq7 K 0⟩⟩=Js:=by
   apply List.ext_getElem?
   intro j;rw [List.getElem?_set];by_cases e:i=j
   ·subst e;rw [if_pos rfl,if_pos (List.getElem?_eq_some_iff.1 hx).1,hx];obtain ⟨m,a,cap,L⟩:=x;simp only at e1 e2 e3;subst e1 e2 e3;rfl
   ·rw [if_neg e]
  simp only [List.length_nil];rw [this];exact o.call b
 ·rw [k1];refine (zk9.lay_any h x.t.L.length x.t.cap K c w hn hK (Nat.le_trans hK2 (by decide)) k4 k5).mono fun e w' ⟨he,⟨c',r1,r2⟩,hnd,gr⟩=>⟨he,?_,fun G hb=>?_⟩
  ·have :=o.nodes hx k1 gr ⟨c',r1,by omega⟩ hnd (Pl.yg1 _ _);rw [k1] at this;exact this
  ·exact Mem.Band.zt3 gr k2 (hb h rfl)
theorem zf3 (B g cap K G:Nat) (Is:List Pl.It) (w:World) (hn:Is.length≤1000) (hL:∀x∈Is,x.t.L.length≤1048576) (hK:0<K) (hK2:∀i,i≤Is.length→Pl.kAt K Is i≤100000) (o:Mem.OwnI w B g Is) (hgG:g<G) (hG:∀x∈Is,∀h,x.t.a=some ⟨h,0,none⟩→h<G):
  Calls Tryz.prog 64 #[.slice (some ⟨g,0,none⟩) Is.length cap, .int .i64 (K:Int)] w fun e w'=>e= .returned (.int .i64 (Pl.kAt K Is Is.length:Int))∧Mem.OwnI w' B g (Pl.mkTo K Is Is.length)∧Mem.Band B G w w':=by
 have HO0:Hid (Mem.OwnI w B g (Pl.mkTo K Is 0)):=hide (by rw [Pl.mkTo_zero];exact o);have HL:=hide hL;have HG:=hide hG;have HK2:=hide hK2;have HKG:Hid (∀i,0<Pl.kAt K Is i):=hide (fun i=>Nat.lt_of_lt_of_le hK (Pl.kAt_ge K Is i));have HKS:Hid (∀ (i:Nat) x,Is[i]? =some x→Pl.kAt K Is (i+1)=Pl.kAt K Is i+1+5*x.t.L.length):=hide (fun i x h=>Pl.kAt_succ h);have HMG:Hid (∀ (i:Nat) x,Is[i]? =some x→(Pl.mkTo K Is i)[i]? =some x):=hide (fun i x h=>by rw [Pl.zx5,h];simp);have HMS:Hid (∀ (i:Nat) x,Is[i]? =some x→((Pl.mkTo K Is i).set i ⟨((Pl.kAt K Is i:Nat):Int),x.t⟩).set i ⟨((Pl.kAt K Is i:Nat):Int),⟨x.t.a,x.t.cap,Pl.zq7 (Pl.kAt K Is i+1) x.t.L.length⟩⟩=Pl.mkTo K Is (i+1)):=hide (fun i x h=>by rw [List.set_set];exact Pl.mkTo_succ K h);have HML:Hid (∀i,(Pl.mkTo K Is i).length=Is.length):=hide (fun i=>Pl.zx8 K Is i);have HK0:Hid (Pl.kAt K Is 0=K):=hide rfl
 generalize Pl.mkTo K Is=MT at HO0 HMG HMS HML ⊢;generalize Pl.kAt K Is=KA at HK2 HKG HKS HMS HK0 ⊢;have hK3:=za HK2 Is.length (Nat.le_refl _);clear hL hK2 o hG;go_enter Tryz.func64,Tryz.ntmps64
 go_wp2
 go_loopw [1,5] (fun q i wr=>∃j:Nat,j≤Is.length∧i= .int .i64 (j:Int)∧q= .int .i64 (KA j:Int)∧Hid (Mem.OwnI wr B g (MT j))∧Hid (Mem.Band B G w wr)) (fun _ i _=>Is.length - (intOf i).toNat)
 case atStart=>exact ⟨0,Nat.zero_le _,rfl,by rw [za HK0],HO0,Mem.Band.refl _ _ _⟩
 case round=>
  obtain ⟨j,hj,rfl,rfl,HO,hbel⟩:=hrel;clear HO0;by_cases hlt:j<Is.length
  ·obtain ⟨x,hx⟩:∃x,Is[j]? =some x:=⟨_,List.getElem?_eq_getElem hlt⟩;have hmx:=za HMG j x hx;have u1:(j:Int)<(Is.length:Int):=by omega
   have u3:(0:Int)≤(j:Int):=by omega
   have hkj:=za HK2 j hj;have hks:=za HKS j x hx;have hkk:=za HKG j;obtain ⟨cur,r1,r2⟩:=(za HO).row;rw [za HML] at r2;obtain ⟨x0,s0⟩:∃x,wr.cell? ⟨g,j*2,none⟩=some x:=⟨_,(cell_of_row wr _ (j*2) _ _ (0,0) r1).trans (Array.getElem?_eq_getElem (by omega))⟩;have f0:wr.frozen? ⟨g,j*2,none⟩=false:=Mem.zc2 r1;have O1:=(za HO).many hmx ((KA j:Nat):Int)
   have hx1:((MT j).set j ⟨((KA j:Nat):Int),x.t⟩)[j]? =some ⟨((KA j:Nat):Int),x.t⟩:=by
    rw [List.getElem?_set,if_pos rfl,if_pos (by rw [za HML];exact hlt)]
   obtain ⟨⟨b',o',e', -, -,c1⟩, -⟩:=O1.items j _ hx1;cases e'
   simp only [Pl.Tr.val,Nat.zero_add] at c1;have hcall:=hide (lay_one (K:=KA j+1) O1 hx1 (za HL x (List.mem_of_getElem? hx)) (by omega) (by omega));have HST:=hide (za HMS j x hx);have hb1:Mem.Band B G w (wr.setCell ⟨g,j*2,none⟩ (.int .i64 ((KA j:Nat):Int))):=(za hbel).trans (Mem.Band.of_set _ _ (za HO).lo hgG);have HGX:=hide (za HG x (List.mem_of_getElem? hx));have hs1:(wr.setCell ⟨g,j*2,none⟩ (.int .i64 ((KA j:Nat):Int))).heap.size=wr.heap.size:=by simp
   have HB1:=hide hb1;have HKS2:=hide hks;clear hx hmx r1 r2 O1 hx1 HO hbel hks hb1;simp only [Int.natCast_add,Int.cast_ofNat_Int] at hcall;go_wp2_with fail
   refine (za hcall).mono ?_;rintro e w2 ⟨rfl,o2,b2⟩;have hb2:=hide ((za HB1).trans (b2 G (za HGX)));rw [za HST] at o2;have HO2:=hide o2;clear hcall o2 b2 s0 f0 c1 HB1;go_wp2
   go_roundw
   case rel=>exact ⟨j+1,by omega,by go_num,by rw [za HKS2];go_num,HO2,hb2⟩
   case measure=>simp [intOf];omega
  ·have u1:¬ (j:Int)<(Is.length:Int):=by omega
   obtain rfl:j=Is.length:=by omega
   go_wp2
   go_ret
   exact ⟨rfl,za HO,za hbel⟩
end WMkB
end
section
open Go.RowKit
namespace WMkY
structure Mz (W:World) (S:Nat) (a:Option Addr) (cap K:Nat) (N:List Pl.Ns) (lo hi:Nat→Nat) (j:Nat):Prop where
 row:W.ownsRow S 96 2 (.slice a N.length cap) N.length (Pl.zi2 (Pl.mkZ K N j))
 each:∀ (i:Nat) x,N[i]? =some x→S≤lo i∧hi i≤W.heap.size∧(∀g,(Value.slice a N.length cap).ownBlock=some g→g<lo i∨hi i≤g)∧∃g,x.a=some ⟨g,0,none⟩∧Mem.OwnB W (lo i) (hi i) g (if i<j then Pl.mkTo (Pl.kZ K N i+1) x.Is x.Is.length else x.Is)
 rise:∀i k,i<k→k<N.length→hi i≤lo k
theorem Mz.start {W:World} {S cap:Nat} {a:Option Addr} {N:List Pl.Ns} {lo hi:Nat→Nat} (K:Nat) (h:Mem.Iz W S (.slice a N.length cap) N lo hi) (hn:∀x∈N,x.Is.length≠0):Mz W S a cap K N lo hi 0:=
 ⟨by rw [Pl.mkZ_zero];exact h.row,fun i x hx=>by
  obtain ⟨h1,h2,h3,h4,h5⟩:=h.each i x hx;obtain ⟨g,e,o⟩:=h1.own (hn x (List.mem_of_getElem? hx))
  exact ⟨h2,h4,h5,g,e,by rw [if_neg (by omega)];exact o⟩,h.rise⟩
theorem Mz.call {W W':World} {S cap K j:Nat} {a:Option Addr} {N:List Pl.Ns} {lo hi:Nat→Nat} (h:Mz W S a cap K N lo hi j) (b:Below W.heap.size W W'):Mz W' S a cap K N lo hi j:=
 ⟨Mem.zd0 h.row b,fun i x hx=>by
  obtain ⟨h1,h2,h3,g,h4,h5⟩:=h.each i x hx
  exact ⟨h1,Nat.le_trans h2 b.size,h3,g,h4,h5.same b.size (fun q _ _ hq=>b.block q hq)⟩,h.rise⟩
theorem Mz.zk0 {W:World} {S cap K:Nat} {a:Option Addr} {N:List Pl.Ns} {lo hi:Nat→Nat} (h:Mz W S a cap K N lo hi N.length):Mem.zh W a (Pl.mkZ K N N.length):=fun i y hy=>by
 rw [Pl.zr3,Option.map_eq_some_iff] at hy;obtain ⟨x,hx,e⟩:=hy;have hl:=(List.getElem?_eq_some_iff.1 hx).1;rw [if_pos hl] at e;subst e;obtain ⟨h1,h2,h3,g,h4,h5⟩:=h.each i x hx;rw [if_pos hl] at h5
 rcases h.row.2 with ⟨e,h0⟩|⟨g0,c,cur,e,hb,hg,rest⟩
 ·rw [h0] at hl;omega
 ·cases e
  have hy2:(Pl.mkZ K N N.length)[i]? =some (Pl.mkN1 (Pl.kZ K N i) x):=by rw [Pl.zr3,hx,Option.map_some,if_pos hl]
  have hcl:=Pl.zv5 _ i _ hy2;refine ⟨⟨g0,0,rfl,(Array.getElem?_eq_some_iff.1 hg).1,?_,?_⟩,?_⟩
  ·rw [Nat.zero_add];exact (Mem.ya9 h.row hcl.1).1
  ·rw [Nat.zero_add];exact (Mem.ya9 h.row hcl.2).1
  ·show Mem.zb4 W x.a _;rw [h4];exact h5.o.items
theorem Mz.id {W:World} {S g0 cap K j:Nat} {N:List Pl.Ns} {lo hi:Nat→Nat} {x:Pl.Ns} (h:Mz W S (some ⟨g0,0,none⟩) cap K N lo hi j) (hx:N[j]? =some x):
  (W.setCell ⟨g0,j*2,none⟩ (.int .i64 (Pl.kZ K N j:Int))).ownsRow S 96 2 (.slice (some ⟨g0,0,none⟩) N.length cap) N.length (Pl.zi2 (Pl.mkZ K N (j+1)))∧
  ∀ (i:Nat) y,N[i]? =some y→∃g,y.a=some ⟨g,0,none⟩∧Mem.OwnB (W.setCell ⟨g0,j*2,none⟩ (.int .i64 (Pl.kZ K N j:Int))) (lo i) (hi i) g (if i<j then Pl.mkTo (Pl.kZ K N i+1) y.Is y.Is.length else y.Is):=by
 have hy:(Pl.mkZ K N j)[j]? =some x:=by rw [Pl.zr3,hx,Option.map_some,if_neg (by omega)]
 refine ⟨?_,fun i y hi=>?_⟩
 ·have h1:=Mem.own_put h.row (j*2) (.int .i64 (Pl.kZ K N j:Int));have h2:=Pl.cellsZ_set (Pl.mkZ K N j) j x (Pl.mkN1 (Pl.kZ K N j) x) hy rfl rfl (Pl.zx8 _ _ _);rw [Pl.mkZ_succ K hx] at h2;rw [←h2];exact h1
 ·obtain ⟨-, -,h3,g,h4,h5⟩:=h.each i y hi;have :=h3 g0 rfl;exact ⟨g,h4,h5.same (by rw [World.size_setCell];exact Nat.le_refl _) (fun b h1 h2 _=>heap_setCell_other _ _ _ _ (by show b≠g0;omega))⟩
theorem Mz.fin {W W2:World} {S g0 g cap K j:Nat} {N:List Pl.Ns} {lo hi:Nat→Nat} {x:Pl.Ns} (h:Mz W S (some ⟨g0,0,none⟩) cap K N lo hi j) (hx:N[j]? =some x) (hg:x.a=some ⟨g,0,none⟩)
  (o:Mem.OwnI W2 (lo j) g (Pl.mkTo (Pl.kZ K N j+1) x.Is x.Is.length)) (b:Mem.Band (lo j) (hi j) (W.setCell ⟨g0,j*2,none⟩ (.int .i64 (Pl.kZ K N j:Int))) W2):Mz W2 S (some ⟨g0,0,none⟩) cap K N lo hi (j+1):=by
 obtain ⟨h1,h2⟩:=h.id hx;have hlj:=(List.getElem?_eq_some_iff.1 hx).1;have hgj:=(h.each j x hx).2.2.1 g0 rfl;have hsz:=b.size;have hs0:(W.setCell ⟨g0,j*2,none⟩ (.int .i64 (Pl.kZ K N j:Int))).heap.size=W.heap.size:=World.size_setCell _ _ _;refine ⟨Mem.zi7 h1 (fun q hq=>b.block q (World.ownsRow.lt h1 q hq).2 (by cases hq;omega)),fun i y hy=>?_,h.rise⟩;obtain ⟨e1,e2,e3, -⟩:=h.each i y hy;obtain ⟨g',k1,k2⟩:=h2 i y hy;refine ⟨e1,by omega,e3,?_⟩;have hli:=(List.getElem?_eq_some_iff.1 hy).1;by_cases e:i=j
 ·subst e;rw [hx] at hy;cases hy
  rw [hg] at k1;cases k1
  rw [if_neg (by omega)] at k2;exact ⟨g,hg,by rw [if_pos (by omega)];exact Mem.OwnB.marks o k2.gH k2.hH⟩
 ·refine ⟨g',k1,?_⟩
  have hd:hi i≤lo j∨hi j≤lo i:=by
   rcases Nat.lt_or_ge i j with h3|h3
   ·exact .inl (h.rise i j h3 hlj)
   ·exact .inr (h.rise j i (by omega) hli)
  have h3:=k2.same hsz (fun q q1 q2 q3=>b.block q q3 (by omega));by_cases e2:i<j
  ·rw [if_pos e2] at h3;rw [if_pos (by omega)];exact h3
  ·rw [if_neg e2] at h3;rw [if_neg (by omega)];exact h3
theorem zo4 (S g0 cap:Nat) (N:List Pl.Ns) (lo hi:Nat→Nat) (H:Nat) (w:World) (hn:N.length≤12) (hI:∀x∈N,x.Is.length≤12∧∀t∈x.Is,t.t.L.length≤40) (hv:Mz w S (some ⟨g0,0,none⟩) cap 1 N lo hi 0) (hg0:g0<H) (hH:∀i,i<N.length→hi i≤H):
  Calls Tryz.prog 32 #[.slice (some ⟨g0,0,none⟩) N.length cap, .int .i64 1] w fun e w'=>e= .returned (.int .i64 (Pl.kZ 1 N N.length:Int))∧Mz w' S (some ⟨g0,0,none⟩) cap 1 N lo hi N.length∧Mem.Band S H w w':=by
 have hS0:S≤g0:=(World.ownsRow.lt hv.row g0 rfl).1;have HI:=hide hI;have HV:=hide hv;have HH:=hide hH;clear hI hv hH;go_enter Tryz.func32,Tryz.ntmps32
 go_wp2
 go_loopw [1,5] (fun a i wr=>∃j:Nat,j≤N.length∧i= .int .i64 (j:Int)∧a= .int .i64 (Pl.kZ 1 N j:Int)∧Hid (Mz wr S (some ⟨g0,0,none⟩) cap 1 N lo hi j∧Mem.Band S H w wr)) (fun _ i _=>N.length - (intOf i).toNat)
 case atStart=>exact ⟨0,Nat.zero_le _,rfl,rfl,⟨za HV,Mem.Band.refl _ _ _⟩⟩
 case round=>
  obtain ⟨j,hj,rfl,rfl,HA⟩:=hrel;by_cases hlt:j<N.length
  ·obtain ⟨x,hx⟩:∃x,N[j]? =some x:=⟨_,List.getElem?_eq_getElem hlt⟩;obtain ⟨hI1,hI2⟩:=za HI x (List.mem_of_getElem? hx);have hk1:=Pl.kZ_le 1 N (za HI) j (by omega);have hk0:=Pl.kZ_ge 1 N j;have HKS:Hid (Pl.kZ 1 N (j+1)=Pl.kAt (Pl.kZ 1 N j+1) x.Is x.Is.length):=hide (Pl.kZ_succ hx);obtain ⟨e1,e2,e3,g,e4,e5⟩:=(za HA).1.each j x hx;rw [if_neg (by omega)] at e5;have hy:(Pl.mkZ 1 N j)[j]? =some x:=by rw [Pl.zr3,hx,Option.map_some,if_neg (by omega)]
   have hcl:=Pl.zv5 _ j _ hy;obtain ⟨c0,f0⟩:=Mem.ya9 (za HA).1.row hcl.1;obtain ⟨r1,r2⟩:=(za HA).1.id hx;have hy2:(Pl.mkZ 1 N (j+1))[j]? =some (Pl.mkN1 (Pl.kZ 1 N j) x):=by rw [Pl.zr3,hx,Option.map_some,if_pos (by omega)]
   have c1:=(Mem.ya9 r1 (Pl.zv5 _ j _ hy2).2).1;obtain ⟨g',k1,k2⟩:=r2 j x hx;rw [if_neg (by omega)] at k2
   have hk3:∀i,i≤x.Is.length→Pl.kAt (Pl.kZ 1 N j+1) x.Is i≤100000:=fun i hi=>by
    have :=Pl.kAt_le (Pl.kZ 1 N j+1) x.Is hI2 i hi;omega
   have hml:=hide (WMkB.zf3 (lo j) g' x.cap (Pl.kZ 1 N j+1) (hi j) x.Is _ (by omega) (fun t ht=>by have :=hI2 t ht;omega) (by omega) hk3 k2.o k2.gH k2.hH);have HFIN:=hide (fun W2 o b=>(za HA).1.fin (W2:=W2) hx k1 o b);have hg0w:g0<wr.heap.size:=(World.ownsRow.lt (za HA).1.row g0 rfl).2;have hB1:=hide ((za HA).2.trans (Mem.Band.of_set (w:=wr) ⟨g0,j*2,none⟩ (.int .i64 (Pl.kZ 1 N j:Int)) hS0 hg0));have hhj:=za HH j hlt;simp only [Pl.mkN1,Pl.zx8] at c1;obtain ⟨xd,xa,xc,xI⟩:=x;simp only at k1 c1 hml HFIN HKS c0;subst k1;generalize Pl.kZ 1 N j=KJ at hk1 hk0 HKS hml HFIN hB1 c1 ⊢;have eK:((KJ+1:Nat):Int)=(KJ:Int)+1:=by omega
   rw [eK] at hml;have u1:(j:Int)<(N.length:Int):=by omega
   have u3:(0:Int)≤(j:Int):=by omega
   have hkb:KJ≤100000:=by omega
   clear r1 r2 k2 hk3 hx hy hcl hy2 eK HA e3 e4 e5 hI1 hI2 hk1;go_wp2_with fail
   refine (za hml).mono ?_;rintro e w2 ⟨rfl,ho,hb⟩;have HA2:Hid (Mz w2 S (some ⟨g0,0,none⟩) cap 1 N lo hi (j+1)∧Mem.Band S H w w2):=⟨za HFIN _ ho hb,(za hB1).trans ⟨hb.os,hb.tape,hb.output,hb.size,fun q hq hh=>hb.block q hq (by omega)⟩⟩;clear ho hb hml HFIN hB1 c1 c0 f0;go_wp2
   go_roundw
   case rel=>exact ⟨j+1,by omega,by go_num,by rw [za HKS],HA2⟩
   case measure=>simp [intOf];omega
  ·have u1:¬ (j:Int)<(N.length:Int):=by omega
   have hje:j=N.length:=by omega
   subst hje;go_wp2
   go_ret
   exact ⟨rfl,za HA⟩
end WMkY
end
section
open Go.RowKit
namespace WSpO
structure An (W:World) (u:Pl.Sp) (S1 S2 S3 HH:Nat) (lo hi:Nat→Nat):Prop where
 iz:Mem.Iz W S1 (.slice u.ia u.N.length u.ic) u.N lo hi
 r1:∀g,(Value.slice u.ia u.N.length u.ic).ownBlock=some g→g<S2
 h1:∀j,j<u.N.length→hi j≤S2
 om:Mem.own3 49 Pl.Mn.cs W S2 (.slice u.ma u.M.length u.mc) u.M
 r2:∀g,(Value.slice u.ma u.M.length u.mc).ownBlock=some g→g<S3
 oh:Mem.own3 113 Pl.Hn.cs W S3 (.slice u.ha u.H.length u.hc) u.H
 r3:∀g,(Value.slice u.ha u.H.length u.hc).ownBlock=some g→g<HH
 s2:S1≤S2
 s3:S2≤S3
 s4:S3≤HH
 s5:HH≤W.heap.size
theorem An.nil (W:World) (B:Nat) (hB:B≤W.heap.size):An W ⟨none,0,[],none,0,[],none,0,[],0⟩ B B B B (fun _=>0) (fun _=>0):=
 ⟨Mem.Iz.nil _ _ _ _,fun g h=>(by cases h),fun j h=>absurd h (Nat.not_lt_zero _),Mem.yb8 _ _ _ _,fun g h=>(by cases h),Mem.yb8 _ _ _ _,fun g h=>(by cases h),Nat.le_refl _,Nat.le_refl _,Nat.le_refl _,hB⟩
theorem An.call {W W':World} {u:Pl.Sp} {S1 S2 S3 HH:Nat} {lo hi:Nat→Nat} (h:An W u S1 S2 S3 HH lo hi) (b:Below W.heap.size W W'):An W' u S1 S2 S3 HH lo hi:=
 ⟨h.iz.call b,h.r1,h.h1,Mem.zm h.om b,h.r2,Mem.zm h.oh b,h.r3,h.s2,h.s3,h.s4,Nat.le_trans h.s5 b.size⟩
theorem An.band {W W':World} {u:Pl.Sp} {S1 S2 S3 HH Y X:Nat} {lo hi:Nat→Nat} (h:An W u S1 S2 S3 HH lo hi) (b:Mem.Band Y X W W') (hX:X≤S1):An W' u S1 S2 S3 HH lo hi:=
 ⟨⟨Mem.zi7 h.iz.row (fun g hg=>b.block g (World.ownsRow.lt h.iz.row g hg).2 (.inr (by have :=(World.ownsRow.lt h.iz.row g hg).1;omega))),fun j x hx=>by
  obtain ⟨h1,h2,h3,h4,h5⟩:=h.iz.each j x hx
  exact ⟨h1.same (fun q q1 q2=>b.block q (by omega) (.inr (by omega))),h2,h3,Nat.le_trans h4 b.size,h5⟩,h.iz.rise⟩,h.r1,h.h1,
 Mem.zi7 h.om (fun g hg=>b.block g (Mem.ze5 h.om g hg).2 (.inr (by have :=(Mem.ze5 h.om g hg).1;have :=h.s2;omega))),h.r2,
 Mem.zi7 h.oh (fun g hg=>b.block g (Mem.ze5 h.oh g hg).2 (.inr (by have :=(Mem.ze5 h.oh g hg).1;have :=h.s2;have :=h.s3;omega))),h.r3,h.s2,h.s3,h.s4,Nat.le_trans h.s5 b.size⟩
theorem An.space {W:World} {u:Pl.Sp} {S1 S2 S3 HH:Nat} {lo hi:Nat→Nat} (h:An W u S1 S2 S3 HH lo hi):Mem.zd9 W u:=by
 obtain ⟨a,c,e,h1, -⟩:=Mem.own3_is Pl.Mn.three h.om;obtain ⟨a',c',e',h1', -⟩:=Mem.own3_is Pl.Hn.three h.oh;cases e
 cases e'
 exact ⟨h.iz.zk0.2,Mem.yd5 h1,Mem.yd6 h1'⟩
structure Mk8 (W:World) (u:Pl.Sp):Prop where
 i:Mem.zh W u.ia (Pl.mkZ 1 u.N u.N.length)
 m:Mem.zc6 W u.ma (Pl.zu1 (Pl.kZ 1 u.N u.N.length) u.M.length)
 h:Mem.ze2 W u.ha (Pl.mkHns (Pl.kZ 1 u.N u.N.length+3*u.M.length) u.H.length)
theorem Mk8.call {W W':World} {u:Pl.Sp} (h:Mk8 W u) (b:Below W.heap.size W W'):Mk8 W' u:=⟨Mem.zg5 h.i b,Mem.zf0 h.m b,Mem.zg7 h.h b⟩
theorem Mz_up {W W':World} {S S2 cap K j:Nat} {a:Option Addr} {N:List Pl.Ns} {lo hi:Nat→Nat} {r:Option Nat} (h:WMkY.Mz W S a cap K N lo hi j) (gr:W.grownBy W' r) (hr:∀g,r=some g→S2≤g) (hv:∀g,(Value.slice a N.length cap).ownBlock=some g→g<S2) (hh:∀i,i<N.length→hi i≤S2):WMkY.Mz W' S a cap K N lo hi j:=
 ⟨Mem.zi7 h.row (fun g hg=>gr.block g (World.ownsRow.lt h.row g hg).2 (fun e=>by have :=hr g e.symm;have :=hv g hg;omega)),fun i x hx=>by
  obtain ⟨h1,h2,h3,g,h4,h5⟩:=h.each i x hx;have :=hh i (List.getElem?_eq_some_iff.1 hx).1
  exact ⟨h1,Nat.le_trans h2 gr.size,h3,g,h4,h5.same gr.size (fun b q1 q2 q3=>gr.block b q3 (fun e=>by have :=hr b e.symm;omega))⟩,h.rise⟩
theorem noneZ (K:Nat) (a:Option Addr) (cap:Nat) (w:World):Calls Tryz.prog 32 #[.slice a 0 cap, .int .i64 (K:Int)] w fun e w'=>e= .returned (.int .i64 (K:Int))∧Below w.heap.size w w':=by
 go_enter Tryz.func32,Tryz.ntmps32
 go_wp2
 refine wp_loop_rounds 1 ?_;rw [rounds_succ];go_wp2
 go_ret
 exact ⟨rfl,Below.refl _ _⟩
theorem noneM (K:Nat) (a:Option Addr) (cap:Nat) (w:World):Calls Tryz.prog 33 #[.slice a 0 cap, .int .i64 (K:Int)] w fun e w'=>e= .returned (.int .i64 (K:Int))∧Below w.heap.size w w':=by
 go_enter Tryz.func33,Tryz.ntmps33
 go_wp2
 refine wp_loop_rounds 1 ?_;rw [rounds_succ];go_wp2
 go_ret
 exact ⟨rfl,Below.refl _ _⟩
theorem noneH (K:Nat) (a:Option Addr) (cap:Nat) (w:World):Calls Tryz.prog 34 #[.slice a 0 cap, .int .i64 (K:Int)] w fun e w'=>e= .returned (.int .i64 (K:Int))∧Below w.heap.size w w':=by
 go_enter Tryz.func34,Tryz.ntmps34
 go_wp2
 refine wp_loop_rounds 1 ?_;rw [rounds_succ];go_wp2
 go_ret
 exact ⟨rfl,Below.refl _ _⟩
structure Sm (u:Pl.Sp):Prop where
 n:u.N.length≤12
 m:u.M.length≤6
 h:u.H.length≤6
 i:∀x∈u.N,x.Is.length≤12∧x.Is.length≠0∧∀t∈x.Is,t.t.L.length≤40
theorem marksZ (u:Pl.Sp) (S1 S2 S3 HH:Nat) (lo hi:Nat→Nat) (w:World) (hs:Sm u) (h:An w u S1 S2 S3 HH lo hi):
  Calls Tryz.prog 32 #[.slice u.ia u.N.length u.ic, .int .i64 1] w fun e w'=>e= .returned (.int .i64 (Pl.kZ 1 u.N u.N.length:Int))∧WMkY.Mz w' S1 u.ia u.ic 1 u.N lo hi u.N.length∧Mem.Band S1 S2 w w':=by
 have hst:=WMkY.Mz.start 1 h.iz (fun x hx=>(hs.i x hx).2.1)
 rcases h.iz.row.2 with ⟨e,h0⟩|⟨g,c,cur,e,_⟩
 ·injection e with e1 e2 e3
  have e0:u.N=[]:=List.eq_nil_of_length_eq_zero h0;rw [e0] at hst ⊢;rw [e1,e3] at hst ⊢;exact (noneZ 1 none 0 w).mono fun _ _ ⟨he,b⟩=>⟨he,hst.call b,Mem.Band.of_below b⟩
 ·injection e with e1 e2 e3
  rw [e1] at hst ⊢;exact WMkY.zo4 S1 g u.ic u.N lo hi S2 w hs.n (fun x hx=>⟨(hs.i x hx).1,(hs.i x hx).2.2⟩) hst (h.r1 g (by rw [e1];rfl)) h.h1
theorem marksM (M:List Pl.Mn) (a:Option Addr) (cap S2 K:Nat) (w:World) (hK:0<K) (hK2:K≤100000) (hM:M.length≤6) (h:Mem.own3 49 Pl.Mn.cs w S2 (.slice a M.length cap) M):
  Calls Tryz.prog 33 #[.slice a M.length cap, .int .i64 (K:Int)] w fun e w'=>e= .returned (.int .i64 ((K+3*M.length:Nat):Int))∧Mem.zc6 w' a (Pl.zu1 K M.length)∧w.grownBy w' (Value.slice a M.length cap).ownBlock:=by
 rcases h.2 with ⟨e,h0⟩|⟨g,c,cur,e,hb,hg,hc,hm,hsz,ht⟩
 ·injection e with e1 e2 e3
  have e0:M=[]:=List.eq_nil_of_length_eq_zero h0;subst e0 e1 e3;exact (noneM K none 0 w).mono fun _ _ ⟨he,b⟩=>⟨he,Mem.yc4 _ _,Mem.za4 b _⟩
 ·injection e with e1 e2 e3
  subst e1 e3;exact (WMkM.zf3 g M.length cap K cur w (by omega) hK (by omega) hg (by omega)).mono fun _ _ ⟨he,_,hi,gr⟩=>⟨he,hi,gr⟩
theorem marksH (M:List Pl.Hn) (a:Option Addr) (cap S2 K:Nat) (w:World) (hK:0<K) (hK2:K≤100000) (hM:M.length≤6) (h:Mem.own3 113 Pl.Hn.cs w S2 (.slice a M.length cap) M):
  Calls Tryz.prog 34 #[.slice a M.length cap, .int .i64 (K:Int)] w fun e w'=>e= .returned (.int .i64 ((K+3*M.length:Nat):Int))∧Mem.ze2 w' a (Pl.mkHns K M.length)∧w.grownBy w' (Value.slice a M.length cap).ownBlock:=by
 rcases h.2 with ⟨e,h0⟩|⟨g,c,cur,e,hb,hg,hc,hm,hsz,ht⟩
 ·injection e with e1 e2 e3
  have e0:M=[]:=List.eq_nil_of_length_eq_zero h0;subst e0 e1 e3;exact (noneH K none 0 w).mono fun _ _ ⟨he,b⟩=>⟨he,Mem.yf3 _ _,Mem.za4 b _⟩
 ·injection e with e1 e2 e3
  subst e1 e3;exact (WMkH.zf3 g M.length cap K cur w (by omega) hK (by omega) hg (by omega)).mono fun _ _ ⟨he,_,hi,gr⟩=>⟨he,hi,gr⟩
end WSpO
end
section
open Go.RowKit
namespace WSpO
def kF (u:Pl.Sp):Nat:=Pl.kZ 1 u.N u.N.length+3*u.M.length+3*u.H.length
theorem kZ_small {u:Pl.Sp} (hs:Sm u):Pl.kZ 1 u.N u.N.length≤50000∧0<Pl.kZ 1 u.N u.N.length:=by
 have h1:=Pl.kZ_le 1 u.N (fun x hx=>⟨(hs.i x hx).1,(hs.i x hx).2.2⟩) _ (Nat.le_refl _);have h2:=Pl.kZ_ge 1 u.N u.N.length;have :=hs.n;omega
theorem markSp_any (u:Pl.Sp) (S1 S2 S3 HH:Nat) (lo hi:Nat→Nat) (w:World) (hs:Sm u) (h:An w u S1 S2 S3 HH lo hi):
  Calls Tryz.prog 10 #[.agg u.cs, .int .i64 1] w fun e w'=>e= .returned (.int .i64 (kF u:Int))∧Mk8 w' u∧Mem.Band S1 HH w w':=by
 obtain ⟨hk1,hk0⟩:=kZ_small hs;have c1:=hide (fun W (b:Below w.heap.size w W)=>marksZ u S1 S2 S3 HH lo hi W hs (h.call b));have c2:=hide (fun W K h0 h1 (o:Mem.own3 49 Pl.Mn.cs W S2 (.slice u.ma u.M.length u.mc) u.M)=>marksM u.M u.ma u.mc S2 K W h0 h1 hs.m o);have c3:=hide (fun W K h0 h1 (o:Mem.own3 113 Pl.Hn.cs W S3 (.slice u.ha u.H.length u.hc) u.H)=>marksH u.H u.ha u.hc S3 K W h0 h1 hs.h o);have HA:=hide h;have hM:=hs.m;have hH:=hs.h;have hq2:=h.s2;have hq3:=h.s3;have hq4:=h.s4;have hq5:=h.s5;have HKF:Hid (kF u=Pl.kZ 1 u.N u.N.length+3*u.M.length+3*u.H.length):=hide rfl;unfold Pl.Sp.cs;have b0:=(Below.refl w.heap.size w).alloc (o:= .cells #[.slice u.ia u.N.length u.ic, .slice u.ma u.M.length u.mc, .slice u.ha u.H.length u.hc, .int .i64 u.next] 32) (Nat.le_refl _)
 have V0:=hide (Mem.Blk.new w #[.slice u.ia u.N.length u.ic, .slice u.ma u.M.length u.mc, .slice u.ha u.H.length u.hc, .int .i64 u.next] 32);have a0:=(za V0).cell 0;simp only [kGs] at a0;clear hs h;go_enter Tryz.func10,Tryz.ntmps10
 go_wp2_with fail
 have HC:=hide (za c1 _ b0);have HA1:=hide ((za HA).call b0);have D0:Hid (Mem.Band S1 HH w (w.alloc (.cells #[.slice u.ia u.N.length u.ic, .slice u.ma u.M.length u.mc, .slice u.ha u.H.length u.hc, .int .i64 u.next] 32))):=hide (Mem.Band.of_below b0);clear c1 HA;generalize w.alloc (.cells #[.slice u.ia u.N.length u.ic, .slice u.ma u.M.length u.mc, .slice u.ha u.H.length u.hc, .int .i64 u.next] 32)=wA at b0 V0 a0 HC HA1 D0 ⊢;refine (za HC).mono ?_;rintro e w1 ⟨rfl,mz,bd⟩;have hlV:w.heap.size<wA.heap.size:=(za V0).lt;have V1:=hide (bd.blk (za V0) (.inr (by omega)));have MZ1:=hide mz;have om1:=Mem.zi7 (za HA1).om (fun g hg=>bd.block g (Mem.ze5 (za HA1).om g hg).2 (.inr (Mem.ze5 (za HA1).om g hg).1));have oh1:=Mem.zi7 (za HA1).oh (fun g hg=>bd.block g (Mem.ze5 (za HA1).oh g hg).2 (.inr (by have :=(Mem.ze5 (za HA1).oh g hg).1;omega)))
 have D1:=hide ((za D0).trans ⟨bd.os,bd.tape,bd.output,bd.size,fun b hb hh=>bd.block b hb (by omega)⟩);have OH1:=hide oh1;have OM1:=hide om1;have R1:=hide (za HA1).r1;have H1:=hide (za HA1).h1;have R2:=hide (za HA1).r2;have R3:=hide (za HA1).r3;have hl1:=bd.size;clear HC mz bd om1 oh1 HA1 V0 D0 a0 b0;have a1:=(za V1).cell 1;simp only [kGs] at a1;have HC:=hide (za c2 w1 (Pl.kZ 1 u.N u.N.length) hk0 (by omega) (za OM1));generalize hKe:Pl.kZ 1 u.N u.N.length=K1 at HC HKF hk0 hk1 ⊢;have HKE:=hide hKe;clear c2 hKe;go_wp2_with fail
 refine (za HC).mono ?_;rintro e w2 ⟨rfl,hm2,gr⟩;have V2:=hide ((za V1).grown gr (fun e=>by have :=za R2 _ e.symm;omega));have hlo2:=fun g hg=>(Mem.ze5 (za OM1) g hg).1;have MZ2:=hide (Mz_up (za MZ1) gr hlo2 (za R1) (za H1));have OH2:=hide (show Mem.own3 113 Pl.Hn.cs w2 S3 (.slice u.ha u.H.length u.hc) u.H from Mem.zi7 (za OH1) (fun g hg=>gr.block g (Mem.ze5 (za OH1) g hg).2 (fun e=>by have :=(Mem.ze5 (za OH1) g hg).1;have :=za R2 g e.symm;omega)));have D2:=hide ((za D1).trans ⟨gr.os,gr.tape,gr.output,gr.size,fun b hb hh=>gr.block b hb (fun e=>by have h1:=hlo2 b e.symm;have h2:=za R2 b e.symm;omega)⟩);have HM2:=hide hm2;have HR2:=hide hlo2;have hl2:=gr.size;clear HC hm2 gr MZ1 OM1 OH1 V1 D1 a1 hlo2;have a2:=(za V2).cell 2;simp only [kGs] at a2;have HC:=hide (za c3 w2 (K1+3*u.M.length) (by omega) (by omega) (za OH2));have hMK:=za HM2;clear c3;go_wp2_with fail
 refine (za HC).mono ?_;rintro e w3 ⟨rfl,hh3,gr⟩;have hlo3:=fun g hg=>(Mem.ze5 (za OH2) g hg).1;have MZ3:=hide (Mz_up (za MZ2) gr (fun g hg=>by have :=hlo3 g hg;omega) (za R1) (za H1));have D3:=hide ((za D2).trans ⟨gr.os,gr.tape,gr.output,gr.size,fun b hb hh=>gr.block b hb (fun e=>by have h1:=hlo3 b e.symm;have h2:=za R3 b e.symm;omega)⟩)
 have HM3:Hid (Mem.zc6 w3 u.ma (Pl.zu1 K1 u.M.length)):=hide (fun i x hx=>by
  obtain ⟨b,o,e1,e2,e3,e4,e5⟩:=hMK i x hx
  have hne:some b≠(Value.slice u.ha u.H.length u.hc).ownBlock:=fun e=>by
   have h3:=hlo3 b e.symm;have h4:=za R2 b (by rw [e1];rfl);omega
  exact ⟨b,o,e1,Nat.lt_of_lt_of_le e2 gr.size,gr.cell e3 hne,gr.cell e4 hne,gr.cell e5 hne⟩)
 have HH3:=hide hh3;clear HC hh3 gr MZ2 OH2 V2 D2 a2 hMK HM2 hlo3;go_wp2
 go_ret
 refine ⟨?_,⟨(za MZ3).zk0,?_,?_⟩,za D3⟩
 ·rw [za HKF];exact congrArg (fun x=>Ending.returned (Value.int .i64 x)) (by omega)
 ·rw [za HKE];exact za HM3
 ·rw [za HKE];exact za HH3
theorem heldSp_any (u:Pl.Sp) (w:World) (hs:Sm u) (h:Mk8 w u):
  Calls Tryz.prog 36 #[.agg u.cs, .int .i64 1] w fun e w'=>e= .returned (.int .i64 (kF u:Int))∧Below w.heap.size w w':=by
 obtain ⟨hk1,hk0⟩:=kZ_small hs;have hM:=hs.m;have hH:=hs.h;have c1:=hide (fun W (b:Below w.heap.size w W)=>WMkY.zg9 u.ia u.ic u.N W hs.n (fun x hx=>⟨(hs.i x hx).1,(hs.i x hx).2.2⟩) (h.call b).i);have c2:=hide (fun W (b:Below w.heap.size w W)=>WMkM.zg9 u.ma u.M.length u.mc (Pl.kZ 1 u.N u.N.length) W (by omega) hk0 (by omega) (h.call b).m);have c3:=hide (fun W (b:Below w.heap.size w W)=>WMkH.zg9 u.ha u.H.length u.hc (Pl.kZ 1 u.N u.N.length+3*u.M.length) W (by omega) (by omega) (by omega) (h.call b).h);have HKF:Hid (kF u=Pl.kZ 1 u.N u.N.length+3*u.M.length+3*u.H.length):=hide rfl;generalize kF u=KF at HKF ⊢;generalize Pl.kZ 1 u.N u.N.length=K1 at c1 c2 c3 HKF hk0 hk1;clear hs h;unfold Pl.Sp.cs;have b0:=(Below.refl w.heap.size w).alloc (o:= .cells #[.slice u.ia u.N.length u.ic, .slice u.ma u.M.length u.mc, .slice u.ha u.H.length u.hc, .int .i64 u.next] 32) (Nat.le_refl _)
 have V0:=hide (Mem.Blk.new w #[.slice u.ia u.N.length u.ic, .slice u.ma u.M.length u.mc, .slice u.ha u.H.length u.hc, .int .i64 u.next] 32);have a0:=(za V0).cell 0;simp only [kGs] at a0;go_enter Tryz.func36,Tryz.ntmps36
 go_wp2_with fail
 generalize w.alloc (.cells #[.slice u.ia u.N.length u.ic, .slice u.ma u.M.length u.mc, .slice u.ha u.H.length u.hc, .int .i64 u.next] 32)=wA at b0 V0 a0 ⊢;refine (za c1 _ b0).mono ?_;rintro e w1 ⟨rfl,bX⟩;have b1:=b0.trans (bX.mono b0.size);have V1:=hide ((za V0).call bX);have n1:¬ (K1:Int)<0:=by omega
 clear c1 bX V0 b0 a0;have a1:=(za V1).cell 1;simp only [kGs] at a1;go_wp2_with fail
 refine (za c2 _ b1).mono ?_;rintro e w2 ⟨rfl,bX⟩;have b2:=b1.trans (bX.mono b1.size);have V2:=hide ((za V1).call bX);have n2:¬ ((K1+3*u.M.length:Nat):Int)<0:=by omega
 clear c2 bX V1 b1 a1;have a2:=(za V2).cell 2;simp only [kGs] at a2;generalize K1+3*u.M.length=K2 at c3 n2 HKF ⊢;go_wp2_with fail
 refine (za c3 _ b2).mono ?_;rintro e w3 ⟨rfl,bX⟩;have b3:=b2.trans (bX.mono b2.size);have n3:¬ ((K2+3*u.H.length:Nat):Int)<0:=by omega
 clear c3 bX V2 b2 a2;generalize K2+3*u.H.length=K3 at n3 HKF ⊢;go_wp2
 go_ret
 exact ⟨(by rw [za HKF];first |done|rfl),b3⟩
end WSpO
end
section
open Go.RowKit
namespace zk4
theorem eq_any (v u:Value) (A:List ByteArray) (w:World) (hA:A.length≤1000) (hv:Mem.zd4 w v A) (hu:Mem.zd4 w u A):
  Calls Tryz.prog 28 #[v,u] w fun e w'=>e= .returned (.bool true)∧Below w.heap.size w w':=by
 obtain ⟨va,vc,rfl⟩:=Mem.zj4 hv;obtain ⟨ua,uc,rfl⟩:=Mem.zj4 hu
 have HCA:Hid (∀ (k:Nat) x,A[k]? =some x→∃b o,va=some ⟨b,o,none⟩∧b<w.heap.size∧w.cell? ⟨b,o+k,none⟩=some (.string x)):=fun k x hx=>by
  rcases hv with ⟨_,rfl⟩|⟨b,o,cap,h1,h2,h3⟩
  ·simp at hx
  ·cases h1;exact ⟨b,o,rfl,h2,h3 k x hx⟩
 have HCB:Hid (∀ (k:Nat) x,A[k]? =some x→∃b o,ua=some ⟨b,o,none⟩∧b<w.heap.size∧w.cell? ⟨b,o+k,none⟩=some (.string x)):=fun k x hx=>by
  rcases hu with ⟨_,rfl⟩|⟨b,o,cap,h1,h2,h3⟩
  ·simp at hx
  ·cases h1;exact ⟨b,o,rfl,h2,h3 k x hx⟩
 clear hv hu;go_enter Tryz.func28,Tryz.ntmps28
 go_wp2
 go_loopw [5] (fun i wr=>∃k:Nat,k≤A.length∧i= .int .i64 (k:Int)∧Below w.heap.size w wr) (fun i _=>A.length - (intOf i).toNat)
 case atStart=>exact ⟨0,Nat.zero_le _,rfl,Below.refl _ _⟩
 case round=>
  obtain ⟨k,hk,rfl,hbel⟩:=hrel;by_cases hlt:k<A.length
  ·obtain ⟨x,hx⟩:∃x,A[k]? =some x:=⟨_,List.getElem?_eq_getElem (by omega)⟩;obtain ⟨b,o,rfl,hb,hcb⟩:=HCB.out k x hx;obtain ⟨b',o',rfl,hb',hca⟩:=HCA.out k x hx;have hc1:wr.cell? ⟨b,o+k,none⟩=some (.string x):=(hbel.cell (p:=⟨b,o+k,none⟩) hb).trans hcb;have hc2:wr.cell? ⟨b',o'+k,none⟩=some (.string x):=(hbel.cell (p:=⟨b',o'+k,none⟩) hb').trans hca;have u1:(k:Int)<(A.length:Int):=by omega
   have u3:(0:Int)≤(k:Int):=by omega
   clear hcb hca hx HCA HCB;go_wp2
   go_quiet (fail)
   go_wp2
   go_roundw
   case rel=>exact ⟨k+1,by omega,by go_num,Mem.below_drewN hbel _⟩
   case measure=>simp [intOf];omega
  ·go_wp2
   go_ret
   exact ⟨rfl,hbel⟩

theorem lay_any (B g n cap K:Nat) (xs:List Value) (w:World) (hn:n≤1000) (hK:0<K) (hK2:K≤1000) (hown:w.ownsRow B 9 1 (.slice (some ⟨g,0,none⟩) n cap) n xs):
  Calls Tryz.prog 35 #[.slice (some ⟨g,0,none⟩) n cap, .int .i64 (K:Int)] w fun e w'=>e= .returned (.int .i64 ((K+n:Nat):Int))∧
   w'.ownsRow B 9 1 (.slice (some ⟨g,0,none⟩) n cap) n ((Pl.marks K n).map Value.string)∧w.grownBy w' (some g):=by
 have hlt0:=hown.lt g rfl;go_enter Tryz.func35,Tryz.ntmps35
 go_wp2
 go_loopw [1,5] (fun a i wr=>∃ (k:Nat) (ys:List Value),k≤n∧i= .int .i64 (k:Int)∧a= .int .i64 ((K+k:Nat):Int)∧wr.ownsRow B 9 1 (.slice (some ⟨g,0,none⟩) n cap) n ys∧w.grownBy wr (some g)∧
   Hid (ys.take k=(Pl.marks K k).map Value.string)) (fun _ i _=>n - (intOf i).toNat)
 case atStart=>exact ⟨0,xs,Nat.zero_le _,rfl,rfl,hown,⟨rfl,rfl,rfl,Nat.le_refl _,fun _ _ _=>rfl⟩,rfl⟩
 case round=>
  obtain ⟨k,ys,hk,rfl,rfl,hown1,hgr,HX⟩:=hrel;have hsz:=hgr.size;have hyl:ys.length=n:=by have :=hown1.1;omega
  by_cases hlt:k<n
  ·have u1:(k:Int)<(n:Int):=by omega
   have HM:=hide (fun W=>zf3 (K+k) W (by omega) (by omega))
   have HM2:Hid ((Pl.marks K (k+1)).map Value.string=(Pl.marks K k).map Value.string++[Value.string (Pl.mark (K+k))]):=by
    show _=_;rw [Pl.marks,List.map_append];rfl
   generalize Pl.mark (K+k)=t at HM HM2;go_wp2_with fail
   refine (za HM _).mono ?_;rintro e w2 ⟨rfl,hb2⟩;have hown2:=Mem.zd0 hown1 hb2;obtain ⟨hown3,hgr3⟩:=hown2.stored k (.string t)
   have hce:w2.cell? ⟨g,k,none⟩=some ys[k]:=by
    rw [hown2.cellAt k (by omega),List.getElem?_eq_getElem (by omega)]
   have hfr:=hown2.frozenAt k
   have hgr4:w.grownBy (w2.setCell ⟨g,k,none⟩ (.string t)) (some g):=
    ⟨hgr3.os.trans (hb2.os.trans hgr.os),hgr3.tape.trans (hb2.tape.trans hgr.tape),hgr3.output.trans (hb2.output.trans hgr.output),Nat.le_trans hsz (Nat.le_trans hb2.size hgr3.size),
     fun j hj hne=>(hgr3.block j (by have :=hb2.size;omega) hne).trans ((hb2.block j (by omega)).trans (hgr.block j hj hne))⟩
   have H3:Hid ((ys.set k (.string t)).take (k+1)=(Pl.marks K (k+1)).map Value.string):=by
    show _=_;rw [za HM2,←HX.out,List.take_add_one,List.take_set_of_le (by omega),List.getElem?_set_self (by omega)];rfl
   have HO3:=hide hown3;have HG4:=hide hgr4;clear hown1 hown2 hb2 hgr hgr3 HX hown3 hgr4 HM HM2;go_wp2
   go_roundw
   case rel=>exact ⟨k+1,_,by omega,by go_num,by go_num,za HO3,za HG4,H3⟩
   case measure=>simp [intOf];omega
  ·obtain rfl:k=n:=by omega
   have H2:Hid (ys=(Pl.marks K k).map Value.string):=by
    show _=_;have h1:=HX.out
    rwa [List.take_of_length_le (by omega)] at h1
   have HO:=hide hown1;have HG:=hide hgr;clear hown1 hgr;go_wp2
   go_ret
   exact ⟨rfl,by rw [←za H2];exact za HO,za HG⟩

theorem zg9 (v:Value) (n K:Nat) (w:World) (hn:n≤1000) (hK:0<K) (hK2:K≤1000) (hv:Mem.zd4 w v (Pl.marks K n)):
  Calls Tryz.prog 37 #[v, .int .i64 (K:Int)] w fun e w'=>e= .returned (.int .i64 ((K+n:Nat):Int))∧Below w.heap.size w w':=by
 have hsh:=Mem.zj4 hv;rw [Pl.zl4] at hsh;obtain ⟨va,vc,rfl⟩:=hsh
 have HCA:Hid (∀ (k:Nat),k<n→∃b o,va=some ⟨b,o,none⟩∧b<w.heap.size∧w.cell? ⟨b,o+k,none⟩=some (.string (Pl.mark (K+k)))):=fun k hk=>by
  have hx:=Pl.marks_get K n k hk
  rcases hv with ⟨_,h0⟩|⟨b,o,cap,h1,h2,h3⟩
  ·rw [h0] at hx;simp at hx
  ·rw [Pl.zl4] at h1;cases h1;exact ⟨b,o,rfl,h2,h3 k _ hx⟩
 clear hv;go_enter Tryz.func37,Tryz.ntmps37
 go_wp2
 go_loopw [1,5] (fun a i wr=>∃ (k:Nat),k≤n∧i= .int .i64 (k:Int)∧a= .int .i64 ((K+k:Nat):Int)∧Below w.heap.size w wr) (fun _ i _=>n - (intOf i).toNat)
 case atStart=>exact ⟨0,Nat.zero_le _,rfl,rfl,Below.refl _ _⟩
 case round=>
  obtain ⟨k,hk,rfl,rfl,hbel⟩:=hrel;have hsz:=hbel.size;by_cases hlt:k<n
  ·have u1:(k:Int)<(n:Int):=by omega
   have u3:(0:Int)≤(k:Int):=by omega
   have HM:=hide (fun W=>zf3 (K+k) W (by omega) (by omega));obtain ⟨b,o,rfl,hb,hca⟩:=HCA.out k hlt;have hc:wr.cell? ⟨b,o+k,none⟩=some (.string (Pl.mark (K+k))):=(hbel.cell (p:=⟨b,o+k,none⟩) hb).trans hca;have hbr:b<wr.heap.size:=by omega
   generalize Pl.mark (K+k)=t at HM hc hca;clear hca HCA;go_wp2
   go_region_held3 (fun w'=>w'.cell? ⟨b,o+k,none⟩=some (.string t)) (first |(go_keep;done)|exact (b2.cell (p:=⟨b,o+k,none⟩) (by simpa using hbr)).trans (by simpa using hc)) ((go_at_call 65;refine (za HM _).mono ?_;rintro e w' ⟨rfl,b2⟩))
   have hbel2:Below w.heap.size w w':=hbel.drew.trans (b2.mono hsz);clear b2 hbel HM;go_wp2
   go_roundw
   case rel=>exact ⟨k+1,by omega,by go_num,by go_num,hbel2⟩
   case measure=>simp [intOf];omega
  ·obtain rfl:k=n:=by omega
   go_wp2
   go_ret
   exact ⟨rfl,hbel⟩
end zk4
end
section
open Go.RowKit
namespace ze3
theorem layNil (K:Nat) (w:World):Calls Tryz.prog 35 #[.slice none 0 0, .int .i64 (K:Int)] w fun e w'=>e= .returned (.int .i64 (K:Int))∧Below w.heap.size w w':=by
 go_enter Tryz.func35,Tryz.ntmps35
 go_wp2
 refine wp_loop_rounds 1 ?_;rw [rounds_succ];go_wp2
 go_ret
 exact ⟨rfl,Below.refl _ _⟩
theorem lay_own (v:Value) (n B:Nat) (xs:List Value) (w:World) (hn:n≤1000) (h:w.ownsRow B 9 1 v n xs):
  Calls Tryz.prog 35 #[v, .int .i64 ((1:Nat):Int)] w fun e w'=>e= .returned (.int .i64 ((1+n:Nat):Int))∧Mem.zd4 w' v (Pl.marks 1 n)∧w.grownBy w' v.ownBlock:=by
 rcases h.2 with ⟨rfl,h0⟩|⟨g,cap,cur,rfl,_⟩
 ·subst h0;refine (layNil 1 w).mono fun e w' ⟨he,b⟩=>⟨he,?_,Mem.za4 b _⟩;exact .inl ⟨rfl,rfl⟩
 ·exact (zk4.lay_any B g n cap 1 xs w hn (by omega) (by omega) h).mono fun e w' ⟨he,ho,hg⟩=>⟨he,Mem.own_textsN ho (Pl.zl4 1 n),hg⟩
def Own (w:World) (B:Nat) (v:Value) (K:List ByteArray):Prop:=w.ownsRow B 9 1 v K.length (K.map Value.string)
theorem Own.call {w w':World} {B:Nat} {v:Value} {K:List ByteArray} (h:Own w B v K) (b:Below w.heap.size w w'):Own w' B v K:=Mem.zd0 h b
theorem Own.lt {w:World} {B:Nat} {v:Value} {K:List ByteArray} (h:Own w B v K):∀g,v.ownBlock=some g→B≤g∧g<w.heap.size:=fun g hg=>World.ownsRow.lt h g hg
theorem Own.grown {w w':World} {B:Nat} {v:Value} {K:List ByteArray} {r:Option Nat} (h:Own w B v K) (hg:w.grownBy w' r) (hr:∀g,v.ownBlock=some g→some g≠r):Own w' B v K:=by
 refine ⟨h.1,?_⟩
 rcases h.2 with h0|⟨g,cap,cur,rfl,hb,hh,rest⟩
 ·exact .inl h0
 ·exact .inr ⟨g,cap,cur,rfl,hb,(hg.block g (Array.getElem?_eq_some_iff.1 hh).1 (hr g rfl)).trans hh,rest⟩
theorem Own.texts {w:World} {B:Nat} {v:Value} {K:List ByteArray} (h:Own w B v K):Mem.zd4 w v K:=Mem.zd7 h
end ze3
end
section
open Go.RowKit
namespace WVfs
def vnl (v:Value) (c:Int):Value:= .agg #[.slice none 0 0, .slice none 0 0, .slice none 0 0, .int .i64 0, .string ⟨#[]⟩,v, .int .i64 0, .int .i64 0, .int .i64 c]
theorem zb9 {W:World} {B X i:Nat} {v u:Value} {K:List ByteArray} (h:ze3.Own W B v K) (hX:X<B):ze3.Own (W.setCell ⟨X,i,none⟩ u) B v K:=
 h.grown (r:=some X) ⟨rfl,rfl,rfl,by simp,fun k hk hne=>heap_setCell_other _ _ _ _ (fun e=>hne (by rw [e]))⟩ (fun g e h2=>by have :=(h.lt g e).1;cases h2;omega)
theorem zf1 {W:World} {B:Nat} {v:Value} {K:List ByteArray} (h:ze3.Own W B v K):∃sa sn sc,v= .slice sa sn sc:=by
 rcases h.2 with ⟨rfl,_⟩|⟨g,cap,cur,rfl,_⟩
 ·exact ⟨_,_,_,rfl⟩
 ·exact ⟨_,_,_,rfl⟩
theorem zx0 (W:World) (B:Nat):ze3.Own W B (.slice none 0 0) []:=⟨rfl, .inl ⟨rfl,rfl⟩⟩
end WVfs
end
section
open Go.RowKit Go.Shelf
attribute [local go_sem] Oper.semAt_some
namespace Pl
def ways (L:List ByteArray) (k:Nat):List ByteArray:=(List.range k).map (fun i=>glue (L.take (i+1)))
theorem yg (L:List ByteArray) (k:Nat):ways L (k+1)=ways L k++[glue (L.take (k+1))]:=by simp [ways,List.range_succ]
theorem zm7 (L:List ByteArray) (k:Nat):(ways L k).length=k:=by simp [ways]
end Pl
namespace zp5
def KC (X:Nat) (W W':World):Prop:=W.heap.size≤W'.heap.size∧∀ (j:Nat) (o:Obj),j≠X→W.heap[j]? =some o→o.isCells=true→W'.heap[j]? =some o
theorem KC.trans {X:Nat} {A B C:World} (h1:KC X A B) (h2:KC X B C):KC X A C:=⟨Nat.le_trans h1.1 h2.1,fun j o hj ho hc=>h2.2 j o hj (h1.2 j o hj ho hc) hc⟩
theorem KC.put {X l:Nat} (W:World) (o o':Obj) (hl:W.heap[l]? =some o) (ho:o.isCells=false):KC X W (W.putObj l o'):=by
 refine ⟨by simp,fun j p _ hp hc=>?_⟩;have hne:j≠l:=fun e=>by rw [e,hl] at hp;cases hp;rw [ho] at hc;cases hc
 exact (World.putObj_heap_other hne).trans hp
end zp5
namespace Mem
theorem texts_take {w:World} {a:Option Addr} {n cap:Nat} {L:List ByteArray} (h:zd4 w (.slice a n cap) L) (k:Nat) (hk:k≤L.length) (h0:0<k):zd4 w (.slice a k cap) (L.take k):=by
 rcases h with ⟨_,h2⟩|⟨b,o,cap',hv,hb,hc⟩
 ·subst h2;simp at hk;omega
 ·injection hv with e1 e2 e3
  subst e1;refine .inr ⟨b,o,cap,by rw [List.length_take,Nat.min_eq_left hk],hb,fun j t hj=>hc j t ?_⟩;rw [List.getElem?_take] at hj
  split at hj
  ·exact hj
  ·cases hj
theorem own_cap {w:World} {B T n cap:Nat} {a:Option Addr} {xs:List Value} (h:w.ownsRow B T 1 (.slice a n cap) n xs):n≤cap:=by
 rcases h.2 with ⟨hv,h0⟩|⟨g,cap',cur,hv,hb,hg,hc,rest⟩
 ·omega
 ·injection hv with e1 e2 e3
  omega
end Mem
namespace zp5
theorem paths_any (p:ByteArray) (w:World):Calls Tryz.prog 120 #[.string p] w fun e w'=>e= .returned (.func (.func 144) #[] #[.pointer (some ⟨w.heap.size,0,none⟩)])∧w'=w.alloc (.cells #[.string p] 9):=by
 have hmf:∀ (fn:Fn) (first cap:Array Value) (w:World),(Instr.makeFunc fn first cap).run Tryz.prog w= .ok (.func fn first cap) w:=fun _ _ _ _=>rfl;go_enter Tryz.func120,Tryz.ntmps120
 go_wp2
 go_ret
 exact ⟨rfl,rfl⟩
end zp5
end
end Go.Proofs.YtbomeifgfalmdaaGreatDoor
