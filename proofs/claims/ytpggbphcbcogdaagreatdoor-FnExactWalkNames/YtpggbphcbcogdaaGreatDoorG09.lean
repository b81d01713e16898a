/- Several texts of one claim in one file: RangeOwn, MemNest, MapN. -/
import Derived.Test.YtpggbphcbcogdaaGreatDoorG05
import Derived.RangeFuncNested
import Derived.RangeFuncBound
import Derived.Shelf.RegionOpen
import Derived.OwnWalkIn
import Derived.LoopNIn
import Derived.LoopIn
namespace Go.Proofs.YtpggbphcbcogdaaGreatDoor
section
open Go.RowKit Go.Shelf
namespace Rng
structure Kq (C:World→Nat→Prop) (R:Nat→Prop) (W W':World):Prop where
 size:W.heap.size≤W'.heap.size
 kept:∀ (j:Nat) (o:Obj),W.heap[j]? =some o→(o.isCells=true→¬C W j)→(o.isCells=false→¬R j)→W'.heap[j]? =some o
 mine:∀j,C W' j→C W j∨W.heap.size≤j
theorem Kq.refl (C:World→Nat→Prop) (R:Nat→Prop) (W:World):Kq C R W W:=⟨Nat.le_refl _,fun _ _ h _ _=>h,fun _ h=> .inl h⟩
theorem Kq.trans {C:World→Nat→Prop} {R:Nat→Prop} {A B D:World} (h:Kq C R A B) (k:Kq C R B D):Kq C R A D:=by
 refine ⟨Nat.le_trans h.size k.size,fun j o hj hc hr=>?_,fun j hj=>?_⟩
 ·refine k.kept j o (h.kept j o hj hc hr) (fun hx hB=>?_) hr
  rcases h.mine j hB with h1|h1
  ·exact hc hx h1
  ·have :=(Array.getElem?_eq_some_iff.1 hj).1;omega
 ·rcases k.mine j hj with h1|h1
  ·exact h.mine j h1
  ·exact .inr (Nat.le_trans h.size h1)
theorem Kq.more {C:World→Nat→Prop} {R R':Nat→Prop} {A B:World} (h:Kq C R A B) (hr:∀j,R j→R' j):Kq C R' A B:=
 ⟨h.size,fun j o hj hc hn=>h.kept j o hj hc (fun e hR=>hn e (hr j hR)),h.mine⟩
def Mine (B:Nat) (C:World→Nat→Prop):Prop:=∀ (W W':World) (row:Option Nat),B≤W.heap.size→W.grownBy W' row→(∀r,row=some r→∃o:Obj,W.heap[r]? =some o∧o.isCells=false)→∀j,C W' j→C W j∨W.heap.size≤j
theorem Mine.up {B B':Nat} {C:World→Nat→Prop} (h:Mine B C) (hb:B≤B'):Mine B' C:=fun W W' row hB=>h W W' row (Nat.le_trans hb hB)
theorem Kq.grown {C:World→Nat→Prop} {R:Nat→Prop} {B:Nat} {W W':World} {row:Option Nat} (hC:Mine B C) (hB:B≤W.heap.size) (g:W.grownBy W' row) (hr:∀r,row=some r→R r∧∃o:Obj,W.heap[r]? =some o∧o.isCells=false):Kq C R W W':=by
 refine ⟨g.size,fun j o hj hc hn=>?_,fun j hj=>hC W W' row hB g (fun r e=>(hr r e).2) j hj⟩;refine (g.block j (Array.getElem?_eq_some_iff.1 hj).1 (fun e=>?_)).trans hj;obtain ⟨h1,o',h2,h3⟩:=hr j e.symm;rw [hj] at h2;cases h2
 exact hn h3 h1
theorem Kq.alloc {C:World→Nat→Prop} {R:Nat→Prop} {B:Nat} {W:World} (hC:Mine B C) (hB:B≤W.heap.size) (o:Obj):Kq C R W (W.alloc o):=
 Kq.grown hC hB (World.grownBy_alloc W o none) (fun r e=>by cases e)
theorem Kq.below {C:World→Nat→Prop} {R:Nat→Prop} {B:Nat} {W W':World} (hC:Mine B C) (hB:B≤W.heap.size) (b:Below W.heap.size W W'):Kq C R W W':=by
 exact Kq.grown hC hB (Mem.za4 b none) (fun r e=>by cases e)
theorem Kq.put {C:World→Nat→Prop} {R:Nat→Prop} {B l:Nat} {W:World} {o:Obj} (hC:Mine B C) (hB:B≤W.heap.size) (hl:W.heap[l]? =some o) (ho:o.isCells=false) (hR:R l) (o':Obj):Kq C R W (W.putObj l o'):=
 Kq.grown hC hB (grownBy_putObj' W l o') (fun r e=>by cases e;exact ⟨hR,o,hl,ho⟩)
def Seq {α:Type} (F:Fence) (n:Nat) (P:Program) (g:Nat) (lb:Array Value) (encs:α→Array Value) (C:World→Nat→Prop) (R:Nat→Prop) (S Sp:List α→Prop) (N:Nat) (w:World):Prop:=
 ∀ (l:Nat) (J Jx:List α→World→Prop) (W:World),R l→(∀j,R j→j<W.heap.size)→Below w.heap.size w W→OwnFrom W.heap.size J→OwnFrom W.heap.size Jx→
  (∀pre x W1,J pre W1→pre.length<N→YieldAt F (n - 1) P l (encs x) W1 fun e W'=>(e= .returned (.bool true)∧J (pre++[x]) W'∧Kq C R W1 W')∨(e= .returned (.bool false)∧Jx (pre++[x]) W'∧Kq C R W1 W'))→
  J [] W→CallsIn F n P g (#[.func (.yield l) #[] #[]]++lb) W fun e W'=>(∃v,e= .returned v)∧((∃xs,S xs∧J xs W')∨(∃pre,Sp pre∧Jx pre W'))
def endsIn {α:Type} (C:World→Nat→Prop) (R:Nat→Prop) (I:List α→World→Prop) (Ix:Code→List α→World→Prop) (xs:List α) (W:World):Exit→Act→World→Prop
 | .normal,_,W'=>Kq C R W W'∧I xs W'
 | .ret,_,W'=>Kq C R W W'∧Ix .ret xs W'
 | .exit id,_,W'=>Kq C R W W'∧Ix (.exit id) xs W'
 | .goto t,_,W'=>Kq C R W W'∧Ix (.goto t) xs W'
 | .panic _,_,_=>False
 | .outgrown,_,_=>False
theorem own_loop {β:Type} {B l:Nat} (hl:l<B) (r:Obj):OwnFrom B (fun (_:β) W=>W.heap[l]? =some r):=fun _ W W' row hs hg hrow=>by
 refine (hg.block l (Array.getElem?_eq_some_iff.1 hs).1 (fun e=>?_)).trans hs;have :=(hrow l e.symm).1;omega
variable {F:Fence} {n:Nat} {P:Program}
theorem range {α:Type} {g:Operand} {ps:Array Tmp} {assign body:Code} {Q:Exit→Act→World→Prop} {a:Act} {w:World} (hro:F.round=none) (h1:F.depth.isSome=true→1≤n) {gf:Nat} {lb:Array Value} (hg:a.eval g= .func (.func gf) #[] lb) (hFg:F.fn gf) (eg:∀args w,(callFunc gf args).run P w= .ok (.enter gf args) w)
  {encs:α→Array Value} {C:World→Nat→Prop} {R:Nat→Prop} {S Sp:List α→Prop} {N:Nat} {w0:World} (hseq:Seq F (n - 1) P gf lb encs C (fun j=>R j∨j=w.heap.size+1) S Sp N w0) (hb0:Below w0.heap.size w0 w) (hps:∀x,(encs x).size=ps.size)
  (hC:Mine w.heap.size C) (hR:∀j,R j→j<w.heap.size)
  (I:List α→World→Prop) (Ix:Code→List α→World→Prop) (hI:OwnFrom w.heap.size I) (hIx:∀c,OwnFrom w.heap.size (Ix c)) (h0:I [] w) (Ax:α→Act→World→Prop) (hAx:∀x a',OwnFrom w.heap.size (fun (_:Unit) W=>Ax x a' W))
  (hassign:∀ (l:Nat) (pre:List α) (x:α) (W:World) (K:Act→World→Prop),I pre W→w.heap.size+2≤W.heap.size→(∀a' W',Kq C R W W'→I pre W'→Ax x a' W'→K a' W')→
   assign.wpIn (F.inRound l) (n - 1 - 1) P (Exit.then K (fun _ _ _=>False)) { tmps:=(ps.zip (encs x)).foldl (fun t (p,v)=>t.setIfInBounds p v) a.tmps,defers:=[] } W)
  (hbody:∀ (l:Nat) (pre:List α) (x:α) (a':Act) (W:World),I pre W→Ax x a' W→pre.length<N→w.heap.size+2≤W.heap.size→body.wpIn (F.inRound l) (n - 1 - 1) P (endsIn C R I Ix (pre++[x]) W) a' W)
  (hdone:∀ (D:Nat) (xs:List α) (W:World),w.heap.size≤D→S xs→I xs W→W.heap[D]? =some (.deferred (some []))→Q .normal { a with defers:={ target:= .collected D,args:=#[] }::a.defers } W)
  (hstop:∀ (D:Nat) (c:Code) (pre:List α) (W:World),w.heap.size≤D→Sp pre→Ix c pre W→W.heap[D]? =some (.deferred (some []))→c.wpIn F n P Q { a with defers:={ target:= .collected D,args:=#[] }::a.defers } W):
  (Code.rangeFunc g ps assign body).wpIn F n P Q a w:=by
 refine wpIn_rangeFunc fun fn hfn=>?_;rw [hro]
 let rec':LoopState→Option Code→Loop:=fun st pe=>{ state:=st,pending:=pe,fn,tmps:=a.tmps,params:=ps,assign,body,defers:=w.heap.size }
 obtain ⟨rc,hrc⟩:∃rc,rc=rec':=⟨_,rfl⟩;have B0:Below w.heap.size w ((w.alloc (.deferred (some []))).alloc (.loop (rc .ready none))):=((Below.refl _ w).alloc (Nat.le_refl _) _).alloc (by simp) _;have z0:((w.alloc (.deferred (some []))).alloc (.loop (rc .ready none))).heap.size=w.heap.size+2:=by simp
 have L0:((w.alloc (.deferred (some []))).alloc (.loop (rc .ready none))).heap[w.heap.size+1]? =some (.loop (rc .ready none)):=by
  have :=World.alloc_heap_new (w.alloc (.deferred (some []))) (.loop (rc .ready none))
  rwa [World.size_alloc] at this
 have D0:((w.alloc (.deferred (some []))).alloc (.loop (rc .ready none))).heap[w.heap.size]? =some (.deferred (some [])):=(Below.heap_alloc _ _ _ (by simp)).trans (World.alloc_heap_new w _);have I0:I [] ((w.alloc (.deferred (some []))).alloc (.loop (rc .ready none))):=hI.alloc _ (hI.alloc _ h0)
 have e0:(Instr.enterLoop fn a.tmps ps assign body none).run P w= .ok (w.heap.size+1,[{ target:= .collected w.heap.size,args:=#[] }]) ((w.alloc (.deferred (some []))).alloc (.loop (rc .ready none))):=by
  rw [hrc];exact run_enterLoop_outer _ _ _ _ _
 generalize (w.alloc (.deferred (some []))).alloc (.loop (rc .ready none))=W1 at B0 z0 L0 D0 I0 e0;refine ⟨w.heap.size+1,[{ target:= .collected w.heap.size,args:=#[] }],W1,{ target:= .fn (.func gf) lb,args:=#[.func (.yield (w.heap.size+1)) #[] #[]] },W1,gf,#[.func (.yield (w.heap.size+1)) #[] #[]]++lb,W1,e0,?_,?_,?_,h1,?_⟩
 ·simp only [resolve,hg];simp [go_sem]
 ·intro f' hf';simp [Target.leads] at hf'
  subst hf';exact hFg
 ·simp [invoke,go_sem,eg]
 have own1:∀ (st:LoopState) (pe:Option Code),OwnFrom W1.heap.size (fun (_:List α) W=>W.heap[w.heap.size+1]? =some (.loop (rc st pe))):=fun st pe=>own_loop (by omega) _;have own2:OwnFrom W1.heap.size (fun (_:List α) W=>W.heap[w.heap.size]? =some (.deferred (some []))):=own_loop (by omega) _;have up:∀ {β:Type} {X:β→World→Prop},OwnFrom w.heap.size X→OwnFrom W1.heap.size X:=fun h s A B row hs hg' hr=>h s A B row hs hg' (fun r e=>⟨by have :=(hr r e).1;omega,(hr r e).2⟩)
 refine (hseq (w.heap.size+1)
  (fun pre W=>I pre W∧W.heap[w.heap.size+1]? =some (.loop (rc .ready none))∧W.heap[w.heap.size]? =some (.deferred (some [])))
  (fun pre W=>∃c,Ix c pre W∧W.heap[w.heap.size+1]? =some (.loop (rc .done (some c)))∧W.heap[w.heap.size]? =some (.deferred (some [])))
  W1 (.inr rfl) (fun j h=>h.elim (fun h=>by have :=hR j h;omega) (fun h=>by omega)) (hb0.trans (B0.mono hb0.size))
  (fun s A B row hs hg' hr=>⟨up hI s A B row hs.1 hg' hr,own1 _ _ s A B row hs.2.1 hg' hr,own2 s A B row hs.2.2 hg' hr⟩)
  (fun s A B row ⟨c,h1,h2,h3⟩ hg' hr=>⟨c,up (hIx c) s A B row h1 hg' hr,own1 _ _ s A B row h2 hg' hr,own2 s A B row h3 hg' hr⟩)
  ?_ ⟨I0,L0,D0⟩).mono ?_
 ·rintro pre x W ⟨hi,hl,hd⟩ hlen;have hlt:w.heap.size+1<W.heap.size:=(Array.getElem?_eq_some_iff.1 hl).1;have hy:=run_yield (P:=P) (args:=encs x) hl (by rw [hrc];exact hps x);rw [hrc] at hy;refine ⟨fn,_,assign,body,hy,roundIn_of_wpIn hfn (hassign _ pre x W _ hi (by omega) ?_)⟩;clear hy;intro a' Wa ka ia xa;have la:Wa.heap[w.heap.size+1]? =some (.loop (rc .ready none)):=ka.kept _ _ hl (fun e=>by cases e) (fun _ h=>by have :=hR _ h;omega);have da:Wa.heap[w.heap.size]? =some (.deferred (some [])):=ka.kept _ _ hd (fun e=>by cases e) (fun _ h=>by have :=hR _ h;omega);have hlt2:w.heap.size+1<Wa.heap.size:=(Array.getElem?_eq_some_iff.1 la).1;refine ⟨_,run_beginRound la (by rw [hrc]),?_⟩;have lb':(Wa.putObj (w.heap.size+1) (.loop { rc .ready none with state:= .busy })).heap[w.heap.size+1]? =some (.loop { rc .ready none with state:= .busy }):=World.putObj_heap_same hlt2
  have db:(Wa.putObj (w.heap.size+1) (.loop { rc .ready none with state:= .busy })).heap[w.heap.size]? =some (.deferred (some [])):=(World.putObj_heap_other (by omega)).trans da;have kb:Kq C (fun j=>R j∨j=w.heap.size+1) Wa (Wa.putObj (w.heap.size+1) (.loop { rc .ready none with state:= .busy })):=Kq.put hC (by omega) la rfl (.inr rfl) _;have zb:w.heap.size+2≤(Wa.putObj (w.heap.size+1) (.loop { rc .ready none with state:= .busy })).heap.size:=by have :=(Array.getElem?_eq_some_iff.1 lb').1;omega
  refine wpIn_mono (hbody _ pre x a' _ (hI.putObj _ ia (by omega) la rfl) ((hAx x a').putObj (s:=()) _ xa (by omega) la rfl) hlen zb) ?_;generalize Wa.putObj (w.heap.size+1) (.loop { rc .ready none with state:= .busy })=Wb at lb' db kb zb
  have fin:∀ (jump:Option Code) (W3:World),Kq C R Wb W3→
    (Instr.endRound (w.heap.size+1) jump).run P W3= .ok (.bool jump.isNone) (W3.putObj (w.heap.size+1) (.loop (rc (if jump.isNone then .ready else .done) jump)))∧
    W3.heap[w.heap.size+1]? =some (.loop { rc .ready none with state:= .busy })∧
    (W3.putObj (w.heap.size+1) (.loop (rc (if jump.isNone then .ready else .done) jump))).heap[w.heap.size+1]? =some (.loop (rc (if jump.isNone then .ready else .done) jump))∧
    (W3.putObj (w.heap.size+1) (.loop (rc (if jump.isNone then .ready else .done) jump))).heap[w.heap.size]? =some (.deferred (some []))∧
    Kq C (fun j=>R j∨j=w.heap.size+1) W (W3.putObj (w.heap.size+1) (.loop (rc (if jump.isNone then .ready else .done) jump))):=fun jump W3 k3=>by
   have l3:=k3.kept _ _ lb' (fun e=>by cases e) (fun _ h=>by have :=hR _ h;omega);have d3:=k3.kept _ _ db (fun e=>by cases e) (fun _ h=>by have :=hR _ h;omega);have hr:=run_endRound (P:=P) jump l3;rw [hrc] at hr l3 ⊢;refine ⟨hr,l3,World.putObj_heap_same (Array.getElem?_eq_some_iff.1 l3).1,(World.putObj_heap_other (by omega)).trans d3,?_⟩;exact ((ka.more (fun _ h=> .inl h)).trans (kb.trans (k3.more (fun _ h=> .inl h)))).trans (Kq.put hC (by have :=k3.size;omega) l3 rfl (.inr rfl) _)
  rintro e a3 W3 hp;cases e with
  |normal=>
   obtain ⟨f1,f2,f3,f4,f5⟩:=fin none W3 hp.1;exact ⟨_,_,f1, .inl ⟨rfl,⟨hI.putObj _ hp.2 (by omega) f2 rfl,f3,f4⟩,f5⟩⟩
  |ret=>
   obtain ⟨f1,f2,f3,f4,f5⟩:=fin (some .ret) W3 hp.1;exact ⟨_,_,f1, .inr ⟨rfl,⟨.ret,(hIx _).putObj _ hp.2 (by omega) f2 rfl,f3,f4⟩,f5⟩⟩
  |exit id=>
   obtain ⟨f1,f2,f3,f4,f5⟩:=fin (some (.exit id)) W3 hp.1;exact ⟨_,_,f1, .inr ⟨rfl,⟨.exit id,(hIx _).putObj _ hp.2 (by omega) f2 rfl,f3,f4⟩,f5⟩⟩
  |goto t=>
   obtain ⟨f1,f2,f3,f4,f5⟩:=fin (some (.goto t)) W3 hp.1;exact ⟨_,_,f1, .inr ⟨rfl,⟨.goto t,(hIx _).putObj _ hp.2 (by omega) f2 rfl,f3,f4⟩,f5⟩⟩
  |panic ch=>exact hp.elim
  |outgrown=>exact hp.elim
 ·rintro e W2 ⟨⟨v,rfl⟩,(⟨xs,hS,hi,hl,hd⟩|⟨pre,hSp,c,hi,hl,hd⟩)⟩
  ·exact ⟨none,_,by have :=run_endLoop (P:=P) hl (by rw [hrc];simp [rec']);rw [hrc] at this;exact this,hdone _ xs _ (Nat.le_refl _) hS (hI.putObj _ hi (by omega) hl rfl) ((World.putObj_heap_other (by omega)).trans hd)⟩
  ·exact ⟨some c,_,by have :=run_endLoop (P:=P) hl (by rw [hrc];simp [rec']);rw [hrc] at this;exact this,hstop _ c pre _ (Nat.le_refl _) hSp ((hIx c).putObj _ hi (by omega) hl rfl) ((World.putObj_heap_other (by omega)).trans hd)⟩
end Rng
end
section
open Go.RowKit
namespace Mem
def rowF (w:World) (N:Nat→Prop):Pl.Fo→Nat→Nat→Prop
 | .nil,_,_=>True
 | .cons k m,b,i=>(∃x y a cap,w.cell? ⟨b,i,none⟩=some x∧w.cell? ⟨b,i+1,none⟩=some y∧w.cell? ⟨b,i+2,none⟩=some (.slice a k.len cap)∧b<w.heap.size∧N b∧
   (∃q,x= .map q)∧(∃q,y= .int .i64 q)∧(k= .nil∨∃b',a=some ⟨b',0,none⟩∧rowF w N k b' 0))∧rowF w N m b (i+3)
def lay (w:World) (N:Nat→Prop) (k:Pl.Fo) (v:Value):Prop:=∃a cap,v= .slice a k.len cap∧(k= .nil∨∃b',a=some ⟨b',0,none⟩∧rowF w N k b' 0)
theorem rowF_mono {w w':World} {N N':Nat→Prop} (h:∀b,N b→b<w.heap.size→N' b∧b<w'.heap.size∧w'.heap[b]? =w.heap[b]?) (F:Pl.Fo):∀b i,rowF w N F b i→rowF w' N' F b i:=by
 induction F with
 |nil=>intro b i _;trivial
 |cons k m ihk ihm=>
  intro b i hr;obtain ⟨⟨x,y,a,cap,h1,h2,h3,h4,h5,hx,hy,h6⟩,h7⟩:=hr;obtain ⟨g1,g2,g3⟩:=h b h5 h4;have c:∀j,w'.cell? ⟨b,j,none⟩=w.cell? ⟨b,j,none⟩:=fun j=>World.cell?_of_block g3;refine ⟨⟨x,y,a,cap,(c _).trans h1,(c _).trans h2,(c _).trans h3,g2,g1,hx,hy,?_⟩,ihm _ _ h7⟩
  rcases h6 with h6|⟨b',h6,h8⟩
  ·exact .inl h6
  ·exact .inr ⟨b',h6,ihk _ _ h8⟩
theorem lay_mono {w w':World} {N N':Nat→Prop} (h:∀b,N b→b<w.heap.size→N' b∧b<w'.heap.size∧w'.heap[b]? =w.heap[b]?) {k:Pl.Fo} {v:Value} (hl:lay w N k v):lay w' N' k v:=by
 obtain ⟨a,cap,h1,h2⟩:=hl;refine ⟨a,cap,h1,?_⟩
 rcases h2 with h2|⟨b',h2,h3⟩
 ·exact .inl h2
 ·exact .inr ⟨b',h2,rowF_mono h _ _ _ h3⟩
theorem lay_call {w w':World} {N:Nat→Prop} {k:Pl.Fo} {v:Value} (h:lay w N k v) (b:Below w.heap.size w w'):lay w' N k v:=lay_mono (fun g hg hl=>⟨hg,Nat.lt_of_lt_of_le hl b.size,b.block g hl⟩) h
end Mem
end
section
open Go.RowKit Go.Maps
namespace MapN
def key (p:ByteArray):Lit:= .string p.data.toList
def dat (n:Pl.Nd):DataW Unit:= .agg [.lit (.string n.path.data.toList), .lit (.int .i64 n.kind), .lit (.string n.data.data.toList), .lit (.int .i64 n.time), .lit (.int .i64 n.mark)]
theorem dat_inj {a b:Pl.Nd} (h:dat a=dat b):a=b:=by
 obtain ⟨p,k,d,t,m⟩:=a;obtain ⟨p',k',d',t',m'⟩:=b;simp only [dat,DataW.agg.injEq,List.cons.injEq,DataW.lit.injEq,Lit.string.injEq,Lit.int.injEq,and_true,true_and] at h;obtain ⟨h1,h2,h3,h4,h5⟩:=h;have e1:p=p':=Pl.zh7 h1;have e2:d=d':=Pl.zh7 h3;subst e1 e2 h2 h4 h5;rfl
def elem:Value→Option (DataW Unit × List MemPlace)
 | .agg cs=>match cs.toList with
  | [.string p, .int .i64 k, .string d, .int .i64 t, .int .i64 m]=>some (dat ⟨p,k,d,t,m⟩,[])
  |_=>none
 |_=>none
theorem elem_mk (n:Pl.Nd):elem n.val=some (dat n,[]):=rfl
theorem elem_inv {v:Value} {d:DataW Unit} {ps:List MemPlace} (h:elem v=some (d,ps)):∃n:Pl.Nd,v=n.val∧d=dat n:=by
 unfold elem at h
 split at h
 ·rename_i cs
  split at h
  ·rename_i p k d' t m hcs
   simp only [Option.some.injEq,Prod.mk.injEq] at h;refine ⟨⟨p,k,d',t,m⟩,?_,h.1.symm⟩;rw [Pl.Nd.val,show cs=cs.toList.toArray by simp,hcs]
  ·cases h
 ·cases h
def mapOf (C:List Pl.Nd):DataW Unit:=C.foldl (fun D n=>D.put (key n.path) (dat n)) (.map [])
theorem mapOf_snoc (C:List Pl.Nd) (n:Pl.Nd):mapOf (C++[n])=(mapOf C).put (key n.path) (dat n):=by simp [mapOf,List.foldl_append]
theorem key_is (p:ByteArray):WideAt.IsKeyLit (key p):=by simp [key,WideAt.IsKeyLit]
theorem key_ne {a b:ByteArray} (h:a≠b):key a≠key b:=fun e=>h (Pl.zh7 (Lit.string.inj e))
theorem isMap_fold:∀ (C:List Pl.Nd) (D:DataW Unit),IsMap D→IsMap (C.foldl (fun D n=>D.put (key n.path) (dat n)) D):=by
 intro C
 induction C with
 |nil=>intro D h;exact h
 |cons n C ih=>intro D h;exact ih _ (h.put _ _)
theorem zw (C:List Pl.Nd):IsMap (mapOf C):=isMap_fold C _ isMap_empty
theorem zs8 (p:ByteArray):∀ (C:List Pl.Nd) (D:DataW Unit),(∀n∈C,n.path≠p)→Maps.has (C.foldl (fun D n=>D.put (key n.path) (dat n)) D) (key p)=Maps.has D (key p)∧∀z,(C.foldl (fun D n=>D.put (key n.path) (dat n)) D).atKey (key p) z=D.atKey (key p) z:=by
 intro C
 induction C with
 |nil=>intro D _;exact ⟨rfl,fun _=>rfl⟩
 |cons n C ih=>
  intro D h;have h1:key p≠key n.path:=key_ne (fun e=>h n List.mem_cons_self e.symm);obtain ⟨i1,i2⟩:=ih (D.put (key n.path) (dat n)) (fun m hm=>h m (List.mem_cons_of_mem _ hm));refine ⟨?_,fun z=>?_⟩
  ·show Maps.has (C.foldl _ (D.put (key n.path) (dat n))) (key p)=_;rw [i1,has_put_other h1]
  ·show (C.foldl _ (D.put (key n.path) (dat n))).atKey (key p) z=_;rw [i2,atKey_put_other h1]
theorem has_no {C:List Pl.Nd} {p:ByteArray} (h:∀n∈C,n.path≠p):Maps.has (mapOf C) (key p)=false:=by
 rw [mapOf,(zs8 p C _ h).1];rfl
theorem at_yes {C:List Pl.Nd} {n:Pl.Nd} (hC:C.Pairwise (fun a b=>a.path≠b.path)) (hn:n∈C):Maps.has (mapOf C) (key n.path)=true∧∀z,(mapOf C).atKey (key n.path) z=dat n:=by
 obtain ⟨A,B,rfl⟩:=List.append_of_mem hn;rw [List.pairwise_append] at hC;have h2:=(List.pairwise_cons.1 hC.2.1).1;have e:mapOf (A++n::B)=B.foldl (fun D n=>D.put (key n.path) (dat n)) ((mapOf A).put (key n.path) (dat n)):=by simp [mapOf,List.foldl_append]
 obtain ⟨i1,i2⟩:=zs8 n.path B ((mapOf A).put (key n.path) (dat n)) (fun m hm e=>h2 m hm e.symm);rw [e];exact ⟨by rw [i1,has_put_same (zw A) (key_is _)],fun z=>by rw [i2,atKey_put_same (zw A) (key_is _)]⟩
theorem law:Keyed Tryz.prog 9:=string_keyed Tryz.underlying9
theorem za3 (w:World):(zeroValue 42).run Tryz.prog w= .ok (Pl.Nd.val ⟨⟨#[]⟩,0,⟨#[]⟩,0,0⟩) w:=by kernel_rfl
theorem keyOf_mk {p:ByteArray} (h:p.size≤maxLen):keyOf Tryz.prog 9 (.string p)=some (key p):=WideMaps.keyOf_string_mk Tryz.underlying9 h
end MapN
end
end Go.Proofs.YtpggbphcbcogdaaGreatDoor
