/- Several texts of one claim in one file: RangeOwn, EachSeq. -/
import Derived.RangeFuncNested
import Derived.RangeFuncBound
import Derived.Shelf.RegionOpen
import Derived.OwnWalkIn
import Derived.LoopNIn
import Derived.LoopIn
import Derived.Test.YtbomeifgfalmdaaGreatDoorG04
namespace Go.Proofs.YtbomeifgfalmdaaGreatDoor
section
open Go.RowKit Go.Shelf
namespace Rng
structure Kq (C:World→Nat→Prop) (R:Nat→Prop) (W W':World):Prop where
 size:W.heap.size≤W'.heap.size
 kept:∀ (j:Nat) (o:Obj),W.heap[j]? =some o→(o.isCells=true→¬C W j)→(o.isCells=false→¬R j)→W'.heap[j]? =some o
 mine:∀j,C W' j→C W j∨W.heap.size≤j
theorem Kq.refl (C:World→Nat→Prop) (R:Nat→Prop) (W:World):Kq C R W W:=⟨Nat.le_refl _,fun _ _ h _ _=>h,fun _ h=> .inl h⟩
theorem Kq.trans {C:World→Nat→Prop} {R:Nat→Prop} {A B D:World} (h:Kq C R A B) (k:Kq C R B D):Kq C R A D:=by
 refine ⟨Nat.le_trans h.size k.size,fun j o hj hc hr=>?_,fun j hj=>?_⟩
 ·refine k.kept j o (h.kept j o hj hc hr) (fun hx hB=>?_) hr
  rcases h.mine j hB with h1|h1
  ·exact hc hx h1
  ·have :=(Array.getElem?_eq_some_iff.1 hj).1;omega
 ·rcases k.mine j hj with h1|h1
  ·exact h.mine j h1
  ·exact .inr (Nat.le_trans h.size h1)
theorem Kq.more {C:World→Nat→Prop} {R R':Nat→Prop} {A B:World} (h:Kq C R A B) (hr:∀j,R j→R' j):Kq C R' A B:=
 ⟨h.size,fun j o hj hc hn=>h.kept j o hj hc (fun e hR=>hn e (hr j hR)),h.mine⟩
def Mine (B:Nat) (C:World→Nat→Prop):Prop:=∀ (W W':World) (row:Option Nat),B≤W.heap.size→W.grownBy W' row→(∀r,row=some r→∃o:Obj,W.heap[r]? =some o∧o.isCells=false)→∀j,C W' j→C W j∨W.heap.size≤j
theorem Mine.up {B B':Nat} {C:World→Nat→Prop} (h:Mine B C) (hb:B≤B'):Mine B' C:=fun W W' row hB=>h W W' row (Nat.le_trans hb hB)
theorem Kq.grown {C:World→Nat→Prop} {R:Nat→Prop} {B:Nat} {W W':World} {row:Option Nat} (hC:Mine B C) (hB:B≤W.heap.size) (g:W.grownBy W' row) (hr:∀r,row=some r→R r∧∃o:Obj,W.heap[r]? =some o∧o.isCells=false):Kq C R W W':=by
 refine ⟨g.size,fun j o hj hc hn=>?_,fun j hj=>hC W W' row hB g (fun r e=>(hr r e).2) j hj⟩;refine (g.block j (Array.getElem?_eq_some_iff.1 hj).1 (fun e=>?_)).trans hj;obtain ⟨h1,o',h2,h3⟩:=hr j e.symm;rw [hj] at h2;cases h2
 exact hn h3 h1
theorem Kq.alloc {C:World→Nat→Prop} {R:Nat→Prop} {B:Nat} {W:World} (hC:Mine B C) (hB:B≤W.heap.size) (o:Obj):Kq C R W (W.alloc o):=
 Kq.grown hC hB (World.grownBy_alloc W o none) (fun r e=>by cases e)
theorem Kq.below {C:World→Nat→Prop} {R:Nat→Prop} {B:Nat} {W W':World} (hC:Mine B C) (hB:B≤W.heap.size) (b:Below W.heap.size W W'):Kq C R W W':=by
 exact Kq.grown hC hB (Mem.za4 b none) (fun r e=>by cases e)
theorem Kq.put {C:World→Nat→Prop} {R:Nat→Prop} {B l:Nat} {W:World} {o:Obj} (hC:Mine B C) (hB:B≤W.heap.size) (hl:W.heap[l]? =some o) (ho:o.isCells=false) (hR:R l) (o':Obj):Kq C R W (W.putObj l o'):=
 Kq.grown hC hB (grownBy_putObj' W l o') (fun r e=>by cases e;exact ⟨hR,o,hl,ho⟩)
def Seq {α:Type} (F:Fence) (n:Nat) (P:Program) (g:Nat) (lb:Array Value) (encs:α→Array Value) (C:World→Nat→Prop) (R:Nat→Prop) (S Sp:List α→Prop) (N:Nat) (w:World):Prop:=
 ∀ (l:Nat) (J Jx:List α→World→Prop) (W:World),R l→(∀j,R j→j<W.heap.size)→Below w.heap.size w W→OwnFrom W.heap.size J→OwnFrom W.heap.size Jx→
  (∀pre x W1,J pre W1→pre.length<N→YieldAt F (n - 1) P l (encs x) W1 fun e W'=>(e= .returned (.bool true)∧J (pre++[x]) W'∧Kq C R W1 W')∨(e= .returned (.bool false)∧Jx (pre++[x]) W'∧Kq C R W1 W'))→
  J [] W→CallsIn F n P g (#[.func (.yield l) #[] #[]]++lb) W fun e W'=>(∃v,e= .returned v)∧((∃xs,S xs∧J xs W')∨(∃pre,Sp pre∧Jx pre W'))
def endsIn {α:Type} (C:World→Nat→Prop) (R:Nat→Prop) (I:List α→World→Prop) (Ix:Code→List α→World→Prop) (xs:List α) (W:World):Exit→Act→World→Prop
 | .normal,_,W'=>Kq C R W W'∧I xs W'
 | .ret,_,W'=>Kq C R W W'∧Ix .ret xs W'
 | .exit id,_,W'=>Kq C R W W'∧Ix (.exit id) xs W'
 | .goto t,_,W'=>Kq C R W W'∧Ix (.goto t) xs W'
 | .panic _,_,_=>False
 | .outgrown,_,_=>False
theorem own_loop {β:Type} {B l:Nat} (hl:l<B) (r:Obj):OwnFrom B (fun (_:β) W=>W.heap[l]? =some r):=fun _ W W' row hs hg hrow=>by
 refine (hg.block l (Array.getElem?_eq_some_iff.1 hs).1 (fun e=>?_)).trans hs;have :=(hrow l e.symm).1;omega
variable {F:Fence} {n:Nat} {P:Program}
theorem range {α:Type} {g:Operand} {ps:Array Tmp} {assign body:Code} {Q:Exit→Act→World→Prop} {a:Act} {w:World} (hro:F.round=none) (h1:F.depth.isSome=true→1≤n) {gf:Nat} {lb:Array Value} (hg:a.eval g= .func (.func gf) #[] lb) (hFg:F.fn gf) (eg:∀args w,(callFunc gf args).run P w= .ok (.enter gf args) w)
  {encs:α→Array Value} {C:World→Nat→Prop} {R:Nat→Prop} {S Sp:List α→Prop} {N:Nat} {w0:World} (hseq:Seq F (n - 1) P gf lb encs C (fun j=>R j∨j=w.heap.size+1) S Sp N w0) (hb0:Below w0.heap.size w0 w) (hps:∀x,(encs x).size=ps.size)
  (hC:Mine w.heap.size C) (hR:∀j,R j→j<w.heap.size)
  (I:List α→World→Prop) (Ix:Code→List α→World→Prop) (hI:OwnFrom w.heap.size I) (hIx:∀c,OwnFrom w.heap.size (Ix c)) (h0:I [] w) (Ax:α→Act→World→Prop) (hAx:∀x a',OwnFrom w.heap.size (fun (_:Unit) W=>Ax x a' W))
  (hassign:∀ (l:Nat) (pre:List α) (x:α) (W:World) (K:Act→World→Prop),I pre W→w.heap.size+2≤W.heap.size→(∀a' W',Kq C R W W'→I pre W'→Ax x a' W'→K a' W')→
   assign.wpIn (F.inRound l) (n - 1 - 1) P (Exit.then K (fun _ _ _=>False)) { tmps:=(ps.zip (encs x)).foldl (fun t (p,v)=>t.setIfInBounds p v) a.tmps,defers:=[] } W)
  (hbody:∀ (l:Nat) (pre:List α) (x:α) (a':Act) (W:World),I pre W→Ax x a' W→pre.length<N→w.heap.size+2≤W.heap.size→body.wpIn (F.inRound l) (n - 1 - 1) P (endsIn C R I Ix (pre++[x]) W) a' W)
  (hdone:∀ (D:Nat) (xs:List α) (W:World),w.heap.size≤D→S xs→I xs W→W.heap[D]? =some (.deferred (some []))→Q .normal { a with defers:={ target:= .collected D,args:=#[] }::a.defers } W)
  (hstop:∀ (D:Nat) (c:Code) (pre:List α) (W:World),w.heap.size≤D→Sp pre→Ix c pre W→W.heap[D]? =some (.deferred (some []))→c.wpIn F n P Q { a with defers:={ target:= .collected D,args:=#[] }::a.defers } W):
  (Code.rangeFunc g ps assign body).wpIn F n P Q a w:=by
 refine wpIn_rangeFunc fun fn hfn=>?_;rw [hro]
 let rec':LoopState→Option Code→Loop:=fun st pe=>{ state:=st,pending:=pe,fn,tmps:=a.tmps,params:=ps,assign,body,defers:=w.heap.size }
 obtain ⟨rc,hrc⟩:∃rc,rc=rec':=⟨_,rfl⟩;have B0:Below w.heap.size w ((w.alloc (.deferred (some []))).alloc (.loop (rc .ready none))):=((Below.refl _ w).alloc (Nat.le_refl _) _).alloc (by simp) _;have z0:((w.alloc (.deferred (some []))).alloc (.loop (rc .ready none))).heap.size=w.heap.size+2:=by simp
 have L0:((w.alloc (.deferred (some []))).alloc (.loop (rc .ready none))).heap[w.heap.size+1]? =some (.loop (rc .ready none)):=by
  have :=World.alloc_heap_new (w.alloc (.deferred (some []))) (.loop (rc .ready none))
  rwa [World.size_alloc] at this
 have D0:((w.alloc (.deferred (some []))).alloc (.loop (rc .ready none))).heap[w.heap.size]? =some (.deferred (some [])):=(Below.heap_alloc _ _ _ (by simp)).trans (World.alloc_heap_new w _);have I0:I [] ((w.alloc (.deferred (some []))).alloc (.loop (rc .ready none))):=hI.alloc _ (hI.alloc _ h0)
 have e0:(Instr.enterLoop fn a.tmps ps assign body none).run P w= .ok (w.heap.size+1,[{ target:= .collected w.heap.size,args:=#[] }]) ((w.alloc (.deferred (some []))).alloc (.loop (rc .ready none))):=by
  rw [hrc];exact run_enterLoop_outer _ _ _ _ _
 generalize (w.alloc (.deferred (some []))).alloc (.loop (rc .ready none))=W1 at B0 z0 L0 D0 I0 e0;refine ⟨w.heap.size+1,[{ target:= .collected w.heap.size,args:=#[] }],W1,{ target:= .fn (.func gf) lb,args:=#[.func (.yield (w.heap.size+1)) #[] #[]] },W1,gf,#[.func (.yield (w.heap.size+1)) #[] #[]]++lb,W1,e0,?_,?_,?_,h1,?_⟩
 ·simp only [resolve,hg];simp [go_sem]
 ·intro f' hf';simp [Target.leads] at hf'
  subst hf';exact hFg
 ·simp [invoke,go_sem,eg]
 have own1:∀ (st:LoopState) (pe:Option Code),OwnFrom W1.heap.size (fun (_:List α) W=>W.heap[w.heap.size+1]? =some (.loop (rc st pe))):=fun st pe=>own_loop (by omega) _;have own2:OwnFrom W1.heap.size (fun (_:List α) W=>W.heap[w.heap.size]? =some (.deferred (some []))):=own_loop (by omega) _;have up:∀ {β:Type} {X:β→World→Prop},OwnFrom w.heap.size X→OwnFrom W1.heap.size X:=fun h s A B row hs hg' hr=>h s A B row hs hg' (fun r e=>⟨by have :=(hr r e).1;omega,(hr r e).2⟩)
 refine (hseq (w.heap.size+1)
  (fun pre W=>I pre W∧W.heap[w.heap.size+1]? =some (.loop (rc .ready none))∧W.heap[w.heap.size]? =some (.deferred (some [])))
  (fun pre W=>∃c,Ix c pre W∧W.heap[w.heap.size+1]? =some (.loop (rc .done (some c)))∧W.heap[w.heap.size]? =some (.deferred (some [])))
  W1 (.inr rfl) (fun j h=>h.elim (fun h=>by have :=hR j h;omega) (fun h=>by omega)) (hb0.trans (B0.mono hb0.size))
  (fun s A B row hs hg' hr=>⟨up hI s A B row hs.1 hg' hr,own1 _ _ s A B row hs.2.1 hg' hr,own2 s A B row hs.2.2 hg' hr⟩)
  (fun s A B row ⟨c,h1,h2,h3⟩ hg' hr=>⟨c,up (hIx c) s A B row h1 hg' hr,own1 _ _ s A B row h2 hg' hr,own2 s A B row h3 hg' hr⟩)
  ?_ ⟨I0,L0,D0⟩).mono ?_
 ·rintro pre x W ⟨hi,hl,hd⟩ hlen;have hlt:w.heap.size+1<W.heap.size:=(Array.getElem?_eq_some_iff.1 hl).1;have hy:=run_yield (P:=P) (args:=encs x) hl (by rw [hrc];exact hps x);rw [hrc] at hy;refine ⟨fn,_,assign,body,hy,roundIn_of_wpIn hfn (hassign _ pre x W _ hi (by omega) ?_)⟩;clear hy;intro a' Wa ka ia xa;have la:Wa.heap[w.heap.size+1]? =some (.loop (rc .ready none)):=ka.kept _ _ hl (fun e=>by cases e) (fun _ h=>by have :=hR _ h;omega);have da:Wa.heap[w.heap.size]? =some (.deferred (some [])):=ka.kept _ _ hd (fun e=>by cases e) (fun _ h=>by have :=hR _ h;omega);have hlt2:w.heap.size+1<Wa.heap.size:=(Array.getElem?_eq_some_iff.1 la).1;refine ⟨_,run_beginRound la (by rw [hrc]),?_⟩;have lb':(Wa.putObj (w.heap.size+1) (.loop { rc .ready none with state:= .busy })).heap[w.heap.size+1]? =some (.loop { rc .ready none with state:= .busy }):=World.putObj_heap_same hlt2
  have db:(Wa.putObj (w.heap.size+1) (.loop { rc .ready none with state:= .busy })).heap[w.heap.size]? =some (.deferred (some [])):=(World.putObj_heap_other (by omega)).trans da;have kb:Kq C (fun j=>R j∨j=w.heap.size+1) Wa (Wa.putObj (w.heap.size+1) (.loop { rc .ready none with state:= .busy })):=Kq.put hC (by omega) la rfl (.inr rfl) _;have zb:w.heap.size+2≤(Wa.putObj (w.heap.size+1) (.loop { rc .ready none with state:= .busy })).heap.size:=by have :=(Array.getElem?_eq_some_iff.1 lb').1;omega
  refine wpIn_mono (hbody _ pre x a' _ (hI.putObj _ ia (by omega) la rfl) ((hAx x a').putObj (s:=()) _ xa (by omega) la rfl) hlen zb) ?_;generalize Wa.putObj (w.heap.size+1) (.loop { rc .ready none with state:= .busy })=Wb at lb' db kb zb
  have fin:∀ (jump:Option Code) (W3:World),Kq C R Wb W3→
    (Instr.endRound (w.heap.size+1) jump).run P W3= .ok (.bool jump.isNone) (W3.putObj (w.heap.size+1) (.loop (rc (if jump.isNone then .ready else .done) jump)))∧
    W3.heap[w.heap.size+1]? =some (.loop { rc .ready none with state:= .busy })∧
    (W3.putObj (w.heap.size+1) (.loop (rc (if jump.isNone then .ready else .done) jump))).heap[w.heap.size+1]? =some (.loop (rc (if jump.isNone then .ready else .done) jump))∧
    (W3.putObj (w.heap.size+1) (.loop (rc (if jump.isNone then .ready else .done) jump))).heap[w.heap.size]? =some (.deferred (some []))∧
    Kq C (fun j=>R j∨j=w.heap.size+1) W (W3.putObj (w.heap.size+1) (.loop (rc (if jump.isNone then .ready else .done) jump))):=fun jump W3 k3=>by
   have l3:=k3.kept _ _ lb' (fun e=>by cases e) (fun _ h=>by have :=hR _ h;omega);have d3:=k3.kept _ _ db (fun e=>by cases e) (fun _ h=>by have :=hR _ h;omega);have hr:=run_endRound (P:=P) jump l3;rw [hrc] at hr l3 ⊢;refine ⟨hr,l3,World.putObj_heap_same (Array.getElem?_eq_some_iff.1 l3).1,(World.putObj_heap_other (by omega)).trans d3,?_⟩;exact ((ka.more (fun _ h=> .inl h)).trans (kb.trans (k3.more (fun _ h=> .inl h)))).trans (Kq.put hC (by have :=k3.size;omega) l3 rfl (.inr rfl) _)
  rintro e a3 W3 hp;cases e with
  |normal=>
   obtain ⟨f1,f2,f3,f4,f5⟩:=fin none W3 hp.1;exact ⟨_,_,f1, .inl ⟨rfl,⟨hI.putObj _ hp.2 (by omega) f2 rfl,f3,f4⟩,f5⟩⟩
  |ret=>
   obtain ⟨f1,f2,f3,f4,f5⟩:=fin (some .ret) W3 hp.1;exact ⟨_,_,f1, .inr ⟨rfl,⟨.ret,(hIx _).putObj _ hp.2 (by omega) f2 rfl,f3,f4⟩,f5⟩⟩
  |exit id=>
   obtain ⟨f1,f2,f3,f4,f5⟩:=fin (some (.exit id)) W3 hp.1;exact ⟨_,_,f1, .inr ⟨rfl,⟨.exit id,(hIx _).putObj _ hp.2 (by omega) f2 rfl,f3,f4⟩,f5⟩⟩
  |goto t=>
   obtain ⟨f1,f2,f3,f4,f5⟩:=fin (some (.goto t)) W3 hp.1;exact ⟨_,_,f1, .inr ⟨rfl,⟨.goto t,(hIx _).putObj _ hp.2 (by omega) f2 rfl,f3,f4⟩,f5⟩⟩
  |panic ch=>exact hp.elim
  |outgrown=>exact hp.elim
 ·rintro e W2 ⟨⟨v,rfl⟩,(⟨xs,hS,hi,hl,hd⟩|⟨pre,hSp,c,hi,hl,hd⟩)⟩
  ·exact ⟨none,_,by have :=run_endLoop (P:=P) hl (by rw [hrc];simp [rec']);rw [hrc] at this;exact this,hdone _ xs _ (Nat.le_refl _) hS (hI.putObj _ hi (by omega) hl rfl) ((World.putObj_heap_other (by omega)).trans hd)⟩
  ·exact ⟨some c,_,by have :=run_endLoop (P:=P) hl (by rw [hrc];simp [rec']);rw [hrc] at this;exact this,hstop _ c pre _ (Nat.le_refl _) hSp ((hIx c).putObj _ hi (by omega) hl rfl) ((World.putObj_heap_other (by omega)).trans hd)⟩
end Rng
end
section
open Go.RowKit Go.Shelf
attribute [local go_sem] Oper.semAt_some
namespace Pl
def za8:Fx→List (List Nd)
 | .nil=>[]
 | .cons L k m=>(if k.len=0 then [L] else za8 k)++za8 m
def zk:Nat→Fx→Fx
 |0,X=>X
 |_+1, .nil=> .nil
 |n+1, .cons _ _ m=>zk n m
theorem drop_len:∀ (n:Nat) (X:Fx),(zk n X).len=X.len - n:=by
 intro n
 induction n with
 |zero=>intro X;rfl
 |succ n ih=>
  intro X;cases X with
  |nil=>simp [zk,Fx.len]
  |cons L k m=>rw [zk,ih,Fx.len];omega
theorem drop_next {n:Nat}:∀ {X:Fx} {L:List Nd} {k m:Fx},zk n X= .cons L k m→zk (n+1) X=m:=by
 induction n with
 |zero=>intro X L k m h;cases X with
  |nil=>cases h
  |cons L' k' m'=>cases h;rfl
 |succ n ih=>intro X L k m h;cases X with
  |nil=>cases h
  |cons L' k' m'=>exact ih h
theorem drop_sz {n:Nat}:∀ {X:Fx} {L:List Nd} {k m:Fx},zk n X= .cons L k m→k.sz<X.sz:=by
 induction n with
 |zero=>intro X L k m h;cases X with
  |nil=>cases h
  |cons L' k' m'=>cases h;simp [Fx.sz];omega
 |succ n ih=>intro X L k m h;cases X with
  |nil=>cases h
  |cons L' k' m'=>have :=ih (X:=m') h;simp [Fx.sz];omega
theorem drop_ok {n:Nat}:∀ {X:Fx},X.okX→(zk n X).okX:=by
 induction n with
 |zero=>intro X h;exact h
 |succ n ih=>intro X h;cases X with
  |nil=>trivial
  |cons L k m=>exact ih h.2.2.2.2
theorem drop_leaves {n:Nat}:∀ {X:Fx} {L:List Nd} {k m:Fx},zk n X= .cons L k m→∀ls,ls++za8 (zk n X)=za8 X→(ls++za8 (.cons L k .nil))++za8 (zk (n+1) X)=za8 X:=by
 intro X L k m h ls hl;rw [drop_next h,←hl,h,za8,za8,za8];simp
end Pl
namespace Rng
theorem yield_any {F:Fence} (hd:F.depth=none) {m:Nat} (m':Nat) {P:Program} {l:Nat} {args:Array Value} {W:World} {R:Ending→World→Prop} (h:YieldAt F m P l args W R):YieldAt F m' P l args W R:=by
 obtain ⟨fn,tmps,assign,body,hy,hR⟩:=h;exact ⟨fn,tmps,assign,body,hy,hR.1,fun c cs _=>hR.2 c cs (fun d h=>by rw [hd] at h;cases h)⟩
structure Keep (w0 W:World):Prop where
 size:w0.heap.size≤W.heap.size
 same:∀j,j<w0.heap.size→W.heap[j]? =w0.heap[j]?
theorem Keep.of_below {w0 W:World} (b:Below w0.heap.size w0 W):Keep w0 W:=⟨b.size,fun j hj=>b.block j hj⟩
theorem Keep.trans {A B D:World} (h:Keep A B) (k:Keep B D):Keep A D:=⟨Nat.le_trans h.size k.size,fun j hj=>(k.same j (Nat.lt_of_lt_of_le hj h.size)).trans (h.same j hj)⟩
theorem Keep.grown {w0 W W':World} {row:Option Nat} (h:Keep w0 W) (g:W.grownBy W' row) (hr:∀r,row=some r→w0.heap.size≤r):Keep w0 W':=
 ⟨Nat.le_trans h.size g.size,fun j hj=>(g.block j (Nat.lt_of_lt_of_le hj h.size) (fun e=>by have :=hr j e.symm;omega)).trans (h.same j hj)⟩
theorem Keep.kq {w0 W W':World} {C:World→Nat→Prop} {R:Nat→Prop} (h:Keep w0 W) (k:Kq C R W W') (hC:∀j,C W j→w0.heap.size≤j) (hR:∀j,R j→w0.heap.size≤j):Keep w0 W':=by
 refine ⟨Nat.le_trans h.size k.size,fun j hj=>?_⟩;have e:=h.same j hj;have hlt:j<W.heap.size:=Nat.lt_of_lt_of_le hj h.size;rw [←e];have h2:W.heap[j]? =some W.heap[j]:=Array.getElem?_eq_getElem hlt;rw [h2];exact k.kept j _ h2 (fun _ hc=>by have :=hC j hc;omega) (fun _ hc=>by have :=hR j hc;omega)
theorem Keep.own {w0 W:World} {q:Nat} {L:List Pl.Nd} (h:Keep w0 W) (m:Mem.ownM w0 q L):Mem.ownM W q L:=m.same (h.same q m.lt)
theorem Keep.cell {w0 W:World} (h:Keep w0 W) {p:Addr} (hp:p.block<w0.heap.size):W.cell? p=w0.cell? p:=World.cell?_of_block (h.same _ hp)
structure Good (w0:World) (B:Nat) (C:World→Nat→Prop):Prop where
 step:Mine B C
 rng:∀W,B≤W.heap.size→∀j,C W j→w0.heap.size≤j∧j<W.heap.size
 typ:∀ (W:World) (y:Nat) (cs:Array Value) (T:TypeId),B≤y→Mem.Blk W y cs T→T≠9→¬C W y
theorem leave {F:Fence} {n:Nat} {P:Program} {fn:Func} {tmps:Array Value} {R:Ending→World→Prop} (Φ:World→Prop) (hend:∀W,Φ W→LeavesIn F n P fn tmps R [] .returning W):
  ∀ (Ds:List Nat) (W:World),Ds.Nodup→(∀D∈Ds,W.heap[D]? =some (.deferred (some [])))→Φ W→(∀D∈Ds,∀W,Φ W→W.heap[D]? =some (.deferred (some []))→Φ (W.putObj D (.deferred none)))→
   LeavesInM F n P fn tmps R (Ds.map fun D=>{ target:= .collected D,args:=#[] }) .returning W:=by
 intro Ds
 induction Ds with
 |nil=>intro W _ _ h _;exact hend W h
 |cons D Ds ih=>
  intro W hn hd h hp;rw [List.nodup_cons] at hn;refine ⟨by simp, .inl ⟨D,_,rfl,run_takeDeferred (hd D (List.mem_cons_self ..)),?_⟩⟩;refine ih _ hn.2 (fun E hE=>?_) (hp D (List.mem_cons_self ..) W h (hd D (List.mem_cons_self ..))) (fun E hE=>hp E (List.mem_cons_of_mem _ hE));exact (World.putObj_heap_other (fun e=>hn.1 (by rw [←e];exact hE))).trans (hd E (List.mem_cons_of_mem _ hE))
end Rng
end
end Go.Proofs.YtbomeifgfalmdaaGreatDoor
