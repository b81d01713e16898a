/- Several texts of one claim in one file: MemIo, Drawn, LaySort. -/
import Derived.Test.YtonffldjbmednaaGreatDoorG02
import Derived.Test.YtonffldjbmednaaGreatDoorG07
import Derived.Test.YtonffldjbmednaaGreatDoorPlainCells
import Derived.Deep.RegionHeld3
import Derived.Calls
import Derived.Lone
import Derived.RunT
import Derived.Shelf.SlSortCmp.NoneTotal
import Derived.Test.YtonffldjbmednaaGreatDoorProg
namespace Go.Proofs.YtonffldjbmednaaGreatDoor
section
open Go.RowKit
namespace Mem
theorem zh7 {w w':World} {B e size n:Nat} {v:Value} {xs:List Value} {r:Option Nat} (h:w.ownsRow B e size v n xs) (hg:w.grownBy w' r) (hr:∀g,v.ownBlock=some g→some g≠r):w'.ownsRow B e size v n xs:=by
 refine ⟨h.1,?_⟩
 rcases h.2 with h0|⟨g,cap,cur,rfl,hb,hh,rest⟩
 ·exact .inl h0
 ·exact .inr ⟨g,cap,cur,rfl,hb,(hg.block g (Array.getElem?_eq_some_iff.1 hh).1 (hr g rfl)).trans hh,rest⟩
structure Io (W:World) (S:Nat) (v:Value) (Is:List Pl.It):Prop where
 row:W.ownsRow S 151 2 v Is.length (Pl.zb3 Is)
 each:∀ (i:Nat) x,Is[i]? =some x→ownN W S x.t.val x.t.L∧∀g,x.t.val.ownBlock=some g→v.ownBlock≠some g
 apart:∀ (i j:Nat) x y,i≠j→Is[i]? =some x→Is[j]? =some y→∀g,x.t.val.ownBlock=some g→y.t.val.ownBlock≠some g
theorem Io.call {W W':World} {S:Nat} {v:Value} {Is:List Pl.It} (h:Io W S v Is) (b:Below W.heap.size W W'):Io W' S v Is:=
 ⟨ze8 h.row b,fun i x hx=>⟨zp7 (h.each i x hx).1 b,(h.each i x hx).2⟩,h.apart⟩
theorem Io.mono {W:World} {S S':Nat} {v:Value} {Is:List Pl.It} (h:Io W S v Is) (hs:S'≤S):Io W S' v Is:=
 ⟨own_mono h.row hs,fun i x hx=>⟨zp3 (h.each i x hx).1 hs,(h.each i x hx).2⟩,h.apart⟩
theorem Io.set {W:World} {S:Nat} {v:Value} {Is:List Pl.It} (h:Io W S v Is) (p:Addr) (u:Value) (hp:p.block<S):Io (W.setCell p u) S v Is:=by
 refine ⟨⟨h.row.1,?_⟩,fun i x hx=>⟨ownN_set (h.each i x hx).1 p u hp,(h.each i x hx).2⟩,h.apart⟩
 rcases h.row.2 with h0|⟨g,cap,cur,hv,hb,hg,rest⟩
 ·exact .inl h0
 ·exact .inr ⟨g,cap,cur,hv,hb,(heap_setCell_other _ _ _ _ (by omega)).trans hg,rest⟩
theorem Io.app {W W':World} {S S1:Nat} {v v1 v':Value} {Is Is1:List Pl.It} (h:Io W S v Is) (h1:Io W S1 v1 Is1) (hS:S≤S1) (hv:∀g,v.ownBlock=some g→g<S1) (hb:∀ (i:Nat) x,Is[i]? =some x→∀g,x.t.val.ownBlock=some g→g<S1)
  (own':W'.ownsRow S 151 2 v' (Is.length+Is1.length) (Pl.zb3 Is++Pl.zb3 Is1)) (gr:W.grownBy W' v.ownBlock) (far:∀g,v'.ownBlock=some g→v.ownBlock=some g∨W.heap.size≤g):Io W' S v' (Is++Is1):=by
 have key:∀x:Pl.It,ownN W S x.t.val x.t.L→(∀g,x.t.val.ownBlock=some g→v.ownBlock≠some g)→ownN W' S x.t.val x.t.L∧∀g,x.t.val.ownBlock=some g→v'.ownBlock≠some g:=fun x hx hn=>
  ⟨zh7 hx gr (fun g hg e=>hn g hg e.symm),fun g hg e=>by
   rcases far g e with h2|h2
   ·exact hn g hg h2
   ·have :=(zk8 hx g hg).2;omega⟩
 have lo1:∀ (i:Nat) x,Is1[i]? =some x→∀g,x.t.val.ownBlock=some g→S1≤g:=fun i x hx g hg=>(zk8 (h1.each i x hx).1 g hg).1;refine ⟨by rw [List.length_append,Pl.cellsI_app];exact own',fun i x hx=>?_,fun i j x y hij hx hy g hg=>?_⟩
 ·by_cases e:i<Is.length
  ·rw [List.getElem?_append_left e] at hx;exact key x (h.each i x hx).1 (h.each i x hx).2
  ·rw [List.getElem?_append_right (by omega)] at hx;exact key x (zp3 (h1.each _ x hx).1 hS) (fun g hg e2=>by have :=lo1 _ x hx g hg;have :=hv g e2;omega)
 ·by_cases e:i<Is.length
  ·rw [List.getElem?_append_left e] at hx;by_cases e2:j<Is.length
   ·rw [List.getElem?_append_left e2] at hy;exact h.apart i j x y hij hx hy g hg
   ·rw [List.getElem?_append_right (by omega)] at hy;intro e3;have :=lo1 _ y hy g e3;have :=hb i x hx g hg;omega
  ·rw [List.getElem?_append_right (by omega)] at hx;by_cases e2:j<Is.length
   ·rw [List.getElem?_append_left e2] at hy;intro e3;have :=lo1 _ x hx g hg;have :=hb j y hy g e3;omega
   ·rw [List.getElem?_append_right (by omega)] at hy;exact h1.apart _ _ x y (by omega) hx hy g hg
theorem Io.items {W:World} {S cap n:Nat} {a:Option Addr} {Is:List Pl.It} (h:Io W S (.slice a n cap) Is):n=Is.length∧zb0 W a Is:=by
 rcases h.row.2 with ⟨e,h0⟩|⟨g,c,cur,e,hb,hg,rest⟩
 ·cases e
  have :Is=[]:=List.eq_nil_of_length_eq_zero h0;subst this;exact ⟨rfl,items_nil _ _⟩
 ·cases e
  refine ⟨rfl,fun i x hx=>⟨⟨g,0,rfl,(Array.getElem?_eq_some_iff.1 hg).1,?_,?_⟩,(ownN_nodes (h.each i x hx).1).2⟩⟩
  ·have :=World.ownsRow.cells h.row (g:=g) rfl (i*2) _ (Pl.zo9 Is i x hx).1;rw [add_lit] at this;rw [Nat.zero_add];exact this
  ·have :=World.ownsRow.cells h.row (g:=g) rfl (i*2+1) _ (Pl.zo9 Is i x hx).2;rw [add_lit] at this;rw [Nat.zero_add];exact this
theorem Io.lt {W:World} {S:Nat} {v:Value} {Is:List Pl.It} (h:Io W S v Is):(∀g,v.ownBlock=some g→S≤g∧g<W.heap.size)∧∀ (i:Nat) x,Is[i]? =some x→∀g,x.t.val.ownBlock=some g→S≤g∧g<W.heap.size:=
 ⟨fun g hg=>World.ownsRow.lt h.row g hg,fun i x hx g hg=>zk8 (h.each i x hx).1 g hg⟩
theorem Io.there {W:World} {S:Nat} {v:Value} {Is:List Pl.It} (h:Io W S v Is) (hn:Is.length≠0):∃g cap,v= .slice (some ⟨g,0,none⟩) Is.length cap∧∀j u,(Pl.zb3 Is)[j]? =some u→W.cell? ((⟨g,0,none⟩:Addr).add j)=some u:=by
 rcases h.row.2 with ⟨e,h0⟩|⟨g,c,cur,e,hb,hg,rest⟩
 ·exact absurd h0 hn
 ·subst e;exact ⟨g,c,rfl,fun j u hj=>World.ownsRow.cells h.row (g:=g) rfl j u hj⟩
theorem Io.nil (W:World) (S:Nat):Io W S (.slice none 0 0) []:=⟨⟨rfl, .inl ⟨rfl,rfl⟩⟩,fun i x h=>(by cases h),fun i j x y _ h=>(by cases h)⟩
theorem Io.one {W:World} {S g:Nat} {m:Int} {t:Pl.Tr} (hb:S≤g) (hg:W.heap[g]? =some (.cells #[.int .i64 m,t.val] 151 (0,0))) (ht:ownN W S t.val t.L) (hn:∀q,t.val.ownBlock=some q→q≠g):Io W S (.slice (some ⟨g,0,none⟩) 1 1) [⟨m,t⟩]:=by
 refine ⟨⟨rfl, .inr ⟨g,1,_,rfl,hb,hg,Nat.le_refl _,by decide,rfl,rfl⟩⟩,fun i x hx=>?_,fun i j x y hij hx hy=>?_⟩
 ·cases i with
  |zero=>
   have e:(⟨m,t⟩:Pl.It)=x:=by simpa using hx
   subst e;exact ⟨ht,fun q hq e=>hn q hq (Option.some.inj e).symm⟩
  |succ i=>simp at hx
 ·cases i with
  |zero=>
   cases j with
   |zero=>exact absurd rfl hij
   |succ j=>simp at hy
  |succ i=>simp at hx
end Mem
end
section
namespace Drw
def wOf {α:Type}:Result α→World| .ok _ w=>w| .halt _ w=>w
theorem ask_le {α:Type} (a:Ask α):∀w:World,w.drawn≤(w.ask a).2.drawn:=by
 induction a with
 |done a=>intro w;exact Nat.le_refl _
 |ask what range k ih=>
  intro w;simp only [World.ask]
  split
  ·exact ih _ _
  ·exact Nat.le_trans (Nat.le_succ w.drawn) (ih _ { w with drawn:=w.drawn+1 })
theorem sys_le (w:World) (c:Sys):w.drawn≤(w.sys c).2.drawn:=by
 have h:=ask_le (Kernel.perform c w.os) w;unfold World.sys
 revert h
 generalize w.ask (Kernel.perform c w.os)=x;obtain ⟨⟨r,os⟩,w'⟩:=x;intro h
 split
 ·exact Nat.le_refl _
 ·rename_i he
  cases he
  exact h
theorem view_eq {p:Program} {w w':World} {at_:Addr} {u:TypeId} {k:Addr} {v:Value} {b:Bool} {l:List Addr} (h:w.viewStore p at_ u k v b= .ok (w',l)):w'.drawn=w.drawn:=by
 simp only [World.viewStore,bind,Except.bind,pure,Except.pure] at h
 repeat' first
  |(simp at h;done)
  |(simp only [Except.ok.injEq,Prod.mk.injEq] at h;obtain ⟨rfl,_⟩:=h;rfl)
  |split at h
theorem far_eq {p:Program} {w w':World} {a:Addr} {v:Value} {b:Bool} {l:List Addr} (h:w.farStore p a v b= .ok (w',l)):w'.drawn=w.drawn:=by
 unfold World.farStore at h
 split at h
 ·split at h
  ·rename_i r hr
   simp only [Except.ok.injEq] at h;subst h;exact view_eq hr
  ·simp at h
 ·simp at h
theorem run_le {α:Type} (p:Program) (s:Sem α):∀w:World,w.drawn≤(wOf (s.run p w)).drawn:=by
 induction s with
 |pure a=>intro w;exact Nat.le_refl _
 |load m a k ih=>
  intro w;simp only [Sem.run];split
  ·exact ih _ _
  ·split
   ·exact ih _ _
   ·exact Nat.le_refl _
 |store m a v k ih=>
  intro w
  have main:w.drawn≤(wOf (match w.cell? a with
   |some _=>if w.frozen? a then .halt (.unsupported (.unsafePointer "a write to bytes that a string shares")) w else k.run p (w.setCell a v)
   |none=>match w.farStore p a v (m== .atomic) with
    | .ok (w,_)=>k.run p w
    | .error h=> .halt h w)).drawn:=by
   split
   ·split
    ·exact Nat.le_refl _
    ·exact ih (w.setCell a v)
   ·split
    ·rename_i w' l he
     rw [←far_eq he];exact ih _
    ·exact Nat.le_refl _
  cases v <;> first |exact main|exact Nat.le_refl _
 |new o k ih=>intro w;simp only [Sem.run];exact ih _ { w with heap:=w.heap.push o }
 |shape r k ih=>intro w;simp only [Sem.run];exact ih _ _
 |freeze a n k ih=>
  intro w;simp only [Sem.run];have h:(w.freeze a n).drawn=w.drawn:=by unfold World.freeze;split <;> rfl
  rw [←h];exact ih _
 |frozen a k ih=>intro w;simp only [Sem.run];exact ih _ _
 |getObj r k ih=>
  intro w;simp only [Sem.run];split
  ·exact Nat.le_refl _
  ·exact ih _ _
  ·exact Nat.le_refl _
 |setObj r o k ih=>
  intro w;simp only [Sem.run];split
  ·exact Nat.le_refl _
  ·exact ih { w with heap:=w.heap.setIfInBounds r o }
  ·exact Nat.le_refl _
 |choose q k ih=>
  intro w;simp only [Sem.run];split
  ·exact ih _ _
  ·exact Nat.le_trans (Nat.le_succ _) (ih _ { w with drawn:=w.drawn+1 })
 |sys c k ih=>intro w;simp only [Sem.run];exact Nat.le_trans (sys_le w c) (ih _ _)
 |program k ih=>intro w;simp only [Sem.run];exact ih _ _
 |mark m k ih=>intro w;simp only [Sem.run];exact ih _
 |halt h=>intro w;exact Nat.le_refl _
theorem zc1 {α:Type} {p:Program} {s:Sem α} {w w':World} {a:α} (h:s.run p w= .ok a w'):w.drawn≤w'.drawn:=by
 have :=run_le p s w;rw [h] at this;exact this
theorem run_halt {α:Type} {p:Program} {s:Sem α} {w w':World} {a:Halt} (h:s.run p w= .halt a w'):w.drawn≤w'.drawn:=by
 have :=run_le p s w;rw [h] at this;exact this
theorem zm1 {α:Type} {p:Program} {s:Sem α} {w:World} {es es':Array Event} {r:Result α} (h:s.runT p w es=(r,es')):w.drawn≤(wOf r).drawn:=by
 have h1:=Sem.runT_fst p s w es;rw [h] at h1;have :=run_le p s w;rw [←h1] at this;exact this
theorem runT_ok1 {α:Type} {p:Program} {s:Sem α} {w w':World} {es:Array Event} {a:α} (h:(s.runT p w es).1= .ok a w'):w.drawn≤w'.drawn:=by rw [Sem.runT_fst] at h;exact zc1 h
theorem runT_halt1 {α:Type} {p:Program} {s:Sem α} {w w':World} {es:Array Event} {a:Halt} (h:(s.runT p w es).1= .halt a w'):w.drawn≤w'.drawn:=by rw [Sem.runT_fst] at h;exact run_halt h
def up (d:Nat):GStep→Prop
 | .go _ w _| .comm _ _ _ _ w _| .spawn _ _ w _| .count _ w _| .timer _ _ w _| .alone _ _ w _| .newcoro _ _ _ w _| .coroswitch _ _ _ w _| .collect _ w _| .watch _ w _=>d≤w.drawn
 | .ended _ _ _=>True
theorem zh8 (d:Nat) (es:Array Event) (s:GStep):up d (GStep.after es s)↔up d s:=by cases s <;> exact Iff.rfl
theorem zh1 {d d':Nat} (h:d≤d') {s:GStep} (hs:up d' s):up d s:=by
 cases s <;> first |exact Nat.le_trans h hs|trivial
theorem up_ite {d:Nat} {c:Prop} [Decidable c] {a b:GStep} (ha:up d a) (hb:up d b):up d (if c then a else b):=by split <;> assumption
theorem zo1 (fr:Frame) (m:String) (w:World):up w.drawn (endThrow fr m w):=Nat.le_refl _
theorem dieOf_up (fr:Frame) (l:List ByteArray) (m:String) (b:Bool) (w:World):up w.drawn (dieOf fr l m b w):=Nat.le_refl _
theorem zt3 (p:Program) (fr:Frame) (v:Value) (w:World):up w.drawn (endPrinting p fr v w):=by
 unfold endPrinting;simp only []
 split
 ·exact zo1 _ _ _
 ·trivial
theorem zz4 (p:Program) (fr:Frame) (cs:List Frame) (dy:Option Dying) (m:String) (w:World):up w.drawn (endFatal p fr cs dy m w):=by
 unfold endFatal;simp only []
 split
 ·rename_i h;exact zh1 (zc1 h) (dieOf_up _ _ _ _ _)
 ·trivial
 ·trivial
theorem endWith_up (w:World) (fd:Nat) (t:ByteArray) (o:Outcome) (d:Nat):up d (endWith w fd t o):=by
 unfold endWith;simp only []
 split
 ·split <;> trivial
 ·trivial
 ·trivial
theorem writeOn_up (p:Program) (fr:Frame) (dd:Dying) (f:Fatal) (w:World):up w.drawn (writeOn p fr dd f w):=by
 unfold writeOn;simp only []
 split
 ·trivial
 ·split
  ·rename_i h;exact zm1 h
  ·rename_i h;exact zm1 h
  ·trivial
  ·trivial
theorem zo2 (p:Program) (main:Bool) (fr:Frame) (cs:List Frame) (dy:Option Dying) (v:Value) (w:World):up w.drawn (doReturn p main fr cs dy v w):=by
 unfold doReturn
 repeat' first
  |exact Nat.le_refl _
  |trivial
  |split
theorem die_up (p:Program) (fr:Frame) (dd:Dying) (w:World):up w.drawn (die p fr dd w):=by
 unfold die
 split
 ·exact writeOn_up _ _ _ _ _
 split
 ·split
  ·exact Nat.le_refl _
  ·exact endWith_up _ _ _ _ _
 simp only []
 split
 ·exact Nat.le_refl _
 ·split
  ·rename_i h;exact zc1 h
  ·trivial
 ·generalize hx:(invoke (.fn (.method _) #[]) _).runT p w #[]=x;obtain ⟨r,es⟩:=x;have h2:=zm1 hx;rw [zh8];clear hx
  dsimp only
  revert h2
  split <;> intro h2 <;> first |exact h2|trivial|exact zh1 h2 (zt3 _ _ _ _)
 ·trivial
theorem zz8 (p:Program) (fr:Frame) (cs:List Frame) (dy:Option Dying) (d:Deferred) (w:World):up w.drawn (callDeferred p fr cs dy d w):=by
 unfold callDeferred;refine up_ite trivial ?_
 ·simp only [];generalize hx:(invoke d.target d.args).runT p w #[]=x;obtain ⟨r,es⟩:=x;have h2:=zm1 hx;rw [zh8];clear hx
  dsimp only
  revert h2
  split <;> intro h2 <;> first |exact h2|trivial|exact zh1 h2 (zz4 _ _ _ _ _ _)|exact zh1 h2 (zo1 _ _ _)|(split <;> first |exact h2|trivial)
theorem unwind_up (p:Program) (main:Bool) (fr:Frame) (cs:List Frame) (dy:Option Dying) (w:World):up w.drawn (unwind p main fr cs dy w):=by
 unfold unwind
 split
 ·simp only [];generalize hx:(Instr.takeDeferred _).runT p w #[]=x;obtain ⟨r,es⟩:=x;have h2:=zm1 hx;rw [zh8];cases r <;> first |exact h2|trivial
 ·exact zz8 _ _ _ _ _ _
 ·split
  ·trivial
  ·split
   ·trivial
   ·split
    ·exact Nat.le_refl _
    ·split
     ·split
      ·exact Nat.le_refl _
      ·split
       ·rename_i h;exact zc1 h
       ·trivial
       ·trivial
     ·split
      ·exact zt3 _ _ _ _
      ·trivial
  ·split
   ·exact zo2 _ _ _ _ _ _ _
   ·simp only [];generalize hx:(results _ _).runT p w #[]=x;obtain ⟨r,es⟩:=x;have h2:=zm1 hx;rw [zh8];cases r with
    |ok v w'=>exact zh1 h2 (zo2 _ _ _ _ _ _ _)
    |halt n w'=>cases n <;> trivial
theorem early_up (p:Program) (fr:Frame) (cs:List Frame) (dy:Option Dying) (g:Nat) (w:World):up w.drawn (early p fr cs dy g w):=by
 unfold early;simp only []
 repeat' first
  |exact Nat.le_refl _
  |trivial
  |exact zc1 (by assumption)
  |split
 all_goals (rename_i w' h1 x c e h2;exact (zc1 h1:w.drawn≤w'.drawn))
theorem apply_up (p:Program) (b:Bool) (fr:Frame) (cs:List Frame) (dy:Option Dying) (s:Sem Next) (w:World):up w.drawn (stepG.apply p b fr cs dy s w):=by
 have h0:∃r es,(if b then s.runT p w #[] else (s.run p w,#[]))=(r,es)∧w.drawn≤(wOf r).drawn:=by
  cases b
  ·exact ⟨_,_,rfl,run_le p s w⟩
  ·exact ⟨_,_,rfl,zm1 rfl⟩
 obtain ⟨r,es,h1,h2⟩:=h0;unfold stepG.apply
 dsimp only
 rw [h1];rw [zh8];clear h1
 dsimp only
 revert h2
 split <;> intro h2 <;> first |exact h2|trivial|exact zh1 h2 (zz4 _ _ _ _ _ _)|exact zh1 h2 (zo1 _ _ _)|exact zh1 h2 (early_up _ _ _ _ _ _)|(split <;> first |exact h2|trivial|exact zh1 h2 (zo1 _ _ _)|(split <;> first |exact h2|trivial))
theorem oper_up (p:Program) (b:Bool) (fr:Frame) (cs:List Frame) (dy:Option Dying) (w:World):up w.drawn (stepG.oper p b fr cs dy w):=by
 unfold stepG.oper
 split
 ·trivial
 ·split <;> exact apply_up ..
theorem up_elim {d:Nat} {α:Type} (o:Option α) (a:GStep) (f:α→GStep) (ha:up d a) (hf:∀x,up d (f x)):up d (o.elim a f):=by
 cases o
 ·exact ha
 ·exact hf _
theorem leave_up (p:Program) (main:Bool) (fr:Frame) (cs:List Frame) (dy:Option Dying) (w:World) (l:Nat) (jump:Option Code) (why:Outcome):up w.drawn (match (Instr.endRound l jump).runT p w #[] with
  |(r,es)=>GStep.after (seen p fr.fn es) (match r with
   | .ok v w=>doReturn p main fr cs dy v w
   | .halt _ w=> .ended why w)):=by
 generalize hx:(Instr.endRound l jump).runT p w #[]=x;obtain ⟨r,es⟩:=x;have h2:=zm1 hx
 dsimp only
 rw [zh8];cases r with
 |ok v w'=>exact zh1 h2 (zo2 _ _ _ _ _ _ _)
 |halt n w'=>trivial
set_option maxHeartbeats 2000000 in
theorem exec_up (p:Program) (main b:Bool) (fr:Frame) (cs:List Frame) (dy:Option Dying) (w:World):up w.drawn (stepG.exec p main b fr cs dy w):=by
 unfold stepG.exec
 dsimp only
 repeat' first
  |with_reducible exact apply_up ..
  |with_reducible exact oper_up ..
  |with_reducible exact leave_up ..
  |with_reducible refine up_elim _ _ _ ?_ (fun _=>?_)
  |split
 all_goals first
  |trivial
  |exact Nat.le_refl _
  |exact (zh8 _ _ _).2 (zh1 (runT_ok1 (by assumption)) (zo2 ..))
  |exact (zh8 _ _ _).2 (zh1 (runT_ok1 (by assumption)) (apply_up ..))
  |exact (zh8 _ _ _).2 (runT_ok1 (by assumption))
  |exact (zh8 _ _ _).2 (runT_halt1 (by assumption))
  |exact zc1 (by assumption)
theorem stepG_up (p:Program) (main:Bool) (g:Goroutine) (w:World) (b:Bool):up w.drawn (stepG p main g w b):=by
 obtain ⟨fr,callers,status,dying,offers⟩:=g;simp only [stepG]
 split
 ·exact die_up ..
 ·exact exec_up ..
 ·exact unwind_up ..
def nextD:Stepped→Nat| .next m=>m.world.drawn|_=>0
theorem yc6 (p:Program) (rest:Rest) (gs:Array Goroutine) (i:Nat) (g:Goroutine) (cases :Array CommCase) (blocking:Bool)
  (shape:CommShape) (w:World) (m':Machine) (h:(communicate p rest gs i g cases blocking shape w).1= .next m'):w.drawn≤m'.world.drawn:=by
 have hw:∀w',waitingAt rest cases w=some w'→w'.drawn=w.drawn:=fun w' hh=>by
  unfold waitingAt at hh
  repeat' first
   |(simp at hh;done)
   |(simp only [Option.some.injEq] at hh;subst hh;rfl)
   |split at hh
 unfold communicate at h;simp only [] at h
 repeat' first
  |(simp at h;done)
  |(simp only [Stepped.next.injEq] at h;subst h;exact Nat.le_refl _)
  |(simp only [Stepped.next.injEq] at h;subst h;exact zc1 (by assumption))
  |(simp only [Stepped.next.injEq] at h;subst h;exact Nat.le_of_eq (hw _ (by assumption)).symm)
  |split at h
 all_goals (
  have hd:_=m'.world.drawn:=congrArg nextD h
  dsimp only [nextD] at hd
  rw [←hd]
  first
   |exact zc1 (by assumption)
   |exact Nat.le_trans (zc1 (by assumption)) (run_halt (by assumption))
   |exact Nat.le_trans (zc1 (by assumption)) (zc1 (by assumption)))
theorem look_up (p:Program) (gs:Array Goroutine) (rest:Rest) (w:World) (m':Machine) (h:look p gs rest w= .next m'):w.drawn≤m'.world.drawn:=by
 unfold look at h;simp only [] at h
 repeat' first
  |(simp at h;done)
  |(simp only [Stepped.next.injEq] at h;subst h;rename_i h1;exact zc1 h1)
  |split at h
 all_goals (
  have hd:_=m'.world.drawn:=congrArg nextD h
  dsimp only [nextD] at hd
  rw [←hd]
  first
   |exact zc1 (by assumption)
   |exact Nat.le_trans (zc1 (by assumption)) (run_halt (by assumption))
   |exact Nat.le_trans (zc1 (by assumption)) (zc1 (by assumption)))
theorem serve_up (p:Program) (m m':Machine) (k:Nat) (h:serve p m k= .next m'):m.world.drawn≤m'.world.drawn:=by
 unfold serve at h;simp only [] at h
 repeat' first
  |(simp at h;done)
  |(simp only [Stepped.next.injEq] at h;subst h;exact Nat.le_refl _)
  |split at h
theorem endThrow_go {fr:Frame} {m:String} {w w':World} {g:Goroutine} {es:Array Event} (h:endThrow fr m w= .go g w' es):w'.drawn=w.drawn:=by
 unfold endThrow dieOf at h;simp only [] at h
 injection h with h1 h2 h3
 rw [h2]
theorem timerOp_up (m m':Machine) (op:TimerOp) (v:Value) (h:timerOp m op= .ok (v,m')):m'.world.drawn=m.world.drawn:=by
 have hr:∀ (m:Machine) k t a b,(retime m k t a b).2.world.drawn=m.world.drawn:=fun m k t a b=>by
  unfold retime drain;simp only []
  repeat' first |rfl |split
 have ho:∀a m',timerOp.opened m a=some m'→m'.world.drawn=m.world.drawn:=fun a m' hh=>by
  unfold timerOp.opened at hh
  repeat' first
   |(simp at hh;done)
   |(simp only [Option.some.injEq] at hh;subst hh;rfl)
   |split at hh
 unfold timerOp at h;cases op with
 |new t=>
  simp only [] at h
  repeat' first
   |(simp at h;done)
   |(simp only [Except.ok.injEq,Prod.mk.injEq] at h;obtain ⟨_,rfl⟩:=h;rfl)
   |split at h
 |stop a=>
  simp only [timerOp.named] at h
  split at h
  ·simp only [Except.ok.injEq] at h;have :=congrArg (fun x=>x.2.world.drawn) h
   dsimp only at this
   rw [←this];exact hr ..
  ·simp at h
 |reset a b c=>
  simp only [] at h
  split at h
  ·rename_i m2 h2
   simp only [timerOp.named] at h
   split at h
   ·simp only [Except.ok.injEq] at h;have :=congrArg (fun x=>x.2.world.drawn) h
    dsimp only at this
    rw [←this,hr,ho _ _ h2]
   ·simp at h
  ·simp at h
 |deadline a b c d=>
  simp only [Except.ok.injEq,Prod.mk.injEq] at h;obtain ⟨_,rfl⟩:=h;rfl
theorem runM_up (p:Program) (m m':Machine) (i:Nat) (b:Bool) (h:(runT p m i b).1= .next m'):m.world.drawn≤m'.world.drawn:=by
 simp only [runT] at h
 revert h
 generalize m.gs.swapAt! _ _=gg;have hs:=stepG_up p (i==0) gg.1 m.world b
 revert hs
 generalize stepG p _ gg.1 m.world b=s;intro hs h;cases s <;> simp only [] at h <;> simp only [up] at hs
 all_goals first
  |(simp at h;done)
  |exact Nat.le_trans hs (yc6 _ _ _ _ _ _ _ _ _ _ h)
  |exact Nat.le_trans hs (look_up _ _ _ _ _ h)
  |(simp only [Stepped.next.injEq] at h;subst h;exact hs)
  |(repeat' first
    |(simp at h;done)
    |(simp only [Stepped.next.injEq] at h;subst h;exact hs)
    |(simp only [Stepped.next.injEq] at h;subst h;rename_i h2;exact Nat.le_trans hs (Nat.le_of_eq (timerOp_up _ _ _ _ h2).symm))
    |(simp only [Stepped.next.injEq] at h;subst h;rename_i h2;exact Nat.le_trans hs (Nat.le_of_eq (endThrow_go h2).symm))
    |split at h)
def moveD:Move→Nat| .goroutine m _=>m.world.drawn| .machine s _=>nextD s
theorem zp8 (p:Program) (m m':Machine) (ops:Array MemOp) (h:askOn p m= .machine (.next m') ops):m.world.drawn≤m'.world.drawn:=by
 unfold askOn at h;simp only [] at h
 repeat' first
  |(simp at h;done)
  |(simp only [Move.machine.injEq] at h;exact Nat.le_trans (zc1 (by assumption)) (serve_up _ _ _ _ h.1))
  |(simp only [Move.machine.injEq,Stepped.next.injEq] at h;obtain ⟨rfl,_⟩:=h;exact zc1 (by assumption))
  |(simp only [Move.machine.injEq,Stepped.next.injEq] at h;obtain ⟨rfl,_⟩:=h;exact Nat.le_trans (zc1 (by assumption)) (zc1 (by assumption)))
  |split at h
 all_goals (
  have hd:_=m'.world.drawn:=congrArg moveD h
  dsimp only [moveD,nextD,Machine.advanceTo] at hd
  have e0:=zc1 (show Sem.run p (if _ then _ else _) m.world=_ by assumption)
  try have e1:=zc1 (show Sem.run p (choose (.extern "clock.wait" _)) _=_ by assumption)
  omega)
theorem zl7 (p:Program) (m m':Machine) (i:Nat) (h:askOn p m= .goroutine m' i):m.world.drawn≤m'.world.drawn:=by
 unfold askOn at h;simp only [] at h
 repeat' first
  |(simp at h;done)
  |split at h
 all_goals (
  have hd:_=m'.world.drawn:=congrArg moveD h
  dsimp only [moveD,nextD,Machine.advanceTo] at hd
  have e0:=zc1 (show Sem.run p (if _ then _ else _) m.world=_ by assumption);have e1:=zc1 (show Sem.run p (choose (.sched _)) _=_ by assumption)
  try have e2:=zc1 (show Sem.run p (choose (.extern "clock.wait" _)) _=_ by assumption)
  try have e3:=zc1 (show Sem.run p (choose (.extern "sched.slice" _)) _=_ by assumption)
  try simp only [Machine.advanceTo] at *
  omega)
theorem ask_up (p:Program) (m m':Machine) (ops:Array MemOp) (h:ask p m= .machine (.next m') ops):m.world.drawn≤m'.world.drawn:=by
 unfold ask at h
 repeat' first
  |(simp at h;done)
  |exact zp8 p m m' ops h
  |exact Nat.le_trans (zc1 (by assumption)) (zp8 p _ m' ops h)
  |exact Nat.le_trans (zc1 (by assumption)) (Nat.le_trans (look_up _ _ _ _ _ (by assumption)) (zp8 p _ m' ops h))
  |split at h
 all_goals (
  rename_i hn
  simp only [Move.machine.injEq] at h
  exact (hn _ h.1).elim)
theorem yc5 (p:Program) (m m':Machine) (i:Nat) (h:ask p m= .goroutine m' i):m.world.drawn≤m'.world.drawn:=by
 unfold ask at h
 repeat' first
  |(simp at h;done)
  |exact zl7 p m m' i h
  |exact Nat.le_trans (zc1 (by assumption)) (zl7 p _ m' i h)
  |exact Nat.le_trans (zc1 (by assumption)) (Nat.le_trans (look_up _ _ _ _ _ (by assumption)) (zl7 p _ m' i h))
  |split at h
theorem move_up (p:Program) (m m':Machine) (ops:Array MemOp) (h:move p m= .machine (.next m') ops):m.world.drawn≤m'.world.drawn:=by
 unfold move at h
 repeat' first
  |(simp at h;done)
  |(have h3:=ask_up p _ m' ops h;exact h3)
  |split at h
theorem ya7 (p:Program) (m m':Machine) (i:Nat) (h:move p m= .goroutine m' i):m.world.drawn≤m'.world.drawn:=by
 unfold move at h
 repeat' first
  |(simp at h;done)
  |(have h3:=yc5 p _ m' i h;exact h3)
  |(simp only [Move.goroutine.injEq] at h;obtain ⟨rfl,_⟩:=h;exact Nat.le_refl _)
  |split at h
theorem step_up (p:Program) (m m':Machine) (h:step p m= .next m'):m.world.drawn≤m'.world.drawn:=by
 simp only [step,stepT] at h
 split at h
 ·rename_i m2 i hm
  exact Nat.le_trans (ya7 p m m2 i hm) (runM_up p m2 m' i _ h)
 ·rename_i s ops hm
  simp only [] at h;subst h;exact move_up p m m' ops hm
theorem runN_up (p:Program):∀ (n:Nat) (m m':Machine),runN p n m= .next m'→m.world.drawn≤m'.world.drawn:=by
 intro n
 induction n with
 |zero=>intro m m' h;simp only [runN,Stepped.next.injEq] at h;subst h;exact Nat.le_refl _
 |succ n ih=>
  intro m m' h;simp only [runN] at h
  split at h
  ·rename_i m2 h2
   exact Nat.le_trans (step_up p m m2 h2) (ih _ _ h)
  ·rename_i e h2
   exact (h2 _ h).elim
theorem calls_up {P:Program} {f:FuncId} {args:Array Value} {w:World} {R:Ending→World→Prop} (hR:∀e w',R e w'→∃v,e= .returned v) (h:Calls P f args w R):Calls P f args w fun e w'=>R e w'∧w.drawn≤w'.drawn:=by
 intro cs;obtain ⟨e,w',fr,hr,hc,h1,h2⟩:=h cs;obtain ⟨v,rfl⟩:=hR e w' hr;obtain ⟨n,hn⟩:=hc;exact ⟨_,w',fr,⟨hr,runN_up P n _ _ hn⟩,⟨n,hn⟩,h1,h2⟩
end Drw
end
section
open Go.Shelf
namespace zq4
def ren:Go.Shelf.Ren:=⟨fun |6=>136|15=>134|14=>161|28=>159|29=>160|20=>173|21=>174|22=>175|23=>176|24=>177|25=>178|26=>179|27=>180|46=>187|47=>168|48=>169|49=>188|50=>189|57=>196|n=>n,fun |22=>146|24=>189|25=>193|3=>3|39=>187|0=>0|53=>211|55=>213|4=>4|46=>203|45=>202|50=>208|5=>5|9=>9|66=>221|70=>225|76=>239|77=>240|n=>n,fun n=>n⟩
theorem lay:SlLaysF0.n6 Tryz.prog ren where
 mixed:=by kernel_rfl
 f6:=⟨ "slices.SortFunc[[]loop.example/g00449/impl.Node,loop.example/g00449/impl.Node]",by decide,Tryz.func136.trans (congrArg some (by kernel_rfl))⟩
 f14:=⟨ "slices.pdqsortCmpFunc[loop.example/g00449/impl.Node]",by decide,Tryz.func161.trans (congrArg some (by kernel_rfl))⟩
 f15:=Tryz.func134.trans (congrArg some (by kernel_rfl))
 f20:=⟨ "slices.insertionSortCmpFunc[loop.example/g00449/impl.Node]",by decide,Tryz.func173.trans (congrArg some (by kernel_rfl))⟩
 f21:=⟨ "slices.heapSortCmpFunc[loop.example/g00449/impl.Node]",by decide,Tryz.func174.trans (congrArg some (by kernel_rfl))⟩
 f22:=⟨ "slices.breakPatternsCmpFunc[loop.example/g00449/impl.Node]",by decide,Tryz.func175.trans (congrArg some (by kernel_rfl))⟩
 f23:=⟨ "slices.choosePivotCmpFunc[loop.example/g00449/impl.Node]",by decide,Tryz.func176.trans (congrArg some (by kernel_rfl))⟩
 f24:=⟨ "slices.reverseRangeCmpFunc[loop.example/g00449/impl.Node]",by decide,Tryz.func177.trans (congrArg some (by kernel_rfl))⟩
 f25:=⟨ "slices.partialInsertionSortCmpFunc[loop.example/g00449/impl.Node]",by decide,Tryz.func178.trans (congrArg some (by kernel_rfl))⟩
 f26:=⟨ "slices.partitionEqualCmpFunc[loop.example/g00449/impl.Node]",by decide,Tryz.func179.trans (congrArg some (by kernel_rfl))⟩
 f27:=⟨ "slices.partitionCmpFunc[loop.example/g00449/impl.Node]",by decide,Tryz.func180.trans (congrArg some (by kernel_rfl))⟩
 f28:=Tryz.func159.trans (congrArg some (by kernel_rfl))
 f29:=Tryz.func160.trans (congrArg some (by kernel_rfl))
 f46:=⟨ "slices.siftDownCmpFunc[loop.example/g00449/impl.Node]",by decide,Tryz.func187.trans (congrArg some (by kernel_rfl))⟩
 f47:=Tryz.func168.trans (congrArg some (by kernel_rfl))
 f48:=Tryz.func169.trans (congrArg some (by kernel_rfl))
 f49:=⟨ "slices.medianAdjacentCmpFunc[loop.example/g00449/impl.Node]",by decide,Tryz.func188.trans (congrArg some (by kernel_rfl))⟩
 f50:=⟨ "slices.medianCmpFunc[loop.example/g00449/impl.Node]",by decide,Tryz.func189.trans (congrArg some (by kernel_rfl))⟩
 f57:=⟨ "slices.order2CmpFunc[loop.example/g00449/impl.Node]",by decide,Tryz.func196.trans (congrArg some (by kernel_rfl))⟩
 t0:=Tryz.underlying0
 a0:=Tryz.isAgg0
 z0:=Tryz.sizeOf0
 v0:=Tryz.zeroValue0
 t3:=Tryz.underlying3
 a3:=Tryz.isAgg3
 z3:=Tryz.sizeOf3
 v3:=Tryz.zeroValue3
 t4:=Tryz.underlying4
 a4:=Tryz.isAgg4
 z4:=Tryz.sizeOf4
 v4:=Tryz.zeroValue4
 t5:=Tryz.underlying5
 a5:=Tryz.isAgg5
 z5:=Tryz.sizeOf5
 v5:=Tryz.zeroValue5
 t9:=Tryz.underlying9
 a9:=Tryz.isAgg9
 z9:=Tryz.sizeOf9
 v9:=Tryz.zeroValue9
 t22:=Tryz.underlying146
 a22:=Tryz.isAgg146
 z22:=Tryz.sizeOf146
 v22:=Tryz.zeroValue146
 t25:=Tryz.underlying193
 a25:=Tryz.isAgg193
 z25:=Tryz.sizeOf193
 v25:=Tryz.zeroValue193
 t39:=Tryz.underlying187
 a39:=Tryz.isAgg187
 z39:=Tryz.sizeOf187
 v39:=Tryz.zeroValue187
 t45:=Tryz.underlying202
 a45:=Tryz.isAgg202
 z45:=Tryz.sizeOf202
 v45:=Tryz.zeroValue202
 t46:=Tryz.underlying203
 a46:=Tryz.isAgg203
 z46:=Tryz.sizeOf203
 v46:=Tryz.zeroValue203
 t50:=Tryz.underlying208
 a50:=Tryz.isAgg208
 z50:=Tryz.sizeOf208
 v50:=Tryz.zeroValue208
 t53:=Tryz.underlying211
 a53:=Tryz.isAgg211
 z53:=Tryz.sizeOf211
 v53:=Tryz.zeroValue211
 t55:=Tryz.underlying213
 a55:=Tryz.isAgg213
 z55:=Tryz.sizeOf213
 v55:=Tryz.zeroValue213
 t66:=Tryz.underlying221
 a66:=Tryz.isAgg221
 z66:=Tryz.sizeOf221
 v66:=Tryz.zeroValue221
 t70:=Tryz.underlying225
 a70:=Tryz.isAgg225
 z70:=Tryz.sizeOf225
 v70:=Tryz.zeroValue225
 t76:=Tryz.underlying239
 a76:=Tryz.isAgg239
 z76:=Tryz.sizeOf239
 v76:=Tryz.zeroValue239
 t77:=Tryz.underlying240
 a77:=Tryz.isAgg240
 z77:=Tryz.sizeOf240
 v77:=Tryz.zeroValue240
theorem agg:∀w,(isAgg (ren.t 24)).run Tryz.prog w= .ok true w:=Tryz.isAgg189
theorem size:∀w,(Go.sizeOf (ren.t 24)).run Tryz.prog w= .ok 5 w:=Tryz.sizeOf189
end zq4
end
end Go.Proofs.YtonffldjbmednaaGreatDoor
