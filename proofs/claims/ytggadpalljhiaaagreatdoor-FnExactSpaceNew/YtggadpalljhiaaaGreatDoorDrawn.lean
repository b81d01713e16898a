import Derived.Calls
import Derived.Lone
import Derived.RunT
namespace Go.Proofs.YtggadpalljhiaaaGreatDoor
namespace Drw
def wOf {α:Type}:Result α→World| .ok _ w=>w| .halt _ w=>w
theorem ask_le {α:Type} (a:Ask α):∀w:World,w.drawn≤(w.ask a).2.drawn:=by
 induction a with
 |done a=>intro w;exact Nat.le_refl _
 |ask what range k ih=>
  intro w;simp only [World.ask]
  split
  ·exact ih _ _
  ·exact Nat.le_trans (Nat.le_succ w.drawn) (ih _ { w with drawn:=w.drawn+1 })
theorem sys_le (w:World) (c:Sys):w.drawn≤(w.sys c).2.drawn:=by
 have h:=ask_le (Kernel.perform c w.os) w;unfold World.sys
 revert h
 generalize w.ask (Kernel.perform c w.os)=x;obtain ⟨⟨r,os⟩,w'⟩:=x;intro h
 split
 ·exact Nat.le_refl _
 ·rename_i he
  cases he
  exact h
theorem view_eq {p:Program} {w w':World} {at_:Addr} {u:TypeId} {k:Addr} {v:Value} {b:Bool} {l:List Addr} (h:w.viewStore p at_ u k v b= .ok (w',l)):w'.drawn=w.drawn:=by
 simp only [World.viewStore,bind,Except.bind,pure,Except.pure] at h
 repeat' first
  |(simp at h;done)
  |(simp only [Except.ok.injEq,Prod.mk.injEq] at h;obtain ⟨rfl,_⟩:=h;rfl)
  |split at h
theorem far_eq {p:Program} {w w':World} {a:Addr} {v:Value} {b:Bool} {l:List Addr} (h:w.farStore p a v b= .ok (w',l)):w'.drawn=w.drawn:=by
 unfold World.farStore at h
 split at h
 ·split at h
  ·rename_i r hr
   simp only [Except.ok.injEq] at h;subst h;exact view_eq hr
  ·simp at h
 ·simp at h
theorem run_le {α:Type} (p:Program) (s:Sem α):∀w:World,w.drawn≤(wOf (s.run p w)).drawn:=by
 induction s with
 |pure a=>intro w;exact Nat.le_refl _
 |load m a k ih=>
  intro w;simp only [Sem.run];split
  ·exact ih _ _
  ·split
   ·exact ih _ _
   ·exact Nat.le_refl _
 |store m a v k ih=>
  intro w
  have main:w.drawn≤(wOf (match w.cell? a with
   |some _=>if w.frozen? a then .halt (.unsupported (.unsafePointer "a write to bytes that a string shares")) w else k.run p (w.setCell a v)
   |none=>match w.farStore p a v (m== .atomic) with
    | .ok (w,_)=>k.run p w
    | .error h=> .halt h w)).drawn:=by
   split
   ·split
    ·exact Nat.le_refl _
    ·exact ih (w.setCell a v)
   ·split
    ·rename_i w' l he
     rw [←far_eq he];exact ih _
    ·exact Nat.le_refl _
  cases v <;> first |exact main|exact Nat.le_refl _
 |new o k ih=>intro w;simp only [Sem.run];exact ih _ { w with heap:=w.heap.push o }
 |shape r k ih=>intro w;simp only [Sem.run];exact ih _ _
 |freeze a n k ih=>
  intro w;simp only [Sem.run];have h:(w.freeze a n).drawn=w.drawn:=by unfold World.freeze;split <;> rfl
  rw [←h];exact ih _
 |frozen a k ih=>intro w;simp only [Sem.run];exact ih _ _
 |getObj r k ih=>
  intro w;simp only [Sem.run];split
  ·exact Nat.le_refl _
  ·exact ih _ _
  ·exact Nat.le_refl _
 |setObj r o k ih=>
  intro w;simp only [Sem.run];split
  ·exact Nat.le_refl _
  ·exact ih { w with heap:=w.heap.setIfInBounds r o }
  ·exact Nat.le_refl _
 |choose q k ih=>
  intro w;simp only [Sem.run];split
  ·exact ih _ _
  ·exact Nat.le_trans (Nat.le_succ _) (ih _ { w with drawn:=w.drawn+1 })
 |sys c k ih=>intro w;simp only [Sem.run];exact Nat.le_trans (sys_le w c) (ih _ _)
 |program k ih=>intro w;simp only [Sem.run];exact ih _ _
 |mark m k ih=>intro w;simp only [Sem.run];exact ih _
 |halt h=>intro w;exact Nat.le_refl _
theorem zc1 {α:Type} {p:Program} {s:Sem α} {w w':World} {a:α} (h:s.run p w= .ok a w'):w.drawn≤w'.drawn:=by
 have :=run_le p s w;rw [h] at this;exact this
theorem run_halt {α:Type} {p:Program} {s:Sem α} {w w':World} {a:Halt} (h:s.run p w= .halt a w'):w.drawn≤w'.drawn:=by
 have :=run_le p s w;rw [h] at this;exact this
theorem zm1 {α:Type} {p:Program} {s:Sem α} {w:World} {es es':Array Event} {r:Result α} (h:s.runT p w es=(r,es')):w.drawn≤(wOf r).drawn:=by
 have h1:=Sem.runT_fst p s w es;rw [h] at h1;have :=run_le p s w;rw [←h1] at this;exact this
theorem runT_ok1 {α:Type} {p:Program} {s:Sem α} {w w':World} {es:Array Event} {a:α} (h:(s.runT p w es).1= .ok a w'):w.drawn≤w'.drawn:=by rw [Sem.runT_fst] at h;exact zc1 h
theorem runT_halt1 {α:Type} {p:Program} {s:Sem α} {w w':World} {es:Array Event} {a:Halt} (h:(s.runT p w es).1= .halt a w'):w.drawn≤w'.drawn:=by rw [Sem.runT_fst] at h;exact run_halt h
def up (d:Nat):GStep→Prop
 | .go _ w _| .comm _ _ _ _ w _| .spawn _ _ w _| .count _ w _| .timer _ _ w _| .alone _ _ w _| .newcoro _ _ _ w _| .coroswitch _ _ _ w _| .collect _ w _| .watch _ w _=>d≤w.drawn
 | .ended _ _ _=>True
theorem zh8 (d:Nat) (es:Array Event) (s:GStep):up d (GStep.after es s)↔up d s:=by cases s <;> exact Iff.rfl
theorem zh1 {d d':Nat} (h:d≤d') {s:GStep} (hs:up d' s):up d s:=by
 cases s <;> first |exact Nat.le_trans h hs|trivial
theorem up_ite {d:Nat} {c:Prop} [Decidable c] {a b:GStep} (ha:up d a) (hb:up d b):up d (if c then a else b):=by split <;> assumption
theorem zo1 (fr:Frame) (m:String) (w:World):up w.drawn (endThrow fr m w):=Nat.le_refl _
theorem dieOf_up (fr:Frame) (l:List ByteArray) (m:String) (b:Bool) (w:World):up w.drawn (dieOf fr l m b w):=Nat.le_refl _
theorem zt3 (p:Program) (fr:Frame) (v:Value) (w:World):up w.drawn (endPrinting p fr v w):=by
 unfold endPrinting;simp only []
 split
 ·exact zo1 _ _ _
 ·trivial
theorem zz4 (p:Program) (fr:Frame) (cs:List Frame) (dy:Option Dying) (m:String) (w:World):up w.drawn (endFatal p fr cs dy m w):=by
 unfold endFatal;simp only []
 split
 ·rename_i h;exact zh1 (zc1 h) (dieOf_up _ _ _ _ _)
 ·trivial
 ·trivial
theorem endWith_up (w:World) (fd:Nat) (t:ByteArray) (o:Outcome) (d:Nat):up d (endWith w fd t o):=by
 unfold endWith;simp only []
 split
 ·split <;> trivial
 ·trivial
 ·trivial
theorem writeOn_up (p:Program) (fr:Frame) (dd:Dying) (f:Fatal) (w:World):up w.drawn (writeOn p fr dd f w):=by
 unfold writeOn;simp only []
 split
 ·trivial
 ·split
  ·rename_i h;exact zm1 h
  ·rename_i h;exact zm1 h
  ·trivial
  ·trivial
theorem zo2 (p:Program) (main:Bool) (fr:Frame) (cs:List Frame) (dy:Option Dying) (v:Value) (w:World):up w.drawn (doReturn p main fr cs dy v w):=by
 unfold doReturn
 repeat' first
  |exact Nat.le_refl _
  |trivial
  |split
theorem die_up (p:Program) (fr:Frame) (dd:Dying) (w:World):up w.drawn (die p fr dd w):=by
 unfold die
 split
 ·exact writeOn_up _ _ _ _ _
 split
 ·split
  ·exact Nat.le_refl _
  ·exact endWith_up _ _ _ _ _
 simp only []
 split
 ·exact Nat.le_refl _
 ·split
  ·rename_i h;exact zc1 h
  ·trivial
 ·generalize hx:(invoke (.fn (.method _) #[]) _).runT p w #[]=x;obtain ⟨r,es⟩:=x;have h2:=zm1 hx;rw [zh8];clear hx
  dsimp only
  revert h2
  split <;> intro h2 <;> first |exact h2|trivial|exact zh1 h2 (zt3 _ _ _ _)
 ·trivial
theorem zz8 (p:Program) (fr:Frame) (cs:List Frame) (dy:Option Dying) (d:Deferred) (w:World):up w.drawn (callDeferred p fr cs dy d w):=by
 unfold callDeferred;refine up_ite trivial ?_
 ·simp only [];generalize hx:(invoke d.target d.args).runT p w #[]=x;obtain ⟨r,es⟩:=x;have h2:=zm1 hx;rw [zh8];clear hx
  dsimp only
  revert h2
  split <;> intro h2 <;> first |exact h2|trivial|exact zh1 h2 (zz4 _ _ _ _ _ _)|exact zh1 h2 (zo1 _ _ _)|(split <;> first |exact h2|trivial)
theorem unwind_up (p:Program) (main:Bool) (fr:Frame) (cs:List Frame) (dy:Option Dying) (w:World):up w.drawn (unwind p main fr cs dy w):=by
 unfold unwind
 split
 ·simp only [];generalize hx:(Instr.takeDeferred _).runT p w #[]=x;obtain ⟨r,es⟩:=x;have h2:=zm1 hx;rw [zh8];cases r <;> first |exact h2|trivial
 ·exact zz8 _ _ _ _ _ _
 ·split
  ·trivial
  ·split
   ·trivial
   ·split
    ·exact Nat.le_refl _
    ·split
     ·split
      ·exact Nat.le_refl _
      ·split
       ·rename_i h;exact zc1 h
       ·trivial
       ·trivial
     ·split
      ·exact zt3 _ _ _ _
      ·trivial
  ·split
   ·exact zo2 _ _ _ _ _ _ _
   ·simp only [];generalize hx:(results _ _).runT p w #[]=x;obtain ⟨r,es⟩:=x;have h2:=zm1 hx;rw [zh8];cases r with
    |ok v w'=>exact zh1 h2 (zo2 _ _ _ _ _ _ _)
    |halt n w'=>cases n <;> trivial
theorem early_up (p:Program) (fr:Frame) (cs:List Frame) (dy:Option Dying) (g:Nat) (w:World):up w.drawn (early p fr cs dy g w):=by
 unfold early;simp only []
 repeat' first
  |exact Nat.le_refl _
  |trivial
  |exact zc1 (by assumption)
  |split
 all_goals (rename_i w' h1 x c e h2;exact (zc1 h1:w.drawn≤w'.drawn))
theorem apply_up (p:Program) (b:Bool) (fr:Frame) (cs:List Frame) (dy:Option Dying) (s:Sem Next) (w:World):up w.drawn (stepG.apply p b fr cs dy s w):=by
 have h0:∃r es,(if b then s.runT p w #[] else (s.run p w,#[]))=(r,es)∧w.drawn≤(wOf r).drawn:=by
  cases b
  ·exact ⟨_,_,rfl,run_le p s w⟩
  ·exact ⟨_,_,rfl,zm1 rfl⟩
 obtain ⟨r,es,h1,h2⟩:=h0;unfold stepG.apply
 dsimp only
 rw [h1];rw [zh8];clear h1
 dsimp only
 revert h2
 split <;> intro h2 <;> first |exact h2|trivial|exact zh1 h2 (zz4 _ _ _ _ _ _)|exact zh1 h2 (zo1 _ _ _)|exact zh1 h2 (early_up _ _ _ _ _ _)|(split <;> first |exact h2|trivial|exact zh1 h2 (zo1 _ _ _)|(split <;> first |exact h2|trivial))
theorem oper_up (p:Program) (b:Bool) (fr:Frame) (cs:List Frame) (dy:Option Dying) (w:World):up w.drawn (stepG.oper p b fr cs dy w):=by
 unfold stepG.oper
 split
 ·trivial
 ·split <;> exact apply_up ..
theorem up_elim {d:Nat} {α:Type} (o:Option α) (a:GStep) (f:α→GStep) (ha:up d a) (hf:∀x,up d (f x)):up d (o.elim a f):=by
 cases o
 ·exact ha
 ·exact hf _
theorem leave_up (p:Program) (main:Bool) (fr:Frame) (cs:List Frame) (dy:Option Dying) (w:World) (l:Nat) (jump:Option Code) (why:Outcome):up w.drawn (match (Instr.endRound l jump).runT p w #[] with
  |(r,es)=>GStep.after (seen p fr.fn es) (match r with
   | .ok v w=>doReturn p main fr cs dy v w
   | .halt _ w=> .ended why w)):=by
 generalize hx:(Instr.endRound l jump).runT p w #[]=x;obtain ⟨r,es⟩:=x;have h2:=zm1 hx
 dsimp only
 rw [zh8];cases r with
 |ok v w'=>exact zh1 h2 (zo2 _ _ _ _ _ _ _)
 |halt n w'=>trivial
set_option maxHeartbeats 2000000 in
theorem exec_up (p:Program) (main b:Bool) (fr:Frame) (cs:List Frame) (dy:Option Dying) (w:World):up w.drawn (stepG.exec p main b fr cs dy w):=by
 unfold stepG.exec
 dsimp only
 repeat' first
  |with_reducible exact apply_up ..
  |with_reducible exact oper_up ..
  |with_reducible exact leave_up ..
  |with_reducible refine up_elim _ _ _ ?_ (fun _=>?_)
  |split
 all_goals first
  |trivial
  |exact Nat.le_refl _
  |exact (zh8 _ _ _).2 (zh1 (runT_ok1 (by assumption)) (zo2 ..))
  |exact (zh8 _ _ _).2 (zh1 (runT_ok1 (by assumption)) (apply_up ..))
  |exact (zh8 _ _ _).2 (runT_ok1 (by assumption))
  |exact (zh8 _ _ _).2 (runT_halt1 (by assumption))
  |exact zc1 (by assumption)
theorem stepG_up (p:Program) (main:Bool) (g:Goroutine) (w:World) (b:Bool):up w.drawn (stepG p main g w b):=by
 obtain ⟨fr,callers,status,dying,offers⟩:=g;simp only [stepG]
 split
 ·exact die_up ..
 ·exact exec_up ..
 ·exact unwind_up ..
def nextD:Stepped→Nat| .next m=>m.world.drawn|_=>0
theorem yc6 (p:Program) (rest:Rest) (gs:Array Goroutine) (i:Nat) (g:Goroutine) (cases :Array CommCase) (blocking:Bool)
  (shape:CommShape) (w:World) (m':Machine) (h:(communicate p rest gs i g cases blocking shape w).1= .next m'):w.drawn≤m'.world.drawn:=by
 have hw:∀w',waitingAt rest cases w=some w'→w'.drawn=w.drawn:=fun w' hh=>by
  unfold waitingAt at hh
  repeat' first
   |(simp at hh;done)
   |(simp only [Option.some.injEq] at hh;subst hh;rfl)
   |split at hh
 unfold communicate at h;simp only [] at h
 repeat' first
  |(simp at h;done)
  |(simp only [Stepped.next.injEq] at h;subst h;exact Nat.le_refl _)
  |(simp only [Stepped.next.injEq] at h;subst h;exact zc1 (by assumption))
  |(simp only [Stepped.next.injEq] at h;subst h;exact Nat.le_of_eq (hw _ (by assumption)).symm)
  |split at h
 all_goals (
  have hd:_=m'.world.drawn:=congrArg nextD h
  dsimp only [nextD] at hd
  rw [←hd]
  first
   |exact zc1 (by assumption)
   |exact Nat.le_trans (zc1 (by assumption)) (run_halt (by assumption))
   |exact Nat.le_trans (zc1 (by assumption)) (zc1 (by assumption)))
theorem look_up (p:Program) (gs:Array Goroutine) (rest:Rest) (w:World) (m':Machine) (h:look p gs rest w= .next m'):w.drawn≤m'.world.drawn:=by
 unfold look at h;simp only [] at h
 repeat' first
  |(simp at h;done)
  |(simp only [Stepped.next.injEq] at h;subst h;rename_i h1;exact zc1 h1)
  |split at h
 all_goals (
  have hd:_=m'.world.drawn:=congrArg nextD h
  dsimp only [nextD] at hd
  rw [←hd]
  first
   |exact zc1 (by assumption)
   |exact Nat.le_trans (zc1 (by assumption)) (run_halt (by assumption))
   |exact Nat.le_trans (zc1 (by assumption)) (zc1 (by assumption)))
theorem serve_up (p:Program) (m m':Machine) (k:Nat) (h:serve p m k= .next m'):m.world.drawn≤m'.world.drawn:=by
 unfold serve at h;simp only [] at h
 repeat' first
  |(simp at h;done)
  |(simp only [Stepped.next.injEq] at h;subst h;exact Nat.le_refl _)
  |split at h
theorem endThrow_go {fr:Frame} {m:String} {w w':World} {g:Goroutine} {es:Array Event} (h:endThrow fr m w= .go g w' es):w'.drawn=w.drawn:=by
 unfold endThrow dieOf at h;simp only [] at h
 injection h with h1 h2 h3
 rw [h2]
theorem timerOp_up (m m':Machine) (op:TimerOp) (v:Value) (h:timerOp m op= .ok (v,m')):m'.world.drawn=m.world.drawn:=by
 have hr:∀ (m:Machine) k t a b,(retime m k t a b).2.world.drawn=m.world.drawn:=fun m k t a b=>by
  unfold retime drain;simp only []
  repeat' first |rfl |split
 have ho:∀a m',timerOp.opened m a=some m'→m'.world.drawn=m.world.drawn:=fun a m' hh=>by
  unfold timerOp.opened at hh
  repeat' first
   |(simp at hh;done)
   |(simp only [Option.some.injEq] at hh;subst hh;rfl)
   |split at hh
 unfold timerOp at h;cases op with
 |new t=>
  simp only [] at h
  repeat' first
   |(simp at h;done)
   |(simp only [Except.ok.injEq,Prod.mk.injEq] at h;obtain ⟨_,rfl⟩:=h;rfl)
   |split at h
 |stop a=>
  simp only [timerOp.named] at h
  split at h
  ·simp only [Except.ok.injEq] at h;have :=congrArg (fun x=>x.2.world.drawn) h
   dsimp only at this
   rw [←this];exact hr ..
  ·simp at h
 |reset a b c=>
  simp only [] at h
  split at h
  ·rename_i m2 h2
   simp only [timerOp.named] at h
   split at h
   ·simp only [Except.ok.injEq] at h;have :=congrArg (fun x=>x.2.world.drawn) h
    dsimp only at this
    rw [←this,hr,ho _ _ h2]
   ·simp at h
  ·simp at h
 |deadline a b c d=>
  simp only [Except.ok.injEq,Prod.mk.injEq] at h;obtain ⟨_,rfl⟩:=h;rfl
theorem runM_up (p:Program) (m m':Machine) (i:Nat) (b:Bool) (h:(runT p m i b).1= .next m'):m.world.drawn≤m'.world.drawn:=by
 simp only [runT] at h
 revert h
 generalize m.gs.swapAt! _ _=gg;have hs:=stepG_up p (i==0) gg.1 m.world b
 revert hs
 generalize stepG p _ gg.1 m.world b=s;intro hs h;cases s <;> simp only [] at h <;> simp only [up] at hs
 all_goals first
  |(simp at h;done)
  |exact Nat.le_trans hs (yc6 _ _ _ _ _ _ _ _ _ _ h)
  |exact Nat.le_trans hs (look_up _ _ _ _ _ h)
  |(simp only [Stepped.next.injEq] at h;subst h;exact hs)
  |(repeat' first
    |(simp at h;done)
    |(simp only [Stepped.next.injEq] at h;subst h;exact hs)
    |(simp only [Stepped.next.injEq] at h;subst h;rename_i h2;exact Nat.le_trans hs (Nat.le_of_eq (timerOp_up _ _ _ _ h2).symm))
    |(simp only [Stepped.next.injEq] at h;subst h;rename_i h2;exact Nat.le_trans hs (Nat.le_of_eq (endThrow_go h2).symm))
    |split at h)
def moveD:Move→Nat| .goroutine m _=>m.world.drawn| .machine s _=>nextD s
theorem zp8 (p:Program) (m m':Machine) (ops:Array MemOp) (h:askOn p m= .machine (.next m') ops):m.world.drawn≤m'.world.drawn:=by
 unfold askOn at h;simp only [] at h
 repeat' first
  |(simp at h;done)
  |(simp only [Move.machine.injEq] at h;exact Nat.le_trans (zc1 (by assumption)) (serve_up _ _ _ _ h.1))
  |(simp only [Move.machine.injEq,Stepped.next.injEq] at h;obtain ⟨rfl,_⟩:=h;exact zc1 (by assumption))
  |(simp only [Move.machine.injEq,Stepped.next.injEq] at h;obtain ⟨rfl,_⟩:=h;exact Nat.le_trans (zc1 (by assumption)) (zc1 (by assumption)))
  |split at h
 all_goals (
  have hd:_=m'.world.drawn:=congrArg moveD h
  dsimp only [moveD,nextD,Machine.advanceTo] at hd
  have e0:=zc1 (show Sem.run p (if _ then _ else _) m.world=_ by assumption)
  try have e1:=zc1 (show Sem.run p (choose (.extern "clock.wait" _)) _=_ by assumption)
  omega)
theorem zl7 (p:Program) (m m':Machine) (i:Nat) (h:askOn p m= .goroutine m' i):m.world.drawn≤m'.world.drawn:=by
 unfold askOn at h;simp only [] at h
 repeat' first
  |(simp at h;done)
  |split at h
 all_goals (
  have hd:_=m'.world.drawn:=congrArg moveD h
  dsimp only [moveD,nextD,Machine.advanceTo] at hd
  have e0:=zc1 (show Sem.run p (if _ then _ else _) m.world=_ by assumption);have e1:=zc1 (show Sem.run p (choose (.sched _)) _=_ by assumption)
  try have e2:=zc1 (show Sem.run p (choose (.extern "clock.wait" _)) _=_ by assumption)
  try have e3:=zc1 (show Sem.run p (choose (.extern "sched.slice" _)) _=_ by assumption)
  try simp only [Machine.advanceTo] at *
  omega)
theorem ask_up (p:Program) (m m':Machine) (ops:Array MemOp) (h:ask p m= .machine (.next m') ops):m.world.drawn≤m'.world.drawn:=by
 unfold ask at h
 repeat' first
  |(simp at h;done)
  |exact zp8 p m m' ops h
  |exact Nat.le_trans (zc1 (by assumption)) (zp8 p _ m' ops h)
  |exact Nat.le_trans (zc1 (by assumption)) (Nat.le_trans (look_up _ _ _ _ _ (by assumption)) (zp8 p _ m' ops h))
  |split at h
 all_goals (
  rename_i hn
  simp only [Move.machine.injEq] at h
  exact (hn _ h.1).elim)
theorem yc5 (p:Program) (m m':Machine) (i:Nat) (h:ask p m= .goroutine m' i):m.world.drawn≤m'.world.drawn:=by
 unfold ask at h
 repeat' first
  |(simp at h;done)
  |exact zl7 p m m' i h
  |exact Nat.le_trans (zc1 (by assumption)) (zl7 p _ m' i h)
  |exact Nat.le_trans (zc1 (by assumption)) (Nat.le_trans (look_up _ _ _ _ _ (by assumption)) (zl7 p _ m' i h))
  |split at h
theorem move_up (p:Program) (m m':Machine) (ops:Array MemOp) (h:move p m= .machine (.next m') ops):m.world.drawn≤m'.world.drawn:=by
 unfold move at h
 repeat' first
  |(simp at h;done)
  |(have h3:=ask_up p _ m' ops h;exact h3)
  |split at h
theorem ya7 (p:Program) (m m':Machine) (i:Nat) (h:move p m= .goroutine m' i):m.world.drawn≤m'.world.drawn:=by
 unfold move at h
 repeat' first
  |(simp at h;done)
  |(have h3:=yc5 p _ m' i h;exact h3)
  |(simp only [Move.goroutine.injEq] at h;obtain ⟨rfl,_⟩:=h;exact Nat.le_refl _)
  |split at h
theorem step_up (p:Program) (m m':Machine) (h:step p m= .next m'):m.world.drawn≤m'.world.drawn:=by
 simp only [step,stepT] at h
 split at h
 ·rename_i m2 i hm
  exact Nat.le_trans (ya7 p m m2 i hm) (runM_up p m2 m' i _ h)
 ·rename_i s ops hm
  simp only [] at h;subst h;exact move_up p m m' ops hm
theorem runN_up (p:Program):∀ (n:Nat) (m m':Machine),runN p n m= .next m'→m.world.drawn≤m'.world.drawn:=by
 intro n
 induction n with
 |zero=>intro m m' h;simp only [runN,Stepped.next.injEq] at h;subst h;exact Nat.le_refl _
 |succ n ih=>
  intro m m' h;simp only [runN] at h
  split at h
  ·rename_i m2 h2
   exact Nat.le_trans (step_up p m m2 h2) (ih _ _ h)
  ·rename_i e h2
   exact (h2 _ h).elim
theorem calls_up {P:Program} {f:FuncId} {args:Array Value} {w:World} {R:Ending→World→Prop} (hR:∀e w',R e w'→∃v,e= .returned v) (h:Calls P f args w R):Calls P f args w fun e w'=>R e w'∧w.drawn≤w'.drawn:=by
 intro cs;obtain ⟨e,w',fr,hr,hc,h1,h2⟩:=h cs;obtain ⟨v,rfl⟩:=hR e w' hr;obtain ⟨n,hn⟩:=hc;exact ⟨_,w',fr,⟨hr,runN_up P n _ _ hn⟩,⟨n,hn⟩,h1,h2⟩
end Drw
end Go.Proofs.YtggadpalljhiaaaGreatDoor
