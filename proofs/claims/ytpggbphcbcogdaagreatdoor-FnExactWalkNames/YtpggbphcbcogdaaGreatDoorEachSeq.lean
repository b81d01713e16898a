import Derived.Test.YtpggbphcbcogdaaGreatDoorRangeOwn
import Derived.Test.YtpggbphcbcogdaaGreatDoorMemFx
import Derived.WalkSpells
import Derived.Lib.OthersKept
import Derived.Laws.RangeAny
import Derived.Deep.Draws
import Derived.Deep.QuietTactic
import Derived.BigQuiet
import Derived.Deep.RegionHeld3
namespace Go.Proofs.YtpggbphcbcogdaaGreatDoor
open Go.RowKit Go.Shelf
attribute [local go_sem] Oper.semAt_some
namespace Pl
def za7:Fx→List (List Nd)
 | .nil=>[]
 | .cons L k m=>(if k.len=0 then [L] else za7 k)++za7 m
def zg2:Nat→Fx→Fx
 |0,X=>X
 |_+1, .nil=> .nil
 |n+1, .cons _ _ m=>zg2 n m
theorem drop_len:∀ (n:Nat) (X:Fx),(zg2 n X).len=X.len - n:=by
 intro n
 induction n with
 |zero=>intro X;rfl
 |succ n ih=>
  intro X;cases X with
  |nil=>simp [zg2,Fx.len]
  |cons L k m=>rw [zg2,ih,Fx.len];omega
theorem drop_next {n:Nat}:∀ {X:Fx} {L:List Nd} {k m:Fx},zg2 n X= .cons L k m→zg2 (n+1) X=m:=by
 induction n with
 |zero=>intro X L k m h;cases X with
  |nil=>cases h
  |cons L' k' m'=>cases h;rfl
 |succ n ih=>intro X L k m h;cases X with
  |nil=>cases h
  |cons L' k' m'=>exact ih h
theorem drop_sz {n:Nat}:∀ {X:Fx} {L:List Nd} {k m:Fx},zg2 n X= .cons L k m→k.sz<X.sz:=by
 induction n with
 |zero=>intro X L k m h;cases X with
  |nil=>cases h
  |cons L' k' m'=>cases h;simp [Fx.sz];omega
 |succ n ih=>intro X L k m h;cases X with
  |nil=>cases h
  |cons L' k' m'=>have :=ih (X:=m') h;simp [Fx.sz];omega
theorem drop_ok {n:Nat}:∀ {X:Fx},X.okX→(zg2 n X).okX:=by
 induction n with
 |zero=>intro X h;exact h
 |succ n ih=>intro X h;cases X with
  |nil=>trivial
  |cons L k m=>exact ih h.2.2.2.2
theorem drop_leaves {n:Nat}:∀ {X:Fx} {L:List Nd} {k m:Fx},zg2 n X= .cons L k m→∀ls,ls++za7 (zg2 n X)=za7 X→(ls++za7 (.cons L k .nil))++za7 (zg2 (n+1) X)=za7 X:=by
 intro X L k m h ls hl;rw [drop_next h,←hl,h,za7,za7,za7];simp
end Pl
namespace Rng
theorem zg0 {F:Fence} (hd:F.depth=none) {m:Nat} (m':Nat) {P:Program} {l:Nat} {args:Array Value} {W:World} {R:Ending→World→Prop} (h:YieldAt F m P l args W R):YieldAt F m' P l args W R:=by
 obtain ⟨fn,tmps,assign,body,hy,hR⟩:=h;exact ⟨fn,tmps,assign,body,hy,hR.1,fun c cs _=>hR.2 c cs (fun d h=>by rw [hd] at h;cases h)⟩
structure Keep (w0 W:World):Prop where
 size:w0.heap.size≤W.heap.size
 same:∀j,j<w0.heap.size→W.heap[j]? =w0.heap[j]?
theorem Keep.of_below {w0 W:World} (b:Below w0.heap.size w0 W):Keep w0 W:=⟨b.size,fun j hj=>b.block j hj⟩
theorem Keep.trans {A B D:World} (h:Keep A B) (k:Keep B D):Keep A D:=⟨Nat.le_trans h.size k.size,fun j hj=>(k.same j (Nat.lt_of_lt_of_le hj h.size)).trans (h.same j hj)⟩
theorem Keep.grown {w0 W W':World} {row:Option Nat} (h:Keep w0 W) (g:W.grownBy W' row) (hr:∀r,row=some r→w0.heap.size≤r):Keep w0 W':=
 ⟨Nat.le_trans h.size g.size,fun j hj=>(g.block j (Nat.lt_of_lt_of_le hj h.size) (fun e=>by have :=hr j e.symm;omega)).trans (h.same j hj)⟩
theorem Keep.kq {w0 W W':World} {C:World→Nat→Prop} {R:Nat→Prop} (h:Keep w0 W) (k:Kq C R W W') (hC:∀j,C W j→w0.heap.size≤j) (hR:∀j,R j→w0.heap.size≤j):Keep w0 W':=by
 refine ⟨Nat.le_trans h.size k.size,fun j hj=>?_⟩;have e:=h.same j hj;have hlt:j<W.heap.size:=Nat.lt_of_lt_of_le hj h.size;rw [←e];have h2:W.heap[j]? =some W.heap[j]:=Array.getElem?_eq_getElem hlt;rw [h2];exact k.kept j _ h2 (fun _ hc=>by have :=hC j hc;omega) (fun _ hc=>by have :=hR j hc;omega)
theorem Keep.own {w0 W:World} {q:Nat} {L:List Pl.Nd} (h:Keep w0 W) (m:Mem.ownM w0 q L):Mem.ownM W q L:=m.same (h.same q m.lt)
theorem Keep.cell {w0 W:World} (h:Keep w0 W) {p:Addr} (hp:p.block<w0.heap.size):W.cell? p=w0.cell? p:=World.cell?_of_block (h.same _ hp)
structure Good (w0:World) (B:Nat) (C:World→Nat→Prop):Prop where
 step:Mine B C
 rng:∀W,B≤W.heap.size→∀j,C W j→w0.heap.size≤j∧j<W.heap.size
 typ:∀ (W:World) (y:Nat) (cs:Array Value) (T:TypeId),B≤y→Mem.Blk W y cs T→T≠9→¬C W y
theorem leave {F:Fence} {n:Nat} {P:Program} {fn:Func} {tmps:Array Value} {R:Ending→World→Prop} (Φ:World→Prop) (hend:∀W,Φ W→LeavesIn F n P fn tmps R [] .returning W):
  ∀ (Ds:List Nat) (W:World),Ds.Nodup→(∀D∈Ds,W.heap[D]? =some (.deferred (some [])))→Φ W→(∀D∈Ds,∀W,Φ W→W.heap[D]? =some (.deferred (some []))→Φ (W.putObj D (.deferred none)))→
   LeavesInM F n P fn tmps R (Ds.map fun D=>{ target:= .collected D,args:=#[] }) .returning W:=by
 intro Ds
 induction Ds with
 |nil=>intro W _ _ h _;exact hend W h
 |cons D Ds ih=>
  intro W hn hd h hp;rw [List.nodup_cons] at hn;refine ⟨by simp, .inl ⟨D,_,rfl,run_takeDeferred (hd D (List.mem_cons_self ..)),?_⟩⟩;refine ih _ hn.2 (fun E hE=>?_) (hp D (List.mem_cons_self ..) W h (hd D (List.mem_cons_self ..))) (fun E hE=>hp E (List.mem_cons_of_mem _ hE));exact (World.putObj_heap_other (fun e=>hn.1 (by rw [←e];exact hE))).trans (hd E (List.mem_cons_of_mem _ hE))
end Rng
end Go.Proofs.YtpggbphcbcogdaaGreatDoor
