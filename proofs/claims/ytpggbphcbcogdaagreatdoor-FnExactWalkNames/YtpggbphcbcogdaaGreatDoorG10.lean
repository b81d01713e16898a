/- Several texts of one claim in one file: MemFx, EachSeq. -/
import Derived.Test.YtpggbphcbcogdaaGreatDoorG09
namespace Go.Proofs.YtpggbphcbcogdaaGreatDoor
section
open Go.RowKit Go.Maps
namespace Mem
def ownM (w:World) (q:Nat) (L:List Pl.Nd):Prop:=w.ownsMap Tryz.prog 9 MapN.elem q 40 (MapN.mapOf L)
theorem ownM.lt {w:World} {q:Nat} {L:List Pl.Nd} (h:ownM w q L):q<w.heap.size:=World.ownsMap.lt h
theorem ownM.same {w w':World} {q:Nat} {L:List Pl.Nd} (h:ownM w q L) (e:w'.heap[q]? =w.heap[q]?):ownM w' q L:=by
 obtain ⟨es,clock,hb,F,hs,hD⟩:=h;exact ⟨es,clock,e.trans hb,F,hs,hD⟩
theorem ownM.call {w w':World} {q:Nat} {L:List Pl.Nd} (h:ownM w q L) (b:Below w.heap.size w w'):ownM w' q L:=h.same (b.block q h.lt)
theorem ownM.set {w:World} {q:Nat} {L:List Pl.Nd} (h:ownM w q L) (p:Addr) (u:Value) (hp:q≠p.block):ownM (w.setCell p u) q L:=h.same (heap_setCell_other _ _ _ _ hp)
theorem ownM.grown {w w':World} {q:Nat} {L:List Pl.Nd} {r:Option Nat} (h:ownM w q L) (g:w.grownBy w' r) (hr:some q≠r):ownM w' q L:=h.same (g.block q h.lt hr)
def rowX (w:World) (N:Nat→Prop):Pl.Fx→Nat→Nat→Prop
 | .nil,_,_=>True
 | .cons L k m,b,i=>(∃q a cap,w.cell? ⟨b,i,none⟩=some (.map (some q))∧w.cell? ⟨b,i+1,none⟩=some (.int .i64 (k.len:Int))∧w.cell? ⟨b,i+2,none⟩=some (.slice a k.len cap)∧b<w.heap.size∧N b∧N q∧ownM w q L∧
   (k= .nil∨∃b',a=some ⟨b',0,none⟩∧k.len≤cap∧rowX w N k b' 0))∧rowX w N m b (i+3)
def layX (w:World) (N:Nat→Prop) (k:Pl.Fx) (v:Value):Prop:=∃a cap,v= .slice a k.len cap∧(k= .nil∨∃b',a=some ⟨b',0,none⟩∧k.len≤cap∧rowX w N k b' 0)
theorem zq2 {w w':World} {N N':Nat→Prop} (h:∀b,N b→b<w.heap.size→N' b∧b<w'.heap.size∧w'.heap[b]? =w.heap[b]?) (F:Pl.Fx):∀b i,rowX w N F b i→rowX w' N' F b i:=by
 induction F with
 |nil=>intro b i _;trivial
 |cons L k m ihk ihm=>
  intro b i hr;obtain ⟨⟨q,a,cap,h1,h2,h3,h4,h5,hq,hm,h6⟩,h7⟩:=hr;obtain ⟨g1,g2,g3⟩:=h b h5 h4;obtain ⟨q1,q2,q3⟩:=h q hq hm.lt;have c:∀j,w'.cell? ⟨b,j,none⟩=w.cell? ⟨b,j,none⟩:=fun j=>World.cell?_of_block g3;refine ⟨⟨q,a,cap,(c _).trans h1,(c _).trans h2,(c _).trans h3,g2,g1,q1,hm.same q3,?_⟩,ihm _ _ h7⟩
  rcases h6 with h6|⟨b',h6,h8,h9⟩
  ·exact .inl h6
  ·exact .inr ⟨b',h6,h8,ihk _ _ h9⟩
theorem zl0 {w w':World} {N N':Nat→Prop} (h:∀b,N b→b<w.heap.size→N' b∧b<w'.heap.size∧w'.heap[b]? =w.heap[b]?) {k:Pl.Fx} {v:Value} (hl:layX w N k v):layX w' N' k v:=by
 obtain ⟨a,cap,h1,h2⟩:=hl;refine ⟨a,cap,h1,?_⟩
 rcases h2 with h2|⟨b',h2,h3,h4⟩
 ·exact .inl h2
 ·exact .inr ⟨b',h2,h3,zq2 h _ _ _ h4⟩
theorem zo2 {w w':World} {N:Nat→Prop} {F:Pl.Fx} {b i:Nat} (h:rowX w N F b i) (bb:Below w.heap.size w w'):rowX w' N F b i:=zq2 (fun g hg hl=>⟨hg,Nat.lt_of_lt_of_le hl bb.size,bb.block g hl⟩) _ _ _ h
theorem zl {w w':World} {N:Nat→Prop} {k:Pl.Fx} {v:Value} (h:layX w N k v) (b:Below w.heap.size w w'):layX w' N k v:=zl0 (fun g hg hl=>⟨hg,Nat.lt_of_lt_of_le hl b.size,b.block g hl⟩) h
theorem layX_weak {w:World} {N N':Nat→Prop} {k:Pl.Fx} {v:Value} (h:layX w N k v) (hn:∀b,N b→b<w.heap.size→N' b):layX w N' k v:=zl0 (fun g hg hl=>⟨hn g hg hl,hl,rfl⟩) h
theorem layX_nil (w:World) (N:Nat→Prop):layX w N .nil (.slice none 0 0):=⟨none,0,rfl, .inl rfl⟩
theorem rowX_row {w:World} {N:Nat→Prop} (F:Pl.Fx):∀b i,rowX w N F b i→rowF w N F.shape b i:=by
 induction F with
 |nil=>intro b i _;trivial
 |cons L k m ihk ihm=>
  intro b i hr;obtain ⟨⟨q,a,cap,h1,h2,h3,h4,h5,hq,hm,h6⟩,h7⟩:=hr;refine ⟨⟨_,_,a,cap,h1,h2,by rw [Pl.Fx.zo7];exact h3,h4,h5,⟨_,rfl⟩,⟨_,rfl⟩,?_⟩,ihm _ _ h7⟩
  rcases h6 with h6|⟨b',h6, -,h8⟩
  ·exact .inl (by rw [h6];rfl)
  ·exact .inr ⟨b',h6,ihk _ _ h8⟩
theorem layX_lay {w:World} {N:Nat→Prop} {k:Pl.Fx} {v:Value} (h:layX w N k v):lay w N k.shape v:=by
 obtain ⟨a,cap,h1,h2⟩:=h;refine ⟨a,cap,by rw [Pl.Fx.zo7];exact h1,?_⟩
 rcases h2 with h2|⟨b',h2, -,h3⟩
 ·exact .inl (by rw [h2];rfl)
 ·exact .inr ⟨b',h2,rowX_row _ _ _ h3⟩
def zg5 (w:World) (N:Nat→Prop):Pl.Fx→List Value→Prop
 | .nil,xs=>xs=[]
 | .cons L k m,xs=>∃q v ys,xs= .map (some q):: .int .i64 (k.len:Int)::v::ys∧N q∧ownM w q L∧layX w N k v∧zg5 w N m ys
theorem zw5 {w w':World} {N N':Nat→Prop} (h:∀b,N b→b<w.heap.size→N' b∧b<w'.heap.size∧w'.heap[b]? =w.heap[b]?) (F:Pl.Fx):∀xs,zg5 w N F xs→zg5 w' N' F xs:=by
 induction F with
 |nil=>intro xs h;exact h
 |cons L k m _ ih=>
  intro xs hx;obtain ⟨q,v,ys,h1,hq,hm,h2,h3⟩:=hx;obtain ⟨q1,q2,q3⟩:=h q hq hm.lt;exact ⟨q,v,ys,h1,q1,hm.same q3,zl0 h h2,ih _ h3⟩
theorem cellsX_snoc {w:World} {N:Nat→Prop} {k:Pl.Fx} {L:List Pl.Nd} {q:Nat} {v:Value} (hq:N q) (hm:ownM w q L) (hv:layX w N k v) (F:Pl.Fx):∀xs,zg5 w N F xs→zg5 w N (F.app (.cons L k .nil)) (xs++[.map (some q), .int .i64 (k.len:Int),v]):=by
 induction F with
 |nil=>intro xs h;cases h;exact ⟨q,v,[],rfl,hq,hm,hv,rfl⟩
 |cons L' k' m _ ih=>
  intro xs hx;obtain ⟨q',v',ys,rfl,hq',hm',h2,h3⟩:=hx;exact ⟨q',v',_,rfl,hq',hm',h2,ih _ h3⟩
theorem rowX_of_cells {w:World} {N N':Nat→Prop} {g:Nat} (hN:∀b,N b→N' b) (hg:N' g) (hlt:g<w.heap.size) (F:Pl.Fx):∀ (xs:List Value) (i:Nat),zg5 w N F xs→(∀j u,xs[j]? =some u→w.cell? ⟨g,i+j,none⟩=some u)→rowX w N' F g i:=by
 induction F with
 |nil=>intro xs i _ _;trivial
 |cons L k m _ ih=>
  intro xs i hx hc;obtain ⟨q,v,ys,rfl,hq,hm,h2,h3⟩:=hx;obtain ⟨a,cap,rfl,h4⟩:=h2;refine ⟨⟨q,a,cap,hc 0 _ rfl,hc 1 _ rfl,hc 2 _ rfl,hlt,hg,hN q hq,hm,?_⟩,ih ys (i+3) h3 fun j u hj=>?_⟩
  ·rcases h4 with h4|⟨b',h4,h6,h5⟩
   ·exact .inl h4
   ·exact .inr ⟨b',h4,h6,zq2 (fun b hb hl=>⟨hN b hb,hl,rfl⟩) _ _ _ h5⟩
  ·have :=hc (j+3) u (by simpa using hj);rw [show i+3+j=i+(j+3) by omega];exact this
theorem zv5 {w:World} {B:Nat} {T:TypeId} {v:Value} {N:Nat→Prop} {F:Pl.Fx} {xs:List Value} (h:w.ownsRow B T 3 v F.len xs) (hc:zg5 w N F xs) (hN:∀b,N b→B≤b):layX w (fun b=>B≤b) F v:=by
 rcases h.2 with ⟨rfl,h0⟩|⟨g,cap,cur,rfl,hb,hg,hc2,hm,hsz,ht⟩
 ·cases F with
  |nil=>exact layX_nil _ _
  |cons L k m=>simp [Pl.Fx.len] at h0
 ·refine ⟨_,cap,rfl, .inr ⟨g,rfl,hc2,rowX_of_cells hN hb (Array.getElem?_eq_some_iff.1 hg).1 F xs 0 hc fun j u hj=>?_⟩⟩;rw [cell_of_row w g _ cur _ (0,0) hg,Nat.zero_add];rw [←ht,List.getElem?_take] at hj
  split at hj
  ·simpa using hj
  ·cases hj
end Mem
end
section
open Go.RowKit Go.Shelf
attribute [local go_sem] Oper.semAt_some
namespace Pl
def za7:Fx→List (List Nd)
 | .nil=>[]
 | .cons L k m=>(if k.len=0 then [L] else za7 k)++za7 m
def zg2:Nat→Fx→Fx
 |0,X=>X
 |_+1, .nil=> .nil
 |n+1, .cons _ _ m=>zg2 n m
theorem drop_len:∀ (n:Nat) (X:Fx),(zg2 n X).len=X.len - n:=by
 intro n
 induction n with
 |zero=>intro X;rfl
 |succ n ih=>
  intro X;cases X with
  |nil=>simp [zg2,Fx.len]
  |cons L k m=>rw [zg2,ih,Fx.len];omega
theorem drop_next {n:Nat}:∀ {X:Fx} {L:List Nd} {k m:Fx},zg2 n X= .cons L k m→zg2 (n+1) X=m:=by
 induction n with
 |zero=>intro X L k m h;cases X with
  |nil=>cases h
  |cons L' k' m'=>cases h;rfl
 |succ n ih=>intro X L k m h;cases X with
  |nil=>cases h
  |cons L' k' m'=>exact ih h
theorem drop_sz {n:Nat}:∀ {X:Fx} {L:List Nd} {k m:Fx},zg2 n X= .cons L k m→k.sz<X.sz:=by
 induction n with
 |zero=>intro X L k m h;cases X with
  |nil=>cases h
  |cons L' k' m'=>cases h;simp [Fx.sz];omega
 |succ n ih=>intro X L k m h;cases X with
  |nil=>cases h
  |cons L' k' m'=>have :=ih (X:=m') h;simp [Fx.sz];omega
theorem drop_ok {n:Nat}:∀ {X:Fx},X.okX→(zg2 n X).okX:=by
 induction n with
 |zero=>intro X h;exact h
 |succ n ih=>intro X h;cases X with
  |nil=>trivial
  |cons L k m=>exact ih h.2.2.2.2
theorem drop_leaves {n:Nat}:∀ {X:Fx} {L:List Nd} {k m:Fx},zg2 n X= .cons L k m→∀ls,ls++za7 (zg2 n X)=za7 X→(ls++za7 (.cons L k .nil))++za7 (zg2 (n+1) X)=za7 X:=by
 intro X L k m h ls hl;rw [drop_next h,←hl,h,za7,za7,za7];simp
end Pl
namespace Rng
theorem zg0 {F:Fence} (hd:F.depth=none) {m:Nat} (m':Nat) {P:Program} {l:Nat} {args:Array Value} {W:World} {R:Ending→World→Prop} (h:YieldAt F m P l args W R):YieldAt F m' P l args W R:=by
 obtain ⟨fn,tmps,assign,body,hy,hR⟩:=h;exact ⟨fn,tmps,assign,body,hy,hR.1,fun c cs _=>hR.2 c cs (fun d h=>by rw [hd] at h;cases h)⟩
structure Keep (w0 W:World):Prop where
 size:w0.heap.size≤W.heap.size
 same:∀j,j<w0.heap.size→W.heap[j]? =w0.heap[j]?
theorem Keep.of_below {w0 W:World} (b:Below w0.heap.size w0 W):Keep w0 W:=⟨b.size,fun j hj=>b.block j hj⟩
theorem Keep.trans {A B D:World} (h:Keep A B) (k:Keep B D):Keep A D:=⟨Nat.le_trans h.size k.size,fun j hj=>(k.same j (Nat.lt_of_lt_of_le hj h.size)).trans (h.same j hj)⟩
theorem Keep.grown {w0 W W':World} {row:Option Nat} (h:Keep w0 W) (g:W.grownBy W' row) (hr:∀r,row=some r→w0.heap.size≤r):Keep w0 W':=
 ⟨Nat.le_trans h.size g.size,fun j hj=>(g.block j (Nat.lt_of_lt_of_le hj h.size) (fun e=>by have :=hr j e.symm;omega)).trans (h.same j hj)⟩
theorem Keep.kq {w0 W W':World} {C:World→Nat→Prop} {R:Nat→Prop} (h:Keep w0 W) (k:Kq C R W W') (hC:∀j,C W j→w0.heap.size≤j) (hR:∀j,R j→w0.heap.size≤j):Keep w0 W':=by
 refine ⟨Nat.le_trans h.size k.size,fun j hj=>?_⟩;have e:=h.same j hj;have hlt:j<W.heap.size:=Nat.lt_of_lt_of_le hj h.size;rw [←e];have h2:W.heap[j]? =some W.heap[j]:=Array.getElem?_eq_getElem hlt;rw [h2];exact k.kept j _ h2 (fun _ hc=>by have :=hC j hc;omega) (fun _ hc=>by have :=hR j hc;omega)
theorem Keep.own {w0 W:World} {q:Nat} {L:List Pl.Nd} (h:Keep w0 W) (m:Mem.ownM w0 q L):Mem.ownM W q L:=m.same (h.same q m.lt)
theorem Keep.cell {w0 W:World} (h:Keep w0 W) {p:Addr} (hp:p.block<w0.heap.size):W.cell? p=w0.cell? p:=World.cell?_of_block (h.same _ hp)
structure Good (w0:World) (B:Nat) (C:World→Nat→Prop):Prop where
 step:Mine B C
 rng:∀W,B≤W.heap.size→∀j,C W j→w0.heap.size≤j∧j<W.heap.size
 typ:∀ (W:World) (y:Nat) (cs:Array Value) (T:TypeId),B≤y→Mem.Blk W y cs T→T≠9→¬C W y
theorem leave {F:Fence} {n:Nat} {P:Program} {fn:Func} {tmps:Array Value} {R:Ending→World→Prop} (Φ:World→Prop) (hend:∀W,Φ W→LeavesIn F n P fn tmps R [] .returning W):
  ∀ (Ds:List Nat) (W:World),Ds.Nodup→(∀D∈Ds,W.heap[D]? =some (.deferred (some [])))→Φ W→(∀D∈Ds,∀W,Φ W→W.heap[D]? =some (.deferred (some []))→Φ (W.putObj D (.deferred none)))→
   LeavesInM F n P fn tmps R (Ds.map fun D=>{ target:= .collected D,args:=#[] }) .returning W:=by
 intro Ds
 induction Ds with
 |nil=>intro W _ _ h _;exact hend W h
 |cons D Ds ih=>
  intro W hn hd h hp;rw [List.nodup_cons] at hn;refine ⟨by simp, .inl ⟨D,_,rfl,run_takeDeferred (hd D (List.mem_cons_self ..)),?_⟩⟩;refine ih _ hn.2 (fun E hE=>?_) (hp D (List.mem_cons_self ..) W h (hd D (List.mem_cons_self ..))) (fun E hE=>hp E (List.mem_cons_of_mem _ hE));exact (World.putObj_heap_other (fun e=>hn.1 (by rw [←e];exact hE))).trans (hd E (List.mem_cons_of_mem _ hE))
end Rng
end
end Go.Proofs.YtpggbphcbcogdaaGreatDoor
