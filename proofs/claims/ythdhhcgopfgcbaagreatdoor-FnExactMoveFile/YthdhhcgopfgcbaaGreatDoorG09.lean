/- Several texts of one claim in one file: MemNest, MemFx, MemMaps, MemFirst. -/
import Derived.Test.YthdhhcgopfgcbaaGreatDoorG01
namespace Go.Proofs.YthdhhcgopfgcbaaGreatDoor
section
open Go.RowKit
namespace Mem
def rowF (w:World) (N:Nat→Prop):Pl.Fo→Nat→Nat→Prop
 | .nil,_,_=>True
 | .cons k m,b,i=>(∃x y a cap,w.cell? ⟨b,i,none⟩=some x∧w.cell? ⟨b,i+1,none⟩=some y∧w.cell? ⟨b,i+2,none⟩=some (.slice a k.len cap)∧b<w.heap.size∧N b∧
   (∃q,x= .map q)∧(∃q,y= .int .i64 q)∧(k= .nil∨∃b',a=some ⟨b',0,none⟩∧rowF w N k b' 0))∧rowF w N m b (i+3)
def lay (w:World) (N:Nat→Prop) (k:Pl.Fo) (v:Value):Prop:=∃a cap,v= .slice a k.len cap∧(k= .nil∨∃b',a=some ⟨b',0,none⟩∧rowF w N k b' 0)
theorem rowF_mono {w w':World} {N N':Nat→Prop} (h:∀b,N b→b<w.heap.size→N' b∧b<w'.heap.size∧w'.heap[b]? =w.heap[b]?) (F:Pl.Fo):∀b i,rowF w N F b i→rowF w' N' F b i:=by
 induction F with
 |nil=>intro b i _;trivial
 |cons k m ihk ihm=>
  intro b i hr;obtain ⟨⟨x,y,a,cap,h1,h2,h3,h4,h5,hx,hy,h6⟩,h7⟩:=hr;obtain ⟨g1,g2,g3⟩:=h b h5 h4;have c:∀j,w'.cell? ⟨b,j,none⟩=w.cell? ⟨b,j,none⟩:=fun j=>World.cell?_of_block g3;refine ⟨⟨x,y,a,cap,(c _).trans h1,(c _).trans h2,(c _).trans h3,g2,g1,hx,hy,?_⟩,ihm _ _ h7⟩
  rcases h6 with h6|⟨b',h6,h8⟩
  ·exact .inl h6
  ·exact .inr ⟨b',h6,ihk _ _ h8⟩
theorem lay_mono {w w':World} {N N':Nat→Prop} (h:∀b,N b→b<w.heap.size→N' b∧b<w'.heap.size∧w'.heap[b]? =w.heap[b]?) {k:Pl.Fo} {v:Value} (hl:lay w N k v):lay w' N' k v:=by
 obtain ⟨a,cap,h1,h2⟩:=hl;refine ⟨a,cap,h1,?_⟩
 rcases h2 with h2|⟨b',h2,h3⟩
 ·exact .inl h2
 ·exact .inr ⟨b',h2,rowF_mono h _ _ _ h3⟩
theorem lay_call {w w':World} {N:Nat→Prop} {k:Pl.Fo} {v:Value} (h:lay w N k v) (b:Below w.heap.size w w'):lay w' N k v:=lay_mono (fun g hg hl=>⟨hg,Nat.lt_of_lt_of_le hl b.size,b.block g hl⟩) h
end Mem
end
section
open Go.RowKit Go.Maps
namespace Mem
def ownM (w:World) (q:Nat) (L:List Pl.Nd):Prop:=w.ownsMap Tryz.prog 9 MapN.elem q 40 (MapN.mapOf L)
theorem ownM.lt {w:World} {q:Nat} {L:List Pl.Nd} (h:ownM w q L):q<w.heap.size:=World.ownsMap.lt h
theorem ownM.same {w w':World} {q:Nat} {L:List Pl.Nd} (h:ownM w q L) (e:w'.heap[q]? =w.heap[q]?):ownM w' q L:=by
 obtain ⟨es,clock,hb,F,hs,hD⟩:=h;exact ⟨es,clock,e.trans hb,F,hs,hD⟩
theorem ownM.call {w w':World} {q:Nat} {L:List Pl.Nd} (h:ownM w q L) (b:Below w.heap.size w w'):ownM w' q L:=h.same (b.block q h.lt)
theorem ownM.set {w:World} {q:Nat} {L:List Pl.Nd} (h:ownM w q L) (p:Addr) (u:Value) (hp:q≠p.block):ownM (w.setCell p u) q L:=h.same (heap_setCell_other _ _ _ _ hp)
theorem ownM.grown {w w':World} {q:Nat} {L:List Pl.Nd} {r:Option Nat} (h:ownM w q L) (g:w.grownBy w' r) (hr:some q≠r):ownM w' q L:=h.same (g.block q h.lt hr)
theorem tight {w:World} {q n m:Nat} {D:DataW Unit} (h:w.ownsMap Tryz.prog 9 MapN.elem q n D) (hm:Maps.size D≤m):w.ownsMap Tryz.prog 9 MapN.elem q m D:=by
 obtain ⟨es,clock,hb,F,hs,rfl⟩:=h;refine ⟨es,clock,hb,F,?_,rfl⟩;rw [Maps.size_eq,length_read] at hm;exact hm
def rowX (w:World) (N:Nat→Prop):Pl.Fx→Nat→Nat→Prop
 | .nil,_,_=>True
 | .cons L k m,b,i=>(∃q a cap,w.cell? ⟨b,i,none⟩=some (.map (some q))∧w.cell? ⟨b,i+1,none⟩=some (.int .i64 (k.len:Int))∧w.cell? ⟨b,i+2,none⟩=some (.slice a k.len cap)∧b<w.heap.size∧N b∧N q∧ownM w q L∧
   (k= .nil∨∃b',a=some ⟨b',0,none⟩∧k.len≤cap∧rowX w N k b' 0))∧rowX w N m b (i+3)
def layX (w:World) (N:Nat→Prop) (k:Pl.Fx) (v:Value):Prop:=∃a cap,v= .slice a k.len cap∧(k= .nil∨∃b',a=some ⟨b',0,none⟩∧k.len≤cap∧rowX w N k b' 0)
theorem zn8 {w w':World} {N N':Nat→Prop} (h:∀b,N b→b<w.heap.size→N' b∧b<w'.heap.size∧w'.heap[b]? =w.heap[b]?) (F:Pl.Fx):∀b i,rowX w N F b i→rowX w' N' F b i:=by
 induction F with
 |nil=>intro b i _;trivial
 |cons L k m ihk ihm=>
  intro b i hr;obtain ⟨⟨q,a,cap,h1,h2,h3,h4,h5,hq,hm,h6⟩,h7⟩:=hr;obtain ⟨g1,g2,g3⟩:=h b h5 h4;obtain ⟨q1,q2,q3⟩:=h q hq hm.lt;have c:∀j,w'.cell? ⟨b,j,none⟩=w.cell? ⟨b,j,none⟩:=fun j=>World.cell?_of_block g3;refine ⟨⟨q,a,cap,(c _).trans h1,(c _).trans h2,(c _).trans h3,g2,g1,q1,hm.same q3,?_⟩,ihm _ _ h7⟩
  rcases h6 with h6|⟨b',h6,h8,h9⟩
  ·exact .inl h6
  ·exact .inr ⟨b',h6,h8,ihk _ _ h9⟩
theorem zu7 {w w':World} {N N':Nat→Prop} (h:∀b,N b→b<w.heap.size→N' b∧b<w'.heap.size∧w'.heap[b]? =w.heap[b]?) {k:Pl.Fx} {v:Value} (hl:layX w N k v):layX w' N' k v:=by
 obtain ⟨a,cap,h1,h2⟩:=hl;refine ⟨a,cap,h1,?_⟩
 rcases h2 with h2|⟨b',h2,h3,h4⟩
 ·exact .inl h2
 ·exact .inr ⟨b',h2,h3,zn8 h _ _ _ h4⟩
theorem zp4 {w w':World} {N:Nat→Prop} {F:Pl.Fx} {b i:Nat} (h:rowX w N F b i) (bb:Below w.heap.size w w'):rowX w' N F b i:=zn8 (fun g hg hl=>⟨hg,Nat.lt_of_lt_of_le hl bb.size,bb.block g hl⟩) _ _ _ h
theorem zk4 {w w':World} {N:Nat→Prop} {k:Pl.Fx} {v:Value} (h:layX w N k v) (b:Below w.heap.size w w'):layX w' N k v:=zu7 (fun g hg hl=>⟨hg,Nat.lt_of_lt_of_le hl b.size,b.block g hl⟩) h
theorem layX_weak {w:World} {N N':Nat→Prop} {k:Pl.Fx} {v:Value} (h:layX w N k v) (hn:∀b,N b→b<w.heap.size→N' b):layX w N' k v:=zu7 (fun g hg hl=>⟨hn g hg hl,hl,rfl⟩) h
theorem layX_nil (w:World) (N:Nat→Prop):layX w N .nil (.slice none 0 0):=⟨none,0,rfl, .inl rfl⟩
theorem rowX_row {w:World} {N:Nat→Prop} (F:Pl.Fx):∀b i,rowX w N F b i→rowF w N F.shape b i:=by
 induction F with
 |nil=>intro b i _;trivial
 |cons L k m ihk ihm=>
  intro b i hr;obtain ⟨⟨q,a,cap,h1,h2,h3,h4,h5,hq,hm,h6⟩,h7⟩:=hr;refine ⟨⟨_,_,a,cap,h1,h2,by rw [Pl.Fx.zy2];exact h3,h4,h5,⟨_,rfl⟩,⟨_,rfl⟩,?_⟩,ihm _ _ h7⟩
  rcases h6 with h6|⟨b',h6, -,h8⟩
  ·exact .inl (by rw [h6];rfl)
  ·exact .inr ⟨b',h6,ihk _ _ h8⟩
theorem yf1 {w:World} {N:Nat→Prop} {k:Pl.Fx} {v:Value} (h:layX w N k v):lay w N k.shape v:=by
 obtain ⟨a,cap,h1,h2⟩:=h;refine ⟨a,cap,by rw [Pl.Fx.zy2];exact h1,?_⟩
 rcases h2 with h2|⟨b',h2, -,h3⟩
 ·exact .inl (by rw [h2];rfl)
 ·exact .inr ⟨b',h2,rowX_row _ _ _ h3⟩
def zo (w:World) (N:Nat→Prop):Pl.Fx→List Value→Prop
 | .nil,xs=>xs=[]
 | .cons L k m,xs=>∃q v ys,xs= .map (some q):: .int .i64 (k.len:Int)::v::ys∧N q∧ownM w q L∧layX w N k v∧zo w N m ys
theorem yj5 {w w':World} {N N':Nat→Prop} (h:∀b,N b→b<w.heap.size→N' b∧b<w'.heap.size∧w'.heap[b]? =w.heap[b]?) (F:Pl.Fx):∀xs,zo w N F xs→zo w' N' F xs:=by
 induction F with
 |nil=>intro xs h;exact h
 |cons L k m _ ih=>
  intro xs hx;obtain ⟨q,v,ys,h1,hq,hm,h2,h3⟩:=hx;obtain ⟨q1,q2,q3⟩:=h q hq hm.lt;exact ⟨q,v,ys,h1,q1,hm.same q3,zu7 h h2,ih _ h3⟩
theorem cellsX_snoc {w:World} {N:Nat→Prop} {k:Pl.Fx} {L:List Pl.Nd} {q:Nat} {v:Value} (hq:N q) (hm:ownM w q L) (hv:layX w N k v) (F:Pl.Fx):∀xs,zo w N F xs→zo w N (F.app (.cons L k .nil)) (xs++[.map (some q), .int .i64 (k.len:Int),v]):=by
 induction F with
 |nil=>intro xs h;cases h;exact ⟨q,v,[],rfl,hq,hm,hv,rfl⟩
 |cons L' k' m _ ih=>
  intro xs hx;obtain ⟨q',v',ys,rfl,hq',hm',h2,h3⟩:=hx;exact ⟨q',v',_,rfl,hq',hm',h2,ih _ h3⟩
theorem rowX_of_cells {w:World} {N N':Nat→Prop} {g:Nat} (hN:∀b,N b→N' b) (hg:N' g) (hlt:g<w.heap.size) (F:Pl.Fx):∀ (xs:List Value) (i:Nat),zo w N F xs→(∀j u,xs[j]? =some u→w.cell? ⟨g,i+j,none⟩=some u)→rowX w N' F g i:=by
 induction F with
 |nil=>intro xs i _ _;trivial
 |cons L k m _ ih=>
  intro xs i hx hc;obtain ⟨q,v,ys,rfl,hq,hm,h2,h3⟩:=hx;obtain ⟨a,cap,rfl,h4⟩:=h2;refine ⟨⟨q,a,cap,hc 0 _ rfl,hc 1 _ rfl,hc 2 _ rfl,hlt,hg,hN q hq,hm,?_⟩,ih ys (i+3) h3 fun j u hj=>?_⟩
  ·rcases h4 with h4|⟨b',h4,h6,h5⟩
   ·exact .inl h4
   ·exact .inr ⟨b',h4,h6,zn8 (fun b hb hl=>⟨hN b hb,hl,rfl⟩) _ _ _ h5⟩
  ·have :=hc (j+3) u (by simpa using hj);rw [show i+3+j=i+(j+3) by omega];exact this
theorem yk5 {w:World} {B:Nat} {T:TypeId} {v:Value} {N:Nat→Prop} {F:Pl.Fx} {xs:List Value} (h:w.ownsRow B T 3 v F.len xs) (hc:zo w N F xs) (hN:∀b,N b→B≤b):layX w (fun b=>B≤b) F v:=by
 rcases h.2 with ⟨rfl,h0⟩|⟨g,cap,cur,rfl,hb,hg,hc2,hm,hsz,ht⟩
 ·cases F with
  |nil=>exact layX_nil _ _
  |cons L k m=>simp [Pl.Fx.len] at h0
 ·refine ⟨_,cap,rfl, .inr ⟨g,rfl,hc2,rowX_of_cells hN hb (Array.getElem?_eq_some_iff.1 hg).1 F xs 0 hc fun j u hj=>?_⟩⟩;rw [cell_of_row w g _ cur _ (0,0) hg,Nat.zero_add];rw [←ht,List.getElem?_take] at hj
  split at hj
  ·simpa using hj
  ·cases hj
end Mem
end
section
open Go.RowKit Go.Maps
namespace Mem
def mapQ:Option Value→Nat
 |some (.map (some q))=>q
 |_=>0
def rowB:Option Value→Option Nat
 |some (.slice (some p) _ _)=>some p.block
 |_=>none
def zj7 (w:World):Pl.Fx→Nat→Nat→List Nat
 | .nil,_,_=>[]
 | .cons _ k m,b,i=>mapQ (w.cell? ⟨b,i,none⟩)::((match rowB (w.cell? ⟨b,i+2,none⟩) with |some b'=>zj7 w k b' 0|none=>[])++zj7 w m b (i+3))
def zn0 (w:World) (k:Pl.Fx) (v:Value):List Nat:=match rowB (some v) with |some b'=>zj7 w k b' 0|none=>[]
def zo8 (w:World):Pl.Fx→List Value→List Nat
 | .nil,_=>[]
 | .cons _ k m,xs=>mapQ xs[0]?::(zn0 w k (xs[2]?.getD undef)++zo8 w m (xs.drop 3))
theorem zl3 {w:World} {L:List Pl.Nd} {k m:Pl.Fx} {b i q:Nat} {v:Value} (h1:w.cell? ⟨b,i,none⟩=some (.map (some q))) (h2:w.cell? ⟨b,i+2,none⟩=some v):zj7 w (.cons L k m) b i=q::(zn0 w k v++zj7 w m b (i+3)):=by
 rw [zj7,h1,h2];rfl
theorem zm4 (w:World) (v:Value):zn0 w .nil v=[]:=by
 unfold zn0
 split <;> rfl
theorem zu (w:World) (k:Pl.Fx) (b n cap:Nat):zn0 w k (.slice (some ⟨b,0,none⟩) n cap)=zj7 w k b 0:=rfl
theorem yg2 {w w':World} {N:Nat→Prop} (h:∀b,N b→b<w.heap.size→w'.heap[b]? =w.heap[b]?) (F:Pl.Fx):∀b i,rowX w N F b i→zj7 w' F b i=zj7 w F b i:=by
 induction F with
 |nil=>intro b i _;rfl
 |cons L k m ihk ihm=>
  intro b i hr;obtain ⟨⟨q,a,cap,h1,h2,h3,h4,h5,hq,hm,h6⟩,h7⟩:=hr;have c:∀j,w'.cell? ⟨b,j,none⟩=w.cell? ⟨b,j,none⟩:=fun j=>World.cell?_of_block (h b h5 h4);rw [zl3 ((c _).trans h1) ((c _).trans h3),zl3 h1 h3,ihm _ _ h7]
  rcases h6 with rfl |⟨b',rfl, -,h9⟩
  ·rw [zm4,zm4]
  ·rw [zu,zu,ihk _ _ h9]
theorem zs6 {w w':World} {N:Nat→Prop} (h:∀b,N b→b<w.heap.size→w'.heap[b]? =w.heap[b]?) {k:Pl.Fx} {v:Value} (hl:layX w N k v):zn0 w' k v=zn0 w k v:=by
 obtain ⟨a,cap,rfl,h2⟩:=hl
 rcases h2 with rfl |⟨b',rfl, -,h4⟩
 ·rw [zm4,zm4]
 ·rw [zu,zu,yg2 h _ _ _ h4]
theorem zp8 (w:World) (L:List Pl.Nd) (k m:Pl.Fx) (q:Nat) (c v:Value) (ys:List Value):zo8 w (.cons L k m) (.map (some q)::c::v::ys)=q::(zn0 w k v++zo8 w m ys):=rfl
theorem mapsC_same {w w':World} {N:Nat→Prop} (h:∀b,N b→b<w.heap.size→w'.heap[b]? =w.heap[b]?) (F:Pl.Fx):∀xs,zo w N F xs→zo8 w' F xs=zo8 w F xs:=by
 induction F with
 |nil=>intro xs _;rfl
 |cons L k m _ ih=>
  intro xs hx;obtain ⟨q,v,ys,rfl,hq,hm,h2,h3⟩:=hx;rw [zp8,zp8,zs6 h h2,ih _ h3]
theorem mapsR_in {w:World} {N:Nat→Prop} (F:Pl.Fx):∀b i,rowX w N F b i→∀j∈zj7 w F b i,N j∧j<w.heap.size:=by
 induction F with
 |nil=>intro b i _ j hj;cases hj
 |cons L k m ihk ihm=>
  intro b i hr j hj;obtain ⟨⟨q,a,cap,h1,h2,h3,h4,h5,hq,hm,h6⟩,h7⟩:=hr;rw [zl3 h1 h3] at hj
  rcases List.mem_cons.1 hj with rfl |hj
  ·exact ⟨hq,hm.lt⟩
  rcases List.mem_append.1 hj with hj|hj
  ·rcases h6 with rfl |⟨b',rfl, -,h9⟩
   ·rw [zm4] at hj;cases hj
   ·exact ihk _ _ h9 j hj
  ·exact ihm _ _ h7 j hj
theorem mapsL_in {w:World} {N:Nat→Prop} {k:Pl.Fx} {v:Value} (hl:layX w N k v):∀j∈zn0 w k v,N j∧j<w.heap.size:=by
 obtain ⟨a,cap,rfl,h2⟩:=hl
 rcases h2 with rfl |⟨b',rfl, -,h4⟩
 ·rw [zm4];intro j hj;cases hj
 ·exact mapsR_in _ _ _ h4
theorem mapsC_in {w:World} {N:Nat→Prop} (F:Pl.Fx):∀xs,zo w N F xs→∀j∈zo8 w F xs,N j∧j<w.heap.size:=by
 induction F with
 |nil=>intro xs _ j hj;cases hj
 |cons L k m _ ih=>
  intro xs hx j hj;obtain ⟨q,v,ys,rfl,hq,hm,h2,h3⟩:=hx;rw [zp8] at hj
  rcases List.mem_cons.1 hj with rfl |hj
  ·exact ⟨hq,hm.lt⟩
  rcases List.mem_append.1 hj with hj|hj
  ·exact mapsL_in h2 j hj
  ·exact ih _ h3 j hj
theorem mapsC_snoc {w:World} {N:Nat→Prop} (L:List Pl.Nd) (k:Pl.Fx) (q:Nat) (c v:Value) (F:Pl.Fx):∀xs,zo w N F xs→zo8 w (F.app (.cons L k .nil)) (xs++[.map (some q),c,v])=zo8 w F xs++q::zn0 w k v:=by
 induction F with
 |nil=>intro xs h;cases h;show zo8 w (.cons L k .nil) _=_;rw [List.nil_append,zp8];simp [zo8]
 |cons L' k' m _ ih=>
  intro xs hx;obtain ⟨q',v',ys,rfl,hq',hm',h2,h3⟩:=hx;show zo8 w (.cons L' k' (m.app _)) (.map (some q')::_::v'::(ys++_))=_;rw [zp8,zp8,ih _ h3];simp
theorem yo4 {w:World} {N:Nat→Prop} {g:Nat} (F:Pl.Fx):∀ (xs:List Value) (i:Nat),zo w N F xs→(∀j u,xs[j]? =some u→w.cell? ⟨g,i+j,none⟩=some u)→zj7 w F g i=zo8 w F xs:=by
 induction F with
 |nil=>intro xs i _ _;rfl
 |cons L k m _ ih=>
  intro xs i hx hc;obtain ⟨q,v,ys,rfl,hq,hm,h2,h3⟩:=hx;have e0:w.cell? ⟨g,i,none⟩=some (.map (some q)):=hc 0 _ rfl;rw [zl3 e0 (hc 2 _ rfl),zp8,ih ys (i+3) h3 fun j u hj=>?_];have :=hc (j+3) u (by simpa using hj);rw [show i+3+j=i+(j+3) by omega];exact this
theorem mapsL_of_row {w:World} {B:Nat} {T:TypeId} {v:Value} {N:Nat→Prop} {F:Pl.Fx} {xs:List Value} (h:w.ownsRow B T 3 v F.len xs) (hc:zo w N F xs):zn0 w F v=zo8 w F xs:=by
 rcases h.2 with ⟨rfl,h0⟩|⟨g,cap,cur,rfl,hb,hg,hc2,hm,hsz,ht⟩
 ·cases F with
  |nil=>exact zm4 _ _
  |cons L k m=>simp [Pl.Fx.len] at h0
 ·rw [zu];refine yo4 F xs 0 hc fun j u hj=>?_;rw [cell_of_row w g _ cur _ (0,0) hg,Nat.zero_add];rw [←ht,List.getElem?_take] at hj
  split at hj
  ·simpa using hj
  ·cases hj
def apart (w:World) (q:Nat) (k:Pl.Fx) (v:Value):Prop:=(q::zn0 w k v).Pairwise (· < ·)
theorem ym2 {w w':World} {N:Nat→Prop} (h:∀b,N b→b<w.heap.size→w'.heap[b]? =w.heap[b]?) {q:Nat} {k:Pl.Fx} {v:Value} (hl:layX w N k v) (ha:apart w q k v):apart w' q k v:=by
 show (q::_).Pairwise _;rw [zs6 h hl];exact ha
theorem zo3 {w w':World} {N:Nat→Prop} {q:Nat} {k:Pl.Fx} {v:Value} (hl:layX w N k v) (ha:apart w q k v) (b:Below w.heap.size w w'):apart w' q k v:=ym2 (fun j _ hj=>b.block j hj) hl ha
end Mem
end
section
open Go.RowKit Go.Maps
namespace Pl
def zd6:List Nd→Fx→List Nd
 |L, .nil=>L
 |_, .cons L k _=>zd6 L k
def setF (O:List Nd):Fx→Fx
 | .nil=> .nil
 | .cons _ .nil m=> .cons O .nil m
 | .cons L (.cons L1 k1 m1) m=> .cons L (setF O (.cons L1 k1 m1)) m
theorem zw8 (O:List Nd) (X:Fx):(setF O X).len=X.len:=by
 induction X with
 |nil=>rfl
 |cons L k m ih _=>cases k with
  |nil=>rfl
  |cons L1 k1 m1=>rfl
theorem setF_shape (O:List Nd) (X:Fx):(setF O X).shape=X.shape:=by
 induction X with
 |nil=>rfl
 |cons L k m ih _=>cases k with
  |nil=>rfl
  |cons L1 k1 m1=>rw [setF,Fx.shape,ih];rfl
theorem yf7 (L:List Nd) (X:Fx):za5 L=true→X.okX→za5 (zd6 L X)=true:=by
 induction X generalizing L with
 |nil=>intro h _;exact h
 |cons L' k m ih _=>intro _ h;exact ih L' h.1 h.2.2.2.1
end Pl
namespace Mem
def zi4 (w:World):Pl.Fx→Nat→Nat→Nat
 | .nil,_,_=>0
 | .cons _ .nil _,b,i=>mapQ (w.cell? ⟨b,i,none⟩)
 | .cons _ (.cons L1 k1 m1) _,b,i=>match rowB (w.cell? ⟨b,i+2,none⟩) with |some b'=>zi4 w (.cons L1 k1 m1) b' 0|none=>0
theorem ya7 {w:World} {q:Nat} {L:List Pl.Nd} {p:Addr} {u:Value} (h:ownM w q L) (hc:w.cell? p=some u):p.block≠q:=fun e=>by
 obtain ⟨es,clock,hb, -⟩:=h;rw [World.cell?,e,hb] at hc;simp at hc
theorem rowX_but {w:World} {N:Nat→Prop} {q:Nat} {L0:List Pl.Nd} (hq:ownM w q L0) (F:Pl.Fx):∀b i,rowX w N F b i→q∉zj7 w F b i→rowX w (fun j=>N j∧j≠q) F b i:=by
 induction F with
 |nil=>intro b i _ _;trivial
 |cons L k m ihk ihm=>
  intro b i hr hn;obtain ⟨⟨q',a,cap,h1,h2,h3,h4,h5,h6,hm,h7⟩,h8⟩:=hr;rw [zl3 h1 h3] at hn;refine ⟨⟨q',a,cap,h1,h2,h3,h4,⟨h5,ya7 hq h1⟩,⟨h6,fun e=>hn (by rw [e];exact List.mem_cons_self ..)⟩,hm,?_⟩,ihm _ _ h8 (fun e=>hn (List.mem_cons_of_mem _ (List.mem_append_right _ e)))⟩
  rcases h7 with rfl |⟨b',rfl,h9,h10⟩
  ·exact .inl rfl
  ·exact .inr ⟨b',rfl,h9,ihk _ _ h10 (fun e=>hn (List.mem_cons_of_mem _ (List.mem_append_left _ e)))⟩
theorem rowX_map {w:World} {N:Nat→Prop}:∀ (X:Pl.Fx) (b i:Nat),rowX w N X b i→∀j∈zj7 w X b i,∃L0,ownM w j L0:=by
 intro X
 induction X with
 |nil=>intro b i _ j hj;cases hj
 |cons L k m ih1 ih2=>
  intro b i hr j hj;obtain ⟨⟨q,a,cap,h1,h2,h3,h4,h5,hq,hm,h6⟩,h7⟩:=hr;rw [zl3 h1 h3] at hj
  rcases List.mem_cons.1 hj with rfl |hj
  ·exact ⟨L,hm⟩
  rcases List.mem_append.1 hj with hj|hj
  ·rcases h6 with rfl |⟨b',rfl, -,h9⟩
   ·rw [zm4] at hj;cases hj
   ·exact ih1 _ _ h9 j hj
  ·exact ih2 _ _ h7 j hj
theorem row_put {w w':World} {N:Nat→Prop} {qf:Nat} {O:List Pl.Nd} (g:w.grownBy w' (some qf)) (hO:ownM w' qf O) (F:Pl.Fx):∀b i,F≠ .nil→rowX w N F b i→(zj7 w F b i).Pairwise (· < ·)→qf=zi4 w F b i→rowX w' N (Pl.setF O F) b i∧zj7 w' (Pl.setF O F) b i=zj7 w F b i∧qf∈zj7 w F b i:=by
 have keep:∀j,N j∧j≠qf→j<w.heap.size→(N j)∧j<w'.heap.size∧w'.heap[j]? =w.heap[j]?:=fun j hj hl=>⟨hj.1,Nat.lt_of_lt_of_le hl g.size,g.block j hl (fun e=>hj.2 (Option.some.inj e))⟩
 induction F with
 |nil=>intro b i h;exact absurd rfl h
 |cons L k m ihk _=>
  intro b i _ hr ho hq;obtain ⟨⟨q,a,cap,h1,h2,h3,h4,h5,h6,hm,h7⟩,h8⟩:=hr;rw [zl3 h1 h3] at ho ⊢;cases k with
  |nil=>
   have e:qf=q:=by rw [hq,zi4,h1];rfl
   subst e
   have hnm:qf∉zj7 w m b (i+3):=fun e=>by
    have :=(List.pairwise_cons.1 ho).1 qf (List.mem_append_right _ e);omega
   have hbq:=ya7 hm h1;have hb':w'.heap[b]? =w.heap[b]?:=(keep b ⟨h5,hbq⟩ h4).2.2;have c:∀j,w'.cell? ⟨b,j,none⟩=w.cell? ⟨b,j,none⟩:=fun j=>World.cell?_of_block hb';have hbm:=rowX_but hm m b (i+3) h8 hnm;refine ⟨⟨⟨qf,a,cap,(c _).trans h1,(c _).trans h2,(c _).trans h3,Nat.lt_of_lt_of_le h4 g.size,h5,h6,hO, .inl rfl⟩,zn8 keep m b (i+3) hbm⟩,?_,List.mem_cons_self ..⟩;rw [Pl.setF,zl3 ((c _).trans h1) ((c _).trans h3),zm4,zm4,yg2 (fun j hj hl=>(keep j hj hl).2.2) m b (i+3) hbm]
  |cons L1 k1 m1=>
   rcases h7 with h7|⟨b',rfl,h9,h10⟩
   ·cases h7
   have e:qf=zi4 w (.cons L1 k1 m1) b' 0:=by rw [hq,zi4,h3];rfl
   rw [zu] at ho ⊢;have ho2:=(List.pairwise_append.1 (List.pairwise_cons.1 ho).2);obtain ⟨i1,i2,i3⟩:=ihk b' 0 (by simp) h10 ho2.1 e
   obtain ⟨L0,hL0⟩:∃L0,ownM w qf L0:=by
    exact rowX_map _ b' 0 h10 qf i3
   have hnq:q≠qf:=fun e=>by
    have :=(List.pairwise_cons.1 ho).1 qf (List.mem_append_left _ i3);omega
   have hnm:qf∉zj7 w m b (i+3):=fun e=>by
    have :=ho2.2.2 qf i3 qf e;omega
   have hbq:=ya7 hL0 h1;have hb':w'.heap[b]? =w.heap[b]?:=(keep b ⟨h5,hbq⟩ h4).2.2;have c:∀j,w'.cell? ⟨b,j,none⟩=w.cell? ⟨b,j,none⟩:=fun j=>World.cell?_of_block hb';have hbm:=rowX_but hL0 m b (i+3) h8 hnm;have hl:=Pl.zw8 O (.cons L1 k1 m1);refine ⟨⟨⟨q,some ⟨b',0,none⟩,cap,(c _).trans h1,by rw [hl];exact (c _).trans h2,by rw [hl];exact (c _).trans h3,Nat.lt_of_lt_of_le h4 g.size,h5,h6,hm.grown g (fun e=>hnq (Option.some.inj e)), .inr ⟨b',rfl,by rw [hl];exact h9,i1⟩⟩,zn8 keep m b (i+3) hbm⟩,?_,List.mem_cons_of_mem _ (List.mem_append_left _ i3)⟩;rw [Pl.setF,zl3 ((c _).trans h1) ((c _).trans h3),zu,i2,yg2 (fun j hj hl=>(keep j hj hl).2.2) m b (i+3) hbm]
theorem yd6 {w w':World} {N:Nat→Prop} (h:∀b,N b→b<w.heap.size→w'.heap[b]? =w.heap[b]?) (F:Pl.Fx):∀b i,rowX w N F b i→zi4 w' F b i=zi4 w F b i:=by
 induction F with
 |nil=>intro b i _;rfl
 |cons L k m ihk _=>
  intro b i hr;obtain ⟨⟨q,a,cap,h1,h2,h3,h4,h5,hq,hm,h6⟩,h7⟩:=hr;have c:∀j,w'.cell? ⟨b,j,none⟩=w.cell? ⟨b,j,none⟩:=fun j=>World.cell?_of_block (h b h5 h4);cases k with
  |nil=>rw [zi4,zi4,c]
  |cons L1 k1 m1=>
   rcases h6 with h6|⟨b',rfl, -,h9⟩
   ·cases h6
   rw [zi4,zi4,c,h3];exact ihk b' 0 h9
theorem firstQ_lt {w:World} {N:Nat→Prop} (F:Pl.Fx):∀b i,F≠ .nil→rowX w N F b i→zi4 w F b i<w.heap.size:=by
 induction F with
 |nil=>intro b i h;exact absurd rfl h
 |cons L k m ihk _=>
  intro b i _ hr;obtain ⟨⟨q,a,cap,h1,h2,h3,h4,h5,hq,hm,h6⟩,h7⟩:=hr;cases k with
  |nil=>rw [zi4,h1];exact hm.lt
  |cons L1 k1 m1=>
   rcases h6 with h6|⟨b',rfl, -,h9⟩
   ·cases h6
   rw [zi4,h3];exact ihk b' 0 (by simp) h9
theorem firstQ_mem {w:World} {N:Nat→Prop} (F:Pl.Fx):∀b i,F≠ .nil→rowX w N F b i→zi4 w F b i∈zj7 w F b i:=by
 induction F with
 |nil=>intro b i h;exact absurd rfl h
 |cons L k m ihk _=>
  intro b i _ hr;obtain ⟨⟨q,a,cap,h1,h2,h3,h4,h5,hq,hm,h6⟩,h7⟩:=hr;rw [zl3 h1 h3];cases k with
  |nil=>rw [zi4,h1];exact List.mem_cons_self ..
  |cons L1 k1 m1=>
   rcases h6 with h6|⟨b',rfl, -,h9⟩
   ·cases h6
   rw [zi4,h3];exact List.mem_cons_of_mem _ (List.mem_append_left _ (ihk b' 0 (by simp) h9))
def zn5 (w:World) (K:Pl.Fx) (q:Nat) (v:Value) (qf:Nat):Prop:=
 (K= .nil∧qf=q)∨(K≠ .nil∧∃b n cap,v= .slice (some ⟨b,0,none⟩) n cap∧qf=zi4 w K b 0)
theorem nest_put {w w':World} {N:Nat→Prop} {q qf:Nat} {L O:List Pl.Nd} {K:Pl.Fx} {v:Value} (h1:zn5 w K q v qf) (hl:layX w N K v) (hq:ownM w q L) (ha:apart w q K v) (g:w.grownBy w' (some qf)) (hO:ownM w' qf O):
  ∃L' K',Pl.setF O (.cons L K .nil)= .cons L' K' .nil∧ownM w' q L'∧layX w' N K' v∧K'.len=K.len:=by
 rcases h1 with ⟨rfl,rfl⟩|⟨hK,b,n,cap,rfl,hf⟩
 ·obtain ⟨a,cap,rfl, -⟩:=hl;exact ⟨O, .nil,rfl,hO,⟨a,cap,rfl, .inl rfl⟩,rfl⟩
 ·obtain ⟨a,cap',e1,h2⟩:=hl
  injection e1 with e1 e2 e3
  subst e1 e2 e3
  rcases h2 with h2|⟨b',e1,h3,h4⟩
  ·exact absurd h2 hK
  cases e1
  have ho:(q::zj7 w K b 0).Pairwise (· < ·):=ha;obtain ⟨r1,r2,r3⟩:=row_put g hO K b 0 hK h4 (List.pairwise_cons.1 ho).2 hf
  have hnq:q≠qf:=fun e=>by
   have :=(List.pairwise_cons.1 ho).1 qf r3;omega
  refine ⟨L,Pl.setF O K,?_,hq.grown g (fun e=>hnq (Option.some.inj e)),⟨_,cap,by rw [Pl.zw8], .inr ⟨b,rfl,by rw [Pl.zw8];exact h3,r1⟩⟩,Pl.zw8 O K⟩;cases K with
  |nil=>exact absurd rfl hK
  |cons L1 k1 m1=>rfl
end Mem
end
end Go.Proofs.YthdhhcgopfgcbaaGreatDoor
