/- Several texts of one claim in one file: MemNest, MapN, MemFx, MemMaps, MemNestV. -/
import Derived.Test.YtonffldjbmednaaGreatDoorG01
import Derived.Below
import Derived.Laws.AppendOwn
import Derived.Test.YtonffldjbmednaaGreatDoorG00
import Derived.Test.YtonffldjbmednaaGreatDoorProg
import Derived.Maps.OwnSet
import Derived.Test.YtonffldjbmednaaGreatDoorG02
import Derived.Test.YtonffldjbmednaaGreatDoorG03
import Derived.Test.YtonffldjbmednaaGreatDoorG07
namespace Go.Proofs.YtonffldjbmednaaGreatDoor
section
open Go.RowKit
namespace Mem
def rowF (w:World) (N:Nat→Prop):Pl.Fo→Nat→Nat→Prop
 | .nil,_,_=>True
 | .cons k m,b,i=>(∃x y a cap,w.cell? ⟨b,i,none⟩=some x∧w.cell? ⟨b,i+1,none⟩=some y∧w.cell? ⟨b,i+2,none⟩=some (.slice a k.len cap)∧b<w.heap.size∧N b∧
   (∃q,x= .map q)∧(∃q,y= .int .i64 q)∧(k= .nil∨∃b',a=some ⟨b',0,none⟩∧rowF w N k b' 0))∧rowF w N m b (i+3)
def lay (w:World) (N:Nat→Prop) (k:Pl.Fo) (v:Value):Prop:=∃a cap,v= .slice a k.len cap∧(k= .nil∨∃b',a=some ⟨b',0,none⟩∧rowF w N k b' 0)
theorem rowF_mono {w w':World} {N N':Nat→Prop} (h:∀b,N b→b<w.heap.size→N' b∧b<w'.heap.size∧w'.heap[b]? =w.heap[b]?) (F:Pl.Fo):∀b i,rowF w N F b i→rowF w' N' F b i:=by
 induction F with
 |nil=>intro b i _;trivial
 |cons k m ihk ihm=>
  intro b i hr;obtain ⟨⟨x,y,a,cap,h1,h2,h3,h4,h5,hx,hy,h6⟩,h7⟩:=hr;obtain ⟨g1,g2,g3⟩:=h b h5 h4;have c:∀j,w'.cell? ⟨b,j,none⟩=w.cell? ⟨b,j,none⟩:=fun j=>World.cell?_of_block g3;refine ⟨⟨x,y,a,cap,(c _).trans h1,(c _).trans h2,(c _).trans h3,g2,g1,hx,hy,?_⟩,ihm _ _ h7⟩
  rcases h6 with h6|⟨b',h6,h8⟩
  ·exact .inl h6
  ·exact .inr ⟨b',h6,ihk _ _ h8⟩
theorem lay_mono {w w':World} {N N':Nat→Prop} (h:∀b,N b→b<w.heap.size→N' b∧b<w'.heap.size∧w'.heap[b]? =w.heap[b]?) {k:Pl.Fo} {v:Value} (hl:lay w N k v):lay w' N' k v:=by
 obtain ⟨a,cap,h1,h2⟩:=hl;refine ⟨a,cap,h1,?_⟩
 rcases h2 with h2|⟨b',h2,h3⟩
 ·exact .inl h2
 ·exact .inr ⟨b',h2,rowF_mono h _ _ _ h3⟩
theorem lay_call {w w':World} {N:Nat→Prop} {k:Pl.Fo} {v:Value} (h:lay w N k v) (b:Below w.heap.size w w'):lay w' N k v:=lay_mono (fun g hg hl=>⟨hg,Nat.lt_of_lt_of_le hl b.size,b.block g hl⟩) h
end Mem
end
section
open Go.RowKit Go.Maps
namespace MapN
def key (p:ByteArray):Lit:= .string p.data.toList
def dat (n:Pl.Nd):DataW Unit:= .agg [.lit (.string n.path.data.toList), .lit (.int .i64 n.kind), .lit (.string n.data.data.toList), .lit (.int .i64 n.time), .lit (.int .i64 n.mark)]
theorem zo {a b:Pl.Nd} (h:dat a=dat b):a=b:=by
 obtain ⟨p,k,d,t,m⟩:=a;obtain ⟨p',k',d',t',m'⟩:=b;simp only [dat,DataW.agg.injEq,List.cons.injEq,DataW.lit.injEq,Lit.string.injEq,Lit.int.injEq,and_true,true_and] at h;obtain ⟨h1,h2,h3,h4,h5⟩:=h;have e1:p=p':=Pl.zh4 h1;have e2:d=d':=Pl.zh4 h3;subst e1 e2 h2 h4 h5;rfl
def elem:Value→Option (DataW Unit × List MemPlace)
 | .agg cs=>match cs.toList with
  | [.string p, .int .i64 k, .string d, .int .i64 t, .int .i64 m]=>some (dat ⟨p,k,d,t,m⟩,[])
  |_=>none
 |_=>none
theorem zn8 (n:Pl.Nd):elem n.val=some (dat n,[]):=rfl
theorem elem_inv {v:Value} {d:DataW Unit} {ps:List MemPlace} (h:elem v=some (d,ps)):∃n:Pl.Nd,v=n.val∧d=dat n:=by
 unfold elem at h
 split at h
 ·rename_i cs
  split at h
  ·rename_i p k d' t m hcs
   simp only [Option.some.injEq,Prod.mk.injEq] at h;refine ⟨⟨p,k,d',t,m⟩,?_,h.1.symm⟩;rw [Pl.Nd.val,show cs=cs.toList.toArray by simp,hcs]
  ·cases h
 ·cases h
def mapOf (C:List Pl.Nd):DataW Unit:=C.foldl (fun D n=>D.put (key n.path) (dat n)) (.map [])
theorem zu8 (C:List Pl.Nd) (n:Pl.Nd):mapOf (C++[n])=(mapOf C).put (key n.path) (dat n):=by simp [mapOf,List.foldl_append]
theorem zp1 (p:ByteArray):WideAt.IsKeyLit (key p):=by simp [key,WideAt.IsKeyLit]
theorem key_ne {a b:ByteArray} (h:a≠b):key a≠key b:=fun e=>h (Pl.zh4 (Lit.string.inj e))
theorem zu7:∀ (C:List Pl.Nd) (D:DataW Unit),IsMap D→IsMap (C.foldl (fun D n=>D.put (key n.path) (dat n)) D):=by
 intro C
 induction C with
 |nil=>intro D h;exact h
 |cons n C ih=>intro D h;exact ih _ (h.put _ _)
theorem zl3 (C:List Pl.Nd):IsMap (mapOf C):=zu7 C _ isMap_empty
theorem zi6 (p:ByteArray):∀ (C:List Pl.Nd) (D:DataW Unit),(∀n∈C,n.path≠p)→Maps.has (C.foldl (fun D n=>D.put (key n.path) (dat n)) D) (key p)=Maps.has D (key p)∧∀z,(C.foldl (fun D n=>D.put (key n.path) (dat n)) D).atKey (key p) z=D.atKey (key p) z:=by
 intro C
 induction C with
 |nil=>intro D _;exact ⟨rfl,fun _=>rfl⟩
 |cons n C ih=>
  intro D h;have h1:key p≠key n.path:=key_ne (fun e=>h n List.mem_cons_self e.symm);obtain ⟨i1,i2⟩:=ih (D.put (key n.path) (dat n)) (fun m hm=>h m (List.mem_cons_of_mem _ hm));refine ⟨?_,fun z=>?_⟩
  ·show Maps.has (C.foldl _ (D.put (key n.path) (dat n))) (key p)=_;rw [i1,has_put_other h1]
  ·show (C.foldl _ (D.put (key n.path) (dat n))).atKey (key p) z=_;rw [i2,atKey_put_other h1]
theorem has_no {C:List Pl.Nd} {p:ByteArray} (h:∀n∈C,n.path≠p):Maps.has (mapOf C) (key p)=false:=by
 rw [mapOf,(zi6 p C _ h).1];rfl
theorem zr6 {C:List Pl.Nd} {n:Pl.Nd} (hC:C.Pairwise (fun a b=>a.path≠b.path)) (hn:n∈C):Maps.has (mapOf C) (key n.path)=true∧∀z,(mapOf C).atKey (key n.path) z=dat n:=by
 obtain ⟨A,B,rfl⟩:=List.append_of_mem hn;rw [List.pairwise_append] at hC;have h2:=(List.pairwise_cons.1 hC.2.1).1;have e:mapOf (A++n::B)=B.foldl (fun D n=>D.put (key n.path) (dat n)) ((mapOf A).put (key n.path) (dat n)):=by simp [mapOf,List.foldl_append]
 obtain ⟨i1,i2⟩:=zi6 n.path B ((mapOf A).put (key n.path) (dat n)) (fun m hm e=>h2 m hm e.symm);rw [e];exact ⟨by rw [i1,has_put_same (zl3 A) (zp1 _)],fun z=>by rw [i2,atKey_put_same (zl3 A) (zp1 _)]⟩
theorem law:Keyed Tryz.prog 9:=string_keyed Tryz.underlying9
theorem zeroN (w:World):(zeroValue 189).run Tryz.prog w= .ok (Pl.Nd.val ⟨⟨#[]⟩,0,⟨#[]⟩,0,0⟩) w:=by kernel_rfl
theorem zk1 {p:ByteArray} (h:p.size≤maxLen):keyOf Tryz.prog 9 (.string p)=some (key p):=WideMaps.keyOf_string_mk Tryz.underlying9 h
end MapN
end
section
open Go.RowKit Go.Maps
namespace Mem
def ownM (w:World) (q:Nat) (L:List Pl.Nd):Prop:=w.ownsMap Tryz.prog 9 MapN.elem q 40 (MapN.mapOf L)
theorem ownM.lt {w:World} {q:Nat} {L:List Pl.Nd} (h:ownM w q L):q<w.heap.size:=World.ownsMap.lt h
theorem ownM.same {w w':World} {q:Nat} {L:List Pl.Nd} (h:ownM w q L) (e:w'.heap[q]? =w.heap[q]?):ownM w' q L:=by
 obtain ⟨es,clock,hb,F,hs,hD⟩:=h;exact ⟨es,clock,e.trans hb,F,hs,hD⟩
theorem ownM.call {w w':World} {q:Nat} {L:List Pl.Nd} (h:ownM w q L) (b:Below w.heap.size w w'):ownM w' q L:=h.same (b.block q h.lt)
theorem ownM.set {w:World} {q:Nat} {L:List Pl.Nd} (h:ownM w q L) (p:Addr) (u:Value) (hp:q≠p.block):ownM (w.setCell p u) q L:=h.same (heap_setCell_other _ _ _ _ hp)
theorem ownM.grown {w w':World} {q:Nat} {L:List Pl.Nd} {r:Option Nat} (h:ownM w q L) (g:w.grownBy w' r) (hr:some q≠r):ownM w' q L:=h.same (g.block q h.lt hr)
def rowX (w:World) (N:Nat→Prop):Pl.Fx→Nat→Nat→Prop
 | .nil,_,_=>True
 | .cons L k m,b,i=>(∃q a cap,w.cell? ⟨b,i,none⟩=some (.map (some q))∧w.cell? ⟨b,i+1,none⟩=some (.int .i64 (k.len:Int))∧w.cell? ⟨b,i+2,none⟩=some (.slice a k.len cap)∧b<w.heap.size∧N b∧N q∧ownM w q L∧
   (k= .nil∨∃b',a=some ⟨b',0,none⟩∧k.len≤cap∧rowX w N k b' 0))∧rowX w N m b (i+3)
def layX (w:World) (N:Nat→Prop) (k:Pl.Fx) (v:Value):Prop:=∃a cap,v= .slice a k.len cap∧(k= .nil∨∃b',a=some ⟨b',0,none⟩∧k.len≤cap∧rowX w N k b' 0)
theorem zo7 {w w':World} {N N':Nat→Prop} (h:∀b,N b→b<w.heap.size→N' b∧b<w'.heap.size∧w'.heap[b]? =w.heap[b]?) (F:Pl.Fx):∀b i,rowX w N F b i→rowX w' N' F b i:=by
 induction F with
 |nil=>intro b i _;trivial
 |cons L k m ihk ihm=>
  intro b i hr;obtain ⟨⟨q,a,cap,h1,h2,h3,h4,h5,hq,hm,h6⟩,h7⟩:=hr;obtain ⟨g1,g2,g3⟩:=h b h5 h4;obtain ⟨q1,q2,q3⟩:=h q hq hm.lt;have c:∀j,w'.cell? ⟨b,j,none⟩=w.cell? ⟨b,j,none⟩:=fun j=>World.cell?_of_block g3;refine ⟨⟨q,a,cap,(c _).trans h1,(c _).trans h2,(c _).trans h3,g2,g1,q1,hm.same q3,?_⟩,ihm _ _ h7⟩
  rcases h6 with h6|⟨b',h6,h8,h9⟩
  ·exact .inl h6
  ·exact .inr ⟨b',h6,h8,ihk _ _ h9⟩
theorem zk3 {w w':World} {N N':Nat→Prop} (h:∀b,N b→b<w.heap.size→N' b∧b<w'.heap.size∧w'.heap[b]? =w.heap[b]?) {k:Pl.Fx} {v:Value} (hl:layX w N k v):layX w' N' k v:=by
 obtain ⟨a,cap,h1,h2⟩:=hl;refine ⟨a,cap,h1,?_⟩
 rcases h2 with h2|⟨b',h2,h3,h4⟩
 ·exact .inl h2
 ·exact .inr ⟨b',h2,h3,zo7 h _ _ _ h4⟩
theorem zs1 {w w':World} {N:Nat→Prop} {F:Pl.Fx} {b i:Nat} (h:rowX w N F b i) (bb:Below w.heap.size w w'):rowX w' N F b i:=zo7 (fun g hg hl=>⟨hg,Nat.lt_of_lt_of_le hl bb.size,bb.block g hl⟩) _ _ _ h
theorem zx4 {w w':World} {N:Nat→Prop} {k:Pl.Fx} {v:Value} (h:layX w N k v) (b:Below w.heap.size w w'):layX w' N k v:=zk3 (fun g hg hl=>⟨hg,Nat.lt_of_lt_of_le hl b.size,b.block g hl⟩) h
theorem layX_weak {w:World} {N N':Nat→Prop} {k:Pl.Fx} {v:Value} (h:layX w N k v) (hn:∀b,N b→b<w.heap.size→N' b):layX w N' k v:=zk3 (fun g hg hl=>⟨hn g hg hl,hl,rfl⟩) h
theorem layX_nil (w:World) (N:Nat→Prop):layX w N .nil (.slice none 0 0):=⟨none,0,rfl, .inl rfl⟩
theorem rowX_row {w:World} {N:Nat→Prop} (F:Pl.Fx):∀b i,rowX w N F b i→rowF w N F.shape b i:=by
 induction F with
 |nil=>intro b i _;trivial
 |cons L k m ihk ihm=>
  intro b i hr;obtain ⟨⟨q,a,cap,h1,h2,h3,h4,h5,hq,hm,h6⟩,h7⟩:=hr;refine ⟨⟨_,_,a,cap,h1,h2,by rw [Pl.Fx.zx2];exact h3,h4,h5,⟨_,rfl⟩,⟨_,rfl⟩,?_⟩,ihm _ _ h7⟩
  rcases h6 with h6|⟨b',h6, -,h8⟩
  ·exact .inl (by rw [h6];rfl)
  ·exact .inr ⟨b',h6,ihk _ _ h8⟩
theorem layX_lay {w:World} {N:Nat→Prop} {k:Pl.Fx} {v:Value} (h:layX w N k v):lay w N k.shape v:=by
 obtain ⟨a,cap,h1,h2⟩:=h;refine ⟨a,cap,by rw [Pl.Fx.zx2];exact h1,?_⟩
 rcases h2 with h2|⟨b',h2, -,h3⟩
 ·exact .inl (by rw [h2];rfl)
 ·exact .inr ⟨b',h2,rowX_row _ _ _ h3⟩
def zh2 (w:World) (N:Nat→Prop):Pl.Fx→List Value→Prop
 | .nil,xs=>xs=[]
 | .cons L k m,xs=>∃q v ys,xs= .map (some q):: .int .i64 (k.len:Int)::v::ys∧N q∧ownM w q L∧layX w N k v∧zh2 w N m ys
theorem zz3 {w w':World} {N N':Nat→Prop} (h:∀b,N b→b<w.heap.size→N' b∧b<w'.heap.size∧w'.heap[b]? =w.heap[b]?) (F:Pl.Fx):∀xs,zh2 w N F xs→zh2 w' N' F xs:=by
 induction F with
 |nil=>intro xs h;exact h
 |cons L k m _ ih=>
  intro xs hx;obtain ⟨q,v,ys,h1,hq,hm,h2,h3⟩:=hx;obtain ⟨q1,q2,q3⟩:=h q hq hm.lt;exact ⟨q,v,ys,h1,q1,hm.same q3,zk3 h h2,ih _ h3⟩
theorem cellsX_snoc {w:World} {N:Nat→Prop} {k:Pl.Fx} {L:List Pl.Nd} {q:Nat} {v:Value} (hq:N q) (hm:ownM w q L) (hv:layX w N k v) (F:Pl.Fx):∀xs,zh2 w N F xs→zh2 w N (F.app (.cons L k .nil)) (xs++[.map (some q), .int .i64 (k.len:Int),v]):=by
 induction F with
 |nil=>intro xs h;cases h;exact ⟨q,v,[],rfl,hq,hm,hv,rfl⟩
 |cons L' k' m _ ih=>
  intro xs hx;obtain ⟨q',v',ys,rfl,hq',hm',h2,h3⟩:=hx;exact ⟨q',v',_,rfl,hq',hm',h2,ih _ h3⟩
theorem rowX_of_cells {w:World} {N N':Nat→Prop} {g:Nat} (hN:∀b,N b→N' b) (hg:N' g) (hlt:g<w.heap.size) (F:Pl.Fx):∀ (xs:List Value) (i:Nat),zh2 w N F xs→(∀j u,xs[j]? =some u→w.cell? ⟨g,i+j,none⟩=some u)→rowX w N' F g i:=by
 induction F with
 |nil=>intro xs i _ _;trivial
 |cons L k m _ ih=>
  intro xs i hx hc;obtain ⟨q,v,ys,rfl,hq,hm,h2,h3⟩:=hx;obtain ⟨a,cap,rfl,h4⟩:=h2;refine ⟨⟨q,a,cap,hc 0 _ rfl,hc 1 _ rfl,hc 2 _ rfl,hlt,hg,hN q hq,hm,?_⟩,ih ys (i+3) h3 fun j u hj=>?_⟩
  ·rcases h4 with h4|⟨b',h4,h6,h5⟩
   ·exact .inl h4
   ·exact .inr ⟨b',h4,h6,zo7 (fun b hb hl=>⟨hN b hb,hl,rfl⟩) _ _ _ h5⟩
  ·have :=hc (j+3) u (by simpa using hj);rw [show i+3+j=i+(j+3) by omega];exact this
theorem zz5 {w:World} {B:Nat} {T:TypeId} {v:Value} {N:Nat→Prop} {F:Pl.Fx} {xs:List Value} (h:w.ownsRow B T 3 v F.len xs) (hc:zh2 w N F xs) (hN:∀b,N b→B≤b):layX w (fun b=>B≤b) F v:=by
 rcases h.2 with ⟨rfl,h0⟩|⟨g,cap,cur,rfl,hb,hg,hc2,hm,hsz,ht⟩
 ·cases F with
  |nil=>exact layX_nil _ _
  |cons L k m=>simp [Pl.Fx.len] at h0
 ·refine ⟨_,cap,rfl, .inr ⟨g,rfl,hc2,rowX_of_cells hN hb (Array.getElem?_eq_some_iff.1 hg).1 F xs 0 hc fun j u hj=>?_⟩⟩;rw [cell_of_row w g _ cur _ (0,0) hg,Nat.zero_add];rw [←ht,List.getElem?_take] at hj
  split at hj
  ·simpa using hj
  ·cases hj
end Mem
end
section
open Go.RowKit Go.Maps
namespace Mem
def mapQ:Option Value→Nat
 |some (.map (some q))=>q
 |_=>0
def rowB:Option Value→Option Nat
 |some (.slice (some p) _ _)=>some p.block
 |_=>none
def zn1 (w:World):Pl.Fx→Nat→Nat→List Nat
 | .nil,_,_=>[]
 | .cons _ k m,b,i=>mapQ (w.cell? ⟨b,i,none⟩)::((match rowB (w.cell? ⟨b,i+2,none⟩) with |some b'=>zn1 w k b' 0|none=>[])++zn1 w m b (i+3))
def zi0 (w:World) (k:Pl.Fx) (v:Value):List Nat:=match rowB (some v) with |some b'=>zn1 w k b' 0|none=>[]
def zi1 (w:World):Pl.Fx→List Value→List Nat
 | .nil,_=>[]
 | .cons _ k m,xs=>mapQ xs[0]?::(zi0 w k (xs[2]?.getD undef)++zi1 w m (xs.drop 3))
theorem zq2 {w:World} {L:List Pl.Nd} {k m:Pl.Fx} {b i q:Nat} {v:Value} (h1:w.cell? ⟨b,i,none⟩=some (.map (some q))) (h2:w.cell? ⟨b,i+2,none⟩=some v):zn1 w (.cons L k m) b i=q::(zi0 w k v++zn1 w m b (i+3)):=by
 rw [zn1,h1,h2];rfl
theorem zk (w:World) (v:Value):zi0 w .nil v=[]:=by
 unfold zi0
 split <;> rfl
theorem zr5 (w:World) (k:Pl.Fx) (b n cap:Nat):zi0 w k (.slice (some ⟨b,0,none⟩) n cap)=zn1 w k b 0:=rfl
theorem mapsR_same {w w':World} {N:Nat→Prop} (h:∀b,N b→b<w.heap.size→w'.heap[b]? =w.heap[b]?) (F:Pl.Fx):∀b i,rowX w N F b i→zn1 w' F b i=zn1 w F b i:=by
 induction F with
 |nil=>intro b i _;rfl
 |cons L k m ihk ihm=>
  intro b i hr;obtain ⟨⟨q,a,cap,h1,h2,h3,h4,h5,hq,hm,h6⟩,h7⟩:=hr;have c:∀j,w'.cell? ⟨b,j,none⟩=w.cell? ⟨b,j,none⟩:=fun j=>World.cell?_of_block (h b h5 h4);rw [zq2 ((c _).trans h1) ((c _).trans h3),zq2 h1 h3,ihm _ _ h7]
  rcases h6 with rfl |⟨b',rfl, -,h9⟩
  ·rw [zk,zk]
  ·rw [zr5,zr5,ihk _ _ h9]
theorem zq1 {w w':World} {N:Nat→Prop} (h:∀b,N b→b<w.heap.size→w'.heap[b]? =w.heap[b]?) {k:Pl.Fx} {v:Value} (hl:layX w N k v):zi0 w' k v=zi0 w k v:=by
 obtain ⟨a,cap,rfl,h2⟩:=hl
 rcases h2 with rfl |⟨b',rfl, -,h4⟩
 ·rw [zk,zk]
 ·rw [zr5,zr5,mapsR_same h _ _ _ h4]
theorem zj0 (w:World) (L:List Pl.Nd) (k m:Pl.Fx) (q:Nat) (c v:Value) (ys:List Value):zi1 w (.cons L k m) (.map (some q)::c::v::ys)=q::(zi0 w k v++zi1 w m ys):=rfl
theorem mapsC_same {w w':World} {N:Nat→Prop} (h:∀b,N b→b<w.heap.size→w'.heap[b]? =w.heap[b]?) (F:Pl.Fx):∀xs,zh2 w N F xs→zi1 w' F xs=zi1 w F xs:=by
 induction F with
 |nil=>intro xs _;rfl
 |cons L k m _ ih=>
  intro xs hx;obtain ⟨q,v,ys,rfl,hq,hm,h2,h3⟩:=hx;rw [zj0,zj0,zq1 h h2,ih _ h3]
theorem mapsR_in {w:World} {N:Nat→Prop} (F:Pl.Fx):∀b i,rowX w N F b i→∀j∈zn1 w F b i,N j∧j<w.heap.size:=by
 induction F with
 |nil=>intro b i _ j hj;cases hj
 |cons L k m ihk ihm=>
  intro b i hr j hj;obtain ⟨⟨q,a,cap,h1,h2,h3,h4,h5,hq,hm,h6⟩,h7⟩:=hr;rw [zq2 h1 h3] at hj
  rcases List.mem_cons.1 hj with rfl |hj
  ·exact ⟨hq,hm.lt⟩
  rcases List.mem_append.1 hj with hj|hj
  ·rcases h6 with rfl |⟨b',rfl, -,h9⟩
   ·rw [zk] at hj;cases hj
   ·exact ihk _ _ h9 j hj
  ·exact ihm _ _ h7 j hj
theorem mapsL_in {w:World} {N:Nat→Prop} {k:Pl.Fx} {v:Value} (hl:layX w N k v):∀j∈zi0 w k v,N j∧j<w.heap.size:=by
 obtain ⟨a,cap,rfl,h2⟩:=hl
 rcases h2 with rfl |⟨b',rfl, -,h4⟩
 ·rw [zk];intro j hj;cases hj
 ·exact mapsR_in _ _ _ h4
theorem mapsC_in {w:World} {N:Nat→Prop} (F:Pl.Fx):∀xs,zh2 w N F xs→∀j∈zi1 w F xs,N j∧j<w.heap.size:=by
 induction F with
 |nil=>intro xs _ j hj;cases hj
 |cons L k m _ ih=>
  intro xs hx j hj;obtain ⟨q,v,ys,rfl,hq,hm,h2,h3⟩:=hx;rw [zj0] at hj
  rcases List.mem_cons.1 hj with rfl |hj
  ·exact ⟨hq,hm.lt⟩
  rcases List.mem_append.1 hj with hj|hj
  ·exact mapsL_in h2 j hj
  ·exact ih _ h3 j hj
theorem mapsC_snoc {w:World} {N:Nat→Prop} (L:List Pl.Nd) (k:Pl.Fx) (q:Nat) (c v:Value) (F:Pl.Fx):∀xs,zh2 w N F xs→zi1 w (F.app (.cons L k .nil)) (xs++[.map (some q),c,v])=zi1 w F xs++q::zi0 w k v:=by
 induction F with
 |nil=>intro xs h;cases h;show zi1 w (.cons L k .nil) _=_;rw [List.nil_append,zj0];simp [zi1]
 |cons L' k' m _ ih=>
  intro xs hx;obtain ⟨q',v',ys,rfl,hq',hm',h2,h3⟩:=hx;show zi1 w (.cons L' k' (m.app _)) (.map (some q')::_::v'::(ys++_))=_;rw [zj0,zj0,ih _ h3];simp
theorem yc2 {w:World} {N:Nat→Prop} {g:Nat} (F:Pl.Fx):∀ (xs:List Value) (i:Nat),zh2 w N F xs→(∀j u,xs[j]? =some u→w.cell? ⟨g,i+j,none⟩=some u)→zn1 w F g i=zi1 w F xs:=by
 induction F with
 |nil=>intro xs i _ _;rfl
 |cons L k m _ ih=>
  intro xs i hx hc;obtain ⟨q,v,ys,rfl,hq,hm,h2,h3⟩:=hx;have e0:w.cell? ⟨g,i,none⟩=some (.map (some q)):=hc 0 _ rfl;rw [zq2 e0 (hc 2 _ rfl),zj0,ih ys (i+3) h3 fun j u hj=>?_];have :=hc (j+3) u (by simpa using hj);rw [show i+3+j=i+(j+3) by omega];exact this
theorem mapsL_of_row {w:World} {B:Nat} {T:TypeId} {v:Value} {N:Nat→Prop} {F:Pl.Fx} {xs:List Value} (h:w.ownsRow B T 3 v F.len xs) (hc:zh2 w N F xs):zi0 w F v=zi1 w F xs:=by
 rcases h.2 with ⟨rfl,h0⟩|⟨g,cap,cur,rfl,hb,hg,hc2,hm,hsz,ht⟩
 ·cases F with
  |nil=>exact zk _ _
  |cons L k m=>simp [Pl.Fx.len] at h0
 ·rw [zr5];refine yc2 F xs 0 hc fun j u hj=>?_;rw [cell_of_row w g _ cur _ (0,0) hg,Nat.zero_add];rw [←ht,List.getElem?_take] at hj
  split at hj
  ·simpa using hj
  ·cases hj
def apart (w:World) (q:Nat) (k:Pl.Fx) (v:Value):Prop:=(q::zi0 w k v).Pairwise (· < ·)
theorem zu0 {w w':World} {N:Nat→Prop} (h:∀b,N b→b<w.heap.size→w'.heap[b]? =w.heap[b]?) {q:Nat} {k:Pl.Fx} {v:Value} (hl:layX w N k v) (ha:apart w q k v):apart w' q k v:=by
 show (q::_).Pairwise _;rw [zq1 h hl];exact ha
theorem yb3 {w w':World} {N:Nat→Prop} {q:Nat} {k:Pl.Fx} {v:Value} (hl:layX w N k v) (ha:apart w q k v) (b:Below w.heap.size w w'):apart w' q k v:=zu0 (fun j _ hj=>b.block j hj) hl ha
end Mem
end
section
open Go.RowKit Go.Maps
namespace Mem
def zh0 (w:World) (B:Nat) (x:Pl.Nv) (R:List (Int × List Pl.Nd)):Prop:=
 ∃L k q,x.m=some q∧x.n=k.len∧((B≤q∧apart w q k (.slice x.a k.len x.cap))∧ownM w q L)∧((Pl.Fx.cons L k .nil).okX∧(Pl.Fx.cons L k .nil).flat=R)∧layX w (fun b=>B≤b) k (.slice x.a k.len x.cap)
theorem zh0.same {w w':World} {B:Nat} {x:Pl.Nv} {R:List (Int × List Pl.Nd)} (h:zh0 w B x R) (hs:w.heap.size≤w'.heap.size) (hb:∀b,B≤b→b<w.heap.size→w'.heap[b]? =w.heap[b]?):zh0 w' B x R:=by
 obtain ⟨L,k,q,h1,h2,⟨⟨h3,h4⟩,h5⟩,h6,h7⟩:=h;exact ⟨L,k,q,h1,h2,⟨⟨h3,zu0 hb h7 h4⟩,h5.same (hb q h3 h5.lt)⟩,h6,zk3 (fun g hg hl=>⟨hg,Nat.lt_of_lt_of_le hl hs,hb g hg hl⟩) h7⟩
theorem zh0.call {w w':World} {B:Nat} {x:Pl.Nv} {R:List (Int × List Pl.Nd)} (h:zh0 w B x R) (b:Below w.heap.size w w'):zh0 w' B x R:=h.same b.size (fun g _ hg=>b.block g hg)
theorem zh0.grown {w w':World} {B q:Nat} {x:Pl.Nv} {R:List (Int × List Pl.Nd)} (h:zh0 w B x R) (g:w.grownBy w' (some q)) (hq:q<B):zh0 w' B x R:=h.same g.size (fun b hb hl=>g.block b hl (fun e=>by have :=Option.some.inj e;omega))
theorem zh0.mono {w:World} {B B':Nat} {x:Pl.Nv} {R:List (Int × List Pl.Nd)} (h:zh0 w B x R) (hb:B'≤B):zh0 w B' x R:=by
 obtain ⟨L,k,q,h1,h2,⟨⟨h3,h4⟩,h5⟩,h6,h7⟩:=h;exact ⟨L,k,q,h1,h2,⟨⟨by omega,h4⟩,h5⟩,h6,layX_weak h7 (fun b hb _=>by omega)⟩
def ze0 (w:World) (B:Nat) (E:List (Int × Pl.Nv)) (N:List Pl.Ns):Prop:=∀ (i:Nat) y,E[i]? =some y→∃x,N[i]? =some x∧y.1=x.d∧zh0 w B y.2 (x.Is.map Pl.It.r)
theorem ze0.call {w w':World} {B:Nat} {E:List (Int × Pl.Nv)} {N:List Pl.Ns} (h:ze0 w B E N) (b:Below w.heap.size w w'):ze0 w' B E N:=fun i y hy=>by
 obtain ⟨x,h1,h2,h3⟩:=h i y hy;exact ⟨x,h1,h2,h3.call b⟩
theorem ze0.grown {w w':World} {B q:Nat} {E:List (Int × Pl.Nv)} {N:List Pl.Ns} (h:ze0 w B E N) (g:w.grownBy w' (some q)) (hq:q<B):ze0 w' B E N:=fun i y hy=>by
 obtain ⟨x,h1,h2,h3⟩:=h i y hy;exact ⟨x,h1,h2,h3.grown g hq⟩
theorem ze0.mono {w:World} {B B':Nat} {E:List (Int × Pl.Nv)} {N:List Pl.Ns} (h:ze0 w B E N) (hb:B'≤B):ze0 w B' E N:=fun i y hy=>by
 obtain ⟨x,h1,h2,h3⟩:=h i y hy;exact ⟨x,h1,h2,h3.mono hb⟩
theorem ze0.snoc {w:World} {B:Nat} {E:List (Int × Pl.Nv)} {N:List Pl.Ns} (h:ze0 w B E N) {v:Pl.Nv} {x:Pl.Ns} (hx:N[E.length]? =some x) (hv:zh0 w B v (x.Is.map Pl.It.r)):ze0 w B (E++[(x.d,v)]) N:=fun i y hy=>by
 by_cases hi:i<E.length
 ·rw [List.getElem?_append_left hi] at hy;exact h i y hy
 ·rw [List.getElem?_append_right (by omega)] at hy;have hi2:i=E.length:=by have :=(List.getElem?_eq_some_iff.1 hy).1;simp at this;omega
  subst hi2;simp at hy
  subst hy;exact ⟨x,hx,rfl,hv⟩
end Mem
end
end Go.Proofs.YtonffldjbmednaaGreatDoor
