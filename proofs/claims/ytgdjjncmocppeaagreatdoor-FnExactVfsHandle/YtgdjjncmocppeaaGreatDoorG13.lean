/- Several texts of one claim in one file: Mem3, MemNest, MapN, MemFx, MemMaps, MemNestV, MemSpO. -/
import Derived.Test.YtgdjjncmocppeaaGreatDoorG02
import Derived.Laws.AppendOwnNone
import Derived.Test.YtgdjjncmocppeaaGreatDoorG01
import Derived.Test.YtgdjjncmocppeaaGreatDoorG06
namespace Go.Proofs.YtgdjjncmocppeaaGreatDoor
section
open Go.RowKit
namespace Pl
def Mn.cs (n:Mn):List Value:=[.string n.p, .int .i64 n.i, .bool n.z]
def Hn.cs (n:Hn):List Value:=[.int .i64 n.d, .int .i64 n.i, .string n.p]
theorem Mn.three (n:Mn):n.cs.length=3:=rfl
theorem Hn.three (n:Hn):n.cs.length=3:=rfl
def cells3 {α:Type} (cs:α→List Value) (L:List α):List Value:=L.flatMap cs
theorem yd0 {α:Type} (cs:α→List Value) (n:α) (L:List α):cells3 cs (n::L)=cs n++cells3 cs L:=by simp [cells3]
theorem zy7 {α:Type} {cs:α→List Value} (h3:∀x,(cs x).length=3) (L:List α):(cells3 cs L).length=L.length*3:=by
 induction L with
 |nil=>rfl
 |cons n L ih=>rw [yd0,List.length_append,ih,List.length_cons,h3];omega
theorem yf9 {α:Type} {cs:α→List Value} (h3:∀x,(cs x).length=3) (L:List α) (i:Nat) (n:α) (h:L[i]? =some n) (j:Nat) (hj:j<3):(cells3 cs L)[i*3+j]? =(cs n)[j]?:=by
 induction L generalizing i with
 |nil=>simp at h
 |cons m L ih=>
  rw [yd0]
  match i,h with
  |0,h=>
   simp at h;subst h
   rw [List.getElem?_append_left (by rw [h3];omega)];simp
  |i+1,h=>
   rw [List.getElem?_append_right (by rw [h3];omega),h3,show (i+1)*3+j - 3=i*3+j by omega];exact ih i (by simpa using h)
end Pl
namespace Mem
def zx1 {α:Type} (cs:α→List Value) (w:World) (a:Option Addr) (L:List α):Prop:=
 ∀ (i:Nat) x,L[i]? =some x→∃b o,a=some ⟨b,o,none⟩∧b<w.heap.size∧∀j u,(cs x)[j]? =some u→w.cell? ⟨b,o+i*3+j,none⟩=some u
theorem row_of_mounts {w:World} {a:Option Addr} {L:List Pl.Mn} (h:zb8 w a L):zx1 Pl.Mn.cs w a L:=fun i x hi=>by
 obtain ⟨b,o,h1,h2,h3,h4,h5⟩:=h i x hi;refine ⟨b,o,h1,h2,fun j u hj=>?_⟩
 match j,hj with
 |0,hj=>cases hj;exact h3
 |1,hj=>cases hj;exact h4
 |2,hj=>cases hj;exact h5
 |j+3,hj=>simp [Pl.Mn.cs] at hj
theorem row_of_hands {w:World} {a:Option Addr} {L:List Pl.Hn} (h:zd3 w a L):zx1 Pl.Hn.cs w a L:=fun i x hi=>by
 obtain ⟨b,o,h1,h2,h3,h4,h5⟩:=h i x hi;refine ⟨b,o,h1,h2,fun j u hj=>?_⟩
 match j,hj with
 |0,hj=>cases hj;exact h3
 |1,hj=>cases hj;exact h4
 |2,hj=>cases hj;exact h5
 |j+3,hj=>simp [Pl.Hn.cs] at hj
theorem ya4 {w:World} {a:Option Addr} {L:List Pl.Mn} (h:zx1 Pl.Mn.cs w a L):zb8 w a L:=fun i x hi=>by
 obtain ⟨b,o,h1,h2,h3⟩:=h i x hi;exact ⟨b,o,h1,h2,h3 0 _ rfl,h3 1 _ rfl,h3 2 _ rfl⟩
theorem yb8 {w:World} {a:Option Addr} {L:List Pl.Hn} (h:zx1 Pl.Hn.cs w a L):zd3 w a L:=fun i x hi=>by
 obtain ⟨b,o,h1,h2,h3⟩:=h i x hi;exact ⟨b,o,h1,h2,h3 0 _ rfl,h3 1 _ rfl,h3 2 _ rfl⟩
theorem cells3_at {α:Type} {cs:α→List Value} (h3:∀x,(cs x).length=3) {w:World} {g o:Nat} {M:List α} (h:zx1 cs w (some ⟨g,o,none⟩) M):∀j u,(Pl.cells3 cs M)[j]? =some u→w.cell? ((⟨g,o,none⟩:Addr).add j)=some u:=by
 intro j u hj
 have hlt:j<M.length*3:=by
  have :=(List.getElem?_eq_some_iff.1 hj).1
  rwa [Pl.zy7 h3] at this
 have hd:j / 3<M.length:=by omega
 have hx:M[j / 3]? =some M[j / 3]:=List.getElem?_eq_getElem hd;obtain ⟨b,o',e,h2,h4⟩:=h (j / 3) _ hx;cases e
 have h5:=Pl.yf9 h3 M (j / 3) _ hx (j % 3) (by omega);rw [show j / 3*3+j % 3=j by omega,hj] at h5;have h6:=h4 (j % 3) u h5.symm;rw [show o+j / 3*3+j % 3=o+j by omega] at h6;rw [Mem.zx8];exact h6
theorem cs3_one {α:Type} {cs:α→List Value} (h1:∀x,∀u∈cs x,u.oneCell'=true) (M:List α):∀u∈Pl.cells3 cs M,u.oneCell'=true:=by
 intro u hu;rw [Pl.cells3,List.mem_flatMap] at hu;obtain ⟨x, -,h⟩:=hu;exact h1 x u h
theorem mn_one (n:Pl.Mn):∀u∈n.cs,u.oneCell'=true:=by
 intro u hu;simp only [Pl.Mn.cs,List.mem_cons,List.not_mem_nil,or_false] at hu
 rcases hu with rfl |rfl |rfl <;> rfl
theorem hn_one (n:Pl.Hn):∀u∈n.cs,u.oneCell'=true:=by
 intro u hu;simp only [Pl.Hn.cs,List.mem_cons,List.not_mem_nil,or_false] at hu
 rcases hu with rfl |rfl |rfl <;> rfl
def own3 {α:Type} (T:TypeId) (cs:α→List Value) (w:World) (B:Nat) (v:Value) (L:List α):Prop:=w.ownsRow B T 3 v L.length (Pl.cells3 cs L)
theorem zy2 {α:Type} (T:TypeId) (cs:α→List Value) (w:World) (B:Nat):own3 T cs w B (.slice none 0 0) []:=⟨rfl, .inl ⟨rfl,rfl⟩⟩
theorem own3_is {α:Type} {T:TypeId} {cs:α→List Value} (h3:∀x,(cs x).length=3) {w:World} {B:Nat} {v:Value} {L:List α} (h:own3 T cs w B v L):∃a cap,v= .slice a L.length cap∧zx1 cs w a L∧L.length≤cap∧((a=none∧cap=0∧L=[])∨∃g,a=some ⟨g,0,none⟩∧B≤g∧g<w.heap.size):=by
 rcases h.2 with ⟨rfl,h0⟩|⟨g,cap,cur,rfl,hb,hg,hc,hm,hsz,ht⟩
 ·have e:=List.length_eq_zero_iff.1 h0;exact ⟨none,0,by rw [h0],fun i n hi=>by rw [e] at hi;simp at hi,by omega, .inl ⟨rfl,rfl,e⟩⟩
 ·have hgl:=(Array.getElem?_eq_some_iff.1 hg).1;refine ⟨some ⟨g,0,none⟩,cap,rfl,fun i n hi=>?_,by omega, .inr ⟨g,rfl,hb,hgl⟩⟩;have hlt:i<L.length:=(List.getElem?_eq_some_iff.1 hi).1;refine ⟨g,0,rfl,hgl,fun j u hj=>?_⟩;have hj3:j<3:=by have :=(List.getElem?_eq_some_iff.1 hj).1;rwa [h3] at this
  rw [cell_of_row w g _ cur _ (0,0) hg,Nat.zero_add,←hj,←Pl.yf9 h3 L i n hi j hj3,←ht,List.getElem?_take_of_lt (by omega),Array.getElem?_toList]
theorem zk4 {α:Type} {T:TypeId} {cs:α→List Value} {w w':World} {B:Nat} {v:Value} {L:List α} (h:own3 T cs w B v L) (b:Below w.heap.size w w'):own3 T cs w' B v L:=
 World.ownsRow.kept h (zc1 b none) (Classical.em _)
theorem own3_mono {α:Type} {T:TypeId} {cs:α→List Value} {w:World} {B B':Nat} {v:Value} {L:List α} (h:own3 T cs w B v L) (hb:B'≤B):own3 T cs w B' v L:=zy5 h hb
end Mem
end
section
open Go.RowKit
namespace Mem
def rowF (w:World) (N:Nat→Prop):Pl.Fo→Nat→Nat→Prop
 | .nil,_,_=>True
 | .cons k m,b,i=>(∃x y a cap,w.cell? ⟨b,i,none⟩=some x∧w.cell? ⟨b,i+1,none⟩=some y∧w.cell? ⟨b,i+2,none⟩=some (.slice a k.len cap)∧b<w.heap.size∧N b∧
   (∃q,x= .map q)∧(∃q,y= .int .i64 q)∧(k= .nil∨∃b',a=some ⟨b',0,none⟩∧rowF w N k b' 0))∧rowF w N m b (i+3)
def lay (w:World) (N:Nat→Prop) (k:Pl.Fo) (v:Value):Prop:=∃a cap,v= .slice a k.len cap∧(k= .nil∨∃b',a=some ⟨b',0,none⟩∧rowF w N k b' 0)
theorem rowF_mono {w w':World} {N N':Nat→Prop} (h:∀b,N b→b<w.heap.size→N' b∧b<w'.heap.size∧w'.heap[b]? =w.heap[b]?) (F:Pl.Fo):∀b i,rowF w N F b i→rowF w' N' F b i:=by
 induction F with
 |nil=>intro b i _;trivial
 |cons k m ihk ihm=>
  intro b i hr;obtain ⟨⟨x,y,a,cap,h1,h2,h3,h4,h5,hx,hy,h6⟩,h7⟩:=hr;obtain ⟨g1,g2,g3⟩:=h b h5 h4;have c:∀j,w'.cell? ⟨b,j,none⟩=w.cell? ⟨b,j,none⟩:=fun j=>World.cell?_of_block g3;refine ⟨⟨x,y,a,cap,(c _).trans h1,(c _).trans h2,(c _).trans h3,g2,g1,hx,hy,?_⟩,ihm _ _ h7⟩
  rcases h6 with h6|⟨b',h6,h8⟩
  ·exact .inl h6
  ·exact .inr ⟨b',h6,ihk _ _ h8⟩
theorem lay_mono {w w':World} {N N':Nat→Prop} (h:∀b,N b→b<w.heap.size→N' b∧b<w'.heap.size∧w'.heap[b]? =w.heap[b]?) {k:Pl.Fo} {v:Value} (hl:lay w N k v):lay w' N' k v:=by
 obtain ⟨a,cap,h1,h2⟩:=hl;refine ⟨a,cap,h1,?_⟩
 rcases h2 with h2|⟨b',h2,h3⟩
 ·exact .inl h2
 ·exact .inr ⟨b',h2,rowF_mono h _ _ _ h3⟩
theorem lay_call {w w':World} {N:Nat→Prop} {k:Pl.Fo} {v:Value} (h:lay w N k v) (b:Below w.heap.size w w'):lay w' N k v:=lay_mono (fun g hg hl=>⟨hg,Nat.lt_of_lt_of_le hl b.size,b.block g hl⟩) h
end Mem
end
section
open Go.RowKit Go.Maps
namespace MapN
def key (p:ByteArray):Lit:= .string p.data.toList
def dat (n:Pl.Nd):DataW Unit:= .agg [.lit (.string n.path.data.toList), .lit (.int .i64 n.kind), .lit (.string n.data.data.toList), .lit (.int .i64 n.time), .lit (.int .i64 n.mark)]
theorem zx6 {a b:Pl.Nd} (h:dat a=dat b):a=b:=by
 obtain ⟨p,k,d,t,m⟩:=a;obtain ⟨p',k',d',t',m'⟩:=b;simp only [dat,DataW.agg.injEq,List.cons.injEq,DataW.lit.injEq,Lit.string.injEq,Lit.int.injEq,and_true,true_and] at h;obtain ⟨h1,h2,h3,h4,h5⟩:=h;have e1:p=p':=Pl.ze5 h1;have e2:d=d':=Pl.ze5 h3;subst e1 e2 h2 h4 h5;rfl
def elem:Value→Option (DataW Unit × List MemPlace)
 | .agg cs=>match cs.toList with
  | [.string p, .int .i64 k, .string d, .int .i64 t, .int .i64 m]=>some (dat ⟨p,k,d,t,m⟩,[])
  |_=>none
 |_=>none
theorem zt6 (n:Pl.Nd):elem n.val=some (dat n,[]):=rfl
theorem elem_inv {v:Value} {d:DataW Unit} {ps:List MemPlace} (h:elem v=some (d,ps)):∃n:Pl.Nd,v=n.val∧d=dat n:=by
 unfold elem at h
 split at h
 ·rename_i cs
  split at h
  ·rename_i p k d' t m hcs
   simp only [Option.some.injEq,Prod.mk.injEq] at h;refine ⟨⟨p,k,d',t,m⟩,?_,h.1.symm⟩;rw [Pl.Nd.val,show cs=cs.toList.toArray by simp,hcs]
  ·cases h
 ·cases h
def mapOf (C:List Pl.Nd):DataW Unit:=C.foldl (fun D n=>D.put (key n.path) (dat n)) (.map [])
theorem zy9 (C:List Pl.Nd) (n:Pl.Nd):mapOf (C++[n])=(mapOf C).put (key n.path) (dat n):=by simp [mapOf,List.foldl_append]
theorem key_is (p:ByteArray):WideAt.IsKeyLit (key p):=by simp [key,WideAt.IsKeyLit]
theorem key_ne {a b:ByteArray} (h:a≠b):key a≠key b:=fun e=>h (Pl.ze5 (Lit.string.inj e))
theorem zz4:∀ (C:List Pl.Nd) (D:DataW Unit),IsMap D→IsMap (C.foldl (fun D n=>D.put (key n.path) (dat n)) D):=by
 intro C
 induction C with
 |nil=>intro D h;exact h
 |cons n C ih=>intro D h;exact ih _ (h.put _ _)
theorem zo2 (C:List Pl.Nd):IsMap (mapOf C):=zz4 C _ isMap_empty
theorem zn9 (p:ByteArray):∀ (C:List Pl.Nd) (D:DataW Unit),(∀n∈C,n.path≠p)→Maps.has (C.foldl (fun D n=>D.put (key n.path) (dat n)) D) (key p)=Maps.has D (key p)∧∀z,(C.foldl (fun D n=>D.put (key n.path) (dat n)) D).atKey (key p) z=D.atKey (key p) z:=by
 intro C
 induction C with
 |nil=>intro D _;exact ⟨rfl,fun _=>rfl⟩
 |cons n C ih=>
  intro D h;have h1:key p≠key n.path:=key_ne (fun e=>h n List.mem_cons_self e.symm);obtain ⟨i1,i2⟩:=ih (D.put (key n.path) (dat n)) (fun m hm=>h m (List.mem_cons_of_mem _ hm));refine ⟨?_,fun z=>?_⟩
  ·show Maps.has (C.foldl _ (D.put (key n.path) (dat n))) (key p)=_;rw [i1,has_put_other h1]
  ·show (C.foldl _ (D.put (key n.path) (dat n))).atKey (key p) z=_;rw [i2,atKey_put_other h1]
theorem has_no {C:List Pl.Nd} {p:ByteArray} (h:∀n∈C,n.path≠p):Maps.has (mapOf C) (key p)=false:=by
 rw [mapOf,(zn9 p C _ h).1];rfl
theorem at_yes {C:List Pl.Nd} {n:Pl.Nd} (hC:C.Pairwise (fun a b=>a.path≠b.path)) (hn:n∈C):Maps.has (mapOf C) (key n.path)=true∧∀z,(mapOf C).atKey (key n.path) z=dat n:=by
 obtain ⟨A,B,rfl⟩:=List.append_of_mem hn;rw [List.pairwise_append] at hC;have h2:=(List.pairwise_cons.1 hC.2.1).1;have e:mapOf (A++n::B)=B.foldl (fun D n=>D.put (key n.path) (dat n)) ((mapOf A).put (key n.path) (dat n)):=by simp [mapOf,List.foldl_append]
 obtain ⟨i1,i2⟩:=zn9 n.path B ((mapOf A).put (key n.path) (dat n)) (fun m hm e=>h2 m hm e.symm);rw [e];exact ⟨by rw [i1,has_put_same (zo2 A) (key_is _)],fun z=>by rw [i2,atKey_put_same (zo2 A) (key_is _)]⟩
theorem law:Keyed Tryz.prog 9:=string_keyed Tryz.underlying9
theorem za3 (w:World):(zeroValue 56).run Tryz.prog w= .ok (Pl.Nd.val ⟨⟨#[]⟩,0,⟨#[]⟩,0,0⟩) w:=by kernel_rfl
theorem zl8 {p:ByteArray} (h:p.size≤maxLen):keyOf Tryz.prog 9 (.string p)=some (key p):=WideMaps.keyOf_string_mk Tryz.underlying9 h
end MapN
end
section
open Go.RowKit Go.Maps
namespace Mem
def ownM (w:World) (q:Nat) (L:List Pl.Nd):Prop:=w.ownsMap Tryz.prog 9 MapN.elem q 40 (MapN.mapOf L)
theorem ownM.lt {w:World} {q:Nat} {L:List Pl.Nd} (h:ownM w q L):q<w.heap.size:=World.ownsMap.lt h
theorem ownM.same {w w':World} {q:Nat} {L:List Pl.Nd} (h:ownM w q L) (e:w'.heap[q]? =w.heap[q]?):ownM w' q L:=by
 obtain ⟨es,clock,hb,F,hs,hD⟩:=h;exact ⟨es,clock,e.trans hb,F,hs,hD⟩
theorem ownM.call {w w':World} {q:Nat} {L:List Pl.Nd} (h:ownM w q L) (b:Below w.heap.size w w'):ownM w' q L:=h.same (b.block q h.lt)
theorem ownM.set {w:World} {q:Nat} {L:List Pl.Nd} (h:ownM w q L) (p:Addr) (u:Value) (hp:q≠p.block):ownM (w.setCell p u) q L:=h.same (heap_setCell_other _ _ _ _ hp)
theorem ownM.grown {w w':World} {q:Nat} {L:List Pl.Nd} {r:Option Nat} (h:ownM w q L) (g:w.grownBy w' r) (hr:some q≠r):ownM w' q L:=h.same (g.block q h.lt hr)
def rowX (w:World) (N:Nat→Prop):Pl.Fx→Nat→Nat→Prop
 | .nil,_,_=>True
 | .cons L k m,b,i=>(∃q a cap,w.cell? ⟨b,i,none⟩=some (.map (some q))∧w.cell? ⟨b,i+1,none⟩=some (.int .i64 (k.len:Int))∧w.cell? ⟨b,i+2,none⟩=some (.slice a k.len cap)∧b<w.heap.size∧N b∧N q∧ownM w q L∧
   (k= .nil∨∃b',a=some ⟨b',0,none⟩∧k.len≤cap∧rowX w N k b' 0))∧rowX w N m b (i+3)
def layX (w:World) (N:Nat→Prop) (k:Pl.Fx) (v:Value):Prop:=∃a cap,v= .slice a k.len cap∧(k= .nil∨∃b',a=some ⟨b',0,none⟩∧k.len≤cap∧rowX w N k b' 0)
theorem zv9 {w w':World} {N N':Nat→Prop} (h:∀b,N b→b<w.heap.size→N' b∧b<w'.heap.size∧w'.heap[b]? =w.heap[b]?) (F:Pl.Fx):∀b i,rowX w N F b i→rowX w' N' F b i:=by
 induction F with
 |nil=>intro b i _;trivial
 |cons L k m ihk ihm=>
  intro b i hr;obtain ⟨⟨q,a,cap,h1,h2,h3,h4,h5,hq,hm,h6⟩,h7⟩:=hr;obtain ⟨g1,g2,g3⟩:=h b h5 h4;obtain ⟨q1,q2,q3⟩:=h q hq hm.lt;have c:∀j,w'.cell? ⟨b,j,none⟩=w.cell? ⟨b,j,none⟩:=fun j=>World.cell?_of_block g3;refine ⟨⟨q,a,cap,(c _).trans h1,(c _).trans h2,(c _).trans h3,g2,g1,q1,hm.same q3,?_⟩,ihm _ _ h7⟩
  rcases h6 with h6|⟨b',h6,h8,h9⟩
  ·exact .inl h6
  ·exact .inr ⟨b',h6,h8,ihk _ _ h9⟩
theorem zm3 {w w':World} {N N':Nat→Prop} (h:∀b,N b→b<w.heap.size→N' b∧b<w'.heap.size∧w'.heap[b]? =w.heap[b]?) {k:Pl.Fx} {v:Value} (hl:layX w N k v):layX w' N' k v:=by
 obtain ⟨a,cap,h1,h2⟩:=hl;refine ⟨a,cap,h1,?_⟩
 rcases h2 with h2|⟨b',h2,h3,h4⟩
 ·exact .inl h2
 ·exact .inr ⟨b',h2,h3,zv9 h _ _ _ h4⟩
theorem zs9 {w w':World} {N:Nat→Prop} {F:Pl.Fx} {b i:Nat} (h:rowX w N F b i) (bb:Below w.heap.size w w'):rowX w' N F b i:=zv9 (fun g hg hl=>⟨hg,Nat.lt_of_lt_of_le hl bb.size,bb.block g hl⟩) _ _ _ h
theorem zr9 {w w':World} {N:Nat→Prop} {k:Pl.Fx} {v:Value} (h:layX w N k v) (b:Below w.heap.size w w'):layX w' N k v:=zm3 (fun g hg hl=>⟨hg,Nat.lt_of_lt_of_le hl b.size,b.block g hl⟩) h
theorem zw1 {w:World} {N N':Nat→Prop} {k:Pl.Fx} {v:Value} (h:layX w N k v) (hn:∀b,N b→b<w.heap.size→N' b):layX w N' k v:=zm3 (fun g hg hl=>⟨hn g hg hl,hl,rfl⟩) h
theorem layX_nil (w:World) (N:Nat→Prop):layX w N .nil (.slice none 0 0):=⟨none,0,rfl, .inl rfl⟩
theorem rowX_row {w:World} {N:Nat→Prop} (F:Pl.Fx):∀b i,rowX w N F b i→rowF w N F.shape b i:=by
 induction F with
 |nil=>intro b i _;trivial
 |cons L k m ihk ihm=>
  intro b i hr;obtain ⟨⟨q,a,cap,h1,h2,h3,h4,h5,hq,hm,h6⟩,h7⟩:=hr;refine ⟨⟨_,_,a,cap,h1,h2,by rw [Pl.Fx.zv2];exact h3,h4,h5,⟨_,rfl⟩,⟨_,rfl⟩,?_⟩,ihm _ _ h7⟩
  rcases h6 with h6|⟨b',h6, -,h8⟩
  ·exact .inl (by rw [h6];rfl)
  ·exact .inr ⟨b',h6,ihk _ _ h8⟩
theorem layX_lay {w:World} {N:Nat→Prop} {k:Pl.Fx} {v:Value} (h:layX w N k v):lay w N k.shape v:=by
 obtain ⟨a,cap,h1,h2⟩:=h;refine ⟨a,cap,by rw [Pl.Fx.zv2];exact h1,?_⟩
 rcases h2 with h2|⟨b',h2, -,h3⟩
 ·exact .inl (by rw [h2];rfl)
 ·exact .inr ⟨b',h2,rowX_row _ _ _ h3⟩
def zj1 (w:World) (N:Nat→Prop):Pl.Fx→List Value→Prop
 | .nil,xs=>xs=[]
 | .cons L k m,xs=>∃q v ys,xs= .map (some q):: .int .i64 (k.len:Int)::v::ys∧N q∧ownM w q L∧layX w N k v∧zj1 w N m ys
theorem yd5 {w w':World} {N N':Nat→Prop} (h:∀b,N b→b<w.heap.size→N' b∧b<w'.heap.size∧w'.heap[b]? =w.heap[b]?) (F:Pl.Fx):∀xs,zj1 w N F xs→zj1 w' N' F xs:=by
 induction F with
 |nil=>intro xs h;exact h
 |cons L k m _ ih=>
  intro xs hx;obtain ⟨q,v,ys,h1,hq,hm,h2,h3⟩:=hx;obtain ⟨q1,q2,q3⟩:=h q hq hm.lt;exact ⟨q,v,ys,h1,q1,hm.same q3,zm3 h h2,ih _ h3⟩
theorem cellsX_snoc {w:World} {N:Nat→Prop} {k:Pl.Fx} {L:List Pl.Nd} {q:Nat} {v:Value} (hq:N q) (hm:ownM w q L) (hv:layX w N k v) (F:Pl.Fx):∀xs,zj1 w N F xs→zj1 w N (F.app (.cons L k .nil)) (xs++[.map (some q), .int .i64 (k.len:Int),v]):=by
 induction F with
 |nil=>intro xs h;cases h;exact ⟨q,v,[],rfl,hq,hm,hv,rfl⟩
 |cons L' k' m _ ih=>
  intro xs hx;obtain ⟨q',v',ys,rfl,hq',hm',h2,h3⟩:=hx;exact ⟨q',v',_,rfl,hq',hm',h2,ih _ h3⟩
theorem rowX_of_cells {w:World} {N N':Nat→Prop} {g:Nat} (hN:∀b,N b→N' b) (hg:N' g) (hlt:g<w.heap.size) (F:Pl.Fx):∀ (xs:List Value) (i:Nat),zj1 w N F xs→(∀j u,xs[j]? =some u→w.cell? ⟨g,i+j,none⟩=some u)→rowX w N' F g i:=by
 induction F with
 |nil=>intro xs i _ _;trivial
 |cons L k m _ ih=>
  intro xs i hx hc;obtain ⟨q,v,ys,rfl,hq,hm,h2,h3⟩:=hx;obtain ⟨a,cap,rfl,h4⟩:=h2;refine ⟨⟨q,a,cap,hc 0 _ rfl,hc 1 _ rfl,hc 2 _ rfl,hlt,hg,hN q hq,hm,?_⟩,ih ys (i+3) h3 fun j u hj=>?_⟩
  ·rcases h4 with h4|⟨b',h4,h6,h5⟩
   ·exact .inl h4
   ·exact .inr ⟨b',h4,h6,zv9 (fun b hb hl=>⟨hN b hb,hl,rfl⟩) _ _ _ h5⟩
  ·have :=hc (j+3) u (by simpa using hj);rw [show i+3+j=i+(j+3) by omega];exact this
theorem yc6 {w:World} {B:Nat} {T:TypeId} {v:Value} {N:Nat→Prop} {F:Pl.Fx} {xs:List Value} (h:w.ownsRow B T 3 v F.len xs) (hc:zj1 w N F xs) (hN:∀b,N b→B≤b):layX w (fun b=>B≤b) F v:=by
 rcases h.2 with ⟨rfl,h0⟩|⟨g,cap,cur,rfl,hb,hg,hc2,hm,hsz,ht⟩
 ·cases F with
  |nil=>exact layX_nil _ _
  |cons L k m=>simp [Pl.Fx.len] at h0
 ·refine ⟨_,cap,rfl, .inr ⟨g,rfl,hc2,rowX_of_cells hN hb (Array.getElem?_eq_some_iff.1 hg).1 F xs 0 hc fun j u hj=>?_⟩⟩;rw [cell_of_row w g _ cur _ (0,0) hg,Nat.zero_add];rw [←ht,List.getElem?_take] at hj
  split at hj
  ·simpa using hj
  ·cases hj
end Mem
end
section
open Go.RowKit Go.Maps
namespace Mem
def mapQ:Option Value→Nat
 |some (.map (some q))=>q
 |_=>0
def rowB:Option Value→Option Nat
 |some (.slice (some p) _ _)=>some p.block
 |_=>none
def zp4 (w:World):Pl.Fx→Nat→Nat→List Nat
 | .nil,_,_=>[]
 | .cons _ k m,b,i=>mapQ (w.cell? ⟨b,i,none⟩)::((match rowB (w.cell? ⟨b,i+2,none⟩) with |some b'=>zp4 w k b' 0|none=>[])++zp4 w m b (i+3))
def zj6 (w:World) (k:Pl.Fx) (v:Value):List Nat:=match rowB (some v) with |some b'=>zp4 w k b' 0|none=>[]
def zk (w:World):Pl.Fx→List Value→List Nat
 | .nil,_=>[]
 | .cons _ k m,xs=>mapQ xs[0]?::(zj6 w k (xs[2]?.getD undef)++zk w m (xs.drop 3))
theorem zt0 {w:World} {L:List Pl.Nd} {k m:Pl.Fx} {b i q:Nat} {v:Value} (h1:w.cell? ⟨b,i,none⟩=some (.map (some q))) (h2:w.cell? ⟨b,i+2,none⟩=some v):zp4 w (.cons L k m) b i=q::(zj6 w k v++zp4 w m b (i+3)):=by
 rw [zp4,h1,h2];rfl
theorem zm1 (w:World) (v:Value):zj6 w .nil v=[]:=by
 unfold zj6
 split <;> rfl
theorem zu9 (w:World) (k:Pl.Fx) (b n cap:Nat):zj6 w k (.slice (some ⟨b,0,none⟩) n cap)=zp4 w k b 0:=rfl
theorem mapsR_same {w w':World} {N:Nat→Prop} (h:∀b,N b→b<w.heap.size→w'.heap[b]? =w.heap[b]?) (F:Pl.Fx):∀b i,rowX w N F b i→zp4 w' F b i=zp4 w F b i:=by
 induction F with
 |nil=>intro b i _;rfl
 |cons L k m ihk ihm=>
  intro b i hr;obtain ⟨⟨q,a,cap,h1,h2,h3,h4,h5,hq,hm,h6⟩,h7⟩:=hr;have c:∀j,w'.cell? ⟨b,j,none⟩=w.cell? ⟨b,j,none⟩:=fun j=>World.cell?_of_block (h b h5 h4);rw [zt0 ((c _).trans h1) ((c _).trans h3),zt0 h1 h3,ihm _ _ h7]
  rcases h6 with rfl |⟨b',rfl, -,h9⟩
  ·rw [zm1,zm1]
  ·rw [zu9,zu9,ihk _ _ h9]
theorem zt2 {w w':World} {N:Nat→Prop} (h:∀b,N b→b<w.heap.size→w'.heap[b]? =w.heap[b]?) {k:Pl.Fx} {v:Value} (hl:layX w N k v):zj6 w' k v=zj6 w k v:=by
 obtain ⟨a,cap,rfl,h2⟩:=hl
 rcases h2 with rfl |⟨b',rfl, -,h4⟩
 ·rw [zm1,zm1]
 ·rw [zu9,zu9,mapsR_same h _ _ _ h4]
theorem zl1 (w:World) (L:List Pl.Nd) (k m:Pl.Fx) (q:Nat) (c v:Value) (ys:List Value):zk w (.cons L k m) (.map (some q)::c::v::ys)=q::(zj6 w k v++zk w m ys):=rfl
theorem mapsC_same {w w':World} {N:Nat→Prop} (h:∀b,N b→b<w.heap.size→w'.heap[b]? =w.heap[b]?) (F:Pl.Fx):∀xs,zj1 w N F xs→zk w' F xs=zk w F xs:=by
 induction F with
 |nil=>intro xs _;rfl
 |cons L k m _ ih=>
  intro xs hx;obtain ⟨q,v,ys,rfl,hq,hm,h2,h3⟩:=hx;rw [zl1,zl1,zt2 h h2,ih _ h3]
theorem mapsR_in {w:World} {N:Nat→Prop} (F:Pl.Fx):∀b i,rowX w N F b i→∀j∈zp4 w F b i,N j∧j<w.heap.size:=by
 induction F with
 |nil=>intro b i _ j hj;cases hj
 |cons L k m ihk ihm=>
  intro b i hr j hj;obtain ⟨⟨q,a,cap,h1,h2,h3,h4,h5,hq,hm,h6⟩,h7⟩:=hr;rw [zt0 h1 h3] at hj
  rcases List.mem_cons.1 hj with rfl |hj
  ·exact ⟨hq,hm.lt⟩
  rcases List.mem_append.1 hj with hj|hj
  ·rcases h6 with rfl |⟨b',rfl, -,h9⟩
   ·rw [zm1] at hj;cases hj
   ·exact ihk _ _ h9 j hj
  ·exact ihm _ _ h7 j hj
theorem mapsL_in {w:World} {N:Nat→Prop} {k:Pl.Fx} {v:Value} (hl:layX w N k v):∀j∈zj6 w k v,N j∧j<w.heap.size:=by
 obtain ⟨a,cap,rfl,h2⟩:=hl
 rcases h2 with rfl |⟨b',rfl, -,h4⟩
 ·rw [zm1];intro j hj;cases hj
 ·exact mapsR_in _ _ _ h4
theorem mapsC_in {w:World} {N:Nat→Prop} (F:Pl.Fx):∀xs,zj1 w N F xs→∀j∈zk w F xs,N j∧j<w.heap.size:=by
 induction F with
 |nil=>intro xs _ j hj;cases hj
 |cons L k m _ ih=>
  intro xs hx j hj;obtain ⟨q,v,ys,rfl,hq,hm,h2,h3⟩:=hx;rw [zl1] at hj
  rcases List.mem_cons.1 hj with rfl |hj
  ·exact ⟨hq,hm.lt⟩
  rcases List.mem_append.1 hj with hj|hj
  ·exact mapsL_in h2 j hj
  ·exact ih _ h3 j hj
theorem mapsC_snoc {w:World} {N:Nat→Prop} (L:List Pl.Nd) (k:Pl.Fx) (q:Nat) (c v:Value) (F:Pl.Fx):∀xs,zj1 w N F xs→zk w (F.app (.cons L k .nil)) (xs++[.map (some q),c,v])=zk w F xs++q::zj6 w k v:=by
 induction F with
 |nil=>intro xs h;cases h;show zk w (.cons L k .nil) _=_;rw [List.nil_append,zl1];simp [zk]
 |cons L' k' m _ ih=>
  intro xs hx;obtain ⟨q',v',ys,rfl,hq',hm',h2,h3⟩:=hx;show zk w (.cons L' k' (m.app _)) (.map (some q')::_::v'::(ys++_))=_;rw [zl1,zl1,ih _ h3];simp
theorem yg9 {w:World} {N:Nat→Prop} {g:Nat} (F:Pl.Fx):∀ (xs:List Value) (i:Nat),zj1 w N F xs→(∀j u,xs[j]? =some u→w.cell? ⟨g,i+j,none⟩=some u)→zp4 w F g i=zk w F xs:=by
 induction F with
 |nil=>intro xs i _ _;rfl
 |cons L k m _ ih=>
  intro xs i hx hc;obtain ⟨q,v,ys,rfl,hq,hm,h2,h3⟩:=hx;have e0:w.cell? ⟨g,i,none⟩=some (.map (some q)):=hc 0 _ rfl;rw [zt0 e0 (hc 2 _ rfl),zl1,ih ys (i+3) h3 fun j u hj=>?_];have :=hc (j+3) u (by simpa using hj);rw [show i+3+j=i+(j+3) by omega];exact this
theorem mapsL_of_row {w:World} {B:Nat} {T:TypeId} {v:Value} {N:Nat→Prop} {F:Pl.Fx} {xs:List Value} (h:w.ownsRow B T 3 v F.len xs) (hc:zj1 w N F xs):zj6 w F v=zk w F xs:=by
 rcases h.2 with ⟨rfl,h0⟩|⟨g,cap,cur,rfl,hb,hg,hc2,hm,hsz,ht⟩
 ·cases F with
  |nil=>exact zm1 _ _
  |cons L k m=>simp [Pl.Fx.len] at h0
 ·rw [zu9];refine yg9 F xs 0 hc fun j u hj=>?_;rw [cell_of_row w g _ cur _ (0,0) hg,Nat.zero_add];rw [←ht,List.getElem?_take] at hj
  split at hj
  ·simpa using hj
  ·cases hj
def apart (w:World) (q:Nat) (k:Pl.Fx) (v:Value):Prop:=(q::zj6 w k v).Pairwise (· < ·)
theorem zz9 {w w':World} {N:Nat→Prop} (h:∀b,N b→b<w.heap.size→w'.heap[b]? =w.heap[b]?) {q:Nat} {k:Pl.Fx} {v:Value} (hl:layX w N k v) (ha:apart w q k v):apart w' q k v:=by
 show (q::_).Pairwise _;rw [zt2 h hl];exact ha
theorem yf0 {w w':World} {N:Nat→Prop} {q:Nat} {k:Pl.Fx} {v:Value} (hl:layX w N k v) (ha:apart w q k v) (b:Below w.heap.size w w'):apart w' q k v:=zz9 (fun j _ hj=>b.block j hj) hl ha
end Mem
end
section
open Go.RowKit Go.Maps
namespace Mem
def zi3 (w:World) (B:Nat) (x:Pl.Nv) (R:List (Int × List Pl.Nd)):Prop:=
 ∃L k q,x.m=some q∧x.n=k.len∧((B≤q∧apart w q k (.slice x.a k.len x.cap))∧ownM w q L)∧((Pl.Fx.cons L k .nil).okX∧(Pl.Fx.cons L k .nil).flat=R)∧layX w (fun b=>B≤b) k (.slice x.a k.len x.cap)
theorem zi3.same {w w':World} {B:Nat} {x:Pl.Nv} {R:List (Int × List Pl.Nd)} (h:zi3 w B x R) (hs:w.heap.size≤w'.heap.size) (hb:∀b,B≤b→b<w.heap.size→w'.heap[b]? =w.heap[b]?):zi3 w' B x R:=by
 obtain ⟨L,k,q,h1,h2,⟨⟨h3,h4⟩,h5⟩,h6,h7⟩:=h;exact ⟨L,k,q,h1,h2,⟨⟨h3,zz9 hb h7 h4⟩,h5.same (hb q h3 h5.lt)⟩,h6,zm3 (fun g hg hl=>⟨hg,Nat.lt_of_lt_of_le hl hs,hb g hg hl⟩) h7⟩
theorem zi3.call {w w':World} {B:Nat} {x:Pl.Nv} {R:List (Int × List Pl.Nd)} (h:zi3 w B x R) (b:Below w.heap.size w w'):zi3 w' B x R:=h.same b.size (fun g _ hg=>b.block g hg)
theorem zi3.grown {w w':World} {B q:Nat} {x:Pl.Nv} {R:List (Int × List Pl.Nd)} (h:zi3 w B x R) (g:w.grownBy w' (some q)) (hq:q<B):zi3 w' B x R:=h.same g.size (fun b hb hl=>g.block b hl (fun e=>by have :=Option.some.inj e;omega))
theorem zi3.mono {w:World} {B B':Nat} {x:Pl.Nv} {R:List (Int × List Pl.Nd)} (h:zi3 w B x R) (hb:B'≤B):zi3 w B' x R:=by
 obtain ⟨L,k,q,h1,h2,⟨⟨h3,h4⟩,h5⟩,h6,h7⟩:=h;exact ⟨L,k,q,h1,h2,⟨⟨by omega,h4⟩,h5⟩,h6,zw1 h7 (fun b hb _=>by omega)⟩
def zh3 (w:World) (B:Nat) (E:List (Int × Pl.Nv)) (N:List Pl.Ns):Prop:=∀ (i:Nat) y,E[i]? =some y→∃x,N[i]? =some x∧y.1=x.d∧zi3 w B y.2 (x.Is.map Pl.It.r)
theorem zh3.call {w w':World} {B:Nat} {E:List (Int × Pl.Nv)} {N:List Pl.Ns} (h:zh3 w B E N) (b:Below w.heap.size w w'):zh3 w' B E N:=fun i y hy=>by
 obtain ⟨x,h1,h2,h3⟩:=h i y hy;exact ⟨x,h1,h2,h3.call b⟩
theorem zh3.grown {w w':World} {B q:Nat} {E:List (Int × Pl.Nv)} {N:List Pl.Ns} (h:zh3 w B E N) (g:w.grownBy w' (some q)) (hq:q<B):zh3 w' B E N:=fun i y hy=>by
 obtain ⟨x,h1,h2,h3⟩:=h i y hy;exact ⟨x,h1,h2,h3.grown g hq⟩
theorem zh3.mono {w:World} {B B':Nat} {E:List (Int × Pl.Nv)} {N:List Pl.Ns} (h:zh3 w B E N) (hb:B'≤B):zh3 w B' E N:=fun i y hy=>by
 obtain ⟨x,h1,h2,h3⟩:=h i y hy;exact ⟨x,h1,h2,h3.mono hb⟩
theorem zh3.snoc {w:World} {B:Nat} {E:List (Int × Pl.Nv)} {N:List Pl.Ns} (h:zh3 w B E N) {v:Pl.Nv} {x:Pl.Ns} (hx:N[E.length]? =some x) (hv:zi3 w B v (x.Is.map Pl.It.r)):zh3 w B (E++[(x.d,v)]) N:=fun i y hy=>by
 by_cases hi:i<E.length
 ·rw [List.getElem?_append_left hi] at hy;exact h i y hy
 ·rw [List.getElem?_append_right (by omega)] at hy;have hi2:i=E.length:=by have :=(List.getElem?_eq_some_iff.1 hy).1;simp at this;omega
  subst hi2;simp at hy
  subst hy;exact ⟨x,hx,rfl,hv⟩
end Mem
end
section
open Go.RowKit Go.Maps
namespace Mem
theorem zh6 {α:Type} {T:TypeId} {cs:α→List Value} {w:World} {B:Nat} {v:Value} {L:List α} (h:own3 T cs w B v L) (a:Addr) (u:Value) (ha:∀g,v.ownBlock=some g→a.block≠g):own3 T cs (w.setCell a u) B v L:=by
 refine ⟨h.1,?_⟩
 rcases h.2 with h0|⟨g,cap,cur,rfl,hb,hg,rest⟩
 ·exact .inl h0
 ·exact .inr ⟨g,cap,cur,rfl,hb,(heap_setCell_other w a g u (fun e=>ha g rfl e.symm)).trans hg,rest⟩
theorem zd4 {α:Type} {T:TypeId} {cs:α→List Value} {w:World} {B:Nat} {v:Value} {L:List α} (h:own3 T cs w B v L):∀g,v.ownBlock=some g→B≤g∧g<w.heap.size:=fun g hg=>World.ownsRow.lt h g hg
end Mem
namespace SpO
abbrev Z:Obj:= .cells #[.map none, .slice none 0 0, .slice none 0 0, .int .i64 0] 67
structure SpV (B:Nat) (W:World) (s:Pl.Sp) (q:Nat) (E:List (Int × Pl.Nv)) (ma:Option Addr) (mc:Nat) (ha:Option Addr) (hc:Nat):Prop where
 lo:B≤q
 ids:E.map (·.1)=s.N.map (·.d)
 mo:W.ownsMap Tryz.prog 2 MapI.elem q 12 (MapI.mapOf (Pl.vals E))
 nv:∃W1,Mem.zh3 W1 (q+1) E s.N∧W1.heap.size≤W.heap.size∧q<W1.heap.size∧(∀b,q<b→b<W1.heap.size→W.heap[b]? =W1.heap[b]?)∧Mem.own3 51 Pl.Mn.cs W W1.heap.size (.slice ma s.M.length mc) s.M∧Mem.own3 87 Pl.Hn.cs W W1.heap.size (.slice ha s.H.length hc) s.H
 ne:∀g,(Value.slice ma s.M.length mc).ownBlock=some g→(Value.slice ha s.H.length hc).ownBlock≠some g
theorem SpV.call {B:Nat} {W W':World} {s:Pl.Sp} {q:Nat} {E:List (Int × Pl.Nv)} {ma:Option Addr} {mc:Nat} {ha:Option Addr} {hc:Nat} (h:SpV B W s q E ma mc ha hc) (b:Below W.heap.size W W'):SpV B W' s q E ma mc ha hc:=by
 obtain ⟨h1,h2,h3,⟨W1,h4,h5,h6,h7,h8,h9⟩,h10⟩:=h;exact ⟨h1,h2,MapI.ze4 h3 b,⟨W1,h4,Nat.le_trans h5 b.size,h6,fun g hg hl=>(b.block g (by omega)).trans (h7 g hg hl),Mem.zk4 h8 b,Mem.zk4 h9 b⟩,h10⟩
theorem SpV.far {B:Nat} {W:World} {s:Pl.Sp} {q:Nat} {E:List (Int × Pl.Nv)} {ma:Option Addr} {mc:Nat} {ha:Option Addr} {hc:Nat} (h:SpV B W s q E ma mc ha hc) {Y:Nat} (k:Nat) (u:Value) (hY:Y<q):SpV B (W.setCell ⟨Y,k,none⟩ u) s q E ma mc ha hc:=by
 obtain ⟨h1,h2,h3,⟨W1,h4,h5,h6,h7,h8,h9⟩,h10⟩:=h;have g:W.grownBy (W.setCell ⟨Y,k,none⟩ u) (some Y):=⟨rfl,rfl,rfl,by rw [World.size_setCell];exact Nat.le_refl _,fun j _ hj=>heap_setCell_other _ _ _ _ (fun e=>hj (congrArg some e))⟩;refine ⟨h1,h2,h3.kept g (fun e=>by have :=Option.some.inj e;omega),⟨W1,h4,by rw [World.size_setCell];exact h5,h6,fun b hb hl=>(heap_setCell_other _ _ _ _ (by show b≠Y;omega)).trans (h7 b hb hl),Mem.zh6 h8 _ _ (fun b hb=>by have :=(Mem.zd4 h8 b hb).1;show Y≠b;omega),Mem.zh6 h9 _ _ (fun b hb=>by have :=(Mem.zd4 h9 b hb).1;show Y≠b;omega)⟩,h10⟩
theorem SpV.nests {B:Nat} {W:World} {s:Pl.Sp} {q:Nat} {E:List (Int × Pl.Nv)} {ma:Option Addr} {mc:Nat} {ha:Option Addr} {hc:Nat} (h:SpV B W s q E ma mc ha hc):Mem.zh3 W (q+1) E s.N:=by
 obtain ⟨W1,h4,h5,h6,h7,h8,h9⟩:=h.nv;intro i y hy;obtain ⟨x,k1,k2,k3⟩:=h4 i y hy;exact ⟨x,k1,k2,k3.same h5 (fun b hb hl=>h7 b (by omega) hl)⟩
theorem SpV.zk1 {B:Nat} {W:World} {s:Pl.Sp} {q:Nat} {E:List (Int × Pl.Nv)} {ma:Option Addr} {mc:Nat} {ha:Option Addr} {hc:Nat} (h:SpV B W s q E ma mc ha hc):Mem.zb8 W ma s.M:=by
 obtain ⟨W1,h4,h5,h6,h7,h8,h9⟩:=h.nv;obtain ⟨a,cap,e,hr,_⟩:=Mem.own3_is Pl.Mn.three h8;cases e
 exact Mem.ya4 hr
theorem SpV.hands {B:Nat} {W:World} {s:Pl.Sp} {q:Nat} {E:List (Int × Pl.Nv)} {ma:Option Addr} {mc:Nat} {ha:Option Addr} {hc:Nat} (h:SpV B W s q E ma mc ha hc):Mem.zd3 W ha s.H:=by
 obtain ⟨W1,h4,h5,h6,h7,h8,h9⟩:=h.nv;obtain ⟨a,cap,e,hr,_⟩:=Mem.own3_is Pl.Hn.three h9;cases e
 exact Mem.yb8 hr
structure Ps (D W:World) (eX:Option Nat) (o1 o2:Option (Option Addr × Nat)) (M:List Pl.Mn) (H:List Pl.Hn):Prop where
 bel:Below D.heap.size D W
 bx:∀X,eX=some X→Mem.Blk W X #[.map none, .slice none 0 0, .slice none 0 0, .int .i64 0] 67∧D.heap.size≤X
 q1:∀p,o1=some p→Mem.own3 51 Pl.Mn.cs W D.heap.size (.slice p.1 M.length p.2) M∧∀g,(Value.slice p.1 M.length p.2).ownBlock=some g→eX≠some g
 q2:∀p,o2=some p→Mem.own3 87 Pl.Hn.cs W D.heap.size (.slice p.1 H.length p.2) H∧∀g,(Value.slice p.1 H.length p.2).ownBlock=some g→eX≠some g∧∀p1,o1=some p1→(Value.slice p1.1 M.length p1.2).ownBlock≠some g
section
variable {D W W':World} {eX:Option Nat} {o1 o2:Option (Option Addr × Nat)} {M:List Pl.Mn} {H:List Pl.Hn}
theorem Ps.start (b:Below D.heap.size D W):Ps D W none none none M H:=⟨b,fun _ h=>(by cases h),fun _ h=>(by cases h),fun _ h=>(by cases h)⟩
theorem Ps.call (h:Ps D W eX o1 o2 M H) (b:Below W.heap.size W W'):Ps D W' eX o1 o2 M H:=
 ⟨h.bel.trans (b.mono h.bel.size),fun X e=>⟨(h.bx X e).1.call b,(h.bx X e).2⟩,fun p e=>⟨Mem.zk4 (h.q1 p e).1 b,(h.q1 p e).2⟩,fun p e=>⟨Mem.zk4 (h.q2 p e).1 b,(h.q2 p e).2⟩⟩
theorem Ps.ax (h:Ps D W none o1 o2 M H):Ps D (W.alloc Z) (some W.heap.size) o1 o2 M H:=by
 have g:=h.call ((Below.refl _ _).alloc (Nat.le_refl _) Z);refine ⟨g.bel,fun X e=>?_,fun p e=>⟨(g.q1 p e).1,fun q hq e2=>?_⟩,fun p e=>⟨(g.q2 p e).1,fun q hq=>⟨fun e2=>?_,((g.q2 p e).2 q hq).2⟩⟩⟩
 ·cases e;exact ⟨Mem.Blk.new _ _ _,h.bel.size⟩
 ·cases e2;have :=(Mem.zd4 (h.q1 p e).1 _ hq).2;omega
 ·cases e2;have :=(Mem.zd4 (h.q2 p e).1 _ hq).2;omega
theorem Ps.c1 {a:Option Addr} {c:Nat} (h:Ps D W eX none none M H) (b:Below W.heap.size W W') (o:Mem.own3 51 Pl.Mn.cs W' W.heap.size (.slice a M.length c) M):Ps D W' eX (some (a,c)) none M H:=by
 have g:=h.call b;refine ⟨g.bel,g.bx,fun p e=>?_,fun _ h=>(by cases h)⟩;cases e
 refine ⟨Mem.own3_mono o h.bel.size,fun q hq e=>?_⟩;have :=(Mem.zd4 o q hq).1;have :=(h.bx q e).1.lt;omega
theorem Ps.c2 {a:Option Addr} {c:Nat} (h:Ps D W eX o1 none M H) (b:Below W.heap.size W W') (o:Mem.own3 87 Pl.Hn.cs W' W.heap.size (.slice a H.length c) H):Ps D W' eX o1 (some (a,c)) M H:=by
 have g:=h.call b;refine ⟨g.bel,g.bx,g.q1,fun p e=>?_⟩;cases e
 refine ⟨Mem.own3_mono o h.bel.size,fun q hq=>⟨fun e=>?_,fun p1 e e1=>?_⟩⟩
 ·have :=(Mem.zd4 o q hq).1;have :=(h.bx q e).1.lt;omega
 ·have :=(Mem.zd4 o q hq).1;have :=(Mem.zd4 (h.q1 p1 e).1 q e1).2;omega
end
structure Rk (v W:World) (X q:Nat) (sa ta:Option Addr) (sc tc:Nat) (M:List Pl.Mn) (H:List Pl.Hn) (next :Int):Prop where
 bel:Below v.heap.size v W
 bx:Mem.Blk W X #[.map (some q), .slice sa M.length sc, .slice ta H.length tc, .int .i64 next] 67
 lx:v.heap.size≤X
 q1:Mem.own3 51 Pl.Mn.cs W v.heap.size (.slice sa M.length sc) M
 q2:Mem.own3 87 Pl.Hn.cs W v.heap.size (.slice ta H.length tc) H
 ne:∀g,(Value.slice sa M.length sc).ownBlock=some g→(Value.slice ta H.length tc).ownBlock≠some g
theorem Rk.call {v W W':World} {X q:Nat} {sa ta:Option Addr} {sc tc:Nat} {M:List Pl.Mn} {H:List Pl.Hn} {next :Int} (h:Rk v W X q sa ta sc tc M H next) (b:Below W.heap.size W W'):Rk v W' X q sa ta sc tc M H next :=
 ⟨h.bel.trans (b.mono h.bel.size),h.bx.call b,h.lx,Mem.zk4 h.q1 b,Mem.zk4 h.q2 b,h.ne⟩
theorem Rk.put {v W:World} {X q:Nat} {sa ta:Option Addr} {sc tc:Nat} {M:List Pl.Mn} {H:List Pl.Hn} {next :Int} (h:Rk v W X q sa ta sc tc M H next) {Y k:Nat} (u:Value) (hY:Y<v.heap.size):
  Mem.Blk (W.setCell ⟨Y,k,none⟩ u) X #[.map (some q), .slice sa M.length sc, .slice ta H.length tc, .int .i64 next] 67∧Mem.own3 51 Pl.Mn.cs (W.setCell ⟨Y,k,none⟩ u) v.heap.size (.slice sa M.length sc) M∧Mem.own3 87 Pl.Hn.cs (W.setCell ⟨Y,k,none⟩ u) v.heap.size (.slice ta H.length tc) H:=
 ⟨h.bx.far _ _ (by have :=h.lx;show X≠Y;omega),Mem.zh6 h.q1 _ _ (fun g hg=>by have :=(Mem.zd4 h.q1 g hg).1;show Y≠g;omega),Mem.zh6 h.q2 _ _ (fun g hg=>by have :=(Mem.zd4 h.q2 g hg).1;show Y≠g;omega)⟩
theorem Ps.fin {D W:World} {X q:Nat} {sa ta:Option Addr} {sc tc:Nat} {M:List Pl.Mn} {H:List Pl.Hn} (h:Ps D W (some X) (some (sa,sc)) (some (ta,tc)) M H) (next :Int):
  Rk D ((((W.setCell ⟨X,0,none⟩ (.map (some q))).setCell ⟨X,1,none⟩ (.slice sa M.length sc)).setCell ⟨X,2,none⟩ (.slice ta H.length tc)).setCell ⟨X,3,none⟩ (.int .i64 next)) X q sa ta sc tc M H next :=by
 obtain ⟨h5,l5⟩:=h.bx _ rfl;obtain ⟨o1,n1⟩:=h.q1 _ rfl;obtain ⟨o2,n2⟩:=h.q2 _ rfl;refine ⟨(((h.bel.setCell l5 _).setCell l5 _).setCell l5 _).setCell l5 _,(((h5.put 0 _).put 1 _).put 2 _).put 3 _,l5,?_,?_,fun g hg e=>(n2 g e).2 _ rfl hg⟩
 ·exact Mem.zh6 (Mem.zh6 (Mem.zh6 (Mem.zh6 o1 _ _ (fun g hg e=>n1 g hg (congrArg some e))) _ _ (fun g hg e=>n1 g hg (congrArg some e))) _ _ (fun g hg e=>n1 g hg (congrArg some e))) _ _ (fun g hg e=>n1 g hg (congrArg some e))
 ·exact Mem.zh6 (Mem.zh6 (Mem.zh6 (Mem.zh6 o2 _ _ (fun g hg e=>(n2 g hg).1 (congrArg some e))) _ _ (fun g hg e=>(n2 g hg).1 (congrArg some e))) _ _ (fun g hg e=>(n2 g hg).1 (congrArg some e))) _ _ (fun g hg e=>(n2 g hg).1 (congrArg some e))
theorem meet {P F:World→Nat→Option Addr→Nat→Option Addr→Nat→Prop} {G:Prop} (h1:(∀W X sa sc ta tc,F W X sa sc ta tc→P W X sa sc ta tc)→G) (h2:∀W X sa sc ta tc,F W X sa sc ta tc→P W X sa sc ta tc):G:=h1 h2
end SpO
end
end Go.Proofs.YtgdjjncmocppeaaGreatDoor
