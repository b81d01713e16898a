/- Several texts of one claim in one file: Mem3, MemNest, MapN, MemFx. -/
import Derived.Test.YtggadpalljhiaaaGreatDoorG05
import Derived.Test.YtggadpalljhiaaaGreatDoorG04
import Derived.Laws.AppendOwnNone
import Derived.Test.YtggadpalljhiaaaGreatDoorG02
import Derived.Below
import Derived.Laws.AppendOwn
import Derived.Test.YtggadpalljhiaaaGreatDoorG01
import Derived.Test.YtggadpalljhiaaaGreatDoorG00
import Derived.Test.YtggadpalljhiaaaGreatDoorProg
import Derived.Maps.OwnSet
import Derived.Test.YtggadpalljhiaaaGreatDoorG03
namespace Go.Proofs.YtggadpalljhiaaaGreatDoor
section
open Go.RowKit
namespace Pl
def Mn.cs (n:Mn):List Value:=[.string n.p, .int .i64 n.i, .bool n.z]
def Hn.cs (n:Hn):List Value:=[.int .i64 n.d, .int .i64 n.i, .string n.p]
theorem Mn.three (n:Mn):n.cs.length=3:=rfl
theorem Hn.three (n:Hn):n.cs.length=3:=rfl
def cells3 {α:Type} (cs:α→List Value) (L:List α):List Value:=L.flatMap cs
theorem zf4 {α:Type} (cs:α→List Value) (n:α) (L:List α):cells3 cs (n::L)=cs n++cells3 cs L:=by simp [cells3]
theorem zu9 {α:Type} (cs:α→List Value) (L M:List α):cells3 cs (L++M)=cells3 cs L++cells3 cs M:=by simp [cells3]
theorem yb9 {α:Type} (cs:α→List Value) (n:α):cells3 cs [n]=cs n:=by simp [cells3]
theorem zm7 {α:Type} {cs:α→List Value} (h3:∀x,(cs x).length=3) (L:List α) (i:Nat) (n:α) (h:L[i]? =some n) (j:Nat) (hj:j<3):(cells3 cs L)[i*3+j]? =(cs n)[j]?:=by
 induction L generalizing i with
 |nil=>simp at h
 |cons m L ih=>
  rw [zf4]
  match i,h with
  |0,h=>
   simp at h;subst h
   rw [List.getElem?_append_left (by rw [h3];omega)];simp
  |i+1,h=>
   rw [List.getElem?_append_right (by rw [h3];omega),h3,show (i+1)*3+j - 3=i*3+j by omega];exact ih i (by simpa using h)
end Pl
namespace Mem
def zr3 {α:Type} (cs:α→List Value) (w:World) (a:Option Addr) (L:List α):Prop:=
 ∀ (i:Nat) x,L[i]? =some x→∃b o,a=some ⟨b,o,none⟩∧b<w.heap.size∧∀j u,(cs x)[j]? =some u→w.cell? ⟨b,o+i*3+j,none⟩=some u
theorem zj3 {w:World} {a:Option Addr} {L:List Pl.Mn} (h:zr3 Pl.Mn.cs w a L):zb2 w a L:=fun i x hi=>by
 obtain ⟨b,o,h1,h2,h3⟩:=h i x hi;exact ⟨b,o,h1,h2,h3 0 _ rfl,h3 1 _ rfl,h3 2 _ rfl⟩
theorem zf5 {w:World} {a:Option Addr} {L:List Pl.Hn} (h:zr3 Pl.Hn.cs w a L):zb9 w a L:=fun i x hi=>by
 obtain ⟨b,o,h1,h2,h3⟩:=h i x hi;exact ⟨b,o,h1,h2,h3 0 _ rfl,h3 1 _ rfl,h3 2 _ rfl⟩
def own3 {α:Type} (T:TypeId) (cs:α→List Value) (w:World) (B:Nat) (v:Value) (L:List α):Prop:=w.ownsRow B T 3 v L.length (Pl.cells3 cs L)
theorem zv0 {α:Type} (T:TypeId) (cs:α→List Value) (w:World) (B:Nat):own3 T cs w B (.slice none 0 0) []:=⟨rfl, .inl ⟨rfl,rfl⟩⟩
theorem zf7 {α:Type} {T:TypeId} {cs:α→List Value} (h3:∀x,(cs x).length=3) {w:World} {B:Nat} {v:Value} {L:List α} (h:own3 T cs w B v L):∃a cap,v= .slice a L.length cap∧zr3 cs w a L∧L.length≤cap∧((a=none∧cap=0∧L=[])∨∃g,a=some ⟨g,0,none⟩∧B≤g∧g<w.heap.size):=by
 rcases h.2 with ⟨rfl,h0⟩|⟨g,cap,cur,rfl,hb,hg,hc,hm,hsz,ht⟩
 ·have e:=List.length_eq_zero_iff.1 h0;exact ⟨none,0,by rw [h0],fun i n hi=>by rw [e] at hi;simp at hi,by omega, .inl ⟨rfl,rfl,e⟩⟩
 ·have hgl:=(Array.getElem?_eq_some_iff.1 hg).1;refine ⟨some ⟨g,0,none⟩,cap,rfl,fun i n hi=>?_,by omega, .inr ⟨g,rfl,hb,hgl⟩⟩;have hlt:i<L.length:=(List.getElem?_eq_some_iff.1 hi).1;refine ⟨g,0,rfl,hgl,fun j u hj=>?_⟩;have hj3:j<3:=by have :=(List.getElem?_eq_some_iff.1 hj).1;rwa [h3] at this
  rw [cell_of_row w g _ cur _ (0,0) hg,Nat.zero_add,←hj,←Pl.zm7 h3 L i n hi j hj3,←ht,List.getElem?_take_of_lt (by omega),Array.getElem?_toList]
theorem zc0 {α:Type} {T:TypeId} {cs:α→List Value} {w w':World} {B:Nat} {v:Value} {L:List α} (h:own3 T cs w B v L) (b:Below w.heap.size w w'):own3 T cs w' B v L:=
 World.ownsRow.kept h (zb8 b none) (Classical.em _)
theorem zg5 {α:Type} {T:TypeId} {cs:α→List Value} {w:World} {B B':Nat} {v:Value} {L:List α} (h:own3 T cs w B v L) (hb:B'≤B):own3 T cs w B' v L:=own_mono h hb
end Mem
end
section
open Go.RowKit
namespace Mem
def rowF (w:World) (N:Nat→Prop):Pl.Fo→Nat→Nat→Prop
 | .nil,_,_=>True
 | .cons k m,b,i=>(∃x y a cap,w.cell? ⟨b,i,none⟩=some x∧w.cell? ⟨b,i+1,none⟩=some y∧w.cell? ⟨b,i+2,none⟩=some (.slice a k.len cap)∧b<w.heap.size∧N b∧
   (∃q,x= .map q)∧(∃q,y= .int .i64 q)∧(k= .nil∨∃b',a=some ⟨b',0,none⟩∧rowF w N k b' 0))∧rowF w N m b (i+3)
def lay (w:World) (N:Nat→Prop) (k:Pl.Fo) (v:Value):Prop:=∃a cap,v= .slice a k.len cap∧(k= .nil∨∃b',a=some ⟨b',0,none⟩∧rowF w N k b' 0)
theorem rowF_mono {w w':World} {N N':Nat→Prop} (h:∀b,N b→b<w.heap.size→N' b∧b<w'.heap.size∧w'.heap[b]? =w.heap[b]?) (F:Pl.Fo):∀b i,rowF w N F b i→rowF w' N' F b i:=by
 induction F with
 |nil=>intro b i _;trivial
 |cons k m ihk ihm=>
  intro b i hr;obtain ⟨⟨x,y,a,cap,h1,h2,h3,h4,h5,hx,hy,h6⟩,h7⟩:=hr;obtain ⟨g1,g2,g3⟩:=h b h5 h4;have c:∀j,w'.cell? ⟨b,j,none⟩=w.cell? ⟨b,j,none⟩:=fun j=>World.cell?_of_block g3;refine ⟨⟨x,y,a,cap,(c _).trans h1,(c _).trans h2,(c _).trans h3,g2,g1,hx,hy,?_⟩,ihm _ _ h7⟩
  rcases h6 with h6|⟨b',h6,h8⟩
  ·exact .inl h6
  ·exact .inr ⟨b',h6,ihk _ _ h8⟩
theorem lay_mono {w w':World} {N N':Nat→Prop} (h:∀b,N b→b<w.heap.size→N' b∧b<w'.heap.size∧w'.heap[b]? =w.heap[b]?) {k:Pl.Fo} {v:Value} (hl:lay w N k v):lay w' N' k v:=by
 obtain ⟨a,cap,h1,h2⟩:=hl;refine ⟨a,cap,h1,?_⟩
 rcases h2 with h2|⟨b',h2,h3⟩
 ·exact .inl h2
 ·exact .inr ⟨b',h2,rowF_mono h _ _ _ h3⟩
theorem lay_call {w w':World} {N:Nat→Prop} {k:Pl.Fo} {v:Value} (h:lay w N k v) (b:Below w.heap.size w w'):lay w' N k v:=lay_mono (fun g hg hl=>⟨hg,Nat.lt_of_lt_of_le hl b.size,b.block g hl⟩) h
end Mem
end
section
open Go.RowKit Go.Maps
namespace MapN
def key (p:ByteArray):Lit:= .string p.data.toList
def dat (n:Pl.Nd):DataW Unit:= .agg [.lit (.string n.path.data.toList), .lit (.int .i64 n.kind), .lit (.string n.data.data.toList), .lit (.int .i64 n.time), .lit (.int .i64 n.mark)]
theorem zo {a b:Pl.Nd} (h:dat a=dat b):a=b:=by
 obtain ⟨p,k,d,t,m⟩:=a;obtain ⟨p',k',d',t',m'⟩:=b;simp only [dat,DataW.agg.injEq,List.cons.injEq,DataW.lit.injEq,Lit.string.injEq,Lit.int.injEq,and_true,true_and] at h;obtain ⟨h1,h2,h3,h4,h5⟩:=h;have e1:p=p':=Pl.zh4 h1;have e2:d=d':=Pl.zh4 h3;subst e1 e2 h2 h4 h5;rfl
def elem:Value→Option (DataW Unit × List MemPlace)
 | .agg cs=>match cs.toList with
  | [.string p, .int .i64 k, .string d, .int .i64 t, .int .i64 m]=>some (dat ⟨p,k,d,t,m⟩,[])
  |_=>none
 |_=>none
theorem zn8 (n:Pl.Nd):elem n.val=some (dat n,[]):=rfl
theorem elem_inv {v:Value} {d:DataW Unit} {ps:List MemPlace} (h:elem v=some (d,ps)):∃n:Pl.Nd,v=n.val∧d=dat n:=by
 unfold elem at h
 split at h
 ·rename_i cs
  split at h
  ·rename_i p k d' t m hcs
   simp only [Option.some.injEq,Prod.mk.injEq] at h;refine ⟨⟨p,k,d',t,m⟩,?_,h.1.symm⟩;rw [Pl.Nd.val,show cs=cs.toList.toArray by simp,hcs]
  ·cases h
 ·cases h
def mapOf (C:List Pl.Nd):DataW Unit:=C.foldl (fun D n=>D.put (key n.path) (dat n)) (.map [])
theorem zu8 (C:List Pl.Nd) (n:Pl.Nd):mapOf (C++[n])=(mapOf C).put (key n.path) (dat n):=by simp [mapOf,List.foldl_append]
theorem zp1 (p:ByteArray):WideAt.IsKeyLit (key p):=by simp [key,WideAt.IsKeyLit]
theorem key_ne {a b:ByteArray} (h:a≠b):key a≠key b:=fun e=>h (Pl.zh4 (Lit.string.inj e))
theorem zu7:∀ (C:List Pl.Nd) (D:DataW Unit),IsMap D→IsMap (C.foldl (fun D n=>D.put (key n.path) (dat n)) D):=by
 intro C
 induction C with
 |nil=>intro D h;exact h
 |cons n C ih=>intro D h;exact ih _ (h.put _ _)
theorem zl3 (C:List Pl.Nd):IsMap (mapOf C):=zu7 C _ isMap_empty
theorem zi6 (p:ByteArray):∀ (C:List Pl.Nd) (D:DataW Unit),(∀n∈C,n.path≠p)→Maps.has (C.foldl (fun D n=>D.put (key n.path) (dat n)) D) (key p)=Maps.has D (key p)∧∀z,(C.foldl (fun D n=>D.put (key n.path) (dat n)) D).atKey (key p) z=D.atKey (key p) z:=by
 intro C
 induction C with
 |nil=>intro D _;exact ⟨rfl,fun _=>rfl⟩
 |cons n C ih=>
  intro D h;have h1:key p≠key n.path:=key_ne (fun e=>h n List.mem_cons_self e.symm);obtain ⟨i1,i2⟩:=ih (D.put (key n.path) (dat n)) (fun m hm=>h m (List.mem_cons_of_mem _ hm));refine ⟨?_,fun z=>?_⟩
  ·show Maps.has (C.foldl _ (D.put (key n.path) (dat n))) (key p)=_;rw [i1,has_put_other h1]
  ·show (C.foldl _ (D.put (key n.path) (dat n))).atKey (key p) z=_;rw [i2,atKey_put_other h1]
theorem has_no {C:List Pl.Nd} {p:ByteArray} (h:∀n∈C,n.path≠p):Maps.has (mapOf C) (key p)=false:=by
 rw [mapOf,(zi6 p C _ h).1];rfl
theorem zr6 {C:List Pl.Nd} {n:Pl.Nd} (hC:C.Pairwise (fun a b=>a.path≠b.path)) (hn:n∈C):Maps.has (mapOf C) (key n.path)=true∧∀z,(mapOf C).atKey (key n.path) z=dat n:=by
 obtain ⟨A,B,rfl⟩:=List.append_of_mem hn;rw [List.pairwise_append] at hC;have h2:=(List.pairwise_cons.1 hC.2.1).1;have e:mapOf (A++n::B)=B.foldl (fun D n=>D.put (key n.path) (dat n)) ((mapOf A).put (key n.path) (dat n)):=by simp [mapOf,List.foldl_append]
 obtain ⟨i1,i2⟩:=zi6 n.path B ((mapOf A).put (key n.path) (dat n)) (fun m hm e=>h2 m hm e.symm);rw [e];exact ⟨by rw [i1,has_put_same (zl3 A) (zp1 _)],fun z=>by rw [i2,atKey_put_same (zl3 A) (zp1 _)]⟩
theorem law:Keyed Tryz.prog 9:=string_keyed Tryz.underlying9
theorem zeroN (w:World):(zeroValue 106).run Tryz.prog w= .ok (Pl.Nd.val ⟨⟨#[]⟩,0,⟨#[]⟩,0,0⟩) w:=by kernel_rfl
theorem zk1 {p:ByteArray} (h:p.size≤maxLen):keyOf Tryz.prog 9 (.string p)=some (key p):=WideMaps.keyOf_string_mk Tryz.underlying9 h
end MapN
end
section
open Go.RowKit Go.Maps
namespace Mem
def ownM (w:World) (q:Nat) (L:List Pl.Nd):Prop:=w.ownsMap Tryz.prog 9 MapN.elem q 40 (MapN.mapOf L)
theorem ownM.lt {w:World} {q:Nat} {L:List Pl.Nd} (h:ownM w q L):q<w.heap.size:=World.ownsMap.lt h
theorem ownM.same {w w':World} {q:Nat} {L:List Pl.Nd} (h:ownM w q L) (e:w'.heap[q]? =w.heap[q]?):ownM w' q L:=by
 obtain ⟨es,clock,hb,F,hs,hD⟩:=h;exact ⟨es,clock,e.trans hb,F,hs,hD⟩
theorem ownM.call {w w':World} {q:Nat} {L:List Pl.Nd} (h:ownM w q L) (b:Below w.heap.size w w'):ownM w' q L:=h.same (b.block q h.lt)
theorem ownM.set {w:World} {q:Nat} {L:List Pl.Nd} (h:ownM w q L) (p:Addr) (u:Value) (hp:q≠p.block):ownM (w.setCell p u) q L:=h.same (heap_setCell_other _ _ _ _ hp)
theorem ownM.grown {w w':World} {q:Nat} {L:List Pl.Nd} {r:Option Nat} (h:ownM w q L) (g:w.grownBy w' r) (hr:some q≠r):ownM w' q L:=h.same (g.block q h.lt hr)
def rowX (w:World) (N:Nat→Prop):Pl.Fx→Nat→Nat→Prop
 | .nil,_,_=>True
 | .cons L k m,b,i=>(∃q a cap,w.cell? ⟨b,i,none⟩=some (.map (some q))∧w.cell? ⟨b,i+1,none⟩=some (.int .i64 (k.len:Int))∧w.cell? ⟨b,i+2,none⟩=some (.slice a k.len cap)∧b<w.heap.size∧N b∧N q∧ownM w q L∧
   (k= .nil∨∃b',a=some ⟨b',0,none⟩∧k.len≤cap∧rowX w N k b' 0))∧rowX w N m b (i+3)
def layX (w:World) (N:Nat→Prop) (k:Pl.Fx) (v:Value):Prop:=∃a cap,v= .slice a k.len cap∧(k= .nil∨∃b',a=some ⟨b',0,none⟩∧k.len≤cap∧rowX w N k b' 0)
theorem zo7 {w w':World} {N N':Nat→Prop} (h:∀b,N b→b<w.heap.size→N' b∧b<w'.heap.size∧w'.heap[b]? =w.heap[b]?) (F:Pl.Fx):∀b i,rowX w N F b i→rowX w' N' F b i:=by
 induction F with
 |nil=>intro b i _;trivial
 |cons L k m ihk ihm=>
  intro b i hr;obtain ⟨⟨q,a,cap,h1,h2,h3,h4,h5,hq,hm,h6⟩,h7⟩:=hr;obtain ⟨g1,g2,g3⟩:=h b h5 h4;obtain ⟨q1,q2,q3⟩:=h q hq hm.lt;have c:∀j,w'.cell? ⟨b,j,none⟩=w.cell? ⟨b,j,none⟩:=fun j=>World.cell?_of_block g3;refine ⟨⟨q,a,cap,(c _).trans h1,(c _).trans h2,(c _).trans h3,g2,g1,q1,hm.same q3,?_⟩,ihm _ _ h7⟩
  rcases h6 with h6|⟨b',h6,h8,h9⟩
  ·exact .inl h6
  ·exact .inr ⟨b',h6,h8,ihk _ _ h9⟩
theorem zk3 {w w':World} {N N':Nat→Prop} (h:∀b,N b→b<w.heap.size→N' b∧b<w'.heap.size∧w'.heap[b]? =w.heap[b]?) {k:Pl.Fx} {v:Value} (hl:layX w N k v):layX w' N' k v:=by
 obtain ⟨a,cap,h1,h2⟩:=hl;refine ⟨a,cap,h1,?_⟩
 rcases h2 with h2|⟨b',h2,h3,h4⟩
 ·exact .inl h2
 ·exact .inr ⟨b',h2,h3,zo7 h _ _ _ h4⟩
theorem zs1 {w w':World} {N:Nat→Prop} {F:Pl.Fx} {b i:Nat} (h:rowX w N F b i) (bb:Below w.heap.size w w'):rowX w' N F b i:=zo7 (fun g hg hl=>⟨hg,Nat.lt_of_lt_of_le hl bb.size,bb.block g hl⟩) _ _ _ h
theorem zx4 {w w':World} {N:Nat→Prop} {k:Pl.Fx} {v:Value} (h:layX w N k v) (b:Below w.heap.size w w'):layX w' N k v:=zk3 (fun g hg hl=>⟨hg,Nat.lt_of_lt_of_le hl b.size,b.block g hl⟩) h
theorem layX_weak {w:World} {N N':Nat→Prop} {k:Pl.Fx} {v:Value} (h:layX w N k v) (hn:∀b,N b→b<w.heap.size→N' b):layX w N' k v:=zk3 (fun g hg hl=>⟨hn g hg hl,hl,rfl⟩) h
theorem layX_nil (w:World) (N:Nat→Prop):layX w N .nil (.slice none 0 0):=⟨none,0,rfl, .inl rfl⟩
theorem rowX_row {w:World} {N:Nat→Prop} (F:Pl.Fx):∀b i,rowX w N F b i→rowF w N F.shape b i:=by
 induction F with
 |nil=>intro b i _;trivial
 |cons L k m ihk ihm=>
  intro b i hr;obtain ⟨⟨q,a,cap,h1,h2,h3,h4,h5,hq,hm,h6⟩,h7⟩:=hr;refine ⟨⟨_,_,a,cap,h1,h2,by rw [Pl.Fx.zx2];exact h3,h4,h5,⟨_,rfl⟩,⟨_,rfl⟩,?_⟩,ihm _ _ h7⟩
  rcases h6 with h6|⟨b',h6, -,h8⟩
  ·exact .inl (by rw [h6];rfl)
  ·exact .inr ⟨b',h6,ihk _ _ h8⟩
theorem layX_lay {w:World} {N:Nat→Prop} {k:Pl.Fx} {v:Value} (h:layX w N k v):lay w N k.shape v:=by
 obtain ⟨a,cap,h1,h2⟩:=h;refine ⟨a,cap,by rw [Pl.Fx.zx2];exact h1,?_⟩
 rcases h2 with h2|⟨b',h2, -,h3⟩
 ·exact .inl (by rw [h2];rfl)
 ·exact .inr ⟨b',h2,rowX_row _ _ _ h3⟩
def zh2 (w:World) (N:Nat→Prop):Pl.Fx→List Value→Prop
 | .nil,xs=>xs=[]
 | .cons L k m,xs=>∃q v ys,xs= .map (some q):: .int .i64 (k.len:Int)::v::ys∧N q∧ownM w q L∧layX w N k v∧zh2 w N m ys
theorem zz3 {w w':World} {N N':Nat→Prop} (h:∀b,N b→b<w.heap.size→N' b∧b<w'.heap.size∧w'.heap[b]? =w.heap[b]?) (F:Pl.Fx):∀xs,zh2 w N F xs→zh2 w' N' F xs:=by
 induction F with
 |nil=>intro xs h;exact h
 |cons L k m _ ih=>
  intro xs hx;obtain ⟨q,v,ys,h1,hq,hm,h2,h3⟩:=hx;obtain ⟨q1,q2,q3⟩:=h q hq hm.lt;exact ⟨q,v,ys,h1,q1,hm.same q3,zk3 h h2,ih _ h3⟩
theorem cellsX_snoc {w:World} {N:Nat→Prop} {k:Pl.Fx} {L:List Pl.Nd} {q:Nat} {v:Value} (hq:N q) (hm:ownM w q L) (hv:layX w N k v) (F:Pl.Fx):∀xs,zh2 w N F xs→zh2 w N (F.app (.cons L k .nil)) (xs++[.map (some q), .int .i64 (k.len:Int),v]):=by
 induction F with
 |nil=>intro xs h;cases h;exact ⟨q,v,[],rfl,hq,hm,hv,rfl⟩
 |cons L' k' m _ ih=>
  intro xs hx;obtain ⟨q',v',ys,rfl,hq',hm',h2,h3⟩:=hx;exact ⟨q',v',_,rfl,hq',hm',h2,ih _ h3⟩
theorem rowX_of_cells {w:World} {N N':Nat→Prop} {g:Nat} (hN:∀b,N b→N' b) (hg:N' g) (hlt:g<w.heap.size) (F:Pl.Fx):∀ (xs:List Value) (i:Nat),zh2 w N F xs→(∀j u,xs[j]? =some u→w.cell? ⟨g,i+j,none⟩=some u)→rowX w N' F g i:=by
 induction F with
 |nil=>intro xs i _ _;trivial
 |cons L k m _ ih=>
  intro xs i hx hc;obtain ⟨q,v,ys,rfl,hq,hm,h2,h3⟩:=hx;obtain ⟨a,cap,rfl,h4⟩:=h2;refine ⟨⟨q,a,cap,hc 0 _ rfl,hc 1 _ rfl,hc 2 _ rfl,hlt,hg,hN q hq,hm,?_⟩,ih ys (i+3) h3 fun j u hj=>?_⟩
  ·rcases h4 with h4|⟨b',h4,h6,h5⟩
   ·exact .inl h4
   ·exact .inr ⟨b',h4,h6,zo7 (fun b hb hl=>⟨hN b hb,hl,rfl⟩) _ _ _ h5⟩
  ·have :=hc (j+3) u (by simpa using hj);rw [show i+3+j=i+(j+3) by omega];exact this
theorem zz5 {w:World} {B:Nat} {T:TypeId} {v:Value} {N:Nat→Prop} {F:Pl.Fx} {xs:List Value} (h:w.ownsRow B T 3 v F.len xs) (hc:zh2 w N F xs) (hN:∀b,N b→B≤b):layX w (fun b=>B≤b) F v:=by
 rcases h.2 with ⟨rfl,h0⟩|⟨g,cap,cur,rfl,hb,hg,hc2,hm,hsz,ht⟩
 ·cases F with
  |nil=>exact layX_nil _ _
  |cons L k m=>simp [Pl.Fx.len] at h0
 ·refine ⟨_,cap,rfl, .inr ⟨g,rfl,hc2,rowX_of_cells hN hb (Array.getElem?_eq_some_iff.1 hg).1 F xs 0 hc fun j u hj=>?_⟩⟩;rw [cell_of_row w g _ cur _ (0,0) hg,Nat.zero_add];rw [←ht,List.getElem?_take] at hj
  split at hj
  ·simpa using hj
  ·cases hj
end Mem
end
end Go.Proofs.YtggadpalljhiaaaGreatDoor
