/- Several texts of one claim in one file: MemMaps, MapI, MapNv, MemNestV. -/
import Derived.Test.YtggadpalljhiaaaGreatDoorG06
import Derived.Test.YtggadpalljhiaaaGreatDoorProg
import Derived.Laws.BitsAllLaws
import Derived.Below
import Derived.WalkKit
import Derived.Laws.IdiomStrings
import Derived.Maps.OwnSet
import Derived.Maps.RangeWalk
import Derived.Test.YtggadpalljhiaaaGreatDoorG05
namespace Go.Proofs.YtggadpalljhiaaaGreatDoor
section
open Go.RowKit Go.Maps
namespace Mem
def mapQ:Option Value→Nat
 |some (.map (some q))=>q
 |_=>0
def rowB:Option Value→Option Nat
 |some (.slice (some p) _ _)=>some p.block
 |_=>none
def zn1 (w:World):Pl.Fx→Nat→Nat→List Nat
 | .nil,_,_=>[]
 | .cons _ k m,b,i=>mapQ (w.cell? ⟨b,i,none⟩)::((match rowB (w.cell? ⟨b,i+2,none⟩) with |some b'=>zn1 w k b' 0|none=>[])++zn1 w m b (i+3))
def zi0 (w:World) (k:Pl.Fx) (v:Value):List Nat:=match rowB (some v) with |some b'=>zn1 w k b' 0|none=>[]
def zi1 (w:World):Pl.Fx→List Value→List Nat
 | .nil,_=>[]
 | .cons _ k m,xs=>mapQ xs[0]?::(zi0 w k (xs[2]?.getD undef)++zi1 w m (xs.drop 3))
theorem zq2 {w:World} {L:List Pl.Nd} {k m:Pl.Fx} {b i q:Nat} {v:Value} (h1:w.cell? ⟨b,i,none⟩=some (.map (some q))) (h2:w.cell? ⟨b,i+2,none⟩=some v):zn1 w (.cons L k m) b i=q::(zi0 w k v++zn1 w m b (i+3)):=by
 rw [zn1,h1,h2];rfl
theorem zk (w:World) (v:Value):zi0 w .nil v=[]:=by
 unfold zi0
 split <;> rfl
theorem zr5 (w:World) (k:Pl.Fx) (b n cap:Nat):zi0 w k (.slice (some ⟨b,0,none⟩) n cap)=zn1 w k b 0:=rfl
theorem mapsR_same {w w':World} {N:Nat→Prop} (h:∀b,N b→b<w.heap.size→w'.heap[b]? =w.heap[b]?) (F:Pl.Fx):∀b i,rowX w N F b i→zn1 w' F b i=zn1 w F b i:=by
 induction F with
 |nil=>intro b i _;rfl
 |cons L k m ihk ihm=>
  intro b i hr;obtain ⟨⟨q,a,cap,h1,h2,h3,h4,h5,hq,hm,h6⟩,h7⟩:=hr;have c:∀j,w'.cell? ⟨b,j,none⟩=w.cell? ⟨b,j,none⟩:=fun j=>World.cell?_of_block (h b h5 h4);rw [zq2 ((c _).trans h1) ((c _).trans h3),zq2 h1 h3,ihm _ _ h7]
  rcases h6 with rfl |⟨b',rfl, -,h9⟩
  ·rw [zk,zk]
  ·rw [zr5,zr5,ihk _ _ h9]
theorem zq1 {w w':World} {N:Nat→Prop} (h:∀b,N b→b<w.heap.size→w'.heap[b]? =w.heap[b]?) {k:Pl.Fx} {v:Value} (hl:layX w N k v):zi0 w' k v=zi0 w k v:=by
 obtain ⟨a,cap,rfl,h2⟩:=hl
 rcases h2 with rfl |⟨b',rfl, -,h4⟩
 ·rw [zk,zk]
 ·rw [zr5,zr5,mapsR_same h _ _ _ h4]
theorem zj0 (w:World) (L:List Pl.Nd) (k m:Pl.Fx) (q:Nat) (c v:Value) (ys:List Value):zi1 w (.cons L k m) (.map (some q)::c::v::ys)=q::(zi0 w k v++zi1 w m ys):=rfl
theorem mapsC_same {w w':World} {N:Nat→Prop} (h:∀b,N b→b<w.heap.size→w'.heap[b]? =w.heap[b]?) (F:Pl.Fx):∀xs,zh2 w N F xs→zi1 w' F xs=zi1 w F xs:=by
 induction F with
 |nil=>intro xs _;rfl
 |cons L k m _ ih=>
  intro xs hx;obtain ⟨q,v,ys,rfl,hq,hm,h2,h3⟩:=hx;rw [zj0,zj0,zq1 h h2,ih _ h3]
theorem mapsR_in {w:World} {N:Nat→Prop} (F:Pl.Fx):∀b i,rowX w N F b i→∀j∈zn1 w F b i,N j∧j<w.heap.size:=by
 induction F with
 |nil=>intro b i _ j hj;cases hj
 |cons L k m ihk ihm=>
  intro b i hr j hj;obtain ⟨⟨q,a,cap,h1,h2,h3,h4,h5,hq,hm,h6⟩,h7⟩:=hr;rw [zq2 h1 h3] at hj
  rcases List.mem_cons.1 hj with rfl |hj
  ·exact ⟨hq,hm.lt⟩
  rcases List.mem_append.1 hj with hj|hj
  ·rcases h6 with rfl |⟨b',rfl, -,h9⟩
   ·rw [zk] at hj;cases hj
   ·exact ihk _ _ h9 j hj
  ·exact ihm _ _ h7 j hj
theorem mapsL_in {w:World} {N:Nat→Prop} {k:Pl.Fx} {v:Value} (hl:layX w N k v):∀j∈zi0 w k v,N j∧j<w.heap.size:=by
 obtain ⟨a,cap,rfl,h2⟩:=hl
 rcases h2 with rfl |⟨b',rfl, -,h4⟩
 ·rw [zk];intro j hj;cases hj
 ·exact mapsR_in _ _ _ h4
theorem mapsC_in {w:World} {N:Nat→Prop} (F:Pl.Fx):∀xs,zh2 w N F xs→∀j∈zi1 w F xs,N j∧j<w.heap.size:=by
 induction F with
 |nil=>intro xs _ j hj;cases hj
 |cons L k m _ ih=>
  intro xs hx j hj;obtain ⟨q,v,ys,rfl,hq,hm,h2,h3⟩:=hx;rw [zj0] at hj
  rcases List.mem_cons.1 hj with rfl |hj
  ·exact ⟨hq,hm.lt⟩
  rcases List.mem_append.1 hj with hj|hj
  ·exact mapsL_in h2 j hj
  ·exact ih _ h3 j hj
theorem mapsC_snoc {w:World} {N:Nat→Prop} (L:List Pl.Nd) (k:Pl.Fx) (q:Nat) (c v:Value) (F:Pl.Fx):∀xs,zh2 w N F xs→zi1 w (F.app (.cons L k .nil)) (xs++[.map (some q),c,v])=zi1 w F xs++q::zi0 w k v:=by
 induction F with
 |nil=>intro xs h;cases h;show zi1 w (.cons L k .nil) _=_;rw [List.nil_append,zj0];simp [zi1]
 |cons L' k' m _ ih=>
  intro xs hx;obtain ⟨q',v',ys,rfl,hq',hm',h2,h3⟩:=hx;show zi1 w (.cons L' k' (m.app _)) (.map (some q')::_::v'::(ys++_))=_;rw [zj0,zj0,ih _ h3];simp
theorem yc2 {w:World} {N:Nat→Prop} {g:Nat} (F:Pl.Fx):∀ (xs:List Value) (i:Nat),zh2 w N F xs→(∀j u,xs[j]? =some u→w.cell? ⟨g,i+j,none⟩=some u)→zn1 w F g i=zi1 w F xs:=by
 induction F with
 |nil=>intro xs i _ _;rfl
 |cons L k m _ ih=>
  intro xs i hx hc;obtain ⟨q,v,ys,rfl,hq,hm,h2,h3⟩:=hx;have e0:w.cell? ⟨g,i,none⟩=some (.map (some q)):=hc 0 _ rfl;rw [zq2 e0 (hc 2 _ rfl),zj0,ih ys (i+3) h3 fun j u hj=>?_];have :=hc (j+3) u (by simpa using hj);rw [show i+3+j=i+(j+3) by omega];exact this
theorem mapsL_of_row {w:World} {B:Nat} {T:TypeId} {v:Value} {N:Nat→Prop} {F:Pl.Fx} {xs:List Value} (h:w.ownsRow B T 3 v F.len xs) (hc:zh2 w N F xs):zi0 w F v=zi1 w F xs:=by
 rcases h.2 with ⟨rfl,h0⟩|⟨g,cap,cur,rfl,hb,hg,hc2,hm,hsz,ht⟩
 ·cases F with
  |nil=>exact zk _ _
  |cons L k m=>simp [Pl.Fx.len] at h0
 ·rw [zr5];refine yc2 F xs 0 hc fun j u hj=>?_;rw [cell_of_row w g _ cur _ (0,0) hg,Nat.zero_add];rw [←ht,List.getElem?_take] at hj
  split at hj
  ·simpa using hj
  ·cases hj
def apart (w:World) (q:Nat) (k:Pl.Fx) (v:Value):Prop:=(q::zi0 w k v).Pairwise (· < ·)
theorem zu0 {w w':World} {N:Nat→Prop} (h:∀b,N b→b<w.heap.size→w'.heap[b]? =w.heap[b]?) {q:Nat} {k:Pl.Fx} {v:Value} (hl:layX w N k v) (ha:apart w q k v):apart w' q k v:=by
 show (q::_).Pairwise _;rw [zq1 h hl];exact ha
theorem yb3 {w w':World} {N:Nat→Prop} {q:Nat} {k:Pl.Fx} {v:Value} (hl:layX w N k v) (ha:apart w q k v) (b:Below w.heap.size w w'):apart w' q k v:=zu0 (fun j _ hj=>b.block j hj) hl ha
end Mem
end
section
open Go.RowKit Go.Maps
namespace MapI
def key (d:Int):Lit:= .int .i64 d
def i64 (d:Int):Prop:= -9223372036854775808≤d∧d≤9223372036854775807
theorem wf_of {d:Int} (h:i64 d):(Lit.int .i64 d).wf=true:=by
 obtain ⟨h1,h2⟩:=h;have e1:IntKind.i64.min= -9223372036854775808:=by decide
 have e2:IntKind.i64.max=9223372036854775807:=by decide
 simp only [Lit.wf,e1,e2,Bool.and_eq_true,decide_eq_true_eq];omega
def elem (v:Value):Option (DataW Value × List MemPlace):=some (.held v,[])
def dat (v:Value):DataW Value:= .held v
theorem zn8 (v:Value):elem v=some (dat v,[]):=rfl
theorem zo {a b:Value} (h:dat a=dat b):a=b:=by unfold dat at h;exact DataW.held.inj h
def mapOf (C:List (Int × Value)):DataW Value:=C.foldl (fun D n=>D.put (key n.1) (dat n.2)) (.map [])
theorem zu8 (C:List (Int × Value)) (n:Int × Value):mapOf (C++[n])=(mapOf C).put (key n.1) (dat n.2):=by simp [mapOf,List.foldl_append]
theorem zp1 (p:Int):WideAt.IsKeyLit (key p):=by simp [key,WideAt.IsKeyLit]
theorem key_ne {a b:Int} (h:a≠b):key a≠key b:=fun e=>h (by unfold key at e;exact (Lit.int.inj e).2)
theorem zu7:∀ (C:List (Int × Value)) (D:DataW Value),IsMap D→IsMap (C.foldl (fun D n=>D.put (key n.1) (dat n.2)) D):=by
 intro C
 induction C with
 |nil=>intro D h;exact h
 |cons n C ih=>intro D h;exact ih _ (h.put _ _)
theorem zl3 (C:List (Int × Value)):IsMap (mapOf C):=zu7 C _ isMap_empty
theorem zi6 (p:Int):∀ (C:List (Int × Value)) (D:DataW Value),(∀n∈C,n.1≠p)→Maps.has (C.foldl (fun D n=>D.put (key n.1) (dat n.2)) D) (key p)=Maps.has D (key p)∧∀z,(C.foldl (fun D n=>D.put (key n.1) (dat n.2)) D).atKey (key p) z=D.atKey (key p) z:=by
 intro C
 induction C with
 |nil=>intro D _;exact ⟨rfl,fun _=>rfl⟩
 |cons n C ih=>
  intro D h;have h1:key p≠key n.1:=key_ne (fun e=>h n List.mem_cons_self e.symm);obtain ⟨i1,i2⟩:=ih (D.put (key n.1) (dat n.2)) (fun m hm=>h m (List.mem_cons_of_mem _ hm));refine ⟨?_,fun z=>?_⟩
  ·show Maps.has (C.foldl _ (D.put (key n.1) (dat n.2))) (key p)=_;rw [i1,has_put_other h1]
  ·show (C.foldl _ (D.put (key n.1) (dat n.2))).atKey (key p) z=_;rw [i2,atKey_put_other h1]
theorem has_no {C:List (Int × Value)} {p:Int} (h:p∉C.map (·.1)):Maps.has (mapOf C) (key p)=false:=by
 rw [mapOf,(zi6 p C _ (fun n hn e=>h (List.mem_map.2 ⟨n,hn,e⟩))).1];rfl
theorem at_no {C:List (Int × Value)} {p:Int} (h:p∉C.map (·.1)) (z:DataW Value):(mapOf C).atKey (key p) z=z:=by
 rw [mapOf,(zi6 p C _ (fun n hn e=>h (List.mem_map.2 ⟨n,hn,e⟩))).2];rfl
theorem zr6 {C:List (Int × Value)} {n:Int × Value} (hC:C.Pairwise (fun a b=>a.1≠b.1)) (hn:n∈C):Maps.has (mapOf C) (key n.1)=true∧∀z,(mapOf C).atKey (key n.1) z=dat n.2:=by
 obtain ⟨A,B,rfl⟩:=List.append_of_mem hn;rw [List.pairwise_append] at hC;have h2:=(List.pairwise_cons.1 hC.2.1).1;have e:mapOf (A++n::B)=B.foldl (fun D n=>D.put (key n.1) (dat n.2)) ((mapOf A).put (key n.1) (dat n.2)):=by simp [mapOf,List.foldl_append]
 obtain ⟨i1,i2⟩:=zi6 n.1 B ((mapOf A).put (key n.1) (dat n.2)) (fun m hm e=>h2 m hm e.symm);rw [e];exact ⟨by rw [i1,has_put_same (zl3 A) (zp1 _)],fun z=>by rw [i2,atKey_put_same (zl3 A) (zp1 _)]⟩
def getV (C:List (Int × Value)) (d:Int) (z:Value):Value:=match C.find? (fun n=>decide (n.1=d)) with |some n=>n.2|none=>z
theorem look {C:List (Int × Value)} (hC:C.Pairwise (fun a b=>a.1≠b.1)) (d:Int) (z:Value):Maps.has (mapOf C) (key d)=decide (d∈C.map (·.1))∧(mapOf C).atKey (key d) (dat z)=dat (getV C d z):=by
 unfold getV;by_cases h:d∈C.map (·.1)
 ·obtain ⟨n,hn,rfl⟩:=List.mem_map.1 h;obtain ⟨h1,h2⟩:=zr6 hC hn;rw [h1,h2];refine ⟨by simp [h],?_⟩;cases hf:C.find? (fun m=>decide (m.1=n.1)) with
  |none=>exact absurd (List.find?_eq_none.1 hf n hn) (by simp)
  |some m=>
   have h3:=List.find?_some hf;have h4:=List.mem_of_find?_eq_some hf
   have e:m=n:=by
    by_cases e:m=n
    ·exact e
    ·exfalso;obtain ⟨i,hi,e1⟩:=List.mem_iff_getElem.1 hn;obtain ⟨j,hj,e2⟩:=List.mem_iff_getElem.1 h4;have h5:=List.pairwise_iff_getElem.1 hC
     rcases Nat.lt_trichotomy i j with hij|hij|hij
     ·exact h5 i j hi hj hij (by rw [e1,e2];exact (of_decide_eq_true h3).symm)
     ·subst hij;exact e (e2.symm.trans e1)
     ·exact h5 j i hj hi hij (by rw [e1,e2];exact of_decide_eq_true h3)
   subst e;rfl
 ·rw [has_no h,at_no h];refine ⟨by simp [h],?_⟩;cases hf:C.find? (fun m=>decide (m.1=d)) with
  |none=>rfl
  |some m=>have h3:=List.find?_some hf;simp only [decide_eq_true_eq] at h3;exact absurd (List.mem_map.2 ⟨m,List.mem_of_find?_eq_some hf,h3⟩) h
theorem law:Keyed Tryz.prog 2:=int_keyed Tryz.underlying2
theorem zk1 {d:Int} (h:i64 d):keyOf Tryz.prog 2 (.int .i64 d)=some (key d):=keyOf_int_mk Tryz.underlying2 (wf_of h)
theorem look_ok {P:Program} (w:World) {ops:Array Oper} {rest:List Oper} {o:Oper} {a:Act} {Q:Exit→Act→World→Prop} (hg:o.guard=none) (m x:Operand) (t:TypeId) (hop:o.op=Op.lookup t m x true)
  (k e:TypeId) (K:Keyed P k) (ht:P.underlying t=some (.map k e)) (z:Value) (hz:(zeroValue e).run P w= .ok z w) (b n:Nat) (D:DataW Value)
  (hm:a.eval m= .map (some b)) (hown:w.ownsMap P k elem b n D) (kv:Value) (kl:Lit) (hx:a.eval x=kv) (hkey:keyOf P k kv=some kl) (v:Value) (hat:D.atKey kl (dat z)=dat v) (r:Bool) (hr:Maps.has D kl=r)
  (hK:wpList P ops Q rest (a.put o.dst (.tuple #[v, .bool r])) w):
  wpList P ops Q (o::rest) a w:=by
 refine wpList_plain hg fun K' hK'=>?_;obtain ⟨v1,ps,hrun,hv⟩:=hown.look_ok K ht hz (zn8 _) hkey
 have hd:v1=v:=by
  unfold elem at hv;simp only [Option.some.injEq,Prod.mk.injEq] at hv;rw [hat] at hv;exact zo hv.1
 subst hd;subst hr;unfold Oper.wp;simp [execOp,hop,hm,hx,hrun,Result.andThen]
 exact hK' _ _ hK
theorem ze3 {w w':World} {B n:Nat} {D:DataW Value} (h:w.ownsMap Tryz.prog 2 elem B n D) (b:Below w.heap.size w w'):w'.ownsMap Tryz.prog 2 elem B n D:=
 h.kept (row:=none) ⟨b.os,b.tape,b.output,b.size,fun j hj _=>b.block j hj⟩ (by simp)
end MapI
end
section
open Go.RowKit Go.Maps
namespace Pl
structure Nv where
 m:Option Nat
 n:Nat
 a:Option Addr
 cap:Nat
def Nv.val (x:Nv):Value:= .agg #[.map x.m, .int .i64 (x.n:Int), .slice x.a x.n x.cap]
def vals (E:List (Int × Nv)):List (Int × Value):=E.map (fun x=>(x.1,x.2.val))
def getN (E:List (Int × Nv)) (d:Int):Nv:=match E.find? (fun x=>decide (x.1=d)) with |some x=>x.2|none=>⟨none,0,none,0⟩
theorem zn6 (E:List (Int × Nv)):(vals E).map (·.1)=E.map (·.1):=by simp [vals,List.map_map]
theorem zv6 {E:List (Int × Nv)} (h:E.Pairwise (fun a b=>a.1≠b.1)):(vals E).Pairwise (fun a b=>a.1≠b.1):=by
 unfold vals;rw [List.pairwise_map];exact h
theorem get_vals (E:List (Int × Nv)) (d:Int):MapI.getV (vals E) d (Nv.val ⟨none,0,none,0⟩)=(getN E d).val:=by
 unfold MapI.getV getN vals;rw [List.find?_map];have e:((fun n:Int × Value=>decide (n.1=d)) ∘ fun x:Int × Nv=>(x.1,x.2.val))=fun x=>decide (x.1=d):=rfl;rw [e];cases E.find? (fun x=>decide (x.1=d)) <;> rfl
theorem zs4 {E:List (Int × Nv)} (h:E.Pairwise (fun a b=>a.1≠b.1)) (d:Int):Maps.has (MapI.mapOf (vals E)) (MapI.key d)=decide (d∈E.map (·.1))∧(MapI.mapOf (vals E)).atKey (MapI.key d) (MapI.dat (Nv.val ⟨none,0,none,0⟩))=MapI.dat (.agg #[.map (getN E d).m, .int .i64 ((getN E d).n:Int), .slice (getN E d).a (getN E d).n (getN E d).cap]):=by
 have h1:=MapI.look (zv6 h) d (Nv.val ⟨none,0,none,0⟩);rw [zn6,get_vals] at h1;exact h1
theorem zr7 (w:World):(zeroValue 64).run Tryz.prog w= .ok (Nv.val ⟨none,0,none,0⟩) w:=by kernel_rfl
end Pl
end
section
open Go.RowKit Go.Maps
namespace Mem
def zh0 (w:World) (B:Nat) (x:Pl.Nv) (R:List (Int × List Pl.Nd)):Prop:=
 ∃L k q,x.m=some q∧x.n=k.len∧((B≤q∧apart w q k (.slice x.a k.len x.cap))∧ownM w q L)∧((Pl.Fx.cons L k .nil).okX∧(Pl.Fx.cons L k .nil).flat=R)∧layX w (fun b=>B≤b) k (.slice x.a k.len x.cap)
theorem zh0.same {w w':World} {B:Nat} {x:Pl.Nv} {R:List (Int × List Pl.Nd)} (h:zh0 w B x R) (hs:w.heap.size≤w'.heap.size) (hb:∀b,B≤b→b<w.heap.size→w'.heap[b]? =w.heap[b]?):zh0 w' B x R:=by
 obtain ⟨L,k,q,h1,h2,⟨⟨h3,h4⟩,h5⟩,h6,h7⟩:=h;exact ⟨L,k,q,h1,h2,⟨⟨h3,zu0 hb h7 h4⟩,h5.same (hb q h3 h5.lt)⟩,h6,zk3 (fun g hg hl=>⟨hg,Nat.lt_of_lt_of_le hl hs,hb g hg hl⟩) h7⟩
theorem zh0.call {w w':World} {B:Nat} {x:Pl.Nv} {R:List (Int × List Pl.Nd)} (h:zh0 w B x R) (b:Below w.heap.size w w'):zh0 w' B x R:=h.same b.size (fun g _ hg=>b.block g hg)
theorem zh0.grown {w w':World} {B q:Nat} {x:Pl.Nv} {R:List (Int × List Pl.Nd)} (h:zh0 w B x R) (g:w.grownBy w' (some q)) (hq:q<B):zh0 w' B x R:=h.same g.size (fun b hb hl=>g.block b hl (fun e=>by have :=Option.some.inj e;omega))
theorem zh0.mono {w:World} {B B':Nat} {x:Pl.Nv} {R:List (Int × List Pl.Nd)} (h:zh0 w B x R) (hb:B'≤B):zh0 w B' x R:=by
 obtain ⟨L,k,q,h1,h2,⟨⟨h3,h4⟩,h5⟩,h6,h7⟩:=h;exact ⟨L,k,q,h1,h2,⟨⟨by omega,h4⟩,h5⟩,h6,layX_weak h7 (fun b hb _=>by omega)⟩
def ze0 (w:World) (B:Nat) (E:List (Int × Pl.Nv)) (N:List Pl.Ns):Prop:=∀ (i:Nat) y,E[i]? =some y→∃x,N[i]? =some x∧y.1=x.d∧zh0 w B y.2 (x.Is.map Pl.It.r)
theorem ze0.call {w w':World} {B:Nat} {E:List (Int × Pl.Nv)} {N:List Pl.Ns} (h:ze0 w B E N) (b:Below w.heap.size w w'):ze0 w' B E N:=fun i y hy=>by
 obtain ⟨x,h1,h2,h3⟩:=h i y hy;exact ⟨x,h1,h2,h3.call b⟩
theorem ze0.grown {w w':World} {B q:Nat} {E:List (Int × Pl.Nv)} {N:List Pl.Ns} (h:ze0 w B E N) (g:w.grownBy w' (some q)) (hq:q<B):ze0 w' B E N:=fun i y hy=>by
 obtain ⟨x,h1,h2,h3⟩:=h i y hy;exact ⟨x,h1,h2,h3.grown g hq⟩
theorem ze0.mono {w:World} {B B':Nat} {E:List (Int × Pl.Nv)} {N:List Pl.Ns} (h:ze0 w B E N) (hb:B'≤B):ze0 w B' E N:=fun i y hy=>by
 obtain ⟨x,h1,h2,h3⟩:=h i y hy;exact ⟨x,h1,h2,h3.mono hb⟩
end Mem
end
end Go.Proofs.YtggadpalljhiaaaGreatDoor
