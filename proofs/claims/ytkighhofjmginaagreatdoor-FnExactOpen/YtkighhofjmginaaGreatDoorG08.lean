/- Several texts of one claim in one file: Mem3, WInfo3, WSpI6, MemNest, MapN, MemFx, MemMaps, MemNestV. -/
import Derived.Test.YtkighhofjmginaaGreatDoorG01
import Derived.Test.YtkighhofjmginaaGreatDoorG06
namespace Go.Proofs.YtkighhofjmginaaGreatDoor
section
open Go.RowKit
namespace Pl
def Mn.cs (n:Mn):List Value:=[.string n.p, .int .i64 n.i, .bool n.z]
def Hn.cs (n:Hn):List Value:=[.int .i64 n.d, .int .i64 n.i, .string n.p]
theorem Mn.three (n:Mn):n.cs.length=3:=rfl
theorem Hn.three (n:Hn):n.cs.length=3:=rfl
def cells3 {α:Type} (cs:α→List Value) (L:List α):List Value:=L.flatMap cs
theorem yh2 {α:Type} (cs:α→List Value) (n:α) (L:List α):cells3 cs (n::L)=cs n++cells3 cs L:=by simp [cells3]
theorem zt5 {α:Type} (cs:α→List Value) (L M:List α):cells3 cs (L++M)=cells3 cs L++cells3 cs M:=by simp [cells3]
theorem zr9 {α:Type} (cs:α→List Value) (n:α):cells3 cs [n]=cs n:=by simp [cells3]
theorem zb5 {α:Type} {cs:α→List Value} (h3:∀x,(cs x).length=3) (L:List α):(cells3 cs L).length=L.length*3:=by
 induction L with
 |nil=>rfl
 |cons n L ih=>rw [yh2,List.length_append,ih,List.length_cons,h3];omega
theorem yj7 {α:Type} {cs:α→List Value} (h3:∀x,(cs x).length=3) (L:List α) (i:Nat) (n:α) (h:L[i]? =some n) (j:Nat) (hj:j<3):(cells3 cs L)[i*3+j]? =(cs n)[j]?:=by
 induction L generalizing i with
 |nil=>simp at h
 |cons m L ih=>
  rw [yh2]
  match i,h with
  |0,h=>
   simp at h;subst h
   rw [List.getElem?_append_left (by rw [h3];omega)];simp
  |i+1,h=>
   rw [List.getElem?_append_right (by rw [h3];omega),h3,show (i+1)*3+j - 3=i*3+j by omega];exact ih i (by simpa using h)
end Pl
namespace Mem
def yb5 {α:Type} (cs:α→List Value) (w:World) (a:Option Addr) (L:List α):Prop:=
 ∀ (i:Nat) x,L[i]? =some x→∃b o,a=some ⟨b,o,none⟩∧b<w.heap.size∧∀j u,(cs x)[j]? =some u→w.cell? ⟨b,o+i*3+j,none⟩=some u
theorem yf0 {w:World} {a:Option Addr} {L:List Pl.Mn} (h:zc4 w a L):yb5 Pl.Mn.cs w a L:=fun i x hi=>by
 obtain ⟨b,o,h1,h2,h3,h4,h5⟩:=h i x hi;refine ⟨b,o,h1,h2,fun j u hj=>?_⟩
 match j,hj with
 |0,hj=>cases hj;exact h3
 |1,hj=>cases hj;exact h4
 |2,hj=>cases hj;exact h5
 |j+3,hj=>simp [Pl.Mn.cs] at hj
theorem yf7 {w:World} {a:Option Addr} {L:List Pl.Hn} (h:ze w a L):yb5 Pl.Hn.cs w a L:=fun i x hi=>by
 obtain ⟨b,o,h1,h2,h3,h4,h5⟩:=h i x hi;refine ⟨b,o,h1,h2,fun j u hj=>?_⟩
 match j,hj with
 |0,hj=>cases hj;exact h3
 |1,hj=>cases hj;exact h4
 |2,hj=>cases hj;exact h5
 |j+3,hj=>simp [Pl.Hn.cs] at hj
theorem zq5 {w:World} {a:Option Addr} {L:List Pl.Mn} (h:yb5 Pl.Mn.cs w a L):zc4 w a L:=fun i x hi=>by
 obtain ⟨b,o,h1,h2,h3⟩:=h i x hi;exact ⟨b,o,h1,h2,h3 0 _ rfl,h3 1 _ rfl,h3 2 _ rfl⟩
theorem zt4 {w:World} {a:Option Addr} {L:List Pl.Hn} (h:yb5 Pl.Hn.cs w a L):ze w a L:=fun i x hi=>by
 obtain ⟨b,o,h1,h2,h3⟩:=h i x hi;exact ⟨b,o,h1,h2,h3 0 _ rfl,h3 1 _ rfl,h3 2 _ rfl⟩
theorem ya6 {α:Type} {cs:α→List Value} (h3:∀x,(cs x).length=3) {w:World} {g o:Nat} {M:List α} (h:yb5 cs w (some ⟨g,o,none⟩) M):∀j u,(Pl.cells3 cs M)[j]? =some u→w.cell? ((⟨g,o,none⟩:Addr).add j)=some u:=by
 intro j u hj
 have hlt:j<M.length*3:=by
  have :=(List.getElem?_eq_some_iff.1 hj).1
  rwa [Pl.zb5 h3] at this
 have hd:j / 3<M.length:=by omega
 have hx:M[j / 3]? =some M[j / 3]:=List.getElem?_eq_getElem hd;obtain ⟨b,o',e,h2,h4⟩:=h (j / 3) _ hx;cases e
 have h5:=Pl.yj7 h3 M (j / 3) _ hx (j % 3) (by omega);rw [show j / 3*3+j % 3=j by omega,hj] at h5;have h6:=h4 (j % 3) u h5.symm;rw [show o+j / 3*3+j % 3=o+j by omega] at h6;rw [Mem.zx8];exact h6
theorem zd0 {α:Type} {cs:α→List Value} (h1:∀x,∀u∈cs x,u.oneCell'=true) (M:List α):∀u∈Pl.cells3 cs M,u.oneCell'=true:=by
 intro u hu;rw [Pl.cells3,List.mem_flatMap] at hu;obtain ⟨x, -,h⟩:=hu;exact h1 x u h
theorem zn1 (n:Pl.Mn):∀u∈n.cs,u.oneCell'=true:=by
 intro u hu;simp only [Pl.Mn.cs,List.mem_cons,List.not_mem_nil,or_false] at hu
 rcases hu with rfl |rfl |rfl <;> rfl
theorem zj1 (n:Pl.Hn):∀u∈n.cs,u.oneCell'=true:=by
 intro u hu;simp only [Pl.Hn.cs,List.mem_cons,List.not_mem_nil,or_false] at hu
 rcases hu with rfl |rfl |rfl <;> rfl
def own3 {α:Type} (T:TypeId) (cs:α→List Value) (w:World) (B:Nat) (v:Value) (L:List α):Prop:=w.ownsRow B T 3 v L.length (Pl.cells3 cs L)
theorem ye6 {α:Type} (T:TypeId) (cs:α→List Value) (w:World) (B:Nat):own3 T cs w B (.slice none 0 0) []:=⟨rfl, .inl ⟨rfl,rfl⟩⟩
theorem zr2 {α:Type} {T:TypeId} {cs:α→List Value} (h3:∀x,(cs x).length=3) {w:World} {B:Nat} {v:Value} {L:List α} (h:own3 T cs w B v L):∃a cap,v= .slice a L.length cap∧yb5 cs w a L∧L.length≤cap∧((a=none∧cap=0∧L=[])∨∃g,a=some ⟨g,0,none⟩∧B≤g∧g<w.heap.size):=by
 rcases h.2 with ⟨rfl,h0⟩|⟨g,cap,cur,rfl,hb,hg,hc,hm,hsz,ht⟩
 ·have e:=List.length_eq_zero_iff.1 h0;exact ⟨none,0,by rw [h0],fun i n hi=>by rw [e] at hi;simp at hi,by omega, .inl ⟨rfl,rfl,e⟩⟩
 ·have hgl:=(Array.getElem?_eq_some_iff.1 hg).1;refine ⟨some ⟨g,0,none⟩,cap,rfl,fun i n hi=>?_,by omega, .inr ⟨g,rfl,hb,hgl⟩⟩;have hlt:i<L.length:=(List.getElem?_eq_some_iff.1 hi).1;refine ⟨g,0,rfl,hgl,fun j u hj=>?_⟩;have hj3:j<3:=by have :=(List.getElem?_eq_some_iff.1 hj).1;rwa [h3] at this
  rw [cell_of_row w g _ cur _ (0,0) hg,Nat.zero_add,←hj,←Pl.yj7 h3 L i n hi j hj3,←ht,List.getElem?_take_of_lt (by omega),Array.getElem?_toList]
theorem zd7 {α:Type} {T:TypeId} {cs:α→List Value} {w w':World} {B:Nat} {v:Value} {L:List α} (h:own3 T cs w B v L) (b:Below w.heap.size w w'):own3 T cs w' B v L:=
 World.ownsRow.kept h (zc1 b none) (Classical.em _)
theorem zl8 {α:Type} {T:TypeId} {cs:α→List Value} {w:World} {B B':Nat} {v:Value} {L:List α} (h:own3 T cs w B v L) (hb:B'≤B):own3 T cs w B' v L:=yd3 h hb
end Mem
end
section
open Go.RowKit
namespace WSpI
theorem infoMn:(Tryz.prog.info? 56).map (fun i=>(i.zero,i.size,i.bytes))=some (some (.agg #[.string ⟨#[]⟩, .int .i64 0, .bool false]),3,32):=by kernel_rfl
theorem infoHn:(Tryz.prog.info? 67).map (fun i=>(i.zero,i.size,i.bytes))=some (some (.agg #[.int .i64 0, .int .i64 0, .string ⟨#[]⟩]),3,32):=by kernel_rfl
end WSpI
end
section
set_option linter.unusedSimpArgs false
open Go.RowKit
namespace WSpI
set_option maxRecDepth 100000 in
set_option maxHeartbeats 1000000 in
theorem cloneMn_any (a:Option Addr) (cap:Nat) (M:List Pl.Mn) (w:World) (hl:M.length≤1000) (hA:(a=none∧cap=0∧M=[])∨∃g o,a=some ⟨g,o,none⟩) (hv:Mem.zc4 w a M):
  Calls Tryz.prog 106 #[.slice a M.length cap] w fun e w'=>(∃v,e= .returned v∧Mem.own3 56 Pl.Mn.cs w' w.heap.size v M)∧Below w.heap.size w w':=by
 obtain ⟨i0,hi,hz0,hz1,hz2⟩:=info_parts infoMn
 rcases hA with ⟨rfl,rfl,rfl⟩|⟨g,o,rfl⟩
 ·have heq:(binOp BinOp.eql 29 (.slice none 0 0) (.slice none 0 0)).run Tryz.prog w= .ok (.bool true) w:=by kernel_rfl
  have O:=hide (Mem.ye6 56 Pl.Mn.cs w w.heap.size);go_enter Tryz.func106,Tryz.ntmps106
  go_wp2
  go_ret
  exact ⟨⟨_,rfl,za O⟩,Below.refl _ _⟩
 ·have heq:(binOp BinOp.eql 29 (.slice (some ⟨g,o,none⟩) M.length cap) (.slice none 0 0)).run Tryz.prog w= .ok (.bool false) w:=by kernel_rfl
  have b2:Below w.heap.size w (w.alloc (.cells #[] 56)):=bE0
  have OA:Hid (Mem.own3 56 Pl.Mn.cs (w.alloc (.cells #[] 56)) w.heap.size (.slice (some ⟨w.heap.size,0,none⟩) 0 0) []):=
   ⟨rfl, .inr ⟨w.heap.size,0,#[],rfl,Nat.le_refl _,heap_alloc_new _ _,Nat.le_refl _,Nat.zero_le _,rfl,rfl⟩⟩
  have NV:=hide (Mem.yf0 (Mem.zd9 hv b2));go_enter Tryz.func106,Tryz.ntmps106
  go_wp2_with (at_builtin;refine wpList_append_own _ rfl _ _ 29 rfl w.heap.size 56 i0 _ 3 32 Tryz.underlying29 hi hz0 hz1 hz2 rfl (by decide) _ _ _ rfl (za OA) ⟨g,o,none⟩ M.length cap (Pl.cells3 Pl.Mn.cs M) rfl (by rw [Pl.zb5 Pl.Mn.three]) (Mem.ya6 Pl.Mn.three (za NV)) (Mem.zd0 Mem.zn1 M) (by rw [List.length_nil,Nat.zero_add];unfold maxLen;omega) (by rw [List.length_nil,Nat.zero_add];omega) (by simp) ?_)
  intro v1 wA ownA growA _;have OB:Hid (Mem.own3 56 Pl.Mn.cs wA w.heap.size v1 M):=hide (show wA.ownsRow _ _ 3 v1 M.length (Pl.cells3 Pl.Mn.cs M) from ownA);have b3:=b2.grown growA b2.size (fun q hq=>by have h:w.heap.size=q:=Option.some.inj hq;omega);clear ownA growA OA NV hv;go_wp2
  go_ret
  exact ⟨⟨_,rfl,za OB⟩,b3⟩
set_option maxRecDepth 100000 in
set_option maxHeartbeats 1000000 in
theorem cloneHn_any (a:Option Addr) (cap:Nat) (M:List Pl.Hn) (w:World) (hl:M.length≤1000) (hA:(a=none∧cap=0∧M=[])∨∃g o,a=some ⟨g,o,none⟩) (hv:Mem.ze w a M):
  Calls Tryz.prog 107 #[.slice a M.length cap] w fun e w'=>(∃v,e= .returned v∧Mem.own3 67 Pl.Hn.cs w' w.heap.size v M)∧Below w.heap.size w w':=by
 obtain ⟨i0,hi,hz0,hz1,hz2⟩:=info_parts infoHn
 rcases hA with ⟨rfl,rfl,rfl⟩|⟨g,o,rfl⟩
 ·have heq:(binOp BinOp.eql 30 (.slice none 0 0) (.slice none 0 0)).run Tryz.prog w= .ok (.bool true) w:=by kernel_rfl
  have O:=hide (Mem.ye6 67 Pl.Hn.cs w w.heap.size);go_enter Tryz.func107,Tryz.ntmps107
  go_wp2
  go_ret
  exact ⟨⟨_,rfl,za O⟩,Below.refl _ _⟩
 ·have heq:(binOp BinOp.eql 30 (.slice (some ⟨g,o,none⟩) M.length cap) (.slice none 0 0)).run Tryz.prog w= .ok (.bool false) w:=by kernel_rfl
  have b2:Below w.heap.size w (w.alloc (.cells #[] 67)):=bE0
  have OA:Hid (Mem.own3 67 Pl.Hn.cs (w.alloc (.cells #[] 67)) w.heap.size (.slice (some ⟨w.heap.size,0,none⟩) 0 0) []):=
   ⟨rfl, .inr ⟨w.heap.size,0,#[],rfl,Nat.le_refl _,heap_alloc_new _ _,Nat.le_refl _,Nat.zero_le _,rfl,rfl⟩⟩
  have NV:=hide (Mem.yf7 (Mem.zf2 hv b2));go_enter Tryz.func107,Tryz.ntmps107
  go_wp2_with (at_builtin;refine wpList_append_own _ rfl _ _ 30 rfl w.heap.size 67 i0 _ 3 32 Tryz.underlying30 hi hz0 hz1 hz2 rfl (by decide) _ _ _ rfl (za OA) ⟨g,o,none⟩ M.length cap (Pl.cells3 Pl.Hn.cs M) rfl (by rw [Pl.zb5 Pl.Hn.three]) (Mem.ya6 Pl.Hn.three (za NV)) (Mem.zd0 Mem.zj1 M) (by rw [List.length_nil,Nat.zero_add];unfold maxLen;omega) (by rw [List.length_nil,Nat.zero_add];omega) (by simp) ?_)
  intro v1 wA ownA growA _;have OB:Hid (Mem.own3 67 Pl.Hn.cs wA w.heap.size v1 M):=hide (show wA.ownsRow _ _ 3 v1 M.length (Pl.cells3 Pl.Hn.cs M) from ownA);have b3:=b2.grown growA b2.size (fun q hq=>by have h:w.heap.size=q:=Option.some.inj hq;omega);clear ownA growA OA NV hv;go_wp2
  go_ret
  exact ⟨⟨_,rfl,za OB⟩,b3⟩
end WSpI
end
section
open Go.RowKit
namespace Mem
def rowF (w:World) (N:Nat→Prop):Pl.Fo→Nat→Nat→Prop
 | .nil,_,_=>True
 | .cons k m,b,i=>(∃x y a cap,w.cell? ⟨b,i,none⟩=some x∧w.cell? ⟨b,i+1,none⟩=some y∧w.cell? ⟨b,i+2,none⟩=some (.slice a k.len cap)∧b<w.heap.size∧N b∧
   (∃q,x= .map q)∧(∃q,y= .int .i64 q)∧(k= .nil∨∃b',a=some ⟨b',0,none⟩∧rowF w N k b' 0))∧rowF w N m b (i+3)
def lay (w:World) (N:Nat→Prop) (k:Pl.Fo) (v:Value):Prop:=∃a cap,v= .slice a k.len cap∧(k= .nil∨∃b',a=some ⟨b',0,none⟩∧rowF w N k b' 0)
theorem rowF_mono {w w':World} {N N':Nat→Prop} (h:∀b,N b→b<w.heap.size→N' b∧b<w'.heap.size∧w'.heap[b]? =w.heap[b]?) (F:Pl.Fo):∀b i,rowF w N F b i→rowF w' N' F b i:=by
 induction F with
 |nil=>intro b i _;trivial
 |cons k m ihk ihm=>
  intro b i hr;obtain ⟨⟨x,y,a,cap,h1,h2,h3,h4,h5,hx,hy,h6⟩,h7⟩:=hr;obtain ⟨g1,g2,g3⟩:=h b h5 h4;have c:∀j,w'.cell? ⟨b,j,none⟩=w.cell? ⟨b,j,none⟩:=fun j=>World.cell?_of_block g3;refine ⟨⟨x,y,a,cap,(c _).trans h1,(c _).trans h2,(c _).trans h3,g2,g1,hx,hy,?_⟩,ihm _ _ h7⟩
  rcases h6 with h6|⟨b',h6,h8⟩
  ·exact .inl h6
  ·exact .inr ⟨b',h6,ihk _ _ h8⟩
theorem lay_mono {w w':World} {N N':Nat→Prop} (h:∀b,N b→b<w.heap.size→N' b∧b<w'.heap.size∧w'.heap[b]? =w.heap[b]?) {k:Pl.Fo} {v:Value} (hl:lay w N k v):lay w' N' k v:=by
 obtain ⟨a,cap,h1,h2⟩:=hl;refine ⟨a,cap,h1,?_⟩
 rcases h2 with h2|⟨b',h2,h3⟩
 ·exact .inl h2
 ·exact .inr ⟨b',h2,rowF_mono h _ _ _ h3⟩
theorem lay_call {w w':World} {N:Nat→Prop} {k:Pl.Fo} {v:Value} (h:lay w N k v) (b:Below w.heap.size w w'):lay w' N k v:=lay_mono (fun g hg hl=>⟨hg,Nat.lt_of_lt_of_le hl b.size,b.block g hl⟩) h
end Mem
end
section
open Go.RowKit Go.Maps
namespace MapN
def key (p:ByteArray):Lit:= .string p.data.toList
def dat (n:Pl.Nd):DataW Unit:= .agg [.lit (.string n.path.data.toList), .lit (.int .i64 n.kind), .lit (.string n.data.data.toList), .lit (.int .i64 n.time), .lit (.int .i64 n.mark)]
theorem zr6 {a b:Pl.Nd} (h:dat a=dat b):a=b:=by
 obtain ⟨p,k,d,t,m⟩:=a;obtain ⟨p',k',d',t',m'⟩:=b;simp only [dat,DataW.agg.injEq,List.cons.injEq,DataW.lit.injEq,Lit.string.injEq,Lit.int.injEq,and_true,true_and] at h;obtain ⟨h1,h2,h3,h4,h5⟩:=h;have e1:p=p':=Pl.zf5 h1;have e2:d=d':=Pl.zf5 h3;subst e1 e2 h2 h4 h5;rfl
def elem:Value→Option (DataW Unit × List MemPlace)
 | .agg cs=>match cs.toList with
  | [.string p, .int .i64 k, .string d, .int .i64 t, .int .i64 m]=>some (dat ⟨p,k,d,t,m⟩,[])
  |_=>none
 |_=>none
theorem zr7 (n:Pl.Nd):elem n.val=some (dat n,[]):=rfl
theorem elem_inv {v:Value} {d:DataW Unit} {ps:List MemPlace} (h:elem v=some (d,ps)):∃n:Pl.Nd,v=n.val∧d=dat n:=by
 unfold elem at h
 split at h
 ·rename_i cs
  split at h
  ·rename_i p k d' t m hcs
   simp only [Option.some.injEq,Prod.mk.injEq] at h;refine ⟨⟨p,k,d',t,m⟩,?_,h.1.symm⟩;rw [Pl.Nd.val,show cs=cs.toList.toArray by simp,hcs]
  ·cases h
 ·cases h
def mapOf (C:List Pl.Nd):DataW Unit:=C.foldl (fun D n=>D.put (key n.path) (dat n)) (.map [])
theorem yd9 (C:List Pl.Nd) (n:Pl.Nd):mapOf (C++[n])=(mapOf C).put (key n.path) (dat n):=by simp [mapOf,List.foldl_append]
theorem zy5 (p:ByteArray):WideAt.IsKeyLit (key p):=by simp [key,WideAt.IsKeyLit]
theorem key_ne {a b:ByteArray} (h:a≠b):key a≠key b:=fun e=>h (Pl.zf5 (Lit.string.inj e))
theorem ye2:∀ (C:List Pl.Nd) (D:DataW Unit),IsMap D→IsMap (C.foldl (fun D n=>D.put (key n.path) (dat n)) D):=by
 intro C
 induction C with
 |nil=>intro D h;exact h
 |cons n C ih=>intro D h;exact ih _ (h.put _ _)
theorem zq4 (C:List Pl.Nd):IsMap (mapOf C):=ye2 C _ isMap_empty
theorem zl9 (p:ByteArray):∀ (C:List Pl.Nd) (D:DataW Unit),(∀n∈C,n.path≠p)→Maps.has (C.foldl (fun D n=>D.put (key n.path) (dat n)) D) (key p)=Maps.has D (key p)∧∀z,(C.foldl (fun D n=>D.put (key n.path) (dat n)) D).atKey (key p) z=D.atKey (key p) z:=by
 intro C
 induction C with
 |nil=>intro D _;exact ⟨rfl,fun _=>rfl⟩
 |cons n C ih=>
  intro D h;have h1:key p≠key n.path:=key_ne (fun e=>h n List.mem_cons_self e.symm);obtain ⟨i1,i2⟩:=ih (D.put (key n.path) (dat n)) (fun m hm=>h m (List.mem_cons_of_mem _ hm));refine ⟨?_,fun z=>?_⟩
  ·show Maps.has (C.foldl _ (D.put (key n.path) (dat n))) (key p)=_;rw [i1,has_put_other h1]
  ·show (C.foldl _ (D.put (key n.path) (dat n))).atKey (key p) z=_;rw [i2,atKey_put_other h1]
theorem has_no {C:List Pl.Nd} {p:ByteArray} (h:∀n∈C,n.path≠p):Maps.has (mapOf C) (key p)=false:=by
 rw [mapOf,(zl9 p C _ h).1];rfl
theorem zw {C:List Pl.Nd} {n:Pl.Nd} (hC:C.Pairwise (fun a b=>a.path≠b.path)) (hn:n∈C):Maps.has (mapOf C) (key n.path)=true∧∀z,(mapOf C).atKey (key n.path) z=dat n:=by
 obtain ⟨A,B,rfl⟩:=List.append_of_mem hn;rw [List.pairwise_append] at hC;have h2:=(List.pairwise_cons.1 hC.2.1).1;have e:mapOf (A++n::B)=B.foldl (fun D n=>D.put (key n.path) (dat n)) ((mapOf A).put (key n.path) (dat n)):=by simp [mapOf,List.foldl_append]
 obtain ⟨i1,i2⟩:=zl9 n.path B ((mapOf A).put (key n.path) (dat n)) (fun m hm e=>h2 m hm e.symm);rw [e];exact ⟨by rw [i1,has_put_same (zq4 A) (zy5 _)],fun z=>by rw [i2,atKey_put_same (zq4 A) (zy5 _)]⟩
theorem law:Keyed Tryz.prog 9:=string_keyed Tryz.underlying9
theorem za3 (w:World):(zeroValue 60).run Tryz.prog w= .ok (Pl.Nd.val ⟨⟨#[]⟩,0,⟨#[]⟩,0,0⟩) w:=by kernel_rfl
theorem zm4 {p:ByteArray} (h:p.size≤maxLen):keyOf Tryz.prog 9 (.string p)=some (key p):=WideMaps.keyOf_string_mk Tryz.underlying9 h
end MapN
end
section
open Go.RowKit Go.Maps
namespace Mem
def ownM (w:World) (q:Nat) (L:List Pl.Nd):Prop:=w.ownsMap Tryz.prog 9 MapN.elem q 40 (MapN.mapOf L)
theorem ownM.lt {w:World} {q:Nat} {L:List Pl.Nd} (h:ownM w q L):q<w.heap.size:=World.ownsMap.lt h
theorem ownM.same {w w':World} {q:Nat} {L:List Pl.Nd} (h:ownM w q L) (e:w'.heap[q]? =w.heap[q]?):ownM w' q L:=by
 obtain ⟨es,clock,hb,F,hs,hD⟩:=h;exact ⟨es,clock,e.trans hb,F,hs,hD⟩
theorem ownM.call {w w':World} {q:Nat} {L:List Pl.Nd} (h:ownM w q L) (b:Below w.heap.size w w'):ownM w' q L:=h.same (b.block q h.lt)
theorem ownM.set {w:World} {q:Nat} {L:List Pl.Nd} (h:ownM w q L) (p:Addr) (u:Value) (hp:q≠p.block):ownM (w.setCell p u) q L:=h.same (heap_setCell_other _ _ _ _ hp)
theorem ownM.grown {w w':World} {q:Nat} {L:List Pl.Nd} {r:Option Nat} (h:ownM w q L) (g:w.grownBy w' r) (hr:some q≠r):ownM w' q L:=h.same (g.block q h.lt hr)
def rowX (w:World) (N:Nat→Prop):Pl.Fx→Nat→Nat→Prop
 | .nil,_,_=>True
 | .cons L k m,b,i=>(∃q a cap,w.cell? ⟨b,i,none⟩=some (.map (some q))∧w.cell? ⟨b,i+1,none⟩=some (.int .i64 (k.len:Int))∧w.cell? ⟨b,i+2,none⟩=some (.slice a k.len cap)∧b<w.heap.size∧N b∧N q∧ownM w q L∧
   (k= .nil∨∃b',a=some ⟨b',0,none⟩∧k.len≤cap∧rowX w N k b' 0))∧rowX w N m b (i+3)
def layX (w:World) (N:Nat→Prop) (k:Pl.Fx) (v:Value):Prop:=∃a cap,v= .slice a k.len cap∧(k= .nil∨∃b',a=some ⟨b',0,none⟩∧k.len≤cap∧rowX w N k b' 0)
theorem zr5 {w w':World} {N N':Nat→Prop} (h:∀b,N b→b<w.heap.size→N' b∧b<w'.heap.size∧w'.heap[b]? =w.heap[b]?) (F:Pl.Fx):∀b i,rowX w N F b i→rowX w' N' F b i:=by
 induction F with
 |nil=>intro b i _;trivial
 |cons L k m ihk ihm=>
  intro b i hr;obtain ⟨⟨q,a,cap,h1,h2,h3,h4,h5,hq,hm,h6⟩,h7⟩:=hr;obtain ⟨g1,g2,g3⟩:=h b h5 h4;obtain ⟨q1,q2,q3⟩:=h q hq hm.lt;have c:∀j,w'.cell? ⟨b,j,none⟩=w.cell? ⟨b,j,none⟩:=fun j=>World.cell?_of_block g3;refine ⟨⟨q,a,cap,(c _).trans h1,(c _).trans h2,(c _).trans h3,g2,g1,q1,hm.same q3,?_⟩,ihm _ _ h7⟩
  rcases h6 with h6|⟨b',h6,h8,h9⟩
  ·exact .inl h6
  ·exact .inr ⟨b',h6,h8,ihk _ _ h9⟩
theorem zo7 {w w':World} {N N':Nat→Prop} (h:∀b,N b→b<w.heap.size→N' b∧b<w'.heap.size∧w'.heap[b]? =w.heap[b]?) {k:Pl.Fx} {v:Value} (hl:layX w N k v):layX w' N' k v:=by
 obtain ⟨a,cap,h1,h2⟩:=hl;refine ⟨a,cap,h1,?_⟩
 rcases h2 with h2|⟨b',h2,h3,h4⟩
 ·exact .inl h2
 ·exact .inr ⟨b',h2,h3,zr5 h _ _ _ h4⟩
theorem zk4 {w w':World} {N:Nat→Prop} {F:Pl.Fx} {b i:Nat} (h:rowX w N F b i) (bb:Below w.heap.size w w'):rowX w' N F b i:=zr5 (fun g hg hl=>⟨hg,Nat.lt_of_lt_of_le hl bb.size,bb.block g hl⟩) _ _ _ h
theorem zw0 {w w':World} {N:Nat→Prop} {k:Pl.Fx} {v:Value} (h:layX w N k v) (b:Below w.heap.size w w'):layX w' N k v:=zo7 (fun g hg hl=>⟨hg,Nat.lt_of_lt_of_le hl b.size,b.block g hl⟩) h
theorem yf2 {w:World} {N N':Nat→Prop} {k:Pl.Fx} {v:Value} (h:layX w N k v) (hn:∀b,N b→b<w.heap.size→N' b):layX w N' k v:=zo7 (fun g hg hl=>⟨hn g hg hl,hl,rfl⟩) h
theorem layX_nil (w:World) (N:Nat→Prop):layX w N .nil (.slice none 0 0):=⟨none,0,rfl, .inl rfl⟩
theorem rowX_row {w:World} {N:Nat→Prop} (F:Pl.Fx):∀b i,rowX w N F b i→rowF w N F.shape b i:=by
 induction F with
 |nil=>intro b i _;trivial
 |cons L k m ihk ihm=>
  intro b i hr;obtain ⟨⟨q,a,cap,h1,h2,h3,h4,h5,hq,hm,h6⟩,h7⟩:=hr;refine ⟨⟨_,_,a,cap,h1,h2,by rw [Pl.Fx.ya1];exact h3,h4,h5,⟨_,rfl⟩,⟨_,rfl⟩,?_⟩,ihm _ _ h7⟩
  rcases h6 with h6|⟨b',h6, -,h8⟩
  ·exact .inl (by rw [h6];rfl)
  ·exact .inr ⟨b',h6,ihk _ _ h8⟩
theorem layX_lay {w:World} {N:Nat→Prop} {k:Pl.Fx} {v:Value} (h:layX w N k v):lay w N k.shape v:=by
 obtain ⟨a,cap,h1,h2⟩:=h;refine ⟨a,cap,by rw [Pl.Fx.ya1];exact h1,?_⟩
 rcases h2 with h2|⟨b',h2, -,h3⟩
 ·exact .inl (by rw [h2];rfl)
 ·exact .inr ⟨b',h2,rowX_row _ _ _ h3⟩
def zk (w:World) (N:Nat→Prop):Pl.Fx→List Value→Prop
 | .nil,xs=>xs=[]
 | .cons L k m,xs=>∃q v ys,xs= .map (some q):: .int .i64 (k.len:Int)::v::ys∧N q∧ownM w q L∧layX w N k v∧zk w N m ys
theorem yi3 {w w':World} {N N':Nat→Prop} (h:∀b,N b→b<w.heap.size→N' b∧b<w'.heap.size∧w'.heap[b]? =w.heap[b]?) (F:Pl.Fx):∀xs,zk w N F xs→zk w' N' F xs:=by
 induction F with
 |nil=>intro xs h;exact h
 |cons L k m _ ih=>
  intro xs hx;obtain ⟨q,v,ys,h1,hq,hm,h2,h3⟩:=hx;obtain ⟨q1,q2,q3⟩:=h q hq hm.lt;exact ⟨q,v,ys,h1,q1,hm.same q3,zo7 h h2,ih _ h3⟩
theorem cellsX_snoc {w:World} {N:Nat→Prop} {k:Pl.Fx} {L:List Pl.Nd} {q:Nat} {v:Value} (hq:N q) (hm:ownM w q L) (hv:layX w N k v) (F:Pl.Fx):∀xs,zk w N F xs→zk w N (F.app (.cons L k .nil)) (xs++[.map (some q), .int .i64 (k.len:Int),v]):=by
 induction F with
 |nil=>intro xs h;cases h;exact ⟨q,v,[],rfl,hq,hm,hv,rfl⟩
 |cons L' k' m _ ih=>
  intro xs hx;obtain ⟨q',v',ys,rfl,hq',hm',h2,h3⟩:=hx;exact ⟨q',v',_,rfl,hq',hm',h2,ih _ h3⟩
theorem rowX_of_cells {w:World} {N N':Nat→Prop} {g:Nat} (hN:∀b,N b→N' b) (hg:N' g) (hlt:g<w.heap.size) (F:Pl.Fx):∀ (xs:List Value) (i:Nat),zk w N F xs→(∀j u,xs[j]? =some u→w.cell? ⟨g,i+j,none⟩=some u)→rowX w N' F g i:=by
 induction F with
 |nil=>intro xs i _ _;trivial
 |cons L k m _ ih=>
  intro xs i hx hc;obtain ⟨q,v,ys,rfl,hq,hm,h2,h3⟩:=hx;obtain ⟨a,cap,rfl,h4⟩:=h2;refine ⟨⟨q,a,cap,hc 0 _ rfl,hc 1 _ rfl,hc 2 _ rfl,hlt,hg,hN q hq,hm,?_⟩,ih ys (i+3) h3 fun j u hj=>?_⟩
  ·rcases h4 with h4|⟨b',h4,h6,h5⟩
   ·exact .inl h4
   ·exact .inr ⟨b',h4,h6,zr5 (fun b hb hl=>⟨hN b hb,hl,rfl⟩) _ _ _ h5⟩
  ·have :=hc (j+3) u (by simpa using hj);rw [show i+3+j=i+(j+3) by omega];exact this
theorem yh8 {w:World} {B:Nat} {T:TypeId} {v:Value} {N:Nat→Prop} {F:Pl.Fx} {xs:List Value} (h:w.ownsRow B T 3 v F.len xs) (hc:zk w N F xs) (hN:∀b,N b→B≤b):layX w (fun b=>B≤b) F v:=by
 rcases h.2 with ⟨rfl,h0⟩|⟨g,cap,cur,rfl,hb,hg,hc2,hm,hsz,ht⟩
 ·cases F with
  |nil=>exact layX_nil _ _
  |cons L k m=>simp [Pl.Fx.len] at h0
 ·refine ⟨_,cap,rfl, .inr ⟨g,rfl,hc2,rowX_of_cells hN hb (Array.getElem?_eq_some_iff.1 hg).1 F xs 0 hc fun j u hj=>?_⟩⟩;rw [cell_of_row w g _ cur _ (0,0) hg,Nat.zero_add];rw [←ht,List.getElem?_take] at hj
  split at hj
  ·simpa using hj
  ·cases hj
end Mem
end
section
open Go.RowKit Go.Maps
namespace Mem
def mapQ:Option Value→Nat
 |some (.map (some q))=>q
 |_=>0
def rowB:Option Value→Option Nat
 |some (.slice (some p) _ _)=>some p.block
 |_=>none
def zs6 (w:World):Pl.Fx→Nat→Nat→List Nat
 | .nil,_,_=>[]
 | .cons _ k m,b,i=>mapQ (w.cell? ⟨b,i,none⟩)::((match rowB (w.cell? ⟨b,i+2,none⟩) with |some b'=>zs6 w k b' 0|none=>[])++zs6 w m b (i+3))
def zl2 (w:World) (k:Pl.Fx) (v:Value):List Nat:=match rowB (some v) with |some b'=>zs6 w k b' 0|none=>[]
def zl1 (w:World):Pl.Fx→List Value→List Nat
 | .nil,_=>[]
 | .cons _ k m,xs=>mapQ xs[0]?::(zl2 w k (xs[2]?.getD undef)++zl1 w m (xs.drop 3))
theorem zx1 {w:World} {L:List Pl.Nd} {k m:Pl.Fx} {b i q:Nat} {v:Value} (h1:w.cell? ⟨b,i,none⟩=some (.map (some q))) (h2:w.cell? ⟨b,i+2,none⟩=some v):zs6 w (.cons L k m) b i=q::(zl2 w k v++zs6 w m b (i+3)):=by
 rw [zs6,h1,h2];rfl
theorem zo2 (w:World) (v:Value):zl2 w .nil v=[]:=by
 unfold zl2
 split <;> rfl
theorem zy2 (w:World) (k:Pl.Fx) (b n cap:Nat):zl2 w k (.slice (some ⟨b,0,none⟩) n cap)=zs6 w k b 0:=rfl
theorem mapsR_same {w w':World} {N:Nat→Prop} (h:∀b,N b→b<w.heap.size→w'.heap[b]? =w.heap[b]?) (F:Pl.Fx):∀b i,rowX w N F b i→zs6 w' F b i=zs6 w F b i:=by
 induction F with
 |nil=>intro b i _;rfl
 |cons L k m ihk ihm=>
  intro b i hr;obtain ⟨⟨q,a,cap,h1,h2,h3,h4,h5,hq,hm,h6⟩,h7⟩:=hr;have c:∀j,w'.cell? ⟨b,j,none⟩=w.cell? ⟨b,j,none⟩:=fun j=>World.cell?_of_block (h b h5 h4);rw [zx1 ((c _).trans h1) ((c _).trans h3),zx1 h1 h3,ihm _ _ h7]
  rcases h6 with rfl |⟨b',rfl, -,h9⟩
  ·rw [zo2,zo2]
  ·rw [zy2,zy2,ihk _ _ h9]
theorem zx2 {w w':World} {N:Nat→Prop} (h:∀b,N b→b<w.heap.size→w'.heap[b]? =w.heap[b]?) {k:Pl.Fx} {v:Value} (hl:layX w N k v):zl2 w' k v=zl2 w k v:=by
 obtain ⟨a,cap,rfl,h2⟩:=hl
 rcases h2 with rfl |⟨b',rfl, -,h4⟩
 ·rw [zo2,zo2]
 ·rw [zy2,zy2,mapsR_same h _ _ _ h4]
theorem zm1 (w:World) (L:List Pl.Nd) (k m:Pl.Fx) (q:Nat) (c v:Value) (ys:List Value):zl1 w (.cons L k m) (.map (some q)::c::v::ys)=q::(zl2 w k v++zl1 w m ys):=rfl
theorem mapsC_same {w w':World} {N:Nat→Prop} (h:∀b,N b→b<w.heap.size→w'.heap[b]? =w.heap[b]?) (F:Pl.Fx):∀xs,zk w N F xs→zl1 w' F xs=zl1 w F xs:=by
 induction F with
 |nil=>intro xs _;rfl
 |cons L k m _ ih=>
  intro xs hx;obtain ⟨q,v,ys,rfl,hq,hm,h2,h3⟩:=hx;rw [zm1,zm1,zx2 h h2,ih _ h3]
theorem mapsR_in {w:World} {N:Nat→Prop} (F:Pl.Fx):∀b i,rowX w N F b i→∀j∈zs6 w F b i,N j∧j<w.heap.size:=by
 induction F with
 |nil=>intro b i _ j hj;cases hj
 |cons L k m ihk ihm=>
  intro b i hr j hj;obtain ⟨⟨q,a,cap,h1,h2,h3,h4,h5,hq,hm,h6⟩,h7⟩:=hr;rw [zx1 h1 h3] at hj
  rcases List.mem_cons.1 hj with rfl |hj
  ·exact ⟨hq,hm.lt⟩
  rcases List.mem_append.1 hj with hj|hj
  ·rcases h6 with rfl |⟨b',rfl, -,h9⟩
   ·rw [zo2] at hj;cases hj
   ·exact ihk _ _ h9 j hj
  ·exact ihm _ _ h7 j hj
theorem mapsL_in {w:World} {N:Nat→Prop} {k:Pl.Fx} {v:Value} (hl:layX w N k v):∀j∈zl2 w k v,N j∧j<w.heap.size:=by
 obtain ⟨a,cap,rfl,h2⟩:=hl
 rcases h2 with rfl |⟨b',rfl, -,h4⟩
 ·rw [zo2];intro j hj;cases hj
 ·exact mapsR_in _ _ _ h4
theorem mapsC_in {w:World} {N:Nat→Prop} (F:Pl.Fx):∀xs,zk w N F xs→∀j∈zl1 w F xs,N j∧j<w.heap.size:=by
 induction F with
 |nil=>intro xs _ j hj;cases hj
 |cons L k m _ ih=>
  intro xs hx j hj;obtain ⟨q,v,ys,rfl,hq,hm,h2,h3⟩:=hx;rw [zm1] at hj
  rcases List.mem_cons.1 hj with rfl |hj
  ·exact ⟨hq,hm.lt⟩
  rcases List.mem_append.1 hj with hj|hj
  ·exact mapsL_in h2 j hj
  ·exact ih _ h3 j hj
theorem mapsC_snoc {w:World} {N:Nat→Prop} (L:List Pl.Nd) (k:Pl.Fx) (q:Nat) (c v:Value) (F:Pl.Fx):∀xs,zk w N F xs→zl1 w (F.app (.cons L k .nil)) (xs++[.map (some q),c,v])=zl1 w F xs++q::zl2 w k v:=by
 induction F with
 |nil=>intro xs h;cases h;show zl1 w (.cons L k .nil) _=_;rw [List.nil_append,zm1];simp [zl1]
 |cons L' k' m _ ih=>
  intro xs hx;obtain ⟨q',v',ys,rfl,hq',hm',h2,h3⟩:=hx;show zl1 w (.cons L' k' (m.app _)) (.map (some q')::_::v'::(ys++_))=_;rw [zm1,zm1,ih _ h3];simp
theorem yl9 {w:World} {N:Nat→Prop} {g:Nat} (F:Pl.Fx):∀ (xs:List Value) (i:Nat),zk w N F xs→(∀j u,xs[j]? =some u→w.cell? ⟨g,i+j,none⟩=some u)→zs6 w F g i=zl1 w F xs:=by
 induction F with
 |nil=>intro xs i _ _;rfl
 |cons L k m _ ih=>
  intro xs i hx hc;obtain ⟨q,v,ys,rfl,hq,hm,h2,h3⟩:=hx;have e0:w.cell? ⟨g,i,none⟩=some (.map (some q)):=hc 0 _ rfl;rw [zx1 e0 (hc 2 _ rfl),zm1,ih ys (i+3) h3 fun j u hj=>?_];have :=hc (j+3) u (by simpa using hj);rw [show i+3+j=i+(j+3) by omega];exact this
theorem mapsL_of_row {w:World} {B:Nat} {T:TypeId} {v:Value} {N:Nat→Prop} {F:Pl.Fx} {xs:List Value} (h:w.ownsRow B T 3 v F.len xs) (hc:zk w N F xs):zl2 w F v=zl1 w F xs:=by
 rcases h.2 with ⟨rfl,h0⟩|⟨g,cap,cur,rfl,hb,hg,hc2,hm,hsz,ht⟩
 ·cases F with
  |nil=>exact zo2 _ _
  |cons L k m=>simp [Pl.Fx.len] at h0
 ·rw [zy2];refine yl9 F xs 0 hc fun j u hj=>?_;rw [cell_of_row w g _ cur _ (0,0) hg,Nat.zero_add];rw [←ht,List.getElem?_take] at hj
  split at hj
  ·simpa using hj
  ·cases hj
def apart (w:World) (q:Nat) (k:Pl.Fx) (v:Value):Prop:=(q::zl2 w k v).Pairwise (· < ·)
theorem ye9 {w w':World} {N:Nat→Prop} (h:∀b,N b→b<w.heap.size→w'.heap[b]? =w.heap[b]?) {q:Nat} {k:Pl.Fx} {v:Value} (hl:layX w N k v) (ha:apart w q k v):apart w' q k v:=by
 show (q::_).Pairwise _;rw [zx2 h hl];exact ha
theorem yj3 {w w':World} {N:Nat→Prop} {q:Nat} {k:Pl.Fx} {v:Value} (hl:layX w N k v) (ha:apart w q k v) (b:Below w.heap.size w w'):apart w' q k v:=ye9 (fun j _ hj=>b.block j hj) hl ha
end Mem
end
section
open Go.RowKit Go.Maps
namespace Mem
def zj4 (w:World) (B:Nat) (x:Pl.Nv) (R:List (Int × List Pl.Nd)):Prop:=
 ∃L k q,x.m=some q∧x.n=k.len∧((B≤q∧apart w q k (.slice x.a k.len x.cap))∧ownM w q L)∧((Pl.Fx.cons L k .nil).okX∧(Pl.Fx.cons L k .nil).flat=R)∧layX w (fun b=>B≤b) k (.slice x.a k.len x.cap)
theorem zj4.same {w w':World} {B:Nat} {x:Pl.Nv} {R:List (Int × List Pl.Nd)} (h:zj4 w B x R) (hs:w.heap.size≤w'.heap.size) (hb:∀b,B≤b→b<w.heap.size→w'.heap[b]? =w.heap[b]?):zj4 w' B x R:=by
 obtain ⟨L,k,q,h1,h2,⟨⟨h3,h4⟩,h5⟩,h6,h7⟩:=h;exact ⟨L,k,q,h1,h2,⟨⟨h3,ye9 hb h7 h4⟩,h5.same (hb q h3 h5.lt)⟩,h6,zo7 (fun g hg hl=>⟨hg,Nat.lt_of_lt_of_le hl hs,hb g hg hl⟩) h7⟩
theorem zj4.call {w w':World} {B:Nat} {x:Pl.Nv} {R:List (Int × List Pl.Nd)} (h:zj4 w B x R) (b:Below w.heap.size w w'):zj4 w' B x R:=h.same b.size (fun g _ hg=>b.block g hg)
theorem zj4.grown {w w':World} {B q:Nat} {x:Pl.Nv} {R:List (Int × List Pl.Nd)} (h:zj4 w B x R) (g:w.grownBy w' (some q)) (hq:q<B):zj4 w' B x R:=h.same g.size (fun b hb hl=>g.block b hl (fun e=>by have :=Option.some.inj e;omega))
theorem zj4.mono {w:World} {B B':Nat} {x:Pl.Nv} {R:List (Int × List Pl.Nd)} (h:zj4 w B x R) (hb:B'≤B):zj4 w B' x R:=by
 obtain ⟨L,k,q,h1,h2,⟨⟨h3,h4⟩,h5⟩,h6,h7⟩:=h;exact ⟨L,k,q,h1,h2,⟨⟨by omega,h4⟩,h5⟩,h6,yf2 h7 (fun b hb _=>by omega)⟩
def zg1 (w:World) (B:Nat) (E:List (Int × Pl.Nv)) (N:List Pl.Ns):Prop:=∀ (i:Nat) y,E[i]? =some y→∃x,N[i]? =some x∧y.1=x.d∧zj4 w B y.2 (x.Is.map Pl.It.r)
theorem zg1.call {w w':World} {B:Nat} {E:List (Int × Pl.Nv)} {N:List Pl.Ns} (h:zg1 w B E N) (b:Below w.heap.size w w'):zg1 w' B E N:=fun i y hy=>by
 obtain ⟨x,h1,h2,h3⟩:=h i y hy;exact ⟨x,h1,h2,h3.call b⟩
theorem zg1.grown {w w':World} {B q:Nat} {E:List (Int × Pl.Nv)} {N:List Pl.Ns} (h:zg1 w B E N) (g:w.grownBy w' (some q)) (hq:q<B):zg1 w' B E N:=fun i y hy=>by
 obtain ⟨x,h1,h2,h3⟩:=h i y hy;exact ⟨x,h1,h2,h3.grown g hq⟩
theorem zg1.mono {w:World} {B B':Nat} {E:List (Int × Pl.Nv)} {N:List Pl.Ns} (h:zg1 w B E N) (hb:B'≤B):zg1 w B' E N:=fun i y hy=>by
 obtain ⟨x,h1,h2,h3⟩:=h i y hy;exact ⟨x,h1,h2,h3.mono hb⟩
theorem zg1.snoc {w:World} {B:Nat} {E:List (Int × Pl.Nv)} {N:List Pl.Ns} (h:zg1 w B E N) {v:Pl.Nv} {x:Pl.Ns} (hx:N[E.length]? =some x) (hv:zj4 w B v (x.Is.map Pl.It.r)):zg1 w B (E++[(x.d,v)]) N:=fun i y hy=>by
 by_cases hi:i<E.length
 ·rw [List.getElem?_append_left hi] at hy;exact h i y hy
 ·rw [List.getElem?_append_right (by omega)] at hy;have hi2:i=E.length:=by have :=(List.getElem?_eq_some_iff.1 hy).1;simp at this;omega
  subst hi2;simp at hy
  subst hy;exact ⟨x,hx,rfl,hv⟩
end Mem
end
end Go.Proofs.YtkighhofjmginaaGreatDoor
