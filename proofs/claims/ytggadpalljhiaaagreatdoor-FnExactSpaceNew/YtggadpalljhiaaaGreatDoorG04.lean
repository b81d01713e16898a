/- Several texts of one claim in one file: MemNodes, MemTrees, MemItems, Mem, MemVars, MemOwnN, MemBlk, WLawN. -/
import Derived.Test.YtggadpalljhiaaaGreatDoorG00
import Derived.Below
import Derived.WalkKit
import Derived.Laws.IdiomStrings
import Derived.Laws.AppendOwn
import Derived.Test.YtggadpalljhiaaaGreatDoorProg
namespace Go.Proofs.YtggadpalljhiaaaGreatDoor
section
open Go.RowKit
namespace Mem
def za7 (w:World) (a:Option Addr) (L:List Pl.Nd):Prop:=
 ∀ (i:Nat) n,L[i]? =some n→∃b o,a=some ⟨b,o,none⟩∧b<w.heap.size∧
  w.cell? ⟨b,o+i*5,none⟩=some (.string n.path)∧w.cell? ⟨b,o+i*5+1,none⟩=some (.int .i64 n.kind)∧w.cell? ⟨b,o+i*5+2,none⟩=some (.string n.data)∧
  w.cell? ⟨b,o+i*5+3,none⟩=some (.int .i64 n.time)∧w.cell? ⟨b,o+i*5+4,none⟩=some (.int .i64 n.mark)
theorem za8 {w w':World} {a:Option Addr} {L:List Pl.Nd} (h:za7 w a L) (b:Below w.heap.size w w'):za7 w' a L:=fun i n hi=>by
 obtain ⟨g,o,h1,h2,h3,h4,h5,h6,h7⟩:=h i n hi;exact ⟨g,o,h1,Nat.lt_of_lt_of_le h2 b.size,(b.cell (p:=⟨g,_,none⟩) h2).trans h3,(b.cell (p:=⟨g,_,none⟩) h2).trans h4,(b.cell (p:=⟨g,_,none⟩) h2).trans h5,(b.cell (p:=⟨g,_,none⟩) h2).trans h6,(b.cell (p:=⟨g,_,none⟩) h2).trans h7⟩
theorem zn5 (b o j:Nat):(⟨b,o,none⟩:Addr).add j=⟨b,o+j,none⟩:=by unfold Addr.add;split <;> simp_all
theorem zy1 (w:World) (a:Option Addr):za7 w a []:=fun i n hi=>by simp at hi
end Mem
end
section
open Go.RowKit
namespace Pl
structure Tr where
 a:Option Addr
 cap:Nat
 L:List Nd
def Tr.val (t:Tr):Value:= .slice t.a t.L.length t.cap
end Pl
namespace Mem
end Mem
end
section
open Go.RowKit
namespace Pl
structure It where
 m:Int
 t:Tr
def It.r (x:It):Int × List Nd:=(x.m,x.t.L)
end Pl
namespace Mem
def zb0 (w:World) (a:Option Addr) (Is:List Pl.It):Prop:=
 ∀ (i:Nat) x,Is[i]? =some x→(∃b o,a=some ⟨b,o,none⟩∧b<w.heap.size∧w.cell? ⟨b,o+i*2,none⟩=some (.int .i64 x.m)∧w.cell? ⟨b,o+i*2+1,none⟩=some x.t.val)∧za7 w x.t.a x.t.L
theorem zc2 {w w':World} {a:Option Addr} {Is:List Pl.It} (h:zb0 w a Is) (b:Below w.heap.size w w'):zb0 w' a Is:=fun i t hi=>by
 obtain ⟨⟨g,o,h1,h2,h3,h5⟩,h4⟩:=h i t hi;exact ⟨⟨g,o,h1,Nat.lt_of_lt_of_le h2 b.size,(b.cell (p:=⟨g,_,none⟩) h2).trans h3,(b.cell (p:=⟨g,_,none⟩) h2).trans h5⟩,za8 h4 b⟩
theorem items_nil (w:World) (a:Option Addr):zb0 w a []:=fun i n hi=>by simp at hi
theorem items_drop {w:World} {b o:Nat} {Is:List Pl.It} (k:Nat) (h:zb0 w (some ⟨b,o,none⟩) Is):zb0 w (some ⟨b,o+k*2,none⟩) (Is.drop k):=fun i t hi=>by
 rw [List.getElem?_drop] at hi;obtain ⟨⟨g,o',h1,h2,h3,h5⟩,h4⟩:=h _ t hi;cases h1
 refine ⟨⟨b,_,rfl,h2,?_,?_⟩,h4⟩
 ·rw [show o+k*2+i*2=o+(k+i)*2 by omega];exact h3
 ·rw [show o+k*2+i*2+1=o+(k+i)*2+1 by omega];exact h5
def shifted (a a':Option Addr) (k:Nat) (Is:List Pl.It):Prop:=Is.drop k=[]∨∃b o,a=some ⟨b,o,none⟩∧a'=some ⟨b,o+k*2,none⟩
theorem items_shift {w:World} {a a':Option Addr} {k:Nat} {Is:List Pl.It} (h:zb0 w a Is) (hs:shifted a a' k Is):zb0 w a' (Is.drop k):=by
 rcases hs with hs|⟨b,o,rfl,rfl⟩
 ·rw [hs];exact items_nil _ _
 ·exact items_drop k h
theorem shifted_trans {a a' a'':Option Addr} {k j:Nat} {Is:List Pl.It} (h:shifted a a' k Is) (h':shifted a' a'' j (Is.drop k)):shifted a a'' (k+j) Is:=by
 rcases h' with h'|⟨b,o,e1,e2⟩
 ·rw [List.drop_drop] at h';exact .inl h'
 ·rcases h with h|⟨b1,o1,e3,e4⟩
  ·left;rw [←List.drop_drop,h,List.drop_nil]
  ·rw [e4] at e1;cases e1
   exact .inr ⟨_,o1,e3,by rw [e2];congr 2;omega⟩
end Mem
end
section
open Go.RowKit
namespace Mem
theorem add_lit (b j:Nat):(⟨b,0,none⟩:Addr).add j=⟨b,j,none⟩:=by unfold Addr.add;split <;> simp_all

theorem row_text {P:Program} {src dst e:TypeId} (hs:P.underlying src=some (.slice e)) (he:P.underlying e=some (.int .u8)) (hd:P.underlying dst=some .string)
  {w:World} {g n cap:Nat} {cur:Array Value} {t:TypeId} (l:List UInt8) (hn:l.length=n) (hg:w.heap[g]? =some (.cells cur t (0,0))) (ht:cur.toList.take n=l.map Pl.zd6):
  (convert src dst (.slice (some ⟨g,0,none⟩) n cap)).run P w= .ok (.string ⟨l.toArray⟩) w:=by
 subst hn;refine run_convert_bytes_back w src dst e ⟨g,0,none⟩ cap l hs he hd (fun j hj=>?_);rw [add_lit,cell_of_row w g j cur t (0,0) hg];have h1:(cur.toList.take l.length)[j]? =(l.map Pl.zd6)[j]?:=by rw [ht]
 rw [List.getElem?_take_of_lt (by omega)] at h1
 simpa [Pl.zd6,hj] using h1

theorem zg9 {B:Nat} {a w w1:World} {o:Obj} {e:TypeId} {size n:Nat} {v:Value} {xs:List Value} (h:Below B a w) (hB:B≤a.heap.size) (hown:w.ownsRow B e size v n xs) (hg:(w.alloc o).grownBy w1 v.ownBlock):Below B a w1:=
 have hs:=h.size
 (h.alloc (by omega) o).grown hg (by simp;omega) (fun k hk=>(hown.lt k hk).1)

theorem zo0 (w:World) (v:Value) (e:TypeId):∀j u,[v][j]? =some u→(w.alloc (.cells #[v] e)).cell? ((⟨w.heap.size,0,none⟩:Addr).add j)=some u:=by
 intro j u hj
 match j,hj with
 |0,hj=>simp at hj;subst hj;rw [add_lit];simp
 |j+1,hj=>simp at hj
theorem zb1 {w:World} {g j:Nat} {cur:Array Value} {t:TypeId} (hg:w.heap[g]? =some (.cells cur t (0,0))):w.frozen? ⟨g,j,none⟩=false:=by
 simp [World.frozen?,hg]
def zeros (n:Nat):Array Value:=madeCells (Value.int .u8 0).cells n
theorem zeros_size (n:Nat):(zeros n).size=n:=size_madeCells _ _
theorem make_bytes {P:Program} {T E:TypeId} (ht:P.underlying T=some (.slice E)) (hi:(P.info? E).map (fun i=>(i.zero,i.size,i.bytes))=some (some (.int .u8 0),1,1)) (n:Nat) (hn:n≤1000000000) (w:World):
  (Instr.makeSlice T (.int .i64 (n:Int)) (.int .i64 (n:Int))).run P w= .ok (.slice (some ⟨w.heap.size,0,none⟩) n n) (w.alloc (.cells (zeros n) E)):=by
 obtain ⟨i0,h0,h1,h2,h3⟩:=info_parts hi;have h:=run_make (P:=P) w T E i0 (.int .u8 0) ht h0 h1 .i64 .i64 (n:Int) (n:Int) (by omega) (Int.le_refl _) (by rw [h3];omega) (by omega);rw [h,h2];simp [zeros]

theorem bytes_one (l:List UInt8):∀v∈l.map Pl.zd6,v.oneCell'=true:=by
 intro v hv;obtain ⟨b,_,rfl⟩:=List.mem_map.1 hv;rfl
theorem copy_on {P:Program} {dT sT E:TypeId} (hu:P.underlying dT=some (.slice E)) (hz:∀w,(sizeOf E).run P w= .ok 1 w) (w:World) (B p N:Nat) (cur:Array Value)
  (hB:w.heap[B]? =some (.cells cur E (0,0))) (hc:cur.size=N) (t:ByteArray) (hfit:p+t.size≤N):
  ∃D w',(∀wx,(Instr.slice dT (.slice (some ⟨B,0,none⟩) N N) (some (.int .i64 (p:Int))) none none).run P wx= .ok D wx)∧
   (∀ty,(Builtin.copy_ #[dT,sT] ty #[D, .string t]).run P w= .ok (.int .i64 (t.size:Int)) w')∧
   w'.heap[B]? =some (.cells (cur.toList.take p++t.data.toList.map Pl.zd6++cur.toList.drop (p+t.size)).toArray E (0,0))∧Below B w w':=by
 have ht:P.underlying dT=some (.slice (P.elem dT)):=by simp [Program.elem,hu]
 have he:P.elem dT=E:=by simp [Program.elem,hu]
 have hsl:∀wx,(Instr.slice dT (.slice (some ⟨B,0,none⟩) N N) (some (.int .i64 (p:Int))) none none).run P wx= .ok (sliced (some ⟨B,0,none⟩) p N N 1) wx:=by
  intro wx;have h:=run_slice_l (P:=P) wx dT (some ⟨B,0,none⟩) N N ht .i64 (p:Int) (by omega) (by omega);rw [h,he,hz];rfl
 by_cases hp:p=N
 ·subst hp;have h0:t.size=0:=by omega
  have hd:t.data=#[]:=Array.eq_empty_of_size_eq_zero h0;refine ⟨.slice (some ⟨B,0,none⟩) 0 0,w,?_,?_,?_,Below.refl _ _⟩
  ·intro wx;rw [hsl];simp [sliced]
  ·intro ty;simp [Builtin.copy_,run_underlying hu,Builtin.lenOf,Builtin.firstCells,hz,h0,goInt,storeCells]
  ·rw [hB,h0,hd];simp
 ·have hlt:p<N:=by omega
  have hlen:(t.data.toList.map Pl.zd6).length=t.size:=by rw [List.length_map];rfl
  have hst:=run_storeCells_at P B p E (t.data.toList.map Pl.zd6) 0 cur w hB (by rw [hlen];omega) (bytes_one _);rw [hlen] at hst;simp only [Nat.add_zero] at hst;refine ⟨.slice (some ⟨B,p,none⟩) (N - p) (N - p),_,?_,?_,setRow_heap w B cur _ E _ hB,?_⟩
  ·intro wx;rw [hsl];have h1:¬N=p:=fun h=>hp h.symm;simp [sliced,h1,add_lit]
  ·intro ty;have hmin:Nat.min t.size (N - p)=t.size:=Nat.min_eq_left (by omega)
   have htk:List.take t.size (List.map (fun b:UInt8=>Value.int IntKind.u8 (b.toNat:Int)) t.data.toList)=t.data.toList.map Pl.zd6:=by
    rw [List.take_of_length_le (by rw [List.length_map];exact Nat.le_refl _)];rfl
   simp [Builtin.copy_,run_underlying hu,Builtin.lenOf,Builtin.firstCells,hz,hmin]
   rw [htk,hst,List.append_assoc];rfl
  ·exact ⟨rfl,rfl,rfl,by simp,fun k hk=>setRow_other w B k _ (by omega)⟩
theorem own_mono {w:World} {B B' e size n:Nat} {v:Value} {xs:List Value} (h:w.ownsRow B e size v n xs) (hb:B'≤B):w.ownsRow B' e size v n xs:=by
 refine ⟨h.1,?_⟩
 rcases h.2 with h0|⟨g,cap,cur,hv,hg,rest⟩
 ·exact .inl h0
 ·exact .inr ⟨g,cap,cur,hv,Nat.le_trans hb hg,rest⟩
theorem za4 {w:World} {B e size n:Nat} {v:Value} {xs:List Value} (h:w.ownsRow B e size v n xs):∃a cap,v= .slice a n cap:=by
 rcases h.2 with ⟨rfl,rfl⟩|⟨g,cap,cur,rfl,_⟩
 ·exact ⟨_,_,rfl⟩
 ·exact ⟨_,_,rfl⟩
end Mem
end
section
open Go.RowKit
namespace Mem
def Var (w:World) (B:Nat) (cs:List Value):Prop:=B<w.heap.size∧∀ (j:Nat) v,cs[j]? =some v→w.cell? ⟨B,j,none⟩=some v
theorem zi8 {w w':World} {B:Nat} {cs:List Value} (h:Var w B cs) (b:Below w.heap.size w w'):Var w' B cs:=
 ⟨Nat.lt_of_lt_of_le h.1 b.size,fun j v hv=>(b.cell (p:=⟨B,j,none⟩) h.1).trans (h.2 j v hv)⟩
theorem ze5 (w:World) (cs:List Value) (T:TypeId):Var (w.alloc (.cells cs.toArray T)) w.heap.size cs:=
 ⟨by simp,fun j v hv=>by rw [cell_of_row _ _ j _ T (0,0) (heap_alloc_new w _)];simpa using hv⟩
theorem var_alloc {w:World} {B:Nat} {cs:List Value} (h:Var w B cs) (o:Obj):Var (w.alloc o) B cs:=
 zi8 h ((Below.refl _ _).alloc (Nat.le_refl _) o)
theorem zl8 (w:World) (o1 o2:Obj):((w.alloc o1).alloc o2).heap[w.heap.size+1]? =some o2:=by
 have h:=heap_alloc_new (w.alloc o1) o2
 rwa [show (w.alloc o1).heap.size=w.heap.size+1 by simp] at h
theorem zn4 (w:World) (o1 o2 o3:Obj):(((w.alloc o1).alloc o2).alloc o3).heap[w.heap.size+1]? =some o2:=
 ((World.grownBy_alloc ((w.alloc o1).alloc o2) o3 none).block (w.heap.size+1) (by simp) (by simp)).trans (zl8 w o1 o2)
theorem zk0 (w:World) (o1 o2 o3:Obj):(((w.alloc o1).alloc o2).alloc o3).heap[w.heap.size+1+1]? =some o3:=by
 have h:=heap_alloc_new ((w.alloc o1).alloc o2) o3
 rwa [show ((w.alloc o1).alloc o2).heap.size=w.heap.size+1+1 by simp] at h
end Mem
end
section
open Go.RowKit
namespace Pl
def Nd.cs (n:Nd):List Value:=[.string n.path, .int .i64 n.kind, .string n.data, .int .i64 n.time, .int .i64 n.mark]
def zd1 (L:List Nd):List Value:=L.flatMap Nd.cs
theorem zl (L:List Nd):(zd1 L).length=L.length*5:=by
 induction L with
 |nil=>rfl
 |cons n L ih=>rw [zd1,List.flatMap_cons,List.length_append,←zd1,ih,List.length_cons];simp [Nd.cs];omega
theorem cellsN_cons (n:Nd) (L:List Nd):zd1 (n::L)=n.cs++zd1 L:=by simp [zd1]
theorem yb1 (L M:List Nd):zd1 (L++M)=zd1 L++zd1 M:=by simp [zd1]
theorem zw1 (L:List Nd) (i:Nat) (n:Nd) (h:L[i]? =some n) (j:Nat) (hj:j<5):(zd1 L)[i*5+j]? =n.cs[j]?:=by
 induction L generalizing i with
 |nil=>simp at h
 |cons m L ih=>
  rw [cellsN_cons];have hl:m.cs.length=5:=rfl
  match i,h with
  |0,h=>
   simp at h;subst h
   rw [List.getElem?_append_left (by rw [hl];omega)];simp
  |i+1,h=>
   rw [List.getElem?_append_right (by rw [hl];omega),hl,show (i+1)*5+j - 5=i*5+j by omega];exact ih i (by simpa using h)
end Pl
namespace Mem
def ownN (w:World) (B:Nat) (v:Value) (L:List Pl.Nd):Prop:=w.ownsRow B 106 5 v L.length (Pl.zd1 L)
theorem ownN_is {w:World} {B:Nat} {v:Value} {L:List Pl.Nd} (h:ownN w B v L):∃a cap,v= .slice a L.length cap∧za7 w a L:=by
 rcases h.2 with ⟨rfl,h0⟩|⟨g,cap,cur,rfl,hb,hg,hc,hm,hsz,ht⟩
 ·exact ⟨none,0,by rw [h0],fun i n hi=>by rw [List.length_eq_zero_iff.1 h0] at hi;simp at hi⟩
 ·refine ⟨some ⟨g,0,none⟩,cap,rfl,fun i n hi=>?_⟩;have hlt:i<L.length:=(List.getElem?_eq_some_iff.1 hi).1
  have c:∀j,j<5→w.cell? ⟨g,0+i*5+j,none⟩=n.cs[j]?:=fun j hj=>by
   rw [cell_of_row w g _ cur _ (0,0) hg,Nat.zero_add,←Pl.zw1 L i n hi j hj,←ht,List.getElem?_take_of_lt (by omega),Array.getElem?_toList]
  exact ⟨g,0,rfl,(Array.getElem?_eq_some_iff.1 hg).1,c 0 (by omega),c 1 (by omega),c 2 (by omega),c 3 (by omega),c 4 (by omega)⟩
theorem cs_one (n:Pl.Nd):∀u∈n.cs,u.oneCell'=true:=by
 intro u hu;simp only [Pl.Nd.cs,List.mem_cons,List.not_mem_nil,or_false] at hu
 rcases hu with rfl |rfl |rfl |rfl |rfl <;> rfl
theorem cs_new (w:World) (n:Pl.Nd) (T:TypeId):∀j u,n.cs[j]? =some u→(w.alloc (.cells n.cs.toArray T)).cell? ((⟨w.heap.size,0,none⟩:Addr).add j)=some u:=by
 intro j u hj;rw [Mem.add_lit];exact (Mem.ze5 w n.cs T).2 j u hj
theorem ownN_snoc {w:World} {B:Nat} {v:Value} {L:List Pl.Nd} {n:Pl.Nd} (h:w.ownsRow B 106 5 v (L.length+1) (Pl.zd1 L++n.cs)):ownN w B v (L++[n]):=by
 unfold ownN;rw [Pl.yb1,List.length_append];have e:Pl.zd1 [n]=n.cs:=by simp [Pl.zd1]
 rw [e];exact h
theorem zp7 {w w':World} {B:Nat} {v:Value} {L:List Pl.Nd} (h:ownN w B v L) (b:Below w.heap.size w w'):ownN w' B v L:=by
 refine ⟨h.1,?_⟩
 rcases h.2 with h0|⟨g,cap,cur,hv,hb,hg,rest⟩
 ·exact .inl h0
 ·exact .inr ⟨g,cap,cur,hv,hb,(b.block _ (Array.getElem?_eq_some_iff.1 hg).1).trans hg,rest⟩
theorem zp3 {w:World} {B B':Nat} {v:Value} {L:List Pl.Nd} (h:ownN w B v L) (hb:B'≤B):ownN w B' v L:=own_mono h hb
end Mem
end
section
open Go.RowKit
namespace Mem
def Blk (w:World) (X:Nat) (cs:Array Value) (T:TypeId):Prop:=w.heap[X]? =some (.cells cs T (0,0))
theorem Blk.lt {w:World} {X:Nat} {cs:Array Value} {T:TypeId} (h:Blk w X cs T):X<w.heap.size:=(Array.getElem?_eq_some_iff.1 h).1
theorem Blk.cell {w:World} {X:Nat} {cs:Array Value} {T:TypeId} (h:Blk w X cs T) (k:Nat):w.cell? ⟨X,k,none⟩=cs[k]?:=cell_of_row w X k cs T (0,0) h
theorem Blk.fr {w:World} {X:Nat} {cs:Array Value} {T:TypeId} (h:Blk w X cs T) (k:Nat):w.frozen? ⟨X,k,none⟩=false:=zb1 h
theorem Blk.call {w w':World} {X:Nat} {cs:Array Value} {T:TypeId} (h:Blk w X cs T) (b:Below w.heap.size w w'):Blk w' X cs T:=(b.block _ h.lt).trans h
theorem Blk.alloc {w:World} {X:Nat} {cs:Array Value} {T:TypeId} (h:Blk w X cs T) (o:Obj):Blk (w.alloc o) X cs T:=h.call ((Below.refl _ _).alloc (Nat.le_refl _) o)
theorem Blk.new (w:World) (cs:Array Value) (T:TypeId):Blk (w.alloc (.cells cs T)) w.heap.size cs T:=heap_alloc_new w _
theorem Blk.grown {w w':World} {X:Nat} {cs:Array Value} {T:TypeId} {r:Option Nat} (h:Blk w X cs T) (g:w.grownBy w' r) (hr:some X≠r):Blk w' X cs T:=(g.block _ h.lt hr).trans h
theorem Blk.put {w:World} {X:Nat} {cs:Array Value} {T:TypeId} (h:Blk w X cs T) (k:Nat) (v:Value):Blk (w.setCell ⟨X,k,none⟩ v) X (cs.setIfInBounds k v) T:=heap_setCell_same w X k cs T v h
theorem Blk.far {w:World} {X:Nat} {cs:Array Value} {T:TypeId} (h:Blk w X cs T) (a:Addr) (v:Value) (ha:X≠a.block):Blk (w.setCell a v) X cs T:=(heap_setCell_other w a X v ha).trans h
theorem ownN_set {w:World} {B:Nat} {v:Value} {L:List Pl.Nd} (h:ownN w B v L) (a:Addr) (u:Value) (ha:a.block<B):ownN (w.setCell a u) B v L:=by
 refine ⟨h.1,?_⟩
 rcases h.2 with h0|⟨g,cap,cur,hv,hb,hg,rest⟩
 ·exact .inl h0
 ·exact .inr ⟨g,cap,cur,hv,hb,(heap_setCell_other w a g u (by omega)).trans hg,rest⟩
theorem ownN_far {w:World} {B:Nat} {v:Value} {L:List Pl.Nd} (h:ownN w B v L) (a:Addr) (u:Value) (ha:∀g,v.ownBlock=some g→a.block≠g):ownN (w.setCell a u) B v L:=by
 refine ⟨h.1,?_⟩
 rcases h.2 with h0|⟨g,cap,cur,rfl,hb,hg,rest⟩
 ·exact .inl h0
 ·exact .inr ⟨g,cap,cur,rfl,hb,(heap_setCell_other w a g u (fun e=>ha g rfl e.symm)).trans hg,rest⟩
theorem zv9 {w:World} {B:Nat} {v:Value} {L:List Pl.Nd} (h:ownN w B v L) (o:Obj):ownN (w.alloc o) B v L:=zp7 h ((Below.refl _ _).alloc (Nat.le_refl _) o)
theorem zk8 {w:World} {B:Nat} {v:Value} {L:List Pl.Nd} (h:ownN w B v L):∀g,v.ownBlock=some g→B≤g∧g<w.heap.size:=fun g hg=>World.ownsRow.lt h g hg
theorem ownN_nodes {w:World} {B n cap:Nat} {a:Option Addr} {L:List Pl.Nd} (h:ownN w B (.slice a n cap) L):n=L.length∧za7 w a L:=by
 obtain ⟨a',cap',e,hn⟩:=ownN_is h
 injection e with e1 e2 e3
 subst e1 e2 e3;exact ⟨rfl,hn⟩
theorem nodes_grown {w w':World} {g o:Nat} {r:Option Nat} {L:List Pl.Nd} (h:za7 w (some ⟨g,o,none⟩) L) (hg:w.grownBy w' r) (hr:some g≠r):za7 w' (some ⟨g,o,none⟩) L:=fun i n hi=>by
 obtain ⟨g',o',h1,h2,h3,h4,h5,h6,h7⟩:=h i n hi;cases h1
 exact ⟨g,o,rfl,Nat.lt_of_lt_of_le h2 hg.size,hg.cell h3 hr,hg.cell h4 hr,hg.cell h5 hr,hg.cell h6 hr,hg.cell h7 hr⟩
theorem ya4 {w w':World} {B:Nat} {v:Value} {r:Option Nat} {L:List Pl.Nd} (h:ownN w B v L) (hg:w.grownBy w' r) (hr:∀g,v.ownBlock=some g→some g≠r):ownN w' B v L:=by
 refine ⟨h.1,?_⟩
 rcases h.2 with h0|⟨g,cap,cur,rfl,hb,hh,rest⟩
 ·exact .inl h0
 ·exact .inr ⟨g,cap,cur,rfl,hb,(hg.block g (Array.getElem?_eq_some_iff.1 hh).1 (hr g rfl)).trans hh,rest⟩
theorem zb8 {w w':World} (b:Below w.heap.size w w') (r:Option Nat):w.grownBy w' r:=⟨b.os,b.tape,b.output,b.size,fun j hj _=>b.block j hj⟩
end Mem
end
section
open Go.RowKit
namespace WLaw
set_option maxRecDepth 100000 in
theorem szNode_any (n:Pl.Nd) (left:Int) (w:World) (hp:n.path.size≤maxLen) (hd:n.data.size≤maxLen) (h0:0≤left) (h1:left≤1048576):
  Calls Tryz.prog 71 #[n.val, .int .i64 left] w fun e w'=>(∃r:Int,e= .returned (.int .i64 r)∧(r= -1∨0≤r∧r+n.path.size+n.data.size=left))∧Below w.heap.size w w':=by
 obtain ⟨p,k,d,t,m⟩:=n;simp only at hp hd;unfold maxLen at hp hd;simp only [Pl.Nd.val];have hb:∀o,Below w.heap.size w (w.alloc o):=fun o=>(Below.refl _ _).alloc (Nat.le_refl _) o;have HB:=hide hb;clear hb;by_cases h2:left<(p.size:Int)
 ·have t2:left - (p.size:Int)<0:=by omega
  go_enter Tryz.func71,Tryz.ntmps71
  go_wp2
  go_ret
  exact ⟨⟨-1,rfl, .inl rfl⟩,za HB _⟩
 have t2:¬left - (p.size:Int)<0:=by omega
 by_cases h3:left<(p.size:Int)+(d.size:Int)
 ·have t3:left - (p.size:Int) - (d.size:Int)<0:=by omega
  go_enter Tryz.func71,Tryz.ntmps71
  go_wp2
  go_ret
  exact ⟨⟨-1,rfl, .inl rfl⟩,za HB _⟩
 ·have t3:¬left - (p.size:Int) - (d.size:Int)<0:=by omega
  go_enter Tryz.func71,Tryz.ntmps71
  go_wp2
  go_ret
  exact ⟨⟨_,rfl, .inr ⟨by omega,by omega⟩⟩,za HB _⟩
set_option maxRecDepth 100000 in
theorem toNode_any (n:Pl.Nd) (w:World):
  Calls Tryz.prog 74 #[n.val] w fun e w'=>e= .returned n.val∧Below w.heap.size w w':=by
 obtain ⟨p,k,d,t,m⟩:=n;simp only [Pl.Nd.val];go_enter Tryz.func74,Tryz.ntmps74
 go_wp2
 refine bodyPost_ret (v:= .agg #[.string p, .int .i64 k, .string d, .int .i64 t, .int .i64 m]) (by simp [results,Tryz.results74,go_sem]) rfl ⟨rfl,?_⟩;exact (((Below.refl _ _).alloc (Nat.le_refl _) _).alloc (by simp) _).alloc (by simp;omega) _
end WLaw
end
end Go.Proofs.YtggadpalljhiaaaGreatDoor
