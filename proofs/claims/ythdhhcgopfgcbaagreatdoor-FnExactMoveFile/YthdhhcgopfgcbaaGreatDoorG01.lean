/- Several texts of one claim in one file: Mem, MemVars, MemNodes, MemOwnN, MemBlk, TakeC, MapN, WWords, WName, MemTexts, WNames, WBothI, WLess, Drawn, LaySort, WOrder, TakeK, TakeB, WJoin. -/
import Derived.Test.YthdhhcgopfgcbaaGreatDoorG00
import Derived.Shelf.SlSortCmp.NoneTotal
import Derived.Lib.QuietBelow
namespace Go.Proofs.YthdhhcgopfgcbaaGreatDoor
section
open Go.RowKit
namespace Mem
theorem add_lit (b j:Nat):(⟨b,0,none⟩:Addr).add j=⟨b,j,none⟩:=by unfold Addr.add;split <;> simp_all

theorem row_text {P:Program} {src dst e:TypeId} (hs:P.underlying src=some (.slice e)) (he:P.underlying e=some (.int .u8)) (hd:P.underlying dst=some .string)
  {w:World} {g n cap:Nat} {cur:Array Value} {t:TypeId} (l:List UInt8) (hn:l.length=n) (hg:w.heap[g]? =some (.cells cur t (0,0))) (ht:cur.toList.take n=l.map Pl.zh4):
  (convert src dst (.slice (some ⟨g,0,none⟩) n cap)).run P w= .ok (.string ⟨l.toArray⟩) w:=by
 subst hn;refine run_convert_bytes_back w src dst e ⟨g,0,none⟩ cap l hs he hd (fun j hj=>?_);rw [add_lit,cell_of_row w g j cur t (0,0) hg];have h1:(cur.toList.take l.length)[j]? =(l.map Pl.zh4)[j]?:=by rw [ht]
 rw [List.getElem?_take_of_lt (by omega)] at h1
 simpa [Pl.zh4,hj] using h1

theorem zl7 {B:Nat} {a w w1:World} {o:Obj} {e:TypeId} {size n:Nat} {v:Value} {xs:List Value} (h:Below B a w) (hB:B≤a.heap.size) (hown:w.ownsRow B e size v n xs) (hg:(w.alloc o).grownBy w1 v.ownBlock):Below B a w1:=
 have hs:=h.size
 (h.alloc (by omega) o).grown hg (by simp;omega) (fun k hk=>(hown.lt k hk).1)

theorem zh5 (w:World) (v:Value) (e:TypeId):∀j u,[v][j]? =some u→(w.alloc (.cells #[v] e)).cell? ((⟨w.heap.size,0,none⟩:Addr).add j)=some u:=by
 intro j u hj
 match j,hj with
 |0,hj=>simp at hj;subst hj;rw [add_lit];simp
 |j+1,hj=>simp at hj
theorem zg1 {w:World} {g j:Nat} {cur:Array Value} {t:TypeId} (hg:w.heap[g]? =some (.cells cur t (0,0))):w.frozen? ⟨g,j,none⟩=false:=by
 simp [World.frozen?,hg]
def zeros (n:Nat):Array Value:=madeCells (Value.int .u8 0).cells n
theorem zeros_size (n:Nat):(zeros n).size=n:=size_madeCells _ _
theorem make_bytes {P:Program} {T E:TypeId} (ht:P.underlying T=some (.slice E)) (hi:(P.info? E).map (fun i=>(i.zero,i.size,i.bytes))=some (some (.int .u8 0),1,1)) (n:Nat) (hn:n≤1000000000) (w:World):
  (Instr.makeSlice T (.int .i64 (n:Int)) (.int .i64 (n:Int))).run P w= .ok (.slice (some ⟨w.heap.size,0,none⟩) n n) (w.alloc (.cells (zeros n) E)):=by
 obtain ⟨i0,h0,h1,h2,h3⟩:=info_parts hi;have h:=run_make (P:=P) w T E i0 (.int .u8 0) ht h0 h1 .i64 .i64 (n:Int) (n:Int) (by omega) (Int.le_refl _) (by rw [h3];omega) (by omega);rw [h,h2];simp [zeros]

theorem bytes_one (l:List UInt8):∀v∈l.map Pl.zh4,v.oneCell'=true:=by
 intro v hv;obtain ⟨b,_,rfl⟩:=List.mem_map.1 hv;rfl
theorem copy_on {P:Program} {dT sT E:TypeId} (hu:P.underlying dT=some (.slice E)) (hz:∀w,(sizeOf E).run P w= .ok 1 w) (w:World) (B p N:Nat) (cur:Array Value)
  (hB:w.heap[B]? =some (.cells cur E (0,0))) (hc:cur.size=N) (t:ByteArray) (hfit:p+t.size≤N):
  ∃D w',(∀wx,(Instr.slice dT (.slice (some ⟨B,0,none⟩) N N) (some (.int .i64 (p:Int))) none none).run P wx= .ok D wx)∧
   (∀ty,(Builtin.copy_ #[dT,sT] ty #[D, .string t]).run P w= .ok (.int .i64 (t.size:Int)) w')∧
   w'.heap[B]? =some (.cells (cur.toList.take p++t.data.toList.map Pl.zh4++cur.toList.drop (p+t.size)).toArray E (0,0))∧Below B w w':=by
 have ht:P.underlying dT=some (.slice (P.elem dT)):=by simp [Program.elem,hu]
 have he:P.elem dT=E:=by simp [Program.elem,hu]
 have hsl:∀wx,(Instr.slice dT (.slice (some ⟨B,0,none⟩) N N) (some (.int .i64 (p:Int))) none none).run P wx= .ok (sliced (some ⟨B,0,none⟩) p N N 1) wx:=by
  intro wx;have h:=run_slice_l (P:=P) wx dT (some ⟨B,0,none⟩) N N ht .i64 (p:Int) (by omega) (by omega);rw [h,he,hz];rfl
 by_cases hp:p=N
 ·subst hp;have h0:t.size=0:=by omega
  have hd:t.data=#[]:=Array.eq_empty_of_size_eq_zero h0;refine ⟨.slice (some ⟨B,0,none⟩) 0 0,w,?_,?_,?_,Below.refl _ _⟩
  ·intro wx;rw [hsl];simp [sliced]
  ·intro ty;simp [Builtin.copy_,run_underlying hu,Builtin.lenOf,Builtin.firstCells,hz,h0,goInt,storeCells]
  ·rw [hB,h0,hd];simp
 ·have hlt:p<N:=by omega
  have hlen:(t.data.toList.map Pl.zh4).length=t.size:=by rw [List.length_map];rfl
  have hst:=run_storeCells_at P B p E (t.data.toList.map Pl.zh4) 0 cur w hB (by rw [hlen];omega) (bytes_one _);rw [hlen] at hst;simp only [Nat.add_zero] at hst;refine ⟨.slice (some ⟨B,p,none⟩) (N - p) (N - p),_,?_,?_,setRow_heap w B cur _ E _ hB,?_⟩
  ·intro wx;rw [hsl];have h1:¬N=p:=fun h=>hp h.symm;simp [sliced,h1,add_lit]
  ·intro ty;have hmin:Nat.min t.size (N - p)=t.size:=Nat.min_eq_left (by omega)
   have htk:List.take t.size (List.map (fun b:UInt8=>Value.int IntKind.u8 (b.toNat:Int)) t.data.toList)=t.data.toList.map Pl.zh4:=by
    rw [List.take_of_length_le (by rw [List.length_map];exact Nat.le_refl _)];rfl
   simp [Builtin.copy_,run_underlying hu,Builtin.lenOf,Builtin.firstCells,hz,hmin]
   rw [htk,hst,List.append_assoc];rfl
  ·exact ⟨rfl,rfl,rfl,by simp,fun k hk=>setRow_other w B k _ (by omega)⟩
theorem zr5 {w:World} {B B' e size n:Nat} {v:Value} {xs:List Value} (h:w.ownsRow B e size v n xs) (hb:B'≤B):w.ownsRow B' e size v n xs:=by
 refine ⟨h.1,?_⟩
 rcases h.2 with h0|⟨g,cap,cur,hv,hg,rest⟩
 ·exact .inl h0
 ·exact .inr ⟨g,cap,cur,hv,Nat.le_trans hb hg,rest⟩
theorem za4 {w:World} {B e size n:Nat} {v:Value} {xs:List Value} (h:w.ownsRow B e size v n xs):∃a cap,v= .slice a n cap:=by
 rcases h.2 with ⟨rfl,rfl⟩|⟨g,cap,cur,rfl,_⟩
 ·exact ⟨_,_,rfl⟩
 ·exact ⟨_,_,rfl⟩
end Mem
end
section
open Go.RowKit
namespace Mem
def Var (w:World) (B:Nat) (cs:List Value):Prop:=B<w.heap.size∧∀ (j:Nat) v,cs[j]? =some v→w.cell? ⟨B,j,none⟩=some v
theorem zm1 {w w':World} {B:Nat} {cs:List Value} (h:Var w B cs) (b:Below w.heap.size w w'):Var w' B cs:=
 ⟨Nat.lt_of_lt_of_le h.1 b.size,fun j v hv=>(b.cell (p:=⟨B,j,none⟩) h.1).trans (h.2 j v hv)⟩
theorem zi0 (w:World) (cs:List Value) (T:TypeId):Var (w.alloc (.cells cs.toArray T)) w.heap.size cs:=
 ⟨by simp,fun j v hv=>by rw [cell_of_row _ _ j _ T (0,0) (heap_alloc_new w _)];simpa using hv⟩
theorem yi2 {w:World} {B:Nat} {cs:List Value} (h:Var w B cs) (o:Obj):Var (w.alloc o) B cs:=
 zm1 h ((Below.refl _ _).alloc (Nat.le_refl _) o)
theorem zg4 (w:World) (o1 o2:Obj):((w.alloc o1).alloc o2).heap[w.heap.size+1]? =some o2:=by
 have h:=heap_alloc_new (w.alloc o1) o2
 rwa [show (w.alloc o1).heap.size=w.heap.size+1 by simp] at h
theorem new_mid (w:World) (o1 o2 o3:Obj):(((w.alloc o1).alloc o2).alloc o3).heap[w.heap.size+1]? =some o2:=
 ((World.grownBy_alloc ((w.alloc o1).alloc o2) o3 none).block (w.heap.size+1) (by simp) (by simp)).trans (zg4 w o1 o2)
theorem zp3 (w:World) (o1 o2 o3:Obj):(((w.alloc o1).alloc o2).alloc o3).heap[w.heap.size+1+1]? =some o3:=by
 have h:=heap_alloc_new ((w.alloc o1).alloc o2) o3
 rwa [show ((w.alloc o1).alloc o2).heap.size=w.heap.size+1+1 by simp] at h
end Mem
end
section
open Go.RowKit
namespace Mem
def za2 (w:World) (a:Option Addr) (L:List Pl.Nd):Prop:=
 ∀ (i:Nat) n,L[i]? =some n→∃b o,a=some ⟨b,o,none⟩∧b<w.heap.size∧
  w.cell? ⟨b,o+i*5,none⟩=some (.string n.path)∧w.cell? ⟨b,o+i*5+1,none⟩=some (.int .i64 n.kind)∧w.cell? ⟨b,o+i*5+2,none⟩=some (.string n.data)∧
  w.cell? ⟨b,o+i*5+3,none⟩=some (.int .i64 n.time)∧w.cell? ⟨b,o+i*5+4,none⟩=some (.int .i64 n.mark)
theorem za0 {w w':World} {a:Option Addr} {L:List Pl.Nd} (h:za2 w a L) (b:Below w.heap.size w w'):za2 w' a L:=fun i n hi=>by
 obtain ⟨g,o,h1,h2,h3,h4,h5,h6,h7⟩:=h i n hi;exact ⟨g,o,h1,Nat.lt_of_lt_of_le h2 b.size,(b.cell (p:=⟨g,_,none⟩) h2).trans h3,(b.cell (p:=⟨g,_,none⟩) h2).trans h4,(b.cell (p:=⟨g,_,none⟩) h2).trans h5,(b.cell (p:=⟨g,_,none⟩) h2).trans h6,(b.cell (p:=⟨g,_,none⟩) h2).trans h7⟩
theorem zq9 (b o j:Nat):(⟨b,o,none⟩:Addr).add j=⟨b,o+j,none⟩:=by unfold Addr.add;split <;> simp_all
theorem yd3 (w:World) (a:Option Addr):za2 w a []:=fun i n hi=>by simp at hi
end Mem
end
section
open Go.RowKit
namespace Pl
def Nd.cs (n:Nd):List Value:=[.string n.path, .int .i64 n.kind, .string n.data, .int .i64 n.time, .int .i64 n.mark]
def zc4 (L:List Nd):List Value:=L.flatMap Nd.cs
theorem zk0 (L:List Nd):(zc4 L).length=L.length*5:=by
 induction L with
 |nil=>rfl
 |cons n L ih=>rw [zc4,List.flatMap_cons,List.length_append,←zc4,ih,List.length_cons];simp [Nd.cs];omega
theorem cellsN_cons (n:Nd) (L:List Nd):zc4 (n::L)=n.cs++zc4 L:=by simp [zc4]
theorem yo (L M:List Nd):zc4 (L++M)=zc4 L++zc4 M:=by simp [zc4]
theorem zz7 (L:List Nd) (i:Nat) (n:Nd) (h:L[i]? =some n) (j:Nat) (hj:j<5):(zc4 L)[i*5+j]? =n.cs[j]?:=by
 induction L generalizing i with
 |nil=>simp at h
 |cons m L ih=>
  rw [cellsN_cons];have hl:m.cs.length=5:=rfl
  match i,h with
  |0,h=>
   simp at h;subst h
   rw [List.getElem?_append_left (by rw [hl];omega)];simp
  |i+1,h=>
   rw [List.getElem?_append_right (by rw [hl];omega),hl,show (i+1)*5+j - 5=i*5+j by omega];exact ih i (by simpa using h)
end Pl
namespace Mem
def ownN (w:World) (B:Nat) (v:Value) (L:List Pl.Nd):Prop:=w.ownsRow B 47 5 v L.length (Pl.zc4 L)
theorem zb5 (w:World) (B:Nat):ownN w B (.slice none 0 0) []:=⟨rfl, .inl ⟨rfl,rfl⟩⟩
theorem ownN_is {w:World} {B:Nat} {v:Value} {L:List Pl.Nd} (h:ownN w B v L):∃a cap,v= .slice a L.length cap∧za2 w a L:=by
 rcases h.2 with ⟨rfl,h0⟩|⟨g,cap,cur,rfl,hb,hg,hc,hm,hsz,ht⟩
 ·exact ⟨none,0,by rw [h0],fun i n hi=>by rw [List.length_eq_zero_iff.1 h0] at hi;simp at hi⟩
 ·refine ⟨some ⟨g,0,none⟩,cap,rfl,fun i n hi=>?_⟩;have hlt:i<L.length:=(List.getElem?_eq_some_iff.1 hi).1
  have c:∀j,j<5→w.cell? ⟨g,0+i*5+j,none⟩=n.cs[j]?:=fun j hj=>by
   rw [cell_of_row w g _ cur _ (0,0) hg,Nat.zero_add,←Pl.zz7 L i n hi j hj,←ht,List.getElem?_take_of_lt (by omega),Array.getElem?_toList]
  exact ⟨g,0,rfl,(Array.getElem?_eq_some_iff.1 hg).1,c 0 (by omega),c 1 (by omega),c 2 (by omega),c 3 (by omega),c 4 (by omega)⟩
theorem zm9 (n:Pl.Nd):∀u∈n.cs,u.oneCell'=true:=by
 intro u hu;simp only [Pl.Nd.cs,List.mem_cons,List.not_mem_nil,or_false] at hu
 rcases hu with rfl |rfl |rfl |rfl |rfl <;> rfl
theorem zp1 (w:World) (n:Pl.Nd) (T:TypeId):∀j u,n.cs[j]? =some u→(w.alloc (.cells n.cs.toArray T)).cell? ((⟨w.heap.size,0,none⟩:Addr).add j)=some u:=by
 intro j u hj;rw [Mem.add_lit];exact (Mem.zi0 w n.cs T).2 j u hj
theorem zk5 {w:World} {B:Nat} {v:Value} {L:List Pl.Nd} {n:Pl.Nd} (h:w.ownsRow B 47 5 v (L.length+1) (Pl.zc4 L++n.cs)):ownN w B v (L++[n]):=by
 unfold ownN;rw [Pl.yo,List.length_append];have e:Pl.zc4 [n]=n.cs:=by simp [Pl.zc4]
 rw [e];exact h
theorem zg7 {w w':World} {B:Nat} {v:Value} {L:List Pl.Nd} (h:ownN w B v L) (b:Below w.heap.size w w'):ownN w' B v L:=by
 refine ⟨h.1,?_⟩
 rcases h.2 with h0|⟨g,cap,cur,hv,hb,hg,rest⟩
 ·exact .inl h0
 ·exact .inr ⟨g,cap,cur,hv,hb,(b.block _ (Array.getElem?_eq_some_iff.1 hg).1).trans hg,rest⟩
theorem zb3 {w:World} {B B':Nat} {v:Value} {L:List Pl.Nd} (h:ownN w B v L) (hb:B'≤B):ownN w B' v L:=zr5 h hb
end Mem
end
section
open Go.RowKit
namespace Mem
def Blk (w:World) (X:Nat) (cs:Array Value) (T:TypeId):Prop:=w.heap[X]? =some (.cells cs T (0,0))
theorem Blk.lt {w:World} {X:Nat} {cs:Array Value} {T:TypeId} (h:Blk w X cs T):X<w.heap.size:=(Array.getElem?_eq_some_iff.1 h).1
theorem Blk.cell {w:World} {X:Nat} {cs:Array Value} {T:TypeId} (h:Blk w X cs T) (k:Nat):w.cell? ⟨X,k,none⟩=cs[k]?:=cell_of_row w X k cs T (0,0) h
theorem Blk.fr {w:World} {X:Nat} {cs:Array Value} {T:TypeId} (h:Blk w X cs T) (k:Nat):w.frozen? ⟨X,k,none⟩=false:=zg1 h
theorem Blk.call {w w':World} {X:Nat} {cs:Array Value} {T:TypeId} (h:Blk w X cs T) (b:Below w.heap.size w w'):Blk w' X cs T:=(b.block _ h.lt).trans h
theorem Blk.below {w w':World} {X B:Nat} {cs:Array Value} {T:TypeId} (h:Blk w X cs T) (b:Below B w w') (hX:X<B):Blk w' X cs T:=(b.block _ hX).trans h
theorem Blk.alloc {w:World} {X:Nat} {cs:Array Value} {T:TypeId} (h:Blk w X cs T) (o:Obj):Blk (w.alloc o) X cs T:=h.call ((Below.refl _ _).alloc (Nat.le_refl _) o)
theorem Blk.new (w:World) (cs:Array Value) (T:TypeId):Blk (w.alloc (.cells cs T)) w.heap.size cs T:=heap_alloc_new w _
theorem Blk.grown {w w':World} {X:Nat} {cs:Array Value} {T:TypeId} {r:Option Nat} (h:Blk w X cs T) (g:w.grownBy w' r) (hr:some X≠r):Blk w' X cs T:=(g.block _ h.lt hr).trans h
theorem Blk.put {w:World} {X:Nat} {cs:Array Value} {T:TypeId} (h:Blk w X cs T) (k:Nat) (v:Value):Blk (w.setCell ⟨X,k,none⟩ v) X (cs.setIfInBounds k v) T:=heap_setCell_same w X k cs T v h
theorem Blk.far {w:World} {X:Nat} {cs:Array Value} {T:TypeId} (h:Blk w X cs T) (a:Addr) (v:Value) (ha:X≠a.block):Blk (w.setCell a v) X cs T:=(heap_setCell_other w a X v ha).trans h
theorem za8 {w:World} {B:Nat} {v:Value} {L:List Pl.Nd} (h:ownN w B v L) (a:Addr) (u:Value) (ha:a.block<B):ownN (w.setCell a u) B v L:=by
 refine ⟨h.1,?_⟩
 rcases h.2 with h0|⟨g,cap,cur,hv,hb,hg,rest⟩
 ·exact .inl h0
 ·exact .inr ⟨g,cap,cur,hv,hb,(heap_setCell_other w a g u (by omega)).trans hg,rest⟩
theorem ownN_far {w:World} {B:Nat} {v:Value} {L:List Pl.Nd} (h:ownN w B v L) (a:Addr) (u:Value) (ha:∀g,v.ownBlock=some g→a.block≠g):ownN (w.setCell a u) B v L:=by
 refine ⟨h.1,?_⟩
 rcases h.2 with h0|⟨g,cap,cur,rfl,hb,hg,rest⟩
 ·exact .inl h0
 ·exact .inr ⟨g,cap,cur,rfl,hb,(heap_setCell_other w a g u (fun e=>ha g rfl e.symm)).trans hg,rest⟩
theorem zf5 {w:World} {B:Nat} {v:Value} {L:List Pl.Nd} (h:ownN w B v L) (o:Obj):ownN (w.alloc o) B v L:=zg7 h ((Below.refl _ _).alloc (Nat.le_refl _) o)
theorem ze3 {w:World} {B:Nat} {v:Value} {L:List Pl.Nd} (h:ownN w B v L):∀g,v.ownBlock=some g→B≤g∧g<w.heap.size:=fun g hg=>World.ownsRow.lt h g hg
theorem ze9 {w:World} {B n cap:Nat} {a:Option Addr} {L:List Pl.Nd} (h:ownN w B (.slice a n cap) L):n=L.length∧za2 w a L:=by
 obtain ⟨a',cap',e,hn⟩:=ownN_is h
 injection e with e1 e2 e3
 subst e1 e2 e3;exact ⟨rfl,hn⟩
theorem yd9 {w w':World} {g o:Nat} {r:Option Nat} {L:List Pl.Nd} (h:za2 w (some ⟨g,o,none⟩) L) (hg:w.grownBy w' r) (hr:some g≠r):za2 w' (some ⟨g,o,none⟩) L:=fun i n hi=>by
 obtain ⟨g',o',h1,h2,h3,h4,h5,h6,h7⟩:=h i n hi;cases h1
 exact ⟨g,o,rfl,Nat.lt_of_lt_of_le h2 hg.size,hg.cell h3 hr,hg.cell h4 hr,hg.cell h5 hr,hg.cell h6 hr,hg.cell h7 hr⟩
theorem yl9 {w w':World} {B:Nat} {v:Value} {r:Option Nat} {L:List Pl.Nd} (h:ownN w B v L) (hg:w.grownBy w' r) (hr:∀g,v.ownBlock=some g→some g≠r):ownN w' B v L:=by
 refine ⟨h.1,?_⟩
 rcases h.2 with h0|⟨g,cap,cur,rfl,hb,hh,rest⟩
 ·exact .inl h0
 ·exact .inr ⟨g,cap,cur,rfl,hb,(hg.block g (Array.getElem?_eq_some_iff.1 hh).1 (hr g rfl)).trans hh,rest⟩
theorem zc7 {w w':World} (b:Below w.heap.size w w') (r:Option Nat):w.grownBy w' r:=⟨b.os,b.tape,b.output,b.size,fun j hj _=>b.block j hj⟩
theorem zl2 {w v v':World} {r:Option Nat} (h:w.grownBy v r) (h':v.grownBy v' r):w.grownBy v' r:=
 ⟨h'.os.trans h.os,h'.tape.trans h.tape,h'.output.trans h.output,Nat.le_trans h.size h'.size,fun j hj hne=>(h'.block j (Nat.lt_of_lt_of_le hj h.size) hne).trans (h.block j hj hne)⟩
end Mem
end
section
open Go.RowKit
theorem bE0 {w:World} {o:Obj}:Below w.heap.size w (w.alloc o):=(Below.refl _ _).alloc (Nat.le_refl _) _
theorem jc2 {w:World} {X:Nat} {v0 v1:Value} {l:List Value} {T:TypeId} (h:Mem.Blk w X (v0::v1::l).toArray T):w.cell? ⟨X,0,none⟩=some v0∧w.cell? ⟨X,1,none⟩=some v1:=⟨(h.cell 0).trans rfl,(h.cell 1).trans rfl⟩
theorem jf2 {w:World} {X:Nat} {v0 v1:Value} {l:List Value} {T:TypeId} (h:Mem.Blk w X (v0::v1::l).toArray T):(w.cell? ⟨X,0,none⟩=some v0∧w.cell? ⟨X,1,none⟩=some v1)∧w.frozen? ⟨X,0,none⟩=false∧w.frozen? ⟨X,1,none⟩=false:=⟨jc2 h,h.fr 0,h.fr 1⟩
theorem jc3 {w:World} {X:Nat} {v0 v1 v2:Value} {l:List Value} {T:TypeId} (h:Mem.Blk w X (v0::v1::v2::l).toArray T):w.cell? ⟨X,0,none⟩=some v0∧w.cell? ⟨X,1,none⟩=some v1∧w.cell? ⟨X,2,none⟩=some v2:=⟨(h.cell 0).trans rfl,(h.cell 1).trans rfl,(h.cell 2).trans rfl⟩
theorem jf3 {w:World} {X:Nat} {v0 v1 v2:Value} {l:List Value} {T:TypeId} (h:Mem.Blk w X (v0::v1::v2::l).toArray T):(w.cell? ⟨X,0,none⟩=some v0∧w.cell? ⟨X,1,none⟩=some v1∧w.cell? ⟨X,2,none⟩=some v2)∧w.frozen? ⟨X,0,none⟩=false∧w.frozen? ⟨X,1,none⟩=false∧w.frozen? ⟨X,2,none⟩=false:=⟨jc3 h,h.fr 0,h.fr 1,h.fr 2⟩
theorem jc5 {w:World} {X:Nat} {v0 v1 v2 v3 v4:Value} {l:List Value} {T:TypeId} (h:Mem.Blk w X (v0::v1::v2::v3::v4::l).toArray T):w.cell? ⟨X,0,none⟩=some v0∧w.cell? ⟨X,1,none⟩=some v1∧w.cell? ⟨X,2,none⟩=some v2∧w.cell? ⟨X,3,none⟩=some v3∧w.cell? ⟨X,4,none⟩=some v4:=⟨(h.cell 0).trans rfl,(h.cell 1).trans rfl,(h.cell 2).trans rfl,(h.cell 3).trans rfl,(h.cell 4).trans rfl⟩
theorem jf5 {w:World} {X:Nat} {v0 v1 v2 v3 v4:Value} {l:List Value} {T:TypeId} (h:Mem.Blk w X (v0::v1::v2::v3::v4::l).toArray T):(w.cell? ⟨X,0,none⟩=some v0∧w.cell? ⟨X,1,none⟩=some v1∧w.cell? ⟨X,2,none⟩=some v2∧w.cell? ⟨X,3,none⟩=some v3∧w.cell? ⟨X,4,none⟩=some v4)∧w.frozen? ⟨X,0,none⟩=false∧w.frozen? ⟨X,1,none⟩=false∧w.frozen? ⟨X,2,none⟩=false∧w.frozen? ⟨X,3,none⟩=false∧w.frozen? ⟨X,4,none⟩=false:=⟨jc5 h,h.fr 0,h.fr 1,h.fr 2,h.fr 3,h.fr 4⟩
theorem jc6 {w:World} {X:Nat} {v0 v1 v2 v3 v4 v5:Value} {l:List Value} {T:TypeId} (h:Mem.Blk w X (v0::v1::v2::v3::v4::v5::l).toArray T):w.cell? ⟨X,0,none⟩=some v0∧w.cell? ⟨X,1,none⟩=some v1∧w.cell? ⟨X,2,none⟩=some v2∧w.cell? ⟨X,3,none⟩=some v3∧w.cell? ⟨X,4,none⟩=some v4∧w.cell? ⟨X,5,none⟩=some v5:=⟨(h.cell 0).trans rfl,(h.cell 1).trans rfl,(h.cell 2).trans rfl,(h.cell 3).trans rfl,(h.cell 4).trans rfl,(h.cell 5).trans rfl⟩
theorem jc7 {w:World} {X:Nat} {v0 v1 v2 v3 v4 v5 v6:Value} {l:List Value} {T:TypeId} (h:Mem.Blk w X (v0::v1::v2::v3::v4::v5::v6::l).toArray T):w.cell? ⟨X,0,none⟩=some v0∧w.cell? ⟨X,1,none⟩=some v1∧w.cell? ⟨X,2,none⟩=some v2∧w.cell? ⟨X,3,none⟩=some v3∧w.cell? ⟨X,4,none⟩=some v4∧w.cell? ⟨X,5,none⟩=some v5∧w.cell? ⟨X,6,none⟩=some v6:=⟨(h.cell 0).trans rfl,(h.cell 1).trans rfl,(h.cell 2).trans rfl,(h.cell 3).trans rfl,(h.cell 4).trans rfl,(h.cell 5).trans rfl,(h.cell 6).trans rfl⟩
theorem jc10 {w:World} {X:Nat} {v0 v1 v2 v3 v4 v5 v6 v7 v8 v9:Value} {l:List Value} {T:TypeId} (h:Mem.Blk w X (v0::v1::v2::v3::v4::v5::v6::v7::v8::v9::l).toArray T):w.cell? ⟨X,0,none⟩=some v0∧w.cell? ⟨X,1,none⟩=some v1∧w.cell? ⟨X,2,none⟩=some v2∧w.cell? ⟨X,3,none⟩=some v3∧w.cell? ⟨X,4,none⟩=some v4∧w.cell? ⟨X,5,none⟩=some v5∧w.cell? ⟨X,6,none⟩=some v6∧w.cell? ⟨X,7,none⟩=some v7∧w.cell? ⟨X,8,none⟩=some v8∧w.cell? ⟨X,9,none⟩=some v9:=⟨(h.cell 0).trans rfl,(h.cell 1).trans rfl,(h.cell 2).trans rfl,(h.cell 3).trans rfl,(h.cell 4).trans rfl,(h.cell 5).trans rfl,(h.cell 6).trans rfl,(h.cell 7).trans rfl,(h.cell 8).trans rfl,(h.cell 9).trans rfl⟩
end
section
open Go.RowKit Go.Maps
namespace MapN
def key (p:ByteArray):Lit:= .string p.data.toList
def dat (n:Pl.Nd):DataW Unit:= .agg [.lit (.string n.path.data.toList), .lit (.int .i64 n.kind), .lit (.string n.data.data.toList), .lit (.int .i64 n.time), .lit (.int .i64 n.mark)]
theorem zs5 {a b:Pl.Nd} (h:dat a=dat b):a=b:=by
 obtain ⟨p,k,d,t,m⟩:=a;obtain ⟨p',k',d',t',m'⟩:=b;simp only [dat,DataW.agg.injEq,List.cons.injEq,DataW.lit.injEq,Lit.string.injEq,Lit.int.injEq,and_true,true_and] at h;obtain ⟨h1,h2,h3,h4,h5⟩:=h;have e1:p=p':=Pl.zi3 h1;have e2:d=d':=Pl.zi3 h3;subst e1 e2 h2 h4 h5;rfl
def elem:Value→Option (DataW Unit × List MemPlace)
 | .agg cs=>match cs.toList with
  | [.string p, .int .i64 k, .string d, .int .i64 t, .int .i64 m]=>some (dat ⟨p,k,d,t,m⟩,[])
  |_=>none
 |_=>none
theorem zk3 (n:Pl.Nd):elem n.val=some (dat n,[]):=rfl
theorem zt8 {v:Value} {d:DataW Unit} {ps:List MemPlace} (h:elem v=some (d,ps)):∃n:Pl.Nd,v=n.val∧d=dat n:=by
 unfold elem at h
 split at h
 ·rename_i cs
  split at h
  ·rename_i p k d' t m hcs
   simp only [Option.some.injEq,Prod.mk.injEq] at h;refine ⟨⟨p,k,d',t,m⟩,?_,h.1.symm⟩;rw [Pl.Nd.val,show cs=cs.toList.toArray by simp,hcs]
  ·cases h
 ·cases h
def mapOf (C:List Pl.Nd):DataW Unit:=C.foldl (fun D n=>D.put (key n.path) (dat n)) (.map [])
theorem mapOf_snoc (C:List Pl.Nd) (n:Pl.Nd):mapOf (C++[n])=(mapOf C).put (key n.path) (dat n):=by simp [mapOf,List.foldl_append]
theorem yc1 (p:ByteArray):WideAt.IsKeyLit (key p):=by simp [key,WideAt.IsKeyLit]
theorem zy7 {a b:ByteArray} (h:a≠b):key a≠key b:=fun e=>h (Pl.zi3 (Lit.string.inj e))
theorem isMap_fold:∀ (C:List Pl.Nd) (D:DataW Unit),IsMap D→IsMap (C.foldl (fun D n=>D.put (key n.path) (dat n)) D):=by
 intro C
 induction C with
 |nil=>intro D h;exact h
 |cons n C ih=>intro D h;exact ih _ (h.put _ _)
theorem zq8 (C:List Pl.Nd):IsMap (mapOf C):=isMap_fold C _ isMap_empty
theorem zv2 (p:ByteArray):∀ (C:List Pl.Nd) (D:DataW Unit),(∀n∈C,n.path≠p)→Maps.has (C.foldl (fun D n=>D.put (key n.path) (dat n)) D) (key p)=Maps.has D (key p)∧∀z,(C.foldl (fun D n=>D.put (key n.path) (dat n)) D).atKey (key p) z=D.atKey (key p) z:=by
 intro C
 induction C with
 |nil=>intro D _;exact ⟨rfl,fun _=>rfl⟩
 |cons n C ih=>
  intro D h;have h1:key p≠key n.path:=zy7 (fun e=>h n List.mem_cons_self e.symm);obtain ⟨i1,i2⟩:=ih (D.put (key n.path) (dat n)) (fun m hm=>h m (List.mem_cons_of_mem _ hm));refine ⟨?_,fun z=>?_⟩
  ·show Maps.has (C.foldl _ (D.put (key n.path) (dat n))) (key p)=_;rw [i1,has_put_other h1]
  ·show (C.foldl _ (D.put (key n.path) (dat n))).atKey (key p) z=_;rw [i2,atKey_put_other h1]
theorem zr9 {C:List Pl.Nd} {p:ByteArray} (h:∀n∈C,n.path≠p):Maps.has (mapOf C) (key p)=false:=by
 rw [mapOf,(zv2 p C _ h).1];rfl
theorem zp0 {C:List Pl.Nd} {n:Pl.Nd} (hC:C.Pairwise (fun a b=>a.path≠b.path)) (hn:n∈C):Maps.has (mapOf C) (key n.path)=true∧∀z,(mapOf C).atKey (key n.path) z=dat n:=by
 obtain ⟨A,B,rfl⟩:=List.append_of_mem hn;rw [List.pairwise_append] at hC;have h2:=(List.pairwise_cons.1 hC.2.1).1;have e:mapOf (A++n::B)=B.foldl (fun D n=>D.put (key n.path) (dat n)) ((mapOf A).put (key n.path) (dat n)):=by simp [mapOf,List.foldl_append]
 obtain ⟨i1,i2⟩:=zv2 n.path B ((mapOf A).put (key n.path) (dat n)) (fun m hm e=>h2 m hm e.symm);rw [e];exact ⟨by rw [i1,has_put_same (zq8 A) (yc1 _)],fun z=>by rw [i2,atKey_put_same (zq8 A) (yc1 _)]⟩
theorem law:Keyed Tryz.prog 9:=string_keyed Tryz.underlying9
theorem za6 (w:World):(zeroValue 47).run Tryz.prog w= .ok (Pl.Nd.val ⟨⟨#[]⟩,0,⟨#[]⟩,0,0⟩) w:=by kernel_rfl
theorem zj3 {p:ByteArray} (h:p.size≤maxLen):keyOf Tryz.prog 9 (.string p)=some (key p):=WideMaps.keyOf_string_mk Tryz.underlying9 h
end MapN
end
section
open Go.RowKit
namespace Pl
theorem get_ge (s : ByteArray) (k : Nat) (h : k < s.size) : s.get! k = s[k] := by
  simp [ByteArray.get!, getElem!_pos, h]; rfl
theorem rune_other (s : ByteArray) (pos : Nat) (h : pos < s.size) (hb : s[pos].toNat ≠ 47) :
    ((Utf8.decode s pos).1 ≠ 47) ∧ 1 ≤ (Utf8.decode s pos).2 ∧ pos + (Utf8.decode s pos).2 ≤ s.size ∧ ∀ j (hj : j < s.size), pos ≤ j → j < pos + (Utf8.decode s pos).2 → s[j].toNat ≠ 47 := by
  by_cases ha : s[pos].toNat < 128
  · rw [decode_ascii s pos h ha]
    refine ⟨hb, Nat.le_refl _, h, fun j hj h1 h2 => ?_⟩
    obtain rfl : j = pos := by simp at h2; omega
    exact hb
  · have hh := decode_high s pos h (by omega)
    refine ⟨by omega, hh.2, ?_⟩
    have hg := get_ge s
    have key : pos + (Utf8.decode s pos).2 ≤ s.size ∧ ∀ k, 1 ≤ k → k < (Utf8.decode s pos).2 → (s.get! (pos + k)).toNat / 64 = 2 := by
      have h0 : s.get! (pos + 0) = s[pos] := hg pos h
      simp only [Utf8.decode, h0, ha, if_false]
      repeat' split
      all_goals simp_all
      all_goals first
        | omega
        | (refine ⟨by omega, fun k h1 h2 => ?_⟩
           rcases (show k = 1 ∨ k = 2 ∨ k = 3 by omega) with rfl | rfl | rfl <;> first | omega | (simp_all; done))
    refine ⟨key.1, fun j hj h1 h2 => ?_⟩
    by_cases he : j = pos
    · subst he; exact hb
    · have := key.2 (j - pos) (by omega) (by omega)
      rw [Nat.add_sub_cancel' h1, hg j hj] at this
      omega
theorem cutF_over {s : ByteArray} {fr : Nat} : ∀ n k, k + n ≤ s.size → (∀ j (hj : j < s.size), k ≤ j → j < k + n → s[j].toNat ≠ 47) → cutF s 47 (s.size - k) fr k = cutF s 47 (s.size - (k + n)) fr (k + n) := by
  intro n
  induction n with
  | zero => intro k _ _; rfl
  | succ n ih =>
    intro k hk h
    have hlt : k < s.size := by omega
    have hf : s.size - k = s.size - (k + 1) + 1 := by omega
    rw [hf, yi6 hlt (h k hlt (Nat.le_refl _) (by omega)), ih (k + 1) (by omega) (fun j hj h1 h2 => h j hj (by omega) (by omega))]
    have e : k + 1 + n = k + (n + 1) := by omega
    rw [e]
end Pl
namespace Mem
theorem own_iterAt {w : World} {B e size n : Nat} {v : Value} {xs : List Value} {k : Nat} {s : ByteArray} {pos : Nat} (h : w.ownsRow B e size v n xs) (hk : w.heap[k]? = some (.stringIter s pos)) (pos' : Nat) : (w.iterAt k s pos').ownsRow B e size v n xs := by
  refine ⟨h.1, ?_⟩
  rcases h.2 with h0 | ⟨g, cap, cur, hv, hb, hg, rest⟩
  · exact .inl h0
  · refine .inr ⟨g, cap, cur, hv, hb, ?_, rest⟩
    rw [Lib.iterAt_other _ _ _ _ _ (fun e => by subst e; rw [hk] at hg; cases hg)]
    exact hg
theorem own_no_iter {w : World} {B e size n : Nat} {v : Value} {xs : List Value} {k : Nat} {s : ByteArray} {pos : Nat} (h : w.ownsRow B e size v n xs) (hk : w.heap[k]? = some (.stringIter s pos)) : some k ≠ v.ownBlock := by
  rcases h.2 with ⟨rfl, _⟩ | ⟨g, cap, cur, rfl, hb, hg, rest⟩
  · simp [Value.ownBlock]
  · intro e
    simp only [Value.ownBlock, Option.some.injEq] at e
    subst e
    rw [hk] at hg
    cases hg
end Mem
namespace WWords
theorem infoS : (Tryz.prog.info? 9).map (fun i => (i.zero, i.size, i.bytes)) = some (some (.string ⟨#[]⟩), 1, 16) := by kernel_rfl

set_option maxRecDepth 100000 in
set_option maxHeartbeats 400000 in
theorem any (s : ByteArray) (w : World) (hs : s.size ≤ 1048576) :
    Calls Tryz.prog 107 #[.string s] w fun e w' => ∃ v, e = .returned v ∧
      w'.ownsRow w.heap.size 9 1 v (Pl.cut s 47).length ((Pl.cut s 47).map Value.string) ∧ Below w.heap.size w w' := by
  obtain ⟨i0, hi, hz0, hz1, hz2⟩ := info_parts infoS
  go_enter Tryz.func107, Tryz.ntmps107
  go_wp2
  go_loopw [3, 4] (fun v x wr => ∃ (pos fr : Nat) (L : List ByteArray), pos ≤ s.size ∧ fr ≤ pos ∧ L.length ≤ pos ∧ x = .int .i64 (fr : Int) ∧
      wr.ownsRow w.heap.size 9 1 v L.length (L.map Value.string) ∧ wr.heap[w.heap.size + 1]? = some (.stringIter s pos) ∧ Below w.heap.size w wr ∧ Hid (Pl.cut s 47 = L ++ Pl.cutF s 47 (s.size - pos) fr pos)) (fun _ _ wr => s.size - wr.iterPos (w.heap.size + 1))
  case atStart =>
    refine ⟨0, 0, [], by omega, by omega, by simp, rfl, (World.ownsRow_made _ _ 0 (Nat.le_refl _) (Nat.zero_le _) rfl).alloc _, ?_, ((Below.refl _ _).alloc (Nat.le_refl _) _).alloc (by simp) _, rfl⟩
    have := World.iter_heap (w.alloc (.cells #[] 9)) s 0
    simpa using this
  case round =>
    obtain ⟨pos, fr, L, hk, hfr, hL, rfl, hown, hit, hbel, H⟩ := hrel
    have hb1 := hbel.size
    have hsz : w.heap.size + 1 < wr.heap.size := (Array.getElem?_eq_some_iff.1 hit).1
    have hip : wr.iterPos (w.heap.size + 1) = pos := by simp only [World.iterPos, hit]
    by_cases hlt : pos < s.size
    · by_cases hq : s[pos].toNat = 47
      · have ha : s[pos].toNat < 128 := by omega
        have hnx : ∀ ty, (Instr.next (.pointer (some ⟨w.heap.size + 1, 0, none⟩)) true ty).run Tryz.prog wr = .ok (.tuple #[.bool true, .int .i64 pos, .int .i32 47]) (wr.iterAt (w.heap.size + 1) s (pos + 1)) := fun ty => by
          rw [Lib.run_next_ascii_at wr (w.heap.size + 1) s pos ty hit hlt ha, hq]; rfl
        have hf : s.size - pos = s.size - (pos + 1) + 1 := by omega
        have H2 : Hid (Pl.cut s 47 = (L ++ [s.extract fr pos]) ++ Pl.cutF s 47 (s.size - (pos + 1)) (pos + 1) (pos + 1)) := by
          show _ = _
          rw [H.out, hf, Pl.cutF_hit hlt hq]; simp
        have hown2 := Mem.own_iterAt hown hit (pos + 1)
        have hit2 := Lib.iterAt_heap wr (w.heap.size + 1) s pos (pos + 1) hit
        have hbel2 := Lib.below_iterAt hbel (k := w.heap.size + 1) (by omega) s (pos + 1)
        have hsz2 : Hid ((wr.iterAt (w.heap.size + 1) s (pos + 1)).heap.size = wr.heap.size) := Lib.iterAt_size _ _ _ _
        have hne := Mem.own_no_iter hown2 hit2
        generalize wr.iterAt (w.heap.size + 1) s (pos + 1) = w1 at hnx hown2 hit2 hbel2 hsz2
        have t1 : (0 : Int) ≤ (fr : Int) := by omega
        have t2 : (fr : Int) ≤ (pos : Int) := by omega
        have t3 : (pos : Int) ≤ (s.size : Int) := by omega
        clear H hf hq hown hit hbel ha
        go_wp2_with (at_builtin; refine wpList_append_own _ rfl _ _ 108 rfl w.heap.size 9 i0 (.string ⟨#[]⟩) 1 16 Tryz.underlying108 hi hz0 hz1 hz2 rfl (by decide) _ _ _ rfl (hown2.alloc _) ⟨w1.heap.size, 0, none⟩ 1 1 [.string (s.extract fr pos)] rfl rfl ?c1 ?c2 ?c3 ?c4 ?c5 ?_)
        case c1 => exact Mem.zh5 _ _ _
        case c2 => intro u hu; simp at hu; subst hu; rfl
        case c3 => unfold maxLen; omega
        case c4 => omega
        case c5 => have := hsz2.out; simp; omega
        · intro v' w2 hown' hgrow _
          have hsz2 := hsz2.out
          have hbel' := Mem.zl7 hbel2 (Nat.le_refl _) hown2 hgrow
          have hown3 : w2.ownsRow w.heap.size 9 1 v' (L ++ [s.extract fr pos]).length ((L ++ [s.extract fr pos]).map Value.string) := by simpa using hown'
          have hit3 : w2.heap[w.heap.size + 1]? = some (.stringIter s (pos + 1)) :=
            (hgrow.block (w.heap.size + 1) (by simp; omega) hne).trans ((Below.heap_alloc _ _ _ (by omega)).trans hit2)
          have hip3 : w2.iterPos (w.heap.size + 1) = pos + 1 := by simp only [World.iterPos, hit3]
          clear hgrow hown2 hbel2 hown' hnx hit2
          go_wp2
          go_roundw
          case rel => exact ⟨pos + 1, pos + 1, L ++ [s.extract fr pos], by omega, by omega, by simp; omega, by go_num, hown3, hit3, hbel', H2⟩
          case measure => rw [hip3, hip]; omega
      · obtain ⟨r1, r2, r3, r4⟩ := Pl.rune_other s pos hlt hq
        have hnx : ∀ ty, (Instr.next (.pointer (some ⟨w.heap.size + 1, 0, none⟩)) true ty).run Tryz.prog wr = .ok (.tuple #[.bool true, .int .i64 pos, .int .i32 (Utf8.decode s pos).1]) (wr.iterAt (w.heap.size + 1) s (pos + (Utf8.decode s pos).2)) := fun ty =>
          Lib.run_next_any_at wr (w.heap.size + 1) s pos ty hit hlt
        have H2 : Hid (Pl.cut s 47 = L ++ Pl.cutF s 47 (s.size - (pos + (Utf8.decode s pos).2)) fr (pos + (Utf8.decode s pos).2)) := by
          show _ = _
          rw [H.out, Pl.cutF_over _ pos r3 r4]
        have hown2 := Mem.own_iterAt hown hit (pos + (Utf8.decode s pos).2)
        have hit2 := Lib.iterAt_heap wr (w.heap.size + 1) s pos (pos + (Utf8.decode s pos).2) hit
        have hbel2 := Lib.below_iterAt hbel (k := w.heap.size + 1) (by omega) s (pos + (Utf8.decode s pos).2)
        have hip2 : (wr.iterAt (w.heap.size + 1) s (pos + (Utf8.decode s pos).2)).iterPos (w.heap.size + 1) = pos + (Utf8.decode s pos).2 := by simp only [World.iterPos, hit2]
        have t4 : (((Utf8.decode s pos).1 : Int) == 47) = false := by rw [beq_eq_false_iff_ne]; omega
        generalize hD : (Utf8.decode s pos).2 = n at *
        generalize (Utf8.decode s pos).1 = r at *
        generalize wr.iterAt (w.heap.size + 1) s (pos + n) = w1 at *
        clear H hq hown hit hbel r4 hD r1
        go_wp2
        go_roundw
        case rel => exact ⟨pos + n, fr, L, r3, by omega, by omega, rfl, hown2, hit2, hbel2, H2⟩
        case measure => rw [hip2, hip]; omega
    · obtain rfl : pos = s.size := by omega
      have hnx : ∀ ty, (Instr.next (.pointer (some ⟨w.heap.size + 1, 0, none⟩)) true ty).run Tryz.prog wr = .ok (.tuple #[.bool false]) wr := fun ty => Lib.run_next_end_at wr (w.heap.size + 1) s s.size ty hit hlt
      have H2 : Hid (Pl.cut s 47 = L ++ [s.extract fr s.size]) := by
        show _ = _
        rw [H.out, Nat.sub_self]; rfl
      have t1 : (0 : Int) ≤ (fr : Int) := by omega
      have t2 : (fr : Int) ≤ (s.size : Int) := by omega
      clear H
      go_wp2_with (at_builtin; refine wpList_append_own _ rfl _ _ 108 rfl w.heap.size 9 i0 (.string ⟨#[]⟩) 1 16 Tryz.underlying108 hi hz0 hz1 hz2 rfl (by decide) _ _ _ rfl (hown.alloc _) ⟨wr.heap.size, 0, none⟩ 1 1 [.string (s.extract fr s.size)] rfl rfl ?c1 ?c2 ?c3 ?c4 ?c5 ?_)
      case c1 => exact Mem.zh5 _ _ _
      case c2 => intro u hu; simp at hu; subst hu; rfl
      case c3 => unfold maxLen; omega
      case c4 => omega
      case c5 => simp; omega
      · intro v' w2 hown' hgrow _
        have hbel' := Mem.zl7 hbel (Nat.le_refl _) hown hgrow
        have hown2 : w2.ownsRow w.heap.size 9 1 v' (Pl.cut s 47).length ((Pl.cut s 47).map Value.string) := by rw [H2.out]; simpa using hown'
        clear hgrow hown hbel hown'
        go_wp2
        go_ret
        exact ⟨_, rfl, hown2, hbel'⟩
end WWords
end
section
open Go.RowKit
namespace WName

set_option maxHeartbeats 400000 in
theorem zp9 (s:ByteArray) (w:World) (hs:s.size≤maxLen):
  Calls Tryz.prog 62 #[.string s] w fun e w'=>e= .returned (.bool (Pl.ze s))∧w'=w:=by
 unfold maxLen at hs;by_cases h1:s.size<1
 ·have e0:=hide (Pl.yj1 h1);go_enter Tryz.func62,Tryz.ntmps62
  go_wp2
  go_ret
  exact ⟨za3 (za e0).symm,rfl⟩
 by_cases h2:20<s.size
 ·have e0:=hide (Pl.zz1 h2);go_enter Tryz.func62,Tryz.ntmps62
  go_wp2
  go_ret
  exact ⟨za3 (za e0).symm,rfl⟩
 go_enter Tryz.func62,Tryz.ntmps62
 go_wp2
 go_loop [3] (fun i=>∃k:Nat,k≤s.size∧i= .int .i64 k∧Hid (∀j,j<k→Pl.okAt j ((s.data.toList.getD j 0).toNat))) (fun i=>s.size - (intOf i).toNat)
 case atStart=>exact ⟨0,Nat.zero_le _,rfl,fun j hj=>absurd hj (by omega)⟩
 case round=>
  obtain ⟨k,hk,rfl,hok⟩:=hrel;by_cases hlt:k<s.size
  ·by_cases hk0:k=0
   ·subst hk0;have okc:∀n:Nat,Pl.okAt 0 n↔(97≤n∧n≤122):=fun n=>by unfold Pl.okAt;omega
    have OK:=hide okc;clear okc
    rcases Pl.kinds (s[0].toNat:Int) with ⟨a1,a2⟩|⟨a1,a2,a3,a4⟩|⟨a1,a2,a3,a4⟩|⟨a1,a2,a3,a4⟩|⟨a1,a2,a3⟩|⟨a1,a2,a3,a4,a5⟩
    ·go_wp2
     go_round
     case rel=>exact ⟨1,by omega,rfl,Pl.ye7 hok.out hlt ((za OK _).2 (by omega))⟩
     case measure=>simp [intOf];omega
    all_goals
     go_wp2
     go_ret
     exact ⟨za3 (Pl.zy0 0 hlt (by rw [za OK];omega)).symm,rfl⟩
   ·have hkb:((k:Int)==0)=false:=by simp;omega
    have okc:∀n:Nat,Pl.okAt k n↔(97≤n∧n≤122)∨(48≤n∧n≤57)∨n=95:=fun n=>by unfold Pl.okAt;omega
    have OK:=hide okc;clear okc
    rcases Pl.kinds (s[k].toNat:Int) with ⟨a1,a2⟩|⟨a1,a2,a3,a4⟩|⟨a1,a2,a3,a4⟩|⟨a1,a2,a3,a4⟩|⟨a1,a2,a3⟩|⟨a1,a2,a3,a4,a5⟩
    ·go_wp2
     go_round
     case rel=>exact ⟨k+1,by omega,by go_num,Pl.ye7 hok.out hlt ((za OK _).2 (by omega))⟩
     case measure=>simp [intOf];omega
    ·go_wp2
     go_round
     case rel=>exact ⟨k+1,by omega,by go_num,Pl.ye7 hok.out hlt ((za OK _).2 (by omega))⟩
     case measure=>simp [intOf];omega
    ·go_wp2
     go_ret
     exact ⟨za3 (Pl.zy0 k hlt (by rw [za OK];simp at a4;omega)).symm,rfl⟩
    ·go_wp2
     go_round
     case rel=>exact ⟨k+1,by omega,by go_num,Pl.ye7 hok.out hlt ((za OK _).2 (by simp at a4;omega))⟩
     case measure=>simp [intOf];omega
    all_goals
     go_wp2
     go_ret
     exact ⟨za3 (Pl.zy0 k hlt (by rw [za OK];omega)).symm,rfl⟩
  ·have e0:Pl.ze s=true:=Pl.yl5 h1 h2 (fun j hj=>hok.out j (by omega));have E0:=hide e0;clear e0;go_wp2
   go_ret
   exact ⟨za3 (za E0).symm,rfl⟩

set_option maxHeartbeats 400000 in
theorem zk6 (s:ByteArray) (w:World) (hs:s.size≤maxLen):
  Calls Tryz.prog 108 #[.string s] w fun e w'=>e= .returned (.bool (Pl.ze s))∧w'=w:=by
 unfold maxLen at hs;by_cases h1:s.size<1
 ·have e0:=hide (Pl.yj1 h1);go_enter Tryz.func108,Tryz.ntmps108
  go_wp2
  go_ret
  exact ⟨za3 (za e0).symm,rfl⟩
 by_cases h2:20<s.size
 ·have e0:=hide (Pl.zz1 h2);go_enter Tryz.func108,Tryz.ntmps108
  go_wp2
  go_ret
  exact ⟨za3 (za e0).symm,rfl⟩
 have hp:0<s.size:=by omega
 by_cases hl:97≤(s[0].toNat:Int)∧(s[0].toNat:Int)≤122
 ·obtain ⟨l1,l2⟩:=hl;have H0:Hid (Pl.okAt 0 s[0].toNat):=Or.inl (by omega);go_enter Tryz.func108,Tryz.ntmps108
  go_wp2
  go_loop [21] (fun i=>∃k:Nat,k≤s.size∧i= .int .i64 k∧Hid (∀j,j<k→Pl.okAt j ((s.data.toList.getD j 0).toNat))) (fun i=>s.size - (intOf i).toNat)
  case atStart=>exact ⟨0,Nat.zero_le _,rfl,fun j hj=>absurd hj (by omega)⟩
  case round=>
   obtain ⟨k,hk,rfl,hok⟩:=hrel;by_cases hlt:k<s.size
   ·have hstep:Hid ((97≤s[k].toNat∧s[k].toNat≤122)∨(48≤s[k].toNat∧s[k].toNat≤57)∨s[k].toNat=95→∀j,j<k+1→Pl.okAt j ((s.data.toList.getD j 0).toNat)):=by
     intro ho;refine Pl.ye7 hok.out hlt ?_;by_cases hk0:k=0
     ·subst hk0;exact H0
     ·unfold Pl.okAt;omega
    have hbad:Hid (¬ ((97≤s[k].toNat∧s[k].toNat≤122)∨(48≤s[k].toNat∧s[k].toNat≤57)∨s[k].toNat=95)→Pl.ze s=false):=by
     intro hn;exact Pl.zy0 k hlt (by unfold Pl.okAt;omega)
    clear l1 l2 H0 hok
    rcases Pl.kinds (s[k].toNat:Int) with ⟨a1,a2⟩|⟨a1,a2,a3,a4⟩|⟨a1,a2,a3,a4⟩|⟨a1,a2,a3,a4⟩|⟨a1,a2,a3⟩|⟨a1,a2,a3,a4,a5⟩
    ·go_wp2
     go_round
     case rel=>exact ⟨k+1,by omega,by go_num,hstep.out (by omega)⟩
     case measure=>simp [intOf];omega
    ·go_wp2
     go_round
     case rel=>exact ⟨k+1,by omega,by go_num,hstep.out (by omega)⟩
     case measure=>simp [intOf];omega
    ·go_wp2
     go_ret
     exact ⟨za3 (hbad.out (by simp at a4;omega)).symm,rfl⟩
    ·go_wp2
     go_round
     case rel=>exact ⟨k+1,by omega,by go_num,hstep.out (by simp at a4;omega)⟩
     case measure=>simp [intOf];omega
    all_goals
     go_wp2
     go_ret
     exact ⟨za3 (hbad.out (by omega)).symm,rfl⟩
   ·have e0:Pl.ze s=true:=Pl.yl5 h1 h2 (fun j hj=>hok.out j (by omega));have E0:=hide e0;clear e0;go_wp2
    go_ret
    exact ⟨za3 (za E0).symm,rfl⟩
 ·have e0:Pl.ze s=false:=Pl.zy0 0 hp (by unfold Pl.okAt;omega);have E0:=hide e0;clear e0;by_cases g1:97≤(s[0].toNat:Int)
  ·have g2:¬ (s[0].toNat:Int)≤122:=by omega
   clear hl;go_enter Tryz.func108,Tryz.ntmps108
   go_wp2
   go_ret
   exact ⟨za3 (za E0).symm,rfl⟩
  ·clear hl;go_enter Tryz.func108,Tryz.ntmps108
   go_wp2
   go_ret
   exact ⟨za3 (za E0).symm,rfl⟩
end WName
end
section
open Go.RowKit
namespace Mem
theorem texts {w:World} {B T:Nat} {v:Value} {L:List ByteArray} (h:w.ownsRow B T 1 v L.length (L.map Value.string)):
  (v= .slice none 0 0∧L=[])∨∃g cap,v= .slice (some ⟨g,0,none⟩) L.length cap∧L.length≤cap∧cap≤maxLen∧B≤g∧g<w.heap.size∧∀ (k:Nat) t,L[k]? =some t→w.cell? ⟨g,k,none⟩=some (.string t):=by
 rcases h.2 with ⟨rfl,h0⟩|⟨g,cap,cur,rfl,hgb,hg,hcap,hm,hsz,htk⟩
 ·exact .inl ⟨rfl,List.eq_nil_of_length_eq_zero h0⟩
 ·refine .inr ⟨g,cap,rfl,hcap,hm,hgb,(Array.getElem?_eq_some_iff.1 hg).1,fun k t ht=>?_⟩;have hk:=(List.getElem?_eq_some_iff.1 ht).1;rw [cell_of_row w g k cur T (0,0) hg];have h1:(cur.toList.take (L.length*1))[k]? =(L.map Value.string)[k]?:=by rw [htk]
  rw [List.getElem?_take_of_lt (by omega),List.getElem?_map,ht] at h1
  simpa using h1
theorem one_str (t:ByteArray):∀u∈[Value.string t],u.oneCell'=true:=by
 intro u hu;simp at hu;subst hu;rfl
def zn3 (w:World) (v:Value) (ts:List ByteArray):Prop:=
 (v= .slice none 0 0∧ts=[])∨∃b o cap,v= .slice (some ⟨b,o,none⟩) ts.length cap∧b<w.heap.size∧∀ (j:Nat) t,ts[j]? =some t→w.cell? ⟨b,o+j,none⟩=some (.string t)
theorem zo1 {w:World} {B T:Nat} {v:Value} {L:List ByteArray} (h:w.ownsRow B T 1 v L.length (L.map Value.string)):zn3 w v L:=by
 rcases texts h with h|⟨g,cap,h1,h2,h3,h4,h5,h6⟩
 ·exact .inl h
 ·exact .inr ⟨g,0,cap,h1,h5,fun j t ht=>by rw [Nat.zero_add];exact h6 j t ht⟩
theorem take_texts {w:World} {g cap:Nat} {L:List ByteArray} (hg:g<w.heap.size) (hc:∀ (k:Nat) t,L[k]? =some t→w.cell? ⟨g,k,none⟩=some (.string t)) (n:Nat) (hn:n≤L.length):
  zn3 w (.slice (some ⟨g,0,none⟩) n cap) (L.take n):=by
 refine .inr ⟨g,0,cap,by rw [List.length_take,Nat.min_eq_left hn],hg,fun j t ht=>?_⟩;rw [Nat.zero_add];refine hc j t ?_;have hj:j<n:=by have :=(List.getElem?_eq_some_iff.1 ht).1;rw [List.length_take] at this;omega
 rwa [List.getElem?_take_of_lt hj] at ht
theorem own_below {w w':World} {B B' e size n:Nat} {v:Value} {xs:List Value} (h:w.ownsRow B e size v n xs) (hb:Below B' w w') (hB:∀k,v.ownBlock=some k→k<B'):w'.ownsRow B e size v n xs:=by
 refine ⟨h.1,?_⟩
 rcases h.2 with h0|⟨g,cap,cur,rfl,hgb,hg,rest⟩
 ·exact .inl h0
 ·exact .inr ⟨g,cap,cur,rfl,hgb,(hb.block g (hB g rfl)).trans hg,rest⟩
theorem zj2 {w w':World} {B e size n:Nat} {v:Value} {xs:List Value} (h:w.ownsRow B e size v n xs) (hb:Below w.heap.size w w'):w'.ownsRow B e size v n xs:=
 own_below h hb (fun k hk=>(h.lt k hk).2)
theorem texts_call {w w':World} {v:Value} {ts:List ByteArray} (h:zn3 w v ts) (hb:Below w.heap.size w w'):zn3 w' v ts:=by
 rcases h with h|⟨b,o,cap,rfl,hlt,hc⟩
 ·exact .inl h
 ·exact .inr ⟨b,o,cap,rfl,Nat.lt_of_lt_of_le hlt hb.size,fun j t ht=>(hb.cell (p:=⟨b,o+j,none⟩) hlt).trans (hc j t ht)⟩
theorem below_drewN {B:Nat} {a w:World} (h:Below B a w) (q:Nat):Below B a (w.drewN q):=h.trans ⟨rfl,rfl,rfl,Nat.le_refl _,fun _ _=>rfl⟩
theorem zx3 {w:World} {v:Value} {ts:List ByteArray} (h:zn3 w v ts):∃a cap,v= .slice a ts.length cap:=by
 rcases h with ⟨rfl,rfl⟩|⟨b,o,cap,rfl,_⟩ <;> exact ⟨_,_,rfl⟩
end Mem
end
section
open Go.RowKit
namespace yb8
set_option maxRecDepth 100000 in
set_option maxHeartbeats 400000 in
theorem any (s:ByteArray) (w:World) (hs:s.size≤1048576):
  Calls Tryz.prog 78 #[.string s] w fun e w'=>∃v,e= .returned (.tuple #[v, .bool (Pl.za1 s)])∧
   w'.ownsRow w.heap.size 9 1 v (Pl.zb s).length ((Pl.zb s).map Value.string)∧Below w.heap.size w w':=by
 by_cases h0:s.size=0
 ·have E:=hide (Pl.zh3 h0).1;have E2:=hide ((Pl.zc1 (Pl.zh3 h0).1).trans (Pl.zh3 h0).2);obtain rfl:s=⟨#[]⟩:=by apply ByteArray.ext;exact Array.eq_empty_of_size_eq_zero h0
  go_enter Tryz.func78,Tryz.ntmps78
  go_wp2
  go_ret2
  refine ⟨.slice none 0 0,by rw [za E];rfl,?_,Below.refl _ _⟩;rw [za E2];exact World.ownsRow_nil _ _ _ _
 have t0:s.toList.isEmpty=false:=by
  rw [List.isEmpty_eq_false_iff,ByteArray.toList_eq];intro h;have h1:s.data.toList.length=0:=by rw [h];rfl
  rw [Array.length_toList] at h1;exact h0 h1
 have E1:Hid (Pl.names s=Pl.cut s 47):=if_neg h0;by_cases h8:8000<s.size
 ·have E:=hide (Pl.yg7 (s:=s) (by omega));have E2:=hide (Pl.yd1 (za E));go_enter Tryz.func78,Tryz.ntmps78
  go_wp2
  go_ret2
  refine ⟨.slice none 0 0,by rw [za E];rfl,?_,Below.refl _ _⟩;rw [za E2];exact World.ownsRow_nil _ _ _ _
 have hpos:=Pl.cut_pos s;have hlen:=Pl.cut_length s
 have HSZ:Hid (∀ (k:Nat) t,(Pl.cut s 47)[k]? =some t→t.size≤maxLen):=fun k t ht=>by
  have :=Pl.cut_size ht;unfold maxLen;omega
 have HLONG:Hid (6<(Pl.cut s 47).length→Pl.za1 s=false):=fun h=>by
  rw [Pl.yd7,E1.out];simp;intro _;omega
 have HBAD:Hid (∀ (k:Nat) t,(Pl.cut s 47)[k]? =some t→Pl.ze t=false→Pl.za1 s=false):=fun k t ht hb=>Pl.pathB_bad (by rw [E1.out];exact ht) hb
 have HGOOD:Hid ((Pl.cut s 47).length≤6→(∀ (j:Nat) t,(Pl.cut s 47)[j]? =some t→Pl.ze t=true)→Pl.za1 s=true∧Pl.zb s=Pl.cut s 47):=fun h6 h=>by
  have h1:Pl.za1 s=true:=by
   rw [Pl.yd7,E1.out];simp [h6]
   intro t ht;obtain ⟨j,hj⟩:=List.mem_iff_getElem?.1 ht;exact h j t hj
  exact ⟨h1,by rw [Pl.zc1 h1,E1.out]⟩
 have hn:=hide (WWords.any s w hs);generalize Pl.cut s 47=L at hn hlen HSZ HBAD HGOOD HLONG hpos;go_enter Tryz.func78,Tryz.ntmps78
 go_wp2_with fail
 refine (za hn).mono ?_;rintro e w1 ⟨v,rfl,hown,hbel⟩;have HO:=hide hown
 rcases Mem.texts hown with ⟨rfl,rfl⟩|⟨g,cap,rfl,hcap,hm,hgb,hgl,hcell⟩
 ·simp at hpos
 have HC:=hide hcell;clear hcell hown hn;have hm2:=hm;unfold maxLen at hm2;by_cases h6:6<L.length
 ·have E:=hide (HLONG.out h6);have E2:=hide (Pl.yd1 (za E));go_wp2
  go_ret2
  refine ⟨.slice none 0 0,by rw [za E];rfl,?_,hbel⟩;rw [za E2];exact World.ownsRow_nil _ _ _ _
 go_wp2
 go_loop [19] (fun i=>∃k:Nat,k≤L.length∧i= .int .i64 (k:Int)∧Hid (∀ (j:Nat) t,j<k→L[j]? =some t→Pl.ze t=true)) (fun i=>L.length - (intOf i).toNat)
 case atStart=>exact ⟨0,Nat.zero_le _,rfl,fun j t h=>absurd h (by omega)⟩
 case round=>
  obtain ⟨k,hk,rfl,HA⟩:=hrel;by_cases hlt:k<L.length
  ·obtain ⟨t,ht⟩:∃t,L[k]? =some t:=⟨_,List.getElem?_eq_getElem hlt⟩;have hc:=HC.out k t ht;have hts:=HSZ.out k t ht;cases hb:Pl.ze t
   ·have E:=hide (HBAD.out k t ht hb);have E2:=hide (Pl.yd1 (za E));have HB:=hide hb;clear ht hb;go_wp2_with (go_at_call 108;refine (WName.zk6 t _ hts).mono ?_;rw [za HB];rintro e w' ⟨rfl,hw⟩;obtain rfl:=hw.symm)
    go_ret2
    refine ⟨.slice none 0 0,by rw [za E];rfl,?_,hbel⟩;rw [za E2];exact World.ownsRow_nil _ _ _ _
   ·have HB:=hide hb
    have HA2:Hid (∀ (j:Nat) t,j<k+1→L[j]? =some t→Pl.ze t=true):=fun j t' hj h'=>by
     rcases Nat.lt_succ_iff_lt_or_eq.1 hj with h''|rfl
     ·exact HA.out j t' h'' h'
     ·rw [ht] at h';cases h';exact hb
    clear ht hb HA;go_wp2_with (go_at_call 108;refine (WName.zk6 t _ hts).mono ?_;rw [za HB];rintro e w' ⟨rfl,hw⟩;obtain rfl:=hw.symm)
    go_round
    case rel=>exact ⟨k+1,by omega,by go_num,HA2⟩
    case measure=>simp [intOf];omega
  ·have E:=hide (HGOOD.out (by omega) (fun j t h=>HA.out j t (by have :=(List.getElem?_eq_some_iff.1 h).1;omega) h));clear HA;go_wp2
   go_ret2
   exact ⟨.slice (some ⟨g,0,none⟩) L.length cap,by rw [(za E).1];rfl,by rw [(za E).2];exact za HO,hbel⟩
end yb8
end
section
open Go.RowKit
namespace ye3
set_option maxRecDepth 100000 in
theorem both_any (a b:ByteArray) (w:World) (ha:a.size≤1048576) (hb:b.size≤1048576):
  Calls Tryz.prog 133 #[.string a, .string b] w fun e w'=>∃v1 v2 m,e= .returned (.tuple #[v1,v2, .bool (Pl.za1 a&&Pl.za1 b)])∧w.heap.size≤m∧
   w'.ownsRow w.heap.size 9 1 v1 (Pl.zb a).length ((Pl.zb a).map Value.string)∧(∀k,v1.ownBlock=some k→k<m)∧
   w'.ownsRow m 9 1 v2 (Pl.zb b).length ((Pl.zb b).map Value.string)∧Below w.heap.size w w':=by
 have hn1:=hide (fun W=>yb8.any a W ha);have hn2:=hide (fun W=>yb8.any b W hb);generalize Pl.za1 a=r1 at hn1 ⊢;generalize Pl.za1 b=r2 at hn2 ⊢;generalize Pl.zb a=A at hn1 ⊢;generalize Pl.zb b=B at hn2 ⊢;cases r1 <;> cases r2
 all_goals
  go_enter Tryz.func133,Tryz.ntmps133
  go_wp2_with fail
  refine (za hn1 _).mono ?_;rintro e w1 ⟨v1,rfl,hown1,hb1⟩;have HO1:=hide hown1;clear hown1;go_wp2_with fail
  refine (za hn2 _).mono ?_;rintro e w2 ⟨v2,rfl,hown2,hb2⟩;have HO2:=hide hown2;clear hown2
  have H:Hid (∃m,w.heap.size≤m∧w2.ownsRow w.heap.size 9 1 v1 A.length (A.map Value.string)∧(∀k,v1.ownBlock=some k→k<m)∧
    w2.ownsRow m 9 1 v2 B.length (B.map Value.string)∧Below w.heap.size w w2):=
   ⟨w1.heap.size,hb1.size,Mem.zj2 (za HO1) hb2,fun k hk=>((za HO1).lt k hk).2,za HO2,hb1.trans (hb2.mono hb1.size)⟩
  clear hb1 hb2 HO1 HO2;go_wp2
  go_ret3
  obtain ⟨m,h1,h2,h3,h4,h5⟩:=H.out;exact ⟨v1,v2,m,rfl,h1,h2,h3,h4,h5⟩
end ye3
end
section
open Go.RowKit
namespace WLess
set_option maxRecDepth 100000 in
set_option maxHeartbeats 400000 in
theorem ahead_any (v u:Value) (A B:List ByteArray) (w:World) (hA:A.length≤1000) (hB:B.length≤1000) (hv:Mem.zn3 w v A) (hu:Mem.zn3 w u B):
  Calls Tryz.prog 134 #[v,u] w fun e w'=>e= .returned (.bool (Pl.za9 A B))∧Below w.heap.size w w':=by
 have HE:Hid (∀k,k=A.length∧k≤B.length∨k=B.length∧k≤A.length→Pl.za9 (A.drop k) (B.drop k)=decide (A.length<B.length)):=fun k h=>Pl.less_end h;by_cases h0:A=[]∨B=[]
 ·have E:Hid (Pl.za9 A B=decide (A.length<B.length)):=by
   show _=_;have :=HE.out 0 (by rcases h0 with rfl |rfl <;> simp)
   simpa using this
  obtain ⟨va,vc,rfl⟩:=Mem.zx3 hv;obtain ⟨ua,uc,rfl⟩:=Mem.zx3 hu;clear hv hu HE
  rcases h0 with rfl |rfl
  ·have t0:(([]:List ByteArray).length:Int)≤(B.length:Int):=by simp
   go_enter Tryz.func134,Tryz.ntmps134
   go_wp2
   go_loop [11] (fun i=>i= .int .i64 0) (fun _=>0)
   case atStart=>rfl
   case round=>
    subst hrel;go_wp2
    go_ret
    exact ⟨za3 (by rw [E.out];simp),Below.refl _ _⟩
  ·by_cases hA0:A=[]
   ·subst hA0;go_enter Tryz.func134,Tryz.ntmps134
    go_wp2
    go_loop [11] (fun i=>i= .int .i64 0) (fun _=>0)
    case atStart=>rfl
    case round=>
     subst hrel;go_wp2
     go_ret
     exact ⟨za3 (by rw [E.out];simp),Below.refl _ _⟩
   ·have hp:0<A.length:=List.length_pos_iff.2 hA0;have t0:¬ (A.length:Int)≤0:=by omega
    have t1:¬ (A.length:Int)<0:=by omega
    have t2:(0:Int)<(A.length:Int):=by omega
    go_enter Tryz.func134,Tryz.ntmps134
    go_wp2
    go_loop [11] (fun i=>i= .int .i64 0) (fun _=>0)
    case atStart=>rfl
    case round=>
     subst hrel;go_wp2
     go_ret
     exact ⟨za3 (by rw [E.out];simp),Below.refl _ _⟩
 ·rcases hu with ⟨_,rfl⟩|⟨b,o,cap,rfl,hb,hcb⟩
  ·simp at h0
  rcases hv with ⟨_,rfl⟩|⟨b',o',cap',rfl,hb',hca⟩
  ·simp at h0
  have HA:=hide hca;have HB:=hide hcb;clear hca hcb h0;have HS:Hid (Pl.za9 A B=Pl.za9 (A.drop 0) (B.drop 0)):=rfl;have HT:Hid (∀k a b,A[k]? =some a→B[k]? =some b→a=b→Pl.za9 (A.drop k) (B.drop k)=Pl.za9 (A.drop (k+1)) (B.drop (k+1))):=fun k a b h1 h2 h3=>Pl.less_same h1 h2 h3;have HF:Hid (∀k a b,A[k]? =some a→B[k]? =some b→a≠b→Pl.za9 (A.drop k) (B.drop k)=Op.bytesLess a.toList b.toList):=fun k a b h1 h2 h3=>Pl.yo0 h1 h2 h3;generalize Pl.za9 A B=R at HS ⊢;by_cases hAB:A.length≤B.length
  ·have t0:(A.length:Int)≤(B.length:Int):=by omega
   go_enter Tryz.func134,Tryz.ntmps134
   go_wp2
   go_loopw [11] (fun i wr=>∃k:Nat,k≤A.length∧i= .int .i64 (k:Int)∧Below w.heap.size w wr∧Hid (R=Pl.za9 (A.drop k) (B.drop k))) (fun i _=>A.length - (intOf i).toNat)
   case atStart=>exact ⟨0,Nat.zero_le _,rfl,Below.refl _ _,HS⟩
   case round=>
    obtain ⟨k,hk,rfl,hbel,HR⟩:=hrel;by_cases hlt:k<A.length
    ·obtain ⟨y,hy⟩:∃y,B[k]? =some y:=⟨_,List.getElem?_eq_getElem (by omega)⟩;obtain ⟨x,hx⟩:∃x,A[k]? =some x:=⟨_,List.getElem?_eq_getElem (by omega)⟩;have hc1:wr.cell? ⟨b,o+k,none⟩=some (.string y):=(hbel.cell (p:=⟨b,o+k,none⟩) hb).trans (HB.out k y hy);have hc2:wr.cell? ⟨b',o'+k,none⟩=some (.string x):=(hbel.cell (p:=⟨b',o'+k,none⟩) hb').trans (HA.out k x hx);have u1:(k:Int)<(A.length:Int):=by omega
     have u2:(k:Int)<(B.length:Int):=by omega
     have u3:(0:Int)≤(k:Int):=by omega
     by_cases hxy:x=y
     ·have t2:=Pl.zu0 hxy;have HR2:Hid (R=Pl.za9 (A.drop (k+1)) (B.drop (k+1))):=HR.out.trans (HT.out k x y hx hy hxy);clear hx hy HR hxy;go_wp2
      go_quiet (fail)
      go_wp2
      go_roundw
      case rel=>exact ⟨k+1,by omega,by go_num,Mem.below_drewN hbel _,HR2⟩
      case measure=>simp [intOf];omega
     ·have t2:=Pl.zq1 hxy;have E:Hid (R=Op.bytesLess x.toList y.toList):=HR.out.trans (HF.out k x y hx hy hxy);clear hx hy HR hxy;go_wp2
      go_quiet (fail)
      go_wp2
      go_quiet (fail)
      go_wp2
      go_ret
      exact ⟨za3 E.out.symm,Mem.below_drewN (Mem.below_drewN hbel _) _⟩
    ·obtain rfl:k=A.length:=by omega
     have E:Hid (R=decide (A.length<B.length)):=HR.out.trans (HE.out _ (by omega));clear HR;go_wp2
     go_ret
     exact ⟨za3 (by rw [E.out]),hbel⟩
  ·have t0:¬ (A.length:Int)≤(B.length:Int):=by omega
   have t9:(B.length:Int)<(A.length:Int):=by omega
   go_enter Tryz.func134,Tryz.ntmps134
   go_wp2
   go_loopw [11] (fun i wr=>∃k:Nat,k≤B.length∧i= .int .i64 (k:Int)∧Below w.heap.size w wr∧Hid (R=Pl.za9 (A.drop k) (B.drop k))) (fun i _=>B.length - (intOf i).toNat)
   case atStart=>exact ⟨0,Nat.zero_le _,rfl,Below.refl _ _,HS⟩
   case round=>
    obtain ⟨k,hk,rfl,hbel,HR⟩:=hrel;by_cases hlt:k<B.length
    ·obtain ⟨y,hy⟩:∃y,B[k]? =some y:=⟨_,List.getElem?_eq_getElem (by omega)⟩;obtain ⟨x,hx⟩:∃x,A[k]? =some x:=⟨_,List.getElem?_eq_getElem (by omega)⟩;have hc1:wr.cell? ⟨b,o+k,none⟩=some (.string y):=(hbel.cell (p:=⟨b,o+k,none⟩) hb).trans (HB.out k y hy);have hc2:wr.cell? ⟨b',o'+k,none⟩=some (.string x):=(hbel.cell (p:=⟨b',o'+k,none⟩) hb').trans (HA.out k x hx);have u1:(k:Int)<(A.length:Int):=by omega
     have u2:(k:Int)<(B.length:Int):=by omega
     have u3:(0:Int)≤(k:Int):=by omega
     by_cases hxy:x=y
     ·have t2:=Pl.zu0 hxy;have HR2:Hid (R=Pl.za9 (A.drop (k+1)) (B.drop (k+1))):=HR.out.trans (HT.out k x y hx hy hxy);clear hx hy HR hxy;go_wp2
      go_quiet (fail)
      go_wp2
      go_roundw
      case rel=>exact ⟨k+1,by omega,by go_num,Mem.below_drewN hbel _,HR2⟩
      case measure=>simp [intOf];omega
     ·have t2:=Pl.zq1 hxy;have E:Hid (R=Op.bytesLess x.toList y.toList):=HR.out.trans (HF.out k x y hx hy hxy);clear hx hy HR hxy;go_wp2
      go_quiet (fail)
      go_wp2
      go_quiet (fail)
      go_wp2
      go_ret
      exact ⟨za3 E.out.symm,Mem.below_drewN (Mem.below_drewN hbel _) _⟩
    ·obtain rfl:k=B.length:=by omega
     have E:Hid (R=decide (A.length<B.length)):=HR.out.trans (HE.out _ (by omega));clear HR;go_wp2
     go_ret
     exact ⟨za3 (by rw [E.out]),hbel⟩

set_option maxRecDepth 100000 in
theorem less_any (p t:ByteArray) (w:World) (hp:p.size≤1048576) (ht:t.size≤1048576):
  Calls Tryz.prog 116 #[.string p, .string t] w fun e w'=>e= .returned (.bool (Pl.za1 p&&Pl.za1 t&&Pl.za9 (Pl.zb p) (Pl.zb t)))∧Below w.heap.size w w':=by
 have hn:=hide (fun W=>ye3.both_any p t W hp ht);have hA:=hide (Pl.zg0 p);have hB:=hide (Pl.zg0 t);generalize (Pl.za1 p&&Pl.za1 t)=r at hn ⊢;generalize Pl.zb p=A at hn hA ⊢;generalize Pl.zb t=B at hn hB ⊢;cases r
 ·go_enter Tryz.func116,Tryz.ntmps116
  go_wp2_with fail
  refine (za hn _).mono ?_;rintro e w1 ⟨v1,v2,m,rfl, -, -, -, -,hb⟩;go_wp2
  go_ret
  exact ⟨rfl,hb⟩
 ·go_enter Tryz.func116,Tryz.ntmps116
  go_wp2_with fail
  refine (za hn _).mono ?_;rintro e w1 ⟨v1,v2,m,rfl,h1,h2,h3,h4,hb⟩;have i1:=hide (Mem.zo1 h2);have i2:=hide (Mem.zo1 h4);clear h2 h4 h3 hn;go_wp2_with fail
  refine (ahead_any _ _ A B _ (by have :=(za hA).2;omega) (by have :=(za hB).2;omega) (za i1) (za i2)).mono ?_;rintro e w2 ⟨rfl,hb2⟩;have hb3:=hb.trans (hb2.mono hb.size);generalize hr:Pl.za9 A B=r2;have HR:=hide hr;clear hr hb hb2;go_wp2
  go_ret
  exact ⟨by rw [za HR];rfl,hb3⟩
end WLess
end
section
namespace Drw
def wOf {α:Type}:Result α→World| .ok _ w=>w| .halt _ w=>w
theorem ask_le {α:Type} (a:Ask α):∀w:World,w.drawn≤(w.ask a).2.drawn:=by
 induction a with
 |done a=>intro w;exact Nat.le_refl _
 |ask what range k ih=>
  intro w;simp only [World.ask]
  split
  ·exact ih _ _
  ·exact Nat.le_trans (Nat.le_succ w.drawn) (ih _ { w with drawn:=w.drawn+1 })
theorem sys_le (w:World) (c:Sys):w.drawn≤(w.sys c).2.drawn:=by
 have h:=ask_le (Kernel.perform c w.os) w;unfold World.sys
 revert h
 generalize w.ask (Kernel.perform c w.os)=x;obtain ⟨⟨r,os⟩,w'⟩:=x;intro h
 split
 ·exact Nat.le_refl _
 ·rename_i he
  cases he
  exact h
theorem view_eq {p:Program} {w w':World} {at_:Addr} {u:TypeId} {k:Addr} {v:Value} {b:Bool} {l:List Addr} (h:w.viewStore p at_ u k v b= .ok (w',l)):w'.drawn=w.drawn:=by
 simp only [World.viewStore,bind,Except.bind,pure,Except.pure] at h
 repeat' first
  |(simp at h;done)
  |(simp only [Except.ok.injEq,Prod.mk.injEq] at h;obtain ⟨rfl,_⟩:=h;rfl)
  |split at h
theorem far_eq {p:Program} {w w':World} {a:Addr} {v:Value} {b:Bool} {l:List Addr} (h:w.farStore p a v b= .ok (w',l)):w'.drawn=w.drawn:=by
 unfold World.farStore at h
 split at h
 ·split at h
  ·rename_i r hr
   simp only [Except.ok.injEq] at h;subst h;exact view_eq hr
  ·simp at h
 ·simp at h
theorem run_le {α:Type} (p:Program) (s:Sem α):∀w:World,w.drawn≤(wOf (s.run p w)).drawn:=by
 induction s with
 |pure a=>intro w;exact Nat.le_refl _
 |load m a k ih=>
  intro w;simp only [Sem.run];split
  ·exact ih _ _
  ·split
   ·exact ih _ _
   ·exact Nat.le_refl _
 |store m a v k ih=>
  intro w
  have main:w.drawn≤(wOf (match w.cell? a with
   |some _=>if w.frozen? a then .halt (.unsupported (.unsafePointer "a write to bytes that a string shares")) w else k.run p (w.setCell a v)
   |none=>match w.farStore p a v (m== .atomic) with
    | .ok (w,_)=>k.run p w
    | .error h=> .halt h w)).drawn:=by
   split
   ·split
    ·exact Nat.le_refl _
    ·exact ih (w.setCell a v)
   ·split
    ·rename_i w' l he
     rw [←far_eq he];exact ih _
    ·exact Nat.le_refl _
  cases v <;> first |exact main|exact Nat.le_refl _
 |new o k ih=>intro w;simp only [Sem.run];exact ih _ { w with heap:=w.heap.push o }
 |shape r k ih=>intro w;simp only [Sem.run];exact ih _ _
 |freeze a n k ih=>
  intro w;simp only [Sem.run];have h:(w.freeze a n).drawn=w.drawn:=by unfold World.freeze;split <;> rfl
  rw [←h];exact ih _
 |frozen a k ih=>intro w;simp only [Sem.run];exact ih _ _
 |getObj r k ih=>
  intro w;simp only [Sem.run];split
  ·exact Nat.le_refl _
  ·exact ih _ _
  ·exact Nat.le_refl _
 |setObj r o k ih=>
  intro w;simp only [Sem.run];split
  ·exact Nat.le_refl _
  ·exact ih { w with heap:=w.heap.setIfInBounds r o }
  ·exact Nat.le_refl _
 |choose q k ih=>
  intro w;simp only [Sem.run];split
  ·exact ih _ _
  ·exact Nat.le_trans (Nat.le_succ _) (ih _ { w with drawn:=w.drawn+1 })
 |sys c k ih=>intro w;simp only [Sem.run];exact Nat.le_trans (sys_le w c) (ih _ _)
 |program k ih=>intro w;simp only [Sem.run];exact ih _ _
 |mark m k ih=>intro w;simp only [Sem.run];exact ih _
 |halt h=>intro w;exact Nat.le_refl _
theorem ze7 {α:Type} {p:Program} {s:Sem α} {w w':World} {a:α} (h:s.run p w= .ok a w'):w.drawn≤w'.drawn:=by
 have :=run_le p s w;rw [h] at this;exact this
theorem run_halt {α:Type} {p:Program} {s:Sem α} {w w':World} {a:Halt} (h:s.run p w= .halt a w'):w.drawn≤w'.drawn:=by
 have :=run_le p s w;rw [h] at this;exact this
theorem zu1 {α:Type} {p:Program} {s:Sem α} {w:World} {es es':Array Event} {r:Result α} (h:s.runT p w es=(r,es')):w.drawn≤(wOf r).drawn:=by
 have h1:=Sem.runT_fst p s w es;rw [h] at h1;have :=run_le p s w;rw [←h1] at this;exact this
theorem runT_ok1 {α:Type} {p:Program} {s:Sem α} {w w':World} {es:Array Event} {a:α} (h:(s.runT p w es).1= .ok a w'):w.drawn≤w'.drawn:=by rw [Sem.runT_fst] at h;exact ze7 h
theorem runT_halt1 {α:Type} {p:Program} {s:Sem α} {w w':World} {es:Array Event} {a:Halt} (h:(s.runT p w es).1= .halt a w'):w.drawn≤w'.drawn:=by rw [Sem.runT_fst] at h;exact run_halt h
def up (d:Nat):GStep→Prop
 | .go _ w _| .comm _ _ _ _ w _| .spawn _ _ w _| .count _ w _| .timer _ _ w _| .alone _ _ w _| .newcoro _ _ _ w _| .coroswitch _ _ _ w _| .collect _ w _| .watch _ w _=>d≤w.drawn
 | .ended _ _ _=>True
theorem zo7 (d:Nat) (es:Array Event) (s:GStep):up d (GStep.after es s)↔up d s:=by cases s <;> exact Iff.rfl
theorem zn4 {d d':Nat} (h:d≤d') {s:GStep} (hs:up d' s):up d s:=by
 cases s <;> first |exact Nat.le_trans h hs|trivial
theorem up_ite {d:Nat} {c:Prop} [Decidable c] {a b:GStep} (ha:up d a) (hb:up d b):up d (if c then a else b):=by split <;> assumption
theorem zx4 (fr:Frame) (m:String) (w:World):up w.drawn (endThrow fr m w):=Nat.le_refl _
theorem dieOf_up (fr:Frame) (l:List ByteArray) (m:String) (b:Bool) (w:World):up w.drawn (dieOf fr l m b w):=Nat.le_refl _
theorem ye2 (p:Program) (fr:Frame) (v:Value) (w:World):up w.drawn (endPrinting p fr v w):=by
 unfold endPrinting;simp only []
 split
 ·exact zx4 _ _ _
 ·trivial
theorem yj7 (p:Program) (fr:Frame) (cs:List Frame) (dy:Option Dying) (m:String) (w:World):up w.drawn (endFatal p fr cs dy m w):=by
 unfold endFatal;simp only []
 split
 ·rename_i h;exact zn4 (ze7 h) (dieOf_up _ _ _ _ _)
 ·trivial
 ·trivial
theorem endWith_up (w:World) (fd:Nat) (t:ByteArray) (o:Outcome) (d:Nat):up d (endWith w fd t o):=by
 unfold endWith;simp only []
 split
 ·split <;> trivial
 ·trivial
 ·trivial
theorem writeOn_up (p:Program) (fr:Frame) (dd:Dying) (f:Fatal) (w:World):up w.drawn (writeOn p fr dd f w):=by
 unfold writeOn;simp only []
 split
 ·trivial
 ·split
  ·rename_i h;exact zu1 h
  ·rename_i h;exact zu1 h
  ·trivial
  ·trivial
theorem zx8 (p:Program) (main:Bool) (fr:Frame) (cs:List Frame) (dy:Option Dying) (v:Value) (w:World):up w.drawn (doReturn p main fr cs dy v w):=by
 unfold doReturn
 repeat' first
  |exact Nat.le_refl _
  |trivial
  |split
theorem die_up (p:Program) (fr:Frame) (dd:Dying) (w:World):up w.drawn (die p fr dd w):=by
 unfold die
 split
 ·exact writeOn_up _ _ _ _ _
 split
 ·split
  ·exact Nat.le_refl _
  ·exact endWith_up _ _ _ _ _
 simp only []
 split
 ·exact Nat.le_refl _
 ·split
  ·rename_i h;exact ze7 h
  ·trivial
 ·generalize hx:(invoke (.fn (.method _) #[]) _).runT p w #[]=x;obtain ⟨r,es⟩:=x;have h2:=zu1 hx;rw [zo7];clear hx
  dsimp only
  revert h2
  split <;> intro h2 <;> first |exact h2|trivial|exact zn4 h2 (ye2 _ _ _ _)
 ·trivial
theorem yl3 (p:Program) (fr:Frame) (cs:List Frame) (dy:Option Dying) (d:Deferred) (w:World):up w.drawn (callDeferred p fr cs dy d w):=by
 unfold callDeferred;refine up_ite trivial ?_
 ·simp only [];generalize hx:(invoke d.target d.args).runT p w #[]=x;obtain ⟨r,es⟩:=x;have h2:=zu1 hx;rw [zo7];clear hx
  dsimp only
  revert h2
  split <;> intro h2 <;> first |exact h2|trivial|exact zn4 h2 (yj7 _ _ _ _ _ _)|exact zn4 h2 (zx4 _ _ _)|(split <;> first |exact h2|trivial)
theorem unwind_up (p:Program) (main:Bool) (fr:Frame) (cs:List Frame) (dy:Option Dying) (w:World):up w.drawn (unwind p main fr cs dy w):=by
 unfold unwind
 split
 ·simp only [];generalize hx:(Instr.takeDeferred _).runT p w #[]=x;obtain ⟨r,es⟩:=x;have h2:=zu1 hx;rw [zo7];cases r <;> first |exact h2|trivial
 ·exact yl3 _ _ _ _ _ _
 ·split
  ·trivial
  ·split
   ·trivial
   ·split
    ·exact Nat.le_refl _
    ·split
     ·split
      ·exact Nat.le_refl _
      ·split
       ·rename_i h;exact ze7 h
       ·trivial
       ·trivial
     ·split
      ·exact ye2 _ _ _ _
      ·trivial
  ·split
   ·exact zx8 _ _ _ _ _ _ _
   ·simp only [];generalize hx:(results _ _).runT p w #[]=x;obtain ⟨r,es⟩:=x;have h2:=zu1 hx;rw [zo7];cases r with
    |ok v w'=>exact zn4 h2 (zx8 _ _ _ _ _ _ _)
    |halt n w'=>cases n <;> trivial
theorem early_up (p:Program) (fr:Frame) (cs:List Frame) (dy:Option Dying) (g:Nat) (w:World):up w.drawn (early p fr cs dy g w):=by
 unfold early;simp only []
 repeat' first
  |exact Nat.le_refl _
  |trivial
  |exact ze7 (by assumption)
  |split
 all_goals (rename_i w' h1 x c e h2;exact (ze7 h1:w.drawn≤w'.drawn))
theorem apply_up (p:Program) (b:Bool) (fr:Frame) (cs:List Frame) (dy:Option Dying) (s:Sem Next) (w:World):up w.drawn (stepG.apply p b fr cs dy s w):=by
 have h0:∃r es,(if b then s.runT p w #[] else (s.run p w,#[]))=(r,es)∧w.drawn≤(wOf r).drawn:=by
  cases b
  ·exact ⟨_,_,rfl,run_le p s w⟩
  ·exact ⟨_,_,rfl,zu1 rfl⟩
 obtain ⟨r,es,h1,h2⟩:=h0;unfold stepG.apply
 dsimp only
 rw [h1];rw [zo7];clear h1
 dsimp only
 revert h2
 split <;> intro h2 <;> first |exact h2|trivial|exact zn4 h2 (yj7 _ _ _ _ _ _)|exact zn4 h2 (zx4 _ _ _)|exact zn4 h2 (early_up _ _ _ _ _ _)|(split <;> first |exact h2|trivial|exact zn4 h2 (zx4 _ _ _)|(split <;> first |exact h2|trivial))
theorem oper_up (p:Program) (b:Bool) (fr:Frame) (cs:List Frame) (dy:Option Dying) (w:World):up w.drawn (stepG.oper p b fr cs dy w):=by
 unfold stepG.oper
 split
 ·trivial
 ·split <;> exact apply_up ..
theorem up_elim {d:Nat} {α:Type} (o:Option α) (a:GStep) (f:α→GStep) (ha:up d a) (hf:∀x,up d (f x)):up d (o.elim a f):=by
 cases o
 ·exact ha
 ·exact hf _
theorem leave_up (p:Program) (main:Bool) (fr:Frame) (cs:List Frame) (dy:Option Dying) (w:World) (l:Nat) (jump:Option Code) (why:Outcome):up w.drawn (match (Instr.endRound l jump).runT p w #[] with
  |(r,es)=>GStep.after (seen p fr.fn es) (match r with
   | .ok v w=>doReturn p main fr cs dy v w
   | .halt _ w=> .ended why w)):=by
 generalize hx:(Instr.endRound l jump).runT p w #[]=x;obtain ⟨r,es⟩:=x;have h2:=zu1 hx
 dsimp only
 rw [zo7];cases r with
 |ok v w'=>exact zn4 h2 (zx8 _ _ _ _ _ _ _)
 |halt n w'=>trivial
set_option maxHeartbeats 2000000 in
theorem exec_up (p:Program) (main b:Bool) (fr:Frame) (cs:List Frame) (dy:Option Dying) (w:World):up w.drawn (stepG.exec p main b fr cs dy w):=by
 unfold stepG.exec
 dsimp only
 repeat' first
  |with_reducible exact apply_up ..
  |with_reducible exact oper_up ..
  |with_reducible exact leave_up ..
  |with_reducible refine up_elim _ _ _ ?_ (fun _=>?_)
  |split
 all_goals first
  |trivial
  |exact Nat.le_refl _
  |exact (zo7 _ _ _).2 (zn4 (runT_ok1 (by assumption)) (zx8 ..))
  |exact (zo7 _ _ _).2 (zn4 (runT_ok1 (by assumption)) (apply_up ..))
  |exact (zo7 _ _ _).2 (runT_ok1 (by assumption))
  |exact (zo7 _ _ _).2 (runT_halt1 (by assumption))
  |exact ze7 (by assumption)
theorem stepG_up (p:Program) (main:Bool) (g:Goroutine) (w:World) (b:Bool):up w.drawn (stepG p main g w b):=by
 obtain ⟨fr,callers,status,dying,offers⟩:=g;simp only [stepG]
 split
 ·exact die_up ..
 ·exact exec_up ..
 ·exact unwind_up ..
def nextD:Stepped→Nat| .next m=>m.world.drawn|_=>0
theorem yo2 (p:Program) (rest:Rest) (gs:Array Goroutine) (i:Nat) (g:Goroutine) (cases :Array CommCase) (blocking:Bool)
  (shape:CommShape) (w:World) (m':Machine) (h:(communicate p rest gs i g cases blocking shape w).1= .next m'):w.drawn≤m'.world.drawn:=by
 have hw:∀w',waitingAt rest cases w=some w'→w'.drawn=w.drawn:=fun w' hh=>by
  unfold waitingAt at hh
  repeat' first
   |(simp at hh;done)
   |(simp only [Option.some.injEq] at hh;subst hh;rfl)
   |split at hh
 unfold communicate at h;simp only [] at h
 repeat' first
  |(simp at h;done)
  |(simp only [Stepped.next.injEq] at h;subst h;exact Nat.le_refl _)
  |(simp only [Stepped.next.injEq] at h;subst h;exact ze7 (by assumption))
  |(simp only [Stepped.next.injEq] at h;subst h;exact Nat.le_of_eq (hw _ (by assumption)).symm)
  |split at h
 all_goals (
  have hd:_=m'.world.drawn:=congrArg nextD h
  dsimp only [nextD] at hd
  rw [←hd]
  first
   |exact ze7 (by assumption)
   |exact Nat.le_trans (ze7 (by assumption)) (run_halt (by assumption))
   |exact Nat.le_trans (ze7 (by assumption)) (ze7 (by assumption)))
theorem look_up (p:Program) (gs:Array Goroutine) (rest:Rest) (w:World) (m':Machine) (h:look p gs rest w= .next m'):w.drawn≤m'.world.drawn:=by
 unfold look at h;simp only [] at h
 repeat' first
  |(simp at h;done)
  |(simp only [Stepped.next.injEq] at h;subst h;rename_i h1;exact ze7 h1)
  |split at h
 all_goals (
  have hd:_=m'.world.drawn:=congrArg nextD h
  dsimp only [nextD] at hd
  rw [←hd]
  first
   |exact ze7 (by assumption)
   |exact Nat.le_trans (ze7 (by assumption)) (run_halt (by assumption))
   |exact Nat.le_trans (ze7 (by assumption)) (ze7 (by assumption)))
theorem serve_up (p:Program) (m m':Machine) (k:Nat) (h:serve p m k= .next m'):m.world.drawn≤m'.world.drawn:=by
 unfold serve at h;simp only [] at h
 repeat' first
  |(simp at h;done)
  |(simp only [Stepped.next.injEq] at h;subst h;exact Nat.le_refl _)
  |split at h
theorem endThrow_go {fr:Frame} {m:String} {w w':World} {g:Goroutine} {es:Array Event} (h:endThrow fr m w= .go g w' es):w'.drawn=w.drawn:=by
 unfold endThrow dieOf at h;simp only [] at h
 injection h with h1 h2 h3
 rw [h2]
theorem timerOp_up (m m':Machine) (op:TimerOp) (v:Value) (h:timerOp m op= .ok (v,m')):m'.world.drawn=m.world.drawn:=by
 have hr:∀ (m:Machine) k t a b,(retime m k t a b).2.world.drawn=m.world.drawn:=fun m k t a b=>by
  unfold retime drain;simp only []
  repeat' first |rfl |split
 have ho:∀a m',timerOp.opened m a=some m'→m'.world.drawn=m.world.drawn:=fun a m' hh=>by
  unfold timerOp.opened at hh
  repeat' first
   |(simp at hh;done)
   |(simp only [Option.some.injEq] at hh;subst hh;rfl)
   |split at hh
 unfold timerOp at h;cases op with
 |new t=>
  simp only [] at h
  repeat' first
   |(simp at h;done)
   |(simp only [Except.ok.injEq,Prod.mk.injEq] at h;obtain ⟨_,rfl⟩:=h;rfl)
   |split at h
 |stop a=>
  simp only [timerOp.named] at h
  split at h
  ·simp only [Except.ok.injEq] at h;have :=congrArg (fun x=>x.2.world.drawn) h
   dsimp only at this
   rw [←this];exact hr ..
  ·simp at h
 |reset a b c=>
  simp only [] at h
  split at h
  ·rename_i m2 h2
   simp only [timerOp.named] at h
   split at h
   ·simp only [Except.ok.injEq] at h;have :=congrArg (fun x=>x.2.world.drawn) h
    dsimp only at this
    rw [←this,hr,ho _ _ h2]
   ·simp at h
  ·simp at h
 |deadline a b c d=>
  simp only [Except.ok.injEq,Prod.mk.injEq] at h;obtain ⟨_,rfl⟩:=h;rfl
theorem runM_up (p:Program) (m m':Machine) (i:Nat) (b:Bool) (h:(runT p m i b).1= .next m'):m.world.drawn≤m'.world.drawn:=by
 simp only [runT] at h
 revert h
 generalize m.gs.swapAt! _ _=gg;have hs:=stepG_up p (i==0) gg.1 m.world b
 revert hs
 generalize stepG p _ gg.1 m.world b=s;intro hs h;cases s <;> simp only [] at h <;> simp only [up] at hs
 all_goals first
  |(simp at h;done)
  |exact Nat.le_trans hs (yo2 _ _ _ _ _ _ _ _ _ _ h)
  |exact Nat.le_trans hs (look_up _ _ _ _ _ h)
  |(simp only [Stepped.next.injEq] at h;subst h;exact hs)
  |(repeat' first
    |(simp at h;done)
    |(simp only [Stepped.next.injEq] at h;subst h;exact hs)
    |(simp only [Stepped.next.injEq] at h;subst h;rename_i h2;exact Nat.le_trans hs (Nat.le_of_eq (timerOp_up _ _ _ _ h2).symm))
    |(simp only [Stepped.next.injEq] at h;subst h;rename_i h2;exact Nat.le_trans hs (Nat.le_of_eq (endThrow_go h2).symm))
    |split at h)
def moveD:Move→Nat| .goroutine m _=>m.world.drawn| .machine s _=>nextD s
theorem zz (p:Program) (m m':Machine) (ops:Array MemOp) (h:askOn p m= .machine (.next m') ops):m.world.drawn≤m'.world.drawn:=by
 unfold askOn at h;simp only [] at h
 repeat' first
  |(simp at h;done)
  |(simp only [Move.machine.injEq] at h;exact Nat.le_trans (ze7 (by assumption)) (serve_up _ _ _ _ h.1))
  |(simp only [Move.machine.injEq,Stepped.next.injEq] at h;obtain ⟨rfl,_⟩:=h;exact ze7 (by assumption))
  |(simp only [Move.machine.injEq,Stepped.next.injEq] at h;obtain ⟨rfl,_⟩:=h;exact Nat.le_trans (ze7 (by assumption)) (ze7 (by assumption)))
  |split at h
 all_goals (
  have hd:_=m'.world.drawn:=congrArg moveD h
  dsimp only [moveD,nextD,Machine.advanceTo] at hd
  have e0:=ze7 (show Sem.run p (if _ then _ else _) m.world=_ by assumption)
  try have e1:=ze7 (show Sem.run p (choose (.extern "clock.wait" _)) _=_ by assumption)
  omega)
theorem zt7 (p:Program) (m m':Machine) (i:Nat) (h:askOn p m= .goroutine m' i):m.world.drawn≤m'.world.drawn:=by
 unfold askOn at h;simp only [] at h
 repeat' first
  |(simp at h;done)
  |split at h
 all_goals (
  have hd:_=m'.world.drawn:=congrArg moveD h
  dsimp only [moveD,nextD,Machine.advanceTo] at hd
  have e0:=ze7 (show Sem.run p (if _ then _ else _) m.world=_ by assumption);have e1:=ze7 (show Sem.run p (choose (.sched _)) _=_ by assumption)
  try have e2:=ze7 (show Sem.run p (choose (.extern "clock.wait" _)) _=_ by assumption)
  try have e3:=ze7 (show Sem.run p (choose (.extern "sched.slice" _)) _=_ by assumption)
  try simp only [Machine.advanceTo] at *
  omega)
theorem ask_up (p:Program) (m m':Machine) (ops:Array MemOp) (h:ask p m= .machine (.next m') ops):m.world.drawn≤m'.world.drawn:=by
 unfold ask at h
 repeat' first
  |(simp at h;done)
  |exact zz p m m' ops h
  |exact Nat.le_trans (ze7 (by assumption)) (zz p _ m' ops h)
  |exact Nat.le_trans (ze7 (by assumption)) (Nat.le_trans (look_up _ _ _ _ _ (by assumption)) (zz p _ m' ops h))
  |split at h
 all_goals (
  rename_i hn
  simp only [Move.machine.injEq] at h
  exact (hn _ h.1).elim)
theorem yo3 (p:Program) (m m':Machine) (i:Nat) (h:ask p m= .goroutine m' i):m.world.drawn≤m'.world.drawn:=by
 unfold ask at h
 repeat' first
  |(simp at h;done)
  |exact zt7 p m m' i h
  |exact Nat.le_trans (ze7 (by assumption)) (zt7 p _ m' i h)
  |exact Nat.le_trans (ze7 (by assumption)) (Nat.le_trans (look_up _ _ _ _ _ (by assumption)) (zt7 p _ m' i h))
  |split at h
theorem move_up (p:Program) (m m':Machine) (ops:Array MemOp) (h:move p m= .machine (.next m') ops):m.world.drawn≤m'.world.drawn:=by
 unfold move at h
 repeat' first
  |(simp at h;done)
  |(have h3:=ask_up p _ m' ops h;exact h3)
  |split at h
theorem ym4 (p:Program) (m m':Machine) (i:Nat) (h:move p m= .goroutine m' i):m.world.drawn≤m'.world.drawn:=by
 unfold move at h
 repeat' first
  |(simp at h;done)
  |(have h3:=yo3 p _ m' i h;exact h3)
  |(simp only [Move.goroutine.injEq] at h;obtain ⟨rfl,_⟩:=h;exact Nat.le_refl _)
  |split at h
theorem step_up (p:Program) (m m':Machine) (h:step p m= .next m'):m.world.drawn≤m'.world.drawn:=by
 simp only [step,stepT] at h
 split at h
 ·rename_i m2 i hm
  exact Nat.le_trans (ym4 p m m2 i hm) (runM_up p m2 m' i _ h)
 ·rename_i s ops hm
  simp only [] at h;subst h;exact move_up p m m' ops hm
theorem runN_up (p:Program):∀ (n:Nat) (m m':Machine),runN p n m= .next m'→m.world.drawn≤m'.world.drawn:=by
 intro n
 induction n with
 |zero=>intro m m' h;simp only [runN,Stepped.next.injEq] at h;subst h;exact Nat.le_refl _
 |succ n ih=>
  intro m m' h;simp only [runN] at h
  split at h
  ·rename_i m2 h2
   exact Nat.le_trans (step_up p m m2 h2) (ih _ _ h)
  ·rename_i e h2
   exact (h2 _ h).elim
theorem calls_up {P:Program} {f:FuncId} {args:Array Value} {w:World} {R:Ending→World→Prop} (hR:∀e w',R e w'→∃v,e= .returned v) (h:Calls P f args w R):Calls P f args w fun e w'=>R e w'∧w.drawn≤w'.drawn:=by
 intro cs;obtain ⟨e,w',fr,hr,hc,h1,h2⟩:=h cs;obtain ⟨v,rfl⟩:=hR e w' hr;obtain ⟨n,hn⟩:=hc;exact ⟨_,w',fr,⟨hr,runN_up P n _ _ hn⟩,⟨n,hn⟩,h1,h2⟩
end Drw
end
section
open Go.Shelf
namespace ya8
def ren:Go.Shelf.Ren:=⟨fun |6=>129|15=>142|14=>141|28=>155|29=>156|20=>147|21=>148|22=>149|23=>150|24=>151|25=>152|26=>153|27=>154|46=>162|47=>163|48=>164|49=>165|50=>166|57=>170|n=>n,fun |22=>41|24=>47|25=>186|3=>3|39=>197|0=>0|53=>214|55=>216|4=>4|46=>207|45=>206|50=>211|5=>5|9=>9|66=>222|70=>226|76=>234|77=>235|n=>n,fun n=>n⟩
theorem lay:SlLaysF0.n6 Tryz.prog ren where
 mixed:=by kernel_rfl
 f6:=⟨ "slices.SortFunc[[]loop.example/g00449/impl.Node,loop.example/g00449/impl.Node]",by decide,Tryz.func129.trans (congrArg some (by kernel_rfl))⟩
 f14:=⟨ "slices.pdqsortCmpFunc[loop.example/g00449/impl.Node]",by decide,Tryz.func141.trans (congrArg some (by kernel_rfl))⟩
 f15:=Tryz.func142.trans (congrArg some (by kernel_rfl))
 f20:=⟨ "slices.insertionSortCmpFunc[loop.example/g00449/impl.Node]",by decide,Tryz.func147.trans (congrArg some (by kernel_rfl))⟩
 f21:=⟨ "slices.heapSortCmpFunc[loop.example/g00449/impl.Node]",by decide,Tryz.func148.trans (congrArg some (by kernel_rfl))⟩
 f22:=⟨ "slices.breakPatternsCmpFunc[loop.example/g00449/impl.Node]",by decide,Tryz.func149.trans (congrArg some (by kernel_rfl))⟩
 f23:=⟨ "slices.choosePivotCmpFunc[loop.example/g00449/impl.Node]",by decide,Tryz.func150.trans (congrArg some (by kernel_rfl))⟩
 f24:=⟨ "slices.reverseRangeCmpFunc[loop.example/g00449/impl.Node]",by decide,Tryz.func151.trans (congrArg some (by kernel_rfl))⟩
 f25:=⟨ "slices.partialInsertionSortCmpFunc[loop.example/g00449/impl.Node]",by decide,Tryz.func152.trans (congrArg some (by kernel_rfl))⟩
 f26:=⟨ "slices.partitionEqualCmpFunc[loop.example/g00449/impl.Node]",by decide,Tryz.func153.trans (congrArg some (by kernel_rfl))⟩
 f27:=⟨ "slices.partitionCmpFunc[loop.example/g00449/impl.Node]",by decide,Tryz.func154.trans (congrArg some (by kernel_rfl))⟩
 f28:=Tryz.func155.trans (congrArg some (by kernel_rfl))
 f29:=Tryz.func156.trans (congrArg some (by kernel_rfl))
 f46:=⟨ "slices.siftDownCmpFunc[loop.example/g00449/impl.Node]",by decide,Tryz.func162.trans (congrArg some (by kernel_rfl))⟩
 f47:=Tryz.func163.trans (congrArg some (by kernel_rfl))
 f48:=Tryz.func164.trans (congrArg some (by kernel_rfl))
 f49:=⟨ "slices.medianAdjacentCmpFunc[loop.example/g00449/impl.Node]",by decide,Tryz.func165.trans (congrArg some (by kernel_rfl))⟩
 f50:=⟨ "slices.medianCmpFunc[loop.example/g00449/impl.Node]",by decide,Tryz.func166.trans (congrArg some (by kernel_rfl))⟩
 f57:=⟨ "slices.order2CmpFunc[loop.example/g00449/impl.Node]",by decide,Tryz.func170.trans (congrArg some (by kernel_rfl))⟩
 t0:=Tryz.underlying0
 a0:=Tryz.isAgg0
 z0:=Tryz.sizeOf0
 v0:=Tryz.zeroValue0
 t3:=Tryz.underlying3
 a3:=Tryz.isAgg3
 z3:=Tryz.sizeOf3
 v3:=Tryz.zeroValue3
 t4:=Tryz.underlying4
 a4:=Tryz.isAgg4
 z4:=Tryz.sizeOf4
 v4:=Tryz.zeroValue4
 t5:=Tryz.underlying5
 a5:=Tryz.isAgg5
 z5:=Tryz.sizeOf5
 v5:=Tryz.zeroValue5
 t9:=Tryz.underlying9
 a9:=Tryz.isAgg9
 z9:=Tryz.sizeOf9
 v9:=Tryz.zeroValue9
 t22:=Tryz.underlying41
 a22:=Tryz.isAgg41
 z22:=Tryz.sizeOf41
 v22:=Tryz.zeroValue41
 t25:=Tryz.underlying186
 a25:=Tryz.isAgg186
 z25:=Tryz.sizeOf186
 v25:=Tryz.zeroValue186
 t39:=Tryz.underlying197
 a39:=Tryz.isAgg197
 z39:=Tryz.sizeOf197
 v39:=Tryz.zeroValue197
 t45:=Tryz.underlying206
 a45:=Tryz.isAgg206
 z45:=Tryz.sizeOf206
 v45:=Tryz.zeroValue206
 t46:=Tryz.underlying207
 a46:=Tryz.isAgg207
 z46:=Tryz.sizeOf207
 v46:=Tryz.zeroValue207
 t50:=Tryz.underlying211
 a50:=Tryz.isAgg211
 z50:=Tryz.sizeOf211
 v50:=Tryz.zeroValue211
 t53:=Tryz.underlying214
 a53:=Tryz.isAgg214
 z53:=Tryz.sizeOf214
 v53:=Tryz.zeroValue214
 t55:=Tryz.underlying216
 a55:=Tryz.isAgg216
 z55:=Tryz.sizeOf216
 v55:=Tryz.zeroValue216
 t66:=Tryz.underlying222
 a66:=Tryz.isAgg222
 z66:=Tryz.sizeOf222
 v66:=Tryz.zeroValue222
 t70:=Tryz.underlying226
 a70:=Tryz.isAgg226
 z70:=Tryz.sizeOf226
 v70:=Tryz.zeroValue226
 t76:=Tryz.underlying234
 a76:=Tryz.isAgg234
 z76:=Tryz.sizeOf234
 v76:=Tryz.zeroValue234
 t77:=Tryz.underlying235
 a77:=Tryz.isAgg235
 z77:=Tryz.sizeOf235
 v77:=Tryz.zeroValue235
theorem agg:∀w,(isAgg (ren.t 24)).run Tryz.prog w= .ok true w:=Tryz.isAgg47
theorem size:∀w,(Go.sizeOf (ren.t 24)).run Tryz.prog w= .ok 5 w:=Tryz.sizeOf47
end ya8
end
section
open Go.RowKit Go.Sort
namespace WOrder
theorem grow_of {w w':World} (h:Go.RowKit.Below w.heap.size w w') (hd:w.drawn≤w'.drawn):∃q os',w'=grow (w.drewN q) os':=by
 obtain ⟨⟨d,os⟩,e⟩:=regrown_of_below h;have e2:w'.drawn=d:=by rw [e];rfl
 refine ⟨d - w.drawn,os,?_⟩;rw [e];show grow (redrawn w d) os=grow (w.drewN (d - w.drawn)) os;unfold redrawn World.drewN;rw [show w.drawn+(d - w.drawn)=d by omega]
abbrev Rn:={n:Pl.Nd // Pl.za1 n.path=true}
def cf (x y:Rn):Int:=if Pl.ltP x.1.path y.1.path then -1 else if Pl.ltP y.1.path x.1.path then 1 else 0
theorem lt_cf (x y:Rn):ltOf cf x y=Pl.ltP x.1.path y.1.path:=by
 unfold ltOf cf;cases Pl.ltP x.1.path y.1.path
 ·cases Pl.ltP y.1.path x.1.path <;> rfl
 ·rfl
theorem lt_anti {x y:Rn} (h:x.1.path≠y.1.path):Pl.ltP x.1.path y.1.path= !Pl.ltP y.1.path x.1.path:=Pl.two_less x.2 y.2 h
theorem lt_irr (x:Rn):Pl.ltP x.1.path x.1.path=false:=by rw [Pl.zd4 x.2 x.2];exact Pl.zj8 _
theorem lt_tr {x y z:Rn} (h1:Pl.ltP x.1.path y.1.path=true) (h2:Pl.ltP y.1.path z.1.path=true):Pl.ltP x.1.path z.1.path=true:=by
 rw [Pl.zd4 x.2 y.2] at h1;rw [Pl.zd4 y.2 z.2] at h2;rw [Pl.zd4 x.2 z.2];exact Pl.zm3 _ _ _ h1 h2
theorem swo:SWO (ltOf cf) where
 irrefl x:=by rw [lt_cf];exact lt_irr x
 trans x y z h1 h2:=by rw [lt_cf] at *;exact lt_tr h1 h2
 ntrans x y z h1 h2:=by
  rw [lt_cf] at *;cases h:Pl.ltP x.1.path z.1.path
  ·rfl
  ·exfalso;by_cases e:x.1.path=y.1.path
   ·rw [←e,h] at h2;cases h2
   ·have a:=lt_anti e;rw [h1] at a
    have b:Pl.ltP y.1.path x.1.path=true:=by
     cases hb:Pl.ltP y.1.path x.1.path
     ·rw [hb] at a;cases a
     ·rfl
    rw [lt_tr b h] at h2;cases h2
def cfP (p q:ByteArray):Int:=if Pl.ltP p q then -1 else if Pl.ltP q p then 1 else 0
set_option maxRecDepth 100000 in
theorem order_path (p q:ByteArray) (hp:Pl.za1 p=true) (hq:Pl.za1 q=true) (w:World):
  Calls Tryz.prog 131 #[.string p, .string q] w fun e w'=>e= .returned (.int .i64 (cfP p q))∧Go.RowKit.Below w.heap.size w w':=by
 have h1:=hide (fun W=>WLess.less_any p q W (by have :=Pl.zd1 hp;omega) (by have :=Pl.zd1 hq;omega));have h2:=hide (fun W=>WLess.less_any q p W (by have :=Pl.zd1 hq;omega) (by have :=Pl.zd1 hp;omega))
 change Hid (∀W,Calls Tryz.prog _ _ W fun e w'=>e= .returned (.bool (Pl.ltP p q))∧_) at h1
 change Hid (∀W,Calls Tryz.prog _ _ W fun e w'=>e= .returned (.bool (Pl.ltP q p))∧_) at h2
 unfold cfP;generalize Pl.ltP p q=r1 at h1 ⊢;generalize Pl.ltP q p=r2 at h2 ⊢;clear hp hq;cases r1
 ·go_enter Tryz.func131,Tryz.ntmps131
  go_wp2_with fail
  refine (za h1 _).mono ?_;rintro e w1 ⟨rfl,b1⟩;clear h1;go_wp2_with fail
  refine (za h2 _).mono ?_;rintro e w3 ⟨rfl,b3⟩;have b4:=b1.trans (b3.mono b1.size);clear b1 b3 h2;cases r2
  ·go_wp2
   go_ret
   exact ⟨rfl,b4⟩
  ·go_wp2
   go_ret
   exact ⟨rfl,b4⟩
 ·clear h2;go_enter Tryz.func131,Tryz.ntmps131
  go_wp2_with fail
  refine (za h1 _).mono ?_;rintro e w1 ⟨rfl,b1⟩;clear h1;go_wp2
  go_ret
  exact ⟨rfl,b1⟩
set_option maxRecDepth 100000 in
theorem order_any (x y:Rn) (w:World):
  Calls Tryz.prog 130 #[.agg x.1.cs.toArray, .agg y.1.cs.toArray] w fun e w'=>e= .returned (.int .i64 (cf x y))∧Go.RowKit.Below w.heap.size w w':=by
 have h1:=hide (fun W=>order_path x.1.path y.1.path x.2 y.2 W);have e1:cf x y=cfP x.1.path y.1.path:=rfl;rw [e1];generalize cfP x.1.path y.1.path=r at h1 ⊢;obtain ⟨⟨p,k,d,t,m⟩,hx⟩:=x;obtain ⟨⟨p',k',d',t',m'⟩,hy⟩:=y;simp only [Pl.Nd.cs] at h1 ⊢;have b0:Go.RowKit.Below w.heap.size w ((w.alloc (.cells #[.string p, .int .i64 k, .string d, .int .i64 t, .int .i64 m] 47)).alloc (.cells #[.string p', .int .i64 k', .string d', .int .i64 t', .int .i64 m'] 47)):=((Below.refl _ _).alloc (Nat.le_refl _) _).alloc (by simp) _;clear hx hy e1;go_enter Tryz.func130,Tryz.ntmps130
 go_wp2_with fail
 refine (za h1 _).mono ?_;rintro e w1 ⟨rfl,b1⟩;have b2:=b0.trans (b1.mono b0.size);clear b0 b1 h1;go_wp2
 go_ret
 exact ⟨rfl,b2⟩
theorem cmp_lays (blk off size:Nat) (w:World) [Inhabited Rn]:CmpLays Tryz.prog 130 #[] (fun x:Rn=>x.1.cs) 5 cf blk off size w:=fun m os dk _ x y=>by
 have h:=Drw.calls_up (fun e w' (h:e= .returned (.int .i64 (cf x y))∧_)=>⟨_,h.1⟩) (order_any x y (sortWorldK (fun x:Rn=>x.1.cs) 5 w blk off m dk os));exact h.mono fun e w' ⟨⟨he,hb⟩,hd⟩=>⟨he,grow_of hb hd⟩
theorem heap_sorted {α:Type} [Inhabited α] (enc:α→List Value) (w:World) (g n:Nat) (d:Array α) (os:Array Obj) (cur:Array Value) (T:TypeId) (hg:w.heap[g]? =some (.cells cur T (0,0))):
  (sortWorldK enc 5 w g 0 n d os).heap[g]? =some (.cells (putCells id 0 (flatK enc 5 d) cur) T (0,0)):=by
 have hlt:g<w.heap.size:=(Array.getElem?_eq_some_iff.1 hg).1;unfold sortWorldK grow putRowK putRow mapBlock;simp only [Array.getElem?_append,Array.size_modify];rw [if_pos (show g<(Sort.ahead w n).heap.size from hlt),Array.getElem?_modify,if_pos rfl];show Option.map _ (w.heap[g]?)=_;rw [hg];rfl
theorem grown_sorted {α:Type} [Inhabited α] (enc:α→List Value) (w:World) (g n:Nat) (d:Array α) (os:Array Obj):w.grownBy (sortWorldK enc 5 w g 0 n d os) (some g):=by
 refine ⟨rfl,rfl,rfl,?_,fun j hj hne=>?_⟩
 ·unfold sortWorldK grow putRowK putRow mapBlock;simp only [Array.size_append,Array.size_modify];exact Nat.le_add_right _ _
 ·have h:j≠g:=fun e=>hne (by rw [e]);unfold sortWorldK grow putRowK putRow mapBlock;simp only [Array.getElem?_append,Array.size_modify];rw [if_pos (show j<(Sort.ahead w n).heap.size from hj),Array.getElem?_modify,if_neg (fun e=>h e.symm)];rfl
theorem flat_get (d:Array Rn) [Inhabited Rn] (t:Nat) (h:t<d.size*5):(flatK (fun x:Rn=>x.1.cs) 5 d)[t]! =(Pl.zc4 (d.toList.map (·.1)))[t]! :=by
 rw [get_flatK _ _ _ _ h];have hd:t / 5<d.size:=by omega
 have e:(d.toList.map (·.1))[t / 5]? =some (d[t / 5]!).1:=by
  rw [List.getElem?_map,Array.getElem?_toList,Array.getElem?_eq_getElem hd,getElem!_pos d _ hd];rfl
 have h2:=Pl.zz7 _ _ _ e (t % 5) (by omega);rw [show t / 5*5+t % 5=t by omega] at h2;rw [List.getElem!_eq_getElem?_getD,List.getElem!_eq_getElem?_getD,h2]
theorem sort_any (g cap B:Nat) (T:List Pl.Nd) (w:World) (hp:∀t∈T,Pl.za1 t.path=true) (hl:T.length≤1048576) (hown:Mem.ownN w B (.slice (some ⟨g,0,none⟩) T.length cap) T):
  Calls Tryz.prog 129 #[.slice (some ⟨g,0,none⟩) T.length cap, .func (.func 130) #[] #[]] w fun e w'=>e= .returned (.tuple #[])∧
   ∃S:List Pl.Nd,S.Perm T∧S.Pairwise (fun a b=>Pl.ltP b.path a.path=false)∧Mem.ownN w' B (.slice (some ⟨g,0,none⟩) T.length cap) S∧w.grownBy w' (some g):=by
 by_cases h0:T=[]
 ·subst h0;refine Calls.mono (AnyF.slices_SortFunc_none (P:=Tryz.prog) ya8.lay (some ⟨g,0,none⟩) cap (.func (.func 130) #[] #[]) w) ?_;rintro e w' ⟨he,rfl⟩;exact ⟨he,[],List.Perm.refl _,List.Pairwise.nil,hown,⟨rfl,rfl,rfl,Nat.le_refl _,fun _ _ _=>rfl⟩⟩
 obtain ⟨t0,ht0⟩:=List.exists_mem_of_ne_nil T h0
 letI:Inhabited Rn:=⟨⟨t0,hp t0 ht0⟩⟩
 rcases hown.2 with ⟨e, -⟩|⟨g',cap',cur,e,hb,hg,hc,hm,hsz,ht⟩
 ·cases e
 injection e with e1 e2 e3
 cases e1
 subst e3
 let d:Array Rn:=(T.attach.map (fun t=>(⟨t.1,hp t.1 t.2⟩:Rn))).toArray
 have hd:d.toList.map (·.1)=T:=by simp [d]
 have hds:d.size=T.length:=by simp [d]
 have hcur:T.length*5≤cur.size:=by rw [hsz];exact Nat.mul_le_mul_right _ hc
 have hH:HoldsK (fun x:Rn=>x.1.cs) 5 w g 0 d:=by
  intro j hj;rw [size_flatK,hds] at hj;refine ⟨?_,Mem.zg1 hg⟩;rw [cell_of_row w g _ cur _ (0,0) hg,Nat.zero_add,flat_get d j (by omega),hd,id_eq];have h1:(Pl.zc4 T)[j]? =cur[j]?:=by rw [←ht,List.getElem?_take_of_lt (by omega),Array.getElem?_toList]
  rw [←h1,List.getElem!_eq_getElem?_getD,List.getElem?_eq_getElem (by rw [Pl.zk0];omega)];rfl
 have hcon:=AnyQ.slices_SortFunc (P:=Tryz.prog) ya8.lay 5 ya8.agg ya8.size (fun x:Rn=>x.1.cs) (fun _=>rfl) (fun x=>Mem.zm9 x.1) cf swo 130 #[] g 0 cap d w (enters_of Tryz.func130 (by kernel_rfl) rfl) (cmp_lays g 0 d.size w) hH (Array.getElem?_eq_some_iff.1 hg).1 (by omega);rw [hds] at hcon;refine Calls.mono hcon ?_;rintro e w' ⟨he,d',n,os,hperm,hsort,rfl⟩;have hs':d'.size=T.length:=hperm.1.trans hds;refine ⟨he,d'.toList.map (·.1),?_,?_,?_,grown_sorted _ w g n d' os⟩
 ·have h:=hperm.2.2;rw [←hds] at h;have e1:(d'.extract 0 d.size).toList=d'.toList:=by simp [hperm.1.symm]
  have e2:(d.extract 0 d.size).toList=d.toList:=by simp
  rw [e1,e2] at h;have :=h.map (·.1)
  rwa [hd] at this
 ·rw [List.pairwise_map,List.pairwise_iff_getElem];intro i j hi hj hij;have h:=hsort i j (Nat.zero_le _) hij (by simp at hj;omega);rw [lt_cf,getElem!_pos d' i (by simpa using hi),getElem!_pos d' j (by simpa using hj)] at h
  simpa using h
 ·have hlen:(d'.toList.map (·.1)).length=T.length:=by simp [hs']
  refine ⟨?_, .inr ⟨g,cap,_,?_,hb,heap_sorted _ w g n d' os cur _ hg,?_,hm,?_,?_⟩⟩
  ·rw [Pl.zk0]
  ·rw [hlen]
  ·rw [hlen];exact hc
  ·simp only [putCells,Array.size_mapIdx];exact hsz
  ·rw [hlen]
   apply List.ext_getElem?
   intro j;by_cases hj:j<T.length*5
   ·rw [List.getElem?_take_of_lt hj,Array.getElem?_toList];have h1:(flatK (fun x:Rn=>x.1.cs) 5 d')[j]! =(Pl.zc4 (d'.toList.map (·.1)))[j]! :=flat_get d' j (by omega);rw [putCells,Array.getElem?_mapIdx,Array.getElem?_eq_getElem (by omega)];simp only [Option.map_some,size_flatK,Nat.zero_le,true_and,Nat.zero_add,Nat.sub_zero,id_eq];rw [if_pos (by omega),h1,List.getElem!_eq_getElem?_getD,List.getElem?_eq_getElem (by rw [Pl.zk0,hlen];omega)];rfl
   ·rw [List.getElem?_eq_none (by rw [List.length_take];omega),List.getElem?_eq_none (by rw [Pl.zk0,hlen];omega)]
end WOrder
end
section
open Go.RowKit
theorem kBs {α:Type}:(∀ (xs:List α) (i:Nat) (h:i<xs.toArray.size),xs.toArray[i]=xs[i]'(by simpa using h))∧(∀ (a:α) (as':List α) (h:0<(a::as').length),(a::as')[0]=a)∧(∀ (a:α) (as':List α) (i:Nat) (h:i+1<(a::as').length),(a::as')[i+1]=as'[i]'(by simpa using h))∧
  (∀ (l:List α) (i:Nat) (a:α),l.toArray.setIfInBounds i a=(l.set i a).toArray)∧(∀ (x a:α) (xs:List α),(x::xs).set 0 a=a::xs)∧(∀ (x a:α) (xs:List α) (n:Nat),(x::xs).set (n+1) a=x::xs.set n a):=
 ⟨fun _ _ _=>rfl,fun _ _ _=>rfl,fun _ _ _ _=>rfl,fun _ _ _=>List.setIfInBounds_toArray ..,fun _ _ _=>rfl,fun _ _ _ _=>rfl⟩
theorem kGs {α:Type}:(∀ (l:List α) (i:Nat),l.toArray[i]? =l[i]?)∧(∀ (a:α) (l:List α),(a::l)[0]? =some a)∧(∀ (a:α) (l:List α) (i:Nat),(a::l)[i+1]? =l[i]?):=
 ⟨fun _ _=>List.getElem?_toArray ..,fun _ _=>List.getElem?_cons_zero ..,fun _ _ _=>List.getElem?_cons_succ ..⟩
end
section
open Go.RowKit
theorem TB {P:Program} {md:Region.Mode} {ops:Array Oper} {Q:Exit→Act→World→Prop} {S:World→Prop} {oi:Oper} {v:Value} {fuel:Nat} {listed l2:Array Bool} {a a2:Act} {w:World} (i:Nat)
  (h:wpAnyH P md ops Q S fuel l2 a2 w) (hi:ops[i]? =some oi:=by exact rfl)
  (hs:Region.noSelect ops=true:=by kernel_rfl) (hf:Region.free md ops listed i=true:=by kernel_rfl) (hr:(Region.ready md ops listed).contains i=true:=by kernel_rfl)
  (hw:Region.wanted oi (yielded ops a.tmps)=true:=by first |kernel_rfl|rfl)
  (hy:∀w,S w→(execOp a.eval oi).run P w= .ok (.value v) w:=by (intro w hSw;(try dsimp only at hSw);go_simp;(try with_reducible rfl)))
  (hl:listed.setIfInBounds i true=l2:=by ((try simp only [kBs]);exact rfl)) (hp:a.put oi.dst v=a2:=by ((try simp only [Act.put,kBs]);exact rfl))
  (hQ:∀c a w,Q (.panic c) (a.put oi.dst v) w→Q (.panic c) a w:=by first |exact fun _ _ _ h=>h|exact fun _ _ _ h=>nomatch h.1) (hS:S w:=by assumption):wpAnyH P md ops Q S (fuel+1) listed a w:=by
 subst hl;subst hp;exact wpAnyH_take hi hs hf hr hQ (Or.inl ⟨hw,hy⟩) hS h
theorem TC {P:Program} {md:Region.Mode} {ops:Array Oper} {Q:Exit→Act→World→Prop} {S:World→Prop} {oi:Oper} {fuel:Nat} {listed l2:Array Bool} {a a2:Act} {w:World} (i:Nat)
  (h:wpAnyH P md ops Q S fuel l2 a2 w) (hi:ops[i]? =some oi:=by exact rfl)
  (hs:Region.noSelect ops=true:=by kernel_rfl) (hf:Region.free md ops listed i=true:=by kernel_rfl) (hr:(Region.ready md ops listed).contains i=true:=by kernel_rfl)
  (hw:Region.wanted oi (yielded ops a.tmps)=false:=by first |kernel_rfl|rfl)
  (hl:listed.setIfInBounds i true=l2:=by ((try simp only [kBs]);exact rfl)) (hp:a.put oi.dst undef=a2:=by ((try simp only [Act.put,kBs]);exact rfl))
  (hQ:∀c a w,Q (.panic c) (a.put oi.dst undef) w→Q (.panic c) a w:=by first |exact fun _ _ _ h=>h|exact fun _ _ _ h=>nomatch h.1) (hS:S w:=by assumption):wpAnyH P md ops Q S (fuel+1) listed a w:=by
 subst hl;subst hp;exact wpAnyH_take hi hs hf hr hQ (Or.inr ⟨hw,rfl⟩) hS h
theorem bD {n:Nat} (w:World):Below n w w.drew:=⟨rfl,rfl,rfl,Nat.le_refl _,fun _ _=>rfl⟩
theorem RN {P:Program} {md:Region.Mode} {ops:Array Oper} {Q:Exit→Act→World→Prop} {S:World→Prop} {o:Oper} {fuel:Nat} {listed:Array Bool} {a:Act} {w:World} (i:Nat)
  (h:∀K':Act→World→Prop,Shut (∀a w,S w→(S w→wpAnyH P md ops Q S fuel (listed.setIfInBounds i true) a w)→K' a w)→if Region.wanted o (yielded ops a.tmps)=true then Oper.wp P o a w K' Q else K' (a.put o.dst undef) w)
  (ho:ops[i]? =some o:=by exact rfl) (hr:Region.ready md ops listed=[i]:=by kernel_rfl):wpAnyH P md ops Q S (fuel+1) listed a w:=
 wpAnyH_ready hr (by simp) (AllReadyH.cons ho h AllReadyH.nil)
theorem RG {P:Program} {ops:Array Oper} {Q:Exit→Act→World→Prop} {S:World→Prop} {id B:Nat} {a:Act} {w w0:World} (MK:Hid (∀W',Below B w0 W'→S W')) (b:Below B w0 w.drew)
  (h:S w.drew→wpAnyH P .any ops Q S ops.size (Array.replicate ops.size false) a w.drew) (hm:P.follows .mixedOrders=true:=by kernel_rfl):(Code.region id ops true).wp P Q a w:=
 wp_region_held_drew hm (MK _ b) h
end
section
open Go.RowKit
namespace WJoin
theorem Tryz.one8 (w:World):(sizeOf 5).run Tryz.prog w= .ok 1 w:=by kernel_rfl
theorem Tryz.info8j:(Tryz.prog.info? 5).map (fun i=>(i.zero,i.size,i.bytes))=some (some (.int .u8 0),1,1):=by kernel_rfl

set_option maxRecDepth 100000 in
set_option maxHeartbeats 400000 in
theorem any (b o cap:Nat) (ts:List ByteArray) (w:World) (hn:ts.length≤1000000) (ht:Pl.tot ts≤1000000000)
  (hcell:∀j t,ts[j]? =some t→w.cell? ⟨b,o+j,none⟩=some (.string t)) (hb:b<w.heap.size):
  Calls Tryz.prog 112 #[.slice (some ⟨b,o,none⟩) ts.length cap] w fun e w'=>e= .returned (.string ⟨(Pl.cat ts).toArray⟩)∧Below w.heap.size w w':=by
 have HC:=hide hcell;clear hcell;go_enter Tryz.func112,Tryz.ntmps112
 go_wp2
 go_loop [3,12] (fun n i=>∃k:Nat,k≤ts.length∧i= .int .i64 k∧n= .int .i64 (Pl.tot (ts.take k):Nat)) (fun _ i=>ts.length - (intOf i).toNat)
 case atStart=>exact ⟨0,Nat.zero_le _,rfl,rfl⟩
 case round=>
  obtain ⟨k,hk,rfl,rfl⟩:=hrel;by_cases hlt:k<ts.length
  ·obtain ⟨t,hkt⟩:∃t,ts[k]? =some t:=⟨_,List.getElem?_eq_getElem hlt⟩;have hc:=za HC k t hkt;have H1:=hide (Pl.tot_snoc ts k t hkt);have h1:=Pl.tot_le ts (k+1);have h2:Pl.tot (ts.take k)+t.size≤1000000000:=by have :=za H1;omega
   clear hkt h1;go_wp2
   go_round
   case rel=>exact ⟨k+1,by omega,by go_num,by rw [za H1];go_num⟩
   case measure=>simp [intOf];omega
  ·have HE:Hid (Pl.tot (ts.take k)=Pl.tot ts):=by
    show _=_;rw [List.take_of_length_le (by omega)]
   have hmk:=Mem.make_bytes (P:=Tryz.prog) Tryz.underlying139 Tryz.info8j (Pl.tot ts) ht w;rw [HE.out];go_wp2
   go_loopw [7,25] (fun p i wr=>∃ (k:Nat) (cur:Array Value),k≤ts.length∧i= .int .i64 k∧p= .int .i64 (Pl.tot (ts.take k):Nat)∧wr.heap[w.heap.size]? =some (.cells cur 5 (0,0))∧cur.size=Pl.tot ts∧
     Hid (cur.toList.take (Pl.tot (ts.take k))=(Pl.cat (ts.take k)).map Pl.zh4)∧Below w.heap.size w wr) (fun _ i _=>ts.length - (intOf i).toNat)
   case atStart=>exact ⟨0,Mem.zeros (Pl.tot ts),Nat.zero_le _,rfl,rfl,heap_alloc_new w _,Mem.zeros_size _,rfl,(Below.refl _ _).alloc (Nat.le_refl _) _⟩
   case round=>
    obtain ⟨k,cur,hk,rfl,rfl,hrow,hcs,HP,hbel⟩:=hrel;by_cases hlt:k<ts.length
    ·obtain ⟨t,hkt⟩:∃t,ts[k]? =some t:=⟨_,List.getElem?_eq_getElem hlt⟩;have hc:wr.cell? ⟨b,o+k,none⟩=some (.string t):=(hbel.cell (p:=⟨b,o+k,none⟩) hb).trans (za HC k t hkt);have H1:=hide (Pl.tot_snoc ts k t hkt);have h1:=Pl.tot_le ts (k+1);have h2:Pl.tot (ts.take k)+t.size≤Pl.tot ts:=by have :=za H1;omega
     have HS:=hide (Pl.part_step hkt HP.out);obtain ⟨D,w2,hsl,hcp,hrow2,hbel2⟩:=Mem.copy_on (P:=Tryz.prog) (sT:=9) Tryz.underlying139 Tryz.one8 wr w.heap.size (Pl.tot (ts.take k)) (Pl.tot ts) cur hrow hcs t h2;have HROW2:=hide hrow2;have HB2:=hide (hbel.trans hbel2)
     have hsz:Hid ((cur.toList.take (Pl.tot (ts.take k))++t.data.toList.map Pl.zh4++cur.toList.drop (Pl.tot (ts.take k)+t.size)).toArray.size=Pl.tot ts):=by
      show _=_;have :t.data.size=t.size:=rfl;simp [this]
      omega
     clear hkt h1 hrow hrow2 hbel2 hbel;go_wp2
     go_roundw
     case rel=>exact ⟨k+1,_,by omega,by go_num,by rw [za H1];go_num,HROW2,hsz,HS,HB2⟩
     case measure=>simp [intOf];omega
    ·have HE2:Hid (Pl.cat (ts.take k)=Pl.cat ts∧Pl.tot (ts.take k)=Pl.tot ts):=by
      show _∧_;rw [List.take_of_length_le (by omega)];exact ⟨rfl,rfl⟩
     have hp:cur.toList.take (Pl.tot ts)=(Pl.cat ts).map Pl.zh4:=by have :=HP.out;rwa [HE2.out.1,HE2.out.2] at this
     have hcv:=Mem.row_text (P:=Tryz.prog) (cap:=Pl.tot ts) Tryz.underlying139 Tryz.underlying5 Tryz.underlying9 (Pl.cat ts) (Pl.yg ts) hrow hp;clear hp hrow;go_wp2
     go_ret
     exact ⟨rfl,hbel⟩
end WJoin
end
end Go.Proofs.YthdhhcgopfgcbaaGreatDoor
