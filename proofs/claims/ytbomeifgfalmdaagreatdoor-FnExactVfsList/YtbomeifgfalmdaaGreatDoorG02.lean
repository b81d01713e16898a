/- Several texts of one claim in one file: Mem, MemVars, MemNodes, MemOwnN, MemBlk, TakeC, TakeK, MemTrees, WLawN, WLawR, MemItems, WLawI, MemSpace, OkSp, WLawSz, WLawT, WLawE, MemFar. -/
import Derived.Test.YtbomeifgfalmdaaGreatDoorG00
import Derived.Deep.RegionHeld3
import Derived.Test.YtbomeifgfalmdaaGreatDoorProg
import Derived.BigQuiet
set_option maxRecDepth 100000
set_option maxHeartbeats 800000
namespace Go.Proofs.YtbomeifgfalmdaaGreatDoor
section
open Go.RowKit
namespace Mem
theorem add_lit (b j:Nat):(⟨b,0,none⟩:Addr).add j=⟨b,j,none⟩:=by unfold Addr.add;split <;> simp_all

theorem row_text {P:Program} {src dst e:TypeId} (hs:P.underlying src=some (.slice e)) (he:P.underlying e=some (.int .u8)) (hd:P.underlying dst=some .string)
  {w:World} {g n cap:Nat} {cur:Array Value} {t:TypeId} (l:List UInt8) (hn:l.length=n) (hg:w.heap[g]? =some (.cells cur t (0,0))) (ht:cur.toList.take n=l.map Pl.zf):
  (convert src dst (.slice (some ⟨g,0,none⟩) n cap)).run P w= .ok (.string ⟨l.toArray⟩) w:=by
 subst hn;refine run_convert_bytes_back w src dst e ⟨g,0,none⟩ cap l hs he hd (fun j hj=>?_);rw [add_lit,cell_of_row w g j cur t (0,0) hg];have h1:(cur.toList.take l.length)[j]? =(l.map Pl.zf)[j]?:=by rw [ht]
 rw [List.getElem?_take_of_lt (by omega)] at h1
 simpa [Pl.zf,hj] using h1

theorem zg4 {B:Nat} {a w w1:World} {o:Obj} {e:TypeId} {size n:Nat} {v:Value} {xs:List Value} (h:Below B a w) (hB:B≤a.heap.size) (hown:w.ownsRow B e size v n xs) (hg:(w.alloc o).grownBy w1 v.ownBlock):Below B a w1:=
 have hs:=h.size
 (h.alloc (by omega) o).grown hg (by simp;omega) (fun k hk=>(hown.lt k hk).1)

theorem ze6 (w:World) (v:Value) (e:TypeId):∀j u,[v][j]? =some u→(w.alloc (.cells #[v] e)).cell? ((⟨w.heap.size,0,none⟩:Addr).add j)=some u:=by
 intro j u hj
 match j,hj with
 |0,hj=>simp at hj;subst hj;rw [add_lit];simp
 |j+1,hj=>simp at hj
theorem zc2 {w:World} {g j:Nat} {cur:Array Value} {t:TypeId} (hg:w.heap[g]? =some (.cells cur t (0,0))):w.frozen? ⟨g,j,none⟩=false:=by
 simp [World.frozen?,hg]
def zeros (n:Nat):Array Value:=madeCells (Value.int .u8 0).cells n
theorem zeros_size (n:Nat):(zeros n).size=n:=size_madeCells _ _
theorem make_bytes {P:Program} {T E:TypeId} (ht:P.underlying T=some (.slice E)) (hi:(P.info? E).map (fun i=>(i.zero,i.size,i.bytes))=some (some (.int .u8 0),1,1)) (n:Nat) (hn:n≤1000000000) (w:World):
  (Instr.makeSlice T (.int .i64 (n:Int)) (.int .i64 (n:Int))).run P w= .ok (.slice (some ⟨w.heap.size,0,none⟩) n n) (w.alloc (.cells (zeros n) E)):=by
 obtain ⟨i0,h0,h1,h2,h3⟩:=info_parts hi;have h:=run_make (P:=P) w T E i0 (.int .u8 0) ht h0 h1 .i64 .i64 (n:Int) (n:Int) (by omega) (Int.le_refl _) (by rw [h3];omega) (by omega);rw [h,h2];simp [zeros]

theorem bytes_one (l:List UInt8):∀v∈l.map Pl.zf,v.oneCell'=true:=by
 intro v hv;obtain ⟨b,_,rfl⟩:=List.mem_map.1 hv;rfl
theorem copy_on {P:Program} {dT sT E:TypeId} (hu:P.underlying dT=some (.slice E)) (hz:∀w,(sizeOf E).run P w= .ok 1 w) (w:World) (B p N:Nat) (cur:Array Value)
  (hB:w.heap[B]? =some (.cells cur E (0,0))) (hc:cur.size=N) (t:ByteArray) (hfit:p+t.size≤N):
  ∃D w',(∀wx,(Instr.slice dT (.slice (some ⟨B,0,none⟩) N N) (some (.int .i64 (p:Int))) none none).run P wx= .ok D wx)∧
   (∀ty,(Builtin.copy_ #[dT,sT] ty #[D, .string t]).run P w= .ok (.int .i64 (t.size:Int)) w')∧
   w'.heap[B]? =some (.cells (cur.toList.take p++t.data.toList.map Pl.zf++cur.toList.drop (p+t.size)).toArray E (0,0))∧Below B w w':=by
 have ht:P.underlying dT=some (.slice (P.elem dT)):=by simp [Program.elem,hu]
 have he:P.elem dT=E:=by simp [Program.elem,hu]
 have hsl:∀wx,(Instr.slice dT (.slice (some ⟨B,0,none⟩) N N) (some (.int .i64 (p:Int))) none none).run P wx= .ok (sliced (some ⟨B,0,none⟩) p N N 1) wx:=by
  intro wx;have h:=run_slice_l (P:=P) wx dT (some ⟨B,0,none⟩) N N ht .i64 (p:Int) (by omega) (by omega);rw [h,he,hz];rfl
 by_cases hp:p=N
 ·subst hp;have h0:t.size=0:=by omega
  have hd:t.data=#[]:=Array.eq_empty_of_size_eq_zero h0;refine ⟨.slice (some ⟨B,0,none⟩) 0 0,w,?_,?_,?_,Below.refl _ _⟩
  ·intro wx;rw [hsl];simp [sliced]
  ·intro ty;simp [Builtin.copy_,run_underlying hu,Builtin.lenOf,Builtin.firstCells,hz,h0,goInt,storeCells]
  ·rw [hB,h0,hd];simp
 ·have hlt:p<N:=by omega
  have hlen:(t.data.toList.map Pl.zf).length=t.size:=by rw [List.length_map];rfl
  have hst:=run_storeCells_at P B p E (t.data.toList.map Pl.zf) 0 cur w hB (by rw [hlen];omega) (bytes_one _);rw [hlen] at hst;simp only [Nat.add_zero] at hst;refine ⟨.slice (some ⟨B,p,none⟩) (N - p) (N - p),_,?_,?_,setRow_heap w B cur _ E _ hB,?_⟩
  ·intro wx;rw [hsl];have h1:¬N=p:=fun h=>hp h.symm;simp [sliced,h1,add_lit]
  ·intro ty;have hmin:Nat.min t.size (N - p)=t.size:=Nat.min_eq_left (by omega)
   have htk:List.take t.size (List.map (fun b:UInt8=>Value.int IntKind.u8 (b.toNat:Int)) t.data.toList)=t.data.toList.map Pl.zf:=by
    rw [List.take_of_length_le (by rw [List.length_map];exact Nat.le_refl _)];rfl
   simp [Builtin.copy_,run_underlying hu,Builtin.lenOf,Builtin.firstCells,hz,hmin]
   rw [htk,hst,List.append_assoc];rfl
  ·exact ⟨rfl,rfl,rfl,by simp,fun k hk=>setRow_other w B k _ (by omega)⟩
theorem zg {w:World} {B B' e size n:Nat} {v:Value} {xs:List Value} (h:w.ownsRow B e size v n xs) (hb:B'≤B):w.ownsRow B' e size v n xs:=by
 refine ⟨h.1,?_⟩
 rcases h.2 with h0|⟨g,cap,cur,hv,hg,rest⟩
 ·exact .inl h0
 ·exact .inr ⟨g,cap,cur,hv,Nat.le_trans hb hg,rest⟩
theorem zf1 {w:World} {B e size n:Nat} {v:Value} {xs:List Value} (h:w.ownsRow B e size v n xs):∃a cap,v= .slice a n cap:=by
 rcases h.2 with ⟨rfl,rfl⟩|⟨g,cap,cur,rfl,_⟩
 ·exact ⟨_,_,rfl⟩
 ·exact ⟨_,_,rfl⟩
end Mem
end
section
open Go.RowKit
namespace Mem
def Var (w:World) (B:Nat) (cs:List Value):Prop:=B<w.heap.size∧∀ (j:Nat) v,cs[j]? =some v→w.cell? ⟨B,j,none⟩=some v
theorem zu {w w':World} {B:Nat} {cs:List Value} (h:Var w B cs) (b:Below w.heap.size w w'):Var w' B cs:=
 ⟨Nat.lt_of_lt_of_le h.1 b.size,fun j v hv=>(b.cell (p:=⟨B,j,none⟩) h.1).trans (h.2 j v hv)⟩
theorem zk2 (w:World) (cs:List Value) (T:TypeId):Var (w.alloc (.cells cs.toArray T)) w.heap.size cs:=
 ⟨by simp,fun j v hv=>by rw [cell_of_row _ _ j _ T (0,0) (heap_alloc_new w _)];simpa using hv⟩
theorem zh9 (w:World) (o1 o2:Obj):((w.alloc o1).alloc o2).heap[w.heap.size+1]? =some o2:=by
 have h:=heap_alloc_new (w.alloc o1) o2
 rwa [show (w.alloc o1).heap.size=w.heap.size+1 by simp] at h
theorem zz4 (w:World) (o1 o2 o3:Obj):(((w.alloc o1).alloc o2).alloc o3).heap[w.heap.size+1]? =some o2:=
 ((World.grownBy_alloc ((w.alloc o1).alloc o2) o3 none).block (w.heap.size+1) (by simp) (by simp)).trans (zh9 w o1 o2)
theorem zw1 (w:World) (o1 o2 o3:Obj):(((w.alloc o1).alloc o2).alloc o3).heap[w.heap.size+1+1]? =some o3:=by
 have h:=heap_alloc_new ((w.alloc o1).alloc o2) o3
 rwa [show ((w.alloc o1).alloc o2).heap.size=w.heap.size+1+1 by simp] at h
end Mem
end
section
open Go.RowKit
namespace Mem
def zb1 (w:World) (a:Option Addr) (L:List Pl.Nd):Prop:=
 ∀ (i:Nat) n,L[i]? =some n→∃b o,a=some ⟨b,o,none⟩∧b<w.heap.size∧
  w.cell? ⟨b,o+i*5,none⟩=some (.string n.path)∧w.cell? ⟨b,o+i*5+1,none⟩=some (.int .i64 n.kind)∧w.cell? ⟨b,o+i*5+2,none⟩=some (.string n.data)∧
  w.cell? ⟨b,o+i*5+3,none⟩=some (.int .i64 n.time)∧w.cell? ⟨b,o+i*5+4,none⟩=some (.int .i64 n.mark)
theorem za9 {w w':World} {a:Option Addr} {L:List Pl.Nd} (h:zb1 w a L) (b:Below w.heap.size w w'):zb1 w' a L:=fun i n hi=>by
 obtain ⟨g,o,h1,h2,h3,h4,h5,h6,h7⟩:=h i n hi;exact ⟨g,o,h1,Nat.lt_of_lt_of_le h2 b.size,(b.cell (p:=⟨g,_,none⟩) h2).trans h3,(b.cell (p:=⟨g,_,none⟩) h2).trans h4,(b.cell (p:=⟨g,_,none⟩) h2).trans h5,(b.cell (p:=⟨g,_,none⟩) h2).trans h6,(b.cell (p:=⟨g,_,none⟩) h2).trans h7⟩
theorem zr2 (b o j:Nat):(⟨b,o,none⟩:Addr).add j=⟨b,o+j,none⟩:=by unfold Addr.add;split <;> simp_all
theorem yf5 (w:World) (a:Option Addr):zb1 w a []:=fun i n hi=>by simp at hi
end Mem
end
section
open Go.RowKit
namespace Pl
def Nd.cs (n:Nd):List Value:=[.string n.path, .int .i64 n.kind, .string n.data, .int .i64 n.time, .int .i64 n.mark]
def zi0 (L:List Nd):List Value:=L.flatMap Nd.cs
theorem cellsN_cons (n:Nd) (L:List Nd):zi0 (n::L)=n.cs++zi0 L:=by simp [zi0]
theorem cellsN_app (L M:List Nd):zi0 (L++M)=zi0 L++zi0 M:=by simp [zi0]
theorem yb6 (L:List Nd) (i:Nat) (n:Nd) (h:L[i]? =some n) (j:Nat) (hj:j<5):(zi0 L)[i*5+j]? =n.cs[j]?:=by
 induction L generalizing i with
 |nil=>simp at h
 |cons m L ih=>
  rw [cellsN_cons];have hl:m.cs.length=5:=rfl
  match i,h with
  |0,h=>
   simp at h;subst h
   rw [List.getElem?_append_left (by rw [hl];omega)];simp
  |i+1,h=>
   rw [List.getElem?_append_right (by rw [hl];omega),hl,show (i+1)*5+j - 5=i*5+j by omega];exact ih i (by simpa using h)
end Pl
namespace Mem
def ownN (w:World) (B:Nat) (v:Value) (L:List Pl.Nd):Prop:=w.ownsRow B 55 5 v L.length (Pl.zi0 L)
theorem ownN_is {w:World} {B:Nat} {v:Value} {L:List Pl.Nd} (h:ownN w B v L):∃a cap,v= .slice a L.length cap∧zb1 w a L:=by
 rcases h.2 with ⟨rfl,h0⟩|⟨g,cap,cur,rfl,hb,hg,hc,hm,hsz,ht⟩
 ·exact ⟨none,0,by rw [h0],fun i n hi=>by rw [List.length_eq_zero_iff.1 h0] at hi;simp at hi⟩
 ·refine ⟨some ⟨g,0,none⟩,cap,rfl,fun i n hi=>?_⟩;have hlt:i<L.length:=(List.getElem?_eq_some_iff.1 hi).1
  have c:∀j,j<5→w.cell? ⟨g,0+i*5+j,none⟩=n.cs[j]?:=fun j hj=>by
   rw [cell_of_row w g _ cur _ (0,0) hg,Nat.zero_add,←Pl.yb6 L i n hi j hj,←ht,List.getElem?_take_of_lt (by omega),Array.getElem?_toList]
  exact ⟨g,0,rfl,(Array.getElem?_eq_some_iff.1 hg).1,c 0 (by omega),c 1 (by omega),c 2 (by omega),c 3 (by omega),c 4 (by omega)⟩
theorem cs_one (n:Pl.Nd):∀u∈n.cs,u.oneCell'=true:=by
 intro u hu;simp only [Pl.Nd.cs,List.mem_cons,List.not_mem_nil,or_false] at hu
 rcases hu with rfl |rfl |rfl |rfl |rfl <;> rfl
theorem cs_new (w:World) (n:Pl.Nd) (T:TypeId):∀j u,n.cs[j]? =some u→(w.alloc (.cells n.cs.toArray T)).cell? ((⟨w.heap.size,0,none⟩:Addr).add j)=some u:=by
 intro j u hj;rw [Mem.add_lit];exact (Mem.zk2 w n.cs T).2 j u hj
theorem ownN_snoc {w:World} {B:Nat} {v:Value} {L:List Pl.Nd} {n:Pl.Nd} (h:w.ownsRow B 55 5 v (L.length+1) (Pl.zi0 L++n.cs)):ownN w B v (L++[n]):=by
 unfold ownN;rw [Pl.cellsN_app,List.length_append];have e:Pl.zi0 [n]=n.cs:=by simp [Pl.zi0]
 rw [e];exact h
theorem ownN_call {w w':World} {B:Nat} {v:Value} {L:List Pl.Nd} (h:ownN w B v L) (b:Below w.heap.size w w'):ownN w' B v L:=by
 refine ⟨h.1,?_⟩
 rcases h.2 with h0|⟨g,cap,cur,hv,hb,hg,rest⟩
 ·exact .inl h0
 ·exact .inr ⟨g,cap,cur,hv,hb,(b.block _ (Array.getElem?_eq_some_iff.1 hg).1).trans hg,rest⟩
theorem yd7 {w:World} {B B':Nat} {v:Value} {L:List Pl.Nd} (h:ownN w B v L) (hb:B'≤B):ownN w B' v L:=zg h hb
end Mem
end
section
open Go.RowKit
namespace Mem
def Blk (w:World) (X:Nat) (cs:Array Value) (T:TypeId):Prop:=w.heap[X]? =some (.cells cs T (0,0))
theorem Blk.lt {w:World} {X:Nat} {cs:Array Value} {T:TypeId} (h:Blk w X cs T):X<w.heap.size:=(Array.getElem?_eq_some_iff.1 h).1
theorem Blk.cell {w:World} {X:Nat} {cs:Array Value} {T:TypeId} (h:Blk w X cs T) (k:Nat):w.cell? ⟨X,k,none⟩=cs[k]?:=cell_of_row w X k cs T (0,0) h
theorem Blk.fr {w:World} {X:Nat} {cs:Array Value} {T:TypeId} (h:Blk w X cs T) (k:Nat):w.frozen? ⟨X,k,none⟩=false:=zc2 h
theorem Blk.call {w w':World} {X:Nat} {cs:Array Value} {T:TypeId} (h:Blk w X cs T) (b:Below w.heap.size w w'):Blk w' X cs T:=(b.block _ h.lt).trans h
theorem Blk.below {w w':World} {X B:Nat} {cs:Array Value} {T:TypeId} (h:Blk w X cs T) (b:Below B w w') (hX:X<B):Blk w' X cs T:=(b.block _ hX).trans h
theorem Blk.alloc {w:World} {X:Nat} {cs:Array Value} {T:TypeId} (h:Blk w X cs T) (o:Obj):Blk (w.alloc o) X cs T:=h.call ((Below.refl _ _).alloc (Nat.le_refl _) o)
theorem Blk.new (w:World) (cs:Array Value) (T:TypeId):Blk (w.alloc (.cells cs T)) w.heap.size cs T:=heap_alloc_new w _
theorem Blk.grown {w w':World} {X:Nat} {cs:Array Value} {T:TypeId} {r:Option Nat} (h:Blk w X cs T) (g:w.grownBy w' r) (hr:some X≠r):Blk w' X cs T:=(g.block _ h.lt hr).trans h
theorem Blk.put {w:World} {X:Nat} {cs:Array Value} {T:TypeId} (h:Blk w X cs T) (k:Nat) (v:Value):Blk (w.setCell ⟨X,k,none⟩ v) X (cs.setIfInBounds k v) T:=heap_setCell_same w X k cs T v h
theorem Blk.far {w:World} {X:Nat} {cs:Array Value} {T:TypeId} (h:Blk w X cs T) (a:Addr) (v:Value) (ha:X≠a.block):Blk (w.setCell a v) X cs T:=(heap_setCell_other w a X v ha).trans h
theorem ownN_set {w:World} {B:Nat} {v:Value} {L:List Pl.Nd} (h:ownN w B v L) (a:Addr) (u:Value) (ha:a.block<B):ownN (w.setCell a u) B v L:=by
 refine ⟨h.1,?_⟩
 rcases h.2 with h0|⟨g,cap,cur,hv,hb,hg,rest⟩
 ·exact .inl h0
 ·exact .inr ⟨g,cap,cur,hv,hb,(heap_setCell_other w a g u (by omega)).trans hg,rest⟩
theorem ownN_far {w:World} {B:Nat} {v:Value} {L:List Pl.Nd} (h:ownN w B v L) (a:Addr) (u:Value) (ha:∀g,v.ownBlock=some g→a.block≠g):ownN (w.setCell a u) B v L:=by
 refine ⟨h.1,?_⟩
 rcases h.2 with h0|⟨g,cap,cur,rfl,hb,hg,rest⟩
 ·exact .inl h0
 ·exact .inr ⟨g,cap,cur,rfl,hb,(heap_setCell_other w a g u (fun e=>ha g rfl e.symm)).trans hg,rest⟩
theorem zx {w:World} {B:Nat} {v:Value} {L:List Pl.Nd} (h:ownN w B v L):∀g,v.ownBlock=some g→B≤g∧g<w.heap.size:=fun g hg=>World.ownsRow.lt h g hg
theorem ownN_nodes {w:World} {B n cap:Nat} {a:Option Addr} {L:List Pl.Nd} (h:ownN w B (.slice a n cap) L):n=L.length∧zb1 w a L:=by
 obtain ⟨a',cap',e,hn⟩:=ownN_is h
 injection e with e1 e2 e3
 subst e1 e2 e3;exact ⟨rfl,hn⟩
theorem nodes_grown {w w':World} {g o:Nat} {r:Option Nat} {L:List Pl.Nd} (h:zb1 w (some ⟨g,o,none⟩) L) (hg:w.grownBy w' r) (hr:some g≠r):zb1 w' (some ⟨g,o,none⟩) L:=fun i n hi=>by
 obtain ⟨g',o',h1,h2,h3,h4,h5,h6,h7⟩:=h i n hi;cases h1
 exact ⟨g,o,rfl,Nat.lt_of_lt_of_le h2 hg.size,hg.cell h3 hr,hg.cell h4 hr,hg.cell h5 hr,hg.cell h6 hr,hg.cell h7 hr⟩
theorem za4 {w w':World} (b:Below w.heap.size w w') (r:Option Nat):w.grownBy w' r:=⟨b.os,b.tape,b.output,b.size,fun j hj _=>b.block j hj⟩
theorem grown_trans {w v v':World} {r:Option Nat} (h:w.grownBy v r) (h':v.grownBy v' r):w.grownBy v' r:=
 ⟨h'.os.trans h.os,h'.tape.trans h.tape,h'.output.trans h.output,Nat.le_trans h.size h'.size,fun j hj hne=>(h'.block j (Nat.lt_of_lt_of_le hj h.size) hne).trans (h.block j hj hne)⟩
end Mem
end
section
open Go.RowKit
theorem bE0 {w:World} {o:Obj}:Below w.heap.size w (w.alloc o):=(Below.refl _ _).alloc (Nat.le_refl _) _
theorem sc1 {B x:Nat} {w W:World} {i0:Nat} {u0:Value} (b:Below B w W) (h:B≤x):Below B w (W.setCell ⟨x,i0,none⟩ u0):=b.setCell (p:=⟨x,i0,none⟩) h u0
theorem sc2 {B x:Nat} {w W:World} {i0 i1:Nat} {u0 u1:Value} (b:Below B w W) (h:B≤x):Below B w ((W.setCell ⟨x,i0,none⟩ u0).setCell ⟨x,i1,none⟩ u1):=(sc1 b h).setCell (p:=⟨x,i1,none⟩) h u1
theorem sc3 {B x:Nat} {w W:World} {i0 i1 i2:Nat} {u0 u1 u2:Value} (b:Below B w W) (h:B≤x):Below B w (((W.setCell ⟨x,i0,none⟩ u0).setCell ⟨x,i1,none⟩ u1).setCell ⟨x,i2,none⟩ u2):=(sc2 b h).setCell (p:=⟨x,i2,none⟩) h u2
theorem sc4 {B x:Nat} {w W:World} {i0 i1 i2 i3:Nat} {u0 u1 u2 u3:Value} (b:Below B w W) (h:B≤x):Below B w ((((W.setCell ⟨x,i0,none⟩ u0).setCell ⟨x,i1,none⟩ u1).setCell ⟨x,i2,none⟩ u2).setCell ⟨x,i3,none⟩ u3):=(sc3 b h).setCell (p:=⟨x,i3,none⟩) h u3
theorem jc2 {w:World} {X:Nat} {v0 v1:Value} {l:List Value} {T:TypeId} (h:Mem.Blk w X (v0::v1::l).toArray T):w.cell? ⟨X,0,none⟩=some v0∧w.cell? ⟨X,1,none⟩=some v1:=⟨(h.cell 0).trans rfl,(h.cell 1).trans rfl⟩
theorem jf2 {w:World} {X:Nat} {v0 v1:Value} {l:List Value} {T:TypeId} (h:Mem.Blk w X (v0::v1::l).toArray T):(w.cell? ⟨X,0,none⟩=some v0∧w.cell? ⟨X,1,none⟩=some v1)∧w.frozen? ⟨X,0,none⟩=false∧w.frozen? ⟨X,1,none⟩=false:=⟨jc2 h,h.fr 0,h.fr 1⟩
theorem jc3 {w:World} {X:Nat} {v0 v1 v2:Value} {l:List Value} {T:TypeId} (h:Mem.Blk w X (v0::v1::v2::l).toArray T):w.cell? ⟨X,0,none⟩=some v0∧w.cell? ⟨X,1,none⟩=some v1∧w.cell? ⟨X,2,none⟩=some v2:=⟨(h.cell 0).trans rfl,(h.cell 1).trans rfl,(h.cell 2).trans rfl⟩
theorem jf3 {w:World} {X:Nat} {v0 v1 v2:Value} {l:List Value} {T:TypeId} (h:Mem.Blk w X (v0::v1::v2::l).toArray T):(w.cell? ⟨X,0,none⟩=some v0∧w.cell? ⟨X,1,none⟩=some v1∧w.cell? ⟨X,2,none⟩=some v2)∧w.frozen? ⟨X,0,none⟩=false∧w.frozen? ⟨X,1,none⟩=false∧w.frozen? ⟨X,2,none⟩=false:=⟨jc3 h,h.fr 0,h.fr 1,h.fr 2⟩
theorem jc4 {w:World} {X:Nat} {v0 v1 v2 v3:Value} {l:List Value} {T:TypeId} (h:Mem.Blk w X (v0::v1::v2::v3::l).toArray T):w.cell? ⟨X,0,none⟩=some v0∧w.cell? ⟨X,1,none⟩=some v1∧w.cell? ⟨X,2,none⟩=some v2∧w.cell? ⟨X,3,none⟩=some v3:=⟨(h.cell 0).trans rfl,(h.cell 1).trans rfl,(h.cell 2).trans rfl,(h.cell 3).trans rfl⟩
theorem jf4 {w:World} {X:Nat} {v0 v1 v2 v3:Value} {l:List Value} {T:TypeId} (h:Mem.Blk w X (v0::v1::v2::v3::l).toArray T):(w.cell? ⟨X,0,none⟩=some v0∧w.cell? ⟨X,1,none⟩=some v1∧w.cell? ⟨X,2,none⟩=some v2∧w.cell? ⟨X,3,none⟩=some v3)∧w.frozen? ⟨X,0,none⟩=false∧w.frozen? ⟨X,1,none⟩=false∧w.frozen? ⟨X,2,none⟩=false∧w.frozen? ⟨X,3,none⟩=false:=⟨jc4 h,h.fr 0,h.fr 1,h.fr 2,h.fr 3⟩
theorem jc5 {w:World} {X:Nat} {v0 v1 v2 v3 v4:Value} {l:List Value} {T:TypeId} (h:Mem.Blk w X (v0::v1::v2::v3::v4::l).toArray T):w.cell? ⟨X,0,none⟩=some v0∧w.cell? ⟨X,1,none⟩=some v1∧w.cell? ⟨X,2,none⟩=some v2∧w.cell? ⟨X,3,none⟩=some v3∧w.cell? ⟨X,4,none⟩=some v4:=⟨(h.cell 0).trans rfl,(h.cell 1).trans rfl,(h.cell 2).trans rfl,(h.cell 3).trans rfl,(h.cell 4).trans rfl⟩
theorem jf5 {w:World} {X:Nat} {v0 v1 v2 v3 v4:Value} {l:List Value} {T:TypeId} (h:Mem.Blk w X (v0::v1::v2::v3::v4::l).toArray T):(w.cell? ⟨X,0,none⟩=some v0∧w.cell? ⟨X,1,none⟩=some v1∧w.cell? ⟨X,2,none⟩=some v2∧w.cell? ⟨X,3,none⟩=some v3∧w.cell? ⟨X,4,none⟩=some v4)∧w.frozen? ⟨X,0,none⟩=false∧w.frozen? ⟨X,1,none⟩=false∧w.frozen? ⟨X,2,none⟩=false∧w.frozen? ⟨X,3,none⟩=false∧w.frozen? ⟨X,4,none⟩=false:=⟨jc5 h,h.fr 0,h.fr 1,h.fr 2,h.fr 3,h.fr 4⟩
theorem jc6 {w:World} {X:Nat} {v0 v1 v2 v3 v4 v5:Value} {l:List Value} {T:TypeId} (h:Mem.Blk w X (v0::v1::v2::v3::v4::v5::l).toArray T):w.cell? ⟨X,0,none⟩=some v0∧w.cell? ⟨X,1,none⟩=some v1∧w.cell? ⟨X,2,none⟩=some v2∧w.cell? ⟨X,3,none⟩=some v3∧w.cell? ⟨X,4,none⟩=some v4∧w.cell? ⟨X,5,none⟩=some v5:=⟨(h.cell 0).trans rfl,(h.cell 1).trans rfl,(h.cell 2).trans rfl,(h.cell 3).trans rfl,(h.cell 4).trans rfl,(h.cell 5).trans rfl⟩
theorem jf6 {w:World} {X:Nat} {v0 v1 v2 v3 v4 v5:Value} {l:List Value} {T:TypeId} (h:Mem.Blk w X (v0::v1::v2::v3::v4::v5::l).toArray T):(w.cell? ⟨X,0,none⟩=some v0∧w.cell? ⟨X,1,none⟩=some v1∧w.cell? ⟨X,2,none⟩=some v2∧w.cell? ⟨X,3,none⟩=some v3∧w.cell? ⟨X,4,none⟩=some v4∧w.cell? ⟨X,5,none⟩=some v5)∧w.frozen? ⟨X,0,none⟩=false∧w.frozen? ⟨X,1,none⟩=false∧w.frozen? ⟨X,2,none⟩=false∧w.frozen? ⟨X,3,none⟩=false∧w.frozen? ⟨X,4,none⟩=false∧w.frozen? ⟨X,5,none⟩=false:=⟨jc6 h,h.fr 0,h.fr 1,h.fr 2,h.fr 3,h.fr 4,h.fr 5⟩
theorem jc9 {w:World} {X:Nat} {v0 v1 v2 v3 v4 v5 v6 v7 v8:Value} {l:List Value} {T:TypeId} (h:Mem.Blk w X (v0::v1::v2::v3::v4::v5::v6::v7::v8::l).toArray T):w.cell? ⟨X,0,none⟩=some v0∧w.cell? ⟨X,1,none⟩=some v1∧w.cell? ⟨X,2,none⟩=some v2∧w.cell? ⟨X,3,none⟩=some v3∧w.cell? ⟨X,4,none⟩=some v4∧w.cell? ⟨X,5,none⟩=some v5∧w.cell? ⟨X,6,none⟩=some v6∧w.cell? ⟨X,7,none⟩=some v7∧w.cell? ⟨X,8,none⟩=some v8:=⟨(h.cell 0).trans rfl,(h.cell 1).trans rfl,(h.cell 2).trans rfl,(h.cell 3).trans rfl,(h.cell 4).trans rfl,(h.cell 5).trans rfl,(h.cell 6).trans rfl,(h.cell 7).trans rfl,(h.cell 8).trans rfl⟩
theorem jf9 {w:World} {X:Nat} {v0 v1 v2 v3 v4 v5 v6 v7 v8:Value} {l:List Value} {T:TypeId} (h:Mem.Blk w X (v0::v1::v2::v3::v4::v5::v6::v7::v8::l).toArray T):(w.cell? ⟨X,0,none⟩=some v0∧w.cell? ⟨X,1,none⟩=some v1∧w.cell? ⟨X,2,none⟩=some v2∧w.cell? ⟨X,3,none⟩=some v3∧w.cell? ⟨X,4,none⟩=some v4∧w.cell? ⟨X,5,none⟩=some v5∧w.cell? ⟨X,6,none⟩=some v6∧w.cell? ⟨X,7,none⟩=some v7∧w.cell? ⟨X,8,none⟩=some v8)∧w.frozen? ⟨X,0,none⟩=false∧w.frozen? ⟨X,1,none⟩=false∧w.frozen? ⟨X,2,none⟩=false∧w.frozen? ⟨X,3,none⟩=false∧w.frozen? ⟨X,4,none⟩=false∧w.frozen? ⟨X,5,none⟩=false∧w.frozen? ⟨X,6,none⟩=false∧w.frozen? ⟨X,7,none⟩=false∧w.frozen? ⟨X,8,none⟩=false:=⟨jc9 h,h.fr 0,h.fr 1,h.fr 2,h.fr 3,h.fr 4,h.fr 5,h.fr 6,h.fr 7,h.fr 8⟩
end
section
open Go.RowKit
theorem kBs {α:Type}:(∀ (xs:List α) (i:Nat) (h:i<xs.toArray.size),xs.toArray[i]=xs[i]'(by simpa using h))∧(∀ (a:α) (as':List α) (h:0<(a::as').length),(a::as')[0]=a)∧(∀ (a:α) (as':List α) (i:Nat) (h:i+1<(a::as').length),(a::as')[i+1]=as'[i]'(by simpa using h))∧
  (∀ (l:List α) (i:Nat) (a:α),l.toArray.setIfInBounds i a=(l.set i a).toArray)∧(∀ (x a:α) (xs:List α),(x::xs).set 0 a=a::xs)∧(∀ (x a:α) (xs:List α) (n:Nat),(x::xs).set (n+1) a=x::xs.set n a):=
 ⟨fun _ _ _=>rfl,fun _ _ _=>rfl,fun _ _ _ _=>rfl,fun _ _ _=>List.setIfInBounds_toArray ..,fun _ _ _=>rfl,fun _ _ _ _=>rfl⟩
theorem kGs {α:Type}:(∀ (l:List α) (i:Nat),l.toArray[i]? =l[i]?)∧(∀ (a:α) (l:List α),(a::l)[0]? =some a)∧(∀ (a:α) (l:List α) (i:Nat),(a::l)[i+1]? =l[i]?):=
 ⟨fun _ _=>List.getElem?_toArray ..,fun _ _=>List.getElem?_cons_zero ..,fun _ _ _=>List.getElem?_cons_succ ..⟩
end
section
open Go.RowKit
namespace Pl
structure Tr where
 a:Option Addr
 cap:Nat
 L:List Nd
def Tr.val (t:Tr):Value:= .slice t.a t.L.length t.cap
end Pl
namespace Mem
end Mem
end
section
open Go.RowKit
namespace WLaw
theorem szNode_any (n:Pl.Nd) (left:Int) (w:World) (hp:n.path.size≤maxLen) (hd:n.data.size≤maxLen) (h0:0≤left) (h1:left≤1048576):
  Calls Tryz.prog 168 #[n.val, .int .i64 left] w fun e w'=>(∃r:Int,e= .returned (.int .i64 r)∧(r= -1∨0≤r∧r+n.path.size+n.data.size=left))∧Below w.heap.size w w':=by
 obtain ⟨p,k,d,t,m⟩:=n;simp only at hp hd;unfold maxLen at hp hd;simp only [Pl.Nd.val];have hb:∀o,Below w.heap.size w (w.alloc o):=fun o=>(Below.refl _ _).alloc (Nat.le_refl _) o;have HB:=hide hb;clear hb;by_cases h2:left<(p.size:Int)
 ·have t2:left - (p.size:Int)<0:=by omega
  go_enter Tryz.func168,Tryz.ntmps168
  go_wp2
  go_ret
  exact ⟨⟨-1,rfl, .inl rfl⟩,za HB _⟩
 have t2:¬left - (p.size:Int)<0:=by omega
 by_cases h3:left<(p.size:Int)+(d.size:Int)
 ·have t3:left - (p.size:Int) - (d.size:Int)<0:=by omega
  go_enter Tryz.func168,Tryz.ntmps168
  go_wp2
  go_ret
  exact ⟨⟨-1,rfl, .inl rfl⟩,za HB _⟩
 ·have t3:¬left - (p.size:Int) - (d.size:Int)<0:=by omega
  go_enter Tryz.func168,Tryz.ntmps168
  go_wp2
  go_ret
  exact ⟨⟨_,rfl, .inr ⟨by omega,by omega⟩⟩,za HB _⟩
theorem toNode_any (n:Pl.Nd) (w:World):
  Calls Tryz.prog 170 #[n.val] w fun e w'=>e= .returned n.val∧Below w.heap.size w w':=by
 obtain ⟨p,k,d,t,m⟩:=n;simp only [Pl.Nd.val];go_enter Tryz.func170,Tryz.ntmps170
 go_wp2
 refine bodyPost_ret (v:= .agg #[.string p, .int .i64 k, .string d, .int .i64 t, .int .i64 m]) (by simp [results,Tryz.results170,go_sem]) rfl ⟨rfl,?_⟩;exact (((Below.refl _ _).alloc (Nat.le_refl _) _).alloc (by simp) _).alloc (by simp;omega) _
end WLaw
end
section
open Go.RowKit
namespace WLaw
theorem szNodeS_left (a:Option Addr) (cap:Nat) (L:List Pl.Nd) (left:Int) (hf0:0≤left) (hf1:left≤1048576) (w:World) (hl:L.length≤maxLen) (hv:Mem.zb1 w a L) (hok:∀n∈L,n.path.size≤maxLen∧n.data.size≤maxLen):
  Calls Tryz.prog 151 #[.slice a L.length cap, .int .i64 left] w fun e w'=>(∃r:Int,e= .returned (.int .i64 r)∧(r= -1∨0≤r∧r≤1048576∧L.length≤1048576∧∀n∈L,n.path.size≤1048576∧n.data.size≤1048576))∧Below w.heap.size w w':=by
 have hl2:=hl;unfold maxLen at hl2;by_cases h0:left<(L.length:Int)
 ·have t0:left - (L.length:Int)<0:=by omega
  have t1:IntKind.i64.wrap (left - (L.length:Int))=left - (L.length:Int):=by rw [IntKind.wrap_i64];omega
  go_enter Tryz.func151,Tryz.ntmps151
  go_wp2
  go_ret
  exact ⟨⟨-1,rfl, .inl rfl⟩,Below.refl _ _⟩
 have t0:¬left - (L.length:Int)<0:=by omega
 have t1:IntKind.i64.wrap (left - (L.length:Int))=left - (L.length:Int):=by rw [IntKind.wrap_i64];omega
 have HV:=hide hv;have HO:=hide hok;clear hv hok;go_enter Tryz.func151,Tryz.ntmps151
 go_wp2
 go_loopw [1,5] (fun l i wr=>∃ (k:Nat) (r:Int),k≤L.length∧i= .int .i64 (k:Int)∧l= .int .i64 r∧0≤r∧r≤1048576∧Below w.heap.size w wr∧Hid (∀ (j:Nat) n,j<k→L[j]? =some n→n.path.size≤1048576∧n.data.size≤1048576)) (fun _ i _=>L.length - (intOf i).toNat)
 case atStart=>exact ⟨0,_,Nat.zero_le _,rfl,rfl,by omega,by omega,Below.refl _ _,fun j n h=>absurd h (by omega)⟩
 case round=>
  obtain ⟨k,r,hk,rfl,rfl,hr0,hr1,hbel,HA⟩:=hrel;by_cases hlt:k<L.length
  ·obtain ⟨n,hn⟩:∃n,L[k]? =some n:=⟨_,List.getElem?_eq_getElem hlt⟩;obtain ⟨b,o,rfl,hb,q0,q1,q2,q3,q4⟩:=(za HV) k n hn;have c0:=(hbel.cell (p:=⟨b,_,none⟩) hb).trans q0;have c1:=(hbel.cell (p:=⟨b,_,none⟩) hb).trans q1;have c2:=(hbel.cell (p:=⟨b,_,none⟩) hb).trans q2;have c3:=(hbel.cell (p:=⟨b,_,none⟩) hb).trans q3;have c4:=(hbel.cell (p:=⟨b,_,none⟩) hb).trans q4;have hz:=hide (fun W=>szNode_any n r W (za HO n (List.mem_of_getElem? hn)).1 (za HO n (List.mem_of_getElem? hn)).2 hr0 hr1);have HN:=hide hn;have u1:(k:Int)<(L.length:Int):=by omega
   have u3:(0:Int)≤(k:Int):=by omega
   clear q0 q1 q2 q3 q4 hn;simp only [Pl.Nd.val] at hz;go_wp2_with fail
   refine (za hz _).mono ?_;rintro e w1 ⟨⟨r1,rfl,h1⟩,b1⟩;have hb2:=hbel.trans (b1.mono hbel.size);clear b1 hbel hz
   rcases h1 with rfl |⟨h2,h3⟩
   ·go_wp2
    go_ret
    exact ⟨⟨-1,rfl, .inl rfl⟩,hb2⟩
   ·have h4:¬r1<0:=by omega
    have HA2:Hid (∀ (j:Nat) m,j<k+1→L[j]? =some m→m.path.size≤1048576∧m.data.size≤1048576):=fun j m hj h'=>by
     rcases Nat.lt_succ_iff_lt_or_eq.1 hj with h''|rfl
     ·exact HA.out j m h'' h'
     ·rw [za HN] at h';cases h';omega
    go_wp2
    go_roundw
    case rel=>exact ⟨k+1,r1,by omega,by go_num,rfl,h2,by omega,hb2,HA2⟩
    case measure=>simp [intOf];omega
  ·have u1:¬ (k:Int)<(L.length:Int):=by omega
   go_wp2
   go_ret
   exact ⟨⟨r,rfl, .inr ⟨hr0,hr1,by omega,fun n hn=>by
    obtain ⟨j,hj⟩:=List.mem_iff_getElem?.1 hn
    exact HA.out j n (by have :=(List.getElem?_eq_some_iff.1 hj).1;omega) hj⟩⟩,hbel⟩
theorem szTree_left (a:Option Addr) (cap:Nat) (L:List Pl.Nd) (left:Int) (hf0:0≤left) (hf1:left≤1048576) (w:World) (hl:L.length≤maxLen) (hv:Mem.zb1 w a L) (hok:∀n∈L,n.path.size≤maxLen∧n.data.size≤maxLen):
  Calls Tryz.prog 131 #[.agg #[.slice a L.length cap], .int .i64 left] w fun e w'=>(∃r:Int,e= .returned (.int .i64 r)∧(r= -1∨0≤r∧r≤1048576∧L.length≤1048576∧∀n∈L,n.path.size≤1048576∧n.data.size≤1048576))∧Below w.heap.size w w':=by
 have b0:∀o,Below w.heap.size w (w.alloc o):=fun o=>(Below.refl _ _).alloc (Nat.le_refl _) o;have hz:=hide (fun W (b:Below w.heap.size w W)=>szNodeS_left a cap L left hf0 hf1 W hl (Mem.za9 hv b) hok);have HB:=hide b0;clear hv hok b0;go_enter Tryz.func131,Tryz.ntmps131
 go_wp2_with fail
 refine (za hz _ (za HB _)).mono ?_;rintro e w1 ⟨⟨r1,rfl,h1⟩,b1⟩;have hb2:=(za HB _).trans (b1.mono (za HB _).size);clear b1 hz
 rcases h1 with rfl |⟨h2,h3⟩
 ·go_wp2
  go_ret
  exact ⟨⟨-1,rfl, .inl rfl⟩,hb2⟩
 ·have h4:¬r1<0:=by omega
  go_wp2
  go_ret
  exact ⟨⟨r1,rfl, .inr ⟨h2,h3⟩⟩,hb2⟩
end WLaw
end
section
open Go.RowKit
namespace Pl
structure It where
 m:Int
 t:Tr
def It.r (x:It):Int × List Nd:=(x.m,x.t.L)
end Pl
namespace Mem
def zb4 (w:World) (a:Option Addr) (Is:List Pl.It):Prop:=
 ∀ (i:Nat) x,Is[i]? =some x→(∃b o,a=some ⟨b,o,none⟩∧b<w.heap.size∧w.cell? ⟨b,o+i*2,none⟩=some (.int .i64 x.m)∧w.cell? ⟨b,o+i*2+1,none⟩=some x.t.val)∧zb1 w x.t.a x.t.L
theorem zc0 {w w':World} {a:Option Addr} {Is:List Pl.It} (h:zb4 w a Is) (b:Below w.heap.size w w'):zb4 w' a Is:=fun i t hi=>by
 obtain ⟨⟨g,o,h1,h2,h3,h5⟩,h4⟩:=h i t hi;exact ⟨⟨g,o,h1,Nat.lt_of_lt_of_le h2 b.size,(b.cell (p:=⟨g,_,none⟩) h2).trans h3,(b.cell (p:=⟨g,_,none⟩) h2).trans h5⟩,za9 h4 b⟩
theorem items_nil (w:World) (a:Option Addr):zb4 w a []:=fun i n hi=>by simp at hi
theorem items_drop {w:World} {b o:Nat} {Is:List Pl.It} (k:Nat) (h:zb4 w (some ⟨b,o,none⟩) Is):zb4 w (some ⟨b,o+k*2,none⟩) (Is.drop k):=fun i t hi=>by
 rw [List.getElem?_drop] at hi;obtain ⟨⟨g,o',h1,h2,h3,h5⟩,h4⟩:=h _ t hi;cases h1
 refine ⟨⟨b,_,rfl,h2,?_,?_⟩,h4⟩
 ·rw [show o+k*2+i*2=o+(k+i)*2 by omega];exact h3
 ·rw [show o+k*2+i*2+1=o+(k+i)*2+1 by omega];exact h5
def shifted (a a':Option Addr) (k:Nat) (Is:List Pl.It):Prop:=Is.drop k=[]∨∃b o,a=some ⟨b,o,none⟩∧a'=some ⟨b,o+k*2,none⟩
theorem items_shift {w:World} {a a':Option Addr} {k:Nat} {Is:List Pl.It} (h:zb4 w a Is) (hs:shifted a a' k Is):zb4 w a' (Is.drop k):=by
 rcases hs with hs|⟨b,o,rfl,rfl⟩
 ·rw [hs];exact items_nil _ _
 ·exact items_drop k h
theorem shifted_trans {a a' a'':Option Addr} {k j:Nat} {Is:List Pl.It} (h:shifted a a' k Is) (h':shifted a' a'' j (Is.drop k)):shifted a a'' (k+j) Is:=by
 rcases h' with h'|⟨b,o,e1,e2⟩
 ·rw [List.drop_drop] at h';exact .inl h'
 ·rcases h with h|⟨b1,o1,e3,e4⟩
  ·left;rw [←List.drop_drop,h,List.drop_nil]
  ·rw [e4] at e1;cases e1
   exact .inr ⟨_,o1,e3,by rw [e2];congr 2;omega⟩
end Mem
end
section
open Go.RowKit
namespace WLaw
theorem yk3 (x:Pl.It) (left:Int) (hf0:0≤left) (hf1:left≤1048576) (w:World) (hl:x.t.L.length≤maxLen) (hv:Mem.zb1 w x.t.a x.t.L) (hok:∀n∈x.t.L,n.path.size≤maxLen∧n.data.size≤maxLen):
  Calls Tryz.prog 99 #[.agg #[.int .i64 x.m, .slice x.t.a x.t.L.length x.t.cap], .int .i64 left] w fun e w'=>(∃r:Int,e= .returned (.int .i64 r)∧(r= -1∨0≤r∧r≤1048576∧x.t.L.length≤1048576∧∀n∈x.t.L,n.path.size≤1048576∧n.data.size≤1048576))∧Below w.heap.size w w':=by
 have b0:∀o,Below w.heap.size w (w.alloc o):=fun o=>(Below.refl _ _).alloc (Nat.le_refl _) o;have hz:=hide (fun W (b:Below w.heap.size w W)=>szTree_left x.t.a x.t.cap x.t.L left hf0 hf1 W hl (Mem.za9 hv b) hok);have HB:=hide b0;clear hv hok b0;go_enter Tryz.func99,Tryz.ntmps99
 go_wp2_with fail
 refine (za hz _ (za HB _)).mono ?_;rintro e w1 ⟨⟨r1,rfl,h1⟩,b1⟩;have hb2:=(za HB _).trans (b1.mono (za HB _).size);clear b1 hz
 rcases h1 with rfl |⟨h2,h3⟩
 ·go_wp2
  go_ret
  exact ⟨⟨-1,rfl, .inl rfl⟩,hb2⟩
 ·have h4:¬r1<0:=by omega
  go_wp2
  go_ret
  exact ⟨⟨r1,rfl, .inr ⟨h2,h3⟩⟩,hb2⟩
theorem yh2 (a:Option Addr) (cap:Nat) (Ts:List Pl.It) (w:World) (hl:Ts.length≤maxLen) (hv:Mem.zb4 w a Ts) (hok:∀t∈Ts,t.t.L.length≤maxLen∧∀n∈t.t.L,n.path.size≤maxLen∧n.data.size≤maxLen):
  Calls Tryz.prog 69 #[.slice a Ts.length cap, .int .i64 1048576] w fun e w'=>(∃r:Int,e= .returned (.int .i64 r)∧(r= -1∨0≤r∧r≤1048576∧Ts.length≤1048576∧∀t∈Ts,t.t.L.length≤1048576∧∀n∈t.t.L,n.path.size≤1048576∧n.data.size≤1048576))∧Below w.heap.size w w':=by
 have hl2:=hl;unfold maxLen at hl2;by_cases h0:1048576<Ts.length
 ·have t0:(1048576:Int) - (Ts.length:Int)<0:=by omega
  go_enter Tryz.func69,Tryz.ntmps69
  go_wp2
  go_ret
  exact ⟨⟨-1,rfl, .inl rfl⟩,Below.refl _ _⟩
 have t0:¬ (1048576:Int) - (Ts.length:Int)<0:=by omega
 have HV:=hide hv;have HO:=hide hok;clear hv hok;go_enter Tryz.func69,Tryz.ntmps69
 go_wp2
 go_loopw [1,5] (fun l i wr=>∃ (k:Nat) (r:Int),k≤Ts.length∧i= .int .i64 (k:Int)∧l= .int .i64 r∧0≤r∧r≤1048576∧Below w.heap.size w wr∧Hid (∀ (j:Nat) t,j<k→Ts[j]? =some t→t.t.L.length≤1048576∧∀n∈t.t.L,n.path.size≤1048576∧n.data.size≤1048576)) (fun _ i _=>Ts.length - (intOf i).toNat)
 case atStart=>exact ⟨0,_,Nat.zero_le _,rfl,rfl,by omega,by omega,Below.refl _ _,fun j n h=>absurd h (by omega)⟩
 case round=>
  obtain ⟨k,r,hk,rfl,rfl,hr0,hr1,hbel,HA⟩:=hrel;by_cases hlt:k<Ts.length
  ·obtain ⟨t,ht⟩:∃t,Ts[k]? =some t:=⟨_,List.getElem?_eq_getElem hlt⟩;obtain ⟨⟨b,o,rfl,hb,q0,q0'⟩,q1⟩:=(za HV) k t ht;have c0:=(hbel.cell (p:=⟨b,_,none⟩) hb).trans q0;have c1:=(hbel.cell (p:=⟨b,_,none⟩) hb).trans q0';have hz:=hide (fun W (b:Below w.heap.size w W)=>yk3 t r hr0 hr1 W (za HO t (List.mem_of_getElem? ht)).1 (Mem.za9 q1 b) (za HO t (List.mem_of_getElem? ht)).2);have HN:=hide ht;have u1:(k:Int)<(Ts.length:Int):=by omega
   have u3:(0:Int)≤(k:Int):=by omega
   simp only [Pl.Tr.val] at c1;clear q0 q0' ht q1;go_wp2_with fail
   refine (za hz _ hbel).mono ?_;rintro e w1 ⟨⟨r1,rfl,h1⟩,b1⟩;have hb2:=hbel.trans (b1.mono hbel.size);clear b1 hbel hz
   rcases h1 with rfl |⟨h2,h3,h5,h6⟩
   ·go_wp2
    go_ret
    exact ⟨⟨-1,rfl, .inl rfl⟩,hb2⟩
   ·have h4:¬r1<0:=by omega
    have HA2:Hid (∀ (j:Nat) m,j<k+1→Ts[j]? =some m→m.t.L.length≤1048576∧∀n∈m.t.L,n.path.size≤1048576∧n.data.size≤1048576):=fun j m hj h'=>by
     rcases Nat.lt_succ_iff_lt_or_eq.1 hj with h''|rfl
     ·exact HA.out j m h'' h'
     ·rw [za HN] at h';cases h';exact ⟨h5,h6⟩
    clear h5 h6;go_wp2
    go_roundw
    case rel=>exact ⟨k+1,r1,by omega,by go_num,rfl,h2,by omega,hb2,HA2⟩
    case measure=>simp [intOf];omega
  ·have u1:¬ (k:Int)<(Ts.length:Int):=by omega
   go_wp2
   go_ret
   exact ⟨⟨r,rfl, .inr ⟨hr0,hr1,by omega,fun n hn=>by
    obtain ⟨j,hj⟩:=List.mem_iff_getElem?.1 hn
    exact HA.out j n (by have :=(List.getElem?_eq_some_iff.1 hj).1;omega) hj⟩⟩,hbel⟩
end WLaw
end
section
open Go.RowKit
namespace Pl
structure Mn where
 p:ByteArray
 i:Int
 z:Bool
structure Hn where
 d:Int
 i:Int
 p:ByteArray
structure Ns where
 d:Int
 a:Option Addr
 cap:Nat
 Is:List It
def Ns.r (x:Ns):Int × List (Int × List Nd):=(x.d,x.Is.map It.r)
structure Sp where
 ia:Option Addr
 ic:Nat
 N:List Ns
 ma:Option Addr
 mc:Nat
 M:List Mn
 ha:Option Addr
 hc:Nat
 H:List Hn
 next :Int
def Sp.cs (s:Sp):Array Value:=#[.slice s.ia s.N.length s.ic, .slice s.ma s.M.length s.mc, .slice s.ha s.H.length s.hc, .int .i64 s.next]
end Pl
namespace Mem
def zc6 (w:World) (a:Option Addr) (L:List Pl.Mn):Prop:=
 ∀ (i:Nat) x,L[i]? =some x→∃b o,a=some ⟨b,o,none⟩∧b<w.heap.size∧w.cell? ⟨b,o+i*3,none⟩=some (.string x.p)∧w.cell? ⟨b,o+i*3+1,none⟩=some (.int .i64 x.i)∧w.cell? ⟨b,o+i*3+2,none⟩=some (.bool x.z)
def ze2 (w:World) (a:Option Addr) (L:List Pl.Hn):Prop:=
 ∀ (i:Nat) x,L[i]? =some x→∃b o,a=some ⟨b,o,none⟩∧b<w.heap.size∧w.cell? ⟨b,o+i*3,none⟩=some (.int .i64 x.d)∧w.cell? ⟨b,o+i*3+1,none⟩=some (.int .i64 x.i)∧w.cell? ⟨b,o+i*3+2,none⟩=some (.string x.p)
def zh (w:World) (a:Option Addr) (L:List Pl.Ns):Prop:=
 ∀ (i:Nat) x,L[i]? =some x→(∃b o,a=some ⟨b,o,none⟩∧b<w.heap.size∧w.cell? ⟨b,o+i*2,none⟩=some (.int .i64 x.d)∧w.cell? ⟨b,o+i*2+1,none⟩=some (.slice x.a x.Is.length x.cap))∧zb4 w x.a x.Is
theorem zf0 {w w':World} {a:Option Addr} {L:List Pl.Mn} (h:zc6 w a L) (b:Below w.heap.size w w'):zc6 w' a L:=fun i x hi=>by
 obtain ⟨g,o,h1,h2,h3,h4,h5⟩:=h i x hi;exact ⟨g,o,h1,Nat.lt_of_lt_of_le h2 b.size,(b.cell (p:=⟨g,_,none⟩) h2).trans h3,(b.cell (p:=⟨g,_,none⟩) h2).trans h4,(b.cell (p:=⟨g,_,none⟩) h2).trans h5⟩
theorem zg7 {w w':World} {a:Option Addr} {L:List Pl.Hn} (h:ze2 w a L) (b:Below w.heap.size w w'):ze2 w' a L:=fun i x hi=>by
 obtain ⟨g,o,h1,h2,h3,h4,h5⟩:=h i x hi;exact ⟨g,o,h1,Nat.lt_of_lt_of_le h2 b.size,(b.cell (p:=⟨g,_,none⟩) h2).trans h3,(b.cell (p:=⟨g,_,none⟩) h2).trans h4,(b.cell (p:=⟨g,_,none⟩) h2).trans h5⟩
theorem zg5 {w w':World} {a:Option Addr} {L:List Pl.Ns} (h:zh w a L) (b:Below w.heap.size w w'):zh w' a L:=fun i x hi=>by
 obtain ⟨⟨g,o,h1,h2,h3,h4⟩,h5⟩:=h i x hi;exact ⟨⟨g,o,h1,Nat.lt_of_lt_of_le h2 b.size,(b.cell (p:=⟨g,_,none⟩) h2).trans h3,(b.cell (p:=⟨g,_,none⟩) h2).trans h4⟩,zc0 h5 b⟩
theorem yc4 (w:World) (a:Option Addr):zc6 w a []:=fun i x h=>by simp at h
theorem yf3 (w:World) (a:Option Addr):ze2 w a []:=fun i x h=>by simp at h
theorem yg0 (w:World) (a:Option Addr):zh w a []:=fun i x h=>by simp at h
structure zd9 (w:World) (s:Pl.Sp):Prop where
 zk0:zh w s.ia s.N
 zl8:zc6 w s.ma s.M
 hands:ze2 w s.ha s.H
theorem zd9.call {w w':World} {s:Pl.Sp} (h:zd9 w s) (b:Below w.heap.size w w'):zd9 w' s:=⟨zg5 h.zk0 b,zf0 h.zl8 b,zg7 h.hands b⟩
end Mem
end
section
open Go.RowKit
namespace zb0
structure OkS (s:Pl.Sp) (K:Nat):Prop where
 n:s.N.length≤K
 m:s.M.length≤K
 h:s.H.length≤K
 each:∀x∈s.N,x.Is.length≤K∧∀t∈x.Is,t.t.L.length≤K∧∀n∈t.t.L,n.path.size≤K∧n.data.size≤K
 mp:∀x∈s.M,x.p.size≤K
 hp:∀x∈s.H,x.p.size≤K
end zb0
end
section
open Go.RowKit
namespace zb0
open WLaw
theorem yh2 (a:Option Addr) (cap:Nat) (Ts:List Pl.It) (left:Int) (hf0:0≤left) (hf1:left≤1048576) (w:World) (hl:Ts.length≤maxLen) (hv:Mem.zb4 w a Ts) (hok:∀x∈Ts,x.t.L.length≤maxLen∧∀n∈x.t.L,n.path.size≤maxLen∧n.data.size≤maxLen):
  Calls Tryz.prog 69 #[.slice a Ts.length cap, .int .i64 left] w fun e w'=>(∃r:Int,e= .returned (.int .i64 r)∧(r= -1∨0≤r∧r≤1048576∧Ts.length≤1048576∧∀x∈Ts,x.t.L.length≤1048576∧∀n∈x.t.L,n.path.size≤1048576∧n.data.size≤1048576))∧Below w.heap.size w w':=by
 have hl2:=hl;unfold maxLen at hl2;by_cases h0:left<(Ts.length:Int)
 ·have t0:left - (Ts.length:Int)<0:=by omega
  go_enter Tryz.func69,Tryz.ntmps69
  go_wp2
  go_ret
  exact ⟨⟨-1,rfl, .inl rfl⟩,Below.refl _ _⟩
 have t0:¬left - (Ts.length:Int)<0:=by omega
 have HV:=hide hv;have HO:=hide hok;clear hv hok;go_enter Tryz.func69,Tryz.ntmps69
 go_wp2
 go_loopw [1,5] (fun l i wr=>∃ (k:Nat) (r:Int),k≤Ts.length∧i= .int .i64 (k:Int)∧l= .int .i64 r∧0≤r∧r≤1048576∧Below w.heap.size w wr∧Hid (∀ (j:Nat) x,j<k→Ts[j]? =some x→x.t.L.length≤1048576∧∀n∈x.t.L,n.path.size≤1048576∧n.data.size≤1048576)) (fun _ i _=>Ts.length - (intOf i).toNat)
 case atStart=>exact ⟨0,_,Nat.zero_le _,rfl,rfl,by omega,by omega,Below.refl _ _,fun j n h=>absurd h (by omega)⟩
 case round=>
  obtain ⟨k,r,hk,rfl,rfl,hr0,hr1,hbel,HA⟩:=hrel;by_cases hlt:k<Ts.length
  ·obtain ⟨t,ht⟩:∃t,Ts[k]? =some t:=⟨_,List.getElem?_eq_getElem hlt⟩;obtain ⟨⟨b,o,rfl,hb,q0,q1⟩,qq⟩:=(za HV) k t ht;have c0:=(hbel.cell (p:=⟨b,_,none⟩) hb).trans q0;have c1:=(hbel.cell (p:=⟨b,_,none⟩) hb).trans q1;have hz:=hide (fun W (bb:Below w.heap.size w W)=>yk3 t r hr0 hr1 W (za HO t (List.mem_of_getElem? ht)).1 (Mem.za9 qq bb) (za HO t (List.mem_of_getElem? ht)).2);have HN:=hide ht;have u1:(k:Int)<(Ts.length:Int):=by omega
   have u3:(0:Int)≤(k:Int):=by omega
   simp only [Pl.Tr.val] at c1;clear ht q0 q1;go_wp2_with fail
   refine (za hz _ hbel).mono ?_;rintro e w1 ⟨⟨r1,rfl,h1⟩,b1⟩;have hb2:=hbel.trans (b1.mono hbel.size);clear b1 hbel hz
   rcases h1 with rfl |⟨h2,h3,h5⟩
   ·go_wp2
    go_ret
    exact ⟨⟨-1,rfl, .inl rfl⟩,hb2⟩
   ·have h4:¬r1<0:=by omega
    have HA2:Hid (∀ (j:Nat) x,j<k+1→Ts[j]? =some x→x.t.L.length≤1048576∧∀n∈x.t.L,n.path.size≤1048576∧n.data.size≤1048576):=fun j m hj h'=>by
     rcases Nat.lt_succ_iff_lt_or_eq.1 hj with h''|rfl
     ·exact HA.out j m h'' h'
     ·rw [za HN] at h';cases h';exact h5
    clear h5;go_wp2
    go_roundw
    case rel=>exact ⟨k+1,r1,by omega,by go_num,rfl,h2,by omega,hb2,HA2⟩
    case measure=>simp [intOf];omega
  ·have u1:¬ (k:Int)<(Ts.length:Int):=by omega
   go_wp2
   go_ret
   exact ⟨⟨r,rfl, .inr ⟨hr0,hr1,by omega,fun n hn=>by
    obtain ⟨j,hj⟩:=List.mem_iff_getElem?.1 hn
    exact HA.out j n (by have :=(List.getElem?_eq_some_iff.1 hj).1;omega) hj⟩⟩,hbel⟩
theorem yl4 (x:Pl.Ns) (left:Int) (hf0:0≤left) (hf1:left≤1048576) (w:World) (hv:Mem.zb4 w x.a x.Is) (hok:x.Is.length≤maxLen∧∀t∈x.Is,t.t.L.length≤maxLen∧∀n∈t.t.L,n.path.size≤maxLen∧n.data.size≤maxLen):
  Calls Tryz.prog 38 #[.agg #[.int .i64 x.d, .slice x.a x.Is.length x.cap], .int .i64 left] w fun e w'=>(∃r:Int,e= .returned (.int .i64 r)∧(r= -1∨0≤r∧r≤1048576∧x.Is.length≤1048576∧∀t∈x.Is,t.t.L.length≤1048576∧∀n∈t.t.L,n.path.size≤1048576∧n.data.size≤1048576))∧Below w.heap.size w w':=by
 have b0:∀o,Below w.heap.size w (w.alloc o):=fun o=>(Below.refl _ _).alloc (Nat.le_refl _) o;have hz:=hide (fun W (b:Below w.heap.size w W)=>yh2 x.a x.cap x.Is left hf0 hf1 W hok.1 (Mem.zc0 hv b) hok.2);have HB:=hide b0;clear hv hok b0;go_enter Tryz.func38,Tryz.ntmps38
 go_wp2_with fail
 refine (za hz _ (za HB _)).mono ?_;rintro e w1 ⟨⟨r1,rfl,h1⟩,b1⟩;have hb2:=(za HB _).trans (b1.mono (za HB _).size);clear b1 hz
 rcases h1 with rfl |⟨h2,h3⟩
 ·go_wp2
  go_ret
  exact ⟨⟨-1,rfl, .inl rfl⟩,hb2⟩
 ·have h4:¬r1<0:=by omega
  go_wp2
  go_ret
  exact ⟨⟨r1,rfl, .inr ⟨h2,h3⟩⟩,hb2⟩
theorem szMount_any (x:Pl.Mn) (left:Int) (hf0:0≤left) (hf1:left≤1048576) (w:World) (hok:x.p.size≤maxLen):
  Calls Tryz.prog 39 #[.agg #[.string x.p, .int .i64 x.i, .bool x.z], .int .i64 left] w fun e w'=>(∃r:Int,e= .returned (.int .i64 r)∧(r= -1∨0≤r∧r≤1048576∧x.p.size≤1048576))∧Below w.heap.size w w':=by
 have hl2:=hok;unfold maxLen at hl2;have b0:∀o,Below w.heap.size w (w.alloc o):=fun o=>(Below.refl _ _).alloc (Nat.le_refl _) o;have HB:=hide b0;clear b0;by_cases h0:left<(x.p.size:Int)
 ·have t0:left - (x.p.size:Int)<0:=by omega
  go_enter Tryz.func39,Tryz.ntmps39
  go_wp2
  go_ret
  exact ⟨⟨-1,rfl, .inl rfl⟩,za HB _⟩
 ·have t0:¬left - (x.p.size:Int)<0:=by omega
  go_enter Tryz.func39,Tryz.ntmps39
  go_wp2
  go_ret
  exact ⟨⟨_,rfl, .inr ⟨by omega,by omega,by omega⟩⟩,za HB _⟩
theorem szHandle_any (x:Pl.Hn) (left:Int) (hf0:0≤left) (hf1:left≤1048576) (w:World) (hok:x.p.size≤maxLen):
  Calls Tryz.prog 40 #[.agg #[.int .i64 x.d, .int .i64 x.i, .string x.p], .int .i64 left] w fun e w'=>(∃r:Int,e= .returned (.int .i64 r)∧(r= -1∨0≤r∧r≤1048576∧x.p.size≤1048576))∧Below w.heap.size w w':=by
 have hl2:=hok;unfold maxLen at hl2;have b0:∀o,Below w.heap.size w (w.alloc o):=fun o=>(Below.refl _ _).alloc (Nat.le_refl _) o;have HB:=hide b0;clear b0;by_cases h0:left<(x.p.size:Int)
 ·have t0:left - (x.p.size:Int)<0:=by omega
  go_enter Tryz.func40,Tryz.ntmps40
  go_wp2
  go_ret
  exact ⟨⟨-1,rfl, .inl rfl⟩,za HB _⟩
 ·have t0:¬left - (x.p.size:Int)<0:=by omega
  go_enter Tryz.func40,Tryz.ntmps40
  go_wp2
  go_ret
  exact ⟨⟨_,rfl, .inr ⟨by omega,by omega,by omega⟩⟩,za HB _⟩
theorem yj1 (a:Option Addr) (cap:Nat) (Ts:List Pl.Ns) (left:Int) (hf0:0≤left) (hf1:left≤1048576) (w:World) (hl:Ts.length≤maxLen) (hv:Mem.zh w a Ts) (hok:∀x∈Ts,x.Is.length≤maxLen∧∀t∈x.Is,t.t.L.length≤maxLen∧∀n∈t.t.L,n.path.size≤maxLen∧n.data.size≤maxLen):
  Calls Tryz.prog 13 #[.slice a Ts.length cap, .int .i64 left] w fun e w'=>(∃r:Int,e= .returned (.int .i64 r)∧(r= -1∨0≤r∧r≤1048576∧Ts.length≤1048576∧∀x∈Ts,x.Is.length≤1048576∧∀t∈x.Is,t.t.L.length≤1048576∧∀n∈t.t.L,n.path.size≤1048576∧n.data.size≤1048576))∧Below w.heap.size w w':=by
 have hl2:=hl;unfold maxLen at hl2;by_cases h0:left<(Ts.length:Int)
 ·have t0:left - (Ts.length:Int)<0:=by omega
  go_enter Tryz.func13,Tryz.ntmps13
  go_wp2
  go_ret
  exact ⟨⟨-1,rfl, .inl rfl⟩,Below.refl _ _⟩
 have t0:¬left - (Ts.length:Int)<0:=by omega
 have HV:=hide hv;have HO:=hide hok;clear hv hok;go_enter Tryz.func13,Tryz.ntmps13
 go_wp2
 go_loopw [1,5] (fun l i wr=>∃ (k:Nat) (r:Int),k≤Ts.length∧i= .int .i64 (k:Int)∧l= .int .i64 r∧0≤r∧r≤1048576∧Below w.heap.size w wr∧Hid (∀ (j:Nat) x,j<k→Ts[j]? =some x→x.Is.length≤1048576∧∀t∈x.Is,t.t.L.length≤1048576∧∀n∈t.t.L,n.path.size≤1048576∧n.data.size≤1048576)) (fun _ i _=>Ts.length - (intOf i).toNat)
 case atStart=>exact ⟨0,_,Nat.zero_le _,rfl,rfl,by omega,by omega,Below.refl _ _,fun j n h=>absurd h (by omega)⟩
 case round=>
  obtain ⟨k,r,hk,rfl,rfl,hr0,hr1,hbel,HA⟩:=hrel;by_cases hlt:k<Ts.length
  ·obtain ⟨t,ht⟩:∃t,Ts[k]? =some t:=⟨_,List.getElem?_eq_getElem hlt⟩;obtain ⟨⟨b,o,rfl,hb,q0,q1⟩,qq⟩:=(za HV) k t ht;have c0:=(hbel.cell (p:=⟨b,_,none⟩) hb).trans q0;have c1:=(hbel.cell (p:=⟨b,_,none⟩) hb).trans q1;have hz:=hide (fun W (bb:Below w.heap.size w W)=>yl4 t r hr0 hr1 W (Mem.zc0 qq bb) (za HO t (List.mem_of_getElem? ht)));have HN:=hide ht;have u1:(k:Int)<(Ts.length:Int):=by omega
   have u3:(0:Int)≤(k:Int):=by omega
   clear ht q0 q1;go_wp2_with fail
   refine (za hz _ hbel).mono ?_;rintro e w1 ⟨⟨r1,rfl,h1⟩,b1⟩;have hb2:=hbel.trans (b1.mono hbel.size);clear b1 hbel hz
   rcases h1 with rfl |⟨h2,h3,h5⟩
   ·go_wp2
    go_ret
    exact ⟨⟨-1,rfl, .inl rfl⟩,hb2⟩
   ·have h4:¬r1<0:=by omega
    have HA2:Hid (∀ (j:Nat) x,j<k+1→Ts[j]? =some x→x.Is.length≤1048576∧∀t∈x.Is,t.t.L.length≤1048576∧∀n∈t.t.L,n.path.size≤1048576∧n.data.size≤1048576):=fun j m hj h'=>by
     rcases Nat.lt_succ_iff_lt_or_eq.1 hj with h''|rfl
     ·exact HA.out j m h'' h'
     ·rw [za HN] at h';cases h';exact h5
    clear h5;go_wp2
    go_roundw
    case rel=>exact ⟨k+1,r1,by omega,by go_num,rfl,h2,by omega,hb2,HA2⟩
    case measure=>simp [intOf];omega
  ·have u1:¬ (k:Int)<(Ts.length:Int):=by omega
   go_wp2
   go_ret
   exact ⟨⟨r,rfl, .inr ⟨hr0,hr1,by omega,fun n hn=>by
    obtain ⟨j,hj⟩:=List.mem_iff_getElem?.1 hn
    exact HA.out j n (by have :=(List.getElem?_eq_some_iff.1 hj).1;omega) hj⟩⟩,hbel⟩
theorem szMountS_any (a:Option Addr) (cap:Nat) (Ts:List Pl.Mn) (left:Int) (hf0:0≤left) (hf1:left≤1048576) (w:World) (hl:Ts.length≤maxLen) (hv:Mem.zc6 w a Ts) (hok:∀x∈Ts,x.p.size≤maxLen):
  Calls Tryz.prog 14 #[.slice a Ts.length cap, .int .i64 left] w fun e w'=>(∃r:Int,e= .returned (.int .i64 r)∧(r= -1∨0≤r∧r≤1048576∧Ts.length≤1048576∧∀x∈Ts,x.p.size≤1048576))∧Below w.heap.size w w':=by
 have hl2:=hl;unfold maxLen at hl2;by_cases h0:left<(Ts.length:Int)
 ·have t0:left - (Ts.length:Int)<0:=by omega
  go_enter Tryz.func14,Tryz.ntmps14
  go_wp2
  go_ret
  exact ⟨⟨-1,rfl, .inl rfl⟩,Below.refl _ _⟩
 have t0:¬left - (Ts.length:Int)<0:=by omega
 have HV:=hide hv;have HO:=hide hok;clear hv hok;go_enter Tryz.func14,Tryz.ntmps14
 go_wp2
 go_loopw [1,5] (fun l i wr=>∃ (k:Nat) (r:Int),k≤Ts.length∧i= .int .i64 (k:Int)∧l= .int .i64 r∧0≤r∧r≤1048576∧Below w.heap.size w wr∧Hid (∀ (j:Nat) x,j<k→Ts[j]? =some x→x.p.size≤1048576)) (fun _ i _=>Ts.length - (intOf i).toNat)
 case atStart=>exact ⟨0,_,Nat.zero_le _,rfl,rfl,by omega,by omega,Below.refl _ _,fun j n h=>absurd h (by omega)⟩
 case round=>
  obtain ⟨k,r,hk,rfl,rfl,hr0,hr1,hbel,HA⟩:=hrel;by_cases hlt:k<Ts.length
  ·obtain ⟨t,ht⟩:∃t,Ts[k]? =some t:=⟨_,List.getElem?_eq_getElem hlt⟩;obtain ⟨b,o,rfl,hb,q0,q1,q2⟩:=(za HV) k t ht;have c0:=(hbel.cell (p:=⟨b,_,none⟩) hb).trans q0;have c1:=(hbel.cell (p:=⟨b,_,none⟩) hb).trans q1;have c2:=(hbel.cell (p:=⟨b,_,none⟩) hb).trans q2;have hz:=hide (fun W (bb:Below w.heap.size w W)=>szMount_any t r hr0 hr1 W (za HO t (List.mem_of_getElem? ht)));have HN:=hide ht;have u1:(k:Int)<(Ts.length:Int):=by omega
   have u3:(0:Int)≤(k:Int):=by omega
   clear ht q0 q1 q2;go_wp2_with fail
   refine (za hz _ hbel).mono ?_;rintro e w1 ⟨⟨r1,rfl,h1⟩,b1⟩;have hb2:=hbel.trans (b1.mono hbel.size);clear b1 hbel hz
   rcases h1 with rfl |⟨h2,h3,h5⟩
   ·go_wp2
    go_ret
    exact ⟨⟨-1,rfl, .inl rfl⟩,hb2⟩
   ·have h4:¬r1<0:=by omega
    have HA2:Hid (∀ (j:Nat) x,j<k+1→Ts[j]? =some x→x.p.size≤1048576):=fun j m hj h'=>by
     rcases Nat.lt_succ_iff_lt_or_eq.1 hj with h''|rfl
     ·exact HA.out j m h'' h'
     ·rw [za HN] at h';cases h';exact h5
    clear h5;go_wp2
    go_roundw
    case rel=>exact ⟨k+1,r1,by omega,by go_num,rfl,h2,by omega,hb2,HA2⟩
    case measure=>simp [intOf];omega
  ·have u1:¬ (k:Int)<(Ts.length:Int):=by omega
   go_wp2
   go_ret
   exact ⟨⟨r,rfl, .inr ⟨hr0,hr1,by omega,fun n hn=>by
    obtain ⟨j,hj⟩:=List.mem_iff_getElem?.1 hn
    exact HA.out j n (by have :=(List.getElem?_eq_some_iff.1 hj).1;omega) hj⟩⟩,hbel⟩
theorem szHandleS_any (a:Option Addr) (cap:Nat) (Ts:List Pl.Hn) (left:Int) (hf0:0≤left) (hf1:left≤1048576) (w:World) (hl:Ts.length≤maxLen) (hv:Mem.ze2 w a Ts) (hok:∀x∈Ts,x.p.size≤maxLen):
  Calls Tryz.prog 15 #[.slice a Ts.length cap, .int .i64 left] w fun e w'=>(∃r:Int,e= .returned (.int .i64 r)∧(r= -1∨0≤r∧r≤1048576∧Ts.length≤1048576∧∀x∈Ts,x.p.size≤1048576))∧Below w.heap.size w w':=by
 have hl2:=hl;unfold maxLen at hl2;by_cases h0:left<(Ts.length:Int)
 ·have t0:left - (Ts.length:Int)<0:=by omega
  go_enter Tryz.func15,Tryz.ntmps15
  go_wp2
  go_ret
  exact ⟨⟨-1,rfl, .inl rfl⟩,Below.refl _ _⟩
 have t0:¬left - (Ts.length:Int)<0:=by omega
 have HV:=hide hv;have HO:=hide hok;clear hv hok;go_enter Tryz.func15,Tryz.ntmps15
 go_wp2
 go_loopw [1,5] (fun l i wr=>∃ (k:Nat) (r:Int),k≤Ts.length∧i= .int .i64 (k:Int)∧l= .int .i64 r∧0≤r∧r≤1048576∧Below w.heap.size w wr∧Hid (∀ (j:Nat) x,j<k→Ts[j]? =some x→x.p.size≤1048576)) (fun _ i _=>Ts.length - (intOf i).toNat)
 case atStart=>exact ⟨0,_,Nat.zero_le _,rfl,rfl,by omega,by omega,Below.refl _ _,fun j n h=>absurd h (by omega)⟩
 case round=>
  obtain ⟨k,r,hk,rfl,rfl,hr0,hr1,hbel,HA⟩:=hrel;by_cases hlt:k<Ts.length
  ·obtain ⟨t,ht⟩:∃t,Ts[k]? =some t:=⟨_,List.getElem?_eq_getElem hlt⟩;obtain ⟨b,o,rfl,hb,q0,q1,q2⟩:=(za HV) k t ht;have c0:=(hbel.cell (p:=⟨b,_,none⟩) hb).trans q0;have c1:=(hbel.cell (p:=⟨b,_,none⟩) hb).trans q1;have c2:=(hbel.cell (p:=⟨b,_,none⟩) hb).trans q2;have hz:=hide (fun W (bb:Below w.heap.size w W)=>szHandle_any t r hr0 hr1 W (za HO t (List.mem_of_getElem? ht)));have HN:=hide ht;have u1:(k:Int)<(Ts.length:Int):=by omega
   have u3:(0:Int)≤(k:Int):=by omega
   clear ht q0 q1 q2;go_wp2_with fail
   refine (za hz _ hbel).mono ?_;rintro e w1 ⟨⟨r1,rfl,h1⟩,b1⟩;have hb2:=hbel.trans (b1.mono hbel.size);clear b1 hbel hz
   rcases h1 with rfl |⟨h2,h3,h5⟩
   ·go_wp2
    go_ret
    exact ⟨⟨-1,rfl, .inl rfl⟩,hb2⟩
   ·have h4:¬r1<0:=by omega
    have HA2:Hid (∀ (j:Nat) x,j<k+1→Ts[j]? =some x→x.p.size≤1048576):=fun j m hj h'=>by
     rcases Nat.lt_succ_iff_lt_or_eq.1 hj with h''|rfl
     ·exact HA.out j m h'' h'
     ·rw [za HN] at h';cases h';exact h5
    clear h5;go_wp2
    go_roundw
    case rel=>exact ⟨k+1,r1,by omega,by go_num,rfl,h2,by omega,hb2,HA2⟩
    case measure=>simp [intOf];omega
  ·have u1:¬ (k:Int)<(Ts.length:Int):=by omega
   go_wp2
   go_ret
   exact ⟨⟨r,rfl, .inr ⟨hr0,hr1,by omega,fun n hn=>by
    obtain ⟨j,hj⟩:=List.mem_iff_getElem?.1 hn
    exact HA.out j n (by have :=(List.getElem?_eq_some_iff.1 hj).1;omega) hj⟩⟩,hbel⟩
theorem szSpace_any (s:Pl.Sp) (w:World) (hv:Mem.zd9 w s) (hok:OkS s maxLen):
  Calls Tryz.prog 4 #[.agg s.cs, .int .i64 1048576] w fun e w'=>(∃r:Int,e= .returned (.int .i64 r)∧(r= -1∨0≤r∧OkS s 1048576))∧Below w.heap.size w w':=by
 unfold Pl.Sp.cs;have b0:=(Below.refl w.heap.size w).alloc (o:= .cells #[.slice s.ia s.N.length s.ic, .slice s.ma s.M.length s.mc, .slice s.ha s.H.length s.hc, .int .i64 s.next] 26) (Nat.le_refl _);have V0:=hide (Mem.Blk.new w #[.slice s.ia s.N.length s.ic, .slice s.ma s.M.length s.mc, .slice s.ha s.H.length s.hc, .int .i64 s.next] 26);have h1:=hide (fun W (b:Below w.heap.size w W)=>yj1 s.ia s.ic s.N 1048576 (by omega) (by omega) W hok.n (Mem.zg5 hv.zk0 b) hok.each);have h2:=hide (fun W (b:Below w.heap.size w W) r h0 hr=>szMountS_any s.ma s.mc s.M r h0 hr W hok.m (Mem.zf0 hv.zl8 b) hok.mp);have h3:=hide (fun W (b:Below w.heap.size w W) r h0 hr=>szHandleS_any s.ha s.hc s.H r h0 hr W hok.h (Mem.zg7 hv.hands b) hok.hp);clear hv hok;go_enter Tryz.func4,Tryz.ntmps4
 go_wp2_with fail
 refine (za h1 _ b0).mono ?_;rintro e w1 ⟨⟨r1,rfl,g1⟩,b1⟩;have bb1:=b0.trans (b1.mono b0.size);have V1:=hide ((za V0).call b1);clear h1 b1 b0 V0;have v1:=(za V1).cell 1;simp only [kGs] at v1
 rcases g1 with rfl |⟨p1,p2,p3⟩
 ·go_wp2
  go_ret
  exact ⟨⟨-1,rfl, .inl rfl⟩,bb1⟩
 have y1:¬r1<0:=by omega
 have P3:=hide p3;clear p3;go_wp2_with fail
 refine (za h2 _ bb1 r1 p1 p2).mono ?_;rintro e w2 ⟨⟨r2,rfl,g2⟩,b2⟩;have bb2:=bb1.trans (b2.mono bb1.size);have V2:=hide ((za V1).call b2);clear h2 b2 bb1 V1 v1;have v2:=(za V2).cell 2;simp only [kGs] at v2
 rcases g2 with rfl |⟨q1,q2,q3⟩
 ·go_wp2
  go_ret
  exact ⟨⟨-1,rfl, .inl rfl⟩,bb2⟩
 have y2:¬r2<0:=by omega
 have Q3:=hide q3;clear q3;go_wp2_with fail
 refine (za h3 _ bb2 r2 q1 q2).mono ?_;rintro e w3 ⟨⟨r3,rfl,g3⟩,b3⟩;have bb3:=bb2.trans (b3.mono bb2.size);clear h3 b3 bb2 V2 v2
 rcases g3 with rfl |⟨s1,s2,s3⟩
 ·go_wp2
  go_ret
  exact ⟨⟨-1,rfl, .inl rfl⟩,bb3⟩
 have y3:¬r3<0:=by omega
 have S3:=hide s3;clear s3;go_wp2
 go_ret
 exact ⟨⟨r3,rfl, .inr ⟨s1,⟨(za P3).1,(za Q3).1,(za S3).1,(za P3).2,(za Q3).2,(za S3).2⟩⟩⟩,bb3⟩
end zb0
end
section
open Go.RowKit
namespace WLaw
def zeroCells (n:Nat):Array Value:=madeCells (Value.agg #[.string ⟨#[]⟩, .int .i64 0, .string ⟨#[]⟩, .int .i64 0, .int .i64 0]).cells (n*5)
theorem zero_size (n:Nat):(zeroCells n).size=n*5:=size_madeCells _ _
theorem infoN:(Tryz.prog.info? 55).map (fun i=>(i.zero,i.size,i.bytes))=some (some (.agg #[.string ⟨#[]⟩, .int .i64 0, .string ⟨#[]⟩, .int .i64 0, .int .i64 0]),5,56):=by kernel_rfl
theorem makeN (n:Nat) (hn:n≤1048576) (w:World):(Instr.makeSlice 105 (.int .i64 (n:Int)) (.int .i64 (n:Int))).run Tryz.prog w= .ok (.slice (some ⟨w.heap.size,0,none⟩) n n) (w.alloc (.cells (zeroCells n) 55)):=by
 obtain ⟨i0,h0,h1,h2,h3⟩:=info_parts infoN;have h:=run_make (P:=Tryz.prog) w 105 55 i0 (.agg #[.string ⟨#[]⟩, .int .i64 0, .string ⟨#[]⟩, .int .i64 0, .int .i64 0]) Tryz.underlying105 h0 h1 .i64 .i64 (n:Int) (n:Int) (by omega) (Int.le_refl _) (by rw [h3];omega) (by omega);rw [h,h2];simp [zeroCells]
theorem toNodeS_row (a:Option Addr) (cap:Nat) (L:List Pl.Nd) (w:World) (hl:L.length≤1048576) (hv:Mem.zb1 w a L):
  Calls Tryz.prog 154 #[.slice a L.length cap] w fun e w'=>e= .returned (.slice (some ⟨w.heap.size,0,none⟩) L.length L.length)∧(∃cur,w'.heap[w.heap.size]? =some (.cells cur 55 (0,0))∧cur.size=L.length*5)∧Mem.zb1 w' (some ⟨w.heap.size,0,none⟩) L∧Below w.heap.size w w':=by
 have HV:=hide hv;have hmk:=makeN L.length hl w;clear hv;go_enter Tryz.func154,Tryz.ntmps154
 go_wp2
 go_loopw [4] (fun i wr=>∃ (k:Nat) (cur:Array Value),k≤L.length∧i= .int .i64 (k:Int)∧Below w.heap.size w wr∧Hid (wr.heap[w.heap.size]? =some (.cells cur 55 (0,0)))∧Hid (cur.size=L.length*5)∧Hid (∀ (j:Nat) n,j<k→L[j]? =some n→cur[j*5]? =some (.string n.path)∧cur[j*5+1]? =some (.int .i64 n.kind)∧cur[j*5+2]? =some (.string n.data)∧cur[j*5+3]? =some (.int .i64 n.time)∧cur[j*5+4]? =some (.int .i64 n.mark))) (fun i _=>L.length - (intOf i).toNat)
 case atStart=>exact ⟨0,zeroCells L.length,Nat.zero_le _,rfl,(Below.refl _ _).alloc (Nat.le_refl _) _,hide (heap_alloc_new w _),hide (zero_size _),fun j n h=>absurd h (by omega)⟩
 case round=>
  obtain ⟨k,cur,hk,rfl,hbel,HB,HZ,HA⟩:=hrel;by_cases hlt:k<L.length
  ·obtain ⟨n,hn⟩:∃n,L[k]? =some n:=⟨_,List.getElem?_eq_getElem hlt⟩;obtain ⟨b,o,rfl,hb,q0,q1,q2,q3,q4⟩:=(za HV) k n hn;have c0:=(hbel.cell (p:=⟨b,_,none⟩) hb).trans q0;have c1:=(hbel.cell (p:=⟨b,_,none⟩) hb).trans q1;have c2:=(hbel.cell (p:=⟨b,_,none⟩) hb).trans q2;have c3:=(hbel.cell (p:=⟨b,_,none⟩) hb).trans q3;have c4:=(hbel.cell (p:=⟨b,_,none⟩) hb).trans q4;have hz:=hide (fun W=>toNode_any n W);have HN:=hide hn;have u1:(k:Int)<(L.length:Int):=by omega
   have u3:(0:Int)≤(k:Int):=by omega
   clear q0 q1 q2 q3 q4 hn;simp only [Pl.Nd.val] at hz;go_wp2_with fail
   refine (za hz _).mono ?_;rintro e w1 ⟨rfl,b1⟩;have hN:w.heap.size<wr.heap.size:=(Array.getElem?_eq_some_iff.1 (za HB)).1;have HB1:=hide ((b1.block _ hN).trans (za HB));have hb2:=hide (hbel.trans (b1.mono hbel.size));have hcz:=za HZ;have s0:∃x,w1.cell? ⟨w.heap.size,k*5,none⟩=some x:=⟨_,(cell_of_row w1 _ (k*5) _ _ (0,0) (za HB1)).trans (Array.getElem?_eq_getElem (by omega))⟩;have s1:∃x,w1.cell? ⟨w.heap.size,k*5+1,none⟩=some x:=⟨_,(cell_of_row w1 _ (k*5+1) _ _ (0,0) (za HB1)).trans (Array.getElem?_eq_getElem (by omega))⟩;have s2:∃x,w1.cell? ⟨w.heap.size,k*5+2,none⟩=some x:=⟨_,(cell_of_row w1 _ (k*5+2) _ _ (0,0) (za HB1)).trans (Array.getElem?_eq_getElem (by omega))⟩;have s3:∃x,w1.cell? ⟨w.heap.size,k*5+3,none⟩=some x:=⟨_,(cell_of_row w1 _ (k*5+3) _ _ (0,0) (za HB1)).trans (Array.getElem?_eq_getElem (by omega))⟩
   have s4:∃x,w1.cell? ⟨w.heap.size,k*5+4,none⟩=some x:=⟨_,(cell_of_row w1 _ (k*5+4) _ _ (0,0) (za HB1)).trans (Array.getElem?_eq_getElem (by omega))⟩;obtain ⟨x0,s0⟩:=s0;obtain ⟨x1,s1⟩:=s1;obtain ⟨x2,s2⟩:=s2;obtain ⟨x3,s3⟩:=s3;obtain ⟨x4,s4⟩:=s4;have f0:∀j,w1.frozen? ⟨w.heap.size,j,none⟩=false:=fun j=>Mem.zc2 (za HB1);have HC:=hide hcz;clear b1 hbel hz hcz HB;go_wp2
   go_roundw
   case rel=>
    refine ⟨k+1,_,by omega,by go_num,?_,hide (heap_setCell_same _ _ (k*5+4) _ _ _ (heap_setCell_same _ _ (k*5+3) _ _ _ (heap_setCell_same _ _ (k*5+2) _ _ _ (heap_setCell_same _ _ (k*5+1) _ _ _ (heap_setCell_same _ _ (k*5) _ _ _ (za HB1)))))),?_,?_⟩
    ·exact (((((za hb2).setCell (Nat.le_refl _) _).setCell (Nat.le_refl _) _).setCell (Nat.le_refl _) _).setCell (Nat.le_refl _) _).setCell (Nat.le_refl _) _
    ·exact hide (by simpa using za HC)
    ·intro j m hj hm;have hjl:=(List.getElem?_eq_some_iff.1 hm).1
     rcases Nat.lt_succ_iff_lt_or_eq.1 hj with h''|rfl
     ·obtain ⟨i0,i1,i2,i3,i4⟩:=HA.out j m h'' hm;simp only [Array.getElem?_setIfInBounds];refine ⟨?_,?_,?_,?_,?_⟩ <;> (repeat (rw [if_neg (by omega)])) <;> assumption
     ·rw [za HN] at hm;cases hm
      have hcz:=za HC;simp only [Array.getElem?_setIfInBounds,Array.size_setIfInBounds];refine ⟨?_,?_,?_,?_,?_⟩ <;> simp <;> omega
   case measure=>simp [intOf];omega
  ·have u1:¬ (k:Int)<(L.length:Int):=by omega
   go_wp2
   go_ret
   refine ⟨rfl,⟨cur,za HB,za HZ⟩,fun j n hj=>?_,hbel⟩;obtain ⟨i0,i1,i2,i3,i4⟩:=HA.out j n (by have :=(List.getElem?_eq_some_iff.1 hj).1;omega) hj;refine ⟨_,0,rfl,(Array.getElem?_eq_some_iff.1 (za HB)).1,?_,?_,?_,?_,?_⟩
   ·rw [cell_of_row wr _ _ _ _ (0,0) (za HB),Nat.zero_add];exact i0
   ·rw [cell_of_row wr _ _ _ _ (0,0) (za HB),Nat.zero_add];exact i1
   ·rw [cell_of_row wr _ _ _ _ (0,0) (za HB),Nat.zero_add];exact i2
   ·rw [cell_of_row wr _ _ _ _ (0,0) (za HB),Nat.zero_add];exact i3
   ·rw [cell_of_row wr _ _ _ _ (0,0) (za HB),Nat.zero_add];exact i4
end WLaw
end
section
open Go.RowKit
namespace WLaw
theorem yi8 (a:Option Addr) (cap:Nat) (L:List Pl.Nd) (w:World) (hl:L.length≤1048576) (hv:Mem.zb1 w a L):
  Calls Tryz.prog 133 #[.agg #[.slice a L.length cap]] w fun e w'=>∃g,e= .returned (.agg #[.slice (some ⟨g,0,none⟩) L.length L.length])∧w.heap.size≤g∧(∃cur,w'.heap[g]? =some (.cells cur 55 (0,0))∧cur.size=L.length*5)∧Mem.zb1 w' (some ⟨g,0,none⟩) L∧Below w.heap.size w w':=by
 have HZ:=hide (fun W (b:Below w.heap.size w W)=>toNodeS_row a cap L W hl (Mem.za9 hv b));clear hv;have b0:∀o1 o2 o3,Below w.heap.size w (((w.alloc o1).alloc o2).alloc o3):=fun o1 o2 o3=>(((Below.refl _ _).alloc (Nat.le_refl _) o1).alloc (by simp) o2).alloc (by simp;omega) o3;have HB:=hide b0;clear b0;go_enter Tryz.func133,Tryz.ntmps133
 go_wp2_with fail
 refine (za HZ _ (za HB _ _ _)).mono ?_;rintro e w1 ⟨rfl,⟨cur,hrow,hcur⟩,h1,b1⟩;have hs:(((w.alloc (.cells #[.slice a L.length cap] 194)).alloc (.cells #[.slice none 0 0] 107)).alloc (.cells #[.slice none 0 0] 107)).heap.size=w.heap.size+1+1+1:=by simp
 have r1:w1.heap[w.heap.size+1]? =some (.cells #[.slice none 0 0] 107 (0,0)):=(b1.block _ (by rw [hs];omega)).trans (Mem.zz4 w _ _ _);have r2:w1.heap[w.heap.size+1+1]? =some (.cells #[.slice none 0 0] 107 (0,0)):=(b1.block _ (by rw [hs];omega)).trans (Mem.zw1 w _ _ _);have c1:w1.cell? ⟨w.heap.size+1,0,none⟩=some (.slice none 0 0):=by rw [cell_of_row w1 _ 0 _ _ (0,0) r1];rfl
 have c2:w1.cell? ⟨w.heap.size+1+1,0,none⟩=some (.slice none 0 0):=by rw [cell_of_row w1 _ 0 _ _ (0,0) r2];rfl
 have f1:w1.frozen? ⟨w.heap.size+1,0,none⟩=false:=Mem.zc2 r1;have f2:w1.frozen? ⟨w.heap.size+1+1,0,none⟩=false:=Mem.zc2 r2;have bb:=hide ((za HB _ _ _).trans (b1.mono (za HB _ _ _).size));have H1:=hide h1;have HR:=hide hrow;have HCU:=hide hcur;have HSZ:=hide hs;generalize (((w.alloc (.cells #[.slice a L.length cap] 194)).alloc (.cells #[.slice none 0 0] 107)).alloc (.cells #[.slice none 0 0] 107)).heap.size=g at H1 HSZ HR ⊢;clear HZ b1 h1 hs r1 r2 hrow hcur;go_wp2
 refine bodyPost_ret (v:= .agg #[.slice (some ⟨g,0,none⟩) L.length L.length]) (by simp [results,Tryz.results133,go_sem,c1]) rfl ⟨g,rfl,by have :=za HSZ;omega,⟨cur,?_,za HCU⟩,?_,?_⟩
 ·have hg:=za HSZ;exact (heap_setCell_other _ _ _ _ (by show g≠w.heap.size+1;omega)).trans ((heap_setCell_other _ _ _ _ (by show g≠w.heap.size+1+1;omega)).trans (za HR))
 ·intro i n hi;obtain ⟨b,o,e1,h2,q0,q1,q2,q3,q4⟩:=za H1 i n hi;cases e1
  have hg:=za HSZ
  have hc:∀j,((w1.setCell ⟨w.heap.size+1+1,0,none⟩ (.slice (some ⟨g,0,none⟩) L.length L.length)).setCell ⟨w.heap.size+1,0,none⟩ (.slice (some ⟨g,0,none⟩) L.length L.length)).cell? ⟨g,j,none⟩=w1.cell? ⟨g,j,none⟩:=fun j=>by
   rw [World.cell?_setCell_far _ _ _ _ (by show w.heap.size+1≠g;omega),World.cell?_setCell_far _ _ _ _ (by show w.heap.size+1+1≠g;omega)]
  refine ⟨g,0,rfl,by simpa [World.setCell] using h2,?_,?_,?_,?_,?_⟩
  ·rw [hc];exact q0
  ·rw [hc];exact q1
  ·rw [hc];exact q2
  ·rw [hc];exact q3
  ·rw [hc];exact q4
 ·exact ((za bb).setCell (by show w.heap.size≤w.heap.size+1+1;omega) _).setCell (by show w.heap.size≤w.heap.size+1;omega) _
theorem eqNode_any (n:Pl.Nd) (w:World):
  Calls Tryz.prog 184 #[n.val,n.val] w fun e w'=>e= .returned (.bool true)∧Below w.heap.size w w':=by
 obtain ⟨p,k,d,t,m⟩:=n;simp only [Pl.Nd.val];go_enter Tryz.func184,Tryz.ntmps184
 go_wp2
 go_ret
 exact ⟨rfl,((Below.refl _ _).alloc (Nat.le_refl _) _).alloc (by simp) _⟩
theorem eqNodeS_any (a b:Option Addr) (c1 c2:Nat) (L:List Pl.Nd) (w:World) (hl:L.length≤1048576) (hv:Mem.zb1 w a L) (hu:Mem.zb1 w b L):
  Calls Tryz.prog 167 #[.slice a L.length c1, .slice b L.length c2] w fun e w'=>e= .returned (.bool true)∧Below w.heap.size w w':=by
 have HV:=hide hv;have HU:=hide hu;clear hv hu;go_enter Tryz.func167,Tryz.ntmps167
 go_wp2
 go_loopw [5] (fun i wr=>∃k:Nat,k≤L.length∧i= .int .i64 (k:Int)∧Below w.heap.size w wr) (fun i _=>L.length - (intOf i).toNat)
 case atStart=>exact ⟨0,Nat.zero_le _,rfl,Below.refl _ _⟩
 case round=>
  obtain ⟨k,hk,rfl,hbel⟩:=hrel;by_cases hlt:k<L.length
  ·obtain ⟨n,hn⟩:∃n,L[k]? =some n:=⟨_,List.getElem?_eq_getElem hlt⟩;obtain ⟨g,o,rfl,hg,q0,q1,q2,q3,q4⟩:=(za HV) k n hn;obtain ⟨g2,o2,rfl,hg2,p0,p1,p2,p3,p4⟩:=(za HU) k n hn;have c0:=(hbel.cell (p:=⟨g,_,none⟩) hg).trans q0;have c1:=(hbel.cell (p:=⟨g,_,none⟩) hg).trans q1;have c2:=(hbel.cell (p:=⟨g,_,none⟩) hg).trans q2;have c3:=(hbel.cell (p:=⟨g,_,none⟩) hg).trans q3;have c4:=(hbel.cell (p:=⟨g,_,none⟩) hg).trans q4;have d0:=(hbel.cell (p:=⟨g2,_,none⟩) hg2).trans p0;have d1:=(hbel.cell (p:=⟨g2,_,none⟩) hg2).trans p1;have d2:=(hbel.cell (p:=⟨g2,_,none⟩) hg2).trans p2;have d3:=(hbel.cell (p:=⟨g2,_,none⟩) hg2).trans p3;have d4:=(hbel.cell (p:=⟨g2,_,none⟩) hg2).trans p4;have hz:=hide (fun W=>eqNode_any n W)
   have MK:Hid (∀W',Below w.heap.size w W'→(Below w.heap.size w W'∧W'.cell? ⟨g,o+k*5,none⟩=some (.string n.path)∧W'.cell? ⟨g,o+k*5+1,none⟩=some (.int .i64 n.kind)∧W'.cell? ⟨g,o+k*5+2,none⟩=some (.string n.data)∧W'.cell? ⟨g,o+k*5+3,none⟩=some (.int .i64 n.time)∧W'.cell? ⟨g,o+k*5+4,none⟩=some (.int .i64 n.mark)∧W'.cell? ⟨g2,o2+k*5,none⟩=some (.string n.path)∧W'.cell? ⟨g2,o2+k*5+1,none⟩=some (.int .i64 n.kind)∧W'.cell? ⟨g2,o2+k*5+2,none⟩=some (.string n.data)∧W'.cell? ⟨g2,o2+k*5+3,none⟩=some (.int .i64 n.time)∧W'.cell? ⟨g2,o2+k*5+4,none⟩=some (.int .i64 n.mark))):=fun W' hb=>⟨hb,(hb.cell (p:=⟨g,_,none⟩) hg).trans q0,(hb.cell (p:=⟨g,_,none⟩) hg).trans q1,(hb.cell (p:=⟨g,_,none⟩) hg).trans q2,(hb.cell (p:=⟨g,_,none⟩) hg).trans q3,(hb.cell (p:=⟨g,_,none⟩) hg).trans q4,(hb.cell (p:=⟨g2,_,none⟩) hg2).trans p0,(hb.cell (p:=⟨g2,_,none⟩) hg2).trans p1,(hb.cell (p:=⟨g2,_,none⟩) hg2).trans p2,(hb.cell (p:=⟨g2,_,none⟩) hg2).trans p3,(hb.cell (p:=⟨g2,_,none⟩) hg2).trans p4⟩
   have u1:(k:Int)<(L.length:Int):=by omega
   have u3:(0:Int)≤(k:Int):=by omega
   have hbd:Below w.heap.size w wr.drew:=⟨hbel.os,hbel.tape,hbel.output,hbel.size,hbel.block⟩;clear q0 q1 q2 q3 q4 p0 p1 p2 p3 p4 hn;simp only [Pl.Nd.val] at hz;go_wp2_with fail
   go_region_held3 (fun W'=>Below w.heap.size w W'∧W'.cell? ⟨g,o+k*5,none⟩=some (.string n.path)∧W'.cell? ⟨g,o+k*5+1,none⟩=some (.int .i64 n.kind)∧W'.cell? ⟨g,o+k*5+2,none⟩=some (.string n.data)∧W'.cell? ⟨g,o+k*5+3,none⟩=some (.int .i64 n.time)∧W'.cell? ⟨g,o+k*5+4,none⟩=some (.int .i64 n.mark)∧W'.cell? ⟨g2,o2+k*5,none⟩=some (.string n.path)∧W'.cell? ⟨g2,o2+k*5+1,none⟩=some (.int .i64 n.kind)∧W'.cell? ⟨g2,o2+k*5+2,none⟩=some (.string n.data)∧W'.cell? ⟨g2,o2+k*5+3,none⟩=some (.int .i64 n.time)∧W'.cell? ⟨g2,o2+k*5+4,none⟩=some (.int .i64 n.mark)) (first |exact za MK _ hbd|exact za MK _ (hbd.trans (bX.mono hbd.size))) (first |(go_at_call 184;refine (za hz _).mono ?_;rintro e wX ⟨rfl,bX⟩))
   have hb2:=hbd.trans (bX.mono hbd.size);clear hbel hbd bX MK;go_wp2
   go_roundw
   case rel=>exact ⟨k+1,by omega,by go_num,hb2⟩
   case measure=>simp [intOf];omega
  ·have u1:¬ (k:Int)<(L.length:Int):=by omega
   go_wp2
   go_ret
   exact ⟨rfl,hbel⟩
theorem eqTree_any (a b:Option Addr) (c1 c2:Nat) (L:List Pl.Nd) (w:World) (hl:L.length≤1048576) (hv:Mem.zb1 w a L) (hu:Mem.zb1 w b L):
  Calls Tryz.prog 150 #[.agg #[.slice a L.length c1], .agg #[.slice b L.length c2]] w fun e w'=>e= .returned (.bool true)∧Below w.heap.size w w':=by
 have b0:∀o1 o2,Below w.heap.size w ((w.alloc o1).alloc o2):=fun o1 o2=>((Below.refl _ _).alloc (Nat.le_refl _) o1).alloc (by simp) o2;have HB:=hide b0;have HZ:=hide (fun W (b':Below w.heap.size w W)=>eqNodeS_any a b c1 c2 L W hl (Mem.za9 hv b') (Mem.za9 hu b'));clear hv hu b0;go_enter Tryz.func150,Tryz.ntmps150
 go_wp2_with fail
 refine (za HZ _ (za HB _ _)).mono ?_;rintro e w1 ⟨rfl,b1⟩;have bb:=(za HB _ _).trans (b1.mono (za HB _ _).size);clear HZ b1;go_wp2
 go_ret
 exact ⟨rfl,bb⟩
end WLaw
end
section
open Go.RowKit
namespace Mem
theorem zf2 {w:World} {g o:Nat} {L:List Pl.Nd} (h:zb1 w (some ⟨g,o,none⟩) L) (p:Addr) (v:Value) (hp:p.block≠g):zb1 (w.setCell p v) (some ⟨g,o,none⟩) L:=fun i n hi=>by
 obtain ⟨g',o',h1,h2,h3,h4,h5,h6,h7⟩:=h i n hi;cases h1
 refine ⟨g,o,rfl,by simpa using h2,?_,?_,?_,?_,?_⟩ <;> (rw [World.cell?_setCell_far _ _ _ _ hp];assumption)
end Mem
end
end Go.Proofs.YtbomeifgfalmdaaGreatDoor
