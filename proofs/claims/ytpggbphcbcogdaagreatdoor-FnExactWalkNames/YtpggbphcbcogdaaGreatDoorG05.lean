/- Several texts of one claim in one file: TakeK, Mem, MemVars, MemOwnN, MemBlk, WTakeS. -/
import Derived.Test.YtpggbphcbcogdaaGreatDoorG03
namespace Go.Proofs.YtpggbphcbcogdaaGreatDoor
section
open Go.RowKit
theorem kBs {α:Type}:(∀ (xs:List α) (i:Nat) (h:i<xs.toArray.size),xs.toArray[i]=xs[i]'(by simpa using h))∧(∀ (a:α) (as':List α) (h:0<(a::as').length),(a::as')[0]=a)∧(∀ (a:α) (as':List α) (i:Nat) (h:i+1<(a::as').length),(a::as')[i+1]=as'[i]'(by simpa using h))∧
  (∀ (l:List α) (i:Nat) (a:α),l.toArray.setIfInBounds i a=(l.set i a).toArray)∧(∀ (x a:α) (xs:List α),(x::xs).set 0 a=a::xs)∧(∀ (x a:α) (xs:List α) (n:Nat),(x::xs).set (n+1) a=x::xs.set n a):=
 ⟨fun _ _ _=>rfl,fun _ _ _=>rfl,fun _ _ _ _=>rfl,fun _ _ _=>List.setIfInBounds_toArray ..,fun _ _ _=>rfl,fun _ _ _ _=>rfl⟩
theorem kGs {α:Type}:(∀ (l:List α) (i:Nat),l.toArray[i]? =l[i]?)∧(∀ (a:α) (l:List α),(a::l)[0]? =some a)∧(∀ (a:α) (l:List α) (i:Nat),(a::l)[i+1]? =l[i]?):=
 ⟨fun _ _=>List.getElem?_toArray ..,fun _ _=>List.getElem?_cons_zero ..,fun _ _ _=>List.getElem?_cons_succ ..⟩
end
section
open Go.RowKit
namespace Mem
theorem add_lit (b j:Nat):(⟨b,0,none⟩:Addr).add j=⟨b,j,none⟩:=by unfold Addr.add;split <;> simp_all

theorem row_text {P:Program} {src dst e:TypeId} (hs:P.underlying src=some (.slice e)) (he:P.underlying e=some (.int .u8)) (hd:P.underlying dst=some .string)
  {w:World} {g n cap:Nat} {cur:Array Value} {t:TypeId} (l:List UInt8) (hn:l.length=n) (hg:w.heap[g]? =some (.cells cur t (0,0))) (ht:cur.toList.take n=l.map Pl.zd3):
  (convert src dst (.slice (some ⟨g,0,none⟩) n cap)).run P w= .ok (.string ⟨l.toArray⟩) w:=by
 subst hn;refine run_convert_bytes_back w src dst e ⟨g,0,none⟩ cap l hs he hd (fun j hj=>?_);rw [add_lit,cell_of_row w g j cur t (0,0) hg];have h1:(cur.toList.take l.length)[j]? =(l.map Pl.zd3)[j]?:=by rw [ht]
 rw [List.getElem?_take_of_lt (by omega)] at h1
 simpa [Pl.zd3,hj] using h1

theorem ze0 {B:Nat} {a w w1:World} {o:Obj} {e:TypeId} {size n:Nat} {v:Value} {xs:List Value} (h:Below B a w) (hB:B≤a.heap.size) (hown:w.ownsRow B e size v n xs) (hg:(w.alloc o).grownBy w1 v.ownBlock):Below B a w1:=
 have hs:=h.size
 (h.alloc (by omega) o).grown hg (by simp;omega) (fun k hk=>(hown.lt k hk).1)

theorem zd0 (w:World) (v:Value) (e:TypeId):∀j u,[v][j]? =some u→(w.alloc (.cells #[v] e)).cell? ((⟨w.heap.size,0,none⟩:Addr).add j)=some u:=by
 intro j u hj
 match j,hj with
 |0,hj=>simp at hj;subst hj;rw [add_lit];simp
 |j+1,hj=>simp at hj
theorem zd5 {w:World} {g j:Nat} {cur:Array Value} {t:TypeId} (hg:w.heap[g]? =some (.cells cur t (0,0))):w.frozen? ⟨g,j,none⟩=false:=by
 simp [World.frozen?,hg]
def zeros (n:Nat):Array Value:=madeCells (Value.int .u8 0).cells n
theorem zeros_size (n:Nat):(zeros n).size=n:=size_madeCells _ _
theorem make_bytes {P:Program} {T E:TypeId} (ht:P.underlying T=some (.slice E)) (hi:(P.info? E).map (fun i=>(i.zero,i.size,i.bytes))=some (some (.int .u8 0),1,1)) (n:Nat) (hn:n≤1000000000) (w:World):
  (Instr.makeSlice T (.int .i64 (n:Int)) (.int .i64 (n:Int))).run P w= .ok (.slice (some ⟨w.heap.size,0,none⟩) n n) (w.alloc (.cells (zeros n) E)):=by
 obtain ⟨i0,h0,h1,h2,h3⟩:=info_parts hi;have h:=run_make (P:=P) w T E i0 (.int .u8 0) ht h0 h1 .i64 .i64 (n:Int) (n:Int) (by omega) (Int.le_refl _) (by rw [h3];omega) (by omega);rw [h,h2];simp [zeros]

theorem bytes_one (l:List UInt8):∀v∈l.map Pl.zd3,v.oneCell'=true:=by
 intro v hv;obtain ⟨b,_,rfl⟩:=List.mem_map.1 hv;rfl
theorem copy_on {P:Program} {dT sT E:TypeId} (hu:P.underlying dT=some (.slice E)) (hz:∀w,(sizeOf E).run P w= .ok 1 w) (w:World) (B p N:Nat) (cur:Array Value)
  (hB:w.heap[B]? =some (.cells cur E (0,0))) (hc:cur.size=N) (t:ByteArray) (hfit:p+t.size≤N):
  ∃D w',(∀wx,(Instr.slice dT (.slice (some ⟨B,0,none⟩) N N) (some (.int .i64 (p:Int))) none none).run P wx= .ok D wx)∧
   (∀ty,(Builtin.copy_ #[dT,sT] ty #[D, .string t]).run P w= .ok (.int .i64 (t.size:Int)) w')∧
   w'.heap[B]? =some (.cells (cur.toList.take p++t.data.toList.map Pl.zd3++cur.toList.drop (p+t.size)).toArray E (0,0))∧Below B w w':=by
 have ht:P.underlying dT=some (.slice (P.elem dT)):=by simp [Program.elem,hu]
 have he:P.elem dT=E:=by simp [Program.elem,hu]
 have hsl:∀wx,(Instr.slice dT (.slice (some ⟨B,0,none⟩) N N) (some (.int .i64 (p:Int))) none none).run P wx= .ok (sliced (some ⟨B,0,none⟩) p N N 1) wx:=by
  intro wx;have h:=run_slice_l (P:=P) wx dT (some ⟨B,0,none⟩) N N ht .i64 (p:Int) (by omega) (by omega);rw [h,he,hz];rfl
 by_cases hp:p=N
 ·subst hp;have h0:t.size=0:=by omega
  have hd:t.data=#[]:=Array.eq_empty_of_size_eq_zero h0;refine ⟨.slice (some ⟨B,0,none⟩) 0 0,w,?_,?_,?_,Below.refl _ _⟩
  ·intro wx;rw [hsl];simp [sliced]
  ·intro ty;simp [Builtin.copy_,run_underlying hu,Builtin.lenOf,Builtin.firstCells,hz,h0,goInt,storeCells]
  ·rw [hB,h0,hd];simp
 ·have hlt:p<N:=by omega
  have hlen:(t.data.toList.map Pl.zd3).length=t.size:=by rw [List.length_map];rfl
  have hst:=run_storeCells_at P B p E (t.data.toList.map Pl.zd3) 0 cur w hB (by rw [hlen];omega) (bytes_one _);rw [hlen] at hst;simp only [Nat.add_zero] at hst;refine ⟨.slice (some ⟨B,p,none⟩) (N - p) (N - p),_,?_,?_,setRow_heap w B cur _ E _ hB,?_⟩
  ·intro wx;rw [hsl];have h1:¬N=p:=fun h=>hp h.symm;simp [sliced,h1,add_lit]
  ·intro ty;have hmin:Nat.min t.size (N - p)=t.size:=Nat.min_eq_left (by omega)
   have htk:List.take t.size (List.map (fun b:UInt8=>Value.int IntKind.u8 (b.toNat:Int)) t.data.toList)=t.data.toList.map Pl.zd3:=by
    rw [List.take_of_length_le (by rw [List.length_map];exact Nat.le_refl _)];rfl
   simp [Builtin.copy_,run_underlying hu,Builtin.lenOf,Builtin.firstCells,hz,hmin]
   rw [htk,hst,List.append_assoc];rfl
  ·exact ⟨rfl,rfl,rfl,by simp,fun k hk=>setRow_other w B k _ (by omega)⟩
theorem zf9 {w:World} {B B' e size n:Nat} {v:Value} {xs:List Value} (h:w.ownsRow B e size v n xs) (hb:B'≤B):w.ownsRow B' e size v n xs:=by
 refine ⟨h.1,?_⟩
 rcases h.2 with h0|⟨g,cap,cur,hv,hg,rest⟩
 ·exact .inl h0
 ·exact .inr ⟨g,cap,cur,hv,Nat.le_trans hb hg,rest⟩
theorem zh8 {w:World} {B e size n:Nat} {v:Value} {xs:List Value} (h:w.ownsRow B e size v n xs):∃a cap,v= .slice a n cap:=by
 rcases h.2 with ⟨rfl,rfl⟩|⟨g,cap,cur,rfl,_⟩
 ·exact ⟨_,_,rfl⟩
 ·exact ⟨_,_,rfl⟩
end Mem
end
section
open Go.RowKit
namespace Mem
def Var (w:World) (B:Nat) (cs:List Value):Prop:=B<w.heap.size∧∀ (j:Nat) v,cs[j]? =some v→w.cell? ⟨B,j,none⟩=some v
theorem zn0 {w w':World} {B:Nat} {cs:List Value} (h:Var w B cs) (b:Below w.heap.size w w'):Var w' B cs:=
 ⟨Nat.lt_of_lt_of_le h.1 b.size,fun j v hv=>(b.cell (p:=⟨B,j,none⟩) h.1).trans (h.2 j v hv)⟩
theorem zg4 (w:World) (cs:List Value) (T:TypeId):Var (w.alloc (.cells cs.toArray T)) w.heap.size cs:=
 ⟨by simp,fun j v hv=>by rw [cell_of_row _ _ j _ T (0,0) (heap_alloc_new w _)];simpa using hv⟩
theorem zi9 (w:World) (o1 o2:Obj):((w.alloc o1).alloc o2).heap[w.heap.size+1]? =some o2:=by
 have h:=heap_alloc_new (w.alloc o1) o2
 rwa [show (w.alloc o1).heap.size=w.heap.size+1 by simp] at h
theorem new_mid (w:World) (o1 o2 o3:Obj):(((w.alloc o1).alloc o2).alloc o3).heap[w.heap.size+1]? =some o2:=
 ((World.grownBy_alloc ((w.alloc o1).alloc o2) o3 none).block (w.heap.size+1) (by simp) (by simp)).trans (zi9 w o1 o2)
theorem zt9 (w:World) (o1 o2 o3:Obj):(((w.alloc o1).alloc o2).alloc o3).heap[w.heap.size+1+1]? =some o3:=by
 have h:=heap_alloc_new ((w.alloc o1).alloc o2) o3
 rwa [show ((w.alloc o1).alloc o2).heap.size=w.heap.size+1+1 by simp] at h
end Mem
end
section
open Go.RowKit
namespace Pl
def Nd.cs (n:Nd):List Value:=[.string n.path, .int .i64 n.kind, .string n.data, .int .i64 n.time, .int .i64 n.mark]
def zg7 (L:List Nd):List Value:=L.flatMap Nd.cs
theorem cellsN_cons (n:Nd) (L:List Nd):zg7 (n::L)=n.cs++zg7 L:=by simp [zg7]
theorem cellsN_app (L M:List Nd):zg7 (L++M)=zg7 L++zg7 M:=by simp [zg7]
theorem zx1 (L:List Nd) (i:Nat) (n:Nd) (h:L[i]? =some n) (j:Nat) (hj:j<5):(zg7 L)[i*5+j]? =n.cs[j]?:=by
 induction L generalizing i with
 |nil=>simp at h
 |cons m L ih=>
  rw [cellsN_cons];have hl:m.cs.length=5:=rfl
  match i,h with
  |0,h=>
   simp at h;subst h
   rw [List.getElem?_append_left (by rw [hl];omega)];simp
  |i+1,h=>
   rw [List.getElem?_append_right (by rw [hl];omega),hl,show (i+1)*5+j - 5=i*5+j by omega];exact ih i (by simpa using h)
end Pl
namespace Mem
def ownN (w:World) (B:Nat) (v:Value) (L:List Pl.Nd):Prop:=w.ownsRow B 42 5 v L.length (Pl.zg7 L)
theorem cs_one (n:Pl.Nd):∀u∈n.cs,u.oneCell'=true:=by
 intro u hu;simp only [Pl.Nd.cs,List.mem_cons,List.not_mem_nil,or_false] at hu
 rcases hu with rfl |rfl |rfl |rfl |rfl <;> rfl
theorem cs_new (w:World) (n:Pl.Nd) (T:TypeId):∀j u,n.cs[j]? =some u→(w.alloc (.cells n.cs.toArray T)).cell? ((⟨w.heap.size,0,none⟩:Addr).add j)=some u:=by
 intro j u hj;rw [Mem.add_lit];exact (Mem.zg4 w n.cs T).2 j u hj
theorem ownN_snoc {w:World} {B:Nat} {v:Value} {L:List Pl.Nd} {n:Pl.Nd} (h:w.ownsRow B 42 5 v (L.length+1) (Pl.zg7 L++n.cs)):ownN w B v (L++[n]):=by
 unfold ownN;rw [Pl.cellsN_app,List.length_append];have e:Pl.zg7 [n]=n.cs:=by simp [Pl.zg7]
 rw [e];exact h
end Mem
end
section
open Go.RowKit
namespace Mem
def Blk (w:World) (X:Nat) (cs:Array Value) (T:TypeId):Prop:=w.heap[X]? =some (.cells cs T (0,0))
theorem Blk.lt {w:World} {X:Nat} {cs:Array Value} {T:TypeId} (h:Blk w X cs T):X<w.heap.size:=(Array.getElem?_eq_some_iff.1 h).1
theorem Blk.cell {w:World} {X:Nat} {cs:Array Value} {T:TypeId} (h:Blk w X cs T) (k:Nat):w.cell? ⟨X,k,none⟩=cs[k]?:=cell_of_row w X k cs T (0,0) h
theorem Blk.fr {w:World} {X:Nat} {cs:Array Value} {T:TypeId} (h:Blk w X cs T) (k:Nat):w.frozen? ⟨X,k,none⟩=false:=zd5 h
theorem Blk.call {w w':World} {X:Nat} {cs:Array Value} {T:TypeId} (h:Blk w X cs T) (b:Below w.heap.size w w'):Blk w' X cs T:=(b.block _ h.lt).trans h
theorem Blk.below {w w':World} {X B:Nat} {cs:Array Value} {T:TypeId} (h:Blk w X cs T) (b:Below B w w') (hX:X<B):Blk w' X cs T:=(b.block _ hX).trans h
theorem Blk.alloc {w:World} {X:Nat} {cs:Array Value} {T:TypeId} (h:Blk w X cs T) (o:Obj):Blk (w.alloc o) X cs T:=h.call ((Below.refl _ _).alloc (Nat.le_refl _) o)
theorem Blk.new (w:World) (cs:Array Value) (T:TypeId):Blk (w.alloc (.cells cs T)) w.heap.size cs T:=heap_alloc_new w _
theorem Blk.grown {w w':World} {X:Nat} {cs:Array Value} {T:TypeId} {r:Option Nat} (h:Blk w X cs T) (g:w.grownBy w' r) (hr:some X≠r):Blk w' X cs T:=(g.block _ h.lt hr).trans h
theorem Blk.put {w:World} {X:Nat} {cs:Array Value} {T:TypeId} (h:Blk w X cs T) (k:Nat) (v:Value):Blk (w.setCell ⟨X,k,none⟩ v) X (cs.setIfInBounds k v) T:=heap_setCell_same w X k cs T v h
theorem Blk.far {w:World} {X:Nat} {cs:Array Value} {T:TypeId} (h:Blk w X cs T) (a:Addr) (v:Value) (ha:X≠a.block):Blk (w.setCell a v) X cs T:=(heap_setCell_other w a X v ha).trans h
theorem za4 {w w':World} (b:Below w.heap.size w w') (r:Option Nat):w.grownBy w' r:=⟨b.os,b.tape,b.output,b.size,fun j hj _=>b.block j hj⟩
theorem grown_trans {w v v':World} {r:Option Nat} (h:w.grownBy v r) (h':v.grownBy v' r):w.grownBy v' r:=
 ⟨h'.os.trans h.os,h'.tape.trans h.tape,h'.output.trans h.output,Nat.le_trans h.size h'.size,fun j hj hne=>(h'.block j (Nat.lt_of_lt_of_le hj h.size) hne).trans (h.block j hj hne)⟩
end Mem
end
section
open Go.RowKit
namespace zf5
theorem set_have (t:Bool) (n:Pl.Nd) (hv:List Bool) (k:Nat) (x:Bool):(Pl.Sg.cs ⟨t,n,hv⟩).toArray.setIfInBounds (6+k) (.bool x)=(Pl.Sg.cs ⟨t,n,hv.set k x⟩).toArray:=by
 rw [List.setIfInBounds_toArray];unfold Pl.Sg.cs;rw [List.set_append_right _ _ (by simp)];simp [List.map_set]
theorem set_mark (t:Bool) (n:Pl.Nd) (hv:List Bool) (m:Int):(Pl.Sg.cs ⟨t,n,hv⟩).toArray.setIfInBounds 5 (.int .i64 m)=(Pl.Sg.cs ⟨t,⟨n.path,n.kind,n.data,n.time,m⟩,hv⟩).toArray:=by
 rw [List.setIfInBounds_toArray];rfl
theorem set_node (n:Pl.Nd) (hv:List Bool) (u:Bool) (m:Pl.Nd):((((((Pl.Sg.cs ⟨u,m,hv⟩).toArray.setIfInBounds 0 (.bool true)).setIfInBounds 1 (.string n.path)).setIfInBounds 2 (.int .i64 n.kind)).setIfInBounds 3 (.string n.data)).setIfInBounds 4 (.int .i64 n.time)).setIfInBounds 5 (.int .i64 n.mark)=(Pl.Sg.cs ⟨true,n,hv⟩).toArray:=by
 simp only [kB3];rfl
theorem zw8 (w:World) (b:Nat):w.grownBy w (some b):=⟨rfl,rfl,rfl,Nat.le_refl _,fun _ _ _=>rfl⟩
theorem za1 {w v:World} {g:Nat} (h:w.grownBy v (some g)) (o:Nat) (x:Value):w.grownBy (v.setCell ⟨g,o,none⟩ x) (some g):=
 ⟨h.os,h.tape,h.output,Nat.le_trans h.size (by simp [World.setCell]),fun j hj hne=>(Below.heap_setCell _ _ _ _ (by intro e;exact hne (by rw [e]))).trans (h.block j hj hne)⟩
theorem zw3 {w w':World} {b:Nat} (h:w.grownBy w' (some b)) (o:Obj):w.grownBy (w'.alloc o) (some b):=
 Mem.grown_trans h (Mem.za4 ((Below.refl _ _).alloc (Nat.le_refl _) o) (some b))
set_option linter.unusedSimpArgs false in
set_option maxRecDepth 100000 in
set_option maxHeartbeats 2000000 in
theorem take_any (b k:Nat) (s:Pl.Sg) (n:Pl.Nd) (w:World) (hk:k<4) (hh:s.have'.length=4) (hb:Mem.Blk w b s.cs.toArray 139):
  Calls Tryz.prog 92 #[.pointer (some ⟨b,0,none⟩), .int .i64 k,n.val] w fun e w'=>e= .returned (.bool (Pl.ze6 n))∧Mem.Blk w' b (Pl.zc2 s k n).cs.toArray 139∧w.grownBy w' (some b):=by
 obtain ⟨told,⟨sp,sk,sd,st,sm⟩,hv⟩:=s;obtain ⟨np,nk,nd,nt,nm⟩:=n
 obtain ⟨h0,h1,h2,h3,rfl⟩:∃h0 h1 h2 h3,hv=[h0,h1,h2,h3]:=by
  match hv,hh with
  | [a,b,c,d],_=>exact ⟨a,b,c,d,rfl⟩
 have hix:0≤(k:Int)∧(k:Int)<4:=by omega
 simp only [Pl.Nd.val];have hbl:=hb.lt;have V:=hb.alloc (.cells #[.string np, .int .i64 nk, .string nd, .int .i64 nt, .int .i64 nm] 42);have N:=Mem.Blk.new w #[.string np, .int .i64 nk, .string nd, .int .i64 nt, .int .i64 nm] 42;have c0:=hb.cell 0;have c1:=hb.cell 1;have c2:=hb.cell 2;have c3:=hb.cell 3;have c4:=hb.cell 4;have c5:=hb.cell 5;have f0:=hb.fr 0;have f1:=hb.fr 1;have f2:=hb.fr 2;have f3:=hb.fr 3;have f4:=hb.fr 4;have f5:=hb.fr 5;have fk:=hb.fr (6+k)
 obtain ⟨x,ck⟩:∃x,w.cell? ⟨b,6+k,none⟩=some (.bool x):=by
  rw [hb.cell (6+k)];obtain rfl |rfl |rfl |rfl:k=0∨k=1∨k=2∨k=3:=by omega
  all_goals exact ⟨_,rfl⟩
 simp only [Pl.Sg.cs,List.map_cons,List.map_nil,List.cons_append,List.nil_append,kGs] at c0 c1 c2 c3 c4 c5
 have hN:∀ (t:Bool) (x:Bool) (M:Int),Mem.Blk (((w.setCell ⟨b,5,none⟩ (.int .i64 M)).setCell ⟨b,6+k,none⟩ (.bool x)).alloc (.cells #[.string np, .int .i64 nk, .string nd, .int .i64 nt, .int .i64 nm] 42)).drew.drew b (Pl.Sg.cs ⟨told,⟨sp,sk,sd,st,M⟩,[h0,h1,h2,h3].set k x⟩).toArray 139∧w.grownBy (((w.setCell ⟨b,5,none⟩ (.int .i64 M)).setCell ⟨b,6+k,none⟩ (.bool x)).alloc (.cells #[.string np, .int .i64 nk, .string nd, .int .i64 nt, .int .i64 nm] 42)).drew.drew (some b):=by
  intro t x M;have h1:=((hb.put 5 (.int .i64 M)).put (6+k) (.bool x)).alloc (.cells #[.string np, .int .i64 nk, .string nd, .int .i64 nt, .int .i64 nm] 42);rw [set_mark,set_have] at h1;have h2:=zw3 (za1 (za1 (zw8 w b) 5 (.int .i64 M)) (6+k) (.bool x)) (.cells #[.string np, .int .i64 nk, .string nd, .int .i64 nt, .int .i64 nm] 42);exact ⟨h1,⟨h2.os,h2.tape,h2.output,h2.size,h2.block⟩⟩
 cases told
 ·clear hN
  have V2:Mem.Blk (((((((((w.setCell ⟨b,0,none⟩ (.bool true)).setCell ⟨b,1,none⟩ (.string np)).setCell ⟨b,2,none⟩ (.int .i64 nk)).setCell ⟨b,3,none⟩ (.string nd)).setCell ⟨b,4,none⟩ (.int .i64 nt)).setCell ⟨b,5,none⟩ (.int .i64 nm)).alloc (.cells #[.string np, .int .i64 nk, .string nd, .int .i64 nt, .int .i64 nm] 42))).drew) b (Pl.Sg.cs ⟨true,⟨np,nk,nd,nt,nm⟩,[h0,h1,h2,h3]⟩).toArray 139:=by
   have h:=((((((hb.put 0 (.bool true)).put 1 (.string np)).put 2 (.int .i64 nk)).put 3 (.string nd)).put 4 (.int .i64 nt)).put 5 (.int .i64 nm)).alloc (.cells #[.string np, .int .i64 nk, .string nd, .int .i64 nt, .int .i64 nm] 42);rw [set_node ⟨np,nk,nd,nt,nm⟩] at h;exact h
  have hsz:(((((((((w.setCell ⟨b,0,none⟩ (.bool true)).setCell ⟨b,1,none⟩ (.string np)).setCell ⟨b,2,none⟩ (.int .i64 nk)).setCell ⟨b,3,none⟩ (.string nd)).setCell ⟨b,4,none⟩ (.int .i64 nt)).setCell ⟨b,5,none⟩ (.int .i64 nm)).alloc (.cells #[.string np, .int .i64 nk, .string nd, .int .i64 nt, .int .i64 nm] 42))).drew).heap.size=w.heap.size+1:=by simp
  have N2:Mem.Blk (((((((((w.setCell ⟨b,0,none⟩ (.bool true)).setCell ⟨b,1,none⟩ (.string np)).setCell ⟨b,2,none⟩ (.int .i64 nk)).setCell ⟨b,3,none⟩ (.string nd)).setCell ⟨b,4,none⟩ (.int .i64 nt)).setCell ⟨b,5,none⟩ (.int .i64 nm)).alloc (.cells #[.string np, .int .i64 nk, .string nd, .int .i64 nt, .int .i64 nm] 42))).drew) w.heap.size #[.string np, .int .i64 nk, .string nd, .int .i64 nt, .int .i64 nm] 42:=by
   have h:=Mem.Blk.new ((((((w.setCell ⟨b,0,none⟩ (.bool true)).setCell ⟨b,1,none⟩ (.string np)).setCell ⟨b,2,none⟩ (.int .i64 nk)).setCell ⟨b,3,none⟩ (.string nd)).setCell ⟨b,4,none⟩ (.int .i64 nt)).setCell ⟨b,5,none⟩ (.int .i64 nm)) #[.string np, .int .i64 nk, .string nd, .int .i64 nt, .int .i64 nm] 42;simp only [World.size_setCell] at h;exact h
  have G2:w.grownBy (((((((((w.setCell ⟨b,0,none⟩ (.bool true)).setCell ⟨b,1,none⟩ (.string np)).setCell ⟨b,2,none⟩ (.int .i64 nk)).setCell ⟨b,3,none⟩ (.string nd)).setCell ⟨b,4,none⟩ (.int .i64 nt)).setCell ⟨b,5,none⟩ (.int .i64 nm)).alloc (.cells #[.string np, .int .i64 nk, .string nd, .int .i64 nt, .int .i64 nm] 42))).drew) (some b):=by
   have h:=zw3 (za1 (za1 (za1 (za1 (za1 (za1 (zw8 w b) 0 (.bool true)) 1 (.string np)) 2 (.int .i64 nk)) 3 (.string nd)) 4 (.int .i64 nt)) 5 (.int .i64 nm)) (.cells #[.string np, .int .i64 nk, .string nd, .int .i64 nt, .int .i64 nm] 42);exact ⟨h.os,h.tape,h.output,h.size,h.block⟩
  have hM:max nm nm=nm:=by omega
  have hmx:¬nm<nm:=by omega
  go_enter Tryz.func92,Tryz.ntmps92
  go_wp2
  go_region
  go_wp2
  generalize (((((((((w.setCell ⟨b,0,none⟩ (.bool true)).setCell ⟨b,1,none⟩ (.string np)).setCell ⟨b,2,none⟩ (.int .i64 nk)).setCell ⟨b,3,none⟩ (.string nd)).setCell ⟨b,4,none⟩ (.int .i64 nt)).setCell ⟨b,5,none⟩ (.int .i64 nm)).alloc (.cells #[.string np, .int .i64 nk, .string nd, .int .i64 nt, .int .i64 nm] 42))).drew)=w2 at V2 N2 G2 hsz ⊢
  have HN:Hid (∀x:Bool,Mem.Blk ((w2.setCell ⟨b,5,none⟩ (.int .i64 nm)).setCell ⟨b,6+k,none⟩ (.bool x)).drew.drew b (Pl.Sg.cs ⟨true,⟨np,nk,nd,nt,nm⟩,[h0,h1,h2,h3].set k x⟩).toArray 139∧w.grownBy ((w2.setCell ⟨b,5,none⟩ (.int .i64 nm)).setCell ⟨b,6+k,none⟩ (.bool x)).drew.drew (some b)):=by
   intro x;have h1:=(V2.put 5 (.int .i64 nm)).put (6+k) (.bool x);rw [set_mark,set_have] at h1;have h2:=za1 (za1 G2 5 (.int .i64 nm)) (6+k) (.bool x);exact ⟨h1,⟨h2.os,h2.tape,h2.output,h2.size,h2.block⟩⟩
  have c5:=V2.cell 5;have f5:=V2.fr 5;have fk:=V2.fr (6+k);have n1:=N2.cell 1;have n4:=N2.cell 4
  obtain ⟨x,ck⟩:∃x,w2.cell? ⟨b,6+k,none⟩=some (.bool x):=by
   rw [V2.cell (6+k)];obtain rfl |rfl |rfl |rfl:k=0∨k=1∨k=2∨k=3:=by omega
   all_goals exact ⟨_,rfl⟩
  simp only [Pl.Sg.cs,List.map_cons,List.map_nil,List.cons_append,List.nil_append,kGs] at c5 n1 n4;clear V2 N2 G2 hb V N c0 c1 c2 c3 c4;have hne:¬w.heap.size=b:=by omega
  by_cases hn:nk=1
  ·subst hn;go_region
   go_wp2
   go_region
   go_wp2
   go_ret
   exact ⟨by simp [Pl.ze6],by simp only [Pl.zc2,Pl.zf8,Bool.false_eq_true,if_false,hM,decide_true];exact (za HN true).1,(za HN true).2⟩
  ·have t1:(nk==1)=false:=by simpa using hn
   have t2:(nk !=1)=true:=by simpa using hn
   have t3:decide (nk=1)=false:=by simpa using hn
   go_region
   go_wp2
   go_region
   go_wp2
   go_ret
   exact ⟨by simp [Pl.ze6,hn],by simp only [Pl.zc2,Pl.zf8,Bool.false_eq_true,if_false,hM,t3];exact (za HN false).1,(za HN false).2⟩
 ·have HN:=hide hN;clear hN V N hb;by_cases hmx:sm<nm
  ·have hM:max sm nm=nm:=by omega
   by_cases hn:nk=1
   ·subst hn;go_enter Tryz.func92,Tryz.ntmps92
    go_wp2
    go_region
    go_wp2
    go_region
    go_wp2
    go_ret
    exact ⟨by simp [Pl.ze6],by simp only [Pl.zc2,Pl.zf8,if_true,hM,decide_true];exact (za HN true true nm).1,(za HN true true nm).2⟩
   ·have t1:(nk==1)=false:=by simpa using hn
    have t2:(nk !=1)=true:=by simpa using hn
    have t3:decide (nk=1)=false:=by simpa using hn
    go_enter Tryz.func92,Tryz.ntmps92
    go_wp2
    go_region
    go_wp2
    go_region
    go_wp2
    go_ret
    exact ⟨by simp [Pl.ze6,hn],by simp only [Pl.zc2,Pl.zf8,if_true,hM,t3];exact (za HN true false nm).1,(za HN true false nm).2⟩
  ·have hM:max sm nm=sm:=by omega
   by_cases hn:nk=1
   ·subst hn;go_enter Tryz.func92,Tryz.ntmps92
    go_wp2
    go_region
    go_wp2
    go_region
    go_wp2
    go_ret
    exact ⟨by simp [Pl.ze6],by simp only [Pl.zc2,Pl.zf8,if_true,hM,decide_true];exact (za HN true true sm).1,(za HN true true sm).2⟩
   ·have t1:(nk==1)=false:=by simpa using hn
    have t2:(nk !=1)=true:=by simpa using hn
    have t3:decide (nk=1)=false:=by simpa using hn
    go_enter Tryz.func92,Tryz.ntmps92
    go_wp2
    go_region
    go_wp2
    go_region
    go_wp2
    go_ret
    exact ⟨by simp [Pl.ze6,hn],by simp only [Pl.zc2,Pl.zf8,if_true,hM,t3];exact (za HN true false sm).1,(za HN true false sm).2⟩
end zf5
end
end Go.Proofs.YtpggbphcbcogdaaGreatDoor
