/- Several texts of one claim in one file: Mem, MemBlk, WOwnI, WAllS, TakeK, TakeB, MemVars, MemAppend, WMaxS. -/
import Derived.Test.YtpakookhgpphaaaDoorG00
import Derived.Below
import Derived.WalkKit
import Derived.Laws.IdiomStrings
import Derived.Laws.AppendOwn
import Derived.Deep.RegionHeld3
import Derived.Test.YtpakookhgpphaaaDoorProg
import Derived.WalkSpells
namespace Go.Proofs.YtpakookhgpphaaaDoor
section
open Go.RowKit
namespace Mem
theorem add_lit (b j:Nat):(⟨b,0,none⟩:Addr).add j=⟨b,j,none⟩:=by unfold Addr.add;split <;> simp_all

theorem row_text {P:Program} {src dst e:TypeId} (hs:P.underlying src=some (.slice e)) (he:P.underlying e=some (.int .u8)) (hd:P.underlying dst=some .string)
  {w:World} {g n cap:Nat} {cur:Array Value} {t:TypeId} (l:List UInt8) (hn:l.length=n) (hg:w.heap[g]? =some (.cells cur t (0,0))) (ht:cur.toList.take n=l.map Pl.zd6):
  (convert src dst (.slice (some ⟨g,0,none⟩) n cap)).run P w= .ok (.string ⟨l.toArray⟩) w:=by
 subst hn;refine run_convert_bytes_back w src dst e ⟨g,0,none⟩ cap l hs he hd (fun j hj=>?_);rw [add_lit,cell_of_row w g j cur t (0,0) hg];have h1:(cur.toList.take l.length)[j]? =(l.map Pl.zd6)[j]?:=by rw [ht]
 rw [List.getElem?_take_of_lt (by omega)] at h1
 simpa [Pl.zd6,hj] using h1

theorem zg9 {B:Nat} {a w w1:World} {o:Obj} {e:TypeId} {size n:Nat} {v:Value} {xs:List Value} (h:Below B a w) (hB:B≤a.heap.size) (hown:w.ownsRow B e size v n xs) (hg:(w.alloc o).grownBy w1 v.ownBlock):Below B a w1:=
 have hs:=h.size
 (h.alloc (by omega) o).grown hg (by simp;omega) (fun k hk=>(hown.lt k hk).1)

theorem zo0 (w:World) (v:Value) (e:TypeId):∀j u,[v][j]? =some u→(w.alloc (.cells #[v] e)).cell? ((⟨w.heap.size,0,none⟩:Addr).add j)=some u:=by
 intro j u hj
 match j,hj with
 |0,hj=>simp at hj;subst hj;rw [add_lit];simp
 |j+1,hj=>simp at hj
theorem zb1 {w:World} {g j:Nat} {cur:Array Value} {t:TypeId} (hg:w.heap[g]? =some (.cells cur t (0,0))):w.frozen? ⟨g,j,none⟩=false:=by
 simp [World.frozen?,hg]
def zeros (n:Nat):Array Value:=madeCells (Value.int .u8 0).cells n
theorem zeros_size (n:Nat):(zeros n).size=n:=size_madeCells _ _
theorem make_bytes {P:Program} {T E:TypeId} (ht:P.underlying T=some (.slice E)) (hi:(P.info? E).map (fun i=>(i.zero,i.size,i.bytes))=some (some (.int .u8 0),1,1)) (n:Nat) (hn:n≤1000000000) (w:World):
  (Instr.makeSlice T (.int .i64 (n:Int)) (.int .i64 (n:Int))).run P w= .ok (.slice (some ⟨w.heap.size,0,none⟩) n n) (w.alloc (.cells (zeros n) E)):=by
 obtain ⟨i0,h0,h1,h2,h3⟩:=info_parts hi;have h:=run_make (P:=P) w T E i0 (.int .u8 0) ht h0 h1 .i64 .i64 (n:Int) (n:Int) (by omega) (Int.le_refl _) (by rw [h3];omega) (by omega);rw [h,h2];simp [zeros]

theorem bytes_one (l:List UInt8):∀v∈l.map Pl.zd6,v.oneCell'=true:=by
 intro v hv;obtain ⟨b,_,rfl⟩:=List.mem_map.1 hv;rfl
theorem copy_on {P:Program} {dT sT E:TypeId} (hu:P.underlying dT=some (.slice E)) (hz:∀w,(sizeOf E).run P w= .ok 1 w) (w:World) (B p N:Nat) (cur:Array Value)
  (hB:w.heap[B]? =some (.cells cur E (0,0))) (hc:cur.size=N) (t:ByteArray) (hfit:p+t.size≤N):
  ∃D w',(∀wx,(Instr.slice dT (.slice (some ⟨B,0,none⟩) N N) (some (.int .i64 (p:Int))) none none).run P wx= .ok D wx)∧
   (∀ty,(Builtin.copy_ #[dT,sT] ty #[D, .string t]).run P w= .ok (.int .i64 (t.size:Int)) w')∧
   w'.heap[B]? =some (.cells (cur.toList.take p++t.data.toList.map Pl.zd6++cur.toList.drop (p+t.size)).toArray E (0,0))∧Below B w w':=by
 have ht:P.underlying dT=some (.slice (P.elem dT)):=by simp [Program.elem,hu]
 have he:P.elem dT=E:=by simp [Program.elem,hu]
 have hsl:∀wx,(Instr.slice dT (.slice (some ⟨B,0,none⟩) N N) (some (.int .i64 (p:Int))) none none).run P wx= .ok (sliced (some ⟨B,0,none⟩) p N N 1) wx:=by
  intro wx;have h:=run_slice_l (P:=P) wx dT (some ⟨B,0,none⟩) N N ht .i64 (p:Int) (by omega) (by omega);rw [h,he,hz];rfl
 by_cases hp:p=N
 ·subst hp;have h0:t.size=0:=by omega
  have hd:t.data=#[]:=Array.eq_empty_of_size_eq_zero h0;refine ⟨.slice (some ⟨B,0,none⟩) 0 0,w,?_,?_,?_,Below.refl _ _⟩
  ·intro wx;rw [hsl];simp [sliced]
  ·intro ty;simp [Builtin.copy_,run_underlying hu,Builtin.lenOf,Builtin.firstCells,hz,h0,goInt,storeCells]
  ·rw [hB,h0,hd];simp
 ·have hlt:p<N:=by omega
  have hlen:(t.data.toList.map Pl.zd6).length=t.size:=by rw [List.length_map];rfl
  have hst:=run_storeCells_at P B p E (t.data.toList.map Pl.zd6) 0 cur w hB (by rw [hlen];omega) (bytes_one _);rw [hlen] at hst;simp only [Nat.add_zero] at hst;refine ⟨.slice (some ⟨B,p,none⟩) (N - p) (N - p),_,?_,?_,setRow_heap w B cur _ E _ hB,?_⟩
  ·intro wx;rw [hsl];have h1:¬N=p:=fun h=>hp h.symm;simp [sliced,h1,add_lit]
  ·intro ty;have hmin:Nat.min t.size (N - p)=t.size:=Nat.min_eq_left (by omega)
   have htk:List.take t.size (List.map (fun b:UInt8=>Value.int IntKind.u8 (b.toNat:Int)) t.data.toList)=t.data.toList.map Pl.zd6:=by
    rw [List.take_of_length_le (by rw [List.length_map];exact Nat.le_refl _)];rfl
   simp [Builtin.copy_,run_underlying hu,Builtin.lenOf,Builtin.firstCells,hz,hmin]
   rw [htk,hst,List.append_assoc];rfl
  ·exact ⟨rfl,rfl,rfl,by simp,fun k hk=>setRow_other w B k _ (by omega)⟩
theorem own_mono {w:World} {B B' e size n:Nat} {v:Value} {xs:List Value} (h:w.ownsRow B e size v n xs) (hb:B'≤B):w.ownsRow B' e size v n xs:=by
 refine ⟨h.1,?_⟩
 rcases h.2 with h0|⟨g,cap,cur,hv,hg,rest⟩
 ·exact .inl h0
 ·exact .inr ⟨g,cap,cur,hv,Nat.le_trans hb hg,rest⟩
theorem za4 {w:World} {B e size n:Nat} {v:Value} {xs:List Value} (h:w.ownsRow B e size v n xs):∃a cap,v= .slice a n cap:=by
 rcases h.2 with ⟨rfl,rfl⟩|⟨g,cap,cur,rfl,_⟩
 ·exact ⟨_,_,rfl⟩
 ·exact ⟨_,_,rfl⟩
end Mem
end
section
open Go.RowKit
namespace Mem
def Blk (w:World) (X:Nat) (cs:Array Value) (T:TypeId):Prop:=w.heap[X]? =some (.cells cs T (0,0))
theorem Blk.lt {w:World} {X:Nat} {cs:Array Value} {T:TypeId} (h:Blk w X cs T):X<w.heap.size:=(Array.getElem?_eq_some_iff.1 h).1
theorem Blk.cell {w:World} {X:Nat} {cs:Array Value} {T:TypeId} (h:Blk w X cs T) (k:Nat):w.cell? ⟨X,k,none⟩=cs[k]?:=cell_of_row w X k cs T (0,0) h
theorem Blk.fr {w:World} {X:Nat} {cs:Array Value} {T:TypeId} (h:Blk w X cs T) (k:Nat):w.frozen? ⟨X,k,none⟩=false:=zb1 h
theorem Blk.call {w w':World} {X:Nat} {cs:Array Value} {T:TypeId} (h:Blk w X cs T) (b:Below w.heap.size w w'):Blk w' X cs T:=(b.block _ h.lt).trans h
theorem Blk.below {w w':World} {X B:Nat} {cs:Array Value} {T:TypeId} (h:Blk w X cs T) (b:Below B w w') (hX:X<B):Blk w' X cs T:=(b.block _ hX).trans h
theorem Blk.alloc {w:World} {X:Nat} {cs:Array Value} {T:TypeId} (h:Blk w X cs T) (o:Obj):Blk (w.alloc o) X cs T:=h.call ((Below.refl _ _).alloc (Nat.le_refl _) o)
theorem Blk.new (w:World) (cs:Array Value) (T:TypeId):Blk (w.alloc (.cells cs T)) w.heap.size cs T:=heap_alloc_new w _
theorem Blk.grown {w w':World} {X:Nat} {cs:Array Value} {T:TypeId} {r:Option Nat} (h:Blk w X cs T) (g:w.grownBy w' r) (hr:some X≠r):Blk w' X cs T:=(g.block _ h.lt hr).trans h
theorem Blk.put {w:World} {X:Nat} {cs:Array Value} {T:TypeId} (h:Blk w X cs T) (k:Nat) (v:Value):Blk (w.setCell ⟨X,k,none⟩ v) X (cs.setIfInBounds k v) T:=heap_setCell_same w X k cs T v h
theorem Blk.far {w:World} {X:Nat} {cs:Array Value} {T:TypeId} (h:Blk w X cs T) (a:Addr) (v:Value) (ha:X≠a.block):Blk (w.setCell a v) X cs T:=(heap_setCell_other w a X v ha).trans h
theorem zb8 {w w':World} (b:Below w.heap.size w w') (r:Option Nat):w.grownBy w' r:=⟨b.os,b.tape,b.output,b.size,fun j hj _=>b.block j hj⟩
theorem grown_trans {w v v':World} {r:Option Nat} (h:w.grownBy v r) (h':v.grownBy v' r):w.grownBy v' r:=
 ⟨h'.os.trans h.os,h'.tape.trans h.tape,h'.output.trans h.output,Nat.le_trans h.size h'.size,fun j hj hne=>(h'.block j (Nat.lt_of_lt_of_le hj h.size) hne).trans (h.block j hj hne)⟩
end Mem
end
section
open Go.RowKit
namespace WPick
theorem infoI:(Tryd.prog.info? 3).map (fun i=>(i.zero,i.size,i.bytes))=some (some (.int .i64 0),1,8):=by kernel_rfl
def intsV (ks:List Nat):List Value:=ks.map (fun k:Nat=>Value.int .i64 (k:Int))
def ownI (w:World) (B:Nat) (v:Value) (ks:List Nat):Prop:=w.ownsRow B 3 1 v ks.length (intsV ks)
theorem ownI_call {w w':World} {B:Nat} {v:Value} {ks:List Nat} (h:ownI w B v ks) (b:Below w.heap.size w w'):ownI w' B v ks:=by
 refine ⟨h.1,?_⟩
 rcases h.2 with h0|⟨g,cap,cur,hv,hb,hg,rest⟩
 ·exact .inl h0
 ·exact .inr ⟨g,cap,cur,hv,hb,(b.block g (Array.getElem?_eq_some_iff.1 hg).1).trans hg,rest⟩
theorem ownI_snoc {w:World} {B:Nat} {v:Value} {ks:List Nat} {k:Nat} (h:w.ownsRow B 3 1 v (ks.length+1) (intsV ks++[.int .i64 (k:Int)])):ownI w B v (ks++[k]):=by
 unfold ownI intsV;rw [List.map_append,List.length_append];exact h
end WPick
end
section
open Go.RowKit
namespace WPick
set_option linter.unusedSimpArgs false in
set_option maxRecDepth 100000 in
set_option maxHeartbeats 1000000 in
theorem all_any (n:Nat) (w:World) (hn:n≤4):
  Calls Tryd.prog 41 #[.int .i64 (n:Int)] w fun e w'=>∃v,e= .returned v∧ownI w' w.heap.size v (List.range n)∧Below w.heap.size w w':=by
 obtain ⟨i0,hi,hz0,hz1,hz2⟩:=info_parts infoI;have A0:Hid (Below w.heap.size w (w.alloc (.cells #[] 3))∧ownI (w.alloc (.cells #[] 3)) w.heap.size (.slice (some ⟨w.heap.size,0,none⟩) 0 0) (List.range 0)):=⟨(Below.refl _ _).alloc (Nat.le_refl _) _,⟨rfl, .inr ⟨w.heap.size,0,#[],rfl,Nat.le_refl _,heap_alloc_new _ _,Nat.le_refl _,Nat.zero_le _,rfl,rfl⟩⟩⟩;go_enter Tryd.func41,Tryd.ntmps41
 go_wp2
 go_loopw [3,4] (fun v i wr=>∃k:Nat,k≤n∧i= .int .i64 (k:Int)∧Hid (Below w.heap.size w wr∧ownI wr w.heap.size v (List.range k))) (fun _ i _=>n - (intOf i).toNat)
 case atStart=>exact ⟨0,Nat.zero_le _,rfl,A0⟩
 case round=>
  obtain ⟨k,hk,rfl,HA⟩:=hrel;clear A0;by_cases hlt:k<n
  ·have y1:(k:Int)<(n:Int):=by omega
   have bA:Below wr.heap.size wr (wr.alloc (.cells #[.int .i64 (k:Int)] 3)):=(Below.refl _ _).alloc (Nat.le_refl _) _;have HR:=hide (ownI_call (za HA).2 bA);have HQ:=hide (fun w2 h2=>Mem.zg9 (o:= .cells #[.int .i64 (k:Int)] 3) (w1:=w2) (za HA).1 (Nat.le_refl _) (za HA).2 h2);have HSB:=hide (za HA).1.size;unfold ownI at HR;rw [List.length_range] at HR;clear HA bA;go_wp2_with (at_builtin;refine wpList_append_own _ rfl _ _ 69 rfl w.heap.size 3 i0 (.int .i64 0) 1 8 Tryd.underlying69 hi hz0 hz1 hz2 rfl (by decide) _ _ _ rfl (za HR) ⟨wr.heap.size,0,none⟩ 1 1 [.int .i64 (k:Int)] rfl rfl (Mem.zo0 _ _ _) (fun u hu=>by simp at hu;subst hu;rfl) (by unfold maxLen;omega) (by omega) (by have :=za HSB;simp;omega) ?_)
   intro v' w2 own' hgrow _;have A2:Hid (Below w.heap.size w w2∧ownI w2 w.heap.size v' (List.range (k+1))):=⟨za HQ w2 hgrow,by rw [List.range_succ];exact ownI_snoc (by rw [List.length_range];exact own')⟩;clear HR HQ own' hgrow HSB;go_wp2
   go_roundw
   case rel=>exact ⟨k+1,by omega,by go_num,A2⟩
   case measure=>simp [intOf];omega
  ·obtain rfl:k=n:=by omega
   have y1:¬ ((k:Int)<(k:Int)):=by omega
   go_wp2
   go_ret
   exact ⟨_,rfl,(za HA).2,(za HA).1⟩
end WPick
end
section
open Go.RowKit
theorem kBs {α:Type}:(∀ (xs:List α) (i:Nat) (h:i<xs.toArray.size),xs.toArray[i]=xs[i]'(by simpa using h))∧(∀ (a:α) (as':List α) (h:0<(a::as').length),(a::as')[0]=a)∧(∀ (a:α) (as':List α) (i:Nat) (h:i+1<(a::as').length),(a::as')[i+1]=as'[i]'(by simpa using h))∧
  (∀ (l:List α) (i:Nat) (a:α),l.toArray.setIfInBounds i a=(l.set i a).toArray)∧(∀ (x a:α) (xs:List α),(x::xs).set 0 a=a::xs)∧(∀ (x a:α) (xs:List α) (n:Nat),(x::xs).set (n+1) a=x::xs.set n a):=
 ⟨fun _ _ _=>rfl,fun _ _ _=>rfl,fun _ _ _ _=>rfl,fun _ _ _=>List.setIfInBounds_toArray ..,fun _ _ _=>rfl,fun _ _ _ _=>rfl⟩
theorem kGs {α:Type}:(∀ (l:List α) (i:Nat),l.toArray[i]? =l[i]?)∧(∀ (a:α) (l:List α),(a::l)[0]? =some a)∧(∀ (a:α) (l:List α) (i:Nat),(a::l)[i+1]? =l[i]?):=
 ⟨fun _ _=>List.getElem?_toArray ..,fun _ _=>List.getElem?_cons_zero ..,fun _ _ _=>List.getElem?_cons_succ ..⟩
end
section
open Go.RowKit
theorem TB {P:Program} {md:Region.Mode} {ops:Array Oper} {Q:Exit→Act→World→Prop} {S:World→Prop} {oi:Oper} {v:Value} {fuel:Nat} {listed l2:Array Bool} {a a2:Act} {w:World} (i:Nat)
  (h:wpAnyH P md ops Q S fuel l2 a2 w) (hi:ops[i]? =some oi:=by exact rfl)
  (hs:Region.noSelect ops=true:=by kernel_rfl) (hf:Region.free md ops listed i=true:=by kernel_rfl) (hr:(Region.ready md ops listed).contains i=true:=by kernel_rfl)
  (hw:Region.wanted oi (yielded ops a.tmps)=true:=by first |kernel_rfl|rfl)
  (hy:∀w,S w→(execOp a.eval oi).run P w= .ok (.value v) w:=by (intro w hSw;(try dsimp only at hSw);go_simp;(try with_reducible rfl)))
  (hl:listed.setIfInBounds i true=l2:=by ((try simp only [kBs]);exact rfl)) (hp:a.put oi.dst v=a2:=by ((try simp only [Act.put,kBs]);exact rfl))
  (hQ:∀c a w,Q (.panic c) (a.put oi.dst v) w→Q (.panic c) a w:=by first |exact fun _ _ _ h=>h|exact fun _ _ _ h=>nomatch h.1) (hS:S w:=by assumption):wpAnyH P md ops Q S (fuel+1) listed a w:=by
 subst hl;subst hp;exact wpAnyH_take hi hs hf hr hQ (Or.inl ⟨hw,hy⟩) hS h
theorem TC {P:Program} {md:Region.Mode} {ops:Array Oper} {Q:Exit→Act→World→Prop} {S:World→Prop} {oi:Oper} {fuel:Nat} {listed l2:Array Bool} {a a2:Act} {w:World} (i:Nat)
  (h:wpAnyH P md ops Q S fuel l2 a2 w) (hi:ops[i]? =some oi:=by exact rfl)
  (hs:Region.noSelect ops=true:=by kernel_rfl) (hf:Region.free md ops listed i=true:=by kernel_rfl) (hr:(Region.ready md ops listed).contains i=true:=by kernel_rfl)
  (hw:Region.wanted oi (yielded ops a.tmps)=false:=by first |kernel_rfl|rfl)
  (hl:listed.setIfInBounds i true=l2:=by ((try simp only [kBs]);exact rfl)) (hp:a.put oi.dst undef=a2:=by ((try simp only [Act.put,kBs]);exact rfl))
  (hQ:∀c a w,Q (.panic c) (a.put oi.dst undef) w→Q (.panic c) a w:=by first |exact fun _ _ _ h=>h|exact fun _ _ _ h=>nomatch h.1) (hS:S w:=by assumption):wpAnyH P md ops Q S (fuel+1) listed a w:=by
 subst hl;subst hp;exact wpAnyH_take hi hs hf hr hQ (Or.inr ⟨hw,rfl⟩) hS h
theorem bD {n:Nat} (w:World):Below n w w.drew:=⟨rfl,rfl,rfl,Nat.le_refl _,fun _ _=>rfl⟩
theorem RN {P:Program} {md:Region.Mode} {ops:Array Oper} {Q:Exit→Act→World→Prop} {S:World→Prop} {o:Oper} {fuel:Nat} {listed:Array Bool} {a:Act} {w:World} (i:Nat)
  (h:∀K':Act→World→Prop,Shut (∀a w,S w→(S w→wpAnyH P md ops Q S fuel (listed.setIfInBounds i true) a w)→K' a w)→if Region.wanted o (yielded ops a.tmps)=true then Oper.wp P o a w K' Q else K' (a.put o.dst undef) w)
  (ho:ops[i]? =some o:=by exact rfl) (hr:Region.ready md ops listed=[i]:=by kernel_rfl):wpAnyH P md ops Q S (fuel+1) listed a w:=
 wpAnyH_ready hr (by simp) (AllReadyH.cons ho h AllReadyH.nil)
theorem RG {P:Program} {ops:Array Oper} {Q:Exit→Act→World→Prop} {S:World→Prop} {id B:Nat} {a:Act} {w w0:World} (MK:Hid (∀W',Below B w0 W'→S W')) (b:Below B w0 w.drew)
  (h:S w.drew→wpAnyH P .any ops Q S ops.size (Array.replicate ops.size false) a w.drew) (hm:P.follows .mixedOrders=true:=by kernel_rfl):(Code.region id ops true).wp P Q a w:=
 wp_region_held_drew hm (MK _ b) h
end
section
open Go.RowKit
namespace Mem
def Var (w:World) (B:Nat) (cs:List Value):Prop:=B<w.heap.size∧∀ (j:Nat) v,cs[j]? =some v→w.cell? ⟨B,j,none⟩=some v
theorem zi8 {w w':World} {B:Nat} {cs:List Value} (h:Var w B cs) (b:Below w.heap.size w w'):Var w' B cs:=
 ⟨Nat.lt_of_lt_of_le h.1 b.size,fun j v hv=>(b.cell (p:=⟨B,j,none⟩) h.1).trans (h.2 j v hv)⟩
theorem ze5 (w:World) (cs:List Value) (T:TypeId):Var (w.alloc (.cells cs.toArray T)) w.heap.size cs:=
 ⟨by simp,fun j v hv=>by rw [cell_of_row _ _ j _ T (0,0) (heap_alloc_new w _)];simpa using hv⟩
theorem var_alloc {w:World} {B:Nat} {cs:List Value} (h:Var w B cs) (o:Obj):Var (w.alloc o) B cs:=
 zi8 h ((Below.refl _ _).alloc (Nat.le_refl _) o)
theorem zl8 (w:World) (o1 o2:Obj):((w.alloc o1).alloc o2).heap[w.heap.size+1]? =some o2:=by
 have h:=heap_alloc_new (w.alloc o1) o2
 rwa [show (w.alloc o1).heap.size=w.heap.size+1 by simp] at h
theorem zn4 (w:World) (o1 o2 o3:Obj):(((w.alloc o1).alloc o2).alloc o3).heap[w.heap.size+1]? =some o2:=
 ((World.grownBy_alloc ((w.alloc o1).alloc o2) o3 none).block (w.heap.size+1) (by simp) (by simp)).trans (zl8 w o1 o2)
theorem zk0 (w:World) (o1 o2 o3:Obj):(((w.alloc o1).alloc o2).alloc o3).heap[w.heap.size+1+1]? =some o3:=by
 have h:=heap_alloc_new ((w.alloc o1).alloc o2) o3
 rwa [show ((w.alloc o1).alloc o2).heap.size=w.heap.size+1+1 by simp] at h
end Mem
end
section
open Go.RowKit
namespace Mem
theorem step_append_own {P:Program} {ops:Array Oper} {o:Oper} {a:Act} {w:World} {K:Act→World→Prop} {Q:Exit→Act→World→Prop} {E:Prop}
  (hg:o.guard=none) (s x:Operand) (t:TypeId) (hop:o.op=Op.call { callee:=Callee.builtin Builtin.append,args:=#[s,x],argTypes:=#[t,t] })
  (base:Nat) (e:TypeId) (i:TypeInfo) (z:Value) (size bytes:Nat) (h1:P.underlying t=some (.slice e)) (h2:P.info? e=some i) (h3:i.zero=some z) (h4:i.size=size) (h5:i.bytes=bytes) (h6:z.cells.size=size) (h7:0<size)
  (v:Value) (n:Nat) (xs:List Value) (hs:a.eval s=v) (hown:w.ownsRow base e size v n xs)
  (ad:Addr) (m c:Nat) (news:List Value) (hx:a.eval x= .slice (some ad) m c) (hn:news.length=m*size) (hc:∀j u,news[j]? =some u→w.cell? (ad.add j)=some u) (h1c:∀u∈news,u.oneCell'=true)
  (b1:n+m≤maxLen) (b2:(n+m)*bytes≤140737488355328) (hbase:base≤w.heap.size)
  (hK:∀v' w',w'.ownsRow base e size v' (n+m) (xs++news)→w.grownBy w' v.ownBlock→K (a.put o.dst v') w'):
  if Region.wanted o (yielded ops a.tmps)=true then Oper.wp P o a w K Q else E:=by
 have hw:Region.wanted o (yielded ops a.tmps)=true:=by simp [Region.wanted,hg]
 rw [if_pos hw];obtain ⟨v',w',hrun,r1,r2,_⟩:=run_append_own (P:=P) w base t o.type e i z size bytes h1 h2 h3 h4 h5 h6 h7 v n xs hown ad m c news hn hc h1c b1 b2 hbase;unfold Oper.wp;simp [execOp,hop,resolve,invoke,builtin,hs,hx,hrun,Result.andThen]
 exact hK v' w' r1 r2
end Mem
end
section
open Go.RowKit
namespace WPick
set_option maxRecDepth 100000 in
theorem max_any (x y:Int) (w:World):Calls Tryd.prog 59 #[.int .i64 x, .int .i64 y] w fun e w'=>e= .returned (.int .i64 (max x y))∧w'=w:=by
 by_cases h:y<x
 ·go_enter Tryd.func59,Tryd.ntmps59
  go_wp2
  go_ret
  exact ⟨by rw [show max x y=x by omega];rfl,rfl⟩
 ·go_enter Tryd.func59,Tryd.ntmps59
  go_wp2
  go_ret
  exact ⟨by rw [show max x y=y by omega];rfl,rfl⟩
end WPick
end
end Go.Proofs.YtpakookhgpphaaaDoor
