/- Several texts of one claim in one file: WLawJ, MemCop3, MemSpace, WLawTo, WLawY. -/
import Derived.Test.YtonffldjbmednaaGreatDoorG02
namespace Go.Proofs.YtonffldjbmednaaGreatDoor
section
set_option linter.unusedSimpArgs false
open Go.RowKit
namespace WLaw
set_option maxRecDepth 100000 in
theorem zv8 (x:Pl.It) (w:World) (hl:x.t.L.length≤1048576) (hv:Mem.za7 w x.t.a x.t.L):
  Calls Tryz.prog 128 #[.agg #[.int .i64 x.m, .slice x.t.a x.t.L.length x.t.cap]] w fun e w'=>∃g,e= .returned (.agg #[.int .i64 x.m, .slice (some ⟨g,0,none⟩) x.t.L.length x.t.L.length])∧w.heap.size≤g∧Mem.za7 w' (some ⟨g,0,none⟩) x.t.L∧Below w.heap.size w w':=by
 obtain ⟨m,a,cap,L⟩:=x;simp only at hl hv ⊢;have b0:Below w.heap.size w (((w.alloc (.cells #[.int .i64 m, .slice a L.length cap] 181)).alloc (.cells #[.int .i64 0, .slice none 0 0] 151)).alloc (.cells #[.int .i64 m, .slice none 0 0] 151)):=(((Below.refl _ _).alloc (Nat.le_refl _) _).alloc (by simp) _).alloc (by simp;omega) _;have hz:=hide (ya3 a cap L _ hl (Mem.za8 hv b0));have hs:(((w.alloc (.cells #[.int .i64 m, .slice a L.length cap] 181)).alloc (.cells #[.int .i64 0, .slice none 0 0] 151)).alloc (.cells #[.int .i64 m, .slice none 0 0] 151)).heap.size=w.heap.size+1+1+1:=by simp
 have r1:Mem.Blk (((w.alloc (.cells #[.int .i64 m, .slice a L.length cap] 181)).alloc (.cells #[.int .i64 0, .slice none 0 0] 151)).alloc (.cells #[.int .i64 m, .slice none 0 0] 151)) (w.heap.size+1) #[.int .i64 0, .slice none 0 0] 151:=Mem.zn4 w _ _ _;have r2:Mem.Blk (((w.alloc (.cells #[.int .i64 m, .slice a L.length cap] 181)).alloc (.cells #[.int .i64 0, .slice none 0 0] 151)).alloc (.cells #[.int .i64 m, .slice none 0 0] 151)) (w.heap.size+1+1) #[.int .i64 m, .slice none 0 0] 151:=Mem.zk0 w _ _ _;have HB0:=hide b0;clear hv b0;go_enter Tryz.func128,Tryz.ntmps128
 go_wp2_with fail
 generalize (((w.alloc (.cells #[.int .i64 m, .slice a L.length cap] 181)).alloc (.cells #[.int .i64 0, .slice none 0 0] 151)).alloc (.cells #[.int .i64 m, .slice none 0 0] 151))=w3 at hz hs r1 r2 HB0 ⊢;refine (za hz).mono ?_;rintro e w1 ⟨g,rfl,hg, -,hn,b1⟩;have R1:=r1.call b1;have R2:=r2.call b1;have c10:=R1.cell 0;have c11:=R1.cell 1;have c20:=R2.cell 0;have c21:=R2.cell 1;have f10:=R1.fr 0;have f11:=R1.fr 1;have f20:=R2.fr 0;have f21:=R2.fr 1;simp only [kGs] at c10 c11 c20 c21;have bb:=hide ((za HB0).trans (b1.mono (za HB0).size));have HG:Hid (w.heap.size+1+1+1≤g):=hide (by omega);have HN:=hide hn;clear hz b1 hn hs r1 r2 R1 R2 HB0 hg;go_wp2
 have hg:=za HG;refine bodyPost_ret (v:= .agg #[.int .i64 m, .slice (some ⟨g,0,none⟩) L.length L.length]) (by simp [results,Tryz.results128,go_sem,c10,c11]) rfl ⟨g,rfl,by omega,?_,?_⟩
 ·exact Mem.zd7 (Mem.zd7 (Mem.zd7 (za HN) _ _ (by show w.heap.size+1+1≠g;omega)) _ _ (by show w.heap.size+1≠g;omega)) _ _ (by show w.heap.size+1≠g;omega)
 ·exact (((za bb).setCell (by show w.heap.size≤w.heap.size+1+1;omega) _).setCell (by show w.heap.size≤w.heap.size+1;omega) _).setCell (by show w.heap.size≤w.heap.size+1;omega) _
def zo8 (n:Nat):Array Value:=madeCells (Value.agg #[.int .i64 0, .slice none 0 0]).cells (n*2)
theorem zt2 (n:Nat):(zo8 n).size=n*2:=size_madeCells _ _
theorem infoI:(Tryz.prog.info? 151).map (fun i=>(i.zero,i.size,i.bytes))=some (some (.agg #[.int .i64 0, .slice none 0 0]),2,32):=by kernel_rfl
theorem makeI (n:Nat) (hn:n≤1048576) (w:World):(Instr.makeSlice 101 (.int .i64 (n:Int)) (.int .i64 (n:Int))).run Tryz.prog w= .ok (.slice (some ⟨w.heap.size,0,none⟩) n n) (w.alloc (.cells (zo8 n) 151)):=by
 obtain ⟨i0,h0,h1,h2,h3⟩:=info_parts infoI;have h:=run_make (P:=Tryz.prog) w 101 151 i0 (.agg #[.int .i64 0, .slice none 0 0]) Tryz.underlying101 h0 h1 .i64 .i64 (n:Int) (n:Int) (by omega) (Int.le_refl _) (by rw [h3];omega) (by omega);rw [h,h2];simp [zo8]
structure CopI (w wr:World) (Ts D:List Pl.It) (cur:Array Value):Prop where
 blk:wr.heap[w.heap.size]? =some (.cells cur 151 (0,0))
 size:cur.size=Ts.length*2
 same:D.map Pl.It.r=(Ts.take D.length).map Pl.It.r
 each:∀ (j:Nat) t,D[j]? =some t→cur[j*2]? =some (.int .i64 t.m)∧cur[j*2+1]? =some t.t.val∧∃g,t.t.a=some ⟨g,0,none⟩∧w.heap.size<g∧Mem.za7 wr t.t.a t.t.L
theorem CopI.call {w wr W:World} {Ts D:List Pl.It} {cur:Array Value} (h:CopI w wr Ts D cur) (b:Below wr.heap.size wr W):CopI w W Ts D cur:=
 ⟨(b.block _ (Array.getElem?_eq_some_iff.1 h.blk).1).trans h.blk,h.size,h.same,fun j t hj=>⟨(h.each j t hj).1,(h.each j t hj).2.1,by
  obtain ⟨g,h1,h2,h3⟩:=(h.each j t hj).2.2
  exact ⟨g,h1,h2,Mem.za8 h3 b⟩⟩⟩
theorem CopI.put {w wr:World} {Ts D:List Pl.It} {cur:Array Value} (h:CopI w wr Ts D cur) (t:Pl.It) (g:Nat) (hk:Ts[D.length]? =some t) (hg:w.heap.size<g) (hn:Mem.za7 wr (some ⟨g,0,none⟩) t.t.L):
  CopI w ((wr.setCell ⟨w.heap.size,D.length*2,none⟩ (.int .i64 t.m)).setCell ⟨w.heap.size,D.length*2+1,none⟩ (.slice (some ⟨g,0,none⟩) t.t.L.length t.t.L.length)) Ts (D++[⟨t.m,some ⟨g,0,none⟩,t.t.L.length,t.t.L⟩]) ((cur.setIfInBounds (D.length*2) (.int .i64 t.m)).setIfInBounds (D.length*2+1) (.slice (some ⟨g,0,none⟩) t.t.L.length t.t.L.length)):=by
 have hlt:=(List.getElem?_eq_some_iff.1 hk).1;have hsz:=h.size;refine ⟨heap_setCell_same _ _ _ _ _ _ (heap_setCell_same _ _ _ _ _ _ h.blk),by simpa using h.size,?_,fun j m hj=>?_⟩
 ·rw [List.length_append,List.length_singleton,List.take_add_one,hk,List.map_append,List.map_append,h.same];rfl
 ·by_cases e:j<D.length
  ·rw [List.getElem?_append_left e] at hj;obtain ⟨h1,h1',g',h2,h3,h4⟩:=h.each j m hj;refine ⟨by rw [Array.getElem?_setIfInBounds,if_neg (by omega),Array.getElem?_setIfInBounds,if_neg (by omega)];exact h1,by rw [Array.getElem?_setIfInBounds,if_neg (by omega),Array.getElem?_setIfInBounds,if_neg (by omega)];exact h1',g',h2,h3,?_⟩;rw [h2] at h4 ⊢;exact Mem.zd7 (Mem.zd7 h4 _ _ (by show w.heap.size≠g';omega)) _ _ (by show w.heap.size≠g';omega)
  ·rw [List.getElem?_append_right (by omega)] at hj
   have hj0:j=D.length:=by
    have :=(List.getElem?_eq_some_iff.1 hj).1;simp at this;omega
   subst hj0;simp at hj
   subst hj;refine ⟨?_,?_,g,rfl,hg,Mem.zd7 (Mem.zd7 hn _ _ (by show w.heap.size≠g;omega)) _ _ (by show w.heap.size≠g;omega)⟩
   ·rw [Array.getElem?_setIfInBounds,if_neg (by omega),Array.getElem?_setIfInBounds,if_pos rfl,if_pos (by omega)]
   ·rw [Array.getElem?_setIfInBounds,if_pos rfl,if_pos (by rw [Array.size_setIfInBounds];omega)];rfl
theorem CopI.items {w wr:World} {Ts D:List Pl.It} {cur:Array Value} (h:CopI w wr Ts D cur):Mem.zb0 wr (some ⟨w.heap.size,0,none⟩) D:=fun i t hi=>by
 obtain ⟨h1,h1',g,h2,h3,h4⟩:=h.each i t hi;refine ⟨⟨_,0,rfl,(Array.getElem?_eq_some_iff.1 h.blk).1,?_,?_⟩,h4⟩
 ·rw [cell_of_row wr _ _ _ _ (0,0) h.blk,Nat.zero_add];exact h1
 ·rw [cell_of_row wr _ _ _ _ (0,0) h.blk,Nat.zero_add];exact h1'
set_option maxRecDepth 100000 in
set_option maxHeartbeats 800000 in
theorem zt (a:Option Addr) (cap:Nat) (Ts:List Pl.It) (w:World) (hl:Ts.length≤1048576) (hv:Mem.zb0 w a Ts) (hok:∀t∈Ts,t.t.L.length≤1048576):
  Calls Tryz.prog 105 #[.slice a Ts.length cap] w fun e w'=>e= .returned (.slice (some ⟨w.heap.size,0,none⟩) Ts.length Ts.length)∧(∃D cur,D.length=Ts.length∧CopI w w' Ts D cur)∧Below w.heap.size w w':=by
 have HV:=hide hv;have HO:=hide hok;have hmk:=makeI Ts.length hl w;clear hv hok;go_enter Tryz.func105,Tryz.ntmps105
 go_wp2
 go_loopw [4] (fun i wr=>∃ (D:List Pl.It) (cur:Array Value),D.length≤Ts.length∧i= .int .i64 (D.length:Int)∧Below w.heap.size w wr∧Hid (CopI w wr Ts D cur)) (fun i _=>Ts.length - (intOf i).toNat)
 case atStart=>exact ⟨[],zo8 Ts.length,Nat.zero_le _,rfl,(Below.refl _ _).alloc (Nat.le_refl _) _,hide ⟨heap_alloc_new w _,zt2 _,rfl,fun j t h=>by simp at h⟩⟩
 case round=>
  obtain ⟨D,cur,hk,rfl,hbel,HC⟩:=hrel;by_cases hlt:D.length<Ts.length
  ·obtain ⟨t,ht⟩:∃t,Ts[D.length]? =some t:=⟨_,List.getElem?_eq_getElem hlt⟩;obtain ⟨⟨b,o,rfl,hb,q0,q0'⟩,q1⟩:=(za HV) D.length t ht;have c0:=(hbel.cell (p:=⟨b,_,none⟩) hb).trans q0;have c1:=(hbel.cell (p:=⟨b,_,none⟩) hb).trans q0';have hz:=hide (fun W (b:Below w.heap.size w W)=>zv8 t W (za HO t (List.mem_of_getElem? ht)) (Mem.za8 q1 b));have HN:=hide ht;have u1:(D.length:Int)<(Ts.length:Int):=by omega
   have u3:(0:Int)≤(D.length:Int):=by omega
   simp only [Pl.Tr.val] at c1;clear q0 q0' ht q1;go_wp2_with fail
   refine (za hz _ hbel).mono ?_;rintro e w1 ⟨g,rfl,hg,hn,b1⟩;have hgw:w.heap.size<g:=by have :=(Array.getElem?_eq_some_iff.1 (za HC).blk).1;omega
   have C1:=(za HC).call b1;have hb2:=hbel.trans (b1.mono hbel.size);have hcs:=C1.size;obtain ⟨x0,s0⟩:∃x,w1.cell? ⟨w.heap.size,D.length*2,none⟩=some x:=⟨_,(cell_of_row w1 _ (D.length*2) _ _ (0,0) C1.blk).trans (Array.getElem?_eq_getElem (by omega))⟩;obtain ⟨x1,s1⟩:∃x,w1.cell? ⟨w.heap.size,D.length*2+1,none⟩=some x:=⟨_,(cell_of_row w1 _ (D.length*2+1) _ _ (0,0) C1.blk).trans (Array.getElem?_eq_getElem (by omega))⟩;have f0:w1.frozen? ⟨w.heap.size,D.length*2,none⟩=false:=Mem.zb1 C1.blk;have f1:w1.frozen? ⟨w.heap.size,D.length*2+1,none⟩=false:=Mem.zb1 C1.blk;have HC2:=hide (C1.put t g (za HN) hgw hn);have HB2:=hide hb2;clear b1 hbel hz HC C1 hn hg hb2 hcs;go_wp2
   go_roundw
   case rel=>exact ⟨_,_,by rw [List.length_append,List.length_singleton];omega,by rw [List.length_append,List.length_singleton];go_num,((za HB2).setCell (Nat.le_refl _) _).setCell (Nat.le_refl _) _,HC2⟩
   case measure=>simp [intOf];omega
  ·have u1:¬ (D.length:Int)<(Ts.length:Int):=by omega
   go_wp2
   go_ret
   exact ⟨rfl,⟨D,by omega,cur,za HC⟩,hbel⟩
theorem zy4 (a:Option Addr) (cap:Nat) (Ts:List Pl.It) (w:World) (hl:Ts.length≤1048576) (hv:Mem.zb0 w a Ts) (hok:∀t∈Ts,t.t.L.length≤1048576):
  Calls Tryz.prog 105 #[.slice a Ts.length cap] w fun e w'=>∃g D,e= .returned (.slice (some ⟨g,0,none⟩) Ts.length Ts.length)∧w.heap.size≤g∧D.length=Ts.length∧D.map Pl.It.r=Ts.map Pl.It.r∧Mem.zb0 w' (some ⟨g,0,none⟩) D∧Below w.heap.size w w':=
 (zt a cap Ts w hl hv hok).mono fun _ _ ⟨he,⟨D,cur,hD,hC⟩,b⟩=>⟨_,D,he,Nat.le_refl _,hD,by rw [hC.same,hD,List.take_length],hC.items,b⟩
end WLaw
end
section
open Go.RowKit
namespace Mem
structure Cop3 {α:Type} (T:TypeId) (f0 f1 f2:α→Value) (w wr:World) (n:Nat) (D:List α) (cur:Array Value):Prop where
 blk:wr.heap[w.heap.size]? =some (.cells cur T (0,0))
 size:cur.size=n*3
 each:∀ (j:Nat) x,D[j]? =some x→cur[j*3]? =some (f0 x)∧cur[j*3+1]? =some (f1 x)∧cur[j*3+2]? =some (f2 x)
theorem Cop3.call {α:Type} {T:TypeId} {f0 f1 f2:α→Value} {w wr W:World} {n:Nat} {D:List α} {cur:Array Value} (h:Cop3 T f0 f1 f2 w wr n D cur) (b:Below wr.heap.size wr W):Cop3 T f0 f1 f2 w W n D cur:=
 ⟨(b.block _ (Array.getElem?_eq_some_iff.1 h.blk).1).trans h.blk,h.size,h.each⟩
theorem Cop3.put {α:Type} {T:TypeId} {f0 f1 f2:α→Value} {w wr:World} {n:Nat} {D:List α} {cur:Array Value} (h:Cop3 T f0 f1 f2 w wr n D cur) (x:α) (hk:D.length<n):
  Cop3 T f0 f1 f2 w (((wr.setCell ⟨w.heap.size,D.length*3,none⟩ (f0 x)).setCell ⟨w.heap.size,D.length*3+1,none⟩ (f1 x)).setCell ⟨w.heap.size,D.length*3+2,none⟩ (f2 x)) n (D++[x]) (((cur.setIfInBounds (D.length*3) (f0 x)).setIfInBounds (D.length*3+1) (f1 x)).setIfInBounds (D.length*3+2) (f2 x)):=by
 have hs:=h.size;refine ⟨heap_setCell_same _ _ _ _ _ _ (heap_setCell_same _ _ _ _ _ _ (heap_setCell_same _ _ _ _ _ _ h.blk)),by simpa using h.size,fun j y hj=>?_⟩;by_cases e:j<D.length
 ·rw [List.getElem?_append_left e] at hj;obtain ⟨h1,h2,h3⟩:=h.each j y hj;refine ⟨?_,?_,?_⟩
  ·rw [Array.getElem?_setIfInBounds,if_neg (by omega),Array.getElem?_setIfInBounds,if_neg (by omega),Array.getElem?_setIfInBounds,if_neg (by omega)];exact h1
  ·rw [Array.getElem?_setIfInBounds,if_neg (by omega),Array.getElem?_setIfInBounds,if_neg (by omega),Array.getElem?_setIfInBounds,if_neg (by omega)];exact h2
  ·rw [Array.getElem?_setIfInBounds,if_neg (by omega),Array.getElem?_setIfInBounds,if_neg (by omega),Array.getElem?_setIfInBounds,if_neg (by omega)];exact h3
 ·rw [List.getElem?_append_right (by omega)] at hj
  have hj0:j=D.length:=by
   have :=(List.getElem?_eq_some_iff.1 hj).1;simp at this;omega
  subst hj0;simp at hj
  subst hj;refine ⟨?_,?_,?_⟩
  ·rw [Array.getElem?_setIfInBounds,if_neg (by omega),Array.getElem?_setIfInBounds,if_neg (by omega),Array.getElem?_setIfInBounds,if_pos rfl,if_pos (by omega)]
  ·rw [Array.getElem?_setIfInBounds,if_neg (by omega),Array.getElem?_setIfInBounds,if_pos rfl,if_pos (by rw [Array.size_setIfInBounds];omega)]
  ·rw [Array.getElem?_setIfInBounds,if_pos rfl,if_pos (by rw [Array.size_setIfInBounds,Array.size_setIfInBounds];omega)]
theorem Cop3.cell {α:Type} {T:TypeId} {f0 f1 f2:α→Value} {w wr:World} {n:Nat} {D:List α} {cur:Array Value} (h:Cop3 T f0 f1 f2 w wr n D cur) {k:Nat} (hk:k<n*3):(∃x,wr.cell? ⟨w.heap.size,k,none⟩=some x)∧wr.frozen? ⟨w.heap.size,k,none⟩=false:=
 ⟨⟨_,(cell_of_row wr _ k _ _ (0,0) h.blk).trans (Array.getElem?_eq_getElem (by have :=h.size;omega))⟩,zb1 h.blk⟩
theorem Cop3.got {α:Type} {T:TypeId} {f0 f1 f2:α→Value} {w wr:World} {n:Nat} {D:List α} {cur:Array Value} (h:Cop3 T f0 f1 f2 w wr n D cur) {i:Nat} {x:α} (hi:D[i]? =some x):w.heap.size<wr.heap.size∧wr.cell? ⟨w.heap.size,0+i*3,none⟩=some (f0 x)∧wr.cell? ⟨w.heap.size,0+i*3+1,none⟩=some (f1 x)∧wr.cell? ⟨w.heap.size,0+i*3+2,none⟩=some (f2 x):=by
 obtain ⟨h1,h2,h3⟩:=h.each i x hi;refine ⟨(Array.getElem?_eq_some_iff.1 h.blk).1,?_,?_,?_⟩
 ·rw [cell_of_row wr _ _ _ _ (0,0) h.blk,Nat.zero_add];exact h1
 ·rw [cell_of_row wr _ _ _ _ (0,0) h.blk,Nat.zero_add];exact h2
 ·rw [cell_of_row wr _ _ _ _ (0,0) h.blk,Nat.zero_add];exact h3
end Mem
end
section
open Go.RowKit
namespace Pl
structure Mn where
 p:ByteArray
 i:Int
 z:Bool
structure Hn where
 d:Int
 i:Int
 p:ByteArray
structure Ns where
 d:Int
 a:Option Addr
 cap:Nat
 Is:List It
def Ns.r (x:Ns):Int × List (Int × List Nd):=(x.d,x.Is.map It.r)
structure Sp where
 ia:Option Addr
 ic:Nat
 N:List Ns
 ma:Option Addr
 mc:Nat
 M:List Mn
 ha:Option Addr
 hc:Nat
 H:List Hn
 next :Int
def Sp.cs (s:Sp):Array Value:=#[.slice s.ia s.N.length s.ic, .slice s.ma s.M.length s.mc, .slice s.ha s.H.length s.hc, .int .i64 s.next]
end Pl
namespace Mem
def zb2 (w:World) (a:Option Addr) (L:List Pl.Mn):Prop:=
 ∀ (i:Nat) x,L[i]? =some x→∃b o,a=some ⟨b,o,none⟩∧b<w.heap.size∧w.cell? ⟨b,o+i*3,none⟩=some (.string x.p)∧w.cell? ⟨b,o+i*3+1,none⟩=some (.int .i64 x.i)∧w.cell? ⟨b,o+i*3+2,none⟩=some (.bool x.z)
def zb9 (w:World) (a:Option Addr) (L:List Pl.Hn):Prop:=
 ∀ (i:Nat) x,L[i]? =some x→∃b o,a=some ⟨b,o,none⟩∧b<w.heap.size∧w.cell? ⟨b,o+i*3,none⟩=some (.int .i64 x.d)∧w.cell? ⟨b,o+i*3+1,none⟩=some (.int .i64 x.i)∧w.cell? ⟨b,o+i*3+2,none⟩=some (.string x.p)
def ze4 (w:World) (a:Option Addr) (L:List Pl.Ns):Prop:=
 ∀ (i:Nat) x,L[i]? =some x→(∃b o,a=some ⟨b,o,none⟩∧b<w.heap.size∧w.cell? ⟨b,o+i*2,none⟩=some (.int .i64 x.d)∧w.cell? ⟨b,o+i*2+1,none⟩=some (.slice x.a x.Is.length x.cap))∧zb0 w x.a x.Is
theorem zc7 {w w':World} {a:Option Addr} {L:List Pl.Mn} (h:zb2 w a L) (b:Below w.heap.size w w'):zb2 w' a L:=fun i x hi=>by
 obtain ⟨g,o,h1,h2,h3,h4,h5⟩:=h i x hi;exact ⟨g,o,h1,Nat.lt_of_lt_of_le h2 b.size,(b.cell (p:=⟨g,_,none⟩) h2).trans h3,(b.cell (p:=⟨g,_,none⟩) h2).trans h4,(b.cell (p:=⟨g,_,none⟩) h2).trans h5⟩
theorem zc6 {w w':World} {a:Option Addr} {L:List Pl.Hn} (h:zb9 w a L) (b:Below w.heap.size w w'):zb9 w' a L:=fun i x hi=>by
 obtain ⟨g,o,h1,h2,h3,h4,h5⟩:=h i x hi;exact ⟨g,o,h1,Nat.lt_of_lt_of_le h2 b.size,(b.cell (p:=⟨g,_,none⟩) h2).trans h3,(b.cell (p:=⟨g,_,none⟩) h2).trans h4,(b.cell (p:=⟨g,_,none⟩) h2).trans h5⟩
theorem zf1 {w w':World} {a:Option Addr} {L:List Pl.Ns} (h:ze4 w a L) (b:Below w.heap.size w w'):ze4 w' a L:=fun i x hi=>by
 obtain ⟨⟨g,o,h1,h2,h3,h4⟩,h5⟩:=h i x hi;exact ⟨⟨g,o,h1,Nat.lt_of_lt_of_le h2 b.size,(b.cell (p:=⟨g,_,none⟩) h2).trans h3,(b.cell (p:=⟨g,_,none⟩) h2).trans h4⟩,zc2 h5 b⟩
theorem zv5 (w:World) (a:Option Addr):zb2 w a []:=fun i x h=>by simp at h
theorem zx9 (w:World) (a:Option Addr):zb9 w a []:=fun i x h=>by simp at h
theorem zr8 (w:World) (a:Option Addr):ze4 w a []:=fun i x h=>by simp at h
structure zc3 (w:World) (s:Pl.Sp):Prop where
 zf9:ze4 w s.ia s.N
 zh:zb2 w s.ma s.M
 hands:zb9 w s.ha s.H
theorem zc3.call {w w':World} {s:Pl.Sp} (h:zc3 w s) (b:Below w.heap.size w w'):zc3 w' s:=⟨zf1 h.zf9 b,zc7 h.zh b,zc6 h.hands b⟩
end Mem
end
section
set_option linter.unusedSimpArgs false
open Go.RowKit
namespace zb
open WLaw
set_option maxRecDepth 100000 in
set_option maxHeartbeats 800000 in
theorem toMount_any (x:Pl.Mn) (w:World):
  Calls Tryz.prog 62 #[.agg #[.string x.p, .int .i64 x.i, .bool x.z]] w fun e w'=>e= .returned (.agg #[.string x.p, .int .i64 x.i, .bool x.z])∧Below w.heap.size w w':=by
 have b0:∀o1 o2 o3,Below w.heap.size w (((w.alloc o1).alloc o2).alloc o3):=fun o1 o2 o3=>(((Below.refl _ _).alloc (Nat.le_refl _) o1).alloc (by simp) o2).alloc (by simp;omega) o3;have HB:=hide b0;clear b0;go_enter Tryz.func62,Tryz.ntmps62
 go_wp2
 refine bodyPost_ret (v:= .agg #[.string x.p, .int .i64 x.i, .bool x.z]) (by simp [results,Tryz.results62,go_sem]) rfl ⟨rfl,?_⟩
 first |exact za HB _ _ _|exact ((za HB _ _ _).setCell (by omega) _)|skip
theorem infoMount:(Tryz.prog.info? 50).map (fun i=>(i.zero,i.size,i.bytes))=some (some (.agg #[.string ⟨#[]⟩, .int .i64 0, .bool false]),3,32):=by kernel_rfl
theorem makeMount (n:Nat) (hn:n≤1048576) (w:World):(Instr.makeSlice 29 (.int .i64 (n:Int)) (.int .i64 (n:Int))).run Tryz.prog w= .ok (.slice (some ⟨w.heap.size,0,none⟩) n n) (w.alloc (.cells (madeCells (Value.agg #[.string ⟨#[]⟩, .int .i64 0, .bool false]).cells (n*3)) 50)):=by
 obtain ⟨i0,h0,h1,h2,h3⟩:=info_parts infoMount;have h:=run_make (P:=Tryz.prog) w 29 50 i0 (.agg #[.string ⟨#[]⟩, .int .i64 0, .bool false]) Tryz.underlying29 h0 h1 .i64 .i64 (n:Int) (n:Int) (by omega) (Int.le_refl _) (by rw [h3];omega) (by omega);rw [h,h2];simp
set_option maxRecDepth 100000 in
set_option maxHeartbeats 800000 in
theorem toMountS_any (a:Option Addr) (cap:Nat) (Ts:List Pl.Mn) (w:World) (hl:Ts.length≤1048576) (hv:Mem.zb2 w a Ts):
  Calls Tryz.prog 30 #[.slice a Ts.length cap] w fun e w'=>e= .returned (.slice (some ⟨w.heap.size,0,none⟩) Ts.length Ts.length)∧(∃cur,Mem.Cop3 50 (fun x:Pl.Mn=> .string x.p) (fun x:Pl.Mn=> .int .i64 x.i) (fun x:Pl.Mn=> .bool x.z) w w' Ts.length Ts cur)∧Below w.heap.size w w':=by
 have HV:=hide hv;have hmk:=makeMount Ts.length hl w;clear hv;go_enter Tryz.func30,Tryz.ntmps30
 go_wp2
 go_loopw [4] (fun i wr=>∃ (D:List Pl.Mn) (cur:Array Value),D.length≤Ts.length∧i= .int .i64 (D.length:Int)∧Below w.heap.size w wr∧Hid (D=Ts.take D.length)∧Hid (Mem.Cop3 50 (fun x:Pl.Mn=> .string x.p) (fun x:Pl.Mn=> .int .i64 x.i) (fun x:Pl.Mn=> .bool x.z) w wr Ts.length D cur)) (fun i _=>Ts.length - (intOf i).toNat)
 case atStart=>exact ⟨[],_,Nat.zero_le _,rfl,(Below.refl _ _).alloc (Nat.le_refl _) _,hide rfl,hide ⟨heap_alloc_new w _,size_madeCells _ _,fun j t h=>by simp at h⟩⟩
 case round=>
  obtain ⟨D,cur,hk,rfl,hbel,HD,HC⟩:=hrel;by_cases hlt:D.length<Ts.length
  ·obtain ⟨t,ht⟩:∃t,Ts[D.length]? =some t:=⟨_,List.getElem?_eq_getElem hlt⟩;obtain ⟨b,o,rfl,hb,q0,q1,q2⟩:=(za HV) D.length t ht;have c0:=(hbel.cell (p:=⟨b,_,none⟩) hb).trans q0;have c1:=(hbel.cell (p:=⟨b,_,none⟩) hb).trans q1;have c2:=(hbel.cell (p:=⟨b,_,none⟩) hb).trans q2;have hz:=hide (fun W=>toMount_any t W);have u1:(D.length:Int)<(Ts.length:Int):=by omega
   have u3:(0:Int)≤(D.length:Int):=by omega
   have HD2:Hid (D++[t]=Ts.take (D++[t]).length):=hide (by
    have h:=za HD
    rw [List.length_append,List.length_singleton,List.take_add_one,ht,←h];rfl)
   clear q0 q1 q2 ht HD;go_wp2_with fail
   refine (za hz _).mono ?_;rintro e w1 ⟨rfl,b1⟩;have C1:=(za HC).call b1;have hb2:=hbel.trans (b1.mono hbel.size);obtain ⟨⟨x0,s0⟩,f0⟩:=C1.cell (k:=D.length*3) (by omega);obtain ⟨⟨x1,s1⟩,f1⟩:=C1.cell (k:=D.length*3+1) (by omega);obtain ⟨⟨x2,s2⟩,f2⟩:=C1.cell (k:=D.length*3+2) (by omega);have HC2:=hide (C1.put t hlt);have HB2:=hide hb2;clear b1 hbel hz HC C1 hb2;go_wp2
   go_roundw
   case rel=>exact ⟨D++[t],_,by rw [List.length_append,List.length_singleton];omega,by rw [List.length_append,List.length_singleton];go_num,(((za HB2).setCell (Nat.le_refl _) _).setCell (Nat.le_refl _) _).setCell (Nat.le_refl _) _,HD2,HC2⟩
   case measure=>simp [intOf];omega
  ·have u1:¬ (D.length:Int)<(Ts.length:Int):=by omega
   have HE:Hid (D=Ts):=hide (by
    have h:=za HD
    rw [h,List.take_of_length_le (by omega)])
   go_wp2
   go_ret
   exact ⟨rfl,⟨cur,by have h:=za HC;rw [za HE] at h;exact h⟩,hbel⟩
set_option maxRecDepth 100000 in
set_option maxHeartbeats 800000 in
theorem toHandle_any (x:Pl.Hn) (w:World):
  Calls Tryz.prog 63 #[.agg #[.int .i64 x.d, .int .i64 x.i, .string x.p]] w fun e w'=>e= .returned (.agg #[.int .i64 x.d, .int .i64 x.i, .string x.p])∧Below w.heap.size w w':=by
 have b0:∀o1 o2 o3,Below w.heap.size w (((w.alloc o1).alloc o2).alloc o3):=fun o1 o2 o3=>(((Below.refl _ _).alloc (Nat.le_refl _) o1).alloc (by simp) o2).alloc (by simp;omega) o3;have HB:=hide b0;clear b0;go_enter Tryz.func63,Tryz.ntmps63
 go_wp2
 refine bodyPost_ret (v:= .agg #[.int .i64 x.d, .int .i64 x.i, .string x.p]) (by simp [results,Tryz.results63,go_sem]) rfl ⟨rfl,?_⟩
 first |exact za HB _ _ _|exact ((za HB _ _ _).setCell (by omega) _)|skip
theorem infoHandle:(Tryz.prog.info? 87).map (fun i=>(i.zero,i.size,i.bytes))=some (some (.agg #[.int .i64 0, .int .i64 0, .string ⟨#[]⟩]),3,32):=by kernel_rfl
theorem makeHandle (n:Nat) (hn:n≤1048576) (w:World):(Instr.makeSlice 30 (.int .i64 (n:Int)) (.int .i64 (n:Int))).run Tryz.prog w= .ok (.slice (some ⟨w.heap.size,0,none⟩) n n) (w.alloc (.cells (madeCells (Value.agg #[.int .i64 0, .int .i64 0, .string ⟨#[]⟩]).cells (n*3)) 87)):=by
 obtain ⟨i0,h0,h1,h2,h3⟩:=info_parts infoHandle;have h:=run_make (P:=Tryz.prog) w 30 87 i0 (.agg #[.int .i64 0, .int .i64 0, .string ⟨#[]⟩]) Tryz.underlying30 h0 h1 .i64 .i64 (n:Int) (n:Int) (by omega) (Int.le_refl _) (by rw [h3];omega) (by omega);rw [h,h2];simp
set_option maxRecDepth 100000 in
set_option maxHeartbeats 800000 in
theorem toHandleS_any (a:Option Addr) (cap:Nat) (Ts:List Pl.Hn) (w:World) (hl:Ts.length≤1048576) (hv:Mem.zb9 w a Ts):
  Calls Tryz.prog 31 #[.slice a Ts.length cap] w fun e w'=>e= .returned (.slice (some ⟨w.heap.size,0,none⟩) Ts.length Ts.length)∧(∃cur,Mem.Cop3 87 (fun x:Pl.Hn=> .int .i64 x.d) (fun x:Pl.Hn=> .int .i64 x.i) (fun x:Pl.Hn=> .string x.p) w w' Ts.length Ts cur)∧Below w.heap.size w w':=by
 have HV:=hide hv;have hmk:=makeHandle Ts.length hl w;clear hv;go_enter Tryz.func31,Tryz.ntmps31
 go_wp2
 go_loopw [4] (fun i wr=>∃ (D:List Pl.Hn) (cur:Array Value),D.length≤Ts.length∧i= .int .i64 (D.length:Int)∧Below w.heap.size w wr∧Hid (D=Ts.take D.length)∧Hid (Mem.Cop3 87 (fun x:Pl.Hn=> .int .i64 x.d) (fun x:Pl.Hn=> .int .i64 x.i) (fun x:Pl.Hn=> .string x.p) w wr Ts.length D cur)) (fun i _=>Ts.length - (intOf i).toNat)
 case atStart=>exact ⟨[],_,Nat.zero_le _,rfl,(Below.refl _ _).alloc (Nat.le_refl _) _,hide rfl,hide ⟨heap_alloc_new w _,size_madeCells _ _,fun j t h=>by simp at h⟩⟩
 case round=>
  obtain ⟨D,cur,hk,rfl,hbel,HD,HC⟩:=hrel;by_cases hlt:D.length<Ts.length
  ·obtain ⟨t,ht⟩:∃t,Ts[D.length]? =some t:=⟨_,List.getElem?_eq_getElem hlt⟩;obtain ⟨b,o,rfl,hb,q0,q1,q2⟩:=(za HV) D.length t ht;have c0:=(hbel.cell (p:=⟨b,_,none⟩) hb).trans q0;have c1:=(hbel.cell (p:=⟨b,_,none⟩) hb).trans q1;have c2:=(hbel.cell (p:=⟨b,_,none⟩) hb).trans q2;have hz:=hide (fun W=>toHandle_any t W);have u1:(D.length:Int)<(Ts.length:Int):=by omega
   have u3:(0:Int)≤(D.length:Int):=by omega
   have HD2:Hid (D++[t]=Ts.take (D++[t]).length):=hide (by
    have h:=za HD
    rw [List.length_append,List.length_singleton,List.take_add_one,ht,←h];rfl)
   clear q0 q1 q2 ht HD;go_wp2_with fail
   refine (za hz _).mono ?_;rintro e w1 ⟨rfl,b1⟩;have C1:=(za HC).call b1;have hb2:=hbel.trans (b1.mono hbel.size);obtain ⟨⟨x0,s0⟩,f0⟩:=C1.cell (k:=D.length*3) (by omega);obtain ⟨⟨x1,s1⟩,f1⟩:=C1.cell (k:=D.length*3+1) (by omega);obtain ⟨⟨x2,s2⟩,f2⟩:=C1.cell (k:=D.length*3+2) (by omega);have HC2:=hide (C1.put t hlt);have HB2:=hide hb2;clear b1 hbel hz HC C1 hb2;go_wp2
   go_roundw
   case rel=>exact ⟨D++[t],_,by rw [List.length_append,List.length_singleton];omega,by rw [List.length_append,List.length_singleton];go_num,(((za HB2).setCell (Nat.le_refl _) _).setCell (Nat.le_refl _) _).setCell (Nat.le_refl _) _,HD2,HC2⟩
   case measure=>simp [intOf];omega
  ·have u1:¬ (D.length:Int)<(Ts.length:Int):=by omega
   have HE:Hid (D=Ts):=hide (by
    have h:=za HD
    rw [h,List.take_of_length_le (by omega)])
   go_wp2
   go_ret
   exact ⟨rfl,⟨cur,by have h:=za HC;rw [za HE] at h;exact h⟩,hbel⟩
end zb
end
section
set_option linter.unusedSimpArgs false
open Go.RowKit
namespace WLawY
open WLaw
set_option maxRecDepth 100000 in
theorem zv8 (x:Pl.It) (w:World) (hl:x.t.L.length≤1048576) (hv:Mem.za7 w x.t.a x.t.L):
  Calls Tryz.prog 128 #[.agg #[.int .i64 x.m, .slice x.t.a x.t.L.length x.t.cap]] w fun e w'=>∃g,e= .returned (.agg #[.int .i64 x.m, .slice (some ⟨g,0,none⟩) x.t.L.length x.t.L.length])∧w.heap.size≤g∧(∃cs,w'.heap[g]? =some (.cells cs 189 (0,0))∧x.t.L.length*5≤cs.size)∧Mem.za7 w' (some ⟨g,0,none⟩) x.t.L∧Below w.heap.size w w':=by
 obtain ⟨m,a,cap,L⟩:=x;simp only at hl hv ⊢;have b0:Below w.heap.size w (((w.alloc (.cells #[.int .i64 m, .slice a L.length cap] 181)).alloc (.cells #[.int .i64 0, .slice none 0 0] 151)).alloc (.cells #[.int .i64 m, .slice none 0 0] 151)):=(((Below.refl _ _).alloc (Nat.le_refl _) _).alloc (by simp) _).alloc (by simp;omega) _;have hz:=hide (ya3 a cap L _ hl (Mem.za8 hv b0));have hs:(((w.alloc (.cells #[.int .i64 m, .slice a L.length cap] 181)).alloc (.cells #[.int .i64 0, .slice none 0 0] 151)).alloc (.cells #[.int .i64 m, .slice none 0 0] 151)).heap.size=w.heap.size+1+1+1:=by simp
 have r1:Mem.Blk (((w.alloc (.cells #[.int .i64 m, .slice a L.length cap] 181)).alloc (.cells #[.int .i64 0, .slice none 0 0] 151)).alloc (.cells #[.int .i64 m, .slice none 0 0] 151)) (w.heap.size+1) #[.int .i64 0, .slice none 0 0] 151:=Mem.zn4 w _ _ _;have r2:Mem.Blk (((w.alloc (.cells #[.int .i64 m, .slice a L.length cap] 181)).alloc (.cells #[.int .i64 0, .slice none 0 0] 151)).alloc (.cells #[.int .i64 m, .slice none 0 0] 151)) (w.heap.size+1+1) #[.int .i64 m, .slice none 0 0] 151:=Mem.zk0 w _ _ _;have HB0:=hide b0;clear hv b0;go_enter Tryz.func128,Tryz.ntmps128
 go_wp2_with fail
 generalize (((w.alloc (.cells #[.int .i64 m, .slice a L.length cap] 181)).alloc (.cells #[.int .i64 0, .slice none 0 0] 151)).alloc (.cells #[.int .i64 m, .slice none 0 0] 151))=w3 at hz hs r1 r2 HB0 ⊢;refine (za hz).mono ?_;rintro e w1 ⟨g,rfl,hg,⟨cs,hrow,hcs⟩,hn,b1⟩;have HRW:=hide hrow;have HCS:=hide hcs;have R1:=r1.call b1;have R2:=r2.call b1;have c10:=R1.cell 0;have c11:=R1.cell 1;have c20:=R2.cell 0;have c21:=R2.cell 1;have f10:=R1.fr 0;have f11:=R1.fr 1;have f20:=R2.fr 0;have f21:=R2.fr 1;simp only [kGs] at c10 c11 c20 c21;have bb:=hide ((za HB0).trans (b1.mono (za HB0).size));have HG:Hid (w.heap.size+1+1+1≤g):=hide (by omega);have HN:=hide hn;clear hz b1 hn hs r1 r2 R1 R2 HB0 hg hrow hcs;go_wp2
 have hg:=za HG;refine bodyPost_ret (v:= .agg #[.int .i64 m, .slice (some ⟨g,0,none⟩) L.length L.length]) (by simp [results,Tryz.results128,go_sem,c10,c11]) rfl ⟨g,rfl,by omega,⟨cs,?_,by have :=za HCS;omega⟩,?_,?_⟩
 ·rw [heap_setCell_other _ _ _ _ (by show g≠w.heap.size+1;omega),heap_setCell_other _ _ _ _ (by show g≠w.heap.size+1;omega),heap_setCell_other _ _ _ _ (by show g≠w.heap.size+1+1;omega)];exact za HRW
 ·exact Mem.zd7 (Mem.zd7 (Mem.zd7 (za HN) _ _ (by show w.heap.size+1+1≠g;omega)) _ _ (by show w.heap.size+1≠g;omega)) _ _ (by show w.heap.size+1≠g;omega)
 ·exact (((za bb).setCell (by show w.heap.size≤w.heap.size+1+1;omega) _).setCell (by show w.heap.size≤w.heap.size+1;omega) _).setCell (by show w.heap.size≤w.heap.size+1;omega) _
structure CopI (w wr:World) (Ts D:List Pl.It) (cur:Array Value):Prop where
 blk:wr.heap[w.heap.size]? =some (.cells cur 151 (0,0))
 size:cur.size=Ts.length*2
 same:D.map Pl.It.r=(Ts.take D.length).map Pl.It.r
 each:∀ (j:Nat) t,D[j]? =some t→cur[j*2]? =some (.int .i64 t.m)∧cur[j*2+1]? =some t.t.val∧∃g,t.t.a=some ⟨g,0,none⟩∧w.heap.size<g∧Mem.za7 wr t.t.a t.t.L∧∃cs,wr.heap[g]? =some (.cells cs 189 (0,0))∧t.t.L.length*5≤cs.size∧t.t.cap=t.t.L.length
theorem CopI.call {w wr W:World} {Ts D:List Pl.It} {cur:Array Value} (h:CopI w wr Ts D cur) (b:Below wr.heap.size wr W):CopI w W Ts D cur:=
 ⟨(b.block _ (Array.getElem?_eq_some_iff.1 h.blk).1).trans h.blk,h.size,h.same,fun j t hj=>⟨(h.each j t hj).1,(h.each j t hj).2.1,by
  obtain ⟨g,h1,h2,h3,cs,h4,h5⟩:=(h.each j t hj).2.2
  exact ⟨g,h1,h2,Mem.za8 h3 b,cs,(b.block _ (Array.getElem?_eq_some_iff.1 h4).1).trans h4,h5⟩⟩⟩
theorem CopI.put {w wr:World} {Ts D:List Pl.It} {cur:Array Value} (h:CopI w wr Ts D cur) (t:Pl.It) (g:Nat) (hk:Ts[D.length]? =some t) (hg:w.heap.size<g) (hn:Mem.za7 wr (some ⟨g,0,none⟩) t.t.L) (hr:∃cs,wr.heap[g]? =some (.cells cs 189 (0,0))∧t.t.L.length*5≤cs.size):
  CopI w ((wr.setCell ⟨w.heap.size,D.length*2,none⟩ (.int .i64 t.m)).setCell ⟨w.heap.size,D.length*2+1,none⟩ (.slice (some ⟨g,0,none⟩) t.t.L.length t.t.L.length)) Ts (D++[⟨t.m,some ⟨g,0,none⟩,t.t.L.length,t.t.L⟩]) ((cur.setIfInBounds (D.length*2) (.int .i64 t.m)).setIfInBounds (D.length*2+1) (.slice (some ⟨g,0,none⟩) t.t.L.length t.t.L.length)):=by
 have hlt:=(List.getElem?_eq_some_iff.1 hk).1;have hsz:=h.size;refine ⟨heap_setCell_same _ _ _ _ _ _ (heap_setCell_same _ _ _ _ _ _ h.blk),by simpa using h.size,?_,fun j m hj=>?_⟩
 ·rw [List.length_append,List.length_singleton,List.take_add_one,hk,List.map_append,List.map_append,h.same];rfl
 ·by_cases e:j<D.length
  ·rw [List.getElem?_append_left e] at hj;obtain ⟨h1,h1',g',h2,h3,h4,cs,h5,h6⟩:=h.each j m hj;refine ⟨by rw [Array.getElem?_setIfInBounds,if_neg (by omega),Array.getElem?_setIfInBounds,if_neg (by omega)];exact h1,by rw [Array.getElem?_setIfInBounds,if_neg (by omega),Array.getElem?_setIfInBounds,if_neg (by omega)];exact h1',g',h2,h3,?_,cs,(heap_setCell_other _ _ _ _ (by show g'≠w.heap.size;omega)).trans ((heap_setCell_other _ _ _ _ (by show g'≠w.heap.size;omega)).trans h5),h6⟩;rw [h2] at h4 ⊢;exact Mem.zd7 (Mem.zd7 h4 _ _ (by show w.heap.size≠g';omega)) _ _ (by show w.heap.size≠g';omega)
  ·rw [List.getElem?_append_right (by omega)] at hj
   have hj0:j=D.length:=by
    have :=(List.getElem?_eq_some_iff.1 hj).1;simp at this;omega
   subst hj0;simp at hj
   subst hj;obtain ⟨cs,h5,h6⟩:=hr;refine ⟨?_,?_,g,rfl,hg,Mem.zd7 (Mem.zd7 hn _ _ (by show w.heap.size≠g;omega)) _ _ (by show w.heap.size≠g;omega),cs,(heap_setCell_other _ _ _ _ (by show g≠w.heap.size;omega)).trans ((heap_setCell_other _ _ _ _ (by show g≠w.heap.size;omega)).trans h5),h6,rfl⟩
   ·rw [Array.getElem?_setIfInBounds,if_neg (by omega),Array.getElem?_setIfInBounds,if_pos rfl,if_pos (by omega)]
   ·rw [Array.getElem?_setIfInBounds,if_pos rfl,if_pos (by rw [Array.size_setIfInBounds];omega)];rfl
theorem CopI.items {w wr:World} {Ts D:List Pl.It} {cur:Array Value} (h:CopI w wr Ts D cur):Mem.zb0 wr (some ⟨w.heap.size,0,none⟩) D:=fun i t hi=>by
 obtain ⟨h1,h1',g,h2,h3,h4, -⟩:=h.each i t hi;refine ⟨⟨_,0,rfl,(Array.getElem?_eq_some_iff.1 h.blk).1,?_,?_⟩,h4⟩
 ·rw [cell_of_row wr _ _ _ _ (0,0) h.blk,Nat.zero_add];exact h1
 ·rw [cell_of_row wr _ _ _ _ (0,0) h.blk,Nat.zero_add];exact h1'
set_option maxRecDepth 100000 in
set_option maxHeartbeats 800000 in
theorem zt (a:Option Addr) (cap:Nat) (Ts:List Pl.It) (w:World) (hl:Ts.length≤1048576) (hv:Mem.zb0 w a Ts) (hok:∀t∈Ts,t.t.L.length≤1048576):
  Calls Tryz.prog 105 #[.slice a Ts.length cap] w fun e w'=>e= .returned (.slice (some ⟨w.heap.size,0,none⟩) Ts.length Ts.length)∧(∃D cur,D.length=Ts.length∧CopI w w' Ts D cur)∧Below w.heap.size w w':=by
 have HV:=hide hv;have HO:=hide hok;have hmk:=makeI Ts.length hl w;clear hv hok;go_enter Tryz.func105,Tryz.ntmps105
 go_wp2
 go_loopw [4] (fun i wr=>∃ (D:List Pl.It) (cur:Array Value),D.length≤Ts.length∧i= .int .i64 (D.length:Int)∧Below w.heap.size w wr∧Hid (CopI w wr Ts D cur)) (fun i _=>Ts.length - (intOf i).toNat)
 case atStart=>exact ⟨[],zo8 Ts.length,Nat.zero_le _,rfl,(Below.refl _ _).alloc (Nat.le_refl _) _,hide ⟨heap_alloc_new w _,zt2 _,rfl,fun j t h=>by simp at h⟩⟩
 case round=>
  obtain ⟨D,cur,hk,rfl,hbel,HC⟩:=hrel;by_cases hlt:D.length<Ts.length
  ·obtain ⟨t,ht⟩:∃t,Ts[D.length]? =some t:=⟨_,List.getElem?_eq_getElem hlt⟩;obtain ⟨⟨b,o,rfl,hb,q0,q0'⟩,q1⟩:=(za HV) D.length t ht;have c0:=(hbel.cell (p:=⟨b,_,none⟩) hb).trans q0;have c1:=(hbel.cell (p:=⟨b,_,none⟩) hb).trans q0';have hz:=hide (fun W (b:Below w.heap.size w W)=>zv8 t W (za HO t (List.mem_of_getElem? ht)) (Mem.za8 q1 b));have HN:=hide ht;have u1:(D.length:Int)<(Ts.length:Int):=by omega
   have u3:(0:Int)≤(D.length:Int):=by omega
   simp only [Pl.Tr.val] at c1;clear q0 q0' ht q1;go_wp2_with fail
   refine (za hz _ hbel).mono ?_;rintro e w1 ⟨g,rfl,hg,hrr,hn,b1⟩;have hgw:w.heap.size<g:=by have :=(Array.getElem?_eq_some_iff.1 (za HC).blk).1;omega
   have C1:=(za HC).call b1;have hb2:=hbel.trans (b1.mono hbel.size);have hcs:=C1.size;obtain ⟨x0,s0⟩:∃x,w1.cell? ⟨w.heap.size,D.length*2,none⟩=some x:=⟨_,(cell_of_row w1 _ (D.length*2) _ _ (0,0) C1.blk).trans (Array.getElem?_eq_getElem (by omega))⟩;obtain ⟨x1,s1⟩:∃x,w1.cell? ⟨w.heap.size,D.length*2+1,none⟩=some x:=⟨_,(cell_of_row w1 _ (D.length*2+1) _ _ (0,0) C1.blk).trans (Array.getElem?_eq_getElem (by omega))⟩;have f0:w1.frozen? ⟨w.heap.size,D.length*2,none⟩=false:=Mem.zb1 C1.blk;have f1:w1.frozen? ⟨w.heap.size,D.length*2+1,none⟩=false:=Mem.zb1 C1.blk;have HC2:=hide (C1.put t g (za HN) hgw hn hrr);have HB2:=hide hb2;clear b1 hbel hz HC C1 hn hg hb2 hcs hrr;go_wp2
   go_roundw
   case rel=>exact ⟨_,_,by rw [List.length_append,List.length_singleton];omega,by rw [List.length_append,List.length_singleton];go_num,((za HB2).setCell (Nat.le_refl _) _).setCell (Nat.le_refl _) _,HC2⟩
   case measure=>simp [intOf];omega
  ·have u1:¬ (D.length:Int)<(Ts.length:Int):=by omega
   go_wp2
   go_ret
   exact ⟨rfl,⟨D,by omega,cur,za HC⟩,hbel⟩
structure Rows (W:World) (g:Nat) (D:List Pl.It):Prop where
 items:Mem.zb0 W (some ⟨g,0,none⟩) D
 blk:∃cur,W.heap[g]? =some (.cells cur 151 (0,0))∧cur.size=D.length*2
 each:∀ (j:Nat) t,D[j]? =some t→∃q,t.t.a=some ⟨q,0,none⟩∧g<q∧q<W.heap.size∧∃cs,W.heap[q]? =some (.cells cs 189 (0,0))∧t.t.L.length*5≤cs.size∧t.t.cap=t.t.L.length
theorem zy4 (a:Option Addr) (cap:Nat) (Ts:List Pl.It) (w:World) (hl:Ts.length≤1048576) (hv:Mem.zb0 w a Ts) (hok:∀t∈Ts,t.t.L.length≤1048576):
  Calls Tryz.prog 105 #[.slice a Ts.length cap] w fun e w'=>∃g D,e= .returned (.slice (some ⟨g,0,none⟩) Ts.length Ts.length)∧w.heap.size≤g∧D.length=Ts.length∧D.map Pl.It.r=Ts.map Pl.It.r∧Rows w' g D∧Below w.heap.size w w':=
 (zt a cap Ts w hl hv hok).mono fun _ _ ⟨he,⟨D,cur,hD,hC⟩,b⟩=>⟨_,D,he,Nat.le_refl _,hD,by rw [hC.same,hD,List.take_length],⟨hC.items,⟨cur,hC.blk,by rw [hC.size,hD]⟩,fun j t hj=>by
  obtain ⟨-, -,g,h2,h3, -,cs,h5,h6⟩:=hC.each j t hj
  exact ⟨g,h2,h3,(Array.getElem?_eq_some_iff.1 h5).1,cs,h5,h6⟩⟩,b⟩
end WLawY
end
end Go.Proofs.YtonffldjbmednaaGreatDoor
