/- Several texts of one claim in one file: WLawJ, MemCop3, WLawTo, WLawY, MemHas, WLawTn, MemHasS, WLawTs, MemNest, MapN. -/
import Derived.Test.YtbomeifgfalmdaaGreatDoorG02
import Derived.Deep.Cut
import Derived.Maps.OwnSet
set_option linter.unusedSimpArgs false
set_option maxRecDepth 100000
set_option maxHeartbeats 2000000
namespace Go.Proofs.YtbomeifgfalmdaaGreatDoor
section
open Go.RowKit
namespace WLaw
theorem yb1 (x:Pl.It) (w:World) (hl:x.t.L.length≤1048576) (hv:Mem.zb1 w x.t.a x.t.L):
  Calls Tryz.prog 106 #[.agg #[.int .i64 x.m, .slice x.t.a x.t.L.length x.t.cap]] w fun e w'=>∃g,e= .returned (.agg #[.int .i64 x.m, .slice (some ⟨g,0,none⟩) x.t.L.length x.t.L.length])∧w.heap.size≤g∧Mem.zb1 w' (some ⟨g,0,none⟩) x.t.L∧Below w.heap.size w w':=by
 obtain ⟨m,a,cap,L⟩:=x;simp only at hl hv ⊢;have b0:Below w.heap.size w (((w.alloc (.cells #[.int .i64 m, .slice a L.length cap] 196)).alloc (.cells #[.int .i64 0, .slice none 0 0] 109)).alloc (.cells #[.int .i64 m, .slice none 0 0] 109)):=((bE0).alloc (by simp) _).alloc (by simp;omega) _;have hz:=hide (yi8 a cap L _ hl (Mem.za9 hv b0));have hs:(((w.alloc (.cells #[.int .i64 m, .slice a L.length cap] 196)).alloc (.cells #[.int .i64 0, .slice none 0 0] 109)).alloc (.cells #[.int .i64 m, .slice none 0 0] 109)).heap.size=w.heap.size+1+1+1:=by simp
 have r1:Mem.Blk (((w.alloc (.cells #[.int .i64 m, .slice a L.length cap] 196)).alloc (.cells #[.int .i64 0, .slice none 0 0] 109)).alloc (.cells #[.int .i64 m, .slice none 0 0] 109)) (w.heap.size+1) #[.int .i64 0, .slice none 0 0] 109:=Mem.zz4 w _ _ _;have r2:Mem.Blk (((w.alloc (.cells #[.int .i64 m, .slice a L.length cap] 196)).alloc (.cells #[.int .i64 0, .slice none 0 0] 109)).alloc (.cells #[.int .i64 m, .slice none 0 0] 109)) (w.heap.size+1+1) #[.int .i64 m, .slice none 0 0] 109:=Mem.zw1 w _ _ _;have HB0:=hide b0;clear hv b0;go_enter Tryz.func106,Tryz.ntmps106
 go_wp2_with fail
 generalize (((w.alloc (.cells #[.int .i64 m, .slice a L.length cap] 196)).alloc (.cells #[.int .i64 0, .slice none 0 0] 109)).alloc (.cells #[.int .i64 m, .slice none 0 0] 109))=w3 at hz hs r1 r2 HB0 ⊢;refine (za hz).mono ?_;rintro e w1 ⟨g,rfl,hg, -,hn,b1⟩;have R1:=r1.call b1;have R2:=r2.call b1;obtain ⟨c10,c11⟩:=jc2 R1;obtain ⟨c20,c21⟩:=jc2 R2;have f10:=R1.fr 0;have f11:=R1.fr 1;have f20:=R2.fr 0;have f21:=R2.fr 1;have bb:=hide ((za HB0).trans (b1.mono (za HB0).size));have HG:Hid (w.heap.size+1+1+1≤g):=hide (by omega);have HN:=hide hn;clear hz b1 hn hs r1 r2 R1 R2 HB0 hg;go_wp2
 have hg:=za HG;refine bodyPost_ret (v:= .agg #[.int .i64 m, .slice (some ⟨g,0,none⟩) L.length L.length]) (by simp [results,Tryz.results106,go_sem,c10,c11]) rfl ⟨g,rfl,by omega,?_,?_⟩
 ·exact Mem.zf2 (Mem.zf2 (Mem.zf2 (za HN) _ _ (by show w.heap.size+1+1≠g;omega)) _ _ (by show w.heap.size+1≠g;omega)) _ _ (by show w.heap.size+1≠g;omega)
 ·exact (((za bb).setCell (by show w.heap.size≤w.heap.size+1+1;omega) _).setCell (by show w.heap.size≤w.heap.size+1;omega) _).setCell (by show w.heap.size≤w.heap.size+1;omega) _
def zu5 (n:Nat):Array Value:=madeCells (Value.agg #[.int .i64 0, .slice none 0 0]).cells (n*2)
theorem ya2 (n:Nat):(zu5 n).size=n*2:=size_madeCells _ _
theorem infoI:(Tryz.prog.info? 109).map (fun i=>(i.zero,i.size,i.bytes))=some (some (.agg #[.int .i64 0, .slice none 0 0]),2,32):=by kernel_rfl
theorem makeI (n:Nat) (hn:n≤1048576) (w:World):(Instr.makeSlice 52 (.int .i64 (n:Int)) (.int .i64 (n:Int))).run Tryz.prog w= .ok (.slice (some ⟨w.heap.size,0,none⟩) n n) (w.alloc (.cells (zu5 n) 109)):=by
 obtain ⟨i0,h0,h1,h2,h3⟩:=info_parts infoI;have h:=run_make (P:=Tryz.prog) w 52 109 i0 (.agg #[.int .i64 0, .slice none 0 0]) Tryz.underlying52 h0 h1 .i64 .i64 (n:Int) (n:Int) (by omega) (Int.le_refl _) (by rw [h3];omega) (by omega);rw [h,h2];simp [zu5]
structure CopI (w wr:World) (Ts D:List Pl.It) (cur:Array Value):Prop where
 blk:wr.heap[w.heap.size]? =some (.cells cur 109 (0,0))
 size:cur.size=Ts.length*2
 same:D.map Pl.It.r=(Ts.take D.length).map Pl.It.r
 each:∀ (j:Nat) t,D[j]? =some t→cur[j*2]? =some (.int .i64 t.m)∧cur[j*2+1]? =some t.t.val∧∃g,t.t.a=some ⟨g,0,none⟩∧w.heap.size<g∧Mem.zb1 wr t.t.a t.t.L
theorem CopI.call {w wr W:World} {Ts D:List Pl.It} {cur:Array Value} (h:CopI w wr Ts D cur) (b:Below wr.heap.size wr W):CopI w W Ts D cur:=
 ⟨(b.block _ (Array.getElem?_eq_some_iff.1 h.blk).1).trans h.blk,h.size,h.same,fun j t hj=>⟨(h.each j t hj).1,(h.each j t hj).2.1,by
  obtain ⟨g,h1,h2,h3⟩:=(h.each j t hj).2.2
  exact ⟨g,h1,h2,Mem.za9 h3 b⟩⟩⟩
theorem CopI.put {w wr:World} {Ts D:List Pl.It} {cur:Array Value} (h:CopI w wr Ts D cur) (t:Pl.It) (g:Nat) (hk:Ts[D.length]? =some t) (hg:w.heap.size<g) (hn:Mem.zb1 wr (some ⟨g,0,none⟩) t.t.L):
  CopI w ((wr.setCell ⟨w.heap.size,D.length*2,none⟩ (.int .i64 t.m)).setCell ⟨w.heap.size,D.length*2+1,none⟩ (.slice (some ⟨g,0,none⟩) t.t.L.length t.t.L.length)) Ts (D++[⟨t.m,some ⟨g,0,none⟩,t.t.L.length,t.t.L⟩]) ((cur.setIfInBounds (D.length*2) (.int .i64 t.m)).setIfInBounds (D.length*2+1) (.slice (some ⟨g,0,none⟩) t.t.L.length t.t.L.length)):=by
 have hlt:=(List.getElem?_eq_some_iff.1 hk).1;have hsz:=h.size;refine ⟨heap_setCell_same _ _ _ _ _ _ (heap_setCell_same _ _ _ _ _ _ h.blk),by simpa using h.size,?_,fun j m hj=>?_⟩
 ·rw [List.length_append,List.length_singleton,List.take_add_one,hk,List.map_append,List.map_append,h.same];rfl
 ·by_cases e:j<D.length
  ·rw [List.getElem?_append_left e] at hj;obtain ⟨h1,h1',g',h2,h3,h4⟩:=h.each j m hj;refine ⟨by rw [Array.getElem?_setIfInBounds,if_neg (by omega),Array.getElem?_setIfInBounds,if_neg (by omega)];exact h1,by rw [Array.getElem?_setIfInBounds,if_neg (by omega),Array.getElem?_setIfInBounds,if_neg (by omega)];exact h1',g',h2,h3,?_⟩;rw [h2] at h4 ⊢;exact Mem.zf2 (Mem.zf2 h4 _ _ (by show w.heap.size≠g';omega)) _ _ (by show w.heap.size≠g';omega)
  ·rw [List.getElem?_append_right (by omega)] at hj
   have hj0:j=D.length:=by
    have :=(List.getElem?_eq_some_iff.1 hj).1;simp at this;omega
   subst hj0;simp at hj
   subst hj;refine ⟨?_,?_,g,rfl,hg,Mem.zf2 (Mem.zf2 hn _ _ (by show w.heap.size≠g;omega)) _ _ (by show w.heap.size≠g;omega)⟩
   ·rw [Array.getElem?_setIfInBounds,if_neg (by omega),Array.getElem?_setIfInBounds,if_pos rfl,if_pos (by omega)]
   ·rw [Array.getElem?_setIfInBounds,if_pos rfl,if_pos (by rw [Array.size_setIfInBounds];omega)];rfl
theorem CopI.items {w wr:World} {Ts D:List Pl.It} {cur:Array Value} (h:CopI w wr Ts D cur):Mem.zb4 wr (some ⟨w.heap.size,0,none⟩) D:=fun i t hi=>by
 obtain ⟨h1,h1',g,h2,h3,h4⟩:=h.each i t hi;refine ⟨⟨_,0,rfl,(Array.getElem?_eq_some_iff.1 h.blk).1,?_,?_⟩,h4⟩
 ·rw [cell_of_row wr _ _ _ _ (0,0) h.blk,Nat.zero_add];exact h1
 ·rw [cell_of_row wr _ _ _ _ (0,0) h.blk,Nat.zero_add];exact h1'
theorem zz3 (a:Option Addr) (cap:Nat) (Ts:List Pl.It) (w:World) (hl:Ts.length≤1048576) (hv:Mem.zb4 w a Ts) (hok:∀t∈Ts,t.t.L.length≤1048576):
  Calls Tryz.prog 83 #[.slice a Ts.length cap] w fun e w'=>e= .returned (.slice (some ⟨w.heap.size,0,none⟩) Ts.length Ts.length)∧(∃D cur,D.length=Ts.length∧CopI w w' Ts D cur)∧Below w.heap.size w w':=by
 have HV:=hide hv;have HO:=hide hok;have hmk:=makeI Ts.length hl w;clear hv hok;go_enter Tryz.func83,Tryz.ntmps83
 go_wp2
 go_loopw [4] (fun i wr=>∃ (D:List Pl.It) (cur:Array Value),D.length≤Ts.length∧i= .int .i64 (D.length:Int)∧Below w.heap.size w wr∧Hid (CopI w wr Ts D cur)) (fun i _=>Ts.length - (intOf i).toNat)
 case atStart=>exact ⟨[],zu5 Ts.length,Nat.zero_le _,rfl,bE0,hide ⟨heap_alloc_new w _,ya2 _,rfl,fun j t h=>by simp at h⟩⟩
 case round=>
  obtain ⟨D,cur,hk,rfl,hbel,HC⟩:=hrel;by_cases hlt:D.length<Ts.length
  ·obtain ⟨t,ht⟩:∃t,Ts[D.length]? =some t:=⟨_,List.getElem?_eq_getElem hlt⟩;obtain ⟨⟨b,o,rfl,hb,q0,q0'⟩,q1⟩:=(za HV) D.length t ht;have c0:=(hbel.cell (p:=⟨b,_,none⟩) hb).trans q0;have c1:=(hbel.cell (p:=⟨b,_,none⟩) hb).trans q0';have hz:=hide (fun W (b:Below w.heap.size w W)=>yb1 t W (za HO t (List.mem_of_getElem? ht)) (Mem.za9 q1 b));have HN:=hide ht;have u1:(D.length:Int)<(Ts.length:Int):=by omega
   have u3:(0:Int)≤(D.length:Int):=by omega
   simp only [Pl.Tr.val] at c1;clear q0 q0' ht q1;go_wp2_with fail
   refine (za hz _ hbel).mono ?_;rintro e w1 ⟨g,rfl,hg,hn,b1⟩;have hgw:w.heap.size<g:=by have :=(Array.getElem?_eq_some_iff.1 (za HC).blk).1;omega
   have C1:=(za HC).call b1;have hb2:=hbel.trans (b1.mono hbel.size);have hcs:=C1.size;obtain ⟨x0,s0⟩:∃x,w1.cell? ⟨w.heap.size,D.length*2,none⟩=some x:=⟨_,(cell_of_row w1 _ (D.length*2) _ _ (0,0) C1.blk).trans (Array.getElem?_eq_getElem (by omega))⟩;obtain ⟨x1,s1⟩:∃x,w1.cell? ⟨w.heap.size,D.length*2+1,none⟩=some x:=⟨_,(cell_of_row w1 _ (D.length*2+1) _ _ (0,0) C1.blk).trans (Array.getElem?_eq_getElem (by omega))⟩;have f0:w1.frozen? ⟨w.heap.size,D.length*2,none⟩=false:=Mem.zc2 C1.blk;have f1:w1.frozen? ⟨w.heap.size,D.length*2+1,none⟩=false:=Mem.zc2 C1.blk;have HC2:=hide (C1.put t g (za HN) hgw hn);have HB2:=hide hb2;clear b1 hbel hz HC C1 hn hg hb2 hcs;go_wp2
   go_roundw
   case rel=>exact ⟨_,_,by rw [List.length_append,List.length_singleton];omega,by rw [List.length_append,List.length_singleton];go_num,((za HB2).setCell (Nat.le_refl _) _).setCell (Nat.le_refl _) _,HC2⟩
   case measure=>simp [intOf];omega
  ·have u1:¬ (D.length:Int)<(Ts.length:Int):=by omega
   go_wp2
   go_ret
   exact ⟨rfl,⟨D,by omega,cur,za HC⟩,hbel⟩
theorem yi3 (a:Option Addr) (cap:Nat) (Ts:List Pl.It) (w:World) (hl:Ts.length≤1048576) (hv:Mem.zb4 w a Ts) (hok:∀t∈Ts,t.t.L.length≤1048576):
  Calls Tryz.prog 83 #[.slice a Ts.length cap] w fun e w'=>∃g D,e= .returned (.slice (some ⟨g,0,none⟩) Ts.length Ts.length)∧w.heap.size≤g∧D.length=Ts.length∧D.map Pl.It.r=Ts.map Pl.It.r∧Mem.zb4 w' (some ⟨g,0,none⟩) D∧Below w.heap.size w w':=
 (zz3 a cap Ts w hl hv hok).mono fun _ _ ⟨he,⟨D,cur,hD,hC⟩,b⟩=>⟨_,D,he,Nat.le_refl _,hD,by rw [hC.same,hD,List.take_length],hC.items,b⟩
end WLaw
end
section
open Go.RowKit
namespace Mem
structure Cop3 {α:Type} (T:TypeId) (f0 f1 f2:α→Value) (w wr:World) (n:Nat) (D:List α) (cur:Array Value):Prop where
 blk:wr.heap[w.heap.size]? =some (.cells cur T (0,0))
 size:cur.size=n*3
 each:∀ (j:Nat) x,D[j]? =some x→cur[j*3]? =some (f0 x)∧cur[j*3+1]? =some (f1 x)∧cur[j*3+2]? =some (f2 x)
theorem Cop3.call {α:Type} {T:TypeId} {f0 f1 f2:α→Value} {w wr W:World} {n:Nat} {D:List α} {cur:Array Value} (h:Cop3 T f0 f1 f2 w wr n D cur) (b:Below wr.heap.size wr W):Cop3 T f0 f1 f2 w W n D cur:=
 ⟨(b.block _ (Array.getElem?_eq_some_iff.1 h.blk).1).trans h.blk,h.size,h.each⟩
theorem Cop3.put {α:Type} {T:TypeId} {f0 f1 f2:α→Value} {w wr:World} {n:Nat} {D:List α} {cur:Array Value} (h:Cop3 T f0 f1 f2 w wr n D cur) (x:α) (hk:D.length<n):
  Cop3 T f0 f1 f2 w (((wr.setCell ⟨w.heap.size,D.length*3,none⟩ (f0 x)).setCell ⟨w.heap.size,D.length*3+1,none⟩ (f1 x)).setCell ⟨w.heap.size,D.length*3+2,none⟩ (f2 x)) n (D++[x]) (((cur.setIfInBounds (D.length*3) (f0 x)).setIfInBounds (D.length*3+1) (f1 x)).setIfInBounds (D.length*3+2) (f2 x)):=by
 have hs:=h.size;refine ⟨heap_setCell_same _ _ _ _ _ _ (heap_setCell_same _ _ _ _ _ _ (heap_setCell_same _ _ _ _ _ _ h.blk)),by simpa using h.size,fun j y hj=>?_⟩;by_cases e:j<D.length
 ·rw [List.getElem?_append_left e] at hj;obtain ⟨h1,h2,h3⟩:=h.each j y hj;refine ⟨?_,?_,?_⟩
  ·rw [Array.getElem?_setIfInBounds,if_neg (by omega),Array.getElem?_setIfInBounds,if_neg (by omega),Array.getElem?_setIfInBounds,if_neg (by omega)];exact h1
  ·rw [Array.getElem?_setIfInBounds,if_neg (by omega),Array.getElem?_setIfInBounds,if_neg (by omega),Array.getElem?_setIfInBounds,if_neg (by omega)];exact h2
  ·rw [Array.getElem?_setIfInBounds,if_neg (by omega),Array.getElem?_setIfInBounds,if_neg (by omega),Array.getElem?_setIfInBounds,if_neg (by omega)];exact h3
 ·rw [List.getElem?_append_right (by omega)] at hj
  have hj0:j=D.length:=by
   have :=(List.getElem?_eq_some_iff.1 hj).1;simp at this;omega
  subst hj0;simp at hj
  subst hj;refine ⟨?_,?_,?_⟩
  ·rw [Array.getElem?_setIfInBounds,if_neg (by omega),Array.getElem?_setIfInBounds,if_neg (by omega),Array.getElem?_setIfInBounds,if_pos rfl,if_pos (by omega)]
  ·rw [Array.getElem?_setIfInBounds,if_neg (by omega),Array.getElem?_setIfInBounds,if_pos rfl,if_pos (by rw [Array.size_setIfInBounds];omega)]
  ·rw [Array.getElem?_setIfInBounds,if_pos rfl,if_pos (by rw [Array.size_setIfInBounds,Array.size_setIfInBounds];omega)]
theorem Cop3.cell {α:Type} {T:TypeId} {f0 f1 f2:α→Value} {w wr:World} {n:Nat} {D:List α} {cur:Array Value} (h:Cop3 T f0 f1 f2 w wr n D cur) {k:Nat} (hk:k<n*3):(∃x,wr.cell? ⟨w.heap.size,k,none⟩=some x)∧wr.frozen? ⟨w.heap.size,k,none⟩=false:=
 ⟨⟨_,(cell_of_row wr _ k _ _ (0,0) h.blk).trans (Array.getElem?_eq_getElem (by have :=h.size;omega))⟩,zc2 h.blk⟩
theorem Cop3.got {α:Type} {T:TypeId} {f0 f1 f2:α→Value} {w wr:World} {n:Nat} {D:List α} {cur:Array Value} (h:Cop3 T f0 f1 f2 w wr n D cur) {i:Nat} {x:α} (hi:D[i]? =some x):w.heap.size<wr.heap.size∧wr.cell? ⟨w.heap.size,0+i*3,none⟩=some (f0 x)∧wr.cell? ⟨w.heap.size,0+i*3+1,none⟩=some (f1 x)∧wr.cell? ⟨w.heap.size,0+i*3+2,none⟩=some (f2 x):=by
 obtain ⟨h1,h2,h3⟩:=h.each i x hi;refine ⟨(Array.getElem?_eq_some_iff.1 h.blk).1,?_,?_,?_⟩
 ·rw [cell_of_row wr _ _ _ _ (0,0) h.blk,Nat.zero_add];exact h1
 ·rw [cell_of_row wr _ _ _ _ (0,0) h.blk,Nat.zero_add];exact h2
 ·rw [cell_of_row wr _ _ _ _ (0,0) h.blk,Nat.zero_add];exact h3
end Mem
end
section
open Go.RowKit
namespace zb0
open WLaw
theorem toMount_any (x:Pl.Mn) (w:World):
  Calls Tryz.prog 53 #[.agg #[.string x.p, .int .i64 x.i, .bool x.z]] w fun e w'=>e= .returned (.agg #[.string x.p, .int .i64 x.i, .bool x.z])∧Below w.heap.size w w':=by
 have b0:∀o1 o2 o3,Below w.heap.size w (((w.alloc o1).alloc o2).alloc o3):=fun o1 o2 o3=>(((Below.refl _ _).alloc (Nat.le_refl _) o1).alloc (by simp) o2).alloc (by simp;omega) o3;have HB:=hide b0;clear b0;go_enter Tryz.func53,Tryz.ntmps53
 go_wp2
 refine bodyPost_ret (v:= .agg #[.string x.p, .int .i64 x.i, .bool x.z]) (by simp [results,Tryz.results53,go_sem]) rfl ⟨rfl,?_⟩
 first |exact za HB _ _ _|exact ((za HB _ _ _).setCell (by omega) _)|skip
theorem infoMount:(Tryz.prog.info? 49).map (fun i=>(i.zero,i.size,i.bytes))=some (some (.agg #[.string ⟨#[]⟩, .int .i64 0, .bool false]),3,32):=by kernel_rfl
theorem makeMount (n:Nat) (hn:n≤1048576) (w:World):(Instr.makeSlice 29 (.int .i64 (n:Int)) (.int .i64 (n:Int))).run Tryz.prog w= .ok (.slice (some ⟨w.heap.size,0,none⟩) n n) (w.alloc (.cells (madeCells (Value.agg #[.string ⟨#[]⟩, .int .i64 0, .bool false]).cells (n*3)) 49)):=by
 obtain ⟨i0,h0,h1,h2,h3⟩:=info_parts infoMount;have h:=run_make (P:=Tryz.prog) w 29 49 i0 (.agg #[.string ⟨#[]⟩, .int .i64 0, .bool false]) Tryz.underlying29 h0 h1 .i64 .i64 (n:Int) (n:Int) (by omega) (Int.le_refl _) (by rw [h3];omega) (by omega);rw [h,h2];simp
theorem toMountS_any (a:Option Addr) (cap:Nat) (Ts:List Pl.Mn) (w:World) (hl:Ts.length≤1048576) (hv:Mem.zc6 w a Ts):
  Calls Tryz.prog 23 #[.slice a Ts.length cap] w fun e w'=>e= .returned (.slice (some ⟨w.heap.size,0,none⟩) Ts.length Ts.length)∧(∃cur,Mem.Cop3 49 (fun x:Pl.Mn=> .string x.p) (fun x:Pl.Mn=> .int .i64 x.i) (fun x:Pl.Mn=> .bool x.z) w w' Ts.length Ts cur)∧Below w.heap.size w w':=by
 have HV:=hide hv;have hmk:=makeMount Ts.length hl w;clear hv;go_enter Tryz.func23,Tryz.ntmps23
 go_wp2
 go_loopw [4] (fun i wr=>∃ (D:List Pl.Mn) (cur:Array Value),D.length≤Ts.length∧i= .int .i64 (D.length:Int)∧Below w.heap.size w wr∧Hid (D=Ts.take D.length)∧Hid (Mem.Cop3 49 (fun x:Pl.Mn=> .string x.p) (fun x:Pl.Mn=> .int .i64 x.i) (fun x:Pl.Mn=> .bool x.z) w wr Ts.length D cur)) (fun i _=>Ts.length - (intOf i).toNat)
 case atStart=>exact ⟨[],_,Nat.zero_le _,rfl,bE0,hide rfl,hide ⟨heap_alloc_new w _,size_madeCells _ _,fun j t h=>by simp at h⟩⟩
 case round=>
  obtain ⟨D,cur,hk,rfl,hbel,HD,HC⟩:=hrel;by_cases hlt:D.length<Ts.length
  ·obtain ⟨t,ht⟩:∃t,Ts[D.length]? =some t:=⟨_,List.getElem?_eq_getElem hlt⟩;obtain ⟨b,o,rfl,hb,q0,q1,q2⟩:=(za HV) D.length t ht;have c0:=(hbel.cell (p:=⟨b,_,none⟩) hb).trans q0;have c1:=(hbel.cell (p:=⟨b,_,none⟩) hb).trans q1;have c2:=(hbel.cell (p:=⟨b,_,none⟩) hb).trans q2;have hz:=hide (fun W=>toMount_any t W);have u1:(D.length:Int)<(Ts.length:Int):=by omega
   have u3:(0:Int)≤(D.length:Int):=by omega
   have HD2:Hid (D++[t]=Ts.take (D++[t]).length):=hide (by
    have h:=za HD
    rw [List.length_append,List.length_singleton,List.take_add_one,ht,←h];rfl)
   clear q0 q1 q2 ht HD;go_wp2_with fail
   refine (za hz _).mono ?_;rintro e w1 ⟨rfl,b1⟩;have C1:=(za HC).call b1;have hb2:=hbel.trans (b1.mono hbel.size);obtain ⟨⟨x0,s0⟩,f0⟩:=C1.cell (k:=D.length*3) (by omega);obtain ⟨⟨x1,s1⟩,f1⟩:=C1.cell (k:=D.length*3+1) (by omega);obtain ⟨⟨x2,s2⟩,f2⟩:=C1.cell (k:=D.length*3+2) (by omega);have HC2:=hide (C1.put t hlt);have HB2:=hide hb2;clear b1 hbel hz HC C1 hb2;go_wp2
   go_roundw
   case rel=>exact ⟨D++[t],_,by rw [List.length_append,List.length_singleton];omega,by rw [List.length_append,List.length_singleton];go_num,(((za HB2).setCell (Nat.le_refl _) _).setCell (Nat.le_refl _) _).setCell (Nat.le_refl _) _,HD2,HC2⟩
   case measure=>simp [intOf];omega
  ·have u1:¬ (D.length:Int)<(Ts.length:Int):=by omega
   have HE:Hid (D=Ts):=hide (by
    have h:=za HD
    rw [h,List.take_of_length_le (by omega)])
   go_wp2
   go_ret
   exact ⟨rfl,⟨cur,by have h:=za HC;rw [za HE] at h;exact h⟩,hbel⟩
theorem toHandle_any (x:Pl.Hn) (w:World):
  Calls Tryz.prog 54 #[.agg #[.int .i64 x.d, .int .i64 x.i, .string x.p]] w fun e w'=>e= .returned (.agg #[.int .i64 x.d, .int .i64 x.i, .string x.p])∧Below w.heap.size w w':=by
 have b0:∀o1 o2 o3,Below w.heap.size w (((w.alloc o1).alloc o2).alloc o3):=fun o1 o2 o3=>(((Below.refl _ _).alloc (Nat.le_refl _) o1).alloc (by simp) o2).alloc (by simp;omega) o3;have HB:=hide b0;clear b0;go_enter Tryz.func54,Tryz.ntmps54
 go_wp2
 refine bodyPost_ret (v:= .agg #[.int .i64 x.d, .int .i64 x.i, .string x.p]) (by simp [results,Tryz.results54,go_sem]) rfl ⟨rfl,?_⟩
 first |exact za HB _ _ _|exact ((za HB _ _ _).setCell (by omega) _)|skip
theorem infoHandle:(Tryz.prog.info? 113).map (fun i=>(i.zero,i.size,i.bytes))=some (some (.agg #[.int .i64 0, .int .i64 0, .string ⟨#[]⟩]),3,32):=by kernel_rfl
theorem makeHandle (n:Nat) (hn:n≤1048576) (w:World):(Instr.makeSlice 30 (.int .i64 (n:Int)) (.int .i64 (n:Int))).run Tryz.prog w= .ok (.slice (some ⟨w.heap.size,0,none⟩) n n) (w.alloc (.cells (madeCells (Value.agg #[.int .i64 0, .int .i64 0, .string ⟨#[]⟩]).cells (n*3)) 113)):=by
 obtain ⟨i0,h0,h1,h2,h3⟩:=info_parts infoHandle;have h:=run_make (P:=Tryz.prog) w 30 113 i0 (.agg #[.int .i64 0, .int .i64 0, .string ⟨#[]⟩]) Tryz.underlying30 h0 h1 .i64 .i64 (n:Int) (n:Int) (by omega) (Int.le_refl _) (by rw [h3];omega) (by omega);rw [h,h2];simp
theorem toHandleS_any (a:Option Addr) (cap:Nat) (Ts:List Pl.Hn) (w:World) (hl:Ts.length≤1048576) (hv:Mem.ze2 w a Ts):
  Calls Tryz.prog 24 #[.slice a Ts.length cap] w fun e w'=>e= .returned (.slice (some ⟨w.heap.size,0,none⟩) Ts.length Ts.length)∧(∃cur,Mem.Cop3 113 (fun x:Pl.Hn=> .int .i64 x.d) (fun x:Pl.Hn=> .int .i64 x.i) (fun x:Pl.Hn=> .string x.p) w w' Ts.length Ts cur)∧Below w.heap.size w w':=by
 have HV:=hide hv;have hmk:=makeHandle Ts.length hl w;clear hv;go_enter Tryz.func24,Tryz.ntmps24
 go_wp2
 go_loopw [4] (fun i wr=>∃ (D:List Pl.Hn) (cur:Array Value),D.length≤Ts.length∧i= .int .i64 (D.length:Int)∧Below w.heap.size w wr∧Hid (D=Ts.take D.length)∧Hid (Mem.Cop3 113 (fun x:Pl.Hn=> .int .i64 x.d) (fun x:Pl.Hn=> .int .i64 x.i) (fun x:Pl.Hn=> .string x.p) w wr Ts.length D cur)) (fun i _=>Ts.length - (intOf i).toNat)
 case atStart=>exact ⟨[],_,Nat.zero_le _,rfl,bE0,hide rfl,hide ⟨heap_alloc_new w _,size_madeCells _ _,fun j t h=>by simp at h⟩⟩
 case round=>
  obtain ⟨D,cur,hk,rfl,hbel,HD,HC⟩:=hrel;by_cases hlt:D.length<Ts.length
  ·obtain ⟨t,ht⟩:∃t,Ts[D.length]? =some t:=⟨_,List.getElem?_eq_getElem hlt⟩;obtain ⟨b,o,rfl,hb,q0,q1,q2⟩:=(za HV) D.length t ht;have c0:=(hbel.cell (p:=⟨b,_,none⟩) hb).trans q0;have c1:=(hbel.cell (p:=⟨b,_,none⟩) hb).trans q1;have c2:=(hbel.cell (p:=⟨b,_,none⟩) hb).trans q2;have hz:=hide (fun W=>toHandle_any t W);have u1:(D.length:Int)<(Ts.length:Int):=by omega
   have u3:(0:Int)≤(D.length:Int):=by omega
   have HD2:Hid (D++[t]=Ts.take (D++[t]).length):=hide (by
    have h:=za HD
    rw [List.length_append,List.length_singleton,List.take_add_one,ht,←h];rfl)
   clear q0 q1 q2 ht HD;go_wp2_with fail
   refine (za hz _).mono ?_;rintro e w1 ⟨rfl,b1⟩;have C1:=(za HC).call b1;have hb2:=hbel.trans (b1.mono hbel.size);obtain ⟨⟨x0,s0⟩,f0⟩:=C1.cell (k:=D.length*3) (by omega);obtain ⟨⟨x1,s1⟩,f1⟩:=C1.cell (k:=D.length*3+1) (by omega);obtain ⟨⟨x2,s2⟩,f2⟩:=C1.cell (k:=D.length*3+2) (by omega);have HC2:=hide (C1.put t hlt);have HB2:=hide hb2;clear b1 hbel hz HC C1 hb2;go_wp2
   go_roundw
   case rel=>exact ⟨D++[t],_,by rw [List.length_append,List.length_singleton];omega,by rw [List.length_append,List.length_singleton];go_num,(((za HB2).setCell (Nat.le_refl _) _).setCell (Nat.le_refl _) _).setCell (Nat.le_refl _) _,HD2,HC2⟩
   case measure=>simp [intOf];omega
  ·have u1:¬ (D.length:Int)<(Ts.length:Int):=by omega
   have HE:Hid (D=Ts):=hide (by
    have h:=za HD
    rw [h,List.take_of_length_le (by omega)])
   go_wp2
   go_ret
   exact ⟨rfl,⟨cur,by have h:=za HC;rw [za HE] at h;exact h⟩,hbel⟩
end zb0
end
section
open Go.RowKit
namespace WLawY
open WLaw
theorem yb1 (x:Pl.It) (w:World) (hl:x.t.L.length≤1048576) (hv:Mem.zb1 w x.t.a x.t.L):
  Calls Tryz.prog 106 #[.agg #[.int .i64 x.m, .slice x.t.a x.t.L.length x.t.cap]] w fun e w'=>∃g,e= .returned (.agg #[.int .i64 x.m, .slice (some ⟨g,0,none⟩) x.t.L.length x.t.L.length])∧w.heap.size≤g∧(∃cs,w'.heap[g]? =some (.cells cs 55 (0,0))∧x.t.L.length*5≤cs.size)∧Mem.zb1 w' (some ⟨g,0,none⟩) x.t.L∧Below w.heap.size w w':=by
 obtain ⟨m,a,cap,L⟩:=x;simp only at hl hv ⊢;have b0:Below w.heap.size w (((w.alloc (.cells #[.int .i64 m, .slice a L.length cap] 196)).alloc (.cells #[.int .i64 0, .slice none 0 0] 109)).alloc (.cells #[.int .i64 m, .slice none 0 0] 109)):=((bE0).alloc (by simp) _).alloc (by simp;omega) _;have hz:=hide (yi8 a cap L _ hl (Mem.za9 hv b0));have hs:(((w.alloc (.cells #[.int .i64 m, .slice a L.length cap] 196)).alloc (.cells #[.int .i64 0, .slice none 0 0] 109)).alloc (.cells #[.int .i64 m, .slice none 0 0] 109)).heap.size=w.heap.size+1+1+1:=by simp
 have r1:Mem.Blk (((w.alloc (.cells #[.int .i64 m, .slice a L.length cap] 196)).alloc (.cells #[.int .i64 0, .slice none 0 0] 109)).alloc (.cells #[.int .i64 m, .slice none 0 0] 109)) (w.heap.size+1) #[.int .i64 0, .slice none 0 0] 109:=Mem.zz4 w _ _ _;have r2:Mem.Blk (((w.alloc (.cells #[.int .i64 m, .slice a L.length cap] 196)).alloc (.cells #[.int .i64 0, .slice none 0 0] 109)).alloc (.cells #[.int .i64 m, .slice none 0 0] 109)) (w.heap.size+1+1) #[.int .i64 m, .slice none 0 0] 109:=Mem.zw1 w _ _ _;have HB0:=hide b0;clear hv b0;go_enter Tryz.func106,Tryz.ntmps106
 go_wp2_with fail
 generalize (((w.alloc (.cells #[.int .i64 m, .slice a L.length cap] 196)).alloc (.cells #[.int .i64 0, .slice none 0 0] 109)).alloc (.cells #[.int .i64 m, .slice none 0 0] 109))=w3 at hz hs r1 r2 HB0 ⊢;refine (za hz).mono ?_;rintro e w1 ⟨g,rfl,hg,⟨cs,hrow,hcs⟩,hn,b1⟩;have HRW:=hide hrow;have HCS:=hide hcs;have R1:=r1.call b1;have R2:=r2.call b1;obtain ⟨c10,c11⟩:=jc2 R1;obtain ⟨c20,c21⟩:=jc2 R2;have f10:=R1.fr 0;have f11:=R1.fr 1;have f20:=R2.fr 0;have f21:=R2.fr 1;have bb:=hide ((za HB0).trans (b1.mono (za HB0).size));have HG:Hid (w.heap.size+1+1+1≤g):=hide (by omega);have HN:=hide hn;clear hz b1 hn hs r1 r2 R1 R2 HB0 hg hrow hcs;go_wp2
 have hg:=za HG;refine bodyPost_ret (v:= .agg #[.int .i64 m, .slice (some ⟨g,0,none⟩) L.length L.length]) (by simp [results,Tryz.results106,go_sem,c10,c11]) rfl ⟨g,rfl,by omega,⟨cs,?_,by have :=za HCS;omega⟩,?_,?_⟩
 ·rw [heap_setCell_other _ _ _ _ (by show g≠w.heap.size+1;omega),heap_setCell_other _ _ _ _ (by show g≠w.heap.size+1;omega),heap_setCell_other _ _ _ _ (by show g≠w.heap.size+1+1;omega)];exact za HRW
 ·exact Mem.zf2 (Mem.zf2 (Mem.zf2 (za HN) _ _ (by show w.heap.size+1+1≠g;omega)) _ _ (by show w.heap.size+1≠g;omega)) _ _ (by show w.heap.size+1≠g;omega)
 ·exact (((za bb).setCell (by show w.heap.size≤w.heap.size+1+1;omega) _).setCell (by show w.heap.size≤w.heap.size+1;omega) _).setCell (by show w.heap.size≤w.heap.size+1;omega) _
structure CopI (w wr:World) (Ts D:List Pl.It) (cur:Array Value):Prop where
 blk:wr.heap[w.heap.size]? =some (.cells cur 109 (0,0))
 size:cur.size=Ts.length*2
 same:D.map Pl.It.r=(Ts.take D.length).map Pl.It.r
 each:∀ (j:Nat) t,D[j]? =some t→cur[j*2]? =some (.int .i64 t.m)∧cur[j*2+1]? =some t.t.val∧∃g,t.t.a=some ⟨g,0,none⟩∧w.heap.size<g∧Mem.zb1 wr t.t.a t.t.L∧∃cs,wr.heap[g]? =some (.cells cs 55 (0,0))∧t.t.L.length*5≤cs.size∧t.t.cap=t.t.L.length
theorem CopI.call {w wr W:World} {Ts D:List Pl.It} {cur:Array Value} (h:CopI w wr Ts D cur) (b:Below wr.heap.size wr W):CopI w W Ts D cur:=
 ⟨(b.block _ (Array.getElem?_eq_some_iff.1 h.blk).1).trans h.blk,h.size,h.same,fun j t hj=>⟨(h.each j t hj).1,(h.each j t hj).2.1,by
  obtain ⟨g,h1,h2,h3,cs,h4,h5⟩:=(h.each j t hj).2.2
  exact ⟨g,h1,h2,Mem.za9 h3 b,cs,(b.block _ (Array.getElem?_eq_some_iff.1 h4).1).trans h4,h5⟩⟩⟩
theorem CopI.put {w wr:World} {Ts D:List Pl.It} {cur:Array Value} (h:CopI w wr Ts D cur) (t:Pl.It) (g:Nat) (hk:Ts[D.length]? =some t) (hg:w.heap.size<g) (hn:Mem.zb1 wr (some ⟨g,0,none⟩) t.t.L) (hr:∃cs,wr.heap[g]? =some (.cells cs 55 (0,0))∧t.t.L.length*5≤cs.size):
  CopI w ((wr.setCell ⟨w.heap.size,D.length*2,none⟩ (.int .i64 t.m)).setCell ⟨w.heap.size,D.length*2+1,none⟩ (.slice (some ⟨g,0,none⟩) t.t.L.length t.t.L.length)) Ts (D++[⟨t.m,some ⟨g,0,none⟩,t.t.L.length,t.t.L⟩]) ((cur.setIfInBounds (D.length*2) (.int .i64 t.m)).setIfInBounds (D.length*2+1) (.slice (some ⟨g,0,none⟩) t.t.L.length t.t.L.length)):=by
 have hlt:=(List.getElem?_eq_some_iff.1 hk).1;have hsz:=h.size;refine ⟨heap_setCell_same _ _ _ _ _ _ (heap_setCell_same _ _ _ _ _ _ h.blk),by simpa using h.size,?_,fun j m hj=>?_⟩
 ·rw [List.length_append,List.length_singleton,List.take_add_one,hk,List.map_append,List.map_append,h.same];rfl
 ·by_cases e:j<D.length
  ·rw [List.getElem?_append_left e] at hj;obtain ⟨h1,h1',g',h2,h3,h4,cs,h5,h6⟩:=h.each j m hj;refine ⟨by rw [Array.getElem?_setIfInBounds,if_neg (by omega),Array.getElem?_setIfInBounds,if_neg (by omega)];exact h1,by rw [Array.getElem?_setIfInBounds,if_neg (by omega),Array.getElem?_setIfInBounds,if_neg (by omega)];exact h1',g',h2,h3,?_,cs,(heap_setCell_other _ _ _ _ (by show g'≠w.heap.size;omega)).trans ((heap_setCell_other _ _ _ _ (by show g'≠w.heap.size;omega)).trans h5),h6⟩;rw [h2] at h4 ⊢;exact Mem.zf2 (Mem.zf2 h4 _ _ (by show w.heap.size≠g';omega)) _ _ (by show w.heap.size≠g';omega)
  ·rw [List.getElem?_append_right (by omega)] at hj
   have hj0:j=D.length:=by
    have :=(List.getElem?_eq_some_iff.1 hj).1;simp at this;omega
   subst hj0;simp at hj
   subst hj;obtain ⟨cs,h5,h6⟩:=hr;refine ⟨?_,?_,g,rfl,hg,Mem.zf2 (Mem.zf2 hn _ _ (by show w.heap.size≠g;omega)) _ _ (by show w.heap.size≠g;omega),cs,(heap_setCell_other _ _ _ _ (by show g≠w.heap.size;omega)).trans ((heap_setCell_other _ _ _ _ (by show g≠w.heap.size;omega)).trans h5),h6,rfl⟩
   ·rw [Array.getElem?_setIfInBounds,if_neg (by omega),Array.getElem?_setIfInBounds,if_pos rfl,if_pos (by omega)]
   ·rw [Array.getElem?_setIfInBounds,if_pos rfl,if_pos (by rw [Array.size_setIfInBounds];omega)];rfl
theorem CopI.items {w wr:World} {Ts D:List Pl.It} {cur:Array Value} (h:CopI w wr Ts D cur):Mem.zb4 wr (some ⟨w.heap.size,0,none⟩) D:=fun i t hi=>by
 obtain ⟨h1,h1',g,h2,h3,h4, -⟩:=h.each i t hi;refine ⟨⟨_,0,rfl,(Array.getElem?_eq_some_iff.1 h.blk).1,?_,?_⟩,h4⟩
 ·rw [cell_of_row wr _ _ _ _ (0,0) h.blk,Nat.zero_add];exact h1
 ·rw [cell_of_row wr _ _ _ _ (0,0) h.blk,Nat.zero_add];exact h1'
theorem zz3 (a:Option Addr) (cap:Nat) (Ts:List Pl.It) (w:World) (hl:Ts.length≤1048576) (hv:Mem.zb4 w a Ts) (hok:∀t∈Ts,t.t.L.length≤1048576):
  Calls Tryz.prog 83 #[.slice a Ts.length cap] w fun e w'=>e= .returned (.slice (some ⟨w.heap.size,0,none⟩) Ts.length Ts.length)∧(∃D cur,D.length=Ts.length∧CopI w w' Ts D cur)∧Below w.heap.size w w':=by
 have HV:=hide hv;have HO:=hide hok;have hmk:=makeI Ts.length hl w;clear hv hok;go_enter Tryz.func83,Tryz.ntmps83
 go_wp2
 go_loopw [4] (fun i wr=>∃ (D:List Pl.It) (cur:Array Value),D.length≤Ts.length∧i= .int .i64 (D.length:Int)∧Below w.heap.size w wr∧Hid (CopI w wr Ts D cur)) (fun i _=>Ts.length - (intOf i).toNat)
 case atStart=>exact ⟨[],zu5 Ts.length,Nat.zero_le _,rfl,bE0,hide ⟨heap_alloc_new w _,ya2 _,rfl,fun j t h=>by simp at h⟩⟩
 case round=>
  obtain ⟨D,cur,hk,rfl,hbel,HC⟩:=hrel;by_cases hlt:D.length<Ts.length
  ·obtain ⟨t,ht⟩:∃t,Ts[D.length]? =some t:=⟨_,List.getElem?_eq_getElem hlt⟩;obtain ⟨⟨b,o,rfl,hb,q0,q0'⟩,q1⟩:=(za HV) D.length t ht;have c0:=(hbel.cell (p:=⟨b,_,none⟩) hb).trans q0;have c1:=(hbel.cell (p:=⟨b,_,none⟩) hb).trans q0';have hz:=hide (fun W (b:Below w.heap.size w W)=>yb1 t W (za HO t (List.mem_of_getElem? ht)) (Mem.za9 q1 b));have HN:=hide ht;have u1:(D.length:Int)<(Ts.length:Int):=by omega
   have u3:(0:Int)≤(D.length:Int):=by omega
   simp only [Pl.Tr.val] at c1;clear q0 q0' ht q1;go_wp2_with fail
   refine (za hz _ hbel).mono ?_;rintro e w1 ⟨g,rfl,hg,hrr,hn,b1⟩;have hgw:w.heap.size<g:=by have :=(Array.getElem?_eq_some_iff.1 (za HC).blk).1;omega
   have C1:=(za HC).call b1;have hb2:=hbel.trans (b1.mono hbel.size);have hcs:=C1.size;obtain ⟨x0,s0⟩:∃x,w1.cell? ⟨w.heap.size,D.length*2,none⟩=some x:=⟨_,(cell_of_row w1 _ (D.length*2) _ _ (0,0) C1.blk).trans (Array.getElem?_eq_getElem (by omega))⟩;obtain ⟨x1,s1⟩:∃x,w1.cell? ⟨w.heap.size,D.length*2+1,none⟩=some x:=⟨_,(cell_of_row w1 _ (D.length*2+1) _ _ (0,0) C1.blk).trans (Array.getElem?_eq_getElem (by omega))⟩;have f0:w1.frozen? ⟨w.heap.size,D.length*2,none⟩=false:=Mem.zc2 C1.blk;have f1:w1.frozen? ⟨w.heap.size,D.length*2+1,none⟩=false:=Mem.zc2 C1.blk;have HC2:=hide (C1.put t g (za HN) hgw hn hrr);have HB2:=hide hb2;clear b1 hbel hz HC C1 hn hg hb2 hcs hrr;go_wp2
   go_roundw
   case rel=>exact ⟨_,_,by rw [List.length_append,List.length_singleton];omega,by rw [List.length_append,List.length_singleton];go_num,((za HB2).setCell (Nat.le_refl _) _).setCell (Nat.le_refl _) _,HC2⟩
   case measure=>simp [intOf];omega
  ·have u1:¬ (D.length:Int)<(Ts.length:Int):=by omega
   go_wp2
   go_ret
   exact ⟨rfl,⟨D,by omega,cur,za HC⟩,hbel⟩
structure Rows (W:World) (g:Nat) (D:List Pl.It):Prop where
 items:Mem.zb4 W (some ⟨g,0,none⟩) D
 blk:∃cur,W.heap[g]? =some (.cells cur 109 (0,0))∧cur.size=D.length*2
 each:∀ (j:Nat) t,D[j]? =some t→∃q,t.t.a=some ⟨q,0,none⟩∧g<q∧q<W.heap.size∧∃cs,W.heap[q]? =some (.cells cs 55 (0,0))∧t.t.L.length*5≤cs.size∧t.t.cap=t.t.L.length
theorem yi3 (a:Option Addr) (cap:Nat) (Ts:List Pl.It) (w:World) (hl:Ts.length≤1048576) (hv:Mem.zb4 w a Ts) (hok:∀t∈Ts,t.t.L.length≤1048576):
  Calls Tryz.prog 83 #[.slice a Ts.length cap] w fun e w'=>∃g D,e= .returned (.slice (some ⟨g,0,none⟩) Ts.length Ts.length)∧w.heap.size≤g∧D.length=Ts.length∧D.map Pl.It.r=Ts.map Pl.It.r∧Rows w' g D∧Below w.heap.size w w':=
 (zz3 a cap Ts w hl hv hok).mono fun _ _ ⟨he,⟨D,cur,hD,hC⟩,b⟩=>⟨_,D,he,Nat.le_refl _,hD,by rw [hC.same,hD,List.take_length],⟨hC.items,⟨cur,hC.blk,by rw [hC.size,hD]⟩,fun j t hj=>by
  obtain ⟨-, -,g,h2,h3, -,cs,h5,h6⟩:=hC.each j t hj
  exact ⟨g,h2,h3,(Array.getElem?_eq_some_iff.1 h5).1,cs,h5,h6⟩⟩,b⟩
end WLawY
end
section
open Go.RowKit
namespace WMkJ
structure Has (W:World) (g X:Nat) (D:List Pl.It):Prop where
 cell:∀ (j:Nat) t,D[j]? =some t→W.cell? ⟨g,j*2+1,none⟩=some t.t.val
 blk:∃cur,W.heap[g]? =some (.cells cur 109 (0,0))∧cur.size=D.length*2
 gx:g<X
 each:∀ (j:Nat) t,D[j]? =some t→∃q,t.t.a=some ⟨q,0,none⟩∧g<q∧q<X∧∃cs,W.heap[q]? =some (.cells cs 55 (0,0))∧t.t.L.length*5≤cs.size
theorem Has.lt {W:World} {g X:Nat} {D:List Pl.It} (h:Has W g X D):g<W.heap.size:=by
 obtain ⟨cur,h1, -⟩:=h.blk;exact (Array.getElem?_eq_some_iff.1 h1).1
theorem has_rows {W:World} {g:Nat} {D:List Pl.It} (h:WLawY.Rows W g D):Has W g W.heap.size D:=
 ⟨fun j t hj=>by
  obtain ⟨⟨b,o,h1,h2,h3,h5⟩, -⟩:=h.items j t hj;cases h1
  rw [Nat.zero_add] at h5;exact h5,h.blk,by
  obtain ⟨cur,h1, -⟩:=h.blk;exact (Array.getElem?_eq_some_iff.1 h1).1,fun j t hj=>by
  obtain ⟨q,k1,k2,k3,cs,k4,k5, -⟩:=h.each j t hj
  exact ⟨q,k1,k2,k3,cs,k4,k5⟩⟩
theorem Has.call {W W':World} {g X:Nat} {D:List Pl.It} (h:Has W g X D) (b:Below W.heap.size W W'):Has W' g X D:=
 ⟨fun j t hj=>(b.cell (p:=⟨g,j*2+1,none⟩) h.lt).trans (h.cell j t hj),by
  obtain ⟨cur,h1,h2⟩:=h.blk;exact ⟨cur,(b.block g h.lt).trans h1,h2⟩,h.gx,fun j t hj=>by
  obtain ⟨q,h1,h2,h3,cs,h4,h5⟩:=h.each j t hj
  exact ⟨q,h1,h2,h3,cs,(b.block q (Array.getElem?_eq_some_iff.1 h4).1).trans h4,h5⟩⟩
theorem zi {w w':World} {g j:Nat} (h:w'.heap[g]? =w.heap[g]?):w'.cell? ⟨g,j,none⟩=w.cell? ⟨g,j,none⟩:=by
 simp only [World.cell?,h]
theorem Has.many {W:World} {g X i:Nat} {D:List Pl.It} (h:Has W g X D) (v:Value):Has (W.setCell ⟨g,i*2,none⟩ v) g X D:=by
 obtain ⟨cur,h1,h2⟩:=h.blk;have hb:(W.setCell ⟨g,i*2,none⟩ v).heap[g]? =some (.cells (cur.setIfInBounds (i*2) v) 109 (0,0)):=heap_setCell_same _ _ _ _ _ _ h1;refine ⟨fun j t hj=>?_,⟨_,hb,by simpa using h2⟩,h.gx,fun j t hj=>?_⟩
 ·have hc:=h.cell j t hj;rw [cell_of_row W _ _ _ _ (0,0) h1] at hc;rw [cell_of_row _ _ _ _ _ (0,0) hb,Array.getElem?_setIfInBounds,if_neg (by omega)];exact hc
 ·obtain ⟨q,h1,h2,h3,cs,h4,h5⟩:=h.each j t hj;exact ⟨q,h1,h2,h3,cs,(heap_setCell_other _ _ _ _ (by show q≠g;omega)).trans h4,h5⟩
theorem Has.marked {W W':World} {g X q:Nat} {D:List Pl.It} {cur cur':Array Value} (h:Has W g X D) (hq:g<q) (hr:W.heap[q]? =some (.cells cur 55 (0,0))) (hr':W'.heap[q]? =some (.cells cur' 55 (0,0))) (hs:cur'.size=cur.size) (hg:W.grownBy W' (some q)):Has W' g X D:=
 ⟨fun j t hj=>(zi (hg.block g h.lt (fun e=>by cases e;omega))).trans (h.cell j t hj),by
  obtain ⟨c,h1,h2⟩:=h.blk;exact ⟨c,(hg.block g h.lt (fun e=>by cases e;omega)).trans h1,h2⟩,h.gx,fun j t hj=>by
  obtain ⟨p,h1,h2,h3,cs,h4,h5⟩:=h.each j t hj;by_cases e:p=q
  ·subst e;rw [hr] at h4;cases h4
   exact ⟨p,h1,h2,h3,cur',hr',by omega⟩
  ·exact ⟨p,h1,h2,h3,cs,(hg.block p (Array.getElem?_eq_some_iff.1 h4).1 (fun e2=>by cases e2;exact e rfl)).trans h4,h5⟩⟩
theorem Has.low {W:World} {g X:Nat} {D:List Pl.It} (h:Has W g X D) (p:Addr) (v:Value) (hp:p.block<g):Has (W.setCell p v) g X D:=
 ⟨fun j t hj=>(zi (heap_setCell_other _ _ _ _ (by omega))).trans (h.cell j t hj),by
  obtain ⟨cur,h1,h2⟩:=h.blk;exact ⟨cur,(heap_setCell_other _ _ _ _ (by omega)).trans h1,h2⟩,h.gx,fun j t hj=>by
  obtain ⟨q,h1,h2,h3,cs,h4,h5⟩:=h.each j t hj
  exact ⟨q,h1,h2,h3,cs,(heap_setCell_other _ _ _ _ (by omega)).trans h4,h5⟩⟩
theorem Has.same {W W':World} {g X:Nat} {D:List Pl.It} (h:Has W g X D) (hb:∀b,g≤b→b<X→b<W.heap.size→W'.heap[b]? =W.heap[b]?):Has W' g X D:=by
 have hl:=h.lt;refine ⟨fun j t hj=>(zi (hb g (Nat.le_refl _) h.gx hl)).trans (h.cell j t hj),?_,h.gx,fun j t hj=>?_⟩
 ·obtain ⟨cur,h1,h2⟩:=h.blk;exact ⟨cur,(hb g (Nat.le_refl _) h.gx hl).trans h1,h2⟩
 ·obtain ⟨q,h1,h2,h3,cs,h4,h5⟩:=h.each j t hj;exact ⟨q,h1,h2,h3,cs,(hb q (by omega) h3 (Array.getElem?_eq_some_iff.1 h4).1).trans h4,h5⟩
end WMkJ
end
section
open Go.RowKit
namespace WLawY
theorem Rows.call {W W':World} {g:Nat} {D:List Pl.It} (h:Rows W g D) (b:Below W.heap.size W W'):Rows W' g D:=by
 obtain ⟨cur,h1,h2⟩:=h.blk;refine ⟨Mem.zc0 h.items b,⟨cur,(b.block _ (Array.getElem?_eq_some_iff.1 h1).1).trans h1,h2⟩,fun j t hj=>?_⟩;obtain ⟨q,a1,a2,a3,cs,a4,a5⟩:=h.each j t hj;exact ⟨q,a1,a2,Nat.lt_of_lt_of_le a3 b.size,cs,(b.block _ (Array.getElem?_eq_some_iff.1 a4).1).trans a4,a5⟩
theorem Rows.low {W:World} {g:Nat} {D:List Pl.It} (h:Rows W g D) (p:Addr) (v:Value) (hp:p.block<g):Rows (W.setCell p v) g D:=by
 obtain ⟨cur,h1,h2⟩:=h.blk;have hg:=(Array.getElem?_eq_some_iff.1 h1).1;refine ⟨fun i t hi=>?_,⟨cur,(heap_setCell_other _ _ _ _ (by omega)).trans h1,h2⟩,fun j t hj=>?_⟩
 ·obtain ⟨⟨b,o,e,hb,c0,c1⟩,hn⟩:=h.items i t hi;cases e
  obtain ⟨q,a1,a2,a3, -⟩:=h.each i t hi;refine ⟨⟨g,0,rfl,by rw [World.size_setCell];exact hb,?_,?_⟩,?_⟩
  ·rw [World.cell?_setCell_other _ _ _ _ (fun e=>by rw [e] at hp;exact absurd hp (by show ¬g<g;omega))];exact c0
  ·rw [World.cell?_setCell_other _ _ _ _ (fun e=>by rw [e] at hp;exact absurd hp (by show ¬g<g;omega))];exact c1
  ·rw [a1] at hn ⊢;exact Mem.zf2 hn p v (by omega)
 ·obtain ⟨q,a1,a2,a3,cs,a4,a5⟩:=h.each j t hj;exact ⟨q,a1,a2,by rw [World.size_setCell];exact a3,cs,(heap_setCell_other _ _ _ _ (by omega)).trans a4,a5⟩
end WLawY
namespace zb0
open WLaw
theorem yl6 (x:Pl.Ns) (w:World) (hl:x.Is.length≤1048576) (hv:Mem.zb4 w x.a x.Is) (hok:∀t∈x.Is,t.t.L.length≤1048576):
  Calls Tryz.prog 52 #[.agg #[.int .i64 x.d, .slice x.a x.Is.length x.cap]] w fun e w'=>∃g D,e= .returned (.agg #[.int .i64 x.d, .slice (some ⟨g,0,none⟩) x.Is.length x.Is.length])∧w.heap.size≤g∧D.length=x.Is.length∧D.map Pl.It.r=x.Is.map Pl.It.r∧WLawY.Rows w' g D∧Below w.heap.size w w':=by
 obtain ⟨m,a,cap,L⟩:=x;simp only at hl hv hok ⊢;have b0:Below w.heap.size w (((w.alloc (.cells #[.int .i64 m, .slice a L.length cap] 85)).alloc (.cells #[.int .i64 0, .slice none 0 0] 96)).alloc (.cells #[.int .i64 m, .slice none 0 0] 96)):=((bE0).alloc (by simp) _).alloc (by simp;omega) _;have hz:=hide (WLawY.yi3 a cap L _ hl (Mem.zc0 hv b0) hok);have hs:(((w.alloc (.cells #[.int .i64 m, .slice a L.length cap] 85)).alloc (.cells #[.int .i64 0, .slice none 0 0] 96)).alloc (.cells #[.int .i64 m, .slice none 0 0] 96)).heap.size=w.heap.size+1+1+1:=by simp
 have r1:Mem.Blk (((w.alloc (.cells #[.int .i64 m, .slice a L.length cap] 85)).alloc (.cells #[.int .i64 0, .slice none 0 0] 96)).alloc (.cells #[.int .i64 m, .slice none 0 0] 96)) (w.heap.size+1) #[.int .i64 0, .slice none 0 0] 96:=Mem.zz4 w _ _ _;have r2:Mem.Blk (((w.alloc (.cells #[.int .i64 m, .slice a L.length cap] 85)).alloc (.cells #[.int .i64 0, .slice none 0 0] 96)).alloc (.cells #[.int .i64 m, .slice none 0 0] 96)) (w.heap.size+1+1) #[.int .i64 m, .slice none 0 0] 96:=Mem.zw1 w _ _ _;have HB0:=hide b0;clear hv b0 hok;go_enter Tryz.func52,Tryz.ntmps52
 go_wp2_with fail
 generalize (((w.alloc (.cells #[.int .i64 m, .slice a L.length cap] 85)).alloc (.cells #[.int .i64 0, .slice none 0 0] 96)).alloc (.cells #[.int .i64 m, .slice none 0 0] 96))=w3 at hz hs r1 r2 HB0 ⊢;refine (za hz).mono ?_;rintro e w1 ⟨g,D,rfl,hg,hD,hm,hn,b1⟩;have R1:=r1.call b1;have R2:=r2.call b1;obtain ⟨c10,c11⟩:=jc2 R1;obtain ⟨c20,c21⟩:=jc2 R2;have f10:=R1.fr 0;have f11:=R1.fr 1;have f20:=R2.fr 0;have f21:=R2.fr 1;have bb:=hide ((za HB0).trans (b1.mono (za HB0).size));have HG:Hid (w.heap.size+1+1+1≤g):=hide (by omega);have HN:=hide hn;have HD:=hide hD;have HM:=hide hm;clear hz b1 hn hs r1 r2 R1 R2 HB0 hg hD hm;go_wp2
 have hg:=za HG;refine bodyPost_ret (v:= .agg #[.int .i64 m, .slice (some ⟨g,0,none⟩) L.length L.length]) (by simp [results,Tryz.results52,go_sem,c10,c11]) rfl ⟨g,D,rfl,by omega,za HD,za HM,?_,?_⟩
 ·exact (((za HN).low _ _ (by show w.heap.size+1+1<g;omega)).low _ _ (by show w.heap.size+1<g;omega)).low _ _ (by show w.heap.size+1<g;omega)
 ·exact (((za bb).setCell (by show w.heap.size≤w.heap.size+1+1;omega) _).setCell (by show w.heap.size≤w.heap.size+1;omega) _).setCell (by show w.heap.size≤w.heap.size+1;omega) _
theorem infoInst:(Tryz.prog.info? 96).map (fun i=>(i.zero,i.size,i.bytes))=some (some (.agg #[.int .i64 0, .slice none 0 0]),2,32):=by kernel_rfl
theorem makeInst (n:Nat) (hn:n≤1048576) (w:World):(Instr.makeSlice 28 (.int .i64 (n:Int)) (.int .i64 (n:Int))).run Tryz.prog w= .ok (.slice (some ⟨w.heap.size,0,none⟩) n n) (w.alloc (.cells (madeCells (Value.agg #[.int .i64 0, .slice none 0 0]).cells (n*2)) 96)):=by
 obtain ⟨i0,h0,h1,h2,h3⟩:=info_parts infoInst;have h:=run_make (P:=Tryz.prog) w 28 96 i0 (.agg #[.int .i64 0, .slice none 0 0]) Tryz.underlying28 h0 h1 .i64 .i64 (n:Int) (n:Int) (by omega) (Int.le_refl _) (by rw [h3];omega) (by omega);rw [h,h2];simp
structure CopN (w wr:World) (Ts D:List Pl.Ns) (cur:Array Value) (B:Nat→Nat):Prop where
 blk:wr.heap[w.heap.size]? =some (.cells cur 96 (0,0))
 size:cur.size=Ts.length*2
 same:D.map Pl.Ns.r=(Ts.take D.length).map Pl.Ns.r
 each:∀ (j:Nat) t,D[j]? =some t→cur[j*2]? =some (.int .i64 t.d)∧cur[j*2+1]? =some (.slice t.a t.Is.length t.cap)∧∃g,t.a=some ⟨g,0,none⟩∧w.heap.size<g∧WLawY.Rows wr g t.Is∧t.cap=t.Is.length
 lo:w.heap.size<B 0
 top:B D.length≤wr.heap.size
 band:∀ (j:Nat) t,D[j]? =some t→∃g,t.a=some ⟨g,0,none⟩∧B j≤g∧WMkJ.Has wr g (B (j+1)) t.Is
theorem CopN.call {w wr W:World} {Ts D:List Pl.Ns} {cur:Array Value} {B:Nat→Nat} (h:CopN w wr Ts D cur B) (b:Below wr.heap.size wr W):CopN w W Ts D cur B:=
 ⟨(b.block _ (Array.getElem?_eq_some_iff.1 h.blk).1).trans h.blk,h.size,h.same,fun j t hj=>⟨(h.each j t hj).1,(h.each j t hj).2.1,by
  obtain ⟨g,h1,h2,h3,h4⟩:=(h.each j t hj).2.2
  exact ⟨g,h1,h2,h3.call b,h4⟩⟩,h.lo,Nat.le_trans h.top b.size,fun j t hj=>by
  obtain ⟨g,h1,h2,h3⟩:=h.band j t hj
  exact ⟨g,h1,h2,h3.call b⟩⟩
def more (B:Nat→Nat) (n X:Nat):Nat→Nat:=fun j=>if j≤n then B j else X
theorem CopN.put {w wr:World} {Ts D:List Pl.Ns} {cur:Array Value} {B:Nat→Nat} (h:CopN w wr Ts D cur B) (t:Pl.Ns) (g:Nat) (E:List Pl.It) (hk:Ts[D.length]? =some t) (hg:w.heap.size<g) (hE:E.length=t.Is.length) (hm:E.map Pl.It.r=t.Is.map Pl.It.r) (hn:WLawY.Rows wr g E) (hB:B D.length≤g):
  CopN w ((wr.setCell ⟨w.heap.size,D.length*2,none⟩ (.int .i64 t.d)).setCell ⟨w.heap.size,D.length*2+1,none⟩ (.slice (some ⟨g,0,none⟩) t.Is.length t.Is.length)) Ts (D++[⟨t.d,some ⟨g,0,none⟩,t.Is.length,E⟩]) ((cur.setIfInBounds (D.length*2) (.int .i64 t.d)).setIfInBounds (D.length*2+1) (.slice (some ⟨g,0,none⟩) t.Is.length t.Is.length)) (more B D.length wr.heap.size):=by
 have hlt:=(List.getElem?_eq_some_iff.1 hk).1;have hsz:=h.size;refine ⟨heap_setCell_same _ _ _ _ _ _ (heap_setCell_same _ _ _ _ _ _ h.blk),by simpa using h.size,?_,fun j m hj=>?_,by simp only [more,Nat.zero_le,if_true];exact h.lo,by simp only [more,List.length_append,List.length_singleton];rw [if_neg (by omega),World.size_setCell,World.size_setCell];exact Nat.le_refl _,fun j m hj=>?_⟩
 ·rw [List.length_append,List.length_singleton,List.take_add_one,hk,List.map_append,List.map_append,h.same];simp [Pl.Ns.r,hm]
 ·by_cases e:j<D.length
  ·rw [List.getElem?_append_left e] at hj;obtain ⟨h1,h1',g',h2,h3,h4,h5⟩:=h.each j m hj;exact ⟨by rw [Array.getElem?_setIfInBounds,if_neg (by omega),Array.getElem?_setIfInBounds,if_neg (by omega)];exact h1,by rw [Array.getElem?_setIfInBounds,if_neg (by omega),Array.getElem?_setIfInBounds,if_neg (by omega)];exact h1',g',h2,h3,(h4.low _ _ h3).low _ _ h3,h5⟩
  ·rw [List.getElem?_append_right (by omega)] at hj
   have hj0:j=D.length:=by
    have :=(List.getElem?_eq_some_iff.1 hj).1;simp at this;omega
   subst hj0;simp at hj
   subst hj;refine ⟨?_,?_,g,rfl,hg,(hn.low _ _ hg).low _ _ hg,hE.symm⟩
   ·rw [Array.getElem?_setIfInBounds,if_neg (by omega),Array.getElem?_setIfInBounds,if_pos rfl,if_pos (by omega)]
   ·rw [Array.getElem?_setIfInBounds,if_pos rfl,if_pos (by rw [Array.size_setIfInBounds];omega),hE]
 ·by_cases e:j<D.length
  ·rw [List.getElem?_append_left e] at hj;obtain ⟨g',h2,h3,h4⟩:=h.band j m hj
   have hg':w.heap.size<g':=by
    obtain ⟨-, -,g2,e2,h5, -⟩:=h.each j m hj;rw [h2] at e2;cases e2
    exact h5
   refine ⟨g',h2,by simp only [more];rw [if_pos (by omega)];exact h3,?_⟩;simp only [more];rw [if_pos (by omega)];exact (h4.low _ _ hg').low _ _ hg'
  ·rw [List.getElem?_append_right (by omega)] at hj
   have hj0:j=D.length:=by
    have :=(List.getElem?_eq_some_iff.1 hj).1;simp at this;omega
   subst hj0;simp at hj
   subst hj;refine ⟨g,rfl,by simp only [more];rw [if_pos (by omega)];exact hB,?_⟩;simp only [more];rw [if_neg (by omega)];exact ((WMkJ.has_rows hn).low _ _ hg).low _ _ hg
theorem CopN.zk0 {w wr:World} {Ts D:List Pl.Ns} {cur:Array Value} {B:Nat→Nat} (h:CopN w wr Ts D cur B):Mem.zh wr (some ⟨w.heap.size,0,none⟩) D:=fun i t hi=>by
 obtain ⟨h1,h1',g,h2,h3,h4, -⟩:=h.each i t hi;refine ⟨⟨_,0,rfl,(Array.getElem?_eq_some_iff.1 h.blk).1,?_,?_⟩,by rw [h2];exact h4.items⟩
 ·rw [cell_of_row wr _ _ _ _ (0,0) h.blk,Nat.zero_add];exact h1
 ·rw [cell_of_row wr _ _ _ _ (0,0) h.blk,Nat.zero_add];exact h1'
theorem yj (a:Option Addr) (cap:Nat) (Ts:List Pl.Ns) (w:World) (hl:Ts.length≤1048576) (hv:Mem.zh w a Ts) (hok:∀x∈Ts,x.Is.length≤1048576∧∀t∈x.Is,t.t.L.length≤1048576):
  Calls Tryz.prog 22 #[.slice a Ts.length cap] w fun e w'=>e= .returned (.slice (some ⟨w.heap.size,0,none⟩) Ts.length Ts.length)∧(∃D cur B,D.length=Ts.length∧CopN w w' Ts D cur B)∧Below w.heap.size w w':=by
 have HV:=hide hv;have HO:=hide hok;have hmk:=makeInst Ts.length hl w;clear hv hok;go_enter Tryz.func22,Tryz.ntmps22
 go_wp2
 go_loopw [4] (fun i wr=>∃ (D:List Pl.Ns) (cur:Array Value) (B:Nat→Nat),D.length≤Ts.length∧i= .int .i64 (D.length:Int)∧Below w.heap.size w wr∧Hid (CopN w wr Ts D cur B)) (fun i _=>Ts.length - (intOf i).toNat)
 case atStart=>exact ⟨[],_,fun _=>w.heap.size+1,Nat.zero_le _,rfl,bE0,hide ⟨heap_alloc_new w _,size_madeCells _ _,rfl,fun j t h=>by simp at h,Nat.lt_succ_self _,by simp,fun j t h=>by simp at h⟩⟩
 case round=>
  obtain ⟨D,cur,B,hk,rfl,hbel,HC⟩:=hrel;by_cases hlt:D.length<Ts.length
  ·obtain ⟨t,ht⟩:∃t,Ts[D.length]? =some t:=⟨_,List.getElem?_eq_getElem hlt⟩;obtain ⟨⟨b,o,rfl,hb,q0,q1⟩,qq⟩:=(za HV) D.length t ht;have c0:=(hbel.cell (p:=⟨b,_,none⟩) hb).trans q0;have c1:=(hbel.cell (p:=⟨b,_,none⟩) hb).trans q1;have hz:=hide (fun W (b:Below w.heap.size w W)=>yl6 t W (za HO t (List.mem_of_getElem? ht)).1 (Mem.zc0 qq b) (za HO t (List.mem_of_getElem? ht)).2);have HN:=hide ht;have u1:(D.length:Int)<(Ts.length:Int):=by omega
   have u3:(0:Int)≤(D.length:Int):=by omega
   clear q0 q1 ht qq;go_wp2_with fail
   refine (za hz _ hbel).mono ?_;rintro e w1 ⟨g,E,rfl,hg,hEl,hEm,hn,b1⟩;have hgw:w.heap.size<g:=by have :=(Array.getElem?_eq_some_iff.1 (za HC).blk).1;omega
   have C1:=(za HC).call b1;have hBg:B D.length≤g:=Nat.le_trans (za HC).top hg;have hb2:=hbel.trans (b1.mono hbel.size);have hcs:=C1.size;obtain ⟨x0,s0⟩:∃x,w1.cell? ⟨w.heap.size,D.length*2,none⟩=some x:=⟨_,(cell_of_row w1 _ (D.length*2) _ _ (0,0) C1.blk).trans (Array.getElem?_eq_getElem (by omega))⟩;obtain ⟨x1,s1⟩:∃x,w1.cell? ⟨w.heap.size,D.length*2+1,none⟩=some x:=⟨_,(cell_of_row w1 _ (D.length*2+1) _ _ (0,0) C1.blk).trans (Array.getElem?_eq_getElem (by omega))⟩;have f0:w1.frozen? ⟨w.heap.size,D.length*2,none⟩=false:=Mem.zc2 C1.blk;have f1:w1.frozen? ⟨w.heap.size,D.length*2+1,none⟩=false:=Mem.zc2 C1.blk;have HC2:=hide (C1.put t g E (za HN) hgw hEl hEm hn hBg);have HB2:=hide hb2;clear b1 hbel hz HC C1 hn hg hb2 hcs hEl hEm;go_wp2
   go_roundw
   case rel=>exact ⟨_,_,_,by rw [List.length_append,List.length_singleton];omega,by rw [List.length_append,List.length_singleton];go_num,((za HB2).setCell (Nat.le_refl _) _).setCell (Nat.le_refl _) _,HC2⟩
   case measure=>simp [intOf];omega
  ·have u1:¬ (D.length:Int)<(Ts.length:Int):=by omega
   go_wp2
   go_ret
   exact ⟨rfl,⟨D,by omega,cur,B,za HC⟩,hbel⟩
end zb0
end
section
open Go.RowKit
namespace zb0
structure HasS (W:World) (s:Pl.Sp) (gi gm gh:Nat) (B:Nat→Nat):Prop where
 ia:s.ia=some ⟨gi,0,none⟩
 ib:∃cur,W.heap[gi]? =some (.cells cur 96 (0,0))∧cur.size=s.N.length*2∧∀ (j:Nat) t,s.N[j]? =some t→cur[j*2+1]? =some (.slice t.a t.Is.length t.cap)
 lo:gi<B 0
 band:∀ (j:Nat) t,s.N[j]? =some t→∃g,t.a=some ⟨g,0,none⟩∧B j≤g∧WMkJ.Has W g (B (j+1)) t.Is
 top:B s.N.length≤gm
 ma:s.ma=some ⟨gm,0,none⟩
 mb:∃cur,W.heap[gm]? =some (.cells cur 49 (0,0))∧cur.size=s.M.length*3
 mh:gm<gh
 ha:s.ha=some ⟨gh,0,none⟩
 hb:∃cur,W.heap[gh]? =some (.cells cur 113 (0,0))∧cur.size=s.H.length*3
theorem HasS.call {W W':World} {s:Pl.Sp} {gi gm gh:Nat} {B:Nat→Nat} (h:HasS W s gi gm gh B) (b:Below W.heap.size W W'):HasS W' s gi gm gh B:=by
 obtain ⟨h1,⟨c1,h2,h3,h4⟩,h5,h6,h7,h8,⟨c2,h9,h10⟩,h11,h12,⟨c3,h13,h14⟩⟩:=h
 exact ⟨h1,⟨c1,(b.block _ (Array.getElem?_eq_some_iff.1 h2).1).trans h2,h3,h4⟩,h5,fun j t hj=>by
  obtain ⟨g,k1,k2,k3⟩:=h6 j t hj
  exact ⟨g,k1,k2,k3.call b⟩,h7,h8,⟨c2,(b.block _ (Array.getElem?_eq_some_iff.1 h9).1).trans h9,h10⟩,h11,h12,⟨c3,(b.block _ (Array.getElem?_eq_some_iff.1 h13).1).trans h13,h14⟩⟩
theorem HasS.mono {W:World} {s:Pl.Sp} {gi gm gh:Nat} {B:Nat→Nat} (h:HasS W s gi gm gh B):∀k,k≤s.N.length→B 0≤B k:=by
 intro k
 induction k with
 |zero=>intro _;exact Nat.le_refl _
 |succ k ih=>
  intro hk;have hx:s.N[k]? =some (s.N[k]'(by omega)):=List.getElem?_eq_getElem (by omega);obtain ⟨g, -,h2,h3⟩:=h.band k _ hx;have :=ih (by omega);have :=h3.gx;omega
theorem HasS.rise {W:World} {s:Pl.Sp} {gi gm gh:Nat} {B:Nat→Nat} (h:HasS W s gi gm gh B):∀k j,j≤k→k≤s.N.length→B j≤B k:=by
 intro k
 induction k with
 |zero=>
  intro j hj _;obtain rfl:j=0:=by omega
  exact Nat.le_refl _
 |succ k ih=>
  intro j hj hk;by_cases e:j=k+1
  ·subst e;exact Nat.le_refl _
  have hx:s.N[k]? =some (s.N[k]'(by omega)):=List.getElem?_eq_getElem (by omega);obtain ⟨g, -,h2,h3⟩:=h.band k _ hx;have :=ih j (by omega) (by omega);have :=h3.gx;omega
end zb0
end
section
open Go.RowKit
namespace Mem
theorem Cop3.low {α:Type} {T:TypeId} {f0 f1 f2:α→Value} {w wr:World} {n:Nat} {D:List α} {cur:Array Value} (h:Cop3 T f0 f1 f2 w wr n D cur) (p:Addr) (v:Value) (hp:p.block<w.heap.size):Cop3 T f0 f1 f2 w (wr.setCell p v) n D cur:=
 ⟨(heap_setCell_other _ _ _ _ (by omega)).trans h.blk,h.size,h.each⟩
end Mem
namespace zb0
theorem CopN.low {w wr:World} {Ts D:List Pl.Ns} {cur:Array Value} {B:Nat→Nat} (h:CopN w wr Ts D cur B) (p:Addr) (v:Value) (hp:p.block<w.heap.size):CopN w (wr.setCell p v) Ts D cur B:=
 ⟨(heap_setCell_other _ _ _ _ (by omega)).trans h.blk,h.size,h.same,fun j t hj=>⟨(h.each j t hj).1,(h.each j t hj).2.1,by
  obtain ⟨g,h1,h2,h3,h4⟩:=(h.each j t hj).2.2
  exact ⟨g,h1,h2,h3.low p v (by omega),h4⟩⟩,h.lo,by rw [World.size_setCell];exact h.top,fun j t hj=>by
  obtain ⟨g,h1,h2,h3⟩:=h.band j t hj;obtain ⟨-, -,g2,e2,h5, -⟩:=h.each j t hj;rw [h1] at e2;cases e2
  exact ⟨g,h1,h2,h3.low p v (by omega)⟩⟩
abbrev m0 (x:Pl.Mn):Value:= .string x.p
abbrev m1 (x:Pl.Mn):Value:= .int .i64 x.i
abbrev m2 (x:Pl.Mn):Value:= .bool x.z
abbrev h0 (x:Pl.Hn):Value:= .int .i64 x.d
abbrev h1 (x:Pl.Hn):Value:= .int .i64 x.i
abbrev h2 (x:Pl.Hn):Value:= .string x.p
theorem mounts_of {w wr:World} {n:Nat} {D:List Pl.Mn} {cur:Array Value} (h:Mem.Cop3 49 m0 m1 m2 w wr n D cur):Mem.zc6 wr (some ⟨w.heap.size,0,none⟩) D:=fun i x hi=>by
 obtain ⟨g1,g2,g3,g4⟩:=h.got hi;exact ⟨_,0,rfl,g1,g2,g3,g4⟩
theorem hands_of {w wr:World} {n:Nat} {D:List Pl.Hn} {cur:Array Value} (h:Mem.Cop3 113 h0 h1 h2 w wr n D cur):Mem.ze2 wr (some ⟨w.heap.size,0,none⟩) D:=fun i x hi=>by
 obtain ⟨g1,g2,g3,g4⟩:=h.got hi;exact ⟨_,0,rfl,g1,g2,g3,g4⟩
structure Tk (w W:World) (s:Pl.Sp) (O:Array Value):Prop where
 bel:Below w.heap.size w W
 b0:Mem.Blk W w.heap.size #[.slice s.ia s.N.length s.ic, .slice s.ma s.M.length s.mc, .slice s.ha s.H.length s.hc, .int .i64 s.next] 26
 b1:Mem.Blk W (w.heap.size+1) #[.slice none 0 0, .slice none 0 0, .slice none 0 0, .int .i64 0] 32
 b2:Mem.Blk W (w.heap.size+2) O 32
theorem Tk.call {w W W':World} {s:Pl.Sp} {O:Array Value} (h:Tk w W s O) (b:Below W.heap.size W W'):Tk w W' s O:=⟨h.bel.trans (b.mono h.bel.size),h.b0.call b,h.b1.call b,h.b2.call b⟩
theorem Tk.put {w W:World} {s:Pl.Sp} {O:Array Value} (h:Tk w W s O) (k:Nat) (v:Value):Tk w (W.setCell ⟨w.heap.size+2,k,none⟩ v) s (O.setIfInBounds k v):=
 ⟨h.bel.setCell (by show w.heap.size≤w.heap.size+2;omega) _,h.b0.far _ _ (by show w.heap.size≠w.heap.size+2;omega),h.b1.far _ _ (by show w.heap.size+1≠w.heap.size+2;omega),h.b2.put k v⟩
structure SpT (w W:World) (s s':Pl.Sp):Prop where
 sp:Mem.zd9 W s'
 n:s'.N.map Pl.Ns.r=s.N.map Pl.Ns.r
 nl:s'.N.length=s.N.length
 m:s'.M=s.M
 h:s'.H=s.H
 x:s'.next=s.next
 ci:s'.ic=s'.N.length
 cm:s'.mc=s'.M.length
 ch:s'.hc=s'.H.length
 each:∀t∈s'.N,t.cap=t.Is.length∧∃g,t.a=some ⟨g,0,none⟩
 am:∃g,s'.ma=some ⟨g,0,none⟩
 ah:∃g,s'.ha=some ⟨g,0,none⟩
 has:∃gi gm gh B,w.heap.size≤gi∧gh<W.heap.size∧HasS W s' gi gm gh B
theorem toSpace_any (s:Pl.Sp) (w:World) (hv:Mem.zd9 w s) (hok:OkS s 1048576):
  Calls Tryz.prog 6 #[.agg s.cs] w fun e w'=>(∃s',e= .returned (.agg s'.cs)∧SpT w w' s s')∧Below w.heap.size w w':=by
 unfold Pl.Sp.cs;have K0:Hid (Tk w (((w.alloc (.cells #[.slice s.ia s.N.length s.ic, .slice s.ma s.M.length s.mc, .slice s.ha s.H.length s.hc, .int .i64 s.next] 26)).alloc (.cells #[.slice none 0 0, .slice none 0 0, .slice none 0 0, .int .i64 0] 32)).alloc (.cells #[.slice none 0 0, .slice none 0 0, .slice none 0 0, .int .i64 0] 32)) s #[.slice none 0 0, .slice none 0 0, .slice none 0 0, .int .i64 0]):=hide ⟨(((Below.refl _ _).alloc (Nat.le_refl _) _).alloc (by simp) _).alloc (by simp;omega) _,((Mem.Blk.new w _ _).alloc _).alloc _,Mem.zz4 w _ _ _,Mem.zw1 w _ _ _⟩;have i1:=hide (fun W (b:Below w.heap.size w W)=>yj s.ia s.ic s.N W hok.n (Mem.zg5 hv.zk0 b) (fun x hx=>⟨(hok.each x hx).1,fun t ht=>((hok.each x hx).2 t ht).1⟩));have i2:=hide (fun W (b:Below w.heap.size w W)=>toMountS_any s.ma s.mc s.M W hok.m (Mem.zf0 hv.zl8 b))
 have i3:=hide (fun W (b:Below w.heap.size w W)=>toHandleS_any s.ha s.hc s.H W hok.h (Mem.zg7 hv.hands b));clear hv hok;go_enter Tryz.func6,Tryz.ntmps6
 have a0:=(za K0).b0.cell 0;simp only [kGs] at a0;go_wp2_with fail
 generalize (((w.alloc (.cells #[.slice s.ia s.N.length s.ic, .slice s.ma s.M.length s.mc, .slice s.ha s.H.length s.hc, .int .i64 s.next] 26)).alloc (.cells #[.slice none 0 0, .slice none 0 0, .slice none 0 0, .int .i64 0] 32)).alloc (.cells #[.slice none 0 0, .slice none 0 0, .slice none 0 0, .int .i64 0] 32))=w3 at K0 a0 ⊢;refine (za i1 _ (za K0).bel).mono ?_;rintro e v1 ⟨rfl,⟨D,cu,B,hD,C1⟩,b1⟩;have htop:B s.N.length≤v1.heap.size:=by rw [←hD];exact C1.top
 have hs3:w.heap.size+2<w3.heap.size:=(za K0).b2.lt;have K1:=hide ((za K0).call b1);have o0:=(za K1).b2.cell 0;have f0:=(za K1).b2.fr 0;have a1:=(za K1).b0.cell 1;simp only [kGs] at o0 a1;have K2:=hide (show Tk w (v1.setCell ⟨w.heap.size+2,0,none⟩ (.slice (some ⟨w3.heap.size,0,none⟩) s.N.length s.N.length)) s #[.slice (some ⟨w3.heap.size,0,none⟩) s.N.length s.N.length, .slice none 0 0, .slice none 0 0, .int .i64 0] from (za K1).put 0 _);have N2:=hide (C1.low ⟨w.heap.size+2,0,none⟩ (.slice (some ⟨w3.heap.size,0,none⟩) s.N.length s.N.length) hs3);have HD:=hide hD;have a1':=(za K2).b0.cell 1;simp only [kGs] at a1';have hX3:w.heap.size≠w.heap.size+2:=by omega
 clear i1 K0 a0 b1 C1 hD K1;go_wp2_with fail
 have htop2:B s.N.length≤(v1.setCell ⟨w.heap.size+2,0,none⟩ (.slice (some ⟨w3.heap.size,0,none⟩) s.N.length s.N.length)).heap.size:=by rw [World.size_setCell];exact htop
 clear htop;generalize v1.setCell ⟨w.heap.size+2,0,none⟩ (.slice (some ⟨w3.heap.size,0,none⟩) s.N.length s.N.length)=v2 at K2 N2 a1' htop2 ⊢;refine (za i2 _ (za K2).bel).mono ?_;rintro e v3 ⟨rfl,⟨cm,C2⟩,b3⟩;have hs4:w.heap.size+2<v2.heap.size:=(za K2).b2.lt;have K3:=hide ((za K2).call b3);have N3:=hide (((za N2).call b3).low ⟨w.heap.size+2,1,none⟩ (.slice (some ⟨v2.heap.size,0,none⟩) s.M.length s.M.length) hs3);have o1:=(za K3).b2.cell 1;have f1:=(za K3).b2.fr 1;simp only [kGs] at o1;have K4:=hide (show Tk w (v3.setCell ⟨w.heap.size+2,1,none⟩ (.slice (some ⟨v2.heap.size,0,none⟩) s.M.length s.M.length)) s #[.slice (some ⟨w3.heap.size,0,none⟩) s.N.length s.N.length, .slice (some ⟨v2.heap.size,0,none⟩) s.M.length s.M.length, .slice none 0 0, .int .i64 0] from (za K3).put 1 _);have M4:=hide (C2.low ⟨w.heap.size+2,1,none⟩ (.slice (some ⟨v2.heap.size,0,none⟩) s.M.length s.M.length) hs4)
 have a2:=(za K4).b0.cell 2;simp only [kGs] at a2;clear i2 K2 a1 a1' b3 C2 N2 K3 o0 f0;go_wp2_with fail
 have hmh:v2.heap.size<(v3.setCell ⟨w.heap.size+2,1,none⟩ (.slice (some ⟨v2.heap.size,0,none⟩) s.M.length s.M.length)).heap.size:=(Array.getElem?_eq_some_iff.1 (za M4).blk).1;generalize v3.setCell ⟨w.heap.size+2,1,none⟩ (.slice (some ⟨v2.heap.size,0,none⟩) s.M.length s.M.length)=v4 at K4 M4 N3 a2 hmh ⊢;refine (za i3 _ (za K4).bel).mono ?_;rintro e v5 ⟨rfl,⟨ch,C3⟩,b5⟩;have hs5:w.heap.size+2<v4.heap.size:=(za K4).b2.lt;have K5:=hide ((za K4).call b5);have N5:=hide (((za N3).call b5).low ⟨w.heap.size+2,2,none⟩ (.slice (some ⟨v4.heap.size,0,none⟩) s.H.length s.H.length) hs3);have M5:=hide (((za M4).call b5).low ⟨w.heap.size+2,2,none⟩ (.slice (some ⟨v4.heap.size,0,none⟩) s.H.length s.H.length) hs4);have o2:=(za K5).b2.cell 2;have f2:=(za K5).b2.fr 2;simp only [kGs] at o2
 have K6:=hide (show Tk w (v5.setCell ⟨w.heap.size+2,2,none⟩ (.slice (some ⟨v4.heap.size,0,none⟩) s.H.length s.H.length)) s #[.slice (some ⟨w3.heap.size,0,none⟩) s.N.length s.N.length, .slice (some ⟨v2.heap.size,0,none⟩) s.M.length s.M.length, .slice (some ⟨v4.heap.size,0,none⟩) s.H.length s.H.length, .int .i64 0] from (za K5).put 2 _);have H6:=hide (C3.low ⟨w.heap.size+2,2,none⟩ (.slice (some ⟨v4.heap.size,0,none⟩) s.H.length s.H.length) hs5);have a3:=(za K6).b0.cell 3;have o3:=(za K6).b2.cell 3;have f3:=(za K6).b2.fr 3;simp only [kGs] at a3 o3;clear i3 K4 a2 b5 C3 N3 M4 K5 o1 f1;go_upto_region 5 with fail
 generalize v5.setCell ⟨w.heap.size+2,2,none⟩ (.slice (some ⟨v4.heap.size,0,none⟩) s.H.length s.H.length)=v6 at K6 H6 M5 N5 a3 o3 f3 ⊢;have K7:=hide (show Tk w (v6.setCell ⟨w.heap.size+2,3,none⟩ (.int .i64 s.next)) s #[.slice (some ⟨w3.heap.size,0,none⟩) s.N.length s.N.length, .slice (some ⟨v2.heap.size,0,none⟩) s.M.length s.M.length, .slice (some ⟨v4.heap.size,0,none⟩) s.H.length s.H.length, .int .i64 s.next] from (za K6).put 3 _);have N7:=hide ((za N5).low ⟨w.heap.size+2,3,none⟩ (.int .i64 s.next) hs3);have M7:=hide ((za M5).low ⟨w.heap.size+2,3,none⟩ (.int .i64 s.next) hs4);have H7:=hide ((za H6).low ⟨w.heap.size+2,3,none⟩ (.int .i64 s.next) hs5);go_upto_region 6 with fail
 generalize v6.setCell ⟨w.heap.size+2,3,none⟩ (.int .i64 s.next)=v7 at K7 H7 M7 N7 ⊢;clear K6 H6 M5 N5 a3 o3 f3 o2 f2;have q0:=(za K7).b2.cell 0;have r0:=(za K7).b1.cell 0;have rf0:=(za K7).b1.fr 0;have q1:=(za K7).b2.cell 1;have r1:=(za K7).b1.cell 1;have rf1:=(za K7).b1.fr 1;have q2:=(za K7).b2.cell 2;have r2:=(za K7).b1.cell 2;have rf2:=(za K7).b1.fr 2;have q3:=(za K7).b2.cell 3;have r3:=(za K7).b1.cell 3;have rf3:=(za K7).b1.fr 3;simp only [kGs] at q0 q1 q2 q3 r0 r1 r2 r3;have hq3:w.heap.size+1<w3.heap.size:=by omega
 have hq4:w.heap.size+1<v2.heap.size:=by omega
 have hq5:w.heap.size+1<v4.heap.size:=by omega
 go_wp2
 refine bodyPost_ret (v:= .agg #[.slice (some ⟨w3.heap.size,0,none⟩) s.N.length s.N.length, .slice (some ⟨v2.heap.size,0,none⟩) s.M.length s.M.length, .slice (some ⟨v4.heap.size,0,none⟩) s.H.length s.H.length, .int .i64 s.next]) (by simp [results,Tryz.results6,go_sem,r0,r1,r2,r3]) rfl ⟨⟨⟨some ⟨w3.heap.size,0,none⟩,s.N.length,D,some ⟨v2.heap.size,0,none⟩,s.M.length,s.M,some ⟨v4.heap.size,0,none⟩,s.H.length,s.H,s.next⟩,by rw [za HD],?_⟩,?_⟩
 ·have n1:=((((za N7).low ⟨w.heap.size+1,0,none⟩ (.slice (some ⟨w3.heap.size,0,none⟩) s.N.length s.N.length) hq3).low ⟨w.heap.size+1,1,none⟩ (.slice (some ⟨v2.heap.size,0,none⟩) s.M.length s.M.length) hq3).low ⟨w.heap.size+1,2,none⟩ (.slice (some ⟨v4.heap.size,0,none⟩) s.H.length s.H.length) hq3).low ⟨w.heap.size+1,3,none⟩ (.int .i64 s.next) hq3;have n2:=((((za M7).low ⟨w.heap.size+1,0,none⟩ (.slice (some ⟨w3.heap.size,0,none⟩) s.N.length s.N.length) hq4).low ⟨w.heap.size+1,1,none⟩ (.slice (some ⟨v2.heap.size,0,none⟩) s.M.length s.M.length) hq4).low ⟨w.heap.size+1,2,none⟩ (.slice (some ⟨v4.heap.size,0,none⟩) s.H.length s.H.length) hq4).low ⟨w.heap.size+1,3,none⟩ (.int .i64 s.next) hq4
  have n3:=((((za H7).low ⟨w.heap.size+1,0,none⟩ (.slice (some ⟨w3.heap.size,0,none⟩) s.N.length s.N.length) hq5).low ⟨w.heap.size+1,1,none⟩ (.slice (some ⟨v2.heap.size,0,none⟩) s.M.length s.M.length) hq5).low ⟨w.heap.size+1,2,none⟩ (.slice (some ⟨v4.heap.size,0,none⟩) s.H.length s.H.length) hq5).low ⟨w.heap.size+1,3,none⟩ (.int .i64 s.next) hq5
  exact ⟨⟨n1.zk0,mounts_of n2,hands_of n3⟩,by show D.map _=_;rw [n1.same,za HD,List.take_length],za HD,rfl,rfl,rfl,by show s.N.length=D.length;rw [za HD],rfl,rfl,fun t ht=>by
   obtain ⟨j,hj⟩:=List.getElem?_of_mem ht;obtain ⟨-, -,g,e1, -, -,e2⟩:=n1.each j t hj
   exact ⟨e2,g,e1⟩,⟨_,rfl⟩,⟨_,rfl⟩,w3.heap.size,v2.heap.size,v4.heap.size,B,by omega,(Array.getElem?_eq_some_iff.1 n3.blk).1,rfl,⟨_,n1.blk,by show _=D.length*2;rw [za HD];exact n1.size,fun j t hj=>(n1.each j t hj).2.1⟩,n1.lo,n1.band,by show B D.length≤_;rw [za HD];exact htop2,rfl,⟨_,n2.blk,n2.size⟩,hmh,rfl,⟨_,n3.blk,n3.size⟩⟩
 ·have hp:w.heap.size≤w.heap.size+1:=by omega
  exact ((((za K7).bel.setCell hp _).setCell hp _).setCell hp _).setCell hp _
end zb0
end
section
open Go.RowKit
namespace Mem
def rowF (w:World) (N:Nat→Prop):Pl.Fo→Nat→Nat→Prop
 | .nil,_,_=>True
 | .cons k m,b,i=>(∃x y a cap,w.cell? ⟨b,i,none⟩=some x∧w.cell? ⟨b,i+1,none⟩=some y∧w.cell? ⟨b,i+2,none⟩=some (.slice a k.len cap)∧b<w.heap.size∧N b∧
   (∃q,x= .map q)∧(∃q,y= .int .i64 q)∧(k= .nil∨∃b',a=some ⟨b',0,none⟩∧rowF w N k b' 0))∧rowF w N m b (i+3)
def lay (w:World) (N:Nat→Prop) (k:Pl.Fo) (v:Value):Prop:=∃a cap,v= .slice a k.len cap∧(k= .nil∨∃b',a=some ⟨b',0,none⟩∧rowF w N k b' 0)
theorem rowF_mono {w w':World} {N N':Nat→Prop} (h:∀b,N b→b<w.heap.size→N' b∧b<w'.heap.size∧w'.heap[b]? =w.heap[b]?) (F:Pl.Fo):∀b i,rowF w N F b i→rowF w' N' F b i:=by
 induction F with
 |nil=>intro b i _;trivial
 |cons k m ihk ihm=>
  intro b i hr;obtain ⟨⟨x,y,a,cap,h1,h2,h3,h4,h5,hx,hy,h6⟩,h7⟩:=hr;obtain ⟨g1,g2,g3⟩:=h b h5 h4;have c:∀j,w'.cell? ⟨b,j,none⟩=w.cell? ⟨b,j,none⟩:=fun j=>World.cell?_of_block g3;refine ⟨⟨x,y,a,cap,(c _).trans h1,(c _).trans h2,(c _).trans h3,g2,g1,hx,hy,?_⟩,ihm _ _ h7⟩
  rcases h6 with h6|⟨b',h6,h8⟩
  ·exact .inl h6
  ·exact .inr ⟨b',h6,ihk _ _ h8⟩
theorem lay_mono {w w':World} {N N':Nat→Prop} (h:∀b,N b→b<w.heap.size→N' b∧b<w'.heap.size∧w'.heap[b]? =w.heap[b]?) {k:Pl.Fo} {v:Value} (hl:lay w N k v):lay w' N' k v:=by
 obtain ⟨a,cap,h1,h2⟩:=hl;refine ⟨a,cap,h1,?_⟩
 rcases h2 with h2|⟨b',h2,h3⟩
 ·exact .inl h2
 ·exact .inr ⟨b',h2,rowF_mono h _ _ _ h3⟩
theorem lay_call {w w':World} {N:Nat→Prop} {k:Pl.Fo} {v:Value} (h:lay w N k v) (b:Below w.heap.size w w'):lay w' N k v:=lay_mono (fun g hg hl=>⟨hg,Nat.lt_of_lt_of_le hl b.size,b.block g hl⟩) h
end Mem
end
section
open Go.RowKit Go.Maps
namespace MapN
def key (p:ByteArray):Lit:= .string p.data.toList
def dat (n:Pl.Nd):DataW Unit:= .agg [.lit (.string n.path.data.toList), .lit (.int .i64 n.kind), .lit (.string n.data.data.toList), .lit (.int .i64 n.time), .lit (.int .i64 n.mark)]
theorem zt7 {a b:Pl.Nd} (h:dat a=dat b):a=b:=by
 obtain ⟨p,k,d,t,m⟩:=a;obtain ⟨p',k',d',t',m'⟩:=b;simp only [dat,DataW.agg.injEq,List.cons.injEq,DataW.lit.injEq,Lit.string.injEq,Lit.int.injEq,and_true,true_and] at h;obtain ⟨h1,h2,h3,h4,h5⟩:=h;have e1:p=p':=Pl.ze4 h1;have e2:d=d':=Pl.ze4 h3;subst e1 e2 h2 h4 h5;rfl
def elem:Value→Option (DataW Unit × List MemPlace)
 | .agg cs=>match cs.toList with
  | [.string p, .int .i64 k, .string d, .int .i64 t, .int .i64 m]=>some (dat ⟨p,k,d,t,m⟩,[])
  |_=>none
 |_=>none
theorem zt2 (n:Pl.Nd):elem n.val=some (dat n,[]):=rfl
theorem elem_inv {v:Value} {d:DataW Unit} {ps:List MemPlace} (h:elem v=some (d,ps)):∃n:Pl.Nd,v=n.val∧d=dat n:=by
 unfold elem at h
 split at h
 ·rename_i cs
  split at h
  ·rename_i p k d' t m hcs
   simp only [Option.some.injEq,Prod.mk.injEq] at h;refine ⟨⟨p,k,d',t,m⟩,?_,h.1.symm⟩;rw [Pl.Nd.val,show cs=cs.toList.toArray by simp,hcs]
  ·cases h
 ·cases h
def mapOf (C:List Pl.Nd):DataW Unit:=C.foldl (fun D n=>D.put (key n.path) (dat n)) (.map [])
theorem yc3 (C:List Pl.Nd) (n:Pl.Nd):mapOf (C++[n])=(mapOf C).put (key n.path) (dat n):=by simp [mapOf,List.foldl_append]
theorem ya1 (p:ByteArray):WideAt.IsKeyLit (key p):=by simp [key,WideAt.IsKeyLit]
theorem key_ne {a b:ByteArray} (h:a≠b):key a≠key b:=fun e=>h (Pl.ze4 (Lit.string.inj e))
theorem ya7:∀ (C:List Pl.Nd) (D:DataW Unit),IsMap D→IsMap (C.foldl (fun D n=>D.put (key n.path) (dat n)) D):=by
 intro C
 induction C with
 |nil=>intro D h;exact h
 |cons n C ih=>intro D h;exact ih _ (h.put _ _)
theorem zq5 (C:List Pl.Nd):IsMap (mapOf C):=ya7 C _ isMap_empty
theorem zm1 (p:ByteArray):∀ (C:List Pl.Nd) (D:DataW Unit),(∀n∈C,n.path≠p)→Maps.has (C.foldl (fun D n=>D.put (key n.path) (dat n)) D) (key p)=Maps.has D (key p)∧∀z,(C.foldl (fun D n=>D.put (key n.path) (dat n)) D).atKey (key p) z=D.atKey (key p) z:=by
 intro C
 induction C with
 |nil=>intro D _;exact ⟨rfl,fun _=>rfl⟩
 |cons n C ih=>
  intro D h;have h1:key p≠key n.path:=key_ne (fun e=>h n List.mem_cons_self e.symm);obtain ⟨i1,i2⟩:=ih (D.put (key n.path) (dat n)) (fun m hm=>h m (List.mem_cons_of_mem _ hm));refine ⟨?_,fun z=>?_⟩
  ·show Maps.has (C.foldl _ (D.put (key n.path) (dat n))) (key p)=_;rw [i1,has_put_other h1]
  ·show (C.foldl _ (D.put (key n.path) (dat n))).atKey (key p) z=_;rw [i2,atKey_put_other h1]
theorem has_no {C:List Pl.Nd} {p:ByteArray} (h:∀n∈C,n.path≠p):Maps.has (mapOf C) (key p)=false:=by
 rw [mapOf,(zm1 p C _ h).1];rfl
theorem zz8 {C:List Pl.Nd} {n:Pl.Nd} (hC:C.Pairwise (fun a b=>a.path≠b.path)) (hn:n∈C):Maps.has (mapOf C) (key n.path)=true∧∀z,(mapOf C).atKey (key n.path) z=dat n:=by
 obtain ⟨A,B,rfl⟩:=List.append_of_mem hn;rw [List.pairwise_append] at hC;have h2:=(List.pairwise_cons.1 hC.2.1).1;have e:mapOf (A++n::B)=B.foldl (fun D n=>D.put (key n.path) (dat n)) ((mapOf A).put (key n.path) (dat n)):=by simp [mapOf,List.foldl_append]
 obtain ⟨i1,i2⟩:=zm1 n.path B ((mapOf A).put (key n.path) (dat n)) (fun m hm e=>h2 m hm e.symm);rw [e];exact ⟨by rw [i1,has_put_same (zq5 A) (ya1 _)],fun z=>by rw [i2,atKey_put_same (zq5 A) (ya1 _)]⟩
theorem law:Keyed Tryz.prog 9:=string_keyed Tryz.underlying9
theorem za3 (w:World):(zeroValue 55).run Tryz.prog w= .ok (Pl.Nd.val ⟨⟨#[]⟩,0,⟨#[]⟩,0,0⟩) w:=by kernel_rfl
theorem zo0 {p:ByteArray} (h:p.size≤maxLen):keyOf Tryz.prog 9 (.string p)=some (key p):=WideMaps.keyOf_string_mk Tryz.underlying9 h
end MapN
end
end Go.Proofs.YtbomeifgfalmdaaGreatDoor
