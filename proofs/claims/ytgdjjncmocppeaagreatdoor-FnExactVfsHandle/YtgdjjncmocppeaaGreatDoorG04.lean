/- Several texts of one claim in one file: WLawJ, WLawY, MemHas, MemHasS. -/
import Derived.Test.YtgdjjncmocppeaaGreatDoorG03
namespace Go.Proofs.YtgdjjncmocppeaaGreatDoor
section
set_option linter.unusedSimpArgs false
open Go.RowKit
namespace WLaw
set_option maxRecDepth 100000 in
theorem ya3 (x:Pl.It) (w:World) (hl:x.t.L.length≤1048576) (hv:Mem.za9 w x.t.a x.t.L):
  Calls Tryz.prog 110 #[.agg #[.int .i64 x.m, .slice x.t.a x.t.L.length x.t.cap]] w fun e w'=>∃g,e= .returned (.agg #[.int .i64 x.m, .slice (some ⟨g,0,none⟩) x.t.L.length x.t.L.length])∧w.heap.size≤g∧Mem.za9 w' (some ⟨g,0,none⟩) x.t.L∧Below w.heap.size w w':=by
 obtain ⟨m,a,cap,L⟩:=x;simp only at hl hv ⊢;have b0:Below w.heap.size w (((w.alloc (.cells #[.int .i64 m, .slice a L.length cap] 195)).alloc (.cells #[.int .i64 0, .slice none 0 0] 143)).alloc (.cells #[.int .i64 m, .slice none 0 0] 143)):=((bE0).alloc (by simp) _).alloc (by simp;omega) _;have hz:=hide (yg7 a cap L _ hl (Mem.za7 hv b0));have hs:(((w.alloc (.cells #[.int .i64 m, .slice a L.length cap] 195)).alloc (.cells #[.int .i64 0, .slice none 0 0] 143)).alloc (.cells #[.int .i64 m, .slice none 0 0] 143)).heap.size=w.heap.size+1+1+1:=by simp
 have r1:Mem.Blk (((w.alloc (.cells #[.int .i64 m, .slice a L.length cap] 195)).alloc (.cells #[.int .i64 0, .slice none 0 0] 143)).alloc (.cells #[.int .i64 m, .slice none 0 0] 143)) (w.heap.size+1) #[.int .i64 0, .slice none 0 0] 143:=Mem.zx4 w _ _ _;have r2:Mem.Blk (((w.alloc (.cells #[.int .i64 m, .slice a L.length cap] 195)).alloc (.cells #[.int .i64 0, .slice none 0 0] 143)).alloc (.cells #[.int .i64 m, .slice none 0 0] 143)) (w.heap.size+1+1) #[.int .i64 m, .slice none 0 0] 143:=Mem.zr5 w _ _ _;have HB0:=hide b0;clear hv b0;go_enter Tryz.func110,Tryz.ntmps110
 go_wp2_with fail
 generalize (((w.alloc (.cells #[.int .i64 m, .slice a L.length cap] 195)).alloc (.cells #[.int .i64 0, .slice none 0 0] 143)).alloc (.cells #[.int .i64 m, .slice none 0 0] 143))=w3 at hz hs r1 r2 HB0 ⊢;refine (za hz).mono ?_;rintro e w1 ⟨g,rfl,hg, -,hn,b1⟩;have R1:=r1.call b1;have R2:=r2.call b1;obtain ⟨c10,c11⟩:=jc2 R1;obtain ⟨c20,c21⟩:=jc2 R2;have f10:=R1.fr 0;have f11:=R1.fr 1;have f20:=R2.fr 0;have f21:=R2.fr 1;have bb:=hide ((za HB0).trans (b1.mono (za HB0).size));have HG:Hid (w.heap.size+1+1+1≤g):=hide (by omega);have HN:=hide hn;clear hz b1 hn hs r1 r2 R1 R2 HB0 hg;go_wp2
 have hg:=za HG;refine bodyPost_ret (v:= .agg #[.int .i64 m, .slice (some ⟨g,0,none⟩) L.length L.length]) (by simp [results,Tryz.results110,go_sem,c10,c11]) rfl ⟨g,rfl,by omega,?_,?_⟩
 ·exact Mem.ze (Mem.ze (Mem.ze (za HN) _ _ (by show w.heap.size+1+1≠g;omega)) _ _ (by show w.heap.size+1≠g;omega)) _ _ (by show w.heap.size+1≠g;omega)
 ·exact (((za bb).setCell (by show w.heap.size≤w.heap.size+1+1;omega) _).setCell (by show w.heap.size≤w.heap.size+1;omega) _).setCell (by show w.heap.size≤w.heap.size+1;omega) _
def zr4 (n:Nat):Array Value:=madeCells (Value.agg #[.int .i64 0, .slice none 0 0]).cells (n*2)
theorem zw9 (n:Nat):(zr4 n).size=n*2:=size_madeCells _ _
theorem infoI:(Tryz.prog.info? 143).map (fun i=>(i.zero,i.size,i.bytes))=some (some (.agg #[.int .i64 0, .slice none 0 0]),2,32):=by kernel_rfl
theorem makeI (n:Nat) (hn:n≤1048576) (w:World):(Instr.makeSlice 60 (.int .i64 (n:Int)) (.int .i64 (n:Int))).run Tryz.prog w= .ok (.slice (some ⟨w.heap.size,0,none⟩) n n) (w.alloc (.cells (zr4 n) 143)):=by
 obtain ⟨i0,h0,h1,h2,h3⟩:=info_parts infoI;have h:=run_make (P:=Tryz.prog) w 60 143 i0 (.agg #[.int .i64 0, .slice none 0 0]) Tryz.underlying60 h0 h1 .i64 .i64 (n:Int) (n:Int) (by omega) (Int.le_refl _) (by rw [h3];omega) (by omega);rw [h,h2];simp [zr4]
structure CopI (w wr:World) (Ts D:List Pl.It) (cur:Array Value):Prop where
 blk:wr.heap[w.heap.size]? =some (.cells cur 143 (0,0))
 size:cur.size=Ts.length*2
 same:D.map Pl.It.r=(Ts.take D.length).map Pl.It.r
 each:∀ (j:Nat) t,D[j]? =some t→cur[j*2]? =some (.int .i64 t.m)∧cur[j*2+1]? =some t.t.val∧∃g,t.t.a=some ⟨g,0,none⟩∧w.heap.size<g∧Mem.za9 wr t.t.a t.t.L
theorem CopI.call {w wr W:World} {Ts D:List Pl.It} {cur:Array Value} (h:CopI w wr Ts D cur) (b:Below wr.heap.size wr W):CopI w W Ts D cur:=
 ⟨(b.block _ (Array.getElem?_eq_some_iff.1 h.blk).1).trans h.blk,h.size,h.same,fun j t hj=>⟨(h.each j t hj).1,(h.each j t hj).2.1,by
  obtain ⟨g,h1,h2,h3⟩:=(h.each j t hj).2.2
  exact ⟨g,h1,h2,Mem.za7 h3 b⟩⟩⟩
theorem CopI.put {w wr:World} {Ts D:List Pl.It} {cur:Array Value} (h:CopI w wr Ts D cur) (t:Pl.It) (g:Nat) (hk:Ts[D.length]? =some t) (hg:w.heap.size<g) (hn:Mem.za9 wr (some ⟨g,0,none⟩) t.t.L):
  CopI w ((wr.setCell ⟨w.heap.size,D.length*2,none⟩ (.int .i64 t.m)).setCell ⟨w.heap.size,D.length*2+1,none⟩ (.slice (some ⟨g,0,none⟩) t.t.L.length t.t.L.length)) Ts (D++[⟨t.m,some ⟨g,0,none⟩,t.t.L.length,t.t.L⟩]) ((cur.setIfInBounds (D.length*2) (.int .i64 t.m)).setIfInBounds (D.length*2+1) (.slice (some ⟨g,0,none⟩) t.t.L.length t.t.L.length)):=by
 have hlt:=(List.getElem?_eq_some_iff.1 hk).1;have hsz:=h.size;refine ⟨heap_setCell_same _ _ _ _ _ _ (heap_setCell_same _ _ _ _ _ _ h.blk),by simpa using h.size,?_,fun j m hj=>?_⟩
 ·rw [List.length_append,List.length_singleton,List.take_add_one,hk,List.map_append,List.map_append,h.same];rfl
 ·by_cases e:j<D.length
  ·rw [List.getElem?_append_left e] at hj;obtain ⟨h1,h1',g',h2,h3,h4⟩:=h.each j m hj;refine ⟨by rw [Array.getElem?_setIfInBounds,if_neg (by omega),Array.getElem?_setIfInBounds,if_neg (by omega)];exact h1,by rw [Array.getElem?_setIfInBounds,if_neg (by omega),Array.getElem?_setIfInBounds,if_neg (by omega)];exact h1',g',h2,h3,?_⟩;rw [h2] at h4 ⊢;exact Mem.ze (Mem.ze h4 _ _ (by show w.heap.size≠g';omega)) _ _ (by show w.heap.size≠g';omega)
  ·rw [List.getElem?_append_right (by omega)] at hj
   have hj0:j=D.length:=by
    have :=(List.getElem?_eq_some_iff.1 hj).1;simp at this;omega
   subst hj0;simp at hj
   subst hj;refine ⟨?_,?_,g,rfl,hg,Mem.ze (Mem.ze hn _ _ (by show w.heap.size≠g;omega)) _ _ (by show w.heap.size≠g;omega)⟩
   ·rw [Array.getElem?_setIfInBounds,if_neg (by omega),Array.getElem?_setIfInBounds,if_pos rfl,if_pos (by omega)]
   ·rw [Array.getElem?_setIfInBounds,if_pos rfl,if_pos (by rw [Array.size_setIfInBounds];omega)];rfl
theorem CopI.items {w wr:World} {Ts D:List Pl.It} {cur:Array Value} (h:CopI w wr Ts D cur):Mem.zb2 wr (some ⟨w.heap.size,0,none⟩) D:=fun i t hi=>by
 obtain ⟨h1,h1',g,h2,h3,h4⟩:=h.each i t hi;refine ⟨⟨_,0,rfl,(Array.getElem?_eq_some_iff.1 h.blk).1,?_,?_⟩,h4⟩
 ·rw [cell_of_row wr _ _ _ _ (0,0) h.blk,Nat.zero_add];exact h1
 ·rw [cell_of_row wr _ _ _ _ (0,0) h.blk,Nat.zero_add];exact h1'
set_option maxRecDepth 100000 in
set_option maxHeartbeats 800000 in
theorem zw4 (a:Option Addr) (cap:Nat) (Ts:List Pl.It) (w:World) (hl:Ts.length≤1048576) (hv:Mem.zb2 w a Ts) (hok:∀t∈Ts,t.t.L.length≤1048576):
  Calls Tryz.prog 82 #[.slice a Ts.length cap] w fun e w'=>e= .returned (.slice (some ⟨w.heap.size,0,none⟩) Ts.length Ts.length)∧(∃D cur,D.length=Ts.length∧CopI w w' Ts D cur)∧Below w.heap.size w w':=by
 have HV:=hide hv;have HO:=hide hok;have hmk:=makeI Ts.length hl w;clear hv hok;go_enter Tryz.func82,Tryz.ntmps82
 go_wp2
 go_loopw [4] (fun i wr=>∃ (D:List Pl.It) (cur:Array Value),D.length≤Ts.length∧i= .int .i64 (D.length:Int)∧Below w.heap.size w wr∧Hid (CopI w wr Ts D cur)) (fun i _=>Ts.length - (intOf i).toNat)
 case atStart=>exact ⟨[],zr4 Ts.length,Nat.zero_le _,rfl,bE0,hide ⟨heap_alloc_new w _,zw9 _,rfl,fun j t h=>by simp at h⟩⟩
 case round=>
  obtain ⟨D,cur,hk,rfl,hbel,HC⟩:=hrel;by_cases hlt:D.length<Ts.length
  ·obtain ⟨t,ht⟩:∃t,Ts[D.length]? =some t:=⟨_,List.getElem?_eq_getElem hlt⟩;obtain ⟨⟨b,o,rfl,hb,q0,q0'⟩,q1⟩:=(za HV) D.length t ht;have c0:=(hbel.cell (p:=⟨b,_,none⟩) hb).trans q0;have c1:=(hbel.cell (p:=⟨b,_,none⟩) hb).trans q0';have hz:=hide (fun W (b:Below w.heap.size w W)=>ya3 t W (za HO t (List.mem_of_getElem? ht)) (Mem.za7 q1 b));have HN:=hide ht;have u1:(D.length:Int)<(Ts.length:Int):=by omega
   have u3:(0:Int)≤(D.length:Int):=by omega
   simp only [Pl.Tr.val] at c1;clear q0 q0' ht q1;go_wp2_with fail
   refine (za hz _ hbel).mono ?_;rintro e w1 ⟨g,rfl,hg,hn,b1⟩;have hgw:w.heap.size<g:=by have :=(Array.getElem?_eq_some_iff.1 (za HC).blk).1;omega
   have C1:=(za HC).call b1;have hb2:=hbel.trans (b1.mono hbel.size);have hcs:=C1.size;obtain ⟨x0,s0⟩:∃x,w1.cell? ⟨w.heap.size,D.length*2,none⟩=some x:=⟨_,(cell_of_row w1 _ (D.length*2) _ _ (0,0) C1.blk).trans (Array.getElem?_eq_getElem (by omega))⟩;obtain ⟨x1,s1⟩:∃x,w1.cell? ⟨w.heap.size,D.length*2+1,none⟩=some x:=⟨_,(cell_of_row w1 _ (D.length*2+1) _ _ (0,0) C1.blk).trans (Array.getElem?_eq_getElem (by omega))⟩;have f0:w1.frozen? ⟨w.heap.size,D.length*2,none⟩=false:=Mem.zb4 C1.blk;have f1:w1.frozen? ⟨w.heap.size,D.length*2+1,none⟩=false:=Mem.zb4 C1.blk;have HC2:=hide (C1.put t g (za HN) hgw hn);have HB2:=hide hb2;clear b1 hbel hz HC C1 hn hg hb2 hcs;go_wp2
   go_roundw
   case rel=>exact ⟨_,_,by rw [List.length_append,List.length_singleton];omega,by rw [List.length_append,List.length_singleton];go_num,((za HB2).setCell (Nat.le_refl _) _).setCell (Nat.le_refl _) _,HC2⟩
   case measure=>simp [intOf];omega
  ·have u1:¬ (D.length:Int)<(Ts.length:Int):=by omega
   go_wp2
   go_ret
   exact ⟨rfl,⟨D,by omega,cur,za HC⟩,hbel⟩
theorem yd4 (a:Option Addr) (cap:Nat) (Ts:List Pl.It) (w:World) (hl:Ts.length≤1048576) (hv:Mem.zb2 w a Ts) (hok:∀t∈Ts,t.t.L.length≤1048576):
  Calls Tryz.prog 82 #[.slice a Ts.length cap] w fun e w'=>∃g D,e= .returned (.slice (some ⟨g,0,none⟩) Ts.length Ts.length)∧w.heap.size≤g∧D.length=Ts.length∧D.map Pl.It.r=Ts.map Pl.It.r∧Mem.zb2 w' (some ⟨g,0,none⟩) D∧Below w.heap.size w w':=
 (zw4 a cap Ts w hl hv hok).mono fun _ _ ⟨he,⟨D,cur,hD,hC⟩,b⟩=>⟨_,D,he,Nat.le_refl _,hD,by rw [hC.same,hD,List.take_length],hC.items,b⟩
end WLaw
end
section
set_option linter.unusedSimpArgs false
open Go.RowKit
namespace WLawY
open WLaw
set_option maxRecDepth 100000 in
theorem ya3 (x:Pl.It) (w:World) (hl:x.t.L.length≤1048576) (hv:Mem.za9 w x.t.a x.t.L):
  Calls Tryz.prog 110 #[.agg #[.int .i64 x.m, .slice x.t.a x.t.L.length x.t.cap]] w fun e w'=>∃g,e= .returned (.agg #[.int .i64 x.m, .slice (some ⟨g,0,none⟩) x.t.L.length x.t.L.length])∧w.heap.size≤g∧(∃cs,w'.heap[g]? =some (.cells cs 56 (0,0))∧x.t.L.length*5≤cs.size)∧Mem.za9 w' (some ⟨g,0,none⟩) x.t.L∧Below w.heap.size w w':=by
 obtain ⟨m,a,cap,L⟩:=x;simp only at hl hv ⊢;have b0:Below w.heap.size w (((w.alloc (.cells #[.int .i64 m, .slice a L.length cap] 195)).alloc (.cells #[.int .i64 0, .slice none 0 0] 143)).alloc (.cells #[.int .i64 m, .slice none 0 0] 143)):=((bE0).alloc (by simp) _).alloc (by simp;omega) _;have hz:=hide (yg7 a cap L _ hl (Mem.za7 hv b0));have hs:(((w.alloc (.cells #[.int .i64 m, .slice a L.length cap] 195)).alloc (.cells #[.int .i64 0, .slice none 0 0] 143)).alloc (.cells #[.int .i64 m, .slice none 0 0] 143)).heap.size=w.heap.size+1+1+1:=by simp
 have r1:Mem.Blk (((w.alloc (.cells #[.int .i64 m, .slice a L.length cap] 195)).alloc (.cells #[.int .i64 0, .slice none 0 0] 143)).alloc (.cells #[.int .i64 m, .slice none 0 0] 143)) (w.heap.size+1) #[.int .i64 0, .slice none 0 0] 143:=Mem.zx4 w _ _ _;have r2:Mem.Blk (((w.alloc (.cells #[.int .i64 m, .slice a L.length cap] 195)).alloc (.cells #[.int .i64 0, .slice none 0 0] 143)).alloc (.cells #[.int .i64 m, .slice none 0 0] 143)) (w.heap.size+1+1) #[.int .i64 m, .slice none 0 0] 143:=Mem.zr5 w _ _ _;have HB0:=hide b0;clear hv b0;go_enter Tryz.func110,Tryz.ntmps110
 go_wp2_with fail
 generalize (((w.alloc (.cells #[.int .i64 m, .slice a L.length cap] 195)).alloc (.cells #[.int .i64 0, .slice none 0 0] 143)).alloc (.cells #[.int .i64 m, .slice none 0 0] 143))=w3 at hz hs r1 r2 HB0 ⊢;refine (za hz).mono ?_;rintro e w1 ⟨g,rfl,hg,⟨cs,hrow,hcs⟩,hn,b1⟩;have HRW:=hide hrow;have HCS:=hide hcs;have R1:=r1.call b1;have R2:=r2.call b1;obtain ⟨c10,c11⟩:=jc2 R1;obtain ⟨c20,c21⟩:=jc2 R2;have f10:=R1.fr 0;have f11:=R1.fr 1;have f20:=R2.fr 0;have f21:=R2.fr 1;have bb:=hide ((za HB0).trans (b1.mono (za HB0).size));have HG:Hid (w.heap.size+1+1+1≤g):=hide (by omega);have HN:=hide hn;clear hz b1 hn hs r1 r2 R1 R2 HB0 hg hrow hcs;go_wp2
 have hg:=za HG;refine bodyPost_ret (v:= .agg #[.int .i64 m, .slice (some ⟨g,0,none⟩) L.length L.length]) (by simp [results,Tryz.results110,go_sem,c10,c11]) rfl ⟨g,rfl,by omega,⟨cs,?_,by have :=za HCS;omega⟩,?_,?_⟩
 ·rw [heap_setCell_other _ _ _ _ (by show g≠w.heap.size+1;omega),heap_setCell_other _ _ _ _ (by show g≠w.heap.size+1;omega),heap_setCell_other _ _ _ _ (by show g≠w.heap.size+1+1;omega)];exact za HRW
 ·exact Mem.ze (Mem.ze (Mem.ze (za HN) _ _ (by show w.heap.size+1+1≠g;omega)) _ _ (by show w.heap.size+1≠g;omega)) _ _ (by show w.heap.size+1≠g;omega)
 ·exact (((za bb).setCell (by show w.heap.size≤w.heap.size+1+1;omega) _).setCell (by show w.heap.size≤w.heap.size+1;omega) _).setCell (by show w.heap.size≤w.heap.size+1;omega) _
structure CopI (w wr:World) (Ts D:List Pl.It) (cur:Array Value):Prop where
 blk:wr.heap[w.heap.size]? =some (.cells cur 143 (0,0))
 size:cur.size=Ts.length*2
 same:D.map Pl.It.r=(Ts.take D.length).map Pl.It.r
 each:∀ (j:Nat) t,D[j]? =some t→cur[j*2]? =some (.int .i64 t.m)∧cur[j*2+1]? =some t.t.val∧∃g,t.t.a=some ⟨g,0,none⟩∧w.heap.size<g∧Mem.za9 wr t.t.a t.t.L∧∃cs,wr.heap[g]? =some (.cells cs 56 (0,0))∧t.t.L.length*5≤cs.size∧t.t.cap=t.t.L.length
theorem CopI.call {w wr W:World} {Ts D:List Pl.It} {cur:Array Value} (h:CopI w wr Ts D cur) (b:Below wr.heap.size wr W):CopI w W Ts D cur:=
 ⟨(b.block _ (Array.getElem?_eq_some_iff.1 h.blk).1).trans h.blk,h.size,h.same,fun j t hj=>⟨(h.each j t hj).1,(h.each j t hj).2.1,by
  obtain ⟨g,h1,h2,h3,cs,h4,h5⟩:=(h.each j t hj).2.2
  exact ⟨g,h1,h2,Mem.za7 h3 b,cs,(b.block _ (Array.getElem?_eq_some_iff.1 h4).1).trans h4,h5⟩⟩⟩
theorem CopI.put {w wr:World} {Ts D:List Pl.It} {cur:Array Value} (h:CopI w wr Ts D cur) (t:Pl.It) (g:Nat) (hk:Ts[D.length]? =some t) (hg:w.heap.size<g) (hn:Mem.za9 wr (some ⟨g,0,none⟩) t.t.L) (hr:∃cs,wr.heap[g]? =some (.cells cs 56 (0,0))∧t.t.L.length*5≤cs.size):
  CopI w ((wr.setCell ⟨w.heap.size,D.length*2,none⟩ (.int .i64 t.m)).setCell ⟨w.heap.size,D.length*2+1,none⟩ (.slice (some ⟨g,0,none⟩) t.t.L.length t.t.L.length)) Ts (D++[⟨t.m,some ⟨g,0,none⟩,t.t.L.length,t.t.L⟩]) ((cur.setIfInBounds (D.length*2) (.int .i64 t.m)).setIfInBounds (D.length*2+1) (.slice (some ⟨g,0,none⟩) t.t.L.length t.t.L.length)):=by
 have hlt:=(List.getElem?_eq_some_iff.1 hk).1;have hsz:=h.size;refine ⟨heap_setCell_same _ _ _ _ _ _ (heap_setCell_same _ _ _ _ _ _ h.blk),by simpa using h.size,?_,fun j m hj=>?_⟩
 ·rw [List.length_append,List.length_singleton,List.take_add_one,hk,List.map_append,List.map_append,h.same];rfl
 ·by_cases e:j<D.length
  ·rw [List.getElem?_append_left e] at hj;obtain ⟨h1,h1',g',h2,h3,h4,cs,h5,h6⟩:=h.each j m hj;refine ⟨by rw [Array.getElem?_setIfInBounds,if_neg (by omega),Array.getElem?_setIfInBounds,if_neg (by omega)];exact h1,by rw [Array.getElem?_setIfInBounds,if_neg (by omega),Array.getElem?_setIfInBounds,if_neg (by omega)];exact h1',g',h2,h3,?_,cs,(heap_setCell_other _ _ _ _ (by show g'≠w.heap.size;omega)).trans ((heap_setCell_other _ _ _ _ (by show g'≠w.heap.size;omega)).trans h5),h6⟩;rw [h2] at h4 ⊢;exact Mem.ze (Mem.ze h4 _ _ (by show w.heap.size≠g';omega)) _ _ (by show w.heap.size≠g';omega)
  ·rw [List.getElem?_append_right (by omega)] at hj
   have hj0:j=D.length:=by
    have :=(List.getElem?_eq_some_iff.1 hj).1;simp at this;omega
   subst hj0;simp at hj
   subst hj;obtain ⟨cs,h5,h6⟩:=hr;refine ⟨?_,?_,g,rfl,hg,Mem.ze (Mem.ze hn _ _ (by show w.heap.size≠g;omega)) _ _ (by show w.heap.size≠g;omega),cs,(heap_setCell_other _ _ _ _ (by show g≠w.heap.size;omega)).trans ((heap_setCell_other _ _ _ _ (by show g≠w.heap.size;omega)).trans h5),h6,rfl⟩
   ·rw [Array.getElem?_setIfInBounds,if_neg (by omega),Array.getElem?_setIfInBounds,if_pos rfl,if_pos (by omega)]
   ·rw [Array.getElem?_setIfInBounds,if_pos rfl,if_pos (by rw [Array.size_setIfInBounds];omega)];rfl
theorem CopI.items {w wr:World} {Ts D:List Pl.It} {cur:Array Value} (h:CopI w wr Ts D cur):Mem.zb2 wr (some ⟨w.heap.size,0,none⟩) D:=fun i t hi=>by
 obtain ⟨h1,h1',g,h2,h3,h4, -⟩:=h.each i t hi;refine ⟨⟨_,0,rfl,(Array.getElem?_eq_some_iff.1 h.blk).1,?_,?_⟩,h4⟩
 ·rw [cell_of_row wr _ _ _ _ (0,0) h.blk,Nat.zero_add];exact h1
 ·rw [cell_of_row wr _ _ _ _ (0,0) h.blk,Nat.zero_add];exact h1'
set_option maxRecDepth 100000 in
set_option maxHeartbeats 800000 in
theorem zw4 (a:Option Addr) (cap:Nat) (Ts:List Pl.It) (w:World) (hl:Ts.length≤1048576) (hv:Mem.zb2 w a Ts) (hok:∀t∈Ts,t.t.L.length≤1048576):
  Calls Tryz.prog 82 #[.slice a Ts.length cap] w fun e w'=>e= .returned (.slice (some ⟨w.heap.size,0,none⟩) Ts.length Ts.length)∧(∃D cur,D.length=Ts.length∧CopI w w' Ts D cur)∧Below w.heap.size w w':=by
 have HV:=hide hv;have HO:=hide hok;have hmk:=makeI Ts.length hl w;clear hv hok;go_enter Tryz.func82,Tryz.ntmps82
 go_wp2
 go_loopw [4] (fun i wr=>∃ (D:List Pl.It) (cur:Array Value),D.length≤Ts.length∧i= .int .i64 (D.length:Int)∧Below w.heap.size w wr∧Hid (CopI w wr Ts D cur)) (fun i _=>Ts.length - (intOf i).toNat)
 case atStart=>exact ⟨[],zr4 Ts.length,Nat.zero_le _,rfl,bE0,hide ⟨heap_alloc_new w _,zw9 _,rfl,fun j t h=>by simp at h⟩⟩
 case round=>
  obtain ⟨D,cur,hk,rfl,hbel,HC⟩:=hrel;by_cases hlt:D.length<Ts.length
  ·obtain ⟨t,ht⟩:∃t,Ts[D.length]? =some t:=⟨_,List.getElem?_eq_getElem hlt⟩;obtain ⟨⟨b,o,rfl,hb,q0,q0'⟩,q1⟩:=(za HV) D.length t ht;have c0:=(hbel.cell (p:=⟨b,_,none⟩) hb).trans q0;have c1:=(hbel.cell (p:=⟨b,_,none⟩) hb).trans q0';have hz:=hide (fun W (b:Below w.heap.size w W)=>ya3 t W (za HO t (List.mem_of_getElem? ht)) (Mem.za7 q1 b));have HN:=hide ht;have u1:(D.length:Int)<(Ts.length:Int):=by omega
   have u3:(0:Int)≤(D.length:Int):=by omega
   simp only [Pl.Tr.val] at c1;clear q0 q0' ht q1;go_wp2_with fail
   refine (za hz _ hbel).mono ?_;rintro e w1 ⟨g,rfl,hg,hrr,hn,b1⟩;have hgw:w.heap.size<g:=by have :=(Array.getElem?_eq_some_iff.1 (za HC).blk).1;omega
   have C1:=(za HC).call b1;have hb2:=hbel.trans (b1.mono hbel.size);have hcs:=C1.size;obtain ⟨x0,s0⟩:∃x,w1.cell? ⟨w.heap.size,D.length*2,none⟩=some x:=⟨_,(cell_of_row w1 _ (D.length*2) _ _ (0,0) C1.blk).trans (Array.getElem?_eq_getElem (by omega))⟩;obtain ⟨x1,s1⟩:∃x,w1.cell? ⟨w.heap.size,D.length*2+1,none⟩=some x:=⟨_,(cell_of_row w1 _ (D.length*2+1) _ _ (0,0) C1.blk).trans (Array.getElem?_eq_getElem (by omega))⟩;have f0:w1.frozen? ⟨w.heap.size,D.length*2,none⟩=false:=Mem.zb4 C1.blk;have f1:w1.frozen? ⟨w.heap.size,D.length*2+1,none⟩=false:=Mem.zb4 C1.blk;have HC2:=hide (C1.put t g (za HN) hgw hn hrr);have HB2:=hide hb2;clear b1 hbel hz HC C1 hn hg hb2 hcs hrr;go_wp2
   go_roundw
   case rel=>exact ⟨_,_,by rw [List.length_append,List.length_singleton];omega,by rw [List.length_append,List.length_singleton];go_num,((za HB2).setCell (Nat.le_refl _) _).setCell (Nat.le_refl _) _,HC2⟩
   case measure=>simp [intOf];omega
  ·have u1:¬ (D.length:Int)<(Ts.length:Int):=by omega
   go_wp2
   go_ret
   exact ⟨rfl,⟨D,by omega,cur,za HC⟩,hbel⟩
structure Rows (W:World) (g:Nat) (D:List Pl.It):Prop where
 items:Mem.zb2 W (some ⟨g,0,none⟩) D
 blk:∃cur,W.heap[g]? =some (.cells cur 143 (0,0))∧cur.size=D.length*2
 each:∀ (j:Nat) t,D[j]? =some t→∃q,t.t.a=some ⟨q,0,none⟩∧g<q∧q<W.heap.size∧∃cs,W.heap[q]? =some (.cells cs 56 (0,0))∧t.t.L.length*5≤cs.size∧t.t.cap=t.t.L.length
theorem yd4 (a:Option Addr) (cap:Nat) (Ts:List Pl.It) (w:World) (hl:Ts.length≤1048576) (hv:Mem.zb2 w a Ts) (hok:∀t∈Ts,t.t.L.length≤1048576):
  Calls Tryz.prog 82 #[.slice a Ts.length cap] w fun e w'=>∃g D,e= .returned (.slice (some ⟨g,0,none⟩) Ts.length Ts.length)∧w.heap.size≤g∧D.length=Ts.length∧D.map Pl.It.r=Ts.map Pl.It.r∧Rows w' g D∧Below w.heap.size w w':=
 (zw4 a cap Ts w hl hv hok).mono fun _ _ ⟨he,⟨D,cur,hD,hC⟩,b⟩=>⟨_,D,he,Nat.le_refl _,hD,by rw [hC.same,hD,List.take_length],⟨hC.items,⟨cur,hC.blk,by rw [hC.size,hD]⟩,fun j t hj=>by
  obtain ⟨-, -,g,h2,h3, -,cs,h5,h6⟩:=hC.each j t hj
  exact ⟨g,h2,h3,(Array.getElem?_eq_some_iff.1 h5).1,cs,h5,h6⟩⟩,b⟩
end WLawY
end
section
open Go.RowKit
namespace WMkJ
structure Has (W:World) (g X:Nat) (D:List Pl.It):Prop where
 cell:∀ (j:Nat) t,D[j]? =some t→W.cell? ⟨g,j*2+1,none⟩=some t.t.val
 blk:∃cur,W.heap[g]? =some (.cells cur 143 (0,0))∧cur.size=D.length*2
 gx:g<X
 each:∀ (j:Nat) t,D[j]? =some t→∃q,t.t.a=some ⟨q,0,none⟩∧g<q∧q<X∧∃cs,W.heap[q]? =some (.cells cs 56 (0,0))∧t.t.L.length*5≤cs.size
theorem Has.lt {W:World} {g X:Nat} {D:List Pl.It} (h:Has W g X D):g<W.heap.size:=by
 obtain ⟨cur,h1, -⟩:=h.blk;exact (Array.getElem?_eq_some_iff.1 h1).1
theorem has_rows {W:World} {g:Nat} {D:List Pl.It} (h:WLawY.Rows W g D):Has W g W.heap.size D:=
 ⟨fun j t hj=>by
  obtain ⟨⟨b,o,h1,h2,h3,h5⟩, -⟩:=h.items j t hj;cases h1
  rw [Nat.zero_add] at h5;exact h5,h.blk,by
  obtain ⟨cur,h1, -⟩:=h.blk;exact (Array.getElem?_eq_some_iff.1 h1).1,fun j t hj=>by
  obtain ⟨q,k1,k2,k3,cs,k4,k5, -⟩:=h.each j t hj
  exact ⟨q,k1,k2,k3,cs,k4,k5⟩⟩
theorem Has.call {W W':World} {g X:Nat} {D:List Pl.It} (h:Has W g X D) (b:Below W.heap.size W W'):Has W' g X D:=
 ⟨fun j t hj=>(b.cell (p:=⟨g,j*2+1,none⟩) h.lt).trans (h.cell j t hj),by
  obtain ⟨cur,h1,h2⟩:=h.blk;exact ⟨cur,(b.block g h.lt).trans h1,h2⟩,h.gx,fun j t hj=>by
  obtain ⟨q,h1,h2,h3,cs,h4,h5⟩:=h.each j t hj
  exact ⟨q,h1,h2,h3,cs,(b.block q (Array.getElem?_eq_some_iff.1 h4).1).trans h4,h5⟩⟩
theorem zg6 {w w':World} {g j:Nat} (h:w'.heap[g]? =w.heap[g]?):w'.cell? ⟨g,j,none⟩=w.cell? ⟨g,j,none⟩:=by
 simp only [World.cell?,h]
theorem Has.many {W:World} {g X i:Nat} {D:List Pl.It} (h:Has W g X D) (v:Value):Has (W.setCell ⟨g,i*2,none⟩ v) g X D:=by
 obtain ⟨cur,h1,h2⟩:=h.blk;have hb:(W.setCell ⟨g,i*2,none⟩ v).heap[g]? =some (.cells (cur.setIfInBounds (i*2) v) 143 (0,0)):=heap_setCell_same _ _ _ _ _ _ h1;refine ⟨fun j t hj=>?_,⟨_,hb,by simpa using h2⟩,h.gx,fun j t hj=>?_⟩
 ·have hc:=h.cell j t hj;rw [cell_of_row W _ _ _ _ (0,0) h1] at hc;rw [cell_of_row _ _ _ _ _ (0,0) hb,Array.getElem?_setIfInBounds,if_neg (by omega)];exact hc
 ·obtain ⟨q,h1,h2,h3,cs,h4,h5⟩:=h.each j t hj;exact ⟨q,h1,h2,h3,cs,(heap_setCell_other _ _ _ _ (by show q≠g;omega)).trans h4,h5⟩
theorem Has.marked {W W':World} {g X q:Nat} {D:List Pl.It} {cur cur':Array Value} (h:Has W g X D) (hq:g<q) (hr:W.heap[q]? =some (.cells cur 56 (0,0))) (hr':W'.heap[q]? =some (.cells cur' 56 (0,0))) (hs:cur'.size=cur.size) (hg:W.grownBy W' (some q)):Has W' g X D:=
 ⟨fun j t hj=>(zg6 (hg.block g h.lt (fun e=>by cases e;omega))).trans (h.cell j t hj),by
  obtain ⟨c,h1,h2⟩:=h.blk;exact ⟨c,(hg.block g h.lt (fun e=>by cases e;omega)).trans h1,h2⟩,h.gx,fun j t hj=>by
  obtain ⟨p,h1,h2,h3,cs,h4,h5⟩:=h.each j t hj;by_cases e:p=q
  ·subst e;rw [hr] at h4;cases h4
   exact ⟨p,h1,h2,h3,cur',hr',by omega⟩
  ·exact ⟨p,h1,h2,h3,cs,(hg.block p (Array.getElem?_eq_some_iff.1 h4).1 (fun e2=>by cases e2;exact e rfl)).trans h4,h5⟩⟩
theorem Has.low {W:World} {g X:Nat} {D:List Pl.It} (h:Has W g X D) (p:Addr) (v:Value) (hp:p.block<g):Has (W.setCell p v) g X D:=
 ⟨fun j t hj=>(zg6 (heap_setCell_other _ _ _ _ (by omega))).trans (h.cell j t hj),by
  obtain ⟨cur,h1,h2⟩:=h.blk;exact ⟨cur,(heap_setCell_other _ _ _ _ (by omega)).trans h1,h2⟩,h.gx,fun j t hj=>by
  obtain ⟨q,h1,h2,h3,cs,h4,h5⟩:=h.each j t hj
  exact ⟨q,h1,h2,h3,cs,(heap_setCell_other _ _ _ _ (by omega)).trans h4,h5⟩⟩
theorem Has.same {W W':World} {g X:Nat} {D:List Pl.It} (h:Has W g X D) (hb:∀b,g≤b→b<X→b<W.heap.size→W'.heap[b]? =W.heap[b]?):Has W' g X D:=by
 have hl:=h.lt;refine ⟨fun j t hj=>(zg6 (hb g (Nat.le_refl _) h.gx hl)).trans (h.cell j t hj),?_,h.gx,fun j t hj=>?_⟩
 ·obtain ⟨cur,h1,h2⟩:=h.blk;exact ⟨cur,(hb g (Nat.le_refl _) h.gx hl).trans h1,h2⟩
 ·obtain ⟨q,h1,h2,h3,cs,h4,h5⟩:=h.each j t hj;exact ⟨q,h1,h2,h3,cs,(hb q (by omega) h3 (Array.getElem?_eq_some_iff.1 h4).1).trans h4,h5⟩
end WMkJ
end
section
open Go.RowKit
namespace za8
structure HasS (W:World) (s:Pl.Sp) (gi gm gh:Nat) (B:Nat→Nat):Prop where
 ia:s.ia=some ⟨gi,0,none⟩
 ib:∃cur,W.heap[gi]? =some (.cells cur 105 (0,0))∧cur.size=s.N.length*2∧∀ (j:Nat) t,s.N[j]? =some t→cur[j*2+1]? =some (.slice t.a t.Is.length t.cap)
 lo:gi<B 0
 band:∀ (j:Nat) t,s.N[j]? =some t→∃g,t.a=some ⟨g,0,none⟩∧B j≤g∧WMkJ.Has W g (B (j+1)) t.Is
 top:B s.N.length≤gm
 ma:s.ma=some ⟨gm,0,none⟩
 mb:∃cur,W.heap[gm]? =some (.cells cur 51 (0,0))∧cur.size=s.M.length*3
 mh:gm<gh
 ha:s.ha=some ⟨gh,0,none⟩
 hb:∃cur,W.heap[gh]? =some (.cells cur 87 (0,0))∧cur.size=s.H.length*3
theorem HasS.call {W W':World} {s:Pl.Sp} {gi gm gh:Nat} {B:Nat→Nat} (h:HasS W s gi gm gh B) (b:Below W.heap.size W W'):HasS W' s gi gm gh B:=by
 obtain ⟨h1,⟨c1,h2,h3,h4⟩,h5,h6,h7,h8,⟨c2,h9,h10⟩,h11,h12,⟨c3,h13,h14⟩⟩:=h
 exact ⟨h1,⟨c1,(b.block _ (Array.getElem?_eq_some_iff.1 h2).1).trans h2,h3,h4⟩,h5,fun j t hj=>by
  obtain ⟨g,k1,k2,k3⟩:=h6 j t hj
  exact ⟨g,k1,k2,k3.call b⟩,h7,h8,⟨c2,(b.block _ (Array.getElem?_eq_some_iff.1 h9).1).trans h9,h10⟩,h11,h12,⟨c3,(b.block _ (Array.getElem?_eq_some_iff.1 h13).1).trans h13,h14⟩⟩
theorem HasS.mono {W:World} {s:Pl.Sp} {gi gm gh:Nat} {B:Nat→Nat} (h:HasS W s gi gm gh B):∀k,k≤s.N.length→B 0≤B k:=by
 intro k
 induction k with
 |zero=>intro _;exact Nat.le_refl _
 |succ k ih=>
  intro hk;have hx:s.N[k]? =some (s.N[k]'(by omega)):=List.getElem?_eq_getElem (by omega);obtain ⟨g, -,h2,h3⟩:=h.band k _ hx;have :=ih (by omega);have :=h3.gx;omega
theorem HasS.rise {W:World} {s:Pl.Sp} {gi gm gh:Nat} {B:Nat→Nat} (h:HasS W s gi gm gh B):∀k j,j≤k→k≤s.N.length→B j≤B k:=by
 intro k
 induction k with
 |zero=>
  intro j hj _;obtain rfl:j=0:=by omega
  exact Nat.le_refl _
 |succ k ih=>
  intro j hj hk;by_cases e:j=k+1
  ·subst e;exact Nat.le_refl _
  have hx:s.N[k]? =some (s.N[k]'(by omega)):=List.getElem?_eq_getElem (by omega);obtain ⟨g, -,h2,h3⟩:=h.band k _ hx;have :=ih j (by omega) (by omega);have :=h3.gx;omega
end za8
end
end Go.Proofs.YtgdjjncmocppeaaGreatDoor
