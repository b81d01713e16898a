/- Several texts of one claim in one file: WLawJ, WLawY. -/
import Derived.Test.YtpggbphcbcogdaaGreatDoorG44
namespace Go.Proofs.YtpggbphcbcogdaaGreatDoor
section
set_option linter.unusedSimpArgs false
open Go.RowKit
namespace WLaw
set_option maxRecDepth 100000 in
theorem zs6 (x:Pl.It) (w:World) (hl:x.t.L.length≤1048576) (hv:Mem.zb5 w x.t.a x.t.L):
  Calls Tryz.prog 21 #[.agg #[.int .i64 x.m, .slice x.t.a x.t.L.length x.t.cap]] w fun e w'=>∃g,e= .returned (.agg #[.int .i64 x.m, .slice (some ⟨g,0,none⟩) x.t.L.length x.t.L.length])∧w.heap.size≤g∧Mem.zb5 w' (some ⟨g,0,none⟩) x.t.L∧Below w.heap.size w w':=by
 obtain ⟨m,a,cap,L⟩:=x;simp only at hl hv ⊢;have b0:Below w.heap.size w (((w.alloc (.cells #[.int .i64 m, .slice a L.length cap] 38)).alloc (.cells #[.int .i64 0, .slice none 0 0] 52)).alloc (.cells #[.int .i64 m, .slice none 0 0] 52)):=((bE0).alloc (by simp) _).alloc (by simp;omega) _;have hz:=hide (zw7 a cap L _ hl (Mem.za9 hv b0));have hs:(((w.alloc (.cells #[.int .i64 m, .slice a L.length cap] 38)).alloc (.cells #[.int .i64 0, .slice none 0 0] 52)).alloc (.cells #[.int .i64 m, .slice none 0 0] 52)).heap.size=w.heap.size+1+1+1:=by simp
 have r1:Mem.Blk (((w.alloc (.cells #[.int .i64 m, .slice a L.length cap] 38)).alloc (.cells #[.int .i64 0, .slice none 0 0] 52)).alloc (.cells #[.int .i64 m, .slice none 0 0] 52)) (w.heap.size+1) #[.int .i64 0, .slice none 0 0] 52:=Mem.new_mid w _ _ _;have r2:Mem.Blk (((w.alloc (.cells #[.int .i64 m, .slice a L.length cap] 38)).alloc (.cells #[.int .i64 0, .slice none 0 0] 52)).alloc (.cells #[.int .i64 m, .slice none 0 0] 52)) (w.heap.size+1+1) #[.int .i64 m, .slice none 0 0] 52:=Mem.zt9 w _ _ _;have HB0:=hide b0;clear hv b0;go_enter Tryz.func21,Tryz.ntmps21
 go_wp2_with fail
 generalize (((w.alloc (.cells #[.int .i64 m, .slice a L.length cap] 38)).alloc (.cells #[.int .i64 0, .slice none 0 0] 52)).alloc (.cells #[.int .i64 m, .slice none 0 0] 52))=w3 at hz hs r1 r2 HB0 ⊢;refine (za hz).mono ?_;rintro e w1 ⟨g,rfl,hg, -,hn,b1⟩;have R1:=r1.call b1;have R2:=r2.call b1;obtain ⟨c10,c11⟩:=jc2 R1;obtain ⟨c20,c21⟩:=jc2 R2;have f10:=R1.fr 0;have f11:=R1.fr 1;have f20:=R2.fr 0;have f21:=R2.fr 1;have bb:=hide ((za HB0).trans (b1.mono (za HB0).size));have HG:Hid (w.heap.size+1+1+1≤g):=hide (by omega);have HN:=hide hn;clear hz b1 hn hs r1 r2 R1 R2 HB0 hg;go_wp2
 have hg:=za HG;refine bodyPost_ret (v:= .agg #[.int .i64 m, .slice (some ⟨g,0,none⟩) L.length L.length]) (by simp [results,Tryz.results21,go_sem,c10,c11]) rfl ⟨g,rfl,by omega,?_,?_⟩
 ·exact Mem.ze (Mem.ze (Mem.ze (za HN) _ _ (by show w.heap.size+1+1≠g;omega)) _ _ (by show w.heap.size+1≠g;omega)) _ _ (by show w.heap.size+1≠g;omega)
 ·exact (((za bb).setCell (by show w.heap.size≤w.heap.size+1+1;omega) _).setCell (by show w.heap.size≤w.heap.size+1;omega) _).setCell (by show w.heap.size≤w.heap.size+1;omega) _
def zn7 (n:Nat):Array Value:=madeCells (Value.agg #[.int .i64 0, .slice none 0 0]).cells (n*2)
theorem zr4 (n:Nat):(zn7 n).size=n*2:=size_madeCells _ _
theorem infoI:(Tryz.prog.info? 52).map (fun i=>(i.zero,i.size,i.bytes))=some (some (.agg #[.int .i64 0, .slice none 0 0]),2,32):=by kernel_rfl
theorem makeI (n:Nat) (hn:n≤1048576) (w:World):(Instr.makeSlice 26 (.int .i64 (n:Int)) (.int .i64 (n:Int))).run Tryz.prog w= .ok (.slice (some ⟨w.heap.size,0,none⟩) n n) (w.alloc (.cells (zn7 n) 52)):=by
 obtain ⟨i0,h0,h1,h2,h3⟩:=info_parts infoI;have h:=run_make (P:=Tryz.prog) w 26 52 i0 (.agg #[.int .i64 0, .slice none 0 0]) Tryz.underlying26 h0 h1 .i64 .i64 (n:Int) (n:Int) (by omega) (Int.le_refl _) (by rw [h3];omega) (by omega);rw [h,h2];simp [zn7]
structure CopI (w wr:World) (Ts D:List Pl.It) (cur:Array Value):Prop where
 blk:wr.heap[w.heap.size]? =some (.cells cur 52 (0,0))
 size:cur.size=Ts.length*2
 same:D.map Pl.It.r=(Ts.take D.length).map Pl.It.r
 each:∀ (j:Nat) t,D[j]? =some t→cur[j*2]? =some (.int .i64 t.m)∧cur[j*2+1]? =some t.t.val∧∃g,t.t.a=some ⟨g,0,none⟩∧w.heap.size<g∧Mem.zb5 wr t.t.a t.t.L
theorem CopI.call {w wr W:World} {Ts D:List Pl.It} {cur:Array Value} (h:CopI w wr Ts D cur) (b:Below wr.heap.size wr W):CopI w W Ts D cur:=
 ⟨(b.block _ (Array.getElem?_eq_some_iff.1 h.blk).1).trans h.blk,h.size,h.same,fun j t hj=>⟨(h.each j t hj).1,(h.each j t hj).2.1,by
  obtain ⟨g,h1,h2,h3⟩:=(h.each j t hj).2.2
  exact ⟨g,h1,h2,Mem.za9 h3 b⟩⟩⟩
theorem CopI.put {w wr:World} {Ts D:List Pl.It} {cur:Array Value} (h:CopI w wr Ts D cur) (t:Pl.It) (g:Nat) (hk:Ts[D.length]? =some t) (hg:w.heap.size<g) (hn:Mem.zb5 wr (some ⟨g,0,none⟩) t.t.L):
  CopI w ((wr.setCell ⟨w.heap.size,D.length*2,none⟩ (.int .i64 t.m)).setCell ⟨w.heap.size,D.length*2+1,none⟩ (.slice (some ⟨g,0,none⟩) t.t.L.length t.t.L.length)) Ts (D++[⟨t.m,some ⟨g,0,none⟩,t.t.L.length,t.t.L⟩]) ((cur.setIfInBounds (D.length*2) (.int .i64 t.m)).setIfInBounds (D.length*2+1) (.slice (some ⟨g,0,none⟩) t.t.L.length t.t.L.length)):=by
 have hlt:=(List.getElem?_eq_some_iff.1 hk).1;have hsz:=h.size;refine ⟨heap_setCell_same _ _ _ _ _ _ (heap_setCell_same _ _ _ _ _ _ h.blk),by simpa using h.size,?_,fun j m hj=>?_⟩
 ·rw [List.length_append,List.length_singleton,List.take_add_one,hk,List.map_append,List.map_append,h.same];rfl
 ·by_cases e:j<D.length
  ·rw [List.getElem?_append_left e] at hj;obtain ⟨h1,h1',g',h2,h3,h4⟩:=h.each j m hj;refine ⟨by rw [Array.getElem?_setIfInBounds,if_neg (by omega),Array.getElem?_setIfInBounds,if_neg (by omega)];exact h1,by rw [Array.getElem?_setIfInBounds,if_neg (by omega),Array.getElem?_setIfInBounds,if_neg (by omega)];exact h1',g',h2,h3,?_⟩;rw [h2] at h4 ⊢;exact Mem.ze (Mem.ze h4 _ _ (by show w.heap.size≠g';omega)) _ _ (by show w.heap.size≠g';omega)
  ·rw [List.getElem?_append_right (by omega)] at hj
   have hj0:j=D.length:=by
    have :=(List.getElem?_eq_some_iff.1 hj).1;simp at this;omega
   subst hj0;simp at hj
   subst hj;refine ⟨?_,?_,g,rfl,hg,Mem.ze (Mem.ze hn _ _ (by show w.heap.size≠g;omega)) _ _ (by show w.heap.size≠g;omega)⟩
   ·rw [Array.getElem?_setIfInBounds,if_neg (by omega),Array.getElem?_setIfInBounds,if_pos rfl,if_pos (by omega)]
   ·rw [Array.getElem?_setIfInBounds,if_pos rfl,if_pos (by rw [Array.size_setIfInBounds];omega)];rfl
theorem CopI.items {w wr:World} {Ts D:List Pl.It} {cur:Array Value} (h:CopI w wr Ts D cur):Mem.zb8 wr (some ⟨w.heap.size,0,none⟩) D:=fun i t hi=>by
 obtain ⟨h1,h1',g,h2,h3,h4⟩:=h.each i t hi;refine ⟨⟨_,0,rfl,(Array.getElem?_eq_some_iff.1 h.blk).1,?_,?_⟩,h4⟩
 ·rw [cell_of_row wr _ _ _ _ (0,0) h.blk,Nat.zero_add];exact h1
 ·rw [cell_of_row wr _ _ _ _ (0,0) h.blk,Nat.zero_add];exact h1'
set_option maxRecDepth 100000 in
set_option maxHeartbeats 800000 in
theorem zr1 (a:Option Addr) (cap:Nat) (Ts:List Pl.It) (w:World) (hl:Ts.length≤1048576) (hv:Mem.zb8 w a Ts) (hok:∀t∈Ts,t.t.L.length≤1048576):
  Calls Tryz.prog 6 #[.slice a Ts.length cap] w fun e w'=>e= .returned (.slice (some ⟨w.heap.size,0,none⟩) Ts.length Ts.length)∧(∃D cur,D.length=Ts.length∧CopI w w' Ts D cur)∧Below w.heap.size w w':=by
 have HV:=hide hv;have HO:=hide hok;have hmk:=makeI Ts.length hl w;clear hv hok;go_enter Tryz.func6,Tryz.ntmps6
 go_wp2
 go_loopw [4] (fun i wr=>∃ (D:List Pl.It) (cur:Array Value),D.length≤Ts.length∧i= .int .i64 (D.length:Int)∧Below w.heap.size w wr∧Hid (CopI w wr Ts D cur)) (fun i _=>Ts.length - (intOf i).toNat)
 case atStart=>exact ⟨[],zn7 Ts.length,Nat.zero_le _,rfl,bE0,hide ⟨heap_alloc_new w _,zr4 _,rfl,fun j t h=>by simp at h⟩⟩
 case round=>
  obtain ⟨D,cur,hk,rfl,hbel,HC⟩:=hrel;by_cases hlt:D.length<Ts.length
  ·obtain ⟨t,ht⟩:∃t,Ts[D.length]? =some t:=⟨_,List.getElem?_eq_getElem hlt⟩;obtain ⟨⟨b,o,rfl,hb,q0,q0'⟩,q1⟩:=(za HV) D.length t ht;have c0:=(hbel.cell (p:=⟨b,_,none⟩) hb).trans q0;have c1:=(hbel.cell (p:=⟨b,_,none⟩) hb).trans q0';have hz:=hide (fun W (b:Below w.heap.size w W)=>zs6 t W (za HO t (List.mem_of_getElem? ht)) (Mem.za9 q1 b));have HN:=hide ht;have u1:(D.length:Int)<(Ts.length:Int):=by omega
   have u3:(0:Int)≤(D.length:Int):=by omega
   simp only [Pl.Tr.val] at c1;clear q0 q0' ht q1;go_wp2_with fail
   refine (za hz _ hbel).mono ?_;rintro e w1 ⟨g,rfl,hg,hn,b1⟩;have hgw:w.heap.size<g:=by have :=(Array.getElem?_eq_some_iff.1 (za HC).blk).1;omega
   have C1:=(za HC).call b1;have hb2:=hbel.trans (b1.mono hbel.size);have hcs:=C1.size;obtain ⟨x0,s0⟩:∃x,w1.cell? ⟨w.heap.size,D.length*2,none⟩=some x:=⟨_,(cell_of_row w1 _ (D.length*2) _ _ (0,0) C1.blk).trans (Array.getElem?_eq_getElem (by omega))⟩;obtain ⟨x1,s1⟩:∃x,w1.cell? ⟨w.heap.size,D.length*2+1,none⟩=some x:=⟨_,(cell_of_row w1 _ (D.length*2+1) _ _ (0,0) C1.blk).trans (Array.getElem?_eq_getElem (by omega))⟩;have f0:w1.frozen? ⟨w.heap.size,D.length*2,none⟩=false:=Mem.zd5 C1.blk;have f1:w1.frozen? ⟨w.heap.size,D.length*2+1,none⟩=false:=Mem.zd5 C1.blk;have HC2:=hide (C1.put t g (za HN) hgw hn);have HB2:=hide hb2;clear b1 hbel hz HC C1 hn hg hb2 hcs;go_wp2
   go_roundw
   case rel=>exact ⟨_,_,by rw [List.length_append,List.length_singleton];omega,by rw [List.length_append,List.length_singleton];go_num,((za HB2).setCell (Nat.le_refl _) _).setCell (Nat.le_refl _) _,HC2⟩
   case measure=>simp [intOf];omega
  ·have u1:¬ (D.length:Int)<(Ts.length:Int):=by omega
   go_wp2
   go_ret
   exact ⟨rfl,⟨D,by omega,cur,za HC⟩,hbel⟩
theorem zv7 (a:Option Addr) (cap:Nat) (Ts:List Pl.It) (w:World) (hl:Ts.length≤1048576) (hv:Mem.zb8 w a Ts) (hok:∀t∈Ts,t.t.L.length≤1048576):
  Calls Tryz.prog 6 #[.slice a Ts.length cap] w fun e w'=>∃g D,e= .returned (.slice (some ⟨g,0,none⟩) Ts.length Ts.length)∧w.heap.size≤g∧D.length=Ts.length∧D.map Pl.It.r=Ts.map Pl.It.r∧Mem.zb8 w' (some ⟨g,0,none⟩) D∧Below w.heap.size w w':=
 (zr1 a cap Ts w hl hv hok).mono fun _ _ ⟨he,⟨D,cur,hD,hC⟩,b⟩=>⟨_,D,he,Nat.le_refl _,hD,by rw [hC.same,hD,List.take_length],hC.items,b⟩
end WLaw
end
section
set_option linter.unusedSimpArgs false
open Go.RowKit
namespace WLawY
open WLaw
set_option maxRecDepth 100000 in
theorem zs6 (x:Pl.It) (w:World) (hl:x.t.L.length≤1048576) (hv:Mem.zb5 w x.t.a x.t.L):
  Calls Tryz.prog 21 #[.agg #[.int .i64 x.m, .slice x.t.a x.t.L.length x.t.cap]] w fun e w'=>∃g,e= .returned (.agg #[.int .i64 x.m, .slice (some ⟨g,0,none⟩) x.t.L.length x.t.L.length])∧w.heap.size≤g∧(∃cs,w'.heap[g]? =some (.cells cs 42 (0,0))∧x.t.L.length*5≤cs.size)∧Mem.zb5 w' (some ⟨g,0,none⟩) x.t.L∧Below w.heap.size w w':=by
 obtain ⟨m,a,cap,L⟩:=x;simp only at hl hv ⊢;have b0:Below w.heap.size w (((w.alloc (.cells #[.int .i64 m, .slice a L.length cap] 38)).alloc (.cells #[.int .i64 0, .slice none 0 0] 52)).alloc (.cells #[.int .i64 m, .slice none 0 0] 52)):=((bE0).alloc (by simp) _).alloc (by simp;omega) _;have hz:=hide (zw7 a cap L _ hl (Mem.za9 hv b0));have hs:(((w.alloc (.cells #[.int .i64 m, .slice a L.length cap] 38)).alloc (.cells #[.int .i64 0, .slice none 0 0] 52)).alloc (.cells #[.int .i64 m, .slice none 0 0] 52)).heap.size=w.heap.size+1+1+1:=by simp
 have r1:Mem.Blk (((w.alloc (.cells #[.int .i64 m, .slice a L.length cap] 38)).alloc (.cells #[.int .i64 0, .slice none 0 0] 52)).alloc (.cells #[.int .i64 m, .slice none 0 0] 52)) (w.heap.size+1) #[.int .i64 0, .slice none 0 0] 52:=Mem.new_mid w _ _ _;have r2:Mem.Blk (((w.alloc (.cells #[.int .i64 m, .slice a L.length cap] 38)).alloc (.cells #[.int .i64 0, .slice none 0 0] 52)).alloc (.cells #[.int .i64 m, .slice none 0 0] 52)) (w.heap.size+1+1) #[.int .i64 m, .slice none 0 0] 52:=Mem.zt9 w _ _ _;have HB0:=hide b0;clear hv b0;go_enter Tryz.func21,Tryz.ntmps21
 go_wp2_with fail
 generalize (((w.alloc (.cells #[.int .i64 m, .slice a L.length cap] 38)).alloc (.cells #[.int .i64 0, .slice none 0 0] 52)).alloc (.cells #[.int .i64 m, .slice none 0 0] 52))=w3 at hz hs r1 r2 HB0 ⊢;refine (za hz).mono ?_;rintro e w1 ⟨g,rfl,hg,⟨cs,hrow,hcs⟩,hn,b1⟩;have HRW:=hide hrow;have HCS:=hide hcs;have R1:=r1.call b1;have R2:=r2.call b1;obtain ⟨c10,c11⟩:=jc2 R1;obtain ⟨c20,c21⟩:=jc2 R2;have f10:=R1.fr 0;have f11:=R1.fr 1;have f20:=R2.fr 0;have f21:=R2.fr 1;have bb:=hide ((za HB0).trans (b1.mono (za HB0).size));have HG:Hid (w.heap.size+1+1+1≤g):=hide (by omega);have HN:=hide hn;clear hz b1 hn hs r1 r2 R1 R2 HB0 hg hrow hcs;go_wp2
 have hg:=za HG;refine bodyPost_ret (v:= .agg #[.int .i64 m, .slice (some ⟨g,0,none⟩) L.length L.length]) (by simp [results,Tryz.results21,go_sem,c10,c11]) rfl ⟨g,rfl,by omega,⟨cs,?_,by have :=za HCS;omega⟩,?_,?_⟩
 ·rw [heap_setCell_other _ _ _ _ (by show g≠w.heap.size+1;omega),heap_setCell_other _ _ _ _ (by show g≠w.heap.size+1;omega),heap_setCell_other _ _ _ _ (by show g≠w.heap.size+1+1;omega)];exact za HRW
 ·exact Mem.ze (Mem.ze (Mem.ze (za HN) _ _ (by show w.heap.size+1+1≠g;omega)) _ _ (by show w.heap.size+1≠g;omega)) _ _ (by show w.heap.size+1≠g;omega)
 ·exact (((za bb).setCell (by show w.heap.size≤w.heap.size+1+1;omega) _).setCell (by show w.heap.size≤w.heap.size+1;omega) _).setCell (by show w.heap.size≤w.heap.size+1;omega) _
structure CopI (w wr:World) (Ts D:List Pl.It) (cur:Array Value):Prop where
 blk:wr.heap[w.heap.size]? =some (.cells cur 52 (0,0))
 size:cur.size=Ts.length*2
 same:D.map Pl.It.r=(Ts.take D.length).map Pl.It.r
 each:∀ (j:Nat) t,D[j]? =some t→cur[j*2]? =some (.int .i64 t.m)∧cur[j*2+1]? =some t.t.val∧∃g,t.t.a=some ⟨g,0,none⟩∧w.heap.size<g∧Mem.zb5 wr t.t.a t.t.L∧∃cs,wr.heap[g]? =some (.cells cs 42 (0,0))∧t.t.L.length*5≤cs.size∧t.t.cap=t.t.L.length
theorem CopI.call {w wr W:World} {Ts D:List Pl.It} {cur:Array Value} (h:CopI w wr Ts D cur) (b:Below wr.heap.size wr W):CopI w W Ts D cur:=
 ⟨(b.block _ (Array.getElem?_eq_some_iff.1 h.blk).1).trans h.blk,h.size,h.same,fun j t hj=>⟨(h.each j t hj).1,(h.each j t hj).2.1,by
  obtain ⟨g,h1,h2,h3,cs,h4,h5⟩:=(h.each j t hj).2.2
  exact ⟨g,h1,h2,Mem.za9 h3 b,cs,(b.block _ (Array.getElem?_eq_some_iff.1 h4).1).trans h4,h5⟩⟩⟩
theorem CopI.put {w wr:World} {Ts D:List Pl.It} {cur:Array Value} (h:CopI w wr Ts D cur) (t:Pl.It) (g:Nat) (hk:Ts[D.length]? =some t) (hg:w.heap.size<g) (hn:Mem.zb5 wr (some ⟨g,0,none⟩) t.t.L) (hr:∃cs,wr.heap[g]? =some (.cells cs 42 (0,0))∧t.t.L.length*5≤cs.size):
  CopI w ((wr.setCell ⟨w.heap.size,D.length*2,none⟩ (.int .i64 t.m)).setCell ⟨w.heap.size,D.length*2+1,none⟩ (.slice (some ⟨g,0,none⟩) t.t.L.length t.t.L.length)) Ts (D++[⟨t.m,some ⟨g,0,none⟩,t.t.L.length,t.t.L⟩]) ((cur.setIfInBounds (D.length*2) (.int .i64 t.m)).setIfInBounds (D.length*2+1) (.slice (some ⟨g,0,none⟩) t.t.L.length t.t.L.length)):=by
 have hlt:=(List.getElem?_eq_some_iff.1 hk).1;have hsz:=h.size;refine ⟨heap_setCell_same _ _ _ _ _ _ (heap_setCell_same _ _ _ _ _ _ h.blk),by simpa using h.size,?_,fun j m hj=>?_⟩
 ·rw [List.length_append,List.length_singleton,List.take_add_one,hk,List.map_append,List.map_append,h.same];rfl
 ·by_cases e:j<D.length
  ·rw [List.getElem?_append_left e] at hj;obtain ⟨h1,h1',g',h2,h3,h4,cs,h5,h6⟩:=h.each j m hj;refine ⟨by rw [Array.getElem?_setIfInBounds,if_neg (by omega),Array.getElem?_setIfInBounds,if_neg (by omega)];exact h1,by rw [Array.getElem?_setIfInBounds,if_neg (by omega),Array.getElem?_setIfInBounds,if_neg (by omega)];exact h1',g',h2,h3,?_,cs,(heap_setCell_other _ _ _ _ (by show g'≠w.heap.size;omega)).trans ((heap_setCell_other _ _ _ _ (by show g'≠w.heap.size;omega)).trans h5),h6⟩;rw [h2] at h4 ⊢;exact Mem.ze (Mem.ze h4 _ _ (by show w.heap.size≠g';omega)) _ _ (by show w.heap.size≠g';omega)
  ·rw [List.getElem?_append_right (by omega)] at hj
   have hj0:j=D.length:=by
    have :=(List.getElem?_eq_some_iff.1 hj).1;simp at this;omega
   subst hj0;simp at hj
   subst hj;obtain ⟨cs,h5,h6⟩:=hr;refine ⟨?_,?_,g,rfl,hg,Mem.ze (Mem.ze hn _ _ (by show w.heap.size≠g;omega)) _ _ (by show w.heap.size≠g;omega),cs,(heap_setCell_other _ _ _ _ (by show g≠w.heap.size;omega)).trans ((heap_setCell_other _ _ _ _ (by show g≠w.heap.size;omega)).trans h5),h6,rfl⟩
   ·rw [Array.getElem?_setIfInBounds,if_neg (by omega),Array.getElem?_setIfInBounds,if_pos rfl,if_pos (by omega)]
   ·rw [Array.getElem?_setIfInBounds,if_pos rfl,if_pos (by rw [Array.size_setIfInBounds];omega)];rfl
theorem CopI.items {w wr:World} {Ts D:List Pl.It} {cur:Array Value} (h:CopI w wr Ts D cur):Mem.zb8 wr (some ⟨w.heap.size,0,none⟩) D:=fun i t hi=>by
 obtain ⟨h1,h1',g,h2,h3,h4, -⟩:=h.each i t hi;refine ⟨⟨_,0,rfl,(Array.getElem?_eq_some_iff.1 h.blk).1,?_,?_⟩,h4⟩
 ·rw [cell_of_row wr _ _ _ _ (0,0) h.blk,Nat.zero_add];exact h1
 ·rw [cell_of_row wr _ _ _ _ (0,0) h.blk,Nat.zero_add];exact h1'
set_option maxRecDepth 100000 in
set_option maxHeartbeats 800000 in
theorem zr1 (a:Option Addr) (cap:Nat) (Ts:List Pl.It) (w:World) (hl:Ts.length≤1048576) (hv:Mem.zb8 w a Ts) (hok:∀t∈Ts,t.t.L.length≤1048576):
  Calls Tryz.prog 6 #[.slice a Ts.length cap] w fun e w'=>e= .returned (.slice (some ⟨w.heap.size,0,none⟩) Ts.length Ts.length)∧(∃D cur,D.length=Ts.length∧CopI w w' Ts D cur)∧Below w.heap.size w w':=by
 have HV:=hide hv;have HO:=hide hok;have hmk:=makeI Ts.length hl w;clear hv hok;go_enter Tryz.func6,Tryz.ntmps6
 go_wp2
 go_loopw [4] (fun i wr=>∃ (D:List Pl.It) (cur:Array Value),D.length≤Ts.length∧i= .int .i64 (D.length:Int)∧Below w.heap.size w wr∧Hid (CopI w wr Ts D cur)) (fun i _=>Ts.length - (intOf i).toNat)
 case atStart=>exact ⟨[],zn7 Ts.length,Nat.zero_le _,rfl,bE0,hide ⟨heap_alloc_new w _,zr4 _,rfl,fun j t h=>by simp at h⟩⟩
 case round=>
  obtain ⟨D,cur,hk,rfl,hbel,HC⟩:=hrel;by_cases hlt:D.length<Ts.length
  ·obtain ⟨t,ht⟩:∃t,Ts[D.length]? =some t:=⟨_,List.getElem?_eq_getElem hlt⟩;obtain ⟨⟨b,o,rfl,hb,q0,q0'⟩,q1⟩:=(za HV) D.length t ht;have c0:=(hbel.cell (p:=⟨b,_,none⟩) hb).trans q0;have c1:=(hbel.cell (p:=⟨b,_,none⟩) hb).trans q0';have hz:=hide (fun W (b:Below w.heap.size w W)=>zs6 t W (za HO t (List.mem_of_getElem? ht)) (Mem.za9 q1 b));have HN:=hide ht;have u1:(D.length:Int)<(Ts.length:Int):=by omega
   have u3:(0:Int)≤(D.length:Int):=by omega
   simp only [Pl.Tr.val] at c1;clear q0 q0' ht q1;go_wp2_with fail
   refine (za hz _ hbel).mono ?_;rintro e w1 ⟨g,rfl,hg,hrr,hn,b1⟩;have hgw:w.heap.size<g:=by have :=(Array.getElem?_eq_some_iff.1 (za HC).blk).1;omega
   have C1:=(za HC).call b1;have hb2:=hbel.trans (b1.mono hbel.size);have hcs:=C1.size;obtain ⟨x0,s0⟩:∃x,w1.cell? ⟨w.heap.size,D.length*2,none⟩=some x:=⟨_,(cell_of_row w1 _ (D.length*2) _ _ (0,0) C1.blk).trans (Array.getElem?_eq_getElem (by omega))⟩;obtain ⟨x1,s1⟩:∃x,w1.cell? ⟨w.heap.size,D.length*2+1,none⟩=some x:=⟨_,(cell_of_row w1 _ (D.length*2+1) _ _ (0,0) C1.blk).trans (Array.getElem?_eq_getElem (by omega))⟩;have f0:w1.frozen? ⟨w.heap.size,D.length*2,none⟩=false:=Mem.zd5 C1.blk;have f1:w1.frozen? ⟨w.heap.size,D.length*2+1,none⟩=false:=Mem.zd5 C1.blk;have HC2:=hide (C1.put t g (za HN) hgw hn hrr);have HB2:=hide hb2;clear b1 hbel hz HC C1 hn hg hb2 hcs hrr;go_wp2
   go_roundw
   case rel=>exact ⟨_,_,by rw [List.length_append,List.length_singleton];omega,by rw [List.length_append,List.length_singleton];go_num,((za HB2).setCell (Nat.le_refl _) _).setCell (Nat.le_refl _) _,HC2⟩
   case measure=>simp [intOf];omega
  ·have u1:¬ (D.length:Int)<(Ts.length:Int):=by omega
   go_wp2
   go_ret
   exact ⟨rfl,⟨D,by omega,cur,za HC⟩,hbel⟩
structure Rows (W:World) (g:Nat) (D:List Pl.It):Prop where
 items:Mem.zb8 W (some ⟨g,0,none⟩) D
 blk:∃cur,W.heap[g]? =some (.cells cur 52 (0,0))∧cur.size=D.length*2
 each:∀ (j:Nat) t,D[j]? =some t→∃q,t.t.a=some ⟨q,0,none⟩∧g<q∧q<W.heap.size∧∃cs,W.heap[q]? =some (.cells cs 42 (0,0))∧t.t.L.length*5≤cs.size∧t.t.cap=t.t.L.length
theorem zv7 (a:Option Addr) (cap:Nat) (Ts:List Pl.It) (w:World) (hl:Ts.length≤1048576) (hv:Mem.zb8 w a Ts) (hok:∀t∈Ts,t.t.L.length≤1048576):
  Calls Tryz.prog 6 #[.slice a Ts.length cap] w fun e w'=>∃g D,e= .returned (.slice (some ⟨g,0,none⟩) Ts.length Ts.length)∧w.heap.size≤g∧D.length=Ts.length∧D.map Pl.It.r=Ts.map Pl.It.r∧Rows w' g D∧Below w.heap.size w w':=
 (zr1 a cap Ts w hl hv hok).mono fun _ _ ⟨he,⟨D,cur,hD,hC⟩,b⟩=>⟨_,D,he,Nat.le_refl _,hD,by rw [hC.same,hD,List.take_length],⟨hC.items,⟨cur,hC.blk,by rw [hC.size,hD]⟩,fun j t hj=>by
  obtain ⟨-, -,g,h2,h3, -,cs,h5,h6⟩:=hC.each j t hj
  exact ⟨g,h2,h3,(Array.getElem?_eq_some_iff.1 h5).1,cs,h5,h6⟩⟩,b⟩
end WLawY
end
end Go.Proofs.YtpggbphcbcogdaaGreatDoor
