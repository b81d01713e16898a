/- Several texts of one claim in one file: MemHas, WLawTn, WLawR, WLawI. -/
import Derived.Test.YtonffldjbmednaaGreatDoorG03
import Derived.Test.YtonffldjbmednaaGreatDoorG02
import Derived.Outline
import Derived.Deep.QuietTactic
import Derived.BigQuiet
import Derived.Deep.RegionHeld3
namespace Go.Proofs.YtonffldjbmednaaGreatDoor
section
open Go.RowKit
namespace WMkJ
structure Has (W:World) (g X:Nat) (D:List Pl.It):Prop where
 cell:∀ (j:Nat) t,D[j]? =some t→W.cell? ⟨g,j*2+1,none⟩=some t.t.val
 blk:∃cur,W.heap[g]? =some (.cells cur 151 (0,0))∧cur.size=D.length*2
 gx:g<X
 each:∀ (j:Nat) t,D[j]? =some t→∃q,t.t.a=some ⟨q,0,none⟩∧g<q∧q<X∧∃cs,W.heap[q]? =some (.cells cs 189 (0,0))∧t.t.L.length*5≤cs.size
theorem Has.lt {W:World} {g X:Nat} {D:List Pl.It} (h:Has W g X D):g<W.heap.size:=by
 obtain ⟨cur,h1, -⟩:=h.blk;exact (Array.getElem?_eq_some_iff.1 h1).1
theorem has_rows {W:World} {g:Nat} {D:List Pl.It} (h:WLawY.Rows W g D):Has W g W.heap.size D:=
 ⟨fun j t hj=>by
  obtain ⟨⟨b,o,h1,h2,h3,h5⟩, -⟩:=h.items j t hj;cases h1
  rw [Nat.zero_add] at h5;exact h5,h.blk,by
  obtain ⟨cur,h1, -⟩:=h.blk;exact (Array.getElem?_eq_some_iff.1 h1).1,fun j t hj=>by
  obtain ⟨q,k1,k2,k3,cs,k4,k5, -⟩:=h.each j t hj
  exact ⟨q,k1,k2,k3,cs,k4,k5⟩⟩
theorem Has.call {W W':World} {g X:Nat} {D:List Pl.It} (h:Has W g X D) (b:Below W.heap.size W W'):Has W' g X D:=
 ⟨fun j t hj=>(b.cell (p:=⟨g,j*2+1,none⟩) h.lt).trans (h.cell j t hj),by
  obtain ⟨cur,h1,h2⟩:=h.blk;exact ⟨cur,(b.block g h.lt).trans h1,h2⟩,h.gx,fun j t hj=>by
  obtain ⟨q,h1,h2,h3,cs,h4,h5⟩:=h.each j t hj
  exact ⟨q,h1,h2,h3,cs,(b.block q (Array.getElem?_eq_some_iff.1 h4).1).trans h4,h5⟩⟩
theorem zf0 {w w':World} {g j:Nat} (h:w'.heap[g]? =w.heap[g]?):w'.cell? ⟨g,j,none⟩=w.cell? ⟨g,j,none⟩:=by
 simp only [World.cell?,h]
theorem Has.many {W:World} {g X i:Nat} {D:List Pl.It} (h:Has W g X D) (v:Value):Has (W.setCell ⟨g,i*2,none⟩ v) g X D:=by
 obtain ⟨cur,h1,h2⟩:=h.blk;have hb:(W.setCell ⟨g,i*2,none⟩ v).heap[g]? =some (.cells (cur.setIfInBounds (i*2) v) 151 (0,0)):=heap_setCell_same _ _ _ _ _ _ h1;refine ⟨fun j t hj=>?_,⟨_,hb,by simpa using h2⟩,h.gx,fun j t hj=>?_⟩
 ·have hc:=h.cell j t hj;rw [cell_of_row W _ _ _ _ (0,0) h1] at hc;rw [cell_of_row _ _ _ _ _ (0,0) hb,Array.getElem?_setIfInBounds,if_neg (by omega)];exact hc
 ·obtain ⟨q,h1,h2,h3,cs,h4,h5⟩:=h.each j t hj;exact ⟨q,h1,h2,h3,cs,(heap_setCell_other _ _ _ _ (by show q≠g;omega)).trans h4,h5⟩
theorem Has.marked {W W':World} {g X q:Nat} {D:List Pl.It} {cur cur':Array Value} (h:Has W g X D) (hq:g<q) (hr:W.heap[q]? =some (.cells cur 189 (0,0))) (hr':W'.heap[q]? =some (.cells cur' 189 (0,0))) (hs:cur'.size=cur.size) (hg:W.grownBy W' (some q)):Has W' g X D:=
 ⟨fun j t hj=>(zf0 (hg.block g h.lt (fun e=>by cases e;omega))).trans (h.cell j t hj),by
  obtain ⟨c,h1,h2⟩:=h.blk;exact ⟨c,(hg.block g h.lt (fun e=>by cases e;omega)).trans h1,h2⟩,h.gx,fun j t hj=>by
  obtain ⟨p,h1,h2,h3,cs,h4,h5⟩:=h.each j t hj;by_cases e:p=q
  ·subst e;rw [hr] at h4;cases h4
   exact ⟨p,h1,h2,h3,cur',hr',by omega⟩
  ·exact ⟨p,h1,h2,h3,cs,(hg.block p (Array.getElem?_eq_some_iff.1 h4).1 (fun e2=>by cases e2;exact e rfl)).trans h4,h5⟩⟩
theorem Has.low {W:World} {g X:Nat} {D:List Pl.It} (h:Has W g X D) (p:Addr) (v:Value) (hp:p.block<g):Has (W.setCell p v) g X D:=
 ⟨fun j t hj=>(zf0 (heap_setCell_other _ _ _ _ (by omega))).trans (h.cell j t hj),by
  obtain ⟨cur,h1,h2⟩:=h.blk;exact ⟨cur,(heap_setCell_other _ _ _ _ (by omega)).trans h1,h2⟩,h.gx,fun j t hj=>by
  obtain ⟨q,h1,h2,h3,cs,h4,h5⟩:=h.each j t hj
  exact ⟨q,h1,h2,h3,cs,(heap_setCell_other _ _ _ _ (by omega)).trans h4,h5⟩⟩
theorem Has.same {W W':World} {g X:Nat} {D:List Pl.It} (h:Has W g X D) (hb:∀b,g≤b→b<X→b<W.heap.size→W'.heap[b]? =W.heap[b]?):Has W' g X D:=by
 have hl:=h.lt;refine ⟨fun j t hj=>(zf0 (hb g (Nat.le_refl _) h.gx hl)).trans (h.cell j t hj),?_,h.gx,fun j t hj=>?_⟩
 ·obtain ⟨cur,h1,h2⟩:=h.blk;exact ⟨cur,(hb g (Nat.le_refl _) h.gx hl).trans h1,h2⟩
 ·obtain ⟨q,h1,h2,h3,cs,h4,h5⟩:=h.each j t hj;exact ⟨q,h1,h2,h3,cs,(hb q (by omega) h3 (Array.getElem?_eq_some_iff.1 h4).1).trans h4,h5⟩
end WMkJ
end
section
set_option linter.unusedSimpArgs false
open Go.RowKit
namespace WLawY
theorem Rows.call {W W':World} {g:Nat} {D:List Pl.It} (h:Rows W g D) (b:Below W.heap.size W W'):Rows W' g D:=by
 obtain ⟨cur,h1,h2⟩:=h.blk;refine ⟨Mem.zc2 h.items b,⟨cur,(b.block _ (Array.getElem?_eq_some_iff.1 h1).1).trans h1,h2⟩,fun j t hj=>?_⟩;obtain ⟨q,a1,a2,a3,cs,a4,a5⟩:=h.each j t hj;exact ⟨q,a1,a2,Nat.lt_of_lt_of_le a3 b.size,cs,(b.block _ (Array.getElem?_eq_some_iff.1 a4).1).trans a4,a5⟩
theorem Rows.low {W:World} {g:Nat} {D:List Pl.It} (h:Rows W g D) (p:Addr) (v:Value) (hp:p.block<g):Rows (W.setCell p v) g D:=by
 obtain ⟨cur,h1,h2⟩:=h.blk;have hg:=(Array.getElem?_eq_some_iff.1 h1).1;refine ⟨fun i t hi=>?_,⟨cur,(heap_setCell_other _ _ _ _ (by omega)).trans h1,h2⟩,fun j t hj=>?_⟩
 ·obtain ⟨⟨b,o,e,hb,c0,c1⟩,hn⟩:=h.items i t hi;cases e
  obtain ⟨q,a1,a2,a3, -⟩:=h.each i t hi;refine ⟨⟨g,0,rfl,by rw [World.size_setCell];exact hb,?_,?_⟩,?_⟩
  ·rw [World.cell?_setCell_other _ _ _ _ (fun e=>by rw [e] at hp;exact absurd hp (by show ¬g<g;omega))];exact c0
  ·rw [World.cell?_setCell_other _ _ _ _ (fun e=>by rw [e] at hp;exact absurd hp (by show ¬g<g;omega))];exact c1
  ·rw [a1] at hn ⊢;exact Mem.zd7 hn p v (by omega)
 ·obtain ⟨q,a1,a2,a3,cs,a4,a5⟩:=h.each j t hj;exact ⟨q,a1,a2,by rw [World.size_setCell];exact a3,cs,(heap_setCell_other _ _ _ _ (by omega)).trans a4,a5⟩
end WLawY
namespace zb
open WLaw
set_option maxRecDepth 100000 in
theorem yc0 (x:Pl.Ns) (w:World) (hl:x.Is.length≤1048576) (hv:Mem.zb0 w x.a x.Is) (hok:∀t∈x.Is,t.t.L.length≤1048576):
  Calls Tryz.prog 61 #[.agg #[.int .i64 x.d, .slice x.a x.Is.length x.cap]] w fun e w'=>∃g D,e= .returned (.agg #[.int .i64 x.d, .slice (some ⟨g,0,none⟩) x.Is.length x.Is.length])∧w.heap.size≤g∧D.length=x.Is.length∧D.map Pl.It.r=x.Is.map Pl.It.r∧WLawY.Rows w' g D∧Below w.heap.size w w':=by
 obtain ⟨m,a,cap,L⟩:=x;simp only at hl hv hok ⊢;have b0:Below w.heap.size w (((w.alloc (.cells #[.int .i64 m, .slice a L.length cap] 94)).alloc (.cells #[.int .i64 0, .slice none 0 0] 103)).alloc (.cells #[.int .i64 m, .slice none 0 0] 103)):=(((Below.refl _ _).alloc (Nat.le_refl _) _).alloc (by simp) _).alloc (by simp;omega) _;have hz:=hide (WLawY.zy4 a cap L _ hl (Mem.zc2 hv b0) hok);have hs:(((w.alloc (.cells #[.int .i64 m, .slice a L.length cap] 94)).alloc (.cells #[.int .i64 0, .slice none 0 0] 103)).alloc (.cells #[.int .i64 m, .slice none 0 0] 103)).heap.size=w.heap.size+1+1+1:=by simp
 have r1:Mem.Blk (((w.alloc (.cells #[.int .i64 m, .slice a L.length cap] 94)).alloc (.cells #[.int .i64 0, .slice none 0 0] 103)).alloc (.cells #[.int .i64 m, .slice none 0 0] 103)) (w.heap.size+1) #[.int .i64 0, .slice none 0 0] 103:=Mem.zn4 w _ _ _;have r2:Mem.Blk (((w.alloc (.cells #[.int .i64 m, .slice a L.length cap] 94)).alloc (.cells #[.int .i64 0, .slice none 0 0] 103)).alloc (.cells #[.int .i64 m, .slice none 0 0] 103)) (w.heap.size+1+1) #[.int .i64 m, .slice none 0 0] 103:=Mem.zk0 w _ _ _;have HB0:=hide b0;clear hv b0 hok;go_enter Tryz.func61,Tryz.ntmps61
 go_wp2_with fail
 generalize (((w.alloc (.cells #[.int .i64 m, .slice a L.length cap] 94)).alloc (.cells #[.int .i64 0, .slice none 0 0] 103)).alloc (.cells #[.int .i64 m, .slice none 0 0] 103))=w3 at hz hs r1 r2 HB0 ⊢;refine (za hz).mono ?_;rintro e w1 ⟨g,D,rfl,hg,hD,hm,hn,b1⟩;have R1:=r1.call b1;have R2:=r2.call b1;have c10:=R1.cell 0;have c11:=R1.cell 1;have c20:=R2.cell 0;have c21:=R2.cell 1;have f10:=R1.fr 0;have f11:=R1.fr 1;have f20:=R2.fr 0;have f21:=R2.fr 1;simp only [kGs] at c10 c11 c20 c21;have bb:=hide ((za HB0).trans (b1.mono (za HB0).size));have HG:Hid (w.heap.size+1+1+1≤g):=hide (by omega);have HN:=hide hn;have HD:=hide hD;have HM:=hide hm;clear hz b1 hn hs r1 r2 R1 R2 HB0 hg hD hm;go_wp2
 have hg:=za HG;refine bodyPost_ret (v:= .agg #[.int .i64 m, .slice (some ⟨g,0,none⟩) L.length L.length]) (by simp [results,Tryz.results61,go_sem,c10,c11]) rfl ⟨g,D,rfl,by omega,za HD,za HM,?_,?_⟩
 ·exact (((za HN).low _ _ (by show w.heap.size+1+1<g;omega)).low _ _ (by show w.heap.size+1<g;omega)).low _ _ (by show w.heap.size+1<g;omega)
 ·exact (((za bb).setCell (by show w.heap.size≤w.heap.size+1+1;omega) _).setCell (by show w.heap.size≤w.heap.size+1;omega) _).setCell (by show w.heap.size≤w.heap.size+1;omega) _
theorem infoInst:(Tryz.prog.info? 103).map (fun i=>(i.zero,i.size,i.bytes))=some (some (.agg #[.int .i64 0, .slice none 0 0]),2,32):=by kernel_rfl
theorem makeInst (n:Nat) (hn:n≤1048576) (w:World):(Instr.makeSlice 28 (.int .i64 (n:Int)) (.int .i64 (n:Int))).run Tryz.prog w= .ok (.slice (some ⟨w.heap.size,0,none⟩) n n) (w.alloc (.cells (madeCells (Value.agg #[.int .i64 0, .slice none 0 0]).cells (n*2)) 103)):=by
 obtain ⟨i0,h0,h1,h2,h3⟩:=info_parts infoInst;have h:=run_make (P:=Tryz.prog) w 28 103 i0 (.agg #[.int .i64 0, .slice none 0 0]) Tryz.underlying28 h0 h1 .i64 .i64 (n:Int) (n:Int) (by omega) (Int.le_refl _) (by rw [h3];omega) (by omega);rw [h,h2];simp
structure CopN (w wr:World) (Ts D:List Pl.Ns) (cur:Array Value) (B:Nat→Nat):Prop where
 blk:wr.heap[w.heap.size]? =some (.cells cur 103 (0,0))
 size:cur.size=Ts.length*2
 same:D.map Pl.Ns.r=(Ts.take D.length).map Pl.Ns.r
 each:∀ (j:Nat) t,D[j]? =some t→cur[j*2]? =some (.int .i64 t.d)∧cur[j*2+1]? =some (.slice t.a t.Is.length t.cap)∧∃g,t.a=some ⟨g,0,none⟩∧w.heap.size<g∧WLawY.Rows wr g t.Is∧t.cap=t.Is.length
 lo:w.heap.size<B 0
 top:B D.length≤wr.heap.size
 band:∀ (j:Nat) t,D[j]? =some t→∃g,t.a=some ⟨g,0,none⟩∧B j≤g∧WMkJ.Has wr g (B (j+1)) t.Is
theorem CopN.call {w wr W:World} {Ts D:List Pl.Ns} {cur:Array Value} {B:Nat→Nat} (h:CopN w wr Ts D cur B) (b:Below wr.heap.size wr W):CopN w W Ts D cur B:=
 ⟨(b.block _ (Array.getElem?_eq_some_iff.1 h.blk).1).trans h.blk,h.size,h.same,fun j t hj=>⟨(h.each j t hj).1,(h.each j t hj).2.1,by
  obtain ⟨g,h1,h2,h3,h4⟩:=(h.each j t hj).2.2
  exact ⟨g,h1,h2,h3.call b,h4⟩⟩,h.lo,Nat.le_trans h.top b.size,fun j t hj=>by
  obtain ⟨g,h1,h2,h3⟩:=h.band j t hj
  exact ⟨g,h1,h2,h3.call b⟩⟩
def more (B:Nat→Nat) (n X:Nat):Nat→Nat:=fun j=>if j≤n then B j else X
theorem CopN.put {w wr:World} {Ts D:List Pl.Ns} {cur:Array Value} {B:Nat→Nat} (h:CopN w wr Ts D cur B) (t:Pl.Ns) (g:Nat) (E:List Pl.It) (hk:Ts[D.length]? =some t) (hg:w.heap.size<g) (hE:E.length=t.Is.length) (hm:E.map Pl.It.r=t.Is.map Pl.It.r) (hn:WLawY.Rows wr g E) (hB:B D.length≤g):
  CopN w ((wr.setCell ⟨w.heap.size,D.length*2,none⟩ (.int .i64 t.d)).setCell ⟨w.heap.size,D.length*2+1,none⟩ (.slice (some ⟨g,0,none⟩) t.Is.length t.Is.length)) Ts (D++[⟨t.d,some ⟨g,0,none⟩,t.Is.length,E⟩]) ((cur.setIfInBounds (D.length*2) (.int .i64 t.d)).setIfInBounds (D.length*2+1) (.slice (some ⟨g,0,none⟩) t.Is.length t.Is.length)) (more B D.length wr.heap.size):=by
 have hlt:=(List.getElem?_eq_some_iff.1 hk).1;have hsz:=h.size;refine ⟨heap_setCell_same _ _ _ _ _ _ (heap_setCell_same _ _ _ _ _ _ h.blk),by simpa using h.size,?_,fun j m hj=>?_,by simp only [more,Nat.zero_le,if_true];exact h.lo,by simp only [more,List.length_append,List.length_singleton];rw [if_neg (by omega),World.size_setCell,World.size_setCell];exact Nat.le_refl _,fun j m hj=>?_⟩
 ·rw [List.length_append,List.length_singleton,List.take_add_one,hk,List.map_append,List.map_append,h.same];simp [Pl.Ns.r,hm]
 ·by_cases e:j<D.length
  ·rw [List.getElem?_append_left e] at hj;obtain ⟨h1,h1',g',h2,h3,h4,h5⟩:=h.each j m hj;exact ⟨by rw [Array.getElem?_setIfInBounds,if_neg (by omega),Array.getElem?_setIfInBounds,if_neg (by omega)];exact h1,by rw [Array.getElem?_setIfInBounds,if_neg (by omega),Array.getElem?_setIfInBounds,if_neg (by omega)];exact h1',g',h2,h3,(h4.low _ _ h3).low _ _ h3,h5⟩
  ·rw [List.getElem?_append_right (by omega)] at hj
   have hj0:j=D.length:=by
    have :=(List.getElem?_eq_some_iff.1 hj).1;simp at this;omega
   subst hj0;simp at hj
   subst hj;refine ⟨?_,?_,g,rfl,hg,(hn.low _ _ hg).low _ _ hg,hE.symm⟩
   ·rw [Array.getElem?_setIfInBounds,if_neg (by omega),Array.getElem?_setIfInBounds,if_pos rfl,if_pos (by omega)]
   ·rw [Array.getElem?_setIfInBounds,if_pos rfl,if_pos (by rw [Array.size_setIfInBounds];omega),hE]
 ·by_cases e:j<D.length
  ·rw [List.getElem?_append_left e] at hj;obtain ⟨g',h2,h3,h4⟩:=h.band j m hj
   have hg':w.heap.size<g':=by
    obtain ⟨-, -,g2,e2,h5, -⟩:=h.each j m hj;rw [h2] at e2;cases e2
    exact h5
   refine ⟨g',h2,by simp only [more];rw [if_pos (by omega)];exact h3,?_⟩;simp only [more];rw [if_pos (by omega)];exact (h4.low _ _ hg').low _ _ hg'
  ·rw [List.getElem?_append_right (by omega)] at hj
   have hj0:j=D.length:=by
    have :=(List.getElem?_eq_some_iff.1 hj).1;simp at this;omega
   subst hj0;simp at hj
   subst hj;refine ⟨g,rfl,by simp only [more];rw [if_pos (by omega)];exact hB,?_⟩;simp only [more];rw [if_neg (by omega)];exact ((WMkJ.has_rows hn).low _ _ hg).low _ _ hg
theorem CopN.zf9 {w wr:World} {Ts D:List Pl.Ns} {cur:Array Value} {B:Nat→Nat} (h:CopN w wr Ts D cur B):Mem.ze4 wr (some ⟨w.heap.size,0,none⟩) D:=fun i t hi=>by
 obtain ⟨h1,h1',g,h2,h3,h4, -⟩:=h.each i t hi;refine ⟨⟨_,0,rfl,(Array.getElem?_eq_some_iff.1 h.blk).1,?_,?_⟩,by rw [h2];exact h4.items⟩
 ·rw [cell_of_row wr _ _ _ _ (0,0) h.blk,Nat.zero_add];exact h1
 ·rw [cell_of_row wr _ _ _ _ (0,0) h.blk,Nat.zero_add];exact h1'
set_option maxRecDepth 100000 in
set_option maxHeartbeats 800000 in
theorem yb0 (a:Option Addr) (cap:Nat) (Ts:List Pl.Ns) (w:World) (hl:Ts.length≤1048576) (hv:Mem.ze4 w a Ts) (hok:∀x∈Ts,x.Is.length≤1048576∧∀t∈x.Is,t.t.L.length≤1048576):
  Calls Tryz.prog 29 #[.slice a Ts.length cap] w fun e w'=>e= .returned (.slice (some ⟨w.heap.size,0,none⟩) Ts.length Ts.length)∧(∃D cur B,D.length=Ts.length∧CopN w w' Ts D cur B)∧Below w.heap.size w w':=by
 have HV:=hide hv;have HO:=hide hok;have hmk:=makeInst Ts.length hl w;clear hv hok;go_enter Tryz.func29,Tryz.ntmps29
 go_wp2
 go_loopw [4] (fun i wr=>∃ (D:List Pl.Ns) (cur:Array Value) (B:Nat→Nat),D.length≤Ts.length∧i= .int .i64 (D.length:Int)∧Below w.heap.size w wr∧Hid (CopN w wr Ts D cur B)) (fun i _=>Ts.length - (intOf i).toNat)
 case atStart=>exact ⟨[],_,fun _=>w.heap.size+1,Nat.zero_le _,rfl,(Below.refl _ _).alloc (Nat.le_refl _) _,hide ⟨heap_alloc_new w _,size_madeCells _ _,rfl,fun j t h=>by simp at h,Nat.lt_succ_self _,by simp,fun j t h=>by simp at h⟩⟩
 case round=>
  obtain ⟨D,cur,B,hk,rfl,hbel,HC⟩:=hrel;by_cases hlt:D.length<Ts.length
  ·obtain ⟨t,ht⟩:∃t,Ts[D.length]? =some t:=⟨_,List.getElem?_eq_getElem hlt⟩;obtain ⟨⟨b,o,rfl,hb,q0,q1⟩,qq⟩:=(za HV) D.length t ht;have c0:=(hbel.cell (p:=⟨b,_,none⟩) hb).trans q0;have c1:=(hbel.cell (p:=⟨b,_,none⟩) hb).trans q1;have hz:=hide (fun W (b:Below w.heap.size w W)=>yc0 t W (za HO t (List.mem_of_getElem? ht)).1 (Mem.zc2 qq b) (za HO t (List.mem_of_getElem? ht)).2);have HN:=hide ht;have u1:(D.length:Int)<(Ts.length:Int):=by omega
   have u3:(0:Int)≤(D.length:Int):=by omega
   clear q0 q1 ht qq;go_wp2_with fail
   refine (za hz _ hbel).mono ?_;rintro e w1 ⟨g,E,rfl,hg,hEl,hEm,hn,b1⟩;have hgw:w.heap.size<g:=by have :=(Array.getElem?_eq_some_iff.1 (za HC).blk).1;omega
   have C1:=(za HC).call b1;have hBg:B D.length≤g:=Nat.le_trans (za HC).top hg;have hb2:=hbel.trans (b1.mono hbel.size);have hcs:=C1.size;obtain ⟨x0,s0⟩:∃x,w1.cell? ⟨w.heap.size,D.length*2,none⟩=some x:=⟨_,(cell_of_row w1 _ (D.length*2) _ _ (0,0) C1.blk).trans (Array.getElem?_eq_getElem (by omega))⟩;obtain ⟨x1,s1⟩:∃x,w1.cell? ⟨w.heap.size,D.length*2+1,none⟩=some x:=⟨_,(cell_of_row w1 _ (D.length*2+1) _ _ (0,0) C1.blk).trans (Array.getElem?_eq_getElem (by omega))⟩;have f0:w1.frozen? ⟨w.heap.size,D.length*2,none⟩=false:=Mem.zb1 C1.blk;have f1:w1.frozen? ⟨w.heap.size,D.length*2+1,none⟩=false:=Mem.zb1 C1.blk;have HC2:=hide (C1.put t g E (za HN) hgw hEl hEm hn hBg);have HB2:=hide hb2;clear b1 hbel hz HC C1 hn hg hb2 hcs hEl hEm;go_wp2
   go_roundw
   case rel=>exact ⟨_,_,_,by rw [List.length_append,List.length_singleton];omega,by rw [List.length_append,List.length_singleton];go_num,((za HB2).setCell (Nat.le_refl _) _).setCell (Nat.le_refl _) _,HC2⟩
   case measure=>simp [intOf];omega
  ·have u1:¬ (D.length:Int)<(Ts.length:Int):=by omega
   go_wp2
   go_ret
   exact ⟨rfl,⟨D,by omega,cur,B,za HC⟩,hbel⟩
end zb
end
section
open Go.RowKit
namespace WLaw
set_option maxRecDepth 100000 in
set_option maxHeartbeats 400000 in
theorem szNodeS_left (a:Option Addr) (cap:Nat) (L:List Pl.Nd) (left:Int) (hf0:0≤left) (hf1:left≤1048576) (w:World) (hl:L.length≤maxLen) (hv:Mem.za7 w a L) (hok:∀n∈L,n.path.size≤maxLen∧n.data.size≤maxLen):
  Calls Tryz.prog 165 #[.slice a L.length cap, .int .i64 left] w fun e w'=>(∃r:Int,e= .returned (.int .i64 r)∧(r= -1∨0≤r∧r≤1048576∧L.length≤1048576∧∀n∈L,n.path.size≤1048576∧n.data.size≤1048576))∧Below w.heap.size w w':=by
 have hl2:=hl;unfold maxLen at hl2;by_cases h0:left<(L.length:Int)
 ·have t0:left - (L.length:Int)<0:=by omega
  have t1:IntKind.i64.wrap (left - (L.length:Int))=left - (L.length:Int):=by rw [IntKind.wrap_i64];omega
  go_enter Tryz.func165,Tryz.ntmps165
  go_wp2
  go_ret
  exact ⟨⟨-1,rfl, .inl rfl⟩,Below.refl _ _⟩
 have t0:¬left - (L.length:Int)<0:=by omega
 have t1:IntKind.i64.wrap (left - (L.length:Int))=left - (L.length:Int):=by rw [IntKind.wrap_i64];omega
 have HV:=hide hv;have HO:=hide hok;clear hv hok;go_enter Tryz.func165,Tryz.ntmps165
 go_wp2
 go_loopw [1,5] (fun l i wr=>∃ (k:Nat) (r:Int),k≤L.length∧i= .int .i64 (k:Int)∧l= .int .i64 r∧0≤r∧r≤1048576∧Below w.heap.size w wr∧Hid (∀ (j:Nat) n,j<k→L[j]? =some n→n.path.size≤1048576∧n.data.size≤1048576)) (fun _ i _=>L.length - (intOf i).toNat)
 case atStart=>exact ⟨0,_,Nat.zero_le _,rfl,rfl,by omega,by omega,Below.refl _ _,fun j n h=>absurd h (by omega)⟩
 case round=>
  obtain ⟨k,r,hk,rfl,rfl,hr0,hr1,hbel,HA⟩:=hrel;by_cases hlt:k<L.length
  ·obtain ⟨n,hn⟩:∃n,L[k]? =some n:=⟨_,List.getElem?_eq_getElem hlt⟩;obtain ⟨b,o,rfl,hb,q0,q1,q2,q3,q4⟩:=(za HV) k n hn;have c0:=(hbel.cell (p:=⟨b,_,none⟩) hb).trans q0;have c1:=(hbel.cell (p:=⟨b,_,none⟩) hb).trans q1;have c2:=(hbel.cell (p:=⟨b,_,none⟩) hb).trans q2;have c3:=(hbel.cell (p:=⟨b,_,none⟩) hb).trans q3;have c4:=(hbel.cell (p:=⟨b,_,none⟩) hb).trans q4;have hz:=hide (fun W=>szNode_any n r W (za HO n (List.mem_of_getElem? hn)).1 (za HO n (List.mem_of_getElem? hn)).2 hr0 hr1);have HN:=hide hn;have u1:(k:Int)<(L.length:Int):=by omega
   have u3:(0:Int)≤(k:Int):=by omega
   clear q0 q1 q2 q3 q4 hn;simp only [Pl.Nd.val] at hz;go_wp2_with fail
   refine (za hz _).mono ?_;rintro e w1 ⟨⟨r1,rfl,h1⟩,b1⟩;have hb2:=hbel.trans (b1.mono hbel.size);clear b1 hbel hz
   rcases h1 with rfl |⟨h2,h3⟩
   ·go_wp2
    go_ret
    exact ⟨⟨-1,rfl, .inl rfl⟩,hb2⟩
   ·have h4:¬r1<0:=by omega
    have HA2:Hid (∀ (j:Nat) m,j<k+1→L[j]? =some m→m.path.size≤1048576∧m.data.size≤1048576):=fun j m hj h'=>by
     rcases Nat.lt_succ_iff_lt_or_eq.1 hj with h''|rfl
     ·exact HA.out j m h'' h'
     ·rw [za HN] at h';cases h';omega
    go_wp2
    go_roundw
    case rel=>exact ⟨k+1,r1,by omega,by go_num,rfl,h2,by omega,hb2,HA2⟩
    case measure=>simp [intOf];omega
  ·have u1:¬ (k:Int)<(L.length:Int):=by omega
   go_wp2
   go_ret
   exact ⟨⟨r,rfl, .inr ⟨hr0,hr1,by omega,fun n hn=>by
    obtain ⟨j,hj⟩:=List.mem_iff_getElem?.1 hn
    exact HA.out j n (by have :=(List.getElem?_eq_some_iff.1 hj).1;omega) hj⟩⟩,hbel⟩
set_option maxRecDepth 100000 in
theorem szTree_left (a:Option Addr) (cap:Nat) (L:List Pl.Nd) (left:Int) (hf0:0≤left) (hf1:left≤1048576) (w:World) (hl:L.length≤maxLen) (hv:Mem.za7 w a L) (hok:∀n∈L,n.path.size≤maxLen∧n.data.size≤maxLen):
  Calls Tryz.prog 146 #[.agg #[.slice a L.length cap], .int .i64 left] w fun e w'=>(∃r:Int,e= .returned (.int .i64 r)∧(r= -1∨0≤r∧r≤1048576∧L.length≤1048576∧∀n∈L,n.path.size≤1048576∧n.data.size≤1048576))∧Below w.heap.size w w':=by
 have b0:∀o,Below w.heap.size w (w.alloc o):=fun o=>(Below.refl _ _).alloc (Nat.le_refl _) o;have hz:=hide (fun W (b:Below w.heap.size w W)=>szNodeS_left a cap L left hf0 hf1 W hl (Mem.za8 hv b) hok);have HB:=hide b0;clear hv hok b0;go_enter Tryz.func146,Tryz.ntmps146
 go_wp2_with fail
 refine (za hz _ (za HB _)).mono ?_;rintro e w1 ⟨⟨r1,rfl,h1⟩,b1⟩;have hb2:=(za HB _).trans (b1.mono (za HB _).size);clear b1 hz
 rcases h1 with rfl |⟨h2,h3⟩
 ·go_wp2
  go_ret
  exact ⟨⟨-1,rfl, .inl rfl⟩,hb2⟩
 ·have h4:¬r1<0:=by omega
  go_wp2
  go_ret
  exact ⟨⟨r1,rfl, .inr ⟨h2,h3⟩⟩,hb2⟩
end WLaw
end
section
open Go.RowKit
namespace WLaw
set_option maxRecDepth 100000 in
theorem ya1 (x:Pl.It) (left:Int) (hf0:0≤left) (hf1:left≤1048576) (w:World) (hl:x.t.L.length≤maxLen) (hv:Mem.za7 w x.t.a x.t.L) (hok:∀n∈x.t.L,n.path.size≤maxLen∧n.data.size≤maxLen):
  Calls Tryz.prog 126 #[.agg #[.int .i64 x.m, .slice x.t.a x.t.L.length x.t.cap], .int .i64 left] w fun e w'=>(∃r:Int,e= .returned (.int .i64 r)∧(r= -1∨0≤r∧r≤1048576∧x.t.L.length≤1048576∧∀n∈x.t.L,n.path.size≤1048576∧n.data.size≤1048576))∧Below w.heap.size w w':=by
 have b0:∀o,Below w.heap.size w (w.alloc o):=fun o=>(Below.refl _ _).alloc (Nat.le_refl _) o;have hz:=hide (fun W (b:Below w.heap.size w W)=>szTree_left x.t.a x.t.cap x.t.L left hf0 hf1 W hl (Mem.za8 hv b) hok);have HB:=hide b0;clear hv hok b0;go_enter Tryz.func126,Tryz.ntmps126
 go_wp2_with fail
 refine (za hz _ (za HB _)).mono ?_;rintro e w1 ⟨⟨r1,rfl,h1⟩,b1⟩;have hb2:=(za HB _).trans (b1.mono (za HB _).size);clear b1 hz
 rcases h1 with rfl |⟨h2,h3⟩
 ·go_wp2
  go_ret
  exact ⟨⟨-1,rfl, .inl rfl⟩,hb2⟩
 ·have h4:¬r1<0:=by omega
  go_wp2
  go_ret
  exact ⟨⟨r1,rfl, .inr ⟨h2,h3⟩⟩,hb2⟩
set_option maxRecDepth 100000 in
set_option maxHeartbeats 800000 in
theorem zz0 (a:Option Addr) (cap:Nat) (Ts:List Pl.It) (w:World) (hl:Ts.length≤maxLen) (hv:Mem.zb0 w a Ts) (hok:∀t∈Ts,t.t.L.length≤maxLen∧∀n∈t.t.L,n.path.size≤maxLen∧n.data.size≤maxLen):
  Calls Tryz.prog 101 #[.slice a Ts.length cap, .int .i64 1048576] w fun e w'=>(∃r:Int,e= .returned (.int .i64 r)∧(r= -1∨0≤r∧r≤1048576∧Ts.length≤1048576∧∀t∈Ts,t.t.L.length≤1048576∧∀n∈t.t.L,n.path.size≤1048576∧n.data.size≤1048576))∧Below w.heap.size w w':=by
 have hl2:=hl;unfold maxLen at hl2;by_cases h0:1048576<Ts.length
 ·have t0:(1048576:Int) - (Ts.length:Int)<0:=by omega
  go_enter Tryz.func101,Tryz.ntmps101
  go_wp2
  go_ret
  exact ⟨⟨-1,rfl, .inl rfl⟩,Below.refl _ _⟩
 have t0:¬ (1048576:Int) - (Ts.length:Int)<0:=by omega
 have HV:=hide hv;have HO:=hide hok;clear hv hok;go_enter Tryz.func101,Tryz.ntmps101
 go_wp2
 go_loopw [1,5] (fun l i wr=>∃ (k:Nat) (r:Int),k≤Ts.length∧i= .int .i64 (k:Int)∧l= .int .i64 r∧0≤r∧r≤1048576∧Below w.heap.size w wr∧Hid (∀ (j:Nat) t,j<k→Ts[j]? =some t→t.t.L.length≤1048576∧∀n∈t.t.L,n.path.size≤1048576∧n.data.size≤1048576)) (fun _ i _=>Ts.length - (intOf i).toNat)
 case atStart=>exact ⟨0,_,Nat.zero_le _,rfl,rfl,by omega,by omega,Below.refl _ _,fun j n h=>absurd h (by omega)⟩
 case round=>
  obtain ⟨k,r,hk,rfl,rfl,hr0,hr1,hbel,HA⟩:=hrel;by_cases hlt:k<Ts.length
  ·obtain ⟨t,ht⟩:∃t,Ts[k]? =some t:=⟨_,List.getElem?_eq_getElem hlt⟩;obtain ⟨⟨b,o,rfl,hb,q0,q0'⟩,q1⟩:=(za HV) k t ht;have c0:=(hbel.cell (p:=⟨b,_,none⟩) hb).trans q0;have c1:=(hbel.cell (p:=⟨b,_,none⟩) hb).trans q0';have hz:=hide (fun W (b:Below w.heap.size w W)=>ya1 t r hr0 hr1 W (za HO t (List.mem_of_getElem? ht)).1 (Mem.za8 q1 b) (za HO t (List.mem_of_getElem? ht)).2);have HN:=hide ht;have u1:(k:Int)<(Ts.length:Int):=by omega
   have u3:(0:Int)≤(k:Int):=by omega
   simp only [Pl.Tr.val] at c1;clear q0 q0' ht q1;go_wp2_with fail
   refine (za hz _ hbel).mono ?_;rintro e w1 ⟨⟨r1,rfl,h1⟩,b1⟩;have hb2:=hbel.trans (b1.mono hbel.size);clear b1 hbel hz
   rcases h1 with rfl |⟨h2,h3,h5,h6⟩
   ·go_wp2
    go_ret
    exact ⟨⟨-1,rfl, .inl rfl⟩,hb2⟩
   ·have h4:¬r1<0:=by omega
    have HA2:Hid (∀ (j:Nat) m,j<k+1→Ts[j]? =some m→m.t.L.length≤1048576∧∀n∈m.t.L,n.path.size≤1048576∧n.data.size≤1048576):=fun j m hj h'=>by
     rcases Nat.lt_succ_iff_lt_or_eq.1 hj with h''|rfl
     ·exact HA.out j m h'' h'
     ·rw [za HN] at h';cases h';exact ⟨h5,h6⟩
    clear h5 h6;go_wp2
    go_roundw
    case rel=>exact ⟨k+1,r1,by omega,by go_num,rfl,h2,by omega,hb2,HA2⟩
    case measure=>simp [intOf];omega
  ·have u1:¬ (k:Int)<(Ts.length:Int):=by omega
   go_wp2
   go_ret
   exact ⟨⟨r,rfl, .inr ⟨hr0,hr1,by omega,fun n hn=>by
    obtain ⟨j,hj⟩:=List.mem_iff_getElem?.1 hn
    exact HA.out j n (by have :=(List.getElem?_eq_some_iff.1 hj).1;omega) hj⟩⟩,hbel⟩
end WLaw
end
end Go.Proofs.YtonffldjbmednaaGreatDoor
