/- Several texts of one claim in one file: WLawN, WLawT, WLawE, WEqO. -/
import Derived.Test.YtpakookhgpphaaaDoorG00
import Derived.Test.YtpakookhgpphaaaDoorProg
import Derived.Test.YtpakookhgpphaaaDoorG06
import Derived.Test.YtpakookhgpphaaaDoorG14
import Derived.Outline
import Derived.Deep.QuietTactic
import Derived.BigQuiet
import Derived.Deep.RegionHeld3
namespace Go.Proofs.YtpakookhgpphaaaDoor
section
open Go.RowKit
namespace WLaw
set_option maxRecDepth 100000 in
theorem szNode_any (n:Pl.Nd) (left:Int) (w:World) (hp:n.path.size≤maxLen) (hd:n.data.size≤maxLen) (h0:0≤left) (h1:left≤1048576):
  Calls Tryd.prog 56 #[n.val, .int .i64 left] w fun e w'=>(∃r:Int,e= .returned (.int .i64 r)∧(r= -1∨0≤r∧r+n.path.size+n.data.size=left))∧Below w.heap.size w w':=by
 obtain ⟨p,k,d,t,m⟩:=n;simp only at hp hd;unfold maxLen at hp hd;simp only [Pl.Nd.val];have hb:∀o,Below w.heap.size w (w.alloc o):=fun o=>(Below.refl _ _).alloc (Nat.le_refl _) o;have HB:=hide hb;clear hb;by_cases h2:left<(p.size:Int)
 ·have t2:left - (p.size:Int)<0:=by omega
  go_enter Tryd.func56,Tryd.ntmps56
  go_wp2
  go_ret
  exact ⟨⟨-1,rfl, .inl rfl⟩,za HB _⟩
 have t2:¬left - (p.size:Int)<0:=by omega
 by_cases h3:left<(p.size:Int)+(d.size:Int)
 ·have t3:left - (p.size:Int) - (d.size:Int)<0:=by omega
  go_enter Tryd.func56,Tryd.ntmps56
  go_wp2
  go_ret
  exact ⟨⟨-1,rfl, .inl rfl⟩,za HB _⟩
 ·have t3:¬left - (p.size:Int) - (d.size:Int)<0:=by omega
  go_enter Tryd.func56,Tryd.ntmps56
  go_wp2
  go_ret
  exact ⟨⟨_,rfl, .inr ⟨by omega,by omega⟩⟩,za HB _⟩
set_option maxRecDepth 100000 in
theorem toNode_any (n:Pl.Nd) (w:World):
  Calls Tryd.prog 60 #[n.val] w fun e w'=>e= .returned n.val∧Below w.heap.size w w':=by
 obtain ⟨p,k,d,t,m⟩:=n;simp only [Pl.Nd.val];go_enter Tryd.func60,Tryd.ntmps60
 go_wp2
 refine bodyPost_ret (v:= .agg #[.string p, .int .i64 k, .string d, .int .i64 t, .int .i64 m]) (by simp [results,Tryd.results60,go_sem]) rfl ⟨rfl,?_⟩;exact (((Below.refl _ _).alloc (Nat.le_refl _) _).alloc (by simp) _).alloc (by simp;omega) _
end WLaw
end
section
open Go.RowKit
namespace WLaw
def zeroCells (n:Nat):Array Value:=madeCells (Value.agg #[.string ⟨#[]⟩, .int .i64 0, .string ⟨#[]⟩, .int .i64 0, .int .i64 0]).cells (n*5)
theorem zero_size (n:Nat):(zeroCells n).size=n*5:=size_madeCells _ _
theorem infoN:(Tryd.prog.info? 25).map (fun i=>(i.zero,i.size,i.bytes))=some (some (.agg #[.string ⟨#[]⟩, .int .i64 0, .string ⟨#[]⟩, .int .i64 0, .int .i64 0]),5,56):=by kernel_rfl
theorem makeN (n:Nat) (hn:n≤1048576) (w:World):(Instr.makeSlice 42 (.int .i64 (n:Int)) (.int .i64 (n:Int))).run Tryd.prog w= .ok (.slice (some ⟨w.heap.size,0,none⟩) n n) (w.alloc (.cells (zeroCells n) 25)):=by
 obtain ⟨i0,h0,h1,h2,h3⟩:=info_parts infoN;have h:=run_make (P:=Tryd.prog) w 42 25 i0 (.agg #[.string ⟨#[]⟩, .int .i64 0, .string ⟨#[]⟩, .int .i64 0, .int .i64 0]) Tryd.underlying42 h0 h1 .i64 .i64 (n:Int) (n:Int) (by omega) (Int.le_refl _) (by rw [h3];omega) (by omega);rw [h,h2];simp [zeroCells]
set_option maxRecDepth 100000 in
set_option maxHeartbeats 400000 in
theorem toNodeS_row (a:Option Addr) (cap:Nat) (L:List Pl.Nd) (w:World) (hl:L.length≤1048576) (hv:Mem.za7 w a L):
  Calls Tryd.prog 44 #[.slice a L.length cap] w fun e w'=>e= .returned (.slice (some ⟨w.heap.size,0,none⟩) L.length L.length)∧(∃cur,w'.heap[w.heap.size]? =some (.cells cur 25 (0,0))∧cur.size=L.length*5)∧Mem.za7 w' (some ⟨w.heap.size,0,none⟩) L∧Below w.heap.size w w':=by
 have HV:=hide hv;have hmk:=makeN L.length hl w;clear hv;go_enter Tryd.func44,Tryd.ntmps44
 go_wp2
 go_loopw [4] (fun i wr=>∃ (k:Nat) (cur:Array Value),k≤L.length∧i= .int .i64 (k:Int)∧Below w.heap.size w wr∧Hid (wr.heap[w.heap.size]? =some (.cells cur 25 (0,0)))∧Hid (cur.size=L.length*5)∧Hid (∀ (j:Nat) n,j<k→L[j]? =some n→cur[j*5]? =some (.string n.path)∧cur[j*5+1]? =some (.int .i64 n.kind)∧cur[j*5+2]? =some (.string n.data)∧cur[j*5+3]? =some (.int .i64 n.time)∧cur[j*5+4]? =some (.int .i64 n.mark))) (fun i _=>L.length - (intOf i).toNat)
 case atStart=>exact ⟨0,zeroCells L.length,Nat.zero_le _,rfl,(Below.refl _ _).alloc (Nat.le_refl _) _,hide (heap_alloc_new w _),hide (zero_size _),fun j n h=>absurd h (by omega)⟩
 case round=>
  obtain ⟨k,cur,hk,rfl,hbel,HB,HZ,HA⟩:=hrel;by_cases hlt:k<L.length
  ·obtain ⟨n,hn⟩:∃n,L[k]? =some n:=⟨_,List.getElem?_eq_getElem hlt⟩;obtain ⟨b,o,rfl,hb,q0,q1,q2,q3,q4⟩:=(za HV) k n hn;have c0:=(hbel.cell (p:=⟨b,_,none⟩) hb).trans q0;have c1:=(hbel.cell (p:=⟨b,_,none⟩) hb).trans q1;have c2:=(hbel.cell (p:=⟨b,_,none⟩) hb).trans q2;have c3:=(hbel.cell (p:=⟨b,_,none⟩) hb).trans q3;have c4:=(hbel.cell (p:=⟨b,_,none⟩) hb).trans q4;have hz:=hide (fun W=>toNode_any n W);have HN:=hide hn;have u1:(k:Int)<(L.length:Int):=by omega
   have u3:(0:Int)≤(k:Int):=by omega
   clear q0 q1 q2 q3 q4 hn;simp only [Pl.Nd.val] at hz;go_wp2_with fail
   refine (za hz _).mono ?_;rintro e w1 ⟨rfl,b1⟩;have hN:w.heap.size<wr.heap.size:=(Array.getElem?_eq_some_iff.1 (za HB)).1;have HB1:=hide ((b1.block _ hN).trans (za HB));have hb2:=hide (hbel.trans (b1.mono hbel.size));have hcz:=za HZ;have s0:∃x,w1.cell? ⟨w.heap.size,k*5,none⟩=some x:=⟨_,(cell_of_row w1 _ (k*5) _ _ (0,0) (za HB1)).trans (Array.getElem?_eq_getElem (by omega))⟩;have s1:∃x,w1.cell? ⟨w.heap.size,k*5+1,none⟩=some x:=⟨_,(cell_of_row w1 _ (k*5+1) _ _ (0,0) (za HB1)).trans (Array.getElem?_eq_getElem (by omega))⟩;have s2:∃x,w1.cell? ⟨w.heap.size,k*5+2,none⟩=some x:=⟨_,(cell_of_row w1 _ (k*5+2) _ _ (0,0) (za HB1)).trans (Array.getElem?_eq_getElem (by omega))⟩;have s3:∃x,w1.cell? ⟨w.heap.size,k*5+3,none⟩=some x:=⟨_,(cell_of_row w1 _ (k*5+3) _ _ (0,0) (za HB1)).trans (Array.getElem?_eq_getElem (by omega))⟩
   have s4:∃x,w1.cell? ⟨w.heap.size,k*5+4,none⟩=some x:=⟨_,(cell_of_row w1 _ (k*5+4) _ _ (0,0) (za HB1)).trans (Array.getElem?_eq_getElem (by omega))⟩;obtain ⟨x0,s0⟩:=s0;obtain ⟨x1,s1⟩:=s1;obtain ⟨x2,s2⟩:=s2;obtain ⟨x3,s3⟩:=s3;obtain ⟨x4,s4⟩:=s4;have f0:∀j,w1.frozen? ⟨w.heap.size,j,none⟩=false:=fun j=>Mem.zb1 (za HB1);have HC:=hide hcz;clear b1 hbel hz hcz HB;go_wp2
   go_roundw
   case rel=>
    refine ⟨k+1,_,by omega,by go_num,?_,hide (heap_setCell_same _ _ (k*5+4) _ _ _ (heap_setCell_same _ _ (k*5+3) _ _ _ (heap_setCell_same _ _ (k*5+2) _ _ _ (heap_setCell_same _ _ (k*5+1) _ _ _ (heap_setCell_same _ _ (k*5) _ _ _ (za HB1)))))),?_,?_⟩
    ·exact (((((za hb2).setCell (Nat.le_refl _) _).setCell (Nat.le_refl _) _).setCell (Nat.le_refl _) _).setCell (Nat.le_refl _) _).setCell (Nat.le_refl _) _
    ·exact hide (by simpa using za HC)
    ·intro j m hj hm;have hjl:=(List.getElem?_eq_some_iff.1 hm).1
     rcases Nat.lt_succ_iff_lt_or_eq.1 hj with h''|rfl
     ·obtain ⟨i0,i1,i2,i3,i4⟩:=HA.out j m h'' hm;simp only [Array.getElem?_setIfInBounds];refine ⟨?_,?_,?_,?_,?_⟩ <;> (repeat (rw [if_neg (by omega)])) <;> assumption
     ·rw [za HN] at hm;cases hm
      have hcz:=za HC;simp only [Array.getElem?_setIfInBounds,Array.size_setIfInBounds];refine ⟨?_,?_,?_,?_,?_⟩ <;> simp <;> omega
   case measure=>simp [intOf];omega
  ·have u1:¬ (k:Int)<(L.length:Int):=by omega
   go_wp2
   go_ret
   refine ⟨rfl,⟨cur,za HB,za HZ⟩,fun j n hj=>?_,hbel⟩;obtain ⟨i0,i1,i2,i3,i4⟩:=HA.out j n (by have :=(List.getElem?_eq_some_iff.1 hj).1;omega) hj;refine ⟨_,0,rfl,(Array.getElem?_eq_some_iff.1 (za HB)).1,?_,?_,?_,?_,?_⟩
   ·rw [cell_of_row wr _ _ _ _ (0,0) (za HB),Nat.zero_add];exact i0
   ·rw [cell_of_row wr _ _ _ _ (0,0) (za HB),Nat.zero_add];exact i1
   ·rw [cell_of_row wr _ _ _ _ (0,0) (za HB),Nat.zero_add];exact i2
   ·rw [cell_of_row wr _ _ _ _ (0,0) (za HB),Nat.zero_add];exact i3
   ·rw [cell_of_row wr _ _ _ _ (0,0) (za HB),Nat.zero_add];exact i4
end WLaw
end
section
open Go.RowKit
namespace WLaw
set_option maxRecDepth 100000 in
theorem ya3 (a:Option Addr) (cap:Nat) (L:List Pl.Nd) (w:World) (hl:L.length≤1048576) (hv:Mem.za7 w a L):
  Calls Tryd.prog 27 #[.agg #[.slice a L.length cap]] w fun e w'=>∃g,e= .returned (.agg #[.slice (some ⟨g,0,none⟩) L.length L.length])∧w.heap.size≤g∧(∃cur,w'.heap[g]? =some (.cells cur 25 (0,0))∧cur.size=L.length*5)∧Mem.za7 w' (some ⟨g,0,none⟩) L∧Below w.heap.size w w':=by
 have HZ:=hide (fun W (b:Below w.heap.size w W)=>toNodeS_row a cap L W hl (Mem.za8 hv b));clear hv;have b0:∀o1 o2 o3,Below w.heap.size w (((w.alloc o1).alloc o2).alloc o3):=fun o1 o2 o3=>(((Below.refl _ _).alloc (Nat.le_refl _) o1).alloc (by simp) o2).alloc (by simp;omega) o3;have HB:=hide b0;clear b0;go_enter Tryd.func27,Tryd.ntmps27
 go_wp2_with fail
 refine (za HZ _ (za HB _ _ _)).mono ?_;rintro e w1 ⟨rfl,⟨cur,hrow,hcur⟩,h1,b1⟩;have hs:(((w.alloc (.cells #[.slice a L.length cap] 37)).alloc (.cells #[.slice none 0 0] 44)).alloc (.cells #[.slice none 0 0] 44)).heap.size=w.heap.size+1+1+1:=by simp
 have r1:w1.heap[w.heap.size+1]? =some (.cells #[.slice none 0 0] 44 (0,0)):=(b1.block _ (by rw [hs];omega)).trans (Mem.zn4 w _ _ _);have r2:w1.heap[w.heap.size+1+1]? =some (.cells #[.slice none 0 0] 44 (0,0)):=(b1.block _ (by rw [hs];omega)).trans (Mem.zk0 w _ _ _);have c1:w1.cell? ⟨w.heap.size+1,0,none⟩=some (.slice none 0 0):=by rw [cell_of_row w1 _ 0 _ _ (0,0) r1];rfl
 have c2:w1.cell? ⟨w.heap.size+1+1,0,none⟩=some (.slice none 0 0):=by rw [cell_of_row w1 _ 0 _ _ (0,0) r2];rfl
 have f1:w1.frozen? ⟨w.heap.size+1,0,none⟩=false:=Mem.zb1 r1;have f2:w1.frozen? ⟨w.heap.size+1+1,0,none⟩=false:=Mem.zb1 r2;have bb:=hide ((za HB _ _ _).trans (b1.mono (za HB _ _ _).size));have H1:=hide h1;have HR:=hide hrow;have HCU:=hide hcur;have HSZ:=hide hs;generalize (((w.alloc (.cells #[.slice a L.length cap] 37)).alloc (.cells #[.slice none 0 0] 44)).alloc (.cells #[.slice none 0 0] 44)).heap.size=g at H1 HSZ HR ⊢;clear HZ b1 h1 hs r1 r2 hrow hcur;go_wp2
 refine bodyPost_ret (v:= .agg #[.slice (some ⟨g,0,none⟩) L.length L.length]) (by simp [results,Tryd.results27,go_sem,c1]) rfl ⟨g,rfl,by have :=za HSZ;omega,⟨cur,?_,za HCU⟩,?_,?_⟩
 ·have hg:=za HSZ;exact (heap_setCell_other _ _ _ _ (by show g≠w.heap.size+1;omega)).trans ((heap_setCell_other _ _ _ _ (by show g≠w.heap.size+1+1;omega)).trans (za HR))
 ·intro i n hi;obtain ⟨b,o,e1,h2,q0,q1,q2,q3,q4⟩:=za H1 i n hi;cases e1
  have hg:=za HSZ
  have hc:∀j,((w1.setCell ⟨w.heap.size+1+1,0,none⟩ (.slice (some ⟨g,0,none⟩) L.length L.length)).setCell ⟨w.heap.size+1,0,none⟩ (.slice (some ⟨g,0,none⟩) L.length L.length)).cell? ⟨g,j,none⟩=w1.cell? ⟨g,j,none⟩:=fun j=>by
   rw [World.cell?_setCell_far _ _ _ _ (by show w.heap.size+1≠g;omega),World.cell?_setCell_far _ _ _ _ (by show w.heap.size+1+1≠g;omega)]
  refine ⟨g,0,rfl,by simpa [World.setCell] using h2,?_,?_,?_,?_,?_⟩
  ·rw [hc];exact q0
  ·rw [hc];exact q1
  ·rw [hc];exact q2
  ·rw [hc];exact q3
  ·rw [hc];exact q4
 ·exact ((za bb).setCell (by show w.heap.size≤w.heap.size+1+1;omega) _).setCell (by show w.heap.size≤w.heap.size+1;omega) _
set_option maxRecDepth 100000 in
theorem eqNode_any (n:Pl.Nd) (w:World):
  Calls Tryd.prog 20 #[n.val,n.val] w fun e w'=>e= .returned (.bool true)∧Below w.heap.size w w':=by
 obtain ⟨p,k,d,t,m⟩:=n;simp only [Pl.Nd.val];go_enter Tryd.func20,Tryd.ntmps20
 go_wp2
 go_ret
 exact ⟨rfl,((Below.refl _ _).alloc (Nat.le_refl _) _).alloc (by simp) _⟩
set_option maxRecDepth 100000 in
set_option maxHeartbeats 400000 in
theorem eqNodeS_any (a b:Option Addr) (c1 c2:Nat) (L:List Pl.Nd) (w:World) (hl:L.length≤1048576) (hv:Mem.za7 w a L) (hu:Mem.za7 w b L):
  Calls Tryd.prog 55 #[.slice a L.length c1, .slice b L.length c2] w fun e w'=>e= .returned (.bool true)∧Below w.heap.size w w':=by
 have HV:=hide hv;have HU:=hide hu;clear hv hu;go_enter Tryd.func55,Tryd.ntmps55
 go_wp2
 go_loopw [5] (fun i wr=>∃k:Nat,k≤L.length∧i= .int .i64 (k:Int)∧Below w.heap.size w wr) (fun i _=>L.length - (intOf i).toNat)
 case atStart=>exact ⟨0,Nat.zero_le _,rfl,Below.refl _ _⟩
 case round=>
  obtain ⟨k,hk,rfl,hbel⟩:=hrel;by_cases hlt:k<L.length
  ·obtain ⟨n,hn⟩:∃n,L[k]? =some n:=⟨_,List.getElem?_eq_getElem hlt⟩;obtain ⟨g,o,rfl,hg,q0,q1,q2,q3,q4⟩:=(za HV) k n hn;obtain ⟨g2,o2,rfl,hg2,p0,p1,p2,p3,p4⟩:=(za HU) k n hn;have c0:=(hbel.cell (p:=⟨g,_,none⟩) hg).trans q0;have c1:=(hbel.cell (p:=⟨g,_,none⟩) hg).trans q1;have c2:=(hbel.cell (p:=⟨g,_,none⟩) hg).trans q2;have c3:=(hbel.cell (p:=⟨g,_,none⟩) hg).trans q3;have c4:=(hbel.cell (p:=⟨g,_,none⟩) hg).trans q4;have d0:=(hbel.cell (p:=⟨g2,_,none⟩) hg2).trans p0;have d1:=(hbel.cell (p:=⟨g2,_,none⟩) hg2).trans p1;have d2:=(hbel.cell (p:=⟨g2,_,none⟩) hg2).trans p2;have d3:=(hbel.cell (p:=⟨g2,_,none⟩) hg2).trans p3;have d4:=(hbel.cell (p:=⟨g2,_,none⟩) hg2).trans p4;have hz:=hide (fun W=>eqNode_any n W)
   have MK:Hid (∀W',Below w.heap.size w W'→(Below w.heap.size w W'∧W'.cell? ⟨g,o+k*5,none⟩=some (.string n.path)∧W'.cell? ⟨g,o+k*5+1,none⟩=some (.int .i64 n.kind)∧W'.cell? ⟨g,o+k*5+2,none⟩=some (.string n.data)∧W'.cell? ⟨g,o+k*5+3,none⟩=some (.int .i64 n.time)∧W'.cell? ⟨g,o+k*5+4,none⟩=some (.int .i64 n.mark)∧W'.cell? ⟨g2,o2+k*5,none⟩=some (.string n.path)∧W'.cell? ⟨g2,o2+k*5+1,none⟩=some (.int .i64 n.kind)∧W'.cell? ⟨g2,o2+k*5+2,none⟩=some (.string n.data)∧W'.cell? ⟨g2,o2+k*5+3,none⟩=some (.int .i64 n.time)∧W'.cell? ⟨g2,o2+k*5+4,none⟩=some (.int .i64 n.mark))):=fun W' hb=>⟨hb,(hb.cell (p:=⟨g,_,none⟩) hg).trans q0,(hb.cell (p:=⟨g,_,none⟩) hg).trans q1,(hb.cell (p:=⟨g,_,none⟩) hg).trans q2,(hb.cell (p:=⟨g,_,none⟩) hg).trans q3,(hb.cell (p:=⟨g,_,none⟩) hg).trans q4,(hb.cell (p:=⟨g2,_,none⟩) hg2).trans p0,(hb.cell (p:=⟨g2,_,none⟩) hg2).trans p1,(hb.cell (p:=⟨g2,_,none⟩) hg2).trans p2,(hb.cell (p:=⟨g2,_,none⟩) hg2).trans p3,(hb.cell (p:=⟨g2,_,none⟩) hg2).trans p4⟩
   have u1:(k:Int)<(L.length:Int):=by omega
   have u3:(0:Int)≤(k:Int):=by omega
   have hbd:Below w.heap.size w wr.drew:=⟨hbel.os,hbel.tape,hbel.output,hbel.size,hbel.block⟩;clear q0 q1 q2 q3 q4 p0 p1 p2 p3 p4 hn;simp only [Pl.Nd.val] at hz;go_wp2_with fail
   go_region_held3 (fun W'=>Below w.heap.size w W'∧W'.cell? ⟨g,o+k*5,none⟩=some (.string n.path)∧W'.cell? ⟨g,o+k*5+1,none⟩=some (.int .i64 n.kind)∧W'.cell? ⟨g,o+k*5+2,none⟩=some (.string n.data)∧W'.cell? ⟨g,o+k*5+3,none⟩=some (.int .i64 n.time)∧W'.cell? ⟨g,o+k*5+4,none⟩=some (.int .i64 n.mark)∧W'.cell? ⟨g2,o2+k*5,none⟩=some (.string n.path)∧W'.cell? ⟨g2,o2+k*5+1,none⟩=some (.int .i64 n.kind)∧W'.cell? ⟨g2,o2+k*5+2,none⟩=some (.string n.data)∧W'.cell? ⟨g2,o2+k*5+3,none⟩=some (.int .i64 n.time)∧W'.cell? ⟨g2,o2+k*5+4,none⟩=some (.int .i64 n.mark)) (first |exact za MK _ hbd|exact za MK _ (hbd.trans (bX.mono hbd.size))) (first |(go_at_call 20;refine (za hz _).mono ?_;rintro e wX ⟨rfl,bX⟩))
   have hb2:=hbd.trans (bX.mono hbd.size);clear hbel hbd bX MK;go_wp2
   go_roundw
   case rel=>exact ⟨k+1,by omega,by go_num,hb2⟩
   case measure=>simp [intOf];omega
  ·have u1:¬ (k:Int)<(L.length:Int):=by omega
   go_wp2
   go_ret
   exact ⟨rfl,hbel⟩
set_option maxRecDepth 100000 in
theorem eqTree_any (a b:Option Addr) (c1 c2:Nat) (L:List Pl.Nd) (w:World) (hl:L.length≤1048576) (hv:Mem.za7 w a L) (hu:Mem.za7 w b L):
  Calls Tryd.prog 35 #[.agg #[.slice a L.length c1], .agg #[.slice b L.length c2]] w fun e w'=>e= .returned (.bool true)∧Below w.heap.size w w':=by
 have b0:∀o1 o2,Below w.heap.size w ((w.alloc o1).alloc o2):=fun o1 o2=>((Below.refl _ _).alloc (Nat.le_refl _) o1).alloc (by simp) o2;have HB:=hide b0;have HZ:=hide (fun W (b':Below w.heap.size w W)=>eqNodeS_any a b c1 c2 L W hl (Mem.za8 hv b') (Mem.za8 hu b'));clear hv hu b0;go_enter Tryd.func35,Tryd.ntmps35
 go_wp2_with fail
 refine (za HZ _ (za HB _ _)).mono ?_;rintro e w1 ⟨rfl,b1⟩;have bb:=(za HB _ _).trans (b1.mono (za HB _ _).size);clear HZ b1;go_wp2
 go_ret
 exact ⟨rfl,bb⟩
end WLaw
end
section
open Go.RowKit
namespace WGetT
set_option maxRecDepth 100000 in
theorem eqO_any (n:Pl.Nd) (c:Int) (w:World):
  Calls Tryd.prog 8 #[.agg #[.string n.path, .int .i64 n.kind, .string n.data, .int .i64 n.time, .int .i64 n.mark, .int .i64 c], .agg #[.string n.path, .int .i64 n.kind, .string n.data, .int .i64 n.time, .int .i64 n.mark, .int .i64 c]] w fun e w'=>e= .returned (.bool true)∧Below w.heap.size w w':=by
 have b0:Below w.heap.size w ((w.alloc (.cells #[.string n.path, .int .i64 n.kind, .string n.data, .int .i64 n.time, .int .i64 n.mark, .int .i64 c] 27)).alloc (.cells #[.string n.path, .int .i64 n.kind, .string n.data, .int .i64 n.time, .int .i64 n.mark, .int .i64 c] 27)):=((Below.refl _ _).alloc (Nat.le_refl _) _).alloc (by simp) _;have va:=Mem.var_alloc (Mem.ze5 w [.string n.path, .int .i64 n.kind, .string n.data, .int .i64 n.time, .int .i64 n.mark, .int .i64 c] 27) (.cells #[.string n.path, .int .i64 n.kind, .string n.data, .int .i64 n.time, .int .i64 n.mark, .int .i64 c] 27)
 have vb:=Mem.ze5 (w.alloc (.cells #[.string n.path, .int .i64 n.kind, .string n.data, .int .i64 n.time, .int .i64 n.mark, .int .i64 c] 27)) [.string n.path, .int .i64 n.kind, .string n.data, .int .i64 n.time, .int .i64 n.mark, .int .i64 c] 27;rw [show (w.alloc (.cells #[.string n.path, .int .i64 n.kind, .string n.data, .int .i64 n.time, .int .i64 n.mark, .int .i64 c] 27)).heap.size=w.heap.size+1 by simp] at vb;have he:=hide (fun W=>WLaw.eqNode_any n W);simp only [Pl.Nd.val] at he;go_enter Tryd.func8,Tryd.ntmps8
 go_wp2_with fail
 refine (za he _).mono ?_;rintro e w1 ⟨rfl,b1⟩;have bw1:=b0.trans (b1.mono b0.size);have c5:=(Mem.zi8 va b1).2 5 _ rfl;have d5:=(Mem.zi8 vb b1).2 5 _ rfl;clear he va vb b0 b1;go_wp2
 go_ret
 exact ⟨rfl,bw1⟩
end WGetT
end
end Go.Proofs.YtpakookhgpphaaaDoor
