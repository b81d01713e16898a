/- Several texts of one claim in one file: WLawI, WLawT, WLawE, MemFar. -/
import Derived.Test.YtpggbphcbcogdaaGreatDoorG43
namespace Go.Proofs.YtpggbphcbcogdaaGreatDoor
section
open Go.RowKit
namespace WLaw
set_option maxRecDepth 100000 in
theorem szItem_any (x:Pl.It) (left:Int) (hf0:0≤left) (hf1:left≤1048576) (w:World) (hl:x.t.L.length≤maxLen) (hv:Mem.zb5 w x.t.a x.t.L) (hok:∀n∈x.t.L,n.path.size≤maxLen∧n.data.size≤maxLen):
  Calls Tryz.prog 13 #[.agg #[.int .i64 x.m, .slice x.t.a x.t.L.length x.t.cap], .int .i64 left] w fun e w'=>(∃r:Int,e= .returned (.int .i64 r)∧(r= -1∨0≤r∧r≤1048576∧x.t.L.length≤1048576∧∀n∈x.t.L,n.path.size≤1048576∧n.data.size≤1048576))∧Below w.heap.size w w':=by
 have b0:∀o,Below w.heap.size w (w.alloc o):=fun o=>(Below.refl _ _).alloc (Nat.le_refl _) o;have hz:=hide (fun W (b:Below w.heap.size w W)=>szTree_left x.t.a x.t.cap x.t.L left hf0 hf1 W hl (Mem.za9 hv b) hok);have HB:=hide b0;clear hv hok b0;go_enter Tryz.func13,Tryz.ntmps13
 go_wp2_with fail
 refine (za hz _ (za HB _)).mono ?_;rintro e w1 ⟨⟨r1,rfl,h1⟩,b1⟩;have hb2:=(za HB _).trans (b1.mono (za HB _).size);clear b1 hz
 rcases h1 with rfl |⟨h2,h3⟩
 ·go_wp2
  go_ret
  exact ⟨⟨-1,rfl, .inl rfl⟩,hb2⟩
 ·have h4:¬r1<0:=by omega
  go_wp2
  go_ret
  exact ⟨⟨r1,rfl, .inr ⟨h2,h3⟩⟩,hb2⟩
set_option maxRecDepth 100000 in
set_option maxHeartbeats 800000 in
theorem szItemS_any (a:Option Addr) (cap:Nat) (Ts:List Pl.It) (w:World) (hl:Ts.length≤maxLen) (hv:Mem.zb8 w a Ts) (hok:∀t∈Ts,t.t.L.length≤maxLen∧∀n∈t.t.L,n.path.size≤maxLen∧n.data.size≤maxLen):
  Calls Tryz.prog 4 #[.slice a Ts.length cap, .int .i64 1048576] w fun e w'=>(∃r:Int,e= .returned (.int .i64 r)∧(r= -1∨0≤r∧r≤1048576∧Ts.length≤1048576∧∀t∈Ts,t.t.L.length≤1048576∧∀n∈t.t.L,n.path.size≤1048576∧n.data.size≤1048576))∧Below w.heap.size w w':=by
 have hl2:=hl;unfold maxLen at hl2;by_cases h0:1048576<Ts.length
 ·have t0:(1048576:Int) - (Ts.length:Int)<0:=by omega
  go_enter Tryz.func4,Tryz.ntmps4
  go_wp2
  go_ret
  exact ⟨⟨-1,rfl, .inl rfl⟩,Below.refl _ _⟩
 have t0:¬ (1048576:Int) - (Ts.length:Int)<0:=by omega
 have HV:=hide hv;have HO:=hide hok;clear hv hok;go_enter Tryz.func4,Tryz.ntmps4
 go_wp2
 go_loopw [1,5] (fun l i wr=>∃ (k:Nat) (r:Int),k≤Ts.length∧i= .int .i64 (k:Int)∧l= .int .i64 r∧0≤r∧r≤1048576∧Below w.heap.size w wr∧Hid (∀ (j:Nat) t,j<k→Ts[j]? =some t→t.t.L.length≤1048576∧∀n∈t.t.L,n.path.size≤1048576∧n.data.size≤1048576)) (fun _ i _=>Ts.length - (intOf i).toNat)
 case atStart=>exact ⟨0,_,Nat.zero_le _,rfl,rfl,by omega,by omega,Below.refl _ _,fun j n h=>absurd h (by omega)⟩
 case round=>
  obtain ⟨k,r,hk,rfl,rfl,hr0,hr1,hbel,HA⟩:=hrel;by_cases hlt:k<Ts.length
  ·obtain ⟨t,ht⟩:∃t,Ts[k]? =some t:=⟨_,List.getElem?_eq_getElem hlt⟩;obtain ⟨⟨b,o,rfl,hb,q0,q0'⟩,q1⟩:=(za HV) k t ht;have c0:=(hbel.cell (p:=⟨b,_,none⟩) hb).trans q0;have c1:=(hbel.cell (p:=⟨b,_,none⟩) hb).trans q0';have hz:=hide (fun W (b:Below w.heap.size w W)=>szItem_any t r hr0 hr1 W (za HO t (List.mem_of_getElem? ht)).1 (Mem.za9 q1 b) (za HO t (List.mem_of_getElem? ht)).2);have HN:=hide ht;have u1:(k:Int)<(Ts.length:Int):=by omega
   have u3:(0:Int)≤(k:Int):=by omega
   simp only [Pl.Tr.val] at c1;clear q0 q0' ht q1;go_wp2_with fail
   refine (za hz _ hbel).mono ?_;rintro e w1 ⟨⟨r1,rfl,h1⟩,b1⟩;have hb2:=hbel.trans (b1.mono hbel.size);clear b1 hbel hz
   rcases h1 with rfl |⟨h2,h3,h5,h6⟩
   ·go_wp2
    go_ret
    exact ⟨⟨-1,rfl, .inl rfl⟩,hb2⟩
   ·have h4:¬r1<0:=by omega
    have HA2:Hid (∀ (j:Nat) m,j<k+1→Ts[j]? =some m→m.t.L.length≤1048576∧∀n∈m.t.L,n.path.size≤1048576∧n.data.size≤1048576):=fun j m hj h'=>by
     rcases Nat.lt_succ_iff_lt_or_eq.1 hj with h''|rfl
     ·exact HA.out j m h'' h'
     ·rw [za HN] at h';cases h';exact ⟨h5,h6⟩
    clear h5 h6;go_wp2
    go_roundw
    case rel=>exact ⟨k+1,r1,by omega,by go_num,rfl,h2,by omega,hb2,HA2⟩
    case measure=>simp [intOf];omega
  ·have u1:¬ (k:Int)<(Ts.length:Int):=by omega
   go_wp2
   go_ret
   exact ⟨⟨r,rfl, .inr ⟨hr0,hr1,by omega,fun n hn=>by
    obtain ⟨j,hj⟩:=List.mem_iff_getElem?.1 hn
    exact HA.out j n (by have :=(List.getElem?_eq_some_iff.1 hj).1;omega) hj⟩⟩,hbel⟩
end WLaw
end
section
open Go.RowKit
namespace WLaw
def zeroCells (n:Nat):Array Value:=madeCells (Value.agg #[.string ⟨#[]⟩, .int .i64 0, .string ⟨#[]⟩, .int .i64 0, .int .i64 0]).cells (n*5)
theorem zero_size (n:Nat):(zeroCells n).size=n*5:=size_madeCells _ _
theorem infoN:(Tryz.prog.info? 42).map (fun i=>(i.zero,i.size,i.bytes))=some (some (.agg #[.string ⟨#[]⟩, .int .i64 0, .string ⟨#[]⟩, .int .i64 0, .int .i64 0]),5,56):=by kernel_rfl
theorem makeN (n:Nat) (hn:n≤1048576) (w:World):(Instr.makeSlice 48 (.int .i64 (n:Int)) (.int .i64 (n:Int))).run Tryz.prog w= .ok (.slice (some ⟨w.heap.size,0,none⟩) n n) (w.alloc (.cells (zeroCells n) 42)):=by
 obtain ⟨i0,h0,h1,h2,h3⟩:=info_parts infoN;have h:=run_make (P:=Tryz.prog) w 48 42 i0 (.agg #[.string ⟨#[]⟩, .int .i64 0, .string ⟨#[]⟩, .int .i64 0, .int .i64 0]) Tryz.underlying48 h0 h1 .i64 .i64 (n:Int) (n:Int) (by omega) (Int.le_refl _) (by rw [h3];omega) (by omega);rw [h,h2];simp [zeroCells]
set_option maxRecDepth 100000 in
set_option maxHeartbeats 400000 in
theorem toNodeS_row (a:Option Addr) (cap:Nat) (L:List Pl.Nd) (w:World) (hl:L.length≤1048576) (hv:Mem.zb5 w a L):
  Calls Tryz.prog 51 #[.slice a L.length cap] w fun e w'=>e= .returned (.slice (some ⟨w.heap.size,0,none⟩) L.length L.length)∧(∃cur,w'.heap[w.heap.size]? =some (.cells cur 42 (0,0))∧cur.size=L.length*5)∧Mem.zb5 w' (some ⟨w.heap.size,0,none⟩) L∧Below w.heap.size w w':=by
 have HV:=hide hv;have hmk:=makeN L.length hl w;clear hv;go_enter Tryz.func51,Tryz.ntmps51
 go_wp2
 go_loopw [4] (fun i wr=>∃ (k:Nat) (cur:Array Value),k≤L.length∧i= .int .i64 (k:Int)∧Below w.heap.size w wr∧Hid (wr.heap[w.heap.size]? =some (.cells cur 42 (0,0)))∧Hid (cur.size=L.length*5)∧Hid (∀ (j:Nat) n,j<k→L[j]? =some n→cur[j*5]? =some (.string n.path)∧cur[j*5+1]? =some (.int .i64 n.kind)∧cur[j*5+2]? =some (.string n.data)∧cur[j*5+3]? =some (.int .i64 n.time)∧cur[j*5+4]? =some (.int .i64 n.mark))) (fun i _=>L.length - (intOf i).toNat)
 case atStart=>exact ⟨0,zeroCells L.length,Nat.zero_le _,rfl,(Below.refl _ _).alloc (Nat.le_refl _) _,hide (heap_alloc_new w _),hide (zero_size _),fun j n h=>absurd h (by omega)⟩
 case round=>
  obtain ⟨k,cur,hk,rfl,hbel,HB,HZ,HA⟩:=hrel;by_cases hlt:k<L.length
  ·obtain ⟨n,hn⟩:∃n,L[k]? =some n:=⟨_,List.getElem?_eq_getElem hlt⟩;obtain ⟨b,o,rfl,hb,q0,q1,q2,q3,q4⟩:=(za HV) k n hn;have c0:=(hbel.cell (p:=⟨b,_,none⟩) hb).trans q0;have c1:=(hbel.cell (p:=⟨b,_,none⟩) hb).trans q1;have c2:=(hbel.cell (p:=⟨b,_,none⟩) hb).trans q2;have c3:=(hbel.cell (p:=⟨b,_,none⟩) hb).trans q3;have c4:=(hbel.cell (p:=⟨b,_,none⟩) hb).trans q4;have hz:=hide (fun W=>toNode_any n W);have HN:=hide hn;have u1:(k:Int)<(L.length:Int):=by omega
   have u3:(0:Int)≤(k:Int):=by omega
   clear q0 q1 q2 q3 q4 hn;simp only [Pl.Nd.val] at hz;go_wp2_with fail
   refine (za hz _).mono ?_;rintro e w1 ⟨rfl,b1⟩;have hN:w.heap.size<wr.heap.size:=(Array.getElem?_eq_some_iff.1 (za HB)).1;have HB1:=hide ((b1.block _ hN).trans (za HB));have hb2:=hide (hbel.trans (b1.mono hbel.size));have hcz:=za HZ;have s0:∃x,w1.cell? ⟨w.heap.size,k*5,none⟩=some x:=⟨_,(cell_of_row w1 _ (k*5) _ _ (0,0) (za HB1)).trans (Array.getElem?_eq_getElem (by omega))⟩;have s1:∃x,w1.cell? ⟨w.heap.size,k*5+1,none⟩=some x:=⟨_,(cell_of_row w1 _ (k*5+1) _ _ (0,0) (za HB1)).trans (Array.getElem?_eq_getElem (by omega))⟩;have s2:∃x,w1.cell? ⟨w.heap.size,k*5+2,none⟩=some x:=⟨_,(cell_of_row w1 _ (k*5+2) _ _ (0,0) (za HB1)).trans (Array.getElem?_eq_getElem (by omega))⟩;have s3:∃x,w1.cell? ⟨w.heap.size,k*5+3,none⟩=some x:=⟨_,(cell_of_row w1 _ (k*5+3) _ _ (0,0) (za HB1)).trans (Array.getElem?_eq_getElem (by omega))⟩
   have s4:∃x,w1.cell? ⟨w.heap.size,k*5+4,none⟩=some x:=⟨_,(cell_of_row w1 _ (k*5+4) _ _ (0,0) (za HB1)).trans (Array.getElem?_eq_getElem (by omega))⟩;obtain ⟨x0,s0⟩:=s0;obtain ⟨x1,s1⟩:=s1;obtain ⟨x2,s2⟩:=s2;obtain ⟨x3,s3⟩:=s3;obtain ⟨x4,s4⟩:=s4;have f0:∀j,w1.frozen? ⟨w.heap.size,j,none⟩=false:=fun j=>Mem.zd5 (za HB1);have HC:=hide hcz;clear b1 hbel hz hcz HB;go_wp2
   go_roundw
   case rel=>
    refine ⟨k+1,_,by omega,by go_num,?_,hide (heap_setCell_same _ _ (k*5+4) _ _ _ (heap_setCell_same _ _ (k*5+3) _ _ _ (heap_setCell_same _ _ (k*5+2) _ _ _ (heap_setCell_same _ _ (k*5+1) _ _ _ (heap_setCell_same _ _ (k*5) _ _ _ (za HB1)))))),?_,?_⟩
    ·exact (((((za hb2).setCell (Nat.le_refl _) _).setCell (Nat.le_refl _) _).setCell (Nat.le_refl _) _).setCell (Nat.le_refl _) _).setCell (Nat.le_refl _) _
    ·exact hide (by simpa using za HC)
    ·intro j m hj hm;have hjl:=(List.getElem?_eq_some_iff.1 hm).1
     rcases Nat.lt_succ_iff_lt_or_eq.1 hj with h''|rfl
     ·obtain ⟨i0,i1,i2,i3,i4⟩:=HA.out j m h'' hm;simp only [Array.getElem?_setIfInBounds];refine ⟨?_,?_,?_,?_,?_⟩ <;> (repeat (rw [if_neg (by omega)])) <;> assumption
     ·rw [za HN] at hm;cases hm
      have hcz:=za HC;simp only [Array.getElem?_setIfInBounds,Array.size_setIfInBounds];refine ⟨?_,?_,?_,?_,?_⟩ <;> simp <;> omega
   case measure=>simp [intOf];omega
  ·have u1:¬ (k:Int)<(L.length:Int):=by omega
   go_wp2
   go_ret
   refine ⟨rfl,⟨cur,za HB,za HZ⟩,fun j n hj=>?_,hbel⟩;obtain ⟨i0,i1,i2,i3,i4⟩:=HA.out j n (by have :=(List.getElem?_eq_some_iff.1 hj).1;omega) hj;refine ⟨_,0,rfl,(Array.getElem?_eq_some_iff.1 (za HB)).1,?_,?_,?_,?_,?_⟩
   ·rw [cell_of_row wr _ _ _ _ (0,0) (za HB),Nat.zero_add];exact i0
   ·rw [cell_of_row wr _ _ _ _ (0,0) (za HB),Nat.zero_add];exact i1
   ·rw [cell_of_row wr _ _ _ _ (0,0) (za HB),Nat.zero_add];exact i2
   ·rw [cell_of_row wr _ _ _ _ (0,0) (za HB),Nat.zero_add];exact i3
   ·rw [cell_of_row wr _ _ _ _ (0,0) (za HB),Nat.zero_add];exact i4
end WLaw
end
section
open Go.RowKit
namespace WLaw
set_option maxRecDepth 100000 in
theorem zw7 (a:Option Addr) (cap:Nat) (L:List Pl.Nd) (w:World) (hl:L.length≤1048576) (hv:Mem.zb5 w a L):
  Calls Tryz.prog 35 #[.agg #[.slice a L.length cap]] w fun e w'=>∃g,e= .returned (.agg #[.slice (some ⟨g,0,none⟩) L.length L.length])∧w.heap.size≤g∧(∃cur,w'.heap[g]? =some (.cells cur 42 (0,0))∧cur.size=L.length*5)∧Mem.zb5 w' (some ⟨g,0,none⟩) L∧Below w.heap.size w w':=by
 have HZ:=hide (fun W (b:Below w.heap.size w W)=>toNodeS_row a cap L W hl (Mem.za9 hv b));clear hv;have b0:∀o1 o2 o3,Below w.heap.size w (((w.alloc o1).alloc o2).alloc o3):=fun o1 o2 o3=>(((Below.refl _ _).alloc (Nat.le_refl _) o1).alloc (by simp) o2).alloc (by simp;omega) o3;have HB:=hide b0;clear b0;go_enter Tryz.func35,Tryz.ntmps35
 go_wp2_with fail
 refine (za HZ _ (za HB _ _ _)).mono ?_;rintro e w1 ⟨rfl,⟨cur,hrow,hcur⟩,h1,b1⟩;have hs:(((w.alloc (.cells #[.slice a L.length cap] 36)).alloc (.cells #[.slice none 0 0] 50)).alloc (.cells #[.slice none 0 0] 50)).heap.size=w.heap.size+1+1+1:=by simp
 have r1:w1.heap[w.heap.size+1]? =some (.cells #[.slice none 0 0] 50 (0,0)):=(b1.block _ (by rw [hs];omega)).trans (Mem.new_mid w _ _ _);have r2:w1.heap[w.heap.size+1+1]? =some (.cells #[.slice none 0 0] 50 (0,0)):=(b1.block _ (by rw [hs];omega)).trans (Mem.zt9 w _ _ _);have c1:w1.cell? ⟨w.heap.size+1,0,none⟩=some (.slice none 0 0):=by rw [cell_of_row w1 _ 0 _ _ (0,0) r1];rfl
 have c2:w1.cell? ⟨w.heap.size+1+1,0,none⟩=some (.slice none 0 0):=by rw [cell_of_row w1 _ 0 _ _ (0,0) r2];rfl
 have f1:w1.frozen? ⟨w.heap.size+1,0,none⟩=false:=Mem.zd5 r1;have f2:w1.frozen? ⟨w.heap.size+1+1,0,none⟩=false:=Mem.zd5 r2;have bb:=hide ((za HB _ _ _).trans (b1.mono (za HB _ _ _).size));have H1:=hide h1;have HR:=hide hrow;have HCU:=hide hcur;have HSZ:=hide hs;generalize (((w.alloc (.cells #[.slice a L.length cap] 36)).alloc (.cells #[.slice none 0 0] 50)).alloc (.cells #[.slice none 0 0] 50)).heap.size=g at H1 HSZ HR ⊢;clear HZ b1 h1 hs r1 r2 hrow hcur;go_wp2
 refine bodyPost_ret (v:= .agg #[.slice (some ⟨g,0,none⟩) L.length L.length]) (by simp [results,Tryz.results35,go_sem,c1]) rfl ⟨g,rfl,by have :=za HSZ;omega,⟨cur,?_,za HCU⟩,?_,?_⟩
 ·have hg:=za HSZ;exact (heap_setCell_other _ _ _ _ (by show g≠w.heap.size+1;omega)).trans ((heap_setCell_other _ _ _ _ (by show g≠w.heap.size+1+1;omega)).trans (za HR))
 ·intro i n hi;obtain ⟨b,o,e1,h2,q0,q1,q2,q3,q4⟩:=za H1 i n hi;cases e1
  have hg:=za HSZ
  have hc:∀j,((w1.setCell ⟨w.heap.size+1+1,0,none⟩ (.slice (some ⟨g,0,none⟩) L.length L.length)).setCell ⟨w.heap.size+1,0,none⟩ (.slice (some ⟨g,0,none⟩) L.length L.length)).cell? ⟨g,j,none⟩=w1.cell? ⟨g,j,none⟩:=fun j=>by
   rw [World.cell?_setCell_far _ _ _ _ (by show w.heap.size+1≠g;omega),World.cell?_setCell_far _ _ _ _ (by show w.heap.size+1+1≠g;omega)]
  refine ⟨g,0,rfl,by simpa [World.setCell] using h2,?_,?_,?_,?_,?_⟩
  ·rw [hc];exact q0
  ·rw [hc];exact q1
  ·rw [hc];exact q2
  ·rw [hc];exact q3
  ·rw [hc];exact q4
 ·exact ((za bb).setCell (by show w.heap.size≤w.heap.size+1+1;omega) _).setCell (by show w.heap.size≤w.heap.size+1;omega) _
set_option maxRecDepth 100000 in
theorem eqNode_any (n:Pl.Nd) (w:World):
  Calls Tryz.prog 81 #[n.val,n.val] w fun e w'=>e= .returned (.bool true)∧Below w.heap.size w w':=by
 obtain ⟨p,k,d,t,m⟩:=n;simp only [Pl.Nd.val];go_enter Tryz.func81,Tryz.ntmps81
 go_wp2
 go_ret
 exact ⟨rfl,((Below.refl _ _).alloc (Nat.le_refl _) _).alloc (by simp) _⟩
set_option maxRecDepth 100000 in
set_option maxHeartbeats 400000 in
theorem eqNodeS_any (a b:Option Addr) (c1 c2:Nat) (L:List Pl.Nd) (w:World) (hl:L.length≤1048576) (hv:Mem.zb5 w a L) (hu:Mem.zb5 w b L):
  Calls Tryz.prog 64 #[.slice a L.length c1, .slice b L.length c2] w fun e w'=>e= .returned (.bool true)∧Below w.heap.size w w':=by
 have HV:=hide hv;have HU:=hide hu;clear hv hu;go_enter Tryz.func64,Tryz.ntmps64
 go_wp2
 go_loopw [5] (fun i wr=>∃k:Nat,k≤L.length∧i= .int .i64 (k:Int)∧Below w.heap.size w wr) (fun i _=>L.length - (intOf i).toNat)
 case atStart=>exact ⟨0,Nat.zero_le _,rfl,Below.refl _ _⟩
 case round=>
  obtain ⟨k,hk,rfl,hbel⟩:=hrel;by_cases hlt:k<L.length
  ·obtain ⟨n,hn⟩:∃n,L[k]? =some n:=⟨_,List.getElem?_eq_getElem hlt⟩;obtain ⟨g,o,rfl,hg,q0,q1,q2,q3,q4⟩:=(za HV) k n hn;obtain ⟨g2,o2,rfl,hg2,p0,p1,p2,p3,p4⟩:=(za HU) k n hn;have c0:=(hbel.cell (p:=⟨g,_,none⟩) hg).trans q0;have c1:=(hbel.cell (p:=⟨g,_,none⟩) hg).trans q1;have c2:=(hbel.cell (p:=⟨g,_,none⟩) hg).trans q2;have c3:=(hbel.cell (p:=⟨g,_,none⟩) hg).trans q3;have c4:=(hbel.cell (p:=⟨g,_,none⟩) hg).trans q4;have d0:=(hbel.cell (p:=⟨g2,_,none⟩) hg2).trans p0;have d1:=(hbel.cell (p:=⟨g2,_,none⟩) hg2).trans p1;have d2:=(hbel.cell (p:=⟨g2,_,none⟩) hg2).trans p2;have d3:=(hbel.cell (p:=⟨g2,_,none⟩) hg2).trans p3;have d4:=(hbel.cell (p:=⟨g2,_,none⟩) hg2).trans p4;have hz:=hide (fun W=>eqNode_any n W)
   have MK:Hid (∀W',Below w.heap.size w W'→(Below w.heap.size w W'∧W'.cell? ⟨g,o+k*5,none⟩=some (.string n.path)∧W'.cell? ⟨g,o+k*5+1,none⟩=some (.int .i64 n.kind)∧W'.cell? ⟨g,o+k*5+2,none⟩=some (.string n.data)∧W'.cell? ⟨g,o+k*5+3,none⟩=some (.int .i64 n.time)∧W'.cell? ⟨g,o+k*5+4,none⟩=some (.int .i64 n.mark)∧W'.cell? ⟨g2,o2+k*5,none⟩=some (.string n.path)∧W'.cell? ⟨g2,o2+k*5+1,none⟩=some (.int .i64 n.kind)∧W'.cell? ⟨g2,o2+k*5+2,none⟩=some (.string n.data)∧W'.cell? ⟨g2,o2+k*5+3,none⟩=some (.int .i64 n.time)∧W'.cell? ⟨g2,o2+k*5+4,none⟩=some (.int .i64 n.mark))):=fun W' hb=>⟨hb,(hb.cell (p:=⟨g,_,none⟩) hg).trans q0,(hb.cell (p:=⟨g,_,none⟩) hg).trans q1,(hb.cell (p:=⟨g,_,none⟩) hg).trans q2,(hb.cell (p:=⟨g,_,none⟩) hg).trans q3,(hb.cell (p:=⟨g,_,none⟩) hg).trans q4,(hb.cell (p:=⟨g2,_,none⟩) hg2).trans p0,(hb.cell (p:=⟨g2,_,none⟩) hg2).trans p1,(hb.cell (p:=⟨g2,_,none⟩) hg2).trans p2,(hb.cell (p:=⟨g2,_,none⟩) hg2).trans p3,(hb.cell (p:=⟨g2,_,none⟩) hg2).trans p4⟩
   have u1:(k:Int)<(L.length:Int):=by omega
   have u3:(0:Int)≤(k:Int):=by omega
   have hbd:Below w.heap.size w wr.drew:=⟨hbel.os,hbel.tape,hbel.output,hbel.size,hbel.block⟩;clear q0 q1 q2 q3 q4 p0 p1 p2 p3 p4 hn;simp only [Pl.Nd.val] at hz;go_wp2_with fail
   go_region_held3 (fun W'=>Below w.heap.size w W'∧W'.cell? ⟨g,o+k*5,none⟩=some (.string n.path)∧W'.cell? ⟨g,o+k*5+1,none⟩=some (.int .i64 n.kind)∧W'.cell? ⟨g,o+k*5+2,none⟩=some (.string n.data)∧W'.cell? ⟨g,o+k*5+3,none⟩=some (.int .i64 n.time)∧W'.cell? ⟨g,o+k*5+4,none⟩=some (.int .i64 n.mark)∧W'.cell? ⟨g2,o2+k*5,none⟩=some (.string n.path)∧W'.cell? ⟨g2,o2+k*5+1,none⟩=some (.int .i64 n.kind)∧W'.cell? ⟨g2,o2+k*5+2,none⟩=some (.string n.data)∧W'.cell? ⟨g2,o2+k*5+3,none⟩=some (.int .i64 n.time)∧W'.cell? ⟨g2,o2+k*5+4,none⟩=some (.int .i64 n.mark)) (first |exact za MK _ hbd|exact za MK _ (hbd.trans (bX.mono hbd.size))) (first |(go_at_call 81;refine (za hz _).mono ?_;rintro e wX ⟨rfl,bX⟩))
   have hb2:=hbd.trans (bX.mono hbd.size);clear hbel hbd bX MK;go_wp2
   go_roundw
   case rel=>exact ⟨k+1,by omega,by go_num,hb2⟩
   case measure=>simp [intOf];omega
  ·have u1:¬ (k:Int)<(L.length:Int):=by omega
   go_wp2
   go_ret
   exact ⟨rfl,hbel⟩
set_option maxRecDepth 100000 in
theorem eqTree_any (a b:Option Addr) (c1 c2:Nat) (L:List Pl.Nd) (w:World) (hl:L.length≤1048576) (hv:Mem.zb5 w a L) (hu:Mem.zb5 w b L):
  Calls Tryz.prog 43 #[.agg #[.slice a L.length c1], .agg #[.slice b L.length c2]] w fun e w'=>e= .returned (.bool true)∧Below w.heap.size w w':=by
 have b0:∀o1 o2,Below w.heap.size w ((w.alloc o1).alloc o2):=fun o1 o2=>((Below.refl _ _).alloc (Nat.le_refl _) o1).alloc (by simp) o2;have HB:=hide b0;have HZ:=hide (fun W (b':Below w.heap.size w W)=>eqNodeS_any a b c1 c2 L W hl (Mem.za9 hv b') (Mem.za9 hu b'));clear hv hu b0;go_enter Tryz.func43,Tryz.ntmps43
 go_wp2_with fail
 refine (za HZ _ (za HB _ _)).mono ?_;rintro e w1 ⟨rfl,b1⟩;have bb:=(za HB _ _).trans (b1.mono (za HB _ _).size);clear HZ b1;go_wp2
 go_ret
 exact ⟨rfl,bb⟩
end WLaw
end
section
open Go.RowKit
namespace Mem
theorem ze {w:World} {g o:Nat} {L:List Pl.Nd} (h:zb5 w (some ⟨g,o,none⟩) L) (p:Addr) (v:Value) (hp:p.block≠g):zb5 (w.setCell p v) (some ⟨g,o,none⟩) L:=fun i n hi=>by
 obtain ⟨g',o',h1,h2,h3,h4,h5,h6,h7⟩:=h i n hi;cases h1
 refine ⟨g,o,rfl,by simpa using h2,?_,?_,?_,?_,?_⟩ <;> (rw [World.cell?_setCell_far _ _ _ _ hp];assumption)
end Mem
end
end Go.Proofs.YtpggbphcbcogdaaGreatDoor
