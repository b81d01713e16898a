/- Several texts of one claim in one file: MemHas, WMkN, WMkJ, WLawK, OkNode, OkItems, OpenNode, OpenTree. -/
import Derived.Test.YtpggbphcbcogdaaGreatDoorG45
import Derived.Test.YtpggbphcbcogdaaGreatDoorRows
import Derived.ProofKit
import Derived.OpenShut
import Derived.ShutString
namespace Go.Proofs.YtpggbphcbcogdaaGreatDoor
section
open Go.RowKit
namespace WMkJ
structure Has (W:World) (g X:Nat) (D:List Pl.It):Prop where
 cell:∀ (j:Nat) t,D[j]? =some t→W.cell? ⟨g,j*2+1,none⟩=some t.t.val
 blk:∃cur,W.heap[g]? =some (.cells cur 52 (0,0))∧cur.size=D.length*2
 gx:g<X
 each:∀ (j:Nat) t,D[j]? =some t→∃q,t.t.a=some ⟨q,0,none⟩∧g<q∧q<X∧∃cs,W.heap[q]? =some (.cells cs 42 (0,0))∧t.t.L.length*5≤cs.size
theorem Has.lt {W:World} {g X:Nat} {D:List Pl.It} (h:Has W g X D):g<W.heap.size:=by
 obtain ⟨cur,h1, -⟩:=h.blk;exact (Array.getElem?_eq_some_iff.1 h1).1
theorem has_rows {W:World} {g:Nat} {D:List Pl.It} (h:WLawY.Rows W g D):Has W g W.heap.size D:=
 ⟨fun j t hj=>by
  obtain ⟨⟨b,o,h1,h2,h3,h5⟩, -⟩:=h.items j t hj;cases h1
  rw [Nat.zero_add] at h5;exact h5,h.blk,by
  obtain ⟨cur,h1, -⟩:=h.blk;exact (Array.getElem?_eq_some_iff.1 h1).1,fun j t hj=>by
  obtain ⟨q,k1,k2,k3,cs,k4,k5, -⟩:=h.each j t hj
  exact ⟨q,k1,k2,k3,cs,k4,k5⟩⟩
theorem Has.call {W W':World} {g X:Nat} {D:List Pl.It} (h:Has W g X D) (b:Below W.heap.size W W'):Has W' g X D:=
 ⟨fun j t hj=>(b.cell (p:=⟨g,j*2+1,none⟩) h.lt).trans (h.cell j t hj),by
  obtain ⟨cur,h1,h2⟩:=h.blk;exact ⟨cur,(b.block g h.lt).trans h1,h2⟩,h.gx,fun j t hj=>by
  obtain ⟨q,h1,h2,h3,cs,h4,h5⟩:=h.each j t hj
  exact ⟨q,h1,h2,h3,cs,(b.block q (Array.getElem?_eq_some_iff.1 h4).1).trans h4,h5⟩⟩
theorem zx2 {w w':World} {g j:Nat} (h:w'.heap[g]? =w.heap[g]?):w'.cell? ⟨g,j,none⟩=w.cell? ⟨g,j,none⟩:=by
 simp only [World.cell?,h]
theorem Has.many {W:World} {g X i:Nat} {D:List Pl.It} (h:Has W g X D) (v:Value):Has (W.setCell ⟨g,i*2,none⟩ v) g X D:=by
 obtain ⟨cur,h1,h2⟩:=h.blk;have hb:(W.setCell ⟨g,i*2,none⟩ v).heap[g]? =some (.cells (cur.setIfInBounds (i*2) v) 52 (0,0)):=heap_setCell_same _ _ _ _ _ _ h1;refine ⟨fun j t hj=>?_,⟨_,hb,by simpa using h2⟩,h.gx,fun j t hj=>?_⟩
 ·have hc:=h.cell j t hj;rw [cell_of_row W _ _ _ _ (0,0) h1] at hc;rw [cell_of_row _ _ _ _ _ (0,0) hb,Array.getElem?_setIfInBounds,if_neg (by omega)];exact hc
 ·obtain ⟨q,h1,h2,h3,cs,h4,h5⟩:=h.each j t hj;exact ⟨q,h1,h2,h3,cs,(heap_setCell_other _ _ _ _ (by show q≠g;omega)).trans h4,h5⟩
theorem Has.marked {W W':World} {g X q:Nat} {D:List Pl.It} {cur cur':Array Value} (h:Has W g X D) (hq:g<q) (hr:W.heap[q]? =some (.cells cur 42 (0,0))) (hr':W'.heap[q]? =some (.cells cur' 42 (0,0))) (hs:cur'.size=cur.size) (hg:W.grownBy W' (some q)):Has W' g X D:=
 ⟨fun j t hj=>(zx2 (hg.block g h.lt (fun e=>by cases e;omega))).trans (h.cell j t hj),by
  obtain ⟨c,h1,h2⟩:=h.blk;exact ⟨c,(hg.block g h.lt (fun e=>by cases e;omega)).trans h1,h2⟩,h.gx,fun j t hj=>by
  obtain ⟨p,h1,h2,h3,cs,h4,h5⟩:=h.each j t hj;by_cases e:p=q
  ·subst e;rw [hr] at h4;cases h4
   exact ⟨p,h1,h2,h3,cur',hr',by omega⟩
  ·exact ⟨p,h1,h2,h3,cs,(hg.block p (Array.getElem?_eq_some_iff.1 h4).1 (fun e2=>by cases e2;exact e rfl)).trans h4,h5⟩⟩
theorem Has.same {W W':World} {g X:Nat} {D:List Pl.It} (h:Has W g X D) (hb:∀b,g≤b→b<X→b<W.heap.size→W'.heap[b]? =W.heap[b]?):Has W' g X D:=by
 have hl:=h.lt;refine ⟨fun j t hj=>(zx2 (hb g (Nat.le_refl _) h.gx hl)).trans (h.cell j t hj),?_,h.gx,fun j t hj=>?_⟩
 ·obtain ⟨cur,h1,h2⟩:=h.blk;exact ⟨cur,(hb g (Nat.le_refl _) h.gx hl).trans h1,h2⟩
 ·obtain ⟨q,h1,h2,h3,cs,h4,h5⟩:=h.each j t hj;exact ⟨q,h1,h2,h3,cs,(hb q (by omega) h3 (Array.getElem?_eq_some_iff.1 h4).1).trans h4,h5⟩
end WMkJ
end
section
open Go.RowKit
namespace Pl
def markNd (K i:Nat):Nd:=⟨mark (K+5*i),((K+5*i+1:Nat):Int),mark (K+5*i+2),((K+5*i+3:Nat):Int),((K+5*i+4:Nat):Int)⟩
def markN (K n:Nat):List Nd:=(List.range n).map (markNd K)
theorem markN_get {K n i:Nat} {m:Nd} (h:(markN K n)[i]? =some m):i<n∧m=markNd K i:=by
 unfold markN at h;rw [List.getElem?_map,Option.map_eq_some_iff] at h;obtain ⟨j,hj,rfl⟩:=h;obtain ⟨h1,h2⟩:=List.getElem?_eq_some_iff.1 hj;simp at h1 h2
 subst h2;exact ⟨h1,rfl⟩
def rowAt (cv:Array Value) (j:Nat) (m:Nd):Prop:=cv[j*5]? =some (.string m.path)∧cv[j*5+1]? =some (.int .i64 m.kind)∧cv[j*5+2]? =some (.string m.data)∧cv[j*5+3]? =some (.int .i64 m.time)∧cv[j*5+4]? =some (.int .i64 m.mark)
end Pl
namespace WMarkN
theorem zy3 {w v v':World} {g:Nat} (h:w.grownBy v (some g)) (b:Below v.heap.size v v'):w.grownBy v' (some g):=
 ⟨b.os.trans h.os,b.tape.trans h.tape,b.output.trans h.output,Nat.le_trans h.size b.size,fun j hj hne=>(b.block j (Nat.lt_of_lt_of_le hj h.size)).trans (h.block j hj hne)⟩
theorem za1 {w v:World} {g o:Nat} {x:Value} (h:w.grownBy v (some g)):w.grownBy (v.setCell ⟨g,o,none⟩ x) (some g):=
 ⟨h.os,h.tape,h.output,Nat.le_trans h.size (by simp [World.setCell]),fun j hj hne=>(Below.heap_setCell _ _ _ _ (by intro e;exact hne (by rw [e]))).trans (h.block j hj hne)⟩
set_option maxRecDepth 100000 in
set_option maxHeartbeats 400000 in
theorem lay_any (g n cap K:Nat) (cur:Array Value) (w:World) (hn:n≤1048576) (hK:0<K) (hK2:K≤8000000000000000000) (hrow:w.heap[g]? =some (.cells cur 42 (0,0))) (hsz:n*5≤cur.size):
  Calls Tryz.prog 26 #[.slice (some ⟨g,0,none⟩) n cap, .int .i64 (K:Int)] w fun e w'=>e= .returned (.int .i64 ((K+5*n:Nat):Int))∧
   (∃cur',w'.heap[g]? =some (.cells cur' 42 (0,0))∧cur'.size=cur.size)∧Mem.zb5 w' (some ⟨g,0,none⟩) (Pl.markN K n)∧w.grownBy w' (some g):=by
 have HR0:=hide hrow;have HS0:=hide hsz;clear hrow hsz;go_enter Tryz.func26,Tryz.ntmps26
 go_wp2
 go_loopw [1,5] (fun a i wr=>∃ (k q:Nat) (cv:Array Value),k≤n∧q=K+5*k∧i= .int .i64 (k:Int)∧a= .int .i64 (q:Int)∧Hid (wr.heap[g]? =some (.cells cv 42 (0,0)))∧Hid (cv.size=cur.size)∧Hid (w.grownBy wr (some g))∧
   Hid (∀j,j<k→Pl.rowAt cv j (Pl.markNd K j))) (fun _ i _=>n - (intOf i).toNat)
 case atStart=>exact ⟨0,K,cur,Nat.zero_le _,rfl,rfl,rfl,HR0,rfl,⟨rfl,rfl,rfl,Nat.le_refl _,fun _ _ _=>rfl⟩,fun j h=>absurd h (by omega)⟩
 case round=>
  obtain ⟨k,q,cv,hk,hq,rfl,rfl,HR,HS,HG,HA⟩:=hrel;by_cases hlt:k<n
  ·have y1:(k:Int)<(n:Int):=by omega
   have y3:(0:Int)≤(k:Int):=by omega
   have HM:=hide (fun W=>zo3.zm6 q W (by omega) (by omega));have HM2:=hide (fun W=>zo3.zm6 (q+2) W (by omega) (by omega));rw [show ((q+2:Nat):Int)=(q:Int)+1+1 by omega] at HM2;have HQ:=hide hq;have q1:(q:Int)≤9000000000000000000:=by omega
   clear hq;go_wp2_with fail
   refine (za HM _).mono ?_;rintro e w2 ⟨rfl,b2⟩;have hg:g<wr.heap.size:=(Array.getElem?_eq_some_iff.1 (za HR)).1;have HR2:=hide ((b2.block _ hg).trans (za HR));have hcz:n*5≤cv.size:=by rw [za HS];exact za HS0
   have s0:∃x,w2.cell? ⟨g,k*5,none⟩=some x:=⟨_,(cell_of_row w2 _ (k*5) _ _ (0,0) (za HR2)).trans (Array.getElem?_eq_getElem (by omega))⟩;have s1:∃x,w2.cell? ⟨g,k*5+1,none⟩=some x:=⟨_,(cell_of_row w2 _ (k*5+1) _ _ (0,0) (za HR2)).trans (Array.getElem?_eq_getElem (by omega))⟩;obtain ⟨x0,s0⟩:=s0;obtain ⟨x1,s1⟩:=s1;have f0:∀j,w2.frozen? ⟨g,j,none⟩=false:=fun j=>Mem.zd5 (za HR2);have HG2:=hide (zy3 (za HG) b2);have HCZ:=hide hcz;clear b2 HR HG hcz hg HM;go_wp2_with fail
   have HR3:=hide (heap_setCell_same _ _ (k*5+1) _ _ (.int .i64 ((q:Int)+1)) (heap_setCell_same _ _ (k*5) _ _ (.string (Pl.mark q)) (za HR2)));have HG3:=hide (za1 (o:=k*5+1) (x:= .int .i64 ((q:Int)+1)) (za1 (o:=k*5) (x:= .string (Pl.mark q)) (za HG2)));refine (za HM2 _).mono ?_;rintro e w4 ⟨rfl,b4⟩;have HR4:=hide ((b4.block _ (Array.getElem?_eq_some_iff.1 (za HR3)).1).trans (za HR3));have HG4:=hide (zy3 (za HG3) b4);have hcz:=za HCZ;have s2:∃x,w4.cell? ⟨g,k*5+2,none⟩=some x:=⟨_,(cell_of_row w4 _ (k*5+2) _ _ (0,0) (za HR4)).trans (Array.getElem?_eq_getElem (by simp;omega))⟩;have s3:∃x,w4.cell? ⟨g,k*5+3,none⟩=some x:=⟨_,(cell_of_row w4 _ (k*5+3) _ _ (0,0) (za HR4)).trans (Array.getElem?_eq_getElem (by simp;omega))⟩;have s4:∃x,w4.cell? ⟨g,k*5+4,none⟩=some x:=⟨_,(cell_of_row w4 _ (k*5+4) _ _ (0,0) (za HR4)).trans (Array.getElem?_eq_getElem (by simp;omega))⟩;obtain ⟨x2,s2⟩:=s2
   obtain ⟨x3,s3⟩:=s3;obtain ⟨x4,s4⟩:=s4;have f4:∀j,w4.frozen? ⟨g,j,none⟩=false:=fun j=>Mem.zd5 (za HR4);clear b4 HR2 HG2 HR3 HG3 hcz HM2 s0 s1 f0;go_wp2
   go_roundw
   case rel=>
    refine ⟨k+1,q+5,_,by omega,by have :=za HQ;omega,by go_num,by go_num,hide (heap_setCell_same _ _ (k*5+4) _ _ _ (heap_setCell_same _ _ (k*5+3) _ _ _ (heap_setCell_same _ _ (k*5+2) _ _ _ (za HR4)))),?_,hide (za1 (za1 (za1 (za HG4)))),?_⟩
    ·exact hide (by simpa using za HS)
    ·intro j hj;have hcz:=za HCZ
     rcases Nat.lt_succ_iff_lt_or_eq.1 hj with h''|rfl
     ·obtain ⟨i0,i1,i2,i3,i4⟩:=HA.out j h'';simp only [Pl.rowAt,Array.getElem?_setIfInBounds];refine ⟨?_,?_,?_,?_,?_⟩ <;> (repeat (rw [if_neg (by omega)])) <;> assumption
     ·have hq:=za HQ;simp only [Pl.rowAt,Pl.markNd,Array.getElem?_setIfInBounds,Array.size_setIfInBounds,←hq];refine ⟨?_,?_,?_,?_,?_⟩ <;> simp <;> omega
   case measure=>simp [intOf];omega
  ·obtain rfl:k=n:=by omega
   have y1:¬ (k:Int)<(k:Int):=by omega
   have hq2:(q:Int)=((K+5*k:Nat):Int):=by omega
   have HQ:=hide hq2;clear hq2 hq;go_wp2
   go_ret
   refine ⟨by rw [za HQ];rfl,⟨cv,za HR,za HS⟩,fun j m hj=>?_,za HG⟩;obtain ⟨hjl,rfl⟩:=Pl.markN_get hj;obtain ⟨i0,i1,i2,i3,i4⟩:=HA.out j hjl;refine ⟨g,0,rfl,(Array.getElem?_eq_some_iff.1 (za HR)).1,?_,?_,?_,?_,?_⟩
   ·rw [cell_of_row wr _ _ _ _ (0,0) (za HR),Nat.zero_add];exact i0
   ·rw [cell_of_row wr _ _ _ _ (0,0) (za HR),Nat.zero_add];exact i1
   ·rw [cell_of_row wr _ _ _ _ (0,0) (za HR),Nat.zero_add];exact i2
   ·rw [cell_of_row wr _ _ _ _ (0,0) (za HR),Nat.zero_add];exact i3
   ·rw [cell_of_row wr _ _ _ _ (0,0) (za HR),Nat.zero_add];exact i4
end WMarkN
end
section
open Go.RowKit
namespace WMkJ
set_option linter.unusedSimpArgs false in
set_option maxRecDepth 100000 in
set_option maxHeartbeats 1000000 in
theorem mark_from (K0 g X cap:Nat) (D:List Pl.It) (w:World) (hK0:0<K0) (hK1:K0+5242881*D.length≤8000000000000000000) (hl:D.length≤1048576) (hok:∀t∈D,t.t.L.length≤1048576) (hv:Has w g X D):
  Calls Tryz.prog 10 #[.slice (some ⟨g,0,none⟩) D.length cap, .int .i64 (K0:Int)] w fun e w'=>(∃K:Nat,e= .returned (.int .i64 (K:Int))∧K0≤K∧K≤K0+5242881*D.length)∧Mem.Band g X w w':=by
 have HO:=hide hok;have HV:=hide hv;clear hok hv;go_enter Tryz.func10,Tryz.ntmps10
 go_wp2
 go_loopw [1,5] (fun a i wr=>∃ (j K:Nat),j≤D.length∧i= .int .i64 (j:Int)∧a= .int .i64 (K:Int)∧(K0≤K∧K≤K0+5242881*j)∧Hid (Has wr g X D∧Mem.Band g X w wr)) (fun _ i _=>D.length - (intOf i).toNat)
 case atStart=>exact ⟨0,K0,Nat.zero_le _,rfl,rfl,by omega,⟨za HV,Mem.Band.refl _ _ _⟩⟩
 case round=>
  obtain ⟨j,K,hj,rfl,rfl,hK,HA⟩:=hrel;by_cases hlt:j<D.length
  ·obtain ⟨t,ht⟩:∃t,D[j]? =some t:=⟨_,List.getElem?_eq_getElem hlt⟩;have htl:=za HO t (List.mem_of_getElem? ht);have HS:=hide ((za HA).1.many (i:=j) (.int .i64 (K:Int)));have BS:=hide ((za HA).2.trans (Mem.Band.of_set (w:=wr) ⟨g,j*2,none⟩ (.int .i64 (K:Int)) (Nat.le_refl _) (za HA).1.gx));have c1:=(za HS).cell j t ht;obtain ⟨q,h1,h2,h3,cs,h4,h5⟩:=(za HS).each j t ht;obtain ⟨cur,hb1,hb2⟩:=(za HA).1.blk;obtain ⟨x0,s0⟩:∃x,wr.cell? ⟨g,j*2,none⟩=some x:=⟨_,(cell_of_row wr _ (j*2) _ _ (0,0) hb1).trans (Array.getElem?_eq_getElem (by omega))⟩;have f0:wr.frozen? ⟨g,j*2,none⟩=false:=Mem.zd5 hb1;obtain ⟨tm,ta,tc,tL⟩:=t;simp only at h1 h5 htl;subst h1;simp only [Pl.Tr.val] at c1;have hm:=hide (WMarkN.lay_any q tL.length tc (K+1) cs (wr.setCell ⟨g,j*2,none⟩ (.int .i64 (K:Int))) htl (by omega) (by omega) h4 h5);have H4:=hide h4;have u1:(j:Int)<(D.length:Int):=by omega
   have u3:(0:Int)≤(j:Int):=by omega
   have eK:((K+1:Nat):Int)=(K:Int)+1:=by omega
   rw [eK] at hm;clear h4 h5 ht HA hb1 hb2;go_wp2_with fail
   refine (za hm).mono ?_;rintro e w2 ⟨rfl,⟨cur',hr',hs'⟩, -,hg⟩;have HB:Hid (Has w2 g X D∧Mem.Band g X w w2):=⟨(za HS).marked h2 (za H4) hr' hs' hg,(za BS).trans (Mem.Band.of_grown hg (by omega) h3)⟩;clear HS BS hm H4 hr' hs' hg c1 s0 f0;generalize hK2:K+1+5*tL.length=K2;have hK3:K0≤K2∧K2≤K0+5242881*(j+1):=by omega
   clear hK2 hK htl;go_wp2
   go_roundw
   case rel=>exact ⟨j+1,K2,by omega,by go_num,rfl,hK3,HB⟩
   case measure=>simp [intOf];omega
  ·have u1:¬ (j:Int)<(D.length:Int):=by omega
   go_wp2
   go_ret
   exact ⟨⟨K,rfl,by omega,by omega⟩,(za HA).2⟩
theorem zm6 (g X cap:Nat) (D:List Pl.It) (w:World) (hl:D.length≤1048576) (hok:∀t∈D,t.t.L.length≤1048576) (hv:Has w g X D):
  Calls Tryz.prog 10 #[.slice (some ⟨g,0,none⟩) D.length cap, .int .i64 1] w fun e w'=>(∃K:Nat,e= .returned (.int .i64 (K:Int))∧K≤10000000000000000)∧Mem.Band g X w w':=
 (mark_from 1 g X cap D w (by omega) (by omega) hl hok hv).mono fun _ _ ⟨⟨K,h1,h2,h3⟩,h4⟩=>⟨⟨K,h1,by omega⟩,h4⟩
end WMkJ
end
section
open Go.RowKit
namespace WLaw
set_option maxRecDepth 100000 in
set_option maxHeartbeats 800000 in
theorem eqItem_any (m:Int) (a b:Option Addr) (c1 c2:Nat) (L:List Pl.Nd) (w:World) (hl:L.length≤1048576) (hv:Mem.zb5 w a L) (hu:Mem.zb5 w b L):
  Calls Tryz.prog 25 #[.agg #[.int .i64 m, .slice a L.length c1], .agg #[.int .i64 m, .slice b L.length c2]] w fun e w'=>e= .returned (.bool true)∧Below w.heap.size w w':=by
 have b0:∀o1 o2,Below w.heap.size w ((w.alloc o1).alloc o2):=fun o1 o2=>((Below.refl _ _).alloc (Nat.le_refl _) o1).alloc (by simp) o2;have HB:=hide b0;have HZ:=hide (fun W (b':Below w.heap.size w W)=>eqTree_any a b c1 c2 L W hl (Mem.za9 hv b') (Mem.za9 hu b'));clear hv hu b0;go_enter Tryz.func25,Tryz.ntmps25
 go_wp2_with fail
 refine (za HZ _ (za HB _ _)).mono ?_;rintro e w1 ⟨rfl,b1⟩;have bb:=(za HB _ _).trans (b1.mono (za HB _ _).size);clear HZ b1;go_wp2
 go_ret
 exact ⟨rfl,bb⟩
set_option maxRecDepth 100000 in
set_option maxHeartbeats 800000 in
theorem eqItemS_any (a b:Option Addr) (c1 c2:Nat) (Ts Us:List Pl.It) (w:World) (hl:Ts.length≤1048576) (hm:Us.map Pl.It.r=Ts.map Pl.It.r) (hv:Mem.zb8 w a Ts) (hu:Mem.zb8 w b Us) (hok:∀t∈Ts,t.t.L.length≤1048576):
  Calls Tryz.prog 9 #[.slice a Ts.length c1, .slice b Ts.length c2] w fun e w'=>e= .returned (.bool true)∧Below w.heap.size w w':=by
 have HV:=hide hv;have HU:=hide hu;have HO:=hide hok;have HM:=hide hm;clear hv hu hok hm;go_enter Tryz.func9,Tryz.ntmps9
 go_wp2
 go_loopw [5] (fun i wr=>∃k:Nat,k≤Ts.length∧i= .int .i64 (k:Int)∧Below w.heap.size w wr) (fun i _=>Ts.length - (intOf i).toNat)
 case atStart=>exact ⟨0,Nat.zero_le _,rfl,Below.refl _ _⟩
 case round=>
  obtain ⟨k,hk,rfl,hbel⟩:=hrel;by_cases hlt:k<Ts.length
  ·obtain ⟨t,ht⟩:∃n,Ts[k]? =some n:=⟨_,List.getElem?_eq_getElem hlt⟩
   obtain ⟨u,hu,hum,hul⟩:∃u,Us[k]? =some u∧u.m=t.m∧u.t.L=t.t.L:=by
    have h:=congrArg (fun l=>l[k]?) (za HM);simp only [List.getElem?_map,ht,Option.map_some] at h;cases hu:Us[k]? with
    |none=>rw [hu] at h;simp at h
    |some u=>rw [hu] at h;simp [Pl.It.r] at h;exact ⟨u,rfl,h.1,h.2⟩
   obtain ⟨⟨g,o,rfl,hg,q0,q0'⟩,q1⟩:=(za HV) k t ht;obtain ⟨⟨g2,o2,rfl,hg2,p0,p0'⟩,p1⟩:=(za HU) k u hu;rw [hul] at p1;have hz:=hide (fun W (b:Below w.heap.size w W)=>eqItem_any t.m t.t.a u.t.a t.t.cap u.t.cap t.t.L W (za HO t (List.mem_of_getElem? ht)) (Mem.za9 q1 b) (Mem.za9 p1 b));have MK:Hid (∀W',Below w.heap.size w W'→(Below w.heap.size w W'∧W'.cell? ⟨g,o+k*2,none⟩=some (.int .i64 t.m)∧W'.cell? ⟨g,o+k*2+1,none⟩=some (.slice t.t.a t.t.L.length t.t.cap)∧W'.cell? ⟨g2,o2+k*2,none⟩=some (.int .i64 t.m)∧W'.cell? ⟨g2,o2+k*2+1,none⟩=some (.slice u.t.a t.t.L.length u.t.cap))):=fun W' hb'=>⟨hb',(hb'.cell (p:=⟨g,_,none⟩) hg).trans q0,(hb'.cell (p:=⟨g,_,none⟩) hg).trans (by rw [q0',Pl.Tr.val]),(hb'.cell (p:=⟨g2,_,none⟩) hg2).trans (by rw [p0,hum]),(hb'.cell (p:=⟨g2,_,none⟩) hg2).trans (by rw [p0',Pl.Tr.val,hul])⟩;have u1:(k:Int)<(Ts.length:Int):=by omega
   have u3:(0:Int)≤(k:Int):=by omega
   have hbd:Below w.heap.size w wr.drew:=⟨hbel.os,hbel.tape,hbel.output,hbel.size,hbel.block⟩;clear q0 p0 q0' p0' ht hu hul hum q1 p1;go_wp2_with fail
   go_region_held3 (fun W'=>Below w.heap.size w W'∧W'.cell? ⟨g,o+k*2,none⟩=some (.int .i64 t.m)∧W'.cell? ⟨g,o+k*2+1,none⟩=some (.slice t.t.a t.t.L.length t.t.cap)∧W'.cell? ⟨g2,o2+k*2,none⟩=some (.int .i64 t.m)∧W'.cell? ⟨g2,o2+k*2+1,none⟩=some (.slice u.t.a t.t.L.length u.t.cap)) (first |exact za MK _ hbd|exact za MK _ (hbd.trans (bX.mono hbd.size))) (first |(go_at_call 25;refine (za hz _ hbd).mono ?_;rintro e wX ⟨rfl,bX⟩))
   have hb2:=hbd.trans (bX.mono hbd.size);clear hbel hbd bX MK;go_wp2
   go_roundw
   case rel=>exact ⟨k+1,by omega,by go_num,hb2⟩
   case measure=>simp [intOf];omega
  ·have u1:¬ (k:Int)<(Ts.length:Int):=by omega
   go_wp2
   go_ret
   exact ⟨rfl,hbel⟩
end WLaw
end
section
open Go.RowKit
namespace zn3
def Ok (n:Pl.Nd):Prop:=n.path.size≤maxLen∧n.data.size≤maxLen∧(-9223372036854775808≤n.kind∧n.kind≤9223372036854775807)∧(-9223372036854775808≤n.time∧n.time≤9223372036854775807)∧(-9223372036854775808≤n.mark∧n.mark≤9223372036854775807)
end zn3
end
section
open Go.RowKit
namespace OpenI
structure OkI (w:World) (a:Option Addr) (Is:List Pl.It):Prop where
 len:Is.length≤maxLen
 items:Mem.zb8 w a Is
 ok:∀x∈Is,x.t.L.length≤maxLen∧∀n∈x.t.L,zn3.Ok n
end OpenI
end
section
open Go.ChangeShapes Go.WideShapes Go.ChangeAt Go.RowKit
namespace zn3
theorem five {α:Type} {l:List α} (h:l.length=5):∃a b c d e,l=[a,b,c,d,e]:=by
 match l,h with
 | [a,b,c,d,e],_=>exact ⟨a,b,c,d,e,rfl⟩
theorem cells5:Tryz.prog.cellsOf 120=5:=by kernel_rfl
theorem cellsS:Tryz.prog.cellsOf 9=1:=by kernel_rfl
theorem cellsI:Tryz.prog.cellsOf 2=1:=by kernel_rfl
set_option maxRecDepth 100000 in
theorem node {H:Type} {enc:TypeId × Value→H} {w:World} {base fuel:Nat} {spare:Nat→Bool} {held:Bool} {cs:List Value} {x:DataW H × List MemPlace}
  (h:DataW.trod enc Tryz.prog w base spare held fuel 120 cs=some x):∃n:Pl.Nd,cs=n.cells∧Ok n:=by
 obtain ⟨xs,m,rfl, -,hlen,hxl,hf⟩:=DataW.trod_struct Tryz.underlying120 h;obtain ⟨c0,c1,c2,c3,c4,rfl⟩:=five (hlen.trans cells5);obtain ⟨y0,y1,y2,y3,y4,rfl⟩:=five hxl;have h0:=hf 0 _ rfl;have h1:=hf 1 _ rfl;have h2:=hf 2 _ rfl;have h3:=hf 3 _ rfl;have h4:=hf 4 _ rfl
 change DataW.trod enc Tryz.prog w base spare held m 9 (([c0,c1,c2,c3,c4].drop 0).take (Tryz.prog.cellsOf 9))=some y0 at h0
 rw [cellsS] at h0
 change DataW.trod enc Tryz.prog w base spare held m 2 (([c0,c1,c2,c3,c4].drop 1).take (Tryz.prog.cellsOf 2))=some y1 at h1
 rw [cellsI] at h1
 change DataW.trod enc Tryz.prog w base spare held m 9 (([c0,c1,c2,c3,c4].drop 2).take (Tryz.prog.cellsOf 9))=some y2 at h2
 rw [cellsS] at h2
 change DataW.trod enc Tryz.prog w base spare held m 2 (([c0,c1,c2,c3,c4].drop 3).take (Tryz.prog.cellsOf 2))=some y3 at h3
 rw [cellsI] at h3
 change DataW.trod enc Tryz.prog w base spare held m 2 (([c0,c1,c2,c3,c4].drop 4).take (Tryz.prog.cellsOf 2))=some y4 at h4
 rw [cellsI] at h4;obtain ⟨p,e0, -,wp⟩:=DataW.trod_string Tryz.underlying9 h0;obtain ⟨k,e1, -,wk⟩:=DataW.trod_int Tryz.underlying2 h1;obtain ⟨d,e2, -,wd⟩:=DataW.trod_string Tryz.underlying9 h2;obtain ⟨t,e3, -,wt⟩:=DataW.trod_int Tryz.underlying2 h3;obtain ⟨q,e4, -,wq⟩:=DataW.trod_int Tryz.underlying2 h4;simp at e0 e1 e2 e3 e4
 subst e0 e1 e2 e3 e4;exact ⟨⟨p,k,d,t,q⟩,rfl,wp,wd,zu8 wk,zu8 wt,zu8 wq⟩
end zn3
end
section
open Go.ChangeShapes Go.WideShapes Go.ChangeAt Go.RowKit
namespace zl6
theorem cells1:Tryz.prog.cellsOf 36=1:=by kernel_rfl
theorem cellsL:Tryz.prog.cellsOf 34=1:=by kernel_rfl
structure OkT (w:World) (a:Option Addr) (L:List Pl.Nd):Prop where
 len:L.length≤maxLen
 nodes:Mem.zb5 w a L
 ok:∀n∈L,zn3.Ok n
theorem one {α:Type} {l:List α} (h:l.length=1):∃a,l=[a]:=by
 match l,h with
 | [a],_=>exact ⟨a,rfl⟩
theorem mapM5 {f:Nat→Option Value} {c0 c1 c2 c3 c4:Value} (h:(List.range 5).mapM f=some [c0,c1,c2,c3,c4]):f 0=some c0∧f 1=some c1∧f 2=some c2∧f 3=some c3∧f 4=some c4:=by
 have e:List.range 5=[0,1,2,3,4]:=rfl;rw [e] at h;simp only [List.mapM_cons,List.mapM_nil,Option.pure_def,Option.bind_eq_bind] at h;cases h0:f 0 with
 |none=>rw [h0] at h;simp at h
 |some a0=>
  cases h1:f 1 with
  |none=>rw [h0,h1] at h;simp at h
  |some a1=>
   cases h2:f 2 with
   |none=>rw [h0,h1,h2] at h;simp at h
   |some a2=>
    cases h3:f 3 with
    |none=>rw [h0,h1,h2,h3] at h;simp at h
    |some a3=>
     cases h4:f 4 with
     |none=>rw [h0,h1,h2,h3,h4] at h;simp at h
     |some a4=>
      rw [h0,h1,h2,h3,h4] at h;simp at h
      obtain ⟨rfl,rfl,rfl,rfl,rfl⟩:=h;exact ⟨rfl,rfl,rfl,rfl,rfl⟩
end zl6
end
end Go.Proofs.YtpggbphcbcogdaaGreatDoor
