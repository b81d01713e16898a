/- Several texts of one claim in one file: WMkJ, WMkX, WHdZ, WHdM, WHdH, WSpO2, OkNode, OkItems, OpenNode, OpenTree, OpenItems, OpenSpace. -/
import Derived.Test.YtkighhofjmginaaGreatDoorG23
import Derived.Test.YtkighhofjmginaaGreatDoorRows
import Derived.ProofKit
import Derived.OpenShut
import Derived.ShutString
namespace Go.Proofs.YtkighhofjmginaaGreatDoor
section
open Go.RowKit
namespace WMkJ
set_option linter.unusedSimpArgs false in
set_option maxRecDepth 100000 in
set_option maxHeartbeats 1000000 in
theorem mark_from (K0 g X cap:Nat) (D:List Pl.It) (w:World) (hK0:0<K0) (hK1:K0+5242881*D.length≤8000000000000000000) (hl:D.length≤1048576) (hok:∀t∈D,t.t.L.length≤1048576) (hv:Has w g X D):
  Calls Tryz.prog 19 #[.slice (some ⟨g,0,none⟩) D.length cap, .int .i64 (K0:Int)] w fun e w'=>(∃K:Nat,e= .returned (.int .i64 (K:Int))∧K0≤K∧K≤K0+5242881*D.length)∧Mem.Band g X w w':=by
 have HO:=hide hok;have HV:=hide hv;clear hok hv;go_enter Tryz.func19,Tryz.ntmps19
 go_wp2
 go_loopw [1,5] (fun a i wr=>∃ (j K:Nat),j≤D.length∧i= .int .i64 (j:Int)∧a= .int .i64 (K:Int)∧(K0≤K∧K≤K0+5242881*j)∧Hid (Has wr g X D∧Mem.Band g X w wr)) (fun _ i _=>D.length - (intOf i).toNat)
 case atStart=>exact ⟨0,K0,Nat.zero_le _,rfl,rfl,by omega,⟨za HV,Mem.Band.refl _ _ _⟩⟩
 case round=>
  obtain ⟨j,K,hj,rfl,rfl,hK,HA⟩:=hrel;by_cases hlt:j<D.length
  ·obtain ⟨t,ht⟩:∃t,D[j]? =some t:=⟨_,List.getElem?_eq_getElem hlt⟩;have htl:=za HO t (List.mem_of_getElem? ht);have HS:=hide ((za HA).1.many (i:=j) (.int .i64 (K:Int)));have BS:=hide ((za HA).2.trans (Mem.Band.of_set (w:=wr) ⟨g,j*2,none⟩ (.int .i64 (K:Int)) (Nat.le_refl _) (za HA).1.gx));have c1:=(za HS).cell j t ht;obtain ⟨q,h1,h2,h3,cs,h4,h5⟩:=(za HS).each j t ht;obtain ⟨cur,hb1,hb2⟩:=(za HA).1.blk;obtain ⟨x0,s0⟩:∃x,wr.cell? ⟨g,j*2,none⟩=some x:=⟨_,(cell_of_row wr _ (j*2) _ _ (0,0) hb1).trans (Array.getElem?_eq_getElem (by omega))⟩;have f0:wr.frozen? ⟨g,j*2,none⟩=false:=Mem.zb8 hb1;obtain ⟨tm,ta,tc,tL⟩:=t;simp only at h1 h5 htl;subst h1;simp only [Pl.Tr.val] at c1;have hm:=hide (zk1.lay_any q tL.length tc (K+1) cs (wr.setCell ⟨g,j*2,none⟩ (.int .i64 (K:Int))) htl (by omega) (by omega) h4 h5);have H4:=hide h4;have u1:(j:Int)<(D.length:Int):=by omega
   have u3:(0:Int)≤(j:Int):=by omega
   have eK:((K+1:Nat):Int)=(K:Int)+1:=by omega
   rw [eK] at hm;clear h4 h5 ht HA hb1 hb2;go_wp2_with fail
   refine (za hm).mono ?_;rintro e w2 ⟨rfl,⟨cur',hr',hs'⟩, -,hg⟩;have HB:Hid (Has w2 g X D∧Mem.Band g X w w2):=⟨(za HS).marked h2 (za H4) hr' hs' hg,(za BS).trans (Mem.Band.zy7 hg (by omega) h3)⟩;clear HS BS hm H4 hr' hs' hg c1 s0 f0;generalize hK2:K+1+5*tL.length=K2;have hK3:K0≤K2∧K2≤K0+5242881*(j+1):=by omega
   clear hK2 hK htl;go_wp2
   go_roundw
   case rel=>exact ⟨j+1,K2,by omega,by go_num,rfl,hK3,HB⟩
   case measure=>simp [intOf];omega
  ·have u1:¬ (j:Int)<(D.length:Int):=by omega
   go_wp2
   go_ret
   exact ⟨⟨K,rfl,by omega,by omega⟩,(za HA).2⟩
end WMkJ
end
section
set_option linter.unusedSimpArgs false
open Go.RowKit
namespace WMkX
open zb0
structure Left (W:World) (N:List Pl.Ns) (gi:Nat) (B:Nat→Nat) (j:Nat):Prop where
 ib:∃cur,W.heap[gi]? =some (.cells cur 100 (0,0))∧cur.size=N.length*2∧∀ (i:Nat) t,N[i]? =some t→cur[i*2+1]? =some (.slice t.a t.Is.length t.cap)
 band:∀ (i:Nat) t,j≤i→N[i]? =some t→∃g,t.a=some ⟨g,0,none⟩∧B i≤g∧WMkJ.Has W g (B (i+1)) t.Is
theorem Left.id {W:World} {N:List Pl.Ns} {gi:Nat} {B:Nat→Nat} {j:Nat} (h:Left W N gi B j) (hr:∀i,i<N.length→gi<B i) (v:Value):Left (W.setCell ⟨gi,j*2,none⟩ v) N gi B j:=by
 obtain ⟨⟨cur,h1,h2,h3⟩,h4⟩:=h;refine ⟨⟨_,heap_setCell_same _ _ _ _ _ _ h1,by simpa using h2,fun i t hi=>?_⟩,fun i t hj hi=>?_⟩
 ·rw [Array.getElem?_setIfInBounds,if_neg (by omega)];exact h3 i t hi
 ·obtain ⟨g,k1,k2,k3⟩:=h4 i t hj hi;have :=hr i (List.getElem?_eq_some_iff.1 hi).1;exact ⟨g,k1,k2,k3.low _ _ (by show gi<g;omega)⟩
theorem Left.next {W W':World} {N:List Pl.Ns} {gi:Nat} {B:Nat→Nat} {j g:Nat} (h:Left W N gi B j) (hr:∀i,i<N.length→gi<B i) (hm:∀i,j<i→i<N.length→B (j+1)≤B i) (hg:B j≤g) (hj:j<N.length) (hb:Mem.Band g (B (j+1)) W W'):Left W' N gi B (j+1):=by
 obtain ⟨⟨cur,h1,h2,h3⟩,h4⟩:=h;refine ⟨⟨cur,(hb.block gi (Array.getElem?_eq_some_iff.1 h1).1 (.inl (by have :=hr j hj;omega))).trans h1,h2,h3⟩,fun i t hi ht=>?_⟩;obtain ⟨g',k1,k2,k3⟩:=h4 i t (by omega) ht;have :=hm i (by omega) (List.getElem?_eq_some_iff.1 ht).1;exact ⟨g',k1,k2,k3.same (fun b h1 h2 h3=>hb.block b h3 (.inr (by omega)))⟩
theorem Left.start {W:World} {s:Pl.Sp} {gi gm gh:Nat} {B:Nat→Nat} (h:HasS W s gi gm gh B):Left W s.N gi B 0:=⟨h.ib,fun i t _ hi=>h.band i t hi⟩
set_option maxRecDepth 100000 in
set_option maxHeartbeats 1000000 in
theorem zo (N:List Pl.Ns) (gi gm cap:Nat) (B:Nat→Nat) (w:World) (hl:N.length≤1048576) (hok:∀x∈N,x.Is.length≤1048576∧∀t∈x.Is,t.t.L.length≤1048576) (hr:∀i,i<N.length→gi<B i) (hm:∀j i,j<i→i≤N.length→B (j+1)≤B i) (htop:B N.length≤gm) (hgm:gi<gm) (hv:Left w N gi B 0):
  Calls Tryz.prog 40 #[.slice (some ⟨gi,0,none⟩) N.length cap, .int .i64 1] w fun e w'=>(∃K:Nat,e= .returned (.int .i64 (K:Int))∧0<K∧K≤5800000000000000000)∧Mem.Band gi gm w w':=by
 have HO:=hide hok;have HV:=hide hv;have HM:=hide hm;have HR:=hide hr;have HT:=hide htop;clear hok hv hm hr htop;go_enter Tryz.func40,Tryz.ntmps40
 go_wp2
 go_loopw [1,5] (fun a i wr=>∃ (j K:Nat),j≤N.length∧i= .int .i64 (j:Int)∧a= .int .i64 (K:Int)∧(0<K∧K≤1+5497559187457*j)∧Hid (Left wr N gi B j∧Mem.Band gi gm w wr)) (fun _ i _=>N.length - (intOf i).toNat)
 case atStart=>exact ⟨0,1,Nat.zero_le _,rfl,rfl,by omega,⟨za HV,Mem.Band.refl _ _ _⟩⟩
 case round=>
  obtain ⟨j,K,hj,rfl,rfl,hK,HA⟩:=hrel;by_cases hlt:j<N.length
  ·obtain ⟨t,ht⟩:∃t,N[j]? =some t:=⟨_,List.getElem?_eq_getElem hlt⟩;have htl:=za HO t (List.mem_of_getElem? ht);have HS:=hide ((za HA).1.id (za HR) (.int .i64 (K:Int)));have BS:=hide ((za HA).2.trans (Mem.Band.of_set (w:=wr) ⟨gi,j*2,none⟩ (.int .i64 (K:Int)) (Nat.le_refl _) hgm));obtain ⟨cur,hb1,hb2,hb3⟩:=(za HA).1.ib;obtain ⟨cur2,hd1,hd2,hd3⟩:=(za HS).ib;have c1:=(cell_of_row (wr.setCell ⟨gi,j*2,none⟩ (.int .i64 (K:Int))) _ (j*2+1) _ _ (0,0) hd1).trans (hd3 j t ht);obtain ⟨g,h1,h2,h3⟩:=(za HS).band j t (Nat.le_refl _) ht;obtain ⟨x0,s0⟩:∃x,wr.cell? ⟨gi,j*2,none⟩=some x:=⟨_,(cell_of_row wr _ (j*2) _ _ (0,0) hb1).trans (Array.getElem?_eq_getElem (by omega))⟩;have f0:wr.frozen? ⟨gi,j*2,none⟩=false:=Mem.zb8 hb1;obtain ⟨td,ta,tc,tI⟩:=t;simp only at h1 h3 htl c1;subst h1
   have hml:=hide (WMkJ.mark_from (K+1) g (B (j+1)) tc tI (wr.setCell ⟨gi,j*2,none⟩ (.int .i64 (K:Int))) (by omega) (by omega) htl.1 htl.2 h3);have H2:=hide h2;have u1:(j:Int)<(N.length:Int):=by omega
   have u3:(0:Int)≤(j:Int):=by omega
   have eK:((K+1:Nat):Int)=(K:Int)+1:=by omega
   rw [eK] at hml;have htl1:=htl.1;clear h2 h3 ht HA hb1 hb2 hb3 hd1 hd2 hd3 eK htl;go_wp2_with fail
   refine (za hml).mono ?_;rintro e w2 ⟨⟨K2,rfl,hk1,hk2⟩,hg⟩
   have HB:Hid (Left w2 N gi B (j+1)∧Mem.Band gi gm w w2):=by
    have q1:=za HR j hlt;have q2:=za HM j N.length hlt (Nat.le_refl _);have q3:=za HT;have q4:=za H2;exact ⟨(za HS).next (za HR) (fun i hi hl=>za HM j i hi (by omega)) q4 hlt hg,(za BS).trans ⟨hg.os,hg.tape,hg.output,hg.size,fun b hb hh=>hg.block b hb (by omega)⟩⟩
   have hK3:0<K2∧K2≤1+5497559187457*(j+1):=by omega
   clear HS BS hml hg c1 s0 f0 H2 hk1 hk2 htl1 hK;go_wp2
   go_roundw
   case rel=>exact ⟨j+1,K2,by omega,by go_num,rfl,hK3,HB⟩
   case measure=>simp [intOf];omega
  ·have u1:¬ (j:Int)<(N.length:Int):=by omega
   go_wp2
   go_ret
   exact ⟨⟨K,rfl,by omega,by omega⟩,(za HA).2⟩
set_option maxRecDepth 100000 in
set_option maxHeartbeats 1000000 in
theorem yg5 (s:Pl.Sp) (gi gm gh:Nat) (B:Nat→Nat) (w:World) (hok:OkS s 1048576) (hv:HasS w s gi gm gh B):
  Calls Tryz.prog 11 #[.agg s.cs, .int .i64 1] w fun e w'=>(∃K:Nat,e= .returned (.int .i64 (K:Int))∧0<K)∧Mem.Band gi (gh+1) w w':=by
 have hr:∀i,i<s.N.length→gi<B i:=fun i hi=>by have :=hv.lo;have :=hv.mono i (by omega);omega
 have hm:∀j i,j<i→i≤s.N.length→B (j+1)≤B i:=fun j i h1 h2=>hv.rise i (j+1) (by omega) h2;have hgm:gi<gm:=by have :=hv.lo;have :=hv.mono s.N.length (Nat.le_refl _);have :=hv.top;omega
 have hmh:=hv.mh;have h1:=hide (fun cap W (b:Below w.heap.size w W)=>zo s.N gi gm cap B W hok.n (fun x hx=>⟨(hok.each x hx).1,fun t ht=>((hok.each x hx).2 t ht).1⟩) hr hm hv.top hgm (Left.start (hv.call b)));obtain ⟨c2,q1,q2⟩:=hv.mb;obtain ⟨c3,q3,q4⟩:=hv.hb;have lm:gm<w.heap.size:=(Array.getElem?_eq_some_iff.1 q1).1;have lh:gh<w.heap.size:=(Array.getElem?_eq_some_iff.1 q3).1;have h2:=hide (fun cap K W (hK:0<K) (hK2:K≤8500000000000000000) (h:W.heap[gm]? =some (.cells c2 56 (0,0)))=>WMkM.zf0 gm s.M.length cap K c2 W hok.m hK hK2 h (by omega));have h3:=hide (fun cap K W (hK:0<K) (hK2:K≤8500000000000000000) (h:W.heap[gh]? =some (.cells c3 67 (0,0)))=>WMkH.zf0 gh s.H.length cap K c3 W hok.h hK hK2 h (by omega));have QM:=hide q1;have QH:=hide q3;have ei:=hv.ia;have em:=hv.ma;have eh:=hv.ha;have lM:=hok.m;have lH:=hok.h;clear q1 q2 q3 q4 hv hok hr hm
 obtain ⟨ia,ic,N,ma,mc,M,ha,hc,H,next⟩:=s;simp only at ei em eh h1 h2 h3 lM lH;subst ei em eh;unfold Pl.Sp.cs;simp only;have b0:=(Below.refl w.heap.size w).alloc (o:= .cells #[.slice (some ⟨gi,0,none⟩) N.length ic, .slice (some ⟨gm,0,none⟩) M.length mc, .slice (some ⟨gh,0,none⟩) H.length hc, .int .i64 next] 32) (Nat.le_refl _);have V0:=hide (Mem.Blk.new w #[.slice (some ⟨gi,0,none⟩) N.length ic, .slice (some ⟨gm,0,none⟩) M.length mc, .slice (some ⟨gh,0,none⟩) H.length hc, .int .i64 next] 32);have D0:Hid (Mem.Band gi (gh+1) w (w.alloc (.cells #[.slice (some ⟨gi,0,none⟩) N.length ic, .slice (some ⟨gm,0,none⟩) M.length mc, .slice (some ⟨gh,0,none⟩) H.length hc, .int .i64 next] 32))):=hide (Mem.Band.of_below b0);have QM0:=hide ((b0.block gm lm).trans (za QM));have QH0:=hide ((b0.block gh lh).trans (za QH));have a0:=(za V0).cell 0;simp only [kGs] at a0
 clear QM QH;go_enter Tryz.func11,Tryz.ntmps11
 go_wp2_with fail
 have HC:=hide (za h1 ic _ b0);clear h1;generalize w.alloc (.cells #[.slice (some ⟨gi,0,none⟩) N.length ic, .slice (some ⟨gm,0,none⟩) M.length mc, .slice (some ⟨gh,0,none⟩) H.length hc, .int .i64 next] 32)=wA at b0 V0 D0 QM0 QH0 a0 HC ⊢;refine (za HC).mono ?_;rintro e w1 ⟨⟨K1,rfl,k1,k2⟩,bd1⟩;have hlA:gh<wA.heap.size:=(Array.getElem?_eq_some_iff.1 (za QH0)).1;have hlV:w.heap.size<wA.heap.size:=(za V0).lt;have V1:=hide (bd1.blk (za V0) (.inr (by omega)));have QM1:=hide ((bd1.block gm (by omega) (.inr (Nat.le_refl _))).trans (za QM0));have QH1:=hide ((bd1.block gh hlA (.inr (by omega))).trans (za QH0));have D1:=hide ((za D0).trans ⟨bd1.os,bd1.tape,bd1.output,bd1.size,fun b hb hh=>bd1.block b hb (by omega)⟩);have hl1:=bd1.size;clear HC bd1 V0 D0 QM0 QH0 a0 b0;have a1:=(za V1).cell 1;simp only [kGs] at a1;have HC:=hide (za h2 mc K1 w1 k1 (by omega) (za QM1));clear h2
 go_wp2_with fail
 refine (za HC).mono ?_;rintro e w2 ⟨rfl, -, -,gr⟩;have V2:=hide ((za V1).grown gr (fun e=>by have :=Option.some.inj e;omega));have QH2:=hide ((gr.block gh (by omega) (fun e=>by have :=Option.some.inj e;omega)).trans (za QH1));have D2:=hide ((za D1).trans (Mem.Band.zy7 gr (by omega) (by omega)));have hl2:=gr.size;clear HC gr V1 D1 QM1 QH1 a1;have a2:=(za V2).cell 2;simp only [kGs] at a2;have HC:=hide (za h3 hc (K1+3*M.length) w2 (by omega) (by omega) (za QH2));clear h3;go_wp2_with fail
 refine (za HC).mono ?_;rintro e w3 ⟨rfl, -, -,gr⟩;have D3:=hide ((za D2).trans (Mem.Band.zy7 gr (by omega) (by omega)));clear HC gr V2 D2 QH2 a2;go_wp2
 go_ret
 exact ⟨⟨_,rfl,by omega⟩,za D3⟩
end WMkX
end
section
open Go.RowKit
namespace WMkY
set_option linter.unusedSimpArgs false in
set_option maxRecDepth 100000 in
set_option maxHeartbeats 2000000 in
theorem zg6 (a:Option Addr) (cap:Nat) (N:List Pl.Ns) (w:World) (hn:N.length≤12) (hI:∀x∈N,x.Is.length≤12∧∀t∈x.Is,t.t.L.length≤40) (hv:Mem.zg8 w a (Pl.mkZ 1 N N.length)):
  Calls Tryz.prog 81 #[.slice a N.length cap, .int .i64 1] w fun e w'=>e= .returned (.int .i64 (Pl.kZ 1 N N.length:Int))∧Below w.heap.size w w':=by
 have HV:=hide hv;have HI:=hide hI;clear hv hI;go_enter Tryz.func81,Tryz.ntmps81
 go_wp2
 go_loopw [1,5] (fun v i wr=>∃j:Nat,j≤N.length∧i= .int .i64 (j:Int)∧v= .int .i64 (Pl.kZ 1 N j:Int)∧Below w.heap.size w wr) (fun _ i _=>N.length - (intOf i).toNat)
 case atStart=>exact ⟨0,Nat.zero_le _,rfl,rfl,Below.refl _ _⟩
 case round=>
  obtain ⟨j,hj,rfl,rfl,hbel⟩:=hrel;by_cases hlt:j<N.length
  ·obtain ⟨x,hx⟩:∃x,N[j]? =some x:=⟨_,List.getElem?_eq_getElem hlt⟩;obtain ⟨hI1,hI2⟩:=za HI x (List.mem_of_getElem? hx);have hk1:=Pl.kZ_le 1 N (za HI) j (by omega);have hk0:=Pl.kZ_ge 1 N j;have HKS:Hid (Pl.kZ 1 N (j+1)=Pl.kAt (Pl.kZ 1 N j+1) x.Is x.Is.length):=hide (Pl.kZ_succ hx);have hy2:(Pl.mkZ 1 N N.length)[j]? =some (Pl.mkN1 (Pl.kZ 1 N j) x):=by rw [Pl.zr1,hx,Option.map_some,if_pos hlt]
   obtain ⟨⟨g,o,rfl,hg,c0,c1⟩,hit⟩:=(Mem.zg0 (za HV) hbel) j _ hy2
   have hk3:∀i,i≤x.Is.length→Pl.kAt (Pl.kZ 1 N j+1) x.Is i≤100000:=fun i hi=>by
    have :=Pl.kAt_le (Pl.kZ 1 N j+1) x.Is hI2 i hi;omega
   have hkb:Pl.kZ 1 N j≤100000:=by omega
   simp only [Pl.mkN1,Pl.zz2] at c0 c1 hit;have hml:=hide (WMarkI.zg6 x.a x.cap (Pl.kZ 1 N j+1) x.Is wr (by omega) (fun t ht=>by have :=hI2 t ht;omega) (by omega) hk3 hit);have hKE:=Pl.kAt_ge (Pl.kZ 1 N j+1) x.Is x.Is.length;generalize Pl.kAt (Pl.kZ 1 N j+1) x.Is x.Is.length=KE at HKS hml hKE;generalize Pl.kZ 1 N j=KJ at hk1 hk0 HKS hml c0 hkb hKE ⊢;have eK:((KJ+1:Nat):Int)=(KJ:Int)+1:=by omega
   rw [eK] at hml;have u1:(j:Int)<(N.length:Int):=by omega
   have u3:(0:Int)≤(j:Int):=by omega
   have u4:¬ (KE:Int)<0:=by omega
   clear hk3 hx hy2 eK hI1 hI2 hk1 hit hKE;go_wp2_with fail
   refine (za hml).mono ?_;rintro e w2 ⟨rfl,b2⟩;have bN:=hbel.trans (b2.mono hbel.size);clear hml b2 c0 c1;go_wp2
   go_roundw
   case rel=>exact ⟨j+1,by omega,by go_num,by rw [za HKS],bN⟩
   case measure=>simp [intOf];omega
  ·have u1:¬ (j:Int)<(N.length:Int):=by omega
   have hje:j=N.length:=by omega
   subst hje;go_wp2
   go_ret
   exact ⟨rfl,hbel⟩
end WMkY
end
section
open Go.RowKit
namespace WMkM
set_option linter.unusedSimpArgs false in
set_option maxRecDepth 100000 in
set_option maxHeartbeats 2000000 in
theorem zg6 (a:Option Addr) (n cap K:Nat) (w:World) (hn:n≤1048576) (hK:0<K) (hK2:K≤1000000) (hv:Mem.zc4 w a (Pl.zv0 K n)):
  Calls Tryz.prog 82 #[.slice a n cap, .int .i64 (K:Int)] w fun e w'=>e= .returned (.int .i64 ((K+3*n:Nat):Int))∧Below w.heap.size w w':=by
 have HV:=hide hv;clear hv;go_enter Tryz.func82,Tryz.ntmps82
 go_wp2
 go_loopw [1,5] (fun v i wr=>∃ (k q:Nat),k≤n∧q=K+3*k∧i= .int .i64 (k:Int)∧v= .int .i64 (q:Int)∧Below w.heap.size w wr) (fun _ i _=>n - (intOf i).toNat)
 case atStart=>exact ⟨0,K,Nat.zero_le _,rfl,rfl,rfl,Below.refl _ _⟩
 case round=>
  obtain ⟨k,q,hk,hq,rfl,rfl,hbel⟩:=hrel;by_cases hlt:k<n
  ·have y1:(k:Int)<(n:Int):=by omega
   have y3:(0:Int)≤(k:Int):=by omega
   have hg0:=Pl.mkMns_get K n k hlt;simp only [Pl.mkMn,←hq] at hg0;obtain ⟨g,o,rfl,hg,c0,c1,c2⟩:=(Mem.zd9 (za HV) hbel) k _ hg0;simp only at c0 c1 c2;rw [show ((q+1:Nat):Int)=(q:Int)+1 by omega] at c1;rw [←Pl.third_is] at c2;have HM:=hide (fun W=>zs1.zf0 q W (by omega) (by omega));have HQ:=hide hq;have q1:(q:Int)≤100000000:=by omega
   clear hq hg0;have MK:Hid (∀W',Below wr.heap.size wr W'→(Below wr.heap.size wr W'∧W'.cell? ⟨g,o+k*3,none⟩=some (.string (Pl.mark q)))):=fun W' b=>⟨b,(b.cell (p:=⟨g,_,none⟩) hg).trans c0⟩;go_upto_region 4 with fail
   refine RG MK (bD _) fun hHeld=>?_;generalize wr.drew=D0 at hHeld ⊢;refine TB 0 ?_;refine TB 1 ?_;refine TB 2 ?_;refine TB 3 ?_;refine TB 4 ?_;refine TB 5 ?_;refine RN 6 fun K hK=>?_;go_simp
   refine (za HM _).mono ?_;rintro e D1 ⟨rfl,bX⟩;refine hK.out _ _ ?_ (fun hHeld=>?_)
   ·exact za MK _ (hHeld.1.trans (bX.mono hHeld.1.size))
   clear hK K bX
   try simp only [Act.put,kBs]
   refine TB 7 ?_;refine wpAnyH_done (by kernel_rfl) ?_ _;have b1:=hHeld.1;clear hHeld;have bN:=hbel.trans (b1.mono hbel.size);replace c1:=(b1.cell (p:=⟨g,_,none⟩) hg).trans c1;replace c2:=(b1.cell (p:=⟨g,_,none⟩) hg).trans c2;clear c0 MK b1;go_wp2
   go_roundw
   case rel=>exact ⟨k+1,q+3,by omega,by have :=za HQ;omega,by go_num,by go_num,bN⟩
   case measure=>simp [intOf];omega
  ·obtain rfl:k=n:=by omega
   have y1:¬ (k:Int)<(k:Int):=by omega
   have hq2:(q:Int)=((K+3*k:Nat):Int):=by omega
   have HQ:=hide hq2;clear hq hq2;go_wp2
   go_ret
   exact ⟨(by rw [za HQ];first |done|rfl),hbel⟩
end WMkM
end
section
open Go.RowKit
namespace WMkH
set_option linter.unusedSimpArgs false in
set_option maxRecDepth 100000 in
set_option maxHeartbeats 2000000 in
theorem zg6 (a:Option Addr) (n cap K:Nat) (w:World) (hn:n≤1048576) (hK:0<K) (hK2:K≤1000000) (hv:Mem.ze w a (Pl.mkHns K n)):
  Calls Tryz.prog 83 #[.slice a n cap, .int .i64 (K:Int)] w fun e w'=>e= .returned (.int .i64 ((K+3*n:Nat):Int))∧Below w.heap.size w w':=by
 have HV:=hide hv;clear hv;go_enter Tryz.func83,Tryz.ntmps83
 go_wp2
 go_loopw [1,5] (fun v i wr=>∃ (k q:Nat),k≤n∧q=K+3*k∧i= .int .i64 (k:Int)∧v= .int .i64 (q:Int)∧Below w.heap.size w wr) (fun _ i _=>n - (intOf i).toNat)
 case atStart=>exact ⟨0,K,Nat.zero_le _,rfl,rfl,rfl,Below.refl _ _⟩
 case round=>
  obtain ⟨k,q,hk,hq,rfl,rfl,hbel⟩:=hrel;by_cases hlt:k<n
  ·have y1:(k:Int)<(n:Int):=by omega
   have y3:(0:Int)≤(k:Int):=by omega
   have hg0:=Pl.mkHns_get K n k hlt;simp only [Pl.mkHn,←hq] at hg0;obtain ⟨g,o,rfl,hg,c0,c1,c2⟩:=(Mem.zf2 (za HV) hbel) k _ hg0;simp only at c0 c1 c2;rw [show ((q+1:Nat):Int)=(q:Int)+1 by omega] at c1;have HM:=hide (fun W=>zs1.zf0 (q+2) W (by omega) (by omega));rw [show ((q+2:Nat):Int)=(q:Int)+1+1 by omega] at HM;have HQ:=hide hq;have q1:(q:Int)≤100000000:=by omega
   clear hq hg0;have MK:Hid (∀W',Below wr.heap.size wr W'→(Below wr.heap.size wr W'∧W'.cell? ⟨g,o+k*3+2,none⟩=some (.string (Pl.mark (q+2))))):=fun W' b=>⟨b,(b.cell (p:=⟨g,_,none⟩) hg).trans c2⟩;go_upto_region 10 with fail
   refine RG MK (bD _) fun hHeld=>?_;generalize wr.drew=D0 at hHeld ⊢;refine TB 0 ?_;refine TB 1 ?_;refine TB 2 ?_;refine TB 3 ?_;refine TB 4 ?_;refine TB 5 ?_;refine RN 6 fun K hK=>?_;go_simp
   refine (za HM _).mono ?_;rintro e D1 ⟨rfl,bX⟩;refine hK.out _ _ ?_ (fun hHeld=>?_)
   ·exact za MK _ (hHeld.1.trans (bX.mono hHeld.1.size))
   clear hK K bX
   try simp only [Act.put,kBs]
   refine TB 7 ?_;refine wpAnyH_done (by kernel_rfl) ?_ _;have b1:=hHeld.1;clear hHeld;have bN:=hbel.trans (b1.mono hbel.size);clear c0 c1 c2 MK b1;go_wp2
   go_roundw
   case rel=>exact ⟨k+1,q+3,by omega,by have :=za HQ;omega,by go_num,by go_num,bN⟩
   case measure=>simp [intOf];omega
  ·obtain rfl:k=n:=by omega
   have y1:¬ (k:Int)<(k:Int):=by omega
   have hq2:(q:Int)=((K+3*k:Nat):Int):=by omega
   have HQ:=hide hq2;clear hq hq2;go_wp2
   go_ret
   exact ⟨(by rw [za HQ];first |done|rfl),hbel⟩
end WMkH
end
section
set_option linter.unusedSimpArgs false
open Go.RowKit
namespace WSpO
def kF (u:Pl.Sp):Nat:=Pl.kZ 1 u.N u.N.length+3*u.M.length+3*u.H.length
theorem kZ_small {u:Pl.Sp} (hs:Sm u):Pl.kZ 1 u.N u.N.length≤50000∧0<Pl.kZ 1 u.N u.N.length:=by
 have h1:=Pl.kZ_le 1 u.N (fun x hx=>⟨(hs.i x hx).1,(hs.i x hx).2.2⟩) _ (Nat.le_refl _);have h2:=Pl.kZ_ge 1 u.N u.N.length;have :=hs.n;omega
set_option maxRecDepth 100000 in
set_option maxHeartbeats 1000000 in
theorem markSp_any (u:Pl.Sp) (S1 S2 S3 HH:Nat) (lo hi:Nat→Nat) (w:World) (hs:Sm u) (h:An w u S1 S2 S3 HH lo hi):
  Calls Tryz.prog 11 #[.agg u.cs, .int .i64 1] w fun e w'=>e= .returned (.int .i64 (kF u:Int))∧Mk8 w' u∧Mem.Band S1 HH w w':=by
 obtain ⟨hk1,hk0⟩:=kZ_small hs;have c1:=hide (fun W (b:Below w.heap.size w W)=>marksZ u S1 S2 S3 HH lo hi W hs (h.call b));have c2:=hide (fun W K h0 h1 (o:Mem.own3 56 Pl.Mn.cs W S2 (.slice u.ma u.M.length u.mc) u.M)=>marksM u.M u.ma u.mc S2 K W h0 h1 hs.m o);have c3:=hide (fun W K h0 h1 (o:Mem.own3 67 Pl.Hn.cs W S3 (.slice u.ha u.H.length u.hc) u.H)=>marksH u.H u.ha u.hc S3 K W h0 h1 hs.h o);have HA:=hide h;have hM:=hs.m;have hH:=hs.h;have hq2:=h.s2;have hq3:=h.s3;have hq4:=h.s4;have hq5:=h.s5;have HKF:Hid (kF u=Pl.kZ 1 u.N u.N.length+3*u.M.length+3*u.H.length):=hide rfl;unfold Pl.Sp.cs;have b0:=(Below.refl w.heap.size w).alloc (o:= .cells #[.slice u.ia u.N.length u.ic, .slice u.ma u.M.length u.mc, .slice u.ha u.H.length u.hc, .int .i64 u.next] 32) (Nat.le_refl _)
 have V0:=hide (Mem.Blk.new w #[.slice u.ia u.N.length u.ic, .slice u.ma u.M.length u.mc, .slice u.ha u.H.length u.hc, .int .i64 u.next] 32);have a0:=(za V0).cell 0;simp only [kGs] at a0;clear hs h;go_enter Tryz.func11,Tryz.ntmps11
 go_wp2_with fail
 have HC:=hide (za c1 _ b0);have HA1:=hide ((za HA).call b0);have D0:Hid (Mem.Band S1 HH w (w.alloc (.cells #[.slice u.ia u.N.length u.ic, .slice u.ma u.M.length u.mc, .slice u.ha u.H.length u.hc, .int .i64 u.next] 32))):=hide (Mem.Band.of_below b0);clear c1 HA;generalize w.alloc (.cells #[.slice u.ia u.N.length u.ic, .slice u.ma u.M.length u.mc, .slice u.ha u.H.length u.hc, .int .i64 u.next] 32)=wA at b0 V0 a0 HC HA1 D0 ⊢;refine (za HC).mono ?_;rintro e w1 ⟨rfl,mz,bd⟩;have hlV:w.heap.size<wA.heap.size:=(za V0).lt;have V1:=hide (bd.blk (za V0) (.inr (by omega)));have MZ1:=hide mz;have om1:=Mem.ze6 (za HA1).om (fun g hg=>bd.block g (Mem.zb (za HA1).om g hg).2 (.inr (Mem.zb (za HA1).om g hg).1));have oh1:=Mem.ze6 (za HA1).oh (fun g hg=>bd.block g (Mem.zb (za HA1).oh g hg).2 (.inr (by have :=(Mem.zb (za HA1).oh g hg).1;omega)))
 have D1:=hide ((za D0).trans ⟨bd.os,bd.tape,bd.output,bd.size,fun b hb hh=>bd.block b hb (by omega)⟩);have OH1:=hide oh1;have OM1:=hide om1;have R1:=hide (za HA1).r1;have H1:=hide (za HA1).h1;have R2:=hide (za HA1).r2;have R3:=hide (za HA1).r3;have hl1:=bd.size;clear HC mz bd om1 oh1 HA1 V0 D0 a0 b0;have a1:=(za V1).cell 1;simp only [kGs] at a1;have HC:=hide (za c2 w1 (Pl.kZ 1 u.N u.N.length) hk0 (by omega) (za OM1));generalize hKe:Pl.kZ 1 u.N u.N.length=K1 at HC HKF hk0 hk1 ⊢;have HKE:=hide hKe;clear c2 hKe;go_wp2_with fail
 refine (za HC).mono ?_;rintro e w2 ⟨rfl,hm2,gr⟩;have V2:=hide ((za V1).grown gr (fun e=>by have :=za R2 _ e.symm;omega));have hlo2:=fun g hg=>(Mem.zb (za OM1) g hg).1;have MZ2:=hide (Mz_up (za MZ1) gr hlo2 (za R1) (za H1));have OH2:=hide (show Mem.own3 67 Pl.Hn.cs w2 S3 (.slice u.ha u.H.length u.hc) u.H from Mem.ze6 (za OH1) (fun g hg=>gr.block g (Mem.zb (za OH1) g hg).2 (fun e=>by have :=(Mem.zb (za OH1) g hg).1;have :=za R2 g e.symm;omega)));have D2:=hide ((za D1).trans ⟨gr.os,gr.tape,gr.output,gr.size,fun b hb hh=>gr.block b hb (fun e=>by have h1:=hlo2 b e.symm;have h2:=za R2 b e.symm;omega)⟩);have HM2:=hide hm2;have HR2:=hide hlo2;have hl2:=gr.size;clear HC hm2 gr MZ1 OM1 OH1 V1 D1 a1 hlo2;have a2:=(za V2).cell 2;simp only [kGs] at a2;have HC:=hide (za c3 w2 (K1+3*u.M.length) (by omega) (by omega) (za OH2));have hMK:=za HM2;clear c3;go_wp2_with fail
 refine (za HC).mono ?_;rintro e w3 ⟨rfl,hh3,gr⟩;have hlo3:=fun g hg=>(Mem.zb (za OH2) g hg).1;have MZ3:=hide (Mz_up (za MZ2) gr (fun g hg=>by have :=hlo3 g hg;omega) (za R1) (za H1));have D3:=hide ((za D2).trans ⟨gr.os,gr.tape,gr.output,gr.size,fun b hb hh=>gr.block b hb (fun e=>by have h1:=hlo3 b e.symm;have h2:=za R3 b e.symm;omega)⟩)
 have HM3:Hid (Mem.zc4 w3 u.ma (Pl.zv0 K1 u.M.length)):=hide (fun i x hx=>by
  obtain ⟨b,o,e1,e2,e3,e4,e5⟩:=hMK i x hx
  have hne:some b≠(Value.slice u.ha u.H.length u.hc).ownBlock:=fun e=>by
   have h3:=hlo3 b e.symm;have h4:=za R2 b (by rw [e1];rfl);omega
  exact ⟨b,o,e1,Nat.lt_of_lt_of_le e2 gr.size,gr.cell e3 hne,gr.cell e4 hne,gr.cell e5 hne⟩)
 have HH3:=hide hh3;clear HC hh3 gr MZ2 OH2 V2 D2 a2 hMK HM2 hlo3;go_wp2
 go_ret
 refine ⟨?_,⟨(za MZ3).zi9,?_,?_⟩,za D3⟩
 ·rw [za HKF];exact congrArg (fun x=>Ending.returned (Value.int .i64 x)) (by omega)
 ·rw [za HKE];exact za HM3
 ·rw [za HKE];exact za HH3
set_option maxRecDepth 100000 in
set_option maxHeartbeats 1000000 in
theorem heldSp_any (u:Pl.Sp) (w:World) (hs:Sm u) (h:Mk8 w u):
  Calls Tryz.prog 43 #[.agg u.cs, .int .i64 1] w fun e w'=>e= .returned (.int .i64 (kF u:Int))∧Below w.heap.size w w':=by
 obtain ⟨hk1,hk0⟩:=kZ_small hs;have hM:=hs.m;have hH:=hs.h;have c1:=hide (fun W (b:Below w.heap.size w W)=>WMkY.zg6 u.ia u.ic u.N W hs.n (fun x hx=>⟨(hs.i x hx).1,(hs.i x hx).2.2⟩) (h.call b).i);have c2:=hide (fun W (b:Below w.heap.size w W)=>WMkM.zg6 u.ma u.M.length u.mc (Pl.kZ 1 u.N u.N.length) W (by omega) hk0 (by omega) (h.call b).m);have c3:=hide (fun W (b:Below w.heap.size w W)=>WMkH.zg6 u.ha u.H.length u.hc (Pl.kZ 1 u.N u.N.length+3*u.M.length) W (by omega) (by omega) (by omega) (h.call b).h);have HKF:Hid (kF u=Pl.kZ 1 u.N u.N.length+3*u.M.length+3*u.H.length):=hide rfl;generalize kF u=KF at HKF ⊢;generalize Pl.kZ 1 u.N u.N.length=K1 at c1 c2 c3 HKF hk0 hk1;clear hs h;unfold Pl.Sp.cs;have b0:=(Below.refl w.heap.size w).alloc (o:= .cells #[.slice u.ia u.N.length u.ic, .slice u.ma u.M.length u.mc, .slice u.ha u.H.length u.hc, .int .i64 u.next] 32) (Nat.le_refl _)
 have V0:=hide (Mem.Blk.new w #[.slice u.ia u.N.length u.ic, .slice u.ma u.M.length u.mc, .slice u.ha u.H.length u.hc, .int .i64 u.next] 32);have a0:=(za V0).cell 0;simp only [kGs] at a0;go_enter Tryz.func43,Tryz.ntmps43
 go_wp2_with fail
 generalize w.alloc (.cells #[.slice u.ia u.N.length u.ic, .slice u.ma u.M.length u.mc, .slice u.ha u.H.length u.hc, .int .i64 u.next] 32)=wA at b0 V0 a0 ⊢;refine (za c1 _ b0).mono ?_;rintro e w1 ⟨rfl,bX⟩;have b1:=b0.trans (bX.mono b0.size);have V1:=hide ((za V0).call bX);have n1:¬ (K1:Int)<0:=by omega
 clear c1 bX V0 b0 a0;have a1:=(za V1).cell 1;simp only [kGs] at a1;go_wp2_with fail
 refine (za c2 _ b1).mono ?_;rintro e w2 ⟨rfl,bX⟩;have b2:=b1.trans (bX.mono b1.size);have V2:=hide ((za V1).call bX);have n2:¬ ((K1+3*u.M.length:Nat):Int)<0:=by omega
 clear c2 bX V1 b1 a1;have a2:=(za V2).cell 2;simp only [kGs] at a2;generalize K1+3*u.M.length=K2 at c3 n2 HKF ⊢;go_wp2_with fail
 refine (za c3 _ b2).mono ?_;rintro e w3 ⟨rfl,bX⟩;have b3:=b2.trans (bX.mono b2.size);have n3:¬ ((K2+3*u.H.length:Nat):Int)<0:=by omega
 clear c3 bX V2 b2 a2;generalize K2+3*u.H.length=K3 at n3 HKF ⊢;go_wp2
 go_ret
 exact ⟨(by rw [za HKF];first |done|rfl),b3⟩
set_option maxRecDepth 100000 in
set_option maxHeartbeats 1000000 in
theorem zf0 (u:Pl.Sp) (d:Int) (p:ByteArray) (c:Int) (S1 S2 S3 HH:Nat) (lo hi:Nat→Nat) (w:World) (hs:Sm u) (h:An w u S1 S2 S3 HH lo hi):
  Calls Tryz.prog 12 #[.agg (so u d p c), .int .i64 1] w fun e w'=>e= .returned (.int .i64 (kF u:Int))∧Mk8 w' u∧Mem.Band S1 HH w w':=by
 have HC:=hide (fun W (b:Below w.heap.size w W)=>markSp_any u S1 S2 S3 HH lo hi W hs (h.call b));clear hs h;unfold so;unfold Pl.Sp.cs at HC;generalize kF u=KF at HC ⊢;have b0:=(Below.refl w.heap.size w).alloc (o:= .cells #[.slice u.ia u.N.length u.ic, .slice u.ma u.M.length u.mc, .slice u.ha u.H.length u.hc, .int .i64 u.next, .int .i64 d, .string p, .int .i64 c] 34) (Nat.le_refl _);have V0:=hide (Mem.Blk.new w #[.slice u.ia u.N.length u.ic, .slice u.ma u.M.length u.mc, .slice u.ha u.H.length u.hc, .int .i64 u.next, .int .i64 d, .string p, .int .i64 c] 34);obtain ⟨a0,a1,a2,a3⟩:=jc4 (za V0);go_enter Tryz.func12,Tryz.ntmps12
 go_wp2_with fail
 generalize w.alloc (.cells #[.slice u.ia u.N.length u.ic, .slice u.ma u.M.length u.mc, .slice u.ha u.H.length u.hc, .int .i64 u.next, .int .i64 d, .string p, .int .i64 c] 34)=wA at b0 V0 a0 a1 a2 a3 ⊢;refine (za HC _ b0).mono ?_;rintro e w1 ⟨rfl,hm,bd⟩;have HM:=hide hm;have HB:=hide ((Mem.Band.of_below b0:Mem.Band S1 HH w wA).trans bd);clear HC hm bd b0 V0 a0 a1 a2 a3;go_wp2
 go_ret
 exact ⟨rfl,za HM,za HB⟩
set_option maxRecDepth 100000 in
set_option maxHeartbeats 1000000 in
theorem zg6 (u:Pl.Sp) (d:Int) (p:ByteArray) (c:Int) (w:World) (hs:Sm u) (h:Mk8 w u):
  Calls Tryz.prog 13 #[.agg (so u d p c), .int .i64 1] w fun e w'=>e= .returned (.int .i64 (kF u:Int))∧Below w.heap.size w w':=by
 have HC:=hide (fun W (b:Below w.heap.size w W)=>heldSp_any u W hs (h.call b));clear hs h;unfold so;unfold Pl.Sp.cs at HC;generalize kF u=KF at HC ⊢;have b0:=(Below.refl w.heap.size w).alloc (o:= .cells #[.slice u.ia u.N.length u.ic, .slice u.ma u.M.length u.mc, .slice u.ha u.H.length u.hc, .int .i64 u.next, .int .i64 d, .string p, .int .i64 c] 34) (Nat.le_refl _);have V0:=hide (Mem.Blk.new w #[.slice u.ia u.N.length u.ic, .slice u.ma u.M.length u.mc, .slice u.ha u.H.length u.hc, .int .i64 u.next, .int .i64 d, .string p, .int .i64 c] 34);obtain ⟨a0,a1,a2,a3⟩:=jc4 (za V0);have hk:¬ (KF:Int)<0:=by omega
 go_enter Tryz.func13,Tryz.ntmps13
 go_wp2_with fail
 generalize w.alloc (.cells #[.slice u.ia u.N.length u.ic, .slice u.ma u.M.length u.mc, .slice u.ha u.H.length u.hc, .int .i64 u.next, .int .i64 d, .string p, .int .i64 c] 34)=wA at b0 V0 a0 a1 a2 a3 ⊢;refine (za HC _ b0).mono ?_;rintro e w1 ⟨rfl,bX⟩;have b1:=b0.trans (bX.mono b0.size);clear HC bX b0 V0 a0 a1 a2 a3;go_wp2
 go_ret
 exact ⟨rfl,b1⟩
end WSpO
end
section
open Go.RowKit
namespace zm7
def Ok (n:Pl.Nd):Prop:=n.path.size≤maxLen∧n.data.size≤maxLen∧(-9223372036854775808≤n.kind∧n.kind≤9223372036854775807)∧(-9223372036854775808≤n.time∧n.time≤9223372036854775807)∧(-9223372036854775808≤n.mark∧n.mark≤9223372036854775807)
end zm7
end
section
open Go.RowKit
namespace zt6
structure OkI (w:World) (a:Option Addr) (Is:List Pl.It):Prop where
 len:Is.length≤maxLen
 items:Mem.zb3 w a Is
 ok:∀x∈Is,x.t.L.length≤maxLen∧∀n∈x.t.L,zm7.Ok n
end zt6
end
section
open Go.ChangeShapes Go.WideShapes Go.ChangeAt Go.RowKit
namespace zm7
theorem five {α:Type} {l:List α} (h:l.length=5):∃a b c d e,l=[a,b,c,d,e]:=by
 match l,h with
 | [a,b,c,d,e],_=>exact ⟨a,b,c,d,e,rfl⟩
theorem cells5:Tryz.prog.cellsOf 223=5:=by kernel_rfl
theorem cellsS:Tryz.prog.cellsOf 9=1:=by kernel_rfl
theorem zc3:Tryz.prog.cellsOf 2=1:=by kernel_rfl
set_option maxRecDepth 100000 in
theorem node {H:Type} {enc:TypeId × Value→H} {w:World} {base fuel:Nat} {spare:Nat→Bool} {held:Bool} {cs:List Value} {x:DataW H × List MemPlace}
  (h:DataW.trod enc Tryz.prog w base spare held fuel 223 cs=some x):∃n:Pl.Nd,cs=n.cells∧Ok n:=by
 obtain ⟨xs,m,rfl, -,hlen,hxl,hf⟩:=DataW.trod_struct Tryz.underlying223 h;obtain ⟨c0,c1,c2,c3,c4,rfl⟩:=five (hlen.trans cells5);obtain ⟨y0,y1,y2,y3,y4,rfl⟩:=five hxl;have h0:=hf 0 _ rfl;have h1:=hf 1 _ rfl;have h2:=hf 2 _ rfl;have h3:=hf 3 _ rfl;have h4:=hf 4 _ rfl
 change DataW.trod enc Tryz.prog w base spare held m 9 (([c0,c1,c2,c3,c4].drop 0).take (Tryz.prog.cellsOf 9))=some y0 at h0
 rw [cellsS] at h0
 change DataW.trod enc Tryz.prog w base spare held m 2 (([c0,c1,c2,c3,c4].drop 1).take (Tryz.prog.cellsOf 2))=some y1 at h1
 rw [zc3] at h1
 change DataW.trod enc Tryz.prog w base spare held m 9 (([c0,c1,c2,c3,c4].drop 2).take (Tryz.prog.cellsOf 9))=some y2 at h2
 rw [cellsS] at h2
 change DataW.trod enc Tryz.prog w base spare held m 2 (([c0,c1,c2,c3,c4].drop 3).take (Tryz.prog.cellsOf 2))=some y3 at h3
 rw [zc3] at h3
 change DataW.trod enc Tryz.prog w base spare held m 2 (([c0,c1,c2,c3,c4].drop 4).take (Tryz.prog.cellsOf 2))=some y4 at h4
 rw [zc3] at h4;obtain ⟨p,e0, -,wp⟩:=DataW.trod_string Tryz.underlying9 h0;obtain ⟨k,e1, -,wk⟩:=DataW.trod_int Tryz.underlying2 h1;obtain ⟨d,e2, -,wd⟩:=DataW.trod_string Tryz.underlying9 h2;obtain ⟨t,e3, -,wt⟩:=DataW.trod_int Tryz.underlying2 h3;obtain ⟨q,e4, -,wq⟩:=DataW.trod_int Tryz.underlying2 h4;simp at e0 e1 e2 e3 e4
 subst e0 e1 e2 e3 e4;exact ⟨⟨p,k,d,t,q⟩,rfl,wp,wd,zw6 wk,zw6 wt,zw6 wq⟩
end zm7
end
section
open Go.ChangeShapes Go.WideShapes Go.ChangeAt Go.RowKit
namespace zt0
theorem cells1:Tryz.prog.cellsOf 92=1:=by kernel_rfl
theorem cellsL:Tryz.prog.cellsOf 90=1:=by kernel_rfl
structure OkT (w:World) (a:Option Addr) (L:List Pl.Nd):Prop where
 len:L.length≤maxLen
 nodes:Mem.zb1 w a L
 ok:∀n∈L,zm7.Ok n
theorem one {α:Type} {l:List α} (h:l.length=1):∃a,l=[a]:=by
 match l,h with
 | [a],_=>exact ⟨a,rfl⟩
theorem mapM5 {f:Nat→Option Value} {c0 c1 c2 c3 c4:Value} (h:(List.range 5).mapM f=some [c0,c1,c2,c3,c4]):f 0=some c0∧f 1=some c1∧f 2=some c2∧f 3=some c3∧f 4=some c4:=by
 have e:List.range 5=[0,1,2,3,4]:=rfl;rw [e] at h;simp only [List.mapM_cons,List.mapM_nil,Option.pure_def,Option.bind_eq_bind] at h;cases h0:f 0 with
 |none=>rw [h0] at h;simp at h
 |some a0=>
  cases h1:f 1 with
  |none=>rw [h0,h1] at h;simp at h
  |some a1=>
   cases h2:f 2 with
   |none=>rw [h0,h1,h2] at h;simp at h
   |some a2=>
    cases h3:f 3 with
    |none=>rw [h0,h1,h2,h3] at h;simp at h
    |some a3=>
     cases h4:f 4 with
     |none=>rw [h0,h1,h2,h3,h4] at h;simp at h
     |some a4=>
      rw [h0,h1,h2,h3,h4] at h;simp at h
      obtain ⟨rfl,rfl,rfl,rfl,rfl⟩:=h;exact ⟨rfl,rfl,rfl,rfl,rfl⟩
end zt0
end
section
open Go.ChangeShapes Go.WideShapes Go.ChangeAt Go.RowKit
namespace zt6
theorem cells2:Tryz.prog.cellsOf 94=2:=by kernel_rfl
theorem zc3:Tryz.prog.cellsOf 2=1:=by kernel_rfl
theorem two {α:Type} {l:List α} (h:l.length=2):∃a b,l=[a,b]:=by
 match l,h with
 | [a,b],_=>exact ⟨a,b,rfl⟩
set_option maxRecDepth 100000 in
theorem tree {H:Type} {enc:TypeId × Value→H} {w:World} {base fuel:Nat} {spare:Nat→Bool} {held:Bool} {cs:List Value} {x:DataW H × List MemPlace}
  (hf:DataW.trod enc Tryz.prog w base spare held fuel 92 cs=some x):∃t:Pl.Tr,cs=[t.val]∧zt0.OkT w t.a t.L:=by
 obtain ⟨xs,m,rfl, -,hlen,hxl,hfl⟩:=DataW.trod_struct Tryz.underlying92 hf;obtain ⟨c,rfl⟩:=zt0.one (hlen.trans zt0.cells1);obtain ⟨y,rfl⟩:=zt0.one hxl;have h0:=hfl 0 _ rfl
 change DataW.trod enc Tryz.prog w base spare held m 90 (([c].drop 0).take (Tryz.prog.cellsOf 90))=some y at h0
 rw [zt0.cellsL] at h0
 rcases DataW.trod_slice Tryz.underlying90 h0 with ⟨e, -⟩|⟨a,len,cap,elems,rest,k, -,e, -,hb,hl,hm,hel,hE, -, -⟩
 ·simp at e
  subst e;exact ⟨⟨none,0,[]⟩,rfl,⟨Nat.zero_le _,Mem.yg8 _ _,fun n hn=>by cases hn⟩⟩
 ·simp at e
  subst e
  have each:∀i,i<len→∃n:Pl.Nd,zm7.Ok n∧(∃b o,some a=some ⟨b,o,none⟩∧b<w.heap.size∧
    w.cell? ⟨b,o+i*5,none⟩=some (.string n.path)∧w.cell? ⟨b,o+i*5+1,none⟩=some (.int .i64 n.kind)∧w.cell? ⟨b,o+i*5+2,none⟩=some (.string n.data)∧
    w.cell? ⟨b,o+i*5+3,none⟩=some (.int .i64 n.time)∧w.cell? ⟨b,o+i*5+4,none⟩=some (.int .i64 n.mark)):=by
   intro i hi;have h1:=hE i hi;rw [List.getElem?_eq_getElem (by omega),zm7.cells5] at h1;simp only [Option.bind_eq_some_iff] at h1;obtain ⟨ds,h2,h3⟩:=h1;obtain ⟨n,rfl,ok⟩:=zm7.node h3;unfold World.cells? at h2
   split at h2
   rotate_left
   ·cases h2
   obtain ⟨g0,g1,g2,g3,g4⟩:=zt0.mapM5 h2;obtain ⟨b,o,spot⟩:=a
   have hspot:spot=none:=by
    have h1:=hE 0 (by omega);rw [List.getElem?_eq_getElem (by omega),zm7.cells5] at h1;simp only [Option.bind_eq_some_iff] at h1;obtain ⟨ds,h2,h3⟩:=h1;obtain ⟨n,rfl,ok⟩:=zm7.node h3;unfold World.cells? at h2
    split at h2
    rotate_left
    ·cases h2
    simpa [Addr.add] using World.cell?_spot (zt0.mapM5 h2).1
   subst hspot;have add:∀j,((⟨b,o,none⟩:Addr).add (i*5)).add j=⟨b,o+i*5+j,none⟩:=fun j=>by rw [Mem.zx8,Mem.zx8]
   rw [add] at g0 g1 g2 g3 g4;exact ⟨n,ok,b,o,rfl,World.block_lt_of_cell? w ⟨b,o+i*5+0,none⟩ g0,g0,g1,g2,g3,g4⟩
  refine ⟨⟨some a,cap,List.ofFn (fun i:Fin len=>Classical.choose (each i i.2))⟩,by simp [Pl.Tr.val],⟨by simp;omega,fun i n hn=>?_,fun n hn=>?_⟩⟩
  ·rw [List.getElem?_ofFn] at hn
   split at hn
   ·cases hn;exact (Classical.choose_spec (each i (by assumption))).2
   ·cases hn
  ·obtain ⟨i,rfl⟩:=List.mem_ofFn.1 hn;exact (Classical.choose_spec (each i i.2)).1
set_option maxRecDepth 100000 in
theorem item {H:Type} {enc:TypeId × Value→H} {w:World} {base fuel:Nat} {spare:Nat→Bool} {held:Bool} {cs:List Value} {x:DataW H × List MemPlace}
  (hf:DataW.trod enc Tryz.prog w base spare held fuel 94 cs=some x):∃y:Pl.It,cs=[.int .i64 y.m,y.t.val]∧zt0.OkT w y.t.a y.t.L:=by
 obtain ⟨xs,m,rfl, -,hlen,hxl,hfl⟩:=DataW.trod_struct Tryz.underlying94 hf;obtain ⟨c,d,rfl⟩:=two (hlen.trans cells2);obtain ⟨y,z,rfl⟩:=two hxl;have h0:=hfl 0 _ rfl;have h1:=hfl 1 _ rfl
 change DataW.trod enc Tryz.prog w base spare held m 2 (([c,d].drop 0).take (Tryz.prog.cellsOf 2))=some y at h0
 change DataW.trod enc Tryz.prog w base spare held m 92 (([c,d].drop 1).take (Tryz.prog.cellsOf 92))=some z at h1
 rw [zc3] at h0;rw [zt0.cells1] at h1;obtain ⟨t,e,ok⟩:=tree h1;obtain ⟨n,e0, -, -⟩:=DataW.trod_int Tryz.underlying2 h0;simp at e e0
 subst e e0;exact ⟨⟨n,t⟩,rfl,ok⟩
end zt6
end
section
open Go.ChangeShapes Go.WideShapes Go.ChangeAt Go.RowKit
namespace OpenSp
theorem rows {α:Type} {H:Type} {enc:TypeId × Value→H} {w:World} {base fuel:Nat} {spare:Nat→Bool} {held:Bool} {T E:TypeId} {c:Nat} (hu:Tryz.prog.underlying T=some (.slice E)) (hc:Tryz.prog.cellsOf E=c) (hc0:0<c) (cs:α→List Value) (R:α→Prop)
  (hone:∀ (m:Nat) (ds:List Value) (y:DataW H × List MemPlace),DataW.trod enc Tryz.prog w base spare held m E ds=some y→∃t:α,ds=cs t∧R t)
  {v:Value} {x:DataW H × List MemPlace} (h:DataW.trod enc Tryz.prog w base spare held fuel T [v]=some x):
  ∃ (a:Option Addr) (L:List α) (cap:Nat),v= .slice a L.length cap∧L.length≤maxLen∧(∀ (i:Nat) t,L[i]? =some t→∃b o,a=some ⟨b,o,none⟩∧b<w.heap.size∧∀j u,(cs t)[j]? =some u→w.cell? ⟨b,o+i*c+j,none⟩=some u)∧∀t∈L,R t:=by
 rcases DataW.trod_slice hu h with ⟨e, -⟩|⟨a,len,cap,elems,rest,k, -,e, -,hb,hl,hm,hel,hE, -, -⟩
 ·obtain rfl:v= .slice none 0 0:=by simpa using e
  exact ⟨none,[],0,rfl,Nat.zero_le _,fun i t hi=>by simp at hi,fun t ht=>by cases ht⟩
 ·obtain rfl:v= .slice (some a) len cap:=by simpa using e
  have hsp:0<len→a.spot=none:=by
   intro h0;have h1:=hE 0 h0;rw [List.getElem?_eq_getElem (by omega),hc] at h1;simp only [Option.bind_eq_some_iff] at h1;obtain ⟨ds,h2, -⟩:=h1;unfold World.cells? at h2
   split at h2
   rotate_left
   ·cases h2
   have hlen:=mapM_some_length h2;rw [List.length_range] at hlen;have hg:=mapM_some_get h2 0 0 (by rw [List.getElem?_range hc0]);rw [List.getElem?_eq_getElem (by omega)] at hg
   simpa [Addr.add] using World.cell?_spot hg
  have each:∀i,i<len→∃t:α,R t∧∃b o,some a=some (⟨b,o,none⟩:Addr)∧b<w.heap.size∧∀j u,(cs t)[j]? =some u→w.cell? ⟨b,o+i*c+j,none⟩=some u:=by
   intro i hi;have h1:=hE i hi;rw [List.getElem?_eq_getElem (by omega),hc] at h1;simp only [Option.bind_eq_some_iff] at h1;obtain ⟨ds,h2,h3⟩:=h1;obtain ⟨t,rfl,ok⟩:=hone _ _ _ h3;unfold World.cells? at h2
   split at h2
   rotate_left
   ·cases h2
   have hlen:=mapM_some_length h2;rw [List.length_range] at hlen;have hget:∀j,j<c→w.cell? ((a.add (i*c)).add j)=(cs t)[j]?:=fun j hj=>mapM_some_get h2 j j (by rw [List.getElem?_range hj]);obtain ⟨b,o,spot⟩:=a;have g0:w.cell? (((⟨b,o,spot⟩:Addr).add (i*c)).add 0)=some ((cs t)[0]'(by omega)):=by rw [hget 0 hc0];exact List.getElem?_eq_getElem (by omega)
   have hspot:spot=none:=hsp (by omega);subst hspot;have add:∀j,((⟨b,o,none⟩:Addr).add (i*c)).add j=⟨b,o+i*c+j,none⟩:=fun j=>by rw [Mem.zx8,Mem.zx8]
   rw [add] at g0;refine ⟨t,ok,b,o,rfl,World.block_lt_of_cell? w ⟨b,o+i*c+0,none⟩ g0,fun j u hj=>?_⟩;have hjl:=(List.getElem?_eq_some_iff.1 hj).1;rw [←add,hget j (by omega)];exact hj
  refine ⟨some a,List.ofFn (fun i:Fin len=>Classical.choose (each i i.2)),cap,by simp,by simp;omega,fun i t ht=>?_,fun t ht=>?_⟩
  ·rw [List.getElem?_ofFn] at ht
   split at ht
   ·cases ht
    exact (Classical.choose_spec (each i (by assumption))).2
   ·cases ht
  ·obtain ⟨i,rfl⟩:=List.mem_ofFn.1 ht;exact (Classical.choose_spec (each i i.2)).1
theorem cellsB:Tryz.prog.cellsOf 4=1:=by kernel_rfl
theorem zd6:Tryz.prog.cellsOf 123=2:=by kernel_rfl
theorem cellsM:Tryz.prog.cellsOf 125=3:=by kernel_rfl
theorem cellsH:Tryz.prog.cellsOf 127=3:=by kernel_rfl
theorem cellsP:Tryz.prog.cellsOf 26=4:=by kernel_rfl
theorem cellsNs:Tryz.prog.cellsOf 22=1:=by kernel_rfl
theorem cellsMs:Tryz.prog.cellsOf 23=1:=by kernel_rfl
theorem cellsHs:Tryz.prog.cellsOf 24=1:=by kernel_rfl
theorem cellsIs:Tryz.prog.cellsOf 42=1:=by kernel_rfl
theorem three {α:Type} {l:List α} (h:l.length=3):∃a b c,l=[a,b,c]:=by
 match l,h with
 | [a,b,c],_=>exact ⟨a,b,c,rfl⟩
theorem four {α:Type} {l:List α} (h:l.length=4):∃a b c d,l=[a,b,c,d]:=by
 match l,h with
 | [a,b,c,d],_=>exact ⟨a,b,c,d,rfl⟩
section
variable {H:Type} {enc:TypeId × Value→H} {w:World} {base fuel:Nat} {spare:Nat→Bool} {held:Bool}
set_option maxRecDepth 100000 in
theorem items {v:Value} {x:DataW H × List MemPlace} (h:DataW.trod enc Tryz.prog w base spare held fuel 42 [v]=some x):∃ (a:Option Addr) (Is:List Pl.It) (cap:Nat),v= .slice a Is.length cap∧zt6.OkI w a Is:=by
 obtain ⟨a,L,cap,e,hl,hr,hR⟩:=rows (α:=Pl.It) Tryz.underlying42 zt6.cells2 (by omega) (fun y=>[.int .i64 y.m,y.t.val]) (fun y=>zt0.OkT w y.t.a y.t.L) (fun m ds y hy=>zt6.item hy) h;refine ⟨a,L,cap,e,hl,fun i t hi=>?_,fun t ht=>⟨(hR t ht).len,(hR t ht).ok⟩⟩;obtain ⟨b,o,h1,h2,h3⟩:=hr i t hi;exact ⟨⟨b,o,h1,h2,h3 0 _ rfl,h3 1 _ rfl⟩,(hR t (List.mem_of_getElem? hi)).nodes⟩
set_option maxRecDepth 100000 in
theorem inst {cs:List Value} {x:DataW H × List MemPlace} (h:DataW.trod enc Tryz.prog w base spare held fuel 123 cs=some x):∃y:Pl.Ns,cs=[.int .i64 y.d, .slice y.a y.Is.length y.cap]∧zt6.OkI w y.a y.Is:=by
 obtain ⟨xs,m,rfl, -,hlen,hxl,hf⟩:=DataW.trod_struct Tryz.underlying123 h;obtain ⟨c,d,rfl⟩:=zt6.two (hlen.trans zd6);obtain ⟨y,z,rfl⟩:=zt6.two hxl;have h0:=hf 0 _ rfl;have h1:=hf 1 _ rfl
 change DataW.trod enc Tryz.prog w base spare held m 2 (([c,d].drop 0).take (Tryz.prog.cellsOf 2))=some y at h0
 change DataW.trod enc Tryz.prog w base spare held m 42 (([c,d].drop 1).take (Tryz.prog.cellsOf 42))=some z at h1
 rw [zt6.zc3] at h0;rw [cellsIs] at h1;obtain ⟨n,e0, -, -⟩:=DataW.trod_int Tryz.underlying2 h0;obtain ⟨a,Is,cap,e1,ok⟩:=items (v:=d) h1;simp at e0
 subst e0 e1;exact ⟨⟨n,a,cap,Is⟩,rfl,ok⟩
set_option maxRecDepth 100000 in
theorem mount {cs:List Value} {x:DataW H × List MemPlace} (h:DataW.trod enc Tryz.prog w base spare held fuel 125 cs=some x):∃y:Pl.Mn,cs=[.string y.p, .int .i64 y.i, .bool y.z]∧y.p.size≤maxLen∧MapI.i64 y.i:=by
 obtain ⟨xs,m,rfl, -,hlen,hxl,hf⟩:=DataW.trod_struct Tryz.underlying125 h;obtain ⟨c0,c1,c2,rfl⟩:=three (hlen.trans cellsM);obtain ⟨y0,y1,y2,rfl⟩:=three hxl;have h0:=hf 0 _ rfl;have h1:=hf 1 _ rfl;have h2:=hf 2 _ rfl
 change DataW.trod enc Tryz.prog w base spare held m 9 (([c0,c1,c2].drop 0).take (Tryz.prog.cellsOf 9))=some y0 at h0
 change DataW.trod enc Tryz.prog w base spare held m 2 (([c0,c1,c2].drop 1).take (Tryz.prog.cellsOf 2))=some y1 at h1
 change DataW.trod enc Tryz.prog w base spare held m 4 (([c0,c1,c2].drop 2).take (Tryz.prog.cellsOf 4))=some y2 at h2
 rw [zm7.cellsS] at h0;rw [zm7.zc3] at h1;rw [cellsB] at h2;obtain ⟨p,e0, -,wp⟩:=DataW.trod_string Tryz.underlying9 h0;obtain ⟨k,e1, -,wk⟩:=DataW.trod_int Tryz.underlying2 h1;obtain ⟨b,e2, -⟩:=DataW.trod_bool Tryz.underlying4 h2;simp at e0 e1 e2
 subst e0 e1 e2;exact ⟨⟨p,k,b⟩,rfl,wp,zw6 wk⟩
set_option maxRecDepth 100000 in
theorem handle {cs:List Value} {x:DataW H × List MemPlace} (h:DataW.trod enc Tryz.prog w base spare held fuel 127 cs=some x):∃y:Pl.Hn,cs=[.int .i64 y.d, .int .i64 y.i, .string y.p]∧y.p.size≤maxLen∧MapI.i64 y.i:=by
 obtain ⟨xs,m,rfl, -,hlen,hxl,hf⟩:=DataW.trod_struct Tryz.underlying127 h;obtain ⟨c0,c1,c2,rfl⟩:=three (hlen.trans cellsH);obtain ⟨y0,y1,y2,rfl⟩:=three hxl;have h0:=hf 0 _ rfl;have h1:=hf 1 _ rfl;have h2:=hf 2 _ rfl
 change DataW.trod enc Tryz.prog w base spare held m 2 (([c0,c1,c2].drop 0).take (Tryz.prog.cellsOf 2))=some y0 at h0
 change DataW.trod enc Tryz.prog w base spare held m 2 (([c0,c1,c2].drop 1).take (Tryz.prog.cellsOf 2))=some y1 at h1
 change DataW.trod enc Tryz.prog w base spare held m 9 (([c0,c1,c2].drop 2).take (Tryz.prog.cellsOf 9))=some y2 at h2
 rw [zm7.zc3] at h0 h1;rw [zm7.cellsS] at h2;obtain ⟨d,e0, -,wd⟩:=DataW.trod_int Tryz.underlying2 h0;obtain ⟨k,e1, -,wk⟩:=DataW.trod_int Tryz.underlying2 h1;obtain ⟨p,e2, -,wp⟩:=DataW.trod_string Tryz.underlying9 h2;simp at e0 e1 e2
 subst e0 e1 e2;exact ⟨⟨d,k,p⟩,rfl,wp,zw6 wk⟩
set_option maxRecDepth 100000 in
theorem space {cs:List Value} {x:DataW H × List MemPlace} (h:DataW.trod enc Tryz.prog w base spare held fuel 26 cs=some x):∃s:Pl.Sp,cs=s.cs.toList∧OkP w s:=by
 obtain ⟨xs,m,rfl, -,hlen,hxl,hf⟩:=DataW.trod_struct Tryz.underlying26 h;obtain ⟨c0,c1,c2,c3,rfl⟩:=four (hlen.trans cellsP);obtain ⟨y0,y1,y2,y3,rfl⟩:=four hxl;have h0:=hf 0 _ rfl;have h1:=hf 1 _ rfl;have h2:=hf 2 _ rfl;have h3:=hf 3 _ rfl
 change DataW.trod enc Tryz.prog w base spare held m 22 (([c0,c1,c2,c3].drop 0).take (Tryz.prog.cellsOf 22))=some y0 at h0
 change DataW.trod enc Tryz.prog w base spare held m 23 (([c0,c1,c2,c3].drop 1).take (Tryz.prog.cellsOf 23))=some y1 at h1
 change DataW.trod enc Tryz.prog w base spare held m 24 (([c0,c1,c2,c3].drop 2).take (Tryz.prog.cellsOf 24))=some y2 at h2
 change DataW.trod enc Tryz.prog w base spare held m 2 (([c0,c1,c2,c3].drop 3).take (Tryz.prog.cellsOf 2))=some y3 at h3
 rw [cellsNs] at h0;rw [cellsMs] at h1;rw [cellsHs] at h2;rw [zm7.zc3] at h3;obtain ⟨ia,N,ic,e0,ln,rn,on⟩:=rows (α:=Pl.Ns) (v:=c0) Tryz.underlying22 zd6 (by omega) (fun y=>[.int .i64 y.d, .slice y.a y.Is.length y.cap]) (fun y=>zt6.OkI w y.a y.Is) (fun _ _ _ hy=>inst hy) h0;obtain ⟨ma,M,mc,e1,lm,rm,om⟩:=rows (α:=Pl.Mn) (v:=c1) Tryz.underlying23 cellsM (by omega) (fun y=>[.string y.p, .int .i64 y.i, .bool y.z]) (fun y=>y.p.size≤maxLen∧MapI.i64 y.i) (fun _ _ _ hy=>mount hy) h1;obtain ⟨ha,Hs,hc,e2,lh,rh,oh⟩:=rows (α:=Pl.Hn) (v:=c2) Tryz.underlying24 cellsH (by omega) (fun y=>[.int .i64 y.d, .int .i64 y.i, .string y.p]) (fun y=>y.p.size≤maxLen∧MapI.i64 y.i) (fun _ _ _ hy=>handle hy) h2;obtain ⟨n,e3, -, -⟩:=DataW.trod_int Tryz.underlying2 h3;simp at e3
 subst e0 e1 e2 e3;refine ⟨⟨ia,ic,N,ma,mc,M,ha,hc,Hs,n⟩,rfl,⟨fun i t hi=>?_,fun i t hi=>?_,fun i t hi=>?_⟩,⟨ln,lm,lh,fun t ht=>?_,fun t ht=>(om t ht).1,fun t ht=>(oh t ht).1⟩,⟨fun t ht=>(om t ht).2,fun t ht=>(oh t ht).2⟩⟩
 ·obtain ⟨b,o,k1,k2,k3⟩:=rn i t hi;exact ⟨⟨b,o,k1,k2,k3 0 _ rfl,k3 1 _ rfl⟩,(on t (List.mem_of_getElem? hi)).items⟩
 ·obtain ⟨b,o,k1,k2,k3⟩:=rm i t hi;exact ⟨b,o,k1,k2,k3 0 _ rfl,k3 1 _ rfl,k3 2 _ rfl⟩
 ·obtain ⟨b,o,k1,k2,k3⟩:=rh i t hi;exact ⟨b,o,k1,k2,k3 0 _ rfl,k3 1 _ rfl,k3 2 _ rfl⟩
 ·have h:=on t ht;exact ⟨h.len,fun u hu=>⟨(h.ok u hu).1,fun n hn=>⟨((h.ok u hu).2 n hn).1,((h.ok u hu).2 n hn).2.1⟩⟩⟩
set_option maxRecDepth 100000 in
theorem space_arg {b0:Nat} {r:Reach} {v:Value} {d:DataW H} {ps:List MemPlace}
  (hv:Value.okWide Tryz.prog w r b0 26 v) (h:DataW.Trod enc Tryz.prog w base spare held 26 v d ps):∃s:Pl.Sp,v= .agg s.cs∧OkP w s:=by
 obtain ⟨cs,rfl,hsz⟩:=okWide_struct Tryz.underlying26 hv;obtain ⟨fuel,hf⟩:=h;obtain ⟨s,hs,ok⟩:=space hf;refine ⟨s,?_,ok⟩;simp only [Value.cells] at hs;rw [show cs=s.cs from Array.ext' hs]
end
end OpenSp
end
end Go.Proofs.YtkighhofjmginaaGreatDoor
