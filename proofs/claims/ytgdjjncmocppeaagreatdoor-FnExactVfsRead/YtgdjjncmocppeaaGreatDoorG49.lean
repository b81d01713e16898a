/- Several texts of one claim in one file: WVfsR, WMkJ, WMkX, WLawK, WLawEs, WHdZ, WHdM, WHdH. -/
import Derived.Test.YtgdjjncmocppeaaGreatDoorWVfsS2
namespace Go.Proofs.YtgdjjncmocppeaaGreatDoor
section
open Go.RowKit
namespace WVfs
theorem specR (s:Pl.Sp) (p:ByteArray) (w:World) (hp:p.size≤1048576) (hok:za8.OkS s 1048576) (hv:Mem.zc2 w s) {a b c:Prop} (_:a) (_:b) (_:c) (A:Pl.Ao) (hA:Pl.zg2 s p (Pl.zb6 s.next (s.N.map WSp.nr) s.M s.H Pl.wayB)=A):
  Calls Tryz.prog 6 #[.agg s.cs, .string p] w fun e w'=>(∃u,e= .returned (.agg (vo u A.d A.p A.c))∧Mem.zc2 w' u∧Pl.Fits u A)∧Below w.heap.size w w':=
 wrapS (hA ▸ Pl.zt1 s p _) (WVfsS.read_any s p w hp hok hv A hA)
theorem implR (s:Pl.Sp) (p:ByteArray) (w:World) (hp:p.size≤1048576) (hok:za8.OkS s 1048576) (hn:WSpI.OkN s) (ha:WSpI.OkA s) (hv:Mem.zc2 w s)
  (hV:∀ (r:Nat) t,WSpI.codes[r]? =some t→w.cell? ⟨0,r,none⟩=some (.int .i64 t)) (hg:w.cell? ⟨1,0,none⟩=some (.iface 207 (.agg #[.pointer (some ⟨6,71,none⟩)])))
  (r0 r1 r2 r3:TypeId) (x0 x1 x2 x3:Value) (hE:zg8.zo5 w r0 r1 r2 r3 x0 x1 x2 x3) (A:Pl.Ao) (hA:Pl.zg2 s p (Pl.zb6 s.next (s.N.map WSp.nr) s.M s.H Pl.wayB)=A):
  Calls Tryz.prog 8 #[.agg s.cs, .string p] w fun e w'=>(∃u S1 S2 S3 HH lo hi,e= .returned (.agg (vo u A.d A.p A.c))∧WSpO.An w' u S1 S2 S3 HH lo hi∧w.heap.size≤S1∧Pl.Fits u A)∧Below w.heap.size w w':=
 wrapI (hA ▸ Pl.zt1 s p _) (vread_any s p w hp hok hn ha hv hV hg r0 r1 r2 r3 x0 x1 x2 x3 hE A hA)
end WVfs
end
section
open Go.RowKit
namespace WMkJ
set_option linter.unusedSimpArgs false in
set_option maxRecDepth 100000 in
set_option maxHeartbeats 1000000 in
theorem mark_from (K0 g X cap:Nat) (D:List Pl.It) (w:World) (hK0:0<K0) (hK1:K0+5242881*D.length≤8000000000000000000) (hl:D.length≤1048576) (hok:∀t∈D,t.t.L.length≤1048576) (hv:Has w g X D):
  Calls Tryz.prog 63 #[.slice (some ⟨g,0,none⟩) D.length cap, .int .i64 (K0:Int)] w fun e w'=>(∃K:Nat,e= .returned (.int .i64 (K:Int))∧K0≤K∧K≤K0+5242881*D.length)∧Mem.Band g X w w':=by
 have HO:=hide hok;have HV:=hide hv;clear hok hv;go_enter Tryz.func63,Tryz.ntmps63
 go_wp2
 go_loopw [1,5] (fun a i wr=>∃ (j K:Nat),j≤D.length∧i= .int .i64 (j:Int)∧a= .int .i64 (K:Int)∧(K0≤K∧K≤K0+5242881*j)∧Hid (Has wr g X D∧Mem.Band g X w wr)) (fun _ i _=>D.length - (intOf i).toNat)
 case atStart=>exact ⟨0,K0,Nat.zero_le _,rfl,rfl,by omega,⟨za HV,Mem.Band.refl _ _ _⟩⟩
 case round=>
  obtain ⟨j,K,hj,rfl,rfl,hK,HA⟩:=hrel;by_cases hlt:j<D.length
  ·obtain ⟨t,ht⟩:∃t,D[j]? =some t:=⟨_,List.getElem?_eq_getElem hlt⟩;have htl:=za HO t (List.mem_of_getElem? ht);have HS:=hide ((za HA).1.many (i:=j) (.int .i64 (K:Int)));have BS:=hide ((za HA).2.trans (Mem.Band.of_set (w:=wr) ⟨g,j*2,none⟩ (.int .i64 (K:Int)) (Nat.le_refl _) (za HA).1.gx));have c1:=(za HS).cell j t ht;obtain ⟨q,h1,h2,h3,cs,h4,h5⟩:=(za HS).each j t ht;obtain ⟨cur,hb1,hb2⟩:=(za HA).1.blk;obtain ⟨x0,s0⟩:∃x,wr.cell? ⟨g,j*2,none⟩=some x:=⟨_,(cell_of_row wr _ (j*2) _ _ (0,0) hb1).trans (Array.getElem?_eq_getElem (by omega))⟩;have f0:wr.frozen? ⟨g,j*2,none⟩=false:=Mem.zb4 hb1;obtain ⟨tm,ta,tc,tL⟩:=t;simp only at h1 h5 htl;subst h1;simp only [Pl.Tr.val] at c1;have hm:=hide (zi6.lay_any q tL.length tc (K+1) cs (wr.setCell ⟨g,j*2,none⟩ (.int .i64 (K:Int))) htl (by omega) (by omega) h4 h5);have H4:=hide h4;have u1:(j:Int)<(D.length:Int):=by omega
   have u3:(0:Int)≤(j:Int):=by omega
   have eK:((K+1:Nat):Int)=(K:Int)+1:=by omega
   rw [eK] at hm;clear h4 h5 ht HA hb1 hb2;go_wp2_with fail
   refine (za hm).mono ?_;rintro e w2 ⟨rfl,⟨cur',hr',hs'⟩, -,hg⟩;have HB:Hid (Has w2 g X D∧Mem.Band g X w w2):=⟨(za HS).marked h2 (za H4) hr' hs' hg,(za BS).trans (Mem.Band.zu4 hg (by omega) h3)⟩;clear HS BS hm H4 hr' hs' hg c1 s0 f0;generalize hK2:K+1+5*tL.length=K2;have hK3:K0≤K2∧K2≤K0+5242881*(j+1):=by omega
   clear hK2 hK htl;go_wp2
   go_roundw
   case rel=>exact ⟨j+1,K2,by omega,by go_num,rfl,hK3,HB⟩
   case measure=>simp [intOf];omega
  ·have u1:¬ (j:Int)<(D.length:Int):=by omega
   go_wp2
   go_ret
   exact ⟨⟨K,rfl,by omega,by omega⟩,(za HA).2⟩
end WMkJ
end
section
set_option linter.unusedSimpArgs false
open Go.RowKit
namespace WMkX
open za8
structure Left (W:World) (N:List Pl.Ns) (gi:Nat) (B:Nat→Nat) (j:Nat):Prop where
 ib:∃cur,W.heap[gi]? =some (.cells cur 105 (0,0))∧cur.size=N.length*2∧∀ (i:Nat) t,N[i]? =some t→cur[i*2+1]? =some (.slice t.a t.Is.length t.cap)
 band:∀ (i:Nat) t,j≤i→N[i]? =some t→∃g,t.a=some ⟨g,0,none⟩∧B i≤g∧WMkJ.Has W g (B (i+1)) t.Is
theorem Left.id {W:World} {N:List Pl.Ns} {gi:Nat} {B:Nat→Nat} {j:Nat} (h:Left W N gi B j) (hr:∀i,i<N.length→gi<B i) (v:Value):Left (W.setCell ⟨gi,j*2,none⟩ v) N gi B j:=by
 obtain ⟨⟨cur,h1,h2,h3⟩,h4⟩:=h;refine ⟨⟨_,heap_setCell_same _ _ _ _ _ _ h1,by simpa using h2,fun i t hi=>?_⟩,fun i t hj hi=>?_⟩
 ·rw [Array.getElem?_setIfInBounds,if_neg (by omega)];exact h3 i t hi
 ·obtain ⟨g,k1,k2,k3⟩:=h4 i t hj hi;have :=hr i (List.getElem?_eq_some_iff.1 hi).1;exact ⟨g,k1,k2,k3.low _ _ (by show gi<g;omega)⟩
theorem Left.next {W W':World} {N:List Pl.Ns} {gi:Nat} {B:Nat→Nat} {j g:Nat} (h:Left W N gi B j) (hr:∀i,i<N.length→gi<B i) (hm:∀i,j<i→i<N.length→B (j+1)≤B i) (hg:B j≤g) (hj:j<N.length) (hb:Mem.Band g (B (j+1)) W W'):Left W' N gi B (j+1):=by
 obtain ⟨⟨cur,h1,h2,h3⟩,h4⟩:=h;refine ⟨⟨cur,(hb.block gi (Array.getElem?_eq_some_iff.1 h1).1 (.inl (by have :=hr j hj;omega))).trans h1,h2,h3⟩,fun i t hi ht=>?_⟩;obtain ⟨g',k1,k2,k3⟩:=h4 i t (by omega) ht;have :=hm i (by omega) (List.getElem?_eq_some_iff.1 ht).1;exact ⟨g',k1,k2,k3.same (fun b h1 h2 h3=>hb.block b h3 (.inr (by omega)))⟩
theorem Left.start {W:World} {s:Pl.Sp} {gi gm gh:Nat} {B:Nat→Nat} (h:HasS W s gi gm gh B):Left W s.N gi B 0:=⟨h.ib,fun i t _ hi=>h.band i t hi⟩
set_option maxRecDepth 100000 in
set_option maxHeartbeats 1000000 in
theorem zm0 (N:List Pl.Ns) (gi gm cap:Nat) (B:Nat→Nat) (w:World) (hl:N.length≤1048576) (hok:∀x∈N,x.Is.length≤1048576∧∀t∈x.Is,t.t.L.length≤1048576) (hr:∀i,i<N.length→gi<B i) (hm:∀j i,j<i→i≤N.length→B (j+1)≤B i) (htop:B N.length≤gm) (hgm:gi<gm) (hv:Left w N gi B 0):
  Calls Tryz.prog 35 #[.slice (some ⟨gi,0,none⟩) N.length cap, .int .i64 1] w fun e w'=>(∃K:Nat,e= .returned (.int .i64 (K:Int))∧0<K∧K≤5800000000000000000)∧Mem.Band gi gm w w':=by
 have HO:=hide hok;have HV:=hide hv;have HM:=hide hm;have HR:=hide hr;have HT:=hide htop;clear hok hv hm hr htop;go_enter Tryz.func35,Tryz.ntmps35
 go_wp2
 go_loopw [1,5] (fun a i wr=>∃ (j K:Nat),j≤N.length∧i= .int .i64 (j:Int)∧a= .int .i64 (K:Int)∧(0<K∧K≤1+5497559187457*j)∧Hid (Left wr N gi B j∧Mem.Band gi gm w wr)) (fun _ i _=>N.length - (intOf i).toNat)
 case atStart=>exact ⟨0,1,Nat.zero_le _,rfl,rfl,by omega,⟨za HV,Mem.Band.refl _ _ _⟩⟩
 case round=>
  obtain ⟨j,K,hj,rfl,rfl,hK,HA⟩:=hrel;by_cases hlt:j<N.length
  ·obtain ⟨t,ht⟩:∃t,N[j]? =some t:=⟨_,List.getElem?_eq_getElem hlt⟩;have htl:=za HO t (List.mem_of_getElem? ht);have HS:=hide ((za HA).1.id (za HR) (.int .i64 (K:Int)));have BS:=hide ((za HA).2.trans (Mem.Band.of_set (w:=wr) ⟨gi,j*2,none⟩ (.int .i64 (K:Int)) (Nat.le_refl _) hgm));obtain ⟨cur,hb1,hb2,hb3⟩:=(za HA).1.ib;obtain ⟨cur2,hd1,hd2,hd3⟩:=(za HS).ib;have c1:=(cell_of_row (wr.setCell ⟨gi,j*2,none⟩ (.int .i64 (K:Int))) _ (j*2+1) _ _ (0,0) hd1).trans (hd3 j t ht);obtain ⟨g,h1,h2,h3⟩:=(za HS).band j t (Nat.le_refl _) ht;obtain ⟨x0,s0⟩:∃x,wr.cell? ⟨gi,j*2,none⟩=some x:=⟨_,(cell_of_row wr _ (j*2) _ _ (0,0) hb1).trans (Array.getElem?_eq_getElem (by omega))⟩;have f0:wr.frozen? ⟨gi,j*2,none⟩=false:=Mem.zb4 hb1;obtain ⟨td,ta,tc,tI⟩:=t;simp only at h1 h3 htl c1;subst h1
   have hml:=hide (WMkJ.mark_from (K+1) g (B (j+1)) tc tI (wr.setCell ⟨gi,j*2,none⟩ (.int .i64 (K:Int))) (by omega) (by omega) htl.1 htl.2 h3);have H2:=hide h2;have u1:(j:Int)<(N.length:Int):=by omega
   have u3:(0:Int)≤(j:Int):=by omega
   have eK:((K+1:Nat):Int)=(K:Int)+1:=by omega
   rw [eK] at hml;have htl1:=htl.1;clear h2 h3 ht HA hb1 hb2 hb3 hd1 hd2 hd3 eK htl;go_wp2_with fail
   refine (za hml).mono ?_;rintro e w2 ⟨⟨K2,rfl,hk1,hk2⟩,hg⟩
   have HB:Hid (Left w2 N gi B (j+1)∧Mem.Band gi gm w w2):=by
    have q1:=za HR j hlt;have q2:=za HM j N.length hlt (Nat.le_refl _);have q3:=za HT;have q4:=za H2;exact ⟨(za HS).next (za HR) (fun i hi hl=>za HM j i hi (by omega)) q4 hlt hg,(za BS).trans ⟨hg.os,hg.tape,hg.output,hg.size,fun b hb hh=>hg.block b hb (by omega)⟩⟩
   have hK3:0<K2∧K2≤1+5497559187457*(j+1):=by omega
   clear HS BS hml hg c1 s0 f0 H2 hk1 hk2 htl1 hK;go_wp2
   go_roundw
   case rel=>exact ⟨j+1,K2,by omega,by go_num,rfl,hK3,HB⟩
   case measure=>simp [intOf];omega
  ·have u1:¬ (j:Int)<(N.length:Int):=by omega
   go_wp2
   go_ret
   exact ⟨⟨K,rfl,by omega,by omega⟩,(za HA).2⟩
set_option maxRecDepth 100000 in
set_option maxHeartbeats 1000000 in
theorem yb7 (s:Pl.Sp) (gi gm gh:Nat) (B:Nat→Nat) (w:World) (hok:OkS s 1048576) (hv:HasS w s gi gm gh B):
  Calls Tryz.prog 11 #[.agg s.cs, .int .i64 1] w fun e w'=>(∃K:Nat,e= .returned (.int .i64 (K:Int))∧0<K)∧Mem.Band gi (gh+1) w w':=by
 have hr:∀i,i<s.N.length→gi<B i:=fun i hi=>by have :=hv.lo;have :=hv.mono i (by omega);omega
 have hm:∀j i,j<i→i≤s.N.length→B (j+1)≤B i:=fun j i h1 h2=>hv.rise i (j+1) (by omega) h2;have hgm:gi<gm:=by have :=hv.lo;have :=hv.mono s.N.length (Nat.le_refl _);have :=hv.top;omega
 have hmh:=hv.mh;have h1:=hide (fun cap W (b:Below w.heap.size w W)=>zm0 s.N gi gm cap B W hok.n (fun x hx=>⟨(hok.each x hx).1,fun t ht=>((hok.each x hx).2 t ht).1⟩) hr hm hv.top hgm (Left.start (hv.call b)));obtain ⟨c2,q1,q2⟩:=hv.mb;obtain ⟨c3,q3,q4⟩:=hv.hb;have lm:gm<w.heap.size:=(Array.getElem?_eq_some_iff.1 q1).1;have lh:gh<w.heap.size:=(Array.getElem?_eq_some_iff.1 q3).1;have h2:=hide (fun cap K W (hK:0<K) (hK2:K≤8500000000000000000) (h:W.heap[gm]? =some (.cells c2 51 (0,0)))=>WMkM.ze0 gm s.M.length cap K c2 W hok.m hK hK2 h (by omega));have h3:=hide (fun cap K W (hK:0<K) (hK2:K≤8500000000000000000) (h:W.heap[gh]? =some (.cells c3 87 (0,0)))=>WMkH.ze0 gh s.H.length cap K c3 W hok.h hK hK2 h (by omega));have QM:=hide q1;have QH:=hide q3;have ei:=hv.ia;have em:=hv.ma;have eh:=hv.ha;have lM:=hok.m;have lH:=hok.h;clear q1 q2 q3 q4 hv hok hr hm
 obtain ⟨ia,ic,N,ma,mc,M,ha,hc,H,next⟩:=s;simp only at ei em eh h1 h2 h3 lM lH;subst ei em eh;unfold Pl.Sp.cs;simp only;have b0:=(Below.refl w.heap.size w).alloc (o:= .cells #[.slice (some ⟨gi,0,none⟩) N.length ic, .slice (some ⟨gm,0,none⟩) M.length mc, .slice (some ⟨gh,0,none⟩) H.length hc, .int .i64 next] 32) (Nat.le_refl _);have V0:=hide (Mem.Blk.new w #[.slice (some ⟨gi,0,none⟩) N.length ic, .slice (some ⟨gm,0,none⟩) M.length mc, .slice (some ⟨gh,0,none⟩) H.length hc, .int .i64 next] 32);have D0:Hid (Mem.Band gi (gh+1) w (w.alloc (.cells #[.slice (some ⟨gi,0,none⟩) N.length ic, .slice (some ⟨gm,0,none⟩) M.length mc, .slice (some ⟨gh,0,none⟩) H.length hc, .int .i64 next] 32))):=hide (Mem.Band.of_below b0);have QM0:=hide ((b0.block gm lm).trans (za QM));have QH0:=hide ((b0.block gh lh).trans (za QH));have a0:=(za V0).cell 0;simp only [kGs] at a0
 clear QM QH;go_enter Tryz.func11,Tryz.ntmps11
 go_wp2_with fail
 have HC:=hide (za h1 ic _ b0);clear h1;generalize w.alloc (.cells #[.slice (some ⟨gi,0,none⟩) N.length ic, .slice (some ⟨gm,0,none⟩) M.length mc, .slice (some ⟨gh,0,none⟩) H.length hc, .int .i64 next] 32)=wA at b0 V0 D0 QM0 QH0 a0 HC ⊢;refine (za HC).mono ?_;rintro e w1 ⟨⟨K1,rfl,k1,k2⟩,bd1⟩;have hlA:gh<wA.heap.size:=(Array.getElem?_eq_some_iff.1 (za QH0)).1;have hlV:w.heap.size<wA.heap.size:=(za V0).lt;have V1:=hide (bd1.blk (za V0) (.inr (by omega)));have QM1:=hide ((bd1.block gm (by omega) (.inr (Nat.le_refl _))).trans (za QM0));have QH1:=hide ((bd1.block gh hlA (.inr (by omega))).trans (za QH0));have D1:=hide ((za D0).trans ⟨bd1.os,bd1.tape,bd1.output,bd1.size,fun b hb hh=>bd1.block b hb (by omega)⟩);have hl1:=bd1.size;clear HC bd1 V0 D0 QM0 QH0 a0 b0;have a1:=(za V1).cell 1;simp only [kGs] at a1;have HC:=hide (za h2 mc K1 w1 k1 (by omega) (za QM1));clear h2
 go_wp2_with fail
 refine (za HC).mono ?_;rintro e w2 ⟨rfl, -, -,gr⟩;have V2:=hide ((za V1).grown gr (fun e=>by have :=Option.some.inj e;omega));have QH2:=hide ((gr.block gh (by omega) (fun e=>by have :=Option.some.inj e;omega)).trans (za QH1));have D2:=hide ((za D1).trans (Mem.Band.zu4 gr (by omega) (by omega)));have hl2:=gr.size;clear HC gr V1 D1 QM1 QH1 a1;have a2:=(za V2).cell 2;simp only [kGs] at a2;have HC:=hide (za h3 hc (K1+3*M.length) w2 (by omega) (by omega) (za QH2));clear h3;go_wp2_with fail
 refine (za HC).mono ?_;rintro e w3 ⟨rfl, -, -,gr⟩;have D3:=hide ((za D2).trans (Mem.Band.zu4 gr (by omega) (by omega)));clear HC gr V2 D2 QH2 a2;go_wp2
 go_ret
 exact ⟨⟨_,rfl,by omega⟩,za D3⟩
end WMkX
end
section
open Go.RowKit
namespace WLaw
set_option maxRecDepth 100000 in
set_option maxHeartbeats 800000 in
theorem eqItem_any (m:Int) (a b:Option Addr) (c1 c2:Nat) (L:List Pl.Nd) (w:World) (hl:L.length≤1048576) (hv:Mem.za9 w a L) (hu:Mem.za9 w b L):
  Calls Tryz.prog 119 #[.agg #[.int .i64 m, .slice a L.length c1], .agg #[.int .i64 m, .slice b L.length c2]] w fun e w'=>e= .returned (.bool true)∧Below w.heap.size w w':=by
 have b0:∀o1 o2,Below w.heap.size w ((w.alloc o1).alloc o2):=fun o1 o2=>((Below.refl _ _).alloc (Nat.le_refl _) o1).alloc (by simp) o2;have HB:=hide b0;have HZ:=hide (fun W (b':Below w.heap.size w W)=>eqTree_any a b c1 c2 L W hl (Mem.za7 hv b') (Mem.za7 hu b'));clear hv hu b0;go_enter Tryz.func119,Tryz.ntmps119
 go_wp2_with fail
 refine (za HZ _ (za HB _ _)).mono ?_;rintro e w1 ⟨rfl,b1⟩;have bb:=(za HB _ _).trans (b1.mono (za HB _ _).size);clear HZ b1;go_wp2
 go_ret
 exact ⟨rfl,bb⟩
set_option maxRecDepth 100000 in
set_option maxHeartbeats 800000 in
theorem eqItemS_any (a b:Option Addr) (c1 c2:Nat) (Ts Us:List Pl.It) (w:World) (hl:Ts.length≤1048576) (hm:Us.map Pl.It.r=Ts.map Pl.It.r) (hv:Mem.zb2 w a Ts) (hu:Mem.zb2 w b Us) (hok:∀t∈Ts,t.t.L.length≤1048576):
  Calls Tryz.prog 91 #[.slice a Ts.length c1, .slice b Ts.length c2] w fun e w'=>e= .returned (.bool true)∧Below w.heap.size w w':=by
 have HV:=hide hv;have HU:=hide hu;have HO:=hide hok;have HM:=hide hm;clear hv hu hok hm;go_enter Tryz.func91,Tryz.ntmps91
 go_wp2
 go_loopw [5] (fun i wr=>∃k:Nat,k≤Ts.length∧i= .int .i64 (k:Int)∧Below w.heap.size w wr) (fun i _=>Ts.length - (intOf i).toNat)
 case atStart=>exact ⟨0,Nat.zero_le _,rfl,Below.refl _ _⟩
 case round=>
  obtain ⟨k,hk,rfl,hbel⟩:=hrel;by_cases hlt:k<Ts.length
  ·obtain ⟨t,ht⟩:∃n,Ts[k]? =some n:=⟨_,List.getElem?_eq_getElem hlt⟩
   obtain ⟨u,hu,hum,hul⟩:∃u,Us[k]? =some u∧u.m=t.m∧u.t.L=t.t.L:=by
    have h:=congrArg (fun l=>l[k]?) (za HM);simp only [List.getElem?_map,ht,Option.map_some] at h;cases hu:Us[k]? with
    |none=>rw [hu] at h;simp at h
    |some u=>rw [hu] at h;simp [Pl.It.r] at h;exact ⟨u,rfl,h.1,h.2⟩
   obtain ⟨⟨g,o,rfl,hg,q0,q0'⟩,q1⟩:=(za HV) k t ht;obtain ⟨⟨g2,o2,rfl,hg2,p0,p0'⟩,p1⟩:=(za HU) k u hu;rw [hul] at p1;have hz:=hide (fun W (b:Below w.heap.size w W)=>eqItem_any t.m t.t.a u.t.a t.t.cap u.t.cap t.t.L W (za HO t (List.mem_of_getElem? ht)) (Mem.za7 q1 b) (Mem.za7 p1 b));have MK:Hid (∀W',Below w.heap.size w W'→(Below w.heap.size w W'∧W'.cell? ⟨g,o+k*2,none⟩=some (.int .i64 t.m)∧W'.cell? ⟨g,o+k*2+1,none⟩=some (.slice t.t.a t.t.L.length t.t.cap)∧W'.cell? ⟨g2,o2+k*2,none⟩=some (.int .i64 t.m)∧W'.cell? ⟨g2,o2+k*2+1,none⟩=some (.slice u.t.a t.t.L.length u.t.cap))):=fun W' hb'=>⟨hb',(hb'.cell (p:=⟨g,_,none⟩) hg).trans q0,(hb'.cell (p:=⟨g,_,none⟩) hg).trans (by rw [q0',Pl.Tr.val]),(hb'.cell (p:=⟨g2,_,none⟩) hg2).trans (by rw [p0,hum]),(hb'.cell (p:=⟨g2,_,none⟩) hg2).trans (by rw [p0',Pl.Tr.val,hul])⟩;have u1:(k:Int)<(Ts.length:Int):=by omega
   have u3:(0:Int)≤(k:Int):=by omega
   have hbd:Below w.heap.size w wr.drew:=⟨hbel.os,hbel.tape,hbel.output,hbel.size,hbel.block⟩;clear q0 p0 q0' p0' ht hu hul hum q1 p1;go_wp2_with fail
   go_region_held3 (fun W'=>Below w.heap.size w W'∧W'.cell? ⟨g,o+k*2,none⟩=some (.int .i64 t.m)∧W'.cell? ⟨g,o+k*2+1,none⟩=some (.slice t.t.a t.t.L.length t.t.cap)∧W'.cell? ⟨g2,o2+k*2,none⟩=some (.int .i64 t.m)∧W'.cell? ⟨g2,o2+k*2+1,none⟩=some (.slice u.t.a t.t.L.length u.t.cap)) (first |exact za MK _ hbd|exact za MK _ (hbd.trans (bX.mono hbd.size))) (first |(go_at_call 119;refine (za hz _ hbd).mono ?_;rintro e wX ⟨rfl,bX⟩))
   have hb2:=hbd.trans (bX.mono hbd.size);clear hbel hbd bX MK;go_wp2
   go_roundw
   case rel=>exact ⟨k+1,by omega,by go_num,hb2⟩
   case measure=>simp [intOf];omega
  ·have u1:¬ (k:Int)<(Ts.length:Int):=by omega
   go_wp2
   go_ret
   exact ⟨rfl,hbel⟩
end WLaw
end
section
open Go.RowKit
namespace za8
set_option maxRecDepth 100000 in
set_option maxHeartbeats 800000 in
theorem eqMount_any (x:Pl.Mn) (w:World):
  Calls Tryz.prog 61 #[.agg #[.string x.p, .int .i64 x.i, .bool x.z], .agg #[.string x.p, .int .i64 x.i, .bool x.z]] w fun e w'=>e= .returned (.bool true)∧Below w.heap.size w w':=by
 have b0:∀o1 o2,Below w.heap.size w ((w.alloc o1).alloc o2):=fun o1 o2=>((Below.refl _ _).alloc (Nat.le_refl _) o1).alloc (by simp) o2;have HB:=hide b0;clear b0;go_enter Tryz.func61,Tryz.ntmps61
 go_wp2
 go_ret
 exact ⟨rfl,za HB _ _⟩
set_option maxRecDepth 100000 in
set_option maxHeartbeats 800000 in
theorem eqMountS_any (a b:Option Addr) (c1 c2:Nat) (Ts:List Pl.Mn) (w:World) (hl:Ts.length≤1048576) (hv:Mem.zb8 w a Ts) (hu:Mem.zb8 w b Ts):
  Calls Tryz.prog 33 #[.slice a Ts.length c1, .slice b Ts.length c2] w fun e w'=>e= .returned (.bool true)∧Below w.heap.size w w':=by
 have HV:=hide hv;have HU:=hide hu;clear hv hu;go_enter Tryz.func33,Tryz.ntmps33
 go_wp2
 go_loopw [5] (fun i wr=>∃k:Nat,k≤Ts.length∧i= .int .i64 (k:Int)∧Below w.heap.size w wr) (fun i _=>Ts.length - (intOf i).toNat)
 case atStart=>exact ⟨0,Nat.zero_le _,rfl,Below.refl _ _⟩
 case round=>
  obtain ⟨k,hk,rfl,hbel⟩:=hrel;by_cases hlt:k<Ts.length
  ·obtain ⟨t,ht⟩:∃n,Ts[k]? =some n:=⟨_,List.getElem?_eq_getElem hlt⟩;obtain ⟨g,o,rfl,hg,q0,q1,q2⟩:=(za HV) k t ht;obtain ⟨g2,o2,rfl,hg2,p0,p1,p2⟩:=(za HU) k t ht;have hz:=hide (fun W=>eqMount_any t W);have MK:Hid (∀W',Below w.heap.size w W'→(Below w.heap.size w W'∧W'.cell? ⟨g,o+k*3,none⟩=some (.string t.p)∧W'.cell? ⟨g,o+k*3+1,none⟩=some (.int .i64 t.i)∧W'.cell? ⟨g,o+k*3+2,none⟩=some (.bool t.z)∧W'.cell? ⟨g2,o2+k*3,none⟩=some (.string t.p)∧W'.cell? ⟨g2,o2+k*3+1,none⟩=some (.int .i64 t.i)∧W'.cell? ⟨g2,o2+k*3+2,none⟩=some (.bool t.z))):=fun W' hb'=>⟨hb',(hb'.cell (p:=⟨g,_,none⟩) hg).trans q0,(hb'.cell (p:=⟨g,_,none⟩) hg).trans q1,(hb'.cell (p:=⟨g,_,none⟩) hg).trans q2,(hb'.cell (p:=⟨g2,_,none⟩) hg2).trans p0,(hb'.cell (p:=⟨g2,_,none⟩) hg2).trans p1,(hb'.cell (p:=⟨g2,_,none⟩) hg2).trans p2⟩;have u1:(k:Int)<(Ts.length:Int):=by omega
   have u3:(0:Int)≤(k:Int):=by omega
   have hbd:Below w.heap.size w wr.drew:=⟨hbel.os,hbel.tape,hbel.output,hbel.size,hbel.block⟩;clear q0 q1 q2 p0 p1 p2 ht;go_wp2_with fail
   go_region_held3 (fun W'=>Below w.heap.size w W'∧W'.cell? ⟨g,o+k*3,none⟩=some (.string t.p)∧W'.cell? ⟨g,o+k*3+1,none⟩=some (.int .i64 t.i)∧W'.cell? ⟨g,o+k*3+2,none⟩=some (.bool t.z)∧W'.cell? ⟨g2,o2+k*3,none⟩=some (.string t.p)∧W'.cell? ⟨g2,o2+k*3+1,none⟩=some (.int .i64 t.i)∧W'.cell? ⟨g2,o2+k*3+2,none⟩=some (.bool t.z)) (first |exact za MK _ hbd|exact za MK _ (hbd.trans (bX.mono hbd.size))) (first |(go_at_call 61;refine (za hz _).mono ?_;rintro e wX ⟨rfl,bX⟩))
   have hb2:=hbd.trans (bX.mono hbd.size);clear hbel hbd bX MK;go_wp2
   go_roundw
   case rel=>exact ⟨k+1,by omega,by go_num,hb2⟩
   case measure=>simp [intOf];omega
  ·have u1:¬ (k:Int)<(Ts.length:Int):=by omega
   go_wp2
   go_ret
   exact ⟨rfl,hbel⟩
set_option maxRecDepth 100000 in
set_option maxHeartbeats 800000 in
theorem eqHandle_any (x:Pl.Hn) (w:World):
  Calls Tryz.prog 62 #[.agg #[.int .i64 x.d, .int .i64 x.i, .string x.p], .agg #[.int .i64 x.d, .int .i64 x.i, .string x.p]] w fun e w'=>e= .returned (.bool true)∧Below w.heap.size w w':=by
 have b0:∀o1 o2,Below w.heap.size w ((w.alloc o1).alloc o2):=fun o1 o2=>((Below.refl _ _).alloc (Nat.le_refl _) o1).alloc (by simp) o2;have HB:=hide b0;clear b0;go_enter Tryz.func62,Tryz.ntmps62
 go_wp2
 go_ret
 exact ⟨rfl,za HB _ _⟩
set_option maxRecDepth 100000 in
set_option maxHeartbeats 800000 in
theorem eqHandleS_any (a b:Option Addr) (c1 c2:Nat) (Ts:List Pl.Hn) (w:World) (hl:Ts.length≤1048576) (hv:Mem.zd3 w a Ts) (hu:Mem.zd3 w b Ts):
  Calls Tryz.prog 34 #[.slice a Ts.length c1, .slice b Ts.length c2] w fun e w'=>e= .returned (.bool true)∧Below w.heap.size w w':=by
 have HV:=hide hv;have HU:=hide hu;clear hv hu;go_enter Tryz.func34,Tryz.ntmps34
 go_wp2
 go_loopw [5] (fun i wr=>∃k:Nat,k≤Ts.length∧i= .int .i64 (k:Int)∧Below w.heap.size w wr) (fun i _=>Ts.length - (intOf i).toNat)
 case atStart=>exact ⟨0,Nat.zero_le _,rfl,Below.refl _ _⟩
 case round=>
  obtain ⟨k,hk,rfl,hbel⟩:=hrel;by_cases hlt:k<Ts.length
  ·obtain ⟨t,ht⟩:∃n,Ts[k]? =some n:=⟨_,List.getElem?_eq_getElem hlt⟩;obtain ⟨g,o,rfl,hg,q0,q1,q2⟩:=(za HV) k t ht;obtain ⟨g2,o2,rfl,hg2,p0,p1,p2⟩:=(za HU) k t ht;have hz:=hide (fun W=>eqHandle_any t W);have MK:Hid (∀W',Below w.heap.size w W'→(Below w.heap.size w W'∧W'.cell? ⟨g,o+k*3,none⟩=some (.int .i64 t.d)∧W'.cell? ⟨g,o+k*3+1,none⟩=some (.int .i64 t.i)∧W'.cell? ⟨g,o+k*3+2,none⟩=some (.string t.p)∧W'.cell? ⟨g2,o2+k*3,none⟩=some (.int .i64 t.d)∧W'.cell? ⟨g2,o2+k*3+1,none⟩=some (.int .i64 t.i)∧W'.cell? ⟨g2,o2+k*3+2,none⟩=some (.string t.p))):=fun W' hb'=>⟨hb',(hb'.cell (p:=⟨g,_,none⟩) hg).trans q0,(hb'.cell (p:=⟨g,_,none⟩) hg).trans q1,(hb'.cell (p:=⟨g,_,none⟩) hg).trans q2,(hb'.cell (p:=⟨g2,_,none⟩) hg2).trans p0,(hb'.cell (p:=⟨g2,_,none⟩) hg2).trans p1,(hb'.cell (p:=⟨g2,_,none⟩) hg2).trans p2⟩;have u1:(k:Int)<(Ts.length:Int):=by omega
   have u3:(0:Int)≤(k:Int):=by omega
   have hbd:Below w.heap.size w wr.drew:=⟨hbel.os,hbel.tape,hbel.output,hbel.size,hbel.block⟩;clear q0 q1 q2 p0 p1 p2 ht;go_wp2_with fail
   go_region_held3 (fun W'=>Below w.heap.size w W'∧W'.cell? ⟨g,o+k*3,none⟩=some (.int .i64 t.d)∧W'.cell? ⟨g,o+k*3+1,none⟩=some (.int .i64 t.i)∧W'.cell? ⟨g,o+k*3+2,none⟩=some (.string t.p)∧W'.cell? ⟨g2,o2+k*3,none⟩=some (.int .i64 t.d)∧W'.cell? ⟨g2,o2+k*3+1,none⟩=some (.int .i64 t.i)∧W'.cell? ⟨g2,o2+k*3+2,none⟩=some (.string t.p)) (first |exact za MK _ hbd|exact za MK _ (hbd.trans (bX.mono hbd.size))) (first |(go_at_call 62;refine (za hz _).mono ?_;rintro e wX ⟨rfl,bX⟩))
   have hb2:=hbd.trans (bX.mono hbd.size);clear hbel hbd bX MK;go_wp2
   go_roundw
   case rel=>exact ⟨k+1,by omega,by go_num,hb2⟩
   case measure=>simp [intOf];omega
  ·have u1:¬ (k:Int)<(Ts.length:Int):=by omega
   go_wp2
   go_ret
   exact ⟨rfl,hbel⟩
set_option maxRecDepth 100000 in
set_option maxHeartbeats 800000 in
theorem yh (d:Int) (a b:Option Addr) (c1 c2:Nat) (Ts Us:List Pl.It) (w:World) (hl:Ts.length≤1048576) (hm:Us.map Pl.It.r=Ts.map Pl.It.r) (hv:Mem.zb2 w a Ts) (hu:Mem.zb2 w b Us) (hok:∀t∈Ts,t.t.L.length≤1048576):
  Calls Tryz.prog 60 #[.agg #[.int .i64 d, .slice a Ts.length c1], .agg #[.int .i64 d, .slice b Ts.length c2]] w fun e w'=>e= .returned (.bool true)∧Below w.heap.size w w':=by
 have b0:∀o1 o2,Below w.heap.size w ((w.alloc o1).alloc o2):=fun o1 o2=>((Below.refl _ _).alloc (Nat.le_refl _) o1).alloc (by simp) o2;have HB:=hide b0;have HZ:=hide (fun W (b':Below w.heap.size w W)=>WLaw.eqItemS_any a b c1 c2 Ts Us W hl hm (Mem.zb9 hv b') (Mem.zb9 hu b') hok);clear hv hu b0 hok hm;go_enter Tryz.func60,Tryz.ntmps60
 go_wp2_with fail
 refine (za HZ _ (za HB _ _)).mono ?_;rintro e w1 ⟨rfl,b1⟩;have bb:=(za HB _ _).trans (b1.mono (za HB _ _).size);clear HZ b1;go_wp2
 go_ret
 exact ⟨rfl,bb⟩
set_option maxRecDepth 100000 in
set_option maxHeartbeats 800000 in
theorem ye5 (a b:Option Addr) (c1 c2:Nat) (Ts Us:List Pl.Ns) (w:World) (hl:Ts.length≤1048576) (hm:Us.map Pl.Ns.r=Ts.map Pl.Ns.r) (hv:Mem.zf8 w a Ts) (hu:Mem.zf8 w b Us) (hok:∀x∈Ts,x.Is.length≤1048576∧∀t∈x.Is,t.t.L.length≤1048576):
  Calls Tryz.prog 32 #[.slice a Ts.length c1, .slice b Ts.length c2] w fun e w'=>e= .returned (.bool true)∧Below w.heap.size w w':=by
 have HV:=hide hv;have HU:=hide hu;have HO:=hide hok;have HM:=hide hm;clear hv hu hok hm;go_enter Tryz.func32,Tryz.ntmps32
 go_wp2
 go_loopw [5] (fun i wr=>∃k:Nat,k≤Ts.length∧i= .int .i64 (k:Int)∧Below w.heap.size w wr) (fun i _=>Ts.length - (intOf i).toNat)
 case atStart=>exact ⟨0,Nat.zero_le _,rfl,Below.refl _ _⟩
 case round=>
  obtain ⟨k,hk,rfl,hbel⟩:=hrel;by_cases hlt:k<Ts.length
  ·obtain ⟨t,ht⟩:∃n,Ts[k]? =some n:=⟨_,List.getElem?_eq_getElem hlt⟩
   obtain ⟨u,hu,hum,hul⟩:∃u,Us[k]? =some u∧u.d=t.d∧u.Is.map Pl.It.r=t.Is.map Pl.It.r:=by
    have h:=congrArg (fun l=>l[k]?) (za HM);simp only [List.getElem?_map,ht,Option.map_some] at h;cases hu:Us[k]? with
    |none=>rw [hu] at h;simp at h
    |some u=>
     rw [hu] at h;have h':=Option.some.inj h;exact ⟨u,rfl,congrArg Prod.fst h',congrArg Prod.snd h'⟩
   have hll:u.Is.length=t.Is.length:=by have h:=congrArg List.length hul;simpa using h
   obtain ⟨⟨g,o,rfl,hg,q0,q0'⟩,q1⟩:=(za HV) k t ht;obtain ⟨⟨g2,o2,rfl,hg2,p0,p0'⟩,p1⟩:=(za HU) k u hu;rw [hum] at p0;rw [hll] at p0';have hz:=hide (fun W (b:Below w.heap.size w W)=>yh t.d t.a u.a t.cap u.cap t.Is u.Is W (za HO t (List.mem_of_getElem? ht)).1 hul (Mem.zb9 q1 b) (Mem.zb9 p1 b) (za HO t (List.mem_of_getElem? ht)).2);have MK:Hid (∀W',Below w.heap.size w W'→(Below w.heap.size w W'∧W'.cell? ⟨g,o+k*2,none⟩=some (.int .i64 t.d)∧W'.cell? ⟨g,o+k*2+1,none⟩=some (.slice t.a t.Is.length t.cap)∧W'.cell? ⟨g2,o2+k*2,none⟩=some (.int .i64 t.d)∧W'.cell? ⟨g2,o2+k*2+1,none⟩=some (.slice u.a t.Is.length u.cap))):=fun W' hb'=>⟨hb',(hb'.cell (p:=⟨g,_,none⟩) hg).trans q0,(hb'.cell (p:=⟨g,_,none⟩) hg).trans q0',(hb'.cell (p:=⟨g2,_,none⟩) hg2).trans p0,(hb'.cell (p:=⟨g2,_,none⟩) hg2).trans p0'⟩;have u1:(k:Int)<(Ts.length:Int):=by omega
   have u3:(0:Int)≤(k:Int):=by omega
   have hbd:Below w.heap.size w wr.drew:=⟨hbel.os,hbel.tape,hbel.output,hbel.size,hbel.block⟩;clear q0 p0 q0' p0' ht hu hul hum q1 p1 hll;go_wp2_with fail
   go_region_held3 (fun W'=>Below w.heap.size w W'∧W'.cell? ⟨g,o+k*2,none⟩=some (.int .i64 t.d)∧W'.cell? ⟨g,o+k*2+1,none⟩=some (.slice t.a t.Is.length t.cap)∧W'.cell? ⟨g2,o2+k*2,none⟩=some (.int .i64 t.d)∧W'.cell? ⟨g2,o2+k*2+1,none⟩=some (.slice u.a t.Is.length u.cap)) (first |exact za MK _ hbd|exact za MK _ (hbd.trans (bX.mono hbd.size))) (first |(go_at_call 60;refine (za hz _ hbd).mono ?_;rintro e wX ⟨rfl,bX⟩))
   have hb2:=hbd.trans (bX.mono hbd.size);clear hbel hbd bX MK;go_wp2
   go_roundw
   case rel=>exact ⟨k+1,by omega,by go_num,hb2⟩
   case measure=>simp [intOf];omega
  ·have u1:¬ (k:Int)<(Ts.length:Int):=by omega
   go_wp2
   go_ret
   exact ⟨rfl,hbel⟩
set_option linter.unusedSimpArgs false in
set_option maxRecDepth 100000 in
set_option maxHeartbeats 800000 in
theorem yc5 (s u:Pl.Sp) (w:World) (hs:OkS s 1048576) (hn:u.N.map Pl.Ns.r=s.N.map Pl.Ns.r) (hm:u.M=s.M) (hh:u.H=s.H) (hx:u.next=s.next) (hv:Mem.zc2 w s) (hu:Mem.zc2 w u):
  Calls Tryz.prog 10 #[.agg s.cs, .agg u.cs] w fun e w'=>e= .returned (.bool true)∧Below w.heap.size w w':=by
 have hnl:u.N.length=s.N.length:=by have h:=congrArg List.length hn;simpa using h
 unfold Pl.Sp.cs;rw [hnl,hm,hh,hx];have bb0:Below w.heap.size w ((w.alloc (.cells #[.slice s.ia s.N.length s.ic, .slice s.ma s.M.length s.mc, .slice s.ha s.H.length s.hc, .int .i64 s.next] 32)).alloc (.cells #[.slice u.ia s.N.length u.ic, .slice u.ma s.M.length u.mc, .slice u.ha s.H.length u.hc, .int .i64 s.next] 32)):=((Below.refl _ _).alloc (Nat.le_refl _) _).alloc (by simp) _;have P0:=hide ((Mem.Blk.new w #[.slice s.ia s.N.length s.ic, .slice s.ma s.M.length s.mc, .slice s.ha s.H.length s.hc, .int .i64 s.next] 32).alloc (.cells #[.slice u.ia s.N.length u.ic, .slice u.ma s.M.length u.mc, .slice u.ha s.H.length u.hc, .int .i64 s.next] 32))
 have Q0:Hid (Mem.Blk ((w.alloc (.cells #[.slice s.ia s.N.length s.ic, .slice s.ma s.M.length s.mc, .slice s.ha s.H.length s.hc, .int .i64 s.next] 32)).alloc (.cells #[.slice u.ia s.N.length u.ic, .slice u.ma s.M.length u.mc, .slice u.ha s.H.length u.hc, .int .i64 s.next] 32)) (w.heap.size+1) #[.slice u.ia s.N.length u.ic, .slice u.ma s.M.length u.mc, .slice u.ha s.H.length u.hc, .int .i64 s.next] 32):=Mem.zi4 _ _ _;have h1:=hide (fun W (b:Below w.heap.size w W)=>ye5 s.ia u.ia s.ic u.ic s.N u.N W hs.n hn (Mem.zf1 hv.zj0 b) (Mem.zf1 hu.zj0 b) (fun x hx=>⟨(hs.each x hx).1,fun t ht=>((hs.each x hx).2 t ht).1⟩));have h2:=hide (fun W (b:Below w.heap.size w W)=>eqMountS_any s.ma u.ma s.mc u.mc s.M W hs.m (Mem.zd8 hv.zk1 b) (by have :=Mem.zd8 hu.zk1 b;rw [hm] at this;exact this))
 have h3:=hide (fun W (b:Below w.heap.size w W)=>eqHandleS_any s.ha u.ha s.hc u.hc s.H W hs.h (Mem.zf3 hv.hands b) (by have :=Mem.zf3 hu.hands b;rw [hh] at this;exact this));clear hv hu hs hn hm hh hx hnl;have x0:=(za P0).cell 0;have y0:=(za Q0).cell 0;simp only [kGs] at x0 y0;go_enter Tryz.func10,Tryz.ntmps10
 go_wp2_with fail
 refine (za h1 _ bb0).mono ?_;rintro e w1 ⟨rfl,b1⟩;have bb1:=bb0.trans (b1.mono bb0.size);have P1:=hide ((za P0).call b1);have Q1:=hide ((za Q0).call b1);clear b1;clear x0 y0 P0 Q0 h1;have x1:=(za P1).cell 1;have y1:=(za Q1).cell 1;simp only [kGs] at x1 y1;go_wp2_with fail
 refine (za h2 _ bb1).mono ?_;rintro e w2 ⟨rfl,b2⟩;have bb2:=bb1.trans (b2.mono bb1.size);have P2:=hide ((za P1).call b2);have Q2:=hide ((za Q1).call b2);clear b2;clear x1 y1 P1 Q1 h2;have x2:=(za P2).cell 2;have y2:=(za Q2).cell 2;simp only [kGs] at x2 y2;go_wp2_with fail
 refine (za h3 _ bb2).mono ?_;rintro e w3 ⟨rfl,b3⟩;have bb3:=bb2.trans (b3.mono bb2.size);have P3:=hide ((za P2).call b3);have Q3:=hide ((za Q2).call b3);clear b3;clear x2 y2 P2 Q2 h3;have x3:=(za P3).cell 3;have y3:=(za Q3).cell 3;simp only [kGs] at x3 y3;go_wp2
 go_ret
 exact ⟨rfl,bb3⟩
end za8
end
section
open Go.RowKit
namespace WMkY
set_option linter.unusedSimpArgs false in
set_option maxRecDepth 100000 in
set_option maxHeartbeats 2000000 in
theorem zf4 (a:Option Addr) (cap:Nat) (N:List Pl.Ns) (w:World) (hn:N.length≤12) (hI:∀x∈N,x.Is.length≤12∧∀t∈x.Is,t.t.L.length≤40) (hv:Mem.zf8 w a (Pl.mkZ 1 N N.length)):
  Calls Tryz.prog 65 #[.slice a N.length cap, .int .i64 1] w fun e w'=>e= .returned (.int .i64 (Pl.kZ 1 N N.length:Int))∧Below w.heap.size w w':=by
 have HV:=hide hv;have HI:=hide hI;clear hv hI;go_enter Tryz.func65,Tryz.ntmps65
 go_wp2
 go_loopw [1,5] (fun v i wr=>∃j:Nat,j≤N.length∧i= .int .i64 (j:Int)∧v= .int .i64 (Pl.kZ 1 N j:Int)∧Below w.heap.size w wr) (fun _ i _=>N.length - (intOf i).toNat)
 case atStart=>exact ⟨0,Nat.zero_le _,rfl,rfl,Below.refl _ _⟩
 case round=>
  obtain ⟨j,hj,rfl,rfl,hbel⟩:=hrel;by_cases hlt:j<N.length
  ·obtain ⟨x,hx⟩:∃x,N[j]? =some x:=⟨_,List.getElem?_eq_getElem hlt⟩;obtain ⟨hI1,hI2⟩:=za HI x (List.mem_of_getElem? hx);have hk1:=Pl.kZ_le 1 N (za HI) j (by omega);have hk0:=Pl.kZ_ge 1 N j;have HKS:Hid (Pl.kZ 1 N (j+1)=Pl.kAt (Pl.kZ 1 N j+1) x.Is x.Is.length):=hide (Pl.kZ_succ hx);have hy2:(Pl.mkZ 1 N N.length)[j]? =some (Pl.mkN1 (Pl.kZ 1 N j) x):=by rw [Pl.zo8,hx,Option.map_some,if_pos hlt]
   obtain ⟨⟨g,o,rfl,hg,c0,c1⟩,hit⟩:=(Mem.zf1 (za HV) hbel) j _ hy2
   have hk3:∀i,i≤x.Is.length→Pl.kAt (Pl.kZ 1 N j+1) x.Is i≤100000:=fun i hi=>by
    have :=Pl.kAt_le (Pl.kZ 1 N j+1) x.Is hI2 i hi;omega
   have hkb:Pl.kZ 1 N j≤100000:=by omega
   simp only [Pl.mkN1,Pl.zu6] at c0 c1 hit;have hml:=hide (WMarkI.zf4 x.a x.cap (Pl.kZ 1 N j+1) x.Is wr (by omega) (fun t ht=>by have :=hI2 t ht;omega) (by omega) hk3 hit);have hKE:=Pl.kAt_ge (Pl.kZ 1 N j+1) x.Is x.Is.length;generalize Pl.kAt (Pl.kZ 1 N j+1) x.Is x.Is.length=KE at HKS hml hKE;generalize Pl.kZ 1 N j=KJ at hk1 hk0 HKS hml c0 hkb hKE ⊢;have eK:((KJ+1:Nat):Int)=(KJ:Int)+1:=by omega
   rw [eK] at hml;have u1:(j:Int)<(N.length:Int):=by omega
   have u3:(0:Int)≤(j:Int):=by omega
   have u4:¬ (KE:Int)<0:=by omega
   clear hk3 hx hy2 eK hI1 hI2 hk1 hit hKE;go_wp2_with fail
   refine (za hml).mono ?_;rintro e w2 ⟨rfl,b2⟩;have bN:=hbel.trans (b2.mono hbel.size);clear hml b2 c0 c1;go_wp2
   go_roundw
   case rel=>exact ⟨j+1,by omega,by go_num,by rw [za HKS],bN⟩
   case measure=>simp [intOf];omega
  ·have u1:¬ (j:Int)<(N.length:Int):=by omega
   have hje:j=N.length:=by omega
   subst hje;go_wp2
   go_ret
   exact ⟨rfl,hbel⟩
end WMkY
end
section
open Go.RowKit
namespace WMkM
set_option linter.unusedSimpArgs false in
set_option maxRecDepth 100000 in
set_option maxHeartbeats 2000000 in
theorem zf4 (a:Option Addr) (n cap K:Nat) (w:World) (hn:n≤1048576) (hK:0<K) (hK2:K≤1000000) (hv:Mem.zb8 w a (Pl.zr0 K n)):
  Calls Tryz.prog 66 #[.slice a n cap, .int .i64 (K:Int)] w fun e w'=>e= .returned (.int .i64 ((K+3*n:Nat):Int))∧Below w.heap.size w w':=by
 have HV:=hide hv;clear hv;go_enter Tryz.func66,Tryz.ntmps66
 go_wp2
 go_loopw [1,5] (fun v i wr=>∃ (k q:Nat),k≤n∧q=K+3*k∧i= .int .i64 (k:Int)∧v= .int .i64 (q:Int)∧Below w.heap.size w wr) (fun _ i _=>n - (intOf i).toNat)
 case atStart=>exact ⟨0,K,Nat.zero_le _,rfl,rfl,rfl,Below.refl _ _⟩
 case round=>
  obtain ⟨k,q,hk,hq,rfl,rfl,hbel⟩:=hrel;by_cases hlt:k<n
  ·have y1:(k:Int)<(n:Int):=by omega
   have y3:(0:Int)≤(k:Int):=by omega
   have hg0:=Pl.mkMns_get K n k hlt;simp only [Pl.mkMn,←hq] at hg0;obtain ⟨g,o,rfl,hg,c0,c1,c2⟩:=(Mem.zd8 (za HV) hbel) k _ hg0;simp only at c0 c1 c2;rw [show ((q+1:Nat):Int)=(q:Int)+1 by omega] at c1;rw [←Pl.third_is] at c2;have HM:=hide (fun W=>zp7.ze0 q W (by omega) (by omega));have HQ:=hide hq;have q1:(q:Int)≤100000000:=by omega
   clear hq hg0;have MK:Hid (∀W',Below wr.heap.size wr W'→(Below wr.heap.size wr W'∧W'.cell? ⟨g,o+k*3,none⟩=some (.string (Pl.mark q)))):=fun W' b=>⟨b,(b.cell (p:=⟨g,_,none⟩) hg).trans c0⟩;go_upto_region 4 with fail
   refine RG MK (bD _) fun hHeld=>?_;generalize wr.drew=D0 at hHeld ⊢;refine TB 0 ?_;refine TB 1 ?_;refine TB 2 ?_;refine TB 3 ?_;refine TB 4 ?_;refine TB 5 ?_;refine RN 6 fun K hK=>?_;go_simp
   refine (za HM _).mono ?_;rintro e D1 ⟨rfl,bX⟩;refine hK.out _ _ ?_ (fun hHeld=>?_)
   ·exact za MK _ (hHeld.1.trans (bX.mono hHeld.1.size))
   clear hK K bX
   try simp only [Act.put,kBs]
   refine TB 7 ?_;refine wpAnyH_done (by kernel_rfl) ?_ _;have b1:=hHeld.1;clear hHeld;have bN:=hbel.trans (b1.mono hbel.size);replace c1:=(b1.cell (p:=⟨g,_,none⟩) hg).trans c1;replace c2:=(b1.cell (p:=⟨g,_,none⟩) hg).trans c2;clear c0 MK b1;go_wp2
   go_roundw
   case rel=>exact ⟨k+1,q+3,by omega,by have :=za HQ;omega,by go_num,by go_num,bN⟩
   case measure=>simp [intOf];omega
  ·obtain rfl:k=n:=by omega
   have y1:¬ (k:Int)<(k:Int):=by omega
   have hq2:(q:Int)=((K+3*k:Nat):Int):=by omega
   have HQ:=hide hq2;clear hq hq2;go_wp2
   go_ret
   exact ⟨(by rw [za HQ];first |done|rfl),hbel⟩
end WMkM
end
section
open Go.RowKit
namespace WMkH
set_option linter.unusedSimpArgs false in
set_option maxRecDepth 100000 in
set_option maxHeartbeats 2000000 in
theorem zf4 (a:Option Addr) (n cap K:Nat) (w:World) (hn:n≤1048576) (hK:0<K) (hK2:K≤1000000) (hv:Mem.zd3 w a (Pl.mkHns K n)):
  Calls Tryz.prog 67 #[.slice a n cap, .int .i64 (K:Int)] w fun e w'=>e= .returned (.int .i64 ((K+3*n:Nat):Int))∧Below w.heap.size w w':=by
 have HV:=hide hv;clear hv;go_enter Tryz.func67,Tryz.ntmps67
 go_wp2
 go_loopw [1,5] (fun v i wr=>∃ (k q:Nat),k≤n∧q=K+3*k∧i= .int .i64 (k:Int)∧v= .int .i64 (q:Int)∧Below w.heap.size w wr) (fun _ i _=>n - (intOf i).toNat)
 case atStart=>exact ⟨0,K,Nat.zero_le _,rfl,rfl,rfl,Below.refl _ _⟩
 case round=>
  obtain ⟨k,q,hk,hq,rfl,rfl,hbel⟩:=hrel;by_cases hlt:k<n
  ·have y1:(k:Int)<(n:Int):=by omega
   have y3:(0:Int)≤(k:Int):=by omega
   have hg0:=Pl.mkHns_get K n k hlt;simp only [Pl.mkHn,←hq] at hg0;obtain ⟨g,o,rfl,hg,c0,c1,c2⟩:=(Mem.zf3 (za HV) hbel) k _ hg0;simp only at c0 c1 c2;rw [show ((q+1:Nat):Int)=(q:Int)+1 by omega] at c1;have HM:=hide (fun W=>zp7.ze0 (q+2) W (by omega) (by omega));rw [show ((q+2:Nat):Int)=(q:Int)+1+1 by omega] at HM;have HQ:=hide hq;have q1:(q:Int)≤100000000:=by omega
   clear hq hg0;have MK:Hid (∀W',Below wr.heap.size wr W'→(Below wr.heap.size wr W'∧W'.cell? ⟨g,o+k*3+2,none⟩=some (.string (Pl.mark (q+2))))):=fun W' b=>⟨b,(b.cell (p:=⟨g,_,none⟩) hg).trans c2⟩;go_upto_region 10 with fail
   refine RG MK (bD _) fun hHeld=>?_;generalize wr.drew=D0 at hHeld ⊢;refine TB 0 ?_;refine TB 1 ?_;refine TB 2 ?_;refine TB 3 ?_;refine TB 4 ?_;refine TB 5 ?_;refine RN 6 fun K hK=>?_;go_simp
   refine (za HM _).mono ?_;rintro e D1 ⟨rfl,bX⟩;refine hK.out _ _ ?_ (fun hHeld=>?_)
   ·exact za MK _ (hHeld.1.trans (bX.mono hHeld.1.size))
   clear hK K bX
   try simp only [Act.put,kBs]
   refine TB 7 ?_;refine wpAnyH_done (by kernel_rfl) ?_ _;have b1:=hHeld.1;clear hHeld;have bN:=hbel.trans (b1.mono hbel.size);clear c0 c1 c2 MK b1;go_wp2
   go_roundw
   case rel=>exact ⟨k+1,q+3,by omega,by have :=za HQ;omega,by go_num,by go_num,bN⟩
   case measure=>simp [intOf];omega
  ·obtain rfl:k=n:=by omega
   have y1:¬ (k:Int)<(k:Int):=by omega
   have hq2:(q:Int)=((K+3*k:Nat):Int):=by omega
   have HQ:=hide hq2;clear hq hq2;go_wp2
   go_ret
   exact ⟨(by rw [za HQ];first |done|rfl),hbel⟩
end WMkH
end
end Go.Proofs.YtgdjjncmocppeaaGreatDoor
