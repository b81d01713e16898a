/- Several texts of one claim in one file: WVfsLR, WMkJ, WMkX, OkNode, OkItems, OpenNode, OpenTree, OpenItems, OpenSpace. -/
import Derived.Test.YtbomeifgfalmdaaGreatDoorWVfsNa
import Derived.Test.YtbomeifgfalmdaaGreatDoorWVfsL4
import Derived.Test.YtbomeifgfalmdaaGreatDoorRows
import Derived.ProofKit
import Derived.OpenShut
import Derived.ShutString
set_option linter.unusedSimpArgs false
set_option maxRecDepth 100000
set_option maxHeartbeats 1000000
namespace Go.Proofs.YtbomeifgfalmdaaGreatDoor
section
open Go.RowKit
namespace WVfs
theorem own_is {W:World} {B:Nat} {v:Value} {K:List ByteArray} (h:ze3.Own W B v K):∃a cp,v= .slice a K.length cp:=Mem.zj4 h.texts
theorem specL (s:Pl.Sp) (p:ByteArray) (w:World) (hp:p.size≤1048576) (hok:zb0.OkS s 1048576) (hv:Mem.zd9 w s) {a b c:Prop} (_:a) (_:b) (_:c) (A:List ByteArray × Int) (hA:Pl.zo s p (Pl.zc4 s.next (s.N.map WSp.nr) s.M s.H Pl.wayB)=A):
  Calls Tryz.prog 5 #[.agg s.cs, .string p] w fun e w'=>(∃a cp,e= .returned (vnl (.slice a A.1.length cp) A.2)∧Mem.zd4 w' (.slice a A.1.length cp) A.1∧A.1.length≤480)∧Below w.heap.size w w':=
 (WVfsS.list_any s p w hp hok hv A hA).mono fun _ _ ⟨v,he,ho,hl,b⟩=>by
  obtain ⟨a,cp,rfl⟩:=own_is ho;exact ⟨⟨a,cp,he,ho.texts,hl⟩,b⟩
theorem implL (s:Pl.Sp) (p:ByteArray) (w:World) (hp:p.size≤1048576) (hok:zb0.OkS s 1048576) (hn:WSpI.OkN s) (ha:WSpI.OkA s) (hv:Mem.zd9 w s)
  (hV:∀ (r:Nat) t,WSpI.codes[r]? =some t→w.cell? ⟨0,r,none⟩=some (.int .i64 t)) (hg:w.cell? ⟨1,0,none⟩=some (.iface 210 (.agg #[.pointer (some ⟨6,69,none⟩)])))
  (r0 r1 r2 r3:TypeId) (x0 x1 x2 x3:Value) (hE:zh4.zq8 w r0 r1 r2 r3 x0 x1 x2 x3) (A:List ByteArray × Int) (hA:Pl.zo s p (Pl.zc4 s.next (s.N.map WSp.nr) s.M s.H Pl.wayB)=A):
  Calls Tryz.prog 7 #[.agg s.cs, .string p] w fun e w'=>(∃a cp S1 HH,e= .returned (vnl (.slice a A.1.length cp) A.2)∧AnN w' (.slice a A.1.length cp) A.1 S1 HH∧w.heap.size≤S1)∧Below w.heap.size w w':=
 (vlist_any s p w hp hok hn ha hv hV hg r0 r1 r2 r3 x0 x1 x2 x3 hE A hA).mono fun _ W ⟨v,he,ho,b⟩=>by
  obtain ⟨a,cp,rfl⟩:=own_is ho;exact ⟨⟨a,cp,w.heap.size,W.heap.size,he,⟨ho,fun g hg=>(ho.lt g hg).2,Nat.le_refl _⟩,Nat.le_refl _⟩,b⟩
end WVfs
end
section
open Go.RowKit
namespace WMkJ
theorem mark_from (K0 g X cap:Nat) (D:List Pl.It) (w:World) (hK0:0<K0) (hK1:K0+5242881*D.length≤8000000000000000000) (hl:D.length≤1048576) (hok:∀t∈D,t.t.L.length≤1048576) (hv:Has w g X D):
  Calls Tryz.prog 64 #[.slice (some ⟨g,0,none⟩) D.length cap, .int .i64 (K0:Int)] w fun e w'=>(∃K:Nat,e= .returned (.int .i64 (K:Int))∧K0≤K∧K≤K0+5242881*D.length)∧Mem.Band g X w w':=by
 have HO:=hide hok;have HV:=hide hv;clear hok hv;go_enter Tryz.func64,Tryz.ntmps64
 go_wp2
 go_loopw [1,5] (fun a i wr=>∃ (j K:Nat),j≤D.length∧i= .int .i64 (j:Int)∧a= .int .i64 (K:Int)∧(K0≤K∧K≤K0+5242881*j)∧Hid (Has wr g X D∧Mem.Band g X w wr)) (fun _ i _=>D.length - (intOf i).toNat)
 case atStart=>exact ⟨0,K0,Nat.zero_le _,rfl,rfl,by omega,⟨za HV,Mem.Band.refl _ _ _⟩⟩
 case round=>
  obtain ⟨j,K,hj,rfl,rfl,hK,HA⟩:=hrel;by_cases hlt:j<D.length
  ·obtain ⟨t,ht⟩:∃t,D[j]? =some t:=⟨_,List.getElem?_eq_getElem hlt⟩;have htl:=za HO t (List.mem_of_getElem? ht);have HS:=hide ((za HA).1.many (i:=j) (.int .i64 (K:Int)));have BS:=hide ((za HA).2.trans (Mem.Band.of_set (w:=wr) ⟨g,j*2,none⟩ (.int .i64 (K:Int)) (Nat.le_refl _) (za HA).1.gx));have c1:=(za HS).cell j t ht;obtain ⟨q,h1,h2,h3,cs,h4,h5⟩:=(za HS).each j t ht;obtain ⟨cur,hb1,hb2⟩:=(za HA).1.blk;obtain ⟨x0,s0⟩:∃x,wr.cell? ⟨g,j*2,none⟩=some x:=⟨_,(cell_of_row wr _ (j*2) _ _ (0,0) hb1).trans (Array.getElem?_eq_getElem (by omega))⟩;have f0:wr.frozen? ⟨g,j*2,none⟩=false:=Mem.zc2 hb1;obtain ⟨tm,ta,tc,tL⟩:=t;simp only at h1 h5 htl;subst h1;simp only [Pl.Tr.val] at c1;have hm:=hide (zk9.lay_any q tL.length tc (K+1) cs (wr.setCell ⟨g,j*2,none⟩ (.int .i64 (K:Int))) htl (by omega) (by omega) h4 h5);have H4:=hide h4;have u1:(j:Int)<(D.length:Int):=by omega
   have u3:(0:Int)≤(j:Int):=by omega
   have eK:((K+1:Nat):Int)=(K:Int)+1:=by omega
   rw [eK] at hm;clear h4 h5 ht HA hb1 hb2;go_wp2_with fail
   refine (za hm).mono ?_;rintro e w2 ⟨rfl,⟨cur',hr',hs'⟩, -,hg⟩;have HB:Hid (Has w2 g X D∧Mem.Band g X w w2):=⟨(za HS).marked h2 (za H4) hr' hs' hg,(za BS).trans (Mem.Band.zt3 hg (by omega) h3)⟩;clear HS BS hm H4 hr' hs' hg c1 s0 f0;generalize hK2:K+1+5*tL.length=K2;have hK3:K0≤K2∧K2≤K0+5242881*(j+1):=by omega
   clear hK2 hK htl;go_wp2
   go_roundw
   case rel=>exact ⟨j+1,K2,by omega,by go_num,rfl,hK3,HB⟩
   case measure=>simp [intOf];omega
  ·have u1:¬ (j:Int)<(D.length:Int):=by omega
   go_wp2
   go_ret
   exact ⟨⟨K,rfl,by omega,by omega⟩,(za HA).2⟩
end WMkJ
end
section
open Go.RowKit
namespace WMkX
open zb0
structure Left (W:World) (N:List Pl.Ns) (gi:Nat) (B:Nat→Nat) (j:Nat):Prop where
 ib:∃cur,W.heap[gi]? =some (.cells cur 96 (0,0))∧cur.size=N.length*2∧∀ (i:Nat) t,N[i]? =some t→cur[i*2+1]? =some (.slice t.a t.Is.length t.cap)
 band:∀ (i:Nat) t,j≤i→N[i]? =some t→∃g,t.a=some ⟨g,0,none⟩∧B i≤g∧WMkJ.Has W g (B (i+1)) t.Is
theorem Left.id {W:World} {N:List Pl.Ns} {gi:Nat} {B:Nat→Nat} {j:Nat} (h:Left W N gi B j) (hr:∀i,i<N.length→gi<B i) (v:Value):Left (W.setCell ⟨gi,j*2,none⟩ v) N gi B j:=by
 obtain ⟨⟨cur,h1,h2,h3⟩,h4⟩:=h;refine ⟨⟨_,heap_setCell_same _ _ _ _ _ _ h1,by simpa using h2,fun i t hi=>?_⟩,fun i t hj hi=>?_⟩
 ·rw [Array.getElem?_setIfInBounds,if_neg (by omega)];exact h3 i t hi
 ·obtain ⟨g,k1,k2,k3⟩:=h4 i t hj hi;have :=hr i (List.getElem?_eq_some_iff.1 hi).1;exact ⟨g,k1,k2,k3.low _ _ (by show gi<g;omega)⟩
theorem Left.next {W W':World} {N:List Pl.Ns} {gi:Nat} {B:Nat→Nat} {j g:Nat} (h:Left W N gi B j) (hr:∀i,i<N.length→gi<B i) (hm:∀i,j<i→i<N.length→B (j+1)≤B i) (hg:B j≤g) (hj:j<N.length) (hb:Mem.Band g (B (j+1)) W W'):Left W' N gi B (j+1):=by
 obtain ⟨⟨cur,h1,h2,h3⟩,h4⟩:=h;refine ⟨⟨cur,(hb.block gi (Array.getElem?_eq_some_iff.1 h1).1 (.inl (by have :=hr j hj;omega))).trans h1,h2,h3⟩,fun i t hi ht=>?_⟩;obtain ⟨g',k1,k2,k3⟩:=h4 i t (by omega) ht;have :=hm i (by omega) (List.getElem?_eq_some_iff.1 ht).1;exact ⟨g',k1,k2,k3.same (fun b h1 h2 h3=>hb.block b h3 (.inr (by omega)))⟩
theorem Left.start {W:World} {s:Pl.Sp} {gi gm gh:Nat} {B:Nat→Nat} (h:HasS W s gi gm gh B):Left W s.N gi B 0:=⟨h.ib,fun i t _ hi=>h.band i t hi⟩
theorem zo4 (N:List Pl.Ns) (gi gm cap:Nat) (B:Nat→Nat) (w:World) (hl:N.length≤1048576) (hok:∀x∈N,x.Is.length≤1048576∧∀t∈x.Is,t.t.L.length≤1048576) (hr:∀i,i<N.length→gi<B i) (hm:∀j i,j<i→i≤N.length→B (j+1)≤B i) (htop:B N.length≤gm) (hgm:gi<gm) (hv:Left w N gi B 0):
  Calls Tryz.prog 32 #[.slice (some ⟨gi,0,none⟩) N.length cap, .int .i64 1] w fun e w'=>(∃K:Nat,e= .returned (.int .i64 (K:Int))∧0<K∧K≤5800000000000000000)∧Mem.Band gi gm w w':=by
 have HO:=hide hok;have HV:=hide hv;have HM:=hide hm;have HR:=hide hr;have HT:=hide htop;clear hok hv hm hr htop;go_enter Tryz.func32,Tryz.ntmps32
 go_wp2
 go_loopw [1,5] (fun a i wr=>∃ (j K:Nat),j≤N.length∧i= .int .i64 (j:Int)∧a= .int .i64 (K:Int)∧(0<K∧K≤1+5497559187457*j)∧Hid (Left wr N gi B j∧Mem.Band gi gm w wr)) (fun _ i _=>N.length - (intOf i).toNat)
 case atStart=>exact ⟨0,1,Nat.zero_le _,rfl,rfl,by omega,⟨za HV,Mem.Band.refl _ _ _⟩⟩
 case round=>
  obtain ⟨j,K,hj,rfl,rfl,hK,HA⟩:=hrel;by_cases hlt:j<N.length
  ·obtain ⟨t,ht⟩:∃t,N[j]? =some t:=⟨_,List.getElem?_eq_getElem hlt⟩;have htl:=za HO t (List.mem_of_getElem? ht);have HS:=hide ((za HA).1.id (za HR) (.int .i64 (K:Int)));have BS:=hide ((za HA).2.trans (Mem.Band.of_set (w:=wr) ⟨gi,j*2,none⟩ (.int .i64 (K:Int)) (Nat.le_refl _) hgm));obtain ⟨cur,hb1,hb2,hb3⟩:=(za HA).1.ib;obtain ⟨cur2,hd1,hd2,hd3⟩:=(za HS).ib;have c1:=(cell_of_row (wr.setCell ⟨gi,j*2,none⟩ (.int .i64 (K:Int))) _ (j*2+1) _ _ (0,0) hd1).trans (hd3 j t ht);obtain ⟨g,h1,h2,h3⟩:=(za HS).band j t (Nat.le_refl _) ht;obtain ⟨x0,s0⟩:∃x,wr.cell? ⟨gi,j*2,none⟩=some x:=⟨_,(cell_of_row wr _ (j*2) _ _ (0,0) hb1).trans (Array.getElem?_eq_getElem (by omega))⟩;have f0:wr.frozen? ⟨gi,j*2,none⟩=false:=Mem.zc2 hb1;obtain ⟨td,ta,tc,tI⟩:=t;simp only at h1 h3 htl c1;subst h1
   have hml:=hide (WMkJ.mark_from (K+1) g (B (j+1)) tc tI (wr.setCell ⟨gi,j*2,none⟩ (.int .i64 (K:Int))) (by omega) (by omega) htl.1 htl.2 h3);have H2:=hide h2;have u1:(j:Int)<(N.length:Int):=by omega
   have u3:(0:Int)≤(j:Int):=by omega
   have eK:((K+1:Nat):Int)=(K:Int)+1:=by omega
   rw [eK] at hml;have htl1:=htl.1;clear h2 h3 ht HA hb1 hb2 hb3 hd1 hd2 hd3 eK htl;go_wp2_with fail
   refine (za hml).mono ?_;rintro e w2 ⟨⟨K2,rfl,hk1,hk2⟩,hg⟩
   have HB:Hid (Left w2 N gi B (j+1)∧Mem.Band gi gm w w2):=by
    have q1:=za HR j hlt;have q2:=za HM j N.length hlt (Nat.le_refl _);have q3:=za HT;have q4:=za H2;exact ⟨(za HS).next (za HR) (fun i hi hl=>za HM j i hi (by omega)) q4 hlt hg,(za BS).trans ⟨hg.os,hg.tape,hg.output,hg.size,fun b hb hh=>hg.block b hb (by omega)⟩⟩
   have hK3:0<K2∧K2≤1+5497559187457*(j+1):=by omega
   clear HS BS hml hg c1 s0 f0 H2 hk1 hk2 htl1 hK;go_wp2
   go_roundw
   case rel=>exact ⟨j+1,K2,by omega,by go_num,rfl,hK3,HB⟩
   case measure=>simp [intOf];omega
  ·have u1:¬ (j:Int)<(N.length:Int):=by omega
   go_wp2
   go_ret
   exact ⟨⟨K,rfl,by omega,by omega⟩,(za HA).2⟩
theorem ye1 (s:Pl.Sp) (gi gm gh:Nat) (B:Nat→Nat) (w:World) (hok:OkS s 1048576) (hv:HasS w s gi gm gh B):
  Calls Tryz.prog 10 #[.agg s.cs, .int .i64 1] w fun e w'=>(∃K:Nat,e= .returned (.int .i64 (K:Int))∧0<K)∧Mem.Band gi (gh+1) w w':=by
 have hr:∀i,i<s.N.length→gi<B i:=fun i hi=>by have :=hv.lo;have :=hv.mono i (by omega);omega
 have hm:∀j i,j<i→i≤s.N.length→B (j+1)≤B i:=fun j i h1 h2=>hv.rise i (j+1) (by omega) h2;have hgm:gi<gm:=by have :=hv.lo;have :=hv.mono s.N.length (Nat.le_refl _);have :=hv.top;omega
 have hmh:=hv.mh;have h1:=hide (fun cap W (b:Below w.heap.size w W)=>zo4 s.N gi gm cap B W hok.n (fun x hx=>⟨(hok.each x hx).1,fun t ht=>((hok.each x hx).2 t ht).1⟩) hr hm hv.top hgm (Left.start (hv.call b)));obtain ⟨c2,q1,q2⟩:=hv.mb;obtain ⟨c3,q3,q4⟩:=hv.hb;have lm:gm<w.heap.size:=(Array.getElem?_eq_some_iff.1 q1).1;have lh:gh<w.heap.size:=(Array.getElem?_eq_some_iff.1 q3).1;have h2:=hide (fun cap K W (hK:0<K) (hK2:K≤8500000000000000000) (h:W.heap[gm]? =some (.cells c2 49 (0,0)))=>WMkM.zf3 gm s.M.length cap K c2 W hok.m hK hK2 h (by omega));have h3:=hide (fun cap K W (hK:0<K) (hK2:K≤8500000000000000000) (h:W.heap[gh]? =some (.cells c3 113 (0,0)))=>WMkH.zf3 gh s.H.length cap K c3 W hok.h hK hK2 h (by omega));have QM:=hide q1;have QH:=hide q3;have ei:=hv.ia;have em:=hv.ma;have eh:=hv.ha;have lM:=hok.m;have lH:=hok.h;clear q1 q2 q3 q4 hv hok hr hm
 obtain ⟨ia,ic,N,ma,mc,M,ha,hc,H,next⟩:=s;simp only at ei em eh h1 h2 h3 lM lH;subst ei em eh;unfold Pl.Sp.cs;simp only;have b0:=(Below.refl w.heap.size w).alloc (o:= .cells #[.slice (some ⟨gi,0,none⟩) N.length ic, .slice (some ⟨gm,0,none⟩) M.length mc, .slice (some ⟨gh,0,none⟩) H.length hc, .int .i64 next] 32) (Nat.le_refl _);have V0:=hide (Mem.Blk.new w #[.slice (some ⟨gi,0,none⟩) N.length ic, .slice (some ⟨gm,0,none⟩) M.length mc, .slice (some ⟨gh,0,none⟩) H.length hc, .int .i64 next] 32);have D0:Hid (Mem.Band gi (gh+1) w (w.alloc (.cells #[.slice (some ⟨gi,0,none⟩) N.length ic, .slice (some ⟨gm,0,none⟩) M.length mc, .slice (some ⟨gh,0,none⟩) H.length hc, .int .i64 next] 32))):=hide (Mem.Band.of_below b0);have QM0:=hide ((b0.block gm lm).trans (za QM));have QH0:=hide ((b0.block gh lh).trans (za QH));have a0:=(za V0).cell 0;simp only [kGs] at a0
 clear QM QH;go_enter Tryz.func10,Tryz.ntmps10
 go_wp2_with fail
 have HC:=hide (za h1 ic _ b0);clear h1;generalize w.alloc (.cells #[.slice (some ⟨gi,0,none⟩) N.length ic, .slice (some ⟨gm,0,none⟩) M.length mc, .slice (some ⟨gh,0,none⟩) H.length hc, .int .i64 next] 32)=wA at b0 V0 D0 QM0 QH0 a0 HC ⊢;refine (za HC).mono ?_;rintro e w1 ⟨⟨K1,rfl,k1,k2⟩,bd1⟩;have hlA:gh<wA.heap.size:=(Array.getElem?_eq_some_iff.1 (za QH0)).1;have hlV:w.heap.size<wA.heap.size:=(za V0).lt;have V1:=hide (bd1.blk (za V0) (.inr (by omega)));have QM1:=hide ((bd1.block gm (by omega) (.inr (Nat.le_refl _))).trans (za QM0));have QH1:=hide ((bd1.block gh hlA (.inr (by omega))).trans (za QH0));have D1:=hide ((za D0).trans ⟨bd1.os,bd1.tape,bd1.output,bd1.size,fun b hb hh=>bd1.block b hb (by omega)⟩);have hl1:=bd1.size;clear HC bd1 V0 D0 QM0 QH0 a0 b0;have a1:=(za V1).cell 1;simp only [kGs] at a1;have HC:=hide (za h2 mc K1 w1 k1 (by omega) (za QM1));clear h2
 go_wp2_with fail
 refine (za HC).mono ?_;rintro e w2 ⟨rfl, -, -,gr⟩;have V2:=hide ((za V1).grown gr (fun e=>by have :=Option.some.inj e;omega));have QH2:=hide ((gr.block gh (by omega) (fun e=>by have :=Option.some.inj e;omega)).trans (za QH1));have D2:=hide ((za D1).trans (Mem.Band.zt3 gr (by omega) (by omega)));have hl2:=gr.size;clear HC gr V1 D1 QM1 QH1 a1;have a2:=(za V2).cell 2;simp only [kGs] at a2;have HC:=hide (za h3 hc (K1+3*M.length) w2 (by omega) (by omega) (za QH2));clear h3;go_wp2_with fail
 refine (za HC).mono ?_;rintro e w3 ⟨rfl, -, -,gr⟩;have D3:=hide ((za D2).trans (Mem.Band.zt3 gr (by omega) (by omega)));clear HC gr V2 D2 QH2 a2;go_wp2
 go_ret
 exact ⟨⟨_,rfl,by omega⟩,za D3⟩
end WMkX
end
section
open Go.RowKit
namespace zm3
def Ok (n:Pl.Nd):Prop:=n.path.size≤maxLen∧n.data.size≤maxLen∧(-9223372036854775808≤n.kind∧n.kind≤9223372036854775807)∧(-9223372036854775808≤n.time∧n.time≤9223372036854775807)∧(-9223372036854775808≤n.mark∧n.mark≤9223372036854775807)
end zm3
end
section
open Go.RowKit
namespace zr9
structure OkI (w:World) (a:Option Addr) (Is:List Pl.It):Prop where
 len:Is.length≤maxLen
 items:Mem.zb4 w a Is
 ok:∀x∈Is,x.t.L.length≤maxLen∧∀n∈x.t.L,zm3.Ok n
end zr9
end
section
open Go.ChangeShapes Go.WideShapes Go.ChangeAt Go.RowKit
namespace zm3
theorem five {α:Type} {l:List α} (h:l.length=5):∃a b c d e,l=[a,b,c,d,e]:=by
 match l,h with
 | [a,b,c,d,e],_=>exact ⟨a,b,c,d,e,rfl⟩
theorem cells5:Tryz.prog.cellsOf 273=5:=by kernel_rfl
theorem cellsS:Tryz.prog.cellsOf 9=1:=by kernel_rfl
theorem zd2:Tryz.prog.cellsOf 2=1:=by kernel_rfl
theorem node {H:Type} {enc:TypeId × Value→H} {w:World} {base fuel:Nat} {spare:Nat→Bool} {held:Bool} {cs:List Value} {x:DataW H × List MemPlace}
  (h:DataW.trod enc Tryz.prog w base spare held fuel 273 cs=some x):∃n:Pl.Nd,cs=n.cells∧Ok n:=by
 obtain ⟨xs,m,rfl, -,hlen,hxl,hf⟩:=DataW.trod_struct Tryz.underlying273 h;obtain ⟨c0,c1,c2,c3,c4,rfl⟩:=five (hlen.trans cells5);obtain ⟨y0,y1,y2,y3,y4,rfl⟩:=five hxl;have h0:=hf 0 _ rfl;have h1:=hf 1 _ rfl;have h2:=hf 2 _ rfl;have h3:=hf 3 _ rfl;have h4:=hf 4 _ rfl
 change DataW.trod enc Tryz.prog w base spare held m 9 (([c0,c1,c2,c3,c4].drop 0).take (Tryz.prog.cellsOf 9))=some y0 at h0
 rw [cellsS] at h0
 change DataW.trod enc Tryz.prog w base spare held m 2 (([c0,c1,c2,c3,c4].drop 1).take (Tryz.prog.cellsOf 2))=some y1 at h1
 rw [zd2] at h1
 change DataW.trod enc Tryz.prog w base spare held m 9 (([c0,c1,c2,c3,c4].drop 2).take (Tryz.prog.cellsOf 9))=some y2 at h2
 rw [cellsS] at h2
 change DataW.trod enc Tryz.prog w base spare held m 2 (([c0,c1,c2,c3,c4].drop 3).take (Tryz.prog.cellsOf 2))=some y3 at h3
 rw [zd2] at h3
 change DataW.trod enc Tryz.prog w base spare held m 2 (([c0,c1,c2,c3,c4].drop 4).take (Tryz.prog.cellsOf 2))=some y4 at h4
 rw [zd2] at h4;obtain ⟨p,e0, -,wp⟩:=DataW.trod_string Tryz.underlying9 h0;obtain ⟨k,e1, -,wk⟩:=DataW.trod_int Tryz.underlying2 h1;obtain ⟨d,e2, -,wd⟩:=DataW.trod_string Tryz.underlying9 h2;obtain ⟨t,e3, -,wt⟩:=DataW.trod_int Tryz.underlying2 h3;obtain ⟨q,e4, -,wq⟩:=DataW.trod_int Tryz.underlying2 h4;simp at e0 e1 e2 e3 e4
 subst e0 e1 e2 e3 e4;exact ⟨⟨p,k,d,t,q⟩,rfl,wp,wd,zv7 wk,zv7 wt,zv7 wq⟩
end zm3
end
section
open Go.ChangeShapes Go.WideShapes Go.ChangeAt Go.RowKit
namespace zs4
theorem cells1:Tryz.prog.cellsOf 194=1:=by kernel_rfl
theorem cellsL:Tryz.prog.cellsOf 192=1:=by kernel_rfl
structure OkT (w:World) (a:Option Addr) (L:List Pl.Nd):Prop where
 len:L.length≤maxLen
 nodes:Mem.zb1 w a L
 ok:∀n∈L,zm3.Ok n
theorem one {α:Type} {l:List α} (h:l.length=1):∃a,l=[a]:=by
 match l,h with
 | [a],_=>exact ⟨a,rfl⟩
theorem mapM5 {f:Nat→Option Value} {c0 c1 c2 c3 c4:Value} (h:(List.range 5).mapM f=some [c0,c1,c2,c3,c4]):f 0=some c0∧f 1=some c1∧f 2=some c2∧f 3=some c3∧f 4=some c4:=by
 have e:List.range 5=[0,1,2,3,4]:=rfl;rw [e] at h;simp only [List.mapM_cons,List.mapM_nil,Option.pure_def,Option.bind_eq_bind] at h;cases h0:f 0 with
 |none=>rw [h0] at h;simp at h
 |some a0=>
  cases h1:f 1 with
  |none=>rw [h0,h1] at h;simp at h
  |some a1=>
   cases h2:f 2 with
   |none=>rw [h0,h1,h2] at h;simp at h
   |some a2=>
    cases h3:f 3 with
    |none=>rw [h0,h1,h2,h3] at h;simp at h
    |some a3=>
     cases h4:f 4 with
     |none=>rw [h0,h1,h2,h3,h4] at h;simp at h
     |some a4=>
      rw [h0,h1,h2,h3,h4] at h;simp at h
      obtain ⟨rfl,rfl,rfl,rfl,rfl⟩:=h;exact ⟨rfl,rfl,rfl,rfl,rfl⟩
end zs4
end
section
open Go.ChangeShapes Go.WideShapes Go.ChangeAt Go.RowKit
namespace zr9
theorem cells2:Tryz.prog.cellsOf 196=2:=by kernel_rfl
theorem zd2:Tryz.prog.cellsOf 2=1:=by kernel_rfl
theorem two {α:Type} {l:List α} (h:l.length=2):∃a b,l=[a,b]:=by
 match l,h with
 | [a,b],_=>exact ⟨a,b,rfl⟩
theorem tree {H:Type} {enc:TypeId × Value→H} {w:World} {base fuel:Nat} {spare:Nat→Bool} {held:Bool} {cs:List Value} {x:DataW H × List MemPlace}
  (hf:DataW.trod enc Tryz.prog w base spare held fuel 194 cs=some x):∃t:Pl.Tr,cs=[t.val]∧zs4.OkT w t.a t.L:=by
 obtain ⟨xs,m,rfl, -,hlen,hxl,hfl⟩:=DataW.trod_struct Tryz.underlying194 hf;obtain ⟨c,rfl⟩:=zs4.one (hlen.trans zs4.cells1);obtain ⟨y,rfl⟩:=zs4.one hxl;have h0:=hfl 0 _ rfl
 change DataW.trod enc Tryz.prog w base spare held m 192 (([c].drop 0).take (Tryz.prog.cellsOf 192))=some y at h0
 rw [zs4.cellsL] at h0
 rcases DataW.trod_slice Tryz.underlying192 h0 with ⟨e, -⟩|⟨a,len,cap,elems,rest,k, -,e, -,hb,hl,hm,hel,hE, -, -⟩
 ·simp at e
  subst e;exact ⟨⟨none,0,[]⟩,rfl,⟨Nat.zero_le _,Mem.yf5 _ _,fun n hn=>by cases hn⟩⟩
 ·simp at e
  subst e
  have each:∀i,i<len→∃n:Pl.Nd,zm3.Ok n∧(∃b o,some a=some ⟨b,o,none⟩∧b<w.heap.size∧
    w.cell? ⟨b,o+i*5,none⟩=some (.string n.path)∧w.cell? ⟨b,o+i*5+1,none⟩=some (.int .i64 n.kind)∧w.cell? ⟨b,o+i*5+2,none⟩=some (.string n.data)∧
    w.cell? ⟨b,o+i*5+3,none⟩=some (.int .i64 n.time)∧w.cell? ⟨b,o+i*5+4,none⟩=some (.int .i64 n.mark)):=by
   intro i hi;have h1:=hE i hi;rw [List.getElem?_eq_getElem (by omega),zm3.cells5] at h1;simp only [Option.bind_eq_some_iff] at h1;obtain ⟨ds,h2,h3⟩:=h1;obtain ⟨n,rfl,ok⟩:=zm3.node h3;unfold World.cells? at h2
   split at h2
   rotate_left
   ·cases h2
   obtain ⟨g0,g1,g2,g3,g4⟩:=zs4.mapM5 h2;obtain ⟨b,o,spot⟩:=a
   have hspot:spot=none:=by
    have h1:=hE 0 (by omega);rw [List.getElem?_eq_getElem (by omega),zm3.cells5] at h1;simp only [Option.bind_eq_some_iff] at h1;obtain ⟨ds,h2,h3⟩:=h1;obtain ⟨n,rfl,ok⟩:=zm3.node h3;unfold World.cells? at h2
    split at h2
    rotate_left
    ·cases h2
    simpa [Addr.add] using World.cell?_spot (zs4.mapM5 h2).1
   subst hspot;have add:∀j,((⟨b,o,none⟩:Addr).add (i*5)).add j=⟨b,o+i*5+j,none⟩:=fun j=>by rw [Mem.zr2,Mem.zr2]
   rw [add] at g0 g1 g2 g3 g4;exact ⟨n,ok,b,o,rfl,World.block_lt_of_cell? w ⟨b,o+i*5+0,none⟩ g0,g0,g1,g2,g3,g4⟩
  refine ⟨⟨some a,cap,List.ofFn (fun i:Fin len=>Classical.choose (each i i.2))⟩,by simp [Pl.Tr.val],⟨by simp;omega,fun i n hn=>?_,fun n hn=>?_⟩⟩
  ·rw [List.getElem?_ofFn] at hn
   split at hn
   ·cases hn;exact (Classical.choose_spec (each i (by assumption))).2
   ·cases hn
  ·obtain ⟨i,rfl⟩:=List.mem_ofFn.1 hn;exact (Classical.choose_spec (each i i.2)).1
theorem item {H:Type} {enc:TypeId × Value→H} {w:World} {base fuel:Nat} {spare:Nat→Bool} {held:Bool} {cs:List Value} {x:DataW H × List MemPlace}
  (hf:DataW.trod enc Tryz.prog w base spare held fuel 196 cs=some x):∃y:Pl.It,cs=[.int .i64 y.m,y.t.val]∧zs4.OkT w y.t.a y.t.L:=by
 obtain ⟨xs,m,rfl, -,hlen,hxl,hfl⟩:=DataW.trod_struct Tryz.underlying196 hf;obtain ⟨c,d,rfl⟩:=two (hlen.trans cells2);obtain ⟨y,z,rfl⟩:=two hxl;have h0:=hfl 0 _ rfl;have h1:=hfl 1 _ rfl
 change DataW.trod enc Tryz.prog w base spare held m 2 (([c,d].drop 0).take (Tryz.prog.cellsOf 2))=some y at h0
 change DataW.trod enc Tryz.prog w base spare held m 194 (([c,d].drop 1).take (Tryz.prog.cellsOf 194))=some z at h1
 rw [zd2] at h0;rw [zs4.cells1] at h1;obtain ⟨t,e,ok⟩:=tree h1;obtain ⟨n,e0, -, -⟩:=DataW.trod_int Tryz.underlying2 h0;simp at e e0
 subst e e0;exact ⟨⟨n,t⟩,rfl,ok⟩
end zr9
end
section
open Go.ChangeShapes Go.WideShapes Go.ChangeAt Go.RowKit
namespace OpenSp
theorem rows {α:Type} {H:Type} {enc:TypeId × Value→H} {w:World} {base fuel:Nat} {spare:Nat→Bool} {held:Bool} {T E:TypeId} {c:Nat} (hu:Tryz.prog.underlying T=some (.slice E)) (hc:Tryz.prog.cellsOf E=c) (hc0:0<c) (cs:α→List Value) (R:α→Prop)
  (hone:∀ (m:Nat) (ds:List Value) (y:DataW H × List MemPlace),DataW.trod enc Tryz.prog w base spare held m E ds=some y→∃t:α,ds=cs t∧R t)
  {v:Value} {x:DataW H × List MemPlace} (h:DataW.trod enc Tryz.prog w base spare held fuel T [v]=some x):
  ∃ (a:Option Addr) (L:List α) (cap:Nat),v= .slice a L.length cap∧L.length≤maxLen∧(∀ (i:Nat) t,L[i]? =some t→∃b o,a=some ⟨b,o,none⟩∧b<w.heap.size∧∀j u,(cs t)[j]? =some u→w.cell? ⟨b,o+i*c+j,none⟩=some u)∧∀t∈L,R t:=by
 rcases DataW.trod_slice hu h with ⟨e, -⟩|⟨a,len,cap,elems,rest,k, -,e, -,hb,hl,hm,hel,hE, -, -⟩
 ·obtain rfl:v= .slice none 0 0:=by simpa using e
  exact ⟨none,[],0,rfl,Nat.zero_le _,fun i t hi=>by simp at hi,fun t ht=>by cases ht⟩
 ·obtain rfl:v= .slice (some a) len cap:=by simpa using e
  have hsp:0<len→a.spot=none:=by
   intro h0;have h1:=hE 0 h0;rw [List.getElem?_eq_getElem (by omega),hc] at h1;simp only [Option.bind_eq_some_iff] at h1;obtain ⟨ds,h2, -⟩:=h1;unfold World.cells? at h2
   split at h2
   rotate_left
   ·cases h2
   have hlen:=mapM_some_length h2;rw [List.length_range] at hlen;have hg:=mapM_some_get h2 0 0 (by rw [List.getElem?_range hc0]);rw [List.getElem?_eq_getElem (by omega)] at hg
   simpa [Addr.add] using World.cell?_spot hg
  have each:∀i,i<len→∃t:α,R t∧∃b o,some a=some (⟨b,o,none⟩:Addr)∧b<w.heap.size∧∀j u,(cs t)[j]? =some u→w.cell? ⟨b,o+i*c+j,none⟩=some u:=by
   intro i hi;have h1:=hE i hi;rw [List.getElem?_eq_getElem (by omega),hc] at h1;simp only [Option.bind_eq_some_iff] at h1;obtain ⟨ds,h2,h3⟩:=h1;obtain ⟨t,rfl,ok⟩:=hone _ _ _ h3;unfold World.cells? at h2
   split at h2
   rotate_left
   ·cases h2
   have hlen:=mapM_some_length h2;rw [List.length_range] at hlen;have hget:∀j,j<c→w.cell? ((a.add (i*c)).add j)=(cs t)[j]?:=fun j hj=>mapM_some_get h2 j j (by rw [List.getElem?_range hj]);obtain ⟨b,o,spot⟩:=a;have g0:w.cell? (((⟨b,o,spot⟩:Addr).add (i*c)).add 0)=some ((cs t)[0]'(by omega)):=by rw [hget 0 hc0];exact List.getElem?_eq_getElem (by omega)
   have hspot:spot=none:=hsp (by omega);subst hspot;have add:∀j,((⟨b,o,none⟩:Addr).add (i*c)).add j=⟨b,o+i*c+j,none⟩:=fun j=>by rw [Mem.zr2,Mem.zr2]
   rw [add] at g0;refine ⟨t,ok,b,o,rfl,World.block_lt_of_cell? w ⟨b,o+i*c+0,none⟩ g0,fun j u hj=>?_⟩;have hjl:=(List.getElem?_eq_some_iff.1 hj).1;rw [←add,hget j (by omega)];exact hj
  refine ⟨some a,List.ofFn (fun i:Fin len=>Classical.choose (each i i.2)),cap,by simp,by simp;omega,fun i t ht=>?_,fun t ht=>?_⟩
  ·rw [List.getElem?_ofFn] at ht
   split at ht
   ·cases ht
    exact (Classical.choose_spec (each i (by assumption))).2
   ·cases ht
  ·obtain ⟨i,rfl⟩:=List.mem_ofFn.1 ht;exact (Classical.choose_spec (each i i.2)).1
theorem cellsB:Tryz.prog.cellsOf 4=1:=by kernel_rfl
theorem zi0:Tryz.prog.cellsOf 85=2:=by kernel_rfl
theorem cellsM:Tryz.prog.cellsOf 87=3:=by kernel_rfl
theorem cellsH:Tryz.prog.cellsOf 90=3:=by kernel_rfl
theorem cellsP:Tryz.prog.cellsOf 26=4:=by kernel_rfl
theorem cellsNs:Tryz.prog.cellsOf 22=1:=by kernel_rfl
theorem cellsMs:Tryz.prog.cellsOf 23=1:=by kernel_rfl
theorem cellsHs:Tryz.prog.cellsOf 24=1:=by kernel_rfl
theorem cellsIs:Tryz.prog.cellsOf 83=1:=by kernel_rfl
theorem three {α:Type} {l:List α} (h:l.length=3):∃a b c,l=[a,b,c]:=by
 match l,h with
 | [a,b,c],_=>exact ⟨a,b,c,rfl⟩
theorem four {α:Type} {l:List α} (h:l.length=4):∃a b c d,l=[a,b,c,d]:=by
 match l,h with
 | [a,b,c,d],_=>exact ⟨a,b,c,d,rfl⟩
section
variable {H:Type} {enc:TypeId × Value→H} {w:World} {base fuel:Nat} {spare:Nat→Bool} {held:Bool}
theorem items {v:Value} {x:DataW H × List MemPlace} (h:DataW.trod enc Tryz.prog w base spare held fuel 83 [v]=some x):∃ (a:Option Addr) (Is:List Pl.It) (cap:Nat),v= .slice a Is.length cap∧zr9.OkI w a Is:=by
 obtain ⟨a,L,cap,e,hl,hr,hR⟩:=rows (α:=Pl.It) Tryz.underlying83 zr9.cells2 (by omega) (fun y=>[.int .i64 y.m,y.t.val]) (fun y=>zs4.OkT w y.t.a y.t.L) (fun m ds y hy=>zr9.item hy) h;refine ⟨a,L,cap,e,hl,fun i t hi=>?_,fun t ht=>⟨(hR t ht).len,(hR t ht).ok⟩⟩;obtain ⟨b,o,h1,h2,h3⟩:=hr i t hi;exact ⟨⟨b,o,h1,h2,h3 0 _ rfl,h3 1 _ rfl⟩,(hR t (List.mem_of_getElem? hi)).nodes⟩
theorem inst {cs:List Value} {x:DataW H × List MemPlace} (h:DataW.trod enc Tryz.prog w base spare held fuel 85 cs=some x):∃y:Pl.Ns,cs=[.int .i64 y.d, .slice y.a y.Is.length y.cap]∧zr9.OkI w y.a y.Is:=by
 obtain ⟨xs,m,rfl, -,hlen,hxl,hf⟩:=DataW.trod_struct Tryz.underlying85 h;obtain ⟨c,d,rfl⟩:=zr9.two (hlen.trans zi0);obtain ⟨y,z,rfl⟩:=zr9.two hxl;have h0:=hf 0 _ rfl;have h1:=hf 1 _ rfl
 change DataW.trod enc Tryz.prog w base spare held m 2 (([c,d].drop 0).take (Tryz.prog.cellsOf 2))=some y at h0
 change DataW.trod enc Tryz.prog w base spare held m 83 (([c,d].drop 1).take (Tryz.prog.cellsOf 83))=some z at h1
 rw [zr9.zd2] at h0;rw [cellsIs] at h1;obtain ⟨n,e0, -, -⟩:=DataW.trod_int Tryz.underlying2 h0;obtain ⟨a,Is,cap,e1,ok⟩:=items (v:=d) h1;simp at e0
 subst e0 e1;exact ⟨⟨n,a,cap,Is⟩,rfl,ok⟩
theorem mount {cs:List Value} {x:DataW H × List MemPlace} (h:DataW.trod enc Tryz.prog w base spare held fuel 87 cs=some x):∃y:Pl.Mn,cs=[.string y.p, .int .i64 y.i, .bool y.z]∧y.p.size≤maxLen∧MapI.i64 y.i:=by
 obtain ⟨xs,m,rfl, -,hlen,hxl,hf⟩:=DataW.trod_struct Tryz.underlying87 h;obtain ⟨c0,c1,c2,rfl⟩:=three (hlen.trans cellsM);obtain ⟨y0,y1,y2,rfl⟩:=three hxl;have h0:=hf 0 _ rfl;have h1:=hf 1 _ rfl;have h2:=hf 2 _ rfl
 change DataW.trod enc Tryz.prog w base spare held m 9 (([c0,c1,c2].drop 0).take (Tryz.prog.cellsOf 9))=some y0 at h0
 change DataW.trod enc Tryz.prog w base spare held m 2 (([c0,c1,c2].drop 1).take (Tryz.prog.cellsOf 2))=some y1 at h1
 change DataW.trod enc Tryz.prog w base spare held m 4 (([c0,c1,c2].drop 2).take (Tryz.prog.cellsOf 4))=some y2 at h2
 rw [zm3.cellsS] at h0;rw [zm3.zd2] at h1;rw [cellsB] at h2;obtain ⟨p,e0, -,wp⟩:=DataW.trod_string Tryz.underlying9 h0;obtain ⟨k,e1, -,wk⟩:=DataW.trod_int Tryz.underlying2 h1;obtain ⟨b,e2, -⟩:=DataW.trod_bool Tryz.underlying4 h2;simp at e0 e1 e2
 subst e0 e1 e2;exact ⟨⟨p,k,b⟩,rfl,wp,zv7 wk⟩
theorem handle {cs:List Value} {x:DataW H × List MemPlace} (h:DataW.trod enc Tryz.prog w base spare held fuel 90 cs=some x):∃y:Pl.Hn,cs=[.int .i64 y.d, .int .i64 y.i, .string y.p]∧y.p.size≤maxLen∧MapI.i64 y.i:=by
 obtain ⟨xs,m,rfl, -,hlen,hxl,hf⟩:=DataW.trod_struct Tryz.underlying90 h;obtain ⟨c0,c1,c2,rfl⟩:=three (hlen.trans cellsH);obtain ⟨y0,y1,y2,rfl⟩:=three hxl;have h0:=hf 0 _ rfl;have h1:=hf 1 _ rfl;have h2:=hf 2 _ rfl
 change DataW.trod enc Tryz.prog w base spare held m 2 (([c0,c1,c2].drop 0).take (Tryz.prog.cellsOf 2))=some y0 at h0
 change DataW.trod enc Tryz.prog w base spare held m 2 (([c0,c1,c2].drop 1).take (Tryz.prog.cellsOf 2))=some y1 at h1
 change DataW.trod enc Tryz.prog w base spare held m 9 (([c0,c1,c2].drop 2).take (Tryz.prog.cellsOf 9))=some y2 at h2
 rw [zm3.zd2] at h0 h1;rw [zm3.cellsS] at h2;obtain ⟨d,e0, -,wd⟩:=DataW.trod_int Tryz.underlying2 h0;obtain ⟨k,e1, -,wk⟩:=DataW.trod_int Tryz.underlying2 h1;obtain ⟨p,e2, -,wp⟩:=DataW.trod_string Tryz.underlying9 h2;simp at e0 e1 e2
 subst e0 e1 e2;exact ⟨⟨d,k,p⟩,rfl,wp,zv7 wk⟩
theorem space {cs:List Value} {x:DataW H × List MemPlace} (h:DataW.trod enc Tryz.prog w base spare held fuel 26 cs=some x):∃s:Pl.Sp,cs=s.cs.toList∧OkP w s:=by
 obtain ⟨xs,m,rfl, -,hlen,hxl,hf⟩:=DataW.trod_struct Tryz.underlying26 h;obtain ⟨c0,c1,c2,c3,rfl⟩:=four (hlen.trans cellsP);obtain ⟨y0,y1,y2,y3,rfl⟩:=four hxl;have h0:=hf 0 _ rfl;have h1:=hf 1 _ rfl;have h2:=hf 2 _ rfl;have h3:=hf 3 _ rfl
 change DataW.trod enc Tryz.prog w base spare held m 22 (([c0,c1,c2,c3].drop 0).take (Tryz.prog.cellsOf 22))=some y0 at h0
 change DataW.trod enc Tryz.prog w base spare held m 23 (([c0,c1,c2,c3].drop 1).take (Tryz.prog.cellsOf 23))=some y1 at h1
 change DataW.trod enc Tryz.prog w base spare held m 24 (([c0,c1,c2,c3].drop 2).take (Tryz.prog.cellsOf 24))=some y2 at h2
 change DataW.trod enc Tryz.prog w base spare held m 2 (([c0,c1,c2,c3].drop 3).take (Tryz.prog.cellsOf 2))=some y3 at h3
 rw [cellsNs] at h0;rw [cellsMs] at h1;rw [cellsHs] at h2;rw [zm3.zd2] at h3;obtain ⟨ia,N,ic,e0,ln,rn,on⟩:=rows (α:=Pl.Ns) (v:=c0) Tryz.underlying22 zi0 (by omega) (fun y=>[.int .i64 y.d, .slice y.a y.Is.length y.cap]) (fun y=>zr9.OkI w y.a y.Is) (fun _ _ _ hy=>inst hy) h0;obtain ⟨ma,M,mc,e1,lm,rm,om⟩:=rows (α:=Pl.Mn) (v:=c1) Tryz.underlying23 cellsM (by omega) (fun y=>[.string y.p, .int .i64 y.i, .bool y.z]) (fun y=>y.p.size≤maxLen∧MapI.i64 y.i) (fun _ _ _ hy=>mount hy) h1;obtain ⟨ha,Hs,hc,e2,lh,rh,oh⟩:=rows (α:=Pl.Hn) (v:=c2) Tryz.underlying24 cellsH (by omega) (fun y=>[.int .i64 y.d, .int .i64 y.i, .string y.p]) (fun y=>y.p.size≤maxLen∧MapI.i64 y.i) (fun _ _ _ hy=>handle hy) h2;obtain ⟨n,e3, -, -⟩:=DataW.trod_int Tryz.underlying2 h3;simp at e3
 subst e0 e1 e2 e3;refine ⟨⟨ia,ic,N,ma,mc,M,ha,hc,Hs,n⟩,rfl,⟨fun i t hi=>?_,fun i t hi=>?_,fun i t hi=>?_⟩,⟨ln,lm,lh,fun t ht=>?_,fun t ht=>(om t ht).1,fun t ht=>(oh t ht).1⟩,⟨fun t ht=>(om t ht).2,fun t ht=>(oh t ht).2⟩⟩
 ·obtain ⟨b,o,k1,k2,k3⟩:=rn i t hi;exact ⟨⟨b,o,k1,k2,k3 0 _ rfl,k3 1 _ rfl⟩,(on t (List.mem_of_getElem? hi)).items⟩
 ·obtain ⟨b,o,k1,k2,k3⟩:=rm i t hi;exact ⟨b,o,k1,k2,k3 0 _ rfl,k3 1 _ rfl,k3 2 _ rfl⟩
 ·obtain ⟨b,o,k1,k2,k3⟩:=rh i t hi;exact ⟨b,o,k1,k2,k3 0 _ rfl,k3 1 _ rfl,k3 2 _ rfl⟩
 ·have h:=on t ht;exact ⟨h.len,fun u hu=>⟨(h.ok u hu).1,fun n hn=>⟨((h.ok u hu).2 n hn).1,((h.ok u hu).2 n hn).2.1⟩⟩⟩
theorem space_arg {b0:Nat} {r:Reach} {v:Value} {d:DataW H} {ps:List MemPlace}
  (hv:Value.okWide Tryz.prog w r b0 26 v) (h:DataW.Trod enc Tryz.prog w base spare held 26 v d ps):∃s:Pl.Sp,v= .agg s.cs∧OkP w s:=by
 obtain ⟨cs,rfl,hsz⟩:=okWide_struct Tryz.underlying26 hv;obtain ⟨fuel,hf⟩:=h;obtain ⟨s,hs,ok⟩:=space hf;refine ⟨s,?_,ok⟩;simp only [Value.cells] at hs;rw [show cs=s.cs from Array.ext' hs]
end
end OpenSp
end
end Go.Proofs.YtbomeifgfalmdaaGreatDoor
