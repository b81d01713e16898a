/- Several texts of one claim in one file: WPlainP, WSightI. -/
import Derived.Test.YthdhhcgopfgcbaaGreatDoorG27
import Derived.Test.YthdhhcgopfgcbaaGreatDoorG44
namespace Go.Proofs.YthdhhcgopfgcbaaGreatDoor
section
open Go.RowKit
namespace zw1
set_option maxRecDepth 100000 in
set_option maxHeartbeats 1000000 in
theorem zk6 (a:Option Addr) (cap:Nat) (L:List Pl.Nd) (w:World) (hl:L.length≤1048576) (hv:Mem.za2 w a L) (hok:∀n∈L,n.path.size≤1048576∧n.data.size≤1048576)
  (r1 r2 r3:TypeId) (x1 x2 x3:Value) (hE:zc2.Errs w r1 r2 r3 x1 x2 x3):
  Calls Tryz.prog 80 #[.agg #[.slice a L.length cap]] w fun e w'=>∃v,e= .returned (.agg #[v, .int .i64 (Pl.zy L)])∧Mem.ownN w' w.heap.size v (Pl.plainO L)∧Below w.heap.size w w':=by
 obtain ⟨i0,hi,hz0,hz1,hz2⟩:=info_parts zn2;have b0:Below w.heap.size w ((w.alloc (.cells #[.slice a L.length cap] 43)).alloc (.cells #[.slice none 0 0, .int .i64 0] 64)):=(bE0).alloc (by simp) _;have hr:=hide (zc2.yg9 a cap L _ hl (Mem.za0 hv b0) hok r1 r2 r3 x1 x2 x3 (hE.call b0));have HV:=hide hv;have HO:=hide hok;have V1:=(Mem.Blk.new w #[.slice a L.length cap] 43).alloc (.cells #[.slice none 0 0, .int .i64 0] 64);have V2:Mem.Blk ((w.alloc (.cells #[.slice a L.length cap] 43)).alloc (.cells #[.slice none 0 0, .int .i64 0] 64)) (w.heap.size+1) #[.slice none 0 0, .int .i64 0] 64:=Mem.zg4 _ _ _;have EO:Hid (Pl.za5 L=true→Pl.plainO L=Pl.zc8 L∧Pl.zy L=0):=fun h=>by simp [Pl.plainO,Pl.zy,h]
 have EN:Hid (Pl.za5 L=false→Pl.plainO L=[]∧Pl.zy L=1):=fun h=>by simp [Pl.plainO,Pl.zy,h]
 generalize Pl.plainO L=PO at EO EN ⊢;generalize Pl.zy L=PC at EO EN ⊢;generalize Pl.za5 L=R2 at EO EN hr;clear hv hok hE;cases R2
 ·obtain ⟨rfl,rfl⟩:=za EN rfl;clear EO EN;go_enter Tryz.func80,Tryz.ntmps80
  go_wp2_with fail
  refine (za hr).mono ?_;rintro e w1 ⟨rfl,b1⟩;have b2:=b0.trans (b1.mono b0.size);have V3:=V2.call b1;obtain ⟨⟨c0,c1⟩,f0,f1⟩:=jf2 V3;clear hr b0 b1 V1 V2;go_wp2
  refine bodyPost_ret (v:= .agg #[.slice none 0 0, .int .i64 1]) (by simp [results,Tryz.results80,go_sem,c0,c1]) rfl ⟨_,rfl,Mem.zb5 _ _,?_⟩;exact (b2.setCell (by show w.heap.size≤w.heap.size+1;omega) _).setCell (by show w.heap.size≤w.heap.size+1;omega) _
 obtain ⟨rfl,rfl⟩:=za EO rfl;clear EO EN;go_enter Tryz.func80,Tryz.ntmps80
 go_wp2_with fail
 refine (za hr).mono ?_;rintro e w1 ⟨rfl,b1⟩;have b2:=b0.trans (b1.mono b0.size);have V3:=V2.call b1;have hs:w.heap.size+1<w1.heap.size:=V3.lt;have c0:=((V1.call b1).alloc (.cells #[] 47)).cell 0;simp only [kA0,kA1] at c0
 have OW0:Hid (Mem.ownN (w1.alloc (.cells #[] 47)) (w.heap.size+2) (.slice (some ⟨w1.heap.size,0,none⟩) 0 0) (Pl.zc8 (L.take 0))):=
  ⟨rfl, .inr ⟨w1.heap.size,0,#[],rfl,by omega,heap_alloc_new _ _,Nat.le_refl _,Nat.zero_le _,rfl,rfl⟩⟩
 have b3:=b2.alloc b2.size (.cells #[] 47);have V4:=hide (V3.alloc (.cells #[] 47));clear hr b0 b1 V1 V2 V3 b2;go_wp2
 go_loopw [3,14] (fun v i wr=>∃k:Nat,k≤L.length∧i= .int .i64 (k:Int)∧Below w.heap.size w wr∧Hid (Mem.Blk wr (w.heap.size+1) #[.slice none 0 0, .int .i64 0] 64)∧Hid (Mem.ownN wr (w.heap.size+2) v (Pl.zc8 (L.take k)))) (fun _ i _=>L.length - (intOf i).toNat)
 case atStart=>exact ⟨0,Nat.zero_le _,rfl,b3,V4,OW0⟩
 case round=>
  obtain ⟨k,hk,rfl,hbel,HB,HOWN⟩:=hrel;clear c0 b3 V4 OW0;by_cases hlt:k<L.length
  ·obtain ⟨n,hn⟩:∃n,L[k]? =some n:=⟨_,List.getElem?_eq_getElem hlt⟩;obtain ⟨b,o,rfl,hb,q0,q1,q2,q3,q4⟩:=(Mem.za0 (za HV) hbel) k n hn;have y1:(k:Int)<(L.length:Int):=by omega
   have y3:(0:Int)≤(k:Int):=by omega
   have hno:=za HO n (List.mem_of_getElem? hn);by_cases hk0:n.kind=0
   ·have t2:(n.kind==0)=true:=by simpa using hk0
    have OW2:=hide (show Mem.ownN (wr.alloc (.cells #[.string n.path, .int .i64 0, .string n.data, .int .i64 n.time, .int .i64 n.mark] 47)) (w.heap.size+2) u3 (Pl.zc8 (L.take (k+1))) by rw [Pl.yl6 hn hk0];exact Mem.zf5 (za HOWN) _);have HB2:=hide ((za HB).alloc (.cells #[.string n.path, .int .i64 0, .string n.data, .int .i64 n.time, .int .i64 n.mark] 47));have bb:=hbel.alloc hbel.size (.cells #[.string n.path, .int .i64 0, .string n.data, .int .i64 n.time, .int .i64 n.mark] 47);clear hn HB HOWN hbel;go_wp2
    go_roundw
    case rel=>exact ⟨k+1,by omega,by go_num,bb,HB2,OW2⟩
    case measure=>simp [intOf];omega
   ·have t2:(n.kind==0)=false:=by simpa using hk0
    have HPL:=hide (Pl.plainL_in hn hk0);have HLEN:=hide (Pl.zz0 L k);have hc:=hide (fun W=>WCopied.any n.bare W hno.1 hno.2);clear hn hk0;obtain ⟨p,k0,d,t,m⟩:=n;simp only [Pl.Nd.bare,Pl.Nd.val] at q0 q1 q2 q3 q4 t2 HPL hc;have OWD:=Mem.zf5 (za HOWN) (.cells #[.string p, .int .i64 k0, .string d, .int .i64 t, .int .i64 0] 47);have BLD:=hide ((za HB).alloc (.cells #[.string p, .int .i64 k0, .string d, .int .i64 t, .int .i64 0] 47));have bW:=hbel.alloc hbel.size (.cells #[.string p, .int .i64 k0, .string d, .int .i64 t, .int .i64 0] 47);clear HB HOWN hbel;go_wp2_with fail
    refine (za hc _).mono ?_;rintro e wC ⟨rfl,bC⟩;have OWC:=Mem.zg7 OWD bC;have BLC:=hide ((za BLD).call bC);have bX:=bW.trans (bC.mono bW.size);have HLT:=hide (Mem.ze3 OWC);have HSZ:=hide (za BLC).lt;clear OWD BLD bW bC hc q0 q1 q2 q3 q4;go_wp2_with (at_builtin;refine wpList_append_own _ rfl _ _ 41 rfl (w.heap.size+2) 47 i0 _ 5 56 Tryz.underlying41 hi hz0 hz1 hz2 rfl (by decide) _ _ _ rfl (Mem.zf5 OWC _) ⟨wC.heap.size,0,none⟩ 1 1 [.string p, .int .i64 k0, .string d, .int .i64 t, .int .i64 0] rfl rfl (Mem.zp1 wC ⟨p,k0,d,t,0⟩ _) (Mem.zm9 ⟨p,k0,d,t,0⟩) (by have :=za HLEN;unfold maxLen;omega) (by have :=za HLEN;omega) (by have :=za HSZ;simp;omega) ?_)
    intro v'' wZ hownZ hgrow _;have OWZ:=hide (show Mem.ownN wZ (w.heap.size+2) v'' (Pl.zc8 (L.take (k+1))) by rw [za HPL];exact Mem.zk5 (L:=Pl.zc8 (L.take k)) (n:=⟨p,k0,d,t,0⟩) hownZ);have BLZ:=hide (((za BLC).alloc (.cells #[.string p, .int .i64 k0, .string d, .int .i64 t, .int .i64 0] 47)).grown hgrow (fun e=>by have :=(za HLT _ e.symm).1;omega));have bZ:=(bX.alloc bX.size (.cells #[.string p, .int .i64 k0, .string d, .int .i64 t, .int .i64 0] 47)).grown hgrow (by have :=bX.size;simp;omega) (fun q hq=>by have :=(za HLT q hq).1;omega);clear hownZ hgrow BLC OWC bX;go_wp2
    go_roundw
    case rel=>exact ⟨k+1,by omega,by go_num,bZ,BLZ,OWZ⟩
    case measure=>simp [intOf];omega
  ·obtain rfl:k=L.length:=by omega
   rw [List.take_length] at HOWN;obtain ⟨a',cap',hv'⟩:=Mem.za4 (za HOWN);subst hv';obtain ⟨⟨d0,d1⟩,f0,f1⟩:=jf2 (za HB);go_wp2
   refine bodyPost_ret (v:= .agg #[.slice a' (Pl.zc8 L).length cap', .int .i64 0]) (by simp [results,Tryz.results80,go_sem,d0,d1]) rfl ⟨_,rfl,?_,?_⟩
   ·exact Mem.zb3 (Mem.za8 (Mem.za8 (za HOWN) _ _ (by show w.heap.size+1<w.heap.size+2;omega)) _ _ (by show w.heap.size+1<w.heap.size+2;omega)) (by omega)
   ·exact (hbel.setCell (by show w.heap.size≤w.heap.size+1;omega) _).setCell (by show w.heap.size≤w.heap.size+1;omega) _
end zw1
end
section
open Go.RowKit
namespace zq4
set_option linter.unusedSimpArgs false in
set_option maxRecDepth 100000 in
set_option maxHeartbeats 1000000 in
theorem sight_any (a:Option Addr) (cap:Nat) (Is:List Pl.It) (w:World) (hl:Is.length≤1048576) (hcap:Is.length≤cap) (hv:Mem.zb0 w a Is) (hok:∀x∈Is,x.t.L.length≤1048576∧∀n∈x.t.L,n.path.size≤1048576∧n.data.size≤1048576) (x:Nat→Addr) (hE:WIs.Six w x):
  Calls Tryz.prog 46 #[.slice a Is.length cap] w fun e w'=>∃v,e= .returned (.agg #[v, .int .i64 (Pl.zb9 (Is.map Pl.It.r))])∧Mem.ownN w' w.heap.size v (Pl.zb8 (Is.map Pl.It.r))∧Below w.heap.size w w':=by
 have b0:Below w.heap.size w (w.alloc (.cells #[.slice none 0 0, .int .i64 0] 64)):=bE0;have V0:=Mem.Blk.new w #[.slice none 0 0, .int .i64 0] 64;have hs0:(w.alloc (.cells #[.slice none 0 0, .int .i64 0] 64)).heap.size=w.heap.size+1:=by simp
 have hvi:=hide (zq4.view_any a cap Is (w.alloc (.cells #[.slice none 0 0, .int .i64 0] 64)) hl hcap (Mem.zb2 hv b0) hok x (hE.call b0));have HN:Hid (Pl.zb9 (Is.map Pl.It.r)≠0→Pl.ze5 (Is.map Pl.It.r)=[]∧Pl.zb8 (Is.map Pl.It.r)=[]):=fun h=>⟨Pl.view_nil h,Pl.sight_no h⟩;have HY:Hid (Pl.zb9 (Is.map Pl.It.r)=0→Pl.za5 (Pl.ze5 (Is.map Pl.It.r))=true∧Pl.zb8 (Is.map Pl.It.r)=Pl.zc8 (Pl.ze5 (Is.map Pl.It.r))):=fun h=>⟨Pl.yd0 h,Pl.yi1 h⟩;have HL:=hide (Pl.view_le (Is.map Pl.It.r));generalize Pl.zb8 (Is.map Pl.It.r)=O at HN HY ⊢;generalize Pl.zb9 (Is.map Pl.It.r)=C at hvi HN HY ⊢;generalize Pl.ze5 (Is.map Pl.It.r)=V at hvi HN HY HL;have HE:=hide (fun W (b:Below w.heap.size w W)=>hE.call b);clear hv hok hE;go_enter Tryz.func46,Tryz.ntmps46
 go_wp2_with fail
 generalize w.alloc (.cells #[.slice none 0 0, .int .i64 0] 64)=w2 at b0 V0 hs0 hvi ⊢;refine (za hvi).mono ?_;rintro e w1 ⟨v1,rfl,own1,b1⟩;obtain ⟨a1,c1,rfl⟩:=Mem.za4 own1;have bw1:=b0.trans (b1.mono b0.size);have V3:=(V0.call b1).alloc (.cells #[.slice a1 V.length c1, .int .i64 C] 64);have bw3:=bw1.alloc bw1.size (.cells #[.slice a1 V.length c1, .int .i64 C] 64);have X3:=Mem.Blk.new w1 #[.slice a1 V.length c1, .int .i64 C] 64;have O3:=Mem.zf5 own1 (.cells #[.slice a1 V.length c1, .int .i64 C] 64);have hs1:=b1.size;obtain ⟨x0,x1⟩:=jc2 X3;clear hvi b0 V0 own1 b1 bw1 X3;by_cases hC:C=0
 ·subst hC;obtain ⟨ht,rfl⟩:=za HY rfl;have hpl:=hide (zw1.zk6 a1 c1 V (w1.alloc (.cells #[.slice a1 V.length c1, .int .i64 0] 64)) (by have :=(za HL).1;omega) (Mem.ze9 O3).2 (za HL).2 _ _ _ _ _ _ (za HE _ bw3).errs);rw [show Pl.zy V=0 by rw [Pl.zy,if_pos ht],show Pl.plainO V=Pl.zc8 V by rw [Pl.plainO,if_pos ht]] at hpl;clear HN HY HL ht O3 HE;go_wp2_with fail
  generalize w1.alloc (.cells #[.slice a1 V.length c1, .int .i64 0] 64)=w4 at V3 bw3 hpl x0 x1 ⊢;refine (za hpl).mono ?_;rintro e w5 ⟨v5,rfl,own5,b5⟩;obtain ⟨a5,c5,rfl⟩:=Mem.za4 own5;have hR:=V3.lt;have OW:=hide (Mem.zb3 (Mem.za8 (Mem.za8 own5 ⟨w.heap.size,0,none⟩ (.slice a5 (Pl.zc8 V).length c5) (by show w.heap.size<_;omega)) ⟨w.heap.size,1,none⟩ (.int .i64 0) (by show w.heap.size<_;omega)) (show w.heap.size≤w4.heap.size by omega));have HB:=hide (bw3.trans (b5.mono bw3.size));obtain ⟨⟨d0,d1⟩,f0,f1⟩:=jf2 (V3.call b5);clear hpl own5 b5 V3 bw3 x0 x1;go_wp2
  refine bodyPost_ret (v:= .agg #[.slice a5 (Pl.zc8 V).length c5, .int .i64 0]) (by simp [results,Tryz.results46,go_sem,d0,d1]) rfl ⟨_,rfl,za OW,?_⟩
  first |exact ((za HB).setCell (Nat.le_refl _) _).setCell (Nat.le_refl _) _|exact (za HB).setCell (Nat.le_refl _) _
 ·obtain ⟨rfl,rfl⟩:=za HN hC;simp only [List.length_nil] at V3 bw3 O3 x0 x1 ⊢;have hD1:(C==0)=false:=by simpa using hC
  have hD2:decide (C=0)=false:=by simpa using hC
  have hD3:(C !=0)=true:=by simpa using hC
  have OW:=hide (Mem.zb3 (Mem.za8 (Mem.za8 O3 ⟨w.heap.size,0,none⟩ (.slice a1 0 c1) (by show w.heap.size<_;omega)) ⟨w.heap.size,1,none⟩ (.int .i64 C) (by show w.heap.size<_;omega)) (show w.heap.size≤w2.heap.size by omega));clear HN HY HL O3 HE;have HB:=hide bw3;obtain ⟨⟨d0,d1⟩,f0,f1⟩:=jf2 V3;clear V3 bw3;go_wp2
  refine bodyPost_ret (v:= .agg #[.slice a1 0 c1, .int .i64 C]) (by simp [results,Tryz.results46,go_sem,d0,d1]) rfl ⟨_,rfl,za OW,?_⟩
  first |exact ((za HB).setCell (Nat.le_refl _) _).setCell (Nat.le_refl _) _|exact (za HB).setCell (Nat.le_refl _) _
end zq4
end
end Go.Proofs.YthdhhcgopfgcbaaGreatDoor
