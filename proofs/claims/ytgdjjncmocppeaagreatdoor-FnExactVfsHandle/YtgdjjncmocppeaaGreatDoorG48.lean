/- Several texts of one claim in one file: WSpS5, WSpS10, WSpS17, WVfsS3, WVfsZ, WMkJ, WMkX. -/
import Derived.Test.YtgdjjncmocppeaaGreatDoorWSpS3
import Derived.Test.YtgdjjncmocppeaaGreatDoorWSpS4
namespace Go.Proofs.YtgdjjncmocppeaaGreatDoor
section
open Go.RowKit
namespace WSp
set_option linter.unusedSimpArgs false in
set_option maxRecDepth 100000 in
set_option maxHeartbeats 1000000 in
theorem zg7 (s:Pl.Sp) (w:World) (hok:za8.OkS s 1048576) (hv:Mem.zc2 w s):
  Calls Tryz.prog 41 #[.agg s.cs] w fun e w'=>e= .returned (.bool (Pl.zb6 s.next (s.N.map nr) s.M s.H Pl.wayB))∧Below w.heap.size w w':=by
 have h0:=hide (fun W=>zz2 s.next 1 1000000 W);have h1:=hide (fun W (b:Below w.heap.size w W) hn0 hn1=>handles_any s W hok (hv.call b) hn0 hn1);have h2:=hide (fun W (b:Below w.heap.size w W)=>zx9 s W hok (hv.call b));have h3:=hide (fun W (b:Below w.heap.size w W) hn0 hn1=>zm0 s W hok (hv.call b) hn0 hn1)
 have HEQ:Hid (Pl.zb6 s.next (s.N.map nr) s.M s.H Pl.wayB=(Pl.isB s.next 1 1000000&&Pl.zm5 (s.N.map (·.d)) s.next Pl.wayB s.H&&Pl.zi0 (s.N.map (·.d)) s.M&&Pl.zm2 s.M s.H s.next (s.N.map nr))):=hide (by
  unfold Pl.zb6;rw [List.map_map]
  rfl)
 have HIS:Hid (Pl.isB s.next 1 1000000=true→1≤s.next∧s.next≤1000000):=hide (fun h=>(Pl.zn4 _ _ _).1 h);generalize Pl.zb6 s.next (s.N.map nr) s.M s.H Pl.wayB=R at HEQ ⊢;generalize Pl.isB s.next 1 1000000=R0 at HEQ h0 HIS;generalize Pl.zm5 (s.N.map (·.d)) s.next Pl.wayB s.H=R1 at HEQ h1;generalize Pl.zi0 (s.N.map (·.d)) s.M=R2 at HEQ h2;generalize Pl.zm2 s.M s.H s.next (s.N.map nr)=R3 at HEQ h3;clear hok hv;obtain ⟨ia,ic,N,ma,mc,M,ha,hc,H,next⟩:=s;simp only at h0 h1 h2 h3 HIS ⊢;unfold Pl.Sp.cs at h1 h2 h3 ⊢;simp only at h1 h2 h3 ⊢;have b0:=(Below.refl w.heap.size w).alloc (o:= .cells #[.slice ia N.length ic, .slice ma M.length mc, .slice ha H.length hc, .int .i64 next] 32) (Nat.le_refl _);have V0:=hide (Mem.Blk.new w #[.slice ia N.length ic, .slice ma M.length mc, .slice ha H.length hc, .int .i64 next] 32);have a0:=(za V0).cell 0;have a1:=(za V0).cell 1
 have a2:=(za V0).cell 2;have a3:=(za V0).cell 3;simp only [kGs] at a0 a1 a2 a3;go_enter Tryz.func41,Tryz.ntmps41
 go_wp2_with fail
 generalize w.alloc (.cells #[.slice ia N.length ic, .slice ma M.length mc, .slice ha H.length hc, .int .i64 next] 32)=wA at b0 V0 a0 a1 a2 a3 ⊢;refine (za h0 _).mono ?_;rintro e w1 ⟨rfl,bX⟩;have b1:=b0.trans (bX.mono b0.size);have V1:=hide ((za V0).call bX);clear a0 a1 a2 a3 V0 b0 bX h0;cases R0
 ·have HE:Hid (R=false):=hide (za HEQ);clear HEQ h1 h2 h3 HIS;go_wp2
  go_ret
  exact ⟨(by rw [za HE];first |done|rfl),b1⟩
 obtain ⟨n0,n1⟩:=za HIS rfl;obtain ⟨a0,a1,a2,a3⟩:=jc4 (za V1);have HC:=hide (za h1 _ b1 n0 n1);clear h1 HIS;go_wp2_with fail
 refine (za HC).mono ?_;rintro e w2 ⟨rfl,bX⟩;have b2:=b1.trans (bX.mono b1.size);have V2:=hide ((za V1).call bX);clear a0 a1 a2 a3 V1 b1 bX HC;cases R1
 ·have HE:Hid (R=false):=hide (za HEQ);clear HEQ h2 h3;go_wp2
  go_ret
  exact ⟨(by rw [za HE];first |done|rfl),b2⟩
 obtain ⟨a0,a1,a2,a3⟩:=jc4 (za V2);have HC:=hide (za h2 _ b2);clear h2;go_wp2_with fail
 refine (za HC).mono ?_;rintro e w3 ⟨rfl,bX⟩;have b3:=b2.trans (bX.mono b2.size);have V3:=hide ((za V2).call bX);clear a0 a1 a2 a3 V2 b2 bX HC;cases R2
 ·have HE:Hid (R=false):=hide (za HEQ);clear HEQ h3;go_wp2
  go_ret
  exact ⟨(by rw [za HE];first |done|rfl),b3⟩
 obtain ⟨a0,a1,a2,a3⟩:=jc4 (za V3);have HC:=hide (za h3 _ b3 n0 n1);clear h3;go_wp2_with fail
 refine (za HC).mono ?_;rintro e w4 ⟨rfl,bX⟩;have b4:=b3.trans (bX.mono b3.size);have HE:Hid (R=R3):=hide (za HEQ);clear a0 a1 a2 a3 V3 b3 bX HC HEQ n0 n1;go_wp2
 go_ret
 exact ⟨(by rw [za HE];first |done|rfl),b4⟩
end WSp
end
section
open Go.RowKit
namespace WSp
set_option linter.unusedSimpArgs false in
set_option maxRecDepth 100000 in
set_option maxHeartbeats 800000 in
theorem hand_any (s:Pl.Sp) (d:Int) (w:World) (hl:s.H.length≤1048576) (hv:Mem.zd3 w s.ha s.H):
  Calls Tryz.prog 42 #[.agg s.cs, .int .i64 d] w fun e w'=>e= .returned (.int .i64 (Pl.zc6 (s.H.map (·.d)) d))∧Below w.heap.size w w':=by
 obtain ⟨ia,ic,N,ma,mc,M,ha,hc,H,next⟩:=s;simp only at *;unfold Pl.Sp.cs;have b0:=(Below.refl w.heap.size w).alloc (o:= .cells #[.slice ia N.length ic, .slice ma M.length mc, .slice ha H.length hc, .int .i64 next] 32) (Nat.le_refl _);have V0:=hide (Mem.Blk.new w #[.slice ia N.length ic, .slice ma M.length mc, .slice ha H.length hc, .int .i64 next] 32);have HI:=hide hv;have HAT:=hide (fun k h hn=>Pl.instI_at (l:=H.map (·.d)) (d:=d) (k:=k) h hn);have HNO:=hide (Pl.instI_no (l:=H.map (·.d)) (d:=d));generalize Pl.zc6 (H.map (·.d)) d=R at HAT HNO ⊢;clear hv;go_enter Tryz.func42,Tryz.ntmps42
 go_wp2
 go_loopw [5] (fun i wr=>∃k:Nat,k≤H.length∧i= .int .i64 (k:Int)∧Below w.heap.size w wr∧Hid (Mem.Blk wr w.heap.size #[.slice ia N.length ic, .slice ma M.length mc, .slice ha H.length hc, .int .i64 next] 32)∧Hid (∀j,j<k→(H.map (·.d))[j]?≠some d)) (fun i _=>H.length - (intOf i).toNat)
 case atStart=>exact ⟨0,Nat.zero_le _,rfl,b0,V0,fun j h=>absurd h (by omega)⟩
 case round=>
  obtain ⟨k,hk,rfl,hbel,V,HA⟩:=hrel;clear V0 b0;have a0:=(za V).cell 2;simp only [kGs] at a0;by_cases hlt:k<H.length
  ·obtain ⟨t,ht⟩:∃n,H[k]? =some n:=⟨_,List.getElem?_eq_getElem hlt⟩;obtain ⟨g,o,rfl,hg,q0, -, -⟩:=(za HI) k t ht;have c0:=(hbel.cell (p:=⟨g,_,none⟩) hg).trans q0;have hm:(H.map (·.d))[k]? =some t.d:=by rw [List.getElem?_map,ht];rfl
   have u1:(k:Int)<(H.length:Int):=by omega
   have u3:(0:Int)≤(k:Int):=by omega
   clear q0 ht;by_cases hd:t.d=d
   ·have hd1:(t.d==d)=true:=by simpa using hd
    have HR:Hid (R=(k:Int)):=hide (za HAT k (by rw [hm,hd]) (za HA));clear hm hd HAT HNO HA;go_wp2
    go_ret
    exact ⟨by rw [za HR];rfl,hbel⟩
   ·have hd1:(t.d==d)=false:=by simpa using hd
    have HA2:Hid (∀j,j<k+1→(H.map (·.d))[j]?≠some d):=fun j hj=>by
     rcases Nat.lt_succ_iff_lt_or_eq.1 hj with h|rfl
     ·exact za HA j h
     ·rw [hm];exact fun e=>hd (Option.some.inj e)
    clear hm;go_wp2
    go_roundw
    case rel=>exact ⟨k+1,by omega,by go_num,hbel,V,HA2⟩
    case measure=>simp [intOf];omega
  ·have u1:¬ (k:Int)<(H.length:Int):=by omega
   have HR:Hid (R= -1):=hide (za HNO (fun j=>by
    by_cases h:j<k
    ·exact za HA j h
    ·rw [List.getElem?_eq_none (by rw [List.length_map];omega)];exact fun e=>by cases e))
   clear HAT HNO HA;go_wp2
   go_ret
   exact ⟨by rw [za HR];rfl,hbel⟩
end WSp
end
section
open Go.RowKit
namespace WSp
set_option linter.unusedSimpArgs false in
set_option maxRecDepth 100000 in
set_option maxHeartbeats 2000000 in
theorem nestF_any (s:Pl.Sp) (d:Int) (w:World) (hl:s.N.length≤1048576) (hv:Mem.zf8 w s.ia s.N) (k:Nat) (x:Pl.Ns) (hx:s.N[k]? =some x) (hk:Pl.zc6 (s.N.map (·.d)) d=(k:Int)):
  Calls Tryz.prog 24 #[.agg s.cs, .int .i64 d] w fun e w'=>e= .returned (.slice x.a x.Is.length x.cap)∧Below w.heap.size w w':=by
 have HI:=hide (fun W (b:Below w.heap.size w W)=>inst_any s d W hl (Mem.zf1 hv b));rw [hk] at HI;obtain ⟨⟨b,o,hia,hb, -,q1⟩, -⟩:=hv k x hx;have hkl:k<s.N.length:=(List.getElem?_eq_some_iff.1 hx).1;clear hv hx hk hl;obtain ⟨ia,ic,N,ma,mc,M,ha,hc,H,next⟩:=s;simp only at hia hkl HI;subst hia;unfold Pl.Sp.cs at HI ⊢;simp only at HI ⊢;have y1:(k:Int)<(N.length:Int):=by omega
 have y2:(0:Int)≤(k:Int):=by omega
 have b0:Below w.heap.size w (w.alloc (.cells #[.slice (some ⟨b,o,none⟩) N.length ic, .slice ma M.length mc, .slice ha H.length hc, .int .i64 next] 32)):=(Below.refl _ _).alloc (Nat.le_refl _) _;have V0:=Mem.Blk.new w #[.slice (some ⟨b,o,none⟩) N.length ic, .slice ma M.length mc, .slice ha H.length hc, .int .i64 next] 32
 have MK:Hid (∀W',Below w.heap.size w W'→Mem.Blk W' w.heap.size #[.slice (some ⟨b,o,none⟩) N.length ic, .slice ma M.length mc, .slice ha H.length hc, .int .i64 next] 32→(W'.cell? ⟨w.heap.size,0,none⟩=some (.slice (some ⟨b,o,none⟩) N.length ic)∧W'.cell? ⟨w.heap.size,1,none⟩=some (.slice ma M.length mc)∧W'.cell? ⟨w.heap.size,2,none⟩=some (.slice ha H.length hc)∧W'.cell? ⟨w.heap.size,3,none⟩=some (.int .i64 next)∧W'.cell? ⟨b,o+k*2+1,none⟩=some (.slice x.a x.Is.length x.cap))):=hide fun W' b1 h=>⟨h.cell 0,h.cell 1,h.cell 2,h.cell 3,(b1.cell (p:=⟨b,_,none⟩) hb).trans q1⟩;go_enter Tryz.func24,Tryz.ntmps24
 go_wp2_with fail
 refine wp_region_held_drew (S:=fun W'=>W'.cell? ⟨w.heap.size,0,none⟩=some (.slice (some ⟨b,o,none⟩) N.length ic)∧W'.cell? ⟨w.heap.size,1,none⟩=some (.slice ma M.length mc)∧W'.cell? ⟨w.heap.size,2,none⟩=some (.slice ha H.length hc)∧W'.cell? ⟨w.heap.size,3,none⟩=some (.int .i64 next)∧W'.cell? ⟨b,o+k*2+1,none⟩=some (.slice x.a x.Is.length x.cap)) (by kernel_rfl) ?_ (fun hHeld=>?_)
 ·exact za MK _ (b0.trans ((bD _).mono b0.size)) (V0.call (bD _))
 have bel:=b0.trans ((bD (n:=(w.alloc (.cells #[.slice (some ⟨b,o,none⟩) N.length ic, .slice ma M.length mc, .slice ha H.length hc, .int .i64 next] 32)).heap.size) (w.alloc (.cells #[.slice (some ⟨b,o,none⟩) N.length ic, .slice ma M.length mc, .slice ha H.length hc, .int .i64 next] 32))).mono b0.size);have VV:=V0.call (bD _);generalize (w.alloc (.cells #[.slice (some ⟨b,o,none⟩) N.length ic, .slice ma M.length mc, .slice ha H.length hc, .int .i64 next] 32)).drew=D0 at hHeld bel VV ⊢;clear b0 V0;refine TB 0 ?_;refine TB 1 ?_;refine TB 2 ?_;refine TB 3 ?_;refine RN 4 fun K hK=>?_;go_simp
 refine (za HI _ bel).mono ?_;rintro e wX ⟨rfl,bX⟩;have bel2:=hide (bel.trans (bX.mono bel.size));have VV2:=VV.call bX;refine hK.out _ _ ?_ (fun hHeld=>?_)
 ·exact za MK _ (za bel2) VV2
 clear hK K bX VV bel
 try simp only [Act.put,kBs]
 refine TB 5 ?_;refine TB 6 ?_;refine TB 7 ?_;refine TB 8 ?_;refine wpAnyH_done (by kernel_rfl) ?_ _;clear hHeld VV2;go_wp2
 go_ret
 exact ⟨rfl,za bel2⟩
end WSp
end
section
open Go.RowKit
namespace WVfsS
open WVfs WSp
set_option linter.unusedSimpArgs false in
set_option maxRecDepth 100000 in
set_option maxHeartbeats 2000000 in
theorem hand_any (s:Pl.Sp) (d:Int) (w:World) (hok:za8.OkS s 1048576) (hv:Mem.zc2 w s) (A:Pl.Ao) (hA:Pl.vhandA s d (Pl.zb6 s.next (s.N.map WSp.nr) s.M s.H Pl.wayB)=A):
  Calls Tryz.prog 14 #[.agg s.cs, .int .i64 d] w fun e w'=>e= .returned (vcs A)∧Below w.heap.size w w':=by
 have HX:=hide (fun W (b:Below w.heap.size w W)=>zg7 s W hok (hv.call b));have HI:=hide (fun c W=>ill_any c W);unfold vill at HI;have HHD:=hide (fun (h:s.H.length≤1048576) W (b:Below w.heap.size w W)=>WSp.hand_any s d W h (Mem.zf3 hv.hands b));have hHM:=hv.hands
 have HY:Hid (Pl.zb6 s.next (s.N.map WSp.nr) s.M s.H Pl.wayB=true→s.H.length≤1048576∧((Pl.zc6 (s.H.map (·.d)) d<0∧A=Pl.Ao.ill 6)∨∃ (k:Nat) (t:Pl.Hn),Pl.zc6 (s.H.map (·.d)) d=(k:Int)∧s.H[k]? =some t∧(Pl.za0 t.p=true∧¬t.p.size=0)∧∃ (j:Nat) (x:Pl.Ns),s.N[j]? =some x∧Pl.zc6 (s.N.map (·.d)) t.i=(j:Int)∧A=Pl.zo (Pl.zi (x.Is.map Pl.It.r) t.p)∧(Pl.nest (Pl.rowO (x.Is.map Pl.It.r))).isSome=true)):=hide (fun h=>by
  have h3:=(Pl.yc9 h).2.2.1;refine ⟨by omega,?_⟩;rw [←Pl.handI_inst];by_cases hneg:Pl.handI s.H d<0
  ·exact .inl ⟨hneg,by rw [←hA,h,Pl.vhand_no hneg]⟩
  ·obtain ⟨k,hk⟩:∃k:Nat,Pl.handI s.H d=(k:Int):=⟨(Pl.handI s.H d).toNat,by omega⟩;obtain ⟨t,ht⟩:=Pl.handI_at hk;obtain ⟨g1,j,x,e1,e2,e3,e4⟩:=Pl.hand_inst h ht
   exact .inr ⟨k,t,hk,ht,g1,j,x,e1,e4,by rw [←hA,h,Pl.vhand_yes hk ht e3],Pl.yd7 h x (List.mem_of_getElem? e1)⟩)
 have HAB:Hid (Pl.zb6 s.next (s.N.map WSp.nr) s.M s.H Pl.wayB=false→A=Pl.Ao.ill 1):=hide (fun h=>by rw [←hA,h,Pl.vhand_ill]);have HNE:=hide (fun (i:Int) (k:Nat) (x:Pl.Ns) (hx:s.N[k]? =some x) (hk:Pl.zc6 (s.N.map (·.d)) i=(k:Int)) W (b:Below w.heap.size w W)=>nestF_any s i W hok.n (Mem.zf1 hv.zj0 b) k x hx hk);have HWK:=hide (fun (k:Nat) (x:Pl.Ns) (q:ByteArray) (hx:s.N[k]? =some x) (hnr:(Pl.nest (Pl.rowO (x.Is.map Pl.It.r))).isSome=true) (hp2:Pl.za0 q=true) (hz2:¬q.size=0) W (b:Below w.heap.size w W) (R:Pl.Nd × Int) (hR:R=walkN (Pl.zi (x.Is.map Pl.It.r) q))=>walk_at x q W (hok.each x (List.mem_of_getElem? hx)).2 (insts_items hv.zj0 hx b) hnr hp2 hz2 R hR);generalize Pl.zb6 s.next (s.N.map WSp.nr) s.M s.H Pl.wayB=RB at HX HY HAB;clear hok hv hA;obtain ⟨ia,ic,N,ma,mc,M,ha,hc,H,next⟩:=s;simp only at HX HY HAB HNE HWK HHD hHM ⊢;unfold Pl.Sp.cs at HX HNE HHD ⊢;simp only at HX HNE HHD ⊢
 generalize Pl.zc6 (H.map (·.d)) d=PI at HHD HY;have b0:Below w.heap.size w ((w.alloc (.cells #[.slice ia N.length ic, .slice ma M.length mc, .slice ha H.length hc, .int .i64 next] 32)).alloc (.cells #[.slice none 0 0, .slice none 0 0, .slice none 0 0, .int .i64 0, .string ⟨#[]⟩, .slice none 0 0, .int .i64 0, .int .i64 0, .int .i64 0] 35)):=(bE0).alloc (by simp) _;have V0:=hide ((Mem.Blk.new w #[.slice ia N.length ic, .slice ma M.length mc, .slice ha H.length hc, .int .i64 next] 32).alloc (.cells #[.slice none 0 0, .slice none 0 0, .slice none 0 0, .int .i64 0, .string ⟨#[]⟩, .slice none 0 0, .int .i64 0, .int .i64 0, .int .i64 0] 35))
 have U0:=hide (Mem.Blk.new (w.alloc (.cells #[.slice ia N.length ic, .slice ma M.length mc, .slice ha H.length hc, .int .i64 next] 32)) #[.slice none 0 0, .slice none 0 0, .slice none 0 0, .int .i64 0, .string ⟨#[]⟩, .slice none 0 0, .int .i64 0, .int .i64 0, .int .i64 0] 35);rw [show (w.alloc (.cells #[.slice ia N.length ic, .slice ma M.length mc, .slice ha H.length hc, .int .i64 next] 32)).heap.size=w.heap.size+1 by simp] at U0;generalize hvc:vcs A=VC;have HVC:=hide hvc;have HHM:=hide hHM;clear hvc hHM;obtain ⟨a0,a1,a2,a3⟩:=jc4 (za V0);go_enter Tryz.func14,Tryz.ntmps14
 go_wp2_with fail
 generalize (w.alloc (.cells #[.slice ia N.length ic, .slice ma M.length mc, .slice ha H.length hc, .int .i64 next] 32)).alloc (.cells #[.slice none 0 0, .slice none 0 0, .slice none 0 0, .int .i64 0, .string ⟨#[]⟩, .slice none 0 0, .int .i64 0, .int .i64 0, .int .i64 0] 35)=wA at b0 V0 U0 a0 a1 a2 a3 ⊢;refine (za HX _ b0).mono ?_;rintro e w1 ⟨rfl,bX⟩;have b1:=b0.trans (bX.mono b0.size);have V1:=hide ((za V0).call bX);have U1:=hide ((za U0).call bX);clear HX bX V0 U0 b0 a0 a1 a2 a3;by_cases h0:RB=true
 ·subst h0;obtain ⟨hl,hcs⟩:=za HY rfl;have HHL:=hide (za HHD hl);have HQQ:=hide hcs;clear HY HAB HHD hl hcs;obtain ⟨a0,a1,a2,a3⟩:=jc4 (za V1);go_wp2_with fail
  refine (za HHL _ b1).mono ?_;rintro e w2 ⟨rfl,bX⟩;have b2:=b1.trans (bX.mono b1.size);have V2:=hide ((za V1).call bX);have U2:=hide ((za U1).call bX);clear HHL bX V1 U1 b1 a0 a1 a2 a3
  rcases za HQQ with ⟨hneg,hA6⟩|⟨k,t,rfl,ht,⟨hp1,hz⟩,j,x,hx,hj,hAT,hnr⟩
  ·have HV1:Hid (VC=vcs (Pl.Ao.ill 6)):=hide (by rw [←za HVC,hA6]);have t1:decide (PI<0)=true:=by simpa using hneg
   clear HQQ HVC HHM HNE HWK hA6 V2;go_wp2_with fail
   refine (za HI 6 _).mono ?_;rintro e wI ⟨rfl,bX⟩;have bI:=hide ((b2).trans (bX.mono (b2).size));have UI:=(za U2).call bX;clear bX HI U2;obtain ⟨⟨d0,d1,d2,d3,d4,d5,d6,d7,d8⟩,fd0,fd1,fd2,fd3,fd4,fd5,fd6,fd7,fd8⟩:=jf9 UI;go_wp2
   refine bodyPost_ret (v:= .agg #[.slice none 0 0, .slice none 0 0, .slice none 0 0, .int .i64 0, .string ⟨#[]⟩, .slice none 0 0, .int .i64 0, .int .i64 0, .int .i64 6]) (by simp [results,Tryz.results14,go_sem,d0,d1,d2,d3,d4,d5,d6,d7,d8]) rfl ⟨by rw [za HV1];rfl,?_⟩;refine Below.setCell (Below.setCell (Below.setCell (Below.setCell (Below.setCell (Below.setCell (Below.setCell (Below.setCell (Below.setCell (za bI) ?_ _) ?_ _) ?_ _) ?_ _) ?_ _) ?_ _) ?_ _) ?_ _) ?_ _ <;> exact Nat.le_succ _
  ·have HV1:Hid (VC=vcs (Pl.zo (Pl.zi (x.Is.map Pl.It.r) t.p))):=hide (by rw [←za HVC,hAT]);have HNQ:=hide (za HNE t.i j x hx hj);have HWQ:=hide (za HWK j x t.p hx hnr hp1 hz);generalize Pl.zi (x.Is.map Pl.It.r) t.p=oo at HV1 HWQ;obtain ⟨R,hR⟩:∃R:Pl.Nd × Int,R=walkN oo:=⟨_,rfl⟩;have HW2:=hide (fun W b=>za HWQ W b R hR);have HFI:=hide (fun W=>file_any oo R hR W);unfold vcs at HFI HV1;generalize Pl.zo oo=AA at HV1 HFI;obtain ⟨g,o,hha,hgl, -,q1,q2⟩:=za HHM k t ht;subst hha;have hkl:k<H.length:=(List.getElem?_eq_some_iff.1 ht).1;have y1:(k:Int)<(H.length:Int):=by omega
   have y2:(0:Int)≤(k:Int):=by omega
   have y3:decide ((k:Int)<0)=false:=by rw [decide_eq_false_iff_not];omega
   have y4:¬ ((k:Int)<0):=by omega
   obtain ⟨AN,AM,AH,Ax,Ad,Ap,Ac⟩:=AA;simp only at HV1 HFI;have MK:Hid (∀W',Below w.heap.size w W'→Mem.Blk W' w.heap.size #[.slice ia N.length ic, .slice ma M.length mc, .slice (some ⟨g,o,none⟩) H.length hc, .int .i64 next] 32→(W'.cell? ⟨w.heap.size,0,none⟩=some (.slice ia N.length ic)∧W'.cell? ⟨w.heap.size,1,none⟩=some (.slice ma M.length mc)∧W'.cell? ⟨w.heap.size,2,none⟩=some (.slice (some ⟨g,o,none⟩) H.length hc)∧W'.cell? ⟨w.heap.size,3,none⟩=some (.int .i64 next)∧W'.cell? ⟨g,o+k*3+1,none⟩=some (.int .i64 t.i)∧W'.cell? ⟨g,o+k*3+2,none⟩=some (.string t.p))):=hide fun W' b1 h=>⟨h.cell 0,h.cell 1,h.cell 2,h.cell 3,(b1.cell (p:=⟨g,_,none⟩) hgl).trans q1,(b1.cell (p:=⟨g,_,none⟩) hgl).trans q2⟩;clear HQQ HVC HHM HNE HWK HWQ hAT hnr hx hj ht hz hp1 hR HI hkl q1 q2 hgl;go_wp2_with fail
   refine wp_region_held_drew (S:=fun W'=>W'.cell? ⟨w.heap.size,0,none⟩=some (.slice ia N.length ic)∧W'.cell? ⟨w.heap.size,1,none⟩=some (.slice ma M.length mc)∧W'.cell? ⟨w.heap.size,2,none⟩=some (.slice (some ⟨g,o,none⟩) H.length hc)∧W'.cell? ⟨w.heap.size,3,none⟩=some (.int .i64 next)∧W'.cell? ⟨g,o+k*3+1,none⟩=some (.int .i64 t.i)∧W'.cell? ⟨g,o+k*3+2,none⟩=some (.string t.p)) (by kernel_rfl) ?_ (fun hHeld=>?_)
   ·exact za MK _ (b2.trans ((bD _).mono b2.size)) ((za V2).call (bD _))
   have bel:=b2.trans ((bD (n:=w2.heap.size) w2).mono b2.size);have VV:=(za V2).call (bD _);have UU:=(za U2).call (bD _);generalize w2.drew=D0 at hHeld bel VV UU ⊢;clear b2 V2 U2;refine TB 0 ?_;refine TB 1 ?_;refine TB 2 ?_;refine TB 3 ?_;refine TB 4 ?_;refine TB 5 ?_;refine TB 6 ?_;refine TB 8 ?_;refine TB 9 ?_;refine TB 10 ?_;refine TB 11 ?_;refine TB 12 ?_;refine TB 13 ?_;refine RN 7 fun K hK=>?_;go_simp
   refine (za HNQ _ bel).mono ?_;rintro e wX ⟨rfl,bX⟩;replace bel:=bel.trans (bX.mono bel.size);replace VV:=VV.call bX;replace UU:=UU.call bX;refine hK.out _ _ ?_ (fun hHeld=>?_)
   ·exact za MK _ bel VV
   clear hK K bX
   try simp only [Act.put,kBs]
   refine RN 14 fun K hK=>?_;go_simp
   refine (za HW2 _ bel).mono ?_;rintro e wX ⟨rfl,bX⟩;replace bel:=bel.trans (bX.mono bel.size);replace VV:=VV.call bX;replace UU:=UU.call bX;refine hK.out _ _ ?_ (fun hHeld=>?_)
   ·exact za MK _ bel VV
   clear hK K bX
   try simp only [Act.put,kBs]
   refine RN 15 fun K hK=>?_;go_simp
   refine (za HFI _).mono ?_;rintro e wX ⟨rfl,bX⟩;replace bel:=bel.trans (bX.mono bel.size);replace VV:=VV.call bX;replace UU:=UU.call bX;refine hK.out _ _ ?_ (fun hHeld=>?_)
   ·exact za MK _ bel VV
   clear hK K bX
   try simp only [Act.put,kBs]
   refine RN 16 fun K hK=>?_;obtain ⟨⟨d0,d1,d2,d3,d4,d5,d6,d7,d8⟩,fd0,fd1,fd2,fd3,fd4,fd5,fd6,fd7,fd8⟩:=jf9 UU;go_simp
   clear d0 fd0 d1 fd1 d2 fd2 d3 fd3 d4 fd4 d5 fd5 d6 fd6 d7 fd7 d8 fd8;replace UU:=(((((((((UU).put 0 (.slice none 0 0)).put 1 (.slice none 0 0)).put 2 (.slice none 0 0)).put 3 (.int .i64 0)).put 4 (.string Ap)).put 5 (.slice none 0 0)).put 6 (.int .i64 0)).put 7 (.int .i64 Ad)).put 8 (.int .i64 Ac)
   replace VV:=(((((((((VV).far ⟨w.heap.size+1,0,none⟩ (.slice none 0 0) (by show w.heap.size≠w.heap.size+1;omega)).far ⟨w.heap.size+1,1,none⟩ (.slice none 0 0) (by show w.heap.size≠w.heap.size+1;omega)).far ⟨w.heap.size+1,2,none⟩ (.slice none 0 0) (by show w.heap.size≠w.heap.size+1;omega)).far ⟨w.heap.size+1,3,none⟩ (.int .i64 0) (by show w.heap.size≠w.heap.size+1;omega)).far ⟨w.heap.size+1,4,none⟩ (.string Ap) (by show w.heap.size≠w.heap.size+1;omega)).far ⟨w.heap.size+1,5,none⟩ (.slice none 0 0) (by show w.heap.size≠w.heap.size+1;omega)).far ⟨w.heap.size+1,6,none⟩ (.int .i64 0) (by show w.heap.size≠w.heap.size+1;omega)).far ⟨w.heap.size+1,7,none⟩ (.int .i64 Ad) (by show w.heap.size≠w.heap.size+1;omega)).far ⟨w.heap.size+1,8,none⟩ (.int .i64 Ac) (by show w.heap.size≠w.heap.size+1;omega)
   replace bel:=Below.setCell (p:=⟨w.heap.size+1,8,none⟩) (Below.setCell (p:=⟨w.heap.size+1,7,none⟩) (Below.setCell (p:=⟨w.heap.size+1,6,none⟩) (Below.setCell (p:=⟨w.heap.size+1,5,none⟩) (Below.setCell (p:=⟨w.heap.size+1,4,none⟩) (Below.setCell (p:=⟨w.heap.size+1,3,none⟩) (Below.setCell (p:=⟨w.heap.size+1,2,none⟩) (Below.setCell (p:=⟨w.heap.size+1,1,none⟩) (Below.setCell (p:=⟨w.heap.size+1,0,none⟩) (bel) (by exact Nat.le_succ _) (.slice none 0 0)) (by exact Nat.le_succ _) (.slice none 0 0)) (by exact Nat.le_succ _) (.slice none 0 0)) (by exact Nat.le_succ _) (.int .i64 0)) (by exact Nat.le_succ _) (.string Ap)) (by exact Nat.le_succ _) (.slice none 0 0)) (by exact Nat.le_succ _) (.int .i64 0)) (by exact Nat.le_succ _) (.int .i64 Ad)) (by exact Nat.le_succ _) (.int .i64 Ac);refine hK.out _ _ ?_ (fun hHeld=>?_)
   ·exact za MK _ bel VV
   clear hK K
   try simp only [Act.put,kBs]
   refine wpAnyH_done (by kernel_rfl) ?_ _;clear hHeld VV MK;have d0:=UU.cell 0;have d1:=UU.cell 1;have d2:=UU.cell 2;have d3:=UU.cell 3;have d4:=UU.cell 4;have d5:=UU.cell 5;have d6:=UU.cell 6;have d7:=UU.cell 7;have d8:=UU.cell 8;simp only [kB3,kB4,kB5,kGs] at d0 d1 d2 d3 d4 d5 d6 d7 d8;go_wp2
   refine bodyPost_ret (v:= .agg #[.slice none 0 0, .slice none 0 0, .slice none 0 0, .int .i64 0, .string Ap, .slice none 0 0, .int .i64 0, .int .i64 Ad, .int .i64 Ac]) (by simp [results,Tryz.results14,go_sem,d0,d1,d2,d3,d4,d5,d6,d7,d8]) rfl ⟨by rw [za HV1],bel⟩
 ·have HV1:Hid (VC=vcs (Pl.Ao.ill 1)):=hide (by rw [←za HVC,za HAB (by simpa using h0)]);have h1:RB=false:=by simpa using h0
  subst h1;clear HY HAB HHD HHM HNE HWK HVC h0 V1;go_wp2_with fail
  refine (za HI 1 _).mono ?_;rintro e wI ⟨rfl,bX⟩;have bI:=hide ((b1).trans (bX.mono (b1).size));have UI:=(za U1).call bX;clear bX HI U1;obtain ⟨⟨d0,d1,d2,d3,d4,d5,d6,d7,d8⟩,fd0,fd1,fd2,fd3,fd4,fd5,fd6,fd7,fd8⟩:=jf9 UI;go_wp2
  refine bodyPost_ret (v:= .agg #[.slice none 0 0, .slice none 0 0, .slice none 0 0, .int .i64 0, .string ⟨#[]⟩, .slice none 0 0, .int .i64 0, .int .i64 0, .int .i64 1]) (by simp [results,Tryz.results14,go_sem,d0,d1,d2,d3,d4,d5,d6,d7,d8]) rfl ⟨by rw [za HV1];rfl,?_⟩;refine Below.setCell (Below.setCell (Below.setCell (Below.setCell (Below.setCell (Below.setCell (Below.setCell (Below.setCell (Below.setCell (za bI) ?_ _) ?_ _) ?_ _) ?_ _) ?_ _) ?_ _) ?_ _) ?_ _) ?_ _ <;> exact Nat.le_succ _
end WVfsS
end
section
open Go.RowKit
namespace WVfs
theorem specH (s:Pl.Sp) (d:Int) (w:World) (hok:za8.OkS s 1048576) (hv:Mem.zc2 w s) {a b c:Prop} (_:a) (_:b) (_:c) (A:Pl.Ao) (hA:Pl.vhandA s d (Pl.zb6 s.next (s.N.map WSp.nr) s.M s.H Pl.wayB)=A):
  Calls Tryz.prog 14 #[.agg s.cs, .int .i64 d] w fun e w'=>(∃u,e= .returned (.agg (vo u A.d A.p A.c))∧Mem.zc2 w' u∧Pl.Fits u A)∧Below w.heap.size w w':=
 wrapS (hA ▸ Pl.vhandA_nil s d _) (WVfsS.hand_any s d w hok hv A hA)
theorem implH (s:Pl.Sp) (d:Int) (w:World) (hok:za8.OkS s 1048576) (hn:WSpI.OkN s) (ha:WSpI.OkA s) (hv:Mem.zc2 w s)
  (hg:w.cell? ⟨1,0,none⟩=some (.iface 207 (.agg #[.pointer (some ⟨6,71,none⟩)])))
  (r0 r1 r2 r3:TypeId) (x0 x1 x2 x3:Value) (hE:zg8.zo5 w r0 r1 r2 r3 x0 x1 x2 x3) (A:Pl.Ao) (hA:Pl.vhandA s d (Pl.zb6 s.next (s.N.map WSp.nr) s.M s.H Pl.wayB)=A):
  Calls Tryz.prog 15 #[.agg s.cs, .int .i64 d] w fun e w'=>(∃u S1 S2 S3 HH lo hi,e= .returned (.agg (vo u A.d A.p A.c))∧WSpO.An w' u S1 S2 S3 HH lo hi∧w.heap.size≤S1∧Pl.Fits u A)∧Below w.heap.size w w':=
 wrapI (hA ▸ Pl.vhandA_nil s d _) (vhand_any s d w hok hn ha hv hg r0 r1 r2 r3 x0 x1 x2 x3 hE A hA)
end WVfs
end
section
open Go.RowKit
namespace WMkJ
set_option linter.unusedSimpArgs false in
set_option maxRecDepth 100000 in
set_option maxHeartbeats 1000000 in
theorem mark_from (K0 g X cap:Nat) (D:List Pl.It) (w:World) (hK0:0<K0) (hK1:K0+5242881*D.length≤8000000000000000000) (hl:D.length≤1048576) (hok:∀t∈D,t.t.L.length≤1048576) (hv:Has w g X D):
  Calls Tryz.prog 63 #[.slice (some ⟨g,0,none⟩) D.length cap, .int .i64 (K0:Int)] w fun e w'=>(∃K:Nat,e= .returned (.int .i64 (K:Int))∧K0≤K∧K≤K0+5242881*D.length)∧Mem.Band g X w w':=by
 have HO:=hide hok;have HV:=hide hv;clear hok hv;go_enter Tryz.func63,Tryz.ntmps63
 go_wp2
 go_loopw [1,5] (fun a i wr=>∃ (j K:Nat),j≤D.length∧i= .int .i64 (j:Int)∧a= .int .i64 (K:Int)∧(K0≤K∧K≤K0+5242881*j)∧Hid (Has wr g X D∧Mem.Band g X w wr)) (fun _ i _=>D.length - (intOf i).toNat)
 case atStart=>exact ⟨0,K0,Nat.zero_le _,rfl,rfl,by omega,⟨za HV,Mem.Band.refl _ _ _⟩⟩
 case round=>
  obtain ⟨j,K,hj,rfl,rfl,hK,HA⟩:=hrel;by_cases hlt:j<D.length
  ·obtain ⟨t,ht⟩:∃t,D[j]? =some t:=⟨_,List.getElem?_eq_getElem hlt⟩;have htl:=za HO t (List.mem_of_getElem? ht);have HS:=hide ((za HA).1.many (i:=j) (.int .i64 (K:Int)));have BS:=hide ((za HA).2.trans (Mem.Band.of_set (w:=wr) ⟨g,j*2,none⟩ (.int .i64 (K:Int)) (Nat.le_refl _) (za HA).1.gx));have c1:=(za HS).cell j t ht;obtain ⟨q,h1,h2,h3,cs,h4,h5⟩:=(za HS).each j t ht;obtain ⟨cur,hb1,hb2⟩:=(za HA).1.blk;obtain ⟨x0,s0⟩:∃x,wr.cell? ⟨g,j*2,none⟩=some x:=⟨_,(cell_of_row wr _ (j*2) _ _ (0,0) hb1).trans (Array.getElem?_eq_getElem (by omega))⟩;have f0:wr.frozen? ⟨g,j*2,none⟩=false:=Mem.zb4 hb1;obtain ⟨tm,ta,tc,tL⟩:=t;simp only at h1 h5 htl;subst h1;simp only [Pl.Tr.val] at c1;have hm:=hide (zi6.lay_any q tL.length tc (K+1) cs (wr.setCell ⟨g,j*2,none⟩ (.int .i64 (K:Int))) htl (by omega) (by omega) h4 h5);have H4:=hide h4;have u1:(j:Int)<(D.length:Int):=by omega
   have u3:(0:Int)≤(j:Int):=by omega
   have eK:((K+1:Nat):Int)=(K:Int)+1:=by omega
   rw [eK] at hm;clear h4 h5 ht HA hb1 hb2;go_wp2_with fail
   refine (za hm).mono ?_;rintro e w2 ⟨rfl,⟨cur',hr',hs'⟩, -,hg⟩;have HB:Hid (Has w2 g X D∧Mem.Band g X w w2):=⟨(za HS).marked h2 (za H4) hr' hs' hg,(za BS).trans (Mem.Band.zu4 hg (by omega) h3)⟩;clear HS BS hm H4 hr' hs' hg c1 s0 f0;generalize hK2:K+1+5*tL.length=K2;have hK3:K0≤K2∧K2≤K0+5242881*(j+1):=by omega
   clear hK2 hK htl;go_wp2
   go_roundw
   case rel=>exact ⟨j+1,K2,by omega,by go_num,rfl,hK3,HB⟩
   case measure=>simp [intOf];omega
  ·have u1:¬ (j:Int)<(D.length:Int):=by omega
   go_wp2
   go_ret
   exact ⟨⟨K,rfl,by omega,by omega⟩,(za HA).2⟩
end WMkJ
end
section
set_option linter.unusedSimpArgs false
open Go.RowKit
namespace WMkX
open za8
structure Left (W:World) (N:List Pl.Ns) (gi:Nat) (B:Nat→Nat) (j:Nat):Prop where
 ib:∃cur,W.heap[gi]? =some (.cells cur 105 (0,0))∧cur.size=N.length*2∧∀ (i:Nat) t,N[i]? =some t→cur[i*2+1]? =some (.slice t.a t.Is.length t.cap)
 band:∀ (i:Nat) t,j≤i→N[i]? =some t→∃g,t.a=some ⟨g,0,none⟩∧B i≤g∧WMkJ.Has W g (B (i+1)) t.Is
theorem Left.id {W:World} {N:List Pl.Ns} {gi:Nat} {B:Nat→Nat} {j:Nat} (h:Left W N gi B j) (hr:∀i,i<N.length→gi<B i) (v:Value):Left (W.setCell ⟨gi,j*2,none⟩ v) N gi B j:=by
 obtain ⟨⟨cur,h1,h2,h3⟩,h4⟩:=h;refine ⟨⟨_,heap_setCell_same _ _ _ _ _ _ h1,by simpa using h2,fun i t hi=>?_⟩,fun i t hj hi=>?_⟩
 ·rw [Array.getElem?_setIfInBounds,if_neg (by omega)];exact h3 i t hi
 ·obtain ⟨g,k1,k2,k3⟩:=h4 i t hj hi;have :=hr i (List.getElem?_eq_some_iff.1 hi).1;exact ⟨g,k1,k2,k3.low _ _ (by show gi<g;omega)⟩
theorem Left.next {W W':World} {N:List Pl.Ns} {gi:Nat} {B:Nat→Nat} {j g:Nat} (h:Left W N gi B j) (hr:∀i,i<N.length→gi<B i) (hm:∀i,j<i→i<N.length→B (j+1)≤B i) (hg:B j≤g) (hj:j<N.length) (hb:Mem.Band g (B (j+1)) W W'):Left W' N gi B (j+1):=by
 obtain ⟨⟨cur,h1,h2,h3⟩,h4⟩:=h;refine ⟨⟨cur,(hb.block gi (Array.getElem?_eq_some_iff.1 h1).1 (.inl (by have :=hr j hj;omega))).trans h1,h2,h3⟩,fun i t hi ht=>?_⟩;obtain ⟨g',k1,k2,k3⟩:=h4 i t (by omega) ht;have :=hm i (by omega) (List.getElem?_eq_some_iff.1 ht).1;exact ⟨g',k1,k2,k3.same (fun b h1 h2 h3=>hb.block b h3 (.inr (by omega)))⟩
theorem Left.start {W:World} {s:Pl.Sp} {gi gm gh:Nat} {B:Nat→Nat} (h:HasS W s gi gm gh B):Left W s.N gi B 0:=⟨h.ib,fun i t _ hi=>h.band i t hi⟩
set_option maxRecDepth 100000 in
set_option maxHeartbeats 1000000 in
theorem zm0 (N:List Pl.Ns) (gi gm cap:Nat) (B:Nat→Nat) (w:World) (hl:N.length≤1048576) (hok:∀x∈N,x.Is.length≤1048576∧∀t∈x.Is,t.t.L.length≤1048576) (hr:∀i,i<N.length→gi<B i) (hm:∀j i,j<i→i≤N.length→B (j+1)≤B i) (htop:B N.length≤gm) (hgm:gi<gm) (hv:Left w N gi B 0):
  Calls Tryz.prog 35 #[.slice (some ⟨gi,0,none⟩) N.length cap, .int .i64 1] w fun e w'=>(∃K:Nat,e= .returned (.int .i64 (K:Int))∧0<K∧K≤5800000000000000000)∧Mem.Band gi gm w w':=by
 have HO:=hide hok;have HV:=hide hv;have HM:=hide hm;have HR:=hide hr;have HT:=hide htop;clear hok hv hm hr htop;go_enter Tryz.func35,Tryz.ntmps35
 go_wp2
 go_loopw [1,5] (fun a i wr=>∃ (j K:Nat),j≤N.length∧i= .int .i64 (j:Int)∧a= .int .i64 (K:Int)∧(0<K∧K≤1+5497559187457*j)∧Hid (Left wr N gi B j∧Mem.Band gi gm w wr)) (fun _ i _=>N.length - (intOf i).toNat)
 case atStart=>exact ⟨0,1,Nat.zero_le _,rfl,rfl,by omega,⟨za HV,Mem.Band.refl _ _ _⟩⟩
 case round=>
  obtain ⟨j,K,hj,rfl,rfl,hK,HA⟩:=hrel;by_cases hlt:j<N.length
  ·obtain ⟨t,ht⟩:∃t,N[j]? =some t:=⟨_,List.getElem?_eq_getElem hlt⟩;have htl:=za HO t (List.mem_of_getElem? ht);have HS:=hide ((za HA).1.id (za HR) (.int .i64 (K:Int)));have BS:=hide ((za HA).2.trans (Mem.Band.of_set (w:=wr) ⟨gi,j*2,none⟩ (.int .i64 (K:Int)) (Nat.le_refl _) hgm));obtain ⟨cur,hb1,hb2,hb3⟩:=(za HA).1.ib;obtain ⟨cur2,hd1,hd2,hd3⟩:=(za HS).ib;have c1:=(cell_of_row (wr.setCell ⟨gi,j*2,none⟩ (.int .i64 (K:Int))) _ (j*2+1) _ _ (0,0) hd1).trans (hd3 j t ht);obtain ⟨g,h1,h2,h3⟩:=(za HS).band j t (Nat.le_refl _) ht;obtain ⟨x0,s0⟩:∃x,wr.cell? ⟨gi,j*2,none⟩=some x:=⟨_,(cell_of_row wr _ (j*2) _ _ (0,0) hb1).trans (Array.getElem?_eq_getElem (by omega))⟩;have f0:wr.frozen? ⟨gi,j*2,none⟩=false:=Mem.zb4 hb1;obtain ⟨td,ta,tc,tI⟩:=t;simp only at h1 h3 htl c1;subst h1
   have hml:=hide (WMkJ.mark_from (K+1) g (B (j+1)) tc tI (wr.setCell ⟨gi,j*2,none⟩ (.int .i64 (K:Int))) (by omega) (by omega) htl.1 htl.2 h3);have H2:=hide h2;have u1:(j:Int)<(N.length:Int):=by omega
   have u3:(0:Int)≤(j:Int):=by omega
   have eK:((K+1:Nat):Int)=(K:Int)+1:=by omega
   rw [eK] at hml;have htl1:=htl.1;clear h2 h3 ht HA hb1 hb2 hb3 hd1 hd2 hd3 eK htl;go_wp2_with fail
   refine (za hml).mono ?_;rintro e w2 ⟨⟨K2,rfl,hk1,hk2⟩,hg⟩
   have HB:Hid (Left w2 N gi B (j+1)∧Mem.Band gi gm w w2):=by
    have q1:=za HR j hlt;have q2:=za HM j N.length hlt (Nat.le_refl _);have q3:=za HT;have q4:=za H2;exact ⟨(za HS).next (za HR) (fun i hi hl=>za HM j i hi (by omega)) q4 hlt hg,(za BS).trans ⟨hg.os,hg.tape,hg.output,hg.size,fun b hb hh=>hg.block b hb (by omega)⟩⟩
   have hK3:0<K2∧K2≤1+5497559187457*(j+1):=by omega
   clear HS BS hml hg c1 s0 f0 H2 hk1 hk2 htl1 hK;go_wp2
   go_roundw
   case rel=>exact ⟨j+1,K2,by omega,by go_num,rfl,hK3,HB⟩
   case measure=>simp [intOf];omega
  ·have u1:¬ (j:Int)<(N.length:Int):=by omega
   go_wp2
   go_ret
   exact ⟨⟨K,rfl,by omega,by omega⟩,(za HA).2⟩
set_option maxRecDepth 100000 in
set_option maxHeartbeats 1000000 in
theorem yb7 (s:Pl.Sp) (gi gm gh:Nat) (B:Nat→Nat) (w:World) (hok:OkS s 1048576) (hv:HasS w s gi gm gh B):
  Calls Tryz.prog 11 #[.agg s.cs, .int .i64 1] w fun e w'=>(∃K:Nat,e= .returned (.int .i64 (K:Int))∧0<K)∧Mem.Band gi (gh+1) w w':=by
 have hr:∀i,i<s.N.length→gi<B i:=fun i hi=>by have :=hv.lo;have :=hv.mono i (by omega);omega
 have hm:∀j i,j<i→i≤s.N.length→B (j+1)≤B i:=fun j i h1 h2=>hv.rise i (j+1) (by omega) h2;have hgm:gi<gm:=by have :=hv.lo;have :=hv.mono s.N.length (Nat.le_refl _);have :=hv.top;omega
 have hmh:=hv.mh;have h1:=hide (fun cap W (b:Below w.heap.size w W)=>zm0 s.N gi gm cap B W hok.n (fun x hx=>⟨(hok.each x hx).1,fun t ht=>((hok.each x hx).2 t ht).1⟩) hr hm hv.top hgm (Left.start (hv.call b)));obtain ⟨c2,q1,q2⟩:=hv.mb;obtain ⟨c3,q3,q4⟩:=hv.hb;have lm:gm<w.heap.size:=(Array.getElem?_eq_some_iff.1 q1).1;have lh:gh<w.heap.size:=(Array.getElem?_eq_some_iff.1 q3).1;have h2:=hide (fun cap K W (hK:0<K) (hK2:K≤8500000000000000000) (h:W.heap[gm]? =some (.cells c2 51 (0,0)))=>WMkM.ze0 gm s.M.length cap K c2 W hok.m hK hK2 h (by omega));have h3:=hide (fun cap K W (hK:0<K) (hK2:K≤8500000000000000000) (h:W.heap[gh]? =some (.cells c3 87 (0,0)))=>WMkH.ze0 gh s.H.length cap K c3 W hok.h hK hK2 h (by omega));have QM:=hide q1;have QH:=hide q3;have ei:=hv.ia;have em:=hv.ma;have eh:=hv.ha;have lM:=hok.m;have lH:=hok.h;clear q1 q2 q3 q4 hv hok hr hm
 obtain ⟨ia,ic,N,ma,mc,M,ha,hc,H,next⟩:=s;simp only at ei em eh h1 h2 h3 lM lH;subst ei em eh;unfold Pl.Sp.cs;simp only;have b0:=(Below.refl w.heap.size w).alloc (o:= .cells #[.slice (some ⟨gi,0,none⟩) N.length ic, .slice (some ⟨gm,0,none⟩) M.length mc, .slice (some ⟨gh,0,none⟩) H.length hc, .int .i64 next] 32) (Nat.le_refl _);have V0:=hide (Mem.Blk.new w #[.slice (some ⟨gi,0,none⟩) N.length ic, .slice (some ⟨gm,0,none⟩) M.length mc, .slice (some ⟨gh,0,none⟩) H.length hc, .int .i64 next] 32);have D0:Hid (Mem.Band gi (gh+1) w (w.alloc (.cells #[.slice (some ⟨gi,0,none⟩) N.length ic, .slice (some ⟨gm,0,none⟩) M.length mc, .slice (some ⟨gh,0,none⟩) H.length hc, .int .i64 next] 32))):=hide (Mem.Band.of_below b0);have QM0:=hide ((b0.block gm lm).trans (za QM));have QH0:=hide ((b0.block gh lh).trans (za QH));have a0:=(za V0).cell 0;simp only [kGs] at a0
 clear QM QH;go_enter Tryz.func11,Tryz.ntmps11
 go_wp2_with fail
 have HC:=hide (za h1 ic _ b0);clear h1;generalize w.alloc (.cells #[.slice (some ⟨gi,0,none⟩) N.length ic, .slice (some ⟨gm,0,none⟩) M.length mc, .slice (some ⟨gh,0,none⟩) H.length hc, .int .i64 next] 32)=wA at b0 V0 D0 QM0 QH0 a0 HC ⊢;refine (za HC).mono ?_;rintro e w1 ⟨⟨K1,rfl,k1,k2⟩,bd1⟩;have hlA:gh<wA.heap.size:=(Array.getElem?_eq_some_iff.1 (za QH0)).1;have hlV:w.heap.size<wA.heap.size:=(za V0).lt;have V1:=hide (bd1.blk (za V0) (.inr (by omega)));have QM1:=hide ((bd1.block gm (by omega) (.inr (Nat.le_refl _))).trans (za QM0));have QH1:=hide ((bd1.block gh hlA (.inr (by omega))).trans (za QH0));have D1:=hide ((za D0).trans ⟨bd1.os,bd1.tape,bd1.output,bd1.size,fun b hb hh=>bd1.block b hb (by omega)⟩);have hl1:=bd1.size;clear HC bd1 V0 D0 QM0 QH0 a0 b0;have a1:=(za V1).cell 1;simp only [kGs] at a1;have HC:=hide (za h2 mc K1 w1 k1 (by omega) (za QM1));clear h2
 go_wp2_with fail
 refine (za HC).mono ?_;rintro e w2 ⟨rfl, -, -,gr⟩;have V2:=hide ((za V1).grown gr (fun e=>by have :=Option.some.inj e;omega));have QH2:=hide ((gr.block gh (by omega) (fun e=>by have :=Option.some.inj e;omega)).trans (za QH1));have D2:=hide ((za D1).trans (Mem.Band.zu4 gr (by omega) (by omega)));have hl2:=gr.size;clear HC gr V1 D1 QM1 QH1 a1;have a2:=(za V2).cell 2;simp only [kGs] at a2;have HC:=hide (za h3 hc (K1+3*M.length) w2 (by omega) (by omega) (za QH2));clear h3;go_wp2_with fail
 refine (za HC).mono ?_;rintro e w3 ⟨rfl, -, -,gr⟩;have D3:=hide ((za D2).trans (Mem.Band.zu4 gr (by omega) (by omega)));clear HC gr V2 D2 QH2 a2;go_wp2
 go_ret
 exact ⟨⟨_,rfl,by omega⟩,za D3⟩
end WMkX
end
end Go.Proofs.YtgdjjncmocppeaaGreatDoor
