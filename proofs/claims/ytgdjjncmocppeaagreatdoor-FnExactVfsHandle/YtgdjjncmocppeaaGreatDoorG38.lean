/- Several texts of one claim in one file: WVfs6, WOwnI, WAllS, MemAppend, WMaxS, WPickA. -/
import Derived.Test.YtgdjjncmocppeaaGreatDoorG37
namespace Go.Proofs.YtgdjjncmocppeaaGreatDoor
section
set_option linter.unusedSimpArgs false
open Go.RowKit Go.Maps
namespace WVfs
def AimedH (w w':World) (s:Pl.Sp) (d:Int) (R:Bool) (e:Ending):Prop:=
 (∃c:Int,((R=false∧c=1)∨(R=true∧Pl.handI s.H d<0∧c=6))∧e= .returned (.tuple #[.agg #[.map none, .slice none 0 0, .slice none 0 0, .int .i64 0, .int .i64 0, .string ⟨#[]⟩],fault c]))∨
 (R=true∧∃ (k:Nat) (t:Pl.Hn),Pl.handI s.H d=(k:Int)∧s.H[k]? =some t∧∃q E sa sc ta tc,e= .returned (.tuple #[.agg #[.map (some q), .slice sa s.M.length sc, .slice ta s.H.length tc, .int .i64 s.next, .int .i64 t.i, .string t.p], .nilIface])∧SpO.SpV w.heap.size w' s q E sa sc ta tc)
set_option maxRecDepth 100000 in
set_option maxHeartbeats 2000000 in
theorem targetH_any (s:Pl.Sp) (d:Int) (w:World) (hok:za8.OkS s 1048576) (hn:WSpI.OkN s) (ha:WSpI.OkA s) (hv:Mem.zc2 w s)
  (r0 r1 r2 r3:TypeId) (x0 x1 x2 x3:Value) (hE:zg8.zo5 w r0 r1 r2 r3 x0 x1 x2 x3) (RB:Bool) (hRB:Pl.zb6 s.next (s.N.map WSp.nr) s.M s.H Pl.wayB=RB):
  Calls Tryz.prog 43 #[.agg s.cs, .int .i64 d] w fun e w'=>AimedH w w' s d RB e∧Below w.heap.size w w':=by
 have HX:Hid (∀W,Below w.heap.size w W→Calls Tryz.prog 72 #[.agg s.cs] W fun e w'=>WSpI.Spaced W w' s RB e∧Below W.heap.size W w'):=hide (fun W b=>(hRB.symm.trans (Pl.yg4 s.next (s.N.map WSp.nr) s.M s.H Pl.wayB).symm) ▸ WSpI.yb7 s W hok hn ha (hv.call b) r0 r1 r2 r3 x0 x1 x2 x3 (hE.call b));have HHL:Hid (RB=true→s.H.length≤1048576):=hide (fun h=>by have :=(Pl.yc9 (hRB.trans h)).2.2.1;omega);clear hok hn ha hv hE hRB;obtain ⟨ia,ic,N,ma,mc,M,ha,hc,H,next⟩:=s;unfold WSpI.Spaced at HX;unfold AimedH fault;unfold Pl.Sp.cs at HX ⊢;simp only at HX HHL ⊢;have b0:Below w.heap.size w ((w.alloc (.cells #[.slice ia N.length ic, .slice ma M.length mc, .slice ha H.length hc, .int .i64 next] 32)).alloc (.cells #[.map none, .slice none 0 0, .slice none 0 0, .int .i64 0, .int .i64 0, .string ⟨#[]⟩] 69)):=(bE0).alloc (by simp) _
 have V0:=hide ((Mem.Blk.new w #[.slice ia N.length ic, .slice ma M.length mc, .slice ha H.length hc, .int .i64 next] 32).alloc (.cells #[.map none, .slice none 0 0, .slice none 0 0, .int .i64 0, .int .i64 0, .string ⟨#[]⟩] 69));have U0:=hide (Mem.Blk.new (w.alloc (.cells #[.slice ia N.length ic, .slice ma M.length mc, .slice ha H.length hc, .int .i64 next] 32)) #[.map none, .slice none 0 0, .slice none 0 0, .int .i64 0, .int .i64 0, .string ⟨#[]⟩] 69);have hsz:((w.alloc (.cells #[.slice ia N.length ic, .slice ma M.length mc, .slice ha H.length hc, .int .i64 next] 32)).alloc (.cells #[.map none, .slice none 0 0, .slice none 0 0, .int .i64 0, .int .i64 0, .string ⟨#[]⟩] 69)).heap.size=w.heap.size+2:=by simp
 rw [show (w.alloc (.cells #[.slice ia N.length ic, .slice ma M.length mc, .slice ha H.length hc, .int .i64 next] 32)).heap.size=w.heap.size+1 by simp] at U0;obtain ⟨a0,a1,a2,a3⟩:=jc4 (za V0);go_enter Tryz.func43,Tryz.ntmps43
 go_wp2_with fail
 generalize (w.alloc (.cells #[.slice ia N.length ic, .slice ma M.length mc, .slice ha H.length hc, .int .i64 next] 32)).alloc (.cells #[.map none, .slice none 0 0, .slice none 0 0, .int .i64 0, .int .i64 0, .string ⟨#[]⟩] 69)=wA at b0 V0 U0 a0 a1 a2 a3 hsz ⊢;refine (za HX _ b0).mono ?_;rintro e w1 ⟨hS,bX⟩;have b1:=b0.trans (bX.mono b0.size);have U1:=hide ((za U0).call bX);clear HX bX V0 a0 a1 a2 a3 b0 U0
 rcases hS with ⟨hW,q,E,sa,sc,ta,tc,rfl,HS⟩|⟨hW,q,sa,sl,sc,ta,tl,tc,n,rfl⟩
 ·have hHl:=za HHL hW;have hW:=hide hW;have hS:=SpV_low (B':=w.heap.size+2) HS (by omega);have b2:Below w1.heap.size w1 (w1.alloc (.cells #[.map (some q), .slice sa M.length sc, .slice ta H.length tc, .int .i64 next] 67)):=bE0;have HS2:=hS.call b2;have U2:=hide ((za U1).call b2);have X2:=Mem.Blk.new w1 #[.map (some q), .slice sa M.length sc, .slice ta H.length tc, .int .i64 next] 67;have bw2:=b1.trans (b2.mono b1.size);obtain ⟨x0,x1,x2,x3⟩:=jc4 X2;clear HHL HS hS U1 b1 b2;go_upto_region 4 with fail
  generalize w1.alloc (.cells #[.map (some q), .slice sa M.length sc, .slice ta H.length tc, .int .i64 next] 67)=w2 at HS2 U2 bw2 X2 x0 x1 x2 x3 ⊢;have HHD:=hide (WSpI.handle_at q sa M.length sc ta tc H next d w2 hHl HS2.hands);have HSH:=hide HS2;have HXX:=hide X2;clear HS2 X2;generalize w1.heap.size=X at HXX x0 x1 x2 x3 ⊢;go_wp2_with fail
  refine (za HHD).mono ?_;rintro e w3 ⟨⟨x,y,z,rfl,hat⟩,bX⟩;have HSI:=hide ((za HSH).call bX);have U3:=hide ((za U2).call bX);have X3:=hide ((za HXX).call bX);have b3:=bw2.trans (bX.mono bw2.size);clear HHD HSH HXX U2 x0 x1 x2 x3 bX bw2;by_cases hneg:Pl.handI H d<0
  ·have t1:decide (Pl.handI H d<0)=true:=by simpa using hneg
   have HNG:=hide hneg;rw [t1];have b4:Below w3.heap.size w3 (w3.alloc (.cells #[.int .i64 x, .int .i64 y, .string z] 87)):=bE0;have U4:=(za U3).call b4;have B4:=hide (b3.trans (b4.mono b3.size));obtain ⟨⟨d0,d1,d2,d3,d4,d5⟩,fd0,fd1,fd2,fd3,fd4,fd5⟩:=jf6 U4;clear U3 b3 b4 X3 HSI hat hneg t1 U4;go_upto_region 5 with fail
   generalize w3.alloc (.cells #[.int .i64 x, .int .i64 y, .string z] 87)=w4 at B4 d0 fd0 d1 fd1 d2 fd2 d3 fd3 d4 fd4 d5 fd5 ⊢;go_wp2
   refine bodyPost_ret (v:= .tuple #[.agg #[.map none, .slice none 0 0, .slice none 0 0, .int .i64 0, .int .i64 0, .string ⟨#[]⟩], .iface 116 (.agg #[.int .i64 6])]) (by simp [results,Tryz.results43,go_sem,d0,d1,d2,d3,d4,d5]) rfl ⟨.inl ⟨6, .inr ⟨za hW,za HNG,rfl⟩,rfl⟩,?_⟩;refine Below.setCell (Below.setCell (Below.setCell (Below.setCell (Below.setCell (Below.setCell (za B4) ?_ _) ?_ _) ?_ _) ?_ _) ?_ _) ?_ _ <;> exact Nat.le_succ _
  ·have t1:decide (Pl.handI H d<0)=false:=by simpa using hneg
   rw [t1];obtain ⟨k,hk⟩:∃k:Nat,Pl.handI H d=(k:Int):=⟨(Pl.handI H d).toNat,by omega⟩;obtain ⟨t,ht⟩:=Pl.handI_at hk;obtain ⟨rfl,rfl,rfl⟩:=hat k t hk ht;have HK:=hide hk;have HT:=hide ht;clear hat hk ht hneg t1;have b4:Below w3.heap.size w3 (w3.alloc (.cells #[.int .i64 t.d, .int .i64 t.i, .string t.p] 87)):=bE0;have U4:=(za U3).call b4;have X4:=(za X3).call b4;have Y4:=Mem.Blk.new w3 #[.int .i64 t.d, .int .i64 t.i, .string t.p] 87;have HSJ:=hide ((za HSI).call b4);have B4:=hide (b3.trans (b4.mono b3.size));obtain ⟨⟨d0,d1,d2,d3,d4,d5⟩,fd0,fd1,fd2,fd3,fd4,fd5⟩:=jf6 U4;have x0:=(X4).cell 0;have x1:=(X4).cell 1
   have x2:=(X4).cell 2;have x3:=(X4).cell 3;simp only [kGs] at x0 x1 x2 x3;obtain ⟨y0,y1,y2⟩:=jc3 Y4;clear U3 b3 b4 X3 HSI U4 X4 Y4;go_upto_region 5 with fail
   generalize w3.alloc (.cells #[.int .i64 t.d, .int .i64 t.i, .string t.p] 87)=w4 at HSJ B4 x0 x1 x2 x3 y0 y1 y2 d0 fd0 d1 fd1 d2 fd2 d3 fd3 d4 fd4 d5 fd5 ⊢;have hq:w.heap.size+1<q:=(za HSJ).lo;go_wp2
   refine bodyPost_ret (v:= .tuple #[.agg #[.map (some q), .slice sa M.length sc, .slice ta H.length tc, .int .i64 next, .int .i64 t.i, .string t.p], .nilIface]) (by simp [results,Tryz.results43,go_sem,d0,d1,d2,d3,d4,d5]) rfl ⟨.inr ⟨za hW,k,t,za HK,za HT,_,_,_,_,_,_,rfl,SpV_low ((((((za HSJ).far 0 _ hq).far 1 _ hq).far 2 _ hq).far 3 _ hq).far 4 _ hq |>.far 5 _ hq) (by omega)⟩,?_⟩;refine Below.setCell (Below.setCell (Below.setCell (Below.setCell (Below.setCell (Below.setCell (za B4) ?_ _) ?_ _) ?_ _) ?_ _) ?_ _) ?_ _ <;> exact Nat.le_succ _
 ·have hW:=hide hW;have b2:Below w1.heap.size w1 (w1.alloc (.cells #[.map q, .slice sa sl sc, .slice ta tl tc, .int .i64 n] 67)):=bE0;have U2:=(za U1).call b2;have B2:=hide (b1.trans (b2.mono b1.size));obtain ⟨⟨d0,d1,d2,d3,d4,d5⟩,fd0,fd1,fd2,fd3,fd4,fd5⟩:=jf6 U2;clear HHL U1 b1 b2 U2;go_upto_region 2 with fail
  generalize w1.alloc (.cells #[.map q, .slice sa sl sc, .slice ta tl tc, .int .i64 n] 67)=w2 at B2 d0 fd0 d1 fd1 d2 fd2 d3 fd3 d4 fd4 d5 fd5 ⊢;go_wp2
  refine bodyPost_ret (v:= .tuple #[.agg #[.map none, .slice none 0 0, .slice none 0 0, .int .i64 0, .int .i64 0, .string ⟨#[]⟩], .iface 116 (.agg #[.int .i64 1])]) (by simp [results,Tryz.results43,go_sem,d0,d1,d2,d3,d4,d5]) rfl ⟨.inl ⟨1, .inl ⟨za hW,rfl⟩,rfl⟩,?_⟩;refine Below.setCell (Below.setCell (Below.setCell (Below.setCell (Below.setCell (Below.setCell (za B2) ?_ _) ?_ _) ?_ _) ?_ _) ?_ _) ?_ _ <;> exact Nat.le_succ _
set_option maxRecDepth 100000 in
set_option maxHeartbeats 2000000 in
theorem vhand_any (s:Pl.Sp) (d:Int) (w:World) (hok:za8.OkS s 1048576) (hn:WSpI.OkN s) (ha:WSpI.OkA s) (hv:Mem.zc2 w s)
  (hg:w.cell? ⟨1,0,none⟩=some (.iface 207 (.agg #[.pointer (some ⟨6,71,none⟩)])))
  (r0 r1 r2 r3:TypeId) (x0 x1 x2 x3:Value) (hE:zg8.zo5 w r0 r1 r2 r3 x0 x1 x2 x3) (A:Pl.Ao) (hA:Pl.vhandA s d (Pl.zb6 s.next (s.N.map WSp.nr) s.M s.H Pl.wayB)=A):
  Calls Tryz.prog 15 #[.agg s.cs, .int .i64 d] w fun e w'=>e= .returned (vcs A)∧Below w.heap.size w w':=by
 have HX:=hide (fun W (b:Below w.heap.size w W)=>targetH_any s d W hok hn ha (hv.call b) r0 r1 r2 r3 x0 x1 x2 x3 (hE.call b) _ rfl);have hlt:1<w.heap.size:=World.block_lt_of_cell? w ⟨1,0,none⟩ hg;have HGC:=hide (fun W (b:Below w.heap.size w W)=>(b.cell (p:=⟨1,0,none⟩) hlt).trans hg);have HR:=hide (fun c W (b:Below w.heap.size w W)=>yd8 c W ((b.cell (p:=⟨1,0,none⟩) hlt).trans hg))
 have HY:Hid (Pl.zb6 s.next (s.N.map WSp.nr) s.M s.H Pl.wayB=true→∀ (k:Nat) (t:Pl.Hn),Pl.handI s.H d=(k:Int)→s.H[k]? =some t→(Pl.za0 t.p=true∧MapI.i64 t.i∧(s.N.map (·.d)).Pairwise (· < ·))∧∃ (k:Nat) (x:Pl.Ns),s.N[k]? =some x∧x.d=t.i∧A=Pl.zh7 (Pl.zi (x.Is.map Pl.It.r) t.p) t.p∧(Pl.nest (Pl.rowO (x.Is.map Pl.It.r))).isSome=true):=hide (fun h k t hk ht=>by
  obtain ⟨k1,k2,k3,k4,k5,k6,k7,k8⟩:=Pl.yc9 h;obtain ⟨⟨g1,g2⟩,j,x,e1,e2,e3, -⟩:=Pl.hand_inst h ht;refine ⟨⟨g1,?_,k5⟩,j,x,e1,e2,?_,Pl.yd7 h x (List.mem_of_getElem? e1)⟩
  ·have :=k6 t.i (by rw [←e2];exact List.mem_map.2 ⟨x,List.mem_of_getElem? e1,rfl⟩);unfold MapI.i64;omega
  ·rw [←hA,h,Pl.vhand_yes hk ht e3];unfold Pl.zh7
   rw [if_neg g2])
 have HAB:Hid (∀c:Int,((Pl.zb6 s.next (s.N.map WSp.nr) s.M s.H Pl.wayB=false∧c=1)∨(Pl.zb6 s.next (s.N.map WSp.nr) s.M s.H Pl.wayB=true∧Pl.handI s.H d<0∧c=6))→A=Pl.Ao.ill c):=hide (fun c h=>by
  rcases h with ⟨h1,rfl⟩|⟨h1,h2,rfl⟩
  ·rw [←hA,h1,Pl.vhand_ill]
  ·rw [←hA,h1,Pl.vhand_no h2])
 unfold AimedH at HX;generalize Pl.zb6 s.next (s.N.map WSp.nr) s.M s.H Pl.wayB=RB at HX HY HAB;have HRD:=hide (fun (W:World) q E sa ta sc tc B (t:Pl.Hn) hg hG h1 x k h2 h3 h4 h5 h6=>read_any s q E sa ta sc tc B t.i t.p W hg hG h1 x k h2 h3 h4 h5 h6);clear hok hn ha hv hE hA hg hlt;obtain ⟨ia,ic,N,ma,mc,M,ha,hc,H,next⟩:=s;unfold Pl.Sp.cs at HX ⊢;unfold vill fault at HR;unfold fault at HX;simp only at HX HY HAB HRD ⊢;have b0:Below w.heap.size w ((w.alloc (.cells #[.slice ia N.length ic, .slice ma M.length mc, .slice ha H.length hc, .int .i64 next] 32)).alloc (.cells #[.slice none 0 0, .slice none 0 0, .slice none 0 0, .int .i64 0, .string ⟨#[]⟩, .slice none 0 0, .int .i64 0, .int .i64 0, .int .i64 0] 35)):=(bE0).alloc (by simp) _
 have V0:=hide ((Mem.Blk.new w #[.slice ia N.length ic, .slice ma M.length mc, .slice ha H.length hc, .int .i64 next] 32).alloc (.cells #[.slice none 0 0, .slice none 0 0, .slice none 0 0, .int .i64 0, .string ⟨#[]⟩, .slice none 0 0, .int .i64 0, .int .i64 0, .int .i64 0] 35));have U0:=hide (Mem.Blk.new (w.alloc (.cells #[.slice ia N.length ic, .slice ma M.length mc, .slice ha H.length hc, .int .i64 next] 32)) #[.slice none 0 0, .slice none 0 0, .slice none 0 0, .int .i64 0, .string ⟨#[]⟩, .slice none 0 0, .int .i64 0, .int .i64 0, .int .i64 0] 35);rw [show (w.alloc (.cells #[.slice ia N.length ic, .slice ma M.length mc, .slice ha H.length hc, .int .i64 next] 32)).heap.size=w.heap.size+1 by simp] at U0;obtain ⟨a0,a1,a2,a3⟩:=jc4 (za V0)
 generalize hvc:vcs A=VC;have HVC:=hide hvc;clear hvc;go_enter Tryz.func15,Tryz.ntmps15
 go_wp2_with fail
 generalize (w.alloc (.cells #[.slice ia N.length ic, .slice ma M.length mc, .slice ha H.length hc, .int .i64 next] 32)).alloc (.cells #[.slice none 0 0, .slice none 0 0, .slice none 0 0, .int .i64 0, .string ⟨#[]⟩, .slice none 0 0, .int .i64 0, .int .i64 0, .int .i64 0] 35)=wA at b0 V0 U0 a0 a1 a2 a3 ⊢;refine (za HX _ b0).mono ?_;rintro e w1 ⟨hS,bX⟩;have b1:=b0.trans (bX.mono b0.size);have U1:=hide ((za U0).call bX);clear HX bX V0 a0 a1 a2 a3 b0 U0
 rcases hS with ⟨c,hW,rfl⟩|⟨hW,kk,tt,hk,hh,q,E,sa,sc,ta,tc,rfl,HS⟩
 rotate_left
 ·obtain ⟨⟨hRT,hi64,hrs⟩,k,x,hx,hxd,hAT,hnr⟩:=za HY hW kk tt hk hh;have b2:Below w1.heap.size w1 (w1.alloc (.cells #[.map (some q), .slice sa M.length sc, .slice ta H.length tc, .int .i64 next, .int .i64 tt.i, .string tt.p] 69)):=bE0;have bw2:=b1.trans (b2.mono b1.size);have HRQ:=hide (za HRD _ q E sa ta sc tc _ tt (za HGC _ bw2) (HS.call b2) hrs x k hx hxd hi64 hnr hRT);have U2:=hide ((za U1).call b2);have X2:=Mem.Blk.new w1 #[.map (some q), .slice sa M.length sc, .slice ta H.length tc, .int .i64 next, .int .i64 tt.i, .string tt.p] 69;obtain ⟨x0,x1,x2,x3,x4,x5⟩:=jc6 X2;generalize hvt:vcs (Pl.zh7 (Pl.zi (x.Is.map Pl.It.r) tt.p) tt.p)=VT at HRQ;have HV1:Hid (VC=VT):=hide (by rw [←za HVC,←hvt,hAT])
  have HVT:=hide hvt;clear HRD HGC HR HY HAB HS U1 b1 b2 X2 hW HVC hvt hx hxd hnr hRT hAT hrs;go_upto_region 4 with fail
  generalize w1.alloc (.cells #[.map (some q), .slice sa M.length sc, .slice ta H.length tc, .int .i64 next, .int .i64 tt.i, .string tt.p] 69)=w2 at HRQ U2 bw2 x0 x1 x2 x3 x4 x5 ⊢;go_wp2_with fail
  refine (za HRQ).mono ?_;rintro e w3 ⟨rfl,bX⟩;have U3:=(za U2).call bX;have b3:=hide (bw2.trans (bX.mono bw2.size));have hVT:=za HVT;unfold vcs at hVT;rw [←hVT];rw [←hVT] at HV1;clear hVT HVT HRQ bX U2 bw2 x0 x1 x2 x3 x4 x5;generalize Pl.zh7 (Pl.zi (x.Is.map Pl.It.r) tt.p) tt.p=AA at HV1 ⊢;obtain ⟨AN,AM,AH,Ax,Ad,Ap,Ac⟩:=AA;simp only at HV1 ⊢;obtain ⟨⟨d0,d1,d2,d3,d4,d5,d6,d7,d8⟩,fd0,fd1,fd2,fd3,fd4,fd5,fd6,fd7,fd8⟩:=jf9 U3;go_wp2
  refine bodyPost_ret (v:= .agg #[.slice none 0 0, .slice none 0 0, .slice none 0 0, .int .i64 0, .string Ap, .slice none 0 0, .int .i64 0, .int .i64 Ad, .int .i64 Ac]) (by simp [results,Tryz.results15,go_sem,d0,d1,d2,d3,d4,d5,d6,d7,d8]) rfl ⟨by rw [za HV1],?_⟩;refine Below.setCell (Below.setCell (Below.setCell (Below.setCell (Below.setCell (Below.setCell (Below.setCell (Below.setCell (Below.setCell (za b3) ?_ _) ?_ _) ?_ _) ?_ _) ?_ _) ?_ _) ?_ _) ?_ _) ?_ _ <;> exact Nat.le_succ _
 ·have HV1:Hid (VC=vcs (Pl.Ao.ill c)):=hide (by rw [←za HVC,za HAB c hW]);have b2:Below w1.heap.size w1 (w1.alloc (.cells #[.map none, .slice none 0 0, .slice none 0 0, .int .i64 0, .int .i64 0, .string ⟨#[]⟩] 69)):=bE0;have U2:=hide ((za U1).call b2);have b3:=b1.trans (b2.mono b1.size);clear U1 b1 b2 HY HAB HRD HVC hW HGC;go_wp2_with fail
  generalize w1.alloc (.cells #[.map none, .slice none 0 0, .slice none 0 0, .int .i64 0, .int .i64 0, .string ⟨#[]⟩] 69)=w2 at U2 b3 ⊢;refine (za HR c _ b3).mono ?_;rintro e w3 ⟨rfl,bX⟩;have U3:=(za U2).call bX;have b4:=hide (b3.trans (bX.mono b3.size));clear HR bX U2 b3;obtain ⟨⟨d0,d1,d2,d3,d4,d5,d6,d7,d8⟩,fd0,fd1,fd2,fd3,fd4,fd5,fd6,fd7,fd8⟩:=jf9 U3;go_wp2
  refine bodyPost_ret (v:= .agg #[.slice none 0 0, .slice none 0 0, .slice none 0 0, .int .i64 0, .string ⟨#[]⟩, .slice none 0 0, .int .i64 0, .int .i64 0, .int .i64 c]) (by simp [results,Tryz.results15,go_sem,d0,d1,d2,d3,d4,d5,d6,d7,d8]) rfl ⟨by rw [za HV1];rfl,?_⟩;refine Below.setCell (Below.setCell (Below.setCell (Below.setCell (Below.setCell (Below.setCell (Below.setCell (Below.setCell (Below.setCell (za b4) ?_ _) ?_ _) ?_ _) ?_ _) ?_ _) ?_ _) ?_ _) ?_ _) ?_ _ <;> exact Nat.le_succ _
end WVfs
end
section
open Go.RowKit
namespace zg5
theorem infoI:(Tryz.prog.info? 3).map (fun i=>(i.zero,i.size,i.bytes))=some (some (.int .i64 0),1,8):=by kernel_rfl
def intsV (ks:List Nat):List Value:=ks.map (fun k:Nat=>Value.int .i64 (k:Int))
def ownI (w:World) (B:Nat) (v:Value) (ks:List Nat):Prop:=w.ownsRow B 3 1 v ks.length (intsV ks)
theorem zs1 {w w':World} {B:Nat} {v:Value} {ks:List Nat} (h:ownI w B v ks) (b:Below w.heap.size w w'):ownI w' B v ks:=by
 refine ⟨h.1,?_⟩
 rcases h.2 with h0|⟨g,cap,cur,hv,hb,hg,rest⟩
 ·exact .inl h0
 ·exact .inr ⟨g,cap,cur,hv,hb,(b.block g (Array.getElem?_eq_some_iff.1 hg).1).trans hg,rest⟩
theorem yb9 {w:World} {B:Nat} {v:Value} {ks:List Nat} {k:Nat} (h:w.ownsRow B 3 1 v (ks.length+1) (intsV ks++[.int .i64 (k:Int)])):ownI w B v (ks++[k]):=by
 unfold ownI intsV;rw [List.map_append,List.length_append];exact h
end zg5
end
section
open Go.RowKit
namespace zg5
set_option linter.unusedSimpArgs false in
set_option maxRecDepth 100000 in
set_option maxHeartbeats 1000000 in
theorem all_any (n:Nat) (w:World) (hn:n≤4):
  Calls Tryz.prog 79 #[.int .i64 (n:Int)] w fun e w'=>∃v,e= .returned v∧ownI w' w.heap.size v (List.range n)∧Below w.heap.size w w':=by
 obtain ⟨i0,hi,hz0,hz1,hz2⟩:=info_parts infoI;have A0:Hid (Below w.heap.size w (w.alloc (.cells #[] 3))∧ownI (w.alloc (.cells #[] 3)) w.heap.size (.slice (some ⟨w.heap.size,0,none⟩) 0 0) (List.range 0)):=⟨bE0,⟨rfl, .inr ⟨w.heap.size,0,#[],rfl,Nat.le_refl _,heap_alloc_new _ _,Nat.le_refl _,Nat.zero_le _,rfl,rfl⟩⟩⟩;go_enter Tryz.func79,Tryz.ntmps79
 go_wp2
 go_loopw [3,4] (fun v i wr=>∃k:Nat,k≤n∧i= .int .i64 (k:Int)∧Hid (Below w.heap.size w wr∧ownI wr w.heap.size v (List.range k))) (fun _ i _=>n - (intOf i).toNat)
 case atStart=>exact ⟨0,Nat.zero_le _,rfl,A0⟩
 case round=>
  obtain ⟨k,hk,rfl,HA⟩:=hrel;clear A0;by_cases hlt:k<n
  ·have y1:(k:Int)<(n:Int):=by omega
   have bA:Below wr.heap.size wr (wr.alloc (.cells #[.int .i64 (k:Int)] 3)):=bE0;have HR:=hide (zs1 (za HA).2 bA);have HQ:=hide (fun w2 h2=>Mem.zg (o:= .cells #[.int .i64 (k:Int)] 3) (w1:=w2) (za HA).1 (Nat.le_refl _) (za HA).2 h2);have HSB:=hide (za HA).1.size;unfold ownI at HR;rw [List.length_range] at HR;clear HA bA;go_wp2_with (at_builtin;refine wpList_append_own _ rfl _ _ 100 rfl w.heap.size 3 i0 (.int .i64 0) 1 8 Tryz.underlying100 hi hz0 hz1 hz2 rfl (by decide) _ _ _ rfl (za HR) ⟨wr.heap.size,0,none⟩ 1 1 [.int .i64 (k:Int)] rfl rfl (Mem.zg3 _ _ _) (fun u hu=>by simp at hu;subst hu;rfl) (by unfold maxLen;omega) (by omega) (by have :=za HSB;simp;omega) ?_)
   intro v' w2 own' hgrow _;have A2:Hid (Below w.heap.size w w2∧ownI w2 w.heap.size v' (List.range (k+1))):=⟨za HQ w2 hgrow,by rw [List.range_succ];exact yb9 (by rw [List.length_range];exact own')⟩;clear HR HQ own' hgrow HSB;go_wp2
   go_roundw
   case rel=>exact ⟨k+1,by omega,by go_num,A2⟩
   case measure=>simp [intOf];omega
  ·obtain rfl:k=n:=by omega
   have y1:¬ ((k:Int)<(k:Int)):=by omega
   go_wp2
   go_ret
   exact ⟨_,rfl,(za HA).2,(za HA).1⟩
end zg5
end
section
open Go.RowKit
namespace Mem
theorem zl5 {P:Program} {ops:Array Oper} {o:Oper} {a:Act} {w:World} {K:Act→World→Prop} {Q:Exit→Act→World→Prop} {E:Prop}
  (hg:o.guard=none) (s x:Operand) (t:TypeId) (hop:o.op=Op.call { callee:=Callee.builtin Builtin.append,args:=#[s,x],argTypes:=#[t,t] })
  (base:Nat) (e:TypeId) (i:TypeInfo) (z:Value) (size bytes:Nat) (h1:P.underlying t=some (.slice e)) (h2:P.info? e=some i) (h3:i.zero=some z) (h4:i.size=size) (h5:i.bytes=bytes) (h6:z.cells.size=size) (h7:0<size)
  (v:Value) (n:Nat) (xs:List Value) (hs:a.eval s=v) (hown:w.ownsRow base e size v n xs)
  (ad:Addr) (m c:Nat) (news:List Value) (hx:a.eval x= .slice (some ad) m c) (hn:news.length=m*size) (hc:∀j u,news[j]? =some u→w.cell? (ad.add j)=some u) (h1c:∀u∈news,u.oneCell'=true)
  (b1:n+m≤maxLen) (b2:(n+m)*bytes≤140737488355328) (hbase:base≤w.heap.size)
  (hK:∀v' w',w'.ownsRow base e size v' (n+m) (xs++news)→w.grownBy w' v.ownBlock→K (a.put o.dst v') w'):
  if Region.wanted o (yielded ops a.tmps)=true then Oper.wp P o a w K Q else E:=by
 have hw:Region.wanted o (yielded ops a.tmps)=true:=by simp [Region.wanted,hg]
 rw [if_pos hw];obtain ⟨v',w',hrun,r1,r2,_⟩:=run_append_own (P:=P) w base t o.type e i z size bytes h1 h2 h3 h4 h5 h6 h7 v n xs hown ad m c news hn hc h1c b1 b2 hbase;unfold Oper.wp;simp [execOp,hop,resolve,invoke,builtin,hs,hx,hrun,Result.andThen]
 exact hK v' w' r1 r2
end Mem
end
section
open Go.RowKit
namespace zg5
set_option maxRecDepth 100000 in
theorem zo1 (x y:Int) (w:World):Calls Tryz.prog 109 #[.int .i64 x, .int .i64 y] w fun e w'=>e= .returned (.int .i64 (max x y))∧w'=w:=by
 by_cases h:y<x
 ·go_enter Tryz.func109,Tryz.ntmps109
  go_wp2
  go_ret
  exact ⟨by rw [show max x y=x by omega];rfl,rfl⟩
 ·go_enter Tryz.func109,Tryz.ntmps109
  go_wp2
  go_ret
  exact ⟨by rw [show max x y=y by omega];rfl,rfl⟩
end zg5
end
section
open Go.RowKit
namespace zg5
def za4 (o:Pl.Ot) (v:Value):List Value:=[.bool o.ok, .string o.node.path, .int .i64 o.node.kind, .string o.node.data, .int .i64 o.node.time, .int .i64 o.node.mark,v]
structure AtP (w W:World) (o:Pl.Ot) (v:Value):Prop where
 bel:Below w.heap.size w W
 res:Mem.Blk W w.heap.size (za4 ⟨false,Pl.za3,[]⟩ (.slice none 0 0)).toArray 102
 out:Mem.Blk W (w.heap.size+1) (za4 o v).toArray 102
 own:ownI W (w.heap.size+2) v o.parts
theorem AtP.call {w W W':World} {o:Pl.Ot} {v:Value} (h:AtP w W o v) (b:Below W.heap.size W W'):AtP w W' o v:=⟨h.bel.trans (b.mono h.bel.size),h.res.call b,h.out.call b,zs1 h.own b⟩
theorem AtP.alloc {w W:World} {o:Pl.Ot} {v:Value} (h:AtP w W o v) (x:Obj):AtP w (W.alloc x) o v:=h.call ((Below.refl _ _).alloc (Nat.le_refl _) x)
theorem ze9 {w:World} {B:Nat} {v:Value} {ks:List Nat} (h:ownI w B v ks) (a:Addr) (u:Value) (ha:a.block<B):ownI (w.setCell a u) B v ks:=by
 refine ⟨h.1,?_⟩
 rcases h.2 with h0|⟨g,cap,cur,hv,hb,hg,rest⟩
 ·exact .inl h0
 ·exact .inr ⟨g,cap,cur,hv,hb,(heap_setCell_other w a g u (by omega)).trans hg,rest⟩
theorem zv4 {w:World} {B B':Nat} {v:Value} {ks:List Nat} (h:ownI w B v ks) (hb:B'≤B):ownI w B' v ks:=by
 refine ⟨h.1,?_⟩
 rcases h.2 with h0|⟨g,cap,cur,hv,hb2,rest⟩
 ·exact .inl h0
 ·exact .inr ⟨g,cap,cur,hv,Nat.le_trans hb hb2,rest⟩
theorem zp3 {w:World} {B:Nat} {v:Value} {ks:List Nat} (h:ownI w B v ks):∃a cap,v= .slice a ks.length cap:=Mem.zh1 h
theorem AtP.put {w W:World} {o o':Pl.Ot} {v:Value} (h:AtP w W o v) (k:Nat) (u:Value) (e:(za4 o v).set k u=za4 o' v) (hp:o'.parts=o.parts):AtP w (W.setCell ⟨w.heap.size+1,k,none⟩ u) o' v:=by
 refine ⟨h.bel.setCell (by show w.heap.size≤w.heap.size+1;omega) _,h.res.far _ _ (by show w.heap.size≠w.heap.size+1;omega),?_,?_⟩
 ·have h2:=h.out.put k u;rw [List.setIfInBounds_toArray,e] at h2;exact h2
 ·rw [hp];exact ze9 h.own _ _ (by show w.heap.size+1<w.heap.size+2;omega)
theorem AtP.ok {w W:World} {o:Pl.Ot} {v:Value} (h:AtP w W o v) (x:Bool):AtP w (W.setCell ⟨w.heap.size+1,0,none⟩ (.bool x)) ⟨x,o.node,o.parts⟩ v:=h.put 0 _ rfl rfl
theorem AtP.mark {w W:World} {o:Pl.Ot} {v:Value} (h:AtP w W o v) (m:Int):AtP w (W.setCell ⟨w.heap.size+1,5,none⟩ (.int .i64 m)) ⟨o.ok,⟨o.node.path,o.node.kind,o.node.data,o.node.time,m⟩,o.parts⟩ v:=h.put 5 _ rfl rfl
theorem AtP.node {w W:World} {o:Pl.Ot} {v:Value} (h:AtP w W o v) (p:ByteArray) (k:Int) (d:ByteArray) (t m:Int):AtP w (((((W.setCell ⟨w.heap.size+1,1,none⟩ (.string p)).setCell ⟨w.heap.size+1,2,none⟩ (.int .i64 k)).setCell ⟨w.heap.size+1,3,none⟩ (.string d)).setCell ⟨w.heap.size+1,4,none⟩ (.int .i64 t)).setCell ⟨w.heap.size+1,5,none⟩ (.int .i64 m)) ⟨o.ok,⟨p,k,d,t,m⟩,o.parts⟩ v:=
 ((((h.put (o':=⟨o.ok,⟨p,o.node.kind,o.node.data,o.node.time,o.node.mark⟩,o.parts⟩) 1 _ rfl rfl).put (o':=⟨o.ok,⟨p,k,o.node.data,o.node.time,o.node.mark⟩,o.parts⟩) 2 _ rfl rfl).put (o':=⟨o.ok,⟨p,k,d,o.node.time,o.node.mark⟩,o.parts⟩) 3 _ rfl rfl).put (o':=⟨o.ok,⟨p,k,d,t,o.node.mark⟩,o.parts⟩) 4 _ rfl rfl).put 5 _ rfl rfl
theorem AtP.more {w W W':World} {o:Pl.Ot} {v v':Value} {k:Nat} (h:AtP w W o v) (own':W'.ownsRow (w.heap.size+2) 3 1 v' (o.parts.length+1) (intsV o.parts++[.int .i64 (k:Int)])) (g:W.grownBy W' v.ownBlock):AtP w (W'.setCell ⟨w.heap.size+1,6,none⟩ v') ⟨o.ok,o.node,o.parts++[k]⟩ v':=by
 have hlt:∀q,v.ownBlock=some q→w.heap.size+2≤q:=fun q hq=>(World.ownsRow.lt h.own q hq).1;refine ⟨(h.bel.grown g h.bel.size (fun q hq=>by have :=hlt q hq;omega)).setCell (by show w.heap.size≤w.heap.size+1;omega) _,(h.res.grown g (fun e=>by have :=hlt _ e.symm;omega)).far _ _ (by show w.heap.size≠w.heap.size+1;omega),?_,?_⟩
 ·have h2:=(h.out.grown g (fun e=>by have :=hlt _ e.symm;omega)).put 6 v';rw [List.setIfInBounds_toArray] at h2;exact h2
 ·exact ze9 (yb9 own') _ _ (by show w.heap.size+1<w.heap.size+2;omega)
theorem AtP.ret {w W:World} {o:Pl.Ot} {v:Value} (h:AtP w W o v) (x:Bool) (p:ByteArray) (k:Int) (d:ByteArray) (t m:Int) (u:Value):
  Mem.Blk (((((((W.setCell ⟨w.heap.size,0,none⟩ (.bool x)).setCell ⟨w.heap.size,1,none⟩ (.string p)).setCell ⟨w.heap.size,2,none⟩ (.int .i64 k)).setCell ⟨w.heap.size,3,none⟩ (.string d)).setCell ⟨w.heap.size,4,none⟩ (.int .i64 t)).setCell ⟨w.heap.size,5,none⟩ (.int .i64 m)).setCell ⟨w.heap.size,6,none⟩ u) w.heap.size #[.bool x, .string p, .int .i64 k, .string d, .int .i64 t, .int .i64 m,u] 102∧
  Below w.heap.size w (((((((W.setCell ⟨w.heap.size,0,none⟩ (.bool x)).setCell ⟨w.heap.size,1,none⟩ (.string p)).setCell ⟨w.heap.size,2,none⟩ (.int .i64 k)).setCell ⟨w.heap.size,3,none⟩ (.string d)).setCell ⟨w.heap.size,4,none⟩ (.int .i64 t)).setCell ⟨w.heap.size,5,none⟩ (.int .i64 m)).setCell ⟨w.heap.size,6,none⟩ u)∧
  ownI (((((((W.setCell ⟨w.heap.size,0,none⟩ (.bool x)).setCell ⟨w.heap.size,1,none⟩ (.string p)).setCell ⟨w.heap.size,2,none⟩ (.int .i64 k)).setCell ⟨w.heap.size,3,none⟩ (.string d)).setCell ⟨w.heap.size,4,none⟩ (.int .i64 t)).setCell ⟨w.heap.size,5,none⟩ (.int .i64 m)).setCell ⟨w.heap.size,6,none⟩ u) w.heap.size v o.parts:=by
 have hr:w.heap.size<w.heap.size+2:=by omega
 refine ⟨?_,((((((h.bel.setCell (p:=⟨w.heap.size,0,none⟩) (Nat.le_refl _) _).setCell (p:=⟨w.heap.size,1,none⟩) (Nat.le_refl _) _).setCell (p:=⟨w.heap.size,2,none⟩) (Nat.le_refl _) _).setCell (p:=⟨w.heap.size,3,none⟩) (Nat.le_refl _) _).setCell (p:=⟨w.heap.size,4,none⟩) (Nat.le_refl _) _).setCell (p:=⟨w.heap.size,5,none⟩) (Nat.le_refl _) _).setCell (p:=⟨w.heap.size,6,none⟩) (Nat.le_refl _) _,?_⟩
 ·have h2:=((((((h.res.put 0 (.bool x)).put 1 (.string p)).put 2 (.int .i64 k)).put 3 (.string d)).put 4 (.int .i64 t)).put 5 (.int .i64 m)).put 6 u;simp only [List.setIfInBounds_toArray] at h2;exact h2
 ·exact zv4 (ze9 (ze9 (ze9 (ze9 (ze9 (ze9 (ze9 h.own _ _ hr) _ _ hr) _ _ hr) _ _ hr) _ _ hr) _ _ hr) _ _ hr) (by omega)
end zg5
end
end Go.Proofs.YtgdjjncmocppeaaGreatDoor
