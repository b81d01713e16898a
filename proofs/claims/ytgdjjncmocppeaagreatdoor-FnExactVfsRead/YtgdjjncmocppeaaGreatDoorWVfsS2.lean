import Derived.Test.YtgdjjncmocppeaaGreatDoorG47
namespace Go.Proofs.YtgdjjncmocppeaaGreatDoor
open Go.RowKit
namespace WVfsS
open WVfs WSp
set_option linter.unusedSimpArgs false in
set_option maxRecDepth 100000 in
set_option maxHeartbeats 2000000 in
theorem read_any (s:Pl.Sp) (p:ByteArray) (w:World) (hp:p.size≤1048576) (hok:za8.OkS s 1048576) (hv:Mem.zc2 w s) (A:Pl.Ao) (hA:Pl.zg2 s p (Pl.zb6 s.next (s.N.map WSp.nr) s.M s.H Pl.wayB)=A):
  Calls Tryz.prog 6 #[.agg s.cs, .string p] w fun e w'=>e= .returned (vcs A)∧Below w.heap.size w w':=by
 generalize hlm:Pl.zd7 (Pl.uR p) s.M s.M.length=m;have HX:=hide (fun W (b:Below w.heap.size w W)=>begin_any s p W hp hok (hv.call b));have HI:=hide (fun c W=>ill_any c W);unfold vill at HI
 have HY:Hid (Pl.whyI p (Pl.zb6 s.next (s.N.map WSp.nr) s.M s.H Pl.wayB)=0→(Pl.za0 (Pl.rest p m.p)=true∧(Pl.ze6 (Pl.uR p) s.M s.M.length=m∧Pl.under p m.p=true∧s.M.length≤1000))∧∃ (k:Nat) (x:Pl.Ns),s.N[k]? =some x∧Pl.zc6 (s.N.map (·.d)) m.i=(k:Int)∧A=Pl.zh7 (Pl.zi (x.Is.map Pl.It.r) (Pl.rest p m.p)) (Pl.rest p m.p)∧(Pl.nest (Pl.rowO (x.Is.map Pl.It.r))).isSome=true):=hide (fun h=>by
  rcases Pl.zy6 p (Pl.zb6 s.next (s.N.map WSp.nr) s.M s.H Pl.wayB) with ⟨-,h1,h2⟩|h1|h1
  ·obtain ⟨k1,k2,k3,k4,k5,k6,k7,k8⟩:=Pl.yc9 h1;have hl:=Pl.lead_of h1 p h2;rw [hlm] at hl;obtain ⟨k,x,e1,e2,e3,e4⟩:=Pl.yg5 h1 hl.2.1;refine ⟨⟨Pl.yf6 h2 m.p,hl.1,hl.2.2.1,by omega⟩,k,x,e1,e4,?_,Pl.yd7 h1 x (List.mem_of_getElem? e1)⟩;rw [←hA];unfold Pl.zg2 Pl.seenO;rw [if_pos h,hlm,e3];rfl
  ·rw [h1] at h;cases h
  ·rw [h1] at h;cases h)
 have HAB:Hid (Pl.whyI p (Pl.zb6 s.next (s.N.map WSp.nr) s.M s.H Pl.wayB)≠0→∃c:Int,begC p (Pl.zb6 s.next (s.N.map WSp.nr) s.M s.H Pl.wayB)=c∧c≠0∧A=Pl.Ao.ill c):=hide (fun h=>by
  refine ⟨_,rfl,?_,?_⟩
  ·unfold begC;rw [if_neg h]
   split <;> decide
  ·rw [←hA];unfold Pl.zg2 begC
   rw [if_neg h,if_neg h])
 have HWH:=hide (fun (h1:Pl.ze6 (Pl.uR p) s.M s.M.length=m) (h2:Pl.under p m.p=true) (h3:s.M.length≤1000) W (b:Below w.heap.size w W)=>where_any s p W hp hok.mp h3 (hv.call b) m h1 h2);have HNE:=hide (fun (k:Nat) (x:Pl.Ns) (hx:s.N[k]? =some x) (hk:Pl.zc6 (s.N.map (·.d)) m.i=(k:Int)) W (b:Below w.heap.size w W)=>nestF_any s m.i W hok.n (Mem.zf1 hv.zj0 b) k x hx hk);have HWK:=hide (fun (k:Nat) (x:Pl.Ns) (hx:s.N[k]? =some x) (hnr:(Pl.nest (Pl.rowO (x.Is.map Pl.It.r))).isSome=true) (hp2:Pl.za0 (Pl.rest p m.p)=true) (hz2:¬ (Pl.rest p m.p).size=0) W (b:Below w.heap.size w W) (R:Pl.Nd × Int) (hR:R=walkN (Pl.zi (x.Is.map Pl.It.r) (Pl.rest p m.p)))=>walk_at x (Pl.rest p m.p) W (hok.each x (List.mem_of_getElem? hx)).2 (insts_items hv.zj0 hx b) hnr hp2 hz2 R hR);generalize Pl.zb6 s.next (s.N.map WSp.nr) s.M s.H Pl.wayB=RB at HX HY HAB;generalize Pl.rest p m.p=RT at HY HWH HWK;clear hok hv hA hlm hp
 obtain ⟨ia,ic,N,ma,mc,M,ha,hc,H,next⟩:=s;simp only at HX HY HAB HWH HNE HWK ⊢;unfold Pl.Sp.cs at HX HWH HNE ⊢;simp only at HX HWH HNE ⊢;have b0:Below w.heap.size w ((w.alloc (.cells #[.slice ia N.length ic, .slice ma M.length mc, .slice ha H.length hc, .int .i64 next] 32)).alloc (.cells #[.slice none 0 0, .slice none 0 0, .slice none 0 0, .int .i64 0, .string ⟨#[]⟩, .slice none 0 0, .int .i64 0, .int .i64 0, .int .i64 0] 35)):=(bE0).alloc (by simp) _;have V0:=hide ((Mem.Blk.new w #[.slice ia N.length ic, .slice ma M.length mc, .slice ha H.length hc, .int .i64 next] 32).alloc (.cells #[.slice none 0 0, .slice none 0 0, .slice none 0 0, .int .i64 0, .string ⟨#[]⟩, .slice none 0 0, .int .i64 0, .int .i64 0, .int .i64 0] 35))
 have U0:=hide (Mem.Blk.new (w.alloc (.cells #[.slice ia N.length ic, .slice ma M.length mc, .slice ha H.length hc, .int .i64 next] 32)) #[.slice none 0 0, .slice none 0 0, .slice none 0 0, .int .i64 0, .string ⟨#[]⟩, .slice none 0 0, .int .i64 0, .int .i64 0, .int .i64 0] 35);rw [show (w.alloc (.cells #[.slice ia N.length ic, .slice ma M.length mc, .slice ha H.length hc, .int .i64 next] 32)).heap.size=w.heap.size+1 by simp] at U0;generalize hvc:vcs A=VC;have HVC:=hide hvc;clear hvc;obtain ⟨a0,a1,a2,a3⟩:=jc4 (za V0);go_enter Tryz.func6,Tryz.ntmps6
 go_wp2_with fail
 generalize (w.alloc (.cells #[.slice ia N.length ic, .slice ma M.length mc, .slice ha H.length hc, .int .i64 next] 32)).alloc (.cells #[.slice none 0 0, .slice none 0 0, .slice none 0 0, .int .i64 0, .string ⟨#[]⟩, .slice none 0 0, .int .i64 0, .int .i64 0, .int .i64 0] 35)=wA at b0 V0 U0 a0 a1 a2 a3 ⊢;refine (za HX _ b0).mono ?_;rintro e w1 ⟨rfl,bX⟩;have b1:=b0.trans (bX.mono b0.size);have V1:=hide ((za V0).call bX);have U1:=hide ((za U0).call bX);clear HX bX V0 U0 b0 a0 a1 a2 a3;by_cases h0:Pl.whyI p RB=0
 ·obtain ⟨⟨hRT,hl1,hl2,hl3⟩,k,x,hx,hki,hAT,hnr⟩:=za HY h0;have hbc:begC p RB=0:=by unfold begC;rw [if_pos h0]
  rw [hbc];have HLW:=hide (za HWH hl1 hl2 hl3);have HNQ:=hide (za HNE k x hx hki);have HWQ:=hide (fun hz2=>za HWK k x hx hnr hRT hz2);generalize Pl.zi (x.Is.map Pl.It.r) RT=o at HWQ hAT;have HAT:=hide hAT;clear HY HAB HWH HNE HWK hx hki hnr hl1 hl2 hl3 hbc h0 hAT;obtain ⟨a0,a1,a2,a3⟩:=jc4 (za V1);go_wp2_with fail
  refine (za HLW _ b1).mono ?_;rintro e w3 ⟨rfl,bX⟩;have bA:Below w3.heap.size w3 (w3.alloc (.cells #[.string m.p, .int .i64 m.i, .bool m.z] 51)):=bE0;have bb:=bX.trans (bA.mono bX.size);have b4:=b1.trans (bb.mono b1.size);have V4:=hide ((za V1).call bb);have U4:=hide ((za U1).call bb);have X4:=hide (Mem.Blk.new w3 #[.string m.p, .int .i64 m.i, .bool m.z] 51);clear V1 U1 b1 bX bA bb a0 a1 a2 a3 HLW;go_upto_region 5 with fail
  generalize w3.alloc (.cells #[.string m.p, .int .i64 m.i, .bool m.z] 51)=w4 at b4 V4 U4 X4 ⊢;generalize w3.heap.size=X at X4 ⊢;by_cases hz:RT.size=0
  ·have HV1:Hid (VC=vcs (Pl.Ao.ill 11)):=hide (by
    rw [←za HVC,za HAT];unfold Pl.zh7
    rw [if_pos hz])
   have t2:RT.toList.isEmpty=true:=by rw [Pl.zb3];simpa [Pl.ze8] using hz
   clear HAT HVC HNQ HWQ X4 V4;go_wp2_with fail
   refine (za HI 11 _).mono ?_;rintro e wI ⟨rfl,bX⟩;have bI:=hide ((b4).trans (bX.mono (b4).size));have UI:=(za U4).call bX;clear bX HI U4;obtain ⟨⟨d0,d1,d2,d3,d4,d5,d6,d7,d8⟩,fd0,fd1,fd2,fd3,fd4,fd5,fd6,fd7,fd8⟩:=jf9 UI;go_wp2
   refine bodyPost_ret (v:= .agg #[.slice none 0 0, .slice none 0 0, .slice none 0 0, .int .i64 0, .string ⟨#[]⟩, .slice none 0 0, .int .i64 0, .int .i64 0, .int .i64 11]) (by simp [results,Tryz.results6,go_sem,d0,d1,d2,d3,d4,d5,d6,d7,d8]) rfl ⟨by rw [za HV1];rfl,?_⟩;refine Below.setCell (Below.setCell (Below.setCell (Below.setCell (Below.setCell (Below.setCell (Below.setCell (Below.setCell (Below.setCell (za bI) ?_ _) ?_ _) ?_ _) ?_ _) ?_ _) ?_ _) ?_ _) ?_ _) ?_ _ <;> exact Nat.le_succ _
  have HV1:Hid (VC=vcs (Pl.zo o)):=hide (by
   rw [←za HVC,za HAT];unfold Pl.zh7
   rw [if_neg hz])
  have t2:RT.toList.isEmpty=false:=by rw [Pl.zb3];simpa [Pl.ze8] using hz
  obtain ⟨R,hR⟩:∃R:Pl.Nd × Int,R=walkN o:=⟨_,rfl⟩;have HW2:=hide (fun W b=>za HWQ hz W b R hR);have HFI:=hide (fun W=>file_any o R hR W);clear HAT HVC HWQ HI hR;obtain ⟨a0,a1,a2,a3⟩:=jc4 (za V4);have x1:=(za X4).cell 1;simp only [kGs] at x1;go_wp2_with fail
  refine (za HNQ _ b4).mono ?_;rintro e w5 ⟨rfl,bX⟩;have b5:=b4.trans (bX.mono b4.size);have U5:=hide ((za U4).call bX);clear HNQ V4 U4 X4 b4 bX a0 a1 a2 a3 x1;go_wp2_with fail
  refine (za HW2 _ b5).mono ?_;rintro e w6 ⟨rfl,bX⟩;have b6:=b5.trans (bX.mono b5.size);have U6:=hide ((za U5).call bX);clear HW2 U5 b5 bX;unfold vcs at HFI;go_wp2_with fail
  refine (za HFI _).mono ?_;rintro e w7 ⟨rfl,bX⟩;have b7:=hide (b6.trans (bX.mono b6.size));have U7:=(za U6).call bX;clear HFI U6 b6 bX;generalize Pl.zo o=AA at HV1 ⊢;obtain ⟨AN,AM,AH,Ax,Ad,Ap,Ac⟩:=AA;simp only at HV1 ⊢;obtain ⟨⟨d0,d1,d2,d3,d4,d5,d6,d7,d8⟩,fd0,fd1,fd2,fd3,fd4,fd5,fd6,fd7,fd8⟩:=jf9 U7;go_wp2
  refine bodyPost_ret (v:= .agg #[.slice none 0 0, .slice none 0 0, .slice none 0 0, .int .i64 0, .string Ap, .slice none 0 0, .int .i64 0, .int .i64 Ad, .int .i64 Ac]) (by simp [results,Tryz.results6,go_sem,d0,d1,d2,d3,d4,d5,d6,d7,d8]) rfl ⟨by rw [za HV1];rfl,?_⟩;refine Below.setCell (Below.setCell (Below.setCell (Below.setCell (Below.setCell (Below.setCell (Below.setCell (Below.setCell (Below.setCell (za b7) ?_ _) ?_ _) ?_ _) ?_ _) ?_ _) ?_ _) ?_ _) ?_ _) ?_ _ <;> exact Nat.le_succ _
 ·obtain ⟨c,hbc,hc0,hA⟩:=za HAB h0;have HV1:Hid (VC=vcs (Pl.Ao.ill c)):=hide (by rw [←za HVC,hA]);rw [hbc];have z1:¬ (c=0):=hc0;have z2:(c==0)=false:=by simpa using z1
  have z3:decide (c=0)=false:=by simpa using z1
  clear HY HAB HWH HNE HWK HVC hA h0 V1 hbc;go_wp2_with fail
  refine (za HI c _).mono ?_;rintro e wI ⟨rfl,bX⟩;have bI:=hide ((b1).trans (bX.mono (b1).size));have UI:=(za U1).call bX;clear bX HI U1;obtain ⟨⟨d0,d1,d2,d3,d4,d5,d6,d7,d8⟩,fd0,fd1,fd2,fd3,fd4,fd5,fd6,fd7,fd8⟩:=jf9 UI;go_wp2
  refine bodyPost_ret (v:= .agg #[.slice none 0 0, .slice none 0 0, .slice none 0 0, .int .i64 0, .string ⟨#[]⟩, .slice none 0 0, .int .i64 0, .int .i64 0, .int .i64 c]) (by simp [results,Tryz.results6,go_sem,d0,d1,d2,d3,d4,d5,d6,d7,d8]) rfl ⟨by rw [za HV1];rfl,?_⟩;refine Below.setCell (Below.setCell (Below.setCell (Below.setCell (Below.setCell (Below.setCell (Below.setCell (Below.setCell (Below.setCell (za bI) ?_ _) ?_ _) ?_ _) ?_ _) ?_ _) ?_ _) ?_ _) ?_ _) ?_ _ <;> exact Nat.le_succ _
end WVfsS
end Go.Proofs.YtgdjjncmocppeaaGreatDoor
