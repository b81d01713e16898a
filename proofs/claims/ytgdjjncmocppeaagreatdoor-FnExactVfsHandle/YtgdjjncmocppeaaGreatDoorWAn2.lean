import Derived.Test.YtgdjjncmocppeaaGreatDoorWHdZ
import Derived.Test.YtgdjjncmocppeaaGreatDoorWHdM
import Derived.Test.YtgdjjncmocppeaaGreatDoorWHdH
import Derived.Test.YtgdjjncmocppeaaGreatDoorG18
set_option linter.unusedSimpArgs false
namespace Go.Proofs.YtgdjjncmocppeaaGreatDoor
open Go.RowKit
namespace WSpO
def kF (u:Pl.Sp):Nat:=Pl.kZ 1 u.N u.N.length+3*u.M.length+3*u.H.length
theorem kZ_small {u:Pl.Sp} (hs:Sm u):Pl.kZ 1 u.N u.N.length≤50000∧0<Pl.kZ 1 u.N u.N.length:=by
 have h1:=Pl.kZ_le 1 u.N (fun x hx=>⟨(hs.i x hx).1,(hs.i x hx).2.2⟩) _ (Nat.le_refl _);have h2:=Pl.kZ_ge 1 u.N u.N.length;have :=hs.n;omega
set_option maxRecDepth 100000 in
set_option maxHeartbeats 1000000 in
theorem markSp_any (u:Pl.Sp) (S1 S2 S3 HH:Nat) (lo hi:Nat→Nat) (w:World) (hs:Sm u) (h:An w u S1 S2 S3 HH lo hi):
  Calls Tryz.prog 11 #[.agg u.cs, .int .i64 1] w fun e w'=>e= .returned (.int .i64 (kF u:Int))∧Mk8 w' u∧Mem.Band S1 HH w w':=by
 obtain ⟨hk1,hk0⟩:=kZ_small hs;have c1:=hide (fun W (b:Below w.heap.size w W)=>marksZ u S1 S2 S3 HH lo hi W hs (h.call b));have c2:=hide (fun W K h0 h1 (o:Mem.own3 51 Pl.Mn.cs W S2 (.slice u.ma u.M.length u.mc) u.M)=>marksM u.M u.ma u.mc S2 K W h0 h1 hs.m o);have c3:=hide (fun W K h0 h1 (o:Mem.own3 87 Pl.Hn.cs W S3 (.slice u.ha u.H.length u.hc) u.H)=>marksH u.H u.ha u.hc S3 K W h0 h1 hs.h o);have HA:=hide h;have hM:=hs.m;have hH:=hs.h;have hq2:=h.s2;have hq3:=h.s3;have hq4:=h.s4;have hq5:=h.s5;have HKF:Hid (kF u=Pl.kZ 1 u.N u.N.length+3*u.M.length+3*u.H.length):=hide rfl;unfold Pl.Sp.cs;have b0:=(Below.refl w.heap.size w).alloc (o:= .cells #[.slice u.ia u.N.length u.ic, .slice u.ma u.M.length u.mc, .slice u.ha u.H.length u.hc, .int .i64 u.next] 32) (Nat.le_refl _)
 have V0:=hide (Mem.Blk.new w #[.slice u.ia u.N.length u.ic, .slice u.ma u.M.length u.mc, .slice u.ha u.H.length u.hc, .int .i64 u.next] 32);have a0:=(za V0).cell 0;simp only [kGs] at a0;clear hs h;go_enter Tryz.func11,Tryz.ntmps11
 go_wp2_with fail
 have HC:=hide (za c1 _ b0);have HA1:=hide ((za HA).call b0);have D0:Hid (Mem.Band S1 HH w (w.alloc (.cells #[.slice u.ia u.N.length u.ic, .slice u.ma u.M.length u.mc, .slice u.ha u.H.length u.hc, .int .i64 u.next] 32))):=hide (Mem.Band.of_below b0);clear c1 HA;generalize w.alloc (.cells #[.slice u.ia u.N.length u.ic, .slice u.ma u.M.length u.mc, .slice u.ha u.H.length u.hc, .int .i64 u.next] 32)=wA at b0 V0 a0 HC HA1 D0 ⊢;refine (za HC).mono ?_;rintro e w1 ⟨rfl,mz,bd⟩;have hlV:w.heap.size<wA.heap.size:=(za V0).lt;have V1:=hide (bd.blk (za V0) (.inr (by omega)));have MZ1:=hide mz;have om1:=Mem.zi1 (za HA1).om (fun g hg=>bd.block g (Mem.zd4 (za HA1).om g hg).2 (.inr (Mem.zd4 (za HA1).om g hg).1));have oh1:=Mem.zi1 (za HA1).oh (fun g hg=>bd.block g (Mem.zd4 (za HA1).oh g hg).2 (.inr (by have :=(Mem.zd4 (za HA1).oh g hg).1;omega)))
 have D1:=hide ((za D0).trans ⟨bd.os,bd.tape,bd.output,bd.size,fun b hb hh=>bd.block b hb (by omega)⟩);have OH1:=hide oh1;have OM1:=hide om1;have R1:=hide (za HA1).r1;have H1:=hide (za HA1).h1;have R2:=hide (za HA1).r2;have R3:=hide (za HA1).r3;have hl1:=bd.size;clear HC mz bd om1 oh1 HA1 V0 D0 a0 b0;have a1:=(za V1).cell 1;simp only [kGs] at a1;have HC:=hide (za c2 w1 (Pl.kZ 1 u.N u.N.length) hk0 (by omega) (za OM1));generalize hKe:Pl.kZ 1 u.N u.N.length=K1 at HC HKF hk0 hk1 ⊢;have HKE:=hide hKe;clear c2 hKe;go_wp2_with fail
 refine (za HC).mono ?_;rintro e w2 ⟨rfl,hm2,gr⟩;have V2:=hide ((za V1).grown gr (fun e=>by have :=za R2 _ e.symm;omega));have hlo2:=fun g hg=>(Mem.zd4 (za OM1) g hg).1;have MZ2:=hide (Mz_up (za MZ1) gr hlo2 (za R1) (za H1));have OH2:=hide (show Mem.own3 87 Pl.Hn.cs w2 S3 (.slice u.ha u.H.length u.hc) u.H from Mem.zi1 (za OH1) (fun g hg=>gr.block g (Mem.zd4 (za OH1) g hg).2 (fun e=>by have :=(Mem.zd4 (za OH1) g hg).1;have :=za R2 g e.symm;omega)));have D2:=hide ((za D1).trans ⟨gr.os,gr.tape,gr.output,gr.size,fun b hb hh=>gr.block b hb (fun e=>by have h1:=hlo2 b e.symm;have h2:=za R2 b e.symm;omega)⟩);have HM2:=hide hm2;have HR2:=hide hlo2;have hl2:=gr.size;clear HC hm2 gr MZ1 OM1 OH1 V1 D1 a1 hlo2;have a2:=(za V2).cell 2;simp only [kGs] at a2;have HC:=hide (za c3 w2 (K1+3*u.M.length) (by omega) (by omega) (za OH2));have hMK:=za HM2;clear c3;go_wp2_with fail
 refine (za HC).mono ?_;rintro e w3 ⟨rfl,hh3,gr⟩;have hlo3:=fun g hg=>(Mem.zd4 (za OH2) g hg).1;have MZ3:=hide (Mz_up (za MZ2) gr (fun g hg=>by have :=hlo3 g hg;omega) (za R1) (za H1));have D3:=hide ((za D2).trans ⟨gr.os,gr.tape,gr.output,gr.size,fun b hb hh=>gr.block b hb (fun e=>by have h1:=hlo3 b e.symm;have h2:=za R3 b e.symm;omega)⟩)
 have HM3:Hid (Mem.zb8 w3 u.ma (Pl.zr0 K1 u.M.length)):=hide (fun i x hx=>by
  obtain ⟨b,o,e1,e2,e3,e4,e5⟩:=hMK i x hx
  have hne:some b≠(Value.slice u.ha u.H.length u.hc).ownBlock:=fun e=>by
   have h3:=hlo3 b e.symm;have h4:=za R2 b (by rw [e1];rfl);omega
  exact ⟨b,o,e1,Nat.lt_of_lt_of_le e2 gr.size,gr.cell e3 hne,gr.cell e4 hne,gr.cell e5 hne⟩)
 have HH3:=hide hh3;clear HC hh3 gr MZ2 OH2 V2 D2 a2 hMK HM2 hlo3;go_wp2
 go_ret
 refine ⟨?_,⟨(za MZ3).zj0,?_,?_⟩,za D3⟩
 ·rw [za HKF];exact congrArg (fun x=>Ending.returned (Value.int .i64 x)) (by omega)
 ·rw [za HKE];exact za HM3
 ·rw [za HKE];exact za HH3
set_option maxRecDepth 100000 in
set_option maxHeartbeats 1000000 in
theorem heldSp_any (u:Pl.Sp) (w:World) (hs:Sm u) (h:Mk8 w u):
  Calls Tryz.prog 39 #[.agg u.cs, .int .i64 1] w fun e w'=>e= .returned (.int .i64 (kF u:Int))∧Below w.heap.size w w':=by
 obtain ⟨hk1,hk0⟩:=kZ_small hs;have hM:=hs.m;have hH:=hs.h;have c1:=hide (fun W (b:Below w.heap.size w W)=>WMkY.zf4 u.ia u.ic u.N W hs.n (fun x hx=>⟨(hs.i x hx).1,(hs.i x hx).2.2⟩) (h.call b).i);have c2:=hide (fun W (b:Below w.heap.size w W)=>WMkM.zf4 u.ma u.M.length u.mc (Pl.kZ 1 u.N u.N.length) W (by omega) hk0 (by omega) (h.call b).m);have c3:=hide (fun W (b:Below w.heap.size w W)=>WMkH.zf4 u.ha u.H.length u.hc (Pl.kZ 1 u.N u.N.length+3*u.M.length) W (by omega) (by omega) (by omega) (h.call b).h);have HKF:Hid (kF u=Pl.kZ 1 u.N u.N.length+3*u.M.length+3*u.H.length):=hide rfl;generalize kF u=KF at HKF ⊢;generalize Pl.kZ 1 u.N u.N.length=K1 at c1 c2 c3 HKF hk0 hk1;clear hs h;unfold Pl.Sp.cs;have b0:=(Below.refl w.heap.size w).alloc (o:= .cells #[.slice u.ia u.N.length u.ic, .slice u.ma u.M.length u.mc, .slice u.ha u.H.length u.hc, .int .i64 u.next] 32) (Nat.le_refl _)
 have V0:=hide (Mem.Blk.new w #[.slice u.ia u.N.length u.ic, .slice u.ma u.M.length u.mc, .slice u.ha u.H.length u.hc, .int .i64 u.next] 32);have a0:=(za V0).cell 0;simp only [kGs] at a0;go_enter Tryz.func39,Tryz.ntmps39
 go_wp2_with fail
 generalize w.alloc (.cells #[.slice u.ia u.N.length u.ic, .slice u.ma u.M.length u.mc, .slice u.ha u.H.length u.hc, .int .i64 u.next] 32)=wA at b0 V0 a0 ⊢;refine (za c1 _ b0).mono ?_;rintro e w1 ⟨rfl,bX⟩;have b1:=b0.trans (bX.mono b0.size);have V1:=hide ((za V0).call bX);have n1:¬ (K1:Int)<0:=by omega
 clear c1 bX V0 b0 a0;have a1:=(za V1).cell 1;simp only [kGs] at a1;go_wp2_with fail
 refine (za c2 _ b1).mono ?_;rintro e w2 ⟨rfl,bX⟩;have b2:=b1.trans (bX.mono b1.size);have V2:=hide ((za V1).call bX);have n2:¬ ((K1+3*u.M.length:Nat):Int)<0:=by omega
 clear c2 bX V1 b1 a1;have a2:=(za V2).cell 2;simp only [kGs] at a2;generalize K1+3*u.M.length=K2 at c3 n2 HKF ⊢;go_wp2_with fail
 refine (za c3 _ b2).mono ?_;rintro e w3 ⟨rfl,bX⟩;have b3:=b2.trans (bX.mono b2.size);have n3:¬ ((K2+3*u.H.length:Nat):Int)<0:=by omega
 clear c3 bX V2 b2 a2;generalize K2+3*u.H.length=K3 at n3 HKF ⊢;go_wp2
 go_ret
 exact ⟨(by rw [za HKF];first |done|rfl),b3⟩
end WSpO
end Go.Proofs.YtgdjjncmocppeaaGreatDoor
