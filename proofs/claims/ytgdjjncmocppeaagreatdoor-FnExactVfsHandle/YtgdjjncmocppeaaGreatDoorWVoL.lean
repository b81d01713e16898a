import Derived.Test.YtgdjjncmocppeaaGreatDoorG02
import Derived.Test.YtgdjjncmocppeaaGreatDoorWLawEs
import Derived.Test.YtgdjjncmocppeaaGreatDoorWVo
import Derived.Test.YtgdjjncmocppeaaGreatDoorWAn2
set_option linter.unusedSimpArgs false
namespace Go.Proofs.YtgdjjncmocppeaaGreatDoor
open Go.RowKit
namespace WVfs
set_option maxRecDepth 100000 in
theorem eqS_nil (w:World):Calls Tryz.prog 31 #[.slice none 0 0, .slice none 0 0] w fun e w'=>e= .returned (.bool true)∧Below w.heap.size w w':=by
 go_enter Tryz.func31,Tryz.ntmps31
 go_wp2
 refine wp_loop_rounds 1 ?_;rw [rounds_succ];go_wp2
 go_ret
 exact ⟨rfl,Below.refl _ _⟩
set_option maxRecDepth 100000 in
theorem markS_nil (K:Nat) (w:World):Calls Tryz.prog 38 #[.slice none 0 0, .int .i64 (K:Int)] w fun e w'=>e= .returned (.int .i64 (K:Int))∧Below w.heap.size w w':=by
 go_enter Tryz.func38,Tryz.ntmps38
 go_wp2
 refine wp_loop_rounds 1 ?_;rw [rounds_succ];go_wp2
 go_ret
 exact ⟨rfl,Below.refl _ _⟩
set_option maxRecDepth 100000 in
theorem heldS_nil (K:Nat) (w:World):Calls Tryz.prog 40 #[.slice none 0 0, .int .i64 (K:Int)] w fun e w'=>e= .returned (.int .i64 (K:Int))∧Below w.heap.size w w':=by
 go_enter Tryz.func40,Tryz.ntmps40
 go_wp2
 refine wp_loop_rounds 1 ?_;rw [rounds_succ];go_wp2
 go_ret
 exact ⟨rfl,Below.refl _ _⟩
set_option maxRecDepth 100000 in
set_option maxHeartbeats 1000000 in
theorem eq_any (s u:Pl.Sp) (d:Int) (p:ByteArray) (c:Int) (w:World) (hs:za8.OkS s 1048576) (hn:u.N.map Pl.Ns.r=s.N.map Pl.Ns.r) (hm:u.M=s.M) (hh:u.H=s.H) (hx:u.next=s.next) (hv:Mem.zc2 w s) (hu:Mem.zc2 w u):
  Calls Tryz.prog 9 #[.agg (vo s d p c), .agg (vo u d p c)] w fun e w'=>e= .returned (.bool true)∧Below w.heap.size w w':=by
 have HE:=hide (fun W (b:Below w.heap.size w W)=>za8.yc5 s u W hs hn hm hh hx (hv.call b) (hu.call b));clear hs hn hm hh hx hv hu;unfold vo;unfold Pl.Sp.cs at HE;have b0:Below w.heap.size w ((w.alloc (.cells #[.slice s.ia s.N.length s.ic, .slice s.ma s.M.length s.mc, .slice s.ha s.H.length s.hc, .int .i64 s.next, .string p, .slice none 0 0, .int .i64 0, .int .i64 d, .int .i64 c] 35)).alloc (.cells #[.slice u.ia u.N.length u.ic, .slice u.ma u.M.length u.mc, .slice u.ha u.H.length u.hc, .int .i64 u.next, .string p, .slice none 0 0, .int .i64 0, .int .i64 d, .int .i64 c] 35)):=(bE0).alloc (by simp) _
 have V0:=hide ((Mem.Blk.new w #[.slice s.ia s.N.length s.ic, .slice s.ma s.M.length s.mc, .slice s.ha s.H.length s.hc, .int .i64 s.next, .string p, .slice none 0 0, .int .i64 0, .int .i64 d, .int .i64 c] 35).alloc (.cells #[.slice u.ia u.N.length u.ic, .slice u.ma u.M.length u.mc, .slice u.ha u.H.length u.hc, .int .i64 u.next, .string p, .slice none 0 0, .int .i64 0, .int .i64 d, .int .i64 c] 35))
 have X0:Hid (Mem.Blk ((w.alloc (.cells #[.slice s.ia s.N.length s.ic, .slice s.ma s.M.length s.mc, .slice s.ha s.H.length s.hc, .int .i64 s.next, .string p, .slice none 0 0, .int .i64 0, .int .i64 d, .int .i64 c] 35)).alloc (.cells #[.slice u.ia u.N.length u.ic, .slice u.ma u.M.length u.mc, .slice u.ha u.H.length u.hc, .int .i64 u.next, .string p, .slice none 0 0, .int .i64 0, .int .i64 d, .int .i64 c] 35)) (w.heap.size+1) #[.slice u.ia u.N.length u.ic, .slice u.ma u.M.length u.mc, .slice u.ha u.H.length u.hc, .int .i64 u.next, .string p, .slice none 0 0, .int .i64 0, .int .i64 d, .int .i64 c] 35):=hide (Mem.zi4 _ _ _);have a0:=(za V0).cell 0;have a1:=(za V0).cell 1;have a2:=(za V0).cell 2;have a3:=(za V0).cell 3;have x0:=(za X0).cell 0;have x1:=(za X0).cell 1;have x2:=(za X0).cell 2;have x3:=(za X0).cell 3
 simp only [kGs] at a0 a1 a2 a3 x0 x1 x2 x3;go_enter Tryz.func9,Tryz.ntmps9
 go_wp2_with fail
 generalize ((w.alloc (.cells #[.slice s.ia s.N.length s.ic, .slice s.ma s.M.length s.mc, .slice s.ha s.H.length s.hc, .int .i64 s.next, .string p, .slice none 0 0, .int .i64 0, .int .i64 d, .int .i64 c] 35)).alloc (.cells #[.slice u.ia u.N.length u.ic, .slice u.ma u.M.length u.mc, .slice u.ha u.H.length u.hc, .int .i64 u.next, .string p, .slice none 0 0, .int .i64 0, .int .i64 d, .int .i64 c] 35))=wA at b0 V0 X0 a0 a1 a2 a3 x0 x1 x2 x3 ⊢;refine (za HE _ b0).mono ?_;rintro e w1 ⟨rfl,bX⟩;have b1:=b0.trans (bX.mono b0.size);have V1:=hide ((za V0).call bX);have X1:=hide ((za X0).call bX);clear HE bX V0 X0 b0 a0 a1 a2 a3 x0 x1 x2 x3;have a4:=(za V1).cell 4;have a5:=(za V1).cell 5;have x4:=(za X1).cell 4;have x5:=(za X1).cell 5;simp only [kGs] at a4 a5 x4 x5;go_wp2_with fail
 refine (eqS_nil _).mono ?_;rintro e w2 ⟨rfl,bX⟩;have b2:=b1.trans (bX.mono b1.size);have V2:=hide ((za V1).call bX);have X2:=hide ((za X1).call bX);clear bX V1 X1 b1 a4 a5 x4 x5;have a6:=(za V2).cell 6;have a7:=(za V2).cell 7;have a8:=(za V2).cell 8;have x6:=(za X2).cell 6;have x7:=(za X2).cell 7;have x8:=(za X2).cell 8;simp only [kGs] at a6 a7 a8 x6 x7 x8;go_wp2
 go_ret
 exact ⟨rfl,b2⟩
set_option maxRecDepth 100000 in
set_option maxHeartbeats 1000000 in
theorem ze0 (u:Pl.Sp) (d:Int) (p:ByteArray) (c:Int) (S1 S2 S3 HH:Nat) (lo hi:Nat→Nat) (w:World) (hs:WSpO.Sm u) (h:WSpO.An w u S1 S2 S3 HH lo hi):
  Calls Tryz.prog 12 #[.agg (vo u d p c), .int .i64 1] w fun e w'=>e= .returned (.int .i64 (WSpO.kF u:Int))∧WSpO.Mk8 w' u∧Mem.Band S1 HH w w':=by
 have HC:=hide (fun W (b:Below w.heap.size w W)=>WSpO.markSp_any u S1 S2 S3 HH lo hi W hs (h.call b));have hHH:=h.s5;clear hs h;unfold vo;unfold Pl.Sp.cs at HC;generalize WSpO.kF u=KF at HC ⊢;have b0:=(Below.refl w.heap.size w).alloc (o:= .cells #[.slice u.ia u.N.length u.ic, .slice u.ma u.M.length u.mc, .slice u.ha u.H.length u.hc, .int .i64 u.next, .string p, .slice none 0 0, .int .i64 0, .int .i64 d, .int .i64 c] 35) (Nat.le_refl _);have V0:=hide (Mem.Blk.new w #[.slice u.ia u.N.length u.ic, .slice u.ma u.M.length u.mc, .slice u.ha u.H.length u.hc, .int .i64 u.next, .string p, .slice none 0 0, .int .i64 0, .int .i64 d, .int .i64 c] 35);obtain ⟨a0,a1,a2,a3⟩:=jc4 (za V0);go_enter Tryz.func12,Tryz.ntmps12
 go_wp2_with fail
 generalize w.alloc (.cells #[.slice u.ia u.N.length u.ic, .slice u.ma u.M.length u.mc, .slice u.ha u.H.length u.hc, .int .i64 u.next, .string p, .slice none 0 0, .int .i64 0, .int .i64 d, .int .i64 c] 35)=wA at b0 V0 a0 a1 a2 a3 ⊢;refine (za HC _ b0).mono ?_;rintro e w1 ⟨rfl,hm,bd⟩;have V1:=hide (bd.blk (za V0) (.inr hHH));have HM:=hide hm;have HB:=hide ((Mem.Band.of_below b0:Mem.Band S1 HH w wA).trans bd);clear HC hm bd b0 V0 a0 a1 a2 a3;have a5:=(za V1).cell 5;simp only [kGs] at a5;go_wp2_with fail
 refine (markS_nil KF w1).mono ?_;rintro e w2 ⟨rfl,bX⟩;have HM2:=hide ((za HM).call bX);have HB2:=hide ((za HB).trans (Mem.Band.of_below bX:Mem.Band S1 HH w1 w2));clear HM HB V1 a5 bX;go_wp2
 go_ret
 exact ⟨rfl,za HM2,za HB2⟩
set_option maxRecDepth 100000 in
set_option maxHeartbeats 1000000 in
theorem zf4 (u:Pl.Sp) (d:Int) (p:ByteArray) (c:Int) (w:World) (hs:WSpO.Sm u) (h:WSpO.Mk8 w u):
  Calls Tryz.prog 13 #[.agg (vo u d p c), .int .i64 1] w fun e w'=>e= .returned (.int .i64 (WSpO.kF u:Int))∧Below w.heap.size w w':=by
 have HC:=hide (fun W (b:Below w.heap.size w W)=>WSpO.heldSp_any u W hs (h.call b));clear hs h;unfold vo;unfold Pl.Sp.cs at HC;generalize WSpO.kF u=KF at HC ⊢;have b0:=(Below.refl w.heap.size w).alloc (o:= .cells #[.slice u.ia u.N.length u.ic, .slice u.ma u.M.length u.mc, .slice u.ha u.H.length u.hc, .int .i64 u.next, .string p, .slice none 0 0, .int .i64 0, .int .i64 d, .int .i64 c] 35) (Nat.le_refl _);have V0:=hide (Mem.Blk.new w #[.slice u.ia u.N.length u.ic, .slice u.ma u.M.length u.mc, .slice u.ha u.H.length u.hc, .int .i64 u.next, .string p, .slice none 0 0, .int .i64 0, .int .i64 d, .int .i64 c] 35);obtain ⟨a0,a1,a2,a3⟩:=jc4 (za V0);have hk:¬ (KF:Int)<0:=by omega
 go_enter Tryz.func13,Tryz.ntmps13
 go_wp2_with fail
 generalize w.alloc (.cells #[.slice u.ia u.N.length u.ic, .slice u.ma u.M.length u.mc, .slice u.ha u.H.length u.hc, .int .i64 u.next, .string p, .slice none 0 0, .int .i64 0, .int .i64 d, .int .i64 c] 35)=wA at b0 V0 a0 a1 a2 a3 ⊢;refine (za HC _ b0).mono ?_;rintro e w1 ⟨rfl,bX⟩;have b1:=b0.trans (bX.mono b0.size);have V1:=hide ((za V0).call bX);clear HC bX b0 V0 a0 a1 a2 a3;have a5:=(za V1).cell 5;simp only [kGs] at a5;go_wp2_with fail
 refine (heldS_nil KF w1).mono ?_;rintro e w2 ⟨rfl,bX⟩;have b2:=b1.trans (bX.mono b1.size);clear V1 a5 bX b1;go_wp2
 go_ret
 exact ⟨rfl,b2⟩
end WVfs
end Go.Proofs.YtgdjjncmocppeaaGreatDoor
