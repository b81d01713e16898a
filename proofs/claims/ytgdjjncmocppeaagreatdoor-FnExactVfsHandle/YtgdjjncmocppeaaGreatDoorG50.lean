/- Several texts of one claim in one file: WVoL, OkNode, OkItems, OpenNode, OpenTree, OpenItems, OpenSpace. -/
import Derived.Test.YtgdjjncmocppeaaGreatDoorG49
import Derived.Test.YtgdjjncmocppeaaGreatDoorRows
import Derived.ProofKit
import Derived.OpenShut
import Derived.ShutString
import Derived.Test.YtgdjjncmocppeaaGreatDoorG34
namespace Go.Proofs.YtgdjjncmocppeaaGreatDoor
section
set_option linter.unusedSimpArgs false
open Go.RowKit
namespace WVfs
set_option maxRecDepth 100000 in
theorem eqS_nil (w:World):Calls Tryz.prog 31 #[.slice none 0 0, .slice none 0 0] w fun e w'=>e= .returned (.bool true)∧Below w.heap.size w w':=by
 go_enter Tryz.func31,Tryz.ntmps31
 go_wp2
 refine wp_loop_rounds 1 ?_;rw [rounds_succ];go_wp2
 go_ret
 exact ⟨rfl,Below.refl _ _⟩
set_option maxRecDepth 100000 in
theorem markS_nil (K:Nat) (w:World):Calls Tryz.prog 38 #[.slice none 0 0, .int .i64 (K:Int)] w fun e w'=>e= .returned (.int .i64 (K:Int))∧Below w.heap.size w w':=by
 go_enter Tryz.func38,Tryz.ntmps38
 go_wp2
 refine wp_loop_rounds 1 ?_;rw [rounds_succ];go_wp2
 go_ret
 exact ⟨rfl,Below.refl _ _⟩
set_option maxRecDepth 100000 in
theorem heldS_nil (K:Nat) (w:World):Calls Tryz.prog 40 #[.slice none 0 0, .int .i64 (K:Int)] w fun e w'=>e= .returned (.int .i64 (K:Int))∧Below w.heap.size w w':=by
 go_enter Tryz.func40,Tryz.ntmps40
 go_wp2
 refine wp_loop_rounds 1 ?_;rw [rounds_succ];go_wp2
 go_ret
 exact ⟨rfl,Below.refl _ _⟩
set_option maxRecDepth 100000 in
set_option maxHeartbeats 1000000 in
theorem eq_any (s u:Pl.Sp) (d:Int) (p:ByteArray) (c:Int) (w:World) (hs:za8.OkS s 1048576) (hn:u.N.map Pl.Ns.r=s.N.map Pl.Ns.r) (hm:u.M=s.M) (hh:u.H=s.H) (hx:u.next=s.next) (hv:Mem.zc2 w s) (hu:Mem.zc2 w u):
  Calls Tryz.prog 9 #[.agg (vo s d p c), .agg (vo u d p c)] w fun e w'=>e= .returned (.bool true)∧Below w.heap.size w w':=by
 have HE:=hide (fun W (b:Below w.heap.size w W)=>za8.yc5 s u W hs hn hm hh hx (hv.call b) (hu.call b));clear hs hn hm hh hx hv hu;unfold vo;unfold Pl.Sp.cs at HE;have b0:Below w.heap.size w ((w.alloc (.cells #[.slice s.ia s.N.length s.ic, .slice s.ma s.M.length s.mc, .slice s.ha s.H.length s.hc, .int .i64 s.next, .string p, .slice none 0 0, .int .i64 0, .int .i64 d, .int .i64 c] 35)).alloc (.cells #[.slice u.ia u.N.length u.ic, .slice u.ma u.M.length u.mc, .slice u.ha u.H.length u.hc, .int .i64 u.next, .string p, .slice none 0 0, .int .i64 0, .int .i64 d, .int .i64 c] 35)):=(bE0).alloc (by simp) _
 have V0:=hide ((Mem.Blk.new w #[.slice s.ia s.N.length s.ic, .slice s.ma s.M.length s.mc, .slice s.ha s.H.length s.hc, .int .i64 s.next, .string p, .slice none 0 0, .int .i64 0, .int .i64 d, .int .i64 c] 35).alloc (.cells #[.slice u.ia u.N.length u.ic, .slice u.ma u.M.length u.mc, .slice u.ha u.H.length u.hc, .int .i64 u.next, .string p, .slice none 0 0, .int .i64 0, .int .i64 d, .int .i64 c] 35))
 have X0:Hid (Mem.Blk ((w.alloc (.cells #[.slice s.ia s.N.length s.ic, .slice s.ma s.M.length s.mc, .slice s.ha s.H.length s.hc, .int .i64 s.next, .string p, .slice none 0 0, .int .i64 0, .int .i64 d, .int .i64 c] 35)).alloc (.cells #[.slice u.ia u.N.length u.ic, .slice u.ma u.M.length u.mc, .slice u.ha u.H.length u.hc, .int .i64 u.next, .string p, .slice none 0 0, .int .i64 0, .int .i64 d, .int .i64 c] 35)) (w.heap.size+1) #[.slice u.ia u.N.length u.ic, .slice u.ma u.M.length u.mc, .slice u.ha u.H.length u.hc, .int .i64 u.next, .string p, .slice none 0 0, .int .i64 0, .int .i64 d, .int .i64 c] 35):=hide (Mem.zi4 _ _ _);have a0:=(za V0).cell 0;have a1:=(za V0).cell 1;have a2:=(za V0).cell 2;have a3:=(za V0).cell 3;have x0:=(za X0).cell 0;have x1:=(za X0).cell 1;have x2:=(za X0).cell 2;have x3:=(za X0).cell 3
 simp only [kGs] at a0 a1 a2 a3 x0 x1 x2 x3;go_enter Tryz.func9,Tryz.ntmps9
 go_wp2_with fail
 generalize ((w.alloc (.cells #[.slice s.ia s.N.length s.ic, .slice s.ma s.M.length s.mc, .slice s.ha s.H.length s.hc, .int .i64 s.next, .string p, .slice none 0 0, .int .i64 0, .int .i64 d, .int .i64 c] 35)).alloc (.cells #[.slice u.ia u.N.length u.ic, .slice u.ma u.M.length u.mc, .slice u.ha u.H.length u.hc, .int .i64 u.next, .string p, .slice none 0 0, .int .i64 0, .int .i64 d, .int .i64 c] 35))=wA at b0 V0 X0 a0 a1 a2 a3 x0 x1 x2 x3 ⊢;refine (za HE _ b0).mono ?_;rintro e w1 ⟨rfl,bX⟩;have b1:=b0.trans (bX.mono b0.size);have V1:=hide ((za V0).call bX);have X1:=hide ((za X0).call bX);clear HE bX V0 X0 b0 a0 a1 a2 a3 x0 x1 x2 x3;have a4:=(za V1).cell 4;have a5:=(za V1).cell 5;have x4:=(za X1).cell 4;have x5:=(za X1).cell 5;simp only [kGs] at a4 a5 x4 x5;go_wp2_with fail
 refine (eqS_nil _).mono ?_;rintro e w2 ⟨rfl,bX⟩;have b2:=b1.trans (bX.mono b1.size);have V2:=hide ((za V1).call bX);have X2:=hide ((za X1).call bX);clear bX V1 X1 b1 a4 a5 x4 x5;have a6:=(za V2).cell 6;have a7:=(za V2).cell 7;have a8:=(za V2).cell 8;have x6:=(za X2).cell 6;have x7:=(za X2).cell 7;have x8:=(za X2).cell 8;simp only [kGs] at a6 a7 a8 x6 x7 x8;go_wp2
 go_ret
 exact ⟨rfl,b2⟩
set_option maxRecDepth 100000 in
set_option maxHeartbeats 1000000 in
theorem ze0 (u:Pl.Sp) (d:Int) (p:ByteArray) (c:Int) (S1 S2 S3 HH:Nat) (lo hi:Nat→Nat) (w:World) (hs:WSpO.Sm u) (h:WSpO.An w u S1 S2 S3 HH lo hi):
  Calls Tryz.prog 12 #[.agg (vo u d p c), .int .i64 1] w fun e w'=>e= .returned (.int .i64 (WSpO.kF u:Int))∧WSpO.Mk8 w' u∧Mem.Band S1 HH w w':=by
 have HC:=hide (fun W (b:Below w.heap.size w W)=>WSpO.markSp_any u S1 S2 S3 HH lo hi W hs (h.call b));have hHH:=h.s5;clear hs h;unfold vo;unfold Pl.Sp.cs at HC;generalize WSpO.kF u=KF at HC ⊢;have b0:=(Below.refl w.heap.size w).alloc (o:= .cells #[.slice u.ia u.N.length u.ic, .slice u.ma u.M.length u.mc, .slice u.ha u.H.length u.hc, .int .i64 u.next, .string p, .slice none 0 0, .int .i64 0, .int .i64 d, .int .i64 c] 35) (Nat.le_refl _);have V0:=hide (Mem.Blk.new w #[.slice u.ia u.N.length u.ic, .slice u.ma u.M.length u.mc, .slice u.ha u.H.length u.hc, .int .i64 u.next, .string p, .slice none 0 0, .int .i64 0, .int .i64 d, .int .i64 c] 35);obtain ⟨a0,a1,a2,a3⟩:=jc4 (za V0);go_enter Tryz.func12,Tryz.ntmps12
 go_wp2_with fail
 generalize w.alloc (.cells #[.slice u.ia u.N.length u.ic, .slice u.ma u.M.length u.mc, .slice u.ha u.H.length u.hc, .int .i64 u.next, .string p, .slice none 0 0, .int .i64 0, .int .i64 d, .int .i64 c] 35)=wA at b0 V0 a0 a1 a2 a3 ⊢;refine (za HC _ b0).mono ?_;rintro e w1 ⟨rfl,hm,bd⟩;have V1:=hide (bd.blk (za V0) (.inr hHH));have HM:=hide hm;have HB:=hide ((Mem.Band.of_below b0:Mem.Band S1 HH w wA).trans bd);clear HC hm bd b0 V0 a0 a1 a2 a3;have a5:=(za V1).cell 5;simp only [kGs] at a5;go_wp2_with fail
 refine (markS_nil KF w1).mono ?_;rintro e w2 ⟨rfl,bX⟩;have HM2:=hide ((za HM).call bX);have HB2:=hide ((za HB).trans (Mem.Band.of_below bX:Mem.Band S1 HH w1 w2));clear HM HB V1 a5 bX;go_wp2
 go_ret
 exact ⟨rfl,za HM2,za HB2⟩
set_option maxRecDepth 100000 in
set_option maxHeartbeats 1000000 in
theorem zf4 (u:Pl.Sp) (d:Int) (p:ByteArray) (c:Int) (w:World) (hs:WSpO.Sm u) (h:WSpO.Mk8 w u):
  Calls Tryz.prog 13 #[.agg (vo u d p c), .int .i64 1] w fun e w'=>e= .returned (.int .i64 (WSpO.kF u:Int))∧Below w.heap.size w w':=by
 have HC:=hide (fun W (b:Below w.heap.size w W)=>WSpO.heldSp_any u W hs (h.call b));clear hs h;unfold vo;unfold Pl.Sp.cs at HC;generalize WSpO.kF u=KF at HC ⊢;have b0:=(Below.refl w.heap.size w).alloc (o:= .cells #[.slice u.ia u.N.length u.ic, .slice u.ma u.M.length u.mc, .slice u.ha u.H.length u.hc, .int .i64 u.next, .string p, .slice none 0 0, .int .i64 0, .int .i64 d, .int .i64 c] 35) (Nat.le_refl _);have V0:=hide (Mem.Blk.new w #[.slice u.ia u.N.length u.ic, .slice u.ma u.M.length u.mc, .slice u.ha u.H.length u.hc, .int .i64 u.next, .string p, .slice none 0 0, .int .i64 0, .int .i64 d, .int .i64 c] 35);obtain ⟨a0,a1,a2,a3⟩:=jc4 (za V0);have hk:¬ (KF:Int)<0:=by omega
 go_enter Tryz.func13,Tryz.ntmps13
 go_wp2_with fail
 generalize w.alloc (.cells #[.slice u.ia u.N.length u.ic, .slice u.ma u.M.length u.mc, .slice u.ha u.H.length u.hc, .int .i64 u.next, .string p, .slice none 0 0, .int .i64 0, .int .i64 d, .int .i64 c] 35)=wA at b0 V0 a0 a1 a2 a3 ⊢;refine (za HC _ b0).mono ?_;rintro e w1 ⟨rfl,bX⟩;have b1:=b0.trans (bX.mono b0.size);have V1:=hide ((za V0).call bX);clear HC bX b0 V0 a0 a1 a2 a3;have a5:=(za V1).cell 5;simp only [kGs] at a5;go_wp2_with fail
 refine (heldS_nil KF w1).mono ?_;rintro e w2 ⟨rfl,bX⟩;have b2:=b1.trans (bX.mono b1.size);clear V1 a5 bX b1;go_wp2
 go_ret
 exact ⟨rfl,b2⟩
end WVfs
end
section
open Go.RowKit
namespace zk5
def Ok (n:Pl.Nd):Prop:=n.path.size≤maxLen∧n.data.size≤maxLen∧(-9223372036854775808≤n.kind∧n.kind≤9223372036854775807)∧(-9223372036854775808≤n.time∧n.time≤9223372036854775807)∧(-9223372036854775808≤n.mark∧n.mark≤9223372036854775807)
end zk5
end
section
open Go.RowKit
namespace zq1
structure OkI (w:World) (a:Option Addr) (Is:List Pl.It):Prop where
 len:Is.length≤maxLen
 items:Mem.zb2 w a Is
 ok:∀x∈Is,x.t.L.length≤maxLen∧∀n∈x.t.L,zk5.Ok n
end zq1
end
section
open Go.ChangeShapes Go.WideShapes Go.ChangeAt Go.RowKit
namespace zk5
theorem five {α:Type} {l:List α} (h:l.length=5):∃a b c d e,l=[a,b,c,d,e]:=by
 match l,h with
 | [a,b,c,d,e],_=>exact ⟨a,b,c,d,e,rfl⟩
theorem cells5:Tryz.prog.cellsOf 264=5:=by kernel_rfl
theorem cellsS:Tryz.prog.cellsOf 9=1:=by kernel_rfl
theorem zc4:Tryz.prog.cellsOf 2=1:=by kernel_rfl
set_option maxRecDepth 100000 in
theorem node {H:Type} {enc:TypeId × Value→H} {w:World} {base fuel:Nat} {spare:Nat→Bool} {held:Bool} {cs:List Value} {x:DataW H × List MemPlace}
  (h:DataW.trod enc Tryz.prog w base spare held fuel 264 cs=some x):∃n:Pl.Nd,cs=n.cells∧Ok n:=by
 obtain ⟨xs,m,rfl, -,hlen,hxl,hf⟩:=DataW.trod_struct Tryz.underlying264 h;obtain ⟨c0,c1,c2,c3,c4,rfl⟩:=five (hlen.trans cells5);obtain ⟨y0,y1,y2,y3,y4,rfl⟩:=five hxl;have h0:=hf 0 _ rfl;have h1:=hf 1 _ rfl;have h2:=hf 2 _ rfl;have h3:=hf 3 _ rfl;have h4:=hf 4 _ rfl
 change DataW.trod enc Tryz.prog w base spare held m 9 (([c0,c1,c2,c3,c4].drop 0).take (Tryz.prog.cellsOf 9))=some y0 at h0
 rw [cellsS] at h0
 change DataW.trod enc Tryz.prog w base spare held m 2 (([c0,c1,c2,c3,c4].drop 1).take (Tryz.prog.cellsOf 2))=some y1 at h1
 rw [zc4] at h1
 change DataW.trod enc Tryz.prog w base spare held m 9 (([c0,c1,c2,c3,c4].drop 2).take (Tryz.prog.cellsOf 9))=some y2 at h2
 rw [cellsS] at h2
 change DataW.trod enc Tryz.prog w base spare held m 2 (([c0,c1,c2,c3,c4].drop 3).take (Tryz.prog.cellsOf 2))=some y3 at h3
 rw [zc4] at h3
 change DataW.trod enc Tryz.prog w base spare held m 2 (([c0,c1,c2,c3,c4].drop 4).take (Tryz.prog.cellsOf 2))=some y4 at h4
 rw [zc4] at h4;obtain ⟨p,e0, -,wp⟩:=DataW.trod_string Tryz.underlying9 h0;obtain ⟨k,e1, -,wk⟩:=DataW.trod_int Tryz.underlying2 h1;obtain ⟨d,e2, -,wd⟩:=DataW.trod_string Tryz.underlying9 h2;obtain ⟨t,e3, -,wt⟩:=DataW.trod_int Tryz.underlying2 h3;obtain ⟨q,e4, -,wq⟩:=DataW.trod_int Tryz.underlying2 h4;simp at e0 e1 e2 e3 e4
 subst e0 e1 e2 e3 e4;exact ⟨⟨p,k,d,t,q⟩,rfl,wp,wd,zs2 wk,zs2 wt,zs2 wq⟩
end zk5
end
section
open Go.ChangeShapes Go.WideShapes Go.ChangeAt Go.RowKit
namespace zp2
theorem cells1:Tryz.prog.cellsOf 193=1:=by kernel_rfl
theorem cellsL:Tryz.prog.cellsOf 191=1:=by kernel_rfl
structure OkT (w:World) (a:Option Addr) (L:List Pl.Nd):Prop where
 len:L.length≤maxLen
 nodes:Mem.za9 w a L
 ok:∀n∈L,zk5.Ok n
theorem one {α:Type} {l:List α} (h:l.length=1):∃a,l=[a]:=by
 match l,h with
 | [a],_=>exact ⟨a,rfl⟩
theorem mapM5 {f:Nat→Option Value} {c0 c1 c2 c3 c4:Value} (h:(List.range 5).mapM f=some [c0,c1,c2,c3,c4]):f 0=some c0∧f 1=some c1∧f 2=some c2∧f 3=some c3∧f 4=some c4:=by
 have e:List.range 5=[0,1,2,3,4]:=rfl;rw [e] at h;simp only [List.mapM_cons,List.mapM_nil,Option.pure_def,Option.bind_eq_bind] at h;cases h0:f 0 with
 |none=>rw [h0] at h;simp at h
 |some a0=>
  cases h1:f 1 with
  |none=>rw [h0,h1] at h;simp at h
  |some a1=>
   cases h2:f 2 with
   |none=>rw [h0,h1,h2] at h;simp at h
   |some a2=>
    cases h3:f 3 with
    |none=>rw [h0,h1,h2,h3] at h;simp at h
    |some a3=>
     cases h4:f 4 with
     |none=>rw [h0,h1,h2,h3,h4] at h;simp at h
     |some a4=>
      rw [h0,h1,h2,h3,h4] at h;simp at h
      obtain ⟨rfl,rfl,rfl,rfl,rfl⟩:=h;exact ⟨rfl,rfl,rfl,rfl,rfl⟩
end zp2
end
section
open Go.ChangeShapes Go.WideShapes Go.ChangeAt Go.RowKit
namespace zq1
theorem cells2:Tryz.prog.cellsOf 195=2:=by kernel_rfl
theorem zc4:Tryz.prog.cellsOf 2=1:=by kernel_rfl
theorem two {α:Type} {l:List α} (h:l.length=2):∃a b,l=[a,b]:=by
 match l,h with
 | [a,b],_=>exact ⟨a,b,rfl⟩
set_option maxRecDepth 100000 in
theorem tree {H:Type} {enc:TypeId × Value→H} {w:World} {base fuel:Nat} {spare:Nat→Bool} {held:Bool} {cs:List Value} {x:DataW H × List MemPlace}
  (hf:DataW.trod enc Tryz.prog w base spare held fuel 193 cs=some x):∃t:Pl.Tr,cs=[t.val]∧zp2.OkT w t.a t.L:=by
 obtain ⟨xs,m,rfl, -,hlen,hxl,hfl⟩:=DataW.trod_struct Tryz.underlying193 hf;obtain ⟨c,rfl⟩:=zp2.one (hlen.trans zp2.cells1);obtain ⟨y,rfl⟩:=zp2.one hxl;have h0:=hfl 0 _ rfl
 change DataW.trod enc Tryz.prog w base spare held m 191 (([c].drop 0).take (Tryz.prog.cellsOf 191))=some y at h0
 rw [zp2.cellsL] at h0
 rcases DataW.trod_slice Tryz.underlying191 h0 with ⟨e, -⟩|⟨a,len,cap,elems,rest,k, -,e, -,hb,hl,hm,hel,hE, -, -⟩
 ·simp at e
  subst e;exact ⟨⟨none,0,[]⟩,rfl,⟨Nat.zero_le _,Mem.ya5 _ _,fun n hn=>by cases hn⟩⟩
 ·simp at e
  subst e
  have each:∀i,i<len→∃n:Pl.Nd,zk5.Ok n∧(∃b o,some a=some ⟨b,o,none⟩∧b<w.heap.size∧
    w.cell? ⟨b,o+i*5,none⟩=some (.string n.path)∧w.cell? ⟨b,o+i*5+1,none⟩=some (.int .i64 n.kind)∧w.cell? ⟨b,o+i*5+2,none⟩=some (.string n.data)∧
    w.cell? ⟨b,o+i*5+3,none⟩=some (.int .i64 n.time)∧w.cell? ⟨b,o+i*5+4,none⟩=some (.int .i64 n.mark)):=by
   intro i hi;have h1:=hE i hi;rw [List.getElem?_eq_getElem (by omega),zk5.cells5] at h1;simp only [Option.bind_eq_some_iff] at h1;obtain ⟨ds,h2,h3⟩:=h1;obtain ⟨n,rfl,ok⟩:=zk5.node h3;unfold World.cells? at h2
   split at h2
   rotate_left
   ·cases h2
   obtain ⟨g0,g1,g2,g3,g4⟩:=zp2.mapM5 h2;obtain ⟨b,o,spot⟩:=a
   have hspot:spot=none:=by
    have h1:=hE 0 (by omega);rw [List.getElem?_eq_getElem (by omega),zk5.cells5] at h1;simp only [Option.bind_eq_some_iff] at h1;obtain ⟨ds,h2,h3⟩:=h1;obtain ⟨n,rfl,ok⟩:=zk5.node h3;unfold World.cells? at h2
    split at h2
    rotate_left
    ·cases h2
    simpa [Addr.add] using World.cell?_spot (zp2.mapM5 h2).1
   subst hspot;have add:∀j,((⟨b,o,none⟩:Addr).add (i*5)).add j=⟨b,o+i*5+j,none⟩:=fun j=>by rw [Mem.zx8,Mem.zx8]
   rw [add] at g0 g1 g2 g3 g4;exact ⟨n,ok,b,o,rfl,World.block_lt_of_cell? w ⟨b,o+i*5+0,none⟩ g0,g0,g1,g2,g3,g4⟩
  refine ⟨⟨some a,cap,List.ofFn (fun i:Fin len=>Classical.choose (each i i.2))⟩,by simp [Pl.Tr.val],⟨by simp;omega,fun i n hn=>?_,fun n hn=>?_⟩⟩
  ·rw [List.getElem?_ofFn] at hn
   split at hn
   ·cases hn;exact (Classical.choose_spec (each i (by assumption))).2
   ·cases hn
  ·obtain ⟨i,rfl⟩:=List.mem_ofFn.1 hn;exact (Classical.choose_spec (each i i.2)).1
set_option maxRecDepth 100000 in
theorem item {H:Type} {enc:TypeId × Value→H} {w:World} {base fuel:Nat} {spare:Nat→Bool} {held:Bool} {cs:List Value} {x:DataW H × List MemPlace}
  (hf:DataW.trod enc Tryz.prog w base spare held fuel 195 cs=some x):∃y:Pl.It,cs=[.int .i64 y.m,y.t.val]∧zp2.OkT w y.t.a y.t.L:=by
 obtain ⟨xs,m,rfl, -,hlen,hxl,hfl⟩:=DataW.trod_struct Tryz.underlying195 hf;obtain ⟨c,d,rfl⟩:=two (hlen.trans cells2);obtain ⟨y,z,rfl⟩:=two hxl;have h0:=hfl 0 _ rfl;have h1:=hfl 1 _ rfl
 change DataW.trod enc Tryz.prog w base spare held m 2 (([c,d].drop 0).take (Tryz.prog.cellsOf 2))=some y at h0
 change DataW.trod enc Tryz.prog w base spare held m 193 (([c,d].drop 1).take (Tryz.prog.cellsOf 193))=some z at h1
 rw [zc4] at h0;rw [zp2.cells1] at h1;obtain ⟨t,e,ok⟩:=tree h1;obtain ⟨n,e0, -, -⟩:=DataW.trod_int Tryz.underlying2 h0;simp at e e0
 subst e e0;exact ⟨⟨n,t⟩,rfl,ok⟩
end zq1
end
section
open Go.ChangeShapes Go.WideShapes Go.ChangeAt Go.RowKit
namespace OpenSp
theorem rows {α:Type} {H:Type} {enc:TypeId × Value→H} {w:World} {base fuel:Nat} {spare:Nat→Bool} {held:Bool} {T E:TypeId} {c:Nat} (hu:Tryz.prog.underlying T=some (.slice E)) (hc:Tryz.prog.cellsOf E=c) (hc0:0<c) (cs:α→List Value) (R:α→Prop)
  (hone:∀ (m:Nat) (ds:List Value) (y:DataW H × List MemPlace),DataW.trod enc Tryz.prog w base spare held m E ds=some y→∃t:α,ds=cs t∧R t)
  {v:Value} {x:DataW H × List MemPlace} (h:DataW.trod enc Tryz.prog w base spare held fuel T [v]=some x):
  ∃ (a:Option Addr) (L:List α) (cap:Nat),v= .slice a L.length cap∧L.length≤maxLen∧(∀ (i:Nat) t,L[i]? =some t→∃b o,a=some ⟨b,o,none⟩∧b<w.heap.size∧∀j u,(cs t)[j]? =some u→w.cell? ⟨b,o+i*c+j,none⟩=some u)∧∀t∈L,R t:=by
 rcases DataW.trod_slice hu h with ⟨e, -⟩|⟨a,len,cap,elems,rest,k, -,e, -,hb,hl,hm,hel,hE, -, -⟩
 ·obtain rfl:v= .slice none 0 0:=by simpa using e
  exact ⟨none,[],0,rfl,Nat.zero_le _,fun i t hi=>by simp at hi,fun t ht=>by cases ht⟩
 ·obtain rfl:v= .slice (some a) len cap:=by simpa using e
  have hsp:0<len→a.spot=none:=by
   intro h0;have h1:=hE 0 h0;rw [List.getElem?_eq_getElem (by omega),hc] at h1;simp only [Option.bind_eq_some_iff] at h1;obtain ⟨ds,h2, -⟩:=h1;unfold World.cells? at h2
   split at h2
   rotate_left
   ·cases h2
   have hlen:=mapM_some_length h2;rw [List.length_range] at hlen;have hg:=mapM_some_get h2 0 0 (by rw [List.getElem?_range hc0]);rw [List.getElem?_eq_getElem (by omega)] at hg
   simpa [Addr.add] using World.cell?_spot hg
  have each:∀i,i<len→∃t:α,R t∧∃b o,some a=some (⟨b,o,none⟩:Addr)∧b<w.heap.size∧∀j u,(cs t)[j]? =some u→w.cell? ⟨b,o+i*c+j,none⟩=some u:=by
   intro i hi;have h1:=hE i hi;rw [List.getElem?_eq_getElem (by omega),hc] at h1;simp only [Option.bind_eq_some_iff] at h1;obtain ⟨ds,h2,h3⟩:=h1;obtain ⟨t,rfl,ok⟩:=hone _ _ _ h3;unfold World.cells? at h2
   split at h2
   rotate_left
   ·cases h2
   have hlen:=mapM_some_length h2;rw [List.length_range] at hlen;have hget:∀j,j<c→w.cell? ((a.add (i*c)).add j)=(cs t)[j]?:=fun j hj=>mapM_some_get h2 j j (by rw [List.getElem?_range hj]);obtain ⟨b,o,spot⟩:=a;have g0:w.cell? (((⟨b,o,spot⟩:Addr).add (i*c)).add 0)=some ((cs t)[0]'(by omega)):=by rw [hget 0 hc0];exact List.getElem?_eq_getElem (by omega)
   have hspot:spot=none:=hsp (by omega);subst hspot;have add:∀j,((⟨b,o,none⟩:Addr).add (i*c)).add j=⟨b,o+i*c+j,none⟩:=fun j=>by rw [Mem.zx8,Mem.zx8]
   rw [add] at g0;refine ⟨t,ok,b,o,rfl,World.block_lt_of_cell? w ⟨b,o+i*c+0,none⟩ g0,fun j u hj=>?_⟩;have hjl:=(List.getElem?_eq_some_iff.1 hj).1;rw [←add,hget j (by omega)];exact hj
  refine ⟨some a,List.ofFn (fun i:Fin len=>Classical.choose (each i i.2)),cap,by simp,by simp;omega,fun i t ht=>?_,fun t ht=>?_⟩
  ·rw [List.getElem?_ofFn] at ht
   split at ht
   ·cases ht
    exact (Classical.choose_spec (each i (by assumption))).2
   ·cases ht
  ·obtain ⟨i,rfl⟩:=List.mem_ofFn.1 ht;exact (Classical.choose_spec (each i i.2)).1
theorem cellsB:Tryz.prog.cellsOf 4=1:=by kernel_rfl
theorem zh0:Tryz.prog.cellsOf 92=2:=by kernel_rfl
theorem cellsM:Tryz.prog.cellsOf 94=3:=by kernel_rfl
theorem cellsH:Tryz.prog.cellsOf 96=3:=by kernel_rfl
theorem cellsP:Tryz.prog.cellsOf 26=4:=by kernel_rfl
theorem cellsNs:Tryz.prog.cellsOf 22=1:=by kernel_rfl
theorem cellsMs:Tryz.prog.cellsOf 23=1:=by kernel_rfl
theorem cellsHs:Tryz.prog.cellsOf 24=1:=by kernel_rfl
theorem cellsIs:Tryz.prog.cellsOf 90=1:=by kernel_rfl
theorem three {α:Type} {l:List α} (h:l.length=3):∃a b c,l=[a,b,c]:=by
 match l,h with
 | [a,b,c],_=>exact ⟨a,b,c,rfl⟩
theorem four {α:Type} {l:List α} (h:l.length=4):∃a b c d,l=[a,b,c,d]:=by
 match l,h with
 | [a,b,c,d],_=>exact ⟨a,b,c,d,rfl⟩
section
variable {H:Type} {enc:TypeId × Value→H} {w:World} {base fuel:Nat} {spare:Nat→Bool} {held:Bool}
set_option maxRecDepth 100000 in
theorem items {v:Value} {x:DataW H × List MemPlace} (h:DataW.trod enc Tryz.prog w base spare held fuel 90 [v]=some x):∃ (a:Option Addr) (Is:List Pl.It) (cap:Nat),v= .slice a Is.length cap∧zq1.OkI w a Is:=by
 obtain ⟨a,L,cap,e,hl,hr,hR⟩:=rows (α:=Pl.It) Tryz.underlying90 zq1.cells2 (by omega) (fun y=>[.int .i64 y.m,y.t.val]) (fun y=>zp2.OkT w y.t.a y.t.L) (fun m ds y hy=>zq1.item hy) h;refine ⟨a,L,cap,e,hl,fun i t hi=>?_,fun t ht=>⟨(hR t ht).len,(hR t ht).ok⟩⟩;obtain ⟨b,o,h1,h2,h3⟩:=hr i t hi;exact ⟨⟨b,o,h1,h2,h3 0 _ rfl,h3 1 _ rfl⟩,(hR t (List.mem_of_getElem? hi)).nodes⟩
set_option maxRecDepth 100000 in
theorem inst {cs:List Value} {x:DataW H × List MemPlace} (h:DataW.trod enc Tryz.prog w base spare held fuel 92 cs=some x):∃y:Pl.Ns,cs=[.int .i64 y.d, .slice y.a y.Is.length y.cap]∧zq1.OkI w y.a y.Is:=by
 obtain ⟨xs,m,rfl, -,hlen,hxl,hf⟩:=DataW.trod_struct Tryz.underlying92 h;obtain ⟨c,d,rfl⟩:=zq1.two (hlen.trans zh0);obtain ⟨y,z,rfl⟩:=zq1.two hxl;have h0:=hf 0 _ rfl;have h1:=hf 1 _ rfl
 change DataW.trod enc Tryz.prog w base spare held m 2 (([c,d].drop 0).take (Tryz.prog.cellsOf 2))=some y at h0
 change DataW.trod enc Tryz.prog w base spare held m 90 (([c,d].drop 1).take (Tryz.prog.cellsOf 90))=some z at h1
 rw [zq1.zc4] at h0;rw [cellsIs] at h1;obtain ⟨n,e0, -, -⟩:=DataW.trod_int Tryz.underlying2 h0;obtain ⟨a,Is,cap,e1,ok⟩:=items (v:=d) h1;simp at e0
 subst e0 e1;exact ⟨⟨n,a,cap,Is⟩,rfl,ok⟩
set_option maxRecDepth 100000 in
theorem mount {cs:List Value} {x:DataW H × List MemPlace} (h:DataW.trod enc Tryz.prog w base spare held fuel 94 cs=some x):∃y:Pl.Mn,cs=[.string y.p, .int .i64 y.i, .bool y.z]∧y.p.size≤maxLen∧MapI.i64 y.i:=by
 obtain ⟨xs,m,rfl, -,hlen,hxl,hf⟩:=DataW.trod_struct Tryz.underlying94 h;obtain ⟨c0,c1,c2,rfl⟩:=three (hlen.trans cellsM);obtain ⟨y0,y1,y2,rfl⟩:=three hxl;have h0:=hf 0 _ rfl;have h1:=hf 1 _ rfl;have h2:=hf 2 _ rfl
 change DataW.trod enc Tryz.prog w base spare held m 9 (([c0,c1,c2].drop 0).take (Tryz.prog.cellsOf 9))=some y0 at h0
 change DataW.trod enc Tryz.prog w base spare held m 2 (([c0,c1,c2].drop 1).take (Tryz.prog.cellsOf 2))=some y1 at h1
 change DataW.trod enc Tryz.prog w base spare held m 4 (([c0,c1,c2].drop 2).take (Tryz.prog.cellsOf 4))=some y2 at h2
 rw [zk5.cellsS] at h0;rw [zk5.zc4] at h1;rw [cellsB] at h2;obtain ⟨p,e0, -,wp⟩:=DataW.trod_string Tryz.underlying9 h0;obtain ⟨k,e1, -,wk⟩:=DataW.trod_int Tryz.underlying2 h1;obtain ⟨b,e2, -⟩:=DataW.trod_bool Tryz.underlying4 h2;simp at e0 e1 e2
 subst e0 e1 e2;exact ⟨⟨p,k,b⟩,rfl,wp,zs2 wk⟩
set_option maxRecDepth 100000 in
theorem handle {cs:List Value} {x:DataW H × List MemPlace} (h:DataW.trod enc Tryz.prog w base spare held fuel 96 cs=some x):∃y:Pl.Hn,cs=[.int .i64 y.d, .int .i64 y.i, .string y.p]∧y.p.size≤maxLen∧MapI.i64 y.i:=by
 obtain ⟨xs,m,rfl, -,hlen,hxl,hf⟩:=DataW.trod_struct Tryz.underlying96 h;obtain ⟨c0,c1,c2,rfl⟩:=three (hlen.trans cellsH);obtain ⟨y0,y1,y2,rfl⟩:=three hxl;have h0:=hf 0 _ rfl;have h1:=hf 1 _ rfl;have h2:=hf 2 _ rfl
 change DataW.trod enc Tryz.prog w base spare held m 2 (([c0,c1,c2].drop 0).take (Tryz.prog.cellsOf 2))=some y0 at h0
 change DataW.trod enc Tryz.prog w base spare held m 2 (([c0,c1,c2].drop 1).take (Tryz.prog.cellsOf 2))=some y1 at h1
 change DataW.trod enc Tryz.prog w base spare held m 9 (([c0,c1,c2].drop 2).take (Tryz.prog.cellsOf 9))=some y2 at h2
 rw [zk5.zc4] at h0 h1;rw [zk5.cellsS] at h2;obtain ⟨d,e0, -,wd⟩:=DataW.trod_int Tryz.underlying2 h0;obtain ⟨k,e1, -,wk⟩:=DataW.trod_int Tryz.underlying2 h1;obtain ⟨p,e2, -,wp⟩:=DataW.trod_string Tryz.underlying9 h2;simp at e0 e1 e2
 subst e0 e1 e2;exact ⟨⟨d,k,p⟩,rfl,wp,zs2 wk⟩
set_option maxRecDepth 100000 in
theorem space {cs:List Value} {x:DataW H × List MemPlace} (h:DataW.trod enc Tryz.prog w base spare held fuel 26 cs=some x):∃s:Pl.Sp,cs=s.cs.toList∧OkP w s:=by
 obtain ⟨xs,m,rfl, -,hlen,hxl,hf⟩:=DataW.trod_struct Tryz.underlying26 h;obtain ⟨c0,c1,c2,c3,rfl⟩:=four (hlen.trans cellsP);obtain ⟨y0,y1,y2,y3,rfl⟩:=four hxl;have h0:=hf 0 _ rfl;have h1:=hf 1 _ rfl;have h2:=hf 2 _ rfl;have h3:=hf 3 _ rfl
 change DataW.trod enc Tryz.prog w base spare held m 22 (([c0,c1,c2,c3].drop 0).take (Tryz.prog.cellsOf 22))=some y0 at h0
 change DataW.trod enc Tryz.prog w base spare held m 23 (([c0,c1,c2,c3].drop 1).take (Tryz.prog.cellsOf 23))=some y1 at h1
 change DataW.trod enc Tryz.prog w base spare held m 24 (([c0,c1,c2,c3].drop 2).take (Tryz.prog.cellsOf 24))=some y2 at h2
 change DataW.trod enc Tryz.prog w base spare held m 2 (([c0,c1,c2,c3].drop 3).take (Tryz.prog.cellsOf 2))=some y3 at h3
 rw [cellsNs] at h0;rw [cellsMs] at h1;rw [cellsHs] at h2;rw [zk5.zc4] at h3;obtain ⟨ia,N,ic,e0,ln,rn,on⟩:=rows (α:=Pl.Ns) (v:=c0) Tryz.underlying22 zh0 (by omega) (fun y=>[.int .i64 y.d, .slice y.a y.Is.length y.cap]) (fun y=>zq1.OkI w y.a y.Is) (fun _ _ _ hy=>inst hy) h0;obtain ⟨ma,M,mc,e1,lm,rm,om⟩:=rows (α:=Pl.Mn) (v:=c1) Tryz.underlying23 cellsM (by omega) (fun y=>[.string y.p, .int .i64 y.i, .bool y.z]) (fun y=>y.p.size≤maxLen∧MapI.i64 y.i) (fun _ _ _ hy=>mount hy) h1;obtain ⟨ha,Hs,hc,e2,lh,rh,oh⟩:=rows (α:=Pl.Hn) (v:=c2) Tryz.underlying24 cellsH (by omega) (fun y=>[.int .i64 y.d, .int .i64 y.i, .string y.p]) (fun y=>y.p.size≤maxLen∧MapI.i64 y.i) (fun _ _ _ hy=>handle hy) h2;obtain ⟨n,e3, -, -⟩:=DataW.trod_int Tryz.underlying2 h3;simp at e3
 subst e0 e1 e2 e3;refine ⟨⟨ia,ic,N,ma,mc,M,ha,hc,Hs,n⟩,rfl,⟨fun i t hi=>?_,fun i t hi=>?_,fun i t hi=>?_⟩,⟨ln,lm,lh,fun t ht=>?_,fun t ht=>(om t ht).1,fun t ht=>(oh t ht).1⟩,⟨fun t ht=>(om t ht).2,fun t ht=>(oh t ht).2⟩⟩
 ·obtain ⟨b,o,k1,k2,k3⟩:=rn i t hi;exact ⟨⟨b,o,k1,k2,k3 0 _ rfl,k3 1 _ rfl⟩,(on t (List.mem_of_getElem? hi)).items⟩
 ·obtain ⟨b,o,k1,k2,k3⟩:=rm i t hi;exact ⟨b,o,k1,k2,k3 0 _ rfl,k3 1 _ rfl,k3 2 _ rfl⟩
 ·obtain ⟨b,o,k1,k2,k3⟩:=rh i t hi;exact ⟨b,o,k1,k2,k3 0 _ rfl,k3 1 _ rfl,k3 2 _ rfl⟩
 ·have h:=on t ht;exact ⟨h.len,fun u hu=>⟨(h.ok u hu).1,fun n hn=>⟨((h.ok u hu).2 n hn).1,((h.ok u hu).2 n hn).2.1⟩⟩⟩
set_option maxRecDepth 100000 in
theorem space_arg {b0:Nat} {r:Reach} {v:Value} {d:DataW H} {ps:List MemPlace}
  (hv:Value.okWide Tryz.prog w r b0 26 v) (h:DataW.Trod enc Tryz.prog w base spare held 26 v d ps):∃s:Pl.Sp,v= .agg s.cs∧OkP w s:=by
 obtain ⟨cs,rfl,hsz⟩:=okWide_struct Tryz.underlying26 hv;obtain ⟨fuel,hf⟩:=h;obtain ⟨s,hs,ok⟩:=space hf;refine ⟨s,?_,ok⟩;simp only [Value.cells] at hs;rw [show cs=s.cs from Array.ext' hs]
end
end OpenSp
end
end Go.Proofs.YtgdjjncmocppeaaGreatDoor
