/- Several texts of one claim in one file: WMkH, WSpO, WSpI13. -/
import Derived.Test.YtonffldjbmednaaGreatDoorG03
import Derived.Test.YtonffldjbmednaaGreatDoorG26
import Derived.Test.YtonffldjbmednaaGreatDoorG28
import Derived.Test.YtonffldjbmednaaGreatDoorG24
import Derived.Test.YtonffldjbmednaaGreatDoorG14
import Derived.Test.YtonffldjbmednaaGreatDoorMemRes
import Derived.Test.YtonffldjbmednaaGreatDoorG23
import Derived.Shelf.SlIterI.Nil
import Derived.Shelf.SortM.Plain
import Derived.Shelf.SortM.SortNone
import Derived.Deep.Upon
namespace Go.Proofs.YtonffldjbmednaaGreatDoor
section
open Go.RowKit
namespace Pl
def mkHn (K j:Nat):Pl.Hn:=⟨((K+3*j:Nat):Int),((K+3*j+1:Nat):Int),mark (K+3*j+2)⟩
def mkHns (K n:Nat):List Pl.Hn:=(List.range n).map (mkHn K)
theorem mkHns_len (K n:Nat):(mkHns K n).length=n:=by simp [mkHns]
theorem mkHns_get (K n j:Nat) (h:j<n):(mkHns K n)[j]? =some (mkHn K j):=by
 unfold mkHns;rw [List.getElem?_map,List.getElem?_range h];rfl
end Pl
namespace WMkH
def rowAt (cv:Array Value) (K j:Nat):Prop:=cv[j*3]? =some (.int .i64 ((K+3*j:Nat):Int))∧cv[j*3+1]? =some (.int .i64 ((K+3*j+1:Nat):Int))∧cv[j*3+2]? =some (.string (Pl.mark (K+3*j+2)))
theorem row_is {w:World} {g K n:Nat} {cv:Array Value} (h:w.heap[g]? =some (.cells cv 87 (0,0))) (hA:∀j,j<n→rowAt cv K j):Mem.zb9 w (some ⟨g,0,none⟩) (Pl.mkHns K n):=fun i x hi=>by
 have hl:=(List.getElem?_eq_some_iff.1 hi).1;rw [Pl.mkHns_len] at hl;rw [Pl.mkHns_get K n i hl] at hi;cases hi
 obtain ⟨h0,h1,h2⟩:=hA i hl;refine ⟨g,0,rfl,(Array.getElem?_eq_some_iff.1 h).1,?_,?_,?_⟩
 ·rw [cell_of_row w _ _ _ _ (0,0) h,Nat.zero_add];exact h0
 ·rw [cell_of_row w _ _ _ _ (0,0) h,Nat.zero_add];exact h1
 ·rw [cell_of_row w _ _ _ _ (0,0) h,Nat.zero_add];exact h2

set_option linter.unusedSimpArgs false in
set_option maxRecDepth 100000 in
set_option maxHeartbeats 1000000 in
theorem zd8 (g n cap K:Nat) (cur:Array Value) (w:World) (hn:n≤1048576) (hK:0<K) (hK2:K≤8500000000000000000) (hrow:w.heap[g]? =some (.cells cur 87 (0,0))) (hsz:n*3≤cur.size):
  Calls Tryz.prog 40 #[.slice (some ⟨g,0,none⟩) n cap, .int .i64 (K:Int)] w fun e w'=>e= .returned (.int .i64 ((K+3*n:Nat):Int))∧
   (∃cur',w'.heap[g]? =some (.cells cur' 87 (0,0))∧cur'.size=cur.size)∧Mem.zb9 w' (some ⟨g,0,none⟩) (Pl.mkHns K n)∧w.grownBy w' (some g):=by
 have HR0:=hide hrow;have HS0:=hide hsz;clear hrow hsz;go_enter Tryz.func40,Tryz.ntmps40
 go_wp2
 go_loopw [1,5] (fun a i wr=>∃ (k q:Nat) (cv:Array Value),k≤n∧q=K+3*k∧i= .int .i64 (k:Int)∧a= .int .i64 (q:Int)∧Hid (wr.heap[g]? =some (.cells cv 87 (0,0)))∧Hid (cv.size=cur.size)∧Hid (w.grownBy wr (some g))∧
   Hid (∀j,j<k→rowAt cv K j)) (fun _ i _=>n - (intOf i).toNat)
 case atStart=>exact ⟨0,K,cur,Nat.zero_le _,rfl,rfl,rfl,HR0,rfl,⟨rfl,rfl,rfl,Nat.le_refl _,fun _ _ _=>rfl⟩,fun j h=>absurd h (by omega)⟩
 case round=>
  obtain ⟨k,q,cv,hk,hq,rfl,rfl,HR,HS,HG,HA⟩:=hrel;by_cases hlt:k<n
  ·have y1:(k:Int)<(n:Int):=by omega
   have y3:(0:Int)≤(k:Int):=by omega
   have HM:=hide (fun W=>zm4.zd8 (q+2) W (by omega) (by omega));rw [show ((q+2:Nat):Int)=(q:Int)+1+1 by omega] at HM;have HQ:=hide hq;have q1:(q:Int)≤9000000000000000000:=by omega
   clear hq;have hcz:n*3≤cv.size:=by rw [za HS];exact za HS0
   have HCZ:=hide hcz;clear hcz;have hg:g<wr.heap.size:=(Array.getElem?_eq_some_iff.1 (za HR)).1;have hcz:=za HCZ;have s0:∃x,wr.cell? ⟨g,k*3,none⟩=some x:=⟨_,(cell_of_row wr _ (k*3) _ _ (0,0) (za HR)).trans (Array.getElem?_eq_getElem (by omega))⟩;have s1:∃x,wr.cell? ⟨g,k*3+1,none⟩=some x:=⟨_,(cell_of_row wr _ (k*3+1) _ _ (0,0) (za HR)).trans (Array.getElem?_eq_getElem (by omega))⟩;obtain ⟨x0,s0⟩:=s0;obtain ⟨x1,s1⟩:=s1;have f0:∀j,wr.frozen? ⟨g,j,none⟩=false:=fun j=>Mem.zb1 (za HR);clear hcz hg;go_wp2_with fail
   have HR1:=hide (heap_setCell_same _ _ (k*3+1) _ _ (.int .i64 ((q:Int)+1)) (heap_setCell_same _ _ (k*3) _ _ (.int .i64 (q:Int)) (za HR)));have HG1:=hide (zh6.zc4 (o:=k*3+1) (x:= .int .i64 ((q:Int)+1)) (zh6.zc4 (o:=k*3) (x:= .int .i64 (q:Int)) (za HG)));refine (za HM _).mono ?_;rintro e w2 ⟨rfl,b2⟩;have HR2:=hide ((b2.block _ (Array.getElem?_eq_some_iff.1 (za HR1)).1).trans (za HR1));have HG2:=hide (zh6.zp9 (za HG1) b2);have hcz:=za HCZ;have s2:∃x,w2.cell? ⟨g,k*3+2,none⟩=some x:=⟨_,(cell_of_row w2 _ (k*3+2) _ _ (0,0) (za HR2)).trans (Array.getElem?_eq_getElem (by simp;omega))⟩;obtain ⟨x2,s2⟩:=s2;have f2:∀j,w2.frozen? ⟨g,j,none⟩=false:=fun j=>Mem.zb1 (za HR2);clear b2 HR HG HR1 HG1 hcz HM s0 s1 f0;go_wp2
   go_roundw
   case rel=>
    refine ⟨k+1,q+3,_,by omega,by have :=za HQ;omega,by go_num,by go_num,hide (heap_setCell_same _ _ (k*3+2) _ _ _ (za HR2)),?_,hide (zh6.zc4 (za HG2)),?_⟩
    ·exact hide (by simpa using za HS)
    ·intro j hj;have hcz:=za HCZ
     rcases Nat.lt_succ_iff_lt_or_eq.1 hj with h''|rfl
     ·obtain ⟨i0,i1,i2⟩:=HA.out j h'';simp only [rowAt,Array.getElem?_setIfInBounds];refine ⟨?_,?_,?_⟩ <;> (repeat (rw [if_neg (by omega)])) <;> assumption
     ·have hq:=za HQ;simp only [rowAt,Array.getElem?_setIfInBounds,Array.size_setIfInBounds,←hq];refine ⟨?_,?_,?_⟩ <;> simp <;> omega
   case measure=>simp [intOf];omega
  ·obtain rfl:k=n:=by omega
   have y1:¬ (k:Int)<(k:Int):=by omega
   have hq2:(q:Int)=((K+3*k:Nat):Int):=by omega
   have HQ:=hide hq2;have HI:=hide (row_is (za HR) (za HA));clear hq hq2;go_wp2
   go_ret
   exact ⟨(by rw [za HQ];first |done|rfl),⟨cv,za HR,za HS⟩,za HI,za HG⟩
end WMkH
end
section
open Go.RowKit
namespace WSpO
def so (u:Pl.Sp) (d:Int) (p:ByteArray) (c:Int):Array Value:=#[.slice u.ia u.N.length u.ic, .slice u.ma u.M.length u.mc, .slice u.ha u.H.length u.hc, .int .i64 u.next, .int .i64 d, .string p, .int .i64 c]
structure An (W:World) (u:Pl.Sp) (S1 S2 S3 HH:Nat) (lo hi:Nat→Nat):Prop where
 iz:Mem.Iz W S1 (.slice u.ia u.N.length u.ic) u.N lo hi
 r1:∀g,(Value.slice u.ia u.N.length u.ic).ownBlock=some g→g<S2
 h1:∀j,j<u.N.length→hi j≤S2
 om:Mem.own3 50 Pl.Mn.cs W S2 (.slice u.ma u.M.length u.mc) u.M
 r2:∀g,(Value.slice u.ma u.M.length u.mc).ownBlock=some g→g<S3
 oh:Mem.own3 87 Pl.Hn.cs W S3 (.slice u.ha u.H.length u.hc) u.H
 r3:∀g,(Value.slice u.ha u.H.length u.hc).ownBlock=some g→g<HH
 s2:S1≤S2
 s3:S2≤S3
 s4:S3≤HH
 s5:HH≤W.heap.size
theorem An.of {w W:World} {s u:Pl.Sp} {S1 S2 S3:Nat} {lo hi:Nat→Nat} (h:SpO.Told w W s u S1 S2 S3 lo hi) (hs:S3≤W.heap.size):An W u S1 S2 S3 W.heap.size lo hi:=
 ⟨h.iz,h.r1,h.h1,h.om,h.r2,h.oh,fun g hg=>(Mem.za5 h.oh g hg).2,h.s2,h.s3,hs,Nat.le_refl _⟩
theorem An.nil (W:World) (B:Nat) (hB:B≤W.heap.size):An W ⟨none,0,[],none,0,[],none,0,[],0⟩ B B B B (fun _=>0) (fun _=>0):=
 ⟨Mem.Iz.nil _ _ _ _,fun g h=>(by cases h),fun j h=>absurd h (Nat.not_lt_zero _),Mem.zv0 _ _ _ _,fun g h=>(by cases h),Mem.zv0 _ _ _ _,fun g h=>(by cases h),Nat.le_refl _,Nat.le_refl _,Nat.le_refl _,hB⟩
theorem An.call {W W':World} {u:Pl.Sp} {S1 S2 S3 HH:Nat} {lo hi:Nat→Nat} (h:An W u S1 S2 S3 HH lo hi) (b:Below W.heap.size W W'):An W' u S1 S2 S3 HH lo hi:=
 ⟨h.iz.call b,h.r1,h.h1,Mem.zc0 h.om b,h.r2,Mem.zc0 h.oh b,h.r3,h.s2,h.s3,h.s4,Nat.le_trans h.s5 b.size⟩
theorem An.band {W W':World} {u:Pl.Sp} {S1 S2 S3 HH Y X:Nat} {lo hi:Nat→Nat} (h:An W u S1 S2 S3 HH lo hi) (b:Mem.Band Y X W W') (hX:X≤S1):An W' u S1 S2 S3 HH lo hi:=
 ⟨⟨Mem.zc9 h.iz.row (fun g hg=>b.block g (World.ownsRow.lt h.iz.row g hg).2 (.inr (by have :=(World.ownsRow.lt h.iz.row g hg).1;omega))),fun j x hx=>by
  obtain ⟨h1,h2,h3,h4,h5⟩:=h.iz.each j x hx
  exact ⟨h1.same (fun q q1 q2=>b.block q (by omega) (.inr (by omega))),h2,h3,Nat.le_trans h4 b.size,h5⟩,h.iz.rise⟩,h.r1,h.h1,
 Mem.zc9 h.om (fun g hg=>b.block g (Mem.za5 h.om g hg).2 (.inr (by have :=(Mem.za5 h.om g hg).1;have :=h.s2;omega))),h.r2,
 Mem.zc9 h.oh (fun g hg=>b.block g (Mem.za5 h.oh g hg).2 (.inr (by have :=(Mem.za5 h.oh g hg).1;have :=h.s2;have :=h.s3;omega))),h.r3,h.s2,h.s3,h.s4,Nat.le_trans h.s5 b.size⟩
theorem An.space {W:World} {u:Pl.Sp} {S1 S2 S3 HH:Nat} {lo hi:Nat→Nat} (h:An W u S1 S2 S3 HH lo hi):Mem.zc3 W u:=by
 obtain ⟨a,c,e,h1, -⟩:=Mem.zf7 Pl.Mn.three h.om;obtain ⟨a',c',e',h1', -⟩:=Mem.zf7 Pl.Hn.three h.oh;cases e
 cases e'
 exact ⟨h.iz.zf9.2,Mem.zj3 h1,Mem.zf5 h1'⟩
structure Mk8 (W:World) (u:Pl.Sp):Prop where
 i:Mem.ze4 W u.ia (Pl.mkZ 1 u.N u.N.length)
 m:Mem.zb2 W u.ma (Pl.zo4 (Pl.kZ 1 u.N u.N.length) u.M.length)
 h:Mem.zb9 W u.ha (Pl.mkHns (Pl.kZ 1 u.N u.N.length+3*u.M.length) u.H.length)
theorem Mk8.call {W W':World} {u:Pl.Sp} (h:Mk8 W u) (b:Below W.heap.size W W'):Mk8 W' u:=⟨Mem.zf1 h.i b,Mem.zc7 h.m b,Mem.zc6 h.h b⟩
set_option linter.unusedSimpArgs false in
set_option maxRecDepth 100000 in
set_option maxHeartbeats 1000000 in
theorem eq_any (s u:Pl.Sp) (d:Int) (p:ByteArray) (c:Int) (w:World) (hs:zb.OkS s 1048576) (hn:u.N.map Pl.Ns.r=s.N.map Pl.Ns.r) (hm:u.M=s.M) (hh:u.H=s.H) (hx:u.next=s.next) (hv:Mem.zc3 w s) (hu:Mem.zc3 w u):
  Calls Tryz.prog 11 #[.agg (so s d p c), .agg (so u d p c)] w fun e w'=>e= .returned (.bool true)∧Below w.heap.size w w':=by
 have HE:=hide (fun W (b:Below w.heap.size w W)=>zb.zy6 s u W hs hn hm hh hx (hv.call b) (hu.call b));clear hs hn hm hh hx hv hu;unfold so;unfold Pl.Sp.cs at HE;have b0:Below w.heap.size w ((w.alloc (.cells #[.slice s.ia s.N.length s.ic, .slice s.ma s.M.length s.mc, .slice s.ha s.H.length s.hc, .int .i64 s.next, .int .i64 d, .string p, .int .i64 c] 34)).alloc (.cells #[.slice u.ia u.N.length u.ic, .slice u.ma u.M.length u.mc, .slice u.ha u.H.length u.hc, .int .i64 u.next, .int .i64 d, .string p, .int .i64 c] 34)):=((Below.refl _ _).alloc (Nat.le_refl _) _).alloc (by simp) _
 have V0:=hide ((Mem.Blk.new w #[.slice s.ia s.N.length s.ic, .slice s.ma s.M.length s.mc, .slice s.ha s.H.length s.hc, .int .i64 s.next, .int .i64 d, .string p, .int .i64 c] 34).alloc (.cells #[.slice u.ia u.N.length u.ic, .slice u.ma u.M.length u.mc, .slice u.ha u.H.length u.hc, .int .i64 u.next, .int .i64 d, .string p, .int .i64 c] 34))
 have X0:Hid (Mem.Blk ((w.alloc (.cells #[.slice s.ia s.N.length s.ic, .slice s.ma s.M.length s.mc, .slice s.ha s.H.length s.hc, .int .i64 s.next, .int .i64 d, .string p, .int .i64 c] 34)).alloc (.cells #[.slice u.ia u.N.length u.ic, .slice u.ma u.M.length u.mc, .slice u.ha u.H.length u.hc, .int .i64 u.next, .int .i64 d, .string p, .int .i64 c] 34)) (w.heap.size+1) #[.slice u.ia u.N.length u.ic, .slice u.ma u.M.length u.mc, .slice u.ha u.H.length u.hc, .int .i64 u.next, .int .i64 d, .string p, .int .i64 c] 34):=hide (Mem.zl8 _ _ _);have a0:=(za V0).cell 0;have a1:=(za V0).cell 1;have a2:=(za V0).cell 2;have a3:=(za V0).cell 3;have x0:=(za X0).cell 0;have x1:=(za X0).cell 1;have x2:=(za X0).cell 2;have x3:=(za X0).cell 3;simp only [kGs] at a0 a1 a2 a3 x0 x1 x2 x3;go_enter Tryz.func11,Tryz.ntmps11
 go_wp2_with fail
 generalize ((w.alloc (.cells #[.slice s.ia s.N.length s.ic, .slice s.ma s.M.length s.mc, .slice s.ha s.H.length s.hc, .int .i64 s.next, .int .i64 d, .string p, .int .i64 c] 34)).alloc (.cells #[.slice u.ia u.N.length u.ic, .slice u.ma u.M.length u.mc, .slice u.ha u.H.length u.hc, .int .i64 u.next, .int .i64 d, .string p, .int .i64 c] 34))=wA at b0 V0 X0 a0 a1 a2 a3 x0 x1 x2 x3 ⊢;refine (za HE _ b0).mono ?_;rintro e w1 ⟨rfl,bX⟩;have b1:=b0.trans (bX.mono b0.size);have V1:=hide ((za V0).call bX);have X1:=hide ((za X0).call bX);clear HE bX V0 X0 b0 a0 a1 a2 a3 x0 x1 x2 x3;have a4:=(za V1).cell 4;have a5:=(za V1).cell 5;have a6:=(za V1).cell 6;have x4:=(za X1).cell 4;have x5:=(za X1).cell 5;have x6:=(za X1).cell 6;simp only [kGs] at a4 a5 a6 x4 x5 x6;go_wp2
 go_ret
 exact ⟨rfl,b1⟩
theorem Mz_up {W W':World} {S S2 cap K j:Nat} {a:Option Addr} {N:List Pl.Ns} {lo hi:Nat→Nat} {r:Option Nat} (h:WMkY.Mz W S a cap K N lo hi j) (gr:W.grownBy W' r) (hr:∀g,r=some g→S2≤g) (hv:∀g,(Value.slice a N.length cap).ownBlock=some g→g<S2) (hh:∀i,i<N.length→hi i≤S2):WMkY.Mz W' S a cap K N lo hi j:=
 ⟨Mem.zc9 h.row (fun g hg=>gr.block g (World.ownsRow.lt h.row g hg).2 (fun e=>by have :=hr g e.symm;have :=hv g hg;omega)),fun i x hx=>by
  obtain ⟨h1,h2,h3,g,h4,h5⟩:=h.each i x hx;have :=hh i (List.getElem?_eq_some_iff.1 hx).1
  exact ⟨h1,Nat.le_trans h2 gr.size,h3,g,h4,h5.same gr.size (fun b q1 q2 q3=>gr.block b q3 (fun e=>by have :=hr b e.symm;omega))⟩,h.rise⟩
set_option maxRecDepth 100000 in
theorem noneZ (K:Nat) (a:Option Addr) (cap:Nat) (w:World):Calls Tryz.prog 38 #[.slice a 0 cap, .int .i64 (K:Int)] w fun e w'=>e= .returned (.int .i64 (K:Int))∧Below w.heap.size w w':=by
 go_enter Tryz.func38,Tryz.ntmps38
 go_wp2
 refine wp_loop_rounds 1 ?_;rw [rounds_succ];go_wp2
 go_ret
 exact ⟨rfl,Below.refl _ _⟩
set_option maxRecDepth 100000 in
theorem noneM (K:Nat) (a:Option Addr) (cap:Nat) (w:World):Calls Tryz.prog 39 #[.slice a 0 cap, .int .i64 (K:Int)] w fun e w'=>e= .returned (.int .i64 (K:Int))∧Below w.heap.size w w':=by
 go_enter Tryz.func39,Tryz.ntmps39
 go_wp2
 refine wp_loop_rounds 1 ?_;rw [rounds_succ];go_wp2
 go_ret
 exact ⟨rfl,Below.refl _ _⟩
set_option maxRecDepth 100000 in
theorem noneH (K:Nat) (a:Option Addr) (cap:Nat) (w:World):Calls Tryz.prog 40 #[.slice a 0 cap, .int .i64 (K:Int)] w fun e w'=>e= .returned (.int .i64 (K:Int))∧Below w.heap.size w w':=by
 go_enter Tryz.func40,Tryz.ntmps40
 go_wp2
 refine wp_loop_rounds 1 ?_;rw [rounds_succ];go_wp2
 go_ret
 exact ⟨rfl,Below.refl _ _⟩
structure Sm (u:Pl.Sp):Prop where
 n:u.N.length≤12
 m:u.M.length≤6
 h:u.H.length≤6
 i:∀x∈u.N,x.Is.length≤12∧x.Is.length≠0∧∀t∈x.Is,t.t.L.length≤40
theorem marksZ (u:Pl.Sp) (S1 S2 S3 HH:Nat) (lo hi:Nat→Nat) (w:World) (hs:Sm u) (h:An w u S1 S2 S3 HH lo hi):
  Calls Tryz.prog 38 #[.slice u.ia u.N.length u.ic, .int .i64 1] w fun e w'=>e= .returned (.int .i64 (Pl.kZ 1 u.N u.N.length:Int))∧WMkY.Mz w' S1 u.ia u.ic 1 u.N lo hi u.N.length∧Mem.Band S1 S2 w w':=by
 have hst:=WMkY.Mz.start 1 h.iz (fun x hx=>(hs.i x hx).2.1)
 rcases h.iz.row.2 with ⟨e,h0⟩|⟨g,c,cur,e,_⟩
 ·injection e with e1 e2 e3
  have e0:u.N=[]:=List.eq_nil_of_length_eq_zero h0;rw [e0] at hst ⊢;rw [e1,e3] at hst ⊢;exact (noneZ 1 none 0 w).mono fun _ _ ⟨he,b⟩=>⟨he,hst.call b,Mem.Band.of_below b⟩
 ·injection e with e1 e2 e3
  rw [e1] at hst ⊢;exact WMkY.zk2 S1 g u.ic u.N lo hi S2 w hs.n (fun x hx=>⟨(hs.i x hx).1,(hs.i x hx).2.2⟩) hst (h.r1 g (by rw [e1];rfl)) h.h1
theorem marksM (M:List Pl.Mn) (a:Option Addr) (cap S2 K:Nat) (w:World) (hK:0<K) (hK2:K≤100000) (hM:M.length≤6) (h:Mem.own3 50 Pl.Mn.cs w S2 (.slice a M.length cap) M):
  Calls Tryz.prog 39 #[.slice a M.length cap, .int .i64 (K:Int)] w fun e w'=>e= .returned (.int .i64 ((K+3*M.length:Nat):Int))∧Mem.zb2 w' a (Pl.zo4 K M.length)∧w.grownBy w' (Value.slice a M.length cap).ownBlock:=by
 rcases h.2 with ⟨e,h0⟩|⟨g,c,cur,e,hb,hg,hc,hm,hsz,ht⟩
 ·injection e with e1 e2 e3
  have e0:M=[]:=List.eq_nil_of_length_eq_zero h0;subst e0 e1 e3;exact (noneM K none 0 w).mono fun _ _ ⟨he,b⟩=>⟨he,Mem.zv5 _ _,Mem.zb8 b _⟩
 ·injection e with e1 e2 e3
  subst e1 e3;exact (WMkM.zd8 g M.length cap K cur w (by omega) hK (by omega) hg (by omega)).mono fun _ _ ⟨he,_,hi,gr⟩=>⟨he,hi,gr⟩
theorem marksH (M:List Pl.Hn) (a:Option Addr) (cap S2 K:Nat) (w:World) (hK:0<K) (hK2:K≤100000) (hM:M.length≤6) (h:Mem.own3 87 Pl.Hn.cs w S2 (.slice a M.length cap) M):
  Calls Tryz.prog 40 #[.slice a M.length cap, .int .i64 (K:Int)] w fun e w'=>e= .returned (.int .i64 ((K+3*M.length:Nat):Int))∧Mem.zb9 w' a (Pl.mkHns K M.length)∧w.grownBy w' (Value.slice a M.length cap).ownBlock:=by
 rcases h.2 with ⟨e,h0⟩|⟨g,c,cur,e,hb,hg,hc,hm,hsz,ht⟩
 ·injection e with e1 e2 e3
  have e0:M=[]:=List.eq_nil_of_length_eq_zero h0;subst e0 e1 e3;exact (noneH K none 0 w).mono fun _ _ ⟨he,b⟩=>⟨he,Mem.zx9 _ _,Mem.zb8 b _⟩
 ·injection e with e1 e2 e3
  subst e1 e3;exact (WMkH.zd8 g M.length cap K cur w (by omega) hK (by omega) hg (by omega)).mono fun _ _ ⟨he,_,hi,gr⟩=>⟨he,hi,gr⟩
end WSpO
end
section
set_option linter.unusedSimpArgs false
open Go.RowKit Go.Maps
namespace WSpI
def codes:List Int:=[0,2,1,7,6,12,11,13,9]
theorem zq0 {w w':World} (hV:∀ (r:Nat) t,codes[r]? =some t→w.cell? ⟨0,r,none⟩=some (.int .i64 t)) (b:Below w.heap.size w w'):∀ (r:Nat) t,codes[r]? =some t→w'.cell? ⟨0,r,none⟩=some (.int .i64 t):=fun r t h=>(b.cell (p:=⟨0,r,none⟩) (World.block_lt_of_cell? w _ (hV r t h))).trans (hV r t h)
theorem an_mono {W:World} {S S':Nat} {v:Value} {Ns:List Pl.Ns} {lo hi:Nat→Nat} (h:Mem.Iz W S v Ns lo hi) (hs:S'≤S):Mem.Iz W S' v Ns lo hi:=
 ⟨⟨h.row.1,h.row.2.imp id (fun ⟨g,c,cur,e,hb,r⟩=>⟨g,c,cur,e,Nat.le_trans hs hb,r⟩)⟩,fun j x hx=>⟨(h.each j x hx).1,Nat.le_trans hs (h.each j x hx).2.1,(h.each j x hx).2.2⟩,h.rise⟩
theorem _root_.Go.Proofs.YtonffldjbmednaaGreatDoor.WSpO.An.ofT {w W:World} {s u:Pl.Sp} {S1 S2 S3:Nat} {lo hi:Nat→Nat} (h:SpO.Told w W s u S1 S2 S3 lo hi):WSpO.An W u (min S1 W.heap.size) (min S2 W.heap.size) (min S3 W.heap.size) W.heap.size lo hi:=
 ⟨an_mono h.iz (Nat.min_le_left _ _),fun g hg=>Nat.lt_min.2 ⟨h.r1 g hg,(World.ownsRow.lt h.iz.row g hg).2⟩,fun j hj=>Nat.le_min.2 ⟨h.h1 j hj,(h.iz.each j _ (List.getElem?_eq_getElem hj)).2.2.2.1⟩,Mem.zg5 h.om (Nat.min_le_left _ _),fun g hg=>Nat.lt_min.2 ⟨h.r2 g hg,(Mem.za5 h.om g hg).2⟩,Mem.zg5 h.oh (Nat.min_le_left _ _),fun g hg=>(Mem.za5 h.oh g hg).2,by have :=h.s2;omega,by have :=h.s3;omega,Nat.min_le_right _ _,Nat.le_refl _⟩
theorem _root_.Go.Proofs.YtonffldjbmednaaGreatDoor.WSpO.An.far {W:World} {u:Pl.Sp} {S1 S2 S3 HH Y:Nat} {lo hi:Nat→Nat} (h:WSpO.An W u S1 S2 S3 HH lo hi) (k:Nat) (v:Value) (hY:Y<S1):WSpO.An (W.setCell ⟨Y,k,none⟩ v) u S1 S2 S3 HH lo hi:=
 ⟨h.iz.far k v hY,h.r1,h.h1,Mem.za9 h.om _ _ (fun g hg=>by have :=(Mem.za5 h.om g hg).1;have :=h.s2;show Y≠g;omega),h.r2,Mem.za9 h.oh _ _ (fun g hg=>by have :=(Mem.za5 h.oh g hg).1;have :=h.s2;have :=h.s3;show Y≠g;omega),h.r3,h.s2,h.s3,h.s4,by rw [World.size_setCell];exact h.s5⟩
set_option maxRecDepth 100000 in
set_option maxHeartbeats 1000000 in
theorem code_any (i:Nat) (c:Int) (w:World) (hi:codes[i]? =some c) (hV:∀ (r:Nat) t,codes[r]? =some t→w.cell? ⟨0,r,none⟩=some (.int .i64 t)):
  Calls Tryz.prog 66 #[.int .i64 (i:Int)] w fun e w'=>e= .returned (.int .i64 c)∧Below w.heap.size w w':=by
 have h:=hV i c hi;have h9:i<9:=(List.getElem?_eq_some_iff.1 hi).1;have k1:(0:Int)≤(i:Int):=by omega
 have k2:(i:Int)<9:=by omega
 clear hV hi;go_enter Tryz.func66,Tryz.ntmps66
 go_wp2
 go_ret
 exact ⟨rfl,Below.refl _ _⟩
set_option maxRecDepth 100000 in
set_option maxHeartbeats 1000000 in
theorem refused_any (i:Nat) (c:Int) (w:World) (hi:codes[i]? =some c) (hV:∀ (r:Nat) t,codes[r]? =some t→w.cell? ⟨0,r,none⟩=some (.int .i64 t)):
  Calls Tryz.prog 33 #[.int .i64 (i:Int)] w fun e w'=>e= .returned (.agg #[.slice none 0 0, .slice none 0 0, .slice none 0 0, .int .i64 0, .int .i64 0, .string ⟨#[]⟩, .int .i64 c])∧Below w.heap.size w w':=by
 have b0:=(Below.refl w.heap.size w).alloc (o:= .cells #[.slice none 0 0, .slice none 0 0, .slice none 0 0, .int .i64 0, .int .i64 0, .string ⟨#[]⟩, .int .i64 0] 34) (Nat.le_refl _);have V0:=hide (Mem.Blk.new w #[.slice none 0 0, .slice none 0 0, .slice none 0 0, .int .i64 0, .int .i64 0, .string ⟨#[]⟩, .int .i64 0] 34);have HC:=hide (fun W (b:Below w.heap.size w W)=>code_any i c W hi (zq0 hV b));clear hV hi;go_enter Tryz.func33,Tryz.ntmps33
 go_wp2_with fail
 refine (za HC _ b0).mono ?_;rintro e w1 ⟨rfl,bX⟩;have b1:=b0.trans (bX.mono b0.size);have V1:=hide ((za V0).call bX);clear b0 V0 bX HC;have d0:=(za V1).cell 0;have f0:=(za V1).fr 0;have d1:=(za V1).cell 1;have f1:=(za V1).fr 1;have d2:=(za V1).cell 2;have f2:=(za V1).fr 2;have d3:=(za V1).cell 3;have f3:=(za V1).fr 3;have d4:=(za V1).cell 4;have f4:=(za V1).fr 4;have d5:=(za V1).cell 5;have f5:=(za V1).fr 5;have d6:=(za V1).cell 6;have f6:=(za V1).fr 6;simp only [kGs] at d0 d1 d2 d3 d4 d5 d6;go_wp2
 refine bodyPost_ret (v:= .agg #[Value.slice none 0 0,Value.slice none 0 0,Value.slice none 0 0,Value.int .i64 0,Value.int .i64 0,Value.string ⟨#[]⟩,Value.int .i64 c]) (by simp [results,Tryz.results33,go_sem,d0,d1,d2,d3,d4,d5,d6]) rfl ⟨rfl,?_⟩
 exact (((((((b1).setCell (p:=⟨w.heap.size,0,none⟩) (by show w.heap.size≤w.heap.size;omega) (Value.slice none 0 0)).setCell (p:=⟨w.heap.size,1,none⟩) (by show w.heap.size≤w.heap.size;omega) (Value.slice none 0 0)).setCell (p:=⟨w.heap.size,2,none⟩) (by show w.heap.size≤w.heap.size;omega) (Value.slice none 0 0)).setCell (p:=⟨w.heap.size,3,none⟩) (by show w.heap.size≤w.heap.size;omega) (Value.int .i64 0)).setCell (p:=⟨w.heap.size,4,none⟩) (by show w.heap.size≤w.heap.size;omega) (Value.int .i64 0)).setCell (p:=⟨w.heap.size,5,none⟩) (by show w.heap.size≤w.heap.size;omega) (Value.string ⟨#[]⟩)).setCell (p:=⟨w.heap.size,6,none⟩) (by show w.heap.size≤w.heap.size;omega) (Value.int .i64 c)
end WSpI
end
end Go.Proofs.YtonffldjbmednaaGreatDoor
