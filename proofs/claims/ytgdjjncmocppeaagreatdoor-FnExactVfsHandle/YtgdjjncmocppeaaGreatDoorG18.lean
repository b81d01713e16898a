/- Several texts of one claim in one file: WMkH, WAn. -/
import Derived.Test.YtgdjjncmocppeaaGreatDoorG17
namespace Go.Proofs.YtgdjjncmocppeaaGreatDoor
section
open Go.RowKit
namespace Pl
def mkHn (K j:Nat):Pl.Hn:=⟨((K+3*j:Nat):Int),((K+3*j+1:Nat):Int),mark (K+3*j+2)⟩
def mkHns (K n:Nat):List Pl.Hn:=(List.range n).map (mkHn K)
theorem mkHns_len (K n:Nat):(mkHns K n).length=n:=by simp [mkHns]
theorem mkHns_get (K n j:Nat) (h:j<n):(mkHns K n)[j]? =some (mkHn K j):=by
 unfold mkHns;rw [List.getElem?_map,List.getElem?_range h];rfl
end Pl
namespace WMkH
def rowAt (cv:Array Value) (K j:Nat):Prop:=cv[j*3]? =some (.int .i64 ((K+3*j:Nat):Int))∧cv[j*3+1]? =some (.int .i64 ((K+3*j+1:Nat):Int))∧cv[j*3+2]? =some (.string (Pl.mark (K+3*j+2)))
theorem row_is {w:World} {g K n:Nat} {cv:Array Value} (h:w.heap[g]? =some (.cells cv 87 (0,0))) (hA:∀j,j<n→rowAt cv K j):Mem.zd3 w (some ⟨g,0,none⟩) (Pl.mkHns K n):=fun i x hi=>by
 have hl:=(List.getElem?_eq_some_iff.1 hi).1;rw [Pl.mkHns_len] at hl;rw [Pl.mkHns_get K n i hl] at hi;cases hi
 obtain ⟨h0,h1,h2⟩:=hA i hl;refine ⟨g,0,rfl,(Array.getElem?_eq_some_iff.1 h).1,?_,?_,?_⟩
 ·rw [cell_of_row w _ _ _ _ (0,0) h,Nat.zero_add];exact h0
 ·rw [cell_of_row w _ _ _ _ (0,0) h,Nat.zero_add];exact h1
 ·rw [cell_of_row w _ _ _ _ (0,0) h,Nat.zero_add];exact h2

set_option linter.unusedSimpArgs false in
set_option maxRecDepth 100000 in
set_option maxHeartbeats 1000000 in
theorem ze0 (g n cap K:Nat) (cur:Array Value) (w:World) (hn:n≤1048576) (hK:0<K) (hK2:K≤8500000000000000000) (hrow:w.heap[g]? =some (.cells cur 87 (0,0))) (hsz:n*3≤cur.size):
  Calls Tryz.prog 37 #[.slice (some ⟨g,0,none⟩) n cap, .int .i64 (K:Int)] w fun e w'=>e= .returned (.int .i64 ((K+3*n:Nat):Int))∧
   (∃cur',w'.heap[g]? =some (.cells cur' 87 (0,0))∧cur'.size=cur.size)∧Mem.zd3 w' (some ⟨g,0,none⟩) (Pl.mkHns K n)∧w.grownBy w' (some g):=by
 have HR0:=hide hrow;have HS0:=hide hsz;clear hrow hsz;go_enter Tryz.func37,Tryz.ntmps37
 go_wp2
 go_loopw [1,5] (fun a i wr=>∃ (k q:Nat) (cv:Array Value),k≤n∧q=K+3*k∧i= .int .i64 (k:Int)∧a= .int .i64 (q:Int)∧Hid (wr.heap[g]? =some (.cells cv 87 (0,0)))∧Hid (cv.size=cur.size)∧Hid (w.grownBy wr (some g))∧
   Hid (∀j,j<k→rowAt cv K j)) (fun _ i _=>n - (intOf i).toNat)
 case atStart=>exact ⟨0,K,cur,Nat.zero_le _,rfl,rfl,rfl,HR0,rfl,⟨rfl,rfl,rfl,Nat.le_refl _,fun _ _ _=>rfl⟩,fun j h=>absurd h (by omega)⟩
 case round=>
  obtain ⟨k,q,cv,hk,hq,rfl,rfl,HR,HS,HG,HA⟩:=hrel;by_cases hlt:k<n
  ·have y1:(k:Int)<(n:Int):=by omega
   have y3:(0:Int)≤(k:Int):=by omega
   have HM:=hide (fun W=>zp7.ze0 (q+2) W (by omega) (by omega));rw [show ((q+2:Nat):Int)=(q:Int)+1+1 by omega] at HM;have HQ:=hide hq;have q1:(q:Int)≤9000000000000000000:=by omega
   clear hq;have hcz:n*3≤cv.size:=by rw [za HS];exact za HS0
   have HCZ:=hide hcz;clear hcz;have hg:g<wr.heap.size:=(Array.getElem?_eq_some_iff.1 (za HR)).1;have hcz:=za HCZ;have s0:∃x,wr.cell? ⟨g,k*3,none⟩=some x:=⟨_,(cell_of_row wr _ (k*3) _ _ (0,0) (za HR)).trans (Array.getElem?_eq_getElem (by omega))⟩;have s1:∃x,wr.cell? ⟨g,k*3+1,none⟩=some x:=⟨_,(cell_of_row wr _ (k*3+1) _ _ (0,0) (za HR)).trans (Array.getElem?_eq_getElem (by omega))⟩;obtain ⟨x0,s0⟩:=s0;obtain ⟨x1,s1⟩:=s1;have f0:∀j,wr.frozen? ⟨g,j,none⟩=false:=fun j=>Mem.zb4 (za HR);clear hcz hg;go_wp2_with fail
   have HR1:=hide (heap_setCell_same _ _ (k*3+1) _ _ (.int .i64 ((q:Int)+1)) (heap_setCell_same _ _ (k*3) _ _ (.int .i64 (q:Int)) (za HR)));have HG1:=hide (zi6.za2 (o:=k*3+1) (x:= .int .i64 ((q:Int)+1)) (zi6.za2 (o:=k*3) (x:= .int .i64 (q:Int)) (za HG)));refine (za HM _).mono ?_;rintro e w2 ⟨rfl,b2⟩;have HR2:=hide ((b2.block _ (Array.getElem?_eq_some_iff.1 (za HR1)).1).trans (za HR1));have HG2:=hide (zi6.zt4 (za HG1) b2);have hcz:=za HCZ;have s2:∃x,w2.cell? ⟨g,k*3+2,none⟩=some x:=⟨_,(cell_of_row w2 _ (k*3+2) _ _ (0,0) (za HR2)).trans (Array.getElem?_eq_getElem (by simp;omega))⟩;obtain ⟨x2,s2⟩:=s2;have f2:∀j,w2.frozen? ⟨g,j,none⟩=false:=fun j=>Mem.zb4 (za HR2);clear b2 HR HG HR1 HG1 hcz HM s0 s1 f0;go_wp2
   go_roundw
   case rel=>
    refine ⟨k+1,q+3,_,by omega,by have :=za HQ;omega,by go_num,by go_num,hide (heap_setCell_same _ _ (k*3+2) _ _ _ (za HR2)),?_,hide (zi6.za2 (za HG2)),?_⟩
    ·exact hide (by simpa using za HS)
    ·intro j hj;have hcz:=za HCZ
     rcases Nat.lt_succ_iff_lt_or_eq.1 hj with h''|rfl
     ·obtain ⟨i0,i1,i2⟩:=HA.out j h'';simp only [rowAt,Array.getElem?_setIfInBounds];refine ⟨?_,?_,?_⟩ <;> (repeat (rw [if_neg (by omega)])) <;> assumption
     ·have hq:=za HQ;simp only [rowAt,Array.getElem?_setIfInBounds,Array.size_setIfInBounds,←hq];refine ⟨?_,?_,?_⟩ <;> simp <;> omega
   case measure=>simp [intOf];omega
  ·obtain rfl:k=n:=by omega
   have y1:¬ (k:Int)<(k:Int):=by omega
   have hq2:(q:Int)=((K+3*k:Nat):Int):=by omega
   have HQ:=hide hq2;have HI:=hide (row_is (za HR) (za HA));clear hq hq2;go_wp2
   go_ret
   exact ⟨(by rw [za HQ];first |done|rfl),⟨cv,za HR,za HS⟩,za HI,za HG⟩
end WMkH
end
section
open Go.RowKit
namespace WSpO
structure An (W:World) (u:Pl.Sp) (S1 S2 S3 HH:Nat) (lo hi:Nat→Nat):Prop where
 iz:Mem.Iz W S1 (.slice u.ia u.N.length u.ic) u.N lo hi
 r1:∀g,(Value.slice u.ia u.N.length u.ic).ownBlock=some g→g<S2
 h1:∀j,j<u.N.length→hi j≤S2
 om:Mem.own3 51 Pl.Mn.cs W S2 (.slice u.ma u.M.length u.mc) u.M
 r2:∀g,(Value.slice u.ma u.M.length u.mc).ownBlock=some g→g<S3
 oh:Mem.own3 87 Pl.Hn.cs W S3 (.slice u.ha u.H.length u.hc) u.H
 r3:∀g,(Value.slice u.ha u.H.length u.hc).ownBlock=some g→g<HH
 s2:S1≤S2
 s3:S2≤S3
 s4:S3≤HH
 s5:HH≤W.heap.size
theorem An.nil (W:World) (B:Nat) (hB:B≤W.heap.size):An W ⟨none,0,[],none,0,[],none,0,[],0⟩ B B B B (fun _=>0) (fun _=>0):=
 ⟨Mem.Iz.nil _ _ _ _,fun g h=>(by cases h),fun j h=>absurd h (Nat.not_lt_zero _),Mem.zy2 _ _ _ _,fun g h=>(by cases h),Mem.zy2 _ _ _ _,fun g h=>(by cases h),Nat.le_refl _,Nat.le_refl _,Nat.le_refl _,hB⟩
theorem An.call {W W':World} {u:Pl.Sp} {S1 S2 S3 HH:Nat} {lo hi:Nat→Nat} (h:An W u S1 S2 S3 HH lo hi) (b:Below W.heap.size W W'):An W' u S1 S2 S3 HH lo hi:=
 ⟨h.iz.call b,h.r1,h.h1,Mem.zk4 h.om b,h.r2,Mem.zk4 h.oh b,h.r3,h.s2,h.s3,h.s4,Nat.le_trans h.s5 b.size⟩
theorem An.band {W W':World} {u:Pl.Sp} {S1 S2 S3 HH Y X:Nat} {lo hi:Nat→Nat} (h:An W u S1 S2 S3 HH lo hi) (b:Mem.Band Y X W W') (hX:X≤S1):An W' u S1 S2 S3 HH lo hi:=
 ⟨⟨Mem.zi1 h.iz.row (fun g hg=>b.block g (World.ownsRow.lt h.iz.row g hg).2 (.inr (by have :=(World.ownsRow.lt h.iz.row g hg).1;omega))),fun j x hx=>by
  obtain ⟨h1,h2,h3,h4,h5⟩:=h.iz.each j x hx
  exact ⟨h1.same (fun q q1 q2=>b.block q (by omega) (.inr (by omega))),h2,h3,Nat.le_trans h4 b.size,h5⟩,h.iz.rise⟩,h.r1,h.h1,
 Mem.zi1 h.om (fun g hg=>b.block g (Mem.zd4 h.om g hg).2 (.inr (by have :=(Mem.zd4 h.om g hg).1;have :=h.s2;omega))),h.r2,
 Mem.zi1 h.oh (fun g hg=>b.block g (Mem.zd4 h.oh g hg).2 (.inr (by have :=(Mem.zd4 h.oh g hg).1;have :=h.s2;have :=h.s3;omega))),h.r3,h.s2,h.s3,h.s4,Nat.le_trans h.s5 b.size⟩
theorem An.space {W:World} {u:Pl.Sp} {S1 S2 S3 HH:Nat} {lo hi:Nat→Nat} (h:An W u S1 S2 S3 HH lo hi):Mem.zc2 W u:=by
 obtain ⟨a,c,e,h1, -⟩:=Mem.own3_is Pl.Mn.three h.om;obtain ⟨a',c',e',h1', -⟩:=Mem.own3_is Pl.Hn.three h.oh;cases e
 cases e'
 exact ⟨h.iz.zj0.2,Mem.ya4 h1,Mem.yb8 h1'⟩
structure Mk8 (W:World) (u:Pl.Sp):Prop where
 i:Mem.zf8 W u.ia (Pl.mkZ 1 u.N u.N.length)
 m:Mem.zb8 W u.ma (Pl.zr0 (Pl.kZ 1 u.N u.N.length) u.M.length)
 h:Mem.zd3 W u.ha (Pl.mkHns (Pl.kZ 1 u.N u.N.length+3*u.M.length) u.H.length)
theorem Mk8.call {W W':World} {u:Pl.Sp} (h:Mk8 W u) (b:Below W.heap.size W W'):Mk8 W' u:=⟨Mem.zf1 h.i b,Mem.zd8 h.m b,Mem.zf3 h.h b⟩
theorem Mz_up {W W':World} {S S2 cap K j:Nat} {a:Option Addr} {N:List Pl.Ns} {lo hi:Nat→Nat} {r:Option Nat} (h:WMkY.Mz W S a cap K N lo hi j) (gr:W.grownBy W' r) (hr:∀g,r=some g→S2≤g) (hv:∀g,(Value.slice a N.length cap).ownBlock=some g→g<S2) (hh:∀i,i<N.length→hi i≤S2):WMkY.Mz W' S a cap K N lo hi j:=
 ⟨Mem.zi1 h.row (fun g hg=>gr.block g (World.ownsRow.lt h.row g hg).2 (fun e=>by have :=hr g e.symm;have :=hv g hg;omega)),fun i x hx=>by
  obtain ⟨h1,h2,h3,g,h4,h5⟩:=h.each i x hx;have :=hh i (List.getElem?_eq_some_iff.1 hx).1
  exact ⟨h1,Nat.le_trans h2 gr.size,h3,g,h4,h5.same gr.size (fun b q1 q2 q3=>gr.block b q3 (fun e=>by have :=hr b e.symm;omega))⟩,h.rise⟩
set_option maxRecDepth 100000 in
theorem noneZ (K:Nat) (a:Option Addr) (cap:Nat) (w:World):Calls Tryz.prog 35 #[.slice a 0 cap, .int .i64 (K:Int)] w fun e w'=>e= .returned (.int .i64 (K:Int))∧Below w.heap.size w w':=by
 go_enter Tryz.func35,Tryz.ntmps35
 go_wp2
 refine wp_loop_rounds 1 ?_;rw [rounds_succ];go_wp2
 go_ret
 exact ⟨rfl,Below.refl _ _⟩
set_option maxRecDepth 100000 in
theorem noneM (K:Nat) (a:Option Addr) (cap:Nat) (w:World):Calls Tryz.prog 36 #[.slice a 0 cap, .int .i64 (K:Int)] w fun e w'=>e= .returned (.int .i64 (K:Int))∧Below w.heap.size w w':=by
 go_enter Tryz.func36,Tryz.ntmps36
 go_wp2
 refine wp_loop_rounds 1 ?_;rw [rounds_succ];go_wp2
 go_ret
 exact ⟨rfl,Below.refl _ _⟩
set_option maxRecDepth 100000 in
theorem noneH (K:Nat) (a:Option Addr) (cap:Nat) (w:World):Calls Tryz.prog 37 #[.slice a 0 cap, .int .i64 (K:Int)] w fun e w'=>e= .returned (.int .i64 (K:Int))∧Below w.heap.size w w':=by
 go_enter Tryz.func37,Tryz.ntmps37
 go_wp2
 refine wp_loop_rounds 1 ?_;rw [rounds_succ];go_wp2
 go_ret
 exact ⟨rfl,Below.refl _ _⟩
structure Sm (u:Pl.Sp):Prop where
 n:u.N.length≤12
 m:u.M.length≤6
 h:u.H.length≤6
 i:∀x∈u.N,x.Is.length≤12∧x.Is.length≠0∧∀t∈x.Is,t.t.L.length≤40
theorem marksZ (u:Pl.Sp) (S1 S2 S3 HH:Nat) (lo hi:Nat→Nat) (w:World) (hs:Sm u) (h:An w u S1 S2 S3 HH lo hi):
  Calls Tryz.prog 35 #[.slice u.ia u.N.length u.ic, .int .i64 1] w fun e w'=>e= .returned (.int .i64 (Pl.kZ 1 u.N u.N.length:Int))∧WMkY.Mz w' S1 u.ia u.ic 1 u.N lo hi u.N.length∧Mem.Band S1 S2 w w':=by
 have hst:=WMkY.Mz.start 1 h.iz (fun x hx=>(hs.i x hx).2.1)
 rcases h.iz.row.2 with ⟨e,h0⟩|⟨g,c,cur,e,_⟩
 ·injection e with e1 e2 e3
  have e0:u.N=[]:=List.eq_nil_of_length_eq_zero h0;rw [e0] at hst ⊢;rw [e1,e3] at hst ⊢;exact (noneZ 1 none 0 w).mono fun _ _ ⟨he,b⟩=>⟨he,hst.call b,Mem.Band.of_below b⟩
 ·injection e with e1 e2 e3
  rw [e1] at hst ⊢;exact WMkY.zm0 S1 g u.ic u.N lo hi S2 w hs.n (fun x hx=>⟨(hs.i x hx).1,(hs.i x hx).2.2⟩) hst (h.r1 g (by rw [e1];rfl)) h.h1
theorem marksM (M:List Pl.Mn) (a:Option Addr) (cap S2 K:Nat) (w:World) (hK:0<K) (hK2:K≤100000) (hM:M.length≤6) (h:Mem.own3 51 Pl.Mn.cs w S2 (.slice a M.length cap) M):
  Calls Tryz.prog 36 #[.slice a M.length cap, .int .i64 (K:Int)] w fun e w'=>e= .returned (.int .i64 ((K+3*M.length:Nat):Int))∧Mem.zb8 w' a (Pl.zr0 K M.length)∧w.grownBy w' (Value.slice a M.length cap).ownBlock:=by
 rcases h.2 with ⟨e,h0⟩|⟨g,c,cur,e,hb,hg,hc,hm,hsz,ht⟩
 ·injection e with e1 e2 e3
  have e0:M=[]:=List.eq_nil_of_length_eq_zero h0;subst e0 e1 e3;exact (noneM K none 0 w).mono fun _ _ ⟨he,b⟩=>⟨he,Mem.ye9 _ _,Mem.zc1 b _⟩
 ·injection e with e1 e2 e3
  subst e1 e3;exact (WMkM.ze0 g M.length cap K cur w (by omega) hK (by omega) hg (by omega)).mono fun _ _ ⟨he,_,hi,gr⟩=>⟨he,hi,gr⟩
theorem marksH (M:List Pl.Hn) (a:Option Addr) (cap S2 K:Nat) (w:World) (hK:0<K) (hK2:K≤100000) (hM:M.length≤6) (h:Mem.own3 87 Pl.Hn.cs w S2 (.slice a M.length cap) M):
  Calls Tryz.prog 37 #[.slice a M.length cap, .int .i64 (K:Int)] w fun e w'=>e= .returned (.int .i64 ((K+3*M.length:Nat):Int))∧Mem.zd3 w' a (Pl.mkHns K M.length)∧w.grownBy w' (Value.slice a M.length cap).ownBlock:=by
 rcases h.2 with ⟨e,h0⟩|⟨g,c,cur,e,hb,hg,hc,hm,hsz,ht⟩
 ·injection e with e1 e2 e3
  have e0:M=[]:=List.eq_nil_of_length_eq_zero h0;subst e0 e1 e3;exact (noneH K none 0 w).mono fun _ _ ⟨he,b⟩=>⟨he,Mem.hands_nil _ _,Mem.zc1 b _⟩
 ·injection e with e1 e2 e3
  subst e1 e3;exact (WMkH.ze0 g M.length cap K cur w (by omega) hK (by omega) hg (by omega)).mono fun _ _ ⟨he,_,hi,gr⟩=>⟨he,hi,gr⟩
end WSpO
end
end Go.Proofs.YtgdjjncmocppeaaGreatDoor
