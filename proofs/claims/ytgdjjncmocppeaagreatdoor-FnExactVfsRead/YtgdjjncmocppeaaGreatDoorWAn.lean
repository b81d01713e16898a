import Derived.Test.YtgdjjncmocppeaaGreatDoorG17
namespace Go.Proofs.YtgdjjncmocppeaaGreatDoor
open Go.RowKit
namespace WSpO
structure An (W:World) (u:Pl.Sp) (S1 S2 S3 HH:Nat) (lo hi:Nat→Nat):Prop where
 iz:Mem.Iz W S1 (.slice u.ia u.N.length u.ic) u.N lo hi
 r1:∀g,(Value.slice u.ia u.N.length u.ic).ownBlock=some g→g<S2
 h1:∀j,j<u.N.length→hi j≤S2
 om:Mem.own3 51 Pl.Mn.cs W S2 (.slice u.ma u.M.length u.mc) u.M
 r2:∀g,(Value.slice u.ma u.M.length u.mc).ownBlock=some g→g<S3
 oh:Mem.own3 87 Pl.Hn.cs W S3 (.slice u.ha u.H.length u.hc) u.H
 r3:∀g,(Value.slice u.ha u.H.length u.hc).ownBlock=some g→g<HH
 s2:S1≤S2
 s3:S2≤S3
 s4:S3≤HH
 s5:HH≤W.heap.size
theorem An.nil (W:World) (B:Nat) (hB:B≤W.heap.size):An W ⟨none,0,[],none,0,[],none,0,[],0⟩ B B B B (fun _=>0) (fun _=>0):=
 ⟨Mem.Iz.nil _ _ _ _,fun g h=>(by cases h),fun j h=>absurd h (Nat.not_lt_zero _),Mem.zy2 _ _ _ _,fun g h=>(by cases h),Mem.zy2 _ _ _ _,fun g h=>(by cases h),Nat.le_refl _,Nat.le_refl _,Nat.le_refl _,hB⟩
theorem An.call {W W':World} {u:Pl.Sp} {S1 S2 S3 HH:Nat} {lo hi:Nat→Nat} (h:An W u S1 S2 S3 HH lo hi) (b:Below W.heap.size W W'):An W' u S1 S2 S3 HH lo hi:=
 ⟨h.iz.call b,h.r1,h.h1,Mem.zk4 h.om b,h.r2,Mem.zk4 h.oh b,h.r3,h.s2,h.s3,h.s4,Nat.le_trans h.s5 b.size⟩
theorem An.band {W W':World} {u:Pl.Sp} {S1 S2 S3 HH Y X:Nat} {lo hi:Nat→Nat} (h:An W u S1 S2 S3 HH lo hi) (b:Mem.Band Y X W W') (hX:X≤S1):An W' u S1 S2 S3 HH lo hi:=
 ⟨⟨Mem.zi1 h.iz.row (fun g hg=>b.block g (World.ownsRow.lt h.iz.row g hg).2 (.inr (by have :=(World.ownsRow.lt h.iz.row g hg).1;omega))),fun j x hx=>by
  obtain ⟨h1,h2,h3,h4,h5⟩:=h.iz.each j x hx
  exact ⟨h1.same (fun q q1 q2=>b.block q (by omega) (.inr (by omega))),h2,h3,Nat.le_trans h4 b.size,h5⟩,h.iz.rise⟩,h.r1,h.h1,
 Mem.zi1 h.om (fun g hg=>b.block g (Mem.zd4 h.om g hg).2 (.inr (by have :=(Mem.zd4 h.om g hg).1;have :=h.s2;omega))),h.r2,
 Mem.zi1 h.oh (fun g hg=>b.block g (Mem.zd4 h.oh g hg).2 (.inr (by have :=(Mem.zd4 h.oh g hg).1;have :=h.s2;have :=h.s3;omega))),h.r3,h.s2,h.s3,h.s4,Nat.le_trans h.s5 b.size⟩
theorem An.space {W:World} {u:Pl.Sp} {S1 S2 S3 HH:Nat} {lo hi:Nat→Nat} (h:An W u S1 S2 S3 HH lo hi):Mem.zc2 W u:=by
 obtain ⟨a,c,e,h1, -⟩:=Mem.own3_is Pl.Mn.three h.om;obtain ⟨a',c',e',h1', -⟩:=Mem.own3_is Pl.Hn.three h.oh;cases e
 cases e'
 exact ⟨h.iz.zj0.2,Mem.ya4 h1,Mem.yb8 h1'⟩
structure Mk8 (W:World) (u:Pl.Sp):Prop where
 i:Mem.zf8 W u.ia (Pl.mkZ 1 u.N u.N.length)
 m:Mem.zb8 W u.ma (Pl.zr0 (Pl.kZ 1 u.N u.N.length) u.M.length)
 h:Mem.zd3 W u.ha (Pl.mkHns (Pl.kZ 1 u.N u.N.length+3*u.M.length) u.H.length)
theorem Mk8.call {W W':World} {u:Pl.Sp} (h:Mk8 W u) (b:Below W.heap.size W W'):Mk8 W' u:=⟨Mem.zf1 h.i b,Mem.zd8 h.m b,Mem.zf3 h.h b⟩
theorem Mz_up {W W':World} {S S2 cap K j:Nat} {a:Option Addr} {N:List Pl.Ns} {lo hi:Nat→Nat} {r:Option Nat} (h:WMkY.Mz W S a cap K N lo hi j) (gr:W.grownBy W' r) (hr:∀g,r=some g→S2≤g) (hv:∀g,(Value.slice a N.length cap).ownBlock=some g→g<S2) (hh:∀i,i<N.length→hi i≤S2):WMkY.Mz W' S a cap K N lo hi j:=
 ⟨Mem.zi1 h.row (fun g hg=>gr.block g (World.ownsRow.lt h.row g hg).2 (fun e=>by have :=hr g e.symm;have :=hv g hg;omega)),fun i x hx=>by
  obtain ⟨h1,h2,h3,g,h4,h5⟩:=h.each i x hx;have :=hh i (List.getElem?_eq_some_iff.1 hx).1
  exact ⟨h1,Nat.le_trans h2 gr.size,h3,g,h4,h5.same gr.size (fun b q1 q2 q3=>gr.block b q3 (fun e=>by have :=hr b e.symm;omega))⟩,h.rise⟩
set_option maxRecDepth 100000 in
theorem noneZ (K:Nat) (a:Option Addr) (cap:Nat) (w:World):Calls Tryz.prog 35 #[.slice a 0 cap, .int .i64 (K:Int)] w fun e w'=>e= .returned (.int .i64 (K:Int))∧Below w.heap.size w w':=by
 go_enter Tryz.func35,Tryz.ntmps35
 go_wp2
 refine wp_loop_rounds 1 ?_;rw [rounds_succ];go_wp2
 go_ret
 exact ⟨rfl,Below.refl _ _⟩
set_option maxRecDepth 100000 in
theorem noneM (K:Nat) (a:Option Addr) (cap:Nat) (w:World):Calls Tryz.prog 36 #[.slice a 0 cap, .int .i64 (K:Int)] w fun e w'=>e= .returned (.int .i64 (K:Int))∧Below w.heap.size w w':=by
 go_enter Tryz.func36,Tryz.ntmps36
 go_wp2
 refine wp_loop_rounds 1 ?_;rw [rounds_succ];go_wp2
 go_ret
 exact ⟨rfl,Below.refl _ _⟩
set_option maxRecDepth 100000 in
theorem noneH (K:Nat) (a:Option Addr) (cap:Nat) (w:World):Calls Tryz.prog 37 #[.slice a 0 cap, .int .i64 (K:Int)] w fun e w'=>e= .returned (.int .i64 (K:Int))∧Below w.heap.size w w':=by
 go_enter Tryz.func37,Tryz.ntmps37
 go_wp2
 refine wp_loop_rounds 1 ?_;rw [rounds_succ];go_wp2
 go_ret
 exact ⟨rfl,Below.refl _ _⟩
structure Sm (u:Pl.Sp):Prop where
 n:u.N.length≤12
 m:u.M.length≤6
 h:u.H.length≤6
 i:∀x∈u.N,x.Is.length≤12∧x.Is.length≠0∧∀t∈x.Is,t.t.L.length≤40
theorem marksZ (u:Pl.Sp) (S1 S2 S3 HH:Nat) (lo hi:Nat→Nat) (w:World) (hs:Sm u) (h:An w u S1 S2 S3 HH lo hi):
  Calls Tryz.prog 35 #[.slice u.ia u.N.length u.ic, .int .i64 1] w fun e w'=>e= .returned (.int .i64 (Pl.kZ 1 u.N u.N.length:Int))∧WMkY.Mz w' S1 u.ia u.ic 1 u.N lo hi u.N.length∧Mem.Band S1 S2 w w':=by
 have hst:=WMkY.Mz.start 1 h.iz (fun x hx=>(hs.i x hx).2.1)
 rcases h.iz.row.2 with ⟨e,h0⟩|⟨g,c,cur,e,_⟩
 ·injection e with e1 e2 e3
  have e0:u.N=[]:=List.eq_nil_of_length_eq_zero h0;rw [e0] at hst ⊢;rw [e1,e3] at hst ⊢;exact (noneZ 1 none 0 w).mono fun _ _ ⟨he,b⟩=>⟨he,hst.call b,Mem.Band.of_below b⟩
 ·injection e with e1 e2 e3
  rw [e1] at hst ⊢;exact WMkY.zm0 S1 g u.ic u.N lo hi S2 w hs.n (fun x hx=>⟨(hs.i x hx).1,(hs.i x hx).2.2⟩) hst (h.r1 g (by rw [e1];rfl)) h.h1
theorem marksM (M:List Pl.Mn) (a:Option Addr) (cap S2 K:Nat) (w:World) (hK:0<K) (hK2:K≤100000) (hM:M.length≤6) (h:Mem.own3 51 Pl.Mn.cs w S2 (.slice a M.length cap) M):
  Calls Tryz.prog 36 #[.slice a M.length cap, .int .i64 (K:Int)] w fun e w'=>e= .returned (.int .i64 ((K+3*M.length:Nat):Int))∧Mem.zb8 w' a (Pl.zr0 K M.length)∧w.grownBy w' (Value.slice a M.length cap).ownBlock:=by
 rcases h.2 with ⟨e,h0⟩|⟨g,c,cur,e,hb,hg,hc,hm,hsz,ht⟩
 ·injection e with e1 e2 e3
  have e0:M=[]:=List.eq_nil_of_length_eq_zero h0;subst e0 e1 e3;exact (noneM K none 0 w).mono fun _ _ ⟨he,b⟩=>⟨he,Mem.ye9 _ _,Mem.zc1 b _⟩
 ·injection e with e1 e2 e3
  subst e1 e3;exact (WMkM.ze0 g M.length cap K cur w (by omega) hK (by omega) hg (by omega)).mono fun _ _ ⟨he,_,hi,gr⟩=>⟨he,hi,gr⟩
theorem marksH (M:List Pl.Hn) (a:Option Addr) (cap S2 K:Nat) (w:World) (hK:0<K) (hK2:K≤100000) (hM:M.length≤6) (h:Mem.own3 87 Pl.Hn.cs w S2 (.slice a M.length cap) M):
  Calls Tryz.prog 37 #[.slice a M.length cap, .int .i64 (K:Int)] w fun e w'=>e= .returned (.int .i64 ((K+3*M.length:Nat):Int))∧Mem.zd3 w' a (Pl.mkHns K M.length)∧w.grownBy w' (Value.slice a M.length cap).ownBlock:=by
 rcases h.2 with ⟨e,h0⟩|⟨g,c,cur,e,hb,hg,hc,hm,hsz,ht⟩
 ·injection e with e1 e2 e3
  have e0:M=[]:=List.eq_nil_of_length_eq_zero h0;subst e0 e1 e3;exact (noneH K none 0 w).mono fun _ _ ⟨he,b⟩=>⟨he,Mem.hands_nil _ _,Mem.zc1 b _⟩
 ·injection e with e1 e2 e3
  subst e1 e3;exact (WMkH.ze0 g M.length cap K cur w (by omega) hK (by omega) hg (by omega)).mono fun _ _ ⟨he,_,hi,gr⟩=>⟨he,hi,gr⟩
end WSpO
end Go.Proofs.YtgdjjncmocppeaaGreatDoor
