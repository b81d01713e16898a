/- Several texts of one claim in one file: WSpO, AnOf. -/
import Derived.Test.YtggadpalljhiaaaGreatDoorG31
import Derived.Test.YtggadpalljhiaaaGreatDoorG37
import Derived.Test.YtggadpalljhiaaaGreatDoorG38
import Derived.Test.YtggadpalljhiaaaGreatDoorWLawEs
namespace Go.Proofs.YtggadpalljhiaaaGreatDoor
section
open Go.RowKit
namespace WSpO
def so (u:Pl.Sp) (d:Int) (p:ByteArray) (c:Int):Array Value:=#[.slice u.ia u.N.length u.ic, .slice u.ma u.M.length u.mc, .slice u.ha u.H.length u.hc, .int .i64 u.next, .int .i64 d, .string p, .int .i64 c]
structure An (W:World) (u:Pl.Sp) (S1 S2 S3 HH:Nat) (lo hi:Nat→Nat):Prop where
 iz:Mem.Iz W S1 (.slice u.ia u.N.length u.ic) u.N lo hi
 r1:∀g,(Value.slice u.ia u.N.length u.ic).ownBlock=some g→g<S2
 h1:∀j,j<u.N.length→hi j≤S2
 om:Mem.own3 51 Pl.Mn.cs W S2 (.slice u.ma u.M.length u.mc) u.M
 r2:∀g,(Value.slice u.ma u.M.length u.mc).ownBlock=some g→g<S3
 oh:Mem.own3 99 Pl.Hn.cs W S3 (.slice u.ha u.H.length u.hc) u.H
 r3:∀g,(Value.slice u.ha u.H.length u.hc).ownBlock=some g→g<HH
 s2:S1≤S2
 s3:S2≤S3
 s4:S3≤HH
 s5:HH≤W.heap.size
theorem An.of {w W:World} {s u:Pl.Sp} {S1 S2 S3:Nat} {lo hi:Nat→Nat} (h:SpO.Told w W s u S1 S2 S3 lo hi) (hs:S3≤W.heap.size):An W u S1 S2 S3 W.heap.size lo hi:=
 ⟨h.iz,h.r1,h.h1,h.om,h.r2,h.oh,fun g hg=>(Mem.za5 h.oh g hg).2,h.s2,h.s3,hs,Nat.le_refl _⟩
theorem An.nil (W:World) (B:Nat) (hB:B≤W.heap.size):An W ⟨none,0,[],none,0,[],none,0,[],0⟩ B B B B (fun _=>0) (fun _=>0):=
 ⟨Mem.Iz.nil _ _ _ _,fun g h=>(by cases h),fun j h=>absurd h (Nat.not_lt_zero _),Mem.zv0 _ _ _ _,fun g h=>(by cases h),Mem.zv0 _ _ _ _,fun g h=>(by cases h),Nat.le_refl _,Nat.le_refl _,Nat.le_refl _,hB⟩
theorem An.call {W W':World} {u:Pl.Sp} {S1 S2 S3 HH:Nat} {lo hi:Nat→Nat} (h:An W u S1 S2 S3 HH lo hi) (b:Below W.heap.size W W'):An W' u S1 S2 S3 HH lo hi:=
 ⟨h.iz.call b,h.r1,h.h1,Mem.zc0 h.om b,h.r2,Mem.zc0 h.oh b,h.r3,h.s2,h.s3,h.s4,Nat.le_trans h.s5 b.size⟩
theorem An.band {W W':World} {u:Pl.Sp} {S1 S2 S3 HH Y X:Nat} {lo hi:Nat→Nat} (h:An W u S1 S2 S3 HH lo hi) (b:Mem.Band Y X W W') (hX:X≤S1):An W' u S1 S2 S3 HH lo hi:=
 ⟨⟨Mem.zc9 h.iz.row (fun g hg=>b.block g (World.ownsRow.lt h.iz.row g hg).2 (.inr (by have :=(World.ownsRow.lt h.iz.row g hg).1;omega))),fun j x hx=>by
  obtain ⟨h1,h2,h3,h4,h5⟩:=h.iz.each j x hx
  exact ⟨h1.same (fun q q1 q2=>b.block q (by omega) (.inr (by omega))),h2,h3,Nat.le_trans h4 b.size,h5⟩,h.iz.rise⟩,h.r1,h.h1,
 Mem.zc9 h.om (fun g hg=>b.block g (Mem.za5 h.om g hg).2 (.inr (by have :=(Mem.za5 h.om g hg).1;have :=h.s2;omega))),h.r2,
 Mem.zc9 h.oh (fun g hg=>b.block g (Mem.za5 h.oh g hg).2 (.inr (by have :=(Mem.za5 h.oh g hg).1;have :=h.s2;have :=h.s3;omega))),h.r3,h.s2,h.s3,h.s4,Nat.le_trans h.s5 b.size⟩
theorem An.space {W:World} {u:Pl.Sp} {S1 S2 S3 HH:Nat} {lo hi:Nat→Nat} (h:An W u S1 S2 S3 HH lo hi):Mem.zc3 W u:=by
 obtain ⟨a,c,e,h1, -⟩:=Mem.zf7 Pl.Mn.three h.om;obtain ⟨a',c',e',h1', -⟩:=Mem.zf7 Pl.Hn.three h.oh;cases e
 cases e'
 exact ⟨h.iz.zf9.2,Mem.zj3 h1,Mem.zf5 h1'⟩
structure Mk8 (W:World) (u:Pl.Sp):Prop where
 i:Mem.ze4 W u.ia (Pl.mkZ 1 u.N u.N.length)
 m:Mem.zb2 W u.ma (Pl.zo4 (Pl.kZ 1 u.N u.N.length) u.M.length)
 h:Mem.zb9 W u.ha (Pl.mkHns (Pl.kZ 1 u.N u.N.length+3*u.M.length) u.H.length)
theorem Mk8.call {W W':World} {u:Pl.Sp} (h:Mk8 W u) (b:Below W.heap.size W W'):Mk8 W' u:=⟨Mem.zf1 h.i b,Mem.zc7 h.m b,Mem.zc6 h.h b⟩
set_option linter.unusedSimpArgs false in
set_option maxRecDepth 100000 in
set_option maxHeartbeats 1000000 in
theorem eq_any (s u:Pl.Sp) (d:Int) (p:ByteArray) (c:Int) (w:World) (hs:zb.OkS s 1048576) (hn:u.N.map Pl.Ns.r=s.N.map Pl.Ns.r) (hm:u.M=s.M) (hh:u.H=s.H) (hx:u.next=s.next) (hv:Mem.zc3 w s) (hu:Mem.zc3 w u):
  Calls Tryz.prog 8 #[.agg (so s d p c), .agg (so u d p c)] w fun e w'=>e= .returned (.bool true)∧Below w.heap.size w w':=by
 have HE:=hide (fun W (b:Below w.heap.size w W)=>zb.zy6 s u W hs hn hm hh hx (hv.call b) (hu.call b));clear hs hn hm hh hx hv hu;unfold so;unfold Pl.Sp.cs at HE;have b0:Below w.heap.size w ((w.alloc (.cells #[.slice s.ia s.N.length s.ic, .slice s.ma s.M.length s.mc, .slice s.ha s.H.length s.hc, .int .i64 s.next, .int .i64 d, .string p, .int .i64 c] 30)).alloc (.cells #[.slice u.ia u.N.length u.ic, .slice u.ma u.M.length u.mc, .slice u.ha u.H.length u.hc, .int .i64 u.next, .int .i64 d, .string p, .int .i64 c] 30)):=((Below.refl _ _).alloc (Nat.le_refl _) _).alloc (by simp) _
 have V0:=hide ((Mem.Blk.new w #[.slice s.ia s.N.length s.ic, .slice s.ma s.M.length s.mc, .slice s.ha s.H.length s.hc, .int .i64 s.next, .int .i64 d, .string p, .int .i64 c] 30).alloc (.cells #[.slice u.ia u.N.length u.ic, .slice u.ma u.M.length u.mc, .slice u.ha u.H.length u.hc, .int .i64 u.next, .int .i64 d, .string p, .int .i64 c] 30))
 have X0:Hid (Mem.Blk ((w.alloc (.cells #[.slice s.ia s.N.length s.ic, .slice s.ma s.M.length s.mc, .slice s.ha s.H.length s.hc, .int .i64 s.next, .int .i64 d, .string p, .int .i64 c] 30)).alloc (.cells #[.slice u.ia u.N.length u.ic, .slice u.ma u.M.length u.mc, .slice u.ha u.H.length u.hc, .int .i64 u.next, .int .i64 d, .string p, .int .i64 c] 30)) (w.heap.size+1) #[.slice u.ia u.N.length u.ic, .slice u.ma u.M.length u.mc, .slice u.ha u.H.length u.hc, .int .i64 u.next, .int .i64 d, .string p, .int .i64 c] 30):=hide (Mem.zl8 _ _ _);have a0:=(za V0).cell 0;have a1:=(za V0).cell 1;have a2:=(za V0).cell 2;have a3:=(za V0).cell 3;have x0:=(za X0).cell 0;have x1:=(za X0).cell 1;have x2:=(za X0).cell 2;have x3:=(za X0).cell 3;simp only [kGs] at a0 a1 a2 a3 x0 x1 x2 x3;go_enter Tryz.func8,Tryz.ntmps8
 go_wp2_with fail
 generalize ((w.alloc (.cells #[.slice s.ia s.N.length s.ic, .slice s.ma s.M.length s.mc, .slice s.ha s.H.length s.hc, .int .i64 s.next, .int .i64 d, .string p, .int .i64 c] 30)).alloc (.cells #[.slice u.ia u.N.length u.ic, .slice u.ma u.M.length u.mc, .slice u.ha u.H.length u.hc, .int .i64 u.next, .int .i64 d, .string p, .int .i64 c] 30))=wA at b0 V0 X0 a0 a1 a2 a3 x0 x1 x2 x3 ⊢;refine (za HE _ b0).mono ?_;rintro e w1 ⟨rfl,bX⟩;have b1:=b0.trans (bX.mono b0.size);have V1:=hide ((za V0).call bX);have X1:=hide ((za X0).call bX);clear HE bX V0 X0 b0 a0 a1 a2 a3 x0 x1 x2 x3;have a4:=(za V1).cell 4;have a5:=(za V1).cell 5;have a6:=(za V1).cell 6;have x4:=(za X1).cell 4;have x5:=(za X1).cell 5;have x6:=(za X1).cell 6;simp only [kGs] at a4 a5 a6 x4 x5 x6;go_wp2
 go_ret
 exact ⟨rfl,b1⟩
theorem Mz_up {W W':World} {S S2 cap K j:Nat} {a:Option Addr} {N:List Pl.Ns} {lo hi:Nat→Nat} {r:Option Nat} (h:WMkY.Mz W S a cap K N lo hi j) (gr:W.grownBy W' r) (hr:∀g,r=some g→S2≤g) (hv:∀g,(Value.slice a N.length cap).ownBlock=some g→g<S2) (hh:∀i,i<N.length→hi i≤S2):WMkY.Mz W' S a cap K N lo hi j:=
 ⟨Mem.zc9 h.row (fun g hg=>gr.block g (World.ownsRow.lt h.row g hg).2 (fun e=>by have :=hr g e.symm;have :=hv g hg;omega)),fun i x hx=>by
  obtain ⟨h1,h2,h3,g,h4,h5⟩:=h.each i x hx;have :=hh i (List.getElem?_eq_some_iff.1 hx).1
  exact ⟨h1,Nat.le_trans h2 gr.size,h3,g,h4,h5.same gr.size (fun b q1 q2 q3=>gr.block b q3 (fun e=>by have :=hr b e.symm;omega))⟩,h.rise⟩
set_option maxRecDepth 100000 in
theorem noneZ (K:Nat) (a:Option Addr) (cap:Nat) (w:World):Calls Tryz.prog 47 #[.slice a 0 cap, .int .i64 (K:Int)] w fun e w'=>e= .returned (.int .i64 (K:Int))∧Below w.heap.size w w':=by
 go_enter Tryz.func47,Tryz.ntmps47
 go_wp2
 refine wp_loop_rounds 1 ?_;rw [rounds_succ];go_wp2
 go_ret
 exact ⟨rfl,Below.refl _ _⟩
set_option maxRecDepth 100000 in
theorem noneM (K:Nat) (a:Option Addr) (cap:Nat) (w:World):Calls Tryz.prog 48 #[.slice a 0 cap, .int .i64 (K:Int)] w fun e w'=>e= .returned (.int .i64 (K:Int))∧Below w.heap.size w w':=by
 go_enter Tryz.func48,Tryz.ntmps48
 go_wp2
 refine wp_loop_rounds 1 ?_;rw [rounds_succ];go_wp2
 go_ret
 exact ⟨rfl,Below.refl _ _⟩
set_option maxRecDepth 100000 in
theorem noneH (K:Nat) (a:Option Addr) (cap:Nat) (w:World):Calls Tryz.prog 49 #[.slice a 0 cap, .int .i64 (K:Int)] w fun e w'=>e= .returned (.int .i64 (K:Int))∧Below w.heap.size w w':=by
 go_enter Tryz.func49,Tryz.ntmps49
 go_wp2
 refine wp_loop_rounds 1 ?_;rw [rounds_succ];go_wp2
 go_ret
 exact ⟨rfl,Below.refl _ _⟩
structure Sm (u:Pl.Sp):Prop where
 n:u.N.length≤12
 m:u.M.length≤6
 h:u.H.length≤6
 i:∀x∈u.N,x.Is.length≤12∧x.Is.length≠0∧∀t∈x.Is,t.t.L.length≤40
theorem marksZ (u:Pl.Sp) (S1 S2 S3 HH:Nat) (lo hi:Nat→Nat) (w:World) (hs:Sm u) (h:An w u S1 S2 S3 HH lo hi):
  Calls Tryz.prog 47 #[.slice u.ia u.N.length u.ic, .int .i64 1] w fun e w'=>e= .returned (.int .i64 (Pl.kZ 1 u.N u.N.length:Int))∧WMkY.Mz w' S1 u.ia u.ic 1 u.N lo hi u.N.length∧Mem.Band S1 S2 w w':=by
 have hst:=WMkY.Mz.start 1 h.iz (fun x hx=>(hs.i x hx).2.1)
 rcases h.iz.row.2 with ⟨e,h0⟩|⟨g,c,cur,e,_⟩
 ·injection e with e1 e2 e3
  have e0:u.N=[]:=List.eq_nil_of_length_eq_zero h0;rw [e0] at hst ⊢;rw [e1,e3] at hst ⊢;exact (noneZ 1 none 0 w).mono fun _ _ ⟨he,b⟩=>⟨he,hst.call b,Mem.Band.of_below b⟩
 ·injection e with e1 e2 e3
  rw [e1] at hst ⊢;exact WMkY.zk2 S1 g u.ic u.N lo hi S2 w hs.n (fun x hx=>⟨(hs.i x hx).1,(hs.i x hx).2.2⟩) hst (h.r1 g (by rw [e1];rfl)) h.h1
theorem marksM (M:List Pl.Mn) (a:Option Addr) (cap S2 K:Nat) (w:World) (hK:0<K) (hK2:K≤100000) (hM:M.length≤6) (h:Mem.own3 51 Pl.Mn.cs w S2 (.slice a M.length cap) M):
  Calls Tryz.prog 48 #[.slice a M.length cap, .int .i64 (K:Int)] w fun e w'=>e= .returned (.int .i64 ((K+3*M.length:Nat):Int))∧Mem.zb2 w' a (Pl.zo4 K M.length)∧w.grownBy w' (Value.slice a M.length cap).ownBlock:=by
 rcases h.2 with ⟨e,h0⟩|⟨g,c,cur,e,hb,hg,hc,hm,hsz,ht⟩
 ·injection e with e1 e2 e3
  have e0:M=[]:=List.eq_nil_of_length_eq_zero h0;subst e0 e1 e3;exact (noneM K none 0 w).mono fun _ _ ⟨he,b⟩=>⟨he,Mem.zv5 _ _,Mem.zb8 b _⟩
 ·injection e with e1 e2 e3
  subst e1 e3;exact (WMkM.zd8 g M.length cap K cur w (by omega) hK (by omega) hg (by omega)).mono fun _ _ ⟨he,_,hi,gr⟩=>⟨he,hi,gr⟩
theorem marksH (M:List Pl.Hn) (a:Option Addr) (cap S2 K:Nat) (w:World) (hK:0<K) (hK2:K≤100000) (hM:M.length≤6) (h:Mem.own3 99 Pl.Hn.cs w S2 (.slice a M.length cap) M):
  Calls Tryz.prog 49 #[.slice a M.length cap, .int .i64 (K:Int)] w fun e w'=>e= .returned (.int .i64 ((K+3*M.length:Nat):Int))∧Mem.zb9 w' a (Pl.mkHns K M.length)∧w.grownBy w' (Value.slice a M.length cap).ownBlock:=by
 rcases h.2 with ⟨e,h0⟩|⟨g,c,cur,e,hb,hg,hc,hm,hsz,ht⟩
 ·injection e with e1 e2 e3
  have e0:M=[]:=List.eq_nil_of_length_eq_zero h0;subst e0 e1 e3;exact (noneH K none 0 w).mono fun _ _ ⟨he,b⟩=>⟨he,Mem.zx9 _ _,Mem.zb8 b _⟩
 ·injection e with e1 e2 e3
  subst e1 e3;exact (WMkH.zd8 g M.length cap K cur w (by omega) hK (by omega) hg (by omega)).mono fun _ _ ⟨he,_,hi,gr⟩=>⟨he,hi,gr⟩
end WSpO
end
section
open Go.RowKit
namespace WSpI
theorem an_mono {W:World} {S S':Nat} {v:Value} {Ns:List Pl.Ns} {lo hi:Nat→Nat} (h:Mem.Iz W S v Ns lo hi) (hs:S'≤S):Mem.Iz W S' v Ns lo hi:=
 ⟨⟨h.row.1,h.row.2.imp id (fun ⟨g,c,cur,e,hb,r⟩=>⟨g,c,cur,e,Nat.le_trans hs hb,r⟩)⟩,fun j x hx=>⟨(h.each j x hx).1,Nat.le_trans hs (h.each j x hx).2.1,(h.each j x hx).2.2⟩,h.rise⟩
theorem _root_.Go.Proofs.YtggadpalljhiaaaGreatDoor.WSpO.An.ofT {w W:World} {s u:Pl.Sp} {S1 S2 S3:Nat} {lo hi:Nat→Nat} (h:SpO.Told w W s u S1 S2 S3 lo hi):WSpO.An W u (min S1 W.heap.size) (min S2 W.heap.size) (min S3 W.heap.size) W.heap.size lo hi:=
 ⟨an_mono h.iz (Nat.min_le_left _ _),fun g hg=>Nat.lt_min.2 ⟨h.r1 g hg,(World.ownsRow.lt h.iz.row g hg).2⟩,fun j hj=>Nat.le_min.2 ⟨h.h1 j hj,(h.iz.each j _ (List.getElem?_eq_getElem hj)).2.2.2.1⟩,Mem.zg5 h.om (Nat.min_le_left _ _),fun g hg=>Nat.lt_min.2 ⟨h.r2 g hg,(Mem.za5 h.om g hg).2⟩,Mem.zg5 h.oh (Nat.min_le_left _ _),fun g hg=>(Mem.za5 h.oh g hg).2,by have :=h.s2;omega,by have :=h.s3;omega,Nat.min_le_right _ _,Nat.le_refl _⟩
theorem _root_.Go.Proofs.YtggadpalljhiaaaGreatDoor.WSpO.An.far {W:World} {u:Pl.Sp} {S1 S2 S3 HH Y:Nat} {lo hi:Nat→Nat} (h:WSpO.An W u S1 S2 S3 HH lo hi) (k:Nat) (v:Value) (hY:Y<S1):WSpO.An (W.setCell ⟨Y,k,none⟩ v) u S1 S2 S3 HH lo hi:=
 ⟨h.iz.far k v hY,h.r1,h.h1,Mem.za9 h.om _ _ (fun g hg=>by have :=(Mem.za5 h.om g hg).1;have :=h.s2;show Y≠g;omega),h.r2,Mem.za9 h.oh _ _ (fun g hg=>by have :=(Mem.za5 h.oh g hg).1;have :=h.s2;have :=h.s3;show Y≠g;omega),h.r3,h.s2,h.s3,h.s4,by rw [World.size_setCell];exact h.s5⟩
end WSpI
end
end Go.Proofs.YtggadpalljhiaaaGreatDoor
