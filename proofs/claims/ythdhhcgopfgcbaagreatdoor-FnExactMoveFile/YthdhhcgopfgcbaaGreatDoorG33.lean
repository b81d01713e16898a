/- Several texts of one claim in one file: WBegin7, WDir7, WPutG, WPutH, WAboveA, Merge. -/
import Derived.Test.YthdhhcgopfgcbaaGreatDoorG14
import Derived.Test.YthdhhcgopfgcbaaGreatDoorWSightS
namespace Go.Proofs.YthdhhcgopfgcbaaGreatDoor
section
open Go.RowKit
namespace zi6
set_option linter.unusedSimpArgs false in
set_option maxRecDepth 100000 in
set_option maxHeartbeats 2000000 in
theorem yh9 (a:Option Addr) (cap:Nat) (Is:List Pl.It) (n:Pl.Nd) (w:World) (hl:Is.length≤1048576) (hv:Mem.zb0 w a Is) (hok:∀x∈Is,x.t.L.length≤1048576∧∀n∈x.t.L,n.path.size≤1048576∧n.data.size≤1048576) (hR:∀x∈Is,Mem.okR x.t.a x.t.cap x.t.L) (hp:n.path.size≤1048576) (hd:n.data.size≤1048576):
  Calls Tryz.prog 15 #[.slice a Is.length cap, .string n.path, .agg #[.string n.path, .int .i64 n.kind, .string n.data, .int .i64 n.time, .int .i64 n.mark]] w fun e w'=>∃v,e= .returned (.tuple #[.agg #[v], .int .i64 (Pl.begC (Is.map Pl.It.r) n)])∧Mem.ownN w' w.heap.size v (Pl.begT (Is.map Pl.It.r) n)∧Below w.heap.size w w':=by
 generalize hBC:Pl.begC (Is.map Pl.It.r) n=C0;generalize hBT:Pl.begT (Is.map Pl.It.r) n=T0;have b0:Below w.heap.size w ((w.alloc (.cells #[.string n.path, .int .i64 n.kind, .string n.data, .int .i64 n.time, .int .i64 n.mark] 47)).alloc (.cells #[.slice none 0 0] 43)):=(bE0).alloc (by simp) _;have N0:Mem.Blk ((w.alloc (.cells #[.string n.path, .int .i64 n.kind, .string n.data, .int .i64 n.time, .int .i64 n.mark] 47)).alloc (.cells #[.slice none 0 0] 43)) w.heap.size #[.string n.path, .int .i64 n.kind, .string n.data, .int .i64 n.time, .int .i64 n.mark] 47:=(Mem.Blk.new _ _ _).alloc _
 have R0:Mem.Blk ((w.alloc (.cells #[.string n.path, .int .i64 n.kind, .string n.data, .int .i64 n.time, .int .i64 n.mark] 47)).alloc (.cells #[.slice none 0 0] 43)) (w.heap.size+1) #[.slice none 0 0] 43:=by
  have h:=Mem.Blk.new (w.alloc (.cells #[.string n.path, .int .i64 n.kind, .string n.data, .int .i64 n.time, .int .i64 n.mark] 47)) #[.slice none 0 0] 43
  simpa using h
 have hs0:((w.alloc (.cells #[.string n.path, .int .i64 n.kind, .string n.data, .int .i64 n.time, .int .i64 n.mark] 47)).alloc (.cells #[.slice none 0 0] 43)).heap.size=w.heap.size+1+1:=by simp
 have n2:=N0.cell 2;simp only [kGs] at n2;by_cases h400:400<Is.length
 ·have t0:(400:Int)<(Is.length:Int):=by omega
  obtain ⟨e1,e2⟩:=Pl.zw3 (XS:=Is.map Pl.It.r) (n:=n) (by rw [List.length_map];omega);rw [e1] at hBC;rw [e2] at hBT;subst hBC hBT;clear e1 e2 hv hok hR;go_enter Tryz.func15,Tryz.ntmps15
  have d0:=R0.cell 0;have f0:=R0.fr 0;simp only [kA0,kA1] at d0;go_wp2
  refine bodyPost_ret (v:= .tuple #[.agg #[.slice none 0 0], .int .i64 2]) (by simp [results,Tryz.results15,go_sem,d0]) rfl ⟨.slice none 0 0,rfl,Mem.zb5 _ _,?_⟩
  first |exact b0|exact b0.setCell (p:=⟨w.heap.size+1,0,none⟩) (Nat.le_succ _) _
 have t0:¬ (400:Int)<(Is.length:Int):=by omega
 by_cases hp8:8000<n.path.size
 ·have t1:(8000:Int)<(n.path.size:Int):=by omega
  obtain ⟨e1,e2⟩:=Pl.zw3 (XS:=Is.map Pl.It.r) (n:=n) (by rw [List.length_map];omega);rw [e1] at hBC;rw [e2] at hBT;subst hBC hBT;clear e1 e2 hv hok hR;go_enter Tryz.func15,Tryz.ntmps15
  have d0:=R0.cell 0;have f0:=R0.fr 0;simp only [kA0,kA1] at d0;go_wp2
  refine bodyPost_ret (v:= .tuple #[.agg #[.slice none 0 0], .int .i64 2]) (by simp [results,Tryz.results15,go_sem,d0]) rfl ⟨.slice none 0 0,rfl,Mem.zb5 _ _,?_⟩
  first |exact b0|exact b0.setCell (p:=⟨w.heap.size+1,0,none⟩) (Nat.le_succ _) _
 have t1:¬ (8000:Int)<(n.path.size:Int):=by omega
 by_cases hd8:8000<n.data.size
 ·have t2:(8000:Int)<(n.data.size:Int):=by omega
  obtain ⟨e1,e2⟩:=Pl.zw3 (XS:=Is.map Pl.It.r) (n:=n) (by rw [List.length_map];omega);rw [e1] at hBC;rw [e2] at hBT;subst hBC hBT;clear e1 e2 hv hok hR;go_enter Tryz.func15,Tryz.ntmps15
  have d0:=R0.cell 0;have f0:=R0.fr 0;simp only [kA0,kA1] at d0;go_wp2
  refine bodyPost_ret (v:= .tuple #[.agg #[.slice none 0 0], .int .i64 2]) (by simp [results,Tryz.results15,go_sem,d0]) rfl ⟨.slice none 0 0,rfl,Mem.zb5 _ _,?_⟩
  first |exact b0|exact b0.setCell (p:=⟨w.heap.size+1,0,none⟩) (Nat.le_succ _) _
 have t2:¬ (8000:Int)<(n.data.size:Int):=by omega
 have hnl:¬ (400<(Is.map Pl.It.r).length∨8000<n.path.size∨8000<n.data.size):=by rw [List.length_map];omega
 have HNR:=hide (fun W (bb:Below w.heap.size w W)=>zv1.zl6 a cap Is W hl (Mem.zb2 hv bb) hok);have HND:=hide (fun W=>WNode.zp9 n W hp hd);have HSI:=hide (fun W (bb:Below w.heap.size w W)=>zw.specSight_any a cap Is W hl (Mem.zb2 hv bb) hok hR);simp only [Pl.Nd.val] at HND;have HNL:=hide hnl;have HBC:=hide (And.intro hBC hBT);clear hBC hBT;clear hv hok hR hp8 hd8 h400 hnl;go_enter Tryz.func15,Tryz.ntmps15
 go_wp2_with fail
 refine (za HNR _ b0).mono ?_;rintro e w1 ⟨rfl,b1⟩;have bw1:=b0.trans (b1.mono b0.size);have N1:=N0.call b1;have R1:=R0.call b1;clear HNR n2;cases hN:(Pl.nest (Pl.rowO (Is.map Pl.It.r))).isSome
 ·obtain ⟨e1,e2⟩:=Pl.yb6 (XS:=Is.map Pl.It.r) (n:=n) (za HNL) (by rw [hN];simp);obtain ⟨hBC,hBT⟩:=za HBC;rw [e1] at hBC;rw [e2] at hBT;subst hBC hBT;clear e1 e2 HSI HND HNL;have d0:=R1.cell 0;have f0:=R1.fr 0;simp only [kA0,kA1] at d0;go_wp2
  refine bodyPost_ret (v:= .tuple #[.agg #[.slice none 0 0], .int .i64 1]) (by simp [results,Tryz.results15,go_sem,d0]) rfl ⟨.slice none 0 0,rfl,Mem.zb5 _ _,?_⟩
  first |exact bw1|exact bw1.setCell (p:=⟨w.heap.size+1,0,none⟩) (Nat.le_succ _) _
 obtain ⟨n0,n1,n2,n3,n4⟩:=jc5 N1;go_wp2_with fail
 refine (za HND _).mono ?_;rintro e w2 ⟨rfl,b2⟩;have bw2:=bw1.trans (b2.mono bw1.size);have R2:=R1.call b2;clear HND n0 n1 n2 n3 n4 N1 N0;cases hB:Pl.za7 n
 ·obtain ⟨e1,e2⟩:=Pl.yb6 (XS:=Is.map Pl.It.r) (n:=n) (za HNL) (by rw [hB];simp);obtain ⟨hBC,hBT⟩:=za HBC;rw [e1] at hBC;rw [e2] at hBT;subst hBC hBT;clear e1 e2 HSI HNL;have d0:=R2.cell 0;have f0:=R2.fr 0;simp only [kA0,kA1] at d0;go_wp2
  refine bodyPost_ret (v:= .tuple #[.agg #[.slice none 0 0], .int .i64 1]) (by simp [results,Tryz.results15,go_sem,d0]) rfl ⟨.slice none 0 0,rfl,Mem.zb5 _ _,?_⟩
  first |exact bw2|exact bw2.setCell (p:=⟨w.heap.size+1,0,none⟩) (Nat.le_succ _) _
 obtain ⟨e1,e2⟩:=Pl.beg_go (XS:=Is.map Pl.It.r) (n:=n) (za HNL) ⟨hN,hB⟩;obtain ⟨hBC,hBT⟩:=za HBC;rw [e1] at hBC;rw [e2] at hBT;rw [hBC,hBT] at HSI;clear e1 e2 HNL hBC hBT HBC;go_wp2_with fail
 refine (za HSI _ bw2).mono ?_;rintro e w3 ⟨v,rfl,own,b3⟩;obtain ⟨va,vc,rfl⟩:=Mem.za4 own;have bw3:=bw2.trans (b3.mono bw2.size);have R3:=R2.call b3;have X4:=Mem.Blk.new w3 #[.slice va T0.length vc, .int .i64 C0] 64;have R4:=R3.alloc (.cells #[.slice va T0.length vc, .int .i64 C0] 64);have bw4:=bw3.alloc (o:= .cells #[.slice va T0.length vc, .int .i64 C0] 64) bw3.size;have own4:=Mem.zg7 own ((Below.refl w3.heap.size w3).alloc (o:= .cells #[.slice va T0.length vc, .int .i64 C0] 64) (Nat.le_refl _));have hs2:w.heap.size+2≤w2.heap.size:=R2.lt;have d0:=R4.cell 0;have f0:=R4.fr 0;obtain ⟨x0,x1⟩:=jc2 X4;simp only [kGs] at d0;go_wp2_with fail
 have hX3:w.heap.size+1<w3.heap.size:=R3.lt;generalize hw4:w3.alloc (.cells #[.slice va T0.length vc, .int .i64 C0] 64)=w4 at X4 R4 bw4 own4 d0 f0 x0 x1 ⊢;generalize w3.heap.size=Y3 at X4 hX3 x0 x1 ⊢;have bd:Below w4.heap.size w4 w4.drew:=⟨rfl,rfl,rfl,Nat.le_refl _,fun _ _=>rfl⟩;have Q5:=hide (⟨X4.call bd,R4.call bd,bw4.trans (bd.mono bw4.size),Mem.zg7 own4 bd⟩:Mem.Blk w4.drew Y3 #[.slice va T0.length vc, .int .i64 C0] 64∧Mem.Blk w4.drew (w.heap.size+1) #[.slice none 0 0] 43∧Below w.heap.size w w4.drew∧Mem.ownN w4.drew w2.heap.size (.slice va T0.length vc) T0);clear X4 R4 bw4 own4 d0 f0 x0 x1 bd own R3 R2 R1 R0 bw3 bw2 bw1 b3 b2 b1 b0;refine wp_region_held_drew (S:=fun W'=>W'.cell? ⟨Y3,0,none⟩=some (.slice va T0.length vc)∧W'.cell? ⟨Y3,1,none⟩=some (.int .i64 C0)) (by kernel_rfl) ?_ (fun hHeld=>?_)
 ·exact ⟨by have h:=(za Q5).1.cell 0;simpa using h,by have h:=(za Q5).1.cell 1;simpa using h⟩
 generalize w4.drew=WD at hHeld Q5 ⊢;refine TB 0 ?_;refine TB 1 ?_;refine TB 2 ?_;refine TB 3 ?_;have d0:=(za Q5).2.1.cell 0;have f0:=(za Q5).2.1.fr 0;simp only [kA0,kA1] at d0;refine wpAnyH_ready (rs:=[4]) (by kernel_rfl) (by simp) ?_;refine AllReadyH.cons rfl (fun K1 hK=>?_) AllReadyH.nil;go_simp
 have X6:=(za Q5).1.far ⟨w.heap.size+1,0,none⟩ (.slice va T0.length vc) (by show Y3≠w.heap.size+1;omega);refine hK.out _ _ ?_ (fun hHeld2=>?_)
 ·exact ⟨by have h:=X6.cell 0;simpa using h,by have h:=X6.cell 1;simpa using h⟩
 clear hK K1 hHeld;refine TB 5 ?_;refine wpAnyH_done (by kernel_rfl) ?_ _;go_wp2
 refine bodyPost_ret (v:= .tuple #[.agg #[.slice va T0.length vc], .int .i64 C0]) (by simp [results,Tryz.results15,go_sem,d0]) rfl ⟨_,rfl,Mem.zb3 (Mem.za8 (za Q5).2.2.2 _ _ (by show w.heap.size+1<w2.heap.size;omega)) (by omega),?_⟩;exact (za Q5).2.2.1.setCell (by show w.heap.size≤w.heap.size+1;omega) _
end zi6
end
section
open Go.RowKit
namespace Pl
def dirN (L:List Nd) (p:ByteArray) (t:Int):Nd:=⟨p,1,⟨#[]⟩,t,((lk L p).getD za6).mark⟩
end Pl
namespace zi6
set_option linter.unusedSimpArgs false in
set_option maxRecDepth 100000 in
set_option maxHeartbeats 2000000 in
theorem dir_any (a:Option Addr) (cap:Nat) (L:List Pl.Nd) (p:ByteArray) (t:Int) (w:World) (hl:L.length≤1000) (hv:Mem.za2 w a L):
  Calls Tryz.prog 69 #[.agg #[.slice a L.length cap], .string p, .int .i64 t] w fun e w'=>e= .returned (Pl.dirN L p t).val∧Below w.heap.size w w':=by
 have b0:Below w.heap.size w ((w.alloc (.cells #[.slice a L.length cap] 43)).alloc (.cells #[.string ⟨#[]⟩, .int .i64 0, .string ⟨#[]⟩, .int .i64 0, .int .i64 0] 47)):=(bE0).alloc (by simp) _;have T0:=(Mem.Blk.new w #[.slice a L.length cap] 43).alloc (.cells #[.string ⟨#[]⟩, .int .i64 0, .string ⟨#[]⟩, .int .i64 0, .int .i64 0] 47);have R0:Mem.Blk ((w.alloc (.cells #[.slice a L.length cap] 43)).alloc (.cells #[.string ⟨#[]⟩, .int .i64 0, .string ⟨#[]⟩, .int .i64 0, .int .i64 0] 47)) (w.heap.size+1) #[.string ⟨#[]⟩, .int .i64 0, .string ⟨#[]⟩, .int .i64 0, .int .i64 0] 47:=Mem.zg4 _ _ _;have HAT:=hide (fun W (b:Below w.heap.size w W)=>zl8.zt2 a cap L p W (by omega) (Mem.za0 hv b));have HV:=hide (fun W (b:Below w.heap.size w W)=>Mem.za0 hv b)
 have ED:Hid (Pl.dirN L p t=⟨p,1,⟨#[]⟩,t,((Pl.lk L p).getD Pl.za6).mark⟩):=rfl;generalize Pl.dirN L p t=D at ED ⊢;have c0:=T0.cell 0;simp only [kA0,kA1] at c0;clear hv;go_enter Tryz.func69,Tryz.ntmps69
 go_wp2_with fail
 generalize (w.alloc (.cells #[.slice a L.length cap] 43)).alloc (.cells #[.string ⟨#[]⟩, .int .i64 0, .string ⟨#[]⟩, .int .i64 0, .int .i64 0] 47)=w1 at b0 T0 R0 c0 ⊢;refine (za HAT _ b0).mono ?_;rintro e w2 ⟨⟨r,rfl,hr⟩,b2⟩;have bw2:=b0.trans (b2.mono b0.size);have T2:=T0.call b2;have R2:=R0.call b2;have hz2:w.heap.size+1<w2.heap.size:=R2.lt;clear HAT b0 b2 T0 R0 c0
 rcases hr.out with ⟨k,m,rfl,hk,hf⟩|⟨rfl,hf⟩
 ·obtain ⟨mp,mk,md,mt,mm⟩:=m
  have eD:D=⟨p,1,⟨#[]⟩,t,mm⟩:=by
   have h:=za ED;rw [show Pl.lk L p=some ⟨mp,mk,md,mt,mm⟩ from hf] at h;exact h
  subst eD;have hkl:k<L.length:=(List.getElem?_eq_some_iff.1 hk).1;have b3:Below w.heap.size w (w2.alloc (.cells #[.string p, .int .i64 1, .string ⟨#[]⟩, .int .i64 t, .int .i64 0] 47)):=bw2.alloc bw2.size _;obtain ⟨g,o,e1,hg,q0,q1,q2,q3,q4⟩:=za HV _ b3 k _ hk;subst e1;have T3:=T2.alloc (.cells #[.string p, .int .i64 1, .string ⟨#[]⟩, .int .i64 t, .int .i64 0] 47);have c3:=T3.cell 0;have R4:=R2.alloc (.cells #[.string p, .int .i64 1, .string ⟨#[]⟩, .int .i64 t, .int .i64 mm] 47);have N4:=Mem.Blk.new w2 #[.string p, .int .i64 1, .string ⟨#[]⟩, .int .i64 t, .int .i64 mm] 47;have b4:=hide (bw2.alloc bw2.size (.cells #[.string p, .int .i64 1, .string ⟨#[]⟩, .int .i64 t, .int .i64 mm] 47));have n0:=N4.cell 0;have n1:=N4.cell 1;have n2:=N4.cell 2;have n3:=N4.cell 3;have n4:=N4.cell 4;have z0:=R4.cell 0;have z1:=R4.cell 1;have z2:=R4.cell 2
  have z3:=R4.cell 3;have z4:=R4.cell 4;have f0:=R4.fr 0;have f1:=R4.fr 1;have f2:=R4.fr 2;have f3:=R4.fr 3;have f4:=R4.fr 4;have F:=((((R4.put 0 (.string p)).put 1 (.int .i64 1)).put 2 (.string ⟨#[]⟩)).put 3 (.int .i64 t)).put 4 (.int .i64 mm);simp only [kB3,kB4,kB5] at F;have HF:=hide F;simp only [kGs] at c3 n0 n1 n2 n3 n4 z0 z1 z2 z3 z4;have hix:0≤(k:Int)∧(k:Int)<(L.length:Int):=by omega
  have hge:¬ (k:Int)<0:=by omega
  have hge2:(0:Int)≤(k:Int):=by omega
  simp only at q4;clear T2 R2 T3 R4 N4 F hk hf b3 q0 q1 q2 q3 hr ED HV;go_upto_region 5 with fail
  generalize w2.alloc (.cells #[.string p, .int .i64 1, .string ⟨#[]⟩, .int .i64 t, .int .i64 mm] 47)=w3 at n0 n1 n2 n3 n4 z0 z1 z2 z3 z4 f0 f1 f2 f3 f4 HF b4 ⊢;generalize w2.heap.size=X8 at n0 n1 n2 n3 n4 ⊢;clear c3 q4 hix hge hge2 hg;go_wp2
  obtain ⟨r0,r1,r2,r3,r4⟩:=jc5 (za HF);refine bodyPost_ret (v:= .agg #[.string p, .int .i64 1, .string ⟨#[]⟩, .int .i64 t, .int .i64 mm]) (by simp [results,Tryz.results69,go_sem,r0,r1,r2,r3,r4]) rfl ⟨rfl,?_⟩;exact (((((za b4).setCell (by show w.heap.size≤w.heap.size+1;omega) _).setCell (by show w.heap.size≤w.heap.size+1;omega) _).setCell (by show w.heap.size≤w.heap.size+1;omega) _).setCell (by show w.heap.size≤w.heap.size+1;omega) _).setCell (by show w.heap.size≤w.heap.size+1;omega) _
 ·have eD:D=⟨p,1,⟨#[]⟩,t,0⟩:=by
   have h:=za ED;rw [show Pl.lk L p=none from hf] at h;exact h
  subst eD;have R4:=R2.alloc (.cells #[.string p, .int .i64 1, .string ⟨#[]⟩, .int .i64 t, .int .i64 0] 47);have N4:=Mem.Blk.new w2 #[.string p, .int .i64 1, .string ⟨#[]⟩, .int .i64 t, .int .i64 0] 47;have b4:=hide (bw2.alloc bw2.size (.cells #[.string p, .int .i64 1, .string ⟨#[]⟩, .int .i64 t, .int .i64 0] 47));have n0:=N4.cell 0;have n1:=N4.cell 1;have n2:=N4.cell 2;have n3:=N4.cell 3;have n4:=N4.cell 4;have z0:=R4.cell 0;have z1:=R4.cell 1;have z2:=R4.cell 2;have z3:=R4.cell 3;have z4:=R4.cell 4;have f0:=R4.fr 0;have f1:=R4.fr 1;have f2:=R4.fr 2;have f3:=R4.fr 3;have f4:=R4.fr 4;have F:=((((R4.put 0 (.string p)).put 1 (.int .i64 1)).put 2 (.string ⟨#[]⟩)).put 3 (.int .i64 t)).put 4 (.int .i64 0);simp only [kB3,kB4,kB5] at F;have HF:=hide F;simp only [kGs] at n0 n1 n2 n3 n4 z0 z1 z2 z3 z4
  clear T2 R2 R4 N4 F hf hr ED HV;go_upto_region 5 with fail
  generalize w2.alloc (.cells #[.string p, .int .i64 1, .string ⟨#[]⟩, .int .i64 t, .int .i64 0] 47)=w3 at n0 n1 n2 n3 n4 z0 z1 z2 z3 z4 f0 f1 f2 f3 f4 HF b4 ⊢;generalize w2.heap.size=X8 at n0 n1 n2 n3 n4 ⊢;go_wp2
  obtain ⟨r0,r1,r2,r3,r4⟩:=jc5 (za HF);refine bodyPost_ret (v:= .agg #[.string p, .int .i64 1, .string ⟨#[]⟩, .int .i64 t, .int .i64 0]) (by simp [results,Tryz.results69,go_sem,r0,r1,r2,r3,r4]) rfl ⟨rfl,?_⟩;exact (((((za b4).setCell (by show w.heap.size≤w.heap.size+1;omega) _).setCell (by show w.heap.size≤w.heap.size+1;omega) _).setCell (by show w.heap.size≤w.heap.size+1;omega) _).setCell (by show w.heap.size≤w.heap.size+1;omega) _).setCell (by show w.heap.size≤w.heap.size+1;omega) _
end zi6
end
section
open Go.RowKit
namespace zc5
theorem ym5 {w:World} {g o:Nat} {L:List Pl.Nd} (h:Mem.za2 w (some ⟨g,o,none⟩) L) (i:Nat):Mem.za2 w (some ⟨g,o+i*5,none⟩) (L.drop i):=by
 intro k n hk;rw [List.getElem?_drop] at hk;obtain ⟨b',o',e,h1,h2,h3,h4,h5,h6⟩:=h (i+k) n hk;cases e
 have ee:o+(i+k)*5=o+i*5+k*5:=by omega
 rw [ee] at h2 h3 h4 h5 h6;exact ⟨g,o+i*5,rfl,h1,h2,h3,h4,h5,h6⟩
theorem yf2 {w:World} {g o:Nat} {L:List Pl.Nd} (h:Mem.za2 w (some ⟨g,o,none⟩) L) (i:Nat):Mem.za2 w (some ⟨g,o,none⟩) (L.take i):=by
 intro k n hk;rw [List.getElem?_take] at hk
 split at hk
 ·exact h k n hk
 ·cases hk
structure At (w W:World) (g o cap:Nat) (L:List Pl.Nd) (n:Pl.Nd):Prop where
 bel:Below w.heap.size w W
 one:Mem.Blk W w.heap.size #[.slice (some ⟨g,o,none⟩) L.length cap] 43
 two:Mem.Blk W (w.heap.size+1) n.cs.toArray 47
 three:Mem.Blk W (w.heap.size+1+1) #[.slice none 0 0] 43
 nodes:Mem.za2 W (some ⟨g,o,none⟩) L
 lt:g<w.heap.size
section
variable {w W W':World} {g o cap:Nat} {L:List Pl.Nd} {n:Pl.Nd}
theorem At.call (h:At w W g o cap L n) (b:Below W.heap.size W W'):At w W' g o cap L n:=
 ⟨h.bel.trans (b.mono h.bel.size),h.one.call b,h.two.call b,h.three.call b,Mem.za0 h.nodes b,h.lt⟩
theorem At.drew (h:At w W g o cap L n):At w W.drew g o cap L n:=
 ⟨⟨h.bel.os,h.bel.tape,h.bel.output,h.bel.size,h.bel.block⟩,h.one,h.two,h.three,h.nodes,h.lt⟩
theorem At.grown {r:Option Nat} (h:At w W g o cap L n) (b:W.grownBy W' r) (hr:∀q,r=some q→w.heap.size+3≤q):At w W' g o cap L n:=
 ⟨h.bel.grown b h.bel.size (fun q hq=>by have :=hr q hq;omega),h.one.grown b (fun e=>by have :=hr _ e.symm;omega),h.two.grown b (fun e=>by have :=hr _ e.symm;omega),h.three.grown b (fun e=>by have :=hr _ e.symm;omega),
  Mem.yd9 h.nodes b (fun e=>by have :=hr _ e.symm;have :=h.lt;omega),h.lt⟩
theorem At.alloc (h:At w W g o cap L n) (x:Obj):At w (W.alloc x) g o cap L n:=h.call ((Below.refl _ _).alloc (Nat.le_refl _) x)
end
set_option linter.unusedSimpArgs false in
set_option maxRecDepth 100000 in
set_option maxHeartbeats 1000000 in
theorem put_off (g o cap:Nat) (L:List Pl.Nd) (n:Pl.Nd) (w:World) (hl:L.length≤1000) (hg:g<w.heap.size) (hv:Mem.za2 w (some ⟨g,o,none⟩) L) (hcap:L.length≤cap) (hok:∀m∈L,m.path.size≤8000) (hn8:n.path.size≤8000):
  Calls Tryz.prog 34 #[.agg #[.slice (some ⟨g,o,none⟩) L.length cap],n.val] w fun e w'=>∃v,e= .returned (.agg #[v])∧Mem.ownN w' w.heap.size v (Pl.putL L n)∧Below w.heap.size w w':=by
 obtain ⟨i0,hi,hz0,hz1,hz2⟩:=info_parts zg2.zn2;have HLS:=hide (fun m (hm:m∈L) W=>zg9.less1_any m.path n.path W (hok m hm) hn8);have HPUT:=hide (fun k=>Pl.put_at L n k);have HRD:=hide (fun k=>Pl.rest_drop L n.path k);have HAH:Hid (∀m,Pl.zg5 n m=Pl.za9 (Pl.names m.path) (Pl.names n.path)):=fun m=>rfl;generalize Pl.putL L n=R at HPUT ⊢;obtain ⟨np,nk,nd,nt,nm⟩:=n;simp only [Pl.Nd.val] at HLS HRD HAH ⊢
 have H0:At w (((w.alloc (.cells #[.slice (some ⟨g,o,none⟩) L.length cap] 43)).alloc (.cells #[.string np, .int .i64 nk, .string nd, .int .i64 nt, .int .i64 nm] 47)).alloc (.cells #[.slice none 0 0] 43)) g o cap L ⟨np,nk,nd,nt,nm⟩:=
  ⟨((bE0).alloc (by simp) _).alloc (by simp;omega) _,((Mem.Blk.new _ _ _).alloc _).alloc _,(by have h:=(Mem.Blk.new (w.alloc (.cells #[.slice (some ⟨g,o,none⟩) L.length cap] 43)) #[.string np, .int .i64 nk, .string nd, .int .i64 nt, .int .i64 nm] 47).alloc (.cells #[.slice none 0 0] 43);rwa [show (w.alloc (.cells #[.slice (some ⟨g,o,none⟩) L.length cap] 43)).heap.size=w.heap.size+1 by simp] at h),Mem.zp3 _ _ _ _,
   Mem.za0 hv (((bE0).alloc (by simp) _).alloc (by simp;omega) _),hg⟩
 have HH:=hide H0;clear H0 hv hok hn8;go_enter Tryz.func34,Tryz.ntmps34
 go_wp2
 go_loopw [5] (fun i wr=>∃k:Nat,k≤L.length∧i= .int .i64 (k:Int)∧Hid (At w wr g o cap L ⟨np,nk,nd,nt,nm⟩)∧Hid (∀ (j:Nat) m,j<k→L[j]? =some m→Pl.zg5 ⟨np,nk,nd,nt,nm⟩ m=true)) (fun i _=>L.length - (intOf i).toNat)
 case atStart=>exact ⟨0,Nat.zero_le _,rfl,HH,fun j m h=>absurd h (by omega)⟩
 case round=>
  obtain ⟨k,hk,rfl,HA,HK⟩:=hrel;clear HH;by_cases hlt:k<L.length
  ·obtain ⟨m,hm⟩:∃m,L[k]? =some m:=⟨_,List.getElem?_eq_getElem hlt⟩;have hls:=hide (za HLS m (List.mem_of_getElem? hm));have y1:(k:Int)<(L.length:Int):=by omega
   have y3:(0:Int)≤(k:Int):=by omega
   have EM:=hide hm
   have HQ:Hid (∀W',Below w.heap.size w W'→At w W' g o cap L ⟨np,nk,nd,nt,nm⟩→W'.cell? ⟨g,o+k*5,none⟩=some (.string m.path)):=fun W' _ h=>by
    obtain ⟨b',o',e,_,z0,_⟩:=h.nodes k m hm;cases e;exact z0
   cases hle:Pl.za9 (Pl.names m.path) (Pl.names np)
   ·rw [hle] at hls;have HF:Hid (∀x,L[k]? =some x→Pl.zg5 ⟨np,nk,nd,nt,nm⟩ x=false):=fun x hx=>by rw [za EM] at hx;cases hx;rw [za HAH];exact hle
    clear hle hm HLS;have hc0:¬cap=0:=by omega
    have MK:Hid (∀W',At w W' g o cap L ⟨np,nk,nd,nt,nm⟩→(fun W'=>At w W' g o cap L ⟨np,nk,nd,nt,nm⟩∧W'.cell? ⟨w.heap.size,0,none⟩=some (.slice (some ⟨g,o,none⟩) L.length cap)∧W'.cell? ⟨w.heap.size+1,0,none⟩=some (.string np)∧W'.cell? ⟨g,o+k*5,none⟩=some (.string m.path)) W'):=fun W' h=>⟨h,h.one.cell 0,h.two.cell 0,za HQ W' h.bel h⟩;go_wp2_with fail
    refine wp_region_held_drew (S:=fun W'=>At w W' g o cap L ⟨np,nk,nd,nt,nm⟩∧W'.cell? ⟨w.heap.size,0,none⟩=some (.slice (some ⟨g,o,none⟩) L.length cap)∧W'.cell? ⟨w.heap.size+1,0,none⟩=some (.string np)∧W'.cell? ⟨g,o+k*5,none⟩=some (.string m.path)) (by kernel_rfl) ?_ (fun hHeld=>?_)
    ·exact za MK _ (za HA).drew
    refine TB 0 ?_;refine TB 1 ?_;refine TB 2 ?_;refine TB 3 ?_;refine TB 4 ?_;refine TB 5 ?_;refine TB 6 ?_;refine TB 7 ?_;refine TB 8 ?_;refine TB 9 ?_;refine TB 10 ?_;refine TB 11 ?_;refine TB 12 ?_;refine TB 13 ?_;refine RN 14 fun K hK=>?_;go_simp
    refine (za hls _).mono ?_;rintro e wX ⟨rfl,bX⟩;refine hK.out _ _ ?_ (fun hHeld=>?_)
    ·exact za MK _ (hHeld.1.call bX)
    clear hK K
    try simp only [Act.put,kBs]
    refine TB 15 ?_;refine wpAnyH_done (by kernel_rfl) ?_ _;have AX:=hide hHeld.1;clear hHeld MK bX hls HA;have hsW:=(za AX).three.lt;have OA0:Hid (Mem.ownN (wX.alloc (.cells #[] 47)) (w.heap.size+3) (.slice (some ⟨wX.heap.size,0,none⟩) 0 0) []):=⟨rfl, .inr ⟨wX.heap.size,0,#[],rfl,by omega,heap_alloc_new _ _,Nat.le_refl _,Nat.zero_le _,rfl,rfl⟩⟩;have AA:=hide ((za AX).alloc (.cells #[] 47));clear AX;have d0:=(za AA).one.cell 0;simp only [kA0,kA1] at d0;have s0:(0:Int)≤(k:Int):=by omega
    have s1:(k:Int)≤(L.length:Int):=by omega
    have hlk:(L.take k).length=k:=by rw [List.length_take];omega
    have HLK:=hide hlk;clear hlk;go_wp2_with (at_builtin;refine wpList_append_own _ rfl _ _ 41 rfl (w.heap.size+3) 47 i0 _ 5 56 Tryz.underlying41 hi hz0 hz1 hz2 rfl (by decide) _ _ _ rfl (za OA0) ⟨g,o,none⟩ k cap (Pl.zc4 (L.take k)) rfl (by rw [Pl.zk0,za HLK]) (zg2.zw5 (yf2 (za AA).nodes k)) (zg2.cells_one _) (by rw [List.length_nil,Nat.zero_add];unfold maxLen;omega) (by rw [List.length_nil,Nat.zero_add];omega) (by have :=(za AA).three.lt;omega) ?_)
    intro v1 wA ownA growA _;have OA:=hide (zg2.zm8 (A:=[]) (M:=L.take k) (m:=k) (by rw [List.length_nil,Nat.zero_add];exact ownA) (za HLK).symm);rw [List.nil_append] at OA;obtain ⟨TK,hTK⟩:∃TK,L.take k=TK:=⟨_,rfl⟩;rw [hTK] at OA;have HTK:=hide hTK;clear hTK;have A1:=hide ((za AA).grown growA (fun q hq=>by have h9:wX.heap.size=q:=Option.some.inj hq;omega));clear ownA growA OA0 AA d0 hsW;have e0:=(za A1).two.cell 0;have e1:=(za A1).two.cell 1;have e2:=(za A1).two.cell 2;have e3:=(za A1).two.cell 3;have e4:=(za A1).two.cell 4;simp only [Pl.Nd.cs,kGs] at e0 e1 e2 e3 e4;have HLA:=hide (Mem.ze3 (za OA));have hlen1:TK.length≤1000:=by rw [←za HTK,List.length_take];omega
    go_wp2_with (at_builtin;refine wpList_append_own _ rfl _ _ 41 rfl (w.heap.size+3) 47 i0 _ 5 56 Tryz.underlying41 hi hz0 hz1 hz2 rfl (by decide) _ _ _ rfl (Mem.zf5 (za OA) _) ⟨wA.heap.size,0,none⟩ 1 1 [.string np, .int .i64 nk, .string nd, .int .i64 nt, .int .i64 nm] rfl rfl (Mem.zp1 wA ⟨np,nk,nd,nt,nm⟩ _) (Mem.zm9 ⟨np,nk,nd,nt,nm⟩) (by unfold maxLen;omega) (by omega) (by have :=(za A1).three.lt;simp;omega) ?_)
    intro v2 wB ownB growB _;have OB:=hide (Mem.zk5 (L:=TK) (n:=⟨np,nk,nd,nt,nm⟩) ownB);have AB:=hide (((za A1).alloc (.cells #[.string np, .int .i64 nk, .string nd, .int .i64 nt, .int .i64 nm] 47)).grown growB (fun q hq=>(za HLA q hq).1));clear ownB growB OA A1 e0 e1 e2 e3 e4 HLA hlen1 HLK;by_cases hqe:m.path=np
    ·by_cases hke:k+1=L.length
     ·have ER:=hide (show R=(TK++[⟨np,nk,nd,nt,nm⟩])++[] by
       rw [←za HTK,za HPUT k (by omega) (za HK) (za HF),za HRD k,if_pos ⟨m,za EM,hqe⟩,List.drop_eq_nil_of_le (by omega)];simp)
      rw [hqe] at HQ;clear HPUT HRD HK HF HAH EM hqe;have HKE:=hide hke;clear hke;have MK:Hid (∀W',At w W' g o cap L ⟨np,nk,nd,nt,nm⟩→(fun W'=>At w W' g o cap L ⟨np,nk,nd,nt,nm⟩∧W'.cell? ⟨w.heap.size,0,none⟩=some (.slice (some ⟨g,o,none⟩) L.length cap)∧W'.cell? ⟨w.heap.size+1,0,none⟩=some (.string np)∧W'.cell? ⟨g,o+k*5,none⟩=some (.string np)) W'):=fun W' h=>⟨h,h.one.cell 0,h.two.cell 0,za HQ W' h.bel h⟩;go_wp2_with fail
      refine wp_region_held_drew (S:=fun W'=>At w W' g o cap L ⟨np,nk,nd,nt,nm⟩∧W'.cell? ⟨w.heap.size,0,none⟩=some (.slice (some ⟨g,o,none⟩) L.length cap)∧W'.cell? ⟨w.heap.size+1,0,none⟩=some (.string np)∧W'.cell? ⟨g,o+k*5,none⟩=some (.string np)) (by kernel_rfl) ?_ (fun hHeld=>?_)
      ·exact za MK _ (za AB).drew
      refine TB 0 ?_;refine TB 1 ?_;refine TB 2 ?_;refine TB 3 ?_;refine TB 4 ?_;refine TB 5 ?_;refine TB 6 ?_;refine TB 7 ?_;refine TB 8 ?_;refine TB 9 ?_;refine TB 10 ?_;refine TB 11 ?_;refine TB 12 ?_;refine TB 13 ?_;refine TB 14 ?_;refine TB 15 ?_;refine wpAnyH_done (by kernel_rfl) ?_ _;have OC:Hid (Mem.ownN wB.drew (w.heap.size+3) v2 (TK++[⟨np,nk,nd,nt,nm⟩])):=za OB;generalize wB.drew=WC at hHeld OC ⊢;have AC:=hide hHeld.1;clear hHeld MK AB OB HQ;have s2:(k:Int)+1≤(L.length:Int):=by omega
      have s3:(0:Int)≤(k:Int)+1:=by omega
      by_cases s4:cap=k+1
      ·have s5:L.length=k+1:=(za HKE).symm;have d0:=(za AC).one.cell 0;simp only [kA0,kA1] at d0;have HLC:=hide (Mem.ze3 (za OC));have hlT:TK.length≤1000:=by rw [←za HTK,List.length_take];omega
       go_wp2_with (at_builtin;refine wpList_append_own _ rfl _ _ 41 rfl (w.heap.size+3) 47 i0 _ 5 56 Tryz.underlying41 hi hz0 hz1 hz2 rfl (by decide) _ _ _ rfl (za OC) _ 0 _ (Pl.zc4 ([])) rfl (by simp [Pl.zc4]) (fun j u h=>by simp [Pl.zc4] at h) (zg2.cells_one _) (by rw [List.length_append,List.length_singleton];unfold maxLen;omega) (by rw [List.length_append,List.length_singleton];omega) (by have :=(za AC).three.lt;omega) ?_)
       intro v3 wD ownD growD _;have OD:=hide (zg2.zm8 (A:=TK++[⟨np,nk,nd,nt,nm⟩]) (M:=[]) (m:=0) (by first |exact ownD|(rw [List.length_append,List.length_singleton];exact ownD)|(rw [Nat.add_zero,List.length_append,List.length_singleton];exact ownD)) (by simp));have AD2:=hide ((za AC).grown growD (fun q hq=>(za HLC q hq).1));clear ownD growD HLC AC OC d0;rw [←za ER] at OD;obtain ⟨a3,cap3,hv3⟩:=Mem.za4 (za OD);subst hv3;have z0:=(za AD2).three.cell 0;have zf:=(za AD2).three.fr 0;simp only [kA0,kA1] at z0;clear ER;go_wp2
       refine bodyPost_ret (v:= .agg #[.slice a3 R.length cap3]) (by simp [results,Tryz.results34,go_sem,z0]) rfl ⟨_,rfl,?_,?_⟩
       ·exact Mem.zb3 (Mem.za8 (za OD) _ _ (by show w.heap.size+1+1<w.heap.size+3;omega)) (by omega)
       ·exact (za AD2).bel.setCell (by show w.heap.size≤w.heap.size+1+1;omega) _
      ·have s5:L.length=k+1:=(za HKE).symm;have d0:=(za AC).one.cell 0;simp only [kA0,kA1] at d0;have HLC:=hide (Mem.ze3 (za OC));have hlT:TK.length≤1000:=by rw [←za HTK,List.length_take];omega
       go_wp2_with (at_builtin;refine wpList_append_own _ rfl _ _ 41 rfl (w.heap.size+3) 47 i0 _ 5 56 Tryz.underlying41 hi hz0 hz1 hz2 rfl (by decide) _ _ _ rfl (za OC) _ 0 _ (Pl.zc4 ([])) rfl (by simp [Pl.zc4]) (fun j u h=>by simp [Pl.zc4] at h) (zg2.cells_one _) (by rw [List.length_append,List.length_singleton];unfold maxLen;omega) (by rw [List.length_append,List.length_singleton];omega) (by have :=(za AC).three.lt;omega) ?_)
       intro v3 wD ownD growD _;have OD:=hide (zg2.zm8 (A:=TK++[⟨np,nk,nd,nt,nm⟩]) (M:=[]) (m:=0) (by first |exact ownD|(rw [List.length_append,List.length_singleton];exact ownD)|(rw [Nat.add_zero,List.length_append,List.length_singleton];exact ownD)) (by simp));have AD2:=hide ((za AC).grown growD (fun q hq=>(za HLC q hq).1));clear ownD growD HLC AC OC d0;rw [←za ER] at OD;obtain ⟨a3,cap3,hv3⟩:=Mem.za4 (za OD);subst hv3;have z0:=(za AD2).three.cell 0;have zf:=(za AD2).three.fr 0;simp only [kA0,kA1] at z0;clear ER;go_wp2
       refine bodyPost_ret (v:= .agg #[.slice a3 R.length cap3]) (by simp [results,Tryz.results34,go_sem,z0]) rfl ⟨_,rfl,?_,?_⟩
       ·exact Mem.zb3 (Mem.za8 (za OD) _ _ (by show w.heap.size+1+1<w.heap.size+3;omega)) (by omega)
       ·exact (za AD2).bel.setCell (by show w.heap.size≤w.heap.size+1+1;omega) _
     ·have ER:=hide (show R=(TK++[⟨np,nk,nd,nt,nm⟩])++L.drop (k+1) by
       rw [←za HTK,za HPUT k (by omega) (za HK) (za HF),za HRD k,if_pos ⟨m,za EM,hqe⟩];simp)
      rw [hqe] at HQ;clear HPUT HRD HK HF HAH EM hqe;have MK:Hid (∀W',At w W' g o cap L ⟨np,nk,nd,nt,nm⟩→(fun W'=>At w W' g o cap L ⟨np,nk,nd,nt,nm⟩∧W'.cell? ⟨w.heap.size,0,none⟩=some (.slice (some ⟨g,o,none⟩) L.length cap)∧W'.cell? ⟨w.heap.size+1,0,none⟩=some (.string np)∧W'.cell? ⟨g,o+k*5,none⟩=some (.string np)) W'):=fun W' h=>⟨h,h.one.cell 0,h.two.cell 0,za HQ W' h.bel h⟩;go_wp2_with fail
      refine wp_region_held_drew (S:=fun W'=>At w W' g o cap L ⟨np,nk,nd,nt,nm⟩∧W'.cell? ⟨w.heap.size,0,none⟩=some (.slice (some ⟨g,o,none⟩) L.length cap)∧W'.cell? ⟨w.heap.size+1,0,none⟩=some (.string np)∧W'.cell? ⟨g,o+k*5,none⟩=some (.string np)) (by kernel_rfl) ?_ (fun hHeld=>?_)
      ·exact za MK _ (za AB).drew
      refine TB 0 ?_;refine TB 1 ?_;refine TB 2 ?_;refine TB 3 ?_;refine TB 4 ?_;refine TB 5 ?_;refine TB 6 ?_;refine TB 7 ?_;refine TB 8 ?_;refine TB 9 ?_;refine TB 10 ?_;refine TB 11 ?_;refine TB 12 ?_;refine TB 13 ?_;refine TB 14 ?_;refine TB 15 ?_;refine wpAnyH_done (by kernel_rfl) ?_ _;have OC:Hid (Mem.ownN wB.drew (w.heap.size+3) v2 (TK++[⟨np,nk,nd,nt,nm⟩])):=za OB;generalize wB.drew=WC at hHeld OC ⊢;have AC:=hide hHeld.1;clear hHeld MK AB OB HQ;have s2:(k:Int)+1≤(L.length:Int):=by omega
      have s3:(0:Int)≤(k:Int)+1:=by omega
      have s4:¬cap=k+1:=by omega
      have d0:=(za AC).one.cell 0;simp only [kA0,kA1] at d0;have HLC:=hide (Mem.ze3 (za OC));have hlT:TK.length≤1000:=by rw [←za HTK,List.length_take];omega
      go_wp2_with (at_builtin;refine wpList_append_own _ rfl _ _ 41 rfl (w.heap.size+3) 47 i0 _ 5 56 Tryz.underlying41 hi hz0 hz1 hz2 rfl (by decide) _ _ _ rfl (za OC) ⟨g,o+(k+1)*5,none⟩ (L.length - (k+1)) (cap - (k+1)) (Pl.zc4 (L.drop (k+1))) rfl (by rw [Pl.zk0,List.length_drop]) (zg2.zw5 (ym5 (za AC).nodes (k+1))) (zg2.cells_one _) (by rw [List.length_append,List.length_singleton];unfold maxLen;omega) (by rw [List.length_append,List.length_singleton];omega) (by have :=(za AC).three.lt;omega) ?_)
      intro v3 wD ownD growD _;have OD:=hide (zg2.zm8 (A:=TK++[⟨np,nk,nd,nt,nm⟩]) (M:=L.drop (k+1)) (m:=(L.length - (k+1))) (by first |exact ownD|(rw [List.length_append,List.length_singleton];exact ownD)|(rw [Nat.add_zero,List.length_append,List.length_singleton];exact ownD)) (by rw [List.length_drop]));have AD2:=hide ((za AC).grown growD (fun q hq=>(za HLC q hq).1));clear ownD growD HLC AC OC d0;rw [←za ER] at OD;obtain ⟨a3,cap3,hv3⟩:=Mem.za4 (za OD);subst hv3;have z0:=(za AD2).three.cell 0;have zf:=(za AD2).three.fr 0;simp only [kA0,kA1] at z0;clear ER;go_wp2
      refine bodyPost_ret (v:= .agg #[.slice a3 R.length cap3]) (by simp [results,Tryz.results34,go_sem,z0]) rfl ⟨_,rfl,?_,?_⟩
      ·exact Mem.zb3 (Mem.za8 (za OD) _ _ (by show w.heap.size+1+1<w.heap.size+3;omega)) (by omega)
      ·exact (za AD2).bel.setCell (by show w.heap.size≤w.heap.size+1+1;omega) _
    ·have ER:=hide (show R=(TK++[⟨np,nk,nd,nt,nm⟩])++L.drop k by
      rw [←za HTK,za HPUT k (by omega) (za HK) (za HF),za HRD k,if_neg (fun ⟨x,hx,hp⟩=>by rw [za EM] at hx;cases hx;exact hqe hp)];simp)
     have tq:=WPutS.tl_ne hqe;generalize m.path=qp at HQ tq;clear HPUT HRD HK HF HAH EM hqe;have MK:Hid (∀W',At w W' g o cap L ⟨np,nk,nd,nt,nm⟩→(fun W'=>At w W' g o cap L ⟨np,nk,nd,nt,nm⟩∧W'.cell? ⟨w.heap.size,0,none⟩=some (.slice (some ⟨g,o,none⟩) L.length cap)∧W'.cell? ⟨w.heap.size+1,0,none⟩=some (.string np)∧W'.cell? ⟨g,o+k*5,none⟩=some (.string qp)) W'):=fun W' h=>⟨h,h.one.cell 0,h.two.cell 0,za HQ W' h.bel h⟩;go_wp2_with fail
     refine wp_region_held_drew (S:=fun W'=>At w W' g o cap L ⟨np,nk,nd,nt,nm⟩∧W'.cell? ⟨w.heap.size,0,none⟩=some (.slice (some ⟨g,o,none⟩) L.length cap)∧W'.cell? ⟨w.heap.size+1,0,none⟩=some (.string np)∧W'.cell? ⟨g,o+k*5,none⟩=some (.string qp)) (by kernel_rfl) ?_ (fun hHeld=>?_)
     ·exact za MK _ (za AB).drew
     refine TB 0 ?_;refine TB 1 ?_;refine TB 2 ?_;refine TB 3 ?_;refine TB 4 ?_;refine TB 5 ?_;refine TB 6 ?_;refine TB 7 ?_;refine TB 8 ?_;refine TB 9 ?_;refine TB 10 ?_;refine TB 11 ?_;refine TB 12 ?_;refine TB 13 ?_;refine TB 14 ?_;refine TB 15 ?_;refine wpAnyH_done (by kernel_rfl) ?_ _;have OC:Hid (Mem.ownN wB.drew (w.heap.size+3) v2 (TK++[⟨np,nk,nd,nt,nm⟩])):=za OB;generalize wB.drew=WC at hHeld OC ⊢;have AC:=hide hHeld.1;clear hHeld MK AB OB HQ;have s4:¬cap=k:=by omega
     have d0:=(za AC).one.cell 0;simp only [kA0,kA1] at d0;have HLC:=hide (Mem.ze3 (za OC));have hlT:TK.length≤1000:=by rw [←za HTK,List.length_take];omega
     go_wp2_with (at_builtin;refine wpList_append_own _ rfl _ _ 41 rfl (w.heap.size+3) 47 i0 _ 5 56 Tryz.underlying41 hi hz0 hz1 hz2 rfl (by decide) _ _ _ rfl (za OC) ⟨g,o+(k)*5,none⟩ (L.length - (k)) (cap - (k)) (Pl.zc4 (L.drop (k))) rfl (by rw [Pl.zk0,List.length_drop]) (zg2.zw5 (ym5 (za AC).nodes (k))) (zg2.cells_one _) (by rw [List.length_append,List.length_singleton];unfold maxLen;omega) (by rw [List.length_append,List.length_singleton];omega) (by have :=(za AC).three.lt;omega) ?_)
     intro v3 wD ownD growD _;have OD:=hide (zg2.zm8 (A:=TK++[⟨np,nk,nd,nt,nm⟩]) (M:=L.drop (k)) (m:=(L.length - (k))) (by first |exact ownD|(rw [List.length_append,List.length_singleton];exact ownD)|(rw [Nat.add_zero,List.length_append,List.length_singleton];exact ownD)) (by rw [List.length_drop]));have AD2:=hide ((za AC).grown growD (fun q hq=>(za HLC q hq).1));clear ownD growD HLC AC OC d0;rw [←za ER] at OD;obtain ⟨a3,cap3,hv3⟩:=Mem.za4 (za OD);subst hv3;have z0:=(za AD2).three.cell 0;have zf:=(za AD2).three.fr 0;simp only [kA0,kA1] at z0;clear ER;go_wp2
     refine bodyPost_ret (v:= .agg #[.slice a3 R.length cap3]) (by simp [results,Tryz.results34,go_sem,z0]) rfl ⟨_,rfl,?_,?_⟩
     ·exact Mem.zb3 (Mem.za8 (za OD) _ _ (by show w.heap.size+1+1<w.heap.size+3;omega)) (by omega)
     ·exact (za AD2).bel.setCell (by show w.heap.size≤w.heap.size+1+1;omega) _
   ·rw [hle] at hls
    have HK2:Hid (∀ (j:Nat) x,j<k+1→L[j]? =some x→Pl.zg5 ⟨np,nk,nd,nt,nm⟩ x=true):=fun j x hj hx=>by
     rcases Nat.lt_succ_iff_lt_or_eq.1 hj with h3|h3
     ·exact za HK j x h3 hx
     ·subst h3;rw [za EM] at hx;cases hx;rw [za HAH];exact hle
    generalize m.path=qp at hls HQ;clear hm EM hle HK;have MK:Hid (∀W',At w W' g o cap L ⟨np,nk,nd,nt,nm⟩→(fun W'=>At w W' g o cap L ⟨np,nk,nd,nt,nm⟩∧W'.cell? ⟨w.heap.size,0,none⟩=some (.slice (some ⟨g,o,none⟩) L.length cap)∧W'.cell? ⟨w.heap.size+1,0,none⟩=some (.string np)∧W'.cell? ⟨g,o+k*5,none⟩=some (.string qp)) W'):=fun W' h=>⟨h,h.one.cell 0,h.two.cell 0,za HQ W' h.bel h⟩;go_wp2_with fail
    refine wp_region_held_drew (S:=fun W'=>At w W' g o cap L ⟨np,nk,nd,nt,nm⟩∧W'.cell? ⟨w.heap.size,0,none⟩=some (.slice (some ⟨g,o,none⟩) L.length cap)∧W'.cell? ⟨w.heap.size+1,0,none⟩=some (.string np)∧W'.cell? ⟨g,o+k*5,none⟩=some (.string qp)) (by kernel_rfl) ?_ (fun hHeld=>?_)
    ·exact za MK _ (za HA).drew
    refine TB 0 ?_;refine TB 1 ?_;refine TB 2 ?_;refine TB 3 ?_;refine TB 4 ?_;refine TB 5 ?_;refine TB 6 ?_;refine TB 7 ?_;refine TB 8 ?_;refine TB 9 ?_;refine TB 10 ?_;refine TB 11 ?_;refine TB 12 ?_;refine TB 13 ?_;refine RN 14 fun K hK=>?_;go_simp
    refine (za hls _).mono ?_;rintro e wX ⟨rfl,bX⟩;refine hK.out _ _ ?_ (fun hHeld=>?_)
    ·exact za MK _ (hHeld.1.call bX)
    clear hK K
    try simp only [Act.put,kBs]
    refine TB 15 ?_;refine wpAnyH_done (by kernel_rfl) ?_ _;have AX:=hide hHeld.1;clear hHeld MK bX hls HA HQ;go_wp2
    go_roundw
    case rel=>exact ⟨k+1,by omega,by go_num,AX,HK2⟩
    case measure=>simp [intOf];omega
  ·have y1:¬ (k:Int)<(L.length:Int):=by omega
   have hkl:k=L.length:=by omega
   have HF:Hid (∀x,L[k]? =some x→Pl.zg5 ⟨np,nk,nd,nt,nm⟩ x=false):=fun x hx=>absurd (List.getElem?_eq_some_iff.1 hx).1 (by omega);clear HLS;by_cases hc0:cap=0
   ·obtain rfl:L=[]:=List.length_eq_zero_iff.1 (by omega);obtain rfl:k=0:=by simpa using hkl
    subst cap;clear hkl hcap;have MK:Hid (∀W',At w W' g o 0 ([]:List Pl.Nd) ⟨np,nk,nd,nt,nm⟩→(fun W'=>At w W' g o 0 ([]:List Pl.Nd) ⟨np,nk,nd,nt,nm⟩∧W'.cell? ⟨w.heap.size,0,none⟩=some (.slice (some ⟨g,o,none⟩) ([]:List Pl.Nd).length 0)∧W'.cell? ⟨w.heap.size+1,0,none⟩=some (.string np)) W'):=fun W' h=>⟨h,h.one.cell 0,h.two.cell 0⟩;go_wp2_with fail
    refine wp_region_held_drew (S:=fun W'=>At w W' g o 0 ([]:List Pl.Nd) ⟨np,nk,nd,nt,nm⟩∧W'.cell? ⟨w.heap.size,0,none⟩=some (.slice (some ⟨g,o,none⟩) ([]:List Pl.Nd).length 0)∧W'.cell? ⟨w.heap.size+1,0,none⟩=some (.string np)) (by kernel_rfl) ?_ (fun hHeld=>?_)
    ·exact za MK _ (za HA).drew
    refine TB 0 ?_;refine TB 1 ?_;refine TB 2 ?_;refine TB 3 ?_;refine TB 4 ?_;refine TB 5 ?_;refine TC 6 ?_;refine TC 7 ?_;refine TC 8 ?_;refine TC 9 ?_;refine TC 10 ?_;refine TC 11 ?_;refine TC 12 ?_;refine TC 13 ?_;refine TC 14 ?_;refine TB 15 ?_;refine wpAnyH_done (by kernel_rfl) ?_ _;generalize wr.drew=WE at hHeld ⊢;have AX:=hide hHeld.1;clear hHeld MK HA;have hsW:=(za AX).three.lt;have OA0:Hid (Mem.ownN (WE.alloc (.cells #[] 47)) (w.heap.size+3) (.slice (some ⟨WE.heap.size,0,none⟩) 0 0) []):=⟨rfl, .inr ⟨WE.heap.size,0,#[],rfl,by omega,heap_alloc_new _ _,Nat.le_refl _,Nat.zero_le _,rfl,rfl⟩⟩;have AA:=hide ((za AX).alloc (.cells #[] 47));clear AX;have d0:=(za AA).one.cell 0;simp only [kA0,kA1] at d0;have s0:(0:Int)≤((0:Nat):Int):=by omega
    have s1:((0:Nat):Int)≤(([]:List Pl.Nd).length:Int):=by omega
    have hlk:(([]:List Pl.Nd).take 0).length=0:=by rw [List.length_take];omega
    have HLK:=hide hlk;clear hlk;go_wp2_with (at_builtin;refine wpList_append_own _ rfl _ _ 41 rfl (w.heap.size+3) 47 i0 _ 5 56 Tryz.underlying41 hi hz0 hz1 hz2 rfl (by decide) _ _ _ rfl (za OA0) ⟨g,o,none⟩ 0 0 (Pl.zc4 (([]:List Pl.Nd).take 0)) rfl (by rw [Pl.zk0,za HLK]) (zg2.zw5 (yf2 (za AA).nodes 0)) (zg2.cells_one _) (by rw [List.length_nil,Nat.zero_add];unfold maxLen;omega) (by rw [List.length_nil,Nat.zero_add];omega) (by have :=(za AA).three.lt;omega) ?_)
    intro v1 wA ownA growA _;have OA:=hide (zg2.zm8 (A:=[]) (M:=([]:List Pl.Nd).take 0) (m:=0) (by rw [List.length_nil,Nat.zero_add];exact ownA) (za HLK).symm);rw [List.nil_append] at OA;obtain ⟨TK,hTK⟩:∃TK,([]:List Pl.Nd).take 0=TK:=⟨_,rfl⟩;rw [hTK] at OA;have HTK:=hide hTK;clear hTK;have A1:=hide ((za AA).grown growA (fun q hq=>by have h9:WE.heap.size=q:=Option.some.inj hq;omega));clear ownA growA OA0 AA d0 hsW;have e0:=(za A1).two.cell 0;have e1:=(za A1).two.cell 1;have e2:=(za A1).two.cell 2;have e3:=(za A1).two.cell 3;have e4:=(za A1).two.cell 4;simp only [Pl.Nd.cs,kGs] at e0 e1 e2 e3 e4;have HLA:=hide (Mem.ze3 (za OA));have hlen1:TK.length≤1000:=by rw [←za HTK,List.length_take];omega
    go_wp2_with (at_builtin;refine wpList_append_own _ rfl _ _ 41 rfl (w.heap.size+3) 47 i0 _ 5 56 Tryz.underlying41 hi hz0 hz1 hz2 rfl (by decide) _ _ _ rfl (Mem.zf5 (za OA) _) ⟨wA.heap.size,0,none⟩ 1 1 [.string np, .int .i64 nk, .string nd, .int .i64 nt, .int .i64 nm] rfl rfl (Mem.zp1 wA ⟨np,nk,nd,nt,nm⟩ _) (Mem.zm9 ⟨np,nk,nd,nt,nm⟩) (by unfold maxLen;omega) (by omega) (by have :=(za A1).three.lt;simp;omega) ?_)
    intro v2 wB ownB growB _;have OB:=hide (Mem.zk5 (L:=TK) (n:=⟨np,nk,nd,nt,nm⟩) ownB);have AB:=hide (((za A1).alloc (.cells #[.string np, .int .i64 nk, .string nd, .int .i64 nt, .int .i64 nm] 47)).grown growB (fun q hq=>(za HLA q hq).1));clear ownB growB OA A1 e0 e1 e2 e3 e4 HLA hlen1 HLK
    have ER:=hide (show R=(TK++[⟨np,nk,nd,nt,nm⟩])++[] by
     rw [←za HTK,za HPUT 0 (by omega) (za HK) (za HF),za HRD 0,if_neg (fun ⟨m,hm,_⟩=>by have :=(List.getElem?_eq_some_iff.1 hm).1;omega),List.drop_eq_nil_of_le (by omega)];simp)
    clear HPUT HRD HK HF HAH;have MK:Hid (∀W',At w W' g o 0 ([]:List Pl.Nd) ⟨np,nk,nd,nt,nm⟩→(fun W'=>At w W' g o 0 ([]:List Pl.Nd) ⟨np,nk,nd,nt,nm⟩∧W'.cell? ⟨w.heap.size,0,none⟩=some (.slice (some ⟨g,o,none⟩) ([]:List Pl.Nd).length 0)∧W'.cell? ⟨w.heap.size+1,0,none⟩=some (.string np)) W'):=fun W' h=>⟨h,h.one.cell 0,h.two.cell 0⟩;go_wp2_with fail
    refine wp_region_held_drew (S:=fun W'=>At w W' g o 0 ([]:List Pl.Nd) ⟨np,nk,nd,nt,nm⟩∧W'.cell? ⟨w.heap.size,0,none⟩=some (.slice (some ⟨g,o,none⟩) ([]:List Pl.Nd).length 0)∧W'.cell? ⟨w.heap.size+1,0,none⟩=some (.string np)) (by kernel_rfl) ?_ (fun hHeld=>?_)
    ·exact za MK _ (za AB).drew
    refine TB 0 ?_;refine TB 1 ?_;refine TB 2 ?_;refine TB 3 ?_;refine TB 4 ?_;refine TB 5 ?_;refine TC 6 ?_;refine TC 7 ?_;refine TC 8 ?_;refine TC 9 ?_;refine TC 10 ?_;refine TC 11 ?_;refine TC 12 ?_;refine TC 13 ?_;refine TC 14 ?_;refine TB 15 ?_;refine wpAnyH_done (by kernel_rfl) ?_ _;have OC:Hid (Mem.ownN wB.drew (w.heap.size+3) v2 (TK++[⟨np,nk,nd,nt,nm⟩])):=za OB;generalize wB.drew=WC at hHeld OC ⊢;have AC:=hide hHeld.1;clear hHeld MK AB OB;have s4:([]:List Pl.Nd).length=0:=rfl;have d0:=(za AC).one.cell 0;simp only [kA0,kA1] at d0;have HLC:=hide (Mem.ze3 (za OC));have hlT:TK.length≤1000:=by rw [←za HTK,List.length_take];omega
    go_wp2_with (at_builtin;refine wpList_append_own _ rfl _ _ 41 rfl (w.heap.size+3) 47 i0 _ 5 56 Tryz.underlying41 hi hz0 hz1 hz2 rfl (by decide) _ _ _ rfl (za OC) _ 0 _ (Pl.zc4 ([])) rfl (by simp [Pl.zc4]) (fun j u h=>by simp [Pl.zc4] at h) (zg2.cells_one _) (by rw [List.length_append,List.length_singleton];unfold maxLen;omega) (by rw [List.length_append,List.length_singleton];omega) (by have :=(za AC).three.lt;omega) ?_)
    intro v3 wD ownD growD _;have OD:=hide (zg2.zm8 (A:=TK++[⟨np,nk,nd,nt,nm⟩]) (M:=[]) (m:=0) (by first |exact ownD|(rw [List.length_append,List.length_singleton];exact ownD)|(rw [Nat.add_zero,List.length_append,List.length_singleton];exact ownD)) (by simp));have AD2:=hide ((za AC).grown growD (fun q hq=>(za HLC q hq).1));clear ownD growD HLC AC OC d0;rw [←za ER] at OD;obtain ⟨a3,cap3,hv3⟩:=Mem.za4 (za OD);subst hv3;have z0:=(za AD2).three.cell 0;have zf:=(za AD2).three.fr 0;simp only [kA0,kA1] at z0;clear ER;go_wp2
    refine bodyPost_ret (v:= .agg #[.slice a3 R.length cap3]) (by simp [results,Tryz.results34,go_sem,z0]) rfl ⟨_,rfl,?_,?_⟩
    ·exact Mem.zb3 (Mem.za8 (za OD) _ _ (by show w.heap.size+1+1<w.heap.size+3;omega)) (by omega)
    ·exact (za AD2).bel.setCell (by show w.heap.size≤w.heap.size+1+1;omega) _
   ·clear hkl;have MK:Hid (∀W',At w W' g o cap L ⟨np,nk,nd,nt,nm⟩→(fun W'=>At w W' g o cap L ⟨np,nk,nd,nt,nm⟩∧W'.cell? ⟨w.heap.size,0,none⟩=some (.slice (some ⟨g,o,none⟩) L.length cap)∧W'.cell? ⟨w.heap.size+1,0,none⟩=some (.string np)) W'):=fun W' h=>⟨h,h.one.cell 0,h.two.cell 0⟩;go_wp2_with fail
    refine wp_region_held_drew (S:=fun W'=>At w W' g o cap L ⟨np,nk,nd,nt,nm⟩∧W'.cell? ⟨w.heap.size,0,none⟩=some (.slice (some ⟨g,o,none⟩) L.length cap)∧W'.cell? ⟨w.heap.size+1,0,none⟩=some (.string np)) (by kernel_rfl) ?_ (fun hHeld=>?_)
    ·exact za MK _ (za HA).drew
    refine TB 0 ?_;refine TB 1 ?_;refine TB 2 ?_;refine TB 3 ?_;refine TB 4 ?_;refine TB 5 ?_;refine TC 6 ?_;refine TC 7 ?_;refine TC 8 ?_;refine TC 9 ?_;refine TC 10 ?_;refine TC 11 ?_;refine TC 12 ?_;refine TC 13 ?_;refine TC 14 ?_;refine TB 15 ?_;refine wpAnyH_done (by kernel_rfl) ?_ _;generalize wr.drew=WE at hHeld ⊢;have AX:=hide hHeld.1;clear hHeld MK HA;have hsW:=(za AX).three.lt;have OA0:Hid (Mem.ownN (WE.alloc (.cells #[] 47)) (w.heap.size+3) (.slice (some ⟨WE.heap.size,0,none⟩) 0 0) []):=⟨rfl, .inr ⟨WE.heap.size,0,#[],rfl,by omega,heap_alloc_new _ _,Nat.le_refl _,Nat.zero_le _,rfl,rfl⟩⟩;have AA:=hide ((za AX).alloc (.cells #[] 47));clear AX;have d0:=(za AA).one.cell 0;simp only [kA0,kA1] at d0;have s0:(0:Int)≤(k:Int):=by omega
    have s1:(k:Int)≤(L.length:Int):=by omega
    have hlk:(L.take k).length=k:=by rw [List.length_take];omega
    have HLK:=hide hlk;clear hlk;go_wp2_with (at_builtin;refine wpList_append_own _ rfl _ _ 41 rfl (w.heap.size+3) 47 i0 _ 5 56 Tryz.underlying41 hi hz0 hz1 hz2 rfl (by decide) _ _ _ rfl (za OA0) ⟨g,o,none⟩ k cap (Pl.zc4 (L.take k)) rfl (by rw [Pl.zk0,za HLK]) (zg2.zw5 (yf2 (za AA).nodes k)) (zg2.cells_one _) (by rw [List.length_nil,Nat.zero_add];unfold maxLen;omega) (by rw [List.length_nil,Nat.zero_add];omega) (by have :=(za AA).three.lt;omega) ?_)
    intro v1 wA ownA growA _;have OA:=hide (zg2.zm8 (A:=[]) (M:=L.take k) (m:=k) (by rw [List.length_nil,Nat.zero_add];exact ownA) (za HLK).symm);rw [List.nil_append] at OA;obtain ⟨TK,hTK⟩:∃TK,L.take k=TK:=⟨_,rfl⟩;rw [hTK] at OA;have HTK:=hide hTK;clear hTK;have A1:=hide ((za AA).grown growA (fun q hq=>by have h9:WE.heap.size=q:=Option.some.inj hq;omega));clear ownA growA OA0 AA d0 hsW;have e0:=(za A1).two.cell 0;have e1:=(za A1).two.cell 1;have e2:=(za A1).two.cell 2;have e3:=(za A1).two.cell 3;have e4:=(za A1).two.cell 4;simp only [Pl.Nd.cs,kGs] at e0 e1 e2 e3 e4;have HLA:=hide (Mem.ze3 (za OA));have hlen1:TK.length≤1000:=by rw [←za HTK,List.length_take];omega
    go_wp2_with (at_builtin;refine wpList_append_own _ rfl _ _ 41 rfl (w.heap.size+3) 47 i0 _ 5 56 Tryz.underlying41 hi hz0 hz1 hz2 rfl (by decide) _ _ _ rfl (Mem.zf5 (za OA) _) ⟨wA.heap.size,0,none⟩ 1 1 [.string np, .int .i64 nk, .string nd, .int .i64 nt, .int .i64 nm] rfl rfl (Mem.zp1 wA ⟨np,nk,nd,nt,nm⟩ _) (Mem.zm9 ⟨np,nk,nd,nt,nm⟩) (by unfold maxLen;omega) (by omega) (by have :=(za A1).three.lt;simp;omega) ?_)
    intro v2 wB ownB growB _;have OB:=hide (Mem.zk5 (L:=TK) (n:=⟨np,nk,nd,nt,nm⟩) ownB);have AB:=hide (((za A1).alloc (.cells #[.string np, .int .i64 nk, .string nd, .int .i64 nt, .int .i64 nm] 47)).grown growB (fun q hq=>(za HLA q hq).1));clear ownB growB OA A1 e0 e1 e2 e3 e4 HLA hlen1 HLK
    have ER:=hide (show R=(TK++[⟨np,nk,nd,nt,nm⟩])++[] by
     rw [←za HTK,za HPUT k (by omega) (za HK) (za HF),za HRD k,if_neg (fun ⟨m,hm,_⟩=>by have :=(List.getElem?_eq_some_iff.1 hm).1;omega),List.drop_eq_nil_of_le (by omega)];simp)
    clear HPUT HRD HK HF HAH;have MK:Hid (∀W',At w W' g o cap L ⟨np,nk,nd,nt,nm⟩→(fun W'=>At w W' g o cap L ⟨np,nk,nd,nt,nm⟩∧W'.cell? ⟨w.heap.size,0,none⟩=some (.slice (some ⟨g,o,none⟩) L.length cap)∧W'.cell? ⟨w.heap.size+1,0,none⟩=some (.string np)) W'):=fun W' h=>⟨h,h.one.cell 0,h.two.cell 0⟩;go_wp2_with fail
    refine wp_region_held_drew (S:=fun W'=>At w W' g o cap L ⟨np,nk,nd,nt,nm⟩∧W'.cell? ⟨w.heap.size,0,none⟩=some (.slice (some ⟨g,o,none⟩) L.length cap)∧W'.cell? ⟨w.heap.size+1,0,none⟩=some (.string np)) (by kernel_rfl) ?_ (fun hHeld=>?_)
    ·exact za MK _ (za AB).drew
    refine TB 0 ?_;refine TB 1 ?_;refine TB 2 ?_;refine TB 3 ?_;refine TB 4 ?_;refine TB 5 ?_;refine TC 6 ?_;refine TC 7 ?_;refine TC 8 ?_;refine TC 9 ?_;refine TC 10 ?_;refine TC 11 ?_;refine TC 12 ?_;refine TC 13 ?_;refine TC 14 ?_;refine TB 15 ?_;refine wpAnyH_done (by kernel_rfl) ?_ _;have OC:Hid (Mem.ownN wB.drew (w.heap.size+3) v2 (TK++[⟨np,nk,nd,nt,nm⟩])):=za OB;generalize wB.drew=WC at hHeld OC ⊢;have AC:=hide hHeld.1;clear hHeld MK AB OB;by_cases s4:cap=k
    ·have s5:L.length=k:=by omega
     have d0:=(za AC).one.cell 0;simp only [kA0,kA1] at d0;have HLC:=hide (Mem.ze3 (za OC));have hlT:TK.length≤1000:=by rw [←za HTK,List.length_take];omega
     go_wp2_with (at_builtin;refine wpList_append_own _ rfl _ _ 41 rfl (w.heap.size+3) 47 i0 _ 5 56 Tryz.underlying41 hi hz0 hz1 hz2 rfl (by decide) _ _ _ rfl (za OC) _ 0 _ (Pl.zc4 ([])) rfl (by simp [Pl.zc4]) (fun j u h=>by simp [Pl.zc4] at h) (zg2.cells_one _) (by rw [List.length_append,List.length_singleton];unfold maxLen;omega) (by rw [List.length_append,List.length_singleton];omega) (by have :=(za AC).three.lt;omega) ?_)
     intro v3 wD ownD growD _;have OD:=hide (zg2.zm8 (A:=TK++[⟨np,nk,nd,nt,nm⟩]) (M:=[]) (m:=0) (by first |exact ownD|(rw [List.length_append,List.length_singleton];exact ownD)|(rw [Nat.add_zero,List.length_append,List.length_singleton];exact ownD)) (by simp));have AD2:=hide ((za AC).grown growD (fun q hq=>(za HLC q hq).1));clear ownD growD HLC AC OC d0;rw [←za ER] at OD;obtain ⟨a3,cap3,hv3⟩:=Mem.za4 (za OD);subst hv3;have z0:=(za AD2).three.cell 0;have zf:=(za AD2).three.fr 0;simp only [kA0,kA1] at z0;clear ER;go_wp2
     refine bodyPost_ret (v:= .agg #[.slice a3 R.length cap3]) (by simp [results,Tryz.results34,go_sem,z0]) rfl ⟨_,rfl,?_,?_⟩
     ·exact Mem.zb3 (Mem.za8 (za OD) _ _ (by show w.heap.size+1+1<w.heap.size+3;omega)) (by omega)
     ·exact (za AD2).bel.setCell (by show w.heap.size≤w.heap.size+1+1;omega) _
    ·have s5:L.length=k:=by omega
     have d0:=(za AC).one.cell 0;simp only [kA0,kA1] at d0;have HLC:=hide (Mem.ze3 (za OC));have hlT:TK.length≤1000:=by rw [←za HTK,List.length_take];omega
     go_wp2_with (at_builtin;refine wpList_append_own _ rfl _ _ 41 rfl (w.heap.size+3) 47 i0 _ 5 56 Tryz.underlying41 hi hz0 hz1 hz2 rfl (by decide) _ _ _ rfl (za OC) _ 0 _ (Pl.zc4 ([])) rfl (by simp [Pl.zc4]) (fun j u h=>by simp [Pl.zc4] at h) (zg2.cells_one _) (by rw [List.length_append,List.length_singleton];unfold maxLen;omega) (by rw [List.length_append,List.length_singleton];omega) (by have :=(za AC).three.lt;omega) ?_)
     intro v3 wD ownD growD _;have OD:=hide (zg2.zm8 (A:=TK++[⟨np,nk,nd,nt,nm⟩]) (M:=[]) (m:=0) (by first |exact ownD|(rw [List.length_append,List.length_singleton];exact ownD)|(rw [Nat.add_zero,List.length_append,List.length_singleton];exact ownD)) (by simp));have AD2:=hide ((za AC).grown growD (fun q hq=>(za HLC q hq).1));clear ownD growD HLC AC OC d0;rw [←za ER] at OD;obtain ⟨a3,cap3,hv3⟩:=Mem.za4 (za OD);subst hv3;have z0:=(za AD2).three.cell 0;have zf:=(za AD2).three.fr 0;simp only [kA0,kA1] at z0;clear ER;go_wp2
     refine bodyPost_ret (v:= .agg #[.slice a3 R.length cap3]) (by simp [results,Tryz.results34,go_sem,z0]) rfl ⟨_,rfl,?_,?_⟩
     ·exact Mem.zb3 (Mem.za8 (za OD) _ _ (by show w.heap.size+1+1<w.heap.size+3;omega)) (by omega)
     ·exact (za AD2).bel.setCell (by show w.heap.size≤w.heap.size+1+1;omega) _
end zc5
end
section
open Go.RowKit
namespace zc5
def okA (w:World) (a:Option Addr) (cap:Nat) (L:List Pl.Nd):Prop:=(a=none∧cap=0∧L=[])∨∃g o,a=some ⟨g,o,none⟩∧g<w.heap.size∧L.length≤cap
theorem zk8 {w w':World} {a:Option Addr} {cap:Nat} {L:List Pl.Nd} (h:okA w a cap L) (b:w.heap.size≤w'.heap.size):okA w' a cap L:=by
 rcases h with h|⟨g,o,h1,h2,h3⟩
 ·exact .inl h
 ·exact .inr ⟨g,o,h1,Nat.lt_of_lt_of_le h2 b,h3⟩
structure At0 (w W:World) (n:Pl.Nd):Prop where
 bel:Below w.heap.size w W
 one:Mem.Blk W w.heap.size #[.slice none 0 0] 43
 two:Mem.Blk W (w.heap.size+1) n.cs.toArray 47
 three:Mem.Blk W (w.heap.size+1+1) #[.slice none 0 0] 43
section
variable {w W W':World} {n:Pl.Nd}
theorem At0.call (h:At0 w W n) (b:Below W.heap.size W W'):At0 w W' n:=
 ⟨h.bel.trans (b.mono h.bel.size),h.one.call b,h.two.call b,h.three.call b⟩
theorem At0.drew (h:At0 w W n):At0 w W.drew n:=
 ⟨⟨h.bel.os,h.bel.tape,h.bel.output,h.bel.size,h.bel.block⟩,h.one,h.two,h.three⟩
theorem At0.grown {r:Option Nat} (h:At0 w W n) (b:W.grownBy W' r) (hr:∀q,r=some q→w.heap.size+3≤q):At0 w W' n:=
 ⟨h.bel.grown b h.bel.size (fun q hq=>by have :=hr q hq;omega),h.one.grown b (fun e=>by have :=hr _ e.symm;omega),h.two.grown b (fun e=>by have :=hr _ e.symm;omega),h.three.grown b (fun e=>by have :=hr _ e.symm;omega)⟩
theorem At0.alloc (h:At0 w W n) (x:Obj):At0 w (W.alloc x) n:=h.call ((Below.refl _ _).alloc (Nat.le_refl _) x)
end
set_option linter.unusedSimpArgs false in
set_option maxRecDepth 100000 in
set_option maxHeartbeats 1000000 in
theorem put_nil (n:Pl.Nd) (w:World):
  Calls Tryz.prog 34 #[.agg #[.slice none 0 0],n.val] w fun e w'=>∃v,e= .returned (.agg #[v])∧Mem.ownN w' w.heap.size v [n]∧Below w.heap.size w w':=by
 obtain ⟨i0,hi,hz0,hz1,hz2⟩:=info_parts zg2.zn2;obtain ⟨np,nk,nd,nt,nm⟩:=n;simp only [Pl.Nd.val]
 have H0:At0 w (((w.alloc (.cells #[.slice none 0 0] 43)).alloc (.cells #[.string np, .int .i64 nk, .string nd, .int .i64 nt, .int .i64 nm] 47)).alloc (.cells #[.slice none 0 0] 43)) ⟨np,nk,nd,nt,nm⟩:=
  ⟨(((Below.refl _ _).alloc (Nat.le_refl _) _).alloc (by simp) _).alloc (by simp;omega) _,((Mem.Blk.new _ _ _).alloc _).alloc _,(by have h:=(Mem.Blk.new (w.alloc (.cells #[.slice none 0 0] 43)) #[.string np, .int .i64 nk, .string nd, .int .i64 nt, .int .i64 nm] 47).alloc (.cells #[.slice none 0 0] 43);rwa [show (w.alloc (.cells #[.slice none 0 0] 43)).heap.size=w.heap.size+1 by simp] at h),Mem.zp3 _ _ _ _⟩
 have HH:=hide H0;clear H0;go_enter Tryz.func34,Tryz.ntmps34
 go_wp2
 go_loopw [5] (fun i wr=>i= .int .i64 0∧Hid (At0 w wr ⟨np,nk,nd,nt,nm⟩)) (fun i _=>0)
 case atStart=>exact ⟨rfl,HH⟩
 case round=>
  obtain ⟨rfl,HA⟩:=hrel;clear HH;have MK:Hid (∀W',At0 w W' ⟨np,nk,nd,nt,nm⟩→(fun W'=>At0 w W' ⟨np,nk,nd,nt,nm⟩∧W'.cell? ⟨w.heap.size,0,none⟩=some (.slice none 0 0)∧W'.cell? ⟨w.heap.size+1,0,none⟩=some (.string np)) W'):=fun W' h=>⟨h,h.one.cell 0,h.two.cell 0⟩;go_wp2_with fail
  refine wp_region_held_drew (S:=fun W'=>At0 w W' ⟨np,nk,nd,nt,nm⟩∧W'.cell? ⟨w.heap.size,0,none⟩=some (.slice none 0 0)∧W'.cell? ⟨w.heap.size+1,0,none⟩=some (.string np)) (by kernel_rfl) ?_ (fun hHeld=>?_)
  ·exact za MK _ (za HA).drew
  refine TB 0 ?_;refine TB 1 ?_;refine TB 2 ?_;refine TB 3 ?_;refine TB 4 ?_;refine TB 5 ?_;refine TC 6 ?_;refine TC 7 ?_;refine TC 8 ?_;refine TC 9 ?_;refine TC 10 ?_;refine TC 11 ?_;refine TC 12 ?_;refine TC 13 ?_;refine TC 14 ?_;refine TB 15 ?_;refine wpAnyH_done (by kernel_rfl) ?_ _;generalize wr.drew=WE at hHeld ⊢;have AX:=hide hHeld.1;clear hHeld MK HA;have hsW:=(za AX).three.lt;have OA0:Hid (Mem.ownN (WE.alloc (.cells #[] 47)) (w.heap.size+3) (.slice (some ⟨WE.heap.size,0,none⟩) 0 0) []):=⟨rfl, .inr ⟨WE.heap.size,0,#[],rfl,by omega,heap_alloc_new _ _,Nat.le_refl _,Nat.zero_le _,rfl,rfl⟩⟩;have AA:=hide ((za AX).alloc (.cells #[] 47));clear AX;have d0:=(za AA).one.cell 0;simp only [kA0,kA1] at d0;have e0:=(za AA).two.cell 0;have e1:=(za AA).two.cell 1;have e2:=(za AA).two.cell 2;have e3:=(za AA).two.cell 3
  have e4:=(za AA).two.cell 4;simp only [Pl.Nd.cs,kGs] at e0 e1 e2 e3 e4;go_wp2_with (at_builtin;first |(refine wpList_append_own_none rfl _ _ 41 rfl (w.heap.size+3) 47 i0 5 Tryz.underlying41 hi _ _ _ rfl (za OA0) rfl ?_;generalize WE.alloc (.cells #[] 47)=wA at AA OA0 d0 e0 e1 e2 e3 e4 ⊢)|refine wpList_append_own _ rfl _ _ 41 rfl (w.heap.size+3) 47 i0 _ 5 56 Tryz.underlying41 hi hz0 hz1 hz2 rfl (by decide) _ _ _ rfl (Mem.zf5 (za OA0) _) ⟨wA.heap.size,0,none⟩ 1 1 [.string np, .int .i64 nk, .string nd, .int .i64 nt, .int .i64 nm] rfl rfl (Mem.zp1 wA ⟨np,nk,nd,nt,nm⟩ _) (Mem.zm9 ⟨np,nk,nd,nt,nm⟩) (by rw [List.length_nil];unfold maxLen;omega) (by rw [List.length_nil];omega) (by have :=(za AA).three.lt;simp;omega) ?_)
  intro v2 wB ownB growB _;have OB:=hide (Mem.zk5 (L:=[]) (n:=⟨np,nk,nd,nt,nm⟩) ownB);rw [List.nil_append] at OB;have AB:=hide (((za AA).alloc (.cells #[.string np, .int .i64 nk, .string nd, .int .i64 nt, .int .i64 nm] 47)).grown growB (fun q hq=>by have h9:WE.heap.size=q:=Option.some.inj hq;omega));clear ownB growB OA0 AA d0 e0 e1 e2 e3 e4 hsW;have MK:Hid (∀W',At0 w W' ⟨np,nk,nd,nt,nm⟩→(fun W'=>At0 w W' ⟨np,nk,nd,nt,nm⟩∧W'.cell? ⟨w.heap.size,0,none⟩=some (.slice none 0 0)∧W'.cell? ⟨w.heap.size+1,0,none⟩=some (.string np)) W'):=fun W' h=>⟨h,h.one.cell 0,h.two.cell 0⟩;go_wp2_with fail
  refine wp_region_held_drew (S:=fun W'=>At0 w W' ⟨np,nk,nd,nt,nm⟩∧W'.cell? ⟨w.heap.size,0,none⟩=some (.slice none 0 0)∧W'.cell? ⟨w.heap.size+1,0,none⟩=some (.string np)) (by kernel_rfl) ?_ (fun hHeld=>?_)
  ·exact za MK _ (za AB).drew
  refine TB 0 ?_;refine TB 1 ?_;refine TB 2 ?_;refine TB 3 ?_;refine TB 4 ?_;refine TB 5 ?_;refine TC 6 ?_;refine TC 7 ?_;refine TC 8 ?_;refine TC 9 ?_;refine TC 10 ?_;refine TC 11 ?_;refine TC 12 ?_;refine TC 13 ?_;refine TC 14 ?_;refine TB 15 ?_;refine wpAnyH_done (by kernel_rfl) ?_ _;have OC:Hid (Mem.ownN wB.drew (w.heap.size+3) v2 [⟨np,nk,nd,nt,nm⟩]):=za OB;generalize wB.drew=WC at hHeld OC ⊢;have AC:=hide hHeld.1;clear hHeld MK AB OB;have d0:=(za AC).one.cell 0;simp only [kA0,kA1] at d0;obtain ⟨a3,cap3,hv3⟩:=Mem.za4 (za OC);subst hv3;have z0:=(za AC).three.cell 0;have zf:=(za AC).three.fr 0;simp only [kA0,kA1] at z0;go_wp2_with (at_builtin;refine wpList_append_own_none rfl _ _ 41 rfl (w.heap.size+3) 47 i0 5 Tryz.underlying41 hi _ _ _ rfl (za OC) rfl ?_)
  refine bodyPost_ret (v:= .agg #[.slice a3 1 cap3]) (by simp [results,Tryz.results34,go_sem,z0]) rfl ⟨_,rfl,?_,?_⟩
  ·exact Mem.zb3 (Mem.za8 (za OC) _ _ (by show w.heap.size+1+1<w.heap.size+3;omega)) (by omega)
  ·exact (za AC).bel.setCell (by show w.heap.size≤w.heap.size+1+1;omega) _
theorem put_gen (a:Option Addr) (cap:Nat) (L:List Pl.Nd) (n:Pl.Nd) (w:World) (hl:L.length≤1000) (hA:okA w a cap L) (hv:Mem.za2 w a L) (hok:∀m∈L,m.path.size≤8000) (hn8:n.path.size≤8000):
  Calls Tryz.prog 34 #[.agg #[.slice a L.length cap],n.val] w fun e w'=>∃v,e= .returned (.agg #[v])∧Mem.ownN w' w.heap.size v (Pl.putL L n)∧Below w.heap.size w w':=by
 rcases hA with ⟨rfl,rfl,rfl⟩|⟨g,o,rfl,h2,h3⟩
 ·exact put_nil n w
 ·exact put_off g o cap L n w hl h2 hv h3 hok hn8
end zc5
end
section
open Go.RowKit
namespace Pl
def zx6 (S L:List Nd) (q:ByteArray):List Nd:=
 match lk L q with
 |some m=>if m.kind=0 then putL L (dirN L q ((lk S q).getD za6).time) else L
 |none=>putL L (dirN L q ((lk S q).getD za6).time)
def abvN (S L:List Nd):List ByteArray→List Nd
 | []=>L
 |q::qs=>abvN S (zx6 S L q) qs
theorem stepA_put {S L:List Nd} {q:ByteArray} {n:Nd} (h:lk L q=none∨∃m,lk L q=some m∧m.kind=0) (hn:lk S q=some n):zx6 S L q=putL L (dirN L q n.time):=by
 unfold zx6
 rcases h with h|⟨m,h,hk⟩
 ·rw [h,hn];rfl
 ·rw [h,hn];simp only;rw [if_pos hk];rfl
theorem stepA_keep {S L:List Nd} {q:ByteArray} {m:Nd} (h:lk L q=some m) (hk:m.kind≠0):zx6 S L q=L:=by
 unfold zx6;rw [h];simp only;rw [if_neg hk]
theorem wayK_get {L:List ByteArray} {k j:Nat} (h:j<k):(ways L k)[j]? =some (glue (L.take (j+1))):=by simp [ways,h]
theorem wayK_drop {L:List ByteArray} {k j:Nat} (h:j<k):(ways L k).drop j=glue (L.take (j+1))::(ways L k).drop (j+1):=by
 have h1:=List.getElem?_eq_some_iff.1 (wayK_get (L:=L) h);rw [List.drop_eq_getElem_cons h1.1,h1.2]
theorem wayK_join {L:List ByteArray} {j:Nat} {t:ByteArray} (hL:∀t∈L,ze t=true) (h:L[j]? =some t):ze0 (glue (L.take j)) t=glue (L.take (j+1)):=by
 have h1:=List.getElem?_eq_some_iff.1 h;rw [ze0,zo0 (fun t ht=>hL t (List.mem_of_mem_take ht)),List.take_succ_eq_append_getElem h1.1,h1.2]
end Pl
namespace zi6
theorem row7 {w w':World} {B e size n:Nat} {v:Value} {xs:List Value} (h:w.ownsRow B e size v n xs) (b:Below w.heap.size w w'):w'.ownsRow B e size v n xs:=by
 refine ⟨h.1,?_⟩
 rcases h.2 with h0|⟨g,cap,cur,hv,hb,hg,rest⟩
 ·exact .inl h0
 ·exact .inr ⟨g,cap,cur,hv,hb,(b.block _ (Array.getElem?_eq_some_iff.1 hg).1).trans hg,rest⟩
structure Ab (w W:World) (gs os cs:Nat) (S:List Pl.Nd) (N:List ByteArray) (vl:Value) (a:Option Addr) (cap:Nat) (L:List Pl.Nd):Prop where
 bel:Below w.heap.size w W
 blk:Mem.Blk W w.heap.size #[.slice a L.length cap] 43
 sig:Mem.Blk W (w.heap.size+1) #[.slice (some ⟨gs,os,none⟩) S.length cs] 43
 out:Mem.Blk W (w.heap.size+2) #[.slice none 0 0] 43
 okA:zc5.okA W a cap L
 nds:Mem.za2 W a L
 sns:Mem.za2 W (some ⟨gs,os,none⟩) S
 far:∀g o,a=some ⟨g,o,none⟩→g<w.heap.size∨w.heap.size+3≤g
 fas:gs<w.heap.size
 txt:W.ownsRow (w.heap.size+3) 9 1 vl N.length (N.map Value.string)
 sml:∀m∈L,m.path.size≤8000
theorem Ab.call {w W W':World} {gs os cs:Nat} {S:List Pl.Nd} {N:List ByteArray} {vl:Value} {a:Option Addr} {cap:Nat} {L:List Pl.Nd} (h:Ab w W gs os cs S N vl a cap L) (b:Below W.heap.size W W'):Ab w W' gs os cs S N vl a cap L:=
 ⟨h.bel.trans (b.mono h.bel.size),h.blk.call b,h.sig.call b,h.out.call b,zc5.zk8 h.okA b.size,Mem.za0 h.nds b,Mem.za0 h.sns b,h.far,h.fas,row7 h.txt b,h.sml⟩
theorem Ab.drew {w W:World} {gs os cs:Nat} {S:List Pl.Nd} {N:List ByteArray} {vl:Value} {a:Option Addr} {cap:Nat} {L:List Pl.Nd} (h:Ab w W gs os cs S N vl a cap L):Ab w W.drew gs os cs S N vl a cap L:=
 h.call ⟨rfl,rfl,rfl,Nat.le_refl _,fun _ _=>rfl⟩
theorem Ab.size {w W:World} {gs os cs:Nat} {S:List Pl.Nd} {N:List ByteArray} {vl:Value} {a:Option Addr} {cap:Nat} {L:List Pl.Nd} (h:Ab w W gs os cs S N vl a cap L):w.heap.size+3≤W.heap.size:=h.out.lt
theorem Ab.put {w W:World} {gs os cs B:Nat} {S:List Pl.Nd} {N:List ByteArray} {vl:Value} {a a':Option Addr} {cap cap':Nat} {L L':List Pl.Nd} (h:Ab w W gs os cs S N vl a cap L) (own:Mem.ownN W B (.slice a' L'.length cap') L') (hB:w.heap.size+3≤B) (hs:∀m∈L',m.path.size≤8000):
  Ab w (W.setCell ⟨w.heap.size,0,none⟩ (.slice a' L'.length cap')) gs os cs S N vl a' cap' L':=by
 have own2:=Mem.za8 own ⟨w.heap.size,0,none⟩ (.slice a' L'.length cap') (by show w.heap.size<B;omega);have b2:=h.blk.put 0 (.slice a' L'.length cap');simp only [kB3,kB4] at b2;refine ⟨h.bel.setCell (Nat.le_refl _) _,b2,h.sig.far _ _ (by show w.heap.size+1≠w.heap.size;omega),h.out.far _ _ (by show w.heap.size+2≠w.heap.size;omega),?_,(Mem.ze9 own2).2,Mem.zg8 h.sns _ _ (by have :=h.fas;show w.heap.size≠gs;omega),?_,h.fas,?_,hs⟩
 ·rcases own2.2 with ⟨h0,h1⟩|⟨g,c,cur,hv,hb,hg,hc,_⟩
  ·injection h0 with e1 e2 e3
   exact .inl ⟨e1,e3,List.length_eq_zero_iff.1 h1⟩
  ·injection hv with e1 e2 e3
   subst e1 e3;exact .inr ⟨g,0,rfl,(Array.getElem?_eq_some_iff.1 hg).1,hc⟩
 ·rintro g o rfl;have :=(Mem.ze3 own g rfl).1;omega
 ·refine ⟨h.txt.1,?_⟩
  rcases h.txt.2 with h0|⟨g,c,cur,hv,hb,hg,rest⟩
  ·exact .inl h0
  ·exact .inr ⟨g,c,cur,hv,hb,(heap_setCell_other W ⟨w.heap.size,0,none⟩ g _ (by show g≠w.heap.size;omega)).trans hg,rest⟩
end zi6
end
section

theorem yf3 {P:Program} {code:Code} {Q:Exit→Act→World→Prop} {T:Array Value} {D:List _} {w:World} (R:Array Value→Array Value→World→Prop)
  (h:code.wp P (fun e a W=>e= .normal∧a.defers=D∧R T a.tmps W) ⟨T,D⟩ w) (h2:∀T' W,R T T' W→Q .normal ⟨T',D⟩ W):code.wp P Q ⟨T,D⟩ w:=
 Code.wp_mono (fun e a W ⟨h1,h3,h4⟩=>by
  obtain ⟨t,d⟩:=a;simp only at h3;subst h1 h3
  exact h2 _ _ h4) h
end
end Go.Proofs.YthdhhcgopfgcbaaGreatDoor
