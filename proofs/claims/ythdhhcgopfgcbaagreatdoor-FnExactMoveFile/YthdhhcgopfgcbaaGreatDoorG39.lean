/- Several texts of one claim in one file: WPutC, WWriteG. -/
import Derived.Test.YthdhhcgopfgcbaaGreatDoorG37
import Derived.Test.YthdhhcgopfgcbaaGreatDoorG21
import Derived.Test.YthdhhcgopfgcbaaGreatDoorPlainChg
namespace Go.Proofs.YthdhhcgopfgcbaaGreatDoor
section
open Go.RowKit
namespace WPutC
structure At (w W:World) (a:Option Addr) (cap:Nat) (L:List Pl.Nd) (n:Pl.Nd):Prop where
 bel:Below w.heap.size w W
 one:Mem.Blk W w.heap.size #[.slice a L.length cap] 43
 two:Mem.Blk W (w.heap.size+1) n.cs.toArray 47
 three:Mem.Blk W (w.heap.size+1+1) #[.slice none 0 0, .int .i64 0] 64
theorem At.call {w W W':World} {a:Option Addr} {cap:Nat} {L:List Pl.Nd} {n:Pl.Nd} (h:At w W a cap L n) (b:Below W.heap.size W W'):At w W' a cap L n:=
 ⟨h.bel.trans (b.mono h.bel.size),h.one.call b,h.two.call b,h.three.call b⟩
set_option linter.unusedSimpArgs false in
set_option maxRecDepth 100000 in
set_option maxHeartbeats 1000000 in
theorem zq9 (a:Option Addr) (cap:Nat) (L:List Pl.Nd) (n:Pl.Nd) (w:World) (hl:L.length≤1000) (hA:zc5.okA w a cap L) (hv:Mem.za2 w a L) (hok:∀m∈L,m.path.size≤8000) (hn8:n.path.size≤8000):
  Calls Tryz.prog 64 #[.agg #[.slice a L.length cap],n.val] w fun e w'=>∃v,e= .returned (.agg #[v, .int .i64 (Pl.addC L n)])∧Mem.ownN w' w.heap.size v (Pl.addO L n)∧Below w.heap.size w w':=by
 have HPA:=hide (fun W=>zg9.zs3 n.path W (by unfold maxLen;omega));have HAU:=hide (fun W (b:Below w.heap.size w W)=>zl8.zt2 a cap L (Pl.parent n.path) W (by omega) (Mem.za0 hv b));have HDU:=hide (fun W (b:Below w.heap.size w W)=>zl8.dir_any a cap L (Pl.parent n.path) W (by omega) (Mem.za0 hv b));have HOV:=hide (fun W (b:Below w.heap.size w W)=>WPutS.over_any a cap L n.path W (by omega) (Mem.za0 hv b) (by omega));have HAN:=hide (fun W (b:Below w.heap.size w W)=>zl8.zt2 a cap L n.path W (by omega) (Mem.za0 hv b));have HPU:=hide (fun W (b:Below w.heap.size w W)=>zc5.put_gen a cap L n W hl (zc5.zk8 hA b.size) (Mem.za0 hv b) hok hn8);have E6:Hid ((Pl.parent n.path).size≠0∧L.find? (fun m=>decide (m.path=Pl.parent n.path))=none→Pl.addC L n=6):=fun h=>by rw [Pl.addC,if_pos h]
 have E12:Hid (¬ ((Pl.parent n.path).size≠0∧L.find? (fun m=>decide (m.path=Pl.parent n.path))=none)→Pl.dirS L (Pl.parent n.path)=false→Pl.addC L n=12):=fun h h2=>by rw [Pl.addC,if_neg h,if_pos h2]
 have E11:Hid (¬ ((Pl.parent n.path).size≠0∧L.find? (fun m=>decide (m.path=Pl.parent n.path))=none)→Pl.dirS L (Pl.parent n.path)=true→n.kind≠1∧Pl.ze4 L n.path=true→Pl.addC L n=11):=fun h h2 h3=>by rw [Pl.addC,if_neg h,if_neg (by rw [h2];simp),if_pos h3]
 have E9:Hid (¬ ((Pl.parent n.path).size≠0∧L.find? (fun m=>decide (m.path=Pl.parent n.path))=none)→Pl.dirS L (Pl.parent n.path)=true→¬ (n.kind≠1∧Pl.ze4 L n.path=true)→(L.find? (fun m=>decide (m.path=n.path))=none∧40≤L.length)→Pl.addC L n=9):=fun h h2 h3 h4=>by rw [Pl.addC,if_neg h,if_neg (by rw [h2];simp),if_neg h3,if_pos h4]
 have E0:Hid (¬ ((Pl.parent n.path).size≠0∧L.find? (fun m=>decide (m.path=Pl.parent n.path))=none)→Pl.dirS L (Pl.parent n.path)=true→¬ (n.kind≠1∧Pl.ze4 L n.path=true)→¬ (L.find? (fun m=>decide (m.path=n.path))=none∧40≤L.length)→Pl.addC L n=0):=fun h h2 h3 h4=>by rw [Pl.addC,if_neg h,if_neg (by rw [h2];simp),if_neg h3,if_neg h4]
 have HO:Hid (Pl.addO L n=if Pl.addC L n=0 then Pl.putL L n else []):=rfl;obtain ⟨C,HC⟩:∃C,Hid (C=Pl.addC L n):=⟨_,hide rfl⟩;rw [←za HC] at HO ⊢;generalize Pl.addO L n=O at HO ⊢;obtain ⟨np,nk,nd,nt,nm⟩:=n;simp only [Pl.Nd.val] at HPA HAU HDU HOV HAN HPU hn8 HC HO E6 E12 E11 E9 E0 ⊢
 have H0:At w (((w.alloc (.cells #[.slice a L.length cap] 43)).alloc (.cells #[.string np, .int .i64 nk, .string nd, .int .i64 nt, .int .i64 nm] 47)).alloc (.cells #[.slice none 0 0, .int .i64 0] 64)) a cap L ⟨np,nk,nd,nt,nm⟩:=
  ⟨(((Below.refl _ _).alloc (Nat.le_refl _) _).alloc (by simp) _).alloc (by simp;omega) _,((Mem.Blk.new _ _ _).alloc _).alloc _,(by have h:=(Mem.Blk.new (w.alloc (.cells #[.slice a L.length cap] 43)) #[.string np, .int .i64 nk, .string nd, .int .i64 nt, .int .i64 nm] 47).alloc (.cells #[.slice none 0 0, .int .i64 0] 64);rwa [show (w.alloc (.cells #[.slice a L.length cap] 43)).heap.size=w.heap.size+1 by simp] at h),Mem.zp3 _ _ _ _⟩
 have HA:=hide H0;clear H0 hv hok hn8;go_enter Tryz.func64,Tryz.ntmps64
 go_wp2_with fail
 refine (za HPA _).mono ?_;rintro e wP ⟨rfl,hwP⟩;obtain rfl:=hwP.symm;clear HPA;generalize hUP:Pl.parent np=UP at HAU HDU E6 E12 E11 E9 E0;generalize ((w.alloc (.cells #[.slice a L.length cap] 43)).alloc (.cells #[.string np, .int .i64 nk, .string nd, .int .i64 nt, .int .i64 nm] 47)).alloc (.cells #[.slice none 0 0, .int .i64 0] 64)=W1 at HA ⊢;have c1:=(za HA).one.cell 0;have p0:=(za HA).two.cell 0;have p1:=(za HA).two.cell 1;have p2:=(za HA).two.cell 2;have p3:=(za HA).two.cell 3;have p4:=(za HA).two.cell 4;simp only [Pl.Nd.cs,kGs] at c1 p0 p1 p2 p3 p4;by_cases h0:UP.size=0
 ·have t0:UP.toList.isEmpty=true:=by rw [Pl.zd2];simpa [Pl.zh2] using h0
  have Q1:Hid (¬ (UP.size≠0∧L.find? (fun m=>decide (m.path=UP))=none)):=fun h=>h.1 h0;clear h0 HAU hUP;go_wp2_with fail
  refine (za HDU _ (za HA).bel).mono ?_;rintro e wV ⟨rfl,bV⟩;have HA3:=hide ((za HA).call bV);clear HA bV HDU;clear c1 p0 p1 p2 p3 p4;cases hdd:Pl.dirS L UP
  ·have EC:=hide (show C=12 by rw [za HC];exact za E12 (za Q1) hdd);have EN:=hide (show O=[] by rw [za HO,if_neg (by rw [za EC];decide)]);clear HC HO;clear hdd E6 E12 E11 E9 E0 HOV HAN HPU Q1;go_wp2_with fail
   refine (zj1.zc6 12 _).mono ?_;rintro e wI ⟨rfl,bI⟩;have AI:=hide ((za HA3).call bI);clear bI HA3;have d0:=(za AI).three.cell 0;have d1:=(za AI).three.cell 1;have f0:=(za AI).three.fr 0;have f1:=(za AI).three.fr 1;simp only [kGs] at d0 d1;go_wp2
   refine bodyPost_ret (v:= .agg #[.slice none 0 0, .int .i64 12]) (by simp [results,Tryz.results64,go_sem,d0,d1]) rfl ⟨.slice none 0 0,by rw [za EC],by rw [za EN];exact Mem.zb5 _ _,?_⟩;exact ((za AI).bel.setCell (by show w.heap.size≤w.heap.size+1+1;omega) _).setCell (by show w.heap.size≤w.heap.size+1+1;omega) _
  have c1:=(za HA3).one.cell 0;have p0:=(za HA3).two.cell 0;have p1:=(za HA3).two.cell 1;have p2:=(za HA3).two.cell 2;have p3:=(za HA3).two.cell 3;have p4:=(za HA3).two.cell 4;simp only [Pl.Nd.cs,kGs] at c1 p0 p1 p2 p3 p4;by_cases hk1:nk=1
  ·subst hk1;have Q2:Hid (¬ ((1:Int)≠1∧Pl.ze4 L np=true)):=fun h=>h.1 rfl;have Q0:Hid (Pl.dirS L UP=true):=hdd;clear hdd HOV;have HA4:=HA3;clear HA3;go_wp2_with fail
   refine (za HAN _ (za HA4).bel).mono ?_;rintro e wN ⟨⟨r,rfl,hr⟩,bN⟩;have HA5:=hide ((za HA4).call bN);clear HA4 bN HAN;clear c1 p0 p1 p2 p3 p4
   rcases hr.out with ⟨kn,nn,rfl,hkn,hfn⟩|⟨rfl,hfn⟩
   ·have tn:¬ ((kn:Int)<0):=by omega
    have EC:=hide (show C=0 by rw [za HC];exact za E0 (za Q1) (za Q0) (za Q2) (fun h=>by rw [hfn] at h;cases h.1));clear hr hkn hfn E6 E12 E11 E9 E0 Q0 Q1 Q2;have EN:=hide (show O=Pl.putL L ⟨np,1,nd,nt,nm⟩ by rw [za HO,if_pos (za EC)]);clear HC HO;have c1:=(za HA5).one.cell 0;have p0:=(za HA5).two.cell 0;have p1:=(za HA5).two.cell 1;have p2:=(za HA5).two.cell 2;have p3:=(za HA5).two.cell 3;have p4:=(za HA5).two.cell 4;simp only [Pl.Nd.cs,kGs] at c1 p0 p1 p2 p3 p4;go_wp2_with fail
    refine (za HPU _ (za HA5).bel).mono ?_;rintro e wT ⟨v,rfl,own,bT⟩;obtain ⟨a',cap',hvv⟩:=Mem.za4 own;subst hvv;have hs5:=(za HA5).three.lt;have AI:=hide ((za HA5).call bT);have OW:=hide own;clear own bT HA5 HPU c1 p0 p1 p2 p3 p4;have d0:=(za AI).three.cell 0;have d1:=(za AI).three.cell 1;have f0:=(za AI).three.fr 0;have f1:=(za AI).three.fr 1;simp only [kGs] at d0 d1;go_wp2
    refine bodyPost_ret (v:= .agg #[.slice a' (Pl.putL L ⟨np,1,nd,nt,nm⟩).length cap', .int .i64 0]) (by simp [results,Tryz.results64,go_sem,d0,d1]) rfl ⟨.slice a' (Pl.putL L ⟨np,1,nd,nt,nm⟩).length cap',by rw [za EC],?_,?_⟩
    ·rw [za EN];exact Mem.zb3 (Mem.za8 (Mem.za8 (za OW) _ _ (by show w.heap.size+1+1<_;omega)) _ _ (by show w.heap.size+1+1<_;omega)) (by omega)
    ·exact ((za AI).bel.setCell (by show w.heap.size≤w.heap.size+1+1;omega) _).setCell (by show w.heap.size≤w.heap.size+1+1;omega) _
   ·by_cases h40:40≤L.length
    ·have t40:(40:Int)≤(L.length:Int):=by omega
     have EC:=hide (show C=9 by rw [za HC];exact za E9 (za Q1) (za Q0) (za Q2) ⟨hfn,h40⟩);have EN:=hide (show O=[] by rw [za HO,if_neg (by rw [za EC];decide)]);clear HC HO;clear hr hfn E6 E12 E11 E9 E0 HPU Q0 Q1 Q2;have c1:=(za HA5).one.cell 0;have p0:=(za HA5).two.cell 0;have p1:=(za HA5).two.cell 1;have p2:=(za HA5).two.cell 2;have p3:=(za HA5).two.cell 3;have p4:=(za HA5).two.cell 4;simp only [Pl.Nd.cs,kGs] at c1 p0 p1 p2 p3 p4;go_wp2_with fail
     refine (zj1.zc6 9 _).mono ?_;rintro e wI ⟨rfl,bI⟩;have AI:=hide ((za HA5).call bI);clear bI HA5;have d0:=(za AI).three.cell 0;have d1:=(za AI).three.cell 1;have f0:=(za AI).three.fr 0;have f1:=(za AI).three.fr 1;simp only [kGs] at d0 d1;go_wp2
     refine bodyPost_ret (v:= .agg #[.slice none 0 0, .int .i64 9]) (by simp [results,Tryz.results64,go_sem,d0,d1]) rfl ⟨.slice none 0 0,by rw [za EC],by rw [za EN];exact Mem.zb5 _ _,?_⟩;exact ((za AI).bel.setCell (by show w.heap.size≤w.heap.size+1+1;omega) _).setCell (by show w.heap.size≤w.heap.size+1+1;omega) _
    ·have t40:¬ (40:Int)≤(L.length:Int):=by omega
     have EC:=hide (show C=0 by rw [za HC];exact za E0 (za Q1) (za Q0) (za Q2) (fun h=>h40 h.2));clear hr hfn E6 E12 E11 E9 E0 Q0 Q1 Q2 h40;have EN:=hide (show O=Pl.putL L ⟨np,1,nd,nt,nm⟩ by rw [za HO,if_pos (za EC)]);clear HC HO;have c1:=(za HA5).one.cell 0;have p0:=(za HA5).two.cell 0;have p1:=(za HA5).two.cell 1;have p2:=(za HA5).two.cell 2;have p3:=(za HA5).two.cell 3;have p4:=(za HA5).two.cell 4;simp only [Pl.Nd.cs,kGs] at c1 p0 p1 p2 p3 p4;go_wp2_with fail
     refine (za HPU _ (za HA5).bel).mono ?_;rintro e wT ⟨v,rfl,own,bT⟩;obtain ⟨a',cap',hvv⟩:=Mem.za4 own;subst hvv;have hs5:=(za HA5).three.lt;have AI:=hide ((za HA5).call bT);have OW:=hide own;clear own bT HA5 HPU c1 p0 p1 p2 p3 p4;have d0:=(za AI).three.cell 0;have d1:=(za AI).three.cell 1;have f0:=(za AI).three.fr 0;have f1:=(za AI).three.fr 1;simp only [kGs] at d0 d1;go_wp2
     refine bodyPost_ret (v:= .agg #[.slice a' (Pl.putL L ⟨np,1,nd,nt,nm⟩).length cap', .int .i64 0]) (by simp [results,Tryz.results64,go_sem,d0,d1]) rfl ⟨.slice a' (Pl.putL L ⟨np,1,nd,nt,nm⟩).length cap',by rw [za EC],?_,?_⟩
     ·rw [za EN];exact Mem.zb3 (Mem.za8 (Mem.za8 (za OW) _ _ (by show w.heap.size+1+1<_;omega)) _ _ (by show w.heap.size+1+1<_;omega)) (by omega)
     ·exact ((za AI).bel.setCell (by show w.heap.size≤w.heap.size+1+1;omega) _).setCell (by show w.heap.size≤w.heap.size+1+1;omega) _
  ·have tk:(nk==1)=false:=by simpa using hk1
   go_wp2_with fail
   refine (za HOV _ (za HA3).bel).mono ?_;rintro e wO ⟨rfl,bO⟩;have HA4:=hide ((za HA3).call bO);clear HA3 bO HOV c1 p0 p1 p2 p3 p4;cases hov:Pl.ze4 L np
   ·have Q2:Hid (¬ (nk≠1∧Pl.ze4 L np=true)):=fun h=>by rw [hov] at h;cases h.2
    have Q0:Hid (Pl.dirS L UP=true):=hdd;clear hov hdd hk1;have c1:=(za HA4).one.cell 0;have p0:=(za HA4).two.cell 0;have p1:=(za HA4).two.cell 1;have p2:=(za HA4).two.cell 2;have p3:=(za HA4).two.cell 3;have p4:=(za HA4).two.cell 4;simp only [Pl.Nd.cs,kGs] at c1 p0 p1 p2 p3 p4;go_wp2_with fail
    refine (za HAN _ (za HA4).bel).mono ?_;rintro e wN ⟨⟨r,rfl,hr⟩,bN⟩;have HA5:=hide ((za HA4).call bN);clear HA4 bN HAN;clear c1 p0 p1 p2 p3 p4
    rcases hr.out with ⟨kn,nn,rfl,hkn,hfn⟩|⟨rfl,hfn⟩
    ·have tn:¬ ((kn:Int)<0):=by omega
     have EC:=hide (show C=0 by rw [za HC];exact za E0 (za Q1) (za Q0) (za Q2) (fun h=>by rw [hfn] at h;cases h.1));clear hr hkn hfn E6 E12 E11 E9 E0 Q0 Q1 Q2;have EN:=hide (show O=Pl.putL L ⟨np,nk,nd,nt,nm⟩ by rw [za HO,if_pos (za EC)]);clear HC HO;have c1:=(za HA5).one.cell 0;have p0:=(za HA5).two.cell 0;have p1:=(za HA5).two.cell 1;have p2:=(za HA5).two.cell 2;have p3:=(za HA5).two.cell 3;have p4:=(za HA5).two.cell 4;simp only [Pl.Nd.cs,kGs] at c1 p0 p1 p2 p3 p4;go_wp2_with fail
     refine (za HPU _ (za HA5).bel).mono ?_;rintro e wT ⟨v,rfl,own,bT⟩;obtain ⟨a',cap',hvv⟩:=Mem.za4 own;subst hvv;have hs5:=(za HA5).three.lt;have AI:=hide ((za HA5).call bT);have OW:=hide own;clear own bT HA5 HPU c1 p0 p1 p2 p3 p4;have d0:=(za AI).three.cell 0;have d1:=(za AI).three.cell 1;have f0:=(za AI).three.fr 0;have f1:=(za AI).three.fr 1;simp only [kGs] at d0 d1;go_wp2
     refine bodyPost_ret (v:= .agg #[.slice a' (Pl.putL L ⟨np,nk,nd,nt,nm⟩).length cap', .int .i64 0]) (by simp [results,Tryz.results64,go_sem,d0,d1]) rfl ⟨.slice a' (Pl.putL L ⟨np,nk,nd,nt,nm⟩).length cap',by rw [za EC],?_,?_⟩
     ·rw [za EN];exact Mem.zb3 (Mem.za8 (Mem.za8 (za OW) _ _ (by show w.heap.size+1+1<_;omega)) _ _ (by show w.heap.size+1+1<_;omega)) (by omega)
     ·exact ((za AI).bel.setCell (by show w.heap.size≤w.heap.size+1+1;omega) _).setCell (by show w.heap.size≤w.heap.size+1+1;omega) _
    ·by_cases h40:40≤L.length
     ·have t40:(40:Int)≤(L.length:Int):=by omega
      have EC:=hide (show C=9 by rw [za HC];exact za E9 (za Q1) (za Q0) (za Q2) ⟨hfn,h40⟩);have EN:=hide (show O=[] by rw [za HO,if_neg (by rw [za EC];decide)]);clear HC HO;clear hr hfn E6 E12 E11 E9 E0 HPU Q0 Q1 Q2;have c1:=(za HA5).one.cell 0;have p0:=(za HA5).two.cell 0;have p1:=(za HA5).two.cell 1;have p2:=(za HA5).two.cell 2;have p3:=(za HA5).two.cell 3;have p4:=(za HA5).two.cell 4;simp only [Pl.Nd.cs,kGs] at c1 p0 p1 p2 p3 p4;go_wp2_with fail
      refine (zj1.zc6 9 _).mono ?_;rintro e wI ⟨rfl,bI⟩;have AI:=hide ((za HA5).call bI);clear bI HA5;have d0:=(za AI).three.cell 0;have d1:=(za AI).three.cell 1;have f0:=(za AI).three.fr 0;have f1:=(za AI).three.fr 1;simp only [kGs] at d0 d1;go_wp2
      refine bodyPost_ret (v:= .agg #[.slice none 0 0, .int .i64 9]) (by simp [results,Tryz.results64,go_sem,d0,d1]) rfl ⟨.slice none 0 0,by rw [za EC],by rw [za EN];exact Mem.zb5 _ _,?_⟩;exact ((za AI).bel.setCell (by show w.heap.size≤w.heap.size+1+1;omega) _).setCell (by show w.heap.size≤w.heap.size+1+1;omega) _
     ·have t40:¬ (40:Int)≤(L.length:Int):=by omega
      have EC:=hide (show C=0 by rw [za HC];exact za E0 (za Q1) (za Q0) (za Q2) (fun h=>h40 h.2));clear hr hfn E6 E12 E11 E9 E0 Q0 Q1 Q2 h40;have EN:=hide (show O=Pl.putL L ⟨np,nk,nd,nt,nm⟩ by rw [za HO,if_pos (za EC)]);clear HC HO;have c1:=(za HA5).one.cell 0;have p0:=(za HA5).two.cell 0;have p1:=(za HA5).two.cell 1;have p2:=(za HA5).two.cell 2;have p3:=(za HA5).two.cell 3;have p4:=(za HA5).two.cell 4;simp only [Pl.Nd.cs,kGs] at c1 p0 p1 p2 p3 p4;go_wp2_with fail
      refine (za HPU _ (za HA5).bel).mono ?_;rintro e wT ⟨v,rfl,own,bT⟩;obtain ⟨a',cap',hvv⟩:=Mem.za4 own;subst hvv;have hs5:=(za HA5).three.lt;have AI:=hide ((za HA5).call bT);have OW:=hide own;clear own bT HA5 HPU c1 p0 p1 p2 p3 p4;have d0:=(za AI).three.cell 0;have d1:=(za AI).three.cell 1;have f0:=(za AI).three.fr 0;have f1:=(za AI).three.fr 1;simp only [kGs] at d0 d1;go_wp2
      refine bodyPost_ret (v:= .agg #[.slice a' (Pl.putL L ⟨np,nk,nd,nt,nm⟩).length cap', .int .i64 0]) (by simp [results,Tryz.results64,go_sem,d0,d1]) rfl ⟨.slice a' (Pl.putL L ⟨np,nk,nd,nt,nm⟩).length cap',by rw [za EC],?_,?_⟩
      ·rw [za EN];exact Mem.zb3 (Mem.za8 (Mem.za8 (za OW) _ _ (by show w.heap.size+1+1<_;omega)) _ _ (by show w.heap.size+1+1<_;omega)) (by omega)
      ·exact ((za AI).bel.setCell (by show w.heap.size≤w.heap.size+1+1;omega) _).setCell (by show w.heap.size≤w.heap.size+1+1;omega) _
   ·have EC:=hide (show C=11 by rw [za HC];exact za E11 (za Q1) hdd ⟨hk1,hov⟩);have EN:=hide (show O=[] by rw [za HO,if_neg (by rw [za EC];decide)]);clear HC HO;clear hov hdd hk1 E6 E12 E11 E9 E0 HAN HPU Q1;go_wp2_with fail
    refine (zj1.zc6 11 _).mono ?_;rintro e wI ⟨rfl,bI⟩;have AI:=hide ((za HA4).call bI);clear bI HA4;have d0:=(za AI).three.cell 0;have d1:=(za AI).three.cell 1;have f0:=(za AI).three.fr 0;have f1:=(za AI).three.fr 1;simp only [kGs] at d0 d1;go_wp2
    refine bodyPost_ret (v:= .agg #[.slice none 0 0, .int .i64 11]) (by simp [results,Tryz.results64,go_sem,d0,d1]) rfl ⟨.slice none 0 0,by rw [za EC],by rw [za EN];exact Mem.zb5 _ _,?_⟩;exact ((za AI).bel.setCell (by show w.heap.size≤w.heap.size+1+1;omega) _).setCell (by show w.heap.size≤w.heap.size+1+1;omega) _
 ·have t0:UP.toList.isEmpty=false:=by rw [Pl.zd2];simpa [Pl.zh2] using h0
  go_wp2_with fail
  refine (za HAU _ (za HA).bel).mono ?_;rintro e wU ⟨⟨r,rfl,hr⟩,bU⟩;have HA2:=hide ((za HA).call bU);clear HA bU HAU c1 p0 p1 p2 p3 p4
  rcases hr.out with ⟨ku,nu,rfl,hku,hfu⟩|⟨rfl,hfu⟩
  ·have tu:¬ ((ku:Int)<0):=by omega
   have Q1:Hid (¬ (UP.size≠0∧L.find? (fun m=>decide (m.path=UP))=none)):=fun h=>by rw [hfu] at h;cases h.2
   clear hr hku hfu h0 hUP;have HA:=HA2;clear HA2;have c1:=(za HA).one.cell 0;have p0:=(za HA).two.cell 0;have p1:=(za HA).two.cell 1;have p2:=(za HA).two.cell 2;have p3:=(za HA).two.cell 3;have p4:=(za HA).two.cell 4;simp only [Pl.Nd.cs,kGs] at c1 p0 p1 p2 p3 p4;go_wp2_with fail
   refine (za HDU _ (za HA).bel).mono ?_;rintro e wV ⟨rfl,bV⟩;have HA3:=hide ((za HA).call bV);clear HA bV HDU;clear c1 p0 p1 p2 p3 p4;cases hdd:Pl.dirS L UP
   ·have EC:=hide (show C=12 by rw [za HC];exact za E12 (za Q1) hdd);have EN:=hide (show O=[] by rw [za HO,if_neg (by rw [za EC];decide)]);clear HC HO;clear hdd E6 E12 E11 E9 E0 HOV HAN HPU Q1;go_wp2_with fail
    refine (zj1.zc6 12 _).mono ?_;rintro e wI ⟨rfl,bI⟩;have AI:=hide ((za HA3).call bI);clear bI HA3;have d0:=(za AI).three.cell 0;have d1:=(za AI).three.cell 1;have f0:=(za AI).three.fr 0;have f1:=(za AI).three.fr 1;simp only [kGs] at d0 d1;go_wp2
    refine bodyPost_ret (v:= .agg #[.slice none 0 0, .int .i64 12]) (by simp [results,Tryz.results64,go_sem,d0,d1]) rfl ⟨.slice none 0 0,by rw [za EC],by rw [za EN];exact Mem.zb5 _ _,?_⟩;exact ((za AI).bel.setCell (by show w.heap.size≤w.heap.size+1+1;omega) _).setCell (by show w.heap.size≤w.heap.size+1+1;omega) _
   have c1:=(za HA3).one.cell 0;have p0:=(za HA3).two.cell 0;have p1:=(za HA3).two.cell 1;have p2:=(za HA3).two.cell 2;have p3:=(za HA3).two.cell 3;have p4:=(za HA3).two.cell 4;simp only [Pl.Nd.cs,kGs] at c1 p0 p1 p2 p3 p4;by_cases hk1:nk=1
   ·subst hk1;have Q2:Hid (¬ ((1:Int)≠1∧Pl.ze4 L np=true)):=fun h=>h.1 rfl;have Q0:Hid (Pl.dirS L UP=true):=hdd;clear hdd HOV;have HA4:=HA3;clear HA3;go_wp2_with fail
    refine (za HAN _ (za HA4).bel).mono ?_;rintro e wN ⟨⟨r,rfl,hr⟩,bN⟩;have HA5:=hide ((za HA4).call bN);clear HA4 bN HAN;clear c1 p0 p1 p2 p3 p4
    rcases hr.out with ⟨kn,nn,rfl,hkn,hfn⟩|⟨rfl,hfn⟩
    ·have tn:¬ ((kn:Int)<0):=by omega
     have EC:=hide (show C=0 by rw [za HC];exact za E0 (za Q1) (za Q0) (za Q2) (fun h=>by rw [hfn] at h;cases h.1));clear hr hkn hfn E6 E12 E11 E9 E0 Q0 Q1 Q2;have EN:=hide (show O=Pl.putL L ⟨np,1,nd,nt,nm⟩ by rw [za HO,if_pos (za EC)]);clear HC HO;have c1:=(za HA5).one.cell 0;have p0:=(za HA5).two.cell 0;have p1:=(za HA5).two.cell 1;have p2:=(za HA5).two.cell 2;have p3:=(za HA5).two.cell 3;have p4:=(za HA5).two.cell 4;simp only [Pl.Nd.cs,kGs] at c1 p0 p1 p2 p3 p4;go_wp2_with fail
     refine (za HPU _ (za HA5).bel).mono ?_;rintro e wT ⟨v,rfl,own,bT⟩;obtain ⟨a',cap',hvv⟩:=Mem.za4 own;subst hvv;have hs5:=(za HA5).three.lt;have AI:=hide ((za HA5).call bT);have OW:=hide own;clear own bT HA5 HPU c1 p0 p1 p2 p3 p4;have d0:=(za AI).three.cell 0;have d1:=(za AI).three.cell 1;have f0:=(za AI).three.fr 0;have f1:=(za AI).three.fr 1;simp only [kGs] at d0 d1;go_wp2
     refine bodyPost_ret (v:= .agg #[.slice a' (Pl.putL L ⟨np,1,nd,nt,nm⟩).length cap', .int .i64 0]) (by simp [results,Tryz.results64,go_sem,d0,d1]) rfl ⟨.slice a' (Pl.putL L ⟨np,1,nd,nt,nm⟩).length cap',by rw [za EC],?_,?_⟩
     ·rw [za EN];exact Mem.zb3 (Mem.za8 (Mem.za8 (za OW) _ _ (by show w.heap.size+1+1<_;omega)) _ _ (by show w.heap.size+1+1<_;omega)) (by omega)
     ·exact ((za AI).bel.setCell (by show w.heap.size≤w.heap.size+1+1;omega) _).setCell (by show w.heap.size≤w.heap.size+1+1;omega) _
    ·by_cases h40:40≤L.length
     ·have t40:(40:Int)≤(L.length:Int):=by omega
      have EC:=hide (show C=9 by rw [za HC];exact za E9 (za Q1) (za Q0) (za Q2) ⟨hfn,h40⟩);have EN:=hide (show O=[] by rw [za HO,if_neg (by rw [za EC];decide)]);clear HC HO;clear hr hfn E6 E12 E11 E9 E0 HPU Q0 Q1 Q2;have c1:=(za HA5).one.cell 0;have p0:=(za HA5).two.cell 0;have p1:=(za HA5).two.cell 1;have p2:=(za HA5).two.cell 2;have p3:=(za HA5).two.cell 3;have p4:=(za HA5).two.cell 4;simp only [Pl.Nd.cs,kGs] at c1 p0 p1 p2 p3 p4;go_wp2_with fail
      refine (zj1.zc6 9 _).mono ?_;rintro e wI ⟨rfl,bI⟩;have AI:=hide ((za HA5).call bI);clear bI HA5;have d0:=(za AI).three.cell 0;have d1:=(za AI).three.cell 1;have f0:=(za AI).three.fr 0;have f1:=(za AI).three.fr 1;simp only [kGs] at d0 d1;go_wp2
      refine bodyPost_ret (v:= .agg #[.slice none 0 0, .int .i64 9]) (by simp [results,Tryz.results64,go_sem,d0,d1]) rfl ⟨.slice none 0 0,by rw [za EC],by rw [za EN];exact Mem.zb5 _ _,?_⟩;exact ((za AI).bel.setCell (by show w.heap.size≤w.heap.size+1+1;omega) _).setCell (by show w.heap.size≤w.heap.size+1+1;omega) _
     ·have t40:¬ (40:Int)≤(L.length:Int):=by omega
      have EC:=hide (show C=0 by rw [za HC];exact za E0 (za Q1) (za Q0) (za Q2) (fun h=>h40 h.2));clear hr hfn E6 E12 E11 E9 E0 Q0 Q1 Q2 h40;have EN:=hide (show O=Pl.putL L ⟨np,1,nd,nt,nm⟩ by rw [za HO,if_pos (za EC)]);clear HC HO;have c1:=(za HA5).one.cell 0;have p0:=(za HA5).two.cell 0;have p1:=(za HA5).two.cell 1;have p2:=(za HA5).two.cell 2;have p3:=(za HA5).two.cell 3;have p4:=(za HA5).two.cell 4;simp only [Pl.Nd.cs,kGs] at c1 p0 p1 p2 p3 p4;go_wp2_with fail
      refine (za HPU _ (za HA5).bel).mono ?_;rintro e wT ⟨v,rfl,own,bT⟩;obtain ⟨a',cap',hvv⟩:=Mem.za4 own;subst hvv;have hs5:=(za HA5).three.lt;have AI:=hide ((za HA5).call bT);have OW:=hide own;clear own bT HA5 HPU c1 p0 p1 p2 p3 p4;have d0:=(za AI).three.cell 0;have d1:=(za AI).three.cell 1;have f0:=(za AI).three.fr 0;have f1:=(za AI).three.fr 1;simp only [kGs] at d0 d1;go_wp2
      refine bodyPost_ret (v:= .agg #[.slice a' (Pl.putL L ⟨np,1,nd,nt,nm⟩).length cap', .int .i64 0]) (by simp [results,Tryz.results64,go_sem,d0,d1]) rfl ⟨.slice a' (Pl.putL L ⟨np,1,nd,nt,nm⟩).length cap',by rw [za EC],?_,?_⟩
      ·rw [za EN];exact Mem.zb3 (Mem.za8 (Mem.za8 (za OW) _ _ (by show w.heap.size+1+1<_;omega)) _ _ (by show w.heap.size+1+1<_;omega)) (by omega)
      ·exact ((za AI).bel.setCell (by show w.heap.size≤w.heap.size+1+1;omega) _).setCell (by show w.heap.size≤w.heap.size+1+1;omega) _
   ·have tk:(nk==1)=false:=by simpa using hk1
    go_wp2_with fail
    refine (za HOV _ (za HA3).bel).mono ?_;rintro e wO ⟨rfl,bO⟩;have HA4:=hide ((za HA3).call bO);clear HA3 bO HOV c1 p0 p1 p2 p3 p4;cases hov:Pl.ze4 L np
    ·have Q2:Hid (¬ (nk≠1∧Pl.ze4 L np=true)):=fun h=>by rw [hov] at h;cases h.2
     have Q0:Hid (Pl.dirS L UP=true):=hdd;clear hov hdd hk1;have c1:=(za HA4).one.cell 0;have p0:=(za HA4).two.cell 0;have p1:=(za HA4).two.cell 1;have p2:=(za HA4).two.cell 2;have p3:=(za HA4).two.cell 3;have p4:=(za HA4).two.cell 4;simp only [Pl.Nd.cs,kGs] at c1 p0 p1 p2 p3 p4;go_wp2_with fail
     refine (za HAN _ (za HA4).bel).mono ?_;rintro e wN ⟨⟨r,rfl,hr⟩,bN⟩;have HA5:=hide ((za HA4).call bN);clear HA4 bN HAN;clear c1 p0 p1 p2 p3 p4
     rcases hr.out with ⟨kn,nn,rfl,hkn,hfn⟩|⟨rfl,hfn⟩
     ·have tn:¬ ((kn:Int)<0):=by omega
      have EC:=hide (show C=0 by rw [za HC];exact za E0 (za Q1) (za Q0) (za Q2) (fun h=>by rw [hfn] at h;cases h.1));clear hr hkn hfn E6 E12 E11 E9 E0 Q0 Q1 Q2;have EN:=hide (show O=Pl.putL L ⟨np,nk,nd,nt,nm⟩ by rw [za HO,if_pos (za EC)]);clear HC HO;have c1:=(za HA5).one.cell 0;have p0:=(za HA5).two.cell 0;have p1:=(za HA5).two.cell 1;have p2:=(za HA5).two.cell 2;have p3:=(za HA5).two.cell 3;have p4:=(za HA5).two.cell 4;simp only [Pl.Nd.cs,kGs] at c1 p0 p1 p2 p3 p4;go_wp2_with fail
      refine (za HPU _ (za HA5).bel).mono ?_;rintro e wT ⟨v,rfl,own,bT⟩;obtain ⟨a',cap',hvv⟩:=Mem.za4 own;subst hvv;have hs5:=(za HA5).three.lt;have AI:=hide ((za HA5).call bT);have OW:=hide own;clear own bT HA5 HPU c1 p0 p1 p2 p3 p4;have d0:=(za AI).three.cell 0;have d1:=(za AI).three.cell 1;have f0:=(za AI).three.fr 0;have f1:=(za AI).three.fr 1;simp only [kGs] at d0 d1;go_wp2
      refine bodyPost_ret (v:= .agg #[.slice a' (Pl.putL L ⟨np,nk,nd,nt,nm⟩).length cap', .int .i64 0]) (by simp [results,Tryz.results64,go_sem,d0,d1]) rfl ⟨.slice a' (Pl.putL L ⟨np,nk,nd,nt,nm⟩).length cap',by rw [za EC],?_,?_⟩
      ·rw [za EN];exact Mem.zb3 (Mem.za8 (Mem.za8 (za OW) _ _ (by show w.heap.size+1+1<_;omega)) _ _ (by show w.heap.size+1+1<_;omega)) (by omega)
      ·exact ((za AI).bel.setCell (by show w.heap.size≤w.heap.size+1+1;omega) _).setCell (by show w.heap.size≤w.heap.size+1+1;omega) _
     ·by_cases h40:40≤L.length
      ·have t40:(40:Int)≤(L.length:Int):=by omega
       have EC:=hide (show C=9 by rw [za HC];exact za E9 (za Q1) (za Q0) (za Q2) ⟨hfn,h40⟩);have EN:=hide (show O=[] by rw [za HO,if_neg (by rw [za EC];decide)]);clear HC HO;clear hr hfn E6 E12 E11 E9 E0 HPU Q0 Q1 Q2;have c1:=(za HA5).one.cell 0;have p0:=(za HA5).two.cell 0;have p1:=(za HA5).two.cell 1;have p2:=(za HA5).two.cell 2;have p3:=(za HA5).two.cell 3;have p4:=(za HA5).two.cell 4;simp only [Pl.Nd.cs,kGs] at c1 p0 p1 p2 p3 p4;go_wp2_with fail
       refine (zj1.zc6 9 _).mono ?_;rintro e wI ⟨rfl,bI⟩;have AI:=hide ((za HA5).call bI);clear bI HA5;have d0:=(za AI).three.cell 0;have d1:=(za AI).three.cell 1;have f0:=(za AI).three.fr 0;have f1:=(za AI).three.fr 1;simp only [kGs] at d0 d1;go_wp2
       refine bodyPost_ret (v:= .agg #[.slice none 0 0, .int .i64 9]) (by simp [results,Tryz.results64,go_sem,d0,d1]) rfl ⟨.slice none 0 0,by rw [za EC],by rw [za EN];exact Mem.zb5 _ _,?_⟩;exact ((za AI).bel.setCell (by show w.heap.size≤w.heap.size+1+1;omega) _).setCell (by show w.heap.size≤w.heap.size+1+1;omega) _
      ·have t40:¬ (40:Int)≤(L.length:Int):=by omega
       have EC:=hide (show C=0 by rw [za HC];exact za E0 (za Q1) (za Q0) (za Q2) (fun h=>h40 h.2));clear hr hfn E6 E12 E11 E9 E0 Q0 Q1 Q2 h40;have EN:=hide (show O=Pl.putL L ⟨np,nk,nd,nt,nm⟩ by rw [za HO,if_pos (za EC)]);clear HC HO;have c1:=(za HA5).one.cell 0;have p0:=(za HA5).two.cell 0;have p1:=(za HA5).two.cell 1;have p2:=(za HA5).two.cell 2;have p3:=(za HA5).two.cell 3;have p4:=(za HA5).two.cell 4;simp only [Pl.Nd.cs,kGs] at c1 p0 p1 p2 p3 p4;go_wp2_with fail
       refine (za HPU _ (za HA5).bel).mono ?_;rintro e wT ⟨v,rfl,own,bT⟩;obtain ⟨a',cap',hvv⟩:=Mem.za4 own;subst hvv;have hs5:=(za HA5).three.lt;have AI:=hide ((za HA5).call bT);have OW:=hide own;clear own bT HA5 HPU c1 p0 p1 p2 p3 p4;have d0:=(za AI).three.cell 0;have d1:=(za AI).three.cell 1;have f0:=(za AI).three.fr 0;have f1:=(za AI).three.fr 1;simp only [kGs] at d0 d1;go_wp2
       refine bodyPost_ret (v:= .agg #[.slice a' (Pl.putL L ⟨np,nk,nd,nt,nm⟩).length cap', .int .i64 0]) (by simp [results,Tryz.results64,go_sem,d0,d1]) rfl ⟨.slice a' (Pl.putL L ⟨np,nk,nd,nt,nm⟩).length cap',by rw [za EC],?_,?_⟩
       ·rw [za EN];exact Mem.zb3 (Mem.za8 (Mem.za8 (za OW) _ _ (by show w.heap.size+1+1<_;omega)) _ _ (by show w.heap.size+1+1<_;omega)) (by omega)
       ·exact ((za AI).bel.setCell (by show w.heap.size≤w.heap.size+1+1;omega) _).setCell (by show w.heap.size≤w.heap.size+1+1;omega) _
    ·have EC:=hide (show C=11 by rw [za HC];exact za E11 (za Q1) hdd ⟨hk1,hov⟩);have EN:=hide (show O=[] by rw [za HO,if_neg (by rw [za EC];decide)]);clear HC HO;clear hov hdd hk1 E6 E12 E11 E9 E0 HAN HPU Q1;go_wp2_with fail
     refine (zj1.zc6 11 _).mono ?_;rintro e wI ⟨rfl,bI⟩;have AI:=hide ((za HA4).call bI);clear bI HA4;have d0:=(za AI).three.cell 0;have d1:=(za AI).three.cell 1;have f0:=(za AI).three.fr 0;have f1:=(za AI).three.fr 1;simp only [kGs] at d0 d1;go_wp2
     refine bodyPost_ret (v:= .agg #[.slice none 0 0, .int .i64 11]) (by simp [results,Tryz.results64,go_sem,d0,d1]) rfl ⟨.slice none 0 0,by rw [za EC],by rw [za EN];exact Mem.zb5 _ _,?_⟩;exact ((za AI).bel.setCell (by show w.heap.size≤w.heap.size+1+1;omega) _).setCell (by show w.heap.size≤w.heap.size+1+1;omega) _
  ·have EC:=hide (show C=6 by rw [za HC];exact za E6 ⟨h0,hfu⟩);have EN:=hide (show O=[] by rw [za HO,if_neg (by rw [za EC];decide)]);clear HC HO;clear hr hfu h0 hUP E6 E12 E11 E9 E0 HDU HOV HAN HPU;go_wp2_with fail
   refine (zj1.zc6 6 _).mono ?_;rintro e wI ⟨rfl,bI⟩;have AI:=hide ((za HA2).call bI);clear bI HA2;have d0:=(za AI).three.cell 0;have d1:=(za AI).three.cell 1;have f0:=(za AI).three.fr 0;have f1:=(za AI).three.fr 1;simp only [kGs] at d0 d1;go_wp2
   refine bodyPost_ret (v:= .agg #[.slice none 0 0, .int .i64 6]) (by simp [results,Tryz.results64,go_sem,d0,d1]) rfl ⟨.slice none 0 0,by rw [za EC],by rw [za EN];exact Mem.zb5 _ _,?_⟩;exact ((za AI).bel.setCell (by show w.heap.size≤w.heap.size+1+1;omega) _).setCell (by show w.heap.size≤w.heap.size+1+1;omega) _
end WPutC
end
section
open Go.RowKit Go.Maps
namespace ze6
set_option linter.unusedSimpArgs false in
set_option maxRecDepth 100000 in
set_option maxHeartbeats 2000000 in
theorem write_specG (a:Option Addr) (cap:Nat) (L:List Pl.Nd) (p d:ByteArray) (t:Int) (w:World) (hl:L.length≤1048576) (hA:zc5.okA w a cap L) (hv:Mem.za2 w a L) (hok:∀n∈L,n.path.size≤1048576∧n.data.size≤1048576) (hp:p.size≤1048576) (hd:d.size≤1048576):
  Calls Tryz.prog 32 #[.agg #[.slice a L.length cap], .string p, .string d, .int .i64 t] w fun e w'=>∃v,e= .returned (.agg #[v, .int .i64 (Pl.chgC L (⟨p,2,d,t,0⟩:Pl.Nd) (Pl.wrtC L (⟨p,2,d,t,0⟩:Pl.Nd)))])∧Mem.ownN w' w.heap.size v (Pl.chgO L (⟨p,2,d,t,0⟩:Pl.Nd) (Pl.wrtC L (⟨p,2,d,t,0⟩:Pl.Nd)) (Pl.putL L (⟨p,2,d,t,0⟩:Pl.Nd)))∧Below w.heap.size w w':=by
 have b0:Below w.heap.size w ((w.alloc (.cells #[.slice a L.length cap] 43)).alloc (.cells #[.slice none 0 0, .int .i64 0] 64)):=(bE0).alloc (by simp) _;have b1:Below w.heap.size w (((w.alloc (.cells #[.slice a L.length cap] 43)).alloc (.cells #[.slice none 0 0, .int .i64 0] 64)).alloc (.cells #[.string p, .int .i64 2, .string d, .int .i64 t, .int .i64 0] 47)):=b0.alloc (by simp;omega) _;have R0:Mem.Blk ((w.alloc (.cells #[.slice a L.length cap] 43)).alloc (.cells #[.slice none 0 0, .int .i64 0] 64)) (w.heap.size+1) #[.slice none 0 0, .int .i64 0] 64:=Mem.zg4 _ _ _
 have T1:Mem.Blk (((w.alloc (.cells #[.slice a L.length cap] 43)).alloc (.cells #[.slice none 0 0, .int .i64 0] 64)).alloc (.cells #[.string p, .int .i64 2, .string d, .int .i64 t, .int .i64 0] 47)) w.heap.size #[.slice a L.length cap] 43:=((Mem.Blk.new _ _ _).alloc _).alloc _;have R1:Mem.Blk (((w.alloc (.cells #[.slice a L.length cap] 43)).alloc (.cells #[.slice none 0 0, .int .i64 0] 64)).alloc (.cells #[.string p, .int .i64 2, .string d, .int .i64 t, .int .i64 0] 47)) (w.heap.size+1) #[.slice none 0 0, .int .i64 0] 64:=R0.alloc _
 have N1:Mem.Blk (((w.alloc (.cells #[.slice a L.length cap] 43)).alloc (.cells #[.slice none 0 0, .int .i64 0] 64)).alloc (.cells #[.string p, .int .i64 2, .string d, .int .i64 t, .int .i64 0] 47)) (w.heap.size+1+1) #[.string p, .int .i64 2, .string d, .int .i64 t, .int .i64 0] 47:=by
  have h:Mem.Blk (((w.alloc (.cells #[.slice a L.length cap] 43)).alloc (.cells #[.slice none 0 0, .int .i64 0] 64)).alloc (.cells #[.string p, .int .i64 2, .string d, .int .i64 t, .int .i64 0] 47)) ((w.alloc (.cells #[.slice a L.length cap] 43)).alloc (.cells #[.slice none 0 0, .int .i64 0] 64)).heap.size #[.string p, .int .i64 2, .string d, .int .i64 t, .int .i64 0] 47:=Mem.Blk.new _ _ _;rw [show ((w.alloc (.cells #[.slice a L.length cap] 43)).alloc (.cells #[.slice none 0 0, .int .i64 0] 64)).heap.size=w.heap.size+1+1 by simp] at h;exact h
 have HPL:=hide (fun W (b:Below w.heap.size w W)=>ya5.zp9 a cap L W hl (Mem.za0 hv b) hok);have HND:=hide (fun W=>WNode.zp9 (⟨p,2,d,t,0⟩:Pl.Nd) W hp hd);have HAT:=hide (fun W (b:Below w.heap.size w W)=>zl8.zt2 a cap L p W hl (Mem.za0 hv b));have HNV:=hide (fun W (b:Below w.heap.size w W)=>Mem.za0 hv b);have HAD:=hide (fun W (b:Below w.heap.size w W) (h40:L.length≤1000) (h8:∀m∈L,m.path.size≤8000) (hn8:p.size≤8000)=>WPutC.zq9 a cap L (⟨p,2,d,t,0⟩:Pl.Nd) W h40 (zc5.zk8 hA b.size) (Mem.za0 hv b) h8 hn8);simp only [Pl.Nd.val] at HND HAD;clear hv hok;by_cases hz:8000<p.size
 ·have t0:(8000:Int)<(p.size:Int):=by omega
  go_enter Tryz.func32,Tryz.ntmps32
  have EC:Hid (Pl.chgC L (⟨p,2,d,t,0⟩:Pl.Nd) (Pl.wrtC L (⟨p,2,d,t,0⟩:Pl.Nd))=2):=hide (Pl.chg_long (by simp;omega));go_wp2_with fail
  refine (zj1.zc6 2 _).mono ?_;rintro e wI ⟨rfl,bI⟩;have bJ:=b0.trans (bI.mono b0.size);have RJ:=R0.call bI;obtain ⟨⟨d0,d1⟩,f0,f1⟩:=jf2 RJ;go_wp2
  refine bodyPost_ret (v:= .agg #[.slice none 0 0, .int .i64 2]) (by simp [results,Tryz.results32,go_sem,d0,d1]) rfl ⟨.slice none 0 0,by rw [za EC],by rw [Pl.chgO,za EC];exact Mem.zb5 _ _,?_⟩;exact (bJ.setCell (by show w.heap.size≤w.heap.size+1;omega) _).setCell (by show w.heap.size≤w.heap.size+1;omega) _
 have t0:¬ (8000:Int)<(p.size:Int):=by omega
 have hz':p.size≤8000:=by omega
 by_cases hy:8000<d.size
 ·have t1:(8000:Int)<(d.size:Int):=by omega
  go_enter Tryz.func32,Tryz.ntmps32
  have EC:Hid (Pl.chgC L (⟨p,2,d,t,0⟩:Pl.Nd) (Pl.wrtC L (⟨p,2,d,t,0⟩:Pl.Nd))=2):=hide (Pl.chg_long (by simp;omega));go_wp2_with fail
  refine (zj1.zc6 2 _).mono ?_;rintro e wI ⟨rfl,bI⟩;have bJ:=b0.trans (bI.mono b0.size);have RJ:=R0.call bI;obtain ⟨⟨d0,d1⟩,f0,f1⟩:=jf2 RJ;go_wp2
  refine bodyPost_ret (v:= .agg #[.slice none 0 0, .int .i64 2]) (by simp [results,Tryz.results32,go_sem,d0,d1]) rfl ⟨.slice none 0 0,by rw [za EC],by rw [Pl.chgO,za EC];exact Mem.zb5 _ _,?_⟩;exact (bJ.setCell (by show w.heap.size≤w.heap.size+1;omega) _).setCell (by show w.heap.size≤w.heap.size+1;omega) _
 have t1:¬ (8000:Int)<(d.size:Int):=by omega
 have hzz:((⟨p,2,d,t,0⟩:Pl.Nd)).path.size≤8000∧((⟨p,2,d,t,0⟩:Pl.Nd)).data.size≤8000:=⟨hz',by show d.size≤8000;omega⟩;clear hy;have c0:=T1.cell 0;simp only [kA0,kA1] at c0;clear hz b0 R0;go_enter Tryz.func32,Tryz.ntmps32
 go_wp2_with fail
 refine (za HPL _ b1).mono ?_;rintro e w1 ⟨rfl,bx⟩;have bw1:=b1.trans (bx.mono b1.size);have T2:=T1.call bx;have R2:=R1.call bx;have N2:=N1.call bx;obtain ⟨n0,n1,n2,n3,n4⟩:=jc5 N2;clear b1 bx T1 R1 N1 c0;cases hP:Pl.zd0 L
 ·skip
  have EC:Hid (Pl.chgC L (⟨p,2,d,t,0⟩:Pl.Nd) (Pl.wrtC L (⟨p,2,d,t,0⟩:Pl.Nd))=1):=hide (Pl.chg_form hzz (.inl hP));go_wp2_with fail
  refine (zj1.zc6 1 _).mono ?_;rintro e wI ⟨rfl,bI⟩;have bJ:=bw1.trans (bI.mono bw1.size);have RJ:=R2.call bI;obtain ⟨⟨d0,d1⟩,f0,f1⟩:=jf2 RJ;go_wp2
  refine bodyPost_ret (v:= .agg #[.slice none 0 0, .int .i64 1]) (by simp [results,Tryz.results32,go_sem,d0,d1]) rfl ⟨.slice none 0 0,by rw [za EC],by rw [Pl.chgO,za EC];exact Mem.zb5 _ _,?_⟩;exact (bJ.setCell (by show w.heap.size≤w.heap.size+1;omega) _).setCell (by show w.heap.size≤w.heap.size+1;omega) _
 go_wp2_with fail
 refine (za HND _).mono ?_;rintro e w2 ⟨rfl,bx⟩;have bw2:=bw1.trans (bx.mono bw1.size);have T3:=T2.call bx;have R3:=R2.call bx;have N3:=N2.call bx;have c0:=T3.cell 0;simp only [kA0,kA1] at c0;clear bw1 bx T2 R2 N2 n0 n1 n2 n3 n4;cases hQ:Pl.za7 (⟨p,2,d,t,0⟩:Pl.Nd)
 ·skip
  have EC:Hid (Pl.chgC L (⟨p,2,d,t,0⟩:Pl.Nd) (Pl.wrtC L (⟨p,2,d,t,0⟩:Pl.Nd))=1):=hide (Pl.chg_form hzz (.inr hQ));go_wp2_with fail
  refine (zj1.zc6 1 _).mono ?_;rintro e wI ⟨rfl,bI⟩;have bJ:=bw2.trans (bI.mono bw2.size);have RJ:=R3.call bI;obtain ⟨⟨d0,d1⟩,f0,f1⟩:=jf2 RJ;go_wp2
  refine bodyPost_ret (v:= .agg #[.slice none 0 0, .int .i64 1]) (by simp [results,Tryz.results32,go_sem,d0,d1]) rfl ⟨.slice none 0 0,by rw [za EC],by rw [Pl.chgO,za EC];exact Mem.zb5 _ _,?_⟩;exact (bJ.setCell (by show w.heap.size≤w.heap.size+1;omega) _).setCell (by show w.heap.size≤w.heap.size+1;omega) _
 go_wp2_with fail
 refine (za HAT _ bw2).mono ?_;rintro e w3 ⟨⟨r,rfl,hr⟩,bx⟩;have bw3:=bw2.trans (bx.mono bw2.size);have T4:=T3.call bx;have R4:=R3.call bx;have N4:=N3.call bx;have c0:=T4.cell 0;simp only [kA0,kA1] at c0;obtain ⟨n0,n1,n2,n3,n4⟩:=jc5 N4;clear bw2 bx T3 R3 N3;have htr:=Pl.zj0 hP;have had:=hide (za HAD _ bw3 (by have :=(Pl.zj4 htr).2.2;omega) (fun m hm=>by have :=Pl.zd1 ((Pl.zj4 htr).2.1 m hm).1;omega) hz');clear HAD htr
 rcases hr.out with ⟨k,m,rfl,hk,h3⟩|⟨rfl,h3⟩
 ·have hlk:k<L.length:=(List.getElem?_eq_some_iff.1 hk).1;have hix:0≤(k:Int)∧(k:Int)<(L.length:Int):=by omega
  have h0:(0:Int)≤(k:Int):=by omega
  obtain ⟨b',o',e, -, -,q1, -, -, -⟩:=za HNV _ bw3 k m hk;cases e
  by_cases hk1:m.kind=1
  ·have EK:(L.find? (fun m=>decide (m.path=p))).any (fun m=>decide (m.kind=1))=true:=by rw [h3];simp [hk1]
   rw [hk1] at q1;have EC:Hid (Pl.chgC L (⟨p,2,d,t,0⟩:Pl.Nd) (Pl.wrtC L (⟨p,2,d,t,0⟩:Pl.Nd))=11):=hide (by rw [Pl.chg_go hzz hP hQ,Pl.wrtC,if_pos EK]);go_wp2_with fail
   refine (zj1.zc6 11 _).mono ?_;rintro e wI ⟨rfl,bI⟩;have bJ:=bw3.trans (bI.mono bw3.size);have RJ:=R4.call bI;obtain ⟨⟨d0,d1⟩,f0,f1⟩:=jf2 RJ;go_wp2
   refine bodyPost_ret (v:= .agg #[.slice none 0 0, .int .i64 11]) (by simp [results,Tryz.results32,go_sem,d0,d1]) rfl ⟨.slice none 0 0,by rw [za EC],by rw [Pl.chgO,za EC];exact Mem.zb5 _ _,?_⟩;exact (bJ.setCell (by show w.heap.size≤w.heap.size+1;omega) _).setCell (by show w.heap.size≤w.heap.size+1;omega) _
  ·have t2:(m.kind==1)=false:=by simpa using hk1
   have EK:¬ (L.find? (fun m=>decide (m.path=p))).any (fun m=>decide (m.kind=1))=true:=by rw [h3];simp [hk1]
   have EC:Hid (Pl.chgC L (⟨p,2,d,t,0⟩:Pl.Nd) (Pl.wrtC L (⟨p,2,d,t,0⟩:Pl.Nd))=Pl.addC L (⟨p,2,d,t,0⟩:Pl.Nd)):=by rw [Pl.chg_go hzz hP hQ,Pl.wrtC,if_neg EK];exact rfl
   clear EK h3 hr hk hk1;have EO:Hid (Pl.chgO L (⟨p,2,d,t,0⟩:Pl.Nd) (Pl.wrtC L (⟨p,2,d,t,0⟩:Pl.Nd)) (Pl.putL L (⟨p,2,d,t,0⟩:Pl.Nd))=Pl.addO L (⟨p,2,d,t,0⟩:Pl.Nd)):=by rw [Pl.chgO,za EC];exact rfl
   go_wp2_with fail
   refine (za had).mono ?_;rintro e w5 ⟨v,rfl,own,b5⟩;obtain ⟨a',cap',rfl⟩:=Mem.za4 own;have OW:=hide own;have HS:=hide R4.lt;have bw5:=bw3.trans (b5.mono bw3.size);have R5:=R4.call b5;obtain ⟨⟨d0,d1⟩,f0,f1⟩:=jf2 R5;clear bw3 b5 T4 R4 N4 own had;generalize Pl.addC L (⟨p,2,d,t,0⟩:Pl.Nd)=ca at EC;generalize Pl.addO L (⟨p,2,d,t,0⟩:Pl.Nd)=oa at EO OW;go_wp2
   refine bodyPost_ret (v:= .agg #[.slice a' oa.length cap', .int .i64 ca]) (by simp [results,Tryz.results32,go_sem,d0,d1]) rfl ⟨.slice a' oa.length cap',by rw [za EC],?_,?_⟩
   ·rw [za EO];exact Mem.zb3 (Mem.za8 (Mem.za8 (za OW) _ _ (za HS)) _ _ (za HS)) (by have :=za HS;omega)
   ·exact (bw5.setCell (by show w.heap.size≤w.heap.size+1;omega) _).setCell (by show w.heap.size≤w.heap.size+1;omega) _
 ·have EK:¬ (L.find? (fun m=>decide (m.path=p))).any (fun m=>decide (m.kind=1))=true:=by rw [h3];simp
  have EC:Hid (Pl.chgC L (⟨p,2,d,t,0⟩:Pl.Nd) (Pl.wrtC L (⟨p,2,d,t,0⟩:Pl.Nd))=Pl.addC L (⟨p,2,d,t,0⟩:Pl.Nd)):=by rw [Pl.chg_go hzz hP hQ,Pl.wrtC,if_neg EK];exact rfl
  clear EK h3 hr;have EO:Hid (Pl.chgO L (⟨p,2,d,t,0⟩:Pl.Nd) (Pl.wrtC L (⟨p,2,d,t,0⟩:Pl.Nd)) (Pl.putL L (⟨p,2,d,t,0⟩:Pl.Nd))=Pl.addO L (⟨p,2,d,t,0⟩:Pl.Nd)):=by rw [Pl.chgO,za EC];exact rfl
  go_wp2_with fail
  refine (za had).mono ?_;rintro e w5 ⟨v,rfl,own,b5⟩;obtain ⟨a',cap',rfl⟩:=Mem.za4 own;have OW:=hide own;have HS:=hide R4.lt;have bw5:=bw3.trans (b5.mono bw3.size);have R5:=R4.call b5;obtain ⟨⟨d0,d1⟩,f0,f1⟩:=jf2 R5;clear bw3 b5 T4 R4 N4 own had;generalize Pl.addC L (⟨p,2,d,t,0⟩:Pl.Nd)=ca at EC;generalize Pl.addO L (⟨p,2,d,t,0⟩:Pl.Nd)=oa at EO OW;go_wp2
  refine bodyPost_ret (v:= .agg #[.slice a' oa.length cap', .int .i64 ca]) (by simp [results,Tryz.results32,go_sem,d0,d1]) rfl ⟨.slice a' oa.length cap',by rw [za EC],?_,?_⟩
  ·rw [za EO];exact Mem.zb3 (Mem.za8 (Mem.za8 (za OW) _ _ (za HS)) _ _ (za HS)) (by have :=za HS;omega)
  ·exact (bw5.setCell (by show w.heap.size≤w.heap.size+1;omega) _).setCell (by show w.heap.size≤w.heap.size+1;omega) _
end ze6
end
end Go.Proofs.YthdhhcgopfgcbaaGreatDoor
