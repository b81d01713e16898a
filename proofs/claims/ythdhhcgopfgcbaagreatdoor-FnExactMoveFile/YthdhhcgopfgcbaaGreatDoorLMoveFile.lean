import Derived.Test.YthdhhcgopfgcbaaGreatDoorWMoveS
import Derived.Test.YthdhhcgopfgcbaaGreatDoorG51
namespace Go.Proofs.YthdhhcgopfgcbaaGreatDoor
open Go.RowKit
namespace fnExactMoveFile
theorem same_ok {D Ts:List Pl.It} {P:List Pl.Nd→Prop} (h:D.map Pl.It.r=Ts.map Pl.It.r) (hp:∀t∈Ts,P t.t.L):∀t∈D,P t.t.L:=fun t ht=>by
 have :t.r∈Ts.map Pl.It.r:=by rw [←h];exact List.mem_map.2 ⟨t,ht,rfl⟩
 obtain ⟨u,hu,e⟩:=List.mem_map.1 this;have e2:u.t.L=t.t.L:=congrArg Prod.snd e;rw [←e2];exact hp u hu
theorem rows_ok {W:World} {g:Nat} {D:List Pl.It} (h:WLawY.Rows W g D):∀t∈D,zc5.okA W t.t.a t.t.cap t.t.L:=fun t ht=>by
 obtain ⟨j,hj⟩:=List.getElem?_of_mem ht;obtain ⟨q,h1, -,h2,cs, -, -,h3⟩:=h.each j t hj;exact .inr ⟨q,0,h1,h2,by omega⟩
set_option linter.unusedSimpArgs false in
set_option maxRecDepth 100000 in
set_option maxHeartbeats 2000000 in
theorem walk (a:Option Addr) (Ts:List Pl.It) (cap:Nat) (p:ByteArray) (d:ByteArray) (w:World) (ok:OpenI.OkI w a Ts) (x:Nat→Addr) (hE:WIs.Six w x):
  Calls Tryz.prog 3 #[.slice a Ts.length cap, .string p, .string d] w fun e w'=>e= .returned (.bool true)∧Below w.heap.size w w':=by
 by_cases hpz:1048576<p.size
 ·have qp:(1048576:Int)<(p.size:Int):=by omega
  go_enter Tryz.func3,Tryz.ntmps3
  go_wp2
  go_ret
  exact ⟨rfl,Below.refl _ _⟩
 have qp:¬ (1048576:Int)<(p.size:Int):=by omega
 have hpz:p.size≤1048576:=by omega
 by_cases hdz:1048576<d.size
 ·have qd:(1048576:Int)<(d.size:Int):=by omega
  go_enter Tryz.func3,Tryz.ntmps3
  go_wp2
  go_ret
  exact ⟨rfl,Below.refl _ _⟩
 have qd:¬ (1048576:Int)<(d.size:Int):=by omega
 have hdz:d.size≤1048576:=by omega
 obtain ⟨hl,hv,hok⟩:=ok;have hsz:=hide (WLaw.szItemS_any a cap Ts w hl hv (fun t ht=>⟨(hok t ht).1,fun n hn=>⟨((hok t ht).2 n hn).1,((hok t ht).2 n hn).2.1⟩⟩));have htt:=hide (fun W (b:Below w.heap.size w W) (h2:Ts.length≤1048576) h3=>WLawY.yj2 a cap Ts W h2 (Mem.zb2 hv b) h3)
 have heq:=hide (fun (g g':Nat) (D E:List Pl.It) W (h2:Ts.length≤1048576) (hd:D.length=Ts.length) (hD:D.map Pl.It.r=Ts.map Pl.It.r) (hE:E.map Pl.It.r=Ts.map Pl.It.r) h3 h4 (h5:∀t∈Ts,t.t.L.length≤1048576)=>by
  have :=WLaw.yk1 (some ⟨g,0,none⟩) (some ⟨g',0,none⟩) D.length D.length D E W (by omega) (hE.trans hD.symm) h3 h4 (same_ok (P:=fun L=>L.length≤1048576) hD h5)
  rw [hd] at this;exact this)
 have hs:=hide (fun (g:Nat) (D:List Pl.It) W (h2:Ts.length≤1048576) (hd:D.length=Ts.length) (hD:D.map Pl.It.r=Ts.map Pl.It.r) h3 (h4:(∀t∈Ts,t.t.L.length≤1048576∧∀n∈t.t.L,n.path.size≤1048576∧n.data.size≤1048576)) (hR:∀t∈D,zc5.okA W t.t.a t.t.cap t.t.L)=>by
  have :=zi6.move_specN g 0 D.length D p d W (by omega) h3 (same_ok (P:=fun L=>L.length≤1048576∧∀n∈L,n.path.size≤1048576∧n.data.size≤1048576) hD h4) hR hpz hdz
  rw [hd,hD] at this;exact this)
 have hi:=hide (fun (g:Nat) (D:List Pl.It) W (h2:Ts.length≤1048576) (hd:D.length=Ts.length) (hD:D.map Pl.It.r=Ts.map Pl.It.r) h3 (h4:(∀t∈Ts,t.t.L.length≤1048576∧∀n∈t.t.L,n.path.size≤1048576∧n.data.size≤1048576)) h5=>by
  have :=zp2.move_implN (some ⟨g,0,none⟩) D.length D p d W (by omega) (Nat.le_refl _) h3 (same_ok (P:=fun L=>L.length≤1048576∧∀n∈L,n.path.size≤1048576∧n.data.size≤1048576) hD h4) x h5
  rw [hd,hD] at this;exact this)
 have hmx:=hide (fun (g X:Nat) (D:List Pl.It) W (h2:Ts.length≤1048576) (hd:D.length=Ts.length) (hD:D.map Pl.It.r=Ts.map Pl.It.r) (h5:∀t∈Ts,t.t.L.length≤1048576) h3=>by
  have :=WMkJ.zm2 g X D.length D W (by omega) (same_ok (P:=fun L=>L.length≤1048576) hD h5) h3
  rw [hd] at this;exact this)
 have hol0:=(Pl.mov_le (Ts.map Pl.It.r) p d);generalize (Pl.movN (Ts.map Pl.It.r) p d)=NE at hs hi hol0;generalize NE.2=O at hs hi hol0;generalize NE.1=c at hs hi;have heo:=hide (WMkR.eq_any O hol0.1 hol0.2);have hmo:=hide (WMkR.zm2 O hol0.1 hol0.2);have hho:=hide (WMkR.zt5 O hol0.1 hol0.2);have HE:=hide hE;clear hv hok hE hol0;go_enter Tryz.func3,Tryz.ntmps3
 go_wp2_with fail
 refine (za hsz).mono ?_;rintro e w1 ⟨⟨r,rfl,hr⟩,bw1⟩;clear hsz
 rcases hr with rfl |⟨hr0,hr1,hl2,hz⟩
 ·go_wp2
  go_ret
  exact ⟨rfl,bw1⟩
 have hr2:¬r<0:=by omega
 have HZ:=hide hz;have HZ1:=hide (fun t ht=>(hz t ht).1);clear hz;go_wp2_with fail
 refine (za htt _ bw1 hl2 (za HZ1)).mono ?_;rintro e w2 ⟨g1,D1,rfl, -,hd1,hm1,hn1,b2⟩;have bw2:=bw1.trans (b2.mono bw1.size);have HN1:=hide hn1;have HM1:=hide hm1;clear bw1 b2 hn1 hm1;go_wp2_with fail
 refine (za hs g1 D1 _ hl2 hd1 (za HM1) (za HN1).items (za HZ) (rows_ok (za HN1))).mono ?_;rintro e w3 ⟨⟨vw,U,rfl,ownw,hrw⟩,b3⟩;obtain ⟨aw,cw,rfl⟩:=Mem.za4 ownw.row;rw [WMkR.yb7 hrw] at ownw ⊢;have bw3:=bw2.trans (b3.mono bw2.size)
 have S3:WMkR.OW w (w3.alloc (.cells #[.slice aw O.length cw, .int .i64 c] 26)) w3.heap.size w2.heap.size aw cw U O c:=
  ⟨bw3.alloc bw3.size _,Mem.Blk.new _ _ _,ownw.call (bE0),hrw,fun g hg=>(ownw.lt.1 g hg).2,fun x hx g hg=>(ownw.mem_lt x hx g hg).2,bw3.size⟩
 have hY:(w3.alloc (.cells #[.slice aw O.length cw, .int .i64 c] 26)).heap.size=w3.heap.size+1:=by simp
 clear bw2 b3 HN1 hs ownw HM1 hd1 bw3 hrw;have K3:=hide S3;clear S3;go_wp2_with fail
 refine (za htt _ (za K3).bel hl2 (za HZ1)).mono ?_;rintro e w5 ⟨g2,D2,rfl,hg2,hd2,hm2,hr5,b5⟩;have HM2:=hide hm2;have S6:=hide ((za K3).call b5);have hgY:w3.heap.size<g2:=by omega
 have X6:=hide (WMkJ.has_rows hr5);have N6:=hide hr5.items;have hgX:=(za X6).gx;generalize w3.heap.size=Y at S6 hgY ⊢;generalize w2.heap.size=B1 at S6;have hE6:=hide ((za HE).call (za S6).bel);clear K3 b5 hr5 hm2 hg2 hY;go_wp2_with fail
 refine (za hi g2 D2 _ hl2 hd2 (za HM2) (za N6) (za HZ) (za hE6)).mono ?_;rintro e w7 ⟨⟨vg,T,rfl,owng,hrg⟩,b7⟩;obtain ⟨ag,cg,rfl⟩:=Mem.za4 owng.row;rw [WMkR.yb7 hrg] at owng ⊢;have b8:Below w5.heap.size w5 (w7.alloc (.cells #[.slice ag O.length cg, .int .i64 c] 26)):=b7.alloc b7.size _;have S8:=hide ((za S6).call b8);have X8:=hide ((za X6).call b8);have N8:=hide (Mem.zb2 (za N6) b8);have hX7:=b7.size;have G8:Hid (WMkR.G0 (w7.alloc (.cells #[.slice ag O.length cg, .int .i64 c] 26)) w7.heap.size w5.heap.size ag cg T O c):=⟨Mem.Blk.new _ _ _,owng.call (bE0),hrg,fun g hg=>(owng.lt.1 g hg).2,fun x hx g hg=>(owng.mem_lt x hx g hg).2,hX7⟩;have HRG:=hide hrg;clear S6 X6 N6 b8 b7 owng hE6 hrg;generalize w5.heap.size=X at X8 G8 hX7 hgX ⊢;have d0:=(za S8).var.cell 0;have d1:=(za S8).var.cell 1;simp only [kGs] at d0 d1;go_wp2_with fail
 refine (za heo ag aw cg cw c T U _ (za HRG) (za S8).reads (za G8).items (za S8).items).mono ?_;rintro e w6 ⟨rfl,b9⟩;have S9:=hide ((za S8).call b9);have X9:=hide ((za X8).call b9);have N9:=hide (Mem.zb2 (za N8) b9);have G9:=hide ((za G8).call b9);generalize w7.heap.size=G at G9 hX7 ⊢;clear S8 X8 N8 G8 b9 d0 d1;go_wp2_with fail
 refine (za htt _ (za S9).bel hl2 (za HZ1)).mono ?_;rintro e wA ⟨g3,D3,rfl, -,hd3,hm3,hn3,bA⟩;have SA:=hide ((za S9).call bA);have XA:=hide ((za X9).call bA);have NA:=hide (Mem.zb2 (za N9) bA);have GA:=hide ((za G9).call bA);have HN3:=hide hn3.items;have HM3:=hide hm3;clear S9 X9 N9 G9 bA hn3 hm3;go_wp2_with fail
 refine (za heq g2 g3 D2 D3 _ hl2 hd2 (za HM2) (za HM3) (za NA) (za HN3) (za HZ1)).mono ?_;rintro e wB ⟨rfl,bB⟩;have SB:=hide ((za SA).call bB);have XB:=hide ((za XA).call bB);have GB:=hide ((za GA).call bB);clear SA XA NA GA bB HN3 HM3 hd3 heq;go_wp2_with fail
 refine (za hmx g2 X D2 _ hl2 hd2 (za HM2) (za HZ1) (za XB)).mono ?_;rintro e w11 ⟨⟨kk,rfl,hkk⟩,hband⟩;have S12:=hide ((za SB).band hband hgY);have G12:=hide ((za GB).band hband);have HK0:¬ ((kk:Nat):Int)<0:=by omega
 clear SB XB GB hband hmx hkk;have d0:=(za S12).var.cell 0;have d1:=(za S12).var.cell 1;have e0:=(za G12).var.cell 0;have e1:=(za G12).var.cell 1;simp only [kGs] at d0 d1 e0 e1;go_wp2_with fail
 refine (za heo ag aw cg cw c T U _ (za HRG) (za S12).reads (za G12).items (za S12).items).mono ?_;rintro e w13 ⟨rfl,b13⟩;have S13:=hide ((za S12).call b13);have G14:=hide ((za G12).call b13);clear S12 G12 b13 d0 d1 e0 e1;have e0:=(za G14).var.cell 0;have e1:=(za G14).var.cell 1;simp only [kGs] at e0 e1;go_wp2_with fail
 refine (za hmo ag cg X G c T _ (za G14)).mono ?_;rintro e w15 ⟨rfl,M15,hb15⟩;have S15:=hide ((za S13).band hb15 (by omega));have HM0:¬ ((Pl.kAt 1 T O.length:Nat):Int)<0:=by omega
 clear S13 G14 hb15 hmo e0 e1;have e0:=M15.var.cell 0;have e1:=M15.var.cell 1;simp only [kGs] at e0 e1;have M16:=hide M15;clear M15;have hh2:=hide (fun W h=>za hho ag cg G c T W (za HRG) h);generalize Pl.kAt 1 T O.length=mm at HM0 hh2 ⊢;clear hho;go_wp2_with fail
 refine (za hh2 _ (za M16)).mono ?_;rintro e w17 ⟨rfl,b17⟩;have S17:=hide ((za S15).call b17);have M17:=hide ((za M16).call b17);clear S15 M16 b17 e0 e1;go_wp2_with fail
 refine (za htt _ (za S17).bel hl2 (za HZ1)).mono ?_;rintro e w18 ⟨g4,D4,rfl, -,hd4,hm4,hn4,b18⟩;have S18:=hide ((za S17).call b18);have M18:=hide ((za M17).call b18);have HN4:=hide hn4.items;have HM4:=hide hm4;have hE18:=hide ((za HE).call (za S18).bel);clear S17 M17 b18 hn4 hm4;go_wp2_with fail
 refine (za hi g4 D4 _ hl2 hd4 (za HM4) (za HN4) (za HZ) (za hE18)).mono ?_;rintro e w19 ⟨⟨vh,V,rfl,ownh,hrh⟩,b19⟩;obtain ⟨ah,ch,rfl⟩:=Mem.za4 ownh.row;rw [WMkR.yb7 hrh] at ownh ⊢;have b20:Below w19.heap.size w19 (w19.alloc (.cells #[.slice ah O.length ch, .int .i64 c] 26)):=bE0;have S20:=hide (((za S18).call b19).call b20);have M20:=hide (((za M18).call b19).call b20);have OH:=hide (ownh.call (W':=w19.alloc (.cells #[.slice ah O.length ch, .int .i64 c] 26)) (bE0)).items.2;have HRH:=hide hrh;clear S18 M18 b19 b20 ownh HN4 hE18 hrh;have d0:=(za S20).var.cell 0;have d1:=(za S20).var.cell 1;simp only [kGs] at d0 d1;go_wp2_with fail
 refine (za heo ah aw ch cw c V U _ (za HRH) (za S20).reads (za OH) (za S20).items).mono ?_;rintro e w21 ⟨rfl,b21⟩;have S21:=hide ((za S20).call b21);have M21:=hide ((za M20).call b21);clear S20 M20 b21 d0 d1 OH;have e0:=(za M21).var.cell 0;have e1:=(za M21).var.cell 1;simp only [kGs] at e0 e1;go_wp2_with fail
 refine (za hh2 _ (za M21)).mono ?_;rintro e w22 ⟨rfl,b22⟩;have bfin:=((za S21).call b22).bel;clear S21 M21 b22 e0 e1;go_wp2
 go_ret
 exact ⟨rfl,bfin⟩
end fnExactMoveFile
end Go.Proofs.YthdhhcgopfgcbaaGreatDoor

