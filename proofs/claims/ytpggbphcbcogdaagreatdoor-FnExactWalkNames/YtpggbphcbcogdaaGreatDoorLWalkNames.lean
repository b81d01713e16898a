import Derived.Test.YtpggbphcbcogdaaGreatDoorWWnS
import Derived.Test.YtpggbphcbcogdaaGreatDoorG46
namespace Go.Proofs.YtpggbphcbcogdaaGreatDoor
open Go.RowKit
namespace fnExactWalkNames
theorem same_ok {D Ts:List Pl.It} {P:List Pl.Nd→Prop} (h:D.map Pl.It.r=Ts.map Pl.It.r) (hp:∀t∈Ts,P t.t.L):∀t∈D,P t.t.L:=fun t ht=>by
 have :t.r∈Ts.map Pl.It.r:=by rw [←h];exact List.mem_map.2 ⟨t,ht,rfl⟩
 obtain ⟨u,hu,e⟩:=List.mem_map.1 this;have e2:u.t.L=t.t.L:=congrArg Prod.snd e;rw [←e2];exact hp u hu
structure Ws (w W:World) (Y:Nat) (u:Value) (K:List ByteArray):Prop where
 bel:Below w.heap.size w W
 own:zf0.Own W w.heap.size u K
 hi:∀g,u.ownBlock=some g→g<Y
theorem Ws.call {w W W':World} {Y:Nat} {u:Value} {K:List ByteArray} (h:Ws w W Y u K) (b:Below W.heap.size W W'):Ws w W' Y u K:=
 ⟨h.bel.trans (b.mono h.bel.size),h.own.call b,h.hi⟩
theorem Ws.grown {w W W':World} {Y:Nat} {u:Value} {K:List ByteArray} {r:Option Nat} (h:Ws w W Y u K) (hY:w.heap.size≤Y) (b:W.grownBy W' r) (hr:∀g,r=some g→Y≤g):Ws w W' Y u K:=
 ⟨h.bel.grown b h.bel.size (fun q hq=>by have :=hr q hq;omega),h.own.grown b (fun g hg e=>by have :=hr _ e.symm;have :=h.hi g hg;omega),h.hi⟩
theorem Ws.band {w W W':World} {Y g X:Nat} {u:Value} {K:List ByteArray} (h:Ws w W Y u K) (b:Mem.Band g X W W') (hY:w.heap.size≤Y) (hg:Y≤g):Ws w W' Y u K:=
 ⟨b.below h.bel (by omega) h.bel.size,b.row h.own (fun q hq=> .inl (by have :=h.hi q hq;omega)),h.hi⟩
set_option linter.unusedSimpArgs false in
set_option maxRecDepth 100000 in
set_option maxHeartbeats 2000000 in
theorem walk (a:Option Addr) (Ts:List Pl.It) (cap:Nat) (p:ByteArray) (w:World) (ok:OpenI.OkI w a Ts) (r0 r1 r2 r3:TypeId) (x0 x1 x2 x3:Value) (hE:zh4.Errs4 w r0 r1 r2 r3 x0 x1 x2 x3):
  Calls Tryz.prog 3 #[.slice a Ts.length cap, .string p] w fun e w'=>e= .returned (.bool true)∧Below w.heap.size w w':=by
 by_cases hpz:1048576<p.size
 ·have qp:(1048576:Int)<(p.size:Int):=by omega
  go_enter Tryz.func3,Tryz.ntmps3
  go_wp2
  go_ret
  exact ⟨rfl,Below.refl _ _⟩
 have qp:¬ (1048576:Int)<(p.size:Int):=by omega
 have hpz:p.size≤1048576:=by omega
 obtain ⟨hl,hv,hok⟩:=ok;have hsz:=hide (WLaw.szItemS_any a cap Ts w hl hv (fun t ht=>⟨(hok t ht).1,fun n hn=>⟨((hok t ht).2 n hn).1,((hok t ht).2 n hn).2.1⟩⟩));have htt:=hide (fun W (b:Below w.heap.size w W) (h2:Ts.length≤1048576) h3=>WLawY.zv7 a cap Ts W h2 (Mem.zd4 hv b) h3)
 have heq:=hide (fun (g g':Nat) (D E:List Pl.It) W (h2:Ts.length≤1048576) (hd:D.length=Ts.length) (hD:D.map Pl.It.r=Ts.map Pl.It.r) (hE:E.map Pl.It.r=Ts.map Pl.It.r) h3 h4 (h5:∀t∈Ts,t.t.L.length≤1048576)=>by
  have :=WLaw.eqItemS_any (some ⟨g,0,none⟩) (some ⟨g',0,none⟩) D.length D.length D E W (by omega) (hE.trans hD.symm) h3 h4 (same_ok (P:=fun L=>L.length≤1048576) hD h5)
  rw [hd] at this;exact this)
 have hs:=hide (fun (g:Nat) (D:List Pl.It) W (h2:Ts.length≤1048576) (hd:D.length=Ts.length) (hD:D.map Pl.It.r=Ts.map Pl.It.r) h3 (h4:(∀t∈Ts,t.t.L.length≤1048576∧∀n∈t.t.L,n.path.size≤1048576∧n.data.size≤1048576))=>by
  have :=WWn.zm4 (some ⟨g,0,none⟩) D.length D p W (by omega) h3 (same_ok (P:=fun L=>L.length≤1048576∧∀n∈L,n.path.size≤1048576∧n.data.size≤1048576) hD h4) hpz (Pl.wnO (Ts.map Pl.It.r) p) (by rw [hD])
  rw [hd] at this;exact this)
 have hi:=hide (fun (g:Nat) (D:List Pl.It) W (h2:Ts.length≤1048576) (hd:D.length=Ts.length) (hD:D.map Pl.It.r=Ts.map Pl.It.r) h3 (h4:(∀t∈Ts,t.t.L.length≤1048576∧∀n∈t.t.L,n.path.size≤1048576∧n.data.size≤1048576)) h5=>by
  have :=WWn.zk6 (some ⟨g,0,none⟩) D.length D p W (by omega) (Nat.le_refl _) h3 (same_ok (P:=fun L=>L.length≤1048576∧∀n∈L,n.path.size≤1048576∧n.data.size≤1048576) hD h4) hpz r0 r1 r2 r3 x0 x1 x2 x3 h5 (Pl.wnO (Ts.map Pl.It.r) p) (by rw [hD])
  rw [hd] at this;exact this)
 have hmx:=hide (fun (g X:Nat) (D:List Pl.It) W (h2:Ts.length≤1048576) (hd:D.length=Ts.length) (hD:D.map Pl.It.r=Ts.map Pl.It.r) (h5:∀t∈Ts,t.t.L.length≤1048576) h3=>by
  have :=WMkJ.zm6 g X D.length D W (by omega) (same_ok (P:=fun L=>L.length≤1048576) hD h5) h3
  rw [hd] at this;exact this)
 have hmo:=hide (fun (v:Value) (B:Nat) (K:List ByteArray) W (hn:K.length≤1000) h3=>zf0.lay_own v K.length B (K.map Value.string) W hn h3);generalize Pl.wnO (Ts.map Pl.It.r) p=K at hs hi;have HE:=hide hE;clear hv hok hE;go_enter Tryz.func3,Tryz.ntmps3
 go_wp2_with fail
 refine (za hsz).mono ?_;rintro e w1 ⟨⟨r,rfl,hr⟩,bw1⟩;clear hsz
 rcases hr with rfl |⟨hr0,hr1,hl2,hz⟩
 ·go_wp2
  go_ret
  exact ⟨rfl,bw1⟩
 have hr2:¬r<0:=by omega
 have HZ:=hide hz;have HZ1:=hide (fun t ht=>(hz t ht).1);clear hz;go_wp2_with fail
 refine (za htt _ bw1 hl2 (za HZ1)).mono ?_;rintro e w2 ⟨g1,D1,rfl, -,hd1,hm1,hn1,b2⟩;have bw2:=bw1.trans (b2.mono bw1.size);have HN1:=hide hn1;have HM1:=hide hm1;clear bw1 b2 hn1 hm1;go_wp2_with fail
 refine (za hs g1 D1 _ hl2 hd1 (za HM1) (za HN1).items (za HZ)).mono ?_;rintro e w3 ⟨gu,cu,rfl,ownw,hkl,b3⟩;have heo:=hide (fun (v u:Value) W h3 h4=>zo3.eq_any v u K W (by omega) h3 h4);have hho:=hide (fun (v:Value) W h3=>zo3.held_any v K.length 1 W (by omega) (by omega) (by omega) h3);have K3:=hide (⟨bw2.trans (b3.mono bw2.size),Mem.zf9 ownw bw2.size,fun g hg=>(World.ownsRow.lt ownw g hg).2⟩:Ws w w3 w3.heap.size (.slice (some ⟨gu,0,none⟩) K.length cu) K);have hYw:w.heap.size≤w3.heap.size:=(za K3).bel.size;generalize Value.slice (some ⟨gu,0,none⟩) K.length cu=u at K3 ⊢;clear bw2 b3 HN1 hs ownw HM1 hd1;go_wp2_with fail
 refine (za htt _ (za K3).bel hl2 (za HZ1)).mono ?_;rintro e w5 ⟨g2,D2,rfl,hg2,hd2,hm2,hr5,b5⟩;have HM2:=hide hm2;have S6:=hide ((za K3).call b5);have hgY:w3.heap.size≤g2:=by omega
 have X6:=hide (WMkJ.has_rows hr5);have N6:=hide hr5.items;have hgX:=(za X6).gx;generalize w3.heap.size=Y at S6 hgY hYw;have hE6:=hide ((za HE).call (za S6).bel);clear K3 b5 hr5 hm2 hg2;go_wp2_with fail
 refine (za hi g2 D2 _ hl2 hd2 (za HM2) (za N6) (za HZ) (za hE6)).mono ?_;rintro e w7 ⟨v,rfl,owng,b7⟩;have S8:=hide ((za S6).call b7);have X8:=hide ((za X6).call b7);have N8:=hide (Mem.zd4 (za N6) b7);have G8:Hid (zf0.Own w7 w5.heap.size v K):=hide owng;clear S6 X6 N6 b7 owng hE6;generalize w5.heap.size=X at X8 G8 hgX ⊢;go_wp2_with fail
 refine (za heo v u _ (za G8).texts (za S8).own.texts).mono ?_;rintro e w6 ⟨rfl,b9⟩;have S9:=hide ((za S8).call b9);have X9:=hide ((za X8).call b9);have N9:=hide (Mem.zd4 (za N8) b9);have G9:=hide ((za G8).call b9);clear S8 X8 N8 G8 b9;go_wp2_with fail
 refine (za htt _ (za S9).bel hl2 (za HZ1)).mono ?_;rintro e wA ⟨g3,D3,rfl, -,hd3,hm3,hn3,bA⟩;have SA:=hide ((za S9).call bA);have XA:=hide ((za X9).call bA);have NA:=hide (Mem.zd4 (za N9) bA);have GA:=hide ((za G9).call bA);have HN3:=hide hn3.items;have HM3:=hide hm3;clear S9 X9 N9 G9 bA hn3 hm3;go_wp2_with fail
 refine (za heq g2 g3 D2 D3 _ hl2 hd2 (za HM2) (za HM3) (za NA) (za HN3) (za HZ1)).mono ?_;rintro e wB ⟨rfl,bB⟩;have SB:=hide ((za SA).call bB);have XB:=hide ((za XA).call bB);have GB:=hide ((za GA).call bB);clear SA XA NA GA bB HN3 HM3 hd3 heq;go_wp2_with fail
 refine (za hmx g2 X D2 _ hl2 hd2 (za HM2) (za HZ1) (za XB)).mono ?_;rintro e w11 ⟨⟨kk,rfl,hkk⟩,hband⟩;have S12:=hide ((za SB).band hband hYw hgY);have G12:Hid (zf0.Own w11 X v K):=hide (hband.row (za GB) (fun g hg=> .inr ((za GB).lt g hg).1));have HK0:¬ ((kk:Nat):Int)<0:=by omega
 clear SB XB GB hband hmx hkk;go_wp2_with fail
 refine (za heo v u _ (za G12).texts (za S12).own.texts).mono ?_;rintro e w13 ⟨rfl,b13⟩;have S13:=hide ((za S12).call b13);have G14:=hide ((za G12).call b13);clear S12 G12 b13;go_wp2_with fail
 refine (za hmo v _ K _ (by omega) (za G14)).mono ?_;rintro e w15 ⟨rfl,hn15,hg15⟩;have S15:=hide ((za S13).grown hYw hg15 (fun g hg=>by have :=((za G14).lt g hg).1;omega));have M16:=hide hn15;have HM0:¬ ((1+K.length:Nat):Int)<0:=by omega
 clear S13 G14 hn15 hg15 hmo;generalize 1+K.length=mm at HM0 hho ⊢;go_wp2_with fail
 refine (za hho v _ (za M16)).mono ?_;rintro e w17 ⟨rfl,b17⟩;have S17:=hide ((za S15).call b17);have M17:=hide (Mem.zl5 (za M16) b17);clear S15 M16 b17;go_wp2_with fail
 refine (za htt _ (za S17).bel hl2 (za HZ1)).mono ?_;rintro e w18 ⟨g4,D4,rfl, -,hd4,hm4,hn4,b18⟩;have S18:=hide ((za S17).call b18);have M18:=hide (Mem.zl5 (za M17) b18);have HN4:=hide hn4.items;have HM4:=hide hm4;have hE18:=hide ((za HE).call (za S18).bel);clear S17 M17 b18 hn4 hm4;go_wp2_with fail
 refine (za hi g4 D4 _ hl2 hd4 (za HM4) (za HN4) (za HZ) (za hE18)).mono ?_;rintro e w19 ⟨vh,rfl,ownh,b19⟩;have S20:=hide ((za S18).call b19);have M20:=hide (Mem.zl5 (za M18) b19);have OH:=hide (Mem.ze4 ownh);clear S18 M18 b19 ownh HN4 hE18;go_wp2_with fail
 refine (za heo vh u _ (za OH) (za S20).own.texts).mono ?_;rintro e w21 ⟨rfl,b21⟩;have S21:=hide ((za S20).call b21);have M21:=hide (Mem.zl5 (za M20) b21);clear S20 M20 b21 OH;go_wp2_with fail
 refine (za hho v _ (za M21)).mono ?_;rintro e w22 ⟨rfl,b22⟩;have bfin:=((za S21).call b22).bel;clear S21 M21 b22;go_wp2
 go_ret
 exact ⟨rfl,bfin⟩
end fnExactWalkNames
end Go.Proofs.YtpggbphcbcogdaaGreatDoor

