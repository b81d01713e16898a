import Derived.Test.YtpakookhgpphaaaDoorWWkS
import Derived.Test.YtpakookhgpphaaaDoorWWkF
import Derived.Test.YtpakookhgpphaaaDoorG42
import Derived.Test.YtpakookhgpphaaaDoorG43
import Derived.Test.YtpakookhgpphaaaDoorG44
namespace Go.Proofs.YtpakookhgpphaaaDoor
open Go.RowKit
namespace fnExactWalk
theorem same_ok {D Ts:List Pl.It} {P:List Pl.Nd→Prop} (h:D.map Pl.It.r=Ts.map Pl.It.r) (hp:∀t∈Ts,P t.t.L):∀t∈D,P t.t.L:=fun t ht=>by
 have :t.r∈Ts.map Pl.It.r:=by rw [←h];exact List.mem_map.2 ⟨t,ht,rfl⟩
 obtain ⟨u,hu,e⟩:=List.mem_map.1 this;have e2:u.t.L=t.t.L:=congrArg Prod.snd e;rw [←e2];exact hp u hu
set_option linter.unusedSimpArgs false in
set_option maxRecDepth 100000 in
set_option maxHeartbeats 2000000 in
theorem walk (a:Option Addr) (Ts:List Pl.It) (cap:Nat) (p:ByteArray) (w:World) (ok:zn2.OkI w a Ts) (_okp:p.size≤maxLen) (x:Nat→Addr) (hE:WIs.Six w x):
  Calls Tryd.prog 3 #[.slice a Ts.length cap, .string p] w fun e w'=>e= .returned (.bool true)∧Below w.heap.size w w':=by
 obtain ⟨hl,hv,hok⟩:=ok;by_cases hpl:(1048576:Int)<(p.size:Int)
 ·clear hv hok hE hl;go_enter Tryd.func3,Tryd.ntmps3
  go_wp2
  go_ret
  exact ⟨rfl,Below.refl _ _⟩
 have hp:p.size≤1048576:=by omega
 have hsz:=hide (WLaw.zz0 a cap Ts w hl hv (fun t ht=>⟨(hok t ht).1,fun n hn=>⟨((hok t ht).2 n hn).1,((hok t ht).2 n hn).2.1⟩⟩));have htt:=hide (fun W (b:Below w.heap.size w W) (h2:Ts.length≤1048576) h3=>WLaw.zy4 a cap Ts W h2 (Mem.zc2 hv b) h3)
 have heq:=hide (fun (g g':Nat) (D E:List Pl.It) W (h2:Ts.length≤1048576) (hd:D.length=Ts.length) (hD:D.map Pl.It.r=Ts.map Pl.It.r) (hE:E.map Pl.It.r=Ts.map Pl.It.r) h3 h4 (h5:∀t∈Ts,t.t.L.length≤1048576)=>by
  have :=WLaw.eqItemS_any (some ⟨g,0,none⟩) (some ⟨g',0,none⟩) D.length D.length D E W (by omega) (hE.trans hD.symm) h3 h4 (same_ok (P:=fun L=>L.length≤1048576) hD h5)
  rw [hd] at this;exact this)
 have hs:=hide (fun (g:Nat) (D:List Pl.It) W (h2:Ts.length≤1048576) (hd:D.length=Ts.length) (hD:D.map Pl.It.r=Ts.map Pl.It.r) h3 (h4:∀t∈Ts,t.t.L.length≤1048576∧∀n∈t.t.L,n.path.size≤1048576∧n.data.size≤1048576)=>by
  have :=WPick.walkS_any (some ⟨g,0,none⟩) D.length D p W (by omega) h3 (same_ok (P:=fun L=>L.length≤1048576∧∀n∈L,n.path.size≤1048576∧n.data.size≤1048576) hD h4) hp (Pl.walkR (Ts.map Pl.It.r) p) (by rw [hD])
  rw [hd] at this;exact this)
 have hi:=hide (fun (g:Nat) (D:List Pl.It) W (h2:Ts.length≤1048576) (hd:D.length=Ts.length) (hD:D.map Pl.It.r=Ts.map Pl.It.r) h3 (h4:∀t∈Ts,t.t.L.length≤1048576∧∀n∈t.t.L,n.path.size≤1048576∧n.data.size≤1048576) h5=>by
  have :=WWk.walkI_any (some ⟨g,0,none⟩) D.length D p W (by omega) (Nat.le_refl _) h3 (same_ok (P:=fun L=>L.length≤1048576∧∀n∈L,n.path.size≤1048576∧n.data.size≤1048576) hD h4) hp x h5 (Pl.walkR (Ts.map Pl.It.r) p) (by rw [hD])
  rw [hd] at this;exact this)
 generalize Pl.walkR (Ts.map Pl.It.r) p=V at hs hi;obtain ⟨n,c⟩:=V;simp only at hs hi;have heo:=hide (fun W=>WGetT.eqO_any n c W);have HE:=hide hE;clear hv hok hE;go_enter Tryd.func3,Tryd.ntmps3
 go_wp2_with fail
 refine (za hsz).mono ?_;rintro e w1 ⟨⟨r,rfl,hr⟩,bw1⟩;clear hsz
 rcases hr with rfl |⟨hr0,hr1,hl2,hz⟩
 ·go_wp2
  go_ret
  exact ⟨rfl,bw1⟩
 have hr2:¬r<0:=by omega
 have HZ:=hide hz;have HZ1:=hide (fun t ht=>(hz t ht).1);clear hz;go_wp2_with fail
 refine (za htt _ bw1 hl2 (za HZ1)).mono ?_;rintro e w2 ⟨g1,D1,rfl, -,hd1,hm1,hn1,b2⟩;have bw2:=bw1.trans (b2.mono bw1.size);have HN1:=hide hn1;have HM1:=hide hm1;clear bw1 b2 hn1 hm1;go_wp2_with fail
 refine (za hs g1 D1 _ hl2 hd1 (za HM1) (za HN1) (za HZ)).mono ?_;rintro e w3 ⟨rfl,b3⟩;have bw3:=bw2.trans (b3.mono bw2.size);have bA:Below w3.heap.size w3 (w3.alloc (.cells #[.string n.path, .int .i64 n.kind, .string n.data, .int .i64 n.time, .int .i64 n.mark, .int .i64 c] 27)):=(Below.refl _ _).alloc (Nat.le_refl _) _;have bw3a:=bw3.trans (bA.mono bw3.size);have Y3:=Mem.Blk.new w3 #[.string n.path, .int .i64 n.kind, .string n.data, .int .i64 n.time, .int .i64 n.mark, .int .i64 c] 27;clear bw2 b3 HN1 HM1 hd1 hs bA;go_wp2_with fail
 generalize w3.alloc (.cells #[.string n.path, .int .i64 n.kind, .string n.data, .int .i64 n.time, .int .i64 n.mark, .int .i64 c] 27)=w3a at bw3a Y3 ⊢;generalize w3.heap.size=X3 at Y3 ⊢;refine (za htt _ bw3a hl2 (za HZ1)).mono ?_;rintro e w4 ⟨g2,D2,rfl, -,hd2,hm2,hn2,b4⟩;have bw4:=bw3a.trans (b4.mono bw3a.size);have Y4:=Y3.call b4;have HN2:=hide hn2;have HM2:=hide hm2;have hE4:=hide ((za HE).call bw4);clear bw3 bw3a b4 hn2 hm2 Y3;go_wp2_with fail
 refine (za hi g2 D2 _ hl2 hd2 (za HM2) (za HN2) (za HZ) (za hE4)).mono ?_;rintro e w6 ⟨rfl,b6⟩;have bw6:=bw4.trans (b6.mono bw4.size);have HN6:=hide (Mem.zc2 (za HN2) b6);have Y6:=Y4.call b6;have bA:Below w6.heap.size w6 (w6.alloc (.cells #[.string n.path, .int .i64 n.kind, .string n.data, .int .i64 n.time, .int .i64 n.mark, .int .i64 c] 27)):=(Below.refl _ _).alloc (Nat.le_refl _) _;have bw6a:=bw6.trans (bA.mono bw6.size);have X7:=Mem.Blk.new w6 #[.string n.path, .int .i64 n.kind, .string n.data, .int .i64 n.time, .int .i64 n.mark, .int .i64 c] 27;have Y7:=Y6.call bA;have HN6a:=hide (Mem.zc2 (za HN6) bA);have y0:=(Y7.cell 0);have x0:=(X7.cell 0);have y1:=(Y7.cell 1);have x1:=(X7.cell 1);have y2:=(Y7.cell 2);have x2:=(X7.cell 2);have y3:=(Y7.cell 3);have x3:=(X7.cell 3);have y4:=(Y7.cell 4);have x4:=(X7.cell 4);have y5:=(Y7.cell 5);have x5:=(X7.cell 5)
 simp only [kGs] at y0 x0 y1 x1 y2 x2 y3 x3 y4 x4 y5 x5;clear bw4 b6 HN2 hE4 hi Y4 Y6 bA HN6 bw6;go_wp2_with fail
 generalize w6.alloc (.cells #[.string n.path, .int .i64 n.kind, .string n.data, .int .i64 n.time, .int .i64 n.mark, .int .i64 c] 27)=w6a at bw6a X7 Y7 HN6a y0 y1 y2 y3 y4 y5 x0 x1 x2 x3 x4 x5 ⊢;refine (za heo _).mono ?_;rintro e w6b ⟨rfl,b6b⟩;have bw6b:=bw6a.trans (b6b.mono bw6a.size);have HN6:=hide (Mem.zc2 (za HN6a) b6b);clear HN6a bw6a b6b X7 Y7 y0 y1 y2 y3 y4 y5 x0 x1 x2 x3 x4 x5 heo;go_wp2_with fail
 refine (za htt _ bw6b hl2 (za HZ1)).mono ?_;rintro e w7 ⟨g3,D3,rfl, -,hd3,hm3,hn3,b7⟩;have bw7:=bw6b.trans (b7.mono bw6b.size);have HN7:=hide (Mem.zc2 (za HN6) b7);have HN3:=hide hn3;have HM3:=hide hm3;clear bw6b b7 HN6 hn3 hm3;go_wp2_with fail
 refine (za heq g2 g3 D2 D3 _ hl2 hd2 (za HM2) (za HM3) (za HN7) (za HN3) (za HZ1)).mono ?_;rintro e w8 ⟨rfl,b8⟩;have bw8:=bw7.trans (b8.mono bw7.size);clear bw7 b8 HN7 HN3 HM3 HM2;go_wp2
 go_ret
 exact ⟨rfl,bw8⟩
end fnExactWalk
end Go.Proofs.YtpakookhgpphaaaDoor

