/- Several texts of one claim in one file: WWriting, WRemoving, WGetH, WGetW, WGetI. -/
import Derived.Test.YthdhhcgopfgcbaaGreatDoorG17
import Derived.Test.YthdhhcgopfgcbaaGreatDoorG19
namespace Go.Proofs.YthdhhcgopfgcbaaGreatDoor
section
open Go.RowKit
namespace ze6
set_option linter.unusedSimpArgs false in
set_option maxRecDepth 100000 in
theorem writing_any (p d:ByteArray) (t:Int) (w:World):
  Calls Tryz.prog 48 #[.string p, .string d, .int .i64 t] w fun e w'=>e= .returned (.agg (chg ⟨p,2,d,t,0⟩ 83 84))∧Below w.heap.size w w':=by
 go_enter Tryz.func48,Tryz.ntmps48
 go_wp2
 refine bodyPost_ret (v:= .agg (chg ⟨p,2,d,t,0⟩ 83 84)) (by simp [results,Tryz.results48,go_sem]) rfl ⟨rfl,?_⟩
 repeat first |exact (Below.refl _ _).alloc (Nat.le_refl _) _|refine Below.setCell ?_ (Nat.le_refl _) _
end ze6
end
section
open Go.RowKit
namespace ze6
set_option linter.unusedSimpArgs false in
set_option maxRecDepth 100000 in
theorem removing_any (p:ByteArray) (w:World):
  Calls Tryz.prog 50 #[.string p] w fun e w'=>e= .returned (.agg (chg ⟨p,1,⟨#[]⟩,0,0⟩ 93 94))∧Below w.heap.size w w':=by
 go_enter Tryz.func50,Tryz.ntmps50
 go_wp2
 refine bodyPost_ret (v:= .agg (chg ⟨p,1,⟨#[]⟩,0,0⟩ 93 94)) (by simp [results,Tryz.results50,go_sem]) rfl ⟨rfl,?_⟩
 repeat first |exact (Below.refl _ _).alloc (Nat.le_refl _) _|refine Below.setCell ?_ (Nat.le_refl _) _
end ze6
end
section
open Go.RowKit
namespace WGetT
def Held (w W:World):Prop:=Below w.heap.size w W∧W.heap[w.heap.size+1]? =some (.cells #[.string ⟨#[]⟩, .int .i64 0, .string ⟨#[]⟩, .int .i64 0, .int .i64 0, .int .i64 0] 91 (0,0))
theorem Held.call {w W W':World} (h:Held w W) (b:Below W.heap.size W W'):Held w W':=⟨h.1.trans (b.mono h.1.size),(b.block _ (Array.getElem?_eq_some_iff.1 h.2).1).trans h.2⟩
theorem Held.at {w W:World} (h:Held w W) (k:Nat):W.cell? ⟨w.heap.size+1,k,none⟩=(#[.string ⟨#[]⟩, .int .i64 0, .string ⟨#[]⟩, .int .i64 0, .int .i64 0, .int .i64 0]:Array Value)[k]?:=cell_of_row W _ k _ _ (0,0) h.2
theorem Held.fr {w W:World} (h:Held w W) (k:Nat):W.frozen? ⟨w.heap.size+1,k,none⟩=false:=Mem.zg1 h.2
end WGetT
end
section
open Go.RowKit Go.Maps
namespace WGetT
structure WithIs (L:List Pl.Nd) (p:ByteArray) (x:Nat→Addr) (w w':World) (e:Ending):Prop where
 out:(∃i,i<3∧e= .returned (.tuple #[.map none, .iface 242 (.pointer (some (x i)))])∧Pl.getV L p= .agg #[.string ⟨#[]⟩, .int .i64 0, .string ⟨#[]⟩, .int .i64 0, .int .i64 0, .int .i64 (WIs.codeOf i)])∨
  (∃B m,e= .returned (.tuple #[.map (some B), .nilIface])∧w.heap.size≤B∧w'.ownsMap Tryz.prog 9 MapN.elem B 40 (MapN.mapOf L)∧m∈L∧m.path=p∧L.Pairwise (fun a b=>a.path≠b.path)∧Pl.getV L p= .agg #[.string m.path, .int .i64 m.kind, .string m.data, .int .i64 m.time, .int .i64 m.mark, .int .i64 0])
set_option linter.unusedSimpArgs false in
set_option maxRecDepth 100000 in
set_option maxHeartbeats 4000000 in
theorem with_any (a:Option Addr) (cap:Nat) (L:List Pl.Nd) (p:ByteArray) (w:World) (hl:L.length≤1048576) (hv:Mem.za2 w a L) (hok:∀n∈L,n.path.size≤1048576∧n.data.size≤1048576) (hp:p.size≤1048576) (x:Nat→Addr) (hE:WIs.Six w x):
  Calls Tryz.prog 81 #[.agg #[.slice a L.length cap], .string p] w fun e w'=>WithIs L p x w w' e∧Below w.heap.size w w':=by
 have b0:Below w.heap.size w (w.alloc (.cells #[.slice a L.length cap] 43)):=bE0;have hno:=hide (zc2.zy1 a cap L _ hl (Mem.za0 hv b0) hok _ _ _ _ _ _ (hE.call b0).errs);have hpr:=hide (fun W=>zq3.zl6 p W hp);have HE:=hide hE;by_cases hz:8000<p.size
 ·have t0:(8000:Int)<(p.size:Int):=by omega
  have E:Hid (∀w' e,e= .returned (.tuple #[.map none, .iface 242 (.pointer (some (x 0)))])→WithIs L p x w w' e):=fun w' e h=>⟨.inl ⟨0,by decide,h,Pl.get_long hz⟩⟩;have k0:=(hE.call b0).c0;clear hz hE hno hpr hv hok;go_enter Tryz.func81,Tryz.ntmps81
  go_wp2
  go_region
  go_wp2
  go_ret2
  exact ⟨za E _ _ rfl,Mem.below_drewN b0 1⟩
 have t0:¬ (8000:Int)<(p.size:Int):=by omega
 have E1:Hid ((Pl.za5 L=false∨p.size=0∨Pl.za1 p=false)→∀w' e,e= .returned (.tuple #[.map none, .iface 242 (.pointer (some (x 1)))])→WithIs L p x w w' e):=fun h w' e he=>⟨.inl ⟨1,by decide,he,Pl.get_form hz h⟩⟩;have E2:Hid (¬ (Pl.za5 L=false∨p.size=0∨Pl.za1 p=false)→L.find? (fun m=>decide (m.path=p))=none→∀w' e,e= .returned (.tuple #[.map none, .iface 242 (.pointer (some (x 2)))])→WithIs L p x w w' e):=fun h hf w' e he=>⟨.inl ⟨2,by decide,he,Pl.get_none hz h hf⟩⟩
 have E3:Hid (¬ (Pl.za5 L=false∨p.size=0∨Pl.za1 p=false)→∀m,L.find? (fun m=>decide (m.path=p))=some m→∀w' e B,e= .returned (.tuple #[.map (some B), .nilIface])→w.heap.size≤B→w'.ownsMap Tryz.prog 9 MapN.elem B 40 (MapN.mapOf L)→WithIs L p x w w' e):=fun h m hf w' e B he hb ho=>⟨.inr ⟨B,m,he,hb,ho,List.mem_of_find?_eq_some hf,by simpa using List.find?_some hf,Pl.zl1 (by cases ht:Pl.za5 L <;> simp [ht] at h ⊢),Pl.get_some hz h hf⟩⟩;have HT:Hid (Pl.za5 L=true→L.Pairwise (fun a b=>a.path≠b.path)):=Pl.zl1;generalize Pl.za5 L=R1 at hno E1 E2 E3 HT;generalize Pl.za1 p=R2 at hpr E1 E2 E3;clear hE hv hok hz;go_enter Tryz.func81,Tryz.ntmps81
 go_wp2_with fail
 refine (za hno).mono ?_;rintro e w1 ⟨h1,b1⟩;have bw1:=b0.trans (b1.mono b0.size);have HE1:=hide ((za HE).call bw1);clear hno b1 b0 HE
 rcases h1 with ⟨rfl,B,rfl,hB,hown⟩|⟨rfl,rfl⟩
 rotate_left
 ·have E:=hide (za E1 (.inl rfl));clear E1 E2 E3 HT;go_wp2
  go_ret2
  exact ⟨za E _ _ rfl,bw1⟩
 have HM1:=hide hown;have hB':w.heap.size≤B:=Nat.le_trans (by simp) hB;clear hown hB;by_cases hs:p.size=0
 ·have t1:p.toList.isEmpty=true:=by rw [Pl.zd2];simpa [Pl.zh2] using hs
  have E:=hide (za E1 (.inr (.inl hs)));have k1:=(za HE1).c1;clear E1 E2 E3 hs HT;go_wp2
  go_region
  go_wp2
  go_ret2
  exact ⟨za E _ _ rfl,Mem.below_drewN bw1 1⟩
 have t1:p.toList.isEmpty=false:=by rw [Pl.zd2];simpa [Pl.zh2] using hs
 go_wp2_with fail
 refine (za hpr _).mono ?_;rintro e w2 ⟨rfl,b2⟩;have bw2:=bw1.trans (b2.mono bw1.size);have HE2:=hide ((za HE1).call b2);have HM2:=hide (zc2.zd9 (za HM1) b2);clear hpr b2 HE1 HM1 bw1;cases R2
 ·have E:=hide (za E1 (.inr (.inr rfl)));have k1:=(za HE2).c1;clear E1 E2 E3 hs HT;go_wp2
  go_region
  go_wp2
  go_ret2
  exact ⟨za E _ _ rfl,Mem.below_drewN bw2 1⟩
 have hnn:¬ (true=false∨p.size=0∨true=false):=by simp [hs]
 have hkey:=MapN.zj3 (p:=p) (by unfold maxLen;omega);cases hf:L.find? (fun m=>decide (m.path=p)) with
 |none=>
  have E:=hide (za E2 hnn hf);have hmiss:∀n∈L,n.path≠p:=fun n hn=>by simpa using List.find?_eq_none.1 hf n hn
  have ha:=hide (MapN.zr9 hmiss);have ha2:=hide (Maps.atKey_of_not_has (za ha) (MapN.dat ⟨⟨#[]⟩,0,⟨#[]⟩,0,0⟩));have k2:∀o,(w2.alloc o).cell? ⟨2,0,none⟩=some (.iface 242 (.pointer (some (x 2)))):=fun o=>(World.cell?_alloc_some _ _ _ (by rw [(za HE2).c2];rfl)).trans (za HE2).c2;clear E1 E2 E3 hf hmiss hnn hs HT;go_wp2_with (at_lookup;refine MapN.look_ok _ rfl _ _ 78 rfl 9 47 MapN.law Tryz.underlying78 (MapN.za6 _) B 40 (MapN.mapOf L) rfl (za HM2) _ _ rfl hkey ⟨⟨#[]⟩,0,⟨#[]⟩,0,0⟩ (za ha2) false (za ha) ?_)
  go_region
  go_wp2
  go_ret2
  exact ⟨za E _ _ rfl,Mem.below_drewN (bw2.alloc bw2.size _) 1⟩
 |some m=>
  have E:=hide (za E3 hnn m hf);have hm1:=List.mem_of_find?_eq_some hf;have hm2:m.path=p:=by simpa using List.find?_some hf
  obtain ⟨y1,y2⟩:=MapN.zp0 (za HT trivial) hm1;rw [hm2] at y1 y2;have ha:=hide y1;have ha2:=hide (y2 (MapN.dat ⟨⟨#[]⟩,0,⟨#[]⟩,0,0⟩));clear E1 E2 E3 hf y1 y2 hm1 hm2 hnn hs HT;go_wp2_with (at_lookup;refine MapN.look_ok _ rfl _ _ 78 rfl 9 47 MapN.law Tryz.underlying78 (MapN.za6 _) B 40 (MapN.mapOf L) rfl (za HM2) _ _ rfl hkey m (za ha2) true (za ha) ?_)
  go_ret2
  exact ⟨za E _ _ B rfl hB' (zc2.zd9 (za HM2) (bE0)),bw2.alloc bw2.size _⟩
end WGetT
end
section
open Go.RowKit Go.Maps
namespace WGetT
set_option linter.unusedSimpArgs false in
set_option maxRecDepth 100000 in
set_option maxHeartbeats 4000000 in
theorem zk6 (a:Option Addr) (cap:Nat) (L:List Pl.Nd) (p:ByteArray) (w:World) (hl:L.length≤1048576) (hv:Mem.za2 w a L) (hok:∀n∈L,n.path.size≤1048576∧n.data.size≤1048576) (hp:p.size≤1048576) (x:Nat→Addr) (hE:WIs.Six w x):
  Calls Tryz.prog 47 #[.agg #[.slice a L.length cap], .string p] w fun e w'=>e= .returned (Pl.getV L p)∧Below w.heap.size w w':=by
 have h0:Held w ((w.alloc (.cells #[.slice a L.length cap] 43)).alloc (.cells #[.string ⟨#[]⟩, .int .i64 0, .string ⟨#[]⟩, .int .i64 0, .int .i64 0, .int .i64 0] 91)):=⟨((Below.refl _ _).alloc (Nat.le_refl _) _).alloc (by simp) _,Mem.zg4 _ _ _⟩;have hw:=hide (with_any a cap L p _ hl (Mem.za0 hv h0.1) hok hp x (hE.call h0.1));have HOK:=hide hok;have HE:=hide hE;clear hv hE hok;go_enter Tryz.func47,Tryz.ntmps47
 go_wp2_with fail
 refine (za hw).mono ?_;rintro e w1 ⟨⟨h1⟩,b1⟩;have HO:=hide (h0.call b1);have HE1:=hide ((za HE).call (za HO).1);clear hw b1 h0 HE
 rcases h1 with ⟨i,hi,rfl,hg⟩|⟨B,m,rfl,hB,hown,hm1,rfl,hC,hg⟩
 ·obtain rfl |rfl |rfl:i=0∨i=1∨i=2:=by omega
  ·have E:Hid (Pl.getV L p= .agg #[.string ⟨#[]⟩, .int .i64 0, .string ⟨#[]⟩, .int .i64 0, .int .i64 0, .int .i64 2]):=hg;clear hg hi HOK;go_wp2_with fail
   refine (WIs.code0 x _ (za HE1)).mono ?_;rintro e w2 ⟨rfl,rfl⟩;have HR:=za HO;have z0:=HR.at 0;have f0:=HR.fr 0;have z1:=HR.at 1;have f1:=HR.fr 1;have z2:=HR.at 2;have f2:=HR.fr 2;have z3:=HR.at 3;have f3:=HR.fr 3;have z4:=HR.at 4;have f4:=HR.fr 4;have z5:=HR.at 5;have f5:=HR.fr 5;clear HR;simp only [kGs] at z0 z1 z2 z3 z4 z5;go_wp2
   have HR:=za HO;have r6:((((((w2.setCell ⟨w.heap.size+1,0,none⟩ (.string ⟨#[]⟩)).setCell ⟨w.heap.size+1,1,none⟩ (.int .i64 0)).setCell ⟨w.heap.size+1,2,none⟩ (.string ⟨#[]⟩)).setCell ⟨w.heap.size+1,3,none⟩ (.int .i64 0)).setCell ⟨w.heap.size+1,4,none⟩ (.int .i64 0)).setCell ⟨w.heap.size+1,5,none⟩ (.int .i64 2)).heap[w.heap.size+1]? =some (.cells #[.string ⟨#[]⟩, .int .i64 0, .string ⟨#[]⟩, .int .i64 0, .int .i64 0, .int .i64 2] 91 (0,0)):=(heap_setCell_same _ _ 5 _ _ _ (heap_setCell_same _ _ 4 _ _ _ (heap_setCell_same _ _ 3 _ _ _ (heap_setCell_same _ _ 2 _ _ _ (heap_setCell_same _ _ 1 _ _ _ (heap_setCell_same _ _ 0 _ _ _ HR.2))))))
   have d0:((((((w2.setCell ⟨w.heap.size+1,0,none⟩ (.string ⟨#[]⟩)).setCell ⟨w.heap.size+1,1,none⟩ (.int .i64 0)).setCell ⟨w.heap.size+1,2,none⟩ (.string ⟨#[]⟩)).setCell ⟨w.heap.size+1,3,none⟩ (.int .i64 0)).setCell ⟨w.heap.size+1,4,none⟩ (.int .i64 0)).setCell ⟨w.heap.size+1,5,none⟩ (.int .i64 2)).cell? ⟨w.heap.size+1,0,none⟩=some (.string ⟨#[]⟩):=cell_of_row _ _ 0 _ _ (0,0) r6;have d1:((((((w2.setCell ⟨w.heap.size+1,0,none⟩ (.string ⟨#[]⟩)).setCell ⟨w.heap.size+1,1,none⟩ (.int .i64 0)).setCell ⟨w.heap.size+1,2,none⟩ (.string ⟨#[]⟩)).setCell ⟨w.heap.size+1,3,none⟩ (.int .i64 0)).setCell ⟨w.heap.size+1,4,none⟩ (.int .i64 0)).setCell ⟨w.heap.size+1,5,none⟩ (.int .i64 2)).cell? ⟨w.heap.size+1,1,none⟩=some (.int .i64 0):=cell_of_row _ _ 1 _ _ (0,0) r6
   have d2:((((((w2.setCell ⟨w.heap.size+1,0,none⟩ (.string ⟨#[]⟩)).setCell ⟨w.heap.size+1,1,none⟩ (.int .i64 0)).setCell ⟨w.heap.size+1,2,none⟩ (.string ⟨#[]⟩)).setCell ⟨w.heap.size+1,3,none⟩ (.int .i64 0)).setCell ⟨w.heap.size+1,4,none⟩ (.int .i64 0)).setCell ⟨w.heap.size+1,5,none⟩ (.int .i64 2)).cell? ⟨w.heap.size+1,2,none⟩=some (.string ⟨#[]⟩):=cell_of_row _ _ 2 _ _ (0,0) r6;have d3:((((((w2.setCell ⟨w.heap.size+1,0,none⟩ (.string ⟨#[]⟩)).setCell ⟨w.heap.size+1,1,none⟩ (.int .i64 0)).setCell ⟨w.heap.size+1,2,none⟩ (.string ⟨#[]⟩)).setCell ⟨w.heap.size+1,3,none⟩ (.int .i64 0)).setCell ⟨w.heap.size+1,4,none⟩ (.int .i64 0)).setCell ⟨w.heap.size+1,5,none⟩ (.int .i64 2)).cell? ⟨w.heap.size+1,3,none⟩=some (.int .i64 0):=cell_of_row _ _ 3 _ _ (0,0) r6
   have d4:((((((w2.setCell ⟨w.heap.size+1,0,none⟩ (.string ⟨#[]⟩)).setCell ⟨w.heap.size+1,1,none⟩ (.int .i64 0)).setCell ⟨w.heap.size+1,2,none⟩ (.string ⟨#[]⟩)).setCell ⟨w.heap.size+1,3,none⟩ (.int .i64 0)).setCell ⟨w.heap.size+1,4,none⟩ (.int .i64 0)).setCell ⟨w.heap.size+1,5,none⟩ (.int .i64 2)).cell? ⟨w.heap.size+1,4,none⟩=some (.int .i64 0):=cell_of_row _ _ 4 _ _ (0,0) r6;have d5:((((((w2.setCell ⟨w.heap.size+1,0,none⟩ (.string ⟨#[]⟩)).setCell ⟨w.heap.size+1,1,none⟩ (.int .i64 0)).setCell ⟨w.heap.size+1,2,none⟩ (.string ⟨#[]⟩)).setCell ⟨w.heap.size+1,3,none⟩ (.int .i64 0)).setCell ⟨w.heap.size+1,4,none⟩ (.int .i64 0)).setCell ⟨w.heap.size+1,5,none⟩ (.int .i64 2)).cell? ⟨w.heap.size+1,5,none⟩=some (.int .i64 2):=cell_of_row _ _ 5 _ _ (0,0) r6
   have bf:Below w.heap.size w ((((((w2.setCell ⟨w.heap.size+1,0,none⟩ (.string ⟨#[]⟩)).setCell ⟨w.heap.size+1,1,none⟩ (.int .i64 0)).setCell ⟨w.heap.size+1,2,none⟩ (.string ⟨#[]⟩)).setCell ⟨w.heap.size+1,3,none⟩ (.int .i64 0)).setCell ⟨w.heap.size+1,4,none⟩ (.int .i64 0)).setCell ⟨w.heap.size+1,5,none⟩ (.int .i64 2)):=((((((HR.1.setCell (by simp) _).setCell (by simp) _).setCell (by simp) _).setCell (by simp) _).setCell (by simp) _).setCell (by simp) _);refine bodyPost_ret (v:= .agg #[.string ⟨#[]⟩, .int .i64 0, .string ⟨#[]⟩, .int .i64 0, .int .i64 0, .int .i64 2]) (by simp [results,Tryz.results47,go_sem,d0,d1,d2,d3,d4,d5]) rfl ⟨by rw [za E],bf⟩
  ·have E:Hid (Pl.getV L p= .agg #[.string ⟨#[]⟩, .int .i64 0, .string ⟨#[]⟩, .int .i64 0, .int .i64 0, .int .i64 1]):=hg;clear hg hi HOK;go_wp2_with fail
   refine (WIs.code1 x _ (za HE1)).mono ?_;rintro e w2 ⟨rfl,rfl⟩;have HR:=za HO;have z0:=HR.at 0;have f0:=HR.fr 0;have z1:=HR.at 1;have f1:=HR.fr 1;have z2:=HR.at 2;have f2:=HR.fr 2;have z3:=HR.at 3;have f3:=HR.fr 3;have z4:=HR.at 4;have f4:=HR.fr 4;have z5:=HR.at 5;have f5:=HR.fr 5;clear HR;simp only [kGs] at z0 z1 z2 z3 z4 z5;go_wp2
   have HR:=za HO;have r6:((((((w2.setCell ⟨w.heap.size+1,0,none⟩ (.string ⟨#[]⟩)).setCell ⟨w.heap.size+1,1,none⟩ (.int .i64 0)).setCell ⟨w.heap.size+1,2,none⟩ (.string ⟨#[]⟩)).setCell ⟨w.heap.size+1,3,none⟩ (.int .i64 0)).setCell ⟨w.heap.size+1,4,none⟩ (.int .i64 0)).setCell ⟨w.heap.size+1,5,none⟩ (.int .i64 1)).heap[w.heap.size+1]? =some (.cells #[.string ⟨#[]⟩, .int .i64 0, .string ⟨#[]⟩, .int .i64 0, .int .i64 0, .int .i64 1] 91 (0,0)):=(heap_setCell_same _ _ 5 _ _ _ (heap_setCell_same _ _ 4 _ _ _ (heap_setCell_same _ _ 3 _ _ _ (heap_setCell_same _ _ 2 _ _ _ (heap_setCell_same _ _ 1 _ _ _ (heap_setCell_same _ _ 0 _ _ _ HR.2))))))
   have d0:((((((w2.setCell ⟨w.heap.size+1,0,none⟩ (.string ⟨#[]⟩)).setCell ⟨w.heap.size+1,1,none⟩ (.int .i64 0)).setCell ⟨w.heap.size+1,2,none⟩ (.string ⟨#[]⟩)).setCell ⟨w.heap.size+1,3,none⟩ (.int .i64 0)).setCell ⟨w.heap.size+1,4,none⟩ (.int .i64 0)).setCell ⟨w.heap.size+1,5,none⟩ (.int .i64 1)).cell? ⟨w.heap.size+1,0,none⟩=some (.string ⟨#[]⟩):=cell_of_row _ _ 0 _ _ (0,0) r6;have d1:((((((w2.setCell ⟨w.heap.size+1,0,none⟩ (.string ⟨#[]⟩)).setCell ⟨w.heap.size+1,1,none⟩ (.int .i64 0)).setCell ⟨w.heap.size+1,2,none⟩ (.string ⟨#[]⟩)).setCell ⟨w.heap.size+1,3,none⟩ (.int .i64 0)).setCell ⟨w.heap.size+1,4,none⟩ (.int .i64 0)).setCell ⟨w.heap.size+1,5,none⟩ (.int .i64 1)).cell? ⟨w.heap.size+1,1,none⟩=some (.int .i64 0):=cell_of_row _ _ 1 _ _ (0,0) r6
   have d2:((((((w2.setCell ⟨w.heap.size+1,0,none⟩ (.string ⟨#[]⟩)).setCell ⟨w.heap.size+1,1,none⟩ (.int .i64 0)).setCell ⟨w.heap.size+1,2,none⟩ (.string ⟨#[]⟩)).setCell ⟨w.heap.size+1,3,none⟩ (.int .i64 0)).setCell ⟨w.heap.size+1,4,none⟩ (.int .i64 0)).setCell ⟨w.heap.size+1,5,none⟩ (.int .i64 1)).cell? ⟨w.heap.size+1,2,none⟩=some (.string ⟨#[]⟩):=cell_of_row _ _ 2 _ _ (0,0) r6;have d3:((((((w2.setCell ⟨w.heap.size+1,0,none⟩ (.string ⟨#[]⟩)).setCell ⟨w.heap.size+1,1,none⟩ (.int .i64 0)).setCell ⟨w.heap.size+1,2,none⟩ (.string ⟨#[]⟩)).setCell ⟨w.heap.size+1,3,none⟩ (.int .i64 0)).setCell ⟨w.heap.size+1,4,none⟩ (.int .i64 0)).setCell ⟨w.heap.size+1,5,none⟩ (.int .i64 1)).cell? ⟨w.heap.size+1,3,none⟩=some (.int .i64 0):=cell_of_row _ _ 3 _ _ (0,0) r6
   have d4:((((((w2.setCell ⟨w.heap.size+1,0,none⟩ (.string ⟨#[]⟩)).setCell ⟨w.heap.size+1,1,none⟩ (.int .i64 0)).setCell ⟨w.heap.size+1,2,none⟩ (.string ⟨#[]⟩)).setCell ⟨w.heap.size+1,3,none⟩ (.int .i64 0)).setCell ⟨w.heap.size+1,4,none⟩ (.int .i64 0)).setCell ⟨w.heap.size+1,5,none⟩ (.int .i64 1)).cell? ⟨w.heap.size+1,4,none⟩=some (.int .i64 0):=cell_of_row _ _ 4 _ _ (0,0) r6;have d5:((((((w2.setCell ⟨w.heap.size+1,0,none⟩ (.string ⟨#[]⟩)).setCell ⟨w.heap.size+1,1,none⟩ (.int .i64 0)).setCell ⟨w.heap.size+1,2,none⟩ (.string ⟨#[]⟩)).setCell ⟨w.heap.size+1,3,none⟩ (.int .i64 0)).setCell ⟨w.heap.size+1,4,none⟩ (.int .i64 0)).setCell ⟨w.heap.size+1,5,none⟩ (.int .i64 1)).cell? ⟨w.heap.size+1,5,none⟩=some (.int .i64 1):=cell_of_row _ _ 5 _ _ (0,0) r6
   have bf:Below w.heap.size w ((((((w2.setCell ⟨w.heap.size+1,0,none⟩ (.string ⟨#[]⟩)).setCell ⟨w.heap.size+1,1,none⟩ (.int .i64 0)).setCell ⟨w.heap.size+1,2,none⟩ (.string ⟨#[]⟩)).setCell ⟨w.heap.size+1,3,none⟩ (.int .i64 0)).setCell ⟨w.heap.size+1,4,none⟩ (.int .i64 0)).setCell ⟨w.heap.size+1,5,none⟩ (.int .i64 1)):=((((((HR.1.setCell (by simp) _).setCell (by simp) _).setCell (by simp) _).setCell (by simp) _).setCell (by simp) _).setCell (by simp) _);refine bodyPost_ret (v:= .agg #[.string ⟨#[]⟩, .int .i64 0, .string ⟨#[]⟩, .int .i64 0, .int .i64 0, .int .i64 1]) (by simp [results,Tryz.results47,go_sem,d0,d1,d2,d3,d4,d5]) rfl ⟨by rw [za E],bf⟩
  ·have E:Hid (Pl.getV L p= .agg #[.string ⟨#[]⟩, .int .i64 0, .string ⟨#[]⟩, .int .i64 0, .int .i64 0, .int .i64 6]):=hg;clear hg hi HOK;go_wp2_with fail
   refine (WIs.code2 x _ (za HE1)).mono ?_;rintro e w2 ⟨rfl,rfl⟩;have HR:=za HO;have z0:=HR.at 0;have f0:=HR.fr 0;have z1:=HR.at 1;have f1:=HR.fr 1;have z2:=HR.at 2;have f2:=HR.fr 2;have z3:=HR.at 3;have f3:=HR.fr 3;have z4:=HR.at 4;have f4:=HR.fr 4;have z5:=HR.at 5;have f5:=HR.fr 5;clear HR;simp only [kGs] at z0 z1 z2 z3 z4 z5;go_wp2
   have HR:=za HO;have r6:((((((w2.setCell ⟨w.heap.size+1,0,none⟩ (.string ⟨#[]⟩)).setCell ⟨w.heap.size+1,1,none⟩ (.int .i64 0)).setCell ⟨w.heap.size+1,2,none⟩ (.string ⟨#[]⟩)).setCell ⟨w.heap.size+1,3,none⟩ (.int .i64 0)).setCell ⟨w.heap.size+1,4,none⟩ (.int .i64 0)).setCell ⟨w.heap.size+1,5,none⟩ (.int .i64 6)).heap[w.heap.size+1]? =some (.cells #[.string ⟨#[]⟩, .int .i64 0, .string ⟨#[]⟩, .int .i64 0, .int .i64 0, .int .i64 6] 91 (0,0)):=(heap_setCell_same _ _ 5 _ _ _ (heap_setCell_same _ _ 4 _ _ _ (heap_setCell_same _ _ 3 _ _ _ (heap_setCell_same _ _ 2 _ _ _ (heap_setCell_same _ _ 1 _ _ _ (heap_setCell_same _ _ 0 _ _ _ HR.2))))))
   have d0:((((((w2.setCell ⟨w.heap.size+1,0,none⟩ (.string ⟨#[]⟩)).setCell ⟨w.heap.size+1,1,none⟩ (.int .i64 0)).setCell ⟨w.heap.size+1,2,none⟩ (.string ⟨#[]⟩)).setCell ⟨w.heap.size+1,3,none⟩ (.int .i64 0)).setCell ⟨w.heap.size+1,4,none⟩ (.int .i64 0)).setCell ⟨w.heap.size+1,5,none⟩ (.int .i64 6)).cell? ⟨w.heap.size+1,0,none⟩=some (.string ⟨#[]⟩):=cell_of_row _ _ 0 _ _ (0,0) r6;have d1:((((((w2.setCell ⟨w.heap.size+1,0,none⟩ (.string ⟨#[]⟩)).setCell ⟨w.heap.size+1,1,none⟩ (.int .i64 0)).setCell ⟨w.heap.size+1,2,none⟩ (.string ⟨#[]⟩)).setCell ⟨w.heap.size+1,3,none⟩ (.int .i64 0)).setCell ⟨w.heap.size+1,4,none⟩ (.int .i64 0)).setCell ⟨w.heap.size+1,5,none⟩ (.int .i64 6)).cell? ⟨w.heap.size+1,1,none⟩=some (.int .i64 0):=cell_of_row _ _ 1 _ _ (0,0) r6
   have d2:((((((w2.setCell ⟨w.heap.size+1,0,none⟩ (.string ⟨#[]⟩)).setCell ⟨w.heap.size+1,1,none⟩ (.int .i64 0)).setCell ⟨w.heap.size+1,2,none⟩ (.string ⟨#[]⟩)).setCell ⟨w.heap.size+1,3,none⟩ (.int .i64 0)).setCell ⟨w.heap.size+1,4,none⟩ (.int .i64 0)).setCell ⟨w.heap.size+1,5,none⟩ (.int .i64 6)).cell? ⟨w.heap.size+1,2,none⟩=some (.string ⟨#[]⟩):=cell_of_row _ _ 2 _ _ (0,0) r6;have d3:((((((w2.setCell ⟨w.heap.size+1,0,none⟩ (.string ⟨#[]⟩)).setCell ⟨w.heap.size+1,1,none⟩ (.int .i64 0)).setCell ⟨w.heap.size+1,2,none⟩ (.string ⟨#[]⟩)).setCell ⟨w.heap.size+1,3,none⟩ (.int .i64 0)).setCell ⟨w.heap.size+1,4,none⟩ (.int .i64 0)).setCell ⟨w.heap.size+1,5,none⟩ (.int .i64 6)).cell? ⟨w.heap.size+1,3,none⟩=some (.int .i64 0):=cell_of_row _ _ 3 _ _ (0,0) r6
   have d4:((((((w2.setCell ⟨w.heap.size+1,0,none⟩ (.string ⟨#[]⟩)).setCell ⟨w.heap.size+1,1,none⟩ (.int .i64 0)).setCell ⟨w.heap.size+1,2,none⟩ (.string ⟨#[]⟩)).setCell ⟨w.heap.size+1,3,none⟩ (.int .i64 0)).setCell ⟨w.heap.size+1,4,none⟩ (.int .i64 0)).setCell ⟨w.heap.size+1,5,none⟩ (.int .i64 6)).cell? ⟨w.heap.size+1,4,none⟩=some (.int .i64 0):=cell_of_row _ _ 4 _ _ (0,0) r6;have d5:((((((w2.setCell ⟨w.heap.size+1,0,none⟩ (.string ⟨#[]⟩)).setCell ⟨w.heap.size+1,1,none⟩ (.int .i64 0)).setCell ⟨w.heap.size+1,2,none⟩ (.string ⟨#[]⟩)).setCell ⟨w.heap.size+1,3,none⟩ (.int .i64 0)).setCell ⟨w.heap.size+1,4,none⟩ (.int .i64 0)).setCell ⟨w.heap.size+1,5,none⟩ (.int .i64 6)).cell? ⟨w.heap.size+1,5,none⟩=some (.int .i64 6):=cell_of_row _ _ 5 _ _ (0,0) r6
   have bf:Below w.heap.size w ((((((w2.setCell ⟨w.heap.size+1,0,none⟩ (.string ⟨#[]⟩)).setCell ⟨w.heap.size+1,1,none⟩ (.int .i64 0)).setCell ⟨w.heap.size+1,2,none⟩ (.string ⟨#[]⟩)).setCell ⟨w.heap.size+1,3,none⟩ (.int .i64 0)).setCell ⟨w.heap.size+1,4,none⟩ (.int .i64 0)).setCell ⟨w.heap.size+1,5,none⟩ (.int .i64 6)):=((((((HR.1.setCell (by simp) _).setCell (by simp) _).setCell (by simp) _).setCell (by simp) _).setCell (by simp) _).setCell (by simp) _);refine bodyPost_ret (v:= .agg #[.string ⟨#[]⟩, .int .i64 0, .string ⟨#[]⟩, .int .i64 0, .int .i64 0, .int .i64 6]) (by simp [results,Tryz.results47,go_sem,d0,d1,d2,d3,d4,d5]) rfl ⟨by rw [za E],bf⟩
 ·have E:=hide hg;obtain ⟨y1,y2⟩:=MapN.zp0 hC hm1;have ha2:=hide (y2 (MapN.dat ⟨⟨#[]⟩,0,⟨#[]⟩,0,0⟩));have HM1:=hide hown;have hkey:=MapN.zj3 (p:=m.path) (by unfold maxLen;omega);have hcp:=hide (fun W=>WCopied.any m W ((za HOK) m hm1).1 ((za HOK) m hm1).2);simp only [Pl.Nd.val] at hcp;clear hg y1 y2 hC hm1 hown hB HE1 HOK;go_wp2_with (at_lookup;refine MapN.look_no _ rfl _ _ 78 rfl 9 47 MapN.law Tryz.underlying78 (MapN.za6 _) B 40 (MapN.mapOf L) rfl (za HM1) _ _ rfl hkey m (za ha2) ?_)
  refine (za hcp _).mono ?_;rintro e w2 ⟨rfl,b2⟩;have HO2:=hide ((za HO).call b2);clear HO hcp HM1 ha2 b2;have HO:=HO2;clear HO2;have HR:=za HO;have z0:=HR.at 0;have f0:=HR.fr 0;have z1:=HR.at 1;have f1:=HR.fr 1;have z2:=HR.at 2;have f2:=HR.fr 2;have z3:=HR.at 3;have f3:=HR.fr 3;have z4:=HR.at 4;have f4:=HR.fr 4;have z5:=HR.at 5;have f5:=HR.fr 5;clear HR;simp only [kGs] at z0 z1 z2 z3 z4 z5;go_wp2
  have HR:=za HO;have r6:((((((w2.setCell ⟨w.heap.size+1,0,none⟩ (.string m.path)).setCell ⟨w.heap.size+1,1,none⟩ (.int .i64 m.kind)).setCell ⟨w.heap.size+1,2,none⟩ (.string m.data)).setCell ⟨w.heap.size+1,3,none⟩ (.int .i64 m.time)).setCell ⟨w.heap.size+1,4,none⟩ (.int .i64 m.mark)).setCell ⟨w.heap.size+1,5,none⟩ (.int .i64 0)).heap[w.heap.size+1]? =some (.cells #[.string m.path, .int .i64 m.kind, .string m.data, .int .i64 m.time, .int .i64 m.mark, .int .i64 0] 91 (0,0)):=(heap_setCell_same _ _ 5 _ _ _ (heap_setCell_same _ _ 4 _ _ _ (heap_setCell_same _ _ 3 _ _ _ (heap_setCell_same _ _ 2 _ _ _ (heap_setCell_same _ _ 1 _ _ _ (heap_setCell_same _ _ 0 _ _ _ HR.2))))))
  have d0:((((((w2.setCell ⟨w.heap.size+1,0,none⟩ (.string m.path)).setCell ⟨w.heap.size+1,1,none⟩ (.int .i64 m.kind)).setCell ⟨w.heap.size+1,2,none⟩ (.string m.data)).setCell ⟨w.heap.size+1,3,none⟩ (.int .i64 m.time)).setCell ⟨w.heap.size+1,4,none⟩ (.int .i64 m.mark)).setCell ⟨w.heap.size+1,5,none⟩ (.int .i64 0)).cell? ⟨w.heap.size+1,0,none⟩=some (.string m.path):=cell_of_row _ _ 0 _ _ (0,0) r6;have d1:((((((w2.setCell ⟨w.heap.size+1,0,none⟩ (.string m.path)).setCell ⟨w.heap.size+1,1,none⟩ (.int .i64 m.kind)).setCell ⟨w.heap.size+1,2,none⟩ (.string m.data)).setCell ⟨w.heap.size+1,3,none⟩ (.int .i64 m.time)).setCell ⟨w.heap.size+1,4,none⟩ (.int .i64 m.mark)).setCell ⟨w.heap.size+1,5,none⟩ (.int .i64 0)).cell? ⟨w.heap.size+1,1,none⟩=some (.int .i64 m.kind):=cell_of_row _ _ 1 _ _ (0,0) r6
  have d2:((((((w2.setCell ⟨w.heap.size+1,0,none⟩ (.string m.path)).setCell ⟨w.heap.size+1,1,none⟩ (.int .i64 m.kind)).setCell ⟨w.heap.size+1,2,none⟩ (.string m.data)).setCell ⟨w.heap.size+1,3,none⟩ (.int .i64 m.time)).setCell ⟨w.heap.size+1,4,none⟩ (.int .i64 m.mark)).setCell ⟨w.heap.size+1,5,none⟩ (.int .i64 0)).cell? ⟨w.heap.size+1,2,none⟩=some (.string m.data):=cell_of_row _ _ 2 _ _ (0,0) r6;have d3:((((((w2.setCell ⟨w.heap.size+1,0,none⟩ (.string m.path)).setCell ⟨w.heap.size+1,1,none⟩ (.int .i64 m.kind)).setCell ⟨w.heap.size+1,2,none⟩ (.string m.data)).setCell ⟨w.heap.size+1,3,none⟩ (.int .i64 m.time)).setCell ⟨w.heap.size+1,4,none⟩ (.int .i64 m.mark)).setCell ⟨w.heap.size+1,5,none⟩ (.int .i64 0)).cell? ⟨w.heap.size+1,3,none⟩=some (.int .i64 m.time):=cell_of_row _ _ 3 _ _ (0,0) r6
  have d4:((((((w2.setCell ⟨w.heap.size+1,0,none⟩ (.string m.path)).setCell ⟨w.heap.size+1,1,none⟩ (.int .i64 m.kind)).setCell ⟨w.heap.size+1,2,none⟩ (.string m.data)).setCell ⟨w.heap.size+1,3,none⟩ (.int .i64 m.time)).setCell ⟨w.heap.size+1,4,none⟩ (.int .i64 m.mark)).setCell ⟨w.heap.size+1,5,none⟩ (.int .i64 0)).cell? ⟨w.heap.size+1,4,none⟩=some (.int .i64 m.mark):=cell_of_row _ _ 4 _ _ (0,0) r6;have d5:((((((w2.setCell ⟨w.heap.size+1,0,none⟩ (.string m.path)).setCell ⟨w.heap.size+1,1,none⟩ (.int .i64 m.kind)).setCell ⟨w.heap.size+1,2,none⟩ (.string m.data)).setCell ⟨w.heap.size+1,3,none⟩ (.int .i64 m.time)).setCell ⟨w.heap.size+1,4,none⟩ (.int .i64 m.mark)).setCell ⟨w.heap.size+1,5,none⟩ (.int .i64 0)).cell? ⟨w.heap.size+1,5,none⟩=some (.int .i64 0):=cell_of_row _ _ 5 _ _ (0,0) r6
  have bf:Below w.heap.size w ((((((w2.setCell ⟨w.heap.size+1,0,none⟩ (.string m.path)).setCell ⟨w.heap.size+1,1,none⟩ (.int .i64 m.kind)).setCell ⟨w.heap.size+1,2,none⟩ (.string m.data)).setCell ⟨w.heap.size+1,3,none⟩ (.int .i64 m.time)).setCell ⟨w.heap.size+1,4,none⟩ (.int .i64 m.mark)).setCell ⟨w.heap.size+1,5,none⟩ (.int .i64 0)):=((((((HR.1.setCell (by simp) _).setCell (by simp) _).setCell (by simp) _).setCell (by simp) _).setCell (by simp) _).setCell (by simp) _);refine bodyPost_ret (v:= .agg #[.string m.path, .int .i64 m.kind, .string m.data, .int .i64 m.time, .int .i64 m.mark, .int .i64 0]) (by simp [results,Tryz.results47,go_sem,d0,d1,d2,d3,d4,d5]) rfl ⟨by rw [za E],bf⟩
end WGetT
end
end Go.Proofs.YthdhhcgopfgcbaaGreatDoor
