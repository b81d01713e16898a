import Derived.Test.YthdhhcgopfgcbaaGreatDoorWView5
namespace Go.Proofs.YthdhhcgopfgcbaaGreatDoor
open Go.RowKit
namespace zw
set_option linter.unusedSimpArgs false in
set_option maxRecDepth 100000 in
set_option maxHeartbeats 1000000 in
theorem specView_any (a:Option Addr) (cap:Nat) (Is:List Pl.It) (w:World) (hl:Is.length≤1048576) (hv:Mem.zb0 w a Is) (hok:∀x∈Is,x.t.L.length≤1048576∧∀n∈x.t.L,n.path.size≤1048576∧n.data.size≤1048576) (hR:∀x∈Is,Mem.okR x.t.a x.t.cap x.t.L):
  Calls Tryz.prog 58 #[.slice a Is.length cap] w fun e w'=>∃v,e= .returned (.agg #[v, .int .i64 (Pl.zb9 (Is.map Pl.It.r))])∧Mem.ownN w' w.heap.size v (Pl.ze5 (Is.map Pl.It.r))∧Below w.heap.size w w':=by
 have b0:Below w.heap.size w (w.alloc (.cells #[.slice none 0 0, .int .i64 0] 64)):=bE0;have V0:=Mem.Blk.new w #[.slice none 0 0, .int .i64 0] 64;have hs0:(w.alloc (.cells #[.slice none 0 0, .int .i64 0] 64)).heap.size=w.heap.size+1:=by simp
 have hxl:(Is.map Pl.It.r).length=Is.length:=List.length_map ..;by_cases h400:400<Is.length
 ·have t0:(400:Int)<(Is.length:Int):=by omega
  obtain ⟨e1,e2⟩:=Pl.yc4 (xs:=Is.map Pl.It.r) (by omega);rw [e1,e2];have hil:=hide (zj1.zc6 2 (w.alloc (.cells #[.slice none 0 0, .int .i64 0] 64)));clear e1 e2 hv hok hR hxl;go_enter Tryz.func58,Tryz.ntmps58
  go_wp2_with fail
  generalize w.alloc (.cells #[.slice none 0 0, .int .i64 0] 64)=w2 at b0 V0 hs0 hil ⊢;refine (za hil).mono ?_;rintro e w3 ⟨rfl,b3⟩;have OW:=Mem.zb5 ((w3.setCell ⟨w.heap.size,0,none⟩ (.slice none 0 0)).setCell ⟨w.heap.size,1,none⟩ (.int .i64 2)) w.heap.size;have HB:=hide (b0.trans (b3.mono b0.size));obtain ⟨⟨d0,d1⟩,f0,f1⟩:=jf2 (V0.call b3);clear hil V0 b0 b3 OW;go_wp2
  refine bodyPost_ret (v:= .agg #[.slice none 0 0, .int .i64 2]) (by simp [results,Tryz.results58,go_sem,d0,d1]) rfl ⟨_,rfl,Mem.zb5 _ _,?_⟩
  first |exact ((za HB).setCell (Nat.le_refl _) _).setCell (Nat.le_refl _) _|exact (za HB).setCell (Nat.le_refl _) _
 have t0:¬ (400:Int)<(Is.length:Int):=by omega
 have hnr:=hide (zv1.zl6 a cap Is (w.alloc (.cells #[.slice none 0 0, .int .i64 0] 64)) hl (Mem.zb2 hv b0) hok);cases hF:Pl.nest (Pl.rowO (Is.map Pl.It.r)) with
 |none=>
  obtain ⟨e1,e2⟩:=Pl.view_bad (xs:=Is.map Pl.It.r) (by omega) hF;rw [e1,e2];rw [hF] at hnr;have hil:=hide (fun W=>zj1.zc6 1 W);clear e1 e2 hv hok hR hxl hF;go_enter Tryz.func58,Tryz.ntmps58
  go_wp2_with fail
  generalize w.alloc (.cells #[.slice none 0 0, .int .i64 0] 64)=w2 at b0 V0 hs0 hnr ⊢;refine (za hnr).mono ?_;rintro e w1 ⟨rfl,b1⟩;have b0:=b0.trans (b1.mono b0.size);have V0:=V0.call b1;clear b1 hnr;go_wp2_with fail
  refine (za hil _).mono ?_;rintro e w3 ⟨rfl,b3⟩;have OW:=Mem.zb5 ((w3.setCell ⟨w.heap.size,0,none⟩ (.slice none 0 0)).setCell ⟨w.heap.size,1,none⟩ (.int .i64 1)) w.heap.size;have HB:=hide (b0.trans (b3.mono b0.size));obtain ⟨⟨d0,d1⟩,f0,f1⟩:=jf2 (V0.call b3);clear hil V0 b0 b3 OW;go_wp2
  refine bodyPost_ret (v:= .agg #[.slice none 0 0, .int .i64 1]) (by simp [results,Tryz.results58,go_sem,d0,d1]) rfl ⟨_,rfl,Mem.zb5 _ _,?_⟩
  first |exact ((za HB).setCell (Nat.le_refl _) _).setCell (Nat.le_refl _) _|exact (za HB).setCell (Nat.le_refl _) _
 |some F=>
  obtain ⟨L,k,hks,hfl,hko,hnx⟩:=Pl.zm5 hF;have hl12:=Pl.zo6 hF;rw [hF] at hnr
  have hsz:k.sz<13:=by
   have h1:=congrArg List.length hfl;rw [Pl.Fx.zw6,Pl.Fx.sz] at h1;simp only [Pl.Fx.sz] at h1;omega
  have HV5:=hide (fun W (b:Below w.heap.size w W)=>view5_any a cap Is (by omega) hR 13 L k 0 W hsz hko ⟨[],by rw [List.drop_zero,List.append_nil,hfl]⟩ (Mem.zb2 hv b));have EN:Hid (Pl.zi1 L k=none→Pl.zb9 (Is.map Pl.It.r)=9∧Pl.ze5 (Is.map Pl.It.r)=[]):=fun h=>Pl.view_none hl12 hnx h;have ES:Hid (∀V,Pl.zi1 L k=some V→Pl.zb9 (Is.map Pl.It.r)=0∧Pl.ze5 (Is.map Pl.It.r)=V):=fun V h=>Pl.view_some hl12 hnx h;generalize Pl.zb9 (Is.map Pl.It.r)=C at EN ES ⊢;generalize Pl.ze5 (Is.map Pl.It.r)=O at EN ES ⊢;clear hv hok hR hxl hF hks hfl hko hnx;go_enter Tryz.func58,Tryz.ntmps58
  go_wp2_with fail
  generalize w.alloc (.cells #[.slice none 0 0, .int .i64 0] 64)=w2 at b0 V0 hs0 hnr ⊢;refine (za hnr).mono ?_;rintro e w1 ⟨rfl,b1⟩;have b0:=b0.trans (b1.mono b0.size);have V0:=V0.call b1;have hs1:=b1.size;clear b1 hnr;go_wp2_with fail
  refine (za HV5 _ b0).mono ?_;rintro e w3 ⟨⟨a1,cap1,c1,V1,rfl,own1,hV⟩,b3⟩
  have hCN:C=c1∧O=V1:=by
   rcases hV with ⟨h1,rfl⟩|⟨h1,rfl,rfl⟩
   ·exact za ES _ h1
   ·exact za EN h1
  obtain ⟨eC,eO⟩:=hCN;subst C;subst O;have b4:=b0.trans (b3.mono b0.size);have b5:=b4.alloc b4.size (.cells #[.slice a1 V1.length cap1, .int .i64 c1] 64);have V5:=(V0.call b3).alloc (.cells #[.slice a1 V1.length cap1, .int .i64 c1] 64);have O5:=Mem.zf5 own1 (.cells #[.slice a1 V1.length cap1, .int .i64 c1] 64);have OW:=hide (Mem.zb3 (Mem.za8 (Mem.za8 O5 ⟨w.heap.size,0,none⟩ (.slice a1 V1.length cap1) (by show w.heap.size<_;omega)) ⟨w.heap.size,1,none⟩ (.int .i64 c1) (by show w.heap.size<_;omega)) (show w.heap.size≤w1.heap.size by omega));have HB:=hide b5;obtain ⟨⟨d0,d1⟩,f0,f1⟩:=jf2 V5;clear HV5 EN ES hV own1 b3 b4 b5 V0 V5 O5 b0;go_wp2
  refine bodyPost_ret (v:= .agg #[.slice a1 V1.length cap1, .int .i64 c1]) (by simp [results,Tryz.results58,go_sem,d0,d1]) rfl ⟨_,rfl,za OW,?_⟩;exact ((za HB).setCell (Nat.le_refl _) _).setCell (Nat.le_refl _) _
end zw
end Go.Proofs.YthdhhcgopfgcbaaGreatDoor
