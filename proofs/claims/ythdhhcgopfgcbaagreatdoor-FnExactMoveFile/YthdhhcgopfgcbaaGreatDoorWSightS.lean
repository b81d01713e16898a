import Derived.Test.YthdhhcgopfgcbaaGreatDoorWViewS
namespace Go.Proofs.YthdhhcgopfgcbaaGreatDoor
open Go.RowKit
namespace zw
set_option linter.unusedSimpArgs false in
set_option maxRecDepth 100000 in
set_option maxHeartbeats 1000000 in
theorem specSight_any (a:Option Addr) (cap:Nat) (Is:List Pl.It) (w:World) (hl:Is.length≤1048576) (hv:Mem.zb0 w a Is) (hok:∀x∈Is,x.t.L.length≤1048576∧∀n∈x.t.L,n.path.size≤1048576∧n.data.size≤1048576) (hR:∀x∈Is,Mem.okR x.t.a x.t.cap x.t.L):
  Calls Tryz.prog 30 #[.slice a Is.length cap] w fun e w'=>∃v,e= .returned (.agg #[v, .int .i64 (Pl.zb9 (Is.map Pl.It.r))])∧Mem.ownN w' w.heap.size v (Pl.zb8 (Is.map Pl.It.r))∧Below w.heap.size w w':=by
 have b0:Below w.heap.size w (w.alloc (.cells #[.slice none 0 0, .int .i64 0] 64)):=bE0;have V0:=Mem.Blk.new w #[.slice none 0 0, .int .i64 0] 64;have hs0:(w.alloc (.cells #[.slice none 0 0, .int .i64 0] 64)).heap.size=w.heap.size+1:=by simp
 have hvi:=hide (zw.specView_any a cap Is (w.alloc (.cells #[.slice none 0 0, .int .i64 0] 64)) hl (Mem.zb2 hv b0) hok hR);have HN:Hid (Pl.zb9 (Is.map Pl.It.r)≠0→Pl.ze5 (Is.map Pl.It.r)=[]∧Pl.zb8 (Is.map Pl.It.r)=[]):=fun h=>⟨Pl.view_nil h,Pl.sight_no h⟩;have HY:Hid (Pl.zb9 (Is.map Pl.It.r)=0→Pl.za5 (Pl.ze5 (Is.map Pl.It.r))=true∧Pl.zb8 (Is.map Pl.It.r)=Pl.zc8 (Pl.ze5 (Is.map Pl.It.r))):=fun h=>⟨Pl.yd0 h,Pl.yi1 h⟩;have HL:=hide (Pl.view_le (Is.map Pl.It.r));generalize Pl.zb8 (Is.map Pl.It.r)=O at HN HY ⊢;generalize Pl.zb9 (Is.map Pl.It.r)=C at hvi HN HY ⊢;generalize Pl.ze5 (Is.map Pl.It.r)=V at hvi HN HY HL;clear hv hok hR;go_enter Tryz.func30,Tryz.ntmps30
 go_wp2_with fail
 generalize w.alloc (.cells #[.slice none 0 0, .int .i64 0] 64)=w2 at b0 V0 hs0 hvi ⊢;refine (za hvi).mono ?_;rintro e w1 ⟨v1,rfl,own1,b1⟩;obtain ⟨a1,c1,rfl⟩:=Mem.za4 own1;have bw1:=b0.trans (b1.mono b0.size);have V3:=(V0.call b1).alloc (.cells #[.slice a1 V.length c1, .int .i64 C] 64);have bw3:=bw1.alloc bw1.size (.cells #[.slice a1 V.length c1, .int .i64 C] 64);have X3:=Mem.Blk.new w1 #[.slice a1 V.length c1, .int .i64 C] 64;have O3:=Mem.zf5 own1 (.cells #[.slice a1 V.length c1, .int .i64 C] 64);have hs1:=b1.size;obtain ⟨x0,x1⟩:=jc2 X3;clear hvi b0 V0 own1 b1 bw1 X3;by_cases hC:C=0
 ·subst hC;obtain ⟨ht,rfl⟩:=za HY rfl;have hpl:=hide (zw1.l04_any a1 c1 V (w1.alloc (.cells #[.slice a1 V.length c1, .int .i64 0] 64)) (by have :=(za HL).1;omega) (Mem.ze9 O3).2);clear HN HY HL ht O3;go_wp2_with fail
  generalize w1.alloc (.cells #[.slice a1 V.length c1, .int .i64 0] 64)=w4 at V3 bw3 hpl x0 x1 ⊢;refine (za hpl).mono ?_;rintro e w5 ⟨v5,rfl,own5,b5⟩;obtain ⟨a5,c5,rfl⟩:=Mem.za4 own5;have hR:=V3.lt;have OW:=hide (Mem.zb3 (Mem.za8 (Mem.za8 own5 ⟨w.heap.size,0,none⟩ (.slice a5 (Pl.zc8 V).length c5) (by show w.heap.size<_;omega)) ⟨w.heap.size,1,none⟩ (.int .i64 0) (by show w.heap.size<_;omega)) (show w.heap.size≤w4.heap.size by omega));have HB:=hide (bw3.trans (b5.mono bw3.size));obtain ⟨⟨d0,d1⟩,f0,f1⟩:=jf2 (V3.call b5);clear hpl own5 b5 V3 bw3 x0 x1;go_wp2
  refine bodyPost_ret (v:= .agg #[.slice a5 (Pl.zc8 V).length c5, .int .i64 0]) (by simp [results,Tryz.results30,go_sem,d0,d1]) rfl ⟨_,rfl,za OW,?_⟩
  first |exact ((za HB).setCell (Nat.le_refl _) _).setCell (Nat.le_refl _) _|exact (za HB).setCell (Nat.le_refl _) _
 ·obtain ⟨rfl,rfl⟩:=za HN hC;have hD1:(C==0)=false:=by simpa using hC
  have hD2:decide (C=0)=false:=by simpa using hC
  have hD3:(C !=0)=true:=by simpa using hC
  have hil:=hide (fun W=>zj1.zc6 C W);clear HN HY HL O3;go_wp2_with fail
  refine (za hil _).mono ?_;rintro e w5 ⟨rfl,b5⟩;have HB:=hide (bw3.trans (b5.mono bw3.size));obtain ⟨⟨d0,d1⟩,f0,f1⟩:=jf2 (V3.call b5);clear hil b5 V3 bw3 x0 x1;go_wp2
  refine bodyPost_ret (v:= .agg #[.slice none 0 0, .int .i64 C]) (by simp [results,Tryz.results30,go_sem,d0,d1]) rfl ⟨_,rfl,Mem.zb5 _ _,?_⟩
  first |exact ((za HB).setCell (Nat.le_refl _) _).setCell (Nat.le_refl _) _|exact (za HB).setCell (Nat.le_refl _) _
end zw
end Go.Proofs.YthdhhcgopfgcbaaGreatDoor
