import Derived.Test.YtpggbphcbcogdaaGreatDoorTakeC
import Derived.Test.YtpggbphcbcogdaaGreatDoorTakeK
import Derived.Test.YtpggbphcbcogdaaGreatDoorMemFx
import Derived.Test.YtpggbphcbcogdaaGreatDoorWNodesJ
namespace Go.Proofs.YtpggbphcbcogdaaGreatDoor
open Go.RowKit
namespace zn9
set_option linter.unusedSimpArgs false in
set_option maxRecDepth 100000 in
set_option maxHeartbeats 1000000 in
theorem item_any (m:Int) (a:Option Addr) (cap:Nat) (L:List Pl.Nd) (w:World) (hl:L.length≤1048576) (hv:Mem.zb5 w a L) (hok:∀n∈L,n.path.size≤1048576∧n.data.size≤1048576)
  (r1 r2 r3:TypeId) (x1 x2 x3:Value) (hE:zk2.Errs w r1 r2 r3 x1 x2 x3):
  Calls Tryz.prog 52 #[.agg #[.int .i64 m, .slice a L.length cap]] w fun e w'=>((Pl.ze3 m L=true∧∃B,e= .returned (.tuple #[.agg #[.map (some B), .int .i64 m], .nilIface])∧w.heap.size≤B∧Mem.ownM w' B L)∨
   (Pl.ze3 m L=false∧∃k,e= .returned (.tuple #[.agg #[.map none, .int .i64 k], .iface r1 x1])))∧Below w.heap.size w w':=by
 have b0:Below w.heap.size w ((w.alloc (.cells #[.int .i64 m, .slice a L.length cap] 52)).alloc (.cells #[.map none, .int .i64 0] 59)):=(bE0).alloc (by simp) _;have k1:=(hE.call b0).c1;have HB0:=hide b0;by_cases h1:m<0
 ·have hb:Pl.ze3 m L=false:=by unfold Pl.ze3;rw [show decide (0≤m)=false from decide_eq_false (by omega)];simp
  clear b0 hv hok hE;go_enter Tryz.func52,Tryz.ntmps52
  go_wp2
  go_region
  go_wp2
  refine bodyPost_ret (v:= .tuple #[.agg #[.map none, .int .i64 0], .iface r1 x1]) (by simp [results,Tryz.results52,go_sem]) rfl ⟨.inr ⟨hb,0,rfl⟩,?_⟩;exact Mem.below_drewN (za HB0) 1
 by_cases h2:4<m
 ·have hb:Pl.ze3 m L=false:=by unfold Pl.ze3;rw [show decide (m≤4)=false from decide_eq_false (by omega)];simp
  clear b0 hv hok hE;go_enter Tryz.func52,Tryz.ntmps52
  go_wp2
  go_region
  go_wp2
  refine bodyPost_ret (v:= .tuple #[.agg #[.map none, .int .i64 0], .iface r1 x1]) (by simp [results,Tryz.results52,go_sem]) rfl ⟨.inr ⟨hb,0,rfl⟩,?_⟩;exact Mem.below_drewN (za HB0) 1
 by_cases h3:0<m∧0<L.length
 ·have hb:Pl.ze3 m L=false:=by
   rw [Pl.zr9 (by omega),show decide (L.length=0)=false from decide_eq_false (by omega)];simp
  have u1:=h3.1;have u2:(0:Int)<(L.length:Int):=by omega
  clear b0 hv hok hE;go_enter Tryz.func52,Tryz.ntmps52
  go_wp2
  go_region
  go_wp2
  refine bodyPost_ret (v:= .tuple #[.agg #[.map none, .int .i64 0], .iface r1 x1]) (by simp [results,Tryz.results52,go_sem]) rfl ⟨.inr ⟨hb,0,rfl⟩,?_⟩;exact Mem.below_drewN (za HB0) 1
 have hb:Pl.ze3 m L=Pl.zb9 L:=by
  by_cases h0:m=0
  ·subst h0;exact Pl.zy1 L
  ·have hL:L=[]:=List.eq_nil_of_length_eq_zero (by omega);subst hL;rw [Pl.zr9 h0,Pl.treeB_nil,decide_eq_true (show 1≤m by omega),decide_eq_true (show m≤4 by omega)];rfl
 rw [hb];have hz:=hide (zk2.nodes_any a cap L _ hl (Mem.za9 hv b0) hok r1 r2 r3 x1 x2 x3 (hE.call b0))
 have r2':Mem.Blk ((w.alloc (.cells #[.int .i64 m, .slice a L.length cap] 52)).alloc (.cells #[.map none, .int .i64 0] 59)) (w.heap.size+1) #[.map none, .int .i64 0] 59:=by
  have :=Mem.Blk.new (w.alloc (.cells #[.int .i64 m, .slice a L.length cap] 52)) #[.map none, .int .i64 0] 59
  simpa using this
 have r1':Mem.Blk ((w.alloc (.cells #[.int .i64 m, .slice a L.length cap] 52)).alloc (.cells #[.map none, .int .i64 0] 59)) w.heap.size #[.int .i64 m, .slice a L.length cap] 52:=(Mem.Blk.new w _ _).alloc _;clear hv hok hE k1 b0 hb;by_cases h4:0<m
 ·have u2:¬ (0:Int)<(L.length:Int):=by omega
  go_enter Tryz.func52,Tryz.ntmps52
  go_wp2_with fail
  generalize ((w.alloc (.cells #[.int .i64 m, .slice a L.length cap] 52)).alloc (.cells #[.map none, .int .i64 0] 59))=w2 at hz r1' r2' HB0 ⊢;refine (za hz).mono ?_;rintro e w1 ⟨h1,b1⟩;have R1:=r1'.call b1;have R2:=r2'.call b1;obtain ⟨c10,c11⟩:=jc2 R1;obtain ⟨⟨c20,c21⟩,f20,f21⟩:=jf2 R2;have bb:=hide ((za HB0).trans (b1.mono (za HB0).size));have HS2:Hid (w.heap.size+2≤w2.heap.size):=hide (by have :=r2'.lt;omega);clear hz b1 r1' r2' R1 R2 HB0
  rcases h1 with ⟨hT,B,rfl,hB,hm⟩|⟨hT,rfl⟩
  ·have HM:Hid (w.heap.size≤B∧Mem.ownM ((w1.setCell ⟨w.heap.size+1,0,none⟩ (.map (some B))).setCell ⟨w.heap.size+1,1,none⟩ (.int .i64 m)) B L):=
    hide ⟨by have :=(za HS2);omega,(Mem.ownM.set (Mem.ownM.set hm _ _ (by have :=(za HS2);show B≠w.heap.size+1;omega)) _ _ (by have :=(za HS2);show B≠w.heap.size+1;omega))⟩
   clear hm hB;go_wp2
   refine bodyPost_ret (v:= .tuple #[.agg #[.map (some B), .int .i64 m], .nilIface]) (by simp [results,Tryz.results52,go_sem,c20,c21]) rfl ⟨.inl ⟨hT,B,rfl,za HM⟩,?_⟩;exact ((za bb).setCell (by show w.heap.size≤w.heap.size+1;omega) _).setCell (by show w.heap.size≤w.heap.size+1;omega) _
  ·go_wp2
   refine bodyPost_ret (v:= .tuple #[.agg #[.map none, .int .i64 m], .iface r1 x1]) (by simp [results,Tryz.results52,go_sem,c20,c21]) rfl ⟨.inr ⟨hT,m,rfl⟩,?_⟩;exact ((za bb).setCell (by show w.heap.size≤w.heap.size+1;omega) _).setCell (by show w.heap.size≤w.heap.size+1;omega) _
 ·go_enter Tryz.func52,Tryz.ntmps52
  go_wp2_with fail
  generalize ((w.alloc (.cells #[.int .i64 m, .slice a L.length cap] 52)).alloc (.cells #[.map none, .int .i64 0] 59))=w2 at hz r1' r2' HB0 ⊢;refine (za hz).mono ?_;rintro e w1 ⟨h1,b1⟩;have R1:=r1'.call b1;have R2:=r2'.call b1;obtain ⟨c10,c11⟩:=jc2 R1;obtain ⟨⟨c20,c21⟩,f20,f21⟩:=jf2 R2;have bb:=hide ((za HB0).trans (b1.mono (za HB0).size));have HS2:Hid (w.heap.size+2≤w2.heap.size):=hide (by have :=r2'.lt;omega);clear hz b1 r1' r2' R1 R2 HB0
  rcases h1 with ⟨hT,B,rfl,hB,hm⟩|⟨hT,rfl⟩
  ·have HM:Hid (w.heap.size≤B∧Mem.ownM ((w1.setCell ⟨w.heap.size+1,0,none⟩ (.map (some B))).setCell ⟨w.heap.size+1,1,none⟩ (.int .i64 m)) B L):=
    hide ⟨by have :=(za HS2);omega,(Mem.ownM.set (Mem.ownM.set hm _ _ (by have :=(za HS2);show B≠w.heap.size+1;omega)) _ _ (by have :=(za HS2);show B≠w.heap.size+1;omega))⟩
   clear hm hB;go_wp2
   refine bodyPost_ret (v:= .tuple #[.agg #[.map (some B), .int .i64 m], .nilIface]) (by simp [results,Tryz.results52,go_sem,c20,c21]) rfl ⟨.inl ⟨hT,B,rfl,za HM⟩,?_⟩;exact ((za bb).setCell (by show w.heap.size≤w.heap.size+1;omega) _).setCell (by show w.heap.size≤w.heap.size+1;omega) _
  ·go_wp2
   refine bodyPost_ret (v:= .tuple #[.agg #[.map none, .int .i64 m], .iface r1 x1]) (by simp [results,Tryz.results52,go_sem,c20,c21]) rfl ⟨.inr ⟨hT,m,rfl⟩,?_⟩;exact ((za bb).setCell (by show w.heap.size≤w.heap.size+1;omega) _).setCell (by show w.heap.size≤w.heap.size+1;omega) _
end zn9
end Go.Proofs.YtpggbphcbcogdaaGreatDoor
