/- Several texts of one claim in one file: WCopied, WRising, WRiseU, WItemsOf, WItemNe, MemUpA. -/
import Derived.Test.YtkighhofjmginaaGreatDoorG30
import Derived.Test.YtkighhofjmginaaGreatDoorG21
import Derived.Deep.Upon
namespace Go.Proofs.YtkighhofjmginaaGreatDoor
section
open Go.RowKit
namespace WCopied
theorem join1 (t:ByteArray) (b:Nat) (w:World) (ht:t.size≤1048576) (hv:Mem.Var w b [.string t]):
  Calls Tryz.prog 76 #[.slice (some ⟨b,0,none⟩) 1 1] w fun e w'=>e= .returned (.string t)∧Below w.heap.size w w':=by
 have h:=WJoin.any b 0 1 [t] w (by simp) (by rw [Pl.tot_one];omega) (fun j u hj=>by
  match j,hj with
  |0,hj=>simp at hj;subst hj;exact hv.2 0 _ rfl
  |j+1,hj=>simp at hj) hv.1
 rw [Pl.cat_one,show (⟨t.data.toList.toArray⟩:ByteArray)=t by simp] at h;exact h
def Held (w:World) (n:Pl.Nd) (W:World):Prop:=
 Below w.heap.size w W∧W.heap[w.heap.size]? =some (.cells #[.string n.path, .int .i64 n.kind, .string n.data, .int .i64 n.time, .int .i64 n.mark] 60 (0,0))∧W.heap[w.heap.size+1]? =some (.cells #[.string ⟨#[]⟩, .int .i64 0, .string ⟨#[]⟩, .int .i64 0, .int .i64 0] 60 (0,0))
theorem Held.keep {w W W':World} {n:Pl.Nd} (h:Held w n W) (b:Below W.heap.size W W'):Held w n W':=
 ⟨h.1.trans (b.mono h.1.size),(b.block _ (Array.getElem?_eq_some_iff.1 h.2.1).1).trans h.2.1,(b.block _ (Array.getElem?_eq_some_iff.1 h.2.2).1).trans h.2.2⟩
theorem Held.at {w W:World} {n:Pl.Nd} (h:Held w n W) (k:Nat):W.cell? ⟨w.heap.size,k,none⟩=(#[.string n.path, .int .i64 n.kind, .string n.data, .int .i64 n.time, .int .i64 n.mark]:Array Value)[k]?:=cell_of_row W _ k _ _ (0,0) h.2.1
theorem Held.fr {w W:World} {n:Pl.Nd} (h:Held w n W) (k:Nat):W.frozen? ⟨w.heap.size,k,none⟩=false:=Mem.zb8 h.2.1
theorem Held.zat {w W:World} {n:Pl.Nd} (h:Held w n W) (k:Nat):W.cell? ⟨w.heap.size+1,k,none⟩=(#[.string ⟨#[]⟩, .int .i64 0, .string ⟨#[]⟩, .int .i64 0, .int .i64 0]:Array Value)[k]?:=cell_of_row W _ k _ _ (0,0) h.2.2
theorem Held.zfr {w W:World} {n:Pl.Nd} (h:Held w n W) (k:Nat):W.frozen? ⟨w.heap.size+1,k,none⟩=false:=Mem.zb8 h.2.2
theorem Held.put0 {w W:World} {n:Pl.Nd} (h:Held w n W):Held w n (W.setCell ⟨w.heap.size,0,none⟩ (.string n.path)):=
 ⟨h.1.setCell (Nat.le_refl _) _,heap_setCell_same _ _ 0 _ _ _ h.2.1,(Below.heap_setCell _ _ _ _ (by show w.heap.size+1≠w.heap.size;omega)).trans h.2.2⟩
theorem Held.put2 {w W:World} {n:Pl.Nd} (h:Held w n W):Held w n (W.setCell ⟨w.heap.size,2,none⟩ (.string n.data)):=
 ⟨h.1.setCell (Nat.le_refl _) _,heap_setCell_same _ _ 2 _ _ _ h.2.1,(Below.heap_setCell _ _ _ _ (by show w.heap.size+1≠w.heap.size;omega)).trans h.2.2⟩
theorem Held.res {w WZ:World} {n:Pl.Nd} (HF:Held w n WZ):(((((WZ.setCell ⟨w.heap.size+1,0,none⟩ (.string n.path)).setCell ⟨w.heap.size+1,1,none⟩ (.int .i64 n.kind)).setCell ⟨w.heap.size+1,2,none⟩ (.string n.data)).setCell ⟨w.heap.size+1,3,none⟩ (.int .i64 n.time)).setCell ⟨w.heap.size+1,4,none⟩ (.int .i64 n.mark)).heap[w.heap.size+1]? =some (.cells #[.string n.path, .int .i64 n.kind, .string n.data, .int .i64 n.time, .int .i64 n.mark] 60 (0,0)):=(heap_setCell_same _ _ 4 _ _ _ (heap_setCell_same _ _ 3 _ _ _ (heap_setCell_same _ _ 2 _ _ _ (heap_setCell_same _ _ 1 _ _ _ (heap_setCell_same _ _ 0 _ _ _ HF.2.2)))))
set_option linter.unusedSimpArgs false in
set_option maxRecDepth 100000 in
set_option maxHeartbeats 1000000 in
theorem any (n:Pl.Nd) (w:World) (h1:n.path.size≤1048576) (h2:n.data.size≤1048576):
  Calls Tryz.prog 143 #[n.val] w fun e w'=>e= .returned n.val∧Below w.heap.size w w':=by
 have H0:Held w n ((w.alloc (.cells #[.string n.path, .int .i64 n.kind, .string n.data, .int .i64 n.time, .int .i64 n.mark] 60)).alloc (.cells #[.string ⟨#[]⟩, .int .i64 0, .string ⟨#[]⟩, .int .i64 0, .int .i64 0] 60)):=⟨(bE0).alloc (by simp) _,(Below.heap_alloc _ _ _ (by simp)).trans (heap_alloc_new _ _),Mem.zi _ _ _⟩;simp only [Pl.Nd.val];go_enter Tryz.func143,Tryz.ntmps143
 go_wp2_with fail
 generalize ((w.alloc (.cells #[.string n.path, .int .i64 n.kind, .string n.data, .int .i64 n.time, .int .i64 n.mark] 60)).alloc (.cells #[.string ⟨#[]⟩, .int .i64 0, .string ⟨#[]⟩, .int .i64 0, .int .i64 0] 60))=W0 at H0 ⊢;have MK:Hid (∀W',Held w n W'→(Held w n W'∧W'.cell? ⟨w.heap.size,0,none⟩=some (.string n.path)∧W'.cell? ⟨w.heap.size,2,none⟩=some (.string n.data)∧W'.frozen? ⟨w.heap.size,0,none⟩=false∧W'.frozen? ⟨w.heap.size,2,none⟩=false)):=fun W' h=>⟨h,h.at 0,h.at 2,h.fr 0,h.fr 2⟩;refine wp_region_held_drew (S:=fun W'=>Held w n W'∧W'.cell? ⟨w.heap.size,0,none⟩=some (.string n.path)∧W'.cell? ⟨w.heap.size,2,none⟩=some (.string n.data)∧W'.frozen? ⟨w.heap.size,0,none⟩=false∧W'.frozen? ⟨w.heap.size,2,none⟩=false) (by kernel_rfl) ?_ (fun hHeld=>?_)
 ·exact za MK _ (H0.keep ⟨rfl,rfl,rfl,Nat.le_refl _,fun _ _=>rfl⟩)
 generalize W0.drew=W1 at hHeld ⊢;clear H0;refine TB 0 ?_;refine TB 1 ?_;refine TB 4 ?_;refine TB 5 ?_;refine wpAnyH_ready (rs:=[2,6]) (by kernel_rfl) (by simp) ?_;refine AllReadyH.cons rfl (fun K hK=>?_) (AllReadyH.cons rfl (fun K hK=>?_) AllReadyH.nil)
 ·go_simp
  refine hK.out _ _ ?_ (fun hHeld=>?_)
  ·exact za MK _ (hHeld.1.keep (bE0))
  clear hK K
  try simp only [Act.put,kBs]
  have vP:=Mem.zg9 (W1) [.string n.path] 9;refine wpAnyH_ready (rs:=[3,6]) (by kernel_rfl) (by simp) ?_;refine AllReadyH.cons rfl (fun K hK=>?_) (AllReadyH.cons rfl (fun K hK=>?_) AllReadyH.nil)
  ·go_simp
   refine (join1 n.path _ _ h1 vP).mono ?_;rintro e wX ⟨rfl,bX⟩;refine hK.out _ _ ?_ (fun hHeld=>?_)
   ·exact za MK _ (hHeld.1.keep bX)
   clear hK K
   try simp only [Act.put,kBs]
   refine TB 8 ?_;refine RN 6 fun K hK=>?_;go_simp
   refine hK.out _ _ ?_ (fun hHeld=>?_)
   ·exact za MK _ (hHeld.1.keep (bE0))
   clear hK K
   try simp only [Act.put,kBs]
   have vD:=Mem.zg9 (wX) [.string n.data] 9;refine RN 7 fun K hK=>?_;go_simp
   refine (join1 n.data _ _ h2 vD).mono ?_;rintro e wY ⟨rfl,bY⟩;refine hK.out _ _ ?_ (fun hHeld=>?_)
   ·exact za MK _ (hHeld.1.keep bY)
   clear hK K
   try simp only [Act.put,kBs]
   refine RN 9 fun K hK=>?_;go_simp
   refine hK.out _ _ ?_ (fun hHeld=>?_)
   ·exact za MK _ (hHeld.1.put0)
   clear hK K
   try simp only [Act.put,kBs]
   refine TB 10 ?_;refine RN 11 fun K hK=>?_;go_simp
   refine hK.out _ _ ?_ (fun hHeld=>?_)
   ·exact za MK _ (hHeld.1.put2)
   clear hK K
   try simp only [Act.put,kBs]
   refine wpAnyH_done (by kernel_rfl) ?_ _;have HF:=hHeld.1;generalize ((wY.setCell ⟨w.heap.size,0,none⟩ (.string n.path)).setCell ⟨w.heap.size,2,none⟩ (.string n.data))=WZ at HF ⊢;have q0:=HF.at 0;have q1:=HF.at 1;have q2:=HF.at 2;have q3:=HF.at 3;have q4:=HF.at 4;have z0:=HF.zat 0;have f0:=HF.zfr 0;have z1:=HF.zat 1;have f1:=HF.zfr 1;have z2:=HF.zat 2;have f2:=HF.zfr 2;have z3:=HF.zat 3;have f3:=HF.zfr 3;have z4:=HF.zat 4;have f4:=HF.zfr 4;simp only [kGs] at q0 q1 q2 q3 q4 z0 z1 z2 z3 z4;have r5:=HF.res;have d0:(((((WZ.setCell ⟨w.heap.size+1,0,none⟩ (.string n.path)).setCell ⟨w.heap.size+1,1,none⟩ (.int .i64 n.kind)).setCell ⟨w.heap.size+1,2,none⟩ (.string n.data)).setCell ⟨w.heap.size+1,3,none⟩ (.int .i64 n.time)).setCell ⟨w.heap.size+1,4,none⟩ (.int .i64 n.mark)).cell? ⟨w.heap.size+1,0,none⟩=some (.string n.path):=(cell_of_row _ _ 0 _ _ (0,0) r5).trans (by simp)
   have d1:(((((WZ.setCell ⟨w.heap.size+1,0,none⟩ (.string n.path)).setCell ⟨w.heap.size+1,1,none⟩ (.int .i64 n.kind)).setCell ⟨w.heap.size+1,2,none⟩ (.string n.data)).setCell ⟨w.heap.size+1,3,none⟩ (.int .i64 n.time)).setCell ⟨w.heap.size+1,4,none⟩ (.int .i64 n.mark)).cell? ⟨w.heap.size+1,1,none⟩=some (.int .i64 n.kind):=(cell_of_row _ _ 1 _ _ (0,0) r5).trans (by simp);have d2:(((((WZ.setCell ⟨w.heap.size+1,0,none⟩ (.string n.path)).setCell ⟨w.heap.size+1,1,none⟩ (.int .i64 n.kind)).setCell ⟨w.heap.size+1,2,none⟩ (.string n.data)).setCell ⟨w.heap.size+1,3,none⟩ (.int .i64 n.time)).setCell ⟨w.heap.size+1,4,none⟩ (.int .i64 n.mark)).cell? ⟨w.heap.size+1,2,none⟩=some (.string n.data):=(cell_of_row _ _ 2 _ _ (0,0) r5).trans (by simp)
   have d3:(((((WZ.setCell ⟨w.heap.size+1,0,none⟩ (.string n.path)).setCell ⟨w.heap.size+1,1,none⟩ (.int .i64 n.kind)).setCell ⟨w.heap.size+1,2,none⟩ (.string n.data)).setCell ⟨w.heap.size+1,3,none⟩ (.int .i64 n.time)).setCell ⟨w.heap.size+1,4,none⟩ (.int .i64 n.mark)).cell? ⟨w.heap.size+1,3,none⟩=some (.int .i64 n.time):=(cell_of_row _ _ 3 _ _ (0,0) r5).trans (by simp);have d4:(((((WZ.setCell ⟨w.heap.size+1,0,none⟩ (.string n.path)).setCell ⟨w.heap.size+1,1,none⟩ (.int .i64 n.kind)).setCell ⟨w.heap.size+1,2,none⟩ (.string n.data)).setCell ⟨w.heap.size+1,3,none⟩ (.int .i64 n.time)).setCell ⟨w.heap.size+1,4,none⟩ (.int .i64 n.mark)).cell? ⟨w.heap.size+1,4,none⟩=some (.int .i64 n.mark):=(cell_of_row _ _ 4 _ _ (0,0) r5).trans (by simp)
   have bf:Below w.heap.size w (((((WZ.setCell ⟨w.heap.size+1,0,none⟩ (.string n.path)).setCell ⟨w.heap.size+1,1,none⟩ (.int .i64 n.kind)).setCell ⟨w.heap.size+1,2,none⟩ (.string n.data)).setCell ⟨w.heap.size+1,3,none⟩ (.int .i64 n.time)).setCell ⟨w.heap.size+1,4,none⟩ (.int .i64 n.mark)):=(((((HF.1.setCell (by simp) _).setCell (by simp) _).setCell (by simp) _).setCell (by simp) _).setCell (by simp) _);clear MK hHeld r5 HF;go_wp2
   refine bodyPost_ret (v:= .agg #[.string n.path, .int .i64 n.kind, .string n.data, .int .i64 n.time, .int .i64 n.mark]) (by simp [results,Tryz.results143,go_sem,d0,d1,d2,d3,d4]) rfl ⟨rfl,bf⟩
  ·go_simp
   refine hK.out _ _ ?_ (fun hHeld=>?_)
   ·exact za MK _ (hHeld.1.keep (bE0))
   clear hK K
   try simp only [Act.put,kBs]
   have vD:=Mem.zg9 (W1.alloc (.cells #[.string n.path] 9)) [.string n.data] 9;rw [show (W1.alloc (.cells #[.string n.path] 9)).heap.size=W1.heap.size+1 by simp] at vD;have vP2:=Mem.var_alloc vP (.cells #[.string n.data] 9);refine RN 3 fun K hK=>?_;go_simp
   refine (join1 n.path _ _ h1 vP2).mono ?_;rintro e wX ⟨rfl,bX⟩;refine hK.out _ _ ?_ (fun hHeld=>?_)
   ·exact za MK _ (hHeld.1.keep bX)
   clear hK K
   try simp only [Act.put,kBs]
   refine TB 8 ?_;have vD2:=Mem.zm5 vD bX;refine RN 7 fun K hK=>?_;go_simp
   refine (join1 n.data _ _ h2 vD2).mono ?_;rintro e wY ⟨rfl,bY⟩;refine hK.out _ _ ?_ (fun hHeld=>?_)
   ·exact za MK _ (hHeld.1.keep bY)
   clear hK K
   try simp only [Act.put,kBs]
   refine RN 9 fun K hK=>?_;go_simp
   refine hK.out _ _ ?_ (fun hHeld=>?_)
   ·exact za MK _ (hHeld.1.put0)
   clear hK K
   try simp only [Act.put,kBs]
   refine TB 10 ?_;refine RN 11 fun K hK=>?_;go_simp
   refine hK.out _ _ ?_ (fun hHeld=>?_)
   ·exact za MK _ (hHeld.1.put2)
   clear hK K
   try simp only [Act.put,kBs]
   refine wpAnyH_done (by kernel_rfl) ?_ _;have HF:=hHeld.1;generalize ((wY.setCell ⟨w.heap.size,0,none⟩ (.string n.path)).setCell ⟨w.heap.size,2,none⟩ (.string n.data))=WZ at HF ⊢;have q0:=HF.at 0;have q1:=HF.at 1;have q2:=HF.at 2;have q3:=HF.at 3;have q4:=HF.at 4;have z0:=HF.zat 0;have f0:=HF.zfr 0;have z1:=HF.zat 1;have f1:=HF.zfr 1;have z2:=HF.zat 2;have f2:=HF.zfr 2;have z3:=HF.zat 3;have f3:=HF.zfr 3;have z4:=HF.zat 4;have f4:=HF.zfr 4;simp only [kGs] at q0 q1 q2 q3 q4 z0 z1 z2 z3 z4;have r5:=HF.res;have d0:(((((WZ.setCell ⟨w.heap.size+1,0,none⟩ (.string n.path)).setCell ⟨w.heap.size+1,1,none⟩ (.int .i64 n.kind)).setCell ⟨w.heap.size+1,2,none⟩ (.string n.data)).setCell ⟨w.heap.size+1,3,none⟩ (.int .i64 n.time)).setCell ⟨w.heap.size+1,4,none⟩ (.int .i64 n.mark)).cell? ⟨w.heap.size+1,0,none⟩=some (.string n.path):=(cell_of_row _ _ 0 _ _ (0,0) r5).trans (by simp)
   have d1:(((((WZ.setCell ⟨w.heap.size+1,0,none⟩ (.string n.path)).setCell ⟨w.heap.size+1,1,none⟩ (.int .i64 n.kind)).setCell ⟨w.heap.size+1,2,none⟩ (.string n.data)).setCell ⟨w.heap.size+1,3,none⟩ (.int .i64 n.time)).setCell ⟨w.heap.size+1,4,none⟩ (.int .i64 n.mark)).cell? ⟨w.heap.size+1,1,none⟩=some (.int .i64 n.kind):=(cell_of_row _ _ 1 _ _ (0,0) r5).trans (by simp);have d2:(((((WZ.setCell ⟨w.heap.size+1,0,none⟩ (.string n.path)).setCell ⟨w.heap.size+1,1,none⟩ (.int .i64 n.kind)).setCell ⟨w.heap.size+1,2,none⟩ (.string n.data)).setCell ⟨w.heap.size+1,3,none⟩ (.int .i64 n.time)).setCell ⟨w.heap.size+1,4,none⟩ (.int .i64 n.mark)).cell? ⟨w.heap.size+1,2,none⟩=some (.string n.data):=(cell_of_row _ _ 2 _ _ (0,0) r5).trans (by simp)
   have d3:(((((WZ.setCell ⟨w.heap.size+1,0,none⟩ (.string n.path)).setCell ⟨w.heap.size+1,1,none⟩ (.int .i64 n.kind)).setCell ⟨w.heap.size+1,2,none⟩ (.string n.data)).setCell ⟨w.heap.size+1,3,none⟩ (.int .i64 n.time)).setCell ⟨w.heap.size+1,4,none⟩ (.int .i64 n.mark)).cell? ⟨w.heap.size+1,3,none⟩=some (.int .i64 n.time):=(cell_of_row _ _ 3 _ _ (0,0) r5).trans (by simp);have d4:(((((WZ.setCell ⟨w.heap.size+1,0,none⟩ (.string n.path)).setCell ⟨w.heap.size+1,1,none⟩ (.int .i64 n.kind)).setCell ⟨w.heap.size+1,2,none⟩ (.string n.data)).setCell ⟨w.heap.size+1,3,none⟩ (.int .i64 n.time)).setCell ⟨w.heap.size+1,4,none⟩ (.int .i64 n.mark)).cell? ⟨w.heap.size+1,4,none⟩=some (.int .i64 n.mark):=(cell_of_row _ _ 4 _ _ (0,0) r5).trans (by simp)
   have bf:Below w.heap.size w (((((WZ.setCell ⟨w.heap.size+1,0,none⟩ (.string n.path)).setCell ⟨w.heap.size+1,1,none⟩ (.int .i64 n.kind)).setCell ⟨w.heap.size+1,2,none⟩ (.string n.data)).setCell ⟨w.heap.size+1,3,none⟩ (.int .i64 n.time)).setCell ⟨w.heap.size+1,4,none⟩ (.int .i64 n.mark)):=(((((HF.1.setCell (by simp) _).setCell (by simp) _).setCell (by simp) _).setCell (by simp) _).setCell (by simp) _);clear MK hHeld r5 HF;go_wp2
   refine bodyPost_ret (v:= .agg #[.string n.path, .int .i64 n.kind, .string n.data, .int .i64 n.time, .int .i64 n.mark]) (by simp [results,Tryz.results143,go_sem,d0,d1,d2,d3,d4]) rfl ⟨rfl,bf⟩
 ·go_simp
  refine hK.out _ _ ?_ (fun hHeld=>?_)
  ·exact za MK _ (hHeld.1.keep (bE0))
  clear hK K
  try simp only [Act.put,kBs]
  have vD:=Mem.zg9 (W1) [.string n.data] 9;refine RN 2 fun K hK=>?_;go_simp
  refine hK.out _ _ ?_ (fun hHeld=>?_)
  ·exact za MK _ (hHeld.1.keep (bE0))
  clear hK K
  try simp only [Act.put,kBs]
  have vP:=Mem.zg9 (W1.alloc (.cells #[.string n.data] 9)) [.string n.path] 9;rw [show (W1.alloc (.cells #[.string n.data] 9)).heap.size=W1.heap.size+1 by simp] at vP;have vD2:=Mem.var_alloc vD (.cells #[.string n.path] 9);refine RN 3 fun K hK=>?_;go_simp
  refine (join1 n.path _ _ h1 vP).mono ?_;rintro e wX ⟨rfl,bX⟩;refine hK.out _ _ ?_ (fun hHeld=>?_)
  ·exact za MK _ (hHeld.1.keep bX)
  clear hK K
  try simp only [Act.put,kBs]
  refine TB 8 ?_;have vD3:=Mem.zm5 vD2 bX;refine RN 7 fun K hK=>?_;go_simp
  refine (join1 n.data _ _ h2 vD3).mono ?_;rintro e wY ⟨rfl,bY⟩;refine hK.out _ _ ?_ (fun hHeld=>?_)
  ·exact za MK _ (hHeld.1.keep bY)
  clear hK K
  try simp only [Act.put,kBs]
  refine RN 9 fun K hK=>?_;go_simp
  refine hK.out _ _ ?_ (fun hHeld=>?_)
  ·exact za MK _ (hHeld.1.put0)
  clear hK K
  try simp only [Act.put,kBs]
  refine TB 10 ?_;refine RN 11 fun K hK=>?_;go_simp
  refine hK.out _ _ ?_ (fun hHeld=>?_)
  ·exact za MK _ (hHeld.1.put2)
  clear hK K
  try simp only [Act.put,kBs]
  refine wpAnyH_done (by kernel_rfl) ?_ _;have HF:=hHeld.1;generalize ((wY.setCell ⟨w.heap.size,0,none⟩ (.string n.path)).setCell ⟨w.heap.size,2,none⟩ (.string n.data))=WZ at HF ⊢;have q0:=HF.at 0;have q1:=HF.at 1;have q2:=HF.at 2;have q3:=HF.at 3;have q4:=HF.at 4;have z0:=HF.zat 0;have f0:=HF.zfr 0;have z1:=HF.zat 1;have f1:=HF.zfr 1;have z2:=HF.zat 2;have f2:=HF.zfr 2;have z3:=HF.zat 3;have f3:=HF.zfr 3;have z4:=HF.zat 4;have f4:=HF.zfr 4;simp only [kGs] at q0 q1 q2 q3 q4 z0 z1 z2 z3 z4;have r5:=HF.res;have d0:(((((WZ.setCell ⟨w.heap.size+1,0,none⟩ (.string n.path)).setCell ⟨w.heap.size+1,1,none⟩ (.int .i64 n.kind)).setCell ⟨w.heap.size+1,2,none⟩ (.string n.data)).setCell ⟨w.heap.size+1,3,none⟩ (.int .i64 n.time)).setCell ⟨w.heap.size+1,4,none⟩ (.int .i64 n.mark)).cell? ⟨w.heap.size+1,0,none⟩=some (.string n.path):=(cell_of_row _ _ 0 _ _ (0,0) r5).trans (by simp)
  have d1:(((((WZ.setCell ⟨w.heap.size+1,0,none⟩ (.string n.path)).setCell ⟨w.heap.size+1,1,none⟩ (.int .i64 n.kind)).setCell ⟨w.heap.size+1,2,none⟩ (.string n.data)).setCell ⟨w.heap.size+1,3,none⟩ (.int .i64 n.time)).setCell ⟨w.heap.size+1,4,none⟩ (.int .i64 n.mark)).cell? ⟨w.heap.size+1,1,none⟩=some (.int .i64 n.kind):=(cell_of_row _ _ 1 _ _ (0,0) r5).trans (by simp);have d2:(((((WZ.setCell ⟨w.heap.size+1,0,none⟩ (.string n.path)).setCell ⟨w.heap.size+1,1,none⟩ (.int .i64 n.kind)).setCell ⟨w.heap.size+1,2,none⟩ (.string n.data)).setCell ⟨w.heap.size+1,3,none⟩ (.int .i64 n.time)).setCell ⟨w.heap.size+1,4,none⟩ (.int .i64 n.mark)).cell? ⟨w.heap.size+1,2,none⟩=some (.string n.data):=(cell_of_row _ _ 2 _ _ (0,0) r5).trans (by simp)
  have d3:(((((WZ.setCell ⟨w.heap.size+1,0,none⟩ (.string n.path)).setCell ⟨w.heap.size+1,1,none⟩ (.int .i64 n.kind)).setCell ⟨w.heap.size+1,2,none⟩ (.string n.data)).setCell ⟨w.heap.size+1,3,none⟩ (.int .i64 n.time)).setCell ⟨w.heap.size+1,4,none⟩ (.int .i64 n.mark)).cell? ⟨w.heap.size+1,3,none⟩=some (.int .i64 n.time):=(cell_of_row _ _ 3 _ _ (0,0) r5).trans (by simp);have d4:(((((WZ.setCell ⟨w.heap.size+1,0,none⟩ (.string n.path)).setCell ⟨w.heap.size+1,1,none⟩ (.int .i64 n.kind)).setCell ⟨w.heap.size+1,2,none⟩ (.string n.data)).setCell ⟨w.heap.size+1,3,none⟩ (.int .i64 n.time)).setCell ⟨w.heap.size+1,4,none⟩ (.int .i64 n.mark)).cell? ⟨w.heap.size+1,4,none⟩=some (.int .i64 n.mark):=(cell_of_row _ _ 4 _ _ (0,0) r5).trans (by simp)
  have bf:Below w.heap.size w (((((WZ.setCell ⟨w.heap.size+1,0,none⟩ (.string n.path)).setCell ⟨w.heap.size+1,1,none⟩ (.int .i64 n.kind)).setCell ⟨w.heap.size+1,2,none⟩ (.string n.data)).setCell ⟨w.heap.size+1,3,none⟩ (.int .i64 n.time)).setCell ⟨w.heap.size+1,4,none⟩ (.int .i64 n.mark)):=(((((HF.1.setCell (by simp) _).setCell (by simp) _).setCell (by simp) _).setCell (by simp) _).setCell (by simp) _);clear MK hHeld r5 HF;go_wp2
  refine bodyPost_ret (v:= .agg #[.string n.path, .int .i64 n.kind, .string n.data, .int .i64 n.time, .int .i64 n.mark]) (by simp [results,Tryz.results143,go_sem,d0,d1,d2,d3,d4]) rfl ⟨rfl,bf⟩
end WCopied
end
section
open Go.RowKit Go.Maps
namespace Pl
theorem lt_asym {a b:ByteArray} (ha:za0 a=true) (hb:za0 b=true) (h:ltP a b=true):ltP b a=false:=by
 cases h2:ltP b a
 ·rfl
 ·rw [zf8 ha hb] at h;rw [zf8 hb ha] at h2;have :=zj2 _ _ _ h h2;rw [zk8] at this;cases this
theorem sorted_one {S L:List Nd} (hp:S.Perm L) (hok:∀n∈L,za0 n.path=true) (h0:L.Pairwise (fun a b=>ltP a.path b.path=true)) (hs:S.Pairwise (fun a b=>ltP b.path a.path=false)):S=L:=by
 have hap:∀a∈L,∀b∈L,a.path=b.path→a=b:=by
  have h1:L.Pairwise (fun a b=>za4 (names a.path) (names b.path)=true):=List.Pairwise.imp_of_mem (fun {a b} ha hb h=>by rw [←zf8 (hok a ha) (hok b hb)];exact h) h0;exact fun a ha b hb e=>one_path h1 ha hb e
 refine List.Perm.eq_of_pairwise (le:=fun a b=>ltP b.path a.path=false) ?_ hs (List.Pairwise.imp_of_mem (fun {a b} ha hb h=>lt_asym (hok a ha) (hok b hb) h) h0) hp;intro a b ha hb h1 h2;have ha':=hp.mem_iff.1 ha;refine hap a ha' b hb ?_;by_cases e:a.path=b.path
 ·exact e
 ·have :=two_less (hok a ha') (hok b hb) e
  change ltP a.path b.path= !ltP b.path a.path at this
  rw [h1,h2] at this;cases this
end Pl
namespace MapN
theorem keyOf_inv {p:ByteArray} {kl:Lit} (h:keyOf Tryz.prog 9 (.string p)=some kl):kl=key p:=by
 simp [keyOf,Tryz.underlying9,mapKey] at h
 rw [←h.2];rfl
structure Reads (D:DataW Unit) (C:List Pl.Nd):Prop where
 has:∀n∈C,Maps.has D (key n.path)=true
 ent:∀ (p:ByteArray) (c:Pl.Nd),(∀z,D.atKey (key p) z=dat c)→c∈C∧p=c.path
structure Got (C T:List Pl.Nd) (left:Lit→Bool):Prop where
 sub:∀t∈T,t∈C
 apart:T.Pairwise (fun a b=>a.path≠b.path)
 seen:∀t∈T,left (key t.path)=false
 all:∀n∈C,left (key n.path)=false→n∈T
theorem got_start {C:List Pl.Nd} {D:DataW Unit} (hD:Reads D C):Got C [] (Maps.has D):=
 ⟨fun t h=>absurd h (by simp),List.Pairwise.nil,fun t h=>absurd h (by simp),fun n hn h=>by rw [hD.has n hn] at h;cases h⟩
theorem one_apart {C:List Pl.Nd} (h:C.Pairwise (fun a b=>a.path≠b.path)) {a b:Pl.Nd} (ha:a∈C) (hb:b∈C) (e:a.path=b.path):a=b:=by
 induction h with
 |nil=>cases ha
 |cons h1 _ ih=>
  rcases List.mem_cons.1 ha with ha1|ha1
  ·rcases List.mem_cons.1 hb with hb1|hb1
   ·rw [ha1,hb1]
   ·exact absurd (ha1 ▸ e) (h1 _ hb1)
  ·rcases List.mem_cons.1 hb with hb1|hb1
   ·exact absurd (hb1 ▸ e).symm (h1 _ ha1)
   ·exact ih ha1 hb1
theorem entry_in {C:List Pl.Nd} {p:ByteArray} {c:Pl.Nd} (hC:C.Pairwise (fun a b=>a.path≠b.path)) (h:∀z,(mapOf C).atKey (key p) z=dat c):c∈C∧p=c.path:=by
 by_cases hp:∃n∈C,n.path=p
 ·obtain ⟨n,hn,rfl⟩:=hp;have e:=(zw hC hn).2 (dat c);rw [h] at e;have e2:=zr6 e;subst e2;exact ⟨hn,rfl⟩
 ·exfalso;have hm:∀n∈C,n.path≠p:=fun n hn e=>hp ⟨n,hn,e⟩;have h1:=(zl9 p C (.map []) hm).2;have a:∀z,dat c=z:=fun z=>by rw [←h z];exact h1 z
  have a1:=a (dat ⟨p,c.kind+1,p,0,0⟩);have a2:=zr6 a1;have a3:=congrArg Pl.Nd.kind a2;simp only at a3;omega
theorem reads_mapOf {C:List Pl.Nd} (hC:C.Pairwise (fun a b=>a.path≠b.path)):Reads (mapOf C) C:=⟨fun _ hn=>(zw hC hn).1,fun _ _ h=>entry_in hC h⟩
theorem got_step {C T:List Pl.Nd} {left:Lit→Bool} {c:Pl.Nd} (hC:C.Pairwise (fun a b=>a.path≠b.path)) (h:Got C T left) (hc:c∈C) (hl:left (key c.path)=true):Got C (T++[c]) (fun z=>left z&&!z.sameKey (key c.path)):=by
 have same:(key c.path).sameKey (key c.path)=true:=by simp [key,Lit.sameKey]
 refine ⟨fun t ht=>?_,?_,fun t ht=>?_,fun n hn hf=>?_⟩
 ·rcases List.mem_append.1 ht with ht|ht
  ·exact h.sub t ht
  ·simp at ht;subst ht;exact hc
 ·rw [List.pairwise_append];refine ⟨h.apart,List.pairwise_singleton _ _,fun a ha b hb e=>?_⟩;simp at hb;subst hb
  have :=h.seen a ha;rw [e,hl] at this;cases this
 ·rcases List.mem_append.1 ht with ht|ht
  ·show (left (key t.path)&&_)=false;rw [h.seen t ht];rfl
  ·simp at ht;subst ht
   show (left (key t.path)&&!(key t.path).sameKey (key t.path))=false;rw [same];simp
 ·by_cases e:n.path=c.path
  ·rw [one_apart hC hn hc e];simp
  ·refine List.mem_append.2 (.inl (h.all n hn ?_));have hs:=sameKey_ne (key_ne e);have hf':(left (key n.path)&&!(key n.path).sameKey (key c.path))=false:=hf;rw [hs] at hf'
   simpa using hf'
theorem got_end {C T:List Pl.Nd} {left:Lit→Bool} (hC:C.Pairwise (fun a b=>a.path≠b.path)) (h:Got C T left) (hl:∀k,left k=false):T.Perm C:=by
 refine (List.perm_ext_iff_of_nodup (h.apart.imp (fun {a b} hne e=>hne (by rw [e]))) (hC.imp (fun {a b} hne e=>hne (by rw [e])))).2 fun x=>⟨h.sub x,fun hx=>h.all x hx (hl _)⟩
end MapN
namespace zn3
theorem zu7:(Tryz.prog.info? 60).map (fun i=>(i.zero,i.size,i.bytes))=some (some (.agg #[.string ⟨#[]⟩, .int .i64 0, .string ⟨#[]⟩, .int .i64 0, .int .i64 0]),5,56):=by kernel_rfl
def zeros (n:Nat):Array Value:=madeCells (Value.agg #[.string ⟨#[]⟩, .int .i64 0, .string ⟨#[]⟩, .int .i64 0, .int .i64 0]).cells (n*5)
theorem makeC (n:Nat) (hn:n≤1048576) (w:World):(Instr.makeSlice 101 (.int .i64 0) (.int .i64 (n:Int))).run Tryz.prog w= .ok (.slice (some ⟨w.heap.size,0,none⟩) 0 n) (w.alloc (.cells (zeros n) 60)):=by
 obtain ⟨i0,h0,h1,h2,h3⟩:=info_parts zu7;have h:=run_make (P:=Tryz.prog) w 101 60 i0 (.agg #[.string ⟨#[]⟩, .int .i64 0, .string ⟨#[]⟩, .int .i64 0, .int .i64 0]) Tryz.underlying101 h0 h1 .i64 .i64 0 (n:Int) (by omega) (by omega) (by rw [h3];omega) (by omega);rw [h,h2];simp [zeros]
theorem iter_at {w:World} {B r n:Nat} {D:DataW Unit} {left:Lit→Bool} {cnt:Nat} (h:w.ranges Tryz.prog 9 MapN.elem B r n D left cnt) {g:Nat} {cs:Array Value} {T:TypeId} (hg:w.heap[g]? =some (.cells cs T (0,0))):g≠r∧g≠B:=by
 obtain ⟨es,clock,since,seen,c0,h1,_,_,_,h2,_⟩:=h;refine ⟨fun e=>?_,fun e=>?_⟩
 ·subst e;rw [hg] at h2;cases h2
 ·subst e;rw [hg] at h1;cases h1
theorem own_not {w:World} {B r n Bs:Nat} {D:DataW Unit} {left:Lit→Bool} {cnt:Nat} {v:Value} {T:List Pl.Nd} (h:w.ranges Tryz.prog 9 MapN.elem B r n D left cnt) (ho:Mem.ownN w Bs v T):∀g,v.ownBlock=some g→g≠r∧g≠B:=by
 intro g hg
 rcases ho.2 with ⟨rfl,_⟩|⟨g',cap,cur,rfl,_,hh,_⟩
 ·cases hg
 ·cases hg;exact iter_at h hh
theorem sort_own (v:Value) (B:Nat) (T:List Pl.Nd) (w:World) (hp:∀t∈T,Pl.za0 t.path=true) (hl:T.length≤1048576) (hown:Mem.ownN w B v T):
  Calls Tryz.prog 144 #[v, .func (.func 145) #[] #[]] w fun e w'=>e= .returned (.tuple #[])∧
   ∃S:List Pl.Nd,S.Perm T∧S.Pairwise (fun a b=>Pl.ltP b.path a.path=false)∧Mem.ownN w' B v S∧w.grownBy w' v.ownBlock:=by
 rcases hown.2 with ⟨rfl,h0⟩|⟨g,cap,cur,rfl,rest⟩
 ·have :T=[]:=List.length_eq_zero_iff.1 h0;subst this;refine Calls.mono (AnyF.slices_SortFunc_none (P:=Tryz.prog) zx9.lay none 0 (.func (.func 145) #[] #[]) w) ?_;rintro e w' ⟨he,rfl⟩;exact ⟨he,[],List.Perm.refl _,List.Pairwise.nil,hown,⟨rfl,rfl,rfl,Nat.le_refl _,fun _ _ _=>rfl⟩⟩
 ·exact WOrder.sort_any g cap B T w hp hl hown
set_option maxRecDepth 100000 in
set_option maxHeartbeats 2000000 in
theorem any (B N:Nat) (C L:List Pl.Nd) (D:DataW Unit) (w:World) (hown:w.ownsMap Tryz.prog 9 MapN.elem B N D) (hN:N≤1000) (hD:MapN.Reads D C) (hC:C.Pairwise (fun a b=>a.path≠b.path)) (hperm:L.Perm C) (hr:L.Pairwise (fun a b=>Pl.ltP a.path b.path=true))
  (hok:∀n∈C,Pl.za0 n.path=true∧n.data.size≤1048576):
  Calls Tryz.prog 118 #[.map (some B)] w fun e w'=>∃v,e= .returned v∧Mem.ownN w' w.heap.size v L∧Below w.heap.size w w':=by
 obtain ⟨i0,hi,hz0,hz1,hz2⟩:=info_parts zu7;have hsz:=hown.size_le;have hmk:=makeC (Maps.size D) (by omega) w;have hbl:=hown.lt;have e1:(w.alloc (.cells (zeros (Maps.size D)) 60)).heap.size=w.heap.size+1:=by simp
 have OW0:Hid (Mem.ownN (w.alloc (.cells (zeros (Maps.size D)) 60)) w.heap.size (.slice (some ⟨w.heap.size,0,none⟩) 0 (Maps.size D)) []):=
  ⟨rfl, .inr ⟨w.heap.size,_,_,rfl,Nat.le_refl _,heap_alloc_new _ _,Nat.zero_le _,by unfold maxLen;omega,size_madeCells _ _,rfl⟩⟩
 have HG0:=hide (MapN.got_start hD);have HC:=hide hC;have HOK:=hide hok
 have HEND:Hid (∀S T:List Pl.Nd,T.Perm C→S.Perm T→S.Pairwise (fun a b=>Pl.ltP b.path a.path=false)→S=L):=fun S T h1 h2 h3=>
  Pl.sorted_one ((h2.trans h1).trans hperm.symm) (fun n hn=>(hok n (hperm.mem_iff.1 hn)).1) hr h3
 have HM:=hide hown;clear hown hr hperm hC hok;have HENT:=hide hD.ent;clear hD;go_enter Tryz.func118,Tryz.ntmps118
 go_wp2_with (first
  |(at_len;refine wpList_len_own _ rfl _ 108 rfl 9 60 Tryz.underlying108 _ B N D rfl (za HM) ?_)
  |(at_range;refine wpList_range_own _ rfl _ 108 rfl 9 60 MapN.law Tryz.underlying108 _ B N _ rfl ((za HM).alloc _) ?_;intro w0 hrg0 hg0 hs0)
  |go_in)
 go_frame
 rw [e1] at hrg0 hs0 ⊢;have OW1:=hide (Mem.yk8 (za OW0) hg0 (fun _ _=>by simp));have B1:=hide (((Below.refl w.heap.size w).alloc (Nat.le_refl _) _).grown hg0 (by simp) (fun j hj=>by cases hj));clear hg0 hs0 OW0 hmk e1
 go_loopw [3] (fun v wr=>∃ (left:Lit→Bool) (cnt:Nat) (T:List Pl.Nd),wr.ranges Tryz.prog 9 MapN.elem B (w.heap.size+1) N D left cnt∧T.length+cnt≤Maps.size D∧Hid (Mem.ownN wr w.heap.size v T)∧Hid (MapN.Got C T left)∧Hid (Below w.heap.size w wr))
  (fun _ wr=>wr.rangeLeft B (w.heap.size+1))
 case atStart=>exact ⟨_,_,[],hrg0,by simp,OW1,HG0,B1⟩
 case round=>
  obtain ⟨left,cnt,T,hrg,hcs,HOW,HGT,HB⟩:=hrel;have HNT:=hide (own_not hrg (za HOW));clear hrg0 OW1 B1 HG0
  go_wp2_with (first
   |(at_next;refine wpList_next_ranges _ rfl _ rfl 9 MapN.law MapN.elem (Value.string) (Pl.Nd.val) (fun key kl hk=>Maps.keyOf_string_inv Tryz.underlying9 hk) (fun v y hv=>by obtain ⟨d,ps⟩:=y;obtain ⟨n,hn,_⟩:=MapN.elem_inv hv;exact ⟨n,hn⟩) B (w.heap.size+1) N _ _ _ rfl hrg ?_ ?_)
   |go_in)
  ·intro hc0 hl0;have hp:=hide (MapN.got_end (za HC) (za HGT) hl0);have hs:=hide (sort_own u3 w.heap.size T wr (fun t ht=>(za HOK t ((za HGT).sub t ht)).1) (by omega) (za HOW));have HLW:=hide (Mem.zp2 (za HOW));clear HOW HGT HNT hrg hc0 hl0 HENT;go_wp2_with fail
   refine (za hs).mono ?_;rintro e w2 ⟨rfl,S,h1,h2,h3,h4⟩;have eS:=za HEND S T (za hp) h1 h2;subst eS;have bw:=(za HB).grown h4 (za HB).size (fun q hq=>(za HLW q hq).1);have O2:=hide h3;clear hs h1 h2 h3 h4 hp HEND;go_wp2
   go_ret
   exact ⟨u3,rfl,za O2,bw⟩
  ·intro x c kl yd yp w1 cnt1 hkey hlk hR hat hrg1 hlt hg1 hs1 hen;have ek:kl=MapN.key x:=MapN.keyOf_inv hkey;have ey:yd=MapN.dat c:=by rw [MapN.zr7] at hR;cases hR;rfl
   subst ek ey;obtain ⟨hcC,rfl⟩:=za HENT x c hat;have HG2:=hide (MapN.got_step (za HC) (za HGT) hcC hlk);have hok:=za HOK c hcC;have hc:=hide (fun W=>WCopied.any c W (by have :=Pl.zg5 hok.1;omega) hok.2);have HRG1:=hide hrg1;have OW1:=Mem.yk8 (za HOW) hg1 (fun g hg e=>by cases e;exact (za HNT _ hg).1 rfl);have B1:=(za HB).grown hg1 (za HB).size (fun q hq=>by cases hq;omega);have HLE:=hide (hrg.left_eq);clear hat hR hkey hlk hok hcC HGT HOW HB hg1 hs1 hrg1 hrg HENT HNT;obtain ⟨p,k0,d,t,m⟩:=c;simp only [Pl.Nd.val] at hen hc HG2 HRG1 ⊢;have OWD:=Mem.yd2 OW1 (.cells #[.string p, .int .i64 k0, .string d, .int .i64 t, .int .i64 m] 60);have bW:=B1.alloc B1.size (.cells #[.string p, .int .i64 k0, .string d, .int .i64 t, .int .i64 m] 60);have hsW:w.heap.size≤w1.heap.size:=B1.size;clear OW1 B1;go_wp2_with fail
   refine (za hc _).mono ?_;rintro e wC ⟨rfl,bC⟩;have OWC:=Mem.zw4 OWD bC;have bX:=bW.trans (bC.mono bW.size);have HLT:=hide (Mem.zp2 OWC);have HRC:=hide (((za HRG1).alloc (.cells #[.string p, .int .i64 k0, .string d, .int .i64 t, .int .i64 m] 60)).kept (Mem.zc1 bC none) (by simp) (by simp));have HNC:=hide (own_not (za HRC) OWC);have hsX:=bX.size;clear OWD bW bC hc HRG1 hen;go_wp2_with (at_builtin;refine wpList_append_own _ rfl _ _ 101 rfl w.heap.size 60 i0 _ 5 56 Tryz.underlying101 hi hz0 hz1 hz2 rfl (by decide) _ _ _ rfl (Mem.yd2 OWC _) ⟨wC.heap.size,0,none⟩ 1 1 [.string p, .int .i64 k0, .string d, .int .i64 t, .int .i64 m] rfl rfl (Mem.cs_new wC ⟨p,k0,d,t,m⟩ _) (Mem.cs_one ⟨p,k0,d,t,m⟩) (by unfold maxLen;omega) (by omega) (by simp;omega) ?_)
   intro v'' wZ hownZ hgrow _;have OWZ:=hide (Mem.yg (L:=T) (n:=⟨p,k0,d,t,m⟩) hownZ);have HRZ:=hide (((za HRC).alloc (.cells #[.string p, .int .i64 k0, .string d, .int .i64 t, .int .i64 m] 60)).kept hgrow (fun e=>(za HNC _ e.symm).2 rfl) (fun e=>(za HNC _ e.symm).1 rfl));have bZ:=hide ((bX.alloc bX.size (.cells #[.string p, .int .i64 k0, .string d, .int .i64 t, .int .i64 m] 60)).grown hgrow (by have :=bX.size;simp;omega) (fun q hq=>(za HLT q hq).1));clear hownZ hgrow OWC bX HRC HNC HLT;go_wp2
   go_roundw
   case rel=>exact ⟨_,cnt1,T++[⟨p,k0,d,t,m⟩],za HRZ,by simp;omega,OWZ,HG2,bZ⟩
   case measure=>rw [(za HRZ).left_eq,za HLE];exact hlt
end zn3
end
section
open Go.RowKit Go.Maps
namespace WViewI
theorem rise_tree (B:Nat) (L:List Pl.Nd) (w:World) (ht:Pl.zc7 L=true) (hm:Mem.ownM w B L):
  Calls Tryz.prog 118 #[.map (some B)] w fun e w'=>∃v,e= .returned v∧Mem.ownN w' w.heap.size v L∧Below w.heap.size w w':=
 zn3.any B 40 L L (MapN.mapOf L) w hm (by omega) (MapN.reads_mapOf (Pl.yh6 ht)) (Pl.yh6 ht) (List.Perm.refl _) (Pl.tree_rise' ht) (fun n hn=>by
  have h2:=(((Pl.zt7 _).1 ht).2.1 n hn).1;have h4:=(Pl.zq2 h2).1
  exact ⟨(Pl.zj3 h2).1,by omega⟩)
end WViewI
end
section
set_option linter.unusedSimpArgs false
open Go.RowKit Go.Maps
namespace WItemsOf
set_option maxRecDepth 100000 in
theorem rise_nil (w:World):
  Calls Tryz.prog 118 #[.map none] w fun e w'=>∃v,e= .returned v∧Mem.ownN w' w.heap.size v []∧Below w.heap.size w w':=by
 have hmk:=zn3.makeC 0 (by omega) w;rw [show ((0:Nat):Int)=0 from rfl] at hmk;have hr:∀W:World,(Instr.range 108 (.map none)).run Tryz.prog W= .ok (.pointer (some ⟨W.heap.size,0,none⟩)) (W.alloc (.mapIter none 0 #[] 0)):=fun W=>run_range_nilMap W _ _ _ Tryz.underlying108;have hnx:∀ (W:World) (ty:TypeId),(Instr.next (.pointer (some ⟨W.heap.size,0,none⟩)) false ty).run Tryz.prog (W.alloc (.mapIter none 0 #[] 0))= .ok (.tuple #[.bool false]) (W.alloc (.mapIter none 0 #[] 0)):=fun W ty=>run_next_nilMap W ty 0 0 #[]
 have OW0:Hid (Mem.ownN (w.alloc (.cells (zn3.zeros 0) 60)) w.heap.size (.slice (some ⟨w.heap.size,0,none⟩) 0 0) []):=
  ⟨rfl, .inr ⟨w.heap.size,_,_,rfl,Nat.le_refl _,heap_alloc_new _ _,Nat.zero_le _,by decide,size_madeCells _ _,rfl⟩⟩
 have hnx0:=hnx (w.alloc (.cells (zn3.zeros 0) 60));rw [show (w.alloc (.cells (zn3.zeros 0) 60)).heap.size=w.heap.size+1 by simp] at hnx0;have OW1:=hide (Mem.yd2 (za OW0) (.mapIter none 0 #[] 0));have hs:=hide (zn3.sort_own (.slice (some ⟨w.heap.size,0,none⟩) 0 0) w.heap.size [] ((w.alloc (.cells (zn3.zeros 0) 60)).alloc (.mapIter none 0 #[] 0)) (fun t ht=>by cases ht) (by simp) (za OW1));have b1:Below w.heap.size w ((w.alloc (.cells (zn3.zeros 0) 60)).alloc (.mapIter none 0 #[] 0)):=(bE0).alloc (by simp) _;clear OW0;go_enter Tryz.func118,Tryz.ntmps118
 go_wp2
 go_loopw [3] (fun v wr=>v= .slice (some ⟨w.heap.size,0,none⟩) 0 0∧wr=(w.alloc (.cells (zn3.zeros 0) 60)).alloc (.mapIter none 0 #[] 0)) (fun _ _=>0)
 case atStart=>exact ⟨rfl,rfl⟩
 case round=>
  obtain ⟨rfl,rfl⟩:=hrel;go_wp2_with fail
  refine (za hs).mono ?_;rintro e w2 ⟨rfl,S,h1,h2,h3,h4⟩;have eS:S=[]:=List.Perm.eq_nil h1;subst eS;have O2:=hide h3;have bw:=b1.grown h4 b1.size (fun q hq=>by cases hq;exact Nat.le_refl _);clear hs h1 h2 h3 h4 b1 OW1 hr hnx hnx0 hmk;go_wp2
  go_ret
  exact ⟨_,rfl,za O2,bw⟩
def selfM (w:World) (qo:Option Nat) (L:List Pl.Nd):Prop:=(∃q,qo=some q∧Mem.ownM w q L)∨(qo=none∧L=[])
theorem selfM.call {w w':World} {qo:Option Nat} {L:List Pl.Nd} (h:selfM w qo L) (b:Below w.heap.size w w'):selfM w' qo L:=by
 rcases h with ⟨q,h1,h2⟩|h
 ·exact .inl ⟨q,h1,h2.call b⟩
 ·exact .inr h
theorem rise_self (qo:Option Nat) (L:List Pl.Nd) (w:World) (ht:Pl.zc7 L=true) (h:selfM w qo L):
  Calls Tryz.prog 118 #[.map qo] w fun e w'=>∃v,e= .returned v∧Mem.ownN w' w.heap.size v L∧Below w.heap.size w w':=by
 rcases h with ⟨q,rfl,hm⟩|⟨rfl,rfl⟩
 ·exact WViewI.rise_tree q L w ht hm
 ·exact rise_nil w
theorem infoI:(Tryz.prog.info? 105).map (fun i=>(i.zero,i.size,i.bytes))=some (some (.agg #[.int .i64 0, .slice none 0 0]),2,32):=by kernel_rfl
set_option maxRecDepth 100000 in
set_option maxHeartbeats 2000000 in
theorem items_of (n:Nat) (hn:n≤1000):∀ (N:Nat→Prop) (K:Pl.Fx) (L:List Pl.Nd) (qo:Option Nat) (m:Int) (v:Value) (w:World),K.sz<n→Pl.zc7 L=true→K.okX→selfM w qo L→Mem.layX w N K v→
  Calls Tryz.prog 75 #[.agg #[.map qo, .int .i64 m,v]] w fun e w'=>∃v' Is,e= .returned v'∧Mem.Io w' w.heap.size v' Is∧Is.map Pl.It.r=(m,L)::K.flat∧Below w.heap.size w w':=by
 obtain ⟨i0,hi,hz0,hz1,hz2⟩:=info_parts infoI
 induction n with
 |zero=>intro N K L qo m v w h;omega
 |succ n ih=>
  intro N K L qo m v w hs ht hx hm hl;have hKl:K.len≤1000:=by have :=K.len_le;omega
  obtain ⟨a,cap,rfl,hrow⟩:=hl;have b0:Below w.heap.size w (w.alloc (.cells #[.map qo, .int .i64 m, .slice a K.len cap] 113)):=bE0;have A0:=Mem.Blk.new w #[.map qo, .int .i64 m, .slice a K.len cap] 113;have hri:=hide (fun W (b:Below (w.alloc (.cells #[.map qo, .int .i64 m, .slice a K.len cap] 113)).heap.size (w.alloc (.cells #[.map qo, .int .i64 m, .slice a K.len cap] 113)) W)=>rise_self qo L W ht ((hm.call b0).call b))
  have HRW:Hid (K= .nil∨∃b',a=some ⟨b',0,none⟩∧Mem.rowX (w.alloc (.cells #[.map qo, .int .i64 m, .slice a K.len cap] 113)) (fun b=>b<w.heap.size) K b' 0):=by
   rcases hrow with h|⟨g,h1, -,h2⟩
   ·exact .inl h
   ·exact .inr ⟨g,h1,Mem.zk4 (Mem.zr5 (N':=fun b=>b<w.heap.size) (fun b _ hb=>⟨hb,hb,rfl⟩) K g 0 h2) b0⟩
  have HI:=hide (ih (by omega));have HKX:=hide hx;obtain ⟨c0,c1⟩:=jc2 A0;have HX1:Hid (w.heap.size<(w.alloc (.cells #[.map qo, .int .i64 m, .slice a K.len cap] 113)).heap.size):=A0.lt;clear ih hrow hx hm ht;go_enter Tryz.func75,Tryz.ntmps75
  go_wp2_with fail
  generalize w.alloc (.cells #[.map qo, .int .i64 m, .slice a K.len cap] 113)=w1 at b0 A0 hri HRW c0 c1 HX1 ⊢;have MK:Hid (∀W',Below w1.heap.size w1 W'→(fun W'=>Below w1.heap.size w1 W'∧W'.cell? ⟨w.heap.size,0,none⟩=some (.map qo)∧W'.cell? ⟨w.heap.size,1,none⟩=some (.int .i64 m)) W'):=fun W' hb=>⟨hb,(hb.cell (p:=⟨w.heap.size,0,none⟩) (za HX1)).trans c0,(hb.cell (p:=⟨w.heap.size,1,none⟩) (za HX1)).trans c1⟩;clear c0 c1;refine wp_region_held_drew (S:=fun W'=>Below w1.heap.size w1 W'∧W'.cell? ⟨w.heap.size,0,none⟩=some (.map qo)∧W'.cell? ⟨w.heap.size,1,none⟩=some (.int .i64 m)) (by kernel_rfl) ?_ (fun hHeld=>?_)
  ·exact za MK _ (bD _)
  refine TB 0 ?_;refine TB 1 ?_;refine TB 2 ?_;refine TB 3 ?_;refine TB 4 ?_;refine TB 5 ?_;refine RN 6 fun K hK=>?_;go_simp
  refine (za hri _ hHeld.1).mono ?_;rintro e wX ⟨vr,rfl,ownr,bX⟩;obtain ⟨ra,rc,hvr⟩:=Mem.za7 ownr;subst hvr;have hlr:w.heap.size+1≤_:=Nat.le_trans (za HX1) hHeld.1.size;refine hK.out _ _ ?_ (fun hHeld=>?_)
  ·exact za MK _ (hHeld.1.trans (bX.mono hHeld.1.size))
  clear hK K
  try simp only [Act.put,kBs]
  refine TB 7 ?_;refine TB 8 ?_;refine RN 9 fun K hK=>?_;go_simp
  refine hK.out _ _ ?_ (fun hHeld=>?_)
  ·exact za MK _ (hHeld.1.alloc hHeld.1.size _)
  clear hK K
  try simp only [Act.put,kBs]
  refine TB 10 ?_;refine wpAnyH_done (by kernel_rfl) ?_ _;have hb3:=hHeld.1;have bw3:=b0.trans (hb3.mono b0.size);have bA:Below wX.heap.size wX (wX.alloc (.cells #[.int .i64 m, .slice ra L.length rc] 105)):=bE0;have IO0:Hid (Mem.Io (wX.alloc (.cells #[.int .i64 m, .slice ra L.length rc] 105)) (w.heap.size+1) (.slice (some ⟨wX.heap.size,0,none⟩) 1 1) [⟨m,⟨ra,rc,L⟩⟩]):=hide (Mem.Io.one (t:=⟨ra,rc,L⟩) (by have h2:=bX.size;omega) (heap_alloc_new _ _) (Mem.zw2 (Mem.zw4 ownr bA) hlr) (fun q hq e=>by have :=(Mem.zp2 ownr q hq).2;omega));have A3:=A0.call hb3
  have RW3:Hid (K= .nil∨∃b',a=some ⟨b',0,none⟩∧Mem.rowX (wX.alloc (.cells #[.int .i64 m, .slice ra L.length rc] 105)) (fun b=>b<w.heap.size) K b' 0):=by
   rcases za HRW with h|⟨g,h1,h2⟩
   ·exact .inl h
   ·exact .inr ⟨g,h1,Mem.zk4 h2 hb3⟩
  have c2:=A3.cell 2;simp only [kGs] at c2;have HSZ:Hid (w.heap.size+1≤(wX.alloc (.cells #[.int .i64 m, .slice ra L.length rc] 105)).heap.size):=hide (by have h1:=A3.lt;omega);clear hHeld MK hri HRW A0 A3 b0 ownr bX bA hb3 hlr;generalize wX.alloc (.cells #[.int .i64 m, .slice ra L.length rc] 105)=w3 at bw3 IO0 RW3 c2 HSZ ⊢;have IT0:Hid ((([⟨m,⟨ra,rc,L⟩⟩]:List Pl.It)).map Pl.It.r++K.flat=(m,L)::K.flat):=rfl;go_wp2
  go_loopw [3,19] (fun v i wr=>∃ (j:Nat) (Is:List Pl.It) (F:Pl.Fx),i= .int .i64 (j:Int)∧j+F.len=K.len∧F.sz≤n∧Hid (Is.length+F.sz=K.sz+1)∧Below w.heap.size w wr∧Hid (w.heap.size+1≤wr.heap.size)∧Hid (Mem.Io wr (w.heap.size+1) v Is)∧Hid (F= .nil∨∃b',a=some ⟨b',0,none⟩∧Mem.rowX wr (fun b=>b<w.heap.size) F b' (j*3))∧Hid F.okX∧Hid (Is.map Pl.It.r++F.flat=(m,L)::K.flat)) (fun _ i _=>K.len - (intOf i).toNat)
  case atStart=>exact ⟨0,_,K,rfl,by omega,by omega,hide (by simp;omega),bw3,HSZ,IO0,hide (by simpa using za RW3),HKX,IT0⟩
  case round=>
   obtain ⟨j,Is,F,rfl,hj,hsz,HIL,hbel,HSW,IO,HR,FX,IM⟩:=hrel;clear IO0 RW3 HSZ IT0 c2 bw3;cases F with
   |nil=>
    simp only [Pl.Fx.len] at hj;have u1:¬ (j:Int)<(K.len:Int):=by omega
    have E:Hid (Is.map Pl.It.r=(m,L)::K.flat):=hide (by have :=za IM;rw [Pl.Fx.flat,List.append_nil] at this;exact this);have IOM:=hide ((za IO).mono (show w.heap.size≤w.heap.size+1 by omega));clear IO HR FX IM HIL;go_wp2
    go_ret
    first |exact ⟨_,Is,rfl,za IOM,za E,hbel⟩|exact ⟨_,rfl,Is,za IOM,za E,hbel⟩
   |cons L1 k1 m1=>
    simp only [Pl.Fx.len,Pl.Fx.sz] at hj hsz;obtain ⟨g1,g2,g3,g5,g6⟩:=za FX
    rcases za HR with h|⟨g,rfl,hrw⟩
    ·cases h
    obtain ⟨⟨q1,a1,cap1,c0,c1,c2,hg,hNg,hNq,hm1,hsub⟩,hrest⟩:=hrw;have u1:(j:Int)<(K.len:Int):=by omega
    have u3:(0:Int)≤(j:Int):=by omega
    have HJ:=hide hj;have bA:Below wr.heap.size wr (wr.alloc (.cells #[.map (some q1), .int .i64 (k1.len:Int), .slice a1 k1.len cap1] 113)):=bE0;have HL:Mem.layX wr (fun b=>b<w.heap.size) k1 (.slice a1 k1.len cap1):=⟨a1,cap1,rfl,hsub⟩;have bw:=hbel.trans (bA.mono hbel.size);have hcall:=hide (za HI (fun b=>b<w.heap.size) k1 L1 (some q1) (k1.len:Int) _ _ (by omega) g1 g5 (.inl ⟨q1,rfl,hm1.call bA⟩) (Mem.zw0 HL bA));have HRR:=hide (Mem.zk4 hrest bA);have IA:=hide ((za IO).call bA);have G6:=hide g6;have HIL2:=HIL;have hlo:=(za IO).lt;have hsA:(wr.alloc (.cells #[.map (some q1), .int .i64 (k1.len:Int), .slice a1 k1.len cap1] 113)).heap.size=wr.heap.size+1:=by simp
    have HLO:=hide hlo;have HSA:=hide hsA;clear hsub hrest HL HR IO FX g1 g2 g5 g6 hm1 hlo hsA;go_wp2_with fail
    refine (za hcall).mono ?_;rintro e wX2 ⟨v1,Is1,rfl,io1,hr1,bX⟩;have bw2:=bw.trans (bX.mono bw.size);have hIl:Is1.length=k1.sz+1:=by have :=congrArg List.length hr1;rw [List.length_map,List.length_cons,Pl.Fx.zy] at this;exact this
    obtain ⟨gv,cv,hv1,hcv⟩:=io1.there (by omega);subst hv1;have O2:=(za IA).call bX;have HP:=hide (fun v' w4 own gr far=>O2.app io1 (v':=v') (W':=w4) (by have :=za HSW;have :=za HSA;omega) (fun g hg=>by have :=((za HLO).1 g hg).2;have :=za HSA;omega) (fun i x hx g hg=>by have :=((za HLO).2 i x hx g hg).2;have :=za HSA;omega) own gr far);have HQ:=hide (fun w4 (h2:wX2.grownBy w4 _)=>(⟨bw2.grown h2 bw2.size (fun k hk=>by have :=(O2.lt.1 k hk).1;omega),Mem.zr5 (fun b hb hlt=>⟨hb,Nat.lt_of_lt_of_le hlt h2.size,h2.block b hlt (fun e=>by have :=(O2.lt.1 b e.symm).1;omega)⟩) _ _ _ (Mem.zk4 (za HRR) bX)⟩:Below w.heap.size w w4∧Mem.rowX w4 (fun b=>b<w.heap.size) m1 g (j*3+3)));have HRO:=hide O2.row;have HSB:Hid (w.heap.size+1≤wX2.heap.size):=hide (by have h1:=za HSW;have h2:=bX.size;have h3:=za HSA;omega);have HCV:=hide hcv
    have IM2:Hid ((Is++Is1).map Pl.It.r++m1.flat=(m,L)::K.flat):=hide (by have h:=za IM;rw [Pl.Fx.flat] at h;rw [List.map_append,hr1,←h];simp);have HIL3:Hid ((Is++Is1).length+m1.sz=K.sz+1):=hide (by have h:=za HIL2;simp only [Pl.Fx.sz] at h;rw [List.length_append];omega);have hIs:Is.length≤1001:=by have h:=za HIL2;omega
    have hIs1:Is1.length≤1001:=by omega
    clear O2 IA io1 hr1 bX bw bw2 hcall HRR IM hcv HIL HIL2 HLO HSA bA hIl HSW hbel;go_wp2_with (at_builtin;refine Mem.ze0 _ rfl _ _ 45 rfl (w.heap.size+1) 105 i0 (.agg #[.int .i64 0, .slice none 0 0]) 2 32 Tryz.underlying45 hi hz0 hz1 hz2 rfl (by decide) _ _ _ rfl (za HRO) ⟨gv,0,none⟩ Is1.length cv (Pl.zc3 Is1) rfl (Pl.yd5 Is1) (za HCV) (Pl.yi8 Is1) (by unfold maxLen;omega) (by omega) (za HSB) ?_)
    intro v' w4 own' hgrow hfar;have I2:=hide (za HP v' w4 own' hgrow hfar);obtain ⟨bw4,HR2⟩:=za HQ w4 hgrow;have HR3:Hid (m1= .nil∨∃b',some ⟨g,0,none⟩=some (⟨b',0,none⟩:Addr)∧Mem.rowX w4 (fun b=>b<w.heap.size) m1 b' ((j+1)*3)):=hide (.inr ⟨g,rfl,by rw [show (j+1)*3=j*3+3 by omega];exact HR2⟩);have HS4:Hid (w.heap.size+1≤w4.heap.size):=hide (by have h1:=hgrow.size;have h2:=za HSB;omega);clear HP HQ HRO own' hgrow hfar HR2 HCV HSB;go_wp2
    go_roundw
    case rel=>exact ⟨j+1,Is++Is1,m1,by go_num,by have h:=za HJ;omega,by omega,HIL3,bw4,HS4,I2,HR3,G6,IM2⟩
    case measure=>(have h:=za HJ;simp [intOf];omega)
end WItemsOf
end
section
open Go.RowKit Go.Maps
namespace WSpI
theorem items_nest (m:Option Nat) (n:Nat) (a:Option Addr) (cap:Nat) (R:List (Int × List Pl.Nd)) (B:Nat) (w:World) (h:Mem.zj4 w B ⟨m,n,a,cap⟩ R) (hl:R.length≤12):
  Calls Tryz.prog 75 #[.agg #[.map m, .int .i64 (n:Int), .slice a n cap]] w fun e w'=>∃v' Is,e= .returned v'∧Mem.Io w' w.heap.size v' Is∧Is.map Pl.It.r=R∧Below w.heap.size w w':=by
 obtain ⟨L,k,q,h1,h2,⟨⟨h3,h4⟩,h5⟩,⟨h6,h7⟩,h8⟩:=h;simp only at h1 h2 h4 h8;subst h1 h2
 have hk:k.sz<1000:=by
  have :=congrArg List.length h7;rw [Pl.Fx.zy,Pl.Fx.sz,Pl.Fx.sz] at this;omega
 refine (WItemsOf.items_of 1000 (Nat.le_refl _) _ k L (some q) (k.len:Int) (.slice a k.len cap) w hk h6.1 h6.2.2.2.1 (.inl ⟨q,rfl,h5⟩) h8).mono fun e w' ⟨v',Is,g1,g2,g3,g4⟩=>⟨v',Is,g1,g2,?_,g4⟩;rw [g3,←h7];simp [Pl.Fx.flat]
end WSpI
end
section
open Go.RowKit
namespace Mem
theorem yl6 {P:Program} (w:World) (base:Nat) (t ty e:TypeId) (i:TypeInfo) (z:Value) (size bytes:Nat) (ht:P.underlying t=some (.slice e)) (hi:P.info? e=some i) (hz:i.zero=some z)
  (hsize:i.size=size) (hby:i.bytes=bytes) (hzs:z.cells.size=size) (hsz:0<size)
  (v:Value) (n:Nat) (xs:List Value) (hown:w.ownsRow base e size v n xs)
  (va:Option Addr) (m c:Nat) (news:List Value) (hl:news.length=m*size) (hsrc:(∃a,va=some a∧∀j u,news[j]? =some u→w.cell? (a.add j)=some u)∨(va=none∧m=0)) (h1:∀u∈news,u.oneCell'=true)
  (h63:n+m≤maxLen) (hbytes:(n+m)*bytes≤140737488355328) (hbase:base≤w.heap.size):
  ∃v' w',(Builtin.append_ #[t,t] ty #[v, .slice va m c]).run P w= .ok v' w'∧w'.ownsRow base e size v' (n+m) (xs++news)∧w.grownBy w' v.ownBlock∧∀g,v'.ownBlock=some g→v.ownBlock=some g∨w.heap.size≤g:=by
 rcases hsrc with ⟨a,rfl,hnews⟩|⟨rfl,rfl⟩
 ·exact zu4 w base t ty e i z size bytes ht hi hz hsize hby hzs hsz v n xs hown a m c news hl hnews h1 h63 hbytes hbase
 ·have hn:news=[]:=List.eq_nil_of_length_eq_zero (by rw [hl,Nat.zero_mul]);subst hn
  have hv:∃b cap,v= .slice b n cap∧n≤cap:=by
   rcases hown.2 with ⟨rfl,rfl⟩|⟨g,cap,cur,rfl, -, -,hc, -⟩
   ·exact ⟨none,0,rfl,Nat.le_refl _⟩
   ·exact ⟨_,cap,rfl,hc⟩
  obtain ⟨b,cap,rfl,hc⟩:=hv;refine ⟨_,w,run_append_nothing w t t ty e i ht hi b n cap hc (.slice none 0 c) (Src.ofNil w ht c),?_,zc1 (Below.refl _ _) _,fun g hg=> .inl hg⟩;rw [List.append_nil,Nat.add_zero];exact hown
theorem za6 {P:Program} {ops:Array Oper} {o:Oper} {a:Act} {w:World} {K:Act→World→Prop} {Q:Exit→Act→World→Prop} {E:Prop}
  (hg:o.guard=none) (s x:Operand) (t:TypeId) (hop:o.op=Op.call { callee:=Callee.builtin Builtin.append,args:=#[s,x],argTypes:=#[t,t] })
  (base:Nat) (e:TypeId) (i:TypeInfo) (z:Value) (size bytes:Nat) (h1:P.underlying t=some (.slice e)) (h2:P.info? e=some i) (h3:i.zero=some z) (h4:i.size=size) (h5:i.bytes=bytes) (h6:z.cells.size=size) (h7:0<size)
  (v:Value) (n:Nat) (xs:List Value) (hs:a.eval s=v) (hown:w.ownsRow base e size v n xs)
  (va:Option Addr) (m c:Nat) (news:List Value) (hx:a.eval x= .slice va m c) (hn:news.length=m*size) (hc:(∃a,va=some a∧∀j u,news[j]? =some u→w.cell? (a.add j)=some u)∨(va=none∧m=0)) (h1c:∀u∈news,u.oneCell'=true)
  (b1:n+m≤maxLen) (b2:(n+m)*bytes≤140737488355328) (hbase:base≤w.heap.size)
  (hK:∀v' w',w'.ownsRow base e size v' (n+m) (xs++news)→w.grownBy w' v.ownBlock→(∀g,v'.ownBlock=some g→v.ownBlock=some g∨w.heap.size≤g)→K (a.put o.dst v') w'):
  if Region.wanted o (yielded ops a.tmps)=true then Oper.wp P o a w K Q else E:=by
 have hw:Region.wanted o (yielded ops a.tmps)=true:=by simp [Region.wanted,hg]
 rw [if_pos hw];obtain ⟨v',w',hrun,r1,r2,r3⟩:=yl6 (P:=P) w base t o.type e i z size bytes h1 h2 h3 h4 h5 h6 h7 v n xs hown va m c news hn hc h1c b1 b2 hbase;unfold Oper.wp;simp [execOp,hop,resolve,invoke,builtin,hs,hx,hrun,Result.andThen]
 exact hK v' w' r1 r2 r3
end Mem
end
end Go.Proofs.YtkighhofjmginaaGreatDoor
