/- Several texts of one claim in one file: WCopied, WRising, MapPut, WPathOf, WPathsTo, WTakeS, WRootS, WParentI, WNodesI, WNodeAt, WLevelUp, MemTrees, WOvK, WDecide. -/
import Derived.Test.YthdhhcgopfgcbaaGreatDoorG01
import Derived.Sort.MapsRangeIn
namespace Go.Proofs.YthdhhcgopfgcbaaGreatDoor
section
open Go.RowKit
namespace WCopied
theorem join1 (t:ByteArray) (b:Nat) (w:World) (ht:t.size≤1048576) (hv:Mem.Var w b [.string t]):
  Calls Tryz.prog 112 #[.slice (some ⟨b,0,none⟩) 1 1] w fun e w'=>e= .returned (.string t)∧Below w.heap.size w w':=by
 have h:=WJoin.any b 0 1 [t] w (by simp) (by rw [Pl.tot_one];omega) (fun j u hj=>by
  match j,hj with
  |0,hj=>simp at hj;subst hj;exact hv.2 0 _ rfl
  |j+1,hj=>simp at hj) hv.1
 rw [Pl.cat_one,show (⟨t.data.toList.toArray⟩:ByteArray)=t by simp] at h;exact h
def Held (w:World) (n:Pl.Nd) (W:World):Prop:=
 Below w.heap.size w W∧W.heap[w.heap.size]? =some (.cells #[.string n.path, .int .i64 n.kind, .string n.data, .int .i64 n.time, .int .i64 n.mark] 47 (0,0))∧W.heap[w.heap.size+1]? =some (.cells #[.string ⟨#[]⟩, .int .i64 0, .string ⟨#[]⟩, .int .i64 0, .int .i64 0] 47 (0,0))
theorem Held.keep {w W W':World} {n:Pl.Nd} (h:Held w n W) (b:Below W.heap.size W W'):Held w n W':=
 ⟨h.1.trans (b.mono h.1.size),(b.block _ (Array.getElem?_eq_some_iff.1 h.2.1).1).trans h.2.1,(b.block _ (Array.getElem?_eq_some_iff.1 h.2.2).1).trans h.2.2⟩
theorem Held.at {w W:World} {n:Pl.Nd} (h:Held w n W) (k:Nat):W.cell? ⟨w.heap.size,k,none⟩=(#[.string n.path, .int .i64 n.kind, .string n.data, .int .i64 n.time, .int .i64 n.mark]:Array Value)[k]?:=cell_of_row W _ k _ _ (0,0) h.2.1
theorem Held.fr {w W:World} {n:Pl.Nd} (h:Held w n W) (k:Nat):W.frozen? ⟨w.heap.size,k,none⟩=false:=Mem.zg1 h.2.1
theorem Held.zat {w W:World} {n:Pl.Nd} (h:Held w n W) (k:Nat):W.cell? ⟨w.heap.size+1,k,none⟩=(#[.string ⟨#[]⟩, .int .i64 0, .string ⟨#[]⟩, .int .i64 0, .int .i64 0]:Array Value)[k]?:=cell_of_row W _ k _ _ (0,0) h.2.2
theorem Held.zfr {w W:World} {n:Pl.Nd} (h:Held w n W) (k:Nat):W.frozen? ⟨w.heap.size+1,k,none⟩=false:=Mem.zg1 h.2.2
theorem Held.put0 {w W:World} {n:Pl.Nd} (h:Held w n W):Held w n (W.setCell ⟨w.heap.size,0,none⟩ (.string n.path)):=
 ⟨h.1.setCell (Nat.le_refl _) _,heap_setCell_same _ _ 0 _ _ _ h.2.1,(Below.heap_setCell _ _ _ _ (by show w.heap.size+1≠w.heap.size;omega)).trans h.2.2⟩
theorem Held.put2 {w W:World} {n:Pl.Nd} (h:Held w n W):Held w n (W.setCell ⟨w.heap.size,2,none⟩ (.string n.data)):=
 ⟨h.1.setCell (Nat.le_refl _) _,heap_setCell_same _ _ 2 _ _ _ h.2.1,(Below.heap_setCell _ _ _ _ (by show w.heap.size+1≠w.heap.size;omega)).trans h.2.2⟩
theorem Held.res {w WZ:World} {n:Pl.Nd} (HF:Held w n WZ):(((((WZ.setCell ⟨w.heap.size+1,0,none⟩ (.string n.path)).setCell ⟨w.heap.size+1,1,none⟩ (.int .i64 n.kind)).setCell ⟨w.heap.size+1,2,none⟩ (.string n.data)).setCell ⟨w.heap.size+1,3,none⟩ (.int .i64 n.time)).setCell ⟨w.heap.size+1,4,none⟩ (.int .i64 n.mark)).heap[w.heap.size+1]? =some (.cells #[.string n.path, .int .i64 n.kind, .string n.data, .int .i64 n.time, .int .i64 n.mark] 47 (0,0)):=(heap_setCell_same _ _ 4 _ _ _ (heap_setCell_same _ _ 3 _ _ _ (heap_setCell_same _ _ 2 _ _ _ (heap_setCell_same _ _ 1 _ _ _ (heap_setCell_same _ _ 0 _ _ _ HF.2.2)))))
set_option linter.unusedSimpArgs false in
set_option maxRecDepth 100000 in
set_option maxHeartbeats 1000000 in
theorem any (n:Pl.Nd) (w:World) (h1:n.path.size≤1048576) (h2:n.data.size≤1048576):
  Calls Tryz.prog 82 #[n.val] w fun e w'=>e= .returned n.val∧Below w.heap.size w w':=by
 have H0:Held w n ((w.alloc (.cells #[.string n.path, .int .i64 n.kind, .string n.data, .int .i64 n.time, .int .i64 n.mark] 47)).alloc (.cells #[.string ⟨#[]⟩, .int .i64 0, .string ⟨#[]⟩, .int .i64 0, .int .i64 0] 47)):=⟨(bE0).alloc (by simp) _,(Below.heap_alloc _ _ _ (by simp)).trans (heap_alloc_new _ _),Mem.zg4 _ _ _⟩;simp only [Pl.Nd.val];go_enter Tryz.func82,Tryz.ntmps82
 go_wp2_with fail
 generalize ((w.alloc (.cells #[.string n.path, .int .i64 n.kind, .string n.data, .int .i64 n.time, .int .i64 n.mark] 47)).alloc (.cells #[.string ⟨#[]⟩, .int .i64 0, .string ⟨#[]⟩, .int .i64 0, .int .i64 0] 47))=W0 at H0 ⊢;have MK:Hid (∀W',Held w n W'→(Held w n W'∧W'.cell? ⟨w.heap.size,0,none⟩=some (.string n.path)∧W'.cell? ⟨w.heap.size,2,none⟩=some (.string n.data)∧W'.frozen? ⟨w.heap.size,0,none⟩=false∧W'.frozen? ⟨w.heap.size,2,none⟩=false)):=fun W' h=>⟨h,h.at 0,h.at 2,h.fr 0,h.fr 2⟩;refine wp_region_held_drew (S:=fun W'=>Held w n W'∧W'.cell? ⟨w.heap.size,0,none⟩=some (.string n.path)∧W'.cell? ⟨w.heap.size,2,none⟩=some (.string n.data)∧W'.frozen? ⟨w.heap.size,0,none⟩=false∧W'.frozen? ⟨w.heap.size,2,none⟩=false) (by kernel_rfl) ?_ (fun hHeld=>?_)
 ·exact za MK _ (H0.keep ⟨rfl,rfl,rfl,Nat.le_refl _,fun _ _=>rfl⟩)
 generalize W0.drew=W1 at hHeld ⊢;clear H0;refine TB 0 ?_;refine TB 1 ?_;refine TB 4 ?_;refine TB 5 ?_;refine wpAnyH_ready (rs:=[2,6]) (by kernel_rfl) (by simp) ?_;refine AllReadyH.cons rfl (fun K hK=>?_) (AllReadyH.cons rfl (fun K hK=>?_) AllReadyH.nil)
 ·go_simp
  refine hK.out _ _ ?_ (fun hHeld=>?_)
  ·exact za MK _ (hHeld.1.keep (bE0))
  clear hK K
  try simp only [Act.put,kBs]
  have vP:=Mem.zi0 (W1) [.string n.path] 9;refine wpAnyH_ready (rs:=[3,6]) (by kernel_rfl) (by simp) ?_;refine AllReadyH.cons rfl (fun K hK=>?_) (AllReadyH.cons rfl (fun K hK=>?_) AllReadyH.nil)
  ·go_simp
   refine (join1 n.path _ _ h1 vP).mono ?_;rintro e wX ⟨rfl,bX⟩;refine hK.out _ _ ?_ (fun hHeld=>?_)
   ·exact za MK _ (hHeld.1.keep bX)
   clear hK K
   try simp only [Act.put,kBs]
   refine TB 8 ?_;refine RN 6 fun K hK=>?_;go_simp
   refine hK.out _ _ ?_ (fun hHeld=>?_)
   ·exact za MK _ (hHeld.1.keep (bE0))
   clear hK K
   try simp only [Act.put,kBs]
   have vD:=Mem.zi0 (wX) [.string n.data] 9;refine RN 7 fun K hK=>?_;go_simp
   refine (join1 n.data _ _ h2 vD).mono ?_;rintro e wY ⟨rfl,bY⟩;refine hK.out _ _ ?_ (fun hHeld=>?_)
   ·exact za MK _ (hHeld.1.keep bY)
   clear hK K
   try simp only [Act.put,kBs]
   refine RN 9 fun K hK=>?_;go_simp
   refine hK.out _ _ ?_ (fun hHeld=>?_)
   ·exact za MK _ (hHeld.1.put0)
   clear hK K
   try simp only [Act.put,kBs]
   refine TB 10 ?_;refine RN 11 fun K hK=>?_;go_simp
   refine hK.out _ _ ?_ (fun hHeld=>?_)
   ·exact za MK _ (hHeld.1.put2)
   clear hK K
   try simp only [Act.put,kBs]
   refine wpAnyH_done (by kernel_rfl) ?_ _;have HF:=hHeld.1;generalize ((wY.setCell ⟨w.heap.size,0,none⟩ (.string n.path)).setCell ⟨w.heap.size,2,none⟩ (.string n.data))=WZ at HF ⊢;have q0:=HF.at 0;have q1:=HF.at 1;have q2:=HF.at 2;have q3:=HF.at 3;have q4:=HF.at 4;have z0:=HF.zat 0;have f0:=HF.zfr 0;have z1:=HF.zat 1;have f1:=HF.zfr 1;have z2:=HF.zat 2;have f2:=HF.zfr 2;have z3:=HF.zat 3;have f3:=HF.zfr 3;have z4:=HF.zat 4;have f4:=HF.zfr 4;simp only [kGs] at q0 q1 q2 q3 q4 z0 z1 z2 z3 z4;have r5:=HF.res;have d0:(((((WZ.setCell ⟨w.heap.size+1,0,none⟩ (.string n.path)).setCell ⟨w.heap.size+1,1,none⟩ (.int .i64 n.kind)).setCell ⟨w.heap.size+1,2,none⟩ (.string n.data)).setCell ⟨w.heap.size+1,3,none⟩ (.int .i64 n.time)).setCell ⟨w.heap.size+1,4,none⟩ (.int .i64 n.mark)).cell? ⟨w.heap.size+1,0,none⟩=some (.string n.path):=(cell_of_row _ _ 0 _ _ (0,0) r5).trans (by simp)
   have d1:(((((WZ.setCell ⟨w.heap.size+1,0,none⟩ (.string n.path)).setCell ⟨w.heap.size+1,1,none⟩ (.int .i64 n.kind)).setCell ⟨w.heap.size+1,2,none⟩ (.string n.data)).setCell ⟨w.heap.size+1,3,none⟩ (.int .i64 n.time)).setCell ⟨w.heap.size+1,4,none⟩ (.int .i64 n.mark)).cell? ⟨w.heap.size+1,1,none⟩=some (.int .i64 n.kind):=(cell_of_row _ _ 1 _ _ (0,0) r5).trans (by simp);have d2:(((((WZ.setCell ⟨w.heap.size+1,0,none⟩ (.string n.path)).setCell ⟨w.heap.size+1,1,none⟩ (.int .i64 n.kind)).setCell ⟨w.heap.size+1,2,none⟩ (.string n.data)).setCell ⟨w.heap.size+1,3,none⟩ (.int .i64 n.time)).setCell ⟨w.heap.size+1,4,none⟩ (.int .i64 n.mark)).cell? ⟨w.heap.size+1,2,none⟩=some (.string n.data):=(cell_of_row _ _ 2 _ _ (0,0) r5).trans (by simp)
   have d3:(((((WZ.setCell ⟨w.heap.size+1,0,none⟩ (.string n.path)).setCell ⟨w.heap.size+1,1,none⟩ (.int .i64 n.kind)).setCell ⟨w.heap.size+1,2,none⟩ (.string n.data)).setCell ⟨w.heap.size+1,3,none⟩ (.int .i64 n.time)).setCell ⟨w.heap.size+1,4,none⟩ (.int .i64 n.mark)).cell? ⟨w.heap.size+1,3,none⟩=some (.int .i64 n.time):=(cell_of_row _ _ 3 _ _ (0,0) r5).trans (by simp);have d4:(((((WZ.setCell ⟨w.heap.size+1,0,none⟩ (.string n.path)).setCell ⟨w.heap.size+1,1,none⟩ (.int .i64 n.kind)).setCell ⟨w.heap.size+1,2,none⟩ (.string n.data)).setCell ⟨w.heap.size+1,3,none⟩ (.int .i64 n.time)).setCell ⟨w.heap.size+1,4,none⟩ (.int .i64 n.mark)).cell? ⟨w.heap.size+1,4,none⟩=some (.int .i64 n.mark):=(cell_of_row _ _ 4 _ _ (0,0) r5).trans (by simp)
   have bf:Below w.heap.size w (((((WZ.setCell ⟨w.heap.size+1,0,none⟩ (.string n.path)).setCell ⟨w.heap.size+1,1,none⟩ (.int .i64 n.kind)).setCell ⟨w.heap.size+1,2,none⟩ (.string n.data)).setCell ⟨w.heap.size+1,3,none⟩ (.int .i64 n.time)).setCell ⟨w.heap.size+1,4,none⟩ (.int .i64 n.mark)):=(((((HF.1.setCell (by simp) _).setCell (by simp) _).setCell (by simp) _).setCell (by simp) _).setCell (by simp) _);clear MK hHeld r5 HF;go_wp2
   refine bodyPost_ret (v:= .agg #[.string n.path, .int .i64 n.kind, .string n.data, .int .i64 n.time, .int .i64 n.mark]) (by simp [results,Tryz.results82,go_sem,d0,d1,d2,d3,d4]) rfl ⟨rfl,bf⟩
  ·go_simp
   refine hK.out _ _ ?_ (fun hHeld=>?_)
   ·exact za MK _ (hHeld.1.keep (bE0))
   clear hK K
   try simp only [Act.put,kBs]
   have vD:=Mem.zi0 (W1.alloc (.cells #[.string n.path] 9)) [.string n.data] 9;rw [show (W1.alloc (.cells #[.string n.path] 9)).heap.size=W1.heap.size+1 by simp] at vD;have vP2:=Mem.yi2 vP (.cells #[.string n.data] 9);refine RN 3 fun K hK=>?_;go_simp
   refine (join1 n.path _ _ h1 vP2).mono ?_;rintro e wX ⟨rfl,bX⟩;refine hK.out _ _ ?_ (fun hHeld=>?_)
   ·exact za MK _ (hHeld.1.keep bX)
   clear hK K
   try simp only [Act.put,kBs]
   refine TB 8 ?_;have vD2:=Mem.zm1 vD bX;refine RN 7 fun K hK=>?_;go_simp
   refine (join1 n.data _ _ h2 vD2).mono ?_;rintro e wY ⟨rfl,bY⟩;refine hK.out _ _ ?_ (fun hHeld=>?_)
   ·exact za MK _ (hHeld.1.keep bY)
   clear hK K
   try simp only [Act.put,kBs]
   refine RN 9 fun K hK=>?_;go_simp
   refine hK.out _ _ ?_ (fun hHeld=>?_)
   ·exact za MK _ (hHeld.1.put0)
   clear hK K
   try simp only [Act.put,kBs]
   refine TB 10 ?_;refine RN 11 fun K hK=>?_;go_simp
   refine hK.out _ _ ?_ (fun hHeld=>?_)
   ·exact za MK _ (hHeld.1.put2)
   clear hK K
   try simp only [Act.put,kBs]
   refine wpAnyH_done (by kernel_rfl) ?_ _;have HF:=hHeld.1;generalize ((wY.setCell ⟨w.heap.size,0,none⟩ (.string n.path)).setCell ⟨w.heap.size,2,none⟩ (.string n.data))=WZ at HF ⊢;have q0:=HF.at 0;have q1:=HF.at 1;have q2:=HF.at 2;have q3:=HF.at 3;have q4:=HF.at 4;have z0:=HF.zat 0;have f0:=HF.zfr 0;have z1:=HF.zat 1;have f1:=HF.zfr 1;have z2:=HF.zat 2;have f2:=HF.zfr 2;have z3:=HF.zat 3;have f3:=HF.zfr 3;have z4:=HF.zat 4;have f4:=HF.zfr 4;simp only [kGs] at q0 q1 q2 q3 q4 z0 z1 z2 z3 z4;have r5:=HF.res;have d0:(((((WZ.setCell ⟨w.heap.size+1,0,none⟩ (.string n.path)).setCell ⟨w.heap.size+1,1,none⟩ (.int .i64 n.kind)).setCell ⟨w.heap.size+1,2,none⟩ (.string n.data)).setCell ⟨w.heap.size+1,3,none⟩ (.int .i64 n.time)).setCell ⟨w.heap.size+1,4,none⟩ (.int .i64 n.mark)).cell? ⟨w.heap.size+1,0,none⟩=some (.string n.path):=(cell_of_row _ _ 0 _ _ (0,0) r5).trans (by simp)
   have d1:(((((WZ.setCell ⟨w.heap.size+1,0,none⟩ (.string n.path)).setCell ⟨w.heap.size+1,1,none⟩ (.int .i64 n.kind)).setCell ⟨w.heap.size+1,2,none⟩ (.string n.data)).setCell ⟨w.heap.size+1,3,none⟩ (.int .i64 n.time)).setCell ⟨w.heap.size+1,4,none⟩ (.int .i64 n.mark)).cell? ⟨w.heap.size+1,1,none⟩=some (.int .i64 n.kind):=(cell_of_row _ _ 1 _ _ (0,0) r5).trans (by simp);have d2:(((((WZ.setCell ⟨w.heap.size+1,0,none⟩ (.string n.path)).setCell ⟨w.heap.size+1,1,none⟩ (.int .i64 n.kind)).setCell ⟨w.heap.size+1,2,none⟩ (.string n.data)).setCell ⟨w.heap.size+1,3,none⟩ (.int .i64 n.time)).setCell ⟨w.heap.size+1,4,none⟩ (.int .i64 n.mark)).cell? ⟨w.heap.size+1,2,none⟩=some (.string n.data):=(cell_of_row _ _ 2 _ _ (0,0) r5).trans (by simp)
   have d3:(((((WZ.setCell ⟨w.heap.size+1,0,none⟩ (.string n.path)).setCell ⟨w.heap.size+1,1,none⟩ (.int .i64 n.kind)).setCell ⟨w.heap.size+1,2,none⟩ (.string n.data)).setCell ⟨w.heap.size+1,3,none⟩ (.int .i64 n.time)).setCell ⟨w.heap.size+1,4,none⟩ (.int .i64 n.mark)).cell? ⟨w.heap.size+1,3,none⟩=some (.int .i64 n.time):=(cell_of_row _ _ 3 _ _ (0,0) r5).trans (by simp);have d4:(((((WZ.setCell ⟨w.heap.size+1,0,none⟩ (.string n.path)).setCell ⟨w.heap.size+1,1,none⟩ (.int .i64 n.kind)).setCell ⟨w.heap.size+1,2,none⟩ (.string n.data)).setCell ⟨w.heap.size+1,3,none⟩ (.int .i64 n.time)).setCell ⟨w.heap.size+1,4,none⟩ (.int .i64 n.mark)).cell? ⟨w.heap.size+1,4,none⟩=some (.int .i64 n.mark):=(cell_of_row _ _ 4 _ _ (0,0) r5).trans (by simp)
   have bf:Below w.heap.size w (((((WZ.setCell ⟨w.heap.size+1,0,none⟩ (.string n.path)).setCell ⟨w.heap.size+1,1,none⟩ (.int .i64 n.kind)).setCell ⟨w.heap.size+1,2,none⟩ (.string n.data)).setCell ⟨w.heap.size+1,3,none⟩ (.int .i64 n.time)).setCell ⟨w.heap.size+1,4,none⟩ (.int .i64 n.mark)):=(((((HF.1.setCell (by simp) _).setCell (by simp) _).setCell (by simp) _).setCell (by simp) _).setCell (by simp) _);clear MK hHeld r5 HF;go_wp2
   refine bodyPost_ret (v:= .agg #[.string n.path, .int .i64 n.kind, .string n.data, .int .i64 n.time, .int .i64 n.mark]) (by simp [results,Tryz.results82,go_sem,d0,d1,d2,d3,d4]) rfl ⟨rfl,bf⟩
 ·go_simp
  refine hK.out _ _ ?_ (fun hHeld=>?_)
  ·exact za MK _ (hHeld.1.keep (bE0))
  clear hK K
  try simp only [Act.put,kBs]
  have vD:=Mem.zi0 (W1) [.string n.data] 9;refine RN 2 fun K hK=>?_;go_simp
  refine hK.out _ _ ?_ (fun hHeld=>?_)
  ·exact za MK _ (hHeld.1.keep (bE0))
  clear hK K
  try simp only [Act.put,kBs]
  have vP:=Mem.zi0 (W1.alloc (.cells #[.string n.data] 9)) [.string n.path] 9;rw [show (W1.alloc (.cells #[.string n.data] 9)).heap.size=W1.heap.size+1 by simp] at vP;have vD2:=Mem.yi2 vD (.cells #[.string n.path] 9);refine RN 3 fun K hK=>?_;go_simp
  refine (join1 n.path _ _ h1 vP).mono ?_;rintro e wX ⟨rfl,bX⟩;refine hK.out _ _ ?_ (fun hHeld=>?_)
  ·exact za MK _ (hHeld.1.keep bX)
  clear hK K
  try simp only [Act.put,kBs]
  refine TB 8 ?_;have vD3:=Mem.zm1 vD2 bX;refine RN 7 fun K hK=>?_;go_simp
  refine (join1 n.data _ _ h2 vD3).mono ?_;rintro e wY ⟨rfl,bY⟩;refine hK.out _ _ ?_ (fun hHeld=>?_)
  ·exact za MK _ (hHeld.1.keep bY)
  clear hK K
  try simp only [Act.put,kBs]
  refine RN 9 fun K hK=>?_;go_simp
  refine hK.out _ _ ?_ (fun hHeld=>?_)
  ·exact za MK _ (hHeld.1.put0)
  clear hK K
  try simp only [Act.put,kBs]
  refine TB 10 ?_;refine RN 11 fun K hK=>?_;go_simp
  refine hK.out _ _ ?_ (fun hHeld=>?_)
  ·exact za MK _ (hHeld.1.put2)
  clear hK K
  try simp only [Act.put,kBs]
  refine wpAnyH_done (by kernel_rfl) ?_ _;have HF:=hHeld.1;generalize ((wY.setCell ⟨w.heap.size,0,none⟩ (.string n.path)).setCell ⟨w.heap.size,2,none⟩ (.string n.data))=WZ at HF ⊢;have q0:=HF.at 0;have q1:=HF.at 1;have q2:=HF.at 2;have q3:=HF.at 3;have q4:=HF.at 4;have z0:=HF.zat 0;have f0:=HF.zfr 0;have z1:=HF.zat 1;have f1:=HF.zfr 1;have z2:=HF.zat 2;have f2:=HF.zfr 2;have z3:=HF.zat 3;have f3:=HF.zfr 3;have z4:=HF.zat 4;have f4:=HF.zfr 4;simp only [kGs] at q0 q1 q2 q3 q4 z0 z1 z2 z3 z4;have r5:=HF.res;have d0:(((((WZ.setCell ⟨w.heap.size+1,0,none⟩ (.string n.path)).setCell ⟨w.heap.size+1,1,none⟩ (.int .i64 n.kind)).setCell ⟨w.heap.size+1,2,none⟩ (.string n.data)).setCell ⟨w.heap.size+1,3,none⟩ (.int .i64 n.time)).setCell ⟨w.heap.size+1,4,none⟩ (.int .i64 n.mark)).cell? ⟨w.heap.size+1,0,none⟩=some (.string n.path):=(cell_of_row _ _ 0 _ _ (0,0) r5).trans (by simp)
  have d1:(((((WZ.setCell ⟨w.heap.size+1,0,none⟩ (.string n.path)).setCell ⟨w.heap.size+1,1,none⟩ (.int .i64 n.kind)).setCell ⟨w.heap.size+1,2,none⟩ (.string n.data)).setCell ⟨w.heap.size+1,3,none⟩ (.int .i64 n.time)).setCell ⟨w.heap.size+1,4,none⟩ (.int .i64 n.mark)).cell? ⟨w.heap.size+1,1,none⟩=some (.int .i64 n.kind):=(cell_of_row _ _ 1 _ _ (0,0) r5).trans (by simp);have d2:(((((WZ.setCell ⟨w.heap.size+1,0,none⟩ (.string n.path)).setCell ⟨w.heap.size+1,1,none⟩ (.int .i64 n.kind)).setCell ⟨w.heap.size+1,2,none⟩ (.string n.data)).setCell ⟨w.heap.size+1,3,none⟩ (.int .i64 n.time)).setCell ⟨w.heap.size+1,4,none⟩ (.int .i64 n.mark)).cell? ⟨w.heap.size+1,2,none⟩=some (.string n.data):=(cell_of_row _ _ 2 _ _ (0,0) r5).trans (by simp)
  have d3:(((((WZ.setCell ⟨w.heap.size+1,0,none⟩ (.string n.path)).setCell ⟨w.heap.size+1,1,none⟩ (.int .i64 n.kind)).setCell ⟨w.heap.size+1,2,none⟩ (.string n.data)).setCell ⟨w.heap.size+1,3,none⟩ (.int .i64 n.time)).setCell ⟨w.heap.size+1,4,none⟩ (.int .i64 n.mark)).cell? ⟨w.heap.size+1,3,none⟩=some (.int .i64 n.time):=(cell_of_row _ _ 3 _ _ (0,0) r5).trans (by simp);have d4:(((((WZ.setCell ⟨w.heap.size+1,0,none⟩ (.string n.path)).setCell ⟨w.heap.size+1,1,none⟩ (.int .i64 n.kind)).setCell ⟨w.heap.size+1,2,none⟩ (.string n.data)).setCell ⟨w.heap.size+1,3,none⟩ (.int .i64 n.time)).setCell ⟨w.heap.size+1,4,none⟩ (.int .i64 n.mark)).cell? ⟨w.heap.size+1,4,none⟩=some (.int .i64 n.mark):=(cell_of_row _ _ 4 _ _ (0,0) r5).trans (by simp)
  have bf:Below w.heap.size w (((((WZ.setCell ⟨w.heap.size+1,0,none⟩ (.string n.path)).setCell ⟨w.heap.size+1,1,none⟩ (.int .i64 n.kind)).setCell ⟨w.heap.size+1,2,none⟩ (.string n.data)).setCell ⟨w.heap.size+1,3,none⟩ (.int .i64 n.time)).setCell ⟨w.heap.size+1,4,none⟩ (.int .i64 n.mark)):=(((((HF.1.setCell (by simp) _).setCell (by simp) _).setCell (by simp) _).setCell (by simp) _).setCell (by simp) _);clear MK hHeld r5 HF;go_wp2
  refine bodyPost_ret (v:= .agg #[.string n.path, .int .i64 n.kind, .string n.data, .int .i64 n.time, .int .i64 n.mark]) (by simp [results,Tryz.results82,go_sem,d0,d1,d2,d3,d4]) rfl ⟨rfl,bf⟩
end WCopied
end
section
open Go.RowKit Go.Maps
namespace Pl
theorem lt_asym {a b:ByteArray} (ha:za1 a=true) (hb:za1 b=true) (h:ltP a b=true):ltP b a=false:=by
 cases h2:ltP b a
 ·rfl
 ·rw [zd4 ha hb] at h;rw [zd4 hb ha] at h2;have :=zm3 _ _ _ h h2;rw [zj8] at this;cases this
theorem sorted_one {S L:List Nd} (hp:S.Perm L) (hok:∀n∈L,za1 n.path=true) (h0:L.Pairwise (fun a b=>ltP a.path b.path=true)) (hs:S.Pairwise (fun a b=>ltP b.path a.path=false)):S=L:=by
 have hap:∀a∈L,∀b∈L,a.path=b.path→a=b:=by
  have h1:L.Pairwise (fun a b=>za9 (names a.path) (names b.path)=true):=List.Pairwise.imp_of_mem (fun {a b} ha hb h=>by rw [←zd4 (hok a ha) (hok b hb)];exact h) h0;exact fun a ha b hb e=>one_path h1 ha hb e
 refine List.Perm.eq_of_pairwise (le:=fun a b=>ltP b.path a.path=false) ?_ hs (List.Pairwise.imp_of_mem (fun {a b} ha hb h=>lt_asym (hok a ha) (hok b hb) h) h0) hp;intro a b ha hb h1 h2;have ha':=hp.mem_iff.1 ha;refine hap a ha' b hb ?_;by_cases e:a.path=b.path
 ·exact e
 ·have :=two_less (hok a ha') (hok b hb) e
  change ltP a.path b.path= !ltP b.path a.path at this
  rw [h1,h2] at this;cases this
end Pl
namespace MapN
theorem keyOf_inv {p:ByteArray} {kl:Lit} (h:keyOf Tryz.prog 9 (.string p)=some kl):kl=key p:=by
 simp [keyOf,Tryz.underlying9,mapKey] at h
 rw [←h.2];rfl
structure Reads (D:DataW Unit) (C:List Pl.Nd):Prop where
 has:∀n∈C,Maps.has D (key n.path)=true
 ent:∀ (p:ByteArray) (c:Pl.Nd),(∀z,D.atKey (key p) z=dat c)→c∈C∧p=c.path
structure Got (C T:List Pl.Nd) (left:Lit→Bool):Prop where
 sub:∀t∈T,t∈C
 apart:T.Pairwise (fun a b=>a.path≠b.path)
 seen:∀t∈T,left (key t.path)=false
 all:∀n∈C,left (key n.path)=false→n∈T
theorem got_start {C:List Pl.Nd} {D:DataW Unit} (hD:Reads D C):Got C [] (Maps.has D):=
 ⟨fun t h=>absurd h (by simp),List.Pairwise.nil,fun t h=>absurd h (by simp),fun n hn h=>by rw [hD.has n hn] at h;cases h⟩
theorem one_apart {C:List Pl.Nd} (h:C.Pairwise (fun a b=>a.path≠b.path)) {a b:Pl.Nd} (ha:a∈C) (hb:b∈C) (e:a.path=b.path):a=b:=by
 induction h with
 |nil=>cases ha
 |cons h1 _ ih=>
  rcases List.mem_cons.1 ha with ha1|ha1
  ·rcases List.mem_cons.1 hb with hb1|hb1
   ·rw [ha1,hb1]
   ·exact absurd (ha1 ▸ e) (h1 _ hb1)
  ·rcases List.mem_cons.1 hb with hb1|hb1
   ·exact absurd (hb1 ▸ e).symm (h1 _ ha1)
   ·exact ih ha1 hb1
theorem entry_in {C:List Pl.Nd} {p:ByteArray} {c:Pl.Nd} (hC:C.Pairwise (fun a b=>a.path≠b.path)) (h:∀z,(mapOf C).atKey (key p) z=dat c):c∈C∧p=c.path:=by
 by_cases hp:∃n∈C,n.path=p
 ·obtain ⟨n,hn,rfl⟩:=hp;have e:=(zp0 hC hn).2 (dat c);rw [h] at e;have e2:=zs5 e;subst e2;exact ⟨hn,rfl⟩
 ·exfalso;have hm:∀n∈C,n.path≠p:=fun n hn e=>hp ⟨n,hn,e⟩;have h1:=(zv2 p C (.map []) hm).2;have a:∀z,dat c=z:=fun z=>by rw [←h z];exact h1 z
  have a1:=a (dat ⟨p,c.kind+1,p,0,0⟩);have a2:=zs5 a1;have a3:=congrArg Pl.Nd.kind a2;simp only at a3;omega
theorem zj6 {C:List Pl.Nd} (hC:C.Pairwise (fun a b=>a.path≠b.path)):Reads (mapOf C) C:=⟨fun _ hn=>(zp0 hC hn).1,fun _ _ h=>entry_in hC h⟩
theorem got_step {C T:List Pl.Nd} {left:Lit→Bool} {c:Pl.Nd} (hC:C.Pairwise (fun a b=>a.path≠b.path)) (h:Got C T left) (hc:c∈C) (hl:left (key c.path)=true):Got C (T++[c]) (fun z=>left z&&!z.sameKey (key c.path)):=by
 have same:(key c.path).sameKey (key c.path)=true:=by simp [key,Lit.sameKey]
 refine ⟨fun t ht=>?_,?_,fun t ht=>?_,fun n hn hf=>?_⟩
 ·rcases List.mem_append.1 ht with ht|ht
  ·exact h.sub t ht
  ·simp at ht;subst ht;exact hc
 ·rw [List.pairwise_append];refine ⟨h.apart,List.pairwise_singleton _ _,fun a ha b hb e=>?_⟩;simp at hb;subst hb
  have :=h.seen a ha;rw [e,hl] at this;cases this
 ·rcases List.mem_append.1 ht with ht|ht
  ·show (left (key t.path)&&_)=false;rw [h.seen t ht];rfl
  ·simp at ht;subst ht
   show (left (key t.path)&&!(key t.path).sameKey (key t.path))=false;rw [same];simp
 ·by_cases e:n.path=c.path
  ·rw [one_apart hC hn hc e];simp
  ·refine List.mem_append.2 (.inl (h.all n hn ?_));have hs:=sameKey_ne (zy7 e);have hf':(left (key n.path)&&!(key n.path).sameKey (key c.path))=false:=hf;rw [hs] at hf'
   simpa using hf'
theorem got_end {C T:List Pl.Nd} {left:Lit→Bool} (hC:C.Pairwise (fun a b=>a.path≠b.path)) (h:Got C T left) (hl:∀k,left k=false):T.Perm C:=by
 refine (List.perm_ext_iff_of_nodup (h.apart.imp (fun {a b} hne e=>hne (by rw [e]))) (hC.imp (fun {a b} hne e=>hne (by rw [e])))).2 fun x=>⟨h.sub x,fun hx=>h.all x hx (hl _)⟩
end MapN
namespace zm6
theorem zn2:(Tryz.prog.info? 47).map (fun i=>(i.zero,i.size,i.bytes))=some (some (.agg #[.string ⟨#[]⟩, .int .i64 0, .string ⟨#[]⟩, .int .i64 0, .int .i64 0]),5,56):=by kernel_rfl
def zeros (n:Nat):Array Value:=madeCells (Value.agg #[.string ⟨#[]⟩, .int .i64 0, .string ⟨#[]⟩, .int .i64 0, .int .i64 0]).cells (n*5)
theorem makeC (n:Nat) (hn:n≤1048576) (w:World):(Instr.makeSlice 41 (.int .i64 0) (.int .i64 (n:Int))).run Tryz.prog w= .ok (.slice (some ⟨w.heap.size,0,none⟩) 0 n) (w.alloc (.cells (zeros n) 47)):=by
 obtain ⟨i0,h0,h1,h2,h3⟩:=info_parts zn2;have h:=run_make (P:=Tryz.prog) w 41 47 i0 (.agg #[.string ⟨#[]⟩, .int .i64 0, .string ⟨#[]⟩, .int .i64 0, .int .i64 0]) Tryz.underlying41 h0 h1 .i64 .i64 0 (n:Int) (by omega) (by omega) (by rw [h3];omega) (by omega);rw [h,h2];simp [zeros]
theorem iter_at {w:World} {B r n:Nat} {D:DataW Unit} {left:Lit→Bool} {cnt:Nat} (h:w.ranges Tryz.prog 9 MapN.elem B r n D left cnt) {g:Nat} {cs:Array Value} {T:TypeId} (hg:w.heap[g]? =some (.cells cs T (0,0))):g≠r∧g≠B:=by
 obtain ⟨es,clock,since,seen,c0,h1,_,_,_,h2,_⟩:=h;refine ⟨fun e=>?_,fun e=>?_⟩
 ·subst e;rw [hg] at h2;cases h2
 ·subst e;rw [hg] at h1;cases h1
theorem own_not {w:World} {B r n Bs:Nat} {D:DataW Unit} {left:Lit→Bool} {cnt:Nat} {v:Value} {T:List Pl.Nd} (h:w.ranges Tryz.prog 9 MapN.elem B r n D left cnt) (ho:Mem.ownN w Bs v T):∀g,v.ownBlock=some g→g≠r∧g≠B:=by
 intro g hg
 rcases ho.2 with ⟨rfl,_⟩|⟨g',cap,cur,rfl,_,hh,_⟩
 ·cases hg
 ·cases hg;exact iter_at h hh
theorem sort_own (v:Value) (B:Nat) (T:List Pl.Nd) (w:World) (hp:∀t∈T,Pl.za1 t.path=true) (hl:T.length≤1048576) (hown:Mem.ownN w B v T):
  Calls Tryz.prog 129 #[v, .func (.func 130) #[] #[]] w fun e w'=>e= .returned (.tuple #[])∧
   ∃S:List Pl.Nd,S.Perm T∧S.Pairwise (fun a b=>Pl.ltP b.path a.path=false)∧Mem.ownN w' B v S∧w.grownBy w' v.ownBlock:=by
 rcases hown.2 with ⟨rfl,h0⟩|⟨g,cap,cur,rfl,rest⟩
 ·have :T=[]:=List.length_eq_zero_iff.1 h0;subst this;refine Calls.mono (AnyF.slices_SortFunc_none (P:=Tryz.prog) ya8.lay none 0 (.func (.func 130) #[] #[]) w) ?_;rintro e w' ⟨he,rfl⟩;exact ⟨he,[],List.Perm.refl _,List.Pairwise.nil,hown,⟨rfl,rfl,rfl,Nat.le_refl _,fun _ _ _=>rfl⟩⟩
 ·exact WOrder.sort_any g cap B T w hp hl hown
set_option maxRecDepth 100000 in
set_option maxHeartbeats 2000000 in
theorem any (B N:Nat) (C L:List Pl.Nd) (D:DataW Unit) (w:World) (hown:w.ownsMap Tryz.prog 9 MapN.elem B N D) (hN:N≤1000) (hD:MapN.Reads D C) (hC:C.Pairwise (fun a b=>a.path≠b.path)) (hperm:L.Perm C) (hr:L.Pairwise (fun a b=>Pl.ltP a.path b.path=true))
  (hok:∀n∈C,Pl.za1 n.path=true∧n.data.size≤1048576):
  Calls Tryz.prog 110 #[.map (some B)] w fun e w'=>∃v,e= .returned v∧Mem.ownN w' w.heap.size v L∧Below w.heap.size w w':=by
 obtain ⟨i0,hi,hz0,hz1,hz2⟩:=info_parts zn2;have hsz:=hown.size_le;have hmk:=makeC (Maps.size D) (by omega) w;have hbl:=hown.lt;have e1:(w.alloc (.cells (zeros (Maps.size D)) 47)).heap.size=w.heap.size+1:=by simp
 have OW0:Hid (Mem.ownN (w.alloc (.cells (zeros (Maps.size D)) 47)) w.heap.size (.slice (some ⟨w.heap.size,0,none⟩) 0 (Maps.size D)) []):=
  ⟨rfl, .inr ⟨w.heap.size,_,_,rfl,Nat.le_refl _,heap_alloc_new _ _,Nat.zero_le _,by unfold maxLen;omega,size_madeCells _ _,rfl⟩⟩
 have HG0:=hide (MapN.got_start hD);have HC:=hide hC;have HOK:=hide hok
 have HEND:Hid (∀S T:List Pl.Nd,T.Perm C→S.Perm T→S.Pairwise (fun a b=>Pl.ltP b.path a.path=false)→S=L):=fun S T h1 h2 h3=>
  Pl.sorted_one ((h2.trans h1).trans hperm.symm) (fun n hn=>(hok n (hperm.mem_iff.1 hn)).1) hr h3
 have HM:=hide hown;clear hown hr hperm hC hok;have HENT:=hide hD.ent;clear hD;go_enter Tryz.func110,Tryz.ntmps110
 go_wp2_with (first
  |(at_len;refine wpList_len_own _ rfl _ 78 rfl 9 47 Tryz.underlying78 _ B N D rfl (za HM) ?_)
  |(at_range;refine wpList_range_own _ rfl _ 78 rfl 9 47 MapN.law Tryz.underlying78 _ B N _ rfl ((za HM).alloc _) ?_;intro w0 hrg0 hg0 hs0)
  |go_in)
 go_frame
 rw [e1] at hrg0 hs0 ⊢;have OW1:=hide (Mem.yl9 (za OW0) hg0 (fun _ _=>by simp));have B1:=hide (((Below.refl w.heap.size w).alloc (Nat.le_refl _) _).grown hg0 (by simp) (fun j hj=>by cases hj));clear hg0 hs0 OW0 hmk e1
 go_loopw [3] (fun v wr=>∃ (left:Lit→Bool) (cnt:Nat) (T:List Pl.Nd),wr.ranges Tryz.prog 9 MapN.elem B (w.heap.size+1) N D left cnt∧T.length+cnt≤Maps.size D∧Hid (Mem.ownN wr w.heap.size v T)∧Hid (MapN.Got C T left)∧Hid (Below w.heap.size w wr))
  (fun _ wr=>wr.rangeLeft B (w.heap.size+1))
 case atStart=>exact ⟨_,_,[],hrg0,by simp,OW1,HG0,B1⟩
 case round=>
  obtain ⟨left,cnt,T,hrg,hcs,HOW,HGT,HB⟩:=hrel;have HNT:=hide (own_not hrg (za HOW));clear hrg0 OW1 B1 HG0
  go_wp2_with (first
   |(at_next;refine wpList_next_ranges _ rfl _ rfl 9 MapN.law MapN.elem (Value.string) (Pl.Nd.val) (fun key kl hk=>Maps.keyOf_string_inv Tryz.underlying9 hk) (fun v y hv=>by obtain ⟨d,ps⟩:=y;obtain ⟨n,hn,_⟩:=MapN.zt8 hv;exact ⟨n,hn⟩) B (w.heap.size+1) N _ _ _ rfl hrg ?_ ?_)
   |go_in)
  ·intro hc0 hl0;have hp:=hide (MapN.got_end (za HC) (za HGT) hl0);have hs:=hide (sort_own u3 w.heap.size T wr (fun t ht=>(za HOK t ((za HGT).sub t ht)).1) (by omega) (za HOW));have HLW:=hide (Mem.ze3 (za HOW));clear HOW HGT HNT hrg hc0 hl0 HENT;go_wp2_with fail
   refine (za hs).mono ?_;rintro e w2 ⟨rfl,S,h1,h2,h3,h4⟩;have eS:=za HEND S T (za hp) h1 h2;subst eS;have bw:=(za HB).grown h4 (za HB).size (fun q hq=>(za HLW q hq).1);have O2:=hide h3;clear hs h1 h2 h3 h4 hp HEND;go_wp2
   go_ret
   exact ⟨u3,rfl,za O2,bw⟩
  ·intro x c kl yd yp w1 cnt1 hkey hlk hR hat hrg1 hlt hg1 hs1 hen;have ek:kl=MapN.key x:=MapN.keyOf_inv hkey;have ey:yd=MapN.dat c:=by rw [MapN.zk3] at hR;cases hR;rfl
   subst ek ey;obtain ⟨hcC,rfl⟩:=za HENT x c hat;have HG2:=hide (MapN.got_step (za HC) (za HGT) hcC hlk);have hok:=za HOK c hcC;have hc:=hide (fun W=>WCopied.any c W (by have :=Pl.zd1 hok.1;omega) hok.2);have HRG1:=hide hrg1;have OW1:=Mem.yl9 (za HOW) hg1 (fun g hg e=>by cases e;exact (za HNT _ hg).1 rfl);have B1:=(za HB).grown hg1 (za HB).size (fun q hq=>by cases hq;omega);have HLE:=hide (hrg.left_eq);clear hat hR hkey hlk hok hcC HGT HOW HB hg1 hs1 hrg1 hrg HENT HNT;obtain ⟨p,k0,d,t,m⟩:=c;simp only [Pl.Nd.val] at hen hc HG2 HRG1 ⊢;have OWD:=Mem.zf5 OW1 (.cells #[.string p, .int .i64 k0, .string d, .int .i64 t, .int .i64 m] 47);have bW:=B1.alloc B1.size (.cells #[.string p, .int .i64 k0, .string d, .int .i64 t, .int .i64 m] 47);have hsW:w.heap.size≤w1.heap.size:=B1.size;clear OW1 B1;go_wp2_with fail
   refine (za hc _).mono ?_;rintro e wC ⟨rfl,bC⟩;have OWC:=Mem.zg7 OWD bC;have bX:=bW.trans (bC.mono bW.size);have HLT:=hide (Mem.ze3 OWC);have HRC:=hide (((za HRG1).alloc (.cells #[.string p, .int .i64 k0, .string d, .int .i64 t, .int .i64 m] 47)).kept (Mem.zc7 bC none) (by simp) (by simp));have HNC:=hide (own_not (za HRC) OWC);have hsX:=bX.size;clear OWD bW bC hc HRG1 hen;go_wp2_with (at_builtin;refine wpList_append_own _ rfl _ _ 41 rfl w.heap.size 47 i0 _ 5 56 Tryz.underlying41 hi hz0 hz1 hz2 rfl (by decide) _ _ _ rfl (Mem.zf5 OWC _) ⟨wC.heap.size,0,none⟩ 1 1 [.string p, .int .i64 k0, .string d, .int .i64 t, .int .i64 m] rfl rfl (Mem.zp1 wC ⟨p,k0,d,t,m⟩ _) (Mem.zm9 ⟨p,k0,d,t,m⟩) (by unfold maxLen;omega) (by omega) (by simp;omega) ?_)
   intro v'' wZ hownZ hgrow _;have OWZ:=hide (Mem.zk5 (L:=T) (n:=⟨p,k0,d,t,m⟩) hownZ);have HRZ:=hide (((za HRC).alloc (.cells #[.string p, .int .i64 k0, .string d, .int .i64 t, .int .i64 m] 47)).kept hgrow (fun e=>(za HNC _ e.symm).2 rfl) (fun e=>(za HNC _ e.symm).1 rfl));have bZ:=hide ((bX.alloc bX.size (.cells #[.string p, .int .i64 k0, .string d, .int .i64 t, .int .i64 m] 47)).grown hgrow (by have :=bX.size;simp;omega) (fun q hq=>(za HLT q hq).1));clear hownZ hgrow OWC bX HRC HNC HLT;go_wp2
   go_roundw
   case rel=>exact ⟨_,cnt1,T++[⟨p,k0,d,t,m⟩],za HRZ,by simp;omega,OWZ,HG2,bZ⟩
   case measure=>rw [(za HRZ).left_eq,za HLE];exact hlt
end zm6
end
section
open Go.RowKit Go.Maps
namespace MapN
theorem zu4 {D:DataW Unit} {C:List Pl.Nd} (h:Reads D C) (hm:IsMap D) (n:Pl.Nd):Reads (D.put (key n.path) (dat n)) (C.filter (fun m=>!decide (m.path=n.path))++[n]):=by
 refine ⟨fun m hmem=>?_,fun p c hc=>?_⟩
 ·by_cases e:m.path=n.path
  ·rw [e];exact has_put_same hm (yc1 _) _
  ·rw [has_put_other (zy7 e)]
   rcases List.mem_append.1 hmem with h1|h1
   ·exact h.has m (List.mem_filter.1 h1).1
   ·simp at h1;subst h1;exact absurd rfl e
 ·by_cases e:p=n.path
  ·subst e;have h1:=hc (dat n);rw [atKey_put_same hm (yc1 _)] at h1;have :=zs5 h1;subst this;exact ⟨by simp,rfl⟩
  ·have h1:=h.ent p c (fun z=>by rw [←hc z];exact (atKey_put_other (zy7 e) _ z).symm);exact ⟨List.mem_append_left _ (List.mem_filter.2 ⟨h1.1,by rw [←h1.2];simpa using e⟩),h1.2⟩
theorem size_fold:∀ (C:List Pl.Nd) (D:DataW Unit),Tidy D→C.Pairwise (fun a b=>a.path≠b.path)→(∀n∈C,Maps.has D (key n.path)=false)→Maps.size (C.foldl (fun D n=>D.put (key n.path) (dat n)) D)=Maps.size D+C.length:=by
 intro C
 induction C with
 |nil=>intro D _ _ _;rfl
 |cons n C ih=>
  intro D hD hp hn;have hp':=List.pairwise_cons.1 hp;rw [List.foldl_cons,ih _ (hD.put (yc1 _) _) hp'.2 (fun m hm=>by rw [has_put_other (zy7 (fun e=>hp'.1 m hm e.symm))];exact hn m (List.mem_cons_of_mem _ hm)),size_put hD,if_neg (by rw [hn n List.mem_cons_self];simp),List.length_cons];omega
theorem zv8 {C:List Pl.Nd} (h:C.Pairwise (fun a b=>a.path≠b.path)):Maps.size (mapOf C)=C.length:=by
 have :=size_fold C (.map []) tidy_empty h (fun _ _=>rfl);rw [mapOf,this];show 0+_=_;omega
end MapN
end
section
open Go.RowKit
namespace Pl
def zd5 (ts:List ByteArray):Nat→List ByteArray
 |0=>[]
 |k+1=>zd5 ts k++(if k=0 then [] else [⟨#[47]⟩])++[ts.getD k ⟨#[]⟩]
theorem glueL_snoc (A:List (List UInt8)) (a:List UInt8):zh7 (A++[a])=zh7 A++(if A=[] then [] else [47])++a:=by
 by_cases h:A=[]
 ·subst h;rfl
 ·rw [yb4 h (by simp),if_neg h];simp [zh7]
theorem yn (A B:List ByteArray):cat (A++B)=cat A++cat B:=by simp [cat]
theorem parts_cat (ts:List ByteArray):∀k,k≤ts.length→cat (zd5 ts k)=zh7 ((ts.take k).map by_):=by
 intro k
 induction k with
 |zero=>intro _;rfl
 |succ k ih=>
  intro hk;have hlt:k<ts.length:=by omega
  rw [zd5,yn,yn,ih (by omega),List.take_add_one,List.getElem?_eq_getElem hlt,Option.toList_some,List.map_append,List.map_cons,List.map_nil,glueL_snoc,cat_one];have h1:ts.getD k ⟨#[]⟩=ts[k]:=by simp [List.getD_eq_getElem?_getD,List.getElem?_eq_getElem hlt]
  rw [h1]
  have h2:cat (if k=0 then [] else [(⟨#[47]⟩:ByteArray)])=if (ts.take k).map by_=[] then [] else [47]:=by
   by_cases h0:k=0
   ·subst h0;rfl
   ·rw [if_neg h0,if_neg (by simp;exact ⟨h0,by intro e;subst e;simp at hlt⟩)];rfl
  rw [h2];rfl
theorem parts_glue (ts:List ByteArray):(⟨(cat (zd5 ts ts.length)).toArray⟩:ByteArray)=glue ts:=by
 rw [parts_cat ts _ (Nat.le_refl _),List.take_length];rfl
theorem parts_tot (ts:List ByteArray):tot (zd5 ts ts.length)=(glue ts).size:=by
 rw [←yg,parts_cat ts _ (Nat.le_refl _),List.take_length,←zs2,zh6]
theorem parts_length (ts:List ByteArray):∀k,(zd5 ts k).length≤2*k:=by
 intro k
 induction k with
 |zero=>simp [zd5]
 |succ k ih=>
  rw [zd5];by_cases h:k=0
  ·simp [h,zd5]
  ·simp [h];omega
theorem parts_first {ts:List ByteArray} {t:ByteArray} (ht:ts[0]? =some t):zd5 ts 1=zd5 ts 0++[t]:=by
 simp [zd5,List.getD_eq_getElem?_getD,ht]
theorem parts_next {ts:List ByteArray} {k:Nat} {t:ByteArray} (hk:k≠0) (ht:ts[k]? =some t):zd5 ts (k+1)=(zd5 ts k++[⟨#[47]⟩])++[t]:=by
 simp [zd5,List.getD_eq_getElem?_getD,ht,hk]
end Pl
namespace ya2
theorem make12 (w:World):(Instr.makeSlice 108 (.int .i64 0) (.int .i64 12)).run Tryz.prog w= .ok (.slice (some ⟨w.heap.size,0,none⟩) 0 12) (w.alloc (.cells (madeCells (Value.string ⟨#[]⟩).cells 12) 9)):=by
 obtain ⟨i0,h0,h1,h2,h3⟩:=info_parts WWords.infoS;have h:=run_make (P:=Tryz.prog) w 108 9 i0 (.string ⟨#[]⟩) Tryz.underlying108 h0 h1 .i64 .i64 0 12 (by omega) (by omega) (by rw [h3];omega) (by omega);rw [h];simp [h2]

set_option maxRecDepth 100000 in
set_option maxHeartbeats 400000 in
theorem any (v:Value) (ts:List ByteArray) (w:World) (hn:ts.length≤1000) (hg:(Pl.glue ts).size≤1000000) (hv:Mem.zn3 w v ts):
  Calls Tryz.prog 136 #[v] w fun e w'=>e= .returned (.string (Pl.glue ts))∧Below w.heap.size w w':=by
 obtain ⟨i0,hi,hz0,hz1,hz2⟩:=info_parts WWords.infoS;have hmk:=make12;have H0:Hid ((⟨(Pl.cat (Pl.zd5 ts ts.length)).toArray⟩:ByteArray)=Pl.glue ts):=Pl.parts_glue ts;have H1:Hid (Pl.tot (Pl.zd5 ts ts.length)≤1000000000):=by have :=Pl.parts_tot ts;show _≤_;omega
 by_cases hts:ts=[]
 ·subst hts
  have hv2:∃a cap,v= .slice a 0 cap:=by
   rcases hv with ⟨rfl,_⟩|⟨b,o,cap,rfl,_⟩
   ·exact ⟨_,_,rfl⟩
   ·exact ⟨_,_,rfl⟩
  obtain ⟨a,cap,rfl⟩:=hv2;go_enter Tryz.func136,Tryz.ntmps136
  go_wp2
  go_loop [3,9] (fun p i=>p= .slice (some ⟨w.heap.size,0,none⟩) 0 12∧i= .int .i64 0) (fun _ _=>0)
  case atStart=>exact ⟨rfl,rfl⟩
  case round=>
   obtain ⟨rfl,rfl⟩:=hrel;go_wp2_with fail
   refine (WJoin.any w.heap.size 0 12 [] _ (by simp) (by simp [Pl.tot]) (fun j t h=>by simp at h) (by simp)).mono ?_;rintro e w1 ⟨rfl,hb1⟩;go_wp2
   go_ret
   exact ⟨rfl,(bE0).trans (hb1.mono (by simp))⟩
 have hpos:0<ts.length:=List.length_pos_iff.2 hts
 have HNE:Hid (Pl.zd5 ts ts.length≠[]):=by
  intro h;obtain ⟨n,hn⟩:∃n,ts.length=n+1:=⟨ts.length - 1,by omega⟩;rw [hn,Pl.zd5] at h;simp at h
 rcases hv with ⟨rfl,rfl⟩|⟨b,o,cap,rfl,hb,hcell⟩
 ·exact absurd rfl hts
 ·have HC:=hide hcell;clear hcell;go_enter Tryz.func136,Tryz.ntmps136
  go_wp2
  go_loopw [3,9] (fun p i wr=>∃k:Nat,k≤ts.length∧i= .int .i64 (k:Int)∧wr.ownsRow w.heap.size 9 1 p (Pl.zd5 ts k).length ((Pl.zd5 ts k).map Value.string)∧Below w.heap.size w wr) (fun _ i _=>ts.length - (intOf i).toNat)
  case atStart=>exact ⟨0,Nat.zero_le _,rfl,World.ownsRow_made _ _ 12 (Nat.le_refl _) (by unfold maxLen;omega) (size_madeCells _ _),bE0⟩
  case round=>
   obtain ⟨k,hk,rfl,hown,hbel⟩:=hrel;have hb1:=hbel.size;have hpl:=Pl.parts_length ts k;by_cases hlt:k<ts.length
   ·obtain ⟨t,hkt⟩:∃t,ts[k]? =some t:=⟨_,List.getElem?_eq_getElem hlt⟩;have hc:wr.cell? ⟨b,o+k,none⟩=some (.string t):=(hbel.cell (p:=⟨b,o+k,none⟩) hb).trans (za HC k t hkt);by_cases h0:k=0
    ·have HS:Hid (Pl.zd5 ts (k+1)=Pl.zd5 ts k++[t]):=by subst h0;exact Pl.parts_first hkt
     have hp:¬ (0:Int)<(k:Int):=by omega
     clear hkt h0;go_wp2_with (at_builtin;refine wpList_append_own _ rfl _ _ 108 rfl w.heap.size 9 i0 (.string ⟨#[]⟩) 1 16 Tryz.underlying108 hi hz0 hz1 hz2 rfl (by decide) _ _ _ rfl (hown.alloc _) ⟨wr.heap.size,0,none⟩ 1 1 [.string t] rfl rfl (Mem.zh5 _ _ _) (Mem.one_str _) (by unfold maxLen;omega) (by omega) (by simp;omega) ?_)
     ·intro v' w2 hown' hgrow _;have hbel':=Mem.zl7 hbel (Nat.le_refl _) hown hgrow
      have hown2:Hid (w2.ownsRow w.heap.size 9 1 v' (Pl.zd5 ts (k+1)).length ((Pl.zd5 ts (k+1)).map Value.string)):=by
       show World.ownsRow _ _ _ _ _ _ _;rw [za HS];simpa using hown'
      clear hgrow hown hbel hown' hc;go_wp2
      go_roundw
      case rel=>exact ⟨k+1,by omega,by go_num,hown2,hbel'⟩
      case measure=>simp [intOf];omega
    ·have HS:=hide (Pl.parts_next h0 hkt);have hp:(0:Int)<(k:Int):=by omega
     clear hkt;go_wp2_with (at_builtin;refine wpList_append_own _ rfl _ _ 108 rfl w.heap.size 9 i0 (.string ⟨#[]⟩) 1 16 Tryz.underlying108 hi hz0 hz1 hz2 rfl (by decide) _ _ _ rfl (hown.alloc _) ⟨wr.heap.size,0,none⟩ 1 1 [.string ⟨#[47]⟩] rfl rfl (Mem.zh5 _ _ _) (Mem.one_str _) (by unfold maxLen;omega) (by omega) (by simp;omega) ?_)
     ·intro v1 w1 hown' hgrow _;have hbel':=Mem.zl7 hbel (Nat.le_refl _) hown hgrow;have hown1:w1.ownsRow w.heap.size 9 1 v1 (Pl.zd5 ts k++[(⟨#[47]⟩:ByteArray)]).length ((Pl.zd5 ts k++[(⟨#[47]⟩:ByteArray)]).map Value.string):=by simpa using hown'
      have hb2:=hbel'.size;have hl2:(Pl.zd5 ts k++[(⟨#[47]⟩:ByteArray)]).length≤2*k+1:=by simp;omega
      clear hgrow hown hbel hown' hc hpl;go_wp2_with (at_builtin;refine wpList_append_own _ rfl _ _ 108 rfl w.heap.size 9 i0 (.string ⟨#[]⟩) 1 16 Tryz.underlying108 hi hz0 hz1 hz2 rfl (by decide) _ _ _ rfl (hown1.alloc _) ⟨w1.heap.size,0,none⟩ 1 1 [.string t] rfl rfl (Mem.zh5 _ _ _) (Mem.one_str _) (by unfold maxLen;omega) (by omega) (by simp;omega) ?_)
      ·intro v' w2 hown' hgrow _;have hbel2:=Mem.zl7 hbel' (Nat.le_refl _) hown1 hgrow
       have hown2:Hid (w2.ownsRow w.heap.size 9 1 v' (Pl.zd5 ts (k+1)).length ((Pl.zd5 ts (k+1)).map Value.string)):=by
        show World.ownsRow _ _ _ _ _ _ _;rw [za HS];simpa using hown'
       clear hgrow hown1 hbel' hown';go_wp2
       go_roundw
       case rel=>exact ⟨k+1,by omega,by go_num,hown2,hbel2⟩
       case measure=>simp [intOf];omega
   ·obtain rfl:k=ts.length:=by omega
    rcases Mem.zo1 hown with ⟨rfl,hnil⟩|⟨g,o',cap',rfl,hgl,hcell'⟩
    ·exact absurd hnil HNE.out
    ·have HC':=hide hcell';clear hcell' hown;go_wp2_with fail
     refine (WJoin.any g o' cap' (Pl.zd5 ts ts.length) _ (by omega) H1.out HC'.out hgl).mono ?_;rintro e w1 ⟨rfl,hb1⟩;go_wp2
     go_ret
     exact ⟨by rw [H0.out];rfl,hbel.trans (hb1.mono (by omega))⟩
end ya2
end
section
open Go.RowKit Go.Shelf
attribute [local go_sem] Oper.semAt_some
namespace Pl
def ways (L:List ByteArray) (k:Nat):List ByteArray:=(List.range k).map (fun i=>glue (L.take (i+1)))
theorem yd2 (L:List ByteArray) (k:Nat):ways L (k+1)=ways L k++[glue (L.take (k+1))]:=by simp [ways,List.range_succ]
theorem yg1 (L:List ByteArray) (k:Nat):(ways L k).length=k:=by simp [ways]
end Pl
namespace zk2
abbrev Small:={ x:ByteArray // x.size≤1000000 }
def KC (X:Nat) (W W':World):Prop:=W.heap.size≤W'.heap.size∧∀ (j:Nat) (o:Obj),j≠X→W.heap[j]? =some o→o.isCells=true→W'.heap[j]? =some o
theorem KC.trans {X:Nat} {A B C:World} (h1:KC X A B) (h2:KC X B C):KC X A C:=⟨Nat.le_trans h1.1 h2.1,fun j o hj ho hc=>h2.2 j o hj (h1.2 j o hj ho hc) hc⟩
theorem KC.put {X l:Nat} (W:World) (o o':Obj) (hl:W.heap[l]? =some o) (ho:o.isCells=false):KC X W (W.putObj l o'):=by
 refine ⟨by simp,fun j p _ hp hc=>?_⟩;have hne:j≠l:=fun e=>by rw [e,hl] at hp;cases hp;rw [ho] at hc;cases hc
 exact (World.putObj_heap_other hne).trans hp
theorem row_kept {X:Nat} {W W':World} {B T n:Nat} {v:Value} {xs:List Value} (h:W.ownsRow B T 1 v n xs) (k:KC X W W') (hX:X<B):W'.ownsRow B T 1 v n xs:=by
 refine ⟨h.1,?_⟩
 rcases h.2 with h0|⟨g,cap,cur,hv,hb,hg,rest⟩
 ·exact .inl h0
 ·exact .inr ⟨g,cap,cur,hv,hb,k.2 g _ (by omega) hg rfl,rest⟩
end zk2
namespace Mem
theorem yo1 {w:World} {a:Option Addr} {n cap:Nat} {L:List ByteArray} (h:zn3 w (.slice a n cap) L) (k:Nat) (hk:k≤L.length) (h0:0<k):zn3 w (.slice a k cap) (L.take k):=by
 rcases h with ⟨_,h2⟩|⟨b,o,cap',hv,hb,hc⟩
 ·subst h2;simp at hk;omega
 ·injection hv with e1 e2 e3
  subst e1;refine .inr ⟨b,o,cap,by rw [List.length_take,Nat.min_eq_left hk],hb,fun j t hj=>hc j t ?_⟩;rw [List.getElem?_take] at hj
  split at hj
  ·exact hj
  ·cases hj
theorem own_cap {w:World} {B T n cap:Nat} {a:Option Addr} {xs:List Value} (h:w.ownsRow B T 1 (.slice a n cap) n xs):n≤cap:=by
 rcases h.2 with ⟨hv,h0⟩|⟨g,cap',cur,hv,hb,hg,hc,rest⟩
 ·omega
 ·injection hv with e1 e2 e3
  omega
end Mem
namespace zk2
set_option linter.unusedSimpArgs false in
set_option maxRecDepth 100000 in
set_option maxHeartbeats 2000000 in
theorem iter_stops (n:Nat) (X:Nat) (q:Addr) (p:ByteArray) (w:World) (hX:X<w.heap.size) (hq:w.cell? q=some (.string p)) (hql:q.block<w.heap.size) (hp:p.size≤1048576):
  SeqStopsK Fence.wide n Tryz.prog 135 #[.pointer (some q)] (fun x:Small=>#[Value.string x.1]) (KC X) (fun xs=>xs.map Subtype.val=Pl.ways (Pl.zb p) (Pl.zb p).length) (fun _=>True) (Pl.zb p).length w:=fun l J Jx W hW hJ _ hY h0=>by
 have hq1:W.cell? q=some (.string p):=(hW.cell hql).trans hq;have hXW:X<W.heap.size:=Nat.lt_of_lt_of_le hX hW.size;have HN:=hide (yb8.any p W hp);generalize Pl.za1 p=rr at HN;have hl6:(Pl.zb p).length≤6:=(Pl.zg0 p).2;have HGL:Hid (∀k,(Pl.glue ((Pl.zb p).take k)).size≤1000000):=fun k=>Pl.zz5 (fun t ht=>(Pl.zg0 p).1 t (List.mem_of_mem_take ht)) (by have :=(Pl.zg0 p).2;simp;omega);generalize Pl.zb p=L at hY hl6 HGL HN ⊢;refine callsIn_of_wp Tryz.func135 rfl trivial ?_ rfl;simp only [Tryz.ntmps135,List.size_toArray,List.length_cons,List.length_nil,Nat.reduceAdd,Nat.reduceSub,Array.replicate_succ,Array.replicate_zero,List.push_toArray,List.append_toArray,List.nil_append,List.cons_append]
 gi_wp2_with fail
 refine ⟨trivial,fun h=>(by cases h),?_⟩;refine (callsIn_wide.2 (za HN)).mono ?_;rintro e w1 ⟨v,rfl,own,b1⟩;obtain ⟨a,cap,rfl⟩:=Mem.za4 own;have hJ1:Hid (∃pre:List Small,pre.map Subtype.val=Pl.ways L 0∧J pre w1):=⟨[],rfl,hJ [] W w1 none h0 (Mem.zc7 b1 none) (fun r e=>by cases e)⟩;have OW:=hide own;have HY:=hide hY;clear HN own b1 h0 hY
 gi_wp2_with fail
 gi_loopw [13] (fun i wr=>∃k:Nat,k≤L.length∧i= .int .i64 k∧Hid (∃pre:List Small,pre.map Subtype.val=Pl.ways L k∧J pre wr)∧Hid (wr.ownsRow W.heap.size 9 1 (.slice a L.length cap) L.length (L.map Value.string)))
  (fun i _=>L.length - (intOf i).toNat)
 case atStart=>exact ⟨0,Nat.zero_le _,rfl,hJ1,OW⟩
 case round=>
  obtain ⟨k,hk,rfl,HJ,HO⟩:=hrel;clear hJ1 OW;by_cases hlt:k<L.length
  ·have y1:(k:Int)<(L.length:Int):=by omega
   have hT:=Mem.yo1 (Mem.zo1 (za HO)) (k+1) (by omega) (by omega);have HP:=hide (ya2.any (.slice a (k+1) cap) (L.take (k+1)) wr (by simp;omega) (za HGL (k+1)) hT);have hcap:=Mem.own_cap (za HO);have hw1:IntKind.i64.wrap ((k:Int)+1)=(k:Int)+1:=by simp only [IntKind.wrap_i64];omega
   clear hT
   gi_wp2_with fail
   refine ⟨trivial,fun h=>(by cases h),?_⟩;refine (callsIn_wide.2 (za HP)).mono ?_;rintro e w2 ⟨rfl,b2⟩;obtain ⟨pre,hpre,hJp⟩:=za HJ;have HJ2:J pre w2:=hJ _ wr w2 none hJp (Mem.zc7 b2 none) (fun r e=>by cases e);have HO2:=hide (Mem.zj2 (za HO) b2);obtain ⟨fn,tmps,assign,body,hy,hR⟩:=za HY pre ⟨Pl.glue (L.take (k+1)),za HGL (k+1)⟩ w2 HJ2 (by have :=congrArg List.length hpre;rw [Pl.yg1,List.length_map] at this;omega);have HWS:Hid ((pre++[(⟨Pl.glue (L.take (k+1)),za HGL (k+1)⟩:Small)]).map Subtype.val=Pl.ways L (k+1)):=by rw [List.map_append,hpre,Pl.yd2];exact rfl
   dsimp only at hy
   clear HP HJ HO HJ2 b2 hpre hJp
   gi_wp2
   refine ⟨fun h=>(by cases h),?_⟩;refine hR.mono ?_;rintro e W3 (⟨rfl,hJ3,hk3⟩|⟨rfl,hJx3⟩)
   ·have HJ3:Hid (∃pre:List Small,pre.map Subtype.val=Pl.ways L (k+1)∧J pre W3):=⟨_,za HWS,hJ3⟩;have HO3:=hide (row_kept (za HO2) hk3 hXW);clear hJ3 hk3 HO2 hR hy HWS
    gi_wp2
    go_roundw
    case rel=>exact ⟨k+1,by omega,by go_num,HJ3,HO3⟩
    case measure=>simp [intOf];omega
   ·gi_wp2
    refine bodyPost_ret (results_none rfl _ _ _) rfl ?_;exact ⟨⟨_,rfl⟩, .inr ⟨_,trivial,hJx3⟩⟩
  ·obtain rfl:k=L.length:=by omega
   have y1:¬ ((L.length:Int)<(L.length:Int)):=by omega
   gi_wp2
   go_end0
   exact ⟨⟨_,rfl⟩, .inl (za HJ)⟩
set_option maxRecDepth 100000 in
theorem paths_any (p:ByteArray) (w:World):Calls Tryz.prog 119 #[.string p] w fun e w'=>e= .returned (.func (.func 135) #[] #[.pointer (some ⟨w.heap.size,0,none⟩)])∧w'=w.alloc (.cells #[.string p] 9):=by
 have hmf:∀ (fn:Fn) (first cap:Array Value) (w:World),(Instr.makeFunc fn first cap).run Tryz.prog w= .ok (.func fn first cap) w:=fun _ _ _ _=>rfl;go_enter Tryz.func119,Tryz.ntmps119
 go_wp2
 go_ret
 exact ⟨rfl,rfl⟩
end zk2
end
section
open Go.RowKit
namespace zk1
theorem set_have (t:Bool) (n:Pl.Nd) (hv:List Bool) (k:Nat) (x:Bool):(Pl.Sg.cs ⟨t,n,hv⟩).toArray.setIfInBounds (6+k) (.bool x)=(Pl.Sg.cs ⟨t,n,hv.set k x⟩).toArray:=by
 rw [List.setIfInBounds_toArray];unfold Pl.Sg.cs;rw [List.set_append_right _ _ (by simp)];simp [List.map_set]
theorem set_mark (t:Bool) (n:Pl.Nd) (hv:List Bool) (m:Int):(Pl.Sg.cs ⟨t,n,hv⟩).toArray.setIfInBounds 5 (.int .i64 m)=(Pl.Sg.cs ⟨t,⟨n.path,n.kind,n.data,n.time,m⟩,hv⟩).toArray:=by
 rw [List.setIfInBounds_toArray];rfl
theorem set_node (n:Pl.Nd) (hv:List Bool) (u:Bool) (m:Pl.Nd):((((((Pl.Sg.cs ⟨u,m,hv⟩).toArray.setIfInBounds 0 (.bool true)).setIfInBounds 1 (.string n.path)).setIfInBounds 2 (.int .i64 n.kind)).setIfInBounds 3 (.string n.data)).setIfInBounds 4 (.int .i64 n.time)).setIfInBounds 5 (.int .i64 n.mark)=(Pl.Sg.cs ⟨true,n,hv⟩).toArray:=by
 simp only [kB3];rfl
theorem yn6 (w:World) (b:Nat):w.grownBy w (some b):=⟨rfl,rfl,rfl,Nat.le_refl _,fun _ _ _=>rfl⟩
theorem zd3 {w v:World} {g:Nat} (h:w.grownBy v (some g)) (o:Nat) (x:Value):w.grownBy (v.setCell ⟨g,o,none⟩ x) (some g):=
 ⟨h.os,h.tape,h.output,Nat.le_trans h.size (by simp [World.setCell]),fun j hj hne=>(Below.heap_setCell _ _ _ _ (by intro e;exact hne (by rw [e]))).trans (h.block j hj hne)⟩
theorem yj9 {w w':World} {b:Nat} (h:w.grownBy w' (some b)) (o:Obj):w.grownBy (w'.alloc o) (some b):=
 Mem.zl2 h (Mem.zc7 ((Below.refl _ _).alloc (Nat.le_refl _) o) (some b))
set_option linter.unusedSimpArgs false in
set_option maxRecDepth 100000 in
set_option maxHeartbeats 2000000 in
theorem take_any (b k:Nat) (s:Pl.Sg) (n:Pl.Nd) (w:World) (hk:k<4) (hh:s.have'.length=4) (hb:Mem.Blk w b s.cs.toArray 232):
  Calls Tryz.prog 174 #[.pointer (some ⟨b,0,none⟩), .int .i64 k,n.val] w fun e w'=>e= .returned (.bool (Pl.zj5 n))∧Mem.Blk w' b (Pl.zh1 s k n).cs.toArray 232∧w.grownBy w' (some b):=by
 obtain ⟨told,⟨sp,sk,sd,st,sm⟩,hv⟩:=s;obtain ⟨np,nk,nd,nt,nm⟩:=n
 obtain ⟨h0,h1,h2,h3,rfl⟩:∃h0 h1 h2 h3,hv=[h0,h1,h2,h3]:=by
  match hv,hh with
  | [a,b,c,d],_=>exact ⟨a,b,c,d,rfl⟩
 have hix:0≤(k:Int)∧(k:Int)<4:=by omega
 simp only [Pl.Nd.val];have hbl:=hb.lt;have V:=hb.alloc (.cells #[.string np, .int .i64 nk, .string nd, .int .i64 nt, .int .i64 nm] 47);have N:=Mem.Blk.new w #[.string np, .int .i64 nk, .string nd, .int .i64 nt, .int .i64 nm] 47;have c0:=hb.cell 0;have c1:=hb.cell 1;have c2:=hb.cell 2;have c3:=hb.cell 3;have c4:=hb.cell 4;have c5:=hb.cell 5;have f0:=hb.fr 0;have f1:=hb.fr 1;have f2:=hb.fr 2;have f3:=hb.fr 3;have f4:=hb.fr 4;have f5:=hb.fr 5;have fk:=hb.fr (6+k)
 obtain ⟨x,ck⟩:∃x,w.cell? ⟨b,6+k,none⟩=some (.bool x):=by
  rw [hb.cell (6+k)];obtain rfl |rfl |rfl |rfl:k=0∨k=1∨k=2∨k=3:=by omega
  all_goals exact ⟨_,rfl⟩
 simp only [Pl.Sg.cs,List.map_cons,List.map_nil,List.cons_append,List.nil_append,kGs] at c0 c1 c2 c3 c4 c5
 have hN:∀ (t:Bool) (x:Bool) (M:Int),Mem.Blk (((w.setCell ⟨b,5,none⟩ (.int .i64 M)).setCell ⟨b,6+k,none⟩ (.bool x)).alloc (.cells #[.string np, .int .i64 nk, .string nd, .int .i64 nt, .int .i64 nm] 47)).drew.drew b (Pl.Sg.cs ⟨told,⟨sp,sk,sd,st,M⟩,[h0,h1,h2,h3].set k x⟩).toArray 232∧w.grownBy (((w.setCell ⟨b,5,none⟩ (.int .i64 M)).setCell ⟨b,6+k,none⟩ (.bool x)).alloc (.cells #[.string np, .int .i64 nk, .string nd, .int .i64 nt, .int .i64 nm] 47)).drew.drew (some b):=by
  intro t x M;have h1:=((hb.put 5 (.int .i64 M)).put (6+k) (.bool x)).alloc (.cells #[.string np, .int .i64 nk, .string nd, .int .i64 nt, .int .i64 nm] 47);rw [set_mark,set_have] at h1;have h2:=yj9 (zd3 (zd3 (yn6 w b) 5 (.int .i64 M)) (6+k) (.bool x)) (.cells #[.string np, .int .i64 nk, .string nd, .int .i64 nt, .int .i64 nm] 47);exact ⟨h1,⟨h2.os,h2.tape,h2.output,h2.size,h2.block⟩⟩
 cases told
 ·clear hN
  have V2:Mem.Blk (((((((((w.setCell ⟨b,0,none⟩ (.bool true)).setCell ⟨b,1,none⟩ (.string np)).setCell ⟨b,2,none⟩ (.int .i64 nk)).setCell ⟨b,3,none⟩ (.string nd)).setCell ⟨b,4,none⟩ (.int .i64 nt)).setCell ⟨b,5,none⟩ (.int .i64 nm)).alloc (.cells #[.string np, .int .i64 nk, .string nd, .int .i64 nt, .int .i64 nm] 47))).drew) b (Pl.Sg.cs ⟨true,⟨np,nk,nd,nt,nm⟩,[h0,h1,h2,h3]⟩).toArray 232:=by
   have h:=((((((hb.put 0 (.bool true)).put 1 (.string np)).put 2 (.int .i64 nk)).put 3 (.string nd)).put 4 (.int .i64 nt)).put 5 (.int .i64 nm)).alloc (.cells #[.string np, .int .i64 nk, .string nd, .int .i64 nt, .int .i64 nm] 47);rw [set_node ⟨np,nk,nd,nt,nm⟩] at h;exact h
  have hsz:(((((((((w.setCell ⟨b,0,none⟩ (.bool true)).setCell ⟨b,1,none⟩ (.string np)).setCell ⟨b,2,none⟩ (.int .i64 nk)).setCell ⟨b,3,none⟩ (.string nd)).setCell ⟨b,4,none⟩ (.int .i64 nt)).setCell ⟨b,5,none⟩ (.int .i64 nm)).alloc (.cells #[.string np, .int .i64 nk, .string nd, .int .i64 nt, .int .i64 nm] 47))).drew).heap.size=w.heap.size+1:=by simp
  have N2:Mem.Blk (((((((((w.setCell ⟨b,0,none⟩ (.bool true)).setCell ⟨b,1,none⟩ (.string np)).setCell ⟨b,2,none⟩ (.int .i64 nk)).setCell ⟨b,3,none⟩ (.string nd)).setCell ⟨b,4,none⟩ (.int .i64 nt)).setCell ⟨b,5,none⟩ (.int .i64 nm)).alloc (.cells #[.string np, .int .i64 nk, .string nd, .int .i64 nt, .int .i64 nm] 47))).drew) w.heap.size #[.string np, .int .i64 nk, .string nd, .int .i64 nt, .int .i64 nm] 47:=by
   have h:=Mem.Blk.new ((((((w.setCell ⟨b,0,none⟩ (.bool true)).setCell ⟨b,1,none⟩ (.string np)).setCell ⟨b,2,none⟩ (.int .i64 nk)).setCell ⟨b,3,none⟩ (.string nd)).setCell ⟨b,4,none⟩ (.int .i64 nt)).setCell ⟨b,5,none⟩ (.int .i64 nm)) #[.string np, .int .i64 nk, .string nd, .int .i64 nt, .int .i64 nm] 47;simp only [World.size_setCell] at h;exact h
  have G2:w.grownBy (((((((((w.setCell ⟨b,0,none⟩ (.bool true)).setCell ⟨b,1,none⟩ (.string np)).setCell ⟨b,2,none⟩ (.int .i64 nk)).setCell ⟨b,3,none⟩ (.string nd)).setCell ⟨b,4,none⟩ (.int .i64 nt)).setCell ⟨b,5,none⟩ (.int .i64 nm)).alloc (.cells #[.string np, .int .i64 nk, .string nd, .int .i64 nt, .int .i64 nm] 47))).drew) (some b):=by
   have h:=yj9 (zd3 (zd3 (zd3 (zd3 (zd3 (zd3 (yn6 w b) 0 (.bool true)) 1 (.string np)) 2 (.int .i64 nk)) 3 (.string nd)) 4 (.int .i64 nt)) 5 (.int .i64 nm)) (.cells #[.string np, .int .i64 nk, .string nd, .int .i64 nt, .int .i64 nm] 47);exact ⟨h.os,h.tape,h.output,h.size,h.block⟩
  have hM:max nm nm=nm:=by omega
  have hmx:¬nm<nm:=by omega
  go_enter Tryz.func174,Tryz.ntmps174
  go_wp2
  go_region
  go_wp2
  generalize (((((((((w.setCell ⟨b,0,none⟩ (.bool true)).setCell ⟨b,1,none⟩ (.string np)).setCell ⟨b,2,none⟩ (.int .i64 nk)).setCell ⟨b,3,none⟩ (.string nd)).setCell ⟨b,4,none⟩ (.int .i64 nt)).setCell ⟨b,5,none⟩ (.int .i64 nm)).alloc (.cells #[.string np, .int .i64 nk, .string nd, .int .i64 nt, .int .i64 nm] 47))).drew)=w2 at V2 N2 G2 hsz ⊢
  have HN:Hid (∀x:Bool,Mem.Blk ((w2.setCell ⟨b,5,none⟩ (.int .i64 nm)).setCell ⟨b,6+k,none⟩ (.bool x)).drew.drew b (Pl.Sg.cs ⟨true,⟨np,nk,nd,nt,nm⟩,[h0,h1,h2,h3].set k x⟩).toArray 232∧w.grownBy ((w2.setCell ⟨b,5,none⟩ (.int .i64 nm)).setCell ⟨b,6+k,none⟩ (.bool x)).drew.drew (some b)):=by
   intro x;have h1:=(V2.put 5 (.int .i64 nm)).put (6+k) (.bool x);rw [set_mark,set_have] at h1;have h2:=zd3 (zd3 G2 5 (.int .i64 nm)) (6+k) (.bool x);exact ⟨h1,⟨h2.os,h2.tape,h2.output,h2.size,h2.block⟩⟩
  have c5:=V2.cell 5;have f5:=V2.fr 5;have fk:=V2.fr (6+k);have n1:=N2.cell 1;have n4:=N2.cell 4
  obtain ⟨x,ck⟩:∃x,w2.cell? ⟨b,6+k,none⟩=some (.bool x):=by
   rw [V2.cell (6+k)];obtain rfl |rfl |rfl |rfl:k=0∨k=1∨k=2∨k=3:=by omega
   all_goals exact ⟨_,rfl⟩
  simp only [Pl.Sg.cs,List.map_cons,List.map_nil,List.cons_append,List.nil_append,kGs] at c5 n1 n4;clear V2 N2 G2 hb V N c0 c1 c2 c3 c4;have hne:¬w.heap.size=b:=by omega
  by_cases hn:nk=1
  ·subst hn;go_region
   go_wp2
   go_region
   go_wp2
   go_ret
   exact ⟨by simp [Pl.zj5],by simp only [Pl.zh1,Pl.zm,Bool.false_eq_true,if_false,hM,decide_true];exact (za HN true).1,(za HN true).2⟩
  ·have t1:(nk==1)=false:=by simpa using hn
   have t2:(nk !=1)=true:=by simpa using hn
   have t3:decide (nk=1)=false:=by simpa using hn
   go_region
   go_wp2
   go_region
   go_wp2
   go_ret
   exact ⟨by simp [Pl.zj5,hn],by simp only [Pl.zh1,Pl.zm,Bool.false_eq_true,if_false,hM,t3];exact (za HN false).1,(za HN false).2⟩
 ·have HN:=hide hN;clear hN V N hb;by_cases hmx:sm<nm
  ·have hM:max sm nm=nm:=by omega
   by_cases hn:nk=1
   ·subst hn;go_enter Tryz.func174,Tryz.ntmps174
    go_wp2
    go_region
    go_wp2
    go_region
    go_wp2
    go_ret
    exact ⟨by simp [Pl.zj5],by simp only [Pl.zh1,Pl.zm,if_true,hM,decide_true];exact (za HN true true nm).1,(za HN true true nm).2⟩
   ·have t1:(nk==1)=false:=by simpa using hn
    have t2:(nk !=1)=true:=by simpa using hn
    have t3:decide (nk=1)=false:=by simpa using hn
    go_enter Tryz.func174,Tryz.ntmps174
    go_wp2
    go_region
    go_wp2
    go_region
    go_wp2
    go_ret
    exact ⟨by simp [Pl.zj5,hn],by simp only [Pl.zh1,Pl.zm,if_true,hM,t3];exact (za HN true false nm).1,(za HN true false nm).2⟩
  ·have hM:max sm nm=sm:=by omega
   by_cases hn:nk=1
   ·subst hn;go_enter Tryz.func174,Tryz.ntmps174
    go_wp2
    go_region
    go_wp2
    go_region
    go_wp2
    go_ret
    exact ⟨by simp [Pl.zj5],by simp only [Pl.zh1,Pl.zm,if_true,hM,decide_true];exact (za HN true true sm).1,(za HN true true sm).2⟩
   ·have t1:(nk==1)=false:=by simpa using hn
    have t2:(nk !=1)=true:=by simpa using hn
    have t3:decide (nk=1)=false:=by simpa using hn
    go_enter Tryz.func174,Tryz.ntmps174
    go_wp2
    go_region
    go_wp2
    go_region
    go_wp2
    go_ret
    exact ⟨by simp [Pl.zj5,hn],by simp only [Pl.zh1,Pl.zm,if_true,hM,t3];exact (za HN true false sm).1,(za HN true false sm).2⟩
end zk1
end
section
open Go.RowKit
namespace Pl
def partsR (n:Nat):List Bool:=[decide (0<n),decide (1<n),decide (2<n),decide (3<n)]
def zt3 (n:Nat):Sg:=⟨false,za6,partsR n⟩
theorem parts_set {k:Nat} (h:k<4):(partsR k).set k true=partsR (k+1):=by
 obtain rfl |rfl |rfl |rfl:k=0∨k=1∨k=2∨k=3:=by omega
 all_goals rfl
end Pl
namespace zk1
set_option maxRecDepth 100000 in
theorem dec_make (a:Option Addr) (n cap:Nat) (w:World):Calls Tryz.prog 171 #[.slice a n cap] w fun e w'=>e= .returned (.func (.func 173) #[] #[.pointer (some ⟨w.heap.size,0,none⟩)])∧w'=w.alloc (.cells #[.slice a n cap] 182):=by
 have hmf:∀ (fn:Fn) (first cap:Array Value) (w:World),(Instr.makeFunc fn first cap).run Tryz.prog w= .ok (.func fn first cap) w:=fun _ _ _ _=>rfl;go_enter Tryz.func171,Tryz.ntmps171
 go_wp2
 go_ret
 exact ⟨rfl,rfl⟩
set_option linter.unusedSimpArgs false in
set_option maxRecDepth 100000 in
set_option maxHeartbeats 2000000 in
theorem root_any (a:Option Addr) (n cap:Nat) (w:World) (hn:n≤4):
  Calls Tryz.prog 172 #[.slice a n cap] w fun e w'=>e= .returned (.agg (Pl.zt3 n).cs.toArray)∧Below w.heap.size w w':=by
 have b0:Below w.heap.size w ((w.alloc (.cells Pl.Sg.zero.cs.toArray 232)).alloc (.cells Pl.Sg.zero.cs.toArray 232)):=((Below.refl _ _).alloc (Nat.le_refl _) _).alloc (by simp) _;have A0:Hid (Below w.heap.size w ((w.alloc (.cells Pl.Sg.zero.cs.toArray 232)).alloc (.cells Pl.Sg.zero.cs.toArray 232))∧Mem.Blk ((w.alloc (.cells Pl.Sg.zero.cs.toArray 232)).alloc (.cells Pl.Sg.zero.cs.toArray 232)) w.heap.size Pl.Sg.zero.cs.toArray 232∧Mem.Blk ((w.alloc (.cells Pl.Sg.zero.cs.toArray 232)).alloc (.cells Pl.Sg.zero.cs.toArray 232)) (w.heap.size+1) (Pl.zt3 0).cs.toArray 232):=⟨b0,(Mem.Blk.new _ _ _).alloc _,Mem.zg4 _ _ _⟩;simp only [Pl.Sg.zero,Pl.za6,Pl.Sg.cs,List.map_cons,List.map_nil,List.cons_append,List.nil_append] at A0;have hR:w.heap.size≤w.heap.size:=Nat.le_refl _;clear b0
 go_enter Tryz.func172,Tryz.ntmps172
 go_wp2
 go_loopw [7] (fun i wr=>∃k:Nat,k≤n∧i= .int .i64 (k:Int)∧Hid (Below w.heap.size w wr∧Mem.Blk wr w.heap.size Pl.Sg.zero.cs.toArray 232∧Mem.Blk wr (w.heap.size+1) (Pl.zt3 k).cs.toArray 232)) (fun i _=>n - (intOf i).toNat)
 case atStart=>exact ⟨0,Nat.zero_le _,rfl,A0⟩
 case round=>
  obtain ⟨k,hk,rfl,HA⟩:=hrel;clear A0;by_cases hlt:k<n
  ·have y1:(k:Int)<(n:Int):=by omega
   have hix:0≤(k:Int)∧(k:Int)<4:=by omega
   have fk:=(za HA).2.2.fr (6+k)
   obtain ⟨x,ck⟩:∃x,wr.cell? ⟨w.heap.size+1,6+k,none⟩=some (.bool x):=by
    rw [(za HA).2.2.cell (6+k)];obtain rfl |rfl |rfl |rfl:k=0∨k=1∨k=2∨k=3:=by omega
    all_goals exact ⟨_,rfl⟩
   have A2:Hid (Below w.heap.size w (wr.setCell ⟨w.heap.size+1,6+k,none⟩ (.bool true))∧Mem.Blk (wr.setCell ⟨w.heap.size+1,6+k,none⟩ (.bool true)) w.heap.size Pl.Sg.zero.cs.toArray 232∧Mem.Blk (wr.setCell ⟨w.heap.size+1,6+k,none⟩ (.bool true)) (w.heap.size+1) (Pl.zt3 (k+1)).cs.toArray 232):=by
    refine ⟨(za HA).1.setCell (by show w.heap.size≤w.heap.size+1;omega) _,(za HA).2.1.far _ _ (by show w.heap.size≠w.heap.size+1;omega),?_⟩;have h:=(za HA).2.2.put (6+k) (.bool true);unfold Pl.zt3 at h;rw [set_have,Pl.parts_set (by omega)] at h;exact h
   clear HA;go_wp2
   go_roundw
   case rel=>exact ⟨k+1,by omega,by go_num,A2⟩
   case measure=>simp [intOf];omega
  ·obtain rfl:k=n:=by omega
   have y1:¬ ((k:Int)<(k:Int)):=by omega
   have R1:=(za HA).2.1;have S1:=(za HA).2.2;have BU:=(za HA).1;have ER:Hid (Pl.zt3 k=⟨false,Pl.za6,[decide (0<k),decide (1<k),decide (2<k),decide (3<k)]⟩):=rfl;generalize decide (0<k)=g0 at ER;generalize decide (1<k)=g1 at ER;generalize decide (2<k)=g2 at ER;generalize decide (3<k)=g3 at ER;rw [za ER] at S1;have c0:=R1.cell 0;have f0:=R1.fr 0;have d0:=S1.cell 0;have c1:=R1.cell 1;have f1:=R1.fr 1;have d1:=S1.cell 1;have c2:=R1.cell 2;have f2:=R1.fr 2;have d2:=S1.cell 2;have c3:=R1.cell 3;have f3:=R1.fr 3;have d3:=S1.cell 3;have c4:=R1.cell 4;have f4:=R1.fr 4;have d4:=S1.cell 4;have c5:=R1.cell 5;have f5:=R1.fr 5;have d5:=S1.cell 5;have c6:=R1.cell 6;have f6:=R1.fr 6;have d6:=S1.cell 6;have c7:=R1.cell 7;have f7:=R1.fr 7;have d7:=S1.cell 7;have c8:=R1.cell 8;have f8:=R1.fr 8;have d8:=S1.cell 8;have c9:=R1.cell 9;have f9:=R1.fr 9;have d9:=S1.cell 9
   simp only [Pl.Sg.zero,Pl.za6,Pl.Sg.cs,List.map_cons,List.map_nil,List.cons_append,List.nil_append,kGs] at c0 c1 c2 c3 c4 c5 c6 c7 c8 c9 d0 d1 d2 d3 d4 d5 d6 d7 d8 d9;clear R1 S1 HA;go_wp2
   refine bodyPost_ret (v:= .agg #[.bool false, .string ⟨#[]⟩, .int .i64 0, .string ⟨#[]⟩, .int .i64 0, .int .i64 0, .bool g0, .bool g1, .bool g2, .bool g3]) (by simp [results,Tryz.results172,go_sem,c0,c1,c2,c3,c4,c5,c6,c7,c8,c9]) rfl ⟨by rw [za ER];rfl,?_⟩;exact ((((((((((BU.setCell (p:=⟨w.heap.size,0,none⟩) hR _).setCell (p:=⟨w.heap.size,1,none⟩) hR _).setCell (p:=⟨w.heap.size,2,none⟩) hR _).setCell (p:=⟨w.heap.size,3,none⟩) hR _).setCell (p:=⟨w.heap.size,4,none⟩) hR _).setCell (p:=⟨w.heap.size,5,none⟩) hR _).setCell (p:=⟨w.heap.size,6,none⟩) hR _).setCell (p:=⟨w.heap.size,7,none⟩) hR _).setCell (p:=⟨w.heap.size,8,none⟩) hR _).setCell (p:=⟨w.heap.size,9,none⟩) hR _)
end zk1
end
section
open Go.RowKit
namespace zq3
set_option maxRecDepth 100000 in
set_option maxHeartbeats 4000000 in
theorem zs3 (s:ByteArray) (w:World) (hs:s.size≤1048576):
  Calls Tryz.prog 120 #[.string s] w fun e w'=>e= .returned (.string (Pl.glue (Pl.zb s).dropLast))∧Below w.heap.size w w':=by
 have hn:=hide (yb8.any s w hs);have hL:=hide (Pl.zg0 s);generalize Pl.za1 s=r at hn;generalize Pl.zb s=L at hn hL;go_enter Tryz.func120,Tryz.ntmps120
 go_wp2_with fail
 refine (za hn).mono ?_;rintro e w1 ⟨v,rfl,hown,hb⟩;clear hn
 rcases Mem.texts hown with ⟨rfl,rfl⟩|⟨g,cap,rfl,hcap,hm,hgb,hgl,hcell⟩
 ·clear hown;go_wp2_with fail
  refine (ya2.any _ [] _ (by simp) (by decide) (.inl ⟨rfl,rfl⟩)).mono ?_;rintro e w2 ⟨rfl,hb2⟩;have hb3:=hb.trans (hb2.mono hb.size);clear hb hb2;go_wp2
  go_ret
  exact ⟨rfl,hb3⟩
 ·clear hown;have hm2:=hm;have HC:=hide hcell;clear hcell;unfold maxLen at hm2;by_cases h0:L.length=0
  ·obtain rfl:L=[]:=List.eq_nil_of_length_eq_zero h0;have m0:max (-1:Int) 0=0:=by decide
   go_wp2_with fail
   refine (ya2.any _ [] _ (by simp) (by decide) (.inr ⟨g,0,cap,rfl,hgl,fun j t h=>by simp at h⟩)).mono ?_;rintro e w2 ⟨rfl,hb2⟩;have hb3:=hb.trans (hb2.mono hb.size);clear hb hb2;go_wp2
   go_ret
   exact ⟨rfl,hb3⟩
  ·have h1:(0:Int)≤(L.length:Int) - 1:=by omega
   have m1:max ((L.length:Int) - 1) 0=(L.length:Int) - 1:=by omega
   have h2:(L.length:Int) - 1≤(cap:Int):=by omega
   have E:=hide (Pl.drop_last L);go_wp2_with fail
   try rw [show (max ((L.length:Int) - 1) 0).toNat=L.length - 1 by omega]
   refine (ya2.any _ (L.take (L.length - 1)) _ ?_ (Pl.zz5 (Pl.zw2 (za hL).1 _) ?_) (Mem.take_texts hgl (za HC) _ (by omega))).mono ?_
   ·have :=(za hL).2;simp;omega
   ·have :=(za hL).2;simp;omega
   rintro e w2 ⟨rfl,hb2⟩;rw [za E];have hb3:=hb.trans (hb2.mono hb.size);clear hb hb2;go_wp2
   go_ret
   exact ⟨rfl,hb3⟩
end zq3
end
section
open Go.RowKit Go.Maps
namespace Pl
def parV (e2 e3:Value) (C:List Nd) (p:ByteArray):Value:=
 if (zb4 p).size=0 then .nilIface else match C.find? (fun m=>decide (m.path=zb4 p)) with |none=>e2|some m=>if m.kind=1 then .nilIface else e3
theorem par_ok {C:List Nd} {p:ByteArray} {u2 u3:TypeId} {x2 x3:Value} (hC:C.Pairwise (fun a b=>a.path≠b.path)):
  (parI C p=true∧parV (.iface u2 x2) (.iface u3 x3) C p= .nilIface)∨(parI C p=false∧∃u x,parV (.iface u2 x2) (.iface u3 x3) C p= .iface u x):=by
 unfold parV parI;by_cases h0:(zb4 p).size=0
 ·left;simp [h0]
 simp only [h0,decide_false,Bool.false_or,if_false];cases hf:C.find? (fun m=>decide (m.path=zb4 p)) with
 |none=>
  right
  refine ⟨?_,u2,x2,rfl⟩;rw [List.any_eq_false];intro m hm;have :=List.find?_eq_none.1 hf m hm;simp at this
  simp [this]
 |some m=>
  have h1:=List.mem_of_find?_eq_some hf;have h2:m.path=zb4 p:=by simpa using List.find?_some hf
  by_cases hk:m.kind=1
  ·left
   refine ⟨?_,by simp [hk]⟩;rw [List.any_eq_true];exact ⟨m,h1,by simp [h2,hk]⟩
  ·right
   refine ⟨?_,u3,x3,by simp [hk]⟩;rw [List.any_eq_false];intro x hx;simp only [Bool.and_eq_true,decide_eq_true_eq,not_and];intro hxp
   have :x=m:=by
    have hp:∀ {A:List Nd},A.Pairwise (fun a b=>a.path≠b.path)→∀ {a b:Nd},a∈A→b∈A→a.path=b.path→a=b:=by
     intro A hA
     induction hA with
     |nil=>intro a b ha;cases ha
     |cons hx' _ ih=>
      intro a b ha hb e
      rcases List.mem_cons.1 ha with e1|h1
      ·rcases List.mem_cons.1 hb with e2|h2
       ·rw [e1,e2]
       ·exact absurd (e1 ▸ e) (hx' _ h2)
      ·rcases List.mem_cons.1 hb with e2|h2
       ·exact absurd (e2 ▸ e).symm (hx' _ h1)
       ·exact ih h1 h2 e
    exact hp hC hx h1 (hxp.trans h2.symm)
   rw [this];exact hk
end Pl
namespace MapN
section
variable {P:Program} (w:World) {ops:Array Oper} {rest:List Oper} {o:Oper} {a:Act} {Q:Exit→Act→World→Prop}
theorem look_ok (hg:o.guard=none) (m x:Operand) (t:TypeId) (hop:o.op=Op.lookup t m x true)
  (k e:TypeId) (K:Keyed P k) (ht:P.underlying t=some (.map k e)) (hz:(zeroValue e).run P w= .ok (Pl.Nd.val ⟨⟨#[]⟩,0,⟨#[]⟩,0,0⟩) w) (b n:Nat) (D:DataW Unit)
  (hm:a.eval m= .map (some b)) (hown:w.ownsMap P k elem b n D) (kv:Value) (kl:Lit) (hx:a.eval x=kv) (hkey:keyOf P k kv=some kl) (nd:Pl.Nd) (hat:D.atKey kl (dat ⟨⟨#[]⟩,0,⟨#[]⟩,0,0⟩)=dat nd) (r:Bool) (hr:Maps.has D kl=r)
  (hK:wpList P ops Q rest (a.put o.dst (.tuple #[.agg #[.string nd.path, .int .i64 nd.kind, .string nd.data, .int .i64 nd.time, .int .i64 nd.mark], .bool r])) w):
  wpList P ops Q (o::rest) a w:=
 wpList_lookup_own_ok w hg m x t hop k e K ht elem hz _ [] (zk3 _) b n D hm hown kv kl hx hkey (fun v ps hv=>by
  obtain ⟨n1,rfl,hd⟩:=zt8 hv;obtain rfl:=zs5 (hat.symm.trans hd);rw [hr]
  exact hK)
end
end MapN
namespace zc2
structure Errs (w:World) (u1 u2 u3:TypeId) (x1 x2 x3:Value):Prop where
 c1:w.cell? ⟨1,0,none⟩=some (.iface u1 x1)
 c2:w.cell? ⟨2,0,none⟩=some (.iface u2 x2)
 c3:w.cell? ⟨3,0,none⟩=some (.iface u3 x3)
theorem Errs.call {w w':World} {u1 u2 u3:TypeId} {x1 x2 x3:Value} (h:Errs w u1 u2 u3 x1 x2 x3) (b:Below w.heap.size w w'):Errs w' u1 u2 u3 x1 x2 x3:=
 ⟨(b.cell (p:=⟨_,0,none⟩) (World.block_lt_of_cell? w ⟨_,0,none⟩ h.c1)).trans h.c1,(b.cell (p:=⟨_,0,none⟩) (World.block_lt_of_cell? w ⟨_,0,none⟩ h.c2)).trans h.c2,(b.cell (p:=⟨_,0,none⟩) (World.block_lt_of_cell? w ⟨_,0,none⟩ h.c3)).trans h.c3⟩
theorem zd9 {w w':World} {B n:Nat} {D:DataW Unit} (h:w.ownsMap Tryz.prog 9 MapN.elem B n D) (b:Below w.heap.size w w'):w'.ownsMap Tryz.prog 9 MapN.elem B n D:=
 h.kept (row:=none) ⟨b.os,b.tape,b.output,b.size,fun k hk _=>b.block k hk⟩ (by simp)
set_option maxRecDepth 100000 in
set_option maxHeartbeats 400000 in
theorem fault_any (B N:Nat) (C:List Pl.Nd) (p:ByteArray) (w:World) (u1 u2 u3:TypeId) (x1 x2 x3:Value) (hE:Errs w u1 u2 u3 x1 x2 x3) (hown:w.ownsMap Tryz.prog 9 MapN.elem B N (MapN.mapOf C)) (hC:C.Pairwise (fun a b=>a.path≠b.path)) (hp:p.size≤1048576):
  Calls Tryz.prog 117 #[.map (some B), .string p] w fun e w'=>e= .returned (Pl.parV (.iface u2 x2) (.iface u3 x3) C p)∧Below w.heap.size w w':=by
 have hpa:=hide (zq3.zs3 p w hp)
 have hz:=hide (show (Pl.zb4 p).size≤1048576 from by
  have h1:=Pl.zg0 p;have h2:=Pl.zy8 (Pl.zb p).dropLast (fun t ht=>(Pl.zr4 (h1.1 t (List.dropLast_subset _ ht))).2.2.2);rw [List.length_dropLast] at h2;show (Pl.glue (Pl.zb p).dropLast).size≤1048576
  omega)
 change Hid (Calls Tryz.prog _ _ w fun e w'=>e= .returned (.string (Pl.zb4 p))∧_) at hpa
 have E1:Hid ((Pl.zb4 p).size=0→Pl.parV (.iface u2 x2) (.iface u3 x3) C p= .nilIface):=fun h=>by simp [Pl.parV,h]
 have E2:Hid ((Pl.zb4 p).size≠0→C.find? (fun m=>decide (m.path=Pl.zb4 p))=none→Pl.parV (.iface u2 x2) (.iface u3 x3) C p= .iface u2 x2):=fun h hf=>by simp [Pl.parV,h,hf]
 have E3:Hid ((Pl.zb4 p).size≠0→∀m,C.find? (fun m=>decide (m.path=Pl.zb4 p))=some m→Pl.parV (.iface u2 x2) (.iface u3 x3) C p=if m.kind=1 then .nilIface else .iface u3 x3):=fun h m hf=>by simp [Pl.parV,h,hf]
 generalize Pl.parV (.iface u2 x2) (.iface u3 x3) C p=R at E1 E2 E3 ⊢;generalize Pl.zb4 p=q at hpa hz E1 E2 E3;have HE:=hide hE;have HM:=hide hown;clear hE hown;go_enter Tryz.func117,Tryz.ntmps117
 go_wp2_with fail
 refine (za hpa).mono ?_;rintro e w1 ⟨rfl,b1⟩;have hE1:=(za HE).call b1;have hM1:=hide (zd9 (za HM) b1);have k2:∀o,(w1.alloc o).cell? ⟨2,0,none⟩=some (.iface u2 x2):=fun o=>(World.cell?_alloc_some _ _ _ (by rw [hE1.c2];rfl)).trans hE1.c2;have k3:∀o,(w1.alloc o).cell? ⟨3,0,none⟩=some (.iface u3 x3):=fun o=>(World.cell?_alloc_some _ _ _ (by rw [hE1.c3];rfl)).trans hE1.c3;clear HE HM hpa hE1;by_cases h0:q.size=0
 ·have t0:q.toList.isEmpty=true:=by rw [Pl.zd2];simpa [Pl.zh2] using h0
  have E:=hide (za E1 h0);go_wp2
  go_ret
  exact ⟨by rw [za E];rfl,b1⟩
 have t0:q.toList.isEmpty=false:=by rw [Pl.zd2];simpa [Pl.zh2] using h0
 have hkey:=MapN.zj3 (p:=q) (by have :=za hz;unfold maxLen;omega);cases hf:C.find? (fun m=>decide (m.path=q)) with
 |none=>
  have E:=hide (za E2 h0 hf);have hmiss:∀n∈C,n.path≠q:=fun n hn=>by simpa using List.find?_eq_none.1 hf n hn
  have ha:=hide (MapN.zr9 hmiss);have ha2:=hide (Maps.atKey_of_not_has (za ha) (MapN.dat ⟨⟨#[]⟩,0,⟨#[]⟩,0,0⟩));clear E1 E2 E3 hf hmiss;go_wp2_with (at_lookup;refine MapN.look_ok _ rfl _ _ 78 rfl 9 47 MapN.law Tryz.underlying78 (MapN.za6 _) B N (MapN.mapOf C) rfl (za hM1) _ _ rfl hkey ⟨⟨#[]⟩,0,⟨#[]⟩,0,0⟩ (za ha2) false (za ha) ?_)
  go_ret
  exact ⟨by rw [za E];rfl,b1.alloc b1.size _⟩
 |some m=>
  have E:=hide (za E3 h0 m hf);have hm1:=List.mem_of_find?_eq_some hf;have hm2:m.path=q:=by simpa using List.find?_some hf
  obtain ⟨y1,y2⟩:=MapN.zp0 hC hm1;rw [hm2] at y1 y2;have ha:=hide y1;have ha2:=hide (y2 (MapN.dat ⟨⟨#[]⟩,0,⟨#[]⟩,0,0⟩));clear E1 E2 E3 hf y1 y2 hm1 hm2;by_cases hk:m.kind=1
  ·have E':=hide (show R= .nilIface by rw [za E,if_pos hk]);have t1:(m.kind==1)=true:=by simpa using hk
   clear E hk;go_wp2_with (at_lookup;refine MapN.look_ok _ rfl _ _ 78 rfl 9 47 MapN.law Tryz.underlying78 (MapN.za6 _) B N (MapN.mapOf C) rfl (za hM1) _ _ rfl hkey m (za ha2) true (za ha) ?_)
   go_ret
   exact ⟨by rw [za E'];rfl,b1.alloc b1.size _⟩
  ·have E':=hide (show R= .iface u3 x3 by rw [za E,if_neg hk]);have t1:(m.kind==1)=false:=by simpa using hk
   clear E hk;go_wp2_with (at_lookup;refine MapN.look_ok _ rfl _ _ 78 rfl 9 47 MapN.law Tryz.underlying78 (MapN.za6 _) B N (MapN.mapOf C) rfl (za hM1) _ _ rfl hkey m (za ha2) true (za ha) ?_)
   go_ret
   exact ⟨by rw [za E'];rfl,b1.alloc b1.size _⟩
end zc2
end
section
open Go.RowKit Go.Maps
namespace zk1
set_option linter.unusedSimpArgs false in
set_option maxRecDepth 100000 in
set_option maxHeartbeats 2000000 in
theorem ye8 (B N:Nat) (D:DataW Unit) (p:ByteArray) (m:Pl.Nd) (w:World) (hp:p.size≤1048576) (hown:w.ownsMap Tryz.prog 9 MapN.elem B N D) (h1:D.atKey (MapN.key p) (MapN.dat ⟨⟨#[]⟩,0,⟨#[]⟩,0,0⟩)=MapN.dat m) (t:Bool) (h2:Maps.has D (MapN.key p)=t):
  Calls Tryz.prog 191 #[.map (some B), .string p] w fun e w'=>e= .returned (.tuple #[m.val, .bool t])∧Below w.heap.size w w':=by
 have hkey:=MapN.zj3 (p:=p) (by unfold maxLen;omega);have HM:=hide (zc2.zd9 hown ((Below.refl _ _).alloc (Nat.le_refl _) (.cells #[.string ⟨#[]⟩, .int .i64 0, .string ⟨#[]⟩, .int .i64 0, .int .i64 0] 47)));have ha:=hide h1;have ha2:=hide h2;clear h1 h2 hown;obtain ⟨mp,mk,md,mt,mm⟩:=m;go_enter Tryz.func191,Tryz.ntmps191
 go_wp2_with (at_lookup;refine MapN.look_ok _ rfl _ _ 78 rfl 9 47 MapN.law Tryz.underlying78 (MapN.za6 _) B N D rfl (za HM) _ _ rfl hkey ⟨mp,mk,md,mt,mm⟩ (za ha) t (za ha2) ?_)
 refine bodyPost_ret (v:= .tuple #[.agg #[.string mp, .int .i64 mk, .string md, .int .i64 mt, .int .i64 mm], .bool t]) (by simp [results,Tryz.results191,go_sem]) rfl ⟨rfl,?_⟩
 repeat first |exact Below.refl _ _|refine Below.setCell ?_ (by simp) _|refine Below.alloc ?_ (by simp) _
end zk1
end
section
open Go.RowKit Go.Maps
namespace zk1
set_option linter.unusedSimpArgs false in
set_option maxRecDepth 100000 in
set_option maxHeartbeats 2000000 in
theorem up_any (s:Pl.Sg) (w:World) (hh:s.have'.length=4) (hm:0≤s.node.mark∧s.node.mark≤1000):
  Calls Tryz.prog 175 #[.agg s.cs.toArray] w fun e w'=>e= .returned (.agg (Pl.upS s).cs.toArray)∧Below w.heap.size w w':=by
 obtain ⟨told,⟨sp,sk,sd,st,sm⟩,hv⟩:=s
 obtain ⟨h0,h1,h2,h3,rfl⟩:∃h0 h1 h2 h3,hv=[h0,h1,h2,h3]:=by
  match hv,hh with
  | [a,b,c,d],_=>exact ⟨a,b,c,d,rfl⟩
 simp only at hm;have hw:IntKind.i64.wrap (sm - 1)=sm - 1:=by simp only [IntKind.wrap_i64];omega
 generalize hU:Pl.upS ⟨told,⟨sp,sk,sd,st,sm⟩,[h0,h1,h2,h3]⟩=U;simp only [Pl.upS] at hU;rw [show (Pl.Sg.cs ⟨told,⟨sp,sk,sd,st,sm⟩,[h0,h1,h2,h3]⟩).toArray=#[.bool told, .string sp, .int .i64 sk, .string sd, .int .i64 st, .int .i64 sm, .bool h0, .bool h1, .bool h2, .bool h3] from rfl];by_cases h5:sm - 1<0
 ·have hM:max (sm - 1) 0=0:=by omega
  rw [hM] at hU;by_cases hk:sk=0
  ·subst hk;rw [if_pos ⟨rfl,rfl⟩] at hU;have EU:=hide hU.symm;clear hU;go_enter Tryz.func175,Tryz.ntmps175
   go_wp2
   refine bodyPost_ret (v:= .agg #[.bool false, .string ⟨#[]⟩, .int .i64 0, .string ⟨#[]⟩, .int .i64 0, .int .i64 0, .bool false, .bool false, .bool false, .bool false]) (by simp [results,Tryz.results175,go_sem]) rfl ⟨by rw [za EU];rfl,?_⟩
   repeat first |exact Below.refl _ _|refine Below.setCell ?_ (by simp) _|refine Below.alloc ?_ (by simp) _
  ·have t1:(sk==0)=false:=by simpa using hk
   rw [if_neg (fun h=>hk h.1)] at hU;have EU:=hide hU.symm;clear hU;go_enter Tryz.func175,Tryz.ntmps175
   go_wp2
   refine bodyPost_ret (v:= .agg #[.bool told, .string sp, .int .i64 sk, .string sd, .int .i64 st, .int .i64 (0), .bool h0, .bool h1, .bool h2, .bool h3]) (by simp [results,Tryz.results175,go_sem]) rfl ⟨by rw [za EU];rfl,?_⟩
   repeat first |exact Below.refl _ _|refine Below.setCell ?_ (by simp) _|refine Below.alloc ?_ (by simp) _
 ·have hM:max (sm - 1) 0=sm - 1:=by omega
  rw [hM] at hU;by_cases hk:sk=0
  ·subst hk;by_cases h6:sm=1
   ·subst h6;rw [if_pos ⟨rfl,by omega⟩] at hU;have EU:=hide hU.symm;clear hU;go_enter Tryz.func175,Tryz.ntmps175
    go_wp2
    refine bodyPost_ret (v:= .agg #[.bool false, .string ⟨#[]⟩, .int .i64 0, .string ⟨#[]⟩, .int .i64 0, .int .i64 0, .bool false, .bool false, .bool false, .bool false]) (by simp [results,Tryz.results175,go_sem]) rfl ⟨by rw [za EU];rfl,?_⟩
    repeat first |exact Below.refl _ _|refine Below.setCell ?_ (by simp) _|refine Below.alloc ?_ (by simp) _
   ·have t2:(sm - 1==0)=false:=by simp;omega
    rw [if_neg (fun h=>by omega)] at hU;have EU:=hide hU.symm;clear hU;go_enter Tryz.func175,Tryz.ntmps175
    go_wp2
    refine bodyPost_ret (v:= .agg #[.bool told, .string sp, .int .i64 0, .string sd, .int .i64 st, .int .i64 (sm - 1), .bool h0, .bool h1, .bool h2, .bool h3]) (by simp [results,Tryz.results175,go_sem]) rfl ⟨by rw [za EU];rfl,?_⟩
    repeat first |exact Below.refl _ _|refine Below.setCell ?_ (by simp) _|refine Below.alloc ?_ (by simp) _
  ·have t1:(sk==0)=false:=by simpa using hk
   rw [if_neg (fun h=>hk h.1)] at hU;have EU:=hide hU.symm;clear hU;go_enter Tryz.func175,Tryz.ntmps175
   go_wp2
   refine bodyPost_ret (v:= .agg #[.bool told, .string sp, .int .i64 sk, .string sd, .int .i64 st, .int .i64 (sm - 1), .bool h0, .bool h1, .bool h2, .bool h3]) (by simp [results,Tryz.results175,go_sem]) rfl ⟨by rw [za EU];rfl,?_⟩
   repeat first |exact Below.refl _ _|refine Below.setCell ?_ (by simp) _|refine Below.alloc ?_ (by simp) _
end zk1
end
section
open Go.RowKit
namespace Pl
structure Tr where
 a:Option Addr
 cap:Nat
 L:List Nd
def Tr.val (t:Tr):Value:= .slice t.a t.L.length t.cap
end Pl
namespace Mem
def zx1 (w:World) (a:Option Addr) (Ts:List Pl.Tr):Prop:=
 ∀ (i:Nat) t,Ts[i]? =some t→(∃b o,a=some ⟨b,o,none⟩∧b<w.heap.size∧w.cell? ⟨b,o+i,none⟩=some t.val)∧za2 w t.a t.L
theorem zv6 {w w':World} {a:Option Addr} {Ts:List Pl.Tr} (h:zx1 w a Ts) (b:Below w.heap.size w w'):zx1 w' a Ts:=fun i t hi=>by
 obtain ⟨⟨g,o,h1,h2,h3⟩,h4⟩:=h i t hi;exact ⟨⟨g,o,h1,Nat.lt_of_lt_of_le h2 b.size,(b.cell (p:=⟨g,_,none⟩) h2).trans h3⟩,za0 h4 b⟩
end Mem
end
section
open Go.RowKit Go.Maps
namespace Pl
end Pl
namespace zh9
def layV (b:Nat):Value:= .iface 78 (.map (some b))
theorem zk9 {w w':World} {B n:Nat} {T:TypeId} {v:Value} {xs:List Value} (h:w.ownsRow B T 1 v n xs) (b:Below w.heap.size w w'):w'.ownsRow B T 1 v n xs:=by
 refine ⟨h.1,?_⟩
 rcases h.2 with h0|⟨g,cap,cur,hv,hb,hg,rest⟩
 ·exact .inl h0
 ·exact .inr ⟨g,cap,cur,hv,hb,(b.block g (Array.getElem?_eq_some_iff.1 hg).1).trans hg,rest⟩
structure Ov (w:World) (B:Nat) (v:Value) (Bs:List Nat) (Ls:List (List Pl.Nd)):Prop where
 row:w.ownsRow B 203 1 v Bs.length (Bs.map layV)
 len:Bs.length=Ls.length
 maps:∀ (j:Nat) b L,Bs[j]? =some b→Ls[j]? =some L→B≤b∧w.ownsMap Tryz.prog 9 MapN.elem b 40 (MapN.mapOf L)
theorem Ov.call {w w':World} {B:Nat} {v:Value} {Bs:List Nat} {Ls:List (List Pl.Nd)} (h:Ov w B v Bs Ls) (b:Below w.heap.size w w'):Ov w' B v Bs Ls:=
 ⟨zk9 h.row b,h.len,fun j c L h1 h2=>⟨(h.maps j c L h1 h2).1,zc2.zd9 (h.maps j c L h1 h2).2 b⟩⟩
theorem map_not {w:World} {B b n m:Nat} {T:TypeId} {v:Value} {xs:List Value} {D:DataW Unit} (h:w.ownsRow B T 1 v n xs) (hm:w.ownsMap Tryz.prog 9 MapN.elem b m D):some b≠v.ownBlock:=fun e=>by
 obtain ⟨es,clock,h1,_⟩:=hm
 rcases h.2 with ⟨rfl,_⟩|⟨g,cap,cur,rfl,_,hg,_⟩
 ·cases e
 ·cases e
  rw [hg] at h1;cases h1
theorem Ov.put {w w':World} {B b:Nat} {v v':Value} {Bs:List Nat} {Ls:List (List Pl.Nd)} {L:List Pl.Nd} (h:Ov w B v Bs Ls) (hm:w.ownsMap Tryz.prog 9 MapN.elem b 40 (MapN.mapOf L)) (hb:B≤b)
  (hr:w'.ownsRow B 203 1 v' (Bs.length+1) (Bs.map layV++[layV b])) (hg:w.grownBy w' v.ownBlock):Ov w' B v' (Bs++[b]) (Ls++[L]):=by
 refine ⟨by simpa using hr,by simp [h.len],fun j c M h1 h2=>?_⟩;by_cases e:j<Bs.length
 ·rw [List.getElem?_append_left e] at h1;rw [List.getElem?_append_left (by rw [←h.len];exact e)] at h2;obtain ⟨h3,h4⟩:=h.maps j c M h1 h2;exact ⟨h3,h4.kept hg (map_not h.row h4)⟩
 ·rw [List.getElem?_append_right (by omega)] at h1;rw [List.getElem?_append_right (by rw [←h.len];omega)] at h2
  have e0:j - Bs.length=0:=by
   have :=(List.getElem?_eq_some_iff.1 h1).1;simp at this;omega
  rw [e0] at h1;rw [←h.len,e0] at h2;simp at h1 h2
  subst h1 h2;exact ⟨hb,hm.kept hg (map_not h.row hm)⟩
theorem infoL:(Tryz.prog.info? 203).map (fun i=>(i.zero,i.size,i.bytes))=some (some .nilIface,1,16):=by kernel_rfl
end zh9
end
section
open Go.RowKit Go.Maps
namespace zk1
theorem zt6 {w:World} {B:Nat} {v:Value} {Bs:List Nat} {Ls:List (List Pl.Nd)} (h:zh9.Ov w B v Bs Ls):∃a cap,v= .slice a Ls.length cap:=by
 rw [←h.len]
 rcases h.row.2 with ⟨rfl,h0⟩|⟨g,cap,cur,rfl,_⟩
 ·exact ⟨none,0,by rw [h0]⟩
 ·exact ⟨_,_,rfl⟩
theorem ov_cell {w:World} {B cap n:Nat} {a:Option Addr} {Bs:List Nat} {Ls:List (List Pl.Nd)} (h:zh9.Ov w B (.slice a n cap) Bs Ls) {k b:Nat} (hk:Bs[k]? =some b):∃g,a=some ⟨g,0,none⟩∧w.cell? ⟨g,k,none⟩=some (.iface 78 (.map (some b))):=by
 have hlt:=(List.getElem?_eq_some_iff.1 hk).1
 rcases h.row.2 with ⟨hx,h0⟩|⟨g,cap',cur,hv,hb,hg,hc,hm,hsz,ht⟩
 ·omega
 ·injection hv with e1 e2 e3
  refine ⟨g,e1,?_⟩;rw [cell_of_row w g k cur _ (0,0) hg,←Array.getElem?_toList,←List.getElem?_take_of_lt (show k<Bs.length*1 by omega),ht,List.getElem?_map,hk];rfl
theorem tree_all {L:List Pl.Nd} (h:Pl.za5 L=true):∀n∈L,Pl.za7 n=true:=by
 simp only [Pl.za5,Bool.and_eq_true,decide_eq_true_eq] at h;exact Pl.zt L _ _ h.2
structure At (w wr:World) (a0 a1 a2 a3:Bool) (ns:List (Option Pl.Nd)) (k:Nat) (s:Pl.Sg):Prop where
 bel:Below w.heap.size w wr
 box:Mem.Blk wr w.heap.size #[.bool a0, .bool a1, .bool a2, .bool a3] 230
 res:Mem.Blk wr (w.heap.size+1) Pl.Sg.zero.cs.toArray 232
 seen:Mem.Blk wr (w.heap.size+1+1) s.cs.toArray 232
 len:s.have'.length=4
 mark:0≤s.node.mark∧s.node.mark≤8
 go:Pl.goD k s (ns.drop k)=Pl.goD 0 Pl.Sg.zero ns
structure EndAt (w wr:World) (s:Pl.Sg):Prop where
 bel:Below w.heap.size w wr
 res:Mem.Blk wr (w.heap.size+1) Pl.Sg.zero.cs.toArray 232
 seen:Mem.Blk wr (w.heap.size+1+1) s.cs.toArray 232
 mark:0≤s.node.mark∧s.node.mark≤8
theorem At.call {w wr wr':World} {a0 a1 a2 a3:Bool} {ns:List (Option Pl.Nd)} {k:Nat} {s:Pl.Sg} (h:At w wr a0 a1 a2 a3 ns k s) (b:Below wr.heap.size wr wr'):At w wr' a0 a1 a2 a3 ns k s:=
 ⟨h.bel.trans (b.mono h.bel.size),h.box.call b,h.res.call b,h.seen.call b,h.len,h.mark,h.go⟩
set_option linter.unusedSimpArgs false in
set_option maxRecDepth 100000 in
set_option maxHeartbeats 4000000 in
theorem dec_any (q:Addr) (p:ByteArray) (a0 a1 a2 a3:Bool) (B:Nat) (v:Value) (Bs:List Nat) (Ls:List (List Pl.Nd)) (w:World) (hq:w.cell? q=some v) (hql:q.block<w.heap.size) (hov:zh9.Ov w B v Bs Ls) (h4:Ls.length≤4) (htr:∀L∈Ls,Pl.za5 L=true) (hp:p.size≤1048576):
  Calls Tryz.prog 173 #[.string p, .agg #[.bool a0, .bool a1, .bool a2, .bool a3], .pointer (some q)] w fun e w'=>e= .returned (.agg (Pl.decS (Pl.nsOf [a0,a1,a2,a3] Ls p)).cs.toArray)∧Below w.heap.size w w':=by
 obtain ⟨a,cap,rfl⟩:=zt6 hov;have HLE:=hide hov.len;have HOV:=hide hov;have HTR:=hide htr;have HQ:Hid (∀wr,Below w.heap.size w wr→wr.cell? q=some (.slice a Ls.length cap)):=fun wr b=>(b.cell hql).trans hq;have HNG:=hide (fun k a L=>Pl.ns_get p [a0,a1,a2,a3] Ls k a L);have HNL:=hide (Pl.ns_len p [a0,a1,a2,a3] Ls (by simpa using h4));have ED:Hid (Pl.decS (Pl.nsOf [a0,a1,a2,a3] Ls p)=Pl.upS (Pl.goD 0 Pl.Sg.zero (Pl.nsOf [a0,a1,a2,a3] Ls p))):=rfl;generalize Pl.nsOf [a0,a1,a2,a3] Ls p=ns at HNG HNL ED ⊢;generalize Pl.decS ns=R at ED ⊢;have hm:∀ (b:Nat) (w:World),(method 203 78 (.map (some b)) "loop.example/g00449/impl.at").run Tryz.prog w= .ok (191, .map (some b)) w:=fun _ _=>by kernel_rfl
 clear hov htr hq;have b0:Below w.heap.size w (((w.alloc (.cells #[.bool a0, .bool a1, .bool a2, .bool a3] 230)).alloc (.cells Pl.Sg.zero.cs.toArray 232)).alloc (.cells Pl.Sg.zero.cs.toArray 232)):=(((Below.refl _ _).alloc (Nat.le_refl _) _).alloc (by simp) _).alloc (by simp;omega) _
 have A0:Hid (At w (((w.alloc (.cells #[.bool a0, .bool a1, .bool a2, .bool a3] 230)).alloc (.cells Pl.Sg.zero.cs.toArray 232)).alloc (.cells Pl.Sg.zero.cs.toArray 232)) a0 a1 a2 a3 ns 0 Pl.Sg.zero):=by
  refine ⟨b0,((Mem.Blk.new _ _ _).alloc _).alloc _,Mem.Blk.alloc (Mem.zg4 _ _ _) _,?_,rfl,by decide,rfl⟩;have h:=Mem.zg4 (w.alloc (.cells #[.bool a0, .bool a1, .bool a2, .bool a3] 230)) (.cells Pl.Sg.zero.cs.toArray 232) (.cells Pl.Sg.zero.cs.toArray 232);rw [show (w.alloc (.cells #[.bool a0, .bool a1, .bool a2, .bool a3] 230)).heap.size=w.heap.size+1 by simp] at h;exact h
 have q0:=za HQ _ b0;have hR:w.heap.size≤w.heap.size+1:=by omega
 simp only [Pl.Sg.zero,Pl.za6,Pl.Sg.cs,List.map_cons,List.map_nil,List.cons_append,List.nil_append] at A0 q0;go_enter Tryz.func173,Tryz.ntmps173
 go_wp2
 go_loopw [12] (fun i wr=>∃k:Nat,k≤Ls.length∧i= .int .i64 (k:Int)∧Hid (∃s,At w wr a0 a1 a2 a3 ns k s)) (fun i _=>Ls.length - (intOf i).toNat)
 case atStart=>exact ⟨0,Nat.zero_le _,rfl,⟨_,za A0⟩⟩
 case round=>
  obtain ⟨k,hk,rfl,HA⟩:=hrel;obtain ⟨s,A⟩:=za HA;clear HA A0;obtain ⟨tt,⟨sp,sk,sd,st,sm⟩,sh⟩:=s
  obtain ⟨e0,e1,e2,e3,rfl⟩:∃h0 h1 h2 h3,sh=[h0,h1,h2,h3]:=by
   match sh,A.len with
   | [a,b,c,d],_=>exact ⟨a,b,c,d,rfl⟩
  by_cases hlt:k<Ls.length
  ·obtain ⟨L,hL⟩:∃L,Ls[k]? =some L:=⟨_,List.getElem?_eq_getElem hlt⟩;obtain ⟨b,hb⟩:∃b,Bs[k]? =some b:=⟨_,List.getElem?_eq_getElem (by rw [za HLE];exact hlt)⟩;obtain ⟨x,hx⟩:∃x,[a0,a1,a2,a3][k]? =some x:=⟨_,List.getElem?_eq_getElem (by simp;omega)⟩;have hnk:=za HNG k x L hx hL;have y1:(k:Int)<(Ls.length:Int):=by omega
   have hix:0≤(k:Int)∧(k:Int)<4:=by omega
   have hix2:0≤(k:Int)∧(k:Int)<(Ls.length:Int):=by omega
   have x0:wr.cell? ⟨w.heap.size,k,none⟩=some (.bool x):=by
    rw [A.box.cell k,List.getElem?_toArray];obtain rfl |rfl |rfl |rfl:k=0∨k=1∨k=2∨k=3:=by omega
    all_goals (simp at hx;subst hx;rfl)
   cases x
   ·have hgs:Pl.goD k ⟨tt,⟨sp,sk,sd,st,sm⟩,[e0,e1,e2,e3]⟩ (ns.drop k)=Pl.goD (k+1) ⟨tt,⟨sp,sk,sd,st,sm⟩,[e0,e1,e2,e3]⟩ (ns.drop (k+1)):=Pl.go_step (x:=none) hnk k _;have A2:Hid (∃s,At w wr a0 a1 a2 a3 ns (k+1) s):=⟨_,A.bel,A.box,A.res,A.seen,A.len,A.mark,by rw [←A.go,hgs]⟩;clear hnk hgs A hL hb hx;go_wp2
    go_roundw
    case rel=>exact ⟨k+1,by omega,by go_num,A2⟩
    case measure=>simp [intOf];omega
   ·have q1:=za HQ wr A.bel;have OV:=(za HOV).call A.bel;obtain ⟨g,rfl,o0⟩:=ov_cell OV hb;obtain ⟨-,om⟩:=OV.maps k b L hb hL;have hapL:=Pl.zl1 (za HTR L (List.mem_of_getElem? hL));have hnodeL:=za HTR L (List.mem_of_getElem? hL);simp only [if_true] at hnk;cases hf:Pl.lk L p with
    |none=>
     have hmiss:∀n∈L,n.path≠p:=fun n hn=>by simpa using List.find?_eq_none.1 hf n hn
     have hat:=hide (fun W (bb:Below wr.heap.size wr W)=>ye8 b 40 (MapN.mapOf L) p ⟨⟨#[]⟩,0,⟨#[]⟩,0,0⟩ W hp (zc2.zd9 om bb) (Maps.atKey_of_not_has (MapN.zr9 hmiss) _) false (MapN.zr9 hmiss));rw [hf] at hnk;have hgs:Pl.goD k ⟨tt,⟨sp,sk,sd,st,sm⟩,[e0,e1,e2,e3]⟩ (ns.drop k)=Pl.goD (k+1) ⟨tt,⟨sp,sk,sd,st,sm⟩,[e0,e1,e2,e3]⟩ (ns.drop (k+1)):=Pl.go_step hnk k _;simp only [Pl.Nd.val] at hat;have KA:=hide A;have EG:=hide hgs;clear hnk hgs A hL hb hx OV om hapL hnodeL hmiss;go_wp2_with fail
     refine (za hat _ (Below.refl _ _)).mono ?_;rintro e w1 ⟨rfl,b2⟩
     have A2:Hid (∃s,At w (w1.alloc (.cells #[.string ⟨#[]⟩, .int .i64 0, .string ⟨#[]⟩, .int .i64 0, .int .i64 0] 47)) a0 a1 a2 a3 ns (k+1) s):=by
      have A3:=((za KA).call b2).call ((Below.refl _ _).alloc (Nat.le_refl _) (.cells #[.string ⟨#[]⟩, .int .i64 0, .string ⟨#[]⟩, .int .i64 0, .int .i64 0] 47));exact ⟨_,A3.bel,A3.box,A3.res,A3.seen,A3.len,A3.mark,by rw [←A3.go,za EG]⟩
     clear KA EG b2 hat;go_wp2
     go_roundw
     case rel=>exact ⟨k+1,by omega,by go_num,A2⟩
     case measure=>simp [intOf];omega
    |some m=>
     have hm1:=List.mem_of_find?_eq_some hf;have hm2:m.path=p:=by simpa using List.find?_some hf
     obtain ⟨y2,y3⟩:=MapN.zp0 hapL hm1;rw [hm2] at y2 y3;have hmb:=(Pl.zd8 (tree_all hnodeL m hm1)).2.2.1;have hat:=hide (fun W (bb:Below wr.heap.size wr W)=>ye8 b 40 (MapN.mapOf L) p m W hp (zc2.zd9 om bb) (y3 _) true y2);rw [hf] at hnk;have hgs:Pl.goD k ⟨tt,⟨sp,sk,sd,st,sm⟩,[e0,e1,e2,e3]⟩ (ns.drop k)=if Pl.zj5 m then Pl.zh1 ⟨tt,⟨sp,sk,sd,st,sm⟩,[e0,e1,e2,e3]⟩ k m else Pl.goD (k+1) (Pl.zh1 ⟨tt,⟨sp,sk,sd,st,sm⟩,[e0,e1,e2,e3]⟩ k m) (ns.drop (k+1)):=Pl.go_step hnk k _;have htk:=hide (fun W (hbk:Mem.Blk W (w.heap.size+1+1) (Pl.Sg.cs ⟨tt,⟨sp,sk,sd,st,sm⟩,[e0,e1,e2,e3]⟩).toArray 232)=>take_any (w.heap.size+1+1) k ⟨tt,⟨sp,sk,sd,st,sm⟩,[e0,e1,e2,e3]⟩ m W (by omega) rfl hbk);have TL:=hide (Pl.take_len ⟨tt,⟨sp,sk,sd,st,sm⟩,[e0,e1,e2,e3]⟩ k m);have TM:=hide (Pl.take_mark (k:=k) A.mark hmb);have KA:=hide A;have EG:=hide hgs;clear hnk hgs A hL hb hx OV om hapL hnodeL hf hm1 hm2 y2 y3 hmb
     generalize Pl.zh1 ⟨tt,⟨sp,sk,sd,st,sm⟩,[e0,e1,e2,e3]⟩ k m=s2 at htk TL TM EG;cases hsb:Pl.zj5 m
     ·rw [hsb] at htk EG;obtain ⟨mp,mk,md,mt,mm⟩:=m;simp only [Pl.Nd.val] at hat htk;go_wp2_with fail
      refine (za hat _ (Below.refl _ _)).mono ?_;rintro e w1 ⟨rfl,b2⟩;have A3:=hide (((za KA).call b2).call ((Below.refl _ _).alloc (Nat.le_refl _) (.cells #[.string mp, .int .i64 mk, .string md, .int .i64 mt, .int .i64 mm] 47)));clear KA b2 hat;go_wp2_with fail
      refine (za htk _ (za A3).seen).mono ?_;rintro e w2 ⟨rfl,hs2,g2⟩;have A4:Hid (∃s,At w w2 a0 a1 a2 a3 ns (k+1) s):=⟨s2,(za A3).bel.grown g2 (za A3).bel.size (fun q hq=>by cases hq;omega),(za A3).box.grown g2 (fun e=>by have :=Option.some.inj e;omega),(za A3).res.grown g2 (fun e=>by have :=Option.some.inj e;omega),hs2,za TL,za TM,by rw [←(za A3).go,za EG];rfl⟩;clear A3 hs2 g2 htk EG TL TM;go_wp2
      go_roundw
      case rel=>exact ⟨k+1,by omega,by go_num,A4⟩
      case measure=>simp [intOf];omega
     ·rw [hsb] at htk EG;obtain ⟨mp,mk,md,mt,mm⟩:=m;simp only [Pl.Nd.val] at hat htk;go_wp2_with fail
      refine (za hat _ (Below.refl _ _)).mono ?_;rintro e w1 ⟨rfl,b2⟩;have A3:=hide (((za KA).call b2).call ((Below.refl _ _).alloc (Nat.le_refl _) (.cells #[.string mp, .int .i64 mk, .string md, .int .i64 mt, .int .i64 mm] 47)));clear KA b2 hat;go_wp2_with fail
      refine (za htk _ (za A3).seen).mono ?_;rintro e w2 ⟨rfl,hs2,g2⟩;have GO:=hide ((za A3).go);have A4:Hid (Mem.Blk w2 (w.heap.size+1) Pl.Sg.zero.cs.toArray 232∧Below w.heap.size w w2):=⟨(za A3).res.grown g2 (fun e=>by have :=Option.some.inj e;omega),(za A3).bel.grown g2 (za A3).bel.size (fun q hq=>by cases hq;omega)⟩;clear A3 g2 htk q1 o0 x0;obtain ⟨tt2,⟨sp2,sk2,sd2,st2,sm2⟩,sh2⟩:=s2
      obtain ⟨e4,e5,e6,e7,rfl⟩:∃h0 h1 h2 h3,sh2=[h0,h1,h2,h3]:=by
       match sh2,za TL with
       | [a,b,c,d],_=>exact ⟨a,b,c,d,rfl⟩
      have KA:Hid (EndAt w w2 ⟨tt2,⟨sp2,sk2,sd2,st2,sm2⟩,[e4,e5,e6,e7]⟩):=⟨(za A4).2,(za A4).1,hs2,za TM⟩;have EQ:Hid (R=Pl.upS ⟨tt2,⟨sp2,sk2,sd2,st2,sm2⟩,[e4,e5,e6,e7]⟩):=by rw [za ED,←za GO,za EG];exact rfl
      clear hs2 A4 TL TM EG GO;have c0:=(za KA).seen.cell 0;have c1:=(za KA).seen.cell 1;have c2:=(za KA).seen.cell 2;have c3:=(za KA).seen.cell 3;have c4:=(za KA).seen.cell 4;have c5:=(za KA).seen.cell 5;have c6:=(za KA).seen.cell 6;have c7:=(za KA).seen.cell 7;have c8:=(za KA).seen.cell 8;have c9:=(za KA).seen.cell 9;simp only [Pl.Sg.cs,List.map_cons,List.map_nil,List.cons_append,List.nil_append,kGs] at c0 c1 c2 c3 c4 c5 c6 c7 c8 c9;have hup:=hide (fun W=>up_any ⟨tt2,⟨sp2,sk2,sd2,st2,sm2⟩,[e4,e5,e6,e7]⟩ W rfl (by have :=(za KA).mark;omega));have HU4:=hide (Pl.up_len (s:=⟨tt2,⟨sp2,sk2,sd2,st2,sm2⟩,[e4,e5,e6,e7]⟩) rfl);have ER:Hid (R=Pl.upS ⟨tt2,⟨sp2,sk2,sd2,st2,sm2⟩,[e4,e5,e6,e7]⟩):=za EQ;generalize Pl.upS ⟨tt2,⟨sp2,sk2,sd2,st2,sm2⟩,[e4,e5,e6,e7]⟩=U at hup HU4 ER;obtain ⟨ut,⟨up,uk,ud,un,um⟩,uh⟩:=U
      obtain ⟨g0,g1,g2,g3,rfl⟩:∃h0 h1 h2 h3,uh=[h0,h1,h2,h3]:=by
       match uh,za HU4 with
       | [a,b,c,d],_=>exact ⟨a,b,c,d,rfl⟩
      rw [show (Pl.Sg.cs ⟨tt2,⟨sp2,sk2,sd2,st2,sm2⟩,[e4,e5,e6,e7]⟩).toArray=#[.bool tt2, .string sp2, .int .i64 sk2, .string sd2, .int .i64 st2, .int .i64 sm2, .bool e4, .bool e5, .bool e6, .bool e7] from rfl,show (Pl.Sg.cs ⟨ut,⟨up,uk,ud,un,um⟩,[g0,g1,g2,g3]⟩).toArray=#[.bool ut, .string up, .int .i64 uk, .string ud, .int .i64 un, .int .i64 um, .bool g0, .bool g1, .bool g2, .bool g3] from rfl] at hup;go_wp2_with fail
      refine (za hup _).mono ?_;rintro e wU ⟨rfl,bU⟩;have RU:=(za KA).res.call bU;have BU:=(za KA).bel.trans (bU.mono (za KA).bel.size);clear c0 c1 c2 c3 c4 c5 c6 c7 c8 c9 hup bU;have c0:=RU.cell 0;have c1:=RU.cell 1;have c2:=RU.cell 2;have c3:=RU.cell 3;have c4:=RU.cell 4;have c5:=RU.cell 5;have c6:=RU.cell 6;have c7:=RU.cell 7;have c8:=RU.cell 8;have c9:=RU.cell 9;have f0:=RU.fr 0;have f1:=RU.fr 1;have f2:=RU.fr 2;have f3:=RU.fr 3;have f4:=RU.fr 4;have f5:=RU.fr 5;have f6:=RU.fr 6;have f7:=RU.fr 7;have f8:=RU.fr 8;have f9:=RU.fr 9;simp only [Pl.Sg.zero,Pl.za6,Pl.Sg.cs,List.map_cons,List.map_nil,List.cons_append,List.nil_append,kGs] at c0 c1 c2 c3 c4 c5 c6 c7 c8 c9;clear RU KA;go_wp2
      refine bodyPost_ret (v:= .agg #[.bool ut, .string up, .int .i64 uk, .string ud, .int .i64 un, .int .i64 um, .bool g0, .bool g1, .bool g2, .bool g3]) (by simp [results,Tryz.results173,go_sem,c0,c1,c2,c3,c4,c5,c6,c7,c8,c9]) rfl ⟨by rw [za ER];rfl,?_⟩;exact ((((((((((BU.setCell (p:=⟨w.heap.size+1,0,none⟩) hR _).setCell (p:=⟨w.heap.size+1,1,none⟩) hR _).setCell (p:=⟨w.heap.size+1,2,none⟩) hR _).setCell (p:=⟨w.heap.size+1,3,none⟩) hR _).setCell (p:=⟨w.heap.size+1,4,none⟩) hR _).setCell (p:=⟨w.heap.size+1,5,none⟩) hR _).setCell (p:=⟨w.heap.size+1,6,none⟩) hR _).setCell (p:=⟨w.heap.size+1,7,none⟩) hR _).setCell (p:=⟨w.heap.size+1,8,none⟩) hR _).setCell (p:=⟨w.heap.size+1,9,none⟩) hR _)
  ·obtain rfl:k=Ls.length:=by omega
   have y1:¬ ((Ls.length:Int)<(Ls.length:Int)):=by omega
   have KA:=hide A;clear A;have c0:=(za KA).seen.cell 0;have c1:=(za KA).seen.cell 1;have c2:=(za KA).seen.cell 2;have c3:=(za KA).seen.cell 3;have c4:=(za KA).seen.cell 4;have c5:=(za KA).seen.cell 5;have c6:=(za KA).seen.cell 6;have c7:=(za KA).seen.cell 7;have c8:=(za KA).seen.cell 8;have c9:=(za KA).seen.cell 9;simp only [Pl.Sg.cs,List.map_cons,List.map_nil,List.cons_append,List.nil_append,kGs] at c0 c1 c2 c3 c4 c5 c6 c7 c8 c9;have hup:=hide (fun W=>up_any ⟨tt,⟨sp,sk,sd,st,sm⟩,[e0,e1,e2,e3]⟩ W rfl (by have :=(za KA).mark;omega));have HU4:=hide (Pl.up_len (s:=⟨tt,⟨sp,sk,sd,st,sm⟩,[e0,e1,e2,e3]⟩) rfl);have ER:Hid (R=Pl.upS ⟨tt,⟨sp,sk,sd,st,sm⟩,[e0,e1,e2,e3]⟩):=by rw [za ED,←(za KA).go,Pl.go_end (by rw [za HNL];exact Nat.le_refl _)];exact rfl
   generalize Pl.upS ⟨tt,⟨sp,sk,sd,st,sm⟩,[e0,e1,e2,e3]⟩=U at hup HU4 ER;obtain ⟨ut,⟨up,uk,ud,un,um⟩,uh⟩:=U
   obtain ⟨g0,g1,g2,g3,rfl⟩:∃h0 h1 h2 h3,uh=[h0,h1,h2,h3]:=by
    match uh,za HU4 with
    | [a,b,c,d],_=>exact ⟨a,b,c,d,rfl⟩
   rw [show (Pl.Sg.cs ⟨tt,⟨sp,sk,sd,st,sm⟩,[e0,e1,e2,e3]⟩).toArray=#[.bool tt, .string sp, .int .i64 sk, .string sd, .int .i64 st, .int .i64 sm, .bool e0, .bool e1, .bool e2, .bool e3] from rfl,show (Pl.Sg.cs ⟨ut,⟨up,uk,ud,un,um⟩,[g0,g1,g2,g3]⟩).toArray=#[.bool ut, .string up, .int .i64 uk, .string ud, .int .i64 un, .int .i64 um, .bool g0, .bool g1, .bool g2, .bool g3] from rfl] at hup;go_wp2_with fail
   refine (za hup _).mono ?_;rintro e wU ⟨rfl,bU⟩;have RU:=(za KA).res.call bU;have BU:=(za KA).bel.trans (bU.mono (za KA).bel.size);clear c0 c1 c2 c3 c4 c5 c6 c7 c8 c9 hup bU;have c0:=RU.cell 0;have c1:=RU.cell 1;have c2:=RU.cell 2;have c3:=RU.cell 3;have c4:=RU.cell 4;have c5:=RU.cell 5;have c6:=RU.cell 6;have c7:=RU.cell 7;have c8:=RU.cell 8;have c9:=RU.cell 9;have f0:=RU.fr 0;have f1:=RU.fr 1;have f2:=RU.fr 2;have f3:=RU.fr 3;have f4:=RU.fr 4;have f5:=RU.fr 5;have f6:=RU.fr 6;have f7:=RU.fr 7;have f8:=RU.fr 8;have f9:=RU.fr 9;simp only [Pl.Sg.zero,Pl.za6,Pl.Sg.cs,List.map_cons,List.map_nil,List.cons_append,List.nil_append,kGs] at c0 c1 c2 c3 c4 c5 c6 c7 c8 c9;clear RU KA;go_wp2
   refine bodyPost_ret (v:= .agg #[.bool ut, .string up, .int .i64 uk, .string ud, .int .i64 un, .int .i64 um, .bool g0, .bool g1, .bool g2, .bool g3]) (by simp [results,Tryz.results173,go_sem,c0,c1,c2,c3,c4,c5,c6,c7,c8,c9]) rfl ⟨by rw [za ER];rfl,?_⟩;exact ((((((((((BU.setCell (p:=⟨w.heap.size+1,0,none⟩) hR _).setCell (p:=⟨w.heap.size+1,1,none⟩) hR _).setCell (p:=⟨w.heap.size+1,2,none⟩) hR _).setCell (p:=⟨w.heap.size+1,3,none⟩) hR _).setCell (p:=⟨w.heap.size+1,4,none⟩) hR _).setCell (p:=⟨w.heap.size+1,5,none⟩) hR _).setCell (p:=⟨w.heap.size+1,6,none⟩) hR _).setCell (p:=⟨w.heap.size+1,7,none⟩) hR _).setCell (p:=⟨w.heap.size+1,8,none⟩) hR _).setCell (p:=⟨w.heap.size+1,9,none⟩) hR _)
end zk1
end
end Go.Proofs.YthdhhcgopfgcbaaGreatDoor
