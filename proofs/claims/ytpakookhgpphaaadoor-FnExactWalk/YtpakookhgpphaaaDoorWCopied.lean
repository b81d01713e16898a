import Derived.Test.YtpakookhgpphaaaDoorG06
import Derived.Test.YtpakookhgpphaaaDoorG00
import Derived.Test.YtpakookhgpphaaaDoorG25
namespace Go.Proofs.YtpakookhgpphaaaDoor
open Go.RowKit
namespace WCopied
theorem join1 (t:ByteArray) (b:Nat) (w:World) (ht:t.size≤1048576) (hv:Mem.Var w b [.string t]):
  Calls Tryd.prog 34 #[.slice (some ⟨b,0,none⟩) 1 1] w fun e w'=>e= .returned (.string t)∧Below w.heap.size w w':=by
 have h:=WJoin.any b 0 1 [t] w (by simp) (by rw [Pl.tot_one];omega) (fun j u hj=>by
  match j,hj with
  |0,hj=>simp at hj;subst hj;exact hv.2 0 _ rfl
  |j+1,hj=>simp at hj) hv.1
 rw [Pl.cat_one,show (⟨t.data.toList.toArray⟩:ByteArray)=t by simp] at h;exact h
def Held (w:World) (n:Pl.Nd) (W:World):Prop:=
 Below w.heap.size w W∧W.heap[w.heap.size]? =some (.cells #[.string n.path, .int .i64 n.kind, .string n.data, .int .i64 n.time, .int .i64 n.mark] 25 (0,0))∧W.heap[w.heap.size+1]? =some (.cells #[.string ⟨#[]⟩, .int .i64 0, .string ⟨#[]⟩, .int .i64 0, .int .i64 0] 25 (0,0))
theorem Held.keep {w W W':World} {n:Pl.Nd} (h:Held w n W) (b:Below W.heap.size W W'):Held w n W':=
 ⟨h.1.trans (b.mono h.1.size),(b.block _ (Array.getElem?_eq_some_iff.1 h.2.1).1).trans h.2.1,(b.block _ (Array.getElem?_eq_some_iff.1 h.2.2).1).trans h.2.2⟩
theorem Held.at {w W:World} {n:Pl.Nd} (h:Held w n W) (k:Nat):W.cell? ⟨w.heap.size,k,none⟩=(#[.string n.path, .int .i64 n.kind, .string n.data, .int .i64 n.time, .int .i64 n.mark]:Array Value)[k]?:=cell_of_row W _ k _ _ (0,0) h.2.1
theorem Held.fr {w W:World} {n:Pl.Nd} (h:Held w n W) (k:Nat):W.frozen? ⟨w.heap.size,k,none⟩=false:=Mem.zb1 h.2.1
theorem Held.zat {w W:World} {n:Pl.Nd} (h:Held w n W) (k:Nat):W.cell? ⟨w.heap.size+1,k,none⟩=(#[.string ⟨#[]⟩, .int .i64 0, .string ⟨#[]⟩, .int .i64 0, .int .i64 0]:Array Value)[k]?:=cell_of_row W _ k _ _ (0,0) h.2.2
theorem Held.zfr {w W:World} {n:Pl.Nd} (h:Held w n W) (k:Nat):W.frozen? ⟨w.heap.size+1,k,none⟩=false:=Mem.zb1 h.2.2
theorem Held.put0 {w W:World} {n:Pl.Nd} (h:Held w n W):Held w n (W.setCell ⟨w.heap.size,0,none⟩ (.string n.path)):=
 ⟨h.1.setCell (Nat.le_refl _) _,heap_setCell_same _ _ 0 _ _ _ h.2.1,(Below.heap_setCell _ _ _ _ (by show w.heap.size+1≠w.heap.size;omega)).trans h.2.2⟩
theorem Held.put2 {w W:World} {n:Pl.Nd} (h:Held w n W):Held w n (W.setCell ⟨w.heap.size,2,none⟩ (.string n.data)):=
 ⟨h.1.setCell (Nat.le_refl _) _,heap_setCell_same _ _ 2 _ _ _ h.2.1,(Below.heap_setCell _ _ _ _ (by show w.heap.size+1≠w.heap.size;omega)).trans h.2.2⟩
theorem Held.res {w WZ:World} {n:Pl.Nd} (HF:Held w n WZ):(((((WZ.setCell ⟨w.heap.size+1,0,none⟩ (.string n.path)).setCell ⟨w.heap.size+1,1,none⟩ (.int .i64 n.kind)).setCell ⟨w.heap.size+1,2,none⟩ (.string n.data)).setCell ⟨w.heap.size+1,3,none⟩ (.int .i64 n.time)).setCell ⟨w.heap.size+1,4,none⟩ (.int .i64 n.mark)).heap[w.heap.size+1]? =some (.cells #[.string n.path, .int .i64 n.kind, .string n.data, .int .i64 n.time, .int .i64 n.mark] 25 (0,0)):=(heap_setCell_same _ _ 4 _ _ _ (heap_setCell_same _ _ 3 _ _ _ (heap_setCell_same _ _ 2 _ _ _ (heap_setCell_same _ _ 1 _ _ _ (heap_setCell_same _ _ 0 _ _ _ HF.2.2)))))
set_option linter.unusedSimpArgs false in
set_option maxRecDepth 100000 in
set_option maxHeartbeats 1000000 in
theorem any (n:Pl.Nd) (w:World) (h1:n.path.size≤1048576) (h2:n.data.size≤1048576):
  Calls Tryd.prog 19 #[n.val] w fun e w'=>e= .returned n.val∧Below w.heap.size w w':=by
 have H0:Held w n ((w.alloc (.cells #[.string n.path, .int .i64 n.kind, .string n.data, .int .i64 n.time, .int .i64 n.mark] 25)).alloc (.cells #[.string ⟨#[]⟩, .int .i64 0, .string ⟨#[]⟩, .int .i64 0, .int .i64 0] 25)):=⟨((Below.refl _ _).alloc (Nat.le_refl _) _).alloc (by simp) _,(Below.heap_alloc _ _ _ (by simp)).trans (heap_alloc_new _ _),Mem.zl8 _ _ _⟩;simp only [Pl.Nd.val];go_enter Tryd.func19,Tryd.ntmps19
 go_wp2_with fail
 generalize ((w.alloc (.cells #[.string n.path, .int .i64 n.kind, .string n.data, .int .i64 n.time, .int .i64 n.mark] 25)).alloc (.cells #[.string ⟨#[]⟩, .int .i64 0, .string ⟨#[]⟩, .int .i64 0, .int .i64 0] 25))=W0 at H0 ⊢;have MK:Hid (∀W',Held w n W'→(Held w n W'∧W'.cell? ⟨w.heap.size,0,none⟩=some (.string n.path)∧W'.cell? ⟨w.heap.size,2,none⟩=some (.string n.data)∧W'.frozen? ⟨w.heap.size,0,none⟩=false∧W'.frozen? ⟨w.heap.size,2,none⟩=false)):=fun W' h=>⟨h,h.at 0,h.at 2,h.fr 0,h.fr 2⟩;refine wp_region_held_drew (S:=fun W'=>Held w n W'∧W'.cell? ⟨w.heap.size,0,none⟩=some (.string n.path)∧W'.cell? ⟨w.heap.size,2,none⟩=some (.string n.data)∧W'.frozen? ⟨w.heap.size,0,none⟩=false∧W'.frozen? ⟨w.heap.size,2,none⟩=false) (by kernel_rfl) ?_ (fun hHeld=>?_)
 ·exact za MK _ (H0.keep ⟨rfl,rfl,rfl,Nat.le_refl _,fun _ _=>rfl⟩)
 generalize W0.drew=W1 at hHeld ⊢;clear H0;refine TB 0 ?_;refine TB 1 ?_;refine TB 4 ?_;refine TB 5 ?_;refine wpAnyH_ready (rs:=[2,6]) (by kernel_rfl) (by simp) ?_;refine AllReadyH.cons rfl (fun K hK=>?_) (AllReadyH.cons rfl (fun K hK=>?_) AllReadyH.nil)
 ·go_simp
  refine hK.out _ _ ?_ (fun hHeld=>?_)
  ·exact za MK _ (hHeld.1.keep ((Below.refl _ _).alloc (Nat.le_refl _) _))
  clear hK K
  try simp only [Act.put,kBs]
  have vP:=Mem.ze5 (W1) [.string n.path] 9;refine wpAnyH_ready (rs:=[3,6]) (by kernel_rfl) (by simp) ?_;refine AllReadyH.cons rfl (fun K hK=>?_) (AllReadyH.cons rfl (fun K hK=>?_) AllReadyH.nil)
  ·go_simp
   refine (join1 n.path _ _ h1 vP).mono ?_;rintro e wX ⟨rfl,bX⟩;refine hK.out _ _ ?_ (fun hHeld=>?_)
   ·exact za MK _ (hHeld.1.keep bX)
   clear hK K
   try simp only [Act.put,kBs]
   refine TB 8 ?_;refine RN 6 fun K hK=>?_;go_simp
   refine hK.out _ _ ?_ (fun hHeld=>?_)
   ·exact za MK _ (hHeld.1.keep ((Below.refl _ _).alloc (Nat.le_refl _) _))
   clear hK K
   try simp only [Act.put,kBs]
   have vD:=Mem.ze5 (wX) [.string n.data] 9;refine RN 7 fun K hK=>?_;go_simp
   refine (join1 n.data _ _ h2 vD).mono ?_;rintro e wY ⟨rfl,bY⟩;refine hK.out _ _ ?_ (fun hHeld=>?_)
   ·exact za MK _ (hHeld.1.keep bY)
   clear hK K
   try simp only [Act.put,kBs]
   refine RN 9 fun K hK=>?_;go_simp
   refine hK.out _ _ ?_ (fun hHeld=>?_)
   ·exact za MK _ (hHeld.1.put0)
   clear hK K
   try simp only [Act.put,kBs]
   refine TB 10 ?_;refine RN 11 fun K hK=>?_;go_simp
   refine hK.out _ _ ?_ (fun hHeld=>?_)
   ·exact za MK _ (hHeld.1.put2)
   clear hK K
   try simp only [Act.put,kBs]
   refine wpAnyH_done (by kernel_rfl) ?_ _;have HF:=hHeld.1;generalize ((wY.setCell ⟨w.heap.size,0,none⟩ (.string n.path)).setCell ⟨w.heap.size,2,none⟩ (.string n.data))=WZ at HF ⊢;have q0:=HF.at 0;have q1:=HF.at 1;have q2:=HF.at 2;have q3:=HF.at 3;have q4:=HF.at 4;have z0:=HF.zat 0;have f0:=HF.zfr 0;have z1:=HF.zat 1;have f1:=HF.zfr 1;have z2:=HF.zat 2;have f2:=HF.zfr 2;have z3:=HF.zat 3;have f3:=HF.zfr 3;have z4:=HF.zat 4;have f4:=HF.zfr 4;simp only [kGs] at q0 q1 q2 q3 q4 z0 z1 z2 z3 z4;have r5:=HF.res;have d0:(((((WZ.setCell ⟨w.heap.size+1,0,none⟩ (.string n.path)).setCell ⟨w.heap.size+1,1,none⟩ (.int .i64 n.kind)).setCell ⟨w.heap.size+1,2,none⟩ (.string n.data)).setCell ⟨w.heap.size+1,3,none⟩ (.int .i64 n.time)).setCell ⟨w.heap.size+1,4,none⟩ (.int .i64 n.mark)).cell? ⟨w.heap.size+1,0,none⟩=some (.string n.path):=(cell_of_row _ _ 0 _ _ (0,0) r5).trans (by simp)
   have d1:(((((WZ.setCell ⟨w.heap.size+1,0,none⟩ (.string n.path)).setCell ⟨w.heap.size+1,1,none⟩ (.int .i64 n.kind)).setCell ⟨w.heap.size+1,2,none⟩ (.string n.data)).setCell ⟨w.heap.size+1,3,none⟩ (.int .i64 n.time)).setCell ⟨w.heap.size+1,4,none⟩ (.int .i64 n.mark)).cell? ⟨w.heap.size+1,1,none⟩=some (.int .i64 n.kind):=(cell_of_row _ _ 1 _ _ (0,0) r5).trans (by simp);have d2:(((((WZ.setCell ⟨w.heap.size+1,0,none⟩ (.string n.path)).setCell ⟨w.heap.size+1,1,none⟩ (.int .i64 n.kind)).setCell ⟨w.heap.size+1,2,none⟩ (.string n.data)).setCell ⟨w.heap.size+1,3,none⟩ (.int .i64 n.time)).setCell ⟨w.heap.size+1,4,none⟩ (.int .i64 n.mark)).cell? ⟨w.heap.size+1,2,none⟩=some (.string n.data):=(cell_of_row _ _ 2 _ _ (0,0) r5).trans (by simp)
   have d3:(((((WZ.setCell ⟨w.heap.size+1,0,none⟩ (.string n.path)).setCell ⟨w.heap.size+1,1,none⟩ (.int .i64 n.kind)).setCell ⟨w.heap.size+1,2,none⟩ (.string n.data)).setCell ⟨w.heap.size+1,3,none⟩ (.int .i64 n.time)).setCell ⟨w.heap.size+1,4,none⟩ (.int .i64 n.mark)).cell? ⟨w.heap.size+1,3,none⟩=some (.int .i64 n.time):=(cell_of_row _ _ 3 _ _ (0,0) r5).trans (by simp);have d4:(((((WZ.setCell ⟨w.heap.size+1,0,none⟩ (.string n.path)).setCell ⟨w.heap.size+1,1,none⟩ (.int .i64 n.kind)).setCell ⟨w.heap.size+1,2,none⟩ (.string n.data)).setCell ⟨w.heap.size+1,3,none⟩ (.int .i64 n.time)).setCell ⟨w.heap.size+1,4,none⟩ (.int .i64 n.mark)).cell? ⟨w.heap.size+1,4,none⟩=some (.int .i64 n.mark):=(cell_of_row _ _ 4 _ _ (0,0) r5).trans (by simp)
   have bf:Below w.heap.size w (((((WZ.setCell ⟨w.heap.size+1,0,none⟩ (.string n.path)).setCell ⟨w.heap.size+1,1,none⟩ (.int .i64 n.kind)).setCell ⟨w.heap.size+1,2,none⟩ (.string n.data)).setCell ⟨w.heap.size+1,3,none⟩ (.int .i64 n.time)).setCell ⟨w.heap.size+1,4,none⟩ (.int .i64 n.mark)):=(((((HF.1.setCell (by simp) _).setCell (by simp) _).setCell (by simp) _).setCell (by simp) _).setCell (by simp) _);clear MK hHeld r5 HF;go_wp2
   refine bodyPost_ret (v:= .agg #[.string n.path, .int .i64 n.kind, .string n.data, .int .i64 n.time, .int .i64 n.mark]) (by simp [results,Tryd.results19,go_sem,d0,d1,d2,d3,d4]) rfl ⟨rfl,bf⟩
  ·go_simp
   refine hK.out _ _ ?_ (fun hHeld=>?_)
   ·exact za MK _ (hHeld.1.keep ((Below.refl _ _).alloc (Nat.le_refl _) _))
   clear hK K
   try simp only [Act.put,kBs]
   have vD:=Mem.ze5 (W1.alloc (.cells #[.string n.path] 9)) [.string n.data] 9;rw [show (W1.alloc (.cells #[.string n.path] 9)).heap.size=W1.heap.size+1 by simp] at vD;have vP2:=Mem.var_alloc vP (.cells #[.string n.data] 9);refine RN 3 fun K hK=>?_;go_simp
   refine (join1 n.path _ _ h1 vP2).mono ?_;rintro e wX ⟨rfl,bX⟩;refine hK.out _ _ ?_ (fun hHeld=>?_)
   ·exact za MK _ (hHeld.1.keep bX)
   clear hK K
   try simp only [Act.put,kBs]
   refine TB 8 ?_;have vD2:=Mem.zi8 vD bX;refine RN 7 fun K hK=>?_;go_simp
   refine (join1 n.data _ _ h2 vD2).mono ?_;rintro e wY ⟨rfl,bY⟩;refine hK.out _ _ ?_ (fun hHeld=>?_)
   ·exact za MK _ (hHeld.1.keep bY)
   clear hK K
   try simp only [Act.put,kBs]
   refine RN 9 fun K hK=>?_;go_simp
   refine hK.out _ _ ?_ (fun hHeld=>?_)
   ·exact za MK _ (hHeld.1.put0)
   clear hK K
   try simp only [Act.put,kBs]
   refine TB 10 ?_;refine RN 11 fun K hK=>?_;go_simp
   refine hK.out _ _ ?_ (fun hHeld=>?_)
   ·exact za MK _ (hHeld.1.put2)
   clear hK K
   try simp only [Act.put,kBs]
   refine wpAnyH_done (by kernel_rfl) ?_ _;have HF:=hHeld.1;generalize ((wY.setCell ⟨w.heap.size,0,none⟩ (.string n.path)).setCell ⟨w.heap.size,2,none⟩ (.string n.data))=WZ at HF ⊢;have q0:=HF.at 0;have q1:=HF.at 1;have q2:=HF.at 2;have q3:=HF.at 3;have q4:=HF.at 4;have z0:=HF.zat 0;have f0:=HF.zfr 0;have z1:=HF.zat 1;have f1:=HF.zfr 1;have z2:=HF.zat 2;have f2:=HF.zfr 2;have z3:=HF.zat 3;have f3:=HF.zfr 3;have z4:=HF.zat 4;have f4:=HF.zfr 4;simp only [kGs] at q0 q1 q2 q3 q4 z0 z1 z2 z3 z4;have r5:=HF.res;have d0:(((((WZ.setCell ⟨w.heap.size+1,0,none⟩ (.string n.path)).setCell ⟨w.heap.size+1,1,none⟩ (.int .i64 n.kind)).setCell ⟨w.heap.size+1,2,none⟩ (.string n.data)).setCell ⟨w.heap.size+1,3,none⟩ (.int .i64 n.time)).setCell ⟨w.heap.size+1,4,none⟩ (.int .i64 n.mark)).cell? ⟨w.heap.size+1,0,none⟩=some (.string n.path):=(cell_of_row _ _ 0 _ _ (0,0) r5).trans (by simp)
   have d1:(((((WZ.setCell ⟨w.heap.size+1,0,none⟩ (.string n.path)).setCell ⟨w.heap.size+1,1,none⟩ (.int .i64 n.kind)).setCell ⟨w.heap.size+1,2,none⟩ (.string n.data)).setCell ⟨w.heap.size+1,3,none⟩ (.int .i64 n.time)).setCell ⟨w.heap.size+1,4,none⟩ (.int .i64 n.mark)).cell? ⟨w.heap.size+1,1,none⟩=some (.int .i64 n.kind):=(cell_of_row _ _ 1 _ _ (0,0) r5).trans (by simp);have d2:(((((WZ.setCell ⟨w.heap.size+1,0,none⟩ (.string n.path)).setCell ⟨w.heap.size+1,1,none⟩ (.int .i64 n.kind)).setCell ⟨w.heap.size+1,2,none⟩ (.string n.data)).setCell ⟨w.heap.size+1,3,none⟩ (.int .i64 n.time)).setCell ⟨w.heap.size+1,4,none⟩ (.int .i64 n.mark)).cell? ⟨w.heap.size+1,2,none⟩=some (.string n.data):=(cell_of_row _ _ 2 _ _ (0,0) r5).trans (by simp)
   have d3:(((((WZ.setCell ⟨w.heap.size+1,0,none⟩ (.string n.path)).setCell ⟨w.heap.size+1,1,none⟩ (.int .i64 n.kind)).setCell ⟨w.heap.size+1,2,none⟩ (.string n.data)).setCell ⟨w.heap.size+1,3,none⟩ (.int .i64 n.time)).setCell ⟨w.heap.size+1,4,none⟩ (.int .i64 n.mark)).cell? ⟨w.heap.size+1,3,none⟩=some (.int .i64 n.time):=(cell_of_row _ _ 3 _ _ (0,0) r5).trans (by simp);have d4:(((((WZ.setCell ⟨w.heap.size+1,0,none⟩ (.string n.path)).setCell ⟨w.heap.size+1,1,none⟩ (.int .i64 n.kind)).setCell ⟨w.heap.size+1,2,none⟩ (.string n.data)).setCell ⟨w.heap.size+1,3,none⟩ (.int .i64 n.time)).setCell ⟨w.heap.size+1,4,none⟩ (.int .i64 n.mark)).cell? ⟨w.heap.size+1,4,none⟩=some (.int .i64 n.mark):=(cell_of_row _ _ 4 _ _ (0,0) r5).trans (by simp)
   have bf:Below w.heap.size w (((((WZ.setCell ⟨w.heap.size+1,0,none⟩ (.string n.path)).setCell ⟨w.heap.size+1,1,none⟩ (.int .i64 n.kind)).setCell ⟨w.heap.size+1,2,none⟩ (.string n.data)).setCell ⟨w.heap.size+1,3,none⟩ (.int .i64 n.time)).setCell ⟨w.heap.size+1,4,none⟩ (.int .i64 n.mark)):=(((((HF.1.setCell (by simp) _).setCell (by simp) _).setCell (by simp) _).setCell (by simp) _).setCell (by simp) _);clear MK hHeld r5 HF;go_wp2
   refine bodyPost_ret (v:= .agg #[.string n.path, .int .i64 n.kind, .string n.data, .int .i64 n.time, .int .i64 n.mark]) (by simp [results,Tryd.results19,go_sem,d0,d1,d2,d3,d4]) rfl ⟨rfl,bf⟩
 ·go_simp
  refine hK.out _ _ ?_ (fun hHeld=>?_)
  ·exact za MK _ (hHeld.1.keep ((Below.refl _ _).alloc (Nat.le_refl _) _))
  clear hK K
  try simp only [Act.put,kBs]
  have vD:=Mem.ze5 (W1) [.string n.data] 9;refine RN 2 fun K hK=>?_;go_simp
  refine hK.out _ _ ?_ (fun hHeld=>?_)
  ·exact za MK _ (hHeld.1.keep ((Below.refl _ _).alloc (Nat.le_refl _) _))
  clear hK K
  try simp only [Act.put,kBs]
  have vP:=Mem.ze5 (W1.alloc (.cells #[.string n.data] 9)) [.string n.path] 9;rw [show (W1.alloc (.cells #[.string n.data] 9)).heap.size=W1.heap.size+1 by simp] at vP;have vD2:=Mem.var_alloc vD (.cells #[.string n.path] 9);refine RN 3 fun K hK=>?_;go_simp
  refine (join1 n.path _ _ h1 vP).mono ?_;rintro e wX ⟨rfl,bX⟩;refine hK.out _ _ ?_ (fun hHeld=>?_)
  ·exact za MK _ (hHeld.1.keep bX)
  clear hK K
  try simp only [Act.put,kBs]
  refine TB 8 ?_;have vD3:=Mem.zi8 vD2 bX;refine RN 7 fun K hK=>?_;go_simp
  refine (join1 n.data _ _ h2 vD3).mono ?_;rintro e wY ⟨rfl,bY⟩;refine hK.out _ _ ?_ (fun hHeld=>?_)
  ·exact za MK _ (hHeld.1.keep bY)
  clear hK K
  try simp only [Act.put,kBs]
  refine RN 9 fun K hK=>?_;go_simp
  refine hK.out _ _ ?_ (fun hHeld=>?_)
  ·exact za MK _ (hHeld.1.put0)
  clear hK K
  try simp only [Act.put,kBs]
  refine TB 10 ?_;refine RN 11 fun K hK=>?_;go_simp
  refine hK.out _ _ ?_ (fun hHeld=>?_)
  ·exact za MK _ (hHeld.1.put2)
  clear hK K
  try simp only [Act.put,kBs]
  refine wpAnyH_done (by kernel_rfl) ?_ _;have HF:=hHeld.1;generalize ((wY.setCell ⟨w.heap.size,0,none⟩ (.string n.path)).setCell ⟨w.heap.size,2,none⟩ (.string n.data))=WZ at HF ⊢;have q0:=HF.at 0;have q1:=HF.at 1;have q2:=HF.at 2;have q3:=HF.at 3;have q4:=HF.at 4;have z0:=HF.zat 0;have f0:=HF.zfr 0;have z1:=HF.zat 1;have f1:=HF.zfr 1;have z2:=HF.zat 2;have f2:=HF.zfr 2;have z3:=HF.zat 3;have f3:=HF.zfr 3;have z4:=HF.zat 4;have f4:=HF.zfr 4;simp only [kGs] at q0 q1 q2 q3 q4 z0 z1 z2 z3 z4;have r5:=HF.res;have d0:(((((WZ.setCell ⟨w.heap.size+1,0,none⟩ (.string n.path)).setCell ⟨w.heap.size+1,1,none⟩ (.int .i64 n.kind)).setCell ⟨w.heap.size+1,2,none⟩ (.string n.data)).setCell ⟨w.heap.size+1,3,none⟩ (.int .i64 n.time)).setCell ⟨w.heap.size+1,4,none⟩ (.int .i64 n.mark)).cell? ⟨w.heap.size+1,0,none⟩=some (.string n.path):=(cell_of_row _ _ 0 _ _ (0,0) r5).trans (by simp)
  have d1:(((((WZ.setCell ⟨w.heap.size+1,0,none⟩ (.string n.path)).setCell ⟨w.heap.size+1,1,none⟩ (.int .i64 n.kind)).setCell ⟨w.heap.size+1,2,none⟩ (.string n.data)).setCell ⟨w.heap.size+1,3,none⟩ (.int .i64 n.time)).setCell ⟨w.heap.size+1,4,none⟩ (.int .i64 n.mark)).cell? ⟨w.heap.size+1,1,none⟩=some (.int .i64 n.kind):=(cell_of_row _ _ 1 _ _ (0,0) r5).trans (by simp);have d2:(((((WZ.setCell ⟨w.heap.size+1,0,none⟩ (.string n.path)).setCell ⟨w.heap.size+1,1,none⟩ (.int .i64 n.kind)).setCell ⟨w.heap.size+1,2,none⟩ (.string n.data)).setCell ⟨w.heap.size+1,3,none⟩ (.int .i64 n.time)).setCell ⟨w.heap.size+1,4,none⟩ (.int .i64 n.mark)).cell? ⟨w.heap.size+1,2,none⟩=some (.string n.data):=(cell_of_row _ _ 2 _ _ (0,0) r5).trans (by simp)
  have d3:(((((WZ.setCell ⟨w.heap.size+1,0,none⟩ (.string n.path)).setCell ⟨w.heap.size+1,1,none⟩ (.int .i64 n.kind)).setCell ⟨w.heap.size+1,2,none⟩ (.string n.data)).setCell ⟨w.heap.size+1,3,none⟩ (.int .i64 n.time)).setCell ⟨w.heap.size+1,4,none⟩ (.int .i64 n.mark)).cell? ⟨w.heap.size+1,3,none⟩=some (.int .i64 n.time):=(cell_of_row _ _ 3 _ _ (0,0) r5).trans (by simp);have d4:(((((WZ.setCell ⟨w.heap.size+1,0,none⟩ (.string n.path)).setCell ⟨w.heap.size+1,1,none⟩ (.int .i64 n.kind)).setCell ⟨w.heap.size+1,2,none⟩ (.string n.data)).setCell ⟨w.heap.size+1,3,none⟩ (.int .i64 n.time)).setCell ⟨w.heap.size+1,4,none⟩ (.int .i64 n.mark)).cell? ⟨w.heap.size+1,4,none⟩=some (.int .i64 n.mark):=(cell_of_row _ _ 4 _ _ (0,0) r5).trans (by simp)
  have bf:Below w.heap.size w (((((WZ.setCell ⟨w.heap.size+1,0,none⟩ (.string n.path)).setCell ⟨w.heap.size+1,1,none⟩ (.int .i64 n.kind)).setCell ⟨w.heap.size+1,2,none⟩ (.string n.data)).setCell ⟨w.heap.size+1,3,none⟩ (.int .i64 n.time)).setCell ⟨w.heap.size+1,4,none⟩ (.int .i64 n.mark)):=(((((HF.1.setCell (by simp) _).setCell (by simp) _).setCell (by simp) _).setCell (by simp) _).setCell (by simp) _);clear MK hHeld r5 HF;go_wp2
  refine bodyPost_ret (v:= .agg #[.string n.path, .int .i64 n.kind, .string n.data, .int .i64 n.time, .int .i64 n.mark]) (by simp [results,Tryd.results19,go_sem,d0,d1,d2,d3,d4]) rfl ⟨rfl,bf⟩
end WCopied
end Go.Proofs.YtpakookhgpphaaaDoor
