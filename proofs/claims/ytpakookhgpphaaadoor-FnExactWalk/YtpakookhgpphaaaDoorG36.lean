/- Several texts of one claim in one file: WNodesJ, WItemX. -/
import Derived.Test.YtpakookhgpphaaaDoorG14
import Derived.Test.YtpakookhgpphaaaDoorG18
import Derived.Test.YtpakookhgpphaaaDoorG35
import Derived.Test.YtpakookhgpphaaaDoorG26
import Derived.Test.YtpakookhgpphaaaDoorG06
import Derived.Test.YtpakookhgpphaaaDoorG29
namespace Go.Proofs.YtpakookhgpphaaaDoor
section
open Go.RowKit Go.Maps
namespace Pl
structure Inv (C:List Nd) (lp:ByteArray):Prop where
 right:za2 lp=true
 rise:C.Pairwise (fun a b=>za3 (names a.path) (names b.path)=true)
 last:∀a∈C,a.path=lp∨za3 (names a.path) (names lp)=true
theorem inv_start:Inv [] ⟨#[]⟩:=⟨(zg4 rfl).1,List.Pairwise.nil,fun a ha=>by cases ha⟩
theorem inv_apart {C:List Nd} {lp:ByteArray} (h:Inv C lp):C.Pairwise (fun a b=>a.path≠b.path):=
 h.rise.imp (fun {a b} hab e=>by rw [e,zj1] at hab;cases hab)
theorem inv_step {C:List Nd} {lp:ByteArray} {n:Nd} (h:Inv C lp) (hn:zc5 n=true) (hl:ltP lp n.path=true):Inv (C++[n]) n.path:=by
 have hr:=(zg3 hn).1;rw [ze h.right hr] at hl
 have hall:∀a∈C,za3 (names a.path) (names n.path)=true:=fun a ha=>by
  rcases h.last a ha with e|e
  ·rw [e];exact hl
  ·exact zg2 _ _ _ e hl
 refine ⟨hr,?_,fun a ha=>?_⟩
 ·rw [List.pairwise_append];exact ⟨h.rise,List.pairwise_singleton _ _,fun a ha b hb=>by simp at hb;subst hb;exact hall a ha⟩
 ·rcases List.mem_append.1 ha with ha|ha
  ·exact .inr (hall a ha)
  ·simp at ha;subst ha;exact .inl rfl
theorem goI_step (L:List Nd) {n:Nd} {k:Nat} (h:L[k]? =some n) (C:List Nd) (lp:ByteArray):goI C lp (L.drop k)=(zc5 n&&ltP lp n.path&&parI C n.path&&goI (C++[n]) n.path (L.drop (k+1))):=by
 have h1:=(List.getElem?_eq_some_iff.1 h);rw [List.drop_eq_getElem_cons h1.1,h1.2,goI]
theorem take_snoc' (L:List Nd) {n:Nd} {k:Nat} (h:L[k]? =some n):L.take (k+1)=L.take k++[n]:=by
 have h1:=(List.getElem?_eq_some_iff.1 h);rw [List.take_succ_eq_append_getElem h1.1,h1.2]
end Pl
namespace zn7
set_option maxRecDepth 100000 in
set_option maxHeartbeats 1000000 in
theorem nodes_any (a:Option Addr) (cap:Nat) (L:List Pl.Nd) (w:World) (hl:L.length≤1048576) (hv:Mem.za7 w a L) (hok:∀n∈L,n.path.size≤1048576∧n.data.size≤1048576)
  (r1 r2 r3:TypeId) (x1 x2 x3:Value) (hE:Errs w r1 r2 r3 x1 x2 x3):
  Calls Tryd.prog 61 #[.agg #[.slice a L.length cap]] w fun e w'=>((Pl.ze2 L=true∧∃B,e= .returned (.tuple #[.map (some B), .nilIface])∧w.heap.size≤B∧w'.ownsMap Tryd.prog 9 MapN.elem B 40 (MapN.mapOf L))∨
   (Pl.ze2 L=false∧e= .returned (.tuple #[.map none, .iface r1 x1])))∧Below w.heap.size w w':=by
 have b0:Below w.heap.size w (w.alloc (.cells #[.slice a L.length cap] 44)):=(Below.refl _ _).alloc (Nat.le_refl _) _;have HV:=hide hv;have HO:=hide hok;have HE:=hide hE;have hvar:=hide (Mem.ze5 w [.slice a L.length cap] 44);have hmm:=@run_makeMap Tryd.prog;have k1:=(hE.call b0).c1;clear hv hok hE;by_cases h40:40<L.length
 ·have F:=hide (show Pl.ze2 L=false by simp [Pl.ze2];omega);go_enter Tryd.func61,Tryd.ntmps61
  go_wp2
  go_region
  go_wp2
  go_ret2
  exact ⟨.inr ⟨za F,rfl⟩,Mem.below_drewN b0 1⟩
 have h41:Pl.ze2 L=Pl.goI [] ⟨#[]⟩ L:=by rw [Pl.ze2,show decide (L.length≤40)=true by simp;omega];rfl
 rw [h41];clear h41;generalize hR:Pl.goI [] ⟨#[]⟩ L=R;have HR:=hide hR;clear hR;go_enter Tryd.func61,Tryd.ntmps61
 go_wp2
 go_loopw [5,17] (fun v i wr=>∃ (k:Nat) (lp:ByteArray),k≤L.length∧i= .int .i64 (k:Int)∧v= .string lp∧lp.size≤200∧Below w.heap.size w wr∧Hid (wr.ownsMap Tryd.prog 9 MapN.elem (w.heap.size+1) k (MapN.mapOf (L.take k)))∧Hid (Pl.Inv (L.take k) lp)∧Hid (R=Pl.goI (L.take k) lp (L.drop k))) (fun _ i _=>L.length - (intOf i).toNat)
 case atStart=>
  refine ⟨0,⟨#[]⟩,Nat.zero_le _,rfl,rfl,Nat.zero_le _,?_,?_,Pl.inv_start,(za HR).symm⟩
  ·exact b0.alloc (by simp) _
  ·have h:=World.ownsMap_made (w.alloc (.cells #[.slice a L.length cap] 44)) Tryd.prog 9 MapN.elem;rw [show (w.alloc (.cells #[.slice a L.length cap] 44)).heap.size=w.heap.size+1 by simp] at h;exact h
 case round=>
  obtain ⟨k,lp,hk,rfl,rfl,hlp,hbel,HM,HI,HR2⟩:=hrel;by_cases hlt:k<L.length
  ·obtain ⟨n,hn⟩:∃n,L[k]? =some n:=⟨_,List.getElem?_eq_getElem hlt⟩;obtain ⟨b,o,rfl,hb,q0,q1,q2,q3,q4⟩:=(Mem.za8 (za HV) hbel) k n hn;have y1:(k:Int)<(L.length:Int):=by omega
   have y3:(0:Int)≤(k:Int):=by omega
   have hBl:=(za HM).lt;have hsn:=za HO n (List.mem_of_getElem? hn);have hnr:=hide (fun W=>WNode.zw2 n W hsn.1 hsn.2);have hls:=hide (fun W=>WLess.zw7 lp n.path W (by omega) hsn.1)
   change Hid (∀W,Calls Tryd.prog _ _ W fun e w'=>e= .returned (.bool (Pl.ltP lp n.path))∧_) at hls
   have hpf:=hide (fun W hE hown hC=>fault_any (w.heap.size+1) k (L.take k) n.path W r1 r2 r3 x1 x2 x3 hE hown hC hsn.1);have UG:=hide (Pl.goI_step L (n:=n) (k:=k) hn (L.take k) lp);have HN:=hide hn;have hkey:=MapN.zk1 (p:=n.path) (by have :=hsn.1;unfold maxLen;omega);have zn:=Mem.ze5 wr [.string n.path, .int .i64 n.kind, .string n.data, .int .i64 n.time, .int .i64 n.mark] 25;have bw1:Below wr.heap.size wr (wr.alloc (.cells #[.string n.path, .int .i64 n.kind, .string n.data, .int .i64 n.time, .int .i64 n.mark] 25)):=(Below.refl _ _).alloc (Nat.le_refl _) _;have bw2:=hbel.trans (bw1.mono hbel.size);have HM1:=hide (ze3 (za HM) bw1);clear hn HM;simp only [Pl.Nd.val] at hnr;go_wp2_with fail
   refine (za hnr _).mono ?_;rintro e wA ⟨rfl,bA⟩;have znA:=Mem.zi8 zn bA;have bwA:=bw2.trans (bA.mono bw2.size);have HMA:=hide (ze3 (za HM1) bA);have kA:=((za HE).call bwA).c1;clear zn bw1 bw2 bA HM1 q0 q1 q2 q3 q4 hnr;have c0:=znA.2 0 _ rfl;cases hnb:Pl.zc5 n
   ·have F:=hide (show R=false by rw [za HR2,za UG,hnb];rfl);clear hnb;go_wp2
    go_region
    go_wp2
    go_ret2
    exact ⟨.inr ⟨za F,rfl⟩,Mem.below_drewN bwA 1⟩
   have HNB:=hide hnb;clear hnb;go_wp2_with fail
   refine (za hls _).mono ?_;rintro e wB ⟨rfl,bB⟩;have znB:=Mem.zi8 znA bB;have bwB:=bwA.trans (bB.mono bwA.size);have HMB:=hide (ze3 (za HMA) bB);have kB:=((za HE).call bwB).c1;clear znA bwA bB HMA c0 kA hls;have c0:=znB.2 0 _ rfl;cases hlb:Pl.ltP lp n.path
   ·have F:=hide (show R=false by rw [za HR2,za UG,za HNB,hlb];rfl);clear hlb;go_wp2
    go_region
    go_wp2
    go_ret2
    exact ⟨.inr ⟨za F,rfl⟩,Mem.below_drewN bwB 1⟩
   have HLB:=hide hlb;clear hlb;go_wp2_with fail
   refine (za hpf _ ((za HE).call bwB) (za HMB) (Pl.inv_apart (za HI))).mono ?_;rintro e wC ⟨rfl,bC⟩;have znC:=Mem.zi8 znB bC;have bwC:=bwB.trans (bC.mono bwB.size);have HMC:=hide (ze3 (za HMB) bC);have kC:=((za HE).call bwC).c1;clear znB bwB bC HMB c0 kB hpf
   rcases Pl.par_ok (p:=n.path) (u2:=r2) (u3:=r3) (x2:=x2) (x3:=x3) (Pl.inv_apart (za HI)) with ⟨hp1,hp2⟩|⟨hp1,uu,xx,hp2⟩
   rotate_left
   ·have F:=hide (show R=false by rw [za HR2,za UG,za HNB,za HLB,hp1];rfl);rw [hp2];clear hp1 hp2;go_wp2
    go_region
    go_wp2
    go_ret2
    exact ⟨.inr ⟨za F,rfl⟩,Mem.below_drewN bwC 1⟩
   have HR3:=hide (show R=Pl.goI (L.take k++[n]) n.path (L.drop (k+1)) by rw [za HR2,za UG,za HNB,za HLB,hp1];rfl);rw [hp2];clear hp1 hp2;have c0:=znC.2 0 _ rfl;have c1:=znC.2 1 _ rfl;have c2:=znC.2 2 _ rfl;have c3:=znC.2 3 _ rfl;have c4:=znC.2 4 _ rfl;have hzl:=znC.1;have hne:some wr.heap.size≠some (w.heap.size+1):=fun e=>by have :=Option.some.inj e;omega
   go_wp2_with (first |(at_mapUpdate;refine wpList_mapUpdate_own _ rfl _ _ _ 49 rfl 9 25 MapN.law Tryd.underlying49 _ (w.heap.size+1) k _ rfl (za HMC) (by unfold maxLen;omega) _ _ _ rfl rfl hkey _ [] (MapN.zn8 n) ?_;intro wD hownD hgrowD;have cD:=hgrowD.cell c0 hne;have HOD:=hide hownD;have bwD:=bwC.grown hgrowD bwC.size (fun k hk=>by cases hk;omega);clear hownD hgrowD)|fail)
   have HI2:=hide (Pl.inv_step (za HI) (za HNB) (za HLB));have hnl:=Pl.zh9 (Pl.zg3 (za HNB)).1;have HT:=hide (Pl.take_snoc' L (za HN));go_wp2
   go_roundw
   case rel=>
    refine ⟨k+1,n.path,by omega,by go_num,rfl,hnl,bwD,?_,?_,?_⟩
    ·rw [za HT,MapN.zu8];exact HOD
    ·rw [za HT];exact HI2
    ·rw [za HT];exact HR3
   case measure=>simp [intOf];omega
  ·obtain rfl:k=L.length:=by omega
   have F:=hide (show R=true by rw [za HR2,List.drop_length];rfl);rw [List.take_length] at HM;clear HR2;go_wp2
   go_ret2
   exact ⟨.inl ⟨za F,w.heap.size+1,rfl,by omega,(za HM).mono (by omega)⟩,hbel⟩
end zn7
end
section
open Go.RowKit
namespace zo5
set_option linter.unusedSimpArgs false in
set_option maxRecDepth 100000 in
set_option maxHeartbeats 1000000 in
theorem item_any (m:Int) (a:Option Addr) (cap:Nat) (L:List Pl.Nd) (w:World) (hl:L.length≤1048576) (hv:Mem.za7 w a L) (hok:∀n∈L,n.path.size≤1048576∧n.data.size≤1048576)
  (r1 r2 r3:TypeId) (x1 x2 x3:Value) (hE:zn7.Errs w r1 r2 r3 x1 x2 x3):
  Calls Tryd.prog 45 #[.agg #[.int .i64 m, .slice a L.length cap]] w fun e w'=>((Pl.ze7 m L=true∧∃B,e= .returned (.tuple #[.agg #[.map (some B), .int .i64 m], .nilIface])∧w.heap.size≤B∧Mem.ownM w' B L)∨
   (Pl.ze7 m L=false∧∃k,e= .returned (.tuple #[.agg #[.map none, .int .i64 k], .iface r1 x1])))∧Below w.heap.size w w':=by
 have b0:Below w.heap.size w ((w.alloc (.cells #[.int .i64 m, .slice a L.length cap] 46)).alloc (.cells #[.map none, .int .i64 0] 51)):=((Below.refl _ _).alloc (Nat.le_refl _) _).alloc (by simp) _;have k1:=(hE.call b0).c1;have HB0:=hide b0;by_cases h1:m<0
 ·have hb:Pl.ze7 m L=false:=by unfold Pl.ze7;rw [show decide (0≤m)=false from decide_eq_false (by omega)];simp
  clear b0 hv hok hE;go_enter Tryd.func45,Tryd.ntmps45
  go_wp2
  go_region
  go_wp2
  refine bodyPost_ret (v:= .tuple #[.agg #[.map none, .int .i64 0], .iface r1 x1]) (by simp [results,Tryd.results45,go_sem]) rfl ⟨.inr ⟨hb,0,rfl⟩,?_⟩;exact Mem.below_drewN (za HB0) 1
 by_cases h2:4<m
 ·have hb:Pl.ze7 m L=false:=by unfold Pl.ze7;rw [show decide (m≤4)=false from decide_eq_false (by omega)];simp
  clear b0 hv hok hE;go_enter Tryd.func45,Tryd.ntmps45
  go_wp2
  go_region
  go_wp2
  refine bodyPost_ret (v:= .tuple #[.agg #[.map none, .int .i64 0], .iface r1 x1]) (by simp [results,Tryd.results45,go_sem]) rfl ⟨.inr ⟨hb,0,rfl⟩,?_⟩;exact Mem.below_drewN (za HB0) 1
 by_cases h3:0<m∧0<L.length
 ·have hb:Pl.ze7 m L=false:=by
   rw [Pl.zv4 (by omega),show decide (L.length=0)=false from decide_eq_false (by omega)];simp
  have u1:=h3.1;have u2:(0:Int)<(L.length:Int):=by omega
  clear b0 hv hok hE;go_enter Tryd.func45,Tryd.ntmps45
  go_wp2
  go_region
  go_wp2
  refine bodyPost_ret (v:= .tuple #[.agg #[.map none, .int .i64 0], .iface r1 x1]) (by simp [results,Tryd.results45,go_sem]) rfl ⟨.inr ⟨hb,0,rfl⟩,?_⟩;exact Mem.below_drewN (za HB0) 1
 have hb:Pl.ze7 m L=Pl.ze2 L:=by
  by_cases h0:m=0
  ·subst h0;exact Pl.ya2 L
  ·have hL:L=[]:=List.eq_nil_of_length_eq_zero (by omega);subst hL;rw [Pl.zv4 h0,Pl.treeB_nil,decide_eq_true (show 1≤m by omega),decide_eq_true (show m≤4 by omega)];rfl
 rw [hb];have hz:=hide (zn7.nodes_any a cap L _ hl (Mem.za8 hv b0) hok r1 r2 r3 x1 x2 x3 (hE.call b0))
 have r2':Mem.Blk ((w.alloc (.cells #[.int .i64 m, .slice a L.length cap] 46)).alloc (.cells #[.map none, .int .i64 0] 51)) (w.heap.size+1) #[.map none, .int .i64 0] 51:=by
  have :=Mem.Blk.new (w.alloc (.cells #[.int .i64 m, .slice a L.length cap] 46)) #[.map none, .int .i64 0] 51
  simpa using this
 have r1':Mem.Blk ((w.alloc (.cells #[.int .i64 m, .slice a L.length cap] 46)).alloc (.cells #[.map none, .int .i64 0] 51)) w.heap.size #[.int .i64 m, .slice a L.length cap] 46:=(Mem.Blk.new w _ _).alloc _;clear hv hok hE k1 b0 hb;by_cases h4:0<m
 ·have u2:¬ (0:Int)<(L.length:Int):=by omega
  go_enter Tryd.func45,Tryd.ntmps45
  go_wp2_with fail
  generalize ((w.alloc (.cells #[.int .i64 m, .slice a L.length cap] 46)).alloc (.cells #[.map none, .int .i64 0] 51))=w2 at hz r1' r2' HB0 ⊢;refine (za hz).mono ?_;rintro e w1 ⟨h1,b1⟩;have R1:=r1'.call b1;have R2:=r2'.call b1;have c10:=R1.cell 0;have c11:=R1.cell 1;have c20:=R2.cell 0;have c21:=R2.cell 1;have f20:=R2.fr 0;have f21:=R2.fr 1;simp only [kGs] at c10 c11 c20 c21;have bb:=hide ((za HB0).trans (b1.mono (za HB0).size));have HS2:Hid (w.heap.size+2≤w2.heap.size):=hide (by have :=r2'.lt;omega);clear hz b1 r1' r2' R1 R2 HB0
  rcases h1 with ⟨hT,B,rfl,hB,hm⟩|⟨hT,rfl⟩
  ·have HM:Hid (w.heap.size≤B∧Mem.ownM ((w1.setCell ⟨w.heap.size+1,0,none⟩ (.map (some B))).setCell ⟨w.heap.size+1,1,none⟩ (.int .i64 m)) B L):=
    hide ⟨by have :=(za HS2);omega,(Mem.ownM.set (Mem.ownM.set hm _ _ (by have :=(za HS2);show B≠w.heap.size+1;omega)) _ _ (by have :=(za HS2);show B≠w.heap.size+1;omega))⟩
   clear hm hB;go_wp2
   refine bodyPost_ret (v:= .tuple #[.agg #[.map (some B), .int .i64 m], .nilIface]) (by simp [results,Tryd.results45,go_sem,c20,c21]) rfl ⟨.inl ⟨hT,B,rfl,za HM⟩,?_⟩;exact ((za bb).setCell (by show w.heap.size≤w.heap.size+1;omega) _).setCell (by show w.heap.size≤w.heap.size+1;omega) _
  ·go_wp2
   refine bodyPost_ret (v:= .tuple #[.agg #[.map none, .int .i64 m], .iface r1 x1]) (by simp [results,Tryd.results45,go_sem,c20,c21]) rfl ⟨.inr ⟨hT,m,rfl⟩,?_⟩;exact ((za bb).setCell (by show w.heap.size≤w.heap.size+1;omega) _).setCell (by show w.heap.size≤w.heap.size+1;omega) _
 ·go_enter Tryd.func45,Tryd.ntmps45
  go_wp2_with fail
  generalize ((w.alloc (.cells #[.int .i64 m, .slice a L.length cap] 46)).alloc (.cells #[.map none, .int .i64 0] 51))=w2 at hz r1' r2' HB0 ⊢;refine (za hz).mono ?_;rintro e w1 ⟨h1,b1⟩;have R1:=r1'.call b1;have R2:=r2'.call b1;have c10:=R1.cell 0;have c11:=R1.cell 1;have c20:=R2.cell 0;have c21:=R2.cell 1;have f20:=R2.fr 0;have f21:=R2.fr 1;simp only [kGs] at c10 c11 c20 c21;have bb:=hide ((za HB0).trans (b1.mono (za HB0).size));have HS2:Hid (w.heap.size+2≤w2.heap.size):=hide (by have :=r2'.lt;omega);clear hz b1 r1' r2' R1 R2 HB0
  rcases h1 with ⟨hT,B,rfl,hB,hm⟩|⟨hT,rfl⟩
  ·have HM:Hid (w.heap.size≤B∧Mem.ownM ((w1.setCell ⟨w.heap.size+1,0,none⟩ (.map (some B))).setCell ⟨w.heap.size+1,1,none⟩ (.int .i64 m)) B L):=
    hide ⟨by have :=(za HS2);omega,(Mem.ownM.set (Mem.ownM.set hm _ _ (by have :=(za HS2);show B≠w.heap.size+1;omega)) _ _ (by have :=(za HS2);show B≠w.heap.size+1;omega))⟩
   clear hm hB;go_wp2
   refine bodyPost_ret (v:= .tuple #[.agg #[.map (some B), .int .i64 m], .nilIface]) (by simp [results,Tryd.results45,go_sem,c20,c21]) rfl ⟨.inl ⟨hT,B,rfl,za HM⟩,?_⟩;exact ((za bb).setCell (by show w.heap.size≤w.heap.size+1;omega) _).setCell (by show w.heap.size≤w.heap.size+1;omega) _
  ·go_wp2
   refine bodyPost_ret (v:= .tuple #[.agg #[.map none, .int .i64 m], .iface r1 x1]) (by simp [results,Tryd.results45,go_sem,c20,c21]) rfl ⟨.inr ⟨hT,m,rfl⟩,?_⟩;exact ((za bb).setCell (by show w.heap.size≤w.heap.size+1;omega) _).setCell (by show w.heap.size≤w.heap.size+1;omega) _
end zo5
end
end Go.Proofs.YtpakookhgpphaaaDoor
