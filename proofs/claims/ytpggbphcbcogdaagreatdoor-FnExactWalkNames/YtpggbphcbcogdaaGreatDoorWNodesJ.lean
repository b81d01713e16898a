import Derived.Test.YtpggbphcbcogdaaGreatDoorTakeC
import Derived.Test.YtpggbphcbcogdaaGreatDoorMemNodes
import Derived.Test.YtpggbphcbcogdaaGreatDoorWNode
import Derived.Test.YtpggbphcbcogdaaGreatDoorWLess
import Derived.Test.YtpggbphcbcogdaaGreatDoorWNodesI
namespace Go.Proofs.YtpggbphcbcogdaaGreatDoor
open Go.RowKit Go.Maps
namespace Pl
structure Inv (C:List Nd) (lp:ByteArray):Prop where
 right:za2 lp=true
 rise:C.Pairwise (fun a b=>za8 (names a.path) (names b.path)=true)
 last:∀a∈C,a.path=lp∨za8 (names a.path) (names lp)=true
theorem inv_start:Inv [] ⟨#[]⟩:=⟨(zi rfl).1,List.Pairwise.nil,fun a ha=>by cases ha⟩
theorem inv_apart {C:List Nd} {lp:ByteArray} (h:Inv C lp):C.Pairwise (fun a b=>a.path≠b.path):=
 h.rise.imp (fun {a b} hab e=>by rw [e,zm9] at hab;cases hab)
theorem inv_step {C:List Nd} {lp:ByteArray} {n:Nd} (h:Inv C lp) (hn:zb3 n=true) (hl:ltP lp n.path=true):Inv (C++[n]) n.path:=by
 have hr:=(zi1 hn).1;rw [zo8 h.right hr] at hl
 have hall:∀a∈C,za8 (names a.path) (names n.path)=true:=fun a ha=>by
  rcases h.last a ha with e|e
  ·rw [e];exact hl
  ·exact zk0 _ _ _ e hl
 refine ⟨hr,?_,fun a ha=>?_⟩
 ·rw [List.pairwise_append];exact ⟨h.rise,List.pairwise_singleton _ _,fun a ha b hb=>by simp at hb;subst hb;exact hall a ha⟩
 ·rcases List.mem_append.1 ha with ha|ha
  ·exact .inr (hall a ha)
  ·simp at ha;subst ha;exact .inl rfl
theorem goI_step (L:List Nd) {n:Nd} {k:Nat} (h:L[k]? =some n) (C:List Nd) (lp:ByteArray):goI C lp (L.drop k)=(zb3 n&&ltP lp n.path&&parI C n.path&&goI (C++[n]) n.path (L.drop (k+1))):=by
 have h1:=(List.getElem?_eq_some_iff.1 h);rw [List.drop_eq_getElem_cons h1.1,h1.2,goI]
theorem take_snoc' (L:List Nd) {n:Nd} {k:Nat} (h:L[k]? =some n):L.take (k+1)=L.take k++[n]:=by
 have h1:=(List.getElem?_eq_some_iff.1 h);rw [List.take_succ_eq_append_getElem h1.1,h1.2]
end Pl
namespace zk2
set_option maxRecDepth 100000 in
set_option maxHeartbeats 1000000 in
theorem nodes_any (a:Option Addr) (cap:Nat) (L:List Pl.Nd) (w:World) (hl:L.length≤1048576) (hv:Mem.zb5 w a L) (hok:∀n∈L,n.path.size≤1048576∧n.data.size≤1048576)
  (r1 r2 r3:TypeId) (x1 x2 x3:Value) (hE:Errs w r1 r2 r3 x1 x2 x3):
  Calls Tryz.prog 70 #[.agg #[.slice a L.length cap]] w fun e w'=>((Pl.zb9 L=true∧∃B,e= .returned (.tuple #[.map (some B), .nilIface])∧w.heap.size≤B∧w'.ownsMap Tryz.prog 9 MapN.elem B 40 (MapN.mapOf L))∨
   (Pl.zb9 L=false∧e= .returned (.tuple #[.map none, .iface r1 x1])))∧Below w.heap.size w w':=by
 have b0:Below w.heap.size w (w.alloc (.cells #[.slice a L.length cap] 50)):=bE0;have HV:=hide hv;have HO:=hide hok;have HE:=hide hE;have hvar:=hide (Mem.zg4 w [.slice a L.length cap] 50);have hmm:=@run_makeMap Tryz.prog;have k1:=(hE.call b0).c1;clear hv hok hE;by_cases h40:40<L.length
 ·have F:=hide (show Pl.zb9 L=false by simp [Pl.zb9];omega);go_enter Tryz.func70,Tryz.ntmps70
  go_wp2
  go_region
  go_wp2
  go_ret2
  exact ⟨.inr ⟨za F,rfl⟩,Mem.below_drewN b0 1⟩
 have h41:Pl.zb9 L=Pl.goI [] ⟨#[]⟩ L:=by rw [Pl.zb9,show decide (L.length≤40)=true by simp;omega];rfl
 rw [h41];clear h41;generalize hR:Pl.goI [] ⟨#[]⟩ L=R;have HR:=hide hR;clear hR;go_enter Tryz.func70,Tryz.ntmps70
 go_wp2
 go_loopw [5,17] (fun v i wr=>∃ (k:Nat) (lp:ByteArray),k≤L.length∧i= .int .i64 (k:Int)∧v= .string lp∧lp.size≤200∧Below w.heap.size w wr∧Hid (wr.ownsMap Tryz.prog 9 MapN.elem (w.heap.size+1) k (MapN.mapOf (L.take k)))∧Hid (Pl.Inv (L.take k) lp)∧Hid (R=Pl.goI (L.take k) lp (L.drop k))) (fun _ i _=>L.length - (intOf i).toNat)
 case atStart=>
  refine ⟨0,⟨#[]⟩,Nat.zero_le _,rfl,rfl,Nat.zero_le _,?_,?_,Pl.inv_start,(za HR).symm⟩
  ·exact b0.alloc (by simp) _
  ·have h:=World.ownsMap_made (w.alloc (.cells #[.slice a L.length cap] 50)) Tryz.prog 9 MapN.elem;rw [show (w.alloc (.cells #[.slice a L.length cap] 50)).heap.size=w.heap.size+1 by simp] at h;exact h
 case round=>
  obtain ⟨k,lp,hk,rfl,rfl,hlp,hbel,HM,HI,HR2⟩:=hrel;by_cases hlt:k<L.length
  ·obtain ⟨n,hn⟩:∃n,L[k]? =some n:=⟨_,List.getElem?_eq_getElem hlt⟩;obtain ⟨b,o,rfl,hb,q0,q1,q2,q3,q4⟩:=(Mem.za9 (za HV) hbel) k n hn;have y1:(k:Int)<(L.length:Int):=by omega
   have y3:(0:Int)≤(k:Int):=by omega
   have hBl:=(za HM).lt;have hsn:=za HO n (List.mem_of_getElem? hn);have hnr:=hide (fun W=>WNode.zk6 n W hsn.1 hsn.2);have hls:=hide (fun W=>WLess.less_any lp n.path W (by omega) hsn.1)
   change Hid (∀W,Calls Tryz.prog _ _ W fun e w'=>e= .returned (.bool (Pl.ltP lp n.path))∧_) at hls
   have hpf:=hide (fun W hE hown hC=>fault_any (w.heap.size+1) k (L.take k) n.path W r1 r2 r3 x1 x2 x3 hE hown hC hsn.1);have UG:=hide (Pl.goI_step L (n:=n) (k:=k) hn (L.take k) lp);have HN:=hide hn;have hkey:=MapN.keyOf_mk (p:=n.path) (by have :=hsn.1;unfold maxLen;omega);have zn:=Mem.zg4 wr [.string n.path, .int .i64 n.kind, .string n.data, .int .i64 n.time, .int .i64 n.mark] 42;have bw1:Below wr.heap.size wr (wr.alloc (.cells #[.string n.path, .int .i64 n.kind, .string n.data, .int .i64 n.time, .int .i64 n.mark] 42)):=bE0;have bw2:=hbel.trans (bw1.mono hbel.size);have HM1:=hide (zk8 (za HM) bw1);clear hn HM;simp only [Pl.Nd.val] at hnr;go_wp2_with fail
   refine (za hnr _).mono ?_;rintro e wA ⟨rfl,bA⟩;have znA:=Mem.zn0 zn bA;have bwA:=bw2.trans (bA.mono bw2.size);have HMA:=hide (zk8 (za HM1) bA);have kA:=((za HE).call bwA).c1;clear zn bw1 bw2 bA HM1 q0 q1 q2 q3 q4 hnr;have c0:=znA.2 0 _ rfl;cases hnb:Pl.zb3 n
   ·have F:=hide (show R=false by rw [za HR2,za UG,hnb];rfl);clear hnb;go_wp2
    go_region
    go_wp2
    go_ret2
    exact ⟨.inr ⟨za F,rfl⟩,Mem.below_drewN bwA 1⟩
   have HNB:=hide hnb;clear hnb;go_wp2_with fail
   refine (za hls _).mono ?_;rintro e wB ⟨rfl,bB⟩;have znB:=Mem.zn0 znA bB;have bwB:=bwA.trans (bB.mono bwA.size);have HMB:=hide (zk8 (za HMA) bB);have kB:=((za HE).call bwB).c1;clear znA bwA bB HMA c0 kA hls;have c0:=znB.2 0 _ rfl;cases hlb:Pl.ltP lp n.path
   ·have F:=hide (show R=false by rw [za HR2,za UG,za HNB,hlb];rfl);clear hlb;go_wp2
    go_region
    go_wp2
    go_ret2
    exact ⟨.inr ⟨za F,rfl⟩,Mem.below_drewN bwB 1⟩
   have HLB:=hide hlb;clear hlb;go_wp2_with fail
   refine (za hpf _ ((za HE).call bwB) (za HMB) (Pl.inv_apart (za HI))).mono ?_;rintro e wC ⟨rfl,bC⟩;have znC:=Mem.zn0 znB bC;have bwC:=bwB.trans (bC.mono bwB.size);have HMC:=hide (zk8 (za HMB) bC);have kC:=((za HE).call bwC).c1;clear znB bwB bC HMB c0 kB hpf
   rcases Pl.par_ok (p:=n.path) (u2:=r2) (u3:=r3) (x2:=x2) (x3:=x3) (Pl.inv_apart (za HI)) with ⟨hp1,hp2⟩|⟨hp1,uu,xx,hp2⟩
   rotate_left
   ·have F:=hide (show R=false by rw [za HR2,za UG,za HNB,za HLB,hp1];rfl);rw [hp2];clear hp1 hp2;go_wp2
    go_region
    go_wp2
    go_ret2
    exact ⟨.inr ⟨za F,rfl⟩,Mem.below_drewN bwC 1⟩
   have HR3:=hide (show R=Pl.goI (L.take k++[n]) n.path (L.drop (k+1)) by rw [za HR2,za UG,za HNB,za HLB,hp1];rfl);rw [hp2];clear hp1 hp2;have c0:=znC.2 0 _ rfl;have c1:=znC.2 1 _ rfl;have c2:=znC.2 2 _ rfl;have c3:=znC.2 3 _ rfl;have c4:=znC.2 4 _ rfl;have hzl:=znC.1;have hne:some wr.heap.size≠some (w.heap.size+1):=fun e=>by have :=Option.some.inj e;omega
   go_wp2_with (first |(at_mapUpdate;refine wpList_mapUpdate_own _ rfl _ _ _ 57 rfl 9 42 MapN.law Tryz.underlying57 _ (w.heap.size+1) k _ rfl (za HMC) (by unfold maxLen;omega) _ _ _ rfl rfl hkey _ [] (MapN.elem_mk n) ?_;intro wD hownD hgrowD;have cD:=hgrowD.cell c0 hne;have HOD:=hide hownD;have bwD:=bwC.grown hgrowD bwC.size (fun k hk=>by cases hk;omega);clear hownD hgrowD)|fail)
   have HI2:=hide (Pl.inv_step (za HI) (za HNB) (za HLB));have hnl:=Pl.zf1 (Pl.zi1 (za HNB)).1;have HT:=hide (Pl.take_snoc' L (za HN));go_wp2
   go_roundw
   case rel=>
    refine ⟨k+1,n.path,by omega,by go_num,rfl,hnl,bwD,?_,?_,?_⟩
    ·rw [za HT,MapN.mapOf_snoc];exact HOD
    ·rw [za HT];exact HI2
    ·rw [za HT];exact HR3
   case measure=>simp [intOf];omega
  ·obtain rfl:k=L.length:=by omega
   have F:=hide (show R=true by rw [za HR2,List.drop_length];rfl);rw [List.take_length] at HM;clear HR2;go_wp2
   go_ret2
   exact ⟨.inl ⟨za F,w.heap.size+1,rfl,by omega,(za HM).mono (by omega)⟩,hbel⟩
end zk2
end Go.Proofs.YtpggbphcbcogdaaGreatDoor
