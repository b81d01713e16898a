import Derived.Test.YtpggbphcbcogdaaGreatDoorMemVars
import Derived.Test.YtpggbphcbcogdaaGreatDoorMemNodes
import Derived.Test.YtpggbphcbcogdaaGreatDoorMemBlk
import Derived.Test.YtpggbphcbcogdaaGreatDoorPlainNames
import Derived.Test.YtpggbphcbcogdaaGreatDoorWBase1S
import Derived.Deep.RegionHeld3
import Derived.Lib.OthersKept
import Derived.Laws.RangeAny
import Derived.Deep.Draws
import Derived.Deep.QuietTactic
import Derived.BigQuiet
namespace Go.Proofs.YtpggbphcbcogdaaGreatDoor
open Go.RowKit
namespace zj0
theorem zk5:(Tryz.prog.info? 9).map (fun i=>(i.zero,i.size,i.bytes))=some (some (.string ⟨#[]⟩),1,16):=by kernel_rfl
theorem own_snoc {w:World} {B:Nat} {v:Value} {K:List ByteArray} {t:ByteArray} (h:w.ownsRow B 9 1 v (K.length+1) (K.map Value.string++[.string t])):w.ownsRow B 9 1 v (K++[t]).length ((K++[t]).map Value.string):=by
 rw [List.map_append,List.length_append];exact h
set_option linter.unusedSimpArgs false in
set_option maxRecDepth 100000 in
set_option maxHeartbeats 2000000 in
theorem l03_any (a:Option Addr) (cap:Nat) (L:List Pl.Nd) (p:ByteArray) (w:World) (hl:L.length≤1048576) (hv:Mem.zb5 w a L) (hok:∀n∈L,n.path.size≤1048576∧n.data.size≤1048576):
  Calls Tryz.prog 18 #[.agg #[.slice a L.length cap], .string p] w fun e w'=>∃v,e= .returned v∧w'.ownsRow w.heap.size 9 1 v (Pl.za6 p L).length ((Pl.za6 p L).map Value.string)∧Below w.heap.size w w':=by
 obtain ⟨i0,hi,hz0,hz1,hz2⟩:=info_parts zk5;have HV:=hide hv;have HO:=hide hok;have b0:Below w.heap.size w ((w.alloc (.cells #[.slice a L.length cap] 50)).alloc (.cells #[] 9)):=((Below.refl _ _).alloc (Nat.le_refl _) _).alloc (by simp) _;have V0:=(Mem.Blk.new w #[.slice a L.length cap] 50).alloc (.cells #[] 9)
 have O0:((w.alloc (.cells #[.slice a L.length cap] 50)).alloc (.cells #[] 9)).ownsRow (w.heap.size+1) 9 1 (.slice (some ⟨w.heap.size+1,0,none⟩) 0 0) (Pl.za6 p (L.take 0)).length ((Pl.za6 p (L.take 0)).map Value.string):=
  ⟨rfl, .inr ⟨w.heap.size+1,0,#[],rfl,Nat.le_refl _,Mem.zi9 _ _ _,Nat.le_refl _,Nat.zero_le _,rfl,rfl⟩⟩
 have HB0:=hide b0;have HV0:=hide V0;have HO0:=hide O0;clear hv hok b0 V0 O0;go_enter Tryz.func18,Tryz.ntmps18
 go_wp2
 go_loopw [5,6] (fun v i wr=>∃k:Nat,k≤L.length∧i= .int .i64 (k:Int)∧Hid (Below w.heap.size w wr)∧Hid (Mem.Blk wr w.heap.size #[.slice a L.length cap] 50)∧Hid (wr.ownsRow (w.heap.size+1) 9 1 v (Pl.za6 p (L.take k)).length ((Pl.za6 p (L.take k)).map Value.string))) (fun _ i _=>L.length - (intOf i).toNat)
 case atStart=>exact ⟨0,Nat.zero_le _,rfl,HB0,HV0,HO0⟩
 case round=>
  obtain ⟨k,hk,rfl,HB,HO1,HW⟩:=hrel;clear HB0 HV0 HO0;have c1:=(za HO1).cell 0;simp only [List.getElem?_toArray,List.getElem?_cons_zero] at c1;by_cases hlt:k<L.length
  ·obtain ⟨n,hn⟩:∃n,L[k]? =some n:=⟨_,List.getElem?_eq_getElem hlt⟩;obtain ⟨b,o,rfl,hb,q0,q1,q2,q3,q4⟩:=(Mem.za9 (za HV) (za HB)) k n hn;have y1:(k:Int)<(L.length:Int):=by omega
   have y3:(0:Int)≤(k:Int):=by omega
   have hno:=(za HO n (List.mem_of_getElem? hn)).1;have hpa:=hide (fun W=>ze1.zl2 n.path W (by unfold maxLen;omega));have hba:=hide (fun W=>ze1.base1_any n.path W (by unfold maxLen;omega));have HLEN:=hide (Pl.kids_len p L k);by_cases hk0:Pl.parent n.path=p
   ·have HK:=hide (Pl.kids_in hn hk0);rw [hk0] at hpa;generalize Pl.base n.path=BB at hba HK;clear hn hk0 hno;obtain ⟨qp,qk,qd,qt,qm⟩:=n;simp only at q0 q1 q2 q3 q4 hpa hba;have HSZ:=hide (za HO1).lt;have HLT:=hide ((za HW).lt);go_wp2_with (first |(go_at_call 33;refine (za hpa _).mono ?_;rintro e w' ⟨rfl,hw⟩;obtain rfl:=hw.symm)|(go_at_call 34;refine (za hba _).mono ?_;rintro e w' ⟨rfl,hw⟩;obtain rfl:=hw.symm)|(at_builtin;refine wpList_append_own _ rfl _ _ 24 rfl (w.heap.size+1) 9 i0 (.string ⟨#[]⟩) 1 16 Tryz.underlying24 hi hz0 hz1 hz2 rfl (by decide) _ _ _ rfl ((za HW).alloc _) ⟨wr.heap.size,0,none⟩ 1 1 [.string BB] rfl rfl (Mem.zd0 _ _ _) (fun u hu=>by simp at hu;subst hu;rfl) (by have :=za HLEN;unfold maxLen;omega) (by have :=za HLEN;omega) (by have :=za HSZ;simp;omega) ?_))
    intro v' wZ hownZ hgrow _;have OW:=hide (show wZ.ownsRow (w.heap.size+1) 9 1 v' (Pl.za6 p (L.take (k+1))).length ((Pl.za6 p (L.take (k+1))).map Value.string) by rw [za HK];exact own_snoc hownZ);have BZ:=hide (((za HB).alloc (za HB).size (.cells #[.string BB] 9)).grown hgrow (by have :=(za HB).size;simp;omega) (fun q hq=>by have :=(za HLT q hq).1;omega));have VZ:=hide (((za HO1).alloc (.cells #[.string BB] 9)).grown hgrow (fun e=>by have :=(za HLT _ e.symm).1;omega));clear hownZ hgrow HB HO1 HW hpa hba q0 q1 q2 q3 q4;go_wp2
    go_roundw
    case rel=>exact ⟨k+1,by omega,by go_num,BZ,VZ,OW⟩
    case measure=>simp [intOf];omega
   ·have HK:=hide (Pl.kids_out hn hk0);have t1:=tl_eq hk0;generalize Pl.parent n.path=PP at hpa t1;clear hn hk0 hno hba;obtain ⟨qp,qk,qd,qt,qm⟩:=n;simp only at q0 q1 q2 q3 q4 hpa;rw [←za HK] at HW;go_wp2_with (go_at_call 33;refine (za hpa _).mono ?_;rintro e w' ⟨rfl,hw⟩;obtain rfl:=hw.symm)
    go_roundw
    case rel=>exact ⟨k+1,by omega,by go_num,HB,HO1,HW⟩
    case measure=>simp [intOf];omega
  ·obtain rfl:k=L.length:=by omega
   rw [List.take_length] at HW;have y1:¬ ((L.length:Int)<(L.length:Int)):=by omega
   go_wp2
   go_ret
   exact ⟨_,rfl,Mem.zf9 (za HW) (by omega),za HB⟩
end zj0
end Go.Proofs.YtpggbphcbcogdaaGreatDoor
