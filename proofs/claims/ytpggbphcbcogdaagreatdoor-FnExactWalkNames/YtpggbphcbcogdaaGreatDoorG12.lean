/- Several texts of one claim in one file: MemNodes, WParS, WBase1S, WNames3, TakeC. -/
import Derived.Test.YtpggbphcbcogdaaGreatDoorG05
namespace Go.Proofs.YtpggbphcbcogdaaGreatDoor
section
open Go.RowKit
namespace Mem
def zb5 (w:World) (a:Option Addr) (L:List Pl.Nd):Prop:=
 ∀ (i:Nat) n,L[i]? =some n→∃b o,a=some ⟨b,o,none⟩∧b<w.heap.size∧
  w.cell? ⟨b,o+i*5,none⟩=some (.string n.path)∧w.cell? ⟨b,o+i*5+1,none⟩=some (.int .i64 n.kind)∧w.cell? ⟨b,o+i*5+2,none⟩=some (.string n.data)∧
  w.cell? ⟨b,o+i*5+3,none⟩=some (.int .i64 n.time)∧w.cell? ⟨b,o+i*5+4,none⟩=some (.int .i64 n.mark)
theorem za9 {w w':World} {a:Option Addr} {L:List Pl.Nd} (h:zb5 w a L) (b:Below w.heap.size w w'):zb5 w' a L:=fun i n hi=>by
 obtain ⟨g,o,h1,h2,h3,h4,h5,h6,h7⟩:=h i n hi;exact ⟨g,o,h1,Nat.lt_of_lt_of_le h2 b.size,(b.cell (p:=⟨g,_,none⟩) h2).trans h3,(b.cell (p:=⟨g,_,none⟩) h2).trans h4,(b.cell (p:=⟨g,_,none⟩) h2).trans h5,(b.cell (p:=⟨g,_,none⟩) h2).trans h6,(b.cell (p:=⟨g,_,none⟩) h2).trans h7⟩
theorem zm1 (b o j:Nat):(⟨b,o,none⟩:Addr).add j=⟨b,o+j,none⟩:=by unfold Addr.add;split <;> simp_all
theorem nodes_nil (w:World) (a:Option Addr):zb5 w a []:=fun i n hi=>by simp at hi
end Mem
end
section
open Go.RowKit
namespace ze1

set_option maxHeartbeats 400000 in
theorem cut_any (s:ByteArray) (w:World) (hs:s.size≤maxLen):
  Calls Tryz.prog 50 #[.string s] w fun e w'=>e= .returned (.int .i64 (Pl.zc1 s s.size))∧w'=w:=by
 unfold maxLen at hs;go_enter Tryz.func50,Tryz.ntmps50
 go_wp2
 go_loop [3,4] (fun x i=>∃k:Nat,k≤s.size∧i= .int .i64 (k:Int)∧x= .int .i64 (Pl.zc1 s k)) (fun _ i=>s.size - (intOf i).toNat)
 case atStart=>exact ⟨0,Nat.zero_le _,rfl,rfl⟩
 case round=>
  obtain ⟨k,hk,rfl,rfl⟩:=hrel;by_cases hlt:k<s.size
  ·by_cases hb:s[k].toNat=47
   ·have H:=hide (Pl.slash_hit hlt hb);have t1:((s[k].toNat:Int)==47)=true:=by rw [beq_iff_eq];omega
    clear hb;go_wp2
    go_round
    case rel=>exact ⟨k+1,by omega,by go_num,by rw [za H]⟩
    case measure=>simp [intOf];omega
   ·have H:=hide (Pl.zx8 hlt hb);have t1:((s[k].toNat:Int)==47)=false:=by rw [beq_eq_false_iff_ne];omega
    clear hb;go_wp2
    go_round
    case rel=>exact ⟨k+1,by omega,by go_num,by rw [za H]⟩
    case measure=>simp [intOf];omega
  ·obtain rfl:k=s.size:=by omega
   go_wp2
   go_ret
   exact ⟨rfl,rfl⟩

theorem zl2 (s:ByteArray) (w:World) (hs:s.size≤maxLen):
  Calls Tryz.prog 33 #[.string s] w fun e w'=>e= .returned (.string (Pl.parent s))∧w'=w:=by
 have hb:=Pl.slash_lt s s.size;have hc:=hide (cut_any s w hs);unfold maxLen at hs;have E0:Hid (Pl.zc1 s s.size<0→Pl.parent s=⟨#[]⟩):=fun h=>if_pos h;have E1:Hid (¬Pl.zc1 s s.size<0→Pl.parent s=s.extract 0 (Pl.zc1 s s.size).toNat):=fun h=>if_neg h;generalize Pl.zc1 s s.size=k at hc hb E0 E1;by_cases h:k<0
 ·have E:=hide (E0.out h);clear E0 E1;go_enter Tryz.func33,Tryz.ntmps33
  go_wp2_with (go_at_call 50;refine (za hc).mono ?_;rintro e w' ⟨rfl,hw⟩;obtain rfl:=hw.symm)
  go_ret
  exact ⟨zp0 (za E).symm,rfl⟩
 ·have E:=hide (E1.out h);have t1:0≤k:=by omega
  have t2:k≤(s.size:Int):=by omega
  clear E0 E1;go_enter Tryz.func33,Tryz.ntmps33
  go_wp2_with (go_at_call 50;refine (za hc).mono ?_;rintro e w' ⟨rfl,hw⟩;obtain rfl:=hw.symm)
  go_ret
  exact ⟨zp0 (za E).symm,rfl⟩
end ze1
end
section
open Go.RowKit
namespace ze1
theorem base1_any (s:ByteArray) (w:World) (hs:s.size≤maxLen):
  Calls Tryz.prog 34 #[.string s] w fun e w'=>e= .returned (.string (Pl.base s))∧w'=w:=by
 have hb:=Pl.slash_lt s s.size;have hc:=hide (fun W=>cut_any s W hs);unfold maxLen at hs;have E:Hid (Pl.base s=s.extract (Pl.zc1 s s.size+1).toNat s.size):=rfl;generalize Pl.base s=R at E ⊢;generalize Pl.zc1 s s.size=k at hc hb E;have t1:0≤k+1:=by omega
 have t2:k+1≤(s.size:Int):=by omega
 go_enter Tryz.func34,Tryz.ntmps34
 go_wp2_with (go_at_call 50;refine (za hc _).mono ?_;rintro e w' ⟨rfl,hw⟩;obtain rfl:=hw.symm)
 go_ret
 exact ⟨zp0 (za E).symm,rfl⟩
end ze1
end
section
open Go.RowKit
namespace zj0
theorem zk5:(Tryz.prog.info? 9).map (fun i=>(i.zero,i.size,i.bytes))=some (some (.string ⟨#[]⟩),1,16):=by kernel_rfl
theorem own_snoc {w:World} {B:Nat} {v:Value} {K:List ByteArray} {t:ByteArray} (h:w.ownsRow B 9 1 v (K.length+1) (K.map Value.string++[.string t])):w.ownsRow B 9 1 v (K++[t]).length ((K++[t]).map Value.string):=by
 rw [List.map_append,List.length_append];exact h
set_option linter.unusedSimpArgs false in
set_option maxRecDepth 100000 in
set_option maxHeartbeats 2000000 in
theorem l03_any (a:Option Addr) (cap:Nat) (L:List Pl.Nd) (p:ByteArray) (w:World) (hl:L.length≤1048576) (hv:Mem.zb5 w a L) (hok:∀n∈L,n.path.size≤1048576∧n.data.size≤1048576):
  Calls Tryz.prog 18 #[.agg #[.slice a L.length cap], .string p] w fun e w'=>∃v,e= .returned v∧w'.ownsRow w.heap.size 9 1 v (Pl.za6 p L).length ((Pl.za6 p L).map Value.string)∧Below w.heap.size w w':=by
 obtain ⟨i0,hi,hz0,hz1,hz2⟩:=info_parts zk5;have HV:=hide hv;have HO:=hide hok;have b0:Below w.heap.size w ((w.alloc (.cells #[.slice a L.length cap] 50)).alloc (.cells #[] 9)):=((Below.refl _ _).alloc (Nat.le_refl _) _).alloc (by simp) _;have V0:=(Mem.Blk.new w #[.slice a L.length cap] 50).alloc (.cells #[] 9)
 have O0:((w.alloc (.cells #[.slice a L.length cap] 50)).alloc (.cells #[] 9)).ownsRow (w.heap.size+1) 9 1 (.slice (some ⟨w.heap.size+1,0,none⟩) 0 0) (Pl.za6 p (L.take 0)).length ((Pl.za6 p (L.take 0)).map Value.string):=
  ⟨rfl, .inr ⟨w.heap.size+1,0,#[],rfl,Nat.le_refl _,Mem.zi9 _ _ _,Nat.le_refl _,Nat.zero_le _,rfl,rfl⟩⟩
 have HB0:=hide b0;have HV0:=hide V0;have HO0:=hide O0;clear hv hok b0 V0 O0;go_enter Tryz.func18,Tryz.ntmps18
 go_wp2
 go_loopw [5,6] (fun v i wr=>∃k:Nat,k≤L.length∧i= .int .i64 (k:Int)∧Hid (Below w.heap.size w wr)∧Hid (Mem.Blk wr w.heap.size #[.slice a L.length cap] 50)∧Hid (wr.ownsRow (w.heap.size+1) 9 1 v (Pl.za6 p (L.take k)).length ((Pl.za6 p (L.take k)).map Value.string))) (fun _ i _=>L.length - (intOf i).toNat)
 case atStart=>exact ⟨0,Nat.zero_le _,rfl,HB0,HV0,HO0⟩
 case round=>
  obtain ⟨k,hk,rfl,HB,HO1,HW⟩:=hrel;clear HB0 HV0 HO0;have c1:=(za HO1).cell 0;simp only [kA0,kA1] at c1;by_cases hlt:k<L.length
  ·obtain ⟨n,hn⟩:∃n,L[k]? =some n:=⟨_,List.getElem?_eq_getElem hlt⟩;obtain ⟨b,o,rfl,hb,q0,q1,q2,q3,q4⟩:=(Mem.za9 (za HV) (za HB)) k n hn;have y1:(k:Int)<(L.length:Int):=by omega
   have y3:(0:Int)≤(k:Int):=by omega
   have hno:=(za HO n (List.mem_of_getElem? hn)).1;have hpa:=hide (fun W=>ze1.zl2 n.path W (by unfold maxLen;omega));have hba:=hide (fun W=>ze1.base1_any n.path W (by unfold maxLen;omega));have HLEN:=hide (Pl.kids_len p L k);by_cases hk0:Pl.parent n.path=p
   ·have HK:=hide (Pl.kids_in hn hk0);rw [hk0] at hpa;generalize Pl.base n.path=BB at hba HK;clear hn hk0 hno;obtain ⟨qp,qk,qd,qt,qm⟩:=n;simp only at q0 q1 q2 q3 q4 hpa hba;have HSZ:=hide (za HO1).lt;have HLT:=hide ((za HW).lt);go_wp2_with (first |(go_at_call 33;refine (za hpa _).mono ?_;rintro e w' ⟨rfl,hw⟩;obtain rfl:=hw.symm)|(go_at_call 34;refine (za hba _).mono ?_;rintro e w' ⟨rfl,hw⟩;obtain rfl:=hw.symm)|(at_builtin;refine wpList_append_own _ rfl _ _ 24 rfl (w.heap.size+1) 9 i0 (.string ⟨#[]⟩) 1 16 Tryz.underlying24 hi hz0 hz1 hz2 rfl (by decide) _ _ _ rfl ((za HW).alloc _) ⟨wr.heap.size,0,none⟩ 1 1 [.string BB] rfl rfl (Mem.zd0 _ _ _) (fun u hu=>by simp at hu;subst hu;rfl) (by have :=za HLEN;unfold maxLen;omega) (by have :=za HLEN;omega) (by have :=za HSZ;simp;omega) ?_))
    intro v' wZ hownZ hgrow _;have OW:=hide (show wZ.ownsRow (w.heap.size+1) 9 1 v' (Pl.za6 p (L.take (k+1))).length ((Pl.za6 p (L.take (k+1))).map Value.string) by rw [za HK];exact own_snoc hownZ);have BZ:=hide (((za HB).alloc (za HB).size (.cells #[.string BB] 9)).grown hgrow (by have :=(za HB).size;simp;omega) (fun q hq=>by have :=(za HLT q hq).1;omega));have VZ:=hide (((za HO1).alloc (.cells #[.string BB] 9)).grown hgrow (fun e=>by have :=(za HLT _ e.symm).1;omega));clear hownZ hgrow HB HO1 HW hpa hba q0 q1 q2 q3 q4;go_wp2
    go_roundw
    case rel=>exact ⟨k+1,by omega,by go_num,BZ,VZ,OW⟩
    case measure=>simp [intOf];omega
   ·have HK:=hide (Pl.kids_out hn hk0);have t1:=tl_eq hk0;generalize Pl.parent n.path=PP at hpa t1;clear hn hk0 hno hba;obtain ⟨qp,qk,qd,qt,qm⟩:=n;simp only at q0 q1 q2 q3 q4 hpa;rw [←za HK] at HW;go_wp2_with (go_at_call 33;refine (za hpa _).mono ?_;rintro e w' ⟨rfl,hw⟩;obtain rfl:=hw.symm)
    go_roundw
    case rel=>exact ⟨k+1,by omega,by go_num,HB,HO1,HW⟩
    case measure=>simp [intOf];omega
  ·obtain rfl:k=L.length:=by omega
   rw [List.take_length] at HW;have y1:¬ ((L.length:Int)<(L.length:Int)):=by omega
   go_wp2
   go_ret
   exact ⟨_,rfl,Mem.zf9 (za HW) (by omega),za HB⟩
end zj0
end
section
open Go.RowKit
theorem bE0 {w:World} {o:Obj}:Below w.heap.size w (w.alloc o):=(Below.refl _ _).alloc (Nat.le_refl _) _
theorem jc2 {w:World} {X:Nat} {v0 v1:Value} {l:List Value} {T:TypeId} (h:Mem.Blk w X (v0::v1::l).toArray T):w.cell? ⟨X,0,none⟩=some v0∧w.cell? ⟨X,1,none⟩=some v1:=⟨(h.cell 0).trans rfl,(h.cell 1).trans rfl⟩
theorem jf2 {w:World} {X:Nat} {v0 v1:Value} {l:List Value} {T:TypeId} (h:Mem.Blk w X (v0::v1::l).toArray T):(w.cell? ⟨X,0,none⟩=some v0∧w.cell? ⟨X,1,none⟩=some v1)∧w.frozen? ⟨X,0,none⟩=false∧w.frozen? ⟨X,1,none⟩=false:=⟨jc2 h,h.fr 0,h.fr 1⟩
theorem jc3 {w:World} {X:Nat} {v0 v1 v2:Value} {l:List Value} {T:TypeId} (h:Mem.Blk w X (v0::v1::v2::l).toArray T):w.cell? ⟨X,0,none⟩=some v0∧w.cell? ⟨X,1,none⟩=some v1∧w.cell? ⟨X,2,none⟩=some v2:=⟨(h.cell 0).trans rfl,(h.cell 1).trans rfl,(h.cell 2).trans rfl⟩
theorem jf3 {w:World} {X:Nat} {v0 v1 v2:Value} {l:List Value} {T:TypeId} (h:Mem.Blk w X (v0::v1::v2::l).toArray T):(w.cell? ⟨X,0,none⟩=some v0∧w.cell? ⟨X,1,none⟩=some v1∧w.cell? ⟨X,2,none⟩=some v2)∧w.frozen? ⟨X,0,none⟩=false∧w.frozen? ⟨X,1,none⟩=false∧w.frozen? ⟨X,2,none⟩=false:=⟨jc3 h,h.fr 0,h.fr 1,h.fr 2⟩
theorem jc5 {w:World} {X:Nat} {v0 v1 v2 v3 v4:Value} {l:List Value} {T:TypeId} (h:Mem.Blk w X (v0::v1::v2::v3::v4::l).toArray T):w.cell? ⟨X,0,none⟩=some v0∧w.cell? ⟨X,1,none⟩=some v1∧w.cell? ⟨X,2,none⟩=some v2∧w.cell? ⟨X,3,none⟩=some v3∧w.cell? ⟨X,4,none⟩=some v4:=⟨(h.cell 0).trans rfl,(h.cell 1).trans rfl,(h.cell 2).trans rfl,(h.cell 3).trans rfl,(h.cell 4).trans rfl⟩
theorem jf5 {w:World} {X:Nat} {v0 v1 v2 v3 v4:Value} {l:List Value} {T:TypeId} (h:Mem.Blk w X (v0::v1::v2::v3::v4::l).toArray T):(w.cell? ⟨X,0,none⟩=some v0∧w.cell? ⟨X,1,none⟩=some v1∧w.cell? ⟨X,2,none⟩=some v2∧w.cell? ⟨X,3,none⟩=some v3∧w.cell? ⟨X,4,none⟩=some v4)∧w.frozen? ⟨X,0,none⟩=false∧w.frozen? ⟨X,1,none⟩=false∧w.frozen? ⟨X,2,none⟩=false∧w.frozen? ⟨X,3,none⟩=false∧w.frozen? ⟨X,4,none⟩=false:=⟨jc5 h,h.fr 0,h.fr 1,h.fr 2,h.fr 3,h.fr 4⟩
theorem jc6 {w:World} {X:Nat} {v0 v1 v2 v3 v4 v5:Value} {l:List Value} {T:TypeId} (h:Mem.Blk w X (v0::v1::v2::v3::v4::v5::l).toArray T):w.cell? ⟨X,0,none⟩=some v0∧w.cell? ⟨X,1,none⟩=some v1∧w.cell? ⟨X,2,none⟩=some v2∧w.cell? ⟨X,3,none⟩=some v3∧w.cell? ⟨X,4,none⟩=some v4∧w.cell? ⟨X,5,none⟩=some v5:=⟨(h.cell 0).trans rfl,(h.cell 1).trans rfl,(h.cell 2).trans rfl,(h.cell 3).trans rfl,(h.cell 4).trans rfl,(h.cell 5).trans rfl⟩
theorem jf6 {w:World} {X:Nat} {v0 v1 v2 v3 v4 v5:Value} {l:List Value} {T:TypeId} (h:Mem.Blk w X (v0::v1::v2::v3::v4::v5::l).toArray T):(w.cell? ⟨X,0,none⟩=some v0∧w.cell? ⟨X,1,none⟩=some v1∧w.cell? ⟨X,2,none⟩=some v2∧w.cell? ⟨X,3,none⟩=some v3∧w.cell? ⟨X,4,none⟩=some v4∧w.cell? ⟨X,5,none⟩=some v5)∧w.frozen? ⟨X,0,none⟩=false∧w.frozen? ⟨X,1,none⟩=false∧w.frozen? ⟨X,2,none⟩=false∧w.frozen? ⟨X,3,none⟩=false∧w.frozen? ⟨X,4,none⟩=false∧w.frozen? ⟨X,5,none⟩=false:=⟨jc6 h,h.fr 0,h.fr 1,h.fr 2,h.fr 3,h.fr 4,h.fr 5⟩
end
end Go.Proofs.YtpggbphcbcogdaaGreatDoor
