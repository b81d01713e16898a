/- Several texts of one claim in one file: WRightI, WSplit, WPathS, WSpecR, WL07, WSpI4, WSpI1, WSpI5, WInfo3, WSpI6. -/
import Derived.Test.YtgdjjncmocppeaaGreatDoorG21
import Derived.Test.YtgdjjncmocppeaaGreatDoorG05
import Derived.Deep.Cut
import Derived.Test.YtgdjjncmocppeaaGreatDoorG13
namespace Go.Proofs.YtgdjjncmocppeaaGreatDoor
section
open Go.RowKit
namespace zk2
theorem zg7 (s:ByteArray) (w:World) (hs:s.size≤1048576):
  Calls Tryz.prog 83 #[.string s] w fun e w'=>e= .returned (.bool (Pl.za0 s))∧Below w.heap.size w w':=by
 go_enter Tryz.func83,Tryz.ntmps83
 go_wp2_with fail
 refine (zx7.any s _ hs).mono ?_;rintro e w1 ⟨v,rfl,hown,hb⟩;clear hown;go_wp2
 go_ret
 exact ⟨rfl,hb⟩
end zk2
end
section
open Go.RowKit
namespace WSplit
theorem infoS:(Tryz.prog.info? 9).map (fun i=>(i.zero,i.size,i.bytes))=some (some (.string ⟨#[]⟩),1,16):=by kernel_rfl

set_option maxRecDepth 100000 in
set_option maxHeartbeats 400000 in
theorem split_any (s:ByteArray) (b:Nat) (w:World) (hs:s.size≤1048576):
  Calls Tryz.prog 107 #[.string s, .int .u8 (b:Int)] w fun e w'=>∃v,e= .returned v∧
   w'.ownsRow w.heap.size 9 1 v (Pl.cut s b).length ((Pl.cut s b).map Value.string)∧Below w.heap.size w w':=by
 obtain ⟨i0,hi,hz0,hz1,hz2⟩:=info_parts infoS;go_enter Tryz.func107,Tryz.ntmps107
 go_wp2
 go_loopw [5,6,7] (fun v x i wr=>∃ (k fr:Nat) (L:List ByteArray),k≤s.size∧fr≤k∧L.length≤k∧i= .int .i64 (k:Int)∧x= .int .i64 (fr:Int)∧
   wr.ownsRow w.heap.size 9 1 v L.length (L.map Value.string)∧Below w.heap.size w wr∧Hid (Pl.cut s b=L++Pl.cutF s b (s.size - k) fr k)) (fun _ _ i _=>s.size - (intOf i).toNat)
 case atStart=>exact ⟨0,0,[],by omega,by omega,by simp,rfl,rfl,World.ownsRow_made _ _ 0 (Nat.le_refl _) (Nat.zero_le _) rfl,(Below.refl _ _).alloc (Nat.le_refl _) _,rfl⟩
 case round=>
  obtain ⟨k,fr,L,hk,hfr,hL,rfl,rfl,hown,hbel,H⟩:=hrel;have hb1:=hbel.size;by_cases hlt:k<s.size
  ·have hf:s.size - k=s.size - (k+1)+1:=by omega
   have t1:(0:Int)≤(fr:Int):=by omega
   have t2:(fr:Int)≤(k:Int):=by omega
   have t3:(k:Int)≤(s.size:Int):=by omega
   by_cases hq:s[k].toNat=b
   ·have H2:Hid (Pl.cut s b=(L++[s.extract fr k])++Pl.cutF s b (s.size - (k+1)) (k+1) (k+1)):=by
     show _=_;rw [H.out,hf,Pl.cutF_hit hlt hq];simp
    have t4:((s[k].toNat:Int)==(b:Int))=true:=by rw [beq_iff_eq];omega
    clear H hf hq;go_wp2_with (at_builtin;refine wpList_append_own _ rfl _ _ 33 rfl w.heap.size 9 i0 (.string ⟨#[]⟩) 1 16 Tryz.underlying33 hi hz0 hz1 hz2 rfl (by decide) _ _ _ rfl (hown.alloc _) ⟨wr.heap.size,0,none⟩ 1 1 [.string (s.extract fr k)] rfl rfl ?c1 ?c2 ?c3 ?c4 ?c5 ?_)
    case c1=>exact Mem.zg3 _ _ _
    case c2=>intro u hu;simp at hu;subst hu;rfl
    case c3=>unfold maxLen;omega
    case c4=>omega
    case c5=>simp;omega
    ·intro v' w2 hown' hgrow _;have hbel':=Mem.zg hbel (Nat.le_refl _) hown hgrow;have hown2:w2.ownsRow w.heap.size 9 1 v' (L++[s.extract fr k]).length ((L++[s.extract fr k]).map Value.string):=by simpa using hown'
     clear hgrow hown hbel hown' t4;go_wp2
     go_roundw
     case rel=>exact ⟨k+1,k+1,L++[s.extract fr k],by omega,by omega,by simp;omega,by go_num,by go_num,hown2,hbel',H2⟩
     case measure=>simp [intOf];omega
   ·have H2:Hid (Pl.cut s b=L++Pl.cutF s b (s.size - (k+1)) fr (k+1)):=by
     show _=_;rw [H.out,hf,Pl.yb0 hlt hq]
    have t4:((s[k].toNat:Int)==(b:Int))=false:=by rw [beq_eq_false_iff_ne];omega
    clear H hf hq;go_wp2
    go_roundw
    case rel=>exact ⟨k+1,fr,L,by omega,by omega,by omega,by go_num,rfl,hown,hbel,H2⟩
    case measure=>simp [intOf];omega
  ·obtain rfl:k=s.size:=by omega
   have H2:Hid (Pl.cut s b=L++[s.extract fr s.size]):=by
    show _=_;rw [H.out,Nat.sub_self];rfl
   have t1:(0:Int)≤(fr:Int):=by omega
   have t2:(fr:Int)≤(s.size:Int):=by omega
   clear H;go_wp2_with (at_builtin;refine wpList_append_own _ rfl _ _ 33 rfl w.heap.size 9 i0 (.string ⟨#[]⟩) 1 16 Tryz.underlying33 hi hz0 hz1 hz2 rfl (by decide) _ _ _ rfl (hown.alloc _) ⟨wr.heap.size,0,none⟩ 1 1 [.string (s.extract fr s.size)] rfl rfl ?c1 ?c2 ?c3 ?c4 ?c5 ?_)
   case c1=>exact Mem.zg3 _ _ _
   case c2=>intro u hu;simp at hu;subst hu;rfl
   case c3=>unfold maxLen;omega
   case c4=>omega
   case c5=>simp;omega
   ·intro v' w2 hown' hgrow _;have hbel':=Mem.zg hbel (Nat.le_refl _) hown hgrow;have hown2:w2.ownsRow w.heap.size 9 1 v' (Pl.cut s b).length ((Pl.cut s b).map Value.string):=by rw [H2.out];simpa using hown'
    clear hgrow hown hbel hown';go_wp2
    go_ret
    exact ⟨_,rfl,hown2,hbel'⟩
end WSplit
end
section
open Go.RowKit
namespace ze2

theorem zv7 (s:ByteArray) (w:World) (hs:s.size≤1048576):
  Calls Tryz.prog 75 #[.string s] w fun e w'=>∃v,e= .returned v∧
   w'.ownsRow w.heap.size 9 1 v (Pl.names s).length ((Pl.names s).map Value.string)∧Below w.heap.size w w':=by
 by_cases h0:s.size=0
 ·have E:Hid (Pl.names s=[]):=if_pos h0;obtain rfl:s=⟨#[]⟩:=by apply ByteArray.ext;exact Array.eq_empty_of_size_eq_zero h0
  go_enter Tryz.func75,Tryz.ntmps75
  go_wp2
  go_ret
  refine ⟨_,rfl,?_,(Below.refl _ _).alloc (Nat.le_refl _) _⟩;rw [E.out];exact World.ownsRow_made _ _ 0 (Nat.le_refl _) (Nat.zero_le _) rfl
 ·have E:Hid (Pl.names s=Pl.cut s 47):=if_neg h0
  have t0:s.toList.isEmpty=false:=by
   rw [List.isEmpty_eq_false_iff,ByteArray.toList_eq];intro h;have h1:s.data.toList.length=0:=by rw [h];rfl
   rw [Array.length_toList] at h1;exact h0 h1
  go_enter Tryz.func75,Tryz.ntmps75
  go_wp2_with fail
  refine (WSplit.split_any s 47 _ hs).mono ?_;rintro e w1 ⟨v,rfl,hown,hb⟩;have HO:=hide hown;clear hown;go_wp2
  go_ret
  exact ⟨_,rfl,by rw [E.out];exact za HO,hb⟩

set_option maxRecDepth 100000 in
set_option maxHeartbeats 400000 in
theorem zg7 (s:ByteArray) (w:World) (hs:s.size≤maxLen):
  Calls Tryz.prog 47 #[.string s] w fun e w'=>e= .returned (.bool (Pl.za0 s))∧Below w.heap.size w w':=by
 unfold maxLen at hs;by_cases h2:200<s.size
 ·have E:=hide (Pl.zn7 h2);go_enter Tryz.func47,Tryz.ntmps47
  go_wp2
  go_ret
  exact ⟨za1 (za E).symm,Below.refl _ _⟩
 have hlen:=Pl.zu8 s
 have HSZ:Hid (∀ (k:Nat) t,(Pl.names s)[k]? =some t→t.size≤maxLen):=fun k t ht=>by
  have :=Pl.names_size ht;unfold maxLen;omega
 have HBAD:Hid (∀ (k:Nat) t,(Pl.names s)[k]? =some t→Pl.zc0 t=false→Pl.za0 s=false):=fun k t ht hb=>Pl.pathB_bad ht hb;have HGOOD:Hid ((∀ (j:Nat) t,(Pl.names s)[j]? =some t→Pl.zc0 t=true)→Pl.za0 s=decide ((Pl.names s).length≤6)):=fun h=>Pl.pathB_good (by omega) h;have hn:=hide (zv7 s w (by omega));generalize Pl.names s=L at hn hlen HSZ HBAD HGOOD;go_enter Tryz.func47,Tryz.ntmps47
 go_wp2_with fail
 refine (za hn).mono ?_;rintro e w1 ⟨v,rfl,hown,hbel⟩
 rcases hown.2 with ⟨rfl,h0⟩|⟨g,cap,cur,rfl,hgb,hg,hcap,hm,hsz,htk⟩
 ·obtain rfl:L=[]:=List.eq_nil_of_length_eq_zero h0;have E:=hide (HGOOD.out (fun j t h=>by simp at h));clear hown hn HGOOD HBAD HSZ;go_wp2
  go_loop [4] (fun i=>i= .int .i64 0) (fun _=>0)
  case atStart=>rfl
  case round=>
   subst hrel;go_wp2
   go_ret
   exact ⟨za1 (by rw [za E];rfl),hbel⟩
 ·have hcell:∀ (k:Nat) t,L[k]? =some t→w1.cell? ⟨g,k,none⟩=some (.string t):=by
   intro k t ht;have hk:=(List.getElem?_eq_some_iff.1 ht).1;rw [cell_of_row w1 g k cur 9 (0,0) hg];have h1:(cur.toList.take (L.length*1))[k]? =(L.map Value.string)[k]?:=by rw [htk]
   rw [List.getElem?_take_of_lt (by omega),List.getElem?_map,ht] at h1
   simpa using h1
  have HC:=hide hcell;clear hcell hown hn hg htk hsz;have hm2:=hm;unfold maxLen at hm2;go_wp2
  go_loop [4] (fun i=>∃k:Nat,k≤L.length∧i= .int .i64 (k:Int)∧Hid (∀ (j:Nat) t,j<k→L[j]? =some t→Pl.zc0 t=true)) (fun i=>L.length - (intOf i).toNat)
  case atStart=>exact ⟨0,Nat.zero_le _,rfl,fun j t h=>absurd h (by omega)⟩
  case round=>
   obtain ⟨k,hk,rfl,HA⟩:=hrel;by_cases hlt:k<L.length
   ·obtain ⟨t,ht⟩:∃t,L[k]? =some t:=⟨_,List.getElem?_eq_getElem hlt⟩;have hc:=HC.out k t ht;have hts:=HSZ.out k t ht;cases hb:Pl.zc0 t
    ·have E:=hide (HBAD.out k t ht hb);have HB:=hide hb;clear ht hb;go_wp2_with (go_at_call 76;refine (WName.zz3 t _ hts).mono ?_;rw [za HB];rintro e w' ⟨rfl,hw⟩;obtain rfl:=hw.symm)
     go_ret
     exact ⟨za1 (za E).symm,hbel⟩
    ·have HB:=hide hb
     have HA2:Hid (∀ (j:Nat) t,j<k+1→L[j]? =some t→Pl.zc0 t=true):=fun j t' hj h'=>by
      rcases Nat.lt_succ_iff_lt_or_eq.1 hj with h''|rfl
      ·exact HA.out j t' h'' h'
      ·rw [ht] at h';cases h';exact hb
     clear ht hb HA;go_wp2_with (go_at_call 76;refine (WName.zz3 t _ hts).mono ?_;rw [za HB];rintro e w' ⟨rfl,hw⟩;obtain rfl:=hw.symm)
     go_round
     case rel=>exact ⟨k+1,by omega,by go_num,HA2⟩
     case measure=>simp [intOf];omega
   ·have E:=hide (HGOOD.out (fun j t h=>HA.out j t (by have :=(List.getElem?_eq_some_iff.1 h).1;omega) h));clear HA;by_cases h6:L.length≤6
    ·have t6:(L.length:Int)≤6:=by omega
     go_wp2
     go_ret
     exact ⟨za1 (by rw [za E];simp [h6]),hbel⟩
    ·have t6:¬ (L.length:Int)≤6:=by omega
     go_wp2
     go_ret
     exact ⟨za1 (by rw [za E];simp [h6]),hbel⟩
end ze2
end
section
open Go.RowKit
namespace ze2
theorem zv3 (s:ByteArray) (w:World) (hs:s.size≤1048576):
  Calls Tryz.prog 47 #[.string s] w fun e w'=>e= .returned (.bool (Pl.za0 s))∧Below w.heap.size w w':=zg7 s w (by unfold maxLen;omega)
end ze2
end
section
open Go.RowKit
namespace Pl
def wayB (p:ByteArray):Bool:=decide (p.size≠0)&&za0 p
end Pl
namespace WPanic
set_option linter.unusedSimpArgs false in
set_option maxRecDepth 100000 in
theorem l07path_any (p:ByteArray) (w:World) (hp:p.size≤1048576):
  Calls Tryz.prog 94 #[.string p] w fun e w'=>e= .returned (.bool (Pl.wayB p))∧Below w.heap.size w w':=by
 have hr:=hide (fun W=>ze2.zv3 p W hp);by_cases hs:p.size=0
 ·have t1:p.toList.isEmpty=true:=by rw [Pl.zb3];simpa [Pl.ze8] using hs
  rw [show Pl.wayB p=false by simp [Pl.wayB,hs]];go_enter Tryz.func94,Tryz.ntmps94
  go_wp2
  go_ret
  exact ⟨rfl,Below.refl _ _⟩
 ·have t1:p.toList.isEmpty=false:=by rw [Pl.zb3];simpa [Pl.ze8] using hs
  rw [show Pl.wayB p=Pl.za0 p by simp [Pl.wayB,hs]];go_enter Tryz.func94,Tryz.ntmps94
  go_wp2_with fail
  refine (za hr _).mono ?_;rintro e w1 ⟨rfl,b1⟩;go_wp2
  go_ret
  exact ⟨rfl,b1⟩
end WPanic
end
section
open Go.RowKit Go.Maps
namespace WSpI
set_option linter.unusedSimpArgs false in
set_option maxRecDepth 100000 in
set_option maxHeartbeats 4000000 in
theorem hands_any (q:Nat) (E:List (Int × Pl.Nv)) (n:Nat) (ma:Option Addr) (ml mc:Nat) (ha:Option Addr) (hc:Nat) (H:List Pl.Hn) (next :Int) (w:World) (hl:H.length≤1048576) (hh:Mem.zd3 w ha H) (hP:∀m∈H,m.p.size≤1048576∧MapI.i64 m.i)
  (hE:E.Pairwise (fun a b=>a.1≠b.1)) (hown:w.ownsMap Tryz.prog 2 MapI.elem q n (MapI.mapOf (Pl.vals E))):
  Calls Tryz.prog 102 #[.agg #[.map (some q), .slice ma ml mc, .slice ha H.length hc, .int .i64 next]] w fun e w'=>e= .returned (.bool (Pl.zu0 (E.map (·.1)) next Pl.wayB H))∧Below w.heap.size w w':=by
 have HL:=hide (fun d=>Pl.zw3 hE d);have HO:=hide hown;have HV:=hide hh;have HP:=hide hP;generalize hids:E.map (·.1)=ids at HL ⊢;have b0:=(Below.refl w.heap.size w).alloc (o:= .cells #[.map (some q), .slice ma ml mc, .slice ha H.length hc, .int .i64 next] 67) (Nat.le_refl _);have V0:=hide (Mem.Blk.new w #[.map (some q), .slice ma ml mc, .slice ha H.length hc, .int .i64 next] 67);have a2:=(za V0).cell 2;simp only [kGs] at a2;have HR1:Hid (Pl.zu0 ids next Pl.wayB H=(List.range H.length).all (Pl.zp5 ids next Pl.wayB H)):=rfl;generalize Pl.zu0 ids next Pl.wayB H=RB at HR1 ⊢;clear hh hP hown hE hids;go_enter Tryz.func102,Tryz.ntmps102
 go_wp2
 go_loopw [3,11] (fun l i wr=>∃k:Nat,k≤H.length∧i= .int .i64 (k:Int)∧l= .int .i64 (Pl.zh4 (H.map (·.d)) k)∧Below w.heap.size w wr∧Hid (Mem.Blk wr w.heap.size #[.map (some q), .slice ma ml mc, .slice ha H.length hc, .int .i64 next] 67)∧Hid (∀j,j<k→Pl.zp5 ids next Pl.wayB H j=true)) (fun _ i _=>H.length - (intOf i).toNat)
 case atStart=>exact ⟨0,Nat.zero_le _,rfl,rfl,b0,V0,fun j h=>absurd h (by omega)⟩
 case round=>
  obtain ⟨k,hk,rfl,rfl,hbel,V,HA⟩:=hrel;clear V0 b0 a2;by_cases hlt:k<H.length
  ·obtain ⟨t,ht⟩:∃n,H[k]? =some n:=⟨_,List.getElem?_eq_getElem hlt⟩;obtain ⟨g,o,rfl,hg,q0,q1,q2⟩:=(za HV) k t ht;have HNO:Hid (Pl.zp5 ids next Pl.wayB H k=false→RB=false):=hide (fun h=>by rw [za HR1];exact Pl.zx3 hlt h)
   have HSTEP:Hid (Pl.zp5 ids next Pl.wayB H k=(decide (Pl.zh4 (H.map (·.d)) k<t.d)&&decide (t.d<next)&&Pl.wayB t.p&&decide (t.i∈ids))):=hide (by
    unfold Pl.zp5 Pl.zn6;rw [ht,List.getElem?_map,ht]
    rfl)
   have HLAST:Hid (Pl.zh4 (H.map (·.d)) (k+1)=t.d):=hide (by
    show (match (H.map (·.d))[k]? with |none=>0|some x=>x)=_;rw [List.getElem?_map,ht]
    rfl)
   generalize Pl.zh4 (H.map (·.d)) k=L at HSTEP ⊢;have u1:(k:Int)<(H.length:Int):=by omega
   have u3:(0:Int)≤(k:Int):=by omega
   have b2:Below wr.heap.size wr (wr.alloc (.cells #[.int .i64 t.d, .int .i64 t.i, .string t.p] 87)):=bE0;have hbel2:=hbel.trans (b2.mono hbel.size);have c0:=(hbel.cell (p:=⟨g,_,none⟩) hg).trans q0;have c1:=(hbel.cell (p:=⟨g,_,none⟩) hg).trans q1;have c2:=(hbel.cell (p:=⟨g,_,none⟩) hg).trans q2;have X2:=hide (Mem.Blk.new wr #[.int .i64 t.d, .int .i64 t.i, .string t.p] 87);have V2:=hide ((za V).call b2);obtain ⟨hpz,hpi⟩:=za HP t (List.mem_of_getElem? ht);have hkey:=MapI.zl8 hpi;clear q0 q1 q2 b2 V hpi ht;go_upto_region 5 with fail
   generalize wr.alloc (.cells #[.int .i64 t.d, .int .i64 t.i, .string t.p] 87)=wZ at hbel2 V2 X2 ⊢;generalize wr.heap.size=X at X2 ⊢;obtain ⟨x0,x1,x2⟩:=jc3 (za X2);have w0:=(za V2).cell 0;have w3:=(za V2).cell 3;simp only [kGs] at w0 w3;have HC:=hide (zk2.zg7 t.p wZ hpz);obtain ⟨hhas,hat⟩:=za HL t.i;have HHAS:=hide hhas;have HAT:=hide hat;clear hhas hat hbel c0 c1 c2;by_cases h1:t.d≤L
   ·have HE0:Hid (RB=false):=hide (za HNO (by rw [za HSTEP,decide_eq_false (by omega :¬L<t.d)];simp));go_wp2
    go_ret
    exact ⟨by rw [za HE0];rfl,hbel2⟩
   by_cases h2:next ≤t.d
   ·have HE0:Hid (RB=false):=hide (za HNO (by rw [za HSTEP,decide_eq_false (by omega :¬t.d<next)];simp));go_wp2
    go_ret
    exact ⟨by rw [za HE0];rfl,hbel2⟩
   rw [decide_eq_true (by omega :L<t.d),decide_eq_true (by omega :t.d<next)] at HSTEP;by_cases h3:t.p=⟨#[]⟩
   ·have HE0:Hid (RB=false):=hide (za HNO (by rw [za HSTEP,h3];rfl));rw [h3] at x2;clear h3;go_wp2
    go_ret
    exact ⟨by rw [za HE0];rfl,hbel2⟩
   have h4:t.p.toList.isEmpty=false:=by rw [Pl.zb3];simp;exact fun e=>h3 (Pl.ze5 e)
   have h5:(t.p.toList==[])=false:=by rw [Pl.list_is];simp;exact fun e=>h3 (Pl.ze5 e)
   have HW:Hid (Pl.wayB t.p=Pl.za0 t.p):=hide (by
    have h9:t.p.size≠0:=fun e=>h3 (ByteArray.ext (Array.eq_empty_of_size_eq_zero e));unfold Pl.wayB;rw [decide_eq_true h9]
    rfl)
   rw [za HW] at HSTEP;clear h3 HW;go_wp2_with fail
   refine (za HC).mono ?_;rintro e w6 ⟨rfl,bX⟩;have b6:=hbel2.trans (bX.mono hbel2.size);have V6:=hide ((za V2).call bX);have X6:=hide ((za X2).call bX);clear HC V2 X2 hbel2 bX x0 x1 x2 w0 w3;cases hpb:Pl.za0 t.p
   ·have HE0:Hid (RB=false):=hide (za HNO (by rw [za HSTEP,hpb];simp));go_wp2
    go_ret
    exact ⟨by rw [za HE0];rfl,b6⟩
   rw [hpb] at HSTEP;obtain ⟨x0,x1,x2⟩:=jc3 (za X6);have w0:=(za V6).cell 0;have w3:=(za V6).cell 3;simp only [kGs] at w0 w3;have HM2:=hide (MapI.ze4 (za HO) b6);generalize hNV:Pl.getN E t.i=nv at HAT;clear hNV hpb;have b5:=b6.alloc (o:= .cells #[.map nv.m, .int .i64 nv.n, .slice nv.a nv.n nv.cap] 171) b6.size;by_cases hin:t.i∈ids
   case neg=>
    have HE0:Hid (RB=false):=hide (za HNO (by rw [za HSTEP,decide_eq_false hin];simp));rw [decide_eq_false hin] at HHAS;go_wp2_with (at_lookup;refine MapI.look_ok _ rfl _ _ 65 rfl 2 171 MapI.law Tryz.underlying65 _ (Pl.zu5 _) q n _ rfl (za HM2) _ _ rfl hkey _ (za HAT) false (za HHAS) ?_)
    go_wp2
    go_ret
    exact ⟨by rw [za HE0];rfl,b5⟩
   rw [decide_eq_true hin] at HHAS HSTEP
   have HA2:Hid (∀j,j<k+1→Pl.zp5 ids next Pl.wayB H j=true):=fun j hj=>by
    rcases Nat.lt_succ_iff_lt_or_eq.1 hj with h|h
    ·exact za HA j h
    ·rw [h,za HSTEP];rfl
   have V5:=(za V6).alloc (.cells #[.map nv.m, .int .i64 nv.n, .slice nv.a nv.n nv.cap] 171);have X5:=(za X6).alloc (.cells #[.map nv.m, .int .i64 nv.n, .slice nv.a nv.n nv.cap] 171);go_upto_region 8 with (at_lookup;refine MapI.look_ok _ rfl _ _ 65 rfl 2 171 MapI.law Tryz.underlying65 _ (Pl.zu5 _) q n _ rfl (za HM2) _ _ rfl hkey _ (za HAT) true (za HHAS) ?_)
   generalize w6.alloc (.cells #[.map nv.m, .int .i64 nv.n, .slice nv.a nv.n nv.cap] 171)=wY at b5 V5 X5 ⊢;clear x0 x1 x2 w0 w3;have x0:=X5.cell 0;simp only [kGs] at x0;have V7:=hide V5;clear V5 X5 V6 X6 HM2 HHAS HAT HSTEP;go_wp2
   go_roundw
   case rel=>exact ⟨k+1,by omega,by go_num,by rw [za HLAST],b5,V7,HA2⟩
   case measure=>simp [intOf];omega
  ·have u1:¬ (k:Int)<(H.length:Int):=by omega
   have HE:Hid (RB=true):=hide (by rw [za HR1];exact Pl.zt7 (fun j hj=>za HA j (by omega)));go_wp2
   go_ret
   exact ⟨by rw [za HE];rfl,hbel⟩
end WSpI
end
section
set_option linter.unusedSimpArgs false
open Go.RowKit
namespace WSpI
set_option maxRecDepth 100000 in
set_option maxHeartbeats 800000 in
theorem opened_any (q:Nat) (ma:Option Addr) (mc:Nat) (M:List Pl.Mn) (ha:Option Addr) (hc:Nat) (H:List Pl.Hn) (next d:Int) (w:World) (hl:H.length≤1048576) (hh:Mem.zd3 w ha H):
  Calls Tryz.prog 143 #[.agg #[.map (some q), .slice ma M.length mc, .slice ha H.length hc, .int .i64 next], .int .i64 d] w fun e w'=>e= .returned (.int .i64 (Pl.cntH H d:Int))∧Below w.heap.size w w':=by
 have b0:=(Below.refl w.heap.size w).alloc (o:= .cells #[.map (some q), .slice ma M.length mc, .slice ha H.length hc, .int .i64 next] 67) (Nat.le_refl _);have V0:=hide (Mem.Blk.new w #[.map (some q), .slice ma M.length mc, .slice ha H.length hc, .int .i64 next] 67);have HX:=hide hh;clear hh;have a2:=(za V0).cell 2;simp only [kGs] at a2;go_enter Tryz.func143,Tryz.ntmps143
 go_wp2
 go_loopw [5,11] (fun n i wr=>∃k:Nat,k≤H.length∧i= .int .i64 (k:Int)∧n= .int .i64 ((Pl.cntH (H.take k) d:Int))∧Below w.heap.size w wr) (fun _ i _=>H.length - (intOf i).toNat)
 case atStart=>exact ⟨0,Nat.zero_le _,rfl,by simp [Pl.cntH],b0⟩
 case round=>
  obtain ⟨k,hk,rfl,rfl,hbel⟩:=hrel;clear b0;have hle:=Pl.cntH_le (H.take k) d;have hle2:(H.take k).length≤H.length:=by rw [List.length_take];omega
  by_cases hlt:k<H.length
  ·obtain ⟨t,ht⟩:∃n,H[k]? =some n:=⟨_,List.getElem?_eq_getElem hlt⟩;obtain ⟨g,o,rfl,hg,q0,q1,q2⟩:=(za HX) k t ht;have c0:=(hbel.cell (p:=⟨g,_,none⟩) hg).trans q0;have c1:=(hbel.cell (p:=⟨g,_,none⟩) hg).trans q1;have c2:=(hbel.cell (p:=⟨g,_,none⟩) hg).trans q2;have HS:=hide (Pl.cntH_step ht d);have u1:(k:Int)<(H.length:Int):=by omega
   have u3:(0:Int)≤(k:Int):=by omega
   have bN:=hbel.trans (((Below.refl wr.heap.size wr).alloc (o:= .cells #[.int .i64 t.d, .int .i64 t.i, .string t.p] 87) (Nat.le_refl _)).mono hbel.size);clear q0 q1 q2 ht;generalize hC:Pl.cntH (H.take k) d=C at HS hle ⊢;by_cases hd:t.i=d
   ·have hd1:(t.i==d)=true:=by simpa using hd
    have HS2:Hid (Pl.cntH (H.take (k+1)) d=C+1):=hide (by rw [za HS,if_pos hd]);clear hC HS hd;go_wp2
    go_roundw
    case rel=>exact ⟨k+1,by omega,by go_num,by rw [za HS2];go_num,bN⟩
    case measure=>simp [intOf];omega
   ·have hd1:(t.i==d)=false:=by simpa using hd
    have HS2:Hid (Pl.cntH (H.take (k+1)) d=C):=hide (by rw [za HS,if_neg hd];rfl);clear hC HS;go_wp2
    go_roundw
    case rel=>exact ⟨k+1,by omega,by go_num,by rw [za HS2],bN⟩
    case measure=>simp [intOf];omega
  ·have u1:¬ (k:Int)<(H.length:Int):=by omega
   have hke:k=H.length:=by omega
   subst hke;rw [List.take_length];go_wp2
   go_ret
   exact ⟨rfl,hbel⟩
set_option maxRecDepth 100000 in
set_option maxHeartbeats 800000 in
theorem zf4 (q:Nat) (ma:Option Addr) (mc:Nat) (M:List Pl.Mn) (ha:Option Addr) (hc:Nat) (H:List Pl.Hn) (next d:Int) (w:World) (hml:M.length≤1048576) (hl:H.length≤1048576) (hm:Mem.zb8 w ma M) (hh:Mem.zd3 w ha H):
  Calls Tryz.prog 124 #[.agg #[.map (some q), .slice ma M.length mc, .slice ha H.length hc, .int .i64 next], .int .i64 d] w fun e w'=>e= .returned (.int .i64 (Pl.held M H d))∧Below w.heap.size w w':=by
 have b0:=(Below.refl w.heap.size w).alloc (o:= .cells #[.map (some q), .slice ma M.length mc, .slice ha H.length hc, .int .i64 next] 67) (Nat.le_refl _);have V0:=hide (Mem.Blk.new w #[.map (some q), .slice ma M.length mc, .slice ha H.length hc, .int .i64 next] 67);have HX:=hide hm;clear hm;have hop:=hide (fun W (b:Below w.heap.size w W)=>opened_any q ma mc M ha hc H next d W hl (Mem.zf3 hh b));obtain ⟨a0,a1,a2,a3⟩:=jc4 (za V0);have hHL:=Pl.cntH_le H d;clear hh;go_enter Tryz.func124,Tryz.ntmps124
 go_wp2_with fail
 refine (za hop _ b0).mono ?_;rintro e w1 ⟨rfl,bX⟩;have V1:=hide ((za V0).call bX);have b1:=b0.trans (bX.mono b0.size);clear a0 a1 a2 a3 V0 b0 bX hop;have a1:=(za V1).cell 1;simp only [kGs] at a1;have b0:=b1;clear b1;go_wp2
 go_loopw [5,14] (fun n i wr=>∃k:Nat,k≤M.length∧i= .int .i64 (k:Int)∧n= .int .i64 ((Pl.cntH H d:Int)+(Pl.cntM (M.take k) d:Int))∧Below w.heap.size w wr) (fun _ i _=>M.length - (intOf i).toNat)
 case atStart=>exact ⟨0,Nat.zero_le _,rfl,by simp [Pl.cntM],b0⟩
 case round=>
  obtain ⟨k,hk,rfl,rfl,hbel⟩:=hrel;clear b0;have hle:=Pl.cntM_le (M.take k) d;have hle2:(M.take k).length≤M.length:=by rw [List.length_take];omega
  by_cases hlt:k<M.length
  ·obtain ⟨t,ht⟩:∃n,M[k]? =some n:=⟨_,List.getElem?_eq_getElem hlt⟩;obtain ⟨g,o,rfl,hg,q0,q1,q2⟩:=(za HX) k t ht;have c0:=(hbel.cell (p:=⟨g,_,none⟩) hg).trans q0;have c1:=(hbel.cell (p:=⟨g,_,none⟩) hg).trans q1;have c2:=(hbel.cell (p:=⟨g,_,none⟩) hg).trans q2;have HS:=hide (Pl.cntM_step ht d);have u1:(k:Int)<(M.length:Int):=by omega
   have u3:(0:Int)≤(k:Int):=by omega
   have bN:=hbel.trans (((Below.refl wr.heap.size wr).alloc (o:= .cells #[.string t.p, .int .i64 t.i, .bool t.z] 51) (Nat.le_refl _)).mono hbel.size);clear q0 q1 q2 ht;generalize hC:Pl.cntM (M.take k) d=C at HS hle ⊢;by_cases hd:t.i=d
   ·have hd1:(t.i==d)=true:=by simpa using hd
    have HS2:Hid (Pl.cntM (M.take (k+1)) d=C+1):=hide (by rw [za HS,if_pos hd]);clear hC HS hd;go_wp2
    go_roundw
    case rel=>exact ⟨k+1,by omega,by go_num,by rw [za HS2];go_num,bN⟩
    case measure=>simp [intOf];omega
   ·have hd1:(t.i==d)=false:=by simpa using hd
    have HS2:Hid (Pl.cntM (M.take (k+1)) d=C):=hide (by rw [za HS,if_neg hd];rfl);clear hC HS;go_wp2
    go_roundw
    case rel=>exact ⟨k+1,by omega,by go_num,by rw [za HS2],bN⟩
    case measure=>simp [intOf];omega
  ·have u1:¬ (k:Int)<(M.length:Int):=by omega
   have hke:k=M.length:=by omega
   subst hke;rw [List.take_length];go_wp2
   go_ret
   exact ⟨congrArg (fun x=>Ending.returned (Value.int .i64 x)) (Int.add_comm (Pl.cntH H d:Int) (Pl.cntM M d:Int)),hbel⟩
end WSpI
end
section
open Go.RowKit Go.Maps
namespace MapI
theorem same_ne {a b:Int} (h:a≠b):(key a).sameKey (key b)=false:=by simp [key,Lit.sameKey,h]
theorem ent_in {C:List (Int × Value)} {p:Int} {c:DataW Value} (h:∀z,(mapOf C).atKey (key p) z=c):p∈C.map (·.1):=by
 by_cases hp:p∈C.map (·.1)
 ·exact hp
 ·exfalso;have h1:=(h (dat (.int .i64 0))).trans (h (dat (.int .i64 1))).symm;rw [at_no hp,at_no hp] at h1;have h2:=zx6 h1;simp at h2
theorem ranges_blk {w:World} {B r n:Nat} {D:DataW Value} {left:Lit→Bool} {cnt:Nat} (h:w.ranges Tryz.prog 2 elem B r n D left cnt) {g:Nat} {cs:Array Value} {T:TypeId} (hg:w.heap[g]? =some (.cells cs T (0,0))):g≠r∧g≠B:=by
 obtain ⟨es,clock,since,seen,c0,h1,_,_,_,h2,_⟩:=h;refine ⟨fun e=>?_,fun e=>?_⟩
 ·subst e;rw [hg] at h2;cases h2
 ·subst e;rw [hg] at h1;cases h1
end MapI
namespace WSpI
set_option linter.unusedSimpArgs false in
set_option maxRecDepth 100000 in
set_option maxHeartbeats 4000000 in
theorem unused_any (q:Nat) (E:List (Int × Pl.Nv)) (n:Nat) (ma:Option Addr) (mc:Nat) (M:List Pl.Mn) (ha:Option Addr) (hc:Nat) (H:List Pl.Hn) (next :Int) (w:World) (hml:M.length≤1048576) (hhl:H.length≤1048576) (hm:Mem.zb8 w ma M) (hh:Mem.zd3 w ha H)
  (hE:E.Pairwise (fun a b=>a.1≠b.1)) (hown:w.ownsMap Tryz.prog 2 MapI.elem q n (MapI.mapOf (Pl.vals E))):
  Calls Tryz.prog 103 #[.agg #[.map (some q), .slice ma M.length mc, .slice ha H.length hc, .int .i64 next]] w fun e w'=>e= .returned (.bool (Pl.zo9 (E.map (·.1)) M H))∧Below w.heap.size w w':=by
 have HH:=hide (fun W (b:Below w.heap.size w W) d=>zf4 q ma mc M ha hc H next d W hml hhl (Mem.zd8 hm b) (Mem.zf3 hh b));have HM:=hide (MapI.ze4 hown ((Below.refl w.heap.size w).alloc (o:= .cells #[.map (some q), .slice ma M.length mc, .slice ha H.length hc, .int .i64 next] 67) (Nat.le_refl _)));have b0:=(Below.refl w.heap.size w).alloc (o:= .cells #[.map (some q), .slice ma M.length mc, .slice ha H.length hc, .int .i64 next] 67) (Nat.le_refl _);have V0:=hide (Mem.Blk.new w #[.map (some q), .slice ma M.length mc, .slice ha H.length hc, .int .i64 next] 67);have a0:=(za V0).cell 0;simp only [kGs] at a0;have HID:Hid ((Pl.vals E).map (·.1)=E.map (·.1)):=hide (Pl.vals_ids E);have HENT:=hide (fun (p:Int) (c:DataW Value) (h:∀z,(MapI.mapOf (Pl.vals E)).atKey (MapI.key p) z=c)=>MapI.ent_in h);rw [za HID] at HENT;clear HID
 have HHAS:Hid (∀d∈E.map (·.1),Maps.has (MapI.mapOf (Pl.vals E)) (MapI.key d)=true):=hide (fun d hd=>by rw [(Pl.zw3 hE d).1];exact decide_eq_true hd);generalize MapI.mapOf (Pl.vals E)=D at HM HENT HHAS;generalize E.map (·.1)=ids at HENT HHAS ⊢;have HU:Hid (Pl.zo9 ids M H=ids.all (fun d=>!decide (Pl.held M H d=0))):=rfl;generalize Pl.zo9 ids M H=RB at HU ⊢;clear hown hm hh hE;have e1:(w.alloc (.cells #[.map (some q), .slice ma M.length mc, .slice ha H.length hc, .int .i64 next] 67)).heap.size=w.heap.size+1:=by simp
 go_enter Tryz.func103,Tryz.ntmps103
 go_wp2_with (first
  |(at_range;refine wpList_range_own _ rfl _ 65 rfl 2 171 MapI.law Tryz.underlying65 _ q n _ rfl (za HM) ?_;intro w0 hrg0 hg0 hs0)
  |go_in)
 go_frame
 rw [e1] at hrg0 hs0 ⊢;have V1:=hide ((za V0).grown hg0 (by simp));have B1:=hide (b0.grown hg0 b0.size (fun j hj=>by cases hj));clear hg0 hs0 e1 V0 b0 HM a0
 go_loopw [2] (fun v wr=>∃ (left:Lit→Bool) (cnt:Nat),wr.ranges Tryz.prog 2 MapI.elem q (w.heap.size+1) n D left cnt∧Hid (∀d∈ids,left (MapI.key d)=false→Pl.held M H d≠0)∧Hid (Mem.Blk wr w.heap.size #[.map (some q), .slice ma M.length mc, .slice ha H.length hc, .int .i64 next] 67)∧Hid (Below w.heap.size w wr))
  (fun _ wr=>wr.rangeLeft q (w.heap.size+1))
 case atStart=>exact ⟨_,_,hrg0,fun d hd h=>(by rw [za HHAS d hd] at h;cases h),V1,B1⟩
 case round=>
  obtain ⟨left,cnt,hrg,HGT,V,HB⟩:=hrel;clear hrg0 V1 B1 HHAS
  go_wp2_with (first
   |(at_next;refine wpList_next_ranges _ rfl _ rfl 2 MapI.law MapI.elem (Value.int .i64) (fun v:Value=>v) (fun key kl hk=>by obtain ⟨x,hx,_⟩:=Maps.keyOf_int_inv Tryz.underlying2 hk;exact ⟨x,hx⟩) (fun v y hv=>⟨v,rfl⟩) q (w.heap.size+1) n _ _ _ rfl hrg ?_ ?_)
   |go_in)
  ·intro hc0 hl0
   have HE:Hid (RB=true):=hide (by
    rw [za HU,List.all_eq_true];intro d hd
    simpa using za HGT d hd (hl0 _))
   have bb:=za HB;clear HGT hrg hc0 hl0 HENT HB;go_wp2
   go_ret
   exact ⟨by rw [za HE];rfl,bb⟩
  ·intro x c kl yd yp w1 cnt1 hkey hlk hR hat hrg1 hlt hg1 hs1 hen;have ek:kl=MapI.key x:=by obtain ⟨x',hx,hk,_⟩:=Maps.keyOf_int_inv Tryz.underlying2 hkey;cases hx;exact hk
   subst ek;have hin:=za HENT x yd hat;have hne:=MapI.ranges_blk hrg (za V);have V1:=(za V).grown hg1 (fun e=>hne.1 (Option.some.inj e));have B1:=(za HB).grown hg1 (za HB).size (fun j hj=>by have :=Option.some.inj hj;omega);have HC:=hide (za HH _ B1 x);obtain ⟨a0,a1,a2,a3⟩:=jc4 V1;have HRG1:=hide hrg1;have HLE:=hide (hrg.left_eq);have HIN:=hide hin;have V2:=hide V1;clear hat hR hkey hlk hg1 hs1 hrg1 hrg V V1 hin hne HB;go_wp2_with fail
   refine (za HC).mono ?_;rintro e w6 ⟨rfl,bX⟩;have b6:=B1.trans (bX.mono B1.size);have V6:=hide ((za V2).call bX);have HR6:=hide ((za HRG1).kept (Mem.zc1 bX none) (by simp) (by simp));clear HC V2 bX B1 a0 a1 a2 a3 HRG1 hen;by_cases h0:Pl.held M H x=0
   ·have h1:(Pl.held M H x==0)=true:=by simpa using h0
    have HE:Hid (RB=false):=hide (by
     rw [za HU,List.all_eq_false]
     exact ⟨x,za HIN,by simp [h0]⟩)
    generalize Pl.held M H x=hx at h1 ⊢;clear h0;go_wp2
    go_ret
    exact ⟨by rw [za HE];rfl,b6⟩
   ·have h1:(Pl.held M H x==0)=false:=by simpa using h0
    have HG2:Hid (∀d∈ids,(left (MapI.key d)&&!(MapI.key d).sameKey (MapI.key x))=false→Pl.held M H d≠0):=fun d hd h=>by
     by_cases e:d=x
     ·subst e;exact h0
     ·rw [MapI.same_ne e] at h;exact za HGT d hd (by simpa using h)
    generalize Pl.held M H x=hx at h1 ⊢;clear h0 HGT;go_wp2
    go_roundw
    case rel=>exact ⟨_,cnt1,za HR6,HG2,V6,hide b6⟩
    case measure=>rw [(za HR6).left_eq,za HLE];exact hlt
end WSpI
end
section
open Go.RowKit
namespace WSpI
theorem infoMn:(Tryz.prog.info? 51).map (fun i=>(i.zero,i.size,i.bytes))=some (some (.agg #[.string ⟨#[]⟩, .int .i64 0, .bool false]),3,32):=by kernel_rfl
theorem infoHn:(Tryz.prog.info? 87).map (fun i=>(i.zero,i.size,i.bytes))=some (some (.agg #[.int .i64 0, .int .i64 0, .string ⟨#[]⟩]),3,32):=by kernel_rfl
end WSpI
end
section
set_option linter.unusedSimpArgs false
open Go.RowKit
namespace WSpI
set_option maxRecDepth 100000 in
set_option maxHeartbeats 1000000 in
theorem cloneMn_any (a:Option Addr) (cap:Nat) (M:List Pl.Mn) (w:World) (hl:M.length≤1000) (hA:(a=none∧cap=0∧M=[])∨∃g o,a=some ⟨g,o,none⟩) (hv:Mem.zb8 w a M):
  Calls Tryz.prog 99 #[.slice a M.length cap] w fun e w'=>(∃v,e= .returned v∧Mem.own3 51 Pl.Mn.cs w' w.heap.size v M)∧Below w.heap.size w w':=by
 obtain ⟨i0,hi,hz0,hz1,hz2⟩:=info_parts infoMn
 rcases hA with ⟨rfl,rfl,rfl⟩|⟨g,o,rfl⟩
 ·have heq:(binOp BinOp.eql 29 (.slice none 0 0) (.slice none 0 0)).run Tryz.prog w= .ok (.bool true) w:=by kernel_rfl
  have O:=hide (Mem.zy2 51 Pl.Mn.cs w w.heap.size);go_enter Tryz.func99,Tryz.ntmps99
  go_wp2
  go_ret
  exact ⟨⟨_,rfl,za O⟩,Below.refl _ _⟩
 ·have heq:(binOp BinOp.eql 29 (.slice (some ⟨g,o,none⟩) M.length cap) (.slice none 0 0)).run Tryz.prog w= .ok (.bool false) w:=by kernel_rfl
  have b2:Below w.heap.size w (w.alloc (.cells #[] 51)):=bE0
  have OA:Hid (Mem.own3 51 Pl.Mn.cs (w.alloc (.cells #[] 51)) w.heap.size (.slice (some ⟨w.heap.size,0,none⟩) 0 0) []):=
   ⟨rfl, .inr ⟨w.heap.size,0,#[],rfl,Nat.le_refl _,heap_alloc_new _ _,Nat.le_refl _,Nat.zero_le _,rfl,rfl⟩⟩
  have NV:=hide (Mem.row_of_mounts (Mem.zd8 hv b2));go_enter Tryz.func99,Tryz.ntmps99
  go_wp2_with (at_builtin;refine wpList_append_own _ rfl _ _ 29 rfl w.heap.size 51 i0 _ 3 32 Tryz.underlying29 hi hz0 hz1 hz2 rfl (by decide) _ _ _ rfl (za OA) ⟨g,o,none⟩ M.length cap (Pl.cells3 Pl.Mn.cs M) rfl (by rw [Pl.zy7 Pl.Mn.three]) (Mem.cells3_at Pl.Mn.three (za NV)) (Mem.cs3_one Mem.mn_one M) (by rw [List.length_nil,Nat.zero_add];unfold maxLen;omega) (by rw [List.length_nil,Nat.zero_add];omega) (by simp) ?_)
  intro v1 wA ownA growA _;have OB:Hid (Mem.own3 51 Pl.Mn.cs wA w.heap.size v1 M):=hide (show wA.ownsRow _ _ 3 v1 M.length (Pl.cells3 Pl.Mn.cs M) from ownA);have b3:=b2.grown growA b2.size (fun q hq=>by have h:w.heap.size=q:=Option.some.inj hq;omega);clear ownA growA OA NV hv;go_wp2
  go_ret
  exact ⟨⟨_,rfl,za OB⟩,b3⟩
set_option maxRecDepth 100000 in
set_option maxHeartbeats 1000000 in
theorem cloneHn_any (a:Option Addr) (cap:Nat) (M:List Pl.Hn) (w:World) (hl:M.length≤1000) (hA:(a=none∧cap=0∧M=[])∨∃g o,a=some ⟨g,o,none⟩) (hv:Mem.zd3 w a M):
  Calls Tryz.prog 100 #[.slice a M.length cap] w fun e w'=>(∃v,e= .returned v∧Mem.own3 87 Pl.Hn.cs w' w.heap.size v M)∧Below w.heap.size w w':=by
 obtain ⟨i0,hi,hz0,hz1,hz2⟩:=info_parts infoHn
 rcases hA with ⟨rfl,rfl,rfl⟩|⟨g,o,rfl⟩
 ·have heq:(binOp BinOp.eql 30 (.slice none 0 0) (.slice none 0 0)).run Tryz.prog w= .ok (.bool true) w:=by kernel_rfl
  have O:=hide (Mem.zy2 87 Pl.Hn.cs w w.heap.size);go_enter Tryz.func100,Tryz.ntmps100
  go_wp2
  go_ret
  exact ⟨⟨_,rfl,za O⟩,Below.refl _ _⟩
 ·have heq:(binOp BinOp.eql 30 (.slice (some ⟨g,o,none⟩) M.length cap) (.slice none 0 0)).run Tryz.prog w= .ok (.bool false) w:=by kernel_rfl
  have b2:Below w.heap.size w (w.alloc (.cells #[] 87)):=bE0
  have OA:Hid (Mem.own3 87 Pl.Hn.cs (w.alloc (.cells #[] 87)) w.heap.size (.slice (some ⟨w.heap.size,0,none⟩) 0 0) []):=
   ⟨rfl, .inr ⟨w.heap.size,0,#[],rfl,Nat.le_refl _,heap_alloc_new _ _,Nat.le_refl _,Nat.zero_le _,rfl,rfl⟩⟩
  have NV:=hide (Mem.row_of_hands (Mem.zf3 hv b2));go_enter Tryz.func100,Tryz.ntmps100
  go_wp2_with (at_builtin;refine wpList_append_own _ rfl _ _ 30 rfl w.heap.size 87 i0 _ 3 32 Tryz.underlying30 hi hz0 hz1 hz2 rfl (by decide) _ _ _ rfl (za OA) ⟨g,o,none⟩ M.length cap (Pl.cells3 Pl.Hn.cs M) rfl (by rw [Pl.zy7 Pl.Hn.three]) (Mem.cells3_at Pl.Hn.three (za NV)) (Mem.cs3_one Mem.hn_one M) (by rw [List.length_nil,Nat.zero_add];unfold maxLen;omega) (by rw [List.length_nil,Nat.zero_add];omega) (by simp) ?_)
  intro v1 wA ownA growA _;have OB:Hid (Mem.own3 87 Pl.Hn.cs wA w.heap.size v1 M):=hide (show wA.ownsRow _ _ 3 v1 M.length (Pl.cells3 Pl.Hn.cs M) from ownA);have b3:=b2.grown growA b2.size (fun q hq=>by have h:w.heap.size=q:=Option.some.inj hq;omega);clear ownA growA OA NV hv;go_wp2
  go_ret
  exact ⟨⟨_,rfl,za OB⟩,b3⟩
end WSpI
end
end Go.Proofs.YtgdjjncmocppeaaGreatDoor
