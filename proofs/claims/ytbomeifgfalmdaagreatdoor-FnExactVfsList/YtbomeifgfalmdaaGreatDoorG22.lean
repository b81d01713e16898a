/- Several texts of one claim in one file: WRightI, WSplit, WPathS, WSpecR, WL07, WSpI4, WSpI1, WSpI5, WInfo3, WSpI6, MemApp2, WNode, WNodesJ, WItemX. -/
import Derived.Test.YtbomeifgfalmdaaGreatDoorG10
import Derived.Test.YtbomeifgfalmdaaGreatDoorG20
set_option maxRecDepth 100000
set_option linter.unusedSimpArgs false
set_option maxHeartbeats 4000000
namespace Go.Proofs.YtbomeifgfalmdaaGreatDoor
section
open Go.RowKit
namespace zh0
theorem zh7 (s:ByteArray) (w:World) (hs:s.size≤1048576):
  Calls Tryz.prog 85 #[.string s] w fun e w'=>e= .returned (.bool (Pl.za0 s))∧Below w.heap.size w w':=by
 go_enter Tryz.func85,Tryz.ntmps85
 go_wp2_with fail
 refine (zu6.any s _ hs).mono ?_;rintro e w1 ⟨v,rfl,hown,hb⟩;clear hown;go_wp2
 go_ret
 exact ⟨rfl,hb⟩
end zh0
end
section
open Go.RowKit
namespace WSplit
theorem zq6:(Tryz.prog.info? 9).map (fun i=>(i.zero,i.size,i.bytes))=some (some (.string ⟨#[]⟩),1,16):=by kernel_rfl

theorem split_any (s:ByteArray) (b:Nat) (w:World) (hs:s.size≤1048576):
  Calls Tryz.prog 80 #[.string s, .int .u8 (b:Int)] w fun e w'=>∃v,e= .returned v∧
   w'.ownsRow w.heap.size 9 1 v (Pl.cut s b).length ((Pl.cut s b).map Value.string)∧Below w.heap.size w w':=by
 obtain ⟨i0,hi,hz0,hz1,hz2⟩:=info_parts zq6;go_enter Tryz.func80,Tryz.ntmps80
 go_wp2
 go_loopw [5,6,7] (fun v x i wr=>∃ (k fr:Nat) (L:List ByteArray),k≤s.size∧fr≤k∧L.length≤k∧i= .int .i64 (k:Int)∧x= .int .i64 (fr:Int)∧
   wr.ownsRow w.heap.size 9 1 v L.length (L.map Value.string)∧Below w.heap.size w wr∧Hid (Pl.cut s b=L++Pl.cutF s b (s.size - k) fr k)) (fun _ _ i _=>s.size - (intOf i).toNat)
 case atStart=>exact ⟨0,0,[],by omega,by omega,by simp,rfl,rfl,World.ownsRow_made _ _ 0 (Nat.le_refl _) (Nat.zero_le _) rfl,(Below.refl _ _).alloc (Nat.le_refl _) _,rfl⟩
 case round=>
  obtain ⟨k,fr,L,hk,hfr,hL,rfl,rfl,hown,hbel,H⟩:=hrel;have hb1:=hbel.size;by_cases hlt:k<s.size
  ·have hf:s.size - k=s.size - (k+1)+1:=by omega
   have t1:(0:Int)≤(fr:Int):=by omega
   have t2:(fr:Int)≤(k:Int):=by omega
   have t3:(k:Int)≤(s.size:Int):=by omega
   by_cases hq:s[k].toNat=b
   ·have H2:Hid (Pl.cut s b=(L++[s.extract fr k])++Pl.cutF s b (s.size - (k+1)) (k+1) (k+1)):=by
     show _=_;rw [H.out,hf,Pl.cutF_hit hlt hq];simp
    have t4:((s[k].toNat:Int)==(b:Int))=true:=by rw [beq_iff_eq];omega
    clear H hf hq;go_wp2_with (at_builtin;refine wpList_append_own _ rfl _ _ 33 rfl w.heap.size 9 i0 (.string ⟨#[]⟩) 1 16 Tryz.underlying33 hi hz0 hz1 hz2 rfl (by decide) _ _ _ rfl (hown.alloc _) ⟨wr.heap.size,0,none⟩ 1 1 [.string (s.extract fr k)] rfl rfl ?c1 ?c2 ?c3 ?c4 ?c5 ?_)
    case c1=>exact Mem.ze6 _ _ _
    case c2=>intro u hu;simp at hu;subst hu;rfl
    case c3=>unfold maxLen;omega
    case c4=>omega
    case c5=>simp;omega
    ·intro v' w2 hown' hgrow _;have hbel':=Mem.zg4 hbel (Nat.le_refl _) hown hgrow;have hown2:w2.ownsRow w.heap.size 9 1 v' (L++[s.extract fr k]).length ((L++[s.extract fr k]).map Value.string):=by simpa using hown'
     clear hgrow hown hbel hown' t4;go_wp2
     go_roundw
     case rel=>exact ⟨k+1,k+1,L++[s.extract fr k],by omega,by omega,by simp;omega,by go_num,by go_num,hown2,hbel',H2⟩
     case measure=>simp [intOf];omega
   ·have H2:Hid (Pl.cut s b=L++Pl.cutF s b (s.size - (k+1)) fr (k+1)):=by
     show _=_;rw [H.out,hf,Pl.yf7 hlt hq]
    have t4:((s[k].toNat:Int)==(b:Int))=false:=by rw [beq_eq_false_iff_ne];omega
    clear H hf hq;go_wp2
    go_roundw
    case rel=>exact ⟨k+1,fr,L,by omega,by omega,by omega,by go_num,rfl,hown,hbel,H2⟩
    case measure=>simp [intOf];omega
  ·obtain rfl:k=s.size:=by omega
   have H2:Hid (Pl.cut s b=L++[s.extract fr s.size]):=by
    show _=_;rw [H.out,Nat.sub_self];rfl
   have t1:(0:Int)≤(fr:Int):=by omega
   have t2:(fr:Int)≤(s.size:Int):=by omega
   clear H;go_wp2_with (at_builtin;refine wpList_append_own _ rfl _ _ 33 rfl w.heap.size 9 i0 (.string ⟨#[]⟩) 1 16 Tryz.underlying33 hi hz0 hz1 hz2 rfl (by decide) _ _ _ rfl (hown.alloc _) ⟨wr.heap.size,0,none⟩ 1 1 [.string (s.extract fr s.size)] rfl rfl ?c1 ?c2 ?c3 ?c4 ?c5 ?_)
   case c1=>exact Mem.ze6 _ _ _
   case c2=>intro u hu;simp at hu;subst hu;rfl
   case c3=>unfold maxLen;omega
   case c4=>omega
   case c5=>simp;omega
   ·intro v' w2 hown' hgrow _;have hbel':=Mem.zg4 hbel (Nat.le_refl _) hown hgrow;have hown2:w2.ownsRow w.heap.size 9 1 v' (Pl.cut s b).length ((Pl.cut s b).map Value.string):=by rw [H2.out];simpa using hown'
    clear hgrow hown hbel hown';go_wp2
    go_ret
    exact ⟨_,rfl,hown2,hbel'⟩
end WSplit
end
section
open Go.RowKit
namespace zd1

theorem zu8 (s:ByteArray) (w:World) (hs:s.size≤1048576):
  Calls Tryz.prog 48 #[.string s] w fun e w'=>∃v,e= .returned v∧
   w'.ownsRow w.heap.size 9 1 v (Pl.names s).length ((Pl.names s).map Value.string)∧Below w.heap.size w w':=by
 by_cases h0:s.size=0
 ·have E:Hid (Pl.names s=[]):=if_pos h0;obtain rfl:s=⟨#[]⟩:=by apply ByteArray.ext;exact Array.eq_empty_of_size_eq_zero h0
  go_enter Tryz.func48,Tryz.ntmps48
  go_wp2
  go_ret
  refine ⟨_,rfl,?_,(Below.refl _ _).alloc (Nat.le_refl _) _⟩;rw [E.out];exact World.ownsRow_made _ _ 0 (Nat.le_refl _) (Nat.zero_le _) rfl
 ·have E:Hid (Pl.names s=Pl.cut s 47):=if_neg h0
  have t0:s.toList.isEmpty=false:=by
   rw [List.isEmpty_eq_false_iff,ByteArray.toList_eq];intro h;have h1:s.data.toList.length=0:=by rw [h];rfl
   rw [Array.length_toList] at h1;exact h0 h1
  go_enter Tryz.func48,Tryz.ntmps48
  go_wp2_with fail
  refine (WSplit.split_any s 47 _ hs).mono ?_;rintro e w1 ⟨v,rfl,hown,hb⟩;have HO:=hide hown;clear hown;go_wp2
  go_ret
  exact ⟨_,rfl,by rw [E.out];exact za HO,hb⟩

theorem zh7 (s:ByteArray) (w:World) (hs:s.size≤maxLen):
  Calls Tryz.prog 42 #[.string s] w fun e w'=>e= .returned (.bool (Pl.za0 s))∧Below w.heap.size w w':=by
 unfold maxLen at hs;by_cases h2:200<s.size
 ·have E:=hide (Pl.zp6 h2);go_enter Tryz.func42,Tryz.ntmps42
  go_wp2
  go_ret
  exact ⟨za1 (za E).symm,Below.refl _ _⟩
 have hlen:=Pl.zx7 s
 have HSZ:Hid (∀ (k:Nat) t,(Pl.names s)[k]? =some t→t.size≤maxLen):=fun k t ht=>by
  have :=Pl.names_size ht;unfold maxLen;omega
 have HBAD:Hid (∀ (k:Nat) t,(Pl.names s)[k]? =some t→Pl.zb8 t=false→Pl.za0 s=false):=fun k t ht hb=>Pl.pathB_bad ht hb;have HGOOD:Hid ((∀ (j:Nat) t,(Pl.names s)[j]? =some t→Pl.zb8 t=true)→Pl.za0 s=decide ((Pl.names s).length≤6)):=fun h=>Pl.pathB_good (by omega) h;have hn:=hide (zu8 s w (by omega));generalize Pl.names s=L at hn hlen HSZ HBAD HGOOD;go_enter Tryz.func42,Tryz.ntmps42
 go_wp2_with fail
 refine (za hn).mono ?_;rintro e w1 ⟨v,rfl,hown,hbel⟩
 rcases hown.2 with ⟨rfl,h0⟩|⟨g,cap,cur,rfl,hgb,hg,hcap,hm,hsz,htk⟩
 ·obtain rfl:L=[]:=List.eq_nil_of_length_eq_zero h0;have E:=hide (HGOOD.out (fun j t h=>by simp at h));clear hown hn HGOOD HBAD HSZ;go_wp2
  go_loop [4] (fun i=>i= .int .i64 0) (fun _=>0)
  case atStart=>rfl
  case round=>
   subst hrel;go_wp2
   go_ret
   exact ⟨za1 (by rw [za E];rfl),hbel⟩
 ·have hcell:∀ (k:Nat) t,L[k]? =some t→w1.cell? ⟨g,k,none⟩=some (.string t):=by
   intro k t ht;have hk:=(List.getElem?_eq_some_iff.1 ht).1;rw [cell_of_row w1 g k cur 9 (0,0) hg];have h1:(cur.toList.take (L.length*1))[k]? =(L.map Value.string)[k]?:=by rw [htk]
   rw [List.getElem?_take_of_lt (by omega),List.getElem?_map,ht] at h1
   simpa using h1
  have HC:=hide hcell;clear hcell hown hn hg htk hsz;have hm2:=hm;unfold maxLen at hm2;go_wp2
  go_loop [4] (fun i=>∃k:Nat,k≤L.length∧i= .int .i64 (k:Int)∧Hid (∀ (j:Nat) t,j<k→L[j]? =some t→Pl.zb8 t=true)) (fun i=>L.length - (intOf i).toNat)
  case atStart=>exact ⟨0,Nat.zero_le _,rfl,fun j t h=>absurd h (by omega)⟩
  case round=>
   obtain ⟨k,hk,rfl,HA⟩:=hrel;by_cases hlt:k<L.length
   ·obtain ⟨t,ht⟩:∃t,L[k]? =some t:=⟨_,List.getElem?_eq_getElem hlt⟩;have hc:=HC.out k t ht;have hts:=HSZ.out k t ht;cases hb:Pl.zb8 t
    ·have E:=hide (HBAD.out k t ht hb);have HB:=hide hb;clear ht hb;go_wp2_with (go_at_call 74;refine (WName.zt1 t _ hts).mono ?_;rw [za HB];rintro e w' ⟨rfl,hw⟩;obtain rfl:=hw.symm)
     go_ret
     exact ⟨za1 (za E).symm,hbel⟩
    ·have HB:=hide hb
     have HA2:Hid (∀ (j:Nat) t,j<k+1→L[j]? =some t→Pl.zb8 t=true):=fun j t' hj h'=>by
      rcases Nat.lt_succ_iff_lt_or_eq.1 hj with h''|rfl
      ·exact HA.out j t' h'' h'
      ·rw [ht] at h';cases h';exact hb
     clear ht hb HA;go_wp2_with (go_at_call 74;refine (WName.zt1 t _ hts).mono ?_;rw [za HB];rintro e w' ⟨rfl,hw⟩;obtain rfl:=hw.symm)
     go_round
     case rel=>exact ⟨k+1,by omega,by go_num,HA2⟩
     case measure=>simp [intOf];omega
   ·have E:=hide (HGOOD.out (fun j t h=>HA.out j t (by have :=(List.getElem?_eq_some_iff.1 h).1;omega) h));clear HA;by_cases h6:L.length≤6
    ·have t6:(L.length:Int)≤6:=by omega
     go_wp2
     go_ret
     exact ⟨za1 (by rw [za E];simp [h6]),hbel⟩
    ·have t6:¬ (L.length:Int)≤6:=by omega
     go_wp2
     go_ret
     exact ⟨za1 (by rw [za E];simp [h6]),hbel⟩
end zd1
end
section
open Go.RowKit
namespace zd1
theorem zv8 (s:ByteArray) (w:World) (hs:s.size≤1048576):
  Calls Tryz.prog 42 #[.string s] w fun e w'=>e= .returned (.bool (Pl.za0 s))∧Below w.heap.size w w':=zh7 s w (by unfold maxLen;omega)
end zd1
end
section
open Go.RowKit
namespace Pl
def wayB (p:ByteArray):Bool:=decide (p.size≠0)&&za0 p
end Pl
namespace WPanic
theorem l07path_any (p:ByteArray) (w:World) (hp:p.size≤1048576):
  Calls Tryz.prog 100 #[.string p] w fun e w'=>e= .returned (.bool (Pl.wayB p))∧Below w.heap.size w w':=by
 have hr:=hide (fun W=>zd1.zv8 p W hp);by_cases hs:p.size=0
 ·have t1:p.toList.isEmpty=true:=by rw [Pl.zb7];simpa [Pl.zf5] using hs
  rw [show Pl.wayB p=false by simp [Pl.wayB,hs]];go_enter Tryz.func100,Tryz.ntmps100
  go_wp2
  go_ret
  exact ⟨rfl,Below.refl _ _⟩
 ·have t1:p.toList.isEmpty=false:=by rw [Pl.zb7];simpa [Pl.zf5] using hs
  rw [show Pl.wayB p=Pl.za0 p by simp [Pl.wayB,hs]];go_enter Tryz.func100,Tryz.ntmps100
  go_wp2_with fail
  refine (za hr _).mono ?_;rintro e w1 ⟨rfl,b1⟩;go_wp2
  go_ret
  exact ⟨rfl,b1⟩
end WPanic
end
section
open Go.RowKit Go.Maps
namespace WSpI
theorem hands_any (q:Nat) (E:List (Int × Pl.Nv)) (n:Nat) (ma:Option Addr) (ml mc:Nat) (ha:Option Addr) (hc:Nat) (H:List Pl.Hn) (next :Int) (w:World) (hl:H.length≤1048576) (hh:Mem.ze2 w ha H) (hP:∀m∈H,m.p.size≤1048576∧MapI.i64 m.i)
  (hE:E.Pairwise (fun a b=>a.1≠b.1)) (hown:w.ownsMap Tryz.prog 2 MapI.elem q n (MapI.mapOf (Pl.vals E))):
  Calls Tryz.prog 111 #[.agg #[.map (some q), .slice ma ml mc, .slice ha H.length hc, .int .i64 next]] w fun e w'=>e= .returned (.bool (Pl.zx6 (E.map (·.1)) next Pl.wayB H))∧Below w.heap.size w w':=by
 have HL:=hide (fun d=>Pl.zy1 hE d);have HO:=hide hown;have HV:=hide hh;have HP:=hide hP;generalize hids:E.map (·.1)=ids at HL ⊢;have b0:=(Below.refl w.heap.size w).alloc (o:= .cells #[.map (some q), .slice ma ml mc, .slice ha H.length hc, .int .i64 next] 65) (Nat.le_refl _);have V0:=hide (Mem.Blk.new w #[.map (some q), .slice ma ml mc, .slice ha H.length hc, .int .i64 next] 65);have a2:=(za V0).cell 2;simp only [kGs] at a2;have HR1:Hid (Pl.zx6 ids next Pl.wayB H=(List.range H.length).all (Pl.zs8 ids next Pl.wayB H)):=rfl;generalize Pl.zx6 ids next Pl.wayB H=RB at HR1 ⊢;clear hh hP hown hE hids;go_enter Tryz.func111,Tryz.ntmps111
 go_wp2
 go_loopw [3,11] (fun l i wr=>∃k:Nat,k≤H.length∧i= .int .i64 (k:Int)∧l= .int .i64 (Pl.zi6 (H.map (·.d)) k)∧Below w.heap.size w wr∧Hid (Mem.Blk wr w.heap.size #[.map (some q), .slice ma ml mc, .slice ha H.length hc, .int .i64 next] 65)∧Hid (∀j,j<k→Pl.zs8 ids next Pl.wayB H j=true)) (fun _ i _=>H.length - (intOf i).toNat)
 case atStart=>exact ⟨0,Nat.zero_le _,rfl,rfl,b0,V0,fun j h=>absurd h (by omega)⟩
 case round=>
  obtain ⟨k,hk,rfl,rfl,hbel,V,HA⟩:=hrel;clear V0 b0 a2;by_cases hlt:k<H.length
  ·obtain ⟨t,ht⟩:∃n,H[k]? =some n:=⟨_,List.getElem?_eq_getElem hlt⟩;obtain ⟨g,o,rfl,hg,q0,q1,q2⟩:=(za HV) k t ht;have HNO:Hid (Pl.zs8 ids next Pl.wayB H k=false→RB=false):=hide (fun h=>by rw [za HR1];exact Pl.ya3 hlt h)
   have HSTEP:Hid (Pl.zs8 ids next Pl.wayB H k=(decide (Pl.zi6 (H.map (·.d)) k<t.d)&&decide (t.d<next)&&Pl.wayB t.p&&decide (t.i∈ids))):=hide (by
    unfold Pl.zs8 Pl.zp3;rw [ht,List.getElem?_map,ht]
    rfl)
   have HLAST:Hid (Pl.zi6 (H.map (·.d)) (k+1)=t.d):=hide (by
    show (match (H.map (·.d))[k]? with |none=>0|some x=>x)=_;rw [List.getElem?_map,ht]
    rfl)
   generalize Pl.zi6 (H.map (·.d)) k=L at HSTEP ⊢;have u1:(k:Int)<(H.length:Int):=by omega
   have u3:(0:Int)≤(k:Int):=by omega
   have b2:Below wr.heap.size wr (wr.alloc (.cells #[.int .i64 t.d, .int .i64 t.i, .string t.p] 113)):=bE0;have hbel2:=hbel.trans (b2.mono hbel.size);have c0:=(hbel.cell (p:=⟨g,_,none⟩) hg).trans q0;have c1:=(hbel.cell (p:=⟨g,_,none⟩) hg).trans q1;have c2:=(hbel.cell (p:=⟨g,_,none⟩) hg).trans q2;have X2:=hide (Mem.Blk.new wr #[.int .i64 t.d, .int .i64 t.i, .string t.p] 113);have V2:=hide ((za V).call b2);obtain ⟨hpz,hpi⟩:=za HP t (List.mem_of_getElem? ht);have hkey:=MapI.zo0 hpi;clear q0 q1 q2 b2 V hpi ht;go_upto_region 5 with fail
   generalize wr.alloc (.cells #[.int .i64 t.d, .int .i64 t.i, .string t.p] 113)=wZ at hbel2 V2 X2 ⊢;generalize wr.heap.size=X at X2 ⊢;obtain ⟨x0,x1,x2⟩:=jc3 (za X2);have w0:=(za V2).cell 0;have w3:=(za V2).cell 3;simp only [kGs] at w0 w3;have HC:=hide (zh0.zh7 t.p wZ hpz);obtain ⟨hhas,hat⟩:=za HL t.i;have HHAS:=hide hhas;have HAT:=hide hat;clear hhas hat hbel c0 c1 c2;by_cases h1:t.d≤L
   ·have HE0:Hid (RB=false):=hide (za HNO (by rw [za HSTEP,decide_eq_false (by omega :¬L<t.d)];simp));go_wp2
    go_ret
    exact ⟨by rw [za HE0];rfl,hbel2⟩
   by_cases h2:next ≤t.d
   ·have HE0:Hid (RB=false):=hide (za HNO (by rw [za HSTEP,decide_eq_false (by omega :¬t.d<next)];simp));go_wp2
    go_ret
    exact ⟨by rw [za HE0];rfl,hbel2⟩
   rw [decide_eq_true (by omega :L<t.d),decide_eq_true (by omega :t.d<next)] at HSTEP;by_cases h3:t.p=⟨#[]⟩
   ·have HE0:Hid (RB=false):=hide (za HNO (by rw [za HSTEP,h3];rfl));rw [h3] at x2;clear h3;go_wp2
    go_ret
    exact ⟨by rw [za HE0];rfl,hbel2⟩
   have h4:t.p.toList.isEmpty=false:=by rw [Pl.zb7];simp;exact fun e=>h3 (Pl.ze4 e)
   have h5:(t.p.toList==[])=false:=by rw [Pl.list_is];simp;exact fun e=>h3 (Pl.ze4 e)
   have HW:Hid (Pl.wayB t.p=Pl.za0 t.p):=hide (by
    have h9:t.p.size≠0:=fun e=>h3 (ByteArray.ext (Array.eq_empty_of_size_eq_zero e));unfold Pl.wayB;rw [decide_eq_true h9]
    rfl)
   rw [za HW] at HSTEP;clear h3 HW;go_wp2_with fail
   refine (za HC).mono ?_;rintro e w6 ⟨rfl,bX⟩;have b6:=hbel2.trans (bX.mono hbel2.size);have V6:=hide ((za V2).call bX);have X6:=hide ((za X2).call bX);clear HC V2 X2 hbel2 bX x0 x1 x2 w0 w3;cases hpb:Pl.za0 t.p
   ·have HE0:Hid (RB=false):=hide (za HNO (by rw [za HSTEP,hpb];simp));go_wp2
    go_ret
    exact ⟨by rw [za HE0];rfl,b6⟩
   rw [hpb] at HSTEP;obtain ⟨x0,x1,x2⟩:=jc3 (za X6);have w0:=(za V6).cell 0;have w3:=(za V6).cell 3;simp only [kGs] at w0 w3;have HM2:=hide (MapI.zf9 (za HO) b6);generalize hNV:Pl.getN E t.i=nv at HAT;clear hNV hpb;have b5:=b6.alloc (o:= .cells #[.map nv.m, .int .i64 nv.n, .slice nv.a nv.n nv.cap] 135) b6.size;by_cases hin:t.i∈ids
   case neg=>
    have HE0:Hid (RB=false):=hide (za HNO (by rw [za HSTEP,decide_eq_false hin];simp));rw [decide_eq_false hin] at HHAS;go_wp2_with (at_lookup;refine MapI.look_ok _ rfl _ _ 63 rfl 2 135 MapI.law Tryz.underlying63 _ (Pl.zx3 _) q n _ rfl (za HM2) _ _ rfl hkey _ (za HAT) false (za HHAS) ?_)
    go_wp2
    go_ret
    exact ⟨by rw [za HE0];rfl,b5⟩
   rw [decide_eq_true hin] at HHAS HSTEP
   have HA2:Hid (∀j,j<k+1→Pl.zs8 ids next Pl.wayB H j=true):=fun j hj=>by
    rcases Nat.lt_succ_iff_lt_or_eq.1 hj with h|h
    ·exact za HA j h
    ·rw [h,za HSTEP];rfl
   have V5:=(za V6).alloc (.cells #[.map nv.m, .int .i64 nv.n, .slice nv.a nv.n nv.cap] 135);have X5:=(za X6).alloc (.cells #[.map nv.m, .int .i64 nv.n, .slice nv.a nv.n nv.cap] 135);go_upto_region 8 with (at_lookup;refine MapI.look_ok _ rfl _ _ 63 rfl 2 135 MapI.law Tryz.underlying63 _ (Pl.zx3 _) q n _ rfl (za HM2) _ _ rfl hkey _ (za HAT) true (za HHAS) ?_)
   generalize w6.alloc (.cells #[.map nv.m, .int .i64 nv.n, .slice nv.a nv.n nv.cap] 135)=wY at b5 V5 X5 ⊢;clear x0 x1 x2 w0 w3;have x0:=X5.cell 0;simp only [kGs] at x0;have V7:=hide V5;clear V5 X5 V6 X6 HM2 HHAS HAT HSTEP;go_wp2
   go_roundw
   case rel=>exact ⟨k+1,by omega,by go_num,by rw [za HLAST],b5,V7,HA2⟩
   case measure=>simp [intOf];omega
  ·have u1:¬ (k:Int)<(H.length:Int):=by omega
   have HE:Hid (RB=true):=hide (by rw [za HR1];exact Pl.zw9 (fun j hj=>za HA j (by omega)));go_wp2
   go_ret
   exact ⟨by rw [za HE];rfl,hbel⟩
end WSpI
end
section
open Go.RowKit
namespace WSpI
theorem opened_any (q:Nat) (ma:Option Addr) (mc:Nat) (M:List Pl.Mn) (ha:Option Addr) (hc:Nat) (H:List Pl.Hn) (next d:Int) (w:World) (hl:H.length≤1048576) (hh:Mem.ze2 w ha H):
  Calls Tryz.prog 160 #[.agg #[.map (some q), .slice ma M.length mc, .slice ha H.length hc, .int .i64 next], .int .i64 d] w fun e w'=>e= .returned (.int .i64 (Pl.cntH H d:Int))∧Below w.heap.size w w':=by
 have b0:=(Below.refl w.heap.size w).alloc (o:= .cells #[.map (some q), .slice ma M.length mc, .slice ha H.length hc, .int .i64 next] 65) (Nat.le_refl _);have V0:=hide (Mem.Blk.new w #[.map (some q), .slice ma M.length mc, .slice ha H.length hc, .int .i64 next] 65);have HX:=hide hh;clear hh;have a2:=(za V0).cell 2;simp only [kGs] at a2;go_enter Tryz.func160,Tryz.ntmps160
 go_wp2
 go_loopw [5,11] (fun n i wr=>∃k:Nat,k≤H.length∧i= .int .i64 (k:Int)∧n= .int .i64 ((Pl.cntH (H.take k) d:Int))∧Below w.heap.size w wr) (fun _ i _=>H.length - (intOf i).toNat)
 case atStart=>exact ⟨0,Nat.zero_le _,rfl,by simp [Pl.cntH],b0⟩
 case round=>
  obtain ⟨k,hk,rfl,rfl,hbel⟩:=hrel;clear b0;have hle:=Pl.cntH_le (H.take k) d;have hle2:(H.take k).length≤H.length:=by rw [List.length_take];omega
  by_cases hlt:k<H.length
  ·obtain ⟨t,ht⟩:∃n,H[k]? =some n:=⟨_,List.getElem?_eq_getElem hlt⟩;obtain ⟨g,o,rfl,hg,q0,q1,q2⟩:=(za HX) k t ht;have c0:=(hbel.cell (p:=⟨g,_,none⟩) hg).trans q0;have c1:=(hbel.cell (p:=⟨g,_,none⟩) hg).trans q1;have c2:=(hbel.cell (p:=⟨g,_,none⟩) hg).trans q2;have HS:=hide (Pl.cntH_step ht d);have u1:(k:Int)<(H.length:Int):=by omega
   have u3:(0:Int)≤(k:Int):=by omega
   have bN:=hbel.trans (((Below.refl wr.heap.size wr).alloc (o:= .cells #[.int .i64 t.d, .int .i64 t.i, .string t.p] 113) (Nat.le_refl _)).mono hbel.size);clear q0 q1 q2 ht;generalize hC:Pl.cntH (H.take k) d=C at HS hle ⊢;by_cases hd:t.i=d
   ·have hd1:(t.i==d)=true:=by simpa using hd
    have HS2:Hid (Pl.cntH (H.take (k+1)) d=C+1):=hide (by rw [za HS,if_pos hd]);clear hC HS hd;go_wp2
    go_roundw
    case rel=>exact ⟨k+1,by omega,by go_num,by rw [za HS2];go_num,bN⟩
    case measure=>simp [intOf];omega
   ·have hd1:(t.i==d)=false:=by simpa using hd
    have HS2:Hid (Pl.cntH (H.take (k+1)) d=C):=hide (by rw [za HS,if_neg hd];rfl);clear hC HS;go_wp2
    go_roundw
    case rel=>exact ⟨k+1,by omega,by go_num,by rw [za HS2],bN⟩
    case measure=>simp [intOf];omega
  ·have u1:¬ (k:Int)<(H.length:Int):=by omega
   have hke:k=H.length:=by omega
   subst hke;rw [List.take_length];go_wp2
   go_ret
   exact ⟨rfl,hbel⟩
theorem zg9 (q:Nat) (ma:Option Addr) (mc:Nat) (M:List Pl.Mn) (ha:Option Addr) (hc:Nat) (H:List Pl.Hn) (next d:Int) (w:World) (hml:M.length≤1048576) (hl:H.length≤1048576) (hm:Mem.zc6 w ma M) (hh:Mem.ze2 w ha H):
  Calls Tryz.prog 137 #[.agg #[.map (some q), .slice ma M.length mc, .slice ha H.length hc, .int .i64 next], .int .i64 d] w fun e w'=>e= .returned (.int .i64 (Pl.held M H d))∧Below w.heap.size w w':=by
 have b0:=(Below.refl w.heap.size w).alloc (o:= .cells #[.map (some q), .slice ma M.length mc, .slice ha H.length hc, .int .i64 next] 65) (Nat.le_refl _);have V0:=hide (Mem.Blk.new w #[.map (some q), .slice ma M.length mc, .slice ha H.length hc, .int .i64 next] 65);have HX:=hide hm;clear hm;have hop:=hide (fun W (b:Below w.heap.size w W)=>opened_any q ma mc M ha hc H next d W hl (Mem.zg7 hh b));obtain ⟨a0,a1,a2,a3⟩:=jc4 (za V0);have hHL:=Pl.cntH_le H d;clear hh;go_enter Tryz.func137,Tryz.ntmps137
 go_wp2_with fail
 refine (za hop _ b0).mono ?_;rintro e w1 ⟨rfl,bX⟩;have V1:=hide ((za V0).call bX);have b1:=b0.trans (bX.mono b0.size);clear a0 a1 a2 a3 V0 b0 bX hop;have a1:=(za V1).cell 1;simp only [kGs] at a1;have b0:=b1;clear b1;go_wp2
 go_loopw [5,14] (fun n i wr=>∃k:Nat,k≤M.length∧i= .int .i64 (k:Int)∧n= .int .i64 ((Pl.cntH H d:Int)+(Pl.cntM (M.take k) d:Int))∧Below w.heap.size w wr) (fun _ i _=>M.length - (intOf i).toNat)
 case atStart=>exact ⟨0,Nat.zero_le _,rfl,by simp [Pl.cntM],b0⟩
 case round=>
  obtain ⟨k,hk,rfl,rfl,hbel⟩:=hrel;clear b0;have hle:=Pl.cntM_le (M.take k) d;have hle2:(M.take k).length≤M.length:=by rw [List.length_take];omega
  by_cases hlt:k<M.length
  ·obtain ⟨t,ht⟩:∃n,M[k]? =some n:=⟨_,List.getElem?_eq_getElem hlt⟩;obtain ⟨g,o,rfl,hg,q0,q1,q2⟩:=(za HX) k t ht;have c0:=(hbel.cell (p:=⟨g,_,none⟩) hg).trans q0;have c1:=(hbel.cell (p:=⟨g,_,none⟩) hg).trans q1;have c2:=(hbel.cell (p:=⟨g,_,none⟩) hg).trans q2;have HS:=hide (Pl.cntM_step ht d);have u1:(k:Int)<(M.length:Int):=by omega
   have u3:(0:Int)≤(k:Int):=by omega
   have bN:=hbel.trans (((Below.refl wr.heap.size wr).alloc (o:= .cells #[.string t.p, .int .i64 t.i, .bool t.z] 49) (Nat.le_refl _)).mono hbel.size);clear q0 q1 q2 ht;generalize hC:Pl.cntM (M.take k) d=C at HS hle ⊢;by_cases hd:t.i=d
   ·have hd1:(t.i==d)=true:=by simpa using hd
    have HS2:Hid (Pl.cntM (M.take (k+1)) d=C+1):=hide (by rw [za HS,if_pos hd]);clear hC HS hd;go_wp2
    go_roundw
    case rel=>exact ⟨k+1,by omega,by go_num,by rw [za HS2];go_num,bN⟩
    case measure=>simp [intOf];omega
   ·have hd1:(t.i==d)=false:=by simpa using hd
    have HS2:Hid (Pl.cntM (M.take (k+1)) d=C):=hide (by rw [za HS,if_neg hd];rfl);clear hC HS;go_wp2
    go_roundw
    case rel=>exact ⟨k+1,by omega,by go_num,by rw [za HS2],bN⟩
    case measure=>simp [intOf];omega
  ·have u1:¬ (k:Int)<(M.length:Int):=by omega
   have hke:k=M.length:=by omega
   subst hke;rw [List.take_length];go_wp2
   go_ret
   exact ⟨congrArg (fun x=>Ending.returned (Value.int .i64 x)) (Int.add_comm (Pl.cntH H d:Int) (Pl.cntM M d:Int)),hbel⟩
end WSpI
end
section
open Go.RowKit Go.Maps
namespace MapI
theorem same_ne {a b:Int} (h:a≠b):(key a).sameKey (key b)=false:=by simp [key,Lit.sameKey,h]
theorem ent_in {C:List (Int × Value)} {p:Int} {c:DataW Value} (h:∀z,(mapOf C).atKey (key p) z=c):p∈C.map (·.1):=by
 by_cases hp:p∈C.map (·.1)
 ·exact hp
 ·exfalso;have h1:=(h (dat (.int .i64 0))).trans (h (dat (.int .i64 1))).symm;rw [at_no hp,at_no hp] at h1;have h2:=zt7 h1;simp at h2
theorem ranges_blk {w:World} {B r n:Nat} {D:DataW Value} {left:Lit→Bool} {cnt:Nat} (h:w.ranges Tryz.prog 2 elem B r n D left cnt) {g:Nat} {cs:Array Value} {T:TypeId} (hg:w.heap[g]? =some (.cells cs T (0,0))):g≠r∧g≠B:=by
 obtain ⟨es,clock,since,seen,c0,h1,_,_,_,h2,_⟩:=h;refine ⟨fun e=>?_,fun e=>?_⟩
 ·subst e;rw [hg] at h2;cases h2
 ·subst e;rw [hg] at h1;cases h1
end MapI
namespace WSpI
theorem unused_any (q:Nat) (E:List (Int × Pl.Nv)) (n:Nat) (ma:Option Addr) (mc:Nat) (M:List Pl.Mn) (ha:Option Addr) (hc:Nat) (H:List Pl.Hn) (next :Int) (w:World) (hml:M.length≤1048576) (hhl:H.length≤1048576) (hm:Mem.zc6 w ma M) (hh:Mem.ze2 w ha H)
  (hE:E.Pairwise (fun a b=>a.1≠b.1)) (hown:w.ownsMap Tryz.prog 2 MapI.elem q n (MapI.mapOf (Pl.vals E))):
  Calls Tryz.prog 112 #[.agg #[.map (some q), .slice ma M.length mc, .slice ha H.length hc, .int .i64 next]] w fun e w'=>e= .returned (.bool (Pl.zr4 (E.map (·.1)) M H))∧Below w.heap.size w w':=by
 have HH:=hide (fun W (b:Below w.heap.size w W) d=>zg9 q ma mc M ha hc H next d W hml hhl (Mem.zf0 hm b) (Mem.zg7 hh b));have HM:=hide (MapI.zf9 hown ((Below.refl w.heap.size w).alloc (o:= .cells #[.map (some q), .slice ma M.length mc, .slice ha H.length hc, .int .i64 next] 65) (Nat.le_refl _)));have b0:=(Below.refl w.heap.size w).alloc (o:= .cells #[.map (some q), .slice ma M.length mc, .slice ha H.length hc, .int .i64 next] 65) (Nat.le_refl _);have V0:=hide (Mem.Blk.new w #[.map (some q), .slice ma M.length mc, .slice ha H.length hc, .int .i64 next] 65);have a0:=(za V0).cell 0;simp only [kGs] at a0;have HID:Hid ((Pl.vals E).map (·.1)=E.map (·.1)):=hide (Pl.vals_ids E);have HENT:=hide (fun (p:Int) (c:DataW Value) (h:∀z,(MapI.mapOf (Pl.vals E)).atKey (MapI.key p) z=c)=>MapI.ent_in h);rw [za HID] at HENT;clear HID
 have HHAS:Hid (∀d∈E.map (·.1),Maps.has (MapI.mapOf (Pl.vals E)) (MapI.key d)=true):=hide (fun d hd=>by rw [(Pl.zy1 hE d).1];exact decide_eq_true hd);generalize MapI.mapOf (Pl.vals E)=D at HM HENT HHAS;generalize E.map (·.1)=ids at HENT HHAS ⊢;have HU:Hid (Pl.zr4 ids M H=ids.all (fun d=>!decide (Pl.held M H d=0))):=rfl;generalize Pl.zr4 ids M H=RB at HU ⊢;clear hown hm hh hE;have e1:(w.alloc (.cells #[.map (some q), .slice ma M.length mc, .slice ha H.length hc, .int .i64 next] 65)).heap.size=w.heap.size+1:=by simp
 go_enter Tryz.func112,Tryz.ntmps112
 go_wp2_with (first
  |(at_range;refine wpList_range_own _ rfl _ 63 rfl 2 135 MapI.law Tryz.underlying63 _ q n _ rfl (za HM) ?_;intro w0 hrg0 hg0 hs0)
  |go_in)
 go_frame
 rw [e1] at hrg0 hs0 ⊢;have V1:=hide ((za V0).grown hg0 (by simp));have B1:=hide (b0.grown hg0 b0.size (fun j hj=>by cases hj));clear hg0 hs0 e1 V0 b0 HM a0
 go_loopw [2] (fun v wr=>∃ (left:Lit→Bool) (cnt:Nat),wr.ranges Tryz.prog 2 MapI.elem q (w.heap.size+1) n D left cnt∧Hid (∀d∈ids,left (MapI.key d)=false→Pl.held M H d≠0)∧Hid (Mem.Blk wr w.heap.size #[.map (some q), .slice ma M.length mc, .slice ha H.length hc, .int .i64 next] 65)∧Hid (Below w.heap.size w wr))
  (fun _ wr=>wr.rangeLeft q (w.heap.size+1))
 case atStart=>exact ⟨_,_,hrg0,fun d hd h=>(by rw [za HHAS d hd] at h;cases h),V1,B1⟩
 case round=>
  obtain ⟨left,cnt,hrg,HGT,V,HB⟩:=hrel;clear hrg0 V1 B1 HHAS
  go_wp2_with (first
   |(at_next;refine wpList_next_ranges _ rfl _ rfl 2 MapI.law MapI.elem (Value.int .i64) (fun v:Value=>v) (fun key kl hk=>by obtain ⟨x,hx,_⟩:=Maps.keyOf_int_inv Tryz.underlying2 hk;exact ⟨x,hx⟩) (fun v y hv=>⟨v,rfl⟩) q (w.heap.size+1) n _ _ _ rfl hrg ?_ ?_)
   |go_in)
  ·intro hc0 hl0
   have HE:Hid (RB=true):=hide (by
    rw [za HU,List.all_eq_true];intro d hd
    simpa using za HGT d hd (hl0 _))
   have bb:=za HB;clear HGT hrg hc0 hl0 HENT HB;go_wp2
   go_ret
   exact ⟨by rw [za HE];rfl,bb⟩
  ·intro x c kl yd yp w1 cnt1 hkey hlk hR hat hrg1 hlt hg1 hs1 hen;have ek:kl=MapI.key x:=by obtain ⟨x',hx,hk,_⟩:=Maps.keyOf_int_inv Tryz.underlying2 hkey;cases hx;exact hk
   subst ek;have hin:=za HENT x yd hat;have hne:=MapI.ranges_blk hrg (za V);have V1:=(za V).grown hg1 (fun e=>hne.1 (Option.some.inj e));have B1:=(za HB).grown hg1 (za HB).size (fun j hj=>by have :=Option.some.inj hj;omega);have HC:=hide (za HH _ B1 x);obtain ⟨a0,a1,a2,a3⟩:=jc4 V1;have HRG1:=hide hrg1;have HLE:=hide (hrg.left_eq);have HIN:=hide hin;have V2:=hide V1;clear hat hR hkey hlk hg1 hs1 hrg1 hrg V V1 hin hne HB;go_wp2_with fail
   refine (za HC).mono ?_;rintro e w6 ⟨rfl,bX⟩;have b6:=B1.trans (bX.mono B1.size);have V6:=hide ((za V2).call bX);have HR6:=hide ((za HRG1).kept (Mem.za4 bX none) (by simp) (by simp));clear HC V2 bX B1 a0 a1 a2 a3 HRG1 hen;by_cases h0:Pl.held M H x=0
   ·have h1:(Pl.held M H x==0)=true:=by simpa using h0
    have HE:Hid (RB=false):=hide (by
     rw [za HU,List.all_eq_false]
     exact ⟨x,za HIN,by simp [h0]⟩)
    generalize Pl.held M H x=hx at h1 ⊢;clear h0;go_wp2
    go_ret
    exact ⟨by rw [za HE];rfl,b6⟩
   ·have h1:(Pl.held M H x==0)=false:=by simpa using h0
    have HG2:Hid (∀d∈ids,(left (MapI.key d)&&!(MapI.key d).sameKey (MapI.key x))=false→Pl.held M H d≠0):=fun d hd h=>by
     by_cases e:d=x
     ·subst e;exact h0
     ·rw [MapI.same_ne e] at h;exact za HGT d hd (by simpa using h)
    generalize Pl.held M H x=hx at h1 ⊢;clear h0 HGT;go_wp2
    go_roundw
    case rel=>exact ⟨_,cnt1,za HR6,HG2,V6,hide b6⟩
    case measure=>rw [(za HR6).left_eq,za HLE];exact hlt
end WSpI
end
section
open Go.RowKit
namespace WSpI
theorem infoMn:(Tryz.prog.info? 49).map (fun i=>(i.zero,i.size,i.bytes))=some (some (.agg #[.string ⟨#[]⟩, .int .i64 0, .bool false]),3,32):=by kernel_rfl
theorem infoHn:(Tryz.prog.info? 113).map (fun i=>(i.zero,i.size,i.bytes))=some (some (.agg #[.int .i64 0, .int .i64 0, .string ⟨#[]⟩]),3,32):=by kernel_rfl
end WSpI
end
section
open Go.RowKit
namespace WSpI
theorem cloneMn_any (a:Option Addr) (cap:Nat) (M:List Pl.Mn) (w:World) (hl:M.length≤1000) (hA:(a=none∧cap=0∧M=[])∨∃g o,a=some ⟨g,o,none⟩) (hv:Mem.zc6 w a M):
  Calls Tryz.prog 108 #[.slice a M.length cap] w fun e w'=>(∃v,e= .returned v∧Mem.own3 49 Pl.Mn.cs w' w.heap.size v M)∧Below w.heap.size w w':=by
 obtain ⟨i0,hi,hz0,hz1,hz2⟩:=info_parts infoMn
 rcases hA with ⟨rfl,rfl,rfl⟩|⟨g,o,rfl⟩
 ·have heq:(binOp BinOp.eql 29 (.slice none 0 0) (.slice none 0 0)).run Tryz.prog w= .ok (.bool true) w:=by kernel_rfl
  have O:=hide (Mem.yb8 49 Pl.Mn.cs w w.heap.size);go_enter Tryz.func108,Tryz.ntmps108
  go_wp2
  go_ret
  exact ⟨⟨_,rfl,za O⟩,Below.refl _ _⟩
 ·have heq:(binOp BinOp.eql 29 (.slice (some ⟨g,o,none⟩) M.length cap) (.slice none 0 0)).run Tryz.prog w= .ok (.bool false) w:=by kernel_rfl
  have b2:Below w.heap.size w (w.alloc (.cells #[] 49)):=bE0
  have OA:Hid (Mem.own3 49 Pl.Mn.cs (w.alloc (.cells #[] 49)) w.heap.size (.slice (some ⟨w.heap.size,0,none⟩) 0 0) []):=
   ⟨rfl, .inr ⟨w.heap.size,0,#[],rfl,Nat.le_refl _,heap_alloc_new _ _,Nat.le_refl _,Nat.zero_le _,rfl,rfl⟩⟩
  have NV:=hide (Mem.row_of_mounts (Mem.zf0 hv b2));go_enter Tryz.func108,Tryz.ntmps108
  go_wp2_with (at_builtin;refine wpList_append_own _ rfl _ _ 29 rfl w.heap.size 49 i0 _ 3 32 Tryz.underlying29 hi hz0 hz1 hz2 rfl (by decide) _ _ _ rfl (za OA) ⟨g,o,none⟩ M.length cap (Pl.cells3 Pl.Mn.cs M) rfl (by rw [Pl.yd3 Pl.Mn.three]) (Mem.cells3_at Pl.Mn.three (za NV)) (Mem.cs3_one Mem.mn_one M) (by rw [List.length_nil,Nat.zero_add];unfold maxLen;omega) (by rw [List.length_nil,Nat.zero_add];omega) (by simp) ?_)
  intro v1 wA ownA growA _;have OB:Hid (Mem.own3 49 Pl.Mn.cs wA w.heap.size v1 M):=hide (show wA.ownsRow _ _ 3 v1 M.length (Pl.cells3 Pl.Mn.cs M) from ownA);have b3:=b2.grown growA b2.size (fun q hq=>by have h:w.heap.size=q:=Option.some.inj hq;omega);clear ownA growA OA NV hv;go_wp2
  go_ret
  exact ⟨⟨_,rfl,za OB⟩,b3⟩
theorem cloneHn_any (a:Option Addr) (cap:Nat) (M:List Pl.Hn) (w:World) (hl:M.length≤1000) (hA:(a=none∧cap=0∧M=[])∨∃g o,a=some ⟨g,o,none⟩) (hv:Mem.ze2 w a M):
  Calls Tryz.prog 109 #[.slice a M.length cap] w fun e w'=>(∃v,e= .returned v∧Mem.own3 113 Pl.Hn.cs w' w.heap.size v M)∧Below w.heap.size w w':=by
 obtain ⟨i0,hi,hz0,hz1,hz2⟩:=info_parts infoHn
 rcases hA with ⟨rfl,rfl,rfl⟩|⟨g,o,rfl⟩
 ·have heq:(binOp BinOp.eql 30 (.slice none 0 0) (.slice none 0 0)).run Tryz.prog w= .ok (.bool true) w:=by kernel_rfl
  have O:=hide (Mem.yb8 113 Pl.Hn.cs w w.heap.size);go_enter Tryz.func109,Tryz.ntmps109
  go_wp2
  go_ret
  exact ⟨⟨_,rfl,za O⟩,Below.refl _ _⟩
 ·have heq:(binOp BinOp.eql 30 (.slice (some ⟨g,o,none⟩) M.length cap) (.slice none 0 0)).run Tryz.prog w= .ok (.bool false) w:=by kernel_rfl
  have b2:Below w.heap.size w (w.alloc (.cells #[] 113)):=bE0
  have OA:Hid (Mem.own3 113 Pl.Hn.cs (w.alloc (.cells #[] 113)) w.heap.size (.slice (some ⟨w.heap.size,0,none⟩) 0 0) []):=
   ⟨rfl, .inr ⟨w.heap.size,0,#[],rfl,Nat.le_refl _,heap_alloc_new _ _,Nat.le_refl _,Nat.zero_le _,rfl,rfl⟩⟩
  have NV:=hide (Mem.row_of_hands (Mem.zg7 hv b2));go_enter Tryz.func109,Tryz.ntmps109
  go_wp2_with (at_builtin;refine wpList_append_own _ rfl _ _ 30 rfl w.heap.size 113 i0 _ 3 32 Tryz.underlying30 hi hz0 hz1 hz2 rfl (by decide) _ _ _ rfl (za OA) ⟨g,o,none⟩ M.length cap (Pl.cells3 Pl.Hn.cs M) rfl (by rw [Pl.yd3 Pl.Hn.three]) (Mem.cells3_at Pl.Hn.three (za NV)) (Mem.cs3_one Mem.hn_one M) (by rw [List.length_nil,Nat.zero_add];unfold maxLen;omega) (by rw [List.length_nil,Nat.zero_add];omega) (by simp) ?_)
  intro v1 wA ownA growA _;have OB:Hid (Mem.own3 113 Pl.Hn.cs wA w.heap.size v1 M):=hide (show wA.ownsRow _ _ 3 v1 M.length (Pl.cells3 Pl.Hn.cs M) from ownA);have b3:=b2.grown growA b2.size (fun q hq=>by have h:w.heap.size=q:=Option.some.inj hq;omega);clear ownA growA OA NV hv;go_wp2
  go_ret
  exact ⟨⟨_,rfl,za OB⟩,b3⟩
end WSpI
end
section
open Go.RowKit
namespace Mem
theorem yl3 {P:Program} (w:World) (base:Nat) (t ty e:TypeId) (i:TypeInfo) (z:Value) (size bytes:Nat) (ht:P.underlying t=some (.slice e)) (hi:P.info? e=some i) (hz:i.zero=some z)
  (hsize:i.size=size) (hby:i.bytes=bytes) (hzs:z.cells.size=size) (hsz:0<size)
  (v:Value) (n:Nat) (xs:List Value) (hown:w.ownsRow base e size v n xs)
  (a:Addr) (m c:Nat) (news:List Value) (hl:news.length=m*size) (hnews:∀j u,news[j]? =some u→w.cell? (a.add j)=some u) (h1:∀u∈news,u.oneCell'=true)
  (h63:n+m≤maxLen) (hbytes:(n+m)*bytes≤140737488355328) (hbase:base≤w.heap.size):
  ∃v' w',(Builtin.append_ #[t,t] ty #[v, .slice (some a) m c]).run P w= .ok v' w'∧w'.ownsRow base e size v' (n+m) (xs++news)∧w.grownBy w' v.ownBlock∧∀g,v'.ownBlock=some g→v.ownBlock=some g∨w.heap.size≤g:=by
 obtain ⟨v',w',hr,h2,h3, -⟩:=run_append_own (P:=P) w base t ty e i z size bytes ht hi hz hsize hby hzs hsz v n xs hown a m c news hl hnews h1 h63 hbytes hbase;refine ⟨v',w',hr,h2,h3,?_⟩
 rcases hown.2 with ⟨rfl,rfl⟩|⟨g,cap,cur,rfl,hbg,hg,hnc,hcm,hcs,htake⟩
 ·have hx:xs=[]:=List.eq_nil_of_length_eq_zero (by simpa using hown.1);subst hx;obtain ⟨v2,w2,hr2,k2, -, -⟩:=run_append_own (P:=P) w w.heap.size t ty e i z size bytes ht hi hz hsize hby hzs hsz _ 0 [] (World.ownsRow_nil w w.heap.size e size) a m c news hl hnews h1 h63 hbytes (Nat.le_refl _);rw [hr] at hr2;cases hr2
  exact fun g hg=> .inr (k2.lt g hg).1
 ·subst hsize hby
  by_cases hroom:n+m≤cap
  ·have hfit:n*i.size+news.length≤cur.size:=by rw [hl,hcs,←Nat.add_mul];exact Nat.mul_le_mul_right _ hroom
   rw [run_append_room (P:=P) w t ty e i ht hi g n cap cur hg a m c news hl hnews h1 hroom hfit] at hr;cases hr
   exact fun g hg=> .inl hg
  ·have holds:∀j u,xs[j]? =some u→w.cell? ((⟨g,0,none⟩:Addr).add j)=some u:=hown.cells (g:=g) rfl;have hsmall:n+m≤9223372036854775807:=by simp only [maxLen] at h63;omega
   rw [run_append_grow (P:=P) w t ty e i z ht hi hz ⟨g,0,none⟩ n cap xs hown.1 holds a m c news hl hnews (by omega) (by omega) (growslice_fits (by omega) hbytes)] at hr;cases hr
   intro g' hg';cases hg'
   exact .inr (Nat.le_refl _)
theorem zi9 {P:Program} (w:World) {ops:Array Oper} {rest:List Oper} {o:Oper} {a:Act} {Q:Exit→Act→World→Prop} (hgd:o.guard=none) (s x:Operand) (t:TypeId)
  (ho:o.op= .call { callee:= .builtin .append,args:=#[s,x],argTypes:=#[t,t] })
  (base:Nat) (e:TypeId) (i:TypeInfo) (z:Value) (size bytes:Nat) (ht:P.underlying t=some (.slice e)) (hi:P.info? e=some i) (hz:i.zero=some z)
  (hsize:i.size=size) (hby:i.bytes=bytes) (hzs:z.cells.size=size) (hsz:0<size)
  (v:Value) (n:Nat) (xs:List Value) (hs:a.eval s=v) (hown:w.ownsRow base e size v n xs)
  (ad:Addr) (m c:Nat) (news:List Value) (hx:a.eval x= .slice (some ad) m c) (hl:news.length=m*size) (hnews:∀j u,news[j]? =some u→w.cell? (ad.add j)=some u) (h1:∀u∈news,u.oneCell'=true)
  (h63:n+m≤maxLen) (hbytes:(n+m)*bytes≤140737488355328) (hbase:base≤w.heap.size)
  (h:∀v' w',w'.ownsRow base e size v' (n+m) (xs++news)→w.grownBy w' v.ownBlock→(∀g,v'.ownBlock=some g→v.ownBlock=some g∨w.heap.size≤g)→wpList P ops Q rest (a.put o.dst v') w'):wpList P ops Q (o::rest) a w:=
 wpList_plain hgd fun _ hK=>by
  obtain ⟨v',w',hr,h2,h3,h4⟩:=yl3 (P:=P) w base t o.type e i z size bytes ht hi hz hsize hby hzs hsz v n xs hown ad m c news hl hnews h1 h63 hbytes hbase;unfold Oper.wp execOp;simp only [ho,resolve,invoke,builtin,Sem.run_bind,Sem.run_pure,Result.andThen_ok,List.map_toArray,List.map_cons,List.map_nil,hs,hx,hr];exact hK _ _ (h v' w' h2 h3 h4)
end Mem
end
section
open Go.RowKit
namespace WNode
theorem is_any (a b c : Int) (w : World) :
    Calls Tryz.prog 70 #[.int .i64 a, .int .i64 b, .int .i64 c] w fun e w' => e = .returned (.bool (decide (b ≤ a) && decide (a ≤ c))) ∧ w' = w := by
  by_cases h1 : b ≤ a
  · go_enter Tryz.func70, Tryz.ntmps70
    go_wp2
    go_ret
    exact ⟨za1 (by simp [h1]), rfl⟩
  · go_enter Tryz.func70, Tryz.ntmps70
    go_wp2
    go_ret
    exact ⟨za1 (by simp [show ¬ b ≤ a by omega]), rfl⟩
theorem time_any (a : Int) (w : World) :
    Calls Tryz.prog 169 #[.int .i64 a] w fun e w' => e = .returned (.bool (decide (0 ≤ a) && decide (a ≤ 1000000))) ∧ w' = w := by
  go_enter Tryz.func169, Tryz.ntmps169
  go_wp2_with fail
  refine (is_any a 0 1000000 _).mono ?_
  rintro e w1 ⟨rfl, rfl⟩
  go_wp2
  go_ret
  exact ⟨rfl, rfl⟩
theorem zt1 (n : Pl.Nd) (w : World) (hp : n.path.size ≤ 1048576) (hd : n.data.size ≤ 1048576) :
    Calls Tryz.prog 152 #[n.val] w fun e w' => e = .returned (.bool (Pl.zb6 n)) ∧ Below w.heap.size w w' := by
  have E0 := hide (@Pl.yf2 n)
  have E1 := hide (@Pl.node_path n)
  have E2 := hide (@Pl.node_data n)
  have E3 := hide (@Pl.node_time n)
  have E4 := hide (@Pl.node_mark n)
  have E5 := hide (@Pl.node_kind n)
  have EK : Hid (Pl.zj0 n = (if n.kind = 0 then decide (n.data.size = 0) && decide (n.time = 0) && decide (1 ≤ n.mark) else if n.kind = 1 then decide (n.data.size = 0) else if n.kind = 2 then decide (n.mark = 0) else false)) := rfl
  generalize Pl.zb6 n = R at E0 E1 E2 E3 E4 E5 ⊢
  generalize Pl.zj0 n = R2 at E5 EK
  obtain ⟨p, k, d, t, m⟩ := n
  simp only at hp hd E0 E1 E2 E3 E4 E5 EK
  simp only [Pl.Nd.val]
  have hr := hide (fun W => zd1.zv8 p W hp)
  generalize Pl.za0 p = r at hr E1 E5
  by_cases h0 : p.size = 0
  · have E := hide (za E0 h0)
    have t0 : p.toList.isEmpty = true := by rw [Pl.zb7]; simpa [Pl.zf5] using h0
    clear E0 E1 E2 E3 E4 E5 EK
    go_enter Tryz.func152, Tryz.ntmps152
    go_wp2
    go_ret
    exact ⟨za1 (za E).symm, (Below.refl _ _).alloc (Nat.le_refl _) _⟩
  have t0 : p.toList.isEmpty = false := by rw [Pl.zb7]; simpa [Pl.zf5] using h0
  cases r
  · have E := hide (za E1 rfl)
    clear E0 E1 E2 E3 E4 E5 EK
    go_enter Tryz.func152, Tryz.ntmps152
    have hv := Mem.zk2 w [.string p, .int .i64 k, .string d, .int .i64 t, .int .i64 m] 55
    have hb0 : Below w.heap.size w (w.alloc (.cells #[.string p, .int .i64 k, .string d, .int .i64 t, .int .i64 m] 55)) := (Below.refl _ _).alloc (Nat.le_refl _) _
    go_wp2_with fail
    refine (za hr _).mono ?_
    rintro e w1 ⟨rfl, b1⟩
    have b2 := hb0.trans (b1.mono hb0.size)
    clear hv hb0 b1
    go_wp2
    go_ret
    exact ⟨za1 (za E).symm, b2⟩
  have E := hide (fun h2 h3 h4 => za E5 h0 rfl h2 h3 h4)
  clear E0 E1 E5
  have LEN : Hid (d.size = 0 ↔ d.toList.isEmpty = true) := by show _ ↔ _; rw [Pl.zb7]; simp [Pl.zf5]
  go_enter Tryz.func152, Tryz.ntmps152
  have hv := Mem.zk2 w [.string p, .int .i64 k, .string d, .int .i64 t, .int .i64 m] 55
  have hb0 : Below w.heap.size w (w.alloc (.cells #[.string p, .int .i64 k, .string d, .int .i64 t, .int .i64 m] 55)) := (Below.refl _ _).alloc (Nat.le_refl _) _
  go_wp2_with fail
  refine (za hr _).mono ?_
  rintro e w1 ⟨rfl, b1⟩
  have hb := hb0.trans (b1.mono hb0.size)
  obtain ⟨-, hc⟩ := Mem.zu hv b1
  have c0 := hc 0 _ rfl
  have c1 := hc 1 _ rfl
  have c2 := hc 2 _ rfl
  have c3 := hc 3 _ rfl
  have c4 := hc 4 _ rfl
  clear hv hb0 b1 hc hr
  by_cases h2 : 60 < d.size
  · have F := hide (za E2 h2)
    clear E E2 E3 E4 EK
    go_wp2
    go_ret
    exact ⟨za1 (za F).symm, hb⟩
  have t2 : decide ((60 : Int) < (d.size : Int)) = false := by simp; omega
  by_cases h3 : 0 ≤ t ∧ t ≤ 1000000
  rotate_left
  · have F := hide (za E3 h3)
    have V : (decide (0 ≤ t) && decide (t ≤ 1000000)) = false := by simpa using h3
    clear E E2 E3 E4 EK
    go_wp2_with fail
    refine (time_any t _).mono ?_
    rintro e w2 ⟨rfl, hw⟩
    rw [V]
    obtain rfl := hw.symm
    go_wp2
    go_ret
    exact ⟨za1 (za F).symm, hb⟩
  have V : (decide (0 ≤ t) && decide (t ≤ 1000000)) = true := by simpa using h3
  go_wp2_with fail
  refine (time_any t _).mono ?_
  rintro e w2 ⟨rfl, hw⟩
  rw [V]
  obtain rfl := hw.symm
  clear V hw
  by_cases h4 : 0 ≤ m ∧ m ≤ 8
  rotate_left
  · have F := hide (za E4 h4)
    have V : (decide (0 ≤ m) && decide (m ≤ 8)) = false := by simpa using h4
    clear E E2 E3 E4 EK
    go_wp2_with fail
    refine (is_any m 0 8 _).mono ?_
    rintro e w2 ⟨rfl, hw⟩
    rw [V]
    obtain rfl := hw.symm
    go_wp2
    go_ret
    exact ⟨za1 (za F).symm, hb⟩
  have V : (decide (0 ≤ m) && decide (m ≤ 8)) = true := by simpa using h4
  go_wp2_with fail
  refine (is_any m 0 8 _).mono ?_
  rintro e w2 ⟨rfl, hw⟩
  rw [V]
  obtain rfl := hw.symm
  clear V hw
  have F := hide ((za E (by omega) h3 h4).trans (za EK))
  clear E E2 E3 E4 EK
  by_cases hd0 : d.size = 0
  · have u0 : d.toList.isEmpty = true := (za LEN).1 hd0
    clear LEN
    by_cases k0 : k = 0
    · subst k0
      by_cases m1 : 1 ≤ m
      · go_wp2
        go_ret
        exact ⟨za1 (by rw [za F]; simp [hd0, m1]; rfl), hb⟩
      · go_wp2
        go_ret
        exact ⟨za1 (by rw [za F]; simp [hd0, m1]), hb⟩
    by_cases k1 : k = 1
    · subst k1
      go_wp2
      go_ret
      exact ⟨za1 (by rw [za F]; simp [hd0]), hb⟩
    by_cases k2 : k = 2
    · subst k2
      go_wp2
      go_ret
      exact ⟨za1 (by rw [za F]; simp; rfl), hb⟩
    · have e0 : (k == 0) = false := by simpa using k0
      have e1 : (k == 1) = false := by simpa using k1
      have e2 : (k == 2) = false := by simpa using k2
      go_wp2
      go_ret
      exact ⟨za1 (by rw [za F]; simp [k0, k1, k2]), hb⟩
  · have u0 : d.toList.isEmpty = false := by
      cases hx : d.toList.isEmpty
      · rfl
      · exact absurd ((za LEN).2 hx) hd0
    clear LEN
    by_cases k2 : k = 2
    · subst k2
      go_wp2
      go_ret
      exact ⟨za1 (by rw [za F]; simp; rfl), hb⟩
    · have e2 : (k == 2) = false := by simpa using k2
      go_wp2
      go_ret
      exact ⟨za1 (by rw [za F]; simp [hd0, k2]), hb⟩
theorem kind_any (n : Pl.Nd) (w : World) (hd : n.data.size ≤ 1048576) :
    Calls Tryz.prog 196 #[n.val] w fun e w' => e = .returned (.bool (Pl.zj0 n)) ∧ Below w.heap.size w w' := by
  have EK : Hid (Pl.zj0 n = (if n.kind = 0 then decide (n.data.size = 0) && decide (n.time = 0) && decide (1 ≤ n.mark) else if n.kind = 1 then decide (n.data.size = 0) else if n.kind = 2 then decide (n.mark = 0) else false)) := rfl
  generalize Pl.zj0 n = R at EK ⊢
  obtain ⟨p, k, d, t, m⟩ := n
  simp only at hd EK
  simp only [Pl.Nd.val]
  have LEN : Hid (d.size = 0 ↔ d.toList.isEmpty = true) := by show _ ↔ _; rw [Pl.zb7]; simp [Pl.zf5]
  have hb : ∀ o, Below w.heap.size w (w.alloc o) := fun o => (Below.refl _ _).alloc (Nat.le_refl _) o
  have HB := hide hb
  clear hb
  by_cases hd0 : d.size = 0
  · have u0 : d.toList.isEmpty = true := (za LEN).1 hd0
    clear LEN
    by_cases k0 : k = 0
    · subst k0
      by_cases t1 : t = 0
      · subst t1
        by_cases m1 : 1 ≤ m
        · have m2 : 0 < m := by omega
          go_enter Tryz.func196, Tryz.ntmps196
          go_wp2
          go_ret
          exact ⟨za1 (by rw [za EK]; simp [hd0, m1]), za HB _⟩
        · have m2 : ¬ 0 < m := by omega
          go_enter Tryz.func196, Tryz.ntmps196
          go_wp2
          go_ret
          exact ⟨za1 (by rw [za EK]; simp [hd0, m1]), za HB _⟩
      · have t2 : (t == 0) = false := by simpa using t1
        go_enter Tryz.func196, Tryz.ntmps196
        go_wp2
        go_ret
        exact ⟨za1 (by rw [za EK]; simp [hd0, t1]), za HB _⟩
    by_cases k1 : k = 1
    · subst k1
      go_enter Tryz.func196, Tryz.ntmps196
      go_wp2
      go_ret
      exact ⟨za1 (by rw [za EK]; simp [hd0]), za HB _⟩
    by_cases k2 : k = 2
    · subst k2
      go_enter Tryz.func196, Tryz.ntmps196
      go_wp2
      go_ret
      exact ⟨za1 (by rw [za EK]; simp; rfl), za HB _⟩
    · have e0 : (k == 0) = false := by simpa using k0
      have e1 : (k == 1) = false := by simpa using k1
      have e2 : (k == 2) = false := by simpa using k2
      go_enter Tryz.func196, Tryz.ntmps196
      go_wp2
      go_ret
      exact ⟨za1 (by rw [za EK]; simp [k0, k1, k2]), za HB _⟩
  · have u0 : d.toList.isEmpty = false := by
      cases hx : d.toList.isEmpty
      · rfl
      · exact absurd ((za LEN).2 hx) hd0
    clear LEN
    by_cases k0 : k = 0
    · subst k0
      go_enter Tryz.func196, Tryz.ntmps196
      go_wp2
      go_ret
      exact ⟨za1 (by rw [za EK]; simp [hd0]), za HB _⟩
    by_cases k1 : k = 1
    · subst k1
      go_enter Tryz.func196, Tryz.ntmps196
      go_wp2
      go_ret
      exact ⟨za1 (by rw [za EK]; simp [hd0]), za HB _⟩
    by_cases k2 : k = 2
    · subst k2
      go_enter Tryz.func196, Tryz.ntmps196
      go_wp2
      go_ret
      exact ⟨za1 (by rw [za EK]; simp; rfl), za HB _⟩
    · have e0 : (k == 0) = false := by simpa using k0
      have e1 : (k == 1) = false := by simpa using k1
      have e2 : (k == 2) = false := by simpa using k2
      go_enter Tryz.func196, Tryz.ntmps196
      go_wp2
      go_ret
      exact ⟨za1 (by rw [za EK]; simp [k0, k1, k2]), za HB _⟩
theorem content_any (n : Pl.Nd) (w : World) (hd : n.data.size ≤ 1048576) :
    Calls Tryz.prog 195 #[n.val] w fun e w' => e = .returned (.bool (Pl.zq1 n)) ∧ Below w.heap.size w w' := by
  have E2 := hide (@Pl.cont_data n)
  have E3 := hide (@Pl.cont_time n)
  have E4 := hide (@Pl.cont_mark n)
  have E5 := hide (@Pl.cont_kind n)
  have EK := hide (fun W => kind_any n W hd)
  generalize Pl.zq1 n = R at E2 E3 E4 E5 ⊢
  generalize Pl.zj0 n = R2 at E5 EK
  obtain ⟨p, k, d, t, m⟩ := n
  simp only at hd E2 E3 E4 E5
  simp only [Pl.Nd.val] at EK ⊢
  have hb : Below w.heap.size w (w.alloc (.cells #[.string p, .int .i64 k, .string d, .int .i64 t, .int .i64 m] 55)) := (Below.refl _ _).alloc (Nat.le_refl _) _
  by_cases h2 : 60 < d.size
  · have F := hide (za E2 h2)
    clear E2 E3 E4 E5 EK
    go_enter Tryz.func195, Tryz.ntmps195
    go_wp2
    go_ret
    exact ⟨za1 (za F).symm, hb⟩
  have t2 : decide ((60 : Int) < (d.size : Int)) = false := by simp; omega
  by_cases h3 : 0 ≤ t ∧ t ≤ 1000000
  rotate_left
  · have F := hide (za E3 h3)
    clear E2 E3 E4 E5 EK
    by_cases h5 : t < 0
    · go_enter Tryz.func195, Tryz.ntmps195
      go_wp2
      go_ret
      exact ⟨za1 (za F).symm, hb⟩
    · have h6 : ¬ t ≤ 1000000 := by omega
      go_enter Tryz.func195, Tryz.ntmps195
      go_wp2
      go_ret
      exact ⟨za1 (za F).symm, hb⟩
  obtain ⟨h5, h6⟩ := h3
  by_cases h4 : 0 ≤ m ∧ m ≤ 8
  rotate_left
  · have F := hide (za E4 h4)
    clear E2 E3 E4 E5 EK
    by_cases h7 : m < 0
    · go_enter Tryz.func195, Tryz.ntmps195
      go_wp2
      go_ret
      exact ⟨za1 (za F).symm, hb⟩
    · have h8 : ¬ m ≤ 8 := by omega
      go_enter Tryz.func195, Tryz.ntmps195
      go_wp2
      go_ret
      exact ⟨za1 (za F).symm, hb⟩
  obtain ⟨h7, h8⟩ := h4
  have F := hide (za E5 (by omega) ⟨h5, h6⟩ ⟨h7, h8⟩)
  clear E2 E3 E4 E5
  go_enter Tryz.func195, Tryz.ntmps195
  go_wp2_with fail
  refine (za EK _).mono ?_
  rintro e w2 ⟨rfl, b2⟩
  have b3 := hb.trans (b2.mono hb.size)
  clear hb b2
  go_wp2
  go_ret
  exact ⟨za1 (za F).symm, b3⟩
theorem zx9 (n : Pl.Nd) (w : World) (hp : n.path.size ≤ 1048576) (hd : n.data.size ≤ 1048576) :
    Calls Tryz.prog 192 #[n.val] w fun e w' => e = .returned (.bool (Pl.zb6 n)) ∧ Below w.heap.size w w' := by
  have E0 := hide (@Pl.yf2 n)
  have E1 := hide (@Pl.node_path n)
  have E5 := hide (@Pl.node_cont n)
  have EK := hide (fun W => content_any n W hd)
  generalize Pl.zb6 n = R at E0 E1 E5 ⊢
  generalize Pl.zq1 n = R2 at E5 EK
  obtain ⟨p, k, d, t, m⟩ := n
  simp only at hp hd E0 E1 E5
  simp only [Pl.Nd.val] at EK ⊢
  have hr := hide (fun W => zh0.zh7 p W hp)
  generalize Pl.za0 p = r at hr E1 E5
  have hv := Mem.zk2 w [.string p, .int .i64 k, .string d, .int .i64 t, .int .i64 m] 55
  have hb0 : Below w.heap.size w (w.alloc (.cells #[.string p, .int .i64 k, .string d, .int .i64 t, .int .i64 m] 55)) := (Below.refl _ _).alloc (Nat.le_refl _) _
  by_cases h0 : p.size = 0
  · have E := hide (za E0 h0)
    have t0 : p.toList.isEmpty = true := by rw [Pl.zb7]; simpa [Pl.zf5] using h0
    clear E0 E1 E5 EK hv
    go_enter Tryz.func192, Tryz.ntmps192
    go_wp2
    go_ret
    exact ⟨za1 (za E).symm, hb0⟩
  have t0 : p.toList.isEmpty = false := by rw [Pl.zb7]; simpa [Pl.zf5] using h0
  cases r
  · have E := hide (za E1 rfl)
    clear E0 E1 E5 EK
    go_enter Tryz.func192, Tryz.ntmps192
    go_wp2_with fail
    refine (za hr _).mono ?_
    rintro e w1 ⟨rfl, b1⟩
    have b2 := hb0.trans (b1.mono hb0.size)
    clear hv hb0 b1
    go_wp2
    go_ret
    exact ⟨za1 (za E).symm, b2⟩
  have F := hide (za E5 h0 rfl)
  clear E0 E1 E5
  go_enter Tryz.func192, Tryz.ntmps192
  go_wp2_with fail
  refine (za hr _).mono ?_
  rintro e w1 ⟨rfl, b1⟩
  have hb := hb0.trans (b1.mono hb0.size)
  obtain ⟨-, hc⟩ := Mem.zu hv b1
  have c0 := hc 0 _ rfl
  have c1 := hc 1 _ rfl
  have c2 := hc 2 _ rfl
  have c3 := hc 3 _ rfl
  have c4 := hc 4 _ rfl
  clear hv hb0 b1 hc hr
  go_wp2_with fail
  refine (za EK _).mono ?_
  rintro e w2 ⟨rfl, b2⟩
  have b3 := hb.trans (b2.mono hb.size)
  clear hb b2
  go_wp2
  go_ret
  exact ⟨za1 (za F).symm, b3⟩
end WNode
end
section
open Go.RowKit Go.Maps
namespace Pl
structure Inv (C:List Nd) (lp:ByteArray):Prop where
 right:za0 lp=true
 rise:C.Pairwise (fun a b=>za7 (names a.path) (names b.path)=true)
 last:∀a∈C,a.path=lp∨za7 (names a.path) (names lp)=true
theorem inv_start:Inv [] ⟨#[]⟩:=⟨(zj1 rfl).1,List.Pairwise.nil,fun a ha=>by cases ha⟩
theorem inv_apart {C:List Nd} {lp:ByteArray} (h:Inv C lp):C.Pairwise (fun a b=>a.path≠b.path):=
 h.rise.imp (fun {a b} hab e=>by rw [e,zq9] at hab;cases hab)
theorem inv_step {C:List Nd} {lp:ByteArray} {n:Nd} (h:Inv C lp) (hn:zb6 n=true) (hl:ltP lp n.path=true):Inv (C++[n]) n.path:=by
 have hr:=(zm2 hn).1;rw [zo2 h.right hr] at hl
 have hall:∀a∈C,za7 (names a.path) (names n.path)=true:=fun a ha=>by
  rcases h.last a ha with e|e
  ·rw [e];exact hl
  ·exact zn3 _ _ _ e hl
 refine ⟨hr,?_,fun a ha=>?_⟩
 ·rw [List.pairwise_append];exact ⟨h.rise,List.pairwise_singleton _ _,fun a ha b hb=>by simp at hb;subst hb;exact hall a ha⟩
 ·rcases List.mem_append.1 ha with ha|ha
  ·exact .inr (hall a ha)
  ·simp at ha;subst ha;exact .inl rfl
theorem goI_step (L:List Nd) {n:Nd} {k:Nat} (h:L[k]? =some n) (C:List Nd) (lp:ByteArray):goI C lp (L.drop k)=(zb6 n&&ltP lp n.path&&parI C n.path&&goI (C++[n]) n.path (L.drop (k+1))):=by
 have h1:=(List.getElem?_eq_some_iff.1 h);rw [List.drop_eq_getElem_cons h1.1,h1.2,goI]
theorem take_snoc' (L:List Nd) {n:Nd} {k:Nat} (h:L[k]? =some n):L.take (k+1)=L.take k++[n]:=by
 have h1:=(List.getElem?_eq_some_iff.1 h);rw [List.take_succ_eq_append_getElem h1.1,h1.2]
end Pl
namespace zq0
theorem nodes_any (a:Option Addr) (cap:Nat) (L:List Pl.Nd) (w:World) (hl:L.length≤1048576) (hv:Mem.zb1 w a L) (hok:∀n∈L,n.path.size≤1048576∧n.data.size≤1048576)
  (r1 r2 r3:TypeId) (x1 x2 x3:Value) (hE:Errs w r1 r2 r3 x1 x2 x3):
  Calls Tryz.prog 185 #[.agg #[.slice a L.length cap]] w fun e w'=>((Pl.zc7 L=true∧∃B,e= .returned (.tuple #[.map (some B), .nilIface])∧w.heap.size≤B∧w'.ownsMap Tryz.prog 9 MapN.elem B 40 (MapN.mapOf L))∨
   (Pl.zc7 L=false∧e= .returned (.tuple #[.map none, .iface r1 x1])))∧Below w.heap.size w w':=by
 have b0:Below w.heap.size w (w.alloc (.cells #[.slice a L.length cap] 107)):=bE0;have HV:=hide hv;have HO:=hide hok;have HE:=hide hE;have hvar:=hide (Mem.zk2 w [.slice a L.length cap] 107);have hmm:=@run_makeMap Tryz.prog;have k1:=(hE.call b0).c1;clear hv hok hE;by_cases h40:40<L.length
 ·have F:=hide (show Pl.zc7 L=false by simp [Pl.zc7];omega);go_enter Tryz.func185,Tryz.ntmps185
  go_wp2
  go_region
  go_wp2
  go_ret2
  exact ⟨.inr ⟨za F,rfl⟩,Mem.below_drewN b0 1⟩
 have h41:Pl.zc7 L=Pl.goI [] ⟨#[]⟩ L:=by rw [Pl.zc7,show decide (L.length≤40)=true by simp;omega];rfl
 rw [h41];clear h41;generalize hR:Pl.goI [] ⟨#[]⟩ L=R;have HR:=hide hR;clear hR;go_enter Tryz.func185,Tryz.ntmps185
 go_wp2
 go_loopw [5,17] (fun v i wr=>∃ (k:Nat) (lp:ByteArray),k≤L.length∧i= .int .i64 (k:Int)∧v= .string lp∧lp.size≤200∧Below w.heap.size w wr∧Hid (wr.ownsMap Tryz.prog 9 MapN.elem (w.heap.size+1) k (MapN.mapOf (L.take k)))∧Hid (Pl.Inv (L.take k) lp)∧Hid (R=Pl.goI (L.take k) lp (L.drop k))) (fun _ i _=>L.length - (intOf i).toNat)
 case atStart=>
  refine ⟨0,⟨#[]⟩,Nat.zero_le _,rfl,rfl,Nat.zero_le _,?_,?_,Pl.inv_start,(za HR).symm⟩
  ·exact b0.alloc (by simp) _
  ·have h:=World.ownsMap_made (w.alloc (.cells #[.slice a L.length cap] 107)) Tryz.prog 9 MapN.elem;rw [show (w.alloc (.cells #[.slice a L.length cap] 107)).heap.size=w.heap.size+1 by simp] at h;exact h
 case round=>
  obtain ⟨k,lp,hk,rfl,rfl,hlp,hbel,HM,HI,HR2⟩:=hrel;by_cases hlt:k<L.length
  ·obtain ⟨n,hn⟩:∃n,L[k]? =some n:=⟨_,List.getElem?_eq_getElem hlt⟩;obtain ⟨b,o,rfl,hb,q0,q1,q2,q3,q4⟩:=(Mem.za9 (za HV) hbel) k n hn;have y1:(k:Int)<(L.length:Int):=by omega
   have y3:(0:Int)≤(k:Int):=by omega
   have hBl:=(za HM).lt;have hsn:=za HO n (List.mem_of_getElem? hn);have hnr:=hide (fun W=>WNode.zx9 n W hsn.1 hsn.2);have hls:=hide (fun W=>WLess.less_any lp n.path W (by omega) hsn.1)
   change Hid (∀W,Calls Tryz.prog _ _ W fun e w'=>e= .returned (.bool (Pl.ltP lp n.path))∧_) at hls
   have hpf:=hide (fun W hE hown hC=>fault_any (w.heap.size+1) k (L.take k) n.path W r1 r2 r3 x1 x2 x3 hE hown hC hsn.1);have UG:=hide (Pl.goI_step L (n:=n) (k:=k) hn (L.take k) lp);have HN:=hide hn;have hkey:=MapN.zo0 (p:=n.path) (by have :=hsn.1;unfold maxLen;omega);have zn:=Mem.zk2 wr [.string n.path, .int .i64 n.kind, .string n.data, .int .i64 n.time, .int .i64 n.mark] 55;have bw1:Below wr.heap.size wr (wr.alloc (.cells #[.string n.path, .int .i64 n.kind, .string n.data, .int .i64 n.time, .int .i64 n.mark] 55)):=bE0;have bw2:=hbel.trans (bw1.mono hbel.size);have HM1:=hide (zf9 (za HM) bw1);clear hn HM;simp only [Pl.Nd.val] at hnr;go_wp2_with fail
   refine (za hnr _).mono ?_;rintro e wA ⟨rfl,bA⟩;have znA:=Mem.zu zn bA;have bwA:=bw2.trans (bA.mono bw2.size);have HMA:=hide (zf9 (za HM1) bA);have kA:=((za HE).call bwA).c1;clear zn bw1 bw2 bA HM1 q0 q1 q2 q3 q4 hnr;have c0:=znA.2 0 _ rfl;cases hnb:Pl.zb6 n
   ·have F:=hide (show R=false by rw [za HR2,za UG,hnb];rfl);clear hnb;go_wp2
    go_region
    go_wp2
    go_ret2
    exact ⟨.inr ⟨za F,rfl⟩,Mem.below_drewN bwA 1⟩
   have HNB:=hide hnb;clear hnb;go_wp2_with fail
   refine (za hls _).mono ?_;rintro e wB ⟨rfl,bB⟩;have znB:=Mem.zu znA bB;have bwB:=bwA.trans (bB.mono bwA.size);have HMB:=hide (zf9 (za HMA) bB);have kB:=((za HE).call bwB).c1;clear znA bwA bB HMA c0 kA hls;have c0:=znB.2 0 _ rfl;cases hlb:Pl.ltP lp n.path
   ·have F:=hide (show R=false by rw [za HR2,za UG,za HNB,hlb];rfl);clear hlb;go_wp2
    go_region
    go_wp2
    go_ret2
    exact ⟨.inr ⟨za F,rfl⟩,Mem.below_drewN bwB 1⟩
   have HLB:=hide hlb;clear hlb;go_wp2_with fail
   refine (za hpf _ ((za HE).call bwB) (za HMB) (Pl.inv_apart (za HI))).mono ?_;rintro e wC ⟨rfl,bC⟩;have znC:=Mem.zu znB bC;have bwC:=bwB.trans (bC.mono bwB.size);have HMC:=hide (zf9 (za HMB) bC);have kC:=((za HE).call bwC).c1;clear znB bwB bC HMB c0 kB hpf
   rcases Pl.par_ok (p:=n.path) (u2:=r2) (u3:=r3) (x2:=x2) (x3:=x3) (Pl.inv_apart (za HI)) with ⟨hp1,hp2⟩|⟨hp1,uu,xx,hp2⟩
   rotate_left
   ·have F:=hide (show R=false by rw [za HR2,za UG,za HNB,za HLB,hp1];rfl);rw [hp2];clear hp1 hp2;go_wp2
    go_region
    go_wp2
    go_ret2
    exact ⟨.inr ⟨za F,rfl⟩,Mem.below_drewN bwC 1⟩
   have HR3:=hide (show R=Pl.goI (L.take k++[n]) n.path (L.drop (k+1)) by rw [za HR2,za UG,za HNB,za HLB,hp1];rfl);rw [hp2];clear hp1 hp2;have c0:=znC.2 0 _ rfl;have c1:=znC.2 1 _ rfl;have c2:=znC.2 2 _ rfl;have c3:=znC.2 3 _ rfl;have c4:=znC.2 4 _ rfl;have hzl:=znC.1;have hne:some wr.heap.size≠some (w.heap.size+1):=fun e=>by have :=Option.some.inj e;omega
   go_wp2_with (first |(at_mapUpdate;refine wpList_mapUpdate_own _ rfl _ _ _ 130 rfl 9 55 MapN.law Tryz.underlying130 _ (w.heap.size+1) k _ rfl (za HMC) (by unfold maxLen;omega) _ _ _ rfl rfl hkey _ [] (MapN.zt2 n) ?_;intro wD hownD hgrowD;have cD:=hgrowD.cell c0 hne;have HOD:=hide hownD;have bwD:=bwC.grown hgrowD bwC.size (fun k hk=>by cases hk;omega);clear hownD hgrowD)|fail)
   have HI2:=hide (Pl.inv_step (za HI) (za HNB) (za HLB));have hnl:=Pl.zg0 (Pl.zm2 (za HNB)).1;have HT:=hide (Pl.take_snoc' L (za HN));go_wp2
   go_roundw
   case rel=>
    refine ⟨k+1,n.path,by omega,by go_num,rfl,hnl,bwD,?_,?_,?_⟩
    ·rw [za HT,MapN.yc3];exact HOD
    ·rw [za HT];exact HI2
    ·rw [za HT];exact HR3
   case measure=>simp [intOf];omega
  ·obtain rfl:k=L.length:=by omega
   have F:=hide (show R=true by rw [za HR2,List.drop_length];rfl);rw [List.take_length] at HM;clear HR2;go_wp2
   go_ret2
   exact ⟨.inl ⟨za F,w.heap.size+1,rfl,by omega,(za HM).mono (by omega)⟩,hbel⟩
end zq0
end
section
open Go.RowKit
namespace zu9
theorem item_any (m:Int) (a:Option Addr) (cap:Nat) (L:List Pl.Nd) (w:World) (hl:L.length≤1048576) (hv:Mem.zb1 w a L) (hok:∀n∈L,n.path.size≤1048576∧n.data.size≤1048576)
  (r1 r2 r3:TypeId) (x1 x2 x3:Value) (hE:zq0.Errs w r1 r2 r3 x1 x2 x3):
  Calls Tryz.prog 171 #[.agg #[.int .i64 m, .slice a L.length cap]] w fun e w'=>((Pl.zg6 m L=true∧∃B,e= .returned (.tuple #[.agg #[.map (some B), .int .i64 m], .nilIface])∧w.heap.size≤B∧Mem.ownM w' B L)∨
   (Pl.zg6 m L=false∧∃k,e= .returned (.tuple #[.agg #[.map none, .int .i64 k], .iface r1 x1])))∧Below w.heap.size w w':=by
 have b0:Below w.heap.size w ((w.alloc (.cells #[.int .i64 m, .slice a L.length cap] 109)).alloc (.cells #[.map none, .int .i64 0] 132)):=(bE0).alloc (by simp) _;have k1:=(hE.call b0).c1;have HB0:=hide b0;by_cases h1:m<0
 ·have hb:Pl.zg6 m L=false:=by unfold Pl.zg6;rw [show decide (0≤m)=false from decide_eq_false (by omega)];simp
  clear b0 hv hok hE;go_enter Tryz.func171,Tryz.ntmps171
  go_wp2
  go_region
  go_wp2
  refine bodyPost_ret (v:= .tuple #[.agg #[.map none, .int .i64 0], .iface r1 x1]) (by simp [results,Tryz.results171,go_sem]) rfl ⟨.inr ⟨hb,0,rfl⟩,?_⟩;exact Mem.below_drewN (za HB0) 1
 by_cases h2:4<m
 ·have hb:Pl.zg6 m L=false:=by unfold Pl.zg6;rw [show decide (m≤4)=false from decide_eq_false (by omega)];simp
  clear b0 hv hok hE;go_enter Tryz.func171,Tryz.ntmps171
  go_wp2
  go_region
  go_wp2
  refine bodyPost_ret (v:= .tuple #[.agg #[.map none, .int .i64 0], .iface r1 x1]) (by simp [results,Tryz.results171,go_sem]) rfl ⟨.inr ⟨hb,0,rfl⟩,?_⟩;exact Mem.below_drewN (za HB0) 1
 by_cases h3:0<m∧0<L.length
 ·have hb:Pl.zg6 m L=false:=by
   rw [Pl.yd0 (by omega),show decide (L.length=0)=false from decide_eq_false (by omega)];simp
  have u1:=h3.1;have u2:(0:Int)<(L.length:Int):=by omega
  clear b0 hv hok hE;go_enter Tryz.func171,Tryz.ntmps171
  go_wp2
  go_region
  go_wp2
  refine bodyPost_ret (v:= .tuple #[.agg #[.map none, .int .i64 0], .iface r1 x1]) (by simp [results,Tryz.results171,go_sem]) rfl ⟨.inr ⟨hb,0,rfl⟩,?_⟩;exact Mem.below_drewN (za HB0) 1
 have hb:Pl.zg6 m L=Pl.zc7 L:=by
  by_cases h0:m=0
  ·subst h0;exact Pl.yj0 L
  ·have hL:L=[]:=List.eq_nil_of_length_eq_zero (by omega);subst hL;rw [Pl.yd0 h0,Pl.treeB_nil,decide_eq_true (show 1≤m by omega),decide_eq_true (show m≤4 by omega)];rfl
 rw [hb];have hz:=hide (zq0.nodes_any a cap L _ hl (Mem.za9 hv b0) hok r1 r2 r3 x1 x2 x3 (hE.call b0))
 have r2':Mem.Blk ((w.alloc (.cells #[.int .i64 m, .slice a L.length cap] 109)).alloc (.cells #[.map none, .int .i64 0] 132)) (w.heap.size+1) #[.map none, .int .i64 0] 132:=by
  have :=Mem.Blk.new (w.alloc (.cells #[.int .i64 m, .slice a L.length cap] 109)) #[.map none, .int .i64 0] 132
  simpa using this
 have r1':Mem.Blk ((w.alloc (.cells #[.int .i64 m, .slice a L.length cap] 109)).alloc (.cells #[.map none, .int .i64 0] 132)) w.heap.size #[.int .i64 m, .slice a L.length cap] 109:=(Mem.Blk.new w _ _).alloc _;clear hv hok hE k1 b0 hb;by_cases h4:0<m
 ·have u2:¬ (0:Int)<(L.length:Int):=by omega
  go_enter Tryz.func171,Tryz.ntmps171
  go_wp2_with fail
  generalize ((w.alloc (.cells #[.int .i64 m, .slice a L.length cap] 109)).alloc (.cells #[.map none, .int .i64 0] 132))=w2 at hz r1' r2' HB0 ⊢;refine (za hz).mono ?_;rintro e w1 ⟨h1,b1⟩;have R1:=r1'.call b1;have R2:=r2'.call b1;obtain ⟨c10,c11⟩:=jc2 R1;obtain ⟨⟨c20,c21⟩,f20,f21⟩:=jf2 R2;have bb:=hide ((za HB0).trans (b1.mono (za HB0).size));have HS2:Hid (w.heap.size+2≤w2.heap.size):=hide (by have :=r2'.lt;omega);clear hz b1 r1' r2' R1 R2 HB0
  rcases h1 with ⟨hT,B,rfl,hB,hm⟩|⟨hT,rfl⟩
  ·have HM:Hid (w.heap.size≤B∧Mem.ownM ((w1.setCell ⟨w.heap.size+1,0,none⟩ (.map (some B))).setCell ⟨w.heap.size+1,1,none⟩ (.int .i64 m)) B L):=
    hide ⟨by have :=(za HS2);omega,(Mem.ownM.set (Mem.ownM.set hm _ _ (by have :=(za HS2);show B≠w.heap.size+1;omega)) _ _ (by have :=(za HS2);show B≠w.heap.size+1;omega))⟩
   clear hm hB;go_wp2
   refine bodyPost_ret (v:= .tuple #[.agg #[.map (some B), .int .i64 m], .nilIface]) (by simp [results,Tryz.results171,go_sem,c20,c21]) rfl ⟨.inl ⟨hT,B,rfl,za HM⟩,?_⟩;exact ((za bb).setCell (by show w.heap.size≤w.heap.size+1;omega) _).setCell (by show w.heap.size≤w.heap.size+1;omega) _
  ·go_wp2
   refine bodyPost_ret (v:= .tuple #[.agg #[.map none, .int .i64 m], .iface r1 x1]) (by simp [results,Tryz.results171,go_sem,c20,c21]) rfl ⟨.inr ⟨hT,m,rfl⟩,?_⟩;exact ((za bb).setCell (by show w.heap.size≤w.heap.size+1;omega) _).setCell (by show w.heap.size≤w.heap.size+1;omega) _
 ·go_enter Tryz.func171,Tryz.ntmps171
  go_wp2_with fail
  generalize ((w.alloc (.cells #[.int .i64 m, .slice a L.length cap] 109)).alloc (.cells #[.map none, .int .i64 0] 132))=w2 at hz r1' r2' HB0 ⊢;refine (za hz).mono ?_;rintro e w1 ⟨h1,b1⟩;have R1:=r1'.call b1;have R2:=r2'.call b1;obtain ⟨c10,c11⟩:=jc2 R1;obtain ⟨⟨c20,c21⟩,f20,f21⟩:=jf2 R2;have bb:=hide ((za HB0).trans (b1.mono (za HB0).size));have HS2:Hid (w.heap.size+2≤w2.heap.size):=hide (by have :=r2'.lt;omega);clear hz b1 r1' r2' R1 R2 HB0
  rcases h1 with ⟨hT,B,rfl,hB,hm⟩|⟨hT,rfl⟩
  ·have HM:Hid (w.heap.size≤B∧Mem.ownM ((w1.setCell ⟨w.heap.size+1,0,none⟩ (.map (some B))).setCell ⟨w.heap.size+1,1,none⟩ (.int .i64 m)) B L):=
    hide ⟨by have :=(za HS2);omega,(Mem.ownM.set (Mem.ownM.set hm _ _ (by have :=(za HS2);show B≠w.heap.size+1;omega)) _ _ (by have :=(za HS2);show B≠w.heap.size+1;omega))⟩
   clear hm hB;go_wp2
   refine bodyPost_ret (v:= .tuple #[.agg #[.map (some B), .int .i64 m], .nilIface]) (by simp [results,Tryz.results171,go_sem,c20,c21]) rfl ⟨.inl ⟨hT,B,rfl,za HM⟩,?_⟩;exact ((za bb).setCell (by show w.heap.size≤w.heap.size+1;omega) _).setCell (by show w.heap.size≤w.heap.size+1;omega) _
  ·go_wp2
   refine bodyPost_ret (v:= .tuple #[.agg #[.map none, .int .i64 m], .iface r1 x1]) (by simp [results,Tryz.results171,go_sem,c20,c21]) rfl ⟨.inr ⟨hT,m,rfl⟩,?_⟩;exact ((za bb).setCell (by show w.heap.size≤w.heap.size+1;omega) _).setCell (by show w.heap.size≤w.heap.size+1;omega) _
end zu9
end
end Go.Proofs.YtbomeifgfalmdaaGreatDoor
