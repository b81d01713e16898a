/- Several texts of one claim in one file: WNames, WRightI, WSplit, WPathS, WSpecR. -/
import Derived.Test.YtpakookhgpphaaaDoorG01
import Derived.Test.YtpakookhgpphaaaDoorG16
import Derived.Test.YtpakookhgpphaaaDoorG09
import Derived.Test.YtpakookhgpphaaaDoorG06
import Derived.Test.YtpakookhgpphaaaDoorG00
import Derived.Test.YtpakookhgpphaaaDoorProg
import Derived.WalkSpells
namespace Go.Proofs.YtpakookhgpphaaaDoor
section
open Go.RowKit
namespace WNames
set_option maxRecDepth 100000 in
set_option maxHeartbeats 400000 in
theorem any (s:ByteArray) (w:World) (hs:s.size≤1048576):
  Calls Tryd.prog 31 #[.string s] w fun e w'=>∃v,e= .returned (.tuple #[v, .bool (Pl.za2 s)])∧
   w'.ownsRow w.heap.size 9 1 v (Pl.zb7 s).length ((Pl.zb7 s).map Value.string)∧Below w.heap.size w w':=by
 by_cases h0:s.size=0
 ·have E:=hide (Pl.zg4 h0).1;have E2:=hide ((Pl.zh5 (Pl.zg4 h0).1).trans (Pl.zg4 h0).2);obtain rfl:s=⟨#[]⟩:=by apply ByteArray.ext;exact Array.eq_empty_of_size_eq_zero h0
  go_enter Tryd.func31,Tryd.ntmps31
  go_wp2
  go_ret2
  refine ⟨.slice none 0 0,by rw [za E];rfl,?_,Below.refl _ _⟩;rw [za E2];exact World.ownsRow_nil _ _ _ _
 have t0:s.toList.isEmpty=false:=by
  rw [List.isEmpty_eq_false_iff,ByteArray.toList_eq];intro h;have h1:s.data.toList.length=0:=by rw [h];rfl
  rw [Array.length_toList] at h1;exact h0 h1
 have E1:Hid (Pl.names s=Pl.cut s 47):=if_neg h0;by_cases h8:8000<s.size
 ·have E:=hide (Pl.zv7 (s:=s) (by omega));have E2:=hide (Pl.zs6 (za E));go_enter Tryd.func31,Tryd.ntmps31
  go_wp2
  go_ret2
  refine ⟨.slice none 0 0,by rw [za E];rfl,?_,Below.refl _ _⟩;rw [za E2];exact World.ownsRow_nil _ _ _ _
 have hpos:=Pl.cut_pos s;have hlen:=Pl.cut_length s
 have HSZ:Hid (∀ (k:Nat) t,(Pl.cut s 47)[k]? =some t→t.size≤maxLen):=fun k t ht=>by
  have :=Pl.cut_size ht;unfold maxLen;omega
 have HLONG:Hid (6<(Pl.cut s 47).length→Pl.za2 s=false):=fun h=>by
  rw [Pl.zs9,E1.out];simp;intro _;omega
 have HBAD:Hid (∀ (k:Nat) t,(Pl.cut s 47)[k]? =some t→Pl.zc8 t=false→Pl.za2 s=false):=fun k t ht hb=>Pl.pathB_bad (by rw [E1.out];exact ht) hb
 have HGOOD:Hid ((Pl.cut s 47).length≤6→(∀ (j:Nat) t,(Pl.cut s 47)[j]? =some t→Pl.zc8 t=true)→Pl.za2 s=true∧Pl.zb7 s=Pl.cut s 47):=fun h6 h=>by
  have h1:Pl.za2 s=true:=by
   rw [Pl.zs9,E1.out];simp [h6]
   intro t ht;obtain ⟨j,hj⟩:=List.mem_iff_getElem?.1 ht;exact h j t hj
  exact ⟨h1,by rw [Pl.zh5 h1,E1.out]⟩
 have hn:=hide (WWords.any s w hs);generalize Pl.cut s 47=L at hn hlen HSZ HBAD HGOOD HLONG hpos;go_enter Tryd.func31,Tryd.ntmps31
 go_wp2_with fail
 refine (za hn).mono ?_;rintro e w1 ⟨v,rfl,hown,hbel⟩;have HO:=hide hown
 rcases Mem.texts hown with ⟨rfl,rfl⟩|⟨g,cap,rfl,hcap,hm,hgb,hgl,hcell⟩
 ·simp at hpos
 have HC:=hide hcell;clear hcell hown hn;have hm2:=hm;unfold maxLen at hm2;by_cases h6:6<L.length
 ·have E:=hide (HLONG.out h6);have E2:=hide (Pl.zs6 (za E));go_wp2
  go_ret2
  refine ⟨.slice none 0 0,by rw [za E];rfl,?_,hbel⟩;rw [za E2];exact World.ownsRow_nil _ _ _ _
 go_wp2
 go_loop [19] (fun i=>∃k:Nat,k≤L.length∧i= .int .i64 (k:Int)∧Hid (∀ (j:Nat) t,j<k→L[j]? =some t→Pl.zc8 t=true)) (fun i=>L.length - (intOf i).toNat)
 case atStart=>exact ⟨0,Nat.zero_le _,rfl,fun j t h=>absurd h (by omega)⟩
 case round=>
  obtain ⟨k,hk,rfl,HA⟩:=hrel;by_cases hlt:k<L.length
  ·obtain ⟨t,ht⟩:∃t,L[k]? =some t:=⟨_,List.getElem?_eq_getElem hlt⟩;have hc:=HC.out k t ht;have hts:=HSZ.out k t ht;cases hb:Pl.zc8 t
   ·have E:=hide (HBAD.out k t ht hb);have E2:=hide (Pl.zs6 (za E));have HB:=hide hb;clear ht hb;go_wp2_with (go_at_call 49;refine (WName.zw2 t _ hts).mono ?_;rw [za HB];rintro e w' ⟨rfl,hw⟩;obtain rfl:=hw.symm)
    go_ret2
    refine ⟨.slice none 0 0,by rw [za E];rfl,?_,hbel⟩;rw [za E2];exact World.ownsRow_nil _ _ _ _
   ·have HB:=hide hb
    have HA2:Hid (∀ (j:Nat) t,j<k+1→L[j]? =some t→Pl.zc8 t=true):=fun j t' hj h'=>by
     rcases Nat.lt_succ_iff_lt_or_eq.1 hj with h''|rfl
     ·exact HA.out j t' h'' h'
     ·rw [ht] at h';cases h';exact hb
    clear ht hb HA;go_wp2_with (go_at_call 49;refine (WName.zw2 t _ hts).mono ?_;rw [za HB];rintro e w' ⟨rfl,hw⟩;obtain rfl:=hw.symm)
    go_round
    case rel=>exact ⟨k+1,by omega,by go_num,HA2⟩
    case measure=>simp [intOf];omega
  ·have E:=hide (HGOOD.out (by omega) (fun j t h=>HA.out j t (by have :=(List.getElem?_eq_some_iff.1 h).1;omega) h));clear HA;go_wp2
   go_ret2
   exact ⟨.slice (some ⟨g,0,none⟩) L.length cap,by rw [(za E).1];rfl,by rw [(za E).2];exact za HO,hbel⟩
end WNames
end
section
open Go.RowKit
namespace zt4
theorem zg7 (s:ByteArray) (w:World) (hs:s.size≤1048576):
  Calls Tryd.prog 17 #[.string s] w fun e w'=>e= .returned (.bool (Pl.za2 s))∧Below w.heap.size w w':=by
 go_enter Tryd.func17,Tryd.ntmps17
 go_wp2_with fail
 refine (WNames.any s _ hs).mono ?_;rintro e w1 ⟨v,rfl,hown,hb⟩;clear hown;go_wp2
 go_ret
 exact ⟨rfl,hb⟩
end zt4
end
section
open Go.RowKit
namespace WSplit
theorem infoS:(Tryd.prog.info? 9).map (fun i=>(i.zero,i.size,i.bytes))=some (some (.string ⟨#[]⟩),1,16):=by kernel_rfl

set_option maxRecDepth 100000 in
set_option maxHeartbeats 400000 in
theorem split_any (s:ByteArray) (b:Nat) (w:World) (hs:s.size≤1048576):
  Calls Tryd.prog 38 #[.string s, .int .u8 (b:Int)] w fun e w'=>∃v,e= .returned v∧
   w'.ownsRow w.heap.size 9 1 v (Pl.cut s b).length ((Pl.cut s b).map Value.string)∧Below w.heap.size w w':=by
 obtain ⟨i0,hi,hz0,hz1,hz2⟩:=info_parts infoS;go_enter Tryd.func38,Tryd.ntmps38
 go_wp2
 go_loopw [5,6,7] (fun v x i wr=>∃ (k fr:Nat) (L:List ByteArray),k≤s.size∧fr≤k∧L.length≤k∧i= .int .i64 (k:Int)∧x= .int .i64 (fr:Int)∧
   wr.ownsRow w.heap.size 9 1 v L.length (L.map Value.string)∧Below w.heap.size w wr∧Hid (Pl.cut s b=L++Pl.cutF s b (s.size - k) fr k)) (fun _ _ i _=>s.size - (intOf i).toNat)
 case atStart=>exact ⟨0,0,[],by omega,by omega,by simp,rfl,rfl,World.ownsRow_made _ _ 0 (Nat.le_refl _) (Nat.zero_le _) rfl,(Below.refl _ _).alloc (Nat.le_refl _) _,rfl⟩
 case round=>
  obtain ⟨k,fr,L,hk,hfr,hL,rfl,rfl,hown,hbel,H⟩:=hrel;have hb1:=hbel.size;by_cases hlt:k<s.size
  ·have hf:s.size - k=s.size - (k+1)+1:=by omega
   have t1:(0:Int)≤(fr:Int):=by omega
   have t2:(fr:Int)≤(k:Int):=by omega
   have t3:(k:Int)≤(s.size:Int):=by omega
   by_cases hq:s[k].toNat=b
   ·have H2:Hid (Pl.cut s b=(L++[s.extract fr k])++Pl.cutF s b (s.size - (k+1)) (k+1) (k+1)):=by
     show _=_;rw [H.out,hf,Pl.cutF_hit hlt hq];simp
    have t4:((s[k].toNat:Int)==(b:Int))=true:=by rw [beq_iff_eq];omega
    clear H hf hq;go_wp2_with (at_builtin;refine wpList_append_own _ rfl _ _ 67 rfl w.heap.size 9 i0 (.string ⟨#[]⟩) 1 16 Tryd.underlying67 hi hz0 hz1 hz2 rfl (by decide) _ _ _ rfl (hown.alloc _) ⟨wr.heap.size,0,none⟩ 1 1 [.string (s.extract fr k)] rfl rfl ?c1 ?c2 ?c3 ?c4 ?c5 ?_)
    case c1=>exact Mem.zo0 _ _ _
    case c2=>intro u hu;simp at hu;subst hu;rfl
    case c3=>unfold maxLen;omega
    case c4=>omega
    case c5=>simp;omega
    ·intro v' w2 hown' hgrow _;have hbel':=Mem.zg9 hbel (Nat.le_refl _) hown hgrow;have hown2:w2.ownsRow w.heap.size 9 1 v' (L++[s.extract fr k]).length ((L++[s.extract fr k]).map Value.string):=by simpa using hown'
     clear hgrow hown hbel hown' t4;go_wp2
     go_roundw
     case rel=>exact ⟨k+1,k+1,L++[s.extract fr k],by omega,by omega,by simp;omega,by go_num,by go_num,hown2,hbel',H2⟩
     case measure=>simp [intOf];omega
   ·have H2:Hid (Pl.cut s b=L++Pl.cutF s b (s.size - (k+1)) fr (k+1)):=by
     show _=_;rw [H.out,hf,Pl.zx1 hlt hq]
    have t4:((s[k].toNat:Int)==(b:Int))=false:=by rw [beq_eq_false_iff_ne];omega
    clear H hf hq;go_wp2
    go_roundw
    case rel=>exact ⟨k+1,fr,L,by omega,by omega,by omega,by go_num,rfl,hown,hbel,H2⟩
    case measure=>simp [intOf];omega
  ·obtain rfl:k=s.size:=by omega
   have H2:Hid (Pl.cut s b=L++[s.extract fr s.size]):=by
    show _=_;rw [H.out,Nat.sub_self];rfl
   have t1:(0:Int)≤(fr:Int):=by omega
   have t2:(fr:Int)≤(s.size:Int):=by omega
   clear H;go_wp2_with (at_builtin;refine wpList_append_own _ rfl _ _ 67 rfl w.heap.size 9 i0 (.string ⟨#[]⟩) 1 16 Tryd.underlying67 hi hz0 hz1 hz2 rfl (by decide) _ _ _ rfl (hown.alloc _) ⟨wr.heap.size,0,none⟩ 1 1 [.string (s.extract fr s.size)] rfl rfl ?c1 ?c2 ?c3 ?c4 ?c5 ?_)
   case c1=>exact Mem.zo0 _ _ _
   case c2=>intro u hu;simp at hu;subst hu;rfl
   case c3=>unfold maxLen;omega
   case c4=>omega
   case c5=>simp;omega
   ·intro v' w2 hown' hgrow _;have hbel':=Mem.zg9 hbel (Nat.le_refl _) hown hgrow;have hown2:w2.ownsRow w.heap.size 9 1 v' (Pl.cut s b).length ((Pl.cut s b).map Value.string):=by rw [H2.out];simpa using hown'
    clear hgrow hown hbel hown';go_wp2
    go_ret
    exact ⟨_,rfl,hown2,hbel'⟩
end WSplit
end
section
open Go.RowKit
namespace zi5

theorem zx0 (s:ByteArray) (w:World) (hs:s.size≤1048576):
  Calls Tryd.prog 24 #[.string s] w fun e w'=>∃v,e= .returned v∧
   w'.ownsRow w.heap.size 9 1 v (Pl.names s).length ((Pl.names s).map Value.string)∧Below w.heap.size w w':=by
 by_cases h0:s.size=0
 ·have E:Hid (Pl.names s=[]):=if_pos h0;obtain rfl:s=⟨#[]⟩:=by apply ByteArray.ext;exact Array.eq_empty_of_size_eq_zero h0
  go_enter Tryd.func24,Tryd.ntmps24
  go_wp2
  go_ret
  refine ⟨_,rfl,?_,(Below.refl _ _).alloc (Nat.le_refl _) _⟩;rw [E.out];exact World.ownsRow_made _ _ 0 (Nat.le_refl _) (Nat.zero_le _) rfl
 ·have E:Hid (Pl.names s=Pl.cut s 47):=if_neg h0
  have t0:s.toList.isEmpty=false:=by
   rw [List.isEmpty_eq_false_iff,ByteArray.toList_eq];intro h;have h1:s.data.toList.length=0:=by rw [h];rfl
   rw [Array.length_toList] at h1;exact h0 h1
  go_enter Tryd.func24,Tryd.ntmps24
  go_wp2_with fail
  refine (WSplit.split_any s 47 _ hs).mono ?_;rintro e w1 ⟨v,rfl,hown,hb⟩;have HO:=hide hown;clear hown;go_wp2
  go_ret
  exact ⟨_,rfl,by rw [E.out];exact za HO,hb⟩

set_option maxRecDepth 100000 in
set_option maxHeartbeats 400000 in
theorem zg7 (s:ByteArray) (w:World) (hs:s.size≤maxLen):
  Calls Tryd.prog 12 #[.string s] w fun e w'=>e= .returned (.bool (Pl.za2 s))∧Below w.heap.size w w':=by
 unfold maxLen at hs;by_cases h2:200<s.size
 ·have E:=hide (Pl.zv7 h2);go_enter Tryd.func12,Tryd.ntmps12
  go_wp2
  go_ret
  exact ⟨za0 (za E).symm,Below.refl _ _⟩
 have hlen:=Pl.zr1 s
 have HSZ:Hid (∀ (k:Nat) t,(Pl.names s)[k]? =some t→t.size≤maxLen):=fun k t ht=>by
  have :=Pl.names_size ht;unfold maxLen;omega
 have HBAD:Hid (∀ (k:Nat) t,(Pl.names s)[k]? =some t→Pl.zc8 t=false→Pl.za2 s=false):=fun k t ht hb=>Pl.pathB_bad ht hb;have HGOOD:Hid ((∀ (j:Nat) t,(Pl.names s)[j]? =some t→Pl.zc8 t=true)→Pl.za2 s=decide ((Pl.names s).length≤6)):=fun h=>Pl.pathB_good (by omega) h;have hn:=hide (zx0 s w (by omega));generalize Pl.names s=L at hn hlen HSZ HBAD HGOOD;go_enter Tryd.func12,Tryd.ntmps12
 go_wp2_with fail
 refine (za hn).mono ?_;rintro e w1 ⟨v,rfl,hown,hbel⟩
 rcases hown.2 with ⟨rfl,h0⟩|⟨g,cap,cur,rfl,hgb,hg,hcap,hm,hsz,htk⟩
 ·obtain rfl:L=[]:=List.eq_nil_of_length_eq_zero h0;have E:=hide (HGOOD.out (fun j t h=>by simp at h));clear hown hn HGOOD HBAD HSZ;go_wp2
  go_loop [4] (fun i=>i= .int .i64 0) (fun _=>0)
  case atStart=>rfl
  case round=>
   subst hrel;go_wp2
   go_ret
   exact ⟨za0 (by rw [za E];rfl),hbel⟩
 ·have hcell:∀ (k:Nat) t,L[k]? =some t→w1.cell? ⟨g,k,none⟩=some (.string t):=by
   intro k t ht;have hk:=(List.getElem?_eq_some_iff.1 ht).1;rw [cell_of_row w1 g k cur 9 (0,0) hg];have h1:(cur.toList.take (L.length*1))[k]? =(L.map Value.string)[k]?:=by rw [htk]
   rw [List.getElem?_take_of_lt (by omega),List.getElem?_map,ht] at h1
   simpa using h1
  have HC:=hide hcell;clear hcell hown hn hg htk hsz;have hm2:=hm;unfold maxLen at hm2;go_wp2
  go_loop [4] (fun i=>∃k:Nat,k≤L.length∧i= .int .i64 (k:Int)∧Hid (∀ (j:Nat) t,j<k→L[j]? =some t→Pl.zc8 t=true)) (fun i=>L.length - (intOf i).toNat)
  case atStart=>exact ⟨0,Nat.zero_le _,rfl,fun j t h=>absurd h (by omega)⟩
  case round=>
   obtain ⟨k,hk,rfl,HA⟩:=hrel;by_cases hlt:k<L.length
   ·obtain ⟨t,ht⟩:∃t,L[k]? =some t:=⟨_,List.getElem?_eq_getElem hlt⟩;have hc:=HC.out k t ht;have hts:=HSZ.out k t ht;cases hb:Pl.zc8 t
    ·have E:=hide (HBAD.out k t ht hb);have HB:=hide hb;clear ht hb;go_wp2_with (go_at_call 25;refine (WName.zw3 t _ hts).mono ?_;rw [za HB];rintro e w' ⟨rfl,hw⟩;obtain rfl:=hw.symm)
     go_ret
     exact ⟨za0 (za E).symm,hbel⟩
    ·have HB:=hide hb
     have HA2:Hid (∀ (j:Nat) t,j<k+1→L[j]? =some t→Pl.zc8 t=true):=fun j t' hj h'=>by
      rcases Nat.lt_succ_iff_lt_or_eq.1 hj with h''|rfl
      ·exact HA.out j t' h'' h'
      ·rw [ht] at h';cases h';exact hb
     clear ht hb HA;go_wp2_with (go_at_call 25;refine (WName.zw3 t _ hts).mono ?_;rw [za HB];rintro e w' ⟨rfl,hw⟩;obtain rfl:=hw.symm)
     go_round
     case rel=>exact ⟨k+1,by omega,by go_num,HA2⟩
     case measure=>simp [intOf];omega
   ·have E:=hide (HGOOD.out (fun j t h=>HA.out j t (by have :=(List.getElem?_eq_some_iff.1 h).1;omega) h));clear HA;by_cases h6:L.length≤6
    ·have t6:(L.length:Int)≤6:=by omega
     go_wp2
     go_ret
     exact ⟨za0 (by rw [za E];simp [h6]),hbel⟩
    ·have t6:¬ (L.length:Int)≤6:=by omega
     go_wp2
     go_ret
     exact ⟨za0 (by rw [za E];simp [h6]),hbel⟩
end zi5
end
section
open Go.RowKit
namespace zi5
theorem zx (s:ByteArray) (w:World) (hs:s.size≤1048576):
  Calls Tryd.prog 12 #[.string s] w fun e w'=>e= .returned (.bool (Pl.za2 s))∧Below w.heap.size w w':=zg7 s w (by unfold maxLen;omega)
end zi5
end
end Go.Proofs.YtpakookhgpphaaaDoor
