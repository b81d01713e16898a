import Derived.Test.YtpggbphcbcogdaaGreatDoorPlainR
import Derived.Test.YtpggbphcbcogdaaGreatDoorWWords
import Derived.Test.YtpggbphcbcogdaaGreatDoorWName
import Derived.Test.YtpggbphcbcogdaaGreatDoorMemTexts
namespace Go.Proofs.YtpggbphcbcogdaaGreatDoor
open Go.RowKit
namespace zn6
set_option maxRecDepth 100000 in
set_option maxHeartbeats 400000 in
theorem any (s:ByteArray) (w:World) (hs:s.size≤1048576):
  Calls Tryz.prog 38 #[.string s] w fun e w'=>∃v,e= .returned (.tuple #[v, .bool (Pl.za2 s)])∧
   w'.ownsRow w.heap.size 9 1 v (Pl.zb0 s).length ((Pl.zb0 s).map Value.string)∧Below w.heap.size w w':=by
 by_cases h0:s.size=0
 ·have E:=hide (Pl.zi h0).1;have E2:=hide ((Pl.zc0 (Pl.zi h0).1).trans (Pl.zi h0).2);obtain rfl:s=⟨#[]⟩:=by apply ByteArray.ext;exact Array.eq_empty_of_size_eq_zero h0
  go_enter Tryz.func38,Tryz.ntmps38
  go_wp2
  go_ret2
  refine ⟨.slice none 0 0,by rw [za E];rfl,?_,Below.refl _ _⟩;rw [za E2];exact World.ownsRow_nil _ _ _ _
 have t0:s.toList.isEmpty=false:=by
  rw [List.isEmpty_eq_false_iff,ByteArray.toList_eq];intro h;have h1:s.data.toList.length=0:=by rw [h];rfl
  rw [Array.length_toList] at h1;exact h0 h1
 have E1:Hid (Pl.names s=Pl.cut s 47):=if_neg h0;by_cases h8:8000<s.size
 ·have E:=hide (Pl.zs4 (s:=s) (by omega));have E2:=hide (Pl.zp9 (za E));go_enter Tryz.func38,Tryz.ntmps38
  go_wp2
  go_ret2
  refine ⟨.slice none 0 0,by rw [za E];rfl,?_,Below.refl _ _⟩;rw [za E2];exact World.ownsRow_nil _ _ _ _
 have hpos:=Pl.cut_pos s;have hlen:=Pl.cut_length s
 have HSZ:Hid (∀ (k:Nat) t,(Pl.cut s 47)[k]? =some t→t.size≤maxLen):=fun k t ht=>by
  have :=Pl.cut_size ht;unfold maxLen;omega
 have HLONG:Hid (6<(Pl.cut s 47).length→Pl.za2 s=false):=fun h=>by
  rw [Pl.zr0,E1.out];simp;intro _;omega
 have HBAD:Hid (∀ (k:Nat) t,(Pl.cut s 47)[k]? =some t→Pl.zb4 t=false→Pl.za2 s=false):=fun k t ht hb=>Pl.pathB_bad (by rw [E1.out];exact ht) hb
 have HGOOD:Hid ((Pl.cut s 47).length≤6→(∀ (j:Nat) t,(Pl.cut s 47)[j]? =some t→Pl.zb4 t=true)→Pl.za2 s=true∧Pl.zb0 s=Pl.cut s 47):=fun h6 h=>by
  have h1:Pl.za2 s=true:=by
   rw [Pl.zr0,E1.out];simp [h6]
   intro t ht;obtain ⟨j,hj⟩:=List.mem_iff_getElem?.1 ht;exact h j t hj
  exact ⟨h1,by rw [Pl.zc0 h1,E1.out]⟩
 have hn:=hide (WWords.any s w hs);generalize Pl.cut s 47=L at hn hlen HSZ HBAD HGOOD HLONG hpos;go_enter Tryz.func38,Tryz.ntmps38
 go_wp2_with fail
 refine (za hn).mono ?_;rintro e w1 ⟨v,rfl,hown,hbel⟩;have HO:=hide hown
 rcases Mem.texts hown with ⟨rfl,rfl⟩|⟨g,cap,rfl,hcap,hm,hgb,hgl,hcell⟩
 ·simp at hpos
 have HC:=hide hcell;clear hcell hown hn;have hm2:=hm;unfold maxLen at hm2;by_cases h6:6<L.length
 ·have E:=hide (HLONG.out h6);have E2:=hide (Pl.zp9 (za E));go_wp2
  go_ret2
  refine ⟨.slice none 0 0,by rw [za E];rfl,?_,hbel⟩;rw [za E2];exact World.ownsRow_nil _ _ _ _
 go_wp2
 go_loop [19] (fun i=>∃k:Nat,k≤L.length∧i= .int .i64 (k:Int)∧Hid (∀ (j:Nat) t,j<k→L[j]? =some t→Pl.zb4 t=true)) (fun i=>L.length - (intOf i).toNat)
 case atStart=>exact ⟨0,Nat.zero_le _,rfl,fun j t h=>absurd h (by omega)⟩
 case round=>
  obtain ⟨k,hk,rfl,HA⟩:=hrel;by_cases hlt:k<L.length
  ·obtain ⟨t,ht⟩:∃t,L[k]? =some t:=⟨_,List.getElem?_eq_getElem hlt⟩;have hc:=HC.out k t ht;have hts:=HSZ.out k t ht;cases hb:Pl.zb4 t
   ·have E:=hide (HBAD.out k t ht hb);have E2:=hide (Pl.zp9 (za E));have HB:=hide hb;clear ht hb;go_wp2_with (go_at_call 54;refine (WName.zk6 t _ hts).mono ?_;rw [za HB];rintro e w' ⟨rfl,hw⟩;obtain rfl:=hw.symm)
    go_ret2
    refine ⟨.slice none 0 0,by rw [za E];rfl,?_,hbel⟩;rw [za E2];exact World.ownsRow_nil _ _ _ _
   ·have HB:=hide hb
    have HA2:Hid (∀ (j:Nat) t,j<k+1→L[j]? =some t→Pl.zb4 t=true):=fun j t' hj h'=>by
     rcases Nat.lt_succ_iff_lt_or_eq.1 hj with h''|rfl
     ·exact HA.out j t' h'' h'
     ·rw [ht] at h';cases h';exact hb
    clear ht hb HA;go_wp2_with (go_at_call 54;refine (WName.zk6 t _ hts).mono ?_;rw [za HB];rintro e w' ⟨rfl,hw⟩;obtain rfl:=hw.symm)
    go_round
    case rel=>exact ⟨k+1,by omega,by go_num,HA2⟩
    case measure=>simp [intOf];omega
  ·have E:=hide (HGOOD.out (by omega) (fun j t h=>HA.out j t (by have :=(List.getElem?_eq_some_iff.1 h).1;omega) h));clear HA;go_wp2
   go_ret2
   exact ⟨.slice (some ⟨g,0,none⟩) L.length cap,by rw [(za E).1];rfl,by rw [(za E).2];exact za HO,hbel⟩
end zn6
end Go.Proofs.YtpggbphcbcogdaaGreatDoor
