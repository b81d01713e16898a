import Derived.Test.YthdhhcgopfgcbaaGreatDoorG01
import Derived.Test.YthdhhcgopfgcbaaGreatDoorWUnder1S
namespace Go.Proofs.YthdhhcgopfgcbaaGreatDoor
open Go.RowKit
namespace Pl
def ze4 (L:List Nd) (p:ByteArray):Bool:=L.any (fun m=>!decide (m.path=p)&&under m.path p)
theorem over_yes {L:List Nd} {p:ByteArray} {k:Nat} {n:Nd} (hn:L[k]? =some n) (h1:n.path≠p) (h2:under n.path p=true):ze4 L p=true:=
 List.any_eq_true.2 ⟨n,List.mem_of_getElem? hn,by simp [h1,h2]⟩
theorem over_no {L:List Nd} {p:ByteArray} (h:∀ (j:Nat) m,L[j]? =some m→m.path=p∨under m.path p=false):ze4 L p=false:=by
 rw [ze4,List.any_eq_false];intro m hm;obtain ⟨j,hj⟩:=List.mem_iff_getElem?.1 hm
 rcases h j m hj with h|h <;> simp [h]
end Pl
namespace WPutS
theorem tl_ne {a b:ByteArray} (h:a≠b):(a.toList==b.toList)=false:=by
 rw [beq_eq_false_iff_ne];intro e;exact h (Pl.zi3 (by rw [ByteArray.toList_eq,ByteArray.toList_eq] at e;exact e))
set_option linter.unusedSimpArgs false in
set_option maxRecDepth 100000 in
set_option maxHeartbeats 2000000 in
theorem over_any (a:Option Addr) (cap:Nat) (L:List Pl.Nd) (p:ByteArray) (w:World) (hl:L.length≤1048576) (hv:Mem.za2 w a L) (hp:p.size≤1048576):
  Calls Tryz.prog 70 #[.agg #[.slice a L.length cap], .string p] w fun e w'=>e= .returned (.bool (Pl.ze4 L p))∧Below w.heap.size w w':=by
 have b0:Below w.heap.size w (w.alloc (.cells #[.slice a L.length cap] 43)):=(Below.refl _ _).alloc (Nat.le_refl _) _;have HV:=hide (Mem.za0 hv b0);have E1:Hid (∀ (k:Nat) n,L[k]? =some n→n.path≠p→Pl.under n.path p=true→Pl.ze4 L p=true):=fun k n=>Pl.over_yes;have E2:Hid ((∀ (j:Nat) m,L[j]? =some m→m.path=p∨Pl.under m.path p=false)→Pl.ze4 L p=false):=Pl.over_no;generalize Pl.ze4 L p=R at E1 E2 ⊢;clear hv;go_enter Tryz.func70,Tryz.ntmps70
 go_wp2
 go_loop [5] (fun i=>∃k:Nat,k≤L.length∧i= .int .i64 (k:Int)∧Hid (∀ (j:Nat) m,j<k→L[j]? =some m→m.path=p∨Pl.under m.path p=false)) (fun i=>L.length - (intOf i).toNat)
 case atStart=>exact ⟨0,Nat.zero_le _,rfl,fun j m h=>absurd h (by omega)⟩
 case round=>
  obtain ⟨k,hk,rfl,HA⟩:=hrel;by_cases hlt:k<L.length
  ·obtain ⟨n,hn⟩:∃n,L[k]? =some n:=⟨_,List.getElem?_eq_getElem hlt⟩;obtain ⟨b,o,rfl,hb,q0, -, -, -, -⟩:=(za HV) k n hn;have y1:(k:Int)<(L.length:Int):=by omega
   have y3:(0:Int)≤(k:Int):=by omega
   have EN:=hide hn;by_cases hqp:n.path=p
   ·have HA2:Hid (∀ (j:Nat) m,j<k+1→L[j]? =some m→m.path=p∨Pl.under m.path p=false):=fun j m hj hm=>by
     rcases Nat.lt_succ_iff_lt_or_eq.1 hj with h''|rfl
     ·exact HA.out j m h'' hm
     ·rw [za EN] at hm;cases hm;exact .inl hqp
    rw [hqp] at q0;clear hn EN hqp;go_wp2
    go_round
    case rel=>exact ⟨k+1,by omega,by go_num,HA2⟩
    case measure=>simp [intOf];omega
   ·have t1:=tl_ne hqp;have hcu:=hide (fun W=>zg9.yn7 n.path p W hp);cases hun:Pl.under n.path p
    ·have HA2:Hid (∀ (j:Nat) m,j<k+1→L[j]? =some m→m.path=p∨Pl.under m.path p=false):=fun j m hj hm=>by
      rcases Nat.lt_succ_iff_lt_or_eq.1 hj with h''|rfl
      ·exact HA.out j m h'' hm
      ·rw [za EN] at hm;cases hm;exact .inr hun
     rw [hun] at hcu;generalize n.path=np at q0 t1 hcu;clear hn EN hqp hun;go_wp2_with (go_at_call 71;refine (za hcu _).mono ?_;rintro e w' ⟨rfl,hw⟩;obtain rfl:=hw.symm)
     go_round
     case rel=>exact ⟨k+1,by omega,by go_num,HA2⟩
     case measure=>simp [intOf];omega
    ·have E:=hide (za E1 k n hn hqp hun);rw [hun] at hcu;generalize n.path=np at q0 t1 hcu;clear hn EN hqp hun;go_wp2_with (go_at_call 71;refine (za hcu _).mono ?_;rintro e w' ⟨rfl,hw⟩;obtain rfl:=hw.symm)
     go_ret
     exact ⟨za3 (za E).symm,b0⟩
  ·have E:=hide (za E2 (fun j n h=>HA.out j n (by have :=(List.getElem?_eq_some_iff.1 h).1;omega) h));have u1:¬ (k:Int)<(L.length:Int):=by omega
   go_wp2
   go_ret
   exact ⟨za3 (za E).symm,b0⟩
end WPutS
end Go.Proofs.YthdhhcgopfgcbaaGreatDoor
