import Derived.Test.YtonffldjbmednaaGreatDoorG00
import Derived.Test.YtonffldjbmednaaGreatDoorG02
import Derived.Test.YtonffldjbmednaaGreatDoorG06
import Derived.Test.YtonffldjbmednaaGreatDoorProg
import Derived.Outline
import Derived.Deep.QuietTactic
import Derived.BigQuiet
set_option linter.unusedSimpArgs false
namespace Go.Proofs.YtonffldjbmednaaGreatDoor
open Go.RowKit
namespace WSp
set_option maxRecDepth 100000 in
set_option maxHeartbeats 800000 in
theorem inst_any (s:Pl.Sp) (d:Int) (w:World) (hl:s.N.length≤1048576) (hv:Mem.ze4 w s.ia s.N):
  Calls Tryz.prog 119 #[.agg s.cs, .int .i64 d] w fun e w'=>e= .returned (.int .i64 (Pl.ze6 (s.N.map (·.d)) d))∧Below w.heap.size w w':=by
 obtain ⟨ia,ic,N,ma,mc,M,ha,hc,H,next⟩:=s;simp only at *;unfold Pl.Sp.cs;have b0:=(Below.refl w.heap.size w).alloc (o:= .cells #[.slice ia N.length ic, .slice ma M.length mc, .slice ha H.length hc, .int .i64 next] 32) (Nat.le_refl _);have V0:=hide (Mem.Blk.new w #[.slice ia N.length ic, .slice ma M.length mc, .slice ha H.length hc, .int .i64 next] 32);have HI:=hide hv;have HAT:=hide (fun k h hn=>Pl.instI_at (l:=N.map (·.d)) (d:=d) (k:=k) h hn);have HNO:=hide (Pl.instI_no (l:=N.map (·.d)) (d:=d));generalize Pl.ze6 (N.map (·.d)) d=R at HAT HNO ⊢;clear hv;go_enter Tryz.func119,Tryz.ntmps119
 go_wp2
 go_loopw [5] (fun i wr=>∃k:Nat,k≤N.length∧i= .int .i64 (k:Int)∧Below w.heap.size w wr∧Hid (Mem.Blk wr w.heap.size #[.slice ia N.length ic, .slice ma M.length mc, .slice ha H.length hc, .int .i64 next] 32)∧Hid (∀j,j<k→(N.map (·.d))[j]?≠some d)) (fun i _=>N.length - (intOf i).toNat)
 case atStart=>exact ⟨0,Nat.zero_le _,rfl,b0,V0,fun j h=>absurd h (by omega)⟩
 case round=>
  obtain ⟨k,hk,rfl,hbel,V,HA⟩:=hrel;clear V0 b0;have a0:=(za V).cell 0;simp only [kGs] at a0;by_cases hlt:k<N.length
  ·obtain ⟨t,ht⟩:∃n,N[k]? =some n:=⟨_,List.getElem?_eq_getElem hlt⟩;obtain ⟨⟨g,o,rfl,hg,q0, -⟩, -⟩:=(za HI) k t ht;have c0:=(hbel.cell (p:=⟨g,_,none⟩) hg).trans q0;have hm:(N.map (·.d))[k]? =some t.d:=by rw [List.getElem?_map,ht];rfl
   have u1:(k:Int)<(N.length:Int):=by omega
   have u3:(0:Int)≤(k:Int):=by omega
   clear q0 ht;by_cases hd:t.d=d
   ·have hd1:(t.d==d)=true:=by simpa using hd
    have HR:Hid (R=(k:Int)):=hide (za HAT k (by rw [hm,hd]) (za HA));clear hm hd HAT HNO HA;go_wp2
    go_ret
    exact ⟨by rw [za HR];rfl,hbel⟩
   ·have hd1:(t.d==d)=false:=by simpa using hd
    have HA2:Hid (∀j,j<k+1→(N.map (·.d))[j]?≠some d):=fun j hj=>by
     rcases Nat.lt_succ_iff_lt_or_eq.1 hj with h|rfl
     ·exact za HA j h
     ·rw [hm];exact fun e=>hd (Option.some.inj e)
    clear hm;go_wp2
    go_roundw
    case rel=>exact ⟨k+1,by omega,by go_num,hbel,V,HA2⟩
    case measure=>simp [intOf];omega
  ·have u1:¬ (k:Int)<(N.length:Int):=by omega
   have HR:Hid (R= -1):=hide (za HNO (fun j=>by
    by_cases h:j<k
    ·exact za HA j h
    ·rw [List.getElem?_eq_none (by rw [List.length_map];omega)];exact fun e=>by cases e))
   clear HAT HNO HA;go_wp2
   go_ret
   exact ⟨by rw [za HR];rfl,hbel⟩
set_option maxRecDepth 100000 in
set_option maxHeartbeats 2000000 in
theorem zd9 (s:Pl.Sp) (d:Int) (w:World) (hml:s.M.length≤1048576) (hhl:s.H.length≤1048576) (hm:Mem.zb2 w s.ma s.M) (hh:Mem.zb9 w s.ha s.H):
  Calls Tryz.prog 43 #[.agg s.cs, .int .i64 d] w fun e w'=>e= .returned (.int .i64 (Pl.held s.M s.H d))∧Below w.heap.size w w':=by
 obtain ⟨ia,ic,N,ma,mc,M,ha,hc,H,next⟩:=s;simp only at *;unfold Pl.Sp.cs Pl.held;have b0:=(Below.refl w.heap.size w).alloc (o:= .cells #[.slice ia N.length ic, .slice ma M.length mc, .slice ha H.length hc, .int .i64 next] 32) (Nat.le_refl _);have V0:=hide (Mem.Blk.new w #[.slice ia N.length ic, .slice ma M.length mc, .slice ha H.length hc, .int .i64 next] 32);have HM:=hide hm;have HH:=hide hh;clear hm hh;go_enter Tryz.func43,Tryz.ntmps43
 go_wp2
 go_loopw [5,6] (fun n i wr=>∃k:Nat,k≤M.length∧i= .int .i64 (k:Int)∧n= .int .i64 (0+(Pl.cntM (M.take k) d:Int))∧Below w.heap.size w wr∧Hid (Mem.Blk wr w.heap.size #[.slice ia N.length ic, .slice ma M.length mc, .slice ha H.length hc, .int .i64 next] 32)) (fun _ i _=>M.length - (intOf i).toNat)
 case atStart=>exact ⟨0,Nat.zero_le _,rfl,by simp [Pl.cntM],b0,V0⟩
 case round=>
  obtain ⟨k,hk,rfl,rfl,hbel,V⟩:=hrel;clear V0 b0;have a1:=(za V).cell 1;simp only [kGs] at a1;have hle:=Pl.cntM_le (M.take k) d;have hle2:(M.take k).length≤M.length:=by rw [List.length_take];omega
  by_cases hlt:k<M.length
  ·obtain ⟨t,ht⟩:∃n,M[k]? =some n:=⟨_,List.getElem?_eq_getElem hlt⟩;obtain ⟨g,o,rfl,hg,q0,q1,q2⟩:=(za HM) k t ht;have c1:=(hbel.cell (p:=⟨g,_,none⟩) hg).trans q1;have HS:=hide (Pl.cntM_step ht d);have u1:(k:Int)<(M.length:Int):=by omega
   have u3:(0:Int)≤(k:Int):=by omega
   clear q0 q1 q2 ht;generalize hC:Pl.cntM (M.take k) d=C at HS hle ⊢;by_cases hd:t.i=d
   ·have hd1:(t.i==d)=true:=by simpa using hd
    have HS2:Hid (Pl.cntM (M.take (k+1)) d=C+1):=hide (by rw [za HS,if_pos hd]);clear hC HS hd;go_wp2
    go_roundw
    case rel=>exact ⟨k+1,by omega,by go_num,by rw [za HS2];go_num,hbel,V⟩
    case measure=>simp [intOf];omega
   ·have hd1:(t.i==d)=false:=by simpa using hd
    have HS2:Hid (Pl.cntM (M.take (k+1)) d=C):=hide (by rw [za HS,if_neg hd];rfl);clear hC HS;go_wp2
    go_roundw
    case rel=>exact ⟨k+1,by omega,by go_num,by rw [za HS2],hbel,V⟩
    case measure=>simp [intOf];omega
  ·have u1:¬ (k:Int)<(M.length:Int):=by omega
   have hke:k=M.length:=by omega
   subst hke;rw [List.take_length,Int.zero_add];clear hle hle2 hlt hk;have hML:=Pl.cntM_le M d;go_wp2
   go_loopw [5,7] (fun n i wr=>∃k:Nat,k≤H.length∧i= .int .i64 (k:Int)∧n= .int .i64 ((Pl.cntM M d:Int)+(Pl.cntH (H.take k) d:Int))∧Below w.heap.size w wr∧Hid (Mem.Blk wr w.heap.size #[.slice ia N.length ic, .slice ma M.length mc, .slice ha H.length hc, .int .i64 next] 32)) (fun _ i _=>H.length - (intOf i).toNat)
   case atStart=>exact ⟨0,Nat.zero_le _,rfl,by simp [Pl.cntH],hbel,V⟩
   case round=>
    obtain ⟨k,hk,rfl,rfl,hbel,V⟩:=hrel;have a1:=(za V).cell 2;simp only [kGs] at a1;have hle:=Pl.cntH_le (H.take k) d;have hle2:(H.take k).length≤H.length:=by rw [List.length_take];omega
    by_cases hlt:k<H.length
    ·obtain ⟨t,ht⟩:∃n,H[k]? =some n:=⟨_,List.getElem?_eq_getElem hlt⟩;obtain ⟨g,o,rfl,hg,q0,q1,q2⟩:=(za HH) k t ht;have c1:=(hbel.cell (p:=⟨g,_,none⟩) hg).trans q1;have HS:=hide (Pl.cntH_step ht d);have u1:(k:Int)<(H.length:Int):=by omega
     have u3:(0:Int)≤(k:Int):=by omega
     clear q0 q1 q2 ht;generalize hC:Pl.cntH (H.take k) d=C at HS hle ⊢;by_cases hd:t.i=d
     ·have hd1:(t.i==d)=true:=by simpa using hd
      have HS2:Hid (Pl.cntH (H.take (k+1)) d=C+1):=hide (by rw [za HS,if_pos hd]);clear hC HS hd;go_wp2
      go_roundw
      case rel=>exact ⟨k+1,by omega,by go_num,by rw [za HS2];go_num,hbel,V⟩
      case measure=>simp [intOf];omega
     ·have hd1:(t.i==d)=false:=by simpa using hd
      have HS2:Hid (Pl.cntH (H.take (k+1)) d=C):=hide (by rw [za HS,if_neg hd];rfl);clear hC HS;go_wp2
      go_roundw
      case rel=>exact ⟨k+1,by omega,by go_num,by rw [za HS2],hbel,V⟩
      case measure=>simp [intOf];omega
    ·have u1:¬ (k:Int)<(H.length:Int):=by omega
     have hke:k=H.length:=by omega
     subst hke;rw [List.take_length];go_wp2
     go_ret
     exact ⟨rfl,hbel⟩
end WSp
end Go.Proofs.YtonffldjbmednaaGreatDoor
