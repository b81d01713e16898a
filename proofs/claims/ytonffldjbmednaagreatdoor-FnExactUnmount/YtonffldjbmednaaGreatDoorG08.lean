/- Several texts of one claim in one file: WNames, WBothI, WLess, WSpI3, WRightI, WSplit. -/
import Derived.Test.YtonffldjbmednaaGreatDoorG00
import Derived.Test.YtonffldjbmednaaGreatDoorG07
import Derived.Deep.QuietTactic
import Derived.BigQuiet
import Derived.Test.YtonffldjbmednaaGreatDoorG05
import Derived.Test.YtonffldjbmednaaGreatDoorG06
import Derived.Deep.Cut
import Derived.Test.YtonffldjbmednaaGreatDoorG02
import Derived.Test.YtonffldjbmednaaGreatDoorProg
import Derived.WalkSpells
namespace Go.Proofs.YtonffldjbmednaaGreatDoor
section
open Go.RowKit
namespace WNames
set_option maxRecDepth 100000 in
set_option maxHeartbeats 400000 in
theorem any (s:ByteArray) (w:World) (hs:s.size≤1048576):
  Calls Tryz.prog 106 #[.string s] w fun e w'=>∃v,e= .returned (.tuple #[v, .bool (Pl.za2 s)])∧
   w'.ownsRow w.heap.size 9 1 v (Pl.zb7 s).length ((Pl.zb7 s).map Value.string)∧Below w.heap.size w w':=by
 by_cases h0:s.size=0
 ·have E:=hide (Pl.zg4 h0).1;have E2:=hide ((Pl.zh5 (Pl.zg4 h0).1).trans (Pl.zg4 h0).2);obtain rfl:s=⟨#[]⟩:=by apply ByteArray.ext;exact Array.eq_empty_of_size_eq_zero h0
  go_enter Tryz.func106,Tryz.ntmps106
  go_wp2
  go_ret2
  refine ⟨.slice none 0 0,by rw [za E];rfl,?_,Below.refl _ _⟩;rw [za E2];exact World.ownsRow_nil _ _ _ _
 have t0:s.toList.isEmpty=false:=by
  rw [List.isEmpty_eq_false_iff,ByteArray.toList_eq];intro h;have h1:s.data.toList.length=0:=by rw [h];rfl
  rw [Array.length_toList] at h1;exact h0 h1
 have E1:Hid (Pl.names s=Pl.cut s 47):=if_neg h0;by_cases h8:8000<s.size
 ·have E:=hide (Pl.zv7 (s:=s) (by omega));have E2:=hide (Pl.zs6 (za E));go_enter Tryz.func106,Tryz.ntmps106
  go_wp2
  go_ret2
  refine ⟨.slice none 0 0,by rw [za E];rfl,?_,Below.refl _ _⟩;rw [za E2];exact World.ownsRow_nil _ _ _ _
 have hpos:=Pl.cut_pos s;have hlen:=Pl.cut_length s
 have HSZ:Hid (∀ (k:Nat) t,(Pl.cut s 47)[k]? =some t→t.size≤maxLen):=fun k t ht=>by
  have :=Pl.cut_size ht;unfold maxLen;omega
 have HLONG:Hid (6<(Pl.cut s 47).length→Pl.za2 s=false):=fun h=>by
  rw [Pl.zs9,E1.out];simp;intro _;omega
 have HBAD:Hid (∀ (k:Nat) t,(Pl.cut s 47)[k]? =some t→Pl.zc8 t=false→Pl.za2 s=false):=fun k t ht hb=>Pl.pathB_bad (by rw [E1.out];exact ht) hb
 have HGOOD:Hid ((Pl.cut s 47).length≤6→(∀ (j:Nat) t,(Pl.cut s 47)[j]? =some t→Pl.zc8 t=true)→Pl.za2 s=true∧Pl.zb7 s=Pl.cut s 47):=fun h6 h=>by
  have h1:Pl.za2 s=true:=by
   rw [Pl.zs9,E1.out];simp [h6]
   intro t ht;obtain ⟨j,hj⟩:=List.mem_iff_getElem?.1 ht;exact h j t hj
  exact ⟨h1,by rw [Pl.zh5 h1,E1.out]⟩
 have hn:=hide (WWords.any s w hs);generalize Pl.cut s 47=L at hn hlen HSZ HBAD HGOOD HLONG hpos;go_enter Tryz.func106,Tryz.ntmps106
 go_wp2_with fail
 refine (za hn).mono ?_;rintro e w1 ⟨v,rfl,hown,hbel⟩;have HO:=hide hown
 rcases Mem.texts hown with ⟨rfl,rfl⟩|⟨g,cap,rfl,hcap,hm,hgb,hgl,hcell⟩
 ·simp at hpos
 have HC:=hide hcell;clear hcell hown hn;have hm2:=hm;unfold maxLen at hm2;by_cases h6:6<L.length
 ·have E:=hide (HLONG.out h6);have E2:=hide (Pl.zs6 (za E));go_wp2
  go_ret2
  refine ⟨.slice none 0 0,by rw [za E];rfl,?_,hbel⟩;rw [za E2];exact World.ownsRow_nil _ _ _ _
 go_wp2
 go_loop [19] (fun i=>∃k:Nat,k≤L.length∧i= .int .i64 (k:Int)∧Hid (∀ (j:Nat) t,j<k→L[j]? =some t→Pl.zc8 t=true)) (fun i=>L.length - (intOf i).toNat)
 case atStart=>exact ⟨0,Nat.zero_le _,rfl,fun j t h=>absurd h (by omega)⟩
 case round=>
  obtain ⟨k,hk,rfl,HA⟩:=hrel;by_cases hlt:k<L.length
  ·obtain ⟨t,ht⟩:∃t,L[k]? =some t:=⟨_,List.getElem?_eq_getElem hlt⟩;have hc:=HC.out k t ht;have hts:=HSZ.out k t ht;cases hb:Pl.zc8 t
   ·have E:=hide (HBAD.out k t ht hb);have E2:=hide (Pl.zs6 (za E));have HB:=hide hb;clear ht hb;go_wp2_with (go_at_call 130;refine (WName.zw2 t _ hts).mono ?_;rw [za HB];rintro e w' ⟨rfl,hw⟩;obtain rfl:=hw.symm)
    go_ret2
    refine ⟨.slice none 0 0,by rw [za E];rfl,?_,hbel⟩;rw [za E2];exact World.ownsRow_nil _ _ _ _
   ·have HB:=hide hb
    have HA2:Hid (∀ (j:Nat) t,j<k+1→L[j]? =some t→Pl.zc8 t=true):=fun j t' hj h'=>by
     rcases Nat.lt_succ_iff_lt_or_eq.1 hj with h''|rfl
     ·exact HA.out j t' h'' h'
     ·rw [ht] at h';cases h';exact hb
    clear ht hb HA;go_wp2_with (go_at_call 130;refine (WName.zw2 t _ hts).mono ?_;rw [za HB];rintro e w' ⟨rfl,hw⟩;obtain rfl:=hw.symm)
    go_round
    case rel=>exact ⟨k+1,by omega,by go_num,HA2⟩
    case measure=>simp [intOf];omega
  ·have E:=hide (HGOOD.out (by omega) (fun j t h=>HA.out j t (by have :=(List.getElem?_eq_some_iff.1 h).1;omega) h));clear HA;go_wp2
   go_ret2
   exact ⟨.slice (some ⟨g,0,none⟩) L.length cap,by rw [(za E).1];rfl,by rw [(za E).2];exact za HO,hbel⟩
end WNames
end
section
open Go.RowKit
namespace WUnder
set_option maxRecDepth 100000 in
theorem both_any (a b:ByteArray) (w:World) (ha:a.size≤1048576) (hb:b.size≤1048576):
  Calls Tryz.prog 115 #[.string a, .string b] w fun e w'=>∃v1 v2 m,e= .returned (.tuple #[v1,v2, .bool (Pl.za2 a&&Pl.za2 b)])∧w.heap.size≤m∧
   w'.ownsRow w.heap.size 9 1 v1 (Pl.zb7 a).length ((Pl.zb7 a).map Value.string)∧(∀k,v1.ownBlock=some k→k<m)∧
   w'.ownsRow m 9 1 v2 (Pl.zb7 b).length ((Pl.zb7 b).map Value.string)∧Below w.heap.size w w':=by
 have hn1:=hide (fun W=>WNames.any a W ha);have hn2:=hide (fun W=>WNames.any b W hb);generalize Pl.za2 a=r1 at hn1 ⊢;generalize Pl.za2 b=r2 at hn2 ⊢;generalize Pl.zb7 a=A at hn1 ⊢;generalize Pl.zb7 b=B at hn2 ⊢;cases r1 <;> cases r2
 all_goals
  go_enter Tryz.func115,Tryz.ntmps115
  go_wp2_with fail
  refine (za hn1 _).mono ?_;rintro e w1 ⟨v1,rfl,hown1,hb1⟩;have HO1:=hide hown1;clear hown1;go_wp2_with fail
  refine (za hn2 _).mono ?_;rintro e w2 ⟨v2,rfl,hown2,hb2⟩;have HO2:=hide hown2;clear hown2
  have H:Hid (∃m,w.heap.size≤m∧w2.ownsRow w.heap.size 9 1 v1 A.length (A.map Value.string)∧(∀k,v1.ownBlock=some k→k<m)∧
    w2.ownsRow m 9 1 v2 B.length (B.map Value.string)∧Below w.heap.size w w2):=
   ⟨w1.heap.size,hb1.size,Mem.ze8 (za HO1) hb2,fun k hk=>((za HO1).lt k hk).2,za HO2,hb1.trans (hb2.mono hb1.size)⟩
  clear hb1 hb2 HO1 HO2;go_wp2
  go_ret3
  obtain ⟨m,h1,h2,h3,h4,h5⟩:=H.out;exact ⟨v1,v2,m,rfl,h1,h2,h3,h4,h5⟩
end WUnder
end
section
open Go.RowKit
namespace WLess
set_option maxRecDepth 100000 in
set_option maxHeartbeats 400000 in
theorem ahead_any (v u:Value) (A B:List ByteArray) (w:World) (hA:A.length≤1000) (hB:B.length≤1000) (hv:Mem.zm w v A) (hu:Mem.zm w u B):
  Calls Tryz.prog 144 #[v,u] w fun e w'=>e= .returned (.bool (Pl.za3 A B))∧Below w.heap.size w w':=by
 have HE:Hid (∀k,k=A.length∧k≤B.length∨k=B.length∧k≤A.length→Pl.za3 (A.drop k) (B.drop k)=decide (A.length<B.length)):=fun k h=>Pl.less_end h;by_cases h0:A=[]∨B=[]
 ·have E:Hid (Pl.za3 A B=decide (A.length<B.length)):=by
   show _=_;have :=HE.out 0 (by rcases h0 with rfl |rfl <;> simp)
   simpa using this
  obtain ⟨va,vc,rfl⟩:=Mem.zo3 hv;obtain ⟨ua,uc,rfl⟩:=Mem.zo3 hu;clear hv hu HE
  rcases h0 with rfl |rfl
  ·have t0:(([]:List ByteArray).length:Int)≤(B.length:Int):=by simp
   go_enter Tryz.func144,Tryz.ntmps144
   go_wp2
   go_loop [11] (fun i=>i= .int .i64 0) (fun _=>0)
   case atStart=>rfl
   case round=>
    subst hrel;go_wp2
    go_ret
    exact ⟨za0 (by rw [E.out];simp),Below.refl _ _⟩
  ·by_cases hA0:A=[]
   ·subst hA0;go_enter Tryz.func144,Tryz.ntmps144
    go_wp2
    go_loop [11] (fun i=>i= .int .i64 0) (fun _=>0)
    case atStart=>rfl
    case round=>
     subst hrel;go_wp2
     go_ret
     exact ⟨za0 (by rw [E.out];simp),Below.refl _ _⟩
   ·have hp:0<A.length:=List.length_pos_iff.2 hA0;have t0:¬ (A.length:Int)≤0:=by omega
    have t1:¬ (A.length:Int)<0:=by omega
    have t2:(0:Int)<(A.length:Int):=by omega
    go_enter Tryz.func144,Tryz.ntmps144
    go_wp2
    go_loop [11] (fun i=>i= .int .i64 0) (fun _=>0)
    case atStart=>rfl
    case round=>
     subst hrel;go_wp2
     go_ret
     exact ⟨za0 (by rw [E.out];simp),Below.refl _ _⟩
 ·rcases hu with ⟨_,rfl⟩|⟨b,o,cap,rfl,hb,hcb⟩
  ·simp at h0
  rcases hv with ⟨_,rfl⟩|⟨b',o',cap',rfl,hb',hca⟩
  ·simp at h0
  have HA:=hide hca;have HB:=hide hcb;clear hca hcb h0;have HS:Hid (Pl.za3 A B=Pl.za3 (A.drop 0) (B.drop 0)):=rfl;have HT:Hid (∀k a b,A[k]? =some a→B[k]? =some b→a=b→Pl.za3 (A.drop k) (B.drop k)=Pl.za3 (A.drop (k+1)) (B.drop (k+1))):=fun k a b h1 h2 h3=>Pl.less_same h1 h2 h3;have HF:Hid (∀k a b,A[k]? =some a→B[k]? =some b→a≠b→Pl.za3 (A.drop k) (B.drop k)=Op.bytesLess a.toList b.toList):=fun k a b h1 h2 h3=>Pl.ya5 h1 h2 h3;generalize Pl.za3 A B=R at HS ⊢;by_cases hAB:A.length≤B.length
  ·have t0:(A.length:Int)≤(B.length:Int):=by omega
   go_enter Tryz.func144,Tryz.ntmps144
   go_wp2
   go_loopw [11] (fun i wr=>∃k:Nat,k≤A.length∧i= .int .i64 (k:Int)∧Below w.heap.size w wr∧Hid (R=Pl.za3 (A.drop k) (B.drop k))) (fun i _=>A.length - (intOf i).toNat)
   case atStart=>exact ⟨0,Nat.zero_le _,rfl,Below.refl _ _,HS⟩
   case round=>
    obtain ⟨k,hk,rfl,hbel,HR⟩:=hrel;by_cases hlt:k<A.length
    ·obtain ⟨y,hy⟩:∃y,B[k]? =some y:=⟨_,List.getElem?_eq_getElem (by omega)⟩;obtain ⟨x,hx⟩:∃x,A[k]? =some x:=⟨_,List.getElem?_eq_getElem (by omega)⟩;have hc1:wr.cell? ⟨b,o+k,none⟩=some (.string y):=(hbel.cell (p:=⟨b,o+k,none⟩) hb).trans (HB.out k y hy);have hc2:wr.cell? ⟨b',o'+k,none⟩=some (.string x):=(hbel.cell (p:=⟨b',o'+k,none⟩) hb').trans (HA.out k x hx);have u1:(k:Int)<(A.length:Int):=by omega
     have u2:(k:Int)<(B.length:Int):=by omega
     have u3:(0:Int)≤(k:Int):=by omega
     by_cases hxy:x=y
     ·have t2:=Pl.zw0 hxy;have HR2:Hid (R=Pl.za3 (A.drop (k+1)) (B.drop (k+1))):=HR.out.trans (HT.out k x y hx hy hxy);clear hx hy HR hxy;go_wp2
      go_quiet (fail)
      go_wp2
      go_roundw
      case rel=>exact ⟨k+1,by omega,by go_num,Mem.below_drewN hbel _,HR2⟩
      case measure=>simp [intOf];omega
     ·have t2:=Pl.zr4 hxy;have E:Hid (R=Op.bytesLess x.toList y.toList):=HR.out.trans (HF.out k x y hx hy hxy);clear hx hy HR hxy;go_wp2
      go_quiet (fail)
      go_wp2
      go_quiet (fail)
      go_wp2
      go_ret
      exact ⟨za0 E.out.symm,Mem.below_drewN (Mem.below_drewN hbel _) _⟩
    ·obtain rfl:k=A.length:=by omega
     have E:Hid (R=decide (A.length<B.length)):=HR.out.trans (HE.out _ (by omega));clear HR;go_wp2
     go_ret
     exact ⟨za0 (by rw [E.out]),hbel⟩
  ·have t0:¬ (A.length:Int)≤(B.length:Int):=by omega
   have t9:(B.length:Int)<(A.length:Int):=by omega
   go_enter Tryz.func144,Tryz.ntmps144
   go_wp2
   go_loopw [11] (fun i wr=>∃k:Nat,k≤B.length∧i= .int .i64 (k:Int)∧Below w.heap.size w wr∧Hid (R=Pl.za3 (A.drop k) (B.drop k))) (fun i _=>B.length - (intOf i).toNat)
   case atStart=>exact ⟨0,Nat.zero_le _,rfl,Below.refl _ _,HS⟩
   case round=>
    obtain ⟨k,hk,rfl,hbel,HR⟩:=hrel;by_cases hlt:k<B.length
    ·obtain ⟨y,hy⟩:∃y,B[k]? =some y:=⟨_,List.getElem?_eq_getElem (by omega)⟩;obtain ⟨x,hx⟩:∃x,A[k]? =some x:=⟨_,List.getElem?_eq_getElem (by omega)⟩;have hc1:wr.cell? ⟨b,o+k,none⟩=some (.string y):=(hbel.cell (p:=⟨b,o+k,none⟩) hb).trans (HB.out k y hy);have hc2:wr.cell? ⟨b',o'+k,none⟩=some (.string x):=(hbel.cell (p:=⟨b',o'+k,none⟩) hb').trans (HA.out k x hx);have u1:(k:Int)<(A.length:Int):=by omega
     have u2:(k:Int)<(B.length:Int):=by omega
     have u3:(0:Int)≤(k:Int):=by omega
     by_cases hxy:x=y
     ·have t2:=Pl.zw0 hxy;have HR2:Hid (R=Pl.za3 (A.drop (k+1)) (B.drop (k+1))):=HR.out.trans (HT.out k x y hx hy hxy);clear hx hy HR hxy;go_wp2
      go_quiet (fail)
      go_wp2
      go_roundw
      case rel=>exact ⟨k+1,by omega,by go_num,Mem.below_drewN hbel _,HR2⟩
      case measure=>simp [intOf];omega
     ·have t2:=Pl.zr4 hxy;have E:Hid (R=Op.bytesLess x.toList y.toList):=HR.out.trans (HF.out k x y hx hy hxy);clear hx hy HR hxy;go_wp2
      go_quiet (fail)
      go_wp2
      go_quiet (fail)
      go_wp2
      go_ret
      exact ⟨za0 E.out.symm,Mem.below_drewN (Mem.below_drewN hbel _) _⟩
    ·obtain rfl:k=B.length:=by omega
     have E:Hid (R=decide (A.length<B.length)):=HR.out.trans (HE.out _ (by omega));clear HR;go_wp2
     go_ret
     exact ⟨za0 (by rw [E.out]),hbel⟩

set_option maxRecDepth 100000 in
theorem zw7 (p t:ByteArray) (w:World) (hp:p.size≤1048576) (ht:t.size≤1048576):
  Calls Tryz.prog 124 #[.string p, .string t] w fun e w'=>e= .returned (.bool (Pl.za2 p&&Pl.za2 t&&Pl.za3 (Pl.zb7 p) (Pl.zb7 t)))∧Below w.heap.size w w':=by
 have hn:=hide (fun W=>WUnder.both_any p t W hp ht);have hA:=hide (Pl.zq p);have hB:=hide (Pl.zq t);generalize (Pl.za2 p&&Pl.za2 t)=r at hn ⊢;generalize Pl.zb7 p=A at hn hA ⊢;generalize Pl.zb7 t=B at hn hB ⊢;cases r
 ·go_enter Tryz.func124,Tryz.ntmps124
  go_wp2_with fail
  refine (za hn _).mono ?_;rintro e w1 ⟨v1,v2,m,rfl, -, -, -, -,hb⟩;go_wp2
  go_ret
  exact ⟨rfl,hb⟩
 ·go_enter Tryz.func124,Tryz.ntmps124
  go_wp2_with fail
  refine (za hn _).mono ?_;rintro e w1 ⟨v1,v2,m,rfl,h1,h2,h3,h4,hb⟩;have i1:=hide (Mem.zo6 h2);have i2:=hide (Mem.zo6 h4);clear h2 h4 h3 hn;go_wp2_with fail
  refine (ahead_any _ _ A B _ (by have :=(za hA).2;omega) (by have :=(za hB).2;omega) (za i1) (za i2)).mono ?_;rintro e w2 ⟨rfl,hb2⟩;have hb3:=hb.trans (hb2.mono hb.size);generalize hr:Pl.za3 A B=r2;have HR:=hide hr;clear hr hb hb2;go_wp2
  go_ret
  exact ⟨by rw [za HR];rfl,hb3⟩
end WLess
end
section
set_option linter.unusedSimpArgs false
open Go.RowKit Go.Maps
namespace WSpI
theorem twice_is (M:List Pl.Mn) (m:Pl.Mn):Pl.zm5 M m=M.any (other m):=rfl
set_option maxRecDepth 100000 in
set_option maxHeartbeats 800000 in
theorem twice_any (q:Nat) (ma:Option Addr) (mc:Nat) (M:List Pl.Mn) (ha:Option Addr) (hc:Nat) (H:List Pl.Hn) (next :Int) (m:Pl.Mn) (w:World) (hl:M.length≤1048576) (hm:Mem.zb2 w ma M):
  Calls Tryz.prog 125 #[.agg #[.map (some q), .slice ma M.length mc, .slice ha H.length hc, .int .i64 next], .agg #[.string m.p, .int .i64 m.i, .bool m.z]] w fun e w'=>e= .returned (.bool (Pl.zm5 M m))∧Below w.heap.size w w':=by
 have hmf:∀ (fn:Fn) (first cap:Array Value) (w:World),(Instr.makeFunc fn first cap).run Tryz.prog w= .ok (.func fn first cap) w:=fun _ _ _ _=>rfl;have b0:Below w.heap.size w ((w.alloc (.cells #[.map (some q), .slice ma M.length mc, .slice ha H.length hc, .int .i64 next] 59)).alloc (.cells #[.string m.p, .int .i64 m.i, .bool m.z] 50)):=((Below.refl _ _).alloc (Nat.le_refl _) _).alloc (by simp) _;have V:=(Mem.Blk.new w #[.map (some q), .slice ma M.length mc, .slice ha H.length hc, .int .i64 next] 59).alloc (.cells #[.string m.p, .int .i64 m.i, .bool m.z] 50);have X:Mem.Blk ((w.alloc (.cells #[.map (some q), .slice ma M.length mc, .slice ha H.length hc, .int .i64 next] 59)).alloc (.cells #[.string m.p, .int .i64 m.i, .bool m.z] 50)) (w.heap.size+1) #[.string m.p, .int .i64 m.i, .bool m.z] 50:=Mem.zl8 _ _ _
 have hcon:=hide (contains_any 145 (.pointer (some ⟨w.heap.size+1,0,none⟩)) (other m) ma mc M _ hl (Mem.zc7 hm b0) (fun t W=>by kernel_rfl) (fun t _ W b=>other_any m t (w.heap.size+1) W (X.call b)));have a1:=V.cell 1;simp only [kGs] at a1;rw [twice_is];generalize M.any (other m)=R at hcon ⊢;clear V X hm;go_enter Tryz.func125,Tryz.ntmps125
 go_wp2_with fail
 refine (za hcon).mono ?_;rintro e w1 ⟨rfl,bX⟩;have bb:=b0.trans (bX.mono b0.size);go_wp2
 go_ret
 exact ⟨rfl,bb⟩
set_option maxRecDepth 100000 in
set_option maxHeartbeats 4000000 in
theorem zu (q:Nat) (E:List (Int × Pl.Nv)) (n:Nat) (ma:Option Addr) (mc:Nat) (M:List Pl.Mn) (ha:Option Addr) (hc:Nat) (H:List Pl.Hn) (next :Int) (w:World) (hl:M.length≤1048576) (hm:Mem.zb2 w ma M) (hP:∀m∈M,m.p.size≤1048576∧MapI.i64 m.i)
  (hE:E.Pairwise (fun a b=>a.1≠b.1)) (hown:w.ownsMap Tryz.prog 2 MapI.elem q n (MapI.mapOf (Pl.vals E))):
  Calls Tryz.prog 94 #[.agg #[.map (some q), .slice ma M.length mc, .slice ha H.length hc, .int .i64 next]] w fun e w'=>e= .returned (.bool (Pl.zi4 (E.map (·.1)) M))∧Below w.heap.size w w':=by
 have HL:=hide (fun d=>Pl.zs4 hE d);have HO:=hide hown;have HV:=hide hm;have HP:=hide hP;have HTW:=hide (fun W (b:Below w.heap.size w W) m=>twice_any q ma mc M ha hc H next m W hl (Mem.zc7 hm b));generalize hids:E.map (·.1)=ids at HL ⊢;have b0:=(Below.refl w.heap.size w).alloc (o:= .cells #[.map (some q), .slice ma M.length mc, .slice ha H.length hc, .int .i64 next] 59) (Nat.le_refl _);have V0:=hide (Mem.Blk.new w #[.map (some q), .slice ma M.length mc, .slice ha H.length hc, .int .i64 next] 59);have a1:=(za V0).cell 1;simp only [kGs] at a1;clear hm hP hown hE hids;by_cases h0:M.length=0
 ·have z0:((M.length:Int)==0)=true:=by simp [h0]
  have e0:Pl.zi4 ids M=false:=by rw [List.length_eq_zero_iff.1 h0];rfl
  rw [e0];clear HV HP HL HO HTW h0;go_enter Tryz.func94,Tryz.ntmps94
  go_wp2
  go_ret
  exact ⟨rfl,b0⟩
 have z0:((M.length:Int)==0)=false:=by rw [beq_eq_false_iff_ne];omega
 have z1:(0:Int)<(M.length:Int):=by omega
 obtain ⟨m0,hm0⟩:∃n,M[0]? =some n:=⟨_,List.getElem?_eq_getElem (by omega)⟩;obtain ⟨g,o,rfl,hg,q0, -, -⟩:=(za HV) 0 m0 hm0
 have HR0:Hid (Pl.zi4 ids M=(decide (m0.p.size=0)&&(List.range M.length).all (Pl.zh3 ids M))):=hide (by
  unfold Pl.zi4;cases M with
  |nil=>simp at hm0
  |cons a r=>cases hm0;rfl)
 have p0:=(b0.cell (p:=⟨g,_,none⟩) hg).trans q0;simp only [Nat.zero_mul,Nat.add_zero] at p0;generalize Pl.zi4 ids M=RB at HR0 ⊢;clear q0 hm0;by_cases hz:m0.p.size=0
 case neg=>
  have hz2:m0.p≠⟨#[]⟩:=fun e=>hz (by rw [e];rfl);have hz3:m0.p.toList.isEmpty=false:=by rw [Pl.zd2];simp;exact fun e=>hz2 (Pl.zh4 e)
  have hz4:(m0.p.toList==[])=false:=by rw [Pl.list_is];simp;exact fun e=>hz2 (Pl.zh4 e)
  have HE0:Hid (RB=false):=hide (by rw [za HR0,decide_eq_false hz];rfl);clear HV HP HL HO HTW HR0;go_enter Tryz.func94,Tryz.ntmps94
  go_wp2
  go_ret
  exact ⟨by rw [za HE0];rfl,b0⟩
 have hz2:m0.p=⟨#[]⟩:=ByteArray.ext (Array.eq_empty_of_size_eq_zero hz);have HR1:Hid (RB=(List.range M.length).all (Pl.zh3 ids M)):=hide (by rw [za HR0,decide_eq_true hz];rfl);rw [hz2] at p0;clear HR0 hz hz2;go_enter Tryz.func94,Tryz.ntmps94
 go_wp2
 go_loopw [22] (fun i wr=>∃k:Nat,k≤M.length∧i= .int .i64 (k:Int)∧Below w.heap.size w wr∧Hid (Mem.Blk wr w.heap.size #[.map (some q), .slice (some ⟨g,o,none⟩) M.length mc, .slice ha H.length hc, .int .i64 next] 59)∧Hid (∀j,j<k→Pl.zh3 ids M j=true)) (fun i _=>M.length - (intOf i).toNat)
 case atStart=>exact ⟨0,Nat.zero_le _,rfl,b0,V0,fun j h=>absurd h (by omega)⟩
 case round=>
  obtain ⟨k,hk,rfl,hbel,V,HA⟩:=hrel;clear V0 b0 a1 p0;by_cases hlt:k<M.length
  ·obtain ⟨t,ht⟩:∃n,M[k]? =some n:=⟨_,List.getElem?_eq_getElem hlt⟩;obtain ⟨g2,o2,e2, -,q0,q1,q2⟩:=(za HV) k t ht;cases e2
   have HNO:Hid (Pl.zh3 ids M k=false→RB=false):=hide (fun h=>by rw [za HR1];exact Pl.zt0 hlt h);have u1:(k:Int)<(M.length:Int):=by omega
   have u3:(0:Int)≤(k:Int):=by omega
   have b2:Below wr.heap.size wr (wr.alloc (.cells #[.string t.p, .int .i64 t.i, .bool t.z] 50)):=(Below.refl _ _).alloc (Nat.le_refl _) _;have hbel2:=hbel.trans (b2.mono hbel.size);have c0:=(hbel.cell (p:=⟨g,_,none⟩) hg).trans q0;have c1:=(hbel.cell (p:=⟨g,_,none⟩) hg).trans q1;have c2:=(hbel.cell (p:=⟨g,_,none⟩) hg).trans q2;have X2:=hide (Mem.Blk.new wr #[.string t.p, .int .i64 t.i, .bool t.z] 50);have V2:=hide ((za V).call b2);obtain ⟨hpz,hpi⟩:=za HP t (List.mem_of_getElem? ht);have hkey:=MapI.zk1 hpi;clear q0 q1 q2 b2 V hpi;go_upto_region 6 with fail
   generalize wr.alloc (.cells #[.string t.p, .int .i64 t.i, .bool t.z] 50)=wZ at hbel2 V2 X2 ⊢;generalize wr.heap.size=X at X2 ⊢;have HS0:Hid (k=0→Pl.zh3 ids M k=(true&&decide (t.i∈ids)&&!t.z&&!Pl.zm5 M t)):=hide (fun e=>by subst e;unfold Pl.zh3;rw [ht]);have HS1:Hid (∀k' p,k=k'+1→M[k']? =some p→Pl.zh3 ids M k=(Pl.ltP p.p t.p&&decide (t.i∈ids)&&!t.z&&!Pl.zm5 M t)):=hide (fun k' p e hp=>by subst e;unfold Pl.zh3;rw [ht];simp only [hp]);have x0:=(za X2).cell 0;have x1:=(za X2).cell 1;have x2:=(za X2).cell 2;have w2:=(za V2).cell 2;have w3:=(za V2).cell 3;have w0:=(za V2).cell 0;have w1:=(za V2).cell 1;simp only [kGs] at x0 x1 x2 w0 w1 w2 w3;have VZ:=hide (za V2).lt;have hXl:Hid (X<wZ.heap.size):=hide (World.block_lt_of_cell? wZ ⟨X,0,none⟩ x0);obtain ⟨hhas,hat⟩:=za HL t.i;have HHAS:=hide hhas;have HAT:=hide hat;clear hhas hat hbel c0 c1 c2;by_cases hk0:k=0
   ·have z1:¬ (0:Int)<(k:Int):=by omega
    have HSTEP:=hide (za HS0 hk0);clear HS0 HS1;have MK:Hid (∀W',Below wZ.heap.size wZ W'→(Below wZ.heap.size wZ W'∧W'.cell? ⟨X,0,none⟩=some (.string t.p)∧W'.cell? ⟨X,1,none⟩=some (.int .i64 t.i)∧W'.cell? ⟨X,2,none⟩=some (.bool t.z)∧W'.cell? ⟨w.heap.size,0,none⟩=some (.map (some q))∧W'.cell? ⟨w.heap.size,1,none⟩=some (.slice (some ⟨g,o,none⟩) M.length mc)∧W'.cell? ⟨w.heap.size,2,none⟩=some (.slice ha H.length hc)∧W'.cell? ⟨w.heap.size,3,none⟩=some (.int .i64 next))):=fun W' hb=>⟨hb,(hb.cell (p:=⟨_,_,none⟩) (za hXl)).trans x0,(hb.cell (p:=⟨_,_,none⟩) (za hXl)).trans x1,(hb.cell (p:=⟨_,_,none⟩) (za hXl)).trans x2,(hb.cell (p:=⟨_,_,none⟩) (za VZ)).trans w0,(hb.cell (p:=⟨_,_,none⟩) (za VZ)).trans w1,(hb.cell (p:=⟨_,_,none⟩) (za VZ)).trans w2,(hb.cell (p:=⟨_,_,none⟩) (za VZ)).trans w3⟩;go_wp2_with fail
    refine RG MK (bD _) fun hHeld=>?_;refine TB 0 ?_;refine TB 1 ?_;refine TB 2 ?_;refine TC 3 ?_;refine TC 4 ?_;refine TC 5 ?_;refine TC 6 ?_;refine TC 7 ?_;refine TC 8 ?_;refine TC 9 ?_;refine TC 10 ?_;refine TC 11 ?_;refine TC 12 ?_;refine TC 13 ?_;refine TB 14 ?_;refine wpAnyH_done (by kernel_rfl) ?_ _;have bb:=hbel2.trans (hHeld.1.mono hbel2.size);have VV:=hide ((za V2).call hHeld.1);have XX:=hide ((za X2).call hHeld.1);clear hHeld MK hbel2 V2 X2 x0 x1 x2 w0 w1 w2 w3;generalize wZ.drew=wX at bb VV XX ⊢;have HM2:=hide (MapI.ze3 (za HO) bb);have a0:=(za VV).cell 0;have a1:=(za VV).cell 1;have a2:=(za VV).cell 2;have a3:=(za VV).cell 3;have y0:=(za XX).cell 0;have y1:=(za XX).cell 1;have y2:=(za XX).cell 2;simp only [kGs] at a0 a1 a2 a3 y0 y1 y2;generalize hNV:Pl.getN E t.i=nv at HAT;clear hNV;by_cases hin:t.i∈ids
    case neg=>
     have HE0:Hid (RB=false):=hide (za HNO (by rw [za HSTEP,decide_eq_false hin];simp));rw [decide_eq_false hin] at HHAS;go_wp2_with (at_lookup;refine MapI.look_ok _ rfl _ _ 57 rfl 2 121 MapI.law Tryz.underlying57 _ (Pl.zr7 _) q n _ rfl (za HM2) _ _ rfl hkey _ (za HAT) false (za HHAS) ?_)
     have b5:=bb.alloc (o:= .cells #[.map nv.m, .int .i64 nv.n, .slice nv.a nv.n nv.cap] 121) bb.size;go_wp2
     go_ret
     exact ⟨by rw [za HE0];rfl,b5⟩
    rw [decide_eq_true hin] at HHAS HSTEP;go_upto_region 9 with (at_lookup;refine MapI.look_ok _ rfl _ _ 57 rfl 2 121 MapI.law Tryz.underlying57 _ (Pl.zr7 _) q n _ rfl (za HM2) _ _ rfl hkey _ (za HAT) true (za HHAS) ?_)
    have b5:=bb.alloc (o:= .cells #[.map nv.m, .int .i64 nv.n, .slice nv.a nv.n nv.cap] 121) bb.size;have V5:=(za VV).alloc (.cells #[.map nv.m, .int .i64 nv.n, .slice nv.a nv.n nv.cap] 121);have X5:=(za XX).alloc (.cells #[.map nv.m, .int .i64 nv.n, .slice nv.a nv.n nv.cap] 121);generalize wX.alloc (.cells #[.map nv.m, .int .i64 nv.n, .slice nv.a nv.n nv.cap] 121)=wY at b5 V5 X5 ⊢;have HT1:=hide (za HTW _ b5 t);clear a0 a1 a2 a3 y0 y1 y2;have a0:=V5.cell 0;have a1:=V5.cell 1;have a2:=V5.cell 2;have a3:=V5.cell 3;have y0:=X5.cell 0;have y1:=X5.cell 1;have y2:=X5.cell 2;simp only [kGs] at a0 a1 a2 a3 y0 y1 y2;have V6:=hide V5;clear V5 X5 VV XX HM2 HHAS HAT;cases htz:t.z
    case true=>
     have HE0:Hid (RB=false):=hide (za HNO (by rw [za HSTEP,htz];simp));rw [htz] at y2;go_wp2
     go_ret
     exact ⟨by rw [za HE0];rfl,b5⟩
    rw [htz] at y2 HT1 HSTEP;go_wp2_with fail
    refine (za HT1).mono ?_;rintro e w6 ⟨rfl,bX⟩;have b6:=b5.trans (bX.mono b5.size);have V7:=hide ((za V6).call bX);clear b5 bX V6 HT1 a0 a1 a2 a3 y0 y1 y2;cases htw:Pl.zm5 M t
    case true=>
     have HE0:Hid (RB=false):=hide (za HNO (by rw [za HSTEP,htw];simp));go_wp2
     go_ret
     exact ⟨by rw [za HE0];rfl,b6⟩
    have HA2:Hid (∀j,j<k+1→Pl.zh3 ids M j=true):=fun j hj=>by
     rcases Nat.lt_succ_iff_lt_or_eq.1 hj with h|h
     ·exact za HA j h
     ·rw [h,za HSTEP,htw];rfl
    go_wp2
    go_roundw
    case rel=>exact ⟨k+1,by omega,by go_num,b6,V7,HA2⟩
    case measure=>simp [intOf];omega
   ·have z1:(0:Int)<(k:Int):=by omega
    have z4:0<k:=by omega
    obtain ⟨k',hk'⟩:∃k',k=k'+1:=⟨k - 1,by omega⟩;obtain ⟨p,hp⟩:∃n,M[k']? =some n:=⟨_,List.getElem?_eq_getElem (by omega)⟩;have HSTEP:=hide (za HS1 k' p hk' hp);obtain ⟨g',o',e',hg',q0, -, -⟩:=(za HV) k' p hp;cases e'
    have pp:=(hbel2.cell (p:=⟨g,_,none⟩) hg).trans q0;have hwk:IntKind.i64.wrap ((k:Int) - 1)=(k':Int):=by simp only [IntKind.wrap_i64];omega
    have z2:(k':Int)<(M.length:Int):=by omega
    have z3:(0:Int)≤(k':Int):=by omega
    have hgl:Hid (g<wZ.heap.size):=hide (World.block_lt_of_cell? wZ ⟨g,_,none⟩ pp);have HC4:=hide (fun W=>WLess.zw7 p.p t.p W (za HP p (List.mem_of_getElem? hp)).1 hpz);rw [show (Pl.za2 p.p&&Pl.za2 t.p&&Pl.za3 (Pl.zb7 p.p) (Pl.zb7 t.p))=Pl.ltP p.p t.p from rfl] at HC4;have HKE:=hide hk';clear q0 hp hk' hk0 HS0 HS1;generalize Pl.ltP p.p t.p=lt at HC4 HSTEP;cases lt
    ·skip
     have HE0:Hid (RB=false):=hide (za HNO (by rw [za HSTEP];simp));have MK:Hid (∀W',Below wZ.heap.size wZ W'→(Below wZ.heap.size wZ W'∧W'.cell? ⟨X,0,none⟩=some (.string t.p)∧W'.cell? ⟨X,1,none⟩=some (.int .i64 t.i)∧W'.cell? ⟨X,2,none⟩=some (.bool t.z)∧W'.cell? ⟨w.heap.size,0,none⟩=some (.map (some q))∧W'.cell? ⟨w.heap.size,1,none⟩=some (.slice (some ⟨g,o,none⟩) M.length mc)∧W'.cell? ⟨w.heap.size,2,none⟩=some (.slice ha H.length hc)∧W'.cell? ⟨w.heap.size,3,none⟩=some (.int .i64 next)∧W'.cell? ⟨g,o+k'*3,none⟩=some (.string p.p))):=fun W' hb=>⟨hb,(hb.cell (p:=⟨_,_,none⟩) (za hXl)).trans x0,(hb.cell (p:=⟨_,_,none⟩) (za hXl)).trans x1,(hb.cell (p:=⟨_,_,none⟩) (za hXl)).trans x2,(hb.cell (p:=⟨_,_,none⟩) (za VZ)).trans w0,(hb.cell (p:=⟨_,_,none⟩) (za VZ)).trans w1,(hb.cell (p:=⟨_,_,none⟩) (za VZ)).trans w2,(hb.cell (p:=⟨_,_,none⟩) (za VZ)).trans w3,(hb.cell (p:=⟨_,_,none⟩) (za hgl)).trans pp⟩
     go_wp2_with fail
     refine RG MK (bD _) fun hHeld=>?_;refine TB 0 ?_;refine TB 1 ?_;refine TB 2 ?_;refine TB 3 ?_;refine TB 4 ?_;refine TB 5 ?_;refine TB 6 ?_;refine TB 7 ?_;refine TB 8 ?_;refine TB 9 ?_;refine TB 10 ?_;refine TB 11 ?_;refine RN 12 fun K hK=>?_;go_simp
     refine (za HC4 _).mono ?_;rintro e wX ⟨rfl,bX⟩;refine hK.out _ _ ?_ (fun hHeld=>?_)
     ·exact za MK _ (hHeld.1.trans (bX.mono hHeld.1.size))
     clear hK K
     try simp only [Act.put,kBs]
     refine TB 13 ?_;refine TB 14 ?_;refine wpAnyH_done (by kernel_rfl) ?_ _;have bb:=hbel2.trans (hHeld.1.mono hbel2.size);have VV:=hide ((za V2).call hHeld.1);have XX:=hide ((za X2).call hHeld.1);clear hHeld MK hbel2 V2 X2 x0 x1 x2 w0 w1 w2 w3;go_wp2
     go_ret
     exact ⟨by rw [za HE0];rfl,bb⟩
    ·skip
     have MK:Hid (∀W',Below wZ.heap.size wZ W'→(Below wZ.heap.size wZ W'∧W'.cell? ⟨X,0,none⟩=some (.string t.p)∧W'.cell? ⟨X,1,none⟩=some (.int .i64 t.i)∧W'.cell? ⟨X,2,none⟩=some (.bool t.z)∧W'.cell? ⟨w.heap.size,0,none⟩=some (.map (some q))∧W'.cell? ⟨w.heap.size,1,none⟩=some (.slice (some ⟨g,o,none⟩) M.length mc)∧W'.cell? ⟨w.heap.size,2,none⟩=some (.slice ha H.length hc)∧W'.cell? ⟨w.heap.size,3,none⟩=some (.int .i64 next)∧W'.cell? ⟨g,o+k'*3,none⟩=some (.string p.p))):=fun W' hb=>⟨hb,(hb.cell (p:=⟨_,_,none⟩) (za hXl)).trans x0,(hb.cell (p:=⟨_,_,none⟩) (za hXl)).trans x1,(hb.cell (p:=⟨_,_,none⟩) (za hXl)).trans x2,(hb.cell (p:=⟨_,_,none⟩) (za VZ)).trans w0,(hb.cell (p:=⟨_,_,none⟩) (za VZ)).trans w1,(hb.cell (p:=⟨_,_,none⟩) (za VZ)).trans w2,(hb.cell (p:=⟨_,_,none⟩) (za VZ)).trans w3,(hb.cell (p:=⟨_,_,none⟩) (za hgl)).trans pp⟩;go_wp2_with fail
     refine RG MK (bD _) fun hHeld=>?_;refine TB 0 ?_;refine TB 1 ?_;refine TB 2 ?_;refine TB 3 ?_;refine TB 4 ?_;refine TB 5 ?_;refine TB 6 ?_;refine TB 7 ?_;refine TB 8 ?_;refine TB 9 ?_;refine TB 10 ?_;refine TB 11 ?_;refine RN 12 fun K hK=>?_;go_simp
     refine (za HC4 _).mono ?_;rintro e wX ⟨rfl,bX⟩;refine hK.out _ _ ?_ (fun hHeld=>?_)
     ·exact za MK _ (hHeld.1.trans (bX.mono hHeld.1.size))
     clear hK K
     try simp only [Act.put,kBs]
     refine TB 13 ?_;refine TB 14 ?_;refine wpAnyH_done (by kernel_rfl) ?_ _;have bb:=hbel2.trans (hHeld.1.mono hbel2.size);have VV:=hide ((za V2).call hHeld.1);have XX:=hide ((za X2).call hHeld.1);clear hHeld MK hbel2 V2 X2 x0 x1 x2 w0 w1 w2 w3;have HM2:=hide (MapI.ze3 (za HO) bb);have a0:=(za VV).cell 0;have a1:=(za VV).cell 1;have a2:=(za VV).cell 2;have a3:=(za VV).cell 3;have y0:=(za XX).cell 0;have y1:=(za XX).cell 1;have y2:=(za XX).cell 2;simp only [kGs] at a0 a1 a2 a3 y0 y1 y2;generalize hNV:Pl.getN E t.i=nv at HAT;clear hNV;by_cases hin:t.i∈ids
     case neg=>
      have HE0:Hid (RB=false):=hide (za HNO (by rw [za HSTEP,decide_eq_false hin];simp));rw [decide_eq_false hin] at HHAS;go_wp2_with (at_lookup;refine MapI.look_ok _ rfl _ _ 57 rfl 2 121 MapI.law Tryz.underlying57 _ (Pl.zr7 _) q n _ rfl (za HM2) _ _ rfl hkey _ (za HAT) false (za HHAS) ?_)
      have b5:=bb.alloc (o:= .cells #[.map nv.m, .int .i64 nv.n, .slice nv.a nv.n nv.cap] 121) bb.size;go_wp2
      go_ret
      exact ⟨by rw [za HE0];rfl,b5⟩
     rw [decide_eq_true hin] at HHAS HSTEP;go_upto_region 9 with (at_lookup;refine MapI.look_ok _ rfl _ _ 57 rfl 2 121 MapI.law Tryz.underlying57 _ (Pl.zr7 _) q n _ rfl (za HM2) _ _ rfl hkey _ (za HAT) true (za HHAS) ?_)
     have b5:=bb.alloc (o:= .cells #[.map nv.m, .int .i64 nv.n, .slice nv.a nv.n nv.cap] 121) bb.size;have V5:=(za VV).alloc (.cells #[.map nv.m, .int .i64 nv.n, .slice nv.a nv.n nv.cap] 121);have X5:=(za XX).alloc (.cells #[.map nv.m, .int .i64 nv.n, .slice nv.a nv.n nv.cap] 121);generalize wX.alloc (.cells #[.map nv.m, .int .i64 nv.n, .slice nv.a nv.n nv.cap] 121)=wY at b5 V5 X5 ⊢;have HT1:=hide (za HTW _ b5 t);clear a0 a1 a2 a3 y0 y1 y2;have a0:=V5.cell 0;have a1:=V5.cell 1;have a2:=V5.cell 2;have a3:=V5.cell 3;have y0:=X5.cell 0;have y1:=X5.cell 1;have y2:=X5.cell 2;simp only [kGs] at a0 a1 a2 a3 y0 y1 y2;have V6:=hide V5;clear V5 X5 VV XX HM2 HHAS HAT;cases htz:t.z
     case true=>
      have HE0:Hid (RB=false):=hide (za HNO (by rw [za HSTEP,htz];simp));rw [htz] at y2;go_wp2
      go_ret
      exact ⟨by rw [za HE0];rfl,b5⟩
     rw [htz] at y2 HT1 HSTEP;go_wp2_with fail
     refine (za HT1).mono ?_;rintro e w6 ⟨rfl,bX⟩;have b6:=b5.trans (bX.mono b5.size);have V7:=hide ((za V6).call bX);clear b5 bX V6 HT1 a0 a1 a2 a3 y0 y1 y2;cases htw:Pl.zm5 M t
     case true=>
      have HE0:Hid (RB=false):=hide (za HNO (by rw [za HSTEP,htw];simp));go_wp2
      go_ret
      exact ⟨by rw [za HE0];rfl,b6⟩
     have HA2:Hid (∀j,j<k+1→Pl.zh3 ids M j=true):=fun j hj=>by
      rcases Nat.lt_succ_iff_lt_or_eq.1 hj with h|h
      ·exact za HA j h
      ·rw [h,za HSTEP,htw];rfl
     go_wp2
     go_roundw
     case rel=>exact ⟨k+1,by omega,by go_num,b6,V7,HA2⟩
     case measure=>simp [intOf];omega
  ·have u1:¬ (k:Int)<(M.length:Int):=by omega
   have HE:Hid (RB=true):=hide (by rw [za HR1];exact Pl.zq6 (fun j hj=>za HA j (by omega)));go_wp2
   go_ret
   exact ⟨by rw [za HE];rfl,hbel⟩
end WSpI
end
section
open Go.RowKit
namespace zt4
theorem zg7 (s:ByteArray) (w:World) (hs:s.size≤1048576):
  Calls Tryz.prog 64 #[.string s] w fun e w'=>e= .returned (.bool (Pl.za2 s))∧Below w.heap.size w w':=by
 go_enter Tryz.func64,Tryz.ntmps64
 go_wp2_with fail
 refine (WNames.any s _ hs).mono ?_;rintro e w1 ⟨v,rfl,hown,hb⟩;clear hown;go_wp2
 go_ret
 exact ⟨rfl,hb⟩
end zt4
end
section
open Go.RowKit
namespace WSplit
theorem infoS:(Tryz.prog.info? 9).map (fun i=>(i.zero,i.size,i.bytes))=some (some (.string ⟨#[]⟩),1,16):=by kernel_rfl

set_option maxRecDepth 100000 in
set_option maxHeartbeats 400000 in
theorem split_any (s:ByteArray) (b:Nat) (w:World) (hs:s.size≤1048576):
  Calls Tryz.prog 127 #[.string s, .int .u8 (b:Int)] w fun e w'=>∃v,e= .returned v∧
   w'.ownsRow w.heap.size 9 1 v (Pl.cut s b).length ((Pl.cut s b).map Value.string)∧Below w.heap.size w w':=by
 obtain ⟨i0,hi,hz0,hz1,hz2⟩:=info_parts infoS;go_enter Tryz.func127,Tryz.ntmps127
 go_wp2
 go_loopw [5,6,7] (fun v x i wr=>∃ (k fr:Nat) (L:List ByteArray),k≤s.size∧fr≤k∧L.length≤k∧i= .int .i64 (k:Int)∧x= .int .i64 (fr:Int)∧
   wr.ownsRow w.heap.size 9 1 v L.length (L.map Value.string)∧Below w.heap.size w wr∧Hid (Pl.cut s b=L++Pl.cutF s b (s.size - k) fr k)) (fun _ _ i _=>s.size - (intOf i).toNat)
 case atStart=>exact ⟨0,0,[],by omega,by omega,by simp,rfl,rfl,World.ownsRow_made _ _ 0 (Nat.le_refl _) (Nat.zero_le _) rfl,(Below.refl _ _).alloc (Nat.le_refl _) _,rfl⟩
 case round=>
  obtain ⟨k,fr,L,hk,hfr,hL,rfl,rfl,hown,hbel,H⟩:=hrel;have hb1:=hbel.size;by_cases hlt:k<s.size
  ·have hf:s.size - k=s.size - (k+1)+1:=by omega
   have t1:(0:Int)≤(fr:Int):=by omega
   have t2:(fr:Int)≤(k:Int):=by omega
   have t3:(k:Int)≤(s.size:Int):=by omega
   by_cases hq:s[k].toNat=b
   ·have H2:Hid (Pl.cut s b=(L++[s.extract fr k])++Pl.cutF s b (s.size - (k+1)) (k+1) (k+1)):=by
     show _=_;rw [H.out,hf,Pl.cutF_hit hlt hq];simp
    have t4:((s[k].toNat:Int)==(b:Int))=true:=by rw [beq_iff_eq];omega
    clear H hf hq;go_wp2_with (at_builtin;refine wpList_append_own _ rfl _ _ 144 rfl w.heap.size 9 i0 (.string ⟨#[]⟩) 1 16 Tryz.underlying144 hi hz0 hz1 hz2 rfl (by decide) _ _ _ rfl (hown.alloc _) ⟨wr.heap.size,0,none⟩ 1 1 [.string (s.extract fr k)] rfl rfl ?c1 ?c2 ?c3 ?c4 ?c5 ?_)
    case c1=>exact Mem.zo0 _ _ _
    case c2=>intro u hu;simp at hu;subst hu;rfl
    case c3=>unfold maxLen;omega
    case c4=>omega
    case c5=>simp;omega
    ·intro v' w2 hown' hgrow _;have hbel':=Mem.zg9 hbel (Nat.le_refl _) hown hgrow;have hown2:w2.ownsRow w.heap.size 9 1 v' (L++[s.extract fr k]).length ((L++[s.extract fr k]).map Value.string):=by simpa using hown'
     clear hgrow hown hbel hown' t4;go_wp2
     go_roundw
     case rel=>exact ⟨k+1,k+1,L++[s.extract fr k],by omega,by omega,by simp;omega,by go_num,by go_num,hown2,hbel',H2⟩
     case measure=>simp [intOf];omega
   ·have H2:Hid (Pl.cut s b=L++Pl.cutF s b (s.size - (k+1)) fr (k+1)):=by
     show _=_;rw [H.out,hf,Pl.zx1 hlt hq]
    have t4:((s[k].toNat:Int)==(b:Int))=false:=by rw [beq_eq_false_iff_ne];omega
    clear H hf hq;go_wp2
    go_roundw
    case rel=>exact ⟨k+1,fr,L,by omega,by omega,by omega,by go_num,rfl,hown,hbel,H2⟩
    case measure=>simp [intOf];omega
  ·obtain rfl:k=s.size:=by omega
   have H2:Hid (Pl.cut s b=L++[s.extract fr s.size]):=by
    show _=_;rw [H.out,Nat.sub_self];rfl
   have t1:(0:Int)≤(fr:Int):=by omega
   have t2:(fr:Int)≤(s.size:Int):=by omega
   clear H;go_wp2_with (at_builtin;refine wpList_append_own _ rfl _ _ 144 rfl w.heap.size 9 i0 (.string ⟨#[]⟩) 1 16 Tryz.underlying144 hi hz0 hz1 hz2 rfl (by decide) _ _ _ rfl (hown.alloc _) ⟨wr.heap.size,0,none⟩ 1 1 [.string (s.extract fr s.size)] rfl rfl ?c1 ?c2 ?c3 ?c4 ?c5 ?_)
   case c1=>exact Mem.zo0 _ _ _
   case c2=>intro u hu;simp at hu;subst hu;rfl
   case c3=>unfold maxLen;omega
   case c4=>omega
   case c5=>simp;omega
   ·intro v' w2 hown' hgrow _;have hbel':=Mem.zg9 hbel (Nat.le_refl _) hown hgrow;have hown2:w2.ownsRow w.heap.size 9 1 v' (Pl.cut s b).length ((Pl.cut s b).map Value.string):=by rw [H2.out];simpa using hown'
    clear hgrow hown hbel hown';go_wp2
    go_ret
    exact ⟨_,rfl,hown2,hbel'⟩
end WSplit
end
end Go.Proofs.YtonffldjbmednaaGreatDoor
