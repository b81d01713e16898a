/- Several texts of one claim in one file: WSplit, WPathS, WSpecR, WNode. -/
import Derived.Test.YtpggbphcbcogdaaGreatDoorG17
namespace Go.Proofs.YtpggbphcbcogdaaGreatDoor
section
open Go.RowKit
namespace WSplit
theorem zk5:(Tryz.prog.info? 9).map (fun i=>(i.zero,i.size,i.bytes))=some (some (.string ⟨#[]⟩),1,16):=by kernel_rfl

set_option maxRecDepth 100000 in
set_option maxHeartbeats 400000 in
theorem split_any (s:ByteArray) (b:Nat) (w:World) (hs:s.size≤1048576):
  Calls Tryz.prog 32 #[.string s, .int .u8 (b:Int)] w fun e w'=>∃v,e= .returned v∧
   w'.ownsRow w.heap.size 9 1 v (Pl.cut s b).length ((Pl.cut s b).map Value.string)∧Below w.heap.size w w':=by
 obtain ⟨i0,hi,hz0,hz1,hz2⟩:=info_parts zk5;go_enter Tryz.func32,Tryz.ntmps32
 go_wp2
 go_loopw [5,6,7] (fun v x i wr=>∃ (k fr:Nat) (L:List ByteArray),k≤s.size∧fr≤k∧L.length≤k∧i= .int .i64 (k:Int)∧x= .int .i64 (fr:Int)∧
   wr.ownsRow w.heap.size 9 1 v L.length (L.map Value.string)∧Below w.heap.size w wr∧Hid (Pl.cut s b=L++Pl.cutF s b (s.size - k) fr k)) (fun _ _ i _=>s.size - (intOf i).toNat)
 case atStart=>exact ⟨0,0,[],by omega,by omega,by simp,rfl,rfl,World.ownsRow_made _ _ 0 (Nat.le_refl _) (Nat.zero_le _) rfl,(Below.refl _ _).alloc (Nat.le_refl _) _,rfl⟩
 case round=>
  obtain ⟨k,fr,L,hk,hfr,hL,rfl,rfl,hown,hbel,H⟩:=hrel;have hb1:=hbel.size;by_cases hlt:k<s.size
  ·have hf:s.size - k=s.size - (k+1)+1:=by omega
   have t1:(0:Int)≤(fr:Int):=by omega
   have t2:(fr:Int)≤(k:Int):=by omega
   have t3:(k:Int)≤(s.size:Int):=by omega
   by_cases hq:s[k].toNat=b
   ·have H2:Hid (Pl.cut s b=(L++[s.extract fr k])++Pl.cutF s b (s.size - (k+1)) (k+1) (k+1)):=by
     show _=_;rw [H.out,hf,Pl.cutF_hit hlt hq];simp
    have t4:((s[k].toNat:Int)==(b:Int))=true:=by rw [beq_iff_eq];omega
    clear H hf hq;go_wp2_with (at_builtin;refine wpList_append_own _ rfl _ _ 24 rfl w.heap.size 9 i0 (.string ⟨#[]⟩) 1 16 Tryz.underlying24 hi hz0 hz1 hz2 rfl (by decide) _ _ _ rfl (hown.alloc _) ⟨wr.heap.size,0,none⟩ 1 1 [.string (s.extract fr k)] rfl rfl ?c1 ?c2 ?c3 ?c4 ?c5 ?_)
    case c1=>exact Mem.zd0 _ _ _
    case c2=>intro u hu;simp at hu;subst hu;rfl
    case c3=>unfold maxLen;omega
    case c4=>omega
    case c5=>simp;omega
    ·intro v' w2 hown' hgrow _;have hbel':=Mem.ze0 hbel (Nat.le_refl _) hown hgrow;have hown2:w2.ownsRow w.heap.size 9 1 v' (L++[s.extract fr k]).length ((L++[s.extract fr k]).map Value.string):=by simpa using hown'
     clear hgrow hown hbel hown' t4;go_wp2
     go_roundw
     case rel=>exact ⟨k+1,k+1,L++[s.extract fr k],by omega,by omega,by simp;omega,by go_num,by go_num,hown2,hbel',H2⟩
     case measure=>simp [intOf];omega
   ·have H2:Hid (Pl.cut s b=L++Pl.cutF s b (s.size - (k+1)) fr (k+1)):=by
     show _=_;rw [H.out,hf,Pl.zu hlt hq]
    have t4:((s[k].toNat:Int)==(b:Int))=false:=by rw [beq_eq_false_iff_ne];omega
    clear H hf hq;go_wp2
    go_roundw
    case rel=>exact ⟨k+1,fr,L,by omega,by omega,by omega,by go_num,rfl,hown,hbel,H2⟩
    case measure=>simp [intOf];omega
  ·obtain rfl:k=s.size:=by omega
   have H2:Hid (Pl.cut s b=L++[s.extract fr s.size]):=by
    show _=_;rw [H.out,Nat.sub_self];rfl
   have t1:(0:Int)≤(fr:Int):=by omega
   have t2:(fr:Int)≤(s.size:Int):=by omega
   clear H;go_wp2_with (at_builtin;refine wpList_append_own _ rfl _ _ 24 rfl w.heap.size 9 i0 (.string ⟨#[]⟩) 1 16 Tryz.underlying24 hi hz0 hz1 hz2 rfl (by decide) _ _ _ rfl (hown.alloc _) ⟨wr.heap.size,0,none⟩ 1 1 [.string (s.extract fr s.size)] rfl rfl ?c1 ?c2 ?c3 ?c4 ?c5 ?_)
   case c1=>exact Mem.zd0 _ _ _
   case c2=>intro u hu;simp at hu;subst hu;rfl
   case c3=>unfold maxLen;omega
   case c4=>omega
   case c5=>simp;omega
   ·intro v' w2 hown' hgrow _;have hbel':=Mem.ze0 hbel (Nat.le_refl _) hown hgrow;have hown2:w2.ownsRow w.heap.size 9 1 v' (Pl.cut s b).length ((Pl.cut s b).map Value.string):=by rw [H2.out];simpa using hown'
    clear hgrow hown hbel hown';go_wp2
    go_ret
    exact ⟨_,rfl,hown2,hbel'⟩
end WSplit
end
section
open Go.RowKit
namespace ze1

theorem zo0 (s:ByteArray) (w:World) (hs:s.size≤1048576):
  Calls Tryz.prog 17 #[.string s] w fun e w'=>∃v,e= .returned v∧
   w'.ownsRow w.heap.size 9 1 v (Pl.names s).length ((Pl.names s).map Value.string)∧Below w.heap.size w w':=by
 by_cases h0:s.size=0
 ·have E:Hid (Pl.names s=[]):=if_pos h0;obtain rfl:s=⟨#[]⟩:=by apply ByteArray.ext;exact Array.eq_empty_of_size_eq_zero h0
  go_enter Tryz.func17,Tryz.ntmps17
  go_wp2
  go_ret
  refine ⟨_,rfl,?_,(Below.refl _ _).alloc (Nat.le_refl _) _⟩;rw [E.out];exact World.ownsRow_made _ _ 0 (Nat.le_refl _) (Nat.zero_le _) rfl
 ·have E:Hid (Pl.names s=Pl.cut s 47):=if_neg h0
  have t0:s.toList.isEmpty=false:=by
   rw [List.isEmpty_eq_false_iff,ByteArray.toList_eq];intro h;have h1:s.data.toList.length=0:=by rw [h];rfl
   rw [Array.length_toList] at h1;exact h0 h1
  go_enter Tryz.func17,Tryz.ntmps17
  go_wp2_with fail
  refine (WSplit.split_any s 47 _ hs).mono ?_;rintro e w1 ⟨v,rfl,hown,hb⟩;have HO:=hide hown;clear hown;go_wp2
  go_ret
  exact ⟨_,rfl,by rw [E.out];exact za HO,hb⟩

set_option maxRecDepth 100000 in
set_option maxHeartbeats 400000 in
theorem zh9 (s:ByteArray) (w:World) (hs:s.size≤maxLen):
  Calls Tryz.prog 15 #[.string s] w fun e w'=>e= .returned (.bool (Pl.za2 s))∧Below w.heap.size w w':=by
 unfold maxLen at hs;by_cases h2:200<s.size
 ·have E:=hide (Pl.zs4 h2);go_enter Tryz.func15,Tryz.ntmps15
  go_wp2
  go_ret
  exact ⟨za0 (za E).symm,Below.refl _ _⟩
 have hlen:=Pl.zp7 s
 have HSZ:Hid (∀ (k:Nat) t,(Pl.names s)[k]? =some t→t.size≤maxLen):=fun k t ht=>by
  have :=Pl.names_size ht;unfold maxLen;omega
 have HBAD:Hid (∀ (k:Nat) t,(Pl.names s)[k]? =some t→Pl.zb4 t=false→Pl.za2 s=false):=fun k t ht hb=>Pl.pathB_bad ht hb;have HGOOD:Hid ((∀ (j:Nat) t,(Pl.names s)[j]? =some t→Pl.zb4 t=true)→Pl.za2 s=decide ((Pl.names s).length≤6)):=fun h=>Pl.pathB_good (by omega) h;have hn:=hide (zo0 s w (by omega));generalize Pl.names s=L at hn hlen HSZ HBAD HGOOD;go_enter Tryz.func15,Tryz.ntmps15
 go_wp2_with fail
 refine (za hn).mono ?_;rintro e w1 ⟨v,rfl,hown,hbel⟩
 rcases hown.2 with ⟨rfl,h0⟩|⟨g,cap,cur,rfl,hgb,hg,hcap,hm,hsz,htk⟩
 ·obtain rfl:L=[]:=List.eq_nil_of_length_eq_zero h0;have E:=hide (HGOOD.out (fun j t h=>by simp at h));clear hown hn HGOOD HBAD HSZ;go_wp2
  go_loop [4] (fun i=>i= .int .i64 0) (fun _=>0)
  case atStart=>rfl
  case round=>
   subst hrel;go_wp2
   go_ret
   exact ⟨za0 (by rw [za E];rfl),hbel⟩
 ·have hcell:∀ (k:Nat) t,L[k]? =some t→w1.cell? ⟨g,k,none⟩=some (.string t):=by
   intro k t ht;have hk:=(List.getElem?_eq_some_iff.1 ht).1;rw [cell_of_row w1 g k cur 9 (0,0) hg];have h1:(cur.toList.take (L.length*1))[k]? =(L.map Value.string)[k]?:=by rw [htk]
   rw [List.getElem?_take_of_lt (by omega),List.getElem?_map,ht] at h1
   simpa using h1
  have HC:=hide hcell;clear hcell hown hn hg htk hsz;have hm2:=hm;unfold maxLen at hm2;go_wp2
  go_loop [4] (fun i=>∃k:Nat,k≤L.length∧i= .int .i64 (k:Int)∧Hid (∀ (j:Nat) t,j<k→L[j]? =some t→Pl.zb4 t=true)) (fun i=>L.length - (intOf i).toNat)
  case atStart=>exact ⟨0,Nat.zero_le _,rfl,fun j t h=>absurd h (by omega)⟩
  case round=>
   obtain ⟨k,hk,rfl,HA⟩:=hrel;by_cases hlt:k<L.length
   ·obtain ⟨t,ht⟩:∃t,L[k]? =some t:=⟨_,List.getElem?_eq_getElem hlt⟩;have hc:=HC.out k t ht;have hts:=HSZ.out k t ht;cases hb:Pl.zb4 t
    ·have E:=hide (HBAD.out k t ht hb);have HB:=hide hb;clear ht hb;go_wp2_with (go_at_call 30;refine (WName.zm4 t _ hts).mono ?_;rw [za HB];rintro e w' ⟨rfl,hw⟩;obtain rfl:=hw.symm)
     go_ret
     exact ⟨za0 (za E).symm,hbel⟩
    ·have HB:=hide hb
     have HA2:Hid (∀ (j:Nat) t,j<k+1→L[j]? =some t→Pl.zb4 t=true):=fun j t' hj h'=>by
      rcases Nat.lt_succ_iff_lt_or_eq.1 hj with h''|rfl
      ·exact HA.out j t' h'' h'
      ·rw [ht] at h';cases h';exact hb
     clear ht hb HA;go_wp2_with (go_at_call 30;refine (WName.zm4 t _ hts).mono ?_;rw [za HB];rintro e w' ⟨rfl,hw⟩;obtain rfl:=hw.symm)
     go_round
     case rel=>exact ⟨k+1,by omega,by go_num,HA2⟩
     case measure=>simp [intOf];omega
   ·have E:=hide (HGOOD.out (fun j t h=>HA.out j t (by have :=(List.getElem?_eq_some_iff.1 h).1;omega) h));clear HA;by_cases h6:L.length≤6
    ·have t6:(L.length:Int)≤6:=by omega
     go_wp2
     go_ret
     exact ⟨za0 (by rw [za E];simp [h6]),hbel⟩
    ·have t6:¬ (L.length:Int)≤6:=by omega
     go_wp2
     go_ret
     exact ⟨za0 (by rw [za E];simp [h6]),hbel⟩
end ze1
end
section
open Go.RowKit
namespace ze1
theorem right_one (s:ByteArray) (w:World) (hs:s.size≤1048576):
  Calls Tryz.prog 15 #[.string s] w fun e w'=>e= .returned (.bool (Pl.za2 s))∧Below w.heap.size w w':=zh9 s w (by unfold maxLen;omega)
end ze1
end
section
open Go.RowKit
namespace WNode
set_option maxRecDepth 100000 in
theorem is_any (a b c : Int) (w : World) :
    Calls Tryz.prog 67 #[.int .i64 a, .int .i64 b, .int .i64 c] w fun e w' => e = .returned (.bool (decide (b ≤ a) && decide (a ≤ c))) ∧ w' = w := by
  by_cases h1 : b ≤ a
  · go_enter Tryz.func67, Tryz.ntmps67
    go_wp2
    go_ret
    exact ⟨za0 (by simp [h1]), rfl⟩
  · go_enter Tryz.func67, Tryz.ntmps67
    go_wp2
    go_ret
    exact ⟨za0 (by simp [show ¬ b ≤ a by omega]), rfl⟩
set_option maxRecDepth 100000 in
theorem time_any (a : Int) (w : World) :
    Calls Tryz.prog 94 #[.int .i64 a] w fun e w' => e = .returned (.bool (decide (0 ≤ a) && decide (a ≤ 1000000))) ∧ w' = w := by
  go_enter Tryz.func94, Tryz.ntmps94
  go_wp2_with fail
  refine (is_any a 0 1000000 _).mono ?_
  rintro e w1 ⟨rfl, rfl⟩
  go_wp2
  go_ret
  exact ⟨rfl, rfl⟩
set_option maxRecDepth 100000 in
set_option maxHeartbeats 2000000 in
theorem zm4 (n : Pl.Nd) (w : World) (hp : n.path.size ≤ 1048576) (hd : n.data.size ≤ 1048576) :
    Calls Tryz.prog 82 #[n.val] w fun e w' => e = .returned (.bool (Pl.zb3 n)) ∧ Below w.heap.size w w' := by
  have E0 := hide (@Pl.zu0 n)
  have E1 := hide (@Pl.node_path n)
  have E2 := hide (@Pl.node_data n)
  have E3 := hide (@Pl.node_time n)
  have E4 := hide (@Pl.node_mark n)
  have E5 := hide (@Pl.node_kind n)
  have EK : Hid (Pl.zg3 n = (if n.kind = 0 then decide (n.data.size = 0) && decide (n.time = 0) && decide (1 ≤ n.mark) else if n.kind = 1 then decide (n.data.size = 0) else if n.kind = 2 then decide (n.mark = 0) else false)) := rfl
  generalize Pl.zb3 n = R at E0 E1 E2 E3 E4 E5 ⊢
  generalize Pl.zg3 n = R2 at E5 EK
  obtain ⟨p, k, d, t, m⟩ := n
  simp only at hp hd E0 E1 E2 E3 E4 E5 EK
  simp only [Pl.Nd.val]
  have hr := hide (fun W => ze1.right_one p W hp)
  generalize Pl.za2 p = r at hr E1 E5
  by_cases h0 : p.size = 0
  · have E := hide (za E0 h0)
    have t0 : p.toList.isEmpty = true := by rw [Pl.zd7]; simpa [Pl.zf7] using h0
    clear E0 E1 E2 E3 E4 E5 EK
    go_enter Tryz.func82, Tryz.ntmps82
    go_wp2
    go_ret
    exact ⟨za0 (za E).symm, (Below.refl _ _).alloc (Nat.le_refl _) _⟩
  have t0 : p.toList.isEmpty = false := by rw [Pl.zd7]; simpa [Pl.zf7] using h0
  cases r
  · have E := hide (za E1 rfl)
    clear E0 E1 E2 E3 E4 E5 EK
    go_enter Tryz.func82, Tryz.ntmps82
    have hv := Mem.zg4 w [.string p, .int .i64 k, .string d, .int .i64 t, .int .i64 m] 42
    have hb0 : Below w.heap.size w (w.alloc (.cells #[.string p, .int .i64 k, .string d, .int .i64 t, .int .i64 m] 42)) := (Below.refl _ _).alloc (Nat.le_refl _) _
    go_wp2_with fail
    refine (za hr _).mono ?_
    rintro e w1 ⟨rfl, b1⟩
    have b2 := hb0.trans (b1.mono hb0.size)
    clear hv hb0 b1
    go_wp2
    go_ret
    exact ⟨za0 (za E).symm, b2⟩
  have E := hide (fun h2 h3 h4 => za E5 h0 rfl h2 h3 h4)
  clear E0 E1 E5
  have LEN : Hid (d.size = 0 ↔ d.toList.isEmpty = true) := by show _ ↔ _; rw [Pl.zd7]; simp [Pl.zf7]
  go_enter Tryz.func82, Tryz.ntmps82
  have hv := Mem.zg4 w [.string p, .int .i64 k, .string d, .int .i64 t, .int .i64 m] 42
  have hb0 : Below w.heap.size w (w.alloc (.cells #[.string p, .int .i64 k, .string d, .int .i64 t, .int .i64 m] 42)) := (Below.refl _ _).alloc (Nat.le_refl _) _
  go_wp2_with fail
  refine (za hr _).mono ?_
  rintro e w1 ⟨rfl, b1⟩
  have hb := hb0.trans (b1.mono hb0.size)
  obtain ⟨-, hc⟩ := Mem.zn0 hv b1
  have c0 := hc 0 _ rfl
  have c1 := hc 1 _ rfl
  have c2 := hc 2 _ rfl
  have c3 := hc 3 _ rfl
  have c4 := hc 4 _ rfl
  clear hv hb0 b1 hc hr
  by_cases h2 : 60 < d.size
  · have F := hide (za E2 h2)
    clear E E2 E3 E4 EK
    go_wp2
    go_ret
    exact ⟨za0 (za F).symm, hb⟩
  have t2 : decide ((60 : Int) < (d.size : Int)) = false := by simp; omega
  by_cases h3 : 0 ≤ t ∧ t ≤ 1000000
  rotate_left
  · have F := hide (za E3 h3)
    have V : (decide (0 ≤ t) && decide (t ≤ 1000000)) = false := by simpa using h3
    clear E E2 E3 E4 EK
    go_wp2_with fail
    refine (time_any t _).mono ?_
    rintro e w2 ⟨rfl, hw⟩
    rw [V]
    obtain rfl := hw.symm
    go_wp2
    go_ret
    exact ⟨za0 (za F).symm, hb⟩
  have V : (decide (0 ≤ t) && decide (t ≤ 1000000)) = true := by simpa using h3
  go_wp2_with fail
  refine (time_any t _).mono ?_
  rintro e w2 ⟨rfl, hw⟩
  rw [V]
  obtain rfl := hw.symm
  clear V hw
  by_cases h4 : 0 ≤ m ∧ m ≤ 8
  rotate_left
  · have F := hide (za E4 h4)
    have V : (decide (0 ≤ m) && decide (m ≤ 8)) = false := by simpa using h4
    clear E E2 E3 E4 EK
    go_wp2_with fail
    refine (is_any m 0 8 _).mono ?_
    rintro e w2 ⟨rfl, hw⟩
    rw [V]
    obtain rfl := hw.symm
    go_wp2
    go_ret
    exact ⟨za0 (za F).symm, hb⟩
  have V : (decide (0 ≤ m) && decide (m ≤ 8)) = true := by simpa using h4
  go_wp2_with fail
  refine (is_any m 0 8 _).mono ?_
  rintro e w2 ⟨rfl, hw⟩
  rw [V]
  obtain rfl := hw.symm
  clear V hw
  have F := hide ((za E (by omega) h3 h4).trans (za EK))
  clear E E2 E3 E4 EK
  by_cases hd0 : d.size = 0
  · have u0 : d.toList.isEmpty = true := (za LEN).1 hd0
    clear LEN
    by_cases k0 : k = 0
    · subst k0
      by_cases m1 : 1 ≤ m
      · go_wp2
        go_ret
        exact ⟨za0 (by rw [za F]; simp [hd0, m1]; rfl), hb⟩
      · go_wp2
        go_ret
        exact ⟨za0 (by rw [za F]; simp [hd0, m1]), hb⟩
    by_cases k1 : k = 1
    · subst k1
      go_wp2
      go_ret
      exact ⟨za0 (by rw [za F]; simp [hd0]), hb⟩
    by_cases k2 : k = 2
    · subst k2
      go_wp2
      go_ret
      exact ⟨za0 (by rw [za F]; simp; rfl), hb⟩
    · have e0 : (k == 0) = false := by simpa using k0
      have e1 : (k == 1) = false := by simpa using k1
      have e2 : (k == 2) = false := by simpa using k2
      go_wp2
      go_ret
      exact ⟨za0 (by rw [za F]; simp [k0, k1, k2]), hb⟩
  · have u0 : d.toList.isEmpty = false := by
      cases hx : d.toList.isEmpty
      · rfl
      · exact absurd ((za LEN).2 hx) hd0
    clear LEN
    by_cases k2 : k = 2
    · subst k2
      go_wp2
      go_ret
      exact ⟨za0 (by rw [za F]; simp; rfl), hb⟩
    · have e2 : (k == 2) = false := by simpa using k2
      go_wp2
      go_ret
      exact ⟨za0 (by rw [za F]; simp [hd0, k2]), hb⟩
set_option maxRecDepth 100000 in
theorem kind_any (n : Pl.Nd) (w : World) (hd : n.data.size ≤ 1048576) :
    Calls Tryz.prog 109 #[n.val] w fun e w' => e = .returned (.bool (Pl.zg3 n)) ∧ Below w.heap.size w w' := by
  have EK : Hid (Pl.zg3 n = (if n.kind = 0 then decide (n.data.size = 0) && decide (n.time = 0) && decide (1 ≤ n.mark) else if n.kind = 1 then decide (n.data.size = 0) else if n.kind = 2 then decide (n.mark = 0) else false)) := rfl
  generalize Pl.zg3 n = R at EK ⊢
  obtain ⟨p, k, d, t, m⟩ := n
  simp only at hd EK
  simp only [Pl.Nd.val]
  have LEN : Hid (d.size = 0 ↔ d.toList.isEmpty = true) := by show _ ↔ _; rw [Pl.zd7]; simp [Pl.zf7]
  have hb : ∀ o, Below w.heap.size w (w.alloc o) := fun o => (Below.refl _ _).alloc (Nat.le_refl _) o
  have HB := hide hb
  clear hb
  by_cases hd0 : d.size = 0
  · have u0 : d.toList.isEmpty = true := (za LEN).1 hd0
    clear LEN
    by_cases k0 : k = 0
    · subst k0
      by_cases t1 : t = 0
      · subst t1
        by_cases m1 : 1 ≤ m
        · have m2 : 0 < m := by omega
          go_enter Tryz.func109, Tryz.ntmps109
          go_wp2
          go_ret
          exact ⟨za0 (by rw [za EK]; simp [hd0, m1]), za HB _⟩
        · have m2 : ¬ 0 < m := by omega
          go_enter Tryz.func109, Tryz.ntmps109
          go_wp2
          go_ret
          exact ⟨za0 (by rw [za EK]; simp [hd0, m1]), za HB _⟩
      · have t2 : (t == 0) = false := by simpa using t1
        go_enter Tryz.func109, Tryz.ntmps109
        go_wp2
        go_ret
        exact ⟨za0 (by rw [za EK]; simp [hd0, t1]), za HB _⟩
    by_cases k1 : k = 1
    · subst k1
      go_enter Tryz.func109, Tryz.ntmps109
      go_wp2
      go_ret
      exact ⟨za0 (by rw [za EK]; simp [hd0]), za HB _⟩
    by_cases k2 : k = 2
    · subst k2
      go_enter Tryz.func109, Tryz.ntmps109
      go_wp2
      go_ret
      exact ⟨za0 (by rw [za EK]; simp; rfl), za HB _⟩
    · have e0 : (k == 0) = false := by simpa using k0
      have e1 : (k == 1) = false := by simpa using k1
      have e2 : (k == 2) = false := by simpa using k2
      go_enter Tryz.func109, Tryz.ntmps109
      go_wp2
      go_ret
      exact ⟨za0 (by rw [za EK]; simp [k0, k1, k2]), za HB _⟩
  · have u0 : d.toList.isEmpty = false := by
      cases hx : d.toList.isEmpty
      · rfl
      · exact absurd ((za LEN).2 hx) hd0
    clear LEN
    by_cases k0 : k = 0
    · subst k0
      go_enter Tryz.func109, Tryz.ntmps109
      go_wp2
      go_ret
      exact ⟨za0 (by rw [za EK]; simp [hd0]), za HB _⟩
    by_cases k1 : k = 1
    · subst k1
      go_enter Tryz.func109, Tryz.ntmps109
      go_wp2
      go_ret
      exact ⟨za0 (by rw [za EK]; simp [hd0]), za HB _⟩
    by_cases k2 : k = 2
    · subst k2
      go_enter Tryz.func109, Tryz.ntmps109
      go_wp2
      go_ret
      exact ⟨za0 (by rw [za EK]; simp; rfl), za HB _⟩
    · have e0 : (k == 0) = false := by simpa using k0
      have e1 : (k == 1) = false := by simpa using k1
      have e2 : (k == 2) = false := by simpa using k2
      go_enter Tryz.func109, Tryz.ntmps109
      go_wp2
      go_ret
      exact ⟨za0 (by rw [za EK]; simp [k0, k1, k2]), za HB _⟩
set_option maxRecDepth 100000 in
set_option maxHeartbeats 2000000 in
theorem content_any (n : Pl.Nd) (w : World) (hd : n.data.size ≤ 1048576) :
    Calls Tryz.prog 95 #[n.val] w fun e w' => e = .returned (.bool (Pl.zj9 n)) ∧ Below w.heap.size w w' := by
  have E2 := hide (@Pl.cont_data n)
  have E3 := hide (@Pl.cont_time n)
  have E4 := hide (@Pl.cont_mark n)
  have E5 := hide (@Pl.cont_kind n)
  have EK := hide (fun W => kind_any n W hd)
  generalize Pl.zj9 n = R at E2 E3 E4 E5 ⊢
  generalize Pl.zg3 n = R2 at E5 EK
  obtain ⟨p, k, d, t, m⟩ := n
  simp only at hd E2 E3 E4 E5
  simp only [Pl.Nd.val] at EK ⊢
  have hb : Below w.heap.size w (w.alloc (.cells #[.string p, .int .i64 k, .string d, .int .i64 t, .int .i64 m] 42)) := (Below.refl _ _).alloc (Nat.le_refl _) _
  by_cases h2 : 60 < d.size
  · have F := hide (za E2 h2)
    clear E2 E3 E4 E5 EK
    go_enter Tryz.func95, Tryz.ntmps95
    go_wp2
    go_ret
    exact ⟨za0 (za F).symm, hb⟩
  have t2 : decide ((60 : Int) < (d.size : Int)) = false := by simp; omega
  by_cases h3 : 0 ≤ t ∧ t ≤ 1000000
  rotate_left
  · have F := hide (za E3 h3)
    clear E2 E3 E4 E5 EK
    by_cases h5 : t < 0
    · go_enter Tryz.func95, Tryz.ntmps95
      go_wp2
      go_ret
      exact ⟨za0 (za F).symm, hb⟩
    · have h6 : ¬ t ≤ 1000000 := by omega
      go_enter Tryz.func95, Tryz.ntmps95
      go_wp2
      go_ret
      exact ⟨za0 (za F).symm, hb⟩
  obtain ⟨h5, h6⟩ := h3
  by_cases h4 : 0 ≤ m ∧ m ≤ 8
  rotate_left
  · have F := hide (za E4 h4)
    clear E2 E3 E4 E5 EK
    by_cases h7 : m < 0
    · go_enter Tryz.func95, Tryz.ntmps95
      go_wp2
      go_ret
      exact ⟨za0 (za F).symm, hb⟩
    · have h8 : ¬ m ≤ 8 := by omega
      go_enter Tryz.func95, Tryz.ntmps95
      go_wp2
      go_ret
      exact ⟨za0 (za F).symm, hb⟩
  obtain ⟨h7, h8⟩ := h4
  have F := hide (za E5 (by omega) ⟨h5, h6⟩ ⟨h7, h8⟩)
  clear E2 E3 E4 E5
  go_enter Tryz.func95, Tryz.ntmps95
  go_wp2_with fail
  refine (za EK _).mono ?_
  rintro e w2 ⟨rfl, b2⟩
  have b3 := hb.trans (b2.mono hb.size)
  clear hb b2
  go_wp2
  go_ret
  exact ⟨za0 (za F).symm, b3⟩
set_option maxRecDepth 100000 in
set_option maxHeartbeats 2000000 in
theorem zk6 (n : Pl.Nd) (w : World) (hp : n.path.size ≤ 1048576) (hd : n.data.size ≤ 1048576) :
    Calls Tryz.prog 85 #[n.val] w fun e w' => e = .returned (.bool (Pl.zb3 n)) ∧ Below w.heap.size w w' := by
  have E0 := hide (@Pl.zu0 n)
  have E1 := hide (@Pl.node_path n)
  have E5 := hide (@Pl.node_cont n)
  have EK := hide (fun W => content_any n W hd)
  generalize Pl.zb3 n = R at E0 E1 E5 ⊢
  generalize Pl.zj9 n = R2 at E5 EK
  obtain ⟨p, k, d, t, m⟩ := n
  simp only at hp hd E0 E1 E5
  simp only [Pl.Nd.val] at EK ⊢
  have hr := hide (fun W => zh3.zh9 p W hp)
  generalize Pl.za2 p = r at hr E1 E5
  have hv := Mem.zg4 w [.string p, .int .i64 k, .string d, .int .i64 t, .int .i64 m] 42
  have hb0 : Below w.heap.size w (w.alloc (.cells #[.string p, .int .i64 k, .string d, .int .i64 t, .int .i64 m] 42)) := (Below.refl _ _).alloc (Nat.le_refl _) _
  by_cases h0 : p.size = 0
  · have E := hide (za E0 h0)
    have t0 : p.toList.isEmpty = true := by rw [Pl.zd7]; simpa [Pl.zf7] using h0
    clear E0 E1 E5 EK hv
    go_enter Tryz.func85, Tryz.ntmps85
    go_wp2
    go_ret
    exact ⟨za0 (za E).symm, hb0⟩
  have t0 : p.toList.isEmpty = false := by rw [Pl.zd7]; simpa [Pl.zf7] using h0
  cases r
  · have E := hide (za E1 rfl)
    clear E0 E1 E5 EK
    go_enter Tryz.func85, Tryz.ntmps85
    go_wp2_with fail
    refine (za hr _).mono ?_
    rintro e w1 ⟨rfl, b1⟩
    have b2 := hb0.trans (b1.mono hb0.size)
    clear hv hb0 b1
    go_wp2
    go_ret
    exact ⟨za0 (za E).symm, b2⟩
  have F := hide (za E5 h0 rfl)
  clear E0 E1 E5
  go_enter Tryz.func85, Tryz.ntmps85
  go_wp2_with fail
  refine (za hr _).mono ?_
  rintro e w1 ⟨rfl, b1⟩
  have hb := hb0.trans (b1.mono hb0.size)
  obtain ⟨-, hc⟩ := Mem.zn0 hv b1
  have c0 := hc 0 _ rfl
  have c1 := hc 1 _ rfl
  have c2 := hc 2 _ rfl
  have c3 := hc 3 _ rfl
  have c4 := hc 4 _ rfl
  clear hv hb0 b1 hc hr
  go_wp2_with fail
  refine (za EK _).mono ?_
  rintro e w2 ⟨rfl, b2⟩
  have b3 := hb.trans (b2.mono hb.size)
  clear hb b2
  go_wp2
  go_ret
  exact ⟨za0 (za F).symm, b3⟩
end WNode
end
end Go.Proofs.YtpggbphcbcogdaaGreatDoor
