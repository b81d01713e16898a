/- Several texts of one claim in one file: MapLook, WPanicR, WChange, WRightI, WSplit, WPathS, WSpecR, WNode, WNodesJ, WNodesR, WPlainU, WInTree, WMakeFin, WUnder, WFace, WUnderN. -/
import Derived.Test.YthdhhcgopfgcbaaGreatDoorG02
import Derived.Test.YthdhhcgopfgcbaaGreatDoorPlainCut
namespace Go.Proofs.YthdhhcgopfgcbaaGreatDoor
section
open Go.RowKit Go.Maps
namespace MapN
theorem look_no {P:Program} (w:World) {ops:Array Oper} {rest:List Oper} {o:Oper} {a:Act} {Q:Exit→Act→World→Prop} (hg:o.guard=none) (m x:Operand) (t:TypeId) (hop:o.op=Op.lookup t m x false)
  (k e:TypeId) (K:Keyed P k) (ht:P.underlying t=some (.map k e)) (hz:(zeroValue e).run P w= .ok (Pl.Nd.val ⟨⟨#[]⟩,0,⟨#[]⟩,0,0⟩) w) (b n:Nat) (D:DataW Unit)
  (hm:a.eval m= .map (some b)) (hown:w.ownsMap P k elem b n D) (kv:Value) (kl:Lit) (hx:a.eval x=kv) (hkey:keyOf P k kv=some kl) (nd:Pl.Nd) (hat:D.atKey kl (dat ⟨⟨#[]⟩,0,⟨#[]⟩,0,0⟩)=dat nd)
  (hK:wpList P ops Q rest (a.put o.dst (.agg #[.string nd.path, .int .i64 nd.kind, .string nd.data, .int .i64 nd.time, .int .i64 nd.mark])) w):
  wpList P ops Q (o::rest) a w:=by
 refine wpList_plain hg fun K' hK'=>?_;obtain ⟨v,ps,hrun,hv⟩:=hown.lookup K ht hz (zk3 _) hkey;obtain ⟨n1,rfl,hd⟩:=zt8 hv;obtain rfl:=zs5 (hat.symm.trans hd);unfold Oper.wp;simp [execOp,hop,hm,hx,hrun,Result.andThen]
 exact hK' _ _ hK
end MapN
end
section
open Go.RowKit
namespace ze6
abbrev pnc (c:Int):List PanicEntry:=[{ v:= .iface 119 (.agg #[.int .i64 c]),recovered:=false }]
set_option maxRecDepth 100000 in
theorem zi2 (c:Int) (w:World):Calls Tryz.prog 41 #[.bool false, .int .i64 c] w fun e w'=>e= .returned (.tuple #[])∧w'=w:=by
 go_enter Tryz.func41,Tryz.ntmps41
 go_wp2
 go_end0
 exact ⟨rfl,rfl⟩
set_option maxRecDepth 100000 in
theorem zg (c:Int) (w:World):Calls Tryz.prog 41 #[.bool true, .int .i64 c] w fun e w'=>e= .panicked (pnc c)∧w'=w:=by
 go_enter Tryz.func41,Tryz.ntmps41
 go_wp2
 exact ⟨rfl,rfl,rfl⟩
set_option maxRecDepth 100000 in
theorem code_any (c:Int) (w:World):Calls Tryz.prog 74 #[.iface 119 (.agg #[.int .i64 c])] w fun e w'=>e= .returned (.int .i64 c)∧w'=w.alloc (.cells #[.int .i64 c] 119):=by
 have hta:∀w:World,(Instr.typeAssert (.iface 119 (.agg #[.int .i64 c])) 20 119 true).run Tryz.prog w= .ok (.tuple #[.agg #[.int .i64 c], .bool true]) w:=fun _=>by kernel_rfl
 go_enter Tryz.func74,Tryz.ntmps74
 go_wp2
 go_ret
 exact ⟨rfl,rfl⟩
structure Ends (W w':World) (e:Ending) (c:Int) (O:List Pl.Nd):Prop where
 out:(c=0∧∃v,e= .returned (.agg #[v])∧Mem.ownN w' W.heap.size v O)∨(c≠0∧O=[]∧e= .panicked (pnc c))
 bel:Below W.heap.size W w'
end ze6
end
section
set_option linter.unusedSimpArgs false
open Go.RowKit
namespace ze6
abbrev chg (n:Pl.Nd) (Fp Fl:FuncId):Array Value:=#[.string n.path, .int .i64 n.kind, .string n.data, .int .i64 n.time, .int .i64 n.mark, .func (.func Fp) #[] #[], .func (.func Fl) #[] #[]]
set_option maxRecDepth 100000 in
set_option maxHeartbeats 1000000 in
theorem long_no (n:Pl.Nd) (Fp Fl:FuncId) (w:World) (h1:n.path.size≤8000) (h2:n.data.size≤8000):
  Calls Tryz.prog 85 #[.agg (chg n Fp Fl)] w fun e w'=>e= .returned (.bool false)∧Below w.heap.size w w':=by
 have b0:Below w.heap.size w (w.alloc (.cells (chg n Fp Fl) 96)):=bE0;have t1:¬ (8000:Int)<(n.path.size:Int):=by omega
 have t2:¬ (8000:Int)<(n.data.size:Int):=by omega
 go_enter Tryz.func85,Tryz.ntmps85
 go_wp2
 go_ret
 exact ⟨rfl,b0⟩
set_option maxRecDepth 100000 in
set_option maxHeartbeats 1000000 in
theorem long_yes (n:Pl.Nd) (Fp Fl:FuncId) (w:World) (h:¬ (n.path.size≤8000∧n.data.size≤8000)):
  Calls Tryz.prog 85 #[.agg (chg n Fp Fl)] w fun e w'=>e= .returned (.bool true)∧Below w.heap.size w w':=by
 have b0:Below w.heap.size w (w.alloc (.cells (chg n Fp Fl) 96)):=bE0;by_cases t1:(8000:Int)<(n.path.size:Int)
 ·go_enter Tryz.func85,Tryz.ntmps85
  go_wp2
  go_ret
  exact ⟨rfl,b0⟩
 ·have t2:(8000:Int)<(n.data.size:Int):=by omega
  go_enter Tryz.func85,Tryz.ntmps85
  go_wp2
  go_ret
  exact ⟨rfl,b0⟩
end ze6
end
section
open Go.RowKit
namespace zq3
theorem zl6 (s:ByteArray) (w:World) (hs:s.size≤1048576):
  Calls Tryz.prog 45 #[.string s] w fun e w'=>e= .returned (.bool (Pl.za1 s))∧Below w.heap.size w w':=by
 go_enter Tryz.func45,Tryz.ntmps45
 go_wp2_with fail
 refine (yb8.any s _ hs).mono ?_;rintro e w1 ⟨v,rfl,hown,hb⟩;clear hown;go_wp2
 go_ret
 exact ⟨rfl,hb⟩
end zq3
end
section
open Go.RowKit
namespace WSplit
theorem infoS:(Tryz.prog.info? 9).map (fun i=>(i.zero,i.size,i.bytes))=some (some (.string ⟨#[]⟩),1,16):=by kernel_rfl

set_option maxRecDepth 100000 in
set_option maxHeartbeats 400000 in
theorem split_any (s:ByteArray) (b:Nat) (w:World) (hs:s.size≤1048576):
  Calls Tryz.prog 99 #[.string s, .int .u8 (b:Int)] w fun e w'=>∃v,e= .returned v∧
   w'.ownsRow w.heap.size 9 1 v (Pl.cut s b).length ((Pl.cut s b).map Value.string)∧Below w.heap.size w w':=by
 obtain ⟨i0,hi,hz0,hz1,hz2⟩:=info_parts infoS;go_enter Tryz.func99,Tryz.ntmps99
 go_wp2
 go_loopw [5,6,7] (fun v x i wr=>∃ (k fr:Nat) (L:List ByteArray),k≤s.size∧fr≤k∧L.length≤k∧i= .int .i64 (k:Int)∧x= .int .i64 (fr:Int)∧
   wr.ownsRow w.heap.size 9 1 v L.length (L.map Value.string)∧Below w.heap.size w wr∧Hid (Pl.cut s b=L++Pl.cutF s b (s.size - k) fr k)) (fun _ _ i _=>s.size - (intOf i).toNat)
 case atStart=>exact ⟨0,0,[],by omega,by omega,by simp,rfl,rfl,World.ownsRow_made _ _ 0 (Nat.le_refl _) (Nat.zero_le _) rfl,(Below.refl _ _).alloc (Nat.le_refl _) _,rfl⟩
 case round=>
  obtain ⟨k,fr,L,hk,hfr,hL,rfl,rfl,hown,hbel,H⟩:=hrel;have hb1:=hbel.size;by_cases hlt:k<s.size
  ·have hf:s.size - k=s.size - (k+1)+1:=by omega
   have t1:(0:Int)≤(fr:Int):=by omega
   have t2:(fr:Int)≤(k:Int):=by omega
   have t3:(k:Int)≤(s.size:Int):=by omega
   by_cases hq:s[k].toNat=b
   ·have H2:Hid (Pl.cut s b=(L++[s.extract fr k])++Pl.cutF s b (s.size - (k+1)) (k+1) (k+1)):=by
     show _=_;rw [H.out,hf,Pl.cutF_hit hlt hq];simp
    have t4:((s[k].toNat:Int)==(b:Int))=true:=by rw [beq_iff_eq];omega
    clear H hf hq;go_wp2_with (at_builtin;refine wpList_append_own _ rfl _ _ 108 rfl w.heap.size 9 i0 (.string ⟨#[]⟩) 1 16 Tryz.underlying108 hi hz0 hz1 hz2 rfl (by decide) _ _ _ rfl (hown.alloc _) ⟨wr.heap.size,0,none⟩ 1 1 [.string (s.extract fr k)] rfl rfl ?c1 ?c2 ?c3 ?c4 ?c5 ?_)
    case c1=>exact Mem.zh5 _ _ _
    case c2=>intro u hu;simp at hu;subst hu;rfl
    case c3=>unfold maxLen;omega
    case c4=>omega
    case c5=>simp;omega
    ·intro v' w2 hown' hgrow _;have hbel':=Mem.zl7 hbel (Nat.le_refl _) hown hgrow;have hown2:w2.ownsRow w.heap.size 9 1 v' (L++[s.extract fr k]).length ((L++[s.extract fr k]).map Value.string):=by simpa using hown'
     clear hgrow hown hbel hown' t4;go_wp2
     go_roundw
     case rel=>exact ⟨k+1,k+1,L++[s.extract fr k],by omega,by omega,by simp;omega,by go_num,by go_num,hown2,hbel',H2⟩
     case measure=>simp [intOf];omega
   ·have H2:Hid (Pl.cut s b=L++Pl.cutF s b (s.size - (k+1)) fr (k+1)):=by
     show _=_;rw [H.out,hf,Pl.yi6 hlt hq]
    have t4:((s[k].toNat:Int)==(b:Int))=false:=by rw [beq_eq_false_iff_ne];omega
    clear H hf hq;go_wp2
    go_roundw
    case rel=>exact ⟨k+1,fr,L,by omega,by omega,by omega,by go_num,rfl,hown,hbel,H2⟩
    case measure=>simp [intOf];omega
  ·obtain rfl:k=s.size:=by omega
   have H2:Hid (Pl.cut s b=L++[s.extract fr s.size]):=by
    show _=_;rw [H.out,Nat.sub_self];rfl
   have t1:(0:Int)≤(fr:Int):=by omega
   have t2:(fr:Int)≤(s.size:Int):=by omega
   clear H;go_wp2_with (at_builtin;refine wpList_append_own _ rfl _ _ 108 rfl w.heap.size 9 i0 (.string ⟨#[]⟩) 1 16 Tryz.underlying108 hi hz0 hz1 hz2 rfl (by decide) _ _ _ rfl (hown.alloc _) ⟨wr.heap.size,0,none⟩ 1 1 [.string (s.extract fr s.size)] rfl rfl ?c1 ?c2 ?c3 ?c4 ?c5 ?_)
   case c1=>exact Mem.zh5 _ _ _
   case c2=>intro u hu;simp at hu;subst hu;rfl
   case c3=>unfold maxLen;omega
   case c4=>omega
   case c5=>simp;omega
   ·intro v' w2 hown' hgrow _;have hbel':=Mem.zl7 hbel (Nat.le_refl _) hown hgrow;have hown2:w2.ownsRow w.heap.size 9 1 v' (Pl.cut s b).length ((Pl.cut s b).map Value.string):=by rw [H2.out];simpa using hown'
    clear hgrow hown hbel hown';go_wp2
    go_ret
    exact ⟨_,rfl,hown2,hbel'⟩
end WSplit
end
section
open Go.RowKit
namespace zg9

theorem zs1 (s:ByteArray) (w:World) (hs:s.size≤1048576):
  Calls Tryz.prog 61 #[.string s] w fun e w'=>∃v,e= .returned v∧
   w'.ownsRow w.heap.size 9 1 v (Pl.names s).length ((Pl.names s).map Value.string)∧Below w.heap.size w w':=by
 by_cases h0:s.size=0
 ·have E:Hid (Pl.names s=[]):=if_pos h0;obtain rfl:s=⟨#[]⟩:=by apply ByteArray.ext;exact Array.eq_empty_of_size_eq_zero h0
  go_enter Tryz.func61,Tryz.ntmps61
  go_wp2
  go_ret
  refine ⟨_,rfl,?_,(Below.refl _ _).alloc (Nat.le_refl _) _⟩;rw [E.out];exact World.ownsRow_made _ _ 0 (Nat.le_refl _) (Nat.zero_le _) rfl
 ·have E:Hid (Pl.names s=Pl.cut s 47):=if_neg h0
  have t0:s.toList.isEmpty=false:=by
   rw [List.isEmpty_eq_false_iff,ByteArray.toList_eq];intro h;have h1:s.data.toList.length=0:=by rw [h];rfl
   rw [Array.length_toList] at h1;exact h0 h1
  go_enter Tryz.func61,Tryz.ntmps61
  go_wp2_with fail
  refine (WSplit.split_any s 47 _ hs).mono ?_;rintro e w1 ⟨v,rfl,hown,hb⟩;have HO:=hide hown;clear hown;go_wp2
  go_ret
  exact ⟨_,rfl,by rw [E.out];exact za HO,hb⟩

set_option maxRecDepth 100000 in
set_option maxHeartbeats 400000 in
theorem zl6 (s:ByteArray) (w:World) (hs:s.size≤maxLen):
  Calls Tryz.prog 31 #[.string s] w fun e w'=>e= .returned (.bool (Pl.za1 s))∧Below w.heap.size w w':=by
 unfold maxLen at hs;by_cases h2:200<s.size
 ·have E:=hide (Pl.yg7 h2);go_enter Tryz.func31,Tryz.ntmps31
  go_wp2
  go_ret
  exact ⟨za3 (za E).symm,Below.refl _ _⟩
 have hlen:=Pl.yb0 s
 have HSZ:Hid (∀ (k:Nat) t,(Pl.names s)[k]? =some t→t.size≤maxLen):=fun k t ht=>by
  have :=Pl.names_size ht;unfold maxLen;omega
 have HBAD:Hid (∀ (k:Nat) t,(Pl.names s)[k]? =some t→Pl.ze t=false→Pl.za1 s=false):=fun k t ht hb=>Pl.pathB_bad ht hb;have HGOOD:Hid ((∀ (j:Nat) t,(Pl.names s)[j]? =some t→Pl.ze t=true)→Pl.za1 s=decide ((Pl.names s).length≤6)):=fun h=>Pl.pathB_good (by omega) h;have hn:=hide (zs1 s w (by omega));generalize Pl.names s=L at hn hlen HSZ HBAD HGOOD;go_enter Tryz.func31,Tryz.ntmps31
 go_wp2_with fail
 refine (za hn).mono ?_;rintro e w1 ⟨v,rfl,hown,hbel⟩
 rcases hown.2 with ⟨rfl,h0⟩|⟨g,cap,cur,rfl,hgb,hg,hcap,hm,hsz,htk⟩
 ·obtain rfl:L=[]:=List.eq_nil_of_length_eq_zero h0;have E:=hide (HGOOD.out (fun j t h=>by simp at h));clear hown hn HGOOD HBAD HSZ;go_wp2
  go_loop [4] (fun i=>i= .int .i64 0) (fun _=>0)
  case atStart=>rfl
  case round=>
   subst hrel;go_wp2
   go_ret
   exact ⟨za3 (by rw [za E];rfl),hbel⟩
 ·have hcell:∀ (k:Nat) t,L[k]? =some t→w1.cell? ⟨g,k,none⟩=some (.string t):=by
   intro k t ht;have hk:=(List.getElem?_eq_some_iff.1 ht).1;rw [cell_of_row w1 g k cur 9 (0,0) hg];have h1:(cur.toList.take (L.length*1))[k]? =(L.map Value.string)[k]?:=by rw [htk]
   rw [List.getElem?_take_of_lt (by omega),List.getElem?_map,ht] at h1
   simpa using h1
  have HC:=hide hcell;clear hcell hown hn hg htk hsz;have hm2:=hm;unfold maxLen at hm2;go_wp2
  go_loop [4] (fun i=>∃k:Nat,k≤L.length∧i= .int .i64 (k:Int)∧Hid (∀ (j:Nat) t,j<k→L[j]? =some t→Pl.ze t=true)) (fun i=>L.length - (intOf i).toNat)
  case atStart=>exact ⟨0,Nat.zero_le _,rfl,fun j t h=>absurd h (by omega)⟩
  case round=>
   obtain ⟨k,hk,rfl,HA⟩:=hrel;by_cases hlt:k<L.length
   ·obtain ⟨t,ht⟩:∃t,L[k]? =some t:=⟨_,List.getElem?_eq_getElem hlt⟩;have hc:=HC.out k t ht;have hts:=HSZ.out k t ht;cases hb:Pl.ze t
    ·have E:=hide (HBAD.out k t ht hb);have HB:=hide hb;clear ht hb;go_wp2_with (go_at_call 62;refine (WName.zp9 t _ hts).mono ?_;rw [za HB];rintro e w' ⟨rfl,hw⟩;obtain rfl:=hw.symm)
     go_ret
     exact ⟨za3 (za E).symm,hbel⟩
    ·have HB:=hide hb
     have HA2:Hid (∀ (j:Nat) t,j<k+1→L[j]? =some t→Pl.ze t=true):=fun j t' hj h'=>by
      rcases Nat.lt_succ_iff_lt_or_eq.1 hj with h''|rfl
      ·exact HA.out j t' h'' h'
      ·rw [ht] at h';cases h';exact hb
     clear ht hb HA;go_wp2_with (go_at_call 62;refine (WName.zp9 t _ hts).mono ?_;rw [za HB];rintro e w' ⟨rfl,hw⟩;obtain rfl:=hw.symm)
     go_round
     case rel=>exact ⟨k+1,by omega,by go_num,HA2⟩
     case measure=>simp [intOf];omega
   ·have E:=hide (HGOOD.out (fun j t h=>HA.out j t (by have :=(List.getElem?_eq_some_iff.1 h).1;omega) h));clear HA;by_cases h6:L.length≤6
    ·have t6:(L.length:Int)≤6:=by omega
     go_wp2
     go_ret
     exact ⟨za3 (by rw [za E];simp [h6]),hbel⟩
    ·have t6:¬ (L.length:Int)≤6:=by omega
     go_wp2
     go_ret
     exact ⟨za3 (by rw [za E];simp [h6]),hbel⟩
end zg9
end
section
open Go.RowKit
namespace zg9
theorem right_one (s:ByteArray) (w:World) (hs:s.size≤1048576):
  Calls Tryz.prog 31 #[.string s] w fun e w'=>e= .returned (.bool (Pl.za1 s))∧Below w.heap.size w w':=zl6 s w (by unfold maxLen;omega)
end zg9
end
section
open Go.RowKit
namespace WNode
set_option maxRecDepth 100000 in
theorem is_any (a b c : Int) (w : World) :
    Calls Tryz.prog 57 #[.int .i64 a, .int .i64 b, .int .i64 c] w fun e w' => e = .returned (.bool (decide (b ≤ a) && decide (a ≤ c))) ∧ w' = w := by
  by_cases h1 : b ≤ a
  · go_enter Tryz.func57, Tryz.ntmps57
    go_wp2
    go_ret
    exact ⟨za3 (by simp [h1]), rfl⟩
  · go_enter Tryz.func57, Tryz.ntmps57
    go_wp2
    go_ret
    exact ⟨za3 (by simp [show ¬ b ≤ a by omega]), rfl⟩
set_option maxRecDepth 100000 in
theorem time_any (a : Int) (w : World) :
    Calls Tryz.prog 56 #[.int .i64 a] w fun e w' => e = .returned (.bool (decide (0 ≤ a) && decide (a ≤ 1000000))) ∧ w' = w := by
  go_enter Tryz.func56, Tryz.ntmps56
  go_wp2_with fail
  refine (is_any a 0 1000000 _).mono ?_
  rintro e w1 ⟨rfl, rfl⟩
  go_wp2
  go_ret
  exact ⟨rfl, rfl⟩
set_option maxRecDepth 100000 in
set_option maxHeartbeats 2000000 in
theorem zp9 (n : Pl.Nd) (w : World) (hp : n.path.size ≤ 1048576) (hd : n.data.size ≤ 1048576) :
    Calls Tryz.prog 29 #[n.val] w fun e w' => e = .returned (.bool (Pl.za7 n)) ∧ Below w.heap.size w w' := by
  have E0 := hide (@Pl.node_root n)
  have E1 := hide (@Pl.node_path n)
  have E2 := hide (@Pl.node_data n)
  have E3 := hide (@Pl.node_time n)
  have E4 := hide (@Pl.node_mark n)
  have E5 := hide (@Pl.node_kind n)
  have EK : Hid (Pl.zj9 n = (if n.kind = 0 then decide (n.data.size = 0) && decide (n.time = 0) && decide (1 ≤ n.mark) else if n.kind = 1 then decide (n.data.size = 0) else if n.kind = 2 then decide (n.mark = 0) else false)) := rfl
  generalize Pl.za7 n = R at E0 E1 E2 E3 E4 E5 ⊢
  generalize Pl.zj9 n = R2 at E5 EK
  obtain ⟨p, k, d, t, m⟩ := n
  simp only at hp hd E0 E1 E2 E3 E4 E5 EK
  simp only [Pl.Nd.val]
  have hr := hide (fun W => zg9.right_one p W hp)
  generalize Pl.za1 p = r at hr E1 E5
  by_cases h0 : p.size = 0
  · have E := hide (za E0 h0)
    have t0 : p.toList.isEmpty = true := by rw [Pl.zd2]; simpa [Pl.zh2] using h0
    clear E0 E1 E2 E3 E4 E5 EK
    go_enter Tryz.func29, Tryz.ntmps29
    go_wp2
    go_ret
    exact ⟨za3 (za E).symm, (Below.refl _ _).alloc (Nat.le_refl _) _⟩
  have t0 : p.toList.isEmpty = false := by rw [Pl.zd2]; simpa [Pl.zh2] using h0
  cases r
  · have E := hide (za E1 rfl)
    clear E0 E1 E2 E3 E4 E5 EK
    go_enter Tryz.func29, Tryz.ntmps29
    have hv := Mem.zi0 w [.string p, .int .i64 k, .string d, .int .i64 t, .int .i64 m] 47
    have hb0 : Below w.heap.size w (w.alloc (.cells #[.string p, .int .i64 k, .string d, .int .i64 t, .int .i64 m] 47)) := (Below.refl _ _).alloc (Nat.le_refl _) _
    go_wp2_with fail
    refine (za hr _).mono ?_
    rintro e w1 ⟨rfl, b1⟩
    have b2 := hb0.trans (b1.mono hb0.size)
    clear hv hb0 b1
    go_wp2
    go_ret
    exact ⟨za3 (za E).symm, b2⟩
  have E := hide (fun h2 h3 h4 => za E5 h0 rfl h2 h3 h4)
  clear E0 E1 E5
  have LEN : Hid (d.size = 0 ↔ d.toList.isEmpty = true) := by show _ ↔ _; rw [Pl.zd2]; simp [Pl.zh2]
  go_enter Tryz.func29, Tryz.ntmps29
  have hv := Mem.zi0 w [.string p, .int .i64 k, .string d, .int .i64 t, .int .i64 m] 47
  have hb0 : Below w.heap.size w (w.alloc (.cells #[.string p, .int .i64 k, .string d, .int .i64 t, .int .i64 m] 47)) := (Below.refl _ _).alloc (Nat.le_refl _) _
  go_wp2_with fail
  refine (za hr _).mono ?_
  rintro e w1 ⟨rfl, b1⟩
  have hb := hb0.trans (b1.mono hb0.size)
  obtain ⟨-, hc⟩ := Mem.zm1 hv b1
  have c0 := hc 0 _ rfl
  have c1 := hc 1 _ rfl
  have c2 := hc 2 _ rfl
  have c3 := hc 3 _ rfl
  have c4 := hc 4 _ rfl
  clear hv hb0 b1 hc hr
  by_cases h2 : 60 < d.size
  · have F := hide (za E2 h2)
    clear E E2 E3 E4 EK
    go_wp2
    go_ret
    exact ⟨za3 (za F).symm, hb⟩
  have t2 : decide ((60 : Int) < (d.size : Int)) = false := by simp; omega
  by_cases h3 : 0 ≤ t ∧ t ≤ 1000000
  rotate_left
  · have F := hide (za E3 h3)
    have V : (decide (0 ≤ t) && decide (t ≤ 1000000)) = false := by simpa using h3
    clear E E2 E3 E4 EK
    go_wp2_with fail
    refine (time_any t _).mono ?_
    rintro e w2 ⟨rfl, hw⟩
    rw [V]
    obtain rfl := hw.symm
    go_wp2
    go_ret
    exact ⟨za3 (za F).symm, hb⟩
  have V : (decide (0 ≤ t) && decide (t ≤ 1000000)) = true := by simpa using h3
  go_wp2_with fail
  refine (time_any t _).mono ?_
  rintro e w2 ⟨rfl, hw⟩
  rw [V]
  obtain rfl := hw.symm
  clear V hw
  by_cases h4 : 0 ≤ m ∧ m ≤ 8
  rotate_left
  · have F := hide (za E4 h4)
    have V : (decide (0 ≤ m) && decide (m ≤ 8)) = false := by simpa using h4
    clear E E2 E3 E4 EK
    go_wp2_with fail
    refine (is_any m 0 8 _).mono ?_
    rintro e w2 ⟨rfl, hw⟩
    rw [V]
    obtain rfl := hw.symm
    go_wp2
    go_ret
    exact ⟨za3 (za F).symm, hb⟩
  have V : (decide (0 ≤ m) && decide (m ≤ 8)) = true := by simpa using h4
  go_wp2_with fail
  refine (is_any m 0 8 _).mono ?_
  rintro e w2 ⟨rfl, hw⟩
  rw [V]
  obtain rfl := hw.symm
  clear V hw
  have F := hide ((za E (by omega) h3 h4).trans (za EK))
  clear E E2 E3 E4 EK
  by_cases hd0 : d.size = 0
  · have u0 : d.toList.isEmpty = true := (za LEN).1 hd0
    clear LEN
    by_cases k0 : k = 0
    · subst k0
      by_cases m1 : 1 ≤ m
      · go_wp2
        go_ret
        exact ⟨za3 (by rw [za F]; simp [hd0, m1]; rfl), hb⟩
      · go_wp2
        go_ret
        exact ⟨za3 (by rw [za F]; simp [hd0, m1]), hb⟩
    by_cases k1 : k = 1
    · subst k1
      go_wp2
      go_ret
      exact ⟨za3 (by rw [za F]; simp [hd0]), hb⟩
    by_cases k2 : k = 2
    · subst k2
      go_wp2
      go_ret
      exact ⟨za3 (by rw [za F]; simp; rfl), hb⟩
    · have e0 : (k == 0) = false := by simpa using k0
      have e1 : (k == 1) = false := by simpa using k1
      have e2 : (k == 2) = false := by simpa using k2
      go_wp2
      go_ret
      exact ⟨za3 (by rw [za F]; simp [k0, k1, k2]), hb⟩
  · have u0 : d.toList.isEmpty = false := by
      cases hx : d.toList.isEmpty
      · rfl
      · exact absurd ((za LEN).2 hx) hd0
    clear LEN
    by_cases k2 : k = 2
    · subst k2
      go_wp2
      go_ret
      exact ⟨za3 (by rw [za F]; simp; rfl), hb⟩
    · have e2 : (k == 2) = false := by simpa using k2
      go_wp2
      go_ret
      exact ⟨za3 (by rw [za F]; simp [hd0, k2]), hb⟩
set_option maxRecDepth 100000 in
theorem kind_any (n : Pl.Nd) (w : World) (hd : n.data.size ≤ 1048576) :
    Calls Tryz.prog 132 #[n.val] w fun e w' => e = .returned (.bool (Pl.zj9 n)) ∧ Below w.heap.size w w' := by
  have EK : Hid (Pl.zj9 n = (if n.kind = 0 then decide (n.data.size = 0) && decide (n.time = 0) && decide (1 ≤ n.mark) else if n.kind = 1 then decide (n.data.size = 0) else if n.kind = 2 then decide (n.mark = 0) else false)) := rfl
  generalize Pl.zj9 n = R at EK ⊢
  obtain ⟨p, k, d, t, m⟩ := n
  simp only at hd EK
  simp only [Pl.Nd.val]
  have LEN : Hid (d.size = 0 ↔ d.toList.isEmpty = true) := by show _ ↔ _; rw [Pl.zd2]; simp [Pl.zh2]
  have hb : ∀ o, Below w.heap.size w (w.alloc o) := fun o => (Below.refl _ _).alloc (Nat.le_refl _) o
  have HB := hide hb
  clear hb
  by_cases hd0 : d.size = 0
  · have u0 : d.toList.isEmpty = true := (za LEN).1 hd0
    clear LEN
    by_cases k0 : k = 0
    · subst k0
      by_cases t1 : t = 0
      · subst t1
        by_cases m1 : 1 ≤ m
        · have m2 : 0 < m := by omega
          go_enter Tryz.func132, Tryz.ntmps132
          go_wp2
          go_ret
          exact ⟨za3 (by rw [za EK]; simp [hd0, m1]), za HB _⟩
        · have m2 : ¬ 0 < m := by omega
          go_enter Tryz.func132, Tryz.ntmps132
          go_wp2
          go_ret
          exact ⟨za3 (by rw [za EK]; simp [hd0, m1]), za HB _⟩
      · have t2 : (t == 0) = false := by simpa using t1
        go_enter Tryz.func132, Tryz.ntmps132
        go_wp2
        go_ret
        exact ⟨za3 (by rw [za EK]; simp [hd0, t1]), za HB _⟩
    by_cases k1 : k = 1
    · subst k1
      go_enter Tryz.func132, Tryz.ntmps132
      go_wp2
      go_ret
      exact ⟨za3 (by rw [za EK]; simp [hd0]), za HB _⟩
    by_cases k2 : k = 2
    · subst k2
      go_enter Tryz.func132, Tryz.ntmps132
      go_wp2
      go_ret
      exact ⟨za3 (by rw [za EK]; simp; rfl), za HB _⟩
    · have e0 : (k == 0) = false := by simpa using k0
      have e1 : (k == 1) = false := by simpa using k1
      have e2 : (k == 2) = false := by simpa using k2
      go_enter Tryz.func132, Tryz.ntmps132
      go_wp2
      go_ret
      exact ⟨za3 (by rw [za EK]; simp [k0, k1, k2]), za HB _⟩
  · have u0 : d.toList.isEmpty = false := by
      cases hx : d.toList.isEmpty
      · rfl
      · exact absurd ((za LEN).2 hx) hd0
    clear LEN
    by_cases k0 : k = 0
    · subst k0
      go_enter Tryz.func132, Tryz.ntmps132
      go_wp2
      go_ret
      exact ⟨za3 (by rw [za EK]; simp [hd0]), za HB _⟩
    by_cases k1 : k = 1
    · subst k1
      go_enter Tryz.func132, Tryz.ntmps132
      go_wp2
      go_ret
      exact ⟨za3 (by rw [za EK]; simp [hd0]), za HB _⟩
    by_cases k2 : k = 2
    · subst k2
      go_enter Tryz.func132, Tryz.ntmps132
      go_wp2
      go_ret
      exact ⟨za3 (by rw [za EK]; simp; rfl), za HB _⟩
    · have e0 : (k == 0) = false := by simpa using k0
      have e1 : (k == 1) = false := by simpa using k1
      have e2 : (k == 2) = false := by simpa using k2
      go_enter Tryz.func132, Tryz.ntmps132
      go_wp2
      go_ret
      exact ⟨za3 (by rw [za EK]; simp [k0, k1, k2]), za HB _⟩
set_option maxRecDepth 100000 in
set_option maxHeartbeats 2000000 in
theorem content_any (n : Pl.Nd) (w : World) (hd : n.data.size ≤ 1048576) :
    Calls Tryz.prog 114 #[n.val] w fun e w' => e = .returned (.bool (Pl.zt0 n)) ∧ Below w.heap.size w w' := by
  have E2 := hide (@Pl.cont_data n)
  have E3 := hide (@Pl.cont_time n)
  have E4 := hide (@Pl.cont_mark n)
  have E5 := hide (@Pl.cont_kind n)
  have EK := hide (fun W => kind_any n W hd)
  generalize Pl.zt0 n = R at E2 E3 E4 E5 ⊢
  generalize Pl.zj9 n = R2 at E5 EK
  obtain ⟨p, k, d, t, m⟩ := n
  simp only at hd E2 E3 E4 E5
  simp only [Pl.Nd.val] at EK ⊢
  have hb : Below w.heap.size w (w.alloc (.cells #[.string p, .int .i64 k, .string d, .int .i64 t, .int .i64 m] 47)) := (Below.refl _ _).alloc (Nat.le_refl _) _
  by_cases h2 : 60 < d.size
  · have F := hide (za E2 h2)
    clear E2 E3 E4 E5 EK
    go_enter Tryz.func114, Tryz.ntmps114
    go_wp2
    go_ret
    exact ⟨za3 (za F).symm, hb⟩
  have t2 : decide ((60 : Int) < (d.size : Int)) = false := by simp; omega
  by_cases h3 : 0 ≤ t ∧ t ≤ 1000000
  rotate_left
  · have F := hide (za E3 h3)
    clear E2 E3 E4 E5 EK
    by_cases h5 : t < 0
    · go_enter Tryz.func114, Tryz.ntmps114
      go_wp2
      go_ret
      exact ⟨za3 (za F).symm, hb⟩
    · have h6 : ¬ t ≤ 1000000 := by omega
      go_enter Tryz.func114, Tryz.ntmps114
      go_wp2
      go_ret
      exact ⟨za3 (za F).symm, hb⟩
  obtain ⟨h5, h6⟩ := h3
  by_cases h4 : 0 ≤ m ∧ m ≤ 8
  rotate_left
  · have F := hide (za E4 h4)
    clear E2 E3 E4 E5 EK
    by_cases h7 : m < 0
    · go_enter Tryz.func114, Tryz.ntmps114
      go_wp2
      go_ret
      exact ⟨za3 (za F).symm, hb⟩
    · have h8 : ¬ m ≤ 8 := by omega
      go_enter Tryz.func114, Tryz.ntmps114
      go_wp2
      go_ret
      exact ⟨za3 (za F).symm, hb⟩
  obtain ⟨h7, h8⟩ := h4
  have F := hide (za E5 (by omega) ⟨h5, h6⟩ ⟨h7, h8⟩)
  clear E2 E3 E4 E5
  go_enter Tryz.func114, Tryz.ntmps114
  go_wp2_with fail
  refine (za EK _).mono ?_
  rintro e w2 ⟨rfl, b2⟩
  have b3 := hb.trans (b2.mono hb.size)
  clear hb b2
  go_wp2
  go_ret
  exact ⟨za3 (za F).symm, b3⟩
set_option maxRecDepth 100000 in
set_option maxHeartbeats 2000000 in
theorem zk6 (n : Pl.Nd) (w : World) (hp : n.path.size ≤ 1048576) (hd : n.data.size ≤ 1048576) :
    Calls Tryz.prog 86 #[n.val] w fun e w' => e = .returned (.bool (Pl.za7 n)) ∧ Below w.heap.size w w' := by
  have E0 := hide (@Pl.node_root n)
  have E1 := hide (@Pl.node_path n)
  have E5 := hide (@Pl.node_cont n)
  have EK := hide (fun W => content_any n W hd)
  generalize Pl.za7 n = R at E0 E1 E5 ⊢
  generalize Pl.zt0 n = R2 at E5 EK
  obtain ⟨p, k, d, t, m⟩ := n
  simp only at hp hd E0 E1 E5
  simp only [Pl.Nd.val] at EK ⊢
  have hr := hide (fun W => zq3.zl6 p W hp)
  generalize Pl.za1 p = r at hr E1 E5
  have hv := Mem.zi0 w [.string p, .int .i64 k, .string d, .int .i64 t, .int .i64 m] 47
  have hb0 : Below w.heap.size w (w.alloc (.cells #[.string p, .int .i64 k, .string d, .int .i64 t, .int .i64 m] 47)) := (Below.refl _ _).alloc (Nat.le_refl _) _
  by_cases h0 : p.size = 0
  · have E := hide (za E0 h0)
    have t0 : p.toList.isEmpty = true := by rw [Pl.zd2]; simpa [Pl.zh2] using h0
    clear E0 E1 E5 EK hv
    go_enter Tryz.func86, Tryz.ntmps86
    go_wp2
    go_ret
    exact ⟨za3 (za E).symm, hb0⟩
  have t0 : p.toList.isEmpty = false := by rw [Pl.zd2]; simpa [Pl.zh2] using h0
  cases r
  · have E := hide (za E1 rfl)
    clear E0 E1 E5 EK
    go_enter Tryz.func86, Tryz.ntmps86
    go_wp2_with fail
    refine (za hr _).mono ?_
    rintro e w1 ⟨rfl, b1⟩
    have b2 := hb0.trans (b1.mono hb0.size)
    clear hv hb0 b1
    go_wp2
    go_ret
    exact ⟨za3 (za E).symm, b2⟩
  have F := hide (za E5 h0 rfl)
  clear E0 E1 E5
  go_enter Tryz.func86, Tryz.ntmps86
  go_wp2_with fail
  refine (za hr _).mono ?_
  rintro e w1 ⟨rfl, b1⟩
  have hb := hb0.trans (b1.mono hb0.size)
  obtain ⟨-, hc⟩ := Mem.zm1 hv b1
  have c0 := hc 0 _ rfl
  have c1 := hc 1 _ rfl
  have c2 := hc 2 _ rfl
  have c3 := hc 3 _ rfl
  have c4 := hc 4 _ rfl
  clear hv hb0 b1 hc hr
  go_wp2_with fail
  refine (za EK _).mono ?_
  rintro e w2 ⟨rfl, b2⟩
  have b3 := hb.trans (b2.mono hb.size)
  clear hb b2
  go_wp2
  go_ret
  exact ⟨za3 (za F).symm, b3⟩
end WNode
end
section
open Go.RowKit Go.Maps
namespace Pl
structure Inv (C:List Nd) (lp:ByteArray):Prop where
 right:za1 lp=true
 rise:C.Pairwise (fun a b=>za9 (names a.path) (names b.path)=true)
 last:∀a∈C,a.path=lp∨za9 (names a.path) (names lp)=true
theorem inv_start:Inv [] ⟨#[]⟩:=⟨(zh3 rfl).1,List.Pairwise.nil,fun a ha=>by cases ha⟩
theorem inv_apart {C:List Nd} {lp:ByteArray} (h:Inv C lp):C.Pairwise (fun a b=>a.path≠b.path):=
 h.rise.imp (fun {a b} hab e=>by rw [e,zj8] at hab;cases hab)
theorem inv_step {C:List Nd} {lp:ByteArray} {n:Nd} (h:Inv C lp) (hn:za7 n=true) (hl:ltP lp n.path=true):Inv (C++[n]) n.path:=by
 have hr:=(zb1 hn).1;rw [zd4 h.right hr] at hl
 have hall:∀a∈C,za9 (names a.path) (names n.path)=true:=fun a ha=>by
  rcases h.last a ha with e|e
  ·rw [e];exact hl
  ·exact zm3 _ _ _ e hl
 refine ⟨hr,?_,fun a ha=>?_⟩
 ·rw [List.pairwise_append];exact ⟨h.rise,List.pairwise_singleton _ _,fun a ha b hb=>by simp at hb;subst hb;exact hall a ha⟩
 ·rcases List.mem_append.1 ha with ha|ha
  ·exact .inr (hall a ha)
  ·simp at ha;subst ha;exact .inl rfl
theorem goI_step (L:List Nd) {n:Nd} {k:Nat} (h:L[k]? =some n) (C:List Nd) (lp:ByteArray):goI C lp (L.drop k)=(za7 n&&ltP lp n.path&&parI C n.path&&goI (C++[n]) n.path (L.drop (k+1))):=by
 have h1:=(List.getElem?_eq_some_iff.1 h);rw [List.drop_eq_getElem_cons h1.1,h1.2,goI]
theorem take_snoc' (L:List Nd) {n:Nd} {k:Nat} (h:L[k]? =some n):L.take (k+1)=L.take k++[n]:=by
 have h1:=(List.getElem?_eq_some_iff.1 h);rw [List.take_succ_eq_append_getElem h1.1,h1.2]
end Pl
namespace zc2
set_option maxRecDepth 100000 in
set_option maxHeartbeats 1000000 in
theorem zy1 (a:Option Addr) (cap:Nat) (L:List Pl.Nd) (w:World) (hl:L.length≤1048576) (hv:Mem.za2 w a L) (hok:∀n∈L,n.path.size≤1048576∧n.data.size≤1048576)
  (r1 r2 r3:TypeId) (x1 x2 x3:Value) (hE:Errs w r1 r2 r3 x1 x2 x3):
  Calls Tryz.prog 88 #[.agg #[.slice a L.length cap]] w fun e w'=>((Pl.za5 L=true∧∃B,e= .returned (.tuple #[.map (some B), .nilIface])∧w.heap.size≤B∧w'.ownsMap Tryz.prog 9 MapN.elem B 40 (MapN.mapOf L))∨
   (Pl.za5 L=false∧e= .returned (.tuple #[.map none, .iface r1 x1])))∧Below w.heap.size w w':=by
 have b0:Below w.heap.size w (w.alloc (.cells #[.slice a L.length cap] 43)):=bE0;have HV:=hide hv;have HO:=hide hok;have HE:=hide hE;have hvar:=hide (Mem.zi0 w [.slice a L.length cap] 43);have hmm:=@run_makeMap Tryz.prog;have k1:=(hE.call b0).c1;clear hv hok hE;by_cases h40:40<L.length
 ·have F:=hide (show Pl.za5 L=false by simp [Pl.za5];omega);go_enter Tryz.func88,Tryz.ntmps88
  go_wp2
  go_region
  go_wp2
  go_ret2
  exact ⟨.inr ⟨za F,rfl⟩,Mem.below_drewN b0 1⟩
 have h41:Pl.za5 L=Pl.goI [] ⟨#[]⟩ L:=by rw [Pl.za5,show decide (L.length≤40)=true by simp;omega];rfl
 rw [h41];clear h41;generalize hR:Pl.goI [] ⟨#[]⟩ L=R;have HR:=hide hR;clear hR;go_enter Tryz.func88,Tryz.ntmps88
 go_wp2
 go_loopw [5,17] (fun v i wr=>∃ (k:Nat) (lp:ByteArray),k≤L.length∧i= .int .i64 (k:Int)∧v= .string lp∧lp.size≤200∧Below w.heap.size w wr∧Hid (wr.ownsMap Tryz.prog 9 MapN.elem (w.heap.size+1) k (MapN.mapOf (L.take k)))∧Hid (Pl.Inv (L.take k) lp)∧Hid (R=Pl.goI (L.take k) lp (L.drop k))) (fun _ i _=>L.length - (intOf i).toNat)
 case atStart=>
  refine ⟨0,⟨#[]⟩,Nat.zero_le _,rfl,rfl,Nat.zero_le _,?_,?_,Pl.inv_start,(za HR).symm⟩
  ·exact b0.alloc (by simp) _
  ·have h:=World.ownsMap_made (w.alloc (.cells #[.slice a L.length cap] 43)) Tryz.prog 9 MapN.elem;rw [show (w.alloc (.cells #[.slice a L.length cap] 43)).heap.size=w.heap.size+1 by simp] at h;exact h
 case round=>
  obtain ⟨k,lp,hk,rfl,rfl,hlp,hbel,HM,HI,HR2⟩:=hrel;by_cases hlt:k<L.length
  ·obtain ⟨n,hn⟩:∃n,L[k]? =some n:=⟨_,List.getElem?_eq_getElem hlt⟩;obtain ⟨b,o,rfl,hb,q0,q1,q2,q3,q4⟩:=(Mem.za0 (za HV) hbel) k n hn;have y1:(k:Int)<(L.length:Int):=by omega
   have y3:(0:Int)≤(k:Int):=by omega
   have hBl:=(za HM).lt;have hsn:=za HO n (List.mem_of_getElem? hn);have hnr:=hide (fun W=>WNode.zk6 n W hsn.1 hsn.2);have hls:=hide (fun W=>WLess.less_any lp n.path W (by omega) hsn.1)
   change Hid (∀W,Calls Tryz.prog _ _ W fun e w'=>e= .returned (.bool (Pl.ltP lp n.path))∧_) at hls
   have hpf:=hide (fun W hE hown hC=>fault_any (w.heap.size+1) k (L.take k) n.path W r1 r2 r3 x1 x2 x3 hE hown hC hsn.1);have UG:=hide (Pl.goI_step L (n:=n) (k:=k) hn (L.take k) lp);have HN:=hide hn;have hkey:=MapN.zj3 (p:=n.path) (by have :=hsn.1;unfold maxLen;omega);have zn:=Mem.zi0 wr [.string n.path, .int .i64 n.kind, .string n.data, .int .i64 n.time, .int .i64 n.mark] 47;have bw1:Below wr.heap.size wr (wr.alloc (.cells #[.string n.path, .int .i64 n.kind, .string n.data, .int .i64 n.time, .int .i64 n.mark] 47)):=bE0;have bw2:=hbel.trans (bw1.mono hbel.size);have HM1:=hide (zd9 (za HM) bw1);clear hn HM;simp only [Pl.Nd.val] at hnr;go_wp2_with fail
   refine (za hnr _).mono ?_;rintro e wA ⟨rfl,bA⟩;have znA:=Mem.zm1 zn bA;have bwA:=bw2.trans (bA.mono bw2.size);have HMA:=hide (zd9 (za HM1) bA);have kA:=((za HE).call bwA).c1;clear zn bw1 bw2 bA HM1 q0 q1 q2 q3 q4 hnr;have c0:=znA.2 0 _ rfl;cases hnb:Pl.za7 n
   ·have F:=hide (show R=false by rw [za HR2,za UG,hnb];rfl);clear hnb;go_wp2
    go_region
    go_wp2
    go_ret2
    exact ⟨.inr ⟨za F,rfl⟩,Mem.below_drewN bwA 1⟩
   have HNB:=hide hnb;clear hnb;go_wp2_with fail
   refine (za hls _).mono ?_;rintro e wB ⟨rfl,bB⟩;have znB:=Mem.zm1 znA bB;have bwB:=bwA.trans (bB.mono bwA.size);have HMB:=hide (zd9 (za HMA) bB);have kB:=((za HE).call bwB).c1;clear znA bwA bB HMA c0 kA hls;have c0:=znB.2 0 _ rfl;cases hlb:Pl.ltP lp n.path
   ·have F:=hide (show R=false by rw [za HR2,za UG,za HNB,hlb];rfl);clear hlb;go_wp2
    go_region
    go_wp2
    go_ret2
    exact ⟨.inr ⟨za F,rfl⟩,Mem.below_drewN bwB 1⟩
   have HLB:=hide hlb;clear hlb;go_wp2_with fail
   refine (za hpf _ ((za HE).call bwB) (za HMB) (Pl.inv_apart (za HI))).mono ?_;rintro e wC ⟨rfl,bC⟩;have znC:=Mem.zm1 znB bC;have bwC:=bwB.trans (bC.mono bwB.size);have HMC:=hide (zd9 (za HMB) bC);have kC:=((za HE).call bwC).c1;clear znB bwB bC HMB c0 kB hpf
   rcases Pl.par_ok (p:=n.path) (u2:=r2) (u3:=r3) (x2:=x2) (x3:=x3) (Pl.inv_apart (za HI)) with ⟨hp1,hp2⟩|⟨hp1,uu,xx,hp2⟩
   rotate_left
   ·have F:=hide (show R=false by rw [za HR2,za UG,za HNB,za HLB,hp1];rfl);rw [hp2];clear hp1 hp2;go_wp2
    go_region
    go_wp2
    go_ret2
    exact ⟨.inr ⟨za F,rfl⟩,Mem.below_drewN bwC 1⟩
   have HR3:=hide (show R=Pl.goI (L.take k++[n]) n.path (L.drop (k+1)) by rw [za HR2,za UG,za HNB,za HLB,hp1];rfl);rw [hp2];clear hp1 hp2;have c0:=znC.2 0 _ rfl;have c1:=znC.2 1 _ rfl;have c2:=znC.2 2 _ rfl;have c3:=znC.2 3 _ rfl;have c4:=znC.2 4 _ rfl;have hzl:=znC.1;have hne:some wr.heap.size≠some (w.heap.size+1):=fun e=>by have :=Option.some.inj e;omega
   go_wp2_with (first |(at_mapUpdate;refine wpList_mapUpdate_own _ rfl _ _ _ 78 rfl 9 47 MapN.law Tryz.underlying78 _ (w.heap.size+1) k _ rfl (za HMC) (by unfold maxLen;omega) _ _ _ rfl rfl hkey _ [] (MapN.zk3 n) ?_;intro wD hownD hgrowD;have cD:=hgrowD.cell c0 hne;have HOD:=hide hownD;have bwD:=bwC.grown hgrowD bwC.size (fun k hk=>by cases hk;omega);clear hownD hgrowD)|fail)
   have HI2:=hide (Pl.inv_step (za HI) (za HNB) (za HLB));have hnl:=Pl.zd1 (Pl.zb1 (za HNB)).1;have HT:=hide (Pl.take_snoc' L (za HN));go_wp2
   go_roundw
   case rel=>
    refine ⟨k+1,n.path,by omega,by go_num,rfl,hnl,bwD,?_,?_,?_⟩
    ·rw [za HT,MapN.mapOf_snoc];exact HOD
    ·rw [za HT];exact HI2
    ·rw [za HT];exact HR3
   case measure=>simp [intOf];omega
  ·obtain rfl:k=L.length:=by omega
   have F:=hide (show R=true by rw [za HR2,List.drop_length];rfl);rw [List.take_length] at HM;clear HR2;go_wp2
   go_ret2
   exact ⟨.inl ⟨za F,w.heap.size+1,rfl,by omega,(za HM).mono (by omega)⟩,hbel⟩
end zc2
end
section
open Go.RowKit Go.Maps
namespace zc2
set_option maxRecDepth 100000 in
theorem yg9 (a:Option Addr) (cap:Nat) (L:List Pl.Nd) (w:World) (hl:L.length≤1048576) (hv:Mem.za2 w a L) (hok:∀n∈L,n.path.size≤1048576∧n.data.size≤1048576)
  (r1 r2 r3:TypeId) (x1 x2 x3:Value) (hE:Errs w r1 r2 r3 x1 x2 x3):
  Calls Tryz.prog 111 #[.agg #[.slice a L.length cap]] w fun e w'=>e= .returned (.bool (Pl.za5 L))∧Below w.heap.size w w':=by
 have b0:Below w.heap.size w (w.alloc (.cells #[.slice a L.length cap] 43)):=(Below.refl _ _).alloc (Nat.le_refl _) _;have hn:=hide (zy1 a cap L _ hl (Mem.za0 hv b0) hok r1 r2 r3 x1 x2 x3 (hE.call b0));clear hv hok hE;generalize Pl.za5 L=R at hn ⊢;go_enter Tryz.func111,Tryz.ntmps111
 go_wp2_with fail
 refine (za hn).mono ?_;rintro e w1 ⟨h1,b1⟩;have b2:=b0.trans (b1.mono b0.size);clear hn b0 b1
 rcases h1 with ⟨rfl,B,rfl, -, -⟩|⟨rfl,rfl⟩
 ·go_wp2
  go_ret
  exact ⟨rfl,b2⟩
 ·go_wp2
  go_ret
  exact ⟨rfl,b2⟩
end zc2
end
section
open Go.RowKit
namespace ya5
set_option maxRecDepth 100000 in
set_option maxHeartbeats 400000 in
theorem zk6 (a:Option Addr) (cap:Nat) (L:List Pl.Nd) (w:World) (hl:L.length≤1048576) (hv:Mem.za2 w a L) (hok:∀n∈L,n.path.size≤1048576∧n.data.size≤1048576)
  (r1 r2 r3:TypeId) (x1 x2 x3:Value) (hE:zc2.Errs w r1 r2 r3 x1 x2 x3):
  Calls Tryz.prog 115 #[.agg #[.slice a L.length cap]] w fun e w'=>e= .returned (.bool (Pl.zd0 L))∧Below w.heap.size w w':=by
 have b0:Below w.heap.size w (w.alloc (.cells #[.slice a L.length cap] 43)):=(Below.refl _ _).alloc (Nat.le_refl _) _;have HV:=hide hv;have hvar:=Mem.zi0 w [.slice a L.length cap] 43;have hr:=hide (zc2.yg9 a cap L _ hl (Mem.za0 hv b0) hok r1 r2 r3 x1 x2 x3 (hE.call b0));have E0:Hid (Pl.za5 L=false→Pl.zd0 L=false):=Pl.plain_not;have E1:Hid (∀ (k:Nat) n,L[k]? =some n→n.mark≠0→Pl.zd0 L=false):=fun k n=>Pl.plain_bad;have E2:Hid ((∀ (j:Nat) n,L[j]? =some n→n.mark=0)→Pl.zd0 L=Pl.za5 L):=Pl.yl7;have E3:Hid (Pl.za5 L=true→∀ (k:Nat) n,L[k]? =some n→(n.kind=0→n.mark≠0)∧0≤n.mark):=fun h k n hn=>⟨fun hk=>Pl.gone_mark (Pl.tree_node h hn) hk,(Pl.zd8 (Pl.tree_node h hn)).2.2.1.1⟩;generalize Pl.zd0 L=R at E0 E1 E2 ⊢;generalize Pl.za5 L=R2 at E0 E2 E3 hr;clear hv hok hE;cases R2
 ·have E:=hide (za E0 rfl);go_enter Tryz.func115,Tryz.ntmps115
  go_wp2_with fail
  refine (za hr).mono ?_;rintro e w1 ⟨rfl,b1⟩;have b2:=b0.trans (b1.mono b0.size);clear hvar;go_wp2
  go_ret
  exact ⟨za3 (za E).symm,b2⟩
 have E4:=hide (za E3 rfl);clear E0 E3;go_enter Tryz.func115,Tryz.ntmps115
 go_wp2_with fail
 refine (za hr).mono ?_;rintro e w1 ⟨rfl,b1⟩;have b2:=b0.trans (b1.mono b0.size);have c0:=(Mem.zm1 hvar b1).2 0 _ rfl;have HV2:=hide (Mem.za0 (za HV) b2);clear hvar hr HV b1 b0;go_wp2
 go_loopw [11] (fun i wr=>∃k:Nat,k≤L.length∧i= .int .i64 (k:Int)∧Below w1.heap.size w1 wr∧Hid (∀ (j:Nat) m,j<k→L[j]? =some m→m.mark=0)) (fun i _=>L.length - (intOf i).toNat)
 case atStart=>exact ⟨0,Nat.zero_le _,rfl,Below.refl _ _,fun j m h=>absurd h (by omega)⟩
 case round=>
  obtain ⟨k,hk,rfl,hbel,HA⟩:=hrel;by_cases hlt:k<L.length
  ·obtain ⟨n,hn⟩:∃n,L[k]? =some n:=⟨_,List.getElem?_eq_getElem hlt⟩;obtain ⟨b,o,rfl,hb,q0,q1,q2,q3,q4⟩:=(Mem.za0 (za HV2) hbel) k n hn;have hb3:∀o,Below w1.heap.size w1 (wr.alloc o):=fun o=>hbel.alloc hbel.size o;have HB3:=hide hb3;obtain ⟨m1,m2⟩:=za E4 k n hn;have y1:(k:Int)<(L.length:Int):=by omega
   have y3:(0:Int)≤(k:Int):=by omega
   clear hb3;by_cases hm:n.mark=0
   ·have t1:(n.kind==0)=false:=by simpa using fun e=>m1 e hm
    have t2:¬0<n.mark:=by omega
    have HA2:Hid (∀ (j:Nat) m,j<k+1→L[j]? =some m→m.mark=0):=fun j m hj hm'=>by
     rcases Nat.lt_succ_iff_lt_or_eq.1 hj with h''|rfl
     ·exact HA.out j m h'' hm'
     ·rw [hn] at hm';cases hm';exact hm
    clear hm hn m1 m2;go_wp2
    go_roundw
    case rel=>exact ⟨k+1,by omega,by go_num,za HB3 _,HA2⟩
    case measure=>simp [intOf];omega
   ·have E:=hide (za E1 k n hn hm);have t2:0<n.mark:=by omega
    clear hm hn m1 m2;by_cases hk0:n.kind=0
    ·have t1:(n.kind==0)=true:=by simpa using hk0
     clear hk0;go_wp2
     go_ret
     exact ⟨za3 (za E).symm,b2.trans ((za HB3 _).mono b2.size)⟩
    ·have t1:(n.kind==0)=false:=by simpa using hk0
     clear hk0;go_wp2
     go_ret
     exact ⟨za3 (za E).symm,b2.trans ((za HB3 _).mono b2.size)⟩
  ·have E:=hide (za E2 (fun j n h=>HA.out j n (by have :=(List.getElem?_eq_some_iff.1 h).1;omega) h));have y1:¬ (k:Int)<(L.length:Int):=by omega
   go_wp2
   go_ret
   exact ⟨za3 (za E).symm,b2.trans (hbel.mono b2.size)⟩
end ya5
end
section
open Go.RowKit Go.Maps
namespace Pl
def chgC (L:List Nd) (n:Nd) (c:Int):Int:=if n.path.size≤8000∧n.data.size≤8000 then (if zd0 L=true∧za7 n=true then c else 1) else 2
def chgO (L:List Nd) (n:Nd) (c:Int) (O:List Nd):List Nd:=if chgC L n c=0 then O else []
theorem zj0 {L:List Nd} (h:zd0 L=true):za5 L=true:=by
 rw [zd0,Bool.and_eq_true] at h;exact h.1
end Pl
namespace ze6
structure Did (W w':World) (e:Ending) (B:Nat) (c:Int) (O:List Pl.Nd):Prop where
 out:(c=0∧e= .returned (.tuple #[])∧∃N D' C,N≤1000∧w'.ownsMap Tryz.prog 9 MapN.elem B N D'∧MapN.Reads D' C∧C.Pairwise (fun a b=>a.path≠b.path)∧O.Perm C∧O.Pairwise (fun a b=>Pl.ltP a.path b.path=true)∧(∀n∈C,Pl.za1 n.path=true∧n.data.size≤1048576))∨
  (c≠0∧e= .panicked (pnc c))
 grown:W.grownBy w' (some B)
set_option linter.unusedSimpArgs false in
set_option maxRecDepth 100000 in
set_option maxHeartbeats 2000000 in
theorem inTree_any (n:Pl.Nd) (Fp Fl:FuncId) (a:Option Addr) (cap:Nat) (L:List Pl.Nd) (c:Int) (O:List Pl.Nd) (w:World) (hl:L.length≤1048576) (hv:Mem.za2 w a L) (hok:∀n∈L,n.path.size≤1048576∧n.data.size≤1048576)
  (r1 r2 r3:TypeId) (x1 x2 x3:Value) (hE:zc2.Errs w r1 r2 r3 x1 x2 x3)
  (hF:∀B W,(callFunc Fp #[.map (some B),n.val]).run Tryz.prog W= .ok (.enter Fp #[.map (some B),n.val]) W)
  (hP:Pl.zd0 L=true→Pl.za7 n=true→∀B W,Below w.heap.size w W→w.heap.size≤B→W.ownsMap Tryz.prog 9 MapN.elem B 40 (MapN.mapOf L)→Calls Tryz.prog Fp #[.map (some B),n.val] W fun e w'=>Did W w' e B c O):
  Calls Tryz.prog 87 #[.agg (chg n Fp Fl), .agg #[.slice a L.length cap]] w fun e w'=>Ends w w' e (Pl.chgC L n c) (Pl.chgO L n c O):=by
 have b0:Below w.heap.size w (((w.alloc (.cells (chg n Fp Fl) 96)).alloc (.cells #[.slice a L.length cap] 43)).alloc (.cells #[.slice none 0 0] 43)):=((bE0).alloc (by simp) _).alloc (by simp;omega) _;have A0:Mem.Blk (((w.alloc (.cells (chg n Fp Fl) 96)).alloc (.cells #[.slice a L.length cap] 43)).alloc (.cells #[.slice none 0 0] 43)) w.heap.size (chg n Fp Fl) 96:=((Mem.Blk.new _ _ _).alloc _).alloc _;have T0:Mem.Blk (((w.alloc (.cells (chg n Fp Fl) 96)).alloc (.cells #[.slice a L.length cap] 43)).alloc (.cells #[.slice none 0 0] 43)) (w.heap.size+1) #[.slice a L.length cap] 43:=Mem.Blk.alloc (Mem.zg4 _ _ _) _
 have R0:Mem.Blk (((w.alloc (.cells (chg n Fp Fl) 96)).alloc (.cells #[.slice a L.length cap] 43)).alloc (.cells #[.slice none 0 0] 43)) (w.heap.size+1+1) #[.slice none 0 0] 43:=by
  have :=Mem.zg4 (w.alloc (.cells (chg n Fp Fl) 96)) (.cells #[.slice a L.length cap] 43) (.cells #[.slice none 0 0] 43);rw [show (w.alloc (.cells (chg n Fp Fl) 96)).heap.size=w.heap.size+1 by simp] at this;exact this
 have hF2:∀B W,(callFunc Fp #[.map (some B), .agg #[.string n.path, .int .i64 n.kind, .string n.data, .int .i64 n.time, .int .i64 n.mark]]).run Tryz.prog W= .ok (.enter Fp #[.map (some B), .agg #[.string n.path, .int .i64 n.kind, .string n.data, .int .i64 n.time, .int .i64 n.mark]]) W:=hF;clear hF;have HPL:=hide (fun W (b:Below w.heap.size w W)=>ya5.zk6 a cap L W hl (Mem.za0 hv b) hok r1 r2 r3 x1 x2 x3 (hE.call b));have HNO:=hide (fun W (b:Below w.heap.size w W)=>zc2.zy1 a cap L W hl (Mem.za0 hv b) hok r1 r2 r3 x1 x2 x3 (hE.call b));have HRN:=hide zi2;have HRY:=hide zg;have HP:=hide hP;have H0:=hide (⟨b0,A0,T0,R0⟩:_∧_∧_∧_);clear hv hok hE hP b0 A0 T0 R0;by_cases hs:n.path.size≤8000∧n.data.size≤8000
 ·have HN:=hide (fun W=>WNode.zk6 n W (by omega) (by omega));have hlo:=hide (fun W=>long_no n Fp Fl W hs.1 hs.2);have hC:Pl.chgC L n c=if Pl.zd0 L=true∧Pl.za7 n=true then c else 1:=by rw [Pl.chgC,if_pos hs]
  obtain ⟨b0,A0,T0,R0⟩:=za H0;have c1:=T0.cell 0;simp only [kA0,kA1] at c1;have hn8:n.path.size≤8000:=hs.1;clear H0 HRN HRY hs hl;generalize hPB:Pl.zd0 L=P at HPL hC HP ⊢;generalize hNB:Pl.za7 n=N at HN hC HP ⊢;have HRN:=hide zi2;have HRY:=hide zg;cases P
  ·have hC1:Pl.chgC L n c=1:=by rw [hC];simp
   have hO:Pl.chgO L n c O=[]:=by rw [Pl.chgO,hC1];rfl
   rw [hC1,hO];clear hC hC1 hO HP HNO HN HRN hPB hNB;go_enter Tryz.func87,Tryz.ntmps87
   go_wp2_with fail
   refine (za hlo _).mono ?_;rintro e w1 ⟨rfl,b1⟩;go_wp2_with fail
   refine (zi2 2 _).mono ?_;rintro e wR ⟨rfl,hwR⟩;subst wR;have bw1:=b0.trans (b1.mono b0.size);have T1:=T0.call b1;have c1:=T1.cell 0;simp only [kA0,kA1] at c1;clear b0 b1 T0 A0 R0;go_wp2_with fail
   refine (za HPL _ bw1).mono ?_;rintro e w2 ⟨rfl,b2⟩;have bw2:=bw1.trans (b2.mono bw1.size);clear bw1 b2 T1;go_wp2_with fail
   refine (za HRY 1 _).mono ?_;rintro e w3 ⟨rfl,rfl⟩;go_wp2_with fail
   exact ⟨rfl,⟨.inr ⟨by decide,rfl,rfl⟩,bw2⟩⟩
  ·cases N
   ·have hC1:Pl.chgC L n c=1:=by rw [hC];simp
    have hO:Pl.chgO L n c O=[]:=by rw [Pl.chgO,hC1];rfl
    rw [hC1,hO];clear hC hC1 hO HP HNO HRN hPB hNB;go_enter Tryz.func87,Tryz.ntmps87
    go_wp2_with fail
    refine (za hlo _).mono ?_;rintro e w1 ⟨rfl,b1⟩;go_wp2_with fail
    refine (zi2 2 _).mono ?_;rintro e wR ⟨rfl,hwR⟩;subst wR;have bw1:=b0.trans (b1.mono b0.size);have T1:=T0.call b1;have A1:=A0.call b1;have c1:=T1.cell 0;simp only [kA0,kA1] at c1;clear b0 b1 T0 A0 R0;go_wp2_with fail
    refine (za HPL _ bw1).mono ?_;rintro e w2 ⟨rfl,b2⟩;have bw2:=bw1.trans (b2.mono bw1.size);have A2:=A1.call b2;obtain ⟨d0,d1,d2,d3,d4⟩:=jc5 A2;clear bw1 b2 T1 A1;go_wp2_with fail
    refine (za HN _).mono ?_;rintro e w3 ⟨rfl,b3⟩;have bw3:=bw2.trans (b3.mono bw2.size);clear bw2 b3;go_wp2_with fail
    refine (za HRY 1 _).mono ?_;rintro e w4 ⟨rfl,rfl⟩;go_wp2_with fail
    exact ⟨rfl,⟨.inr ⟨by decide,rfl,rfl⟩,bw3⟩⟩
   ·have hC1:Pl.chgC L n c=c:=by rw [hC];simp
    have HO:Hid (Pl.chgO L n c O=if c=0 then O else []):=by rw [Pl.chgO,hC1];exact rfl
    rw [hC1];generalize Pl.chgO L n c O=O' at HO ⊢
    have htr:Pl.za5 L=true:=by
     have :=hPB;rw [Pl.zd0,Bool.and_eq_true] at this;exact this.1
    clear hC hC1 HRY hPB hNB;go_enter Tryz.func87,Tryz.ntmps87
    go_wp2_with fail
    refine (za hlo _).mono ?_;rintro e w1 ⟨rfl,b1⟩;go_wp2_with fail
    refine (zi2 2 _).mono ?_;rintro e wR ⟨rfl,hwR⟩;subst wR;have bw1:=b0.trans (b1.mono b0.size);have T1:=T0.call b1;have A1:=A0.call b1;have R1:=R0.call b1;have c1:=T1.cell 0;simp only [kA0,kA1] at c1;clear b0 b1 T0 A0 R0;go_wp2_with fail
    refine (za HPL _ bw1).mono ?_;rintro e w2 ⟨rfl,b2⟩;have bw2:=bw1.trans (b2.mono bw1.size);have A2:=A1.call b2;have T2:=T1.call b2;have R2:=R1.call b2;obtain ⟨d0,d1,d2,d3,d4⟩:=jc5 A2;clear bw1 b2 T1 A1 R1;go_wp2_with fail
    refine (za HN _).mono ?_;rintro e w3 ⟨rfl,b3⟩;have bw3:=bw2.trans (b3.mono bw2.size);have A3:=A2.call b3;have T3:=T2.call b3;have R3:=R2.call b3;have c1:=T3.cell 0;simp only [kA0,kA1] at c1;clear bw2 b3 A2 T2 R2 d0 d1 d2 d3 d4;go_wp2_with fail
    refine (za HRN 1 _).mono ?_;rintro e w4 ⟨rfl,rfl⟩;go_wp2_with fail
    refine (za HNO _ bw3).mono ?_;rintro e w5 ⟨h5,b5⟩
    rcases h5 with ⟨-,B,rfl,hB,hown⟩|⟨hx, -⟩
    ·have bw5:=bw3.trans (b5.mono bw3.size);have A5:=A3.call b5;have R5:=R3.call b5;have HOW:=hide hown;have hB1:w.heap.size+3≤B:=by have :=R3.lt;omega
     obtain ⟨d0,d1,d2,d3,d4,d5⟩:=jc6 A5;have hp:=hide (za HP trivial trivial B _ bw5 (by omega) (za HOW));clear bw3 b5 A3 T3 R3 c1 hB hown HOW HP HNO HPL HN HRN hlo;go_wp2_with fail
     refine (za hp).mono ?_;rintro e w6 ⟨h6,g6⟩;have R6:=R5.grown g6 (fun e=>by cases e;omega);have bw6:=bw5.grown g6 bw5.size (fun q hq=>by cases hq;omega);clear hp A5 R5 bw5 g6 d0 d1 d2 d3 d4 d5
     rcases h6 with ⟨rfl,rfl,N,D',C,hN,hO6,hR6,hC6,hper,hri,hok6⟩|⟨hc,rfl⟩
     ·have hris:=hide (zm6.any B N C O D' w6 hO6 hN hR6 hC6 hper hri hok6);have HO':Hid (O'=O):=by have :=za HO;rw [if_pos rfl] at this;exact this
      clear hN hO6 hR6 hC6 hper hri hok6 HO;go_wp2_with fail
      refine (za hris).mono ?_;rintro e w7 ⟨v,rfl,own,b7⟩;obtain ⟨a',cap',rfl⟩:=Mem.za4 own;have R7:=R6.call b7;have bw7:=bw6.trans (b7.mono bw6.size);have hlt:=R6.lt;have OW:=hide own;have e0:=R7.cell 0;have f0:=R7.fr 0;simp only [kA0,kA1] at e0;clear hris R6 bw6 b7 own;go_wp2
      refine bodyPost_ret (v:= .agg #[.slice a' O.length cap']) (by simp [results,Tryz.results87,go_sem,e0]) rfl ⟨.inl ⟨rfl, .slice a' O.length cap',rfl,?_⟩,?_⟩
      ·rw [za HO'];exact Mem.zb3 (Mem.za8 (za OW) _ _ (by show w.heap.size+1+1<_;omega)) (by omega)
      ·exact bw7.setCell (by show w.heap.size≤w.heap.size+1+1;omega) _
     ·have HO':O'=[]:=by have :=za HO;rw [if_neg hc] at this;exact this
      go_wp2_with fail
      exact ⟨rfl,⟨.inr ⟨hc,HO',rfl⟩,bw6⟩⟩
    ·exact absurd (htr.symm.trans hx) (by decide)
 ·have hC:Pl.chgC L n c=2:=by rw [Pl.chgC,if_neg hs]
  have hO:Pl.chgO L n c O=[]:=by rw [Pl.chgO,hC];rfl
  rw [hC,hO];have hlo:=hide (fun W=>long_yes n Fp Fl W hs);obtain ⟨b0,A0,T0,R0⟩:=za H0;go_enter Tryz.func87,Tryz.ntmps87
  go_wp2_with fail
  refine (za hlo _).mono ?_;rintro e w1 ⟨rfl,b1⟩;go_wp2_with fail
  refine (zg 2 _).mono ?_;rintro e wR ⟨rfl,hwR⟩;subst wR;go_wp2_with fail
  exact ⟨rfl,⟨.inr ⟨by decide,rfl,rfl⟩,b0.trans (b1.mono b0.size)⟩⟩
end ze6
end
section
open Go.RowKit Go.Maps
namespace ze6
theorem put_fin {B:Nat} {L:List Pl.Nd} {n:Pl.Nd} (ht:Pl.za5 L=true) (hnb:Pl.za7 n=true) {w':World} (h:∃D',w'.ownsMap Tryz.prog 9 MapN.elem B 41 D'∧MapN.Reads D' (L.filter (fun m=>!decide (m.path=n.path))++[n])):
  ∃N D' C,N≤1000∧w'.ownsMap Tryz.prog 9 MapN.elem B N D'∧MapN.Reads D' C∧C.Pairwise (fun a b=>a.path≠b.path)∧(Pl.putL L n).Perm C∧(Pl.putL L n).Pairwise (fun a b=>Pl.ltP a.path b.path=true)∧(∀n∈C,Pl.za1 n.path=true∧n.data.size≤1048576):=by
 obtain ⟨D',h1,h2⟩:=h;have hpo:=Pl.put_ok (fun m hm=>((Pl.zj4 ht).2.1 m hm).1) (Pl.zb1 hnb).1 (Pl.zj4 ht).1;exact ⟨41,D',_,by omega,h1,h2,Pl.apart_put (Pl.zl1 ht),hpo.2,hpo.1,fun m hm=>(Pl.mem_put hm).elim (fun h=>(Pl.zj4 ht).2.1 m h) (fun h=>by rw [h];exact ⟨(Pl.zb1 hnb).1,by have :=(Pl.zd8 hnb).1;omega⟩)⟩
end ze6
end
section
open Go.RowKit
namespace ye3
set_option maxRecDepth 100000 in
set_option maxHeartbeats 400000 in
theorem yh6 (v u:Value) (A B:List ByteArray) (w:World) (hA:A.length≤1000) (hB:B.length≤1000) (hv:Mem.zn3 w v A) (hu:Mem.zn3 w u B):
  Calls Tryz.prog 157 #[v,u] w fun e w'=>e= .returned (.bool (Pl.zm7 A B))∧w'=w:=by
 obtain ⟨va,vc,rfl⟩:∃a cap,v= .slice a A.length cap:=by
  rcases hv with ⟨rfl,rfl⟩|⟨b,o,cap,rfl,_⟩ <;> exact ⟨_,_,rfl⟩
 obtain ⟨ua,uc,rfl⟩:∃a cap,u= .slice a B.length cap:=by
  rcases hu with ⟨rfl,rfl⟩|⟨b,o,cap,rfl,_⟩ <;> exact ⟨_,_,rfl⟩
 by_cases hlen:A.length<B.length
 ·have E:=hide (Pl.underR_short hlen);have t1:(A.length:Int)<(B.length:Int):=by omega
  go_enter Tryz.func157,Tryz.ntmps157
  go_wp2
  go_ret
  exact ⟨za3 (za E).symm,rfl⟩
 have t1:¬ (A.length:Int)<(B.length:Int):=by omega
 by_cases h0:B=[]
 ·subst h0;have E:Hid (Pl.zm7 A []=true):=(Pl.zn7 A []).2 (fun j t h=>by simp at h);go_enter Tryz.func157,Tryz.ntmps157
  go_wp2
  go_loop [14] (fun i=>i= .int .i64 0) (fun _=>0)
  case atStart=>rfl
  case round=>
   subst hrel;go_wp2
   go_ret
   exact ⟨za3 (za E).symm,rfl⟩
 rcases hu with ⟨_,rfl⟩|⟨b,o,cap,hv1,hb,hcb⟩
 ·exact absurd rfl h0
 rcases hv with ⟨_,rfl⟩|⟨b',o',cap',hv2,hb',hca⟩
 ·exact absurd (List.length_pos_iff.2 h0) (by simp at hlen;simp [hlen])
 cases hv1
 cases hv2
 have HA:=hide hca;have HB:=hide hcb;clear hca hcb;have HT:Hid ((∀ (j:Nat) t,B[j]? =some t→A[j]? =some t)→Pl.zm7 A B=true):=fun h=>(Pl.zn7 A B).2 h;have HF:Hid (∀ (j:Nat) a b,A[j]? =some a→B[j]? =some b→a≠b→Pl.zm7 A B=false):=fun j a b h1 h2 h3=>Pl.underR_not h1 h2 h3;generalize Pl.zm7 A B=R at HT HF ⊢;go_enter Tryz.func157,Tryz.ntmps157
 go_wp2
 go_loop [14] (fun i=>∃k:Nat,k≤B.length∧i= .int .i64 (k:Int)∧Hid (∀ (j:Nat) t,j<k→B[j]? =some t→A[j]? =some t)) (fun i=>B.length - (intOf i).toNat)
 case atStart=>exact ⟨0,Nat.zero_le _,rfl,fun j t h=>absurd h (by omega)⟩
 case round=>
  obtain ⟨k,hk,rfl,HS⟩:=hrel;by_cases hlt:k<B.length
  ·obtain ⟨y,hy⟩:∃y,B[k]? =some y:=⟨_,List.getElem?_eq_getElem hlt⟩;obtain ⟨x,hx⟩:∃x,A[k]? =some x:=⟨_,List.getElem?_eq_getElem (by omega)⟩;have hc1:=HB.out k y hy;have hc2:=HA.out k x hx;have hkA:k<A.length:=by omega
   by_cases hxy:x=y
   ·have t2:=Pl.zu0 hxy
    have HS2:Hid (∀ (j:Nat) t,j<k+1→B[j]? =some t→A[j]? =some t):=fun j t' hj h'=>by
     rcases Nat.lt_succ_iff_lt_or_eq.1 hj with h''|rfl
     ·exact HS.out j t' h'' h'
     ·rw [hy] at h';cases h';rw [hx,hxy]
    clear hx hy HS hxy;go_wp2
    go_round
    case rel=>exact ⟨k+1,by omega,by go_num,HS2⟩
    case measure=>simp [intOf];omega
   ·have t2:=Pl.zq1 hxy;have E:=hide (HF.out k x y hx hy hxy);clear hx hy HS hxy;go_wp2
    go_ret
    exact ⟨za3 (za E).symm,rfl⟩
  ·have E:=hide (HT.out (fun j t h=>HS.out j t (by have :=(List.getElem?_eq_some_iff.1 h).1;omega) h));go_wp2
   go_ret
   exact ⟨za3 (za E).symm,rfl⟩
end ye3
end
section
open Go.RowKit
namespace zq3
set_option maxRecDepth 100000 in
theorem yh6 (p t:ByteArray) (w:World) (hp:p.size≤1048576) (ht:t.size≤1048576):
  Calls Tryz.prog 143 #[.string p, .string t] w fun e w'=>e= .returned (.bool (Pl.za1 p&&Pl.za1 t&&Pl.zm7 (Pl.zb p) (Pl.zb t)))∧Below w.heap.size w w':=by
 have hn:=hide (fun W=>ye3.both_any p t W hp ht);have hA:=hide (Pl.zg0 p);have hB:=hide (Pl.zg0 t);generalize (Pl.za1 p&&Pl.za1 t)=r at hn ⊢;generalize Pl.zb p=A at hn hA ⊢;generalize Pl.zb t=B at hn hB ⊢;cases r
 ·go_enter Tryz.func143,Tryz.ntmps143
  go_wp2_with fail
  refine (za hn _).mono ?_;rintro e w1 ⟨v1,v2,m,rfl, -, -, -, -,hb⟩;go_wp2
  go_ret
  exact ⟨rfl,hb⟩
 ·go_enter Tryz.func143,Tryz.ntmps143
  go_wp2_with fail
  refine (za hn _).mono ?_;rintro e w1 ⟨v1,v2,m,rfl,h1,h2,h3,h4,hb⟩;have i1:=hide (Mem.zo1 h2);have i2:=hide (Mem.zo1 h4);clear h2 h4 h3 hn;go_wp2_with fail
  refine (ye3.yh6 _ _ A B _ (by have :=(za hA).2;omega) (by have :=(za hB).2;omega) (za i1) (za i2)).mono ?_;rintro e w2 ⟨rfl,hw⟩;obtain rfl:=hw.symm;generalize hr:Pl.zm7 A B=r2;have HR:=hide hr;clear hr;go_wp2
  go_ret
  exact ⟨by rw [za HR];rfl,hb⟩
end zq3
end
section
open Go.RowKit Go.Maps
namespace WUnderN
theorem tl_ne {a b:ByteArray} (h:a≠b):(a.toList==b.toList)=false:=by
 rw [beq_eq_false_iff_ne];intro e;exact h (Pl.zi3 (by rw [ByteArray.toList_eq,ByteArray.toList_eq] at e;exact e))
set_option maxRecDepth 100000 in
theorem below_any (n:Pl.Nd) (p:ByteArray) (w:World) (h1:n.path.size≤1048576) (h2:p.size≤1048576):
  Calls Tryz.prog 137 #[n.val, .string p] w fun e w'=>e= .returned (.bool (Pl.zb7 n.path p))∧Below w.heap.size w w':=by
 obtain ⟨q,k,d,t,m⟩:=n;simp only [Pl.Nd.val] at h1 ⊢;have hu:=hide (fun W=>zq3.yh6 q p W h1 h2);have b0:Below w.heap.size w (w.alloc (.cells #[.string q, .int .i64 k, .string d, .int .i64 t, .int .i64 m] 47)):=(Below.refl _ _).alloc (Nat.le_refl _) _;by_cases hqp:q=p
 ·have E:Pl.zb7 q p=false:=by simp [Pl.zb7,hqp]
  rw [E];clear hu E;subst hqp;go_enter Tryz.func137,Tryz.ntmps137
  go_wp2
  go_ret
  exact ⟨rfl,b0⟩
 ·have E:Pl.zb7 q p=(Pl.za1 q&&Pl.za1 p&&Pl.zm7 (Pl.zb q) (Pl.zb p)):=by simp [Pl.zb7,hqp]
  rw [E];generalize (Pl.za1 q&&Pl.za1 p&&Pl.zm7 (Pl.zb q) (Pl.zb p))=R at hu ⊢;have t1:=tl_ne hqp;clear E hqp;go_enter Tryz.func137,Tryz.ntmps137
  go_wp2_with fail
  refine (za hu _).mono ?_;rintro e w1 ⟨rfl,b1⟩;have b2:=b0.trans (b1.mono b0.size);clear b0 b1 hu;go_wp2
  go_ret
  exact ⟨rfl,b2⟩
structure At (w wr:World) (a:Option Addr) (L:List Pl.Nd):Prop where
 bel:Below w.heap.size w wr
 nodes:Mem.za2 wr a L
theorem At.call {w wr wr':World} {a:Option Addr} {L:List Pl.Nd} (h:At w wr a L) (b:Below wr.heap.size wr wr'):At w wr' a L:=⟨h.bel.trans (b.mono h.bel.size),Mem.za0 h.nodes b⟩
theorem yk6 {w:World} {b o:Nat} {L:List Pl.Nd} (h:Mem.za2 w (some ⟨b,o,none⟩) L) (i q:Nat):Mem.za2 w (some ⟨b,o+i*5,none⟩) ((L.drop i).take q):=by
 intro k n hk;rw [List.getElem?_take] at hk
 split at hk
 ·rw [List.getElem?_drop] at hk;obtain ⟨b',o',e,h1,h2,h3,h4,h5,h6⟩:=h (i+k) n hk;cases e
  have ee:o+(i+k)*5=o+i*5+k*5:=by omega
  rw [ee] at h2 h3 h4 h5 h6;exact ⟨b,o+i*5,rfl,h1,h2,h3,h4,h5,h6⟩
 ·cases hk
theorem yh1 {L:List Pl.Nd} {i j:Nat} (h:j≤L.length):((L.drop i).take (j - i)).length=j - i:=by simp;omega
set_option linter.unusedSimpArgs false in
set_option maxRecDepth 100000 in
set_option maxHeartbeats 2000000 in
theorem any (B N:Nat) (C L:List Pl.Nd) (D:DataW Unit) (p:ByteArray) (w:World) (hown:w.ownsMap Tryz.prog 9 MapN.elem B N D) (hN:N≤1000) (hR:MapN.Reads D C) (hC:C.Pairwise (fun a b=>a.path≠b.path)) (hperm:L.Perm C) (hr:L.Pairwise (fun a b=>Pl.ltP a.path b.path=true))
  (hok:∀n∈C,Pl.za1 n.path=true∧n.data.size≤1048576) (hl:L.length≤1000) (hp:p.size≤1048576):
  Calls Tryz.prog 121 #[.map (some B), .string p] w fun e w'=>∃a,e= .returned (.slice a (Pl.zf8 L p).length (Pl.zf8 L p).length)∧Mem.za2 w' a (Pl.zf8 L p)∧(∀b o,a=some ⟨b,o,none⟩→w.heap.size≤b)∧Below w.heap.size w w':=by
 have hri:=hide (zm6.any B N C L D w hown hN hR hC hperm hr hok);have HB:=hide (fun n (hn:n∈L) W=>below_any n p W (by have :=Pl.zd1 (hok n (hperm.mem_iff.1 hn)).1;omega) hp)
 have HPI:Hid (∀ (i j:Nat),i≤j→j≤L.length→(∀ (k:Nat) n,k<i→L[k]? =some n→Pl.zb7 n.path p=false)→(∀n,L[i]? =some n→Pl.zb7 n.path p=true)→
  (∀ (k:Nat) n,i≤k→k<j→L[k]? =some n→Pl.zb7 n.path p=true)→(∀n,L[j]? =some n→Pl.zb7 n.path p=false)→Pl.zf8 L p=(L.drop i).take (j - i)):=fun i j=>Pl.piece_at L p i j
 clear hown hR hC hperm hr hok;generalize Pl.zf8 L p=M at HPI ⊢;go_enter Tryz.func121,Tryz.ntmps121
 go_wp2_with fail
 refine (za hri).mono ?_;rintro e w1 ⟨v,rfl,own,b1⟩;obtain ⟨a,cap,rfl,hnd⟩:=Mem.ownN_is own
 have hcap:L.length≤cap:=by
  rcases own.2 with ⟨e1,e2⟩|⟨g,cap',cur,e1,_,_,h1,_⟩
  ·injection e1 with e3 e4 e5;omega
  ·injection e1 with e3 e4 e5;omega
 have A0:Hid (At w w1 a L):=⟨b1,hnd⟩
 have HBK:Hid (∀b o,a=some ⟨b,o,none⟩→w.heap.size≤b):=fun b o e=>by
  subst e;exact (Mem.ze3 own b rfl).1
 clear hri own b1 hnd;go_wp2
 go_loopw [6] (fun i wr=>∃k:Nat,k≤L.length∧i= .int .i64 (k:Int)∧Hid (At w wr a L)∧Hid (∀ (j:Nat) n,j<k→L[j]? =some n→Pl.zb7 n.path p=false)) (fun i _=>L.length - (intOf i).toNat)
 case atStart=>exact ⟨0,Nat.zero_le _,rfl,A0,fun j n h=>absurd h (by omega)⟩
 case round=>
  obtain ⟨k,hk,rfl,HA,HK⟩:=hrel;clear A0;by_cases hlt:k<L.length
  ·obtain ⟨n,hn⟩:∃n,L[k]? =some n:=⟨_,List.getElem?_eq_getElem hlt⟩;obtain ⟨b1,o1,ea,hb1,q0,q1,q2,q3,q4⟩:=(za HA).nodes k n hn;have hib:=hide (fun W=>za HB n (List.mem_of_getElem? hn) W);have y1:(k:Int)<(L.length:Int):=by omega
   have y3:(0:Int)≤(k:Int):=by omega
   have EN:=hide hn;cases hbb:Pl.zb7 n.path p
   ·rw [hbb] at hib
    have HK2:Hid (∀ (l:Nat) n,l<k+1→L[l]? =some n→Pl.zb7 n.path p=false):=fun l m h2 hm=>by
     rcases Nat.lt_succ_iff_lt_or_eq.1 h2 with h3|h3
     ·exact za HK l m h3 hm
     ·subst h3;rw [za EN] at hm;cases hm;exact hbb
    clear hbb hn EN HK;obtain ⟨qp,qk,qd,qt,qm⟩:=n;simp only [Pl.Nd.val] at hib q0 q1 q2 q3 q4;subst ea;go_wp2_with fail
    refine (za hib _).mono ?_;rintro e w4 ⟨rfl,b4⟩;have A4:=hide ((za HA).call b4);clear HA b4 hib q0 q1 q2 q3 q4 hb1;go_wp2
    go_roundw
    case rel=>exact ⟨k+1,by omega,by go_num,A4,HK2⟩
    case measure=>simp [intOf];omega
   ·rw [hbb] at hib;have HF:Hid (∀n,L[k]? =some n→Pl.zb7 n.path p=true):=fun m hm=>by rw [za EN] at hm;cases hm;exact hbb
    clear hbb hn EN;obtain ⟨qp,qk,qd,qt,qm⟩:=n;simp only [Pl.Nd.val] at hib q0 q1 q2 q3 q4;subst ea;go_wp2_with fail
    refine (za hib _).mono ?_;rintro e w4 ⟨rfl,b4⟩;have AX:=hide ((za HA).call b4);clear HA b4 hib q0 q1 q2 q3 q4 hb1;go_wp2
    go_loopw [7] (fun i wr=>∃j:Nat,k≤j∧j≤L.length∧i= .int .i64 (j:Int)∧Hid (At w wr (some ⟨b1,o1,none⟩) L)∧Hid (∀ (l:Nat) n,k≤l→l<j→L[l]? =some n→Pl.zb7 n.path p=true)) (fun i _=>L.length - (intOf i).toNat)
    case atStart=>exact ⟨k,Nat.le_refl _,hk,rfl,AX,fun l n h1 h2=>absurd h2 (by omega)⟩
    case round=>
     obtain ⟨j,hkj,hj,rfl,HA2,HJ⟩:=hrel;clear AX;by_cases hlt2:j<L.length
     ·obtain ⟨n2,hn2⟩:∃n,L[j]? =some n:=⟨_,List.getElem?_eq_getElem hlt2⟩;obtain ⟨b2,o2,ea2,hb2,q0,q1,q2,q3,q4⟩:=(za HA2).nodes j n2 hn2;cases ea2
      have hib2:=hide (fun W=>za HB n2 (List.mem_of_getElem? hn2) W);have z1:(j:Int)<(L.length:Int):=by omega
      have z3:(0:Int)≤(j:Int):=by omega
      have EN2:=hide hn2;cases hbb:Pl.zb7 n2.path p
      ·rw [hbb] at hib2;have HF2:Hid (∀n,L[j]? =some n→Pl.zb7 n.path p=false):=fun n hn=>by rw [za EN2] at hn;cases hn;exact hbb
       have EM:=hide (za HPI k j hkj hj (za HK) (za HF) (za HJ) (za HF2));have jk:¬j=k:=fun e=>by subst e;have :=za HF n2 hn2;rw [hbb] at this;cases this
       clear hbb hn2 EN2 HF2 HPI HK HF HJ HB;obtain ⟨qp2,qk2,qd2,qt2,qm2⟩:=n2;simp only [Pl.Nd.val] at hib2 q0 q1 q2 q3 q4;go_wp2_with fail
       refine (za hib2 _).mono ?_;rintro e w4 ⟨rfl,b4⟩;have A4:=hide ((za HA2).call b4);clear HA2 b4 hib2 q0 q1 q2 q3 q4 hb2;have s0:(0:Int)≤(k:Int):=by omega
       have s1:(k:Int)≤(j:Int):=by omega
       have s2:(j:Int)≤(cap:Int):=by omega
       go_wp2
       go_ret
       have e:=za EM;subst e;exact ⟨some ⟨b1,o1+k*5,none⟩,by rw [yh1 hj];rfl,yk6 (za A4).nodes k _,(fun b o e=>by cases e;exact za HBK b1 o1 rfl),(za A4).bel⟩
      ·rw [hbb] at hib2
       have HJ2:Hid (∀ (l:Nat) n,k≤l→l<j+1→L[l]? =some n→Pl.zb7 n.path p=true):=fun l n h1 h2 hn=>by
        rcases Nat.lt_succ_iff_lt_or_eq.1 h2 with h3|h3
        ·exact za HJ l n h1 h3 hn
        ·subst h3;rw [za EN2] at hn;cases hn;exact hbb
       clear hbb hn2 EN2 HJ;obtain ⟨qp2,qk2,qd2,qt2,qm2⟩:=n2;simp only [Pl.Nd.val] at hib2 q0 q1 q2 q3 q4;go_wp2_with fail
       refine (za hib2 _).mono ?_;rintro e w4 ⟨rfl,b4⟩;have A4:=hide ((za HA2).call b4);clear HA2 b4 hib2 q0 q1 q2 q3 q4 hb2;go_wp2
       go_roundw
       case rel=>exact ⟨j+1,by omega,by omega,by go_num,A4,HJ2⟩
       case measure=>simp [intOf];omega
     ·obtain rfl:j=L.length:=by omega
      have z1:¬ ((L.length:Int)<(L.length:Int)):=by omega
      have EM:=hide (za HPI k L.length hkj hj (za HK) (za HF) (za HJ) (fun n hn=>absurd (List.getElem?_eq_some_iff.1 hn).1 (by omega)));have jk:¬L.length=k:=by omega
      clear HPI HK HF HJ HB;have s0:(0:Int)≤(k:Int):=by omega
      have s1:(k:Int)≤(L.length:Int):=by omega
      have s2:(L.length:Int)≤(cap:Int):=by omega
      have A4:=HA2;clear HA2;go_wp2
      go_ret
      have e:=za EM;subst e;exact ⟨some ⟨b1,o1+k*5,none⟩,by rw [yh1 hj];rfl,yk6 (za A4).nodes k _,(fun b o e=>by cases e;exact za HBK b1 o1 rfl),(za A4).bel⟩
  ·obtain rfl:k=L.length:=by omega
   have y1:¬ ((L.length:Int)<(L.length:Int)):=by omega
   have HF:Hid (∀n,L[L.length]? =some n→Pl.zb7 n.path p=true):=fun n hn=>absurd (List.getElem?_eq_some_iff.1 hn).1 (by omega);have AX:=HA;clear HA;go_wp2
   go_loopw [7] (fun i wr=>i= .int .i64 (L.length:Int)∧Hid (At w wr a L)) (fun i _=>0)
   case atStart=>exact ⟨rfl,AX⟩
   case round=>
    obtain ⟨rfl,HA2⟩:=hrel;have EM:=hide (za HPI L.length L.length (Nat.le_refl _) (Nat.le_refl _) (za HK) (za HF) (fun l n h1 h2=>absurd h2 (by omega)) (fun n hn=>absurd (List.getElem?_eq_some_iff.1 hn).1 (by omega)));clear HPI HK HF HB AX;have s0:(0:Int)≤(L.length:Int):=by omega
    have s2:(L.length:Int)≤(cap:Int):=by omega
    have A4:=HA2;clear HA2;go_wp2
    go_ret
    have e:=za EM;subst e;exact ⟨a,by rw [yh1 (Nat.le_refl _),Nat.sub_self];rfl,by rw [Nat.sub_self];exact Mem.yd3 _ _,za HBK,(za A4).bel⟩
end WUnderN
end
end Go.Proofs.YthdhhcgopfgcbaaGreatDoor
