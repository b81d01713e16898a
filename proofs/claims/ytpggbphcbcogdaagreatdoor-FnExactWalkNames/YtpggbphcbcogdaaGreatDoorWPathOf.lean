import Derived.Test.YtpggbphcbcogdaaGreatDoorTakeC
import Derived.Test.YtpggbphcbcogdaaGreatDoorPlainGlue
import Derived.Test.YtpggbphcbcogdaaGreatDoorWWords
import Derived.Test.YtpggbphcbcogdaaGreatDoorMemTexts
import Derived.Test.YtpggbphcbcogdaaGreatDoorWJoin
namespace Go.Proofs.YtpggbphcbcogdaaGreatDoor
open Go.RowKit
namespace Pl
def zb7 (ts:List ByteArray):Nat→List ByteArray
 |0=>[]
 |k+1=>zb7 ts k++(if k=0 then [] else [⟨#[47]⟩])++[ts.getD k ⟨#[]⟩]
theorem glueL_snoc (A:List (List UInt8)) (a:List UInt8):zd8 (A++[a])=zd8 A++(if A=[] then [] else [47])++a:=by
 by_cases h:A=[]
 ·subst h;rfl
 ·rw [zv1 h (by simp),if_neg h];simp [zd8]
theorem zw6 (A B:List ByteArray):cat (A++B)=cat A++cat B:=by simp [cat]
theorem parts_cat (ts:List ByteArray):∀k,k≤ts.length→cat (zb7 ts k)=zd8 ((ts.take k).map by_):=by
 intro k
 induction k with
 |zero=>intro _;rfl
 |succ k ih=>
  intro hk;have hlt:k<ts.length:=by omega
  rw [zb7,zw6,zw6,ih (by omega),List.take_add_one,List.getElem?_eq_getElem hlt,Option.toList_some,List.map_append,List.map_cons,List.map_nil,glueL_snoc,cat_one];have h1:ts.getD k ⟨#[]⟩=ts[k]:=by simp [List.getD_eq_getElem?_getD,List.getElem?_eq_getElem hlt]
  rw [h1]
  have h2:cat (if k=0 then [] else [(⟨#[47]⟩:ByteArray)])=if (ts.take k).map by_=[] then [] else [47]:=by
   by_cases h0:k=0
   ·subst h0;rfl
   ·rw [if_neg h0,if_neg (by simp;exact ⟨h0,by intro e;subst e;simp at hlt⟩)];rfl
  rw [h2];rfl
theorem parts_glue (ts:List ByteArray):(⟨(cat (zb7 ts ts.length)).toArray⟩:ByteArray)=glue ts:=by
 rw [parts_cat ts _ (Nat.le_refl _),List.take_length];rfl
theorem parts_tot (ts:List ByteArray):tot (zb7 ts ts.length)=(glue ts).size:=by
 rw [←zs7,parts_cat ts _ (Nat.le_refl _),List.take_length,←zk3,zf]
theorem parts_length (ts:List ByteArray):∀k,(zb7 ts k).length≤2*k:=by
 intro k
 induction k with
 |zero=>simp [zb7]
 |succ k ih=>
  rw [zb7];by_cases h:k=0
  ·simp [h,zb7]
  ·simp [h];omega
theorem parts_first {ts:List ByteArray} {t:ByteArray} (ht:ts[0]? =some t):zb7 ts 1=zb7 ts 0++[t]:=by
 simp [zb7,List.getD_eq_getElem?_getD,ht]
theorem parts_next {ts:List ByteArray} {k:Nat} {t:ByteArray} (hk:k≠0) (ht:ts[k]? =some t):zb7 ts (k+1)=(zb7 ts k++[⟨#[47]⟩])++[t]:=by
 simp [zb7,List.getD_eq_getElem?_getD,ht,hk]
end Pl
namespace zk1
theorem make12 (w:World):(Instr.makeSlice 24 (.int .i64 0) (.int .i64 12)).run Tryz.prog w= .ok (.slice (some ⟨w.heap.size,0,none⟩) 0 12) (w.alloc (.cells (madeCells (Value.string ⟨#[]⟩).cells 12) 9)):=by
 obtain ⟨i0,h0,h1,h2,h3⟩:=info_parts WWords.zk5;have h:=run_make (P:=Tryz.prog) w 24 9 i0 (.string ⟨#[]⟩) Tryz.underlying24 h0 h1 .i64 .i64 0 12 (by omega) (by omega) (by rw [h3];omega) (by omega);rw [h];simp [h2]

set_option maxRecDepth 100000 in
set_option maxHeartbeats 400000 in
theorem any (v:Value) (ts:List ByteArray) (w:World) (hn:ts.length≤1000) (hg:(Pl.glue ts).size≤1000000) (hv:Mem.ze5 w v ts):
  Calls Tryz.prog 63 #[v] w fun e w'=>e= .returned (.string (Pl.glue ts))∧Below w.heap.size w w':=by
 obtain ⟨i0,hi,hz0,hz1,hz2⟩:=info_parts WWords.zk5;have hmk:=make12;have H0:Hid ((⟨(Pl.cat (Pl.zb7 ts ts.length)).toArray⟩:ByteArray)=Pl.glue ts):=Pl.parts_glue ts;have H1:Hid (Pl.tot (Pl.zb7 ts ts.length)≤1000000000):=by have :=Pl.parts_tot ts;show _≤_;omega
 by_cases hts:ts=[]
 ·subst hts
  have hv2:∃a cap,v= .slice a 0 cap:=by
   rcases hv with ⟨rfl,_⟩|⟨b,o,cap,rfl,_⟩
   ·exact ⟨_,_,rfl⟩
   ·exact ⟨_,_,rfl⟩
  obtain ⟨a,cap,rfl⟩:=hv2;go_enter Tryz.func63,Tryz.ntmps63
  go_wp2
  go_loop [3,9] (fun p i=>p= .slice (some ⟨w.heap.size,0,none⟩) 0 12∧i= .int .i64 0) (fun _ _=>0)
  case atStart=>exact ⟨rfl,rfl⟩
  case round=>
   obtain ⟨rfl,rfl⟩:=hrel;go_wp2_with fail
   refine (WJoin.any w.heap.size 0 12 [] _ (by simp) (by simp [Pl.tot]) (fun j t h=>by simp at h) (by simp)).mono ?_;rintro e w1 ⟨rfl,hb1⟩;go_wp2
   go_ret
   exact ⟨rfl,(bE0).trans (hb1.mono (by simp))⟩
 have hpos:0<ts.length:=List.length_pos_iff.2 hts
 have HNE:Hid (Pl.zb7 ts ts.length≠[]):=by
  intro h;obtain ⟨n,hn⟩:∃n,ts.length=n+1:=⟨ts.length - 1,by omega⟩;rw [hn,Pl.zb7] at h;simp at h
 rcases hv with ⟨rfl,rfl⟩|⟨b,o,cap,rfl,hb,hcell⟩
 ·exact absurd rfl hts
 ·have HC:=hide hcell;clear hcell;go_enter Tryz.func63,Tryz.ntmps63
  go_wp2
  go_loopw [3,9] (fun p i wr=>∃k:Nat,k≤ts.length∧i= .int .i64 (k:Int)∧wr.ownsRow w.heap.size 9 1 p (Pl.zb7 ts k).length ((Pl.zb7 ts k).map Value.string)∧Below w.heap.size w wr) (fun _ i _=>ts.length - (intOf i).toNat)
  case atStart=>exact ⟨0,Nat.zero_le _,rfl,World.ownsRow_made _ _ 12 (Nat.le_refl _) (by unfold maxLen;omega) (size_madeCells _ _),bE0⟩
  case round=>
   obtain ⟨k,hk,rfl,hown,hbel⟩:=hrel;have hb1:=hbel.size;have hpl:=Pl.parts_length ts k;by_cases hlt:k<ts.length
   ·obtain ⟨t,hkt⟩:∃t,ts[k]? =some t:=⟨_,List.getElem?_eq_getElem hlt⟩;have hc:wr.cell? ⟨b,o+k,none⟩=some (.string t):=(hbel.cell (p:=⟨b,o+k,none⟩) hb).trans (za HC k t hkt);by_cases h0:k=0
    ·have HS:Hid (Pl.zb7 ts (k+1)=Pl.zb7 ts k++[t]):=by subst h0;exact Pl.parts_first hkt
     have hp:¬ (0:Int)<(k:Int):=by omega
     clear hkt h0;go_wp2_with (at_builtin;refine wpList_append_own _ rfl _ _ 24 rfl w.heap.size 9 i0 (.string ⟨#[]⟩) 1 16 Tryz.underlying24 hi hz0 hz1 hz2 rfl (by decide) _ _ _ rfl (hown.alloc _) ⟨wr.heap.size,0,none⟩ 1 1 [.string t] rfl rfl (Mem.zd0 _ _ _) (Mem.one_str _) (by unfold maxLen;omega) (by omega) (by simp;omega) ?_)
     ·intro v' w2 hown' hgrow _;have hbel':=Mem.ze0 hbel (Nat.le_refl _) hown hgrow
      have hown2:Hid (w2.ownsRow w.heap.size 9 1 v' (Pl.zb7 ts (k+1)).length ((Pl.zb7 ts (k+1)).map Value.string)):=by
       show World.ownsRow _ _ _ _ _ _ _;rw [za HS];simpa using hown'
      clear hgrow hown hbel hown' hc;go_wp2
      go_roundw
      case rel=>exact ⟨k+1,by omega,by go_num,hown2,hbel'⟩
      case measure=>simp [intOf];omega
    ·have HS:=hide (Pl.parts_next h0 hkt);have hp:(0:Int)<(k:Int):=by omega
     clear hkt;go_wp2_with (at_builtin;refine wpList_append_own _ rfl _ _ 24 rfl w.heap.size 9 i0 (.string ⟨#[]⟩) 1 16 Tryz.underlying24 hi hz0 hz1 hz2 rfl (by decide) _ _ _ rfl (hown.alloc _) ⟨wr.heap.size,0,none⟩ 1 1 [.string ⟨#[47]⟩] rfl rfl (Mem.zd0 _ _ _) (Mem.one_str _) (by unfold maxLen;omega) (by omega) (by simp;omega) ?_)
     ·intro v1 w1 hown' hgrow _;have hbel':=Mem.ze0 hbel (Nat.le_refl _) hown hgrow;have hown1:w1.ownsRow w.heap.size 9 1 v1 (Pl.zb7 ts k++[(⟨#[47]⟩:ByteArray)]).length ((Pl.zb7 ts k++[(⟨#[47]⟩:ByteArray)]).map Value.string):=by simpa using hown'
      have hb2:=hbel'.size;have hl2:(Pl.zb7 ts k++[(⟨#[47]⟩:ByteArray)]).length≤2*k+1:=by simp;omega
      clear hgrow hown hbel hown' hc hpl;go_wp2_with (at_builtin;refine wpList_append_own _ rfl _ _ 24 rfl w.heap.size 9 i0 (.string ⟨#[]⟩) 1 16 Tryz.underlying24 hi hz0 hz1 hz2 rfl (by decide) _ _ _ rfl (hown1.alloc _) ⟨w1.heap.size,0,none⟩ 1 1 [.string t] rfl rfl (Mem.zd0 _ _ _) (Mem.one_str _) (by unfold maxLen;omega) (by omega) (by simp;omega) ?_)
      ·intro v' w2 hown' hgrow _;have hbel2:=Mem.ze0 hbel' (Nat.le_refl _) hown1 hgrow
       have hown2:Hid (w2.ownsRow w.heap.size 9 1 v' (Pl.zb7 ts (k+1)).length ((Pl.zb7 ts (k+1)).map Value.string)):=by
        show World.ownsRow _ _ _ _ _ _ _;rw [za HS];simpa using hown'
       clear hgrow hown1 hbel' hown';go_wp2
       go_roundw
       case rel=>exact ⟨k+1,by omega,by go_num,hown2,hbel2⟩
       case measure=>simp [intOf];omega
   ·obtain rfl:k=ts.length:=by omega
    rcases Mem.ze4 hown with ⟨rfl,hnil⟩|⟨g,o',cap',rfl,hgl,hcell'⟩
    ·exact absurd hnil HNE.out
    ·have HC':=hide hcell';clear hcell' hown;go_wp2_with fail
     refine (WJoin.any g o' cap' (Pl.zb7 ts ts.length) _ (by omega) H1.out HC'.out hgl).mono ?_;rintro e w1 ⟨rfl,hb1⟩;go_wp2
     go_ret
     exact ⟨by rw [H0.out];rfl,hbel.trans (hb1.mono (by omega))⟩
end zk1
end Go.Proofs.YtpggbphcbcogdaaGreatDoor
