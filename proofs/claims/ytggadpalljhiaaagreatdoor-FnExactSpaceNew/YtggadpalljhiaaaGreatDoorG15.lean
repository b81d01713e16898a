/- Several texts of one claim in one file: WLess, WJoin, WPathOf. -/
import Derived.Test.YtggadpalljhiaaaGreatDoorG01
import Derived.Test.YtggadpalljhiaaaGreatDoorG14
import Derived.Deep.QuietTactic
import Derived.BigQuiet
import Derived.Test.YtggadpalljhiaaaGreatDoorG00
import Derived.Test.YtggadpalljhiaaaGreatDoorG04
import Derived.Test.YtggadpalljhiaaaGreatDoorProg
import Derived.WalkSpells
import Derived.Test.YtggadpalljhiaaaGreatDoorG10
import Derived.Test.YtggadpalljhiaaaGreatDoorG12
namespace Go.Proofs.YtggadpalljhiaaaGreatDoor
section
open Go.RowKit
namespace WLess
set_option maxRecDepth 100000 in
set_option maxHeartbeats 400000 in
theorem ahead_any (v u:Value) (A B:List ByteArray) (w:World) (hA:A.length≤1000) (hB:B.length≤1000) (hv:Mem.zm w v A) (hu:Mem.zm w u B):
  Calls Tryz.prog 87 #[v,u] w fun e w'=>e= .returned (.bool (Pl.za3 A B))∧Below w.heap.size w w':=by
 have HE:Hid (∀k,k=A.length∧k≤B.length∨k=B.length∧k≤A.length→Pl.za3 (A.drop k) (B.drop k)=decide (A.length<B.length)):=fun k h=>Pl.less_end h;by_cases h0:A=[]∨B=[]
 ·have E:Hid (Pl.za3 A B=decide (A.length<B.length)):=by
   show _=_;have :=HE.out 0 (by rcases h0 with rfl |rfl <;> simp)
   simpa using this
  obtain ⟨va,vc,rfl⟩:=Mem.zo3 hv;obtain ⟨ua,uc,rfl⟩:=Mem.zo3 hu;clear hv hu HE
  rcases h0 with rfl |rfl
  ·have t0:(([]:List ByteArray).length:Int)≤(B.length:Int):=by simp
   go_enter Tryz.func87,Tryz.ntmps87
   go_wp2
   go_loop [11] (fun i=>i= .int .i64 0) (fun _=>0)
   case atStart=>rfl
   case round=>
    subst hrel;go_wp2
    go_ret
    exact ⟨za0 (by rw [E.out];simp),Below.refl _ _⟩
  ·by_cases hA0:A=[]
   ·subst hA0;go_enter Tryz.func87,Tryz.ntmps87
    go_wp2
    go_loop [11] (fun i=>i= .int .i64 0) (fun _=>0)
    case atStart=>rfl
    case round=>
     subst hrel;go_wp2
     go_ret
     exact ⟨za0 (by rw [E.out];simp),Below.refl _ _⟩
   ·have hp:0<A.length:=List.length_pos_iff.2 hA0;have t0:¬ (A.length:Int)≤0:=by omega
    have t1:¬ (A.length:Int)<0:=by omega
    have t2:(0:Int)<(A.length:Int):=by omega
    go_enter Tryz.func87,Tryz.ntmps87
    go_wp2
    go_loop [11] (fun i=>i= .int .i64 0) (fun _=>0)
    case atStart=>rfl
    case round=>
     subst hrel;go_wp2
     go_ret
     exact ⟨za0 (by rw [E.out];simp),Below.refl _ _⟩
 ·rcases hu with ⟨_,rfl⟩|⟨b,o,cap,rfl,hb,hcb⟩
  ·simp at h0
  rcases hv with ⟨_,rfl⟩|⟨b',o',cap',rfl,hb',hca⟩
  ·simp at h0
  have HA:=hide hca;have HB:=hide hcb;clear hca hcb h0;have HS:Hid (Pl.za3 A B=Pl.za3 (A.drop 0) (B.drop 0)):=rfl;have HT:Hid (∀k a b,A[k]? =some a→B[k]? =some b→a=b→Pl.za3 (A.drop k) (B.drop k)=Pl.za3 (A.drop (k+1)) (B.drop (k+1))):=fun k a b h1 h2 h3=>Pl.less_same h1 h2 h3;have HF:Hid (∀k a b,A[k]? =some a→B[k]? =some b→a≠b→Pl.za3 (A.drop k) (B.drop k)=Op.bytesLess a.toList b.toList):=fun k a b h1 h2 h3=>Pl.ya5 h1 h2 h3;generalize Pl.za3 A B=R at HS ⊢;by_cases hAB:A.length≤B.length
  ·have t0:(A.length:Int)≤(B.length:Int):=by omega
   go_enter Tryz.func87,Tryz.ntmps87
   go_wp2
   go_loopw [11] (fun i wr=>∃k:Nat,k≤A.length∧i= .int .i64 (k:Int)∧Below w.heap.size w wr∧Hid (R=Pl.za3 (A.drop k) (B.drop k))) (fun i _=>A.length - (intOf i).toNat)
   case atStart=>exact ⟨0,Nat.zero_le _,rfl,Below.refl _ _,HS⟩
   case round=>
    obtain ⟨k,hk,rfl,hbel,HR⟩:=hrel;by_cases hlt:k<A.length
    ·obtain ⟨y,hy⟩:∃y,B[k]? =some y:=⟨_,List.getElem?_eq_getElem (by omega)⟩;obtain ⟨x,hx⟩:∃x,A[k]? =some x:=⟨_,List.getElem?_eq_getElem (by omega)⟩;have hc1:wr.cell? ⟨b,o+k,none⟩=some (.string y):=(hbel.cell (p:=⟨b,o+k,none⟩) hb).trans (HB.out k y hy);have hc2:wr.cell? ⟨b',o'+k,none⟩=some (.string x):=(hbel.cell (p:=⟨b',o'+k,none⟩) hb').trans (HA.out k x hx);have u1:(k:Int)<(A.length:Int):=by omega
     have u2:(k:Int)<(B.length:Int):=by omega
     have u3:(0:Int)≤(k:Int):=by omega
     by_cases hxy:x=y
     ·have t2:=Pl.zw0 hxy;have HR2:Hid (R=Pl.za3 (A.drop (k+1)) (B.drop (k+1))):=HR.out.trans (HT.out k x y hx hy hxy);clear hx hy HR hxy;go_wp2
      go_quiet (fail)
      go_wp2
      go_roundw
      case rel=>exact ⟨k+1,by omega,by go_num,Mem.below_drewN hbel _,HR2⟩
      case measure=>simp [intOf];omega
     ·have t2:=Pl.zr4 hxy;have E:Hid (R=Op.bytesLess x.toList y.toList):=HR.out.trans (HF.out k x y hx hy hxy);clear hx hy HR hxy;go_wp2
      go_quiet (fail)
      go_wp2
      go_quiet (fail)
      go_wp2
      go_ret
      exact ⟨za0 E.out.symm,Mem.below_drewN (Mem.below_drewN hbel _) _⟩
    ·obtain rfl:k=A.length:=by omega
     have E:Hid (R=decide (A.length<B.length)):=HR.out.trans (HE.out _ (by omega));clear HR;go_wp2
     go_ret
     exact ⟨za0 (by rw [E.out]),hbel⟩
  ·have t0:¬ (A.length:Int)≤(B.length:Int):=by omega
   have t9:(B.length:Int)<(A.length:Int):=by omega
   go_enter Tryz.func87,Tryz.ntmps87
   go_wp2
   go_loopw [11] (fun i wr=>∃k:Nat,k≤B.length∧i= .int .i64 (k:Int)∧Below w.heap.size w wr∧Hid (R=Pl.za3 (A.drop k) (B.drop k))) (fun i _=>B.length - (intOf i).toNat)
   case atStart=>exact ⟨0,Nat.zero_le _,rfl,Below.refl _ _,HS⟩
   case round=>
    obtain ⟨k,hk,rfl,hbel,HR⟩:=hrel;by_cases hlt:k<B.length
    ·obtain ⟨y,hy⟩:∃y,B[k]? =some y:=⟨_,List.getElem?_eq_getElem (by omega)⟩;obtain ⟨x,hx⟩:∃x,A[k]? =some x:=⟨_,List.getElem?_eq_getElem (by omega)⟩;have hc1:wr.cell? ⟨b,o+k,none⟩=some (.string y):=(hbel.cell (p:=⟨b,o+k,none⟩) hb).trans (HB.out k y hy);have hc2:wr.cell? ⟨b',o'+k,none⟩=some (.string x):=(hbel.cell (p:=⟨b',o'+k,none⟩) hb').trans (HA.out k x hx);have u1:(k:Int)<(A.length:Int):=by omega
     have u2:(k:Int)<(B.length:Int):=by omega
     have u3:(0:Int)≤(k:Int):=by omega
     by_cases hxy:x=y
     ·have t2:=Pl.zw0 hxy;have HR2:Hid (R=Pl.za3 (A.drop (k+1)) (B.drop (k+1))):=HR.out.trans (HT.out k x y hx hy hxy);clear hx hy HR hxy;go_wp2
      go_quiet (fail)
      go_wp2
      go_roundw
      case rel=>exact ⟨k+1,by omega,by go_num,Mem.below_drewN hbel _,HR2⟩
      case measure=>simp [intOf];omega
     ·have t2:=Pl.zr4 hxy;have E:Hid (R=Op.bytesLess x.toList y.toList):=HR.out.trans (HF.out k x y hx hy hxy);clear hx hy HR hxy;go_wp2
      go_quiet (fail)
      go_wp2
      go_quiet (fail)
      go_wp2
      go_ret
      exact ⟨za0 E.out.symm,Mem.below_drewN (Mem.below_drewN hbel _) _⟩
    ·obtain rfl:k=B.length:=by omega
     have E:Hid (R=decide (A.length<B.length)):=HR.out.trans (HE.out _ (by omega));clear HR;go_wp2
     go_ret
     exact ⟨za0 (by rw [E.out]),hbel⟩

set_option maxRecDepth 100000 in
theorem zw7 (p t:ByteArray) (w:World) (hp:p.size≤1048576) (ht:t.size≤1048576):
  Calls Tryz.prog 61 #[.string p, .string t] w fun e w'=>e= .returned (.bool (Pl.za2 p&&Pl.za2 t&&Pl.za3 (Pl.zb7 p) (Pl.zb7 t)))∧Below w.heap.size w w':=by
 have hn:=hide (fun W=>WUnder.both_any p t W hp ht);have hA:=hide (Pl.zq p);have hB:=hide (Pl.zq t);generalize (Pl.za2 p&&Pl.za2 t)=r at hn ⊢;generalize Pl.zb7 p=A at hn hA ⊢;generalize Pl.zb7 t=B at hn hB ⊢;cases r
 ·go_enter Tryz.func61,Tryz.ntmps61
  go_wp2_with fail
  refine (za hn _).mono ?_;rintro e w1 ⟨v1,v2,m,rfl, -, -, -, -,hb⟩;go_wp2
  go_ret
  exact ⟨rfl,hb⟩
 ·go_enter Tryz.func61,Tryz.ntmps61
  go_wp2_with fail
  refine (za hn _).mono ?_;rintro e w1 ⟨v1,v2,m,rfl,h1,h2,h3,h4,hb⟩;have i1:=hide (Mem.zo6 h2);have i2:=hide (Mem.zo6 h4);clear h2 h4 h3 hn;go_wp2_with fail
  refine (ahead_any _ _ A B _ (by have :=(za hA).2;omega) (by have :=(za hB).2;omega) (za i1) (za i2)).mono ?_;rintro e w2 ⟨rfl,hb2⟩;have hb3:=hb.trans (hb2.mono hb.size);generalize hr:Pl.za3 A B=r2;have HR:=hide hr;clear hr hb hb2;go_wp2
  go_ret
  exact ⟨by rw [za HR];rfl,hb3⟩
end WLess
end
section
open Go.RowKit
namespace WJoin
theorem Tryz.one8 (w:World):(sizeOf 5).run Tryz.prog w= .ok 1 w:=by kernel_rfl
theorem Tryz.info8j:(Tryz.prog.info? 5).map (fun i=>(i.zero,i.size,i.bytes))=some (some (.int .u8 0),1,1):=by kernel_rfl

set_option maxRecDepth 100000 in
set_option maxHeartbeats 400000 in
theorem any (b o cap:Nat) (ts:List ByteArray) (w:World) (hn:ts.length≤1000000) (ht:Pl.tot ts≤1000000000)
  (hcell:∀j t,ts[j]? =some t→w.cell? ⟨b,o+j,none⟩=some (.string t)) (hb:b<w.heap.size):
  Calls Tryz.prog 41 #[.slice (some ⟨b,o,none⟩) ts.length cap] w fun e w'=>e= .returned (.string ⟨(Pl.cat ts).toArray⟩)∧Below w.heap.size w w':=by
 have HC:=hide hcell;clear hcell;go_enter Tryz.func41,Tryz.ntmps41
 go_wp2
 go_loop [3,12] (fun n i=>∃k:Nat,k≤ts.length∧i= .int .i64 k∧n= .int .i64 (Pl.tot (ts.take k):Nat)) (fun _ i=>ts.length - (intOf i).toNat)
 case atStart=>exact ⟨0,Nat.zero_le _,rfl,rfl⟩
 case round=>
  obtain ⟨k,hk,rfl,rfl⟩:=hrel;by_cases hlt:k<ts.length
  ·obtain ⟨t,hkt⟩:∃t,ts[k]? =some t:=⟨_,List.getElem?_eq_getElem hlt⟩;have hc:=za HC k t hkt;have H1:=hide (Pl.tot_snoc ts k t hkt);have h1:=Pl.tot_le ts (k+1);have h2:Pl.tot (ts.take k)+t.size≤1000000000:=by have :=za H1;omega
   clear hkt h1;go_wp2
   go_round
   case rel=>exact ⟨k+1,by omega,by go_num,by rw [za H1];go_num⟩
   case measure=>simp [intOf];omega
  ·have HE:Hid (Pl.tot (ts.take k)=Pl.tot ts):=by
    show _=_;rw [List.take_of_length_le (by omega)]
   have hmk:=Mem.make_bytes (P:=Tryz.prog) Tryz.underlying128 Tryz.info8j (Pl.tot ts) ht w;rw [HE.out];go_wp2
   go_loopw [7,25] (fun p i wr=>∃ (k:Nat) (cur:Array Value),k≤ts.length∧i= .int .i64 k∧p= .int .i64 (Pl.tot (ts.take k):Nat)∧wr.heap[w.heap.size]? =some (.cells cur 5 (0,0))∧cur.size=Pl.tot ts∧
     Hid (cur.toList.take (Pl.tot (ts.take k))=(Pl.cat (ts.take k)).map Pl.zd6)∧Below w.heap.size w wr) (fun _ i _=>ts.length - (intOf i).toNat)
   case atStart=>exact ⟨0,Mem.zeros (Pl.tot ts),Nat.zero_le _,rfl,rfl,heap_alloc_new w _,Mem.zeros_size _,rfl,(Below.refl _ _).alloc (Nat.le_refl _) _⟩
   case round=>
    obtain ⟨k,cur,hk,rfl,rfl,hrow,hcs,HP,hbel⟩:=hrel;by_cases hlt:k<ts.length
    ·obtain ⟨t,hkt⟩:∃t,ts[k]? =some t:=⟨_,List.getElem?_eq_getElem hlt⟩;have hc:wr.cell? ⟨b,o+k,none⟩=some (.string t):=(hbel.cell (p:=⟨b,o+k,none⟩) hb).trans (za HC k t hkt);have H1:=hide (Pl.tot_snoc ts k t hkt);have h1:=Pl.tot_le ts (k+1);have h2:Pl.tot (ts.take k)+t.size≤Pl.tot ts:=by have :=za H1;omega
     have HS:=hide (Pl.part_step hkt HP.out);obtain ⟨D,w2,hsl,hcp,hrow2,hbel2⟩:=Mem.copy_on (P:=Tryz.prog) (sT:=9) Tryz.underlying128 Tryz.one8 wr w.heap.size (Pl.tot (ts.take k)) (Pl.tot ts) cur hrow hcs t h2;have HROW2:=hide hrow2;have HB2:=hide (hbel.trans hbel2)
     have hsz:Hid ((cur.toList.take (Pl.tot (ts.take k))++t.data.toList.map Pl.zd6++cur.toList.drop (Pl.tot (ts.take k)+t.size)).toArray.size=Pl.tot ts):=by
      show _=_;have :t.data.size=t.size:=rfl;simp [this]
      omega
     clear hkt h1 hrow hrow2 hbel2 hbel;go_wp2
     go_roundw
     case rel=>exact ⟨k+1,_,by omega,by go_num,by rw [za H1];go_num,HROW2,hsz,HS,HB2⟩
     case measure=>simp [intOf];omega
    ·have HE2:Hid (Pl.cat (ts.take k)=Pl.cat ts∧Pl.tot (ts.take k)=Pl.tot ts):=by
      show _∧_;rw [List.take_of_length_le (by omega)];exact ⟨rfl,rfl⟩
     have hp:cur.toList.take (Pl.tot ts)=(Pl.cat ts).map Pl.zd6:=by have :=HP.out;rwa [HE2.out.1,HE2.out.2] at this
     have hcv:=Mem.row_text (P:=Tryz.prog) (cap:=Pl.tot ts) Tryz.underlying128 Tryz.underlying5 Tryz.underlying9 (Pl.cat ts) (Pl.zu6 ts) hrow hp;clear hp hrow;go_wp2
     go_ret
     exact ⟨rfl,hbel⟩
end WJoin
end
section
open Go.RowKit
namespace Pl
def zb5 (ts:List ByteArray):Nat→List ByteArray
 |0=>[]
 |k+1=>zb5 ts k++(if k=0 then [] else [⟨#[47]⟩])++[ts.getD k ⟨#[]⟩]
theorem glueL_snoc (A:List (List UInt8)) (a:List UInt8):ze1 (A++[a])=ze1 A++(if A=[] then [] else [47])++a:=by
 by_cases h:A=[]
 ·subst h;rfl
 ·rw [glueL_append h (by simp),if_neg h];simp [ze1]
theorem yb8 (A B:List ByteArray):cat (A++B)=cat A++cat B:=by simp [cat]
theorem parts_cat (ts:List ByteArray):∀k,k≤ts.length→cat (zb5 ts k)=ze1 ((ts.take k).map by_):=by
 intro k
 induction k with
 |zero=>intro _;rfl
 |succ k ih=>
  intro hk;have hlt:k<ts.length:=by omega
  rw [zb5,yb8,yb8,ih (by omega),List.take_add_one,List.getElem?_eq_getElem hlt,Option.toList_some,List.map_append,List.map_cons,List.map_nil,glueL_snoc,cat_one];have h1:ts.getD k ⟨#[]⟩=ts[k]:=by simp [List.getD_eq_getElem?_getD,List.getElem?_eq_getElem hlt]
  rw [h1]
  have h2:cat (if k=0 then [] else [(⟨#[47]⟩:ByteArray)])=if (ts.take k).map by_=[] then [] else [47]:=by
   by_cases h0:k=0
   ·subst h0;rfl
   ·rw [if_neg h0,if_neg (by simp;exact ⟨h0,by intro e;subst e;simp at hlt⟩)];rfl
  rw [h2];rfl
theorem parts_glue (ts:List ByteArray):(⟨(cat (zb5 ts ts.length)).toArray⟩:ByteArray)=glue ts:=by
 rw [parts_cat ts _ (Nat.le_refl _),List.take_length];rfl
theorem parts_tot (ts:List ByteArray):tot (zb5 ts ts.length)=(glue ts).size:=by
 rw [←zu6,parts_cat ts _ (Nat.le_refl _),List.take_length,←zt5,zg6]
theorem parts_length (ts:List ByteArray):∀k,(zb5 ts k).length≤2*k:=by
 intro k
 induction k with
 |zero=>simp [zb5]
 |succ k ih=>
  rw [zb5];by_cases h:k=0
  ·simp [h,zb5]
  ·simp [h];omega
theorem parts_first {ts:List ByteArray} {t:ByteArray} (ht:ts[0]? =some t):zb5 ts 1=zb5 ts 0++[t]:=by
 simp [zb5,List.getD_eq_getElem?_getD,ht]
theorem parts_next {ts:List ByteArray} {k:Nat} {t:ByteArray} (hk:k≠0) (ht:ts[k]? =some t):zb5 ts (k+1)=(zb5 ts k++[⟨#[47]⟩])++[t]:=by
 simp [zb5,List.getD_eq_getElem?_getD,ht,hk]
end Pl
namespace WPathOf
theorem make12 (w:World):(Instr.makeSlice 127 (.int .i64 0) (.int .i64 12)).run Tryz.prog w= .ok (.slice (some ⟨w.heap.size,0,none⟩) 0 12) (w.alloc (.cells (madeCells (Value.string ⟨#[]⟩).cells 12) 9)):=by
 obtain ⟨i0,h0,h1,h2,h3⟩:=info_parts WWords.infoS;have h:=run_make (P:=Tryz.prog) w 127 9 i0 (.string ⟨#[]⟩) Tryz.underlying127 h0 h1 .i64 .i64 0 12 (by omega) (by omega) (by rw [h3];omega) (by omega);rw [h];simp [h2]

set_option maxRecDepth 100000 in
set_option maxHeartbeats 400000 in
theorem any (v:Value) (ts:List ByteArray) (w:World) (hn:ts.length≤1000) (hg:(Pl.glue ts).size≤1000000) (hv:Mem.zm w v ts):
  Calls Tryz.prog 143 #[v] w fun e w'=>e= .returned (.string (Pl.glue ts))∧Below w.heap.size w w':=by
 obtain ⟨i0,hi,hz0,hz1,hz2⟩:=info_parts WWords.infoS;have hmk:=make12;have H0:Hid ((⟨(Pl.cat (Pl.zb5 ts ts.length)).toArray⟩:ByteArray)=Pl.glue ts):=Pl.parts_glue ts;have H1:Hid (Pl.tot (Pl.zb5 ts ts.length)≤1000000000):=by have :=Pl.parts_tot ts;show _≤_;omega
 by_cases hts:ts=[]
 ·subst hts
  have hv2:∃a cap,v= .slice a 0 cap:=by
   rcases hv with ⟨rfl,_⟩|⟨b,o,cap,rfl,_⟩
   ·exact ⟨_,_,rfl⟩
   ·exact ⟨_,_,rfl⟩
  obtain ⟨a,cap,rfl⟩:=hv2;go_enter Tryz.func143,Tryz.ntmps143
  go_wp2
  go_loop [3,9] (fun p i=>p= .slice (some ⟨w.heap.size,0,none⟩) 0 12∧i= .int .i64 0) (fun _ _=>0)
  case atStart=>exact ⟨rfl,rfl⟩
  case round=>
   obtain ⟨rfl,rfl⟩:=hrel;go_wp2_with fail
   refine (WJoin.any w.heap.size 0 12 [] _ (by simp) (by simp [Pl.tot]) (fun j t h=>by simp at h) (by simp)).mono ?_;rintro e w1 ⟨rfl,hb1⟩;go_wp2
   go_ret
   exact ⟨rfl,((Below.refl _ _).alloc (Nat.le_refl _) _).trans (hb1.mono (by simp))⟩
 have hpos:0<ts.length:=List.length_pos_iff.2 hts
 have HNE:Hid (Pl.zb5 ts ts.length≠[]):=by
  intro h;obtain ⟨n,hn⟩:∃n,ts.length=n+1:=⟨ts.length - 1,by omega⟩;rw [hn,Pl.zb5] at h;simp at h
 rcases hv with ⟨rfl,rfl⟩|⟨b,o,cap,rfl,hb,hcell⟩
 ·exact absurd rfl hts
 ·have HC:=hide hcell;clear hcell;go_enter Tryz.func143,Tryz.ntmps143
  go_wp2
  go_loopw [3,9] (fun p i wr=>∃k:Nat,k≤ts.length∧i= .int .i64 (k:Int)∧wr.ownsRow w.heap.size 9 1 p (Pl.zb5 ts k).length ((Pl.zb5 ts k).map Value.string)∧Below w.heap.size w wr) (fun _ i _=>ts.length - (intOf i).toNat)
  case atStart=>exact ⟨0,Nat.zero_le _,rfl,World.ownsRow_made _ _ 12 (Nat.le_refl _) (by unfold maxLen;omega) (size_madeCells _ _),(Below.refl _ _).alloc (Nat.le_refl _) _⟩
  case round=>
   obtain ⟨k,hk,rfl,hown,hbel⟩:=hrel;have hb1:=hbel.size;have hpl:=Pl.parts_length ts k;by_cases hlt:k<ts.length
   ·obtain ⟨t,hkt⟩:∃t,ts[k]? =some t:=⟨_,List.getElem?_eq_getElem hlt⟩;have hc:wr.cell? ⟨b,o+k,none⟩=some (.string t):=(hbel.cell (p:=⟨b,o+k,none⟩) hb).trans (za HC k t hkt);by_cases h0:k=0
    ·have HS:Hid (Pl.zb5 ts (k+1)=Pl.zb5 ts k++[t]):=by subst h0;exact Pl.parts_first hkt
     have hp:¬ (0:Int)<(k:Int):=by omega
     clear hkt h0;go_wp2_with (at_builtin;refine wpList_append_own _ rfl _ _ 127 rfl w.heap.size 9 i0 (.string ⟨#[]⟩) 1 16 Tryz.underlying127 hi hz0 hz1 hz2 rfl (by decide) _ _ _ rfl (hown.alloc _) ⟨wr.heap.size,0,none⟩ 1 1 [.string t] rfl rfl (Mem.zo0 _ _ _) (Mem.one_str _) (by unfold maxLen;omega) (by omega) (by simp;omega) ?_)
     ·intro v' w2 hown' hgrow _;have hbel':=Mem.zg9 hbel (Nat.le_refl _) hown hgrow
      have hown2:Hid (w2.ownsRow w.heap.size 9 1 v' (Pl.zb5 ts (k+1)).length ((Pl.zb5 ts (k+1)).map Value.string)):=by
       show World.ownsRow _ _ _ _ _ _ _;rw [za HS];simpa using hown'
      clear hgrow hown hbel hown' hc;go_wp2
      go_roundw
      case rel=>exact ⟨k+1,by omega,by go_num,hown2,hbel'⟩
      case measure=>simp [intOf];omega
    ·have HS:=hide (Pl.parts_next h0 hkt);have hp:(0:Int)<(k:Int):=by omega
     clear hkt;go_wp2_with (at_builtin;refine wpList_append_own _ rfl _ _ 127 rfl w.heap.size 9 i0 (.string ⟨#[]⟩) 1 16 Tryz.underlying127 hi hz0 hz1 hz2 rfl (by decide) _ _ _ rfl (hown.alloc _) ⟨wr.heap.size,0,none⟩ 1 1 [.string ⟨#[47]⟩] rfl rfl (Mem.zo0 _ _ _) (Mem.one_str _) (by unfold maxLen;omega) (by omega) (by simp;omega) ?_)
     ·intro v1 w1 hown' hgrow _;have hbel':=Mem.zg9 hbel (Nat.le_refl _) hown hgrow;have hown1:w1.ownsRow w.heap.size 9 1 v1 (Pl.zb5 ts k++[(⟨#[47]⟩:ByteArray)]).length ((Pl.zb5 ts k++[(⟨#[47]⟩:ByteArray)]).map Value.string):=by simpa using hown'
      have hb2:=hbel'.size;have hl2:(Pl.zb5 ts k++[(⟨#[47]⟩:ByteArray)]).length≤2*k+1:=by simp;omega
      clear hgrow hown hbel hown' hc hpl;go_wp2_with (at_builtin;refine wpList_append_own _ rfl _ _ 127 rfl w.heap.size 9 i0 (.string ⟨#[]⟩) 1 16 Tryz.underlying127 hi hz0 hz1 hz2 rfl (by decide) _ _ _ rfl (hown1.alloc _) ⟨w1.heap.size,0,none⟩ 1 1 [.string t] rfl rfl (Mem.zo0 _ _ _) (Mem.one_str _) (by unfold maxLen;omega) (by omega) (by simp;omega) ?_)
      ·intro v' w2 hown' hgrow _;have hbel2:=Mem.zg9 hbel' (Nat.le_refl _) hown1 hgrow
       have hown2:Hid (w2.ownsRow w.heap.size 9 1 v' (Pl.zb5 ts (k+1)).length ((Pl.zb5 ts (k+1)).map Value.string)):=by
        show World.ownsRow _ _ _ _ _ _ _;rw [za HS];simpa using hown'
       clear hgrow hown1 hbel' hown';go_wp2
       go_roundw
       case rel=>exact ⟨k+1,by omega,by go_num,hown2,hbel2⟩
       case measure=>simp [intOf];omega
   ·obtain rfl:k=ts.length:=by omega
    rcases Mem.zo6 hown with ⟨rfl,hnil⟩|⟨g,o',cap',rfl,hgl,hcell'⟩
    ·exact absurd hnil HNE.out
    ·have HC':=hide hcell';clear hcell' hown;go_wp2_with fail
     refine (WJoin.any g o' cap' (Pl.zb5 ts ts.length) _ (by omega) H1.out HC'.out hgl).mono ?_;rintro e w1 ⟨rfl,hb1⟩;go_wp2
     go_ret
     exact ⟨by rw [H0.out];rfl,hbel.trans (hb1.mono (by omega))⟩
end WPathOf
end
end Go.Proofs.YtggadpalljhiaaaGreatDoor
