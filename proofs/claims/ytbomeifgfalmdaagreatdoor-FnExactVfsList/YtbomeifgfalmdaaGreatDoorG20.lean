/- Several texts of one claim in one file: WSpI2, WBothI, WLess. -/
import Derived.Laws.AppendOwnNone
import Derived.Test.YtbomeifgfalmdaaGreatDoorG04
set_option linter.unusedSimpArgs false
set_option maxRecDepth 100000
set_option maxHeartbeats 800000
namespace Go.Proofs.YtbomeifgfalmdaaGreatDoor
section
open Go.RowKit
namespace Pl
def idxF {α:Type} (f:α→Bool):List α→Int
 | []=> -1
 |x::r=>if f x then 0 else (if idxF f r<0 then -1 else idxF f r+1)
theorem idx_at {α:Type} {f:α→Bool} {l:List α} {k:Nat} {x:α} (h:l[k]? =some x) (hx:f x=true) (hn:∀ (j:Nat) y,j<k→l[j]? =some y→f y=false):idxF f l=(k:Int):=by
 induction l generalizing k with
 |nil=>simp at h
 |cons y r ih=>
  rw [idxF];cases k with
  |zero=>simp at h;subst h;rw [if_pos hx];rfl
  |succ k=>
   have h0:f y=false:=hn 0 y (by omega) rfl;have :=ih (k:=k) (by simpa using h) (fun j z hj hz=>hn (j+1) z (by omega) (by simpa using hz));rw [if_neg (by simp [h0]),this,if_neg (by omega)];omega
theorem idx_no {α:Type} {f:α→Bool} {l:List α} (hn:∀ (j:Nat) y,l[j]? =some y→f y=false):idxF f l= -1:=by
 induction l with
 |nil=>rfl
 |cons y r ih=>
  have h0:f y=false:=hn 0 y rfl;have :=ih (fun j z hz=>hn (j+1) z (by simpa using hz));rw [idxF,if_neg (by simp [h0]),this];rfl
theorem idx_any {α:Type} (f:α→Bool) (l:List α):decide (0≤idxF f l)=l.any f:=by
 induction l with
 |nil=>rfl
 |cons y r ih=>
  rw [idxF,List.any_cons];cases h:f y
  ·rw [if_neg (by simp),Bool.false_or,←ih]
   split
   ·rename_i h2;rw [decide_eq_decide];omega
   ·rename_i h2;rw [decide_eq_decide];omega
  ·rfl
end Pl
namespace WSpI
theorem index_any (K:FuncId) (c:Value) (f:Pl.Mn→Bool) (a:Option Addr) (cap:Nat) (M:List Pl.Mn) (w:World) (hl:M.length≤1048576) (hv:Mem.zc6 w a M)
  (hE:∀ (t:Pl.Mn) W,(callFunc K #[.agg #[.string t.p, .int .i64 t.i, .bool t.z],c]).run Tryz.prog W= .ok (.enter K #[.agg #[.string t.p, .int .i64 t.i, .bool t.z],c]) W)
  (hK:∀t∈M,∀W,Below w.heap.size w W→Calls Tryz.prog K #[.agg #[.string t.p, .int .i64 t.i, .bool t.z],c] W fun e w'=>e= .returned (.bool (f t))∧Below W.heap.size W w'):
  Calls Tryz.prog 172 #[.slice a M.length cap, .func (.func K) #[] #[c]] w fun e w'=>e= .returned (.int .i64 (Pl.idxF f M))∧Below w.heap.size w w':=by
 have HX:=hide hv;have HK:=hide hK;have HAT:=hide (fun (k:Nat) (x:Pl.Mn)=>Pl.idx_at (f:=f) (l:=M) (k:=k) (x:=x));have HNO:=hide (Pl.idx_no (f:=f) (l:=M));generalize Pl.idxF f M=R at HAT HNO ⊢;clear hv hK;go_enter Tryz.func172,Tryz.ntmps172
 go_wp2
 go_loopw [8] (fun i wr=>∃k:Nat,k≤M.length∧i= .int .i64 (k:Int)∧Below w.heap.size w wr∧Hid (∀ (j:Nat) y,j<k→M[j]? =some y→f y=false)) (fun i _=>M.length - (intOf i).toNat)
 case atStart=>exact ⟨0,Nat.zero_le _,rfl,Below.refl _ _,fun j y h=>absurd h (by omega)⟩
 case round=>
  obtain ⟨k,hk,rfl,hbel,HA⟩:=hrel;by_cases hlt:k<M.length
  ·obtain ⟨t,ht⟩:∃n,M[k]? =some n:=⟨_,List.getElem?_eq_getElem hlt⟩;obtain ⟨g,o,rfl,hg,q0,q1,q2⟩:=(za HX) k t ht;have c0:=(hbel.cell (p:=⟨g,_,none⟩) hg).trans q0;have c1:=(hbel.cell (p:=⟨g,_,none⟩) hg).trans q1;have c2:=(hbel.cell (p:=⟨g,_,none⟩) hg).trans q2;have u1:(k:Int)<(M.length:Int):=by omega
   have u3:(0:Int)≤(k:Int):=by omega
   have hc:=hide (za HK t (List.mem_of_getElem? ht) wr hbel);have HT:=hide ht;have hE1:=hE t;clear q0 q1 q2 ht;go_wp2_with fail
   refine (za hc).mono ?_;rintro e w1 ⟨rfl,bX⟩;have b1:=hbel.trans (bX.mono hbel.size);cases hf:f t
   ·have HA2:Hid (∀ (j:Nat) y,j<k+1→M[j]? =some y→f y=false):=fun j y hj hy=>by
     rcases Nat.lt_succ_iff_lt_or_eq.1 hj with h|h
     ·exact za HA j y h hy
     ·subst h;rw [za HT] at hy;cases hy;exact hf
    go_wp2
    go_roundw
    case rel=>exact ⟨k+1,by omega,by go_num,b1,HA2⟩
    case measure=>simp [intOf];omega
   ·have e0:=hide (za HAT k t (za HT) hf (za HA));go_wp2
    go_ret
    exact ⟨by rw [za e0];rfl,b1⟩
  ·have u1:¬ (k:Int)<(M.length:Int):=by omega
   have e0:=hide (za HNO (fun j y hy=>za HA j y (by have :=(List.getElem?_eq_some_iff.1 hy).1;omega) hy));go_wp2
   go_ret
   exact ⟨by rw [za e0];rfl,hbel⟩
theorem contains_any (K:FuncId) (c:Value) (f:Pl.Mn→Bool) (a:Option Addr) (cap:Nat) (M:List Pl.Mn) (w:World) (hl:M.length≤1048576) (hv:Mem.zc6 w a M)
  (hE:∀ (t:Pl.Mn) W,(callFunc K #[.agg #[.string t.p, .int .i64 t.i, .bool t.z],c]).run Tryz.prog W= .ok (.enter K #[.agg #[.string t.p, .int .i64 t.i, .bool t.z],c]) W)
  (hK:∀t∈M,∀W,Below w.heap.size w W→Calls Tryz.prog K #[.agg #[.string t.p, .int .i64 t.i, .bool t.z],c] W fun e w'=>e= .returned (.bool (f t))∧Below W.heap.size W w'):
  Calls Tryz.prog 158 #[.slice a M.length cap, .func (.func K) #[] #[c]] w fun e w'=>e= .returned (.bool (M.any f))∧Below w.heap.size w w':=by
 have hi:=hide (index_any K c f a cap M w hl hv hE hK);have HA:=hide (Pl.idx_any f M);generalize Pl.idxF f M=R at hi HA;generalize M.any f=B at HA ⊢;clear hE hK hv;go_enter Tryz.func158,Tryz.ntmps158
 go_wp2_with fail
 refine (za hi).mono ?_;rintro e w1 ⟨rfl,bX⟩;go_wp2
 go_ret
 exact ⟨by rw [←za HA];rfl,bX⟩
def other (m o:Pl.Mn):Bool:= !(decide (o.p=m.p)&&decide (o.i=m.i)&&decide (o.z=m.z))&&decide (o.i=m.i)
theorem other_any (m o:Pl.Mn) (X:Nat) (w:World) (hX:Mem.Blk w X #[.string m.p, .int .i64 m.i, .bool m.z] 49):
  Calls Tryz.prog 159 #[.agg #[.string o.p, .int .i64 o.i, .bool o.z], .pointer (some ⟨X,0,none⟩)] w fun e w'=>e= .returned (.bool (other m o))∧Below w.heap.size w w':=by
 have b0:=(Below.refl w.heap.size w).alloc (o:= .cells #[.string o.p, .int .i64 o.i, .bool o.z] 49) (Nat.le_refl _);have V:=Mem.Blk.new w #[.string o.p, .int .i64 o.i, .bool o.z] 49;have Y:=hX.alloc (.cells #[.string o.p, .int .i64 o.i, .bool o.z] 49);obtain ⟨a0,a1,a2⟩:=jc3 V;obtain ⟨y0,y1,y2⟩:=jc3 Y;clear V Y hX;obtain ⟨op,oi,oz⟩:=o;obtain ⟨mp,mi,mz⟩:=m;simp only at a0 a1 a2 y0 y1 y2 b0 ⊢;by_cases hi:oi=mi
 ·subst hi;by_cases hp:op=mp
  ·subst hp;by_cases hz:oz=mz
   ·subst hz;have e0:other ⟨op,oi,oz⟩ ⟨op,oi,oz⟩=false:=by simp [other]
    rw [e0];go_enter Tryz.func159,Tryz.ntmps159
    go_wp2
    go_ret
    exact ⟨rfl,b0⟩
   ·have e0:other ⟨op,oi,mz⟩ ⟨op,oi,oz⟩=true:=by simp [other,hz]
    rw [e0];have hz1:(oz==mz)=false:=by simpa using hz
    go_enter Tryz.func159,Tryz.ntmps159
    go_wp2
    go_ret
    exact ⟨rfl,b0⟩
  ·have e0:other ⟨mp,oi,mz⟩ ⟨op,oi,oz⟩=true:=by simp [other,hp]
   rw [e0];have hp1:=Pl.zj8 hp;go_enter Tryz.func159,Tryz.ntmps159
   go_wp2
   go_ret
   exact ⟨rfl,b0⟩
 ·have e0:other ⟨mp,mi,mz⟩ ⟨op,oi,oz⟩=false:=by simp [other,hi]
  rw [e0];have hi1:(oi==mi)=false:=by simpa using hi
  go_enter Tryz.func159,Tryz.ntmps159
  go_wp2
  go_ret
  exact ⟨rfl,b0⟩
end WSpI
end
section
open Go.RowKit
namespace zw2
theorem both_any (a b:ByteArray) (w:World) (ha:a.size≤1048576) (hb:b.size≤1048576):
  Calls Tryz.prog 139 #[.string a, .string b] w fun e w'=>∃v1 v2 m,e= .returned (.tuple #[v1,v2, .bool (Pl.za0 a&&Pl.za0 b)])∧w.heap.size≤m∧
   w'.ownsRow w.heap.size 9 1 v1 (Pl.za6 a).length ((Pl.za6 a).map Value.string)∧(∀k,v1.ownBlock=some k→k<m)∧
   w'.ownsRow m 9 1 v2 (Pl.za6 b).length ((Pl.za6 b).map Value.string)∧Below w.heap.size w w':=by
 have hn1:=hide (fun W=>zu6.any a W ha);have hn2:=hide (fun W=>zu6.any b W hb);generalize Pl.za0 a=r1 at hn1 ⊢;generalize Pl.za0 b=r2 at hn2 ⊢;generalize Pl.za6 a=A at hn1 ⊢;generalize Pl.za6 b=B at hn2 ⊢;cases r1 <;> cases r2
 all_goals
  go_enter Tryz.func139,Tryz.ntmps139
  go_wp2_with fail
  refine (za hn1 _).mono ?_;rintro e w1 ⟨v1,rfl,hown1,hb1⟩;have HO1:=hide hown1;clear hown1;go_wp2_with fail
  refine (za hn2 _).mono ?_;rintro e w2 ⟨v2,rfl,hown2,hb2⟩;have HO2:=hide hown2;clear hown2
  have H:Hid (∃m,w.heap.size≤m∧w2.ownsRow w.heap.size 9 1 v1 A.length (A.map Value.string)∧(∀k,v1.ownBlock=some k→k<m)∧
    w2.ownsRow m 9 1 v2 B.length (B.map Value.string)∧Below w.heap.size w w2):=
   ⟨w1.heap.size,hb1.size,Mem.zd0 (za HO1) hb2,fun k hk=>((za HO1).lt k hk).2,za HO2,hb1.trans (hb2.mono hb1.size)⟩
  clear hb1 hb2 HO1 HO2;go_wp2
  go_ret3
  obtain ⟨m,h1,h2,h3,h4,h5⟩:=H.out;exact ⟨v1,v2,m,rfl,h1,h2,h3,h4,h5⟩
end zw2
end
section
open Go.RowKit
namespace WLess
theorem ahead_any (v u:Value) (A B:List ByteArray) (w:World) (hA:A.length≤1000) (hB:B.length≤1000) (hv:Mem.zd4 w v A) (hu:Mem.zd4 w u B):
  Calls Tryz.prog 157 #[v,u] w fun e w'=>e= .returned (.bool (Pl.za7 A B))∧Below w.heap.size w w':=by
 have HE:Hid (∀k,k=A.length∧k≤B.length∨k=B.length∧k≤A.length→Pl.za7 (A.drop k) (B.drop k)=decide (A.length<B.length)):=fun k h=>Pl.less_end h;by_cases h0:A=[]∨B=[]
 ·have E:Hid (Pl.za7 A B=decide (A.length<B.length)):=by
   show _=_;have :=HE.out 0 (by rcases h0 with rfl |rfl <;> simp)
   simpa using this
  obtain ⟨va,vc,rfl⟩:=Mem.zj4 hv;obtain ⟨ua,uc,rfl⟩:=Mem.zj4 hu;clear hv hu HE
  rcases h0 with rfl |rfl
  ·have t0:(([]:List ByteArray).length:Int)≤(B.length:Int):=by simp
   go_enter Tryz.func157,Tryz.ntmps157
   go_wp2
   go_loop [11] (fun i=>i= .int .i64 0) (fun _=>0)
   case atStart=>rfl
   case round=>
    subst hrel;go_wp2
    go_ret
    exact ⟨za1 (by rw [E.out];simp),Below.refl _ _⟩
  ·by_cases hA0:A=[]
   ·subst hA0;go_enter Tryz.func157,Tryz.ntmps157
    go_wp2
    go_loop [11] (fun i=>i= .int .i64 0) (fun _=>0)
    case atStart=>rfl
    case round=>
     subst hrel;go_wp2
     go_ret
     exact ⟨za1 (by rw [E.out];simp),Below.refl _ _⟩
   ·have hp:0<A.length:=List.length_pos_iff.2 hA0;have t0:¬ (A.length:Int)≤0:=by omega
    have t1:¬ (A.length:Int)<0:=by omega
    have t2:(0:Int)<(A.length:Int):=by omega
    go_enter Tryz.func157,Tryz.ntmps157
    go_wp2
    go_loop [11] (fun i=>i= .int .i64 0) (fun _=>0)
    case atStart=>rfl
    case round=>
     subst hrel;go_wp2
     go_ret
     exact ⟨za1 (by rw [E.out];simp),Below.refl _ _⟩
 ·rcases hu with ⟨_,rfl⟩|⟨b,o,cap,rfl,hb,hcb⟩
  ·simp at h0
  rcases hv with ⟨_,rfl⟩|⟨b',o',cap',rfl,hb',hca⟩
  ·simp at h0
  have HA:=hide hca;have HB:=hide hcb;clear hca hcb h0;have HS:Hid (Pl.za7 A B=Pl.za7 (A.drop 0) (B.drop 0)):=rfl;have HT:Hid (∀k a b,A[k]? =some a→B[k]? =some b→a=b→Pl.za7 (A.drop k) (B.drop k)=Pl.za7 (A.drop (k+1)) (B.drop (k+1))):=fun k a b h1 h2 h3=>Pl.less_same h1 h2 h3;have HF:Hid (∀k a b,A[k]? =some a→B[k]? =some b→a≠b→Pl.za7 (A.drop k) (B.drop k)=Op.bytesLess a.toList b.toList):=fun k a b h1 h2 h3=>Pl.yi7 h1 h2 h3;generalize Pl.za7 A B=R at HS ⊢;by_cases hAB:A.length≤B.length
  ·have t0:(A.length:Int)≤(B.length:Int):=by omega
   go_enter Tryz.func157,Tryz.ntmps157
   go_wp2
   go_loopw [11] (fun i wr=>∃k:Nat,k≤A.length∧i= .int .i64 (k:Int)∧Below w.heap.size w wr∧Hid (R=Pl.za7 (A.drop k) (B.drop k))) (fun i _=>A.length - (intOf i).toNat)
   case atStart=>exact ⟨0,Nat.zero_le _,rfl,Below.refl _ _,HS⟩
   case round=>
    obtain ⟨k,hk,rfl,hbel,HR⟩:=hrel;by_cases hlt:k<A.length
    ·obtain ⟨y,hy⟩:∃y,B[k]? =some y:=⟨_,List.getElem?_eq_getElem (by omega)⟩;obtain ⟨x,hx⟩:∃x,A[k]? =some x:=⟨_,List.getElem?_eq_getElem (by omega)⟩;have hc1:wr.cell? ⟨b,o+k,none⟩=some (.string y):=(hbel.cell (p:=⟨b,o+k,none⟩) hb).trans (HB.out k y hy);have hc2:wr.cell? ⟨b',o'+k,none⟩=some (.string x):=(hbel.cell (p:=⟨b',o'+k,none⟩) hb').trans (HA.out k x hx);have u1:(k:Int)<(A.length:Int):=by omega
     have u2:(k:Int)<(B.length:Int):=by omega
     have u3:(0:Int)≤(k:Int):=by omega
     by_cases hxy:x=y
     ·have t2:=Pl.zr0 hxy;have HR2:Hid (R=Pl.za7 (A.drop (k+1)) (B.drop (k+1))):=HR.out.trans (HT.out k x y hx hy hxy);clear hx hy HR hxy;go_wp2
      go_quiet (fail)
      go_wp2
      go_roundw
      case rel=>exact ⟨k+1,by omega,by go_num,Mem.below_drewN hbel _,HR2⟩
      case measure=>simp [intOf];omega
     ·have t2:=Pl.zj8 hxy;have E:Hid (R=Op.bytesLess x.toList y.toList):=HR.out.trans (HF.out k x y hx hy hxy);clear hx hy HR hxy;go_wp2
      go_quiet (fail)
      go_wp2
      go_quiet (fail)
      go_wp2
      go_ret
      exact ⟨za1 E.out.symm,Mem.below_drewN (Mem.below_drewN hbel _) _⟩
    ·obtain rfl:k=A.length:=by omega
     have E:Hid (R=decide (A.length<B.length)):=HR.out.trans (HE.out _ (by omega));clear HR;go_wp2
     go_ret
     exact ⟨za1 (by rw [E.out]),hbel⟩
  ·have t0:¬ (A.length:Int)≤(B.length:Int):=by omega
   have t9:(B.length:Int)<(A.length:Int):=by omega
   go_enter Tryz.func157,Tryz.ntmps157
   go_wp2
   go_loopw [11] (fun i wr=>∃k:Nat,k≤B.length∧i= .int .i64 (k:Int)∧Below w.heap.size w wr∧Hid (R=Pl.za7 (A.drop k) (B.drop k))) (fun i _=>B.length - (intOf i).toNat)
   case atStart=>exact ⟨0,Nat.zero_le _,rfl,Below.refl _ _,HS⟩
   case round=>
    obtain ⟨k,hk,rfl,hbel,HR⟩:=hrel;by_cases hlt:k<B.length
    ·obtain ⟨y,hy⟩:∃y,B[k]? =some y:=⟨_,List.getElem?_eq_getElem (by omega)⟩;obtain ⟨x,hx⟩:∃x,A[k]? =some x:=⟨_,List.getElem?_eq_getElem (by omega)⟩;have hc1:wr.cell? ⟨b,o+k,none⟩=some (.string y):=(hbel.cell (p:=⟨b,o+k,none⟩) hb).trans (HB.out k y hy);have hc2:wr.cell? ⟨b',o'+k,none⟩=some (.string x):=(hbel.cell (p:=⟨b',o'+k,none⟩) hb').trans (HA.out k x hx);have u1:(k:Int)<(A.length:Int):=by omega
     have u2:(k:Int)<(B.length:Int):=by omega
     have u3:(0:Int)≤(k:Int):=by omega
     by_cases hxy:x=y
     ·have t2:=Pl.zr0 hxy;have HR2:Hid (R=Pl.za7 (A.drop (k+1)) (B.drop (k+1))):=HR.out.trans (HT.out k x y hx hy hxy);clear hx hy HR hxy;go_wp2
      go_quiet (fail)
      go_wp2
      go_roundw
      case rel=>exact ⟨k+1,by omega,by go_num,Mem.below_drewN hbel _,HR2⟩
      case measure=>simp [intOf];omega
     ·have t2:=Pl.zj8 hxy;have E:Hid (R=Op.bytesLess x.toList y.toList):=HR.out.trans (HF.out k x y hx hy hxy);clear hx hy HR hxy;go_wp2
      go_quiet (fail)
      go_wp2
      go_quiet (fail)
      go_wp2
      go_ret
      exact ⟨za1 E.out.symm,Mem.below_drewN (Mem.below_drewN hbel _) _⟩
    ·obtain rfl:k=B.length:=by omega
     have E:Hid (R=decide (A.length<B.length)):=HR.out.trans (HE.out _ (by omega));clear HR;go_wp2
     go_ret
     exact ⟨za1 (by rw [E.out]),hbel⟩

theorem less_any (p t:ByteArray) (w:World) (hp:p.size≤1048576) (ht:t.size≤1048576):
  Calls Tryz.prog 135 #[.string p, .string t] w fun e w'=>e= .returned (.bool (Pl.za0 p&&Pl.za0 t&&Pl.za7 (Pl.za6 p) (Pl.za6 t)))∧Below w.heap.size w w':=by
 have hn:=hide (fun W=>zw2.both_any p t W hp ht);have hA:=hide (Pl.ze p);have hB:=hide (Pl.ze t);generalize (Pl.za0 p&&Pl.za0 t)=r at hn ⊢;generalize Pl.za6 p=A at hn hA ⊢;generalize Pl.za6 t=B at hn hB ⊢;cases r
 ·go_enter Tryz.func135,Tryz.ntmps135
  go_wp2_with fail
  refine (za hn _).mono ?_;rintro e w1 ⟨v1,v2,m,rfl, -, -, -, -,hb⟩;go_wp2
  go_ret
  exact ⟨rfl,hb⟩
 ·go_enter Tryz.func135,Tryz.ntmps135
  go_wp2_with fail
  refine (za hn _).mono ?_;rintro e w1 ⟨v1,v2,m,rfl,h1,h2,h3,h4,hb⟩;have i1:=hide (Mem.zd7 h2);have i2:=hide (Mem.zd7 h4);clear h2 h4 h3 hn;go_wp2_with fail
  refine (ahead_any _ _ A B _ (by have :=(za hA).2;omega) (by have :=(za hB).2;omega) (za i1) (za i2)).mono ?_;rintro e w2 ⟨rfl,hb2⟩;have hb3:=hb.trans (hb2.mono hb.size);generalize hr:Pl.za7 A B=r2;have HR:=hide hr;clear hr hb hb2;go_wp2
  go_ret
  exact ⟨by rw [za HR];rfl,hb3⟩
end WLess
end
end Go.Proofs.YtbomeifgfalmdaaGreatDoor
