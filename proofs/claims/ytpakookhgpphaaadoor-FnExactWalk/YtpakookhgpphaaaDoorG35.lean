/- Several texts of one claim in one file: WNestD, WBothI, WLess. -/
import Derived.Test.YtpakookhgpphaaaDoorG00
import Derived.Test.YtpakookhgpphaaaDoorG06
import Derived.Test.YtpakookhgpphaaaDoorG04
import Derived.Test.YtpakookhgpphaaaDoorG29
import Derived.Test.YtpakookhgpphaaaDoorProg
import Derived.WalkSpells
import Derived.Lib.OthersKept
import Derived.Laws.RangeAny
import Derived.Deep.Draws
import Derived.Deep.QuietTactic
import Derived.BigQuiet
import Derived.Deep.RegionHeld3
import Derived.Test.YtpakookhgpphaaaDoorG17
import Derived.Test.YtpakookhgpphaaaDoorG01
namespace Go.Proofs.YtpakookhgpphaaaDoor
section
open Go.RowKit
namespace zl4
theorem zx5 {w w':World} {N:Nat→Prop} {F:Pl.Fo} {b i:Nat} (h:Mem.rowF w N F b i) (bb:Below w.heap.size w w'):Mem.rowF w' N F b i:=Mem.rowF_mono (fun g hg hl=>⟨hg,Nat.lt_of_lt_of_le hl bb.size,bb.block g hl⟩) F b i h
set_option linter.unusedSimpArgs false in
set_option maxRecDepth 100000 in
set_option maxHeartbeats 1000000 in
theorem depth_any (N:Nat→Prop) (n:Nat) (hn:n≤1000):∀ (k:Pl.Fo) (q:Option Nat) (m:Int) (v:Value) (w:World),k.sz≤n→Mem.lay w N k v→
  Calls Tryd.prog 29 #[.agg #[.map q, .int .i64 m,v]] w fun e w'=>e= .returned (.int .i64 ((k.depth:Int)+1))∧Below w.heap.size w w':=by
 have base:∀ (q:Option Nat) (m:Int) (a:Option Addr) (cap:Nat) (w:World),Calls Tryd.prog 29 #[.agg #[.map q, .int .i64 m, .slice a 0 cap]] w fun e w'=>e= .returned (.int .i64 1)∧Below w.heap.size w w':=by
  intro q m a cap w;go_enter Tryd.func29,Tryd.ntmps29
  go_wp2
  go_loopw [3,9] (fun d i wr=>d= .int .i64 0∧i= .int .i64 0∧Below w.heap.size w wr) (fun _ _ _=>0)
  case atStart=>exact ⟨rfl,rfl,(Below.refl _ _).alloc (Nat.le_refl _) _⟩
  case round=>
   obtain ⟨rfl,rfl,hbel⟩:=hrel;go_wp2
   go_ret
   exact ⟨rfl,hbel⟩
 induction n with
 |zero=>
  intro k q m v w hs hl;obtain ⟨a,cap,rfl, -⟩:=hl;cases k with
  |nil=>exact base q m a cap w
  |cons a b=>simp [Pl.Fo.sz] at hs
 |succ n ih=>
  intro k q m v w hs hl;obtain ⟨a,cap,rfl,hrow⟩:=hl;cases k with
  |nil=>exact base q m a cap w
  |cons k0 m0=>
   rcases hrow with h|⟨g,rfl,hrow⟩
   ·cases h
   generalize hK:Pl.Fo.cons k0 m0=K at *;have hKl:=K.len_le;have hKd:=K.depth_le;have b0:Below w.heap.size w (w.alloc (.cells #[.map q, .int .i64 m, .slice (some ⟨g,0,none⟩) K.len cap] 54)):=(Below.refl _ _).alloc (Nat.le_refl _) _;have HI:=hide (ih (by omega));have R0:Hid (Mem.rowF (w.alloc (.cells #[.map q, .int .i64 m, .slice (some ⟨g,0,none⟩) K.len cap] 54)) N K g (0*3)):=hide (by simpa using zx5 hrow b0);clear hK ih hrow base;go_enter Tryd.func29,Tryd.ntmps29
   go_wp2
   go_loopw [3,9] (fun d i wr=>∃ (j dd:Nat) (F:Pl.Fo),d= .int .i64 (dd:Int)∧i= .int .i64 (j:Int)∧j+F.len=K.len∧max dd F.depth=K.depth∧F.sz≤n+1∧Below w.heap.size w wr∧Hid (Mem.rowF wr N F g (j*3))) (fun _ i _=>K.len - (intOf i).toNat)
   case atStart=>exact ⟨0,0,K,rfl,rfl,by omega,by omega,hs,b0,R0⟩
   case round=>
    obtain ⟨j,dd,F,rfl,rfl,hj,hmax,hsz,hbel,HR⟩:=hrel;clear R0 b0;cases F with
    |nil=>
     simp only [Pl.Fo.len,Pl.Fo.depth] at hj hmax;have u1:¬ (j:Int)<(K.len:Int):=by omega
     have hdd:dd=K.depth:=by omega
     subst hdd;go_wp2
     go_ret
     exact ⟨by show Ending.returned (.int .i64 (1+(K.depth:Int)))=_;rw [Int.add_comm],hbel⟩
    |cons k1 m1=>
     simp only [Pl.Fo.len,Pl.Fo.depth,Pl.Fo.sz] at hj hmax hsz;obtain ⟨⟨x,y,a1,cap1,c0,c1,c2,hg,hN,⟨q1,rfl⟩,⟨r1,rfl⟩,hsub⟩,hrest⟩:=za HR;have u1:(j:Int)<(K.len:Int):=by omega
     have u3:(0:Int)≤(j:Int):=by omega
     have bA:Below wr.heap.size wr (wr.alloc (.cells #[.map q1, .int .i64 r1, .slice a1 k1.len cap1] 54)):=(Below.refl _ _).alloc (Nat.le_refl _) _;have HL:Mem.lay wr N k1 (.slice a1 k1.len cap1):=⟨a1,cap1,rfl,hsub⟩;have hcall:=hide (za HI k1 q1 r1 _ _ (by omega) (Mem.lay_call HL bA));have HRR:=hide (zx5 hrest bA);have bw:=hbel.trans (bA.mono hbel.size);clear hsub hrest HL HR;go_wp2_with fail
     refine (za hcall).mono ?_;rintro e wX ⟨rfl,bX⟩;have bw2:=bw.trans (bX.mono bw.size);have HR2:=hide (zx5 (za HRR) bX);rw [show j*3+3=(j+1)*3 by omega] at HR2;clear hcall HRR bX bw hbel c0 c1 c2 bA;by_cases hcmp:(dd:Int)≤(k1.depth:Int)+1
     ·have e1:max (dd:Int) ((k1.depth:Int)+1)=(k1.depth:Int)+1:=by omega
      go_wp2
      go_roundw
      case rel=>exact ⟨j+1,k1.depth+1,m1,by go_num,by go_num,by omega,by omega,by omega,bw2,HR2⟩
      case measure=>simp [intOf];omega
     ·have e1:max (dd:Int) ((k1.depth:Int)+1)=(dd:Int):=by omega
      go_wp2
      go_roundw
      case rel=>exact ⟨j+1,dd,m1,by go_num,by go_num,by omega,by omega,by omega,bw2,HR2⟩
      case measure=>simp [intOf];omega
end zl4
end
section
open Go.RowKit
namespace WUnder
set_option maxRecDepth 100000 in
theorem both_any (a b:ByteArray) (w:World) (ha:a.size≤1048576) (hb:b.size≤1048576):
  Calls Tryd.prog 77 #[.string a, .string b] w fun e w'=>∃v1 v2 m,e= .returned (.tuple #[v1,v2, .bool (Pl.za2 a&&Pl.za2 b)])∧w.heap.size≤m∧
   w'.ownsRow w.heap.size 9 1 v1 (Pl.zb7 a).length ((Pl.zb7 a).map Value.string)∧(∀k,v1.ownBlock=some k→k<m)∧
   w'.ownsRow m 9 1 v2 (Pl.zb7 b).length ((Pl.zb7 b).map Value.string)∧Below w.heap.size w w':=by
 have hn1:=hide (fun W=>WNames.any a W ha);have hn2:=hide (fun W=>WNames.any b W hb);generalize Pl.za2 a=r1 at hn1 ⊢;generalize Pl.za2 b=r2 at hn2 ⊢;generalize Pl.zb7 a=A at hn1 ⊢;generalize Pl.zb7 b=B at hn2 ⊢;cases r1 <;> cases r2
 all_goals
  go_enter Tryd.func77,Tryd.ntmps77
  go_wp2_with fail
  refine (za hn1 _).mono ?_;rintro e w1 ⟨v1,rfl,hown1,hb1⟩;have HO1:=hide hown1;clear hown1;go_wp2_with fail
  refine (za hn2 _).mono ?_;rintro e w2 ⟨v2,rfl,hown2,hb2⟩;have HO2:=hide hown2;clear hown2
  have H:Hid (∃m,w.heap.size≤m∧w2.ownsRow w.heap.size 9 1 v1 A.length (A.map Value.string)∧(∀k,v1.ownBlock=some k→k<m)∧
    w2.ownsRow m 9 1 v2 B.length (B.map Value.string)∧Below w.heap.size w w2):=
   ⟨w1.heap.size,hb1.size,Mem.ze8 (za HO1) hb2,fun k hk=>((za HO1).lt k hk).2,za HO2,hb1.trans (hb2.mono hb1.size)⟩
  clear hb1 hb2 HO1 HO2;go_wp2
  go_ret3
  obtain ⟨m,h1,h2,h3,h4,h5⟩:=H.out;exact ⟨v1,v2,m,rfl,h1,h2,h3,h4,h5⟩
end WUnder
end
section
open Go.RowKit
namespace WLess
set_option maxRecDepth 100000 in
set_option maxHeartbeats 400000 in
theorem ahead_any (v u:Value) (A B:List ByteArray) (w:World) (hA:A.length≤1000) (hB:B.length≤1000) (hv:Mem.zm w v A) (hu:Mem.zm w u B):
  Calls Tryd.prog 78 #[v,u] w fun e w'=>e= .returned (.bool (Pl.za3 A B))∧Below w.heap.size w w':=by
 have HE:Hid (∀k,k=A.length∧k≤B.length∨k=B.length∧k≤A.length→Pl.za3 (A.drop k) (B.drop k)=decide (A.length<B.length)):=fun k h=>Pl.less_end h;by_cases h0:A=[]∨B=[]
 ·have E:Hid (Pl.za3 A B=decide (A.length<B.length)):=by
   show _=_;have :=HE.out 0 (by rcases h0 with rfl |rfl <;> simp)
   simpa using this
  obtain ⟨va,vc,rfl⟩:=Mem.zo3 hv;obtain ⟨ua,uc,rfl⟩:=Mem.zo3 hu;clear hv hu HE
  rcases h0 with rfl |rfl
  ·have t0:(([]:List ByteArray).length:Int)≤(B.length:Int):=by simp
   go_enter Tryd.func78,Tryd.ntmps78
   go_wp2
   go_loop [11] (fun i=>i= .int .i64 0) (fun _=>0)
   case atStart=>rfl
   case round=>
    subst hrel;go_wp2
    go_ret
    exact ⟨za0 (by rw [E.out];simp),Below.refl _ _⟩
  ·by_cases hA0:A=[]
   ·subst hA0;go_enter Tryd.func78,Tryd.ntmps78
    go_wp2
    go_loop [11] (fun i=>i= .int .i64 0) (fun _=>0)
    case atStart=>rfl
    case round=>
     subst hrel;go_wp2
     go_ret
     exact ⟨za0 (by rw [E.out];simp),Below.refl _ _⟩
   ·have hp:0<A.length:=List.length_pos_iff.2 hA0;have t0:¬ (A.length:Int)≤0:=by omega
    have t1:¬ (A.length:Int)<0:=by omega
    have t2:(0:Int)<(A.length:Int):=by omega
    go_enter Tryd.func78,Tryd.ntmps78
    go_wp2
    go_loop [11] (fun i=>i= .int .i64 0) (fun _=>0)
    case atStart=>rfl
    case round=>
     subst hrel;go_wp2
     go_ret
     exact ⟨za0 (by rw [E.out];simp),Below.refl _ _⟩
 ·rcases hu with ⟨_,rfl⟩|⟨b,o,cap,rfl,hb,hcb⟩
  ·simp at h0
  rcases hv with ⟨_,rfl⟩|⟨b',o',cap',rfl,hb',hca⟩
  ·simp at h0
  have HA:=hide hca;have HB:=hide hcb;clear hca hcb h0;have HS:Hid (Pl.za3 A B=Pl.za3 (A.drop 0) (B.drop 0)):=rfl;have HT:Hid (∀k a b,A[k]? =some a→B[k]? =some b→a=b→Pl.za3 (A.drop k) (B.drop k)=Pl.za3 (A.drop (k+1)) (B.drop (k+1))):=fun k a b h1 h2 h3=>Pl.less_same h1 h2 h3;have HF:Hid (∀k a b,A[k]? =some a→B[k]? =some b→a≠b→Pl.za3 (A.drop k) (B.drop k)=Op.bytesLess a.toList b.toList):=fun k a b h1 h2 h3=>Pl.ya5 h1 h2 h3;generalize Pl.za3 A B=R at HS ⊢;by_cases hAB:A.length≤B.length
  ·have t0:(A.length:Int)≤(B.length:Int):=by omega
   go_enter Tryd.func78,Tryd.ntmps78
   go_wp2
   go_loopw [11] (fun i wr=>∃k:Nat,k≤A.length∧i= .int .i64 (k:Int)∧Below w.heap.size w wr∧Hid (R=Pl.za3 (A.drop k) (B.drop k))) (fun i _=>A.length - (intOf i).toNat)
   case atStart=>exact ⟨0,Nat.zero_le _,rfl,Below.refl _ _,HS⟩
   case round=>
    obtain ⟨k,hk,rfl,hbel,HR⟩:=hrel;by_cases hlt:k<A.length
    ·obtain ⟨y,hy⟩:∃y,B[k]? =some y:=⟨_,List.getElem?_eq_getElem (by omega)⟩;obtain ⟨x,hx⟩:∃x,A[k]? =some x:=⟨_,List.getElem?_eq_getElem (by omega)⟩;have hc1:wr.cell? ⟨b,o+k,none⟩=some (.string y):=(hbel.cell (p:=⟨b,o+k,none⟩) hb).trans (HB.out k y hy);have hc2:wr.cell? ⟨b',o'+k,none⟩=some (.string x):=(hbel.cell (p:=⟨b',o'+k,none⟩) hb').trans (HA.out k x hx);have u1:(k:Int)<(A.length:Int):=by omega
     have u2:(k:Int)<(B.length:Int):=by omega
     have u3:(0:Int)≤(k:Int):=by omega
     by_cases hxy:x=y
     ·have t2:=Pl.zw0 hxy;have HR2:Hid (R=Pl.za3 (A.drop (k+1)) (B.drop (k+1))):=HR.out.trans (HT.out k x y hx hy hxy);clear hx hy HR hxy;go_wp2
      go_quiet (fail)
      go_wp2
      go_roundw
      case rel=>exact ⟨k+1,by omega,by go_num,Mem.below_drewN hbel _,HR2⟩
      case measure=>simp [intOf];omega
     ·have t2:=Pl.zr4 hxy;have E:Hid (R=Op.bytesLess x.toList y.toList):=HR.out.trans (HF.out k x y hx hy hxy);clear hx hy HR hxy;go_wp2
      go_quiet (fail)
      go_wp2
      go_quiet (fail)
      go_wp2
      go_ret
      exact ⟨za0 E.out.symm,Mem.below_drewN (Mem.below_drewN hbel _) _⟩
    ·obtain rfl:k=A.length:=by omega
     have E:Hid (R=decide (A.length<B.length)):=HR.out.trans (HE.out _ (by omega));clear HR;go_wp2
     go_ret
     exact ⟨za0 (by rw [E.out]),hbel⟩
  ·have t0:¬ (A.length:Int)≤(B.length:Int):=by omega
   have t9:(B.length:Int)<(A.length:Int):=by omega
   go_enter Tryd.func78,Tryd.ntmps78
   go_wp2
   go_loopw [11] (fun i wr=>∃k:Nat,k≤B.length∧i= .int .i64 (k:Int)∧Below w.heap.size w wr∧Hid (R=Pl.za3 (A.drop k) (B.drop k))) (fun i _=>B.length - (intOf i).toNat)
   case atStart=>exact ⟨0,Nat.zero_le _,rfl,Below.refl _ _,HS⟩
   case round=>
    obtain ⟨k,hk,rfl,hbel,HR⟩:=hrel;by_cases hlt:k<B.length
    ·obtain ⟨y,hy⟩:∃y,B[k]? =some y:=⟨_,List.getElem?_eq_getElem (by omega)⟩;obtain ⟨x,hx⟩:∃x,A[k]? =some x:=⟨_,List.getElem?_eq_getElem (by omega)⟩;have hc1:wr.cell? ⟨b,o+k,none⟩=some (.string y):=(hbel.cell (p:=⟨b,o+k,none⟩) hb).trans (HB.out k y hy);have hc2:wr.cell? ⟨b',o'+k,none⟩=some (.string x):=(hbel.cell (p:=⟨b',o'+k,none⟩) hb').trans (HA.out k x hx);have u1:(k:Int)<(A.length:Int):=by omega
     have u2:(k:Int)<(B.length:Int):=by omega
     have u3:(0:Int)≤(k:Int):=by omega
     by_cases hxy:x=y
     ·have t2:=Pl.zw0 hxy;have HR2:Hid (R=Pl.za3 (A.drop (k+1)) (B.drop (k+1))):=HR.out.trans (HT.out k x y hx hy hxy);clear hx hy HR hxy;go_wp2
      go_quiet (fail)
      go_wp2
      go_roundw
      case rel=>exact ⟨k+1,by omega,by go_num,Mem.below_drewN hbel _,HR2⟩
      case measure=>simp [intOf];omega
     ·have t2:=Pl.zr4 hxy;have E:Hid (R=Op.bytesLess x.toList y.toList):=HR.out.trans (HF.out k x y hx hy hxy);clear hx hy HR hxy;go_wp2
      go_quiet (fail)
      go_wp2
      go_quiet (fail)
      go_wp2
      go_ret
      exact ⟨za0 E.out.symm,Mem.below_drewN (Mem.below_drewN hbel _) _⟩
    ·obtain rfl:k=B.length:=by omega
     have E:Hid (R=decide (A.length<B.length)):=HR.out.trans (HE.out _ (by omega));clear HR;go_wp2
     go_ret
     exact ⟨za0 (by rw [E.out]),hbel⟩

set_option maxRecDepth 100000 in
theorem zw7 (p t:ByteArray) (w:World) (hp:p.size≤1048576) (ht:t.size≤1048576):
  Calls Tryd.prog 72 #[.string p, .string t] w fun e w'=>e= .returned (.bool (Pl.za2 p&&Pl.za2 t&&Pl.za3 (Pl.zb7 p) (Pl.zb7 t)))∧Below w.heap.size w w':=by
 have hn:=hide (fun W=>WUnder.both_any p t W hp ht);have hA:=hide (Pl.zq p);have hB:=hide (Pl.zq t);generalize (Pl.za2 p&&Pl.za2 t)=r at hn ⊢;generalize Pl.zb7 p=A at hn hA ⊢;generalize Pl.zb7 t=B at hn hB ⊢;cases r
 ·go_enter Tryd.func72,Tryd.ntmps72
  go_wp2_with fail
  refine (za hn _).mono ?_;rintro e w1 ⟨v1,v2,m,rfl, -, -, -, -,hb⟩;go_wp2
  go_ret
  exact ⟨rfl,hb⟩
 ·go_enter Tryd.func72,Tryd.ntmps72
  go_wp2_with fail
  refine (za hn _).mono ?_;rintro e w1 ⟨v1,v2,m,rfl,h1,h2,h3,h4,hb⟩;have i1:=hide (Mem.zo6 h2);have i2:=hide (Mem.zo6 h4);clear h2 h4 h3 hn;go_wp2_with fail
  refine (ahead_any _ _ A B _ (by have :=(za hA).2;omega) (by have :=(za hB).2;omega) (za i1) (za i2)).mono ?_;rintro e w2 ⟨rfl,hb2⟩;have hb3:=hb.trans (hb2.mono hb.size);generalize hr:Pl.za3 A B=r2;have HR:=hide hr;clear hr hb hb2;go_wp2
  go_ret
  exact ⟨by rw [za HR];rfl,hb3⟩
end WLess
end
end Go.Proofs.YtpakookhgpphaaaDoor
