/- Several texts of one claim in one file: WNestD, WBothI, WLess, WNodesJ. -/
import Derived.Test.YtpggbphcbcogdaaGreatDoorG18
import Derived.Test.YtpggbphcbcogdaaGreatDoorG30
namespace Go.Proofs.YtpggbphcbcogdaaGreatDoor
section
open Go.RowKit
namespace zh4
theorem zt1 {w w':World} {N:Nat→Prop} {F:Pl.Fo} {b i:Nat} (h:Mem.rowF w N F b i) (bb:Below w.heap.size w w'):Mem.rowF w' N F b i:=Mem.rowF_mono (fun g hg hl=>⟨hg,Nat.lt_of_lt_of_le hl bb.size,bb.block g hl⟩) F b i h
set_option linter.unusedSimpArgs false in
set_option maxRecDepth 100000 in
set_option maxHeartbeats 1000000 in
theorem depth_any (N:Nat→Prop) (n:Nat) (hn:n≤1000):∀ (k:Pl.Fo) (q:Option Nat) (m:Int) (v:Value) (w:World),k.sz≤n→Mem.lay w N k v→
  Calls Tryz.prog 37 #[.agg #[.map q, .int .i64 m,v]] w fun e w'=>e= .returned (.int .i64 ((k.depth:Int)+1))∧Below w.heap.size w w':=by
 have base:∀ (q:Option Nat) (m:Int) (a:Option Addr) (cap:Nat) (w:World),Calls Tryz.prog 37 #[.agg #[.map q, .int .i64 m, .slice a 0 cap]] w fun e w'=>e= .returned (.int .i64 1)∧Below w.heap.size w w':=by
  intro q m a cap w;go_enter Tryz.func37,Tryz.ntmps37
  go_wp2
  go_loopw [3,9] (fun d i wr=>d= .int .i64 0∧i= .int .i64 0∧Below w.heap.size w wr) (fun _ _ _=>0)
  case atStart=>exact ⟨rfl,rfl,bE0⟩
  case round=>
   obtain ⟨rfl,rfl,hbel⟩:=hrel;go_wp2
   go_ret
   exact ⟨rfl,hbel⟩
 induction n with
 |zero=>
  intro k q m v w hs hl;obtain ⟨a,cap,rfl, -⟩:=hl;cases k with
  |nil=>exact base q m a cap w
  |cons a b=>simp [Pl.Fo.sz] at hs
 |succ n ih=>
  intro k q m v w hs hl;obtain ⟨a,cap,rfl,hrow⟩:=hl;cases k with
  |nil=>exact base q m a cap w
  |cons k0 m0=>
   rcases hrow with h|⟨g,rfl,hrow⟩
   ·cases h
   generalize hK:Pl.Fo.cons k0 m0=K at *;have hKl:=K.len_le;have hKd:=K.depth_le;have b0:Below w.heap.size w (w.alloc (.cells #[.map q, .int .i64 m, .slice (some ⟨g,0,none⟩) K.len cap] 62)):=bE0;have HI:=hide (ih (by omega));have R0:Hid (Mem.rowF (w.alloc (.cells #[.map q, .int .i64 m, .slice (some ⟨g,0,none⟩) K.len cap] 62)) N K g (0*3)):=hide (by simpa using zt1 hrow b0);clear hK ih hrow base;go_enter Tryz.func37,Tryz.ntmps37
   go_wp2
   go_loopw [3,9] (fun d i wr=>∃ (j dd:Nat) (F:Pl.Fo),d= .int .i64 (dd:Int)∧i= .int .i64 (j:Int)∧j+F.len=K.len∧max dd F.depth=K.depth∧F.sz≤n+1∧Below w.heap.size w wr∧Hid (Mem.rowF wr N F g (j*3))) (fun _ i _=>K.len - (intOf i).toNat)
   case atStart=>exact ⟨0,0,K,rfl,rfl,by omega,by omega,hs,b0,R0⟩
   case round=>
    obtain ⟨j,dd,F,rfl,rfl,hj,hmax,hsz,hbel,HR⟩:=hrel;clear R0 b0;cases F with
    |nil=>
     simp only [Pl.Fo.len,Pl.Fo.depth] at hj hmax;have u1:¬ (j:Int)<(K.len:Int):=by omega
     have hdd:dd=K.depth:=by omega
     subst hdd;go_wp2
     go_ret
     exact ⟨by show Ending.returned (.int .i64 (1+(K.depth:Int)))=_;rw [Int.add_comm],hbel⟩
    |cons k1 m1=>
     simp only [Pl.Fo.len,Pl.Fo.depth,Pl.Fo.sz] at hj hmax hsz;obtain ⟨⟨x,y,a1,cap1,c0,c1,c2,hg,hN,⟨q1,rfl⟩,⟨r1,rfl⟩,hsub⟩,hrest⟩:=za HR;have u1:(j:Int)<(K.len:Int):=by omega
     have u3:(0:Int)≤(j:Int):=by omega
     have bA:Below wr.heap.size wr (wr.alloc (.cells #[.map q1, .int .i64 r1, .slice a1 k1.len cap1] 62)):=bE0;have HL:Mem.lay wr N k1 (.slice a1 k1.len cap1):=⟨a1,cap1,rfl,hsub⟩;have hcall:=hide (za HI k1 q1 r1 _ _ (by omega) (Mem.lay_call HL bA));have HRR:=hide (zt1 hrest bA);have bw:=hbel.trans (bA.mono hbel.size);clear hsub hrest HL HR;go_wp2_with fail
     refine (za hcall).mono ?_;rintro e wX ⟨rfl,bX⟩;have bw2:=bw.trans (bX.mono bw.size);have HR2:=hide (zt1 (za HRR) bX);rw [show j*3+3=(j+1)*3 by omega] at HR2;clear hcall HRR bX bw hbel c0 c1 c2 bA;by_cases hcmp:(dd:Int)≤(k1.depth:Int)+1
     ·have e1:max (dd:Int) ((k1.depth:Int)+1)=(k1.depth:Int)+1:=by omega
      go_wp2
      go_roundw
      case rel=>exact ⟨j+1,k1.depth+1,m1,by go_num,by go_num,by omega,by omega,by omega,bw2,HR2⟩
      case measure=>simp [intOf];omega
     ·have e1:max (dd:Int) ((k1.depth:Int)+1)=(dd:Int):=by omega
      go_wp2
      go_roundw
      case rel=>exact ⟨j+1,dd,m1,by go_num,by go_num,by omega,by omega,by omega,bw2,HR2⟩
      case measure=>simp [intOf];omega
end zh4
end
section
open Go.RowKit
namespace WUnder
set_option maxRecDepth 100000 in
theorem both_any (a b:ByteArray) (w:World) (ha:a.size≤1048576) (hb:b.size≤1048576):
  Calls Tryz.prog 96 #[.string a, .string b] w fun e w'=>∃v1 v2 m,e= .returned (.tuple #[v1,v2, .bool (Pl.za2 a&&Pl.za2 b)])∧w.heap.size≤m∧
   w'.ownsRow w.heap.size 9 1 v1 (Pl.zb0 a).length ((Pl.zb0 a).map Value.string)∧(∀k,v1.ownBlock=some k→k<m)∧
   w'.ownsRow m 9 1 v2 (Pl.zb0 b).length ((Pl.zb0 b).map Value.string)∧Below w.heap.size w w':=by
 have hn1:=hide (fun W=>zn6.any a W ha);have hn2:=hide (fun W=>zn6.any b W hb);generalize Pl.za2 a=r1 at hn1 ⊢;generalize Pl.za2 b=r2 at hn2 ⊢;generalize Pl.zb0 a=A at hn1 ⊢;generalize Pl.zb0 b=B at hn2 ⊢;cases r1 <;> cases r2
 all_goals
  go_enter Tryz.func96,Tryz.ntmps96
  go_wp2_with fail
  refine (za hn1 _).mono ?_;rintro e w1 ⟨v1,rfl,hown1,hb1⟩;have HO1:=hide hown1;clear hown1;go_wp2_with fail
  refine (za hn2 _).mono ?_;rintro e w2 ⟨v2,rfl,hown2,hb2⟩;have HO2:=hide hown2;clear hown2
  have H:Hid (∃m,w.heap.size≤m∧w2.ownsRow w.heap.size 9 1 v1 A.length (A.map Value.string)∧(∀k,v1.ownBlock=some k→k<m)∧
    w2.ownsRow m 9 1 v2 B.length (B.map Value.string)∧Below w.heap.size w w2):=
   ⟨w1.heap.size,hb1.size,Mem.zc8 (za HO1) hb2,fun k hk=>((za HO1).lt k hk).2,za HO2,hb1.trans (hb2.mono hb1.size)⟩
  clear hb1 hb2 HO1 HO2;go_wp2
  go_ret3
  obtain ⟨m,h1,h2,h3,h4,h5⟩:=H.out;exact ⟨v1,v2,m,rfl,h1,h2,h3,h4,h5⟩
end WUnder
end
section
open Go.RowKit
namespace WLess
set_option maxRecDepth 100000 in
set_option maxHeartbeats 400000 in
theorem ahead_any (v u:Value) (A B:List ByteArray) (w:World) (hA:A.length≤1000) (hB:B.length≤1000) (hv:Mem.ze5 w v A) (hu:Mem.ze5 w u B):
  Calls Tryz.prog 97 #[v,u] w fun e w'=>e= .returned (.bool (Pl.za8 A B))∧Below w.heap.size w w':=by
 have HE:Hid (∀k,k=A.length∧k≤B.length∨k=B.length∧k≤A.length→Pl.za8 (A.drop k) (B.drop k)=decide (A.length<B.length)):=fun k h=>Pl.less_end h;by_cases h0:A=[]∨B=[]
 ·have E:Hid (Pl.za8 A B=decide (A.length<B.length)):=by
   show _=_;have :=HE.out 0 (by rcases h0 with rfl |rfl <;> simp)
   simpa using this
  obtain ⟨va,vc,rfl⟩:=Mem.zh0 hv;obtain ⟨ua,uc,rfl⟩:=Mem.zh0 hu;clear hv hu HE
  rcases h0 with rfl |rfl
  ·have t0:(([]:List ByteArray).length:Int)≤(B.length:Int):=by simp
   go_enter Tryz.func97,Tryz.ntmps97
   go_wp2
   go_loop [11] (fun i=>i= .int .i64 0) (fun _=>0)
   case atStart=>rfl
   case round=>
    subst hrel;go_wp2
    go_ret
    exact ⟨za0 (by rw [E.out];simp),Below.refl _ _⟩
  ·by_cases hA0:A=[]
   ·subst hA0;go_enter Tryz.func97,Tryz.ntmps97
    go_wp2
    go_loop [11] (fun i=>i= .int .i64 0) (fun _=>0)
    case atStart=>rfl
    case round=>
     subst hrel;go_wp2
     go_ret
     exact ⟨za0 (by rw [E.out];simp),Below.refl _ _⟩
   ·have hp:0<A.length:=List.length_pos_iff.2 hA0;have t0:¬ (A.length:Int)≤0:=by omega
    have t1:¬ (A.length:Int)<0:=by omega
    have t2:(0:Int)<(A.length:Int):=by omega
    go_enter Tryz.func97,Tryz.ntmps97
    go_wp2
    go_loop [11] (fun i=>i= .int .i64 0) (fun _=>0)
    case atStart=>rfl
    case round=>
     subst hrel;go_wp2
     go_ret
     exact ⟨za0 (by rw [E.out];simp),Below.refl _ _⟩
 ·rcases hu with ⟨_,rfl⟩|⟨b,o,cap,rfl,hb,hcb⟩
  ·simp at h0
  rcases hv with ⟨_,rfl⟩|⟨b',o',cap',rfl,hb',hca⟩
  ·simp at h0
  have HA:=hide hca;have HB:=hide hcb;clear hca hcb h0;have HS:Hid (Pl.za8 A B=Pl.za8 (A.drop 0) (B.drop 0)):=rfl;have HT:Hid (∀k a b,A[k]? =some a→B[k]? =some b→a=b→Pl.za8 (A.drop k) (B.drop k)=Pl.za8 (A.drop (k+1)) (B.drop (k+1))):=fun k a b h1 h2 h3=>Pl.less_same h1 h2 h3;have HF:Hid (∀k a b,A[k]? =some a→B[k]? =some b→a≠b→Pl.za8 (A.drop k) (B.drop k)=Op.bytesLess a.toList b.toList):=fun k a b h1 h2 h3=>Pl.zx5 h1 h2 h3;generalize Pl.za8 A B=R at HS ⊢;by_cases hAB:A.length≤B.length
  ·have t0:(A.length:Int)≤(B.length:Int):=by omega
   go_enter Tryz.func97,Tryz.ntmps97
   go_wp2
   go_loopw [11] (fun i wr=>∃k:Nat,k≤A.length∧i= .int .i64 (k:Int)∧Below w.heap.size w wr∧Hid (R=Pl.za8 (A.drop k) (B.drop k))) (fun i _=>A.length - (intOf i).toNat)
   case atStart=>exact ⟨0,Nat.zero_le _,rfl,Below.refl _ _,HS⟩
   case round=>
    obtain ⟨k,hk,rfl,hbel,HR⟩:=hrel;by_cases hlt:k<A.length
    ·obtain ⟨y,hy⟩:∃y,B[k]? =some y:=⟨_,List.getElem?_eq_getElem (by omega)⟩;obtain ⟨x,hx⟩:∃x,A[k]? =some x:=⟨_,List.getElem?_eq_getElem (by omega)⟩;have hc1:wr.cell? ⟨b,o+k,none⟩=some (.string y):=(hbel.cell (p:=⟨b,o+k,none⟩) hb).trans (HB.out k y hy);have hc2:wr.cell? ⟨b',o'+k,none⟩=some (.string x):=(hbel.cell (p:=⟨b',o'+k,none⟩) hb').trans (HA.out k x hx);have u1:(k:Int)<(A.length:Int):=by omega
     have u2:(k:Int)<(B.length:Int):=by omega
     have u3:(0:Int)≤(k:Int):=by omega
     by_cases hxy:x=y
     ·have t2:=Pl.zp5 hxy;have HR2:Hid (R=Pl.za8 (A.drop (k+1)) (B.drop (k+1))):=HR.out.trans (HT.out k x y hx hy hxy);clear hx hy HR hxy;go_wp2
      go_quiet (fail)
      go_wp2
      go_roundw
      case rel=>exact ⟨k+1,by omega,by go_num,Mem.below_drewN hbel _,HR2⟩
      case measure=>simp [intOf];omega
     ·have t2:=Pl.zm2 hxy;have E:Hid (R=Op.bytesLess x.toList y.toList):=HR.out.trans (HF.out k x y hx hy hxy);clear hx hy HR hxy;go_wp2
      go_quiet (fail)
      go_wp2
      go_quiet (fail)
      go_wp2
      go_ret
      exact ⟨za0 E.out.symm,Mem.below_drewN (Mem.below_drewN hbel _) _⟩
    ·obtain rfl:k=A.length:=by omega
     have E:Hid (R=decide (A.length<B.length)):=HR.out.trans (HE.out _ (by omega));clear HR;go_wp2
     go_ret
     exact ⟨za0 (by rw [E.out]),hbel⟩
  ·have t0:¬ (A.length:Int)≤(B.length:Int):=by omega
   have t9:(B.length:Int)<(A.length:Int):=by omega
   go_enter Tryz.func97,Tryz.ntmps97
   go_wp2
   go_loopw [11] (fun i wr=>∃k:Nat,k≤B.length∧i= .int .i64 (k:Int)∧Below w.heap.size w wr∧Hid (R=Pl.za8 (A.drop k) (B.drop k))) (fun i _=>B.length - (intOf i).toNat)
   case atStart=>exact ⟨0,Nat.zero_le _,rfl,Below.refl _ _,HS⟩
   case round=>
    obtain ⟨k,hk,rfl,hbel,HR⟩:=hrel;by_cases hlt:k<B.length
    ·obtain ⟨y,hy⟩:∃y,B[k]? =some y:=⟨_,List.getElem?_eq_getElem (by omega)⟩;obtain ⟨x,hx⟩:∃x,A[k]? =some x:=⟨_,List.getElem?_eq_getElem (by omega)⟩;have hc1:wr.cell? ⟨b,o+k,none⟩=some (.string y):=(hbel.cell (p:=⟨b,o+k,none⟩) hb).trans (HB.out k y hy);have hc2:wr.cell? ⟨b',o'+k,none⟩=some (.string x):=(hbel.cell (p:=⟨b',o'+k,none⟩) hb').trans (HA.out k x hx);have u1:(k:Int)<(A.length:Int):=by omega
     have u2:(k:Int)<(B.length:Int):=by omega
     have u3:(0:Int)≤(k:Int):=by omega
     by_cases hxy:x=y
     ·have t2:=Pl.zp5 hxy;have HR2:Hid (R=Pl.za8 (A.drop (k+1)) (B.drop (k+1))):=HR.out.trans (HT.out k x y hx hy hxy);clear hx hy HR hxy;go_wp2
      go_quiet (fail)
      go_wp2
      go_roundw
      case rel=>exact ⟨k+1,by omega,by go_num,Mem.below_drewN hbel _,HR2⟩
      case measure=>simp [intOf];omega
     ·have t2:=Pl.zm2 hxy;have E:Hid (R=Op.bytesLess x.toList y.toList):=HR.out.trans (HF.out k x y hx hy hxy);clear hx hy HR hxy;go_wp2
      go_quiet (fail)
      go_wp2
      go_quiet (fail)
      go_wp2
      go_ret
      exact ⟨za0 E.out.symm,Mem.below_drewN (Mem.below_drewN hbel _) _⟩
    ·obtain rfl:k=B.length:=by omega
     have E:Hid (R=decide (A.length<B.length)):=HR.out.trans (HE.out _ (by omega));clear HR;go_wp2
     go_ret
     exact ⟨za0 (by rw [E.out]),hbel⟩

set_option maxRecDepth 100000 in
theorem less_any (p t:ByteArray) (w:World) (hp:p.size≤1048576) (ht:t.size≤1048576):
  Calls Tryz.prog 86 #[.string p, .string t] w fun e w'=>e= .returned (.bool (Pl.za2 p&&Pl.za2 t&&Pl.za8 (Pl.zb0 p) (Pl.zb0 t)))∧Below w.heap.size w w':=by
 have hn:=hide (fun W=>WUnder.both_any p t W hp ht);have hA:=hide (Pl.ze2 p);have hB:=hide (Pl.ze2 t);generalize (Pl.za2 p&&Pl.za2 t)=r at hn ⊢;generalize Pl.zb0 p=A at hn hA ⊢;generalize Pl.zb0 t=B at hn hB ⊢;cases r
 ·go_enter Tryz.func86,Tryz.ntmps86
  go_wp2_with fail
  refine (za hn _).mono ?_;rintro e w1 ⟨v1,v2,m,rfl, -, -, -, -,hb⟩;go_wp2
  go_ret
  exact ⟨rfl,hb⟩
 ·go_enter Tryz.func86,Tryz.ntmps86
  go_wp2_with fail
  refine (za hn _).mono ?_;rintro e w1 ⟨v1,v2,m,rfl,h1,h2,h3,h4,hb⟩;have i1:=hide (Mem.ze4 h2);have i2:=hide (Mem.ze4 h4);clear h2 h4 h3 hn;go_wp2_with fail
  refine (ahead_any _ _ A B _ (by have :=(za hA).2;omega) (by have :=(za hB).2;omega) (za i1) (za i2)).mono ?_;rintro e w2 ⟨rfl,hb2⟩;have hb3:=hb.trans (hb2.mono hb.size);generalize hr:Pl.za8 A B=r2;have HR:=hide hr;clear hr hb hb2;go_wp2
  go_ret
  exact ⟨by rw [za HR];rfl,hb3⟩
end WLess
end
section
open Go.RowKit Go.Maps
namespace Pl
structure Inv (C:List Nd) (lp:ByteArray):Prop where
 right:za2 lp=true
 rise:C.Pairwise (fun a b=>za8 (names a.path) (names b.path)=true)
 last:∀a∈C,a.path=lp∨za8 (names a.path) (names lp)=true
theorem inv_start:Inv [] ⟨#[]⟩:=⟨(zi rfl).1,List.Pairwise.nil,fun a ha=>by cases ha⟩
theorem inv_apart {C:List Nd} {lp:ByteArray} (h:Inv C lp):C.Pairwise (fun a b=>a.path≠b.path):=
 h.rise.imp (fun {a b} hab e=>by rw [e,zm9] at hab;cases hab)
theorem inv_step {C:List Nd} {lp:ByteArray} {n:Nd} (h:Inv C lp) (hn:zb3 n=true) (hl:ltP lp n.path=true):Inv (C++[n]) n.path:=by
 have hr:=(zi1 hn).1;rw [zo8 h.right hr] at hl
 have hall:∀a∈C,za8 (names a.path) (names n.path)=true:=fun a ha=>by
  rcases h.last a ha with e|e
  ·rw [e];exact hl
  ·exact zk0 _ _ _ e hl
 refine ⟨hr,?_,fun a ha=>?_⟩
 ·rw [List.pairwise_append];exact ⟨h.rise,List.pairwise_singleton _ _,fun a ha b hb=>by simp at hb;subst hb;exact hall a ha⟩
 ·rcases List.mem_append.1 ha with ha|ha
  ·exact .inr (hall a ha)
  ·simp at ha;subst ha;exact .inl rfl
theorem goI_step (L:List Nd) {n:Nd} {k:Nat} (h:L[k]? =some n) (C:List Nd) (lp:ByteArray):goI C lp (L.drop k)=(zb3 n&&ltP lp n.path&&parI C n.path&&goI (C++[n]) n.path (L.drop (k+1))):=by
 have h1:=(List.getElem?_eq_some_iff.1 h);rw [List.drop_eq_getElem_cons h1.1,h1.2,goI]
theorem take_snoc' (L:List Nd) {n:Nd} {k:Nat} (h:L[k]? =some n):L.take (k+1)=L.take k++[n]:=by
 have h1:=(List.getElem?_eq_some_iff.1 h);rw [List.take_succ_eq_append_getElem h1.1,h1.2]
end Pl
namespace zk2
set_option maxRecDepth 100000 in
set_option maxHeartbeats 1000000 in
theorem nodes_any (a:Option Addr) (cap:Nat) (L:List Pl.Nd) (w:World) (hl:L.length≤1048576) (hv:Mem.zb5 w a L) (hok:∀n∈L,n.path.size≤1048576∧n.data.size≤1048576)
  (r1 r2 r3:TypeId) (x1 x2 x3:Value) (hE:Errs w r1 r2 r3 x1 x2 x3):
  Calls Tryz.prog 70 #[.agg #[.slice a L.length cap]] w fun e w'=>((Pl.zb9 L=true∧∃B,e= .returned (.tuple #[.map (some B), .nilIface])∧w.heap.size≤B∧w'.ownsMap Tryz.prog 9 MapN.elem B 40 (MapN.mapOf L))∨
   (Pl.zb9 L=false∧e= .returned (.tuple #[.map none, .iface r1 x1])))∧Below w.heap.size w w':=by
 have b0:Below w.heap.size w (w.alloc (.cells #[.slice a L.length cap] 50)):=bE0;have HV:=hide hv;have HO:=hide hok;have HE:=hide hE;have hvar:=hide (Mem.zg4 w [.slice a L.length cap] 50);have hmm:=@run_makeMap Tryz.prog;have k1:=(hE.call b0).c1;clear hv hok hE;by_cases h40:40<L.length
 ·have F:=hide (show Pl.zb9 L=false by simp [Pl.zb9];omega);go_enter Tryz.func70,Tryz.ntmps70
  go_wp2
  go_region
  go_wp2
  go_ret2
  exact ⟨.inr ⟨za F,rfl⟩,Mem.below_drewN b0 1⟩
 have h41:Pl.zb9 L=Pl.goI [] ⟨#[]⟩ L:=by rw [Pl.zb9,show decide (L.length≤40)=true by simp;omega];rfl
 rw [h41];clear h41;generalize hR:Pl.goI [] ⟨#[]⟩ L=R;have HR:=hide hR;clear hR;go_enter Tryz.func70,Tryz.ntmps70
 go_wp2
 go_loopw [5,17] (fun v i wr=>∃ (k:Nat) (lp:ByteArray),k≤L.length∧i= .int .i64 (k:Int)∧v= .string lp∧lp.size≤200∧Below w.heap.size w wr∧Hid (wr.ownsMap Tryz.prog 9 MapN.elem (w.heap.size+1) k (MapN.mapOf (L.take k)))∧Hid (Pl.Inv (L.take k) lp)∧Hid (R=Pl.goI (L.take k) lp (L.drop k))) (fun _ i _=>L.length - (intOf i).toNat)
 case atStart=>
  refine ⟨0,⟨#[]⟩,Nat.zero_le _,rfl,rfl,Nat.zero_le _,?_,?_,Pl.inv_start,(za HR).symm⟩
  ·exact b0.alloc (by simp) _
  ·have h:=World.ownsMap_made (w.alloc (.cells #[.slice a L.length cap] 50)) Tryz.prog 9 MapN.elem;rw [show (w.alloc (.cells #[.slice a L.length cap] 50)).heap.size=w.heap.size+1 by simp] at h;exact h
 case round=>
  obtain ⟨k,lp,hk,rfl,rfl,hlp,hbel,HM,HI,HR2⟩:=hrel;by_cases hlt:k<L.length
  ·obtain ⟨n,hn⟩:∃n,L[k]? =some n:=⟨_,List.getElem?_eq_getElem hlt⟩;obtain ⟨b,o,rfl,hb,q0,q1,q2,q3,q4⟩:=(Mem.za9 (za HV) hbel) k n hn;have y1:(k:Int)<(L.length:Int):=by omega
   have y3:(0:Int)≤(k:Int):=by omega
   have hBl:=(za HM).lt;have hsn:=za HO n (List.mem_of_getElem? hn);have hnr:=hide (fun W=>WNode.zk6 n W hsn.1 hsn.2);have hls:=hide (fun W=>WLess.less_any lp n.path W (by omega) hsn.1)
   change Hid (∀W,Calls Tryz.prog _ _ W fun e w'=>e= .returned (.bool (Pl.ltP lp n.path))∧_) at hls
   have hpf:=hide (fun W hE hown hC=>fault_any (w.heap.size+1) k (L.take k) n.path W r1 r2 r3 x1 x2 x3 hE hown hC hsn.1);have UG:=hide (Pl.goI_step L (n:=n) (k:=k) hn (L.take k) lp);have HN:=hide hn;have hkey:=MapN.keyOf_mk (p:=n.path) (by have :=hsn.1;unfold maxLen;omega);have zn:=Mem.zg4 wr [.string n.path, .int .i64 n.kind, .string n.data, .int .i64 n.time, .int .i64 n.mark] 42;have bw1:Below wr.heap.size wr (wr.alloc (.cells #[.string n.path, .int .i64 n.kind, .string n.data, .int .i64 n.time, .int .i64 n.mark] 42)):=bE0;have bw2:=hbel.trans (bw1.mono hbel.size);have HM1:=hide (zk8 (za HM) bw1);clear hn HM;simp only [Pl.Nd.val] at hnr;go_wp2_with fail
   refine (za hnr _).mono ?_;rintro e wA ⟨rfl,bA⟩;have znA:=Mem.zn0 zn bA;have bwA:=bw2.trans (bA.mono bw2.size);have HMA:=hide (zk8 (za HM1) bA);have kA:=((za HE).call bwA).c1;clear zn bw1 bw2 bA HM1 q0 q1 q2 q3 q4 hnr;have c0:=znA.2 0 _ rfl;cases hnb:Pl.zb3 n
   ·have F:=hide (show R=false by rw [za HR2,za UG,hnb];rfl);clear hnb;go_wp2
    go_region
    go_wp2
    go_ret2
    exact ⟨.inr ⟨za F,rfl⟩,Mem.below_drewN bwA 1⟩
   have HNB:=hide hnb;clear hnb;go_wp2_with fail
   refine (za hls _).mono ?_;rintro e wB ⟨rfl,bB⟩;have znB:=Mem.zn0 znA bB;have bwB:=bwA.trans (bB.mono bwA.size);have HMB:=hide (zk8 (za HMA) bB);have kB:=((za HE).call bwB).c1;clear znA bwA bB HMA c0 kA hls;have c0:=znB.2 0 _ rfl;cases hlb:Pl.ltP lp n.path
   ·have F:=hide (show R=false by rw [za HR2,za UG,za HNB,hlb];rfl);clear hlb;go_wp2
    go_region
    go_wp2
    go_ret2
    exact ⟨.inr ⟨za F,rfl⟩,Mem.below_drewN bwB 1⟩
   have HLB:=hide hlb;clear hlb;go_wp2_with fail
   refine (za hpf _ ((za HE).call bwB) (za HMB) (Pl.inv_apart (za HI))).mono ?_;rintro e wC ⟨rfl,bC⟩;have znC:=Mem.zn0 znB bC;have bwC:=bwB.trans (bC.mono bwB.size);have HMC:=hide (zk8 (za HMB) bC);have kC:=((za HE).call bwC).c1;clear znB bwB bC HMB c0 kB hpf
   rcases Pl.par_ok (p:=n.path) (u2:=r2) (u3:=r3) (x2:=x2) (x3:=x3) (Pl.inv_apart (za HI)) with ⟨hp1,hp2⟩|⟨hp1,uu,xx,hp2⟩
   rotate_left
   ·have F:=hide (show R=false by rw [za HR2,za UG,za HNB,za HLB,hp1];rfl);rw [hp2];clear hp1 hp2;go_wp2
    go_region
    go_wp2
    go_ret2
    exact ⟨.inr ⟨za F,rfl⟩,Mem.below_drewN bwC 1⟩
   have HR3:=hide (show R=Pl.goI (L.take k++[n]) n.path (L.drop (k+1)) by rw [za HR2,za UG,za HNB,za HLB,hp1];rfl);rw [hp2];clear hp1 hp2;have c0:=znC.2 0 _ rfl;have c1:=znC.2 1 _ rfl;have c2:=znC.2 2 _ rfl;have c3:=znC.2 3 _ rfl;have c4:=znC.2 4 _ rfl;have hzl:=znC.1;have hne:some wr.heap.size≠some (w.heap.size+1):=fun e=>by have :=Option.some.inj e;omega
   go_wp2_with (first |(at_mapUpdate;refine wpList_mapUpdate_own _ rfl _ _ _ 57 rfl 9 42 MapN.law Tryz.underlying57 _ (w.heap.size+1) k _ rfl (za HMC) (by unfold maxLen;omega) _ _ _ rfl rfl hkey _ [] (MapN.elem_mk n) ?_;intro wD hownD hgrowD;have cD:=hgrowD.cell c0 hne;have HOD:=hide hownD;have bwD:=bwC.grown hgrowD bwC.size (fun k hk=>by cases hk;omega);clear hownD hgrowD)|fail)
   have HI2:=hide (Pl.inv_step (za HI) (za HNB) (za HLB));have hnl:=Pl.zf1 (Pl.zi1 (za HNB)).1;have HT:=hide (Pl.take_snoc' L (za HN));go_wp2
   go_roundw
   case rel=>
    refine ⟨k+1,n.path,by omega,by go_num,rfl,hnl,bwD,?_,?_,?_⟩
    ·rw [za HT,MapN.mapOf_snoc];exact HOD
    ·rw [za HT];exact HI2
    ·rw [za HT];exact HR3
   case measure=>simp [intOf];omega
  ·obtain rfl:k=L.length:=by omega
   have F:=hide (show R=true by rw [za HR2,List.drop_length];rfl);rw [List.take_length] at HM;clear HR2;go_wp2
   go_ret2
   exact ⟨.inl ⟨za F,w.heap.size+1,rfl,by omega,(za HM).mono (by omega)⟩,hbel⟩
end zk2
end
end Go.Proofs.YtpggbphcbcogdaaGreatDoor
