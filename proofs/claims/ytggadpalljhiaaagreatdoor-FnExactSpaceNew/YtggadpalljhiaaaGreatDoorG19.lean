/- Several texts of one claim in one file: WNestD, WErrs4, WNestX. -/
import Derived.Test.YtggadpalljhiaaaGreatDoorG00
import Derived.Test.YtggadpalljhiaaaGreatDoorG04
import Derived.Test.YtggadpalljhiaaaGreatDoorG03
import Derived.Test.YtggadpalljhiaaaGreatDoorG06
import Derived.Test.YtggadpalljhiaaaGreatDoorProg
import Derived.WalkSpells
import Derived.Lib.OthersKept
import Derived.Laws.RangeAny
import Derived.Deep.Draws
import Derived.Deep.QuietTactic
import Derived.BigQuiet
import Derived.Deep.RegionHeld3
import Derived.Test.YtggadpalljhiaaaGreatDoorG16
import Derived.Test.YtggadpalljhiaaaGreatDoorWTakeY
namespace Go.Proofs.YtggadpalljhiaaaGreatDoor
section
open Go.RowKit
namespace zl4
theorem zx5 {w w':World} {N:Nat→Prop} {F:Pl.Fo} {b i:Nat} (h:Mem.rowF w N F b i) (bb:Below w.heap.size w w'):Mem.rowF w' N F b i:=Mem.rowF_mono (fun g hg hl=>⟨hg,Nat.lt_of_lt_of_le hl bb.size,bb.block g hl⟩) F b i h
set_option linter.unusedSimpArgs false in
set_option maxRecDepth 100000 in
set_option maxHeartbeats 1000000 in
theorem depth_any (N:Nat→Prop) (n:Nat) (hn:n≤1000):∀ (k:Pl.Fo) (q:Option Nat) (m:Int) (v:Value) (w:World),k.sz≤n→Mem.lay w N k v→
  Calls Tryz.prog 32 #[.agg #[.map q, .int .i64 m,v]] w fun e w'=>e= .returned (.int .i64 ((k.depth:Int)+1))∧Below w.heap.size w w':=by
 have base:∀ (q:Option Nat) (m:Int) (a:Option Addr) (cap:Nat) (w:World),Calls Tryz.prog 32 #[.agg #[.map q, .int .i64 m, .slice a 0 cap]] w fun e w'=>e= .returned (.int .i64 1)∧Below w.heap.size w w':=by
  intro q m a cap w;go_enter Tryz.func32,Tryz.ntmps32
  go_wp2
  go_loopw [3,9] (fun d i wr=>d= .int .i64 0∧i= .int .i64 0∧Below w.heap.size w wr) (fun _ _ _=>0)
  case atStart=>exact ⟨rfl,rfl,(Below.refl _ _).alloc (Nat.le_refl _) _⟩
  case round=>
   obtain ⟨rfl,rfl,hbel⟩:=hrel;go_wp2
   go_ret
   exact ⟨rfl,hbel⟩
 induction n with
 |zero=>
  intro k q m v w hs hl;obtain ⟨a,cap,rfl, -⟩:=hl;cases k with
  |nil=>exact base q m a cap w
  |cons a b=>simp [Pl.Fo.sz] at hs
 |succ n ih=>
  intro k q m v w hs hl;obtain ⟨a,cap,rfl,hrow⟩:=hl;cases k with
  |nil=>exact base q m a cap w
  |cons k0 m0=>
   rcases hrow with h|⟨g,rfl,hrow⟩
   ·cases h
   generalize hK:Pl.Fo.cons k0 m0=K at *;have hKl:=K.len_le;have hKd:=K.depth_le;have b0:Below w.heap.size w (w.alloc (.cells #[.map q, .int .i64 m, .slice (some ⟨g,0,none⟩) K.len cap] 64)):=(Below.refl _ _).alloc (Nat.le_refl _) _;have HI:=hide (ih (by omega));have R0:Hid (Mem.rowF (w.alloc (.cells #[.map q, .int .i64 m, .slice (some ⟨g,0,none⟩) K.len cap] 64)) N K g (0*3)):=hide (by simpa using zx5 hrow b0);clear hK ih hrow base;go_enter Tryz.func32,Tryz.ntmps32
   go_wp2
   go_loopw [3,9] (fun d i wr=>∃ (j dd:Nat) (F:Pl.Fo),d= .int .i64 (dd:Int)∧i= .int .i64 (j:Int)∧j+F.len=K.len∧max dd F.depth=K.depth∧F.sz≤n+1∧Below w.heap.size w wr∧Hid (Mem.rowF wr N F g (j*3))) (fun _ i _=>K.len - (intOf i).toNat)
   case atStart=>exact ⟨0,0,K,rfl,rfl,by omega,by omega,hs,b0,R0⟩
   case round=>
    obtain ⟨j,dd,F,rfl,rfl,hj,hmax,hsz,hbel,HR⟩:=hrel;clear R0 b0;cases F with
    |nil=>
     simp only [Pl.Fo.len,Pl.Fo.depth] at hj hmax;have u1:¬ (j:Int)<(K.len:Int):=by omega
     have hdd:dd=K.depth:=by omega
     subst hdd;go_wp2
     go_ret
     exact ⟨by show Ending.returned (.int .i64 (1+(K.depth:Int)))=_;rw [Int.add_comm],hbel⟩
    |cons k1 m1=>
     simp only [Pl.Fo.len,Pl.Fo.depth,Pl.Fo.sz] at hj hmax hsz;obtain ⟨⟨x,y,a1,cap1,c0,c1,c2,hg,hN,⟨q1,rfl⟩,⟨r1,rfl⟩,hsub⟩,hrest⟩:=za HR;have u1:(j:Int)<(K.len:Int):=by omega
     have u3:(0:Int)≤(j:Int):=by omega
     have bA:Below wr.heap.size wr (wr.alloc (.cells #[.map q1, .int .i64 r1, .slice a1 k1.len cap1] 64)):=(Below.refl _ _).alloc (Nat.le_refl _) _;have HL:Mem.lay wr N k1 (.slice a1 k1.len cap1):=⟨a1,cap1,rfl,hsub⟩;have hcall:=hide (za HI k1 q1 r1 _ _ (by omega) (Mem.lay_call HL bA));have HRR:=hide (zx5 hrest bA);have bw:=hbel.trans (bA.mono hbel.size);clear hsub hrest HL HR;go_wp2_with fail
     refine (za hcall).mono ?_;rintro e wX ⟨rfl,bX⟩;have bw2:=bw.trans (bX.mono bw.size);have HR2:=hide (zx5 (za HRR) bX);rw [show j*3+3=(j+1)*3 by omega] at HR2;clear hcall HRR bX bw hbel c0 c1 c2 bA;by_cases hcmp:(dd:Int)≤(k1.depth:Int)+1
     ·have e1:max (dd:Int) ((k1.depth:Int)+1)=(k1.depth:Int)+1:=by omega
      go_wp2
      go_roundw
      case rel=>exact ⟨j+1,k1.depth+1,m1,by go_num,by go_num,by omega,by omega,by omega,bw2,HR2⟩
      case measure=>simp [intOf];omega
     ·have e1:max (dd:Int) ((k1.depth:Int)+1)=(dd:Int):=by omega
      go_wp2
      go_roundw
      case rel=>exact ⟨j+1,dd,m1,by go_num,by go_num,by omega,by omega,by omega,bw2,HR2⟩
      case measure=>simp [intOf];omega
end zl4
end
section
open Go.RowKit
namespace zl4
structure Errs4 (w:World) (u0 u1 u2 u3:TypeId) (x0 x1 x2 x3:Value):Prop where
 c0:w.cell? ⟨0,0,none⟩=some (.iface u0 x0)
 three:zn7.Errs w u1 u2 u3 x1 x2 x3
theorem Errs4.call {w w':World} {u0 u1 u2 u3:TypeId} {x0 x1 x2 x3:Value} (h:Errs4 w u0 u1 u2 u3 x0 x1 x2 x3) (b:Below w.heap.size w w'):Errs4 w' u0 u1 u2 u3 x0 x1 x2 x3:=
 ⟨(b.cell (p:=⟨_,0,none⟩) (World.block_lt_of_cell? w ⟨_,0,none⟩ h.c0)).trans h.c0,h.three.call b⟩
end zl4
end
section
open Go.RowKit
namespace zo5
def Nested (w:World) (r0 r1:TypeId) (x0 x1:Value) (Is:List Pl.It) (NN:Option Pl.Fo) (e:Ending) (w':World):Prop:=
 (∃L k q a cap,NN=some k.shape∧e= .returned (.tuple #[.agg #[.map (some q), .int .i64 (k.len:Int), .slice a k.len cap], .nilIface])∧((w.heap.size≤q∧Mem.apart w' q k (.slice a k.len cap))∧Mem.ownM w' q L)∧((Pl.Fx.cons L k .nil).okX∧(Pl.Fx.cons L k .nil).flat=Is.map Pl.It.r)∧Mem.layX w' (fun b=>w.heap.size≤b) k (.slice a k.len cap))∨
 (NN=none∧∃r x,e= .returned (.tuple #[.agg #[.map none, .int .i64 0, .slice none 0 0], .iface r x])∧((400<Is.length∧r=r0∧x=x0)∨(Is.length≤400∧r=r1∧x=x1)))
set_option linter.unusedSimpArgs false in
set_option maxRecDepth 100000 in
set_option maxHeartbeats 1000000 in
theorem nest_any (a:Option Addr) (cap:Nat) (Is:List Pl.It) (w:World) (hl:Is.length≤1048576) (hcap:Is.length≤cap) (hv:Mem.zb0 w a Is) (hok:∀x∈Is,x.t.L.length≤1048576∧∀n∈x.t.L,n.path.size≤1048576∧n.data.size≤1048576)
  (r0 r1 r2 r3:TypeId) (x0 x1 x2 x3:Value) (hE:zl4.Errs4 w r0 r1 r2 r3 x0 x1 x2 x3):
  Calls Tryz.prog 18 #[.slice a Is.length cap] w fun e w'=>Nested w r0 r1 x0 x1 Is (Pl.nest (Pl.rowO (Is.map Pl.It.r))) e w'∧Below w.heap.size w w':=by
 have hrl:(Pl.rowO (Is.map Pl.It.r)).length=Is.length:=by rw [Pl.zn9,List.length_map]
 have b0:Below w.heap.size w (w.alloc (.cells #[.map none, .int .i64 0, .slice none 0 0] 64)):=(Below.refl _ _).alloc (Nat.le_refl _) _;have A0:=Mem.Blk.new w #[.map none, .int .i64 0, .slice none 0 0] 64;have k0:=(hE.call b0).c0;have k1:=(hE.call b0).three.c1;by_cases h400:400<Is.length
 ·have t0:(400:Int)<(Is.length:Int):=by omega
  rw [Pl.zx7 _ (by omega)];have HB0:=hide b0;clear hv hok hE b0 A0 hrl;go_enter Tryz.func18,Tryz.ntmps18
  go_wp2
  go_region
  go_wp2
  refine bodyPost_ret (v:= .tuple #[.agg #[.map none, .int .i64 0, .slice none 0 0], .iface r0 x0]) (by simp [results,Tryz.results18,go_sem]) rfl ⟨Or.inr ⟨rfl,_,_,rfl, .inl ⟨h400,rfl,rfl⟩⟩,?_⟩;exact Mem.below_drewN (za HB0) 1
 have t0:¬ (400:Int)<(Is.length:Int):=by omega
 by_cases h12:12<Is.length
 ·have t1:(12:Int)<(Is.length:Int):=by omega
  rw [Pl.zx7 _ (by omega)];have HB0:=hide b0;clear hv hok hE b0 A0 hrl;go_enter Tryz.func18,Tryz.ntmps18
  go_wp2
  go_region
  go_wp2
  refine bodyPost_ret (v:= .tuple #[.agg #[.map none, .int .i64 0, .slice none 0 0], .iface r1 x1]) (by simp [results,Tryz.results18,go_sem]) rfl ⟨Or.inr ⟨rfl,_,_,rfl, .inr ⟨by omega,rfl,rfl⟩⟩,?_⟩;exact Mem.below_drewN (za HB0) 1
 have t1:¬ (12:Int)<(Is.length:Int):=by omega
 have hz:=hide (take_any r1 r2 r3 x1 x2 x3 12 Is a cap _ (by omega) (by omega) hcap (Mem.zc2 hv b0) hok (hE.call b0).three);have n1:1<w.heap.size:=World.block_lt_of_cell? w ⟨_,0,none⟩ hE.three.c1;have n2:¬w.heap.size=1:=by omega
 have n3:¬1=w.heap.size:=by omega
 have HE:=hide (fun W (b:Below w.heap.size w W)=>(hE.call b).three.c1);have HRL:=hide hrl;generalize Pl.rowO (Is.map Pl.It.r)=LL at hz HRL ⊢;generalize hNN:Pl.nest LL=NN;have HNN:=hide hNN;clear hv hok hE k0 k1 hrl hNN;go_enter Tryz.func18,Tryz.ntmps18
 go_wp2_with fail
 generalize w.alloc (.cells #[.map none, .int .i64 0, .slice none 0 0] 64)=w2 at b0 A0 hz ⊢;refine (za hz).mono ?_;rintro e w1 ⟨h1,b1⟩;have bw1:=b0.trans (b1.mono b0.size);have A1:=A0.call b1;have HWW:Hid (w.heap.size<w2.heap.size):=hide A0.lt;clear hz b1 A0 b0
 rcases h1 with ⟨L,kids,q,v,k,a',cap',ht,rfl,hk,hkl,hc, -,⟨⟨hqw,hap⟩,hqm⟩,hfl,hlay⟩|⟨ht,rfl⟩
 ·obtain ⟨va,vcap,rfl,hrest⟩:=hlay;have hlen:(Is.drop k).length=Is.length - k:=List.length_drop;have hR:(Pl.rowO ((Is.drop k).map Pl.It.r)).length=Is.length - k:=by rw [Pl.zn9,List.length_map,hlen]
  have hsz:=Pl.take_sz ht;simp only [Pl.Fo.sz] at hsz;have A2:=A1.alloc (.cells #[.map (some q), .int .i64 (kids.len:Int), .slice va kids.len vcap] 64);have X2:=Mem.Blk.new w1 #[.map (some q), .int .i64 (kids.len:Int), .slice va kids.len vcap] 64;have bA:Below w1.heap.size w1 (w1.alloc (.cells #[.map (some q), .int .i64 (kids.len:Int), .slice va kids.len vcap] 64)):=(Below.refl _ _).alloc (Nat.le_refl _) _;have bw2:=bw1.trans (bA.mono bw1.size);have HL:Hid (Mem.layX (w1.alloc (.cells #[.map (some q), .int .i64 (kids.len:Int), .slice va kids.len vcap] 64)) (fun b=>w2.heap.size≤b) kids (.slice va kids.len vcap)):=hide (Mem.zx4 ⟨va,vcap,rfl,hrest⟩ bA);have HAP:=hide (Mem.yb3 ⟨va,vcap,rfl,hrest⟩ hap bA)
  have HQM:=hide (hqm.call bA);have HFL:=hide hfl;have HLD:Hid ((Is.drop k).length=Is.length - k):=hlen;have HQW:=hide hqw;clear hqm hfl hqw hap;rw [hlen];have hkk:Is.length - k≤12:=by omega
  generalize Is.length - k=rest at hR hkk HLD ⊢;by_cases hr0:0<rest
  ·have u1:(0:Int)<(rest:Int):=by omega
   have hno:Hid (NN=none):=hide (by rw [←za HNN];exact Pl.nest_rest ht (by omega));have e1:=za HE _ bw2;have c20:=A2.cell 0;have c21:=A2.cell 1;have c22:=A2.cell 2;have f20:=A2.fr 0;have f21:=A2.fr 1;have f22:=A2.fr 2;simp only [kGs] at c20 c21 c22;have BB:=hide bw2;clear A1 A2 X2 bA HL hrest bw1 bw2 HNN HE ht hlen;go_wp2
   go_region
   go_wp2
   refine bodyPost_ret (v:= .tuple #[.agg #[.map none, .int .i64 0, .slice none 0 0], .iface r1 x1]) (by simp [results,Tryz.results18,go_sem,c20,c21,c22]) rfl ⟨Or.inr ⟨za hno,_,_,rfl, .inr ⟨by omega,rfl,rfl⟩⟩,?_⟩
   first |exact Mem.below_drewN (za BB) 1|exact (((Mem.below_drewN (za BB) 1).setCell (Nat.le_refl _) _).setCell (Nat.le_refl _) _).setCell (Nat.le_refl _) _
  have u1:¬ (0:Int)<(rest:Int):=by omega
  have hdz:=kids.shape.depth_le;have hcall:=hide (zl4.depth_any _ 1000 (Nat.le_refl _) kids.shape (some q) (kids.len:Int) _ _ (by have :=za HRL;omega) (Mem.layX_lay (za HL)));go_wp2_with fail
  generalize w1.alloc (.cells #[.map (some q), .int .i64 (kids.len:Int), .slice va kids.len vcap] 64)=w3 at bA bw2 HL HAP HQM A2 X2 hcall ⊢;refine (za hcall).mono ?_;rintro e w4 ⟨rfl,b4⟩;have bw4:=bw2.trans (b4.mono bw2.size);have A4:=A2.call b4;have X4:=X2.call b4;have HL4:Hid (Mem.layX w4 (fun b=>w2.heap.size≤b) kids (.slice va kids.len vcap)):=hide (Mem.zx4 (za HL) b4);have HQ4:=hide ((za HQM).call b4);have HA4:=hide (Mem.yb3 (za HL) (za HAP) b4);clear HQM HAP;have c20:=A4.cell 0;have c21:=A4.cell 1;have c22:=A4.cell 2;have f20:=A4.fr 0;have f21:=A4.fr 1;have f22:=A4.fr 2;have c40:=X4.cell 0;have c41:=X4.cell 1;have c42:=X4.cell 2;simp only [kGs] at c20 c21 c22 c40 c41 c42;have hs1:w2.heap.size≤w1.heap.size∨True:= .inr trivial;clear hcall HL b4 A2 X2 A4 X4 hrest hs1;by_cases h4:4<kids.shape.depth+1
  ·have u2:(4:Int)<(kids.shape.depth:Int)+1:=by omega
   have hno:Hid (NN=none):=hide (by rw [←za HNN];exact Pl.nest_deep ht h4);have e1:=za HE _ bw4;have BB:=hide bw4;clear A1 bA bw1 bw2 HNN HE ht hlen bw4 HL4;go_wp2
   go_region
   go_wp2
   refine bodyPost_ret (v:= .tuple #[.agg #[.map none, .int .i64 0, .slice none 0 0], .iface r1 x1]) (by simp [results,Tryz.results18,go_sem,c20,c21,c22]) rfl ⟨Or.inr ⟨za hno,_,_,rfl, .inr ⟨by omega,rfl,rfl⟩⟩,?_⟩
   first |exact Mem.below_drewN (za BB) 1|exact (((Mem.below_drewN (za BB) 1).setCell (Nat.le_refl _) _).setCell (Nat.le_refl _) _).setCell (Nat.le_refl _) _
  ·have u2:¬ (4:Int)<(kids.shape.depth:Int)+1:=by omega
   have hyes:Hid (NN=some kids.shape):=hide (by rw [←za HNN];exact Pl.nest_ok (by have :=za HRL;omega) ht (by omega) h4);have HW2:Hid (w.heap.size<w2.heap.size):=HWW;have BB:=hide bw4;clear A1 bA bw1 bw2 HNN HE ht hlen bw4;go_wp2
   refine bodyPost_ret (v:= .tuple #[.agg #[.map (some q), .int .i64 (kids.len:Int), .slice va kids.len vcap], .nilIface]) (by simp [results,Tryz.results18,go_sem,c20,c21,c22]) rfl ⟨Or.inl ⟨L,kids,q,va,vcap,za hyes,rfl,?_,?_,?_⟩,?_⟩
   ·have h1:=za HW2;have h2:=za HQW;exact ⟨⟨by omega,Mem.zu0 (fun b hb hlt=>by rw [heap_setCell_other _ _ _ _ (by show b≠w.heap.size;omega),heap_setCell_other _ _ _ _ (by show b≠w.heap.size;omega),heap_setCell_other _ _ _ _ (by show b≠w.heap.size;omega)]) (za HL4) (za HA4)⟩,(((za HQ4).set _ _ (by show q≠w.heap.size;omega)).set _ _ (by show q≠w.heap.size;omega)).set _ _ (by show q≠w.heap.size;omega)⟩
   ·have h3:=za HFL;have h4:Is.drop k=[]:=List.eq_nil_of_length_eq_zero (by have :=za HLD;omega);rw [h4,List.map_nil,List.append_nil] at h3;exact h3
   ·refine Mem.zk3 (fun b hb hlt=>⟨?_,by simpa using hlt,?_⟩) (za HL4)
    ·have :=za HW2;omega
    ·have :=za HW2;rw [heap_setCell_other _ _ _ _ (by show b≠w.heap.size;omega),heap_setCell_other _ _ _ _ (by show b≠w.heap.size;omega),heap_setCell_other _ _ _ _ (by show b≠w.heap.size;omega)]
   ·exact (((za BB).setCell (Nat.le_refl _) _).setCell (Nat.le_refl _) _).setCell (Nat.le_refl _) _
 ·have hno:Hid (NN=none):=hide (by rw [←za HNN];exact Pl.nest_fail ht);have A2:=A1.alloc (.cells #[.map none, .int .i64 0, .slice none 0 0] 64);have bw2:=bw1.alloc bw1.size (.cells #[.map none, .int .i64 0, .slice none 0 0] 64);have c20:=A2.cell 0;have c21:=A2.cell 1;have c22:=A2.cell 2;have f20:=A2.fr 0;have f21:=A2.fr 1;have f22:=A2.fr 2;simp only [kGs] at c20 c21 c22;have BB:=hide bw2;clear A1 A2 bw1 bw2 HNN HE ht;go_wp2
  refine bodyPost_ret (v:= .tuple #[.agg #[.map none, .int .i64 0, .slice none 0 0], .iface r1 x1]) (by simp [results,Tryz.results18,go_sem,c20,c21,c22]) rfl ⟨Or.inr ⟨za hno,_,_,rfl, .inr ⟨by omega,rfl,rfl⟩⟩,?_⟩
  first |exact za BB|exact (((za BB).setCell (Nat.le_refl _) _).setCell (Nat.le_refl _) _).setCell (Nat.le_refl _) _
end zo5
end
end Go.Proofs.YtggadpalljhiaaaGreatDoor
