import Derived.Test.YtpggbphcbcogdaaGreatDoorTakeC
import Derived.Test.YtpggbphcbcogdaaGreatDoorWNestD
import Derived.Test.YtpggbphcbcogdaaGreatDoorWTakeY
import Derived.Test.YtpggbphcbcogdaaGreatDoorWErrs4
namespace Go.Proofs.YtpggbphcbcogdaaGreatDoor
open Go.RowKit
namespace zn9
def Nested (w:World) (r0 r1:TypeId) (x0 x1:Value) (Is:List Pl.It) (NN:Option Pl.Fo) (e:Ending) (w':World):Prop:=
 (∃L k q a cap,NN=some k.shape∧e= .returned (.tuple #[.agg #[.map (some q), .int .i64 (k.len:Int), .slice a k.len cap], .nilIface])∧((w.heap.size≤q∧Mem.apart w' q k (.slice a k.len cap))∧Mem.ownM w' q L)∧((Pl.Fx.cons L k .nil).okX∧(Pl.Fx.cons L k .nil).flat=Is.map Pl.It.r)∧Mem.layX w' (fun b=>w.heap.size≤b) k (.slice a k.len cap))∨
 (NN=none∧∃r x,e= .returned (.tuple #[.agg #[.map none, .int .i64 0, .slice none 0 0], .iface r x])∧((400<Is.length∧r=r0∧x=x0)∨(Is.length≤400∧r=r1∧x=x1)))
set_option linter.unusedSimpArgs false in
set_option maxRecDepth 100000 in
set_option maxHeartbeats 1000000 in
theorem nest_any (a:Option Addr) (cap:Nat) (Is:List Pl.It) (w:World) (hl:Is.length≤1048576) (hcap:Is.length≤cap) (hv:Mem.zb8 w a Is) (hok:∀x∈Is,x.t.L.length≤1048576∧∀n∈x.t.L,n.path.size≤1048576∧n.data.size≤1048576)
  (r0 r1 r2 r3:TypeId) (x0 x1 x2 x3:Value) (hE:zh4.Errs4 w r0 r1 r2 r3 x0 x1 x2 x3):
  Calls Tryz.prog 22 #[.slice a Is.length cap] w fun e w'=>Nested w r0 r1 x0 x1 Is (Pl.nest (Pl.rowO (Is.map Pl.It.r))) e w'∧Below w.heap.size w w':=by
 have hrl:(Pl.rowO (Is.map Pl.It.r)).length=Is.length:=by rw [Pl.zj7,List.length_map]
 have b0:Below w.heap.size w (w.alloc (.cells #[.map none, .int .i64 0, .slice none 0 0] 62)):=bE0;have A0:=Mem.Blk.new w #[.map none, .int .i64 0, .slice none 0 0] 62;have k0:=(hE.call b0).c0;have k1:=(hE.call b0).three.c1;by_cases h400:400<Is.length
 ·have t0:(400:Int)<(Is.length:Int):=by omega
  rw [Pl.zt5 _ (by omega)];have HB0:=hide b0;clear hv hok hE b0 A0 hrl;go_enter Tryz.func22,Tryz.ntmps22
  go_wp2
  go_region
  go_wp2
  refine bodyPost_ret (v:= .tuple #[.agg #[.map none, .int .i64 0, .slice none 0 0], .iface r0 x0]) (by simp [results,Tryz.results22,go_sem]) rfl ⟨Or.inr ⟨rfl,_,_,rfl, .inl ⟨h400,rfl,rfl⟩⟩,?_⟩;exact Mem.below_drewN (za HB0) 1
 have t0:¬ (400:Int)<(Is.length:Int):=by omega
 by_cases h12:12<Is.length
 ·have t1:(12:Int)<(Is.length:Int):=by omega
  rw [Pl.zt5 _ (by omega)];have HB0:=hide b0;clear hv hok hE b0 A0 hrl;go_enter Tryz.func22,Tryz.ntmps22
  go_wp2
  go_region
  go_wp2
  refine bodyPost_ret (v:= .tuple #[.agg #[.map none, .int .i64 0, .slice none 0 0], .iface r1 x1]) (by simp [results,Tryz.results22,go_sem]) rfl ⟨Or.inr ⟨rfl,_,_,rfl, .inr ⟨by omega,rfl,rfl⟩⟩,?_⟩;exact Mem.below_drewN (za HB0) 1
 have t1:¬ (12:Int)<(Is.length:Int):=by omega
 have hz:=hide (take_any r1 r2 r3 x1 x2 x3 12 Is a cap _ (by omega) (by omega) hcap (Mem.zd4 hv b0) hok (hE.call b0).three);have n1:1<w.heap.size:=World.block_lt_of_cell? w ⟨_,0,none⟩ hE.three.c1;have n2:¬w.heap.size=1:=by omega
 have n3:¬1=w.heap.size:=by omega
 have HE:=hide (fun W (b:Below w.heap.size w W)=>(hE.call b).three.c1);have HRL:=hide hrl;generalize Pl.rowO (Is.map Pl.It.r)=LL at hz HRL ⊢;generalize hNN:Pl.nest LL=NN;have HNN:=hide hNN;clear hv hok hE k0 k1 hrl hNN;go_enter Tryz.func22,Tryz.ntmps22
 go_wp2_with fail
 generalize w.alloc (.cells #[.map none, .int .i64 0, .slice none 0 0] 62)=w2 at b0 A0 hz ⊢;refine (za hz).mono ?_;rintro e w1 ⟨h1,b1⟩;have bw1:=b0.trans (b1.mono b0.size);have A1:=A0.call b1;have HWW:Hid (w.heap.size<w2.heap.size):=hide A0.lt;clear hz b1 A0 b0
 rcases h1 with ⟨L,kids,q,v,k,a',cap',ht,rfl,hk,hkl,hc, -,⟨⟨hqw,hap⟩,hqm⟩,hfl,hlay⟩|⟨ht,rfl⟩
 ·obtain ⟨va,vcap,rfl,hrest⟩:=hlay;have hlen:(Is.drop k).length=Is.length - k:=List.length_drop;have hR:(Pl.rowO ((Is.drop k).map Pl.It.r)).length=Is.length - k:=by rw [Pl.zj7,List.length_map,hlen]
  have hsz:=Pl.take_sz ht;simp only [Pl.Fo.sz] at hsz;have A2:=A1.alloc (.cells #[.map (some q), .int .i64 (kids.len:Int), .slice va kids.len vcap] 62);have X2:=Mem.Blk.new w1 #[.map (some q), .int .i64 (kids.len:Int), .slice va kids.len vcap] 62;have bA:Below w1.heap.size w1 (w1.alloc (.cells #[.map (some q), .int .i64 (kids.len:Int), .slice va kids.len vcap] 62)):=bE0;have bw2:=bw1.trans (bA.mono bw1.size);have HL:Hid (Mem.layX (w1.alloc (.cells #[.map (some q), .int .i64 (kids.len:Int), .slice va kids.len vcap] 62)) (fun b=>w2.heap.size≤b) kids (.slice va kids.len vcap)):=hide (Mem.zl ⟨va,vcap,rfl,hrest⟩ bA);have HAP:=hide (Mem.zx7 ⟨va,vcap,rfl,hrest⟩ hap bA)
  have HQM:=hide (hqm.call bA);have HFL:=hide hfl;have HLD:Hid ((Is.drop k).length=Is.length - k):=hlen;have HQW:=hide hqw;clear hqm hfl hqw hap;rw [hlen];have hkk:Is.length - k≤12:=by omega
  generalize Is.length - k=rest at hR hkk HLD ⊢;by_cases hr0:0<rest
  ·have u1:(0:Int)<(rest:Int):=by omega
   have hno:Hid (NN=none):=hide (by rw [←za HNN];exact Pl.nest_rest ht (by omega));have e1:=za HE _ bw2;obtain ⟨⟨c20,c21,c22⟩,f20,f21,f22⟩:=jf3 A2;have BB:=hide bw2;clear A1 A2 X2 bA HL hrest bw1 bw2 HNN HE ht hlen;go_wp2
   go_region
   go_wp2
   refine bodyPost_ret (v:= .tuple #[.agg #[.map none, .int .i64 0, .slice none 0 0], .iface r1 x1]) (by simp [results,Tryz.results22,go_sem,c20,c21,c22]) rfl ⟨Or.inr ⟨za hno,_,_,rfl, .inr ⟨by omega,rfl,rfl⟩⟩,?_⟩
   first |exact Mem.below_drewN (za BB) 1|exact (((Mem.below_drewN (za BB) 1).setCell (Nat.le_refl _) _).setCell (Nat.le_refl _) _).setCell (Nat.le_refl _) _
  have u1:¬ (0:Int)<(rest:Int):=by omega
  have hdz:=kids.shape.depth_le;have hcall:=hide (zh4.depth_any _ 1000 (Nat.le_refl _) kids.shape (some q) (kids.len:Int) _ _ (by have :=za HRL;omega) (Mem.layX_lay (za HL)));go_wp2_with fail
  generalize w1.alloc (.cells #[.map (some q), .int .i64 (kids.len:Int), .slice va kids.len vcap] 62)=w3 at bA bw2 HL HAP HQM A2 X2 hcall ⊢;refine (za hcall).mono ?_;rintro e w4 ⟨rfl,b4⟩;have bw4:=bw2.trans (b4.mono bw2.size);have A4:=A2.call b4;have X4:=X2.call b4;have HL4:Hid (Mem.layX w4 (fun b=>w2.heap.size≤b) kids (.slice va kids.len vcap)):=hide (Mem.zl (za HL) b4);have HQ4:=hide ((za HQM).call b4);have HA4:=hide (Mem.zx7 (za HL) (za HAP) b4);clear HQM HAP;obtain ⟨⟨c20,c21,c22⟩,f20,f21,f22⟩:=jf3 A4;obtain ⟨c40,c41,c42⟩:=jc3 X4;have hs1:w2.heap.size≤w1.heap.size∨True:= .inr trivial;clear hcall HL b4 A2 X2 A4 X4 hrest hs1;by_cases h4:4<kids.shape.depth+1
  ·have u2:(4:Int)<(kids.shape.depth:Int)+1:=by omega
   have hno:Hid (NN=none):=hide (by rw [←za HNN];exact Pl.nest_deep ht h4);have e1:=za HE _ bw4;have BB:=hide bw4;clear A1 bA bw1 bw2 HNN HE ht hlen bw4 HL4;go_wp2
   go_region
   go_wp2
   refine bodyPost_ret (v:= .tuple #[.agg #[.map none, .int .i64 0, .slice none 0 0], .iface r1 x1]) (by simp [results,Tryz.results22,go_sem,c20,c21,c22]) rfl ⟨Or.inr ⟨za hno,_,_,rfl, .inr ⟨by omega,rfl,rfl⟩⟩,?_⟩
   first |exact Mem.below_drewN (za BB) 1|exact (((Mem.below_drewN (za BB) 1).setCell (Nat.le_refl _) _).setCell (Nat.le_refl _) _).setCell (Nat.le_refl _) _
  ·have u2:¬ (4:Int)<(kids.shape.depth:Int)+1:=by omega
   have hyes:Hid (NN=some kids.shape):=hide (by rw [←za HNN];exact Pl.nest_ok (by have :=za HRL;omega) ht (by omega) h4);have HW2:Hid (w.heap.size<w2.heap.size):=HWW;have BB:=hide bw4;clear A1 bA bw1 bw2 HNN HE ht hlen bw4;go_wp2
   refine bodyPost_ret (v:= .tuple #[.agg #[.map (some q), .int .i64 (kids.len:Int), .slice va kids.len vcap], .nilIface]) (by simp [results,Tryz.results22,go_sem,c20,c21,c22]) rfl ⟨Or.inl ⟨L,kids,q,va,vcap,za hyes,rfl,?_,?_,?_⟩,?_⟩
   ·have h1:=za HW2;have h2:=za HQW;exact ⟨⟨by omega,Mem.zw9 (fun b hb hlt=>by rw [heap_setCell_other _ _ _ _ (by show b≠w.heap.size;omega),heap_setCell_other _ _ _ _ (by show b≠w.heap.size;omega),heap_setCell_other _ _ _ _ (by show b≠w.heap.size;omega)]) (za HL4) (za HA4)⟩,(((za HQ4).set _ _ (by show q≠w.heap.size;omega)).set _ _ (by show q≠w.heap.size;omega)).set _ _ (by show q≠w.heap.size;omega)⟩
   ·have h3:=za HFL;have h4:Is.drop k=[]:=List.eq_nil_of_length_eq_zero (by have :=za HLD;omega);rw [h4,List.map_nil,List.append_nil] at h3;exact h3
   ·refine Mem.zl0 (fun b hb hlt=>⟨?_,by simpa using hlt,?_⟩) (za HL4)
    ·have :=za HW2;omega
    ·have :=za HW2;rw [heap_setCell_other _ _ _ _ (by show b≠w.heap.size;omega),heap_setCell_other _ _ _ _ (by show b≠w.heap.size;omega),heap_setCell_other _ _ _ _ (by show b≠w.heap.size;omega)]
   ·exact (((za BB).setCell (Nat.le_refl _) _).setCell (Nat.le_refl _) _).setCell (Nat.le_refl _) _
 ·have hno:Hid (NN=none):=hide (by rw [←za HNN];exact Pl.nest_fail ht);have A2:=A1.alloc (.cells #[.map none, .int .i64 0, .slice none 0 0] 62);have bw2:=bw1.alloc bw1.size (.cells #[.map none, .int .i64 0, .slice none 0 0] 62);obtain ⟨⟨c20,c21,c22⟩,f20,f21,f22⟩:=jf3 A2;have BB:=hide bw2;clear A1 A2 bw1 bw2 HNN HE ht;go_wp2
  refine bodyPost_ret (v:= .tuple #[.agg #[.map none, .int .i64 0, .slice none 0 0], .iface r1 x1]) (by simp [results,Tryz.results22,go_sem,c20,c21,c22]) rfl ⟨Or.inr ⟨za hno,_,_,rfl, .inr ⟨by omega,rfl,rfl⟩⟩,?_⟩
  first |exact za BB|exact (((za BB).setCell (Nat.le_refl _) _).setCell (Nat.le_refl _) _).setCell (Nat.le_refl _) _
end zn9
end Go.Proofs.YtpggbphcbcogdaaGreatDoor
