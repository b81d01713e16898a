/- Several texts of one claim in one file: WNestX, WIs, WCode. -/
import Derived.Test.YtpakookhgpphaaaDoorG35
import Derived.Test.YtpakookhgpphaaaDoorG38
import Derived.Test.YtpakookhgpphaaaDoorG00
import Derived.Below
import Derived.Test.YtpakookhgpphaaaDoorProg
import Derived.WalkKit
import Derived.Laws.IdiomStrings
import Derived.LaidEql
import Derived.Stop.Asserts
import Derived.Test.YtpakookhgpphaaaDoorG26
namespace Go.Proofs.YtpakookhgpphaaaDoor
section
open Go.RowKit
namespace zo5
def Nested (w:World) (r0 r1:TypeId) (x0 x1:Value) (Is:List Pl.It) (NN:Option Pl.Fo) (e:Ending) (w':World):Prop:=
 (∃L k q a cap,NN=some k.shape∧e= .returned (.tuple #[.agg #[.map (some q), .int .i64 (k.len:Int), .slice a k.len cap], .nilIface])∧((w.heap.size≤q∧Mem.apart w' q k (.slice a k.len cap))∧Mem.ownM w' q L)∧((Pl.Fx.cons L k .nil).okX∧(Pl.Fx.cons L k .nil).flat=Is.map Pl.It.r)∧Mem.layX w' (fun b=>w.heap.size≤b) k (.slice a k.len cap))∨
 (NN=none∧∃r x,e= .returned (.tuple #[.agg #[.map none, .int .i64 0, .slice none 0 0], .iface r x])∧((400<Is.length∧r=r0∧x=x0)∨(Is.length≤400∧r=r1∧x=x1)))
set_option linter.unusedSimpArgs false in
set_option maxRecDepth 100000 in
set_option maxHeartbeats 1000000 in
theorem nest_any (a:Option Addr) (cap:Nat) (Is:List Pl.It) (w:World) (hl:Is.length≤1048576) (hcap:Is.length≤cap) (hv:Mem.zb0 w a Is) (hok:∀x∈Is,x.t.L.length≤1048576∧∀n∈x.t.L,n.path.size≤1048576∧n.data.size≤1048576)
  (r0 r1 r2 r3:TypeId) (x0 x1 x2 x3:Value) (hE:zl4.Errs4 w r0 r1 r2 r3 x0 x1 x2 x3):
  Calls Tryd.prog 15 #[.slice a Is.length cap] w fun e w'=>Nested w r0 r1 x0 x1 Is (Pl.nest (Pl.rowO (Is.map Pl.It.r))) e w'∧Below w.heap.size w w':=by
 have hrl:(Pl.rowO (Is.map Pl.It.r)).length=Is.length:=by rw [Pl.zn9,List.length_map]
 have b0:Below w.heap.size w (w.alloc (.cells #[.map none, .int .i64 0, .slice none 0 0] 54)):=(Below.refl _ _).alloc (Nat.le_refl _) _;have A0:=Mem.Blk.new w #[.map none, .int .i64 0, .slice none 0 0] 54;have k0:=(hE.call b0).c0;have k1:=(hE.call b0).three.c1;by_cases h400:400<Is.length
 ·have t0:(400:Int)<(Is.length:Int):=by omega
  rw [Pl.zx7 _ (by omega)];have HB0:=hide b0;clear hv hok hE b0 A0 hrl;go_enter Tryd.func15,Tryd.ntmps15
  go_wp2
  go_region
  go_wp2
  refine bodyPost_ret (v:= .tuple #[.agg #[.map none, .int .i64 0, .slice none 0 0], .iface r0 x0]) (by simp [results,Tryd.results15,go_sem]) rfl ⟨Or.inr ⟨rfl,_,_,rfl, .inl ⟨h400,rfl,rfl⟩⟩,?_⟩;exact Mem.below_drewN (za HB0) 1
 have t0:¬ (400:Int)<(Is.length:Int):=by omega
 by_cases h12:12<Is.length
 ·have t1:(12:Int)<(Is.length:Int):=by omega
  rw [Pl.zx7 _ (by omega)];have HB0:=hide b0;clear hv hok hE b0 A0 hrl;go_enter Tryd.func15,Tryd.ntmps15
  go_wp2
  go_region
  go_wp2
  refine bodyPost_ret (v:= .tuple #[.agg #[.map none, .int .i64 0, .slice none 0 0], .iface r1 x1]) (by simp [results,Tryd.results15,go_sem]) rfl ⟨Or.inr ⟨rfl,_,_,rfl, .inr ⟨by omega,rfl,rfl⟩⟩,?_⟩;exact Mem.below_drewN (za HB0) 1
 have t1:¬ (12:Int)<(Is.length:Int):=by omega
 have hz:=hide (take_any r1 r2 r3 x1 x2 x3 12 Is a cap _ (by omega) (by omega) hcap (Mem.zc2 hv b0) hok (hE.call b0).three);have n1:1<w.heap.size:=World.block_lt_of_cell? w ⟨_,0,none⟩ hE.three.c1;have n2:¬w.heap.size=1:=by omega
 have n3:¬1=w.heap.size:=by omega
 have HE:=hide (fun W (b:Below w.heap.size w W)=>(hE.call b).three.c1);have HRL:=hide hrl;generalize Pl.rowO (Is.map Pl.It.r)=LL at hz HRL ⊢;generalize hNN:Pl.nest LL=NN;have HNN:=hide hNN;clear hv hok hE k0 k1 hrl hNN;go_enter Tryd.func15,Tryd.ntmps15
 go_wp2_with fail
 generalize w.alloc (.cells #[.map none, .int .i64 0, .slice none 0 0] 54)=w2 at b0 A0 hz ⊢;refine (za hz).mono ?_;rintro e w1 ⟨h1,b1⟩;have bw1:=b0.trans (b1.mono b0.size);have A1:=A0.call b1;have HWW:Hid (w.heap.size<w2.heap.size):=hide A0.lt;clear hz b1 A0 b0
 rcases h1 with ⟨L,kids,q,v,k,a',cap',ht,rfl,hk,hkl,hc, -,⟨⟨hqw,hap⟩,hqm⟩,hfl,hlay⟩|⟨ht,rfl⟩
 ·obtain ⟨va,vcap,rfl,hrest⟩:=hlay;have hlen:(Is.drop k).length=Is.length - k:=List.length_drop;have hR:(Pl.rowO ((Is.drop k).map Pl.It.r)).length=Is.length - k:=by rw [Pl.zn9,List.length_map,hlen]
  have hsz:=Pl.take_sz ht;simp only [Pl.Fo.sz] at hsz;have A2:=A1.alloc (.cells #[.map (some q), .int .i64 (kids.len:Int), .slice va kids.len vcap] 54);have X2:=Mem.Blk.new w1 #[.map (some q), .int .i64 (kids.len:Int), .slice va kids.len vcap] 54;have bA:Below w1.heap.size w1 (w1.alloc (.cells #[.map (some q), .int .i64 (kids.len:Int), .slice va kids.len vcap] 54)):=(Below.refl _ _).alloc (Nat.le_refl _) _;have bw2:=bw1.trans (bA.mono bw1.size);have HL:Hid (Mem.layX (w1.alloc (.cells #[.map (some q), .int .i64 (kids.len:Int), .slice va kids.len vcap] 54)) (fun b=>w2.heap.size≤b) kids (.slice va kids.len vcap)):=hide (Mem.zx4 ⟨va,vcap,rfl,hrest⟩ bA);have HAP:=hide (Mem.yb3 ⟨va,vcap,rfl,hrest⟩ hap bA)
  have HQM:=hide (hqm.call bA);have HFL:=hide hfl;have HLD:Hid ((Is.drop k).length=Is.length - k):=hlen;have HQW:=hide hqw;clear hqm hfl hqw hap;rw [hlen];have hkk:Is.length - k≤12:=by omega
  generalize Is.length - k=rest at hR hkk HLD ⊢;by_cases hr0:0<rest
  ·have u1:(0:Int)<(rest:Int):=by omega
   have hno:Hid (NN=none):=hide (by rw [←za HNN];exact Pl.nest_rest ht (by omega));have e1:=za HE _ bw2;have c20:=A2.cell 0;have c21:=A2.cell 1;have c22:=A2.cell 2;have f20:=A2.fr 0;have f21:=A2.fr 1;have f22:=A2.fr 2;simp only [kGs] at c20 c21 c22;have BB:=hide bw2;clear A1 A2 X2 bA HL hrest bw1 bw2 HNN HE ht hlen;go_wp2
   go_region
   go_wp2
   refine bodyPost_ret (v:= .tuple #[.agg #[.map none, .int .i64 0, .slice none 0 0], .iface r1 x1]) (by simp [results,Tryd.results15,go_sem,c20,c21,c22]) rfl ⟨Or.inr ⟨za hno,_,_,rfl, .inr ⟨by omega,rfl,rfl⟩⟩,?_⟩
   first |exact Mem.below_drewN (za BB) 1|exact (((Mem.below_drewN (za BB) 1).setCell (Nat.le_refl _) _).setCell (Nat.le_refl _) _).setCell (Nat.le_refl _) _
  have u1:¬ (0:Int)<(rest:Int):=by omega
  have hdz:=kids.shape.depth_le;have hcall:=hide (zl4.depth_any _ 1000 (Nat.le_refl _) kids.shape (some q) (kids.len:Int) _ _ (by have :=za HRL;omega) (Mem.layX_lay (za HL)));go_wp2_with fail
  generalize w1.alloc (.cells #[.map (some q), .int .i64 (kids.len:Int), .slice va kids.len vcap] 54)=w3 at bA bw2 HL HAP HQM A2 X2 hcall ⊢;refine (za hcall).mono ?_;rintro e w4 ⟨rfl,b4⟩;have bw4:=bw2.trans (b4.mono bw2.size);have A4:=A2.call b4;have X4:=X2.call b4;have HL4:Hid (Mem.layX w4 (fun b=>w2.heap.size≤b) kids (.slice va kids.len vcap)):=hide (Mem.zx4 (za HL) b4);have HQ4:=hide ((za HQM).call b4);have HA4:=hide (Mem.yb3 (za HL) (za HAP) b4);clear HQM HAP;have c20:=A4.cell 0;have c21:=A4.cell 1;have c22:=A4.cell 2;have f20:=A4.fr 0;have f21:=A4.fr 1;have f22:=A4.fr 2;have c40:=X4.cell 0;have c41:=X4.cell 1;have c42:=X4.cell 2;simp only [kGs] at c20 c21 c22 c40 c41 c42;have hs1:w2.heap.size≤w1.heap.size∨True:= .inr trivial;clear hcall HL b4 A2 X2 A4 X4 hrest hs1;by_cases h4:4<kids.shape.depth+1
  ·have u2:(4:Int)<(kids.shape.depth:Int)+1:=by omega
   have hno:Hid (NN=none):=hide (by rw [←za HNN];exact Pl.nest_deep ht h4);have e1:=za HE _ bw4;have BB:=hide bw4;clear A1 bA bw1 bw2 HNN HE ht hlen bw4 HL4;go_wp2
   go_region
   go_wp2
   refine bodyPost_ret (v:= .tuple #[.agg #[.map none, .int .i64 0, .slice none 0 0], .iface r1 x1]) (by simp [results,Tryd.results15,go_sem,c20,c21,c22]) rfl ⟨Or.inr ⟨za hno,_,_,rfl, .inr ⟨by omega,rfl,rfl⟩⟩,?_⟩
   first |exact Mem.below_drewN (za BB) 1|exact (((Mem.below_drewN (za BB) 1).setCell (Nat.le_refl _) _).setCell (Nat.le_refl _) _).setCell (Nat.le_refl _) _
  ·have u2:¬ (4:Int)<(kids.shape.depth:Int)+1:=by omega
   have hyes:Hid (NN=some kids.shape):=hide (by rw [←za HNN];exact Pl.nest_ok (by have :=za HRL;omega) ht (by omega) h4);have HW2:Hid (w.heap.size<w2.heap.size):=HWW;have BB:=hide bw4;clear A1 bA bw1 bw2 HNN HE ht hlen bw4;go_wp2
   refine bodyPost_ret (v:= .tuple #[.agg #[.map (some q), .int .i64 (kids.len:Int), .slice va kids.len vcap], .nilIface]) (by simp [results,Tryd.results15,go_sem,c20,c21,c22]) rfl ⟨Or.inl ⟨L,kids,q,va,vcap,za hyes,rfl,?_,?_,?_⟩,?_⟩
   ·have h1:=za HW2;have h2:=za HQW;exact ⟨⟨by omega,Mem.zu0 (fun b hb hlt=>by rw [heap_setCell_other _ _ _ _ (by show b≠w.heap.size;omega),heap_setCell_other _ _ _ _ (by show b≠w.heap.size;omega),heap_setCell_other _ _ _ _ (by show b≠w.heap.size;omega)]) (za HL4) (za HA4)⟩,(((za HQ4).set _ _ (by show q≠w.heap.size;omega)).set _ _ (by show q≠w.heap.size;omega)).set _ _ (by show q≠w.heap.size;omega)⟩
   ·have h3:=za HFL;have h4:Is.drop k=[]:=List.eq_nil_of_length_eq_zero (by have :=za HLD;omega);rw [h4,List.map_nil,List.append_nil] at h3;exact h3
   ·refine Mem.zk3 (fun b hb hlt=>⟨?_,by simpa using hlt,?_⟩) (za HL4)
    ·have :=za HW2;omega
    ·have :=za HW2;rw [heap_setCell_other _ _ _ _ (by show b≠w.heap.size;omega),heap_setCell_other _ _ _ _ (by show b≠w.heap.size;omega),heap_setCell_other _ _ _ _ (by show b≠w.heap.size;omega)]
   ·exact (((za BB).setCell (Nat.le_refl _) _).setCell (Nat.le_refl _) _).setCell (Nat.le_refl _) _
 ·have hno:Hid (NN=none):=hide (by rw [←za HNN];exact Pl.nest_fail ht);have A2:=A1.alloc (.cells #[.map none, .int .i64 0, .slice none 0 0] 54);have bw2:=bw1.alloc bw1.size (.cells #[.map none, .int .i64 0, .slice none 0 0] 54);have c20:=A2.cell 0;have c21:=A2.cell 1;have c22:=A2.cell 2;have f20:=A2.fr 0;have f21:=A2.fr 1;have f22:=A2.fr 2;simp only [kGs] at c20 c21 c22;have BB:=hide bw2;clear A1 A2 bw1 bw2 HNN HE ht;go_wp2
  refine bodyPost_ret (v:= .tuple #[.agg #[.map none, .int .i64 0, .slice none 0 0], .iface r1 x1]) (by simp [results,Tryd.results15,go_sem,c20,c21,c22]) rfl ⟨Or.inr ⟨za hno,_,_,rfl, .inr ⟨by omega,rfl,rfl⟩⟩,?_⟩
  first |exact za BB|exact (((za BB).setCell (Nat.le_refl _) _).setCell (Nat.le_refl _) _).setCell (Nat.le_refl _) _
end zo5
end
section
open Go.RowKit Go.Extern.Stop Go.Stop Go.Extern
namespace WIs
theorem typeOfE (v:Value) (w:World):(ReflectliteType.typeOf #[.iface 153 v]).run Tryd.prog w= .ok (.iface 130 (.agg #[.pointer (some ⟨6,153,none⟩)])) w:=by kernel_rfl
theorem comparableE:∃F,find Tryd.f104=some F∧∀w,(F #[.agg #[.pointer (some ⟨6,153,none⟩)]]).run Tryd.prog w= .ok (.bool true) w:=
 ⟨ReflectliteType.method fun t=>do Rtype.noPackHeld "Comparable" t;pure (.bool (←typeInfo t).comparable),by kernel_rfl,fun w=>by kernel_rfl⟩
theorem methodC (v:Value) (w:World):(Go.method 292 130 v "Comparable").run Tryd.prog w= .ok (104,v) w:=by kernel_rfl
theorem compI:(Tryd.prog.info? 153).map (·.comparable)=some true:=by kernel_rfl
theorem sizeI:(Tryd.prog.info? 181).map (·.size)=some 1:=by kernel_rfl
theorem noIs (v:Value) (xT:TypeId) (w:World):(Instr.typeAssert (.iface 153 v) xT 132 true).run Tryd.prog w= .ok (.tuple #[.nilIface, .bool false]) w:=run_typeAssert_lacksB Tryd.underlying132 (by kernel_rfl) (by kernel_rfl) v xT w
theorem noUnwrap (v:Value) (xT:TypeId) (w:World):(Instr.typeAssert (.iface 153 v) xT 135 true).run Tryd.prog w= .ok (.tuple #[.nilIface, .bool false]) w:=run_typeAssert_lacksB Tryd.underlying135 (by kernel_rfl) (by kernel_rfl) v xT w
theorem noUnwraps (v:Value) (xT:TypeId) (w:World):(Instr.typeAssert (.iface 153 v) xT 137 true).run Tryd.prog w= .ok (.tuple #[.nilIface, .bool false]) w:=run_typeAssert_lacksB Tryd.underlying137 (by kernel_rfl) (by kernel_rfl) v xT w
theorem same (a:Addr) (w:World):
  Calls Tryd.prog 30 #[.iface 153 (.pointer (some a)), .iface 153 (.pointer (some a))] w fun e w'=>e= .returned (.bool true)∧w'=w:=by
 obtain ⟨i,hi,hcmp⟩:=Option.map_eq_some_iff.1 compI;obtain ⟨j,hj,hjs⟩:=Option.map_eq_some_iff.1 sizeI;have hT:=@run_callFunc_extern Tryd.prog 46 _ ReflectliteType.typeOf Tryd.func46 (by kernel_rfl) (by kernel_rfl) (by kernel_rfl) (by kernel_rfl);obtain ⟨F,hF,cT⟩:=comparableE;have hC:=@run_callFunc_extern Tryd.prog 104 _ F Tryd.func104 (by kernel_rfl) (by kernel_rfl) (by kernel_rfl) hF;have tT:=typeOfE;have mR:=methodC;have heq:=run_eql_iface_ptr_same (P:=Tryd.prog) w a Tryd.underlying56 Tryd.underlying153 hi hcmp hj;go_enter Tryd.func30,Tryd.ntmps30
 go_wp2
 refine wp_loop_rounds 1 ?_;rw [rounds_succ];go_wp2
 go_ret
 exact ⟨rfl,rfl⟩
theorem other (a b:Addr) (ca cb:Array Value) (ta tb:TypeId) (w:World) (hne:a≠b) (ha:w.heap[a.block]? =some (.cells ca ta (0,0))) (hb:w.heap[b.block]? =some (.cells cb tb (0,0))):
  Calls Tryd.prog 30 #[.iface 153 (.pointer (some a)), .iface 153 (.pointer (some b))] w fun e w'=>e= .returned (.bool false)∧w'=w:=by
 obtain ⟨i,hi,hcmp⟩:=Option.map_eq_some_iff.1 compI;obtain ⟨j,hj,hjs⟩:=Option.map_eq_some_iff.1 sizeI;have hT:=@run_callFunc_extern Tryd.prog 46 _ ReflectliteType.typeOf Tryd.func46 (by kernel_rfl) (by kernel_rfl) (by kernel_rfl) (by kernel_rfl);obtain ⟨F,hF,cT⟩:=comparableE;have hC:=@run_callFunc_extern Tryd.prog 104 _ F Tryd.func104 (by kernel_rfl) (by kernel_rfl) (by kernel_rfl) hF;have tT:=typeOfE;have mR:=methodC;have nE:=noIs;have uE:=noUnwrap;have vE:=noUnwraps;have heq:=run_eql_iface_ptr_other (P:=Tryd.prog) w Tryd.underlying56 Tryd.underlying153 hi hcmp hj (by rw [hjs];decide) hne ha hb;go_enter Tryd.func30,Tryd.ntmps30
 go_wp2
 refine wp_loop_rounds 1 ?_;rw [rounds_succ];go_wp2
 go_ret
 exact ⟨rfl,rfl⟩
end WIs
end
section
open Go.RowKit
namespace WIs
structure Six (w:World) (x:Nat→Addr):Prop where
 c0:w.cell? ⟨0,0,none⟩=some (.iface 153 (.pointer (some (x 0))))
 c1:w.cell? ⟨1,0,none⟩=some (.iface 153 (.pointer (some (x 1))))
 c2:w.cell? ⟨2,0,none⟩=some (.iface 153 (.pointer (some (x 2))))
 c3:w.cell? ⟨3,0,none⟩=some (.iface 153 (.pointer (some (x 3))))
 c4:w.cell? ⟨4,0,none⟩=some (.iface 153 (.pointer (some (x 4))))
 c5:w.cell? ⟨5,0,none⟩=some (.iface 153 (.pointer (some (x 5))))
 row:∀k,k<6→∃c t,w.heap[(x k).block]? =some (.cells c t (0,0))
 apart:∀i j,i<6→j<6→i≠j→x i≠x j
theorem Six.call {w w':World} {x:Nat→Addr} (h:Six w x) (b:Below w.heap.size w w'):Six w' x:=
 ⟨(b.cell (p:=⟨_,0,none⟩) (World.block_lt_of_cell? w ⟨_,0,none⟩ h.c0)).trans h.c0,(b.cell (p:=⟨_,0,none⟩) (World.block_lt_of_cell? w ⟨_,0,none⟩ h.c1)).trans h.c1,(b.cell (p:=⟨_,0,none⟩) (World.block_lt_of_cell? w ⟨_,0,none⟩ h.c2)).trans h.c2,(b.cell (p:=⟨_,0,none⟩) (World.block_lt_of_cell? w ⟨_,0,none⟩ h.c3)).trans h.c3,(b.cell (p:=⟨_,0,none⟩) (World.block_lt_of_cell? w ⟨_,0,none⟩ h.c4)).trans h.c4,(b.cell (p:=⟨_,0,none⟩) (World.block_lt_of_cell? w ⟨_,0,none⟩ h.c5)).trans h.c5,
  fun k hk=>by
   obtain ⟨c,t,hr⟩:=h.row k hk
   exact ⟨c,t,(b.block _ (Array.getElem?_eq_some_iff.1 hr).1).trans hr⟩,h.apart⟩
theorem Six.errs {w:World} {x:Nat→Addr} (h:Six w x):zn7.Errs w 153 153 153 (.pointer (some (x 1))) (.pointer (some (x 2))) (.pointer (some (x 3))):=⟨h.c1,h.c2,h.c3⟩
theorem Six.other {w:World} {x:Nat→Addr} (h:Six w x) (i j:Nat) (hi:i<6) (hj:j<6) (hij:i≠j):
  Calls Tryd.prog 30 #[.iface 153 (.pointer (some (x i))), .iface 153 (.pointer (some (x j)))] w fun e w'=>e= .returned (.bool false)∧w'=w:=by
 obtain ⟨c1,t1,h1⟩:=h.row i hi;obtain ⟨c2,t2,h2⟩:=h.row j hj;exact WIs.other (x i) (x j) c1 c2 t1 t2 w (h.apart i j hi hj hij) h1 h2
set_option maxRecDepth 100000 in
set_option maxHeartbeats 400000 in
theorem code0 (x:Nat→Addr) (w:World) (h:Six w x):
  Calls Tryd.prog 16 #[.iface 153 (.pointer (some (x 0)))] w fun e w'=>e= .returned (.int .i64 2)∧w'=w:=by
 have k0:=h.c0;have k2:=h.c2;have k3:=h.c3;have k4:=h.c4;have k5:=h.c5;have H:=hide h;clear h;go_enter Tryd.func16,Tryd.ntmps16
 go_wp2_with fail
 refine (WIs.same (x 0) _).mono ?_;rintro e w1 ⟨rfl,rfl⟩;go_wp2
 go_ret
 exact ⟨rfl,rfl⟩
set_option maxRecDepth 100000 in
set_option maxHeartbeats 400000 in
theorem code1 (x:Nat→Addr) (w:World) (h:Six w x):
  Calls Tryd.prog 16 #[.iface 153 (.pointer (some (x 1)))] w fun e w'=>e= .returned (.int .i64 1)∧w'=w:=by
 have k0:=h.c0;have k2:=h.c2;have k3:=h.c3;have k4:=h.c4;have k5:=h.c5;have H:=hide h;clear h;go_enter Tryd.func16,Tryd.ntmps16
 go_wp2_with fail
 refine ((za H).other 1 0 (by decide) (by decide) (by decide)).mono ?_;rintro e w1 ⟨rfl,rfl⟩;go_wp2_with fail
 refine ((za H).other 1 2 (by decide) (by decide) (by decide)).mono ?_;rintro e w3 ⟨rfl,rfl⟩;go_wp2_with fail
 refine ((za H).other 1 3 (by decide) (by decide) (by decide)).mono ?_;rintro e w4 ⟨rfl,rfl⟩;go_wp2_with fail
 refine ((za H).other 1 4 (by decide) (by decide) (by decide)).mono ?_;rintro e w5 ⟨rfl,rfl⟩;go_wp2_with fail
 refine ((za H).other 1 5 (by decide) (by decide) (by decide)).mono ?_;rintro e w6 ⟨rfl,rfl⟩;go_wp2
 go_ret
 exact ⟨rfl,rfl⟩
end WIs
end
end Go.Proofs.YtpakookhgpphaaaDoor
