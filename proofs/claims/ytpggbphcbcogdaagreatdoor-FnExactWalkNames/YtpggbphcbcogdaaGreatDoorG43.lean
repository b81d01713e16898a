/- Several texts of one claim in one file: WNestX, WWnI, WLawN, WLawR. -/
import Derived.Test.YtpggbphcbcogdaaGreatDoorG42
import Derived.Test.YtpggbphcbcogdaaGreatDoorPlainWn
import Derived.Test.YtpggbphcbcogdaaGreatDoorWWnF
namespace Go.Proofs.YtpggbphcbcogdaaGreatDoor
section
open Go.RowKit
namespace zn9
def Nested (w:World) (r0 r1:TypeId) (x0 x1:Value) (Is:List Pl.It) (NN:Option Pl.Fo) (e:Ending) (w':World):Prop:=
 (∃L k q a cap,NN=some k.shape∧e= .returned (.tuple #[.agg #[.map (some q), .int .i64 (k.len:Int), .slice a k.len cap], .nilIface])∧((w.heap.size≤q∧Mem.apart w' q k (.slice a k.len cap))∧Mem.ownM w' q L)∧((Pl.Fx.cons L k .nil).okX∧(Pl.Fx.cons L k .nil).flat=Is.map Pl.It.r)∧Mem.layX w' (fun b=>w.heap.size≤b) k (.slice a k.len cap))∨
 (NN=none∧∃r x,e= .returned (.tuple #[.agg #[.map none, .int .i64 0, .slice none 0 0], .iface r x])∧((400<Is.length∧r=r0∧x=x0)∨(Is.length≤400∧r=r1∧x=x1)))
set_option linter.unusedSimpArgs false in
set_option maxRecDepth 100000 in
set_option maxHeartbeats 1000000 in
theorem nest_any (a:Option Addr) (cap:Nat) (Is:List Pl.It) (w:World) (hl:Is.length≤1048576) (hcap:Is.length≤cap) (hv:Mem.zb8 w a Is) (hok:∀x∈Is,x.t.L.length≤1048576∧∀n∈x.t.L,n.path.size≤1048576∧n.data.size≤1048576)
  (r0 r1 r2 r3:TypeId) (x0 x1 x2 x3:Value) (hE:zh4.Errs4 w r0 r1 r2 r3 x0 x1 x2 x3):
  Calls Tryz.prog 22 #[.slice a Is.length cap] w fun e w'=>Nested w r0 r1 x0 x1 Is (Pl.nest (Pl.rowO (Is.map Pl.It.r))) e w'∧Below w.heap.size w w':=by
 have hrl:(Pl.rowO (Is.map Pl.It.r)).length=Is.length:=by rw [Pl.zj7,List.length_map]
 have b0:Below w.heap.size w (w.alloc (.cells #[.map none, .int .i64 0, .slice none 0 0] 62)):=bE0;have A0:=Mem.Blk.new w #[.map none, .int .i64 0, .slice none 0 0] 62;have k0:=(hE.call b0).c0;have k1:=(hE.call b0).three.c1;by_cases h400:400<Is.length
 ·have t0:(400:Int)<(Is.length:Int):=by omega
  rw [Pl.zt5 _ (by omega)];have HB0:=hide b0;clear hv hok hE b0 A0 hrl;go_enter Tryz.func22,Tryz.ntmps22
  go_wp2
  go_region
  go_wp2
  refine bodyPost_ret (v:= .tuple #[.agg #[.map none, .int .i64 0, .slice none 0 0], .iface r0 x0]) (by simp [results,Tryz.results22,go_sem]) rfl ⟨Or.inr ⟨rfl,_,_,rfl, .inl ⟨h400,rfl,rfl⟩⟩,?_⟩;exact Mem.below_drewN (za HB0) 1
 have t0:¬ (400:Int)<(Is.length:Int):=by omega
 by_cases h12:12<Is.length
 ·have t1:(12:Int)<(Is.length:Int):=by omega
  rw [Pl.zt5 _ (by omega)];have HB0:=hide b0;clear hv hok hE b0 A0 hrl;go_enter Tryz.func22,Tryz.ntmps22
  go_wp2
  go_region
  go_wp2
  refine bodyPost_ret (v:= .tuple #[.agg #[.map none, .int .i64 0, .slice none 0 0], .iface r1 x1]) (by simp [results,Tryz.results22,go_sem]) rfl ⟨Or.inr ⟨rfl,_,_,rfl, .inr ⟨by omega,rfl,rfl⟩⟩,?_⟩;exact Mem.below_drewN (za HB0) 1
 have t1:¬ (12:Int)<(Is.length:Int):=by omega
 have hz:=hide (take_any r1 r2 r3 x1 x2 x3 12 Is a cap _ (by omega) (by omega) hcap (Mem.zd4 hv b0) hok (hE.call b0).three);have n1:1<w.heap.size:=World.block_lt_of_cell? w ⟨_,0,none⟩ hE.three.c1;have n2:¬w.heap.size=1:=by omega
 have n3:¬1=w.heap.size:=by omega
 have HE:=hide (fun W (b:Below w.heap.size w W)=>(hE.call b).three.c1);have HRL:=hide hrl;generalize Pl.rowO (Is.map Pl.It.r)=LL at hz HRL ⊢;generalize hNN:Pl.nest LL=NN;have HNN:=hide hNN;clear hv hok hE k0 k1 hrl hNN;go_enter Tryz.func22,Tryz.ntmps22
 go_wp2_with fail
 generalize w.alloc (.cells #[.map none, .int .i64 0, .slice none 0 0] 62)=w2 at b0 A0 hz ⊢;refine (za hz).mono ?_;rintro e w1 ⟨h1,b1⟩;have bw1:=b0.trans (b1.mono b0.size);have A1:=A0.call b1;have HWW:Hid (w.heap.size<w2.heap.size):=hide A0.lt;clear hz b1 A0 b0
 rcases h1 with ⟨L,kids,q,v,k,a',cap',ht,rfl,hk,hkl,hc, -,⟨⟨hqw,hap⟩,hqm⟩,hfl,hlay⟩|⟨ht,rfl⟩
 ·obtain ⟨va,vcap,rfl,hrest⟩:=hlay;have hlen:(Is.drop k).length=Is.length - k:=List.length_drop;have hR:(Pl.rowO ((Is.drop k).map Pl.It.r)).length=Is.length - k:=by rw [Pl.zj7,List.length_map,hlen]
  have hsz:=Pl.take_sz ht;simp only [Pl.Fo.sz] at hsz;have A2:=A1.alloc (.cells #[.map (some q), .int .i64 (kids.len:Int), .slice va kids.len vcap] 62);have X2:=Mem.Blk.new w1 #[.map (some q), .int .i64 (kids.len:Int), .slice va kids.len vcap] 62;have bA:Below w1.heap.size w1 (w1.alloc (.cells #[.map (some q), .int .i64 (kids.len:Int), .slice va kids.len vcap] 62)):=bE0;have bw2:=bw1.trans (bA.mono bw1.size);have HL:Hid (Mem.layX (w1.alloc (.cells #[.map (some q), .int .i64 (kids.len:Int), .slice va kids.len vcap] 62)) (fun b=>w2.heap.size≤b) kids (.slice va kids.len vcap)):=hide (Mem.zl ⟨va,vcap,rfl,hrest⟩ bA);have HAP:=hide (Mem.zx7 ⟨va,vcap,rfl,hrest⟩ hap bA)
  have HQM:=hide (hqm.call bA);have HFL:=hide hfl;have HLD:Hid ((Is.drop k).length=Is.length - k):=hlen;have HQW:=hide hqw;clear hqm hfl hqw hap;rw [hlen];have hkk:Is.length - k≤12:=by omega
  generalize Is.length - k=rest at hR hkk HLD ⊢;by_cases hr0:0<rest
  ·have u1:(0:Int)<(rest:Int):=by omega
   have hno:Hid (NN=none):=hide (by rw [←za HNN];exact Pl.nest_rest ht (by omega));have e1:=za HE _ bw2;obtain ⟨⟨c20,c21,c22⟩,f20,f21,f22⟩:=jf3 A2;have BB:=hide bw2;clear A1 A2 X2 bA HL hrest bw1 bw2 HNN HE ht hlen;go_wp2
   go_region
   go_wp2
   refine bodyPost_ret (v:= .tuple #[.agg #[.map none, .int .i64 0, .slice none 0 0], .iface r1 x1]) (by simp [results,Tryz.results22,go_sem,c20,c21,c22]) rfl ⟨Or.inr ⟨za hno,_,_,rfl, .inr ⟨by omega,rfl,rfl⟩⟩,?_⟩
   first |exact Mem.below_drewN (za BB) 1|exact (((Mem.below_drewN (za BB) 1).setCell (Nat.le_refl _) _).setCell (Nat.le_refl _) _).setCell (Nat.le_refl _) _
  have u1:¬ (0:Int)<(rest:Int):=by omega
  have hdz:=kids.shape.depth_le;have hcall:=hide (zh4.depth_any _ 1000 (Nat.le_refl _) kids.shape (some q) (kids.len:Int) _ _ (by have :=za HRL;omega) (Mem.layX_lay (za HL)));go_wp2_with fail
  generalize w1.alloc (.cells #[.map (some q), .int .i64 (kids.len:Int), .slice va kids.len vcap] 62)=w3 at bA bw2 HL HAP HQM A2 X2 hcall ⊢;refine (za hcall).mono ?_;rintro e w4 ⟨rfl,b4⟩;have bw4:=bw2.trans (b4.mono bw2.size);have A4:=A2.call b4;have X4:=X2.call b4;have HL4:Hid (Mem.layX w4 (fun b=>w2.heap.size≤b) kids (.slice va kids.len vcap)):=hide (Mem.zl (za HL) b4);have HQ4:=hide ((za HQM).call b4);have HA4:=hide (Mem.zx7 (za HL) (za HAP) b4);clear HQM HAP;obtain ⟨⟨c20,c21,c22⟩,f20,f21,f22⟩:=jf3 A4;obtain ⟨c40,c41,c42⟩:=jc3 X4;have hs1:w2.heap.size≤w1.heap.size∨True:= .inr trivial;clear hcall HL b4 A2 X2 A4 X4 hrest hs1;by_cases h4:4<kids.shape.depth+1
  ·have u2:(4:Int)<(kids.shape.depth:Int)+1:=by omega
   have hno:Hid (NN=none):=hide (by rw [←za HNN];exact Pl.nest_deep ht h4);have e1:=za HE _ bw4;have BB:=hide bw4;clear A1 bA bw1 bw2 HNN HE ht hlen bw4 HL4;go_wp2
   go_region
   go_wp2
   refine bodyPost_ret (v:= .tuple #[.agg #[.map none, .int .i64 0, .slice none 0 0], .iface r1 x1]) (by simp [results,Tryz.results22,go_sem,c20,c21,c22]) rfl ⟨Or.inr ⟨za hno,_,_,rfl, .inr ⟨by omega,rfl,rfl⟩⟩,?_⟩
   first |exact Mem.below_drewN (za BB) 1|exact (((Mem.below_drewN (za BB) 1).setCell (Nat.le_refl _) _).setCell (Nat.le_refl _) _).setCell (Nat.le_refl _) _
  ·have u2:¬ (4:Int)<(kids.shape.depth:Int)+1:=by omega
   have hyes:Hid (NN=some kids.shape):=hide (by rw [←za HNN];exact Pl.nest_ok (by have :=za HRL;omega) ht (by omega) h4);have HW2:Hid (w.heap.size<w2.heap.size):=HWW;have BB:=hide bw4;clear A1 bA bw1 bw2 HNN HE ht hlen bw4;go_wp2
   refine bodyPost_ret (v:= .tuple #[.agg #[.map (some q), .int .i64 (kids.len:Int), .slice va kids.len vcap], .nilIface]) (by simp [results,Tryz.results22,go_sem,c20,c21,c22]) rfl ⟨Or.inl ⟨L,kids,q,va,vcap,za hyes,rfl,?_,?_,?_⟩,?_⟩
   ·have h1:=za HW2;have h2:=za HQW;exact ⟨⟨by omega,Mem.zw9 (fun b hb hlt=>by rw [heap_setCell_other _ _ _ _ (by show b≠w.heap.size;omega),heap_setCell_other _ _ _ _ (by show b≠w.heap.size;omega),heap_setCell_other _ _ _ _ (by show b≠w.heap.size;omega)]) (za HL4) (za HA4)⟩,(((za HQ4).set _ _ (by show q≠w.heap.size;omega)).set _ _ (by show q≠w.heap.size;omega)).set _ _ (by show q≠w.heap.size;omega)⟩
   ·have h3:=za HFL;have h4:Is.drop k=[]:=List.eq_nil_of_length_eq_zero (by have :=za HLD;omega);rw [h4,List.map_nil,List.append_nil] at h3;exact h3
   ·refine Mem.zl0 (fun b hb hlt=>⟨?_,by simpa using hlt,?_⟩) (za HL4)
    ·have :=za HW2;omega
    ·have :=za HW2;rw [heap_setCell_other _ _ _ _ (by show b≠w.heap.size;omega),heap_setCell_other _ _ _ _ (by show b≠w.heap.size;omega),heap_setCell_other _ _ _ _ (by show b≠w.heap.size;omega)]
   ·exact (((za BB).setCell (Nat.le_refl _) _).setCell (Nat.le_refl _) _).setCell (Nat.le_refl _) _
 ·have hno:Hid (NN=none):=hide (by rw [←za HNN];exact Pl.nest_fail ht);have A2:=A1.alloc (.cells #[.map none, .int .i64 0, .slice none 0 0] 62);have bw2:=bw1.alloc bw1.size (.cells #[.map none, .int .i64 0, .slice none 0 0] 62);obtain ⟨⟨c20,c21,c22⟩,f20,f21,f22⟩:=jf3 A2;have BB:=hide bw2;clear A1 A2 bw1 bw2 HNN HE ht;go_wp2
  refine bodyPost_ret (v:= .tuple #[.agg #[.map none, .int .i64 0, .slice none 0 0], .iface r1 x1]) (by simp [results,Tryz.results22,go_sem,c20,c21,c22]) rfl ⟨Or.inr ⟨za hno,_,_,rfl, .inr ⟨by omega,rfl,rfl⟩⟩,?_⟩
  first |exact za BB|exact (((za BB).setCell (Nat.le_refl _) _).setCell (Nat.le_refl _) _).setCell (Nat.le_refl _) _
end zn9
end
section
open Go.RowKit
namespace Pl
theorem leavesN_len (X:Fx):(za7 X).length≤X.sz:=by
 induction X with
 |nil=>exact Nat.le_refl _
 |cons L k m ih1 ih2=>
  rw [za7,List.length_append,Fx.sz]
  split
  ·rw [List.length_singleton];omega
  ·omega
theorem kid_join {L:List Nd} {k:Fx} (ho:(Fx.cons L k .nil).okX) {q:ByteArray} (hq:za2 q=true) (t:ByteArray) (ht:∃M∈za7 (.cons L k .nil),t∈za6 q M):t.size≤8000∧za2 (zc6 q t).1=true:=by
 obtain ⟨x,hx2,ht2⟩:=(zu7 q t _ ho).2 ht;obtain ⟨n, -,h1,h2⟩:=kid_in (Fx.ok_mem ho x hx2).1 ht2;have e:=zv2 h2 h1;have h3:=(zq8 h2).1 t (by rw [h1];simp)
 have ht8:t.size≤8000:=by
  have h5:t.size≤20:=by unfold zb4 at h3;exact (of_decide_eq_true h3).2.1
  omega
 refine ⟨ht8,?_⟩;have hq8:=zf1 hq;unfold zc6;rw [if_neg (by omega),if_neg (by simp [hq,h3]),zc0 hq]
 split
 ·rfl
 ·show za2 (ze8 q t)=true;rw [e];exact h2
end Pl
namespace WWn
set_option linter.unusedSimpArgs false in
set_option maxRecDepth 100000 in
set_option maxHeartbeats 2000000 in
theorem zk6 (a:Option Addr) (cap:Nat) (Is:List Pl.It) (q:ByteArray) (w:World) (hl:Is.length≤1048576) (hcap:Is.length≤cap) (hv:Mem.zb8 w a Is) (hok:∀x∈Is,x.t.L.length≤1048576∧∀n∈x.t.L,n.path.size≤1048576∧n.data.size≤1048576) (hq:q.size≤1048576)
  (r0 r1 r2 r3:TypeId) (x0 x1 x2 x3:Value) (hE:zh4.Errs4 w r0 r1 r2 r3 x0 x1 x2 x3) (WO:List ByteArray) (hWO:Pl.wnO (Is.map Pl.It.r) q=WO):
  Calls Tryz.prog 7 #[.slice a Is.length cap, .string q] w fun e w'=>∃v,e= .returned v∧zf0.Own w' w.heap.size v WO∧Below w.heap.size w w':=by
 have hno:=hide (zn9.nest_any a cap Is w hl hcap hv hok _ _ _ _ _ _ _ _ hE);have HRB:Hid (Pl.nest (Pl.rowO (Is.map Pl.It.r))=none→[]=WO):=fun h=>by rw [←hWO,Pl.wnO,if_neg (fun c=>by unfold Pl.wnB at c;rw [h] at c;simp at c)]
 have HRP:Hid (Pl.za2 q=false→[]=WO):=fun h=>by rw [←hWO,Pl.wnO,if_neg (fun c=>by unfold Pl.wnB at c;rw [h] at c;simp at c)]
 have HRC:Hid (∀L k,Pl.nest (Pl.rowO (Is.map Pl.It.r))=some (Pl.Fx.shape k)→(Pl.Fx.cons L k .nil).okX→(Pl.Fx.cons L k .nil).flat=Is.map Pl.It.r→Pl.za2 q=true→(Pl.za7 (.cons L k .nil)).length≤12∧(∀t,(∃M∈Pl.za7 (.cons L k .nil),t∈Pl.za6 q M)→t.size≤8000∧Pl.za2 (Pl.zc6 q t).1=true)∧∀l,Pl.Rise l→(∀t,t∈l↔∃M∈Pl.za7 (.cons L k .nil),t∈Pl.za6 q M)→l.filter (fun t=>(Pl.zc3 L k (Pl.zc6 q t).1).isSome)=WO):=fun L k h1 h2 h3 h4=>by
  refine ⟨?_,Pl.kid_join h2 h4,fun l hr hm=>by rw [←hWO];exact Pl.wn_same (by rw [h1];rfl) (Pl.zy0 h1 h3) h2 h3 h4 hr hm⟩;have h5:=congrArg List.length h3;rw [Pl.Fx.zt] at h5;have h6:=Pl.nest_len h1;have h7:=Pl.leavesN_len (.cons L k .nil);omega
 generalize Pl.nest (Pl.rowO (Is.map Pl.It.r))=NN at hno HRB HRC;clear hv hok hE hWO;go_enter Tryz.func7,Tryz.ntmps7
 go_wp2_with fail
 refine (za hno).mono ?_;rintro e w2 ⟨hN,b1⟩;clear hno
 rcases hN with ⟨L,k,qm,a1,cap1,hNN,rfl,⟨-,hqm⟩,⟨hko,hfl⟩,hlay⟩|⟨hNN,r,y,rfl, -⟩
 rotate_left
 ·have e:=za HRB hNN;subst e;have HB:=hide (b1.alloc b1.size (.cells #[.map none, .int .i64 0, .slice none 0 0] 62));clear HRB HRP HRC b1 hNN;go_wp2
  go_ret
  exact ⟨_,rfl,⟨rfl, .inl ⟨rfl,rfl⟩⟩,za HB⟩
 ·subst hNN;have b3:Below w2.heap.size w2 (w2.alloc (.cells #[.map (some qm), .int .i64 (k.len:Int), .slice a1 k.len cap1] 62)):=bE0;have N3:=Mem.Blk.new w2 #[.map (some qm), .int .i64 (k.len:Int), .slice a1 k.len cap1] 62;have HX:=hide (⟨b1,hqm,hko,hlay⟩:_∧_∧_∧_);have hrc:=hide (za HRC L k rfl hko hfl);clear hlay hqm hko HRC HRB b1 hfl;go_wp2_with fail
  generalize w2.alloc (.cells #[.map (some qm), .int .i64 (k.len:Int), .slice a1 k.len cap1] 62)=w3 at b3 N3 ⊢;refine (zh3.zh9 q _ hq).mono ?_;rintro e w4 ⟨rfl,b4⟩;have N4:=N3.call b4;have b24:=b3.trans (b4.mono b3.size);have BW:=hide ((za HX).1.trans (b24.mono (za HX).1.size));cases hpb:Pl.za2 q with
  |false=>
   have e:=za HRP hpb;subst e;clear HRP hrc N3 b3 b4 N4 b24 HX;go_wp2
   go_ret
   exact ⟨_,rfl,⟨rfl, .inl ⟨rfl,rfl⟩⟩,za BW⟩
  |true=>
   obtain ⟨h12,hkj,hsm⟩:=za hrc hpb;obtain ⟨-,hqm,hko,hlay⟩:=za HX;have HS:=hide (seen_any L k qm a1 cap1 q w4 hko (hqm.call b24) (Mem.layX_weak (Mem.zl hlay b24) (N':=fun j=>j<w4.heap.size) (fun b _ hb=>hb)) h12 (Nat.le_trans (Pl.zf1 hpb) (by decide)) hkj WO hsm);obtain ⟨n0,n1,n2⟩:=jc3 N4;have hz:w.heap.size≤w4.heap.size:=(za BW).size;clear HRP hrc N3 b3 b4 N4 b24 HX h12 hkj hsm hqm hko hlay hpb;go_wp2_with fail
   refine (za HS).mono ?_;rintro e w5 ⟨v,rfl,ho,b5⟩;have HO:=hide (⟨Mem.zf9 ho hz,(za BW).trans (b5.mono hz)⟩:_∧_);clear ho b5 BW HS;go_wp2
   go_ret
   exact ⟨_,rfl,(za HO).1,(za HO).2⟩
end WWn
end
section
open Go.RowKit
namespace WLaw
set_option maxRecDepth 100000 in
theorem szNode_any (n:Pl.Nd) (left:Int) (w:World) (hp:n.path.size≤maxLen) (hd:n.data.size≤maxLen) (h0:0≤left) (h1:left≤1048576):
  Calls Tryz.prog 65 #[n.val, .int .i64 left] w fun e w'=>(∃r:Int,e= .returned (.int .i64 r)∧(r= -1∨0≤r∧r+n.path.size+n.data.size=left))∧Below w.heap.size w w':=by
 obtain ⟨p,k,d,t,m⟩:=n;simp only at hp hd;unfold maxLen at hp hd;simp only [Pl.Nd.val];have hb:∀o,Below w.heap.size w (w.alloc o):=fun o=>(Below.refl _ _).alloc (Nat.le_refl _) o;have HB:=hide hb;clear hb;by_cases h2:left<(p.size:Int)
 ·have t2:left - (p.size:Int)<0:=by omega
  go_enter Tryz.func65,Tryz.ntmps65
  go_wp2
  go_ret
  exact ⟨⟨-1,rfl, .inl rfl⟩,za HB _⟩
 have t2:¬left - (p.size:Int)<0:=by omega
 by_cases h3:left<(p.size:Int)+(d.size:Int)
 ·have t3:left - (p.size:Int) - (d.size:Int)<0:=by omega
  go_enter Tryz.func65,Tryz.ntmps65
  go_wp2
  go_ret
  exact ⟨⟨-1,rfl, .inl rfl⟩,za HB _⟩
 ·have t3:¬left - (p.size:Int) - (d.size:Int)<0:=by omega
  go_enter Tryz.func65,Tryz.ntmps65
  go_wp2
  go_ret
  exact ⟨⟨_,rfl, .inr ⟨by omega,by omega⟩⟩,za HB _⟩
set_option maxRecDepth 100000 in
theorem toNode_any (n:Pl.Nd) (w:World):
  Calls Tryz.prog 69 #[n.val] w fun e w'=>e= .returned n.val∧Below w.heap.size w w':=by
 obtain ⟨p,k,d,t,m⟩:=n;simp only [Pl.Nd.val];go_enter Tryz.func69,Tryz.ntmps69
 go_wp2
 refine bodyPost_ret (v:= .agg #[.string p, .int .i64 k, .string d, .int .i64 t, .int .i64 m]) (by simp [results,Tryz.results69,go_sem]) rfl ⟨rfl,?_⟩;exact (((Below.refl _ _).alloc (Nat.le_refl _) _).alloc (by simp) _).alloc (by simp;omega) _
end WLaw
end
section
open Go.RowKit
namespace WLaw
set_option maxRecDepth 100000 in
set_option maxHeartbeats 400000 in
theorem szNodeS_left (a:Option Addr) (cap:Nat) (L:List Pl.Nd) (left:Int) (hf0:0≤left) (hf1:left≤1048576) (w:World) (hl:L.length≤maxLen) (hv:Mem.zb5 w a L) (hok:∀n∈L,n.path.size≤maxLen∧n.data.size≤maxLen):
  Calls Tryz.prog 44 #[.slice a L.length cap, .int .i64 left] w fun e w'=>(∃r:Int,e= .returned (.int .i64 r)∧(r= -1∨0≤r∧r≤1048576∧L.length≤1048576∧∀n∈L,n.path.size≤1048576∧n.data.size≤1048576))∧Below w.heap.size w w':=by
 have hl2:=hl;unfold maxLen at hl2;by_cases h0:left<(L.length:Int)
 ·have t0:left - (L.length:Int)<0:=by omega
  have t1:IntKind.i64.wrap (left - (L.length:Int))=left - (L.length:Int):=by rw [IntKind.wrap_i64];omega
  go_enter Tryz.func44,Tryz.ntmps44
  go_wp2
  go_ret
  exact ⟨⟨-1,rfl, .inl rfl⟩,Below.refl _ _⟩
 have t0:¬left - (L.length:Int)<0:=by omega
 have t1:IntKind.i64.wrap (left - (L.length:Int))=left - (L.length:Int):=by rw [IntKind.wrap_i64];omega
 have HV:=hide hv;have HO:=hide hok;clear hv hok;go_enter Tryz.func44,Tryz.ntmps44
 go_wp2
 go_loopw [1,5] (fun l i wr=>∃ (k:Nat) (r:Int),k≤L.length∧i= .int .i64 (k:Int)∧l= .int .i64 r∧0≤r∧r≤1048576∧Below w.heap.size w wr∧Hid (∀ (j:Nat) n,j<k→L[j]? =some n→n.path.size≤1048576∧n.data.size≤1048576)) (fun _ i _=>L.length - (intOf i).toNat)
 case atStart=>exact ⟨0,_,Nat.zero_le _,rfl,rfl,by omega,by omega,Below.refl _ _,fun j n h=>absurd h (by omega)⟩
 case round=>
  obtain ⟨k,r,hk,rfl,rfl,hr0,hr1,hbel,HA⟩:=hrel;by_cases hlt:k<L.length
  ·obtain ⟨n,hn⟩:∃n,L[k]? =some n:=⟨_,List.getElem?_eq_getElem hlt⟩;obtain ⟨b,o,rfl,hb,q0,q1,q2,q3,q4⟩:=(za HV) k n hn;have c0:=(hbel.cell (p:=⟨b,_,none⟩) hb).trans q0;have c1:=(hbel.cell (p:=⟨b,_,none⟩) hb).trans q1;have c2:=(hbel.cell (p:=⟨b,_,none⟩) hb).trans q2;have c3:=(hbel.cell (p:=⟨b,_,none⟩) hb).trans q3;have c4:=(hbel.cell (p:=⟨b,_,none⟩) hb).trans q4;have hz:=hide (fun W=>szNode_any n r W (za HO n (List.mem_of_getElem? hn)).1 (za HO n (List.mem_of_getElem? hn)).2 hr0 hr1);have HN:=hide hn;have u1:(k:Int)<(L.length:Int):=by omega
   have u3:(0:Int)≤(k:Int):=by omega
   clear q0 q1 q2 q3 q4 hn;simp only [Pl.Nd.val] at hz;go_wp2_with fail
   refine (za hz _).mono ?_;rintro e w1 ⟨⟨r1,rfl,h1⟩,b1⟩;have hb2:=hbel.trans (b1.mono hbel.size);clear b1 hbel hz
   rcases h1 with rfl |⟨h2,h3⟩
   ·go_wp2
    go_ret
    exact ⟨⟨-1,rfl, .inl rfl⟩,hb2⟩
   ·have h4:¬r1<0:=by omega
    have HA2:Hid (∀ (j:Nat) m,j<k+1→L[j]? =some m→m.path.size≤1048576∧m.data.size≤1048576):=fun j m hj h'=>by
     rcases Nat.lt_succ_iff_lt_or_eq.1 hj with h''|rfl
     ·exact HA.out j m h'' h'
     ·rw [za HN] at h';cases h';omega
    go_wp2
    go_roundw
    case rel=>exact ⟨k+1,r1,by omega,by go_num,rfl,h2,by omega,hb2,HA2⟩
    case measure=>simp [intOf];omega
  ·have u1:¬ (k:Int)<(L.length:Int):=by omega
   go_wp2
   go_ret
   exact ⟨⟨r,rfl, .inr ⟨hr0,hr1,by omega,fun n hn=>by
    obtain ⟨j,hj⟩:=List.mem_iff_getElem?.1 hn
    exact HA.out j n (by have :=(List.getElem?_eq_some_iff.1 hj).1;omega) hj⟩⟩,hbel⟩
set_option maxRecDepth 100000 in
theorem szTree_left (a:Option Addr) (cap:Nat) (L:List Pl.Nd) (left:Int) (hf0:0≤left) (hf1:left≤1048576) (w:World) (hl:L.length≤maxLen) (hv:Mem.zb5 w a L) (hok:∀n∈L,n.path.size≤maxLen∧n.data.size≤maxLen):
  Calls Tryz.prog 28 #[.agg #[.slice a L.length cap], .int .i64 left] w fun e w'=>(∃r:Int,e= .returned (.int .i64 r)∧(r= -1∨0≤r∧r≤1048576∧L.length≤1048576∧∀n∈L,n.path.size≤1048576∧n.data.size≤1048576))∧Below w.heap.size w w':=by
 have b0:∀o,Below w.heap.size w (w.alloc o):=fun o=>(Below.refl _ _).alloc (Nat.le_refl _) o;have hz:=hide (fun W (b:Below w.heap.size w W)=>szNodeS_left a cap L left hf0 hf1 W hl (Mem.za9 hv b) hok);have HB:=hide b0;clear hv hok b0;go_enter Tryz.func28,Tryz.ntmps28
 go_wp2_with fail
 refine (za hz _ (za HB _)).mono ?_;rintro e w1 ⟨⟨r1,rfl,h1⟩,b1⟩;have hb2:=(za HB _).trans (b1.mono (za HB _).size);clear b1 hz
 rcases h1 with rfl |⟨h2,h3⟩
 ·go_wp2
  go_ret
  exact ⟨⟨-1,rfl, .inl rfl⟩,hb2⟩
 ·have h4:¬r1<0:=by omega
  go_wp2
  go_ret
  exact ⟨⟨r1,rfl, .inr ⟨h2,h3⟩⟩,hb2⟩
end WLaw
end
end Go.Proofs.YtpggbphcbcogdaaGreatDoor
