/- Several texts of one claim in one file: WSpS5, WBeg, WUnder1S, WRest1S, WSpS8, WSpS17. -/
import Derived.Test.YtgdjjncmocppeaaGreatDoorWSpS3
import Derived.Test.YtgdjjncmocppeaaGreatDoorWSpS4
namespace Go.Proofs.YtgdjjncmocppeaaGreatDoor
section
open Go.RowKit
namespace WSp
set_option linter.unusedSimpArgs false in
set_option maxRecDepth 100000 in
set_option maxHeartbeats 1000000 in
theorem zg7 (s:Pl.Sp) (w:World) (hok:za8.OkS s 1048576) (hv:Mem.zc2 w s):
  Calls Tryz.prog 41 #[.agg s.cs] w fun e w'=>e= .returned (.bool (Pl.zb6 s.next (s.N.map nr) s.M s.H Pl.wayB))∧Below w.heap.size w w':=by
 have h0:=hide (fun W=>zz2 s.next 1 1000000 W);have h1:=hide (fun W (b:Below w.heap.size w W) hn0 hn1=>handles_any s W hok (hv.call b) hn0 hn1);have h2:=hide (fun W (b:Below w.heap.size w W)=>zx9 s W hok (hv.call b));have h3:=hide (fun W (b:Below w.heap.size w W) hn0 hn1=>zm0 s W hok (hv.call b) hn0 hn1)
 have HEQ:Hid (Pl.zb6 s.next (s.N.map nr) s.M s.H Pl.wayB=(Pl.isB s.next 1 1000000&&Pl.zm5 (s.N.map (·.d)) s.next Pl.wayB s.H&&Pl.zi0 (s.N.map (·.d)) s.M&&Pl.zm2 s.M s.H s.next (s.N.map nr))):=hide (by
  unfold Pl.zb6;rw [List.map_map]
  rfl)
 have HIS:Hid (Pl.isB s.next 1 1000000=true→1≤s.next∧s.next≤1000000):=hide (fun h=>(Pl.zn4 _ _ _).1 h);generalize Pl.zb6 s.next (s.N.map nr) s.M s.H Pl.wayB=R at HEQ ⊢;generalize Pl.isB s.next 1 1000000=R0 at HEQ h0 HIS;generalize Pl.zm5 (s.N.map (·.d)) s.next Pl.wayB s.H=R1 at HEQ h1;generalize Pl.zi0 (s.N.map (·.d)) s.M=R2 at HEQ h2;generalize Pl.zm2 s.M s.H s.next (s.N.map nr)=R3 at HEQ h3;clear hok hv;obtain ⟨ia,ic,N,ma,mc,M,ha,hc,H,next⟩:=s;simp only at h0 h1 h2 h3 HIS ⊢;unfold Pl.Sp.cs at h1 h2 h3 ⊢;simp only at h1 h2 h3 ⊢;have b0:=(Below.refl w.heap.size w).alloc (o:= .cells #[.slice ia N.length ic, .slice ma M.length mc, .slice ha H.length hc, .int .i64 next] 32) (Nat.le_refl _);have V0:=hide (Mem.Blk.new w #[.slice ia N.length ic, .slice ma M.length mc, .slice ha H.length hc, .int .i64 next] 32);have a0:=(za V0).cell 0;have a1:=(za V0).cell 1
 have a2:=(za V0).cell 2;have a3:=(za V0).cell 3;simp only [kGs] at a0 a1 a2 a3;go_enter Tryz.func41,Tryz.ntmps41
 go_wp2_with fail
 generalize w.alloc (.cells #[.slice ia N.length ic, .slice ma M.length mc, .slice ha H.length hc, .int .i64 next] 32)=wA at b0 V0 a0 a1 a2 a3 ⊢;refine (za h0 _).mono ?_;rintro e w1 ⟨rfl,bX⟩;have b1:=b0.trans (bX.mono b0.size);have V1:=hide ((za V0).call bX);clear a0 a1 a2 a3 V0 b0 bX h0;cases R0
 ·have HE:Hid (R=false):=hide (za HEQ);clear HEQ h1 h2 h3 HIS;go_wp2
  go_ret
  exact ⟨(by rw [za HE];first |done|rfl),b1⟩
 obtain ⟨n0,n1⟩:=za HIS rfl;obtain ⟨a0,a1,a2,a3⟩:=jc4 (za V1);have HC:=hide (za h1 _ b1 n0 n1);clear h1 HIS;go_wp2_with fail
 refine (za HC).mono ?_;rintro e w2 ⟨rfl,bX⟩;have b2:=b1.trans (bX.mono b1.size);have V2:=hide ((za V1).call bX);clear a0 a1 a2 a3 V1 b1 bX HC;cases R1
 ·have HE:Hid (R=false):=hide (za HEQ);clear HEQ h2 h3;go_wp2
  go_ret
  exact ⟨(by rw [za HE];first |done|rfl),b2⟩
 obtain ⟨a0,a1,a2,a3⟩:=jc4 (za V2);have HC:=hide (za h2 _ b2);clear h2;go_wp2_with fail
 refine (za HC).mono ?_;rintro e w3 ⟨rfl,bX⟩;have b3:=b2.trans (bX.mono b2.size);have V3:=hide ((za V2).call bX);clear a0 a1 a2 a3 V2 b2 bX HC;cases R2
 ·have HE:Hid (R=false):=hide (za HEQ);clear HEQ h3;go_wp2
  go_ret
  exact ⟨(by rw [za HE];first |done|rfl),b3⟩
 obtain ⟨a0,a1,a2,a3⟩:=jc4 (za V3);have HC:=hide (za h3 _ b3 n0 n1);clear h3;go_wp2_with fail
 refine (za HC).mono ?_;rintro e w4 ⟨rfl,bX⟩;have b4:=b3.trans (bX.mono b3.size);have HE:Hid (R=R3):=hide (za HEQ);clear a0 a1 a2 a3 V3 b3 bX HC HEQ n0 n1;go_wp2
 go_ret
 exact ⟨(by rw [za HE];first |done|rfl),b4⟩
end WSp
end
section
open Go.RowKit
namespace WSp
def begC (p:ByteArray) (R:Bool):Int:=if Pl.whyI p R=0 then 0 else if Pl.whyI p R=1 then 2 else 1
set_option linter.unusedSimpArgs false in
set_option maxRecDepth 100000 in
set_option maxHeartbeats 1000000 in
theorem begin_any (s:Pl.Sp) (p:ByteArray) (w:World) (hp:p.size≤1048576) (hok:za8.OkS s 1048576) (hv:Mem.zc2 w s):
  Calls Tryz.prog 19 #[.agg s.cs, .string p] w fun e w'=>e= .returned (.int .i64 (begC p (Pl.zb6 s.next (s.N.map nr) s.M s.H Pl.wayB)))∧Below w.heap.size w w':=by
 have HX:=hide (fun W (b:Below w.heap.size w W)=>zg7 s W hok (hv.call b));have HR:=hide (fun W=>ze2.zv3 p W hp);generalize Pl.zb6 s.next (s.N.map nr) s.M s.H Pl.wayB=R at HX ⊢;clear hok hv;obtain ⟨ia,ic,N,ma,mc,M,ha,hc,H,next⟩:=s;unfold Pl.Sp.cs at HX ⊢;simp only at HX ⊢;have b0:=(Below.refl w.heap.size w).alloc (o:= .cells #[Value.slice ia N.length ic,Value.slice ma M.length mc,Value.slice ha H.length hc,Value.int .i64 next] 32) (Nat.le_refl _);have V0:=hide (Mem.Blk.new w #[Value.slice ia N.length ic,Value.slice ma M.length mc,Value.slice ha H.length hc,Value.int .i64 next] 32);by_cases hl:8000<p.size
 ·have HW:Hid (begC p R=2):=hide (by unfold begC Pl.whyI;rw [if_pos hl];rfl);have l1:(8000:Int)<(p.size:Int):=by omega
  clear HX HR;go_enter Tryz.func19,Tryz.ntmps19
  go_wp2
  go_ret
  exact ⟨by rw [za HW];rfl,b0⟩
 have l1:¬ (8000:Int)<(p.size:Int):=by omega
 have HWn:Hid ((R&&Pl.za0 p)=false→begC p R=1):=hide (fun h=>by unfold begC Pl.whyI;rw [if_neg hl,h];rfl);have HWy:Hid ((R&&Pl.za0 p)=true→begC p R=0):=hide (fun h=>by unfold begC Pl.whyI;rw [if_neg hl,h];rfl);generalize begC p R=C at HWn HWy ⊢;generalize Pl.za0 p=pb at HR HWn HWy;obtain ⟨a0,a1,a2,a3⟩:=jc4 (za V0);go_enter Tryz.func19,Tryz.ntmps19
 go_wp2_with fail
 generalize w.alloc (.cells #[Value.slice ia N.length ic,Value.slice ma M.length mc,Value.slice ha H.length hc,Value.int .i64 next] 32)=wA at b0 V0 a0 a1 a2 a3 ⊢;refine (za HX _ b0).mono ?_;rintro e w1 ⟨rfl,bX⟩;have b1:=b0.trans (bX.mono b0.size);clear HX bX V0 a0 a1 a2 a3 b0;cases R
 ·have HW:=hide (za HWn rfl);clear HWn HWy HR;go_wp2
  go_ret
  exact ⟨by rw [za HW];rfl,b1⟩
 go_wp2_with fail
 refine (za HR _).mono ?_;rintro e w2 ⟨rfl,bX⟩;have b2:=b1.trans (bX.mono b1.size);clear HR bX b1;cases pb
 ·have HW:=hide (za HWn rfl);clear HWn HWy;go_wp2
  go_ret
  exact ⟨by rw [za HW];rfl,b2⟩
 ·have HW:=hide (za HWy rfl);clear HWn HWy;go_wp2
  go_ret
  exact ⟨by rw [za HW];rfl,b2⟩
end WSp
end
section
open Go.RowKit
namespace Pl
theorem under_root {p t:ByteArray} (h:by_ t=[]):under p t=true:=(zk3 p t).2 (.inl h)
theorem under_same (p:ByteArray):under p p=true:=(zk3 p p).2 (.inr (.inl rfl))
theorem under_short {p t:ByteArray} (h0:by_ t≠[]) (h1:p≠t) (h:¬t.size<p.size):under p t=false:=by
 rw [Bool.eq_false_iff];intro h2
 rcases (zk3 p t).1 h2 with h3|h3|⟨r,h3⟩
 ·exact h0 h3
 ·exact h1 (ze5 h3)
 ·have :=congrArg List.length h3;rw [zc3,List.length_append,List.length_cons,zc3] at this;omega
theorem by_pre (p t:ByteArray):by_ (p.extract 0 t.size)=(by_ p).take t.size:=by rw [zq];simp
theorem under_other {p t:ByteArray} (h0:by_ t≠[]) (h1:p≠t) (h:p.extract 0 t.size≠t):under p t=false:=by
 rw [Bool.eq_false_iff];intro h2
 rcases (zk3 p t).1 h2 with h3|h3|⟨r,h3⟩
 ·exact h0 h3
 ·exact h1 (ze5 h3)
 ·apply h;apply ze5;rw [by_pre,h3,←zc3,List.take_left]
theorem pre_split {p t:ByteArray} (hl:t.size<p.size) (h:p.extract 0 t.size=t):by_ p=by_ t++p[t.size]::(by_ p).drop (t.size+1):=by
 have h1:by_ t=(by_ p).take t.size:=by rw [←by_pre,h]
 have h2:t.size<(by_ p).length:=by rw [zc3];exact hl
 have h3:(by_ p).drop t.size=p[t.size]::(by_ p).drop (t.size+1):=by rw [List.drop_eq_getElem_cons h2];rfl
 exact (List.take_append_drop t.size (by_ p)).symm.trans (by rw [h3,←h1];rfl)
theorem under_yes {p t:ByteArray} (hl:t.size<p.size) (h:p.extract 0 t.size=t) (hb:p[t.size].toNat=47):under p t=true:=by
 refine (zk3 p t).2 (.inr (.inr ⟨(by_ p).drop (t.size+1),?_⟩));have hb':p[t.size]=47:=UInt8.toNat_inj.1 hb;rw [←hb'];exact pre_split hl h
theorem under_no {p t:ByteArray} (h0:by_ t≠[]) (h1:p≠t) (hl:t.size<p.size) (h:p.extract 0 t.size=t) (hb:p[t.size].toNat≠47):under p t=false:=by
 rw [Bool.eq_false_iff];intro h2
 rcases (zk3 p t).1 h2 with h3|h3|⟨r,h3⟩
 ·exact h0 h3
 ·exact h1 (ze5 h3)
 ·rw [pre_split hl h] at h3;have :=List.append_cancel_left h3;simp at this
  exact hb (by rw [this.1];rfl)
end Pl
namespace ze2
set_option maxRecDepth 100000 in
set_option maxHeartbeats 400000 in
theorem under1_any (p t:ByteArray) (w:World) (ht:t.size≤1048576):
  Calls Tryz.prog 48 #[.string p, .string t] w fun e w'=>e= .returned (.bool (Pl.under p t))∧w'=w:=by
 by_cases h0:Pl.by_ t=[]
 ·have E:=hide (Pl.under_root (p:=p) h0);have d1:t.toList.isEmpty=true:=by rw [Pl.zb3];simp [h0]
  clear h0;go_enter Tryz.func48,Tryz.ntmps48
  go_wp2
  go_ret
  exact ⟨za1 (za E).symm,rfl⟩
 have d1:t.toList.isEmpty=false:=by rw [Pl.zb3];simp [h0]
 by_cases h1:p=t
 ·subst h1;have E:=hide (Pl.under_same p);clear h0;go_enter Tryz.func48,Tryz.ntmps48
  go_wp2
  go_ret
  exact ⟨za1 (za E).symm,rfl⟩
 have d2:=Pl.zj5 h1;by_cases hl:t.size<p.size
 ·have k1:(t.size:Int)<(p.size:Int):=by omega
  have k2:(t.size:Int)≤(p.size:Int):=by omega
  have k3:(0:Int)≤(t.size:Int):=by omega
  by_cases h3:p.extract 0 t.size=t
  ·have d3:=Pl.zq4 h3;by_cases h4:p[t.size].toNat=47
   ·have E:=hide (Pl.under_yes hl h3 h4);have d4:((p[t.size].toNat:Int)==47)=true:=by rw [beq_iff_eq];omega
    clear h0 h1 h3 h4;go_enter Tryz.func48,Tryz.ntmps48
    go_wp2
    go_ret
    exact ⟨za1 (za E).symm,rfl⟩
   ·have E:=hide (Pl.under_no h0 h1 hl h3 h4);have d4:((p[t.size].toNat:Int)==47)=false:=by rw [beq_eq_false_iff_ne];omega
    clear h0 h1 h3 h4;go_enter Tryz.func48,Tryz.ntmps48
    go_wp2
    go_ret
    exact ⟨za1 (za E).symm,rfl⟩
  ·have E:=hide (Pl.under_other h0 h1 h3);have d3:=Pl.zj5 h3;clear h0 h1 h3;go_enter Tryz.func48,Tryz.ntmps48
   go_wp2
   go_ret
   exact ⟨za1 (za E).symm,rfl⟩
 ·have E:=hide (Pl.under_short h0 h1 hl);have k1:¬ (t.size:Int)<(p.size:Int):=by omega
  clear h0 h1;go_enter Tryz.func48,Tryz.ntmps48
  go_wp2
  go_ret
  exact ⟨za1 (za E).symm,rfl⟩
end ze2
end
section
open Go.RowKit
namespace ze2
theorem rest1_any (p n:ByteArray) (w:World) (hp:p.size≤1048576) (hu:Pl.under p n=true):
  Calls Tryz.prog 49 #[.string p, .string n] w fun e w'=>e= .returned (.string (Pl.rest p n))∧w'=w:=by
 by_cases h0:Pl.by_ n=[]
 ·have E:=hide (Pl.rest_root (p:=p) h0);have d1:n.toList.isEmpty=true:=by rw [Pl.zb3];simp [h0]
  clear h0 hu;go_enter Tryz.func49,Tryz.ntmps49
  go_wp2
  go_ret
  exact ⟨zp9 (za E).symm,rfl⟩
 have d1:n.toList.isEmpty=false:=by rw [Pl.zb3];simp [h0]
 by_cases h1:p=n
 ·subst h1;have E:=hide (Pl.rest_same p);clear h0 hu;go_enter Tryz.func49,Tryz.ntmps49
  go_wp2
  go_ret
  exact ⟨zp9 (za E).symm,rfl⟩
 ·have d2:=Pl.zj5 h1
  obtain ⟨r,hr⟩:∃r,Pl.by_ p=Pl.by_ n++47::r:=by
   rcases (Pl.zk3 p n).1 hu with h3|h3|h3
   ·exact absurd h3 h0
   ·exact absurd (Pl.ze5 h3) h1
   ·exact h3
  have E:=hide (Pl.rest_more h0 hr)
  have hsz:n.size+1≤p.size:=by
   have :=congrArg List.length hr;rw [Pl.zc3,List.length_append,List.length_cons,Pl.zc3] at this;omega
  have k1:(0:Int)≤(n.size:Int)+1:=by omega
  have k2:(n.size:Int)+1≤(p.size:Int):=by omega
  clear h0 h1 hr hu;generalize Pl.rest p n=R at E ⊢;go_enter Tryz.func49,Tryz.ntmps49
  go_wp2
  go_ret
  exact ⟨by rw [za E];rfl,rfl⟩
end ze2
end
section
open Go.RowKit
namespace WSp
set_option linter.unusedSimpArgs false in
set_option maxRecDepth 100000 in
set_option maxHeartbeats 4000000 in
theorem where_any (s:Pl.Sp) (p:ByteArray) (w:World) (hp:p.size≤1048576) (hm:∀m∈s.M,m.p.size≤1048576) (hM:s.M.length≤1000) (hv:Mem.zc2 w s) (m:Pl.Mn) (hlm:Pl.ze6 (Pl.uR p) s.M s.M.length=m) (hu:Pl.under p m.p=true):
  Calls Tryz.prog 21 #[.agg s.cs, .string p] w fun e w'=>e= .returned (.tuple #[.agg #[.string m.p, .int .i64 m.i, .bool m.z], .string (Pl.rest p m.p)])∧Below w.heap.size w w':=by
 have HUN:=hide (fun W (t:Pl.Mn) (ht:t∈s.M)=>(ze2.under1_any p t.p W (hm t ht)).mono (R':=fun e w'=>e= .returned (.bool (Pl.uR p t))∧Below W.heap.size W w') (fun e w' h=>⟨h.1,h.2 ▸ Below.refl _ _⟩));have HRS:=hide (fun W=>(ze2.rest1_any p m.p W hp hu).mono (R':=fun e w'=>e= .returned (.string (Pl.rest p m.p))∧Below W.heap.size W w') (fun e w' h=>⟨h.1,h.2 ▸ Below.refl _ _⟩));have HV:=hide hv.zk1;have HLM:=hide hlm;clear hv hu hp hlm;generalize Pl.rest p m.p=RT at HRS ⊢;obtain ⟨mp,mi,mz⟩:=m;simp only at HRS ⊢;obtain ⟨ia,ic,N,ma,mc,M,ha,hc,H,next⟩:=s;unfold Pl.Sp.cs;simp only at HUN HV HLM hM hm ⊢;have HP:=hide hm;clear hm
 have b0:Below w.heap.size w (((w.alloc (.cells #[.slice ia N.length ic, .slice ma M.length mc, .slice ha H.length hc, .int .i64 next] 32)).alloc (.cells #[.string ⟨#[]⟩, .int .i64 0, .bool false] 51)).alloc (.cells #[.string ⟨#[]⟩, .int .i64 0, .bool false] 51)):=((bE0).alloc (by simp) _).alloc (by simp;omega) _;have V0:=hide (((Mem.Blk.new w #[.slice ia N.length ic, .slice ma M.length mc, .slice ha H.length hc, .int .i64 next] 32).alloc (.cells #[.string ⟨#[]⟩, .int .i64 0, .bool false] 51)).alloc (.cells #[.string ⟨#[]⟩, .int .i64 0, .bool false] 51))
 have U0:=hide ((Mem.Blk.new (w.alloc (.cells #[.slice ia N.length ic, .slice ma M.length mc, .slice ha H.length hc, .int .i64 next] 32)) #[.string ⟨#[]⟩, .int .i64 0, .bool false] 51).alloc (.cells #[.string ⟨#[]⟩, .int .i64 0, .bool false] 51));have Y0:=hide (Mem.Blk.new ((w.alloc (.cells #[.slice ia N.length ic, .slice ma M.length mc, .slice ha H.length hc, .int .i64 next] 32)).alloc (.cells #[.string ⟨#[]⟩, .int .i64 0, .bool false] 51)) #[.string ⟨#[]⟩, .int .i64 0, .bool false] 51);have n1:(w.alloc (.cells #[.slice ia N.length ic, .slice ma M.length mc, .slice ha H.length hc, .int .i64 next] 32)).heap.size=w.heap.size+1:=by simp
 have n2:((w.alloc (.cells #[.slice ia N.length ic, .slice ma M.length mc, .slice ha H.length hc, .int .i64 next] 32)).alloc (.cells #[.string ⟨#[]⟩, .int .i64 0, .bool false] 51)).heap.size=w.heap.size+2:=by simp
 rw [n1] at U0;rw [n2] at Y0;clear n1 n2;go_enter Tryz.func21,Tryz.ntmps21
 go_wp2
 go_loopw [7] (fun i wr=>∃k:Nat,k≤M.length∧i= .int .i64 (k:Int)∧Below w.heap.size w wr∧Hid (Mem.Blk wr w.heap.size #[.slice ia N.length ic, .slice ma M.length mc, .slice ha H.length hc, .int .i64 next] 32)∧Hid (Mem.Blk wr (w.heap.size+1) #[.string ⟨#[]⟩, .int .i64 0, .bool false] 51)∧Hid (Mem.Blk wr (w.heap.size+2) #[.string (Pl.ze6 (Pl.uR p) M k).p, .int .i64 (Pl.ze6 (Pl.uR p) M k).i, .bool (Pl.ze6 (Pl.uR p) M k).z] 51)) (fun i _=>M.length - (intOf i).toNat)
 case atStart=>
  exact ⟨0,Nat.zero_le _,rfl,b0,V0,U0,Y0⟩
 case round=>
  obtain ⟨k,hk,rfl,hbel,V2,U2,Y2⟩:=hrel;clear b0 V0 U0 Y0;have a1:=(za V2).cell 1;simp only [kGs] at a1;by_cases hlt:k<M.length
  ·obtain ⟨t,ht⟩:∃n,M[k]? =some n:=⟨_,List.getElem?_eq_getElem hlt⟩;obtain ⟨g,o,rfl,hg,q0,q1,q2⟩:=(za HV) k t ht;have c0:=(hbel.cell (p:=⟨g,_,none⟩) hg).trans q0;have c1:=(hbel.cell (p:=⟨g,_,none⟩) hg).trans q1;have c2:=(hbel.cell (p:=⟨g,_,none⟩) hg).trans q2;have HGL:Hid (g<wr.heap.size):=hide (Nat.lt_of_lt_of_le hg hbel.size);have u1:(k:Int)<(M.length:Int):=by omega
   have u3:(0:Int)≤(k:Int):=by omega
   have HC:=hide (fun W=>za HUN W t (List.mem_of_getElem? ht));have L1:=hide (fun h=>Pl.leadS_no (u:=Pl.uR p) ht h);have L2:=hide (fun h h2=>Pl.leadS_yes (u:=Pl.uR p) ht h h2);have L3:=hide (fun h h2=>Pl.leadS_short (u:=Pl.uR p) ht h h2);generalize hq:Pl.ze6 (Pl.uR p) M k=q at Y2 L1 L2 L3;generalize hL:Pl.ze6 (Pl.uR p) M (k+1)=q' at L1 L2 L3;have HL2:=hide hL;generalize Pl.uR p t=b at HC L1 L2 L3;obtain ⟨y0,y1,y2⟩:=jc3 (za Y2);clear q0 q1 q2 hg ht hq hL;cases b
   ·have HL:q'=q:=za L1 rfl;have HL:Pl.ze6 (Pl.uR p) M (k+1)=q:=(za HL2).trans HL;clear L1 L2 L3 HL2;have MK:Hid (∀W',Below wr.heap.size wr W'→(Below wr.heap.size wr W'∧W'.cell? ⟨w.heap.size,1,none⟩=some (.slice (some ⟨g,o,none⟩) M.length mc)∧W'.cell? ⟨w.heap.size+2,0,none⟩=some (.string q.p)∧W'.cell? ⟨w.heap.size+2,1,none⟩=some (.int .i64 q.i)∧W'.cell? ⟨w.heap.size+2,2,none⟩=some (.bool q.z)∧W'.cell? ⟨g,o+k*3,none⟩=some (.string t.p))):=fun W' hb=>⟨hb,((za V2).call hb).cell 1,((za Y2).call hb).cell 0,((za Y2).call hb).cell 1,((za Y2).call hb).cell 2,(hb.cell (p:=⟨_,_,none⟩) (za HGL)).trans c0⟩;go_wp2_with fail
    refine RG MK (bD _) fun hHeld=>?_;refine TB 0 ?_;refine TB 1 ?_;refine TB 2 ?_;refine TB 3 ?_;refine TB 4 ?_;refine TB 5 ?_;refine TB 6 ?_;refine RN 7 fun K hK=>?_;go_simp
    refine (za HC _).mono ?_;rintro e wX ⟨rfl,bX⟩;refine hK.out _ _ ?_ (fun hHeld=>?_)
    ·exact za MK _ (hHeld.1.trans (bX.mono hHeld.1.size))
    clear hK K
    try simp only [Act.put,kBs]
    refine TB 8 ?_;refine TC 9 ?_;refine TC 10 ?_;refine TC 11 ?_;refine TC 12 ?_;refine TC 13 ?_;refine TC 14 ?_;refine TC 15 ?_;refine TC 16 ?_;refine TC 17 ?_;refine TC 18 ?_;refine TC 19 ?_;refine TC 20 ?_;refine TC 21 ?_;refine TC 22 ?_;refine TC 23 ?_;refine TB 24 ?_;refine wpAnyH_done (by kernel_rfl) ?_ _;have bb:=hbel.trans (hHeld.1.mono hbel.size);have VV:=hide ((za V2).call hHeld.1);have YY:=hide ((za Y2).call hHeld.1);have UU:=hide ((za U2).call hHeld.1);have e0:=(hHeld.1.cell (p:=⟨_,_,none⟩) (za HGL)).trans c0;have e1:=(hHeld.1.cell (p:=⟨_,_,none⟩) (za HGL)).trans c1;have e2:=(hHeld.1.cell (p:=⟨_,_,none⟩) (za HGL)).trans c2;clear hHeld MK hbel V2 Y2 U2 a1 y0 y1 y2 c0 c1 c2;go_wp2
    go_roundw
    case rel=>exact ⟨k+1,by omega,by go_num,bb,VV,UU,hide (by rw [HL];exact za YY)⟩
    case measure=>simp [intOf];omega
   clear L1;by_cases hk0:k=0
   ·have HL:Pl.ze6 (Pl.uR p) M (k+1)=t:=(za HL2).trans (za L2 rfl (.inl hk0));have hk1:((k:Int)==0)=true:=by simpa using hk0
    have hk2:decide ((k:Int)=0)=true:=by simpa using hk0
    clear L2 L3 HL2 hk0;have MK:Hid (∀W',Below wr.heap.size wr W'→(Below wr.heap.size wr W'∧W'.cell? ⟨w.heap.size,1,none⟩=some (.slice (some ⟨g,o,none⟩) M.length mc)∧W'.cell? ⟨w.heap.size+2,0,none⟩=some (.string q.p)∧W'.cell? ⟨w.heap.size+2,1,none⟩=some (.int .i64 q.i)∧W'.cell? ⟨w.heap.size+2,2,none⟩=some (.bool q.z)∧W'.cell? ⟨g,o+k*3,none⟩=some (.string t.p))):=fun W' hb=>⟨hb,((za V2).call hb).cell 1,((za Y2).call hb).cell 0,((za Y2).call hb).cell 1,((za Y2).call hb).cell 2,(hb.cell (p:=⟨_,_,none⟩) (za HGL)).trans c0⟩;go_wp2_with fail
    refine RG MK (bD _) fun hHeld=>?_;refine TB 0 ?_;refine TB 1 ?_;refine TB 2 ?_;refine TB 3 ?_;refine TB 4 ?_;refine TB 5 ?_;refine TB 6 ?_;refine RN 7 fun K hK=>?_;go_simp
    refine (za HC _).mono ?_;rintro e wX ⟨rfl,bX⟩;refine hK.out _ _ ?_ (fun hHeld=>?_)
    ·exact za MK _ (hHeld.1.trans (bX.mono hHeld.1.size))
    clear hK K
    try simp only [Act.put,kBs]
    refine TB 8 ?_;refine TB 9 ?_;refine TB 10 ?_;refine TB 11 ?_;refine TC 12 ?_;refine TC 13 ?_;refine TC 14 ?_;refine TC 15 ?_;refine TC 16 ?_;refine TC 17 ?_;refine TC 18 ?_;refine TC 19 ?_;refine TC 20 ?_;refine TC 21 ?_;refine TC 22 ?_;refine TB 23 ?_;refine TB 24 ?_;refine wpAnyH_done (by kernel_rfl) ?_ _;have bb:=hbel.trans (hHeld.1.mono hbel.size);have VV:=hide ((za V2).call hHeld.1);have YY:=hide ((za Y2).call hHeld.1);have UU:=hide ((za U2).call hHeld.1);have e0:=(hHeld.1.cell (p:=⟨_,_,none⟩) (za HGL)).trans c0;have e1:=(hHeld.1.cell (p:=⟨_,_,none⟩) (za HGL)).trans c1;have e2:=(hHeld.1.cell (p:=⟨_,_,none⟩) (za HGL)).trans c2;clear hHeld MK hbel V2 Y2 U2 a1 y0 y1 y2 c0 c1 c2;have a1:=(za VV).cell 1;obtain ⟨⟨y0,y1,y2⟩,f0,f1,f2⟩:=jf3 (za YY);simp only [kGs] at a1
    have B3:=hide (((bb.setCell (p:=⟨w.heap.size+2,0,none⟩) (Nat.le_add_right _ _) (.string t.p)).setCell (p:=⟨w.heap.size+2,1,none⟩) (Nat.le_add_right _ _) (.int .i64 t.i)).setCell (p:=⟨w.heap.size+2,2,none⟩) (Nat.le_add_right _ _) (.bool t.z));have V3:=hide ((((za VV).far ⟨w.heap.size+2,0,none⟩ (.string t.p) (by show w.heap.size≠w.heap.size+2;omega)).far ⟨w.heap.size+2,1,none⟩ (.int .i64 t.i) (by show w.heap.size≠w.heap.size+2;omega)).far ⟨w.heap.size+2,2,none⟩ (.bool t.z) (by show w.heap.size≠w.heap.size+2;omega));have U3:=hide ((((za UU).far ⟨w.heap.size+2,0,none⟩ (.string t.p) (by show w.heap.size+1≠w.heap.size+2;omega)).far ⟨w.heap.size+2,1,none⟩ (.int .i64 t.i) (by show w.heap.size+1≠w.heap.size+2;omega)).far ⟨w.heap.size+2,2,none⟩ (.bool t.z) (by show w.heap.size+1≠w.heap.size+2;omega))
    have Y3:=hide ((((za YY).put 0 (.string t.p)).put 1 (.int .i64 t.i)).put 2 (.bool t.z));clear VV UU YY bb;go_wp2
    go_roundw
    case rel=>exact ⟨k+1,by omega,by go_num,za B3,V3,U3,hide (by rw [HL];exact za Y3)⟩
    case measure=>simp [intOf];omega
   have hk1:((k:Int)==0)=false:=by simpa using hk0
   have hk2:decide ((k:Int)=0)=false:=by simpa using hk0
   have hk3:¬ (k:Int)=0:=by omega
   by_cases hs:q.p.size<t.p.size
   ·have HL:Pl.ze6 (Pl.uR p) M (k+1)=t:=(za HL2).trans (za L2 rfl (.inr hs));have v1:(q.p.size:Int)<(t.p.size:Int):=by omega
    have v2:decide ((q.p.size:Int)<(t.p.size:Int))=true:=by simpa using hs
    clear L2 L3 HL2;have MK:Hid (∀W',Below wr.heap.size wr W'→(Below wr.heap.size wr W'∧W'.cell? ⟨w.heap.size,1,none⟩=some (.slice (some ⟨g,o,none⟩) M.length mc)∧W'.cell? ⟨w.heap.size+2,0,none⟩=some (.string q.p)∧W'.cell? ⟨w.heap.size+2,1,none⟩=some (.int .i64 q.i)∧W'.cell? ⟨w.heap.size+2,2,none⟩=some (.bool q.z)∧W'.cell? ⟨g,o+k*3,none⟩=some (.string t.p))):=fun W' hb=>⟨hb,((za V2).call hb).cell 1,((za Y2).call hb).cell 0,((za Y2).call hb).cell 1,((za Y2).call hb).cell 2,(hb.cell (p:=⟨_,_,none⟩) (za HGL)).trans c0⟩;go_wp2_with fail
    refine RG MK (bD _) fun hHeld=>?_;refine TB 0 ?_;refine TB 1 ?_;refine TB 2 ?_;refine TB 3 ?_;refine TB 4 ?_;refine TB 5 ?_;refine TB 6 ?_;refine RN 7 fun K hK=>?_;go_simp
    refine (za HC _).mono ?_;rintro e wX ⟨rfl,bX⟩;refine hK.out _ _ ?_ (fun hHeld=>?_)
    ·exact za MK _ (hHeld.1.trans (bX.mono hHeld.1.size))
    clear hK K
    try simp only [Act.put,kBs]
    refine TB 8 ?_;refine TB 9 ?_;refine TB 10 ?_;refine TB 11 ?_;refine TB 12 ?_;refine TB 13 ?_;refine TB 14 ?_;refine TB 15 ?_;refine TB 16 ?_;refine TB 17 ?_;refine TB 18 ?_;refine TB 19 ?_;refine TB 20 ?_;refine TB 21 ?_;refine TB 22 ?_;refine TB 23 ?_;refine TB 24 ?_;refine wpAnyH_done (by kernel_rfl) ?_ _;have bb:=hbel.trans (hHeld.1.mono hbel.size);have VV:=hide ((za V2).call hHeld.1);have YY:=hide ((za Y2).call hHeld.1);have UU:=hide ((za U2).call hHeld.1);have e0:=(hHeld.1.cell (p:=⟨_,_,none⟩) (za HGL)).trans c0;have e1:=(hHeld.1.cell (p:=⟨_,_,none⟩) (za HGL)).trans c1;have e2:=(hHeld.1.cell (p:=⟨_,_,none⟩) (za HGL)).trans c2;clear hHeld MK hbel V2 Y2 U2 a1 y0 y1 y2 c0 c1 c2;have a1:=(za VV).cell 1;obtain ⟨⟨y0,y1,y2⟩,f0,f1,f2⟩:=jf3 (za YY);simp only [kGs] at a1
    have B3:=hide (((bb.setCell (p:=⟨w.heap.size+2,0,none⟩) (Nat.le_add_right _ _) (.string t.p)).setCell (p:=⟨w.heap.size+2,1,none⟩) (Nat.le_add_right _ _) (.int .i64 t.i)).setCell (p:=⟨w.heap.size+2,2,none⟩) (Nat.le_add_right _ _) (.bool t.z));have V3:=hide ((((za VV).far ⟨w.heap.size+2,0,none⟩ (.string t.p) (by show w.heap.size≠w.heap.size+2;omega)).far ⟨w.heap.size+2,1,none⟩ (.int .i64 t.i) (by show w.heap.size≠w.heap.size+2;omega)).far ⟨w.heap.size+2,2,none⟩ (.bool t.z) (by show w.heap.size≠w.heap.size+2;omega));have U3:=hide ((((za UU).far ⟨w.heap.size+2,0,none⟩ (.string t.p) (by show w.heap.size+1≠w.heap.size+2;omega)).far ⟨w.heap.size+2,1,none⟩ (.int .i64 t.i) (by show w.heap.size+1≠w.heap.size+2;omega)).far ⟨w.heap.size+2,2,none⟩ (.bool t.z) (by show w.heap.size+1≠w.heap.size+2;omega))
    have Y3:=hide ((((za YY).put 0 (.string t.p)).put 1 (.int .i64 t.i)).put 2 (.bool t.z));clear VV UU YY bb;go_wp2
    go_roundw
    case rel=>exact ⟨k+1,by omega,by go_num,za B3,V3,U3,hide (by rw [HL];exact za Y3)⟩
    case measure=>simp [intOf];omega
   ·have HL:Pl.ze6 (Pl.uR p) M (k+1)=q:=(za HL2).trans (za L3 hk0 hs);have v1:¬ (q.p.size:Int)<(t.p.size:Int):=by omega
    have v2:decide ((q.p.size:Int)<(t.p.size:Int))=false:=by simpa using hs
    clear L2 L3 HL2;have MK:Hid (∀W',Below wr.heap.size wr W'→(Below wr.heap.size wr W'∧W'.cell? ⟨w.heap.size,1,none⟩=some (.slice (some ⟨g,o,none⟩) M.length mc)∧W'.cell? ⟨w.heap.size+2,0,none⟩=some (.string q.p)∧W'.cell? ⟨w.heap.size+2,1,none⟩=some (.int .i64 q.i)∧W'.cell? ⟨w.heap.size+2,2,none⟩=some (.bool q.z)∧W'.cell? ⟨g,o+k*3,none⟩=some (.string t.p))):=fun W' hb=>⟨hb,((za V2).call hb).cell 1,((za Y2).call hb).cell 0,((za Y2).call hb).cell 1,((za Y2).call hb).cell 2,(hb.cell (p:=⟨_,_,none⟩) (za HGL)).trans c0⟩;go_wp2_with fail
    refine RG MK (bD _) fun hHeld=>?_;refine TB 0 ?_;refine TB 1 ?_;refine TB 2 ?_;refine TB 3 ?_;refine TB 4 ?_;refine TB 5 ?_;refine TB 6 ?_;refine RN 7 fun K hK=>?_;go_simp
    refine (za HC _).mono ?_;rintro e wX ⟨rfl,bX⟩;refine hK.out _ _ ?_ (fun hHeld=>?_)
    ·exact za MK _ (hHeld.1.trans (bX.mono hHeld.1.size))
    clear hK K
    try simp only [Act.put,kBs]
    refine TB 8 ?_;refine TB 9 ?_;refine TB 10 ?_;refine TB 11 ?_;refine TB 12 ?_;refine TB 13 ?_;refine TB 14 ?_;refine TB 15 ?_;refine TB 16 ?_;refine TB 17 ?_;refine TB 18 ?_;refine TB 19 ?_;refine TB 20 ?_;refine TB 21 ?_;refine TB 22 ?_;refine TB 23 ?_;refine TB 24 ?_;refine wpAnyH_done (by kernel_rfl) ?_ _;have bb:=hbel.trans (hHeld.1.mono hbel.size);have VV:=hide ((za V2).call hHeld.1);have YY:=hide ((za Y2).call hHeld.1);have UU:=hide ((za U2).call hHeld.1);have e0:=(hHeld.1.cell (p:=⟨_,_,none⟩) (za HGL)).trans c0;have e1:=(hHeld.1.cell (p:=⟨_,_,none⟩) (za HGL)).trans c1;have e2:=(hHeld.1.cell (p:=⟨_,_,none⟩) (za HGL)).trans c2;clear hHeld MK hbel V2 Y2 U2 a1 y0 y1 y2 c0 c1 c2;go_wp2
    go_roundw
    case rel=>exact ⟨k+1,by omega,by go_num,bb,VV,UU,hide (by rw [HL];exact za YY)⟩
    case measure=>simp [intOf];omega
  ·have u1:¬ (k:Int)<(M.length:Int):=by omega
   obtain rfl:k=M.length:=by omega
   rw [za HLM] at Y2;have a0:=(za Y2).cell 0;have a1':=(za Y2).cell 1;have a2:=(za Y2).cell 2;simp only [kGs] at a0 a1' a2;have MK:Hid (∀W',Below w.heap.size w W'→Mem.Blk W' (w.heap.size+2) #[.string mp, .int .i64 mi, .bool mz] 51→(Below w.heap.size w W'∧W'.cell? ⟨w.heap.size+2,0,none⟩=some (.string mp)∧W'.cell? ⟨w.heap.size+2,1,none⟩=some (.int .i64 mi)∧W'.cell? ⟨w.heap.size+2,2,none⟩=some (.bool mz))):=fun W' b y=>⟨b,y.cell 0,y.cell 1,y.cell 2⟩;have BD:Below wr.heap.size wr wr.drew:=⟨rfl,rfl,rfl,Nat.le_refl _,fun _ _=>rfl⟩;have U:=(za U2).call BD;have Y:=(za Y2).call BD;have bel:=hbel.trans (BD.mono hbel.size);clear U2 Y2 V2 BD hbel HUN HV HLM HP;go_wp2_with fail
   refine wp_region_held_drew (S:=fun W'=>Below w.heap.size w W'∧W'.cell? ⟨w.heap.size+2,0,none⟩=some (.string mp)∧W'.cell? ⟨w.heap.size+2,1,none⟩=some (.int .i64 mi)∧W'.cell? ⟨w.heap.size+2,2,none⟩=some (.bool mz)) (by kernel_rfl) ?_ (fun hHeld=>?_)
   ·exact za MK _ bel Y
   generalize wr.drew=D0 at hHeld U Y bel ⊢;refine TB 0 ?_;refine TB 1 ?_;refine TB 2 ?_;refine TB 3 ?_;refine RN 4 fun K hK=>?_;go_simp
   refine (za HRS _).mono ?_;rintro e wX ⟨rfl,bX⟩;replace U:=U.call bX;replace Y:=Y.call bX;replace bel:=bel.trans (bX.mono bel.size);clear bX;refine hK.out _ _ ?_ (fun hHeld=>?_)
   ·exact za MK _ bel Y
   clear hK K
   try simp only [Act.put,kBs]
   refine RN 5 fun K hK=>?_;obtain ⟨⟨d0,d1,d2⟩,f0,f1,f2⟩:=jf3 U;go_simp
   replace U:=((U.put 0 (.string mp)).put 1 (.int .i64 mi)).put 2 (.bool mz);replace Y:=((Y.far ⟨w.heap.size+1,0,none⟩ (.string mp) (by show w.heap.size+2≠w.heap.size+1;omega)).far ⟨w.heap.size+1,1,none⟩ (.int .i64 mi) (by show w.heap.size+2≠w.heap.size+1;omega)).far ⟨w.heap.size+1,2,none⟩ (.bool mz) (by show w.heap.size+2≠w.heap.size+1;omega);replace bel:=((bel.setCell (p:=⟨w.heap.size+1,0,none⟩) (Nat.le_succ _) (.string mp)).setCell (p:=⟨w.heap.size+1,1,none⟩) (Nat.le_succ _) (.int .i64 mi)).setCell (p:=⟨w.heap.size+1,2,none⟩) (Nat.le_succ _) (.bool mz);clear d0 d1 d2 f0 f1 f2;refine hK.out _ _ ?_ (fun hHeld=>?_)
   ·exact za MK _ bel Y
   clear hK K
   try simp only [Act.put,kBs]
   refine TB 6 ?_;refine wpAnyH_done (by kernel_rfl) ?_ _;have d0:=U.cell 0;have d1:=U.cell 1;have d2:=U.cell 2;simp only [kB3,kB4,kB5,kGs] at d0 d1 d2;go_wp2
   refine bodyPost_ret (v:= .tuple #[.agg #[.string mp, .int .i64 mi, .bool mz], .string RT]) (by simp [results,Tryz.results21,go_sem,d0,d1,d2]) rfl ⟨rfl,bel⟩
end WSp
end
section
open Go.RowKit
namespace WSp
set_option linter.unusedSimpArgs false in
set_option maxRecDepth 100000 in
set_option maxHeartbeats 2000000 in
theorem nestF_any (s:Pl.Sp) (d:Int) (w:World) (hl:s.N.length≤1048576) (hv:Mem.zf8 w s.ia s.N) (k:Nat) (x:Pl.Ns) (hx:s.N[k]? =some x) (hk:Pl.zc6 (s.N.map (·.d)) d=(k:Int)):
  Calls Tryz.prog 24 #[.agg s.cs, .int .i64 d] w fun e w'=>e= .returned (.slice x.a x.Is.length x.cap)∧Below w.heap.size w w':=by
 have HI:=hide (fun W (b:Below w.heap.size w W)=>inst_any s d W hl (Mem.zf1 hv b));rw [hk] at HI;obtain ⟨⟨b,o,hia,hb, -,q1⟩, -⟩:=hv k x hx;have hkl:k<s.N.length:=(List.getElem?_eq_some_iff.1 hx).1;clear hv hx hk hl;obtain ⟨ia,ic,N,ma,mc,M,ha,hc,H,next⟩:=s;simp only at hia hkl HI;subst hia;unfold Pl.Sp.cs at HI ⊢;simp only at HI ⊢;have y1:(k:Int)<(N.length:Int):=by omega
 have y2:(0:Int)≤(k:Int):=by omega
 have b0:Below w.heap.size w (w.alloc (.cells #[.slice (some ⟨b,o,none⟩) N.length ic, .slice ma M.length mc, .slice ha H.length hc, .int .i64 next] 32)):=(Below.refl _ _).alloc (Nat.le_refl _) _;have V0:=Mem.Blk.new w #[.slice (some ⟨b,o,none⟩) N.length ic, .slice ma M.length mc, .slice ha H.length hc, .int .i64 next] 32
 have MK:Hid (∀W',Below w.heap.size w W'→Mem.Blk W' w.heap.size #[.slice (some ⟨b,o,none⟩) N.length ic, .slice ma M.length mc, .slice ha H.length hc, .int .i64 next] 32→(W'.cell? ⟨w.heap.size,0,none⟩=some (.slice (some ⟨b,o,none⟩) N.length ic)∧W'.cell? ⟨w.heap.size,1,none⟩=some (.slice ma M.length mc)∧W'.cell? ⟨w.heap.size,2,none⟩=some (.slice ha H.length hc)∧W'.cell? ⟨w.heap.size,3,none⟩=some (.int .i64 next)∧W'.cell? ⟨b,o+k*2+1,none⟩=some (.slice x.a x.Is.length x.cap))):=hide fun W' b1 h=>⟨h.cell 0,h.cell 1,h.cell 2,h.cell 3,(b1.cell (p:=⟨b,_,none⟩) hb).trans q1⟩;go_enter Tryz.func24,Tryz.ntmps24
 go_wp2_with fail
 refine wp_region_held_drew (S:=fun W'=>W'.cell? ⟨w.heap.size,0,none⟩=some (.slice (some ⟨b,o,none⟩) N.length ic)∧W'.cell? ⟨w.heap.size,1,none⟩=some (.slice ma M.length mc)∧W'.cell? ⟨w.heap.size,2,none⟩=some (.slice ha H.length hc)∧W'.cell? ⟨w.heap.size,3,none⟩=some (.int .i64 next)∧W'.cell? ⟨b,o+k*2+1,none⟩=some (.slice x.a x.Is.length x.cap)) (by kernel_rfl) ?_ (fun hHeld=>?_)
 ·exact za MK _ (b0.trans ((bD _).mono b0.size)) (V0.call (bD _))
 have bel:=b0.trans ((bD (n:=(w.alloc (.cells #[.slice (some ⟨b,o,none⟩) N.length ic, .slice ma M.length mc, .slice ha H.length hc, .int .i64 next] 32)).heap.size) (w.alloc (.cells #[.slice (some ⟨b,o,none⟩) N.length ic, .slice ma M.length mc, .slice ha H.length hc, .int .i64 next] 32))).mono b0.size);have VV:=V0.call (bD _);generalize (w.alloc (.cells #[.slice (some ⟨b,o,none⟩) N.length ic, .slice ma M.length mc, .slice ha H.length hc, .int .i64 next] 32)).drew=D0 at hHeld bel VV ⊢;clear b0 V0;refine TB 0 ?_;refine TB 1 ?_;refine TB 2 ?_;refine TB 3 ?_;refine RN 4 fun K hK=>?_;go_simp
 refine (za HI _ bel).mono ?_;rintro e wX ⟨rfl,bX⟩;have bel2:=hide (bel.trans (bX.mono bel.size));have VV2:=VV.call bX;refine hK.out _ _ ?_ (fun hHeld=>?_)
 ·exact za MK _ (za bel2) VV2
 clear hK K bX VV bel
 try simp only [Act.put,kBs]
 refine TB 5 ?_;refine TB 6 ?_;refine TB 7 ?_;refine TB 8 ?_;refine wpAnyH_done (by kernel_rfl) ?_ _;clear hHeld VV2;go_wp2
 go_ret
 exact ⟨rfl,za bel2⟩
end WSp
end
end Go.Proofs.YtgdjjncmocppeaaGreatDoor
