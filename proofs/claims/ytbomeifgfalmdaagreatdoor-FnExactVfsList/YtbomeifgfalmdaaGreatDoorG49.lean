/- Several texts of one claim in one file: WSpS5, WBeg, WUnder1S, WRest1S, WSpS8, WSpS17, WName4, WWnS. -/
import Derived.Test.YtbomeifgfalmdaaGreatDoorWSpS3
import Derived.Test.YtbomeifgfalmdaaGreatDoorWSpS4
set_option linter.unusedSimpArgs false
set_option maxRecDepth 100000
set_option maxHeartbeats 4000000
namespace Go.Proofs.YtbomeifgfalmdaaGreatDoor
section
open Go.RowKit
namespace WSp
theorem zh7 (s:Pl.Sp) (w:World) (hok:zb0.OkS s 1048576) (hv:Mem.zd9 w s):
  Calls Tryz.prog 41 #[.agg s.cs] w fun e w'=>e= .returned (.bool (Pl.zc4 s.next (s.N.map nr) s.M s.H Pl.wayB))∧Below w.heap.size w w':=by
 have h0:=hide (fun W=>yc9 s.next 1 1000000 W);have h1:=hide (fun W (b:Below w.heap.size w W) hn0 hn1=>handles_any s W hok (hv.call b) hn0 hn1);have h2:=hide (fun W (b:Below w.heap.size w W)=>yc6 s W hok (hv.call b));have h3:=hide (fun W (b:Below w.heap.size w W) hn0 hn1=>zo4 s W hok (hv.call b) hn0 hn1)
 have HEQ:Hid (Pl.zc4 s.next (s.N.map nr) s.M s.H Pl.wayB=(Pl.isB s.next 1 1000000&&Pl.zo3 (s.N.map (·.d)) s.next Pl.wayB s.H&&Pl.zj6 (s.N.map (·.d)) s.M&&Pl.zp0 s.M s.H s.next (s.N.map nr))):=hide (by
  unfold Pl.zc4;rw [List.map_map]
  rfl)
 have HIS:Hid (Pl.isB s.next 1 1000000=true→1≤s.next∧s.next≤1000000):=hide (fun h=>(Pl.zp4 _ _ _).1 h);generalize Pl.zc4 s.next (s.N.map nr) s.M s.H Pl.wayB=R at HEQ ⊢;generalize Pl.isB s.next 1 1000000=R0 at HEQ h0 HIS;generalize Pl.zo3 (s.N.map (·.d)) s.next Pl.wayB s.H=R1 at HEQ h1;generalize Pl.zj6 (s.N.map (·.d)) s.M=R2 at HEQ h2;generalize Pl.zp0 s.M s.H s.next (s.N.map nr)=R3 at HEQ h3;clear hok hv;obtain ⟨ia,ic,N,ma,mc,M,ha,hc,H,next⟩:=s;simp only at h0 h1 h2 h3 HIS ⊢;unfold Pl.Sp.cs at h1 h2 h3 ⊢;simp only at h1 h2 h3 ⊢;have b0:=(Below.refl w.heap.size w).alloc (o:= .cells #[.slice ia N.length ic, .slice ma M.length mc, .slice ha H.length hc, .int .i64 next] 32) (Nat.le_refl _);have V0:=hide (Mem.Blk.new w #[.slice ia N.length ic, .slice ma M.length mc, .slice ha H.length hc, .int .i64 next] 32);have a0:=(za V0).cell 0;have a1:=(za V0).cell 1
 have a2:=(za V0).cell 2;have a3:=(za V0).cell 3;simp only [kGs] at a0 a1 a2 a3;go_enter Tryz.func41,Tryz.ntmps41
 go_wp2_with fail
 generalize w.alloc (.cells #[.slice ia N.length ic, .slice ma M.length mc, .slice ha H.length hc, .int .i64 next] 32)=wA at b0 V0 a0 a1 a2 a3 ⊢;refine (za h0 _).mono ?_;rintro e w1 ⟨rfl,bX⟩;have b1:=b0.trans (bX.mono b0.size);have V1:=hide ((za V0).call bX);clear a0 a1 a2 a3 V0 b0 bX h0;cases R0
 ·have HE:Hid (R=false):=hide (za HEQ);clear HEQ h1 h2 h3 HIS;go_wp2
  go_ret
  exact ⟨(by rw [za HE];first |done|rfl),b1⟩
 obtain ⟨n0,n1⟩:=za HIS rfl;obtain ⟨a0,a1,a2,a3⟩:=jc4 (za V1);have HC:=hide (za h1 _ b1 n0 n1);clear h1 HIS;go_wp2_with fail
 refine (za HC).mono ?_;rintro e w2 ⟨rfl,bX⟩;have b2:=b1.trans (bX.mono b1.size);have V2:=hide ((za V1).call bX);clear a0 a1 a2 a3 V1 b1 bX HC;cases R1
 ·have HE:Hid (R=false):=hide (za HEQ);clear HEQ h2 h3;go_wp2
  go_ret
  exact ⟨(by rw [za HE];first |done|rfl),b2⟩
 obtain ⟨a0,a1,a2,a3⟩:=jc4 (za V2);have HC:=hide (za h2 _ b2);clear h2;go_wp2_with fail
 refine (za HC).mono ?_;rintro e w3 ⟨rfl,bX⟩;have b3:=b2.trans (bX.mono b2.size);have V3:=hide ((za V2).call bX);clear a0 a1 a2 a3 V2 b2 bX HC;cases R2
 ·have HE:Hid (R=false):=hide (za HEQ);clear HEQ h3;go_wp2
  go_ret
  exact ⟨(by rw [za HE];first |done|rfl),b3⟩
 obtain ⟨a0,a1,a2,a3⟩:=jc4 (za V3);have HC:=hide (za h3 _ b3 n0 n1);clear h3;go_wp2_with fail
 refine (za HC).mono ?_;rintro e w4 ⟨rfl,bX⟩;have b4:=b3.trans (bX.mono b3.size);have HE:Hid (R=R3):=hide (za HEQ);clear a0 a1 a2 a3 V3 b3 bX HC HEQ n0 n1;go_wp2
 go_ret
 exact ⟨(by rw [za HE];first |done|rfl),b4⟩
end WSp
end
section
open Go.RowKit
namespace WSp
def begC (p:ByteArray) (R:Bool):Int:=if Pl.whyI p R=0 then 0 else if Pl.whyI p R=1 then 2 else 1
theorem begin_any (s:Pl.Sp) (p:ByteArray) (w:World) (hp:p.size≤1048576) (hok:zb0.OkS s 1048576) (hv:Mem.zd9 w s):
  Calls Tryz.prog 16 #[.agg s.cs, .string p] w fun e w'=>e= .returned (.int .i64 (begC p (Pl.zc4 s.next (s.N.map nr) s.M s.H Pl.wayB)))∧Below w.heap.size w w':=by
 have HX:=hide (fun W (b:Below w.heap.size w W)=>zh7 s W hok (hv.call b));have HR:=hide (fun W=>zd1.zv8 p W hp);generalize Pl.zc4 s.next (s.N.map nr) s.M s.H Pl.wayB=R at HX ⊢;clear hok hv;obtain ⟨ia,ic,N,ma,mc,M,ha,hc,H,next⟩:=s;unfold Pl.Sp.cs at HX ⊢;simp only at HX ⊢;have b0:=(Below.refl w.heap.size w).alloc (o:= .cells #[Value.slice ia N.length ic,Value.slice ma M.length mc,Value.slice ha H.length hc,Value.int .i64 next] 32) (Nat.le_refl _);have V0:=hide (Mem.Blk.new w #[Value.slice ia N.length ic,Value.slice ma M.length mc,Value.slice ha H.length hc,Value.int .i64 next] 32);by_cases hl:8000<p.size
 ·have HW:Hid (begC p R=2):=hide (by unfold begC Pl.whyI;rw [if_pos hl];rfl);have l1:(8000:Int)<(p.size:Int):=by omega
  clear HX HR;go_enter Tryz.func16,Tryz.ntmps16
  go_wp2
  go_ret
  exact ⟨by rw [za HW];rfl,b0⟩
 have l1:¬ (8000:Int)<(p.size:Int):=by omega
 have HWn:Hid ((R&&Pl.za0 p)=false→begC p R=1):=hide (fun h=>by unfold begC Pl.whyI;rw [if_neg hl,h];rfl);have HWy:Hid ((R&&Pl.za0 p)=true→begC p R=0):=hide (fun h=>by unfold begC Pl.whyI;rw [if_neg hl,h];rfl);generalize begC p R=C at HWn HWy ⊢;generalize Pl.za0 p=pb at HR HWn HWy;obtain ⟨a0,a1,a2,a3⟩:=jc4 (za V0);go_enter Tryz.func16,Tryz.ntmps16
 go_wp2_with fail
 generalize w.alloc (.cells #[Value.slice ia N.length ic,Value.slice ma M.length mc,Value.slice ha H.length hc,Value.int .i64 next] 32)=wA at b0 V0 a0 a1 a2 a3 ⊢;refine (za HX _ b0).mono ?_;rintro e w1 ⟨rfl,bX⟩;have b1:=b0.trans (bX.mono b0.size);clear HX bX V0 a0 a1 a2 a3 b0;cases R
 ·have HW:=hide (za HWn rfl);clear HWn HWy HR;go_wp2
  go_ret
  exact ⟨by rw [za HW];rfl,b1⟩
 go_wp2_with fail
 refine (za HR _).mono ?_;rintro e w2 ⟨rfl,bX⟩;have b2:=b1.trans (bX.mono b1.size);clear HR bX b1;cases pb
 ·have HW:=hide (za HWn rfl);clear HWn HWy;go_wp2
  go_ret
  exact ⟨by rw [za HW];rfl,b2⟩
 ·have HW:=hide (za HWy rfl);clear HWn HWy;go_wp2
  go_ret
  exact ⟨by rw [za HW];rfl,b2⟩
end WSp
end
section
open Go.RowKit
namespace Pl
theorem under_root {p t:ByteArray} (h:by_ t=[]):under p t=true:=(zl9 p t).2 (.inl h)
theorem under_same (p:ByteArray):under p p=true:=(zl9 p p).2 (.inr (.inl rfl))
theorem under_short {p t:ByteArray} (h0:by_ t≠[]) (h1:p≠t) (h:¬t.size<p.size):under p t=false:=by
 rw [Bool.eq_false_iff];intro h2
 rcases (zl9 p t).1 h2 with h3|h3|⟨r,h3⟩
 ·exact h0 h3
 ·exact h1 (ze4 h3)
 ·have :=congrArg List.length h3;rw [zc8,List.length_append,List.length_cons,zc8] at this;omega
theorem by_pre (p t:ByteArray):by_ (p.extract 0 t.size)=(by_ p).take t.size:=by rw [zm6];simp
theorem under_other {p t:ByteArray} (h0:by_ t≠[]) (h1:p≠t) (h:p.extract 0 t.size≠t):under p t=false:=by
 rw [Bool.eq_false_iff];intro h2
 rcases (zl9 p t).1 h2 with h3|h3|⟨r,h3⟩
 ·exact h0 h3
 ·exact h1 (ze4 h3)
 ·apply h;apply ze4;rw [by_pre,h3,←zc8,List.take_left]
theorem pre_split {p t:ByteArray} (hl:t.size<p.size) (h:p.extract 0 t.size=t):by_ p=by_ t++p[t.size]::(by_ p).drop (t.size+1):=by
 have h1:by_ t=(by_ p).take t.size:=by rw [←by_pre,h]
 have h2:t.size<(by_ p).length:=by rw [zc8];exact hl
 have h3:(by_ p).drop t.size=p[t.size]::(by_ p).drop (t.size+1):=by rw [List.drop_eq_getElem_cons h2];rfl
 exact (List.take_append_drop t.size (by_ p)).symm.trans (by rw [h3,←h1];rfl)
theorem under_yes {p t:ByteArray} (hl:t.size<p.size) (h:p.extract 0 t.size=t) (hb:p[t.size].toNat=47):under p t=true:=by
 refine (zl9 p t).2 (.inr (.inr ⟨(by_ p).drop (t.size+1),?_⟩));have hb':p[t.size]=47:=UInt8.toNat_inj.1 hb;rw [←hb'];exact pre_split hl h
theorem under_no {p t:ByteArray} (h0:by_ t≠[]) (h1:p≠t) (hl:t.size<p.size) (h:p.extract 0 t.size=t) (hb:p[t.size].toNat≠47):under p t=false:=by
 rw [Bool.eq_false_iff];intro h2
 rcases (zl9 p t).1 h2 with h3|h3|⟨r,h3⟩
 ·exact h0 h3
 ·exact h1 (ze4 h3)
 ·rw [pre_split hl h] at h3;have :=List.append_cancel_left h3;simp at this
  exact hb (by rw [this.1];rfl)
end Pl
namespace zd1
theorem under1_any (p t:ByteArray) (w:World) (ht:t.size≤1048576):
  Calls Tryz.prog 43 #[.string p, .string t] w fun e w'=>e= .returned (.bool (Pl.under p t))∧w'=w:=by
 by_cases h0:Pl.by_ t=[]
 ·have E:=hide (Pl.under_root (p:=p) h0);have d1:t.toList.isEmpty=true:=by rw [Pl.zb7];simp [h0]
  clear h0;go_enter Tryz.func43,Tryz.ntmps43
  go_wp2
  go_ret
  exact ⟨za1 (za E).symm,rfl⟩
 have d1:t.toList.isEmpty=false:=by rw [Pl.zb7];simp [h0]
 by_cases h1:p=t
 ·subst h1;have E:=hide (Pl.under_same p);clear h0;go_enter Tryz.func43,Tryz.ntmps43
  go_wp2
  go_ret
  exact ⟨za1 (za E).symm,rfl⟩
 have d2:=Pl.zj8 h1;by_cases hl:t.size<p.size
 ·have k1:(t.size:Int)<(p.size:Int):=by omega
  have k2:(t.size:Int)≤(p.size:Int):=by omega
  have k3:(0:Int)≤(t.size:Int):=by omega
  by_cases h3:p.extract 0 t.size=t
  ·have d3:=Pl.zr0 h3;by_cases h4:p[t.size].toNat=47
   ·have E:=hide (Pl.under_yes hl h3 h4);have d4:((p[t.size].toNat:Int)==47)=true:=by rw [beq_iff_eq];omega
    clear h0 h1 h3 h4;go_enter Tryz.func43,Tryz.ntmps43
    go_wp2
    go_ret
    exact ⟨za1 (za E).symm,rfl⟩
   ·have E:=hide (Pl.under_no h0 h1 hl h3 h4);have d4:((p[t.size].toNat:Int)==47)=false:=by rw [beq_eq_false_iff_ne];omega
    clear h0 h1 h3 h4;go_enter Tryz.func43,Tryz.ntmps43
    go_wp2
    go_ret
    exact ⟨za1 (za E).symm,rfl⟩
  ·have E:=hide (Pl.under_other h0 h1 h3);have d3:=Pl.zj8 h3;clear h0 h1 h3;go_enter Tryz.func43,Tryz.ntmps43
   go_wp2
   go_ret
   exact ⟨za1 (za E).symm,rfl⟩
 ·have E:=hide (Pl.under_short h0 h1 hl);have k1:¬ (t.size:Int)<(p.size:Int):=by omega
  clear h0 h1;go_enter Tryz.func43,Tryz.ntmps43
  go_wp2
  go_ret
  exact ⟨za1 (za E).symm,rfl⟩
end zd1
end
section
open Go.RowKit
namespace zd1
theorem rest1_any (p n:ByteArray) (w:World) (hp:p.size≤1048576) (hu:Pl.under p n=true):
  Calls Tryz.prog 44 #[.string p, .string n] w fun e w'=>e= .returned (.string (Pl.rest p n))∧w'=w:=by
 by_cases h0:Pl.by_ n=[]
 ·have E:=hide (Pl.rest_root (p:=p) h0);have d1:n.toList.isEmpty=true:=by rw [Pl.zb7];simp [h0]
  clear h0 hu;go_enter Tryz.func44,Tryz.ntmps44
  go_wp2
  go_ret
  exact ⟨zq2 (za E).symm,rfl⟩
 have d1:n.toList.isEmpty=false:=by rw [Pl.zb7];simp [h0]
 by_cases h1:p=n
 ·subst h1;have E:=hide (Pl.rest_same p);clear h0 hu;go_enter Tryz.func44,Tryz.ntmps44
  go_wp2
  go_ret
  exact ⟨zq2 (za E).symm,rfl⟩
 ·have d2:=Pl.zj8 h1
  obtain ⟨r,hr⟩:∃r,Pl.by_ p=Pl.by_ n++47::r:=by
   rcases (Pl.zl9 p n).1 hu with h3|h3|h3
   ·exact absurd h3 h0
   ·exact absurd (Pl.ze4 h3) h1
   ·exact h3
  have E:=hide (Pl.rest_more h0 hr)
  have hsz:n.size+1≤p.size:=by
   have :=congrArg List.length hr;rw [Pl.zc8,List.length_append,List.length_cons,Pl.zc8] at this;omega
  have k1:(0:Int)≤(n.size:Int)+1:=by omega
  have k2:(n.size:Int)+1≤(p.size:Int):=by omega
  clear h0 h1 hr hu;generalize Pl.rest p n=R at E ⊢;go_enter Tryz.func44,Tryz.ntmps44
  go_wp2
  go_ret
  exact ⟨by rw [za E];rfl,rfl⟩
end zd1
end
section
open Go.RowKit
namespace WSp
theorem where_any (s:Pl.Sp) (p:ByteArray) (w:World) (hp:p.size≤1048576) (hm:∀m∈s.M,m.p.size≤1048576) (hM:s.M.length≤1000) (hv:Mem.zd9 w s) (m:Pl.Mn) (hlm:Pl.zg2 (Pl.uR p) s.M s.M.length=m) (hu:Pl.under p m.p=true):
  Calls Tryz.prog 18 #[.agg s.cs, .string p] w fun e w'=>e= .returned (.tuple #[.agg #[.string m.p, .int .i64 m.i, .bool m.z], .string (Pl.rest p m.p)])∧Below w.heap.size w w':=by
 have HUN:=hide (fun W (t:Pl.Mn) (ht:t∈s.M)=>(zd1.under1_any p t.p W (hm t ht)).mono (R':=fun e w'=>e= .returned (.bool (Pl.uR p t))∧Below W.heap.size W w') (fun e w' h=>⟨h.1,h.2 ▸ Below.refl _ _⟩));have HRS:=hide (fun W=>(zd1.rest1_any p m.p W hp hu).mono (R':=fun e w'=>e= .returned (.string (Pl.rest p m.p))∧Below W.heap.size W w') (fun e w' h=>⟨h.1,h.2 ▸ Below.refl _ _⟩));have HV:=hide hv.zl8;have HLM:=hide hlm;clear hv hu hp hlm;generalize Pl.rest p m.p=RT at HRS ⊢;obtain ⟨mp,mi,mz⟩:=m;simp only at HRS ⊢;obtain ⟨ia,ic,N,ma,mc,M,ha,hc,H,next⟩:=s;unfold Pl.Sp.cs;simp only at HUN HV HLM hM hm ⊢;have HP:=hide hm;clear hm
 have b0:Below w.heap.size w (((w.alloc (.cells #[.slice ia N.length ic, .slice ma M.length mc, .slice ha H.length hc, .int .i64 next] 32)).alloc (.cells #[.string ⟨#[]⟩, .int .i64 0, .bool false] 49)).alloc (.cells #[.string ⟨#[]⟩, .int .i64 0, .bool false] 49)):=((bE0).alloc (by simp) _).alloc (by simp;omega) _;have V0:=hide (((Mem.Blk.new w #[.slice ia N.length ic, .slice ma M.length mc, .slice ha H.length hc, .int .i64 next] 32).alloc (.cells #[.string ⟨#[]⟩, .int .i64 0, .bool false] 49)).alloc (.cells #[.string ⟨#[]⟩, .int .i64 0, .bool false] 49))
 have U0:=hide ((Mem.Blk.new (w.alloc (.cells #[.slice ia N.length ic, .slice ma M.length mc, .slice ha H.length hc, .int .i64 next] 32)) #[.string ⟨#[]⟩, .int .i64 0, .bool false] 49).alloc (.cells #[.string ⟨#[]⟩, .int .i64 0, .bool false] 49));have Y0:=hide (Mem.Blk.new ((w.alloc (.cells #[.slice ia N.length ic, .slice ma M.length mc, .slice ha H.length hc, .int .i64 next] 32)).alloc (.cells #[.string ⟨#[]⟩, .int .i64 0, .bool false] 49)) #[.string ⟨#[]⟩, .int .i64 0, .bool false] 49);have n1:(w.alloc (.cells #[.slice ia N.length ic, .slice ma M.length mc, .slice ha H.length hc, .int .i64 next] 32)).heap.size=w.heap.size+1:=by simp
 have n2:((w.alloc (.cells #[.slice ia N.length ic, .slice ma M.length mc, .slice ha H.length hc, .int .i64 next] 32)).alloc (.cells #[.string ⟨#[]⟩, .int .i64 0, .bool false] 49)).heap.size=w.heap.size+2:=by simp
 rw [n1] at U0;rw [n2] at Y0;clear n1 n2;go_enter Tryz.func18,Tryz.ntmps18
 go_wp2
 go_loopw [7] (fun i wr=>∃k:Nat,k≤M.length∧i= .int .i64 (k:Int)∧Below w.heap.size w wr∧Hid (Mem.Blk wr w.heap.size #[.slice ia N.length ic, .slice ma M.length mc, .slice ha H.length hc, .int .i64 next] 32)∧Hid (Mem.Blk wr (w.heap.size+1) #[.string ⟨#[]⟩, .int .i64 0, .bool false] 49)∧Hid (Mem.Blk wr (w.heap.size+2) #[.string (Pl.zg2 (Pl.uR p) M k).p, .int .i64 (Pl.zg2 (Pl.uR p) M k).i, .bool (Pl.zg2 (Pl.uR p) M k).z] 49)) (fun i _=>M.length - (intOf i).toNat)
 case atStart=>
  exact ⟨0,Nat.zero_le _,rfl,b0,V0,U0,Y0⟩
 case round=>
  obtain ⟨k,hk,rfl,hbel,V2,U2,Y2⟩:=hrel;clear b0 V0 U0 Y0;have a1:=(za V2).cell 1;simp only [kGs] at a1;by_cases hlt:k<M.length
  ·obtain ⟨t,ht⟩:∃n,M[k]? =some n:=⟨_,List.getElem?_eq_getElem hlt⟩;obtain ⟨g,o,rfl,hg,q0,q1,q2⟩:=(za HV) k t ht;have c0:=(hbel.cell (p:=⟨g,_,none⟩) hg).trans q0;have c1:=(hbel.cell (p:=⟨g,_,none⟩) hg).trans q1;have c2:=(hbel.cell (p:=⟨g,_,none⟩) hg).trans q2;have HGL:Hid (g<wr.heap.size):=hide (Nat.lt_of_lt_of_le hg hbel.size);have u1:(k:Int)<(M.length:Int):=by omega
   have u3:(0:Int)≤(k:Int):=by omega
   have HC:=hide (fun W=>za HUN W t (List.mem_of_getElem? ht));have L1:=hide (fun h=>Pl.leadS_no (u:=Pl.uR p) ht h);have L2:=hide (fun h h2=>Pl.leadS_yes (u:=Pl.uR p) ht h h2);have L3:=hide (fun h h2=>Pl.leadS_short (u:=Pl.uR p) ht h h2);generalize hq:Pl.zg2 (Pl.uR p) M k=q at Y2 L1 L2 L3;generalize hL:Pl.zg2 (Pl.uR p) M (k+1)=q' at L1 L2 L3;have HL2:=hide hL;generalize Pl.uR p t=b at HC L1 L2 L3;obtain ⟨y0,y1,y2⟩:=jc3 (za Y2);clear q0 q1 q2 hg ht hq hL;cases b
   ·have HL:q'=q:=za L1 rfl;have HL:Pl.zg2 (Pl.uR p) M (k+1)=q:=(za HL2).trans HL;clear L1 L2 L3 HL2;have MK:Hid (∀W',Below wr.heap.size wr W'→(Below wr.heap.size wr W'∧W'.cell? ⟨w.heap.size,1,none⟩=some (.slice (some ⟨g,o,none⟩) M.length mc)∧W'.cell? ⟨w.heap.size+2,0,none⟩=some (.string q.p)∧W'.cell? ⟨w.heap.size+2,1,none⟩=some (.int .i64 q.i)∧W'.cell? ⟨w.heap.size+2,2,none⟩=some (.bool q.z)∧W'.cell? ⟨g,o+k*3,none⟩=some (.string t.p))):=fun W' hb=>⟨hb,((za V2).call hb).cell 1,((za Y2).call hb).cell 0,((za Y2).call hb).cell 1,((za Y2).call hb).cell 2,(hb.cell (p:=⟨_,_,none⟩) (za HGL)).trans c0⟩;go_wp2_with fail
    refine RG MK (bD _) fun hHeld=>?_;refine TB 0 ?_;refine TB 1 ?_;refine TB 2 ?_;refine TB 3 ?_;refine TB 4 ?_;refine TB 5 ?_;refine TB 6 ?_;refine RN 7 fun K hK=>?_;go_simp
    refine (za HC _).mono ?_;rintro e wX ⟨rfl,bX⟩;refine hK.out _ _ ?_ (fun hHeld=>?_)
    ·exact za MK _ (hHeld.1.trans (bX.mono hHeld.1.size))
    clear hK K
    try simp only [Act.put,kBs]
    refine TB 8 ?_;refine TC 9 ?_;refine TC 10 ?_;refine TC 11 ?_;refine TC 12 ?_;refine TC 13 ?_;refine TC 14 ?_;refine TC 15 ?_;refine TC 16 ?_;refine TC 17 ?_;refine TC 18 ?_;refine TC 19 ?_;refine TC 20 ?_;refine TC 21 ?_;refine TC 22 ?_;refine TC 23 ?_;refine TB 24 ?_;refine wpAnyH_done (by kernel_rfl) ?_ _;have bb:=hbel.trans (hHeld.1.mono hbel.size);have VV:=hide ((za V2).call hHeld.1);have YY:=hide ((za Y2).call hHeld.1);have UU:=hide ((za U2).call hHeld.1);have e0:=(hHeld.1.cell (p:=⟨_,_,none⟩) (za HGL)).trans c0;have e1:=(hHeld.1.cell (p:=⟨_,_,none⟩) (za HGL)).trans c1;have e2:=(hHeld.1.cell (p:=⟨_,_,none⟩) (za HGL)).trans c2;clear hHeld MK hbel V2 Y2 U2 a1 y0 y1 y2 c0 c1 c2;go_wp2
    go_roundw
    case rel=>exact ⟨k+1,by omega,by go_num,bb,VV,UU,hide (by rw [HL];exact za YY)⟩
    case measure=>simp [intOf];omega
   clear L1;by_cases hk0:k=0
   ·have HL:Pl.zg2 (Pl.uR p) M (k+1)=t:=(za HL2).trans (za L2 rfl (.inl hk0));have hk1:((k:Int)==0)=true:=by simpa using hk0
    have hk2:decide ((k:Int)=0)=true:=by simpa using hk0
    clear L2 L3 HL2 hk0;have MK:Hid (∀W',Below wr.heap.size wr W'→(Below wr.heap.size wr W'∧W'.cell? ⟨w.heap.size,1,none⟩=some (.slice (some ⟨g,o,none⟩) M.length mc)∧W'.cell? ⟨w.heap.size+2,0,none⟩=some (.string q.p)∧W'.cell? ⟨w.heap.size+2,1,none⟩=some (.int .i64 q.i)∧W'.cell? ⟨w.heap.size+2,2,none⟩=some (.bool q.z)∧W'.cell? ⟨g,o+k*3,none⟩=some (.string t.p))):=fun W' hb=>⟨hb,((za V2).call hb).cell 1,((za Y2).call hb).cell 0,((za Y2).call hb).cell 1,((za Y2).call hb).cell 2,(hb.cell (p:=⟨_,_,none⟩) (za HGL)).trans c0⟩;go_wp2_with fail
    refine RG MK (bD _) fun hHeld=>?_;refine TB 0 ?_;refine TB 1 ?_;refine TB 2 ?_;refine TB 3 ?_;refine TB 4 ?_;refine TB 5 ?_;refine TB 6 ?_;refine RN 7 fun K hK=>?_;go_simp
    refine (za HC _).mono ?_;rintro e wX ⟨rfl,bX⟩;refine hK.out _ _ ?_ (fun hHeld=>?_)
    ·exact za MK _ (hHeld.1.trans (bX.mono hHeld.1.size))
    clear hK K
    try simp only [Act.put,kBs]
    refine TB 8 ?_;refine TB 9 ?_;refine TB 10 ?_;refine TB 11 ?_;refine TC 12 ?_;refine TC 13 ?_;refine TC 14 ?_;refine TC 15 ?_;refine TC 16 ?_;refine TC 17 ?_;refine TC 18 ?_;refine TC 19 ?_;refine TC 20 ?_;refine TC 21 ?_;refine TC 22 ?_;refine TB 23 ?_;refine TB 24 ?_;refine wpAnyH_done (by kernel_rfl) ?_ _;have bb:=hbel.trans (hHeld.1.mono hbel.size);have VV:=hide ((za V2).call hHeld.1);have YY:=hide ((za Y2).call hHeld.1);have UU:=hide ((za U2).call hHeld.1);have e0:=(hHeld.1.cell (p:=⟨_,_,none⟩) (za HGL)).trans c0;have e1:=(hHeld.1.cell (p:=⟨_,_,none⟩) (za HGL)).trans c1;have e2:=(hHeld.1.cell (p:=⟨_,_,none⟩) (za HGL)).trans c2;clear hHeld MK hbel V2 Y2 U2 a1 y0 y1 y2 c0 c1 c2;have a1:=(za VV).cell 1;obtain ⟨⟨y0,y1,y2⟩,f0,f1,f2⟩:=jf3 (za YY);simp only [kGs] at a1
    have B3:=hide (((bb.setCell (p:=⟨w.heap.size+2,0,none⟩) (Nat.le_add_right _ _) (.string t.p)).setCell (p:=⟨w.heap.size+2,1,none⟩) (Nat.le_add_right _ _) (.int .i64 t.i)).setCell (p:=⟨w.heap.size+2,2,none⟩) (Nat.le_add_right _ _) (.bool t.z));have V3:=hide ((((za VV).far ⟨w.heap.size+2,0,none⟩ (.string t.p) (by show w.heap.size≠w.heap.size+2;omega)).far ⟨w.heap.size+2,1,none⟩ (.int .i64 t.i) (by show w.heap.size≠w.heap.size+2;omega)).far ⟨w.heap.size+2,2,none⟩ (.bool t.z) (by show w.heap.size≠w.heap.size+2;omega));have U3:=hide ((((za UU).far ⟨w.heap.size+2,0,none⟩ (.string t.p) (by show w.heap.size+1≠w.heap.size+2;omega)).far ⟨w.heap.size+2,1,none⟩ (.int .i64 t.i) (by show w.heap.size+1≠w.heap.size+2;omega)).far ⟨w.heap.size+2,2,none⟩ (.bool t.z) (by show w.heap.size+1≠w.heap.size+2;omega))
    have Y3:=hide ((((za YY).put 0 (.string t.p)).put 1 (.int .i64 t.i)).put 2 (.bool t.z));clear VV UU YY bb;go_wp2
    go_roundw
    case rel=>exact ⟨k+1,by omega,by go_num,za B3,V3,U3,hide (by rw [HL];exact za Y3)⟩
    case measure=>simp [intOf];omega
   have hk1:((k:Int)==0)=false:=by simpa using hk0
   have hk2:decide ((k:Int)=0)=false:=by simpa using hk0
   have hk3:¬ (k:Int)=0:=by omega
   by_cases hs:q.p.size<t.p.size
   ·have HL:Pl.zg2 (Pl.uR p) M (k+1)=t:=(za HL2).trans (za L2 rfl (.inr hs));have v1:(q.p.size:Int)<(t.p.size:Int):=by omega
    have v2:decide ((q.p.size:Int)<(t.p.size:Int))=true:=by simpa using hs
    clear L2 L3 HL2;have MK:Hid (∀W',Below wr.heap.size wr W'→(Below wr.heap.size wr W'∧W'.cell? ⟨w.heap.size,1,none⟩=some (.slice (some ⟨g,o,none⟩) M.length mc)∧W'.cell? ⟨w.heap.size+2,0,none⟩=some (.string q.p)∧W'.cell? ⟨w.heap.size+2,1,none⟩=some (.int .i64 q.i)∧W'.cell? ⟨w.heap.size+2,2,none⟩=some (.bool q.z)∧W'.cell? ⟨g,o+k*3,none⟩=some (.string t.p))):=fun W' hb=>⟨hb,((za V2).call hb).cell 1,((za Y2).call hb).cell 0,((za Y2).call hb).cell 1,((za Y2).call hb).cell 2,(hb.cell (p:=⟨_,_,none⟩) (za HGL)).trans c0⟩;go_wp2_with fail
    refine RG MK (bD _) fun hHeld=>?_;refine TB 0 ?_;refine TB 1 ?_;refine TB 2 ?_;refine TB 3 ?_;refine TB 4 ?_;refine TB 5 ?_;refine TB 6 ?_;refine RN 7 fun K hK=>?_;go_simp
    refine (za HC _).mono ?_;rintro e wX ⟨rfl,bX⟩;refine hK.out _ _ ?_ (fun hHeld=>?_)
    ·exact za MK _ (hHeld.1.trans (bX.mono hHeld.1.size))
    clear hK K
    try simp only [Act.put,kBs]
    refine TB 8 ?_;refine TB 9 ?_;refine TB 10 ?_;refine TB 11 ?_;refine TB 12 ?_;refine TB 13 ?_;refine TB 14 ?_;refine TB 15 ?_;refine TB 16 ?_;refine TB 17 ?_;refine TB 18 ?_;refine TB 19 ?_;refine TB 20 ?_;refine TB 21 ?_;refine TB 22 ?_;refine TB 23 ?_;refine TB 24 ?_;refine wpAnyH_done (by kernel_rfl) ?_ _;have bb:=hbel.trans (hHeld.1.mono hbel.size);have VV:=hide ((za V2).call hHeld.1);have YY:=hide ((za Y2).call hHeld.1);have UU:=hide ((za U2).call hHeld.1);have e0:=(hHeld.1.cell (p:=⟨_,_,none⟩) (za HGL)).trans c0;have e1:=(hHeld.1.cell (p:=⟨_,_,none⟩) (za HGL)).trans c1;have e2:=(hHeld.1.cell (p:=⟨_,_,none⟩) (za HGL)).trans c2;clear hHeld MK hbel V2 Y2 U2 a1 y0 y1 y2 c0 c1 c2;have a1:=(za VV).cell 1;obtain ⟨⟨y0,y1,y2⟩,f0,f1,f2⟩:=jf3 (za YY);simp only [kGs] at a1
    have B3:=hide (((bb.setCell (p:=⟨w.heap.size+2,0,none⟩) (Nat.le_add_right _ _) (.string t.p)).setCell (p:=⟨w.heap.size+2,1,none⟩) (Nat.le_add_right _ _) (.int .i64 t.i)).setCell (p:=⟨w.heap.size+2,2,none⟩) (Nat.le_add_right _ _) (.bool t.z));have V3:=hide ((((za VV).far ⟨w.heap.size+2,0,none⟩ (.string t.p) (by show w.heap.size≠w.heap.size+2;omega)).far ⟨w.heap.size+2,1,none⟩ (.int .i64 t.i) (by show w.heap.size≠w.heap.size+2;omega)).far ⟨w.heap.size+2,2,none⟩ (.bool t.z) (by show w.heap.size≠w.heap.size+2;omega));have U3:=hide ((((za UU).far ⟨w.heap.size+2,0,none⟩ (.string t.p) (by show w.heap.size+1≠w.heap.size+2;omega)).far ⟨w.heap.size+2,1,none⟩ (.int .i64 t.i) (by show w.heap.size+1≠w.heap.size+2;omega)).far ⟨w.heap.size+2,2,none⟩ (.bool t.z) (by show w.heap.size+1≠w.heap.size+2;omega))
    have Y3:=hide ((((za YY).put 0 (.string t.p)).put 1 (.int .i64 t.i)).put 2 (.bool t.z));clear VV UU YY bb;go_wp2
    go_roundw
    case rel=>exact ⟨k+1,by omega,by go_num,za B3,V3,U3,hide (by rw [HL];exact za Y3)⟩
    case measure=>simp [intOf];omega
   ·have HL:Pl.zg2 (Pl.uR p) M (k+1)=q:=(za HL2).trans (za L3 hk0 hs);have v1:¬ (q.p.size:Int)<(t.p.size:Int):=by omega
    have v2:decide ((q.p.size:Int)<(t.p.size:Int))=false:=by simpa using hs
    clear L2 L3 HL2;have MK:Hid (∀W',Below wr.heap.size wr W'→(Below wr.heap.size wr W'∧W'.cell? ⟨w.heap.size,1,none⟩=some (.slice (some ⟨g,o,none⟩) M.length mc)∧W'.cell? ⟨w.heap.size+2,0,none⟩=some (.string q.p)∧W'.cell? ⟨w.heap.size+2,1,none⟩=some (.int .i64 q.i)∧W'.cell? ⟨w.heap.size+2,2,none⟩=some (.bool q.z)∧W'.cell? ⟨g,o+k*3,none⟩=some (.string t.p))):=fun W' hb=>⟨hb,((za V2).call hb).cell 1,((za Y2).call hb).cell 0,((za Y2).call hb).cell 1,((za Y2).call hb).cell 2,(hb.cell (p:=⟨_,_,none⟩) (za HGL)).trans c0⟩;go_wp2_with fail
    refine RG MK (bD _) fun hHeld=>?_;refine TB 0 ?_;refine TB 1 ?_;refine TB 2 ?_;refine TB 3 ?_;refine TB 4 ?_;refine TB 5 ?_;refine TB 6 ?_;refine RN 7 fun K hK=>?_;go_simp
    refine (za HC _).mono ?_;rintro e wX ⟨rfl,bX⟩;refine hK.out _ _ ?_ (fun hHeld=>?_)
    ·exact za MK _ (hHeld.1.trans (bX.mono hHeld.1.size))
    clear hK K
    try simp only [Act.put,kBs]
    refine TB 8 ?_;refine TB 9 ?_;refine TB 10 ?_;refine TB 11 ?_;refine TB 12 ?_;refine TB 13 ?_;refine TB 14 ?_;refine TB 15 ?_;refine TB 16 ?_;refine TB 17 ?_;refine TB 18 ?_;refine TB 19 ?_;refine TB 20 ?_;refine TB 21 ?_;refine TB 22 ?_;refine TB 23 ?_;refine TB 24 ?_;refine wpAnyH_done (by kernel_rfl) ?_ _;have bb:=hbel.trans (hHeld.1.mono hbel.size);have VV:=hide ((za V2).call hHeld.1);have YY:=hide ((za Y2).call hHeld.1);have UU:=hide ((za U2).call hHeld.1);have e0:=(hHeld.1.cell (p:=⟨_,_,none⟩) (za HGL)).trans c0;have e1:=(hHeld.1.cell (p:=⟨_,_,none⟩) (za HGL)).trans c1;have e2:=(hHeld.1.cell (p:=⟨_,_,none⟩) (za HGL)).trans c2;clear hHeld MK hbel V2 Y2 U2 a1 y0 y1 y2 c0 c1 c2;go_wp2
    go_roundw
    case rel=>exact ⟨k+1,by omega,by go_num,bb,VV,UU,hide (by rw [HL];exact za YY)⟩
    case measure=>simp [intOf];omega
  ·have u1:¬ (k:Int)<(M.length:Int):=by omega
   obtain rfl:k=M.length:=by omega
   rw [za HLM] at Y2;have a0:=(za Y2).cell 0;have a1':=(za Y2).cell 1;have a2:=(za Y2).cell 2;simp only [kGs] at a0 a1' a2;have MK:Hid (∀W',Below w.heap.size w W'→Mem.Blk W' (w.heap.size+2) #[.string mp, .int .i64 mi, .bool mz] 49→(Below w.heap.size w W'∧W'.cell? ⟨w.heap.size+2,0,none⟩=some (.string mp)∧W'.cell? ⟨w.heap.size+2,1,none⟩=some (.int .i64 mi)∧W'.cell? ⟨w.heap.size+2,2,none⟩=some (.bool mz))):=fun W' b y=>⟨b,y.cell 0,y.cell 1,y.cell 2⟩;have BD:Below wr.heap.size wr wr.drew:=⟨rfl,rfl,rfl,Nat.le_refl _,fun _ _=>rfl⟩;have U:=(za U2).call BD;have Y:=(za Y2).call BD;have bel:=hbel.trans (BD.mono hbel.size);clear U2 Y2 V2 BD hbel HUN HV HLM HP;go_wp2_with fail
   refine wp_region_held_drew (S:=fun W'=>Below w.heap.size w W'∧W'.cell? ⟨w.heap.size+2,0,none⟩=some (.string mp)∧W'.cell? ⟨w.heap.size+2,1,none⟩=some (.int .i64 mi)∧W'.cell? ⟨w.heap.size+2,2,none⟩=some (.bool mz)) (by kernel_rfl) ?_ (fun hHeld=>?_)
   ·exact za MK _ bel Y
   generalize wr.drew=D0 at hHeld U Y bel ⊢;refine TB 0 ?_;refine TB 1 ?_;refine TB 2 ?_;refine TB 3 ?_;refine RN 4 fun K hK=>?_;go_simp
   refine (za HRS _).mono ?_;rintro e wX ⟨rfl,bX⟩;replace U:=U.call bX;replace Y:=Y.call bX;replace bel:=bel.trans (bX.mono bel.size);clear bX;refine hK.out _ _ ?_ (fun hHeld=>?_)
   ·exact za MK _ bel Y
   clear hK K
   try simp only [Act.put,kBs]
   refine RN 5 fun K hK=>?_;obtain ⟨⟨d0,d1,d2⟩,f0,f1,f2⟩:=jf3 U;go_simp
   replace U:=((U.put 0 (.string mp)).put 1 (.int .i64 mi)).put 2 (.bool mz);replace Y:=((Y.far ⟨w.heap.size+1,0,none⟩ (.string mp) (by show w.heap.size+2≠w.heap.size+1;omega)).far ⟨w.heap.size+1,1,none⟩ (.int .i64 mi) (by show w.heap.size+2≠w.heap.size+1;omega)).far ⟨w.heap.size+1,2,none⟩ (.bool mz) (by show w.heap.size+2≠w.heap.size+1;omega);replace bel:=((bel.setCell (p:=⟨w.heap.size+1,0,none⟩) (Nat.le_succ _) (.string mp)).setCell (p:=⟨w.heap.size+1,1,none⟩) (Nat.le_succ _) (.int .i64 mi)).setCell (p:=⟨w.heap.size+1,2,none⟩) (Nat.le_succ _) (.bool mz);clear d0 d1 d2 f0 f1 f2;refine hK.out _ _ ?_ (fun hHeld=>?_)
   ·exact za MK _ bel Y
   clear hK K
   try simp only [Act.put,kBs]
   refine TB 6 ?_;refine wpAnyH_done (by kernel_rfl) ?_ _;have d0:=U.cell 0;have d1:=U.cell 1;have d2:=U.cell 2;simp only [kB3,kB4,kB5,kGs] at d0 d1 d2;go_wp2
   refine bodyPost_ret (v:= .tuple #[.agg #[.string mp, .int .i64 mi, .bool mz], .string RT]) (by simp [results,Tryz.results18,go_sem,d0,d1,d2]) rfl ⟨rfl,bel⟩
end WSp
end
section
open Go.RowKit
namespace WSp
theorem nestF_any (s:Pl.Sp) (d:Int) (w:World) (hl:s.N.length≤1048576) (hv:Mem.zh w s.ia s.N) (k:Nat) (x:Pl.Ns) (hx:s.N[k]? =some x) (hk:Pl.zd3 (s.N.map (·.d)) d=(k:Int)):
  Calls Tryz.prog 19 #[.agg s.cs, .int .i64 d] w fun e w'=>e= .returned (.slice x.a x.Is.length x.cap)∧Below w.heap.size w w':=by
 have HI:=hide (fun W (b:Below w.heap.size w W)=>inst_any s d W hl (Mem.zg5 hv b));rw [hk] at HI;obtain ⟨⟨b,o,hia,hb, -,q1⟩, -⟩:=hv k x hx;have hkl:k<s.N.length:=(List.getElem?_eq_some_iff.1 hx).1;clear hv hx hk hl;obtain ⟨ia,ic,N,ma,mc,M,ha,hc,H,next⟩:=s;simp only at hia hkl HI;subst hia;unfold Pl.Sp.cs at HI ⊢;simp only at HI ⊢;have y1:(k:Int)<(N.length:Int):=by omega
 have y2:(0:Int)≤(k:Int):=by omega
 have b0:Below w.heap.size w (w.alloc (.cells #[.slice (some ⟨b,o,none⟩) N.length ic, .slice ma M.length mc, .slice ha H.length hc, .int .i64 next] 32)):=(Below.refl _ _).alloc (Nat.le_refl _) _;have V0:=Mem.Blk.new w #[.slice (some ⟨b,o,none⟩) N.length ic, .slice ma M.length mc, .slice ha H.length hc, .int .i64 next] 32
 have MK:Hid (∀W',Below w.heap.size w W'→Mem.Blk W' w.heap.size #[.slice (some ⟨b,o,none⟩) N.length ic, .slice ma M.length mc, .slice ha H.length hc, .int .i64 next] 32→(W'.cell? ⟨w.heap.size,0,none⟩=some (.slice (some ⟨b,o,none⟩) N.length ic)∧W'.cell? ⟨w.heap.size,1,none⟩=some (.slice ma M.length mc)∧W'.cell? ⟨w.heap.size,2,none⟩=some (.slice ha H.length hc)∧W'.cell? ⟨w.heap.size,3,none⟩=some (.int .i64 next)∧W'.cell? ⟨b,o+k*2+1,none⟩=some (.slice x.a x.Is.length x.cap))):=hide fun W' b1 h=>⟨h.cell 0,h.cell 1,h.cell 2,h.cell 3,(b1.cell (p:=⟨b,_,none⟩) hb).trans q1⟩;go_enter Tryz.func19,Tryz.ntmps19
 go_wp2_with fail
 refine wp_region_held_drew (S:=fun W'=>W'.cell? ⟨w.heap.size,0,none⟩=some (.slice (some ⟨b,o,none⟩) N.length ic)∧W'.cell? ⟨w.heap.size,1,none⟩=some (.slice ma M.length mc)∧W'.cell? ⟨w.heap.size,2,none⟩=some (.slice ha H.length hc)∧W'.cell? ⟨w.heap.size,3,none⟩=some (.int .i64 next)∧W'.cell? ⟨b,o+k*2+1,none⟩=some (.slice x.a x.Is.length x.cap)) (by kernel_rfl) ?_ (fun hHeld=>?_)
 ·exact za MK _ (b0.trans ((bD _).mono b0.size)) (V0.call (bD _))
 have bel:=b0.trans ((bD (n:=(w.alloc (.cells #[.slice (some ⟨b,o,none⟩) N.length ic, .slice ma M.length mc, .slice ha H.length hc, .int .i64 next] 32)).heap.size) (w.alloc (.cells #[.slice (some ⟨b,o,none⟩) N.length ic, .slice ma M.length mc, .slice ha H.length hc, .int .i64 next] 32))).mono b0.size);have VV:=V0.call (bD _);generalize (w.alloc (.cells #[.slice (some ⟨b,o,none⟩) N.length ic, .slice ma M.length mc, .slice ha H.length hc, .int .i64 next] 32)).drew=D0 at hHeld bel VV ⊢;clear b0 V0;refine TB 0 ?_;refine TB 1 ?_;refine TB 2 ?_;refine TB 3 ?_;refine RN 4 fun K hK=>?_;go_simp
 refine (za HI _ bel).mono ?_;rintro e wX ⟨rfl,bX⟩;have bel2:=hide (bel.trans (bX.mono bel.size));have VV2:=VV.call bX;refine hK.out _ _ ?_ (fun hHeld=>?_)
 ·exact za MK _ (za bel2) VV2
 clear hK K bX VV bel
 try simp only [Act.put,kBs]
 refine TB 5 ?_;refine TB 6 ?_;refine TB 7 ?_;refine TB 8 ?_;refine wpAnyH_done (by kernel_rfl) ?_ _;clear hHeld VV2;go_wp2
 go_ret
 exact ⟨rfl,za bel2⟩
end WSp
end
section
open Go.RowKit
namespace zh3
theorem zq6:(Tryz.prog.info? 9).map (fun i=>(i.zero,i.size,i.bytes))=some (some (.string ⟨#[]⟩),1,16):=by kernel_rfl
def Txt (w:World) (B:Nat) (v:Value) (l:List ByteArray):Prop:=w.ownsRow B 9 1 v l.length (l.map Value.string)
theorem Txt.cell {w:World} {B g n cap:Nat} {l:List ByteArray} (h:Txt w B (.slice (some ⟨g,0,none⟩) n cap) l) {k:Nat} {x:ByteArray} (hk:l[k]? =some x):w.cell? ⟨g,k,none⟩=some (.string x):=by
 have :=World.ownsRow.cells h (g:=g) rfl k (.string x) (by simp [hk]);rw [Mem.add_lit] at this;exact this
theorem any (B g cap:Nat) (l:List ByteArray) (t:ByteArray) (w:World) (hl:l.length≤1000) (hB:B≤w.heap.size) (hown:Txt w B (.slice (some ⟨g,0,none⟩) l.length cap) l):
  Calls Tryz.prog 51 #[.slice (some ⟨g,0,none⟩) l.length cap, .string t] w fun e w'=>∃g' cap',e= .returned (.slice (some ⟨g',0,none⟩) (Pl.insN t l).length cap')∧Txt w' B (.slice (some ⟨g',0,none⟩) (Pl.insN t l).length cap') (Pl.insN t l)∧Below w.heap.size w w':=by
 obtain ⟨i0,hi,hz0,hz1,hz2⟩:=info_parts zq6;have HO:=hide hown;have HIN:=hide (Pl.ins_at t l)
 have hcap:l.length≤cap:=by
  rcases hown.2 with ⟨h,_⟩|⟨g',cap',cur,h,_,_,h2,_⟩
  ·cases h
  ·injection h with _ _ h3;omega
 clear hown;go_enter Tryz.func51,Tryz.ntmps51
 go_wp2
 go_loop [5] (fun i=>∃k:Nat,k≤l.length∧i= .int .i64 (k:Int)∧Hid (∀ (j:Nat) x,j<k→l[j]? =some x→Pl.zm4 x t=true)) (fun i=>l.length - (intOf i).toNat)
 case atStart=>exact ⟨0,Nat.zero_le _,rfl,fun j x h=>absurd h (by omega)⟩
 case round=>
  obtain ⟨k,hk,rfl,HK⟩:=hrel;have y3:(0:Int)≤(k:Int):=by omega
  by_cases hlt:k<l.length
  ·obtain ⟨x,hx⟩:∃x,l[k]? =some x:=⟨_,List.getElem?_eq_getElem hlt⟩;have c0:=(za HO).cell hx;have y1:(k:Int)<(l.length:Int):=by omega
   cases hle:Pl.zm4 x t
   ·have t1:Op.bytesLess x.toList t.toList=false:=hle;by_cases e:x=t
    ·have t2:(x.toList==t.toList)=true:=by rw [e];simp
     have EI:Hid (Pl.insN t l=l):=by
      show _=_;rw [za HIN k (za HK) (fun y hy=>by rw [hx] at hy;cases hy;exact hle) hk,if_pos (by rw [hx,e])]
     clear hle e hx HK HIN;go_wp2
     go_ret
     exact ⟨g,cap,by rw [za EI];rfl,by rw [za EI];exact za HO,Below.refl _ _⟩
    ·have t2:(x.toList==t.toList)=false:=zn4.tl_eq e
     have EI:Hid (Pl.insN t l=l.take k++[t]++l.drop k):=by
      show _=_;rw [za HIN k (za HK) (fun y hy=>by rw [hx] at hy;cases hy;exact hle) hk,if_neg (by rw [hx];intro h;cases h;exact e rfl)]
     have HL0:=hide (fun W' (b:Below w.heap.size w W')=>Mem.zd0 (za HO) b);have OA0:Hid (Txt (w.alloc (.cells #[] 9)) w.heap.size (.slice (some ⟨w.heap.size,0,none⟩) 0 0) []):=⟨rfl, .inr ⟨w.heap.size,0,#[],rfl,Nat.le_refl _,heap_alloc_new _ _,Nat.le_refl _,Nat.zero_le _,rfl,rfl⟩⟩;have BA0:=hide ((Below.refl w.heap.size w).alloc (Nat.le_refl _) (.cells #[] 9));have s1:(k:Int)≤(cap:Int):=by omega
     have s2:(k:Int)≤(l.length:Int):=by omega
     have hlk:(l.take k).length=k:=by rw [List.length_take];omega
     have HLK:=hide hlk
     have HTC:Hid (∀W' B',Txt W' B' (.slice (some ⟨g,0,none⟩) l.length cap) l→(∀j u,((l.take k).map Value.string)[j]? =some u→W'.cell? ((⟨g,0,none⟩:Addr).add j)=some u)∧(∀j u,((l.drop k).map Value.string)[j]? =some u→W'.cell? ((⟨g,k,none⟩:Addr).add j)=some u)):=fun W' B' h=>by
      refine ⟨fun j u hu=>?_,fun j u hu=>?_⟩
      ·rw [List.getElem?_map,List.getElem?_take] at hu
       split at hu
       ·cases hy:l[j]? with
        |none=>rw [hy] at hu;simp at hu
        |some y=>rw [hy] at hu;simp at hu;subst hu;rw [Mem.add_lit];exact h.cell hy
       ·simp at hu
      ·rw [List.getElem?_map,List.getElem?_drop] at hu;cases hy:l[k+j]? with
       |none=>rw [hy] at hu;simp at hu
       |some y=>rw [hy] at hu;simp at hu;subst hu;rw [Mem.zr2];exact h.cell hy
     have HO1:Hid (∀ (m:List ByteArray),∀u∈m.map Value.string,u.oneCell'=true):=fun m u hu=>by
      obtain ⟨y, -,rfl⟩:=List.mem_map.1 hu;rfl
     clear hlk hle e hx HK HIN;go_wp2_with (at_builtin;refine wpList_append_own _ rfl _ _ 33 rfl w.heap.size 9 i0 _ 1 16 Tryz.underlying33 hi hz0 hz1 hz2 rfl (by decide) _ _ _ rfl (za OA0) ⟨g,0,none⟩ k cap ((l.take k).map Value.string) rfl (by rw [List.length_map,za HLK];omega) (za HTC _ _ (za HL0 _ (za BA0))).1 (za HO1 _) (by simp;unfold maxLen;omega) (by simp;omega) (by simp) ?_)
     intro v1 wA ownA growA _
     have OA:Hid (Txt wA w.heap.size v1 (l.take k)):=by
      show World.ownsRow _ _ _ _ _ _ _;rw [za HLK]
      first |exact ownA|(simpa using ownA)
     have BA:=hide ((za BA0).grown growA (by simp) (fun q hq=>by cases hq;exact Nat.le_refl _));clear ownA growA OA0 BA0;obtain ⟨TK,hTK⟩:∃TK,l.take k=TK:=⟨_,rfl⟩;rw [hTK] at OA HLK;have HTK:=hide hTK;clear hTK;have hsA:=(za BA).size;go_wp2_with (at_builtin;refine wpList_append_own _ rfl _ _ 33 rfl w.heap.size 9 i0 _ 1 16 Tryz.underlying33 hi hz0 hz1 hz2 rfl (by decide) _ _ _ rfl (Mem.zd0 (za OA) (bE0)) ⟨wA.heap.size,0,none⟩ 1 1 [.string t] rfl rfl (Mem.ze6 _ _ _) (fun u hu=>by simp at hu;subst hu;rfl) (by rw [za HLK];unfold maxLen;omega) (by rw [za HLK];omega) (by simp;omega) ?_)
     intro v2 wB ownB growB _
     have OB:Hid (Txt wB w.heap.size v2 (TK++[t])):=by
      show World.ownsRow _ _ _ _ _ _ _;rw [List.map_append,List.length_append];exact ownB
     have BB:=hide (((za BA).alloc hsA (.cells #[.string t] 9)).grown growB (by simp;omega) (fun q hq=>(World.ownsRow.lt (za OA) q hq).1));clear ownB growB OA BA hsA;have hsB:=(za BB).size;have HLB:Hid ((TK++[t]).length=k+1):=by show _=_;rw [List.length_append,za HLK];rfl
     have HLD:Hid ((l.drop k).length=l.length - k):=List.length_drop;have HDL:=hide (za HTC wB _ (za HL0 _ (za BB))).2;have HON:=hide (za HO1 (l.drop k));go_wp2_with (at_builtin;refine wpList_append_own _ rfl _ _ 33 rfl w.heap.size 9 i0 _ 1 16 Tryz.underlying33 hi hz0 hz1 hz2 rfl (by decide) _ _ _ rfl (za OB) ⟨g,k,none⟩ (l.length - k) (cap - k) ((l.drop k).map Value.string) rfl (by rw [List.length_map,za HLD];omega) (za HDL) (za HON) (by rw [za HLB];unfold maxLen;omega) (by rw [za HLB];omega) hsB ?_)
     intro v3 wC ownC growC _
     have OC:Hid (Txt wC w.heap.size v3 (TK++[t]++l.drop k)):=by
      show World.ownsRow _ _ _ _ _ _ _;have e1:(TK++[t]++l.drop k).length=TK.length+1+(l.length - k):=by rw [List.length_append,List.length_append,za HLD];rfl
      have e2:(TK++[t]++l.drop k).map Value.string=TK.map Value.string++Value.string t::List.drop k (l.map Value.string):=by simp [List.map_drop]
      rw [e1,e2]
      first |exact ownC|(simpa using ownC)
     have BC:=hide ((za BB).grown growC hsB (fun q hq=>(World.ownsRow.lt (za OB) q hq).1));clear ownC growC OB BB HDL HON HLB HLD HTC HL0 HO1;rw [←za HTK,←za EI] at OC;have hpos:0<(Pl.insN t l).length:=by rw [za EI,List.length_append,List.length_append,List.length_singleton];omega
     obtain ⟨g',cap',rfl⟩:∃g' cap',v3= .slice (some ⟨g',0,none⟩) (Pl.insN t l).length cap':=by
      rcases (za OC).2 with ⟨_,h0⟩|⟨g',cap',cur,hv, -⟩
      ·omega
      ·exact ⟨g',cap',hv⟩
     go_wp2
     go_ret
     exact ⟨g',cap',rfl,Mem.zg (za OC) hB,za BC⟩
   ·have t1:Op.bytesLess x.toList t.toList=true:=hle
    have HK2:Hid (∀ (j:Nat) y,j<k+1→l[j]? =some y→Pl.zm4 y t=true):=fun j y hj hy=>by
     by_cases h:j<k
     ·exact za HK j y h hy
     ·obtain rfl:j=k:=by omega
      rw [hx] at hy;cases hy;exact hle
    clear hle hx HK HIN;go_wp2
    go_round
    case rel=>exact ⟨k+1,by omega,by go_num,HK2⟩
    case measure=>simp [intOf];omega
  ·have y1:¬ (k:Int)<(l.length:Int):=by omega
   have EI:Hid (Pl.insN t l=l.take k++[t]++l.drop k):=by
    show _=_;rw [za HIN k (za HK) (fun y hy=>by rw [List.getElem?_eq_none (by omega)] at hy;cases hy) hk,if_neg (by rw [List.getElem?_eq_none (by omega)];simp)]
   by_cases hkc:k<cap
   ·have HL0:=hide (fun W' (b:Below w.heap.size w W')=>Mem.zd0 (za HO) b);have OA0:Hid (Txt (w.alloc (.cells #[] 9)) w.heap.size (.slice (some ⟨w.heap.size,0,none⟩) 0 0) []):=⟨rfl, .inr ⟨w.heap.size,0,#[],rfl,Nat.le_refl _,heap_alloc_new _ _,Nat.le_refl _,Nat.zero_le _,rfl,rfl⟩⟩;have BA0:=hide ((Below.refl w.heap.size w).alloc (Nat.le_refl _) (.cells #[] 9));have s1:(k:Int)≤(cap:Int):=by omega
    have s2:(k:Int)≤(l.length:Int):=by omega
    have hlk:(l.take k).length=k:=by rw [List.length_take];omega
    have HLK:=hide hlk
    have HTC:Hid (∀W' B',Txt W' B' (.slice (some ⟨g,0,none⟩) l.length cap) l→(∀j u,((l.take k).map Value.string)[j]? =some u→W'.cell? ((⟨g,0,none⟩:Addr).add j)=some u)∧(∀j u,((l.drop k).map Value.string)[j]? =some u→W'.cell? ((⟨g,k,none⟩:Addr).add j)=some u)):=fun W' B' h=>by
     refine ⟨fun j u hu=>?_,fun j u hu=>?_⟩
     ·rw [List.getElem?_map,List.getElem?_take] at hu
      split at hu
      ·cases hy:l[j]? with
       |none=>rw [hy] at hu;simp at hu
       |some y=>rw [hy] at hu;simp at hu;subst hu;rw [Mem.add_lit];exact h.cell hy
      ·simp at hu
     ·rw [List.getElem?_map,List.getElem?_drop] at hu;cases hy:l[k+j]? with
      |none=>rw [hy] at hu;simp at hu
      |some y=>rw [hy] at hu;simp at hu;subst hu;rw [Mem.zr2];exact h.cell hy
    have HO1:Hid (∀ (m:List ByteArray),∀u∈m.map Value.string,u.oneCell'=true):=fun m u hu=>by
     obtain ⟨y, -,rfl⟩:=List.mem_map.1 hu;rfl
    clear hlk HK HIN;go_wp2_with (at_builtin;refine wpList_append_own _ rfl _ _ 33 rfl w.heap.size 9 i0 _ 1 16 Tryz.underlying33 hi hz0 hz1 hz2 rfl (by decide) _ _ _ rfl (za OA0) ⟨g,0,none⟩ k cap ((l.take k).map Value.string) rfl (by rw [List.length_map,za HLK];omega) (za HTC _ _ (za HL0 _ (za BA0))).1 (za HO1 _) (by simp;unfold maxLen;omega) (by simp;omega) (by simp) ?_)
    intro v1 wA ownA growA _
    have OA:Hid (Txt wA w.heap.size v1 (l.take k)):=by
     show World.ownsRow _ _ _ _ _ _ _;rw [za HLK]
     first |exact ownA|(simpa using ownA)
    have BA:=hide ((za BA0).grown growA (by simp) (fun q hq=>by cases hq;exact Nat.le_refl _));clear ownA growA OA0 BA0;obtain ⟨TK,hTK⟩:∃TK,l.take k=TK:=⟨_,rfl⟩;rw [hTK] at OA HLK;have HTK:=hide hTK;clear hTK;have hsA:=(za BA).size;go_wp2_with (at_builtin;refine wpList_append_own _ rfl _ _ 33 rfl w.heap.size 9 i0 _ 1 16 Tryz.underlying33 hi hz0 hz1 hz2 rfl (by decide) _ _ _ rfl (Mem.zd0 (za OA) (bE0)) ⟨wA.heap.size,0,none⟩ 1 1 [.string t] rfl rfl (Mem.ze6 _ _ _) (fun u hu=>by simp at hu;subst hu;rfl) (by rw [za HLK];unfold maxLen;omega) (by rw [za HLK];omega) (by simp;omega) ?_)
    intro v2 wB ownB growB _
    have OB:Hid (Txt wB w.heap.size v2 (TK++[t])):=by
     show World.ownsRow _ _ _ _ _ _ _;rw [List.map_append,List.length_append];exact ownB
    have BB:=hide (((za BA).alloc hsA (.cells #[.string t] 9)).grown growB (by simp;omega) (fun q hq=>(World.ownsRow.lt (za OA) q hq).1));clear ownB growB OA BA hsA;have hsB:=(za BB).size;have HLB:Hid ((TK++[t]).length=k+1):=by show _=_;rw [List.length_append,za HLK];rfl
    have HLD:Hid ((l.drop k).length=l.length - k):=List.length_drop;have HDL:=hide (za HTC wB _ (za HL0 _ (za BB))).2;have HON:=hide (za HO1 (l.drop k));go_wp2_with (at_builtin;refine wpList_append_own _ rfl _ _ 33 rfl w.heap.size 9 i0 _ 1 16 Tryz.underlying33 hi hz0 hz1 hz2 rfl (by decide) _ _ _ rfl (za OB) ⟨g,k,none⟩ (l.length - k) (cap - k) ((l.drop k).map Value.string) rfl (by rw [List.length_map,za HLD];omega) (za HDL) (za HON) (by rw [za HLB];unfold maxLen;omega) (by rw [za HLB];omega) hsB ?_)
    intro v3 wC ownC growC _
    have OC:Hid (Txt wC w.heap.size v3 (TK++[t]++l.drop k)):=by
     show World.ownsRow _ _ _ _ _ _ _;have e1:(TK++[t]++l.drop k).length=TK.length+1+(l.length - k):=by rw [List.length_append,List.length_append,za HLD];rfl
     have e2:(TK++[t]++l.drop k).map Value.string=TK.map Value.string++Value.string t::List.drop k (l.map Value.string):=by simp [List.map_drop]
     rw [e1,e2]
     first |exact ownC|(simpa using ownC)
    have BC:=hide ((za BB).grown growC hsB (fun q hq=>(World.ownsRow.lt (za OB) q hq).1));clear ownC growC OB BB HDL HON HLB HLD HTC HL0 HO1;rw [←za HTK,←za EI] at OC;have hpos:0<(Pl.insN t l).length:=by rw [za EI,List.length_append,List.length_append,List.length_singleton];omega
    obtain ⟨g',cap',rfl⟩:∃g' cap',v3= .slice (some ⟨g',0,none⟩) (Pl.insN t l).length cap':=by
     rcases (za OC).2 with ⟨_,h0⟩|⟨g',cap',cur,hv, -⟩
     ·omega
     ·exact ⟨g',cap',hv⟩
    go_wp2
    go_ret
    exact ⟨g',cap',rfl,Mem.zg (za OC) hB,za BC⟩
   ·obtain rfl:k=cap:=by omega
    have HL0:=hide (fun W' (b:Below w.heap.size w W')=>Mem.zd0 (za HO) b);have OA0:Hid (Txt (w.alloc (.cells #[] 9)) w.heap.size (.slice (some ⟨w.heap.size,0,none⟩) 0 0) []):=⟨rfl, .inr ⟨w.heap.size,0,#[],rfl,Nat.le_refl _,heap_alloc_new _ _,Nat.le_refl _,Nat.zero_le _,rfl,rfl⟩⟩;have BA0:=hide ((Below.refl w.heap.size w).alloc (Nat.le_refl _) (.cells #[] 9));have s1:(k:Int)≤(k:Int):=by omega
    have s2:(k:Int)≤(l.length:Int):=by omega
    have hlk:(l.take k).length=k:=by rw [List.length_take];omega
    have HLK:=hide hlk
    have HTC:Hid (∀W' B',Txt W' B' (.slice (some ⟨g,0,none⟩) l.length k) l→(∀j u,((l.take k).map Value.string)[j]? =some u→W'.cell? ((⟨g,0,none⟩:Addr).add j)=some u)∧(∀j u,((l.drop k).map Value.string)[j]? =some u→W'.cell? ((⟨g,k,none⟩:Addr).add j)=some u)):=fun W' B' h=>by
     refine ⟨fun j u hu=>?_,fun j u hu=>?_⟩
     ·rw [List.getElem?_map,List.getElem?_take] at hu
      split at hu
      ·cases hy:l[j]? with
       |none=>rw [hy] at hu;simp at hu
       |some y=>rw [hy] at hu;simp at hu;subst hu;rw [Mem.add_lit];exact h.cell hy
      ·simp at hu
     ·rw [List.getElem?_map,List.getElem?_drop] at hu;cases hy:l[k+j]? with
      |none=>rw [hy] at hu;simp at hu
      |some y=>rw [hy] at hu;simp at hu;subst hu;rw [Mem.zr2];exact h.cell hy
    have HO1:Hid (∀ (m:List ByteArray),∀u∈m.map Value.string,u.oneCell'=true):=fun m u hu=>by
     obtain ⟨y, -,rfl⟩:=List.mem_map.1 hu;rfl
    clear hlk HK HIN;go_wp2_with (at_builtin;refine wpList_append_own _ rfl _ _ 33 rfl w.heap.size 9 i0 _ 1 16 Tryz.underlying33 hi hz0 hz1 hz2 rfl (by decide) _ _ _ rfl (za OA0) ⟨g,0,none⟩ k k ((l.take k).map Value.string) rfl (by rw [List.length_map,za HLK];omega) (za HTC _ _ (za HL0 _ (za BA0))).1 (za HO1 _) (by simp;unfold maxLen;omega) (by simp;omega) (by simp) ?_)
    intro v1 wA ownA growA _
    have OA:Hid (Txt wA w.heap.size v1 (l.take k)):=by
     show World.ownsRow _ _ _ _ _ _ _;rw [za HLK]
     first |exact ownA|(simpa using ownA)
    have BA:=hide ((za BA0).grown growA (by simp) (fun q hq=>by cases hq;exact Nat.le_refl _));clear ownA growA OA0 BA0;obtain ⟨TK,hTK⟩:∃TK,l.take k=TK:=⟨_,rfl⟩;rw [hTK] at OA HLK;have HTK:=hide hTK;clear hTK;have hsA:=(za BA).size;go_wp2_with (at_builtin;refine wpList_append_own _ rfl _ _ 33 rfl w.heap.size 9 i0 _ 1 16 Tryz.underlying33 hi hz0 hz1 hz2 rfl (by decide) _ _ _ rfl (Mem.zd0 (za OA) (bE0)) ⟨wA.heap.size,0,none⟩ 1 1 [.string t] rfl rfl (Mem.ze6 _ _ _) (fun u hu=>by simp at hu;subst hu;rfl) (by rw [za HLK];unfold maxLen;omega) (by rw [za HLK];omega) (by simp;omega) ?_)
    intro v2 wB ownB growB _
    have OB:Hid (Txt wB w.heap.size v2 (TK++[t])):=by
     show World.ownsRow _ _ _ _ _ _ _;rw [List.map_append,List.length_append];exact ownB
    have BB:=hide (((za BA).alloc hsA (.cells #[.string t] 9)).grown growB (by simp;omega) (fun q hq=>(World.ownsRow.lt (za OA) q hq).1));clear ownB growB OA BA hsA;have hsB:=(za BB).size;have HLB:Hid ((TK++[t]).length=k+1):=by show _=_;rw [List.length_append,za HLK];rfl
    have HLD:Hid ((l.drop k).length=l.length - k):=List.length_drop;have HDL:=hide (za HTC wB _ (za HL0 _ (za BB))).2;have HON:=hide (za HO1 (l.drop k));go_wp2_with (at_builtin;refine wpList_append_own _ rfl _ _ 33 rfl w.heap.size 9 i0 _ 1 16 Tryz.underlying33 hi hz0 hz1 hz2 rfl (by decide) _ _ _ rfl (za OB) ⟨g,0,none⟩ 0 0 ([]:List Value) rfl rfl (by intro j u hu;simp at hu) (by simp) (by rw [za HLB];unfold maxLen;omega) (by rw [za HLB];omega) hsB ?_)
    intro v3 wC ownC growC _
    have OC:Hid (Txt wC w.heap.size v3 (TK++[t]++l.drop k)):=by
     show World.ownsRow _ _ _ _ _ _ _;have hdk:l.drop k=[]:=List.drop_eq_nil_of_le (by omega);rw [hdk,List.append_nil,List.map_append,List.length_append]
     first |exact ownC|(simpa using ownC)
    have BC:=hide ((za BB).grown growC hsB (fun q hq=>(World.ownsRow.lt (za OB) q hq).1));clear ownC growC OB BB HDL HON HLB HLD HTC HL0 HO1;rw [←za HTK,←za EI] at OC;have hpos:0<(Pl.insN t l).length:=by rw [za EI,List.length_append,List.length_append,List.length_singleton];omega
    obtain ⟨g',cap',rfl⟩:∃g' cap',v3= .slice (some ⟨g',0,none⟩) (Pl.insN t l).length cap':=by
     rcases (za OC).2 with ⟨_,h0⟩|⟨g',cap',cur,hv, -⟩
     ·omega
     ·exact ⟨g',cap',hv⟩
    go_wp2
    go_ret
    exact ⟨g',cap',rfl,Mem.zg (za OC) hB,za BC⟩
end zh3
end
section
open Go.RowKit
namespace WWn
def outK (o:Option Pl.Nd):Pl.Nd × Int:=match o with
 |none=>(Pl.za3,6)
 |some n=>(n,0)
theorem walk_see (a:Option Addr) (cap:Nat) (Is:List Pl.It) (p:ByteArray) (w:World) (hv:Mem.zb4 w a Is) (hok:∀x∈Is,x.t.L.length≤1048576∧∀n∈x.t.L,n.path.size≤1048576∧n.data.size≤1048576) (hnr:(Pl.nest (Pl.rowO (Is.map Pl.It.r))).isSome=true) (hp:Pl.za0 p=true) (hz:¬p.size=0):
  Calls Tryz.prog 20 #[.slice a Is.length cap, .string p] w fun e w'=>e= .returned (.agg #[.string (outK (Pl.seeK (Is.map Pl.It.r) p)).1.path, .int .i64 (outK (Pl.seeK (Is.map Pl.It.r) p)).1.kind, .string (outK (Pl.seeK (Is.map Pl.It.r) p)).1.data, .int .i64 (outK (Pl.seeK (Is.map Pl.It.r) p)).1.time, .int .i64 (outK (Pl.seeK (Is.map Pl.It.r) p)).1.mark, .int .i64 (outK (Pl.seeK (Is.map Pl.It.r) p)).2])∧Below w.heap.size w w':=by
 obtain ⟨F,hF⟩:=Option.isSome_iff_exists.1 hnr;obtain ⟨L,K,hks,hfl,hko,hnx⟩:=Pl.zr5 hF;have hy:=Pl.zt hF;have h12:Is.length≤12:=by have h:=hy.1;rw [Pl.zm9,List.length_map] at h;exact h
 have hs:Pl.seeK (Is.map Pl.It.r) p=Pl.zc9 L K p:=by unfold Pl.seeK;rw [hnx]
 rw [hs];exact zh8.walk6_any a cap Is h12 hok L K p w (by rw [hks];exact hy.2.2) hko hfl hp hz hv _ (by cases Pl.zc9 L K p <;> rfl)
theorem zt1 (a:Option Addr) (cap:Nat) (Is:List Pl.It) (q:ByteArray) (w:World) (hl:Is.length≤1048576) (hv:Mem.zb4 w a Is) (hok:∀x∈Is,x.t.L.length≤1048576∧∀n∈x.t.L,n.path.size≤1048576∧n.data.size≤1048576) (hq:q.size≤1048576) (WO:List ByteArray) (hWO:Pl.wnO (Is.map Pl.It.r) q=WO):
  Calls Tryz.prog 21 #[.slice a Is.length cap, .string q] w fun e w'=>∃g cp,e= .returned (.slice (some ⟨g,0,none⟩) WO.length cp)∧zh3.Txt w' w.heap.size (.slice (some ⟨g,0,none⟩) WO.length cp) WO∧WO.length≤480∧Below w.heap.size w w':=by
 have hml:(Is.map Pl.It.r).length=Is.length:=List.length_map ..
 have A0:Hid (Below w.heap.size w (w.alloc (.cells #[] 9))∧zh3.Txt (w.alloc (.cells #[] 9)) w.heap.size (.slice (some ⟨w.heap.size,0,none⟩) 0 0) []):=
  hide ⟨(Below.refl _ _).alloc (Nat.le_refl _) _,⟨rfl, .inr ⟨w.heap.size,0,#[],rfl,Nat.le_refl _,heap_alloc_new _ _,Nat.le_refl _,Nat.zero_le _,rfl,rfl⟩⟩⟩
 have HNR:=hide (fun W (b:Below w.heap.size w W)=>WNestS.zh7 a cap Is W hl (Mem.zc0 hv b) hok);have HPR:=hide (fun W=>zd1.zv8 q W hq);have HNM:=hide (fun W=>zd1.zu8 q W hq);have HSE:=hide (fun p W (b:Below w.heap.size w W) h1 h2 h3=>walk_see a cap Is p W (Mem.zc0 hv b) hok h1 h2 h3);have HV:=hide hv;have HOK:=hide hok;have NO:Hid (Pl.wnB (Is.map Pl.It.r) q=false→WO=[]):=hide (fun h=>by rw [←hWO];exact if_neg (by rw [h];decide));have E1:Hid (400<Is.length→WO=[]):=hide (fun h=>za NO (by unfold Pl.wnB;rw [hml,decide_eq_false (by omega)];rfl));have E2:Hid (8000<q.size→WO=[]):=hide (fun h=>za NO (by unfold Pl.wnB;rw [decide_eq_false (show ¬q.size≤8000 by omega)];simp));have E3:Hid ((Pl.nest (Pl.rowO (Is.map Pl.It.r))).isSome=false→WO=[]):=hide (fun h=>za NO (by unfold Pl.wnB;rw [h];simp));have E4:Hid (Pl.za0 q=false→WO=[]):=hide (fun h=>za NO (by unfold Pl.wnB;rw [h];simp))
 have E5:Hid (¬q.size=0→¬ (outK (Pl.seeK (Is.map Pl.It.r) q)).1.kind=1→WO=[]):=hide (fun h h2=>za NO (by
  unfold Pl.wnB
  have h3:Pl.dirK (Pl.seeK (Is.map Pl.It.r) q)=false:=by
   cases e:Pl.seeK (Is.map Pl.It.r) q with
   |none=>rfl
   |some n=>rw [e] at h2;exact decide_eq_false h2
  rw [h3,decide_eq_false h]
  simp))
 have E6:Hid (6≤(Pl.names q).length→WO=[]):=hide (fun h=>za NO (by unfold Pl.wnB;rw [decide_eq_false (show ¬ (Pl.names q).length<6 by omega)];simp))
 have E7:Hid (Is.length≤400→q.size≤8000→(Pl.nest (Pl.rowO (Is.map Pl.It.r))).isSome=true→Pl.za0 q=true→(q.size=0∨(outK (Pl.seeK (Is.map Pl.It.r) q)).1.kind=1)→(Pl.names q).length<6→WO=Pl.wnC (Is.map Pl.It.r) q (Is.map Pl.It.r)):=hide (fun h1 h2 h3 h4 h5 h6=>by
  rw [←hWO];refine if_pos ?_;unfold Pl.wnB
  have h7:(decide (q.size=0)||Pl.dirK (Pl.seeK (Is.map Pl.It.r) q))=true:=by
   rcases h5 with h5|h5
   ·simp [h5]
   ·cases e:Pl.seeK (Is.map Pl.It.r) q with
    |none=>rw [e] at h5;cases h5
    |some n=>rw [e] at h5;simp [Pl.dirK];exact .inr h5
  rw [hml,h7,h4,h3];simp
  omega)
 have HKD:Hid ((Pl.nest (Pl.rowO (Is.map Pl.It.r))).isSome=true→∀ (x:Pl.It) (t:ByteArray),x∈Is→t∈Pl.zb2 q x.t.L→Pl.za0 (Pl.zh5 q t)=true∧¬ (Pl.zh5 q t).size=0∧t.size≤1048576):=hide (fun hn x t hx ht=>by
  obtain ⟨F,hF⟩:=Option.isSome_iff_exists.1 hn;obtain ⟨L,K,hks,hfl,hko,hnx⟩:=Pl.zr5 hF;have htr:=(Pl.Fx.ok_mem hko x.r (by rw [hfl];exact List.mem_map.2 ⟨x,hx,rfl⟩)).1;obtain ⟨n,hn1,h1,h2⟩:=Pl.kid_in htr ht;have e:=Pl.yf0 h2 h1;rw [e];have h3:=(Pl.zw5 h2).1 t (by rw [h1];simp);have h5:t.size≤20:=by unfold Pl.zb8 at h3;exact (of_decide_eq_true h3).2.1
  exact ⟨h2,(Pl.yd2 htr n hn1).2,by omega⟩)
 have HLN:Hid ((Pl.nest (Pl.rowO (Is.map Pl.It.r))).isSome=true→Is.length≤12∧∀x∈Is,x.t.L.length≤40):=hide (fun hn=>by
  obtain ⟨F,hF⟩:=Option.isSome_iff_exists.1 hn;obtain ⟨L,K,hks,hfl,hko,hnx⟩:=Pl.zr5 hF;refine ⟨by have :=Pl.yb7 hF;rw [List.length_map] at this;exact this,fun x hx=>?_⟩
  exact ((Pl.zr1 _).1 (Pl.Fx.ok_mem hko x.r (by rw [hfl];exact List.mem_map.2 ⟨x,hx,rfl⟩)).1).1)
 have HST:Hid (∀ (j:Nat) (x:Pl.It),Is[j]? =some x→Pl.wnC (Is.map Pl.It.r) q ((Is.map Pl.It.r).take (j+1))=Pl.insF (Pl.zj5 (Is.map Pl.It.r) q) (Pl.wnC (Is.map Pl.It.r) q ((Is.map Pl.It.r).take j)) (Pl.zb2 q x.t.L)):=hide (fun j x h=>by
  have :=Pl.wnC_step (XS:=Is.map Pl.It.r) (Ys:=Is.map Pl.It.r) (q:=q) (j:=j) (x:=x.r) (by rw [List.getElem?_map,h];rfl)
  exact this)
 have HKS:Hid (∀t,Pl.zj5 (Is.map Pl.It.r) q t=decide ((outK (Pl.seeK (Is.map Pl.It.r) (Pl.zh5 q t))).2=0)):=hide (fun t=>by
  unfold Pl.zj5
  cases Pl.seeK (Is.map Pl.It.r) (Pl.zh5 q t) <;> simp [outK])
 have HFI:Hid (Pl.wnC (Is.map Pl.It.r) q (Is.map Pl.It.r)=Pl.wnC (Is.map Pl.It.r) q ((Is.map Pl.It.r).take Is.length)):=hide (by rw [←hml,List.take_length]);obtain ⟨NK,hNK⟩:∃NK:Nat→List ByteArray,NK=fun j=>Pl.wnC (Is.map Pl.It.r) q ((Is.map Pl.It.r).take j):=⟨_,rfl⟩;have e0:∀j,Pl.wnC (Is.map Pl.It.r) q ((Is.map Pl.It.r).take j)=NK j:=fun j=>by rw [hNK]
 have N0:Hid (NK 0=[]):=hide (by rw [hNK];rfl);simp only [e0] at HST HFI;generalize Pl.wnC (Is.map Pl.It.r) q (Is.map Pl.It.r)=RR at HFI E7;generalize Pl.zj5 (Is.map Pl.It.r) q=FF at HST HKS;obtain ⟨SE,hSE⟩:∃SE:ByteArray→Pl.Nd × Int,SE=fun p=>outK (Pl.seeK (Is.map Pl.It.r) p):=⟨_,rfl⟩;have e1:∀p,outK (Pl.seeK (Is.map Pl.It.r) p)=SE p:=fun p=>by rw [hSE]
 simp only [e1] at HSE E5 E7 HKS;generalize (Pl.nest (Pl.rowO (Is.map Pl.It.r))).isSome=NB at HNR E3 E7 HKD HLN HSE;clear hv hok hNK e0 e1 hSE hWO NO hml;have hb0:=hide (za A0).1;have hx0:=hide (za A0).2;clear A0;have hf0:∀ (a:ByteArray) (k:Int) (d:ByteArray) (t m c:Int) (W:World),(Instr.field 57 (.agg #[.string a, .int .i64 k, .string d, .int .i64 t, .int .i64 m, .int .i64 c]) 0).run Tryz.prog W= .ok (.agg #[.string a, .int .i64 k, .string d, .int .i64 t, .int .i64 m]) W:=fun _ _ _ _ _ _ _=>by kernel_rfl
 have hf1:∀ (a:ByteArray) (k:Int) (d:ByteArray) (t m c:Int) (W:World),(Instr.field 57 (.agg #[.string a, .int .i64 k, .string d, .int .i64 t, .int .i64 m, .int .i64 c]) 1).run Tryz.prog W= .ok (.int .i64 c) W:=fun _ _ _ _ _ _ _=>by kernel_rfl
 have hf2:∀ (a:ByteArray) (k:Int) (d:ByteArray) (t m:Int) (W:World),(Instr.field 55 (.agg #[.string a, .int .i64 k, .string d, .int .i64 t, .int .i64 m]) 1).run Tryz.prog W= .ok (.int .i64 k) W:=fun _ _ _ _ _ _=>by kernel_rfl
 go_enter Tryz.func21,Tryz.ntmps21
 by_cases h1:400<Is.length
 ·obtain rfl:=za E1 h1;have t1:(400:Int)<(Is.length:Int):=by omega
  clear HNR HPR HNM HSE HV HOK E1 E2 E3 E4 E5 E6 E7 HKD HLN HST HKS HFI N0;go_wp2
  go_ret
  first |exact ⟨_,0,rfl,za hx0,by simp,za hb0⟩|exact ⟨_,0,rfl,za hx0,za hb0⟩
 have t1:¬ (400:Int)<(Is.length:Int):=by omega
 by_cases h2:8000<q.size
 ·obtain rfl:=za E2 h2;have t2:(8000:Int)<(q.size:Int):=by omega
  clear HNR HPR HNM HSE HV HOK E1 E2 E3 E4 E5 E6 E7 HKD HLN HST HKS HFI N0;go_wp2
  go_ret
  first |exact ⟨_,0,rfl,za hx0,by simp,za hb0⟩|exact ⟨_,0,rfl,za hx0,za hb0⟩
 have t2:¬ (8000:Int)<(q.size:Int):=by omega
 go_wp2_with fail
 generalize w.alloc (.cells #[] 9)=w0 at hb0 hx0 ⊢;refine (za HNR _ (za hb0)).mono ?_;rintro e w1 ⟨rfl,b1⟩;have hb1:=hide ((za hb0).trans (b1.mono (za hb0).size));have hx1:Hid (zh3.Txt w1 w.heap.size (.slice (some ⟨w.heap.size,0,none⟩) 0 0) []):=hide (Mem.zd0 (za hx0) b1);clear HNR b1 hb0 hx0 E1 E2;cases hNB:NB with
 |false=>
  obtain rfl:=za E3 hNB;clear HPR HNM HSE HV HOK E3 E4 E5 E6 E7 HKD HLN HST HKS HFI N0;go_wp2
  go_ret
  first |exact ⟨_,0,rfl,za hx1,by simp,za hb1⟩|exact ⟨_,0,rfl,za hx1,za hb1⟩
 |true=>
 subst hNB;go_wp2_with fail
 refine (za HPR _).mono ?_;rintro e w2 ⟨rfl,b2⟩;have hb2:=hide ((za hb1).trans (b2.mono (za hb1).size));have hx2:Hid (zh3.Txt w2 w.heap.size (.slice (some ⟨w.heap.size,0,none⟩) 0 0) []):=hide (Mem.zd0 (za hx1) b2);clear HPR b2 hb1 hx1 E3;cases hpb:Pl.za0 q with
 |false=>
  obtain rfl:=za E4 hpb;clear HNM HSE HV HOK E4 E5 E6 E7 HKD HLN HST HKS HFI N0;go_wp2
  go_ret
  first |exact ⟨_,0,rfl,za hx2,by simp,za hb2⟩|exact ⟨_,0,rfl,za hx2,za hb2⟩
 |true=>
 by_cases hz:q.size=0
 case' pos=>
  have hdir:=hide (.inl hz:q.size=0∨(SE q).1.kind=1);have t3:q.toList.isEmpty=true:=by rw [Pl.zb7];simpa [Pl.zf5] using hz
  have hb3:=hb2;have hx3:=hx2;clear hb2 hx2 hz E4 E5;go_wp2_with fail
 case' neg=>
  have t3:q.toList.isEmpty=false:=by rw [Pl.zb7];simpa [Pl.zf5] using hz
  go_wp2_with fail
  refine (za HSE q _ (za hb2) (by simp) hpb hz).mono ?_;rintro e w3 ⟨rfl,b3⟩;have hb3:=hide ((za hb2).trans (b3.mono (za hb2).size));have hx3:Hid (zh3.Txt w3 w.heap.size (.slice (some ⟨w.heap.size,0,none⟩) 0 0) []):=hide (Mem.zd0 (za hx2) b3);clear hb2 hx2 b3 E4;by_cases hk:(SE q).1.kind=1
  case neg=>
   obtain rfl:=za E5 hz hk;have t4:((SE q).1.kind !=1)=true:=by simpa using hk
   have t5:decide ((SE q).1.kind=1)=false:=by simpa using hk
   clear HNM HSE HV HOK E5 E6 E7 HKD HLN HST HKS HFI N0;go_wp2
   go_ret
   first |exact ⟨_,0,rfl,za hx3,by simp,za hb3⟩|exact ⟨_,0,rfl,za hx3,za hb3⟩
  case' pos=>
   have hdir:=hide (.inr hk:q.size=0∨(SE q).1.kind=1);have t4:((SE q).1.kind !=1)=false:=by simpa using hk
   have t5:decide ((SE q).1.kind=1)=true:=by simpa using hk
   clear hz E5;go_wp2_with fail
   clear hk t4 t5
 all_goals
  refine (za HNM _).mono ?_;rintro e w4 ⟨vq,rfl,ownq,b4⟩;obtain ⟨qa,qc,rfl⟩:=Mem.zf1 ownq;have hb4:=hide ((za hb3).trans (b4.mono (za hb3).size));have hx4:Hid (zh3.Txt w4 w.heap.size (.slice (some ⟨w.heap.size,0,none⟩) 0 0) []):=hide (Mem.zd0 (za hx3) b4);clear HNM hb3 hx3 b4 ownq t3;by_cases h6:6≤(Pl.names q).length
  case pos=>
   obtain rfl:=za E6 h6;have t4:(6:Int)≤((Pl.names q).length:Int):=by omega
   clear HSE HV HOK E6 E7 HKD HLN HST HKS HFI N0 hdir;go_wp2
   go_ret
   first |exact ⟨_,0,rfl,za hx4,by simp,za hb4⟩|exact ⟨_,0,rfl,za hx4,za hb4⟩
  case neg=>
  have t4:¬ (6:Int)≤((Pl.names q).length:Int):=by omega
  obtain rfl:=za E7 (by omega) (by omega) (by simp) hpb (za hdir) (by omega);obtain ⟨hl12,hl40⟩:=za HLN (by simp);have HL:=hide hl40
  have H0:Hid (Below w.heap.size w w4∧∃g cap,(Value.slice (some ⟨w.heap.size,0,none⟩) 0 0)= .slice (some ⟨g,0,none⟩) (NK 0).length cap∧zh3.Txt w4 w.heap.size (.slice (some ⟨g,0,none⟩) (NK 0).length cap) (NK 0)∧(NK 0).length≤40*0):=by
   rw [za N0];exact hide ⟨za hb4,_,_,rfl,za hx4,by simp⟩
  clear E6 E7 HLN hdir hl40 N0 hb4 hx4;go_wp2
  go_loopw [5,6] (fun v i wr=>∃j:Nat,j≤Is.length∧i= .int .i64 (j:Int)∧Hid (Below w.heap.size w wr∧∃g cap,v= .slice (some ⟨g,0,none⟩) (NK j).length cap∧zh3.Txt wr w.heap.size (.slice (some ⟨g,0,none⟩) (NK j).length cap) (NK j)∧(NK j).length≤40*j)) (fun _ i _=>Is.length - (intOf i).toNat)
  case atStart=>exact ⟨0,Nat.zero_le _,rfl,H0⟩
  case round=>
   obtain ⟨j,hj,rfl,HA⟩:=hrel;clear H0;obtain ⟨hb,g,cp,hv7,htx,hln⟩:=za HA;subst hv7;have HB:=hide hb;have HX:=hide htx;clear HA htx;by_cases hlt:j<Is.length
   ·obtain ⟨x,hx⟩:∃x,Is[j]? =some x:=⟨_,List.getElem?_eq_getElem hlt⟩;have hmem:=List.mem_of_getElem? hx;have HSS:=hide (za HST j x hx);have hx40:=za HL x hmem;have hxo:=za HOK x hmem;have HKX:=hide (fun t ht=>za HKD (by simp) x t hmem ht);obtain ⟨⟨bt,ot,hae,hbt,c0,c1⟩,hnd⟩:=Mem.zc0 (za HV) hb j x hx;subst hae;obtain ⟨xm,ta,tc,tL⟩:=x;simp only [Pl.Tr.val] at c1;simp only at hx40 hxo hnd HSS HKX;have y1:(j:Int)<(Is.length:Int):=by omega
    have y2:(0:Int)≤(j:Int):=by omega
    have hl3:=hide (zn4.l03_any ta tc tL q wr (by omega) hnd hxo.2)
    have hkn:(Pl.zb2 q tL).length≤40:=by
     have :=Pl.kids_len q tL tL.length;rw [List.take_length] at this;omega
    clear hnd hxo hx40 hx hmem hb;generalize Pl.zb2 q tL=K at hl3 hkn HSS HKX;go_wp2_with fail
    refine (za hl3).mono ?_;rintro e w5 ⟨vl,rfl,hownL,b5⟩;have HB1:=hide ((za HB).trans (b5.mono (za HB).size));have HX1:Hid (zh3.Txt w5 w.heap.size (.slice (some ⟨g,0,none⟩) (NK j).length cp) (NK j)):=hide (Mem.zd0 (za HX) b5);have HLR:=hide (Mem.zg hownL (Nat.zero_le _));clear HB HX hownL b5 c0 c1 hl3;generalize hNj:NK j=out0 at HX1 hln HSS ⊢;obtain ⟨vla,vlc,rfl⟩:=Mem.zf1 (za HLR);go_wp2
    go_loopw [5,8] (fun v i wr=>∃m:Nat,m≤K.length∧i= .int .i64 (m:Int)∧Hid (Below w.heap.size w wr∧Below w5.heap.size w5 wr∧∃g cap,v= .slice (some ⟨g,0,none⟩) (Pl.insF FF out0 (K.take m)).length cap∧zh3.Txt wr w.heap.size (.slice (some ⟨g,0,none⟩) (Pl.insF FF out0 (K.take m)).length cap) (Pl.insF FF out0 (K.take m))∧(Pl.insF FF out0 (K.take m)).length≤40*j+m)) (fun _ i _=>K.length - (intOf i).toNat)
    case atStart=>exact ⟨0,Nat.zero_le _,rfl,hide ⟨za HB1,Below.refl _ _,g,cp,rfl,za HX1,hln⟩⟩
    case round=>
     obtain ⟨m,hm,rfl,HA⟩:=hrel;obtain ⟨hb,hb5,g2,cap2,hv7,htx,hln2⟩:=za HA;subst hv7;have HB2:=hide hb;have HB3:=hide hb5;have HX2:=hide htx;clear HA htx HB1 HX1 hln hb hb5;by_cases hlt2:m<K.length
     ·obtain ⟨t,ht⟩:∃t,K[m]? =some t:=⟨_,List.getElem?_eq_getElem hlt2⟩;obtain ⟨k1,k2,k3⟩:=za HKX t (List.mem_of_getElem? ht);have HIS:=hide (Pl.insF_step (f:=FF) (out:=out0) ht);have hft:=za HKS t;have HIL:=hide (Pl.ins_len t (Pl.insF FF out0 (K.take m)));have hlr:=Mem.zd0 (za HLR) (za HB3)
      obtain ⟨gl,hgl⟩:∃gl,vla=some ⟨gl,0,none⟩:=by
       rcases hlr.2 with ⟨_,h0⟩|⟨gl,c',cur,h,_⟩
       ·omega
       ·injection h with h1;exact ⟨gl,h1⟩
      subst hgl;have cL:=zh3.Txt.cell (B:=0) (l:=K) hlr ht;have y5:(m:Int)<(K.length:Int):=by omega
      have y6:(0:Int)≤(m:Int):=by omega
      have hsw:=(za HB2).size;have HJ:=hide (zd1.join1_any q t wr hq k3);have HS2:=hide (za HSE (Pl.zh5 q t) wr (za HB2) (by simp) k1 k2);generalize hout:Pl.insF FF out0 (K.take m)=out1 at HX2 hln2 HIS HIL ⊢;generalize SE (Pl.zh5 q t)=sn at HS2 hft;generalize Pl.zh5 q t=jp at HJ HS2;have HKT:=hide ht;clear hlr ht hout k1 k2 k3;go_wp2_with fail
      refine (za HJ).mono ?_;rintro e wJ ⟨rfl,hwJ⟩;subst wJ;go_wp2_with fail
      refine (za HS2).mono ?_;rintro e w6 ⟨rfl,b6⟩;have HB4:=hide ((za HB2).trans (b6.mono (za HB2).size));have HB5:=hide ((za HB3).trans (b6.mono (za HB3).size));have HX4:Hid (zh3.Txt w6 w.heap.size (.slice (some ⟨g2,0,none⟩) out1.length cap2) out1):=hide (Mem.zd0 (za HX2) b6);have cL6:=zh3.Txt.cell (B:=0) (l:=K) (k:=m) (x:=t) (Mem.zd0 (za HLR) (za HB5)) (za HKT);clear HJ HS2 HB2 HB3 HX2 b6 cL HKT;by_cases hc:sn.2=0
      ·have hf1:FF t=true:=by rw [hft];exact decide_eq_true hc
       have z1:(sn.2==0)=true:=by simpa using hc
       have z2:decide (sn.2=0)=true:=by simpa using hc
       have hnm:=hide (zh3.any w.heap.size g2 cap2 out1 t w6 (by omega) (za HB4).size (za HX4));have HIS2:=hide (by have :=za HIS;rw [if_pos hf1] at this;exact this);generalize hres:Pl.insN t out1=res at hnm HIS2 HIL;clear HX4 hres HIS hft hc hf1;go_wp2_with fail
       refine (za hnm).mono ?_;rintro e w7 ⟨g3,cap3,rfl,htx,b7⟩
       have HZ:Hid (Below w.heap.size w w7∧Below w5.heap.size w5 w7∧∃g cap,(Value.slice (some ⟨g3,0,none⟩) res.length cap3)= .slice (some ⟨g,0,none⟩) (Pl.insF FF out0 (K.take (m+1))).length cap∧zh3.Txt w7 w.heap.size (.slice (some ⟨g,0,none⟩) (Pl.insF FF out0 (K.take (m+1))).length cap) (Pl.insF FF out0 (K.take (m+1)))∧(Pl.insF FF out0 (K.take (m+1))).length≤40*j+(m+1)):=by
        rw [za HIS2];exact hide ⟨(za HB4).trans (b7.mono (za HB4).size),(za HB5).trans (b7.mono (za HB5).size),g3,cap3,rfl,htx,by have :=za HIL;omega⟩
       clear hnm htx b7 HB4 HB5 HIS2 HIL cL6 z1 z2;go_wp2
       go_roundw
       case rel=>exact ⟨m+1,by omega,by go_num,HZ⟩
       case measure=>simp [intOf];omega
      ·have hf1:¬FF t=true:=by rw [hft];simpa using hc
       have z1:(sn.2==0)=false:=by simpa using hc
       have z2:decide (sn.2=0)=false:=by simpa using hc
       have HZ:Hid (Below w.heap.size w w6∧Below w5.heap.size w5 w6∧∃g cap,(Value.slice (some ⟨g2,0,none⟩) out1.length cap2)= .slice (some ⟨g,0,none⟩) (Pl.insF FF out0 (K.take (m+1))).length cap∧zh3.Txt w6 w.heap.size (.slice (some ⟨g,0,none⟩) (Pl.insF FF out0 (K.take (m+1))).length cap) (Pl.insF FF out0 (K.take (m+1)))∧(Pl.insF FF out0 (K.take (m+1))).length≤40*j+(m+1)):=by
        have e2:=za HIS;rw [if_neg hf1] at e2;rw [e2];exact hide ⟨za HB4,za HB5,g2,cap2,rfl,za HX4,by omega⟩
       clear HX4 HB4 HB5 HIS HIL cL6 hft hc hf1;go_wp2
       go_roundw
       case rel=>exact ⟨m+1,by omega,by go_num,HZ⟩
       case measure=>simp [intOf];omega
     ·have y5:¬ (m:Int)<(K.length:Int):=by omega
      have HZ:Hid (Below w.heap.size w wr∧∃g cap,(Value.slice (some ⟨g2,0,none⟩) (Pl.insF FF out0 (K.take m)).length cap2)= .slice (some ⟨g,0,none⟩) (NK (j+1)).length cap∧zh3.Txt wr w.heap.size (.slice (some ⟨g,0,none⟩) (NK (j+1)).length cap) (NK (j+1))∧(NK (j+1)).length≤40*(j+1)):=by
       have e1:K.take m=K:=List.take_of_length_le (by omega);have h1:=za HX2;rw [e1] at h1 hln2;rw [za HSS,e1];exact hide ⟨za HB2,g2,cap2,rfl,h1,by omega⟩
      clear HX2 HB2 HB3 HSS HLR hln2;go_wp2
      go_roundw
      case rel=>exact ⟨j+1,by omega,by go_num,HZ⟩
      case measure=>simp [intOf];omega
   ·obtain rfl:j=Is.length:=by omega
    have y1:¬ (Is.length:Int)<(Is.length:Int):=by omega
    have HZ:Hid (zh3.Txt wr w.heap.size (.slice (some ⟨g,0,none⟩) WO.length cp) WO∧WO.length≤480∧(NK Is.length).length=WO.length):=by
     rw [za HFI];exact hide ⟨za HX,by omega,rfl⟩
    clear HX hln;go_wp2
    go_ret
    exact ⟨g,cp,by rw [←(za HZ).2.2];rfl,(za HZ).1,(za HZ).2.1,za HB⟩
end WWn
end
end Go.Proofs.YtbomeifgfalmdaaGreatDoor
