/- Several texts of one claim in one file: WSpS9, WSpS13, WUnder1S, WSpS11. -/
import Derived.Test.YtonffldjbmednaaGreatDoorPlainLead
import Derived.Test.YtonffldjbmednaaGreatDoorG29
import Derived.Test.YtonffldjbmednaaGreatDoorG44
import Derived.Test.YtonffldjbmednaaGreatDoorWCp8
import Derived.Test.YtonffldjbmednaaGreatDoorG35
import Derived.Test.YtonffldjbmednaaGreatDoorG00
import Derived.Test.YtonffldjbmednaaGreatDoorProg
import Derived.WalkSpells
import Derived.Test.YtonffldjbmednaaGreatDoorG05
import Derived.Test.YtonffldjbmednaaGreatDoorG24
import Derived.Test.YtonffldjbmednaaGreatDoorG31
import Derived.Test.YtonffldjbmednaaGreatDoorG39
import Derived.Deep.Cut
namespace Go.Proofs.YtonffldjbmednaaGreatDoor
section
set_option linter.unusedSimpArgs false
open Go.RowKit
namespace WSp
def begC (p:ByteArray) (R:Bool):Int:=if Pl.whyI p R=0 then 0 else if Pl.whyI p R=1 then 2 else 1
set_option maxRecDepth 100000 in
set_option maxHeartbeats 1000000 in
theorem begin_any (s:Pl.Sp) (p:ByteArray) (w:World) (hp:p.size≤1048576) (hok:zb.OkS s 1048576) (hv:Mem.zc3 w s):
  Calls Tryz.prog 25 #[.agg s.cs, .string p] w fun e w'=>e= .returned (.int .i64 (begC p (Pl.ze9 s.next (s.N.map nr) s.M s.H Pl.wayB)))∧Below w.heap.size w w':=by
 have HX:=hide (fun W (b:Below w.heap.size w W)=>zg7 s W hok (hv.call b));have HR:=hide (fun W=>zi5.zx p W hp);generalize Pl.ze9 s.next (s.N.map nr) s.M s.H Pl.wayB=R at HX ⊢;clear hok hv;obtain ⟨ia,ic,N,ma,mc,M,ha,hc,H,next⟩:=s;unfold Pl.Sp.cs at HX ⊢;simp only at HX ⊢;have b0:=(Below.refl w.heap.size w).alloc (o:= .cells #[Value.slice ia N.length ic,Value.slice ma M.length mc,Value.slice ha H.length hc,Value.int .i64 next] 32) (Nat.le_refl _);have V0:=hide (Mem.Blk.new w #[Value.slice ia N.length ic,Value.slice ma M.length mc,Value.slice ha H.length hc,Value.int .i64 next] 32);by_cases hl:8000<p.size
 ·have HW:Hid (begC p R=2):=hide (by unfold begC Pl.whyI;rw [if_pos hl];rfl);have l1:(8000:Int)<(p.size:Int):=by omega
  clear HX HR;go_enter Tryz.func25,Tryz.ntmps25
  go_wp2
  go_ret
  exact ⟨by rw [za HW];rfl,b0⟩
 have l1:¬ (8000:Int)<(p.size:Int):=by omega
 have HWn:Hid ((R&&Pl.za2 p)=false→begC p R=1):=hide (fun h=>by unfold begC Pl.whyI;rw [if_neg hl,h];rfl);have HWy:Hid ((R&&Pl.za2 p)=true→begC p R=0):=hide (fun h=>by unfold begC Pl.whyI;rw [if_neg hl,h];rfl);generalize begC p R=C at HWn HWy ⊢;generalize Pl.za2 p=pb at HR HWn HWy;have a0:=(za V0).cell 0;have a1:=(za V0).cell 1;have a2:=(za V0).cell 2;have a3:=(za V0).cell 3;simp only [kGs] at a0 a1 a2 a3;go_enter Tryz.func25,Tryz.ntmps25
 go_wp2_with fail
 generalize w.alloc (.cells #[Value.slice ia N.length ic,Value.slice ma M.length mc,Value.slice ha H.length hc,Value.int .i64 next] 32)=wA at b0 V0 a0 a1 a2 a3 ⊢;refine (za HX _ b0).mono ?_;rintro e w1 ⟨rfl,bX⟩;have b1:=b0.trans (bX.mono b0.size);clear HX bX V0 a0 a1 a2 a3 b0;cases R
 ·have HW:=hide (za HWn rfl);clear HWn HWy HR;go_wp2
  go_ret
  exact ⟨by rw [za HW];rfl,b1⟩
 go_wp2_with fail
 refine (za HR _).mono ?_;rintro e w2 ⟨rfl,bX⟩;have b2:=b1.trans (bX.mono b1.size);clear HR bX b1;cases pb
 ·have HW:=hide (za HWn rfl);clear HWn HWy;go_wp2
  go_ret
  exact ⟨by rw [za HW];rfl,b2⟩
 ·have HW:=hide (za HWy rfl);clear HWn HWy;go_wp2
  go_ret
  exact ⟨by rw [za HW];rfl,b2⟩
set_option maxRecDepth 100000 in
set_option maxHeartbeats 1000000 in
theorem ill_any (c:Int) (w:World):
  Calls Tryz.prog 26 #[.int .i64 c] w fun e w'=>e= .returned (.agg #[.slice none 0 0, .slice none 0 0, .slice none 0 0, .int .i64 0, .int .i64 0, .string ⟨#[]⟩, .int .i64 c])∧Below w.heap.size w w':=by
 have b0:=(Below.refl w.heap.size w).alloc (o:= .cells #[Value.slice none 0 0,Value.slice none 0 0,Value.slice none 0 0,Value.int .i64 0,Value.int .i64 0,Value.string ⟨#[]⟩,Value.int .i64 0] 34) (Nat.le_refl _);have V0:=hide (Mem.Blk.new w #[Value.slice none 0 0,Value.slice none 0 0,Value.slice none 0 0,Value.int .i64 0,Value.int .i64 0,Value.string ⟨#[]⟩,Value.int .i64 0] 34);go_enter Tryz.func26,Tryz.ntmps26
 go_upto_region 1 with fail
 generalize w.alloc (.cells #[Value.slice none 0 0,Value.slice none 0 0,Value.slice none 0 0,Value.int .i64 0,Value.int .i64 0,Value.string ⟨#[]⟩,Value.int .i64 0] 34)=wA at b0 V0 ⊢;have d0:=(za V0).cell 0;have f0:=(za V0).fr 0;have d1:=(za V0).cell 1;have f1:=(za V0).fr 1;have d2:=(za V0).cell 2;have f2:=(za V0).fr 2;have d3:=(za V0).cell 3;have f3:=(za V0).fr 3;have d4:=(za V0).cell 4;have f4:=(za V0).fr 4;have d5:=(za V0).cell 5;have f5:=(za V0).fr 5;have d6:=(za V0).cell 6;have f6:=(za V0).fr 6;simp only [kGs] at d0 d1 d2 d3 d4 d5 d6;go_wp2
 refine bodyPost_ret (v:= .agg #[Value.slice none 0 0,Value.slice none 0 0,Value.slice none 0 0,Value.int .i64 0,Value.int .i64 0,Value.string ⟨#[]⟩,Value.int .i64 c]) (by simp [results,Tryz.results26,go_sem,d0,d1,d2,d3,d4,d5,d6]) rfl ⟨rfl,?_⟩
 exact (((((((b0).setCell (p:=⟨w.heap.size,0,none⟩) (by show w.heap.size≤w.heap.size;omega) (Value.slice none 0 0)).setCell (p:=⟨w.heap.size,1,none⟩) (by show w.heap.size≤w.heap.size;omega) (Value.slice none 0 0)).setCell (p:=⟨w.heap.size,2,none⟩) (by show w.heap.size≤w.heap.size;omega) (Value.slice none 0 0)).setCell (p:=⟨w.heap.size,3,none⟩) (by show w.heap.size≤w.heap.size;omega) (Value.int .i64 0)).setCell (p:=⟨w.heap.size,4,none⟩) (by show w.heap.size≤w.heap.size;omega) (Value.int .i64 0)).setCell (p:=⟨w.heap.size,5,none⟩) (by show w.heap.size≤w.heap.size;omega) (Value.string ⟨#[]⟩)).setCell (p:=⟨w.heap.size,6,none⟩) (by show w.heap.size≤w.heap.size;omega) (Value.int .i64 c)
theorem _root_.Go.Proofs.YtonffldjbmednaaGreatDoor.WCp8.Cpd.far {w W:World} {s u:Pl.Sp} {S1 Y:Nat} {lo hi:Nat→Nat} (h:WCp8.Cpd w W s u S1 lo hi) (k:Nat) (v:Value) (hY:Y<w.heap.size):WCp8.Cpd w (W.setCell ⟨Y,k,none⟩ v) s u S1 lo hi:=
 ⟨h.n,h.m,h.h,h.x,h.s1,h.iz.far k v (Nat.lt_of_lt_of_le hY h.s1),Mem.za9 h.om _ _ (fun g hg=>by have :=(Mem.za5 h.om g hg).1;show Y≠g;omega),Mem.za9 h.oh _ _ (fun g hg=>by have :=(Mem.za5 h.oh g hg).1;show Y≠g;omega),h.hm,h.hh,h.ne⟩
end WSp
end
section
set_option linter.unusedSimpArgs false
open Go.RowKit
namespace WSp
set_option maxRecDepth 100000 in
set_option maxHeartbeats 800000 in
theorem on_any (s:Pl.Sp) (p:ByteArray) (w:World) (hl:s.M.length≤1048576) (hv:Mem.zb2 w s.ma s.M):
  Calls Tryz.prog 79 #[.agg s.cs, .string p] w fun e w'=>e= .returned (.int .i64 (Pl.onI s.M p))∧Below w.heap.size w w':=by
 obtain ⟨ia,ic,N,ma,mc,M,ha,hc,H,next⟩:=s;simp only at *;unfold Pl.Sp.cs;have b0:=(Below.refl w.heap.size w).alloc (o:= .cells #[.slice ia N.length ic, .slice ma M.length mc, .slice ha H.length hc, .int .i64 next] 32) (Nat.le_refl _);have V0:=hide (Mem.Blk.new w #[.slice ia N.length ic, .slice ma M.length mc, .slice ha H.length hc, .int .i64 next] 32);have HI:=hide hv;have HAT:=hide (fun (k:Nat) (m:Pl.Mn) (h:M[k]? =some m) (hm:m.p=p) hn=>Pl.onI_at h hm hn);have HNO:=hide (fun hn=>Pl.onI_no (M:=M) (p:=p) hn);generalize Pl.onI M p=R at HAT HNO ⊢;clear hv;go_enter Tryz.func79,Tryz.ntmps79
 go_wp2
 go_loopw [5] (fun i wr=>∃k:Nat,k≤M.length∧i= .int .i64 (k:Int)∧Below w.heap.size w wr∧Hid (Mem.Blk wr w.heap.size #[.slice ia N.length ic, .slice ma M.length mc, .slice ha H.length hc, .int .i64 next] 32)∧Hid (∀ (j:Nat) x,j<k→M[j]? =some x→x.p≠p)) (fun i _=>M.length - (intOf i).toNat)
 case atStart=>exact ⟨0,Nat.zero_le _,rfl,b0,V0,fun j x h=>absurd h (by omega)⟩
 case round=>
  obtain ⟨k,hk,rfl,hbel,V,HA⟩:=hrel;clear V0 b0;have a0:=(za V).cell 1;simp only [kGs] at a0;by_cases hlt:k<M.length
  ·obtain ⟨t,ht⟩:∃n,M[k]? =some n:=⟨_,List.getElem?_eq_getElem hlt⟩;obtain ⟨g,o,rfl,hg,q0, -, -⟩:=(za HI) k t ht;have c0:=(hbel.cell (p:=⟨g,_,none⟩) hg).trans q0;have HT:=hide ht;have u1:(k:Int)<(M.length:Int):=by omega
   have u3:(0:Int)≤(k:Int):=by omega
   clear q0 ht;by_cases hd:t.p=p
   ·have hd1:=Pl.zw0 hd;have HR:Hid (R=(k:Int)):=hide (za HAT k t (za HT) hd (za HA));clear hd HAT HNO HA;go_wp2
    go_ret
    exact ⟨by rw [za HR];rfl,hbel⟩
   ·have hd1:=Pl.zr4 hd
    have HA2:Hid (∀ (j:Nat) x,j<k+1→M[j]? =some x→x.p≠p):=fun j x hj hx=>by
     rcases Nat.lt_succ_iff_lt_or_eq.1 hj with h|rfl
     ·exact za HA j x h hx
     ·rw [za HT] at hx;cases hx;exact hd
    clear hd;go_wp2
    go_roundw
    case rel=>exact ⟨k+1,by omega,by go_num,hbel,V,HA2⟩
    case measure=>simp [intOf];omega
  ·have u1:¬ (k:Int)<(M.length:Int):=by omega
   have HR:Hid (R= -1):=hide (za HNO (fun j x hx=>by
    have :=(List.getElem?_eq_some_iff.1 hx).1
    exact za HA j x (by omega) hx))
   clear HAT HNO HA;go_wp2
   go_ret
   exact ⟨by rw [za HR];rfl,hbel⟩
theorem empty_no8 {s:ByteArray} (h:s≠⟨#[]⟩):s.toList.isEmpty=false∧(s.toList==[])=false:=
 ⟨by rw [Pl.zd2];simp;exact fun e=>h (Pl.zh4 e),by rw [Pl.list_is];simp;exact fun e=>h (Pl.zh4 e)⟩
theorem empty_yes8 {s:ByteArray} (h:s=⟨#[]⟩):s.toList.isEmpty=true∧(s.toList==[])=true:=by
 subst h;exact ⟨by rw [Pl.zd2];rfl,by rw [Pl.list_is];rfl⟩
def mcode (p:ByteArray) (R:Bool) (M:List Pl.Mn):Int:=if Pl.whyD p R M=0 then 0 else Pl.codeW (Pl.whyD p R M)
set_option maxRecDepth 100000 in
set_option maxHeartbeats 1000000 in
theorem mounted_any (s:Pl.Sp) (p:ByteArray) (w:World) (hp:p.size≤1048576) (hok:zb.OkS s 1048576) (hv:Mem.zc3 w s) (R:Bool) (hR:Pl.ze9 s.next (s.N.map nr) s.M s.H Pl.wayB=R):
  Calls Tryz.prog 42 #[.agg s.cs, .string p] w fun e w'=>e= .returned (.tuple #[.int .i64 (if mcode p R s.M=0 then Pl.onI s.M p else -1), .int .i64 (mcode p R s.M)])∧Below w.heap.size w w':=by
 have HX:=hide (fun W (b:Below w.heap.size w W)=>begin_any s p W hp hok (hv.call b));have HON:=hide (fun W (b:Below w.heap.size w W)=>on_any s p W hok.m (hv.call b).zh);rw [hR] at HX;clear hok hv hR hp;obtain ⟨ia,ic,N,ma,mc,M,ha,hc,H,next⟩:=s;simp only at HX HON ⊢;unfold Pl.Sp.cs at HX HON ⊢;simp only at HX HON ⊢
 have HB:Hid ((Pl.whyI p R≠0→begC p R≠0∧mcode p R M=begC p R)∧(Pl.whyI p R=0→begC p R=0∧(p.size=0→mcode p R M=1)∧(p.size≠0→Pl.onI M p<0→mcode p R M=6)∧(p.size≠0→¬Pl.onI M p<0→mcode p R M=0))):=hide (by
  unfold mcode begC Pl.whyD
  rcases Pl.whyI_cases p R with ⟨h, -⟩|h|h <;> rw [h]
  ·refine ⟨fun h=>absurd rfl h,fun _=>⟨by simp,fun h=>by simp [h,Pl.codeW],fun h h2=>by simp [h,h2,Pl.codeW],fun h h2=>by simp [h,h2]⟩⟩
  ·exact ⟨fun _=>⟨by decide,by simp [Pl.codeW]⟩,fun h=>by omega⟩
  ·exact ⟨fun _=>⟨by decide,by simp [Pl.codeW]⟩,fun h=>by omega⟩)
 generalize mcode p R M=C at HB ⊢;generalize hK:(if C=0 then Pl.onI M p else -1)=KV;have HK:=hide hK;clear hK;generalize begC p R=b at HX HB;have b0:=(Below.refl w.heap.size w).alloc (o:= .cells #[Value.slice ia N.length ic,Value.slice ma M.length mc,Value.slice ha H.length hc,Value.int .i64 next] 32) (Nat.le_refl _);have V0:=hide (Mem.Blk.new w #[Value.slice ia N.length ic,Value.slice ma M.length mc,Value.slice ha H.length hc,Value.int .i64 next] 32);have a0:=(za V0).cell 0;have a1:=(za V0).cell 1;have a2:=(za V0).cell 2;have a3:=(za V0).cell 3;simp only [kGs] at a0 a1 a2 a3;go_enter Tryz.func42,Tryz.ntmps42
 go_wp2_with fail
 generalize w.alloc (.cells #[Value.slice ia N.length ic,Value.slice ma M.length mc,Value.slice ha H.length hc,Value.int .i64 next] 32)=wA at b0 V0 a0 a1 a2 a3 ⊢;refine (za HX _ b0).mono ?_;rintro e w1 ⟨rfl,bX⟩;have b1:=b0.trans (bX.mono b0.size);have V1:=hide ((za V0).call bX);clear HX bX V0 a0 a1 a2 a3 b0;by_cases hw:Pl.whyI p R=0
 ·obtain ⟨hb,h1,h2,h3⟩:=(za HB).2 hw;have H1:=hide h1;have H2:=hide h2;have H3:=hide h3;subst hb;clear HB hw h1 h2 h3;by_cases hz:p.size=0
  ·have HC:Hid (C=1):=hide (za H1 hz);obtain ⟨hpe,hpe2⟩:=empty_yes8 (s:=p) (by cases p with |mk d=>have :d.size=0:=hz;rw [Array.eq_empty_of_size_eq_zero this]);clear H1 H2 H3 HON hz V1;go_wp2
   refine bodyPost_ret (v:= .tuple #[.int .i64 (-1), .int .i64 1]) (by simp [results,Tryz.results42,go_sem]) rfl ⟨by rw [←za HK,za HC];rfl,b1⟩
  obtain ⟨hpe,hpe2⟩:=empty_no8 (s:=p) (fun e=>by rw [e] at hz;exact hz rfl);have a0:=(za V1).cell 0;have a1:=(za V1).cell 1;have a2:=(za V1).cell 2;have a3:=(za V1).cell 3;simp only [kGs] at a0 a1 a2 a3;have H2':=hide (za H2 hz);have H3':=hide (za H3 hz);clear H1 H2 H3 hz;go_wp2_with fail
  refine (za HON _ b1).mono ?_;rintro e w2 ⟨rfl,bX⟩;have b2:=b1.trans (bX.mono b1.size);clear HON bX V1 a0 a1 a2 a3 b1 hpe hpe2;generalize Pl.onI M p=O at H2' H3' HK ⊢;by_cases ho:O<0
  ·have HC:Hid (C=6):=hide (za H2' ho);clear H2' H3';go_wp2
   refine bodyPost_ret (v:= .tuple #[.int .i64 (-1), .int .i64 6]) (by simp [results,Tryz.results42,go_sem]) rfl ⟨by rw [←za HK,za HC];rfl,b2⟩
  ·have HC:Hid (C=0):=hide (za H3' (by omega));clear H2' H3';go_wp2
   refine bodyPost_ret (v:= .tuple #[.int .i64 O, .int .i64 0]) (by simp [results,Tryz.results42,go_sem]) rfl ⟨by rw [←za HK,za HC];rfl,b2⟩
 ·obtain ⟨hb,h1⟩:=(za HB).1 hw;have z1:(b==0)=false:=by simpa using hb
  have z2:decide (b=0)=false:=by simpa using hb
  have HC:=hide h1;have HBN:=hide hb;clear HB hw h1 V1 HON hb;go_wp2
  refine bodyPost_ret (v:= .tuple #[.int .i64 (-1), .int .i64 b]) (by simp [results,Tryz.results42,go_sem]) rfl ⟨by rw [←za HK,za HC,if_neg (za HBN)],b1⟩
end WSp
end
section
open Go.RowKit
namespace Pl
theorem under_root {p t:ByteArray} (h:by_ t=[]):under p t=true:=(under_iff p t).2 (.inl h)
theorem under_same (p:ByteArray):under p p=true:=(under_iff p p).2 (.inr (.inl rfl))
theorem under_short {p t:ByteArray} (h0:by_ t≠[]) (h1:p≠t) (h:¬t.size<p.size):under p t=false:=by
 rw [Bool.eq_false_iff];intro h2
 rcases (under_iff p t).1 h2 with h3|h3|⟨r,h3⟩
 ·exact h0 h3
 ·exact h1 (zh4 h3)
 ·have :=congrArg List.length h3;rw [zg6,List.length_append,List.length_cons,zg6] at this;omega
theorem by_pre (p t:ByteArray):by_ (p.extract 0 t.size)=(by_ p).take t.size:=by rw [zv1];simp
theorem under_other {p t:ByteArray} (h0:by_ t≠[]) (h1:p≠t) (h:p.extract 0 t.size≠t):under p t=false:=by
 rw [Bool.eq_false_iff];intro h2
 rcases (under_iff p t).1 h2 with h3|h3|⟨r,h3⟩
 ·exact h0 h3
 ·exact h1 (zh4 h3)
 ·apply h;apply zh4;rw [by_pre,h3,←zg6,List.take_left]
theorem pre_split {p t:ByteArray} (hl:t.size<p.size) (h:p.extract 0 t.size=t):by_ p=by_ t++p[t.size]::(by_ p).drop (t.size+1):=by
 have h1:by_ t=(by_ p).take t.size:=by rw [←by_pre,h]
 have h2:t.size<(by_ p).length:=by rw [zg6];exact hl
 have h3:(by_ p).drop t.size=p[t.size]::(by_ p).drop (t.size+1):=by rw [List.drop_eq_getElem_cons h2];rfl
 exact (List.take_append_drop t.size (by_ p)).symm.trans (by rw [h3,←h1];rfl)
theorem under_yes {p t:ByteArray} (hl:t.size<p.size) (h:p.extract 0 t.size=t) (hb:p[t.size].toNat=47):under p t=true:=by
 refine (under_iff p t).2 (.inr (.inr ⟨(by_ p).drop (t.size+1),?_⟩));have hb':p[t.size]=47:=UInt8.toNat_inj.1 hb;rw [←hb'];exact pre_split hl h
theorem under_no {p t:ByteArray} (h0:by_ t≠[]) (h1:p≠t) (hl:t.size<p.size) (h:p.extract 0 t.size=t) (hb:p[t.size].toNat≠47):under p t=false:=by
 rw [Bool.eq_false_iff];intro h2
 rcases (under_iff p t).1 h2 with h3|h3|⟨r,h3⟩
 ·exact h0 h3
 ·exact h1 (zh4 h3)
 ·rw [pre_split hl h] at h3;have :=List.append_cancel_left h3;simp at this
  exact hb (by rw [this.1];rfl)
end Pl
namespace zi5
set_option maxRecDepth 100000 in
set_option maxHeartbeats 400000 in
theorem under1_any (p t:ByteArray) (w:World) (ht:t.size≤1048576):
  Calls Tryz.prog 44 #[.string p, .string t] w fun e w'=>e= .returned (.bool (Pl.under p t))∧w'=w:=by
 by_cases h0:Pl.by_ t=[]
 ·have E:=hide (Pl.under_root (p:=p) h0);have d1:t.toList.isEmpty=true:=by rw [Pl.zd2];simp [h0]
  clear h0;go_enter Tryz.func44,Tryz.ntmps44
  go_wp2
  go_ret
  exact ⟨za0 (za E).symm,rfl⟩
 have d1:t.toList.isEmpty=false:=by rw [Pl.zd2];simp [h0]
 by_cases h1:p=t
 ·subst h1;have E:=hide (Pl.under_same p);clear h0;go_enter Tryz.func44,Tryz.ntmps44
  go_wp2
  go_ret
  exact ⟨za0 (za E).symm,rfl⟩
 have d2:=Pl.zr4 h1;by_cases hl:t.size<p.size
 ·have k1:(t.size:Int)<(p.size:Int):=by omega
  have k2:(t.size:Int)≤(p.size:Int):=by omega
  have k3:(0:Int)≤(t.size:Int):=by omega
  by_cases h3:p.extract 0 t.size=t
  ·have d3:=Pl.zw0 h3;by_cases h4:p[t.size].toNat=47
   ·have E:=hide (Pl.under_yes hl h3 h4);have d4:((p[t.size].toNat:Int)==47)=true:=by rw [beq_iff_eq];omega
    clear h0 h1 h3 h4;go_enter Tryz.func44,Tryz.ntmps44
    go_wp2
    go_ret
    exact ⟨za0 (za E).symm,rfl⟩
   ·have E:=hide (Pl.under_no h0 h1 hl h3 h4);have d4:((p[t.size].toNat:Int)==47)=false:=by rw [beq_eq_false_iff_ne];omega
    clear h0 h1 h3 h4;go_enter Tryz.func44,Tryz.ntmps44
    go_wp2
    go_ret
    exact ⟨za0 (za E).symm,rfl⟩
  ·have E:=hide (Pl.under_other h0 h1 h3);have d3:=Pl.zr4 h3;clear h0 h1 h3;go_enter Tryz.func44,Tryz.ntmps44
   go_wp2
   go_ret
   exact ⟨za0 (za E).symm,rfl⟩
 ·have E:=hide (Pl.under_short h0 h1 hl);have k1:¬ (t.size:Int)<(p.size:Int):=by omega
  clear h0 h1;go_enter Tryz.func44,Tryz.ntmps44
  go_wp2
  go_ret
  exact ⟨za0 (za E).symm,rfl⟩
end zi5
end
section
open Go.RowKit
namespace Mem
theorem insts_own {W:World} {S n cap:Nat} {a:Option Addr} {L:List Pl.Ns} (h:W.ownsRow S 103 2 (.slice a n cap) L.length (Pl.zd5 L)) (hI:∀x∈L,zb0 W x.a x.Is):n=L.length∧ze4 W a L:=by
 rcases h.2 with ⟨e,h0⟩|⟨g,c,cur,e,hb,hg,rest⟩
 ·cases e
  have :L=[]:=List.eq_nil_of_length_eq_zero h0;subst this;exact ⟨rfl,zr8 _ _⟩
 ·cases e
  refine ⟨rfl,fun i x hx=>⟨⟨g,0,rfl,(Array.getElem?_eq_some_iff.1 hg).1,?_,?_⟩,hI x (List.mem_of_getElem? hx)⟩⟩
  ·have :=World.ownsRow.cells h (g:=g) rfl (i*2) _ (Pl.zk5 L i x hx).1;rw [add_lit] at this;rw [Nat.zero_add];exact this
  ·have :=World.ownsRow.cells h (g:=g) rfl (i*2+1) _ (Pl.zk5 L i x hx).2;rw [add_lit] at this;rw [Nat.zero_add];exact this
end Mem
namespace WSp
theorem infoZ8:(Tryz.prog.info? 103).map (fun i=>(i.zero,i.size,i.bytes))=some (some (.agg #[.int .i64 0, .slice none 0 0]),2,32):=by kernel_rfl
structure F6 (n:Nat) (wr W:World) (cs:Array Value) (X:Nat):Prop where
 bel:Below n wr W
 blk:Mem.Blk W X cs 103
 xs:n≤X
theorem meet6 {P F:World→Nat→Prop} {G:Prop} (h1:(∀W X,F W X→P W X)→G) (h2:∀W X,F W X→P W X):G:=h1 h2
def Cleaned (w':World) (B:Nat) (ma:Option Addr) (mc:Nat) (M:List Pl.Mn) (ha:Option Addr) (hc:Nat) (H:List Pl.Hn) (next :Int) (N:List Pl.Ns) (e:Ending):Prop:=
 ∃ua uc,e= .returned (.agg #[.slice ua N.length uc, .slice ma M.length mc, .slice ha H.length hc, .int .i64 next])∧w'.ownsRow B 103 2 (.slice ua N.length uc) N.length (Pl.zd5 N)
structure Cl (w W:World) (V Y:Array Value):Prop where
 bel:Below w.heap.size w W
 v:Mem.Blk W w.heap.size V 32
 u:Mem.Blk W (w.heap.size+1) #[.slice none 0 0, .slice none 0 0, .slice none 0 0, .int .i64 0] 32
 y:Mem.Blk W (w.heap.size+2) Y 32
theorem zd4 {w:World} {B Y e size n:Nat} {v:Value} {xs:List Value} (h:w.ownsRow B e size v n xs) (k:Nat) (u:Value) (hY:Y<B):(w.setCell ⟨Y,k,none⟩ u).ownsRow B e size v n xs:=
 Mem.zc9 h (fun g hg=>heap_setCell_other _ _ _ _ (by have :=(World.ownsRow.lt h g hg).1;show g≠Y;omega))
theorem Cl.call {w W W':World} {V Y:Array Value} (h:Cl w W V Y) (b:Below W.heap.size W W'):Cl w W' V Y:=⟨h.bel.trans (b.mono h.bel.size),h.v.call b,h.u.call b,h.y.call b⟩
theorem Cl.grown {w W W':World} {V Y:Array Value} {r:Option Nat} (h:Cl w W V Y) (g:W.grownBy W' r) (hr:∀b,r=some b→w.heap.size+2<b):Cl w W' V Y:=
 ⟨h.bel.grown g h.bel.size (fun q hq=>by have :=hr q hq;omega),h.v.grown g (fun e=>by have :=hr _ e.symm;omega),h.u.grown g (fun e=>by have :=hr _ e.symm;omega),h.y.grown g (fun e=>by have :=hr _ e.symm;omega)⟩
theorem Cl.put {w W:World} {V Y:Array Value} (h:Cl w W V Y) (k:Nat) (v:Value):Cl w (W.setCell ⟨w.heap.size+2,k,none⟩ v) V (Y.setIfInBounds k v):=
 ⟨h.bel.setCell (by show w.heap.size≤w.heap.size+2;omega) _,h.v.far _ _ (by show w.heap.size≠w.heap.size+2;omega),h.u.far _ _ (by show w.heap.size+1≠w.heap.size+2;omega),h.y.put k v⟩
set_option linter.unusedSimpArgs false in
set_option maxRecDepth 100000 in
set_option maxHeartbeats 4000000 in
theorem clean_any (s:Pl.Sp) (w:World) (hN:s.N.length≤12) (hml:s.M.length≤1048576) (hhl:s.H.length≤1048576) (hv:Mem.zc3 w s):
  Calls Tryz.prog 51 #[.agg s.cs] w fun e w'=>Cleaned w' (w.heap.size+3) s.ma s.mc s.M s.ha s.hc s.H s.next (s.N.filter (fun x=>!decide (Pl.held s.M s.H x.d=0))) e∧Below w.heap.size w w':=by
 obtain ⟨i0,hi0,hz0,hz1,hz2⟩:=info_parts infoZ8;have HHD:=hide (fun d W (b:Below w.heap.size w W)=>zd9 s d W hml hhl (Mem.zc7 hv.zh b) (Mem.zc6 hv.hands b));have HI:=hide hv.zf9;clear hv;obtain ⟨ia,ic,N,ma,mc,M,ha,hc,H,next⟩:=s;simp only at HHD HI hN hml hhl ⊢;unfold Pl.Sp.cs at HHD ⊢;simp only at HHD ⊢;obtain ⟨f,hf⟩:∃f:Pl.Ns→Bool,f=fun x=>!decide (Pl.held M H x.d=0):=⟨_,rfl⟩;rw [←hf];have HF:=hide hf;clear hf;obtain ⟨cl,hcl⟩:∃cl:Nat→List Pl.Ns,cl=fun k=>(N.take k).filter f:=⟨_,rfl⟩;have HEND:Hid (cl N.length=N.filter f):=hide (by rw [hcl];simp);have HZ:Hid (cl 0=[]):=hide (by rw [hcl];simp);have HY:Hid (∀k t,N[k]? =some t→f t=true→cl (k+1)=cl k++[t]):=hide (fun k t h h2=>by rw [hcl];simp only;rw [List.take_add_one,h,List.filter_append];simp [h2])
 have HNo:Hid (∀k t,N[k]? =some t→f t=false→cl (k+1)=cl k):=hide (fun k t h h2=>by rw [hcl];simp only;rw [List.take_add_one,h,List.filter_append];simp [h2]);have HLE:Hid (∀k,(cl k).length≤12):=hide (fun k=>by rw [hcl];exact Nat.le_trans (List.length_filter_le _ _) (by rw [List.length_take];omega));clear hcl
 have C0:Hid (Cl w (((w.alloc (.cells #[.slice ia N.length ic, .slice ma M.length mc, .slice ha H.length hc, .int .i64 next] 32)).alloc (.cells #[.slice none 0 0, .slice none 0 0, .slice none 0 0, .int .i64 0] 32)).alloc (.cells #[.slice none 0 0, .slice ma M.length mc, .slice ha H.length hc, .int .i64 next] 32)) #[.slice ia N.length ic, .slice ma M.length mc, .slice ha H.length hc, .int .i64 next] #[.slice none 0 0, .slice ma M.length mc, .slice ha H.length hc, .int .i64 next]):=hide ⟨(((Below.refl _ _).alloc (Nat.le_refl _) _).alloc (by simp) _).alloc (by simp;omega) _,((Mem.Blk.new w _ _).alloc _).alloc _,Mem.zn4 w _ _ _,Mem.zk0 w _ _ _⟩
 have hs0:(((w.alloc (.cells #[.slice ia N.length ic, .slice ma M.length mc, .slice ha H.length hc, .int .i64 next] 32)).alloc (.cells #[.slice none 0 0, .slice none 0 0, .slice none 0 0, .int .i64 0] 32)).alloc (.cells #[.slice none 0 0, .slice ma M.length mc, .slice ha H.length hc, .int .i64 next] 32)).heap.size=w.heap.size+3:=by simp
 have A0:=hide ((Mem.Blk.new w #[.slice ia N.length ic, .slice ma M.length mc, .slice ha H.length hc, .int .i64 next] 32).alloc (.cells #[.slice none 0 0, .slice none 0 0, .slice none 0 0, .int .i64 0] 32));have a0:=(za A0).cell 1;have a1:=(za A0).cell 2;have a2:=(za A0).cell 3;simp only [kGs] at a0 a1 a2;have Z0:Hid (World.ownsRow (((w.alloc (.cells #[.slice ia N.length ic, .slice ma M.length mc, .slice ha H.length hc, .int .i64 next] 32)).alloc (.cells #[.slice none 0 0, .slice none 0 0, .slice none 0 0, .int .i64 0] 32)).alloc (.cells #[.slice none 0 0, .slice ma M.length mc, .slice ha H.length hc, .int .i64 next] 32)) (w.heap.size+3) 103 2 (.slice none 0 0) 0 (Pl.zd5 [])):=hide ⟨rfl, .inl ⟨rfl,rfl⟩⟩;go_enter Tryz.func51,Tryz.ntmps51
 go_wp2
 generalize ((w.alloc (.cells #[.slice ia N.length ic, .slice ma M.length mc, .slice ha H.length hc, .int .i64 next] 32)).alloc (.cells #[.slice none 0 0, .slice none 0 0, .slice none 0 0, .int .i64 0] 32)).alloc (.cells #[.slice none 0 0, .slice ma M.length mc, .slice ha H.length hc, .int .i64 next] 32)=wA at C0 Z0 hs0 ⊢;clear a0 a1 a2 A0;go_loopw [4] (fun i wr=>∃ (k:Nat) (a:Option Addr) (c:Nat),k≤N.length∧i= .int .i64 (k:Int)∧Hid (Cl w wr #[.slice ia N.length ic, .slice ma M.length mc, .slice ha H.length hc, .int .i64 next] #[.slice a (cl k).length c, .slice ma M.length mc, .slice ha H.length hc, .int .i64 next])∧Hid (wr.ownsRow (w.heap.size+3) 103 2 (.slice a (cl k).length c) (cl k).length (Pl.zd5 (cl k)))∧w.heap.size+3≤wr.heap.size) (fun i _=>N.length - (intOf i).toNat)
 case atStart=>exact ⟨0,none,0,Nat.zero_le _,rfl,by rw [za HZ];exact C0,by rw [za HZ];exact Z0,by omega⟩
 case round=>
  obtain ⟨k,a,c,hk,rfl,HC,HO,hS⟩:=hrel;clear C0 Z0 hs0;have v0:=(za HC).v.cell 0;simp only [kGs] at v0;by_cases hlt:k<N.length
  ·obtain ⟨t,ht⟩:∃n,N[k]? =some n:=⟨_,List.getElem?_eq_getElem hlt⟩;have bw:=(za HC).bel;obtain ⟨⟨g,o,rfl,hg,q0,q1⟩, -⟩:=(za HI) k t ht;have u1:(k:Int)<(N.length:Int):=by omega
   have u3:(0:Int)≤(k:Int):=by omega
   have MK:Hid (∀W',Below wr.heap.size wr W'→(Below wr.heap.size wr W'∧W'.cell? ⟨w.heap.size,0,none⟩=some (.slice (some ⟨g,o,none⟩) N.length ic)∧W'.cell? ⟨w.heap.size,1,none⟩=some (.slice ma M.length mc)∧W'.cell? ⟨w.heap.size,2,none⟩=some (.slice ha H.length hc)∧W'.cell? ⟨w.heap.size,3,none⟩=some (.int .i64 next)∧W'.cell? ⟨g,o+k*2,none⟩=some (.int .i64 t.d)∧W'.cell? ⟨g,o+k*2+1,none⟩=some (.slice t.a t.Is.length t.cap))):=fun W' b=>by
    have v:=(za HC).v.call b;have b2:=bw.trans (b.mono bw.size);exact ⟨b,v.cell 0,v.cell 1,v.cell 2,v.cell 3,(b2.cell (p:=⟨g,_,none⟩) hg).trans q0,(b2.cell (p:=⟨g,_,none⟩) hg).trans q1⟩
   have HQ:=hide (And.intro q0 q1);have HD:=hide (fun W (b:Below wr.heap.size wr W)=>za HHD t.d W (bw.trans (b.mono bw.size)));have HT:=hide ht;have hft:f t= !decide (Pl.held M H t.d=0):=by rw [za HF]
   have HFT:=hide hft;have hpos:0≤Pl.held M H t.d:=by unfold Pl.held;omega
   generalize Pl.held M H t.d=R at HD HFT hpos;clear ht hft q0 q1;go_upto_region 5 with fail
   clear v0;go_wp2_with fail
   refine RG MK (bD _) fun hHeld=>?_;generalize wr.drew=D0 at hHeld ⊢;refine TB 0 ?_;refine TB 1 ?_;refine TB 2 ?_;refine TB 3 ?_;refine TB 4 ?_;refine TB 5 ?_;refine TB 6 ?_;refine RN 7 fun K hK=>?_;go_simp
   refine (za HD _ hHeld.1).mono ?_;rintro e W ⟨rfl,bX⟩;refine hK.out _ _ ?_ (fun hHeld=>?_)
   ·exact za MK _ (hHeld.1.trans (bX.mono hHeld.1.size))
   clear hK K bX
   try simp only [Act.put,kBs]
   have hb0:decide (0<R)= !decide (R=0):=by by_cases h:R=0 <;> simp [h] <;> omega
   have hbb:=hide (hb0.trans (za HFT).symm);clear hb0;refine TB 8 ?_;generalize decide (0<R)=bb at hbb ⊢;refine wpAnyH_done (by kernel_rfl) ?_ _;have bW:=hHeld.1;clear hHeld MK HD;have HC2:=hide ((za HC).call bW);have HO2:=hide (Mem.ze8 (za HO) bW);have hS2:w.heap.size+3≤W.heap.size:=by have :=bW.size;omega
   clear HC HO bW hS HFT hpos;cases bb
   ·have HCe:=hide (za HNo k t (za HT) (za hbb).symm);clear hbb;go_wp2
    go_roundw
    case rel=>exact ⟨k+1,a,c,by omega,by go_num,by rw [za HCe];exact HC2,by rw [za HCe];exact HO2,hS2⟩
    case measure=>simp [intOf];omega
   ·have HCe:=hide (za HY k t (za HT) (za hbb).symm);have hl12:=za HLE k;clear hbb;have MK:Hid (∀W',Below w.heap.size w W'→Mem.Blk W' w.heap.size #[.slice (some ⟨g,o,none⟩) N.length ic, .slice ma M.length mc, .slice ha H.length hc, .int .i64 next] 32→(W'.cell? ⟨w.heap.size,0,none⟩=some (.slice (some ⟨g,o,none⟩) N.length ic)∧W'.cell? ⟨g,o+k*2,none⟩=some (.int .i64 t.d)∧W'.cell? ⟨g,o+k*2+1,none⟩=some (.slice t.a t.Is.length t.cap))):=fun W' b v=>⟨v.cell 0,(b.cell (p:=⟨g,_,none⟩) hg).trans (za HQ).1,(b.cell (p:=⟨g,_,none⟩) hg).trans (za HQ).2⟩;go_upto_region 6 with fail
    go_wp2_with fail
    have HC3:=hide ((za HC2).call (W':=W.drew) ⟨rfl,rfl,rfl,Nat.le_refl _,fun _ _=>rfl⟩);have HO3:=hide (Mem.ze8 (w':=W.drew) (za HO2) ⟨rfl,rfl,rfl,Nat.le_refl _,fun _ _=>rfl⟩);have hS3:w.heap.size+3≤W.drew.heap.size:=hS2;refine wp_region_held_drew (S:=fun W'=>W'.cell? ⟨w.heap.size,0,none⟩=some (.slice (some ⟨g,o,none⟩) N.length ic)∧W'.cell? ⟨g,o+k*2,none⟩=some (.int .i64 t.d)∧W'.cell? ⟨g,o+k*2+1,none⟩=some (.slice t.a t.Is.length t.cap)) (by kernel_rfl) ?_ (fun hHeld=>?_)
    ·exact za MK _ (za HC3).bel (za HC3).v
    generalize W.drew=D0 at hHeld HC3 HO3 hS3 ⊢;clear HC2 HO2 hS2;refine TB 0 ?_;refine TB 2 ?_;refine TB 3 ?_;refine TB 4 ?_;refine TB 5 ?_;refine TB 6 ?_
    apply meet6 (F:=fun W X=>F6 D0.heap.size D0 W #[.int .i64 t.d, .slice t.a t.Is.length t.cap] X)
    ·intro hEnd;have bA:Below D0.heap.size D0 (D0.alloc (.cells #[.int .i64 t.d, .slice t.a t.Is.length t.cap] 103)):=(Below.refl _ _).alloc (Nat.le_refl _) _;have hFh:=(⟨bA,Mem.Blk.new _ _ _,Nat.le_refl _⟩:F6 D0.heap.size D0 (D0.alloc (.cells #[.int .i64 t.d, .slice t.a t.Is.length t.cap] 103)) #[.int .i64 t.d, .slice t.a t.Is.length t.cap] D0.heap.size);have hC4:=(za HC3).call bA;refine wpAnyH_ready (rs:=[1,7]) (by kernel_rfl) (by simp) ?_;refine AllReadyH.cons rfl (fun K hK=>?_) (AllReadyH.cons rfl (fun K hK=>?_) (AllReadyH.nil))
     ·have y0:=(za HC3).y.cell 0;simp only [kGs] at y0;go_simp
      refine hK.out _ _ ?_ (fun hHeld=>?_)
      ·exact hHeld
      clear hK K y0
      try simp only [Act.put,kBs]
      refine RN 7 fun K hK=>?_;go_simp
      refine hK.out _ _ ?_ (fun hHeld=>?_)
      ·exact za MK _ hC4.bel hC4.v
      clear hK K
      try simp only [Act.put,kBs]
      have hF:=hFh;generalize D0.alloc (.cells #[.int .i64 t.d, .slice t.a t.Is.length t.cap] 103)=D9 at hF hHeld ⊢;generalize hX9:D0.heap.size=X9 at hF ⊢;exact hEnd _ _ (by rw [hX9];exact hF)
     ·go_simp
      refine hK.out _ _ ?_ (fun hHeld=>?_)
      ·exact za MK _ hC4.bel hC4.v
      clear hK K
      try simp only [Act.put,kBs]
      refine RN 1 fun K hK=>?_;have y0:=hC4.y.cell 0;simp only [kGs] at y0;go_simp
      refine hK.out _ _ ?_ (fun hHeld=>?_)
      ·exact za MK _ hC4.bel hC4.v
      clear hK K y0
      try simp only [Act.put,kBs]
      have hF:=hFh;generalize D0.alloc (.cells #[.int .i64 t.d, .slice t.a t.Is.length t.cap] 103)=D9 at hF hHeld ⊢;generalize hX9:D0.heap.size=X9 at hF ⊢;exact hEnd _ _ (by rw [hX9];exact hF)
    intro W1 X hF;have hC4:=(za HC3).call hF.bel;have hHeld:=za MK _ hC4.bel hC4.v;have hO4:=Mem.ze8 (za HO3) hF.bel;have x0:=hF.blk.cell 0;have x1:=hF.blk.cell 1;simp only [kGs] at x0 x1;refine RN 8 fun K hK=>?_;refine Mem.za1 rfl _ _ 28 rfl (w.heap.size+3) 103 i0 _ 2 32 Tryz.underlying28 hi0 hz0 hz1 hz2 rfl (by decide) (.slice a (cl k).length c) (cl k).length (Pl.zd5 (cl k)) rfl hO4 (some ⟨X,0,none⟩) 1 1 [.int .i64 t.d, .slice t.a t.Is.length t.cap] rfl rfl (.inl ⟨_,rfl,fun j u hj=>?_⟩) (by simp [Value.oneCell']) (by unfold maxLen;omega) (by omega) (by have :=hF.bel.size;omega) ?_
    ·match j,hj with
     |0,hj=>cases hj;exact x0
     |1,hj=>cases hj;exact x1
     |j+2,hj=>simp at hj
    intro v' wB ownB grB farB;obtain ⟨a',c',rfl⟩:=Mem.za4 ownB;have hlo:=fun b hb=>(World.ownsRow.lt hO4 b hb).1;have hC5:=hC4.grown grB (fun b hb=>by have :=hlo b hb;omega);refine hK.out _ _ ?_ (fun hHeld=>?_)
    ·exact za MK _ hC5.bel hC5.v
    clear hK K
    try simp only [Act.put,kBs]
    refine TB 9 ?_;have d0:=hC5.y.cell 0;have f0:=hC5.y.fr 0;simp only [kGs] at d0;refine RN 10 fun K hK=>?_;go_simp
    have HC6:=hide (hC5.put 0 (.slice a' ((cl k).length+1) c'));have HO6:Hid (World.ownsRow (wB.setCell ⟨w.heap.size+2,0,none⟩ (.slice a' ((cl k).length+1) c')) (w.heap.size+3) 103 2 (.slice a' (cl (k+1)).length c') (cl (k+1)).length (Pl.zd5 (cl (k+1)))):=hide (zd4 (by rw [za HCe,List.length_append,List.length_singleton,Pl.ya9];exact ownB) 0 _ (by omega));have hS6:w.heap.size+3≤(wB.setCell ⟨w.heap.size+2,0,none⟩ (.slice a' ((cl k).length+1) c')).heap.size:=by rw [World.size_setCell];have :=grB.size;have :=hF.bel.size;omega
    refine hK.out _ _ ?_ (fun hHeld=>?_)
    ·exact za MK _ (za HC6).bel (za HC6).v
    clear hK K d0 f0 ownB grB farB hlo hC5 x0 x1 hO4 hC4 hF MK HC3 HO3
    try simp only [Act.put,kBs]
    refine wpAnyH_done (by kernel_rfl) ?_ _;clear hHeld;have HLN:Hid ((cl (k+1)).length=(cl k).length+1):=hide (by rw [za HCe,List.length_append,List.length_singleton]);go_wp2
    go_roundw
    case rel=>exact ⟨k+1,a',c',by omega,by go_num,by rw [za HLN];exact HC6,HO6,hS6⟩
    case measure=>simp [intOf];omega
  ·have hke:k=N.length:=by omega
   have u1:¬ (k:Int)<(N.length:Int):=by omega
   subst hke;have c0:=(za HC).y.cell 0;have c1:=(za HC).y.cell 1;have c2:=(za HC).y.cell 2;have c3:=(za HC).y.cell 3;have d0:=(za HC).u.cell 0;have d1:=(za HC).u.cell 1;have d2:=(za HC).u.cell 2;have d3:=(za HC).u.cell 3;have f0:=(za HC).u.fr 0;have f1:=(za HC).u.fr 1;have f2:=(za HC).u.fr 2;have f3:=(za HC).u.fr 3;simp only [kGs] at c0 c1 c2 c3 d0 d1 d2 d3;have bw:=hide (za HC).bel;have HO1:=hide (zd4 (zd4 (zd4 (zd4 (za HO) (Y:=w.heap.size+1) 0 (.slice a (cl N.length).length c) (by omega)) (Y:=w.heap.size+1) 1 (.slice ma M.length mc) (by omega)) (Y:=w.heap.size+1) 2 (.slice ha H.length hc) (by omega)) (Y:=w.heap.size+1) 3 (.int .i64 next) (by omega))
   have hb1:=hide (((((za bw).setCell (p:=⟨w.heap.size+1,0,none⟩) (by show w.heap.size≤w.heap.size+1;omega) (.slice a (cl N.length).length c)).setCell (p:=⟨w.heap.size+1,1,none⟩) (by show w.heap.size≤w.heap.size+1;omega) (.slice ma M.length mc)).setCell (p:=⟨w.heap.size+1,2,none⟩) (by show w.heap.size≤w.heap.size+1;omega) (.slice ha H.length hc)).setCell (p:=⟨w.heap.size+1,3,none⟩) (by show w.heap.size≤w.heap.size+1;omega) (.int .i64 next));clear HO HHD HI HC;rw [za HEND] at c0 HO1 hb1;go_wp2
   refine bodyPost_ret (v:= .agg #[.slice a (N.filter f).length c, .slice ma M.length mc, .slice ha H.length hc, .int .i64 next]) (by simp [results,Tryz.results51,go_sem,d0,d1,d2,d3]) rfl ⟨⟨a,c,rfl,za HO1⟩,za hb1⟩
end WSp
end
end Go.Proofs.YtonffldjbmednaaGreatDoor
