/- Several texts of one claim in one file: WBegin8, WSpS17. -/
import Derived.Test.YtkighhofjmginaaGreatDoorWCp8
namespace Go.Proofs.YtkighhofjmginaaGreatDoor
section
set_option linter.unusedSimpArgs false
open Go.RowKit
namespace WSp
def begC (p:ByteArray) (R:Bool):Int:=if Pl.whyI p R=0 then 0 else if Pl.whyI p R=1 then 2 else 1
set_option maxRecDepth 100000 in
set_option maxHeartbeats 1000000 in
theorem begin_any (s:Pl.Sp) (p:ByteArray) (w:World) (hp:p.size≤1048576) (hok:zb0.OkS s 1048576) (hv:Mem.zc9 w s):
  Calls Tryz.prog 23 #[.agg s.cs, .string p] w fun e w'=>e= .returned (.int .i64 (begC p (Pl.zc2 s.next (s.N.map nr) s.M s.H Pl.wayB)))∧Below w.heap.size w w':=by
 have HX:=hide (fun W (b:Below w.heap.size w W)=>zi4 s W hok (hv.call b));have HR:=hide (fun W=>zf3.zz7 p W hp);generalize Pl.zc2 s.next (s.N.map nr) s.M s.H Pl.wayB=R at HX ⊢;clear hok hv;obtain ⟨ia,ic,N,ma,mc,M,ha,hc,H,next⟩:=s;unfold Pl.Sp.cs at HX ⊢;simp only at HX ⊢;have b0:=(Below.refl w.heap.size w).alloc (o:= .cells #[Value.slice ia N.length ic,Value.slice ma M.length mc,Value.slice ha H.length hc,Value.int .i64 next] 32) (Nat.le_refl _);have V0:=hide (Mem.Blk.new w #[Value.slice ia N.length ic,Value.slice ma M.length mc,Value.slice ha H.length hc,Value.int .i64 next] 32);by_cases hl:8000<p.size
 ·have HW:Hid (begC p R=2):=hide (by unfold begC Pl.whyI;rw [if_pos hl];rfl);have l1:(8000:Int)<(p.size:Int):=by omega
  clear HX HR;go_enter Tryz.func23,Tryz.ntmps23
  go_wp2
  go_ret
  exact ⟨by rw [za HW];rfl,b0⟩
 have l1:¬ (8000:Int)<(p.size:Int):=by omega
 have HWn:Hid ((R&&Pl.za0 p)=false→begC p R=1):=hide (fun h=>by unfold begC Pl.whyI;rw [if_neg hl,h];rfl);have HWy:Hid ((R&&Pl.za0 p)=true→begC p R=0):=hide (fun h=>by unfold begC Pl.whyI;rw [if_neg hl,h];rfl);generalize begC p R=C at HWn HWy ⊢;generalize Pl.za0 p=pb at HR HWn HWy;obtain ⟨a0,a1,a2,a3⟩:=jc4 (za V0);go_enter Tryz.func23,Tryz.ntmps23
 go_wp2_with fail
 generalize w.alloc (.cells #[Value.slice ia N.length ic,Value.slice ma M.length mc,Value.slice ha H.length hc,Value.int .i64 next] 32)=wA at b0 V0 a0 a1 a2 a3 ⊢;refine (za HX _ b0).mono ?_;rintro e w1 ⟨rfl,bX⟩;have b1:=b0.trans (bX.mono b0.size);clear HX bX V0 a0 a1 a2 a3 b0;cases R
 ·have HW:=hide (za HWn rfl);clear HWn HWy HR;go_wp2
  go_ret
  exact ⟨by rw [za HW];rfl,b1⟩
 go_wp2_with fail
 refine (za HR _).mono ?_;rintro e w2 ⟨rfl,bX⟩;have b2:=b1.trans (bX.mono b1.size);clear HR bX b1;cases pb
 ·have HW:=hide (za HWn rfl);clear HWn HWy;go_wp2
  go_ret
  exact ⟨by rw [za HW];rfl,b2⟩
 ·have HW:=hide (za HWy rfl);clear HWn HWy;go_wp2
  go_ret
  exact ⟨by rw [za HW];rfl,b2⟩
set_option maxRecDepth 100000 in
set_option maxHeartbeats 1000000 in
theorem ill_any (c:Int) (w:World):
  Calls Tryz.prog 24 #[.int .i64 c] w fun e w'=>e= .returned (.agg #[.slice none 0 0, .slice none 0 0, .slice none 0 0, .int .i64 0, .int .i64 0, .string ⟨#[]⟩, .int .i64 c])∧Below w.heap.size w w':=by
 have b0:=(Below.refl w.heap.size w).alloc (o:= .cells #[Value.slice none 0 0,Value.slice none 0 0,Value.slice none 0 0,Value.int .i64 0,Value.int .i64 0,Value.string ⟨#[]⟩,Value.int .i64 0] 34) (Nat.le_refl _);have V0:=hide (Mem.Blk.new w #[Value.slice none 0 0,Value.slice none 0 0,Value.slice none 0 0,Value.int .i64 0,Value.int .i64 0,Value.string ⟨#[]⟩,Value.int .i64 0] 34);go_enter Tryz.func24,Tryz.ntmps24
 go_upto_region 1 with fail
 generalize w.alloc (.cells #[Value.slice none 0 0,Value.slice none 0 0,Value.slice none 0 0,Value.int .i64 0,Value.int .i64 0,Value.string ⟨#[]⟩,Value.int .i64 0] 34)=wA at b0 V0 ⊢;obtain ⟨⟨d0,d1,d2,d3,d4,d5,d6⟩,f0,f1,f2,f3,f4,f5,f6⟩:=jf7 (za V0);go_wp2
 refine bodyPost_ret (v:= .agg #[Value.slice none 0 0,Value.slice none 0 0,Value.slice none 0 0,Value.int .i64 0,Value.int .i64 0,Value.string ⟨#[]⟩,Value.int .i64 c]) (by simp [results,Tryz.results24,go_sem,d0,d1,d2,d3,d4,d5,d6]) rfl ⟨rfl,?_⟩
 exact sc7 b0 (by omega)
theorem _root_.Go.Proofs.YtkighhofjmginaaGreatDoor.WCp8.Cpd.far {w W:World} {s u:Pl.Sp} {S1 Y:Nat} {lo hi:Nat→Nat} (h:WCp8.Cpd w W s u S1 lo hi) (k:Nat) (v:Value) (hY:Y<w.heap.size):WCp8.Cpd w (W.setCell ⟨Y,k,none⟩ v) s u S1 lo hi:=
 ⟨h.n,h.m,h.h,h.x,h.s1,h.iz.far k v (Nat.lt_of_lt_of_le hY h.s1),Mem.zb2 h.om _ _ (fun g hg=>by have :=(Mem.zb h.om g hg).1;show Y≠g;omega),Mem.zb2 h.oh _ _ (fun g hg=>by have :=(Mem.zb h.oh g hg).1;show Y≠g;omega),h.hm,h.hh,h.ne⟩
end WSp
end
section
open Go.RowKit
namespace WSp
set_option linter.unusedSimpArgs false in
set_option maxRecDepth 100000 in
set_option maxHeartbeats 2000000 in
theorem nestF_any (s:Pl.Sp) (d:Int) (w:World) (hl:s.N.length≤1048576) (hv:Mem.zg8 w s.ia s.N) (k:Nat) (x:Pl.Ns) (hx:s.N[k]? =some x) (hk:Pl.zd4 (s.N.map (·.d)) d=(k:Int)):
  Calls Tryz.prog 27 #[.agg s.cs, .int .i64 d] w fun e w'=>e= .returned (.slice x.a x.Is.length x.cap)∧Below w.heap.size w w':=by
 have HI:=hide (fun W (b:Below w.heap.size w W)=>inst_any s d W hl (Mem.zg0 hv b));rw [hk] at HI;obtain ⟨⟨b,o,hia,hb, -,q1⟩, -⟩:=hv k x hx;have hkl:k<s.N.length:=(List.getElem?_eq_some_iff.1 hx).1;clear hv hx hk hl;obtain ⟨ia,ic,N,ma,mc,M,ha,hc,H,next⟩:=s;simp only at hia hkl HI;subst hia;unfold Pl.Sp.cs at HI ⊢;simp only at HI ⊢;have y1:(k:Int)<(N.length:Int):=by omega
 have y2:(0:Int)≤(k:Int):=by omega
 have b0:Below w.heap.size w (w.alloc (.cells #[.slice (some ⟨b,o,none⟩) N.length ic, .slice ma M.length mc, .slice ha H.length hc, .int .i64 next] 32)):=(Below.refl _ _).alloc (Nat.le_refl _) _;have V0:=Mem.Blk.new w #[.slice (some ⟨b,o,none⟩) N.length ic, .slice ma M.length mc, .slice ha H.length hc, .int .i64 next] 32
 have MK:Hid (∀W',Below w.heap.size w W'→Mem.Blk W' w.heap.size #[.slice (some ⟨b,o,none⟩) N.length ic, .slice ma M.length mc, .slice ha H.length hc, .int .i64 next] 32→(W'.cell? ⟨w.heap.size,0,none⟩=some (.slice (some ⟨b,o,none⟩) N.length ic)∧W'.cell? ⟨w.heap.size,1,none⟩=some (.slice ma M.length mc)∧W'.cell? ⟨w.heap.size,2,none⟩=some (.slice ha H.length hc)∧W'.cell? ⟨w.heap.size,3,none⟩=some (.int .i64 next)∧W'.cell? ⟨b,o+k*2+1,none⟩=some (.slice x.a x.Is.length x.cap))):=hide fun W' b1 h=>⟨h.cell 0,h.cell 1,h.cell 2,h.cell 3,(b1.cell (p:=⟨b,_,none⟩) hb).trans q1⟩;go_enter Tryz.func27,Tryz.ntmps27
 go_wp2_with fail
 refine wp_region_held_drew (S:=fun W'=>W'.cell? ⟨w.heap.size,0,none⟩=some (.slice (some ⟨b,o,none⟩) N.length ic)∧W'.cell? ⟨w.heap.size,1,none⟩=some (.slice ma M.length mc)∧W'.cell? ⟨w.heap.size,2,none⟩=some (.slice ha H.length hc)∧W'.cell? ⟨w.heap.size,3,none⟩=some (.int .i64 next)∧W'.cell? ⟨b,o+k*2+1,none⟩=some (.slice x.a x.Is.length x.cap)) (by kernel_rfl) ?_ (fun hHeld=>?_)
 ·exact za MK _ (b0.trans ((bD _).mono b0.size)) (V0.call (bD _))
 have bel:=b0.trans ((bD (n:=(w.alloc (.cells #[.slice (some ⟨b,o,none⟩) N.length ic, .slice ma M.length mc, .slice ha H.length hc, .int .i64 next] 32)).heap.size) (w.alloc (.cells #[.slice (some ⟨b,o,none⟩) N.length ic, .slice ma M.length mc, .slice ha H.length hc, .int .i64 next] 32))).mono b0.size);have VV:=V0.call (bD _);generalize (w.alloc (.cells #[.slice (some ⟨b,o,none⟩) N.length ic, .slice ma M.length mc, .slice ha H.length hc, .int .i64 next] 32)).drew=D0 at hHeld bel VV ⊢;clear b0 V0;refine TB 0 ?_;refine TB 1 ?_;refine TB 2 ?_;refine TB 3 ?_;refine RN 4 fun K hK=>?_;go_simp
 refine (za HI _ bel).mono ?_;rintro e wX ⟨rfl,bX⟩;have bel2:=hide (bel.trans (bX.mono bel.size));have VV2:=VV.call bX;refine hK.out _ _ ?_ (fun hHeld=>?_)
 ·exact za MK _ (za bel2) VV2
 clear hK K bX VV bel
 try simp only [Act.put,kBs]
 refine TB 5 ?_;refine TB 6 ?_;refine TB 7 ?_;refine TB 8 ?_;refine wpAnyH_done (by kernel_rfl) ?_ _;clear hHeld VV2;go_wp2
 go_ret
 exact ⟨rfl,za bel2⟩
end WSp
end
end Go.Proofs.YtkighhofjmginaaGreatDoor
