/- Several texts of one claim in one file: WParS, WBase1S, WNames3, WWnQ, LayStr, WWnC, WWnD, MemRes, WFaceJ. -/
import Derived.Test.YtbomeifgfalmdaaGreatDoorWWnA
import Derived.Shelf.SortM.Plain
import Derived.Shelf.SortM.SortNone
import Derived.Shelf.SlicesG.CompactS
import Derived.Sort.OwnSorted
import Derived.Lib.RowBridge
set_option linter.unusedSimpArgs false
set_option maxRecDepth 100000
set_option maxHeartbeats 4000000
namespace Go.Proofs.YtbomeifgfalmdaaGreatDoor
section
open Go.RowKit
namespace zd1

theorem cut_any (s:ByteArray) (w:World) (hs:s.size≤maxLen):
  Calls Tryz.prog 105 #[.string s] w fun e w'=>e= .returned (.int .i64 (Pl.zd5 s s.size))∧w'=w:=by
 unfold maxLen at hs;go_enter Tryz.func105,Tryz.ntmps105
 go_wp2
 go_loop [3,4] (fun x i=>∃k:Nat,k≤s.size∧i= .int .i64 (k:Int)∧x= .int .i64 (Pl.zd5 s k)) (fun _ i=>s.size - (intOf i).toNat)
 case atStart=>exact ⟨0,Nat.zero_le _,rfl,rfl⟩
 case round=>
  obtain ⟨k,hk,rfl,rfl⟩:=hrel;by_cases hlt:k<s.size
  ·by_cases hb:s[k].toNat=47
   ·have H:=hide (Pl.slash_hit hlt hb);have t1:((s[k].toNat:Int)==47)=true:=by rw [beq_iff_eq];omega
    clear hb;go_wp2
    go_round
    case rel=>exact ⟨k+1,by omega,by go_num,by rw [za H]⟩
    case measure=>simp [intOf];omega
   ·have H:=hide (Pl.yk8 hlt hb);have t1:((s[k].toNat:Int)==47)=false:=by rw [beq_eq_false_iff_ne];omega
    clear hb;go_wp2
    go_round
    case rel=>exact ⟨k+1,by omega,by go_num,by rw [za H]⟩
    case measure=>simp [intOf];omega
  ·obtain rfl:k=s.size:=by omega
   go_wp2
   go_ret
   exact ⟨rfl,rfl⟩

theorem zr7 (s:ByteArray) (w:World) (hs:s.size≤maxLen):
  Calls Tryz.prog 81 #[.string s] w fun e w'=>e= .returned (.string (Pl.parent s))∧w'=w:=by
 have hb:=Pl.slash_lt s s.size;have hc:=hide (cut_any s w hs);unfold maxLen at hs;have E0:Hid (Pl.zd5 s s.size<0→Pl.parent s=⟨#[]⟩):=fun h=>if_pos h;have E1:Hid (¬Pl.zd5 s s.size<0→Pl.parent s=s.extract 0 (Pl.zd5 s s.size).toNat):=fun h=>if_neg h;generalize Pl.zd5 s s.size=k at hc hb E0 E1;by_cases h:k<0
 ·have E:=hide (E0.out h);clear E0 E1;go_enter Tryz.func81,Tryz.ntmps81
  go_wp2_with (go_at_call 105;refine (za hc).mono ?_;rintro e w' ⟨rfl,hw⟩;obtain rfl:=hw.symm)
  go_ret
  exact ⟨zq2 (za E).symm,rfl⟩
 ·have E:=hide (E1.out h);have t1:0≤k:=by omega
  have t2:k≤(s.size:Int):=by omega
  clear E0 E1;go_enter Tryz.func81,Tryz.ntmps81
  go_wp2_with (go_at_call 105;refine (za hc).mono ?_;rintro e w' ⟨rfl,hw⟩;obtain rfl:=hw.symm)
  go_ret
  exact ⟨zq2 (za E).symm,rfl⟩
end zd1
end
section
open Go.RowKit
namespace zd1
theorem base1_any (s:ByteArray) (w:World) (hs:s.size≤maxLen):
  Calls Tryz.prog 82 #[.string s] w fun e w'=>e= .returned (.string (Pl.base s))∧w'=w:=by
 have hb:=Pl.slash_lt s s.size;have hc:=hide (fun W=>cut_any s W hs);unfold maxLen at hs;have E:Hid (Pl.base s=s.extract (Pl.zd5 s s.size+1).toNat s.size):=rfl;generalize Pl.base s=R at E ⊢;generalize Pl.zd5 s s.size=k at hc hb E;have t1:0≤k+1:=by omega
 have t2:k+1≤(s.size:Int):=by omega
 go_enter Tryz.func82,Tryz.ntmps82
 go_wp2_with (go_at_call 105;refine (za hc _).mono ?_;rintro e w' ⟨rfl,hw⟩;obtain rfl:=hw.symm)
 go_ret
 exact ⟨zq2 (za E).symm,rfl⟩
end zd1
end
section
open Go.RowKit
namespace zn4
theorem zq6:(Tryz.prog.info? 9).map (fun i=>(i.zero,i.size,i.bytes))=some (some (.string ⟨#[]⟩),1,16):=by kernel_rfl
theorem own_snoc {w:World} {B:Nat} {v:Value} {K:List ByteArray} {t:ByteArray} (h:w.ownsRow B 9 1 v (K.length+1) (K.map Value.string++[.string t])):w.ownsRow B 9 1 v (K++[t]).length ((K++[t]).map Value.string):=by
 rw [List.map_append,List.length_append];exact h
theorem l03_any (a:Option Addr) (cap:Nat) (L:List Pl.Nd) (p:ByteArray) (w:World) (hl:L.length≤1048576) (hv:Mem.zb1 w a L) (hok:∀n∈L,n.path.size≤1048576∧n.data.size≤1048576):
  Calls Tryz.prog 49 #[.agg #[.slice a L.length cap], .string p] w fun e w'=>∃v,e= .returned v∧w'.ownsRow w.heap.size 9 1 v (Pl.zb2 p L).length ((Pl.zb2 p L).map Value.string)∧Below w.heap.size w w':=by
 obtain ⟨i0,hi,hz0,hz1,hz2⟩:=info_parts zq6;have HV:=hide hv;have HO:=hide hok;have b0:Below w.heap.size w ((w.alloc (.cells #[.slice a L.length cap] 107)).alloc (.cells #[] 9)):=((Below.refl _ _).alloc (Nat.le_refl _) _).alloc (by simp) _;have V0:=(Mem.Blk.new w #[.slice a L.length cap] 107).alloc (.cells #[] 9)
 have O0:((w.alloc (.cells #[.slice a L.length cap] 107)).alloc (.cells #[] 9)).ownsRow (w.heap.size+1) 9 1 (.slice (some ⟨w.heap.size+1,0,none⟩) 0 0) (Pl.zb2 p (L.take 0)).length ((Pl.zb2 p (L.take 0)).map Value.string):=
  ⟨rfl, .inr ⟨w.heap.size+1,0,#[],rfl,Nat.le_refl _,Mem.zh9 _ _ _,Nat.le_refl _,Nat.zero_le _,rfl,rfl⟩⟩
 have HB0:=hide b0;have HV0:=hide V0;have HO0:=hide O0;clear hv hok b0 V0 O0;go_enter Tryz.func49,Tryz.ntmps49
 go_wp2
 go_loopw [5,6] (fun v i wr=>∃k:Nat,k≤L.length∧i= .int .i64 (k:Int)∧Hid (Below w.heap.size w wr)∧Hid (Mem.Blk wr w.heap.size #[.slice a L.length cap] 107)∧Hid (wr.ownsRow (w.heap.size+1) 9 1 v (Pl.zb2 p (L.take k)).length ((Pl.zb2 p (L.take k)).map Value.string))) (fun _ i _=>L.length - (intOf i).toNat)
 case atStart=>exact ⟨0,Nat.zero_le _,rfl,HB0,HV0,HO0⟩
 case round=>
  obtain ⟨k,hk,rfl,HB,HO1,HW⟩:=hrel;clear HB0 HV0 HO0;have c1:=(za HO1).cell 0;simp only [kA0,kA1] at c1;by_cases hlt:k<L.length
  ·obtain ⟨n,hn⟩:∃n,L[k]? =some n:=⟨_,List.getElem?_eq_getElem hlt⟩;obtain ⟨b,o,rfl,hb,q0,q1,q2,q3,q4⟩:=(Mem.za9 (za HV) (za HB)) k n hn;have y1:(k:Int)<(L.length:Int):=by omega
   have y3:(0:Int)≤(k:Int):=by omega
   have hno:=(za HO n (List.mem_of_getElem? hn)).1;have hpa:=hide (fun W=>zd1.zr7 n.path W (by unfold maxLen;omega));have hba:=hide (fun W=>zd1.base1_any n.path W (by unfold maxLen;omega));have HLEN:=hide (Pl.kids_len p L k);by_cases hk0:Pl.parent n.path=p
   ·have HK:=hide (Pl.kids_in hn hk0);rw [hk0] at hpa;generalize Pl.base n.path=BB at hba HK;clear hn hk0 hno;obtain ⟨qp,qk,qd,qt,qm⟩:=n;simp only at q0 q1 q2 q3 q4 hpa hba;have HSZ:=hide (za HO1).lt;have HLT:=hide ((za HW).lt);go_wp2_with (first |(go_at_call 81;refine (za hpa _).mono ?_;rintro e w' ⟨rfl,hw⟩;obtain rfl:=hw.symm)|(go_at_call 82;refine (za hba _).mono ?_;rintro e w' ⟨rfl,hw⟩;obtain rfl:=hw.symm)|(at_builtin;refine wpList_append_own _ rfl _ _ 33 rfl (w.heap.size+1) 9 i0 (.string ⟨#[]⟩) 1 16 Tryz.underlying33 hi hz0 hz1 hz2 rfl (by decide) _ _ _ rfl ((za HW).alloc _) ⟨wr.heap.size,0,none⟩ 1 1 [.string BB] rfl rfl (Mem.ze6 _ _ _) (fun u hu=>by simp at hu;subst hu;rfl) (by have :=za HLEN;unfold maxLen;omega) (by have :=za HLEN;omega) (by have :=za HSZ;simp;omega) ?_))
    intro v' wZ hownZ hgrow _;have OW:=hide (show wZ.ownsRow (w.heap.size+1) 9 1 v' (Pl.zb2 p (L.take (k+1))).length ((Pl.zb2 p (L.take (k+1))).map Value.string) by rw [za HK];exact own_snoc hownZ);have BZ:=hide (((za HB).alloc (za HB).size (.cells #[.string BB] 9)).grown hgrow (by have :=(za HB).size;simp;omega) (fun q hq=>by have :=(za HLT q hq).1;omega));have VZ:=hide (((za HO1).alloc (.cells #[.string BB] 9)).grown hgrow (fun e=>by have :=(za HLT _ e.symm).1;omega));clear hownZ hgrow HB HO1 HW hpa hba q0 q1 q2 q3 q4;go_wp2
    go_roundw
    case rel=>exact ⟨k+1,by omega,by go_num,BZ,VZ,OW⟩
    case measure=>simp [intOf];omega
   ·have HK:=hide (Pl.kids_out hn hk0);have t1:=tl_eq hk0;generalize Pl.parent n.path=PP at hpa t1;clear hn hk0 hno hba;obtain ⟨qp,qk,qd,qt,qm⟩:=n;simp only at q0 q1 q2 q3 q4 hpa;rw [←za HK] at HW;go_wp2_with (go_at_call 81;refine (za hpa _).mono ?_;rintro e w' ⟨rfl,hw⟩;obtain rfl:=hw.symm)
    go_roundw
    case rel=>exact ⟨k+1,by omega,by go_num,HB,HO1,HW⟩
    case measure=>simp [intOf];omega
  ·obtain rfl:k=L.length:=by omega
   rw [List.take_length] at HW;have y1:¬ ((L.length:Int)<(L.length:Int)):=by omega
   go_wp2
   go_ret
   exact ⟨_,rfl,Mem.zg (za HW) (by omega),za HB⟩
end zn4
end
section
open Go.RowKit Go.Shelf Go.Maps
attribute [local go_sem] Oper.semAt_some
namespace Rng
def Cs (D:Nat) (W:World) (j:Nat):Prop:=D≤j∧j<W.heap.size∧(j=D∨∀cur T fz,W.heap[j]? =some (.cells cur T fz)→T=9)
theorem cs_good {w0:World} {D:Nat} (h:w0.heap.size≤D):Good w0 (D+1) (Cs D):=by
 refine ⟨fun W W' row hB g hr j hj=>?_,fun W hB j hj=>⟨Nat.le_trans h hj.1,hj.2.1⟩,fun W y cs T hB hb hT hc=>?_⟩
 ·by_cases hlt:j<W.heap.size
  ·refine .inl ⟨hj.1,hlt,?_⟩
   rcases hj.2.2 with e|e
   ·exact .inl e
   ·refine .inr (fun cur T fz ho=>?_);by_cases hjr:row=some j
    ·obtain ⟨o,h1,h2⟩:=hr j hjr;rw [ho] at h1;cases h1
     cases h2
    ·exact e cur T fz ((g.block j hlt (fun e2=>hjr e2.symm)).trans ho)
  ·exact .inr (by omega)
 ·rcases hc.2.2 with e|e
  ·omega
  ·exact hT (e cs T (0,0) hb)
theorem cs_kq {D:Nat} {R:Nat→Prop} {W W':World} {row:Option Nat} (g:W.grownBy W' row) (hr:∀r,row=some r→Cs D W r∧∃o:Obj,W.heap[r]? =some o∧o.isCells=true):Kq (Cs D) R W W':=by
 refine ⟨g.size,fun j o hj hc hn=>?_,fun j hj=>?_⟩
 ·refine (g.block j (Array.getElem?_eq_some_iff.1 hj).1 (fun e=>?_)).trans hj;obtain ⟨h1,o',h2,h3⟩:=hr j e.symm;rw [hj] at h2;cases h2
  exact hc h3 h1
 ·by_cases hlt:j<W.heap.size
  ·by_cases hjr:row=some j
   ·exact .inl (hr j hjr).1
   ·refine .inl ⟨hj.1,hlt,?_⟩
    rcases hj.2.2 with e|e
    ·exact .inl e
    ·exact .inr (fun cur T fz ho=>e cur T fz ((g.block j hlt (fun e2=>hjr e2.symm)).trans ho))
  ·exact .inr (by omega)
theorem yg2 {W:World} {B:Nat} {v:Value} {K:List ByteArray} (h:ze3.Own W B v K):∀g,v.ownBlock=some g→∃cur,W.heap[g]? =some (.cells cur 9 (0,0)):=fun g hg=>by
 rcases h.2 with ⟨rfl,_⟩|⟨g',cap,cur,rfl,_,hh,_⟩
 ·cases hg
 ·cases hg;exact ⟨cur,hh⟩
def Aq (w:World) (D:Nat) (ys:List ByteArray) (W:World):Prop:=∃v,Below w.heap.size w W∧Mem.Blk W D #[v] 33∧ze3.Own W (D+1) v ys
theorem Aq.grown {w W W':World} {D:Nat} {ys:List ByteArray} {row:Option Nat} (h:Aq w D ys W) (hD:w.heap.size≤D) (g:W.grownBy W' row) (hr:∀r,row=some r→D≤r∧∃o:Obj,W.heap[r]? =some o∧o.isCells=false):Aq w D ys W':=by
 obtain ⟨v,h1,h2,h3⟩:=h;refine ⟨v,h1.grown g h1.size (fun r e=>by have :=(hr r e).1;omega),zy9 h2 g (fun r e=>(hr r e).2),h3.grown g (fun q hq e=>?_)⟩;obtain ⟨o,ho,hc⟩:=(hr q e.symm).2;obtain ⟨cur,hh⟩:=yg2 h3 q hq;rw [hh] at ho;cases ho
 cases hc
theorem append_names (w0:World) (L:List Pl.Nd) (K:Pl.Fx) (qm:Nat) (a:Option Addr) (cap:Nat) (q:ByteArray) (nb pb:Nat) (w:World) (h0:w0.heap.size≤w.heap.size)
  (hx:(Pl.Fx.cons L K .nil).okX) (hm:Mem.ownM w0 qm L) (hl:Mem.layX w0 (fun j=>j<w0.heap.size) K (.slice a K.len cap)) (hk:Keep w0 w) (hnb:Mem.Blk w nb #[.map (some qm), .int .i64 (K.len:Int), .slice a K.len cap] 135) (hpb:Mem.Blk w pb #[.string q] 9) (h12:(Pl.za8 (.cons L K .nil)).length≤12):
  Calls Tryz.prog 164 #[.slice none 0 0, .func (.func 123) #[] #[.pointer (some ⟨nb,0,none⟩), .pointer (some ⟨pb,0,none⟩)]] w fun e w'=>∃v ys,e= .returned v∧(∀t,t∈ys↔∃M∈Pl.za8 (.cons L K .nil),t∈Pl.zb2 q M)∧ys.length≤480∧ze3.Own w' w.heap.size v ys∧Below w.heap.size w w':=by
 obtain ⟨i0,hi,hz0,hz1,hz2⟩:=info_parts zn4.zq6;have b1:Below w.heap.size w (w.alloc (.cells #[.slice none 0 0] 33)):=(Below.refl _ _).alloc (Nat.le_refl _) _;have z1:(w.alloc (.cells #[.slice none 0 0] 33)).heap.size=w.heap.size+1:=by simp
 have A1:Hid (Aq w w.heap.size [] (w.alloc (.cells #[.slice none 0 0] 33))):=hide ⟨_,b1,Mem.Blk.new _ _ _,rfl, .inl ⟨rfl,rfl⟩⟩;have SQ:=hide (names_ok w0 (Cs w.heap.size) (w.heap.size+1) (cs_good h0) 4 (fun j=>False∨j=(w.alloc (.cells #[.slice none 0 0] 33)).heap.size+1) L K qm a cap q nb pb (w.alloc (.cells #[.slice none 0 0] 33)) (by rw [z1];exact Nat.le_refl _) (fun j h=>by rcases h with h|h;exact h.elim;rw [z1] at h;omega) hx hm hl (hk.trans (Keep.of_below b1)) (hnb.call b1) (hpb.call b1) (fun W hW hc=>by have :=hpb.lt;have :=hc.1;omega));clear hx hm hl hk hnb hpb b1;refine (callsIn_wide (n:=5)).1 ?_;refine callsIn_of_wp_marks Tryz.func164 rfl trivial ?_ rfl
 simp only [Tryz.ntmps164,List.size_toArray,List.length_cons,List.length_nil,Nat.reduceAdd,Nat.reduceSub,Array.replicate_succ,Array.replicate_zero,List.push_toArray,List.append_toArray,List.nil_append,List.cons_append]
 gi_wp2_with fail
 generalize w.alloc (.cells #[.slice none 0 0] 33)=w1 at A1 SQ z1 ⊢
 refine range rfl (fun h=>(by cases h)) (gf:=123) (lb:=#[.pointer (some ⟨nb,0,none⟩), .pointer (some ⟨pb,0,none⟩)]) rfl trivial (enters_of Tryz.func123 (by kernel_rfl) rfl) (C:=Cs w.heap.size) (R:=fun _=>False) (za SQ) (Below.refl _ _) (fun _=>rfl) (by rw [z1];exact (cs_good h0).step) (fun j h=>h.elim)
  (fun ys W=>Aq w w.heap.size ys W∧ys.length≤480)
  (fun _ _ _=>False)
  (fun xs A A' row h g hr=>⟨h.1.grown (Nat.le_refl _) g (fun r e=>⟨by have :=(hr r e).1;omega,(hr r e).2⟩),h.2⟩)
  (fun c xs A A' row h g hr=>h)
  ⟨za A1,Nat.zero_le _⟩
  (fun x a'' _=>a''={ tmps:=#[.slice none 0 0, .func (.func 123) #[] #[.pointer (some ⟨nb,0,none⟩), .pointer (some ⟨pb,0,none⟩)], .pointer (some ⟨w.heap.size,0,none⟩),undef, .slice none 0 0, .string x, .func (.func 123) #[] #[.pointer (some ⟨nb,0,none⟩), .pointer (some ⟨pb,0,none⟩)], .string x,undef,undef,undef,undef,undef],defers:=[] })
  (fun x a'' _ A A' row h g hr=>h) ?assign ?body ?done ?stop
 case assign=>
  intro l' xs x W'' Kz hI hz hK
  gi_wp2
  exact hK _ _ (Kq.refl _ _ _) hI rfl
 case body=>
  rintro l' xs x a'' W'' hI rfl hlen hz;obtain ⟨⟨v,i1,i2,i3⟩,i4⟩:=hI;have hxl:(xs++[x]).length≤480:=by rw [List.length_append,List.length_singleton];omega
  have d0:=i2.cell 0;have f0:=i2.fr 0;simp only [kA0,kA1] at d0;have HI:=hide (⟨i1,i2,i3⟩:_∧_∧_);have hsz:w.heap.size+1≤W''.heap.size:=by omega
  clear i1 i2 i3
  gi_wp2_with (gi_at_builtin;refine wpListIn_append_own _ rfl _ _ 33 rfl (w.heap.size+1) 9 i0 (.string ⟨#[]⟩) 1 16 Tryz.underlying33 hi hz0 hz1 hz2 rfl (by decide) _ _ _ rfl ((za HI).2.2.alloc _) ⟨W''.heap.size,0,none⟩ 1 1 [.string x] rfl rfl (Mem.ze6 _ _ _) (fun u hu=>by simp at hu;subst hu;rfl) (by unfold maxLen;omega) (by omega) (by simp;omega) ?_)
  intro v' wZ hown hgrow _
  obtain ⟨sa,sn,sc,rfl⟩:∃sa sn sc,v'= .slice sa sn sc:=by
   rcases hown.2 with ⟨rfl,_⟩|⟨g',cap',cur,rfl,_⟩
   ·exact ⟨_,_,_,rfl⟩
   ·exact ⟨_,_,_,rfl⟩
  have g1:W''.grownBy (W''.alloc (.cells #[.string x] 9)) none:=World.grownBy_alloc _ _ _;have B1:=(za HI).2.1.alloc (.cells #[.string x] 9);have O1:ze3.Own (W''.alloc (.cells #[.string x] 9)) (w.heap.size+1) v xs:=(za HI).2.2.alloc _;have b1:=(za HI).1.alloc (za HI).1.size (.cells #[.string x] 9);have BZ:=B1.grown hgrow (fun e=>by have :=(O1.lt _ e.symm).1;omega);have bZ:=b1.grown hgrow b1.size (fun r e=>by have :=(O1.lt _ e).1;omega);have OZ:ze3.Own wZ (w.heap.size+1) (.slice sa sn sc) (xs++[x]):=zn4.own_snoc hown;have g3:wZ.grownBy (wZ.setCell ⟨w.heap.size,0,none⟩ (.slice sa sn sc)) (some w.heap.size):=grownBy_setCell' _ _ _;have B3:=BZ.put 0 (.slice sa sn sc);simp only [kB3,kB4] at B3;have O3:=OZ.grown g3 (fun g e h=>by have :=(OZ.lt g e).1;cases h;omega)
  have b3:=bZ.setCell (Nat.le_refl _) (.slice sa sn sc) (p:=⟨w.heap.size,0,none⟩);have c3:=BZ.cell 0;have f3:=BZ.fr 0;simp only [kA0,kA1] at c3
  have KQ:=hide ((cs_kq (D:=w.heap.size) (R:=fun _=>False) g1 (fun r e=>by cases e)).trans ((cs_kq hgrow (fun r e=>by
   obtain ⟨cur,hh⟩:=yg2 O1 r e;have h5:=O1.lt r e
   exact ⟨⟨by omega,h5.2, .inr (fun cur' T fz ho=>by rw [hh] at ho;cases ho;rfl)⟩,_,hh,rfl⟩)).trans (cs_kq g3 (fun r e=>by
   cases e
   exact ⟨⟨Nat.le_refl _,BZ.lt, .inl rfl⟩,_,BZ,rfl⟩))))
  have AQ:=hide (⟨⟨(.slice sa sn sc),b3,B3,O3⟩,hxl⟩:Aq w w.heap.size (xs++[x]) _∧_);clear g1 B1 O1 b1 BZ bZ OZ g3 B3 O3 b3 HI hown hgrow hxl d0 f0
  gi_wp2
  exact ⟨za KQ,za AQ⟩
 case done=>
  rintro D xs W hD hS hI hK;obtain ⟨⟨v,i1,i2,i3⟩,i4⟩:=hI;have d0:=i2.cell 0;simp only [kA0,kA1] at d0;have HI:=hide (⟨i1,i3⟩:_∧_);have HS:=hide hS;clear i1 i2 i3 hS
  gi_wp2
  refine ⟨by simp, .inl ⟨_,_,rfl,run_takeDeferred hK,?_⟩⟩;refine ⟨_,results_tmp rfl _ _ _,v,xs,rfl,za HS,i4,?_,(za HI).1.grown (grownBy_putObj' _ _ _) (za HI).1.size (fun r e=>by cases e;omega)⟩;refine Mem.zg ((za HI).2.grown (grownBy_putObj' _ _ _) (fun g e h=>?_)) (by omega);cases h
  obtain ⟨cur,hh⟩:=yg2 (za HI).2 _ e;rw [hK] at hh;cases hh
 case stop=>
  rintro D c xs W _ _ h _;exact h.elim
end Rng
end
section
open Go.Shelf
namespace LayStr
def sortR:Go.Shelf.Ren:=⟨fun |6=>146|8=>166|9=>165|19=>182|20=>183|21=>173|22=>174|23=>175|24=>176|25=>177|26=>178|27=>179|28=>180|29=>181|31=>187|32=>188|36=>186|37=>189|38=>190|39=>191|41=>194|n=>n,fun |0=>0|3=>3|4=>4|5=>5|9=>9|26=>33|27=>33|29=>9|32=>270|35=>281|36=>282|41=>286|44=>289|46=>291|53=>295|57=>299|63=>302|64=>303|n=>n,fun n=>n⟩
theorem sortL:SlLaysM.n6 Tryz.prog sortR where
 mixed:=by kernel_rfl
 f6:=⟨ "slices.Sort[[]string,string]",by decide,Tryz.func146.trans (congrArg some (by kernel_rfl))⟩
 f8:=Tryz.func166.trans (congrArg some (by kernel_rfl))
 f9:=⟨ "slices.pdqsortOrdered[string]",by decide,Tryz.func165.trans (congrArg some (by kernel_rfl))⟩
 f19:=Tryz.func182.trans (congrArg some (by kernel_rfl))
 f20:=Tryz.func183.trans (congrArg some (by kernel_rfl))
 f21:=⟨ "slices.insertionSortOrdered[string]",by decide,Tryz.func173.trans (congrArg some (by kernel_rfl))⟩
 f22:=⟨ "slices.heapSortOrdered[string]",by decide,Tryz.func174.trans (congrArg some (by kernel_rfl))⟩
 f23:=⟨ "slices.breakPatternsOrdered[string]",by decide,Tryz.func175.trans (congrArg some (by kernel_rfl))⟩
 f24:=⟨ "slices.choosePivotOrdered[string]",by decide,Tryz.func176.trans (congrArg some (by kernel_rfl))⟩
 f25:=⟨ "slices.reverseRangeOrdered[string]",by decide,Tryz.func177.trans (congrArg some (by kernel_rfl))⟩
 f26:=⟨ "slices.partialInsertionSortOrdered[string]",by decide,Tryz.func178.trans (congrArg some (by kernel_rfl))⟩
 f27:=⟨ "cmp.Less[string]",by decide,Tryz.func179.trans (congrArg some (by kernel_rfl))⟩
 f28:=⟨ "slices.partitionEqualOrdered[string]",by decide,Tryz.func180.trans (congrArg some (by kernel_rfl))⟩
 f29:=⟨ "slices.partitionOrdered[string]",by decide,Tryz.func181.trans (congrArg some (by kernel_rfl))⟩
 f31:=Tryz.func187.trans (congrArg some (by kernel_rfl))
 f32:=Tryz.func188.trans (congrArg some (by kernel_rfl))
 f36:=⟨ "slices.siftDownOrdered[string]",by decide,Tryz.func186.trans (congrArg some (by kernel_rfl))⟩
 f37:=⟨ "slices.medianAdjacentOrdered[string]",by decide,Tryz.func189.trans (congrArg some (by kernel_rfl))⟩
 f38:=⟨ "slices.medianOrdered[string]",by decide,Tryz.func190.trans (congrArg some (by kernel_rfl))⟩
 f39:=⟨ "cmp.isNaN[string]",by decide,Tryz.func191.trans (congrArg some (by kernel_rfl))⟩
 f41:=⟨ "slices.order2Ordered[string]",by decide,Tryz.func194.trans (congrArg some (by kernel_rfl))⟩
 t0:=Tryz.underlying0
 a0:=Tryz.isAgg0
 z0:=Tryz.sizeOf0
 v0:=Tryz.zeroValue0
 t3:=Tryz.underlying3
 a3:=Tryz.isAgg3
 z3:=Tryz.sizeOf3
 v3:=Tryz.zeroValue3
 t4:=Tryz.underlying4
 a4:=Tryz.isAgg4
 z4:=Tryz.sizeOf4
 v4:=Tryz.zeroValue4
 t5:=Tryz.underlying5
 a5:=Tryz.isAgg5
 z5:=Tryz.sizeOf5
 v5:=Tryz.zeroValue5
 t9:=Tryz.underlying9
 a9:=Tryz.isAgg9
 z9:=Tryz.sizeOf9
 v9:=Tryz.zeroValue9
 t26:=Tryz.underlying33
 a26:=Tryz.isAgg33
 z26:=Tryz.sizeOf33
 v26:=Tryz.zeroValue33
 t27:=Tryz.underlying33
 a27:=Tryz.isAgg33
 z27:=Tryz.sizeOf33
 v27:=Tryz.zeroValue33
 t29:=Tryz.underlying9
 a29:=Tryz.isAgg9
 z29:=Tryz.sizeOf9
 v29:=Tryz.zeroValue9
 t32:=Tryz.underlying270
 a32:=Tryz.isAgg270
 z32:=Tryz.sizeOf270
 v32:=Tryz.zeroValue270
 t35:=Tryz.underlying281
 a35:=Tryz.isAgg281
 z35:=Tryz.sizeOf281
 v35:=Tryz.zeroValue281
 t36:=Tryz.underlying282
 a36:=Tryz.isAgg282
 z36:=Tryz.sizeOf282
 v36:=Tryz.zeroValue282
 t41:=Tryz.underlying286
 a41:=Tryz.isAgg286
 z41:=Tryz.sizeOf286
 v41:=Tryz.zeroValue286
 t44:=Tryz.underlying289
 a44:=Tryz.isAgg289
 z44:=Tryz.sizeOf289
 v44:=Tryz.zeroValue289
 t46:=Tryz.underlying291
 a46:=Tryz.isAgg291
 z46:=Tryz.sizeOf291
 v46:=Tryz.zeroValue291
 t53:=Tryz.underlying295
 a53:=Tryz.isAgg295
 z53:=Tryz.sizeOf295
 v53:=Tryz.zeroValue295
 t57:=Tryz.underlying299
 a57:=Tryz.isAgg299
 z57:=Tryz.sizeOf299
 v57:=Tryz.zeroValue299
 t63:=Tryz.underlying302
 a63:=Tryz.isAgg302
 z63:=Tryz.sizeOf302
 v63:=Tryz.zeroValue302
 t64:=Tryz.underlying303
 a64:=Tryz.isAgg303
 z64:=Tryz.sizeOf303
 v64:=Tryz.zeroValue303
def compactR:Go.Shelf.Ren:=⟨fun |44=>121|n=>n,fun |0=>0|3=>3|4=>4|25=>33|26=>9|n=>n,fun n=>n⟩
theorem compactL:SlLaysN.n44 Tryz.prog compactR where
 mixed:=by kernel_rfl
 f44:=⟨ "slices.Compact[[]string,string]",by decide,Tryz.func121.trans (congrArg some (by kernel_rfl))⟩
 t0:=Tryz.underlying0
 a0:=Tryz.isAgg0
 z0:=Tryz.sizeOf0
 v0:=Tryz.zeroValue0
 t3:=Tryz.underlying3
 a3:=Tryz.isAgg3
 z3:=Tryz.sizeOf3
 v3:=Tryz.zeroValue3
 t4:=Tryz.underlying4
 a4:=Tryz.isAgg4
 z4:=Tryz.sizeOf4
 v4:=Tryz.zeroValue4
 t25:=Tryz.underlying33
 a25:=Tryz.isAgg33
 z25:=Tryz.sizeOf33
 v25:=Tryz.zeroValue33
 t26:=Tryz.underlying9
 a26:=Tryz.isAgg9
 z26:=Tryz.sizeOf9
 v26:=Tryz.zeroValue9
 i26:=by kernel_rfl
end LayStr
end
section
open Go.RowKit Go.Shelf Go.Maps Go.Sort
namespace Rng
def bl (ys:List ByteArray):List (List UInt8):=ys.map (fun t=>t.data.toList)
theorem bl_enc (ys:List ByteArray):(bl ys).map encStr=ys.map Value.string:=by
 rw [bl,List.map_map];refine List.map_congr_left (fun t _=>?_);show Value.string ⟨t.data.toList.toArray⟩=_;rw [Array.toArray_toList]
theorem collect_names (w0:World) (L:List Pl.Nd) (K:Pl.Fx) (qm:Nat) (a:Option Addr) (cap:Nat) (q:ByteArray) (nb pb:Nat) (w:World) (h0:w0.heap.size≤w.heap.size)
  (hx:(Pl.Fx.cons L K .nil).okX) (hm:Mem.ownM w0 qm L) (hl:Mem.layX w0 (fun j=>j<w0.heap.size) K (.slice a K.len cap)) (hk:Keep w0 w) (hnb:Mem.Blk w nb #[.map (some qm), .int .i64 (K.len:Int), .slice a K.len cap] 135) (hpb:Mem.Blk w pb #[.string q] 9) (h12:(Pl.za8 (.cons L K .nil)).length≤12):
  Calls Tryz.prog 145 #[.func (.func 123) #[] #[.pointer (some ⟨nb,0,none⟩), .pointer (some ⟨pb,0,none⟩)]] w fun e w'=>∃v ys,e= .returned v∧(∀t,t∈ys↔∃M∈Pl.za8 (.cons L K .nil),t∈Pl.zb2 q M)∧ys.length≤480∧ze3.Own w' w.heap.size v ys∧Below w.heap.size w w':=by
 have HA:=hide (append_names w0 L K qm a cap q nb pb w h0 hx hm hl hk hnb hpb h12);clear hx hm hl hk hnb hpb h12;go_enter Tryz.func145,Tryz.ntmps145
 go_wp2_with (go_at_call 164;refine (za HA).mono ?_;rintro e w1 ⟨v,ys,rfl,r1,r2,r3,r4⟩)
 go_ret
 exact ⟨v,ys,rfl,r1,r2,r3,r4⟩
theorem sorted_names (w0:World) (L:List Pl.Nd) (K:Pl.Fx) (qm:Nat) (a:Option Addr) (cap:Nat) (q:ByteArray) (nb pb:Nat) (w:World) (h0:w0.heap.size≤w.heap.size)
  (hx:(Pl.Fx.cons L K .nil).okX) (hm:Mem.ownM w0 qm L) (hl:Mem.layX w0 (fun j=>j<w0.heap.size) K (.slice a K.len cap)) (hk:Keep w0 w) (hnb:Mem.Blk w nb #[.map (some qm), .int .i64 (K.len:Int), .slice a K.len cap] 135) (hpb:Mem.Blk w pb #[.string q] 9) (h12:(Pl.za8 (.cons L K .nil)).length≤12):
  Calls Tryz.prog 122 #[.func (.func 123) #[] #[.pointer (some ⟨nb,0,none⟩), .pointer (some ⟨pb,0,none⟩)]] w fun e w'=>∃v ys,e= .returned v∧(∀t,t∈ys↔∃M∈Pl.za8 (.cons L K .nil),t∈Pl.zb2 q M)∧ys.length≤480∧w'.ownsRow w.heap.size 9 1 v ys.length (((bl ys).mergeSort fun x y=>decide (x≤y)).map encStr)∧Below w.heap.size w w':=by
 have HA:=hide (collect_names w0 L K qm a cap q nb pb w h0 hx hm hl hk hnb hpb h12);clear hx hm hl hk hnb hpb h12;go_enter Tryz.func122,Tryz.ntmps122
 go_wp2_with (go_at_call 145;refine (za HA).mono ?_;rintro e w1 ⟨v,ys,rfl,r1,r2,r3,r4⟩)
 have hlen:(bl ys).length=ys.length:=by rw [bl,List.length_map]
 rcases r3.2 with ⟨rfl,hz⟩|⟨g,cp,cur,rfl,hbase,hgb,q1,q2,q3,q4⟩
 ·obtain rfl:ys=[]:=List.eq_nil_of_length_eq_zero hz;go_wp2_with (go_at_call 146;refine (AnyM.slices_Sort_string_none LayStr.sortL none 0 w1).mono ?_;rintro e w2 ⟨rfl,rfl⟩)
  go_ret
  exact ⟨_,[],rfl,r1,r2,⟨by simp [bl], .inl ⟨rfl,rfl⟩⟩,r4⟩
 ·have hH:Holds encStr w1 g 0 (bl ys).toArray:=holds_of_block hgb (by rw [bl_enc,hlen];simpa using q4);have hgl:g<w1.heap.size:=(Array.getElem?_eq_some_iff.1 hgb).1;have cS:=AnyM.slices_Sort_string LayStr.sortL g 0 cp (bl ys) w1 hH hgl (by omega);rw [hlen] at cS;have CS:=hide cS;clear cS hH;go_wp2_with (go_at_call 146;refine (za CS).mono ?_;rintro e w2 ⟨rfl,nn,os,rfl⟩)
  go_ret
  refine ⟨_,ys,rfl,r1,r2,?_,r4.grown (grownBy_sorted _) r4.size (fun j hj=>by cases hj;exact hbase)⟩;have h5:=ownsRow_sorted (w:=w1) (n:=nn) (os:=os) (ss:=bl ys) (ts:=(bl ys).mergeSort fun x y=>decide (x≤y)) (List.length_mergeSort _) hbase hgb (by omega) q2 q3;rw [hlen] at h5;exact h5
end Rng
end
section
open Go.RowKit Go.Shelf Go.Maps Go.Sort
namespace Rng
theorem grow_none (W:World):grow W #[]=W:=by cases W;simp [grow]
theorem owns_compact {w:World} {base g cap n:Nat} {e:TypeId} {cur:Array Value} {m:Nat} (ts pad:List (List UInt8)) (hl:(ts++pad).length=m) (hbase:base≤g) (hb:w.heap[g]? =some (.cells cur e (0,0))) (h1:m≤cap) (h2:cap≤maxLen) (h3:cur.size=cap*1):
  (putRow encStr (Sort.ahead w n) g 0 (ts++pad).toArray).ownsRow base e 1 (.slice (some ⟨g,0,none⟩) ts.length cap) ts.length (ts.map encStr):=by
 have h5:=heap_sorted (n:=n) (os:=#[]) (ts++pad).toArray hb;rw [grow_none] at h5;have h6:=take_putCells cur (ts++pad) (by omega);rw [List.length_append] at hl;refine ⟨by simp, .inr ⟨g,cap,_,rfl,hbase,h5,by omega,h2,by simp [putCells,h3],?_⟩⟩;rw [Nat.mul_one];have h7:=congrArg (List.take ts.length) h6;rw [List.take_take,List.length_append,Nat.min_eq_left (by omega),List.map_append,List.take_left' (by simp)] at h7;exact h7
theorem order_names (w0:World) (L:List Pl.Nd) (K:Pl.Fx) (qm:Nat) (a:Option Addr) (cap:Nat) (q:ByteArray) (nb pb:Nat) (w:World) (h0:w0.heap.size≤w.heap.size)
  (hx:(Pl.Fx.cons L K .nil).okX) (hm:Mem.ownM w0 qm L) (hl:Mem.layX w0 (fun j=>j<w0.heap.size) K (.slice a K.len cap)) (hk:Keep w0 w) (hnb:Mem.Blk w nb #[.map (some qm), .int .i64 (K.len:Int), .slice a K.len cap] 135) (hpb:Mem.Blk w pb #[.string q] 9) (h12:(Pl.za8 (.cons L K .nil)).length≤12):
  Calls Tryz.prog 93 #[.func (.func 123) #[] #[.pointer (some ⟨nb,0,none⟩), .pointer (some ⟨pb,0,none⟩)]] w fun e w'=>∃v ys,e= .returned v∧(∀t,t∈ys↔∃M∈Pl.za8 (.cons L K .nil),t∈Pl.zb2 q M)∧ys.length≤480∧Pl.Rise ys∧ze3.Own w' w.heap.size v ys∧Below w.heap.size w w':=by
 have HA:=hide (sorted_names w0 L K qm a cap q nb pb w h0 hx hm hl hk hnb hpb h12);clear hx hm hl hk hnb hpb h12;go_enter Tryz.func93,Tryz.ntmps93
 go_wp2_with (go_at_call 122;refine (za HA).mono ?_;rintro e w1 ⟨v,ys,rfl,r1,r2,r3,r4⟩)
 have hlen:((bl ys).mergeSort fun x y=>decide (x≤y)).length=ys.length:=by rw [List.length_mergeSort,bl,List.length_map]
 obtain ⟨o1,o2⟩:=Pl.out_ok ys
 have o3:(Lib.compact ((bl ys).mergeSort fun x y=>decide (x≤y))).length≤ys.length:=by
  have :=Lib.compact_length_le ((bl ys).mergeSort fun x y=>decide (x≤y));omega
 have o4:(Pl.outL ys).length=(Lib.compact ((bl ys).mergeSort fun x y=>decide (x≤y))).length:=by rw [Pl.outL,List.length_map];rfl
 have o5:(Pl.outL ys).map Value.string=(Lib.compact ((bl ys).mergeSort fun x y=>decide (x≤y))).map encStr:=by rw [Pl.outL,List.map_map];rfl
 have o6:∀t,t∈Pl.outL ys↔∃M∈Pl.za8 (.cons L K .nil),t∈Pl.zb2 q M:=fun t=>(o2 t).trans (r1 t)
 rcases r3.2 with ⟨rfl,hz⟩|⟨g,cp,cur,rfl,hbase,hgb,q1,q2,q3,q4⟩
 ·go_wp2_with (go_at_call 121;refine (AnyG.slices_Compact_string_empty LayStr.compactL none 0 w1).mono ?_;rintro e w2 ⟨rfl,rfl⟩)
  go_ret
  have e:(Pl.outL ys)=[]:=List.eq_nil_of_length_eq_zero (by omega);exact ⟨_,Pl.outL ys,rfl,o6,by omega,o1,by rw [e];exact ⟨rfl, .inl ⟨rfl,rfl⟩⟩,r4⟩
 ·generalize hzs:(bl ys).mergeSort (fun x y=>decide (x≤y))=zs at hlen o3 o4 o5 q4;have hH:Holds encStr w1 g 0 zs.toArray:=holds_of_block hgb (by rw [hlen];simpa using q4);have cS:=AnyG.slices_Compact_string LayStr.compactL g 0 cp zs w1 hH (by omega) (by omega);rw [hlen] at cS;have CS:=hide cS;clear cS hH;go_wp2_with (go_at_call 121;refine (za CS).mono ?_;rintro e w2 ⟨rfl,nn,rfl⟩)
  go_ret
  have gr:=grownBy_sorted (w:=w1) (g:=g) (n:=nn) (os:=#[]) (Lib.compact zs++List.replicate (ys.length - (Lib.compact zs).length) []).toArray;rw [grow_none] at gr;refine ⟨_,Pl.outL ys,rfl,o6,by omega,o1,?_,r4.grown gr r4.size (fun j hj=>by cases hj;exact hbase)⟩;unfold ze3.Own;rw [o4,o5];exact owns_compact (w:=w1) (n:=nn) (m:=ys.length) (Lib.compact zs) (List.replicate (ys.length - (Lib.compact zs).length) []) (by rw [List.length_append,List.length_replicate];omega) hbase hgb q1 q2 q3
end Rng
end
section
open Go.RowKit
namespace Mem
structure Res (w w':World):Prop where
 heap:w'.heap[w.heap.size]? =some (.cells #[.string ⟨#[]⟩, .int .i64 0, .int .i64 0] 186 (0,0))
 bel:Below w.heap.size w w'
theorem Res.start (w:World):Res w (w.alloc (.cells #[.string ⟨#[]⟩, .int .i64 0, .int .i64 0] 186)):=⟨heap_alloc_new w _,(Below.refl _ _).alloc (Nat.le_refl _) _⟩
theorem Res.lt {w w':World} (h:Res w w'):w.heap.size<w'.heap.size:=(Array.getElem?_eq_some_iff.1 h.heap).1
theorem Res.below {w w1 w2:World} {B:Nat} (h:Res w w1) (hb:Below B w1 w2) (hB:w.heap.size<B):Res w w2:=
 ⟨(hb.block _ hB).trans h.heap,h.bel.trans (hb.mono (Nat.le_of_lt hB))⟩
theorem Res.call {w w1 w2:World} (h:Res w w1) (hb:Below w1.heap.size w1 w2):Res w w2:=h.below hb h.lt
theorem Res.cells {w w':World} (h:Res w w'):(w'.cell? ⟨w.heap.size,0,none⟩=some (.string ⟨#[]⟩)∧w'.cell? ⟨w.heap.size,1,none⟩=some (.int .i64 0)∧w'.cell? ⟨w.heap.size,2,none⟩=some (.int .i64 0))∧
  (w'.frozen? ⟨w.heap.size,0,none⟩=false∧w'.frozen? ⟨w.heap.size,1,none⟩=false∧w'.frozen? ⟨w.heap.size,2,none⟩=false):=by
 refine ⟨⟨?_,?_,?_⟩,⟨zc2 h.heap,zc2 h.heap,zc2 h.heap⟩⟩
 ·rw [cell_of_row w' _ 0 _ _ (0,0) h.heap];rfl
 ·rw [cell_of_row w' _ 1 _ _ (0,0) h.heap];rfl
 ·rw [cell_of_row w' _ 2 _ _ (0,0) h.heap];rfl
end Mem
end
section
open Go.RowKit
namespace zh0
theorem join_any (p n:ByteArray) (w:World) (hp:p.size≤1048576) (hq:n.size≤1048576):
  Calls Tryz.prog 95 #[.string p, .string n] w fun e w'=>e= .returned (Pl.tOut (Pl.ze8 p n))∧Below w.heap.size w w':=by
 obtain ⟨i0,hi,hz0,hz1,hz2⟩:=info_parts WWords.zq6;by_cases h1:8000<p.size∨8000<n.size
 ·have E:Hid (Pl.tOut (Pl.ze8 p n)= .agg #[.string ⟨#[]⟩, .int .i64 0, .int .i64 2]):=by show _=_;rw [Pl.ze8,if_pos h1];rfl
  generalize Pl.tOut (Pl.ze8 p n)=R at E ⊢;by_cases h2:8000<p.size
  ·clear h1;go_enter Tryz.func95,Tryz.ntmps95
   go_wp2
   refine bodyPost_ret (v:= .agg #[.string ⟨#[]⟩, .int .i64 0, .int .i64 2]) (by simp [results,Tryz.results95,go_sem]) rfl ⟨by rw [E.out],?_⟩;exact bE0
  ·have h3:8000<n.size:=by omega
   clear h1;go_enter Tryz.func95,Tryz.ntmps95
   go_wp2
   refine bodyPost_ret (v:= .agg #[.string ⟨#[]⟩, .int .i64 0, .int .i64 2]) (by simp [results,Tryz.results95,go_sem]) rfl ⟨by rw [E.out],?_⟩;exact bE0
 have h2:¬8000<p.size:=fun h=>h1 (.inl h);have h3:¬8000<n.size:=fun h=>h1 (.inr h);have hn:=hide (fun W=>zu6.any p W hp);have hL:=hide (Pl.ze p);have hnr:=hide (fun W=>WName.zx9 n W (by unfold maxLen;omega));have EB:Hid (¬ (Pl.za0 p=true∧Pl.zb8 n=true)→Pl.tOut (Pl.ze8 p n)= .agg #[.string ⟨#[]⟩, .int .i64 0, .int .i64 1]):=fun h=>by rw [Pl.ze8,if_neg h1,if_pos h];rfl
 have EF:Hid (Pl.za0 p=true∧Pl.zb8 n=true→(Pl.za6 p).length=6→Pl.tOut (Pl.ze8 p n)= .agg #[.string ⟨#[]⟩, .int .i64 0, .int .i64 9]):=fun h h6=>by rw [Pl.ze8,if_neg h1,if_neg (fun g=>g h),if_pos h6];rfl
 have EG:Hid (Pl.za0 p=true∧Pl.zb8 n=true→¬ (Pl.za6 p).length=6→Pl.tOut (Pl.ze8 p n)= .agg #[.string (Pl.glue (Pl.za6 p++[n])), .int .i64 0, .int .i64 0]):=fun h h6=>by rw [Pl.ze8,if_neg h1,if_neg (fun g=>g h),if_neg h6];rfl
 have HNM:Hid (Pl.zb8 n=true→n.size≤20):=fun h=>(Pl.zo6 h).2.2.2
 have HNS:Hid (∀L:List ByteArray,(∀t∈L,Pl.zb8 t=true)→L.length≤6→Pl.zb8 n=true→(Pl.glue (L++[n])).size≤1000000):=fun L hL h6 hb=>by
  refine Pl.zp9 (fun t ht=>?_) (by simp;omega)
  rcases List.mem_append.1 ht with ht|ht
  ·exact hL t ht
  ·simp at ht;subst ht;exact hb
 generalize Pl.tOut (Pl.ze8 p n)=R at EB EF EG ⊢;generalize Pl.za0 p=r at hn EB EF EG;generalize Pl.zb8 n=q at hnr EB EF EG HNM HNS;generalize Pl.za6 p=L at hn hL EF EG;clear h1;cases r
 ·have E:=hide (EB.out (by simp));clear EB EF EG;go_enter Tryz.func95,Tryz.ntmps95
  go_wp2_with fail
  refine (za hn _).mono ?_;rintro e w1 ⟨v,rfl,hown,hb⟩;have hR:=(Mem.Res.start w).call hb;obtain ⟨⟨c0,c1,c2⟩,⟨f0,f1,f2⟩⟩:=hR.cells;have hB:=hR.bel;clear hown hb hR;go_wp2
  refine bodyPost_ret (v:= .agg #[.string ⟨#[]⟩, .int .i64 0, .int .i64 1]) (by simp [results,Tryz.results95,go_sem,c0,c1,c2]) rfl ⟨by rw [za E],?_⟩;exact ((hB.setCell (by simp) _).setCell (by simp) _).setCell (by simp) _
 cases q
 ·have E:=hide (EB.out (by simp));clear EB EF EG;go_enter Tryz.func95,Tryz.ntmps95
  go_wp2_with fail
  refine (za hn _).mono ?_;rintro e w1 ⟨v,rfl,hown,hb⟩;have hR:=(Mem.Res.start w).call hb;obtain ⟨⟨c0,c1,c2⟩,⟨f0,f1,f2⟩⟩:=hR.cells;have hB:=hR.bel;clear hown hb hR;go_wp2_with (go_at_call 127;refine (za hnr _).mono ?_;rintro e w' ⟨rfl,hw⟩;obtain rfl:=hw.symm)
  refine bodyPost_ret (v:= .agg #[.string ⟨#[]⟩, .int .i64 0, .int .i64 1]) (by simp [results,Tryz.results95,go_sem,c0,c1,c2]) rfl ⟨by rw [za E],?_⟩;exact ((hB.setCell (by simp) _).setCell (by simp) _).setCell (by simp) _
 by_cases h6:L.length=6
 ·have E:=hide (EF.out ⟨rfl,rfl⟩ h6);have t6:((L.length:Int)==6)=true:=by rw [beq_iff_eq];omega
  clear EB EF EG;go_enter Tryz.func95,Tryz.ntmps95
  go_wp2_with fail
  refine (za hn _).mono ?_;rintro e w1 ⟨v,rfl,hown,hb⟩;have hR:=(Mem.Res.start w).call hb;obtain ⟨⟨c0,c1,c2⟩,⟨f0,f1,f2⟩⟩:=hR.cells;have hB:=hR.bel
  obtain ⟨va,vc,rfl⟩:∃a cap,v= .slice a L.length cap:=by
   rcases Mem.zd7 hown with ⟨rfl,rfl⟩|⟨b,o,cap,rfl,_⟩ <;> exact ⟨_,_,rfl⟩
  clear hown hb hR h6;go_wp2_with (go_at_call 127;refine (za hnr _).mono ?_;rintro e w' ⟨rfl,hw⟩;obtain rfl:=hw.symm)
  refine bodyPost_ret (v:= .agg #[.string ⟨#[]⟩, .int .i64 0, .int .i64 9]) (by simp [results,Tryz.results95,go_sem,c0,c1,c2]) rfl ⟨by rw [za E],?_⟩;exact ((hB.setCell (by simp) _).setCell (by simp) _).setCell (by simp) _
 ·have E:=hide (EG.out ⟨rfl,rfl⟩ h6);have t6:((L.length:Int)==6)=false:=by rw [beq_eq_false_iff_ne];omega
  have hl6:=(za hL).2;clear EB EF EG;go_enter Tryz.func95,Tryz.ntmps95
  go_wp2_with fail
  refine (za hn _).mono ?_;rintro e w1 ⟨v,rfl,hown,hb⟩;have hR:=(Mem.Res.start w).call hb;have hs1:=hb.size;have hbase:w.heap.size<(w.alloc (.cells #[.string ⟨#[]⟩, .int .i64 0, .int .i64 0] 186)).heap.size:=(Mem.Res.start w).lt;generalize (w.alloc (.cells #[.string ⟨#[]⟩, .int .i64 0, .int .i64 0] 186)).heap.size=B at hown hs1 hbase
  obtain ⟨va,vc,rfl⟩:∃a cap,v= .slice a L.length cap:=by
   rcases Mem.zd7 hown with ⟨rfl,rfl⟩|⟨b,o,cap,rfl,_⟩ <;> exact ⟨_,_,rfl⟩
  clear hb h6 hn;go_wp2_with (first |(go_at_call 127;refine (za hnr _).mono ?_;rintro e w' ⟨rfl,hw⟩;obtain rfl:=hw.symm)|(at_builtin;refine wpList_append_own _ rfl _ _ 206 rfl B 9 i0 (.string ⟨#[]⟩) 1 16 Tryz.underlying206 hi hz0 hz1 hz2 rfl (by decide) _ _ _ rfl (hown.alloc _) ⟨w1.heap.size,0,none⟩ 1 1 [.string n] rfl rfl (Mem.ze6 _ _ _) (Mem.one_str _) (by unfold maxLen;omega) (by omega) (by simp;omega) ?_))
  intro v' w2 hown' hgrow _;have hbel:=Mem.zg4 (Below.refl B w1) hs1 hown hgrow;have hown2:w2.ownsRow B 9 1 v' (L++[n]).length ((L++[n]).map Value.string):=by simpa using hown'
  have hR2:=hR.below hbel hbase;have i1:=hide (Mem.zd7 hown2);clear hgrow hown hown' hown2 hbel hR;go_wp2_with fail
  refine (zk3.any _ (L++[n]) _ (by simp;omega) (HNS.out L (za hL).1 hl6 trivial) (za i1)).mono ?_;rintro e w3 ⟨rfl,hb3⟩;have hR3:=hR2.call hb3;obtain ⟨⟨c0,c1,c2⟩,⟨f0,f1,f2⟩⟩:=hR3.cells;have hB:=hR3.bel;clear hb3 hR2 hR3;generalize Pl.glue (L++[n])=body at E ⊢;go_wp2
  refine bodyPost_ret (v:= .agg #[.string body, .int .i64 0, .int .i64 0]) (by simp [results,Tryz.results95,go_sem,c0,c1,c2]) rfl ⟨by rw [za E],?_⟩;exact ((hB.setCell (by simp) _).setCell (by simp) _).setCell (by simp) _
end zh0
end
end Go.Proofs.YtbomeifgfalmdaaGreatDoor
