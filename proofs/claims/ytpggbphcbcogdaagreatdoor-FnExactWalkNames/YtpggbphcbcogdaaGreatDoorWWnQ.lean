import Derived.Test.YtpggbphcbcogdaaGreatDoorWNames3
import Derived.Test.YtpggbphcbcogdaaGreatDoorWWnA
import Derived.Test.YtpggbphcbcogdaaGreatDoorWMarkU
namespace Go.Proofs.YtpggbphcbcogdaaGreatDoor
open Go.RowKit Go.Shelf Go.Maps
attribute [local go_sem] Oper.semAt_some
namespace Rng
def Cs (D:Nat) (W:World) (j:Nat):Prop:=D≤j∧j<W.heap.size∧(j=D∨∀cur T fz,W.heap[j]? =some (.cells cur T fz)→T=9)
theorem cs_good {w0:World} {D:Nat} (h:w0.heap.size≤D):Good w0 (D+1) (Cs D):=by
 refine ⟨fun W W' row hB g hr j hj=>?_,fun W hB j hj=>⟨Nat.le_trans h hj.1,hj.2.1⟩,fun W y cs T hB hb hT hc=>?_⟩
 ·by_cases hlt:j<W.heap.size
  ·refine .inl ⟨hj.1,hlt,?_⟩
   rcases hj.2.2 with e|e
   ·exact .inl e
   ·refine .inr (fun cur T fz ho=>?_);by_cases hjr:row=some j
    ·obtain ⟨o,h1,h2⟩:=hr j hjr;rw [ho] at h1;cases h1
     cases h2
    ·exact e cur T fz ((g.block j hlt (fun e2=>hjr e2.symm)).trans ho)
  ·exact .inr (by omega)
 ·rcases hc.2.2 with e|e
  ·omega
  ·exact hT (e cs T (0,0) hb)
theorem cs_kq {D:Nat} {R:Nat→Prop} {W W':World} {row:Option Nat} (g:W.grownBy W' row) (hr:∀r,row=some r→Cs D W r∧∃o:Obj,W.heap[r]? =some o∧o.isCells=true):Kq (Cs D) R W W':=by
 refine ⟨g.size,fun j o hj hc hn=>?_,fun j hj=>?_⟩
 ·refine (g.block j (Array.getElem?_eq_some_iff.1 hj).1 (fun e=>?_)).trans hj;obtain ⟨h1,o',h2,h3⟩:=hr j e.symm;rw [hj] at h2;cases h2
  exact hc h3 h1
 ·by_cases hlt:j<W.heap.size
  ·by_cases hjr:row=some j
   ·exact .inl (hr j hjr).1
   ·refine .inl ⟨hj.1,hlt,?_⟩
    rcases hj.2.2 with e|e
    ·exact .inl e
    ·exact .inr (fun cur T fz ho=>e cur T fz ((g.block j hlt (fun e2=>hjr e2.symm)).trans ho))
  ·exact .inr (by omega)
theorem zu6 {W:World} {B:Nat} {v:Value} {K:List ByteArray} (h:zf0.Own W B v K):∀g,v.ownBlock=some g→∃cur,W.heap[g]? =some (.cells cur 9 (0,0)):=fun g hg=>by
 rcases h.2 with ⟨rfl,_⟩|⟨g',cap,cur,rfl,_,hh,_⟩
 ·cases hg
 ·cases hg;exact ⟨cur,hh⟩
def Aq (w:World) (D:Nat) (ys:List ByteArray) (W:World):Prop:=∃v,Below w.heap.size w W∧Mem.Blk W D #[v] 24∧zf0.Own W (D+1) v ys
theorem Aq.grown {w W W':World} {D:Nat} {ys:List ByteArray} {row:Option Nat} (h:Aq w D ys W) (hD:w.heap.size≤D) (g:W.grownBy W' row) (hr:∀r,row=some r→D≤r∧∃o:Obj,W.heap[r]? =some o∧o.isCells=false):Aq w D ys W':=by
 obtain ⟨v,h1,h2,h3⟩:=h;refine ⟨v,h1.grown g h1.size (fun r e=>by have :=(hr r e).1;omega),zq3 h2 g (fun r e=>(hr r e).2),h3.grown g (fun q hq e=>?_)⟩;obtain ⟨o,ho,hc⟩:=(hr q e.symm).2;obtain ⟨cur,hh⟩:=zu6 h3 q hq;rw [hh] at ho;cases ho
 cases hc
set_option linter.unusedSimpArgs false in
set_option maxRecDepth 100000 in
set_option maxHeartbeats 4000000 in
theorem append_names (w0:World) (L:List Pl.Nd) (K:Pl.Fx) (qm:Nat) (a:Option Addr) (cap:Nat) (q:ByteArray) (nb pb:Nat) (w:World) (h0:w0.heap.size≤w.heap.size)
  (hx:(Pl.Fx.cons L K .nil).okX) (hm:Mem.ownM w0 qm L) (hl:Mem.layX w0 (fun j=>j<w0.heap.size) K (.slice a K.len cap)) (hk:Keep w0 w) (hnb:Mem.Blk w nb #[.map (some qm), .int .i64 (K.len:Int), .slice a K.len cap] 62) (hpb:Mem.Blk w pb #[.string q] 9) (h12:(Pl.za7 (.cons L K .nil)).length≤12):
  Calls Tryz.prog 88 #[.slice none 0 0, .func (.func 57) #[] #[.pointer (some ⟨nb,0,none⟩), .pointer (some ⟨pb,0,none⟩)]] w fun e w'=>∃v ys,e= .returned v∧(∀t,t∈ys↔∃M∈Pl.za7 (.cons L K .nil),t∈Pl.za6 q M)∧ys.length≤480∧zf0.Own w' w.heap.size v ys∧Below w.heap.size w w':=by
 obtain ⟨i0,hi,hz0,hz1,hz2⟩:=info_parts zj0.zk5;have b1:Below w.heap.size w (w.alloc (.cells #[.slice none 0 0] 24)):=(Below.refl _ _).alloc (Nat.le_refl _) _;have z1:(w.alloc (.cells #[.slice none 0 0] 24)).heap.size=w.heap.size+1:=by simp
 have A1:Hid (Aq w w.heap.size [] (w.alloc (.cells #[.slice none 0 0] 24))):=hide ⟨_,b1,Mem.Blk.new _ _ _,rfl, .inl ⟨rfl,rfl⟩⟩;have SQ:=hide (names_ok w0 (Cs w.heap.size) (w.heap.size+1) (cs_good h0) 4 (fun j=>False∨j=(w.alloc (.cells #[.slice none 0 0] 24)).heap.size+1) L K qm a cap q nb pb (w.alloc (.cells #[.slice none 0 0] 24)) (by rw [z1];exact Nat.le_refl _) (fun j h=>by rcases h with h|h;exact h.elim;rw [z1] at h;omega) hx hm hl (hk.trans (Keep.of_below b1)) (hnb.call b1) (hpb.call b1) (fun W hW hc=>by have :=hpb.lt;have :=hc.1;omega));clear hx hm hl hk hnb hpb b1;refine (callsIn_wide (n:=5)).1 ?_;refine callsIn_of_wp_marks Tryz.func88 rfl trivial ?_ rfl
 simp only [Tryz.ntmps88,List.size_toArray,List.length_cons,List.length_nil,Nat.reduceAdd,Nat.reduceSub,Array.replicate_succ,Array.replicate_zero,List.push_toArray,List.append_toArray,List.nil_append,List.cons_append]
 gi_wp2_with fail
 generalize w.alloc (.cells #[.slice none 0 0] 24)=w1 at A1 SQ z1 ⊢
 refine range rfl (fun h=>(by cases h)) (gf:=57) (lb:=#[.pointer (some ⟨nb,0,none⟩), .pointer (some ⟨pb,0,none⟩)]) rfl trivial (enters_of Tryz.func57 (by kernel_rfl) rfl) (C:=Cs w.heap.size) (R:=fun _=>False) (za SQ) (Below.refl _ _) (fun _=>rfl) (by rw [z1];exact (cs_good h0).step) (fun j h=>h.elim)
  (fun ys W=>Aq w w.heap.size ys W∧ys.length≤480)
  (fun _ _ _=>False)
  (fun xs A A' row h g hr=>⟨h.1.grown (Nat.le_refl _) g (fun r e=>⟨by have :=(hr r e).1;omega,(hr r e).2⟩),h.2⟩)
  (fun c xs A A' row h g hr=>h)
  ⟨za A1,Nat.zero_le _⟩
  (fun x a'' _=>a''={ tmps:=#[.slice none 0 0, .func (.func 57) #[] #[.pointer (some ⟨nb,0,none⟩), .pointer (some ⟨pb,0,none⟩)], .pointer (some ⟨w.heap.size,0,none⟩),undef, .slice none 0 0, .string x, .func (.func 57) #[] #[.pointer (some ⟨nb,0,none⟩), .pointer (some ⟨pb,0,none⟩)], .string x,undef,undef,undef,undef,undef],defers:=[] })
  (fun x a'' _ A A' row h g hr=>h) ?assign ?body ?done ?stop
 case assign=>
  intro l' xs x W'' Kz hI hz hK
  gi_wp2
  exact hK _ _ (Kq.refl _ _ _) hI rfl
 case body=>
  rintro l' xs x a'' W'' hI rfl hlen hz;obtain ⟨⟨v,i1,i2,i3⟩,i4⟩:=hI;have hxl:(xs++[x]).length≤480:=by rw [List.length_append,List.length_singleton];omega
  have d0:=i2.cell 0;have f0:=i2.fr 0;simp only [List.getElem?_toArray,List.getElem?_cons_zero] at d0;have HI:=hide (⟨i1,i2,i3⟩:_∧_∧_);have hsz:w.heap.size+1≤W''.heap.size:=by omega
  clear i1 i2 i3
  gi_wp2_with (gi_at_builtin;refine wpListIn_append_own _ rfl _ _ 24 rfl (w.heap.size+1) 9 i0 (.string ⟨#[]⟩) 1 16 Tryz.underlying24 hi hz0 hz1 hz2 rfl (by decide) _ _ _ rfl ((za HI).2.2.alloc _) ⟨W''.heap.size,0,none⟩ 1 1 [.string x] rfl rfl (Mem.zd0 _ _ _) (fun u hu=>by simp at hu;subst hu;rfl) (by unfold maxLen;omega) (by omega) (by simp;omega) ?_)
  intro v' wZ hown hgrow _
  obtain ⟨sa,sn,sc,rfl⟩:∃sa sn sc,v'= .slice sa sn sc:=by
   rcases hown.2 with ⟨rfl,_⟩|⟨g',cap',cur,rfl,_⟩
   ·exact ⟨_,_,_,rfl⟩
   ·exact ⟨_,_,_,rfl⟩
  have g1:W''.grownBy (W''.alloc (.cells #[.string x] 9)) none:=World.grownBy_alloc _ _ _;have B1:=(za HI).2.1.alloc (.cells #[.string x] 9);have O1:zf0.Own (W''.alloc (.cells #[.string x] 9)) (w.heap.size+1) v xs:=(za HI).2.2.alloc _;have b1:=(za HI).1.alloc (za HI).1.size (.cells #[.string x] 9);have BZ:=B1.grown hgrow (fun e=>by have :=(O1.lt _ e.symm).1;omega);have bZ:=b1.grown hgrow b1.size (fun r e=>by have :=(O1.lt _ e).1;omega);have OZ:zf0.Own wZ (w.heap.size+1) (.slice sa sn sc) (xs++[x]):=zj0.own_snoc hown;have g3:wZ.grownBy (wZ.setCell ⟨w.heap.size,0,none⟩ (.slice sa sn sc)) (some w.heap.size):=grownBy_setCell' _ _ _;have B3:=BZ.put 0 (.slice sa sn sc);simp only [List.setIfInBounds_toArray,List.set_cons_zero] at B3;have O3:=OZ.grown g3 (fun g e h=>by have :=(OZ.lt g e).1;cases h;omega)
  have b3:=bZ.setCell (Nat.le_refl _) (.slice sa sn sc) (p:=⟨w.heap.size,0,none⟩);have c3:=BZ.cell 0;have f3:=BZ.fr 0;simp only [List.getElem?_toArray,List.getElem?_cons_zero] at c3
  have KQ:=hide ((cs_kq (D:=w.heap.size) (R:=fun _=>False) g1 (fun r e=>by cases e)).trans ((cs_kq hgrow (fun r e=>by
   obtain ⟨cur,hh⟩:=zu6 O1 r e;have h5:=O1.lt r e
   exact ⟨⟨by omega,h5.2, .inr (fun cur' T fz ho=>by rw [hh] at ho;cases ho;rfl)⟩,_,hh,rfl⟩)).trans (cs_kq g3 (fun r e=>by
   cases e
   exact ⟨⟨Nat.le_refl _,BZ.lt, .inl rfl⟩,_,BZ,rfl⟩))))
  have AQ:=hide (⟨⟨(.slice sa sn sc),b3,B3,O3⟩,hxl⟩:Aq w w.heap.size (xs++[x]) _∧_);clear g1 B1 O1 b1 BZ bZ OZ g3 B3 O3 b3 HI hown hgrow hxl d0 f0
  gi_wp2
  exact ⟨za KQ,za AQ⟩
 case done=>
  rintro D xs W hD hS hI hK;obtain ⟨⟨v,i1,i2,i3⟩,i4⟩:=hI;have d0:=i2.cell 0;simp only [List.getElem?_toArray,List.getElem?_cons_zero] at d0;have HI:=hide (⟨i1,i3⟩:_∧_);have HS:=hide hS;clear i1 i2 i3 hS
  gi_wp2
  refine ⟨by simp, .inl ⟨_,_,rfl,run_takeDeferred hK,?_⟩⟩;refine ⟨_,results_tmp rfl _ _ _,v,xs,rfl,za HS,i4,?_,(za HI).1.grown (grownBy_putObj' _ _ _) (za HI).1.size (fun r e=>by cases e;omega)⟩;refine Mem.zf9 ((za HI).2.grown (grownBy_putObj' _ _ _) (fun g e h=>?_)) (by omega);cases h
  obtain ⟨cur,hh⟩:=zu6 (za HI).2 _ e;rw [hK] at hh;cases hh
 case stop=>
  rintro D c xs W _ _ h _;exact h.elim
end Rng
end Go.Proofs.YtpggbphcbcogdaaGreatDoor
