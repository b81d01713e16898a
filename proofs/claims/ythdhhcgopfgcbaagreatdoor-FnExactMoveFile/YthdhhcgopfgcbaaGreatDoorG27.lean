/- Several texts of one claim in one file: MemPutI, MemPutT, MemOkR, WCopyV, WCopy5, WIll7, WNestJ, MemFar, WMk1, WMkN, MemOwnI, MemIoT, WDone7, WPlainN, WPlainQ, WTreeR, WNestS, WDropX, WIll3, WOwnI, WAllS, MemAppend, WMaxS, WPickA. -/
import Derived.Test.YthdhhcgopfgcbaaGreatDoorG13
import Derived.Laws.AppendOwnNone
import Derived.Test.YthdhhcgopfgcbaaGreatDoorWTreeS
namespace Go.Proofs.YthdhhcgopfgcbaaGreatDoor
section
open Go.RowKit
namespace Mem
theorem own_put {W:World} {S g T size n cap:Nat} {xs:List Value} (h:W.ownsRow S T size (.slice (some ⟨g,0,none⟩) n cap) n xs) (k:Nat) (u:Value):(W.setCell ⟨g,k,none⟩ u).ownsRow S T size (.slice (some ⟨g,0,none⟩) n cap) n (xs.set k u):=by
 refine ⟨by rw [List.length_set];exact h.1,?_⟩
 rcases h.2 with ⟨e,_⟩|⟨g',c',cur,e,hb,hg,hc,hm,hs,ht⟩
 ·cases e
 ·cases e
  refine .inr ⟨g,cap,cur.setIfInBounds k u,rfl,hb,heap_setCell_same _ _ _ _ _ _ hg,hc,hm,by rw [Array.size_setIfInBounds];exact hs,?_⟩;rw [Array.toList_setIfInBounds,List.take_set,ht]
theorem own_cell {W:World} {S g T size n cap:Nat} {xs:List Value} (h:W.ownsRow S T size (.slice (some ⟨g,0,none⟩) n cap) n xs) {k:Nat} {u:Value} (hk:xs[k]? =some u):W.cell? ⟨g,k,none⟩=some u∧W.frozen? ⟨g,k,none⟩=false:=by
 refine ⟨?_,?_⟩
 ·have :=World.ownsRow.cells h (g:=g) rfl k u hk;rw [add_lit] at this;exact this
 ·rcases h.2 with ⟨e,_⟩|⟨g',c',cur,e,hb,hg,_⟩
  ·cases e
  ·cases e
   exact zg1 hg
end Mem
namespace Pl
theorem yj0 (x:It) (Is:List It):zd7 (x::Is)=Value.int .i64 x.m::x.t.val::zd7 Is:=rfl
theorem yk7 (x:It) (t:Tr) (Rs:List It):∀Ds:List It,(zd7 (Ds++x::Rs)).set (Ds.length*2+1) t.val=zd7 (Ds++⟨x.m,t⟩::Rs):=by
 intro Ds
 induction Ds with
 |nil=>rfl
 |cons y Ds ih=>
  rw [List.cons_append,List.cons_append,yj0,yj0,List.length_cons,show (Ds.length+1)*2+1=Ds.length*2+1+1+1 by omega,List.set_cons_succ,List.set_cons_succ,ih]
theorem cellsI_many (x:It) (m:Int) (Rs:List It):(zd7 (x::Rs)).set 0 (.int .i64 m)=zd7 (⟨m,x.t⟩::Rs):=rfl
end Pl
namespace Mem
structure Cq (W:World) (S g cap:Nat) (Ds Rs:List Pl.It):Prop where
 row:W.ownsRow S 53 2 (.slice (some ⟨g,0,none⟩) (Ds.length+Rs.length) cap) (Ds.length+Rs.length) (Pl.zd7 (Ds++Rs))
 each:∀ (i:Nat) x,Ds[i]? =some x→ownN W S x.t.val x.t.L∧∀q,x.t.val.ownBlock=some q→q≠g
 apart:∀ (i j:Nat) x y,i≠j→Ds[i]? =some x→Ds[j]? =some y→∀q,x.t.val.ownBlock=some q→y.t.val.ownBlock≠some q
theorem Cq.call {W W':World} {S g cap:Nat} {Ds Rs:List Pl.It} (h:Cq W S g cap Ds Rs) (b:Below W.heap.size W W'):Cq W' S g cap Ds Rs:=
 ⟨zj2 h.row b,fun i x hx=>⟨zg7 (h.each i x hx).1 b,(h.each i x hx).2⟩,h.apart⟩
theorem Cq.step {W W1:World} {S g cap:Nat} {Ds Rs:List Pl.It} {x:Pl.It} {t:Pl.Tr} (h:Cq W S g cap Ds (x::Rs)) (b:Below W.heap.size W W1) (hS:S≤W.heap.size) (ht:ownN W1 W.heap.size t.val t.L):Cq (W1.setCell ⟨g,Ds.length*2+1,none⟩ t.val) S g cap (Ds++[⟨x.m,t⟩]) Rs:=by
 have h1:=h.call b;have hg:g<W.heap.size:=(World.ownsRow.lt h.row g rfl).2;have hgS:S≤g:=(World.ownsRow.lt h.row g rfl).1
 have off:∀ {v:Value} {L:List Pl.Nd} {B:Nat},ownN W1 B v L→(∀q,v.ownBlock=some q→q≠g)→ownN (W1.setCell ⟨g,Ds.length*2+1,none⟩ t.val) B v L:=fun {v L B} hv hn=>by
  refine ⟨hv.1,?_⟩
  rcases hv.2 with h0|⟨q,c,cur,e,hb,hq,rest⟩
  ·exact .inl h0
  ·exact .inr ⟨q,c,cur,e,hb,(heap_setCell_other _ _ _ _ (hn q (by rw [e];rfl))).trans hq,rest⟩
 have hlo:∀q,t.val.ownBlock=some q→W.heap.size≤q:=fun q hq=>(ze3 ht q hq).1;refine ⟨?_,fun i y hy=>?_,fun i j y z hij hy hz q hq=>?_⟩
 ·have h2:=own_put h1.row (Ds.length*2+1) t.val;rw [Pl.yk7] at h2;have e:(Ds++[(⟨x.m,t⟩:Pl.It)]).length+Rs.length=Ds.length+(x::Rs).length:=by simp;omega
  rw [e,List.append_assoc];exact h2
 ·by_cases e:i<Ds.length
  ·rw [List.getElem?_append_left e] at hy;exact ⟨off (h1.each i y hy).1 (h1.each i y hy).2,(h1.each i y hy).2⟩
  ·rw [List.getElem?_append_right (by omega)] at hy
   have e0:i - Ds.length=0:=by
    have :=(List.getElem?_eq_some_iff.1 hy).1;simp at this;omega
   rw [e0] at hy;simp at hy
   subst hy;have hn:∀q,t.val.ownBlock=some q→q≠g:=fun q hq=>by have :=hlo q hq;omega
   exact ⟨off (zb3 ht hS) hn,hn⟩
 ·by_cases e:i<Ds.length
  ·rw [List.getElem?_append_left e] at hy;by_cases e2:j<Ds.length
   ·rw [List.getElem?_append_left e2] at hz;exact h.apart i j y z hij hy hz q hq
   ·rw [List.getElem?_append_right (by omega)] at hz
    have e0:j - Ds.length=0:=by
     have :=(List.getElem?_eq_some_iff.1 hz).1;simp at this;omega
    rw [e0] at hz;simp at hz
    subst hz;intro e3;have h5:=hlo q e3;have h6:=(ze3 (h.each i y hy).1 q hq).2;omega
  ·rw [List.getElem?_append_right (by omega)] at hy
   have e0:i - Ds.length=0:=by
    have :=(List.getElem?_eq_some_iff.1 hy).1;simp at this;omega
   rw [e0] at hy;simp at hy
   subst hy;have h5:=hlo q hq
   have hj:j<Ds.length:=by
    have :=(List.getElem?_eq_some_iff.1 hz).1;simp at this;omega
   rw [List.getElem?_append_left hj] at hz;intro e3;have h6:=(ze3 (h.each j z hz).1 q e3).2;omega
theorem Cq.done {W:World} {S g cap:Nat} {Ds:List Pl.It} (h:Cq W S g cap Ds []):Io W S (.slice (some ⟨g,0,none⟩) Ds.length cap) Ds:=by
 have h1:=h.row;rw [List.length_nil,Nat.add_zero,List.append_nil] at h1;exact ⟨h1,fun i x hx=>⟨(h.each i x hx).1,fun q hq e=>(h.each i x hx).2 q hq (Option.some.inj e).symm⟩,h.apart⟩
end Mem
end
section
open Go.RowKit
namespace zg2
theorem zn2:(Tryz.prog.info? 47).map (fun i=>(i.zero,i.size,i.bytes))=some (some (.agg #[.string ⟨#[]⟩, .int .i64 0, .string ⟨#[]⟩, .int .i64 0, .int .i64 0]),5,56):=by kernel_rfl
theorem zw5 {w:World} {g o:Nat} {M:List Pl.Nd} (h:Mem.za2 w (some ⟨g,o,none⟩) M):∀j u,(Pl.zc4 M)[j]? =some u→w.cell? ((⟨g,o,none⟩:Addr).add j)=some u:=by
 intro j u hj
 have hlt:j<M.length*5:=by
  have :=(List.getElem?_eq_some_iff.1 hj).1
  rwa [Pl.zk0] at this
 have hd:j / 5<M.length:=by omega
 obtain ⟨g',o',e,h0,h1,h2,h3,h4,h5⟩:=h (j / 5) M[j / 5] (List.getElem?_eq_getElem hd);cases e
 have hc:=Pl.zz7 M (j / 5) _ (List.getElem?_eq_getElem hd) (j % 5) (by omega);rw [show j / 5*5+j % 5=j by omega,hj] at hc;rw [Mem.zq9];have hm:j % 5=0∨j % 5=1∨j % 5=2∨j % 5=3∨j % 5=4:=by omega
 have ej:o+j=o+j / 5*5+j % 5:=by omega
 rw [ej,hc]
 rcases hm with h|h|h|h|h <;> rw [h]
 ·exact h1
 ·exact h2
 ·exact h3
 ·exact h4
 ·exact h5
theorem cells_one (M:List Pl.Nd):∀u∈Pl.zc4 M,u.oneCell'=true:=by
 intro u hu;rw [Pl.zc4,List.mem_flatMap] at hu;obtain ⟨n,_,hn⟩:=hu;exact Mem.zm9 n u hn
theorem zm8 {w:World} {B m:Nat} {v:Value} {A M:List Pl.Nd} (h:w.ownsRow B 47 5 v (A.length+m) (Pl.zc4 A++Pl.zc4 M)) (hm:m=M.length):Mem.ownN w B v (A++M):=by
 subst hm;unfold Mem.ownN;rw [Pl.yo,List.length_append];exact h
end zg2
end
section
open Go.RowKit
namespace Mem
def okR (a:Option Addr) (cap:Nat) (L:List Pl.Nd):Prop:=(a=none∧cap=0∧L=[])∨∃g o,a=some ⟨g,o,none⟩
end Mem
end
section
open Go.RowKit
namespace WCopyV
set_option linter.unusedSimpArgs false in
set_option maxRecDepth 100000 in
set_option maxHeartbeats 1000000 in
theorem yb2 (a:Option Addr) (cap:Nat) (L:List Pl.Nd) (w:World) (hl:L.length≤1000) (hA:Mem.okR a cap L) (hv:Mem.za2 w a L):
  Calls Tryz.prog 66 #[.agg #[.slice a L.length cap]] w fun e w'=>∃v,e= .returned (.agg #[v])∧Mem.ownN w' w.heap.size v L∧Below w.heap.size w w':=by
 obtain ⟨i0,hi,hz0,hz1,hz2⟩:=info_parts zg2.zn2;have b2:Below w.heap.size w (((w.alloc (.cells #[.slice a L.length cap] 43)).alloc (.cells #[.slice none 0 0] 43)).alloc (.cells #[] 47)):=((bE0).alloc (by simp) _).alloc (by simp;omega) _;have B0:=((Mem.Blk.new w #[.slice a L.length cap] 43).alloc (.cells #[.slice none 0 0] 43)).alloc (.cells #[] 47);have B1:Mem.Blk (((w.alloc (.cells #[.slice a L.length cap] 43)).alloc (.cells #[.slice none 0 0] 43)).alloc (.cells #[] 47)) (w.heap.size+1) #[.slice none 0 0] 43:=(show Mem.Blk ((w.alloc (.cells #[.slice a L.length cap] 43)).alloc (.cells #[.slice none 0 0] 43)) (w.heap.size+1) #[.slice none 0 0] 43 from Mem.zg4 _ _ _).alloc _
 have OA:Hid (Mem.ownN (((w.alloc (.cells #[.slice a L.length cap] 43)).alloc (.cells #[.slice none 0 0] 43)).alloc (.cells #[] 47)) (w.heap.size+2) (.slice (some ⟨w.heap.size+2,0,none⟩) 0 0) []):=by
  refine ⟨rfl, .inr ⟨w.heap.size+2,0,#[],rfl,Nat.le_refl _,?_,Nat.le_refl _,Nat.zero_le _,rfl,rfl⟩⟩;have h:=heap_alloc_new ((w.alloc (.cells #[.slice a L.length cap] 43)).alloc (.cells #[.slice none 0 0] 43)) (.cells #[] 47);rw [show ((w.alloc (.cells #[.slice a L.length cap] 43)).alloc (.cells #[.slice none 0 0] 43)).heap.size=w.heap.size+2 by simp] at h;exact h
 have NV:=hide (Mem.za0 hv b2);have x0:=B0.cell 0;simp only [kA0,kA1] at x0;clear hv
 rcases hA with ⟨rfl,rfl,rfl⟩|⟨g,o,rfl⟩
 ·simp only [List.length_nil] at OA B1 b2 x0 ⊢;have z0:=B1.cell 0;have zf:=B1.fr 0;simp only [kA0,kA1] at z0;have BB:=(B1.put 0 (.slice (some ⟨w.heap.size+2,0,none⟩) 0 0)).cell 0;go_enter Tryz.func66,Tryz.ntmps66
  go_wp2_with (at_builtin;refine wpList_append_own_none rfl _ _ 41 rfl (w.heap.size+2) 47 i0 5 Tryz.underlying41 hi _ _ _ rfl (za OA) rfl ?_)
  refine bodyPost_ret (v:= .agg #[.slice (some ⟨w.heap.size+1+1,0,none⟩) 0 0]) (by simp [results,Tryz.results66,go_sem,z0]) rfl ⟨_,rfl,?_,?_⟩
  ·refine ⟨rfl, .inr ⟨w.heap.size+1+1,0,#[],rfl,by omega,?_,Nat.le_refl _,Nat.zero_le _,rfl,rfl⟩⟩;have h:=heap_alloc_new ((w.alloc (.cells #[.slice none 0 0] 43)).alloc (.cells #[.slice (some ⟨w.heap.size+1+1,0,none⟩) 0 0] 43)) (.cells #[] 47);rw [show ((w.alloc (.cells #[.slice none 0 0] 43)).alloc (.cells #[.slice (some ⟨w.heap.size+1+1,0,none⟩) 0 0] 43)).heap.size=w.heap.size+1+1 by simp] at h;exact h
  ·exact ((bE0).alloc (by simp) _).alloc (by simp;omega) _
 ·go_enter Tryz.func66,Tryz.ntmps66
  go_wp2_with (at_builtin;refine wpList_append_own _ rfl _ _ 41 rfl (w.heap.size+2) 47 i0 _ 5 56 Tryz.underlying41 hi hz0 hz1 hz2 rfl (by decide) _ _ _ rfl (za OA) ⟨g,o,none⟩ L.length cap (Pl.zc4 L) rfl (by rw [Pl.zk0]) (zg2.zw5 (za NV)) (zg2.cells_one _) (by rw [List.length_nil,Nat.zero_add];unfold maxLen;omega) (by rw [List.length_nil,Nat.zero_add];omega) (by simp) ?_)
  intro v1 wA ownA growA _;have OB:=hide (zg2.zm8 (A:=[]) (M:=L) (m:=L.length) (by rw [List.length_nil,Nat.zero_add];exact ownA) rfl);rw [List.nil_append] at OB;have hg1:∀q,(Value.slice (some ⟨w.heap.size+2,0,none⟩) 0 0).ownBlock=some q→q=w.heap.size+2:=fun q hq=>(Option.some.inj hq).symm;have B1:=B1.grown growA (fun e=>by have :=hg1 _ e.symm;omega);have b3:=b2.grown growA b2.size (fun q hq=>by have :=hg1 q hq;omega);obtain ⟨a3,c3,hv3⟩:=Mem.za4 (za OB);subst hv3;have z0:=B1.cell 0;have zf:=B1.fr 0;simp only [kA0,kA1] at z0;clear ownA growA hg1 OA NV x0 B0 b2;go_wp2
  refine bodyPost_ret (v:= .agg #[.slice a3 L.length c3]) (by simp [results,Tryz.results66,go_sem,z0]) rfl ⟨_,rfl,?_,?_⟩
  ·exact Mem.zb3 (Mem.za8 (za OB) _ _ (by show w.heap.size+1<w.heap.size+2;omega)) (by omega)
  ·exact b3.setCell (by show w.heap.size≤w.heap.size+1;omega) _
end WCopyV
end
section
open Go.RowKit
namespace Mem
theorem items_cells {w:World} {b o:Nat} {Is:List Pl.It} (h:zb0 w (some ⟨b,o,none⟩) Is):∀j u,(Pl.zd7 Is)[j]? =some u→w.cell? ((⟨b,o,none⟩:Addr).add j)=some u:=by
 intro j u hj;have hlt:=(List.getElem?_eq_some_iff.1 hj).1;rw [Pl.yg8] at hlt;have ea:(⟨b,o,none⟩:Addr).add j=⟨b,o+j,none⟩:=by unfold Addr.add;split <;> simp_all
 rw [ea];obtain ⟨x,hx⟩:∃x,Is[j / 2]? =some x:=⟨_,List.getElem?_eq_getElem (by omega)⟩;obtain ⟨⟨b',o',e,hb,q0,q1⟩, -⟩:=h (j / 2) x hx;cases e
 obtain ⟨c0,c1⟩:=Pl.zu8 Is (j / 2) x hx
 rcases Nat.mod_two_eq_zero_or_one j with hm|hm
 ·have e1:j=j / 2*2:=by omega
  rw [←e1] at c0 q0;rw [c0] at hj;cases hj
  exact q0
 ·have e1:j=j / 2*2+1:=by omega
  rw [←e1] at c1;rw [show o+j / 2*2+1=o+j by omega] at q1;rw [c1] at hj;cases hj
  exact q1
end Mem
namespace WCopy5
theorem infoI:(Tryz.prog.info? 53).map (fun i=>(i.zero,i.size,i.bytes))=some (some (.agg #[.int .i64 0, .slice none 0 0]),2,32):=by kernel_rfl
set_option linter.unusedSimpArgs false in
set_option maxRecDepth 100000 in
set_option maxHeartbeats 1000000 in
theorem yb2 (b o cap:Nat) (Is:List Pl.It) (hl:Is.length≤12) (h0:Is.length≠0) (hL:∀x∈Is,x.t.L.length≤1000) (hR:∀x∈Is,Mem.okR x.t.a x.t.cap x.t.L) (w:World) (hv:Mem.zb0 w (some ⟨b,o,none⟩) Is):
  Calls Tryz.prog 65 #[.slice (some ⟨b,o,none⟩) Is.length cap] w fun e w'=>∃g cap' Ds,e= .returned (.slice (some ⟨g,0,none⟩) Is.length cap')∧w.heap.size≤g∧Mem.Io w' w.heap.size (.slice (some ⟨g,0,none⟩) Is.length cap') Ds∧Ds.map Pl.It.r=Is.map Pl.It.r∧Below w.heap.size w w':=by
 obtain ⟨i0,hi,hz0,hz1,hz2⟩:=info_parts infoI;have b0:Below w.heap.size w (w.alloc (.cells #[] 53)):=(Below.refl _ _).alloc (Nat.le_refl _) _;have O0:Hid ((w.alloc (.cells #[] 53)).ownsRow w.heap.size 53 2 (.slice (some ⟨w.heap.size,0,none⟩) 0 0) 0 []):=⟨rfl, .inr ⟨w.heap.size,0,#[],rfl,Nat.le_refl _,heap_alloc_new _ _,Nat.le_refl _,Nat.zero_le _,rfl,rfl⟩⟩;have HC:=hide (Mem.items_cells (Mem.zb2 hv b0));have HCP:=hide (fun (x:Pl.It) (j:Nat) (hx:Is[j]? =some x) W (bb:Below w.heap.size w W)=>WCopyV.yb2 x.t.a x.t.cap x.t.L W (hL x (List.mem_of_getElem? hx)) (hR x (List.mem_of_getElem? hx)) (Mem.za0 (hv j x hx).2 bb));clear hv hL hR;go_enter Tryz.func65,Tryz.ntmps65
 go_wp2_with (at_builtin;refine Mem.ze1 _ rfl _ _ 24 rfl w.heap.size 53 i0 (.agg #[.int .i64 0, .slice none 0 0]) 2 32 Tryz.underlying24 hi hz0 hz1 hz2 rfl (by decide) _ _ _ rfl (za O0) ⟨b,o,none⟩ Is.length cap (Pl.zd7 Is) rfl (Pl.yg8 Is) (za HC) (Pl.yn2 Is) (by unfold maxLen;omega) (by omega) (by simp) ?_)
 intro v1 w1 own1 gr1 far1
 have hsh:∃g cap',v1= .slice (some ⟨g,0,none⟩) Is.length cap':=by
  rcases own1.2 with ⟨e,hz⟩|⟨g,c,cur,e,rest⟩
  ·exact absurd hz h0
  ·exact ⟨g,c,e⟩
 obtain ⟨g,cap',rfl⟩:=hsh;have hg:=World.ownsRow.lt own1 g rfl;have bw1:=b0.grown gr1 (by simp) (fun q hq=>by cases hq;exact Nat.le_refl _);have CQ:Hid (Mem.Cq w1 w.heap.size g cap' [] (Is.drop ([]:List Pl.It).length)):=hide ⟨by simpa using own1,fun i x hx=>(by cases hx),fun i j x y _ hx=>(by cases hx)⟩;have DM:Hid (([]:List Pl.It).map Pl.It.r=(Is.take ([]:List Pl.It).length).map Pl.It.r):=rfl;have HGW:=hide hg.1;clear own1 gr1 far1 O0 HC b0 hg;go_wp2
 go_loopw [4] (fun i wr=>∃Ds:List Pl.It,i= .int .i64 (Ds.length:Int)∧Ds.length≤Is.length∧Below w.heap.size w wr∧Hid (Mem.Cq wr w.heap.size g cap' Ds (Is.drop Ds.length))∧Hid (Ds.map Pl.It.r=(Is.take Ds.length).map Pl.It.r)) (fun i _=>Is.length - (intOf i).toNat)
 case atStart=>exact ⟨[],rfl,Nat.zero_le _,bw1,CQ,DM⟩
 case round=>
  obtain ⟨Ds,rfl,hD,hbel,HQ,HM⟩:=hrel;clear CQ DM bw1;by_cases hlt:Ds.length<Is.length
  ·obtain ⟨x,hx⟩:∃x,Is[Ds.length]? =some x:=⟨_,List.getElem?_eq_getElem hlt⟩
   have hdr:Is.drop Ds.length=x::Is.drop (Ds.length+1):=by
    rw [List.drop_eq_getElem_cons hlt]
    congr 1
    exact Option.some.inj ((List.getElem?_eq_getElem hlt).symm.trans hx)
   rw [hdr] at HQ;have u1:(Ds.length:Int)<(Is.length:Int):=by omega
   have u3:(0:Int)≤(Ds.length:Int):=by omega
   obtain ⟨ce, -⟩:=Mem.own_cell (za HQ).row (k:=Ds.length*2+1) (u:=x.t.val) (Pl.zu8 _ Ds.length x (by rw [List.getElem?_append_right (Nat.le_refl _),Nat.sub_self];rfl)).2;simp only [Pl.Tr.val] at ce;have hcp:=hide (za HCP x Ds.length hx wr hbel);have hS:=hbel.size;have HST:=hide (fun W1 b t ht=>(za HQ).step (W1:=W1) (t:=t) b hS ht);have HQ2:=hide (fun W1 (b:Below wr.heap.size wr W1)=>(Mem.own_cell ((za HQ).call b).row (k:=Ds.length*2+1) (u:=x.t.val) (Pl.zu8 _ Ds.length x (by rw [List.getElem?_append_right (Nat.le_refl _),Nat.sub_self];rfl)).2));have HMX:Hid ((Is.take (Ds.length+1)).map Pl.It.r=(Is.take Ds.length).map Pl.It.r++[x.r]):=hide (by rw [List.take_add_one,hx,List.map_append];rfl);clear hdr hx HQ;go_wp2_with fail
   refine (za hcp).mono ?_;rintro e w2 ⟨v2,rfl,own2,b2⟩;obtain ⟨a2,c2,rfl⟩:=Mem.za4 own2;obtain ⟨ce2,cf2⟩:=za HQ2 w2 b2;have Q3:=hide (za HST w2 b2 ⟨a2,c2,x.t.L⟩ own2);have bw2:=hbel.trans (b2.mono hbel.size);have HB:=hide (bw2.setCell (p:=⟨g,Ds.length*2+1,none⟩) (za HGW) (.slice a2 x.t.L.length c2));have HM3:Hid ((Ds++[(⟨x.m,⟨a2,c2,x.t.L⟩⟩:Pl.It)]).map Pl.It.r=(Is.take (Ds.length+1)).map Pl.It.r):=hide (by rw [List.map_append,za HM,za HMX];rfl);simp only [Pl.Tr.val] at ce2 Q3;clear hcp HST HQ2 HMX HM own2 b2 bw2 ce hbel;go_wp2
   go_roundw
   case rel=>
    refine ⟨Ds++[⟨x.m,⟨a2,c2,x.t.L⟩⟩],?_,?_,za HB,?_,?_⟩
    ·rw [List.length_append,List.length_singleton];go_num
    ·rw [List.length_append,List.length_singleton];omega
    ·rw [List.length_append,List.length_singleton];exact Q3
    ·rw [List.length_append,List.length_singleton];exact HM3
   case measure=>simp [intOf];omega
  ·have u1:¬ (Ds.length:Int)<(Is.length:Int):=by omega
   have hDe:Ds.length=Is.length:=by omega
   have IO:Hid (Mem.Io wr w.heap.size (.slice (some ⟨g,0,none⟩) Is.length cap') Ds):=hide (by
    have h1:=za HQ;rw [hDe,List.drop_length] at h1;have h2:=h1.done;rw [hDe] at h2
    exact h2)
   have HM3:Hid (Ds.map Pl.It.r=Is.map Pl.It.r):=hide (by have :=za HM;rw [hDe,List.take_length] at this;exact this);clear HQ HM hDe;go_wp2
   go_ret
   exact ⟨g,cap',rfl,za HGW,Ds,za IO,za HM3,hbel⟩
end WCopy5
end
section
open Go.RowKit
namespace zi6
set_option maxRecDepth 100000 in
theorem zc6 (c:Int) (w:World):
  Calls Tryz.prog 14 #[.int .i64 c] w fun e w'=>e= .returned (.agg #[.slice none 0 0, .int .i64 c])∧Below w.heap.size w w':=by
 go_enter Tryz.func14,Tryz.ntmps14
 go_wp2
 refine bodyPost_ret (v:= .agg #[.slice none 0 0, .int .i64 c]) (by simp [results,Tryz.results14,go_sem]) rfl ⟨rfl,?_⟩;exact (Below.refl _ _).alloc (Nat.le_refl _) _
end zi6
end
section
open Go.RowKit
namespace zv1
theorem many_at {Is:List Pl.It} {j m:Nat} (h:(Pl.rowO (Is.map Pl.It.r))[j]? =some (some m)):∃x,Is[j]? =some x∧x.m=(m:Int):=by
 rw [Pl.rowO,List.getElem?_map,List.getElem?_map] at h;cases hx:Is[j]? with
 |none=>rw [hx] at h;simp at h
 |some x=>
  rw [hx] at h;simp at h
  exact ⟨x,rfl,(Pl.ym0 h).1⟩
set_option linter.unusedSimpArgs false in
set_option maxRecDepth 100000 in
set_option maxHeartbeats 1000000 in
theorem zu6 (a:Option Addr) (cap:Nat) (Is:List Pl.It) (hl:Is.length≤12) (w:World) (hv:Mem.zb0 w a Is) (k:Pl.Fo) (hN:Pl.nest (Pl.rowO (Is.map Pl.It.r))=some k):
  Calls Tryz.prog 36 #[.slice a Is.length cap] w fun e w'=>e= .returned (.int .i64 (k.level:Int))∧w'=w:=by
 obtain ⟨hA,hB⟩:=Pl.yl2 hN;have HA:=hide hA;obtain ⟨x,hx,hxm⟩:=many_at hB;have hkl:k.level<Is.length:=(List.getElem?_eq_some_iff.1 hx).1;obtain ⟨⟨b,o,rfl,hb,q0, -⟩, -⟩:=hv _ x hx;rw [hxm] at q0;have HQ:=hide q0;have HV:=hide hv;clear hA hB hN hv q0 hx hxm;go_enter Tryz.func36,Tryz.ntmps36
 go_wp2
 go_loopw [3] (fun i wr=>∃j:Nat,i= .int .i64 (j:Int)∧j≤k.level∧wr=w) (fun i _=>k.level - (intOf i).toNat)
 case atStart=>exact ⟨0,rfl,Nat.zero_le _,rfl⟩
 case round=>
  obtain ⟨j,rfl,hj,rfl⟩:=hrel;have u3:(0:Int)≤(j:Int):=by omega
  have u4:(j:Int)<(Is.length:Int):=by omega
  by_cases hlt:j<k.level
  ·obtain ⟨m,hm⟩:=za HA j hlt;obtain ⟨y,hy,hym⟩:=many_at hm;obtain ⟨⟨b2,o2,e2,hb2,c0, -⟩, -⟩:=za HV j y hy;cases e2
   rw [hym] at c0;have u5:(0:Int)<((m+1:Nat):Int):=by omega
   clear hm hy hym HA HV HQ;go_wp2
   go_roundw
   case rel=>exact ⟨j+1,by go_num,by omega,trivial⟩
   case measure=>simp [intOf];omega
  ·have hjl:j=k.level:=by omega
   subst hjl;have c0:=za HQ;clear HA HV HQ;go_wp2
   go_ret
   exact ⟨rfl,rfl⟩
end zv1
end
section
open Go.RowKit
namespace Mem
theorem zg8 {w:World} {g o:Nat} {L:List Pl.Nd} (h:za2 w (some ⟨g,o,none⟩) L) (p:Addr) (v:Value) (hp:p.block≠g):za2 (w.setCell p v) (some ⟨g,o,none⟩) L:=fun i n hi=>by
 obtain ⟨g',o',h1,h2,h3,h4,h5,h6,h7⟩:=h i n hi;cases h1
 refine ⟨g,o,rfl,by simpa using h2,?_,?_,?_,?_,?_⟩ <;> (rw [World.cell?_setCell_far _ _ _ _ hp];assumption)
end Mem
end
section
open Go.RowKit
namespace Pl
def decF:Nat→Nat→List UInt8→List UInt8
 |0,_,out=>out
 |f+1,k,out=>if k=0 then out else decF f (k / 10) (UInt8.ofNat (48+k % 10)::out)
theorem decF_zero (f:Nat) (out:List UInt8):decF f 0 out=out:=by cases f <;> simp [decF]
theorem decF_step {f k:Nat} (h:0<k) (out:List UInt8):decF (f+1) k out=decF f (k / 10) (UInt8.ofNat (48+k % 10)::out):=by
 rw [decF,if_neg (by omega)]
def mark (k:Nat):ByteArray:=⟨(109::decF k k []).toArray⟩
def marks (k:Nat):Nat→List ByteArray
 |0=>[]
 |n+1=>marks k n++[mark (k+n)]
end Pl
namespace WMarks
set_option maxRecDepth 100000 in
set_option maxHeartbeats 400000 in
theorem zm2 (K:Nat) (w:World) (h0:0<K) (hK:K≤9000000000000000000):
  Calls Tryz.prog 52 #[.int .i64 (K:Int)] w fun e w'=>e= .returned (.string (Pl.mark K))∧Below w.heap.size w w':=by
 have p1:¬ (K:Int)≤0:=by omega
 go_enter Tryz.func52,Tryz.ntmps52
 go_wp2
 go_loopw [0,3] (fun a o wr=>∃ (f k:Nat) (out:List UInt8),k≤f∧out.length+k≤K∧a= .int .i64 (k:Int)∧o= .string ⟨out.toArray⟩∧Below w.heap.size w wr∧Hid (Pl.decF f k out=Pl.decF K K [])) (fun a _ _=>(intOf a).toNat)
 case atStart=>exact ⟨K,K,[],Nat.le_refl _,by simp,rfl,rfl,Below.refl _ _,rfl⟩
 case round=>
  obtain ⟨f,k,out,hf,hk,rfl,rfl,hbel,HD⟩:=hrel;have hsz:=hbel.size;have ho:¬9223372036854775807<1+out.length:=by omega
  by_cases hk0:0<k
  ·obtain ⟨f,rfl⟩:∃g,f=g+1:=⟨f - 1,by omega⟩;have HD2:Hid (Pl.decF f (k / 10) (UInt8.ofNat (48+k % 10)::out)=Pl.decF K K []):=(Pl.decF_step hk0 out).symm.trans HD.out;have p2:(0:Int)<(k:Int):=by omega
   clear HD
   have hb:((UInt8.ofNat (48+k % 10)).toNat:Int)=48+(k:Int) % 10:=by
    rw [UInt8.toNat_ofNat_of_lt' (by show 48+k % 10<256;omega)];omega
   have hcv:=Mem.row_text (P:=Tryz.prog) (w:=wr.alloc (.cells #[.int .u8 (48+(k:Int) % 10)] 5)) (n:=1) (cap:=1) Tryz.underlying139 Tryz.underlying5 Tryz.underlying9 [UInt8.ofNat (48+k % 10)] rfl (heap_alloc_new wr _) (by simp only [List.map_cons,List.map_nil,Pl.zh4,hb];rfl)
   have HX:Hid ((⟨[UInt8.ofNat (48+k % 10)].toArray⟩:ByteArray)++(⟨out.toArray⟩:ByteArray)=⟨(UInt8.ofNat (48+k % 10)::out).toArray⟩):=by
    show _=_;rw [Pl.ym6];rfl
   have hbel2:=hbel.alloc hsz (.cells #[.int .u8 (48+(k:Int) % 10)] 5);generalize UInt8.ofNat (48+k % 10)=b at hcv HX HD2;clear hb;go_wp2
   go_roundw
   case rel=>exact ⟨f,k / 10,b::out,by omega,by simp;omega,by go_num,congrArg Value.string HX.out,hbel2,HD2⟩
   case measure=>simp [intOf];omega
  ·have HD2:Hid (out=Pl.decF K K []):=by
    obtain rfl:k=0:=by omega
    exact (Pl.decF_zero f out).symm.trans HD.out
   have p2:¬ (0:Int)<(k:Int):=by omega
   have HX:Hid ((⟨#[109]⟩:ByteArray)++(⟨out.toArray⟩:ByteArray)=Pl.mark K):=by
    show _=_;rw [Pl.mark,←HD2.out];exact Pl.ym6 [109] ⟨out.toArray⟩
   clear HD;go_wp2
   go_ret
   exact ⟨congrArg (fun x=>Ending.returned (.string x)) HX.out,hbel⟩
end WMarks
end
section
open Go.RowKit
namespace Pl
def yf (K i:Nat):Nd:=⟨mark (K+5*i),((K+5*i+1:Nat):Int),mark (K+5*i+2),((K+5*i+3:Nat):Int),((K+5*i+4:Nat):Int)⟩
def zt4 (K n:Nat):List Nd:=(List.range n).map (yf K)
theorem markN_get {K n i:Nat} {m:Nd} (h:(zt4 K n)[i]? =some m):i<n∧m=yf K i:=by
 unfold zt4 at h;rw [List.getElem?_map,Option.map_eq_some_iff] at h;obtain ⟨j,hj,rfl⟩:=h;obtain ⟨h1,h2⟩:=List.getElem?_eq_some_iff.1 hj;simp at h1 h2
 subst h2;exact ⟨h1,rfl⟩
theorem yi7 (K n:Nat):(zt4 K n).length=n:=by simp [zt4]
def rowAt (cv:Array Value) (j:Nat) (m:Nd):Prop:=cv[j*5]? =some (.string m.path)∧cv[j*5+1]? =some (.int .i64 m.kind)∧cv[j*5+2]? =some (.string m.data)∧cv[j*5+3]? =some (.int .i64 m.time)∧cv[j*5+4]? =some (.int .i64 m.mark)
end Pl
namespace ye6
theorem ya0 {w v v':World} {g:Nat} (h:w.grownBy v (some g)) (b:Below v.heap.size v v'):w.grownBy v' (some g):=
 ⟨b.os.trans h.os,b.tape.trans h.tape,b.output.trans h.output,Nat.le_trans h.size b.size,fun j hj hne=>(b.block j (Nat.lt_of_lt_of_le hj h.size)).trans (h.block j hj hne)⟩
theorem zd3 {w v:World} {g o:Nat} {x:Value} (h:w.grownBy v (some g)):w.grownBy (v.setCell ⟨g,o,none⟩ x) (some g):=
 ⟨h.os,h.tape,h.output,Nat.le_trans h.size (by simp [World.setCell]),fun j hj hne=>(Below.heap_setCell _ _ _ _ (by intro e;exact hne (by rw [e]))).trans (h.block j hj hne)⟩
set_option maxRecDepth 100000 in
set_option maxHeartbeats 400000 in
theorem lay_any (g n cap K:Nat) (cur:Array Value) (w:World) (hn:n≤1048576) (hK:0<K) (hK2:K≤8000000000000000000) (hrow:w.heap[g]? =some (.cells cur 47 (0,0))) (hsz:n*5≤cur.size):
  Calls Tryz.prog 25 #[.slice (some ⟨g,0,none⟩) n cap, .int .i64 (K:Int)] w fun e w'=>e= .returned (.int .i64 ((K+5*n:Nat):Int))∧
   (∃cur',w'.heap[g]? =some (.cells cur' 47 (0,0))∧cur'.size=cur.size)∧Mem.za2 w' (some ⟨g,0,none⟩) (Pl.zt4 K n)∧w.grownBy w' (some g):=by
 have HR0:=hide hrow;have HS0:=hide hsz;clear hrow hsz;go_enter Tryz.func25,Tryz.ntmps25
 go_wp2
 go_loopw [1,5] (fun a i wr=>∃ (k q:Nat) (cv:Array Value),k≤n∧q=K+5*k∧i= .int .i64 (k:Int)∧a= .int .i64 (q:Int)∧Hid (wr.heap[g]? =some (.cells cv 47 (0,0)))∧Hid (cv.size=cur.size)∧Hid (w.grownBy wr (some g))∧
   Hid (∀j,j<k→Pl.rowAt cv j (Pl.yf K j))) (fun _ i _=>n - (intOf i).toNat)
 case atStart=>exact ⟨0,K,cur,Nat.zero_le _,rfl,rfl,rfl,HR0,rfl,⟨rfl,rfl,rfl,Nat.le_refl _,fun _ _ _=>rfl⟩,fun j h=>absurd h (by omega)⟩
 case round=>
  obtain ⟨k,q,cv,hk,hq,rfl,rfl,HR,HS,HG,HA⟩:=hrel;by_cases hlt:k<n
  ·have y1:(k:Int)<(n:Int):=by omega
   have y3:(0:Int)≤(k:Int):=by omega
   have HM:=hide (fun W=>WMarks.zm2 q W (by omega) (by omega));have HM2:=hide (fun W=>WMarks.zm2 (q+2) W (by omega) (by omega));rw [show ((q+2:Nat):Int)=(q:Int)+1+1 by omega] at HM2;have HQ:=hide hq;have q1:(q:Int)≤9000000000000000000:=by omega
   clear hq;go_wp2_with fail
   refine (za HM _).mono ?_;rintro e w2 ⟨rfl,b2⟩;have hg:g<wr.heap.size:=(Array.getElem?_eq_some_iff.1 (za HR)).1;have HR2:=hide ((b2.block _ hg).trans (za HR));have hcz:n*5≤cv.size:=by rw [za HS];exact za HS0
   have s0:∃x,w2.cell? ⟨g,k*5,none⟩=some x:=⟨_,(cell_of_row w2 _ (k*5) _ _ (0,0) (za HR2)).trans (Array.getElem?_eq_getElem (by omega))⟩;have s1:∃x,w2.cell? ⟨g,k*5+1,none⟩=some x:=⟨_,(cell_of_row w2 _ (k*5+1) _ _ (0,0) (za HR2)).trans (Array.getElem?_eq_getElem (by omega))⟩;obtain ⟨x0,s0⟩:=s0;obtain ⟨x1,s1⟩:=s1;have f0:∀j,w2.frozen? ⟨g,j,none⟩=false:=fun j=>Mem.zg1 (za HR2);have HG2:=hide (ya0 (za HG) b2);have HCZ:=hide hcz;clear b2 HR HG hcz hg HM;go_wp2_with fail
   have HR3:=hide (heap_setCell_same _ _ (k*5+1) _ _ (.int .i64 ((q:Int)+1)) (heap_setCell_same _ _ (k*5) _ _ (.string (Pl.mark q)) (za HR2)));have HG3:=hide (zd3 (o:=k*5+1) (x:= .int .i64 ((q:Int)+1)) (zd3 (o:=k*5) (x:= .string (Pl.mark q)) (za HG2)));refine (za HM2 _).mono ?_;rintro e w4 ⟨rfl,b4⟩;have HR4:=hide ((b4.block _ (Array.getElem?_eq_some_iff.1 (za HR3)).1).trans (za HR3));have HG4:=hide (ya0 (za HG3) b4);have hcz:=za HCZ;have s2:∃x,w4.cell? ⟨g,k*5+2,none⟩=some x:=⟨_,(cell_of_row w4 _ (k*5+2) _ _ (0,0) (za HR4)).trans (Array.getElem?_eq_getElem (by simp;omega))⟩;have s3:∃x,w4.cell? ⟨g,k*5+3,none⟩=some x:=⟨_,(cell_of_row w4 _ (k*5+3) _ _ (0,0) (za HR4)).trans (Array.getElem?_eq_getElem (by simp;omega))⟩;have s4:∃x,w4.cell? ⟨g,k*5+4,none⟩=some x:=⟨_,(cell_of_row w4 _ (k*5+4) _ _ (0,0) (za HR4)).trans (Array.getElem?_eq_getElem (by simp;omega))⟩;obtain ⟨x2,s2⟩:=s2
   obtain ⟨x3,s3⟩:=s3;obtain ⟨x4,s4⟩:=s4;have f4:∀j,w4.frozen? ⟨g,j,none⟩=false:=fun j=>Mem.zg1 (za HR4);clear b4 HR2 HG2 HR3 HG3 hcz HM2 s0 s1 f0;go_wp2
   go_roundw
   case rel=>
    refine ⟨k+1,q+5,_,by omega,by have :=za HQ;omega,by go_num,by go_num,hide (heap_setCell_same _ _ (k*5+4) _ _ _ (heap_setCell_same _ _ (k*5+3) _ _ _ (heap_setCell_same _ _ (k*5+2) _ _ _ (za HR4)))),?_,hide (zd3 (zd3 (zd3 (za HG4)))),?_⟩
    ·exact hide (by simpa using za HS)
    ·intro j hj;have hcz:=za HCZ
     rcases Nat.lt_succ_iff_lt_or_eq.1 hj with h''|rfl
     ·obtain ⟨i0,i1,i2,i3,i4⟩:=HA.out j h'';simp only [Pl.rowAt,Array.getElem?_setIfInBounds];refine ⟨?_,?_,?_,?_,?_⟩ <;> (repeat (rw [if_neg (by omega)])) <;> assumption
     ·have hq:=za HQ;simp only [Pl.rowAt,Pl.yf,Array.getElem?_setIfInBounds,Array.size_setIfInBounds,←hq];refine ⟨?_,?_,?_,?_,?_⟩ <;> simp <;> omega
   case measure=>simp [intOf];omega
  ·obtain rfl:k=n:=by omega
   have y1:¬ (k:Int)<(k:Int):=by omega
   have hq2:(q:Int)=((K+5*k:Nat):Int):=by omega
   have HQ:=hide hq2;clear hq2 hq;go_wp2
   go_ret
   refine ⟨by rw [za HQ];rfl,⟨cv,za HR,za HS⟩,fun j m hj=>?_,za HG⟩;obtain ⟨hjl,rfl⟩:=Pl.markN_get hj;obtain ⟨i0,i1,i2,i3,i4⟩:=HA.out j hjl;refine ⟨g,0,rfl,(Array.getElem?_eq_some_iff.1 (za HR)).1,?_,?_,?_,?_,?_⟩
   ·rw [cell_of_row wr _ _ _ _ (0,0) (za HR),Nat.zero_add];exact i0
   ·rw [cell_of_row wr _ _ _ _ (0,0) (za HR),Nat.zero_add];exact i1
   ·rw [cell_of_row wr _ _ _ _ (0,0) (za HR),Nat.zero_add];exact i2
   ·rw [cell_of_row wr _ _ _ _ (0,0) (za HR),Nat.zero_add];exact i3
   ·rw [cell_of_row wr _ _ _ _ (0,0) (za HR),Nat.zero_add];exact i4
end ye6
end
section
open Go.RowKit
namespace Pl
def kAt (K:Nat) (Is:List It):Nat→Nat
 |0=>K
 |i+1=>kAt K Is i+match Is[i]? with
  |some x=>1+5*x.t.L.length
  |none=>0
theorem kAt_succ {K:Nat} {Is:List It} {i:Nat} {x:It} (h:Is[i]? =some x):kAt K Is (i+1)=kAt K Is i+1+5*x.t.L.length:=by
 rw [kAt,h];show kAt K Is i+(1+5*x.t.L.length)=_;omega
theorem kAt_ge (K:Nat) (Is:List It) (i:Nat):K≤kAt K Is i:=by
 induction i with
 |zero=>exact Nat.le_refl _
 |succ i ih=>simp only [kAt];omega
def mkIt (K:Nat) (Is:List It) (i:Nat) (x:It):It:=⟨(kAt K Is i:Int),⟨x.t.a,x.t.cap,zt4 (kAt K Is i+1) x.t.L.length⟩⟩
def mkTo (K:Nat) (Is:List It) (i:Nat):List It:=Is.mapIdx (fun j x=>if j<i then mkIt K Is j x else x)
theorem mkTo_len (K:Nat) (Is:List It) (i:Nat):(mkTo K Is i).length=Is.length:=by simp [mkTo]
theorem mkTo_zero (K:Nat) (Is:List It):mkTo K Is 0=Is:=by
 apply List.ext_getElem?
 intro j;simp [mkTo,List.getElem?_mapIdx]
theorem yg0 (K:Nat) (Is:List It) (i j:Nat):(mkTo K Is i)[j]? =Is[j]?.map (fun x=>if j<i then mkIt K Is j x else x):=by
 simp [mkTo,List.getElem?_mapIdx]
theorem mkTo_succ (K:Nat) {Is:List It} {i:Nat} {x:It} (h:Is[i]? =some x):(mkTo K Is i).set i (mkIt K Is i x)=mkTo K Is (i+1):=by
 apply List.ext_getElem?
 intro j;have hlt:=(List.getElem?_eq_some_iff.1 h).1;rw [List.getElem?_set,yg0,yg0];by_cases e:i=j
 ·subst e;rw [if_pos rfl,if_pos (by rw [mkTo_len];exact hlt),h];simp
 ·rw [if_neg e];cases Is[j]? with
  |none=>rfl
  |some y=>
   simp only [Option.map_some]
   congr 1
   by_cases h1:j<i
   ·rw [if_pos h1,if_pos (by omega)]
   ·rw [if_neg h1,if_neg (by omega)]
end Pl
namespace Mem
structure OwnI (w:World) (B g:Nat) (Is:List Pl.It):Prop where
 row:∃cur,w.heap[g]? =some (.cells cur 53 (0,0))∧Is.length*2≤cur.size
 lo:B≤g
 items:zb0 w (some ⟨g,0,none⟩) Is
 own:∀ (i:Nat) x,Is[i]? =some x→(x.t.a=none∧x.t.L=[]∧x.t.cap=0)∨∃h cur,x.t.a=some ⟨h,0,none⟩∧B≤h∧h≠g∧w.heap[h]? =some (.cells cur 47 (0,0))∧x.t.L.length*5≤cur.size
 apart:∀ (i j:Nat) x y,i≠j→Is[i]? =some x→Is[j]? =some y→∀h,x.t.a=some ⟨h,0,none⟩→y.t.a≠some ⟨h,0,none⟩
theorem OwnI.call {w w':World} {B g:Nat} {Is:List Pl.It} (o:OwnI w B g Is) (b:Below w.heap.size w w'):OwnI w' B g Is:=by
 obtain ⟨cur,h1,h2⟩:=o.row;refine ⟨⟨cur,(b.block _ (Array.getElem?_eq_some_iff.1 h1).1).trans h1,h2⟩,o.lo,zb2 o.items b,fun i x hx=>?_,o.apart⟩
 rcases o.own i x hx with h|⟨h,c,k1,k2,k3,k4,k5⟩
 ·exact .inl h
 ·exact .inr ⟨h,c,k1,k2,k3,(b.block _ (Array.getElem?_eq_some_iff.1 k4).1).trans k4,k5⟩
theorem zl9 {Is:List Pl.It} {i:Nat} {x x':Pl.It} (hx:Is[i]? =some x) {j:Nat} {y:Pl.It} (hy:(Is.set i x')[j]? =some y):(j=i∧y=x')∨(j≠i∧Is[j]? =some y):=by
 rw [List.getElem?_set] at hy;by_cases e:i=j
 ·subst e;rw [if_pos rfl,if_pos (List.getElem?_eq_some_iff.1 hx).1] at hy;cases hy;exact .inl ⟨rfl,rfl⟩
 ·rw [if_neg e] at hy;exact .inr ⟨fun h=>e h.symm,hy⟩
theorem OwnI.many {w:World} {B g i:Nat} {Is:List Pl.It} {x:Pl.It} (o:OwnI w B g Is) (hx:Is[i]? =some x) (k:Int):OwnI (w.setCell ⟨g,i*2,none⟩ (.int .i64 k)) B g (Is.set i ⟨k,x.t⟩):=by
 obtain ⟨cur,h1,h2⟩:=o.row;have hlt:=(List.getElem?_eq_some_iff.1 hx).1;have hr:=heap_setCell_same w g (i*2) cur 53 (.int .i64 k) h1;have hg:=(Array.getElem?_eq_some_iff.1 h1).1;have far:∀h,h≠g→(w.setCell ⟨g,i*2,none⟩ (.int .i64 k)).heap[h]? =w.heap[h]?:=fun h hh=>heap_setCell_other _ _ _ _ hh
 have nod:∀ (j:Nat) y,Is[j]? =some y→za2 (w.setCell ⟨g,i*2,none⟩ (.int .i64 k)) y.t.a y.t.L:=fun j y hy=>by
  rcases o.own j y hy with ⟨e1,e2, -⟩|⟨h,c,k1,k2,k3, -⟩
  ·rw [e2];exact yd3 _ _
  ·have :=(o.items j y hy).2;rw [k1] at this ⊢;exact zg8 this _ _ (fun e=>k3 e.symm)
 refine ⟨⟨_,hr,by simpa using h2⟩,o.lo,fun j y hy=>?_,fun j y hy=>?_,fun a b y z hab hy hz h=>?_⟩
 ·rcases zl9 hx hy with ⟨rfl,rfl⟩|⟨hne,hy'⟩
  ·refine ⟨⟨g,0,rfl,by simpa using hg,?_,?_⟩,nod j x hx⟩
   ·rw [cell_of_row _ _ _ _ _ (0,0) hr,Nat.zero_add,Array.getElem?_setIfInBounds,if_pos rfl,if_pos (by omega)]
   ·obtain ⟨⟨g',o',e, -, -,c2⟩, -⟩:=o.items j x hx;cases e
    rw [cell_of_row _ _ _ _ _ (0,0) h1] at c2;rw [cell_of_row _ _ _ _ _ (0,0) hr,Array.getElem?_setIfInBounds,if_neg (by omega)];exact c2
  ·obtain ⟨⟨g',o',e, -,c1,c2⟩, -⟩:=o.items j y hy';cases e
   rw [cell_of_row _ _ _ _ _ (0,0) h1] at c1 c2;refine ⟨⟨g,0,rfl,by simpa using hg,?_,?_⟩,nod j y hy'⟩
   ·rw [cell_of_row _ _ _ _ _ (0,0) hr,Array.getElem?_setIfInBounds,if_neg (by omega)];exact c1
   ·rw [cell_of_row _ _ _ _ _ (0,0) hr,Array.getElem?_setIfInBounds,if_neg (by omega)];exact c2
 ·have key:∃ (j':Nat) (y':Pl.It),Is[j']? =some y'∧y'.t=y.t:=by
   rcases zl9 hx hy with ⟨rfl,rfl⟩|⟨-,hy'⟩
   ·exact ⟨_,x,hx,rfl⟩
   ·exact ⟨_,y,hy',rfl⟩
  obtain ⟨j',y',hy',e⟩:=key;rw [←e]
  rcases o.own j' y' hy' with h|⟨h,c,k1,k2,k3,k4,k5⟩
  ·exact .inl h
  ·exact .inr ⟨h,c,k1,k2,k3,(far h k3).trans k4,k5⟩
 ·rcases zl9 hx hy with ⟨rfl,rfl⟩|⟨-,hy'⟩
  ·rcases zl9 hx hz with ⟨rfl, -⟩|⟨-,hz'⟩
   ·exact absurd rfl hab
   ·exact o.apart _ _ x z hab hx hz' h
  ·rcases zl9 hx hz with ⟨rfl,rfl⟩|⟨-,hz'⟩
   ·exact o.apart _ _ y x hab hy' hx h
   ·exact o.apart _ _ y z hab hy' hz' h
theorem OwnI.nodes {w w':World} {B g i h:Nat} {Is:List Pl.It} {x:Pl.It} {M:List Pl.Nd} (o:OwnI w B g Is) (hx:Is[i]? =some x) (ha:x.t.a=some ⟨h,0,none⟩) (gr:w.grownBy w' (some h))
  (hrow:∃cur,w'.heap[h]? =some (.cells cur 47 (0,0))∧x.t.L.length*5≤cur.size) (hn:za2 w' (some ⟨h,0,none⟩) M) (hM:M.length=x.t.L.length):OwnI w' B g (Is.set i ⟨x.m,⟨x.t.a,x.t.cap,M⟩⟩):=by
 obtain ⟨cur,h1,h2⟩:=o.row;have hg:=(Array.getElem?_eq_some_iff.1 h1).1
 have hgh:g≠h:=by
  rcases o.own i x hx with ⟨e, -, -⟩|⟨h',c,k1, -,k3, -⟩
  ·rw [e] at ha;cases ha
  ·rw [k1] at ha;cases ha;exact fun e=>k3 e.symm
 have hB:B≤h:=by
  rcases o.own i x hx with ⟨e, -, -⟩|⟨h',c,k1,k2, -⟩
  ·rw [e] at ha;cases ha
  ·rw [k1] at ha;cases ha;exact k2
 have h1':w'.heap[g]? =some (.cells cur 53 (0,0)):=(gr.block g hg (fun e=>hgh (Option.some.inj e))).trans h1
 have oth:∀ (j:Nat) y,j≠i→Is[j]? =some y→za2 w' y.t.a y.t.L:=fun j y hj hy=>by
  rcases o.own j y hy with ⟨e1,e2, -⟩|⟨h',c,k1,k2,k3, -⟩
  ·rw [e2];exact yd3 _ _
  ·have hh:h'≠h:=fun e=>by subst e;exact o.apart i j x y (fun e=>hj e.symm) hx hy _ ha k1
   have :=(o.items j y hy).2;rw [k1] at this ⊢;exact yd9 this gr (fun e=>hh (Option.some.inj e))
 have cel:∀ (j:Nat) y,Is[j]? =some y→∃b o',some ⟨g,0,none⟩=some (⟨b,o',none⟩:Addr)∧b<w'.heap.size∧w'.cell? ⟨b,o'+j*2,none⟩=some (.int .i64 y.m)∧w'.cell? ⟨b,o'+j*2+1,none⟩=some y.t.val:=fun j y hy=>by
  obtain ⟨⟨g',o',e, -,c1,c2⟩, -⟩:=o.items j y hy;cases e
  rw [cell_of_row _ _ _ _ _ (0,0) h1] at c1 c2;exact ⟨g,0,rfl,Nat.lt_of_lt_of_le hg gr.size,by rw [cell_of_row _ _ _ _ _ (0,0) h1'];exact c1,by rw [cell_of_row _ _ _ _ _ (0,0) h1'];exact c2⟩
 refine ⟨⟨cur,h1',by simpa using h2⟩,o.lo,fun j y hy=>?_,fun j y hy=>?_,fun a b y z hab hy hz k=>?_⟩
 ·rcases zl9 hx hy with ⟨rfl,rfl⟩|⟨hne,hy'⟩
  ·obtain ⟨b,o',e,q1,q2,q3⟩:=cel j x hx;refine ⟨⟨b,o',e,q1,q2,?_⟩,by simp only [ha];exact hn⟩;rw [q3];simp only [Pl.Tr.val,hM]
  ·exact ⟨cel j y hy',oth j y hne hy'⟩
 ·rcases zl9 hx hy with ⟨rfl,rfl⟩|⟨hne,hy'⟩
  ·obtain ⟨c,r1,r2⟩:=hrow;exact .inr ⟨h,c,ha,hB,fun e=>hgh e.symm,r1,by simp only [hM];exact r2⟩
  ·rcases o.own j y hy' with hh|⟨h',c,k1,k2,k3,k4,k5⟩
   ·exact .inl hh
   ·have hne':h'≠h:=fun e=>by subst e;exact o.apart i j x y (fun e=>hne e.symm) hx hy' _ ha k1
    exact .inr ⟨h',c,k1,k2,k3,(gr.block h' (Array.getElem?_eq_some_iff.1 k4).1 (fun e=>hne' (Option.some.inj e))).trans k4,k5⟩
 ·rcases zl9 hx hy with ⟨rfl,rfl⟩|⟨-,hy'⟩
  ·rcases zl9 hx hz with ⟨rfl, -⟩|⟨-,hz'⟩
   ·exact absurd rfl hab
   ·exact o.apart _ _ x z hab hx hz' k
  ·rcases zl9 hx hz with ⟨rfl,rfl⟩|⟨-,hz'⟩
   ·exact o.apart _ _ y x hab hy' hx k
   ·exact o.apart _ _ y z hab hy' hz' k
end Mem
end
section
open Go.RowKit
namespace Pl
theorem cellsI_set {Ds:List It} {k:Nat} {x:It} (t:Tr) (h:Ds[k]? =some x):(zd7 Ds).set (k*2+1) t.val=zd7 (Ds.set k ⟨x.m,t⟩):=by
 obtain ⟨hk,hx⟩:=List.getElem?_eq_some_iff.1 h;have e:Ds=Ds.take k++x::Ds.drop (k+1):=by rw [←hx,List.getElem_cons_drop,List.take_append_drop]
 have hl:(Ds.take k).length=k:=by rw [List.length_take];omega
 have e2:Ds.set k ⟨x.m,t⟩=Ds.take k++⟨x.m,t⟩::Ds.drop (k+1):=by
  rw [List.set_eq_take_append_cons_drop,if_pos hk]
 rw [e2,←yk7 x t (Ds.drop (k+1)) (Ds.take k),←e,hl]
end Pl
namespace Mem
theorem Io.tree {W:World} {S B g n cap k:Nat} {Ds:List Pl.It} {x:Pl.It} {t:Pl.Tr} (h:Io W S (.slice (some ⟨g,0,none⟩) n cap) Ds) (hk:Ds[k]? =some x) (ht:ownN W B t.val t.L) (hS:S≤B) (hg:g<B) (hb:∀ (i:Nat) y,Ds[i]? =some y→∀q,y.t.val.ownBlock=some q→q<B):
  Io (W.setCell ⟨g,k*2+1,none⟩ t.val) S (.slice (some ⟨g,0,none⟩) n cap) (Ds.set k ⟨x.m,t⟩):=by
 have off:∀ {v:Value} {L:List Pl.Nd} {B:Nat},ownN W B v L→(∀q,v.ownBlock=some q→q≠g)→ownN (W.setCell ⟨g,k*2+1,none⟩ t.val) B v L:=fun {v L B} hv hn=>by
  refine ⟨hv.1,?_⟩
  rcases hv.2 with h0|⟨q,c,cur,e,hb,hq,rest⟩
  ·exact .inl h0
  ·exact .inr ⟨q,c,cur,e,hb,(heap_setCell_other _ _ _ _ (hn q (by rw [e];rfl))).trans hq,rest⟩
 have hlo:∀q,t.val.ownBlock=some q→B≤q:=fun q hq=>(ze3 ht q hq).1;refine ⟨?_,fun i y hy=>?_,fun i j y z hij hy hz q hq=>?_⟩
 ·have hn:n=Ds.length:=(Io.items h).1;subst hn;have h2:=own_put h.row (k*2+1) t.val;rw [Pl.cellsI_set t hk] at h2;rw [List.length_set];exact h2
 ·rcases zl9 hk hy with ⟨rfl,rfl⟩|⟨hne,hy⟩
  ·exact ⟨zb3 (off ht (fun q hq e=>by have :=hlo q hq;omega)) hS,fun q hq e=>by have :=hlo q hq;have e2:g=q:=Option.some.inj e;omega⟩
  ·exact ⟨off (h.each i y hy).1 (fun q hq e=>(h.each i y hy).2 q hq (by rw [e];rfl)),(h.each i y hy).2⟩
 ·rcases zl9 hk hy with ⟨e1,e2⟩|⟨hne,hy2⟩
  ·rcases zl9 hk hz with ⟨e3,e4⟩|⟨hne2,hz2⟩
   ·exact absurd (e1.trans e3.symm) hij
   ·intro e;subst e2;have :=hlo q hq;have :=hb j z hz2 q e;omega
  ·rcases zl9 hk hz with ⟨e3,e4⟩|⟨hne2,hz2⟩
   ·intro e;subst e4;have :=hlo q e;have :=hb i y hy2 q hq;omega
   ·exact h.apart i j y z hij hy2 hz2 q hq
end Mem
end
section
open Go.RowKit
namespace zi6
def Outs (w w':World) (c:Int) (I:List (Int × List Pl.Nd)) (e:Ending):Prop:=∃v Js,e= .returned (.agg #[v, .int .i64 c])∧Mem.Io w' w.heap.size v Js∧Js.map Pl.It.r=I
set_option linter.unusedSimpArgs false in
set_option maxRecDepth 100000 in
set_option maxHeartbeats 2000000 in
theorem done_any (b o cap:Nat) (Is:List Pl.It) (a:Option Addr) (ct:Nat) (O:List Pl.Nd) (k:Pl.Fo) (w:World) (hv:Mem.zb0 w (some ⟨b,o,none⟩) Is) (hl:Is.length≤12) (hN:Pl.nest (Pl.rowO (Is.map Pl.It.r))=some k) (hL:∀x∈Is,x.t.L.length≤1000) (hR:∀x∈Is,Mem.okR x.t.a x.t.cap x.t.L) (hO:O.length≤1000) (hA:Mem.okR a ct O) (hn:Mem.za2 w a O):
  Calls Tryz.prog 33 #[.slice (some ⟨b,o,none⟩) Is.length cap, .agg #[.slice a O.length ct]] w fun e w'=>Outs w w' (if 40<O.length then 9 else 0) (if 40<O.length then [] else (Is.map Pl.It.r).set k.level ((0:Int),O)) e∧Below w.heap.size w w':=by
 have b0:Below w.heap.size w ((w.alloc (.cells #[.slice a O.length ct] 43)).alloc (.cells #[.slice none 0 0, .int .i64 0] 26)):=(bE0).alloc (by simp) _;have T0:Mem.Blk ((w.alloc (.cells #[.slice a O.length ct] 43)).alloc (.cells #[.slice none 0 0, .int .i64 0] 26)) w.heap.size #[.slice a O.length ct] 43:=(Mem.Blk.new _ _ _).alloc _
 have R0:Mem.Blk ((w.alloc (.cells #[.slice a O.length ct] 43)).alloc (.cells #[.slice none 0 0, .int .i64 0] 26)) (w.heap.size+1) #[.slice none 0 0, .int .i64 0] 26:=by
  have h:=Mem.Blk.new (w.alloc (.cells #[.slice a O.length ct] 43)) #[.slice none 0 0, .int .i64 0] 26
  simpa using h
 by_cases h40:40<O.length
 ·rw [if_pos h40,if_pos h40];have t0:(40:Int)<(O.length:Int):=by omega
  have c0:=T0.cell 0;simp only [kA0,kA1] at c0;clear hv hL hR hA hn hN T0;go_enter Tryz.func33,Tryz.ntmps33
  go_wp2_with fail
  refine (zc6 9 _).mono ?_;rintro e w1 ⟨rfl,b1⟩;have bw1:=b0.trans (b1.mono b0.size);have R1:=R0.call b1;obtain ⟨⟨d0,d1⟩,f0,f1⟩:=jf2 R1;go_wp2
  refine bodyPost_ret (v:= .agg #[.slice none 0 0, .int .i64 9]) (by simp [results,Tryz.results33,go_sem,d0,d1]) rfl ⟨⟨_,[],rfl,Mem.Io.nil _ _,rfl⟩,?_⟩;exact (bw1.setCell (by show w.heap.size≤w.heap.size+1;omega) _).setCell (by show w.heap.size≤w.heap.size+1;omega) _
 rw [if_neg h40,if_neg h40];have t0:¬ (40:Int)<(O.length:Int):=by omega
 obtain ⟨-,hB⟩:=Pl.yl2 hN;obtain ⟨y,hy,hy0⟩:=zv1.many_at hB;have hkl:k.level<Is.length:=(List.getElem?_eq_some_iff.1 hy).1;have h0:Is.length≠0:=by omega
 have hix:0≤(k.level:Int)∧(k.level:Int)<(Is.length:Int):=by omega
 have HCP:=hide (fun W (bb:Below w.heap.size w W)=>WCopy5.yb2 b o cap Is hl h0 hL hR W (Mem.zb2 hv bb));have HFI:=hide (fun W (bb:Below w.heap.size w W)=>zv1.zu6 (some ⟨b,o,none⟩) cap Is hl W (Mem.zb2 hv bb) k hN);have HCO:=hide (fun W (bb:Below w.heap.size w W)=>WCopyV.yb2 a ct O W hO hA (Mem.za0 hn bb));have hs0:((w.alloc (.cells #[.slice a O.length ct] 43)).alloc (.cells #[.slice none 0 0, .int .i64 0] 26)).heap.size=w.heap.size+1+1:=by simp
 have HKX:Hid (Is[k.level]? =some y∧y.m=0):=⟨hy,hy0⟩;have c0:=T0.cell 0;simp only [kA0,kA1] at c0;clear hv hL hR hA hn hN hy hy0 hB;go_enter Tryz.func33,Tryz.ntmps33
 go_wp2_with fail
 refine (za HCP _ b0).mono ?_;rintro e w1 ⟨g,cap',Ds,rfl,hg1,hio,hds,b1⟩;have bw1:=b0.trans (b1.mono b0.size);have QB:=hide (⟨T0.call b1,R0.call b1⟩:Mem.Blk w1 w.heap.size #[.slice a O.length ct] 43∧Mem.Blk w1 (w.heap.size+1) #[.slice none 0 0, .int .i64 0] 26);rw [hs0] at hio;have IO:=hide hio
 obtain ⟨x,hxk,hx0⟩:∃x,Ds[k.level]? =some x∧x.m=0:=by
  obtain ⟨hy,hy0⟩:=za HKX;have h1:(Ds.map Pl.It.r)[k.level]? =some y.r:=by rw [hds,List.getElem?_map,hy];rfl
  rw [List.getElem?_map] at h1;obtain ⟨x,h2,h3⟩:=Option.map_eq_some_iff.1 h1;exact ⟨x,h2,(congrArg Prod.fst h3).trans hy0⟩
 have hDs:=hide hds;clear hio hds T0 R0 b0 b1 HCP HKX c0 hg1;go_upto_region 4 with fail
 have bd:Below w1.heap.size w1 w1.drew:=⟨rfl,rfl,rfl,Nat.le_refl _,fun _ _=>rfl⟩;have QD:=hide (⟨(za QB).1.call bd,(za QB).2.call bd⟩:Mem.Blk w1.drew w.heap.size #[.slice a O.length ct] 43∧Mem.Blk w1.drew (w.heap.size+1) #[.slice none 0 0, .int .i64 0] 26);have BD:=bw1.trans (bd.mono bw1.size);have ID:=(za IO).call bd;clear bd;refine wp_region_held_drew (S:=fun W'=>W'.cell? ⟨w.heap.size,0,none⟩=some (.slice a O.length ct)) (by kernel_rfl) ?_ (fun hHeld=>?_)
 ·have h:=(za QD).1.cell 0;simpa using h
 generalize w1.drew=WD at hHeld QD BD ID ⊢;have IO:=hide ID;clear QB ID bw1;refine TB 0 ?_;refine TB 1 ?_;refine TB 3 ?_;refine RN 2 fun K hK=>?_;go_simp
 refine (za HFI _ BD).mono ?_;rintro e wX ⟨rfl,hwX⟩;subst wX;refine hK.out _ _ ?_ (fun hHeld2=>?_)
 ·assumption
 clear hK K hHeld;have hHeld:=hHeld2;clear hHeld2 HFI
 try simp only [Act.put,kBs]
 refine RN 4 fun K hK=>?_;go_simp
 refine (za HCO _ BD).mono ?_;rintro e wY ⟨v,rfl,own,b2⟩;obtain ⟨a',c',rfl⟩:=Mem.za4 own;have Q2:=hide (⟨(za QD).1.call b2,(za QD).2.call b2⟩:Mem.Blk wY w.heap.size #[.slice a O.length ct] 43∧Mem.Blk wY (w.heap.size+1) #[.slice none 0 0, .int .i64 0] 26);have IO2:=hide ((za IO).call b2);have hlt:=(za IO).lt;have hWD:=(za QD).2.lt;have bw2:=BD.trans (b2.mono BD.size);refine hK.out _ _ ?_ (fun hHeld2=>?_)
 ·have h:=(za Q2).1.cell 0;simpa using h
 clear hK K hHeld QD IO b2 HCO;have hHeld:=hHeld2;clear hHeld2
 try simp only [Act.put,kBs]
 refine TB 5 ?_;refine TB 6 ?_;obtain ⟨cOld,fOld⟩:=Mem.own_cell (show wY.ownsRow (w.heap.size+1+1) 53 2 (.slice (some ⟨g,0,none⟩) Is.length cap') Is.length (Pl.zd7 Ds) by have h:=(za IO2).row;rw [←(za IO2).items.1] at h;exact h) (k:=k.level*2+1) (Pl.zu8 Ds k.level x hxk).2;refine RN 7 fun K hK=>?_;go_simp
 have IO3:=hide ((za IO2).tree (t:=⟨a',c',O⟩) hxk own (by omega) (hlt.1 g rfl).2 (fun i y hy q hq=>(hlt.2 i y hy q hq).2));have bw3:=bw2.setCell (p:=⟨g,k.level*2+1,none⟩) (by have :=(hlt.1 g rfl).1;show w.heap.size≤g;omega) (.slice a' O.length c');have Q3:=(za Q2).2.far ⟨g,k.level*2+1,none⟩ (.slice a' O.length c') (by have :=(hlt.1 g rfl).1;show w.heap.size+1≠g;omega);have Q4:=(za Q2).1.far ⟨g,k.level*2+1,none⟩ (.slice a' O.length c') (by have :=(hlt.1 g rfl).1;show w.heap.size≠g;omega);refine hK.out _ _ ?_ (fun hHeld2=>?_)
 ·have h:=Q4.cell 0;simpa using h
 clear hK K hHeld hHeld2 Q2 IO2 bw2 own cOld fOld Q4;refine wpAnyH_done (by kernel_rfl) ?_ _;obtain ⟨⟨d0,d1⟩,f0,f1⟩:=jf2 Q3;go_wp2
 refine bodyPost_ret (v:= .agg #[.slice (some ⟨g,0,none⟩) Is.length cap', .int .i64 0]) (by simp [results,Tryz.results33,go_sem,d0,d1]) rfl ⟨⟨_,_,rfl,(((za IO3).set _ _ (by show w.heap.size+1<w.heap.size+1+1;omega)).set _ _ (by show w.heap.size+1<w.heap.size+1+1;omega)).mono (by omega),?_⟩,?_⟩
 ·rw [List.map_set,za hDs,show Pl.It.r ⟨x.m,⟨a',c',O⟩⟩=((0:Int),O) by rw [show Pl.It.r ⟨x.m,⟨a',c',O⟩⟩=(x.m,O) from rfl,hx0]]
 ·exact (bw3.setCell (by show w.heap.size≤w.heap.size+1;omega) _).setCell (by show w.heap.size≤w.heap.size+1;omega) _
end zi6
end
section
open Go.RowKit
namespace zw1
theorem zn2:(Tryz.prog.info? 47).map (fun i=>(i.zero,i.size,i.bytes))=some (some (.agg #[.string ⟨#[]⟩, .int .i64 0, .string ⟨#[]⟩, .int .i64 0, .int .i64 0]),5,56):=by kernel_rfl
end zw1
end
section
open Go.RowKit
namespace zw1
structure At (w wr:World) (a:Option Addr) (cap:Nat) (L:List Pl.Nd) (k:Nat) (v:Value):Prop where
 bel:Below w.heap.size w wr
 one:Mem.Blk wr w.heap.size #[.slice a L.length cap] 43
 two:Mem.Blk wr (w.heap.size+1) #[.slice none 0 0] 43
 out:Mem.Blk wr (w.heap.size+1+1) #[v] 43
 own:Mem.ownN wr (w.heap.size+3) v (Pl.zc8 (L.take k))
set_option maxRecDepth 100000 in
set_option maxHeartbeats 1000000 in
theorem l04_any (a:Option Addr) (cap:Nat) (L:List Pl.Nd) (w:World) (hl:L.length≤1048576) (hv:Mem.za2 w a L):
  Calls Tryz.prog 60 #[.agg #[.slice a L.length cap]] w fun e w'=>∃v,e= .returned (.agg #[v])∧Mem.ownN w' w.heap.size v (Pl.zc8 L)∧Below w.heap.size w w':=by
 obtain ⟨i0,hi,hz0,hz1,hz2⟩:=info_parts zn2;have HV:=hide hv;clear hv
 have H0:At w (((w.alloc (.cells #[.slice a L.length cap] 43)).alloc (.cells #[.slice none 0 0] 43)).alloc (.cells #[.slice none 0 0] 43)) a cap L 0 (.slice none 0 0):=
  ⟨(((Below.refl _ _).alloc (Nat.le_refl _) _).alloc (by simp) _).alloc (by simp;omega) _,((Mem.Blk.new _ _ _).alloc _).alloc _,(by have h:=(Mem.Blk.new (w.alloc (.cells #[.slice a L.length cap] 43)) #[.slice none 0 0] 43).alloc (.cells #[.slice none 0 0] 43);rwa [show (w.alloc (.cells #[.slice a L.length cap] 43)).heap.size=w.heap.size+1 by simp] at h),Mem.zp3 _ _ _ _,by simpa [Pl.zc8] using Mem.zb5 _ _⟩
 have HH:=hide H0;clear H0;go_enter Tryz.func60,Tryz.ntmps60
 go_wp2
 go_loopw [4] (fun i wr=>∃k:Nat,k≤L.length∧i= .int .i64 (k:Int)∧Hid (∃v,At w wr a cap L k v)) (fun i _=>L.length - (intOf i).toNat)
 case atStart=>exact ⟨0,Nat.zero_le _,rfl,⟨_,za HH⟩⟩
 case round=>
  obtain ⟨k,hk,rfl,HA⟩:=hrel;obtain ⟨v,A⟩:=za HA;have c1:=A.one.cell 0;have c3:=A.out.cell 0;have f3:=A.out.fr 0;simp only [kA0,kA1] at c1 c3;have KA:=hide A;clear HA A HH;by_cases hlt:k<L.length
  ·obtain ⟨n,hn⟩:∃n,L[k]? =some n:=⟨_,List.getElem?_eq_getElem hlt⟩;obtain ⟨b,o,rfl,hb,q0,q1,q2,q3,q4⟩:=(Mem.za0 (za HV) (za KA).bel) k n hn;have y1:(k:Int)<(L.length:Int):=by omega
   have y3:(0:Int)≤(k:Int):=by omega
   by_cases hk0:n.kind=0
   ·have t2:(n.kind==0)=true:=by simpa using hk0
    have H2:Hid (At w (wr.alloc (.cells #[.string n.path, .int .i64 0, .string n.data, .int .i64 n.time, .int .i64 0] 47)) (some ⟨b,o,none⟩) cap L (k+1) v):=
     ⟨(za KA).bel.alloc (za KA).bel.size _,(za KA).one.alloc _,(za KA).two.alloc _,(za KA).out.alloc _,by rw [Pl.yl6 hn hk0];exact Mem.zf5 (za KA).own _⟩
    clear KA;go_wp2
    go_roundw
    case rel=>exact ⟨k+1,by omega,by go_num,⟨v,za H2⟩⟩
    case measure=>simp [intOf];omega
   ·have t2:(n.kind==0)=false:=by simpa using hk0
    have HPL:=hide (Pl.plainL_in hn hk0);have HLEN:=hide (Pl.zz0 L k);have HLT:=hide (Mem.ze3 (za KA).own);have HSZ:=hide (za KA).out.lt;clear hn hk0;obtain ⟨p,k0,d,t,m⟩:=n;simp only [Pl.Nd.bare] at q0 q1 q2 q3 q4 t2 HPL;have c3a:=((za KA).out.alloc (.cells #[.string p, .int .i64 k0, .string d, .int .i64 t, .int .i64 0] 47)).cell 0;simp only [kA0,kA1] at c3a;have bW:=(za KA).bel.alloc (za KA).bel.size (.cells #[.string p, .int .i64 k0, .string d, .int .i64 t, .int .i64 0] 47);have OWD:=Mem.zf5 (za KA).own (.cells #[.string p, .int .i64 k0, .string d, .int .i64 t, .int .i64 0] 47);have BLD:=hide ((za KA).out.alloc (.cells #[.string p, .int .i64 k0, .string d, .int .i64 t, .int .i64 0] 47))
    have BL1:=hide ((za KA).one.alloc (.cells #[.string p, .int .i64 k0, .string d, .int .i64 t, .int .i64 0] 47));have BL2:=hide ((za KA).two.alloc (.cells #[.string p, .int .i64 k0, .string d, .int .i64 t, .int .i64 0] 47));have hWs:(wr.alloc (.cells #[.string p, .int .i64 k0, .string d, .int .i64 t, .int .i64 0] 47)).heap.size=wr.heap.size+1:=by simp
    clear KA
    have hnew:∀j u,[Value.string p, .int .i64 k0, .string d, .int .i64 t, .int .i64 0][j]? =some u→((wr.alloc (.cells #[.string p, .int .i64 k0, .string d, .int .i64 t, .int .i64 0] 47)).alloc (.cells #[.string p, .int .i64 k0, .string d, .int .i64 t, .int .i64 0] 47)).cell? ((⟨wr.heap.size+1,0,none⟩:Addr).add j)=some u:=by
     have h:=Mem.zp1 (wr.alloc (.cells #[.string p, .int .i64 k0, .string d, .int .i64 t, .int .i64 0] 47)) ⟨p,k0,d,t,0⟩ 47;rw [hWs] at h;exact h
    have HNW:=hide hnew;clear hnew;go_wp2_with (at_builtin;refine wpList_append_own _ rfl _ _ 41 rfl (w.heap.size+3) 47 i0 _ 5 56 Tryz.underlying41 hi hz0 hz1 hz2 rfl (by decide) _ _ _ rfl (Mem.zf5 OWD _) ⟨wr.heap.size+1,0,none⟩ 1 1 [.string p, .int .i64 k0, .string d, .int .i64 t, .int .i64 0] rfl rfl (za HNW) (Mem.zm9 ⟨p,k0,d,t,0⟩) (by have :=za HLEN;unfold maxLen;omega) (by have :=za HLEN;omega) (by have :=za HSZ;simp;omega) ?_)
    intro v'' wZ hownZ hgrow _;obtain ⟨a',cap',hv'⟩:=Mem.za4 hownZ;subst hv';have blkZ:=((za BLD).alloc (.cells #[.string p, .int .i64 k0, .string d, .int .i64 t, .int .i64 0] 47)).grown hgrow (fun e=>by have :=(za HLT _ e.symm).1;omega);have cZ:=blkZ.cell 0;have fZ:=blkZ.fr 0;simp only [kA0,kA1] at cZ
    have FIN:Hid (At w (wZ.setCell ⟨w.heap.size+1+1,0,none⟩ (.slice a' ((Pl.zc8 (L.take k)).length+1) cap')) (some ⟨b,o,none⟩) cap L (k+1) (.slice a' ((Pl.zc8 (L.take k)).length+1) cap')):=
     ⟨(((bW.alloc bW.size (.cells #[.string p, .int .i64 k0, .string d, .int .i64 t, .int .i64 0] 47)).grown hgrow (by have :=bW.size;simp;omega) (fun q hq=>by have :=(za HLT q hq).1;omega)).setCell (by show w.heap.size≤w.heap.size+1+1;omega) _),
      (((za BL1).alloc (.cells #[.string p, .int .i64 k0, .string d, .int .i64 t, .int .i64 0] 47)).grown hgrow (fun e=>by have :=(za HLT _ e.symm).1;omega)).far _ _ (by show w.heap.size≠w.heap.size+1+1;omega),
      (((za BL2).alloc (.cells #[.string p, .int .i64 k0, .string d, .int .i64 t, .int .i64 0] 47)).grown hgrow (fun e=>by have :=(za HLT _ e.symm).1;omega)).far _ _ (by show w.heap.size+1≠w.heap.size+1+1;omega),
      blkZ.put 0 (.slice a' ((Pl.zc8 (L.take k)).length+1) cap'),by
      rw [za HPL]
      exact Mem.za8 (Mem.zk5 (L:=Pl.zc8 (L.take k)) (n:=⟨p,k0,d,t,0⟩) hownZ) _ _ (by show w.heap.size+1+1<w.heap.size+3;omega)⟩
    clear blkZ hownZ hgrow BLD BL1 BL2 OWD bW;go_wp2
    go_roundw
    case rel=>exact ⟨k+1,by omega,by go_num,⟨.slice a' ((Pl.zc8 (L.take k)).length+1) cap',za FIN⟩⟩
    case measure=>simp [intOf];omega
  ·have y1:¬ (k:Int)<(L.length:Int):=by omega
   obtain rfl:k=L.length:=by omega
   obtain ⟨a',cap',hv'⟩:=Mem.za4 (za KA).own;subst hv';have c2:=(za KA).two.cell 0;have f2:=(za KA).two.fr 0;simp only [kA0,kA1] at c2;go_wp2
   refine bodyPost_ret (v:= .agg #[.slice a' (Pl.zc8 (L.take L.length)).length cap']) (by simp [results,Tryz.results60,go_sem,c2]) rfl ⟨_,rfl,?_,?_⟩
   ·have h:=(za KA).own;rw [show Pl.zc8 (L.take L.length)=Pl.zc8 L by rw [List.take_length]] at h ⊢;exact Mem.zb3 (Mem.za8 h _ _ (by show w.heap.size+1<w.heap.size+3;omega)) (by omega)
   ·exact (za KA).bel.setCell (by show w.heap.size≤w.heap.size+1;omega) _
end zw1
end
section
open Go.RowKit
namespace zl8
theorem ym3 (a:Option Addr) (cap:Nat) (L:List Pl.Nd) (w:World) (hl:L.length≤1048576) (hv:Mem.za2 w a L) (hok:∀n∈L,n.path.size≤1048576∧n.data.size≤1048576):
  Calls Tryz.prog 100 #[.agg #[.slice a L.length cap]] w fun e w'=>e= .returned (.bool (Pl.za5 L))∧Below w.heap.size w w':=by
 have h:=zl6 a cap L w hl hv hok;rw [Pl.tree_same] at h;exact h
end zl8
end
section
open Go.RowKit
namespace zv1
set_option maxRecDepth 100000 in
theorem item_any (m:Int) (a:Option Addr) (cap:Nat) (L:List Pl.Nd) (w:World) (hl:L.length≤1048576) (hv:Mem.za2 w a L) (hok:∀n∈L,n.path.size≤1048576∧n.data.size≤1048576):
  Calls Tryz.prog 97 #[.agg #[.int .i64 m, .slice a L.length cap]] w fun e w'=>e= .returned (.bool (Pl.zk m L))∧Below w.heap.size w w':=by
 have b0:∀o,Below w.heap.size w (w.alloc o):=fun o=>(Below.refl _ _).alloc (Nat.le_refl _) o;have HB:=hide b0;by_cases h0:m=0
 ·subst h0;rw [Pl.ym8];have hz:=hide (fun W (b:Below w.heap.size w W)=>zl8.ym3 a cap L W hl (Mem.za0 hv b) hok);clear hv hok b0;go_enter Tryz.func97,Tryz.ntmps97
  go_wp2_with fail
  refine (za hz _ (za HB _)).mono ?_;rintro e w1 ⟨rfl,b1⟩;have bb:=(za HB _).trans (b1.mono (za HB _).size);clear hz b1;go_wp2
  go_ret
  exact ⟨rfl,bb⟩
 ·rw [Pl.yf5 h0];have hIS:=hide (WNode.is_any m 1 4);generalize (decide ((1:Int)≤m)&&decide (m≤4))=V at hIS;clear hv hok b0;go_enter Tryz.func97,Tryz.ntmps97
  go_wp2_with fail
  refine (za hIS _).mono ?_;rintro e w1 ⟨rfl,rfl⟩;cases V
  ·go_wp2
   go_ret
   exact ⟨by simp,za HB _⟩
  ·by_cases h1:L.length=0
   ·have t1:(L.length:Int)=0:=by omega
    go_wp2
    go_ret
    exact ⟨by simp [h1],za HB _⟩
   ·have t1:¬ (L.length:Int)=0:=by omega
    go_wp2
    go_ret
    exact ⟨by simp [h1],za HB _⟩
set_option linter.unusedSimpArgs false in
set_option maxRecDepth 100000 in
set_option maxHeartbeats 1000000 in
theorem end_any (a:Option Addr) (cap:Nat) (Is:List Pl.It) (hl:Is.length≤12) (hok:∀x∈Is,x.t.L.length≤1048576∧∀n∈x.t.L,n.path.size≤1048576∧n.data.size≤1048576) (q:Nat):
  ∀ (deep p:Nat) (w:World),deep+q=5→p≤Is.length→Mem.zb0 w a Is→
  Calls Tryz.prog 55 #[.slice a Is.length cap, .int .i64 (p:Int), .int .i64 (deep:Int)] w fun e w'=>e= .returned (.int .i64 (Pl.endI Is.length (Pl.ends 1 deep ((Pl.rowO (Is.map Pl.It.r)).drop p))))∧Below w.heap.size w w':=by
 have hrl:(Pl.rowO (Is.map Pl.It.r)).length=Is.length:=by rw [Pl.zw0,List.length_map]
 induction q with
 |zero=>
  intro deep p w hd hp hv;rw [Pl.ends_deep deep _ (by omega)];simp only [Pl.endI];have t1:(4:Int)<(deep:Int):=by omega
  by_cases hlt:(Is.length:Int)≤(p:Int)
  ·go_enter Tryz.func55,Tryz.ntmps55
   go_wp2
   go_ret
   exact ⟨rfl,Below.refl _ _⟩
  ·go_enter Tryz.func55,Tryz.ntmps55
   go_wp2
   go_ret
   exact ⟨rfl,Below.refl _ _⟩
 |succ q ih=>
  intro deep p w hd hp hv;by_cases hlt:(Is.length:Int)≤(p:Int)
  ·have e:(Pl.rowO (Is.map Pl.It.r)).drop p=[]:=List.drop_eq_nil_of_le (by omega);rw [e,Pl.ends_nil];simp only [Pl.endI];go_enter Tryz.func55,Tryz.ntmps55
   go_wp2
   go_ret
   exact ⟨rfl,Below.refl _ _⟩
  have t1:¬ (4:Int)<(deep:Int):=by omega
  have t2:(0:Int)≤(p:Int):=by omega
  have t3:(p:Int)<(Is.length:Int):=by omega
  obtain ⟨x,hx⟩:∃x,Is[p]? =some x:=⟨_,List.getElem?_eq_getElem (by omega)⟩;obtain ⟨⟨b,o,rfl,hb,q0,q0'⟩,q1⟩:=hv p x hx;have hz:=hide (item_any x.m x.t.a x.t.cap x.t.L w (hok x (List.mem_of_getElem? hx)).1 q1 (hok x (List.mem_of_getElem? hx)).2);have hrow:(Pl.rowO (Is.map Pl.It.r)).drop p=Pl.zr1 (x.m,x.t.L)::(Pl.rowO (Is.map Pl.It.r)).drop (p+1):=Pl.rowO_at (by rw [List.getElem?_map,hx];rfl);have c0:=q0;have c1:=q0';simp only [Pl.Tr.val] at c1;have HI:=hide (fun (p':Nat) (W:World) (hp':p'≤Is.length) (bb:Below w.heap.size w W)=>ih (deep+1) p' W (by omega) hp' (Mem.zb2 hv bb));have HQ:=hide q0;have HR:=hide hrl;rw [hrow];generalize hLL:Pl.rowO (Is.map Pl.It.r)=LL at hrl hrow HI HR ⊢;clear hLL hv hok ih hx q0' q1 hrow;cases hib:Pl.zk x.m x.t.L
  ·rw [hib] at hz;rw [Pl.itemO_no hib,Pl.ends_none];simp only [Pl.endI];clear HI hib q0;go_enter Tryz.func55,Tryz.ntmps55
   go_wp2_with fail
   refine (za hz).mono ?_;rintro e w1 ⟨rfl,b1⟩;clear hz;go_wp2
   go_ret
   exact ⟨rfl,b1⟩
  ·rw [hib] at hz;obtain ⟨hm0,hm4⟩:=Pl.yd5 hib;rw [Pl.itemO_yes hib,Pl.ends_one];obtain ⟨mm,hmm⟩:∃mm:Nat,x.m=(mm:Int):=⟨x.m.toNat,by omega⟩;rw [hmm] at c0 hz HQ ⊢;rw [Int.toNat_natCast];have hm5:mm≤4:=by omega
   clear hib hmm hm0 hm4 q0;generalize hT:Pl.ends mm (deep+1) (LL.drop (p+1))=T;have HT:=hide hT;clear hT;go_enter Tryz.func55,Tryz.ntmps55
   go_wp2_with fail
   refine (za hz).mono ?_;rintro e w1 ⟨rfl,b1⟩;have c2:=(b1.cell (p:=⟨b,_,none⟩) hb).trans (za HQ);clear hz c0 c1 HQ;go_wp2
   go_loopw [1,7] (fun v k wr=>∃kk:Nat,k= .int .i64 (kk:Int)∧kk≤4∧Below w.heap.size w wr∧((∃p':Nat,v= .int .i64 (p':Int)∧p'≤Is.length∧Hid (Pl.ends kk (deep+1) (LL.drop p')=T))∨(v= .int .i64 (-1)∧Hid (T=none)))) (fun _ k _=>(intOf k).toNat)
   case atStart=>exact ⟨mm,rfl,hm5,b1, .inl ⟨p+1,by go_num,by omega,HT⟩⟩
   case round=>
    obtain ⟨kk,rfl,hk4,hbel,hcase⟩:=hrel
    rcases hcase with ⟨p',rfl,hp',HE⟩|⟨rfl,HE⟩
    ·have u0:(0:Int)≤(p':Int):=by omega
     cases kk with
     |zero=>
      have hfin:Pl.endI Is.length T=(p':Int):=by
       rw [←za HE,Pl.ends_zero _ _ (by omega),Pl.endI,List.length_drop];omega
      go_wp2
      go_ret
      exact ⟨by first |rfl |(rw [hfin];rfl),hbel⟩
     |succ kk=>
      have u1:(0:Int)<((kk+1:Nat):Int):=by omega
      have hcall:=hide (za HI p' wr hp' hbel);go_wp2_with fail
      simp only [show (deep:Int)+1=((deep+1:Nat):Int) by omega,show IntKind.i64.wrap ((deep+1:Nat):Int)=((deep+1:Nat):Int) by rw [IntKind.wrap_i64];omega];refine (za hcall).mono ?_;rintro e w2 ⟨rfl,b2⟩;have hb2:=hbel.trans (b2.mono hbel.size);have hst:=za HE;rw [Pl.ends_step] at hst;cases hR:Pl.ends 1 (deep+1) (LL.drop p') with
      |none=>
       rw [hR] at hst;have HE2:Hid (T=none):=hide (by rw [←hst];rfl);simp only [Pl.endI];clear hst HE hR hcall b2;go_wp2
       go_roundw
       case rel=>exact ⟨kk,by go_num,by omega,hb2, .inr ⟨rfl,HE2⟩⟩
       case measure=>simp [intOf]
      |some R=>
       rw [hR] at hst;obtain ⟨p2,e2,hp2,hd2⟩:=Pl.ends_at (za HR) hp' hR;rw [e2];have HE2:Hid (Pl.ends kk (deep+1) (LL.drop p2)=T):=hide (by rw [hd2,←hst];rfl);clear hst HE hR hcall b2 hd2 e2;go_wp2
       go_roundw
       case rel=>exact ⟨kk,by go_num,by omega,hb2, .inl ⟨p2,rfl,hp2,HE2⟩⟩
       case measure=>simp [intOf]
    ·have hfin:Pl.endI Is.length T= -1:=by rw [za HE];rfl
     by_cases hk0:(0:Int)<(kk:Int)
     ·go_wp2
      go_ret
      exact ⟨by first |rfl |(rw [hfin];rfl),hbel⟩
     ·go_wp2
      go_ret
      exact ⟨by first |rfl |(rw [hfin];rfl),hbel⟩
set_option maxRecDepth 100000 in
theorem zl6 (a:Option Addr) (cap:Nat) (Is:List Pl.It) (w:World) (hl:Is.length≤1048576) (hv:Mem.zb0 w a Is) (hok:∀x∈Is,x.t.L.length≤1048576∧∀n∈x.t.L,n.path.size≤1048576∧n.data.size≤1048576):
  Calls Tryz.prog 28 #[.slice a Is.length cap] w fun e w'=>e= .returned (.bool (Pl.nest (Pl.rowO (Is.map Pl.It.r))).isSome)∧Below w.heap.size w w':=by
 have hrl:(Pl.rowO (Is.map Pl.It.r)).length=Is.length:=by rw [Pl.zw0,List.length_map]
 by_cases h12:Is.length≤12
 ·have t0:(Is.length:Int)≤12:=by omega
  have hz:=hide (end_any a cap Is h12 hok 4 1 0 w rfl (Nat.zero_le _) hv);have hne:=Pl.nest_ends (Pl.rowO (Is.map Pl.It.r)) (by omega);have hen:∀R,Pl.ends 1 1 ((Pl.rowO (Is.map Pl.It.r)).drop 0)=some R→R.length≤Is.length:=fun R h=>by have :=(Pl.ends_len h).1;simp only [List.drop_zero] at this;omega
  rw [List.drop_zero] at hz hen;generalize Pl.ends 1 1 (Pl.rowO (Is.map Pl.It.r))=E at hz hne hen;generalize (Pl.nest (Pl.rowO (Is.map Pl.It.r))).isSome=V at hne ⊢;clear hv hok hrl;have HN:=hide hne;have HEN:=hide hen;clear hne hen;go_enter Tryz.func28,Tryz.ntmps28
  go_wp2_with fail
  refine (za hz).mono ?_;rintro e w1 ⟨rfl,b1⟩;clear hz;by_cases hE:Pl.endI Is.length E=(Is.length:Int)
  ·have hV:V=true:=(za HN).2 (by
    cases E with
    |none=>simp [Pl.endI] at hE
    |some R=>rw [Pl.endI] at hE;rw [List.eq_nil_of_length_eq_zero (by omega :R.length=0)])
   go_wp2
   go_ret
   exact ⟨by rw [hV];rfl,b1⟩
  ·have hV:V=false:=by
    cases hV:V
    ·rfl
    ·exact absurd (by rw [(za HN).1 hV];simp [Pl.endI]) hE
   go_wp2
   go_ret
   exact ⟨by rw [hV];simp [hE],b1⟩
 ·have t0:¬ (Is.length:Int)≤12:=by omega
  rw [Pl.yj _ (by omega)];go_enter Tryz.func28,Tryz.ntmps28
  go_wp2
  go_ret
  exact ⟨rfl,Below.refl _ _⟩
end zv1
end
section
namespace zw
theorem drop_cons {Is:List Pl.It} {p:Nat} {L:List Pl.Nd} {k m:Pl.Fx} {R:List (Int × List Pl.Nd)} (h:(Is.drop p).map Pl.It.r=(Pl.Fx.cons L k m).flat++R):∃x,Is[p]? =some x∧x.m=(k.len:Int)∧x.t.L=L∧(Is.drop (p+1)).map Pl.It.r=k.flat++(m.flat++R):=by
 rw [Pl.Fx.flat,List.cons_append] at h;cases hd:Is.drop p with
 |nil=>rw [hd] at h;cases h
 |cons x T=>
  rw [hd] at h;simp only [List.map_cons,List.cons.injEq] at h
  have hx:Is[p]? =some x:=by
   have :=List.getElem?_drop (xs:=Is) (i:=p) (j:=0);rw [hd] at this
   simpa using this.symm
  have hT:Is.drop (p+1)=T:=by rw [←List.drop_drop,hd];rfl
  refine ⟨x,hx,congrArg Prod.fst h.1,congrArg Prod.snd h.1,?_⟩;rw [hT,h.2,List.append_assoc]
theorem drop_more {Is:List Pl.It} {k:Pl.Fx}:∀ {p:Nat} {R:List (Int × List Pl.Nd)},(Is.drop p).map Pl.It.r=k.flat++R→(Is.drop (p+k.sz)).map Pl.It.r=R:=by
 intro p R h;rw [←List.drop_drop,List.map_drop,h,←Pl.Fx.zw6,List.drop_left]
end zw
end
section
open Go.RowKit
namespace zj1
set_option maxRecDepth 100000 in
theorem zc6 (c:Int) (w:World):
  Calls Tryz.prog 59 #[.int .i64 c] w fun e w'=>e= .returned (.agg #[.slice none 0 0, .int .i64 c])∧Below w.heap.size w w':=by
 have b0:Below w.heap.size w (w.alloc (.cells #[.slice none 0 0, .int .i64 c] 64)):=bE0;have HB:=hide (fun o (a:Addr) v (h:w.heap.size≤a.block) (a2:Addr) v2 (h2:w.heap.size≤a2.block)=>((((Below.refl w.heap.size w).alloc (Nat.le_refl _) o).setCell h v).setCell h2 v2));clear b0;go_enter Tryz.func59,Tryz.ntmps59
 go_wp2
 refine bodyPost_ret (v:= .agg #[.slice none 0 0, .int .i64 c]) (by simp [results,Tryz.results59,go_sem]) rfl ⟨rfl,?_⟩;exact bE0
end zj1
end
section
open Go.RowKit
namespace zn6
theorem infoI:(Tryz.prog.info? 3).map (fun i=>(i.zero,i.size,i.bytes))=some (some (.int .i64 0),1,8):=by kernel_rfl
def intsV (ks:List Nat):List Value:=ks.map (fun k:Nat=>Value.int .i64 (k:Int))
def ownI (w:World) (B:Nat) (v:Value) (ks:List Nat):Prop:=w.ownsRow B 3 1 v ks.length (intsV ks)
theorem ownI_call {w w':World} {B:Nat} {v:Value} {ks:List Nat} (h:ownI w B v ks) (b:Below w.heap.size w w'):ownI w' B v ks:=by
 refine ⟨h.1,?_⟩
 rcases h.2 with h0|⟨g,cap,cur,hv,hb,hg,rest⟩
 ·exact .inl h0
 ·exact .inr ⟨g,cap,cur,hv,hb,(b.block g (Array.getElem?_eq_some_iff.1 hg).1).trans hg,rest⟩
theorem ownI_snoc {w:World} {B:Nat} {v:Value} {ks:List Nat} {k:Nat} (h:w.ownsRow B 3 1 v (ks.length+1) (intsV ks++[.int .i64 (k:Int)])):ownI w B v (ks++[k]):=by
 unfold ownI intsV;rw [List.map_append,List.length_append];exact h
end zn6
end
section
open Go.RowKit
namespace zn6
set_option linter.unusedSimpArgs false in
set_option maxRecDepth 100000 in
set_option maxHeartbeats 1000000 in
theorem all_any (n:Nat) (w:World) (hn:n≤4):
  Calls Tryz.prog 139 #[.int .i64 (n:Int)] w fun e w'=>∃v,e= .returned v∧ownI w' w.heap.size v (List.range n)∧Below w.heap.size w w':=by
 obtain ⟨i0,hi,hz0,hz1,hz2⟩:=info_parts infoI;have A0:Hid (Below w.heap.size w (w.alloc (.cells #[] 3))∧ownI (w.alloc (.cells #[] 3)) w.heap.size (.slice (some ⟨w.heap.size,0,none⟩) 0 0) (List.range 0)):=⟨bE0,⟨rfl, .inr ⟨w.heap.size,0,#[],rfl,Nat.le_refl _,heap_alloc_new _ _,Nat.le_refl _,Nat.zero_le _,rfl,rfl⟩⟩⟩;go_enter Tryz.func139,Tryz.ntmps139
 go_wp2
 go_loopw [3,4] (fun v i wr=>∃k:Nat,k≤n∧i= .int .i64 (k:Int)∧Hid (Below w.heap.size w wr∧ownI wr w.heap.size v (List.range k))) (fun _ i _=>n - (intOf i).toNat)
 case atStart=>exact ⟨0,Nat.zero_le _,rfl,A0⟩
 case round=>
  obtain ⟨k,hk,rfl,HA⟩:=hrel;clear A0;by_cases hlt:k<n
  ·have y1:(k:Int)<(n:Int):=by omega
   have bA:Below wr.heap.size wr (wr.alloc (.cells #[.int .i64 (k:Int)] 3)):=bE0;have HR:=hide (ownI_call (za HA).2 bA);have HQ:=hide (fun w2 h2=>Mem.zl7 (o:= .cells #[.int .i64 (k:Int)] 3) (w1:=w2) (za HA).1 (Nat.le_refl _) (za HA).2 h2);have HSB:=hide (za HA).1.size;unfold ownI at HR;rw [List.length_range] at HR;clear HA bA;go_wp2_with (at_builtin;refine wpList_append_own _ rfl _ _ 192 rfl w.heap.size 3 i0 (.int .i64 0) 1 8 Tryz.underlying192 hi hz0 hz1 hz2 rfl (by decide) _ _ _ rfl (za HR) ⟨wr.heap.size,0,none⟩ 1 1 [.int .i64 (k:Int)] rfl rfl (Mem.zh5 _ _ _) (fun u hu=>by simp at hu;subst hu;rfl) (by unfold maxLen;omega) (by omega) (by have :=za HSB;simp;omega) ?_)
   intro v' w2 own' hgrow _;have A2:Hid (Below w.heap.size w w2∧ownI w2 w.heap.size v' (List.range (k+1))):=⟨za HQ w2 hgrow,by rw [List.range_succ];exact ownI_snoc (by rw [List.length_range];exact own')⟩;clear HR HQ own' hgrow HSB;go_wp2
   go_roundw
   case rel=>exact ⟨k+1,by omega,by go_num,A2⟩
   case measure=>simp [intOf];omega
  ·obtain rfl:k=n:=by omega
   have y1:¬ ((k:Int)<(k:Int)):=by omega
   go_wp2
   go_ret
   exact ⟨_,rfl,(za HA).2,(za HA).1⟩
end zn6
end
section
open Go.RowKit
namespace Mem
theorem zm0 {P:Program} {ops:Array Oper} {o:Oper} {a:Act} {w:World} {K:Act→World→Prop} {Q:Exit→Act→World→Prop} {E:Prop}
  (hg:o.guard=none) (s x:Operand) (t:TypeId) (hop:o.op=Op.call { callee:=Callee.builtin Builtin.append,args:=#[s,x],argTypes:=#[t,t] })
  (base:Nat) (e:TypeId) (i:TypeInfo) (z:Value) (size bytes:Nat) (h1:P.underlying t=some (.slice e)) (h2:P.info? e=some i) (h3:i.zero=some z) (h4:i.size=size) (h5:i.bytes=bytes) (h6:z.cells.size=size) (h7:0<size)
  (v:Value) (n:Nat) (xs:List Value) (hs:a.eval s=v) (hown:w.ownsRow base e size v n xs)
  (ad:Addr) (m c:Nat) (news:List Value) (hx:a.eval x= .slice (some ad) m c) (hn:news.length=m*size) (hc:∀j u,news[j]? =some u→w.cell? (ad.add j)=some u) (h1c:∀u∈news,u.oneCell'=true)
  (b1:n+m≤maxLen) (b2:(n+m)*bytes≤140737488355328) (hbase:base≤w.heap.size)
  (hK:∀v' w',w'.ownsRow base e size v' (n+m) (xs++news)→w.grownBy w' v.ownBlock→K (a.put o.dst v') w'):
  if Region.wanted o (yielded ops a.tmps)=true then Oper.wp P o a w K Q else E:=by
 have hw:Region.wanted o (yielded ops a.tmps)=true:=by simp [Region.wanted,hg]
 rw [if_pos hw];obtain ⟨v',w',hrun,r1,r2,_⟩:=run_append_own (P:=P) w base t o.type e i z size bytes h1 h2 h3 h4 h5 h6 h7 v n xs hown ad m c news hn hc h1c b1 b2 hbase;unfold Oper.wp;simp [execOp,hop,resolve,invoke,builtin,hs,hx,hrun,Result.andThen]
 exact hK v' w' r1 r2
end Mem
end
section
open Go.RowKit
namespace zn6
set_option maxRecDepth 100000 in
theorem zs9 (x y:Int) (w:World):Calls Tryz.prog 168 #[.int .i64 x, .int .i64 y] w fun e w'=>e= .returned (.int .i64 (max x y))∧w'=w:=by
 by_cases h:y<x
 ·go_enter Tryz.func168,Tryz.ntmps168
  go_wp2
  go_ret
  exact ⟨by rw [show max x y=x by omega];rfl,rfl⟩
 ·go_enter Tryz.func168,Tryz.ntmps168
  go_wp2
  go_ret
  exact ⟨by rw [show max x y=y by omega];rfl,rfl⟩
end zn6
end
section
open Go.RowKit
namespace zn6
def zb6 (o:Pl.Ot) (v:Value):List Value:=[.bool o.ok, .string o.node.path, .int .i64 o.node.kind, .string o.node.data, .int .i64 o.node.time, .int .i64 o.node.mark,v]
structure AtP (w W:World) (o:Pl.Ot) (v:Value):Prop where
 bel:Below w.heap.size w W
 res:Mem.Blk W w.heap.size (zb6 ⟨false,Pl.za6,[]⟩ (.slice none 0 0)).toArray 200
 out:Mem.Blk W (w.heap.size+1) (zb6 o v).toArray 200
 own:ownI W (w.heap.size+2) v o.parts
theorem AtP.call {w W W':World} {o:Pl.Ot} {v:Value} (h:AtP w W o v) (b:Below W.heap.size W W'):AtP w W' o v:=⟨h.bel.trans (b.mono h.bel.size),h.res.call b,h.out.call b,ownI_call h.own b⟩
theorem AtP.alloc {w W:World} {o:Pl.Ot} {v:Value} (h:AtP w W o v) (x:Obj):AtP w (W.alloc x) o v:=h.call ((Below.refl _ _).alloc (Nat.le_refl _) x)
theorem zi8 {w:World} {B:Nat} {v:Value} {ks:List Nat} (h:ownI w B v ks) (a:Addr) (u:Value) (ha:a.block<B):ownI (w.setCell a u) B v ks:=by
 refine ⟨h.1,?_⟩
 rcases h.2 with h0|⟨g,cap,cur,hv,hb,hg,rest⟩
 ·exact .inl h0
 ·exact .inr ⟨g,cap,cur,hv,hb,(heap_setCell_other w a g u (by omega)).trans hg,rest⟩
theorem yh8 {w:World} {B B':Nat} {v:Value} {ks:List Nat} (h:ownI w B v ks) (hb:B'≤B):ownI w B' v ks:=by
 refine ⟨h.1,?_⟩
 rcases h.2 with h0|⟨g,cap,cur,hv,hb2,rest⟩
 ·exact .inl h0
 ·exact .inr ⟨g,cap,cur,hv,Nat.le_trans hb hb2,rest⟩
theorem yg4 {w:World} {B:Nat} {v:Value} {ks:List Nat} (h:ownI w B v ks):∃a cap,v= .slice a ks.length cap:=Mem.za4 h
theorem AtP.put {w W:World} {o o':Pl.Ot} {v:Value} (h:AtP w W o v) (k:Nat) (u:Value) (e:(zb6 o v).set k u=zb6 o' v) (hp:o'.parts=o.parts):AtP w (W.setCell ⟨w.heap.size+1,k,none⟩ u) o' v:=by
 refine ⟨h.bel.setCell (by show w.heap.size≤w.heap.size+1;omega) _,h.res.far _ _ (by show w.heap.size≠w.heap.size+1;omega),?_,?_⟩
 ·have h2:=h.out.put k u;rw [List.setIfInBounds_toArray,e] at h2;exact h2
 ·rw [hp];exact zi8 h.own _ _ (by show w.heap.size+1<w.heap.size+2;omega)
theorem AtP.ok {w W:World} {o:Pl.Ot} {v:Value} (h:AtP w W o v) (x:Bool):AtP w (W.setCell ⟨w.heap.size+1,0,none⟩ (.bool x)) ⟨x,o.node,o.parts⟩ v:=h.put 0 _ rfl rfl
theorem AtP.mark {w W:World} {o:Pl.Ot} {v:Value} (h:AtP w W o v) (m:Int):AtP w (W.setCell ⟨w.heap.size+1,5,none⟩ (.int .i64 m)) ⟨o.ok,⟨o.node.path,o.node.kind,o.node.data,o.node.time,m⟩,o.parts⟩ v:=h.put 5 _ rfl rfl
theorem AtP.node {w W:World} {o:Pl.Ot} {v:Value} (h:AtP w W o v) (p:ByteArray) (k:Int) (d:ByteArray) (t m:Int):AtP w (((((W.setCell ⟨w.heap.size+1,1,none⟩ (.string p)).setCell ⟨w.heap.size+1,2,none⟩ (.int .i64 k)).setCell ⟨w.heap.size+1,3,none⟩ (.string d)).setCell ⟨w.heap.size+1,4,none⟩ (.int .i64 t)).setCell ⟨w.heap.size+1,5,none⟩ (.int .i64 m)) ⟨o.ok,⟨p,k,d,t,m⟩,o.parts⟩ v:=
 ((((h.put (o':=⟨o.ok,⟨p,o.node.kind,o.node.data,o.node.time,o.node.mark⟩,o.parts⟩) 1 _ rfl rfl).put (o':=⟨o.ok,⟨p,k,o.node.data,o.node.time,o.node.mark⟩,o.parts⟩) 2 _ rfl rfl).put (o':=⟨o.ok,⟨p,k,d,o.node.time,o.node.mark⟩,o.parts⟩) 3 _ rfl rfl).put (o':=⟨o.ok,⟨p,k,d,t,o.node.mark⟩,o.parts⟩) 4 _ rfl rfl).put 5 _ rfl rfl
theorem AtP.more {w W W':World} {o:Pl.Ot} {v v':Value} {k:Nat} (h:AtP w W o v) (own':W'.ownsRow (w.heap.size+2) 3 1 v' (o.parts.length+1) (intsV o.parts++[.int .i64 (k:Int)])) (g:W.grownBy W' v.ownBlock):AtP w (W'.setCell ⟨w.heap.size+1,6,none⟩ v') ⟨o.ok,o.node,o.parts++[k]⟩ v':=by
 have hlt:∀q,v.ownBlock=some q→w.heap.size+2≤q:=fun q hq=>(World.ownsRow.lt h.own q hq).1;refine ⟨(h.bel.grown g h.bel.size (fun q hq=>by have :=hlt q hq;omega)).setCell (by show w.heap.size≤w.heap.size+1;omega) _,(h.res.grown g (fun e=>by have :=hlt _ e.symm;omega)).far _ _ (by show w.heap.size≠w.heap.size+1;omega),?_,?_⟩
 ·have h2:=(h.out.grown g (fun e=>by have :=hlt _ e.symm;omega)).put 6 v';rw [List.setIfInBounds_toArray] at h2;exact h2
 ·exact zi8 (ownI_snoc own') _ _ (by show w.heap.size+1<w.heap.size+2;omega)
theorem AtP.ret {w W:World} {o:Pl.Ot} {v:Value} (h:AtP w W o v) (x:Bool) (p:ByteArray) (k:Int) (d:ByteArray) (t m:Int) (u:Value):
  Mem.Blk (((((((W.setCell ⟨w.heap.size,0,none⟩ (.bool x)).setCell ⟨w.heap.size,1,none⟩ (.string p)).setCell ⟨w.heap.size,2,none⟩ (.int .i64 k)).setCell ⟨w.heap.size,3,none⟩ (.string d)).setCell ⟨w.heap.size,4,none⟩ (.int .i64 t)).setCell ⟨w.heap.size,5,none⟩ (.int .i64 m)).setCell ⟨w.heap.size,6,none⟩ u) w.heap.size #[.bool x, .string p, .int .i64 k, .string d, .int .i64 t, .int .i64 m,u] 200∧
  Below w.heap.size w (((((((W.setCell ⟨w.heap.size,0,none⟩ (.bool x)).setCell ⟨w.heap.size,1,none⟩ (.string p)).setCell ⟨w.heap.size,2,none⟩ (.int .i64 k)).setCell ⟨w.heap.size,3,none⟩ (.string d)).setCell ⟨w.heap.size,4,none⟩ (.int .i64 t)).setCell ⟨w.heap.size,5,none⟩ (.int .i64 m)).setCell ⟨w.heap.size,6,none⟩ u)∧
  ownI (((((((W.setCell ⟨w.heap.size,0,none⟩ (.bool x)).setCell ⟨w.heap.size,1,none⟩ (.string p)).setCell ⟨w.heap.size,2,none⟩ (.int .i64 k)).setCell ⟨w.heap.size,3,none⟩ (.string d)).setCell ⟨w.heap.size,4,none⟩ (.int .i64 t)).setCell ⟨w.heap.size,5,none⟩ (.int .i64 m)).setCell ⟨w.heap.size,6,none⟩ u) w.heap.size v o.parts:=by
 have hr:w.heap.size<w.heap.size+2:=by omega
 refine ⟨?_,((((((h.bel.setCell (p:=⟨w.heap.size,0,none⟩) (Nat.le_refl _) _).setCell (p:=⟨w.heap.size,1,none⟩) (Nat.le_refl _) _).setCell (p:=⟨w.heap.size,2,none⟩) (Nat.le_refl _) _).setCell (p:=⟨w.heap.size,3,none⟩) (Nat.le_refl _) _).setCell (p:=⟨w.heap.size,4,none⟩) (Nat.le_refl _) _).setCell (p:=⟨w.heap.size,5,none⟩) (Nat.le_refl _) _).setCell (p:=⟨w.heap.size,6,none⟩) (Nat.le_refl _) _,?_⟩
 ·have h2:=((((((h.res.put 0 (.bool x)).put 1 (.string p)).put 2 (.int .i64 k)).put 3 (.string d)).put 4 (.int .i64 t)).put 5 (.int .i64 m)).put 6 u;simp only [List.setIfInBounds_toArray] at h2;exact h2
 ·exact yh8 (zi8 (zi8 (zi8 (zi8 (zi8 (zi8 (zi8 h.own _ _ hr) _ _ hr) _ _ hr) _ _ hr) _ _ hr) _ _ hr) _ _ hr) (by omega)
end zn6
end
end Go.Proofs.YthdhhcgopfgcbaaGreatDoor
