/- Several texts of one claim in one file: MemTexts, MemIo, MemIz. -/
import Derived.Test.YtggadpalljhiaaaGreatDoorG00
import Derived.Below
import Derived.WalkKit
import Derived.Laws.IdiomStrings
import Derived.Deep.Draws
import Derived.Test.YtggadpalljhiaaaGreatDoorG04
import Derived.Test.YtggadpalljhiaaaGreatDoorPlainCells
import Derived.Deep.RegionHeld3
import Derived.Test.YtggadpalljhiaaaGreatDoorG05
namespace Go.Proofs.YtggadpalljhiaaaGreatDoor
section
open Go.RowKit
namespace Mem
theorem texts {w:World} {B T:Nat} {v:Value} {L:List ByteArray} (h:w.ownsRow B T 1 v L.length (L.map Value.string)):
  (v= .slice none 0 0∧L=[])∨∃g cap,v= .slice (some ⟨g,0,none⟩) L.length cap∧L.length≤cap∧cap≤maxLen∧B≤g∧g<w.heap.size∧∀ (k:Nat) t,L[k]? =some t→w.cell? ⟨g,k,none⟩=some (.string t):=by
 rcases h.2 with ⟨rfl,h0⟩|⟨g,cap,cur,rfl,hgb,hg,hcap,hm,hsz,htk⟩
 ·exact .inl ⟨rfl,List.eq_nil_of_length_eq_zero h0⟩
 ·refine .inr ⟨g,cap,rfl,hcap,hm,hgb,(Array.getElem?_eq_some_iff.1 hg).1,fun k t ht=>?_⟩;have hk:=(List.getElem?_eq_some_iff.1 ht).1;rw [cell_of_row w g k cur T (0,0) hg];have h1:(cur.toList.take (L.length*1))[k]? =(L.map Value.string)[k]?:=by rw [htk]
  rw [List.getElem?_take_of_lt (by omega),List.getElem?_map,ht] at h1
  simpa using h1
theorem one_str (t:ByteArray):∀u∈[Value.string t],u.oneCell'=true:=by
 intro u hu;simp at hu;subst hu;rfl
def zm (w:World) (v:Value) (ts:List ByteArray):Prop:=
 (v= .slice none 0 0∧ts=[])∨∃b o cap,v= .slice (some ⟨b,o,none⟩) ts.length cap∧b<w.heap.size∧∀ (j:Nat) t,ts[j]? =some t→w.cell? ⟨b,o+j,none⟩=some (.string t)
theorem zo6 {w:World} {B T:Nat} {v:Value} {L:List ByteArray} (h:w.ownsRow B T 1 v L.length (L.map Value.string)):zm w v L:=by
 rcases texts h with h|⟨g,cap,h1,h2,h3,h4,h5,h6⟩
 ·exact .inl h
 ·exact .inr ⟨g,0,cap,h1,h5,fun j t ht=>by rw [Nat.zero_add];exact h6 j t ht⟩
theorem take_texts {w:World} {g cap:Nat} {L:List ByteArray} (hg:g<w.heap.size) (hc:∀ (k:Nat) t,L[k]? =some t→w.cell? ⟨g,k,none⟩=some (.string t)) (n:Nat) (hn:n≤L.length):
  zm w (.slice (some ⟨g,0,none⟩) n cap) (L.take n):=by
 refine .inr ⟨g,0,cap,by rw [List.length_take,Nat.min_eq_left hn],hg,fun j t ht=>?_⟩;rw [Nat.zero_add];refine hc j t ?_;have hj:j<n:=by have :=(List.getElem?_eq_some_iff.1 ht).1;rw [List.length_take] at this;omega
 rwa [List.getElem?_take_of_lt hj] at ht
theorem own_below {w w':World} {B B' e size n:Nat} {v:Value} {xs:List Value} (h:w.ownsRow B e size v n xs) (hb:Below B' w w') (hB:∀k,v.ownBlock=some k→k<B'):w'.ownsRow B e size v n xs:=by
 refine ⟨h.1,?_⟩
 rcases h.2 with h0|⟨g,cap,cur,rfl,hgb,hg,rest⟩
 ·exact .inl h0
 ·exact .inr ⟨g,cap,cur,rfl,hgb,(hb.block g (hB g rfl)).trans hg,rest⟩
theorem ze8 {w w':World} {B e size n:Nat} {v:Value} {xs:List Value} (h:w.ownsRow B e size v n xs) (hb:Below w.heap.size w w'):w'.ownsRow B e size v n xs:=
 own_below h hb (fun k hk=>(h.lt k hk).2)
theorem texts_call {w w':World} {v:Value} {ts:List ByteArray} (h:zm w v ts) (hb:Below w.heap.size w w'):zm w' v ts:=by
 rcases h with h|⟨b,o,cap,rfl,hlt,hc⟩
 ·exact .inl h
 ·exact .inr ⟨b,o,cap,rfl,Nat.lt_of_lt_of_le hlt hb.size,fun j t ht=>(hb.cell (p:=⟨b,o+j,none⟩) hlt).trans (hc j t ht)⟩
theorem below_drewN {B:Nat} {a w:World} (h:Below B a w) (q:Nat):Below B a (w.drewN q):=h.trans ⟨rfl,rfl,rfl,Nat.le_refl _,fun _ _=>rfl⟩
theorem zo3 {w:World} {v:Value} {ts:List ByteArray} (h:zm w v ts):∃a cap,v= .slice a ts.length cap:=by
 rcases h with ⟨rfl,rfl⟩|⟨b,o,cap,rfl,_⟩ <;> exact ⟨_,_,rfl⟩
end Mem
end
section
open Go.RowKit
namespace Mem
theorem zh7 {w w':World} {B e size n:Nat} {v:Value} {xs:List Value} {r:Option Nat} (h:w.ownsRow B e size v n xs) (hg:w.grownBy w' r) (hr:∀g,v.ownBlock=some g→some g≠r):w'.ownsRow B e size v n xs:=by
 refine ⟨h.1,?_⟩
 rcases h.2 with h0|⟨g,cap,cur,rfl,hb,hh,rest⟩
 ·exact .inl h0
 ·exact .inr ⟨g,cap,cur,rfl,hb,(hg.block g (Array.getElem?_eq_some_iff.1 hh).1 (hr g rfl)).trans hh,rest⟩
structure Io (W:World) (S:Nat) (v:Value) (Is:List Pl.It):Prop where
 row:W.ownsRow S 56 2 v Is.length (Pl.zb3 Is)
 each:∀ (i:Nat) x,Is[i]? =some x→ownN W S x.t.val x.t.L∧∀g,x.t.val.ownBlock=some g→v.ownBlock≠some g
 apart:∀ (i j:Nat) x y,i≠j→Is[i]? =some x→Is[j]? =some y→∀g,x.t.val.ownBlock=some g→y.t.val.ownBlock≠some g
theorem Io.call {W W':World} {S:Nat} {v:Value} {Is:List Pl.It} (h:Io W S v Is) (b:Below W.heap.size W W'):Io W' S v Is:=
 ⟨ze8 h.row b,fun i x hx=>⟨zp7 (h.each i x hx).1 b,(h.each i x hx).2⟩,h.apart⟩
theorem Io.mono {W:World} {S S':Nat} {v:Value} {Is:List Pl.It} (h:Io W S v Is) (hs:S'≤S):Io W S' v Is:=
 ⟨own_mono h.row hs,fun i x hx=>⟨zp3 (h.each i x hx).1 hs,(h.each i x hx).2⟩,h.apart⟩
theorem Io.set {W:World} {S:Nat} {v:Value} {Is:List Pl.It} (h:Io W S v Is) (p:Addr) (u:Value) (hp:p.block<S):Io (W.setCell p u) S v Is:=by
 refine ⟨⟨h.row.1,?_⟩,fun i x hx=>⟨ownN_set (h.each i x hx).1 p u hp,(h.each i x hx).2⟩,h.apart⟩
 rcases h.row.2 with h0|⟨g,cap,cur,hv,hb,hg,rest⟩
 ·exact .inl h0
 ·exact .inr ⟨g,cap,cur,hv,hb,(heap_setCell_other _ _ _ _ (by omega)).trans hg,rest⟩
theorem Io.app {W W':World} {S S1:Nat} {v v1 v':Value} {Is Is1:List Pl.It} (h:Io W S v Is) (h1:Io W S1 v1 Is1) (hS:S≤S1) (hv:∀g,v.ownBlock=some g→g<S1) (hb:∀ (i:Nat) x,Is[i]? =some x→∀g,x.t.val.ownBlock=some g→g<S1)
  (own':W'.ownsRow S 56 2 v' (Is.length+Is1.length) (Pl.zb3 Is++Pl.zb3 Is1)) (gr:W.grownBy W' v.ownBlock) (far:∀g,v'.ownBlock=some g→v.ownBlock=some g∨W.heap.size≤g):Io W' S v' (Is++Is1):=by
 have key:∀x:Pl.It,ownN W S x.t.val x.t.L→(∀g,x.t.val.ownBlock=some g→v.ownBlock≠some g)→ownN W' S x.t.val x.t.L∧∀g,x.t.val.ownBlock=some g→v'.ownBlock≠some g:=fun x hx hn=>
  ⟨zh7 hx gr (fun g hg e=>hn g hg e.symm),fun g hg e=>by
   rcases far g e with h2|h2
   ·exact hn g hg h2
   ·have :=(zk8 hx g hg).2;omega⟩
 have lo1:∀ (i:Nat) x,Is1[i]? =some x→∀g,x.t.val.ownBlock=some g→S1≤g:=fun i x hx g hg=>(zk8 (h1.each i x hx).1 g hg).1;refine ⟨by rw [List.length_append,Pl.cellsI_app];exact own',fun i x hx=>?_,fun i j x y hij hx hy g hg=>?_⟩
 ·by_cases e:i<Is.length
  ·rw [List.getElem?_append_left e] at hx;exact key x (h.each i x hx).1 (h.each i x hx).2
  ·rw [List.getElem?_append_right (by omega)] at hx;exact key x (zp3 (h1.each _ x hx).1 hS) (fun g hg e2=>by have :=lo1 _ x hx g hg;have :=hv g e2;omega)
 ·by_cases e:i<Is.length
  ·rw [List.getElem?_append_left e] at hx;by_cases e2:j<Is.length
   ·rw [List.getElem?_append_left e2] at hy;exact h.apart i j x y hij hx hy g hg
   ·rw [List.getElem?_append_right (by omega)] at hy;intro e3;have :=lo1 _ y hy g e3;have :=hb i x hx g hg;omega
  ·rw [List.getElem?_append_right (by omega)] at hx;by_cases e2:j<Is.length
   ·rw [List.getElem?_append_left e2] at hy;intro e3;have :=lo1 _ x hx g hg;have :=hb j y hy g e3;omega
   ·rw [List.getElem?_append_right (by omega)] at hy;exact h1.apart _ _ x y (by omega) hx hy g hg
theorem Io.items {W:World} {S cap n:Nat} {a:Option Addr} {Is:List Pl.It} (h:Io W S (.slice a n cap) Is):n=Is.length∧zb0 W a Is:=by
 rcases h.row.2 with ⟨e,h0⟩|⟨g,c,cur,e,hb,hg,rest⟩
 ·cases e
  have :Is=[]:=List.eq_nil_of_length_eq_zero h0;subst this;exact ⟨rfl,items_nil _ _⟩
 ·cases e
  refine ⟨rfl,fun i x hx=>⟨⟨g,0,rfl,(Array.getElem?_eq_some_iff.1 hg).1,?_,?_⟩,(ownN_nodes (h.each i x hx).1).2⟩⟩
  ·have :=World.ownsRow.cells h.row (g:=g) rfl (i*2) _ (Pl.zo9 Is i x hx).1;rw [add_lit] at this;rw [Nat.zero_add];exact this
  ·have :=World.ownsRow.cells h.row (g:=g) rfl (i*2+1) _ (Pl.zo9 Is i x hx).2;rw [add_lit] at this;rw [Nat.zero_add];exact this
theorem Io.lt {W:World} {S:Nat} {v:Value} {Is:List Pl.It} (h:Io W S v Is):(∀g,v.ownBlock=some g→S≤g∧g<W.heap.size)∧∀ (i:Nat) x,Is[i]? =some x→∀g,x.t.val.ownBlock=some g→S≤g∧g<W.heap.size:=
 ⟨fun g hg=>World.ownsRow.lt h.row g hg,fun i x hx g hg=>zk8 (h.each i x hx).1 g hg⟩
theorem Io.there {W:World} {S:Nat} {v:Value} {Is:List Pl.It} (h:Io W S v Is) (hn:Is.length≠0):∃g cap,v= .slice (some ⟨g,0,none⟩) Is.length cap∧∀j u,(Pl.zb3 Is)[j]? =some u→W.cell? ((⟨g,0,none⟩:Addr).add j)=some u:=by
 rcases h.row.2 with ⟨e,h0⟩|⟨g,c,cur,e,hb,hg,rest⟩
 ·exact absurd h0 hn
 ·subst e;exact ⟨g,c,rfl,fun j u hj=>World.ownsRow.cells h.row (g:=g) rfl j u hj⟩
theorem Io.nil (W:World) (S:Nat):Io W S (.slice none 0 0) []:=⟨⟨rfl, .inl ⟨rfl,rfl⟩⟩,fun i x h=>(by cases h),fun i j x y _ h=>(by cases h)⟩
theorem Io.one {W:World} {S g:Nat} {m:Int} {t:Pl.Tr} (hb:S≤g) (hg:W.heap[g]? =some (.cells #[.int .i64 m,t.val] 56 (0,0))) (ht:ownN W S t.val t.L) (hn:∀q,t.val.ownBlock=some q→q≠g):Io W S (.slice (some ⟨g,0,none⟩) 1 1) [⟨m,t⟩]:=by
 refine ⟨⟨rfl, .inr ⟨g,1,_,rfl,hb,hg,Nat.le_refl _,by decide,rfl,rfl⟩⟩,fun i x hx=>?_,fun i j x y hij hx hy=>?_⟩
 ·cases i with
  |zero=>
   have e:(⟨m,t⟩:Pl.It)=x:=by simpa using hx
   subst e;exact ⟨ht,fun q hq e=>hn q hq (Option.some.inj e).symm⟩
  |succ i=>simp at hx
 ·cases i with
  |zero=>
   cases j with
   |zero=>exact absurd rfl hij
   |succ j=>simp at hy
  |succ i=>simp at hx
end Mem
end
section
open Go.RowKit
namespace Pl
def zd5 (L:List Ns):List Value:=L.flatMap (fun x=>[Value.int .i64 x.d, .slice x.a x.Is.length x.cap])
theorem ya9 (A B:List Ns):zd5 (A++B)=zd5 A++zd5 B:=by simp [zd5]
theorem zk5:∀ (L:List Ns) (i:Nat) (x:Ns),L[i]? =some x→(zd5 L)[i*2]? =some (.int .i64 x.d)∧(zd5 L)[i*2+1]? =some (.slice x.a x.Is.length x.cap):=by
 intro L
 induction L with
 |nil=>intro i x h;cases h
 |cons y L ih=>
  intro i x h;have e:zd5 (y::L)=Value.int .i64 y.d:: .slice y.a y.Is.length y.cap::zd5 L:=rfl;cases i with
  |zero=>simp at h;subst h;rw [e];exact ⟨rfl,rfl⟩
  |succ i=>
   obtain ⟨h1,h2⟩:=ih i x (by simpa using h);rw [e,show (i+1)*2=i*2+1+1 by omega];exact ⟨by simpa using h1,by simpa using h2⟩
def upd (f:Nat→Nat) (n x:Nat):Nat→Nat:=fun j=>if j=n then x else f j
theorem upd_at (f:Nat→Nat) (n x:Nat):upd f n x n=x:=by simp [upd]
theorem upd_off (f:Nat→Nat) {n j:Nat} (x:Nat) (h:j≠n):upd f n x j=f j:=by simp [upd,h]
end Pl
namespace Mem
theorem zc9 {w w':World} {B e size n:Nat} {v:Value} {xs:List Value} (h:w.ownsRow B e size v n xs) (hb:∀g,v.ownBlock=some g→w'.heap[g]? =w.heap[g]?):w'.ownsRow B e size v n xs:=by
 refine ⟨h.1,?_⟩
 rcases h.2 with h0|⟨g,cap,cur,rfl,hb',hh,rest⟩
 ·exact .inl h0
 ·exact .inr ⟨g,cap,cur,rfl,hb',(hb g rfl).trans hh,rest⟩
structure Ib (W:World) (L H:Nat) (v:Value) (Is:List Pl.It):Prop where
 io:Io W L v Is
 h1:∀g,v.ownBlock=some g→g<H
 h2:∀ (i:Nat) x,Is[i]? =some x→∀g,x.t.val.ownBlock=some g→g<H
theorem Ib.of {W:World} {L:Nat} {v:Value} {Is:List Pl.It} (h:Io W L v Is):Ib W L W.heap.size v Is:=⟨h,fun g hg=>(h.lt.1 g hg).2,fun i x hx g hg=>(h.lt.2 i x hx g hg).2⟩
theorem Ib.same {W W':World} {L H:Nat} {v:Value} {Is:List Pl.It} (h:Ib W L H v Is) (hb:∀b,L≤b→b<H→W'.heap[b]? =W.heap[b]?):Ib W' L H v Is:=
 ⟨⟨zc9 h.io.row (fun g hg=>hb g (h.io.lt.1 g hg).1 (h.h1 g hg)),fun i x hx=>⟨zc9 (h.io.each i x hx).1 (fun g hg=>hb g (h.io.lt.2 i x hx g hg).1 (h.h2 i x hx g hg)),(h.io.each i x hx).2⟩,h.io.apart⟩,h.h1,h.h2⟩
theorem Ib.call {W W':World} {L H:Nat} {v:Value} {Is:List Pl.It} (h:Ib W L H v Is) (b:Below W.heap.size W W'):Ib W' L H v Is:=⟨h.io.call b,h.h1,h.h2⟩
structure Iz (W:World) (S:Nat) (v:Value) (Ns:List Pl.Ns) (lo hi:Nat→Nat):Prop where
 row:W.ownsRow S 49 2 v Ns.length (Pl.zd5 Ns)
 each:∀ (j:Nat) x,Ns[j]? =some x→Ib W (lo j) (hi j) (.slice x.a x.Is.length x.cap) x.Is∧S≤lo j∧lo j≤hi j∧hi j≤W.heap.size∧∀g,v.ownBlock=some g→g<lo j∨hi j≤g
 rise:∀i j,i<j→j<Ns.length→hi i≤lo j
theorem Iz.nil (W:World) (S:Nat) (lo hi:Nat→Nat):Iz W S (.slice none 0 0) [] lo hi:=⟨⟨rfl, .inl ⟨rfl,rfl⟩⟩,fun j x h=>(by cases h),fun i j _ h=>absurd h (by simp)⟩
theorem Iz.call {W W':World} {S:Nat} {v:Value} {Ns:List Pl.Ns} {lo hi:Nat→Nat} (h:Iz W S v Ns lo hi) (b:Below W.heap.size W W'):Iz W' S v Ns lo hi:=
 ⟨ze8 h.row b,fun j x hx=>⟨(h.each j x hx).1.call b,(h.each j x hx).2.1,(h.each j x hx).2.2.1,Nat.le_trans (h.each j x hx).2.2.2.1 b.size,(h.each j x hx).2.2.2.2⟩,h.rise⟩
theorem Iz.far {W:World} {S Y:Nat} {v:Value} {Ns:List Pl.Ns} {lo hi:Nat→Nat} (h:Iz W S v Ns lo hi) (k:Nat) (u:Value) (hY:Y<S):Iz (W.setCell ⟨Y,k,none⟩ u) S v Ns lo hi:=
 ⟨zc9 h.row (fun g hg=>heap_setCell_other _ _ _ _ (by have :=(World.ownsRow.lt h.row g hg).1;show g≠Y;omega)),fun j x hx=>⟨(h.each j x hx).1.same (fun b h1 _=>heap_setCell_other _ _ _ _ (by have :=(h.each j x hx).2.1;show b≠Y;omega)),(h.each j x hx).2.1,(h.each j x hx).2.2.1,by rw [World.size_setCell];exact (h.each j x hx).2.2.2.1,(h.each j x hx).2.2.2.2⟩,h.rise⟩
theorem Iz.app {W W':World} {S L H:Nat} {v v':Value} {Ns:List Pl.Ns} {lo hi:Nat→Nat} {x:Pl.Ns} (h:Iz W S v Ns lo hi) (hx:Ib W L H (.slice x.a x.Is.length x.cap) x.Is) (hS:S≤L) (hLH:L≤H) (hp:∀j,j<Ns.length→hi j≤L) (hv:∀g,v.ownBlock=some g→g<L) (hH:H≤W.heap.size)
  (own:W'.ownsRow S 49 2 v' (Ns.length+1) (Pl.zd5 Ns++Pl.zd5 [x])) (gr:W.grownBy W' v.ownBlock) (far:∀g,v'.ownBlock=some g→v.ownBlock=some g∨W.heap.size≤g):Iz W' S v' (Ns++[x]) (Pl.upd lo Ns.length L) (Pl.upd hi Ns.length H):=by
 refine ⟨by rw [List.length_append,List.length_singleton,Pl.ya9];exact own,fun j y hj=>?_,fun i j hij hj=>?_⟩
 ·by_cases e:j<Ns.length
  ·rw [List.getElem?_append_left e] at hj;obtain ⟨h1,h2,h3,h4,h5⟩:=h.each j y hj;rw [Pl.upd_off lo L (by omega),Pl.upd_off hi H (by omega)];refine ⟨h1.same (fun b hb1 hb2=>gr.block b (by omega) (fun e2=>?_)),h2,h3,Nat.le_trans h4 gr.size,fun g hg=>?_⟩
   ·rcases h5 b e2.symm with h6|h6 <;> omega
   ·rcases far g hg with h6|h6
    ·exact h5 g h6
    ·exact .inr (by omega)
  ·rw [List.getElem?_append_right (by omega)] at hj
   have hj0:j=Ns.length:=by
    have :=(List.getElem?_eq_some_iff.1 hj).1;simp at this;omega
   subst hj0;simp at hj
   subst hj;rw [Pl.upd_at,Pl.upd_at];refine ⟨hx.same (fun b hb1 hb2=>gr.block b (by omega) (fun e2=>?_)),hS,hLH,Nat.le_trans hH gr.size,fun g hg=>?_⟩
   ·have :=hv b e2.symm;omega
   ·rcases far g hg with h6|h6
    ·exact .inl (hv g h6)
    ·exact .inr (by omega)
 ·rw [List.length_append,List.length_singleton] at hj;rw [Pl.upd_off hi H (by omega)];by_cases e:j=Ns.length
  ·subst e;rw [Pl.upd_at];exact hp i (by omega)
  ·rw [Pl.upd_off lo L e];exact h.rise i j hij (by omega)
theorem Iz.zf9 {W:World} {S n cap:Nat} {a:Option Addr} {Ns:List Pl.Ns} {lo hi:Nat→Nat} (h:Iz W S (.slice a n cap) Ns lo hi):n=Ns.length∧ze4 W a Ns:=by
 rcases h.row.2 with ⟨e,h0⟩|⟨g,c,cur,e,hb,hg,rest⟩
 ·cases e
  have :Ns=[]:=List.eq_nil_of_length_eq_zero h0;subst this;exact ⟨rfl,zr8 _ _⟩
 ·cases e
  refine ⟨rfl,fun i x hx=>⟨⟨g,0,rfl,(Array.getElem?_eq_some_iff.1 hg).1,?_,?_⟩,(h.each i x hx).1.io.items.2⟩⟩
  ·have :=World.ownsRow.cells h.row (g:=g) rfl (i*2) _ (Pl.zk5 Ns i x hx).1;rw [add_lit] at this;rw [Nat.zero_add];exact this
  ·have :=World.ownsRow.cells h.row (g:=g) rfl (i*2+1) _ (Pl.zk5 Ns i x hx).2;rw [add_lit] at this;rw [Nat.zero_add];exact this
end Mem
end
end Go.Proofs.YtggadpalljhiaaaGreatDoor
