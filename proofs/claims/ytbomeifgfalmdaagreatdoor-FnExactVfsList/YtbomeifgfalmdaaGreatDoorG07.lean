/- Several texts of one claim in one file: MemIo, MemIz, WMk1, WMkN, MemOwnI. -/
import Derived.Test.YtbomeifgfalmdaaGreatDoorG04
import Derived.Test.YtbomeifgfalmdaaGreatDoorPlainCells
set_option maxRecDepth 100000
set_option maxHeartbeats 400000
namespace Go.Proofs.YtbomeifgfalmdaaGreatDoor
section
open Go.RowKit
namespace Mem
theorem row_off2 {w w':World} {B e size n:Nat} {v:Value} {xs:List Value} {r:Option Nat} (h:w.ownsRow B e size v n xs) (hg:w.grownBy w' r) (hr:∀g,v.ownBlock=some g→some g≠r):w'.ownsRow B e size v n xs:=by
 refine ⟨h.1,?_⟩
 rcases h.2 with h0|⟨g,cap,cur,rfl,hb,hh,rest⟩
 ·exact .inl h0
 ·exact .inr ⟨g,cap,cur,rfl,hb,(hg.block g (Array.getElem?_eq_some_iff.1 hh).1 (hr g rfl)).trans hh,rest⟩
structure Io (W:World) (S:Nat) (v:Value) (Is:List Pl.It):Prop where
 row:W.ownsRow S 109 2 v Is.length (Pl.zd2 Is)
 each:∀ (i:Nat) x,Is[i]? =some x→ownN W S x.t.val x.t.L∧∀g,x.t.val.ownBlock=some g→v.ownBlock≠some g
 apart:∀ (i j:Nat) x y,i≠j→Is[i]? =some x→Is[j]? =some y→∀g,x.t.val.ownBlock=some g→y.t.val.ownBlock≠some g
theorem Io.call {W W':World} {S:Nat} {v:Value} {Is:List Pl.It} (h:Io W S v Is) (b:Below W.heap.size W W'):Io W' S v Is:=
 ⟨zd0 h.row b,fun i x hx=>⟨ownN_call (h.each i x hx).1 b,(h.each i x hx).2⟩,h.apart⟩
theorem Io.mono {W:World} {S S':Nat} {v:Value} {Is:List Pl.It} (h:Io W S v Is) (hs:S'≤S):Io W S' v Is:=
 ⟨zg h.row hs,fun i x hx=>⟨yd7 (h.each i x hx).1 hs,(h.each i x hx).2⟩,h.apart⟩
theorem Io.set {W:World} {S:Nat} {v:Value} {Is:List Pl.It} (h:Io W S v Is) (p:Addr) (u:Value) (hp:p.block<S):Io (W.setCell p u) S v Is:=by
 refine ⟨⟨h.row.1,?_⟩,fun i x hx=>⟨ownN_set (h.each i x hx).1 p u hp,(h.each i x hx).2⟩,h.apart⟩
 rcases h.row.2 with h0|⟨g,cap,cur,hv,hb,hg,rest⟩
 ·exact .inl h0
 ·exact .inr ⟨g,cap,cur,hv,hb,(heap_setCell_other _ _ _ _ (by omega)).trans hg,rest⟩
theorem Io.app {W W':World} {S S1:Nat} {v v1 v':Value} {Is Is1:List Pl.It} (h:Io W S v Is) (h1:Io W S1 v1 Is1) (hS:S≤S1) (hv:∀g,v.ownBlock=some g→g<S1) (hb:∀ (i:Nat) x,Is[i]? =some x→∀g,x.t.val.ownBlock=some g→g<S1)
  (own':W'.ownsRow S 109 2 v' (Is.length+Is1.length) (Pl.zd2 Is++Pl.zd2 Is1)) (gr:W.grownBy W' v.ownBlock) (far:∀g,v'.ownBlock=some g→v.ownBlock=some g∨W.heap.size≤g):Io W' S v' (Is++Is1):=by
 have key:∀x:Pl.It,ownN W S x.t.val x.t.L→(∀g,x.t.val.ownBlock=some g→v.ownBlock≠some g)→ownN W' S x.t.val x.t.L∧∀g,x.t.val.ownBlock=some g→v'.ownBlock≠some g:=fun x hx hn=>
  ⟨row_off2 hx gr (fun g hg e=>hn g hg e.symm),fun g hg e=>by
   rcases far g e with h2|h2
   ·exact hn g hg h2
   ·have :=(zx hx g hg).2;omega⟩
 have lo1:∀ (i:Nat) x,Is1[i]? =some x→∀g,x.t.val.ownBlock=some g→S1≤g:=fun i x hx g hg=>(zx (h1.each i x hx).1 g hg).1;refine ⟨by rw [List.length_append,Pl.cellsI_app];exact own',fun i x hx=>?_,fun i j x y hij hx hy g hg=>?_⟩
 ·by_cases e:i<Is.length
  ·rw [List.getElem?_append_left e] at hx;exact key x (h.each i x hx).1 (h.each i x hx).2
  ·rw [List.getElem?_append_right (by omega)] at hx;exact key x (yd7 (h1.each _ x hx).1 hS) (fun g hg e2=>by have :=lo1 _ x hx g hg;have :=hv g e2;omega)
 ·by_cases e:i<Is.length
  ·rw [List.getElem?_append_left e] at hx;by_cases e2:j<Is.length
   ·rw [List.getElem?_append_left e2] at hy;exact h.apart i j x y hij hx hy g hg
   ·rw [List.getElem?_append_right (by omega)] at hy;intro e3;have :=lo1 _ y hy g e3;have :=hb i x hx g hg;omega
  ·rw [List.getElem?_append_right (by omega)] at hx;by_cases e2:j<Is.length
   ·rw [List.getElem?_append_left e2] at hy;intro e3;have :=lo1 _ x hx g hg;have :=hb j y hy g e3;omega
   ·rw [List.getElem?_append_right (by omega)] at hy;exact h1.apart _ _ x y (by omega) hx hy g hg
theorem Io.items {W:World} {S cap n:Nat} {a:Option Addr} {Is:List Pl.It} (h:Io W S (.slice a n cap) Is):n=Is.length∧zb4 W a Is:=by
 rcases h.row.2 with ⟨e,h0⟩|⟨g,c,cur,e,hb,hg,rest⟩
 ·cases e
  have :Is=[]:=List.eq_nil_of_length_eq_zero h0;subst this;exact ⟨rfl,items_nil _ _⟩
 ·cases e
  refine ⟨rfl,fun i x hx=>⟨⟨g,0,rfl,(Array.getElem?_eq_some_iff.1 hg).1,?_,?_⟩,(ownN_nodes (h.each i x hx).1).2⟩⟩
  ·have :=World.ownsRow.cells h.row (g:=g) rfl (i*2) _ (Pl.cellsI_at Is i x hx).1;rw [add_lit] at this;rw [Nat.zero_add];exact this
  ·have :=World.ownsRow.cells h.row (g:=g) rfl (i*2+1) _ (Pl.cellsI_at Is i x hx).2;rw [add_lit] at this;rw [Nat.zero_add];exact this
theorem Io.lt {W:World} {S:Nat} {v:Value} {Is:List Pl.It} (h:Io W S v Is):(∀g,v.ownBlock=some g→S≤g∧g<W.heap.size)∧∀ (i:Nat) x,Is[i]? =some x→∀g,x.t.val.ownBlock=some g→S≤g∧g<W.heap.size:=
 ⟨fun g hg=>World.ownsRow.lt h.row g hg,fun i x hx g hg=>zx (h.each i x hx).1 g hg⟩
theorem Io.there {W:World} {S:Nat} {v:Value} {Is:List Pl.It} (h:Io W S v Is) (hn:Is.length≠0):∃g cap,v= .slice (some ⟨g,0,none⟩) Is.length cap∧∀j u,(Pl.zd2 Is)[j]? =some u→W.cell? ((⟨g,0,none⟩:Addr).add j)=some u:=by
 rcases h.row.2 with ⟨e,h0⟩|⟨g,c,cur,e,hb,hg,rest⟩
 ·exact absurd h0 hn
 ·subst e;exact ⟨g,c,rfl,fun j u hj=>World.ownsRow.cells h.row (g:=g) rfl j u hj⟩
theorem Io.nil (W:World) (S:Nat):Io W S (.slice none 0 0) []:=⟨⟨rfl, .inl ⟨rfl,rfl⟩⟩,fun i x h=>(by cases h),fun i j x y _ h=>(by cases h)⟩
theorem Io.one {W:World} {S g:Nat} {m:Int} {t:Pl.Tr} (hb:S≤g) (hg:W.heap[g]? =some (.cells #[.int .i64 m,t.val] 109 (0,0))) (ht:ownN W S t.val t.L) (hn:∀q,t.val.ownBlock=some q→q≠g):Io W S (.slice (some ⟨g,0,none⟩) 1 1) [⟨m,t⟩]:=by
 refine ⟨⟨rfl, .inr ⟨g,1,_,rfl,hb,hg,Nat.le_refl _,by decide,rfl,rfl⟩⟩,fun i x hx=>?_,fun i j x y hij hx hy=>?_⟩
 ·cases i with
  |zero=>
   have e:(⟨m,t⟩:Pl.It)=x:=by simpa using hx
   subst e;exact ⟨ht,fun q hq e=>hn q hq (Option.some.inj e).symm⟩
  |succ i=>simp at hx
 ·cases i with
  |zero=>
   cases j with
   |zero=>exact absurd rfl hij
   |succ j=>simp at hy
  |succ i=>simp at hx
end Mem
end
section
open Go.RowKit
namespace Pl
def zi2 (L:List Ns):List Value:=L.flatMap (fun x=>[Value.int .i64 x.d, .slice x.a x.Is.length x.cap])
theorem cellsZ_app (A B:List Ns):zi2 (A++B)=zi2 A++zi2 B:=by simp [zi2]
theorem zv5:∀ (L:List Ns) (i:Nat) (x:Ns),L[i]? =some x→(zi2 L)[i*2]? =some (.int .i64 x.d)∧(zi2 L)[i*2+1]? =some (.slice x.a x.Is.length x.cap):=by
 intro L
 induction L with
 |nil=>intro i x h;cases h
 |cons y L ih=>
  intro i x h;have e:zi2 (y::L)=Value.int .i64 y.d:: .slice y.a y.Is.length y.cap::zi2 L:=rfl;cases i with
  |zero=>simp at h;subst h;rw [e];exact ⟨rfl,rfl⟩
  |succ i=>
   obtain ⟨h1,h2⟩:=ih i x (by simpa using h);rw [e,show (i+1)*2=i*2+1+1 by omega];exact ⟨by simpa using h1,by simpa using h2⟩
def upd (f:Nat→Nat) (n x:Nat):Nat→Nat:=fun j=>if j=n then x else f j
theorem upd_at (f:Nat→Nat) (n x:Nat):upd f n x n=x:=by simp [upd]
theorem upd_off (f:Nat→Nat) {n j:Nat} (x:Nat) (h:j≠n):upd f n x j=f j:=by simp [upd,h]
end Pl
namespace Mem
theorem zi7 {w w':World} {B e size n:Nat} {v:Value} {xs:List Value} (h:w.ownsRow B e size v n xs) (hb:∀g,v.ownBlock=some g→w'.heap[g]? =w.heap[g]?):w'.ownsRow B e size v n xs:=by
 refine ⟨h.1,?_⟩
 rcases h.2 with h0|⟨g,cap,cur,rfl,hb',hh,rest⟩
 ·exact .inl h0
 ·exact .inr ⟨g,cap,cur,rfl,hb',(hb g rfl).trans hh,rest⟩
structure Ib (W:World) (L H:Nat) (v:Value) (Is:List Pl.It):Prop where
 io:Io W L v Is
 h1:∀g,v.ownBlock=some g→g<H
 h2:∀ (i:Nat) x,Is[i]? =some x→∀g,x.t.val.ownBlock=some g→g<H
theorem Ib.same {W W':World} {L H:Nat} {v:Value} {Is:List Pl.It} (h:Ib W L H v Is) (hb:∀b,L≤b→b<H→W'.heap[b]? =W.heap[b]?):Ib W' L H v Is:=
 ⟨⟨zi7 h.io.row (fun g hg=>hb g (h.io.lt.1 g hg).1 (h.h1 g hg)),fun i x hx=>⟨zi7 (h.io.each i x hx).1 (fun g hg=>hb g (h.io.lt.2 i x hx g hg).1 (h.h2 i x hx g hg)),(h.io.each i x hx).2⟩,h.io.apart⟩,h.h1,h.h2⟩
theorem Ib.call {W W':World} {L H:Nat} {v:Value} {Is:List Pl.It} (h:Ib W L H v Is) (b:Below W.heap.size W W'):Ib W' L H v Is:=⟨h.io.call b,h.h1,h.h2⟩
structure Iz (W:World) (S:Nat) (v:Value) (Ns:List Pl.Ns) (lo hi:Nat→Nat):Prop where
 row:W.ownsRow S 96 2 v Ns.length (Pl.zi2 Ns)
 each:∀ (j:Nat) x,Ns[j]? =some x→Ib W (lo j) (hi j) (.slice x.a x.Is.length x.cap) x.Is∧S≤lo j∧lo j≤hi j∧hi j≤W.heap.size∧∀g,v.ownBlock=some g→g<lo j∨hi j≤g
 rise:∀i j,i<j→j<Ns.length→hi i≤lo j
theorem Iz.nil (W:World) (S:Nat) (lo hi:Nat→Nat):Iz W S (.slice none 0 0) [] lo hi:=⟨⟨rfl, .inl ⟨rfl,rfl⟩⟩,fun j x h=>(by cases h),fun i j _ h=>absurd h (by simp)⟩
theorem Iz.call {W W':World} {S:Nat} {v:Value} {Ns:List Pl.Ns} {lo hi:Nat→Nat} (h:Iz W S v Ns lo hi) (b:Below W.heap.size W W'):Iz W' S v Ns lo hi:=
 ⟨zd0 h.row b,fun j x hx=>⟨(h.each j x hx).1.call b,(h.each j x hx).2.1,(h.each j x hx).2.2.1,Nat.le_trans (h.each j x hx).2.2.2.1 b.size,(h.each j x hx).2.2.2.2⟩,h.rise⟩
theorem Iz.far {W:World} {S Y:Nat} {v:Value} {Ns:List Pl.Ns} {lo hi:Nat→Nat} (h:Iz W S v Ns lo hi) (k:Nat) (u:Value) (hY:Y<S):Iz (W.setCell ⟨Y,k,none⟩ u) S v Ns lo hi:=
 ⟨zi7 h.row (fun g hg=>heap_setCell_other _ _ _ _ (by have :=(World.ownsRow.lt h.row g hg).1;show g≠Y;omega)),fun j x hx=>⟨(h.each j x hx).1.same (fun b h1 _=>heap_setCell_other _ _ _ _ (by have :=(h.each j x hx).2.1;show b≠Y;omega)),(h.each j x hx).2.1,(h.each j x hx).2.2.1,by rw [World.size_setCell];exact (h.each j x hx).2.2.2.1,(h.each j x hx).2.2.2.2⟩,h.rise⟩
theorem Iz.app {W W':World} {S L H:Nat} {v v':Value} {Ns:List Pl.Ns} {lo hi:Nat→Nat} {x:Pl.Ns} (h:Iz W S v Ns lo hi) (hx:Ib W L H (.slice x.a x.Is.length x.cap) x.Is) (hS:S≤L) (hLH:L≤H) (hp:∀j,j<Ns.length→hi j≤L) (hv:∀g,v.ownBlock=some g→g<L) (hH:H≤W.heap.size)
  (own:W'.ownsRow S 96 2 v' (Ns.length+1) (Pl.zi2 Ns++Pl.zi2 [x])) (gr:W.grownBy W' v.ownBlock) (far:∀g,v'.ownBlock=some g→v.ownBlock=some g∨W.heap.size≤g):Iz W' S v' (Ns++[x]) (Pl.upd lo Ns.length L) (Pl.upd hi Ns.length H):=by
 refine ⟨by rw [List.length_append,List.length_singleton,Pl.cellsZ_app];exact own,fun j y hj=>?_,fun i j hij hj=>?_⟩
 ·by_cases e:j<Ns.length
  ·rw [List.getElem?_append_left e] at hj;obtain ⟨h1,h2,h3,h4,h5⟩:=h.each j y hj;rw [Pl.upd_off lo L (by omega),Pl.upd_off hi H (by omega)];refine ⟨h1.same (fun b hb1 hb2=>gr.block b (by omega) (fun e2=>?_)),h2,h3,Nat.le_trans h4 gr.size,fun g hg=>?_⟩
   ·rcases h5 b e2.symm with h6|h6 <;> omega
   ·rcases far g hg with h6|h6
    ·exact h5 g h6
    ·exact .inr (by omega)
  ·rw [List.getElem?_append_right (by omega)] at hj
   have hj0:j=Ns.length:=by
    have :=(List.getElem?_eq_some_iff.1 hj).1;simp at this;omega
   subst hj0;simp at hj
   subst hj;rw [Pl.upd_at,Pl.upd_at];refine ⟨hx.same (fun b hb1 hb2=>gr.block b (by omega) (fun e2=>?_)),hS,hLH,Nat.le_trans hH gr.size,fun g hg=>?_⟩
   ·have :=hv b e2.symm;omega
   ·rcases far g hg with h6|h6
    ·exact .inl (hv g h6)
    ·exact .inr (by omega)
 ·rw [List.length_append,List.length_singleton] at hj;rw [Pl.upd_off hi H (by omega)];by_cases e:j=Ns.length
  ·subst e;rw [Pl.upd_at];exact hp i (by omega)
  ·rw [Pl.upd_off lo L e];exact h.rise i j hij (by omega)
theorem Iz.zk0 {W:World} {S n cap:Nat} {a:Option Addr} {Ns:List Pl.Ns} {lo hi:Nat→Nat} (h:Iz W S (.slice a n cap) Ns lo hi):n=Ns.length∧zh W a Ns:=by
 rcases h.row.2 with ⟨e,h0⟩|⟨g,c,cur,e,hb,hg,rest⟩
 ·cases e
  have :Ns=[]:=List.eq_nil_of_length_eq_zero h0;subst this;exact ⟨rfl,yg0 _ _⟩
 ·cases e
  refine ⟨rfl,fun i x hx=>⟨⟨g,0,rfl,(Array.getElem?_eq_some_iff.1 hg).1,?_,?_⟩,(h.each i x hx).1.io.items.2⟩⟩
  ·have :=World.ownsRow.cells h.row (g:=g) rfl (i*2) _ (Pl.zv5 Ns i x hx).1;rw [add_lit] at this;rw [Nat.zero_add];exact this
  ·have :=World.ownsRow.cells h.row (g:=g) rfl (i*2+1) _ (Pl.zv5 Ns i x hx).2;rw [add_lit] at this;rw [Nat.zero_add];exact this
end Mem
end
section
open Go.RowKit
namespace Pl
def decF:Nat→Nat→List UInt8→List UInt8
 |0,_,out=>out
 |f+1,k,out=>if k=0 then out else decF f (k / 10) (UInt8.ofNat (48+k % 10)::out)
theorem decF_zero (f:Nat) (out:List UInt8):decF f 0 out=out:=by cases f <;> simp [decF]
theorem decF_step {f k:Nat} (h:0<k) (out:List UInt8):decF (f+1) k out=decF f (k / 10) (UInt8.ofNat (48+k % 10)::out):=by
 rw [decF,if_neg (by omega)]
def mark (k:Nat):ByteArray:=⟨(109::decF k k []).toArray⟩
def marks (k:Nat):Nat→List ByteArray
 |0=>[]
 |n+1=>marks k n++[mark (k+n)]
theorem zl4 (k n:Nat):(marks k n).length=n:=by
 induction n with
 |zero=>rfl
 |succ n ih=>rw [marks,List.length_append,ih];rfl
theorem marks_get (k:Nat):∀n j,j<n→(marks k n)[j]? =some (mark (k+j)):=by
 intro n
 induction n with
 |zero=>intro j h;omega
 |succ n ih=>
  intro j h;rw [marks];by_cases hj:j<n
  ·rw [List.getElem?_append_left (by rw [zl4];exact hj)];exact ih j hj
  ·obtain rfl:j=n:=by omega
   rw [List.getElem?_append_right (by rw [zl4];exact Nat.le_refl _),zl4,Nat.sub_self];rfl
end Pl
namespace zk4
theorem zf3 (K:Nat) (w:World) (h0:0<K) (hK:K≤9000000000000000000):
  Calls Tryz.prog 65 #[.int .i64 (K:Int)] w fun e w'=>e= .returned (.string (Pl.mark K))∧Below w.heap.size w w':=by
 have p1:¬ (K:Int)≤0:=by omega
 go_enter Tryz.func65,Tryz.ntmps65
 go_wp2
 go_loopw [0,3] (fun a o wr=>∃ (f k:Nat) (out:List UInt8),k≤f∧out.length+k≤K∧a= .int .i64 (k:Int)∧o= .string ⟨out.toArray⟩∧Below w.heap.size w wr∧Hid (Pl.decF f k out=Pl.decF K K [])) (fun a _ _=>(intOf a).toNat)
 case atStart=>exact ⟨K,K,[],Nat.le_refl _,by simp,rfl,rfl,Below.refl _ _,rfl⟩
 case round=>
  obtain ⟨f,k,out,hf,hk,rfl,rfl,hbel,HD⟩:=hrel;have hsz:=hbel.size;have ho:¬9223372036854775807<1+out.length:=by omega
  by_cases hk0:0<k
  ·obtain ⟨f,rfl⟩:∃g,f=g+1:=⟨f - 1,by omega⟩;have HD2:Hid (Pl.decF f (k / 10) (UInt8.ofNat (48+k % 10)::out)=Pl.decF K K []):=(Pl.decF_step hk0 out).symm.trans HD.out;have p2:(0:Int)<(k:Int):=by omega
   clear HD
   have hb:((UInt8.ofNat (48+k % 10)).toNat:Int)=48+(k:Int) % 10:=by
    rw [UInt8.toNat_ofNat_of_lt' (by show 48+k % 10<256;omega)];omega
   have hcv:=Mem.row_text (P:=Tryz.prog) (w:=wr.alloc (.cells #[.int .u8 (48+(k:Int) % 10)] 5)) (n:=1) (cap:=1) Tryz.underlying190 Tryz.underlying5 Tryz.underlying9 [UInt8.ofNat (48+k % 10)] rfl (heap_alloc_new wr _) (by simp only [List.map_cons,List.map_nil,Pl.zf,hb];rfl)
   have HX:Hid ((⟨[UInt8.ofNat (48+k % 10)].toArray⟩:ByteArray)++(⟨out.toArray⟩:ByteArray)=⟨(UInt8.ofNat (48+k % 10)::out).toArray⟩):=by
    show _=_;rw [Pl.yk1];rfl
   have hbel2:=hbel.alloc hsz (.cells #[.int .u8 (48+(k:Int) % 10)] 5);generalize UInt8.ofNat (48+k % 10)=b at hcv HX HD2;clear hb;go_wp2
   go_roundw
   case rel=>exact ⟨f,k / 10,b::out,by omega,by simp;omega,by go_num,congrArg Value.string HX.out,hbel2,HD2⟩
   case measure=>simp [intOf];omega
  ·have HD2:Hid (out=Pl.decF K K []):=by
    obtain rfl:k=0:=by omega
    exact (Pl.decF_zero f out).symm.trans HD.out
   have p2:¬ (0:Int)<(k:Int):=by omega
   have HX:Hid ((⟨#[109]⟩:ByteArray)++(⟨out.toArray⟩:ByteArray)=Pl.mark K):=by
    show _=_;rw [Pl.mark,←HD2.out];exact Pl.yk1 [109] ⟨out.toArray⟩
   clear HD;go_wp2
   go_ret
   exact ⟨congrArg (fun x=>Ending.returned (.string x)) HX.out,hbel⟩
end zk4
end
section
open Go.RowKit
namespace Pl
def zz6 (K i:Nat):Nd:=⟨mark (K+5*i),((K+5*i+1:Nat):Int),mark (K+5*i+2),((K+5*i+3:Nat):Int),((K+5*i+4:Nat):Int)⟩
def zq7 (K n:Nat):List Nd:=(List.range n).map (zz6 K)
theorem markN_get {K n i:Nat} {m:Nd} (h:(zq7 K n)[i]? =some m):i<n∧m=zz6 K i:=by
 unfold zq7 at h;rw [List.getElem?_map,Option.map_eq_some_iff] at h;obtain ⟨j,hj,rfl⟩:=h;obtain ⟨h1,h2⟩:=List.getElem?_eq_some_iff.1 hj;simp at h1 h2
 subst h2;exact ⟨h1,rfl⟩
theorem yg1 (K n:Nat):(zq7 K n).length=n:=by simp [zq7]
def rowAt (cv:Array Value) (j:Nat) (m:Nd):Prop:=cv[j*5]? =some (.string m.path)∧cv[j*5+1]? =some (.int .i64 m.kind)∧cv[j*5+2]? =some (.string m.data)∧cv[j*5+3]? =some (.int .i64 m.time)∧cv[j*5+4]? =some (.int .i64 m.mark)
end Pl
namespace zk9
theorem zw3 {w v v':World} {g:Nat} (h:w.grownBy v (some g)) (b:Below v.heap.size v v'):w.grownBy v' (some g):=
 ⟨b.os.trans h.os,b.tape.trans h.tape,b.output.trans h.output,Nat.le_trans h.size b.size,fun j hj hne=>(b.block j (Nat.lt_of_lt_of_le hj h.size)).trans (h.block j hj hne)⟩
theorem za2 {w v:World} {g o:Nat} {x:Value} (h:w.grownBy v (some g)):w.grownBy (v.setCell ⟨g,o,none⟩ x) (some g):=
 ⟨h.os,h.tape,h.output,Nat.le_trans h.size (by simp [World.setCell]),fun j hj hne=>(Below.heap_setCell _ _ _ _ (by intro e;exact hne (by rw [e]))).trans (h.block j hj hne)⟩
theorem lay_any (g n cap K:Nat) (cur:Array Value) (w:World) (hn:n≤1048576) (hK:0<K) (hK2:K≤8000000000000000000) (hrow:w.heap[g]? =some (.cells cur 55 (0,0))) (hsz:n*5≤cur.size):
  Calls Tryz.prog 97 #[.slice (some ⟨g,0,none⟩) n cap, .int .i64 (K:Int)] w fun e w'=>e= .returned (.int .i64 ((K+5*n:Nat):Int))∧
   (∃cur',w'.heap[g]? =some (.cells cur' 55 (0,0))∧cur'.size=cur.size)∧Mem.zb1 w' (some ⟨g,0,none⟩) (Pl.zq7 K n)∧w.grownBy w' (some g):=by
 have HR0:=hide hrow;have HS0:=hide hsz;clear hrow hsz;go_enter Tryz.func97,Tryz.ntmps97
 go_wp2
 go_loopw [1,5] (fun a i wr=>∃ (k q:Nat) (cv:Array Value),k≤n∧q=K+5*k∧i= .int .i64 (k:Int)∧a= .int .i64 (q:Int)∧Hid (wr.heap[g]? =some (.cells cv 55 (0,0)))∧Hid (cv.size=cur.size)∧Hid (w.grownBy wr (some g))∧
   Hid (∀j,j<k→Pl.rowAt cv j (Pl.zz6 K j))) (fun _ i _=>n - (intOf i).toNat)
 case atStart=>exact ⟨0,K,cur,Nat.zero_le _,rfl,rfl,rfl,HR0,rfl,⟨rfl,rfl,rfl,Nat.le_refl _,fun _ _ _=>rfl⟩,fun j h=>absurd h (by omega)⟩
 case round=>
  obtain ⟨k,q,cv,hk,hq,rfl,rfl,HR,HS,HG,HA⟩:=hrel;by_cases hlt:k<n
  ·have y1:(k:Int)<(n:Int):=by omega
   have y3:(0:Int)≤(k:Int):=by omega
   have HM:=hide (fun W=>zk4.zf3 q W (by omega) (by omega));have HM2:=hide (fun W=>zk4.zf3 (q+2) W (by omega) (by omega));rw [show ((q+2:Nat):Int)=(q:Int)+1+1 by omega] at HM2;have HQ:=hide hq;have q1:(q:Int)≤9000000000000000000:=by omega
   clear hq;go_wp2_with fail
   refine (za HM _).mono ?_;rintro e w2 ⟨rfl,b2⟩;have hg:g<wr.heap.size:=(Array.getElem?_eq_some_iff.1 (za HR)).1;have HR2:=hide ((b2.block _ hg).trans (za HR));have hcz:n*5≤cv.size:=by rw [za HS];exact za HS0
   have s0:∃x,w2.cell? ⟨g,k*5,none⟩=some x:=⟨_,(cell_of_row w2 _ (k*5) _ _ (0,0) (za HR2)).trans (Array.getElem?_eq_getElem (by omega))⟩;have s1:∃x,w2.cell? ⟨g,k*5+1,none⟩=some x:=⟨_,(cell_of_row w2 _ (k*5+1) _ _ (0,0) (za HR2)).trans (Array.getElem?_eq_getElem (by omega))⟩;obtain ⟨x0,s0⟩:=s0;obtain ⟨x1,s1⟩:=s1;have f0:∀j,w2.frozen? ⟨g,j,none⟩=false:=fun j=>Mem.zc2 (za HR2);have HG2:=hide (zw3 (za HG) b2);have HCZ:=hide hcz;clear b2 HR HG hcz hg HM;go_wp2_with fail
   have HR3:=hide (heap_setCell_same _ _ (k*5+1) _ _ (.int .i64 ((q:Int)+1)) (heap_setCell_same _ _ (k*5) _ _ (.string (Pl.mark q)) (za HR2)));have HG3:=hide (za2 (o:=k*5+1) (x:= .int .i64 ((q:Int)+1)) (za2 (o:=k*5) (x:= .string (Pl.mark q)) (za HG2)));refine (za HM2 _).mono ?_;rintro e w4 ⟨rfl,b4⟩;have HR4:=hide ((b4.block _ (Array.getElem?_eq_some_iff.1 (za HR3)).1).trans (za HR3));have HG4:=hide (zw3 (za HG3) b4);have hcz:=za HCZ;have s2:∃x,w4.cell? ⟨g,k*5+2,none⟩=some x:=⟨_,(cell_of_row w4 _ (k*5+2) _ _ (0,0) (za HR4)).trans (Array.getElem?_eq_getElem (by simp;omega))⟩;have s3:∃x,w4.cell? ⟨g,k*5+3,none⟩=some x:=⟨_,(cell_of_row w4 _ (k*5+3) _ _ (0,0) (za HR4)).trans (Array.getElem?_eq_getElem (by simp;omega))⟩;have s4:∃x,w4.cell? ⟨g,k*5+4,none⟩=some x:=⟨_,(cell_of_row w4 _ (k*5+4) _ _ (0,0) (za HR4)).trans (Array.getElem?_eq_getElem (by simp;omega))⟩;obtain ⟨x2,s2⟩:=s2
   obtain ⟨x3,s3⟩:=s3;obtain ⟨x4,s4⟩:=s4;have f4:∀j,w4.frozen? ⟨g,j,none⟩=false:=fun j=>Mem.zc2 (za HR4);clear b4 HR2 HG2 HR3 HG3 hcz HM2 s0 s1 f0;go_wp2
   go_roundw
   case rel=>
    refine ⟨k+1,q+5,_,by omega,by have :=za HQ;omega,by go_num,by go_num,hide (heap_setCell_same _ _ (k*5+4) _ _ _ (heap_setCell_same _ _ (k*5+3) _ _ _ (heap_setCell_same _ _ (k*5+2) _ _ _ (za HR4)))),?_,hide (za2 (za2 (za2 (za HG4)))),?_⟩
    ·exact hide (by simpa using za HS)
    ·intro j hj;have hcz:=za HCZ
     rcases Nat.lt_succ_iff_lt_or_eq.1 hj with h''|rfl
     ·obtain ⟨i0,i1,i2,i3,i4⟩:=HA.out j h'';simp only [Pl.rowAt,Array.getElem?_setIfInBounds];refine ⟨?_,?_,?_,?_,?_⟩ <;> (repeat (rw [if_neg (by omega)])) <;> assumption
     ·have hq:=za HQ;simp only [Pl.rowAt,Pl.zz6,Array.getElem?_setIfInBounds,Array.size_setIfInBounds,←hq];refine ⟨?_,?_,?_,?_,?_⟩ <;> simp <;> omega
   case measure=>simp [intOf];omega
  ·obtain rfl:k=n:=by omega
   have y1:¬ (k:Int)<(k:Int):=by omega
   have hq2:(q:Int)=((K+5*k:Nat):Int):=by omega
   have HQ:=hide hq2;clear hq2 hq;go_wp2
   go_ret
   refine ⟨by rw [za HQ];rfl,⟨cv,za HR,za HS⟩,fun j m hj=>?_,za HG⟩;obtain ⟨hjl,rfl⟩:=Pl.markN_get hj;obtain ⟨i0,i1,i2,i3,i4⟩:=HA.out j hjl;refine ⟨g,0,rfl,(Array.getElem?_eq_some_iff.1 (za HR)).1,?_,?_,?_,?_,?_⟩
   ·rw [cell_of_row wr _ _ _ _ (0,0) (za HR),Nat.zero_add];exact i0
   ·rw [cell_of_row wr _ _ _ _ (0,0) (za HR),Nat.zero_add];exact i1
   ·rw [cell_of_row wr _ _ _ _ (0,0) (za HR),Nat.zero_add];exact i2
   ·rw [cell_of_row wr _ _ _ _ (0,0) (za HR),Nat.zero_add];exact i3
   ·rw [cell_of_row wr _ _ _ _ (0,0) (za HR),Nat.zero_add];exact i4
end zk9
end
section
open Go.RowKit
namespace Pl
def kAt (K:Nat) (Is:List It):Nat→Nat
 |0=>K
 |i+1=>kAt K Is i+match Is[i]? with
  |some x=>1+5*x.t.L.length
  |none=>0
theorem kAt_succ {K:Nat} {Is:List It} {i:Nat} {x:It} (h:Is[i]? =some x):kAt K Is (i+1)=kAt K Is i+1+5*x.t.L.length:=by
 rw [kAt,h];show kAt K Is i+(1+5*x.t.L.length)=_;omega
theorem kAt_ge (K:Nat) (Is:List It) (i:Nat):K≤kAt K Is i:=by
 induction i with
 |zero=>exact Nat.le_refl _
 |succ i ih=>simp only [kAt];omega
def mkIt (K:Nat) (Is:List It) (i:Nat) (x:It):It:=⟨(kAt K Is i:Int),⟨x.t.a,x.t.cap,zq7 (kAt K Is i+1) x.t.L.length⟩⟩
def mkTo (K:Nat) (Is:List It) (i:Nat):List It:=Is.mapIdx (fun j x=>if j<i then mkIt K Is j x else x)
theorem zx8 (K:Nat) (Is:List It) (i:Nat):(mkTo K Is i).length=Is.length:=by simp [mkTo]
theorem mkTo_zero (K:Nat) (Is:List It):mkTo K Is 0=Is:=by
 apply List.ext_getElem?
 intro j;simp [mkTo,List.getElem?_mapIdx]
theorem zx5 (K:Nat) (Is:List It) (i j:Nat):(mkTo K Is i)[j]? =Is[j]?.map (fun x=>if j<i then mkIt K Is j x else x):=by
 simp [mkTo,List.getElem?_mapIdx]
theorem mkTo_succ (K:Nat) {Is:List It} {i:Nat} {x:It} (h:Is[i]? =some x):(mkTo K Is i).set i (mkIt K Is i x)=mkTo K Is (i+1):=by
 apply List.ext_getElem?
 intro j;have hlt:=(List.getElem?_eq_some_iff.1 h).1;rw [List.getElem?_set,zx5,zx5];by_cases e:i=j
 ·subst e;rw [if_pos rfl,if_pos (by rw [zx8];exact hlt),h];simp
 ·rw [if_neg e];cases Is[j]? with
  |none=>rfl
  |some y=>
   simp only [Option.map_some]
   congr 1
   by_cases h1:j<i
   ·rw [if_pos h1,if_pos (by omega)]
   ·rw [if_neg h1,if_neg (by omega)]
end Pl
namespace Mem
structure OwnI (w:World) (B g:Nat) (Is:List Pl.It):Prop where
 row:∃cur,w.heap[g]? =some (.cells cur 109 (0,0))∧Is.length*2≤cur.size
 lo:B≤g
 items:zb4 w (some ⟨g,0,none⟩) Is
 own:∀ (i:Nat) x,Is[i]? =some x→(x.t.a=none∧x.t.L=[]∧x.t.cap=0)∨∃h cur,x.t.a=some ⟨h,0,none⟩∧B≤h∧h≠g∧w.heap[h]? =some (.cells cur 55 (0,0))∧x.t.L.length*5≤cur.size
 apart:∀ (i j:Nat) x y,i≠j→Is[i]? =some x→Is[j]? =some y→∀h,x.t.a=some ⟨h,0,none⟩→y.t.a≠some ⟨h,0,none⟩
theorem OwnI.call {w w':World} {B g:Nat} {Is:List Pl.It} (o:OwnI w B g Is) (b:Below w.heap.size w w'):OwnI w' B g Is:=by
 obtain ⟨cur,h1,h2⟩:=o.row;refine ⟨⟨cur,(b.block _ (Array.getElem?_eq_some_iff.1 h1).1).trans h1,h2⟩,o.lo,zc0 o.items b,fun i x hx=>?_,o.apart⟩
 rcases o.own i x hx with h|⟨h,c,k1,k2,k3,k4,k5⟩
 ·exact .inl h
 ·exact .inr ⟨h,c,k1,k2,k3,(b.block _ (Array.getElem?_eq_some_iff.1 k4).1).trans k4,k5⟩
theorem zn6 {Is:List Pl.It} {i:Nat} {x x':Pl.It} (hx:Is[i]? =some x) {j:Nat} {y:Pl.It} (hy:(Is.set i x')[j]? =some y):(j=i∧y=x')∨(j≠i∧Is[j]? =some y):=by
 rw [List.getElem?_set] at hy;by_cases e:i=j
 ·subst e;rw [if_pos rfl,if_pos (List.getElem?_eq_some_iff.1 hx).1] at hy;cases hy;exact .inl ⟨rfl,rfl⟩
 ·rw [if_neg e] at hy;exact .inr ⟨fun h=>e h.symm,hy⟩
theorem OwnI.many {w:World} {B g i:Nat} {Is:List Pl.It} {x:Pl.It} (o:OwnI w B g Is) (hx:Is[i]? =some x) (k:Int):OwnI (w.setCell ⟨g,i*2,none⟩ (.int .i64 k)) B g (Is.set i ⟨k,x.t⟩):=by
 obtain ⟨cur,h1,h2⟩:=o.row;have hlt:=(List.getElem?_eq_some_iff.1 hx).1;have hr:=heap_setCell_same w g (i*2) cur 109 (.int .i64 k) h1;have hg:=(Array.getElem?_eq_some_iff.1 h1).1;have far:∀h,h≠g→(w.setCell ⟨g,i*2,none⟩ (.int .i64 k)).heap[h]? =w.heap[h]?:=fun h hh=>heap_setCell_other _ _ _ _ hh
 have nod:∀ (j:Nat) y,Is[j]? =some y→zb1 (w.setCell ⟨g,i*2,none⟩ (.int .i64 k)) y.t.a y.t.L:=fun j y hy=>by
  rcases o.own j y hy with ⟨e1,e2, -⟩|⟨h,c,k1,k2,k3, -⟩
  ·rw [e2];exact yf5 _ _
  ·have :=(o.items j y hy).2;rw [k1] at this ⊢;exact zf2 this _ _ (fun e=>k3 e.symm)
 refine ⟨⟨_,hr,by simpa using h2⟩,o.lo,fun j y hy=>?_,fun j y hy=>?_,fun a b y z hab hy hz h=>?_⟩
 ·rcases zn6 hx hy with ⟨rfl,rfl⟩|⟨hne,hy'⟩
  ·refine ⟨⟨g,0,rfl,by simpa using hg,?_,?_⟩,nod j x hx⟩
   ·rw [cell_of_row _ _ _ _ _ (0,0) hr,Nat.zero_add,Array.getElem?_setIfInBounds,if_pos rfl,if_pos (by omega)]
   ·obtain ⟨⟨g',o',e, -, -,c2⟩, -⟩:=o.items j x hx;cases e
    rw [cell_of_row _ _ _ _ _ (0,0) h1] at c2;rw [cell_of_row _ _ _ _ _ (0,0) hr,Array.getElem?_setIfInBounds,if_neg (by omega)];exact c2
  ·obtain ⟨⟨g',o',e, -,c1,c2⟩, -⟩:=o.items j y hy';cases e
   rw [cell_of_row _ _ _ _ _ (0,0) h1] at c1 c2;refine ⟨⟨g,0,rfl,by simpa using hg,?_,?_⟩,nod j y hy'⟩
   ·rw [cell_of_row _ _ _ _ _ (0,0) hr,Array.getElem?_setIfInBounds,if_neg (by omega)];exact c1
   ·rw [cell_of_row _ _ _ _ _ (0,0) hr,Array.getElem?_setIfInBounds,if_neg (by omega)];exact c2
 ·have key:∃ (j':Nat) (y':Pl.It),Is[j']? =some y'∧y'.t=y.t:=by
   rcases zn6 hx hy with ⟨rfl,rfl⟩|⟨-,hy'⟩
   ·exact ⟨_,x,hx,rfl⟩
   ·exact ⟨_,y,hy',rfl⟩
  obtain ⟨j',y',hy',e⟩:=key;rw [←e]
  rcases o.own j' y' hy' with h|⟨h,c,k1,k2,k3,k4,k5⟩
  ·exact .inl h
  ·exact .inr ⟨h,c,k1,k2,k3,(far h k3).trans k4,k5⟩
 ·rcases zn6 hx hy with ⟨rfl,rfl⟩|⟨-,hy'⟩
  ·rcases zn6 hx hz with ⟨rfl, -⟩|⟨-,hz'⟩
   ·exact absurd rfl hab
   ·exact o.apart _ _ x z hab hx hz' h
  ·rcases zn6 hx hz with ⟨rfl,rfl⟩|⟨-,hz'⟩
   ·exact o.apart _ _ y x hab hy' hx h
   ·exact o.apart _ _ y z hab hy' hz' h
theorem OwnI.nodes {w w':World} {B g i h:Nat} {Is:List Pl.It} {x:Pl.It} {M:List Pl.Nd} (o:OwnI w B g Is) (hx:Is[i]? =some x) (ha:x.t.a=some ⟨h,0,none⟩) (gr:w.grownBy w' (some h))
  (hrow:∃cur,w'.heap[h]? =some (.cells cur 55 (0,0))∧x.t.L.length*5≤cur.size) (hn:zb1 w' (some ⟨h,0,none⟩) M) (hM:M.length=x.t.L.length):OwnI w' B g (Is.set i ⟨x.m,⟨x.t.a,x.t.cap,M⟩⟩):=by
 obtain ⟨cur,h1,h2⟩:=o.row;have hg:=(Array.getElem?_eq_some_iff.1 h1).1
 have hgh:g≠h:=by
  rcases o.own i x hx with ⟨e, -, -⟩|⟨h',c,k1, -,k3, -⟩
  ·rw [e] at ha;cases ha
  ·rw [k1] at ha;cases ha;exact fun e=>k3 e.symm
 have hB:B≤h:=by
  rcases o.own i x hx with ⟨e, -, -⟩|⟨h',c,k1,k2, -⟩
  ·rw [e] at ha;cases ha
  ·rw [k1] at ha;cases ha;exact k2
 have h1':w'.heap[g]? =some (.cells cur 109 (0,0)):=(gr.block g hg (fun e=>hgh (Option.some.inj e))).trans h1
 have oth:∀ (j:Nat) y,j≠i→Is[j]? =some y→zb1 w' y.t.a y.t.L:=fun j y hj hy=>by
  rcases o.own j y hy with ⟨e1,e2, -⟩|⟨h',c,k1,k2,k3, -⟩
  ·rw [e2];exact yf5 _ _
  ·have hh:h'≠h:=fun e=>by subst e;exact o.apart i j x y (fun e=>hj e.symm) hx hy _ ha k1
   have :=(o.items j y hy).2;rw [k1] at this ⊢;exact nodes_grown this gr (fun e=>hh (Option.some.inj e))
 have cel:∀ (j:Nat) y,Is[j]? =some y→∃b o',some ⟨g,0,none⟩=some (⟨b,o',none⟩:Addr)∧b<w'.heap.size∧w'.cell? ⟨b,o'+j*2,none⟩=some (.int .i64 y.m)∧w'.cell? ⟨b,o'+j*2+1,none⟩=some y.t.val:=fun j y hy=>by
  obtain ⟨⟨g',o',e, -,c1,c2⟩, -⟩:=o.items j y hy;cases e
  rw [cell_of_row _ _ _ _ _ (0,0) h1] at c1 c2;exact ⟨g,0,rfl,Nat.lt_of_lt_of_le hg gr.size,by rw [cell_of_row _ _ _ _ _ (0,0) h1'];exact c1,by rw [cell_of_row _ _ _ _ _ (0,0) h1'];exact c2⟩
 refine ⟨⟨cur,h1',by simpa using h2⟩,o.lo,fun j y hy=>?_,fun j y hy=>?_,fun a b y z hab hy hz k=>?_⟩
 ·rcases zn6 hx hy with ⟨rfl,rfl⟩|⟨hne,hy'⟩
  ·obtain ⟨b,o',e,q1,q2,q3⟩:=cel j x hx;refine ⟨⟨b,o',e,q1,q2,?_⟩,by simp only [ha];exact hn⟩;rw [q3];simp only [Pl.Tr.val,hM]
  ·exact ⟨cel j y hy',oth j y hne hy'⟩
 ·rcases zn6 hx hy with ⟨rfl,rfl⟩|⟨hne,hy'⟩
  ·obtain ⟨c,r1,r2⟩:=hrow;exact .inr ⟨h,c,ha,hB,fun e=>hgh e.symm,r1,by simp only [hM];exact r2⟩
  ·rcases o.own j y hy' with hh|⟨h',c,k1,k2,k3,k4,k5⟩
   ·exact .inl hh
   ·have hne':h'≠h:=fun e=>by subst e;exact o.apart i j x y (fun e=>hne e.symm) hx hy' _ ha k1
    exact .inr ⟨h',c,k1,k2,k3,(gr.block h' (Array.getElem?_eq_some_iff.1 k4).1 (fun e=>hne' (Option.some.inj e))).trans k4,k5⟩
 ·rcases zn6 hx hy with ⟨rfl,rfl⟩|⟨-,hy'⟩
  ·rcases zn6 hx hz with ⟨rfl, -⟩|⟨-,hz'⟩
   ·exact absurd rfl hab
   ·exact o.apart _ _ x z hab hx hz' k
  ·rcases zn6 hx hz with ⟨rfl,rfl⟩|⟨-,hz'⟩
   ·exact o.apart _ _ y x hab hy' hx k
   ·exact o.apart _ _ y z hab hy' hz' k
end Mem
end
end Go.Proofs.YtbomeifgfalmdaaGreatDoor
