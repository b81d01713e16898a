import Derived.Test.YtggadpalljhiaaaGreatDoorG06
import Derived.Test.YtggadpalljhiaaaGreatDoorG07
namespace Go.Proofs.YtggadpalljhiaaaGreatDoor
open Go.RowKit Go.Maps
namespace Mem
theorem za9 {α:Type} {T:TypeId} {cs:α→List Value} {w:World} {B:Nat} {v:Value} {L:List α} (h:own3 T cs w B v L) (a:Addr) (u:Value) (ha:∀g,v.ownBlock=some g→a.block≠g):own3 T cs (w.setCell a u) B v L:=by
 refine ⟨h.1,?_⟩
 rcases h.2 with h0|⟨g,cap,cur,rfl,hb,hg,rest⟩
 ·exact .inl h0
 ·exact .inr ⟨g,cap,cur,rfl,hb,(heap_setCell_other w a g u (fun e=>ha g rfl e.symm)).trans hg,rest⟩
theorem za5 {α:Type} {T:TypeId} {cs:α→List Value} {w:World} {B:Nat} {v:Value} {L:List α} (h:own3 T cs w B v L):∀g,v.ownBlock=some g→B≤g∧g<w.heap.size:=fun g hg=>World.ownsRow.lt h g hg
end Mem
namespace SpO
structure SpV (B:Nat) (W:World) (s:Pl.Sp) (q:Nat) (E:List (Int × Pl.Nv)) (ma:Option Addr) (mc:Nat) (ha:Option Addr) (hc:Nat):Prop where
 lo:B≤q
 ids:E.map (·.1)=s.N.map (·.d)
 mo:W.ownsMap Tryz.prog 2 MapI.elem q 12 (MapI.mapOf (Pl.vals E))
 nv:∃W1,Mem.ze0 W1 (q+1) E s.N∧W1.heap.size≤W.heap.size∧q<W1.heap.size∧(∀b,q<b→b<W1.heap.size→W.heap[b]? =W1.heap[b]?)∧Mem.own3 51 Pl.Mn.cs W W1.heap.size (.slice ma s.M.length mc) s.M∧Mem.own3 99 Pl.Hn.cs W W1.heap.size (.slice ha s.H.length hc) s.H
 ne:∀g,(Value.slice ma s.M.length mc).ownBlock=some g→(Value.slice ha s.H.length hc).ownBlock≠some g
theorem SpV.call {B:Nat} {W W':World} {s:Pl.Sp} {q:Nat} {E:List (Int × Pl.Nv)} {ma:Option Addr} {mc:Nat} {ha:Option Addr} {hc:Nat} (h:SpV B W s q E ma mc ha hc) (b:Below W.heap.size W W'):SpV B W' s q E ma mc ha hc:=by
 obtain ⟨h1,h2,h3,⟨W1,h4,h5,h6,h7,h8,h9⟩,h10⟩:=h;exact ⟨h1,h2,MapI.ze3 h3 b,⟨W1,h4,Nat.le_trans h5 b.size,h6,fun g hg hl=>(b.block g (by omega)).trans (h7 g hg hl),Mem.zc0 h8 b,Mem.zc0 h9 b⟩,h10⟩
theorem SpV.far {B:Nat} {W:World} {s:Pl.Sp} {q:Nat} {E:List (Int × Pl.Nv)} {ma:Option Addr} {mc:Nat} {ha:Option Addr} {hc:Nat} (h:SpV B W s q E ma mc ha hc) {Y:Nat} (k:Nat) (u:Value) (hY:Y<q):SpV B (W.setCell ⟨Y,k,none⟩ u) s q E ma mc ha hc:=by
 obtain ⟨h1,h2,h3,⟨W1,h4,h5,h6,h7,h8,h9⟩,h10⟩:=h;have g:W.grownBy (W.setCell ⟨Y,k,none⟩ u) (some Y):=⟨rfl,rfl,rfl,by rw [World.size_setCell];exact Nat.le_refl _,fun j _ hj=>heap_setCell_other _ _ _ _ (fun e=>hj (congrArg some e))⟩;refine ⟨h1,h2,h3.kept g (fun e=>by have :=Option.some.inj e;omega),⟨W1,h4,by rw [World.size_setCell];exact h5,h6,fun b hb hl=>(heap_setCell_other _ _ _ _ (by show b≠Y;omega)).trans (h7 b hb hl),Mem.za9 h8 _ _ (fun b hb=>by have :=(Mem.za5 h8 b hb).1;show Y≠b;omega),Mem.za9 h9 _ _ (fun b hb=>by have :=(Mem.za5 h9 b hb).1;show Y≠b;omega)⟩,h10⟩
theorem SpV.nests {B:Nat} {W:World} {s:Pl.Sp} {q:Nat} {E:List (Int × Pl.Nv)} {ma:Option Addr} {mc:Nat} {ha:Option Addr} {hc:Nat} (h:SpV B W s q E ma mc ha hc):Mem.ze0 W (q+1) E s.N:=by
 obtain ⟨W1,h4,h5,h6,h7,h8,h9⟩:=h.nv;intro i y hy;obtain ⟨x,k1,k2,k3⟩:=h4 i y hy;exact ⟨x,k1,k2,k3.same h5 (fun b hb hl=>h7 b (by omega) hl)⟩
theorem SpV.zh {B:Nat} {W:World} {s:Pl.Sp} {q:Nat} {E:List (Int × Pl.Nv)} {ma:Option Addr} {mc:Nat} {ha:Option Addr} {hc:Nat} (h:SpV B W s q E ma mc ha hc):Mem.zb2 W ma s.M:=by
 obtain ⟨W1,h4,h5,h6,h7,h8,h9⟩:=h.nv;obtain ⟨a,cap,e,hr,_⟩:=Mem.zf7 Pl.Mn.three h8;cases e
 exact Mem.zj3 hr
theorem SpV.hands {B:Nat} {W:World} {s:Pl.Sp} {q:Nat} {E:List (Int × Pl.Nv)} {ma:Option Addr} {mc:Nat} {ha:Option Addr} {hc:Nat} (h:SpV B W s q E ma mc ha hc):Mem.zb9 W ha s.H:=by
 obtain ⟨W1,h4,h5,h6,h7,h8,h9⟩:=h.nv;obtain ⟨a,cap,e,hr,_⟩:=Mem.zf7 Pl.Hn.three h9;cases e
 exact Mem.zf5 hr
structure Ps (D W:World) (eX:Option Nat) (o1 o2:Option (Option Addr × Nat)) (M:List Pl.Mn) (H:List Pl.Hn):Prop where
 bel:Below D.heap.size D W
 bx:∀X,eX=some X→Mem.Blk W X #[.map none, .slice none 0 0, .slice none 0 0, .int .i64 0] 72∧D.heap.size≤X
 q1:∀p,o1=some p→Mem.own3 51 Pl.Mn.cs W D.heap.size (.slice p.1 M.length p.2) M∧∀g,(Value.slice p.1 M.length p.2).ownBlock=some g→eX≠some g
 q2:∀p,o2=some p→Mem.own3 99 Pl.Hn.cs W D.heap.size (.slice p.1 H.length p.2) H∧∀g,(Value.slice p.1 H.length p.2).ownBlock=some g→eX≠some g∧∀p1,o1=some p1→(Value.slice p1.1 M.length p1.2).ownBlock≠some g
section
variable {D W W':World} {eX:Option Nat} {o1 o2:Option (Option Addr × Nat)} {M:List Pl.Mn} {H:List Pl.Hn}
theorem Ps.start (b:Below D.heap.size D W):Ps D W none none none M H:=⟨b,fun _ h=>(by cases h),fun _ h=>(by cases h),fun _ h=>(by cases h)⟩
theorem Ps.call (h:Ps D W eX o1 o2 M H) (b:Below W.heap.size W W'):Ps D W' eX o1 o2 M H:=
 ⟨h.bel.trans (b.mono h.bel.size),fun X e=>⟨(h.bx X e).1.call b,(h.bx X e).2⟩,fun p e=>⟨Mem.zc0 (h.q1 p e).1 b,(h.q1 p e).2⟩,fun p e=>⟨Mem.zc0 (h.q2 p e).1 b,(h.q2 p e).2⟩⟩
theorem Ps.c1 {a:Option Addr} {c:Nat} (h:Ps D W eX none none M H) (b:Below W.heap.size W W') (o:Mem.own3 51 Pl.Mn.cs W' W.heap.size (.slice a M.length c) M):Ps D W' eX (some (a,c)) none M H:=by
 have g:=h.call b;refine ⟨g.bel,g.bx,fun p e=>?_,fun _ h=>(by cases h)⟩;cases e
 refine ⟨Mem.zg5 o h.bel.size,fun q hq e=>?_⟩;have :=(Mem.za5 o q hq).1;have :=(h.bx q e).1.lt;omega
theorem Ps.c2 {a:Option Addr} {c:Nat} (h:Ps D W eX o1 none M H) (b:Below W.heap.size W W') (o:Mem.own3 99 Pl.Hn.cs W' W.heap.size (.slice a H.length c) H):Ps D W' eX o1 (some (a,c)) M H:=by
 have g:=h.call b;refine ⟨g.bel,g.bx,g.q1,fun p e=>?_⟩;cases e
 refine ⟨Mem.zg5 o h.bel.size,fun q hq=>⟨fun e=>?_,fun p1 e e1=>?_⟩⟩
 ·have :=(Mem.za5 o q hq).1;have :=(h.bx q e).1.lt;omega
 ·have :=(Mem.za5 o q hq).1;have :=(Mem.za5 (h.q1 p1 e).1 q e1).2;omega
end
structure Rk (v W:World) (X q:Nat) (sa ta:Option Addr) (sc tc:Nat) (M:List Pl.Mn) (H:List Pl.Hn) (next :Int):Prop where
 bel:Below v.heap.size v W
 bx:Mem.Blk W X #[.map (some q), .slice sa M.length sc, .slice ta H.length tc, .int .i64 next] 72
 lx:v.heap.size≤X
 q1:Mem.own3 51 Pl.Mn.cs W v.heap.size (.slice sa M.length sc) M
 q2:Mem.own3 99 Pl.Hn.cs W v.heap.size (.slice ta H.length tc) H
 ne:∀g,(Value.slice sa M.length sc).ownBlock=some g→(Value.slice ta H.length tc).ownBlock≠some g
theorem Rk.call {v W W':World} {X q:Nat} {sa ta:Option Addr} {sc tc:Nat} {M:List Pl.Mn} {H:List Pl.Hn} {next :Int} (h:Rk v W X q sa ta sc tc M H next) (b:Below W.heap.size W W'):Rk v W' X q sa ta sc tc M H next :=
 ⟨h.bel.trans (b.mono h.bel.size),h.bx.call b,h.lx,Mem.zc0 h.q1 b,Mem.zc0 h.q2 b,h.ne⟩
theorem Rk.put {v W:World} {X q:Nat} {sa ta:Option Addr} {sc tc:Nat} {M:List Pl.Mn} {H:List Pl.Hn} {next :Int} (h:Rk v W X q sa ta sc tc M H next) {Y k:Nat} (u:Value) (hY:Y<v.heap.size):
  Mem.Blk (W.setCell ⟨Y,k,none⟩ u) X #[.map (some q), .slice sa M.length sc, .slice ta H.length tc, .int .i64 next] 72∧Mem.own3 51 Pl.Mn.cs (W.setCell ⟨Y,k,none⟩ u) v.heap.size (.slice sa M.length sc) M∧Mem.own3 99 Pl.Hn.cs (W.setCell ⟨Y,k,none⟩ u) v.heap.size (.slice ta H.length tc) H:=
 ⟨h.bx.far _ _ (by have :=h.lx;show X≠Y;omega),Mem.za9 h.q1 _ _ (fun g hg=>by have :=(Mem.za5 h.q1 g hg).1;show Y≠g;omega),Mem.za9 h.q2 _ _ (fun g hg=>by have :=(Mem.za5 h.q2 g hg).1;show Y≠g;omega)⟩
theorem Ps.fin {D W:World} {X q:Nat} {sa ta:Option Addr} {sc tc:Nat} {M:List Pl.Mn} {H:List Pl.Hn} (h:Ps D W (some X) (some (sa,sc)) (some (ta,tc)) M H) (next :Int):
  Rk D ((((W.setCell ⟨X,0,none⟩ (.map (some q))).setCell ⟨X,1,none⟩ (.slice sa M.length sc)).setCell ⟨X,2,none⟩ (.slice ta H.length tc)).setCell ⟨X,3,none⟩ (.int .i64 next)) X q sa ta sc tc M H next :=by
 obtain ⟨h5,l5⟩:=h.bx _ rfl;obtain ⟨o1,n1⟩:=h.q1 _ rfl;obtain ⟨o2,n2⟩:=h.q2 _ rfl;refine ⟨(((h.bel.setCell l5 _).setCell l5 _).setCell l5 _).setCell l5 _,(((h5.put 0 _).put 1 _).put 2 _).put 3 _,l5,?_,?_,fun g hg e=>(n2 g e).2 _ rfl hg⟩
 ·exact Mem.za9 (Mem.za9 (Mem.za9 (Mem.za9 o1 _ _ (fun g hg e=>n1 g hg (congrArg some e))) _ _ (fun g hg e=>n1 g hg (congrArg some e))) _ _ (fun g hg e=>n1 g hg (congrArg some e))) _ _ (fun g hg e=>n1 g hg (congrArg some e))
 ·exact Mem.za9 (Mem.za9 (Mem.za9 (Mem.za9 o2 _ _ (fun g hg e=>(n2 g hg).1 (congrArg some e))) _ _ (fun g hg e=>(n2 g hg).1 (congrArg some e))) _ _ (fun g hg e=>(n2 g hg).1 (congrArg some e))) _ _ (fun g hg e=>(n2 g hg).1 (congrArg some e))
end SpO
end Go.Proofs.YtggadpalljhiaaaGreatDoor
