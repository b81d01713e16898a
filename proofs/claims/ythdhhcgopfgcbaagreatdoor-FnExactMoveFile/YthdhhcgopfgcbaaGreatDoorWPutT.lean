import Derived.Test.YthdhhcgopfgcbaaGreatDoorG01
namespace Go.Proofs.YthdhhcgopfgcbaaGreatDoor
open Go.RowKit
namespace zg2
structure At (w W:World) (g:Nat) (L:List Pl.Nd) (n:Pl.Nd):Prop where
 bel:Below w.heap.size w W
 one:Mem.Blk W w.heap.size #[.slice (some ⟨g,0,none⟩) L.length L.length] 43
 two:Mem.Blk W (w.heap.size+1) n.cs.toArray 47
 three:Mem.Blk W (w.heap.size+1+1) #[.slice none 0 0] 43
 nodes:Mem.za2 W (some ⟨g,0,none⟩) L
 lt:g<w.heap.size
theorem At.call {w W W':World} {g:Nat} {L:List Pl.Nd} {n:Pl.Nd} (h:At w W g L n) (b:Below W.heap.size W W'):At w W' g L n:=
 ⟨h.bel.trans (b.mono h.bel.size),h.one.call b,h.two.call b,h.three.call b,Mem.za0 h.nodes b,h.lt⟩
theorem At.drew {w W:World} {g:Nat} {L:List Pl.Nd} {n:Pl.Nd} (h:At w W g L n):At w W.drew g L n:=
 ⟨⟨h.bel.os,h.bel.tape,h.bel.output,h.bel.size,h.bel.block⟩,h.one,h.two,h.three,h.nodes,h.lt⟩
theorem At.grown {w W W':World} {g:Nat} {L:List Pl.Nd} {n:Pl.Nd} {r:Option Nat} (h:At w W g L n) (b:W.grownBy W' r) (hr:∀q,r=some q→w.heap.size+3≤q):At w W' g L n:=
 ⟨h.bel.grown b h.bel.size (fun q hq=>by have :=hr q hq;omega),h.one.grown b (fun e=>by have :=hr _ e.symm;omega),h.two.grown b (fun e=>by have :=hr _ e.symm;omega),h.three.grown b (fun e=>by have :=hr _ e.symm;omega),
  Mem.yd9 h.nodes b (fun e=>by have :=hr _ e.symm;have :=h.lt;omega),h.lt⟩
theorem At.alloc {w W:World} {g:Nat} {L:List Pl.Nd} {n:Pl.Nd} (h:At w W g L n) (o:Obj):At w (W.alloc o) g L n:=h.call ((Below.refl _ _).alloc (Nat.le_refl _) o)
end zg2
end Go.Proofs.YthdhhcgopfgcbaaGreatDoor
