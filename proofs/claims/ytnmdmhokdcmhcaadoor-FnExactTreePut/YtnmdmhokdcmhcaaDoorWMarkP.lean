/- What a law keeps from call to call where a tree and a node are handed on: the orders of a region brought together again behind it. -/
import Derived.Test.YtnmdmhokdcmhcaaDoorWMarkO
import Derived.Test.YtnmdmhokdcmhcaaDoorMerge
namespace Go.Proofs.YtnmdmhokdcmhcaaDoor
open Go.RowKit
namespace WMarkP
structure Got (w W : World) (Y : Nat) (aw : Option Addr) (cw : Nat) (O : List Pl.Nd) (c : Int) : Prop where
  bel : Below w.heap.size w W
  lo : w.heap.size ≤ Y
  var : Mem.Blk W Y #[.slice aw O.length cw, .int .i64 c] 41
  own : Mem.ownN W w.heap.size (.slice aw O.length cw) O
  ne : ∀ g, (Value.slice aw O.length cw).ownBlock = some g → g ≠ Y
theorem Got.of {w W : World} {Y cw : Nat} {aw : Option Addr} {O : List Pl.Nd} {c : Int} (b : Below w.heap.size w W) (lo : w.heap.size ≤ Y) (V : Mem.Blk W Y #[.slice none 0 0, .int .i64 0] 41) (own : Mem.ownN W w.heap.size (.slice aw O.length cw) O) (ne : ∀ g, (Value.slice aw O.length cw).ownBlock = some g → g ≠ Y) :
    Got w ((W.setCell ⟨Y, 0, none⟩ (.slice aw O.length cw)).setCell ⟨Y, 1, none⟩ (.int .i64 c)) Y aw cw O c :=
  ⟨(b.setCell lo _).setCell lo _, lo, (V.put 0 _).put 1 _, Mem.ownN_far (Mem.ownN_far own _ _ (fun g hg e => ne g hg e.symm)) _ _ (fun g hg e => ne g hg e.symm), ne⟩
/-- What a law keeps: its arguments' variables, and what the specification answered. -/
structure W1 (w W : World) (a : Option Addr) (n cap : Nat) (NC : Array Value) (Y Z B1 : Nat) (aw : Option Addr) (cw : Nat) (O : List Pl.Nd) (c : Int) : Prop where
  bel : Below w.heap.size w W
  arg : Mem.Blk W w.heap.size #[.slice a n cap] 24
  nod : Mem.Blk W (w.heap.size + 1) NC 38
  var : Mem.Blk W Y #[.slice aw O.length cw, .int .i64 c] 41
  own : Mem.ownN W B1 (.slice aw O.length cw) O
  hi : ∀ g, (Value.slice aw O.length cw).ownBlock = some g → g < Z
  y : Y < Z
  z : w.heap.size + 1 < Z
theorem W1.of {w w0 W : World} {a aw : Option Addr} {n cap Y cw : Nat} {NC : Array Value} {O : List Pl.Nd} {c : Int} (b : Below w.heap.size w w0) (A : Mem.Blk w0 w.heap.size #[.slice a n cap] 24) (N : Mem.Blk w0 (w.heap.size + 1) NC 38) (g : Got w0 W Y aw cw O c) :
    W1 w W a n cap NC Y W.heap.size w0.heap.size aw cw O c :=
  ⟨b.trans (g.bel.mono b.size), A.call g.bel, N.call g.bel, g.var, g.own, fun q hq => (Mem.ownN_lt g.own q hq).2, g.var.lt, (N.call g.bel).lt⟩
theorem W1.call {w W W' : World} {a aw : Option Addr} {n cap Y Z B1 cw : Nat} {NC : Array Value} {O : List Pl.Nd} {c : Int} (h : W1 w W a n cap NC Y Z B1 aw cw O c) (b : Below W.heap.size W W') : W1 w W' a n cap NC Y Z B1 aw cw O c :=
  ⟨h.bel.trans (b.mono h.bel.size), h.arg.call b, h.nod.call b, h.var.call b, Mem.ownN_call h.own b, h.hi, h.y, h.z⟩
theorem W1.grown {w W W' : World} {a aw : Option Addr} {n cap Y Z B1 cw : Nat} {NC : Array Value} {O : List Pl.Nd} {c : Int} {r : Option Nat} (h : W1 w W a n cap NC Y Z B1 aw cw O c) (b : W.grownBy W' r) (hr : ∀ g, r = some g → Z ≤ g) : W1 w W' a n cap NC Y Z B1 aw cw O c :=
  ⟨h.bel.grown b h.bel.size (fun q hq => by have := hr q hq; have := h.z; omega), h.arg.grown b (fun e => by have := hr _ e.symm; have := h.z; omega), h.nod.grown b (fun e => by have := hr _ e.symm; have := h.z; omega), h.var.grown b (fun e => by have := hr _ e.symm; have := h.y; omega),
    Mem.ownN_grown h.own b (fun g hg e => by have := hr _ e.symm; have := h.hi g hg; omega), h.hi, h.y, h.z⟩
/-- .. what the program answered. -/
structure G1 (W : World) (G B3 : Nat) (ag : Option Addr) (cg : Nat) (O : List Pl.Nd) (c : Int) : Prop where
  var : Mem.Blk W G #[.slice ag O.length cg, .int .i64 c] 41
  own : Mem.ownN W B3 (.slice ag O.length cg) O
  ne : ∀ g, (Value.slice ag O.length cg).ownBlock = some g → g ≠ G
  b : B3 ≤ G
theorem G1.of {w W : World} {G cg : Nat} {ag : Option Addr} {O : List Pl.Nd} {c : Int} (g : Got w W G ag cg O c) : G1 W G w.heap.size ag cg O c := ⟨g.var, g.own, g.ne, g.lo⟩
theorem G1.call {W W' : World} {G B3 cg : Nat} {ag : Option Addr} {O : List Pl.Nd} {c : Int} (h : G1 W G B3 ag cg O c) (b : Below W.heap.size W W') : G1 W' G B3 ag cg O c :=
  ⟨h.var.call b, Mem.ownN_call h.own b, h.ne, h.b⟩
theorem G1.grown {W W' : World} {G B3 cg : Nat} {ag : Option Addr} {O : List Pl.Nd} {c : Int} {r : Option Nat} (h : G1 W G B3 ag cg O c) (b : W.grownBy W' r) (hr : ∀ g, r = some g → g < B3) : G1 W' G B3 ag cg O c :=
  ⟨h.var.grown b (fun e => by have := hr _ e.symm; have := h.b; omega), Mem.ownN_grown h.own b (fun g hg e => by have := hr _ e.symm; have := (Mem.ownN_lt h.own g hg).1; omega), h.ne, h.b⟩
end WMarkP
end Go.Proofs.YtnmdmhokdcmhcaaDoor
