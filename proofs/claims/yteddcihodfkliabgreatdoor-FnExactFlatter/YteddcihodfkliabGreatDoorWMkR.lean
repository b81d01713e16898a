/- What a law over nests' answers keeps from call to call. -/
import Derived.Test.YteddcihodfkliabGreatDoorWMkQ
namespace Go.Proofs.YteddcihodfkliabGreatDoor
open Go.RowKit
namespace Mem
theorem Io.band {W W' : World} {S Y X : Nat} {v : Value} {Is : List Pl.It} (h : Io W S v Is) (b : Band Y X W W') (hv : ∀ g, v.ownBlock = some g → g < Y ∨ X ≤ g) (hx : ∀ x ∈ Is, ∀ g, x.t.val.ownBlock = some g → g < Y ∨ X ≤ g) : Io W' S v Is :=
  ⟨b.row h.row hv, fun i x hi => ⟨b.row (h.each i x hi).1 (hx x (List.mem_of_getElem? hi)), (h.each i x hi).2⟩, h.apart⟩
theorem Io.mem_lt {W : World} {S : Nat} {v : Value} {Is : List Pl.It} (h : Io W S v Is) : ∀ x ∈ Is, ∀ g, x.t.val.ownBlock = some g → S ≤ g ∧ g < W.heap.size := fun x hx g hg => by
  obtain ⟨i, hi⟩ := List.getElem?_of_mem hx
  exact h.lt.2 i x hi g hg
end Mem
namespace WMkR
/-- What the specification answered. -/
structure OW (w W : World) (Y B1 : Nat) (aw : Option Addr) (cw : Nat) (U : List Pl.It) (O : List (Int × List Pl.Nd)) (c : Int) : Prop where
  bel : Below w.heap.size w W
  var : Mem.Blk W Y #[.slice aw O.length cw, .int .i64 c] 34
  own : Mem.Io W B1 (.slice aw O.length cw) U
  reads : U.map Pl.It.r = O
  hi : ∀ g, (Value.slice aw O.length cw).ownBlock = some g → g < Y
  hi2 : ∀ x ∈ U, ∀ g, x.t.val.ownBlock = some g → g < Y
  y : w.heap.size ≤ Y
theorem OW.call {w W W' : World} {aw : Option Addr} {Y B1 cw : Nat} {U : List Pl.It} {O : List (Int × List Pl.Nd)} {c : Int} (h : OW w W Y B1 aw cw U O c) (b : Below W.heap.size W W') : OW w W' Y B1 aw cw U O c :=
  ⟨h.bel.trans (b.mono h.bel.size), h.var.call b, h.own.call b, h.reads, h.hi, h.hi2, h.y⟩
theorem OW.band {w W W' : World} {aw : Option Addr} {Y B1 cw g X : Nat} {U : List Pl.It} {O : List (Int × List Pl.Nd)} {c : Int} (h : OW w W Y B1 aw cw U O c) (b : Mem.Band g X W W') (hg : Y < g) : OW w W' Y B1 aw cw U O c :=
  ⟨b.below h.bel (by have := h.y; omega) h.bel.size, b.blk h.var (.inl hg), h.own.band b (fun q hq => .inl (by have := h.hi q hq; omega)) (fun x hx q hq => .inl (by have := h.hi2 x hx q hq; omega)), h.reads, h.hi, h.hi2, h.y⟩
theorem OW.items {w W : World} {aw : Option Addr} {Y B1 cw : Nat} {U : List Pl.It} {O : List (Int × List Pl.Nd)} {c : Int} (h : OW w W Y B1 aw cw U O c) : Mem.isItems W aw U := h.own.items.2
/-- What the program answered. -/
structure G0 (W : World) (G B3 : Nat) (ag : Option Addr) (cg : Nat) (U : List Pl.It) (O : List (Int × List Pl.Nd)) (c : Int) : Prop where
  var : Mem.Blk W G #[.slice ag O.length cg, .int .i64 c] 34
  own : Mem.Io W B3 (.slice ag O.length cg) U
  reads : U.map Pl.It.r = O
  hi : ∀ g, (Value.slice ag O.length cg).ownBlock = some g → g < G
  hi2 : ∀ x ∈ U, ∀ g, x.t.val.ownBlock = some g → g < G
  b : B3 ≤ G
theorem G0.call {W W' : World} {G B3 cg : Nat} {ag : Option Addr} {U : List Pl.It} {O : List (Int × List Pl.Nd)} {c : Int} (h : G0 W G B3 ag cg U O c) (b : Below W.heap.size W W') : G0 W' G B3 ag cg U O c :=
  ⟨h.var.call b, h.own.call b, h.reads, h.hi, h.hi2, h.b⟩
theorem G0.band {W W' : World} {G X cg g : Nat} {ag : Option Addr} {U : List Pl.It} {O : List (Int × List Pl.Nd)} {c : Int} (h : G0 W G X ag cg U O c) (b : Mem.Band g X W W') : G0 W' G X ag cg U O c :=
  ⟨b.blk h.var (.inr h.b), h.own.band b (fun q hq => .inr (h.own.lt.1 q hq).1) (fun x hx q hq => .inr (h.own.mem_lt x hx q hq).1), h.reads, h.hi, h.hi2, h.b⟩
theorem G0.items {W : World} {G B3 cg : Nat} {ag : Option Addr} {U : List Pl.It} {O : List (Int × List Pl.Nd)} {c : Int} (h : G0 W G B3 ag cg U O c) : Mem.isItems W ag U := h.own.items.2
/-- .. and the marks on it. -/
structure M0 (W : World) (G : Nat) (ag : Option Addr) (n cg : Nat) (M : List Pl.It) (c : Int) : Prop where
  var : Mem.Blk W G #[.slice ag n cg, .int .i64 c] 34
  items : Mem.isItems W ag M
theorem M0.call {W W' : World} {G n cg : Nat} {ag : Option Addr} {M : List Pl.It} {c : Int} (h : M0 W G ag n cg M c) (b : Below W.heap.size W W') : M0 W' G ag n cg M c :=
  ⟨h.var.call b, Mem.items_call h.items b⟩
theorem len_of {U : List Pl.It} {O : List (Int × List Pl.Nd)} (h : U.map Pl.It.r = O) : U.length = O.length := by rw [← h, List.length_map]
theorem le_of {U : List Pl.It} {O : List (Int × List Pl.Nd)} (h : U.map Pl.It.r = O) (hO : ∀ x ∈ O, x.2.length ≤ 40) : ∀ x ∈ U, x.t.L.length ≤ 40 := fun x hx => hO x.r (by rw [← h]; exact List.mem_map.2 ⟨x, hx, rfl⟩)
theorem eq_any (O : List (Int × List Pl.Nd)) (hO : O.length ≤ 12) (hL : ∀ x ∈ O, x.2.length ≤ 40) (a b : Option Addr) (c1 c2 : Nat) (c : Int) (T U : List Pl.It) (w : World) (hT : T.map Pl.It.r = O) (hU : U.map Pl.It.r = O) (hv : Mem.isItems w a T) (hu : Mem.isItems w b U) :
    Calls Tryz.prog 17 #[.agg #[.slice a O.length c1, .int .i64 c], .agg #[.slice b O.length c2, .int .i64 c]] w fun e w' => e = .returned (.bool true) ∧ Below w.heap.size w w' := by
  have := WMkQ.eq_any a b c1 c2 c T U w (by rw [len_of hT]; exact hO) (hU.trans hT.symm) (le_of hT hL) hv hu
  rw [len_of hT] at this
  exact this
theorem mark_any (O : List (Int × List Pl.Nd)) (hO : O.length ≤ 12) (hL : ∀ x ∈ O, x.2.length ≤ 40) (a : Option Addr) (cap S G : Nat) (c : Int) (U : List Pl.It) (w : World) (h : G0 w G S a cap U O c) :
    Calls Tryz.prog 18 #[.agg #[.slice a O.length cap, .int .i64 c], .int .i64 1] w fun e w' => e = .returned (.int .i64 (Pl.kAt 1 U O.length : Int)) ∧ M0 w' G a O.length cap (Pl.mkTo 1 U O.length) c ∧ Mem.Band S G w w' := by
  have e := len_of h.reads
  have := WMkQ.mark_any a cap S G c U w (by rw [e]; exact hO) (le_of h.reads hL) (by rw [e]; exact h.own) (by rw [e]; exact h.hi) h.hi2
  rw [e] at this
  exact this.mono fun _ _ ⟨h1, h2, h3⟩ => ⟨h1, ⟨h3.blk h.var (.inr (Nat.le_refl _)), h2⟩, h3⟩
theorem held_any (O : List (Int × List Pl.Nd)) (hO : O.length ≤ 12) (hL : ∀ x ∈ O, x.2.length ≤ 40) (a : Option Addr) (cap G : Nat) (c : Int) (U : List Pl.It) (w : World) (hU : U.map Pl.It.r = O) (h : M0 w G a O.length cap (Pl.mkTo 1 U O.length) c) :
    Calls Tryz.prog 19 #[.agg #[.slice a O.length cap, .int .i64 c], .int .i64 1] w fun e w' => e = .returned (.int .i64 (Pl.kAt 1 U O.length : Int)) ∧ Below w.heap.size w w' := by
  have e := len_of hU
  have := WMkQ.held_any a cap c U w (by rw [e]; exact hO) (le_of hU hL) (by rw [e]; exact h.items)
  rw [e] at this
  exact this
end WMkR
end Go.Proofs.YteddcihodfkliabGreatDoor
