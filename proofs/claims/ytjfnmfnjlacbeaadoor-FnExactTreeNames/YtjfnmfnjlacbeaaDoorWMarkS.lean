/- The marks of a law on a row of texts that is the call's own (or none); what a law keeps from call to call. -/
import Derived.Test.YtjfnmfnjlacbeaaDoorG41
import Derived.Test.YtjfnmfnjlacbeaaDoorG25
import Derived.Test.YtjfnmfnjlacbeaaDoorG08
namespace Go.Proofs.YtjfnmfnjlacbeaaDoor
open Go.RowKit
namespace WMarkS
set_option maxRecDepth 100000 in
theorem layNil (K : Nat) (w : World) : Calls Tryd.prog 28 #[.slice none 0 0, .int .i64 (K : Int)] w fun e w' => e = .returned (.int .i64 (K : Int)) ∧ Below w.heap.size w w' := by
  go_enter Tryd.func28, Tryd.ntmps28
  go_wp2
  refine wp_loop_rounds 1 ?_
  rw [rounds_succ]
  go_wp2
  go_ret
  exact ⟨rfl, Below.refl _ _⟩
theorem lay_own (v : Value) (n B : Nat) (xs : List Value) (w : World) (hn : n ≤ 1000) (h : w.ownsRow B 9 1 v n xs) :
    Calls Tryd.prog 28 #[v, .int .i64 ((1 : Nat) : Int)] w fun e w' => e = .returned (.int .i64 ((1 + n : Nat) : Int)) ∧ Mem.isTexts w' v (Pl.marks 1 n) ∧ w.grownBy w' v.ownBlock := by
  rcases h.2 with ⟨rfl, h0⟩ | ⟨g, cap, cur, rfl, _⟩
  · subst h0
    refine (layNil 1 w).mono fun e w' ⟨he, b⟩ => ⟨he, ?_, Mem.grown_of_below b _⟩
    exact .inl ⟨rfl, rfl⟩
  · exact (WMarks.lay_any B g n cap 1 xs w hn (by omega) (by omega) h).mono fun e w' ⟨he, ho, hg⟩ => ⟨he, Mem.own_textsN ho (Pl.marks_length 1 n), hg⟩
def Own (w : World) (B : Nat) (v : Value) (K : List ByteArray) : Prop := w.ownsRow B 9 1 v K.length (K.map Value.string)
theorem Own.call {w w' : World} {B : Nat} {v : Value} {K : List ByteArray} (h : Own w B v K) (b : Below w.heap.size w w') : Own w' B v K := Mem.own_call h b
theorem Own.lt {w : World} {B : Nat} {v : Value} {K : List ByteArray} (h : Own w B v K) : ∀ g, v.ownBlock = some g → B ≤ g ∧ g < w.heap.size := fun g hg => World.ownsRow.lt h g hg
theorem Own.grown {w w' : World} {B : Nat} {v : Value} {K : List ByteArray} {r : Option Nat} (h : Own w B v K) (hg : w.grownBy w' r) (hr : ∀ g, v.ownBlock = some g → some g ≠ r) : Own w' B v K := by
  refine ⟨h.1, ?_⟩
  rcases h.2 with h0 | ⟨g, cap, cur, rfl, hb, hh, rest⟩
  · exact .inl h0
  · exact .inr ⟨g, cap, cur, rfl, hb, (hg.block g (Array.getElem?_eq_some_iff.1 hh).1 (hr g rfl)).trans hh, rest⟩
theorem Own.texts {w : World} {B : Nat} {v : Value} {K : List ByteArray} (h : Own w B v K) : Mem.isTexts w v K := Mem.own_texts h
/-- What a law keeps: its argument's variable, and what the specification answered. -/
structure W0 (w W : World) (a : Option Addr) (n cap Y : Nat) (u : Value) (K : List ByteArray) : Prop where
  bel : Below w.heap.size w W
  arg : Mem.Blk W w.heap.size #[.slice a n cap] 31
  own : Own W (w.heap.size + 1) u K
  hi : ∀ g, u.ownBlock = some g → g < Y
  y : w.heap.size < Y
theorem W0.call {w W W' : World} {a : Option Addr} {n cap Y : Nat} {u : Value} {K : List ByteArray} (h : W0 w W a n cap Y u K) (b : Below W.heap.size W W') : W0 w W' a n cap Y u K :=
  ⟨h.bel.trans (b.mono h.bel.size), h.arg.call b, h.own.call b, h.hi, h.y⟩
theorem W0.grown {w W W' : World} {a : Option Addr} {n cap Y : Nat} {u : Value} {K : List ByteArray} {r : Option Nat} (h : W0 w W a n cap Y u K) (b : W.grownBy W' r) (hr : ∀ g, r = some g → Y ≤ g) : W0 w W' a n cap Y u K :=
  ⟨h.bel.grown b h.bel.size (fun q hq => by have := hr q hq; have := h.y; omega), h.arg.grown b (fun e => by have := hr _ e.symm; have := h.y; omega),
    h.own.grown b (fun g hg e => by have := hr _ e.symm; have := h.hi g hg; omega), h.hi, h.y⟩
end WMarkS
end Go.Proofs.YtjfnmfnjlacbeaaDoor
