import Derived.Test.YtioildojmckepaaGreatDoorG20
import Derived.Test.YtioildojmckepaaGreatDoorPlainCells
namespace Go.Proofs.YtioildojmckepaaGreatDoor
open Go.RowKit
namespace WSrc
structure Gb (w W : World) (B S : Nat) : Prop where
 os : W.os = w.os
 tape : W.tape = w.tape
 output : W.output = w.output
 size : w.heap.size ≤ W.heap.size
 block : ∀ j, j < w.heap.size → j < B → j ≠ S → W.heap[j]? = w.heap[j]?
theorem Gb.refl (w : World) (B S : Nat) : Gb w w B S := ⟨rfl, rfl, rfl, Nat.le_refl _, fun _ _ _ _ => rfl⟩
theorem Gb.trans {w W W' : World} {B S : Nat} (h : Gb w W B S) (h2 : Gb W W' B S) : Gb w W' B S :=
 ⟨h2.os.trans h.os, h2.tape.trans h.tape, h2.output.trans h.output, Nat.le_trans h.size h2.size, fun j hj hb hs => (h2.block j (Nat.lt_of_lt_of_le hj h.size) hb hs).trans (h.block j hj hb hs)⟩
theorem Gb.of {w W : World} {B S : Nat} (h : w.grownBy W (some S)) : Gb w W B S :=
 ⟨h.os, h.tape, h.output, h.size, fun j hj _ hs => h.block j hj (fun e => hs (Option.some.inj e))⟩
theorem Gb.own {w W : World} {B S : Nat} {r : Option Nat} (h : w.grownBy W r) (hr : ∀ g, r = some g → B ≤ g) : Gb w W B S :=
 ⟨h.os, h.tape, h.output, h.size, fun j hj hb _ => h.block j hj (fun e => by have := hr j e.symm; omega)⟩
structure Di (W : World) (B : Nat) (v : Value) (x : Pl.It) : Prop where
 tree : zf6 W B x.t.a x.t.cap x.t.L
 len : x.t.L.length ≤ 64
 ok : Pl.zl0 x.t.L
 many : -1000 ≤ x.m ∧ x.m ≤ 1000
 apart : ∀ g o, x.t.a = some ⟨g, o, none⟩ → v.ownBlock ≠ some g
structure Ik (W : World) (B S : Nat) (a : Option Addr) (len cap : Nat) (v : Value) (Is : List Pl.It) : Prop where
 lo : S < B
 hi : B ≤ W.heap.size
 src : Src W S a len cap
 own : W.ownsRow B 38 2 v Is.length (Pl.ze3 Is)
 each : ∀ x ∈ Is, Di W B v x
theorem Ik.call {W W' : World} {B S len cap : Nat} {a : Option Addr} {v : Value} {Is : List Pl.It} (h : Ik W B S a len cap v Is) (s : Src W' S a len cap) (g : W.grownBy W' (some S)) : Ik W' B S a len cap v Is :=
 have l := h.lo
 ⟨h.lo, Nat.le_trans h.hi g.size, s, row_far h.own g (fun q hq e => by cases e; have := (World.ownsRow.lt h.own _ hq).1; omega), fun x hx => ⟨(h.each x hx).tree.grown g (fun q hq => by cases hq; omega), (h.each x hx).len, (h.each x hx).ok, (h.each x hx).many, (h.each x hx).apart⟩⟩
theorem Ik.below {W W' : World} {B S len cap : Nat} {a : Option Addr} {v : Value} {Is : List Pl.It} (h : Ik W B S a len cap v Is) (b : Below W.heap.size W W') : Ik W' B S a len cap v Is := h.call (zw6 h.src b) (below_grown b _)
theorem Ik.alloc {W : World} {B S len cap : Nat} {a : Option Addr} {v : Value} {Is : List Pl.It} (h : Ik W B S a len cap v Is) (o : Obj) : Ik (W.alloc o) B S a len cap v Is := h.below ((Below.refl _ _).alloc (Nat.le_refl _) o)
theorem Ik.drew {W : World} {B S len cap : Nat} {a : Option Addr} {v : Value} {Is : List Pl.It} (h : Ik W B S a len cap v Is) : Ik W.drew B S a len cap v Is := ⟨h.lo, h.hi, h.src, h.own, fun x hx => ⟨(h.each x hx).tree, (h.each x hx).len, (h.each x hx).ok, (h.each x hx).many, (h.each x hx).apart⟩⟩
theorem Ik.app {W W' : World} {B S len cap : Nat} {a : Option Addr} {v v' : Value} {Is Js : List Pl.It} (h : Ik W B S a len cap v Is) (gr : W.grownBy W' v.ownBlock) (own' : W'.ownsRow B 38 2 v' (Is ++ Js).length (Pl.ze3 (Is ++ Js))) (far : ∀ g, v'.ownBlock = some g → v.ownBlock = some g ∨ W.heap.size ≤ g) (ht : ∀ x ∈ Js, Di W B v x) :
  Ik W' B S a len cap v' (Is ++ Js) := by
 have l := h.lo
 have hv : ∀ q, v.ownBlock = some q → B ≤ q := fun q hq => (World.ownsRow.lt h.own q hq).1
 have hs := h.src
 refine ⟨h.lo, Nat.le_trans h.hi gr.size, ?_, own', fun x hx => ?_⟩
 ·obtain ⟨hr, p, m, sz, hb, hp, h0, h1⟩ := hs
  have hS : S < W.heap.size := (Array.getElem?_eq_some_iff.1 hb).1
  refine ⟨⟨hr.1, hr.2.1, fun i hi => ?_⟩, p, m, sz, (gr.block S hS (fun e => by have := hv _ e.symm; omega)).trans hb, hp, h0, h1⟩
  obtain ⟨b, o, n, e1, e2, e3, e4⟩ := hr.2.2 i hi
  exact ⟨b, o, n, e1, e2, e3, (zq8 (gr.block b (by omega) (fun e => by have := hv _ e.symm; omega))).trans e4⟩
 ·have hd : Di W B v x := by
   rcases List.mem_append.1 hx with h1 | h1
   ·exact h.each x h1
   ·exact ht x h1
  refine ⟨hd.tree.far gr (fun g o e => hd.apart g o e), hd.len, hd.ok, hd.many, fun g o e e2 => ?_⟩
  rcases far g e2 with h1 | h1
  ·exact hd.apart g o e h1
  ·have := hd.tree.blk g o e; omega
end WSrc
end Go.Proofs.YtioildojmckepaaGreatDoor
