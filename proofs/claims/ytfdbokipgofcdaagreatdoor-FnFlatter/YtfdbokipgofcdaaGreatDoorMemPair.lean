import Derived.Test.YtfdbokipgofcdaaGreatDoorG07
import Derived.Deep.RegionHeld3
namespace Go.Proofs.YtfdbokipgofcdaaGreatDoor
open Go.RowKit
namespace zf8
abbrev Z : Obj := .cells #[.slice none 0 0, .int .i64 0] 42
structure Ps (D W : World) (e5 e6 : Option Nat) (o1 o2 : Option (Option Addr × Nat)) (S U : List Pl.Nd) : Prop where
 bel : Below D.heap.size D W
 b5 : ∀ X, e5 = some X → Mem.Blk W X #[.slice none 0 0, .int .i64 0] 42 ∧ D.heap.size ≤ X
 b6 : ∀ X, e6 = some X → Mem.Blk W X #[.slice none 0 0, .int .i64 0] 42 ∧ D.heap.size ≤ X
 ne : ∀ X Y, e5 = some X → e6 = some Y → X ≠ Y
 q1 : ∀ p, o1 = some p → Mem.ownN W D.heap.size (.slice p.1 S.length p.2) S ∧ ∀ g, (Value.slice p.1 S.length p.2).ownBlock = some g → e5 ≠ some g ∧ e6 ≠ some g
 q2 : ∀ p, o2 = some p → Mem.ownN W D.heap.size (.slice p.1 U.length p.2) U ∧ ∀ g, (Value.slice p.1 U.length p.2).ownBlock = some g → e5 ≠ some g ∧ e6 ≠ some g
section
variable {D W W' : World} {e5 e6 : Option Nat} {o1 o2 : Option (Option Addr × Nat)} {S U : List Pl.Nd}
theorem Ps.start (b : Below D.heap.size D W) : Ps D W none none none none S U := ⟨b, fun _ h => (by cases h), fun _ h => (by cases h), fun _ _ h => (by cases h), fun _ h => (by cases h), fun _ h => (by cases h)⟩
theorem Ps.call (h : Ps D W e5 e6 o1 o2 S U) (b : Below W.heap.size W W') : Ps D W' e5 e6 o1 o2 S U :=
 ⟨h.bel.trans (b.mono h.bel.size), fun X e => ⟨(h.b5 X e).1.call b, (h.b5 X e).2⟩, fun X e => ⟨(h.b6 X e).1.call b, (h.b6 X e).2⟩, h.ne, fun p e => ⟨Mem.zl1 (h.q1 p e).1 b, (h.q1 p e).2⟩, fun p e => ⟨Mem.zl1 (h.q2 p e).1 b, (h.q2 p e).2⟩⟩
theorem Ps.a5 (h : Ps D W none e6 o1 o2 S U) : Ps D (W.alloc Z) (some W.heap.size) e6 o1 o2 S U := by
 have g := h.call ((Below.refl _ _).alloc (Nat.le_refl _) Z)
 refine ⟨g.bel, fun X e => ?_, g.b6, fun X Y e e2 => ?_, fun p e => ⟨(g.q1 p e).1, fun q hq => ⟨fun e2 => ?_, ((g.q1 p e).2 q hq).2⟩⟩, fun p e => ⟨(g.q2 p e).1, fun q hq => ⟨fun e2 => ?_, ((g.q2 p e).2 q hq).2⟩⟩⟩
 ·cases e; exact ⟨Mem.Blk.new _ _ _, h.bel.size⟩
 ·cases e; have := (h.b6 Y e2).1.lt; omega
 ·cases e2; have := (Mem.zc3 (h.q1 p e).1 _ hq).2; omega
 ·cases e2; have := (Mem.zc3 (h.q2 p e).1 _ hq).2; omega
theorem Ps.a6 (h : Ps D W e5 none o1 o2 S U) : Ps D (W.alloc Z) e5 (some W.heap.size) o1 o2 S U := by
 have g := h.call ((Below.refl _ _).alloc (Nat.le_refl _) Z)
 refine ⟨g.bel, g.b5, fun X e => ?_, fun X Y e e2 => ?_, fun p e => ⟨(g.q1 p e).1, fun q hq => ⟨((g.q1 p e).2 q hq).1, fun e2 => ?_⟩⟩, fun p e => ⟨(g.q2 p e).1, fun q hq => ⟨((g.q2 p e).2 q hq).1, fun e2 => ?_⟩⟩⟩
 ·cases e; exact ⟨Mem.Blk.new _ _ _, h.bel.size⟩
 ·cases e2; have := (h.b5 X e).1.lt; omega
 ·cases e2; have := (Mem.zc3 (h.q1 p e).1 _ hq).2; omega
 ·cases e2; have := (Mem.zc3 (h.q2 p e).1 _ hq).2; omega
theorem Ps.c1 {a : Option Addr} {c : Nat} (h : Ps D W e5 e6 none o2 S U) (b : Below W.heap.size W W') (o : Mem.ownN W' W.heap.size (.slice a S.length c) S) : Ps D W' e5 e6 (some (a, c)) o2 S U := by
 have g := h.call b
 refine ⟨g.bel, g.b5, g.b6, g.ne, fun p e => ?_, g.q2⟩
 cases e
 refine ⟨Mem.zb4 o h.bel.size, fun q hq => ⟨fun e => ?_, fun e => ?_⟩⟩
 ·have := (Mem.zc3 o q hq).1; have := (h.b5 q e).1.lt; omega
 ·have := (Mem.zc3 o q hq).1; have := (h.b6 q e).1.lt; omega
theorem Ps.c2 {a : Option Addr} {c : Nat} (h : Ps D W e5 e6 o1 none S U) (b : Below W.heap.size W W') (o : Mem.ownN W' W.heap.size (.slice a U.length c) U) : Ps D W' e5 e6 o1 (some (a, c)) S U := by
 have g := h.call b
 refine ⟨g.bel, g.b5, g.b6, g.ne, g.q1, fun p e => ?_⟩
 cases e
 refine ⟨Mem.zb4 o h.bel.size, fun q hq => ⟨fun e => ?_, fun e => ?_⟩⟩
 ·have := (Mem.zc3 o q hq).1; have := (h.b5 q e).1.lt; omega
 ·have := (Mem.zc3 o q hq).1; have := (h.b6 q e).1.lt; omega
end
structure Rk (v W : World) (X5 X6 : Nat) (sa ta : Option Addr) (sc tc : Nat) (S U : List Pl.Nd) (CA CB : Int) : Prop where
 bel : Below v.heap.size v W
 b5 : Mem.Blk W X5 #[.slice sa S.length sc, .int .i64 CA] 42
 b6 : Mem.Blk W X6 #[.slice ta U.length tc, .int .i64 CB] 42
 n5 : Mem.zc2 W sa S
 n6 : Mem.zc2 W ta U
theorem Rk.call {v W W' : World} {X5 X6 : Nat} {sa ta : Option Addr} {sc tc : Nat} {S U : List Pl.Nd} {CA CB : Int} (h : Rk v W X5 X6 sa ta sc tc S U CA CB) (b : Below W.heap.size W W') : Rk v W' X5 X6 sa ta sc tc S U CA CB :=
 ⟨h.bel.trans (b.mono h.bel.size), h.b5.call b, h.b6.call b, Mem.za8 h.n5 b, Mem.za8 h.n6 b⟩
def put (W : World) (X : Nat) (v0 v1 : Value) : World := (W.setCell ⟨X, 0, none⟩ v0).setCell ⟨X, 1, none⟩ v1
section
variable {D W : World} {X5 X6 : Nat} {sa ta : Option Addr} {sc tc : Nat} {S U : List Pl.Nd}
theorem Ps.mid (h : Ps D W (some X5) (some X6) (some (sa, sc)) (some (ta, tc)) S U) (v0 v1 : Value) : Below D.heap.size D ((W.setCell ⟨X5, 0, none⟩ v0).setCell ⟨X5, 1, none⟩ v1) ∧ Mem.Blk ((W.setCell ⟨X5, 0, none⟩ v0).setCell ⟨X5, 1, none⟩ v1) X6 #[.slice none 0 0, .int .i64 0] 42 := by
 obtain ⟨h5, l5⟩ := h.b5 _ rfl
 have hne := h.ne _ _ rfl rfl
 exact ⟨(h.bel.setCell l5 _).setCell l5 _, ((h.b6 _ rfl).1.far _ _ (fun e => hne e.symm)).far _ _ (fun e => hne e.symm)⟩
theorem Ps.fin (h : Ps D W (some X5) (some X6) (some (sa, sc)) (some (ta, tc)) S U) (CA CB : Int) : Rk D ((((W.setCell ⟨X5, 0, none⟩ (.slice sa S.length sc)).setCell ⟨X5, 1, none⟩ (.int .i64 CA)).setCell ⟨X6, 0, none⟩ (.slice ta U.length tc)).setCell ⟨X6, 1, none⟩ (.int .i64 CB)) X5 X6 sa ta sc tc S U CA CB := by
 obtain ⟨h5, l5⟩ := h.b5 _ rfl
 obtain ⟨h6, l6⟩ := h.b6 _ rfl
 have hne := h.ne _ _ rfl rfl
 obtain ⟨o1, n1⟩ := h.q1 _ rfl
 obtain ⟨o2, n2⟩ := h.q2 _ rfl
 have key : ∀ {v : Value} {L : List Pl.Nd}, Mem.ownN W D.heap.size v L → (∀ g, v.ownBlock = some g → some X5 ≠ some g ∧ some X6 ≠ some g) → Mem.ownN ((((W.setCell ⟨X5, 0, none⟩ (.slice sa S.length sc)).setCell ⟨X5, 1, none⟩ (.int .i64 CA)).setCell ⟨X6, 0, none⟩ (.slice ta U.length tc)).setCell ⟨X6, 1, none⟩ (.int .i64 CB)) D.heap.size v L := fun o n =>
  Mem.zw3 (Mem.zw3 (Mem.zw3 (Mem.zw3 o _ _ (fun g hg e => (n g hg).1 (congrArg some e))) _ _ (fun g hg e => (n g hg).1 (congrArg some e))) _ _ (fun g hg e => (n g hg).2 (congrArg some e))) _ _ (fun g hg e => (n g hg).2 (congrArg some e))
 exact ⟨(((h.bel.setCell l5 _).setCell l5 _).setCell l6 _).setCell l6 _, (((h5.put 0 _).put 1 _).far _ _ hne).far _ _ hne, ((((h6.far _ _ (fun e => hne e.symm)).far _ _ (fun e => hne e.symm))).put 0 _).put 1 _, (Mem.zr4 (key o1 n1)).2, (Mem.zr4 (key o2 n2)).2⟩
end
theorem meet {P F : World → Nat → Nat → Option Addr → Nat → Option Addr → Nat → Prop} {G : Prop} (h1 : (∀ W X5 X6 sa sc ta tc, F W X5 X6 sa sc ta tc → P W X5 X6 sa sc ta tc) → G) (h2 : ∀ W X5 X6 sa sc ta tc, F W X5 X6 sa sc ta tc → P W X5 X6 sa sc ta tc) : G := h1 h2
end zf8
end Go.Proofs.YtfdbokipgofcdaaGreatDoor
