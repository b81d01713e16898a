/- Several texts of one claim in one file: MemIo, WNReadK, MemApp2, WItemI, MemNest, WTakeI. -/
import Derived.Test.YtfdbokipgofcdaaGreatDoorG02
import Derived.Test.YtfdbokipgofcdaaGreatDoorG07
import Derived.Test.YtfdbokipgofcdaaGreatDoorPlainCells
import Derived.Deep.RegionHeld3
import Derived.Test.YtfdbokipgofcdaaGreatDoorG10
import Derived.Test.YtfdbokipgofcdaaGreatDoorG11
import Derived.Test.YtfdbokipgofcdaaGreatDoorG04
import Derived.Test.YtfdbokipgofcdaaGreatDoorG01
import Derived.Below
import Derived.Laws.AppendOwn
namespace Go.Proofs.YtfdbokipgofcdaaGreatDoor
open Go.RowKit
namespace Mem
theorem row_off2 {w w' : World} {B e size n : Nat} {v : Value} {xs : List Value} {r : Option Nat} (h : w.ownsRow B e size v n xs) (hg : w.grownBy w' r) (hr : ∀ g, v.ownBlock = some g → some g ≠ r) : w'.ownsRow B e size v n xs := by
 refine ⟨h.1, ?_⟩
 rcases h.2 with h0 | ⟨g, cap, cur, rfl, hb, hh, rest⟩
 ·exact .inl h0
 ·exact .inr ⟨g, cap, cur, rfl, hb, (hg.block g (Array.getElem?_eq_some_iff.1 hh).1 (hr g rfl)).trans hh, rest⟩
structure Io (W : World) (S : Nat) (v : Value) (Is : List Pl.It) : Prop where
 row : W.ownsRow S 38 2 v Is.length (Pl.zb9 Is)
 each : ∀ (i : Nat) x, Is[i]? = some x → ownN W S x.t.val x.t.L ∧ ∀ g, x.t.val.ownBlock = some g → v.ownBlock ≠ some g
 apart : ∀ (i j : Nat) x y, i ≠ j → Is[i]? = some x → Is[j]? = some y → ∀ g, x.t.val.ownBlock = some g → y.t.val.ownBlock ≠ some g
theorem Io.call {W W' : World} {S : Nat} {v : Value} {Is : List Pl.It} (h : Io W S v Is) (b : Below W.heap.size W W') : Io W' S v Is :=
 ⟨zm7 h.row b, fun i x hx => ⟨zl1 (h.each i x hx).1 b, (h.each i x hx).2⟩, h.apart⟩
theorem Io.mono {W : World} {S S' : Nat} {v : Value} {Is : List Pl.It} (h : Io W S v Is) (hs : S' ≤ S) : Io W S' v Is :=
 ⟨own_mono h.row hs, fun i x hx => ⟨zb4 (h.each i x hx).1 hs, (h.each i x hx).2⟩, h.apart⟩
theorem Io.set {W : World} {S : Nat} {v : Value} {Is : List Pl.It} (h : Io W S v Is) (p : Addr) (u : Value) (hp : p.block < S) : Io (W.setCell p u) S v Is := by
 refine ⟨⟨h.row.1, ?_⟩, fun i x hx => ⟨za7 (h.each i x hx).1 p u hp, (h.each i x hx).2⟩, h.apart⟩
 rcases h.row.2 with h0 | ⟨g, cap, cur, hv, hb, hg, rest⟩
 ·exact .inl h0
 ·exact .inr ⟨g, cap, cur, hv, hb, (heap_setCell_other _ _ _ _ (by omega)).trans hg, rest⟩
theorem Io.app {W W' : World} {S S1 : Nat} {v v1 v' : Value} {Is Is1 : List Pl.It} (h : Io W S v Is) (h1 : Io W S1 v1 Is1) (hS : S ≤ S1) (hv : ∀ g, v.ownBlock = some g → g < S1) (hb : ∀ (i : Nat) x, Is[i]? = some x → ∀ g, x.t.val.ownBlock = some g → g < S1)
  (own' : W'.ownsRow S 38 2 v' (Is.length + Is1.length) (Pl.zb9 Is ++ Pl.zb9 Is1)) (gr : W.grownBy W' v.ownBlock) (far : ∀ g, v'.ownBlock = some g → v.ownBlock = some g ∨ W.heap.size ≤ g) : Io W' S v' (Is ++ Is1) := by
 have key : ∀ x : Pl.It, ownN W S x.t.val x.t.L → (∀ g, x.t.val.ownBlock = some g → v.ownBlock ≠ some g) → ownN W' S x.t.val x.t.L ∧ ∀ g, x.t.val.ownBlock = some g → v'.ownBlock ≠ some g := fun x hx hn =>
  ⟨row_off2 hx gr (fun g hg e => hn g hg e.symm), fun g hg e => by
   rcases far g e with h2 | h2
   ·exact hn g hg h2
   ·have := (zc3 hx g hg).2; omega⟩
 have lo1 : ∀ (i : Nat) x, Is1[i]? = some x → ∀ g, x.t.val.ownBlock = some g → S1 ≤ g := fun i x hx g hg => (zc3 (h1.each i x hx).1 g hg).1
 refine ⟨by rw [List.length_append, Pl.zg0]; exact own', fun i x hx => ?_, fun i j x y hij hx hy g hg => ?_⟩
 ·by_cases e : i < Is.length
  ·rw [List.getElem?_append_left e] at hx
   exact key x (h.each i x hx).1 (h.each i x hx).2
  ·rw [List.getElem?_append_right (by omega)] at hx
   exact key x (zb4 (h1.each _ x hx).1 hS) (fun g hg e2 => by have := lo1 _ x hx g hg; have := hv g e2; omega)
 ·by_cases e : i < Is.length
  ·rw [List.getElem?_append_left e] at hx
   by_cases e2 : j < Is.length
   ·rw [List.getElem?_append_left e2] at hy
    exact h.apart i j x y hij hx hy g hg
   ·rw [List.getElem?_append_right (by omega)] at hy
    intro e3
    have := lo1 _ y hy g e3
    have := hb i x hx g hg
    omega
  ·rw [List.getElem?_append_right (by omega)] at hx
   by_cases e2 : j < Is.length
   ·rw [List.getElem?_append_left e2] at hy
    intro e3
    have := lo1 _ x hx g hg
    have := hb j y hy g e3
    omega
   ·rw [List.getElem?_append_right (by omega)] at hy
    exact h1.apart _ _ x y (by omega) hx hy g hg
theorem Io.items {W : World} {S cap n : Nat} {a : Option Addr} {Is : List Pl.It} (h : Io W S (.slice a n cap) Is) : n = Is.length ∧ za6 W a Is := by
 rcases h.row.2 with ⟨e, h0⟩ | ⟨g, c, cur, e, hb, hg, rest⟩
 ·cases e
  have : Is = [] := List.eq_nil_of_length_eq_zero h0
  subst this
  exact ⟨rfl, yj0 _ _⟩
 ·cases e
  refine ⟨rfl, fun i x hx => ⟨⟨g, 0, rfl, (Array.getElem?_eq_some_iff.1 hg).1, ?_, ?_⟩, (zr4 (h.each i x hx).1).2⟩⟩
  ·have := World.ownsRow.cells h.row (g := g) rfl (i * 2) _ (Pl.zt0 Is i x hx).1
   rw [add_lit] at this
   rw [Nat.zero_add]; exact this
  ·have := World.ownsRow.cells h.row (g := g) rfl (i * 2 + 1) _ (Pl.zt0 Is i x hx).2
   rw [add_lit] at this
   rw [Nat.zero_add]; exact this
theorem Io.lt {W : World} {S : Nat} {v : Value} {Is : List Pl.It} (h : Io W S v Is) : (∀ g, v.ownBlock = some g → S ≤ g ∧ g < W.heap.size) ∧ ∀ (i : Nat) x, Is[i]? = some x → ∀ g, x.t.val.ownBlock = some g → S ≤ g ∧ g < W.heap.size :=
 ⟨fun g hg => World.ownsRow.lt h.row g hg, fun i x hx g hg => zc3 (h.each i x hx).1 g hg⟩
theorem Io.there {W : World} {S : Nat} {v : Value} {Is : List Pl.It} (h : Io W S v Is) (hn : Is.length ≠ 0) : ∃ g cap, v = .slice (some ⟨g, 0, none⟩) Is.length cap ∧ ∀ j u, (Pl.zb9 Is)[j]? = some u → W.cell? ((⟨g, 0, none⟩ : Addr).add j) = some u := by
 rcases h.row.2 with ⟨e, h0⟩ | ⟨g, c, cur, e, hb, hg, rest⟩
 ·exact absurd h0 hn
 ·subst e
  exact ⟨g, c, rfl, fun j u hj => World.ownsRow.cells h.row (g := g) rfl j u hj⟩
theorem Io.nil (W : World) (S : Nat) : Io W S (.slice none 0 0) [] := ⟨⟨rfl, .inl ⟨rfl, rfl⟩⟩, fun i x h => (by cases h), fun i j x y _ h => (by cases h)⟩
theorem Io.one {W : World} {S g : Nat} {m : Int} {t : Pl.Tr} (hb : S ≤ g) (hg : W.heap[g]? = some (.cells #[.int .i64 m, t.val] 38 (0, 0))) (ht : ownN W S t.val t.L) (hn : ∀ q, t.val.ownBlock = some q → q ≠ g) : Io W S (.slice (some ⟨g, 0, none⟩) 1 1) [⟨m, t⟩] := by
 refine ⟨⟨rfl, .inr ⟨g, 1, _, rfl, hb, hg, Nat.le_refl _, by decide, rfl, rfl⟩⟩, fun i x hx => ?_, fun i j x y hij hx hy => ?_⟩
 ·cases i with
  | zero =>
   have e : (⟨m, t⟩ : Pl.It) = x := by simpa using hx
   subst e
   exact ⟨ht, fun q hq e => hn q hq (Option.some.inj e).symm⟩
  | succ i => simp at hx
 ·cases i with
  | zero =>
   cases j with
   | zero => exact absurd rfl hij
   | succ j => simp at hy
  | succ i => simp at hx
end Mem
end Go.Proofs.YtfdbokipgofcdaaGreatDoor

namespace Go.Proofs.YtfdbokipgofcdaaGreatDoor
open Go.RowKit
namespace Pl
theorem ym7 {L : List Nd} (h : za2 L = true) : L.length ≤ 1048576 ∧ ∀ n ∈ L, n.path.size ≤ 1048576 ∧ n.data.size ≤ 1048576 := by
 obtain ⟨h40, hn⟩ := zu1 h
 refine ⟨by omega, fun n hm => ?_⟩
 have hb := hn n hm
 obtain ⟨hd, -, -, -⟩ := zh3 hb
 have hp := path_126 (ze2 hb).1
 omega
theorem yp7 {s : ByteArray} {a : Int} (j : Nat) (h : (za3 s a j).f = none) : ∀ x ∈ (za3 s a j).L, za2 x.2 = true := by
 induction j with
 | zero => intro x hx; cases hx
 | succ j ih =>
  have h' : (zi3 s (za3 s a j).a (za3 s a j).f).f = none := h
  obtain ⟨hf, -, -, -, -, -, -, -, ht⟩ := yn8 h'
  intro x hx
  rcases List.mem_append.1 hx with hx | hx
  ·exact ih hf x hx
  ·cases List.mem_singleton.1 hx; exact ht
theorem yp9 {s : ByteArray} {a : Int} (h8 : s.size ≤ 8000) (ha : a ≤ 9223372036854775807) (j : Nat) : (za3 s a j).a ≤ 9223372036854775807 := by
 induction j with
 | zero => exact ha
 | succ j ih => exact yk6 h8 (zx3 h8 ih)
end Pl
namespace Mem
theorem Io.grown {W W' : World} {S : Nat} {v : Value} {Is : List Pl.It} {r : Option Nat} (h : Io W S v Is) (g : W.grownBy W' r) (hr : ∀ q, r = some q → q < S) : Io W' S v Is :=
 ⟨row_off2 h.row g (fun k hk e => by have := (h.lt.1 k hk).1; have := hr k e.symm; omega), fun i x hx => ⟨zq8 (h.each i x hx).1 g (fun k hk e => by have := (h.lt.2 i x hx k hk).1; have := hr k e.symm; omega), (h.each i x hx).2⟩, h.apart⟩
end Mem
namespace zg8
def Outs (w w' : World) (C : Int) (O : List (Int × List Pl.Nd)) (e : Ending) : Prop := ∃ v Is, e = .returned (.agg #[v, .int .i64 C]) ∧ Mem.Io w' w.heap.size v Is ∧ Is.map Pl.It.r = O
theorem zu5 : (Tryz.prog.info? 38).map (fun i => (i.zero, i.size, i.bytes)) = some (some (.agg #[.int .i64 0, .slice none 0 0]), 2, 32) := by kernel_rfl
structure Nk (w wr : World) (X2 X3 B : Nat) (rc : Array Value) (RT : TypeId) (v : Value) (Is : List Pl.It) : Prop where
 bel : Below w.heap.size w wr
 big : B ≤ wr.heap.size
 x2 : Mem.Blk wr X2 #[.slice none 0 0, .int .i64 0] 28
 x3 : Mem.Blk wr X3 rc RT
 row : Mem.Io wr B v Is
 l2 : w.heap.size ≤ X2 ∧ X2 < B
 l3 : w.heap.size ≤ X3 ∧ X3 < B
 n23 : X2 ≠ X3
theorem Nk.read {w wr W : World} {X2 X3 B : Nat} {rc rc' : Array Value} {RT : TypeId} {v : Value} {Is : List Pl.It} (h : Nk w wr X2 X3 B rc RT v Is) (g : wr.grownBy W (some X3)) (hr : Mem.Blk W X3 rc' RT) : Nk w W X2 X3 B rc' RT v Is :=
 ⟨h.bel.grown g h.bel.size (fun k hk => by cases hk; exact h.l3.1), Nat.le_trans h.big g.size, h.x2.grown g (fun e => h.n23 (Option.some.inj e)), hr, h.row.grown g (fun q hq => by cases hq; exact h.l3.2), h.l2, h.l3, h.n23⟩
theorem Nk.call {w wr W : World} {X2 X3 B : Nat} {rc : Array Value} {RT : TypeId} {v : Value} {Is : List Pl.It} (h : Nk w wr X2 X3 B rc RT v Is) (b : Below wr.heap.size wr W) : Nk w W X2 X3 B rc RT v Is :=
 h.read (Mem.zd8 b _) (h.x3.call b)
theorem Nk.put {w wr W w4 : World} {X2 X3 B S : Nat} {rc rc' : Array Value} {RT : TypeId} {v v' : Value} {Is : List Pl.It} {m : Int} {t : Pl.Tr} (h : Nk w wr X2 X3 B rc RT v Is) (g : wr.grownBy W (some X3)) (hr : Mem.Blk W X3 rc' RT)
  (ht : Mem.ownN W S t.val t.L) (hS : wr.heap.size ≤ S)
  (own : w4.ownsRow B 38 2 v' (Is.length + 1) (Pl.zb9 Is ++ [.int .i64 m, t.val])) (gr : (W.alloc (.cells #[.int .i64 m, t.val] 38)).grownBy w4 v.ownBlock) (far : ∀ g, v'.ownBlock = some g → v.ownBlock = some g ∨ (W.alloc (.cells #[.int .i64 m, t.val] 38)).heap.size ≤ g) :
  Nk w w4 X2 X3 B rc' RT v' (Is ++ [⟨m, t⟩]) := by
 have hb := h.row.lt
 have bA : Below W.heap.size W (W.alloc (.cells #[.int .i64 m, t.val] 38)) := (Below.refl _ _).alloc (Nat.le_refl _) _
 have hK := (h.read g hr).call bA
 have hbig := h.big
 have gs := g.size
 have ht2 := Mem.zl1 ht bA
 have one : Mem.Io (W.alloc (.cells #[.int .i64 m, t.val] 38)) wr.heap.size (.slice (some ⟨W.heap.size, 0, none⟩) 1 1) [⟨m, t⟩] :=
  Mem.Io.one gs (heap_alloc_new _ _) (Mem.zb4 ht2 hS) (fun q hq e => by have := (Mem.zc3 ht q hq).2; omega)
 have l2 := h.l2
 have l3 := h.l3
 have ob : ∀ q, v.ownBlock = some q → B ≤ q := fun q hq => (hb.1 q hq).1
 refine ⟨hK.bel.grown gr hK.bel.size (fun q hq => by have := ob q hq; omega), Nat.le_trans hK.big gr.size, hK.x2.grown gr (fun e => by have := ob _ e.symm; omega), hK.x3.grown gr (fun e => by have := ob _ e.symm; omega), ?_, h.l2, h.l3, h.n23⟩
 exact hK.row.app one hbig (fun q hq => (hb.1 q hq).2) (fun i x hx q hq => (hb.2 i x hx q hq).2) own gr far
theorem Nk.done {w wr : World} {X2 X3 B : Nat} {rc : Array Value} {RT : TypeId} {v : Value} {Is : List Pl.It} (h : Nk w wr X2 X3 B rc RT v Is) (u0 u1 : Value) : Mem.Io ((wr.setCell ⟨X2, 0, none⟩ u0).setCell ⟨X2, 1, none⟩ u1) w.heap.size v Is ∧ Below w.heap.size w ((wr.setCell ⟨X2, 0, none⟩ u0).setCell ⟨X2, 1, none⟩ u1) := by
 have h2 := h.l2
 exact ⟨((h.row.set _ u0 (by show X2 < B; omega)).set _ u1 (by show X2 < B; omega)).mono (by omega), (h.bel.setCell (by show w.heap.size ≤ X2; omega) _).setCell (by show w.heap.size ≤ X2; omega) _⟩
theorem zz4 {W : World} {B n vc : Nat} {va : Option Addr} {xs : List Value} (own : W.ownsRow B 38 2 (.slice va n vc) n xs) : n ≤ vc := by
 rcases own.2 with ⟨e, h0⟩ | ⟨g, cap, cur, e, -, -, h, -⟩
 ·omega
 ·cases e; exact h
theorem zj0 (w : World) (m : Int) (u : Value) (e : TypeId) : ∀ j x, [Value.int .i64 m, u][j]? = some x → (w.alloc (.cells #[.int .i64 m, u] e)).cell? ((⟨w.heap.size, 0, none⟩ : Addr).add j) = some x := by
 intro j x hx
 rw [Mem.add_lit, cell_of_row _ _ _ _ _ (0, 0) (heap_alloc_new _ _)]
 simpa using hx
theorem zk1 (m : Int) (a : Option Addr) (n c : Nat) : ∀ x ∈ [Value.int .i64 m, Value.slice a n c], x.oneCell' = true := by
 intro x hx
 simp only [List.mem_cons, List.not_mem_nil, or_false] at hx
 rcases hx with rfl | rfl <;> rfl
end zg8
end Go.Proofs.YtfdbokipgofcdaaGreatDoor

namespace Go.Proofs.YtfdbokipgofcdaaGreatDoor
open Go.RowKit
namespace Mem
theorem yx2 {P : Program} (w : World) (base : Nat) (t ty e : TypeId) (i : TypeInfo) (z : Value) (size bytes : Nat) (ht : P.underlying t = some (.slice e)) (hi : P.info? e = some i) (hz : i.zero = some z)
  (hsize : i.size = size) (hby : i.bytes = bytes) (hzs : z.cells.size = size) (hsz : 0 < size)
  (v : Value) (n : Nat) (xs : List Value) (hown : w.ownsRow base e size v n xs)
  (a : Addr) (m c : Nat) (news : List Value) (hl : news.length = m * size) (hnews : ∀ j u, news[j]? = some u → w.cell? (a.add j) = some u) (h1 : ∀ u ∈ news, u.oneCell' = true)
  (h63 : n + m ≤ maxLen) (hbytes : (n + m) * bytes ≤ 140737488355328) (hbase : base ≤ w.heap.size) :
  ∃ v' w', (Builtin.append_ #[t, t] ty #[v, .slice (some a) m c]).run P w = .ok v' w' ∧ w'.ownsRow base e size v' (n + m) (xs ++ news) ∧ w.grownBy w' v.ownBlock ∧ ∀ g, v'.ownBlock = some g → v.ownBlock = some g ∨ w.heap.size ≤ g := by
 obtain ⟨v', w', hr, h2, h3, -⟩ := run_append_own (P := P) w base t ty e i z size bytes ht hi hz hsize hby hzs hsz v n xs hown a m c news hl hnews h1 h63 hbytes hbase
 refine ⟨v', w', hr, h2, h3, ?_⟩
 rcases hown.2 with ⟨rfl, rfl⟩ | ⟨g, cap, cur, rfl, hbg, hg, hnc, hcm, hcs, htake⟩
 ·have hx : xs = [] := List.eq_nil_of_length_eq_zero (by simpa using hown.1)
  subst hx
  obtain ⟨v2, w2, hr2, k2, -, -⟩ := run_append_own (P := P) w w.heap.size t ty e i z size bytes ht hi hz hsize hby hzs hsz _ 0 [] (World.ownsRow_nil w w.heap.size e size) a m c news hl hnews h1 h63 hbytes (Nat.le_refl _)
  rw [hr] at hr2
  cases hr2
  exact fun g hg => .inr (k2.lt g hg).1
 ·subst hsize hby
  by_cases hroom : n + m ≤ cap
  ·have hfit : n * i.size + news.length ≤ cur.size := by rw [hl, hcs, ← Nat.add_mul]; exact Nat.mul_le_mul_right _ hroom
   rw [run_append_room (P := P) w t ty e i ht hi g n cap cur hg a m c news hl hnews h1 hroom hfit] at hr
   cases hr
   exact fun g hg => .inl hg
  ·have holds : ∀ j u, xs[j]? = some u → w.cell? ((⟨g, 0, none⟩ : Addr).add j) = some u := hown.cells (g := g) rfl
   have hsmall : n + m ≤ 9223372036854775807 := by simp only [maxLen] at h63; omega
   rw [run_append_grow (P := P) w t ty e i z ht hi hz ⟨g, 0, none⟩ n cap xs hown.1 holds a m c news hl hnews (by omega) (by omega) (growslice_fits (by omega) hbytes)] at hr
   cases hr
   intro g' hg'
   cases hg'
   exact .inr (Nat.le_refl _)
theorem zb0 {P : Program} (w : World) {ops : Array Oper} {rest : List Oper} {o : Oper} {a : Act} {Q : Exit → Act → World → Prop} (hgd : o.guard = none) (s x : Operand) (t : TypeId)
  (ho : o.op = .call { callee := .builtin .append, args := #[s, x], argTypes := #[t, t] })
  (base : Nat) (e : TypeId) (i : TypeInfo) (z : Value) (size bytes : Nat) (ht : P.underlying t = some (.slice e)) (hi : P.info? e = some i) (hz : i.zero = some z)
  (hsize : i.size = size) (hby : i.bytes = bytes) (hzs : z.cells.size = size) (hsz : 0 < size)
  (v : Value) (n : Nat) (xs : List Value) (hs : a.eval s = v) (hown : w.ownsRow base e size v n xs)
  (ad : Addr) (m c : Nat) (news : List Value) (hx : a.eval x = .slice (some ad) m c) (hl : news.length = m * size) (hnews : ∀ j u, news[j]? = some u → w.cell? (ad.add j) = some u) (h1 : ∀ u ∈ news, u.oneCell' = true)
  (h63 : n + m ≤ maxLen) (hbytes : (n + m) * bytes ≤ 140737488355328) (hbase : base ≤ w.heap.size)
  (h : ∀ v' w', w'.ownsRow base e size v' (n + m) (xs ++ news) → w.grownBy w' v.ownBlock → (∀ g, v'.ownBlock = some g → v.ownBlock = some g ∨ w.heap.size ≤ g) → wpList P ops Q rest (a.put o.dst v') w') : wpList P ops Q (o :: rest) a w :=
 wpList_plain hgd fun _ hK => by
  obtain ⟨v', w', hr, h2, h3, h4⟩ := yx2 (P := P) w base t o.type e i z size bytes ht hi hz hsize hby hzs hsz v n xs hown ad m c news hl hnews h1 h63 hbytes hbase
  unfold Oper.wp execOp
  simp only [ho, resolve, invoke, builtin, Sem.run_bind, Sem.run_pure, Result.andThen_ok, List.map_toArray, List.map_cons, List.map_nil, hs, hx, hr]
  exact hK _ _ (h v' w' h2 h3 h4)
end Mem
end Go.Proofs.YtfdbokipgofcdaaGreatDoor

namespace Go.Proofs.YtfdbokipgofcdaaGreatDoor
open Go.RowKit
namespace zc0
set_option linter.unusedSimpArgs false in
set_option maxRecDepth 100000 in
set_option maxHeartbeats 1000000 in
theorem zw1 (m : Int) (a : Option Addr) (cap : Nat) (L : List Pl.Nd) (w : World) (hl : L.length ≤ 1048576) (hv : Mem.zc2 w a L) (hok : ∀ n ∈ L, n.path.size ≤ 1048576 ∧ n.data.size ≤ 1048576)
  (r1 r2 r3 : TypeId) (x1 x2 x3 : Value) (hE : ze7.Errs w r1 r2 r3 x1 x2 x3) :
  Calls Tryz.prog 94 #[.agg #[.int .i64 m, .slice a L.length cap]] w fun e w' => ((Pl.zf9 m L = true ∧ ∃ B, e = .returned (.tuple #[.agg #[.map (some B), .int .i64 m], .nilIface])) ∨
   (Pl.zf9 m L = false ∧ ∃ k, e = .returned (.tuple #[.agg #[.map none, .int .i64 k], .iface r1 x1]))) ∧ Below w.heap.size w w' := by
 have b0 : Below w.heap.size w ((w.alloc (.cells #[.int .i64 m, .slice a L.length cap] 38)).alloc (.cells #[.map none, .int .i64 0] 71)) := ((Below.refl _ _).alloc (Nat.le_refl _) _).alloc (by simp) _
 have k1 := (hE.call b0).c1
 have HB0 := hide b0
 by_cases h1 : m < 0
 ·have hb : Pl.zf9 m L = false := by unfold Pl.zf9; rw [show decide (0 ≤ m) = false from decide_eq_false (by omega)]; simp
  clear b0 hv hok hE
  go_enter Tryz.func94, Tryz.ntmps94
  go_wp2
  go_region
  go_wp2
  refine bodyPost_ret (v := .tuple #[.agg #[.map none, .int .i64 0], .iface r1 x1]) (by simp [results, Tryz.results94, go_sem]) rfl ⟨.inr ⟨hb, 0, rfl⟩, ?_⟩
  exact Mem.below_drewN (za HB0) 1
 by_cases h2 : 4 < m
 ·have hb : Pl.zf9 m L = false := by unfold Pl.zf9; rw [show decide (m ≤ 4) = false from decide_eq_false (by omega)]; simp
  clear b0 hv hok hE
  go_enter Tryz.func94, Tryz.ntmps94
  go_wp2
  go_region
  go_wp2
  refine bodyPost_ret (v := .tuple #[.agg #[.map none, .int .i64 0], .iface r1 x1]) (by simp [results, Tryz.results94, go_sem]) rfl ⟨.inr ⟨hb, 0, rfl⟩, ?_⟩
  exact Mem.below_drewN (za HB0) 1
 by_cases h3 : 0 < m ∧ 0 < L.length
 ·have hb : Pl.zf9 m L = false := by
   rw [Pl.zy5 (by omega), show decide (L.length = 0) = false from decide_eq_false (by omega)]; simp
  have u1 := h3.1
  have u2 : (0 : Int) < (L.length : Int) := by omega
  clear b0 hv hok hE
  go_enter Tryz.func94, Tryz.ntmps94
  go_wp2
  go_region
  go_wp2
  refine bodyPost_ret (v := .tuple #[.agg #[.map none, .int .i64 0], .iface r1 x1]) (by simp [results, Tryz.results94, go_sem]) rfl ⟨.inr ⟨hb, 0, rfl⟩, ?_⟩
  exact Mem.below_drewN (za HB0) 1
 have hb : Pl.zf9 m L = Pl.za2 L := by
  by_cases h0 : m = 0
  ·subst h0; exact Pl.ym3 L
  ·have hL : L = [] := List.eq_nil_of_length_eq_zero (by omega)
   subst hL
   rw [Pl.zy5 h0, Pl.yi9, decide_eq_true (show 1 ≤ m by omega), decide_eq_true (show m ≤ 4 by omega)]; rfl
 rw [hb]
 have hz := hide (ze7.yq7 a cap L _ hl (Mem.za8 hv b0) hok r1 r2 r3 x1 x2 x3 (hE.call b0))
 have r2' : Mem.Blk ((w.alloc (.cells #[.int .i64 m, .slice a L.length cap] 38)).alloc (.cells #[.map none, .int .i64 0] 71)) (w.heap.size + 1) #[.map none, .int .i64 0] 71 := by
  have := Mem.Blk.new (w.alloc (.cells #[.int .i64 m, .slice a L.length cap] 38)) #[.map none, .int .i64 0] 71
  simpa using this
 have r1' : Mem.Blk ((w.alloc (.cells #[.int .i64 m, .slice a L.length cap] 38)).alloc (.cells #[.map none, .int .i64 0] 71)) w.heap.size #[.int .i64 m, .slice a L.length cap] 38 := (Mem.Blk.new w _ _).alloc _
 clear hv hok hE k1 b0 hb
 by_cases h4 : 0 < m
 ·have u2 : ¬ (0 : Int) < (L.length : Int) := by omega
  go_enter Tryz.func94, Tryz.ntmps94
  go_wp2_with fail
  generalize ((w.alloc (.cells #[.int .i64 m, .slice a L.length cap] 38)).alloc (.cells #[.map none, .int .i64 0] 71)) = w2 at hz r1' r2' HB0 ⊢
  refine (za hz).mono ?_
  rintro e w1 ⟨h1, b1⟩
  have R1 := r1'.call b1
  have R2 := r2'.call b1
  have c10 := R1.cell 0
  have c11 := R1.cell 1
  have c20 := R2.cell 0
  have c21 := R2.cell 1
  have f20 := R2.fr 0
  have f21 := R2.fr 1
  simp only [kGs] at c10 c11 c20 c21
  have bb := hide ((za HB0).trans (b1.mono (za HB0).size))
  clear hz b1 r1' r2' R1 R2 HB0
  rcases h1 with ⟨hT, B, rfl, -, -⟩ | ⟨hT, rfl⟩
  ·go_wp2
   refine bodyPost_ret (v := .tuple #[.agg #[.map (some B), .int .i64 m], .nilIface]) (by simp [results, Tryz.results94, go_sem, c20, c21]) rfl ⟨.inl ⟨hT, B, rfl⟩, ?_⟩
   exact ((za bb).setCell (by show w.heap.size ≤ w.heap.size + 1; omega) _).setCell (by show w.heap.size ≤ w.heap.size + 1; omega) _
  ·go_wp2
   refine bodyPost_ret (v := .tuple #[.agg #[.map none, .int .i64 m], .iface r1 x1]) (by simp [results, Tryz.results94, go_sem, c20, c21]) rfl ⟨.inr ⟨hT, m, rfl⟩, ?_⟩
   exact ((za bb).setCell (by show w.heap.size ≤ w.heap.size + 1; omega) _).setCell (by show w.heap.size ≤ w.heap.size + 1; omega) _
 ·go_enter Tryz.func94, Tryz.ntmps94
  go_wp2_with fail
  generalize ((w.alloc (.cells #[.int .i64 m, .slice a L.length cap] 38)).alloc (.cells #[.map none, .int .i64 0] 71)) = w2 at hz r1' r2' HB0 ⊢
  refine (za hz).mono ?_
  rintro e w1 ⟨h1, b1⟩
  have R1 := r1'.call b1
  have R2 := r2'.call b1
  have c10 := R1.cell 0
  have c11 := R1.cell 1
  have c20 := R2.cell 0
  have c21 := R2.cell 1
  have f20 := R2.fr 0
  have f21 := R2.fr 1
  simp only [kGs] at c10 c11 c20 c21
  have bb := hide ((za HB0).trans (b1.mono (za HB0).size))
  clear hz b1 r1' r2' R1 R2 HB0
  rcases h1 with ⟨hT, B, rfl, -, -⟩ | ⟨hT, rfl⟩
  ·go_wp2
   refine bodyPost_ret (v := .tuple #[.agg #[.map (some B), .int .i64 m], .nilIface]) (by simp [results, Tryz.results94, go_sem, c20, c21]) rfl ⟨.inl ⟨hT, B, rfl⟩, ?_⟩
   exact ((za bb).setCell (by show w.heap.size ≤ w.heap.size + 1; omega) _).setCell (by show w.heap.size ≤ w.heap.size + 1; omega) _
  ·go_wp2
   refine bodyPost_ret (v := .tuple #[.agg #[.map none, .int .i64 m], .iface r1 x1]) (by simp [results, Tryz.results94, go_sem, c20, c21]) rfl ⟨.inr ⟨hT, m, rfl⟩, ?_⟩
   exact ((za bb).setCell (by show w.heap.size ≤ w.heap.size + 1; omega) _).setCell (by show w.heap.size ≤ w.heap.size + 1; omega) _
end zc0
end Go.Proofs.YtfdbokipgofcdaaGreatDoor

namespace Go.Proofs.YtfdbokipgofcdaaGreatDoor
open Go.RowKit
namespace Mem
def rowF (w : World) (N : Nat → Prop) : Pl.Fo → Nat → Nat → Prop
 | .nil, _, _ => True
 | .cons k m, b, i => (∃ x y a cap, w.cell? ⟨b, i, none⟩ = some x ∧ w.cell? ⟨b, i + 1, none⟩ = some y ∧ w.cell? ⟨b, i + 2, none⟩ = some (.slice a k.len cap) ∧ b < w.heap.size ∧ N b ∧
   (∃ q, x = .map q) ∧ (∃ q, y = .int .i64 q) ∧ (k = .nil ∨ ∃ b', a = some ⟨b', 0, none⟩ ∧ rowF w N k b' 0)) ∧ rowF w N m b (i + 3)
def lay (w : World) (N : Nat → Prop) (k : Pl.Fo) (v : Value) : Prop := ∃ a cap, v = .slice a k.len cap ∧ (k = .nil ∨ ∃ b', a = some ⟨b', 0, none⟩ ∧ rowF w N k b' 0)
theorem yr5 {w w' : World} {N N' : Nat → Prop} (h : ∀ b, N b → b < w.heap.size → N' b ∧ b < w'.heap.size ∧ w'.heap[b]? = w.heap[b]?) (F : Pl.Fo) : ∀ b i, rowF w N F b i → rowF w' N' F b i := by
 induction F with
 | nil => intro b i _; trivial
 | cons k m ihk ihm =>
  intro b i hr
  obtain ⟨⟨x, y, a, cap, h1, h2, h3, h4, h5, hx, hy, h6⟩, h7⟩ := hr
  obtain ⟨g1, g2, g3⟩ := h b h5 h4
  have c : ∀ j, w'.cell? ⟨b, j, none⟩ = w.cell? ⟨b, j, none⟩ := fun j => World.cell?_of_block g3
  refine ⟨⟨x, y, a, cap, (c _).trans h1, (c _).trans h2, (c _).trans h3, g2, g1, hx, hy, ?_⟩, ihm _ _ h7⟩
  rcases h6 with h6 | ⟨b', h6, h8⟩
  ·exact .inl h6
  ·exact .inr ⟨b', h6, ihk _ _ h8⟩
theorem yh0 {w w' : World} {N N' : Nat → Prop} (h : ∀ b, N b → b < w.heap.size → N' b ∧ b < w'.heap.size ∧ w'.heap[b]? = w.heap[b]?) {k : Pl.Fo} {v : Value} (hl : lay w N k v) : lay w' N' k v := by
 obtain ⟨a, cap, h1, h2⟩ := hl
 refine ⟨a, cap, h1, ?_⟩
 rcases h2 with h2 | ⟨b', h2, h3⟩
 ·exact .inl h2
 ·exact .inr ⟨b', h2, yr5 h _ _ _ h3⟩
theorem zt8 {w w' : World} {N : Nat → Prop} {k : Pl.Fo} {v : Value} (h : lay w N k v) (b : Below w.heap.size w w') : lay w' N k v := yh0 (fun g hg hl => ⟨hg, Nat.lt_of_lt_of_le hl b.size, b.block g hl⟩) h
theorem lay_nil (w : World) (N : Nat → Prop) : lay w N .nil (.slice none 0 0) := ⟨none, 0, rfl, .inl rfl⟩
def yb3 (w : World) (N : Nat → Prop) : Pl.Fo → List Value → Prop
 | .nil, xs => xs = []
 | .cons k m, xs => ∃ q r v ys, xs = .map q :: .int .i64 r :: v :: ys ∧ lay w N k v ∧ yb3 w N m ys
theorem cellsF_mono {w w' : World} {N N' : Nat → Prop} (h : ∀ b, N b → b < w.heap.size → N' b ∧ b < w'.heap.size ∧ w'.heap[b]? = w.heap[b]?) (F : Pl.Fo) : ∀ xs, yb3 w N F xs → yb3 w' N' F xs := by
 induction F with
 | nil => intro xs h; exact h
 | cons k m _ ih =>
  intro xs hx
  obtain ⟨q, r, v, ys, h1, h2, h3⟩ := hx
  exact ⟨q, r, v, ys, h1, yh0 h h2, ih _ h3⟩
theorem cellsF_snoc {w : World} {N : Nat → Prop} {k : Pl.Fo} {q : Option Nat} {r : Int} {v : Value} (hv : lay w N k v) (F : Pl.Fo) : ∀ xs, yb3 w N F xs → yb3 w N (F.app (.cons k .nil)) (xs ++ [.map q, .int .i64 r, v]) := by
 induction F with
 | nil => intro xs h; cases h; exact ⟨q, r, v, [], rfl, hv, rfl⟩
 | cons k' m _ ih =>
  intro xs hx
  obtain ⟨q', r', v', ys, rfl, h2, h3⟩ := hx
  exact ⟨q', r', v', _, rfl, h2, ih _ h3⟩
theorem row_of_cells {w : World} {N N' : Nat → Prop} {g : Nat} (hN : ∀ b, N b → N' b) (hg : N' g) (hlt : g < w.heap.size) (F : Pl.Fo) : ∀ (xs : List Value) (i : Nat), yb3 w N F xs → (∀ j u, xs[j]? = some u → w.cell? ⟨g, i + j, none⟩ = some u) → rowF w N' F g i := by
 induction F with
 | nil => intro xs i _ _; trivial
 | cons k m _ ih =>
  intro xs i hx hc
  obtain ⟨q, r, v, ys, rfl, h2, h3⟩ := hx
  obtain ⟨a, cap, rfl, h4⟩ := h2
  refine ⟨⟨_, _, a, cap, hc 0 _ rfl, hc 1 _ rfl, hc 2 _ rfl, hlt, hg, ⟨q, rfl⟩, ⟨r, rfl⟩, ?_⟩, ih ys (i + 3) h3 fun j u hj => ?_⟩
  ·rcases h4 with h4 | ⟨b', h4, h5⟩
   ·exact .inl h4
   ·exact .inr ⟨b', h4, yr5 (fun b hb hl => ⟨hN b hb, hl, rfl⟩) _ _ _ h5⟩
  ·have := hc (j + 3) u (by simpa using hj)
   rw [show i + 3 + j = i + (j + 3) by omega]; exact this
theorem lay_of_row {w : World} {B : Nat} {T : TypeId} {v : Value} {N : Nat → Prop} {F : Pl.Fo} {xs : List Value} (h : w.ownsRow B T 3 v F.len xs) (hc : yb3 w N F xs) (hN : ∀ b, N b → B ≤ b) : lay w (fun b => B ≤ b) F v := by
 rcases h.2 with ⟨rfl, h0⟩ | ⟨g, cap, cur, rfl, hb, hg, hc2, hm, hsz, ht⟩
 ·cases F with
  | nil => exact lay_nil _ _
  | cons k m => simp [Pl.Fo.len] at h0
 ·refine ⟨_, cap, rfl, .inr ⟨g, rfl, row_of_cells hN hb (Array.getElem?_eq_some_iff.1 hg).1 F xs 0 hc fun j u hj => ?_⟩⟩
  rw [cell_of_row w g _ cur _ (0, 0) hg, Nat.zero_add]
  rw [← ht, List.getElem?_take] at hj
  split at hj
  ·simpa using hj
  ·cases hj
end Mem
end Go.Proofs.YtfdbokipgofcdaaGreatDoor

namespace Go.Proofs.YtfdbokipgofcdaaGreatDoor
open Go.RowKit
namespace zc0
theorem zl3 : (Tryz.prog.info? 74).map (fun i => (i.zero, i.size, i.bytes)) = some (some (.agg #[.map none, .int .i64 0, .slice none 0 0]), 3, 40) := by kernel_rfl
structure Tk (w wr : World) (B X2 X7 : Nat) (q : Option Nat) (m : Int) (v : Value) (F : Pl.Fo) (xs : List Value) : Prop where
 bel : Below w.heap.size w wr
 big : B ≤ wr.heap.size
 x2 : Mem.Blk wr X2 #[.map none, .int .i64 0, .slice none 0 0] 74
 x7 : Mem.Blk wr X7 #[.map q, .int .i64 m, v] 74
 l2 : w.heap.size ≤ X2 ∧ X2 < B
 l7 : w.heap.size ≤ X7 ∧ X7 < B
 ne : X2 ≠ X7
 row : wr.ownsRow B 74 3 v F.len xs
 cells : Mem.yb3 wr (fun b => B ≤ b ∧ v.ownBlock ≠ some b) F xs
theorem zz6 {w w' : World} {B n s : Nat} {T : TypeId} {v : Value} {xs : List Value} (h : w.ownsRow B T s v n xs) (b : Below w.heap.size w w') : w'.ownsRow B T s v n xs := by
 refine ⟨h.1, ?_⟩
 rcases h.2 with h0 | ⟨g, cap, cur, hv, hb, hg, rest⟩
 ·exact .inl h0
 ·exact .inr ⟨g, cap, cur, hv, hb, (b.block g (Array.getElem?_eq_some_iff.1 hg).1).trans hg, rest⟩
theorem row_set {w : World} {B n s : Nat} {T : TypeId} {v : Value} {xs : List Value} (h : w.ownsRow B T s v n xs) (p : Addr) (u : Value) (hp : p.block < B) : (w.setCell p u).ownsRow B T s v n xs := by
 refine ⟨h.1, ?_⟩
 rcases h.2 with h0 | ⟨g, cap, cur, hv, hb, hg, rest⟩
 ·exact .inl h0
 ·exact .inr ⟨g, cap, cur, hv, hb, (heap_setCell_other _ _ _ _ (by omega)).trans hg, rest⟩
theorem Tk.step {w wr w1 w4 : World} {B X2 X7 : Nat} {q q1 : Option Nat} {m m1 : Int} {v v1 v' : Value} {F kids : Pl.Fo} {xs : List Value} {o1 o2 : Obj} (h : Tk w wr B X2 X7 q m v F xs)
  (b1 : Below wr.heap.size wr w1) (hl : Mem.lay w1 (fun b => wr.heap.size ≤ b) kids v1)
  (own : w4.ownsRow B 74 3 v' (F.len + 1) (xs ++ [.map q1, .int .i64 m1, v1])) (gr : ((w1.alloc o1).alloc o2).grownBy w4 v.ownBlock) (far : ∀ g, v'.ownBlock = some g → v.ownBlock = some g ∨ ((w1.alloc o1).alloc o2).heap.size ≤ g) :
  Tk w (w4.setCell ⟨X7, 2, none⟩ v') B X2 X7 q m v' (F.app (.cons kids .nil)) (xs ++ [.map q1, .int .i64 m1, v1]) := by
 have hw1 : wr.heap.size ≤ w1.heap.size := b1.size
 have hs3 : ((w1.alloc o1).alloc o2).heap.size = w1.heap.size + 1 + 1 := by simp
 have b3 : Below wr.heap.size wr ((w1.alloc o1).alloc o2) := (b1.alloc hw1 o1).alloc (by simp; omega) o2
 have b13 : Below w1.heap.size w1 ((w1.alloc o1).alloc o2) := ((Below.refl _ _).alloc (Nat.le_refl _) o1).alloc (by simp) o2
 have e5 : (w4.setCell ⟨X7, 2, none⟩ v').heap.size = w4.heap.size := by simp
 have hv7 : some X7 ≠ v.ownBlock := fun e => by have := (h.row.lt X7 e.symm).1; have := h.l7.2; omega
 have hv2 : some X2 ≠ v.ownBlock := fun e => by have := (h.row.lt X2 e.symm).1; have := h.l2.2; omega
 have hbig := h.big
 have keep : ∀ b, B ≤ b → v.ownBlock ≠ some b → b < w1.heap.size → (w4.setCell ⟨X7, 2, none⟩ v').heap[b]? = w1.heap[b]? := fun b hb hne hlt => by
  rw [heap_setCell_other _ _ _ _ (by show b ≠ X7; have := h.l7.2; omega), gr.block b (by omega) (fun e => hne e.symm)]
  exact b13.block b hlt
 have hsz : ∀ b, b < w1.heap.size → b < (w4.setCell ⟨X7, 2, none⟩ v').heap.size := fun b hb => by have := gr.size; omega
 have hnew : ∀ b, v.ownBlock ≠ some b → b < w1.heap.size → v'.ownBlock ≠ some b := fun b hne hlt e => by
  rcases far b e with h' | h'
  ·exact hne h'
  ·omega
 refine ⟨?_, ?_, ?_, ?_, h.l2, h.l7, h.ne, ?_, ?_⟩
 ·refine Below.setCell ?_ (by show w.heap.size ≤ X7; exact h.l7.1) _
  have bw3 := h.bel.trans (b3.mono h.bel.size)
  refine ⟨gr.os.trans bw3.os, gr.tape.trans bw3.tape, gr.output.trans bw3.output, Nat.le_trans bw3.size gr.size, fun k hk => ?_⟩
  have hk2 := h.bel.size
  rw [gr.block k (by omega) (fun e => by have := (h.row.lt k e.symm).1; have := h.l7; omega)]
  exact bw3.block k hk
 ·have := gr.size; omega
 ·exact ((h.x2.call b3).grown gr hv2).far _ _ h.ne
 ·exact ((h.x7.call b3).grown gr hv7).put 2 v'
 ·rw [Pl.Fo.zh9]
  exact row_set own _ _ h.l7.2
 ·refine Mem.cellsF_snoc (Mem.yh0 (fun b hb hlt => ?_) hl) F xs (Mem.cellsF_mono (fun b hb hlt => ?_) F xs h.cells)
  ·have hne : v.ownBlock ≠ some b := fun e => by have := (h.row.lt b e).2; omega
   exact ⟨⟨by omega, hnew b hne hlt⟩, hsz b hlt, keep b (by omega) hne hlt⟩
  ·exact ⟨⟨hb.1, hnew b hb.2 (by omega)⟩, hsz b (by omega), (keep b hb.1 hb.2 (by omega)).trans (b1.block b hlt)⟩
theorem Tk.mid {w wr w1 w4 : World} {B X2 X7 : Nat} {q : Option Nat} {m : Int} {v : Value} {F : Pl.Fo} {xs : List Value} {o1 o2 : Obj} (h : Tk w wr B X2 X7 q m v F xs)
  (b1 : Below wr.heap.size wr w1) (gr : ((w1.alloc o1).alloc o2).grownBy w4 v.ownBlock) : Mem.Blk w4 X7 #[.map q, .int .i64 m, v] 74 :=
 (((h.x7.call b1).alloc o1).alloc o2).grown gr (fun e => by have := (h.row.lt X7 e.symm).1; have := h.l7.2; omega)
theorem Tk.conc {w wr : World} {B X2 X7 : Nat} {q : Option Nat} {m : Int} {v : Value} {F : Pl.Fo} {xs : List Value} (h : Tk w wr B X2 X7 q m v F xs) : ∃ a cap, v = .slice a F.len cap := by
 rcases h.row.2 with ⟨h1, h0⟩ | ⟨g, cap, cur, h1, _⟩
 ·exact ⟨none, 0, by rw [h1, h0]⟩
 ·exact ⟨_, cap, h1⟩
theorem conc {w : World} {B n s : Nat} {T : TypeId} {v : Value} {xs : List Value} (h : w.ownsRow B T s v n xs) : ∃ a cap, v = .slice a n cap := by
 rcases h.2 with ⟨h1, h0⟩ | ⟨g, cap, cur, h1, _⟩
 ·exact ⟨none, 0, by rw [h1, h0]⟩
 ·exact ⟨_, cap, h1⟩
theorem yp2 (w : World) (cs : List Value) (T : TypeId) (o : Obj) : ∀ j u, cs[j]? = some u → ((w.alloc o).alloc (.cells cs.toArray T)).cell? ((⟨w.heap.size + 1, 0, none⟩ : Addr).add j) = some u := by
 intro j u hj
 rw [Mem.add_lit]
 have := (Mem.ze0 (w.alloc o) cs T).2 j u hj
 simpa using this
theorem Tk.done {w wr : World} {B X2 X7 : Nat} {q : Option Nat} {m : Int} {v : Value} {F : Pl.Fo} {xs : List Value} (h : Tk w wr B X2 X7 q m v F xs) (u0 u1 u2 : Value) :
  Mem.lay (((wr.setCell ⟨X2, 0, none⟩ u0).setCell ⟨X2, 1, none⟩ u1).setCell ⟨X2, 2, none⟩ u2) (fun b => w.heap.size ≤ b) F v := by
 refine Mem.yh0 (fun b hb hlt => ⟨?_, by simpa using hlt, ?_⟩) (Mem.lay_of_row h.row h.cells (fun b hb => hb.1))
 ·have := h.l2; omega
 ·have := h.l2.2
  rw [heap_setCell_other _ _ _ _ (by show b ≠ X2; omega), heap_setCell_other _ _ _ _ (by show b ≠ X2; omega), heap_setCell_other _ _ _ _ (by show b ≠ X2; omega)]
end zc0
end Go.Proofs.YtfdbokipgofcdaaGreatDoor

