/- Several texts of one claim in one file: MemApp2, WDrawFar, MemTrees, MemItems. -/
import Derived.Test.YtioildojmckepaaGreatDoorG08
import Derived.Test.YtioildojmckepaaGreatDoorWDrawTk
import Derived.Test.YtioildojmckepaaGreatDoorG00
import Derived.Below
import Derived.Test.YtioildojmckepaaGreatDoorG04
namespace Go.Proofs.YtioildojmckepaaGreatDoor
open Go.RowKit
namespace Mem
theorem yf3 {P : Program} (w : World) (base : Nat) (t ty e : TypeId) (i : TypeInfo) (z : Value) (size bytes : Nat) (ht : P.underlying t = some (.slice e)) (hi : P.info? e = some i) (hz : i.zero = some z)
  (hsize : i.size = size) (hby : i.bytes = bytes) (hzs : z.cells.size = size) (hsz : 0 < size)
  (v : Value) (n : Nat) (xs : List Value) (hown : w.ownsRow base e size v n xs)
  (a : Addr) (m c : Nat) (news : List Value) (hl : news.length = m * size) (hnews : ∀ j u, news[j]? = some u → w.cell? (a.add j) = some u) (h1 : ∀ u ∈ news, u.oneCell' = true)
  (h63 : n + m ≤ maxLen) (hbytes : (n + m) * bytes ≤ 140737488355328) (hbase : base ≤ w.heap.size) :
  ∃ v' w', (Builtin.append_ #[t, t] ty #[v, .slice (some a) m c]).run P w = .ok v' w' ∧ w'.ownsRow base e size v' (n + m) (xs ++ news) ∧ w.grownBy w' v.ownBlock ∧ ∀ g, v'.ownBlock = some g → v.ownBlock = some g ∨ w.heap.size ≤ g := by
 obtain ⟨v', w', hr, h2, h3, -⟩ := run_append_own (P := P) w base t ty e i z size bytes ht hi hz hsize hby hzs hsz v n xs hown a m c news hl hnews h1 h63 hbytes hbase
 refine ⟨v', w', hr, h2, h3, ?_⟩
 rcases hown.2 with ⟨rfl, rfl⟩ | ⟨g, cap, cur, rfl, hbg, hg, hnc, hcm, hcs, htake⟩
 ·have hx : xs = [] := List.eq_nil_of_length_eq_zero (by simpa using hown.1)
  subst hx
  obtain ⟨v2, w2, hr2, k2, -, -⟩ := run_append_own (P := P) w w.heap.size t ty e i z size bytes ht hi hz hsize hby hzs hsz _ 0 [] (World.ownsRow_nil w w.heap.size e size) a m c news hl hnews h1 h63 hbytes (Nat.le_refl _)
  rw [hr] at hr2
  cases hr2
  exact fun g hg => .inr (k2.lt g hg).1
 ·subst hsize hby
  by_cases hroom : n + m ≤ cap
  ·have hfit : n * i.size + news.length ≤ cur.size := by rw [hl, hcs, ← Nat.add_mul]; exact Nat.mul_le_mul_right _ hroom
   rw [run_append_room (P := P) w t ty e i ht hi g n cap cur hg a m c news hl hnews h1 hroom hfit] at hr
   cases hr
   exact fun g hg => .inl hg
  ·have holds : ∀ j u, xs[j]? = some u → w.cell? ((⟨g, 0, none⟩ : Addr).add j) = some u := hown.cells (g := g) rfl
   have hsmall : n + m ≤ 9223372036854775807 := by simp only [maxLen] at h63; omega
   rw [run_append_grow (P := P) w t ty e i z ht hi hz ⟨g, 0, none⟩ n cap xs hown.1 holds a m c news hl hnews (by omega) (by omega) (growslice_fits (by omega) hbytes)] at hr
   cases hr
   intro g' hg'
   cases hg'
   exact .inr (Nat.le_refl _)
theorem zb0 {P : Program} (w : World) {ops : Array Oper} {rest : List Oper} {o : Oper} {a : Act} {Q : Exit → Act → World → Prop} (hgd : o.guard = none) (s x : Operand) (t : TypeId)
  (ho : o.op = .call { callee := .builtin .append, args := #[s, x], argTypes := #[t, t] })
  (base : Nat) (e : TypeId) (i : TypeInfo) (z : Value) (size bytes : Nat) (ht : P.underlying t = some (.slice e)) (hi : P.info? e = some i) (hz : i.zero = some z)
  (hsize : i.size = size) (hby : i.bytes = bytes) (hzs : z.cells.size = size) (hsz : 0 < size)
  (v : Value) (n : Nat) (xs : List Value) (hs : a.eval s = v) (hown : w.ownsRow base e size v n xs)
  (ad : Addr) (m c : Nat) (news : List Value) (hx : a.eval x = .slice (some ad) m c) (hl : news.length = m * size) (hnews : ∀ j u, news[j]? = some u → w.cell? (ad.add j) = some u) (h1 : ∀ u ∈ news, u.oneCell' = true)
  (h63 : n + m ≤ maxLen) (hbytes : (n + m) * bytes ≤ 140737488355328) (hbase : base ≤ w.heap.size)
  (h : ∀ v' w', w'.ownsRow base e size v' (n + m) (xs ++ news) → w.grownBy w' v.ownBlock → (∀ g, v'.ownBlock = some g → v.ownBlock = some g ∨ w.heap.size ≤ g) → wpList P ops Q rest (a.put o.dst v') w') : wpList P ops Q (o :: rest) a w :=
 wpList_plain hgd fun _ hK => by
  obtain ⟨v', w', hr, h2, h3, h4⟩ := yf3 (P := P) w base t o.type e i z size bytes ht hi hz hsize hby hzs hsz v n xs hown ad m c news hl hnews h1 h63 hbytes hbase
  unfold Oper.wp execOp
  simp only [ho, resolve, invoke, builtin, Sem.run_bind, Sem.run_pure, Result.andThen_ok, List.map_toArray, List.map_cons, List.map_nil, hs, hx, hr]
  exact hK _ _ (h v' w' h2 h3 h4)
end Mem
end Go.Proofs.YtioildojmckepaaGreatDoor

namespace Go.Proofs.YtioildojmckepaaGreatDoor
open Go.RowKit
namespace WSrc
theorem zf6.far {W W' : World} {B cap : Nat} {a : Option Addr} {L : List Pl.Nd} {r : Option Nat} (h : zf6 W B a cap L) (g : W.grownBy W' r) (hr : ∀ g o, a = some ⟨g, o, none⟩ → r ≠ some g) : zf6 W' B a cap L := by
 refine ⟨?_, zn4.zu9 h.2.1 g.size, h.2.2⟩
 rcases h.2.1 with ⟨rfl, rfl, rfl⟩ | ⟨b, o, rfl, h2, h3⟩
 ·exact Mem.zw0 _ _
 ·exact Mem.zx2 h.1 g (fun e => hr b o rfl e.symm)
theorem zf6.blk {W : World} {B cap : Nat} {a : Option Addr} {L : List Pl.Nd} (h : zf6 W B a cap L) : ∀ g o, a = some ⟨g, o, none⟩ → g < W.heap.size := by
 intro g o e
 rcases h.2.1 with ⟨rfl, _⟩ | ⟨b, o', rfl, h2, _⟩
 ·cases e
 ·cases e; exact h2
theorem row_far {w w' : World} {B e size n : Nat} {v : Value} {xs : List Value} {r : Option Nat} (h : w.ownsRow B e size v n xs) (hg : w.grownBy w' r) (hr : ∀ g, v.ownBlock = some g → some g ≠ r) : w'.ownsRow B e size v n xs := by
 refine ⟨h.1, ?_⟩
 rcases h.2 with h0 | ⟨g, cap, cur, rfl, hb, hh, rest⟩
 ·exact .inl h0
 ·exact .inr ⟨g, cap, cur, rfl, hb, (hg.block g (Array.getElem?_eq_some_iff.1 hh).1 (hr g rfl)).trans hh, rest⟩
end WSrc
end Go.Proofs.YtioildojmckepaaGreatDoor

namespace Go.Proofs.YtioildojmckepaaGreatDoor
open Go.RowKit
namespace Pl
structure Tr where
 a : Option Addr
 cap : Nat
 L : List Nd
def Tr.val (t : Tr) : Value := .slice t.a t.L.length t.cap
end Pl
namespace Mem
end Mem
end Go.Proofs.YtioildojmckepaaGreatDoor

namespace Go.Proofs.YtioildojmckepaaGreatDoor
open Go.RowKit
namespace Pl
structure It where
 m : Int
 t : Tr
def It.r (x : It) : Int × List Nd := (x.m, x.t.L)
end Pl
namespace Mem
def za7 (w : World) (a : Option Addr) (Is : List Pl.It) : Prop :=
 ∀ (i : Nat) x, Is[i]? = some x → (∃ b o, a = some ⟨b, o, none⟩ ∧ b < w.heap.size ∧ w.cell? ⟨b, o + i * 2, none⟩ = some (.int .i64 x.m) ∧ w.cell? ⟨b, o + i * 2 + 1, none⟩ = some x.t.val) ∧ zb5 w x.t.a x.t.L
theorem zg {w w' : World} {a : Option Addr} {Is : List Pl.It} (h : za7 w a Is) (b : Below w.heap.size w w') : za7 w' a Is := fun i t hi => by
 obtain ⟨⟨g, o, h1, h2, h3, h5⟩, h4⟩ := h i t hi
 exact ⟨⟨g, o, h1, Nat.lt_of_lt_of_le h2 b.size, (b.cell (p := ⟨g, _, none⟩) h2).trans h3, (b.cell (p := ⟨g, _, none⟩) h2).trans h5⟩, za5 h4 b⟩
theorem ya3 (w : World) (a : Option Addr) : za7 w a [] := fun i n hi => by simp at hi
theorem items_drop {w : World} {b o : Nat} {Is : List Pl.It} (k : Nat) (h : za7 w (some ⟨b, o, none⟩) Is) : za7 w (some ⟨b, o + k * 2, none⟩) (Is.drop k) := fun i t hi => by
 rw [List.getElem?_drop] at hi
 obtain ⟨⟨g, o', h1, h2, h3, h5⟩, h4⟩ := h _ t hi
 cases h1
 refine ⟨⟨b, _, rfl, h2, ?_, ?_⟩, h4⟩
 ·rw [show o + k * 2 + i * 2 = o + (k + i) * 2 by omega]; exact h3
 ·rw [show o + k * 2 + i * 2 + 1 = o + (k + i) * 2 + 1 by omega]; exact h5
def shifted (a a' : Option Addr) (k : Nat) (Is : List Pl.It) : Prop := Is.drop k = [] ∨ ∃ b o, a = some ⟨b, o, none⟩ ∧ a' = some ⟨b, o + k * 2, none⟩
theorem items_shift {w : World} {a a' : Option Addr} {k : Nat} {Is : List Pl.It} (h : za7 w a Is) (hs : shifted a a' k Is) : za7 w a' (Is.drop k) := by
 rcases hs with hs | ⟨b, o, rfl, rfl⟩
 ·rw [hs]; exact ya3 _ _
 ·exact items_drop k h
theorem shifted_trans {a a' a'' : Option Addr} {k j : Nat} {Is : List Pl.It} (h : shifted a a' k Is) (h' : shifted a' a'' j (Is.drop k)) : shifted a a'' (k + j) Is := by
 rcases h' with h' | ⟨b, o, e1, e2⟩
 ·rw [List.drop_drop] at h'; exact .inl h'
 ·rcases h with h | ⟨b1, o1, e3, e4⟩
  ·left; rw [← List.drop_drop, h, List.drop_nil]
  ·rw [e4] at e1
   cases e1
   exact .inr ⟨_, o1, e3, by rw [e2]; congr 2; omega⟩
end Mem
end Go.Proofs.YtioildojmckepaaGreatDoor

