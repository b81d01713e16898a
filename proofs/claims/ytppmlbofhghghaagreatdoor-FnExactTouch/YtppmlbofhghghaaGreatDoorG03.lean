/- Several texts of one claim in one file: MemPutI, MemPutT, WCopyV, MemApp2, WCopy5, WNestJ, MemIoT, WDone7, WWords, WName. -/
import Derived.Test.YtppmlbofhghghaaGreatDoorG02
import Derived.Test.YtppmlbofhghghaaGreatDoorProg
import Derived.Deep.RegionHeld3
import Derived.Test.YtppmlbofhghghaaGreatDoorG00
import Derived.Laws.AppendOwnNone
import Derived.Test.YtppmlbofhghghaaGreatDoorG01
import Derived.WalkSpells
import Derived.Lib.OthersKept
import Derived.Laws.RangeAny
import Derived.Deep.Draws
import Derived.Deep.QuietTactic
import Derived.BigQuiet
import Derived.Laws.AppendOwn
import Derived.Deep.Cut
import Derived.WalkKit
namespace Go.Proofs.YtppmlbofhghghaaGreatDoor
open Go.RowKit
namespace Mem
theorem own_put {W : World} {S g T size n cap : Nat} {xs : List Value} (h : W.ownsRow S T size (.slice (some ⟨g, 0, none⟩) n cap) n xs) (k : Nat) (u : Value) : (W.setCell ⟨g, k, none⟩ u).ownsRow S T size (.slice (some ⟨g, 0, none⟩) n cap) n (xs.set k u) := by
 refine ⟨by rw [List.length_set]; exact h.1, ?_⟩
 rcases h.2 with ⟨e, _⟩ | ⟨g', c', cur, e, hb, hg, hc, hm, hs, ht⟩
 ·cases e
 ·cases e
  refine .inr ⟨g, cap, cur.setIfInBounds k u, rfl, hb, heap_setCell_same _ _ _ _ _ _ hg, hc, hm, by rw [Array.size_setIfInBounds]; exact hs, ?_⟩
  rw [Array.toList_setIfInBounds, List.take_set, ht]
theorem own_cell {W : World} {S g T size n cap : Nat} {xs : List Value} (h : W.ownsRow S T size (.slice (some ⟨g, 0, none⟩) n cap) n xs) {k : Nat} {u : Value} (hk : xs[k]? = some u) : W.cell? ⟨g, k, none⟩ = some u ∧ W.frozen? ⟨g, k, none⟩ = false := by
 refine ⟨?_, ?_⟩
 ·have := World.ownsRow.cells h (g := g) rfl k u hk
  rw [add_lit] at this
  exact this
 ·rcases h.2 with ⟨e, _⟩ | ⟨g', c', cur, e, hb, hg, _⟩
  ·cases e
  ·cases e
   exact zg6 hg
end Mem
namespace Pl
theorem yl8 (x : It) (Is : List It) : ze1 (x :: Is) = Value.int .i64 x.m :: x.t.val :: ze1 Is := rfl
theorem yn1 (x : It) (t : Tr) (Rs : List It) : ∀ Ds : List It, (ze1 (Ds ++ x :: Rs)).set (Ds.length * 2 + 1) t.val = ze1 (Ds ++ ⟨x.m, t⟩ :: Rs) := by
 intro Ds
 induction Ds with
 | nil => rfl
 | cons y Ds ih =>
  rw [List.cons_append, List.cons_append, yl8, yl8, List.length_cons, show (Ds.length + 1) * 2 + 1 = Ds.length * 2 + 1 + 1 + 1 by omega, List.set_cons_succ, List.set_cons_succ, ih]
theorem cellsI_many (x : It) (m : Int) (Rs : List It) : (ze1 (x :: Rs)).set 0 (.int .i64 m) = ze1 (⟨m, x.t⟩ :: Rs) := rfl
end Pl
namespace Mem
structure Cq (W : World) (S g cap : Nat) (Ds Rs : List Pl.It) : Prop where
 row : W.ownsRow S 61 2 (.slice (some ⟨g, 0, none⟩) (Ds.length + Rs.length) cap) (Ds.length + Rs.length) (Pl.ze1 (Ds ++ Rs))
 each : ∀ (i : Nat) x, Ds[i]? = some x → ownN W S x.t.val x.t.L ∧ ∀ q, x.t.val.ownBlock = some q → q ≠ g
 apart : ∀ (i j : Nat) x y, i ≠ j → Ds[i]? = some x → Ds[j]? = some y → ∀ q, x.t.val.ownBlock = some q → y.t.val.ownBlock ≠ some q
theorem Cq.call {W W' : World} {S g cap : Nat} {Ds Rs : List Pl.It} (h : Cq W S g cap Ds Rs) (b : Below W.heap.size W W') : Cq W' S g cap Ds Rs :=
 ⟨zj9 h.row b, fun i x hx => ⟨ze3 (h.each i x hx).1 b, (h.each i x hx).2⟩, h.apart⟩
theorem Cq.step {W W1 : World} {S g cap : Nat} {Ds Rs : List Pl.It} {x : Pl.It} {t : Pl.Tr} (h : Cq W S g cap Ds (x :: Rs)) (b : Below W.heap.size W W1) (hS : S ≤ W.heap.size) (ht : ownN W1 W.heap.size t.val t.L) : Cq (W1.setCell ⟨g, Ds.length * 2 + 1, none⟩ t.val) S g cap (Ds ++ [⟨x.m, t⟩]) Rs := by
 have h1 := h.call b
 have hg : g < W.heap.size := (World.ownsRow.lt h.row g rfl).2
 have hgS : S ≤ g := (World.ownsRow.lt h.row g rfl).1
 have off : ∀ {v : Value} {L : List Pl.Nd} {B : Nat}, ownN W1 B v L → (∀ q, v.ownBlock = some q → q ≠ g) → ownN (W1.setCell ⟨g, Ds.length * 2 + 1, none⟩ t.val) B v L := fun {v L B} hv hn => by
  refine ⟨hv.1, ?_⟩
  rcases hv.2 with h0 | ⟨q, c, cur, e, hb, hq, rest⟩
  ·exact .inl h0
  ·exact .inr ⟨q, c, cur, e, hb, (heap_setCell_other _ _ _ _ (hn q (by rw [e]; rfl))).trans hq, rest⟩
 have hlo : ∀ q, t.val.ownBlock = some q → W.heap.size ≤ q := fun q hq => (ze2 ht q hq).1
 refine ⟨?_, fun i y hy => ?_, fun i j y z hij hy hz q hq => ?_⟩
 ·have h2 := own_put h1.row (Ds.length * 2 + 1) t.val
  rw [Pl.yn1] at h2
  have e : (Ds ++ [(⟨x.m, t⟩ : Pl.It)]).length + Rs.length = Ds.length + (x :: Rs).length := by simp; omega
  rw [e, List.append_assoc]
  exact h2
 ·by_cases e : i < Ds.length
  ·rw [List.getElem?_append_left e] at hy
   exact ⟨off (h1.each i y hy).1 (h1.each i y hy).2, (h1.each i y hy).2⟩
  ·rw [List.getElem?_append_right (by omega)] at hy
   have e0 : i - Ds.length = 0 := by
    have := (List.getElem?_eq_some_iff.1 hy).1
    simp at this; omega
   rw [e0] at hy
   simp at hy
   subst hy
   have hn : ∀ q, t.val.ownBlock = some q → q ≠ g := fun q hq => by have := hlo q hq; omega
   exact ⟨off (zb4 ht hS) hn, hn⟩
 ·by_cases e : i < Ds.length
  ·rw [List.getElem?_append_left e] at hy
   by_cases e2 : j < Ds.length
   ·rw [List.getElem?_append_left e2] at hz
    exact h.apart i j y z hij hy hz q hq
   ·rw [List.getElem?_append_right (by omega)] at hz
    have e0 : j - Ds.length = 0 := by
     have := (List.getElem?_eq_some_iff.1 hz).1
     simp at this; omega
    rw [e0] at hz
    simp at hz
    subst hz
    intro e3
    have h5 := hlo q e3
    have h6 := (ze2 (h.each i y hy).1 q hq).2
    omega
  ·rw [List.getElem?_append_right (by omega)] at hy
   have e0 : i - Ds.length = 0 := by
    have := (List.getElem?_eq_some_iff.1 hy).1
    simp at this; omega
   rw [e0] at hy
   simp at hy
   subst hy
   have h5 := hlo q hq
   have hj : j < Ds.length := by
    have := (List.getElem?_eq_some_iff.1 hz).1
    simp at this; omega
   rw [List.getElem?_append_left hj] at hz
   intro e3
   have h6 := (ze2 (h.each j z hz).1 q e3).2
   omega
theorem Cq.done {W : World} {S g cap : Nat} {Ds : List Pl.It} (h : Cq W S g cap Ds []) : Io W S (.slice (some ⟨g, 0, none⟩) Ds.length cap) Ds := by
 have h1 := h.row
 rw [List.length_nil, Nat.add_zero, List.append_nil] at h1
 exact ⟨h1, fun i x hx => ⟨(h.each i x hx).1, fun q hq e => (h.each i x hx).2 q hq (Option.some.inj e).symm⟩, h.apart⟩
end Mem
end Go.Proofs.YtppmlbofhghghaaGreatDoor

namespace Go.Proofs.YtppmlbofhghghaaGreatDoor
open Go.RowKit
namespace zg8
theorem zn8 : (Tryz.prog.info? 47).map (fun i => (i.zero, i.size, i.bytes)) = some (some (.agg #[.string ⟨#[]⟩, .int .i64 0, .string ⟨#[]⟩, .int .i64 0, .int .i64 0]), 5, 56) := by kernel_rfl
theorem zy1 {w : World} {g o : Nat} {M : List Pl.Nd} (h : Mem.za1 w (some ⟨g, o, none⟩) M) : ∀ j u, (Pl.zc4 M)[j]? = some u → w.cell? ((⟨g, o, none⟩ : Addr).add j) = some u := by
 intro j u hj
 have hlt : j < M.length * 5 := by
  have := (List.getElem?_eq_some_iff.1 hj).1
  rwa [Pl.zj8] at this
 have hd : j / 5 < M.length := by omega
 obtain ⟨g', o', e, h0, h1, h2, h3, h4, h5⟩ := h (j / 5) M[j / 5] (List.getElem?_eq_getElem hd)
 cases e
 have hc := Pl.yb2 M (j / 5) _ (List.getElem?_eq_getElem hd) (j % 5) (by omega)
 rw [show j / 5 * 5 + j % 5 = j by omega, hj] at hc
 rw [Mem.zq]
 have hm : j % 5 = 0 ∨ j % 5 = 1 ∨ j % 5 = 2 ∨ j % 5 = 3 ∨ j % 5 = 4 := by omega
 have ej : o + j = o + j / 5 * 5 + j % 5 := by omega
 rw [ej, hc]
 rcases hm with h | h | h | h | h <;> rw [h]
 ·exact h1
 ·exact h2
 ·exact h3
 ·exact h4
 ·exact h5
theorem cells_one (M : List Pl.Nd) : ∀ u ∈ Pl.zc4 M, u.oneCell' = true := by
 intro u hu
 rw [Pl.zc4, List.mem_flatMap] at hu
 obtain ⟨n, _, hn⟩ := hu
 exact Mem.zn5 n u hn
theorem zn3 {w : World} {B m : Nat} {v : Value} {A M : List Pl.Nd} (h : w.ownsRow B 47 5 v (A.length + m) (Pl.zc4 A ++ Pl.zc4 M)) (hm : m = M.length) : Mem.ownN w B v (A ++ M) := by
 subst hm
 unfold Mem.ownN
 rw [Pl.yp4, List.length_append]; exact h
end zg8
end Go.Proofs.YtppmlbofhghghaaGreatDoor

namespace Go.Proofs.YtppmlbofhghghaaGreatDoor
open Go.RowKit
namespace Mem
def okR (a : Option Addr) (cap : Nat) (L : List Pl.Nd) : Prop := (a = none ∧ cap = 0 ∧ L = []) ∨ ∃ g o, a = some ⟨g, o, none⟩
end Mem
namespace WCopyV
set_option linter.unusedSimpArgs false in
set_option maxRecDepth 100000 in
set_option maxHeartbeats 1000000 in
theorem zx4 (a : Option Addr) (cap : Nat) (L : List Pl.Nd) (w : World) (hl : L.length ≤ 1000) (hA : Mem.okR a cap L) (hv : Mem.za1 w a L) :
  Calls Tryz.prog 64 #[.agg #[.slice a L.length cap]] w fun e w' => ∃ v, e = .returned (.agg #[v]) ∧ Mem.ownN w' w.heap.size v L ∧ Below w.heap.size w w' := by
 obtain ⟨i0, hi, hz0, hz1, hz2⟩ := info_parts zg8.zn8
 have b2 : Below w.heap.size w (((w.alloc (.cells #[.slice a L.length cap] 50)).alloc (.cells #[.slice none 0 0] 50)).alloc (.cells #[] 47)) := (((Below.refl _ _).alloc (Nat.le_refl _) _).alloc (by simp) _).alloc (by simp; omega) _
 have B0 := ((Mem.Blk.new w #[.slice a L.length cap] 50).alloc (.cells #[.slice none 0 0] 50)).alloc (.cells #[] 47)
 have B1 : Mem.Blk (((w.alloc (.cells #[.slice a L.length cap] 50)).alloc (.cells #[.slice none 0 0] 50)).alloc (.cells #[] 47)) (w.heap.size + 1) #[.slice none 0 0] 50 := (show Mem.Blk ((w.alloc (.cells #[.slice a L.length cap] 50)).alloc (.cells #[.slice none 0 0] 50)) (w.heap.size + 1) #[.slice none 0 0] 50 from Mem.zg0 _ _ _).alloc _
 have OA : Hid (Mem.ownN (((w.alloc (.cells #[.slice a L.length cap] 50)).alloc (.cells #[.slice none 0 0] 50)).alloc (.cells #[] 47)) (w.heap.size + 2) (.slice (some ⟨w.heap.size + 2, 0, none⟩) 0 0) []) := by
  refine ⟨rfl, .inr ⟨w.heap.size + 2, 0, #[], rfl, Nat.le_refl _, ?_, Nat.le_refl _, Nat.zero_le _, rfl, rfl⟩⟩
  have h := heap_alloc_new ((w.alloc (.cells #[.slice a L.length cap] 50)).alloc (.cells #[.slice none 0 0] 50)) (.cells #[] 47)
  rw [show ((w.alloc (.cells #[.slice a L.length cap] 50)).alloc (.cells #[.slice none 0 0] 50)).heap.size = w.heap.size + 2 by simp] at h
  exact h
 have NV := hide (Mem.za0 hv b2)
 have x0 := B0.cell 0
 simp only [kA0, kA1] at x0
 clear hv
 rcases hA with ⟨rfl, rfl, rfl⟩ | ⟨g, o, rfl⟩
 ·simp only [List.length_nil] at OA B1 b2 x0 ⊢
  have z0 := B1.cell 0
  have zf := B1.fr 0
  simp only [kA0, kA1] at z0
  have BB := (B1.put 0 (.slice (some ⟨w.heap.size + 2, 0, none⟩) 0 0)).cell 0
  go_enter Tryz.func64, Tryz.ntmps64
  go_wp2_with (at_builtin; refine wpList_append_own_none rfl _ _ 48 rfl (w.heap.size + 2) 47 i0 5 Tryz.underlying48 hi _ _ _ rfl (za OA) rfl ?_)
  refine bodyPost_ret (v := .agg #[.slice (some ⟨w.heap.size + 1 + 1, 0, none⟩) 0 0]) (by simp [results, Tryz.results64, go_sem, z0]) rfl ⟨_, rfl, ?_, ?_⟩
  ·refine ⟨rfl, .inr ⟨w.heap.size + 1 + 1, 0, #[], rfl, by omega, ?_, Nat.le_refl _, Nat.zero_le _, rfl, rfl⟩⟩
   have h := heap_alloc_new ((w.alloc (.cells #[.slice none 0 0] 50)).alloc (.cells #[.slice (some ⟨w.heap.size + 1 + 1, 0, none⟩) 0 0] 50)) (.cells #[] 47)
   rw [show ((w.alloc (.cells #[.slice none 0 0] 50)).alloc (.cells #[.slice (some ⟨w.heap.size + 1 + 1, 0, none⟩) 0 0] 50)).heap.size = w.heap.size + 1 + 1 by simp] at h
   exact h
  ·exact (((Below.refl _ _).alloc (Nat.le_refl _) _).alloc (by simp) _).alloc (by simp; omega) _
 ·go_enter Tryz.func64, Tryz.ntmps64
  go_wp2_with (at_builtin; refine wpList_append_own _ rfl _ _ 48 rfl (w.heap.size + 2) 47 i0 _ 5 56 Tryz.underlying48 hi hz0 hz1 hz2 rfl (by decide) _ _ _ rfl (za OA) ⟨g, o, none⟩ L.length cap (Pl.zc4 L) rfl (by rw [Pl.zj8]) (zg8.zy1 (za NV)) (zg8.cells_one _) (by rw [List.length_nil, Nat.zero_add]; unfold maxLen; omega) (by rw [List.length_nil, Nat.zero_add]; omega) (by simp) ?_)
  intro v1 wA ownA growA _
  have OB := hide (zg8.zn3 (A := []) (M := L) (m := L.length) (by rw [List.length_nil, Nat.zero_add]; exact ownA) rfl)
  rw [List.nil_append] at OB
  have hg1 : ∀ q, (Value.slice (some ⟨w.heap.size + 2, 0, none⟩) 0 0).ownBlock = some q → q = w.heap.size + 2 := fun q hq => (Option.some.inj hq).symm
  have B1 := B1.grown growA (fun e => by have := hg1 _ e.symm; omega)
  have b3 := b2.grown growA b2.size (fun q hq => by have := hg1 q hq; omega)
  obtain ⟨a3, c3, hv3⟩ := Mem.za2 (za OB)
  subst hv3
  have z0 := B1.cell 0
  have zf := B1.fr 0
  simp only [kA0, kA1] at z0
  clear ownA growA hg1 OA NV x0 B0 b2
  go_wp2
  refine bodyPost_ret (v := .agg #[.slice a3 L.length c3]) (by simp [results, Tryz.results64, go_sem, z0]) rfl ⟨_, rfl, ?_, ?_⟩
  ·exact Mem.zb4 (Mem.za8 (za OB) _ _ (by show w.heap.size + 1 < w.heap.size + 2; omega)) (by omega)
  ·exact b3.setCell (by show w.heap.size ≤ w.heap.size + 1; omega) _
end WCopyV
end Go.Proofs.YtppmlbofhghghaaGreatDoor

namespace Go.Proofs.YtppmlbofhghghaaGreatDoor
open Go.RowKit
namespace Mem
theorem yq8 {P : Program} (w : World) (base : Nat) (t ty e : TypeId) (i : TypeInfo) (z : Value) (size bytes : Nat) (ht : P.underlying t = some (.slice e)) (hi : P.info? e = some i) (hz : i.zero = some z)
  (hsize : i.size = size) (hby : i.bytes = bytes) (hzs : z.cells.size = size) (hsz : 0 < size)
  (v : Value) (n : Nat) (xs : List Value) (hown : w.ownsRow base e size v n xs)
  (a : Addr) (m c : Nat) (news : List Value) (hl : news.length = m * size) (hnews : ∀ j u, news[j]? = some u → w.cell? (a.add j) = some u) (h1 : ∀ u ∈ news, u.oneCell' = true)
  (h63 : n + m ≤ maxLen) (hbytes : (n + m) * bytes ≤ 140737488355328) (hbase : base ≤ w.heap.size) :
  ∃ v' w', (Builtin.append_ #[t, t] ty #[v, .slice (some a) m c]).run P w = .ok v' w' ∧ w'.ownsRow base e size v' (n + m) (xs ++ news) ∧ w.grownBy w' v.ownBlock ∧ ∀ g, v'.ownBlock = some g → v.ownBlock = some g ∨ w.heap.size ≤ g := by
 obtain ⟨v', w', hr, h2, h3, -⟩ := run_append_own (P := P) w base t ty e i z size bytes ht hi hz hsize hby hzs hsz v n xs hown a m c news hl hnews h1 h63 hbytes hbase
 refine ⟨v', w', hr, h2, h3, ?_⟩
 rcases hown.2 with ⟨rfl, rfl⟩ | ⟨g, cap, cur, rfl, hbg, hg, hnc, hcm, hcs, htake⟩
 ·have hx : xs = [] := List.eq_nil_of_length_eq_zero (by simpa using hown.1)
  subst hx
  obtain ⟨v2, w2, hr2, k2, -, -⟩ := run_append_own (P := P) w w.heap.size t ty e i z size bytes ht hi hz hsize hby hzs hsz _ 0 [] (World.ownsRow_nil w w.heap.size e size) a m c news hl hnews h1 h63 hbytes (Nat.le_refl _)
  rw [hr] at hr2
  cases hr2
  exact fun g hg => .inr (k2.lt g hg).1
 ·subst hsize hby
  by_cases hroom : n + m ≤ cap
  ·have hfit : n * i.size + news.length ≤ cur.size := by rw [hl, hcs, ← Nat.add_mul]; exact Nat.mul_le_mul_right _ hroom
   rw [run_append_room (P := P) w t ty e i ht hi g n cap cur hg a m c news hl hnews h1 hroom hfit] at hr
   cases hr
   exact fun g hg => .inl hg
  ·have holds : ∀ j u, xs[j]? = some u → w.cell? ((⟨g, 0, none⟩ : Addr).add j) = some u := hown.cells (g := g) rfl
   have hsmall : n + m ≤ 9223372036854775807 := by simp only [maxLen] at h63; omega
   rw [run_append_grow (P := P) w t ty e i z ht hi hz ⟨g, 0, none⟩ n cap xs hown.1 holds a m c news hl hnews (by omega) (by omega) (growslice_fits (by omega) hbytes)] at hr
   cases hr
   intro g' hg'
   cases hg'
   exact .inr (Nat.le_refl _)
theorem ze6 {P : Program} (w : World) {ops : Array Oper} {rest : List Oper} {o : Oper} {a : Act} {Q : Exit → Act → World → Prop} (hgd : o.guard = none) (s x : Operand) (t : TypeId)
  (ho : o.op = .call { callee := .builtin .append, args := #[s, x], argTypes := #[t, t] })
  (base : Nat) (e : TypeId) (i : TypeInfo) (z : Value) (size bytes : Nat) (ht : P.underlying t = some (.slice e)) (hi : P.info? e = some i) (hz : i.zero = some z)
  (hsize : i.size = size) (hby : i.bytes = bytes) (hzs : z.cells.size = size) (hsz : 0 < size)
  (v : Value) (n : Nat) (xs : List Value) (hs : a.eval s = v) (hown : w.ownsRow base e size v n xs)
  (ad : Addr) (m c : Nat) (news : List Value) (hx : a.eval x = .slice (some ad) m c) (hl : news.length = m * size) (hnews : ∀ j u, news[j]? = some u → w.cell? (ad.add j) = some u) (h1 : ∀ u ∈ news, u.oneCell' = true)
  (h63 : n + m ≤ maxLen) (hbytes : (n + m) * bytes ≤ 140737488355328) (hbase : base ≤ w.heap.size)
  (h : ∀ v' w', w'.ownsRow base e size v' (n + m) (xs ++ news) → w.grownBy w' v.ownBlock → (∀ g, v'.ownBlock = some g → v.ownBlock = some g ∨ w.heap.size ≤ g) → wpList P ops Q rest (a.put o.dst v') w') : wpList P ops Q (o :: rest) a w :=
 wpList_plain hgd fun _ hK => by
  obtain ⟨v', w', hr, h2, h3, h4⟩ := yq8 (P := P) w base t o.type e i z size bytes ht hi hz hsize hby hzs hsz v n xs hown ad m c news hl hnews h1 h63 hbytes hbase
  unfold Oper.wp execOp
  simp only [ho, resolve, invoke, builtin, Sem.run_bind, Sem.run_pure, Result.andThen_ok, List.map_toArray, List.map_cons, List.map_nil, hs, hx, hr]
  exact hK _ _ (h v' w' h2 h3 h4)
end Mem
end Go.Proofs.YtppmlbofhghghaaGreatDoor

namespace Go.Proofs.YtppmlbofhghghaaGreatDoor
open Go.RowKit
namespace Mem
theorem items_cells {w : World} {b o : Nat} {Is : List Pl.It} (h : zb3 w (some ⟨b, o, none⟩) Is) : ∀ j u, (Pl.ze1 Is)[j]? = some u → w.cell? ((⟨b, o, none⟩ : Addr).add j) = some u := by
 intro j u hj
 have hlt := (List.getElem?_eq_some_iff.1 hj).1
 rw [Pl.yj0] at hlt
 have ea : (⟨b, o, none⟩ : Addr).add j = ⟨b, o + j, none⟩ := by unfold Addr.add; split <;> simp_all
 rw [ea]
 obtain ⟨x, hx⟩ : ∃ x, Is[j / 2]? = some x := ⟨_, List.getElem?_eq_getElem (by omega)⟩
 obtain ⟨⟨b', o', e, hb, q0, q1⟩, -⟩ := h (j / 2) x hx
 cases e
 obtain ⟨c0, c1⟩ := Pl.zv1 Is (j / 2) x hx
 rcases Nat.mod_two_eq_zero_or_one j with hm | hm
 ·have e1 : j = j / 2 * 2 := by omega
  rw [← e1] at c0 q0
  rw [c0] at hj
  cases hj
  exact q0
 ·have e1 : j = j / 2 * 2 + 1 := by omega
  rw [← e1] at c1
  rw [show o + j / 2 * 2 + 1 = o + j by omega] at q1
  rw [c1] at hj
  cases hj
  exact q1
end Mem
namespace WCopy5
theorem infoI : (Tryz.prog.info? 61).map (fun i => (i.zero, i.size, i.bytes)) = some (some (.agg #[.int .i64 0, .slice none 0 0]), 2, 32) := by kernel_rfl
set_option linter.unusedSimpArgs false in
set_option maxRecDepth 100000 in
set_option maxHeartbeats 1000000 in
theorem zx4 (b o cap : Nat) (Is : List Pl.It) (hl : Is.length ≤ 12) (h0 : Is.length ≠ 0) (hL : ∀ x ∈ Is, x.t.L.length ≤ 1000) (hR : ∀ x ∈ Is, Mem.okR x.t.a x.t.cap x.t.L) (w : World) (hv : Mem.zb3 w (some ⟨b, o, none⟩) Is) :
  Calls Tryz.prog 63 #[.slice (some ⟨b, o, none⟩) Is.length cap] w fun e w' => ∃ g cap' Ds, e = .returned (.slice (some ⟨g, 0, none⟩) Is.length cap') ∧ w.heap.size ≤ g ∧ Mem.Io w' w.heap.size (.slice (some ⟨g, 0, none⟩) Is.length cap') Ds ∧ Ds.map Pl.It.r = Is.map Pl.It.r ∧ Below w.heap.size w w' := by
 obtain ⟨i0, hi, hz0, hz1, hz2⟩ := info_parts infoI
 have b0 : Below w.heap.size w (w.alloc (.cells #[] 61)) := (Below.refl _ _).alloc (Nat.le_refl _) _
 have O0 : Hid ((w.alloc (.cells #[] 61)).ownsRow w.heap.size 61 2 (.slice (some ⟨w.heap.size, 0, none⟩) 0 0) 0 []) := ⟨rfl, .inr ⟨w.heap.size, 0, #[], rfl, Nat.le_refl _, heap_alloc_new _ _, Nat.le_refl _, Nat.zero_le _, rfl, rfl⟩⟩
 have HC := hide (Mem.items_cells (Mem.za6 hv b0))
 have HCP := hide (fun (x : Pl.It) (j : Nat) (hx : Is[j]? = some x) W (bb : Below w.heap.size w W) => WCopyV.zx4 x.t.a x.t.cap x.t.L W (hL x (List.mem_of_getElem? hx)) (hR x (List.mem_of_getElem? hx)) (Mem.za0 (hv j x hx).2 bb))
 clear hv hL hR
 go_enter Tryz.func63, Tryz.ntmps63
 go_wp2_with (at_builtin; refine Mem.ze6 _ rfl _ _ 24 rfl w.heap.size 61 i0 (.agg #[.int .i64 0, .slice none 0 0]) 2 32 Tryz.underlying24 hi hz0 hz1 hz2 rfl (by decide) _ _ _ rfl (za O0) ⟨b, o, none⟩ Is.length cap (Pl.ze1 Is) rfl (Pl.yj0 Is) (za HC) (Pl.yo3 Is) (by unfold maxLen; omega) (by omega) (by simp) ?_)
 intro v1 w1 own1 gr1 far1
 have hsh : ∃ g cap', v1 = .slice (some ⟨g, 0, none⟩) Is.length cap' := by
  rcases own1.2 with ⟨e, hz⟩ | ⟨g, c, cur, e, rest⟩
  ·exact absurd hz h0
  ·exact ⟨g, c, e⟩
 obtain ⟨g, cap', rfl⟩ := hsh
 have hg := World.ownsRow.lt own1 g rfl
 have bw1 := b0.grown gr1 (by simp) (fun q hq => by cases hq; exact Nat.le_refl _)
 have CQ : Hid (Mem.Cq w1 w.heap.size g cap' [] (Is.drop ([] : List Pl.It).length)) := hide ⟨by simpa using own1, fun i x hx => (by cases hx), fun i j x y _ hx => (by cases hx)⟩
 have DM : Hid (([] : List Pl.It).map Pl.It.r = (Is.take ([] : List Pl.It).length).map Pl.It.r) := rfl
 have HGW := hide hg.1
 clear own1 gr1 far1 O0 HC b0 hg
 go_wp2
 go_loopw [4] (fun i wr => ∃ Ds : List Pl.It, i = .int .i64 (Ds.length : Int) ∧ Ds.length ≤ Is.length ∧ Below w.heap.size w wr ∧ Hid (Mem.Cq wr w.heap.size g cap' Ds (Is.drop Ds.length)) ∧ Hid (Ds.map Pl.It.r = (Is.take Ds.length).map Pl.It.r)) (fun i _ => Is.length - (intOf i).toNat)
 case atStart => exact ⟨[], rfl, Nat.zero_le _, bw1, CQ, DM⟩
 case round =>
  obtain ⟨Ds, rfl, hD, hbel, HQ, HM⟩ := hrel
  clear CQ DM bw1
  by_cases hlt : Ds.length < Is.length
  ·obtain ⟨x, hx⟩ : ∃ x, Is[Ds.length]? = some x := ⟨_, List.getElem?_eq_getElem hlt⟩
   have hdr : Is.drop Ds.length = x :: Is.drop (Ds.length + 1) := by
    rw [List.drop_eq_getElem_cons hlt]
    congr 1
    exact Option.some.inj ((List.getElem?_eq_getElem hlt).symm.trans hx)
   rw [hdr] at HQ
   have u1 : (Ds.length : Int) < (Is.length : Int) := by omega
   have u3 : (0 : Int) ≤ (Ds.length : Int) := by omega
   obtain ⟨ce, -⟩ := Mem.own_cell (za HQ).row (k := Ds.length * 2 + 1) (u := x.t.val) (Pl.zv1 _ Ds.length x (by rw [List.getElem?_append_right (Nat.le_refl _), Nat.sub_self]; rfl)).2
   simp only [Pl.Tr.val] at ce
   have hcp := hide (za HCP x Ds.length hx wr hbel)
   have hS := hbel.size
   have HST := hide (fun W1 b t ht => (za HQ).step (W1 := W1) (t := t) b hS ht)
   have HQ2 := hide (fun W1 (b : Below wr.heap.size wr W1) => (Mem.own_cell ((za HQ).call b).row (k := Ds.length * 2 + 1) (u := x.t.val) (Pl.zv1 _ Ds.length x (by rw [List.getElem?_append_right (Nat.le_refl _), Nat.sub_self]; rfl)).2))
   have HMX : Hid ((Is.take (Ds.length + 1)).map Pl.It.r = (Is.take Ds.length).map Pl.It.r ++ [x.r]) := hide (by rw [List.take_add_one, hx, List.map_append]; rfl)
   clear hdr hx HQ
   go_wp2_with fail
   refine (za hcp).mono ?_
   rintro e w2 ⟨v2, rfl, own2, b2⟩
   obtain ⟨a2, c2, rfl⟩ := Mem.za2 own2
   obtain ⟨ce2, cf2⟩ := za HQ2 w2 b2
   have Q3 := hide (za HST w2 b2 ⟨a2, c2, x.t.L⟩ own2)
   have bw2 := hbel.trans (b2.mono hbel.size)
   have HB := hide (bw2.setCell (p := ⟨g, Ds.length * 2 + 1, none⟩) (za HGW) (.slice a2 x.t.L.length c2))
   have HM3 : Hid ((Ds ++ [(⟨x.m, ⟨a2, c2, x.t.L⟩⟩ : Pl.It)]).map Pl.It.r = (Is.take (Ds.length + 1)).map Pl.It.r) := hide (by rw [List.map_append, za HM, za HMX]; rfl)
   simp only [Pl.Tr.val] at ce2 Q3
   clear hcp HST HQ2 HMX HM own2 b2 bw2 ce hbel
   go_wp2
   go_roundw
   case rel =>
    refine ⟨Ds ++ [⟨x.m, ⟨a2, c2, x.t.L⟩⟩], ?_, ?_, za HB, ?_, ?_⟩
    ·rw [List.length_append, List.length_singleton]; go_num
    ·rw [List.length_append, List.length_singleton]; omega
    ·rw [List.length_append, List.length_singleton]; exact Q3
    ·rw [List.length_append, List.length_singleton]; exact HM3
   case measure => simp [intOf]; omega
  ·have u1 : ¬ (Ds.length : Int) < (Is.length : Int) := by omega
   have hDe : Ds.length = Is.length := by omega
   have IO : Hid (Mem.Io wr w.heap.size (.slice (some ⟨g, 0, none⟩) Is.length cap') Ds) := hide (by
    have h1 := za HQ
    rw [hDe, List.drop_length] at h1
    have h2 := h1.done
    rw [hDe] at h2
    exact h2)
   have HM3 : Hid (Ds.map Pl.It.r = Is.map Pl.It.r) := hide (by have := za HM; rw [hDe, List.take_length] at this; exact this)
   clear HQ HM hDe
   go_wp2
   go_ret
   exact ⟨g, cap', rfl, za HGW, Ds, za IO, za HM3, hbel⟩
end WCopy5
end Go.Proofs.YtppmlbofhghghaaGreatDoor

namespace Go.Proofs.YtppmlbofhghghaaGreatDoor
open Go.RowKit
namespace zs5
theorem many_at {Is : List Pl.It} {j m : Nat} (h : (Pl.rowO (Is.map Pl.It.r))[j]? = some (some m)) : ∃ x, Is[j]? = some x ∧ x.m = (m : Int) := by
 rw [Pl.rowO, List.getElem?_map, List.getElem?_map] at h
 cases hx : Is[j]? with
 | none => rw [hx] at h; simp at h
 | some x =>
  rw [hx] at h
  simp at h
  exact ⟨x, rfl, (Pl.yn4 h).1⟩
set_option linter.unusedSimpArgs false in
set_option maxRecDepth 100000 in
set_option maxHeartbeats 1000000 in
theorem zq1 (a : Option Addr) (cap : Nat) (Is : List Pl.It) (hl : Is.length ≤ 12) (w : World) (hv : Mem.zb3 w a Is) (k : Pl.Fo) (hN : Pl.nest (Pl.rowO (Is.map Pl.It.r)) = some k) :
  Calls Tryz.prog 32 #[.slice a Is.length cap] w fun e w' => e = .returned (.int .i64 (k.level : Int)) ∧ w' = w := by
 obtain ⟨hA, hB⟩ := Pl.yp3 hN
 have HA := hide hA
 obtain ⟨x, hx, hxm⟩ := many_at hB
 have hkl : k.level < Is.length := (List.getElem?_eq_some_iff.1 hx).1
 obtain ⟨⟨b, o, rfl, hb, q0, -⟩, -⟩ := hv _ x hx
 rw [hxm] at q0
 have HQ := hide q0
 have HV := hide hv
 clear hA hB hN hv q0 hx hxm
 go_enter Tryz.func32, Tryz.ntmps32
 go_wp2
 go_loopw [3] (fun i wr => ∃ j : Nat, i = .int .i64 (j : Int) ∧ j ≤ k.level ∧ wr = w) (fun i _ => k.level - (intOf i).toNat)
 case atStart => exact ⟨0, rfl, Nat.zero_le _, rfl⟩
 case round =>
  obtain ⟨j, rfl, hj, rfl⟩ := hrel
  have u3 : (0 : Int) ≤ (j : Int) := by omega
  have u4 : (j : Int) < (Is.length : Int) := by omega
  by_cases hlt : j < k.level
  ·obtain ⟨m, hm⟩ := za HA j hlt
   obtain ⟨y, hy, hym⟩ := many_at hm
   obtain ⟨⟨b2, o2, e2, hb2, c0, -⟩, -⟩ := za HV j y hy
   cases e2
   rw [hym] at c0
   have u5 : (0 : Int) < ((m + 1 : Nat) : Int) := by omega
   clear hm hy hym HA HV HQ
   go_wp2
   go_roundw
   case rel => exact ⟨j + 1, by go_num, by omega, trivial⟩
   case measure => simp [intOf]; omega
  ·have hjl : j = k.level := by omega
   subst hjl
   have c0 := za HQ
   clear HA HV HQ
   go_wp2
   go_ret
   exact ⟨rfl, rfl⟩
end zs5
end Go.Proofs.YtppmlbofhghghaaGreatDoor

namespace Go.Proofs.YtppmlbofhghghaaGreatDoor
open Go.RowKit
namespace Pl
theorem cellsI_set {Ds : List It} {k : Nat} {x : It} (t : Tr) (h : Ds[k]? = some x) : (ze1 Ds).set (k * 2 + 1) t.val = ze1 (Ds.set k ⟨x.m, t⟩) := by
 obtain ⟨hk, hx⟩ := List.getElem?_eq_some_iff.1 h
 have e : Ds = Ds.take k ++ x :: Ds.drop (k + 1) := by rw [← hx, List.getElem_cons_drop, List.take_append_drop]
 have hl : (Ds.take k).length = k := by rw [List.length_take]; omega
 have e2 : Ds.set k ⟨x.m, t⟩ = Ds.take k ++ ⟨x.m, t⟩ :: Ds.drop (k + 1) := by
  rw [List.set_eq_take_append_cons_drop, if_pos hk]
 rw [e2, ← yn1 x t (Ds.drop (k + 1)) (Ds.take k), ← e, hl]
end Pl
namespace Mem
theorem Io.tree {W : World} {S B g n cap k : Nat} {Ds : List Pl.It} {x : Pl.It} {t : Pl.Tr} (h : Io W S (.slice (some ⟨g, 0, none⟩) n cap) Ds) (hk : Ds[k]? = some x) (ht : ownN W B t.val t.L) (hS : S ≤ B) (hg : g < B) (hb : ∀ (i : Nat) y, Ds[i]? = some y → ∀ q, y.t.val.ownBlock = some q → q < B) :
  Io (W.setCell ⟨g, k * 2 + 1, none⟩ t.val) S (.slice (some ⟨g, 0, none⟩) n cap) (Ds.set k ⟨x.m, t⟩) := by
 have off : ∀ {v : Value} {L : List Pl.Nd} {B : Nat}, ownN W B v L → (∀ q, v.ownBlock = some q → q ≠ g) → ownN (W.setCell ⟨g, k * 2 + 1, none⟩ t.val) B v L := fun {v L B} hv hn => by
  refine ⟨hv.1, ?_⟩
  rcases hv.2 with h0 | ⟨q, c, cur, e, hb, hq, rest⟩
  ·exact .inl h0
  ·exact .inr ⟨q, c, cur, e, hb, (heap_setCell_other _ _ _ _ (hn q (by rw [e]; rfl))).trans hq, rest⟩
 have hlo : ∀ q, t.val.ownBlock = some q → B ≤ q := fun q hq => (ze2 ht q hq).1
 refine ⟨?_, fun i y hy => ?_, fun i j y z hij hy hz q hq => ?_⟩
 ·have hn : n = Ds.length := (Io.items h).1
  subst hn
  have h2 := own_put h.row (k * 2 + 1) t.val
  rw [Pl.cellsI_set t hk] at h2
  rw [List.length_set]
  exact h2
 ·rcases zm0 hk hy with ⟨rfl, rfl⟩ | ⟨hne, hy⟩
  ·exact ⟨zb4 (off ht (fun q hq e => by have := hlo q hq; omega)) hS, fun q hq e => by have := hlo q hq; have e2 : g = q := Option.some.inj e; omega⟩
  ·exact ⟨off (h.each i y hy).1 (fun q hq e => (h.each i y hy).2 q hq (by rw [e]; rfl)), (h.each i y hy).2⟩
 ·rcases zm0 hk hy with ⟨e1, e2⟩ | ⟨hne, hy2⟩
  ·rcases zm0 hk hz with ⟨e3, e4⟩ | ⟨hne2, hz2⟩
   ·exact absurd (e1.trans e3.symm) hij
   ·intro e; subst e2; have := hlo q hq; have := hb j z hz2 q e; omega
  ·rcases zm0 hk hz with ⟨e3, e4⟩ | ⟨hne2, hz2⟩
   ·intro e; subst e4; have := hlo q e; have := hb i y hy2 q hq; omega
   ·exact h.apart i j y z hij hy2 hz2 q hq
end Mem
end Go.Proofs.YtppmlbofhghghaaGreatDoor

namespace Go.Proofs.YtppmlbofhghghaaGreatDoor
open Go.RowKit
namespace zh3
def Outs (w w' : World) (c : Int) (I : List (Int × List Pl.Nd)) (e : Ending) : Prop := ∃ v Js, e = .returned (.agg #[v, .int .i64 c]) ∧ Mem.Io w' w.heap.size v Js ∧ Js.map Pl.It.r = I
set_option maxRecDepth 100000 in
theorem zc1 (c : Int) (w : World) :
  Calls Tryz.prog 27 #[.int .i64 c] w fun e w' => e = .returned (.agg #[.slice none 0 0, .int .i64 c]) ∧ Below w.heap.size w w' := by
 go_enter Tryz.func27, Tryz.ntmps27
 go_wp2
 refine bodyPost_ret (v := .agg #[.slice none 0 0, .int .i64 c]) (by simp [results, Tryz.results27, go_sem]) rfl ⟨rfl, ?_⟩
 exact (Below.refl _ _).alloc (Nat.le_refl _) _
set_option linter.unusedSimpArgs false in
set_option maxRecDepth 100000 in
set_option maxHeartbeats 2000000 in
theorem yj1 (b o cap : Nat) (Is : List Pl.It) (a : Option Addr) (ct : Nat) (O : List Pl.Nd) (k : Pl.Fo) (w : World) (hv : Mem.zb3 w (some ⟨b, o, none⟩) Is) (hl : Is.length ≤ 12) (hN : Pl.nest (Pl.rowO (Is.map Pl.It.r)) = some k) (hL : ∀ x ∈ Is, x.t.L.length ≤ 1000) (hR : ∀ x ∈ Is, Mem.okR x.t.a x.t.cap x.t.L) (hO : O.length ≤ 1000) (hA : Mem.okR a ct O) (hn : Mem.za1 w a O) :
  Calls Tryz.prog 29 #[.slice (some ⟨b, o, none⟩) Is.length cap, .agg #[.slice a O.length ct]] w fun e w' => Outs w w' (if 40 < O.length then 9 else 0) (if 40 < O.length then [] else (Is.map Pl.It.r).set k.level ((0 : Int), O)) e ∧ Below w.heap.size w w' := by
 have b0 : Below w.heap.size w ((w.alloc (.cells #[.slice a O.length ct] 50)).alloc (.cells #[.slice none 0 0, .int .i64 0] 26)) := ((Below.refl _ _).alloc (Nat.le_refl _) _).alloc (by simp) _
 have T0 : Mem.Blk ((w.alloc (.cells #[.slice a O.length ct] 50)).alloc (.cells #[.slice none 0 0, .int .i64 0] 26)) w.heap.size #[.slice a O.length ct] 50 := (Mem.Blk.new _ _ _).alloc _
 have R0 : Mem.Blk ((w.alloc (.cells #[.slice a O.length ct] 50)).alloc (.cells #[.slice none 0 0, .int .i64 0] 26)) (w.heap.size + 1) #[.slice none 0 0, .int .i64 0] 26 := by
  have h := Mem.Blk.new (w.alloc (.cells #[.slice a O.length ct] 50)) #[.slice none 0 0, .int .i64 0] 26
  simpa using h
 by_cases h40 : 40 < O.length
 ·rw [if_pos h40, if_pos h40]
  have t0 : (40 : Int) < (O.length : Int) := by omega
  have c0 := T0.cell 0
  simp only [kA0, kA1] at c0
  clear hv hL hR hA hn hN T0
  go_enter Tryz.func29, Tryz.ntmps29
  go_wp2_with fail
  refine (zc1 9 _).mono ?_
  rintro e w1 ⟨rfl, b1⟩
  have bw1 := b0.trans (b1.mono b0.size)
  have R1 := R0.call b1
  have d0 := R1.cell 0
  have d1 := R1.cell 1
  have f0 := R1.fr 0
  have f1 := R1.fr 1
  simp only [kA0, kA1, kA2] at d0 d1
  go_wp2
  refine bodyPost_ret (v := .agg #[.slice none 0 0, .int .i64 9]) (by simp [results, Tryz.results29, go_sem, d0, d1]) rfl ⟨⟨_, [], rfl, Mem.Io.nil _ _, rfl⟩, ?_⟩
  exact (bw1.setCell (by show w.heap.size ≤ w.heap.size + 1; omega) _).setCell (by show w.heap.size ≤ w.heap.size + 1; omega) _
 rw [if_neg h40, if_neg h40]
 have t0 : ¬ (40 : Int) < (O.length : Int) := by omega
 obtain ⟨-, hB⟩ := Pl.yp3 hN
 obtain ⟨y, hy, hy0⟩ := zs5.many_at hB
 have hkl : k.level < Is.length := (List.getElem?_eq_some_iff.1 hy).1
 have h0 : Is.length ≠ 0 := by omega
 have hix : 0 ≤ (k.level : Int) ∧ (k.level : Int) < (Is.length : Int) := by omega
 have HCP := hide (fun W (bb : Below w.heap.size w W) => WCopy5.zx4 b o cap Is hl h0 hL hR W (Mem.za6 hv bb))
 have HFI := hide (fun W (bb : Below w.heap.size w W) => zs5.zq1 (some ⟨b, o, none⟩) cap Is hl W (Mem.za6 hv bb) k hN)
 have HCO := hide (fun W (bb : Below w.heap.size w W) => WCopyV.zx4 a ct O W hO hA (Mem.za0 hn bb))
 have hs0 : ((w.alloc (.cells #[.slice a O.length ct] 50)).alloc (.cells #[.slice none 0 0, .int .i64 0] 26)).heap.size = w.heap.size + 1 + 1 := by simp
 have HKX : Hid (Is[k.level]? = some y ∧ y.m = 0) := ⟨hy, hy0⟩
 have c0 := T0.cell 0
 simp only [kA0, kA1] at c0
 clear hv hL hR hA hn hN hy hy0 hB
 go_enter Tryz.func29, Tryz.ntmps29
 go_wp2_with fail
 refine (za HCP _ b0).mono ?_
 rintro e w1 ⟨g, cap', Ds, rfl, hg1, hio, hds, b1⟩
 have bw1 := b0.trans (b1.mono b0.size)
 have QB := hide (⟨T0.call b1, R0.call b1⟩ : Mem.Blk w1 w.heap.size #[.slice a O.length ct] 50 ∧ Mem.Blk w1 (w.heap.size + 1) #[.slice none 0 0, .int .i64 0] 26)
 rw [hs0] at hio
 have IO := hide hio
 obtain ⟨x, hxk, hx0⟩ : ∃ x, Ds[k.level]? = some x ∧ x.m = 0 := by
  obtain ⟨hy, hy0⟩ := za HKX
  have h1 : (Ds.map Pl.It.r)[k.level]? = some y.r := by rw [hds, List.getElem?_map, hy]; rfl
  rw [List.getElem?_map] at h1
  obtain ⟨x, h2, h3⟩ := Option.map_eq_some_iff.1 h1
  exact ⟨x, h2, (congrArg Prod.fst h3).trans hy0⟩
 have hDs := hide hds
 clear hio hds T0 R0 b0 b1 HCP HKX c0 hg1
 go_upto_region 4 with fail
 have bd : Below w1.heap.size w1 w1.drew := ⟨rfl, rfl, rfl, Nat.le_refl _, fun _ _ => rfl⟩
 have QD := hide (⟨(za QB).1.call bd, (za QB).2.call bd⟩ : Mem.Blk w1.drew w.heap.size #[.slice a O.length ct] 50 ∧ Mem.Blk w1.drew (w.heap.size + 1) #[.slice none 0 0, .int .i64 0] 26)
 have BD := bw1.trans (bd.mono bw1.size)
 have ID := (za IO).call bd
 clear bd
 refine wp_region_held_drew (S := fun W' => W'.cell? ⟨w.heap.size, 0, none⟩ = some (.slice a O.length ct)) (by kernel_rfl) ?_ (fun hHeld => ?_)
 ·have h := (za QD).1.cell 0; simpa using h
 generalize w1.drew = WD at hHeld QD BD ID ⊢
 have IO := hide ID
 clear QB ID bw1
 refine tka (i := 0) rfl ?_
 try simp only [Act.put, kBs]
 refine tka (i := 1) rfl ?_
 try simp only [Act.put, kBs]
 refine tka (i := 3) rfl ?_
 try simp only [Act.put, kBs]
 refine wpAnyH_ready (rs := [2]) (by kernel_rfl) (by simp) ?_
 refine AllReadyH.cons rfl (fun K hK => ?_) AllReadyH.nil
 go_simp
 refine (za HFI _ BD).mono ?_
 rintro e wX ⟨rfl, hwX⟩
 subst wX
 refine hK.out _ _ ?_ (fun hHeld2 => ?_)
 ·assumption
 clear hK K hHeld
 have hHeld := hHeld2
 clear hHeld2 HFI
 try simp only [Act.put, kBs]
 refine wpAnyH_ready (rs := [4]) (by kernel_rfl) (by simp) ?_
 refine AllReadyH.cons rfl (fun K hK => ?_) AllReadyH.nil
 go_simp
 refine (za HCO _ BD).mono ?_
 rintro e wY ⟨v, rfl, own, b2⟩
 obtain ⟨a', c', rfl⟩ := Mem.za2 own
 have Q2 := hide (⟨(za QD).1.call b2, (za QD).2.call b2⟩ : Mem.Blk wY w.heap.size #[.slice a O.length ct] 50 ∧ Mem.Blk wY (w.heap.size + 1) #[.slice none 0 0, .int .i64 0] 26)
 have IO2 := hide ((za IO).call b2)
 have hlt := (za IO).lt
 have hWD := (za QD).2.lt
 have bw2 := BD.trans (b2.mono BD.size)
 refine hK.out _ _ ?_ (fun hHeld2 => ?_)
 ·have h := (za Q2).1.cell 0; simpa using h
 clear hK K hHeld QD IO b2 HCO
 have hHeld := hHeld2
 clear hHeld2
 try simp only [Act.put, kBs]
 refine tka (i := 5) rfl ?_
 try simp only [Act.put, kBs]
 refine tka (i := 6) rfl ?_
 try simp only [Act.put, kBs]
 obtain ⟨cOld, fOld⟩ := Mem.own_cell (show wY.ownsRow (w.heap.size + 1 + 1) 61 2 (.slice (some ⟨g, 0, none⟩) Is.length cap') Is.length (Pl.ze1 Ds) by have h := (za IO2).row; rw [← (za IO2).items.1] at h; exact h) (k := k.level * 2 + 1) (Pl.zv1 Ds k.level x hxk).2
 refine wpAnyH_ready (rs := [7]) (by kernel_rfl) (by simp) ?_
 refine AllReadyH.cons rfl (fun K hK => ?_) AllReadyH.nil
 go_simp
 have IO3 := hide ((za IO2).tree (t := ⟨a', c', O⟩) hxk own (by omega) (hlt.1 g rfl).2 (fun i y hy q hq => (hlt.2 i y hy q hq).2))
 have bw3 := bw2.setCell (p := ⟨g, k.level * 2 + 1, none⟩) (by have := (hlt.1 g rfl).1; show w.heap.size ≤ g; omega) (.slice a' O.length c')
 have Q3 := (za Q2).2.far ⟨g, k.level * 2 + 1, none⟩ (.slice a' O.length c') (by have := (hlt.1 g rfl).1; show w.heap.size + 1 ≠ g; omega)
 have Q4 := (za Q2).1.far ⟨g, k.level * 2 + 1, none⟩ (.slice a' O.length c') (by have := (hlt.1 g rfl).1; show w.heap.size ≠ g; omega)
 refine hK.out _ _ ?_ (fun hHeld2 => ?_)
 ·have h := Q4.cell 0; simpa using h
 clear hK K hHeld hHeld2 Q2 IO2 bw2 own cOld fOld Q4
 refine wpAnyH_done (by kernel_rfl) ?_ _
 have d0 := Q3.cell 0
 have d1 := Q3.cell 1
 have f0 := Q3.fr 0
 have f1 := Q3.fr 1
 simp only [kA0, kA1, kA2] at d0 d1
 go_wp2
 refine bodyPost_ret (v := .agg #[.slice (some ⟨g, 0, none⟩) Is.length cap', .int .i64 0]) (by simp [results, Tryz.results29, go_sem, d0, d1]) rfl ⟨⟨_, _, rfl, (((za IO3).set _ _ (by show w.heap.size + 1 < w.heap.size + 1 + 1; omega)).set _ _ (by show w.heap.size + 1 < w.heap.size + 1 + 1; omega)).mono (by omega), ?_⟩, ?_⟩
 ·rw [List.map_set, za hDs, show Pl.It.r ⟨x.m, ⟨a', c', O⟩⟩ = ((0 : Int), O) by rw [show Pl.It.r ⟨x.m, ⟨a', c', O⟩⟩ = (x.m, O) from rfl, hx0]]
 ·exact (bw3.setCell (by show w.heap.size ≤ w.heap.size + 1; omega) _).setCell (by show w.heap.size ≤ w.heap.size + 1; omega) _
end zh3
end Go.Proofs.YtppmlbofhghghaaGreatDoor

namespace Go.Proofs.YtppmlbofhghghaaGreatDoor
open Go.RowKit
namespace Pl
theorem get_ge (s : ByteArray) (k : Nat) (h : k < s.size) : s.get! k = s[k] := by
  simp [ByteArray.get!, getElem!_pos, h]; rfl
theorem rune_other (s : ByteArray) (pos : Nat) (h : pos < s.size) (hb : s[pos].toNat ≠ 47) :
    ((Utf8.decode s pos).1 ≠ 47) ∧ 1 ≤ (Utf8.decode s pos).2 ∧ pos + (Utf8.decode s pos).2 ≤ s.size ∧ ∀ j (hj : j < s.size), pos ≤ j → j < pos + (Utf8.decode s pos).2 → s[j].toNat ≠ 47 := by
  by_cases ha : s[pos].toNat < 128
  · rw [decode_ascii s pos h ha]
    refine ⟨hb, Nat.le_refl _, h, fun j hj h1 h2 => ?_⟩
    obtain rfl : j = pos := by simp at h2; omega
    exact hb
  · have hh := decode_high s pos h (by omega)
    refine ⟨by omega, hh.2, ?_⟩
    have hg := get_ge s
    have key : pos + (Utf8.decode s pos).2 ≤ s.size ∧ ∀ k, 1 ≤ k → k < (Utf8.decode s pos).2 → (s.get! (pos + k)).toNat / 64 = 2 := by
      have h0 : s.get! (pos + 0) = s[pos] := hg pos h
      simp only [Utf8.decode, h0, ha, if_false]
      repeat' split
      all_goals simp_all
      all_goals first
        | omega
        | (refine ⟨by omega, fun k h1 h2 => ?_⟩
           rcases (show k = 1 ∨ k = 2 ∨ k = 3 by omega) with rfl | rfl | rfl <;> first | omega | (simp_all; done))
    refine ⟨key.1, fun j hj h1 h2 => ?_⟩
    by_cases he : j = pos
    · subst he; exact hb
    · have := key.2 (j - pos) (by omega) (by omega)
      rw [Nat.add_sub_cancel' h1, hg j hj] at this
      omega
theorem cutF_over {s : ByteArray} {fr : Nat} : ∀ n k, k + n ≤ s.size → (∀ j (hj : j < s.size), k ≤ j → j < k + n → s[j].toNat ≠ 47) → cutF s 47 (s.size - k) fr k = cutF s 47 (s.size - (k + n)) fr (k + n) := by
  intro n
  induction n with
  | zero => intro k _ _; rfl
  | succ n ih =>
    intro k hk h
    have hlt : k < s.size := by omega
    have hf : s.size - k = s.size - (k + 1) + 1 := by omega
    rw [hf, yk9 hlt (h k hlt (Nat.le_refl _) (by omega)), ih (k + 1) (by omega) (fun j hj h1 h2 => h j hj (by omega) (by omega))]
    have e : k + 1 + n = k + (n + 1) := by omega
    rw [e]
end Pl
namespace Mem
theorem own_iterAt {w : World} {B e size n : Nat} {v : Value} {xs : List Value} {k : Nat} {s : ByteArray} {pos : Nat} (h : w.ownsRow B e size v n xs) (hk : w.heap[k]? = some (.stringIter s pos)) (pos' : Nat) : (w.iterAt k s pos').ownsRow B e size v n xs := by
  refine ⟨h.1, ?_⟩
  rcases h.2 with h0 | ⟨g, cap, cur, hv, hb, hg, rest⟩
  · exact .inl h0
  · refine .inr ⟨g, cap, cur, hv, hb, ?_, rest⟩
    rw [Lib.iterAt_other _ _ _ _ _ (fun e => by subst e; rw [hk] at hg; cases hg)]
    exact hg
theorem own_no_iter {w : World} {B e size n : Nat} {v : Value} {xs : List Value} {k : Nat} {s : ByteArray} {pos : Nat} (h : w.ownsRow B e size v n xs) (hk : w.heap[k]? = some (.stringIter s pos)) : some k ≠ v.ownBlock := by
  rcases h.2 with ⟨rfl, _⟩ | ⟨g, cap, cur, rfl, hb, hg, rest⟩
  · simp [Value.ownBlock]
  · intro e
    simp only [Value.ownBlock, Option.some.injEq] at e
    subst e
    rw [hk] at hg
    cases hg
end Mem
namespace WWords
theorem infoS : (Tryz.prog.info? 9).map (fun i => (i.zero, i.size, i.bytes)) = some (some (.string ⟨#[]⟩), 1, 16) := by kernel_rfl

set_option maxRecDepth 100000 in
set_option maxHeartbeats 400000 in
theorem any (s : ByteArray) (w : World) (hs : s.size ≤ 1048576) :
    Calls Tryz.prog 153 #[.string s] w fun e w' => ∃ v, e = .returned v ∧
      w'.ownsRow w.heap.size 9 1 v (Pl.cut s 47).length ((Pl.cut s 47).map Value.string) ∧ Below w.heap.size w w' := by
  obtain ⟨i0, hi, hz0, hz1, hz2⟩ := info_parts infoS
  go_enter Tryz.func153, Tryz.ntmps153
  go_wp2
  go_loopw [3, 4] (fun v x wr => ∃ (pos fr : Nat) (L : List ByteArray), pos ≤ s.size ∧ fr ≤ pos ∧ L.length ≤ pos ∧ x = .int .i64 (fr : Int) ∧
      wr.ownsRow w.heap.size 9 1 v L.length (L.map Value.string) ∧ wr.heap[w.heap.size + 1]? = some (.stringIter s pos) ∧ Below w.heap.size w wr ∧ Hid (Pl.cut s 47 = L ++ Pl.cutF s 47 (s.size - pos) fr pos)) (fun _ _ wr => s.size - wr.iterPos (w.heap.size + 1))
  case atStart =>
    refine ⟨0, 0, [], by omega, by omega, by simp, rfl, (World.ownsRow_made _ _ 0 (Nat.le_refl _) (Nat.zero_le _) rfl).alloc _, ?_, ((Below.refl _ _).alloc (Nat.le_refl _) _).alloc (by simp) _, rfl⟩
    have := World.iter_heap (w.alloc (.cells #[] 9)) s 0
    simpa using this
  case round =>
    obtain ⟨pos, fr, L, hk, hfr, hL, rfl, hown, hit, hbel, H⟩ := hrel
    have hb1 := hbel.size
    have hsz : w.heap.size + 1 < wr.heap.size := (Array.getElem?_eq_some_iff.1 hit).1
    have hip : wr.iterPos (w.heap.size + 1) = pos := by simp only [World.iterPos, hit]
    by_cases hlt : pos < s.size
    · by_cases hq : s[pos].toNat = 47
      · have ha : s[pos].toNat < 128 := by omega
        have hnx : ∀ ty, (Instr.next (.pointer (some ⟨w.heap.size + 1, 0, none⟩)) true ty).run Tryz.prog wr = .ok (.tuple #[.bool true, .int .i64 pos, .int .i32 47]) (wr.iterAt (w.heap.size + 1) s (pos + 1)) := fun ty => by
          rw [Lib.run_next_ascii_at wr (w.heap.size + 1) s pos ty hit hlt ha, hq]; rfl
        have hf : s.size - pos = s.size - (pos + 1) + 1 := by omega
        have H2 : Hid (Pl.cut s 47 = (L ++ [s.extract fr pos]) ++ Pl.cutF s 47 (s.size - (pos + 1)) (pos + 1) (pos + 1)) := by
          show _ = _
          rw [H.out, hf, Pl.cutF_hit hlt hq]; simp
        have hown2 := Mem.own_iterAt hown hit (pos + 1)
        have hit2 := Lib.iterAt_heap wr (w.heap.size + 1) s pos (pos + 1) hit
        have hbel2 := Lib.below_iterAt hbel (k := w.heap.size + 1) (by omega) s (pos + 1)
        have hsz2 : Hid ((wr.iterAt (w.heap.size + 1) s (pos + 1)).heap.size = wr.heap.size) := Lib.iterAt_size _ _ _ _
        have hne := Mem.own_no_iter hown2 hit2
        generalize wr.iterAt (w.heap.size + 1) s (pos + 1) = w1 at hnx hown2 hit2 hbel2 hsz2
        have t1 : (0 : Int) ≤ (fr : Int) := by omega
        have t2 : (fr : Int) ≤ (pos : Int) := by omega
        have t3 : (pos : Int) ≤ (s.size : Int) := by omega
        clear H hf hq hown hit hbel ha
        go_wp2_with (at_builtin; refine wpList_append_own _ rfl _ _ 92 rfl w.heap.size 9 i0 (.string ⟨#[]⟩) 1 16 Tryz.underlying92 hi hz0 hz1 hz2 rfl (by decide) _ _ _ rfl (hown2.alloc _) ⟨w1.heap.size, 0, none⟩ 1 1 [.string (s.extract fr pos)] rfl rfl ?c1 ?c2 ?c3 ?c4 ?c5 ?_)
        case c1 => exact Mem.zh7 _ _ _
        case c2 => intro u hu; simp at hu; subst hu; rfl
        case c3 => unfold maxLen; omega
        case c4 => omega
        case c5 => have := hsz2.out; simp; omega
        · intro v' w2 hown' hgrow _
          have hsz2 := hsz2.out
          have hbel' := Mem.zl8 hbel2 (Nat.le_refl _) hown2 hgrow
          have hown3 : w2.ownsRow w.heap.size 9 1 v' (L ++ [s.extract fr pos]).length ((L ++ [s.extract fr pos]).map Value.string) := by simpa using hown'
          have hit3 : w2.heap[w.heap.size + 1]? = some (.stringIter s (pos + 1)) :=
            (hgrow.block (w.heap.size + 1) (by simp; omega) hne).trans ((Below.heap_alloc _ _ _ (by omega)).trans hit2)
          have hip3 : w2.iterPos (w.heap.size + 1) = pos + 1 := by simp only [World.iterPos, hit3]
          clear hgrow hown2 hbel2 hown' hnx hit2
          go_wp2
          go_roundw
          case rel => exact ⟨pos + 1, pos + 1, L ++ [s.extract fr pos], by omega, by omega, by simp; omega, by go_num, hown3, hit3, hbel', H2⟩
          case measure => rw [hip3, hip]; omega
      · obtain ⟨r1, r2, r3, r4⟩ := Pl.rune_other s pos hlt hq
        have hnx : ∀ ty, (Instr.next (.pointer (some ⟨w.heap.size + 1, 0, none⟩)) true ty).run Tryz.prog wr = .ok (.tuple #[.bool true, .int .i64 pos, .int .i32 (Utf8.decode s pos).1]) (wr.iterAt (w.heap.size + 1) s (pos + (Utf8.decode s pos).2)) := fun ty =>
          Lib.run_next_any_at wr (w.heap.size + 1) s pos ty hit hlt
        have H2 : Hid (Pl.cut s 47 = L ++ Pl.cutF s 47 (s.size - (pos + (Utf8.decode s pos).2)) fr (pos + (Utf8.decode s pos).2)) := by
          show _ = _
          rw [H.out, Pl.cutF_over _ pos r3 r4]
        have hown2 := Mem.own_iterAt hown hit (pos + (Utf8.decode s pos).2)
        have hit2 := Lib.iterAt_heap wr (w.heap.size + 1) s pos (pos + (Utf8.decode s pos).2) hit
        have hbel2 := Lib.below_iterAt hbel (k := w.heap.size + 1) (by omega) s (pos + (Utf8.decode s pos).2)
        have hip2 : (wr.iterAt (w.heap.size + 1) s (pos + (Utf8.decode s pos).2)).iterPos (w.heap.size + 1) = pos + (Utf8.decode s pos).2 := by simp only [World.iterPos, hit2]
        have t4 : (((Utf8.decode s pos).1 : Int) == 47) = false := by rw [beq_eq_false_iff_ne]; omega
        generalize hD : (Utf8.decode s pos).2 = n at *
        generalize (Utf8.decode s pos).1 = r at *
        generalize wr.iterAt (w.heap.size + 1) s (pos + n) = w1 at *
        clear H hq hown hit hbel r4 hD r1
        go_wp2
        go_roundw
        case rel => exact ⟨pos + n, fr, L, r3, by omega, by omega, rfl, hown2, hit2, hbel2, H2⟩
        case measure => rw [hip2, hip]; omega
    · obtain rfl : pos = s.size := by omega
      have hnx : ∀ ty, (Instr.next (.pointer (some ⟨w.heap.size + 1, 0, none⟩)) true ty).run Tryz.prog wr = .ok (.tuple #[.bool false]) wr := fun ty => Lib.run_next_end_at wr (w.heap.size + 1) s s.size ty hit hlt
      have H2 : Hid (Pl.cut s 47 = L ++ [s.extract fr s.size]) := by
        show _ = _
        rw [H.out, Nat.sub_self]; rfl
      have t1 : (0 : Int) ≤ (fr : Int) := by omega
      have t2 : (fr : Int) ≤ (s.size : Int) := by omega
      clear H
      go_wp2_with (at_builtin; refine wpList_append_own _ rfl _ _ 92 rfl w.heap.size 9 i0 (.string ⟨#[]⟩) 1 16 Tryz.underlying92 hi hz0 hz1 hz2 rfl (by decide) _ _ _ rfl (hown.alloc _) ⟨wr.heap.size, 0, none⟩ 1 1 [.string (s.extract fr s.size)] rfl rfl ?c1 ?c2 ?c3 ?c4 ?c5 ?_)
      case c1 => exact Mem.zh7 _ _ _
      case c2 => intro u hu; simp at hu; subst hu; rfl
      case c3 => unfold maxLen; omega
      case c4 => omega
      case c5 => simp; omega
      · intro v' w2 hown' hgrow _
        have hbel' := Mem.zl8 hbel (Nat.le_refl _) hown hgrow
        have hown2 : w2.ownsRow w.heap.size 9 1 v' (Pl.cut s 47).length ((Pl.cut s 47).map Value.string) := by rw [H2.out]; simpa using hown'
        clear hgrow hown hbel hown'
        go_wp2
        go_ret
        exact ⟨_, rfl, hown2, hbel'⟩
end WWords
end Go.Proofs.YtppmlbofhghghaaGreatDoor

namespace Go.Proofs.YtppmlbofhghghaaGreatDoor
open Go.RowKit
namespace WName

set_option maxHeartbeats 400000 in
theorem zm3 (s : ByteArray) (w : World) (hs : s.size ≤ maxLen) :
  Calls Tryz.prog 129 #[.string s] w fun e w' => e = .returned (.bool (Pl.ze5 s)) ∧ w' = w := by
 unfold maxLen at hs
 by_cases h1 : s.size < 1
 ·have e0 := hide (Pl.ym5 h1)
  go_enter Tryz.func129, Tryz.ntmps129
  go_wp2
  go_ret
  exact ⟨za4 (za e0).symm, rfl⟩
 by_cases h2 : 20 < s.size
 ·have e0 := hide (Pl.yb7 h2)
  go_enter Tryz.func129, Tryz.ntmps129
  go_wp2
  go_ret
  exact ⟨za4 (za e0).symm, rfl⟩
 go_enter Tryz.func129, Tryz.ntmps129
 go_wp2
 go_loop [3] (fun i => ∃ k : Nat, k ≤ s.size ∧ i = .int .i64 k ∧ Hid (∀ j, j < k → Pl.okAt j ((s.data.toList.getD j 0).toNat))) (fun i => s.size - (intOf i).toNat)
 case atStart => exact ⟨0, Nat.zero_le _, rfl, fun j hj => absurd hj (by omega)⟩
 case round =>
  obtain ⟨k, hk, rfl, hok⟩ := hrel
  by_cases hlt : k < s.size
  ·by_cases hk0 : k = 0
   ·subst hk0
    have okc : ∀ n : Nat, Pl.okAt 0 n ↔ (97 ≤ n ∧ n ≤ 122) := fun n => by unfold Pl.okAt; omega
    have OK := hide okc
    clear okc
    rcases Pl.kinds (s[0].toNat : Int) with ⟨a1, a2⟩ | ⟨a1, a2, a3, a4⟩ | ⟨a1, a2, a3, a4⟩ | ⟨a1, a2, a3, a4⟩ | ⟨a1, a2, a3⟩ | ⟨a1, a2, a3, a4, a5⟩
    ·go_wp2
     go_round
     case rel => exact ⟨1, by omega, rfl, Pl.yg4 hok.out hlt ((za OK _).2 (by omega))⟩
     case measure => simp [intOf]; omega
    all_goals
     go_wp2
     go_ret
     exact ⟨za4 (Pl.zz6 0 hlt (by rw [za OK]; omega)).symm, rfl⟩
   ·have hkb : ((k : Int) == 0) = false := by simp; omega
    have okc : ∀ n : Nat, Pl.okAt k n ↔ (97 ≤ n ∧ n ≤ 122) ∨ (48 ≤ n ∧ n ≤ 57) ∨ n = 95 := fun n => by unfold Pl.okAt; omega
    have OK := hide okc
    clear okc
    rcases Pl.kinds (s[k].toNat : Int) with ⟨a1, a2⟩ | ⟨a1, a2, a3, a4⟩ | ⟨a1, a2, a3, a4⟩ | ⟨a1, a2, a3, a4⟩ | ⟨a1, a2, a3⟩ | ⟨a1, a2, a3, a4, a5⟩
    ·go_wp2
     go_round
     case rel => exact ⟨k + 1, by omega, by go_num, Pl.yg4 hok.out hlt ((za OK _).2 (by omega))⟩
     case measure => simp [intOf]; omega
    ·go_wp2
     go_round
     case rel => exact ⟨k + 1, by omega, by go_num, Pl.yg4 hok.out hlt ((za OK _).2 (by omega))⟩
     case measure => simp [intOf]; omega
    ·go_wp2
     go_ret
     exact ⟨za4 (Pl.zz6 k hlt (by rw [za OK]; simp at a4; omega)).symm, rfl⟩
    ·go_wp2
     go_round
     case rel => exact ⟨k + 1, by omega, by go_num, Pl.yg4 hok.out hlt ((za OK _).2 (by simp at a4; omega))⟩
     case measure => simp [intOf]; omega
    all_goals
     go_wp2
     go_ret
     exact ⟨za4 (Pl.zz6 k hlt (by rw [za OK]; omega)).symm, rfl⟩
  ·have e0 : Pl.ze5 s = true := Pl.yn7 h1 h2 (fun j hj => hok.out j (by omega))
   have E0 := hide e0
   clear e0
   go_wp2
   go_ret
   exact ⟨za4 (za E0).symm, rfl⟩

set_option maxHeartbeats 400000 in
theorem zn0 (s : ByteArray) (w : World) (hs : s.size ≤ maxLen) :
  Calls Tryz.prog 154 #[.string s] w fun e w' => e = .returned (.bool (Pl.ze5 s)) ∧ w' = w := by
 unfold maxLen at hs
 by_cases h1 : s.size < 1
 ·have e0 := hide (Pl.ym5 h1)
  go_enter Tryz.func154, Tryz.ntmps154
  go_wp2
  go_ret
  exact ⟨za4 (za e0).symm, rfl⟩
 by_cases h2 : 20 < s.size
 ·have e0 := hide (Pl.yb7 h2)
  go_enter Tryz.func154, Tryz.ntmps154
  go_wp2
  go_ret
  exact ⟨za4 (za e0).symm, rfl⟩
 have hp : 0 < s.size := by omega
 by_cases hl : 97 ≤ (s[0].toNat : Int) ∧ (s[0].toNat : Int) ≤ 122
 ·obtain ⟨l1, l2⟩ := hl
  have H0 : Hid (Pl.okAt 0 s[0].toNat) := Or.inl (by omega)
  go_enter Tryz.func154, Tryz.ntmps154
  go_wp2
  go_loop [21] (fun i => ∃ k : Nat, k ≤ s.size ∧ i = .int .i64 k ∧ Hid (∀ j, j < k → Pl.okAt j ((s.data.toList.getD j 0).toNat))) (fun i => s.size - (intOf i).toNat)
  case atStart => exact ⟨0, Nat.zero_le _, rfl, fun j hj => absurd hj (by omega)⟩
  case round =>
   obtain ⟨k, hk, rfl, hok⟩ := hrel
   by_cases hlt : k < s.size
   ·have hstep : Hid ((97 ≤ s[k].toNat ∧ s[k].toNat ≤ 122) ∨ (48 ≤ s[k].toNat ∧ s[k].toNat ≤ 57) ∨ s[k].toNat = 95 → ∀ j, j < k + 1 → Pl.okAt j ((s.data.toList.getD j 0).toNat)) := by
     intro ho
     refine Pl.yg4 hok.out hlt ?_
     by_cases hk0 : k = 0
     ·subst hk0; exact H0
     ·unfold Pl.okAt; omega
    have hbad : Hid (¬ ((97 ≤ s[k].toNat ∧ s[k].toNat ≤ 122) ∨ (48 ≤ s[k].toNat ∧ s[k].toNat ≤ 57) ∨ s[k].toNat = 95) → Pl.ze5 s = false) := by
     intro hn
     exact Pl.zz6 k hlt (by unfold Pl.okAt; omega)
    clear l1 l2 H0 hok
    rcases Pl.kinds (s[k].toNat : Int) with ⟨a1, a2⟩ | ⟨a1, a2, a3, a4⟩ | ⟨a1, a2, a3, a4⟩ | ⟨a1, a2, a3, a4⟩ | ⟨a1, a2, a3⟩ | ⟨a1, a2, a3, a4, a5⟩
    ·go_wp2
     go_round
     case rel => exact ⟨k + 1, by omega, by go_num, hstep.out (by omega)⟩
     case measure => simp [intOf]; omega
    ·go_wp2
     go_round
     case rel => exact ⟨k + 1, by omega, by go_num, hstep.out (by omega)⟩
     case measure => simp [intOf]; omega
    ·go_wp2
     go_ret
     exact ⟨za4 (hbad.out (by simp at a4; omega)).symm, rfl⟩
    ·go_wp2
     go_round
     case rel => exact ⟨k + 1, by omega, by go_num, hstep.out (by simp at a4; omega)⟩
     case measure => simp [intOf]; omega
    all_goals
     go_wp2
     go_ret
     exact ⟨za4 (hbad.out (by omega)).symm, rfl⟩
   ·have e0 : Pl.ze5 s = true := Pl.yn7 h1 h2 (fun j hj => hok.out j (by omega))
    have E0 := hide e0
    clear e0
    go_wp2
    go_ret
    exact ⟨za4 (za E0).symm, rfl⟩
 ·have e0 : Pl.ze5 s = false := Pl.zz6 0 hp (by unfold Pl.okAt; omega)
  have E0 := hide e0
  clear e0
  by_cases g1 : 97 ≤ (s[0].toNat : Int)
  ·have g2 : ¬ (s[0].toNat : Int) ≤ 122 := by omega
   clear hl
   go_enter Tryz.func154, Tryz.ntmps154
   go_wp2
   go_ret
   exact ⟨za4 (za E0).symm, rfl⟩
  ·clear hl
   go_enter Tryz.func154, Tryz.ntmps154
   go_wp2
   go_ret
   exact ⟨za4 (za E0).symm, rfl⟩
end WName
end Go.Proofs.YtppmlbofhghghaaGreatDoor

