/- Several texts of one claim in one file: MemTrees, MemApp2, WDrawLk. -/
import Derived.Test.YtmohbgmbknfaiaaGreatDoorG04
import Derived.Test.YtmohbgmbknfaiaaGreatDoorG01
import Derived.Test.YtmohbgmbknfaiaaGreatDoorWDrawTr
/- A row of trees in memory. -/
namespace Go.Proofs.YtmohbgmbknfaiaaGreatDoor
open Go.RowKit
namespace Pl
/-- A tree as it lies: where its nodes are, how much room they have, and what they are. -/
structure Tr where
  a : Option Addr
  cap : Nat
  L : List Nd
def Tr.val (t : Tr) : Value := .slice t.a t.L.length t.cap
/-- Right layers: one to four, each a right tree. -/
def layB (Ts : List (List Nd)) : Bool := decide (1 ≤ Ts.length) && decide (Ts.length ≤ 4) && Ts.all treeB
end Pl
namespace Mem
def isTrees (w : World) (a : Option Addr) (Ts : List Pl.Tr) : Prop :=
  ∀ (i : Nat) t, Ts[i]? = some t → (∃ b o, a = some ⟨b, o, none⟩ ∧ b < w.heap.size ∧ w.cell? ⟨b, o + i, none⟩ = some t.val) ∧ isNodes w t.a t.L
theorem trees_call {w w' : World} {a : Option Addr} {Ts : List Pl.Tr} (h : isTrees w a Ts) (b : Below w.heap.size w w') : isTrees w' a Ts := fun i t hi => by
  obtain ⟨⟨g, o, h1, h2, h3⟩, h4⟩ := h i t hi
  exact ⟨⟨g, o, h1, Nat.lt_of_lt_of_le h2 b.size, (b.cell (p := ⟨g, _, none⟩) h2).trans h3⟩, nodes_call h4 b⟩
theorem trees_nil (w : World) (a : Option Addr) : isTrees w a [] := fun i n hi => by simp at hi
end Mem
end Go.Proofs.YtmohbgmbknfaiaaGreatDoor

/- An append to a row of the call's own: it stays in its block, or lies in a new one. -/
namespace Go.Proofs.YtmohbgmbknfaiaaGreatDoor
open Go.RowKit
namespace Mem
theorem run_append_far {P : Program} (w : World) (base : Nat) (t ty e : TypeId) (i : TypeInfo) (z : Value) (size bytes : Nat) (ht : P.underlying t = some (.slice e)) (hi : P.info? e = some i) (hz : i.zero = some z)
    (hsize : i.size = size) (hby : i.bytes = bytes) (hzs : z.cells.size = size) (hsz : 0 < size)
    (v : Value) (n : Nat) (xs : List Value) (hown : w.ownsRow base e size v n xs)
    (a : Addr) (m c : Nat) (news : List Value) (hl : news.length = m * size) (hnews : ∀ j u, news[j]? = some u → w.cell? (a.add j) = some u) (h1 : ∀ u ∈ news, u.oneCell' = true)
    (h63 : n + m ≤ maxLen) (hbytes : (n + m) * bytes ≤ 140737488355328) (hbase : base ≤ w.heap.size) :
    ∃ v' w', (Builtin.append_ #[t, t] ty #[v, .slice (some a) m c]).run P w = .ok v' w' ∧ w'.ownsRow base e size v' (n + m) (xs ++ news) ∧ w.grownBy w' v.ownBlock ∧ ∀ g, v'.ownBlock = some g → v.ownBlock = some g ∨ w.heap.size ≤ g := by
  obtain ⟨v', w', hr, h2, h3, -⟩ := run_append_own (P := P) w base t ty e i z size bytes ht hi hz hsize hby hzs hsz v n xs hown a m c news hl hnews h1 h63 hbytes hbase
  refine ⟨v', w', hr, h2, h3, ?_⟩
  rcases hown.2 with ⟨rfl, rfl⟩ | ⟨g, cap, cur, rfl, hbg, hg, hnc, hcm, hcs, htake⟩
  · have hx : xs = [] := List.eq_nil_of_length_eq_zero (by simpa using hown.1)
    subst hx
    obtain ⟨v2, w2, hr2, k2, -, -⟩ := run_append_own (P := P) w w.heap.size t ty e i z size bytes ht hi hz hsize hby hzs hsz _ 0 [] (World.ownsRow_nil w w.heap.size e size) a m c news hl hnews h1 h63 hbytes (Nat.le_refl _)
    rw [hr] at hr2
    cases hr2
    exact fun g hg => .inr (k2.lt g hg).1
  · subst hsize hby
    by_cases hroom : n + m ≤ cap
    · have hfit : n * i.size + news.length ≤ cur.size := by rw [hl, hcs, ← Nat.add_mul]; exact Nat.mul_le_mul_right _ hroom
      rw [run_append_room (P := P) w t ty e i ht hi g n cap cur hg a m c news hl hnews h1 hroom hfit] at hr
      cases hr
      exact fun g hg => .inl hg
    · have holds : ∀ j u, xs[j]? = some u → w.cell? ((⟨g, 0, none⟩ : Addr).add j) = some u := hown.cells (g := g) rfl
      have hsmall : n + m ≤ 9223372036854775807 := by simp only [maxLen] at h63; omega
      rw [run_append_grow (P := P) w t ty e i z ht hi hz ⟨g, 0, none⟩ n cap xs hown.1 holds a m c news hl hnews (by omega) (by omega) (growslice_fits (by omega) hbytes)] at hr
      cases hr
      intro g' hg'
      cases hg'
      exact .inr (Nat.le_refl _)
theorem wpList_append_far {P : Program} (w : World) {ops : Array Oper} {rest : List Oper} {o : Oper} {a : Act} {Q : Exit → Act → World → Prop} (hgd : o.guard = none) (s x : Operand) (t : TypeId)
    (ho : o.op = .call { callee := .builtin .append, args := #[s, x], argTypes := #[t, t] })
    (base : Nat) (e : TypeId) (i : TypeInfo) (z : Value) (size bytes : Nat) (ht : P.underlying t = some (.slice e)) (hi : P.info? e = some i) (hz : i.zero = some z)
    (hsize : i.size = size) (hby : i.bytes = bytes) (hzs : z.cells.size = size) (hsz : 0 < size)
    (v : Value) (n : Nat) (xs : List Value) (hs : a.eval s = v) (hown : w.ownsRow base e size v n xs)
    (ad : Addr) (m c : Nat) (news : List Value) (hx : a.eval x = .slice (some ad) m c) (hl : news.length = m * size) (hnews : ∀ j u, news[j]? = some u → w.cell? (ad.add j) = some u) (h1 : ∀ u ∈ news, u.oneCell' = true)
    (h63 : n + m ≤ maxLen) (hbytes : (n + m) * bytes ≤ 140737488355328) (hbase : base ≤ w.heap.size)
    (h : ∀ v' w', w'.ownsRow base e size v' (n + m) (xs ++ news) → w.grownBy w' v.ownBlock → (∀ g, v'.ownBlock = some g → v.ownBlock = some g ∨ w.heap.size ≤ g) → wpList P ops Q rest (a.put o.dst v') w') : wpList P ops Q (o :: rest) a w :=
  wpList_plain hgd fun _ hK => by
    obtain ⟨v', w', hr, h2, h3, h4⟩ := run_append_far (P := P) w base t o.type e i z size bytes ht hi hz hsize hby hzs hsz v n xs hown ad m c news hl hnews h1 h63 hbytes hbase
    unfold Oper.wp execOp
    simp only [ho, resolve, invoke, builtin, Sem.run_bind, Sem.run_pure, Result.andThen_ok, List.map_toArray, List.map_cons, List.map_nil, hs, hx, hr]
    exact hK _ _ (h v' w' h2 h3 h4)
end Mem
end Go.Proofs.YtmohbgmbknfaiaaGreatDoor

/- What the draw of layers keeps; what drawn layers are. -/
namespace Go.Proofs.YtmohbgmbknfaiaaGreatDoor
open Go.RowKit
namespace WSrc
theorem TreeV.far {W W' : World} {B cap : Nat} {a : Option Addr} {L : List Pl.Nd} {r : Option Nat} (h : TreeV W B a cap L) (g : W.grownBy W' r) (hr : ∀ g o, a = some ⟨g, o, none⟩ → r ≠ some g) : TreeV W' B a cap L := by
  refine ⟨?_, WPutG.okA_call h.2.1 g.size, h.2.2⟩
  rcases h.2.1 with ⟨rfl, rfl, rfl⟩ | ⟨b, o, rfl, h2, h3⟩
  · exact Mem.nodes_nil _ _
  · exact Mem.nodes_grown h.1 g (fun e => hr b o rfl e.symm)
theorem TreeV.blk {W : World} {B cap : Nat} {a : Option Addr} {L : List Pl.Nd} (h : TreeV W B a cap L) : ∀ g o, a = some ⟨g, o, none⟩ → g < W.heap.size := by
  intro g o e
  rcases h.2.1 with ⟨rfl, _⟩ | ⟨b, o', rfl, h2, _⟩
  · cases e
  · cases e; exact h2
/-- A tree that was drawn into a list. -/
structure Dt (W : World) (B : Nat) (v : Value) (t : Pl.Tr) : Prop where
  tree : TreeV W B t.a t.cap t.L
  len : t.L.length ≤ 64
  ok : Pl.smallL t.L
  apart : ∀ g o, t.a = some ⟨g, o, none⟩ → v.ownBlock ≠ some g
def rowT (W : World) (B : Nat) (v : Value) (Ts : List Pl.Tr) : Prop := W.ownsRow B 29 1 v Ts.length (Ts.map Pl.Tr.val)
theorem row_far {w w' : World} {B e size n : Nat} {v : Value} {xs : List Value} {r : Option Nat} (h : w.ownsRow B e size v n xs) (hg : w.grownBy w' r) (hr : ∀ g, v.ownBlock = some g → some g ≠ r) : w'.ownsRow B e size v n xs := by
  refine ⟨h.1, ?_⟩
  rcases h.2 with h0 | ⟨g, cap, cur, rfl, hb, hh, rest⟩
  · exact .inl h0
  · exact .inr ⟨g, cap, cur, rfl, hb, (hg.block g (Array.getElem?_eq_some_iff.1 hh).1 (hr g rfl)).trans hh, rest⟩
/-- What the draw of layers keeps. -/
structure Lk (w W : World) (S : Nat) (a : Option Addr) (len cap : Nat) (v : Value) (Ts : List Pl.Tr) : Prop where
  lo : S < w.heap.size
  src : Src W S a len cap
  gr : w.grownBy W (some S)
  two : Mem.Blk W w.heap.size #[.slice none 0 0] 25
  one : Mem.Blk W (w.heap.size + 1) #[v] 25
  own : rowT W (w.heap.size + 2) v Ts
  each : ∀ t ∈ Ts, Dt W (w.heap.size + 2) v t
theorem Lk.lt {w W : World} {S len cap : Nat} {a : Option Addr} {v : Value} {Ts : List Pl.Tr} (h : Lk w W S a len cap v Ts) : w.heap.size + 2 ≤ W.heap.size := h.one.lt
theorem Lk.call {w W W' : World} {S len cap : Nat} {a : Option Addr} {v : Value} {Ts : List Pl.Tr} (h : Lk w W S a len cap v Ts) (s : Src W' S a len cap) (g : W.grownBy W' (some S)) : Lk w W' S a len cap v Ts :=
  have l := h.lo
  ⟨h.lo, s, h.gr.trans g, h.two.grown g (by simp; omega), h.one.grown g (by simp; omega), row_far h.own g (fun q hq e => by cases e; have := (World.ownsRow.lt h.own _ hq).1; omega), fun t ht => ⟨(h.each t ht).tree.grown g (fun q hq => by cases hq; omega), (h.each t ht).len, (h.each t ht).ok, (h.each t ht).apart⟩⟩
theorem Lk.below {w W W' : World} {S len cap : Nat} {a : Option Addr} {v : Value} {Ts : List Pl.Tr} (h : Lk w W S a len cap v Ts) (b : Below W.heap.size W W') : Lk w W' S a len cap v Ts := h.call (src_below h.src b) (below_grown b _)
theorem Lk.alloc {w W : World} {S len cap : Nat} {a : Option Addr} {v : Value} {Ts : List Pl.Tr} (h : Lk w W S a len cap v Ts) (o : Obj) : Lk w (W.alloc o) S a len cap v Ts := h.below ((Below.refl _ _).alloc (Nat.le_refl _) o)
theorem Lk.drew {w W : World} {S len cap : Nat} {a : Option Addr} {v : Value} {Ts : List Pl.Tr} (h : Lk w W S a len cap v Ts) : Lk w W.drew S a len cap v Ts := ⟨h.lo, h.src, grown_drew h.gr, h.two, h.one, h.own, fun t ht => ⟨(h.each t ht).tree, (h.each t ht).len, (h.each t ht).ok, (h.each t ht).apart⟩⟩
/-- One tree more. -/
theorem Lk.app {w W W' : World} {S len cap : Nat} {a : Option Addr} {v v' : Value} {Ts : List Pl.Tr} {t : Pl.Tr} (h : Lk w W S a len cap v Ts) (gr : W.grownBy W' v.ownBlock) (own' : rowT W' (w.heap.size + 2) v' (Ts ++ [t])) (far : ∀ g, v'.ownBlock = some g → v.ownBlock = some g ∨ W.heap.size ≤ g) (ht : Dt W (w.heap.size + 2) v t) :
    Lk w (W'.setCell ⟨w.heap.size + 1, 0, none⟩ v') S a len cap v' (Ts ++ [t]) := by
  have l := h.lo
  have hv : ∀ q, v.ownBlock = some q → w.heap.size + 2 ≤ q := fun q hq => (World.ownsRow.lt h.own q hq).1
  have hs := h.src
  refine ⟨h.lo, src_put ?_ 0 _ (by omega), grown_put ?_ 0 _ (by omega), (h.two.grown gr (fun e => by have := hv _ e.symm; omega)).far _ _ (by show w.heap.size ≠ w.heap.size + 1; omega), (h.one.grown gr (fun e => by have := hv _ e.symm; omega)).put 0 v', ?_, fun t' ht' => ?_⟩
  · obtain ⟨hr, p, m, sz, hb, hp, h0, h1⟩ := hs
    have hS : S < W.heap.size := (Array.getElem?_eq_some_iff.1 hb).1
    refine ⟨⟨hr.1, hr.2.1, fun i hi => ?_⟩, p, m, sz, (gr.block S hS (fun e => by have := hv _ e.symm; omega)).trans hb, hp, h0, h1⟩
    obtain ⟨b, o, n, e1, e2, e3, e4⟩ := hr.2.2 i hi
    exact ⟨b, o, n, e1, e2, e3, (cell_heap (gr.block b (by omega) (fun e => by have := hv _ e.symm; omega))).trans e4⟩
  · exact ⟨gr.os.trans h.gr.os, gr.tape.trans h.gr.tape, gr.output.trans h.gr.output, Nat.le_trans h.gr.size gr.size, fun j hj hne => (gr.block j (Nat.lt_of_lt_of_le hj h.gr.size) (fun e => by have := hv _ e.symm; omega)).trans (h.gr.block j hj hne)⟩
  · refine ⟨own'.1, ?_⟩
    rcases own'.2 with h0 | ⟨g, c', cur, e, hb, hg, rest⟩
    · exact .inl h0
    · exact .inr ⟨g, c', cur, e, hb, (heap_setCell_other W' ⟨w.heap.size + 1, 0, none⟩ g v' (by show g ≠ w.heap.size + 1; omega)).trans hg, rest⟩
  · have hd : Dt W (w.heap.size + 2) v t' := by
      rcases List.mem_append.1 ht' with h1 | h1
      · exact h.each t' h1
      · simp at h1; rw [h1]; exact ht
    refine ⟨(hd.tree.far gr (fun g o e => hd.apart g o e)).set _ _ _ (by omega), hd.len, hd.ok, fun g o e e2 => ?_⟩
    rcases far g e2 with h1 | h1
    · exact hd.apart g o e h1
    · have := hd.tree.blk g o e; omega
/-- No tree at all. -/
theorem Lk.gone {w W : World} {S len cap : Nat} {a : Option Addr} {v : Value} {Ts : List Pl.Tr} (h : Lk w W S a len cap v Ts) : Lk w (W.setCell ⟨w.heap.size + 1, 0, none⟩ (.slice none 0 0)) S a len cap (.slice none 0 0) [] :=
  have l := h.lo
  ⟨h.lo, src_put h.src 0 _ (by omega), grown_put h.gr 0 _ (by omega), h.two.far _ _ (by show w.heap.size ≠ w.heap.size + 1; omega), h.one.put 0 _, ⟨rfl, .inl ⟨rfl, rfl⟩⟩, fun t ht => by cases ht⟩
/-- Drawn layers. -/
structure LayV (W : World) (B : Nat) (va : Option Addr) (Ts : List Pl.Tr) : Prop where
  row : ∀ (i : Nat) t, Ts[i]? = some t → ∃ b o, va = some ⟨b, o, none⟩ ∧ B ≤ b ∧ b < W.heap.size ∧ W.cell? ⟨b, o + i, none⟩ = some t.val
  each : ∀ t ∈ Ts, TreeV W B t.a t.cap t.L ∧ t.L.length ≤ 64 ∧ Pl.smallL t.L
theorem LayV.trees {W : World} {B : Nat} {va : Option Addr} {Ts : List Pl.Tr} (h : LayV W B va Ts) : Mem.isTrees W va Ts := fun i t hi => by
  obtain ⟨b, o, h1, -, h2, h3⟩ := h.row i t hi
  exact ⟨⟨b, o, h1, h2, h3⟩, (h.each t (List.mem_of_getElem? hi)).1.1⟩
theorem LayV.grown {W W' : World} {B : Nat} {va : Option Addr} {Ts : List Pl.Tr} {r : Option Nat} (h : LayV W B va Ts) (g : W.grownBy W' r) (hr : ∀ q, r = some q → q < B) : LayV W' B va Ts :=
  ⟨fun i t hi => by
    obtain ⟨b, o, h1, h2, h3, h4⟩ := h.row i t hi
    exact ⟨b, o, h1, h2, Nat.lt_of_lt_of_le h3 g.size, (cell_heap (g.block b h3 (fun e => by have := hr _ e.symm; omega))).trans h4⟩, fun t ht => ⟨(h.each t ht).1.grown g hr, (h.each t ht).2⟩⟩
theorem LayV.call {W W' : World} {B : Nat} {va : Option Addr} {Ts : List Pl.Tr} (h : LayV W B va Ts) (b : Below W.heap.size W W') : LayV W' B va Ts := h.grown (below_grown b none) (fun q hq => by cases hq)
theorem Lk.done {w W : World} {S len cap : Nat} {a va : Option Addr} {vc : Nat} {Ts : List Pl.Tr} (h : Lk w W S a len cap (.slice va Ts.length vc) Ts) : LayV (W.setCell ⟨w.heap.size, 0, none⟩ (.slice va Ts.length vc)) w.heap.size va Ts ∧ Src (W.setCell ⟨w.heap.size, 0, none⟩ (.slice va Ts.length vc)) S a len cap ∧ w.grownBy (W.setCell ⟨w.heap.size, 0, none⟩ (.slice va Ts.length vc)) (some S) ∧ Mem.Blk (W.setCell ⟨w.heap.size, 0, none⟩ (.slice va Ts.length vc)) w.heap.size #[.slice va Ts.length vc] 25 := by
  have l := h.lo
  refine ⟨⟨fun i t hi => ?_, fun t ht => ⟨((h.each t ht).tree.set _ _ _ (by omega)).mono (by omega), (h.each t ht).len, (h.each t ht).ok⟩⟩, src_put h.src 0 _ l, grown_put h.gr 0 _ (Nat.le_refl _), h.two.put 0 _⟩
  have hlt := (List.getElem?_eq_some_iff.1 hi).1
  rcases h.own.2 with ⟨_, h0⟩ | ⟨g, c', cur, e, hb, hg, -⟩
  · omega
  · injection e with e1 e2 e3
    subst e1
    have hc := World.ownsRow.cells h.own (g := g) rfl i t.val (by simp [hi])
    rw [Mem.add_lit] at hc
    refine ⟨g, 0, rfl, by omega, by rw [World.size_setCell]; exact (Array.getElem?_eq_some_iff.1 hg).1, ?_⟩
    rw [Nat.zero_add]
    exact (cell_heap (heap_setCell_other W ⟨w.heap.size, 0, none⟩ g _ (by show g ≠ w.heap.size; omega))).trans hc
theorem LayV.mono {W : World} {B B' : Nat} {va : Option Addr} {Ts : List Pl.Tr} (h : LayV W B va Ts) (hb : B' ≤ B) : LayV W B' va Ts :=
  ⟨fun i t hi => by
    obtain ⟨b, o, h1, h2, h3, h4⟩ := h.row i t hi
    exact ⟨b, o, h1, Nat.le_trans hb h2, h3, h4⟩, fun t ht => ⟨(h.each t ht).1.mono hb, (h.each t ht).2⟩⟩
theorem LayV.set {W : World} {B : Nat} {va : Option Addr} {Ts : List Pl.Tr} (h : LayV W B va Ts) (X k : Nat) (v : Value) (hX : X < B) : LayV (W.setCell ⟨X, k, none⟩ v) B va Ts :=
  ⟨fun i t hi => by
    obtain ⟨b, o, h1, h2, h3, h4⟩ := h.row i t hi
    exact ⟨b, o, h1, h2, by rw [World.size_setCell]; exact h3, (cell_heap (heap_setCell_other W ⟨X, k, none⟩ b _ (by show b ≠ X; omega))).trans h4⟩, fun t ht => ⟨(h.each t ht).1.set X k v hX, (h.each t ht).2⟩⟩
end WSrc
end Go.Proofs.YtmohbgmbknfaiaaGreatDoor

