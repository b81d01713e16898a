/- Several texts of one claim in one file: MemTrees, MemApp2, WDrawLk, WDrawLy. -/
import Derived.Test.YtepmojmelcngeaaGreatDoorG03
import Derived.Test.YtepmojmelcngeaaGreatDoorG01
import Derived.Test.YtepmojmelcngeaaGreatDoorWDrawTr
import Derived.Deep.Cut
/- A row of trees in memory. -/
namespace Go.Proofs.YtepmojmelcngeaaGreatDoor
open Go.RowKit
namespace Pl
/-- A tree as it lies: where its nodes are, how much room they have, and what they are. -/
structure Tr where
  a : Option Addr
  cap : Nat
  L : List Nd
def Tr.val (t : Tr) : Value := .slice t.a t.L.length t.cap
/-- Right layers: one to four, each a right tree. -/
def layB (Ts : List (List Nd)) : Bool := decide (1 ≤ Ts.length) && decide (Ts.length ≤ 4) && Ts.all treeB
end Pl
namespace Mem
def isTrees (w : World) (a : Option Addr) (Ts : List Pl.Tr) : Prop :=
  ∀ (i : Nat) t, Ts[i]? = some t → (∃ b o, a = some ⟨b, o, none⟩ ∧ b < w.heap.size ∧ w.cell? ⟨b, o + i, none⟩ = some t.val) ∧ isNodes w t.a t.L
theorem trees_call {w w' : World} {a : Option Addr} {Ts : List Pl.Tr} (h : isTrees w a Ts) (b : Below w.heap.size w w') : isTrees w' a Ts := fun i t hi => by
  obtain ⟨⟨g, o, h1, h2, h3⟩, h4⟩ := h i t hi
  exact ⟨⟨g, o, h1, Nat.lt_of_lt_of_le h2 b.size, (b.cell (p := ⟨g, _, none⟩) h2).trans h3⟩, nodes_call h4 b⟩
theorem trees_nil (w : World) (a : Option Addr) : isTrees w a [] := fun i n hi => by simp at hi
end Mem
end Go.Proofs.YtepmojmelcngeaaGreatDoor

/- An append to a row of the call's own: it stays in its block, or lies in a new one. -/
namespace Go.Proofs.YtepmojmelcngeaaGreatDoor
open Go.RowKit
namespace Mem
theorem run_append_far {P : Program} (w : World) (base : Nat) (t ty e : TypeId) (i : TypeInfo) (z : Value) (size bytes : Nat) (ht : P.underlying t = some (.slice e)) (hi : P.info? e = some i) (hz : i.zero = some z)
    (hsize : i.size = size) (hby : i.bytes = bytes) (hzs : z.cells.size = size) (hsz : 0 < size)
    (v : Value) (n : Nat) (xs : List Value) (hown : w.ownsRow base e size v n xs)
    (a : Addr) (m c : Nat) (news : List Value) (hl : news.length = m * size) (hnews : ∀ j u, news[j]? = some u → w.cell? (a.add j) = some u) (h1 : ∀ u ∈ news, u.oneCell' = true)
    (h63 : n + m ≤ maxLen) (hbytes : (n + m) * bytes ≤ 140737488355328) (hbase : base ≤ w.heap.size) :
    ∃ v' w', (Builtin.append_ #[t, t] ty #[v, .slice (some a) m c]).run P w = .ok v' w' ∧ w'.ownsRow base e size v' (n + m) (xs ++ news) ∧ w.grownBy w' v.ownBlock ∧ ∀ g, v'.ownBlock = some g → v.ownBlock = some g ∨ w.heap.size ≤ g := by
  obtain ⟨v', w', hr, h2, h3, -⟩ := run_append_own (P := P) w base t ty e i z size bytes ht hi hz hsize hby hzs hsz v n xs hown a m c news hl hnews h1 h63 hbytes hbase
  refine ⟨v', w', hr, h2, h3, ?_⟩
  rcases hown.2 with ⟨rfl, rfl⟩ | ⟨g, cap, cur, rfl, hbg, hg, hnc, hcm, hcs, htake⟩
  · have hx : xs = [] := List.eq_nil_of_length_eq_zero (by simpa using hown.1)
    subst hx
    obtain ⟨v2, w2, hr2, k2, -, -⟩ := run_append_own (P := P) w w.heap.size t ty e i z size bytes ht hi hz hsize hby hzs hsz _ 0 [] (World.ownsRow_nil w w.heap.size e size) a m c news hl hnews h1 h63 hbytes (Nat.le_refl _)
    rw [hr] at hr2
    cases hr2
    exact fun g hg => .inr (k2.lt g hg).1
  · subst hsize hby
    by_cases hroom : n + m ≤ cap
    · have hfit : n * i.size + news.length ≤ cur.size := by rw [hl, hcs, ← Nat.add_mul]; exact Nat.mul_le_mul_right _ hroom
      rw [run_append_room (P := P) w t ty e i ht hi g n cap cur hg a m c news hl hnews h1 hroom hfit] at hr
      cases hr
      exact fun g hg => .inl hg
    · have holds : ∀ j u, xs[j]? = some u → w.cell? ((⟨g, 0, none⟩ : Addr).add j) = some u := hown.cells (g := g) rfl
      have hsmall : n + m ≤ 9223372036854775807 := by simp only [maxLen] at h63; omega
      rw [run_append_grow (P := P) w t ty e i z ht hi hz ⟨g, 0, none⟩ n cap xs hown.1 holds a m c news hl hnews (by omega) (by omega) (growslice_fits (by omega) hbytes)] at hr
      cases hr
      intro g' hg'
      cases hg'
      exact .inr (Nat.le_refl _)
theorem wpList_append_far {P : Program} (w : World) {ops : Array Oper} {rest : List Oper} {o : Oper} {a : Act} {Q : Exit → Act → World → Prop} (hgd : o.guard = none) (s x : Operand) (t : TypeId)
    (ho : o.op = .call { callee := .builtin .append, args := #[s, x], argTypes := #[t, t] })
    (base : Nat) (e : TypeId) (i : TypeInfo) (z : Value) (size bytes : Nat) (ht : P.underlying t = some (.slice e)) (hi : P.info? e = some i) (hz : i.zero = some z)
    (hsize : i.size = size) (hby : i.bytes = bytes) (hzs : z.cells.size = size) (hsz : 0 < size)
    (v : Value) (n : Nat) (xs : List Value) (hs : a.eval s = v) (hown : w.ownsRow base e size v n xs)
    (ad : Addr) (m c : Nat) (news : List Value) (hx : a.eval x = .slice (some ad) m c) (hl : news.length = m * size) (hnews : ∀ j u, news[j]? = some u → w.cell? (ad.add j) = some u) (h1 : ∀ u ∈ news, u.oneCell' = true)
    (h63 : n + m ≤ maxLen) (hbytes : (n + m) * bytes ≤ 140737488355328) (hbase : base ≤ w.heap.size)
    (h : ∀ v' w', w'.ownsRow base e size v' (n + m) (xs ++ news) → w.grownBy w' v.ownBlock → (∀ g, v'.ownBlock = some g → v.ownBlock = some g ∨ w.heap.size ≤ g) → wpList P ops Q rest (a.put o.dst v') w') : wpList P ops Q (o :: rest) a w :=
  wpList_plain hgd fun _ hK => by
    obtain ⟨v', w', hr, h2, h3, h4⟩ := run_append_far (P := P) w base t o.type e i z size bytes ht hi hz hsize hby hzs hsz v n xs hown ad m c news hl hnews h1 h63 hbytes hbase
    unfold Oper.wp execOp
    simp only [ho, resolve, invoke, builtin, Sem.run_bind, Sem.run_pure, Result.andThen_ok, List.map_toArray, List.map_cons, List.map_nil, hs, hx, hr]
    exact hK _ _ (h v' w' h2 h3 h4)
end Mem
end Go.Proofs.YtepmojmelcngeaaGreatDoor

/- What the draw of layers keeps; what drawn layers are. -/
namespace Go.Proofs.YtepmojmelcngeaaGreatDoor
open Go.RowKit
namespace WSrc
theorem TreeV.far {W W' : World} {B cap : Nat} {a : Option Addr} {L : List Pl.Nd} {r : Option Nat} (h : TreeV W B a cap L) (g : W.grownBy W' r) (hr : ∀ g o, a = some ⟨g, o, none⟩ → r ≠ some g) : TreeV W' B a cap L := by
  refine ⟨?_, WPutG.okA_call h.2.1 g.size, h.2.2⟩
  rcases h.2.1 with ⟨rfl, rfl, rfl⟩ | ⟨b, o, rfl, h2, h3⟩
  · exact Mem.nodes_nil _ _
  · exact Mem.nodes_grown h.1 g (fun e => hr b o rfl e.symm)
theorem TreeV.blk {W : World} {B cap : Nat} {a : Option Addr} {L : List Pl.Nd} (h : TreeV W B a cap L) : ∀ g o, a = some ⟨g, o, none⟩ → g < W.heap.size := by
  intro g o e
  rcases h.2.1 with ⟨rfl, _⟩ | ⟨b, o', rfl, h2, _⟩
  · cases e
  · cases e; exact h2
/-- A tree that was drawn into a list. -/
structure Dt (W : World) (B : Nat) (v : Value) (t : Pl.Tr) : Prop where
  tree : TreeV W B t.a t.cap t.L
  len : t.L.length ≤ 64
  ok : Pl.smallL t.L
  apart : ∀ g o, t.a = some ⟨g, o, none⟩ → v.ownBlock ≠ some g
def rowT (W : World) (B : Nat) (v : Value) (Ts : List Pl.Tr) : Prop := W.ownsRow B 31 1 v Ts.length (Ts.map Pl.Tr.val)
theorem row_far {w w' : World} {B e size n : Nat} {v : Value} {xs : List Value} {r : Option Nat} (h : w.ownsRow B e size v n xs) (hg : w.grownBy w' r) (hr : ∀ g, v.ownBlock = some g → some g ≠ r) : w'.ownsRow B e size v n xs := by
  refine ⟨h.1, ?_⟩
  rcases h.2 with h0 | ⟨g, cap, cur, rfl, hb, hh, rest⟩
  · exact .inl h0
  · exact .inr ⟨g, cap, cur, rfl, hb, (hg.block g (Array.getElem?_eq_some_iff.1 hh).1 (hr g rfl)).trans hh, rest⟩
/-- What the draw of layers keeps. -/
structure Lk (w W : World) (S : Nat) (a : Option Addr) (len cap : Nat) (v : Value) (Ts : List Pl.Tr) : Prop where
  lo : S < w.heap.size
  src : Src W S a len cap
  gr : w.grownBy W (some S)
  two : Mem.Blk W w.heap.size #[.slice none 0 0] 60
  one : Mem.Blk W (w.heap.size + 1) #[v] 60
  own : rowT W (w.heap.size + 2) v Ts
  each : ∀ t ∈ Ts, Dt W (w.heap.size + 2) v t
theorem Lk.lt {w W : World} {S len cap : Nat} {a : Option Addr} {v : Value} {Ts : List Pl.Tr} (h : Lk w W S a len cap v Ts) : w.heap.size + 2 ≤ W.heap.size := h.one.lt
theorem Lk.call {w W W' : World} {S len cap : Nat} {a : Option Addr} {v : Value} {Ts : List Pl.Tr} (h : Lk w W S a len cap v Ts) (s : Src W' S a len cap) (g : W.grownBy W' (some S)) : Lk w W' S a len cap v Ts :=
  have l := h.lo
  ⟨h.lo, s, h.gr.trans g, h.two.grown g (by simp; omega), h.one.grown g (by simp; omega), row_far h.own g (fun q hq e => by cases e; have := (World.ownsRow.lt h.own _ hq).1; omega), fun t ht => ⟨(h.each t ht).tree.grown g (fun q hq => by cases hq; omega), (h.each t ht).len, (h.each t ht).ok, (h.each t ht).apart⟩⟩
theorem Lk.below {w W W' : World} {S len cap : Nat} {a : Option Addr} {v : Value} {Ts : List Pl.Tr} (h : Lk w W S a len cap v Ts) (b : Below W.heap.size W W') : Lk w W' S a len cap v Ts := h.call (src_below h.src b) (below_grown b _)
theorem Lk.alloc {w W : World} {S len cap : Nat} {a : Option Addr} {v : Value} {Ts : List Pl.Tr} (h : Lk w W S a len cap v Ts) (o : Obj) : Lk w (W.alloc o) S a len cap v Ts := h.below ((Below.refl _ _).alloc (Nat.le_refl _) o)
theorem Lk.drew {w W : World} {S len cap : Nat} {a : Option Addr} {v : Value} {Ts : List Pl.Tr} (h : Lk w W S a len cap v Ts) : Lk w W.drew S a len cap v Ts := ⟨h.lo, h.src, grown_drew h.gr, h.two, h.one, h.own, fun t ht => ⟨(h.each t ht).tree, (h.each t ht).len, (h.each t ht).ok, (h.each t ht).apart⟩⟩
/-- One tree more. -/
theorem Lk.app {w W W' : World} {S len cap : Nat} {a : Option Addr} {v v' : Value} {Ts : List Pl.Tr} {t : Pl.Tr} (h : Lk w W S a len cap v Ts) (gr : W.grownBy W' v.ownBlock) (own' : rowT W' (w.heap.size + 2) v' (Ts ++ [t])) (far : ∀ g, v'.ownBlock = some g → v.ownBlock = some g ∨ W.heap.size ≤ g) (ht : Dt W (w.heap.size + 2) v t) :
    Lk w (W'.setCell ⟨w.heap.size + 1, 0, none⟩ v') S a len cap v' (Ts ++ [t]) := by
  have l := h.lo
  have hv : ∀ q, v.ownBlock = some q → w.heap.size + 2 ≤ q := fun q hq => (World.ownsRow.lt h.own q hq).1
  have hs := h.src
  refine ⟨h.lo, src_put ?_ 0 _ (by omega), grown_put ?_ 0 _ (by omega), (h.two.grown gr (fun e => by have := hv _ e.symm; omega)).far _ _ (by show w.heap.size ≠ w.heap.size + 1; omega), (h.one.grown gr (fun e => by have := hv _ e.symm; omega)).put 0 v', ?_, fun t' ht' => ?_⟩
  · obtain ⟨hr, p, m, sz, hb, hp, h0, h1⟩ := hs
    have hS : S < W.heap.size := (Array.getElem?_eq_some_iff.1 hb).1
    refine ⟨⟨hr.1, hr.2.1, fun i hi => ?_⟩, p, m, sz, (gr.block S hS (fun e => by have := hv _ e.symm; omega)).trans hb, hp, h0, h1⟩
    obtain ⟨b, o, n, e1, e2, e3, e4⟩ := hr.2.2 i hi
    exact ⟨b, o, n, e1, e2, e3, (cell_heap (gr.block b (by omega) (fun e => by have := hv _ e.symm; omega))).trans e4⟩
  · exact ⟨gr.os.trans h.gr.os, gr.tape.trans h.gr.tape, gr.output.trans h.gr.output, Nat.le_trans h.gr.size gr.size, fun j hj hne => (gr.block j (Nat.lt_of_lt_of_le hj h.gr.size) (fun e => by have := hv _ e.symm; omega)).trans (h.gr.block j hj hne)⟩
  · refine ⟨own'.1, ?_⟩
    rcases own'.2 with h0 | ⟨g, c', cur, e, hb, hg, rest⟩
    · exact .inl h0
    · exact .inr ⟨g, c', cur, e, hb, (heap_setCell_other W' ⟨w.heap.size + 1, 0, none⟩ g v' (by show g ≠ w.heap.size + 1; omega)).trans hg, rest⟩
  · have hd : Dt W (w.heap.size + 2) v t' := by
      rcases List.mem_append.1 ht' with h1 | h1
      · exact h.each t' h1
      · simp at h1; rw [h1]; exact ht
    refine ⟨(hd.tree.far gr (fun g o e => hd.apart g o e)).set _ _ _ (by omega), hd.len, hd.ok, fun g o e e2 => ?_⟩
    rcases far g e2 with h1 | h1
    · exact hd.apart g o e h1
    · have := hd.tree.blk g o e; omega
/-- No tree at all. -/
theorem Lk.gone {w W : World} {S len cap : Nat} {a : Option Addr} {v : Value} {Ts : List Pl.Tr} (h : Lk w W S a len cap v Ts) : Lk w (W.setCell ⟨w.heap.size + 1, 0, none⟩ (.slice none 0 0)) S a len cap (.slice none 0 0) [] :=
  have l := h.lo
  ⟨h.lo, src_put h.src 0 _ (by omega), grown_put h.gr 0 _ (by omega), h.two.far _ _ (by show w.heap.size ≠ w.heap.size + 1; omega), h.one.put 0 _, ⟨rfl, .inl ⟨rfl, rfl⟩⟩, fun t ht => by cases ht⟩
/-- Drawn layers. -/
structure LayV (W : World) (B : Nat) (va : Option Addr) (Ts : List Pl.Tr) : Prop where
  row : ∀ (i : Nat) t, Ts[i]? = some t → ∃ b o, va = some ⟨b, o, none⟩ ∧ B ≤ b ∧ b < W.heap.size ∧ W.cell? ⟨b, o + i, none⟩ = some t.val
  each : ∀ t ∈ Ts, TreeV W B t.a t.cap t.L ∧ t.L.length ≤ 64 ∧ Pl.smallL t.L
theorem LayV.trees {W : World} {B : Nat} {va : Option Addr} {Ts : List Pl.Tr} (h : LayV W B va Ts) : Mem.isTrees W va Ts := fun i t hi => by
  obtain ⟨b, o, h1, -, h2, h3⟩ := h.row i t hi
  exact ⟨⟨b, o, h1, h2, h3⟩, (h.each t (List.mem_of_getElem? hi)).1.1⟩
theorem LayV.grown {W W' : World} {B : Nat} {va : Option Addr} {Ts : List Pl.Tr} {r : Option Nat} (h : LayV W B va Ts) (g : W.grownBy W' r) (hr : ∀ q, r = some q → q < B) : LayV W' B va Ts :=
  ⟨fun i t hi => by
    obtain ⟨b, o, h1, h2, h3, h4⟩ := h.row i t hi
    exact ⟨b, o, h1, h2, Nat.lt_of_lt_of_le h3 g.size, (cell_heap (g.block b h3 (fun e => by have := hr _ e.symm; omega))).trans h4⟩, fun t ht => ⟨(h.each t ht).1.grown g hr, (h.each t ht).2⟩⟩
theorem LayV.call {W W' : World} {B : Nat} {va : Option Addr} {Ts : List Pl.Tr} (h : LayV W B va Ts) (b : Below W.heap.size W W') : LayV W' B va Ts := h.grown (below_grown b none) (fun q hq => by cases hq)
theorem Lk.done {w W : World} {S len cap : Nat} {a va : Option Addr} {vc : Nat} {Ts : List Pl.Tr} (h : Lk w W S a len cap (.slice va Ts.length vc) Ts) : LayV (W.setCell ⟨w.heap.size, 0, none⟩ (.slice va Ts.length vc)) w.heap.size va Ts ∧ Src (W.setCell ⟨w.heap.size, 0, none⟩ (.slice va Ts.length vc)) S a len cap ∧ w.grownBy (W.setCell ⟨w.heap.size, 0, none⟩ (.slice va Ts.length vc)) (some S) ∧ Mem.Blk (W.setCell ⟨w.heap.size, 0, none⟩ (.slice va Ts.length vc)) w.heap.size #[.slice va Ts.length vc] 60 := by
  have l := h.lo
  refine ⟨⟨fun i t hi => ?_, fun t ht => ⟨((h.each t ht).tree.set _ _ _ (by omega)).mono (by omega), (h.each t ht).len, (h.each t ht).ok⟩⟩, src_put h.src 0 _ l, grown_put h.gr 0 _ (Nat.le_refl _), h.two.put 0 _⟩
  have hlt := (List.getElem?_eq_some_iff.1 hi).1
  rcases h.own.2 with ⟨_, h0⟩ | ⟨g, c', cur, e, hb, hg, -⟩
  · omega
  · injection e with e1 e2 e3
    subst e1
    have hc := World.ownsRow.cells h.own (g := g) rfl i t.val (by simp [hi])
    rw [Mem.add_lit] at hc
    refine ⟨g, 0, rfl, by omega, by rw [World.size_setCell]; exact (Array.getElem?_eq_some_iff.1 hg).1, ?_⟩
    rw [Nat.zero_add]
    exact (cell_heap (heap_setCell_other W ⟨w.heap.size, 0, none⟩ g _ (by show g ≠ w.heap.size; omega))).trans hc
theorem LayV.mono {W : World} {B B' : Nat} {va : Option Addr} {Ts : List Pl.Tr} (h : LayV W B va Ts) (hb : B' ≤ B) : LayV W B' va Ts :=
  ⟨fun i t hi => by
    obtain ⟨b, o, h1, h2, h3, h4⟩ := h.row i t hi
    exact ⟨b, o, h1, Nat.le_trans hb h2, h3, h4⟩, fun t ht => ⟨(h.each t ht).1.mono hb, (h.each t ht).2⟩⟩
theorem LayV.set {W : World} {B : Nat} {va : Option Addr} {Ts : List Pl.Tr} (h : LayV W B va Ts) (X k : Nat) (v : Value) (hX : X < B) : LayV (W.setCell ⟨X, k, none⟩ v) B va Ts :=
  ⟨fun i t hi => by
    obtain ⟨b, o, h1, h2, h3, h4⟩ := h.row i t hi
    exact ⟨b, o, h1, h2, by rw [World.size_setCell]; exact h3, (cell_heap (heap_setCell_other W ⟨X, k, none⟩ b _ (by show b ≠ X; omega))).trans h4⟩, fun t ht => ⟨(h.each t ht).1.set X k v hX, (h.each t ht).2⟩⟩
end WSrc
end Go.Proofs.YtepmojmelcngeaaGreatDoor

/- The draw of layers (by genLy.py). -/
namespace Go.Proofs.YtepmojmelcngeaaGreatDoor
open Go.RowKit
namespace Mem
theorem step_append_far {P : Program} {ops : Array Oper} {o : Oper} {a : Act} {w : World} {K : Act → World → Prop} {Q : Exit → Act → World → Prop} {E : Prop}
    (hg : o.guard = none) (s x : Operand) (t : TypeId) (hop : o.op = Op.call { callee := Callee.builtin Builtin.append, args := #[s, x], argTypes := #[t, t] })
    (base : Nat) (e : TypeId) (i : TypeInfo) (z : Value) (size bytes : Nat) (h1 : P.underlying t = some (.slice e)) (h2 : P.info? e = some i) (h3 : i.zero = some z) (h4 : i.size = size) (h5 : i.bytes = bytes) (h6 : z.cells.size = size) (h7 : 0 < size)
    (v : Value) (n : Nat) (xs : List Value) (hs : a.eval s = v) (hown : w.ownsRow base e size v n xs)
    (ad : Addr) (m c : Nat) (news : List Value) (hx : a.eval x = .slice (some ad) m c) (hn : news.length = m * size) (hc : ∀ j u, news[j]? = some u → w.cell? (ad.add j) = some u) (h1c : ∀ u ∈ news, u.oneCell' = true)
    (b1 : n + m ≤ maxLen) (b2 : (n + m) * bytes ≤ 140737488355328) (hbase : base ≤ w.heap.size)
    (hK : ∀ v' w', w'.ownsRow base e size v' (n + m) (xs ++ news) → w.grownBy w' v.ownBlock → (∀ g, v'.ownBlock = some g → v.ownBlock = some g ∨ w.heap.size ≤ g) → K (a.put o.dst v') w') :
    if Region.wanted o (yielded ops a.tmps) = true then Oper.wp P o a w K Q else E := by
  have hw : Region.wanted o (yielded ops a.tmps) = true := by simp [Region.wanted, hg]
  rw [if_pos hw]
  obtain ⟨v', w', hrun, r1, r2, r3⟩ := run_append_far (P := P) w base t o.type e i z size bytes h1 h2 h3 h4 h5 h6 h7 v n xs hown ad m c news hn hc h1c b1 b2 hbase
  unfold Oper.wp
  simp [execOp, hop, resolve, invoke, builtin, hs, hx, hrun, Result.andThen]
  exact hK v' w' r1 r2 r3
end Mem
namespace WSrc
def lenAt (W : World) (X : Nat) : Nat := match W.cell? ⟨X, 0, none⟩ with | some (.slice _ n _) => n | _ => 0
theorem infoT : (Tryz.prog.info? 31).map (fun i => (i.zero, i.size, i.bytes)) = some (some (.agg #[.slice none 0 0]), 1, 24) := by kernel_rfl
set_option linter.unusedSimpArgs false in
set_option maxRecDepth 100000 in
set_option maxHeartbeats 4000000 in
theorem layers_any (S : Nat) (a : Option Addr) (len cap : Nat) (w : World) (hs : Src w S a len cap) :
    Calls Tryz.prog 65 #[.pointer (some ⟨S, 0, none⟩)] w fun e w' => ∃ (va : Option Addr) (vc : Nat) (Ts : List Pl.Tr), Ts.length ≤ 5 ∧ e = .returned (.agg #[.slice va Ts.length vc]) ∧ LayV w' w.heap.size va Ts ∧ Src w' S a len cap ∧ w.grownBy w' (some S) := by
  obtain ⟨i0, hi, hz0, hz1, hz2'⟩ := info_parts infoT
  have hS := src_lt hs
  have K0 : Hid (Lk w ((w.alloc (.cells #[.slice none 0 0] 60)).alloc (.cells #[.slice none 0 0] 60)) S a len cap (.slice none 0 0) []) :=
    ⟨hS, src_alloc (src_alloc hs _) _, (World.grownBy_alloc w _ (some S)).trans (World.grownBy_alloc _ _ (some S)), (Mem.Blk.new w _ _).alloc _, Mem.new_two _ _ _, ⟨rfl, .inl ⟨rfl, rfl⟩⟩, fun t ht => by cases ht⟩
  clear hs
  go_enter Tryz.func65, Tryz.ntmps65
  go_wp2_with fail
  generalize (w.alloc (.cells #[.slice none 0 0] 60)).alloc (.cells #[.slice none 0 0] 60) = w0 at K0 ⊢
  refine (n_any S a len cap 3 _ (unhide K0).src (by omega)).mono ?_
  rintro e w1 ⟨r, rfl, r0, r1, s1, g1⟩
  obtain ⟨c, rfl⟩ : ∃ c : Nat, r = (c : Int) := ⟨r.toNat, by omega⟩
  have hc : c ≤ 2 := by omega
  have K1 := hide ((unhide K0).call s1 g1)
  clear K0 s1 g1 r0 r1
  go_wp2
  go_loopw [4] (fun k wr => ∃ (kk : Nat) (v : Value) (Ts : List Pl.Tr), k = .int .i64 (kk : Int) ∧ Ts.length + kk ≤ 3 ∧ Hid (Lk w wr S a len cap v Ts)) (fun k _ => (intOf k).toNat)
  case atStart => exact ⟨1 + c, _, [], by go_num, by simp; omega, K1⟩
  case round =>
    obtain ⟨kk, v, Ts, rfl, hk, KK⟩ := hrel
    clear K1 hc
    obtain ⟨va, vc, rfl⟩ := Mem.own_shape (unhide KK).own
    by_cases hpos : (0 : Int) < (kk : Int)
    · go_wp2_with fail
      refine wp_region_held_drew (S := fun _ => True) (by kernel_rfl) ?_ (fun hHeld => ?_)
      · exact trivial
      have KD := hide (unhide KK).drew
      clear KK
      generalize wr.drew = WD at KD ⊢
      refine wpAnyH_take (i := 0) (v := ?_) rfl (by kernel_rfl) (by kernel_rfl) (by kernel_rfl) (fun _ _ _ h => h) (Or.inl ⟨by rfl, ?_⟩) (by assumption) ?_
      rotate_left
      · (intro w hSw; (try dsimp only at hSw); go_simp; (try with_reducible rfl))
      try simp only [Act.put, kB0, kB1, kB2, kB3, kB4, kB5]
      refine wpAnyH_take (i := 2) (v := ?_) rfl (by kernel_rfl) (by kernel_rfl) (by kernel_rfl) (fun _ _ _ h => h) (Or.inl ⟨by rfl, ?_⟩) (by assumption) ?_
      rotate_left
      · (intro w hSw; (try dsimp only at hSw); go_simp; (try with_reducible rfl))
      try simp only [Act.put, kB0, kB1, kB2, kB3, kB4, kB5]
      have t0 := (unhide KD).one.cell 0
      simp only [kA0, kA1] at t0
      refine wpAnyH_ready (rs := [1, 3]) (by kernel_rfl) (by simp) ?_
      refine AllReadyH.cons rfl (fun K hK => ?_) (AllReadyH.cons rfl (fun K hK => ?_) AllReadyH.nil)
      · go_simp
        refine hK.out _ _ trivial (fun hHeld => ?_)
        clear hK K
        try simp only [Act.put, kB0, kB1, kB2, kB3, kB4, kB5]
        clear t0
        refine wpAnyH_ready (rs := [3]) (by kernel_rfl) (by simp) ?_
        refine AllReadyH.cons rfl (fun K hK => ?_) AllReadyH.nil
        go_simp
        refine (tree_any S a len cap _ (unhide KD).src).mono ?_
        rintro e w3 ⟨ta, tc, tL, tl64, tsm, rfl, tv, s3, g3⟩
        have KE := hide ((unhide KD).call s3 g3)
        have DT : Hid (Dt w3 (w.heap.size + 2) (.slice va Ts.length vc) ⟨ta, tc, tL⟩) := ⟨tv.mono (unhide KD).lt, tl64, tsm, fun g o e e2 => by have h1 := tv.2.2 g o e; have h2 := (World.ownsRow.lt (unhide KD).own g e2).2; omega⟩
        refine hK.out _ _ trivial (fun hHeld => ?_)
        clear hK K
        try simp only [Act.put, kB0, kB1, kB2, kB3, kB4, kB5]
        clear s3 g3 tv tl64 tsm
        refine wpAnyH_ready (rs := [4]) (by kernel_rfl) (by simp) ?_
        refine AllReadyH.cons rfl (fun K hK => ?_) AllReadyH.nil
        go_simp
        refine hK.out _ _ trivial (fun hHeld => ?_)
        clear hK K
        try simp only [Act.put, kB0, kB1, kB2, kB3, kB4, kB5]
        have KF := hide ((unhide KE).alloc (.cells #[.slice ta tL.length tc] 31))
        have DT4 : Hid (Dt (w3.alloc (.cells #[.slice ta tL.length tc] 31)) (w.heap.size + 2) (.slice va Ts.length vc) ⟨ta, tc, tL⟩) := ⟨(unhide DT).tree.alloc _, (unhide DT).len, (unhide DT).ok, (unhide DT).apart⟩
        clear KD KE DT
        refine wpAnyH_ready (rs := [5]) (by kernel_rfl) (by simp) ?_
        refine AllReadyH.cons rfl (fun K hK => ?_) AllReadyH.nil
        refine Mem.step_append_far rfl _ _ 58 rfl (w.heap.size + 2) 31 i0 _ 1 24 Tryz.underlying58 hi hz0 hz1 hz2' rfl (by decide) _ _ _ rfl (unhide KF).own ⟨w3.heap.size, 0, none⟩ 1 1 [.slice ta tL.length tc] rfl rfl (Mem.one_new _ _ _) (fun u hu => by simp at hu; subst hu; rfl) (by unfold maxLen; omega) (by omega) (unhide KF).lt ?_
        intro v' wZ hownZ hgrow0 hfar0
        have hgrow : (w3.alloc (.cells #[.slice ta tL.length tc] 31)).grownBy wZ (Value.slice va Ts.length vc).ownBlock := hgrow0
        have hown2 : rowT wZ (w.heap.size + 2) v' (Ts ++ [⟨ta, tc, tL⟩]) := by
          show World.ownsRow _ _ _ _ _ _ _
          rw [List.map_append, List.length_append]
          exact hownZ
        obtain ⟨v'a, v'c, rfl⟩ := Mem.own_shape hown2
        have KZ := hide ((unhide KF).app hgrow hown2 hfar0 (unhide DT4))
        simp only [List.length_append, List.length_singleton] at KZ
        have z0 : wZ.cell? ⟨w.heap.size + 1, 0, none⟩ = some (.slice va Ts.length vc) := hgrow.cell (a := ⟨w.heap.size + 1, 0, none⟩) (by have h := (unhide KF).one.cell 0; simpa using h) (fun e => by have h1 : w.heap.size + 2 ≤ w.heap.size + 1 := (World.ownsRow.lt (unhide KF).own _ e.symm).1; omega)
        have zf : wZ.frozen? ⟨w.heap.size + 1, 0, none⟩ = false := ((unhide KF).one.grown hgrow (fun e => by have h1 : w.heap.size + 2 ≤ w.heap.size + 1 := (World.ownsRow.lt (unhide KF).own _ e.symm).1; omega)).fr 0
        refine hK.out _ _ trivial (fun hHeld => ?_)
        clear hK K
        try simp only [Act.put, kB0, kB1, kB2, kB3, kB4, kB5]
        clear hgrow hgrow0 hownZ hown2 hfar0 KF DT4
        refine wpAnyH_take (i := 6) (v := ?_) rfl (by kernel_rfl) (by kernel_rfl) (by kernel_rfl) (fun _ _ _ h => h) (Or.inl ⟨by rfl, ?_⟩) (by assumption) ?_
        rotate_left
        · (intro w hSw; (try dsimp only at hSw); go_simp; (try with_reducible rfl))
        try simp only [Act.put, kB0, kB1, kB2, kB3, kB4, kB5]
        refine wpAnyH_ready (rs := [7]) (by kernel_rfl) (by simp) ?_
        refine AllReadyH.cons rfl (fun K hK => ?_) AllReadyH.nil
        go_simp
        refine hK.out _ _ trivial (fun hHeld => ?_)
        clear hK K
        try simp only [Act.put, kB0, kB1, kB2, kB3, kB4, kB5]
        refine wpAnyH_done (by kernel_rfl) ?_ _
        clear z0 zf
        go_wp2
        go_roundw
        case rel => exact ⟨kk - 1, _, _, by go_num, by rw [List.length_append, List.length_singleton]; omega, KZ⟩
        case measure => simp [intOf]; omega
      · clear t0
        go_simp
        refine (tree_any S a len cap _ (unhide KD).src).mono ?_
        rintro e w3 ⟨ta, tc, tL, tl64, tsm, rfl, tv, s3, g3⟩
        have KE := hide ((unhide KD).call s3 g3)
        have DT : Hid (Dt w3 (w.heap.size + 2) (.slice va Ts.length vc) ⟨ta, tc, tL⟩) := ⟨tv.mono (unhide KD).lt, tl64, tsm, fun g o e e2 => by have h1 := tv.2.2 g o e; have h2 := (World.ownsRow.lt (unhide KD).own g e2).2; omega⟩
        refine hK.out _ _ trivial (fun hHeld => ?_)
        clear hK K
        try simp only [Act.put, kB0, kB1, kB2, kB3, kB4, kB5]
        clear s3 g3 tv tl64 tsm
        have t1 := (unhide KE).one.cell 0
        simp only [kA0, kA1] at t1
        refine wpAnyH_ready (rs := [1, 4]) (by kernel_rfl) (by simp) ?_
        refine AllReadyH.cons rfl (fun K hK => ?_) (AllReadyH.cons rfl (fun K hK => ?_) AllReadyH.nil)
        · go_simp
          refine hK.out _ _ trivial (fun hHeld => ?_)
          clear hK K
          try simp only [Act.put, kB0, kB1, kB2, kB3, kB4, kB5]
          clear t1
          refine wpAnyH_ready (rs := [4]) (by kernel_rfl) (by simp) ?_
          refine AllReadyH.cons rfl (fun K hK => ?_) AllReadyH.nil
          go_simp
          refine hK.out _ _ trivial (fun hHeld => ?_)
          clear hK K
          try simp only [Act.put, kB0, kB1, kB2, kB3, kB4, kB5]
          have KF := hide ((unhide KE).alloc (.cells #[.slice ta tL.length tc] 31))
          have DT4 : Hid (Dt (w3.alloc (.cells #[.slice ta tL.length tc] 31)) (w.heap.size + 2) (.slice va Ts.length vc) ⟨ta, tc, tL⟩) := ⟨(unhide DT).tree.alloc _, (unhide DT).len, (unhide DT).ok, (unhide DT).apart⟩
          clear KD KE DT
          refine wpAnyH_ready (rs := [5]) (by kernel_rfl) (by simp) ?_
          refine AllReadyH.cons rfl (fun K hK => ?_) AllReadyH.nil
          refine Mem.step_append_far rfl _ _ 58 rfl (w.heap.size + 2) 31 i0 _ 1 24 Tryz.underlying58 hi hz0 hz1 hz2' rfl (by decide) _ _ _ rfl (unhide KF).own ⟨w3.heap.size, 0, none⟩ 1 1 [.slice ta tL.length tc] rfl rfl (Mem.one_new _ _ _) (fun u hu => by simp at hu; subst hu; rfl) (by unfold maxLen; omega) (by omega) (unhide KF).lt ?_
          intro v' wZ hownZ hgrow0 hfar0
          have hgrow : (w3.alloc (.cells #[.slice ta tL.length tc] 31)).grownBy wZ (Value.slice va Ts.length vc).ownBlock := hgrow0
          have hown2 : rowT wZ (w.heap.size + 2) v' (Ts ++ [⟨ta, tc, tL⟩]) := by
            show World.ownsRow _ _ _ _ _ _ _
            rw [List.map_append, List.length_append]
            exact hownZ
          obtain ⟨v'a, v'c, rfl⟩ := Mem.own_shape hown2
          have KZ := hide ((unhide KF).app hgrow hown2 hfar0 (unhide DT4))
          simp only [List.length_append, List.length_singleton] at KZ
          have z0 : wZ.cell? ⟨w.heap.size + 1, 0, none⟩ = some (.slice va Ts.length vc) := hgrow.cell (a := ⟨w.heap.size + 1, 0, none⟩) (by have h := (unhide KF).one.cell 0; simpa using h) (fun e => by have h1 : w.heap.size + 2 ≤ w.heap.size + 1 := (World.ownsRow.lt (unhide KF).own _ e.symm).1; omega)
          have zf : wZ.frozen? ⟨w.heap.size + 1, 0, none⟩ = false := ((unhide KF).one.grown hgrow (fun e => by have h1 : w.heap.size + 2 ≤ w.heap.size + 1 := (World.ownsRow.lt (unhide KF).own _ e.symm).1; omega)).fr 0
          refine hK.out _ _ trivial (fun hHeld => ?_)
          clear hK K
          try simp only [Act.put, kB0, kB1, kB2, kB3, kB4, kB5]
          clear hgrow hgrow0 hownZ hown2 hfar0 KF DT4
          refine wpAnyH_take (i := 6) (v := ?_) rfl (by kernel_rfl) (by kernel_rfl) (by kernel_rfl) (fun _ _ _ h => h) (Or.inl ⟨by rfl, ?_⟩) (by assumption) ?_
          rotate_left
          · (intro w hSw; (try dsimp only at hSw); go_simp; (try with_reducible rfl))
          try simp only [Act.put, kB0, kB1, kB2, kB3, kB4, kB5]
          refine wpAnyH_ready (rs := [7]) (by kernel_rfl) (by simp) ?_
          refine AllReadyH.cons rfl (fun K hK => ?_) AllReadyH.nil
          go_simp
          refine hK.out _ _ trivial (fun hHeld => ?_)
          clear hK K
          try simp only [Act.put, kB0, kB1, kB2, kB3, kB4, kB5]
          refine wpAnyH_done (by kernel_rfl) ?_ _
          clear z0 zf
          go_wp2
          go_roundw
          case rel => exact ⟨kk - 1, _, _, by go_num, by rw [List.length_append, List.length_singleton]; omega, KZ⟩
          case measure => simp [intOf]; omega
        · clear t1
          go_simp
          refine hK.out _ _ trivial (fun hHeld => ?_)
          clear hK K
          try simp only [Act.put, kB0, kB1, kB2, kB3, kB4, kB5]
          have t2 := ((unhide KE).alloc (.cells #[.slice ta tL.length tc] 31)).one.cell 0
          simp only [kA0, kA1] at t2
          refine wpAnyH_ready (rs := [1]) (by kernel_rfl) (by simp) ?_
          refine AllReadyH.cons rfl (fun K hK => ?_) AllReadyH.nil
          go_simp
          refine hK.out _ _ trivial (fun hHeld => ?_)
          clear hK K
          try simp only [Act.put, kB0, kB1, kB2, kB3, kB4, kB5]
          clear t2
          have KF := hide ((unhide KE).alloc (.cells #[.slice ta tL.length tc] 31))
          have DT4 : Hid (Dt (w3.alloc (.cells #[.slice ta tL.length tc] 31)) (w.heap.size + 2) (.slice va Ts.length vc) ⟨ta, tc, tL⟩) := ⟨(unhide DT).tree.alloc _, (unhide DT).len, (unhide DT).ok, (unhide DT).apart⟩
          clear KD KE DT
          refine wpAnyH_ready (rs := [5]) (by kernel_rfl) (by simp) ?_
          refine AllReadyH.cons rfl (fun K hK => ?_) AllReadyH.nil
          refine Mem.step_append_far rfl _ _ 58 rfl (w.heap.size + 2) 31 i0 _ 1 24 Tryz.underlying58 hi hz0 hz1 hz2' rfl (by decide) _ _ _ rfl (unhide KF).own ⟨w3.heap.size, 0, none⟩ 1 1 [.slice ta tL.length tc] rfl rfl (Mem.one_new _ _ _) (fun u hu => by simp at hu; subst hu; rfl) (by unfold maxLen; omega) (by omega) (unhide KF).lt ?_
          intro v' wZ hownZ hgrow0 hfar0
          have hgrow : (w3.alloc (.cells #[.slice ta tL.length tc] 31)).grownBy wZ (Value.slice va Ts.length vc).ownBlock := hgrow0
          have hown2 : rowT wZ (w.heap.size + 2) v' (Ts ++ [⟨ta, tc, tL⟩]) := by
            show World.ownsRow _ _ _ _ _ _ _
            rw [List.map_append, List.length_append]
            exact hownZ
          obtain ⟨v'a, v'c, rfl⟩ := Mem.own_shape hown2
          have KZ := hide ((unhide KF).app hgrow hown2 hfar0 (unhide DT4))
          simp only [List.length_append, List.length_singleton] at KZ
          have z0 : wZ.cell? ⟨w.heap.size + 1, 0, none⟩ = some (.slice va Ts.length vc) := hgrow.cell (a := ⟨w.heap.size + 1, 0, none⟩) (by have h := (unhide KF).one.cell 0; simpa using h) (fun e => by have h1 : w.heap.size + 2 ≤ w.heap.size + 1 := (World.ownsRow.lt (unhide KF).own _ e.symm).1; omega)
          have zf : wZ.frozen? ⟨w.heap.size + 1, 0, none⟩ = false := ((unhide KF).one.grown hgrow (fun e => by have h1 : w.heap.size + 2 ≤ w.heap.size + 1 := (World.ownsRow.lt (unhide KF).own _ e.symm).1; omega)).fr 0
          refine hK.out _ _ trivial (fun hHeld => ?_)
          clear hK K
          try simp only [Act.put, kB0, kB1, kB2, kB3, kB4, kB5]
          clear hgrow hgrow0 hownZ hown2 hfar0 KF DT4
          refine wpAnyH_take (i := 6) (v := ?_) rfl (by kernel_rfl) (by kernel_rfl) (by kernel_rfl) (fun _ _ _ h => h) (Or.inl ⟨by rfl, ?_⟩) (by assumption) ?_
          rotate_left
          · (intro w hSw; (try dsimp only at hSw); go_simp; (try with_reducible rfl))
          try simp only [Act.put, kB0, kB1, kB2, kB3, kB4, kB5]
          refine wpAnyH_ready (rs := [7]) (by kernel_rfl) (by simp) ?_
          refine AllReadyH.cons rfl (fun K hK => ?_) AllReadyH.nil
          go_simp
          refine hK.out _ _ trivial (fun hHeld => ?_)
          clear hK K
          try simp only [Act.put, kB0, kB1, kB2, kB3, kB4, kB5]
          refine wpAnyH_done (by kernel_rfl) ?_ _
          clear z0 zf
          go_wp2
          go_roundw
          case rel => exact ⟨kk - 1, _, _, by go_num, by rw [List.length_append, List.length_singleton]; omega, KZ⟩
          case measure => simp [intOf]; omega
    · go_wp2_with fail
      refine (one_any S a len cap 20 _ (unhide KK).src (by omega)).mono ?_
      rintro e w2 ⟨r2, rfl, s2, g2⟩
      have K2 := hide ((unhide KK).call s2 g2)
      have hq5 : Ts.length ≤ 5 := by omega
      clear KK s2 g2
      cases r2
      · have KQ := K2
        have hD := Lk.done (va := va) (vc := vc) (Ts := Ts) (unhide KQ)
        have t0 := (unhide KQ).one.cell 0
        have r0 := (unhide KQ).two.cell 0
        have rf := (unhide KQ).two.fr 0
        simp only [kA0, kA1] at t0 r0
        have HD := hide hD
        clear hD KQ
        go_wp2
        generalize World.setCell w2 ⟨w.heap.size, 0, none⟩ (.slice va Ts.length vc) = WR at HD ⊢
        have q0 := (unhide HD).2.2.2.cell 0
        simp only [kA0, kA1] at q0
        exact bodyPost_ret (v := .agg #[.slice va Ts.length vc]) (by simp [results, Tryz.results65, go_sem, q0]) rfl ⟨va, vc, Ts, hq5, rfl, (unhide HD).1, (unhide HD).2.1, (unhide HD).2.2.1⟩
      · go_wp2_with fail
        refine (n_any S a len cap 2 _ (unhide K2).src (by omega)).mono ?_
        rintro e w3 ⟨r3, rfl, r30, r31, s3, g3⟩
        have K3 := hide ((unhide K2).call s3 g3)
        clear K2 s3 g3
        by_cases hz : r3 = 0
        · subst hz
          have t9 := (unhide K3).one.cell 0
          have tf9 := (unhide K3).one.fr 0
          simp only [kA0, kA1] at t9
          go_upto_region 12 with fail
          have K4 := hide (unhide K3).gone
          clear K3 t9 tf9 hq5
          have hq5 : ([] : List Pl.Tr).length ≤ 5 := Nat.zero_le _
          generalize w3.setCell ⟨w.heap.size + 1, 0, none⟩ (.slice none 0 0) = W4 at K4 ⊢
          have KQ := K4
          have hD := Lk.done (va := none) (vc := 0) (Ts := ([] : List Pl.Tr)) (unhide KQ)
          have t0 := (unhide KQ).one.cell 0
          have r0 := (unhide KQ).two.cell 0
          have rf := (unhide KQ).two.fr 0
          simp only [kA0, kA1] at t0 r0
          have HD := hide hD
          clear hD KQ
          go_wp2
          generalize World.setCell W4 ⟨w.heap.size, 0, none⟩ (.slice none ([] : List Pl.Tr).length 0) = WR at HD ⊢
          have q0 := (unhide HD).2.2.2.cell 0
          simp only [kA0, kA1] at q0
          exact bodyPost_ret (v := .agg #[.slice none ([] : List Pl.Tr).length 0]) (by simp [results, Tryz.results65, go_sem, q0]) rfl ⟨none, 0, ([] : List Pl.Tr), hq5, rfl, (unhide HD).1, (unhide HD).2.1, (unhide HD).2.2.1⟩
        · have hz2 : (r3 == 0) = false := by simp [hz]
          clear hz
          go_wp2
          go_loopw [30] (fun _ wr => ∃ (v : Value) (Ts : List Pl.Tr), Ts.length ≤ 5 ∧ Hid (Lk w wr S a len cap v Ts)) (fun _ wr => 6 - lenAt wr (w.heap.size + 1))
          case atStart => exact ⟨_, _, by omega, K3⟩
          case round =>
            obtain ⟨v, Ts, hq5, KK⟩ := hrel
            clear K3
            obtain ⟨va, vc, rfl⟩ := Mem.own_shape (unhide KK).own
            have HLN : Hid (lenAt wr (w.heap.size + 1) = Ts.length) := by
              have h := (unhide KK).one.cell 0
              simp only [kA0, kA1] at h
              show lenAt _ _ = _
              unfold lenAt
              rw [h]
            go_wp2_with fail
            refine wp_region_held_drew (S := fun W' => W'.cell? ⟨w.heap.size + 1, 0, none⟩ = some (.slice va Ts.length vc)) (by kernel_rfl) ?_ (fun hHeld => ?_)
            · exact (by have h := (unhide KK).drew.one.cell 0; simpa using h)
            have KD := hide (unhide KK).drew
            clear KK
            generalize wr.drew = WD at KD hHeld ⊢
            refine wpAnyH_take (i := 0) (v := ?_) rfl (by kernel_rfl) (by kernel_rfl) (by kernel_rfl) (fun _ _ _ h => h) (Or.inl ⟨by rfl, ?_⟩) (by assumption) ?_
            rotate_left
            · (intro w hSw; (try dsimp only at hSw); go_simp; (try with_reducible rfl))
            try simp only [Act.put, kB0, kB1, kB2, kB3, kB4, kB5]
            refine wpAnyH_take (i := 1) (v := ?_) rfl (by kernel_rfl) (by kernel_rfl) (by kernel_rfl) (fun _ _ _ h => h) (Or.inl ⟨by rfl, ?_⟩) (by assumption) ?_
            rotate_left
            · (intro w hSw; (try dsimp only at hSw); go_simp; (try with_reducible rfl))
            try simp only [Act.put, kB0, kB1, kB2, kB3, kB4, kB5]
            refine wpAnyH_take (i := 2) (v := ?_) rfl (by kernel_rfl) (by kernel_rfl) (by kernel_rfl) (fun _ _ _ h => h) (Or.inl ⟨by rfl, ?_⟩) (by assumption) ?_
            rotate_left
            · (intro w hSw; (try dsimp only at hSw); go_simp; (try with_reducible rfl))
            try simp only [Act.put, kB0, kB1, kB2, kB3, kB4, kB5]
            refine wpAnyH_take (i := 3) (v := ?_) rfl (by kernel_rfl) (by kernel_rfl) (by kernel_rfl) (fun _ _ _ h => h) (Or.inl ⟨by rfl, ?_⟩) (by assumption) ?_
            rotate_left
            · (intro w hSw; (try dsimp only at hSw); go_simp; (try with_reducible rfl))
            try simp only [Act.put, kB0, kB1, kB2, kB3, kB4, kB5]
            refine wpAnyH_ready (rs := [4]) (by kernel_rfl) (by simp) ?_
            refine AllReadyH.cons rfl (fun K hK => ?_) AllReadyH.nil
            go_simp
            refine (n_any S a len cap 2 _ (unhide KD).src (by omega)).mono ?_
            rintro e wX ⟨r4, rfl, q0, q1, s4, g4⟩
            refine hK.out _ _ ?_ (fun hHeld => ?_)
            · exact (by have h := ((unhide KD).call s4 g4).one.cell 0; simpa using h)
            clear hK K
            try simp only [Act.put, kB0, kB1, kB2, kB3, kB4, kB5]
            have KE := hide ((unhide KD).call s4 g4)
            clear KD s4 g4
            have hr4 : r4 = 0 ∨ r4 = 1 := by omega
            rcases hr4 with rfl | rfl
            · have hw0 : IntKind.i64.wrap 4 = 4 := by decide
              have hw1 : IntKind.i64.wrap (4 + 0) = 4 := by decide
              by_cases hl4 : Ts.length < 4
              · have y1 : (Ts.length : Int) < 4 := by omega
                refine wpAnyH_take (i := 5) (v := ?_) rfl (by kernel_rfl) (by kernel_rfl) (by kernel_rfl) (fun _ _ _ h => h) (Or.inl ⟨by rfl, ?_⟩) (by assumption) ?_
                rotate_left
                · (intro w hSw; (try dsimp only at hSw); go_simp; (try with_reducible rfl))
                try simp only [Act.put, kB0, kB1, kB2, kB3, kB4, kB5]
                refine wpAnyH_take (i := 6) (v := ?_) rfl (by kernel_rfl) (by kernel_rfl) (by kernel_rfl) (fun _ _ _ h => h) (Or.inl ⟨by rfl, ?_⟩) (by assumption) ?_
                rotate_left
                · (intro w hSw; (try dsimp only at hSw); go_simp; (try with_reducible rfl))
                try simp only [Act.put, kB0, kB1, kB2, kB3, kB4, kB5]
                refine wpAnyH_done (by kernel_rfl) ?_ _
                have t0 := (unhide KE).one.cell 0
                have tf := (unhide KE).one.fr 0
                simp only [kA0, kA1] at t0
                have KF := hide ((unhide KE).alloc (.cells #[.slice none 0 0] 31))
                have DT4 : Hid (Dt (wX.alloc (.cells #[.slice none 0 0] 31)) (w.heap.size + 2) (.slice va Ts.length vc) ⟨none, 0, []⟩) := ⟨⟨Mem.nodes_nil _ _, .inl ⟨rfl, rfl, rfl⟩, fun g o e => by cases e⟩, Nat.zero_le _, fun n hn => (by cases hn), fun g o e => by cases e⟩
                go_wp2_with (at_builtin; refine Mem.wpList_append_far _ rfl _ _ 58 rfl (w.heap.size + 2) 31 i0 _ 1 24 Tryz.underlying58 hi hz0 hz1 hz2' rfl (by decide) _ _ _ rfl (unhide KF).own ⟨wX.heap.size, 0, none⟩ 1 1 [.slice none 0 0] rfl rfl (Mem.one_new _ _ _) (fun u hu => by simp at hu; subst hu; rfl) (by unfold maxLen; omega) (by omega) (unhide KF).lt ?_)
                intro v' wZ hownZ hgrow hfar0
                have hown2 : rowT wZ (w.heap.size + 2) v' (Ts ++ [⟨none, 0, []⟩]) := by
                  show World.ownsRow _ _ _ _ _ _ _
                  rw [List.map_append, List.length_append]
                  exact hownZ
                obtain ⟨v'a, v'c, rfl⟩ := Mem.own_shape hown2
                have hfar : ∀ g, (Value.slice v'a (Ts ++ [(⟨none, 0, []⟩ : Pl.Tr)]).length v'c).ownBlock = some g → (Value.slice va Ts.length vc).ownBlock = some g ∨ (wX.alloc (.cells #[.slice none 0 0] 31)).heap.size ≤ g := fun g hg => (hfar0 g hg).imp_right (fun h => by simpa using h)
                have KZ := hide ((unhide KF).app hgrow hown2 hfar (unhide DT4))
                simp only [List.length_append, List.length_singleton] at KZ
                have z0 : wZ.cell? ⟨w.heap.size + 1, 0, none⟩ = some (.slice va Ts.length vc) := hgrow.cell (a := ⟨w.heap.size + 1, 0, none⟩) (by have h := (unhide KF).one.cell 0; simpa using h) (fun e => by have h1 : w.heap.size + 2 ≤ w.heap.size + 1 := (World.ownsRow.lt (unhide KF).own _ e.symm).1; omega)
                have zf : wZ.frozen? ⟨w.heap.size + 1, 0, none⟩ = false := ((unhide KF).one.grown hgrow (fun e => by have h1 : w.heap.size + 2 ≤ w.heap.size + 1 := (World.ownsRow.lt (unhide KF).own _ e.symm).1; omega)).fr 0
                clear hgrow hownZ hown2 hfar0 hfar KF DT4 KE t0 tf
                have HLZ : Hid (lenAt (wZ.setCell ⟨w.heap.size + 1, 0, none⟩ (.slice v'a (Ts.length + 1) v'c)) (w.heap.size + 1) = Ts.length + 1) := by
                  have h := (unhide KZ).one.cell 0
                  simp only [kA0, kA1] at h
                  show lenAt _ _ = _
                  unfold lenAt
                  rw [h]
                go_wp2
                go_roundw
                case rel => exact ⟨_, _, by rw [List.length_append, List.length_singleton]; omega, KZ⟩
                case measure => rw [unhide HLZ, unhide HLN]; omega
              · have y1 : ¬ (Ts.length : Int) < 4 := by omega
                refine wpAnyH_take (i := 5) (v := ?_) rfl (by kernel_rfl) (by kernel_rfl) (by kernel_rfl) (fun _ _ _ h => h) (Or.inl ⟨by rfl, ?_⟩) (by assumption) ?_
                rotate_left
                · (intro w hSw; (try dsimp only at hSw); go_simp; (try with_reducible rfl))
                try simp only [Act.put, kB0, kB1, kB2, kB3, kB4, kB5]
                refine wpAnyH_take (i := 6) (v := ?_) rfl (by kernel_rfl) (by kernel_rfl) (by kernel_rfl) (fun _ _ _ h => h) (Or.inl ⟨by rfl, ?_⟩) (by assumption) ?_
                rotate_left
                · (intro w hSw; (try dsimp only at hSw); go_simp; (try with_reducible rfl))
                try simp only [Act.put, kB0, kB1, kB2, kB3, kB4, kB5]
                refine wpAnyH_done (by kernel_rfl) ?_ _
                go_upto_region 12 with fail
                have KQ := KE
                have hD := Lk.done (va := va) (vc := vc) (Ts := Ts) (unhide KQ)
                have t0 := (unhide KQ).one.cell 0
                have r0 := (unhide KQ).two.cell 0
                have rf := (unhide KQ).two.fr 0
                simp only [kA0, kA1] at t0 r0
                have HD := hide hD
                clear hD KQ
                go_wp2
                generalize World.setCell wX ⟨w.heap.size, 0, none⟩ (.slice va Ts.length vc) = WR at HD ⊢
                have q0 := (unhide HD).2.2.2.cell 0
                simp only [kA0, kA1] at q0
                exact bodyPost_ret (v := .agg #[.slice va Ts.length vc]) (by simp [results, Tryz.results65, go_sem, q0]) rfl ⟨va, vc, Ts, hq5, rfl, (unhide HD).1, (unhide HD).2.1, (unhide HD).2.2.1⟩
            · have hw0 : IntKind.i64.wrap 5 = 5 := by decide
              have hw1 : IntKind.i64.wrap (4 + 1) = 5 := by decide
              by_cases hl4 : Ts.length < 5
              · have y1 : (Ts.length : Int) < 5 := by omega
                refine wpAnyH_take (i := 5) (v := ?_) rfl (by kernel_rfl) (by kernel_rfl) (by kernel_rfl) (fun _ _ _ h => h) (Or.inl ⟨by rfl, ?_⟩) (by assumption) ?_
                rotate_left
                · (intro w hSw; (try dsimp only at hSw); go_simp; (try with_reducible rfl))
                try simp only [Act.put, kB0, kB1, kB2, kB3, kB4, kB5]
                refine wpAnyH_take (i := 6) (v := ?_) rfl (by kernel_rfl) (by kernel_rfl) (by kernel_rfl) (fun _ _ _ h => h) (Or.inl ⟨by rfl, ?_⟩) (by assumption) ?_
                rotate_left
                · (intro w hSw; (try dsimp only at hSw); go_simp; (try with_reducible rfl))
                try simp only [Act.put, kB0, kB1, kB2, kB3, kB4, kB5]
                refine wpAnyH_done (by kernel_rfl) ?_ _
                have t0 := (unhide KE).one.cell 0
                have tf := (unhide KE).one.fr 0
                simp only [kA0, kA1] at t0
                have KF := hide ((unhide KE).alloc (.cells #[.slice none 0 0] 31))
                have DT4 : Hid (Dt (wX.alloc (.cells #[.slice none 0 0] 31)) (w.heap.size + 2) (.slice va Ts.length vc) ⟨none, 0, []⟩) := ⟨⟨Mem.nodes_nil _ _, .inl ⟨rfl, rfl, rfl⟩, fun g o e => by cases e⟩, Nat.zero_le _, fun n hn => (by cases hn), fun g o e => by cases e⟩
                go_wp2_with (at_builtin; refine Mem.wpList_append_far _ rfl _ _ 58 rfl (w.heap.size + 2) 31 i0 _ 1 24 Tryz.underlying58 hi hz0 hz1 hz2' rfl (by decide) _ _ _ rfl (unhide KF).own ⟨wX.heap.size, 0, none⟩ 1 1 [.slice none 0 0] rfl rfl (Mem.one_new _ _ _) (fun u hu => by simp at hu; subst hu; rfl) (by unfold maxLen; omega) (by omega) (unhide KF).lt ?_)
                intro v' wZ hownZ hgrow hfar0
                have hown2 : rowT wZ (w.heap.size + 2) v' (Ts ++ [⟨none, 0, []⟩]) := by
                  show World.ownsRow _ _ _ _ _ _ _
                  rw [List.map_append, List.length_append]
                  exact hownZ
                obtain ⟨v'a, v'c, rfl⟩ := Mem.own_shape hown2
                have hfar : ∀ g, (Value.slice v'a (Ts ++ [(⟨none, 0, []⟩ : Pl.Tr)]).length v'c).ownBlock = some g → (Value.slice va Ts.length vc).ownBlock = some g ∨ (wX.alloc (.cells #[.slice none 0 0] 31)).heap.size ≤ g := fun g hg => (hfar0 g hg).imp_right (fun h => by simpa using h)
                have KZ := hide ((unhide KF).app hgrow hown2 hfar (unhide DT4))
                simp only [List.length_append, List.length_singleton] at KZ
                have z0 : wZ.cell? ⟨w.heap.size + 1, 0, none⟩ = some (.slice va Ts.length vc) := hgrow.cell (a := ⟨w.heap.size + 1, 0, none⟩) (by have h := (unhide KF).one.cell 0; simpa using h) (fun e => by have h1 : w.heap.size + 2 ≤ w.heap.size + 1 := (World.ownsRow.lt (unhide KF).own _ e.symm).1; omega)
                have zf : wZ.frozen? ⟨w.heap.size + 1, 0, none⟩ = false := ((unhide KF).one.grown hgrow (fun e => by have h1 : w.heap.size + 2 ≤ w.heap.size + 1 := (World.ownsRow.lt (unhide KF).own _ e.symm).1; omega)).fr 0
                clear hgrow hownZ hown2 hfar0 hfar KF DT4 KE t0 tf
                have HLZ : Hid (lenAt (wZ.setCell ⟨w.heap.size + 1, 0, none⟩ (.slice v'a (Ts.length + 1) v'c)) (w.heap.size + 1) = Ts.length + 1) := by
                  have h := (unhide KZ).one.cell 0
                  simp only [kA0, kA1] at h
                  show lenAt _ _ = _
                  unfold lenAt
                  rw [h]
                go_wp2
                go_roundw
                case rel => exact ⟨_, _, by rw [List.length_append, List.length_singleton]; omega, KZ⟩
                case measure => rw [unhide HLZ, unhide HLN]; omega
              · have y1 : ¬ (Ts.length : Int) < 5 := by omega
                refine wpAnyH_take (i := 5) (v := ?_) rfl (by kernel_rfl) (by kernel_rfl) (by kernel_rfl) (fun _ _ _ h => h) (Or.inl ⟨by rfl, ?_⟩) (by assumption) ?_
                rotate_left
                · (intro w hSw; (try dsimp only at hSw); go_simp; (try with_reducible rfl))
                try simp only [Act.put, kB0, kB1, kB2, kB3, kB4, kB5]
                refine wpAnyH_take (i := 6) (v := ?_) rfl (by kernel_rfl) (by kernel_rfl) (by kernel_rfl) (fun _ _ _ h => h) (Or.inl ⟨by rfl, ?_⟩) (by assumption) ?_
                rotate_left
                · (intro w hSw; (try dsimp only at hSw); go_simp; (try with_reducible rfl))
                try simp only [Act.put, kB0, kB1, kB2, kB3, kB4, kB5]
                refine wpAnyH_done (by kernel_rfl) ?_ _
                go_upto_region 12 with fail
                have KQ := KE
                have hD := Lk.done (va := va) (vc := vc) (Ts := Ts) (unhide KQ)
                have t0 := (unhide KQ).one.cell 0
                have r0 := (unhide KQ).two.cell 0
                have rf := (unhide KQ).two.fr 0
                simp only [kA0, kA1] at t0 r0
                have HD := hide hD
                clear hD KQ
                go_wp2
                generalize World.setCell wX ⟨w.heap.size, 0, none⟩ (.slice va Ts.length vc) = WR at HD ⊢
                have q0 := (unhide HD).2.2.2.cell 0
                simp only [kA0, kA1] at q0
                exact bodyPost_ret (v := .agg #[.slice va Ts.length vc]) (by simp [results, Tryz.results65, go_sem, q0]) rfl ⟨va, vc, Ts, hq5, rfl, (unhide HD).1, (unhide HD).2.1, (unhide HD).2.2.1⟩
end WSrc
end Go.Proofs.YtepmojmelcngeaaGreatDoor

