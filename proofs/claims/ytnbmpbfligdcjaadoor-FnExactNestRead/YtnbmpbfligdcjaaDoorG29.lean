/- Several texts of one claim in one file: MemIo, MemApp2, WNReadK, WBytesF, WIll3. -/
import Derived.Test.YtnbmpbfligdcjaaDoorG26
import Derived.Test.YtnbmpbfligdcjaaDoorPlainCells
import Derived.Test.YtnbmpbfligdcjaaDoorG28
import Derived.Test.YtnbmpbfligdcjaaDoorG20
import Derived.Test.YtnbmpbfligdcjaaDoorPlainNRead
import Derived.Test.YtnbmpbfligdcjaaDoorWBytesI
import Derived.Test.YtnbmpbfligdcjaaDoorProg
import Derived.WalkKit
/- A row of items of the call's own, each with a row of nodes of its own. -/
namespace Go.Proofs.YtnbmpbfligdcjaaDoor
open Go.RowKit
namespace Mem
theorem row_off2 {w w' : World} {B e size n : Nat} {v : Value} {xs : List Value} {r : Option Nat} (h : w.ownsRow B e size v n xs) (hg : w.grownBy w' r) (hr : ∀ g, v.ownBlock = some g → some g ≠ r) : w'.ownsRow B e size v n xs := by
  refine ⟨h.1, ?_⟩
  rcases h.2 with h0 | ⟨g, cap, cur, rfl, hb, hh, rest⟩
  · exact .inl h0
  · exact .inr ⟨g, cap, cur, rfl, hb, (hg.block g (Array.getElem?_eq_some_iff.1 hh).1 (hr g rfl)).trans hh, rest⟩
structure Io (W : World) (S : Nat) (v : Value) (Is : List Pl.It) : Prop where
  row : W.ownsRow S 81 2 v Is.length (Pl.cellsI Is)
  each : ∀ (i : Nat) x, Is[i]? = some x → ownN W S x.t.val x.t.L ∧ ∀ g, x.t.val.ownBlock = some g → v.ownBlock ≠ some g
  apart : ∀ (i j : Nat) x y, i ≠ j → Is[i]? = some x → Is[j]? = some y → ∀ g, x.t.val.ownBlock = some g → y.t.val.ownBlock ≠ some g
theorem Io.call {W W' : World} {S : Nat} {v : Value} {Is : List Pl.It} (h : Io W S v Is) (b : Below W.heap.size W W') : Io W' S v Is :=
  ⟨own_call h.row b, fun i x hx => ⟨ownN_call (h.each i x hx).1 b, (h.each i x hx).2⟩, h.apart⟩
theorem Io.mono {W : World} {S S' : Nat} {v : Value} {Is : List Pl.It} (h : Io W S v Is) (hs : S' ≤ S) : Io W S' v Is :=
  ⟨own_mono h.row hs, fun i x hx => ⟨ownN_mono (h.each i x hx).1 hs, (h.each i x hx).2⟩, h.apart⟩
theorem Io.set {W : World} {S : Nat} {v : Value} {Is : List Pl.It} (h : Io W S v Is) (p : Addr) (u : Value) (hp : p.block < S) : Io (W.setCell p u) S v Is := by
  refine ⟨⟨h.row.1, ?_⟩, fun i x hx => ⟨ownN_set (h.each i x hx).1 p u hp, (h.each i x hx).2⟩, h.apart⟩
  rcases h.row.2 with h0 | ⟨g, cap, cur, hv, hb, hg, rest⟩
  · exact .inl h0
  · exact .inr ⟨g, cap, cur, hv, hb, (heap_setCell_other _ _ _ _ (by omega)).trans hg, rest⟩
theorem Io.app {W W' : World} {S S1 : Nat} {v v1 v' : Value} {Is Is1 : List Pl.It} (h : Io W S v Is) (h1 : Io W S1 v1 Is1) (hS : S ≤ S1) (hv : ∀ g, v.ownBlock = some g → g < S1) (hb : ∀ (i : Nat) x, Is[i]? = some x → ∀ g, x.t.val.ownBlock = some g → g < S1)
    (own' : W'.ownsRow S 81 2 v' (Is.length + Is1.length) (Pl.cellsI Is ++ Pl.cellsI Is1)) (gr : W.grownBy W' v.ownBlock) (far : ∀ g, v'.ownBlock = some g → v.ownBlock = some g ∨ W.heap.size ≤ g) : Io W' S v' (Is ++ Is1) := by
  have key : ∀ x : Pl.It, ownN W S x.t.val x.t.L → (∀ g, x.t.val.ownBlock = some g → v.ownBlock ≠ some g) → ownN W' S x.t.val x.t.L ∧ ∀ g, x.t.val.ownBlock = some g → v'.ownBlock ≠ some g := fun x hx hn =>
    ⟨row_off2 hx gr (fun g hg e => hn g hg e.symm), fun g hg e => by
      rcases far g e with h2 | h2
      · exact hn g hg h2
      · have := (ownN_lt hx g hg).2; omega⟩
  have lo1 : ∀ (i : Nat) x, Is1[i]? = some x → ∀ g, x.t.val.ownBlock = some g → S1 ≤ g := fun i x hx g hg => (ownN_lt (h1.each i x hx).1 g hg).1
  refine ⟨by rw [List.length_append, Pl.cellsI_app]; exact own', fun i x hx => ?_, fun i j x y hij hx hy g hg => ?_⟩
  · by_cases e : i < Is.length
    · rw [List.getElem?_append_left e] at hx
      exact key x (h.each i x hx).1 (h.each i x hx).2
    · rw [List.getElem?_append_right (by omega)] at hx
      exact key x (ownN_mono (h1.each _ x hx).1 hS) (fun g hg e2 => by have := lo1 _ x hx g hg; have := hv g e2; omega)
  · by_cases e : i < Is.length
    · rw [List.getElem?_append_left e] at hx
      by_cases e2 : j < Is.length
      · rw [List.getElem?_append_left e2] at hy
        exact h.apart i j x y hij hx hy g hg
      · rw [List.getElem?_append_right (by omega)] at hy
        intro e3
        have := lo1 _ y hy g e3
        have := hb i x hx g hg
        omega
    · rw [List.getElem?_append_right (by omega)] at hx
      by_cases e2 : j < Is.length
      · rw [List.getElem?_append_left e2] at hy
        intro e3
        have := lo1 _ x hx g hg
        have := hb j y hy g e3
        omega
      · rw [List.getElem?_append_right (by omega)] at hy
        exact h1.apart _ _ x y (by omega) hx hy g hg
theorem Io.items {W : World} {S cap n : Nat} {a : Option Addr} {Is : List Pl.It} (h : Io W S (.slice a n cap) Is) : n = Is.length ∧ isItems W a Is := by
  rcases h.row.2 with ⟨e, h0⟩ | ⟨g, c, cur, e, hb, hg, rest⟩
  · cases e
    have : Is = [] := List.eq_nil_of_length_eq_zero h0
    subst this
    exact ⟨rfl, items_nil _ _⟩
  · cases e
    refine ⟨rfl, fun i x hx => ⟨⟨g, 0, rfl, (Array.getElem?_eq_some_iff.1 hg).1, ?_, ?_⟩, (ownN_nodes (h.each i x hx).1).2⟩⟩
    · have := World.ownsRow.cells h.row (g := g) rfl (i * 2) _ (Pl.cellsI_at Is i x hx).1
      rw [add_lit] at this
      rw [Nat.zero_add]; exact this
    · have := World.ownsRow.cells h.row (g := g) rfl (i * 2 + 1) _ (Pl.cellsI_at Is i x hx).2
      rw [add_lit] at this
      rw [Nat.zero_add]; exact this
theorem Io.lt {W : World} {S : Nat} {v : Value} {Is : List Pl.It} (h : Io W S v Is) : (∀ g, v.ownBlock = some g → S ≤ g ∧ g < W.heap.size) ∧ ∀ (i : Nat) x, Is[i]? = some x → ∀ g, x.t.val.ownBlock = some g → S ≤ g ∧ g < W.heap.size :=
  ⟨fun g hg => World.ownsRow.lt h.row g hg, fun i x hx g hg => ownN_lt (h.each i x hx).1 g hg⟩
theorem Io.there {W : World} {S : Nat} {v : Value} {Is : List Pl.It} (h : Io W S v Is) (hn : Is.length ≠ 0) : ∃ g cap, v = .slice (some ⟨g, 0, none⟩) Is.length cap ∧ ∀ j u, (Pl.cellsI Is)[j]? = some u → W.cell? ((⟨g, 0, none⟩ : Addr).add j) = some u := by
  rcases h.row.2 with ⟨e, h0⟩ | ⟨g, c, cur, e, hb, hg, rest⟩
  · exact absurd h0 hn
  · subst e
    exact ⟨g, c, rfl, fun j u hj => World.ownsRow.cells h.row (g := g) rfl j u hj⟩
theorem Io.nil (W : World) (S : Nat) : Io W S (.slice none 0 0) [] := ⟨⟨rfl, .inl ⟨rfl, rfl⟩⟩, fun i x h => (by cases h), fun i j x y _ h => (by cases h)⟩
/-- One item alone. -/
theorem Io.one {W : World} {S g : Nat} {m : Int} {t : Pl.Tr} (hb : S ≤ g) (hg : W.heap[g]? = some (.cells #[.int .i64 m, t.val] 81 (0, 0))) (ht : ownN W S t.val t.L) (hn : ∀ q, t.val.ownBlock = some q → q ≠ g) : Io W S (.slice (some ⟨g, 0, none⟩) 1 1) [⟨m, t⟩] := by
  refine ⟨⟨rfl, .inr ⟨g, 1, _, rfl, hb, hg, Nat.le_refl _, by decide, rfl, rfl⟩⟩, fun i x hx => ?_, fun i j x y hij hx hy => ?_⟩
  · cases i with
    | zero =>
      have e : (⟨m, t⟩ : Pl.It) = x := by simpa using hx
      subst e
      exact ⟨ht, fun q hq e => hn q hq (Option.some.inj e).symm⟩
    | succ i => simp at hx
  · cases i with
    | zero =>
      cases j with
      | zero => exact absurd rfl hij
      | succ j => simp at hy
    | succ i => simp at hx
end Mem
end Go.Proofs.YtnbmpbfligdcjaaDoor

/- An append to a row of the call's own: it stays in its block, or lies in a new one. -/
namespace Go.Proofs.YtnbmpbfligdcjaaDoor
open Go.RowKit
namespace Mem
theorem run_append_far {P : Program} (w : World) (base : Nat) (t ty e : TypeId) (i : TypeInfo) (z : Value) (size bytes : Nat) (ht : P.underlying t = some (.slice e)) (hi : P.info? e = some i) (hz : i.zero = some z)
    (hsize : i.size = size) (hby : i.bytes = bytes) (hzs : z.cells.size = size) (hsz : 0 < size)
    (v : Value) (n : Nat) (xs : List Value) (hown : w.ownsRow base e size v n xs)
    (a : Addr) (m c : Nat) (news : List Value) (hl : news.length = m * size) (hnews : ∀ j u, news[j]? = some u → w.cell? (a.add j) = some u) (h1 : ∀ u ∈ news, u.oneCell' = true)
    (h63 : n + m ≤ maxLen) (hbytes : (n + m) * bytes ≤ 140737488355328) (hbase : base ≤ w.heap.size) :
    ∃ v' w', (Builtin.append_ #[t, t] ty #[v, .slice (some a) m c]).run P w = .ok v' w' ∧ w'.ownsRow base e size v' (n + m) (xs ++ news) ∧ w.grownBy w' v.ownBlock ∧ ∀ g, v'.ownBlock = some g → v.ownBlock = some g ∨ w.heap.size ≤ g := by
  obtain ⟨v', w', hr, h2, h3, -⟩ := run_append_own (P := P) w base t ty e i z size bytes ht hi hz hsize hby hzs hsz v n xs hown a m c news hl hnews h1 h63 hbytes hbase
  refine ⟨v', w', hr, h2, h3, ?_⟩
  rcases hown.2 with ⟨rfl, rfl⟩ | ⟨g, cap, cur, rfl, hbg, hg, hnc, hcm, hcs, htake⟩
  · have hx : xs = [] := List.eq_nil_of_length_eq_zero (by simpa using hown.1)
    subst hx
    obtain ⟨v2, w2, hr2, k2, -, -⟩ := run_append_own (P := P) w w.heap.size t ty e i z size bytes ht hi hz hsize hby hzs hsz _ 0 [] (World.ownsRow_nil w w.heap.size e size) a m c news hl hnews h1 h63 hbytes (Nat.le_refl _)
    rw [hr] at hr2
    cases hr2
    exact fun g hg => .inr (k2.lt g hg).1
  · subst hsize hby
    by_cases hroom : n + m ≤ cap
    · have hfit : n * i.size + news.length ≤ cur.size := by rw [hl, hcs, ← Nat.add_mul]; exact Nat.mul_le_mul_right _ hroom
      rw [run_append_room (P := P) w t ty e i ht hi g n cap cur hg a m c news hl hnews h1 hroom hfit] at hr
      cases hr
      exact fun g hg => .inl hg
    · have holds : ∀ j u, xs[j]? = some u → w.cell? ((⟨g, 0, none⟩ : Addr).add j) = some u := hown.cells (g := g) rfl
      have hsmall : n + m ≤ 9223372036854775807 := by simp only [maxLen] at h63; omega
      rw [run_append_grow (P := P) w t ty e i z ht hi hz ⟨g, 0, none⟩ n cap xs hown.1 holds a m c news hl hnews (by omega) (by omega) (growslice_fits (by omega) hbytes)] at hr
      cases hr
      intro g' hg'
      cases hg'
      exact .inr (Nat.le_refl _)
theorem wpList_append_far {P : Program} (w : World) {ops : Array Oper} {rest : List Oper} {o : Oper} {a : Act} {Q : Exit → Act → World → Prop} (hgd : o.guard = none) (s x : Operand) (t : TypeId)
    (ho : o.op = .call { callee := .builtin .append, args := #[s, x], argTypes := #[t, t] })
    (base : Nat) (e : TypeId) (i : TypeInfo) (z : Value) (size bytes : Nat) (ht : P.underlying t = some (.slice e)) (hi : P.info? e = some i) (hz : i.zero = some z)
    (hsize : i.size = size) (hby : i.bytes = bytes) (hzs : z.cells.size = size) (hsz : 0 < size)
    (v : Value) (n : Nat) (xs : List Value) (hs : a.eval s = v) (hown : w.ownsRow base e size v n xs)
    (ad : Addr) (m c : Nat) (news : List Value) (hx : a.eval x = .slice (some ad) m c) (hl : news.length = m * size) (hnews : ∀ j u, news[j]? = some u → w.cell? (ad.add j) = some u) (h1 : ∀ u ∈ news, u.oneCell' = true)
    (h63 : n + m ≤ maxLen) (hbytes : (n + m) * bytes ≤ 140737488355328) (hbase : base ≤ w.heap.size)
    (h : ∀ v' w', w'.ownsRow base e size v' (n + m) (xs ++ news) → w.grownBy w' v.ownBlock → (∀ g, v'.ownBlock = some g → v.ownBlock = some g ∨ w.heap.size ≤ g) → wpList P ops Q rest (a.put o.dst v') w') : wpList P ops Q (o :: rest) a w :=
  wpList_plain hgd fun _ hK => by
    obtain ⟨v', w', hr, h2, h3, h4⟩ := run_append_far (P := P) w base t o.type e i z size bytes ht hi hz hsize hby hzs hsz v n xs hown ad m c news hl hnews h1 h63 hbytes hbase
    unfold Oper.wp execOp
    simp only [ho, resolve, invoke, builtin, Sem.run_bind, Sem.run_pure, Result.andThen_ok, List.map_toArray, List.map_cons, List.map_nil, hs, hx, hr]
    exact hK _ _ (h v' w' h2 h3 h4)
end Mem
end Go.Proofs.YtnbmpbfligdcjaaDoor

/- What NestRead keeps, in both: the result, the reader and the row of items. -/
namespace Go.Proofs.YtnbmpbfligdcjaaDoor
open Go.RowKit
namespace Pl
theorem treeB_ok {L : List Nd} (h : treeB L = true) : L.length ≤ 1048576 ∧ ∀ n ∈ L, n.path.size ≤ 1048576 ∧ n.data.size ≤ 1048576 := by
  obtain ⟨h40, hn⟩ := tree_parts h
  refine ⟨by omega, fun n hm => ?_⟩
  have hb := hn n hm
  obtain ⟨hd, -, -, -⟩ := node_bounds hb
  have hp := path_126 (node_right hb).1
  omega
theorem stepsI_right {s : ByteArray} {a : Int} (j : Nat) (h : (stepsI s a j).f = none) : ∀ x ∈ (stepsI s a j).L, treeB x.2 = true := by
  induction j with
  | zero => intro x hx; cases hx
  | succ j ih =>
    have h' : (itemR s (stepsI s a j).a (stepsI s a j).f).f = none := h
    obtain ⟨hf, -, -, -, -, -, -, -, ht⟩ := itemR_none h'
    intro x hx
    rcases List.mem_append.1 hx with hx | hx
    · exact ih hf x hx
    · cases List.mem_singleton.1 hx; exact ht
theorem stepsI_bound {s : ByteArray} {a : Int} (h8 : s.size ≤ 8000) (ha : a ≤ 9223372036854775807) (j : Nat) : (stepsI s a j).a ≤ 9223372036854775807 := by
  induction j with
  | zero => exact ha
  | succ j ih => exact strR_at h8 (numR_at h8 ih)
end Pl
namespace Mem
theorem Io.grown {W W' : World} {S : Nat} {v : Value} {Is : List Pl.It} {r : Option Nat} (h : Io W S v Is) (g : W.grownBy W' r) (hr : ∀ q, r = some q → q < S) : Io W' S v Is :=
  ⟨row_off2 h.row g (fun k hk e => by have := (h.lt.1 k hk).1; have := hr k e.symm; omega), fun i x hx => ⟨ownN_grown (h.each i x hx).1 g (fun k hk e => by have := (h.lt.2 i x hx k hk).1; have := hr k e.symm; omega), (h.each i x hx).2⟩, h.apart⟩
end Mem
namespace WNReadK
/-- What NestRead answers: a row of items of its own, and a code. -/
def Outs (w w' : World) (C : Int) (O : List (Int × List Pl.Nd)) (e : Ending) : Prop := ∃ v Is, e = .returned (.agg #[v, .int .i64 C]) ∧ Mem.Io w' w.heap.size v Is ∧ Is.map Pl.It.r = O
theorem infoI : (Tryd.prog.info? 81).map (fun i => (i.zero, i.size, i.bytes)) = some (some (.agg #[.int .i64 0, .slice none 0 0]), 2, 32) := by kernel_rfl
structure Nk (w wr : World) (X2 X3 B : Nat) (rc : Array Value) (RT : TypeId) (v : Value) (Is : List Pl.It) : Prop where
  bel : Below w.heap.size w wr
  big : B ≤ wr.heap.size
  x2 : Mem.Blk wr X2 #[.slice none 0 0, .int .i64 0] 47
  x3 : Mem.Blk wr X3 rc RT
  row : Mem.Io wr B v Is
  l2 : w.heap.size ≤ X2 ∧ X2 < B
  l3 : w.heap.size ≤ X3 ∧ X3 < B
  n23 : X2 ≠ X3
theorem Nk.read {w wr W : World} {X2 X3 B : Nat} {rc rc' : Array Value} {RT : TypeId} {v : Value} {Is : List Pl.It} (h : Nk w wr X2 X3 B rc RT v Is) (g : wr.grownBy W (some X3)) (hr : Mem.Blk W X3 rc' RT) : Nk w W X2 X3 B rc' RT v Is :=
  ⟨h.bel.grown g h.bel.size (fun k hk => by cases hk; exact h.l3.1), Nat.le_trans h.big g.size, h.x2.grown g (fun e => h.n23 (Option.some.inj e)), hr, h.row.grown g (fun q hq => by cases hq; exact h.l3.2), h.l2, h.l3, h.n23⟩
theorem Nk.call {w wr W : World} {X2 X3 B : Nat} {rc : Array Value} {RT : TypeId} {v : Value} {Is : List Pl.It} (h : Nk w wr X2 X3 B rc RT v Is) (b : Below wr.heap.size wr W) : Nk w W X2 X3 B rc RT v Is :=
  h.read (Mem.grown_of_below b _) (h.x3.call b)
/-- One item more: its row is of the round's own. -/
theorem Nk.put {w wr W w4 : World} {X2 X3 B S : Nat} {rc rc' : Array Value} {RT : TypeId} {v v' : Value} {Is : List Pl.It} {m : Int} {t : Pl.Tr} (h : Nk w wr X2 X3 B rc RT v Is) (g : wr.grownBy W (some X3)) (hr : Mem.Blk W X3 rc' RT)
    (ht : Mem.ownN W S t.val t.L) (hS : wr.heap.size ≤ S)
    (own : w4.ownsRow B 81 2 v' (Is.length + 1) (Pl.cellsI Is ++ [.int .i64 m, t.val])) (gr : (W.alloc (.cells #[.int .i64 m, t.val] 81)).grownBy w4 v.ownBlock) (far : ∀ g, v'.ownBlock = some g → v.ownBlock = some g ∨ (W.alloc (.cells #[.int .i64 m, t.val] 81)).heap.size ≤ g) :
    Nk w w4 X2 X3 B rc' RT v' (Is ++ [⟨m, t⟩]) := by
  have hb := h.row.lt
  have bA : Below W.heap.size W (W.alloc (.cells #[.int .i64 m, t.val] 81)) := (Below.refl _ _).alloc (Nat.le_refl _) _
  have hK := (h.read g hr).call bA
  have hbig := h.big
  have gs := g.size
  have ht2 := Mem.ownN_call ht bA
  have one : Mem.Io (W.alloc (.cells #[.int .i64 m, t.val] 81)) wr.heap.size (.slice (some ⟨W.heap.size, 0, none⟩) 1 1) [⟨m, t⟩] :=
    Mem.Io.one gs (heap_alloc_new _ _) (Mem.ownN_mono ht2 hS) (fun q hq e => by have := (Mem.ownN_lt ht q hq).2; omega)
  have l2 := h.l2
  have l3 := h.l3
  have ob : ∀ q, v.ownBlock = some q → B ≤ q := fun q hq => (hb.1 q hq).1
  refine ⟨hK.bel.grown gr hK.bel.size (fun q hq => by have := ob q hq; omega), Nat.le_trans hK.big gr.size, hK.x2.grown gr (fun e => by have := ob _ e.symm; omega), hK.x3.grown gr (fun e => by have := ob _ e.symm; omega), ?_, h.l2, h.l3, h.n23⟩
  exact hK.row.app one hbig (fun q hq => (hb.1 q hq).2) (fun i x hx q hq => (hb.2 i x hx q hq).2) own gr far
theorem Nk.done {w wr : World} {X2 X3 B : Nat} {rc : Array Value} {RT : TypeId} {v : Value} {Is : List Pl.It} (h : Nk w wr X2 X3 B rc RT v Is) (u0 u1 : Value) : Mem.Io ((wr.setCell ⟨X2, 0, none⟩ u0).setCell ⟨X2, 1, none⟩ u1) w.heap.size v Is ∧ Below w.heap.size w ((wr.setCell ⟨X2, 0, none⟩ u0).setCell ⟨X2, 1, none⟩ u1) := by
  have h2 := h.l2
  exact ⟨((h.row.set _ u0 (by show X2 < B; omega)).set _ u1 (by show X2 < B; omega)).mono (by omega), (h.bel.setCell (by show w.heap.size ≤ X2; omega) _).setCell (by show w.heap.size ≤ X2; omega) _⟩
theorem own_cap {W : World} {B n vc : Nat} {va : Option Addr} {xs : List Value} (own : W.ownsRow B 81 2 (.slice va n vc) n xs) : n ≤ vc := by
  rcases own.2 with ⟨e, h0⟩ | ⟨g, cap, cur, e, -, -, h, -⟩
  · omega
  · cases e; exact h
theorem two_new (w : World) (m : Int) (u : Value) (e : TypeId) : ∀ j x, [Value.int .i64 m, u][j]? = some x → (w.alloc (.cells #[.int .i64 m, u] e)).cell? ((⟨w.heap.size, 0, none⟩ : Addr).add j) = some x := by
  intro j x hx
  rw [Mem.add_lit, cell_of_row _ _ _ _ _ (0, 0) (heap_alloc_new _ _)]
  simpa using hx
theorem two_one (m : Int) (a : Option Addr) (n c : Nat) : ∀ x ∈ [Value.int .i64 m, Value.slice a n c], x.oneCell' = true := by
  intro x hx
  simp only [List.mem_cons, List.not_mem_nil, or_false] at hx
  rcases hx with rfl | rfl <;> rfl
end WNReadK
end Go.Proofs.YtnbmpbfligdcjaaDoor

/- The walk of the specification's TreeBytes. -/
namespace Go.Proofs.YtnbmpbfligdcjaaDoor
open Go.RowKit
namespace WBytesT
set_option maxRecDepth 100000 in
theorem spec_any (a : Option Addr) (cap : Nat) (L : List Pl.Nd) (w : World) (hl : L.length ≤ 1048576) (hv : Mem.isNodes w a L) (hok : ∀ n ∈ L, n.path.size ≤ 1048576 ∧ n.data.size ≤ 1048576) :
    Calls Tryd.prog 8 #[.agg #[.slice a L.length cap]] w fun e w' => e = .returned (.string (Pl.treeBytes L)) ∧ Below w.heap.size w w' := by
  have b0 : Below w.heap.size w (w.alloc (.cells #[.slice a L.length cap] 29)) := (Below.refl _ _).alloc (Nat.le_refl _) _
  have hr := hide (WTreeS.right_tree a cap L _ hl (Mem.nodes_call hv b0) hok)
  have hby := hide (fun W (b : Below w.heap.size w W) (ht : Pl.treeB L = true) => bytes_any a cap L W (Pl.tree_parts ht).1 (Mem.nodes_call hv b) (Pl.tree_parts ht).2)
  have hvar := Mem.var_new w [.slice a L.length cap] 29
  have E : Hid (Pl.treeBytes L = if Pl.treeB L then (if 8000 < (Pl.bytesT L).size then ⟨#[]⟩ else Pl.bytesT L) else ⟨#[]⟩) := rfl
  generalize Pl.treeBytes L = R at E ⊢
  generalize Pl.treeB L = R2 at E hr hby
  generalize Pl.bytesT L = Y at E hby
  clear hv hok
  cases R2
  · have E2 := hide (show R = ⟨#[]⟩ from unhide E)
    clear hvar hby E
    go_enter Tryd.func8, Tryd.ntmps8
    go_wp2_with fail
    refine (unhide hr).mono ?_
    rintro e w1 ⟨rfl, b1⟩
    have b2 := b0.trans (b1.mono b0.size)
    clear hr b0 b1
    go_wp2
    go_ret
    exact ⟨ret_string (unhide E2).symm, b2⟩
  have hby2 := hide (fun W b => unhide hby W b rfl)
  have EL : Hid (8000 < Y.size → R = ⟨#[]⟩) := fun hy => by have := unhide E; rw [if_pos rfl, if_pos hy] at this; exact this
  have ES : Hid (¬ 8000 < Y.size → R = Y) := fun hy => by have := unhide E; rw [if_pos rfl, if_neg hy] at this; exact this
  clear hby E
  go_enter Tryd.func8, Tryd.ntmps8
  go_wp2_with fail
  refine (unhide hr).mono ?_
  rintro e w1 ⟨rfl, b1⟩
  have b2 := b0.trans (b1.mono b0.size)
  have c0 := (Mem.var_call hvar b1).2 0 _ rfl
  clear hvar hr b0 b1
  go_wp2_with fail
  refine (unhide hby2 _ b2).mono ?_
  rintro e w3 ⟨rfl, b3⟩
  have b4 := b2.trans (b3.mono b2.size)
  clear b2 b3 hby2
  by_cases hy : 8000 < Y.size
  · have E2 := hide (unhide EL hy)
    clear EL ES
    go_wp2
    go_ret
    exact ⟨ret_string (unhide E2).symm, b4⟩
  · have E2 := hide (unhide ES hy)
    clear EL ES
    go_wp2
    go_ret
    exact ⟨ret_string (unhide E2).symm, b4⟩
end WBytesT
end Go.Proofs.YtnbmpbfligdcjaaDoor

/- The walk of the specification's l03Ill. -/
namespace Go.Proofs.YtnbmpbfligdcjaaDoor
open Go.RowKit
namespace WIll3
set_option maxRecDepth 100000 in
theorem ill_any (c : Int) (w : World) :
    Calls Tryd.prog 37 #[.int .i64 c] w fun e w' => e = .returned (.agg #[.slice none 0 0, .int .i64 c]) ∧ Below w.heap.size w w' := by
  have b0 : Below w.heap.size w (w.alloc (.cells #[.slice none 0 0, .int .i64 c] 34)) := (Below.refl _ _).alloc (Nat.le_refl _) _
  have HB := hide (fun o (a : Addr) v (h : w.heap.size ≤ a.block) (a2 : Addr) v2 (h2 : w.heap.size ≤ a2.block) => ((((Below.refl w.heap.size w).alloc (Nat.le_refl _) o).setCell h v).setCell h2 v2))
  clear b0
  go_enter Tryd.func37, Tryd.ntmps37
  go_wp2
  refine bodyPost_ret (v := .agg #[.slice none 0 0, .int .i64 c]) (by simp [results, Tryd.results37, go_sem]) rfl ⟨rfl, ?_⟩
  exact (Below.refl _ _).alloc (Nat.le_refl _) _
end WIll3
end Go.Proofs.YtnbmpbfligdcjaaDoor

