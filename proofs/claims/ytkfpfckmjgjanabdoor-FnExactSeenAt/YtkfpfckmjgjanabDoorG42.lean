/- Several texts of one claim in one file: MemApp2, WChildA. -/
import Derived.Test.YtkfpfckmjgjanabDoorG17
import Derived.Test.YtkfpfckmjgjanabDoorWPickS
import Derived.Test.YtkfpfckmjgjanabDoorWTreeS
import Derived.Test.YtkfpfckmjgjanabDoorG27
import Derived.Test.YtkfpfckmjgjanabDoorG32
/- An append to a row of the call's own: it stays in its block, or lies in a new one. -/
namespace Go.Proofs.YtkfpfckmjgjanabDoor
open Go.RowKit
namespace Mem
theorem run_append_far {P : Program} (w : World) (base : Nat) (t ty e : TypeId) (i : TypeInfo) (z : Value) (size bytes : Nat) (ht : P.underlying t = some (.slice e)) (hi : P.info? e = some i) (hz : i.zero = some z)
    (hsize : i.size = size) (hby : i.bytes = bytes) (hzs : z.cells.size = size) (hsz : 0 < size)
    (v : Value) (n : Nat) (xs : List Value) (hown : w.ownsRow base e size v n xs)
    (a : Addr) (m c : Nat) (news : List Value) (hl : news.length = m * size) (hnews : ∀ j u, news[j]? = some u → w.cell? (a.add j) = some u) (h1 : ∀ u ∈ news, u.oneCell' = true)
    (h63 : n + m ≤ maxLen) (hbytes : (n + m) * bytes ≤ 140737488355328) (hbase : base ≤ w.heap.size) :
    ∃ v' w', (Builtin.append_ #[t, t] ty #[v, .slice (some a) m c]).run P w = .ok v' w' ∧ w'.ownsRow base e size v' (n + m) (xs ++ news) ∧ w.grownBy w' v.ownBlock ∧ ∀ g, v'.ownBlock = some g → v.ownBlock = some g ∨ w.heap.size ≤ g := by
  obtain ⟨v', w', hr, h2, h3, -⟩ := run_append_own (P := P) w base t ty e i z size bytes ht hi hz hsize hby hzs hsz v n xs hown a m c news hl hnews h1 h63 hbytes hbase
  refine ⟨v', w', hr, h2, h3, ?_⟩
  rcases hown.2 with ⟨rfl, rfl⟩ | ⟨g, cap, cur, rfl, hbg, hg, hnc, hcm, hcs, htake⟩
  · have hx : xs = [] := List.eq_nil_of_length_eq_zero (by simpa using hown.1)
    subst hx
    obtain ⟨v2, w2, hr2, k2, -, -⟩ := run_append_own (P := P) w w.heap.size t ty e i z size bytes ht hi hz hsize hby hzs hsz _ 0 [] (World.ownsRow_nil w w.heap.size e size) a m c news hl hnews h1 h63 hbytes (Nat.le_refl _)
    rw [hr] at hr2
    cases hr2
    exact fun g hg => .inr (k2.lt g hg).1
  · subst hsize hby
    by_cases hroom : n + m ≤ cap
    · have hfit : n * i.size + news.length ≤ cur.size := by rw [hl, hcs, ← Nat.add_mul]; exact Nat.mul_le_mul_right _ hroom
      rw [run_append_room (P := P) w t ty e i ht hi g n cap cur hg a m c news hl hnews h1 hroom hfit] at hr
      cases hr
      exact fun g hg => .inl hg
    · have holds : ∀ j u, xs[j]? = some u → w.cell? ((⟨g, 0, none⟩ : Addr).add j) = some u := hown.cells (g := g) rfl
      have hsmall : n + m ≤ 9223372036854775807 := by simp only [maxLen] at h63; omega
      rw [run_append_grow (P := P) w t ty e i z ht hi hz ⟨g, 0, none⟩ n cap xs hown.1 holds a m c news hl hnews (by omega) (by omega) (growslice_fits (by omega) hbytes)] at hr
      cases hr
      intro g' hg'
      cases hg'
      exact .inr (Nat.le_refl _)
theorem wpList_append_far {P : Program} (w : World) {ops : Array Oper} {rest : List Oper} {o : Oper} {a : Act} {Q : Exit → Act → World → Prop} (hgd : o.guard = none) (s x : Operand) (t : TypeId)
    (ho : o.op = .call { callee := .builtin .append, args := #[s, x], argTypes := #[t, t] })
    (base : Nat) (e : TypeId) (i : TypeInfo) (z : Value) (size bytes : Nat) (ht : P.underlying t = some (.slice e)) (hi : P.info? e = some i) (hz : i.zero = some z)
    (hsize : i.size = size) (hby : i.bytes = bytes) (hzs : z.cells.size = size) (hsz : 0 < size)
    (v : Value) (n : Nat) (xs : List Value) (hs : a.eval s = v) (hown : w.ownsRow base e size v n xs)
    (ad : Addr) (m c : Nat) (news : List Value) (hx : a.eval x = .slice (some ad) m c) (hl : news.length = m * size) (hnews : ∀ j u, news[j]? = some u → w.cell? (ad.add j) = some u) (h1 : ∀ u ∈ news, u.oneCell' = true)
    (h63 : n + m ≤ maxLen) (hbytes : (n + m) * bytes ≤ 140737488355328) (hbase : base ≤ w.heap.size)
    (h : ∀ v' w', w'.ownsRow base e size v' (n + m) (xs ++ news) → w.grownBy w' v.ownBlock → (∀ g, v'.ownBlock = some g → v.ownBlock = some g ∨ w.heap.size ≤ g) → wpList P ops Q rest (a.put o.dst v') w') : wpList P ops Q (o :: rest) a w :=
  wpList_plain hgd fun _ hK => by
    obtain ⟨v', w', hr, h2, h3, h4⟩ := run_append_far (P := P) w base t o.type e i z size bytes ht hi hz hsize hby hzs hsz v n xs hown ad m c news hl hnews h1 h63 hbytes hbase
    unfold Oper.wp execOp
    simp only [ho, resolve, invoke, builtin, Sem.run_bind, Sem.run_pure, Result.andThen_ok, List.map_toArray, List.map_cons, List.map_nil, hs, hx, hr]
    exact hK _ _ (h v' w' h2 h3 h4)
end Mem
end Go.Proofs.YtkfpfckmjgjanabDoor

/- What stands while the specification asks the layers at a path. -/
namespace Go.Proofs.YtkfpfckmjgjanabDoor
open Go.RowKit
namespace WPick
theorem sz_alloc (w : World) (o : Obj) : (w.alloc o).heap.size = w.heap.size + 1 := by simp
def boolsV (H : List Bool) : List Value := H.map Value.bool
theorem infoB : (Tryd.prog.info? 4).map (fun i => (i.zero, i.size, i.bytes)) = some (some (.bool false), 1, 1) := by kernel_rfl
theorem infoN : (Tryd.prog.info? 50).map (fun i => (i.zero, i.size, i.bytes)) = some (some (.agg #[.string ⟨#[]⟩, .int .i64 0, .string ⟨#[]⟩, .int .i64 0, .int .i64 0]), 5, 56) := by kernel_rfl
theorem row_call {w w' : World} {B e size n : Nat} {v : Value} {xs : List Value} (h : w.ownsRow B e size v n xs) (b : Below w.heap.size w w') : w'.ownsRow B e size v n xs := by
  refine ⟨h.1, ?_⟩
  rcases h.2 with h0 | ⟨g, cap, cur, hv, hb, hg, rest⟩
  · exact .inl h0
  · exact .inr ⟨g, cap, cur, hv, hb, (b.block g (Array.getElem?_eq_some_iff.1 hg).1).trans hg, rest⟩
theorem row_grown {w w' : World} {B e size n : Nat} {v : Value} {xs : List Value} {r : Option Nat} (h : w.ownsRow B e size v n xs) (hg : w.grownBy w' r) (hr : ∀ g, v.ownBlock = some g → some g ≠ r) : w'.ownsRow B e size v n xs := by
  refine ⟨h.1, ?_⟩
  rcases h.2 with h0 | ⟨g, cap, cur, rfl, hb, hh, rest⟩
  · exact .inl h0
  · exact .inr ⟨g, cap, cur, rfl, hb, (hg.block g (Array.getElem?_eq_some_iff.1 hh).1 (hr g rfl)).trans hh, rest⟩
structure ChP (w W : World) (vN vH : Value) (N : List Pl.Nd) (H : List Bool) : Prop where
  bel : Below w.heap.size w W
  res : Mem.Blk W w.heap.size (cellsO ⟨false, Pl.zeroN, []⟩ (.slice none 0 0)).toArray 86
  nodes : Mem.ownN W (w.heap.size + 1) vN N
  has : W.ownsRow (w.heap.size + 1) 4 1 vH H.length (boolsV H)
  apart : ∀ g, vN.ownBlock = some g → vH.ownBlock ≠ some g
theorem ChP.call {w W W' : World} {vN vH : Value} {N : List Pl.Nd} {H : List Bool} (h : ChP w W vN vH N H) (b : Below W.heap.size W W') : ChP w W' vN vH N H :=
  ⟨h.bel.trans (b.mono h.bel.size), h.res.call b, row_call h.nodes b, row_call h.has b, h.apart⟩
theorem ChP.moreN {w W W' : World} {vN vH v' : Value} {N : List Pl.Nd} {H : List Bool} {n : Pl.Nd} (h : ChP w W vN vH N H) (own : W'.ownsRow (w.heap.size + 1) 50 5 v' (N.length + 1) (Pl.cellsN N ++ n.cs)) (g : W.grownBy W' vN.ownBlock)
    (far : ∀ g, v'.ownBlock = some g → vN.ownBlock = some g ∨ W.heap.size ≤ g) : ChP w W' v' vH (N ++ [n]) H := by
  have hlt : ∀ q, vN.ownBlock = some q → w.heap.size + 1 ≤ q := fun q hq => (World.ownsRow.lt h.nodes q hq).1
  refine ⟨h.bel.grown g h.bel.size (fun q hq => by have := hlt q hq; omega), h.res.grown g (fun e => by have := hlt _ e.symm; omega), Mem.ownN_snoc own, row_grown h.has g (fun q hq e => h.apart q e.symm hq), fun q hq e => ?_⟩
  rcases far q hq with h1 | h1
  · exact h.apart q h1 e
  · have := (World.ownsRow.lt h.has q e).2; omega
theorem ChP.moreH {w W W' : World} {vN vH v' : Value} {N : List Pl.Nd} {H : List Bool} {x : Bool} (h : ChP w W vN vH N H) (own : W'.ownsRow (w.heap.size + 1) 4 1 v' (H.length + 1) (boolsV H ++ [.bool x])) (g : W.grownBy W' vH.ownBlock)
    (far : ∀ g, v'.ownBlock = some g → vH.ownBlock = some g ∨ W.heap.size ≤ g) : ChP w W' vN v' N (H ++ [x]) := by
  have hlt : ∀ q, vH.ownBlock = some q → w.heap.size + 1 ≤ q := fun q hq => (World.ownsRow.lt h.has q hq).1
  refine ⟨h.bel.grown g h.bel.size (fun q hq => by have := hlt q hq; omega), h.res.grown g (fun e => by have := hlt _ e.symm; omega), row_grown h.nodes g (fun q hq e => h.apart q hq e.symm), ?_, fun q hq e => ?_⟩
  · unfold boolsV
    rw [List.map_append, List.length_append]
    exact own
  · rcases far q e with h1 | h1
    · exact h.apart q hq h1
    · have := (World.ownsRow.lt h.nodes q hq).2; omega
/-- What was asked so far. -/
def nodesOf' (xs : List (Nat × Option Pl.Nd)) : List Pl.Nd := xs.map (fun x => x.2.getD Pl.zeroN)
def hasOf (xs : List (Nat × Option Pl.Nd)) : List Bool := xs.map (fun x => x.2.isSome)
theorem take_more {α β : Type} (f : α → β) {xs : List α} {j : Nat} {x : α} (h : xs[j]? = some x) : (xs.take (j + 1)).map f = (xs.take j).map f ++ [f x] := by
  have h1 := List.getElem?_eq_some_iff.1 h
  rw [List.take_succ_eq_append_getElem h1.1, List.map_append, h1.2]
  rfl
theorem ask_get {Ls : List (List Pl.Nd)} {ks : List Nat} {q : ByteArray} {j k : Nat} {L : List Pl.Nd} (h : ks[j]? = some k) (hL : Ls[k]? = some L) : (Pl.askO Ls ks q)[j]? = some (k, Pl.lk L q) := by
  unfold Pl.askO
  rw [List.getElem?_map, h, Option.map_some]
  simp [hL]
/-- What l04Pick wants to find, and that it is there. -/
theorem ChP.asked {w W : World} {vN vH : Value} {xs : List (Nat × Option Pl.Nd)} (h : ChP w W vN vH (nodesOf' xs) (hasOf xs)) (hx : xs ≠ []) :
    ∃ gn cn gh ch, vN = .slice (some ⟨gn, 0, none⟩) xs.length cn ∧ vH = .slice (some ⟨gh, 0, none⟩) xs.length ch ∧ gn < W.heap.size ∧ gh < W.heap.size ∧
      (∀ (i : Nat) x, xs[i]? = some x → W.cell? ⟨gh, i, none⟩ = some (.bool x.2.isSome)) ∧
      (∀ (i k : Nat) n, xs[i]? = some (k, some n) → W.cell? ⟨gn, i * 5, none⟩ = some (.string n.path) ∧ W.cell? ⟨gn, i * 5 + 1, none⟩ = some (.int .i64 n.kind) ∧ W.cell? ⟨gn, i * 5 + 2, none⟩ = some (.string n.data) ∧ W.cell? ⟨gn, i * 5 + 3, none⟩ = some (.int .i64 n.time) ∧ W.cell? ⟨gn, i * 5 + 4, none⟩ = some (.int .i64 n.mark)) := by
  have hp := List.length_pos_iff.2 hx
  have e1 : (nodesOf' xs).length = xs.length := by simp [nodesOf']
  have e2 : (hasOf xs).length = xs.length := by simp [hasOf]
  have hn := h.nodes
  have hh := h.has
  unfold Mem.ownN at hn
  rw [e1] at hn
  rw [e2] at hh
  rcases hn.2 with ⟨_, h0⟩ | ⟨gn, cn, curN, hvN, -, hgN, -⟩
  · omega
  rcases hh.2 with ⟨_, h0⟩ | ⟨gh, ch, curH, hvH, -, hgH, -⟩
  · omega
  subst hvN hvH
  refine ⟨gn, cn, gh, ch, rfl, rfl, (Array.getElem?_eq_some_iff.1 hgN).1, (Array.getElem?_eq_some_iff.1 hgH).1, fun i x hi => ?_, fun i k n hi => ?_⟩
  · have := hh.cells (g := gh) rfl i (.bool x.2.isSome) (by simp [boolsV, hasOf, hi])
    rw [Mem.add_lit] at this
    exact this
  · have hg : (nodesOf' xs)[i]? = some n := by simp [nodesOf', hi]
    have c : ∀ j, j < 5 → W.cell? ⟨gn, i * 5 + j, none⟩ = n.cs[j]? := fun j hj => by
      have h1 := Pl.cellsN_get _ i n hg j hj
      have h2 : ∃ u, n.cs[j]? = some u := ⟨_, List.getElem?_eq_getElem (by show j < 5; exact hj)⟩
      obtain ⟨u, hu⟩ := h2
      have := hn.cells (g := gn) rfl (i * 5 + j) u (by rw [h1, hu])
      rw [Mem.add_lit] at this
      rw [this, hu]
    exact ⟨c 0 (by omega), c 1 (by omega), c 2 (by omega), c 3 (by omega), c 4 (by omega)⟩
/-- What is handed back: seven cells of the result. -/
theorem ret7 {w W : World} {v : Value} {ks : List Nat} {cs : List Value} (hb : Below w.heap.size w W) (hr : Mem.Blk W w.heap.size cs.toArray 86) (hc : cs.length = 7) (ho : ownI W (w.heap.size + 1) v ks) (x : Bool) (p : ByteArray) (k : Int) (d : ByteArray) (t m : Int) (u : Value) :
    Mem.Blk (((((((W.setCell ⟨w.heap.size, 0, none⟩ (.bool x)).setCell ⟨w.heap.size, 1, none⟩ (.string p)).setCell ⟨w.heap.size, 2, none⟩ (.int .i64 k)).setCell ⟨w.heap.size, 3, none⟩ (.string d)).setCell ⟨w.heap.size, 4, none⟩ (.int .i64 t)).setCell ⟨w.heap.size, 5, none⟩ (.int .i64 m)).setCell ⟨w.heap.size, 6, none⟩ u) w.heap.size #[.bool x, .string p, .int .i64 k, .string d, .int .i64 t, .int .i64 m, u] 86 ∧
    Below w.heap.size w (((((((W.setCell ⟨w.heap.size, 0, none⟩ (.bool x)).setCell ⟨w.heap.size, 1, none⟩ (.string p)).setCell ⟨w.heap.size, 2, none⟩ (.int .i64 k)).setCell ⟨w.heap.size, 3, none⟩ (.string d)).setCell ⟨w.heap.size, 4, none⟩ (.int .i64 t)).setCell ⟨w.heap.size, 5, none⟩ (.int .i64 m)).setCell ⟨w.heap.size, 6, none⟩ u) ∧
    ownI (((((((W.setCell ⟨w.heap.size, 0, none⟩ (.bool x)).setCell ⟨w.heap.size, 1, none⟩ (.string p)).setCell ⟨w.heap.size, 2, none⟩ (.int .i64 k)).setCell ⟨w.heap.size, 3, none⟩ (.string d)).setCell ⟨w.heap.size, 4, none⟩ (.int .i64 t)).setCell ⟨w.heap.size, 5, none⟩ (.int .i64 m)).setCell ⟨w.heap.size, 6, none⟩ u) w.heap.size v ks := by
  have hr' : w.heap.size < w.heap.size + 1 := by omega
  refine ⟨?_, ((((((hb.setCell (p := ⟨w.heap.size, 0, none⟩) (Nat.le_refl _) _).setCell (p := ⟨w.heap.size, 1, none⟩) (Nat.le_refl _) _).setCell (p := ⟨w.heap.size, 2, none⟩) (Nat.le_refl _) _).setCell (p := ⟨w.heap.size, 3, none⟩) (Nat.le_refl _) _).setCell (p := ⟨w.heap.size, 4, none⟩) (Nat.le_refl _) _).setCell (p := ⟨w.heap.size, 5, none⟩) (Nat.le_refl _) _).setCell (p := ⟨w.heap.size, 6, none⟩) (Nat.le_refl _) _, ?_⟩
  · match cs, hc, hr with
    | [c0, c1, c2, c3, c4, c5, c6], _, hr =>
      have h2 := ((((((hr.put 0 (.bool x)).put 1 (.string p)).put 2 (.int .i64 k)).put 3 (.string d)).put 4 (.int .i64 t)).put 5 (.int .i64 m)).put 6 u
      simp only [kB3] at h2
      exact h2
  · exact ownI_mono (ownI_set (ownI_set (ownI_set (ownI_set (ownI_set (ownI_set (ownI_set ho _ _ hr') _ _ hr') _ _ hr') _ _ hr') _ _ hr') _ _ hr') _ _ hr') (by omega)
end WPick
end Go.Proofs.YtkfpfckmjgjanabDoor

