/- Several texts of one claim in one file: LaySort, MemVars, MemNodes, MemOwnN, MemBlk. -/
import Derived.Shelf.SlSortCmp.NoneTotal
import Derived.Test.YtepmojmelcngeaaGreatDoorProg
import Derived.Test.YtepmojmelcngeaaGreatDoorMem
import Derived.Test.YtepmojmelcngeaaGreatDoorG03
import Derived.Laws.AppendOwn
/- slices.SortFunc at nodes: the shelf's laying, at this program. -/
namespace Go.Proofs.YtepmojmelcngeaaGreatDoor
open Go.Shelf
namespace LaySort
def ren : Go.Shelf.Ren := ⟨fun | 6 => 86 | 15 => 117 | 14 => 116 | 28 => 137 | 29 => 138 | 20 => 129 | 21 => 130 | 22 => 131 | 23 => 132 | 24 => 133 | 25 => 134 | 26 => 135 | 27 => 136 | 46 => 148 | 47 => 149 | 48 => 150 | 49 => 151 | 50 => 152 | 57 => 153 | n => n, fun | 22 => 29 | 24 => 36 | 25 => 120 | 3 => 3 | 39 => 134 | 0 => 0 | 53 => 191 | 55 => 130 | 4 => 4 | 46 => 184 | 45 => 183 | 50 => 188 | 5 => 5 | 9 => 9 | 66 => 197 | 70 => 201 | 76 => 204 | 77 => 205 | n => n, fun n => n⟩
theorem lay : SlLaysF0.n6 Tryz.prog ren where
  mixed := by kernel_rfl
  f6 := ⟨ "slices.SortFunc[[]loop.example/g00449/impl.Node,loop.example/g00449/impl.Node]", by decide, Tryz.func86.trans (congrArg some (by kernel_rfl))⟩
  f14 := ⟨ "slices.pdqsortCmpFunc[loop.example/g00449/impl.Node]", by decide, Tryz.func116.trans (congrArg some (by kernel_rfl))⟩
  f15 := Tryz.func117.trans (congrArg some (by kernel_rfl))
  f20 := ⟨ "slices.insertionSortCmpFunc[loop.example/g00449/impl.Node]", by decide, Tryz.func129.trans (congrArg some (by kernel_rfl))⟩
  f21 := ⟨ "slices.heapSortCmpFunc[loop.example/g00449/impl.Node]", by decide, Tryz.func130.trans (congrArg some (by kernel_rfl))⟩
  f22 := ⟨ "slices.breakPatternsCmpFunc[loop.example/g00449/impl.Node]", by decide, Tryz.func131.trans (congrArg some (by kernel_rfl))⟩
  f23 := ⟨ "slices.choosePivotCmpFunc[loop.example/g00449/impl.Node]", by decide, Tryz.func132.trans (congrArg some (by kernel_rfl))⟩
  f24 := ⟨ "slices.reverseRangeCmpFunc[loop.example/g00449/impl.Node]", by decide, Tryz.func133.trans (congrArg some (by kernel_rfl))⟩
  f25 := ⟨ "slices.partialInsertionSortCmpFunc[loop.example/g00449/impl.Node]", by decide, Tryz.func134.trans (congrArg some (by kernel_rfl))⟩
  f26 := ⟨ "slices.partitionEqualCmpFunc[loop.example/g00449/impl.Node]", by decide, Tryz.func135.trans (congrArg some (by kernel_rfl))⟩
  f27 := ⟨ "slices.partitionCmpFunc[loop.example/g00449/impl.Node]", by decide, Tryz.func136.trans (congrArg some (by kernel_rfl))⟩
  f28 := Tryz.func137.trans (congrArg some (by kernel_rfl))
  f29 := Tryz.func138.trans (congrArg some (by kernel_rfl))
  f46 := ⟨ "slices.siftDownCmpFunc[loop.example/g00449/impl.Node]", by decide, Tryz.func148.trans (congrArg some (by kernel_rfl))⟩
  f47 := Tryz.func149.trans (congrArg some (by kernel_rfl))
  f48 := Tryz.func150.trans (congrArg some (by kernel_rfl))
  f49 := ⟨ "slices.medianAdjacentCmpFunc[loop.example/g00449/impl.Node]", by decide, Tryz.func151.trans (congrArg some (by kernel_rfl))⟩
  f50 := ⟨ "slices.medianCmpFunc[loop.example/g00449/impl.Node]", by decide, Tryz.func152.trans (congrArg some (by kernel_rfl))⟩
  f57 := ⟨ "slices.order2CmpFunc[loop.example/g00449/impl.Node]", by decide, Tryz.func153.trans (congrArg some (by kernel_rfl))⟩
  t0 := Tryz.underlying0
  a0 := Tryz.isAgg0
  z0 := Tryz.sizeOf0
  v0 := Tryz.zeroValue0
  t3 := Tryz.underlying3
  a3 := Tryz.isAgg3
  z3 := Tryz.sizeOf3
  v3 := Tryz.zeroValue3
  t4 := Tryz.underlying4
  a4 := Tryz.isAgg4
  z4 := Tryz.sizeOf4
  v4 := Tryz.zeroValue4
  t5 := Tryz.underlying5
  a5 := Tryz.isAgg5
  z5 := Tryz.sizeOf5
  v5 := Tryz.zeroValue5
  t9 := Tryz.underlying9
  a9 := Tryz.isAgg9
  z9 := Tryz.sizeOf9
  v9 := Tryz.zeroValue9
  t22 := Tryz.underlying29
  a22 := Tryz.isAgg29
  z22 := Tryz.sizeOf29
  v22 := Tryz.zeroValue29
  t25 := Tryz.underlying120
  a25 := Tryz.isAgg120
  z25 := Tryz.sizeOf120
  v25 := Tryz.zeroValue120
  t39 := Tryz.underlying134
  a39 := Tryz.isAgg134
  z39 := Tryz.sizeOf134
  v39 := Tryz.zeroValue134
  t45 := Tryz.underlying183
  a45 := Tryz.isAgg183
  z45 := Tryz.sizeOf183
  v45 := Tryz.zeroValue183
  t46 := Tryz.underlying184
  a46 := Tryz.isAgg184
  z46 := Tryz.sizeOf184
  v46 := Tryz.zeroValue184
  t50 := Tryz.underlying188
  a50 := Tryz.isAgg188
  z50 := Tryz.sizeOf188
  v50 := Tryz.zeroValue188
  t53 := Tryz.underlying191
  a53 := Tryz.isAgg191
  z53 := Tryz.sizeOf191
  v53 := Tryz.zeroValue191
  t55 := Tryz.underlying130
  a55 := Tryz.isAgg130
  z55 := Tryz.sizeOf130
  v55 := Tryz.zeroValue130
  t66 := Tryz.underlying197
  a66 := Tryz.isAgg197
  z66 := Tryz.sizeOf197
  v66 := Tryz.zeroValue197
  t70 := Tryz.underlying201
  a70 := Tryz.isAgg201
  z70 := Tryz.sizeOf201
  v70 := Tryz.zeroValue201
  t76 := Tryz.underlying204
  a76 := Tryz.isAgg204
  z76 := Tryz.sizeOf204
  v76 := Tryz.zeroValue204
  t77 := Tryz.underlying205
  a77 := Tryz.isAgg205
  z77 := Tryz.sizeOf205
  v77 := Tryz.zeroValue205
theorem agg : ∀ w, (isAgg (ren.t 24)).run Tryz.prog w = .ok true w := Tryz.isAgg36
theorem size : ∀ w, (Go.sizeOf (ren.t 24)).run Tryz.prog w = .ok 5 w := Tryz.sizeOf36
end LaySort
end Go.Proofs.YtepmojmelcngeaaGreatDoor

/- A variable of some cells, through calls. No program in sight. -/
namespace Go.Proofs.YtepmojmelcngeaaGreatDoor
open Go.RowKit
namespace Mem
def Var (w : World) (B : Nat) (cs : List Value) : Prop := B < w.heap.size ∧ ∀ (j : Nat) v, cs[j]? = some v → w.cell? ⟨B, j, none⟩ = some v
theorem var_call {w w' : World} {B : Nat} {cs : List Value} (h : Var w B cs) (b : Below w.heap.size w w') : Var w' B cs :=
  ⟨Nat.lt_of_lt_of_le h.1 b.size, fun j v hv => (b.cell (p := ⟨B, j, none⟩) h.1).trans (h.2 j v hv)⟩
theorem var_new (w : World) (cs : List Value) (T : TypeId) : Var (w.alloc (.cells cs.toArray T)) w.heap.size cs :=
  ⟨by simp, fun j v hv => by rw [cell_of_row _ _ j _ T (0, 0) (heap_alloc_new w _)]; simpa using hv⟩
theorem var_alloc {w : World} {B : Nat} {cs : List Value} (h : Var w B cs) (o : Obj) : Var (w.alloc o) B cs :=
  var_call h ((Below.refl _ _).alloc (Nat.le_refl _) o)
theorem var_drew {w : World} {B : Nat} {cs : List Value} (h : Var w B cs) : Var w.drew B cs := h
theorem new_two (w : World) (o1 o2 : Obj) : ((w.alloc o1).alloc o2).heap[w.heap.size + 1]? = some o2 := by
  have h := heap_alloc_new (w.alloc o1) o2
  rwa [show (w.alloc o1).heap.size = w.heap.size + 1 by simp] at h
theorem new_mid (w : World) (o1 o2 o3 : Obj) : (((w.alloc o1).alloc o2).alloc o3).heap[w.heap.size + 1]? = some o2 :=
  ((World.grownBy_alloc ((w.alloc o1).alloc o2) o3 none).block (w.heap.size + 1) (by simp) (by simp)).trans (new_two w o1 o2)
theorem new_three (w : World) (o1 o2 o3 : Obj) : (((w.alloc o1).alloc o2).alloc o3).heap[w.heap.size + 1 + 1]? = some o3 := by
  have h := heap_alloc_new ((w.alloc o1).alloc o2) o3
  rwa [show ((w.alloc o1).alloc o2).heap.size = w.heap.size + 1 + 1 by simp] at h
end Mem
end Go.Proofs.YtepmojmelcngeaaGreatDoor

/- Rows of nodes. No program in sight. -/
namespace Go.Proofs.YtepmojmelcngeaaGreatDoor
open Go.RowKit
namespace Mem
/-- A slice of nodes: its length, and its cells (below the heap's end). -/
def isNodes (w : World) (a : Option Addr) (L : List Pl.Nd) : Prop :=
  ∀ (i : Nat) n, L[i]? = some n → ∃ b o, a = some ⟨b, o, none⟩ ∧ b < w.heap.size ∧
    w.cell? ⟨b, o + i * 5, none⟩ = some (.string n.path) ∧ w.cell? ⟨b, o + i * 5 + 1, none⟩ = some (.int .i64 n.kind) ∧ w.cell? ⟨b, o + i * 5 + 2, none⟩ = some (.string n.data) ∧
    w.cell? ⟨b, o + i * 5 + 3, none⟩ = some (.int .i64 n.time) ∧ w.cell? ⟨b, o + i * 5 + 4, none⟩ = some (.int .i64 n.mark)
theorem nodes_call {w w' : World} {a : Option Addr} {L : List Pl.Nd} (h : isNodes w a L) (b : Below w.heap.size w w') : isNodes w' a L := fun i n hi => by
  obtain ⟨g, o, h1, h2, h3, h4, h5, h6, h7⟩ := h i n hi
  exact ⟨g, o, h1, Nat.lt_of_lt_of_le h2 b.size, (b.cell (p := ⟨g, _, none⟩) h2).trans h3, (b.cell (p := ⟨g, _, none⟩) h2).trans h4, (b.cell (p := ⟨g, _, none⟩) h2).trans h5, (b.cell (p := ⟨g, _, none⟩) h2).trans h6, (b.cell (p := ⟨g, _, none⟩) h2).trans h7⟩
theorem add_any (b o j : Nat) : (⟨b, o, none⟩ : Addr).add j = ⟨b, o + j, none⟩ := by unfold Addr.add; split <;> simp_all
theorem nodes_nil (w : World) (a : Option Addr) : isNodes w a [] := fun i n hi => by simp at hi
end Mem
end Go.Proofs.YtepmojmelcngeaaGreatDoor

/- Rows of nodes that are the call's own: what is in them, one more behind them, and what the marks of a law do to them. -/
namespace Go.Proofs.YtepmojmelcngeaaGreatDoor
open Go.RowKit
namespace Pl
/-- A node's five cells. -/
def Nd.cs (n : Nd) : List Value := [.string n.path, .int .i64 n.kind, .string n.data, .int .i64 n.time, .int .i64 n.mark]
def cellsN (L : List Nd) : List Value := L.flatMap Nd.cs
theorem cellsN_len (L : List Nd) : (cellsN L).length = L.length * 5 := by
  induction L with
  | nil => rfl
  | cons n L ih => rw [cellsN, List.flatMap_cons, List.length_append, ← cellsN, ih, List.length_cons]; simp [Nd.cs]; omega
theorem cellsN_cons (n : Nd) (L : List Nd) : cellsN (n :: L) = n.cs ++ cellsN L := by simp [cellsN]
theorem cellsN_app (L M : List Nd) : cellsN (L ++ M) = cellsN L ++ cellsN M := by simp [cellsN]
theorem cellsN_get (L : List Nd) (i : Nat) (n : Nd) (h : L[i]? = some n) (j : Nat) (hj : j < 5) : (cellsN L)[i * 5 + j]? = n.cs[j]? := by
  induction L generalizing i with
  | nil => simp at h
  | cons m L ih =>
    rw [cellsN_cons]
    have hl : m.cs.length = 5 := rfl
    match i, h with
    | 0, h =>
      simp at h; subst h
      rw [List.getElem?_append_left (by rw [hl]; omega)]
      simp
    | i + 1, h =>
      rw [List.getElem?_append_right (by rw [hl]; omega), hl, show (i + 1) * 5 + j - 5 = i * 5 + j by omega]
      exact ih i (by simpa using h)
end Pl
namespace Mem
/-- A row of nodes of the call's own (or none). -/
def ownN (w : World) (B : Nat) (v : Value) (L : List Pl.Nd) : Prop := w.ownsRow B 36 5 v L.length (Pl.cellsN L)
theorem ownN_nil (w : World) (B : Nat) : ownN w B (.slice none 0 0) [] := ⟨rfl, .inl ⟨rfl, rfl⟩⟩
theorem ownN_is {w : World} {B : Nat} {v : Value} {L : List Pl.Nd} (h : ownN w B v L) : ∃ a cap, v = .slice a L.length cap ∧ isNodes w a L := by
  rcases h.2 with ⟨rfl, h0⟩ | ⟨g, cap, cur, rfl, hb, hg, hc, hm, hsz, ht⟩
  · exact ⟨none, 0, by rw [h0], fun i n hi => by rw [List.length_eq_zero_iff.1 h0] at hi; simp at hi⟩
  · refine ⟨some ⟨g, 0, none⟩, cap, rfl, fun i n hi => ?_⟩
    have hlt : i < L.length := (List.getElem?_eq_some_iff.1 hi).1
    have c : ∀ j, j < 5 → w.cell? ⟨g, 0 + i * 5 + j, none⟩ = n.cs[j]? := fun j hj => by
      rw [cell_of_row w g _ cur _ (0, 0) hg, Nat.zero_add, ← Pl.cellsN_get L i n hi j hj, ← ht, List.getElem?_take_of_lt (by omega), Array.getElem?_toList]
    exact ⟨g, 0, rfl, (Array.getElem?_eq_some_iff.1 hg).1, c 0 (by omega), c 1 (by omega), c 2 (by omega), c 3 (by omega), c 4 (by omega)⟩
theorem cs_one (n : Pl.Nd) : ∀ u ∈ n.cs, u.oneCell' = true := by
  intro u hu
  simp only [Pl.Nd.cs, List.mem_cons, List.not_mem_nil, or_false] at hu
  rcases hu with rfl | rfl | rfl | rfl | rfl <;> rfl
/-- A node that is alone in a block that was just made. -/
theorem cs_new (w : World) (n : Pl.Nd) (T : TypeId) : ∀ j u, n.cs[j]? = some u → (w.alloc (.cells n.cs.toArray T)).cell? ((⟨w.heap.size, 0, none⟩ : Addr).add j) = some u := by
  intro j u hj
  rw [Mem.add_lit]
  exact (Mem.var_new w n.cs T).2 j u hj
theorem cs_var {w : World} {X : Nat} (n : Pl.Nd) (h : Mem.Var w X n.cs) : ∀ j u, n.cs[j]? = some u → w.cell? ((⟨X, 0, none⟩ : Addr).add j) = some u := by
  intro j u hj
  rw [Mem.add_lit]
  exact h.2 j u hj
theorem ownN_snoc {w : World} {B : Nat} {v : Value} {L : List Pl.Nd} {n : Pl.Nd} (h : w.ownsRow B 36 5 v (L.length + 1) (Pl.cellsN L ++ n.cs)) : ownN w B v (L ++ [n]) := by
  unfold ownN
  rw [Pl.cellsN_app, List.length_append]
  have e : Pl.cellsN [n] = n.cs := by simp [Pl.cellsN]
  rw [e]; exact h
theorem ownN_call {w w' : World} {B : Nat} {v : Value} {L : List Pl.Nd} (h : ownN w B v L) (b : Below w.heap.size w w') : ownN w' B v L := by
  refine ⟨h.1, ?_⟩
  rcases h.2 with h0 | ⟨g, cap, cur, hv, hb, hg, rest⟩
  · exact .inl h0
  · exact .inr ⟨g, cap, cur, hv, hb, (b.block _ (Array.getElem?_eq_some_iff.1 hg).1).trans hg, rest⟩
theorem ownN_mono {w : World} {B B' : Nat} {v : Value} {L : List Pl.Nd} (h : ownN w B v L) (hb : B' ≤ B) : ownN w B' v L := own_mono h hb
end Mem
end Go.Proofs.YtepmojmelcngeaaGreatDoor

/- A block of cells that stands in the heap: through calls, new blocks, appends and stores. No program in sight. -/
namespace Go.Proofs.YtepmojmelcngeaaGreatDoor
open Go.RowKit
namespace Mem
def Blk (w : World) (X : Nat) (cs : Array Value) (T : TypeId) : Prop := w.heap[X]? = some (.cells cs T (0, 0))
theorem Blk.lt {w : World} {X : Nat} {cs : Array Value} {T : TypeId} (h : Blk w X cs T) : X < w.heap.size := (Array.getElem?_eq_some_iff.1 h).1
theorem Blk.cell {w : World} {X : Nat} {cs : Array Value} {T : TypeId} (h : Blk w X cs T) (k : Nat) : w.cell? ⟨X, k, none⟩ = cs[k]? := cell_of_row w X k cs T (0, 0) h
theorem Blk.fr {w : World} {X : Nat} {cs : Array Value} {T : TypeId} (h : Blk w X cs T) (k : Nat) : w.frozen? ⟨X, k, none⟩ = false := row_frozen h
theorem Blk.call {w w' : World} {X : Nat} {cs : Array Value} {T : TypeId} (h : Blk w X cs T) (b : Below w.heap.size w w') : Blk w' X cs T := (b.block _ h.lt).trans h
theorem Blk.below {w w' : World} {X B : Nat} {cs : Array Value} {T : TypeId} (h : Blk w X cs T) (b : Below B w w') (hX : X < B) : Blk w' X cs T := (b.block _ hX).trans h
theorem Blk.alloc {w : World} {X : Nat} {cs : Array Value} {T : TypeId} (h : Blk w X cs T) (o : Obj) : Blk (w.alloc o) X cs T := h.call ((Below.refl _ _).alloc (Nat.le_refl _) o)
theorem Blk.new (w : World) (cs : Array Value) (T : TypeId) : Blk (w.alloc (.cells cs T)) w.heap.size cs T := heap_alloc_new w _
theorem Blk.grown {w w' : World} {X : Nat} {cs : Array Value} {T : TypeId} {r : Option Nat} (h : Blk w X cs T) (g : w.grownBy w' r) (hr : some X ≠ r) : Blk w' X cs T := (g.block _ h.lt hr).trans h
theorem Blk.put {w : World} {X : Nat} {cs : Array Value} {T : TypeId} (h : Blk w X cs T) (k : Nat) (v : Value) : Blk (w.setCell ⟨X, k, none⟩ v) X (cs.setIfInBounds k v) T := heap_setCell_same w X k cs T v h
theorem Blk.far {w : World} {X : Nat} {cs : Array Value} {T : TypeId} (h : Blk w X cs T) (a : Addr) (v : Value) (ha : X ≠ a.block) : Blk (w.setCell a v) X cs T := (heap_setCell_other w a X v ha).trans h
theorem ownN_set {w : World} {B : Nat} {v : Value} {L : List Pl.Nd} (h : ownN w B v L) (a : Addr) (u : Value) (ha : a.block < B) : ownN (w.setCell a u) B v L := by
  refine ⟨h.1, ?_⟩
  rcases h.2 with h0 | ⟨g, cap, cur, hv, hb, hg, rest⟩
  · exact .inl h0
  · exact .inr ⟨g, cap, cur, hv, hb, (heap_setCell_other w a g u (by omega)).trans hg, rest⟩
theorem ownN_far {w : World} {B : Nat} {v : Value} {L : List Pl.Nd} (h : ownN w B v L) (a : Addr) (u : Value) (ha : ∀ g, v.ownBlock = some g → a.block ≠ g) : ownN (w.setCell a u) B v L := by
  refine ⟨h.1, ?_⟩
  rcases h.2 with h0 | ⟨g, cap, cur, rfl, hb, hg, rest⟩
  · exact .inl h0
  · exact .inr ⟨g, cap, cur, rfl, hb, (heap_setCell_other w a g u (fun e => ha g rfl e.symm)).trans hg, rest⟩
theorem ownN_alloc {w : World} {B : Nat} {v : Value} {L : List Pl.Nd} (h : ownN w B v L) (o : Obj) : ownN (w.alloc o) B v L := ownN_call h ((Below.refl _ _).alloc (Nat.le_refl _) o)
theorem ownN_lt {w : World} {B : Nat} {v : Value} {L : List Pl.Nd} (h : ownN w B v L) : ∀ g, v.ownBlock = some g → B ≤ g ∧ g < w.heap.size := fun g hg => World.ownsRow.lt h g hg
theorem ownN_nodes {w : World} {B n cap : Nat} {a : Option Addr} {L : List Pl.Nd} (h : ownN w B (.slice a n cap) L) : n = L.length ∧ isNodes w a L := by
  obtain ⟨a', cap', e, hn⟩ := ownN_is h
  injection e with e1 e2 e3
  subst e1 e2 e3
  exact ⟨rfl, hn⟩
theorem nodes_grown {w w' : World} {g o : Nat} {r : Option Nat} {L : List Pl.Nd} (h : isNodes w (some ⟨g, o, none⟩) L) (hg : w.grownBy w' r) (hr : some g ≠ r) : isNodes w' (some ⟨g, o, none⟩) L := fun i n hi => by
  obtain ⟨g', o', h1, h2, h3, h4, h5, h6, h7⟩ := h i n hi
  cases h1
  exact ⟨g, o, rfl, Nat.lt_of_lt_of_le h2 hg.size, hg.cell h3 hr, hg.cell h4 hr, hg.cell h5 hr, hg.cell h6 hr, hg.cell h7 hr⟩
theorem ownN_grown {w w' : World} {B : Nat} {v : Value} {r : Option Nat} {L : List Pl.Nd} (h : ownN w B v L) (hg : w.grownBy w' r) (hr : ∀ g, v.ownBlock = some g → some g ≠ r) : ownN w' B v L := by
  refine ⟨h.1, ?_⟩
  rcases h.2 with h0 | ⟨g, cap, cur, rfl, hb, hh, rest⟩
  · exact .inl h0
  · exact .inr ⟨g, cap, cur, rfl, hb, (hg.block g (Array.getElem?_eq_some_iff.1 hh).1 (hr g rfl)).trans hh, rest⟩
theorem grown_of_below {w w' : World} (b : Below w.heap.size w w') (r : Option Nat) : w.grownBy w' r := ⟨b.os, b.tape, b.output, b.size, fun j hj _ => b.block j hj⟩
theorem grown_trans {w v v' : World} {r : Option Nat} (h : w.grownBy v r) (h' : v.grownBy v' r) : w.grownBy v' r :=
  ⟨h'.os.trans h.os, h'.tape.trans h.tape, h'.output.trans h.output, Nat.le_trans h.size h'.size, fun j hj hne => (h'.block j (Nat.lt_of_lt_of_le hj h.size) hne).trans (h.block j hj hne)⟩
end Mem
end Go.Proofs.YtepmojmelcngeaaGreatDoor

