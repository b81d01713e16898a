/- Several texts of one claim in one file: Mem, MemVars, MemNodes, MemTrees, WLawN. -/
import Derived.Test.YtlgbdbmikmbioaaDoorPlain
import Derived.Test.YtlgbdbmikmbioaaDoorG01
import Derived.WalkKit
import Derived.Laws.IdiomStrings
import Derived.Test.YtlgbdbmikmbioaaDoorG02
import Derived.Test.YtlgbdbmikmbioaaDoorPlainTree
import Derived.Test.YtlgbdbmikmbioaaDoorProg
/- Memory of the call's own: bytes that were appended, read as a text; what stays below. No program in sight. -/
namespace Go.Proofs.YtlgbdbmikmbioaaDoor
open Go.RowKit
namespace Mem
theorem add_lit (b j : Nat) : (⟨b, 0, none⟩ : Addr).add j = ⟨b, j, none⟩ := by unfold Addr.add; split <;> simp_all

/-- 'string(b)' of bytes that the call itself has gathered. -/
theorem own_text {P : Program} {src dst e : TypeId} (hs : P.underlying src = some (.slice e)) (he : P.underlying e = some (.int .u8)) (hd : P.underlying dst = some .string)
    {w : World} {base : Nat} {v : Value} {n : Nat} (l : List UInt8) (hn : l.length = n) (h0 : 0 < n) (h : w.ownsRow base e 1 v n (l.map Pl.byteVal)) :
    (convert src dst v).run P w = .ok (.string ⟨l.toArray⟩) w := by
  subst hn
  rcases h.2 with ⟨_, h'⟩ | ⟨g, cap, cur, rfl, hb, hg, hcap, hm, hsz, ht⟩
  · omega
  refine run_convert_bytes_back w src dst e ⟨g, 0, none⟩ cap l hs he hd (fun j hj => ?_)
  rw [add_lit, cell_of_row w g j cur e (0, 0) hg]
  have h1 : (cur.toList.take (l.length * 1))[j]? = (l.map Pl.byteVal)[j]? := by rw [ht]
  rw [List.getElem?_take_of_lt (by omega)] at h1
  simpa [Pl.byteVal, hj] using h1

/-- 'string(b)' of a row of the call's own. -/
theorem row_text {P : Program} {src dst e : TypeId} (hs : P.underlying src = some (.slice e)) (he : P.underlying e = some (.int .u8)) (hd : P.underlying dst = some .string)
    {w : World} {g n cap : Nat} {cur : Array Value} {t : TypeId} (l : List UInt8) (hn : l.length = n) (hg : w.heap[g]? = some (.cells cur t (0, 0))) (ht : cur.toList.take n = l.map Pl.byteVal) :
    (convert src dst (.slice (some ⟨g, 0, none⟩) n cap)).run P w = .ok (.string ⟨l.toArray⟩) w := by
  subst hn
  refine run_convert_bytes_back w src dst e ⟨g, 0, none⟩ cap l hs he hd (fun j hj => ?_)
  rw [add_lit, cell_of_row w g j cur t (0, 0) hg]
  have h1 : (cur.toList.take l.length)[j]? = (l.map Pl.byteVal)[j]? := by rw [ht]
  rw [List.getElem?_take_of_lt (by omega)] at h1
  simpa [Pl.byteVal, hj] using h1

/-- Behind an append: old memory is as it was. -/
theorem below_append {B : Nat} {a w w1 : World} {o : Obj} {e : TypeId} {size n : Nat} {v : Value} {xs : List Value} (h : Below B a w) (hB : B ≤ a.heap.size) (hown : w.ownsRow B e size v n xs) (hg : (w.alloc o).grownBy w1 v.ownBlock) : Below B a w1 :=
  have hs := h.size
  (h.alloc (by omega) o).grown hg (by simp; omega) (fun k hk => (hown.lt k hk).1)

theorem one_new (w : World) (v : Value) (e : TypeId) : ∀ j u, [v][j]? = some u → (w.alloc (.cells #[v] e)).cell? ((⟨w.heap.size, 0, none⟩ : Addr).add j) = some u := by
  intro j u hj
  match j, hj with
  | 0, hj => simp at hj; subst hj; rw [add_lit]; simp
  | j + 1, hj => simp at hj
theorem one_cell (k : IntKind) (x : Int) : ∀ u ∈ [Value.int k x], u.oneCell' = true := by
  intro u hu; simp at hu; subst hu; rfl

theorem two_texts (w : World) (a b : ByteArray) (e : TypeId) : ∀ j t, [a, b][j]? = some t → (w.alloc (.cells #[.string a, .string b] e)).cell? ⟨w.heap.size, 0 + j, none⟩ = some (.string t) := by
  intro j t hj
  match j, hj with
  | 0, hj => simp at hj; subst hj; simp
  | 1, hj => simp at hj; subst hj; simp
  | j + 2, hj => simp at hj
theorem one_text (w : World) (a : ByteArray) (e : TypeId) : ∀ j t, [a][j]? = some t → (w.alloc (.cells #[.string a] e)).cell? ⟨w.heap.size, 0 + j, none⟩ = some (.string t) := by
  intro j t hj
  match j, hj with
  | 0, hj => simp at hj; subst hj; simp
  | j + 1, hj => simp at hj

theorem row_frozen {w : World} {g j : Nat} {cur : Array Value} {t : TypeId} (hg : w.heap[g]? = some (.cells cur t (0, 0))) : w.frozen? ⟨g, j, none⟩ = false := by
  simp [World.frozen?, hg]
/-- A variable of three cells behind a call that makes memory. -/
theorem kept3 {w W w' : World} {T : TypeId} {B : Nat} {x y z : Value} (b : Below W.heap.size W w') (hh : W.heap[B]? = some (.cells #[x, y, z] T (0, 0))) (hW : Below B w W) :
    (w'.cell? ⟨B, 0, none⟩ = some x ∧ w'.cell? ⟨B, 1, none⟩ = some y ∧ w'.cell? ⟨B, 2, none⟩ = some z) ∧
    (w'.frozen? ⟨B, 0, none⟩ = false ∧ w'.frozen? ⟨B, 1, none⟩ = false ∧ w'.frozen? ⟨B, 2, none⟩ = false) ∧ Below B w w' := by
  have hlt : B < W.heap.size := (Array.getElem?_eq_some_iff.1 hh).1
  have h' : w'.heap[B]? = some (.cells #[x, y, z] T (0, 0)) := (b.block B hlt).trans hh
  refine ⟨⟨?_, ?_, ?_⟩, ⟨row_frozen h', row_frozen h', row_frozen h'⟩, hW.trans (b.mono (Nat.le_of_lt hlt))⟩
  · rw [cell_of_row w' B 0 _ T (0, 0) h']; rfl
  · rw [cell_of_row w' B 1 _ T (0, 0) h']; rfl
  · rw [cell_of_row w' B 2 _ T (0, 0) h']; rfl
/-- .. and behind a new block and one more such call. -/
theorem again3 {w W w' : World} {o : Obj} {B : Nat} {x y z : Value} (b : Below (W.alloc o).heap.size (W.alloc o) w') (hlt : B < W.heap.size) (hW : Below B w W)
    (c0 : W.cell? ⟨B, 0, none⟩ = some x) (c1 : W.cell? ⟨B, 1, none⟩ = some y) (c2 : W.cell? ⟨B, 2, none⟩ = some z) (f0 : W.frozen? ⟨B, 0, none⟩ = false) (f1 : W.frozen? ⟨B, 1, none⟩ = false) (f2 : W.frozen? ⟨B, 2, none⟩ = false) :
    (w'.cell? ⟨B, 0, none⟩ = some x ∧ w'.cell? ⟨B, 1, none⟩ = some y ∧ w'.cell? ⟨B, 2, none⟩ = some z) ∧
    (w'.frozen? ⟨B, 0, none⟩ = false ∧ w'.frozen? ⟨B, 1, none⟩ = false ∧ w'.frozen? ⟨B, 2, none⟩ = false) ∧ Below B w w' := by
  have hs : W.heap.size ≤ (W.alloc o).heap.size := by simp
  have hb : Below W.heap.size W w' := ((Below.refl _ _).alloc (Nat.le_refl _) o).trans (b.mono hs)
  refine ⟨⟨?_, ?_, ?_⟩, ⟨?_, ?_, ?_⟩, hW.trans (hb.mono (Nat.le_of_lt hlt))⟩
  · rw [hb.cell hlt]; exact c0
  · rw [hb.cell hlt]; exact c1
  · rw [hb.cell hlt]; exact c2
  · rw [hb.frozen hlt]; exact f0
  · rw [hb.frozen hlt]; exact f1
  · rw [hb.frozen hlt]; exact f2

/-- The cells of 'make([]byte, n)'. -/
def zeros (n : Nat) : Array Value := madeCells (Value.int .u8 0).cells n
theorem zeros_size (n : Nat) : (zeros n).size = n := size_madeCells _ _
theorem make_bytes {P : Program} {T E : TypeId} (ht : P.underlying T = some (.slice E)) (hi : (P.info? E).map (fun i => (i.zero, i.size, i.bytes)) = some (some (.int .u8 0), 1, 1)) (n : Nat) (hn : n ≤ 1000000000) (w : World) :
    (Instr.makeSlice T (.int .i64 (n : Int)) (.int .i64 (n : Int))).run P w = .ok (.slice (some ⟨w.heap.size, 0, none⟩) n n) (w.alloc (.cells (zeros n) E)) := by
  obtain ⟨i0, h0, h1, h2, h3⟩ := info_parts hi
  have h := run_make (P := P) w T E i0 (.int .u8 0) ht h0 h1 .i64 .i64 (n : Int) (n : Int) (by omega) (Int.le_refl _) (by rw [h3]; omega) (by omega)
  rw [h, h2]
  simp [zeros]

theorem bytes_one (l : List UInt8) : ∀ v ∈ l.map Pl.byteVal, v.oneCell' = true := by
  intro v hv
  obtain ⟨b, _, rfl⟩ := List.mem_map.1 hv
  rfl
/-- 'copy(all[p:], t)' into a row of the call's own, the whole of t. -/
theorem copy_on {P : Program} {dT sT E : TypeId} (hu : P.underlying dT = some (.slice E)) (hz : ∀ w, (sizeOf E).run P w = .ok 1 w) (w : World) (B p N : Nat) (cur : Array Value)
    (hB : w.heap[B]? = some (.cells cur E (0, 0))) (hc : cur.size = N) (t : ByteArray) (hfit : p + t.size ≤ N) :
    ∃ D w', (∀ wx, (Instr.slice dT (.slice (some ⟨B, 0, none⟩) N N) (some (.int .i64 (p : Int))) none none).run P wx = .ok D wx) ∧
      (∀ ty, (Builtin.copy_ #[dT, sT] ty #[D, .string t]).run P w = .ok (.int .i64 (t.size : Int)) w') ∧
      w'.heap[B]? = some (.cells (cur.toList.take p ++ t.data.toList.map Pl.byteVal ++ cur.toList.drop (p + t.size)).toArray E (0, 0)) ∧ Below B w w' := by
  have ht : P.underlying dT = some (.slice (P.elem dT)) := by simp [Program.elem, hu]
  have he : P.elem dT = E := by simp [Program.elem, hu]
  have hsl : ∀ wx, (Instr.slice dT (.slice (some ⟨B, 0, none⟩) N N) (some (.int .i64 (p : Int))) none none).run P wx = .ok (sliced (some ⟨B, 0, none⟩) p N N 1) wx := by
    intro wx
    have h := run_slice_l (P := P) wx dT (some ⟨B, 0, none⟩) N N ht .i64 (p : Int) (by omega) (by omega)
    rw [h, he, hz]
    rfl
  by_cases hp : p = N
  · subst hp
    have h0 : t.size = 0 := by omega
    have hd : t.data = #[] := Array.eq_empty_of_size_eq_zero h0
    refine ⟨.slice (some ⟨B, 0, none⟩) 0 0, w, ?_, ?_, ?_, Below.refl _ _⟩
    · intro wx; rw [hsl]; simp [sliced]
    · intro ty
      simp [Builtin.copy_, run_underlying hu, Builtin.lenOf, Builtin.firstCells, hz, h0, goInt, storeCells]
    · rw [hB, h0, hd]; simp
  · have hlt : p < N := by omega
    have hlen : (t.data.toList.map Pl.byteVal).length = t.size := by rw [List.length_map]; rfl
    have hst := run_storeCells_at P B p E (t.data.toList.map Pl.byteVal) 0 cur w hB (by rw [hlen]; omega) (bytes_one _)
    rw [hlen] at hst
    simp only [Nat.add_zero] at hst
    refine ⟨.slice (some ⟨B, p, none⟩) (N - p) (N - p), _, ?_, ?_, setRow_heap w B cur _ E _ hB, ?_⟩
    · intro wx
      rw [hsl]
      have h1 : ¬ N = p := fun h => hp h.symm
      simp [sliced, h1, add_lit]
    · intro ty
      have hmin : Nat.min t.size (N - p) = t.size := Nat.min_eq_left (by omega)
      have htk : List.take t.size (List.map (fun b : UInt8 => Value.int IntKind.u8 (b.toNat : Int)) t.data.toList) = t.data.toList.map Pl.byteVal := by
        rw [List.take_of_length_le (by rw [List.length_map]; exact Nat.le_refl _)]; rfl
      simp [Builtin.copy_, run_underlying hu, Builtin.lenOf, Builtin.firstCells, hz, hmin]
      rw [htk, hst, List.append_assoc]
      rfl
    · exact ⟨rfl, rfl, rfl, by simp, fun k hk => setRow_other w B k _ (by omega)⟩
theorem own_mono {w : World} {B B' e size n : Nat} {v : Value} {xs : List Value} (h : w.ownsRow B e size v n xs) (hb : B' ≤ B) : w.ownsRow B' e size v n xs := by
  refine ⟨h.1, ?_⟩
  rcases h.2 with h0 | ⟨g, cap, cur, hv, hg, rest⟩
  · exact .inl h0
  · exact .inr ⟨g, cap, cur, hv, Nat.le_trans hb hg, rest⟩
theorem own_shape {w : World} {B e size n : Nat} {v : Value} {xs : List Value} (h : w.ownsRow B e size v n xs) : ∃ a cap, v = .slice a n cap := by
  rcases h.2 with ⟨rfl, rfl⟩ | ⟨g, cap, cur, rfl, _⟩
  · exact ⟨_, _, rfl⟩
  · exact ⟨_, _, rfl⟩
end Mem
end Go.Proofs.YtlgbdbmikmbioaaDoor

/- A variable of some cells, through calls. No program in sight. -/
namespace Go.Proofs.YtlgbdbmikmbioaaDoor
open Go.RowKit
namespace Mem
def Var (w : World) (B : Nat) (cs : List Value) : Prop := B < w.heap.size ∧ ∀ (j : Nat) v, cs[j]? = some v → w.cell? ⟨B, j, none⟩ = some v
theorem var_call {w w' : World} {B : Nat} {cs : List Value} (h : Var w B cs) (b : Below w.heap.size w w') : Var w' B cs :=
  ⟨Nat.lt_of_lt_of_le h.1 b.size, fun j v hv => (b.cell (p := ⟨B, j, none⟩) h.1).trans (h.2 j v hv)⟩
theorem var_new (w : World) (cs : List Value) (T : TypeId) : Var (w.alloc (.cells cs.toArray T)) w.heap.size cs :=
  ⟨by simp, fun j v hv => by rw [cell_of_row _ _ j _ T (0, 0) (heap_alloc_new w _)]; simpa using hv⟩
theorem var_alloc {w : World} {B : Nat} {cs : List Value} (h : Var w B cs) (o : Obj) : Var (w.alloc o) B cs :=
  var_call h ((Below.refl _ _).alloc (Nat.le_refl _) o)
theorem var_drew {w : World} {B : Nat} {cs : List Value} (h : Var w B cs) : Var w.drew B cs := h
theorem new_two (w : World) (o1 o2 : Obj) : ((w.alloc o1).alloc o2).heap[w.heap.size + 1]? = some o2 := by
  have h := heap_alloc_new (w.alloc o1) o2
  rwa [show (w.alloc o1).heap.size = w.heap.size + 1 by simp] at h
theorem new_mid (w : World) (o1 o2 o3 : Obj) : (((w.alloc o1).alloc o2).alloc o3).heap[w.heap.size + 1]? = some o2 :=
  ((World.grownBy_alloc ((w.alloc o1).alloc o2) o3 none).block (w.heap.size + 1) (by simp) (by simp)).trans (new_two w o1 o2)
theorem new_three (w : World) (o1 o2 o3 : Obj) : (((w.alloc o1).alloc o2).alloc o3).heap[w.heap.size + 1 + 1]? = some o3 := by
  have h := heap_alloc_new ((w.alloc o1).alloc o2) o3
  rwa [show ((w.alloc o1).alloc o2).heap.size = w.heap.size + 1 + 1 by simp] at h
end Mem
end Go.Proofs.YtlgbdbmikmbioaaDoor

/- Rows of nodes. No program in sight. -/
namespace Go.Proofs.YtlgbdbmikmbioaaDoor
open Go.RowKit
namespace Mem
/-- A slice of nodes: its length, and its cells (below the heap's end). -/
def isNodes (w : World) (a : Option Addr) (L : List Pl.Nd) : Prop :=
  ∀ (i : Nat) n, L[i]? = some n → ∃ b o, a = some ⟨b, o, none⟩ ∧ b < w.heap.size ∧
    w.cell? ⟨b, o + i * 5, none⟩ = some (.string n.path) ∧ w.cell? ⟨b, o + i * 5 + 1, none⟩ = some (.int .i64 n.kind) ∧ w.cell? ⟨b, o + i * 5 + 2, none⟩ = some (.string n.data) ∧
    w.cell? ⟨b, o + i * 5 + 3, none⟩ = some (.int .i64 n.time) ∧ w.cell? ⟨b, o + i * 5 + 4, none⟩ = some (.int .i64 n.mark)
theorem nodes_call {w w' : World} {a : Option Addr} {L : List Pl.Nd} (h : isNodes w a L) (b : Below w.heap.size w w') : isNodes w' a L := fun i n hi => by
  obtain ⟨g, o, h1, h2, h3, h4, h5, h6, h7⟩ := h i n hi
  exact ⟨g, o, h1, Nat.lt_of_lt_of_le h2 b.size, (b.cell (p := ⟨g, _, none⟩) h2).trans h3, (b.cell (p := ⟨g, _, none⟩) h2).trans h4, (b.cell (p := ⟨g, _, none⟩) h2).trans h5, (b.cell (p := ⟨g, _, none⟩) h2).trans h6, (b.cell (p := ⟨g, _, none⟩) h2).trans h7⟩
theorem add_any (b o j : Nat) : (⟨b, o, none⟩ : Addr).add j = ⟨b, o + j, none⟩ := by unfold Addr.add; split <;> simp_all
theorem nodes_nil (w : World) (a : Option Addr) : isNodes w a [] := fun i n hi => by simp at hi
end Mem
end Go.Proofs.YtlgbdbmikmbioaaDoor

/- A row of trees in memory. -/
namespace Go.Proofs.YtlgbdbmikmbioaaDoor
open Go.RowKit
namespace Pl
/-- A tree as it lies: where its nodes are, how much room they have, and what they are. -/
structure Tr where
  a : Option Addr
  cap : Nat
  L : List Nd
def Tr.val (t : Tr) : Value := .slice t.a t.L.length t.cap
/-- Right layers: one to four, each a right tree. -/
def layB (Ts : List (List Nd)) : Bool := decide (1 ≤ Ts.length) && decide (Ts.length ≤ 4) && Ts.all treeB
end Pl
namespace Mem
def isTrees (w : World) (a : Option Addr) (Ts : List Pl.Tr) : Prop :=
  ∀ (i : Nat) t, Ts[i]? = some t → (∃ b o, a = some ⟨b, o, none⟩ ∧ b < w.heap.size ∧ w.cell? ⟨b, o + i, none⟩ = some t.val) ∧ isNodes w t.a t.L
theorem trees_call {w w' : World} {a : Option Addr} {Ts : List Pl.Tr} (h : isTrees w a Ts) (b : Below w.heap.size w w') : isTrees w' a Ts := fun i t hi => by
  obtain ⟨⟨g, o, h1, h2, h3⟩, h4⟩ := h i t hi
  exact ⟨⟨g, o, h1, Nat.lt_of_lt_of_le h2 b.size, (b.cell (p := ⟨g, _, none⟩) h2).trans h3⟩, nodes_call h4 b⟩
theorem trees_nil (w : World) (a : Option Addr) : isTrees w a [] := fun i n hi => by simp at hi
end Mem
end Go.Proofs.YtlgbdbmikmbioaaDoor

/- The walks of the laws' own functions on nodes. -/
namespace Go.Proofs.YtlgbdbmikmbioaaDoor
open Go.RowKit
namespace WLaw
set_option maxRecDepth 100000 in
/-- What is left of a size behind a node: below 0 if it is used up. -/
theorem szNode_any (n : Pl.Nd) (left : Int) (w : World) (hp : n.path.size ≤ maxLen) (hd : n.data.size ≤ maxLen) (h0 : 0 ≤ left) (h1 : left ≤ 1048576) :
    Calls Tryd.prog 88 #[n.val, .int .i64 left] w fun e w' => (∃ r : Int, e = .returned (.int .i64 r) ∧ (r = -1 ∨ 0 ≤ r ∧ r + n.path.size + n.data.size = left)) ∧ Below w.heap.size w w' := by
  obtain ⟨p, k, d, t, m⟩ := n
  simp only at hp hd
  unfold maxLen at hp hd
  simp only [Pl.Nd.val]
  have hb : ∀ o, Below w.heap.size w (w.alloc o) := fun o => (Below.refl _ _).alloc (Nat.le_refl _) o
  have HB := hide hb
  clear hb
  by_cases h2 : left < (p.size : Int)
  · have t2 : left - (p.size : Int) < 0 := by omega
    go_enter Tryd.func88, Tryd.ntmps88
    go_wp2
    go_ret
    exact ⟨⟨-1, rfl, .inl rfl⟩, unhide HB _⟩
  have t2 : ¬ left - (p.size : Int) < 0 := by omega
  by_cases h3 : left < (p.size : Int) + (d.size : Int)
  · have t3 : left - (p.size : Int) - (d.size : Int) < 0 := by omega
    go_enter Tryd.func88, Tryd.ntmps88
    go_wp2
    go_ret
    exact ⟨⟨-1, rfl, .inl rfl⟩, unhide HB _⟩
  · have t3 : ¬ left - (p.size : Int) - (d.size : Int) < 0 := by omega
    go_enter Tryd.func88, Tryd.ntmps88
    go_wp2
    go_ret
    exact ⟨⟨_, rfl, .inr ⟨by omega, by omega⟩⟩, unhide HB _⟩
set_option maxRecDepth 100000 in
theorem toNode_any (n : Pl.Nd) (w : World) :
    Calls Tryd.prog 92 #[n.val] w fun e w' => e = .returned n.val ∧ Below w.heap.size w w' := by
  obtain ⟨p, k, d, t, m⟩ := n
  simp only [Pl.Nd.val]
  go_enter Tryd.func92, Tryd.ntmps92
  go_wp2
  refine bodyPost_ret (v := .agg #[.string p, .int .i64 k, .string d, .int .i64 t, .int .i64 m]) (by simp [results, Tryd.results92, go_sem]) rfl ⟨rfl, ?_⟩
  exact (((Below.refl _ _).alloc (Nat.le_refl _) _).alloc (by simp) _).alloc (by simp; omega) _
end WLaw
end Go.Proofs.YtlgbdbmikmbioaaDoor

