/- Several texts of one claim in one file: WDraw, MemVars, MemNodes, MemOwnN, MemBlk. -/
import Derived.Test.YtmohbgmbknfaiaaGreatDoorG03
import Derived.Test.YtmohbgmbknfaiaaGreatDoorG01
import Derived.Laws.AppendOwn
/- The walks of the draws: one of some texts, names and paths. -/
namespace Go.Proofs.YtmohbgmbknfaiaaGreatDoor
open Go.RowKit
namespace WSrc
theorem src_grown {w w' : World} {S len cap : Nat} {a : Option Addr} (h : Src w S a len cap) (hg : w.grownBy w' none) : Src w' S a len cap := by
  obtain ⟨hr, p, m, sz, hb, hp, h0, h1⟩ := h
  have hS : S < w.heap.size := (Array.getElem?_eq_some_iff.1 hb).1
  refine ⟨⟨hr.1, hr.2.1, fun i hi => ?_⟩, p, m, sz, (hg.block S hS (by simp)).trans hb, hp, h0, h1⟩
  obtain ⟨b, o, n, e1, e2, e3, e4⟩ := hr.2.2 i hi
  exact ⟨b, o, n, e1, e2, e3, (cell_heap (hg.block b (by omega) (by simp))).trans e4⟩
theorem src_lt {w : World} {S len cap : Nat} {a : Option Addr} (h : Src w S a len cap) : S < w.heap.size := by
  obtain ⟨hr, p, m, sz, hb, _⟩ := h
  exact (Array.getElem?_eq_some_iff.1 hb).1
theorem src_below {w w' : World} {S len cap : Nat} {a : Option Addr} (h : Src w S a len cap) (hb : Below w.heap.size w w') : Src w' S a len cap :=
  src_grown h ⟨hb.os, hb.tape, hb.output, hb.size, fun k hk _ => hb.block k hk⟩
theorem below_grown {w w' : World} (hb : Below w.heap.size w w') (r : Option Nat) : w.grownBy w' r := ⟨hb.os, hb.tape, hb.output, hb.size, fun k hk _ => hb.block k hk⟩
set_option maxRecDepth 100000 in
theorem one_any (S : Nat) (a : Option Addr) (len cap : Nat) (most : Int) (w : World) (hs : Src w S a len cap) (hm : most ≤ 1048576) :
    Calls Tryz.prog 76 #[.pointer (some ⟨S, 0, none⟩), .int .i64 most] w fun e w' => ∃ r : Bool, e = .returned (.bool r) ∧ Src w' S a len cap ∧ w.grownBy w' (some S) := by
  have hn := hide (n_any S a len cap most w hs hm)
  clear hs
  go_enter Tryz.func76, Tryz.ntmps76
  go_wp2_with fail
  refine (unhide hn).mono ?_
  rintro e w1 ⟨r, rfl, -, -, h1, h2⟩
  go_wp2
  go_ret
  exact ⟨_, rfl, h1, h2⟩
set_option maxRecDepth 100000 in
theorem pick_any (S g cp : Nat) (ts : List ByteArray) (a : Option Addr) (len cap : Nat) (w : World) (hs : Src w S a len cap) (h0 : 0 < ts.length) (hl : ts.length ≤ 1000) (hg : g ≠ S)
    (hc : ∀ (k : Nat) t, ts[k]? = some t → w.cell? ⟨g, k, none⟩ = some (.string t)) :
    Calls Tryz.prog 151 #[.pointer (some ⟨S, 0, none⟩), .slice (some ⟨g, 0, none⟩) ts.length cp] w fun e w' => ∃ t, t ∈ ts ∧ e = .returned (.string t) ∧ Src w' S a len cap ∧ w.grownBy w' (some S) := by
  have hn := hide (n_any S a len cap ts.length w hs (by omega))
  have HC := hide hc
  clear hs hc
  go_enter Tryz.func151, Tryz.ntmps151
  go_wp2_with fail
  refine (unhide hn).mono ?_
  rintro e w1 ⟨r, rfl, hr0, hr1, h1, h2⟩
  obtain ⟨k, rfl⟩ : ∃ k : Nat, r = (k : Int) := ⟨r.toNat, by omega⟩
  have hk : k < ts.length := by omega
  have hk2 : (k : Int) < (ts.length : Int) := by omega
  obtain ⟨t, ht⟩ : ∃ t, ts[k]? = some t := ⟨_, List.getElem?_eq_getElem hk⟩
  have hcell : w1.cell? ⟨g, k, none⟩ = some (.string t) := h2.cell (HC.out k t ht) (by simpa using hg)
  have HM := hide (List.mem_of_getElem? ht)
  clear ht hn hr1
  go_wp2
  go_ret
  exact ⟨t, unhide HM, rfl, h1, h2⟩
/-- The cells of a written list of texts. -/
theorem lit_cells (w : World) (ts : List ByteArray) (e : TypeId) : ∀ (k : Nat) t, ts[k]? = some t → (w.alloc (.cells (ts.map Value.string).toArray e)).cell? ⟨w.heap.size, k, none⟩ = some (.string t) := by
  intro k t ht
  rw [cell_of_row _ w.heap.size k _ e (0, 0) (heap_alloc_new w _)]
  simp [ht]
theorem src_alloc {w : World} {S len cap : Nat} {a : Option Addr} (h : Src w S a len cap) (o : Obj) : Src (w.alloc o) S a len cap := src_grown h (World.grownBy_alloc w o none)
set_option maxRecDepth 100000 in
theorem name_any (S : Nat) (a : Option Addr) (len cap : Nat) (w : World) (hs : Src w S a len cap) :
    Calls Tryz.prog 150 #[.pointer (some ⟨S, 0, none⟩)] w fun e w' => ∃ t, t.size ≤ 2 ∧ e = .returned (.string t) ∧ Src w' S a len cap ∧ w.grownBy w' (some S) := by
  have hS := src_lt hs
  have hp := hide (fun ts h0 h1 => pick_any S w.heap.size ts.length ts a len cap (w.alloc (.cells (ts.map Value.string).toArray 9)) (src_alloc hs _) h0 h1 (by omega) (lit_cells w ts _))
  clear hs
  go_enter Tryz.func150, Tryz.ntmps150
  go_wp2_with fail
  refine (unhide hp [⟨#[97]⟩, ⟨#[98]⟩, ⟨#[99]⟩, ⟨#[97, 97]⟩] (by simp) (by simp)).mono ?_
  rintro e w1 ⟨t, hm, rfl, h1, h2⟩
  have hz : t.size ≤ 2 := by
    simp only [List.mem_cons, List.not_mem_nil, or_false] at hm
    rcases hm with rfl | rfl | rfl | rfl <;> decide
  clear hm hp
  go_wp2
  go_ret
  exact ⟨t, hz, rfl, h1, (World.grownBy_alloc w _ _).trans h2⟩
theorem joinN_size (p n : ByteArray) : (Pl.joinN p n).size ≤ p.size + n.size + 1 := by
  by_cases h : Pl.by_ p = []
  · rw [Pl.joinN_root h]; omega
  · have := congrArg List.length (Pl.joinN_two (n := n) h)
    rw [List.length_append, List.length_cons, Pl.by_length, Pl.by_length, Pl.by_length] at this
    omega
set_option maxRecDepth 100000 in
theorem path_any (S : Nat) (a : Option Addr) (len cap : Nat) (w : World) (hs : Src w S a len cap) :
    Calls Tryz.prog 149 #[.pointer (some ⟨S, 0, none⟩)] w fun e w' => ∃ t, t.size ≤ 20 ∧ e = .returned (.string t) ∧ Src w' S a len cap ∧ w.grownBy w' (some S) := by
  have hn := hide (n_any S a len cap 4 w hs (by omega))
  clear hs
  go_enter Tryz.func149, Tryz.ntmps149
  go_wp2_with fail
  refine (unhide hn).mono ?_
  rintro e w1 ⟨r, rfl, hr0, hr1, h1, h2⟩
  clear hn
  go_wp2
  go_loopw [3, 4] (fun t i wr => ∃ (k : Nat) (t0 : ByteArray), k ≤ 3 ∧ i = .int .i64 (k : Int) ∧ t = .string t0 ∧ t0.size + 3 * k ≤ 9 ∧ Src wr S a len cap ∧ w.grownBy wr (some S)) (fun _ i _ => (intOf i).toNat)
  case atStart => exact ⟨r.toNat, ⟨#[]⟩, by omega, by congr 1; omega, rfl, by show 0 + 3 * r.toNat ≤ 9; omega, h1, h2⟩
  case round =>
    obtain ⟨k, t0, hk, rfl, rfl, hz, hs, hg⟩ := hrel
    by_cases h0 : 0 < k
    · have hk1 : (0 : Int) < (k : Int) := by omega
      go_wp2_with fail
      refine (name_any S a len cap _ hs).mono ?_
      rintro e w2 ⟨t, ht, rfl, h3, h4⟩
      go_wp2_with fail
      refine (WPathS.join1_any t0 t _ (by omega) (by omega)).mono ?_
      rintro e w3 ⟨rfl, rfl⟩
      have hj := joinN_size t0 t
      generalize Pl.joinN t0 t = t1 at hj
      have hg2 := hg.trans h4
      clear hs hg h4
      go_wp2
      go_roundw
      case rel => exact ⟨k - 1, t1, by omega, by congr 1; omega, rfl, by omega, h3, hg2⟩
      case measure => simp [intOf]; omega
    · obtain rfl : k = 0 := by omega
      go_wp2_with fail
      refine (one_any S a len cap 20 _ hs (by omega)).mono ?_
      rintro e w2 ⟨b, rfl, h3, h4⟩
      have hg2 := hg.trans h4
      clear hs hg h4
      cases b
      · go_wp2
        go_ret
        exact ⟨t0, by omega, rfl, h3, hg2⟩
      · have hS := src_lt h3
        have hp := hide (fun ts h0 h1 => pick_any S w2.heap.size ts.length ts a len cap (w2.alloc (.cells (ts.map Value.string).toArray 9)) (src_alloc h3 _) h0 h1 (by omega) (lit_cells w2 ts _))
        go_wp2_with fail
        refine (unhide hp [⟨#[47]⟩, ⟨#[97, 47]⟩, ⟨#[47, 97]⟩, ⟨#[65]⟩, ⟨#[97, 47, 47, 98]⟩, ⟨#[97, 47, 98, 47, 99, 47, 97, 47, 98, 47, 99]⟩, ⟨#[97, 47, 98, 47, 99, 47, 97, 47, 98, 47, 99, 47, 97]⟩] (by simp) (by simp)).mono ?_
        rintro e w3 ⟨t, hm, rfl, h5, h6⟩
        have hz2 : t.size ≤ 20 := by
          simp only [List.mem_cons, List.not_mem_nil, or_false] at hm
          rcases hm with rfl | rfl | rfl | rfl | rfl | rfl | rfl <;> decide
        have hg3 := hg2.trans ((World.grownBy_alloc w2 _ _).trans h6)
        clear hm hp h6 hg2
        go_wp2
        go_ret
        exact ⟨t, hz2, rfl, h5, hg3⟩
end WSrc
end Go.Proofs.YtmohbgmbknfaiaaGreatDoor

/- A variable of some cells, through calls. No program in sight. -/
namespace Go.Proofs.YtmohbgmbknfaiaaGreatDoor
open Go.RowKit
namespace Mem
def Var (w : World) (B : Nat) (cs : List Value) : Prop := B < w.heap.size ∧ ∀ (j : Nat) v, cs[j]? = some v → w.cell? ⟨B, j, none⟩ = some v
theorem var_call {w w' : World} {B : Nat} {cs : List Value} (h : Var w B cs) (b : Below w.heap.size w w') : Var w' B cs :=
  ⟨Nat.lt_of_lt_of_le h.1 b.size, fun j v hv => (b.cell (p := ⟨B, j, none⟩) h.1).trans (h.2 j v hv)⟩
theorem var_new (w : World) (cs : List Value) (T : TypeId) : Var (w.alloc (.cells cs.toArray T)) w.heap.size cs :=
  ⟨by simp, fun j v hv => by rw [cell_of_row _ _ j _ T (0, 0) (heap_alloc_new w _)]; simpa using hv⟩
theorem var_alloc {w : World} {B : Nat} {cs : List Value} (h : Var w B cs) (o : Obj) : Var (w.alloc o) B cs :=
  var_call h ((Below.refl _ _).alloc (Nat.le_refl _) o)
theorem var_drew {w : World} {B : Nat} {cs : List Value} (h : Var w B cs) : Var w.drew B cs := h
theorem new_two (w : World) (o1 o2 : Obj) : ((w.alloc o1).alloc o2).heap[w.heap.size + 1]? = some o2 := by
  have h := heap_alloc_new (w.alloc o1) o2
  rwa [show (w.alloc o1).heap.size = w.heap.size + 1 by simp] at h
theorem new_mid (w : World) (o1 o2 o3 : Obj) : (((w.alloc o1).alloc o2).alloc o3).heap[w.heap.size + 1]? = some o2 :=
  ((World.grownBy_alloc ((w.alloc o1).alloc o2) o3 none).block (w.heap.size + 1) (by simp) (by simp)).trans (new_two w o1 o2)
theorem new_three (w : World) (o1 o2 o3 : Obj) : (((w.alloc o1).alloc o2).alloc o3).heap[w.heap.size + 1 + 1]? = some o3 := by
  have h := heap_alloc_new ((w.alloc o1).alloc o2) o3
  rwa [show ((w.alloc o1).alloc o2).heap.size = w.heap.size + 1 + 1 by simp] at h
end Mem
end Go.Proofs.YtmohbgmbknfaiaaGreatDoor

/- Rows of nodes. No program in sight. -/
namespace Go.Proofs.YtmohbgmbknfaiaaGreatDoor
open Go.RowKit
namespace Mem
/-- A slice of nodes: its length, and its cells (below the heap's end). -/
def isNodes (w : World) (a : Option Addr) (L : List Pl.Nd) : Prop :=
  ∀ (i : Nat) n, L[i]? = some n → ∃ b o, a = some ⟨b, o, none⟩ ∧ b < w.heap.size ∧
    w.cell? ⟨b, o + i * 5, none⟩ = some (.string n.path) ∧ w.cell? ⟨b, o + i * 5 + 1, none⟩ = some (.int .i64 n.kind) ∧ w.cell? ⟨b, o + i * 5 + 2, none⟩ = some (.string n.data) ∧
    w.cell? ⟨b, o + i * 5 + 3, none⟩ = some (.int .i64 n.time) ∧ w.cell? ⟨b, o + i * 5 + 4, none⟩ = some (.int .i64 n.mark)
theorem nodes_call {w w' : World} {a : Option Addr} {L : List Pl.Nd} (h : isNodes w a L) (b : Below w.heap.size w w') : isNodes w' a L := fun i n hi => by
  obtain ⟨g, o, h1, h2, h3, h4, h5, h6, h7⟩ := h i n hi
  exact ⟨g, o, h1, Nat.lt_of_lt_of_le h2 b.size, (b.cell (p := ⟨g, _, none⟩) h2).trans h3, (b.cell (p := ⟨g, _, none⟩) h2).trans h4, (b.cell (p := ⟨g, _, none⟩) h2).trans h5, (b.cell (p := ⟨g, _, none⟩) h2).trans h6, (b.cell (p := ⟨g, _, none⟩) h2).trans h7⟩
theorem add_any (b o j : Nat) : (⟨b, o, none⟩ : Addr).add j = ⟨b, o + j, none⟩ := by unfold Addr.add; split <;> simp_all
theorem nodes_nil (w : World) (a : Option Addr) : isNodes w a [] := fun i n hi => by simp at hi
end Mem
end Go.Proofs.YtmohbgmbknfaiaaGreatDoor

/- Rows of nodes that are the call's own: what is in them, one more behind them, and what the marks of a law do to them. -/
namespace Go.Proofs.YtmohbgmbknfaiaaGreatDoor
open Go.RowKit
namespace Pl
/-- A node's five cells. -/
def Nd.cs (n : Nd) : List Value := [.string n.path, .int .i64 n.kind, .string n.data, .int .i64 n.time, .int .i64 n.mark]
def cellsN (L : List Nd) : List Value := L.flatMap Nd.cs
theorem cellsN_len (L : List Nd) : (cellsN L).length = L.length * 5 := by
  induction L with
  | nil => rfl
  | cons n L ih => rw [cellsN, List.flatMap_cons, List.length_append, ← cellsN, ih, List.length_cons]; simp [Nd.cs]; omega
theorem cellsN_cons (n : Nd) (L : List Nd) : cellsN (n :: L) = n.cs ++ cellsN L := by simp [cellsN]
theorem cellsN_app (L M : List Nd) : cellsN (L ++ M) = cellsN L ++ cellsN M := by simp [cellsN]
theorem cellsN_get (L : List Nd) (i : Nat) (n : Nd) (h : L[i]? = some n) (j : Nat) (hj : j < 5) : (cellsN L)[i * 5 + j]? = n.cs[j]? := by
  induction L generalizing i with
  | nil => simp at h
  | cons m L ih =>
    rw [cellsN_cons]
    have hl : m.cs.length = 5 := rfl
    match i, h with
    | 0, h =>
      simp at h; subst h
      rw [List.getElem?_append_left (by rw [hl]; omega)]
      simp
    | i + 1, h =>
      rw [List.getElem?_append_right (by rw [hl]; omega), hl, show (i + 1) * 5 + j - 5 = i * 5 + j by omega]
      exact ih i (by simpa using h)
end Pl
namespace Mem
/-- A row of nodes of the call's own (or none). -/
def ownN (w : World) (B : Nat) (v : Value) (L : List Pl.Nd) : Prop := w.ownsRow B 34 5 v L.length (Pl.cellsN L)
theorem ownN_nil (w : World) (B : Nat) : ownN w B (.slice none 0 0) [] := ⟨rfl, .inl ⟨rfl, rfl⟩⟩
theorem ownN_is {w : World} {B : Nat} {v : Value} {L : List Pl.Nd} (h : ownN w B v L) : ∃ a cap, v = .slice a L.length cap ∧ isNodes w a L := by
  rcases h.2 with ⟨rfl, h0⟩ | ⟨g, cap, cur, rfl, hb, hg, hc, hm, hsz, ht⟩
  · exact ⟨none, 0, by rw [h0], fun i n hi => by rw [List.length_eq_zero_iff.1 h0] at hi; simp at hi⟩
  · refine ⟨some ⟨g, 0, none⟩, cap, rfl, fun i n hi => ?_⟩
    have hlt : i < L.length := (List.getElem?_eq_some_iff.1 hi).1
    have c : ∀ j, j < 5 → w.cell? ⟨g, 0 + i * 5 + j, none⟩ = n.cs[j]? := fun j hj => by
      rw [cell_of_row w g _ cur _ (0, 0) hg, Nat.zero_add, ← Pl.cellsN_get L i n hi j hj, ← ht, List.getElem?_take_of_lt (by omega), Array.getElem?_toList]
    exact ⟨g, 0, rfl, (Array.getElem?_eq_some_iff.1 hg).1, c 0 (by omega), c 1 (by omega), c 2 (by omega), c 3 (by omega), c 4 (by omega)⟩
theorem cs_one (n : Pl.Nd) : ∀ u ∈ n.cs, u.oneCell' = true := by
  intro u hu
  simp only [Pl.Nd.cs, List.mem_cons, List.not_mem_nil, or_false] at hu
  rcases hu with rfl | rfl | rfl | rfl | rfl <;> rfl
/-- A node that is alone in a block that was just made. -/
theorem cs_new (w : World) (n : Pl.Nd) (T : TypeId) : ∀ j u, n.cs[j]? = some u → (w.alloc (.cells n.cs.toArray T)).cell? ((⟨w.heap.size, 0, none⟩ : Addr).add j) = some u := by
  intro j u hj
  rw [Mem.add_lit]
  exact (Mem.var_new w n.cs T).2 j u hj
theorem cs_var {w : World} {X : Nat} (n : Pl.Nd) (h : Mem.Var w X n.cs) : ∀ j u, n.cs[j]? = some u → w.cell? ((⟨X, 0, none⟩ : Addr).add j) = some u := by
  intro j u hj
  rw [Mem.add_lit]
  exact h.2 j u hj
theorem ownN_snoc {w : World} {B : Nat} {v : Value} {L : List Pl.Nd} {n : Pl.Nd} (h : w.ownsRow B 34 5 v (L.length + 1) (Pl.cellsN L ++ n.cs)) : ownN w B v (L ++ [n]) := by
  unfold ownN
  rw [Pl.cellsN_app, List.length_append]
  have e : Pl.cellsN [n] = n.cs := by simp [Pl.cellsN]
  rw [e]; exact h
theorem ownN_call {w w' : World} {B : Nat} {v : Value} {L : List Pl.Nd} (h : ownN w B v L) (b : Below w.heap.size w w') : ownN w' B v L := by
  refine ⟨h.1, ?_⟩
  rcases h.2 with h0 | ⟨g, cap, cur, hv, hb, hg, rest⟩
  · exact .inl h0
  · exact .inr ⟨g, cap, cur, hv, hb, (b.block _ (Array.getElem?_eq_some_iff.1 hg).1).trans hg, rest⟩
theorem ownN_mono {w : World} {B B' : Nat} {v : Value} {L : List Pl.Nd} (h : ownN w B v L) (hb : B' ≤ B) : ownN w B' v L := own_mono h hb
end Mem
end Go.Proofs.YtmohbgmbknfaiaaGreatDoor

/- A block of cells that stands in the heap: through calls, new blocks, appends and stores. No program in sight. -/
namespace Go.Proofs.YtmohbgmbknfaiaaGreatDoor
open Go.RowKit
namespace Mem
def Blk (w : World) (X : Nat) (cs : Array Value) (T : TypeId) : Prop := w.heap[X]? = some (.cells cs T (0, 0))
theorem Blk.lt {w : World} {X : Nat} {cs : Array Value} {T : TypeId} (h : Blk w X cs T) : X < w.heap.size := (Array.getElem?_eq_some_iff.1 h).1
theorem Blk.cell {w : World} {X : Nat} {cs : Array Value} {T : TypeId} (h : Blk w X cs T) (k : Nat) : w.cell? ⟨X, k, none⟩ = cs[k]? := cell_of_row w X k cs T (0, 0) h
theorem Blk.fr {w : World} {X : Nat} {cs : Array Value} {T : TypeId} (h : Blk w X cs T) (k : Nat) : w.frozen? ⟨X, k, none⟩ = false := row_frozen h
theorem Blk.call {w w' : World} {X : Nat} {cs : Array Value} {T : TypeId} (h : Blk w X cs T) (b : Below w.heap.size w w') : Blk w' X cs T := (b.block _ h.lt).trans h
theorem Blk.below {w w' : World} {X B : Nat} {cs : Array Value} {T : TypeId} (h : Blk w X cs T) (b : Below B w w') (hX : X < B) : Blk w' X cs T := (b.block _ hX).trans h
theorem Blk.alloc {w : World} {X : Nat} {cs : Array Value} {T : TypeId} (h : Blk w X cs T) (o : Obj) : Blk (w.alloc o) X cs T := h.call ((Below.refl _ _).alloc (Nat.le_refl _) o)
theorem Blk.new (w : World) (cs : Array Value) (T : TypeId) : Blk (w.alloc (.cells cs T)) w.heap.size cs T := heap_alloc_new w _
theorem Blk.grown {w w' : World} {X : Nat} {cs : Array Value} {T : TypeId} {r : Option Nat} (h : Blk w X cs T) (g : w.grownBy w' r) (hr : some X ≠ r) : Blk w' X cs T := (g.block _ h.lt hr).trans h
theorem Blk.put {w : World} {X : Nat} {cs : Array Value} {T : TypeId} (h : Blk w X cs T) (k : Nat) (v : Value) : Blk (w.setCell ⟨X, k, none⟩ v) X (cs.setIfInBounds k v) T := heap_setCell_same w X k cs T v h
theorem Blk.far {w : World} {X : Nat} {cs : Array Value} {T : TypeId} (h : Blk w X cs T) (a : Addr) (v : Value) (ha : X ≠ a.block) : Blk (w.setCell a v) X cs T := (heap_setCell_other w a X v ha).trans h
theorem ownN_set {w : World} {B : Nat} {v : Value} {L : List Pl.Nd} (h : ownN w B v L) (a : Addr) (u : Value) (ha : a.block < B) : ownN (w.setCell a u) B v L := by
  refine ⟨h.1, ?_⟩
  rcases h.2 with h0 | ⟨g, cap, cur, hv, hb, hg, rest⟩
  · exact .inl h0
  · exact .inr ⟨g, cap, cur, hv, hb, (heap_setCell_other w a g u (by omega)).trans hg, rest⟩
theorem ownN_far {w : World} {B : Nat} {v : Value} {L : List Pl.Nd} (h : ownN w B v L) (a : Addr) (u : Value) (ha : ∀ g, v.ownBlock = some g → a.block ≠ g) : ownN (w.setCell a u) B v L := by
  refine ⟨h.1, ?_⟩
  rcases h.2 with h0 | ⟨g, cap, cur, rfl, hb, hg, rest⟩
  · exact .inl h0
  · exact .inr ⟨g, cap, cur, rfl, hb, (heap_setCell_other w a g u (fun e => ha g rfl e.symm)).trans hg, rest⟩
theorem ownN_alloc {w : World} {B : Nat} {v : Value} {L : List Pl.Nd} (h : ownN w B v L) (o : Obj) : ownN (w.alloc o) B v L := ownN_call h ((Below.refl _ _).alloc (Nat.le_refl _) o)
theorem ownN_lt {w : World} {B : Nat} {v : Value} {L : List Pl.Nd} (h : ownN w B v L) : ∀ g, v.ownBlock = some g → B ≤ g ∧ g < w.heap.size := fun g hg => World.ownsRow.lt h g hg
theorem ownN_nodes {w : World} {B n cap : Nat} {a : Option Addr} {L : List Pl.Nd} (h : ownN w B (.slice a n cap) L) : n = L.length ∧ isNodes w a L := by
  obtain ⟨a', cap', e, hn⟩ := ownN_is h
  injection e with e1 e2 e3
  subst e1 e2 e3
  exact ⟨rfl, hn⟩
theorem nodes_grown {w w' : World} {g o : Nat} {r : Option Nat} {L : List Pl.Nd} (h : isNodes w (some ⟨g, o, none⟩) L) (hg : w.grownBy w' r) (hr : some g ≠ r) : isNodes w' (some ⟨g, o, none⟩) L := fun i n hi => by
  obtain ⟨g', o', h1, h2, h3, h4, h5, h6, h7⟩ := h i n hi
  cases h1
  exact ⟨g, o, rfl, Nat.lt_of_lt_of_le h2 hg.size, hg.cell h3 hr, hg.cell h4 hr, hg.cell h5 hr, hg.cell h6 hr, hg.cell h7 hr⟩
theorem ownN_grown {w w' : World} {B : Nat} {v : Value} {r : Option Nat} {L : List Pl.Nd} (h : ownN w B v L) (hg : w.grownBy w' r) (hr : ∀ g, v.ownBlock = some g → some g ≠ r) : ownN w' B v L := by
  refine ⟨h.1, ?_⟩
  rcases h.2 with h0 | ⟨g, cap, cur, rfl, hb, hh, rest⟩
  · exact .inl h0
  · exact .inr ⟨g, cap, cur, rfl, hb, (hg.block g (Array.getElem?_eq_some_iff.1 hh).1 (hr g rfl)).trans hh, rest⟩
theorem grown_of_below {w w' : World} (b : Below w.heap.size w w') (r : Option Nat) : w.grownBy w' r := ⟨b.os, b.tape, b.output, b.size, fun j hj _ => b.block j hj⟩
theorem grown_trans {w v v' : World} {r : Option Nat} (h : w.grownBy v r) (h' : v.grownBy v' r) : w.grownBy v' r :=
  ⟨h'.os.trans h.os, h'.tape.trans h.tape, h'.output.trans h.output, Nat.le_trans h.size h'.size, fun j hj hne => (h'.block j (Nat.lt_of_lt_of_le hj h.size) hne).trans (h.block j hj hne)⟩
end Mem
end Go.Proofs.YtmohbgmbknfaiaaGreatDoor

