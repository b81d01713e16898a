/- Several texts of one claim in one file: Mem3, WSpI2, MapI. -/
import Derived.Test.YtlgbdbmikmbioaaDoorG09
import Derived.Test.YtlgbdbmikmbioaaDoorG07
import Derived.Test.YtlgbdbmikmbioaaDoorG05
import Derived.Laws.AppendOwn
import Derived.Laws.AppendOwnNone
import Derived.Test.YtlgbdbmikmbioaaDoorG13
import Derived.Test.YtlgbdbmikmbioaaDoorWLawSz
import Derived.Test.YtlgbdbmikmbioaaDoorProg
import Derived.Maps.OwnSet
import Derived.Maps.RangeWalk
import Derived.WalkKit
/- Rows of things of three cells: what is in them, and rows of the call's own. -/
namespace Go.Proofs.YtlgbdbmikmbioaaDoor
open Go.RowKit
namespace Pl
def Mn.cs (n : Mn) : List Value := [.string n.p, .int .i64 n.i, .bool n.z]
def Hn.cs (n : Hn) : List Value := [.int .i64 n.d, .int .i64 n.i, .string n.p]
theorem Mn.three (n : Mn) : n.cs.length = 3 := rfl
theorem Hn.three (n : Hn) : n.cs.length = 3 := rfl
def cells3 {α : Type} (cs : α → List Value) (L : List α) : List Value := L.flatMap cs
theorem cells3_cons {α : Type} (cs : α → List Value) (n : α) (L : List α) : cells3 cs (n :: L) = cs n ++ cells3 cs L := by simp [cells3]
theorem cells3_app {α : Type} (cs : α → List Value) (L M : List α) : cells3 cs (L ++ M) = cells3 cs L ++ cells3 cs M := by simp [cells3]
theorem cells3_one {α : Type} (cs : α → List Value) (n : α) : cells3 cs [n] = cs n := by simp [cells3]
theorem cells3_len {α : Type} {cs : α → List Value} (h3 : ∀ x, (cs x).length = 3) (L : List α) : (cells3 cs L).length = L.length * 3 := by
  induction L with
  | nil => rfl
  | cons n L ih => rw [cells3_cons, List.length_append, ih, List.length_cons, h3]; omega
theorem cells3_get {α : Type} {cs : α → List Value} (h3 : ∀ x, (cs x).length = 3) (L : List α) (i : Nat) (n : α) (h : L[i]? = some n) (j : Nat) (hj : j < 3) : (cells3 cs L)[i * 3 + j]? = (cs n)[j]? := by
  induction L generalizing i with
  | nil => simp at h
  | cons m L ih =>
    rw [cells3_cons]
    match i, h with
    | 0, h =>
      simp at h; subst h
      rw [List.getElem?_append_left (by rw [h3]; omega)]
      simp
    | i + 1, h =>
      rw [List.getElem?_append_right (by rw [h3]; omega), h3, show (i + 1) * 3 + j - 3 = i * 3 + j by omega]
      exact ih i (by simpa using h)
end Pl
namespace Mem
/-- A row of things of three cells. -/
def isRow3 {α : Type} (cs : α → List Value) (w : World) (a : Option Addr) (L : List α) : Prop :=
  ∀ (i : Nat) x, L[i]? = some x → ∃ b o, a = some ⟨b, o, none⟩ ∧ b < w.heap.size ∧ ∀ j u, (cs x)[j]? = some u → w.cell? ⟨b, o + i * 3 + j, none⟩ = some u
theorem row_of_mounts {w : World} {a : Option Addr} {L : List Pl.Mn} (h : isMounts w a L) : isRow3 Pl.Mn.cs w a L := fun i x hi => by
  obtain ⟨b, o, h1, h2, h3, h4, h5⟩ := h i x hi
  refine ⟨b, o, h1, h2, fun j u hj => ?_⟩
  match j, hj with
  | 0, hj => cases hj; exact h3
  | 1, hj => cases hj; exact h4
  | 2, hj => cases hj; exact h5
  | j + 3, hj => simp [Pl.Mn.cs] at hj
theorem row_of_hands {w : World} {a : Option Addr} {L : List Pl.Hn} (h : isHands w a L) : isRow3 Pl.Hn.cs w a L := fun i x hi => by
  obtain ⟨b, o, h1, h2, h3, h4, h5⟩ := h i x hi
  refine ⟨b, o, h1, h2, fun j u hj => ?_⟩
  match j, hj with
  | 0, hj => cases hj; exact h3
  | 1, hj => cases hj; exact h4
  | 2, hj => cases hj; exact h5
  | j + 3, hj => simp [Pl.Hn.cs] at hj
theorem mounts_of_row {w : World} {a : Option Addr} {L : List Pl.Mn} (h : isRow3 Pl.Mn.cs w a L) : isMounts w a L := fun i x hi => by
  obtain ⟨b, o, h1, h2, h3⟩ := h i x hi
  exact ⟨b, o, h1, h2, h3 0 _ rfl, h3 1 _ rfl, h3 2 _ rfl⟩
theorem hands_of_row {w : World} {a : Option Addr} {L : List Pl.Hn} (h : isRow3 Pl.Hn.cs w a L) : isHands w a L := fun i x hi => by
  obtain ⟨b, o, h1, h2, h3⟩ := h i x hi
  exact ⟨b, o, h1, h2, h3 0 _ rfl, h3 1 _ rfl, h3 2 _ rfl⟩
theorem cells3_at {α : Type} {cs : α → List Value} (h3 : ∀ x, (cs x).length = 3) {w : World} {g o : Nat} {M : List α} (h : isRow3 cs w (some ⟨g, o, none⟩) M) : ∀ j u, (Pl.cells3 cs M)[j]? = some u → w.cell? ((⟨g, o, none⟩ : Addr).add j) = some u := by
  intro j u hj
  have hlt : j < M.length * 3 := by
    have := (List.getElem?_eq_some_iff.1 hj).1
    rwa [Pl.cells3_len h3] at this
  have hd : j / 3 < M.length := by omega
  have hx : M[j / 3]? = some M[j / 3] := List.getElem?_eq_getElem hd
  obtain ⟨b, o', e, h2, h4⟩ := h (j / 3) _ hx
  cases e
  have h5 := Pl.cells3_get h3 M (j / 3) _ hx (j % 3) (by omega)
  rw [show j / 3 * 3 + j % 3 = j by omega, hj] at h5
  have h6 := h4 (j % 3) u h5.symm
  rw [show o + j / 3 * 3 + j % 3 = o + j by omega] at h6
  rw [Mem.add_any]
  exact h6
theorem cs3_one {α : Type} {cs : α → List Value} (h1 : ∀ x, ∀ u ∈ cs x, u.oneCell' = true) (M : List α) : ∀ u ∈ Pl.cells3 cs M, u.oneCell' = true := by
  intro u hu
  rw [Pl.cells3, List.mem_flatMap] at hu
  obtain ⟨x, -, h⟩ := hu
  exact h1 x u h
theorem mn_one (n : Pl.Mn) : ∀ u ∈ n.cs, u.oneCell' = true := by
  intro u hu
  simp only [Pl.Mn.cs, List.mem_cons, List.not_mem_nil, or_false] at hu
  rcases hu with rfl | rfl | rfl <;> rfl
theorem hn_one (n : Pl.Hn) : ∀ u ∈ n.cs, u.oneCell' = true := by
  intro u hu
  simp only [Pl.Hn.cs, List.mem_cons, List.not_mem_nil, or_false] at hu
  rcases hu with rfl | rfl | rfl <;> rfl
/-- A row of the call's own (or none). -/
def own3 {α : Type} (T : TypeId) (cs : α → List Value) (w : World) (B : Nat) (v : Value) (L : List α) : Prop := w.ownsRow B T 3 v L.length (Pl.cells3 cs L)
theorem own3_nil {α : Type} (T : TypeId) (cs : α → List Value) (w : World) (B : Nat) : own3 T cs w B (.slice none 0 0) [] := ⟨rfl, .inl ⟨rfl, rfl⟩⟩
theorem own3_is {α : Type} {T : TypeId} {cs : α → List Value} (h3 : ∀ x, (cs x).length = 3) {w : World} {B : Nat} {v : Value} {L : List α} (h : own3 T cs w B v L) : ∃ a cap, v = .slice a L.length cap ∧ isRow3 cs w a L ∧ L.length ≤ cap ∧ ((a = none ∧ cap = 0 ∧ L = []) ∨ ∃ g, a = some ⟨g, 0, none⟩ ∧ B ≤ g ∧ g < w.heap.size) := by
  rcases h.2 with ⟨rfl, h0⟩ | ⟨g, cap, cur, rfl, hb, hg, hc, hm, hsz, ht⟩
  · have e := List.length_eq_zero_iff.1 h0
    exact ⟨none, 0, by rw [h0], fun i n hi => by rw [e] at hi; simp at hi, by omega, .inl ⟨rfl, rfl, e⟩⟩
  · have hgl := (Array.getElem?_eq_some_iff.1 hg).1
    refine ⟨some ⟨g, 0, none⟩, cap, rfl, fun i n hi => ?_, by omega, .inr ⟨g, rfl, hb, hgl⟩⟩
    have hlt : i < L.length := (List.getElem?_eq_some_iff.1 hi).1
    refine ⟨g, 0, rfl, hgl, fun j u hj => ?_⟩
    have hj3 : j < 3 := by have := (List.getElem?_eq_some_iff.1 hj).1; rwa [h3] at this
    rw [cell_of_row w g _ cur _ (0, 0) hg, Nat.zero_add, ← hj, ← Pl.cells3_get h3 L i n hi j hj3, ← ht, List.getElem?_take_of_lt (by omega), Array.getElem?_toList]
theorem own3_call {α : Type} {T : TypeId} {cs : α → List Value} {w w' : World} {B : Nat} {v : Value} {L : List α} (h : own3 T cs w B v L) (b : Below w.heap.size w w') : own3 T cs w' B v L :=
  World.ownsRow.kept h (grown_of_below b none) (Classical.em _)
theorem own3_mono {α : Type} {T : TypeId} {cs : α → List Value} {w : World} {B B' : Nat} {v : Value} {L : List α} (h : own3 T cs w B v L) (hb : B' ≤ B) : own3 T cs w B' v L := own_mono h hb
end Mem
end Go.Proofs.YtlgbdbmikmbioaaDoor

/- The program's mountedTwice: slices.IndexFunc and slices.ContainsFunc over mounts. -/
namespace Go.Proofs.YtlgbdbmikmbioaaDoor
open Go.RowKit
namespace Pl
/-- The place of the first one of which f holds, or -1. -/
def idxF {α : Type} (f : α → Bool) : List α → Int
  | [] => -1
  | x :: r => if f x then 0 else (if idxF f r < 0 then -1 else idxF f r + 1)
theorem idx_at {α : Type} {f : α → Bool} {l : List α} {k : Nat} {x : α} (h : l[k]? = some x) (hx : f x = true) (hn : ∀ (j : Nat) y, j < k → l[j]? = some y → f y = false) : idxF f l = (k : Int) := by
  induction l generalizing k with
  | nil => simp at h
  | cons y r ih =>
    rw [idxF]
    cases k with
    | zero => simp at h; subst h; rw [if_pos hx]; rfl
    | succ k =>
      have h0 : f y = false := hn 0 y (by omega) rfl
      have := ih (k := k) (by simpa using h) (fun j z hj hz => hn (j + 1) z (by omega) (by simpa using hz))
      rw [if_neg (by simp [h0]), this, if_neg (by omega)]
      omega
theorem idx_no {α : Type} {f : α → Bool} {l : List α} (hn : ∀ (j : Nat) y, l[j]? = some y → f y = false) : idxF f l = -1 := by
  induction l with
  | nil => rfl
  | cons y r ih =>
    have h0 : f y = false := hn 0 y rfl
    have := ih (fun j z hz => hn (j + 1) z (by simpa using hz))
    rw [idxF, if_neg (by simp [h0]), this]
    rfl
theorem idx_any {α : Type} (f : α → Bool) (l : List α) : decide (0 ≤ idxF f l) = l.any f := by
  induction l with
  | nil => rfl
  | cons y r ih =>
    rw [idxF, List.any_cons]
    cases h : f y
    · rw [if_neg (by simp), Bool.false_or, ← ih]
      split
      · rename_i h2; rw [decide_eq_decide]; omega
      · rename_i h2; rw [decide_eq_decide]; omega
    · rfl
end Pl
namespace WSpI
set_option linter.unusedSimpArgs false in
set_option maxRecDepth 100000 in
set_option maxHeartbeats 800000 in
theorem index_any (K : FuncId) (c : Value) (f : Pl.Mn → Bool) (a : Option Addr) (cap : Nat) (M : List Pl.Mn) (w : World) (hl : M.length ≤ 1048576) (hv : Mem.isMounts w a M)
    (hE : ∀ (t : Pl.Mn) W, (callFunc K #[.agg #[.string t.p, .int .i64 t.i, .bool t.z], c]).run Tryd.prog W = .ok (.enter K #[.agg #[.string t.p, .int .i64 t.i, .bool t.z], c]) W)
    (hK : ∀ t ∈ M, ∀ W, Below w.heap.size w W → Calls Tryd.prog K #[.agg #[.string t.p, .int .i64 t.i, .bool t.z], c] W fun e w' => e = .returned (.bool (f t)) ∧ Below W.heap.size W w') :
    Calls Tryd.prog 75 #[.slice a M.length cap, .func (.func K) #[] #[c]] w fun e w' => e = .returned (.int .i64 (Pl.idxF f M)) ∧ Below w.heap.size w w' := by
  have HX := hide hv
  have HK := hide hK
  have HAT := hide (fun (k : Nat) (x : Pl.Mn) => Pl.idx_at (f := f) (l := M) (k := k) (x := x))
  have HNO := hide (Pl.idx_no (f := f) (l := M))
  generalize Pl.idxF f M = R at HAT HNO ⊢
  clear hv hK
  go_enter Tryd.func75, Tryd.ntmps75
  go_wp2
  go_loopw [8] (fun i wr => ∃ k : Nat, k ≤ M.length ∧ i = .int .i64 (k : Int) ∧ Below w.heap.size w wr ∧ Hid (∀ (j : Nat) y, j < k → M[j]? = some y → f y = false)) (fun i _ => M.length - (intOf i).toNat)
  case atStart => exact ⟨0, Nat.zero_le _, rfl, Below.refl _ _, fun j y h => absurd h (by omega)⟩
  case round =>
    obtain ⟨k, hk, rfl, hbel, HA⟩ := hrel
    by_cases hlt : k < M.length
    · obtain ⟨t, ht⟩ : ∃ n, M[k]? = some n := ⟨_, List.getElem?_eq_getElem hlt⟩
      obtain ⟨g, o, rfl, hg, q0, q1, q2⟩ := (unhide HX) k t ht
      have c0 := (hbel.cell (p := ⟨g, _, none⟩) hg).trans q0
      have c1 := (hbel.cell (p := ⟨g, _, none⟩) hg).trans q1
      have c2 := (hbel.cell (p := ⟨g, _, none⟩) hg).trans q2
      have u1 : (k : Int) < (M.length : Int) := by omega
      have u3 : (0 : Int) ≤ (k : Int) := by omega
      have hc := hide (unhide HK t (List.mem_of_getElem? ht) wr hbel)
      have HT := hide ht
      have hE1 := hE t
      clear q0 q1 q2 ht
      go_wp2_with fail
      refine (unhide hc).mono ?_
      rintro e w1 ⟨rfl, bX⟩
      have b1 := hbel.trans (bX.mono hbel.size)
      cases hf : f t
      · have HA2 : Hid (∀ (j : Nat) y, j < k + 1 → M[j]? = some y → f y = false) := fun j y hj hy => by
          rcases Nat.lt_succ_iff_lt_or_eq.1 hj with h | h
          · exact unhide HA j y h hy
          · subst h; rw [unhide HT] at hy; cases hy; exact hf
        go_wp2
        go_roundw
        case rel => exact ⟨k + 1, by omega, by go_num, b1, HA2⟩
        case measure => simp [intOf]; omega
      · have e0 := hide (unhide HAT k t (unhide HT) hf (unhide HA))
        go_wp2
        go_ret
        exact ⟨by rw [unhide e0]; rfl, b1⟩
    · have u1 : ¬ (k : Int) < (M.length : Int) := by omega
      have e0 := hide (unhide HNO (fun j y hy => unhide HA j y (by have := (List.getElem?_eq_some_iff.1 hy).1; omega) hy))
      go_wp2
      go_ret
      exact ⟨by rw [unhide e0]; rfl, hbel⟩
set_option maxRecDepth 100000 in
theorem contains_any (K : FuncId) (c : Value) (f : Pl.Mn → Bool) (a : Option Addr) (cap : Nat) (M : List Pl.Mn) (w : World) (hl : M.length ≤ 1048576) (hv : Mem.isMounts w a M)
    (hE : ∀ (t : Pl.Mn) W, (callFunc K #[.agg #[.string t.p, .int .i64 t.i, .bool t.z], c]).run Tryd.prog W = .ok (.enter K #[.agg #[.string t.p, .int .i64 t.i, .bool t.z], c]) W)
    (hK : ∀ t ∈ M, ∀ W, Below w.heap.size w W → Calls Tryd.prog K #[.agg #[.string t.p, .int .i64 t.i, .bool t.z], c] W fun e w' => e = .returned (.bool (f t)) ∧ Below W.heap.size W w') :
    Calls Tryd.prog 67 #[.slice a M.length cap, .func (.func K) #[] #[c]] w fun e w' => e = .returned (.bool (M.any f)) ∧ Below w.heap.size w w' := by
  have hi := hide (index_any K c f a cap M w hl hv hE hK)
  have HA := hide (Pl.idx_any f M)
  generalize Pl.idxF f M = R at hi HA
  generalize M.any f = B at HA ⊢
  clear hE hK hv
  go_enter Tryd.func67, Tryd.ntmps67
  go_wp2_with fail
  refine (unhide hi).mono ?_
  rintro e w1 ⟨rfl, bX⟩
  go_wp2
  go_ret
  exact ⟨by rw [← unhide HA]; rfl, bX⟩
/-- A mount that is another one, with the same instance. -/
def other (m o : Pl.Mn) : Bool := !(decide (o.p = m.p) && decide (o.i = m.i) && decide (o.z = m.z)) && decide (o.i = m.i)
set_option linter.unusedSimpArgs false in
set_option maxRecDepth 100000 in
set_option maxHeartbeats 800000 in
theorem other_any (m o : Pl.Mn) (X : Nat) (w : World) (hX : Mem.Blk w X #[.string m.p, .int .i64 m.i, .bool m.z] 68) :
    Calls Tryd.prog 68 #[.agg #[.string o.p, .int .i64 o.i, .bool o.z], .pointer (some ⟨X, 0, none⟩)] w fun e w' => e = .returned (.bool (other m o)) ∧ Below w.heap.size w w' := by
  have b0 := (Below.refl w.heap.size w).alloc (o := .cells #[.string o.p, .int .i64 o.i, .bool o.z] 68) (Nat.le_refl _)
  have V := Mem.Blk.new w #[.string o.p, .int .i64 o.i, .bool o.z] 68
  have Y := hX.alloc (.cells #[.string o.p, .int .i64 o.i, .bool o.z] 68)
  have a0 := V.cell 0
  have a1 := V.cell 1
  have a2 := V.cell 2
  have y0 := Y.cell 0
  have y1 := Y.cell 1
  have y2 := Y.cell 2
  simp only [kA0, kA1, kA2] at a0 a1 a2 y0 y1 y2
  clear V Y hX
  obtain ⟨op, oi, oz⟩ := o
  obtain ⟨mp, mi, mz⟩ := m
  simp only at a0 a1 a2 y0 y1 y2 b0 ⊢
  by_cases hi : oi = mi
  · subst hi
    by_cases hp : op = mp
    · subst hp
      by_cases hz : oz = mz
      · subst hz
        have e0 : other ⟨op, oi, oz⟩ ⟨op, oi, oz⟩ = false := by simp [other]
        rw [e0]
        go_enter Tryd.func68, Tryd.ntmps68
        go_wp2
        go_ret
        exact ⟨rfl, b0⟩
      · have e0 : other ⟨op, oi, mz⟩ ⟨op, oi, oz⟩ = true := by simp [other, hz]
        rw [e0]
        have hz1 : (oz == mz) = false := by simpa using hz
        go_enter Tryd.func68, Tryd.ntmps68
        go_wp2
        go_ret
        exact ⟨rfl, b0⟩
    · have e0 : other ⟨mp, oi, mz⟩ ⟨op, oi, oz⟩ = true := by simp [other, hp]
      rw [e0]
      have hp1 := Pl.ne_lists hp
      go_enter Tryd.func68, Tryd.ntmps68
      go_wp2
      go_ret
      exact ⟨rfl, b0⟩
  · have e0 : other ⟨mp, mi, mz⟩ ⟨op, oi, oz⟩ = false := by simp [other, hi]
    rw [e0]
    have hi1 : (oi == mi) = false := by simpa using hi
    go_enter Tryd.func68, Tryd.ntmps68
    go_wp2
    go_ret
    exact ⟨rfl, b0⟩
end WSpI
end Go.Proofs.YtlgbdbmikmbioaaDoor

/- A map from numbers to values: what it reads as. -/
namespace Go.Proofs.YtlgbdbmikmbioaaDoor
open Go.RowKit Go.Maps
namespace MapI
def key (d : Int) : Lit := .int .i64 d
/-- A number of 64 bits. -/
def i64 (d : Int) : Prop := -9223372036854775808 ≤ d ∧ d ≤ 9223372036854775807
theorem wf_of {d : Int} (h : i64 d) : (Lit.int .i64 d).wf = true := by
  obtain ⟨h1, h2⟩ := h
  have e1 : IntKind.i64.min = -9223372036854775808 := by decide
  have e2 : IntKind.i64.max = 9223372036854775807 := by decide
  simp only [Lit.wf, e1, e2, Bool.and_eq_true, decide_eq_true_eq]
  omega
/-- How an element's value reads: as itself. -/
def elem (v : Value) : Option (DataW Value × List MemPlace) := some (.held v, [])
def dat (v : Value) : DataW Value := .held v
theorem elem_mk (v : Value) : elem v = some (dat v, []) := rfl
theorem dat_inj {a b : Value} (h : dat a = dat b) : a = b := by unfold dat at h; exact DataW.held.inj h
/-- The map of some numbers and their values, put one behind the other. -/
def mapOf (C : List (Int × Value)) : DataW Value := C.foldl (fun D n => D.put (key n.1) (dat n.2)) (.map [])
theorem mapOf_snoc (C : List (Int × Value)) (n : Int × Value) : mapOf (C ++ [n]) = (mapOf C).put (key n.1) (dat n.2) := by simp [mapOf, List.foldl_append]
theorem key_is (p : Int) : WideAt.IsKeyLit (key p) := by simp [key, WideAt.IsKeyLit]
theorem key_ne {a b : Int} (h : a ≠ b) : key a ≠ key b := fun e => h (by unfold key at e; exact (Lit.int.inj e).2)
theorem isMap_fold : ∀ (C : List (Int × Value)) (D : DataW Value), IsMap D → IsMap (C.foldl (fun D n => D.put (key n.1) (dat n.2)) D) := by
  intro C
  induction C with
  | nil => intro D h; exact h
  | cons n C ih => intro D h; exact ih _ (h.put _ _)
theorem mapOf_isMap (C : List (Int × Value)) : IsMap (mapOf C) := isMap_fold C _ isMap_empty
theorem mapOf_miss (p : Int) : ∀ (C : List (Int × Value)) (D : DataW Value), (∀ n ∈ C, n.1 ≠ p) → Maps.has (C.foldl (fun D n => D.put (key n.1) (dat n.2)) D) (key p) = Maps.has D (key p) ∧ ∀ z, (C.foldl (fun D n => D.put (key n.1) (dat n.2)) D).atKey (key p) z = D.atKey (key p) z := by
  intro C
  induction C with
  | nil => intro D _; exact ⟨rfl, fun _ => rfl⟩
  | cons n C ih =>
    intro D h
    have h1 : key p ≠ key n.1 := key_ne (fun e => h n List.mem_cons_self e.symm)
    obtain ⟨i1, i2⟩ := ih (D.put (key n.1) (dat n.2)) (fun m hm => h m (List.mem_cons_of_mem _ hm))
    refine ⟨?_, fun z => ?_⟩
    · show Maps.has (C.foldl _ (D.put (key n.1) (dat n.2))) (key p) = _
      rw [i1, has_put_other h1]
    · show (C.foldl _ (D.put (key n.1) (dat n.2))).atKey (key p) z = _
      rw [i2, atKey_put_other h1]
theorem has_no {C : List (Int × Value)} {p : Int} (h : p ∉ C.map (·.1)) : Maps.has (mapOf C) (key p) = false := by
  rw [mapOf, (mapOf_miss p C _ (fun n hn e => h (List.mem_map.2 ⟨n, hn, e⟩))).1]; rfl
theorem at_no {C : List (Int × Value)} {p : Int} (h : p ∉ C.map (·.1)) (z : DataW Value) : (mapOf C).atKey (key p) z = z := by
  rw [mapOf, (mapOf_miss p C _ (fun n hn e => h (List.mem_map.2 ⟨n, hn, e⟩))).2]; rfl
/-- Where no two have one number: what stands at a number. -/
theorem at_yes {C : List (Int × Value)} {n : Int × Value} (hC : C.Pairwise (fun a b => a.1 ≠ b.1)) (hn : n ∈ C) : Maps.has (mapOf C) (key n.1) = true ∧ ∀ z, (mapOf C).atKey (key n.1) z = dat n.2 := by
  obtain ⟨A, B, rfl⟩ := List.append_of_mem hn
  rw [List.pairwise_append] at hC
  have h2 := (List.pairwise_cons.1 hC.2.1).1
  have e : mapOf (A ++ n :: B) = B.foldl (fun D n => D.put (key n.1) (dat n.2)) ((mapOf A).put (key n.1) (dat n.2)) := by simp [mapOf, List.foldl_append]
  obtain ⟨i1, i2⟩ := mapOf_miss n.1 B ((mapOf A).put (key n.1) (dat n.2)) (fun m hm e => h2 m hm e.symm)
  rw [e]
  exact ⟨by rw [i1, has_put_same (mapOf_isMap A) (key_is _)], fun z => by rw [i2, atKey_put_same (mapOf_isMap A) (key_is _)]⟩
/-- What stands at a number, or nothing. -/
def getV (C : List (Int × Value)) (d : Int) (z : Value) : Value := match C.find? (fun n => decide (n.1 = d)) with | some n => n.2 | none => z
theorem look {C : List (Int × Value)} (hC : C.Pairwise (fun a b => a.1 ≠ b.1)) (d : Int) (z : Value) : Maps.has (mapOf C) (key d) = decide (d ∈ C.map (·.1)) ∧ (mapOf C).atKey (key d) (dat z) = dat (getV C d z) := by
  unfold getV
  by_cases h : d ∈ C.map (·.1)
  · obtain ⟨n, hn, rfl⟩ := List.mem_map.1 h
    obtain ⟨h1, h2⟩ := at_yes hC hn
    rw [h1, h2]
    refine ⟨by simp [h], ?_⟩
    cases hf : C.find? (fun m => decide (m.1 = n.1)) with
    | none => exact absurd (List.find?_eq_none.1 hf n hn) (by simp)
    | some m =>
      have h3 := List.find?_some hf
      have h4 := List.mem_of_find?_eq_some hf
      have e : m = n := by
        by_cases e : m = n
        · exact e
        · exfalso
          obtain ⟨i, hi, e1⟩ := List.mem_iff_getElem.1 hn
          obtain ⟨j, hj, e2⟩ := List.mem_iff_getElem.1 h4
          have h5 := List.pairwise_iff_getElem.1 hC
          rcases Nat.lt_trichotomy i j with hij | hij | hij
          · exact h5 i j hi hj hij (by rw [e1, e2]; exact (of_decide_eq_true h3).symm)
          · subst hij; exact e (e2.symm.trans e1)
          · exact h5 j i hj hi hij (by rw [e1, e2]; exact of_decide_eq_true h3)
      subst e
      rfl
  · rw [has_no h, at_no h]
    refine ⟨by simp [h], ?_⟩
    cases hf : C.find? (fun m => decide (m.1 = d)) with
    | none => rfl
    | some m => have h3 := List.find?_some hf; simp only [decide_eq_true_eq] at h3; exact absurd (List.mem_map.2 ⟨m, List.mem_of_find?_eq_some hf, h3⟩) h
theorem law : Keyed Tryd.prog 2 := int_keyed Tryd.underlying2
theorem keyOf_mk {d : Int} (h : i64 d) : keyOf Tryd.prog 2 (.int .i64 d) = some (key d) := keyOf_int_mk Tryd.underlying2 (wf_of h)
/-- 'm[k]' with the word whether it is there, as a statement of its own. -/
theorem look_ok {P : Program} (w : World) {ops : Array Oper} {rest : List Oper} {o : Oper} {a : Act} {Q : Exit → Act → World → Prop} (hg : o.guard = none) (m x : Operand) (t : TypeId) (hop : o.op = Op.lookup t m x true)
    (k e : TypeId) (K : Keyed P k) (ht : P.underlying t = some (.map k e)) (z : Value) (hz : (zeroValue e).run P w = .ok z w) (b n : Nat) (D : DataW Value)
    (hm : a.eval m = .map (some b)) (hown : w.ownsMap P k elem b n D) (kv : Value) (kl : Lit) (hx : a.eval x = kv) (hkey : keyOf P k kv = some kl) (v : Value) (hat : D.atKey kl (dat z) = dat v) (r : Bool) (hr : Maps.has D kl = r)
    (hK : wpList P ops Q rest (a.put o.dst (.tuple #[v, .bool r])) w) :
    wpList P ops Q (o :: rest) a w := by
  refine wpList_plain hg fun K' hK' => ?_
  obtain ⟨v1, ps, hrun, hv⟩ := hown.look_ok K ht hz (elem_mk _) hkey
  have hd : v1 = v := by
    unfold elem at hv
    simp only [Option.some.injEq, Prod.mk.injEq] at hv
    rw [hat] at hv
    exact dat_inj hv.1
  subst hd
  subst hr
  unfold Oper.wp
  simp [execOp, hop, hm, hx, hrun, Result.andThen]
  exact hK' _ _ hK
theorem map_call {w w' : World} {B n : Nat} {D : DataW Value} (h : w.ownsMap Tryd.prog 2 elem B n D) (b : Below w.heap.size w w') : w'.ownsMap Tryd.prog 2 elem B n D :=
  h.kept (row := none) ⟨b.os, b.tape, b.output, b.size, fun j hj _ => b.block j hj⟩ (by simp)
end MapI
end Go.Proofs.YtlgbdbmikmbioaaDoor

