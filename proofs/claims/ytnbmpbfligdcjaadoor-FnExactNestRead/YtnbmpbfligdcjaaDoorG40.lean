/- Several texts of one claim in one file: MemPutI, MemPick, WMkB, WLawN. -/
import Derived.Test.YtnbmpbfligdcjaaDoorG29
import Derived.Test.YtnbmpbfligdcjaaDoorG28
import Derived.Test.YtnbmpbfligdcjaaDoorG39
import Derived.Test.YtnbmpbfligdcjaaDoorG02
import Derived.Test.YtnbmpbfligdcjaaDoorG06
import Derived.Test.YtnbmpbfligdcjaaDoorProg
/- Stores into a row of items of the call's own. -/
namespace Go.Proofs.YtnbmpbfligdcjaaDoor
open Go.RowKit
namespace Mem
theorem own_put {W : World} {S g T size n cap : Nat} {xs : List Value} (h : W.ownsRow S T size (.slice (some ⟨g, 0, none⟩) n cap) n xs) (k : Nat) (u : Value) : (W.setCell ⟨g, k, none⟩ u).ownsRow S T size (.slice (some ⟨g, 0, none⟩) n cap) n (xs.set k u) := by
  refine ⟨by rw [List.length_set]; exact h.1, ?_⟩
  rcases h.2 with ⟨e, _⟩ | ⟨g', c', cur, e, hb, hg, hc, hm, hs, ht⟩
  · cases e
  · cases e
    refine .inr ⟨g, cap, cur.setIfInBounds k u, rfl, hb, heap_setCell_same _ _ _ _ _ _ hg, hc, hm, by rw [Array.size_setIfInBounds]; exact hs, ?_⟩
    rw [Array.toList_setIfInBounds, List.take_set, ht]
theorem own_cell {W : World} {S g T size n cap : Nat} {xs : List Value} (h : W.ownsRow S T size (.slice (some ⟨g, 0, none⟩) n cap) n xs) {k : Nat} {u : Value} (hk : xs[k]? = some u) : W.cell? ⟨g, k, none⟩ = some u ∧ W.frozen? ⟨g, k, none⟩ = false := by
  refine ⟨?_, ?_⟩
  · have := World.ownsRow.cells h (g := g) rfl k u hk
    rw [add_lit] at this
    exact this
  · rcases h.2 with ⟨e, _⟩ | ⟨g', c', cur, e, hb, hg, _⟩
    · cases e
    · cases e
      exact row_frozen hg
end Mem
namespace Pl
theorem cellsI_cons (x : It) (Is : List It) : cellsI (x :: Is) = Value.int .i64 x.m :: x.t.val :: cellsI Is := rfl
theorem cellsI_tree (x : It) (t : Tr) (Rs : List It) : ∀ Ds : List It, (cellsI (Ds ++ x :: Rs)).set (Ds.length * 2 + 1) t.val = cellsI (Ds ++ ⟨x.m, t⟩ :: Rs) := by
  intro Ds
  induction Ds with
  | nil => rfl
  | cons y Ds ih =>
    rw [List.cons_append, List.cons_append, cellsI_cons, cellsI_cons, List.length_cons, show (Ds.length + 1) * 2 + 1 = Ds.length * 2 + 1 + 1 + 1 by omega, List.set_cons_succ, List.set_cons_succ, ih]
theorem cellsI_many (x : It) (m : Int) (Rs : List It) : (cellsI (x :: Rs)).set 0 (.int .i64 m) = cellsI (⟨m, x.t⟩ :: Rs) := rfl
theorem cellsI_take (Is : List It) : ∀ k, k ≤ Is.length → (cellsI Is).take (k * 2) = cellsI (Is.take k) := by
  induction Is with
  | nil => intro k h; have : k = 0 := by simpa using h
           subst this; rfl
  | cons x Is ih =>
    intro k h
    cases k with
    | zero => rfl
    | succ k =>
      rw [cellsI_cons, show (k + 1) * 2 = k * 2 + 1 + 1 by omega, List.take_succ_cons, List.take_succ_cons, ih k (by simpa using h), List.take_succ_cons, cellsI_cons]
theorem cellsI_drop (Is : List It) : ∀ k, (cellsI Is).drop (k * 2) = cellsI (Is.drop k) := by
  induction Is with
  | nil => intro k; simp [cellsI]
  | cons x Is ih =>
    intro k
    cases k with
    | zero => rfl
    | succ k => rw [cellsI_cons, show (k + 1) * 2 = k * 2 + 1 + 1 by omega, List.drop_succ_cons, List.drop_succ_cons, ih, List.drop_succ_cons]
end Pl
namespace Mem
/-- A row of items of the call's own, some of them copied. -/
structure Cq (W : World) (S g cap : Nat) (Ds Rs : List Pl.It) : Prop where
  row : W.ownsRow S 81 2 (.slice (some ⟨g, 0, none⟩) (Ds.length + Rs.length) cap) (Ds.length + Rs.length) (Pl.cellsI (Ds ++ Rs))
  each : ∀ (i : Nat) x, Ds[i]? = some x → ownN W S x.t.val x.t.L ∧ ∀ q, x.t.val.ownBlock = some q → q ≠ g
  apart : ∀ (i j : Nat) x y, i ≠ j → Ds[i]? = some x → Ds[j]? = some y → ∀ q, x.t.val.ownBlock = some q → y.t.val.ownBlock ≠ some q
theorem Cq.call {W W' : World} {S g cap : Nat} {Ds Rs : List Pl.It} (h : Cq W S g cap Ds Rs) (b : Below W.heap.size W W') : Cq W' S g cap Ds Rs :=
  ⟨own_call h.row b, fun i x hx => ⟨ownN_call (h.each i x hx).1 b, (h.each i x hx).2⟩, h.apart⟩
theorem Cq.step {W W1 : World} {S g cap : Nat} {Ds Rs : List Pl.It} {x : Pl.It} {t : Pl.Tr} (h : Cq W S g cap Ds (x :: Rs)) (b : Below W.heap.size W W1) (hS : S ≤ W.heap.size) (ht : ownN W1 W.heap.size t.val t.L) : Cq (W1.setCell ⟨g, Ds.length * 2 + 1, none⟩ t.val) S g cap (Ds ++ [⟨x.m, t⟩]) Rs := by
  have h1 := h.call b
  have hg : g < W.heap.size := (World.ownsRow.lt h.row g rfl).2
  have hgS : S ≤ g := (World.ownsRow.lt h.row g rfl).1
  have off : ∀ {v : Value} {L : List Pl.Nd} {B : Nat}, ownN W1 B v L → (∀ q, v.ownBlock = some q → q ≠ g) → ownN (W1.setCell ⟨g, Ds.length * 2 + 1, none⟩ t.val) B v L := fun {v L B} hv hn => by
    refine ⟨hv.1, ?_⟩
    rcases hv.2 with h0 | ⟨q, c, cur, e, hb, hq, rest⟩
    · exact .inl h0
    · exact .inr ⟨q, c, cur, e, hb, (heap_setCell_other _ _ _ _ (hn q (by rw [e]; rfl))).trans hq, rest⟩
  have hlo : ∀ q, t.val.ownBlock = some q → W.heap.size ≤ q := fun q hq => (ownN_lt ht q hq).1
  refine ⟨?_, fun i y hy => ?_, fun i j y z hij hy hz q hq => ?_⟩
  · have h2 := own_put h1.row (Ds.length * 2 + 1) t.val
    rw [Pl.cellsI_tree] at h2
    have e : (Ds ++ [(⟨x.m, t⟩ : Pl.It)]).length + Rs.length = Ds.length + (x :: Rs).length := by simp; omega
    rw [e, List.append_assoc]
    exact h2
  · by_cases e : i < Ds.length
    · rw [List.getElem?_append_left e] at hy
      exact ⟨off (h1.each i y hy).1 (h1.each i y hy).2, (h1.each i y hy).2⟩
    · rw [List.getElem?_append_right (by omega)] at hy
      have e0 : i - Ds.length = 0 := by
        have := (List.getElem?_eq_some_iff.1 hy).1
        simp at this; omega
      rw [e0] at hy
      simp at hy
      subst hy
      have hn : ∀ q, t.val.ownBlock = some q → q ≠ g := fun q hq => by have := hlo q hq; omega
      exact ⟨off (ownN_mono ht hS) hn, hn⟩
  · by_cases e : i < Ds.length
    · rw [List.getElem?_append_left e] at hy
      by_cases e2 : j < Ds.length
      · rw [List.getElem?_append_left e2] at hz
        exact h.apart i j y z hij hy hz q hq
      · rw [List.getElem?_append_right (by omega)] at hz
        have e0 : j - Ds.length = 0 := by
          have := (List.getElem?_eq_some_iff.1 hz).1
          simp at this; omega
        rw [e0] at hz
        simp at hz
        subst hz
        intro e3
        have h5 := hlo q e3
        have h6 := (ownN_lt (h.each i y hy).1 q hq).2
        omega
    · rw [List.getElem?_append_right (by omega)] at hy
      have e0 : i - Ds.length = 0 := by
        have := (List.getElem?_eq_some_iff.1 hy).1
        simp at this; omega
      rw [e0] at hy
      simp at hy
      subst hy
      have h5 := hlo q hq
      have hj : j < Ds.length := by
        have := (List.getElem?_eq_some_iff.1 hz).1
        simp at this; omega
      rw [List.getElem?_append_left hj] at hz
      intro e3
      have h6 := (ownN_lt (h.each j z hz).1 q e3).2
      omega
theorem Cq.done {W : World} {S g cap : Nat} {Ds : List Pl.It} (h : Cq W S g cap Ds []) : Io W S (.slice (some ⟨g, 0, none⟩) Ds.length cap) Ds := by
  have h1 := h.row
  rw [List.length_nil, Nat.add_zero, List.append_nil] at h1
  exact ⟨h1, fun i x hx => ⟨(h.each i x hx).1, fun q hq e => (h.each i x hx).2 q hq (Option.some.inj e).symm⟩, h.apart⟩
end Mem
end Go.Proofs.YtnbmpbfligdcjaaDoor

/- Rows of items out of another's items; parts of a row. -/
namespace Go.Proofs.YtnbmpbfligdcjaaDoor
open Go.RowKit
namespace Mem
theorem slice_hi {P : Program} {dT E : TypeId} {s : Nat} (hu : P.underlying dT = some (.slice E)) (hz : ∀ w, (sizeOf E).run P w = .ok s w) (w : World) (a : Addr) (n cap k : Nat) (hk : k ≤ cap) (h0 : cap ≠ 0) :
    (Instr.slice dT (.slice (some a) n cap) none (some (.int .i64 (k : Int))) none).run P w = .ok (.slice (some a) k cap) w := by
  have ht : P.underlying dT = some (.slice (P.elem dT)) := by simp [Program.elem, hu]
  have he : P.elem dT = E := by simp [Program.elem, hu]
  have h := run_slice_h (P := P) w dT (some a) n cap ht .i64 (k : Int) (by omega) (by omega)
  rw [h, he, hz]
  have e0 : a.add 0 = a := by unfold Addr.add; split <;> simp_all
  simp [sliced, Result.andThen, h0, e0]
theorem slice_lo {P : Program} {dT E : TypeId} {s : Nat} (hu : P.underlying dT = some (.slice E)) (hz : ∀ w, (sizeOf E).run P w = .ok s w) (w : World) (g n cap k : Nat) (hk : k < n) (hc : n ≤ cap) :
    (Instr.slice dT (.slice (some ⟨g, 0, none⟩) n cap) (some (.int .i64 (k : Int))) none none).run P w = .ok (.slice (some ⟨g, k * s, none⟩) (n - k) (cap - k)) w := by
  have ht : P.underlying dT = some (.slice (P.elem dT)) := by simp [Program.elem, hu]
  have he : P.elem dT = E := by simp [Program.elem, hu]
  have h := run_slice_l (P := P) w dT (some ⟨g, 0, none⟩) n cap ht .i64 (k : Int) (by omega) (by omega)
  rw [h, he, hz]
  have h1 : ¬ cap = k := by omega
  simp [sliced, Result.andThen, h1, add_lit]
/-- Items out of another row's, into a row of their own. -/
theorem Io.pick {W W' : World} {S : Nat} {v v' : Value} {Ds Es : List Pl.It} (h : Io W S v Ds) (b : Below W.heap.size W W') (hS : S ≤ W.heap.size) (own' : W'.ownsRow W.heap.size 81 2 v' Es.length (Pl.cellsI Es)) (φ : Nat → Nat) (hφ : ∀ i j, φ i = φ j → i = j) (hE : ∀ (i : Nat) x, Es[i]? = some x → Ds[φ i]? = some x) : Io W' S v' Es := by
  have h1 := h.call b
  refine ⟨own_mono own' hS, fun i x hx => ⟨(h1.each _ x (hE i x hx)).1, fun g hg e => ?_⟩, fun i j x y hij hx hy g hg => h1.apart _ _ x y (fun e => hij (hφ i j e)) (hE i x hx) (hE j y hy) g hg⟩
  have h2 := (ownN_lt (h.each _ x (hE i x hx)).1 g hg).2
  have h3 := (World.ownsRow.lt own' g e).1
  omega
theorem Io.many {W : World} {S g cap n : Nat} {x : Pl.It} {Rs : List Pl.It} (h : Io W S (.slice (some ⟨g, 0, none⟩) n cap) (x :: Rs)) (m : Int) : Io (W.setCell ⟨g, 0, none⟩ (.int .i64 m)) S (.slice (some ⟨g, 0, none⟩) n cap) (⟨m, x.t⟩ :: Rs) := by
  obtain ⟨rfl, -⟩ := h.items
  have key : ∀ (i : Nat) y, ((⟨m, x.t⟩ : Pl.It) :: Rs)[i]? = some y → ∃ z, (x :: Rs)[i]? = some z ∧ z.t = y.t := fun i y hy => by
    cases i with
    | zero =>
      have e : (⟨m, x.t⟩ : Pl.It) = y := by simpa using hy
      subst e
      exact ⟨x, rfl, rfl⟩
    | succ i => exact ⟨y, by simpa using hy, rfl⟩
  refine ⟨?_, fun i y hy => ?_, fun i j y z hij hy hz q hq => ?_⟩
  · have h2 := own_put h.row 0 (.int .i64 m)
    rw [Pl.cellsI_many] at h2
    exact h2
  · obtain ⟨z, hz, e⟩ := key i y hy
    rw [← e]
    obtain ⟨h3, h4⟩ := h.each i z hz
    exact ⟨ownN_far h3 _ _ (fun q hq e2 => h4 q hq (by rw [← e2]; rfl)), h4⟩
  · obtain ⟨y', hy', e⟩ := key i y hy
    obtain ⟨z', hz', e2⟩ := key j z hz
    rw [← e2]
    rw [← e] at hq
    exact h.apart i j y' z' hij hy' hz' q hq
/-- As the laws' marks want it. -/
theorem Io.own {W : World} {S g cap n : Nat} {Is : List Pl.It} (h : Io W S (.slice (some ⟨g, 0, none⟩) n cap) Is) : OwnI W S g Is := by
  obtain ⟨hn, hi⟩ := h.items
  have shp : ∀ {x : Pl.It} {W : World} {S : Nat}, ownN W S x.t.val x.t.L → (x.t.a = none ∧ x.t.L = [] ∧ x.t.cap = 0) ∨ ∃ q cur, x.t.a = some ⟨q, 0, none⟩ ∧ S ≤ q ∧ W.heap[q]? = some (.cells cur 57 (0, 0)) ∧ x.t.L.length * 5 ≤ cur.size := fun {x W S} hx => by
    rcases hx.2 with ⟨e, h0⟩ | ⟨q, c, cur, e, hb, hq, hc, hm, hs, ht⟩
    · have e2 : Value.slice x.t.a x.t.L.length x.t.cap = .slice none 0 0 := e
      injection e2 with e3 e4 e5
      exact .inl ⟨e3, List.eq_nil_of_length_eq_zero h0, e5⟩
    · have e2 : Value.slice x.t.a x.t.L.length x.t.cap = .slice (some ⟨q, 0, none⟩) _ c := e
      injection e2 with e3 e4 e5
      exact .inr ⟨q, cur, e3, hb, hq, by omega⟩
  refine ⟨?_, (h.lt.1 g rfl).1, hi, fun i x hx => ?_, fun i j x y hij hx hy q hq e => ?_⟩
  · rcases h.row.2 with ⟨e, _⟩ | ⟨q, c, cur, e, hb, hq, hc, hm, hs, ht⟩
    · cases e
    · cases e
      exact ⟨cur, hq, by omega⟩
  · obtain ⟨h3, h4⟩ := h.each i x hx
    rcases shp h3 with h5 | ⟨q, cur, e1, e2, e3, e4⟩
    · exact .inl h5
    · exact .inr ⟨q, cur, e1, e2, fun e => h4 q (by show (Value.slice x.t.a x.t.L.length x.t.cap).ownBlock = _; rw [e1]; rfl) (by rw [e]; rfl), e3, e4⟩
  · exact h.apart i j x y hij hx hy q (by show (Value.slice x.t.a x.t.L.length x.t.cap).ownBlock = _; rw [hq]; rfl) (by show (Value.slice y.t.a y.t.L.length y.t.cap).ownBlock = _; rw [e]; rfl)
end Mem
namespace Pl
theorem pick_get {Ds : List It} {k i : Nat} {x : It} (h : (Ds.take k ++ Ds.drop (k + 1))[i]? = some x) (hk : k < Ds.length) : Ds[if i < k then i else i + 1]? = some x := by
  have hl : (Ds.take k).length = k := by rw [List.length_take]; omega
  by_cases e : i < k
  · rw [List.getElem?_append_left (by omega), List.getElem?_take, if_pos e] at h
    rw [if_pos e]; exact h
  · rw [List.getElem?_append_right (by omega), hl, List.getElem?_drop] at h
    rw [if_neg e, show i + 1 = k + 1 + (i - k) by omega]; exact h
theorem pick_inj (k : Nat) : ∀ i j : Nat, (if i < k then i else i + 1) = (if j < k then j else j + 1) → i = j := by
  intro i j h
  split at h <;> split at h <;> omega
end Pl
end Go.Proofs.YtnbmpbfligdcjaaDoor

/- The walk of markItemS, with the band of blocks that it writes to (by genMB.py). -/
namespace Go.Proofs.YtnbmpbfligdcjaaDoor
open Go.RowKit
namespace WMkB
/-- The marks of one tree's nodes. -/
theorem lay_one {w : World} {B g i K : Nat} {Js : List Pl.It} {x : Pl.It} (o : Mem.OwnI w B g Js) (hx : Js[i]? = some x) (hn : x.t.L.length ≤ 1048576) (hK : 0 < K) (hK2 : K ≤ 1000000) :
    Calls Tryd.prog 71 #[.slice x.t.a x.t.L.length x.t.cap, .int .i64 (K : Int)] w fun e w' => e = .returned (.int .i64 ((K + 5 * x.t.L.length : Nat) : Int)) ∧ Mem.OwnI w' B g (Js.set i ⟨x.m, ⟨x.t.a, x.t.cap, Pl.markN K x.t.L.length⟩⟩) ∧ (∀ G, (∀ h, x.t.a = some ⟨h, 0, none⟩ → h < G) → Mem.Band B G w w') := by
  rcases o.own i x hx with ⟨e1, e2, e3⟩ | ⟨h, c, k1, k2, k3, k4, k5⟩
  · rw [e1, e2, e3]
    refine (WMarkI.layNil K w).mono fun e w' ⟨he, b⟩ => ⟨he, ?_, fun _ _ => Mem.Band.of_below b⟩
    have : Js.set i ⟨x.m, ⟨none, 0, Pl.markN K 0⟩⟩ = Js := by
      apply List.ext_getElem?
      intro j
      rw [List.getElem?_set]
      by_cases e : i = j
      · subst e
        rw [if_pos rfl, if_pos (List.getElem?_eq_some_iff.1 hx).1, hx]
        obtain ⟨m, a, cap, L⟩ := x
        simp only at e1 e2 e3
        subst e1 e2 e3
        rfl
      · rw [if_neg e]
    simp only [List.length_nil]
    rw [this]
    exact o.call b
  · rw [k1]
    refine (WMarkN.lay_any h x.t.L.length x.t.cap K c w hn hK (Nat.le_trans hK2 (by decide)) k4 k5).mono fun e w' ⟨he, ⟨c', r1, r2⟩, hnd, gr⟩ => ⟨he, ?_, fun G hb => ?_⟩
    · have := o.nodes hx k1 gr ⟨c', r1, by omega⟩ hnd (Pl.markN_length _ _)
      rw [k1] at this; exact this
    · exact Mem.Band.of_grown gr k2 (hb h rfl)
set_option linter.unusedSimpArgs false in
set_option maxRecDepth 100000 in
set_option maxHeartbeats 1000000 in
theorem mark_any (B g cap K G : Nat) (Is : List Pl.It) (w : World) (hn : Is.length ≤ 1000) (hL : ∀ x ∈ Is, x.t.L.length ≤ 1048576) (hK : 0 < K) (hK2 : ∀ i, i ≤ Is.length → Pl.kAt K Is i ≤ 100000) (o : Mem.OwnI w B g Is) (hgG : g < G) (hG : ∀ x ∈ Is, ∀ h, x.t.a = some ⟨h, 0, none⟩ → h < G) :
    Calls Tryd.prog 53 #[.slice (some ⟨g, 0, none⟩) Is.length cap, .int .i64 (K : Int)] w fun e w' => e = .returned (.int .i64 (Pl.kAt K Is Is.length : Int)) ∧ Mem.OwnI w' B g (Pl.mkTo K Is Is.length) ∧ Mem.Band B G w w' := by
  have HO0 : Hid (Mem.OwnI w B g (Pl.mkTo K Is 0)) := hide (by rw [Pl.mkTo_zero]; exact o)
  have HL := hide hL
  have HG := hide hG
  have HK2 := hide hK2
  have HKG : Hid (∀ i, 0 < Pl.kAt K Is i) := hide (fun i => Nat.lt_of_lt_of_le hK (Pl.kAt_ge K Is i))
  have HKS : Hid (∀ (i : Nat) x, Is[i]? = some x → Pl.kAt K Is (i + 1) = Pl.kAt K Is i + 1 + 5 * x.t.L.length) := hide (fun i x h => Pl.kAt_succ h)
  have HMG : Hid (∀ (i : Nat) x, Is[i]? = some x → (Pl.mkTo K Is i)[i]? = some x) := hide (fun i x h => by rw [Pl.mkTo_get, h]; simp)
  have HMS : Hid (∀ (i : Nat) x, Is[i]? = some x → ((Pl.mkTo K Is i).set i ⟨((Pl.kAt K Is i : Nat) : Int), x.t⟩).set i ⟨((Pl.kAt K Is i : Nat) : Int), ⟨x.t.a, x.t.cap, Pl.markN (Pl.kAt K Is i + 1) x.t.L.length⟩⟩ = Pl.mkTo K Is (i + 1)) := hide (fun i x h => by rw [List.set_set]; exact Pl.mkTo_succ K h)
  have HML : Hid (∀ i, (Pl.mkTo K Is i).length = Is.length) := hide (fun i => Pl.mkTo_len K Is i)
  have HK0 : Hid (Pl.kAt K Is 0 = K) := hide rfl
  generalize Pl.mkTo K Is = MT at HO0 HMG HMS HML ⊢
  generalize Pl.kAt K Is = KA at HK2 HKG HKS HMS HK0 ⊢
  have hK3 := unhide HK2 Is.length (Nat.le_refl _)
  clear hL hK2 o hG
  go_enter Tryd.func53, Tryd.ntmps53
  go_wp2
  go_loopw [1, 5] (fun q i wr => ∃ j : Nat, j ≤ Is.length ∧ i = .int .i64 (j : Int) ∧ q = .int .i64 (KA j : Int) ∧ Hid (Mem.OwnI wr B g (MT j)) ∧ Hid (Mem.Band B G w wr)) (fun _ i _ => Is.length - (intOf i).toNat)
  case atStart => exact ⟨0, Nat.zero_le _, rfl, by rw [unhide HK0], HO0, Mem.Band.refl _ _ _⟩
  case round =>
    obtain ⟨j, hj, rfl, rfl, HO, hbel⟩ := hrel
    clear HO0
    by_cases hlt : j < Is.length
    · obtain ⟨x, hx⟩ : ∃ x, Is[j]? = some x := ⟨_, List.getElem?_eq_getElem hlt⟩
      have hmx := unhide HMG j x hx
      have u1 : (j : Int) < (Is.length : Int) := by omega
      have u3 : (0 : Int) ≤ (j : Int) := by omega
      have hkj := unhide HK2 j hj
      have hks := unhide HKS j x hx
      have hkk := unhide HKG j
      obtain ⟨cur, r1, r2⟩ := (unhide HO).row
      rw [unhide HML] at r2
      obtain ⟨x0, s0⟩ : ∃ x, wr.cell? ⟨g, j * 2, none⟩ = some x := ⟨_, (cell_of_row wr _ (j * 2) _ _ (0, 0) r1).trans (Array.getElem?_eq_getElem (by omega))⟩
      have f0 : wr.frozen? ⟨g, j * 2, none⟩ = false := Mem.row_frozen r1
      have O1 := (unhide HO).many hmx ((KA j : Nat) : Int)
      have hx1 : ((MT j).set j ⟨((KA j : Nat) : Int), x.t⟩)[j]? = some ⟨((KA j : Nat) : Int), x.t⟩ := by
        rw [List.getElem?_set, if_pos rfl, if_pos (by rw [unhide HML]; exact hlt)]
      obtain ⟨⟨b', o', e', -, -, c1⟩, -⟩ := O1.items j _ hx1
      cases e'
      simp only [Pl.Tr.val, Nat.zero_add] at c1
      have hcall := hide (lay_one (K := KA j + 1) O1 hx1 (unhide HL x (List.mem_of_getElem? hx)) (by omega) (by omega))
      have HST := hide (unhide HMS j x hx)
      have hb1 : Mem.Band B G w (wr.setCell ⟨g, j * 2, none⟩ (.int .i64 ((KA j : Nat) : Int))) := (unhide hbel).trans (Mem.Band.of_set _ _ (unhide HO).lo hgG)
      have HGX := hide (unhide HG x (List.mem_of_getElem? hx))
      have hs1 : (wr.setCell ⟨g, j * 2, none⟩ (.int .i64 ((KA j : Nat) : Int))).heap.size = wr.heap.size := by simp
      have HB1 := hide hb1
      have HKS2 := hide hks
      clear hx hmx r1 r2 O1 hx1 HO hbel hks hb1
      simp only [Int.natCast_add, Int.cast_ofNat_Int] at hcall
      go_wp2_with fail
      refine (unhide hcall).mono ?_
      rintro e w2 ⟨rfl, o2, b2⟩
      have hb2 := hide ((unhide HB1).trans (b2 G (unhide HGX)))
      rw [unhide HST] at o2
      have HO2 := hide o2
      clear hcall o2 b2 s0 f0 c1 HB1
      go_wp2
      go_roundw
      case rel => exact ⟨j + 1, by omega, by go_num, by rw [unhide HKS2]; go_num, HO2, hb2⟩
      case measure => simp [intOf]; omega
    · have u1 : ¬ (j : Int) < (Is.length : Int) := by omega
      obtain rfl : j = Is.length := by omega
      go_wp2
      go_ret
      exact ⟨rfl, unhide HO, unhide hbel⟩
set_option maxRecDepth 100000 in
theorem mark_nil (K : Nat) (w : World) : Calls Tryd.prog 53 #[.slice none 0 0, .int .i64 (K : Int)] w fun e w' => e = .returned (.int .i64 (K : Int)) ∧ Below w.heap.size w w' := by
  go_enter Tryd.func53, Tryd.ntmps53
  go_wp2
  refine wp_loop_rounds 1 ?_
  rw [rounds_succ]
  go_wp2
  go_ret
  exact ⟨rfl, Below.refl _ _⟩
/-- The marks on items that are the call's own. -/
theorem mark_own (a : Option Addr) (cap K S G : Nat) (Is : List Pl.It) (w : World) (hn : Is.length ≤ 1000) (hL : ∀ x ∈ Is, x.t.L.length ≤ 1048576) (hK : 0 < K) (hK2 : ∀ i, i ≤ Is.length → Pl.kAt K Is i ≤ 100000) (h : Mem.Io w S (.slice a Is.length cap) Is) (hG : ∀ g, (Value.slice a Is.length cap).ownBlock = some g → g < G) (hG2 : ∀ x ∈ Is, ∀ g, x.t.val.ownBlock = some g → g < G) :
    Calls Tryd.prog 53 #[.slice a Is.length cap, .int .i64 (K : Int)] w fun e w' => e = .returned (.int .i64 (Pl.kAt K Is Is.length : Int)) ∧ Mem.isItems w' a (Pl.mkTo K Is Is.length) ∧ Mem.Band S G w w' := by
  rcases h.row.2 with ⟨e, h0⟩ | ⟨g, c, cur, e, _⟩
  · have e0 : Is = [] := List.eq_nil_of_length_eq_zero h0
    subst e0
    injection e with e1 e2 e3
    subst e1 e3
    exact (mark_nil K w).mono fun _ _ ⟨he, b⟩ => ⟨he, Mem.items_nil _ _, Mem.Band.of_below b⟩
  · injection e with e1 e2 e3
    subst e1 e3
    exact (mark_any S g cap K G Is w hn hL hK hK2 h.own (hG g rfl) (fun x hx q hq => hG2 x hx q (by show (Value.slice x.t.a x.t.L.length x.t.cap).ownBlock = _; rw [hq]; rfl))).mono fun _ _ ⟨he, o, b⟩ => ⟨he, o.items, b⟩
end WMkB
end Go.Proofs.YtnbmpbfligdcjaaDoor

/- The walks of the laws' own functions on nodes. -/
namespace Go.Proofs.YtnbmpbfligdcjaaDoor
open Go.RowKit
namespace WLaw
set_option maxRecDepth 100000 in
/-- What is left of a size behind a node: below 0 if it is used up. -/
theorem szNode_any (n : Pl.Nd) (left : Int) (w : World) (hp : n.path.size ≤ maxLen) (hd : n.data.size ≤ maxLen) (h0 : 0 ≤ left) (h1 : left ≤ 1048576) :
    Calls Tryd.prog 55 #[n.val, .int .i64 left] w fun e w' => (∃ r : Int, e = .returned (.int .i64 r) ∧ (r = -1 ∨ 0 ≤ r ∧ r + n.path.size + n.data.size = left)) ∧ Below w.heap.size w w' := by
  obtain ⟨p, k, d, t, m⟩ := n
  simp only at hp hd
  unfold maxLen at hp hd
  simp only [Pl.Nd.val]
  have hb : ∀ o, Below w.heap.size w (w.alloc o) := fun o => (Below.refl _ _).alloc (Nat.le_refl _) o
  have HB := hide hb
  clear hb
  by_cases h2 : left < (p.size : Int)
  · have t2 : left - (p.size : Int) < 0 := by omega
    go_enter Tryd.func55, Tryd.ntmps55
    go_wp2
    go_ret
    exact ⟨⟨-1, rfl, .inl rfl⟩, unhide HB _⟩
  have t2 : ¬ left - (p.size : Int) < 0 := by omega
  by_cases h3 : left < (p.size : Int) + (d.size : Int)
  · have t3 : left - (p.size : Int) - (d.size : Int) < 0 := by omega
    go_enter Tryd.func55, Tryd.ntmps55
    go_wp2
    go_ret
    exact ⟨⟨-1, rfl, .inl rfl⟩, unhide HB _⟩
  · have t3 : ¬ left - (p.size : Int) - (d.size : Int) < 0 := by omega
    go_enter Tryd.func55, Tryd.ntmps55
    go_wp2
    go_ret
    exact ⟨⟨_, rfl, .inr ⟨by omega, by omega⟩⟩, unhide HB _⟩
set_option maxRecDepth 100000 in
theorem toNode_any (n : Pl.Nd) (w : World) :
    Calls Tryd.prog 62 #[n.val] w fun e w' => e = .returned n.val ∧ Below w.heap.size w w' := by
  obtain ⟨p, k, d, t, m⟩ := n
  simp only [Pl.Nd.val]
  go_enter Tryd.func62, Tryd.ntmps62
  go_wp2
  refine bodyPost_ret (v := .agg #[.string p, .int .i64 k, .string d, .int .i64 t, .int .i64 m]) (by simp [results, Tryd.results62, go_sem]) rfl ⟨rfl, ?_⟩
  exact (((Below.refl _ _).alloc (Nat.le_refl _) _).alloc (by simp) _).alloc (by simp; omega) _
end WLaw
end Go.Proofs.YtnbmpbfligdcjaaDoor

