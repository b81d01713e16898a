/- Rows of items out of another's items; parts of a row. -/
import Derived.Test.YteddcihodfkliabGreatDoorMemPutI
namespace Go.Proofs.YteddcihodfkliabGreatDoor
open Go.RowKit
namespace Mem
theorem slice_hi {P : Program} {dT E : TypeId} {s : Nat} (hu : P.underlying dT = some (.slice E)) (hz : ∀ w, (sizeOf E).run P w = .ok s w) (w : World) (a : Addr) (n cap k : Nat) (hk : k ≤ cap) (h0 : cap ≠ 0) :
    (Instr.slice dT (.slice (some a) n cap) none (some (.int .i64 (k : Int))) none).run P w = .ok (.slice (some a) k cap) w := by
  have ht : P.underlying dT = some (.slice (P.elem dT)) := by simp [Program.elem, hu]
  have he : P.elem dT = E := by simp [Program.elem, hu]
  have h := run_slice_h (P := P) w dT (some a) n cap ht .i64 (k : Int) (by omega) (by omega)
  rw [h, he, hz]
  have e0 : a.add 0 = a := by unfold Addr.add; split <;> simp_all
  simp [sliced, Result.andThen, h0, e0]
theorem slice_lo {P : Program} {dT E : TypeId} {s : Nat} (hu : P.underlying dT = some (.slice E)) (hz : ∀ w, (sizeOf E).run P w = .ok s w) (w : World) (g n cap k : Nat) (hk : k < n) (hc : n ≤ cap) :
    (Instr.slice dT (.slice (some ⟨g, 0, none⟩) n cap) (some (.int .i64 (k : Int))) none none).run P w = .ok (.slice (some ⟨g, k * s, none⟩) (n - k) (cap - k)) w := by
  have ht : P.underlying dT = some (.slice (P.elem dT)) := by simp [Program.elem, hu]
  have he : P.elem dT = E := by simp [Program.elem, hu]
  have h := run_slice_l (P := P) w dT (some ⟨g, 0, none⟩) n cap ht .i64 (k : Int) (by omega) (by omega)
  rw [h, he, hz]
  have h1 : ¬ cap = k := by omega
  simp [sliced, Result.andThen, h1, add_lit]
/-- Items out of another row's, into a row of their own. -/
theorem Io.pick {W W' : World} {S : Nat} {v v' : Value} {Ds Es : List Pl.It} (h : Io W S v Ds) (b : Below W.heap.size W W') (hS : S ≤ W.heap.size) (own' : W'.ownsRow W.heap.size 58 2 v' Es.length (Pl.cellsI Es)) (φ : Nat → Nat) (hφ : ∀ i j, φ i = φ j → i = j) (hE : ∀ (i : Nat) x, Es[i]? = some x → Ds[φ i]? = some x) : Io W' S v' Es := by
  have h1 := h.call b
  refine ⟨own_mono own' hS, fun i x hx => ⟨(h1.each _ x (hE i x hx)).1, fun g hg e => ?_⟩, fun i j x y hij hx hy g hg => h1.apart _ _ x y (fun e => hij (hφ i j e)) (hE i x hx) (hE j y hy) g hg⟩
  have h2 := (ownN_lt (h.each _ x (hE i x hx)).1 g hg).2
  have h3 := (World.ownsRow.lt own' g e).1
  omega
theorem Io.many {W : World} {S g cap n : Nat} {x : Pl.It} {Rs : List Pl.It} (h : Io W S (.slice (some ⟨g, 0, none⟩) n cap) (x :: Rs)) (m : Int) : Io (W.setCell ⟨g, 0, none⟩ (.int .i64 m)) S (.slice (some ⟨g, 0, none⟩) n cap) (⟨m, x.t⟩ :: Rs) := by
  obtain ⟨rfl, -⟩ := h.items
  have key : ∀ (i : Nat) y, ((⟨m, x.t⟩ : Pl.It) :: Rs)[i]? = some y → ∃ z, (x :: Rs)[i]? = some z ∧ z.t = y.t := fun i y hy => by
    cases i with
    | zero =>
      have e : (⟨m, x.t⟩ : Pl.It) = y := by simpa using hy
      subst e
      exact ⟨x, rfl, rfl⟩
    | succ i => exact ⟨y, by simpa using hy, rfl⟩
  refine ⟨?_, fun i y hy => ?_, fun i j y z hij hy hz q hq => ?_⟩
  · have h2 := own_put h.row 0 (.int .i64 m)
    rw [Pl.cellsI_many] at h2
    exact h2
  · obtain ⟨z, hz, e⟩ := key i y hy
    rw [← e]
    obtain ⟨h3, h4⟩ := h.each i z hz
    exact ⟨ownN_far h3 _ _ (fun q hq e2 => h4 q hq (by rw [← e2]; rfl)), h4⟩
  · obtain ⟨y', hy', e⟩ := key i y hy
    obtain ⟨z', hz', e2⟩ := key j z hz
    rw [← e2]
    rw [← e] at hq
    exact h.apart i j y' z' hij hy' hz' q hq
/-- As the laws' marks want it. -/
theorem Io.own {W : World} {S g cap n : Nat} {Is : List Pl.It} (h : Io W S (.slice (some ⟨g, 0, none⟩) n cap) Is) : OwnI W S g Is := by
  obtain ⟨hn, hi⟩ := h.items
  have shp : ∀ {x : Pl.It} {W : World} {S : Nat}, ownN W S x.t.val x.t.L → (x.t.a = none ∧ x.t.L = [] ∧ x.t.cap = 0) ∨ ∃ q cur, x.t.a = some ⟨q, 0, none⟩ ∧ S ≤ q ∧ W.heap[q]? = some (.cells cur 48 (0, 0)) ∧ x.t.L.length * 5 ≤ cur.size := fun {x W S} hx => by
    rcases hx.2 with ⟨e, h0⟩ | ⟨q, c, cur, e, hb, hq, hc, hm, hs, ht⟩
    · have e2 : Value.slice x.t.a x.t.L.length x.t.cap = .slice none 0 0 := e
      injection e2 with e3 e4 e5
      exact .inl ⟨e3, List.eq_nil_of_length_eq_zero h0, e5⟩
    · have e2 : Value.slice x.t.a x.t.L.length x.t.cap = .slice (some ⟨q, 0, none⟩) _ c := e
      injection e2 with e3 e4 e5
      exact .inr ⟨q, cur, e3, hb, hq, by omega⟩
  refine ⟨?_, (h.lt.1 g rfl).1, hi, fun i x hx => ?_, fun i j x y hij hx hy q hq e => ?_⟩
  · rcases h.row.2 with ⟨e, _⟩ | ⟨q, c, cur, e, hb, hq, hc, hm, hs, ht⟩
    · cases e
    · cases e
      exact ⟨cur, hq, by omega⟩
  · obtain ⟨h3, h4⟩ := h.each i x hx
    rcases shp h3 with h5 | ⟨q, cur, e1, e2, e3, e4⟩
    · exact .inl h5
    · exact .inr ⟨q, cur, e1, e2, fun e => h4 q (by show (Value.slice x.t.a x.t.L.length x.t.cap).ownBlock = _; rw [e1]; rfl) (by rw [e]; rfl), e3, e4⟩
  · exact h.apart i j x y hij hx hy q (by show (Value.slice x.t.a x.t.L.length x.t.cap).ownBlock = _; rw [hq]; rfl) (by show (Value.slice y.t.a y.t.L.length y.t.cap).ownBlock = _; rw [e]; rfl)
end Mem
namespace Pl
theorem pick_get {Ds : List It} {k i : Nat} {x : It} (h : (Ds.take k ++ Ds.drop (k + 1))[i]? = some x) (hk : k < Ds.length) : Ds[if i < k then i else i + 1]? = some x := by
  have hl : (Ds.take k).length = k := by rw [List.length_take]; omega
  by_cases e : i < k
  · rw [List.getElem?_append_left (by omega), List.getElem?_take, if_pos e] at h
    rw [if_pos e]; exact h
  · rw [List.getElem?_append_right (by omega), hl, List.getElem?_drop] at h
    rw [if_neg e, show i + 1 = k + 1 + (i - k) by omega]; exact h
theorem pick_inj (k : Nat) : ∀ i j : Nat, (if i < k then i else i + 1) = (if j < k then j else j + 1) → i = j := by
  intro i j h
  split at h <;> split at h <;> omega
end Pl
end Go.Proofs.YteddcihodfkliabGreatDoor
