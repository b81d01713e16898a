/- The laws' own marks on items, of any number: what they leave as it was. -/
import Derived.Test.YteddcihodfkliabGreatDoorPartW
import Derived.Test.YteddcihodfkliabGreatDoorPartV
import Derived.Test.YteddcihodfkliabGreatDoorPartA
namespace Go.Proofs.YteddcihodfkliabGreatDoor
open Go.RowKit
namespace WMkJ
/-- What the marks want, and leave: the row of items, and a row of nodes for each. -/
structure Has (W : World) (g X : Nat) (D : List Pl.It) : Prop where
  cell : ∀ (j : Nat) t, D[j]? = some t → W.cell? ⟨g, j * 2 + 1, none⟩ = some t.t.val
  blk : ∃ cur, W.heap[g]? = some (.cells cur 58 (0, 0)) ∧ cur.size = D.length * 2
  gx : g < X
  each : ∀ (j : Nat) t, D[j]? = some t → ∃ q, t.t.a = some ⟨q, 0, none⟩ ∧ g < q ∧ q < X ∧ ∃ cs, W.heap[q]? = some (.cells cs 48 (0, 0)) ∧ t.t.L.length * 5 ≤ cs.size
theorem Has.lt {W : World} {g X : Nat} {D : List Pl.It} (h : Has W g X D) : g < W.heap.size := by
  obtain ⟨cur, h1, -⟩ := h.blk
  exact (Array.getElem?_eq_some_iff.1 h1).1
theorem has_rows {W : World} {g : Nat} {D : List Pl.It} (h : WLawY.Rows W g D) : Has W g W.heap.size D :=
  ⟨fun j t hj => by
    obtain ⟨⟨b, o, h1, h2, h3, h5⟩, -⟩ := h.items j t hj
    cases h1
    rw [Nat.zero_add] at h5
    exact h5, h.blk, by
    obtain ⟨cur, h1, -⟩ := h.blk
    exact (Array.getElem?_eq_some_iff.1 h1).1, h.each⟩
theorem Has.call {W W' : World} {g X : Nat} {D : List Pl.It} (h : Has W g X D) (b : Below W.heap.size W W') : Has W' g X D :=
  ⟨fun j t hj => (b.cell (p := ⟨g, j * 2 + 1, none⟩) h.lt).trans (h.cell j t hj), by
    obtain ⟨cur, h1, h2⟩ := h.blk
    exact ⟨cur, (b.block g h.lt).trans h1, h2⟩, h.gx, fun j t hj => by
    obtain ⟨q, h1, h2, h3, cs, h4, h5⟩ := h.each j t hj
    exact ⟨q, h1, h2, h3, cs, (b.block q (Array.getElem?_eq_some_iff.1 h4).1).trans h4, h5⟩⟩
theorem cell_block {w w' : World} {g j : Nat} (h : w'.heap[g]? = w.heap[g]?) : w'.cell? ⟨g, j, none⟩ = w.cell? ⟨g, j, none⟩ := by
  simp only [World.cell?, h]
theorem Has.many {W : World} {g X i : Nat} {D : List Pl.It} (h : Has W g X D) (v : Value) : Has (W.setCell ⟨g, i * 2, none⟩ v) g X D := by
  obtain ⟨cur, h1, h2⟩ := h.blk
  have hb : (W.setCell ⟨g, i * 2, none⟩ v).heap[g]? = some (.cells (cur.setIfInBounds (i * 2) v) 58 (0, 0)) := heap_setCell_same _ _ _ _ _ _ h1
  refine ⟨fun j t hj => ?_, ⟨_, hb, by simpa using h2⟩, h.gx, fun j t hj => ?_⟩
  · have hc := h.cell j t hj
    rw [cell_of_row W _ _ _ _ (0, 0) h1] at hc
    rw [cell_of_row _ _ _ _ _ (0, 0) hb, Array.getElem?_setIfInBounds, if_neg (by omega)]
    exact hc
  · obtain ⟨q, h1, h2, h3, cs, h4, h5⟩ := h.each j t hj
    exact ⟨q, h1, h2, h3, cs, (heap_setCell_other _ _ _ _ (by show q ≠ g; omega)).trans h4, h5⟩
theorem Has.marked {W W' : World} {g X q : Nat} {D : List Pl.It} {cur cur' : Array Value} (h : Has W g X D) (hq : g < q) (hr : W.heap[q]? = some (.cells cur 48 (0, 0))) (hr' : W'.heap[q]? = some (.cells cur' 48 (0, 0))) (hs : cur'.size = cur.size) (hg : W.grownBy W' (some q)) : Has W' g X D :=
  ⟨fun j t hj => (cell_block (hg.block g h.lt (fun e => by cases e; omega))).trans (h.cell j t hj), by
    obtain ⟨c, h1, h2⟩ := h.blk
    exact ⟨c, (hg.block g h.lt (fun e => by cases e; omega)).trans h1, h2⟩, h.gx, fun j t hj => by
    obtain ⟨p, h1, h2, h3, cs, h4, h5⟩ := h.each j t hj
    by_cases e : p = q
    · subst e
      rw [hr] at h4
      cases h4
      exact ⟨p, h1, h2, h3, cur', hr', by omega⟩
    · exact ⟨p, h1, h2, h3, cs, (hg.block p (Array.getElem?_eq_some_iff.1 h4).1 (fun e2 => by cases e2; exact e rfl)).trans h4, h5⟩⟩
set_option linter.unusedSimpArgs false in
set_option maxRecDepth 100000 in
set_option maxHeartbeats 1000000 in
theorem mark_any (g X cap : Nat) (D : List Pl.It) (w : World) (hl : D.length ≤ 1048576) (hok : ∀ t ∈ D, t.t.L.length ≤ 1048576) (hv : Has w g X D) :
    Calls Tryz.prog 12 #[.slice (some ⟨g, 0, none⟩) D.length cap, .int .i64 1] w fun e w' => (∃ K : Nat, e = .returned (.int .i64 (K : Int)) ∧ K ≤ 10000000000000000) ∧ Mem.Band g X w w' := by
  have HO := hide hok
  have HV := hide hv
  clear hok hv
  go_enter Tryz.func12, Tryz.ntmps12
  go_wp2
  go_loopw [1, 5] (fun a i wr => ∃ (j K : Nat), j ≤ D.length ∧ i = .int .i64 (j : Int) ∧ a = .int .i64 (K : Int) ∧ (0 < K ∧ K ≤ 1 + 5242881 * j) ∧ Hid (Has wr g X D ∧ Mem.Band g X w wr)) (fun _ i _ => D.length - (intOf i).toNat)
  case atStart => exact ⟨0, 1, Nat.zero_le _, rfl, rfl, by omega, ⟨unhide HV, Mem.Band.refl _ _ _⟩⟩
  case round =>
    obtain ⟨j, K, hj, rfl, rfl, hK, HA⟩ := hrel
    by_cases hlt : j < D.length
    · obtain ⟨t, ht⟩ : ∃ t, D[j]? = some t := ⟨_, List.getElem?_eq_getElem hlt⟩
      have htl := unhide HO t (List.mem_of_getElem? ht)
      have HS := hide ((unhide HA).1.many (i := j) (.int .i64 (K : Int)))
      have BS := hide ((unhide HA).2.trans (Mem.Band.of_set (w := wr) ⟨g, j * 2, none⟩ (.int .i64 (K : Int)) (Nat.le_refl _) (unhide HA).1.gx))
      have c1 := (unhide HS).cell j t ht
      obtain ⟨q, h1, h2, h3, cs, h4, h5⟩ := (unhide HS).each j t ht
      obtain ⟨cur, hb1, hb2⟩ := (unhide HA).1.blk
      obtain ⟨x0, s0⟩ : ∃ x, wr.cell? ⟨g, j * 2, none⟩ = some x := ⟨_, (cell_of_row wr _ (j * 2) _ _ (0, 0) hb1).trans (Array.getElem?_eq_getElem (by omega))⟩
      have f0 : wr.frozen? ⟨g, j * 2, none⟩ = false := Mem.row_frozen hb1
      obtain ⟨tm, ta, tc, tL⟩ := t
      simp only at h1 h5 htl
      subst h1
      simp only [Pl.Tr.val] at c1
      have hm := hide (WMarkN.lay_any q tL.length tc (K + 1) cs (wr.setCell ⟨g, j * 2, none⟩ (.int .i64 (K : Int))) htl (by omega) (by omega) h4 h5)
      have H4 := hide h4
      have u1 : (j : Int) < (D.length : Int) := by omega
      have u3 : (0 : Int) ≤ (j : Int) := by omega
      have eK : ((K + 1 : Nat) : Int) = (K : Int) + 1 := by omega
      rw [eK] at hm
      clear h4 h5 ht HA hb1 hb2
      go_wp2_with fail
      refine (unhide hm).mono ?_
      rintro e w2 ⟨rfl, ⟨cur', hr', hs'⟩, -, hg⟩
      have HB : Hid (Has w2 g X D ∧ Mem.Band g X w w2) := ⟨(unhide HS).marked h2 (unhide H4) hr' hs' hg, (unhide BS).trans (Mem.Band.of_grown hg (by omega) h3)⟩
      clear HS BS hm H4 hr' hs' hg c1 s0 f0
      generalize hK2 : K + 1 + 5 * tL.length = K2
      have hK3 : 0 < K2 ∧ K2 ≤ 1 + 5242881 * (j + 1) := by omega
      clear hK2 hK htl
      go_wp2
      go_roundw
      case rel => exact ⟨j + 1, K2, by omega, by go_num, rfl, hK3, HB⟩
      case measure => simp [intOf]; omega
    · have u1 : ¬ (j : Int) < (D.length : Int) := by omega
      go_wp2
      go_ret
      exact ⟨⟨K, rfl, by omega⟩, (unhide HA).2⟩
end WMkJ
end Go.Proofs.YteddcihodfkliabGreatDoor
