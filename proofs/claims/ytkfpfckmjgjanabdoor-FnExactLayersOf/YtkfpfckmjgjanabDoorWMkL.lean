/- The laws' own marks on layers. -/
import Derived.Test.YtkfpfckmjgjanabDoorG79
import Derived.Test.YtkfpfckmjgjanabDoorG21
import Derived.Test.YtkfpfckmjgjanabDoorG17
namespace Go.Proofs.YtkfpfckmjgjanabDoor
open Go.RowKit
namespace WMkL
/-- What the marks want, and leave: the row of trees, and a row of nodes for each. -/
structure Has (W : World) (g X : Nat) (D : List Pl.Tr) : Prop where
  cell : ∀ (j : Nat) t, D[j]? = some t → W.cell? ⟨g, j, none⟩ = some t.val
  lt : g < W.heap.size
  each : ∀ (j : Nat) t, D[j]? = some t → ∃ q, t.a = some ⟨q, 0, none⟩ ∧ g < q ∧ q < X ∧ ∃ cs, W.heap[q]? = some (.cells cs 50 (0, 0)) ∧ t.L.length * 5 ≤ cs.size
theorem has_rows {W : World} {g : Nat} {D : List Pl.Tr} (h : WLawX.Rows W g D) : Has W g W.heap.size D :=
  ⟨fun j t hj => by
    obtain ⟨⟨b, o, h1, h2, h3⟩, -⟩ := h.trees j t hj
    cases h1
    rw [Nat.zero_add] at h3
    exact h3, h.lt, h.each⟩
theorem Has.call {W W' : World} {g X : Nat} {D : List Pl.Tr} (h : Has W g X D) (b : Below W.heap.size W W') : Has W' g X D :=
  ⟨fun j t hj => (b.cell (p := ⟨g, j, none⟩) h.lt).trans (h.cell j t hj), Nat.lt_of_lt_of_le h.lt b.size, fun j t hj => by
    obtain ⟨q, h1, h2, h3, cs, h4, h5⟩ := h.each j t hj
    exact ⟨q, h1, h2, h3, cs, (b.block q (Array.getElem?_eq_some_iff.1 h4).1).trans h4, h5⟩⟩
theorem cell_block {w w' : World} {g j : Nat} (h : w'.heap[g]? = w.heap[g]?) : w'.cell? ⟨g, j, none⟩ = w.cell? ⟨g, j, none⟩ := by
  simp only [World.cell?, h]
theorem Has.marked {W W' : World} {g X q : Nat} {D : List Pl.Tr} {cur cur' : Array Value} (h : Has W g X D) (hq : g < q) (hr : W.heap[q]? = some (.cells cur 50 (0, 0))) (hr' : W'.heap[q]? = some (.cells cur' 50 (0, 0))) (hs : cur'.size = cur.size) (hg : W.grownBy W' (some q)) : Has W' g X D :=
  ⟨fun j t hj => (cell_block (hg.block g h.lt (fun e => by cases e; omega))).trans (h.cell j t hj), Nat.lt_of_lt_of_le h.lt hg.size, fun j t hj => by
    obtain ⟨p, h1, h2, h3, cs, h4, h5⟩ := h.each j t hj
    by_cases e : p = q
    · subst e
      rw [hr] at h4
      cases h4
      exact ⟨p, h1, h2, h3, cur', hr', by omega⟩
    · exact ⟨p, h1, h2, h3, cs, (hg.block p (Array.getElem?_eq_some_iff.1 h4).1 (fun e2 => by cases e2; exact e rfl)).trans h4, h5⟩⟩
set_option linter.unusedSimpArgs false in
set_option maxRecDepth 100000 in
set_option maxHeartbeats 1000000 in
theorem markS_any (g X cap : Nat) (D : List Pl.Tr) (w : World) (hl : D.length ≤ 1048576) (hok : ∀ t ∈ D, t.L.length ≤ 1048576) (hv : Has w g X D) :
    Calls Tryd.prog 58 #[.slice (some ⟨g, 0, none⟩) D.length cap, .int .i64 1] w fun e w' => (∃ K : Nat, e = .returned (.int .i64 (K : Int)) ∧ K ≤ 10000000000000000) ∧ Mem.Band g X w w' := by
  have HO := hide hok
  have HV := hide hv
  clear hok hv
  go_enter Tryd.func58, Tryd.ntmps58
  go_wp2
  go_loopw [1, 5] (fun a i wr => ∃ (j K : Nat), j ≤ D.length ∧ i = .int .i64 (j : Int) ∧ a = .int .i64 (K : Int) ∧ (0 < K ∧ K ≤ 1 + 5242880 * j) ∧ Hid (Has wr g X D ∧ Mem.Band g X w wr)) (fun _ i _ => D.length - (intOf i).toNat)
  case atStart => exact ⟨0, 1, Nat.zero_le _, rfl, rfl, by omega, ⟨unhide HV, Mem.Band.refl _ _ _⟩⟩
  case round =>
    obtain ⟨j, K, hj, rfl, rfl, hK, HA⟩ := hrel
    by_cases hlt : j < D.length
    · obtain ⟨t, ht⟩ : ∃ t, D[j]? = some t := ⟨_, List.getElem?_eq_getElem hlt⟩
      have htl := unhide HO t (List.mem_of_getElem? ht)
      have c0 := (unhide HA).1.cell j t ht
      obtain ⟨q, h1, h2, h3, cs, h4, h5⟩ := (unhide HA).1.each j t ht
      obtain ⟨ta, tc, tL⟩ := t
      simp only at h1 h5 htl
      subst h1
      simp only [Pl.Tr.val] at c0
      have hm := hide (WMarkN.lay_any q tL.length tc K cs wr htl hK.1 (by omega) h4 h5)
      have H4 := hide h4
      have u1 : (j : Int) < (D.length : Int) := by omega
      have u3 : (0 : Int) ≤ (j : Int) := by omega
      clear h4 h5 ht
      go_wp2_with fail
      refine (unhide hm).mono ?_
      rintro e w2 ⟨rfl, ⟨cur', hr', hs'⟩, -, hg⟩
      have HB : Hid (Has w2 g X D ∧ Mem.Band g X w w2) := ⟨(unhide HA).1.marked h2 (unhide H4) hr' hs' hg, (unhide HA).2.trans (Mem.Band.of_grown hg (by omega) h3)⟩
      clear HA hm H4 hr' hs' hg
      generalize hK2 : K + 5 * tL.length = K2
      have hK3 : 0 < K2 ∧ K2 ≤ 1 + 5242880 * (j + 1) := by omega
      clear hK2 hK htl
      go_wp2
      go_roundw
      case rel => exact ⟨j + 1, K2, by omega, by go_num, rfl, hK3, HB⟩
      case measure => simp [intOf]; omega
    · have u1 : ¬ (j : Int) < (D.length : Int) := by omega
      go_wp2
      go_ret
      exact ⟨⟨K, rfl, by omega⟩, (unhide HA).2⟩
set_option maxRecDepth 100000 in
theorem mark_any (g X cap : Nat) (D : List Pl.Tr) (w : World) (hl : D.length ≤ 1048576) (hok : ∀ t ∈ D, t.L.length ≤ 1048576) (hv : Has w g X D) :
    Calls Tryd.prog 29 #[.agg #[.slice (some ⟨g, 0, none⟩) D.length cap], .int .i64 1] w fun e w' => (∃ K : Nat, e = .returned (.int .i64 (K : Int)) ∧ K ≤ 10000000000000000) ∧ Mem.Band g X w w' := by
  have HB := hide (fun o => ((Below.refl w.heap.size w).alloc (Nat.le_refl _) o : Below w.heap.size w (w.alloc o)))
  have hl := hide (fun W (b : Below w.heap.size w W) => markS_any g X cap D W hl hok (hv.call b))
  clear hok hv
  go_enter Tryd.func29, Tryd.ntmps29
  go_wp2_with fail
  refine (unhide hl _ (unhide HB _)).mono ?_
  rintro e w1 ⟨⟨K, rfl, hK⟩, h1⟩
  have H := hide ((Mem.Band.of_below (unhide HB _)).trans h1)
  clear h1 hl HB
  go_wp2
  go_ret
  exact ⟨⟨K, rfl, hK⟩, unhide H⟩
end WMkL
end Go.Proofs.YtkfpfckmjgjanabDoor
