/- Several texts of one claim in one file: WPutS, MapPut. -/
import Derived.Test.YtkfpfckmjgjanabDoorG17
import Derived.Test.YtkfpfckmjgjanabDoorWUnder1S
import Derived.Test.YtkfpfckmjgjanabDoorWRising
/- The walk of the specification's l03Over: are there nodes under a path? -/
namespace Go.Proofs.YtkfpfckmjgjanabDoor
open Go.RowKit
namespace Pl
def overL (L : List Nd) (p : ByteArray) : Bool := L.any (fun m => !decide (m.path = p) && under m.path p)
theorem over_yes {L : List Nd} {p : ByteArray} {k : Nat} {n : Nd} (hn : L[k]? = some n) (h1 : n.path ≠ p) (h2 : under n.path p = true) : overL L p = true :=
  List.any_eq_true.2 ⟨n, List.mem_of_getElem? hn, by simp [h1, h2]⟩
theorem over_no {L : List Nd} {p : ByteArray} (h : ∀ (j : Nat) m, L[j]? = some m → m.path = p ∨ under m.path p = false) : overL L p = false := by
  rw [overL, List.any_eq_false]
  intro m hm
  obtain ⟨j, hj⟩ := List.mem_iff_getElem?.1 hm
  rcases h j m hj with h | h <;> simp [h]
end Pl
namespace WPutS
theorem tl_ne {a b : ByteArray} (h : a ≠ b) : (a.toList == b.toList) = false := by
  rw [beq_eq_false_iff_ne]
  intro e
  exact h (Pl.by_inj (by rw [ByteArray.toList_eq, ByteArray.toList_eq] at e; exact e))
set_option linter.unusedSimpArgs false in
set_option maxRecDepth 100000 in
set_option maxHeartbeats 2000000 in
theorem over_any (a : Option Addr) (cap : Nat) (L : List Pl.Nd) (p : ByteArray) (w : World) (hl : L.length ≤ 1048576) (hv : Mem.isNodes w a L) (hp : p.size ≤ 1048576) :
    Calls Tryd.prog 62 #[.agg #[.slice a L.length cap], .string p] w fun e w' => e = .returned (.bool (Pl.overL L p)) ∧ Below w.heap.size w w' := by
  have b0 : Below w.heap.size w (w.alloc (.cells #[.slice a L.length cap] 39)) := (Below.refl _ _).alloc (Nat.le_refl _) _
  have HV := hide (Mem.nodes_call hv b0)
  have E1 : Hid (∀ (k : Nat) n, L[k]? = some n → n.path ≠ p → Pl.under n.path p = true → Pl.overL L p = true) := fun k n => Pl.over_yes
  have E2 : Hid ((∀ (j : Nat) m, L[j]? = some m → m.path = p ∨ Pl.under m.path p = false) → Pl.overL L p = false) := Pl.over_no
  generalize Pl.overL L p = R at E1 E2 ⊢
  clear hv
  go_enter Tryd.func62, Tryd.ntmps62
  go_wp2
  go_loop [5] (fun i => ∃ k : Nat, k ≤ L.length ∧ i = .int .i64 (k : Int) ∧ Hid (∀ (j : Nat) m, j < k → L[j]? = some m → m.path = p ∨ Pl.under m.path p = false)) (fun i => L.length - (intOf i).toNat)
  case atStart => exact ⟨0, Nat.zero_le _, rfl, fun j m h => absurd h (by omega)⟩
  case round =>
    obtain ⟨k, hk, rfl, HA⟩ := hrel
    by_cases hlt : k < L.length
    · obtain ⟨n, hn⟩ : ∃ n, L[k]? = some n := ⟨_, List.getElem?_eq_getElem hlt⟩
      obtain ⟨b, o, rfl, hb, q0, -, -, -, -⟩ := (unhide HV) k n hn
      have y1 : (k : Int) < (L.length : Int) := by omega
      have y3 : (0 : Int) ≤ (k : Int) := by omega
      have EN := hide hn
      by_cases hqp : n.path = p
      · have HA2 : Hid (∀ (j : Nat) m, j < k + 1 → L[j]? = some m → m.path = p ∨ Pl.under m.path p = false) := fun j m hj hm => by
          rcases Nat.lt_succ_iff_lt_or_eq.1 hj with h'' | rfl
          · exact HA.out j m h'' hm
          · rw [unhide EN] at hm; cases hm; exact .inl hqp
        rw [hqp] at q0
        clear hn EN hqp
        go_wp2
        go_round
        case rel => exact ⟨k + 1, by omega, by go_num, HA2⟩
        case measure => simp [intOf]; omega
      · have t1 := tl_ne hqp
        have hcu := hide (fun W => WPathS.under1_any n.path p W hp)
        cases hun : Pl.under n.path p
        · have HA2 : Hid (∀ (j : Nat) m, j < k + 1 → L[j]? = some m → m.path = p ∨ Pl.under m.path p = false) := fun j m hj hm => by
            rcases Nat.lt_succ_iff_lt_or_eq.1 hj with h'' | rfl
            · exact HA.out j m h'' hm
            · rw [unhide EN] at hm; cases hm; exact .inr hun
          rw [hun] at hcu
          generalize n.path = np at q0 t1 hcu
          clear hn EN hqp hun
          go_wp2_with (go_at_call 90; refine (unhide hcu _).mono ?_; rintro e w' ⟨rfl, hw⟩; obtain rfl := hw.symm)
          go_round
          case rel => exact ⟨k + 1, by omega, by go_num, HA2⟩
          case measure => simp [intOf]; omega
        · have E := hide (unhide E1 k n hn hqp hun)
          rw [hun] at hcu
          generalize n.path = np at q0 t1 hcu
          clear hn EN hqp hun
          go_wp2_with (go_at_call 90; refine (unhide hcu _).mono ?_; rintro e w' ⟨rfl, hw⟩; obtain rfl := hw.symm)
          go_ret
          exact ⟨ret_bool (unhide E).symm, b0⟩
    · have E := hide (unhide E2 (fun j n h => HA.out j n (by have := (List.getElem?_eq_some_iff.1 h).1; omega) h))
      have u1 : ¬ (k : Int) < (L.length : Int) := by omega
      go_wp2
      go_ret
      exact ⟨ret_bool (unhide E).symm, b0⟩
end WPutS
end Go.Proofs.YtkfpfckmjgjanabDoor

/- What a map of nodes reads behind a put, and how many it has. -/
namespace Go.Proofs.YtkfpfckmjgjanabDoor
open Go.RowKit Go.Maps
namespace MapN
theorem reads_put {D : DataW Unit} {C : List Pl.Nd} (h : Reads D C) (hm : IsMap D) (n : Pl.Nd) : Reads (D.put (key n.path) (dat n)) (C.filter (fun m => !decide (m.path = n.path)) ++ [n]) := by
  refine ⟨fun m hmem => ?_, fun p c hc => ?_⟩
  · by_cases e : m.path = n.path
    · rw [e]; exact has_put_same hm (key_is _) _
    · rw [has_put_other (key_ne e)]
      rcases List.mem_append.1 hmem with h1 | h1
      · exact h.has m (List.mem_filter.1 h1).1
      · simp at h1; subst h1; exact absurd rfl e
  · by_cases e : p = n.path
    · subst e
      have h1 := hc (dat n)
      rw [atKey_put_same hm (key_is _)] at h1
      have := dat_inj h1
      subst this
      exact ⟨by simp, rfl⟩
    · have h1 := h.ent p c (fun z => by rw [← hc z]; exact (atKey_put_other (key_ne e) _ z).symm)
      exact ⟨List.mem_append_left _ (List.mem_filter.2 ⟨h1.1, by rw [← h1.2]; simpa using e⟩), h1.2⟩
theorem tidy_mapOf : ∀ (C : List Pl.Nd) (D : DataW Unit), Tidy D → Tidy (C.foldl (fun D n => D.put (key n.path) (dat n)) D) := by
  intro C
  induction C with
  | nil => intro D h; exact h
  | cons n C ih => intro D h; exact ih _ (h.put (key_is _) _)
theorem size_fold : ∀ (C : List Pl.Nd) (D : DataW Unit), Tidy D → C.Pairwise (fun a b => a.path ≠ b.path) → (∀ n ∈ C, Maps.has D (key n.path) = false) → Maps.size (C.foldl (fun D n => D.put (key n.path) (dat n)) D) = Maps.size D + C.length := by
  intro C
  induction C with
  | nil => intro D _ _ _; rfl
  | cons n C ih =>
    intro D hD hp hn
    have hp' := List.pairwise_cons.1 hp
    rw [List.foldl_cons, ih _ (hD.put (key_is _) _) hp'.2 (fun m hm => by rw [has_put_other (key_ne (fun e => hp'.1 m hm e.symm))]; exact hn m (List.mem_cons_of_mem _ hm)), size_put hD, if_neg (by rw [hn n List.mem_cons_self]; simp), List.length_cons]
    omega
theorem size_mapOf {C : List Pl.Nd} (h : C.Pairwise (fun a b => a.path ≠ b.path)) : Maps.size (mapOf C) = C.length := by
  have := size_fold C (.map []) tidy_empty h (fun _ _ => rfl)
  rw [mapOf, this]
  show 0 + _ = _
  omega
end MapN
end Go.Proofs.YtkfpfckmjgjanabDoor

