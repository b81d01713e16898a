/- Several texts of one claim in one file: WPutR, WUnder1S, WPutS. -/
import Derived.Test.YtkfpfckmjgjanaaDoorPlainTreeI
import Derived.Test.YtkfpfckmjgjanaaDoorWTreeR
import Derived.Test.YtkfpfckmjgjanaaDoorG05
import Derived.Test.YtkfpfckmjgjanaaDoorG15
/- Bounds of a right tree. -/
namespace Go.Proofs.YtkfpfckmjgjanaaDoor
open Go.RowKit
namespace WPutB
theorem right_bounds {L : List Pl.Nd} (h : Pl.treeB L = true) : L.length ≤ 40 ∧ ∀ m ∈ L, m.path.size ≤ 200 := by
  simp only [Pl.treeB, Bool.and_eq_true, decide_eq_true_eq] at h
  exact ⟨h.1, fun m hm => Pl.pathB_le (Pl.node_right (Pl.goI_all L _ _ h.2 m hm)).1⟩
end WPutB
end Go.Proofs.YtkfpfckmjgjanaaDoor

/- The walk of the specification's l02Under. -/
namespace Go.Proofs.YtkfpfckmjgjanaaDoor
open Go.RowKit
namespace Pl
theorem under_root {p t : ByteArray} (h : by_ t = []) : under p t = true := (under_iff p t).2 (.inl h)
theorem under_same (p : ByteArray) : under p p = true := (under_iff p p).2 (.inr (.inl rfl))
theorem under_short {p t : ByteArray} (h0 : by_ t ≠ []) (h1 : p ≠ t) (h : ¬ t.size < p.size) : under p t = false := by
  rw [Bool.eq_false_iff]
  intro h2
  rcases (under_iff p t).1 h2 with h3 | h3 | ⟨r, h3⟩
  · exact h0 h3
  · exact h1 (by_inj h3)
  · have := congrArg List.length h3
    rw [by_length, List.length_append, List.length_cons, by_length] at this
    omega
theorem by_pre (p t : ByteArray) : by_ (p.extract 0 t.size) = (by_ p).take t.size := by rw [by_extract]; simp
theorem under_other {p t : ByteArray} (h0 : by_ t ≠ []) (h1 : p ≠ t) (h : p.extract 0 t.size ≠ t) : under p t = false := by
  rw [Bool.eq_false_iff]
  intro h2
  rcases (under_iff p t).1 h2 with h3 | h3 | ⟨r, h3⟩
  · exact h0 h3
  · exact h1 (by_inj h3)
  · apply h; apply by_inj; rw [by_pre, h3, ← by_length, List.take_left]
theorem pre_split {p t : ByteArray} (hl : t.size < p.size) (h : p.extract 0 t.size = t) : by_ p = by_ t ++ p[t.size] :: (by_ p).drop (t.size + 1) := by
  have h1 : by_ t = (by_ p).take t.size := by rw [← by_pre, h]
  have h2 : t.size < (by_ p).length := by rw [by_length]; exact hl
  have h3 : (by_ p).drop t.size = p[t.size] :: (by_ p).drop (t.size + 1) := by rw [List.drop_eq_getElem_cons h2]; rfl
  exact (List.take_append_drop t.size (by_ p)).symm.trans (by rw [h3, ← h1]; rfl)
theorem under_yes {p t : ByteArray} (hl : t.size < p.size) (h : p.extract 0 t.size = t) (hb : p[t.size].toNat = 47) : under p t = true := by
  refine (under_iff p t).2 (.inr (.inr ⟨(by_ p).drop (t.size + 1), ?_⟩))
  have hb' : p[t.size] = 47 := UInt8.toNat_inj.1 hb
  rw [← hb']; exact pre_split hl h
theorem under_no {p t : ByteArray} (h0 : by_ t ≠ []) (h1 : p ≠ t) (hl : t.size < p.size) (h : p.extract 0 t.size = t) (hb : p[t.size].toNat ≠ 47) : under p t = false := by
  rw [Bool.eq_false_iff]
  intro h2
  rcases (under_iff p t).1 h2 with h3 | h3 | ⟨r, h3⟩
  · exact h0 h3
  · exact h1 (by_inj h3)
  · rw [pre_split hl h] at h3
    have := List.append_cancel_left h3
    simp at this
    exact hb (by rw [this.1]; rfl)
end Pl
namespace WPathS
set_option maxRecDepth 100000 in
set_option maxHeartbeats 400000 in
theorem under1_any (p t : ByteArray) (w : World) (ht : t.size ≤ 1048576) :
    Calls Tryd.prog 126 #[.string p, .string t] w fun e w' => e = .returned (.bool (Pl.under p t)) ∧ w' = w := by
  by_cases h0 : Pl.by_ t = []
  · have E := hide (Pl.under_root (p := p) h0)
    have d1 : t.toList.isEmpty = true := by rw [Pl.empty_list]; simp [h0]
    clear h0
    go_enter Tryd.func126, Tryd.ntmps126
    go_wp2
    go_ret
    exact ⟨ret_bool (unhide E).symm, rfl⟩
  have d1 : t.toList.isEmpty = false := by rw [Pl.empty_list]; simp [h0]
  by_cases h1 : p = t
  · subst h1
    have E := hide (Pl.under_same p)
    clear h0
    go_enter Tryd.func126, Tryd.ntmps126
    go_wp2
    go_ret
    exact ⟨ret_bool (unhide E).symm, rfl⟩
  have d2 := Pl.ne_lists h1
  by_cases hl : t.size < p.size
  · have k1 : (t.size : Int) < (p.size : Int) := by omega
    have k2 : (t.size : Int) ≤ (p.size : Int) := by omega
    have k3 : (0 : Int) ≤ (t.size : Int) := by omega
    by_cases h3 : p.extract 0 t.size = t
    · have d3 := Pl.eq_lists h3
      by_cases h4 : p[t.size].toNat = 47
      · have E := hide (Pl.under_yes hl h3 h4)
        have d4 : ((p[t.size].toNat : Int) == 47) = true := by rw [beq_iff_eq]; omega
        clear h0 h1 h3 h4
        go_enter Tryd.func126, Tryd.ntmps126
        go_wp2
        go_ret
        exact ⟨ret_bool (unhide E).symm, rfl⟩
      · have E := hide (Pl.under_no h0 h1 hl h3 h4)
        have d4 : ((p[t.size].toNat : Int) == 47) = false := by rw [beq_eq_false_iff_ne]; omega
        clear h0 h1 h3 h4
        go_enter Tryd.func126, Tryd.ntmps126
        go_wp2
        go_ret
        exact ⟨ret_bool (unhide E).symm, rfl⟩
    · have E := hide (Pl.under_other h0 h1 h3)
      have d3 := Pl.ne_lists h3
      clear h0 h1 h3
      go_enter Tryd.func126, Tryd.ntmps126
      go_wp2
      go_ret
      exact ⟨ret_bool (unhide E).symm, rfl⟩
  · have E := hide (Pl.under_short h0 h1 hl)
    have k1 : ¬ (t.size : Int) < (p.size : Int) := by omega
    clear h0 h1
    go_enter Tryd.func126, Tryd.ntmps126
    go_wp2
    go_ret
    exact ⟨ret_bool (unhide E).symm, rfl⟩
end WPathS
end Go.Proofs.YtkfpfckmjgjanaaDoor

/- The walk of the specification's l03Over: are there nodes under a path? -/
namespace Go.Proofs.YtkfpfckmjgjanaaDoor
open Go.RowKit
namespace Pl
def overL (L : List Nd) (p : ByteArray) : Bool := L.any (fun m => !decide (m.path = p) && under m.path p)
theorem over_yes {L : List Nd} {p : ByteArray} {k : Nat} {n : Nd} (hn : L[k]? = some n) (h1 : n.path ≠ p) (h2 : under n.path p = true) : overL L p = true :=
  List.any_eq_true.2 ⟨n, List.mem_of_getElem? hn, by simp [h1, h2]⟩
theorem over_no {L : List Nd} {p : ByteArray} (h : ∀ (j : Nat) m, L[j]? = some m → m.path = p ∨ under m.path p = false) : overL L p = false := by
  rw [overL, List.any_eq_false]
  intro m hm
  obtain ⟨j, hj⟩ := List.mem_iff_getElem?.1 hm
  rcases h j m hj with h | h <;> simp [h]
end Pl
namespace WPutS
theorem tl_ne {a b : ByteArray} (h : a ≠ b) : (a.toList == b.toList) = false := by
  rw [beq_eq_false_iff_ne]
  intro e
  exact h (Pl.by_inj (by rw [ByteArray.toList_eq, ByteArray.toList_eq] at e; exact e))
set_option linter.unusedSimpArgs false in
set_option maxRecDepth 100000 in
set_option maxHeartbeats 2000000 in
theorem over_any (a : Option Addr) (cap : Nat) (L : List Pl.Nd) (p : ByteArray) (w : World) (hl : L.length ≤ 1048576) (hv : Mem.isNodes w a L) (hp : p.size ≤ 1048576) :
    Calls Tryd.prog 124 #[.agg #[.slice a L.length cap], .string p] w fun e w' => e = .returned (.bool (Pl.overL L p)) ∧ Below w.heap.size w w' := by
  have b0 : Below w.heap.size w (w.alloc (.cells #[.slice a L.length cap] 32)) := (Below.refl _ _).alloc (Nat.le_refl _) _
  have HV := hide (Mem.nodes_call hv b0)
  have E1 : Hid (∀ (k : Nat) n, L[k]? = some n → n.path ≠ p → Pl.under n.path p = true → Pl.overL L p = true) := fun k n => Pl.over_yes
  have E2 : Hid ((∀ (j : Nat) m, L[j]? = some m → m.path = p ∨ Pl.under m.path p = false) → Pl.overL L p = false) := Pl.over_no
  generalize Pl.overL L p = R at E1 E2 ⊢
  clear hv
  go_enter Tryd.func124, Tryd.ntmps124
  go_wp2
  go_loop [5] (fun i => ∃ k : Nat, k ≤ L.length ∧ i = .int .i64 (k : Int) ∧ Hid (∀ (j : Nat) m, j < k → L[j]? = some m → m.path = p ∨ Pl.under m.path p = false)) (fun i => L.length - (intOf i).toNat)
  case atStart => exact ⟨0, Nat.zero_le _, rfl, fun j m h => absurd h (by omega)⟩
  case round =>
    obtain ⟨k, hk, rfl, HA⟩ := hrel
    by_cases hlt : k < L.length
    · obtain ⟨n, hn⟩ : ∃ n, L[k]? = some n := ⟨_, List.getElem?_eq_getElem hlt⟩
      obtain ⟨b, o, rfl, hb, q0, -, -, -, -⟩ := (unhide HV) k n hn
      have y1 : (k : Int) < (L.length : Int) := by omega
      have y3 : (0 : Int) ≤ (k : Int) := by omega
      have EN := hide hn
      by_cases hqp : n.path = p
      · have HA2 : Hid (∀ (j : Nat) m, j < k + 1 → L[j]? = some m → m.path = p ∨ Pl.under m.path p = false) := fun j m hj hm => by
          rcases Nat.lt_succ_iff_lt_or_eq.1 hj with h'' | rfl
          · exact HA.out j m h'' hm
          · rw [unhide EN] at hm; cases hm; exact .inl hqp
        rw [hqp] at q0
        clear hn EN hqp
        go_wp2
        go_round
        case rel => exact ⟨k + 1, by omega, by go_num, HA2⟩
        case measure => simp [intOf]; omega
      · have t1 := tl_ne hqp
        have hcu := hide (fun W => WPathS.under1_any n.path p W hp)
        cases hun : Pl.under n.path p
        · have HA2 : Hid (∀ (j : Nat) m, j < k + 1 → L[j]? = some m → m.path = p ∨ Pl.under m.path p = false) := fun j m hj hm => by
            rcases Nat.lt_succ_iff_lt_or_eq.1 hj with h'' | rfl
            · exact HA.out j m h'' hm
            · rw [unhide EN] at hm; cases hm; exact .inr hun
          rw [hun] at hcu
          generalize n.path = np at q0 t1 hcu
          clear hn EN hqp hun
          go_wp2_with (go_at_call 126; refine (unhide hcu _).mono ?_; rintro e w' ⟨rfl, hw⟩; obtain rfl := hw.symm)
          go_round
          case rel => exact ⟨k + 1, by omega, by go_num, HA2⟩
          case measure => simp [intOf]; omega
        · have E := hide (unhide E1 k n hn hqp hun)
          rw [hun] at hcu
          generalize n.path = np at q0 t1 hcu
          clear hn EN hqp hun
          go_wp2_with (go_at_call 126; refine (unhide hcu _).mono ?_; rintro e w' ⟨rfl, hw⟩; obtain rfl := hw.symm)
          go_ret
          exact ⟨ret_bool (unhide E).symm, b0⟩
    · have E := hide (unhide E2 (fun j n h => HA.out j n (by have := (List.getElem?_eq_some_iff.1 h).1; omega) h))
      have u1 : ¬ (k : Int) < (L.length : Int) := by omega
      go_wp2
      go_ret
      exact ⟨ret_bool (unhide E).symm, b0⟩
end WPutS
end Go.Proofs.YtkfpfckmjgjanaaDoor

