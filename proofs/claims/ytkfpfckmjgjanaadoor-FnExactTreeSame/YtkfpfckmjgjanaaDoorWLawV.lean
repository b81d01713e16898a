/- The size of nodes and of a tree, at any room left. -/
import Derived.Test.YtkfpfckmjgjanaaDoorG11
namespace Go.Proofs.YtkfpfckmjgjanaaDoor
open Go.RowKit
namespace WLaw
set_option maxRecDepth 100000 in
set_option maxHeartbeats 400000 in
theorem szNodeSv_any (a : Option Addr) (cap : Nat) (left : Int) (h0l : 0 ≤ left) (h1l : left ≤ 1048576) (L : List Pl.Nd) (w : World) (hl : L.length ≤ maxLen) (hv : Mem.isNodes w a L) (hok : ∀ n ∈ L, n.path.size ≤ maxLen ∧ n.data.size ≤ maxLen) :
    Calls Tryd.prog 68 #[.slice a L.length cap, .int .i64 left] w fun e w' => (∃ r : Int, e = .returned (.int .i64 r) ∧ (r = -1 ∨ 0 ≤ r ∧ r ≤ 1048576 ∧ L.length ≤ 1048576 ∧ ∀ n ∈ L, n.path.size ≤ 1048576 ∧ n.data.size ≤ 1048576)) ∧ Below w.heap.size w w' := by
  have hl2 := hl
  unfold maxLen at hl2
  by_cases h0 : left < L.length
  · have t0 : left - (L.length : Int) < 0 := by omega
    go_enter Tryd.func68, Tryd.ntmps68
    go_wp2
    go_ret
    exact ⟨⟨-1, rfl, .inl rfl⟩, Below.refl _ _⟩
  have t0 : ¬ left - (L.length : Int) < 0 := by omega
  have HV := hide hv
  have HO := hide hok
  clear hv hok
  go_enter Tryd.func68, Tryd.ntmps68
  go_wp2
  go_loopw [1, 5] (fun l i wr => ∃ (k : Nat) (r : Int), k ≤ L.length ∧ i = .int .i64 (k : Int) ∧ l = .int .i64 r ∧ 0 ≤ r ∧ r ≤ 1048576 ∧ Below w.heap.size w wr ∧ Hid (∀ (j : Nat) n, j < k → L[j]? = some n → n.path.size ≤ 1048576 ∧ n.data.size ≤ 1048576)) (fun _ i _ => L.length - (intOf i).toNat)
  case atStart => exact ⟨0, _, Nat.zero_le _, rfl, rfl, by omega, by omega, Below.refl _ _, fun j n h => absurd h (by omega)⟩
  case round =>
    obtain ⟨k, r, hk, rfl, rfl, hr0, hr1, hbel, HA⟩ := hrel
    by_cases hlt : k < L.length
    · obtain ⟨n, hn⟩ : ∃ n, L[k]? = some n := ⟨_, List.getElem?_eq_getElem hlt⟩
      obtain ⟨b, o, rfl, hb, q0, q1, q2, q3, q4⟩ := (unhide HV) k n hn
      have c0 := (hbel.cell (p := ⟨b, _, none⟩) hb).trans q0
      have c1 := (hbel.cell (p := ⟨b, _, none⟩) hb).trans q1
      have c2 := (hbel.cell (p := ⟨b, _, none⟩) hb).trans q2
      have c3 := (hbel.cell (p := ⟨b, _, none⟩) hb).trans q3
      have c4 := (hbel.cell (p := ⟨b, _, none⟩) hb).trans q4
      have hz := hide (fun W => szNode_any n r W (unhide HO n (List.mem_of_getElem? hn)).1 (unhide HO n (List.mem_of_getElem? hn)).2 hr0 hr1)
      have HN := hide hn
      have u1 : (k : Int) < (L.length : Int) := by omega
      have u3 : (0 : Int) ≤ (k : Int) := by omega
      clear q0 q1 q2 q3 q4 hn
      simp only [Pl.Nd.val] at hz
      go_wp2_with fail
      refine (unhide hz _).mono ?_
      rintro e w1 ⟨⟨r1, rfl, h1⟩, b1⟩
      have hb2 := hbel.trans (b1.mono hbel.size)
      clear b1 hbel hz
      rcases h1 with rfl | ⟨h2, h3⟩
      · go_wp2
        go_ret
        exact ⟨⟨-1, rfl, .inl rfl⟩, hb2⟩
      · have h4 : ¬ r1 < 0 := by omega
        have HA2 : Hid (∀ (j : Nat) m, j < k + 1 → L[j]? = some m → m.path.size ≤ 1048576 ∧ m.data.size ≤ 1048576) := fun j m hj h' => by
          rcases Nat.lt_succ_iff_lt_or_eq.1 hj with h'' | rfl
          · exact HA.out j m h'' h'
          · rw [unhide HN] at h'; cases h'; omega
        go_wp2
        go_roundw
        case rel => exact ⟨k + 1, r1, by omega, by go_num, rfl, h2, by omega, hb2, HA2⟩
        case measure => simp [intOf]; omega
    · have u1 : ¬ (k : Int) < (L.length : Int) := by omega
      go_wp2
      go_ret
      exact ⟨⟨r, rfl, .inr ⟨hr0, hr1, by omega, fun n hn => by
        obtain ⟨j, hj⟩ := List.mem_iff_getElem?.1 hn
        exact HA.out j n (by have := (List.getElem?_eq_some_iff.1 hj).1; omega) hj⟩⟩, hbel⟩
set_option maxRecDepth 100000 in
theorem szTreeV_any (a : Option Addr) (cap : Nat) (left : Int) (h0l : 0 ≤ left) (h1l : left ≤ 1048576) (L : List Pl.Nd) (w : World) (hl : L.length ≤ maxLen) (hv : Mem.isNodes w a L) (hok : ∀ n ∈ L, n.path.size ≤ maxLen ∧ n.data.size ≤ maxLen) :
    Calls Tryd.prog 26 #[.agg #[.slice a L.length cap], .int .i64 left] w fun e w' => (∃ r : Int, e = .returned (.int .i64 r) ∧ (r = -1 ∨ 0 ≤ r ∧ r ≤ 1048576 ∧ L.length ≤ 1048576 ∧ ∀ n ∈ L, n.path.size ≤ 1048576 ∧ n.data.size ≤ 1048576)) ∧ Below w.heap.size w w' := by
  have b0 : ∀ o, Below w.heap.size w (w.alloc o) := fun o => (Below.refl _ _).alloc (Nat.le_refl _) o
  have hz := hide (fun W (b : Below w.heap.size w W) => szNodeSv_any a cap left h0l h1l L W hl (Mem.nodes_call hv b) hok)
  have HB := hide b0
  clear hv hok b0
  go_enter Tryd.func26, Tryd.ntmps26
  go_wp2_with fail
  refine (unhide hz _ (unhide HB _)).mono ?_
  rintro e w1 ⟨⟨r1, rfl, h1⟩, b1⟩
  have hb2 := (unhide HB _).trans (b1.mono (unhide HB _).size)
  clear b1 hz
  rcases h1 with rfl | ⟨h2, h3⟩
  · go_wp2
    go_ret
    exact ⟨⟨-1, rfl, .inl rfl⟩, hb2⟩
  · have h4 : ¬ r1 < 0 := by omega
    go_wp2
    go_ret
    exact ⟨⟨r1, rfl, .inr ⟨h2, h3⟩⟩, hb2⟩
end WLaw
end Go.Proofs.YtkfpfckmjgjanaaDoor
