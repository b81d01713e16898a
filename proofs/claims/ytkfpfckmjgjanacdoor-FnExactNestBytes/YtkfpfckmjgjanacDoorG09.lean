/- Several texts of one claim in one file: WName, MemTexts. -/
import Derived.Test.YtkfpfckmjgjanacDoorPlain
import Derived.Test.YtkfpfckmjgjanacDoorG04
import Derived.Test.YtkfpfckmjgjanacDoorProg
import Derived.WalkKit
import Derived.WalkSpells
import Derived.Test.YtkfpfckmjgjanacDoorG07
import Derived.Deep.Draws
/- The walks of NameRight, the program's and the specification's: both answer whether the text is a name. -/
namespace Go.Proofs.YtkfpfckmjgjanacDoor
open Go.RowKit
namespace WName

set_option maxHeartbeats 400000 in
theorem spec_any (s : ByteArray) (w : World) (hs : s.size ≤ maxLen) :
    Calls Tryd.prog 64 #[.string s] w fun e w' => e = .returned (.bool (Pl.nameB s)) ∧ w' = w := by
  unfold maxLen at hs
  by_cases h1 : s.size < 1
  · have e0 := hide (Pl.nameB_short h1)
    go_enter Tryd.func64, Tryd.ntmps64
    go_wp2
    go_ret
    exact ⟨ret_bool (unhide e0).symm, rfl⟩
  by_cases h2 : 20 < s.size
  · have e0 := hide (Pl.nameB_long h2)
    go_enter Tryd.func64, Tryd.ntmps64
    go_wp2
    go_ret
    exact ⟨ret_bool (unhide e0).symm, rfl⟩
  go_enter Tryd.func64, Tryd.ntmps64
  go_wp2
  go_loop [3] (fun i => ∃ k : Nat, k ≤ s.size ∧ i = .int .i64 k ∧ Hid (∀ j, j < k → Pl.okAt j ((s.data.toList.getD j 0).toNat))) (fun i => s.size - (intOf i).toNat)
  case atStart => exact ⟨0, Nat.zero_le _, rfl, fun j hj => absurd hj (by omega)⟩
  case round =>
    obtain ⟨k, hk, rfl, hok⟩ := hrel
    by_cases hlt : k < s.size
    · by_cases hk0 : k = 0
      · subst hk0
        have okc : ∀ n : Nat, Pl.okAt 0 n ↔ (97 ≤ n ∧ n ≤ 122) := fun n => by unfold Pl.okAt; omega
        have OK := hide okc
        clear okc
        rcases Pl.kinds (s[0].toNat : Int) with ⟨a1, a2⟩ | ⟨a1, a2, a3, a4⟩ | ⟨a1, a2, a3, a4⟩ | ⟨a1, a2, a3, a4⟩ | ⟨a1, a2, a3⟩ | ⟨a1, a2, a3, a4, a5⟩
        · go_wp2
          go_round
          case rel => exact ⟨1, by omega, rfl, Pl.ok_step hok.out hlt ((unhide OK _).2 (by omega))⟩
          case measure => simp [intOf]; omega
        all_goals
          go_wp2
          go_ret
          exact ⟨ret_bool (Pl.nameB_bad 0 hlt (by rw [unhide OK]; omega)).symm, rfl⟩
      · have hkb : ((k : Int) == 0) = false := by simp; omega
        have okc : ∀ n : Nat, Pl.okAt k n ↔ (97 ≤ n ∧ n ≤ 122) ∨ (48 ≤ n ∧ n ≤ 57) ∨ n = 95 := fun n => by unfold Pl.okAt; omega
        have OK := hide okc
        clear okc
        rcases Pl.kinds (s[k].toNat : Int) with ⟨a1, a2⟩ | ⟨a1, a2, a3, a4⟩ | ⟨a1, a2, a3, a4⟩ | ⟨a1, a2, a3, a4⟩ | ⟨a1, a2, a3⟩ | ⟨a1, a2, a3, a4, a5⟩
        · go_wp2
          go_round
          case rel => exact ⟨k + 1, by omega, by go_num, Pl.ok_step hok.out hlt ((unhide OK _).2 (by omega))⟩
          case measure => simp [intOf]; omega
        · go_wp2
          go_round
          case rel => exact ⟨k + 1, by omega, by go_num, Pl.ok_step hok.out hlt ((unhide OK _).2 (by omega))⟩
          case measure => simp [intOf]; omega
        · go_wp2
          go_ret
          exact ⟨ret_bool (Pl.nameB_bad k hlt (by rw [unhide OK]; simp at a4; omega)).symm, rfl⟩
        · go_wp2
          go_round
          case rel => exact ⟨k + 1, by omega, by go_num, Pl.ok_step hok.out hlt ((unhide OK _).2 (by simp at a4; omega))⟩
          case measure => simp [intOf]; omega
        all_goals
          go_wp2
          go_ret
          exact ⟨ret_bool (Pl.nameB_bad k hlt (by rw [unhide OK]; omega)).symm, rfl⟩
    · have e0 : Pl.nameB s = true := Pl.nameB_good h1 h2 (fun j hj => hok.out j (by omega))
      have E0 := hide e0
      clear e0
      go_wp2
      go_ret
      exact ⟨ret_bool (unhide E0).symm, rfl⟩

set_option maxHeartbeats 400000 in
theorem impl_any (s : ByteArray) (w : World) (hs : s.size ≤ maxLen) :
    Calls Tryd.prog 67 #[.string s] w fun e w' => e = .returned (.bool (Pl.nameB s)) ∧ w' = w := by
  unfold maxLen at hs
  by_cases h1 : s.size < 1
  · have e0 := hide (Pl.nameB_short h1)
    go_enter Tryd.func67, Tryd.ntmps67
    go_wp2
    go_ret
    exact ⟨ret_bool (unhide e0).symm, rfl⟩
  by_cases h2 : 20 < s.size
  · have e0 := hide (Pl.nameB_long h2)
    go_enter Tryd.func67, Tryd.ntmps67
    go_wp2
    go_ret
    exact ⟨ret_bool (unhide e0).symm, rfl⟩
  have hp : 0 < s.size := by omega
  by_cases hl : 97 ≤ (s[0].toNat : Int) ∧ (s[0].toNat : Int) ≤ 122
  · obtain ⟨l1, l2⟩ := hl
    have H0 : Hid (Pl.okAt 0 s[0].toNat) := Or.inl (by omega)
    go_enter Tryd.func67, Tryd.ntmps67
    go_wp2
    go_loop [21] (fun i => ∃ k : Nat, k ≤ s.size ∧ i = .int .i64 k ∧ Hid (∀ j, j < k → Pl.okAt j ((s.data.toList.getD j 0).toNat))) (fun i => s.size - (intOf i).toNat)
    case atStart => exact ⟨0, Nat.zero_le _, rfl, fun j hj => absurd hj (by omega)⟩
    case round =>
      obtain ⟨k, hk, rfl, hok⟩ := hrel
      by_cases hlt : k < s.size
      · have hstep : Hid ((97 ≤ s[k].toNat ∧ s[k].toNat ≤ 122) ∨ (48 ≤ s[k].toNat ∧ s[k].toNat ≤ 57) ∨ s[k].toNat = 95 → ∀ j, j < k + 1 → Pl.okAt j ((s.data.toList.getD j 0).toNat)) := by
          intro ho
          refine Pl.ok_step hok.out hlt ?_
          by_cases hk0 : k = 0
          · subst hk0; exact H0
          · unfold Pl.okAt; omega
        have hbad : Hid (¬ ((97 ≤ s[k].toNat ∧ s[k].toNat ≤ 122) ∨ (48 ≤ s[k].toNat ∧ s[k].toNat ≤ 57) ∨ s[k].toNat = 95) → Pl.nameB s = false) := by
          intro hn
          exact Pl.nameB_bad k hlt (by unfold Pl.okAt; omega)
        clear l1 l2 H0 hok
        rcases Pl.kinds (s[k].toNat : Int) with ⟨a1, a2⟩ | ⟨a1, a2, a3, a4⟩ | ⟨a1, a2, a3, a4⟩ | ⟨a1, a2, a3, a4⟩ | ⟨a1, a2, a3⟩ | ⟨a1, a2, a3, a4, a5⟩
        · go_wp2
          go_round
          case rel => exact ⟨k + 1, by omega, by go_num, hstep.out (by omega)⟩
          case measure => simp [intOf]; omega
        · go_wp2
          go_round
          case rel => exact ⟨k + 1, by omega, by go_num, hstep.out (by omega)⟩
          case measure => simp [intOf]; omega
        · go_wp2
          go_ret
          exact ⟨ret_bool (hbad.out (by simp at a4; omega)).symm, rfl⟩
        · go_wp2
          go_round
          case rel => exact ⟨k + 1, by omega, by go_num, hstep.out (by simp at a4; omega)⟩
          case measure => simp [intOf]; omega
        all_goals
          go_wp2
          go_ret
          exact ⟨ret_bool (hbad.out (by omega)).symm, rfl⟩
      · have e0 : Pl.nameB s = true := Pl.nameB_good h1 h2 (fun j hj => hok.out j (by omega))
        have E0 := hide e0
        clear e0
        go_wp2
        go_ret
        exact ⟨ret_bool (unhide E0).symm, rfl⟩
  · have e0 : Pl.nameB s = false := Pl.nameB_bad 0 hp (by unfold Pl.okAt; omega)
    have E0 := hide e0
    clear e0
    by_cases g1 : 97 ≤ (s[0].toNat : Int)
    · have g2 : ¬ (s[0].toNat : Int) ≤ 122 := by omega
      clear hl
      go_enter Tryd.func67, Tryd.ntmps67
      go_wp2
      go_ret
      exact ⟨ret_bool (unhide E0).symm, rfl⟩
    · clear hl
      go_enter Tryd.func67, Tryd.ntmps67
      go_wp2
      go_ret
      exact ⟨ret_bool (unhide E0).symm, rfl⟩
end WName
end Go.Proofs.YtkfpfckmjgjanacDoor

/- Rows of texts: of the call's own, handed on, cut, and kept behind calls. No program in sight. -/
namespace Go.Proofs.YtkfpfckmjgjanacDoor
open Go.RowKit
namespace Mem
/-- A row of texts of the call's own: nil, or its cells. -/
theorem texts {w : World} {B T : Nat} {v : Value} {L : List ByteArray} (h : w.ownsRow B T 1 v L.length (L.map Value.string)) :
    (v = .slice none 0 0 ∧ L = []) ∨ ∃ g cap, v = .slice (some ⟨g, 0, none⟩) L.length cap ∧ L.length ≤ cap ∧ cap ≤ maxLen ∧ B ≤ g ∧ g < w.heap.size ∧ ∀ (k : Nat) t, L[k]? = some t → w.cell? ⟨g, k, none⟩ = some (.string t) := by
  rcases h.2 with ⟨rfl, h0⟩ | ⟨g, cap, cur, rfl, hgb, hg, hcap, hm, hsz, htk⟩
  · exact .inl ⟨rfl, List.eq_nil_of_length_eq_zero h0⟩
  · refine .inr ⟨g, cap, rfl, hcap, hm, hgb, (Array.getElem?_eq_some_iff.1 hg).1, fun k t ht => ?_⟩
    have hk := (List.getElem?_eq_some_iff.1 ht).1
    rw [cell_of_row w g k cur T (0, 0) hg]
    have h1 : (cur.toList.take (L.length * 1))[k]? = (L.map Value.string)[k]? := by rw [htk]
    rw [List.getElem?_take_of_lt (by omega), List.getElem?_map, ht] at h1
    simpa using h1
theorem one_str (t : ByteArray) : ∀ u ∈ [Value.string t], u.oneCell' = true := by
  intro u hu; simp at hu; subst hu; rfl
/-- A slice of texts: nil, or its cells (below the heap's end). -/
def isTexts (w : World) (v : Value) (ts : List ByteArray) : Prop :=
  (v = .slice none 0 0 ∧ ts = []) ∨ ∃ b o cap, v = .slice (some ⟨b, o, none⟩) ts.length cap ∧ b < w.heap.size ∧ ∀ (j : Nat) t, ts[j]? = some t → w.cell? ⟨b, o + j, none⟩ = some (.string t)
theorem own_texts {w : World} {B T : Nat} {v : Value} {L : List ByteArray} (h : w.ownsRow B T 1 v L.length (L.map Value.string)) : isTexts w v L := by
  rcases texts h with h | ⟨g, cap, h1, h2, h3, h4, h5, h6⟩
  · exact .inl h
  · exact .inr ⟨g, 0, cap, h1, h5, fun j t ht => by rw [Nat.zero_add]; exact h6 j t ht⟩
theorem take_texts {w : World} {g cap : Nat} {L : List ByteArray} (hg : g < w.heap.size) (hc : ∀ (k : Nat) t, L[k]? = some t → w.cell? ⟨g, k, none⟩ = some (.string t)) (n : Nat) (hn : n ≤ L.length) :
    isTexts w (.slice (some ⟨g, 0, none⟩) n cap) (L.take n) := by
  refine .inr ⟨g, 0, cap, by rw [List.length_take, Nat.min_eq_left hn], hg, fun j t ht => ?_⟩
  rw [Nat.zero_add]
  refine hc j t ?_
  have hj : j < n := by have := (List.getElem?_eq_some_iff.1 ht).1; rw [List.length_take] at this; omega
  rwa [List.getElem?_take_of_lt hj] at ht
theorem drop_texts {w : World} {g cap : Nat} {L : List ByteArray} (hg : g < w.heap.size) (hc : ∀ (k : Nat) t, L[k]? = some t → w.cell? ⟨g, k, none⟩ = some (.string t)) (n : Nat) :
    isTexts w (.slice (some ⟨g, n, none⟩) (L.length - n) cap) (L.drop n) := by
  refine .inr ⟨g, n, cap, by rw [List.length_drop], hg, fun j t ht => ?_⟩
  refine hc (n + j) t ?_
  rwa [List.getElem?_drop] at ht
theorem own_below {w w' : World} {B B' e size n : Nat} {v : Value} {xs : List Value} (h : w.ownsRow B e size v n xs) (hb : Below B' w w') (hB : ∀ k, v.ownBlock = some k → k < B') : w'.ownsRow B e size v n xs := by
  refine ⟨h.1, ?_⟩
  rcases h.2 with h0 | ⟨g, cap, cur, rfl, hgb, hg, rest⟩
  · exact .inl h0
  · exact .inr ⟨g, cap, cur, rfl, hgb, (hb.block g (hB g rfl)).trans hg, rest⟩
theorem own_call {w w' : World} {B e size n : Nat} {v : Value} {xs : List Value} (h : w.ownsRow B e size v n xs) (hb : Below w.heap.size w w') : w'.ownsRow B e size v n xs :=
  own_below h hb (fun k hk => (h.lt k hk).2)
theorem texts_call {w w' : World} {v : Value} {ts : List ByteArray} (h : isTexts w v ts) (hb : Below w.heap.size w w') : isTexts w' v ts := by
  rcases h with h | ⟨b, o, cap, rfl, hlt, hc⟩
  · exact .inl h
  · exact .inr ⟨b, o, cap, rfl, Nat.lt_of_lt_of_le hlt hb.size, fun j t ht => (hb.cell (p := ⟨b, o + j, none⟩) hlt).trans (hc j t ht)⟩
theorem below_drewN {B : Nat} {a w : World} (h : Below B a w) (q : Nat) : Below B a (w.drewN q) := h.trans ⟨rfl, rfl, rfl, Nat.le_refl _, fun _ _ => rfl⟩
/-- A slice of texts: its shape, and its cells in whatever world comes behind. -/
theorem texts_shape {w : World} {v : Value} {ts : List ByteArray} (h : isTexts w v ts) : ∃ a cap, v = .slice a ts.length cap := by
  rcases h with ⟨rfl, rfl⟩ | ⟨b, o, cap, rfl, _⟩ <;> exact ⟨_, _, rfl⟩
theorem own_textsN {w : World} {B T n : Nat} {v : Value} {L : List ByteArray} (h : w.ownsRow B T 1 v n (L.map Value.string)) (hn : L.length = n) : isTexts w v L := by
  subst hn; exact own_texts h
end Mem
end Go.Proofs.YtkfpfckmjgjanacDoor

