/- The walk of a route's step: one word of a text. -/
import Derived.Test.YtopipjfomnnjcaaWUnder
import Derived.Maps.AppendAt
namespace Go.Proofs.Ytopipjfomnnjcaa
open Go.RowKit
namespace Mem
theorem own_take {w : World} {B e : Nat} {g n cap : Nat} {xs : List Value} (h : w.ownsRow B e 1 (.slice (some ⟨g, 0, none⟩) n cap) n xs) (k : Nat) (hk : k ≤ n) : w.ownsRow B e 1 (.slice (some ⟨g, 0, none⟩) k cap) k (xs.take k) := by
  have hl := h.1
  rcases h.2 with ⟨h', _⟩ | ⟨g', cap', cur, h', hb, hg, hc, hm, hs, htk⟩
  · cases h'
  · cases h'
    refine ⟨by rw [List.length_take]; omega, .inr ⟨g, cap, cur, rfl, hb, hg, by omega, hm, hs, ?_⟩⟩
    rw [← htk, List.take_take]; congr 1; omega
theorem grown_refl (w : World) (r : Option Nat) : w.grownBy w r := ⟨rfl, rfl, rfl, Nat.le_refl _, fun _ _ _ => rfl⟩
theorem grown_alloc {w w1 : World} {o : Obj} {r : Option Nat} (h : (w.alloc o).grownBy w1 r) : w.grownBy w1 r :=
  ⟨h.os, h.tape, h.output, Nat.le_trans (by simp) h.size, fun k hk hne => (h.block k (by simp; omega) hne).trans (Below.heap_alloc _ _ _ hk)⟩
end Mem
namespace WStep
/-- What a step leaves: the names behind the word in a row of the call's own, or why not. -/
def Out (B : Nat) (v : Value) (h : List ByteArray) (t : ByteArray) (w : World) (e : Ending) (w' : World) : Prop :=
  w.grownBy w' v.ownBlock ∧
    ((∃ v' h', Pl.stepW h t = .ok h' ∧ e = .returned (.tuple #[v', .int .i64 0]) ∧ w'.ownsRow B 9 1 v' h'.length (h'.map Value.string) ∧ (v'.ownBlock = v.ownBlock ∨ ∃ k, v'.ownBlock = some k ∧ w.heap.size ≤ k)) ∨
     (∃ v' c, Pl.stepW h t = .error c ∧ e = .returned (.tuple #[v', .int .i64 c]) ∧ c ≠ 0))
set_option maxRecDepth 100000 in
set_option maxHeartbeats 400000 in
theorem any (B : Nat) (v : Value) (h : List ByteArray) (t : ByteArray) (w : World) (hB : B ≤ w.heap.size) (hown : w.ownsRow B 9 1 v h.length (h.map Value.string)) (hl : h.length ≤ 6) (ht : t.size ≤ 8000) :
    Calls Try.prog 75 #[v, .string t] w fun e w' => Out B v h t w e w' := by
  obtain ⟨i0, hi, hz0, hz1, hz2⟩ := info_parts WWords.infoS
  have hsh : ∃ a cap, v = .slice a h.length cap := by
    rcases Mem.texts hown with ⟨rfl, rfl⟩ | ⟨g, cap, rfl, _⟩ <;> exact ⟨_, _, rfl⟩
  by_cases h1 : Pl.by_ t = [] ∨ Pl.by_ t = [46]
  · have HS := hide (Pl.step_stay (h := h) h1)
    have HO := hide hown
    clear hown hsh
    by_cases h2 : Pl.by_ t = []
    · have d1 : t.toList.isEmpty = true := by rw [Pl.empty_list]; simp [h2]
      clear h1 h2
      go_enter Try.func75, Try.ntmps75
      go_wp2
      go_ret2
      exact ⟨Mem.grown_refl _ _, .inl ⟨v, h, unhide HS, rfl, unhide HO, .inl rfl⟩⟩
    · have d1 : t.toList.isEmpty = false := by rw [Pl.empty_list]; simp [h2]
      have d2 : (t.toList == [46]) = true := by rw [Pl.list_is]; simpa [h2] using h1
      clear h1 h2
      go_enter Try.func75, Try.ntmps75
      go_wp2
      go_ret2
      exact ⟨Mem.grown_refl _ _, .inl ⟨v, h, unhide HS, rfl, unhide HO, .inl rfl⟩⟩
  have d1 : t.toList.isEmpty = false := by rw [Pl.empty_list]; simp; exact fun e => h1 (.inl e)
  have d2 : (t.toList == [46]) = false := by rw [Pl.list_is]; simp; exact fun e => h1 (.inr e)
  by_cases h2 : Pl.by_ t = [46, 46]
  · have HS := hide (Pl.step_up (h := h) h1 h2)
    have d3 : (t.toList == [46, 46]) = true := by rw [Pl.list_is]; simpa using h2
    clear h1 h2 hsh
    rcases Mem.texts hown with ⟨rfl, rfl⟩ | ⟨g, cap, rfl, hcap, hm, hgb, hgl, hcell⟩
    · have HO := hide hown
      clear hown
      go_enter Try.func75, Try.ntmps75
      go_wp2
      go_ret2
      exact ⟨Mem.grown_refl _ _, .inl ⟨.slice none 0 0, [], unhide HS, rfl, unhide HO, .inl rfl⟩⟩
    · have hm2 := hm
      unfold maxLen at hm2
      clear hcell
      by_cases h0 : h.length = 0
      · obtain rfl : h = [] := List.eq_nil_of_length_eq_zero h0
        have HO := hide hown
        clear hown
        go_enter Try.func75, Try.ntmps75
        go_wp2
        go_ret2
        exact ⟨Mem.grown_refl _ _, .inl ⟨.slice (some ⟨g, 0, none⟩) 0 cap, [], unhide HS, rfl, unhide HO, .inl rfl⟩⟩
      · have HO : Hid (w.ownsRow B 9 1 (.slice (some ⟨g, 0, none⟩) (h.length - 1) cap) h.dropLast.length (h.dropLast.map Value.string)) := by
          show World.ownsRow _ _ _ _ _ _ _
          have := Mem.own_take hown (h.length - 1) (by omega)
          rw [List.length_dropLast, ← Pl.drop_last, List.map_take]; exact this
        have k1 : (0 : Int) ≤ (h.length : Int) - 1 := by omega
        have k2 : (h.length : Int) - 1 ≤ (cap : Int) := by omega
        clear hown
        go_enter Try.func75, Try.ntmps75
        go_wp2
        go_ret2
        exact ⟨Mem.grown_refl _ _, .inl ⟨.slice (some ⟨g, 0, none⟩) (h.length - 1) cap, h.dropLast, unhide HS, rfl, unhide HO, .inl rfl⟩⟩
  have d3 : (t.toList == [46, 46]) = false := by rw [Pl.list_is]; simpa using h2
  have hnr := hide (fun W => WName.impl_any t W (by unfold maxLen; omega))
  obtain ⟨va, vc, rfl⟩ := hsh
  cases h3 : Pl.nameB t
  · have HS := hide (Pl.step_bad (h := h) h1 h2 h3)
    have HN := hide h3
    clear h1 h2 h3 hown
    go_enter Try.func75, Try.ntmps75
    go_wp2_with (go_at_call 59; refine (unhide hnr _).mono ?_; rw [unhide HN]; rintro e w' ⟨rfl, hw⟩; obtain rfl := hw.symm)
    go_ret2
    exact ⟨Mem.grown_refl _ _, .inr ⟨.slice none 0 0, 3, unhide HS, rfl, by omega⟩⟩
  · have HN := hide h3
    by_cases h4 : h.length = 6
    · have HS := hide (Pl.step_full (h := h) h1 h2 (by simp [h3]) h4)
      have t6 : ((h.length : Int) == 6) = true := by rw [beq_iff_eq]; omega
      clear h1 h2 h3 hown h4
      go_enter Try.func75, Try.ntmps75
      go_wp2_with (go_at_call 59; refine (unhide hnr _).mono ?_; rw [unhide HN]; rintro e w' ⟨rfl, hw⟩; obtain rfl := hw.symm)
      go_ret2
      exact ⟨Mem.grown_refl _ _, .inr ⟨.slice none 0 0, 9, unhide HS, rfl, by omega⟩⟩
    · have HS := hide (Pl.step_into (h := h) h1 h2 (by simp [h3]) h4)
      have t6 : ((h.length : Int) == 6) = false := by rw [beq_eq_false_iff_ne]; omega
      clear h1 h2 h3 h4
      go_enter Try.func75, Try.ntmps75
      go_wp2_with (first | (go_at_call 59; refine (unhide hnr _).mono ?_; rw [unhide HN]; rintro e w' ⟨rfl, hw⟩; obtain rfl := hw.symm) | (at_builtin; refine wpList_append_own_at _ rfl _ _ 53 rfl B 9 i0 (.string ⟨#[]⟩) 1 16 Try.underlying53 hi hz0 hz1 hz2 rfl (by decide) _ _ _ rfl (hown.alloc _) ⟨w.heap.size, 0, none⟩ 1 1 [.string t] rfl rfl (Mem.one_new _ _ _) (Mem.one_str _) (by unfold maxLen; omega) (by omega) (by simp; omega) ?_))
      intro v' w2 hown' hgrow _ hat
      have HO : Hid (w2.ownsRow B 9 1 v' (h ++ [t]).length ((h ++ [t]).map Value.string)) := by
        show World.ownsRow _ _ _ _ _ _ _
        simpa using hown'
      have HG := hide (Mem.grown_alloc hgrow)
      have HA : Hid (v'.ownBlock = Value.ownBlock (.slice va h.length vc) ∨ ∃ k, v'.ownBlock = some k ∧ w.heap.size ≤ k) := by
        rcases hat with hat | hat
        · exact .inl hat
        · exact .inr ⟨_, hat, by simp⟩
      clear hgrow hown hown' hat
      go_wp2
      go_ret2
      exact ⟨unhide HG, .inl ⟨v', h ++ [t], unhide HS, rfl, unhide HO, unhide HA⟩⟩
end WStep
end Go.Proofs.Ytopipjfomnnjcaa
