/- Several texts of one claim in one file: WAllS, WMaxS. -/
import Derived.Test.YteddcihodfkliaaGreatDoorPartA
import Derived.Test.YteddcihodfkliaaGreatDoorProg
import Derived.WalkKit
import Derived.WalkSpells
/- The specification's l04All: the numbers of all layers. -/
namespace Go.Proofs.YteddcihodfkliaaGreatDoor
open Go.RowKit
namespace WPick
theorem infoI : (Tryz.prog.info? 3).map (fun i => (i.zero, i.size, i.bytes)) = some (some (.int .i64 0), 1, 8) := by kernel_rfl
def intsV (ks : List Nat) : List Value := ks.map (fun k : Nat => Value.int .i64 (k : Int))
/-- A row of numbers of the call's own. -/
def ownI (w : World) (B : Nat) (v : Value) (ks : List Nat) : Prop := w.ownsRow B 3 1 v ks.length (intsV ks)
theorem ownI_call {w w' : World} {B : Nat} {v : Value} {ks : List Nat} (h : ownI w B v ks) (b : Below w.heap.size w w') : ownI w' B v ks := by
  refine ⟨h.1, ?_⟩
  rcases h.2 with h0 | ⟨g, cap, cur, hv, hb, hg, rest⟩
  · exact .inl h0
  · exact .inr ⟨g, cap, cur, hv, hb, (b.block g (Array.getElem?_eq_some_iff.1 hg).1).trans hg, rest⟩
theorem ownI_snoc {w : World} {B : Nat} {v : Value} {ks : List Nat} {k : Nat} (h : w.ownsRow B 3 1 v (ks.length + 1) (intsV ks ++ [.int .i64 (k : Int)])) : ownI w B v (ks ++ [k]) := by
  unfold ownI intsV
  rw [List.map_append, List.length_append]
  exact h
set_option linter.unusedSimpArgs false in
set_option maxRecDepth 100000 in
set_option maxHeartbeats 1000000 in
theorem all_any (n : Nat) (w : World) (hn : n ≤ 4) :
    Calls Tryz.prog 56 #[.int .i64 (n : Int)] w fun e w' => ∃ v, e = .returned v ∧ ownI w' w.heap.size v (List.range n) ∧ Below w.heap.size w w' := by
  obtain ⟨i0, hi, hz0, hz1, hz2⟩ := info_parts infoI
  have A0 : Hid (Below w.heap.size w (w.alloc (.cells #[] 3)) ∧ ownI (w.alloc (.cells #[] 3)) w.heap.size (.slice (some ⟨w.heap.size, 0, none⟩) 0 0) (List.range 0)) := ⟨(Below.refl _ _).alloc (Nat.le_refl _) _, ⟨rfl, .inr ⟨w.heap.size, 0, #[], rfl, Nat.le_refl _, heap_alloc_new _ _, Nat.le_refl _, Nat.zero_le _, rfl, rfl⟩⟩⟩
  go_enter Tryz.func56, Tryz.ntmps56
  go_wp2
  go_loopw [3, 4] (fun v i wr => ∃ k : Nat, k ≤ n ∧ i = .int .i64 (k : Int) ∧ Hid (Below w.heap.size w wr ∧ ownI wr w.heap.size v (List.range k))) (fun _ i _ => n - (intOf i).toNat)
  case atStart => exact ⟨0, Nat.zero_le _, rfl, A0⟩
  case round =>
    obtain ⟨k, hk, rfl, HA⟩ := hrel
    clear A0
    by_cases hlt : k < n
    · have y1 : (k : Int) < (n : Int) := by omega
      have bA : Below wr.heap.size wr (wr.alloc (.cells #[.int .i64 (k : Int)] 3)) := (Below.refl _ _).alloc (Nat.le_refl _) _
      have HR := hide (ownI_call (unhide HA).2 bA)
      have HQ := hide (fun w2 h2 => Mem.below_append (o := .cells #[.int .i64 (k : Int)] 3) (w1 := w2) (unhide HA).1 (Nat.le_refl _) (unhide HA).2 h2)
      have HSB := hide (unhide HA).1.size
      unfold ownI at HR
      rw [List.length_range] at HR
      clear HA bA
      go_wp2_with (at_builtin; refine wpList_append_own _ rfl _ _ 90 rfl w.heap.size 3 i0 (.int .i64 0) 1 8 Tryz.underlying90 hi hz0 hz1 hz2 rfl (by decide) _ _ _ rfl (unhide HR) ⟨wr.heap.size, 0, none⟩ 1 1 [.int .i64 (k : Int)] rfl rfl (Mem.one_new _ _ _) (fun u hu => by simp at hu; subst hu; rfl) (by unfold maxLen; omega) (by omega) (by have := unhide HSB; simp; omega) ?_)
      intro v' w2 own' hgrow _
      have A2 : Hid (Below w.heap.size w w2 ∧ ownI w2 w.heap.size v' (List.range (k + 1))) := ⟨unhide HQ w2 hgrow, by rw [List.range_succ]; exact ownI_snoc (by rw [List.length_range]; exact own')⟩
      clear HR HQ own' hgrow HSB
      go_wp2
      go_roundw
      case rel => exact ⟨k + 1, by omega, by go_num, A2⟩
      case measure => simp [intOf]; omega
    · obtain rfl : k = n := by omega
      have y1 : ¬ ((k : Int) < (k : Int)) := by omega
      go_wp2
      go_ret
      exact ⟨_, rfl, (unhide HA).2, (unhide HA).1⟩
end WPick
end Go.Proofs.YteddcihodfkliaaGreatDoor

/- The specification's l01Max. -/
namespace Go.Proofs.YteddcihodfkliaaGreatDoor
open Go.RowKit
namespace WPick
set_option maxRecDepth 100000 in
theorem max_any (x y : Int) (w : World) : Calls Tryz.prog 161 #[.int .i64 x, .int .i64 y] w fun e w' => e = .returned (.int .i64 (max x y)) ∧ w' = w := by
  by_cases h : y < x
  · go_enter Tryz.func161, Tryz.ntmps161
    go_wp2
    go_ret
    exact ⟨by rw [show max x y = x by omega]; rfl, rfl⟩
  · go_enter Tryz.func161, Tryz.ntmps161
    go_wp2
    go_ret
    exact ⟨by rw [show max x y = y by omega]; rfl, rfl⟩
end WPick
end Go.Proofs.YteddcihodfkliaaGreatDoor

