/- The walks of the draws: a source of numbers from bytes. What is drawn is not said, only its bounds; what was there stays. -/
import Derived.Test.YteddcihodfkliaaGreatDoorPartA
import Derived.Test.YteddcihodfkliaaGreatDoorProg
import Derived.WalkSpells
import Derived.Deep.QuietTactic
import Derived.BigQuiet
import Derived.RegionTactic
import Derived.ChangeAlike
import Derived.Deep.RegionHeld3
namespace Go.Proofs.YteddcihodfkliaaGreatDoor
open Go.RowKit
namespace WSrc
/-- A slice of bytes that came in, below S. -/
def RowB (w : World) (S : Nat) (a : Option Addr) (len cap : Nat) : Prop :=
  len ≤ cap ∧ cap ≤ maxLen ∧ ∀ i, i < len → ∃ b o n : Nat, a = some ⟨b, o, none⟩ ∧ b < S ∧ n < 256 ∧ w.cell? ⟨b, o + i, none⟩ = some (.int .u8 (n : Int))
/-- A source at block S. -/
def Src (w : World) (S : Nat) (a : Option Addr) (len cap : Nat) : Prop :=
  RowB w S a len cap ∧ ∃ (p : Nat) (m sz : Int), w.heap[S]? = some (.cells #[.slice a len cap, .int .i64 (p : Int), .int .u64 m, .int .i64 sz] 122 (0, 0)) ∧ p ≤ len ∧ 0 ≤ sz ∧ sz ≤ 12
theorem cell_heap {w w' : World} {b o : Nat} (h : w'.heap[b]? = w.heap[b]?) : w'.cell? ⟨b, o, none⟩ = w.cell? ⟨b, o, none⟩ := by simp [World.cell?, h]
theorem low {x most : Int} (h1 : 1 < most) (h2 : most ≤ 1099511627776) : 0 ≤ wrap64 ((IntKind.u64.wrap x).tmod most) ∧ wrap64 ((IntKind.u64.wrap x).tmod most) < most := by
  have h0 : 0 ≤ IntKind.u64.wrap x := by simp [IntKind.wrap, IntKind.bits, IntKind.signed]; omega
  have h3 := Int.tmod_nonneg most h0
  have h4 := Int.tmod_lt_of_pos (IntKind.u64.wrap x) (show 0 < most by omega)
  rw [show wrap64 ((IntKind.u64.wrap x).tmod most) = (IntKind.u64.wrap x).tmod most from by unfold wrap64; omega]
  exact ⟨h3, h4⟩
theorem src_keep {w w' : World} {S len cap : Nat} {a : Option Addr} (hr : RowB w S a len cap) (hS : S < w.heap.size) (hg : w.grownBy w' (some S)) : RowB w' S a len cap :=
  ⟨hr.1, hr.2.1, fun i hi => by
    obtain ⟨b, o, n, h1, h2, h3, h4⟩ := hr.2.2 i hi
    exact ⟨b, o, n, h1, h2, h3, (cell_heap (hg.block b (by omega) (fun e => by cases e; omega))).trans h4⟩⟩
theorem size_set (w : World) (a : Addr) (v : Value) : (w.setCell a v).heap.size = w.heap.size := by simp [World.setCell]
theorem grown_set {w w1 : World} {S j : Nat} {v : Value} (h : w.grownBy w1 (some S)) : w.grownBy (w1.setCell ⟨S, j, none⟩ v) (some S) :=
  ⟨h.os, h.tape, h.output, by rw [size_set]; exact h.size, fun k hk hne => (Below.heap_setCell _ _ _ _ (fun e => hne (by rw [e]))).trans (h.block k hk hne)⟩
theorem grown_drew {w w1 : World} {r : Option Nat} (h : w.grownBy w1 r) : w.grownBy w1.drew r := ⟨h.os, h.tape, h.output, h.size, h.block⟩
theorem grown_drewN {w w1 : World} {r : Option Nat} (h : w.grownBy w1 r) (q : Nat) : w.grownBy (w1.drewN q) r := ⟨h.os, h.tape, h.output, h.size, h.block⟩
theorem heap_drew {w : World} {S : Nat} {o : Obj} (h : w.heap[S]? = some o) : w.drew.heap[S]? = some o := h
theorem heap_drewN {w : World} {S q : Nat} {o : Obj} (h : w.heap[S]? = some o) : (w.drewN q).heap[S]? = some o := h
theorem done {w w1 : World} {S len cap p : Nat} {a : Option Addr} {v : Value} {m sz : Int} {C : Array Value} (hr : RowB w S a len cap) (hS : S < w.heap.size) (hp : p ≤ len) (hz0 : 0 ≤ sz) (hz1 : sz ≤ 12) (hg : w.grownBy w1 (some S))
    (hb : w1.heap[S]? = some (.cells C 122 (0, 0))) (hC : C = #[.slice a len cap, .int .i64 (p : Int), v, .int .i64 sz]) (hv : v = .int .u64 m) : Src w1 S a len cap ∧ w.grownBy w1 (some S) :=
  ⟨⟨src_keep hr hS hg, p, m, sz, by rw [hb, hC, hv], hp, hz0, hz1⟩, hg⟩
theorem grown_refl (w : World) (r : Option Nat) : w.grownBy w r := ⟨rfl, rfl, rfl, Nat.le_refl _, fun _ _ _ => rfl⟩
set_option maxRecDepth 100000 in
set_option maxHeartbeats 400000 in
theorem n_big (S : Nat) (a : Option Addr) (len cap : Nat) (most : Int) (w : World) (hs : Src w S a len cap) (hm : most ≤ 1099511627776) :
    Calls Tryz.prog 70 #[.pointer (some ⟨S, 0, none⟩), .int .i64 most] w fun e w' => ∃ r : Int, e = .returned (.int .i64 r) ∧ 0 ≤ r ∧ (r = 0 ∨ r < most) ∧ Src w' S a len cap ∧ w.grownBy w' (some S) := by
  by_cases h1 : most ≤ 1
  · go_enter Tryz.func70, Tryz.ntmps70
    go_wp2
    go_ret
    exact ⟨0, rfl, by omega, .inl rfl, hs, grown_refl _ _⟩
  obtain ⟨hrow, p, m, sz, hb, hp, hz0, hz1⟩ := hs
  have hS : S < w.heap.size := (Array.getElem?_eq_some_iff.1 hb).1
  have c0 : w.cell? ⟨S, 0, none⟩ = some (.slice a len cap) := by rw [cell_of_row w S 0 _ _ (0, 0) hb]; rfl
  have c1 : w.cell? ⟨S, 1, none⟩ = some (.int .i64 (p : Int)) := by rw [cell_of_row w S 1 _ _ (0, 0) hb]; rfl
  have c2 : w.cell? ⟨S, 2, none⟩ = some (.int .u64 m) := by rw [cell_of_row w S 2 _ _ (0, 0) hb]; rfl
  have f0 : ∀ j, w.frozen? ⟨S, j, none⟩ = false := fun j => Mem.row_frozen hb
  have HB := hide hb
  have HR := hide hrow
  have f1 := f0 1
  have f2 := f0 2
  have hl : (len : Int) ≤ 9223372036854775807 := by have h1 := hrow.2.1; have h2 := hrow.1; unfold maxLen at h1; omega
  by_cases hlt : p < len
  · obtain ⟨b, o, n, rfl, hbS, hn, hc⟩ := hrow.2.2 p hlt
    have t1 : (p : Int) < (len : Int) := by omega
    have k2 : ∀ q v1 v2, (((w.drewN q).setCell ⟨S, 1, none⟩ v1).setCell ⟨S, 2, none⟩ v2).cell? ⟨S, 2, none⟩ = some v2 := fun q v1 v2 => World.cell?_setCell_same' _ _ _ (by rw [World.cell?_setCell_other _ _ _ _ (by simp)]; simp [c2])
    have k3 : ∀ q v1 v2 v3, ((((w.drewN q).setCell ⟨S, 1, none⟩ v1).setCell ⟨S, 2, none⟩ v2).setCell ⟨S, 2, none⟩ v3).cell? ⟨S, 2, none⟩ = some v3 := fun q v1 v2 v3 => World.cell?_setCell_same' _ _ _ (by rw [k2]; rfl)
    clear hb hrow f0
    go_enter Tryz.func70, Tryz.ntmps70
    go_wp2
    go_quiet (fail)
    go_wp2
    go_quiet (fail)
    go_wp2
    go_region
    go_wp2
    go_region
    go_wp2
    go_region
    go_wp2
    go_ret
    refine ⟨_, rfl, (low (by omega) hm).1, .inr (low (by omega) hm).2, ?_⟩
    exact done (p := p + 1) (sz := sz) (unhide HR) hS (by omega) hz0 hz1 (by repeat (first | exact grown_refl _ _ | apply grown_drew | apply grown_drewN | apply grown_set))
      (heap_drew (heap_drew (heap_drew (heap_setCell_same _ S 2 _ _ _ (heap_setCell_same _ S 2 _ _ _ (heap_setCell_same _ S 2 _ _ _ (heap_setCell_same _ S 1 _ _ _ (heap_drewN (unhide HB))))))))) rfl rfl
  · have t1 : ¬ (p : Int) < (len : Int) := by omega
    have k2 : ∀ q v2, ((w.drewN q).setCell ⟨S, 2, none⟩ v2).cell? ⟨S, 2, none⟩ = some v2 := fun q v2 => World.cell?_setCell_same' _ _ _ (by simp [c2])
    have k3 : ∀ q v2 v3, (((w.drewN q).setCell ⟨S, 2, none⟩ v2).setCell ⟨S, 2, none⟩ v3).cell? ⟨S, 2, none⟩ = some v3 := fun q v2 v3 => World.cell?_setCell_same' _ _ _ (by rw [k2]; rfl)
    clear hb hrow f0
    go_enter Tryz.func70, Tryz.ntmps70
    go_wp2
    go_quiet (fail)
    go_wp2
    go_region
    go_wp2
    go_region
    go_wp2
    go_region
    go_wp2
    go_ret
    refine ⟨_, rfl, (low (by omega) hm).1, .inr (low (by omega) hm).2, ?_⟩
    exact done (p := p) (sz := sz) (unhide HR) hS (by omega) hz0 hz1 (by repeat (first | exact grown_refl _ _ | apply grown_drew | apply grown_drewN | apply grown_set))
      (heap_drew (heap_drew (heap_setCell_same _ S 2 _ _ _ (heap_setCell_same _ S 2 _ _ _ (heap_setCell_same _ S 2 _ _ _ (heap_drewN (unhide HB))))))) rfl rfl
theorem n_any (S : Nat) (a : Option Addr) (len cap : Nat) (most : Int) (w : World) (hs : Src w S a len cap) (hm : most ≤ 1048576) :
    Calls Tryz.prog 70 #[.pointer (some ⟨S, 0, none⟩), .int .i64 most] w fun e w' => ∃ r : Int, e = .returned (.int .i64 r) ∧ 0 ≤ r ∧ (r = 0 ∨ r < most) ∧ Src w' S a len cap ∧ w.grownBy w' (some S) :=
  n_big S a len cap most w hs (by omega)
end WSrc
end Go.Proofs.YteddcihodfkliaaGreatDoor
