/- The walks of the laws' own lwTree (over the same nodes) and lwTrees. -/
import Derived.Test.YtibmflhelgedeaaGreatDoorWTreeR
import Derived.Test.YtibmflhelgedeaaGreatDoorG02
import Derived.Deep.QuietTactic
import Derived.BigQuiet
namespace Go.Proofs.YtibmflhelgedeaaGreatDoor
open Go.RowKit
namespace WLw
set_option linter.unusedSimpArgs false in
set_option maxRecDepth 100000 in
set_option maxHeartbeats 2000000 in
theorem tree_any (a b : Option Addr) (c1 c2 : Nat) (L : List Pl.Nd) (w : World) (hA : L.length ≤ 1048576) (hv : Mem.isNodes w a L) (hu : Mem.isNodes w b L) :
    Calls Tryz.prog 27 #[.agg #[.slice a L.length c1], .agg #[.slice b L.length c2]] w fun e w' => e = .returned (.bool true) ∧ Below w.heap.size w w' := by
  have b0 : Below w.heap.size w ((w.alloc (.cells #[.slice a L.length c1] 25)).alloc (.cells #[.slice b L.length c2] 25)) := ((Below.refl _ _).alloc (Nat.le_refl _) _).alloc (by simp) _
  have HV := hide hv
  have HU := hide hu
  clear hv hu
  go_enter Tryz.func27, Tryz.ntmps27
  go_wp2
  go_loopw [5] (fun i wr => ∃ k : Nat, k ≤ L.length ∧ i = .int .i64 (k : Int) ∧ Below w.heap.size w wr ∧ Hid (Mem.Var wr w.heap.size [.slice a L.length c1]) ∧ Hid (Mem.Var wr (w.heap.size + 1) [.slice b L.length c2])) (fun i _ => L.length - (intOf i).toNat)
  case atStart =>
    refine ⟨0, Nat.zero_le _, rfl, b0, ?_, ?_⟩
    · exact hide (Mem.var_alloc (Mem.var_new w [.slice a L.length c1] 25) _)
    · have h := Mem.var_new (w.alloc (.cells #[.slice a L.length c1] 25)) [.slice b L.length c2] 25
      rw [show (w.alloc (.cells #[.slice a L.length c1] 25)).heap.size = w.heap.size + 1 by simp] at h
      exact hide h
  case round =>
    obtain ⟨k, hk, rfl, hbel, V1, V2⟩ := hrel
    have cv1 := (unhide V1).2 0 _ rfl
    have cv2 := (unhide V2).2 0 _ rfl
    by_cases hlt : k < L.length
    · obtain ⟨n, hn⟩ : ∃ n, L[k]? = some n := ⟨_, List.getElem?_eq_getElem hlt⟩
      have y1 : (k : Int) < (L.length : Int) := by omega
      have y3 : (0 : Int) ≤ (k : Int) := by omega
      obtain ⟨g, o, rfl, hg, q0, q1, q2, q3, q4⟩ := (Mem.nodes_call (unhide HV) hbel) k n hn
      obtain ⟨g2, o2, rfl, hg2, p0, p1, p2, p3, p4⟩ := (Mem.nodes_call (unhide HU) hbel) k n hn
      obtain ⟨np, nk, nd, nt, nm⟩ := n
      simp only at q0 q1 q2 q3 q4 p0 p1 p2 p3 p4
      clear hn HV HU b0
      go_wp2
      go_quiet (fail)
      go_wp2
      go_roundw
      case rel => exact ⟨k + 1, by omega, by go_num, Mem.below_drewN hbel _, unhide V1, unhide V2⟩
      case measure => simp [intOf]; omega
    · have y1 : ¬ (k : Int) < (L.length : Int) := by omega
      go_wp2
      go_ret
      exact ⟨rfl, hbel⟩
set_option linter.unusedSimpArgs false in
set_option maxRecDepth 100000 in
set_option maxHeartbeats 2000000 in
theorem trees_any (a b : Option Addr) (c1 c2 : Nat) (C : Int) (L : List Pl.Nd) (w : World) (hA : L.length ≤ 1048576) (hv : Mem.isNodes w a L) (hu : Mem.isNodes w b L) (hok : ∀ n ∈ L, n.path.size ≤ 1048576 ∧ n.data.size ≤ 1048576) (hr : C = 0 → Pl.treeB L = true) :
    Calls Tryz.prog 16 #[.agg #[.slice a L.length c1, .int .i64 C], .agg #[.slice b L.length c2, .int .i64 C]] w fun e w' => e = .returned (.bool true) ∧ Below w.heap.size w w' := by
  have b0 : Below w.heap.size w ((w.alloc (.cells #[.slice a L.length c1, .int .i64 C] 31)).alloc (.cells #[.slice b L.length c2, .int .i64 C] 31)) := ((Below.refl _ _).alloc (Nat.le_refl _) _).alloc (by simp) _
  have B1 := hide ((Mem.Blk.new w #[.slice a L.length c1, .int .i64 C] 31).alloc (.cells #[.slice b L.length c2, .int .i64 C] 31))
  have B2 : Hid (Mem.Blk ((w.alloc (.cells #[.slice a L.length c1, .int .i64 C] 31)).alloc (.cells #[.slice b L.length c2, .int .i64 C] 31)) (w.heap.size + 1) #[.slice b L.length c2, .int .i64 C] 31) := Mem.new_two _ _ _
  have HT := hide (tree_any a b c1 c2 L _ hA (Mem.nodes_call hv b0) (Mem.nodes_call hu b0))
  have HR := hide (fun W (b : Below w.heap.size w W) => WTreeS.right_tree a c1 L W hA (Mem.nodes_call hv b) hok)
  clear hv hu hok
  have x0 := (unhide B1).cell 0
  have x1 := (unhide B1).cell 1
  have y0 := (unhide B2).cell 0
  have y1 := (unhide B2).cell 1
  simp only [kA0, kA1, kA2] at x0 x1 y0 y1
  go_enter Tryz.func16, Tryz.ntmps16
  go_wp2_with fail
  refine (unhide HT).mono ?_
  rintro e w1 ⟨rfl, b1⟩
  have B3 := hide ((unhide B1).call b1)
  have bw1 := b0.trans (b1.mono b0.size)
  clear HT x0 x1 y0 y1 B1 B2 b1 b0
  have x0 := (unhide B3).cell 0
  have x1 := (unhide B3).cell 1
  simp only [kA0, kA1, kA2] at x0 x1
  by_cases h0 : C = 0
  · subst h0
    have hr' := hide (hr rfl)
    clear hr
    rw [unhide hr'] at HR
    go_wp2_with fail
    refine (unhide HR _ bw1).mono ?_
    rintro e w2 ⟨rfl, b2⟩
    go_wp2
    go_ret
    exact ⟨rfl, bw1.trans (b2.mono bw1.size)⟩
  · clear HR hr
    go_wp2
    go_ret
    exact ⟨rfl, bw1⟩
end WLw
end Go.Proofs.YtibmflhelgedeaaGreatDoor
