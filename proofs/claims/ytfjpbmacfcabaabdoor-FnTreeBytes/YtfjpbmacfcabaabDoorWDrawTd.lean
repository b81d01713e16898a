/- The walk of the draw DrawTreeRead: the bytes of a tree, changed a little, as a rule. -/
import Derived.Test.YtfjpbmacfcabaabDoorWDrawTr
import Derived.Test.YtfjpbmacfcabaabDoorPartH
import Derived.Test.YtfjpbmacfcabaabDoorPartG
namespace Go.Proofs.YtfjpbmacfcabaabDoor
open Go.RowKit
namespace Pl
theorem bytes_size (L : List Nd) : (treeBytes L).size ≤ 8000 := by
  unfold treeBytes
  split
  · split
    · exact Nat.zero_le _
    · omega
  · exact Nat.zero_le _
end Pl
namespace WSrc
theorem on_r {w w1 w2 : World} (hb : Below w.heap.size w w1) (hg : w1.grownBy w2 (some w.heap.size)) : Below w.heap.size w w2 :=
  hb.grown hg hb.size (fun k e => by cases e; exact Nat.le_refl _)
set_option linter.unusedSimpArgs false in
set_option maxRecDepth 100000 in
set_option maxHeartbeats 2000000 in
theorem drawRead_any (a : Option Addr) (len cap : Nat) (w : World) (hr : RowB w w.heap.size a len cap) :
    Calls Tryd.prog 6 #[.slice a len cap] w fun e w' => ∃ u : ByteArray, u.size ≤ 8001 ∧ e = .returned (.string u) ∧ Below w.heap.size w w' := by
  have h0 := hide (source_any a len cap w hr)
  clear hr
  go_enter Tryd.func6, Tryd.ntmps6
  go_wp2_with fail
  refine (unhide h0).mono ?_
  rintro e w1 ⟨rfl, hs, b1⟩
  clear h0
  go_wp2_with fail
  refine (tree_any w.heap.size a len cap _ hs).mono ?_
  rintro e w2 ⟨va, vc, L, hl, hsm, rfl, tv, s2, g2⟩
  have b2 := on_r b1 g2
  have hB := hide (WBytesT.spec_any va vc L w2 (by omega) tv.1 (Pl.small_ok hsm))
  have hT := Pl.bytes_size L
  generalize Pl.treeBytes L = T at hB hT
  clear hs g2 b1 tv hsm
  go_wp2_with fail
  refine (unhide hB).mono ?_
  rintro e w3 ⟨rfl, b3⟩
  have s3 := src_below s2 b3
  have b4 := b2.trans (b3.mono b2.size)
  clear hB s2 b2 b3
  go_wp2_with fail
  refine (n_any w.heap.size a len cap 4 _ s3 (by omega)).mono ?_
  rintro e w4 ⟨r, rfl, r0, r1, s4, g4⟩
  have b5 := on_r b4 g4
  clear s3 g4 b4
  have hr : r = 0 ∨ r = 1 ∨ (¬ r = 0 ∧ ¬ r = 1) := by omega
  clear r0 r1
  rcases hr with rfl | rfl | ⟨q0, q1⟩
  · go_wp2_with fail
    refine (spoil_any w.heap.size a len cap T _ s4 hT).mono ?_
    rintro e w5 ⟨u, hu, rfl, s5, g5⟩
    go_wp2
    go_ret
    exact ⟨u, hu, rfl, on_r b5 g5⟩
  · have h1 := hide (n_any w.heap.size a len cap ((T.size : Int) + 1) w4 s4 (by omega))
    go_wp2_with fail
    refine (unhide h1).mono ?_
    rintro e w5 ⟨r, rfl, r0, r1, s5, g5⟩
    obtain ⟨k, rfl⟩ : ∃ k : Nat, r = (k : Int) := ⟨r.toNat, by omega⟩
    have kz : (0 : Int) ≤ (k : Int) := by omega
    have kt : (k : Int) ≤ (T.size : Int) := by omega
    clear h1
    go_wp2
    go_ret
    exact ⟨_, by simp only [ByteArray.size_extract]; omega, rfl, on_r b5 g5⟩
  · have p0 : (r == 0) = false := by simpa using q0
    have p1 : (r == 1) = false := by simpa using q1
    go_wp2
    go_ret
    exact ⟨T, by omega, rfl, b5⟩
end WSrc
end Go.Proofs.YtfjpbmacfcabaabDoor
