/- The walks of eqNode, eqNodeS and eqTree. -/
import Derived.Test.YtopipjfomnnjcarMemVars
import Derived.Test.YtopipjfomnnjcarMemNodes
import Derived.Test.YtopipjfomnnjcarProg
import Derived.WalkKit
import Derived.WalkSpells
import Derived.Outline
import Derived.Deep.RegionHeld3
namespace Go.Proofs.Ytopipjfomnnjcar
open Go.RowKit
namespace WLaw
set_option maxRecDepth 100000 in
theorem eqNode_any (n : Pl.Nd) (w : World) :
    Calls Try.prog 15 #[n.val, n.val] w fun e w' => e = .returned (.bool true) ∧ Below w.heap.size w w' := by
  obtain ⟨p, k, d, t, m⟩ := n
  simp only [Pl.Nd.val]
  go_enter Try.func15, Try.ntmps15
  go_wp2
  go_ret
  exact ⟨rfl, ((Below.refl _ _).alloc (Nat.le_refl _) _).alloc (by simp) _⟩
set_option maxRecDepth 100000 in
set_option maxHeartbeats 400000 in
theorem eqNodeS_any (a b : Option Addr) (c1 c2 : Nat) (L : List Pl.Nd) (w : World) (hl : L.length ≤ 1048576) (hv : Mem.isNodes w a L) (hu : Mem.isNodes w b L) :
    Calls Try.prog 14 #[.slice a L.length c1, .slice b L.length c2] w fun e w' => e = .returned (.bool true) ∧ Below w.heap.size w w' := by
  have HV := hide hv
  have HU := hide hu
  clear hv hu
  go_enter Try.func14, Try.ntmps14
  go_wp2
  go_loopw [5] (fun i wr => ∃ k : Nat, k ≤ L.length ∧ i = .int .i64 (k : Int) ∧ Below w.heap.size w wr) (fun i _ => L.length - (intOf i).toNat)
  case atStart => exact ⟨0, Nat.zero_le _, rfl, Below.refl _ _⟩
  case round =>
    obtain ⟨k, hk, rfl, hbel⟩ := hrel
    by_cases hlt : k < L.length
    · obtain ⟨n, hn⟩ : ∃ n, L[k]? = some n := ⟨_, List.getElem?_eq_getElem hlt⟩
      obtain ⟨g, o, rfl, hg, q0, q1, q2, q3, q4⟩ := (unhide HV) k n hn
      obtain ⟨g2, o2, rfl, hg2, p0, p1, p2, p3, p4⟩ := (unhide HU) k n hn
      have c0 := (hbel.cell (p := ⟨g, _, none⟩) hg).trans q0
      have c1 := (hbel.cell (p := ⟨g, _, none⟩) hg).trans q1
      have c2 := (hbel.cell (p := ⟨g, _, none⟩) hg).trans q2
      have c3 := (hbel.cell (p := ⟨g, _, none⟩) hg).trans q3
      have c4 := (hbel.cell (p := ⟨g, _, none⟩) hg).trans q4
      have d0 := (hbel.cell (p := ⟨g2, _, none⟩) hg2).trans p0
      have d1 := (hbel.cell (p := ⟨g2, _, none⟩) hg2).trans p1
      have d2 := (hbel.cell (p := ⟨g2, _, none⟩) hg2).trans p2
      have d3 := (hbel.cell (p := ⟨g2, _, none⟩) hg2).trans p3
      have d4 := (hbel.cell (p := ⟨g2, _, none⟩) hg2).trans p4
      have hz := hide (fun W => eqNode_any n W)
      have MK : Hid (∀ W', Below w.heap.size w W' → (Below w.heap.size w W' ∧ W'.cell? ⟨g, o + k * 5, none⟩ = some (.string n.path) ∧ W'.cell? ⟨g, o + k * 5 + 1, none⟩ = some (.int .i64 n.kind) ∧ W'.cell? ⟨g, o + k * 5 + 2, none⟩ = some (.string n.data) ∧ W'.cell? ⟨g, o + k * 5 + 3, none⟩ = some (.int .i64 n.time) ∧ W'.cell? ⟨g, o + k * 5 + 4, none⟩ = some (.int .i64 n.mark) ∧ W'.cell? ⟨g2, o2 + k * 5, none⟩ = some (.string n.path) ∧ W'.cell? ⟨g2, o2 + k * 5 + 1, none⟩ = some (.int .i64 n.kind) ∧ W'.cell? ⟨g2, o2 + k * 5 + 2, none⟩ = some (.string n.data) ∧ W'.cell? ⟨g2, o2 + k * 5 + 3, none⟩ = some (.int .i64 n.time) ∧ W'.cell? ⟨g2, o2 + k * 5 + 4, none⟩ = some (.int .i64 n.mark))) := fun W' hb => ⟨hb, (hb.cell (p := ⟨g, _, none⟩) hg).trans q0, (hb.cell (p := ⟨g, _, none⟩) hg).trans q1, (hb.cell (p := ⟨g, _, none⟩) hg).trans q2, (hb.cell (p := ⟨g, _, none⟩) hg).trans q3, (hb.cell (p := ⟨g, _, none⟩) hg).trans q4, (hb.cell (p := ⟨g2, _, none⟩) hg2).trans p0, (hb.cell (p := ⟨g2, _, none⟩) hg2).trans p1, (hb.cell (p := ⟨g2, _, none⟩) hg2).trans p2, (hb.cell (p := ⟨g2, _, none⟩) hg2).trans p3, (hb.cell (p := ⟨g2, _, none⟩) hg2).trans p4⟩
      have u1 : (k : Int) < (L.length : Int) := by omega
      have u3 : (0 : Int) ≤ (k : Int) := by omega
      have hbd : Below w.heap.size w wr.drew := ⟨hbel.os, hbel.tape, hbel.output, hbel.size, hbel.block⟩
      clear q0 q1 q2 q3 q4 p0 p1 p2 p3 p4 hn
      simp only [Pl.Nd.val] at hz
      go_wp2_with fail
      go_region_held3 (fun W' => Below w.heap.size w W' ∧ W'.cell? ⟨g, o + k * 5, none⟩ = some (.string n.path) ∧ W'.cell? ⟨g, o + k * 5 + 1, none⟩ = some (.int .i64 n.kind) ∧ W'.cell? ⟨g, o + k * 5 + 2, none⟩ = some (.string n.data) ∧ W'.cell? ⟨g, o + k * 5 + 3, none⟩ = some (.int .i64 n.time) ∧ W'.cell? ⟨g, o + k * 5 + 4, none⟩ = some (.int .i64 n.mark) ∧ W'.cell? ⟨g2, o2 + k * 5, none⟩ = some (.string n.path) ∧ W'.cell? ⟨g2, o2 + k * 5 + 1, none⟩ = some (.int .i64 n.kind) ∧ W'.cell? ⟨g2, o2 + k * 5 + 2, none⟩ = some (.string n.data) ∧ W'.cell? ⟨g2, o2 + k * 5 + 3, none⟩ = some (.int .i64 n.time) ∧ W'.cell? ⟨g2, o2 + k * 5 + 4, none⟩ = some (.int .i64 n.mark)) (first | exact unhide MK _ hbd | exact unhide MK _ (hbd.trans (bX.mono hbd.size))) (first | (go_at_call 15; refine (unhide hz _).mono ?_; rintro e wX ⟨rfl, bX⟩))
      have hb2 := hbd.trans (bX.mono hbd.size)
      clear hbel hbd bX MK
      go_wp2
      go_roundw
      case rel => exact ⟨k + 1, by omega, by go_num, hb2⟩
      case measure => simp [intOf]; omega
    · have u1 : ¬ (k : Int) < (L.length : Int) := by omega
      go_wp2
      go_ret
      exact ⟨rfl, hbel⟩
set_option maxRecDepth 100000 in
theorem eqTree_any (a b : Option Addr) (c1 c2 : Nat) (L : List Pl.Nd) (w : World) (hl : L.length ≤ 1048576) (hv : Mem.isNodes w a L) (hu : Mem.isNodes w b L) :
    Calls Try.prog 12 #[.agg #[.slice a L.length c1], .agg #[.slice b L.length c2]] w fun e w' => e = .returned (.bool true) ∧ Below w.heap.size w w' := by
  have b0 : ∀ o1 o2, Below w.heap.size w ((w.alloc o1).alloc o2) := fun o1 o2 => ((Below.refl _ _).alloc (Nat.le_refl _) o1).alloc (by simp) o2
  have HB := hide b0
  have HZ := hide (fun W (b' : Below w.heap.size w W) => eqNodeS_any a b c1 c2 L W hl (Mem.nodes_call hv b') (Mem.nodes_call hu b'))
  clear hv hu b0
  go_enter Try.func12, Try.ntmps12
  go_wp2_with fail
  refine (unhide HZ _ (unhide HB _ _)).mono ?_
  rintro e w1 ⟨rfl, b1⟩
  have bb := (unhide HB _ _).trans (b1.mono (unhide HB _ _).size)
  clear HZ b1
  go_wp2
  go_ret
  exact ⟨rfl, bb⟩
end WLaw
end Go.Proofs.Ytopipjfomnnjcar
