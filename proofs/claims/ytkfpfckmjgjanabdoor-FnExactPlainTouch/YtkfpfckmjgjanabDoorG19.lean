/- Several texts of one claim in one file: WLawE, OkNode, OpenNode. -/
import Derived.Test.YtkfpfckmjgjanabDoorWLawT
import Derived.Deep.QuietTactic
import Derived.BigQuiet
import Derived.Deep.RegionHeld3
import Derived.Test.YtkfpfckmjgjanabDoorG03
import Derived.Test.YtkfpfckmjgjanabDoorG04
import Derived.Test.YtkfpfckmjgjanabDoorRows
import Derived.ProofKit
import Derived.OpenShut
import Derived.ShutString
import Derived.ChangeOld
/- The walks of the laws' own toTree, eqNode, eqNodeS, eqTree. -/
namespace Go.Proofs.YtkfpfckmjgjanabDoor
open Go.RowKit
namespace WLaw
set_option maxRecDepth 100000 in
theorem toTree_row (a : Option Addr) (cap : Nat) (L : List Pl.Nd) (w : World) (hl : L.length ≤ 1048576) (hv : Mem.isNodes w a L) :
    Calls Tryd.prog 16 #[.agg #[.slice a L.length cap]] w fun e w' => ∃ g, e = .returned (.agg #[.slice (some ⟨g, 0, none⟩) L.length L.length]) ∧ w.heap.size ≤ g ∧ (∃ cur, w'.heap[g]? = some (.cells cur 50 (0, 0)) ∧ cur.size = L.length * 5) ∧ Mem.isNodes w' (some ⟨g, 0, none⟩) L ∧ Below w.heap.size w w' := by
  have HZ := hide (fun W (b : Below w.heap.size w W) => toNodeS_row a cap L W hl (Mem.nodes_call hv b))
  clear hv
  have b0 : ∀ o1 o2 o3, Below w.heap.size w (((w.alloc o1).alloc o2).alloc o3) := fun o1 o2 o3 => (((Below.refl _ _).alloc (Nat.le_refl _) o1).alloc (by simp) o2).alloc (by simp; omega) o3
  have HB := hide b0
  clear b0
  go_enter Tryd.func16, Tryd.ntmps16
  go_wp2_with fail
  refine (unhide HZ _ (unhide HB _ _ _)).mono ?_
  rintro e w1 ⟨rfl, ⟨cur, hrow, hcur⟩, h1, b1⟩
  have hs : (((w.alloc (.cells #[.slice a L.length cap] 35)).alloc (.cells #[.slice none 0 0] 39)).alloc (.cells #[.slice none 0 0] 39)).heap.size = w.heap.size + 1 + 1 + 1 := by simp
  have r1 : w1.heap[w.heap.size + 1]? = some (.cells #[.slice none 0 0] 39 (0, 0)) := (b1.block _ (by rw [hs]; omega)).trans (Mem.new_mid w _ _ _)
  have r2 : w1.heap[w.heap.size + 1 + 1]? = some (.cells #[.slice none 0 0] 39 (0, 0)) := (b1.block _ (by rw [hs]; omega)).trans (Mem.new_three w _ _ _)
  have c1 : w1.cell? ⟨w.heap.size + 1, 0, none⟩ = some (.slice none 0 0) := by rw [cell_of_row w1 _ 0 _ _ (0, 0) r1]; rfl
  have c2 : w1.cell? ⟨w.heap.size + 1 + 1, 0, none⟩ = some (.slice none 0 0) := by rw [cell_of_row w1 _ 0 _ _ (0, 0) r2]; rfl
  have f1 : w1.frozen? ⟨w.heap.size + 1, 0, none⟩ = false := Mem.row_frozen r1
  have f2 : w1.frozen? ⟨w.heap.size + 1 + 1, 0, none⟩ = false := Mem.row_frozen r2
  have bb := hide ((unhide HB _ _ _).trans (b1.mono (unhide HB _ _ _).size))
  have H1 := hide h1
  have HR := hide hrow
  have HCU := hide hcur
  have HSZ := hide hs
  generalize (((w.alloc (.cells #[.slice a L.length cap] 35)).alloc (.cells #[.slice none 0 0] 39)).alloc (.cells #[.slice none 0 0] 39)).heap.size = g at H1 HSZ HR ⊢
  clear HZ b1 h1 hs r1 r2 hrow hcur
  go_wp2
  refine bodyPost_ret (v := .agg #[.slice (some ⟨g, 0, none⟩) L.length L.length]) (by simp [results, Tryd.results16, go_sem, c1]) rfl ⟨g, rfl, by have := unhide HSZ; omega, ⟨cur, ?_, unhide HCU⟩, ?_, ?_⟩
  · have hg := unhide HSZ
    exact (heap_setCell_other _ _ _ _ (by show g ≠ w.heap.size + 1; omega)).trans ((heap_setCell_other _ _ _ _ (by show g ≠ w.heap.size + 1 + 1; omega)).trans (unhide HR))
  · intro i n hi
    obtain ⟨b, o, e1, h2, q0, q1, q2, q3, q4⟩ := unhide H1 i n hi
    cases e1
    have hg := unhide HSZ
    have hc : ∀ j, ((w1.setCell ⟨w.heap.size + 1 + 1, 0, none⟩ (.slice (some ⟨g, 0, none⟩) L.length L.length)).setCell ⟨w.heap.size + 1, 0, none⟩ (.slice (some ⟨g, 0, none⟩) L.length L.length)).cell? ⟨g, j, none⟩ = w1.cell? ⟨g, j, none⟩ := fun j => by
      rw [World.cell?_setCell_far _ _ _ _ (by show w.heap.size + 1 ≠ g; omega), World.cell?_setCell_far _ _ _ _ (by show w.heap.size + 1 + 1 ≠ g; omega)]
    refine ⟨g, 0, rfl, by simpa [World.setCell] using h2, ?_, ?_, ?_, ?_, ?_⟩
    · rw [hc]; exact q0
    · rw [hc]; exact q1
    · rw [hc]; exact q2
    · rw [hc]; exact q3
    · rw [hc]; exact q4
  · exact ((unhide bb).setCell (by show w.heap.size ≤ w.heap.size + 1 + 1; omega) _).setCell (by show w.heap.size ≤ w.heap.size + 1; omega) _
theorem toTree_any (a : Option Addr) (cap : Nat) (L : List Pl.Nd) (w : World) (hl : L.length ≤ 1048576) (hv : Mem.isNodes w a L) :
    Calls Tryd.prog 16 #[.agg #[.slice a L.length cap]] w fun e w' => ∃ g, e = .returned (.agg #[.slice (some ⟨g, 0, none⟩) L.length L.length]) ∧ w.heap.size ≤ g ∧ Mem.isNodes w' (some ⟨g, 0, none⟩) L ∧ Below w.heap.size w w' :=
  (toTree_row a cap L w hl hv).mono fun _ _ ⟨g, he, h0, _, h1, h2⟩ => ⟨g, he, h0, h1, h2⟩
set_option maxRecDepth 100000 in
theorem eqNode_any (n : Pl.Nd) (w : World) :
    Calls Tryd.prog 55 #[n.val, n.val] w fun e w' => e = .returned (.bool true) ∧ Below w.heap.size w w' := by
  obtain ⟨p, k, d, t, m⟩ := n
  simp only [Pl.Nd.val]
  go_enter Tryd.func55, Tryd.ntmps55
  go_wp2
  go_ret
  exact ⟨rfl, ((Below.refl _ _).alloc (Nat.le_refl _) _).alloc (by simp) _⟩
set_option maxRecDepth 100000 in
set_option maxHeartbeats 400000 in
theorem eqNodeS_any (a b : Option Addr) (c1 c2 : Nat) (L : List Pl.Nd) (w : World) (hl : L.length ≤ 1048576) (hv : Mem.isNodes w a L) (hu : Mem.isNodes w b L) :
    Calls Tryd.prog 48 #[.slice a L.length c1, .slice b L.length c2] w fun e w' => e = .returned (.bool true) ∧ Below w.heap.size w w' := by
  have HV := hide hv
  have HU := hide hu
  clear hv hu
  go_enter Tryd.func48, Tryd.ntmps48
  go_wp2
  go_loopw [5] (fun i wr => ∃ k : Nat, k ≤ L.length ∧ i = .int .i64 (k : Int) ∧ Below w.heap.size w wr) (fun i _ => L.length - (intOf i).toNat)
  case atStart => exact ⟨0, Nat.zero_le _, rfl, Below.refl _ _⟩
  case round =>
    obtain ⟨k, hk, rfl, hbel⟩ := hrel
    by_cases hlt : k < L.length
    · obtain ⟨n, hn⟩ : ∃ n, L[k]? = some n := ⟨_, List.getElem?_eq_getElem hlt⟩
      obtain ⟨g, o, rfl, hg, q0, q1, q2, q3, q4⟩ := (unhide HV) k n hn
      obtain ⟨g2, o2, rfl, hg2, p0, p1, p2, p3, p4⟩ := (unhide HU) k n hn
      have c0 := (hbel.cell (p := ⟨g, _, none⟩) hg).trans q0
      have c1 := (hbel.cell (p := ⟨g, _, none⟩) hg).trans q1
      have c2 := (hbel.cell (p := ⟨g, _, none⟩) hg).trans q2
      have c3 := (hbel.cell (p := ⟨g, _, none⟩) hg).trans q3
      have c4 := (hbel.cell (p := ⟨g, _, none⟩) hg).trans q4
      have d0 := (hbel.cell (p := ⟨g2, _, none⟩) hg2).trans p0
      have d1 := (hbel.cell (p := ⟨g2, _, none⟩) hg2).trans p1
      have d2 := (hbel.cell (p := ⟨g2, _, none⟩) hg2).trans p2
      have d3 := (hbel.cell (p := ⟨g2, _, none⟩) hg2).trans p3
      have d4 := (hbel.cell (p := ⟨g2, _, none⟩) hg2).trans p4
      have hz := hide (fun W => eqNode_any n W)
      have MK : Hid (∀ W', Below w.heap.size w W' → (Below w.heap.size w W' ∧ W'.cell? ⟨g, o + k * 5, none⟩ = some (.string n.path) ∧ W'.cell? ⟨g, o + k * 5 + 1, none⟩ = some (.int .i64 n.kind) ∧ W'.cell? ⟨g, o + k * 5 + 2, none⟩ = some (.string n.data) ∧ W'.cell? ⟨g, o + k * 5 + 3, none⟩ = some (.int .i64 n.time) ∧ W'.cell? ⟨g, o + k * 5 + 4, none⟩ = some (.int .i64 n.mark) ∧ W'.cell? ⟨g2, o2 + k * 5, none⟩ = some (.string n.path) ∧ W'.cell? ⟨g2, o2 + k * 5 + 1, none⟩ = some (.int .i64 n.kind) ∧ W'.cell? ⟨g2, o2 + k * 5 + 2, none⟩ = some (.string n.data) ∧ W'.cell? ⟨g2, o2 + k * 5 + 3, none⟩ = some (.int .i64 n.time) ∧ W'.cell? ⟨g2, o2 + k * 5 + 4, none⟩ = some (.int .i64 n.mark))) := fun W' hb => ⟨hb, (hb.cell (p := ⟨g, _, none⟩) hg).trans q0, (hb.cell (p := ⟨g, _, none⟩) hg).trans q1, (hb.cell (p := ⟨g, _, none⟩) hg).trans q2, (hb.cell (p := ⟨g, _, none⟩) hg).trans q3, (hb.cell (p := ⟨g, _, none⟩) hg).trans q4, (hb.cell (p := ⟨g2, _, none⟩) hg2).trans p0, (hb.cell (p := ⟨g2, _, none⟩) hg2).trans p1, (hb.cell (p := ⟨g2, _, none⟩) hg2).trans p2, (hb.cell (p := ⟨g2, _, none⟩) hg2).trans p3, (hb.cell (p := ⟨g2, _, none⟩) hg2).trans p4⟩
      have u1 : (k : Int) < (L.length : Int) := by omega
      have u3 : (0 : Int) ≤ (k : Int) := by omega
      have hbd : Below w.heap.size w wr.drew := ⟨hbel.os, hbel.tape, hbel.output, hbel.size, hbel.block⟩
      clear q0 q1 q2 q3 q4 p0 p1 p2 p3 p4 hn
      simp only [Pl.Nd.val] at hz
      go_wp2_with fail
      go_region_held3 (fun W' => Below w.heap.size w W' ∧ W'.cell? ⟨g, o + k * 5, none⟩ = some (.string n.path) ∧ W'.cell? ⟨g, o + k * 5 + 1, none⟩ = some (.int .i64 n.kind) ∧ W'.cell? ⟨g, o + k * 5 + 2, none⟩ = some (.string n.data) ∧ W'.cell? ⟨g, o + k * 5 + 3, none⟩ = some (.int .i64 n.time) ∧ W'.cell? ⟨g, o + k * 5 + 4, none⟩ = some (.int .i64 n.mark) ∧ W'.cell? ⟨g2, o2 + k * 5, none⟩ = some (.string n.path) ∧ W'.cell? ⟨g2, o2 + k * 5 + 1, none⟩ = some (.int .i64 n.kind) ∧ W'.cell? ⟨g2, o2 + k * 5 + 2, none⟩ = some (.string n.data) ∧ W'.cell? ⟨g2, o2 + k * 5 + 3, none⟩ = some (.int .i64 n.time) ∧ W'.cell? ⟨g2, o2 + k * 5 + 4, none⟩ = some (.int .i64 n.mark)) (first | exact unhide MK _ hbd | exact unhide MK _ (hbd.trans (bX.mono hbd.size))) (first | (go_at_call 55; refine (unhide hz _).mono ?_; rintro e wX ⟨rfl, bX⟩))
      have hb2 := hbd.trans (bX.mono hbd.size)
      clear hbel hbd bX MK
      go_wp2
      go_roundw
      case rel => exact ⟨k + 1, by omega, by go_num, hb2⟩
      case measure => simp [intOf]; omega
    · have u1 : ¬ (k : Int) < (L.length : Int) := by omega
      go_wp2
      go_ret
      exact ⟨rfl, hbel⟩
set_option maxRecDepth 100000 in
theorem eqTree_any (a b : Option Addr) (c1 c2 : Nat) (L : List Pl.Nd) (w : World) (hl : L.length ≤ 1048576) (hv : Mem.isNodes w a L) (hu : Mem.isNodes w b L) :
    Calls Tryd.prog 19 #[.agg #[.slice a L.length c1], .agg #[.slice b L.length c2]] w fun e w' => e = .returned (.bool true) ∧ Below w.heap.size w w' := by
  have b0 : ∀ o1 o2, Below w.heap.size w ((w.alloc o1).alloc o2) := fun o1 o2 => ((Below.refl _ _).alloc (Nat.le_refl _) o1).alloc (by simp) o2
  have HB := hide b0
  have HZ := hide (fun W (b' : Below w.heap.size w W) => eqNodeS_any a b c1 c2 L W hl (Mem.nodes_call hv b') (Mem.nodes_call hu b'))
  clear hv hu b0
  go_enter Tryd.func19, Tryd.ntmps19
  go_wp2_with fail
  refine (unhide HZ _ (unhide HB _ _)).mono ?_
  rintro e w1 ⟨rfl, b1⟩
  have bb := (unhide HB _ _).trans (b1.mono (unhide HB _ _).size)
  clear HZ b1
  go_wp2
  go_ret
  exact ⟨rfl, bb⟩
end WLaw
end Go.Proofs.YtkfpfckmjgjanabDoor

/- A node that came in: its bounds. -/
namespace Go.Proofs.YtkfpfckmjgjanabDoor
open Go.RowKit
namespace OpenN
def Ok (n : Pl.Nd) : Prop := n.path.size ≤ maxLen ∧ n.data.size ≤ maxLen ∧ (-9223372036854775808 ≤ n.kind ∧ n.kind ≤ 9223372036854775807) ∧ (-9223372036854775808 ≤ n.time ∧ n.time ≤ 9223372036854775807) ∧ (-9223372036854775808 ≤ n.mark ∧ n.mark ≤ 9223372036854775807)
end OpenN
end Go.Proofs.YtkfpfckmjgjanabDoor

/- A Node that came in, opened. -/
namespace Go.Proofs.YtkfpfckmjgjanabDoor
open Go.ChangeShapes Go.WideShapes Go.ChangeAt Go.RowKit
namespace OpenN
theorem five {α : Type} {l : List α} (h : l.length = 5) : ∃ a b c d e, l = [a, b, c, d, e] := by
  match l, h with
  | [a, b, c, d, e], _ => exact ⟨a, b, c, d, e, rfl⟩
theorem cells5 : Tryd.prog.cellsOf 118 = 5 := by kernel_rfl
theorem cellsS : Tryd.prog.cellsOf 9 = 1 := by kernel_rfl
theorem cellsI : Tryd.prog.cellsOf 2 = 1 := by kernel_rfl
set_option maxRecDepth 100000 in
theorem node {H : Type} {enc : TypeId × Value → H} {w : World} {base fuel : Nat} {spare : Nat → Bool} {held : Bool} {cs : List Value} {x : DataW H × List MemPlace}
    (h : DataW.trod enc Tryd.prog w base spare held fuel 118 cs = some x) : ∃ n : Pl.Nd, cs = n.cells ∧ Ok n := by
  obtain ⟨xs, m, rfl, -, hlen, hxl, hf⟩ := DataW.trod_struct Tryd.underlying118 h
  obtain ⟨c0, c1, c2, c3, c4, rfl⟩ := five (hlen.trans cells5)
  obtain ⟨y0, y1, y2, y3, y4, rfl⟩ := five hxl
  have h0 := hf 0 _ rfl
  have h1 := hf 1 _ rfl
  have h2 := hf 2 _ rfl
  have h3 := hf 3 _ rfl
  have h4 := hf 4 _ rfl
  change DataW.trod enc Tryd.prog w base spare held m 9 (([c0, c1, c2, c3, c4].drop 0).take (Tryd.prog.cellsOf 9)) = some y0 at h0
  rw [cellsS] at h0
  change DataW.trod enc Tryd.prog w base spare held m 2 (([c0, c1, c2, c3, c4].drop 1).take (Tryd.prog.cellsOf 2)) = some y1 at h1
  rw [cellsI] at h1
  change DataW.trod enc Tryd.prog w base spare held m 9 (([c0, c1, c2, c3, c4].drop 2).take (Tryd.prog.cellsOf 9)) = some y2 at h2
  rw [cellsS] at h2
  change DataW.trod enc Tryd.prog w base spare held m 2 (([c0, c1, c2, c3, c4].drop 3).take (Tryd.prog.cellsOf 2)) = some y3 at h3
  rw [cellsI] at h3
  change DataW.trod enc Tryd.prog w base spare held m 2 (([c0, c1, c2, c3, c4].drop 4).take (Tryd.prog.cellsOf 2)) = some y4 at h4
  rw [cellsI] at h4
  obtain ⟨p, e0, -, wp⟩ := DataW.trod_string Tryd.underlying9 h0
  obtain ⟨k, e1, -, wk⟩ := DataW.trod_int Tryd.underlying2 h1
  obtain ⟨d, e2, -, wd⟩ := DataW.trod_string Tryd.underlying9 h2
  obtain ⟨t, e3, -, wt⟩ := DataW.trod_int Tryd.underlying2 h3
  obtain ⟨q, e4, -, wq⟩ := DataW.trod_int Tryd.underlying2 h4
  simp at e0 e1 e2 e3 e4
  subst e0 e1 e2 e3 e4
  exact ⟨⟨p, k, d, t, q⟩, rfl, wp, wd, i64_of_wf wk, i64_of_wf wt, i64_of_wf wq⟩
set_option maxRecDepth 100000 in
theorem node_arg {H : Type} {enc : TypeId × Value → H} {w : World} {base b0 : Nat} {spare : Nat → Bool} {held : Bool} {r : Reach} {v : Value} {d : DataW H} {ps : List MemPlace}
    (hv : Value.okWide Tryd.prog w r b0 118 v) (h : DataW.Trod enc Tryd.prog w base spare held 118 v d ps) : ∃ n : Pl.Nd, v = n.val ∧ Ok n := by
  obtain ⟨cs, rfl, hsz⟩ := okWide_struct Tryd.underlying118 hv
  obtain ⟨fuel, hf⟩ := h
  obtain ⟨n, hn, ok⟩ := node hf
  refine ⟨n, ?_, ok⟩
  simp [Value.cells] at hn
  rw [show cs = n.cells.toArray from by rw [← hn]]
  rfl
end OpenN
end Go.Proofs.YtkfpfckmjgjanabDoor

