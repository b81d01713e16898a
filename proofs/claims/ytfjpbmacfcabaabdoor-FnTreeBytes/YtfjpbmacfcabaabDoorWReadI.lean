/- The walks of the program's reader of bytes: num, str, atEnd. -/
import Derived.Test.YtfjpbmacfcabaabDoorWGetN
import Derived.Test.YtfjpbmacfcabaabDoorWTextR
import Derived.Test.YtfjpbmacfcabaabDoorPartA
import Derived.Deep.RegionHeld3
namespace Go.Proofs.YtfjpbmacfcabaabDoor
open Go.RowKit
namespace Pl
/-- A reader's state: where it is, and its fault, if it has one. -/
def numR (s : ByteArray) (a : Int) : Option Int → Int × Int × Option Int
  | none => if (getNum s a).2.2 = 0 then ((getNum s a).1, (getNum s a).2.1, none) else (0, 0, some (getNum s a).2.2)
  | some c => (0, a, some c)
def strR (s : ByteArray) (a : Int) : Option Int → ByteArray × Int × Option Int
  | none => if (getText s a).2.2 = 0 then ((getText s a).1, (getText s a).2.1, none) else (⟨#[]⟩, 0, some (getText s a).2.2)
  | some c => (⟨#[]⟩, a, some c)
end Pl
namespace WReadI
def fv : Option Int → Value
  | none => .nilIface
  | some c => .iface 103 (.agg #[.int .i64 c])
def Rd (W : World) (X : Nat) (s : ByteArray) (a : Int) (f : Option Int) : Prop := Mem.Blk W X #[.string s, .int .i64 a, fv f] 51
theorem num_told (s : ByteArray) (a : Int) : ∃ n p f, WGet.told (Pl.getNum s a) = .tuple #[.int .i64 n, .int .i64 p, fv f] ∧ Pl.numR s a none = (n, p, f) := by
  unfold WGet.told Pl.numR
  by_cases h : (Pl.getNum s a).2.2 = 0
  · exact ⟨_, _, none, by rw [if_pos h]; rfl, by rw [if_pos h]⟩
  · exact ⟨_, _, some _, by rw [if_neg h]; rfl, by rw [if_neg h]⟩
theorem put_two {W : World} {X : Nat} {s : ByteArray} {a p : Int} {f g : Option Int} (h : Rd W X s a f) : Rd ((W.setCell ⟨X, 1, none⟩ (.int .i64 p)).setCell ⟨X, 2, none⟩ (fv g)) X s p g := (Mem.Blk.put h 1 _).put 2 _
theorem grown_set {w : World} (X k : Nat) (v : Value) : w.grownBy (w.setCell ⟨X, k, none⟩ v) (some X) :=
  have b : Below X w (w.setCell ⟨X, k, none⟩ v) := (Below.refl X w).setCell (Nat.le_refl _) v
  ⟨b.os, b.tape, b.output, b.size, fun j _ hne => heap_setCell_other w _ j v (fun e => hne (by rw [e]))⟩
set_option linter.unusedSimpArgs false in
set_option maxRecDepth 100000 in
set_option maxHeartbeats 1000000 in
theorem num_any (X : Nat) (s : ByteArray) (a : Int) (f : Option Int) (w : World) (h8 : s.size ≤ 8000) (ha : a ≤ 9223372036854775807) (hv : Rd w X s a f) :
    Calls Tryd.prog 25 #[.pointer (some ⟨X, 0, none⟩)] w fun e w' => e = .returned (.int .i64 (Pl.numR s a f).1) ∧ Rd w' X s (Pl.numR s a f).2.1 (Pl.numR s a f).2.2 ∧ w.grownBy w' (some X) := by
  have c0 := hv.cell 0
  have c1 := hv.cell 1
  have c2 := hv.cell 2
  have f1 := hv.fr 1
  have f2 := hv.fr 2
  simp only [List.getElem?_toArray, List.getElem?_cons_zero, List.getElem?_cons_succ] at c0 c1 c2
  cases f with
  | some c =>
    have HV := hide hv
    clear hv
    simp only [fv] at c2
    go_enter Tryd.func25, Tryd.ntmps25
    go_wp2
    go_ret
    exact ⟨rfl, unhide HV, World.grownBy.refl _ _⟩
  | none =>
    obtain ⟨n, p, g, ht, hr⟩ := num_told s a
    have hz := hide (fun W => WGet.read_whole s a W h8 ha)
    rw [ht] at hz
    rw [hr]
    have HV := hide hv
    have HG := hide (show Rd ((w.setCell ⟨X, 1, none⟩ (.int .i64 p)).setCell ⟨X, 2, none⟩ (fv g)).drew X s p g from put_two (p := p) (g := g) hv)
    have HW := hide (World.grownBy.trans (World.grownBy.trans (grown_set (w := w) X 1 (.int .i64 p)) (grown_set X 2 (fv g))) (show ((w.setCell ⟨X, 1, none⟩ (.int .i64 p)).setCell ⟨X, 2, none⟩ (fv g)).grownBy ((w.setCell ⟨X, 1, none⟩ (.int .i64 p)).setCell ⟨X, 2, none⟩ (fv g)).drew (some X) from ⟨rfl, rfl, rfl, Nat.le_refl _, fun _ _ _ => rfl⟩))
    clear hv ht hr
    cases g with
    | none =>
      simp only [fv] at c2 hz HG HW
      go_enter Tryd.func25, Tryd.ntmps25
      go_wp2_with fail
      go_region_held3 (fun W' => W'.cell? ⟨X, 0, none⟩ = some (.string s) ∧ W'.cell? ⟨X, 1, none⟩ = some (.int .i64 a)) (exact ⟨c0, c1⟩) (first | (go_at_call 48; refine (unhide hz _).mono ?_; rintro e wX ⟨rfl, hw⟩; obtain rfl := hw))
      go_wp2
      go_ret
      exact ⟨rfl, unhide HG, unhide HW⟩
    | some c =>
      simp only [fv] at c2 hz HG HW
      go_enter Tryd.func25, Tryd.ntmps25
      go_wp2_with fail
      go_region_held3 (fun W' => W'.cell? ⟨X, 0, none⟩ = some (.string s) ∧ W'.cell? ⟨X, 1, none⟩ = some (.int .i64 a)) (exact ⟨c0, c1⟩) (first | (go_at_call 48; refine (unhide hz _).mono ?_; rintro e wX ⟨rfl, hw⟩; obtain rfl := hw))
      go_wp2
      go_ret
      exact ⟨rfl, unhide HG, unhide HW⟩
theorem str_told (s : ByteArray) (a : Int) : ∃ n p f, WTextI.told (Pl.getText s a) = .tuple #[.string n, .int .i64 p, fv f] ∧ Pl.strR s a none = (n, p, f) := by
  unfold WTextI.told Pl.strR
  by_cases h : (Pl.getText s a).2.2 = 0
  · exact ⟨_, _, none, by rw [if_pos h]; rfl, by rw [if_pos h]⟩
  · exact ⟨_, _, some _, by rw [if_neg h]; rfl, by rw [if_neg h]⟩
set_option linter.unusedSimpArgs false in
set_option maxRecDepth 100000 in
set_option maxHeartbeats 1000000 in
theorem str_any (X : Nat) (s : ByteArray) (a : Int) (f : Option Int) (w : World) (h8 : s.size ≤ 8000) (ha : a ≤ 9223372036854775807) (hv : Rd w X s a f) :
    Calls Tryd.prog 49 #[.pointer (some ⟨X, 0, none⟩)] w fun e w' => e = .returned (.string (Pl.strR s a f).1) ∧ Rd w' X s (Pl.strR s a f).2.1 (Pl.strR s a f).2.2 ∧ w.grownBy w' (some X) := by
  have c0 := hv.cell 0
  have c1 := hv.cell 1
  have c2 := hv.cell 2
  have f1 := hv.fr 1
  have f2 := hv.fr 2
  have hX : X < w.heap.size := hv.lt
  simp only [List.getElem?_toArray, List.getElem?_cons_zero, List.getElem?_cons_succ] at c0 c1 c2
  cases f with
  | some c =>
    have HV := hide hv
    clear hv
    simp only [fv] at c2
    go_enter Tryd.func49, Tryd.ntmps49
    go_wp2
    go_ret
    exact ⟨rfl, unhide HV, World.grownBy.refl _ _⟩
  | none =>
    obtain ⟨n, p, g, ht, hr⟩ := str_told s a
    have hz := hide (fun W => WTextI.read_any s a W h8 ha)
    rw [ht] at hz
    rw [hr]
    have HV := hide hv
    have HG := hide (fun W (h : Rd W X s a none) (hg : w.drew.grownBy W (some X)) => (show Rd ((W.setCell ⟨X, 1, none⟩ (.int .i64 p)).setCell ⟨X, 2, none⟩ (fv g)) X s p g ∧ w.grownBy ((W.setCell ⟨X, 1, none⟩ (.int .i64 p)).setCell ⟨X, 2, none⟩ (fv g)) (some X) from
      ⟨put_two h, World.grownBy.trans (World.grownBy.trans (show w.grownBy W (some X) from ⟨hg.os, hg.tape, hg.output, hg.size, hg.block⟩) (grown_set X 1 _)) (grown_set X 2 _)⟩))
    clear hv ht hr
    cases g with
    | none =>
      simp only [fv] at c2 hz HG
      go_enter Tryd.func49, Tryd.ntmps49
      go_wp2_with fail
      go_region_held3 (fun W' => W'.cell? ⟨X, 0, none⟩ = some (.string s) ∧ W'.cell? ⟨X, 1, none⟩ = some (.int .i64 a)) (first | exact ⟨c0, c1⟩ | exact ⟨(bX.cell (p := ⟨X, 0, none⟩) hX).trans c0, (bX.cell (p := ⟨X, 1, none⟩) hX).trans c1⟩) (first | (go_at_call 71; refine (unhide hz _).mono ?_; rintro e wX ⟨rfl, bX⟩))
      have V := Mem.Blk.call (w := w.drew) (unhide HV) bX
      have d1 := V.cell 1
      have d2 := V.cell 2
      have e1 := V.fr 1
      have e2 := V.fr 2
      simp only [List.getElem?_toArray, List.getElem?_cons_zero, List.getElem?_cons_succ, fv] at d1 d2
      have G := hide (unhide HG wX V (Mem.grown_of_below (w := w.drew) bX (some X)))
      clear V bX c0 c1 c2 f1 f2
      go_wp2
      go_ret
      exact ⟨rfl, (unhide G).1, (unhide G).2⟩
    | some c =>
      simp only [fv] at c2 hz HG
      go_enter Tryd.func49, Tryd.ntmps49
      go_wp2_with fail
      go_region_held3 (fun W' => W'.cell? ⟨X, 0, none⟩ = some (.string s) ∧ W'.cell? ⟨X, 1, none⟩ = some (.int .i64 a)) (first | exact ⟨c0, c1⟩ | exact ⟨(bX.cell (p := ⟨X, 0, none⟩) hX).trans c0, (bX.cell (p := ⟨X, 1, none⟩) hX).trans c1⟩) (first | (go_at_call 71; refine (unhide hz _).mono ?_; rintro e wX ⟨rfl, bX⟩))
      have V := Mem.Blk.call (w := w.drew) (unhide HV) bX
      have d1 := V.cell 1
      have d2 := V.cell 2
      have e1 := V.fr 1
      have e2 := V.fr 2
      simp only [List.getElem?_toArray, List.getElem?_cons_zero, List.getElem?_cons_succ, fv] at d1 d2
      have G := hide (unhide HG wX V (Mem.grown_of_below (w := w.drew) bX (some X)))
      clear V bX c0 c1 c2 f1 f2
      go_wp2
      go_ret
      exact ⟨rfl, (unhide G).1, (unhide G).2⟩
end WReadI
end Go.Proofs.YtfjpbmacfcabaabDoor
