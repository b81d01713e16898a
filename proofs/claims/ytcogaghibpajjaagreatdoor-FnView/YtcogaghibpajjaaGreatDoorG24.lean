/- Several texts of one claim in one file: WTakeS, WRootS, WParentI, WNodesI, WNodeAt. -/
import Derived.Test.YtcogaghibpajjaaGreatDoorG01
import Derived.Test.YtcogaghibpajjaaGreatDoorG07
import Derived.Test.YtcogaghibpajjaaGreatDoorG02
import Derived.Test.YtcogaghibpajjaaGreatDoorProg
import Derived.WalkSpells
import Derived.Test.YtcogaghibpajjaaGreatDoorG00
import Derived.Test.YtcogaghibpajjaaGreatDoorG04
import Derived.Test.YtcogaghibpajjaaGreatDoorG23
import Derived.Test.YtcogaghibpajjaaGreatDoorG22
import Derived.Deep.QuietTactic
import Derived.BigQuiet
import Derived.Deep.RegionHeld3
namespace Go.Proofs.YtcogaghibpajjaaGreatDoor
open Go.RowKit
namespace zh9
theorem set_have (t : Bool) (n : Pl.Nd) (hv : List Bool) (k : Nat) (x : Bool) : (Pl.Sg.cs ⟨t, n, hv⟩).toArray.setIfInBounds (6 + k) (.bool x) = (Pl.Sg.cs ⟨t, n, hv.set k x⟩).toArray := by
 rw [List.setIfInBounds_toArray]
 unfold Pl.Sg.cs
 rw [List.set_append_right _ _ (by simp)]
 simp [List.map_set]
theorem set_mark (t : Bool) (n : Pl.Nd) (hv : List Bool) (m : Int) : (Pl.Sg.cs ⟨t, n, hv⟩).toArray.setIfInBounds 5 (.int .i64 m) = (Pl.Sg.cs ⟨t, ⟨n.path, n.kind, n.data, n.time, m⟩, hv⟩).toArray := by
 rw [List.setIfInBounds_toArray]
 rfl
theorem set_node (n : Pl.Nd) (hv : List Bool) (u : Bool) (m : Pl.Nd) : ((((((Pl.Sg.cs ⟨u, m, hv⟩).toArray.setIfInBounds 0 (.bool true)).setIfInBounds 1 (.string n.path)).setIfInBounds 2 (.int .i64 n.kind)).setIfInBounds 3 (.string n.data)).setIfInBounds 4 (.int .i64 n.time)).setIfInBounds 5 (.int .i64 n.mark) = (Pl.Sg.cs ⟨true, n, hv⟩).toArray := by
 simp only [kB3]
 rfl
theorem yg (w : World) (b : Nat) : w.grownBy w (some b) := ⟨rfl, rfl, rfl, Nat.le_refl _, fun _ _ _ => rfl⟩
theorem zc1 {w v : World} {g : Nat} (h : w.grownBy v (some g)) (o : Nat) (x : Value) : w.grownBy (v.setCell ⟨g, o, none⟩ x) (some g) :=
 ⟨h.os, h.tape, h.output, Nat.le_trans h.size (by simp [World.setCell]), fun j hj hne => (Below.heap_setCell _ _ _ _ (by intro e; exact hne (by rw [e]))).trans (h.block j hj hne)⟩
theorem ye3 {w w' : World} {b : Nat} (h : w.grownBy w' (some b)) (o : Obj) : w.grownBy (w'.alloc o) (some b) :=
 Mem.grown_trans h (Mem.zi4 ((Below.refl _ _).alloc (Nat.le_refl _) o) (some b))
set_option linter.unusedSimpArgs false in
set_option maxRecDepth 100000 in
set_option maxHeartbeats 2000000 in
theorem take_any (b k : Nat) (s : Pl.Sg) (n : Pl.Nd) (w : World) (hk : k < 4) (hh : s.have'.length = 4) (hb : Mem.Blk w b s.cs.toArray 176) :
  Calls Tryz.prog 123 #[.pointer (some ⟨b, 0, none⟩), .int .i64 k, n.val] w fun e w' => e = .returned (.bool (Pl.zg1 n)) ∧ Mem.Blk w' b (Pl.zc0 s k n).cs.toArray 176 ∧ w.grownBy w' (some b) := by
 obtain ⟨told, ⟨sp, sk, sd, st, sm⟩, hv⟩ := s
 obtain ⟨np, nk, nd, nt, nm⟩ := n
 obtain ⟨h0, h1, h2, h3, rfl⟩ : ∃ h0 h1 h2 h3, hv = [h0, h1, h2, h3] := by
  match hv, hh with
  | [a, b, c, d], _ => exact ⟨a, b, c, d, rfl⟩
 have hix : 0 ≤ (k : Int) ∧ (k : Int) < 4 := by omega
 simp only [Pl.Nd.val]
 have hbl := hb.lt
 have V := hb.alloc (.cells #[.string np, .int .i64 nk, .string nd, .int .i64 nt, .int .i64 nm] 62)
 have N := Mem.Blk.new w #[.string np, .int .i64 nk, .string nd, .int .i64 nt, .int .i64 nm] 62
 have c0 := hb.cell 0
 have c1 := hb.cell 1
 have c2 := hb.cell 2
 have c3 := hb.cell 3
 have c4 := hb.cell 4
 have c5 := hb.cell 5
 have f0 := hb.fr 0
 have f1 := hb.fr 1
 have f2 := hb.fr 2
 have f3 := hb.fr 3
 have f4 := hb.fr 4
 have f5 := hb.fr 5
 have fk := hb.fr (6 + k)
 obtain ⟨x, ck⟩ : ∃ x, w.cell? ⟨b, 6 + k, none⟩ = some (.bool x) := by
  rw [hb.cell (6 + k)]
  obtain rfl | rfl | rfl | rfl : k = 0 ∨ k = 1 ∨ k = 2 ∨ k = 3 := by omega
  all_goals exact ⟨_, rfl⟩
 simp only [Pl.Sg.cs, List.map_cons, List.map_nil, List.cons_append, List.nil_append, kA0, kA1, kA2] at c0 c1 c2 c3 c4 c5
 have hN : ∀ (t : Bool) (x : Bool) (M : Int), Mem.Blk (((w.setCell ⟨b, 5, none⟩ (.int .i64 M)).setCell ⟨b, 6 + k, none⟩ (.bool x)).alloc (.cells #[.string np, .int .i64 nk, .string nd, .int .i64 nt, .int .i64 nm] 62)).drew.drew b (Pl.Sg.cs ⟨told, ⟨sp, sk, sd, st, M⟩, [h0, h1, h2, h3].set k x⟩).toArray 176 ∧ w.grownBy (((w.setCell ⟨b, 5, none⟩ (.int .i64 M)).setCell ⟨b, 6 + k, none⟩ (.bool x)).alloc (.cells #[.string np, .int .i64 nk, .string nd, .int .i64 nt, .int .i64 nm] 62)).drew.drew (some b) := by
  intro t x M
  have h1 := ((hb.put 5 (.int .i64 M)).put (6 + k) (.bool x)).alloc (.cells #[.string np, .int .i64 nk, .string nd, .int .i64 nt, .int .i64 nm] 62)
  rw [set_mark, set_have] at h1
  have h2 := ye3 (zc1 (zc1 (yg w b) 5 (.int .i64 M)) (6 + k) (.bool x)) (.cells #[.string np, .int .i64 nk, .string nd, .int .i64 nt, .int .i64 nm] 62)
  exact ⟨h1, ⟨h2.os, h2.tape, h2.output, h2.size, h2.block⟩⟩
 cases told
 ·clear hN
  have V2 : Mem.Blk (((((((((w.setCell ⟨b, 0, none⟩ (.bool true)).setCell ⟨b, 1, none⟩ (.string np)).setCell ⟨b, 2, none⟩ (.int .i64 nk)).setCell ⟨b, 3, none⟩ (.string nd)).setCell ⟨b, 4, none⟩ (.int .i64 nt)).setCell ⟨b, 5, none⟩ (.int .i64 nm)).alloc (.cells #[.string np, .int .i64 nk, .string nd, .int .i64 nt, .int .i64 nm] 62))).drew) b (Pl.Sg.cs ⟨true, ⟨np, nk, nd, nt, nm⟩, [h0, h1, h2, h3]⟩).toArray 176 := by
   have h := ((((((hb.put 0 (.bool true)).put 1 (.string np)).put 2 (.int .i64 nk)).put 3 (.string nd)).put 4 (.int .i64 nt)).put 5 (.int .i64 nm)).alloc (.cells #[.string np, .int .i64 nk, .string nd, .int .i64 nt, .int .i64 nm] 62)
   rw [set_node ⟨np, nk, nd, nt, nm⟩] at h
   exact h
  have hsz : (((((((((w.setCell ⟨b, 0, none⟩ (.bool true)).setCell ⟨b, 1, none⟩ (.string np)).setCell ⟨b, 2, none⟩ (.int .i64 nk)).setCell ⟨b, 3, none⟩ (.string nd)).setCell ⟨b, 4, none⟩ (.int .i64 nt)).setCell ⟨b, 5, none⟩ (.int .i64 nm)).alloc (.cells #[.string np, .int .i64 nk, .string nd, .int .i64 nt, .int .i64 nm] 62))).drew).heap.size = w.heap.size + 1 := by simp
  have N2 : Mem.Blk (((((((((w.setCell ⟨b, 0, none⟩ (.bool true)).setCell ⟨b, 1, none⟩ (.string np)).setCell ⟨b, 2, none⟩ (.int .i64 nk)).setCell ⟨b, 3, none⟩ (.string nd)).setCell ⟨b, 4, none⟩ (.int .i64 nt)).setCell ⟨b, 5, none⟩ (.int .i64 nm)).alloc (.cells #[.string np, .int .i64 nk, .string nd, .int .i64 nt, .int .i64 nm] 62))).drew) w.heap.size #[.string np, .int .i64 nk, .string nd, .int .i64 nt, .int .i64 nm] 62 := by
   have h := Mem.Blk.new ((((((w.setCell ⟨b, 0, none⟩ (.bool true)).setCell ⟨b, 1, none⟩ (.string np)).setCell ⟨b, 2, none⟩ (.int .i64 nk)).setCell ⟨b, 3, none⟩ (.string nd)).setCell ⟨b, 4, none⟩ (.int .i64 nt)).setCell ⟨b, 5, none⟩ (.int .i64 nm)) #[.string np, .int .i64 nk, .string nd, .int .i64 nt, .int .i64 nm] 62
   simp only [World.size_setCell] at h
   exact h
  have G2 : w.grownBy (((((((((w.setCell ⟨b, 0, none⟩ (.bool true)).setCell ⟨b, 1, none⟩ (.string np)).setCell ⟨b, 2, none⟩ (.int .i64 nk)).setCell ⟨b, 3, none⟩ (.string nd)).setCell ⟨b, 4, none⟩ (.int .i64 nt)).setCell ⟨b, 5, none⟩ (.int .i64 nm)).alloc (.cells #[.string np, .int .i64 nk, .string nd, .int .i64 nt, .int .i64 nm] 62))).drew) (some b) := by
   have h := ye3 (zc1 (zc1 (zc1 (zc1 (zc1 (zc1 (yg w b) 0 (.bool true)) 1 (.string np)) 2 (.int .i64 nk)) 3 (.string nd)) 4 (.int .i64 nt)) 5 (.int .i64 nm)) (.cells #[.string np, .int .i64 nk, .string nd, .int .i64 nt, .int .i64 nm] 62)
   exact ⟨h.os, h.tape, h.output, h.size, h.block⟩
  have hM : max nm nm = nm := by omega
  have hmx : ¬ nm < nm := by omega
  go_enter Tryz.func123, Tryz.ntmps123
  go_wp2
  go_region
  go_wp2
  generalize (((((((((w.setCell ⟨b, 0, none⟩ (.bool true)).setCell ⟨b, 1, none⟩ (.string np)).setCell ⟨b, 2, none⟩ (.int .i64 nk)).setCell ⟨b, 3, none⟩ (.string nd)).setCell ⟨b, 4, none⟩ (.int .i64 nt)).setCell ⟨b, 5, none⟩ (.int .i64 nm)).alloc (.cells #[.string np, .int .i64 nk, .string nd, .int .i64 nt, .int .i64 nm] 62))).drew) = w2 at V2 N2 G2 hsz ⊢
  have HN : Hid (∀ x : Bool, Mem.Blk ((w2.setCell ⟨b, 5, none⟩ (.int .i64 nm)).setCell ⟨b, 6 + k, none⟩ (.bool x)).drew.drew b (Pl.Sg.cs ⟨true, ⟨np, nk, nd, nt, nm⟩, [h0, h1, h2, h3].set k x⟩).toArray 176 ∧ w.grownBy ((w2.setCell ⟨b, 5, none⟩ (.int .i64 nm)).setCell ⟨b, 6 + k, none⟩ (.bool x)).drew.drew (some b)) := by
   intro x
   have h1 := (V2.put 5 (.int .i64 nm)).put (6 + k) (.bool x)
   rw [set_mark, set_have] at h1
   have h2 := zc1 (zc1 G2 5 (.int .i64 nm)) (6 + k) (.bool x)
   exact ⟨h1, ⟨h2.os, h2.tape, h2.output, h2.size, h2.block⟩⟩
  have c5 := V2.cell 5
  have f5 := V2.fr 5
  have fk := V2.fr (6 + k)
  have n1 := N2.cell 1
  have n4 := N2.cell 4
  obtain ⟨x, ck⟩ : ∃ x, w2.cell? ⟨b, 6 + k, none⟩ = some (.bool x) := by
   rw [V2.cell (6 + k)]
   obtain rfl | rfl | rfl | rfl : k = 0 ∨ k = 1 ∨ k = 2 ∨ k = 3 := by omega
   all_goals exact ⟨_, rfl⟩
  simp only [Pl.Sg.cs, List.map_cons, List.map_nil, List.cons_append, List.nil_append, kA0, kA1, kA2] at c5 n1 n4
  clear V2 N2 G2 hb V N c0 c1 c2 c3 c4
  have hne : ¬ w.heap.size = b := by omega
  by_cases hn : nk = 1
  ·subst hn
   go_region
   go_wp2
   go_region
   go_wp2
   go_ret
   exact ⟨by simp [Pl.zg1], by simp only [Pl.zc0, Pl.zi0, Bool.false_eq_true, if_false, hM, decide_true]; exact (za HN true).1, (za HN true).2⟩
  ·have t1 : (nk == 1) = false := by simpa using hn
   have t2 : (nk != 1) = true := by simpa using hn
   have t3 : decide (nk = 1) = false := by simpa using hn
   go_region
   go_wp2
   go_region
   go_wp2
   go_ret
   exact ⟨by simp [Pl.zg1, hn], by simp only [Pl.zc0, Pl.zi0, Bool.false_eq_true, if_false, hM, t3]; exact (za HN false).1, (za HN false).2⟩
 ·have HN := hide hN
  clear hN V N hb
  by_cases hmx : sm < nm
  ·have hM : max sm nm = nm := by omega
   by_cases hn : nk = 1
   ·subst hn
    go_enter Tryz.func123, Tryz.ntmps123
    go_wp2
    go_region
    go_wp2
    go_region
    go_wp2
    go_ret
    exact ⟨by simp [Pl.zg1], by simp only [Pl.zc0, Pl.zi0, if_true, hM, decide_true]; exact (za HN true true nm).1, (za HN true true nm).2⟩
   ·have t1 : (nk == 1) = false := by simpa using hn
    have t2 : (nk != 1) = true := by simpa using hn
    have t3 : decide (nk = 1) = false := by simpa using hn
    go_enter Tryz.func123, Tryz.ntmps123
    go_wp2
    go_region
    go_wp2
    go_region
    go_wp2
    go_ret
    exact ⟨by simp [Pl.zg1, hn], by simp only [Pl.zc0, Pl.zi0, if_true, hM, t3]; exact (za HN true false nm).1, (za HN true false nm).2⟩
  ·have hM : max sm nm = sm := by omega
   by_cases hn : nk = 1
   ·subst hn
    go_enter Tryz.func123, Tryz.ntmps123
    go_wp2
    go_region
    go_wp2
    go_region
    go_wp2
    go_ret
    exact ⟨by simp [Pl.zg1], by simp only [Pl.zc0, Pl.zi0, if_true, hM, decide_true]; exact (za HN true true sm).1, (za HN true true sm).2⟩
   ·have t1 : (nk == 1) = false := by simpa using hn
    have t2 : (nk != 1) = true := by simpa using hn
    have t3 : decide (nk = 1) = false := by simpa using hn
    go_enter Tryz.func123, Tryz.ntmps123
    go_wp2
    go_region
    go_wp2
    go_region
    go_wp2
    go_ret
    exact ⟨by simp [Pl.zg1, hn], by simp only [Pl.zc0, Pl.zi0, if_true, hM, t3]; exact (za HN true false sm).1, (za HN true false sm).2⟩
end zh9
end Go.Proofs.YtcogaghibpajjaaGreatDoor

namespace Go.Proofs.YtcogaghibpajjaaGreatDoor
open Go.RowKit
namespace Pl
def partsR (n : Nat) : List Bool := [decide (0 < n), decide (1 < n), decide (2 < n), decide (3 < n)]
def zp6 (n : Nat) : Sg := ⟨false, za8, partsR n⟩
theorem parts_set {k : Nat} (h : k < 4) : (partsR k).set k true = partsR (k + 1) := by
 obtain rfl | rfl | rfl | rfl : k = 0 ∨ k = 1 ∨ k = 2 ∨ k = 3 := by omega
 all_goals rfl
end Pl
namespace zh9
set_option maxRecDepth 100000 in
theorem dec_make (a : Option Addr) (n cap : Nat) (w : World) : Calls Tryz.prog 117 #[.slice a n cap] w fun e w' => e = .returned (.func (.func 122) #[] #[.pointer (some ⟨w.heap.size, 0, none⟩)]) ∧ w' = w.alloc (.cells #[.slice a n cap] 76) := by
 have hmf : ∀ (fn : Fn) (first cap : Array Value) (w : World), (Instr.makeFunc fn first cap).run Tryz.prog w = .ok (.func fn first cap) w := fun _ _ _ _ => rfl
 go_enter Tryz.func117, Tryz.ntmps117
 go_wp2
 go_ret
 exact ⟨rfl, rfl⟩
set_option linter.unusedSimpArgs false in
set_option maxRecDepth 100000 in
set_option maxHeartbeats 2000000 in
theorem root_any (a : Option Addr) (n cap : Nat) (w : World) (hn : n ≤ 4) :
  Calls Tryz.prog 118 #[.slice a n cap] w fun e w' => e = .returned (.agg (Pl.zp6 n).cs.toArray) ∧ Below w.heap.size w w' := by
 have b0 : Below w.heap.size w ((w.alloc (.cells Pl.Sg.zero.cs.toArray 176)).alloc (.cells Pl.Sg.zero.cs.toArray 176)) := ((Below.refl _ _).alloc (Nat.le_refl _) _).alloc (by simp) _
 have A0 : Hid (Below w.heap.size w ((w.alloc (.cells Pl.Sg.zero.cs.toArray 176)).alloc (.cells Pl.Sg.zero.cs.toArray 176)) ∧ Mem.Blk ((w.alloc (.cells Pl.Sg.zero.cs.toArray 176)).alloc (.cells Pl.Sg.zero.cs.toArray 176)) w.heap.size Pl.Sg.zero.cs.toArray 176 ∧ Mem.Blk ((w.alloc (.cells Pl.Sg.zero.cs.toArray 176)).alloc (.cells Pl.Sg.zero.cs.toArray 176)) (w.heap.size + 1) (Pl.zp6 0).cs.toArray 176) := ⟨b0, (Mem.Blk.new _ _ _).alloc _, Mem.zg9 _ _ _⟩
 simp only [Pl.Sg.zero, Pl.za8, Pl.Sg.cs, List.map_cons, List.map_nil, List.cons_append, List.nil_append] at A0
 have hR : w.heap.size ≤ w.heap.size := Nat.le_refl _
 clear b0
 go_enter Tryz.func118, Tryz.ntmps118
 go_wp2
 go_loopw [7] (fun i wr => ∃ k : Nat, k ≤ n ∧ i = .int .i64 (k : Int) ∧ Hid (Below w.heap.size w wr ∧ Mem.Blk wr w.heap.size Pl.Sg.zero.cs.toArray 176 ∧ Mem.Blk wr (w.heap.size + 1) (Pl.zp6 k).cs.toArray 176)) (fun i _ => n - (intOf i).toNat)
 case atStart => exact ⟨0, Nat.zero_le _, rfl, A0⟩
 case round =>
  obtain ⟨k, hk, rfl, HA⟩ := hrel
  clear A0
  by_cases hlt : k < n
  ·have y1 : (k : Int) < (n : Int) := by omega
   have hix : 0 ≤ (k : Int) ∧ (k : Int) < 4 := by omega
   have fk := (za HA).2.2.fr (6 + k)
   obtain ⟨x, ck⟩ : ∃ x, wr.cell? ⟨w.heap.size + 1, 6 + k, none⟩ = some (.bool x) := by
    rw [(za HA).2.2.cell (6 + k)]
    obtain rfl | rfl | rfl | rfl : k = 0 ∨ k = 1 ∨ k = 2 ∨ k = 3 := by omega
    all_goals exact ⟨_, rfl⟩
   have A2 : Hid (Below w.heap.size w (wr.setCell ⟨w.heap.size + 1, 6 + k, none⟩ (.bool true)) ∧ Mem.Blk (wr.setCell ⟨w.heap.size + 1, 6 + k, none⟩ (.bool true)) w.heap.size Pl.Sg.zero.cs.toArray 176 ∧ Mem.Blk (wr.setCell ⟨w.heap.size + 1, 6 + k, none⟩ (.bool true)) (w.heap.size + 1) (Pl.zp6 (k + 1)).cs.toArray 176) := by
    refine ⟨(za HA).1.setCell (by show w.heap.size ≤ w.heap.size + 1; omega) _, (za HA).2.1.far _ _ (by show w.heap.size ≠ w.heap.size + 1; omega), ?_⟩
    have h := (za HA).2.2.put (6 + k) (.bool true)
    unfold Pl.zp6 at h
    rw [set_have, Pl.parts_set (by omega)] at h
    exact h
   clear HA
   go_wp2
   go_roundw
   case rel => exact ⟨k + 1, by omega, by go_num, A2⟩
   case measure => simp [intOf]; omega
  ·obtain rfl : k = n := by omega
   have y1 : ¬ ((k : Int) < (k : Int)) := by omega
   have R1 := (za HA).2.1
   have S1 := (za HA).2.2
   have BU := (za HA).1
   have ER : Hid (Pl.zp6 k = ⟨false, Pl.za8, [decide (0 < k), decide (1 < k), decide (2 < k), decide (3 < k)]⟩) := rfl
   generalize decide (0 < k) = g0 at ER
   generalize decide (1 < k) = g1 at ER
   generalize decide (2 < k) = g2 at ER
   generalize decide (3 < k) = g3 at ER
   rw [za ER] at S1
   have c0 := R1.cell 0
   have f0 := R1.fr 0
   have d0 := S1.cell 0
   have c1 := R1.cell 1
   have f1 := R1.fr 1
   have d1 := S1.cell 1
   have c2 := R1.cell 2
   have f2 := R1.fr 2
   have d2 := S1.cell 2
   have c3 := R1.cell 3
   have f3 := R1.fr 3
   have d3 := S1.cell 3
   have c4 := R1.cell 4
   have f4 := R1.fr 4
   have d4 := S1.cell 4
   have c5 := R1.cell 5
   have f5 := R1.fr 5
   have d5 := S1.cell 5
   have c6 := R1.cell 6
   have f6 := R1.fr 6
   have d6 := S1.cell 6
   have c7 := R1.cell 7
   have f7 := R1.fr 7
   have d7 := S1.cell 7
   have c8 := R1.cell 8
   have f8 := R1.fr 8
   have d8 := S1.cell 8
   have c9 := R1.cell 9
   have f9 := R1.fr 9
   have d9 := S1.cell 9
   simp only [Pl.Sg.zero, Pl.za8, Pl.Sg.cs, List.map_cons, List.map_nil, List.cons_append, List.nil_append, kA0, kA1, kA2] at c0 c1 c2 c3 c4 c5 c6 c7 c8 c9 d0 d1 d2 d3 d4 d5 d6 d7 d8 d9
   clear R1 S1 HA
   go_wp2
   refine bodyPost_ret (v := .agg #[.bool false, .string ⟨#[]⟩, .int .i64 0, .string ⟨#[]⟩, .int .i64 0, .int .i64 0, .bool g0, .bool g1, .bool g2, .bool g3]) (by simp [results, Tryz.results118, go_sem, c0, c1, c2, c3, c4, c5, c6, c7, c8, c9]) rfl ⟨by rw [za ER]; rfl, ?_⟩
   exact ((((((((((BU.setCell (p := ⟨w.heap.size, 0, none⟩) hR _).setCell (p := ⟨w.heap.size, 1, none⟩) hR _).setCell (p := ⟨w.heap.size, 2, none⟩) hR _).setCell (p := ⟨w.heap.size, 3, none⟩) hR _).setCell (p := ⟨w.heap.size, 4, none⟩) hR _).setCell (p := ⟨w.heap.size, 5, none⟩) hR _).setCell (p := ⟨w.heap.size, 6, none⟩) hR _).setCell (p := ⟨w.heap.size, 7, none⟩) hR _).setCell (p := ⟨w.heap.size, 8, none⟩) hR _).setCell (p := ⟨w.heap.size, 9, none⟩) hR _)
end zh9
end Go.Proofs.YtcogaghibpajjaaGreatDoor

namespace Go.Proofs.YtcogaghibpajjaaGreatDoor
open Go.RowKit
namespace WPathI
set_option maxRecDepth 100000 in
set_option maxHeartbeats 4000000 in
theorem zr6 (s : ByteArray) (w : World) (hs : s.size ≤ 1048576) :
  Calls Tryz.prog 90 #[.string s] w fun e w' => e = .returned (.string (Pl.glue (Pl.zb6 s).dropLast)) ∧ Below w.heap.size w w' := by
 have hn := hide (zz8.any s w hs)
 have hL := hide (Pl.zk7 s)
 generalize Pl.za3 s = r at hn
 generalize Pl.zb6 s = L at hn hL
 go_enter Tryz.func90, Tryz.ntmps90
 go_wp2_with fail
 refine (za hn).mono ?_
 rintro e w1 ⟨v, rfl, hown, hb⟩
 clear hn
 rcases Mem.texts hown with ⟨rfl, rfl⟩ | ⟨g, cap, rfl, hcap, hm, hgb, hgl, hcell⟩
 ·clear hown
  go_wp2_with fail
  refine (zz3.any _ [] _ (by simp) (by decide) (.inl ⟨rfl, rfl⟩)).mono ?_
  rintro e w2 ⟨rfl, hb2⟩
  have hb3 := hb.trans (hb2.mono hb.size)
  clear hb hb2
  go_wp2
  go_ret
  exact ⟨rfl, hb3⟩
 ·clear hown
  have hm2 := hm
  have HC := hide hcell
  clear hcell
  unfold maxLen at hm2
  by_cases h0 : L.length = 0
  ·obtain rfl : L = [] := List.eq_nil_of_length_eq_zero h0
   have m0 : max (-1 : Int) 0 = 0 := by decide
   go_wp2_with fail
   refine (zz3.any _ [] _ (by simp) (by decide) (.inr ⟨g, 0, cap, rfl, hgl, fun j t h => by simp at h⟩)).mono ?_
   rintro e w2 ⟨rfl, hb2⟩
   have hb3 := hb.trans (hb2.mono hb.size)
   clear hb hb2
   go_wp2
   go_ret
   exact ⟨rfl, hb3⟩
  ·have h1 : (0 : Int) ≤ (L.length : Int) - 1 := by omega
   have m1 : max ((L.length : Int) - 1) 0 = (L.length : Int) - 1 := by omega
   have h2 : (L.length : Int) - 1 ≤ (cap : Int) := by omega
   have E := hide (Pl.drop_last L)
   go_wp2_with fail
   try rw [show (max ((L.length : Int) - 1) 0).toNat = L.length - 1 by omega]
   refine (zz3.any _ (L.take (L.length - 1)) _ ?_ (Pl.yf7 (Pl.all_take (za hL).1 _) ?_) (Mem.take_texts hgl (za HC) _ (by omega))).mono ?_
   ·have := (za hL).2; simp; omega
   ·have := (za hL).2; simp; omega
   rintro e w2 ⟨rfl, hb2⟩
   rw [za E]
   have hb3 := hb.trans (hb2.mono hb.size)
   clear hb hb2
   go_wp2
   go_ret
   exact ⟨rfl, hb3⟩
end WPathI
end Go.Proofs.YtcogaghibpajjaaGreatDoor

namespace Go.Proofs.YtcogaghibpajjaaGreatDoor
open Go.RowKit Go.Maps
namespace Pl
def parV (e2 e3 : Value) (C : List Nd) (p : ByteArray) : Value :=
 if (zb9 p).size = 0 then .nilIface else match C.find? (fun m => decide (m.path = zb9 p)) with | none => e2 | some m => if m.kind = 1 then .nilIface else e3
theorem par_ok {C : List Nd} {p : ByteArray} {u2 u3 : TypeId} {x2 x3 : Value} (hC : C.Pairwise (fun a b => a.path ≠ b.path)) :
  (parI C p = true ∧ parV (.iface u2 x2) (.iface u3 x3) C p = .nilIface) ∨ (parI C p = false ∧ ∃ u x, parV (.iface u2 x2) (.iface u3 x3) C p = .iface u x) := by
 unfold parV parI
 by_cases h0 : (zb9 p).size = 0
 ·left; simp [h0]
 simp only [h0, decide_false, Bool.false_or, if_false]
 cases hf : C.find? (fun m => decide (m.path = zb9 p)) with
 | none =>
  right
  refine ⟨?_, u2, x2, rfl⟩
  rw [List.any_eq_false]
  intro m hm
  have := List.find?_eq_none.1 hf m hm
  simp at this
  simp [this]
 | some m =>
  have h1 := List.mem_of_find?_eq_some hf
  have h2 : m.path = zb9 p := by simpa using List.find?_some hf
  by_cases hk : m.kind = 1
  ·left
   refine ⟨?_, by simp [hk]⟩
   rw [List.any_eq_true]
   exact ⟨m, h1, by simp [h2, hk]⟩
  ·right
   refine ⟨?_, u3, x3, by simp [hk]⟩
   rw [List.any_eq_false]
   intro x hx
   simp only [Bool.and_eq_true, decide_eq_true_eq, not_and]
   intro hxp
   have : x = m := by
    have hp : ∀ {A : List Nd}, A.Pairwise (fun a b => a.path ≠ b.path) → ∀ {a b : Nd}, a ∈ A → b ∈ A → a.path = b.path → a = b := by
     intro A hA
     induction hA with
     | nil => intro a b ha; cases ha
     | cons hx' _ ih =>
      intro a b ha hb e
      rcases List.mem_cons.1 ha with e1 | h1
      ·rcases List.mem_cons.1 hb with e2 | h2
       ·rw [e1, e2]
       ·exact absurd (e1 ▸ e) (hx' _ h2)
      ·rcases List.mem_cons.1 hb with e2 | h2
       ·exact absurd (e2 ▸ e).symm (hx' _ h1)
       ·exact ih h1 h2 e
    exact hp hC hx h1 (hxp.trans h2.symm)
   rw [this]; exact hk
end Pl
namespace MapN
section
variable {P : Program} (w : World) {ops : Array Oper} {rest : List Oper} {o : Oper} {a : Act} {Q : Exit → Act → World → Prop}
theorem look_ok (hg : o.guard = none) (m x : Operand) (t : TypeId) (hop : o.op = Op.lookup t m x true)
  (k e : TypeId) (K : Keyed P k) (ht : P.underlying t = some (.map k e)) (hz : (zeroValue e).run P w = .ok (Pl.Nd.val ⟨⟨#[]⟩, 0, ⟨#[]⟩, 0, 0⟩) w) (b n : Nat) (D : DataW Unit)
  (hm : a.eval m = .map (some b)) (hown : w.ownsMap P k elem b n D) (kv : Value) (kl : Lit) (hx : a.eval x = kv) (hkey : keyOf P k kv = some kl) (nd : Pl.Nd) (hat : D.atKey kl (dat ⟨⟨#[]⟩, 0, ⟨#[]⟩, 0, 0⟩) = dat nd) (r : Bool) (hr : Maps.has D kl = r)
  (hK : wpList P ops Q rest (a.put o.dst (.tuple #[.agg #[.string nd.path, .int .i64 nd.kind, .string nd.data, .int .i64 nd.time, .int .i64 nd.mark], .bool r])) w) :
  wpList P ops Q (o :: rest) a w :=
 wpList_lookup_own_ok w hg m x t hop k e K ht elem hz _ [] (zz6 _) b n D hm hown kv kl hx hkey (fun v ps hv => by
  obtain ⟨n1, rfl, hd⟩ := ya2 hv
  obtain rfl := zz7 (hat.symm.trans hd)
  rw [hr]
  exact hK)
end
end MapN
namespace zg
structure Errs (w : World) (u1 u2 u3 : TypeId) (x1 x2 x3 : Value) : Prop where
 c1 : w.cell? ⟨1, 0, none⟩ = some (.iface u1 x1)
 c2 : w.cell? ⟨2, 0, none⟩ = some (.iface u2 x2)
 c3 : w.cell? ⟨3, 0, none⟩ = some (.iface u3 x3)
theorem Errs.call {w w' : World} {u1 u2 u3 : TypeId} {x1 x2 x3 : Value} (h : Errs w u1 u2 u3 x1 x2 x3) (b : Below w.heap.size w w') : Errs w' u1 u2 u3 x1 x2 x3 :=
 ⟨(b.cell (p := ⟨_, 0, none⟩) (World.block_lt_of_cell? w ⟨_, 0, none⟩ h.c1)).trans h.c1, (b.cell (p := ⟨_, 0, none⟩) (World.block_lt_of_cell? w ⟨_, 0, none⟩ h.c2)).trans h.c2, (b.cell (p := ⟨_, 0, none⟩) (World.block_lt_of_cell? w ⟨_, 0, none⟩ h.c3)).trans h.c3⟩
theorem zj9 {w w' : World} {B n : Nat} {D : DataW Unit} (h : w.ownsMap Tryz.prog 9 MapN.elem B n D) (b : Below w.heap.size w w') : w'.ownsMap Tryz.prog 9 MapN.elem B n D :=
 h.kept (row := none) ⟨b.os, b.tape, b.output, b.size, fun k hk _ => b.block k hk⟩ (by simp)
set_option maxRecDepth 100000 in
set_option maxHeartbeats 400000 in
theorem fault_any (B N : Nat) (C : List Pl.Nd) (p : ByteArray) (w : World) (u1 u2 u3 : TypeId) (x1 x2 x3 : Value) (hE : Errs w u1 u2 u3 x1 x2 x3) (hown : w.ownsMap Tryz.prog 9 MapN.elem B N (MapN.mapOf C)) (hC : C.Pairwise (fun a b => a.path ≠ b.path)) (hp : p.size ≤ 1048576) :
  Calls Tryz.prog 64 #[.map (some B), .string p] w fun e w' => e = .returned (Pl.parV (.iface u2 x2) (.iface u3 x3) C p) ∧ Below w.heap.size w w' := by
 have hpa := hide (WPathI.zr6 p w hp)
 have hz := hide (show (Pl.zb9 p).size ≤ 1048576 from by
  have h1 := Pl.zk7 p
  have h2 := Pl.zy (Pl.zb6 p).dropLast (fun t ht => (Pl.zq4 (h1.1 t (List.dropLast_subset _ ht))).2.2.2)
  rw [List.length_dropLast] at h2
  show (Pl.glue (Pl.zb6 p).dropLast).size ≤ 1048576
  omega)
 change Hid (Calls Tryz.prog _ _ w fun e w' => e = .returned (.string (Pl.zb9 p)) ∧ _) at hpa
 have E1 : Hid ((Pl.zb9 p).size = 0 → Pl.parV (.iface u2 x2) (.iface u3 x3) C p = .nilIface) := fun h => by simp [Pl.parV, h]
 have E2 : Hid ((Pl.zb9 p).size ≠ 0 → C.find? (fun m => decide (m.path = Pl.zb9 p)) = none → Pl.parV (.iface u2 x2) (.iface u3 x3) C p = .iface u2 x2) := fun h hf => by simp [Pl.parV, h, hf]
 have E3 : Hid ((Pl.zb9 p).size ≠ 0 → ∀ m, C.find? (fun m => decide (m.path = Pl.zb9 p)) = some m → Pl.parV (.iface u2 x2) (.iface u3 x3) C p = if m.kind = 1 then .nilIface else .iface u3 x3) := fun h m hf => by simp [Pl.parV, h, hf]
 generalize Pl.parV (.iface u2 x2) (.iface u3 x3) C p = R at E1 E2 E3 ⊢
 generalize Pl.zb9 p = q at hpa hz E1 E2 E3
 have HE := hide hE
 have HM := hide hown
 clear hE hown
 go_enter Tryz.func64, Tryz.ntmps64
 go_wp2_with fail
 refine (za hpa).mono ?_
 rintro e w1 ⟨rfl, b1⟩
 have hE1 := (za HE).call b1
 have hM1 := hide (zj9 (za HM) b1)
 have k2 : ∀ o, (w1.alloc o).cell? ⟨2, 0, none⟩ = some (.iface u2 x2) := fun o => (World.cell?_alloc_some _ _ _ (by rw [hE1.c2]; rfl)).trans hE1.c2
 have k3 : ∀ o, (w1.alloc o).cell? ⟨3, 0, none⟩ = some (.iface u3 x3) := fun o => (World.cell?_alloc_some _ _ _ (by rw [hE1.c3]; rfl)).trans hE1.c3
 clear HE HM hpa hE1
 by_cases h0 : q.size = 0
 ·have t0 : q.toList.isEmpty = true := by rw [Pl.zd0]; simpa [Pl.zi2] using h0
  have E := hide (za E1 h0)
  go_wp2
  go_ret
  exact ⟨by rw [za E]; rfl, b1⟩
 have t0 : q.toList.isEmpty = false := by rw [Pl.zd0]; simpa [Pl.zi2] using h0
 have hkey := MapN.yb3 (p := q) (by have := za hz; unfold maxLen; omega)
 cases hf : C.find? (fun m => decide (m.path = q)) with
 | none =>
  have E := hide (za E2 h0 hf)
  have hmiss : ∀ n ∈ C, n.path ≠ q := fun n hn => by simpa using List.find?_eq_none.1 hf n hn
  have ha := hide (MapN.has_no hmiss)
  have ha2 := hide (Maps.atKey_of_not_has (za ha) (MapN.dat ⟨⟨#[]⟩, 0, ⟨#[]⟩, 0, 0⟩))
  clear E1 E2 E3 hf hmiss
  go_wp2_with (at_lookup; refine MapN.look_ok _ rfl _ _ 41 rfl 9 62 MapN.law Tryz.underlying41 (MapN.za8 _) B N (MapN.mapOf C) rfl (za hM1) _ _ rfl hkey ⟨⟨#[]⟩, 0, ⟨#[]⟩, 0, 0⟩ (za ha2) false (za ha) ?_)
  go_ret
  exact ⟨by rw [za E]; rfl, b1.alloc b1.size _⟩
 | some m =>
  have E := hide (za E3 h0 m hf)
  have hm1 := List.mem_of_find?_eq_some hf
  have hm2 : m.path = q := by simpa using List.find?_some hf
  obtain ⟨y1, y2⟩ := MapN.at_yes hC hm1
  rw [hm2] at y1 y2
  have ha := hide y1
  have ha2 := hide (y2 (MapN.dat ⟨⟨#[]⟩, 0, ⟨#[]⟩, 0, 0⟩))
  clear E1 E2 E3 hf y1 y2 hm1 hm2
  by_cases hk : m.kind = 1
  ·have E' := hide (show R = .nilIface by rw [za E, if_pos hk])
   have t1 : (m.kind == 1) = true := by simpa using hk
   clear E hk
   go_wp2_with (at_lookup; refine MapN.look_ok _ rfl _ _ 41 rfl 9 62 MapN.law Tryz.underlying41 (MapN.za8 _) B N (MapN.mapOf C) rfl (za hM1) _ _ rfl hkey m (za ha2) true (za ha) ?_)
   go_ret
   exact ⟨by rw [za E']; rfl, b1.alloc b1.size _⟩
  ·have E' := hide (show R = .iface u3 x3 by rw [za E, if_neg hk])
   have t1 : (m.kind == 1) = false := by simpa using hk
   clear E hk
   go_wp2_with (at_lookup; refine MapN.look_ok _ rfl _ _ 41 rfl 9 62 MapN.law Tryz.underlying41 (MapN.za8 _) B N (MapN.mapOf C) rfl (za hM1) _ _ rfl hkey m (za ha2) true (za ha) ?_)
   go_ret
   exact ⟨by rw [za E']; rfl, b1.alloc b1.size _⟩
end zg
end Go.Proofs.YtcogaghibpajjaaGreatDoor

namespace Go.Proofs.YtcogaghibpajjaaGreatDoor
open Go.RowKit Go.Maps
namespace zh9
set_option linter.unusedSimpArgs false in
set_option maxRecDepth 100000 in
set_option maxHeartbeats 2000000 in
theorem at_some (B N : Nat) (D : DataW Unit) (p : ByteArray) (m : Pl.Nd) (w : World) (hp : p.size ≤ 1048576) (hown : w.ownsMap Tryz.prog 9 MapN.elem B N D) (h1 : D.atKey (MapN.key p) (MapN.dat ⟨⟨#[]⟩, 0, ⟨#[]⟩, 0, 0⟩) = MapN.dat m) (t : Bool) (h2 : Maps.has D (MapN.key p) = t) :
  Calls Tryz.prog 142 #[.map (some B), .string p] w fun e w' => e = .returned (.tuple #[m.val, .bool t]) ∧ Below w.heap.size w w' := by
 have hkey := MapN.yb3 (p := p) (by unfold maxLen; omega)
 have HM := hide (zg.zj9 hown ((Below.refl _ _).alloc (Nat.le_refl _) (.cells #[.string ⟨#[]⟩, .int .i64 0, .string ⟨#[]⟩, .int .i64 0, .int .i64 0] 62)))
 have ha := hide h1
 have ha2 := hide h2
 clear h1 h2 hown
 obtain ⟨mp, mk, md, mt, mm⟩ := m
 go_enter Tryz.func142, Tryz.ntmps142
 go_wp2_with (at_lookup; refine MapN.look_ok _ rfl _ _ 41 rfl 9 62 MapN.law Tryz.underlying41 (MapN.za8 _) B N D rfl (za HM) _ _ rfl hkey ⟨mp, mk, md, mt, mm⟩ (za ha) t (za ha2) ?_)
 refine bodyPost_ret (v := .tuple #[.agg #[.string mp, .int .i64 mk, .string md, .int .i64 mt, .int .i64 mm], .bool t]) (by simp [results, Tryz.results142, go_sem]) rfl ⟨rfl, ?_⟩
 repeat first | exact Below.refl _ _ | refine Below.setCell ?_ (by simp) _ | refine Below.alloc ?_ (by simp) _
end zh9
end Go.Proofs.YtcogaghibpajjaaGreatDoor

