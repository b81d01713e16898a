/- Several texts of one claim in one file: WTakeS, WRootS, WNodeAt, WLevelUp, WOvK, WDecide. -/
import Derived.Test.YtfdbokipgofcdaaGreatDoorG00
import Derived.Test.YtfdbokipgofcdaaGreatDoorG04
import Derived.Test.YtfdbokipgofcdaaGreatDoorG07
import Derived.Test.YtfdbokipgofcdaaGreatDoorG34
import Derived.Test.YtfdbokipgofcdaaGreatDoorProg
import Derived.WalkSpells
import Derived.Maps.OwnSet
import Derived.Lib.OthersKept
import Derived.Laws.RangeAny
import Derived.Deep.Draws
import Derived.Deep.QuietTactic
import Derived.BigQuiet
import Derived.Deep.RegionHeld3
import Derived.Test.YtfdbokipgofcdaaGreatDoorG01
import Derived.Test.YtfdbokipgofcdaaGreatDoorG11
namespace Go.Proofs.YtfdbokipgofcdaaGreatDoor
open Go.RowKit
namespace zl0
theorem set_have (t : Bool) (n : Pl.Nd) (hv : List Bool) (k : Nat) (x : Bool) : (Pl.Sg.cs ⟨t, n, hv⟩).toArray.setIfInBounds (6 + k) (.bool x) = (Pl.Sg.cs ⟨t, n, hv.set k x⟩).toArray := by
 rw [List.setIfInBounds_toArray]
 unfold Pl.Sg.cs
 rw [List.set_append_right _ _ (by simp)]
 simp [List.map_set]
theorem set_mark (t : Bool) (n : Pl.Nd) (hv : List Bool) (m : Int) : (Pl.Sg.cs ⟨t, n, hv⟩).toArray.setIfInBounds 5 (.int .i64 m) = (Pl.Sg.cs ⟨t, ⟨n.path, n.kind, n.data, n.time, m⟩, hv⟩).toArray := by
 rw [List.setIfInBounds_toArray]
 rfl
theorem set_node (n : Pl.Nd) (hv : List Bool) (u : Bool) (m : Pl.Nd) : ((((((Pl.Sg.cs ⟨u, m, hv⟩).toArray.setIfInBounds 0 (.bool true)).setIfInBounds 1 (.string n.path)).setIfInBounds 2 (.int .i64 n.kind)).setIfInBounds 3 (.string n.data)).setIfInBounds 4 (.int .i64 n.time)).setIfInBounds 5 (.int .i64 n.mark) = (Pl.Sg.cs ⟨true, n, hv⟩).toArray := by
 simp only [kB3]
 rfl
theorem yv0 (w : World) (b : Nat) : w.grownBy w (some b) := ⟨rfl, rfl, rfl, Nat.le_refl _, fun _ _ _ => rfl⟩
theorem zb3 {w v : World} {g : Nat} (h : w.grownBy v (some g)) (o : Nat) (x : Value) : w.grownBy (v.setCell ⟨g, o, none⟩ x) (some g) :=
 ⟨h.os, h.tape, h.output, Nat.le_trans h.size (by simp [World.setCell]), fun j hj hne => (Below.heap_setCell _ _ _ _ (by intro e; exact hne (by rw [e]))).trans (h.block j hj hne)⟩
theorem yt3 {w w' : World} {b : Nat} (h : w.grownBy w' (some b)) (o : Obj) : w.grownBy (w'.alloc o) (some b) :=
 Mem.zj5 h (Mem.zd8 ((Below.refl _ _).alloc (Nat.le_refl _) o) (some b))
set_option linter.unusedSimpArgs false in
set_option maxRecDepth 100000 in
set_option maxHeartbeats 2000000 in
theorem yh6 (b k : Nat) (s : Pl.Sg) (n : Pl.Nd) (w : World) (hk : k < 4) (hh : s.have'.length = 4) (hb : Mem.Blk w b s.cs.toArray 208) :
  Calls Tryz.prog 168 #[.pointer (some ⟨b, 0, none⟩), .int .i64 k, n.val] w fun e w' => e = .returned (.bool (Pl.zh8 n)) ∧ Mem.Blk w' b (Pl.zb8 s k n).cs.toArray 208 ∧ w.grownBy w' (some b) := by
 obtain ⟨told, ⟨sp, sk, sd, st, sm⟩, hv⟩ := s
 obtain ⟨np, nk, nd, nt, nm⟩ := n
 obtain ⟨h0, h1, h2, h3, rfl⟩ : ∃ h0 h1 h2 h3, hv = [h0, h1, h2, h3] := by
  match hv, hh with
  | [a, b, c, d], _ => exact ⟨a, b, c, d, rfl⟩
 have hix : 0 ≤ (k : Int) ∧ (k : Int) < 4 := by omega
 simp only [Pl.Nd.val]
 have hbl := hb.lt
 have V := hb.alloc (.cells #[.string np, .int .i64 nk, .string nd, .int .i64 nt, .int .i64 nm] 89)
 have N := Mem.Blk.new w #[.string np, .int .i64 nk, .string nd, .int .i64 nt, .int .i64 nm] 89
 have c0 := hb.cell 0
 have c1 := hb.cell 1
 have c2 := hb.cell 2
 have c3 := hb.cell 3
 have c4 := hb.cell 4
 have c5 := hb.cell 5
 have f0 := hb.fr 0
 have f1 := hb.fr 1
 have f2 := hb.fr 2
 have f3 := hb.fr 3
 have f4 := hb.fr 4
 have f5 := hb.fr 5
 have fk := hb.fr (6 + k)
 obtain ⟨x, ck⟩ : ∃ x, w.cell? ⟨b, 6 + k, none⟩ = some (.bool x) := by
  rw [hb.cell (6 + k)]
  obtain rfl | rfl | rfl | rfl : k = 0 ∨ k = 1 ∨ k = 2 ∨ k = 3 := by omega
  all_goals exact ⟨_, rfl⟩
 simp only [Pl.Sg.cs, List.map_cons, List.map_nil, List.cons_append, List.nil_append, kGs] at c0 c1 c2 c3 c4 c5
 have hN : ∀ (t : Bool) (x : Bool) (M : Int), Mem.Blk (((w.setCell ⟨b, 5, none⟩ (.int .i64 M)).setCell ⟨b, 6 + k, none⟩ (.bool x)).alloc (.cells #[.string np, .int .i64 nk, .string nd, .int .i64 nt, .int .i64 nm] 89)).drew.drew b (Pl.Sg.cs ⟨told, ⟨sp, sk, sd, st, M⟩, [h0, h1, h2, h3].set k x⟩).toArray 208 ∧ w.grownBy (((w.setCell ⟨b, 5, none⟩ (.int .i64 M)).setCell ⟨b, 6 + k, none⟩ (.bool x)).alloc (.cells #[.string np, .int .i64 nk, .string nd, .int .i64 nt, .int .i64 nm] 89)).drew.drew (some b) := by
  intro t x M
  have h1 := ((hb.put 5 (.int .i64 M)).put (6 + k) (.bool x)).alloc (.cells #[.string np, .int .i64 nk, .string nd, .int .i64 nt, .int .i64 nm] 89)
  rw [set_mark, set_have] at h1
  have h2 := yt3 (zb3 (zb3 (yv0 w b) 5 (.int .i64 M)) (6 + k) (.bool x)) (.cells #[.string np, .int .i64 nk, .string nd, .int .i64 nt, .int .i64 nm] 89)
  exact ⟨h1, ⟨h2.os, h2.tape, h2.output, h2.size, h2.block⟩⟩
 cases told
 ·clear hN
  have V2 : Mem.Blk (((((((((w.setCell ⟨b, 0, none⟩ (.bool true)).setCell ⟨b, 1, none⟩ (.string np)).setCell ⟨b, 2, none⟩ (.int .i64 nk)).setCell ⟨b, 3, none⟩ (.string nd)).setCell ⟨b, 4, none⟩ (.int .i64 nt)).setCell ⟨b, 5, none⟩ (.int .i64 nm)).alloc (.cells #[.string np, .int .i64 nk, .string nd, .int .i64 nt, .int .i64 nm] 89))).drew) b (Pl.Sg.cs ⟨true, ⟨np, nk, nd, nt, nm⟩, [h0, h1, h2, h3]⟩).toArray 208 := by
   have h := ((((((hb.put 0 (.bool true)).put 1 (.string np)).put 2 (.int .i64 nk)).put 3 (.string nd)).put 4 (.int .i64 nt)).put 5 (.int .i64 nm)).alloc (.cells #[.string np, .int .i64 nk, .string nd, .int .i64 nt, .int .i64 nm] 89)
   rw [set_node ⟨np, nk, nd, nt, nm⟩] at h
   exact h
  have hsz : (((((((((w.setCell ⟨b, 0, none⟩ (.bool true)).setCell ⟨b, 1, none⟩ (.string np)).setCell ⟨b, 2, none⟩ (.int .i64 nk)).setCell ⟨b, 3, none⟩ (.string nd)).setCell ⟨b, 4, none⟩ (.int .i64 nt)).setCell ⟨b, 5, none⟩ (.int .i64 nm)).alloc (.cells #[.string np, .int .i64 nk, .string nd, .int .i64 nt, .int .i64 nm] 89))).drew).heap.size = w.heap.size + 1 := by simp
  have N2 : Mem.Blk (((((((((w.setCell ⟨b, 0, none⟩ (.bool true)).setCell ⟨b, 1, none⟩ (.string np)).setCell ⟨b, 2, none⟩ (.int .i64 nk)).setCell ⟨b, 3, none⟩ (.string nd)).setCell ⟨b, 4, none⟩ (.int .i64 nt)).setCell ⟨b, 5, none⟩ (.int .i64 nm)).alloc (.cells #[.string np, .int .i64 nk, .string nd, .int .i64 nt, .int .i64 nm] 89))).drew) w.heap.size #[.string np, .int .i64 nk, .string nd, .int .i64 nt, .int .i64 nm] 89 := by
   have h := Mem.Blk.new ((((((w.setCell ⟨b, 0, none⟩ (.bool true)).setCell ⟨b, 1, none⟩ (.string np)).setCell ⟨b, 2, none⟩ (.int .i64 nk)).setCell ⟨b, 3, none⟩ (.string nd)).setCell ⟨b, 4, none⟩ (.int .i64 nt)).setCell ⟨b, 5, none⟩ (.int .i64 nm)) #[.string np, .int .i64 nk, .string nd, .int .i64 nt, .int .i64 nm] 89
   simp only [World.size_setCell] at h
   exact h
  have G2 : w.grownBy (((((((((w.setCell ⟨b, 0, none⟩ (.bool true)).setCell ⟨b, 1, none⟩ (.string np)).setCell ⟨b, 2, none⟩ (.int .i64 nk)).setCell ⟨b, 3, none⟩ (.string nd)).setCell ⟨b, 4, none⟩ (.int .i64 nt)).setCell ⟨b, 5, none⟩ (.int .i64 nm)).alloc (.cells #[.string np, .int .i64 nk, .string nd, .int .i64 nt, .int .i64 nm] 89))).drew) (some b) := by
   have h := yt3 (zb3 (zb3 (zb3 (zb3 (zb3 (zb3 (yv0 w b) 0 (.bool true)) 1 (.string np)) 2 (.int .i64 nk)) 3 (.string nd)) 4 (.int .i64 nt)) 5 (.int .i64 nm)) (.cells #[.string np, .int .i64 nk, .string nd, .int .i64 nt, .int .i64 nm] 89)
   exact ⟨h.os, h.tape, h.output, h.size, h.block⟩
  have hM : max nm nm = nm := by omega
  have hmx : ¬ nm < nm := by omega
  go_enter Tryz.func168, Tryz.ntmps168
  go_wp2
  go_region
  go_wp2
  generalize (((((((((w.setCell ⟨b, 0, none⟩ (.bool true)).setCell ⟨b, 1, none⟩ (.string np)).setCell ⟨b, 2, none⟩ (.int .i64 nk)).setCell ⟨b, 3, none⟩ (.string nd)).setCell ⟨b, 4, none⟩ (.int .i64 nt)).setCell ⟨b, 5, none⟩ (.int .i64 nm)).alloc (.cells #[.string np, .int .i64 nk, .string nd, .int .i64 nt, .int .i64 nm] 89))).drew) = w2 at V2 N2 G2 hsz ⊢
  have HN : Hid (∀ x : Bool, Mem.Blk ((w2.setCell ⟨b, 5, none⟩ (.int .i64 nm)).setCell ⟨b, 6 + k, none⟩ (.bool x)).drew.drew b (Pl.Sg.cs ⟨true, ⟨np, nk, nd, nt, nm⟩, [h0, h1, h2, h3].set k x⟩).toArray 208 ∧ w.grownBy ((w2.setCell ⟨b, 5, none⟩ (.int .i64 nm)).setCell ⟨b, 6 + k, none⟩ (.bool x)).drew.drew (some b)) := by
   intro x
   have h1 := (V2.put 5 (.int .i64 nm)).put (6 + k) (.bool x)
   rw [set_mark, set_have] at h1
   have h2 := zb3 (zb3 G2 5 (.int .i64 nm)) (6 + k) (.bool x)
   exact ⟨h1, ⟨h2.os, h2.tape, h2.output, h2.size, h2.block⟩⟩
  have c5 := V2.cell 5
  have f5 := V2.fr 5
  have fk := V2.fr (6 + k)
  have n1 := N2.cell 1
  have n4 := N2.cell 4
  obtain ⟨x, ck⟩ : ∃ x, w2.cell? ⟨b, 6 + k, none⟩ = some (.bool x) := by
   rw [V2.cell (6 + k)]
   obtain rfl | rfl | rfl | rfl : k = 0 ∨ k = 1 ∨ k = 2 ∨ k = 3 := by omega
   all_goals exact ⟨_, rfl⟩
  simp only [Pl.Sg.cs, List.map_cons, List.map_nil, List.cons_append, List.nil_append, kGs] at c5 n1 n4
  clear V2 N2 G2 hb V N c0 c1 c2 c3 c4
  have hne : ¬ w.heap.size = b := by omega
  by_cases hn : nk = 1
  ·subst hn
   go_region
   go_wp2
   go_region
   go_wp2
   go_ret
   exact ⟨by simp [Pl.zh8], by simp only [Pl.zb8, Pl.zj4, Bool.false_eq_true, if_false, hM, decide_true]; exact (za HN true).1, (za HN true).2⟩
  ·have t1 : (nk == 1) = false := by simpa using hn
   have t2 : (nk != 1) = true := by simpa using hn
   have t3 : decide (nk = 1) = false := by simpa using hn
   go_region
   go_wp2
   go_region
   go_wp2
   go_ret
   exact ⟨by simp [Pl.zh8, hn], by simp only [Pl.zb8, Pl.zj4, Bool.false_eq_true, if_false, hM, t3]; exact (za HN false).1, (za HN false).2⟩
 ·have HN := hide hN
  clear hN V N hb
  by_cases hmx : sm < nm
  ·have hM : max sm nm = nm := by omega
   by_cases hn : nk = 1
   ·subst hn
    go_enter Tryz.func168, Tryz.ntmps168
    go_wp2
    go_region
    go_wp2
    go_region
    go_wp2
    go_ret
    exact ⟨by simp [Pl.zh8], by simp only [Pl.zb8, Pl.zj4, if_true, hM, decide_true]; exact (za HN true true nm).1, (za HN true true nm).2⟩
   ·have t1 : (nk == 1) = false := by simpa using hn
    have t2 : (nk != 1) = true := by simpa using hn
    have t3 : decide (nk = 1) = false := by simpa using hn
    go_enter Tryz.func168, Tryz.ntmps168
    go_wp2
    go_region
    go_wp2
    go_region
    go_wp2
    go_ret
    exact ⟨by simp [Pl.zh8, hn], by simp only [Pl.zb8, Pl.zj4, if_true, hM, t3]; exact (za HN true false nm).1, (za HN true false nm).2⟩
  ·have hM : max sm nm = sm := by omega
   by_cases hn : nk = 1
   ·subst hn
    go_enter Tryz.func168, Tryz.ntmps168
    go_wp2
    go_region
    go_wp2
    go_region
    go_wp2
    go_ret
    exact ⟨by simp [Pl.zh8], by simp only [Pl.zb8, Pl.zj4, if_true, hM, decide_true]; exact (za HN true true sm).1, (za HN true true sm).2⟩
   ·have t1 : (nk == 1) = false := by simpa using hn
    have t2 : (nk != 1) = true := by simpa using hn
    have t3 : decide (nk = 1) = false := by simpa using hn
    go_enter Tryz.func168, Tryz.ntmps168
    go_wp2
    go_region
    go_wp2
    go_region
    go_wp2
    go_ret
    exact ⟨by simp [Pl.zh8, hn], by simp only [Pl.zb8, Pl.zj4, if_true, hM, t3]; exact (za HN true false sm).1, (za HN true false sm).2⟩
end zl0
end Go.Proofs.YtfdbokipgofcdaaGreatDoor

namespace Go.Proofs.YtfdbokipgofcdaaGreatDoor
open Go.RowKit
namespace Pl
def zz2 (n : Nat) : List Bool := [decide (0 < n), decide (1 < n), decide (2 < n), decide (3 < n)]
def zv0 (n : Nat) : Sg := ⟨false, zi1, zz2 n⟩
theorem parts_set {k : Nat} (h : k < 4) : (zz2 k).set k true = zz2 (k + 1) := by
 obtain rfl | rfl | rfl | rfl : k = 0 ∨ k = 1 ∨ k = 2 ∨ k = 3 := by omega
 all_goals rfl
end Pl
namespace zl0
set_option maxRecDepth 100000 in
theorem dec_make (a : Option Addr) (n cap : Nat) (w : World) : Calls Tryz.prog 164 #[.slice a n cap] w fun e w' => e = .returned (.func (.func 167) #[] #[.pointer (some ⟨w.heap.size, 0, none⟩)]) ∧ w' = w.alloc (.cells #[.slice a n cap] 138) := by
 have hmf : ∀ (fn : Fn) (first cap : Array Value) (w : World), (Instr.makeFunc fn first cap).run Tryz.prog w = .ok (.func fn first cap) w := fun _ _ _ _ => rfl
 go_enter Tryz.func164, Tryz.ntmps164
 go_wp2
 go_ret
 exact ⟨rfl, rfl⟩
set_option linter.unusedSimpArgs false in
set_option maxRecDepth 100000 in
set_option maxHeartbeats 2000000 in
theorem root_any (a : Option Addr) (n cap : Nat) (w : World) (hn : n ≤ 4) :
  Calls Tryz.prog 165 #[.slice a n cap] w fun e w' => e = .returned (.agg (Pl.zv0 n).cs.toArray) ∧ Below w.heap.size w w' := by
 have b0 : Below w.heap.size w ((w.alloc (.cells Pl.Sg.zero.cs.toArray 208)).alloc (.cells Pl.Sg.zero.cs.toArray 208)) := ((Below.refl _ _).alloc (Nat.le_refl _) _).alloc (by simp) _
 have A0 : Hid (Below w.heap.size w ((w.alloc (.cells Pl.Sg.zero.cs.toArray 208)).alloc (.cells Pl.Sg.zero.cs.toArray 208)) ∧ Mem.Blk ((w.alloc (.cells Pl.Sg.zero.cs.toArray 208)).alloc (.cells Pl.Sg.zero.cs.toArray 208)) w.heap.size Pl.Sg.zero.cs.toArray 208 ∧ Mem.Blk ((w.alloc (.cells Pl.Sg.zero.cs.toArray 208)).alloc (.cells Pl.Sg.zero.cs.toArray 208)) (w.heap.size + 1) (Pl.zv0 0).cs.toArray 208) := ⟨b0, (Mem.Blk.new _ _ _).alloc _, Mem.zh2 _ _ _⟩
 simp only [Pl.Sg.zero, Pl.zi1, Pl.Sg.cs, List.map_cons, List.map_nil, List.cons_append, List.nil_append] at A0
 have hR : w.heap.size ≤ w.heap.size := Nat.le_refl _
 clear b0
 go_enter Tryz.func165, Tryz.ntmps165
 go_wp2
 go_loopw [7] (fun i wr => ∃ k : Nat, k ≤ n ∧ i = .int .i64 (k : Int) ∧ Hid (Below w.heap.size w wr ∧ Mem.Blk wr w.heap.size Pl.Sg.zero.cs.toArray 208 ∧ Mem.Blk wr (w.heap.size + 1) (Pl.zv0 k).cs.toArray 208)) (fun i _ => n - (intOf i).toNat)
 case atStart => exact ⟨0, Nat.zero_le _, rfl, A0⟩
 case round =>
  obtain ⟨k, hk, rfl, HA⟩ := hrel
  clear A0
  by_cases hlt : k < n
  ·have y1 : (k : Int) < (n : Int) := by omega
   have hix : 0 ≤ (k : Int) ∧ (k : Int) < 4 := by omega
   have fk := (za HA).2.2.fr (6 + k)
   obtain ⟨x, ck⟩ : ∃ x, wr.cell? ⟨w.heap.size + 1, 6 + k, none⟩ = some (.bool x) := by
    rw [(za HA).2.2.cell (6 + k)]
    obtain rfl | rfl | rfl | rfl : k = 0 ∨ k = 1 ∨ k = 2 ∨ k = 3 := by omega
    all_goals exact ⟨_, rfl⟩
   have A2 : Hid (Below w.heap.size w (wr.setCell ⟨w.heap.size + 1, 6 + k, none⟩ (.bool true)) ∧ Mem.Blk (wr.setCell ⟨w.heap.size + 1, 6 + k, none⟩ (.bool true)) w.heap.size Pl.Sg.zero.cs.toArray 208 ∧ Mem.Blk (wr.setCell ⟨w.heap.size + 1, 6 + k, none⟩ (.bool true)) (w.heap.size + 1) (Pl.zv0 (k + 1)).cs.toArray 208) := by
    refine ⟨(za HA).1.setCell (by show w.heap.size ≤ w.heap.size + 1; omega) _, (za HA).2.1.far _ _ (by show w.heap.size ≠ w.heap.size + 1; omega), ?_⟩
    have h := (za HA).2.2.put (6 + k) (.bool true)
    unfold Pl.zv0 at h
    rw [set_have, Pl.parts_set (by omega)] at h
    exact h
   clear HA
   go_wp2
   go_roundw
   case rel => exact ⟨k + 1, by omega, by go_num, A2⟩
   case measure => simp [intOf]; omega
  ·obtain rfl : k = n := by omega
   have y1 : ¬ ((k : Int) < (k : Int)) := by omega
   have R1 := (za HA).2.1
   have S1 := (za HA).2.2
   have BU := (za HA).1
   have ER : Hid (Pl.zv0 k = ⟨false, Pl.zi1, [decide (0 < k), decide (1 < k), decide (2 < k), decide (3 < k)]⟩) := rfl
   generalize decide (0 < k) = g0 at ER
   generalize decide (1 < k) = g1 at ER
   generalize decide (2 < k) = g2 at ER
   generalize decide (3 < k) = g3 at ER
   rw [za ER] at S1
   have c0 := R1.cell 0
   have f0 := R1.fr 0
   have d0 := S1.cell 0
   have c1 := R1.cell 1
   have f1 := R1.fr 1
   have d1 := S1.cell 1
   have c2 := R1.cell 2
   have f2 := R1.fr 2
   have d2 := S1.cell 2
   have c3 := R1.cell 3
   have f3 := R1.fr 3
   have d3 := S1.cell 3
   have c4 := R1.cell 4
   have f4 := R1.fr 4
   have d4 := S1.cell 4
   have c5 := R1.cell 5
   have f5 := R1.fr 5
   have d5 := S1.cell 5
   have c6 := R1.cell 6
   have f6 := R1.fr 6
   have d6 := S1.cell 6
   have c7 := R1.cell 7
   have f7 := R1.fr 7
   have d7 := S1.cell 7
   have c8 := R1.cell 8
   have f8 := R1.fr 8
   have d8 := S1.cell 8
   have c9 := R1.cell 9
   have f9 := R1.fr 9
   have d9 := S1.cell 9
   simp only [Pl.Sg.zero, Pl.zi1, Pl.Sg.cs, List.map_cons, List.map_nil, List.cons_append, List.nil_append, kGs] at c0 c1 c2 c3 c4 c5 c6 c7 c8 c9 d0 d1 d2 d3 d4 d5 d6 d7 d8 d9
   clear R1 S1 HA
   go_wp2
   refine bodyPost_ret (v := .agg #[.bool false, .string ⟨#[]⟩, .int .i64 0, .string ⟨#[]⟩, .int .i64 0, .int .i64 0, .bool g0, .bool g1, .bool g2, .bool g3]) (by simp [results, Tryz.results165, go_sem, c0, c1, c2, c3, c4, c5, c6, c7, c8, c9]) rfl ⟨by rw [za ER]; rfl, ?_⟩
   exact ((((((((((BU.setCell (p := ⟨w.heap.size, 0, none⟩) hR _).setCell (p := ⟨w.heap.size, 1, none⟩) hR _).setCell (p := ⟨w.heap.size, 2, none⟩) hR _).setCell (p := ⟨w.heap.size, 3, none⟩) hR _).setCell (p := ⟨w.heap.size, 4, none⟩) hR _).setCell (p := ⟨w.heap.size, 5, none⟩) hR _).setCell (p := ⟨w.heap.size, 6, none⟩) hR _).setCell (p := ⟨w.heap.size, 7, none⟩) hR _).setCell (p := ⟨w.heap.size, 8, none⟩) hR _).setCell (p := ⟨w.heap.size, 9, none⟩) hR _)
end zl0
end Go.Proofs.YtfdbokipgofcdaaGreatDoor

namespace Go.Proofs.YtfdbokipgofcdaaGreatDoor
open Go.RowKit Go.Maps
namespace zl0
set_option linter.unusedSimpArgs false in
set_option maxRecDepth 100000 in
set_option maxHeartbeats 2000000 in
theorem at_some (B N : Nat) (D : DataW Unit) (p : ByteArray) (m : Pl.Nd) (w : World) (hp : p.size ≤ 1048576) (hown : w.ownsMap Tryz.prog 9 MapN.elem B N D) (h1 : D.atKey (MapN.key p) (MapN.dat ⟨⟨#[]⟩, 0, ⟨#[]⟩, 0, 0⟩) = MapN.dat m) (t : Bool) (h2 : Maps.has D (MapN.key p) = t) :
  Calls Tryz.prog 187 #[.map (some B), .string p] w fun e w' => e = .returned (.tuple #[m.val, .bool t]) ∧ Below w.heap.size w w' := by
 have hkey := MapN.yl4 (p := p) (by unfold maxLen; omega)
 have HM := hide (ze7.zn6 hown ((Below.refl _ _).alloc (Nat.le_refl _) (.cells #[.string ⟨#[]⟩, .int .i64 0, .string ⟨#[]⟩, .int .i64 0, .int .i64 0] 89)))
 have ha := hide h1
 have ha2 := hide h2
 clear h1 h2 hown
 obtain ⟨mp, mk, md, mt, mm⟩ := m
 go_enter Tryz.func187, Tryz.ntmps187
 go_wp2_with (at_lookup; refine MapN.look_ok _ rfl _ _ 69 rfl 9 89 MapN.law Tryz.underlying69 (MapN.zi1 _) B N D rfl (za HM) _ _ rfl hkey ⟨mp, mk, md, mt, mm⟩ (za ha) t (za ha2) ?_)
 refine bodyPost_ret (v := .tuple #[.agg #[.string mp, .int .i64 mk, .string md, .int .i64 mt, .int .i64 mm], .bool t]) (by simp [results, Tryz.results187, go_sem]) rfl ⟨rfl, ?_⟩
 repeat first | exact Below.refl _ _ | refine Below.setCell ?_ (by simp) _ | refine Below.alloc ?_ (by simp) _
end zl0
end Go.Proofs.YtfdbokipgofcdaaGreatDoor

namespace Go.Proofs.YtfdbokipgofcdaaGreatDoor
open Go.RowKit Go.Maps
namespace zl0
set_option linter.unusedSimpArgs false in
set_option maxRecDepth 100000 in
set_option maxHeartbeats 2000000 in
theorem up_any (s : Pl.Sg) (w : World) (hh : s.have'.length = 4) (hm : 0 ≤ s.node.mark ∧ s.node.mark ≤ 1000) :
  Calls Tryz.prog 169 #[.agg s.cs.toArray] w fun e w' => e = .returned (.agg (Pl.upS s).cs.toArray) ∧ Below w.heap.size w w' := by
 obtain ⟨told, ⟨sp, sk, sd, st, sm⟩, hv⟩ := s
 obtain ⟨h0, h1, h2, h3, rfl⟩ : ∃ h0 h1 h2 h3, hv = [h0, h1, h2, h3] := by
  match hv, hh with
  | [a, b, c, d], _ => exact ⟨a, b, c, d, rfl⟩
 simp only at hm
 have hw : IntKind.i64.wrap (sm - 1) = sm - 1 := by simp only [IntKind.wrap_i64]; omega
 generalize hU : Pl.upS ⟨told, ⟨sp, sk, sd, st, sm⟩, [h0, h1, h2, h3]⟩ = U
 simp only [Pl.upS] at hU
 rw [show (Pl.Sg.cs ⟨told, ⟨sp, sk, sd, st, sm⟩, [h0, h1, h2, h3]⟩).toArray = #[.bool told, .string sp, .int .i64 sk, .string sd, .int .i64 st, .int .i64 sm, .bool h0, .bool h1, .bool h2, .bool h3] from rfl]
 by_cases h5 : sm - 1 < 0
 ·have hM : max (sm - 1) 0 = 0 := by omega
  rw [hM] at hU
  by_cases hk : sk = 0
  ·subst hk
   rw [if_pos ⟨rfl, rfl⟩] at hU
   have EU := hide hU.symm
   clear hU
   go_enter Tryz.func169, Tryz.ntmps169
   go_wp2
   refine bodyPost_ret (v := .agg #[.bool false, .string ⟨#[]⟩, .int .i64 0, .string ⟨#[]⟩, .int .i64 0, .int .i64 0, .bool false, .bool false, .bool false, .bool false]) (by simp [results, Tryz.results169, go_sem]) rfl ⟨by rw [za EU]; rfl, ?_⟩
   repeat first | exact Below.refl _ _ | refine Below.setCell ?_ (by simp) _ | refine Below.alloc ?_ (by simp) _
  ·have t1 : (sk == 0) = false := by simpa using hk
   rw [if_neg (fun h => hk h.1)] at hU
   have EU := hide hU.symm
   clear hU
   go_enter Tryz.func169, Tryz.ntmps169
   go_wp2
   refine bodyPost_ret (v := .agg #[.bool told, .string sp, .int .i64 sk, .string sd, .int .i64 st, .int .i64 (0), .bool h0, .bool h1, .bool h2, .bool h3]) (by simp [results, Tryz.results169, go_sem]) rfl ⟨by rw [za EU]; rfl, ?_⟩
   repeat first | exact Below.refl _ _ | refine Below.setCell ?_ (by simp) _ | refine Below.alloc ?_ (by simp) _
 ·have hM : max (sm - 1) 0 = sm - 1 := by omega
  rw [hM] at hU
  by_cases hk : sk = 0
  ·subst hk
   by_cases h6 : sm = 1
   ·subst h6
    rw [if_pos ⟨rfl, by omega⟩] at hU
    have EU := hide hU.symm
    clear hU
    go_enter Tryz.func169, Tryz.ntmps169
    go_wp2
    refine bodyPost_ret (v := .agg #[.bool false, .string ⟨#[]⟩, .int .i64 0, .string ⟨#[]⟩, .int .i64 0, .int .i64 0, .bool false, .bool false, .bool false, .bool false]) (by simp [results, Tryz.results169, go_sem]) rfl ⟨by rw [za EU]; rfl, ?_⟩
    repeat first | exact Below.refl _ _ | refine Below.setCell ?_ (by simp) _ | refine Below.alloc ?_ (by simp) _
   ·have t2 : (sm - 1 == 0) = false := by simp; omega
    rw [if_neg (fun h => by omega)] at hU
    have EU := hide hU.symm
    clear hU
    go_enter Tryz.func169, Tryz.ntmps169
    go_wp2
    refine bodyPost_ret (v := .agg #[.bool told, .string sp, .int .i64 0, .string sd, .int .i64 st, .int .i64 (sm - 1), .bool h0, .bool h1, .bool h2, .bool h3]) (by simp [results, Tryz.results169, go_sem]) rfl ⟨by rw [za EU]; rfl, ?_⟩
    repeat first | exact Below.refl _ _ | refine Below.setCell ?_ (by simp) _ | refine Below.alloc ?_ (by simp) _
  ·have t1 : (sk == 0) = false := by simpa using hk
   rw [if_neg (fun h => hk h.1)] at hU
   have EU := hide hU.symm
   clear hU
   go_enter Tryz.func169, Tryz.ntmps169
   go_wp2
   refine bodyPost_ret (v := .agg #[.bool told, .string sp, .int .i64 sk, .string sd, .int .i64 st, .int .i64 (sm - 1), .bool h0, .bool h1, .bool h2, .bool h3]) (by simp [results, Tryz.results169, go_sem]) rfl ⟨by rw [za EU]; rfl, ?_⟩
   repeat first | exact Below.refl _ _ | refine Below.setCell ?_ (by simp) _ | refine Below.alloc ?_ (by simp) _
end zl0
end Go.Proofs.YtfdbokipgofcdaaGreatDoor

namespace Go.Proofs.YtfdbokipgofcdaaGreatDoor
open Go.RowKit Go.Maps
namespace Pl
end Pl
namespace zh6
def layV (b : Nat) : Value := .iface 69 (.map (some b))
theorem zz6 {w w' : World} {B n : Nat} {T : TypeId} {v : Value} {xs : List Value} (h : w.ownsRow B T 1 v n xs) (b : Below w.heap.size w w') : w'.ownsRow B T 1 v n xs := by
 refine ⟨h.1, ?_⟩
 rcases h.2 with h0 | ⟨g, cap, cur, hv, hb, hg, rest⟩
 ·exact .inl h0
 ·exact .inr ⟨g, cap, cur, hv, hb, (b.block g (Array.getElem?_eq_some_iff.1 hg).1).trans hg, rest⟩
structure Ov (w : World) (B : Nat) (v : Value) (Bs : List Nat) (Ls : List (List Pl.Nd)) : Prop where
 row : w.ownsRow B 189 1 v Bs.length (Bs.map layV)
 len : Bs.length = Ls.length
 maps : ∀ (j : Nat) b L, Bs[j]? = some b → Ls[j]? = some L → B ≤ b ∧ w.ownsMap Tryz.prog 9 MapN.elem b 40 (MapN.mapOf L)
theorem Ov.call {w w' : World} {B : Nat} {v : Value} {Bs : List Nat} {Ls : List (List Pl.Nd)} (h : Ov w B v Bs Ls) (b : Below w.heap.size w w') : Ov w' B v Bs Ls :=
 ⟨zz6 h.row b, h.len, fun j c L h1 h2 => ⟨(h.maps j c L h1 h2).1, ze7.zn6 (h.maps j c L h1 h2).2 b⟩⟩
theorem map_not {w : World} {B b n m : Nat} {T : TypeId} {v : Value} {xs : List Value} {D : DataW Unit} (h : w.ownsRow B T 1 v n xs) (hm : w.ownsMap Tryz.prog 9 MapN.elem b m D) : some b ≠ v.ownBlock := fun e => by
 obtain ⟨es, clock, h1, _⟩ := hm
 rcases h.2 with ⟨rfl, _⟩ | ⟨g, cap, cur, rfl, _, hg, _⟩
 ·cases e
 ·cases e
  rw [hg] at h1
  cases h1
theorem Ov.put {w w' : World} {B b : Nat} {v v' : Value} {Bs : List Nat} {Ls : List (List Pl.Nd)} {L : List Pl.Nd} (h : Ov w B v Bs Ls) (hm : w.ownsMap Tryz.prog 9 MapN.elem b 40 (MapN.mapOf L)) (hb : B ≤ b)
  (hr : w'.ownsRow B 189 1 v' (Bs.length + 1) (Bs.map layV ++ [layV b])) (hg : w.grownBy w' v.ownBlock) : Ov w' B v' (Bs ++ [b]) (Ls ++ [L]) := by
 refine ⟨by simpa using hr, by simp [h.len], fun j c M h1 h2 => ?_⟩
 by_cases e : j < Bs.length
 ·rw [List.getElem?_append_left e] at h1
  rw [List.getElem?_append_left (by rw [← h.len]; exact e)] at h2
  obtain ⟨h3, h4⟩ := h.maps j c M h1 h2
  exact ⟨h3, h4.kept hg (map_not h.row h4)⟩
 ·rw [List.getElem?_append_right (by omega)] at h1
  rw [List.getElem?_append_right (by rw [← h.len]; omega)] at h2
  have e0 : j - Bs.length = 0 := by
   have := (List.getElem?_eq_some_iff.1 h1).1
   simp at this; omega
  rw [e0] at h1
  rw [← h.len, e0] at h2
  simp at h1 h2
  subst h1 h2
  exact ⟨hb, hm.kept hg (map_not h.row hm)⟩
theorem infoL : (Tryz.prog.info? 189).map (fun i => (i.zero, i.size, i.bytes)) = some (some .nilIface, 1, 16) := by kernel_rfl
end zh6
end Go.Proofs.YtfdbokipgofcdaaGreatDoor

namespace Go.Proofs.YtfdbokipgofcdaaGreatDoor
open Go.RowKit Go.Maps
namespace zl0
theorem zw2 {w : World} {B : Nat} {v : Value} {Bs : List Nat} {Ls : List (List Pl.Nd)} (h : zh6.Ov w B v Bs Ls) : ∃ a cap, v = .slice a Ls.length cap := by
 rw [← h.len]
 rcases h.row.2 with ⟨rfl, h0⟩ | ⟨g, cap, cur, rfl, _⟩
 ·exact ⟨none, 0, by rw [h0]⟩
 ·exact ⟨_, _, rfl⟩
theorem ov_cell {w : World} {B cap n : Nat} {a : Option Addr} {Bs : List Nat} {Ls : List (List Pl.Nd)} (h : zh6.Ov w B (.slice a n cap) Bs Ls) {k b : Nat} (hk : Bs[k]? = some b) : ∃ g, a = some ⟨g, 0, none⟩ ∧ w.cell? ⟨g, k, none⟩ = some (.iface 69 (.map (some b))) := by
 have hlt := (List.getElem?_eq_some_iff.1 hk).1
 rcases h.row.2 with ⟨hx, h0⟩ | ⟨g, cap', cur, hv, hb, hg, hc, hm, hsz, ht⟩
 ·omega
 ·injection hv with e1 e2 e3
  refine ⟨g, e1, ?_⟩
  rw [cell_of_row w g k cur _ (0, 0) hg, ← Array.getElem?_toList, ← List.getElem?_take_of_lt (show k < Bs.length * 1 by omega), ht, List.getElem?_map, hk]
  rfl
theorem tree_all {L : List Pl.Nd} (h : Pl.za2 L = true) : ∀ n ∈ L, Pl.zb6 n = true := by
 simp only [Pl.za2, Bool.and_eq_true, decide_eq_true_eq] at h
 exact Pl.zu9 L _ _ h.2
structure At (w wr : World) (a0 a1 a2 a3 : Bool) (ns : List (Option Pl.Nd)) (k : Nat) (s : Pl.Sg) : Prop where
 bel : Below w.heap.size w wr
 box : Mem.Blk wr w.heap.size #[.bool a0, .bool a1, .bool a2, .bool a3] 206
 res : Mem.Blk wr (w.heap.size + 1) Pl.Sg.zero.cs.toArray 208
 seen : Mem.Blk wr (w.heap.size + 1 + 1) s.cs.toArray 208
 len : s.have'.length = 4
 mark : 0 ≤ s.node.mark ∧ s.node.mark ≤ 8
 go : Pl.goD k s (ns.drop k) = Pl.goD 0 Pl.Sg.zero ns
structure EndAt (w wr : World) (s : Pl.Sg) : Prop where
 bel : Below w.heap.size w wr
 res : Mem.Blk wr (w.heap.size + 1) Pl.Sg.zero.cs.toArray 208
 seen : Mem.Blk wr (w.heap.size + 1 + 1) s.cs.toArray 208
 mark : 0 ≤ s.node.mark ∧ s.node.mark ≤ 8
theorem At.call {w wr wr' : World} {a0 a1 a2 a3 : Bool} {ns : List (Option Pl.Nd)} {k : Nat} {s : Pl.Sg} (h : At w wr a0 a1 a2 a3 ns k s) (b : Below wr.heap.size wr wr') : At w wr' a0 a1 a2 a3 ns k s :=
 ⟨h.bel.trans (b.mono h.bel.size), h.box.call b, h.res.call b, h.seen.call b, h.len, h.mark, h.go⟩
set_option linter.unusedSimpArgs false in
set_option maxRecDepth 100000 in
set_option maxHeartbeats 4000000 in
theorem dec_any (q : Addr) (p : ByteArray) (a0 a1 a2 a3 : Bool) (B : Nat) (v : Value) (Bs : List Nat) (Ls : List (List Pl.Nd)) (w : World) (hq : w.cell? q = some v) (hql : q.block < w.heap.size) (hov : zh6.Ov w B v Bs Ls) (h4 : Ls.length ≤ 4) (htr : ∀ L ∈ Ls, Pl.za2 L = true) (hp : p.size ≤ 1048576) :
  Calls Tryz.prog 167 #[.string p, .agg #[.bool a0, .bool a1, .bool a2, .bool a3], .pointer (some q)] w fun e w' => e = .returned (.agg (Pl.decS (Pl.nsOf [a0, a1, a2, a3] Ls p)).cs.toArray) ∧ Below w.heap.size w w' := by
 obtain ⟨a, cap, rfl⟩ := zw2 hov
 have HLE := hide hov.len
 have HOV := hide hov
 have HTR := hide htr
 have HQ : Hid (∀ wr, Below w.heap.size w wr → wr.cell? q = some (.slice a Ls.length cap)) := fun wr b => (b.cell hql).trans hq
 have HNG := hide (fun k a L => Pl.ns_get p [a0, a1, a2, a3] Ls k a L)
 have HNL := hide (Pl.ns_len p [a0, a1, a2, a3] Ls (by simpa using h4))
 have ED : Hid (Pl.decS (Pl.nsOf [a0, a1, a2, a3] Ls p) = Pl.upS (Pl.goD 0 Pl.Sg.zero (Pl.nsOf [a0, a1, a2, a3] Ls p))) := rfl
 generalize Pl.nsOf [a0, a1, a2, a3] Ls p = ns at HNG HNL ED ⊢
 generalize Pl.decS ns = R at ED ⊢
 have hm : ∀ (b : Nat) (w : World), (method 189 69 (.map (some b)) "loop.example/g00449/impl.at").run Tryz.prog w = .ok (187, .map (some b)) w := fun _ _ => by kernel_rfl
 clear hov htr hq
 have b0 : Below w.heap.size w (((w.alloc (.cells #[.bool a0, .bool a1, .bool a2, .bool a3] 206)).alloc (.cells Pl.Sg.zero.cs.toArray 208)).alloc (.cells Pl.Sg.zero.cs.toArray 208)) := (((Below.refl _ _).alloc (Nat.le_refl _) _).alloc (by simp) _).alloc (by simp; omega) _
 have A0 : Hid (At w (((w.alloc (.cells #[.bool a0, .bool a1, .bool a2, .bool a3] 206)).alloc (.cells Pl.Sg.zero.cs.toArray 208)).alloc (.cells Pl.Sg.zero.cs.toArray 208)) a0 a1 a2 a3 ns 0 Pl.Sg.zero) := by
  refine ⟨b0, ((Mem.Blk.new _ _ _).alloc _).alloc _, Mem.Blk.alloc (Mem.zh2 _ _ _) _, ?_, rfl, by decide, rfl⟩
  have h := Mem.zh2 (w.alloc (.cells #[.bool a0, .bool a1, .bool a2, .bool a3] 206)) (.cells Pl.Sg.zero.cs.toArray 208) (.cells Pl.Sg.zero.cs.toArray 208)
  rw [show (w.alloc (.cells #[.bool a0, .bool a1, .bool a2, .bool a3] 206)).heap.size = w.heap.size + 1 by simp] at h
  exact h
 have q0 := za HQ _ b0
 have hR : w.heap.size ≤ w.heap.size + 1 := by omega
 simp only [Pl.Sg.zero, Pl.zi1, Pl.Sg.cs, List.map_cons, List.map_nil, List.cons_append, List.nil_append] at A0 q0
 go_enter Tryz.func167, Tryz.ntmps167
 go_wp2
 go_loopw [12] (fun i wr => ∃ k : Nat, k ≤ Ls.length ∧ i = .int .i64 (k : Int) ∧ Hid (∃ s, At w wr a0 a1 a2 a3 ns k s)) (fun i _ => Ls.length - (intOf i).toNat)
 case atStart => exact ⟨0, Nat.zero_le _, rfl, ⟨_, za A0⟩⟩
 case round =>
  obtain ⟨k, hk, rfl, HA⟩ := hrel
  obtain ⟨s, A⟩ := za HA
  clear HA A0
  obtain ⟨tt, ⟨sp, sk, sd, st, sm⟩, sh⟩ := s
  obtain ⟨e0, e1, e2, e3, rfl⟩ : ∃ h0 h1 h2 h3, sh = [h0, h1, h2, h3] := by
   match sh, A.len with
   | [a, b, c, d], _ => exact ⟨a, b, c, d, rfl⟩
  by_cases hlt : k < Ls.length
  ·obtain ⟨L, hL⟩ : ∃ L, Ls[k]? = some L := ⟨_, List.getElem?_eq_getElem hlt⟩
   obtain ⟨b, hb⟩ : ∃ b, Bs[k]? = some b := ⟨_, List.getElem?_eq_getElem (by rw [za HLE]; exact hlt)⟩
   obtain ⟨x, hx⟩ : ∃ x, [a0, a1, a2, a3][k]? = some x := ⟨_, List.getElem?_eq_getElem (by simp; omega)⟩
   have hnk := za HNG k x L hx hL
   have y1 : (k : Int) < (Ls.length : Int) := by omega
   have hix : 0 ≤ (k : Int) ∧ (k : Int) < 4 := by omega
   have hix2 : 0 ≤ (k : Int) ∧ (k : Int) < (Ls.length : Int) := by omega
   have x0 : wr.cell? ⟨w.heap.size, k, none⟩ = some (.bool x) := by
    rw [A.box.cell k, List.getElem?_toArray]
    obtain rfl | rfl | rfl | rfl : k = 0 ∨ k = 1 ∨ k = 2 ∨ k = 3 := by omega
    all_goals (simp at hx; subst hx; rfl)
   cases x
   ·have hgs : Pl.goD k ⟨tt, ⟨sp, sk, sd, st, sm⟩, [e0, e1, e2, e3]⟩ (ns.drop k) = Pl.goD (k + 1) ⟨tt, ⟨sp, sk, sd, st, sm⟩, [e0, e1, e2, e3]⟩ (ns.drop (k + 1)) := Pl.go_step (x := none) hnk k _
    have A2 : Hid (∃ s, At w wr a0 a1 a2 a3 ns (k + 1) s) := ⟨_, A.bel, A.box, A.res, A.seen, A.len, A.mark, by rw [← A.go, hgs]⟩
    clear hnk hgs A hL hb hx
    go_wp2
    go_roundw
    case rel => exact ⟨k + 1, by omega, by go_num, A2⟩
    case measure => simp [intOf]; omega
   ·have q1 := za HQ wr A.bel
    have OV := (za HOV).call A.bel
    obtain ⟨g, rfl, o0⟩ := ov_cell OV hb
    obtain ⟨-, om⟩ := OV.maps k b L hb hL
    have hapL := Pl.zy9 (za HTR L (List.mem_of_getElem? hL))
    have hnodeL := za HTR L (List.mem_of_getElem? hL)
    simp only [if_true] at hnk
    cases hf : Pl.lk L p with
    | none =>
     have hmiss : ∀ n ∈ L, n.path ≠ p := fun n hn => by simpa using List.find?_eq_none.1 hf n hn
     have hat := hide (fun W (bb : Below wr.heap.size wr W) => at_some b 40 (MapN.mapOf L) p ⟨⟨#[]⟩, 0, ⟨#[]⟩, 0, 0⟩ W hp (ze7.zn6 om bb) (Maps.atKey_of_not_has (MapN.has_no hmiss) _) false (MapN.has_no hmiss))
     rw [hf] at hnk
     have hgs : Pl.goD k ⟨tt, ⟨sp, sk, sd, st, sm⟩, [e0, e1, e2, e3]⟩ (ns.drop k) = Pl.goD (k + 1) ⟨tt, ⟨sp, sk, sd, st, sm⟩, [e0, e1, e2, e3]⟩ (ns.drop (k + 1)) := Pl.go_step hnk k _
     simp only [Pl.Nd.val] at hat
     have KA := hide A
     have EG := hide hgs
     clear hnk hgs A hL hb hx OV om hapL hnodeL hmiss
     go_wp2_with fail
     refine (za hat _ (Below.refl _ _)).mono ?_
     rintro e w1 ⟨rfl, b2⟩
     have A2 : Hid (∃ s, At w (w1.alloc (.cells #[.string ⟨#[]⟩, .int .i64 0, .string ⟨#[]⟩, .int .i64 0, .int .i64 0] 89)) a0 a1 a2 a3 ns (k + 1) s) := by
      have A3 := ((za KA).call b2).call ((Below.refl _ _).alloc (Nat.le_refl _) (.cells #[.string ⟨#[]⟩, .int .i64 0, .string ⟨#[]⟩, .int .i64 0, .int .i64 0] 89))
      exact ⟨_, A3.bel, A3.box, A3.res, A3.seen, A3.len, A3.mark, by rw [← A3.go, za EG]⟩
     clear KA EG b2 hat
     go_wp2
     go_roundw
     case rel => exact ⟨k + 1, by omega, by go_num, A2⟩
     case measure => simp [intOf]; omega
    | some m =>
     have hm1 := List.mem_of_find?_eq_some hf
     have hm2 : m.path = p := by simpa using List.find?_some hf
     obtain ⟨y2, y3⟩ := MapN.at_yes hapL hm1
     rw [hm2] at y2 y3
     have hmb := (Pl.zh3 (tree_all hnodeL m hm1)).2.2.1
     have hat := hide (fun W (bb : Below wr.heap.size wr W) => at_some b 40 (MapN.mapOf L) p m W hp (ze7.zn6 om bb) (y3 _) true y2)
     rw [hf] at hnk
     have hgs : Pl.goD k ⟨tt, ⟨sp, sk, sd, st, sm⟩, [e0, e1, e2, e3]⟩ (ns.drop k) = if Pl.zh8 m then Pl.zb8 ⟨tt, ⟨sp, sk, sd, st, sm⟩, [e0, e1, e2, e3]⟩ k m else Pl.goD (k + 1) (Pl.zb8 ⟨tt, ⟨sp, sk, sd, st, sm⟩, [e0, e1, e2, e3]⟩ k m) (ns.drop (k + 1)) := Pl.go_step hnk k _
     have htk := hide (fun W (hbk : Mem.Blk W (w.heap.size + 1 + 1) (Pl.Sg.cs ⟨tt, ⟨sp, sk, sd, st, sm⟩, [e0, e1, e2, e3]⟩).toArray 208) => yh6 (w.heap.size + 1 + 1) k ⟨tt, ⟨sp, sk, sd, st, sm⟩, [e0, e1, e2, e3]⟩ m W (by omega) rfl hbk)
     have TL := hide (Pl.take_len ⟨tt, ⟨sp, sk, sd, st, sm⟩, [e0, e1, e2, e3]⟩ k m)
     have TM := hide (Pl.take_mark (k := k) A.mark hmb)
     have KA := hide A
     have EG := hide hgs
     clear hnk hgs A hL hb hx OV om hapL hnodeL hf hm1 hm2 y2 y3 hmb
     generalize Pl.zb8 ⟨tt, ⟨sp, sk, sd, st, sm⟩, [e0, e1, e2, e3]⟩ k m = s2 at htk TL TM EG
     cases hsb : Pl.zh8 m
     ·rw [hsb] at htk EG
      obtain ⟨mp, mk, md, mt, mm⟩ := m
      simp only [Pl.Nd.val] at hat htk
      go_wp2_with fail
      refine (za hat _ (Below.refl _ _)).mono ?_
      rintro e w1 ⟨rfl, b2⟩
      have A3 := hide (((za KA).call b2).call ((Below.refl _ _).alloc (Nat.le_refl _) (.cells #[.string mp, .int .i64 mk, .string md, .int .i64 mt, .int .i64 mm] 89)))
      clear KA b2 hat
      go_wp2_with fail
      refine (za htk _ (za A3).seen).mono ?_
      rintro e w2 ⟨rfl, hs2, g2⟩
      have A4 : Hid (∃ s, At w w2 a0 a1 a2 a3 ns (k + 1) s) := ⟨s2, (za A3).bel.grown g2 (za A3).bel.size (fun q hq => by cases hq; omega), (za A3).box.grown g2 (fun e => by have := Option.some.inj e; omega), (za A3).res.grown g2 (fun e => by have := Option.some.inj e; omega), hs2, za TL, za TM, by rw [← (za A3).go, za EG]; rfl⟩
      clear A3 hs2 g2 htk EG TL TM
      go_wp2
      go_roundw
      case rel => exact ⟨k + 1, by omega, by go_num, A4⟩
      case measure => simp [intOf]; omega
     ·rw [hsb] at htk EG
      obtain ⟨mp, mk, md, mt, mm⟩ := m
      simp only [Pl.Nd.val] at hat htk
      go_wp2_with fail
      refine (za hat _ (Below.refl _ _)).mono ?_
      rintro e w1 ⟨rfl, b2⟩
      have A3 := hide (((za KA).call b2).call ((Below.refl _ _).alloc (Nat.le_refl _) (.cells #[.string mp, .int .i64 mk, .string md, .int .i64 mt, .int .i64 mm] 89)))
      clear KA b2 hat
      go_wp2_with fail
      refine (za htk _ (za A3).seen).mono ?_
      rintro e w2 ⟨rfl, hs2, g2⟩
      have GO := hide ((za A3).go)
      have A4 : Hid (Mem.Blk w2 (w.heap.size + 1) Pl.Sg.zero.cs.toArray 208 ∧ Below w.heap.size w w2) := ⟨(za A3).res.grown g2 (fun e => by have := Option.some.inj e; omega), (za A3).bel.grown g2 (za A3).bel.size (fun q hq => by cases hq; omega)⟩
      clear A3 g2 htk q1 o0 x0
      obtain ⟨tt2, ⟨sp2, sk2, sd2, st2, sm2⟩, sh2⟩ := s2
      obtain ⟨e4, e5, e6, e7, rfl⟩ : ∃ h0 h1 h2 h3, sh2 = [h0, h1, h2, h3] := by
       match sh2, za TL with
       | [a, b, c, d], _ => exact ⟨a, b, c, d, rfl⟩
      have KA : Hid (EndAt w w2 ⟨tt2, ⟨sp2, sk2, sd2, st2, sm2⟩, [e4, e5, e6, e7]⟩) := ⟨(za A4).2, (za A4).1, hs2, za TM⟩
      have EQ : Hid (R = Pl.upS ⟨tt2, ⟨sp2, sk2, sd2, st2, sm2⟩, [e4, e5, e6, e7]⟩) := by rw [za ED, ← za GO, za EG]; exact rfl
      clear hs2 A4 TL TM EG GO
      have c0 := (za KA).seen.cell 0
      have c1 := (za KA).seen.cell 1
      have c2 := (za KA).seen.cell 2
      have c3 := (za KA).seen.cell 3
      have c4 := (za KA).seen.cell 4
      have c5 := (za KA).seen.cell 5
      have c6 := (za KA).seen.cell 6
      have c7 := (za KA).seen.cell 7
      have c8 := (za KA).seen.cell 8
      have c9 := (za KA).seen.cell 9
      simp only [Pl.Sg.cs, List.map_cons, List.map_nil, List.cons_append, List.nil_append, kGs] at c0 c1 c2 c3 c4 c5 c6 c7 c8 c9
      have hup := hide (fun W => up_any ⟨tt2, ⟨sp2, sk2, sd2, st2, sm2⟩, [e4, e5, e6, e7]⟩ W rfl (by have := (za KA).mark; omega))
      have HU4 := hide (Pl.up_len (s := ⟨tt2, ⟨sp2, sk2, sd2, st2, sm2⟩, [e4, e5, e6, e7]⟩) rfl)
      have ER : Hid (R = Pl.upS ⟨tt2, ⟨sp2, sk2, sd2, st2, sm2⟩, [e4, e5, e6, e7]⟩) := za EQ
      generalize Pl.upS ⟨tt2, ⟨sp2, sk2, sd2, st2, sm2⟩, [e4, e5, e6, e7]⟩ = U at hup HU4 ER
      obtain ⟨ut, ⟨up, uk, ud, un, um⟩, uh⟩ := U
      obtain ⟨g0, g1, g2, g3, rfl⟩ : ∃ h0 h1 h2 h3, uh = [h0, h1, h2, h3] := by
       match uh, za HU4 with
       | [a, b, c, d], _ => exact ⟨a, b, c, d, rfl⟩
      rw [show (Pl.Sg.cs ⟨tt2, ⟨sp2, sk2, sd2, st2, sm2⟩, [e4, e5, e6, e7]⟩).toArray = #[.bool tt2, .string sp2, .int .i64 sk2, .string sd2, .int .i64 st2, .int .i64 sm2, .bool e4, .bool e5, .bool e6, .bool e7] from rfl, show (Pl.Sg.cs ⟨ut, ⟨up, uk, ud, un, um⟩, [g0, g1, g2, g3]⟩).toArray = #[.bool ut, .string up, .int .i64 uk, .string ud, .int .i64 un, .int .i64 um, .bool g0, .bool g1, .bool g2, .bool g3] from rfl] at hup
      go_wp2_with fail
      refine (za hup _).mono ?_
      rintro e wU ⟨rfl, bU⟩
      have RU := (za KA).res.call bU
      have BU := (za KA).bel.trans (bU.mono (za KA).bel.size)
      clear c0 c1 c2 c3 c4 c5 c6 c7 c8 c9 hup bU
      have c0 := RU.cell 0
      have c1 := RU.cell 1
      have c2 := RU.cell 2
      have c3 := RU.cell 3
      have c4 := RU.cell 4
      have c5 := RU.cell 5
      have c6 := RU.cell 6
      have c7 := RU.cell 7
      have c8 := RU.cell 8
      have c9 := RU.cell 9
      have f0 := RU.fr 0
      have f1 := RU.fr 1
      have f2 := RU.fr 2
      have f3 := RU.fr 3
      have f4 := RU.fr 4
      have f5 := RU.fr 5
      have f6 := RU.fr 6
      have f7 := RU.fr 7
      have f8 := RU.fr 8
      have f9 := RU.fr 9
      simp only [Pl.Sg.zero, Pl.zi1, Pl.Sg.cs, List.map_cons, List.map_nil, List.cons_append, List.nil_append, kGs] at c0 c1 c2 c3 c4 c5 c6 c7 c8 c9
      clear RU KA
      go_wp2
      refine bodyPost_ret (v := .agg #[.bool ut, .string up, .int .i64 uk, .string ud, .int .i64 un, .int .i64 um, .bool g0, .bool g1, .bool g2, .bool g3]) (by simp [results, Tryz.results167, go_sem, c0, c1, c2, c3, c4, c5, c6, c7, c8, c9]) rfl ⟨by rw [za ER]; rfl, ?_⟩
      exact ((((((((((BU.setCell (p := ⟨w.heap.size + 1, 0, none⟩) hR _).setCell (p := ⟨w.heap.size + 1, 1, none⟩) hR _).setCell (p := ⟨w.heap.size + 1, 2, none⟩) hR _).setCell (p := ⟨w.heap.size + 1, 3, none⟩) hR _).setCell (p := ⟨w.heap.size + 1, 4, none⟩) hR _).setCell (p := ⟨w.heap.size + 1, 5, none⟩) hR _).setCell (p := ⟨w.heap.size + 1, 6, none⟩) hR _).setCell (p := ⟨w.heap.size + 1, 7, none⟩) hR _).setCell (p := ⟨w.heap.size + 1, 8, none⟩) hR _).setCell (p := ⟨w.heap.size + 1, 9, none⟩) hR _)
  ·obtain rfl : k = Ls.length := by omega
   have y1 : ¬ ((Ls.length : Int) < (Ls.length : Int)) := by omega
   have KA := hide A
   clear A
   have c0 := (za KA).seen.cell 0
   have c1 := (za KA).seen.cell 1
   have c2 := (za KA).seen.cell 2
   have c3 := (za KA).seen.cell 3
   have c4 := (za KA).seen.cell 4
   have c5 := (za KA).seen.cell 5
   have c6 := (za KA).seen.cell 6
   have c7 := (za KA).seen.cell 7
   have c8 := (za KA).seen.cell 8
   have c9 := (za KA).seen.cell 9
   simp only [Pl.Sg.cs, List.map_cons, List.map_nil, List.cons_append, List.nil_append, kGs] at c0 c1 c2 c3 c4 c5 c6 c7 c8 c9
   have hup := hide (fun W => up_any ⟨tt, ⟨sp, sk, sd, st, sm⟩, [e0, e1, e2, e3]⟩ W rfl (by have := (za KA).mark; omega))
   have HU4 := hide (Pl.up_len (s := ⟨tt, ⟨sp, sk, sd, st, sm⟩, [e0, e1, e2, e3]⟩) rfl)
   have ER : Hid (R = Pl.upS ⟨tt, ⟨sp, sk, sd, st, sm⟩, [e0, e1, e2, e3]⟩) := by rw [za ED, ← (za KA).go, Pl.go_end (by rw [za HNL]; exact Nat.le_refl _)]; exact rfl
   generalize Pl.upS ⟨tt, ⟨sp, sk, sd, st, sm⟩, [e0, e1, e2, e3]⟩ = U at hup HU4 ER
   obtain ⟨ut, ⟨up, uk, ud, un, um⟩, uh⟩ := U
   obtain ⟨g0, g1, g2, g3, rfl⟩ : ∃ h0 h1 h2 h3, uh = [h0, h1, h2, h3] := by
    match uh, za HU4 with
    | [a, b, c, d], _ => exact ⟨a, b, c, d, rfl⟩
   rw [show (Pl.Sg.cs ⟨tt, ⟨sp, sk, sd, st, sm⟩, [e0, e1, e2, e3]⟩).toArray = #[.bool tt, .string sp, .int .i64 sk, .string sd, .int .i64 st, .int .i64 sm, .bool e0, .bool e1, .bool e2, .bool e3] from rfl, show (Pl.Sg.cs ⟨ut, ⟨up, uk, ud, un, um⟩, [g0, g1, g2, g3]⟩).toArray = #[.bool ut, .string up, .int .i64 uk, .string ud, .int .i64 un, .int .i64 um, .bool g0, .bool g1, .bool g2, .bool g3] from rfl] at hup
   go_wp2_with fail
   refine (za hup _).mono ?_
   rintro e wU ⟨rfl, bU⟩
   have RU := (za KA).res.call bU
   have BU := (za KA).bel.trans (bU.mono (za KA).bel.size)
   clear c0 c1 c2 c3 c4 c5 c6 c7 c8 c9 hup bU
   have c0 := RU.cell 0
   have c1 := RU.cell 1
   have c2 := RU.cell 2
   have c3 := RU.cell 3
   have c4 := RU.cell 4
   have c5 := RU.cell 5
   have c6 := RU.cell 6
   have c7 := RU.cell 7
   have c8 := RU.cell 8
   have c9 := RU.cell 9
   have f0 := RU.fr 0
   have f1 := RU.fr 1
   have f2 := RU.fr 2
   have f3 := RU.fr 3
   have f4 := RU.fr 4
   have f5 := RU.fr 5
   have f6 := RU.fr 6
   have f7 := RU.fr 7
   have f8 := RU.fr 8
   have f9 := RU.fr 9
   simp only [Pl.Sg.zero, Pl.zi1, Pl.Sg.cs, List.map_cons, List.map_nil, List.cons_append, List.nil_append, kGs] at c0 c1 c2 c3 c4 c5 c6 c7 c8 c9
   clear RU KA
   go_wp2
   refine bodyPost_ret (v := .agg #[.bool ut, .string up, .int .i64 uk, .string ud, .int .i64 un, .int .i64 um, .bool g0, .bool g1, .bool g2, .bool g3]) (by simp [results, Tryz.results167, go_sem, c0, c1, c2, c3, c4, c5, c6, c7, c8, c9]) rfl ⟨by rw [za ER]; rfl, ?_⟩
   exact ((((((((((BU.setCell (p := ⟨w.heap.size + 1, 0, none⟩) hR _).setCell (p := ⟨w.heap.size + 1, 1, none⟩) hR _).setCell (p := ⟨w.heap.size + 1, 2, none⟩) hR _).setCell (p := ⟨w.heap.size + 1, 3, none⟩) hR _).setCell (p := ⟨w.heap.size + 1, 4, none⟩) hR _).setCell (p := ⟨w.heap.size + 1, 5, none⟩) hR _).setCell (p := ⟨w.heap.size + 1, 6, none⟩) hR _).setCell (p := ⟨w.heap.size + 1, 7, none⟩) hR _).setCell (p := ⟨w.heap.size + 1, 8, none⟩) hR _).setCell (p := ⟨w.heap.size + 1, 9, none⟩) hR _)
end zl0
end Go.Proofs.YtfdbokipgofcdaaGreatDoor

