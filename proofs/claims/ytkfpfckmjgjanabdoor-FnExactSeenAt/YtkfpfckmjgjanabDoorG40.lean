/- Several texts of one claim in one file: WAllS, WMaxS, WPickA. -/
import Derived.Test.YtkfpfckmjgjanabDoorG17
import Derived.Test.YtkfpfckmjgjanabDoorG04
import Derived.Test.YtkfpfckmjgjanabDoorProg
import Derived.WalkKit
import Derived.WalkSpells
import Derived.Test.YtkfpfckmjgjanabDoorG32
/- The specification's l04All: the numbers of all layers. -/
namespace Go.Proofs.YtkfpfckmjgjanabDoor
open Go.RowKit
namespace WPick
theorem infoI : (Tryd.prog.info? 3).map (fun i => (i.zero, i.size, i.bytes)) = some (some (.int .i64 0), 1, 8) := by kernel_rfl
def intsV (ks : List Nat) : List Value := ks.map (fun k : Nat => Value.int .i64 (k : Int))
/-- A row of numbers of the call's own. -/
def ownI (w : World) (B : Nat) (v : Value) (ks : List Nat) : Prop := w.ownsRow B 3 1 v ks.length (intsV ks)
theorem ownI_call {w w' : World} {B : Nat} {v : Value} {ks : List Nat} (h : ownI w B v ks) (b : Below w.heap.size w w') : ownI w' B v ks := by
  refine ⟨h.1, ?_⟩
  rcases h.2 with h0 | ⟨g, cap, cur, hv, hb, hg, rest⟩
  · exact .inl h0
  · exact .inr ⟨g, cap, cur, hv, hb, (b.block g (Array.getElem?_eq_some_iff.1 hg).1).trans hg, rest⟩
theorem ownI_snoc {w : World} {B : Nat} {v : Value} {ks : List Nat} {k : Nat} (h : w.ownsRow B 3 1 v (ks.length + 1) (intsV ks ++ [.int .i64 (k : Int)])) : ownI w B v (ks ++ [k]) := by
  unfold ownI intsV
  rw [List.map_append, List.length_append]
  exact h
set_option linter.unusedSimpArgs false in
set_option maxRecDepth 100000 in
set_option maxHeartbeats 1000000 in
theorem all_any (n : Nat) (w : World) (hn : n ≤ 4) :
    Calls Tryd.prog 56 #[.int .i64 (n : Int)] w fun e w' => ∃ v, e = .returned v ∧ ownI w' w.heap.size v (List.range n) ∧ Below w.heap.size w w' := by
  obtain ⟨i0, hi, hz0, hz1, hz2⟩ := info_parts infoI
  have A0 : Hid (Below w.heap.size w (w.alloc (.cells #[] 3)) ∧ ownI (w.alloc (.cells #[] 3)) w.heap.size (.slice (some ⟨w.heap.size, 0, none⟩) 0 0) (List.range 0)) := ⟨(Below.refl _ _).alloc (Nat.le_refl _) _, ⟨rfl, .inr ⟨w.heap.size, 0, #[], rfl, Nat.le_refl _, heap_alloc_new _ _, Nat.le_refl _, Nat.zero_le _, rfl, rfl⟩⟩⟩
  go_enter Tryd.func56, Tryd.ntmps56
  go_wp2
  go_loopw [3, 4] (fun v i wr => ∃ k : Nat, k ≤ n ∧ i = .int .i64 (k : Int) ∧ Hid (Below w.heap.size w wr ∧ ownI wr w.heap.size v (List.range k))) (fun _ i _ => n - (intOf i).toNat)
  case atStart => exact ⟨0, Nat.zero_le _, rfl, A0⟩
  case round =>
    obtain ⟨k, hk, rfl, HA⟩ := hrel
    clear A0
    by_cases hlt : k < n
    · have y1 : (k : Int) < (n : Int) := by omega
      have bA : Below wr.heap.size wr (wr.alloc (.cells #[.int .i64 (k : Int)] 3)) := (Below.refl _ _).alloc (Nat.le_refl _) _
      have HR := hide (ownI_call (unhide HA).2 bA)
      have HQ := hide (fun w2 h2 => Mem.below_append (o := .cells #[.int .i64 (k : Int)] 3) (w1 := w2) (unhide HA).1 (Nat.le_refl _) (unhide HA).2 h2)
      have HSB := hide (unhide HA).1.size
      unfold ownI at HR
      rw [List.length_range] at HR
      clear HA bA
      go_wp2_with (at_builtin; refine wpList_append_own _ rfl _ _ 84 rfl w.heap.size 3 i0 (.int .i64 0) 1 8 Tryd.underlying84 hi hz0 hz1 hz2 rfl (by decide) _ _ _ rfl (unhide HR) ⟨wr.heap.size, 0, none⟩ 1 1 [.int .i64 (k : Int)] rfl rfl (Mem.one_new _ _ _) (fun u hu => by simp at hu; subst hu; rfl) (by unfold maxLen; omega) (by omega) (by have := unhide HSB; simp; omega) ?_)
      intro v' w2 own' hgrow _
      have A2 : Hid (Below w.heap.size w w2 ∧ ownI w2 w.heap.size v' (List.range (k + 1))) := ⟨unhide HQ w2 hgrow, by rw [List.range_succ]; exact ownI_snoc (by rw [List.length_range]; exact own')⟩
      clear HR HQ own' hgrow HSB
      go_wp2
      go_roundw
      case rel => exact ⟨k + 1, by omega, by go_num, A2⟩
      case measure => simp [intOf]; omega
    · obtain rfl : k = n := by omega
      have y1 : ¬ ((k : Int) < (k : Int)) := by omega
      go_wp2
      go_ret
      exact ⟨_, rfl, (unhide HA).2, (unhide HA).1⟩
end WPick
end Go.Proofs.YtkfpfckmjgjanabDoor

/- The specification's l01Max. -/
namespace Go.Proofs.YtkfpfckmjgjanabDoor
open Go.RowKit
namespace WPick
set_option maxRecDepth 100000 in
theorem max_any (x y : Int) (w : World) : Calls Tryd.prog 124 #[.int .i64 x, .int .i64 y] w fun e w' => e = .returned (.int .i64 (max x y)) ∧ w' = w := by
  by_cases h : y < x
  · go_enter Tryd.func124, Tryd.ntmps124
    go_wp2
    go_ret
    exact ⟨by rw [show max x y = x by omega]; rfl, rfl⟩
  · go_enter Tryd.func124, Tryd.ntmps124
    go_wp2
    go_ret
    exact ⟨by rw [show max x y = y by omega]; rfl, rfl⟩
end WPick
end Go.Proofs.YtkfpfckmjgjanabDoor

/- What stands while the specification picks. -/
namespace Go.Proofs.YtkfpfckmjgjanabDoor
open Go.RowKit
namespace WPick
def cellsO (o : Pl.Ot) (v : Value) : List Value := [.bool o.ok, .string o.node.path, .int .i64 o.node.kind, .string o.node.data, .int .i64 o.node.time, .int .i64 o.node.mark, v]
structure AtP (w W : World) (o : Pl.Ot) (v : Value) : Prop where
  bel : Below w.heap.size w W
  res : Mem.Blk W w.heap.size (cellsO ⟨false, Pl.zeroN, []⟩ (.slice none 0 0)).toArray 86
  out : Mem.Blk W (w.heap.size + 1) (cellsO o v).toArray 86
  own : ownI W (w.heap.size + 2) v o.parts
theorem AtP.call {w W W' : World} {o : Pl.Ot} {v : Value} (h : AtP w W o v) (b : Below W.heap.size W W') : AtP w W' o v := ⟨h.bel.trans (b.mono h.bel.size), h.res.call b, h.out.call b, ownI_call h.own b⟩
theorem AtP.alloc {w W : World} {o : Pl.Ot} {v : Value} (h : AtP w W o v) (x : Obj) : AtP w (W.alloc x) o v := h.call ((Below.refl _ _).alloc (Nat.le_refl _) x)
theorem ownI_set {w : World} {B : Nat} {v : Value} {ks : List Nat} (h : ownI w B v ks) (a : Addr) (u : Value) (ha : a.block < B) : ownI (w.setCell a u) B v ks := by
  refine ⟨h.1, ?_⟩
  rcases h.2 with h0 | ⟨g, cap, cur, hv, hb, hg, rest⟩
  · exact .inl h0
  · exact .inr ⟨g, cap, cur, hv, hb, (heap_setCell_other w a g u (by omega)).trans hg, rest⟩
theorem ownI_mono {w : World} {B B' : Nat} {v : Value} {ks : List Nat} (h : ownI w B v ks) (hb : B' ≤ B) : ownI w B' v ks := by
  refine ⟨h.1, ?_⟩
  rcases h.2 with h0 | ⟨g, cap, cur, hv, hb2, rest⟩
  · exact .inl h0
  · exact .inr ⟨g, cap, cur, hv, Nat.le_trans hb hb2, rest⟩
theorem ownI_shape {w : World} {B : Nat} {v : Value} {ks : List Nat} (h : ownI w B v ks) : ∃ a cap, v = .slice a ks.length cap := Mem.own_shape h
/-- One cell of what is told is set. -/
theorem AtP.put {w W : World} {o o' : Pl.Ot} {v : Value} (h : AtP w W o v) (k : Nat) (u : Value) (e : (cellsO o v).set k u = cellsO o' v) (hp : o'.parts = o.parts) : AtP w (W.setCell ⟨w.heap.size + 1, k, none⟩ u) o' v := by
  refine ⟨h.bel.setCell (by show w.heap.size ≤ w.heap.size + 1; omega) _, h.res.far _ _ (by show w.heap.size ≠ w.heap.size + 1; omega), ?_, ?_⟩
  · have h2 := h.out.put k u
    rw [List.setIfInBounds_toArray, e] at h2
    exact h2
  · rw [hp]; exact ownI_set h.own _ _ (by show w.heap.size + 1 < w.heap.size + 2; omega)
theorem AtP.ok {w W : World} {o : Pl.Ot} {v : Value} (h : AtP w W o v) (x : Bool) : AtP w (W.setCell ⟨w.heap.size + 1, 0, none⟩ (.bool x)) ⟨x, o.node, o.parts⟩ v := h.put 0 _ rfl rfl
theorem AtP.mark {w W : World} {o : Pl.Ot} {v : Value} (h : AtP w W o v) (m : Int) : AtP w (W.setCell ⟨w.heap.size + 1, 5, none⟩ (.int .i64 m)) ⟨o.ok, ⟨o.node.path, o.node.kind, o.node.data, o.node.time, m⟩, o.parts⟩ v := h.put 5 _ rfl rfl
theorem AtP.node {w W : World} {o : Pl.Ot} {v : Value} (h : AtP w W o v) (p : ByteArray) (k : Int) (d : ByteArray) (t m : Int) : AtP w (((((W.setCell ⟨w.heap.size + 1, 1, none⟩ (.string p)).setCell ⟨w.heap.size + 1, 2, none⟩ (.int .i64 k)).setCell ⟨w.heap.size + 1, 3, none⟩ (.string d)).setCell ⟨w.heap.size + 1, 4, none⟩ (.int .i64 t)).setCell ⟨w.heap.size + 1, 5, none⟩ (.int .i64 m)) ⟨o.ok, ⟨p, k, d, t, m⟩, o.parts⟩ v :=
  ((((h.put (o' := ⟨o.ok, ⟨p, o.node.kind, o.node.data, o.node.time, o.node.mark⟩, o.parts⟩) 1 _ rfl rfl).put (o' := ⟨o.ok, ⟨p, k, o.node.data, o.node.time, o.node.mark⟩, o.parts⟩) 2 _ rfl rfl).put (o' := ⟨o.ok, ⟨p, k, d, o.node.time, o.node.mark⟩, o.parts⟩) 3 _ rfl rfl).put (o' := ⟨o.ok, ⟨p, k, d, t, o.node.mark⟩, o.parts⟩) 4 _ rfl rfl).put 5 _ rfl rfl
/-- One more has a part: behind the append, its row stored. -/
theorem AtP.more {w W W' : World} {o : Pl.Ot} {v v' : Value} {k : Nat} (h : AtP w W o v) (own' : W'.ownsRow (w.heap.size + 2) 3 1 v' (o.parts.length + 1) (intsV o.parts ++ [.int .i64 (k : Int)])) (g : W.grownBy W' v.ownBlock) : AtP w (W'.setCell ⟨w.heap.size + 1, 6, none⟩ v') ⟨o.ok, o.node, o.parts ++ [k]⟩ v' := by
  have hlt : ∀ q, v.ownBlock = some q → w.heap.size + 2 ≤ q := fun q hq => (World.ownsRow.lt h.own q hq).1
  refine ⟨(h.bel.grown g h.bel.size (fun q hq => by have := hlt q hq; omega)).setCell (by show w.heap.size ≤ w.heap.size + 1; omega) _, (h.res.grown g (fun e => by have := hlt _ e.symm; omega)).far _ _ (by show w.heap.size ≠ w.heap.size + 1; omega), ?_, ?_⟩
  · have h2 := (h.out.grown g (fun e => by have := hlt _ e.symm; omega)).put 6 v'
    rw [List.setIfInBounds_toArray] at h2
    exact h2
  · exact ownI_set (ownI_snoc own') _ _ (by show w.heap.size + 1 < w.heap.size + 2; omega)
/-- What is handed back. -/
theorem AtP.ret {w W : World} {o : Pl.Ot} {v : Value} (h : AtP w W o v) (x : Bool) (p : ByteArray) (k : Int) (d : ByteArray) (t m : Int) (u : Value) :
    Mem.Blk (((((((W.setCell ⟨w.heap.size, 0, none⟩ (.bool x)).setCell ⟨w.heap.size, 1, none⟩ (.string p)).setCell ⟨w.heap.size, 2, none⟩ (.int .i64 k)).setCell ⟨w.heap.size, 3, none⟩ (.string d)).setCell ⟨w.heap.size, 4, none⟩ (.int .i64 t)).setCell ⟨w.heap.size, 5, none⟩ (.int .i64 m)).setCell ⟨w.heap.size, 6, none⟩ u) w.heap.size #[.bool x, .string p, .int .i64 k, .string d, .int .i64 t, .int .i64 m, u] 86 ∧
    Below w.heap.size w (((((((W.setCell ⟨w.heap.size, 0, none⟩ (.bool x)).setCell ⟨w.heap.size, 1, none⟩ (.string p)).setCell ⟨w.heap.size, 2, none⟩ (.int .i64 k)).setCell ⟨w.heap.size, 3, none⟩ (.string d)).setCell ⟨w.heap.size, 4, none⟩ (.int .i64 t)).setCell ⟨w.heap.size, 5, none⟩ (.int .i64 m)).setCell ⟨w.heap.size, 6, none⟩ u) ∧
    ownI (((((((W.setCell ⟨w.heap.size, 0, none⟩ (.bool x)).setCell ⟨w.heap.size, 1, none⟩ (.string p)).setCell ⟨w.heap.size, 2, none⟩ (.int .i64 k)).setCell ⟨w.heap.size, 3, none⟩ (.string d)).setCell ⟨w.heap.size, 4, none⟩ (.int .i64 t)).setCell ⟨w.heap.size, 5, none⟩ (.int .i64 m)).setCell ⟨w.heap.size, 6, none⟩ u) w.heap.size v o.parts := by
  have hr : w.heap.size < w.heap.size + 2 := by omega
  refine ⟨?_, ((((((h.bel.setCell (p := ⟨w.heap.size, 0, none⟩) (Nat.le_refl _) _).setCell (p := ⟨w.heap.size, 1, none⟩) (Nat.le_refl _) _).setCell (p := ⟨w.heap.size, 2, none⟩) (Nat.le_refl _) _).setCell (p := ⟨w.heap.size, 3, none⟩) (Nat.le_refl _) _).setCell (p := ⟨w.heap.size, 4, none⟩) (Nat.le_refl _) _).setCell (p := ⟨w.heap.size, 5, none⟩) (Nat.le_refl _) _).setCell (p := ⟨w.heap.size, 6, none⟩) (Nat.le_refl _) _, ?_⟩
  · have h2 := ((((((h.res.put 0 (.bool x)).put 1 (.string p)).put 2 (.int .i64 k)).put 3 (.string d)).put 4 (.int .i64 t)).put 5 (.int .i64 m)).put 6 u
    simp only [kB3] at h2
    exact h2
  · exact ownI_mono (ownI_set (ownI_set (ownI_set (ownI_set (ownI_set (ownI_set (ownI_set h.own _ _ hr) _ _ hr) _ _ hr) _ _ hr) _ _ hr) _ _ hr) _ _ hr) (by omega)
end WPick
end Go.Proofs.YtkfpfckmjgjanabDoor

