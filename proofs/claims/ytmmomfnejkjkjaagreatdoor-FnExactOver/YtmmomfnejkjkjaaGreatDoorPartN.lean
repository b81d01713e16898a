/- Several texts of one claim in one file: WLawR, WLawL, WLawM, WLawX. -/
import Derived.Test.YtmmomfnejkjkjaaGreatDoorMemTrees
import Derived.Test.YtmmomfnejkjkjaaGreatDoorWLawE
import Derived.Test.YtmmomfnejkjkjaaGreatDoorPartA
import Derived.Outline
import Derived.Test.YtmmomfnejkjkjaaGreatDoorMemFar
import Derived.Deep.RegionHeld3
/- The walks of szNodeS and szTree at any room left. -/
namespace Go.Proofs.YtmmomfnejkjkjaaGreatDoor
open Go.RowKit
namespace WLaw
set_option maxRecDepth 100000 in
set_option maxHeartbeats 400000 in
theorem szNodeS_left (a : Option Addr) (cap : Nat) (L : List Pl.Nd) (left : Int) (hf0 : 0 ≤ left) (hf1 : left ≤ 1048576) (w : World) (hl : L.length ≤ maxLen) (hv : Mem.isNodes w a L) (hok : ∀ n ∈ L, n.path.size ≤ maxLen ∧ n.data.size ≤ maxLen) :
    Calls Tryz.prog 69 #[.slice a L.length cap, .int .i64 left] w fun e w' => (∃ r : Int, e = .returned (.int .i64 r) ∧ (r = -1 ∨ 0 ≤ r ∧ r ≤ 1048576 ∧ L.length ≤ 1048576 ∧ ∀ n ∈ L, n.path.size ≤ 1048576 ∧ n.data.size ≤ 1048576)) ∧ Below w.heap.size w w' := by
  have hl2 := hl
  unfold maxLen at hl2
  by_cases h0 : left < (L.length : Int)
  · have t0 : left - (L.length : Int) < 0 := by omega
    have t1 : IntKind.i64.wrap (left - (L.length : Int)) = left - (L.length : Int) := by rw [IntKind.wrap_i64]; omega
    go_enter Tryz.func69, Tryz.ntmps69
    go_wp2
    go_ret
    exact ⟨⟨-1, rfl, .inl rfl⟩, Below.refl _ _⟩
  have t0 : ¬ left - (L.length : Int) < 0 := by omega
  have t1 : IntKind.i64.wrap (left - (L.length : Int)) = left - (L.length : Int) := by rw [IntKind.wrap_i64]; omega
  have HV := hide hv
  have HO := hide hok
  clear hv hok
  go_enter Tryz.func69, Tryz.ntmps69
  go_wp2
  go_loopw [1, 5] (fun l i wr => ∃ (k : Nat) (r : Int), k ≤ L.length ∧ i = .int .i64 (k : Int) ∧ l = .int .i64 r ∧ 0 ≤ r ∧ r ≤ 1048576 ∧ Below w.heap.size w wr ∧ Hid (∀ (j : Nat) n, j < k → L[j]? = some n → n.path.size ≤ 1048576 ∧ n.data.size ≤ 1048576)) (fun _ i _ => L.length - (intOf i).toNat)
  case atStart => exact ⟨0, _, Nat.zero_le _, rfl, rfl, by omega, by omega, Below.refl _ _, fun j n h => absurd h (by omega)⟩
  case round =>
    obtain ⟨k, r, hk, rfl, rfl, hr0, hr1, hbel, HA⟩ := hrel
    by_cases hlt : k < L.length
    · obtain ⟨n, hn⟩ : ∃ n, L[k]? = some n := ⟨_, List.getElem?_eq_getElem hlt⟩
      obtain ⟨b, o, rfl, hb, q0, q1, q2, q3, q4⟩ := (unhide HV) k n hn
      have c0 := (hbel.cell (p := ⟨b, _, none⟩) hb).trans q0
      have c1 := (hbel.cell (p := ⟨b, _, none⟩) hb).trans q1
      have c2 := (hbel.cell (p := ⟨b, _, none⟩) hb).trans q2
      have c3 := (hbel.cell (p := ⟨b, _, none⟩) hb).trans q3
      have c4 := (hbel.cell (p := ⟨b, _, none⟩) hb).trans q4
      have hz := hide (fun W => szNode_any n r W (unhide HO n (List.mem_of_getElem? hn)).1 (unhide HO n (List.mem_of_getElem? hn)).2 hr0 hr1)
      have HN := hide hn
      have u1 : (k : Int) < (L.length : Int) := by omega
      have u3 : (0 : Int) ≤ (k : Int) := by omega
      clear q0 q1 q2 q3 q4 hn
      simp only [Pl.Nd.val] at hz
      go_wp2_with fail
      refine (unhide hz _).mono ?_
      rintro e w1 ⟨⟨r1, rfl, h1⟩, b1⟩
      have hb2 := hbel.trans (b1.mono hbel.size)
      clear b1 hbel hz
      rcases h1 with rfl | ⟨h2, h3⟩
      · go_wp2
        go_ret
        exact ⟨⟨-1, rfl, .inl rfl⟩, hb2⟩
      · have h4 : ¬ r1 < 0 := by omega
        have HA2 : Hid (∀ (j : Nat) m, j < k + 1 → L[j]? = some m → m.path.size ≤ 1048576 ∧ m.data.size ≤ 1048576) := fun j m hj h' => by
          rcases Nat.lt_succ_iff_lt_or_eq.1 hj with h'' | rfl
          · exact HA.out j m h'' h'
          · rw [unhide HN] at h'; cases h'; omega
        go_wp2
        go_roundw
        case rel => exact ⟨k + 1, r1, by omega, by go_num, rfl, h2, by omega, hb2, HA2⟩
        case measure => simp [intOf]; omega
    · have u1 : ¬ (k : Int) < (L.length : Int) := by omega
      go_wp2
      go_ret
      exact ⟨⟨r, rfl, .inr ⟨hr0, hr1, by omega, fun n hn => by
        obtain ⟨j, hj⟩ := List.mem_iff_getElem?.1 hn
        exact HA.out j n (by have := (List.getElem?_eq_some_iff.1 hj).1; omega) hj⟩⟩, hbel⟩
set_option maxRecDepth 100000 in
theorem szTree_left (a : Option Addr) (cap : Nat) (L : List Pl.Nd) (left : Int) (hf0 : 0 ≤ left) (hf1 : left ≤ 1048576) (w : World) (hl : L.length ≤ maxLen) (hv : Mem.isNodes w a L) (hok : ∀ n ∈ L, n.path.size ≤ maxLen ∧ n.data.size ≤ maxLen) :
    Calls Tryz.prog 47 #[.agg #[.slice a L.length cap], .int .i64 left] w fun e w' => (∃ r : Int, e = .returned (.int .i64 r) ∧ (r = -1 ∨ 0 ≤ r ∧ r ≤ 1048576 ∧ L.length ≤ 1048576 ∧ ∀ n ∈ L, n.path.size ≤ 1048576 ∧ n.data.size ≤ 1048576)) ∧ Below w.heap.size w w' := by
  have b0 : ∀ o, Below w.heap.size w (w.alloc o) := fun o => (Below.refl _ _).alloc (Nat.le_refl _) o
  have hz := hide (fun W (b : Below w.heap.size w W) => szNodeS_left a cap L left hf0 hf1 W hl (Mem.nodes_call hv b) hok)
  have HB := hide b0
  clear hv hok b0
  go_enter Tryz.func47, Tryz.ntmps47
  go_wp2_with fail
  refine (unhide hz _ (unhide HB _)).mono ?_
  rintro e w1 ⟨⟨r1, rfl, h1⟩, b1⟩
  have hb2 := (unhide HB _).trans (b1.mono (unhide HB _).size)
  clear b1 hz
  rcases h1 with rfl | ⟨h2, h3⟩
  · go_wp2
    go_ret
    exact ⟨⟨-1, rfl, .inl rfl⟩, hb2⟩
  · have h4 : ¬ r1 < 0 := by omega
    go_wp2
    go_ret
    exact ⟨⟨r1, rfl, .inr ⟨h2, h3⟩⟩, hb2⟩
end WLaw
end Go.Proofs.YtmmomfnejkjkjaaGreatDoor

/- The walks of the laws' own functions on rows of trees. -/
namespace Go.Proofs.YtmmomfnejkjkjaaGreatDoor
open Go.RowKit
namespace WLaw
set_option maxRecDepth 100000 in
set_option maxHeartbeats 800000 in
theorem szTreeS_any (a : Option Addr) (cap : Nat) (Ts : List Pl.Tr) (w : World) (hl : Ts.length ≤ maxLen) (hv : Mem.isTrees w a Ts) (hok : ∀ t ∈ Ts, t.L.length ≤ maxLen ∧ ∀ n ∈ t.L, n.path.size ≤ maxLen ∧ n.data.size ≤ maxLen) :
    Calls Tryz.prog 23 #[.slice a Ts.length cap, .int .i64 1048576] w fun e w' => (∃ r : Int, e = .returned (.int .i64 r) ∧ (r = -1 ∨ 0 ≤ r ∧ r ≤ 1048576 ∧ Ts.length ≤ 1048576 ∧ ∀ t ∈ Ts, t.L.length ≤ 1048576 ∧ ∀ n ∈ t.L, n.path.size ≤ 1048576 ∧ n.data.size ≤ 1048576)) ∧ Below w.heap.size w w' := by
  have hl2 := hl
  unfold maxLen at hl2
  by_cases h0 : 1048576 < Ts.length
  · have t0 : (1048576 : Int) - (Ts.length : Int) < 0 := by omega
    go_enter Tryz.func23, Tryz.ntmps23
    go_wp2
    go_ret
    exact ⟨⟨-1, rfl, .inl rfl⟩, Below.refl _ _⟩
  have t0 : ¬ (1048576 : Int) - (Ts.length : Int) < 0 := by omega
  have HV := hide hv
  have HO := hide hok
  clear hv hok
  go_enter Tryz.func23, Tryz.ntmps23
  go_wp2
  go_loopw [1, 5] (fun l i wr => ∃ (k : Nat) (r : Int), k ≤ Ts.length ∧ i = .int .i64 (k : Int) ∧ l = .int .i64 r ∧ 0 ≤ r ∧ r ≤ 1048576 ∧ Below w.heap.size w wr ∧ Hid (∀ (j : Nat) t, j < k → Ts[j]? = some t → t.L.length ≤ 1048576 ∧ ∀ n ∈ t.L, n.path.size ≤ 1048576 ∧ n.data.size ≤ 1048576)) (fun _ i _ => Ts.length - (intOf i).toNat)
  case atStart => exact ⟨0, _, Nat.zero_le _, rfl, rfl, by omega, by omega, Below.refl _ _, fun j n h => absurd h (by omega)⟩
  case round =>
    obtain ⟨k, r, hk, rfl, rfl, hr0, hr1, hbel, HA⟩ := hrel
    by_cases hlt : k < Ts.length
    · obtain ⟨t, ht⟩ : ∃ t, Ts[k]? = some t := ⟨_, List.getElem?_eq_getElem hlt⟩
      obtain ⟨⟨b, o, rfl, hb, q0⟩, q1⟩ := (unhide HV) k t ht
      have c0 := (hbel.cell (p := ⟨b, _, none⟩) hb).trans q0
      have hz := hide (fun W (b : Below w.heap.size w W) => szTree_left t.a t.cap t.L r hr0 hr1 W (unhide HO t (List.mem_of_getElem? ht)).1 (Mem.nodes_call q1 b) (unhide HO t (List.mem_of_getElem? ht)).2)
      have HN := hide ht
      have u1 : (k : Int) < (Ts.length : Int) := by omega
      have u3 : (0 : Int) ≤ (k : Int) := by omega
      simp only [Pl.Tr.val] at c0
      clear q0 ht q1
      go_wp2_with fail
      refine (unhide hz _ hbel).mono ?_
      rintro e w1 ⟨⟨r1, rfl, h1⟩, b1⟩
      have hb2 := hbel.trans (b1.mono hbel.size)
      clear b1 hbel hz
      rcases h1 with rfl | ⟨h2, h3, h5, h6⟩
      · go_wp2
        go_ret
        exact ⟨⟨-1, rfl, .inl rfl⟩, hb2⟩
      · have h4 : ¬ r1 < 0 := by omega
        have HA2 : Hid (∀ (j : Nat) m, j < k + 1 → Ts[j]? = some m → m.L.length ≤ 1048576 ∧ ∀ n ∈ m.L, n.path.size ≤ 1048576 ∧ n.data.size ≤ 1048576) := fun j m hj h' => by
          rcases Nat.lt_succ_iff_lt_or_eq.1 hj with h'' | rfl
          · exact HA.out j m h'' h'
          · rw [unhide HN] at h'; cases h'; exact ⟨h5, h6⟩
        clear h5 h6
        go_wp2
        go_roundw
        case rel => exact ⟨k + 1, r1, by omega, by go_num, rfl, h2, by omega, hb2, HA2⟩
        case measure => simp [intOf]; omega
    · have u1 : ¬ (k : Int) < (Ts.length : Int) := by omega
      go_wp2
      go_ret
      exact ⟨⟨r, rfl, .inr ⟨hr0, hr1, by omega, fun n hn => by
        obtain ⟨j, hj⟩ := List.mem_iff_getElem?.1 hn
        exact HA.out j n (by have := (List.getElem?_eq_some_iff.1 hj).1; omega) hj⟩⟩, hbel⟩
set_option maxRecDepth 100000 in
theorem szLayers_any (a : Option Addr) (cap : Nat) (Ts : List Pl.Tr) (w : World) (hl : Ts.length ≤ maxLen) (hv : Mem.isTrees w a Ts) (hok : ∀ t ∈ Ts, t.L.length ≤ maxLen ∧ ∀ n ∈ t.L, n.path.size ≤ maxLen ∧ n.data.size ≤ maxLen) :
    Calls Tryz.prog 6 #[.agg #[.slice a Ts.length cap], .int .i64 1048576] w fun e w' => (∃ r : Int, e = .returned (.int .i64 r) ∧ (r = -1 ∨ 0 ≤ r ∧ r ≤ 1048576 ∧ Ts.length ≤ 1048576 ∧ ∀ t ∈ Ts, t.L.length ≤ 1048576 ∧ ∀ n ∈ t.L, n.path.size ≤ 1048576 ∧ n.data.size ≤ 1048576)) ∧ Below w.heap.size w w' := by
  have b0 : ∀ o, Below w.heap.size w (w.alloc o) := fun o => (Below.refl _ _).alloc (Nat.le_refl _) o
  have hz := hide (fun W (b : Below w.heap.size w W) => szTreeS_any a cap Ts W hl (Mem.trees_call hv b) hok)
  have HB := hide b0
  clear hv hok b0
  go_enter Tryz.func6, Tryz.ntmps6
  go_wp2_with fail
  refine (unhide hz _ (unhide HB _)).mono ?_
  rintro e w1 ⟨⟨r1, rfl, h1⟩, b1⟩
  have hb2 := (unhide HB _).trans (b1.mono (unhide HB _).size)
  clear b1 hz
  rcases h1 with rfl | ⟨h2, h3⟩
  · go_wp2
    go_ret
    exact ⟨⟨-1, rfl, .inl rfl⟩, hb2⟩
  · have h4 : ¬ r1 < 0 := by omega
    go_wp2
    go_ret
    exact ⟨⟨r1, rfl, .inr ⟨h2, h3⟩⟩, hb2⟩
end WLaw
end Go.Proofs.YtmmomfnejkjkjaaGreatDoor

/- The walks of toLayers and eqLayers. -/
namespace Go.Proofs.YtmmomfnejkjkjaaGreatDoor
open Go.RowKit
namespace WLaw
def zeroTrees (n : Nat) : Array Value := madeCells (Value.agg #[.slice none 0 0]).cells n
theorem zeroTrees_size (n : Nat) : (zeroTrees n).size = n := size_madeCells _ _
theorem infoT : (Tryz.prog.info? 28).map (fun i => (i.zero, i.size, i.bytes)) = some (some (.agg #[.slice none 0 0]), 1, 24) := by kernel_rfl
theorem makeT (n : Nat) (hn : n ≤ 1048576) (w : World) : (Instr.makeSlice 32 (.int .i64 (n : Int)) (.int .i64 (n : Int))).run Tryz.prog w = .ok (.slice (some ⟨w.heap.size, 0, none⟩) n n) (w.alloc (.cells (zeroTrees n) 28)) := by
  obtain ⟨i0, h0, h1, h2, h3⟩ := info_parts infoT
  have h := run_make (P := Tryz.prog) w 32 28 i0 (.agg #[.slice none 0 0]) Tryz.underlying32 h0 h1 .i64 .i64 (n : Int) (n : Int) (by omega) (Int.le_refl _) (by rw [h3]; omega) (by omega)
  rw [h, h2]
  simp [zeroTrees]
/-- The trees that were copied so far: each in a row of its own, behind the row of trees. -/
structure Cop (w wr : World) (Ts D : List Pl.Tr) (cur : Array Value) : Prop where
  blk : wr.heap[w.heap.size]? = some (.cells cur 28 (0, 0))
  size : cur.size = Ts.length
  same : D.map (·.L) = (Ts.take D.length).map (·.L)
  each : ∀ (j : Nat) t, D[j]? = some t → cur[j]? = some t.val ∧ ∃ g, t.a = some ⟨g, 0, none⟩ ∧ w.heap.size < g ∧ Mem.isNodes wr t.a t.L
theorem Cop.call {w wr W : World} {Ts D : List Pl.Tr} {cur : Array Value} (h : Cop w wr Ts D cur) (b : Below wr.heap.size wr W) : Cop w W Ts D cur :=
  ⟨(b.block _ (Array.getElem?_eq_some_iff.1 h.blk).1).trans h.blk, h.size, h.same, fun j t hj => ⟨(h.each j t hj).1, by
    obtain ⟨g, h1, h2, h3⟩ := (h.each j t hj).2
    exact ⟨g, h1, h2, Mem.nodes_call h3 b⟩⟩⟩
theorem Cop.put {w wr : World} {Ts D : List Pl.Tr} {cur : Array Value} (h : Cop w wr Ts D cur) (t : Pl.Tr) (g : Nat) (hk : Ts[D.length]? = some t) (hg : w.heap.size < g) (hn : Mem.isNodes wr (some ⟨g, 0, none⟩) t.L) :
    Cop w (wr.setCell ⟨w.heap.size, D.length, none⟩ (.slice (some ⟨g, 0, none⟩) t.L.length t.L.length)) Ts (D ++ [⟨some ⟨g, 0, none⟩, t.L.length, t.L⟩]) (cur.setIfInBounds D.length (.slice (some ⟨g, 0, none⟩) t.L.length t.L.length)) := by
  have hlt := (List.getElem?_eq_some_iff.1 hk).1
  refine ⟨heap_setCell_same _ _ _ _ _ _ h.blk, by simpa using h.size, ?_, fun j m hj => ?_⟩
  · rw [List.length_append, List.length_singleton, List.take_add_one, hk, List.map_append, List.map_append, h.same]
    rfl
  · by_cases e : j < D.length
    · rw [List.getElem?_append_left e] at hj
      obtain ⟨h1, g', h2, h3, h4⟩ := h.each j m hj
      refine ⟨by rw [Array.getElem?_setIfInBounds, if_neg (by omega)]; exact h1, g', h2, h3, ?_⟩
      rw [h2] at h4 ⊢
      exact Mem.nodes_far h4 _ _ (by show w.heap.size ≠ g'; omega)
    · rw [List.getElem?_append_right (by omega)] at hj
      have hj0 : j = D.length := by
        have := (List.getElem?_eq_some_iff.1 hj).1
        simp at this; omega
      subst hj0
      simp at hj
      subst hj
      refine ⟨?_, g, rfl, hg, Mem.nodes_far hn _ _ (by show w.heap.size ≠ g; omega)⟩
      rw [Array.getElem?_setIfInBounds, if_pos rfl, if_pos (by have := h.size; omega)]
      rfl
theorem Cop.set {w wr : World} {Ts D : List Pl.Tr} {cur : Array Value} (h : Cop w wr Ts D cur) (p : Addr) (v : Value) (hp : p.block < w.heap.size) : Cop w (wr.setCell p v) Ts D cur :=
  ⟨(heap_setCell_other _ _ _ _ (by omega)).trans h.blk, h.size, h.same, fun j t hj => ⟨(h.each j t hj).1, by
    obtain ⟨g, h1, h2, h3⟩ := (h.each j t hj).2
    refine ⟨g, h1, h2, ?_⟩
    rw [h1] at h3 ⊢
    exact Mem.nodes_far h3 _ _ (by omega)⟩⟩
theorem Cop.trees {w wr : World} {Ts D : List Pl.Tr} {cur : Array Value} (h : Cop w wr Ts D cur) : Mem.isTrees wr (some ⟨w.heap.size, 0, none⟩) D := fun i t hi => by
  obtain ⟨h1, g, h2, h3, h4⟩ := h.each i t hi
  refine ⟨⟨_, 0, rfl, (Array.getElem?_eq_some_iff.1 h.blk).1, ?_⟩, h4⟩
  rw [cell_of_row wr _ _ _ _ (0, 0) h.blk, Nat.zero_add]
  exact h1
set_option linter.unusedSimpArgs false in
set_option maxRecDepth 100000 in
set_option maxHeartbeats 800000 in
theorem toTreeS_any (a : Option Addr) (cap : Nat) (Ts : List Pl.Tr) (w : World) (hl : Ts.length ≤ 1048576) (hv : Mem.isTrees w a Ts) (hok : ∀ t ∈ Ts, t.L.length ≤ 1048576) :
    Calls Tryz.prog 27 #[.slice a Ts.length cap] w fun e w' => e = .returned (.slice (some ⟨w.heap.size, 0, none⟩) Ts.length Ts.length) ∧ (∃ D cur, D.length = Ts.length ∧ Cop w w' Ts D cur) ∧ Below w.heap.size w w' := by
  have HV := hide hv
  have HO := hide hok
  have hmk := makeT Ts.length hl w
  clear hv hok
  go_enter Tryz.func27, Tryz.ntmps27
  go_wp2
  go_loopw [4] (fun i wr => ∃ (D : List Pl.Tr) (cur : Array Value), D.length ≤ Ts.length ∧ i = .int .i64 (D.length : Int) ∧ Below w.heap.size w wr ∧ Hid (Cop w wr Ts D cur)) (fun i _ => Ts.length - (intOf i).toNat)
  case atStart => exact ⟨[], zeroTrees Ts.length, Nat.zero_le _, rfl, (Below.refl _ _).alloc (Nat.le_refl _) _, hide ⟨heap_alloc_new w _, zeroTrees_size _, rfl, fun j t h => by simp at h⟩⟩
  case round =>
    obtain ⟨D, cur, hk, rfl, hbel, HC⟩ := hrel
    by_cases hlt : D.length < Ts.length
    · obtain ⟨t, ht⟩ : ∃ t, Ts[D.length]? = some t := ⟨_, List.getElem?_eq_getElem hlt⟩
      obtain ⟨⟨b, o, rfl, hb, q0⟩, q1⟩ := (unhide HV) D.length t ht
      have c0 := (hbel.cell (p := ⟨b, _, none⟩) hb).trans q0
      have hz := hide (fun W (b : Below w.heap.size w W) => toTree_row t.a t.cap t.L W (unhide HO t (List.mem_of_getElem? ht)) (Mem.nodes_call q1 b))
      have HN := hide ht
      have u1 : (D.length : Int) < (Ts.length : Int) := by omega
      have u3 : (0 : Int) ≤ (D.length : Int) := by omega
      simp only [Pl.Tr.val] at c0
      clear q0 ht q1
      go_wp2_with fail
      refine (unhide hz _ hbel).mono ?_
      rintro e w1 ⟨g, rfl, hg, -, hn, b1⟩
      have hgw : w.heap.size < g := by have := (Array.getElem?_eq_some_iff.1 (unhide HC).blk).1; omega
      have C1 := (unhide HC).call b1
      have hb2 := hbel.trans (b1.mono hbel.size)
      obtain ⟨x0, s0⟩ : ∃ x, w1.cell? ⟨w.heap.size, D.length, none⟩ = some x := ⟨_, (cell_of_row w1 _ D.length _ _ (0, 0) C1.blk).trans (Array.getElem?_eq_getElem (by rw [C1.size]; exact hlt))⟩
      have f0 : w1.frozen? ⟨w.heap.size, D.length, none⟩ = false := Mem.row_frozen C1.blk
      have HC2 := hide (C1.put t g (unhide HN) hgw hn)
      have HB2 := hide hb2
      clear b1 hbel hz HC C1 hn hg hb2
      go_wp2
      go_roundw
      case rel => exact ⟨_, _, by rw [List.length_append, List.length_singleton]; omega, by rw [List.length_append, List.length_singleton]; go_num, (unhide HB2).setCell (Nat.le_refl _) _, HC2⟩
      case measure => simp [intOf]; omega
    · have u1 : ¬ (D.length : Int) < (Ts.length : Int) := by omega
      go_wp2
      go_ret
      exact ⟨rfl, ⟨D, by omega, cur, unhide HC⟩, hbel⟩
set_option maxRecDepth 100000 in
theorem toLayers_any (a : Option Addr) (cap : Nat) (Ts : List Pl.Tr) (w : World) (hl : Ts.length ≤ 1048576) (hv : Mem.isTrees w a Ts) (hok : ∀ t ∈ Ts, t.L.length ≤ 1048576) :
    Calls Tryz.prog 8 #[.agg #[.slice a Ts.length cap]] w fun e w' => ∃ g D, e = .returned (.agg #[.slice (some ⟨g, 0, none⟩) Ts.length Ts.length]) ∧ w.heap.size ≤ g ∧ D.length = Ts.length ∧ D.map (·.L) = Ts.map (·.L) ∧ Mem.isTrees w' (some ⟨g, 0, none⟩) D ∧ Below w.heap.size w w' := by
  have b0 : Below w.heap.size w (((w.alloc (.cells #[.slice a Ts.length cap] 24)).alloc (.cells #[.slice none 0 0] 34)).alloc (.cells #[.slice none 0 0] 34)) := (((Below.refl _ _).alloc (Nat.le_refl _) _).alloc (by simp) _).alloc (by simp; omega) _
  have hz := hide (toTreeS_any a cap Ts _ hl (Mem.trees_call hv b0) hok)
  have hs : (((w.alloc (.cells #[.slice a Ts.length cap] 24)).alloc (.cells #[.slice none 0 0] 34)).alloc (.cells #[.slice none 0 0] 34)).heap.size = w.heap.size + 1 + 1 + 1 := by simp
  have r1 : Mem.Blk (((w.alloc (.cells #[.slice a Ts.length cap] 24)).alloc (.cells #[.slice none 0 0] 34)).alloc (.cells #[.slice none 0 0] 34)) (w.heap.size + 1) #[.slice none 0 0] 34 := Mem.new_mid w _ _ _
  have r2 : Mem.Blk (((w.alloc (.cells #[.slice a Ts.length cap] 24)).alloc (.cells #[.slice none 0 0] 34)).alloc (.cells #[.slice none 0 0] 34)) (w.heap.size + 1 + 1) #[.slice none 0 0] 34 := Mem.new_three w _ _ _
  have HB0 := hide b0
  clear hv hok b0
  go_enter Tryz.func8, Tryz.ntmps8
  go_wp2_with fail
  generalize (((w.alloc (.cells #[.slice a Ts.length cap] 24)).alloc (.cells #[.slice none 0 0] 34)).alloc (.cells #[.slice none 0 0] 34)) = w3 at hz hs r1 r2 HB0 ⊢
  refine (unhide hz).mono ?_
  rintro e w1 ⟨rfl, ⟨D, cur, hD, hC⟩, b1⟩
  have R1 := r1.call b1
  have R2 := r2.call b1
  have c1 := R1.cell 0
  have c2 := R2.cell 0
  have f1 := R1.fr 0
  have f2 := R2.fr 0
  simp only [List.getElem?_toArray, List.getElem?_cons_zero] at c1 c2
  have bb := hide ((unhide HB0).trans (b1.mono (unhide HB0).size))
  have HC := hide hC
  have HS := hide hs
  generalize hg : w3.heap.size = g at HS ⊢
  have HG := hide hg
  clear hz b1 hC hs r1 r2 R1 R2 HB0 hg
  go_wp2
  have hg := unhide HG
  have hs := unhide HS
  refine bodyPost_ret (v := .agg #[.slice (some ⟨g, 0, none⟩) Ts.length Ts.length]) (by simp [results, Tryz.results8, go_sem, c1]) rfl ⟨g, D, rfl, by omega, hD, ?_, ?_, ?_⟩
  · rw [(unhide HC).same, hD, List.take_length]
  · have := (((unhide HC).set ⟨w.heap.size + 1 + 1, 0, none⟩ (.slice (some ⟨g, 0, none⟩) Ts.length Ts.length) (by show w.heap.size + 1 + 1 < _; omega)).set ⟨w.heap.size + 1, 0, none⟩ (.slice (some ⟨g, 0, none⟩) Ts.length Ts.length) (by show w.heap.size + 1 < _; omega)).trees
    rw [hg] at this
    exact this
  · exact ((unhide bb).setCell (by show w.heap.size ≤ w.heap.size + 1 + 1; omega) _).setCell (by show w.heap.size ≤ w.heap.size + 1; omega) _
set_option maxRecDepth 100000 in
set_option maxHeartbeats 800000 in
theorem eqTreeS_any (a b : Option Addr) (c1 c2 : Nat) (Ts Us : List Pl.Tr) (w : World) (hl : Ts.length ≤ 1048576) (hm : Us.map (·.L) = Ts.map (·.L)) (hv : Mem.isTrees w a Ts) (hu : Mem.isTrees w b Us) (hok : ∀ t ∈ Ts, t.L.length ≤ 1048576) :
    Calls Tryz.prog 33 #[.slice a Ts.length c1, .slice b Ts.length c2] w fun e w' => e = .returned (.bool true) ∧ Below w.heap.size w w' := by
  have HV := hide hv
  have HU := hide hu
  have HO := hide hok
  have HM := hide hm
  clear hv hu hok hm
  go_enter Tryz.func33, Tryz.ntmps33
  go_wp2
  go_loopw [5] (fun i wr => ∃ k : Nat, k ≤ Ts.length ∧ i = .int .i64 (k : Int) ∧ Below w.heap.size w wr) (fun i _ => Ts.length - (intOf i).toNat)
  case atStart => exact ⟨0, Nat.zero_le _, rfl, Below.refl _ _⟩
  case round =>
    obtain ⟨k, hk, rfl, hbel⟩ := hrel
    by_cases hlt : k < Ts.length
    · obtain ⟨t, ht⟩ : ∃ n, Ts[k]? = some n := ⟨_, List.getElem?_eq_getElem hlt⟩
      obtain ⟨u, hu, hul⟩ : ∃ u, Us[k]? = some u ∧ u.L = t.L := by
        have h := congrArg (fun l => l[k]?) (unhide HM)
        simp only [List.getElem?_map, ht, Option.map_some] at h
        cases hu : Us[k]? with
        | none => rw [hu] at h; simp at h
        | some u => rw [hu] at h; simp at h; exact ⟨u, rfl, h⟩
      obtain ⟨⟨g, o, rfl, hg, q0⟩, q1⟩ := (unhide HV) k t ht
      obtain ⟨⟨g2, o2, rfl, hg2, p0⟩, p1⟩ := (unhide HU) k u hu
      have c0 := (hbel.cell (p := ⟨g, _, none⟩) hg).trans q0
      have d0 := (hbel.cell (p := ⟨g2, _, none⟩) hg2).trans p0
      rw [hul] at p1
      simp only [Pl.Tr.val, hul] at c0 d0
      have hz := hide (fun W (b : Below w.heap.size w W) => eqTree_any t.a u.a t.cap u.cap t.L W (unhide HO t (List.mem_of_getElem? ht)) (Mem.nodes_call q1 b) (Mem.nodes_call p1 b))
      have MK : Hid (∀ W', Below w.heap.size w W' → (Below w.heap.size w W' ∧ W'.cell? ⟨g, o + k, none⟩ = some (.slice t.a t.L.length t.cap) ∧ W'.cell? ⟨g2, o2 + k, none⟩ = some (.slice u.a t.L.length u.cap))) := fun W' hb' => ⟨hb', (hb'.cell (p := ⟨g, _, none⟩) hg).trans (by rw [q0, Pl.Tr.val]), (hb'.cell (p := ⟨g2, _, none⟩) hg2).trans (by rw [p0, Pl.Tr.val, hul])⟩
      have u1 : (k : Int) < (Ts.length : Int) := by omega
      have u3 : (0 : Int) ≤ (k : Int) := by omega
      have hbd : Below w.heap.size w wr.drew := ⟨hbel.os, hbel.tape, hbel.output, hbel.size, hbel.block⟩
      clear q0 p0 ht hu hul q1 p1
      go_wp2_with fail
      go_region_held3 (fun W' => Below w.heap.size w W' ∧ W'.cell? ⟨g, o + k, none⟩ = some (.slice t.a t.L.length t.cap) ∧ W'.cell? ⟨g2, o2 + k, none⟩ = some (.slice u.a t.L.length u.cap)) (first | exact unhide MK _ hbd | exact unhide MK _ (hbd.trans (bX.mono hbd.size))) (first | (go_at_call 32; refine (unhide hz _ hbd).mono ?_; rintro e wX ⟨rfl, bX⟩))
      have hb2 := hbd.trans (bX.mono hbd.size)
      clear hbel hbd bX MK
      go_wp2
      go_roundw
      case rel => exact ⟨k + 1, by omega, by go_num, hb2⟩
      case measure => simp [intOf]; omega
    · have u1 : ¬ (k : Int) < (Ts.length : Int) := by omega
      go_wp2
      go_ret
      exact ⟨rfl, hbel⟩
set_option maxRecDepth 100000 in
theorem eqLayers_any (a b : Option Addr) (c1 c2 : Nat) (Ts Us : List Pl.Tr) (w : World) (hl : Ts.length ≤ 1048576) (hm : Us.map (·.L) = Ts.map (·.L)) (hv : Mem.isTrees w a Ts) (hu : Mem.isTrees w b Us) (hok : ∀ t ∈ Ts, t.L.length ≤ 1048576) :
    Calls Tryz.prog 11 #[.agg #[.slice a Ts.length c1], .agg #[.slice b Ts.length c2]] w fun e w' => e = .returned (.bool true) ∧ Below w.heap.size w w' := by
  have b0 : ∀ o1 o2, Below w.heap.size w ((w.alloc o1).alloc o2) := fun o1 o2 => ((Below.refl _ _).alloc (Nat.le_refl _) o1).alloc (by simp) o2
  have HB := hide b0
  have HZ := hide (fun W (b' : Below w.heap.size w W) => eqTreeS_any a b c1 c2 Ts Us W hl hm (Mem.trees_call hv b') (Mem.trees_call hu b') hok)
  clear hv hu b0 hm hok
  go_enter Tryz.func11, Tryz.ntmps11
  go_wp2_with fail
  refine (unhide HZ _ (unhide HB _ _)).mono ?_
  rintro e w1 ⟨rfl, b1⟩
  have bb := (unhide HB _ _).trans (b1.mono (unhide HB _ _).size)
  clear HZ b1
  go_wp2
  go_ret
  exact ⟨rfl, bb⟩
end WLaw
end Go.Proofs.YtmmomfnejkjkjaaGreatDoor

/- The walks of toTreeS and toLayers, with the rows of the nodes that were copied (out of WLawM). -/
namespace Go.Proofs.YtmmomfnejkjkjaaGreatDoor
open Go.RowKit
namespace WLawX
open WLaw
/-- The trees that were copied so far: each in a row of its own, behind the row of trees. -/
structure Cop (w wr : World) (Ts D : List Pl.Tr) (cur : Array Value) : Prop where
  blk : wr.heap[w.heap.size]? = some (.cells cur 28 (0, 0))
  size : cur.size = Ts.length
  same : D.map (·.L) = (Ts.take D.length).map (·.L)
  each : ∀ (j : Nat) t, D[j]? = some t → cur[j]? = some t.val ∧ ∃ g, t.a = some ⟨g, 0, none⟩ ∧ w.heap.size < g ∧ Mem.isNodes wr t.a t.L ∧ ∃ cs, wr.heap[g]? = some (.cells cs 106 (0, 0)) ∧ t.L.length * 5 ≤ cs.size
theorem Cop.call {w wr W : World} {Ts D : List Pl.Tr} {cur : Array Value} (h : Cop w wr Ts D cur) (b : Below wr.heap.size wr W) : Cop w W Ts D cur :=
  ⟨(b.block _ (Array.getElem?_eq_some_iff.1 h.blk).1).trans h.blk, h.size, h.same, fun j t hj => ⟨(h.each j t hj).1, by
    obtain ⟨g, h1, h2, h3, cs, h4, h5⟩ := (h.each j t hj).2
    exact ⟨g, h1, h2, Mem.nodes_call h3 b, cs, (b.block _ (Array.getElem?_eq_some_iff.1 h4).1).trans h4, h5⟩⟩⟩
theorem Cop.put {w wr : World} {Ts D : List Pl.Tr} {cur : Array Value} (h : Cop w wr Ts D cur) (t : Pl.Tr) (g : Nat) (hk : Ts[D.length]? = some t) (hg : w.heap.size < g) (hn : Mem.isNodes wr (some ⟨g, 0, none⟩) t.L) (hr : ∃ cs, wr.heap[g]? = some (.cells cs 106 (0, 0)) ∧ t.L.length * 5 ≤ cs.size) :
    Cop w (wr.setCell ⟨w.heap.size, D.length, none⟩ (.slice (some ⟨g, 0, none⟩) t.L.length t.L.length)) Ts (D ++ [⟨some ⟨g, 0, none⟩, t.L.length, t.L⟩]) (cur.setIfInBounds D.length (.slice (some ⟨g, 0, none⟩) t.L.length t.L.length)) := by
  have hlt := (List.getElem?_eq_some_iff.1 hk).1
  refine ⟨heap_setCell_same _ _ _ _ _ _ h.blk, by simpa using h.size, ?_, fun j m hj => ?_⟩
  · rw [List.length_append, List.length_singleton, List.take_add_one, hk, List.map_append, List.map_append, h.same]
    rfl
  · by_cases e : j < D.length
    · rw [List.getElem?_append_left e] at hj
      obtain ⟨h1, g', h2, h3, h4, cs, h5, h6⟩ := h.each j m hj
      refine ⟨by rw [Array.getElem?_setIfInBounds, if_neg (by omega)]; exact h1, g', h2, h3, ?_, cs, (heap_setCell_other _ _ _ _ (by show g' ≠ w.heap.size; omega)).trans h5, h6⟩
      rw [h2] at h4 ⊢
      exact Mem.nodes_far h4 _ _ (by show w.heap.size ≠ g'; omega)
    · rw [List.getElem?_append_right (by omega)] at hj
      have hj0 : j = D.length := by
        have := (List.getElem?_eq_some_iff.1 hj).1
        simp at this; omega
      subst hj0
      simp at hj
      subst hj
      obtain ⟨cs, h5, h6⟩ := hr
      refine ⟨?_, g, rfl, hg, Mem.nodes_far hn _ _ (by show w.heap.size ≠ g; omega), cs, (heap_setCell_other _ _ _ _ (by show g ≠ w.heap.size; omega)).trans h5, h6⟩
      rw [Array.getElem?_setIfInBounds, if_pos rfl, if_pos (by have := h.size; omega)]
      rfl
theorem Cop.set {w wr : World} {Ts D : List Pl.Tr} {cur : Array Value} (h : Cop w wr Ts D cur) (p : Addr) (v : Value) (hp : p.block < w.heap.size) : Cop w (wr.setCell p v) Ts D cur :=
  ⟨(heap_setCell_other _ _ _ _ (by omega)).trans h.blk, h.size, h.same, fun j t hj => ⟨(h.each j t hj).1, by
    obtain ⟨g, h1, h2, h3, cs, h5, h6⟩ := (h.each j t hj).2
    refine ⟨g, h1, h2, ?_, cs, (heap_setCell_other _ _ _ _ (by omega)).trans h5, h6⟩
    rw [h1] at h3 ⊢
    exact Mem.nodes_far h3 _ _ (by omega)⟩⟩
theorem Cop.trees {w wr : World} {Ts D : List Pl.Tr} {cur : Array Value} (h : Cop w wr Ts D cur) : Mem.isTrees wr (some ⟨w.heap.size, 0, none⟩) D := fun i t hi => by
  obtain ⟨h1, g, h2, h3, h4, -⟩ := h.each i t hi
  refine ⟨⟨_, 0, rfl, (Array.getElem?_eq_some_iff.1 h.blk).1, ?_⟩, h4⟩
  rw [cell_of_row wr _ _ _ _ (0, 0) h.blk, Nat.zero_add]
  exact h1
/-- A row of trees in memory of the call's own, each with its own row of nodes behind it. -/
structure Rows (W : World) (g : Nat) (D : List Pl.Tr) : Prop where
  trees : Mem.isTrees W (some ⟨g, 0, none⟩) D
  lt : g < W.heap.size
  each : ∀ (j : Nat) t, D[j]? = some t → ∃ q, t.a = some ⟨q, 0, none⟩ ∧ g < q ∧ q < W.heap.size ∧ ∃ cs, W.heap[q]? = some (.cells cs 106 (0, 0)) ∧ t.L.length * 5 ≤ cs.size
theorem Rows.call {W W' : World} {g : Nat} {D : List Pl.Tr} (h : Rows W g D) (b : Below W.heap.size W W') : Rows W' g D :=
  ⟨Mem.trees_call h.trees b, Nat.lt_of_lt_of_le h.lt b.size, fun j t hj => by
    obtain ⟨q, h1, h2, h3, cs, h4, h5⟩ := h.each j t hj
    exact ⟨q, h1, h2, Nat.lt_of_lt_of_le h3 b.size, cs, (b.block _ h3).trans h4, h5⟩⟩
theorem Cop.rows {w wr : World} {Ts D : List Pl.Tr} {cur : Array Value} (h : Cop w wr Ts D cur) : Rows wr w.heap.size D :=
  ⟨h.trees, (Array.getElem?_eq_some_iff.1 h.blk).1, fun j t hj => by
    obtain ⟨-, g, h2, h3, h4, cs, h5, h6⟩ := h.each j t hj
    exact ⟨g, h2, h3, (Array.getElem?_eq_some_iff.1 h5).1, cs, h5, h6⟩⟩
set_option linter.unusedSimpArgs false in
set_option maxRecDepth 100000 in
set_option maxHeartbeats 800000 in
theorem toTreeS_any (a : Option Addr) (cap : Nat) (Ts : List Pl.Tr) (w : World) (hl : Ts.length ≤ 1048576) (hv : Mem.isTrees w a Ts) (hok : ∀ t ∈ Ts, t.L.length ≤ 1048576) :
    Calls Tryz.prog 27 #[.slice a Ts.length cap] w fun e w' => e = .returned (.slice (some ⟨w.heap.size, 0, none⟩) Ts.length Ts.length) ∧ (∃ D cur, D.length = Ts.length ∧ Cop w w' Ts D cur) ∧ Below w.heap.size w w' := by
  have HV := hide hv
  have HO := hide hok
  have hmk := makeT Ts.length hl w
  clear hv hok
  go_enter Tryz.func27, Tryz.ntmps27
  go_wp2
  go_loopw [4] (fun i wr => ∃ (D : List Pl.Tr) (cur : Array Value), D.length ≤ Ts.length ∧ i = .int .i64 (D.length : Int) ∧ Below w.heap.size w wr ∧ Hid (Cop w wr Ts D cur)) (fun i _ => Ts.length - (intOf i).toNat)
  case atStart => exact ⟨[], zeroTrees Ts.length, Nat.zero_le _, rfl, (Below.refl _ _).alloc (Nat.le_refl _) _, hide ⟨heap_alloc_new w _, zeroTrees_size _, rfl, fun j t h => by simp at h⟩⟩
  case round =>
    obtain ⟨D, cur, hk, rfl, hbel, HC⟩ := hrel
    by_cases hlt : D.length < Ts.length
    · obtain ⟨t, ht⟩ : ∃ t, Ts[D.length]? = some t := ⟨_, List.getElem?_eq_getElem hlt⟩
      obtain ⟨⟨b, o, rfl, hb, q0⟩, q1⟩ := (unhide HV) D.length t ht
      have c0 := (hbel.cell (p := ⟨b, _, none⟩) hb).trans q0
      have hz := hide (fun W (b : Below w.heap.size w W) => toTree_row t.a t.cap t.L W (unhide HO t (List.mem_of_getElem? ht)) (Mem.nodes_call q1 b))
      have HN := hide ht
      have u1 : (D.length : Int) < (Ts.length : Int) := by omega
      have u3 : (0 : Int) ≤ (D.length : Int) := by omega
      simp only [Pl.Tr.val] at c0
      clear q0 ht q1
      go_wp2_with fail
      refine (unhide hz _ hbel).mono ?_
      rintro e w1 ⟨g, rfl, hg, ⟨cs, hrow, hcs⟩, hn, b1⟩
      have hgw : w.heap.size < g := by have := (Array.getElem?_eq_some_iff.1 (unhide HC).blk).1; omega
      have C1 := (unhide HC).call b1
      have hb2 := hbel.trans (b1.mono hbel.size)
      obtain ⟨x0, s0⟩ : ∃ x, w1.cell? ⟨w.heap.size, D.length, none⟩ = some x := ⟨_, (cell_of_row w1 _ D.length _ _ (0, 0) C1.blk).trans (Array.getElem?_eq_getElem (by rw [C1.size]; exact hlt))⟩
      have f0 : w1.frozen? ⟨w.heap.size, D.length, none⟩ = false := Mem.row_frozen C1.blk
      have HC2 := hide (C1.put t g (unhide HN) hgw hn ⟨cs, hrow, by omega⟩)
      have HB2 := hide hb2
      clear b1 hbel hz HC C1 hn hg hb2 hrow hcs
      go_wp2
      go_roundw
      case rel => exact ⟨_, _, by rw [List.length_append, List.length_singleton]; omega, by rw [List.length_append, List.length_singleton]; go_num, (unhide HB2).setCell (Nat.le_refl _) _, HC2⟩
      case measure => simp [intOf]; omega
    · have u1 : ¬ (D.length : Int) < (Ts.length : Int) := by omega
      go_wp2
      go_ret
      exact ⟨rfl, ⟨D, by omega, cur, unhide HC⟩, hbel⟩
set_option maxRecDepth 100000 in
theorem toLayers_any (a : Option Addr) (cap : Nat) (Ts : List Pl.Tr) (w : World) (hl : Ts.length ≤ 1048576) (hv : Mem.isTrees w a Ts) (hok : ∀ t ∈ Ts, t.L.length ≤ 1048576) :
    Calls Tryz.prog 8 #[.agg #[.slice a Ts.length cap]] w fun e w' => ∃ g D, e = .returned (.agg #[.slice (some ⟨g, 0, none⟩) Ts.length Ts.length]) ∧ w.heap.size ≤ g ∧ D.length = Ts.length ∧ D.map (·.L) = Ts.map (·.L) ∧ Rows w' g D ∧ Below w.heap.size w w' := by
  have b0 : Below w.heap.size w (((w.alloc (.cells #[.slice a Ts.length cap] 24)).alloc (.cells #[.slice none 0 0] 34)).alloc (.cells #[.slice none 0 0] 34)) := (((Below.refl _ _).alloc (Nat.le_refl _) _).alloc (by simp) _).alloc (by simp; omega) _
  have hz := hide (toTreeS_any a cap Ts _ hl (Mem.trees_call hv b0) hok)
  have hs : (((w.alloc (.cells #[.slice a Ts.length cap] 24)).alloc (.cells #[.slice none 0 0] 34)).alloc (.cells #[.slice none 0 0] 34)).heap.size = w.heap.size + 1 + 1 + 1 := by simp
  have r1 : Mem.Blk (((w.alloc (.cells #[.slice a Ts.length cap] 24)).alloc (.cells #[.slice none 0 0] 34)).alloc (.cells #[.slice none 0 0] 34)) (w.heap.size + 1) #[.slice none 0 0] 34 := Mem.new_mid w _ _ _
  have r2 : Mem.Blk (((w.alloc (.cells #[.slice a Ts.length cap] 24)).alloc (.cells #[.slice none 0 0] 34)).alloc (.cells #[.slice none 0 0] 34)) (w.heap.size + 1 + 1) #[.slice none 0 0] 34 := Mem.new_three w _ _ _
  have HB0 := hide b0
  clear hv hok b0
  go_enter Tryz.func8, Tryz.ntmps8
  go_wp2_with fail
  generalize (((w.alloc (.cells #[.slice a Ts.length cap] 24)).alloc (.cells #[.slice none 0 0] 34)).alloc (.cells #[.slice none 0 0] 34)) = w3 at hz hs r1 r2 HB0 ⊢
  refine (unhide hz).mono ?_
  rintro e w1 ⟨rfl, ⟨D, cur, hD, hC⟩, b1⟩
  have R1 := r1.call b1
  have R2 := r2.call b1
  have c1 := R1.cell 0
  have c2 := R2.cell 0
  have f1 := R1.fr 0
  have f2 := R2.fr 0
  simp only [List.getElem?_toArray, List.getElem?_cons_zero] at c1 c2
  have bb := hide ((unhide HB0).trans (b1.mono (unhide HB0).size))
  have HC := hide hC
  have HS := hide hs
  generalize hg : w3.heap.size = g at HS ⊢
  have HG := hide hg
  clear hz b1 hC hs r1 r2 R1 R2 HB0 hg
  go_wp2
  have hg := unhide HG
  have hs := unhide HS
  refine bodyPost_ret (v := .agg #[.slice (some ⟨g, 0, none⟩) Ts.length Ts.length]) (by simp [results, Tryz.results8, go_sem, c1]) rfl ⟨g, D, rfl, by omega, hD, ?_, ?_, ?_⟩
  · rw [(unhide HC).same, hD, List.take_length]
  · have := (((unhide HC).set ⟨w.heap.size + 1 + 1, 0, none⟩ (.slice (some ⟨g, 0, none⟩) Ts.length Ts.length) (by show w.heap.size + 1 + 1 < _; omega)).set ⟨w.heap.size + 1, 0, none⟩ (.slice (some ⟨g, 0, none⟩) Ts.length Ts.length) (by show w.heap.size + 1 < _; omega)).rows
    rw [hg] at this
    exact this
  · exact ((unhide bb).setCell (by show w.heap.size ≤ w.heap.size + 1 + 1; omega) _).setCell (by show w.heap.size ≤ w.heap.size + 1; omega) _
end WLawX
end Go.Proofs.YtmmomfnejkjkjaaGreatDoor

