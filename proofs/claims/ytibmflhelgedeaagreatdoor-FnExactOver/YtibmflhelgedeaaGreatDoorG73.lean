/- Several texts of one claim in one file: WLawR, WLawL, MemFar, WLawM, WLawX, MemBand, WMkL, OpenLay. -/
import Derived.Test.YtibmflhelgedeaaGreatDoorG39
import Derived.Test.YtibmflhelgedeaaGreatDoorG32
import Derived.Test.YtibmflhelgedeaaGreatDoorG02
import Derived.Outline
import Derived.Deep.RegionHeld3
import Derived.Test.YtibmflhelgedeaaGreatDoorG49
/- The walks of szNodeS and szTree at any room left. -/
namespace Go.Proofs.YtibmflhelgedeaaGreatDoor
open Go.RowKit
namespace WLaw
set_option maxRecDepth 100000 in
set_option maxHeartbeats 400000 in
theorem szNodeS_left (a : Option Addr) (cap : Nat) (L : List Pl.Nd) (left : Int) (hf0 : 0 ≤ left) (hf1 : left ≤ 1048576) (w : World) (hl : L.length ≤ maxLen) (hv : Mem.isNodes w a L) (hok : ∀ n ∈ L, n.path.size ≤ maxLen ∧ n.data.size ≤ maxLen) :
    Calls Tryz.prog 114 #[.slice a L.length cap, .int .i64 left] w fun e w' => (∃ r : Int, e = .returned (.int .i64 r) ∧ (r = -1 ∨ 0 ≤ r ∧ r ≤ 1048576 ∧ L.length ≤ 1048576 ∧ ∀ n ∈ L, n.path.size ≤ 1048576 ∧ n.data.size ≤ 1048576)) ∧ Below w.heap.size w w' := by
  have hl2 := hl
  unfold maxLen at hl2
  by_cases h0 : left < (L.length : Int)
  · have t0 : left - (L.length : Int) < 0 := by omega
    have t1 : IntKind.i64.wrap (left - (L.length : Int)) = left - (L.length : Int) := by rw [IntKind.wrap_i64]; omega
    go_enter Tryz.func114, Tryz.ntmps114
    go_wp2
    go_ret
    exact ⟨⟨-1, rfl, .inl rfl⟩, Below.refl _ _⟩
  have t0 : ¬ left - (L.length : Int) < 0 := by omega
  have t1 : IntKind.i64.wrap (left - (L.length : Int)) = left - (L.length : Int) := by rw [IntKind.wrap_i64]; omega
  have HV := hide hv
  have HO := hide hok
  clear hv hok
  go_enter Tryz.func114, Tryz.ntmps114
  go_wp2
  go_loopw [1, 5] (fun l i wr => ∃ (k : Nat) (r : Int), k ≤ L.length ∧ i = .int .i64 (k : Int) ∧ l = .int .i64 r ∧ 0 ≤ r ∧ r ≤ 1048576 ∧ Below w.heap.size w wr ∧ Hid (∀ (j : Nat) n, j < k → L[j]? = some n → n.path.size ≤ 1048576 ∧ n.data.size ≤ 1048576)) (fun _ i _ => L.length - (intOf i).toNat)
  case atStart => exact ⟨0, _, Nat.zero_le _, rfl, rfl, by omega, by omega, Below.refl _ _, fun j n h => absurd h (by omega)⟩
  case round =>
    obtain ⟨k, r, hk, rfl, rfl, hr0, hr1, hbel, HA⟩ := hrel
    by_cases hlt : k < L.length
    · obtain ⟨n, hn⟩ : ∃ n, L[k]? = some n := ⟨_, List.getElem?_eq_getElem hlt⟩
      obtain ⟨b, o, rfl, hb, q0, q1, q2, q3, q4⟩ := (unhide HV) k n hn
      have c0 := (hbel.cell (p := ⟨b, _, none⟩) hb).trans q0
      have c1 := (hbel.cell (p := ⟨b, _, none⟩) hb).trans q1
      have c2 := (hbel.cell (p := ⟨b, _, none⟩) hb).trans q2
      have c3 := (hbel.cell (p := ⟨b, _, none⟩) hb).trans q3
      have c4 := (hbel.cell (p := ⟨b, _, none⟩) hb).trans q4
      have hz := hide (fun W => szNode_any n r W (unhide HO n (List.mem_of_getElem? hn)).1 (unhide HO n (List.mem_of_getElem? hn)).2 hr0 hr1)
      have HN := hide hn
      have u1 : (k : Int) < (L.length : Int) := by omega
      have u3 : (0 : Int) ≤ (k : Int) := by omega
      clear q0 q1 q2 q3 q4 hn
      simp only [Pl.Nd.val] at hz
      go_wp2_with fail
      refine (unhide hz _).mono ?_
      rintro e w1 ⟨⟨r1, rfl, h1⟩, b1⟩
      have hb2 := hbel.trans (b1.mono hbel.size)
      clear b1 hbel hz
      rcases h1 with rfl | ⟨h2, h3⟩
      · go_wp2
        go_ret
        exact ⟨⟨-1, rfl, .inl rfl⟩, hb2⟩
      · have h4 : ¬ r1 < 0 := by omega
        have HA2 : Hid (∀ (j : Nat) m, j < k + 1 → L[j]? = some m → m.path.size ≤ 1048576 ∧ m.data.size ≤ 1048576) := fun j m hj h' => by
          rcases Nat.lt_succ_iff_lt_or_eq.1 hj with h'' | rfl
          · exact HA.out j m h'' h'
          · rw [unhide HN] at h'; cases h'; omega
        go_wp2
        go_roundw
        case rel => exact ⟨k + 1, r1, by omega, by go_num, rfl, h2, by omega, hb2, HA2⟩
        case measure => simp [intOf]; omega
    · have u1 : ¬ (k : Int) < (L.length : Int) := by omega
      go_wp2
      go_ret
      exact ⟨⟨r, rfl, .inr ⟨hr0, hr1, by omega, fun n hn => by
        obtain ⟨j, hj⟩ := List.mem_iff_getElem?.1 hn
        exact HA.out j n (by have := (List.getElem?_eq_some_iff.1 hj).1; omega) hj⟩⟩, hbel⟩
set_option maxRecDepth 100000 in
theorem szTree_left (a : Option Addr) (cap : Nat) (L : List Pl.Nd) (left : Int) (hf0 : 0 ≤ left) (hf1 : left ≤ 1048576) (w : World) (hl : L.length ≤ maxLen) (hv : Mem.isNodes w a L) (hok : ∀ n ∈ L, n.path.size ≤ maxLen ∧ n.data.size ≤ maxLen) :
    Calls Tryz.prog 53 #[.agg #[.slice a L.length cap], .int .i64 left] w fun e w' => (∃ r : Int, e = .returned (.int .i64 r) ∧ (r = -1 ∨ 0 ≤ r ∧ r ≤ 1048576 ∧ L.length ≤ 1048576 ∧ ∀ n ∈ L, n.path.size ≤ 1048576 ∧ n.data.size ≤ 1048576)) ∧ Below w.heap.size w w' := by
  have b0 : ∀ o, Below w.heap.size w (w.alloc o) := fun o => (Below.refl _ _).alloc (Nat.le_refl _) o
  have hz := hide (fun W (b : Below w.heap.size w W) => szNodeS_left a cap L left hf0 hf1 W hl (Mem.nodes_call hv b) hok)
  have HB := hide b0
  clear hv hok b0
  go_enter Tryz.func53, Tryz.ntmps53
  go_wp2_with fail
  refine (unhide hz _ (unhide HB _)).mono ?_
  rintro e w1 ⟨⟨r1, rfl, h1⟩, b1⟩
  have hb2 := (unhide HB _).trans (b1.mono (unhide HB _).size)
  clear b1 hz
  rcases h1 with rfl | ⟨h2, h3⟩
  · go_wp2
    go_ret
    exact ⟨⟨-1, rfl, .inl rfl⟩, hb2⟩
  · have h4 : ¬ r1 < 0 := by omega
    go_wp2
    go_ret
    exact ⟨⟨r1, rfl, .inr ⟨h2, h3⟩⟩, hb2⟩
end WLaw
end Go.Proofs.YtibmflhelgedeaaGreatDoor

/- The walks of the laws' own functions on rows of trees. -/
namespace Go.Proofs.YtibmflhelgedeaaGreatDoor
open Go.RowKit
namespace WLaw
set_option maxRecDepth 100000 in
set_option maxHeartbeats 800000 in
theorem szTreeS_any (a : Option Addr) (cap : Nat) (Ts : List Pl.Tr) (w : World) (hl : Ts.length ≤ maxLen) (hv : Mem.isTrees w a Ts) (hok : ∀ t ∈ Ts, t.L.length ≤ maxLen ∧ ∀ n ∈ t.L, n.path.size ≤ maxLen ∧ n.data.size ≤ maxLen) :
    Calls Tryz.prog 119 #[.slice a Ts.length cap, .int .i64 1048576] w fun e w' => (∃ r : Int, e = .returned (.int .i64 r) ∧ (r = -1 ∨ 0 ≤ r ∧ r ≤ 1048576 ∧ Ts.length ≤ 1048576 ∧ ∀ t ∈ Ts, t.L.length ≤ 1048576 ∧ ∀ n ∈ t.L, n.path.size ≤ 1048576 ∧ n.data.size ≤ 1048576)) ∧ Below w.heap.size w w' := by
  have hl2 := hl
  unfold maxLen at hl2
  by_cases h0 : 1048576 < Ts.length
  · have t0 : (1048576 : Int) - (Ts.length : Int) < 0 := by omega
    go_enter Tryz.func119, Tryz.ntmps119
    go_wp2
    go_ret
    exact ⟨⟨-1, rfl, .inl rfl⟩, Below.refl _ _⟩
  have t0 : ¬ (1048576 : Int) - (Ts.length : Int) < 0 := by omega
  have HV := hide hv
  have HO := hide hok
  clear hv hok
  go_enter Tryz.func119, Tryz.ntmps119
  go_wp2
  go_loopw [1, 5] (fun l i wr => ∃ (k : Nat) (r : Int), k ≤ Ts.length ∧ i = .int .i64 (k : Int) ∧ l = .int .i64 r ∧ 0 ≤ r ∧ r ≤ 1048576 ∧ Below w.heap.size w wr ∧ Hid (∀ (j : Nat) t, j < k → Ts[j]? = some t → t.L.length ≤ 1048576 ∧ ∀ n ∈ t.L, n.path.size ≤ 1048576 ∧ n.data.size ≤ 1048576)) (fun _ i _ => Ts.length - (intOf i).toNat)
  case atStart => exact ⟨0, _, Nat.zero_le _, rfl, rfl, by omega, by omega, Below.refl _ _, fun j n h => absurd h (by omega)⟩
  case round =>
    obtain ⟨k, r, hk, rfl, rfl, hr0, hr1, hbel, HA⟩ := hrel
    by_cases hlt : k < Ts.length
    · obtain ⟨t, ht⟩ : ∃ t, Ts[k]? = some t := ⟨_, List.getElem?_eq_getElem hlt⟩
      obtain ⟨⟨b, o, rfl, hb, q0⟩, q1⟩ := (unhide HV) k t ht
      have c0 := (hbel.cell (p := ⟨b, _, none⟩) hb).trans q0
      have hz := hide (fun W (b : Below w.heap.size w W) => szTree_left t.a t.cap t.L r hr0 hr1 W (unhide HO t (List.mem_of_getElem? ht)).1 (Mem.nodes_call q1 b) (unhide HO t (List.mem_of_getElem? ht)).2)
      have HN := hide ht
      have u1 : (k : Int) < (Ts.length : Int) := by omega
      have u3 : (0 : Int) ≤ (k : Int) := by omega
      simp only [Pl.Tr.val] at c0
      clear q0 ht q1
      go_wp2_with fail
      refine (unhide hz _ hbel).mono ?_
      rintro e w1 ⟨⟨r1, rfl, h1⟩, b1⟩
      have hb2 := hbel.trans (b1.mono hbel.size)
      clear b1 hbel hz
      rcases h1 with rfl | ⟨h2, h3, h5, h6⟩
      · go_wp2
        go_ret
        exact ⟨⟨-1, rfl, .inl rfl⟩, hb2⟩
      · have h4 : ¬ r1 < 0 := by omega
        have HA2 : Hid (∀ (j : Nat) m, j < k + 1 → Ts[j]? = some m → m.L.length ≤ 1048576 ∧ ∀ n ∈ m.L, n.path.size ≤ 1048576 ∧ n.data.size ≤ 1048576) := fun j m hj h' => by
          rcases Nat.lt_succ_iff_lt_or_eq.1 hj with h'' | rfl
          · exact HA.out j m h'' h'
          · rw [unhide HN] at h'; cases h'; exact ⟨h5, h6⟩
        clear h5 h6
        go_wp2
        go_roundw
        case rel => exact ⟨k + 1, r1, by omega, by go_num, rfl, h2, by omega, hb2, HA2⟩
        case measure => simp [intOf]; omega
    · have u1 : ¬ (k : Int) < (Ts.length : Int) := by omega
      go_wp2
      go_ret
      exact ⟨⟨r, rfl, .inr ⟨hr0, hr1, by omega, fun n hn => by
        obtain ⟨j, hj⟩ := List.mem_iff_getElem?.1 hn
        exact HA.out j n (by have := (List.getElem?_eq_some_iff.1 hj).1; omega) hj⟩⟩, hbel⟩
set_option maxRecDepth 100000 in
theorem szLayers_any (a : Option Addr) (cap : Nat) (Ts : List Pl.Tr) (w : World) (hl : Ts.length ≤ maxLen) (hv : Mem.isTrees w a Ts) (hok : ∀ t ∈ Ts, t.L.length ≤ maxLen ∧ ∀ n ∈ t.L, n.path.size ≤ maxLen ∧ n.data.size ≤ maxLen) :
    Calls Tryz.prog 62 #[.agg #[.slice a Ts.length cap], .int .i64 1048576] w fun e w' => (∃ r : Int, e = .returned (.int .i64 r) ∧ (r = -1 ∨ 0 ≤ r ∧ r ≤ 1048576 ∧ Ts.length ≤ 1048576 ∧ ∀ t ∈ Ts, t.L.length ≤ 1048576 ∧ ∀ n ∈ t.L, n.path.size ≤ 1048576 ∧ n.data.size ≤ 1048576)) ∧ Below w.heap.size w w' := by
  have b0 : ∀ o, Below w.heap.size w (w.alloc o) := fun o => (Below.refl _ _).alloc (Nat.le_refl _) o
  have hz := hide (fun W (b : Below w.heap.size w W) => szTreeS_any a cap Ts W hl (Mem.trees_call hv b) hok)
  have HB := hide b0
  clear hv hok b0
  go_enter Tryz.func62, Tryz.ntmps62
  go_wp2_with fail
  refine (unhide hz _ (unhide HB _)).mono ?_
  rintro e w1 ⟨⟨r1, rfl, h1⟩, b1⟩
  have hb2 := (unhide HB _).trans (b1.mono (unhide HB _).size)
  clear b1 hz
  rcases h1 with rfl | ⟨h2, h3⟩
  · go_wp2
    go_ret
    exact ⟨⟨-1, rfl, .inl rfl⟩, hb2⟩
  · have h4 : ¬ r1 < 0 := by omega
    go_wp2
    go_ret
    exact ⟨⟨r1, rfl, .inr ⟨h2, h3⟩⟩, hb2⟩
end WLaw
end Go.Proofs.YtibmflhelgedeaaGreatDoor

/- Rows of nodes through a store elsewhere. -/
namespace Go.Proofs.YtibmflhelgedeaaGreatDoor
open Go.RowKit
namespace Mem
theorem nodes_far {w : World} {g o : Nat} {L : List Pl.Nd} (h : isNodes w (some ⟨g, o, none⟩) L) (p : Addr) (v : Value) (hp : p.block ≠ g) : isNodes (w.setCell p v) (some ⟨g, o, none⟩) L := fun i n hi => by
  obtain ⟨g', o', h1, h2, h3, h4, h5, h6, h7⟩ := h i n hi
  cases h1
  refine ⟨g, o, rfl, by simpa using h2, ?_, ?_, ?_, ?_, ?_⟩ <;> (rw [World.cell?_setCell_far _ _ _ _ hp]; assumption)
end Mem
end Go.Proofs.YtibmflhelgedeaaGreatDoor

/- The walks of toLayers and eqLayers. -/
namespace Go.Proofs.YtibmflhelgedeaaGreatDoor
open Go.RowKit
namespace WLaw
def zeroTrees (n : Nat) : Array Value := madeCells (Value.agg #[.slice none 0 0]).cells n
theorem zeroTrees_size (n : Nat) : (zeroTrees n).size = n := size_madeCells _ _
theorem infoT : (Tryz.prog.info? 25).map (fun i => (i.zero, i.size, i.bytes)) = some (some (.agg #[.slice none 0 0]), 1, 24) := by kernel_rfl
theorem makeT (n : Nat) (hn : n ≤ 1048576) (w : World) : (Instr.makeSlice 54 (.int .i64 (n : Int)) (.int .i64 (n : Int))).run Tryz.prog w = .ok (.slice (some ⟨w.heap.size, 0, none⟩) n n) (w.alloc (.cells (zeroTrees n) 25)) := by
  obtain ⟨i0, h0, h1, h2, h3⟩ := info_parts infoT
  have h := run_make (P := Tryz.prog) w 54 25 i0 (.agg #[.slice none 0 0]) Tryz.underlying54 h0 h1 .i64 .i64 (n : Int) (n : Int) (by omega) (Int.le_refl _) (by rw [h3]; omega) (by omega)
  rw [h, h2]
  simp [zeroTrees]
/-- The trees that were copied so far: each in a row of its own, behind the row of trees. -/
structure Cop (w wr : World) (Ts D : List Pl.Tr) (cur : Array Value) : Prop where
  blk : wr.heap[w.heap.size]? = some (.cells cur 25 (0, 0))
  size : cur.size = Ts.length
  same : D.map (·.L) = (Ts.take D.length).map (·.L)
  each : ∀ (j : Nat) t, D[j]? = some t → cur[j]? = some t.val ∧ ∃ g, t.a = some ⟨g, 0, none⟩ ∧ w.heap.size < g ∧ Mem.isNodes wr t.a t.L
theorem Cop.call {w wr W : World} {Ts D : List Pl.Tr} {cur : Array Value} (h : Cop w wr Ts D cur) (b : Below wr.heap.size wr W) : Cop w W Ts D cur :=
  ⟨(b.block _ (Array.getElem?_eq_some_iff.1 h.blk).1).trans h.blk, h.size, h.same, fun j t hj => ⟨(h.each j t hj).1, by
    obtain ⟨g, h1, h2, h3⟩ := (h.each j t hj).2
    exact ⟨g, h1, h2, Mem.nodes_call h3 b⟩⟩⟩
theorem Cop.put {w wr : World} {Ts D : List Pl.Tr} {cur : Array Value} (h : Cop w wr Ts D cur) (t : Pl.Tr) (g : Nat) (hk : Ts[D.length]? = some t) (hg : w.heap.size < g) (hn : Mem.isNodes wr (some ⟨g, 0, none⟩) t.L) :
    Cop w (wr.setCell ⟨w.heap.size, D.length, none⟩ (.slice (some ⟨g, 0, none⟩) t.L.length t.L.length)) Ts (D ++ [⟨some ⟨g, 0, none⟩, t.L.length, t.L⟩]) (cur.setIfInBounds D.length (.slice (some ⟨g, 0, none⟩) t.L.length t.L.length)) := by
  have hlt := (List.getElem?_eq_some_iff.1 hk).1
  refine ⟨heap_setCell_same _ _ _ _ _ _ h.blk, by simpa using h.size, ?_, fun j m hj => ?_⟩
  · rw [List.length_append, List.length_singleton, List.take_add_one, hk, List.map_append, List.map_append, h.same]
    rfl
  · by_cases e : j < D.length
    · rw [List.getElem?_append_left e] at hj
      obtain ⟨h1, g', h2, h3, h4⟩ := h.each j m hj
      refine ⟨by rw [Array.getElem?_setIfInBounds, if_neg (by omega)]; exact h1, g', h2, h3, ?_⟩
      rw [h2] at h4 ⊢
      exact Mem.nodes_far h4 _ _ (by show w.heap.size ≠ g'; omega)
    · rw [List.getElem?_append_right (by omega)] at hj
      have hj0 : j = D.length := by
        have := (List.getElem?_eq_some_iff.1 hj).1
        simp at this; omega
      subst hj0
      simp at hj
      subst hj
      refine ⟨?_, g, rfl, hg, Mem.nodes_far hn _ _ (by show w.heap.size ≠ g; omega)⟩
      rw [Array.getElem?_setIfInBounds, if_pos rfl, if_pos (by have := h.size; omega)]
      rfl
theorem Cop.set {w wr : World} {Ts D : List Pl.Tr} {cur : Array Value} (h : Cop w wr Ts D cur) (p : Addr) (v : Value) (hp : p.block < w.heap.size) : Cop w (wr.setCell p v) Ts D cur :=
  ⟨(heap_setCell_other _ _ _ _ (by omega)).trans h.blk, h.size, h.same, fun j t hj => ⟨(h.each j t hj).1, by
    obtain ⟨g, h1, h2, h3⟩ := (h.each j t hj).2
    refine ⟨g, h1, h2, ?_⟩
    rw [h1] at h3 ⊢
    exact Mem.nodes_far h3 _ _ (by omega)⟩⟩
theorem Cop.trees {w wr : World} {Ts D : List Pl.Tr} {cur : Array Value} (h : Cop w wr Ts D cur) : Mem.isTrees wr (some ⟨w.heap.size, 0, none⟩) D := fun i t hi => by
  obtain ⟨h1, g, h2, h3, h4⟩ := h.each i t hi
  refine ⟨⟨_, 0, rfl, (Array.getElem?_eq_some_iff.1 h.blk).1, ?_⟩, h4⟩
  rw [cell_of_row wr _ _ _ _ (0, 0) h.blk, Nat.zero_add]
  exact h1
set_option linter.unusedSimpArgs false in
set_option maxRecDepth 100000 in
set_option maxHeartbeats 800000 in
theorem toTreeS_any (a : Option Addr) (cap : Nat) (Ts : List Pl.Tr) (w : World) (hl : Ts.length ≤ 1048576) (hv : Mem.isTrees w a Ts) (hok : ∀ t ∈ Ts, t.L.length ≤ 1048576) :
    Calls Tryz.prog 120 #[.slice a Ts.length cap] w fun e w' => e = .returned (.slice (some ⟨w.heap.size, 0, none⟩) Ts.length Ts.length) ∧ (∃ D cur, D.length = Ts.length ∧ Cop w w' Ts D cur) ∧ Below w.heap.size w w' := by
  have HV := hide hv
  have HO := hide hok
  have hmk := makeT Ts.length hl w
  clear hv hok
  go_enter Tryz.func120, Tryz.ntmps120
  go_wp2
  go_loopw [4] (fun i wr => ∃ (D : List Pl.Tr) (cur : Array Value), D.length ≤ Ts.length ∧ i = .int .i64 (D.length : Int) ∧ Below w.heap.size w wr ∧ Hid (Cop w wr Ts D cur)) (fun i _ => Ts.length - (intOf i).toNat)
  case atStart => exact ⟨[], zeroTrees Ts.length, Nat.zero_le _, rfl, (Below.refl _ _).alloc (Nat.le_refl _) _, hide ⟨heap_alloc_new w _, zeroTrees_size _, rfl, fun j t h => by simp at h⟩⟩
  case round =>
    obtain ⟨D, cur, hk, rfl, hbel, HC⟩ := hrel
    by_cases hlt : D.length < Ts.length
    · obtain ⟨t, ht⟩ : ∃ t, Ts[D.length]? = some t := ⟨_, List.getElem?_eq_getElem hlt⟩
      obtain ⟨⟨b, o, rfl, hb, q0⟩, q1⟩ := (unhide HV) D.length t ht
      have c0 := (hbel.cell (p := ⟨b, _, none⟩) hb).trans q0
      have hz := hide (fun W (b : Below w.heap.size w W) => toTree_row t.a t.cap t.L W (unhide HO t (List.mem_of_getElem? ht)) (Mem.nodes_call q1 b))
      have HN := hide ht
      have u1 : (D.length : Int) < (Ts.length : Int) := by omega
      have u3 : (0 : Int) ≤ (D.length : Int) := by omega
      simp only [Pl.Tr.val] at c0
      clear q0 ht q1
      go_wp2_with fail
      refine (unhide hz _ hbel).mono ?_
      rintro e w1 ⟨g, rfl, hg, -, hn, b1⟩
      have hgw : w.heap.size < g := by have := (Array.getElem?_eq_some_iff.1 (unhide HC).blk).1; omega
      have C1 := (unhide HC).call b1
      have hb2 := hbel.trans (b1.mono hbel.size)
      obtain ⟨x0, s0⟩ : ∃ x, w1.cell? ⟨w.heap.size, D.length, none⟩ = some x := ⟨_, (cell_of_row w1 _ D.length _ _ (0, 0) C1.blk).trans (Array.getElem?_eq_getElem (by rw [C1.size]; exact hlt))⟩
      have f0 : w1.frozen? ⟨w.heap.size, D.length, none⟩ = false := Mem.row_frozen C1.blk
      have HC2 := hide (C1.put t g (unhide HN) hgw hn)
      have HB2 := hide hb2
      clear b1 hbel hz HC C1 hn hg hb2
      go_wp2
      go_roundw
      case rel => exact ⟨_, _, by rw [List.length_append, List.length_singleton]; omega, by rw [List.length_append, List.length_singleton]; go_num, (unhide HB2).setCell (Nat.le_refl _) _, HC2⟩
      case measure => simp [intOf]; omega
    · have u1 : ¬ (D.length : Int) < (Ts.length : Int) := by omega
      go_wp2
      go_ret
      exact ⟨rfl, ⟨D, by omega, cur, unhide HC⟩, hbel⟩
set_option maxRecDepth 100000 in
theorem toLayers_any (a : Option Addr) (cap : Nat) (Ts : List Pl.Tr) (w : World) (hl : Ts.length ≤ 1048576) (hv : Mem.isTrees w a Ts) (hok : ∀ t ∈ Ts, t.L.length ≤ 1048576) :
    Calls Tryz.prog 63 #[.agg #[.slice a Ts.length cap]] w fun e w' => ∃ g D, e = .returned (.agg #[.slice (some ⟨g, 0, none⟩) Ts.length Ts.length]) ∧ w.heap.size ≤ g ∧ D.length = Ts.length ∧ D.map (·.L) = Ts.map (·.L) ∧ Mem.isTrees w' (some ⟨g, 0, none⟩) D ∧ Below w.heap.size w w' := by
  have b0 : Below w.heap.size w (((w.alloc (.cells #[.slice a Ts.length cap] 81)).alloc (.cells #[.slice none 0 0] 56)).alloc (.cells #[.slice none 0 0] 56)) := (((Below.refl _ _).alloc (Nat.le_refl _) _).alloc (by simp) _).alloc (by simp; omega) _
  have hz := hide (toTreeS_any a cap Ts _ hl (Mem.trees_call hv b0) hok)
  have hs : (((w.alloc (.cells #[.slice a Ts.length cap] 81)).alloc (.cells #[.slice none 0 0] 56)).alloc (.cells #[.slice none 0 0] 56)).heap.size = w.heap.size + 1 + 1 + 1 := by simp
  have r1 : Mem.Blk (((w.alloc (.cells #[.slice a Ts.length cap] 81)).alloc (.cells #[.slice none 0 0] 56)).alloc (.cells #[.slice none 0 0] 56)) (w.heap.size + 1) #[.slice none 0 0] 56 := Mem.new_mid w _ _ _
  have r2 : Mem.Blk (((w.alloc (.cells #[.slice a Ts.length cap] 81)).alloc (.cells #[.slice none 0 0] 56)).alloc (.cells #[.slice none 0 0] 56)) (w.heap.size + 1 + 1) #[.slice none 0 0] 56 := Mem.new_three w _ _ _
  have HB0 := hide b0
  clear hv hok b0
  go_enter Tryz.func63, Tryz.ntmps63
  go_wp2_with fail
  generalize (((w.alloc (.cells #[.slice a Ts.length cap] 81)).alloc (.cells #[.slice none 0 0] 56)).alloc (.cells #[.slice none 0 0] 56)) = w3 at hz hs r1 r2 HB0 ⊢
  refine (unhide hz).mono ?_
  rintro e w1 ⟨rfl, ⟨D, cur, hD, hC⟩, b1⟩
  have R1 := r1.call b1
  have R2 := r2.call b1
  have c1 := R1.cell 0
  have c2 := R2.cell 0
  have f1 := R1.fr 0
  have f2 := R2.fr 0
  simp only [kA0, kA1] at c1 c2
  have bb := hide ((unhide HB0).trans (b1.mono (unhide HB0).size))
  have HC := hide hC
  have HS := hide hs
  generalize hg : w3.heap.size = g at HS ⊢
  have HG := hide hg
  clear hz b1 hC hs r1 r2 R1 R2 HB0 hg
  go_wp2
  have hg := unhide HG
  have hs := unhide HS
  refine bodyPost_ret (v := .agg #[.slice (some ⟨g, 0, none⟩) Ts.length Ts.length]) (by simp [results, Tryz.results63, go_sem, c1]) rfl ⟨g, D, rfl, by omega, hD, ?_, ?_, ?_⟩
  · rw [(unhide HC).same, hD, List.take_length]
  · have := (((unhide HC).set ⟨w.heap.size + 1 + 1, 0, none⟩ (.slice (some ⟨g, 0, none⟩) Ts.length Ts.length) (by show w.heap.size + 1 + 1 < _; omega)).set ⟨w.heap.size + 1, 0, none⟩ (.slice (some ⟨g, 0, none⟩) Ts.length Ts.length) (by show w.heap.size + 1 < _; omega)).trees
    rw [hg] at this
    exact this
  · exact ((unhide bb).setCell (by show w.heap.size ≤ w.heap.size + 1 + 1; omega) _).setCell (by show w.heap.size ≤ w.heap.size + 1; omega) _
set_option maxRecDepth 100000 in
set_option maxHeartbeats 800000 in
theorem eqTreeS_any (a b : Option Addr) (c1 c2 : Nat) (Ts Us : List Pl.Tr) (w : World) (hl : Ts.length ≤ 1048576) (hm : Us.map (·.L) = Ts.map (·.L)) (hv : Mem.isTrees w a Ts) (hu : Mem.isTrees w b Us) (hok : ∀ t ∈ Ts, t.L.length ≤ 1048576) :
    Calls Tryz.prog 121 #[.slice a Ts.length c1, .slice b Ts.length c2] w fun e w' => e = .returned (.bool true) ∧ Below w.heap.size w w' := by
  have HV := hide hv
  have HU := hide hu
  have HO := hide hok
  have HM := hide hm
  clear hv hu hok hm
  go_enter Tryz.func121, Tryz.ntmps121
  go_wp2
  go_loopw [5] (fun i wr => ∃ k : Nat, k ≤ Ts.length ∧ i = .int .i64 (k : Int) ∧ Below w.heap.size w wr) (fun i _ => Ts.length - (intOf i).toNat)
  case atStart => exact ⟨0, Nat.zero_le _, rfl, Below.refl _ _⟩
  case round =>
    obtain ⟨k, hk, rfl, hbel⟩ := hrel
    by_cases hlt : k < Ts.length
    · obtain ⟨t, ht⟩ : ∃ n, Ts[k]? = some n := ⟨_, List.getElem?_eq_getElem hlt⟩
      obtain ⟨u, hu, hul⟩ : ∃ u, Us[k]? = some u ∧ u.L = t.L := by
        have h := congrArg (fun l => l[k]?) (unhide HM)
        simp only [List.getElem?_map, ht, Option.map_some] at h
        cases hu : Us[k]? with
        | none => rw [hu] at h; simp at h
        | some u => rw [hu] at h; simp at h; exact ⟨u, rfl, h⟩
      obtain ⟨⟨g, o, rfl, hg, q0⟩, q1⟩ := (unhide HV) k t ht
      obtain ⟨⟨g2, o2, rfl, hg2, p0⟩, p1⟩ := (unhide HU) k u hu
      have c0 := (hbel.cell (p := ⟨g, _, none⟩) hg).trans q0
      have d0 := (hbel.cell (p := ⟨g2, _, none⟩) hg2).trans p0
      rw [hul] at p1
      simp only [Pl.Tr.val, hul] at c0 d0
      have hz := hide (fun W (b : Below w.heap.size w W) => eqTree_any t.a u.a t.cap u.cap t.L W (unhide HO t (List.mem_of_getElem? ht)) (Mem.nodes_call q1 b) (Mem.nodes_call p1 b))
      have MK : Hid (∀ W', Below w.heap.size w W' → (Below w.heap.size w W' ∧ W'.cell? ⟨g, o + k, none⟩ = some (.slice t.a t.L.length t.cap) ∧ W'.cell? ⟨g2, o2 + k, none⟩ = some (.slice u.a t.L.length u.cap))) := fun W' hb' => ⟨hb', (hb'.cell (p := ⟨g, _, none⟩) hg).trans (by rw [q0, Pl.Tr.val]), (hb'.cell (p := ⟨g2, _, none⟩) hg2).trans (by rw [p0, Pl.Tr.val, hul])⟩
      have u1 : (k : Int) < (Ts.length : Int) := by omega
      have u3 : (0 : Int) ≤ (k : Int) := by omega
      have hbd : Below w.heap.size w wr.drew := ⟨hbel.os, hbel.tape, hbel.output, hbel.size, hbel.block⟩
      clear q0 p0 ht hu hul q1 p1
      go_wp2_with fail
      go_region_held3 (fun W' => Below w.heap.size w W' ∧ W'.cell? ⟨g, o + k, none⟩ = some (.slice t.a t.L.length t.cap) ∧ W'.cell? ⟨g2, o2 + k, none⟩ = some (.slice u.a t.L.length u.cap)) (first | exact unhide MK _ hbd | exact unhide MK _ (hbd.trans (bX.mono hbd.size))) (first | (go_at_call 58; refine (unhide hz _ hbd).mono ?_; rintro e wX ⟨rfl, bX⟩))
      have hb2 := hbd.trans (bX.mono hbd.size)
      clear hbel hbd bX MK
      go_wp2
      go_roundw
      case rel => exact ⟨k + 1, by omega, by go_num, hb2⟩
      case measure => simp [intOf]; omega
    · have u1 : ¬ (k : Int) < (Ts.length : Int) := by omega
      go_wp2
      go_ret
      exact ⟨rfl, hbel⟩
set_option maxRecDepth 100000 in
theorem eqLayers_any (a b : Option Addr) (c1 c2 : Nat) (Ts Us : List Pl.Tr) (w : World) (hl : Ts.length ≤ 1048576) (hm : Us.map (·.L) = Ts.map (·.L)) (hv : Mem.isTrees w a Ts) (hu : Mem.isTrees w b Us) (hok : ∀ t ∈ Ts, t.L.length ≤ 1048576) :
    Calls Tryz.prog 64 #[.agg #[.slice a Ts.length c1], .agg #[.slice b Ts.length c2]] w fun e w' => e = .returned (.bool true) ∧ Below w.heap.size w w' := by
  have b0 : ∀ o1 o2, Below w.heap.size w ((w.alloc o1).alloc o2) := fun o1 o2 => ((Below.refl _ _).alloc (Nat.le_refl _) o1).alloc (by simp) o2
  have HB := hide b0
  have HZ := hide (fun W (b' : Below w.heap.size w W) => eqTreeS_any a b c1 c2 Ts Us W hl hm (Mem.trees_call hv b') (Mem.trees_call hu b') hok)
  clear hv hu b0 hm hok
  go_enter Tryz.func64, Tryz.ntmps64
  go_wp2_with fail
  refine (unhide HZ _ (unhide HB _ _)).mono ?_
  rintro e w1 ⟨rfl, b1⟩
  have bb := (unhide HB _ _).trans (b1.mono (unhide HB _ _).size)
  clear HZ b1
  go_wp2
  go_ret
  exact ⟨rfl, bb⟩
end WLaw
end Go.Proofs.YtibmflhelgedeaaGreatDoor

/- The walks of toTreeS and toLayers, with the rows of the nodes that were copied (out of WLawM). -/
namespace Go.Proofs.YtibmflhelgedeaaGreatDoor
open Go.RowKit
namespace WLawX
open WLaw
/-- The trees that were copied so far: each in a row of its own, behind the row of trees. -/
structure Cop (w wr : World) (Ts D : List Pl.Tr) (cur : Array Value) : Prop where
  blk : wr.heap[w.heap.size]? = some (.cells cur 25 (0, 0))
  size : cur.size = Ts.length
  same : D.map (·.L) = (Ts.take D.length).map (·.L)
  each : ∀ (j : Nat) t, D[j]? = some t → cur[j]? = some t.val ∧ ∃ g, t.a = some ⟨g, 0, none⟩ ∧ w.heap.size < g ∧ Mem.isNodes wr t.a t.L ∧ ∃ cs, wr.heap[g]? = some (.cells cs 27 (0, 0)) ∧ t.L.length * 5 ≤ cs.size
theorem Cop.call {w wr W : World} {Ts D : List Pl.Tr} {cur : Array Value} (h : Cop w wr Ts D cur) (b : Below wr.heap.size wr W) : Cop w W Ts D cur :=
  ⟨(b.block _ (Array.getElem?_eq_some_iff.1 h.blk).1).trans h.blk, h.size, h.same, fun j t hj => ⟨(h.each j t hj).1, by
    obtain ⟨g, h1, h2, h3, cs, h4, h5⟩ := (h.each j t hj).2
    exact ⟨g, h1, h2, Mem.nodes_call h3 b, cs, (b.block _ (Array.getElem?_eq_some_iff.1 h4).1).trans h4, h5⟩⟩⟩
theorem Cop.put {w wr : World} {Ts D : List Pl.Tr} {cur : Array Value} (h : Cop w wr Ts D cur) (t : Pl.Tr) (g : Nat) (hk : Ts[D.length]? = some t) (hg : w.heap.size < g) (hn : Mem.isNodes wr (some ⟨g, 0, none⟩) t.L) (hr : ∃ cs, wr.heap[g]? = some (.cells cs 27 (0, 0)) ∧ t.L.length * 5 ≤ cs.size) :
    Cop w (wr.setCell ⟨w.heap.size, D.length, none⟩ (.slice (some ⟨g, 0, none⟩) t.L.length t.L.length)) Ts (D ++ [⟨some ⟨g, 0, none⟩, t.L.length, t.L⟩]) (cur.setIfInBounds D.length (.slice (some ⟨g, 0, none⟩) t.L.length t.L.length)) := by
  have hlt := (List.getElem?_eq_some_iff.1 hk).1
  refine ⟨heap_setCell_same _ _ _ _ _ _ h.blk, by simpa using h.size, ?_, fun j m hj => ?_⟩
  · rw [List.length_append, List.length_singleton, List.take_add_one, hk, List.map_append, List.map_append, h.same]
    rfl
  · by_cases e : j < D.length
    · rw [List.getElem?_append_left e] at hj
      obtain ⟨h1, g', h2, h3, h4, cs, h5, h6⟩ := h.each j m hj
      refine ⟨by rw [Array.getElem?_setIfInBounds, if_neg (by omega)]; exact h1, g', h2, h3, ?_, cs, (heap_setCell_other _ _ _ _ (by show g' ≠ w.heap.size; omega)).trans h5, h6⟩
      rw [h2] at h4 ⊢
      exact Mem.nodes_far h4 _ _ (by show w.heap.size ≠ g'; omega)
    · rw [List.getElem?_append_right (by omega)] at hj
      have hj0 : j = D.length := by
        have := (List.getElem?_eq_some_iff.1 hj).1
        simp at this; omega
      subst hj0
      simp at hj
      subst hj
      obtain ⟨cs, h5, h6⟩ := hr
      refine ⟨?_, g, rfl, hg, Mem.nodes_far hn _ _ (by show w.heap.size ≠ g; omega), cs, (heap_setCell_other _ _ _ _ (by show g ≠ w.heap.size; omega)).trans h5, h6⟩
      rw [Array.getElem?_setIfInBounds, if_pos rfl, if_pos (by have := h.size; omega)]
      rfl
theorem Cop.set {w wr : World} {Ts D : List Pl.Tr} {cur : Array Value} (h : Cop w wr Ts D cur) (p : Addr) (v : Value) (hp : p.block < w.heap.size) : Cop w (wr.setCell p v) Ts D cur :=
  ⟨(heap_setCell_other _ _ _ _ (by omega)).trans h.blk, h.size, h.same, fun j t hj => ⟨(h.each j t hj).1, by
    obtain ⟨g, h1, h2, h3, cs, h5, h6⟩ := (h.each j t hj).2
    refine ⟨g, h1, h2, ?_, cs, (heap_setCell_other _ _ _ _ (by omega)).trans h5, h6⟩
    rw [h1] at h3 ⊢
    exact Mem.nodes_far h3 _ _ (by omega)⟩⟩
theorem Cop.trees {w wr : World} {Ts D : List Pl.Tr} {cur : Array Value} (h : Cop w wr Ts D cur) : Mem.isTrees wr (some ⟨w.heap.size, 0, none⟩) D := fun i t hi => by
  obtain ⟨h1, g, h2, h3, h4, -⟩ := h.each i t hi
  refine ⟨⟨_, 0, rfl, (Array.getElem?_eq_some_iff.1 h.blk).1, ?_⟩, h4⟩
  rw [cell_of_row wr _ _ _ _ (0, 0) h.blk, Nat.zero_add]
  exact h1
/-- A row of trees in memory of the call's own, each with its own row of nodes behind it. -/
structure Rows (W : World) (g : Nat) (D : List Pl.Tr) : Prop where
  trees : Mem.isTrees W (some ⟨g, 0, none⟩) D
  lt : g < W.heap.size
  each : ∀ (j : Nat) t, D[j]? = some t → ∃ q, t.a = some ⟨q, 0, none⟩ ∧ g < q ∧ q < W.heap.size ∧ ∃ cs, W.heap[q]? = some (.cells cs 27 (0, 0)) ∧ t.L.length * 5 ≤ cs.size
theorem Rows.call {W W' : World} {g : Nat} {D : List Pl.Tr} (h : Rows W g D) (b : Below W.heap.size W W') : Rows W' g D :=
  ⟨Mem.trees_call h.trees b, Nat.lt_of_lt_of_le h.lt b.size, fun j t hj => by
    obtain ⟨q, h1, h2, h3, cs, h4, h5⟩ := h.each j t hj
    exact ⟨q, h1, h2, Nat.lt_of_lt_of_le h3 b.size, cs, (b.block _ h3).trans h4, h5⟩⟩
theorem Cop.rows {w wr : World} {Ts D : List Pl.Tr} {cur : Array Value} (h : Cop w wr Ts D cur) : Rows wr w.heap.size D :=
  ⟨h.trees, (Array.getElem?_eq_some_iff.1 h.blk).1, fun j t hj => by
    obtain ⟨-, g, h2, h3, h4, cs, h5, h6⟩ := h.each j t hj
    exact ⟨g, h2, h3, (Array.getElem?_eq_some_iff.1 h5).1, cs, h5, h6⟩⟩
set_option linter.unusedSimpArgs false in
set_option maxRecDepth 100000 in
set_option maxHeartbeats 800000 in
theorem toTreeS_any (a : Option Addr) (cap : Nat) (Ts : List Pl.Tr) (w : World) (hl : Ts.length ≤ 1048576) (hv : Mem.isTrees w a Ts) (hok : ∀ t ∈ Ts, t.L.length ≤ 1048576) :
    Calls Tryz.prog 120 #[.slice a Ts.length cap] w fun e w' => e = .returned (.slice (some ⟨w.heap.size, 0, none⟩) Ts.length Ts.length) ∧ (∃ D cur, D.length = Ts.length ∧ Cop w w' Ts D cur) ∧ Below w.heap.size w w' := by
  have HV := hide hv
  have HO := hide hok
  have hmk := makeT Ts.length hl w
  clear hv hok
  go_enter Tryz.func120, Tryz.ntmps120
  go_wp2
  go_loopw [4] (fun i wr => ∃ (D : List Pl.Tr) (cur : Array Value), D.length ≤ Ts.length ∧ i = .int .i64 (D.length : Int) ∧ Below w.heap.size w wr ∧ Hid (Cop w wr Ts D cur)) (fun i _ => Ts.length - (intOf i).toNat)
  case atStart => exact ⟨[], zeroTrees Ts.length, Nat.zero_le _, rfl, (Below.refl _ _).alloc (Nat.le_refl _) _, hide ⟨heap_alloc_new w _, zeroTrees_size _, rfl, fun j t h => by simp at h⟩⟩
  case round =>
    obtain ⟨D, cur, hk, rfl, hbel, HC⟩ := hrel
    by_cases hlt : D.length < Ts.length
    · obtain ⟨t, ht⟩ : ∃ t, Ts[D.length]? = some t := ⟨_, List.getElem?_eq_getElem hlt⟩
      obtain ⟨⟨b, o, rfl, hb, q0⟩, q1⟩ := (unhide HV) D.length t ht
      have c0 := (hbel.cell (p := ⟨b, _, none⟩) hb).trans q0
      have hz := hide (fun W (b : Below w.heap.size w W) => toTree_row t.a t.cap t.L W (unhide HO t (List.mem_of_getElem? ht)) (Mem.nodes_call q1 b))
      have HN := hide ht
      have u1 : (D.length : Int) < (Ts.length : Int) := by omega
      have u3 : (0 : Int) ≤ (D.length : Int) := by omega
      simp only [Pl.Tr.val] at c0
      clear q0 ht q1
      go_wp2_with fail
      refine (unhide hz _ hbel).mono ?_
      rintro e w1 ⟨g, rfl, hg, ⟨cs, hrow, hcs⟩, hn, b1⟩
      have hgw : w.heap.size < g := by have := (Array.getElem?_eq_some_iff.1 (unhide HC).blk).1; omega
      have C1 := (unhide HC).call b1
      have hb2 := hbel.trans (b1.mono hbel.size)
      obtain ⟨x0, s0⟩ : ∃ x, w1.cell? ⟨w.heap.size, D.length, none⟩ = some x := ⟨_, (cell_of_row w1 _ D.length _ _ (0, 0) C1.blk).trans (Array.getElem?_eq_getElem (by rw [C1.size]; exact hlt))⟩
      have f0 : w1.frozen? ⟨w.heap.size, D.length, none⟩ = false := Mem.row_frozen C1.blk
      have HC2 := hide (C1.put t g (unhide HN) hgw hn ⟨cs, hrow, by omega⟩)
      have HB2 := hide hb2
      clear b1 hbel hz HC C1 hn hg hb2 hrow hcs
      go_wp2
      go_roundw
      case rel => exact ⟨_, _, by rw [List.length_append, List.length_singleton]; omega, by rw [List.length_append, List.length_singleton]; go_num, (unhide HB2).setCell (Nat.le_refl _) _, HC2⟩
      case measure => simp [intOf]; omega
    · have u1 : ¬ (D.length : Int) < (Ts.length : Int) := by omega
      go_wp2
      go_ret
      exact ⟨rfl, ⟨D, by omega, cur, unhide HC⟩, hbel⟩
set_option maxRecDepth 100000 in
theorem toLayers_any (a : Option Addr) (cap : Nat) (Ts : List Pl.Tr) (w : World) (hl : Ts.length ≤ 1048576) (hv : Mem.isTrees w a Ts) (hok : ∀ t ∈ Ts, t.L.length ≤ 1048576) :
    Calls Tryz.prog 63 #[.agg #[.slice a Ts.length cap]] w fun e w' => ∃ g D, e = .returned (.agg #[.slice (some ⟨g, 0, none⟩) Ts.length Ts.length]) ∧ w.heap.size ≤ g ∧ D.length = Ts.length ∧ D.map (·.L) = Ts.map (·.L) ∧ Rows w' g D ∧ Below w.heap.size w w' := by
  have b0 : Below w.heap.size w (((w.alloc (.cells #[.slice a Ts.length cap] 81)).alloc (.cells #[.slice none 0 0] 56)).alloc (.cells #[.slice none 0 0] 56)) := (((Below.refl _ _).alloc (Nat.le_refl _) _).alloc (by simp) _).alloc (by simp; omega) _
  have hz := hide (toTreeS_any a cap Ts _ hl (Mem.trees_call hv b0) hok)
  have hs : (((w.alloc (.cells #[.slice a Ts.length cap] 81)).alloc (.cells #[.slice none 0 0] 56)).alloc (.cells #[.slice none 0 0] 56)).heap.size = w.heap.size + 1 + 1 + 1 := by simp
  have r1 : Mem.Blk (((w.alloc (.cells #[.slice a Ts.length cap] 81)).alloc (.cells #[.slice none 0 0] 56)).alloc (.cells #[.slice none 0 0] 56)) (w.heap.size + 1) #[.slice none 0 0] 56 := Mem.new_mid w _ _ _
  have r2 : Mem.Blk (((w.alloc (.cells #[.slice a Ts.length cap] 81)).alloc (.cells #[.slice none 0 0] 56)).alloc (.cells #[.slice none 0 0] 56)) (w.heap.size + 1 + 1) #[.slice none 0 0] 56 := Mem.new_three w _ _ _
  have HB0 := hide b0
  clear hv hok b0
  go_enter Tryz.func63, Tryz.ntmps63
  go_wp2_with fail
  generalize (((w.alloc (.cells #[.slice a Ts.length cap] 81)).alloc (.cells #[.slice none 0 0] 56)).alloc (.cells #[.slice none 0 0] 56)) = w3 at hz hs r1 r2 HB0 ⊢
  refine (unhide hz).mono ?_
  rintro e w1 ⟨rfl, ⟨D, cur, hD, hC⟩, b1⟩
  have R1 := r1.call b1
  have R2 := r2.call b1
  have c1 := R1.cell 0
  have c2 := R2.cell 0
  have f1 := R1.fr 0
  have f2 := R2.fr 0
  simp only [kA0, kA1] at c1 c2
  have bb := hide ((unhide HB0).trans (b1.mono (unhide HB0).size))
  have HC := hide hC
  have HS := hide hs
  generalize hg : w3.heap.size = g at HS ⊢
  have HG := hide hg
  clear hz b1 hC hs r1 r2 R1 R2 HB0 hg
  go_wp2
  have hg := unhide HG
  have hs := unhide HS
  refine bodyPost_ret (v := .agg #[.slice (some ⟨g, 0, none⟩) Ts.length Ts.length]) (by simp [results, Tryz.results63, go_sem, c1]) rfl ⟨g, D, rfl, by omega, hD, ?_, ?_, ?_⟩
  · rw [(unhide HC).same, hD, List.take_length]
  · have := (((unhide HC).set ⟨w.heap.size + 1 + 1, 0, none⟩ (.slice (some ⟨g, 0, none⟩) Ts.length Ts.length) (by show w.heap.size + 1 + 1 < _; omega)).set ⟨w.heap.size + 1, 0, none⟩ (.slice (some ⟨g, 0, none⟩) Ts.length Ts.length) (by show w.heap.size + 1 < _; omega)).rows
    rw [hg] at this
    exact this
  · exact ((unhide bb).setCell (by show w.heap.size ≤ w.heap.size + 1 + 1; omega) _).setCell (by show w.heap.size ≤ w.heap.size + 1; omega) _
end WLawX
end Go.Proofs.YtibmflhelgedeaaGreatDoor

/- All is as it was, but for a band of blocks. -/
namespace Go.Proofs.YtibmflhelgedeaaGreatDoor
open Go.RowKit
namespace Mem
/-- All is as it was, but for the blocks from one number on and below another one. -/
structure Band (Y X : Nat) (w w' : World) : Prop where
  os : w'.os = w.os
  tape : w'.tape = w.tape
  output : w'.output = w.output
  size : w.heap.size ≤ w'.heap.size
  block : ∀ j, j < w.heap.size → (j < Y ∨ X ≤ j) → w'.heap[j]? = w.heap[j]?
theorem Band.refl (Y X : Nat) (w : World) : Band Y X w w := ⟨rfl, rfl, rfl, Nat.le_refl _, fun _ _ _ => rfl⟩
theorem Band.of_below {Y X : Nat} {w w' : World} (b : Below w.heap.size w w') : Band Y X w w' := ⟨b.os, b.tape, b.output, b.size, fun j hj _ => b.block j hj⟩
theorem Band.of_grown {Y X g : Nat} {w w' : World} (b : w.grownBy w' (some g)) (h1 : Y ≤ g) (h2 : g < X) : Band Y X w w' := ⟨b.os, b.tape, b.output, b.size, fun j hj hh => b.block j hj (fun e => by cases e; omega)⟩
theorem Band.trans {Y X : Nat} {w v v' : World} (h : Band Y X w v) (h' : Band Y X v v') : Band Y X w v' :=
  ⟨h'.os.trans h.os, h'.tape.trans h.tape, h'.output.trans h.output, Nat.le_trans h.size h'.size, fun j hj hh => (h'.block j (Nat.lt_of_lt_of_le hj h.size) hh).trans (h.block j hj hh)⟩
theorem Band.below {Y X B : Nat} {w v v' : World} (h : Band Y X v v') (b : Below B w v) (hB : B ≤ Y) (hs : B ≤ v.heap.size) : Below B w v' :=
  ⟨h.os.trans b.os, h.tape.trans b.tape, h.output.trans b.output, Nat.le_trans b.size h.size, fun j hj => (h.block j (by omega) (.inl (by omega))).trans (b.block j hj)⟩
theorem Band.blk {Y X g : Nat} {w w' : World} {cs : Array Value} {T : TypeId} (h : Band Y X w w') (hb : Blk w g cs T) (hg : g < Y ∨ X ≤ g) : Blk w' g cs T := (h.block g hb.lt hg).trans hb
theorem Band.row {Y X B e size n : Nat} {w w' : World} {v : Value} {xs : List Value} (h : Band Y X w w') (o : w.ownsRow B e size v n xs) (hg : ∀ g, v.ownBlock = some g → g < Y ∨ X ≤ g) : w'.ownsRow B e size v n xs := by
  refine ⟨o.1, ?_⟩
  rcases o.2 with h0 | ⟨g, cap, cur, rfl, hb, hh, rest⟩
  · exact .inl h0
  · exact .inr ⟨g, cap, cur, rfl, hb, (h.block g (Array.getElem?_eq_some_iff.1 hh).1 (hg g rfl)).trans hh, rest⟩
theorem Band.of_set {Y X : Nat} {w : World} (p : Addr) (v : Value) (h1 : Y ≤ p.block) (h2 : p.block < X) : Band Y X w (w.setCell p v) :=
  have b : Below 0 w (w.setCell p v) := (Below.refl 0 w).setCell (Nat.zero_le _) v
  ⟨b.os, b.tape, b.output, b.size, fun j _ hh => heap_setCell_other _ _ _ _ (by omega)⟩
end Mem
end Go.Proofs.YtibmflhelgedeaaGreatDoor

/- The laws' own marks on layers. -/
namespace Go.Proofs.YtibmflhelgedeaaGreatDoor
open Go.RowKit
namespace WMkL
/-- What the marks want, and leave: the row of trees, and a row of nodes for each. -/
structure Has (W : World) (g X : Nat) (D : List Pl.Tr) : Prop where
  cell : ∀ (j : Nat) t, D[j]? = some t → W.cell? ⟨g, j, none⟩ = some t.val
  lt : g < W.heap.size
  each : ∀ (j : Nat) t, D[j]? = some t → ∃ q, t.a = some ⟨q, 0, none⟩ ∧ g < q ∧ q < X ∧ ∃ cs, W.heap[q]? = some (.cells cs 27 (0, 0)) ∧ t.L.length * 5 ≤ cs.size
theorem has_rows {W : World} {g : Nat} {D : List Pl.Tr} (h : WLawX.Rows W g D) : Has W g W.heap.size D :=
  ⟨fun j t hj => by
    obtain ⟨⟨b, o, h1, h2, h3⟩, -⟩ := h.trees j t hj
    cases h1
    rw [Nat.zero_add] at h3
    exact h3, h.lt, h.each⟩
theorem Has.call {W W' : World} {g X : Nat} {D : List Pl.Tr} (h : Has W g X D) (b : Below W.heap.size W W') : Has W' g X D :=
  ⟨fun j t hj => (b.cell (p := ⟨g, j, none⟩) h.lt).trans (h.cell j t hj), Nat.lt_of_lt_of_le h.lt b.size, fun j t hj => by
    obtain ⟨q, h1, h2, h3, cs, h4, h5⟩ := h.each j t hj
    exact ⟨q, h1, h2, h3, cs, (b.block q (Array.getElem?_eq_some_iff.1 h4).1).trans h4, h5⟩⟩
theorem cell_block {w w' : World} {g j : Nat} (h : w'.heap[g]? = w.heap[g]?) : w'.cell? ⟨g, j, none⟩ = w.cell? ⟨g, j, none⟩ := by
  simp only [World.cell?, h]
theorem Has.marked {W W' : World} {g X q : Nat} {D : List Pl.Tr} {cur cur' : Array Value} (h : Has W g X D) (hq : g < q) (hr : W.heap[q]? = some (.cells cur 27 (0, 0))) (hr' : W'.heap[q]? = some (.cells cur' 27 (0, 0))) (hs : cur'.size = cur.size) (hg : W.grownBy W' (some q)) : Has W' g X D :=
  ⟨fun j t hj => (cell_block (hg.block g h.lt (fun e => by cases e; omega))).trans (h.cell j t hj), Nat.lt_of_lt_of_le h.lt hg.size, fun j t hj => by
    obtain ⟨p, h1, h2, h3, cs, h4, h5⟩ := h.each j t hj
    by_cases e : p = q
    · subst e
      rw [hr] at h4
      cases h4
      exact ⟨p, h1, h2, h3, cur', hr', by omega⟩
    · exact ⟨p, h1, h2, h3, cs, (hg.block p (Array.getElem?_eq_some_iff.1 h4).1 (fun e2 => by cases e2; exact e rfl)).trans h4, h5⟩⟩
set_option linter.unusedSimpArgs false in
set_option maxRecDepth 100000 in
set_option maxHeartbeats 1000000 in
theorem markS_any (g X cap : Nat) (D : List Pl.Tr) (w : World) (hl : D.length ≤ 1048576) (hok : ∀ t ∈ D, t.L.length ≤ 1048576) (hv : Has w g X D) :
    Calls Tryz.prog 122 #[.slice (some ⟨g, 0, none⟩) D.length cap, .int .i64 1] w fun e w' => (∃ K : Nat, e = .returned (.int .i64 (K : Int)) ∧ K ≤ 10000000000000000) ∧ Mem.Band g X w w' := by
  have HO := hide hok
  have HV := hide hv
  clear hok hv
  go_enter Tryz.func122, Tryz.ntmps122
  go_wp2
  go_loopw [1, 5] (fun a i wr => ∃ (j K : Nat), j ≤ D.length ∧ i = .int .i64 (j : Int) ∧ a = .int .i64 (K : Int) ∧ (0 < K ∧ K ≤ 1 + 5242880 * j) ∧ Hid (Has wr g X D ∧ Mem.Band g X w wr)) (fun _ i _ => D.length - (intOf i).toNat)
  case atStart => exact ⟨0, 1, Nat.zero_le _, rfl, rfl, by omega, ⟨unhide HV, Mem.Band.refl _ _ _⟩⟩
  case round =>
    obtain ⟨j, K, hj, rfl, rfl, hK, HA⟩ := hrel
    by_cases hlt : j < D.length
    · obtain ⟨t, ht⟩ : ∃ t, D[j]? = some t := ⟨_, List.getElem?_eq_getElem hlt⟩
      have htl := unhide HO t (List.mem_of_getElem? ht)
      have c0 := (unhide HA).1.cell j t ht
      obtain ⟨q, h1, h2, h3, cs, h4, h5⟩ := (unhide HA).1.each j t ht
      obtain ⟨ta, tc, tL⟩ := t
      simp only at h1 h5 htl
      subst h1
      simp only [Pl.Tr.val] at c0
      have hm := hide (WMarkN.lay_any q tL.length tc K cs wr htl hK.1 (by omega) h4 h5)
      have H4 := hide h4
      have u1 : (j : Int) < (D.length : Int) := by omega
      have u3 : (0 : Int) ≤ (j : Int) := by omega
      clear h4 h5 ht
      go_wp2_with fail
      refine (unhide hm).mono ?_
      rintro e w2 ⟨rfl, ⟨cur', hr', hs'⟩, -, hg⟩
      have HB : Hid (Has w2 g X D ∧ Mem.Band g X w w2) := ⟨(unhide HA).1.marked h2 (unhide H4) hr' hs' hg, (unhide HA).2.trans (Mem.Band.of_grown hg (by omega) h3)⟩
      clear HA hm H4 hr' hs' hg
      generalize hK2 : K + 5 * tL.length = K2
      have hK3 : 0 < K2 ∧ K2 ≤ 1 + 5242880 * (j + 1) := by omega
      clear hK2 hK htl
      go_wp2
      go_roundw
      case rel => exact ⟨j + 1, K2, by omega, by go_num, rfl, hK3, HB⟩
      case measure => simp [intOf]; omega
    · have u1 : ¬ (j : Int) < (D.length : Int) := by omega
      go_wp2
      go_ret
      exact ⟨⟨K, rfl, by omega⟩, (unhide HA).2⟩
set_option maxRecDepth 100000 in
theorem mark_any (g X cap : Nat) (D : List Pl.Tr) (w : World) (hl : D.length ≤ 1048576) (hok : ∀ t ∈ D, t.L.length ≤ 1048576) (hv : Has w g X D) :
    Calls Tryz.prog 65 #[.agg #[.slice (some ⟨g, 0, none⟩) D.length cap], .int .i64 1] w fun e w' => (∃ K : Nat, e = .returned (.int .i64 (K : Int)) ∧ K ≤ 10000000000000000) ∧ Mem.Band g X w w' := by
  have HB := hide (fun o => ((Below.refl w.heap.size w).alloc (Nat.le_refl _) o : Below w.heap.size w (w.alloc o)))
  have hl := hide (fun W (b : Below w.heap.size w W) => markS_any g X cap D W hl hok (hv.call b))
  clear hok hv
  go_enter Tryz.func65, Tryz.ntmps65
  go_wp2_with fail
  refine (unhide hl _ (unhide HB _)).mono ?_
  rintro e w1 ⟨⟨K, rfl, hK⟩, h1⟩
  have H := hide ((Mem.Band.of_below (unhide HB _)).trans h1)
  clear h1 hl HB
  go_wp2
  go_ret
  exact ⟨⟨K, rfl, hK⟩, unhide H⟩
end WMkL
end Go.Proofs.YtibmflhelgedeaaGreatDoor

/- Layers that came in, opened. -/
namespace Go.Proofs.YtibmflhelgedeaaGreatDoor
open Go.ChangeShapes Go.WideShapes Go.ChangeAt Go.RowKit
namespace OpenL
theorem cells1 : Tryz.prog.cellsOf 81 = 1 := by kernel_rfl
theorem cellsL : Tryz.prog.cellsOf 79 = 1 := by kernel_rfl
structure OkL (w : World) (a : Option Addr) (Ts : List Pl.Tr) : Prop where
  len : Ts.length ≤ maxLen
  trees : Mem.isTrees w a Ts
  ok : ∀ t ∈ Ts, t.L.length ≤ maxLen ∧ ∀ n ∈ t.L, OpenN.Ok n
theorem mapM1 {f : Nat → Option Value} {c0 : Value} (h : (List.range 1).mapM f = some [c0]) : f 0 = some c0 := by
  have e : List.range 1 = [0] := rfl
  rw [e] at h
  simp only [List.mapM_cons, List.mapM_nil, Option.pure_def, Option.bind_eq_bind] at h
  cases h0 : f 0 with
  | none => rw [h0] at h; simp at h
  | some a0 => rw [h0] at h; simp at h; rw [h]
set_option maxRecDepth 100000 in
theorem tree {H : Type} {enc : TypeId × Value → H} {w : World} {base fuel : Nat} {spare : Nat → Bool} {held : Bool} {cs : List Value} {x : DataW H × List MemPlace}
    (hf : DataW.trod enc Tryz.prog w base spare held fuel 70 cs = some x) : ∃ t : Pl.Tr, cs = [t.val] ∧ OpenT.OkT w t.a t.L := by
  obtain ⟨xs, m, rfl, -, hlen, hxl, hfl⟩ := DataW.trod_struct Tryz.underlying70 hf
  obtain ⟨c, rfl⟩ := OpenT.one (hlen.trans OpenT.cells1)
  obtain ⟨y, rfl⟩ := OpenT.one hxl
  have h0 := hfl 0 _ rfl
  change DataW.trod enc Tryz.prog w base spare held m 68 (([c].drop 0).take (Tryz.prog.cellsOf 68)) = some y at h0
  rw [OpenT.cellsL] at h0
  rcases DataW.trod_slice Tryz.underlying68 h0 with ⟨e, -⟩ | ⟨a, len, cap, elems, rest, k, -, e, -, hb, hl, hm, hel, hE, -, -⟩
  · simp at e
    subst e
    exact ⟨⟨none, 0, []⟩, rfl, ⟨Nat.zero_le _, Mem.nodes_nil _ _, fun n hn => by cases hn⟩⟩
  · simp at e
    subst e
    have each : ∀ i, i < len → ∃ n : Pl.Nd, OpenN.Ok n ∧ (∃ b o, some a = some ⟨b, o, none⟩ ∧ b < w.heap.size ∧
        w.cell? ⟨b, o + i * 5, none⟩ = some (.string n.path) ∧ w.cell? ⟨b, o + i * 5 + 1, none⟩ = some (.int .i64 n.kind) ∧ w.cell? ⟨b, o + i * 5 + 2, none⟩ = some (.string n.data) ∧
        w.cell? ⟨b, o + i * 5 + 3, none⟩ = some (.int .i64 n.time) ∧ w.cell? ⟨b, o + i * 5 + 4, none⟩ = some (.int .i64 n.mark)) := by
      intro i hi
      have h1 := hE i hi
      rw [List.getElem?_eq_getElem (by omega), OpenN.cells5] at h1
      simp only [Option.bind_eq_some_iff] at h1
      obtain ⟨ds, h2, h3⟩ := h1
      obtain ⟨n, rfl, ok⟩ := OpenN.node h3
      unfold World.cells? at h2
      split at h2
      rotate_left
      · cases h2
      obtain ⟨g0, g1, g2, g3, g4⟩ := OpenT.mapM5 h2
      obtain ⟨b, o, spot⟩ := a
      have hspot : spot = none := by
        have h1 := hE 0 (by omega)
        rw [List.getElem?_eq_getElem (by omega), OpenN.cells5] at h1
        simp only [Option.bind_eq_some_iff] at h1
        obtain ⟨ds, h2, h3⟩ := h1
        obtain ⟨n, rfl, ok⟩ := OpenN.node h3
        unfold World.cells? at h2
        split at h2
        rotate_left
        · cases h2
        simpa [Addr.add] using World.cell?_spot (OpenT.mapM5 h2).1
      subst hspot
      have add : ∀ j, ((⟨b, o, none⟩ : Addr).add (i * 5)).add j = ⟨b, o + i * 5 + j, none⟩ := fun j => by rw [Mem.add_any, Mem.add_any]
      rw [add] at g0 g1 g2 g3 g4
      exact ⟨n, ok, b, o, rfl, World.block_lt_of_cell? w ⟨b, o + i * 5 + 0, none⟩ g0, g0, g1, g2, g3, g4⟩
    refine ⟨⟨some a, cap, List.ofFn (fun i : Fin len => Classical.choose (each i i.2))⟩, by simp [Pl.Tr.val], ⟨by simp; omega, fun i n hn => ?_, fun n hn => ?_⟩⟩
    · rw [List.getElem?_ofFn] at hn
      split at hn
      · cases hn; exact (Classical.choose_spec (each i (by assumption))).2
      · cases hn
    · obtain ⟨i, rfl⟩ := List.mem_ofFn.1 hn
      exact (Classical.choose_spec (each i i.2)).1
set_option maxRecDepth 100000 in
theorem layers_arg {H : Type} {enc : TypeId × Value → H} {w : World} {base b0 : Nat} {spare : Nat → Bool} {held : Bool} {r : Reach} {v : Value} {d : DataW H} {ps : List MemPlace}
    (hv : Value.okWide Tryz.prog w r b0 81 v) (h : DataW.Trod enc Tryz.prog w base spare held 81 v d ps) : ∃ (a : Option Addr) (Ts : List Pl.Tr) (cap : Nat), v = .agg #[.slice a Ts.length cap] ∧ OkL w a Ts := by
  obtain ⟨cs, rfl, hsz⟩ := okWide_struct Tryz.underlying81 hv
  obtain ⟨fuel, hf⟩ := h
  obtain ⟨xs, m, rfl, -, hlen, hxl, hfl⟩ := DataW.trod_struct Tryz.underlying81 hf
  obtain ⟨c, hc⟩ := OpenT.one (show cs.toList.length = 1 by rw [Array.length_toList, hsz, cells1])
  obtain ⟨y, rfl⟩ := OpenT.one hxl
  have h0 := hfl 0 _ rfl
  change DataW.trod enc Tryz.prog w base spare held m 79 (((Value.agg cs).cells.toList.drop 0).take (Tryz.prog.cellsOf 79)) = some y at h0
  rw [cellsL, show (Value.agg cs).cells = cs from rfl, hc] at h0
  have hcs : cs = #[c] := by rw [show cs = cs.toList.toArray by simp, hc]
  rcases DataW.trod_slice Tryz.underlying79 h0 with ⟨e, -⟩ | ⟨a, len, cap, elems, rest, k, -, e, -, hb, hl, hm, hel, hE, -, -⟩
  · simp at e
    subst e
    exact ⟨none, [], 0, by rw [hcs]; rfl, ⟨Nat.zero_le _, Mem.trees_nil _ _, fun n hn => by cases hn⟩⟩
  · simp at e
    subst e
    have each : ∀ i, i < len → ∃ t : Pl.Tr, OpenT.OkT w t.a t.L ∧ (∃ b o, some a = some ⟨b, o, none⟩ ∧ b < w.heap.size ∧ w.cell? ⟨b, o + i, none⟩ = some t.val) := by
      intro i hi
      have h1 := hE i hi
      rw [List.getElem?_eq_getElem (by omega), OpenT.cells1] at h1
      simp only [Option.bind_eq_some_iff] at h1
      obtain ⟨ds, h2, h3⟩ := h1
      obtain ⟨t, rfl, ok⟩ := tree h3
      unfold World.cells? at h2
      split at h2
      rotate_left
      · cases h2
      have g0 := mapM1 h2
      obtain ⟨b, o, spot⟩ := a
      have hspot : spot = none := by
        have h1 := hE 0 (by omega)
        rw [List.getElem?_eq_getElem (by omega), OpenT.cells1] at h1
        simp only [Option.bind_eq_some_iff] at h1
        obtain ⟨ds, h2, h3⟩ := h1
        obtain ⟨t, rfl, ok⟩ := tree h3
        unfold World.cells? at h2
        split at h2
        rotate_left
        · cases h2
        simpa [Addr.add] using World.cell?_spot (mapM1 h2)
      subst hspot
      have add : ((⟨b, o, none⟩ : Addr).add (i * 1)).add 0 = ⟨b, o + i, none⟩ := by rw [Mem.add_any, Mem.add_any]; simp
      rw [add] at g0
      exact ⟨t, ok, b, o, rfl, World.block_lt_of_cell? w ⟨b, o + i, none⟩ g0, g0⟩
    refine ⟨some a, List.ofFn (fun i : Fin len => Classical.choose (each i i.2)), cap, by rw [hcs]; simp, ⟨by simp; omega, fun i n hn => ?_, fun n hn => ?_⟩⟩
    · rw [List.getElem?_ofFn] at hn
      split at hn
      · cases hn
        have := Classical.choose_spec (each i (by assumption))
        exact ⟨this.2, this.1.nodes⟩
      · cases hn
    · obtain ⟨i, rfl⟩ := List.mem_ofFn.1 hn
      have := Classical.choose_spec (each i i.2)
      exact ⟨this.1.len, this.1.ok⟩
end OpenL
end Go.Proofs.YtibmflhelgedeaaGreatDoor

