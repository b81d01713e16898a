/- Several texts of one claim in one file: WLawN, WLawT, WLawE, WLawR, WLawI, WLawJ, WLawY, WLawK. -/
import Derived.Test.YteddcihodfkliabGreatDoorPartA
import Derived.Test.YteddcihodfkliabGreatDoorProg
import Derived.Outline
import Derived.Deep.QuietTactic
import Derived.BigQuiet
import Derived.Deep.RegionHeld3
import Derived.Test.YteddcihodfkliabGreatDoorPartN
/- The walks of the laws' own functions on nodes. -/
namespace Go.Proofs.YteddcihodfkliabGreatDoor
open Go.RowKit
namespace WLaw
set_option maxRecDepth 100000 in
/-- What is left of a size behind a node: below 0 if it is used up. -/
theorem szNode_any (n : Pl.Nd) (left : Int) (w : World) (hp : n.path.size ≤ maxLen) (hd : n.data.size ≤ maxLen) (h0 : 0 ≤ left) (h1 : left ≤ 1048576) :
    Calls Tryz.prog 91 #[n.val, .int .i64 left] w fun e w' => (∃ r : Int, e = .returned (.int .i64 r) ∧ (r = -1 ∨ 0 ≤ r ∧ r + n.path.size + n.data.size = left)) ∧ Below w.heap.size w w' := by
  obtain ⟨p, k, d, t, m⟩ := n
  simp only at hp hd
  unfold maxLen at hp hd
  simp only [Pl.Nd.val]
  have hb : ∀ o, Below w.heap.size w (w.alloc o) := fun o => (Below.refl _ _).alloc (Nat.le_refl _) o
  have HB := hide hb
  clear hb
  by_cases h2 : left < (p.size : Int)
  · have t2 : left - (p.size : Int) < 0 := by omega
    go_enter Tryz.func91, Tryz.ntmps91
    go_wp2
    go_ret
    exact ⟨⟨-1, rfl, .inl rfl⟩, unhide HB _⟩
  have t2 : ¬ left - (p.size : Int) < 0 := by omega
  by_cases h3 : left < (p.size : Int) + (d.size : Int)
  · have t3 : left - (p.size : Int) - (d.size : Int) < 0 := by omega
    go_enter Tryz.func91, Tryz.ntmps91
    go_wp2
    go_ret
    exact ⟨⟨-1, rfl, .inl rfl⟩, unhide HB _⟩
  · have t3 : ¬ left - (p.size : Int) - (d.size : Int) < 0 := by omega
    go_enter Tryz.func91, Tryz.ntmps91
    go_wp2
    go_ret
    exact ⟨⟨_, rfl, .inr ⟨by omega, by omega⟩⟩, unhide HB _⟩
set_option maxRecDepth 100000 in
theorem toNode_any (n : Pl.Nd) (w : World) :
    Calls Tryz.prog 95 #[n.val] w fun e w' => e = .returned n.val ∧ Below w.heap.size w w' := by
  obtain ⟨p, k, d, t, m⟩ := n
  simp only [Pl.Nd.val]
  go_enter Tryz.func95, Tryz.ntmps95
  go_wp2
  refine bodyPost_ret (v := .agg #[.string p, .int .i64 k, .string d, .int .i64 t, .int .i64 m]) (by simp [results, Tryz.results95, go_sem]) rfl ⟨rfl, ?_⟩
  exact (((Below.refl _ _).alloc (Nat.le_refl _) _).alloc (by simp) _).alloc (by simp; omega) _
end WLaw
end Go.Proofs.YteddcihodfkliabGreatDoor

/- The walks of the laws' own functions on trees. -/
namespace Go.Proofs.YteddcihodfkliabGreatDoor
open Go.RowKit
namespace WLaw
set_option maxRecDepth 100000 in
set_option maxHeartbeats 400000 in
theorem szNodeS_any (a : Option Addr) (cap : Nat) (L : List Pl.Nd) (w : World) (hl : L.length ≤ maxLen) (hv : Mem.isNodes w a L) (hok : ∀ n ∈ L, n.path.size ≤ maxLen ∧ n.data.size ≤ maxLen) :
    Calls Tryz.prog 65 #[.slice a L.length cap, .int .i64 1048576] w fun e w' => (∃ r : Int, e = .returned (.int .i64 r) ∧ (r = -1 ∨ 0 ≤ r ∧ r ≤ 1048576 ∧ L.length ≤ 1048576 ∧ ∀ n ∈ L, n.path.size ≤ 1048576 ∧ n.data.size ≤ 1048576)) ∧ Below w.heap.size w w' := by
  have hl2 := hl
  unfold maxLen at hl2
  by_cases h0 : 1048576 < L.length
  · have t0 : (1048576 : Int) - (L.length : Int) < 0 := by omega
    go_enter Tryz.func65, Tryz.ntmps65
    go_wp2
    go_ret
    exact ⟨⟨-1, rfl, .inl rfl⟩, Below.refl _ _⟩
  have t0 : ¬ (1048576 : Int) - (L.length : Int) < 0 := by omega
  have HV := hide hv
  have HO := hide hok
  clear hv hok
  go_enter Tryz.func65, Tryz.ntmps65
  go_wp2
  go_loopw [1, 5] (fun l i wr => ∃ (k : Nat) (r : Int), k ≤ L.length ∧ i = .int .i64 (k : Int) ∧ l = .int .i64 r ∧ 0 ≤ r ∧ r ≤ 1048576 ∧ Below w.heap.size w wr ∧ Hid (∀ (j : Nat) n, j < k → L[j]? = some n → n.path.size ≤ 1048576 ∧ n.data.size ≤ 1048576)) (fun _ i _ => L.length - (intOf i).toNat)
  case atStart => exact ⟨0, _, Nat.zero_le _, rfl, rfl, by omega, by omega, Below.refl _ _, fun j n h => absurd h (by omega)⟩
  case round =>
    obtain ⟨k, r, hk, rfl, rfl, hr0, hr1, hbel, HA⟩ := hrel
    by_cases hlt : k < L.length
    · obtain ⟨n, hn⟩ : ∃ n, L[k]? = some n := ⟨_, List.getElem?_eq_getElem hlt⟩
      obtain ⟨b, o, rfl, hb, q0, q1, q2, q3, q4⟩ := (unhide HV) k n hn
      have c0 := (hbel.cell (p := ⟨b, _, none⟩) hb).trans q0
      have c1 := (hbel.cell (p := ⟨b, _, none⟩) hb).trans q1
      have c2 := (hbel.cell (p := ⟨b, _, none⟩) hb).trans q2
      have c3 := (hbel.cell (p := ⟨b, _, none⟩) hb).trans q3
      have c4 := (hbel.cell (p := ⟨b, _, none⟩) hb).trans q4
      have hz := hide (fun W => szNode_any n r W (unhide HO n (List.mem_of_getElem? hn)).1 (unhide HO n (List.mem_of_getElem? hn)).2 hr0 hr1)
      have HN := hide hn
      have u1 : (k : Int) < (L.length : Int) := by omega
      have u3 : (0 : Int) ≤ (k : Int) := by omega
      clear q0 q1 q2 q3 q4 hn
      simp only [Pl.Nd.val] at hz
      go_wp2_with fail
      refine (unhide hz _).mono ?_
      rintro e w1 ⟨⟨r1, rfl, h1⟩, b1⟩
      have hb2 := hbel.trans (b1.mono hbel.size)
      clear b1 hbel hz
      rcases h1 with rfl | ⟨h2, h3⟩
      · go_wp2
        go_ret
        exact ⟨⟨-1, rfl, .inl rfl⟩, hb2⟩
      · have h4 : ¬ r1 < 0 := by omega
        have HA2 : Hid (∀ (j : Nat) m, j < k + 1 → L[j]? = some m → m.path.size ≤ 1048576 ∧ m.data.size ≤ 1048576) := fun j m hj h' => by
          rcases Nat.lt_succ_iff_lt_or_eq.1 hj with h'' | rfl
          · exact HA.out j m h'' h'
          · rw [unhide HN] at h'; cases h'; omega
        go_wp2
        go_roundw
        case rel => exact ⟨k + 1, r1, by omega, by go_num, rfl, h2, by omega, hb2, HA2⟩
        case measure => simp [intOf]; omega
    · have u1 : ¬ (k : Int) < (L.length : Int) := by omega
      go_wp2
      go_ret
      exact ⟨⟨r, rfl, .inr ⟨hr0, hr1, by omega, fun n hn => by
        obtain ⟨j, hj⟩ := List.mem_iff_getElem?.1 hn
        exact HA.out j n (by have := (List.getElem?_eq_some_iff.1 hj).1; omega) hj⟩⟩, hbel⟩
set_option maxRecDepth 100000 in
theorem szTree_any (a : Option Addr) (cap : Nat) (L : List Pl.Nd) (w : World) (hl : L.length ≤ maxLen) (hv : Mem.isNodes w a L) (hok : ∀ n ∈ L, n.path.size ≤ maxLen ∧ n.data.size ≤ maxLen) :
    Calls Tryz.prog 43 #[.agg #[.slice a L.length cap], .int .i64 1048576] w fun e w' => (∃ r : Int, e = .returned (.int .i64 r) ∧ (r = -1 ∨ 0 ≤ r ∧ r ≤ 1048576 ∧ L.length ≤ 1048576 ∧ ∀ n ∈ L, n.path.size ≤ 1048576 ∧ n.data.size ≤ 1048576)) ∧ Below w.heap.size w w' := by
  have b0 : ∀ o, Below w.heap.size w (w.alloc o) := fun o => (Below.refl _ _).alloc (Nat.le_refl _) o
  have hz := hide (fun W (b : Below w.heap.size w W) => szNodeS_any a cap L W hl (Mem.nodes_call hv b) hok)
  have HB := hide b0
  clear hv hok b0
  go_enter Tryz.func43, Tryz.ntmps43
  go_wp2_with fail
  refine (unhide hz _ (unhide HB _)).mono ?_
  rintro e w1 ⟨⟨r1, rfl, h1⟩, b1⟩
  have hb2 := (unhide HB _).trans (b1.mono (unhide HB _).size)
  clear b1 hz
  rcases h1 with rfl | ⟨h2, h3⟩
  · go_wp2
    go_ret
    exact ⟨⟨-1, rfl, .inl rfl⟩, hb2⟩
  · have h4 : ¬ r1 < 0 := by omega
    go_wp2
    go_ret
    exact ⟨⟨r1, rfl, .inr ⟨h2, h3⟩⟩, hb2⟩
def zeroCells (n : Nat) : Array Value := madeCells (Value.agg #[.string ⟨#[]⟩, .int .i64 0, .string ⟨#[]⟩, .int .i64 0, .int .i64 0]).cells (n * 5)
theorem zero_size (n : Nat) : (zeroCells n).size = n * 5 := size_madeCells _ _
theorem infoN : (Tryz.prog.info? 48).map (fun i => (i.zero, i.size, i.bytes)) = some (some (.agg #[.string ⟨#[]⟩, .int .i64 0, .string ⟨#[]⟩, .int .i64 0, .int .i64 0]), 5, 56) := by kernel_rfl
theorem makeN (n : Nat) (hn : n ≤ 1048576) (w : World) : (Instr.makeSlice 54 (.int .i64 (n : Int)) (.int .i64 (n : Int))).run Tryz.prog w = .ok (.slice (some ⟨w.heap.size, 0, none⟩) n n) (w.alloc (.cells (zeroCells n) 48)) := by
  obtain ⟨i0, h0, h1, h2, h3⟩ := info_parts infoN
  have h := run_make (P := Tryz.prog) w 54 48 i0 (.agg #[.string ⟨#[]⟩, .int .i64 0, .string ⟨#[]⟩, .int .i64 0, .int .i64 0]) Tryz.underlying54 h0 h1 .i64 .i64 (n : Int) (n : Int) (by omega) (Int.le_refl _) (by rw [h3]; omega) (by omega)
  rw [h, h2]
  simp [zeroCells]
set_option maxRecDepth 100000 in
set_option maxHeartbeats 400000 in
theorem toNodeS_row (a : Option Addr) (cap : Nat) (L : List Pl.Nd) (w : World) (hl : L.length ≤ 1048576) (hv : Mem.isNodes w a L) :
    Calls Tryz.prog 71 #[.slice a L.length cap] w fun e w' => e = .returned (.slice (some ⟨w.heap.size, 0, none⟩) L.length L.length) ∧ (∃ cur, w'.heap[w.heap.size]? = some (.cells cur 48 (0, 0)) ∧ cur.size = L.length * 5) ∧ Mem.isNodes w' (some ⟨w.heap.size, 0, none⟩) L ∧ Below w.heap.size w w' := by
  have HV := hide hv
  have hmk := makeN L.length hl w
  clear hv
  go_enter Tryz.func71, Tryz.ntmps71
  go_wp2
  go_loopw [4] (fun i wr => ∃ (k : Nat) (cur : Array Value), k ≤ L.length ∧ i = .int .i64 (k : Int) ∧ Below w.heap.size w wr ∧ Hid (wr.heap[w.heap.size]? = some (.cells cur 48 (0, 0))) ∧ Hid (cur.size = L.length * 5) ∧ Hid (∀ (j : Nat) n, j < k → L[j]? = some n → cur[j * 5]? = some (.string n.path) ∧ cur[j * 5 + 1]? = some (.int .i64 n.kind) ∧ cur[j * 5 + 2]? = some (.string n.data) ∧ cur[j * 5 + 3]? = some (.int .i64 n.time) ∧ cur[j * 5 + 4]? = some (.int .i64 n.mark))) (fun i _ => L.length - (intOf i).toNat)
  case atStart => exact ⟨0, zeroCells L.length, Nat.zero_le _, rfl, (Below.refl _ _).alloc (Nat.le_refl _) _, hide (heap_alloc_new w _), hide (zero_size _), fun j n h => absurd h (by omega)⟩
  case round =>
    obtain ⟨k, cur, hk, rfl, hbel, HB, HZ, HA⟩ := hrel
    by_cases hlt : k < L.length
    · obtain ⟨n, hn⟩ : ∃ n, L[k]? = some n := ⟨_, List.getElem?_eq_getElem hlt⟩
      obtain ⟨b, o, rfl, hb, q0, q1, q2, q3, q4⟩ := (unhide HV) k n hn
      have c0 := (hbel.cell (p := ⟨b, _, none⟩) hb).trans q0
      have c1 := (hbel.cell (p := ⟨b, _, none⟩) hb).trans q1
      have c2 := (hbel.cell (p := ⟨b, _, none⟩) hb).trans q2
      have c3 := (hbel.cell (p := ⟨b, _, none⟩) hb).trans q3
      have c4 := (hbel.cell (p := ⟨b, _, none⟩) hb).trans q4
      have hz := hide (fun W => toNode_any n W)
      have HN := hide hn
      have u1 : (k : Int) < (L.length : Int) := by omega
      have u3 : (0 : Int) ≤ (k : Int) := by omega
      clear q0 q1 q2 q3 q4 hn
      simp only [Pl.Nd.val] at hz
      go_wp2_with fail
      refine (unhide hz _).mono ?_
      rintro e w1 ⟨rfl, b1⟩
      have hN : w.heap.size < wr.heap.size := (Array.getElem?_eq_some_iff.1 (unhide HB)).1
      have HB1 := hide ((b1.block _ hN).trans (unhide HB))
      have hb2 := hide (hbel.trans (b1.mono hbel.size))
      have hcz := unhide HZ
      have s0 : ∃ x, w1.cell? ⟨w.heap.size, k * 5, none⟩ = some x := ⟨_, (cell_of_row w1 _ (k * 5) _ _ (0, 0) (unhide HB1)).trans (Array.getElem?_eq_getElem (by omega))⟩
      have s1 : ∃ x, w1.cell? ⟨w.heap.size, k * 5 + 1, none⟩ = some x := ⟨_, (cell_of_row w1 _ (k * 5 + 1) _ _ (0, 0) (unhide HB1)).trans (Array.getElem?_eq_getElem (by omega))⟩
      have s2 : ∃ x, w1.cell? ⟨w.heap.size, k * 5 + 2, none⟩ = some x := ⟨_, (cell_of_row w1 _ (k * 5 + 2) _ _ (0, 0) (unhide HB1)).trans (Array.getElem?_eq_getElem (by omega))⟩
      have s3 : ∃ x, w1.cell? ⟨w.heap.size, k * 5 + 3, none⟩ = some x := ⟨_, (cell_of_row w1 _ (k * 5 + 3) _ _ (0, 0) (unhide HB1)).trans (Array.getElem?_eq_getElem (by omega))⟩
      have s4 : ∃ x, w1.cell? ⟨w.heap.size, k * 5 + 4, none⟩ = some x := ⟨_, (cell_of_row w1 _ (k * 5 + 4) _ _ (0, 0) (unhide HB1)).trans (Array.getElem?_eq_getElem (by omega))⟩
      obtain ⟨x0, s0⟩ := s0
      obtain ⟨x1, s1⟩ := s1
      obtain ⟨x2, s2⟩ := s2
      obtain ⟨x3, s3⟩ := s3
      obtain ⟨x4, s4⟩ := s4
      have f0 : ∀ j, w1.frozen? ⟨w.heap.size, j, none⟩ = false := fun j => Mem.row_frozen (unhide HB1)
      have HC := hide hcz
      clear b1 hbel hz hcz HB
      go_wp2
      go_roundw
      case rel =>
        refine ⟨k + 1, _, by omega, by go_num, ?_, hide (heap_setCell_same _ _ (k * 5 + 4) _ _ _ (heap_setCell_same _ _ (k * 5 + 3) _ _ _ (heap_setCell_same _ _ (k * 5 + 2) _ _ _ (heap_setCell_same _ _ (k * 5 + 1) _ _ _ (heap_setCell_same _ _ (k * 5) _ _ _ (unhide HB1)))))), ?_, ?_⟩
        · exact (((((unhide hb2).setCell (Nat.le_refl _) _).setCell (Nat.le_refl _) _).setCell (Nat.le_refl _) _).setCell (Nat.le_refl _) _).setCell (Nat.le_refl _) _
        · exact hide (by simpa using unhide HC)
        · intro j m hj hm
          have hjl := (List.getElem?_eq_some_iff.1 hm).1
          rcases Nat.lt_succ_iff_lt_or_eq.1 hj with h'' | rfl
          · obtain ⟨i0, i1, i2, i3, i4⟩ := HA.out j m h'' hm
            simp only [Array.getElem?_setIfInBounds]
            refine ⟨?_, ?_, ?_, ?_, ?_⟩ <;> (repeat (rw [if_neg (by omega)])) <;> assumption
          · rw [unhide HN] at hm
            cases hm
            have hcz := unhide HC
            simp only [Array.getElem?_setIfInBounds, Array.size_setIfInBounds]
            refine ⟨?_, ?_, ?_, ?_, ?_⟩ <;> simp <;> omega
      case measure => simp [intOf]; omega
    · have u1 : ¬ (k : Int) < (L.length : Int) := by omega
      go_wp2
      go_ret
      refine ⟨rfl, ⟨cur, unhide HB, unhide HZ⟩, fun j n hj => ?_, hbel⟩
      obtain ⟨i0, i1, i2, i3, i4⟩ := HA.out j n (by have := (List.getElem?_eq_some_iff.1 hj).1; omega) hj
      refine ⟨_, 0, rfl, (Array.getElem?_eq_some_iff.1 (unhide HB)).1, ?_, ?_, ?_, ?_, ?_⟩
      · rw [cell_of_row wr _ _ _ _ (0, 0) (unhide HB), Nat.zero_add]; exact i0
      · rw [cell_of_row wr _ _ _ _ (0, 0) (unhide HB), Nat.zero_add]; exact i1
      · rw [cell_of_row wr _ _ _ _ (0, 0) (unhide HB), Nat.zero_add]; exact i2
      · rw [cell_of_row wr _ _ _ _ (0, 0) (unhide HB), Nat.zero_add]; exact i3
      · rw [cell_of_row wr _ _ _ _ (0, 0) (unhide HB), Nat.zero_add]; exact i4
theorem toNodeS_any (a : Option Addr) (cap : Nat) (L : List Pl.Nd) (w : World) (hl : L.length ≤ 1048576) (hv : Mem.isNodes w a L) :
    Calls Tryz.prog 71 #[.slice a L.length cap] w fun e w' => e = .returned (.slice (some ⟨w.heap.size, 0, none⟩) L.length L.length) ∧ Mem.isNodes w' (some ⟨w.heap.size, 0, none⟩) L ∧ Below w.heap.size w w' :=
  (toNodeS_row a cap L w hl hv).mono fun _ _ ⟨he, _, h1, h2⟩ => ⟨he, h1, h2⟩
end WLaw
end Go.Proofs.YteddcihodfkliabGreatDoor

/- The walks of the laws' own toTree, eqNode, eqNodeS, eqTree. -/
namespace Go.Proofs.YteddcihodfkliabGreatDoor
open Go.RowKit
namespace WLaw
set_option maxRecDepth 100000 in
theorem toTree_row (a : Option Addr) (cap : Nat) (L : List Pl.Nd) (w : World) (hl : L.length ≤ 1048576) (hv : Mem.isNodes w a L) :
    Calls Tryz.prog 50 #[.agg #[.slice a L.length cap]] w fun e w' => ∃ g, e = .returned (.agg #[.slice (some ⟨g, 0, none⟩) L.length L.length]) ∧ w.heap.size ≤ g ∧ (∃ cur, w'.heap[g]? = some (.cells cur 48 (0, 0)) ∧ cur.size = L.length * 5) ∧ Mem.isNodes w' (some ⟨g, 0, none⟩) L ∧ Below w.heap.size w w' := by
  have HZ := hide (fun W (b : Below w.heap.size w W) => toNodeS_row a cap L W hl (Mem.nodes_call hv b))
  clear hv
  have b0 : ∀ o1 o2 o3, Below w.heap.size w (((w.alloc o1).alloc o2).alloc o3) := fun o1 o2 o3 => (((Below.refl _ _).alloc (Nat.le_refl _) o1).alloc (by simp) o2).alloc (by simp; omega) o3
  have HB := hide b0
  clear b0
  go_enter Tryz.func50, Tryz.ntmps50
  go_wp2_with fail
  refine (unhide HZ _ (unhide HB _ _ _)).mono ?_
  rintro e w1 ⟨rfl, ⟨cur, hrow, hcur⟩, h1, b1⟩
  have hs : (((w.alloc (.cells #[.slice a L.length cap] 43)).alloc (.cells #[.slice none 0 0] 56)).alloc (.cells #[.slice none 0 0] 56)).heap.size = w.heap.size + 1 + 1 + 1 := by simp
  have r1 : w1.heap[w.heap.size + 1]? = some (.cells #[.slice none 0 0] 56 (0, 0)) := (b1.block _ (by rw [hs]; omega)).trans (Mem.new_mid w _ _ _)
  have r2 : w1.heap[w.heap.size + 1 + 1]? = some (.cells #[.slice none 0 0] 56 (0, 0)) := (b1.block _ (by rw [hs]; omega)).trans (Mem.new_three w _ _ _)
  have c1 : w1.cell? ⟨w.heap.size + 1, 0, none⟩ = some (.slice none 0 0) := by rw [cell_of_row w1 _ 0 _ _ (0, 0) r1]; rfl
  have c2 : w1.cell? ⟨w.heap.size + 1 + 1, 0, none⟩ = some (.slice none 0 0) := by rw [cell_of_row w1 _ 0 _ _ (0, 0) r2]; rfl
  have f1 : w1.frozen? ⟨w.heap.size + 1, 0, none⟩ = false := Mem.row_frozen r1
  have f2 : w1.frozen? ⟨w.heap.size + 1 + 1, 0, none⟩ = false := Mem.row_frozen r2
  have bb := hide ((unhide HB _ _ _).trans (b1.mono (unhide HB _ _ _).size))
  have H1 := hide h1
  have HR := hide hrow
  have HCU := hide hcur
  have HSZ := hide hs
  generalize (((w.alloc (.cells #[.slice a L.length cap] 43)).alloc (.cells #[.slice none 0 0] 56)).alloc (.cells #[.slice none 0 0] 56)).heap.size = g at H1 HSZ HR ⊢
  clear HZ b1 h1 hs r1 r2 hrow hcur
  go_wp2
  refine bodyPost_ret (v := .agg #[.slice (some ⟨g, 0, none⟩) L.length L.length]) (by simp [results, Tryz.results50, go_sem, c1]) rfl ⟨g, rfl, by have := unhide HSZ; omega, ⟨cur, ?_, unhide HCU⟩, ?_, ?_⟩
  · have hg := unhide HSZ
    exact (heap_setCell_other _ _ _ _ (by show g ≠ w.heap.size + 1; omega)).trans ((heap_setCell_other _ _ _ _ (by show g ≠ w.heap.size + 1 + 1; omega)).trans (unhide HR))
  · intro i n hi
    obtain ⟨b, o, e1, h2, q0, q1, q2, q3, q4⟩ := unhide H1 i n hi
    cases e1
    have hg := unhide HSZ
    have hc : ∀ j, ((w1.setCell ⟨w.heap.size + 1 + 1, 0, none⟩ (.slice (some ⟨g, 0, none⟩) L.length L.length)).setCell ⟨w.heap.size + 1, 0, none⟩ (.slice (some ⟨g, 0, none⟩) L.length L.length)).cell? ⟨g, j, none⟩ = w1.cell? ⟨g, j, none⟩ := fun j => by
      rw [World.cell?_setCell_far _ _ _ _ (by show w.heap.size + 1 ≠ g; omega), World.cell?_setCell_far _ _ _ _ (by show w.heap.size + 1 + 1 ≠ g; omega)]
    refine ⟨g, 0, rfl, by simpa [World.setCell] using h2, ?_, ?_, ?_, ?_, ?_⟩
    · rw [hc]; exact q0
    · rw [hc]; exact q1
    · rw [hc]; exact q2
    · rw [hc]; exact q3
    · rw [hc]; exact q4
  · exact ((unhide bb).setCell (by show w.heap.size ≤ w.heap.size + 1 + 1; omega) _).setCell (by show w.heap.size ≤ w.heap.size + 1; omega) _
theorem toTree_any (a : Option Addr) (cap : Nat) (L : List Pl.Nd) (w : World) (hl : L.length ≤ 1048576) (hv : Mem.isNodes w a L) :
    Calls Tryz.prog 50 #[.agg #[.slice a L.length cap]] w fun e w' => ∃ g, e = .returned (.agg #[.slice (some ⟨g, 0, none⟩) L.length L.length]) ∧ w.heap.size ≤ g ∧ Mem.isNodes w' (some ⟨g, 0, none⟩) L ∧ Below w.heap.size w w' :=
  (toTree_row a cap L w hl hv).mono fun _ _ ⟨g, he, h0, _, h1, h2⟩ => ⟨g, he, h0, h1, h2⟩
set_option maxRecDepth 100000 in
theorem eqNode_any (n : Pl.Nd) (w : World) :
    Calls Tryz.prog 106 #[n.val, n.val] w fun e w' => e = .returned (.bool true) ∧ Below w.heap.size w w' := by
  obtain ⟨p, k, d, t, m⟩ := n
  simp only [Pl.Nd.val]
  go_enter Tryz.func106, Tryz.ntmps106
  go_wp2
  go_ret
  exact ⟨rfl, ((Below.refl _ _).alloc (Nat.le_refl _) _).alloc (by simp) _⟩
set_option maxRecDepth 100000 in
set_option maxHeartbeats 400000 in
theorem eqNodeS_any (a b : Option Addr) (c1 c2 : Nat) (L : List Pl.Nd) (w : World) (hl : L.length ≤ 1048576) (hv : Mem.isNodes w a L) (hu : Mem.isNodes w b L) :
    Calls Tryz.prog 84 #[.slice a L.length c1, .slice b L.length c2] w fun e w' => e = .returned (.bool true) ∧ Below w.heap.size w w' := by
  have HV := hide hv
  have HU := hide hu
  clear hv hu
  go_enter Tryz.func84, Tryz.ntmps84
  go_wp2
  go_loopw [5] (fun i wr => ∃ k : Nat, k ≤ L.length ∧ i = .int .i64 (k : Int) ∧ Below w.heap.size w wr) (fun i _ => L.length - (intOf i).toNat)
  case atStart => exact ⟨0, Nat.zero_le _, rfl, Below.refl _ _⟩
  case round =>
    obtain ⟨k, hk, rfl, hbel⟩ := hrel
    by_cases hlt : k < L.length
    · obtain ⟨n, hn⟩ : ∃ n, L[k]? = some n := ⟨_, List.getElem?_eq_getElem hlt⟩
      obtain ⟨g, o, rfl, hg, q0, q1, q2, q3, q4⟩ := (unhide HV) k n hn
      obtain ⟨g2, o2, rfl, hg2, p0, p1, p2, p3, p4⟩ := (unhide HU) k n hn
      have c0 := (hbel.cell (p := ⟨g, _, none⟩) hg).trans q0
      have c1 := (hbel.cell (p := ⟨g, _, none⟩) hg).trans q1
      have c2 := (hbel.cell (p := ⟨g, _, none⟩) hg).trans q2
      have c3 := (hbel.cell (p := ⟨g, _, none⟩) hg).trans q3
      have c4 := (hbel.cell (p := ⟨g, _, none⟩) hg).trans q4
      have d0 := (hbel.cell (p := ⟨g2, _, none⟩) hg2).trans p0
      have d1 := (hbel.cell (p := ⟨g2, _, none⟩) hg2).trans p1
      have d2 := (hbel.cell (p := ⟨g2, _, none⟩) hg2).trans p2
      have d3 := (hbel.cell (p := ⟨g2, _, none⟩) hg2).trans p3
      have d4 := (hbel.cell (p := ⟨g2, _, none⟩) hg2).trans p4
      have hz := hide (fun W => eqNode_any n W)
      have MK : Hid (∀ W', Below w.heap.size w W' → (Below w.heap.size w W' ∧ W'.cell? ⟨g, o + k * 5, none⟩ = some (.string n.path) ∧ W'.cell? ⟨g, o + k * 5 + 1, none⟩ = some (.int .i64 n.kind) ∧ W'.cell? ⟨g, o + k * 5 + 2, none⟩ = some (.string n.data) ∧ W'.cell? ⟨g, o + k * 5 + 3, none⟩ = some (.int .i64 n.time) ∧ W'.cell? ⟨g, o + k * 5 + 4, none⟩ = some (.int .i64 n.mark) ∧ W'.cell? ⟨g2, o2 + k * 5, none⟩ = some (.string n.path) ∧ W'.cell? ⟨g2, o2 + k * 5 + 1, none⟩ = some (.int .i64 n.kind) ∧ W'.cell? ⟨g2, o2 + k * 5 + 2, none⟩ = some (.string n.data) ∧ W'.cell? ⟨g2, o2 + k * 5 + 3, none⟩ = some (.int .i64 n.time) ∧ W'.cell? ⟨g2, o2 + k * 5 + 4, none⟩ = some (.int .i64 n.mark))) := fun W' hb => ⟨hb, (hb.cell (p := ⟨g, _, none⟩) hg).trans q0, (hb.cell (p := ⟨g, _, none⟩) hg).trans q1, (hb.cell (p := ⟨g, _, none⟩) hg).trans q2, (hb.cell (p := ⟨g, _, none⟩) hg).trans q3, (hb.cell (p := ⟨g, _, none⟩) hg).trans q4, (hb.cell (p := ⟨g2, _, none⟩) hg2).trans p0, (hb.cell (p := ⟨g2, _, none⟩) hg2).trans p1, (hb.cell (p := ⟨g2, _, none⟩) hg2).trans p2, (hb.cell (p := ⟨g2, _, none⟩) hg2).trans p3, (hb.cell (p := ⟨g2, _, none⟩) hg2).trans p4⟩
      have u1 : (k : Int) < (L.length : Int) := by omega
      have u3 : (0 : Int) ≤ (k : Int) := by omega
      have hbd : Below w.heap.size w wr.drew := ⟨hbel.os, hbel.tape, hbel.output, hbel.size, hbel.block⟩
      clear q0 q1 q2 q3 q4 p0 p1 p2 p3 p4 hn
      simp only [Pl.Nd.val] at hz
      go_wp2_with fail
      go_region_held3 (fun W' => Below w.heap.size w W' ∧ W'.cell? ⟨g, o + k * 5, none⟩ = some (.string n.path) ∧ W'.cell? ⟨g, o + k * 5 + 1, none⟩ = some (.int .i64 n.kind) ∧ W'.cell? ⟨g, o + k * 5 + 2, none⟩ = some (.string n.data) ∧ W'.cell? ⟨g, o + k * 5 + 3, none⟩ = some (.int .i64 n.time) ∧ W'.cell? ⟨g, o + k * 5 + 4, none⟩ = some (.int .i64 n.mark) ∧ W'.cell? ⟨g2, o2 + k * 5, none⟩ = some (.string n.path) ∧ W'.cell? ⟨g2, o2 + k * 5 + 1, none⟩ = some (.int .i64 n.kind) ∧ W'.cell? ⟨g2, o2 + k * 5 + 2, none⟩ = some (.string n.data) ∧ W'.cell? ⟨g2, o2 + k * 5 + 3, none⟩ = some (.int .i64 n.time) ∧ W'.cell? ⟨g2, o2 + k * 5 + 4, none⟩ = some (.int .i64 n.mark)) (first | exact unhide MK _ hbd | exact unhide MK _ (hbd.trans (bX.mono hbd.size))) (first | (go_at_call 106; refine (unhide hz _).mono ?_; rintro e wX ⟨rfl, bX⟩))
      have hb2 := hbd.trans (bX.mono hbd.size)
      clear hbel hbd bX MK
      go_wp2
      go_roundw
      case rel => exact ⟨k + 1, by omega, by go_num, hb2⟩
      case measure => simp [intOf]; omega
    · have u1 : ¬ (k : Int) < (L.length : Int) := by omega
      go_wp2
      go_ret
      exact ⟨rfl, hbel⟩
set_option maxRecDepth 100000 in
theorem eqTree_any (a b : Option Addr) (c1 c2 : Nat) (L : List Pl.Nd) (w : World) (hl : L.length ≤ 1048576) (hv : Mem.isNodes w a L) (hu : Mem.isNodes w b L) :
    Calls Tryz.prog 58 #[.agg #[.slice a L.length c1], .agg #[.slice b L.length c2]] w fun e w' => e = .returned (.bool true) ∧ Below w.heap.size w w' := by
  have b0 : ∀ o1 o2, Below w.heap.size w ((w.alloc o1).alloc o2) := fun o1 o2 => ((Below.refl _ _).alloc (Nat.le_refl _) o1).alloc (by simp) o2
  have HB := hide b0
  have HZ := hide (fun W (b' : Below w.heap.size w W) => eqNodeS_any a b c1 c2 L W hl (Mem.nodes_call hv b') (Mem.nodes_call hu b'))
  clear hv hu b0
  go_enter Tryz.func58, Tryz.ntmps58
  go_wp2_with fail
  refine (unhide HZ _ (unhide HB _ _)).mono ?_
  rintro e w1 ⟨rfl, b1⟩
  have bb := (unhide HB _ _).trans (b1.mono (unhide HB _ _).size)
  clear HZ b1
  go_wp2
  go_ret
  exact ⟨rfl, bb⟩
end WLaw
end Go.Proofs.YteddcihodfkliabGreatDoor

/- The walks of szNodeS and szTree at any room left. -/
namespace Go.Proofs.YteddcihodfkliabGreatDoor
open Go.RowKit
namespace WLaw
set_option maxRecDepth 100000 in
set_option maxHeartbeats 400000 in
theorem szNodeS_left (a : Option Addr) (cap : Nat) (L : List Pl.Nd) (left : Int) (hf0 : 0 ≤ left) (hf1 : left ≤ 1048576) (w : World) (hl : L.length ≤ maxLen) (hv : Mem.isNodes w a L) (hok : ∀ n ∈ L, n.path.size ≤ maxLen ∧ n.data.size ≤ maxLen) :
    Calls Tryz.prog 65 #[.slice a L.length cap, .int .i64 left] w fun e w' => (∃ r : Int, e = .returned (.int .i64 r) ∧ (r = -1 ∨ 0 ≤ r ∧ r ≤ 1048576 ∧ L.length ≤ 1048576 ∧ ∀ n ∈ L, n.path.size ≤ 1048576 ∧ n.data.size ≤ 1048576)) ∧ Below w.heap.size w w' := by
  have hl2 := hl
  unfold maxLen at hl2
  by_cases h0 : left < (L.length : Int)
  · have t0 : left - (L.length : Int) < 0 := by omega
    have t1 : IntKind.i64.wrap (left - (L.length : Int)) = left - (L.length : Int) := by rw [IntKind.wrap_i64]; omega
    go_enter Tryz.func65, Tryz.ntmps65
    go_wp2
    go_ret
    exact ⟨⟨-1, rfl, .inl rfl⟩, Below.refl _ _⟩
  have t0 : ¬ left - (L.length : Int) < 0 := by omega
  have t1 : IntKind.i64.wrap (left - (L.length : Int)) = left - (L.length : Int) := by rw [IntKind.wrap_i64]; omega
  have HV := hide hv
  have HO := hide hok
  clear hv hok
  go_enter Tryz.func65, Tryz.ntmps65
  go_wp2
  go_loopw [1, 5] (fun l i wr => ∃ (k : Nat) (r : Int), k ≤ L.length ∧ i = .int .i64 (k : Int) ∧ l = .int .i64 r ∧ 0 ≤ r ∧ r ≤ 1048576 ∧ Below w.heap.size w wr ∧ Hid (∀ (j : Nat) n, j < k → L[j]? = some n → n.path.size ≤ 1048576 ∧ n.data.size ≤ 1048576)) (fun _ i _ => L.length - (intOf i).toNat)
  case atStart => exact ⟨0, _, Nat.zero_le _, rfl, rfl, by omega, by omega, Below.refl _ _, fun j n h => absurd h (by omega)⟩
  case round =>
    obtain ⟨k, r, hk, rfl, rfl, hr0, hr1, hbel, HA⟩ := hrel
    by_cases hlt : k < L.length
    · obtain ⟨n, hn⟩ : ∃ n, L[k]? = some n := ⟨_, List.getElem?_eq_getElem hlt⟩
      obtain ⟨b, o, rfl, hb, q0, q1, q2, q3, q4⟩ := (unhide HV) k n hn
      have c0 := (hbel.cell (p := ⟨b, _, none⟩) hb).trans q0
      have c1 := (hbel.cell (p := ⟨b, _, none⟩) hb).trans q1
      have c2 := (hbel.cell (p := ⟨b, _, none⟩) hb).trans q2
      have c3 := (hbel.cell (p := ⟨b, _, none⟩) hb).trans q3
      have c4 := (hbel.cell (p := ⟨b, _, none⟩) hb).trans q4
      have hz := hide (fun W => szNode_any n r W (unhide HO n (List.mem_of_getElem? hn)).1 (unhide HO n (List.mem_of_getElem? hn)).2 hr0 hr1)
      have HN := hide hn
      have u1 : (k : Int) < (L.length : Int) := by omega
      have u3 : (0 : Int) ≤ (k : Int) := by omega
      clear q0 q1 q2 q3 q4 hn
      simp only [Pl.Nd.val] at hz
      go_wp2_with fail
      refine (unhide hz _).mono ?_
      rintro e w1 ⟨⟨r1, rfl, h1⟩, b1⟩
      have hb2 := hbel.trans (b1.mono hbel.size)
      clear b1 hbel hz
      rcases h1 with rfl | ⟨h2, h3⟩
      · go_wp2
        go_ret
        exact ⟨⟨-1, rfl, .inl rfl⟩, hb2⟩
      · have h4 : ¬ r1 < 0 := by omega
        have HA2 : Hid (∀ (j : Nat) m, j < k + 1 → L[j]? = some m → m.path.size ≤ 1048576 ∧ m.data.size ≤ 1048576) := fun j m hj h' => by
          rcases Nat.lt_succ_iff_lt_or_eq.1 hj with h'' | rfl
          · exact HA.out j m h'' h'
          · rw [unhide HN] at h'; cases h'; omega
        go_wp2
        go_roundw
        case rel => exact ⟨k + 1, r1, by omega, by go_num, rfl, h2, by omega, hb2, HA2⟩
        case measure => simp [intOf]; omega
    · have u1 : ¬ (k : Int) < (L.length : Int) := by omega
      go_wp2
      go_ret
      exact ⟨⟨r, rfl, .inr ⟨hr0, hr1, by omega, fun n hn => by
        obtain ⟨j, hj⟩ := List.mem_iff_getElem?.1 hn
        exact HA.out j n (by have := (List.getElem?_eq_some_iff.1 hj).1; omega) hj⟩⟩, hbel⟩
set_option maxRecDepth 100000 in
theorem szTree_left (a : Option Addr) (cap : Nat) (L : List Pl.Nd) (left : Int) (hf0 : 0 ≤ left) (hf1 : left ≤ 1048576) (w : World) (hl : L.length ≤ maxLen) (hv : Mem.isNodes w a L) (hok : ∀ n ∈ L, n.path.size ≤ maxLen ∧ n.data.size ≤ maxLen) :
    Calls Tryz.prog 43 #[.agg #[.slice a L.length cap], .int .i64 left] w fun e w' => (∃ r : Int, e = .returned (.int .i64 r) ∧ (r = -1 ∨ 0 ≤ r ∧ r ≤ 1048576 ∧ L.length ≤ 1048576 ∧ ∀ n ∈ L, n.path.size ≤ 1048576 ∧ n.data.size ≤ 1048576)) ∧ Below w.heap.size w w' := by
  have b0 : ∀ o, Below w.heap.size w (w.alloc o) := fun o => (Below.refl _ _).alloc (Nat.le_refl _) o
  have hz := hide (fun W (b : Below w.heap.size w W) => szNodeS_left a cap L left hf0 hf1 W hl (Mem.nodes_call hv b) hok)
  have HB := hide b0
  clear hv hok b0
  go_enter Tryz.func43, Tryz.ntmps43
  go_wp2_with fail
  refine (unhide hz _ (unhide HB _)).mono ?_
  rintro e w1 ⟨⟨r1, rfl, h1⟩, b1⟩
  have hb2 := (unhide HB _).trans (b1.mono (unhide HB _).size)
  clear b1 hz
  rcases h1 with rfl | ⟨h2, h3⟩
  · go_wp2
    go_ret
    exact ⟨⟨-1, rfl, .inl rfl⟩, hb2⟩
  · have h4 : ¬ r1 < 0 := by omega
    go_wp2
    go_ret
    exact ⟨⟨r1, rfl, .inr ⟨h2, h3⟩⟩, hb2⟩
end WLaw
end Go.Proofs.YteddcihodfkliabGreatDoor

/- The walks of the laws' own functions on items: szItem, szItemS, toItem, toItemS, eqItem, eqItemS. -/
namespace Go.Proofs.YteddcihodfkliabGreatDoor
open Go.RowKit
namespace WLaw
set_option maxRecDepth 100000 in
theorem szItem_any (x : Pl.It) (left : Int) (hf0 : 0 ≤ left) (hf1 : left ≤ 1048576) (w : World) (hl : x.t.L.length ≤ maxLen) (hv : Mem.isNodes w x.t.a x.t.L) (hok : ∀ n ∈ x.t.L, n.path.size ≤ maxLen ∧ n.data.size ≤ maxLen) :
    Calls Tryz.prog 22 #[.agg #[.int .i64 x.m, .slice x.t.a x.t.L.length x.t.cap], .int .i64 left] w fun e w' => (∃ r : Int, e = .returned (.int .i64 r) ∧ (r = -1 ∨ 0 ≤ r ∧ r ≤ 1048576 ∧ x.t.L.length ≤ 1048576 ∧ ∀ n ∈ x.t.L, n.path.size ≤ 1048576 ∧ n.data.size ≤ 1048576)) ∧ Below w.heap.size w w' := by
  have b0 : ∀ o, Below w.heap.size w (w.alloc o) := fun o => (Below.refl _ _).alloc (Nat.le_refl _) o
  have hz := hide (fun W (b : Below w.heap.size w W) => szTree_left x.t.a x.t.cap x.t.L left hf0 hf1 W hl (Mem.nodes_call hv b) hok)
  have HB := hide b0
  clear hv hok b0
  go_enter Tryz.func22, Tryz.ntmps22
  go_wp2_with fail
  refine (unhide hz _ (unhide HB _)).mono ?_
  rintro e w1 ⟨⟨r1, rfl, h1⟩, b1⟩
  have hb2 := (unhide HB _).trans (b1.mono (unhide HB _).size)
  clear b1 hz
  rcases h1 with rfl | ⟨h2, h3⟩
  · go_wp2
    go_ret
    exact ⟨⟨-1, rfl, .inl rfl⟩, hb2⟩
  · have h4 : ¬ r1 < 0 := by omega
    go_wp2
    go_ret
    exact ⟨⟨r1, rfl, .inr ⟨h2, h3⟩⟩, hb2⟩
set_option maxRecDepth 100000 in
set_option maxHeartbeats 800000 in
theorem szItemS_any (a : Option Addr) (cap : Nat) (Ts : List Pl.It) (w : World) (hl : Ts.length ≤ maxLen) (hv : Mem.isItems w a Ts) (hok : ∀ t ∈ Ts, t.t.L.length ≤ maxLen ∧ ∀ n ∈ t.t.L, n.path.size ≤ maxLen ∧ n.data.size ≤ maxLen) :
    Calls Tryz.prog 6 #[.slice a Ts.length cap, .int .i64 1048576] w fun e w' => (∃ r : Int, e = .returned (.int .i64 r) ∧ (r = -1 ∨ 0 ≤ r ∧ r ≤ 1048576 ∧ Ts.length ≤ 1048576 ∧ ∀ t ∈ Ts, t.t.L.length ≤ 1048576 ∧ ∀ n ∈ t.t.L, n.path.size ≤ 1048576 ∧ n.data.size ≤ 1048576)) ∧ Below w.heap.size w w' := by
  have hl2 := hl
  unfold maxLen at hl2
  by_cases h0 : 1048576 < Ts.length
  · have t0 : (1048576 : Int) - (Ts.length : Int) < 0 := by omega
    go_enter Tryz.func6, Tryz.ntmps6
    go_wp2
    go_ret
    exact ⟨⟨-1, rfl, .inl rfl⟩, Below.refl _ _⟩
  have t0 : ¬ (1048576 : Int) - (Ts.length : Int) < 0 := by omega
  have HV := hide hv
  have HO := hide hok
  clear hv hok
  go_enter Tryz.func6, Tryz.ntmps6
  go_wp2
  go_loopw [1, 5] (fun l i wr => ∃ (k : Nat) (r : Int), k ≤ Ts.length ∧ i = .int .i64 (k : Int) ∧ l = .int .i64 r ∧ 0 ≤ r ∧ r ≤ 1048576 ∧ Below w.heap.size w wr ∧ Hid (∀ (j : Nat) t, j < k → Ts[j]? = some t → t.t.L.length ≤ 1048576 ∧ ∀ n ∈ t.t.L, n.path.size ≤ 1048576 ∧ n.data.size ≤ 1048576)) (fun _ i _ => Ts.length - (intOf i).toNat)
  case atStart => exact ⟨0, _, Nat.zero_le _, rfl, rfl, by omega, by omega, Below.refl _ _, fun j n h => absurd h (by omega)⟩
  case round =>
    obtain ⟨k, r, hk, rfl, rfl, hr0, hr1, hbel, HA⟩ := hrel
    by_cases hlt : k < Ts.length
    · obtain ⟨t, ht⟩ : ∃ t, Ts[k]? = some t := ⟨_, List.getElem?_eq_getElem hlt⟩
      obtain ⟨⟨b, o, rfl, hb, q0, q0'⟩, q1⟩ := (unhide HV) k t ht
      have c0 := (hbel.cell (p := ⟨b, _, none⟩) hb).trans q0
      have c1 := (hbel.cell (p := ⟨b, _, none⟩) hb).trans q0'
      have hz := hide (fun W (b : Below w.heap.size w W) => szItem_any t r hr0 hr1 W (unhide HO t (List.mem_of_getElem? ht)).1 (Mem.nodes_call q1 b) (unhide HO t (List.mem_of_getElem? ht)).2)
      have HN := hide ht
      have u1 : (k : Int) < (Ts.length : Int) := by omega
      have u3 : (0 : Int) ≤ (k : Int) := by omega
      simp only [Pl.Tr.val] at c1
      clear q0 q0' ht q1
      go_wp2_with fail
      refine (unhide hz _ hbel).mono ?_
      rintro e w1 ⟨⟨r1, rfl, h1⟩, b1⟩
      have hb2 := hbel.trans (b1.mono hbel.size)
      clear b1 hbel hz
      rcases h1 with rfl | ⟨h2, h3, h5, h6⟩
      · go_wp2
        go_ret
        exact ⟨⟨-1, rfl, .inl rfl⟩, hb2⟩
      · have h4 : ¬ r1 < 0 := by omega
        have HA2 : Hid (∀ (j : Nat) m, j < k + 1 → Ts[j]? = some m → m.t.L.length ≤ 1048576 ∧ ∀ n ∈ m.t.L, n.path.size ≤ 1048576 ∧ n.data.size ≤ 1048576) := fun j m hj h' => by
          rcases Nat.lt_succ_iff_lt_or_eq.1 hj with h'' | rfl
          · exact HA.out j m h'' h'
          · rw [unhide HN] at h'; cases h'; exact ⟨h5, h6⟩
        clear h5 h6
        go_wp2
        go_roundw
        case rel => exact ⟨k + 1, r1, by omega, by go_num, rfl, h2, by omega, hb2, HA2⟩
        case measure => simp [intOf]; omega
    · have u1 : ¬ (k : Int) < (Ts.length : Int) := by omega
      go_wp2
      go_ret
      exact ⟨⟨r, rfl, .inr ⟨hr0, hr1, by omega, fun n hn => by
        obtain ⟨j, hj⟩ := List.mem_iff_getElem?.1 hn
        exact HA.out j n (by have := (List.getElem?_eq_some_iff.1 hj).1; omega) hj⟩⟩, hbel⟩
end WLaw
end Go.Proofs.YteddcihodfkliabGreatDoor

/- The walks of toItem and toItemS. -/
namespace Go.Proofs.YteddcihodfkliabGreatDoor
open Go.RowKit
namespace WLaw
set_option linter.unusedSimpArgs false in
set_option maxRecDepth 100000 in
theorem toItem_any (x : Pl.It) (w : World) (hl : x.t.L.length ≤ 1048576) (hv : Mem.isNodes w x.t.a x.t.L) :
    Calls Tryz.prog 30 #[.agg #[.int .i64 x.m, .slice x.t.a x.t.L.length x.t.cap]] w fun e w' => ∃ g, e = .returned (.agg #[.int .i64 x.m, .slice (some ⟨g, 0, none⟩) x.t.L.length x.t.L.length]) ∧ w.heap.size ≤ g ∧ Mem.isNodes w' (some ⟨g, 0, none⟩) x.t.L ∧ Below w.heap.size w w' := by
  obtain ⟨m, a, cap, L⟩ := x
  simp only at hl hv ⊢
  have b0 : Below w.heap.size w (((w.alloc (.cells #[.int .i64 m, .slice a L.length cap] 45)).alloc (.cells #[.int .i64 0, .slice none 0 0] 58)).alloc (.cells #[.int .i64 m, .slice none 0 0] 58)) := (((Below.refl _ _).alloc (Nat.le_refl _) _).alloc (by simp) _).alloc (by simp; omega) _
  have hz := hide (toTree_row a cap L _ hl (Mem.nodes_call hv b0))
  have hs : (((w.alloc (.cells #[.int .i64 m, .slice a L.length cap] 45)).alloc (.cells #[.int .i64 0, .slice none 0 0] 58)).alloc (.cells #[.int .i64 m, .slice none 0 0] 58)).heap.size = w.heap.size + 1 + 1 + 1 := by simp
  have r1 : Mem.Blk (((w.alloc (.cells #[.int .i64 m, .slice a L.length cap] 45)).alloc (.cells #[.int .i64 0, .slice none 0 0] 58)).alloc (.cells #[.int .i64 m, .slice none 0 0] 58)) (w.heap.size + 1) #[.int .i64 0, .slice none 0 0] 58 := Mem.new_mid w _ _ _
  have r2 : Mem.Blk (((w.alloc (.cells #[.int .i64 m, .slice a L.length cap] 45)).alloc (.cells #[.int .i64 0, .slice none 0 0] 58)).alloc (.cells #[.int .i64 m, .slice none 0 0] 58)) (w.heap.size + 1 + 1) #[.int .i64 m, .slice none 0 0] 58 := Mem.new_three w _ _ _
  have HB0 := hide b0
  clear hv b0
  go_enter Tryz.func30, Tryz.ntmps30
  go_wp2_with fail
  generalize (((w.alloc (.cells #[.int .i64 m, .slice a L.length cap] 45)).alloc (.cells #[.int .i64 0, .slice none 0 0] 58)).alloc (.cells #[.int .i64 m, .slice none 0 0] 58)) = w3 at hz hs r1 r2 HB0 ⊢
  refine (unhide hz).mono ?_
  rintro e w1 ⟨g, rfl, hg, -, hn, b1⟩
  have R1 := r1.call b1
  have R2 := r2.call b1
  have c10 := R1.cell 0
  have c11 := R1.cell 1
  have c20 := R2.cell 0
  have c21 := R2.cell 1
  have f10 := R1.fr 0
  have f11 := R1.fr 1
  have f20 := R2.fr 0
  have f21 := R2.fr 1
  simp only [List.getElem?_toArray, List.getElem?_cons_zero, List.getElem?_cons_succ] at c10 c11 c20 c21
  have bb := hide ((unhide HB0).trans (b1.mono (unhide HB0).size))
  have HG : Hid (w.heap.size + 1 + 1 + 1 ≤ g) := hide (by omega)
  have HN := hide hn
  clear hz b1 hn hs r1 r2 R1 R2 HB0 hg
  go_wp2
  have hg := unhide HG
  refine bodyPost_ret (v := .agg #[.int .i64 m, .slice (some ⟨g, 0, none⟩) L.length L.length]) (by simp [results, Tryz.results30, go_sem, c10, c11]) rfl ⟨g, rfl, by omega, ?_, ?_⟩
  · exact Mem.nodes_far (Mem.nodes_far (Mem.nodes_far (unhide HN) _ _ (by show w.heap.size + 1 + 1 ≠ g; omega)) _ _ (by show w.heap.size + 1 ≠ g; omega)) _ _ (by show w.heap.size + 1 ≠ g; omega)
  · exact (((unhide bb).setCell (by show w.heap.size ≤ w.heap.size + 1 + 1; omega) _).setCell (by show w.heap.size ≤ w.heap.size + 1; omega) _).setCell (by show w.heap.size ≤ w.heap.size + 1; omega) _
def zeroItems (n : Nat) : Array Value := madeCells (Value.agg #[.int .i64 0, .slice none 0 0]).cells (n * 2)
theorem zeroItems_size (n : Nat) : (zeroItems n).size = n * 2 := size_madeCells _ _
theorem infoI : (Tryz.prog.info? 58).map (fun i => (i.zero, i.size, i.bytes)) = some (some (.agg #[.int .i64 0, .slice none 0 0]), 2, 32) := by kernel_rfl
theorem makeI (n : Nat) (hn : n ≤ 1048576) (w : World) : (Instr.makeSlice 26 (.int .i64 (n : Int)) (.int .i64 (n : Int))).run Tryz.prog w = .ok (.slice (some ⟨w.heap.size, 0, none⟩) n n) (w.alloc (.cells (zeroItems n) 58)) := by
  obtain ⟨i0, h0, h1, h2, h3⟩ := info_parts infoI
  have h := run_make (P := Tryz.prog) w 26 58 i0 (.agg #[.int .i64 0, .slice none 0 0]) Tryz.underlying26 h0 h1 .i64 .i64 (n : Int) (n : Int) (by omega) (Int.le_refl _) (by rw [h3]; omega) (by omega)
  rw [h, h2]
  simp [zeroItems]
/-- The items that were copied so far: each tree in a row of its own, behind the row of items. -/
structure CopI (w wr : World) (Ts D : List Pl.It) (cur : Array Value) : Prop where
  blk : wr.heap[w.heap.size]? = some (.cells cur 58 (0, 0))
  size : cur.size = Ts.length * 2
  same : D.map Pl.It.r = (Ts.take D.length).map Pl.It.r
  each : ∀ (j : Nat) t, D[j]? = some t → cur[j * 2]? = some (.int .i64 t.m) ∧ cur[j * 2 + 1]? = some t.t.val ∧ ∃ g, t.t.a = some ⟨g, 0, none⟩ ∧ w.heap.size < g ∧ Mem.isNodes wr t.t.a t.t.L
theorem CopI.call {w wr W : World} {Ts D : List Pl.It} {cur : Array Value} (h : CopI w wr Ts D cur) (b : Below wr.heap.size wr W) : CopI w W Ts D cur :=
  ⟨(b.block _ (Array.getElem?_eq_some_iff.1 h.blk).1).trans h.blk, h.size, h.same, fun j t hj => ⟨(h.each j t hj).1, (h.each j t hj).2.1, by
    obtain ⟨g, h1, h2, h3⟩ := (h.each j t hj).2.2
    exact ⟨g, h1, h2, Mem.nodes_call h3 b⟩⟩⟩
theorem CopI.put {w wr : World} {Ts D : List Pl.It} {cur : Array Value} (h : CopI w wr Ts D cur) (t : Pl.It) (g : Nat) (hk : Ts[D.length]? = some t) (hg : w.heap.size < g) (hn : Mem.isNodes wr (some ⟨g, 0, none⟩) t.t.L) :
    CopI w ((wr.setCell ⟨w.heap.size, D.length * 2, none⟩ (.int .i64 t.m)).setCell ⟨w.heap.size, D.length * 2 + 1, none⟩ (.slice (some ⟨g, 0, none⟩) t.t.L.length t.t.L.length)) Ts (D ++ [⟨t.m, some ⟨g, 0, none⟩, t.t.L.length, t.t.L⟩]) ((cur.setIfInBounds (D.length * 2) (.int .i64 t.m)).setIfInBounds (D.length * 2 + 1) (.slice (some ⟨g, 0, none⟩) t.t.L.length t.t.L.length)) := by
  have hlt := (List.getElem?_eq_some_iff.1 hk).1
  have hsz := h.size
  refine ⟨heap_setCell_same _ _ _ _ _ _ (heap_setCell_same _ _ _ _ _ _ h.blk), by simpa using h.size, ?_, fun j m hj => ?_⟩
  · rw [List.length_append, List.length_singleton, List.take_add_one, hk, List.map_append, List.map_append, h.same]
    rfl
  · by_cases e : j < D.length
    · rw [List.getElem?_append_left e] at hj
      obtain ⟨h1, h1', g', h2, h3, h4⟩ := h.each j m hj
      refine ⟨by rw [Array.getElem?_setIfInBounds, if_neg (by omega), Array.getElem?_setIfInBounds, if_neg (by omega)]; exact h1, by rw [Array.getElem?_setIfInBounds, if_neg (by omega), Array.getElem?_setIfInBounds, if_neg (by omega)]; exact h1', g', h2, h3, ?_⟩
      rw [h2] at h4 ⊢
      exact Mem.nodes_far (Mem.nodes_far h4 _ _ (by show w.heap.size ≠ g'; omega)) _ _ (by show w.heap.size ≠ g'; omega)
    · rw [List.getElem?_append_right (by omega)] at hj
      have hj0 : j = D.length := by
        have := (List.getElem?_eq_some_iff.1 hj).1
        simp at this; omega
      subst hj0
      simp at hj
      subst hj
      refine ⟨?_, ?_, g, rfl, hg, Mem.nodes_far (Mem.nodes_far hn _ _ (by show w.heap.size ≠ g; omega)) _ _ (by show w.heap.size ≠ g; omega)⟩
      · rw [Array.getElem?_setIfInBounds, if_neg (by omega), Array.getElem?_setIfInBounds, if_pos rfl, if_pos (by omega)]
      · rw [Array.getElem?_setIfInBounds, if_pos rfl, if_pos (by rw [Array.size_setIfInBounds]; omega)]
        rfl
theorem CopI.items {w wr : World} {Ts D : List Pl.It} {cur : Array Value} (h : CopI w wr Ts D cur) : Mem.isItems wr (some ⟨w.heap.size, 0, none⟩) D := fun i t hi => by
  obtain ⟨h1, h1', g, h2, h3, h4⟩ := h.each i t hi
  refine ⟨⟨_, 0, rfl, (Array.getElem?_eq_some_iff.1 h.blk).1, ?_, ?_⟩, h4⟩
  · rw [cell_of_row wr _ _ _ _ (0, 0) h.blk, Nat.zero_add]
    exact h1
  · rw [cell_of_row wr _ _ _ _ (0, 0) h.blk, Nat.zero_add]
    exact h1'
set_option linter.unusedSimpArgs false in
set_option maxRecDepth 100000 in
set_option maxHeartbeats 800000 in
theorem toItemS_cop (a : Option Addr) (cap : Nat) (Ts : List Pl.It) (w : World) (hl : Ts.length ≤ 1048576) (hv : Mem.isItems w a Ts) (hok : ∀ t ∈ Ts, t.t.L.length ≤ 1048576) :
    Calls Tryz.prog 8 #[.slice a Ts.length cap] w fun e w' => e = .returned (.slice (some ⟨w.heap.size, 0, none⟩) Ts.length Ts.length) ∧ (∃ D cur, D.length = Ts.length ∧ CopI w w' Ts D cur) ∧ Below w.heap.size w w' := by
  have HV := hide hv
  have HO := hide hok
  have hmk := makeI Ts.length hl w
  clear hv hok
  go_enter Tryz.func8, Tryz.ntmps8
  go_wp2
  go_loopw [4] (fun i wr => ∃ (D : List Pl.It) (cur : Array Value), D.length ≤ Ts.length ∧ i = .int .i64 (D.length : Int) ∧ Below w.heap.size w wr ∧ Hid (CopI w wr Ts D cur)) (fun i _ => Ts.length - (intOf i).toNat)
  case atStart => exact ⟨[], zeroItems Ts.length, Nat.zero_le _, rfl, (Below.refl _ _).alloc (Nat.le_refl _) _, hide ⟨heap_alloc_new w _, zeroItems_size _, rfl, fun j t h => by simp at h⟩⟩
  case round =>
    obtain ⟨D, cur, hk, rfl, hbel, HC⟩ := hrel
    by_cases hlt : D.length < Ts.length
    · obtain ⟨t, ht⟩ : ∃ t, Ts[D.length]? = some t := ⟨_, List.getElem?_eq_getElem hlt⟩
      obtain ⟨⟨b, o, rfl, hb, q0, q0'⟩, q1⟩ := (unhide HV) D.length t ht
      have c0 := (hbel.cell (p := ⟨b, _, none⟩) hb).trans q0
      have c1 := (hbel.cell (p := ⟨b, _, none⟩) hb).trans q0'
      have hz := hide (fun W (b : Below w.heap.size w W) => toItem_any t W (unhide HO t (List.mem_of_getElem? ht)) (Mem.nodes_call q1 b))
      have HN := hide ht
      have u1 : (D.length : Int) < (Ts.length : Int) := by omega
      have u3 : (0 : Int) ≤ (D.length : Int) := by omega
      simp only [Pl.Tr.val] at c1
      clear q0 q0' ht q1
      go_wp2_with fail
      refine (unhide hz _ hbel).mono ?_
      rintro e w1 ⟨g, rfl, hg, hn, b1⟩
      have hgw : w.heap.size < g := by have := (Array.getElem?_eq_some_iff.1 (unhide HC).blk).1; omega
      have C1 := (unhide HC).call b1
      have hb2 := hbel.trans (b1.mono hbel.size)
      have hcs := C1.size
      obtain ⟨x0, s0⟩ : ∃ x, w1.cell? ⟨w.heap.size, D.length * 2, none⟩ = some x := ⟨_, (cell_of_row w1 _ (D.length * 2) _ _ (0, 0) C1.blk).trans (Array.getElem?_eq_getElem (by omega))⟩
      obtain ⟨x1, s1⟩ : ∃ x, w1.cell? ⟨w.heap.size, D.length * 2 + 1, none⟩ = some x := ⟨_, (cell_of_row w1 _ (D.length * 2 + 1) _ _ (0, 0) C1.blk).trans (Array.getElem?_eq_getElem (by omega))⟩
      have f0 : w1.frozen? ⟨w.heap.size, D.length * 2, none⟩ = false := Mem.row_frozen C1.blk
      have f1 : w1.frozen? ⟨w.heap.size, D.length * 2 + 1, none⟩ = false := Mem.row_frozen C1.blk
      have HC2 := hide (C1.put t g (unhide HN) hgw hn)
      have HB2 := hide hb2
      clear b1 hbel hz HC C1 hn hg hb2 hcs
      go_wp2
      go_roundw
      case rel => exact ⟨_, _, by rw [List.length_append, List.length_singleton]; omega, by rw [List.length_append, List.length_singleton]; go_num, ((unhide HB2).setCell (Nat.le_refl _) _).setCell (Nat.le_refl _) _, HC2⟩
      case measure => simp [intOf]; omega
    · have u1 : ¬ (D.length : Int) < (Ts.length : Int) := by omega
      go_wp2
      go_ret
      exact ⟨rfl, ⟨D, by omega, cur, unhide HC⟩, hbel⟩
theorem toItemS_any (a : Option Addr) (cap : Nat) (Ts : List Pl.It) (w : World) (hl : Ts.length ≤ 1048576) (hv : Mem.isItems w a Ts) (hok : ∀ t ∈ Ts, t.t.L.length ≤ 1048576) :
    Calls Tryz.prog 8 #[.slice a Ts.length cap] w fun e w' => ∃ g D, e = .returned (.slice (some ⟨g, 0, none⟩) Ts.length Ts.length) ∧ w.heap.size ≤ g ∧ D.length = Ts.length ∧ D.map Pl.It.r = Ts.map Pl.It.r ∧ Mem.isItems w' (some ⟨g, 0, none⟩) D ∧ Below w.heap.size w w' :=
  (toItemS_cop a cap Ts w hl hv hok).mono fun _ _ ⟨he, ⟨D, cur, hD, hC⟩, b⟩ => ⟨_, D, he, Nat.le_refl _, hD, by rw [hC.same, hD, List.take_length], hC.items, b⟩
end WLaw
end Go.Proofs.YteddcihodfkliabGreatDoor

/- The walks of toItem and toItemS, with the rows of the nodes that were copied. -/
namespace Go.Proofs.YteddcihodfkliabGreatDoor
open Go.RowKit
namespace WLawY
open WLaw
set_option linter.unusedSimpArgs false in
set_option maxRecDepth 100000 in
theorem toItem_any (x : Pl.It) (w : World) (hl : x.t.L.length ≤ 1048576) (hv : Mem.isNodes w x.t.a x.t.L) :
    Calls Tryz.prog 30 #[.agg #[.int .i64 x.m, .slice x.t.a x.t.L.length x.t.cap]] w fun e w' => ∃ g, e = .returned (.agg #[.int .i64 x.m, .slice (some ⟨g, 0, none⟩) x.t.L.length x.t.L.length]) ∧ w.heap.size ≤ g ∧ (∃ cs, w'.heap[g]? = some (.cells cs 48 (0, 0)) ∧ x.t.L.length * 5 ≤ cs.size) ∧ Mem.isNodes w' (some ⟨g, 0, none⟩) x.t.L ∧ Below w.heap.size w w' := by
  obtain ⟨m, a, cap, L⟩ := x
  simp only at hl hv ⊢
  have b0 : Below w.heap.size w (((w.alloc (.cells #[.int .i64 m, .slice a L.length cap] 45)).alloc (.cells #[.int .i64 0, .slice none 0 0] 58)).alloc (.cells #[.int .i64 m, .slice none 0 0] 58)) := (((Below.refl _ _).alloc (Nat.le_refl _) _).alloc (by simp) _).alloc (by simp; omega) _
  have hz := hide (toTree_row a cap L _ hl (Mem.nodes_call hv b0))
  have hs : (((w.alloc (.cells #[.int .i64 m, .slice a L.length cap] 45)).alloc (.cells #[.int .i64 0, .slice none 0 0] 58)).alloc (.cells #[.int .i64 m, .slice none 0 0] 58)).heap.size = w.heap.size + 1 + 1 + 1 := by simp
  have r1 : Mem.Blk (((w.alloc (.cells #[.int .i64 m, .slice a L.length cap] 45)).alloc (.cells #[.int .i64 0, .slice none 0 0] 58)).alloc (.cells #[.int .i64 m, .slice none 0 0] 58)) (w.heap.size + 1) #[.int .i64 0, .slice none 0 0] 58 := Mem.new_mid w _ _ _
  have r2 : Mem.Blk (((w.alloc (.cells #[.int .i64 m, .slice a L.length cap] 45)).alloc (.cells #[.int .i64 0, .slice none 0 0] 58)).alloc (.cells #[.int .i64 m, .slice none 0 0] 58)) (w.heap.size + 1 + 1) #[.int .i64 m, .slice none 0 0] 58 := Mem.new_three w _ _ _
  have HB0 := hide b0
  clear hv b0
  go_enter Tryz.func30, Tryz.ntmps30
  go_wp2_with fail
  generalize (((w.alloc (.cells #[.int .i64 m, .slice a L.length cap] 45)).alloc (.cells #[.int .i64 0, .slice none 0 0] 58)).alloc (.cells #[.int .i64 m, .slice none 0 0] 58)) = w3 at hz hs r1 r2 HB0 ⊢
  refine (unhide hz).mono ?_
  rintro e w1 ⟨g, rfl, hg, ⟨cs, hrow, hcs⟩, hn, b1⟩
  have HRW := hide hrow
  have HCS := hide hcs
  have R1 := r1.call b1
  have R2 := r2.call b1
  have c10 := R1.cell 0
  have c11 := R1.cell 1
  have c20 := R2.cell 0
  have c21 := R2.cell 1
  have f10 := R1.fr 0
  have f11 := R1.fr 1
  have f20 := R2.fr 0
  have f21 := R2.fr 1
  simp only [List.getElem?_toArray, List.getElem?_cons_zero, List.getElem?_cons_succ] at c10 c11 c20 c21
  have bb := hide ((unhide HB0).trans (b1.mono (unhide HB0).size))
  have HG : Hid (w.heap.size + 1 + 1 + 1 ≤ g) := hide (by omega)
  have HN := hide hn
  clear hz b1 hn hs r1 r2 R1 R2 HB0 hg hrow hcs
  go_wp2
  have hg := unhide HG
  refine bodyPost_ret (v := .agg #[.int .i64 m, .slice (some ⟨g, 0, none⟩) L.length L.length]) (by simp [results, Tryz.results30, go_sem, c10, c11]) rfl ⟨g, rfl, by omega, ⟨cs, ?_, by have := unhide HCS; omega⟩, ?_, ?_⟩
  · rw [heap_setCell_other _ _ _ _ (by show g ≠ w.heap.size + 1; omega), heap_setCell_other _ _ _ _ (by show g ≠ w.heap.size + 1; omega), heap_setCell_other _ _ _ _ (by show g ≠ w.heap.size + 1 + 1; omega)]
    exact unhide HRW
  · exact Mem.nodes_far (Mem.nodes_far (Mem.nodes_far (unhide HN) _ _ (by show w.heap.size + 1 + 1 ≠ g; omega)) _ _ (by show w.heap.size + 1 ≠ g; omega)) _ _ (by show w.heap.size + 1 ≠ g; omega)
  · exact (((unhide bb).setCell (by show w.heap.size ≤ w.heap.size + 1 + 1; omega) _).setCell (by show w.heap.size ≤ w.heap.size + 1; omega) _).setCell (by show w.heap.size ≤ w.heap.size + 1; omega) _
/-- The items that were copied so far: each tree in a row of its own, behind the row of items. -/
structure CopI (w wr : World) (Ts D : List Pl.It) (cur : Array Value) : Prop where
  blk : wr.heap[w.heap.size]? = some (.cells cur 58 (0, 0))
  size : cur.size = Ts.length * 2
  same : D.map Pl.It.r = (Ts.take D.length).map Pl.It.r
  each : ∀ (j : Nat) t, D[j]? = some t → cur[j * 2]? = some (.int .i64 t.m) ∧ cur[j * 2 + 1]? = some t.t.val ∧ ∃ g, t.t.a = some ⟨g, 0, none⟩ ∧ w.heap.size < g ∧ Mem.isNodes wr t.t.a t.t.L ∧ ∃ cs, wr.heap[g]? = some (.cells cs 48 (0, 0)) ∧ t.t.L.length * 5 ≤ cs.size
theorem CopI.call {w wr W : World} {Ts D : List Pl.It} {cur : Array Value} (h : CopI w wr Ts D cur) (b : Below wr.heap.size wr W) : CopI w W Ts D cur :=
  ⟨(b.block _ (Array.getElem?_eq_some_iff.1 h.blk).1).trans h.blk, h.size, h.same, fun j t hj => ⟨(h.each j t hj).1, (h.each j t hj).2.1, by
    obtain ⟨g, h1, h2, h3, cs, h4, h5⟩ := (h.each j t hj).2.2
    exact ⟨g, h1, h2, Mem.nodes_call h3 b, cs, (b.block _ (Array.getElem?_eq_some_iff.1 h4).1).trans h4, h5⟩⟩⟩
theorem CopI.put {w wr : World} {Ts D : List Pl.It} {cur : Array Value} (h : CopI w wr Ts D cur) (t : Pl.It) (g : Nat) (hk : Ts[D.length]? = some t) (hg : w.heap.size < g) (hn : Mem.isNodes wr (some ⟨g, 0, none⟩) t.t.L) (hr : ∃ cs, wr.heap[g]? = some (.cells cs 48 (0, 0)) ∧ t.t.L.length * 5 ≤ cs.size) :
    CopI w ((wr.setCell ⟨w.heap.size, D.length * 2, none⟩ (.int .i64 t.m)).setCell ⟨w.heap.size, D.length * 2 + 1, none⟩ (.slice (some ⟨g, 0, none⟩) t.t.L.length t.t.L.length)) Ts (D ++ [⟨t.m, some ⟨g, 0, none⟩, t.t.L.length, t.t.L⟩]) ((cur.setIfInBounds (D.length * 2) (.int .i64 t.m)).setIfInBounds (D.length * 2 + 1) (.slice (some ⟨g, 0, none⟩) t.t.L.length t.t.L.length)) := by
  have hlt := (List.getElem?_eq_some_iff.1 hk).1
  have hsz := h.size
  refine ⟨heap_setCell_same _ _ _ _ _ _ (heap_setCell_same _ _ _ _ _ _ h.blk), by simpa using h.size, ?_, fun j m hj => ?_⟩
  · rw [List.length_append, List.length_singleton, List.take_add_one, hk, List.map_append, List.map_append, h.same]
    rfl
  · by_cases e : j < D.length
    · rw [List.getElem?_append_left e] at hj
      obtain ⟨h1, h1', g', h2, h3, h4, cs, h5, h6⟩ := h.each j m hj
      refine ⟨by rw [Array.getElem?_setIfInBounds, if_neg (by omega), Array.getElem?_setIfInBounds, if_neg (by omega)]; exact h1, by rw [Array.getElem?_setIfInBounds, if_neg (by omega), Array.getElem?_setIfInBounds, if_neg (by omega)]; exact h1', g', h2, h3, ?_, cs, (heap_setCell_other _ _ _ _ (by show g' ≠ w.heap.size; omega)).trans ((heap_setCell_other _ _ _ _ (by show g' ≠ w.heap.size; omega)).trans h5), h6⟩
      rw [h2] at h4 ⊢
      exact Mem.nodes_far (Mem.nodes_far h4 _ _ (by show w.heap.size ≠ g'; omega)) _ _ (by show w.heap.size ≠ g'; omega)
    · rw [List.getElem?_append_right (by omega)] at hj
      have hj0 : j = D.length := by
        have := (List.getElem?_eq_some_iff.1 hj).1
        simp at this; omega
      subst hj0
      simp at hj
      subst hj
      obtain ⟨cs, h5, h6⟩ := hr
      refine ⟨?_, ?_, g, rfl, hg, Mem.nodes_far (Mem.nodes_far hn _ _ (by show w.heap.size ≠ g; omega)) _ _ (by show w.heap.size ≠ g; omega), cs, (heap_setCell_other _ _ _ _ (by show g ≠ w.heap.size; omega)).trans ((heap_setCell_other _ _ _ _ (by show g ≠ w.heap.size; omega)).trans h5), h6⟩
      · rw [Array.getElem?_setIfInBounds, if_neg (by omega), Array.getElem?_setIfInBounds, if_pos rfl, if_pos (by omega)]
      · rw [Array.getElem?_setIfInBounds, if_pos rfl, if_pos (by rw [Array.size_setIfInBounds]; omega)]
        rfl
theorem CopI.items {w wr : World} {Ts D : List Pl.It} {cur : Array Value} (h : CopI w wr Ts D cur) : Mem.isItems wr (some ⟨w.heap.size, 0, none⟩) D := fun i t hi => by
  obtain ⟨h1, h1', g, h2, h3, h4, -⟩ := h.each i t hi
  refine ⟨⟨_, 0, rfl, (Array.getElem?_eq_some_iff.1 h.blk).1, ?_, ?_⟩, h4⟩
  · rw [cell_of_row wr _ _ _ _ (0, 0) h.blk, Nat.zero_add]
    exact h1
  · rw [cell_of_row wr _ _ _ _ (0, 0) h.blk, Nat.zero_add]
    exact h1'
set_option linter.unusedSimpArgs false in
set_option maxRecDepth 100000 in
set_option maxHeartbeats 800000 in
theorem toItemS_cop (a : Option Addr) (cap : Nat) (Ts : List Pl.It) (w : World) (hl : Ts.length ≤ 1048576) (hv : Mem.isItems w a Ts) (hok : ∀ t ∈ Ts, t.t.L.length ≤ 1048576) :
    Calls Tryz.prog 8 #[.slice a Ts.length cap] w fun e w' => e = .returned (.slice (some ⟨w.heap.size, 0, none⟩) Ts.length Ts.length) ∧ (∃ D cur, D.length = Ts.length ∧ CopI w w' Ts D cur) ∧ Below w.heap.size w w' := by
  have HV := hide hv
  have HO := hide hok
  have hmk := makeI Ts.length hl w
  clear hv hok
  go_enter Tryz.func8, Tryz.ntmps8
  go_wp2
  go_loopw [4] (fun i wr => ∃ (D : List Pl.It) (cur : Array Value), D.length ≤ Ts.length ∧ i = .int .i64 (D.length : Int) ∧ Below w.heap.size w wr ∧ Hid (CopI w wr Ts D cur)) (fun i _ => Ts.length - (intOf i).toNat)
  case atStart => exact ⟨[], zeroItems Ts.length, Nat.zero_le _, rfl, (Below.refl _ _).alloc (Nat.le_refl _) _, hide ⟨heap_alloc_new w _, zeroItems_size _, rfl, fun j t h => by simp at h⟩⟩
  case round =>
    obtain ⟨D, cur, hk, rfl, hbel, HC⟩ := hrel
    by_cases hlt : D.length < Ts.length
    · obtain ⟨t, ht⟩ : ∃ t, Ts[D.length]? = some t := ⟨_, List.getElem?_eq_getElem hlt⟩
      obtain ⟨⟨b, o, rfl, hb, q0, q0'⟩, q1⟩ := (unhide HV) D.length t ht
      have c0 := (hbel.cell (p := ⟨b, _, none⟩) hb).trans q0
      have c1 := (hbel.cell (p := ⟨b, _, none⟩) hb).trans q0'
      have hz := hide (fun W (b : Below w.heap.size w W) => toItem_any t W (unhide HO t (List.mem_of_getElem? ht)) (Mem.nodes_call q1 b))
      have HN := hide ht
      have u1 : (D.length : Int) < (Ts.length : Int) := by omega
      have u3 : (0 : Int) ≤ (D.length : Int) := by omega
      simp only [Pl.Tr.val] at c1
      clear q0 q0' ht q1
      go_wp2_with fail
      refine (unhide hz _ hbel).mono ?_
      rintro e w1 ⟨g, rfl, hg, hrr, hn, b1⟩
      have hgw : w.heap.size < g := by have := (Array.getElem?_eq_some_iff.1 (unhide HC).blk).1; omega
      have C1 := (unhide HC).call b1
      have hb2 := hbel.trans (b1.mono hbel.size)
      have hcs := C1.size
      obtain ⟨x0, s0⟩ : ∃ x, w1.cell? ⟨w.heap.size, D.length * 2, none⟩ = some x := ⟨_, (cell_of_row w1 _ (D.length * 2) _ _ (0, 0) C1.blk).trans (Array.getElem?_eq_getElem (by omega))⟩
      obtain ⟨x1, s1⟩ : ∃ x, w1.cell? ⟨w.heap.size, D.length * 2 + 1, none⟩ = some x := ⟨_, (cell_of_row w1 _ (D.length * 2 + 1) _ _ (0, 0) C1.blk).trans (Array.getElem?_eq_getElem (by omega))⟩
      have f0 : w1.frozen? ⟨w.heap.size, D.length * 2, none⟩ = false := Mem.row_frozen C1.blk
      have f1 : w1.frozen? ⟨w.heap.size, D.length * 2 + 1, none⟩ = false := Mem.row_frozen C1.blk
      have HC2 := hide (C1.put t g (unhide HN) hgw hn hrr)
      have HB2 := hide hb2
      clear b1 hbel hz HC C1 hn hg hb2 hcs hrr
      go_wp2
      go_roundw
      case rel => exact ⟨_, _, by rw [List.length_append, List.length_singleton]; omega, by rw [List.length_append, List.length_singleton]; go_num, ((unhide HB2).setCell (Nat.le_refl _) _).setCell (Nat.le_refl _) _, HC2⟩
      case measure => simp [intOf]; omega
    · have u1 : ¬ (D.length : Int) < (Ts.length : Int) := by omega
      go_wp2
      go_ret
      exact ⟨rfl, ⟨D, by omega, cur, unhide HC⟩, hbel⟩
/-- A row of items in memory of the call's own, each with its own row of nodes behind it. -/
structure Rows (W : World) (g : Nat) (D : List Pl.It) : Prop where
  items : Mem.isItems W (some ⟨g, 0, none⟩) D
  blk : ∃ cur, W.heap[g]? = some (.cells cur 58 (0, 0)) ∧ cur.size = D.length * 2
  each : ∀ (j : Nat) t, D[j]? = some t → ∃ q, t.t.a = some ⟨q, 0, none⟩ ∧ g < q ∧ q < W.heap.size ∧ ∃ cs, W.heap[q]? = some (.cells cs 48 (0, 0)) ∧ t.t.L.length * 5 ≤ cs.size
theorem toItemS_any (a : Option Addr) (cap : Nat) (Ts : List Pl.It) (w : World) (hl : Ts.length ≤ 1048576) (hv : Mem.isItems w a Ts) (hok : ∀ t ∈ Ts, t.t.L.length ≤ 1048576) :
    Calls Tryz.prog 8 #[.slice a Ts.length cap] w fun e w' => ∃ g D, e = .returned (.slice (some ⟨g, 0, none⟩) Ts.length Ts.length) ∧ w.heap.size ≤ g ∧ D.length = Ts.length ∧ D.map Pl.It.r = Ts.map Pl.It.r ∧ Rows w' g D ∧ Below w.heap.size w w' :=
  (toItemS_cop a cap Ts w hl hv hok).mono fun _ _ ⟨he, ⟨D, cur, hD, hC⟩, b⟩ => ⟨_, D, he, Nat.le_refl _, hD, by rw [hC.same, hD, List.take_length], ⟨hC.items, ⟨cur, hC.blk, by rw [hC.size, hD]⟩, fun j t hj => by
    obtain ⟨-, -, g, h2, h3, -, cs, h5, h6⟩ := hC.each j t hj
    exact ⟨g, h2, h3, (Array.getElem?_eq_some_iff.1 h5).1, cs, h5, h6⟩⟩, b⟩
end WLawY
end Go.Proofs.YteddcihodfkliabGreatDoor

/- The walks of eqItem and eqItemS. -/
namespace Go.Proofs.YteddcihodfkliabGreatDoor
open Go.RowKit
namespace WLaw
set_option maxRecDepth 100000 in
set_option maxHeartbeats 800000 in
theorem eqItem_any (m : Int) (a b : Option Addr) (c1 c2 : Nat) (L : List Pl.Nd) (w : World) (hl : L.length ≤ 1048576) (hv : Mem.isNodes w a L) (hu : Mem.isNodes w b L) :
    Calls Tryz.prog 34 #[.agg #[.int .i64 m, .slice a L.length c1], .agg #[.int .i64 m, .slice b L.length c2]] w fun e w' => e = .returned (.bool true) ∧ Below w.heap.size w w' := by
  have b0 : ∀ o1 o2, Below w.heap.size w ((w.alloc o1).alloc o2) := fun o1 o2 => ((Below.refl _ _).alloc (Nat.le_refl _) o1).alloc (by simp) o2
  have HB := hide b0
  have HZ := hide (fun W (b' : Below w.heap.size w W) => eqTree_any a b c1 c2 L W hl (Mem.nodes_call hv b') (Mem.nodes_call hu b'))
  clear hv hu b0
  go_enter Tryz.func34, Tryz.ntmps34
  go_wp2_with fail
  refine (unhide HZ _ (unhide HB _ _)).mono ?_
  rintro e w1 ⟨rfl, b1⟩
  have bb := (unhide HB _ _).trans (b1.mono (unhide HB _ _).size)
  clear HZ b1
  go_wp2
  go_ret
  exact ⟨rfl, bb⟩
set_option maxRecDepth 100000 in
set_option maxHeartbeats 800000 in
theorem eqItemS_any (a b : Option Addr) (c1 c2 : Nat) (Ts Us : List Pl.It) (w : World) (hl : Ts.length ≤ 1048576) (hm : Us.map Pl.It.r = Ts.map Pl.It.r) (hv : Mem.isItems w a Ts) (hu : Mem.isItems w b Us) (hok : ∀ t ∈ Ts, t.t.L.length ≤ 1048576) :
    Calls Tryz.prog 11 #[.slice a Ts.length c1, .slice b Ts.length c2] w fun e w' => e = .returned (.bool true) ∧ Below w.heap.size w w' := by
  have HV := hide hv
  have HU := hide hu
  have HO := hide hok
  have HM := hide hm
  clear hv hu hok hm
  go_enter Tryz.func11, Tryz.ntmps11
  go_wp2
  go_loopw [5] (fun i wr => ∃ k : Nat, k ≤ Ts.length ∧ i = .int .i64 (k : Int) ∧ Below w.heap.size w wr) (fun i _ => Ts.length - (intOf i).toNat)
  case atStart => exact ⟨0, Nat.zero_le _, rfl, Below.refl _ _⟩
  case round =>
    obtain ⟨k, hk, rfl, hbel⟩ := hrel
    by_cases hlt : k < Ts.length
    · obtain ⟨t, ht⟩ : ∃ n, Ts[k]? = some n := ⟨_, List.getElem?_eq_getElem hlt⟩
      obtain ⟨u, hu, hum, hul⟩ : ∃ u, Us[k]? = some u ∧ u.m = t.m ∧ u.t.L = t.t.L := by
        have h := congrArg (fun l => l[k]?) (unhide HM)
        simp only [List.getElem?_map, ht, Option.map_some] at h
        cases hu : Us[k]? with
        | none => rw [hu] at h; simp at h
        | some u => rw [hu] at h; simp [Pl.It.r] at h; exact ⟨u, rfl, h.1, h.2⟩
      obtain ⟨⟨g, o, rfl, hg, q0, q0'⟩, q1⟩ := (unhide HV) k t ht
      obtain ⟨⟨g2, o2, rfl, hg2, p0, p0'⟩, p1⟩ := (unhide HU) k u hu
      rw [hul] at p1
      have hz := hide (fun W (b : Below w.heap.size w W) => eqItem_any t.m t.t.a u.t.a t.t.cap u.t.cap t.t.L W (unhide HO t (List.mem_of_getElem? ht)) (Mem.nodes_call q1 b) (Mem.nodes_call p1 b))
      have MK : Hid (∀ W', Below w.heap.size w W' → (Below w.heap.size w W' ∧ W'.cell? ⟨g, o + k * 2, none⟩ = some (.int .i64 t.m) ∧ W'.cell? ⟨g, o + k * 2 + 1, none⟩ = some (.slice t.t.a t.t.L.length t.t.cap) ∧ W'.cell? ⟨g2, o2 + k * 2, none⟩ = some (.int .i64 t.m) ∧ W'.cell? ⟨g2, o2 + k * 2 + 1, none⟩ = some (.slice u.t.a t.t.L.length u.t.cap))) := fun W' hb' => ⟨hb', (hb'.cell (p := ⟨g, _, none⟩) hg).trans q0, (hb'.cell (p := ⟨g, _, none⟩) hg).trans (by rw [q0', Pl.Tr.val]), (hb'.cell (p := ⟨g2, _, none⟩) hg2).trans (by rw [p0, hum]), (hb'.cell (p := ⟨g2, _, none⟩) hg2).trans (by rw [p0', Pl.Tr.val, hul])⟩
      have u1 : (k : Int) < (Ts.length : Int) := by omega
      have u3 : (0 : Int) ≤ (k : Int) := by omega
      have hbd : Below w.heap.size w wr.drew := ⟨hbel.os, hbel.tape, hbel.output, hbel.size, hbel.block⟩
      clear q0 p0 q0' p0' ht hu hul hum q1 p1
      go_wp2_with fail
      go_region_held3 (fun W' => Below w.heap.size w W' ∧ W'.cell? ⟨g, o + k * 2, none⟩ = some (.int .i64 t.m) ∧ W'.cell? ⟨g, o + k * 2 + 1, none⟩ = some (.slice t.t.a t.t.L.length t.t.cap) ∧ W'.cell? ⟨g2, o2 + k * 2, none⟩ = some (.int .i64 t.m) ∧ W'.cell? ⟨g2, o2 + k * 2 + 1, none⟩ = some (.slice u.t.a t.t.L.length u.t.cap)) (first | exact unhide MK _ hbd | exact unhide MK _ (hbd.trans (bX.mono hbd.size))) (first | (go_at_call 34; refine (unhide hz _ hbd).mono ?_; rintro e wX ⟨rfl, bX⟩))
      have hb2 := hbd.trans (bX.mono hbd.size)
      clear hbel hbd bX MK
      go_wp2
      go_roundw
      case rel => exact ⟨k + 1, by omega, by go_num, hb2⟩
      case measure => simp [intOf]; omega
    · have u1 : ¬ (k : Int) < (Ts.length : Int) := by omega
      go_wp2
      go_ret
      exact ⟨rfl, hbel⟩
end WLaw
end Go.Proofs.YteddcihodfkliabGreatDoor

