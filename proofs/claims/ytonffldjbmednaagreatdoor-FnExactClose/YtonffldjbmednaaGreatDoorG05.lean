/- Several texts of one claim in one file: WLawI, WLawSz, MemHasS. -/
import Derived.Test.YtonffldjbmednaaGreatDoorG04
import Derived.Test.YtonffldjbmednaaGreatDoorG03
import Derived.Test.YtonffldjbmednaaGreatDoorG02
namespace Go.Proofs.YtonffldjbmednaaGreatDoor
open Go.RowKit
namespace WLaw
set_option maxRecDepth 100000 in
theorem ya1 (x : Pl.It) (left : Int) (hf0 : 0 ≤ left) (hf1 : left ≤ 1048576) (w : World) (hl : x.t.L.length ≤ maxLen) (hv : Mem.za7 w x.t.a x.t.L) (hok : ∀ n ∈ x.t.L, n.path.size ≤ maxLen ∧ n.data.size ≤ maxLen) :
  Calls Tryz.prog 126 #[.agg #[.int .i64 x.m, .slice x.t.a x.t.L.length x.t.cap], .int .i64 left] w fun e w' => (∃ r : Int, e = .returned (.int .i64 r) ∧ (r = -1 ∨ 0 ≤ r ∧ r ≤ 1048576 ∧ x.t.L.length ≤ 1048576 ∧ ∀ n ∈ x.t.L, n.path.size ≤ 1048576 ∧ n.data.size ≤ 1048576)) ∧ Below w.heap.size w w' := by
 have b0 : ∀ o, Below w.heap.size w (w.alloc o) := fun o => (Below.refl _ _).alloc (Nat.le_refl _) o
 have hz := hide (fun W (b : Below w.heap.size w W) => szTree_left x.t.a x.t.cap x.t.L left hf0 hf1 W hl (Mem.za8 hv b) hok)
 have HB := hide b0
 clear hv hok b0
 go_enter Tryz.func126, Tryz.ntmps126
 go_wp2_with fail
 refine (za hz _ (za HB _)).mono ?_
 rintro e w1 ⟨⟨r1, rfl, h1⟩, b1⟩
 have hb2 := (za HB _).trans (b1.mono (za HB _).size)
 clear b1 hz
 rcases h1 with rfl | ⟨h2, h3⟩
 ·go_wp2
  go_ret
  exact ⟨⟨-1, rfl, .inl rfl⟩, hb2⟩
 ·have h4 : ¬ r1 < 0 := by omega
  go_wp2
  go_ret
  exact ⟨⟨r1, rfl, .inr ⟨h2, h3⟩⟩, hb2⟩
set_option maxRecDepth 100000 in
set_option maxHeartbeats 800000 in
theorem zz0 (a : Option Addr) (cap : Nat) (Ts : List Pl.It) (w : World) (hl : Ts.length ≤ maxLen) (hv : Mem.zb0 w a Ts) (hok : ∀ t ∈ Ts, t.t.L.length ≤ maxLen ∧ ∀ n ∈ t.t.L, n.path.size ≤ maxLen ∧ n.data.size ≤ maxLen) :
  Calls Tryz.prog 101 #[.slice a Ts.length cap, .int .i64 1048576] w fun e w' => (∃ r : Int, e = .returned (.int .i64 r) ∧ (r = -1 ∨ 0 ≤ r ∧ r ≤ 1048576 ∧ Ts.length ≤ 1048576 ∧ ∀ t ∈ Ts, t.t.L.length ≤ 1048576 ∧ ∀ n ∈ t.t.L, n.path.size ≤ 1048576 ∧ n.data.size ≤ 1048576)) ∧ Below w.heap.size w w' := by
 have hl2 := hl
 unfold maxLen at hl2
 by_cases h0 : 1048576 < Ts.length
 ·have t0 : (1048576 : Int) - (Ts.length : Int) < 0 := by omega
  go_enter Tryz.func101, Tryz.ntmps101
  go_wp2
  go_ret
  exact ⟨⟨-1, rfl, .inl rfl⟩, Below.refl _ _⟩
 have t0 : ¬ (1048576 : Int) - (Ts.length : Int) < 0 := by omega
 have HV := hide hv
 have HO := hide hok
 clear hv hok
 go_enter Tryz.func101, Tryz.ntmps101
 go_wp2
 go_loopw [1, 5] (fun l i wr => ∃ (k : Nat) (r : Int), k ≤ Ts.length ∧ i = .int .i64 (k : Int) ∧ l = .int .i64 r ∧ 0 ≤ r ∧ r ≤ 1048576 ∧ Below w.heap.size w wr ∧ Hid (∀ (j : Nat) t, j < k → Ts[j]? = some t → t.t.L.length ≤ 1048576 ∧ ∀ n ∈ t.t.L, n.path.size ≤ 1048576 ∧ n.data.size ≤ 1048576)) (fun _ i _ => Ts.length - (intOf i).toNat)
 case atStart => exact ⟨0, _, Nat.zero_le _, rfl, rfl, by omega, by omega, Below.refl _ _, fun j n h => absurd h (by omega)⟩
 case round =>
  obtain ⟨k, r, hk, rfl, rfl, hr0, hr1, hbel, HA⟩ := hrel
  by_cases hlt : k < Ts.length
  ·obtain ⟨t, ht⟩ : ∃ t, Ts[k]? = some t := ⟨_, List.getElem?_eq_getElem hlt⟩
   obtain ⟨⟨b, o, rfl, hb, q0, q0'⟩, q1⟩ := (za HV) k t ht
   have c0 := (hbel.cell (p := ⟨b, _, none⟩) hb).trans q0
   have c1 := (hbel.cell (p := ⟨b, _, none⟩) hb).trans q0'
   have hz := hide (fun W (b : Below w.heap.size w W) => ya1 t r hr0 hr1 W (za HO t (List.mem_of_getElem? ht)).1 (Mem.za8 q1 b) (za HO t (List.mem_of_getElem? ht)).2)
   have HN := hide ht
   have u1 : (k : Int) < (Ts.length : Int) := by omega
   have u3 : (0 : Int) ≤ (k : Int) := by omega
   simp only [Pl.Tr.val] at c1
   clear q0 q0' ht q1
   go_wp2_with fail
   refine (za hz _ hbel).mono ?_
   rintro e w1 ⟨⟨r1, rfl, h1⟩, b1⟩
   have hb2 := hbel.trans (b1.mono hbel.size)
   clear b1 hbel hz
   rcases h1 with rfl | ⟨h2, h3, h5, h6⟩
   ·go_wp2
    go_ret
    exact ⟨⟨-1, rfl, .inl rfl⟩, hb2⟩
   ·have h4 : ¬ r1 < 0 := by omega
    have HA2 : Hid (∀ (j : Nat) m, j < k + 1 → Ts[j]? = some m → m.t.L.length ≤ 1048576 ∧ ∀ n ∈ m.t.L, n.path.size ≤ 1048576 ∧ n.data.size ≤ 1048576) := fun j m hj h' => by
     rcases Nat.lt_succ_iff_lt_or_eq.1 hj with h'' | rfl
     ·exact HA.out j m h'' h'
     ·rw [za HN] at h'; cases h'; exact ⟨h5, h6⟩
    clear h5 h6
    go_wp2
    go_roundw
    case rel => exact ⟨k + 1, r1, by omega, by go_num, rfl, h2, by omega, hb2, HA2⟩
    case measure => simp [intOf]; omega
  ·have u1 : ¬ (k : Int) < (Ts.length : Int) := by omega
   go_wp2
   go_ret
   exact ⟨⟨r, rfl, .inr ⟨hr0, hr1, by omega, fun n hn => by
    obtain ⟨j, hj⟩ := List.mem_iff_getElem?.1 hn
    exact HA.out j n (by have := (List.getElem?_eq_some_iff.1 hj).1; omega) hj⟩⟩, hbel⟩
end WLaw
end Go.Proofs.YtonffldjbmednaaGreatDoor

namespace Go.Proofs.YtonffldjbmednaaGreatDoor
open Go.RowKit
namespace zb
open WLaw
set_option maxRecDepth 100000 in
set_option maxHeartbeats 800000 in
theorem zz0 (a : Option Addr) (cap : Nat) (Ts : List Pl.It) (left : Int) (hf0 : 0 ≤ left) (hf1 : left ≤ 1048576) (w : World) (hl : Ts.length ≤ maxLen) (hv : Mem.zb0 w a Ts) (hok : ∀ x ∈ Ts, x.t.L.length ≤ maxLen ∧ ∀ n ∈ x.t.L, n.path.size ≤ maxLen ∧ n.data.size ≤ maxLen) :
  Calls Tryz.prog 101 #[.slice a Ts.length cap, .int .i64 left] w fun e w' => (∃ r : Int, e = .returned (.int .i64 r) ∧ (r = -1 ∨ 0 ≤ r ∧ r ≤ 1048576 ∧ Ts.length ≤ 1048576 ∧ ∀ x ∈ Ts, x.t.L.length ≤ 1048576 ∧ ∀ n ∈ x.t.L, n.path.size ≤ 1048576 ∧ n.data.size ≤ 1048576)) ∧ Below w.heap.size w w' := by
 have hl2 := hl
 unfold maxLen at hl2
 by_cases h0 : left < (Ts.length : Int)
 ·have t0 : left - (Ts.length : Int) < 0 := by omega
  go_enter Tryz.func101, Tryz.ntmps101
  go_wp2
  go_ret
  exact ⟨⟨-1, rfl, .inl rfl⟩, Below.refl _ _⟩
 have t0 : ¬ left - (Ts.length : Int) < 0 := by omega
 have HV := hide hv
 have HO := hide hok
 clear hv hok
 go_enter Tryz.func101, Tryz.ntmps101
 go_wp2
 go_loopw [1, 5] (fun l i wr => ∃ (k : Nat) (r : Int), k ≤ Ts.length ∧ i = .int .i64 (k : Int) ∧ l = .int .i64 r ∧ 0 ≤ r ∧ r ≤ 1048576 ∧ Below w.heap.size w wr ∧ Hid (∀ (j : Nat) x, j < k → Ts[j]? = some x → x.t.L.length ≤ 1048576 ∧ ∀ n ∈ x.t.L, n.path.size ≤ 1048576 ∧ n.data.size ≤ 1048576)) (fun _ i _ => Ts.length - (intOf i).toNat)
 case atStart => exact ⟨0, _, Nat.zero_le _, rfl, rfl, by omega, by omega, Below.refl _ _, fun j n h => absurd h (by omega)⟩
 case round =>
  obtain ⟨k, r, hk, rfl, rfl, hr0, hr1, hbel, HA⟩ := hrel
  by_cases hlt : k < Ts.length
  ·obtain ⟨t, ht⟩ : ∃ t, Ts[k]? = some t := ⟨_, List.getElem?_eq_getElem hlt⟩
   obtain ⟨⟨b, o, rfl, hb, q0, q1⟩, qq⟩ := (za HV) k t ht
   have c0 := (hbel.cell (p := ⟨b, _, none⟩) hb).trans q0
   have c1 := (hbel.cell (p := ⟨b, _, none⟩) hb).trans q1
   have hz := hide (fun W (bb : Below w.heap.size w W) => ya1 t r hr0 hr1 W (za HO t (List.mem_of_getElem? ht)).1 (Mem.za8 qq bb) (za HO t (List.mem_of_getElem? ht)).2)
   have HN := hide ht
   have u1 : (k : Int) < (Ts.length : Int) := by omega
   have u3 : (0 : Int) ≤ (k : Int) := by omega
   simp only [Pl.Tr.val] at c1
   clear ht q0 q1
   go_wp2_with fail
   refine (za hz _ hbel).mono ?_
   rintro e w1 ⟨⟨r1, rfl, h1⟩, b1⟩
   have hb2 := hbel.trans (b1.mono hbel.size)
   clear b1 hbel hz
   rcases h1 with rfl | ⟨h2, h3, h5⟩
   ·go_wp2
    go_ret
    exact ⟨⟨-1, rfl, .inl rfl⟩, hb2⟩
   ·have h4 : ¬ r1 < 0 := by omega
    have HA2 : Hid (∀ (j : Nat) x, j < k + 1 → Ts[j]? = some x → x.t.L.length ≤ 1048576 ∧ ∀ n ∈ x.t.L, n.path.size ≤ 1048576 ∧ n.data.size ≤ 1048576) := fun j m hj h' => by
     rcases Nat.lt_succ_iff_lt_or_eq.1 hj with h'' | rfl
     ·exact HA.out j m h'' h'
     ·rw [za HN] at h'; cases h'; exact h5
    clear h5
    go_wp2
    go_roundw
    case rel => exact ⟨k + 1, r1, by omega, by go_num, rfl, h2, by omega, hb2, HA2⟩
    case measure => simp [intOf]; omega
  ·have u1 : ¬ (k : Int) < (Ts.length : Int) := by omega
   go_wp2
   go_ret
   exact ⟨⟨r, rfl, .inr ⟨hr0, hr1, by omega, fun n hn => by
    obtain ⟨j, hj⟩ := List.mem_iff_getElem?.1 hn
    exact HA.out j n (by have := (List.getElem?_eq_some_iff.1 hj).1; omega) hj⟩⟩, hbel⟩
set_option maxRecDepth 100000 in
theorem yc4 (x : Pl.Ns) (left : Int) (hf0 : 0 ≤ left) (hf1 : left ≤ 1048576) (w : World) (hv : Mem.zb0 w x.a x.Is) (hok : x.Is.length ≤ maxLen ∧ ∀ t ∈ x.Is, t.t.L.length ≤ maxLen ∧ ∀ n ∈ t.t.L, n.path.size ≤ maxLen ∧ n.data.size ≤ maxLen) :
  Calls Tryz.prog 55 #[.agg #[.int .i64 x.d, .slice x.a x.Is.length x.cap], .int .i64 left] w fun e w' => (∃ r : Int, e = .returned (.int .i64 r) ∧ (r = -1 ∨ 0 ≤ r ∧ r ≤ 1048576 ∧ x.Is.length ≤ 1048576 ∧ ∀ t ∈ x.Is, t.t.L.length ≤ 1048576 ∧ ∀ n ∈ t.t.L, n.path.size ≤ 1048576 ∧ n.data.size ≤ 1048576)) ∧ Below w.heap.size w w' := by
 have b0 : ∀ o, Below w.heap.size w (w.alloc o) := fun o => (Below.refl _ _).alloc (Nat.le_refl _) o
 have hz := hide (fun W (b : Below w.heap.size w W) => zz0 x.a x.cap x.Is left hf0 hf1 W hok.1 (Mem.zc2 hv b) hok.2)
 have HB := hide b0
 clear hv hok b0
 go_enter Tryz.func55, Tryz.ntmps55
 go_wp2_with fail
 refine (za hz _ (za HB _)).mono ?_
 rintro e w1 ⟨⟨r1, rfl, h1⟩, b1⟩
 have hb2 := (za HB _).trans (b1.mono (za HB _).size)
 clear b1 hz
 rcases h1 with rfl | ⟨h2, h3⟩
 ·go_wp2
  go_ret
  exact ⟨⟨-1, rfl, .inl rfl⟩, hb2⟩
 ·have h4 : ¬ r1 < 0 := by omega
  go_wp2
  go_ret
  exact ⟨⟨r1, rfl, .inr ⟨h2, h3⟩⟩, hb2⟩
set_option maxRecDepth 100000 in
theorem szMount_any (x : Pl.Mn) (left : Int) (hf0 : 0 ≤ left) (hf1 : left ≤ 1048576) (w : World) (hok : x.p.size ≤ maxLen) :
  Calls Tryz.prog 56 #[.agg #[.string x.p, .int .i64 x.i, .bool x.z], .int .i64 left] w fun e w' => (∃ r : Int, e = .returned (.int .i64 r) ∧ (r = -1 ∨ 0 ≤ r ∧ r ≤ 1048576 ∧ x.p.size ≤ 1048576)) ∧ Below w.heap.size w w' := by
 have hl2 := hok
 unfold maxLen at hl2
 have b0 : ∀ o, Below w.heap.size w (w.alloc o) := fun o => (Below.refl _ _).alloc (Nat.le_refl _) o
 have HB := hide b0
 clear b0
 by_cases h0 : left < (x.p.size : Int)
 ·have t0 : left - (x.p.size : Int) < 0 := by omega
  go_enter Tryz.func56, Tryz.ntmps56
  go_wp2
  go_ret
  exact ⟨⟨-1, rfl, .inl rfl⟩, za HB _⟩
 ·have t0 : ¬ left - (x.p.size : Int) < 0 := by omega
  go_enter Tryz.func56, Tryz.ntmps56
  go_wp2
  go_ret
  exact ⟨⟨_, rfl, .inr ⟨by omega, by omega, by omega⟩⟩, za HB _⟩
set_option maxRecDepth 100000 in
theorem szHandle_any (x : Pl.Hn) (left : Int) (hf0 : 0 ≤ left) (hf1 : left ≤ 1048576) (w : World) (hok : x.p.size ≤ maxLen) :
  Calls Tryz.prog 57 #[.agg #[.int .i64 x.d, .int .i64 x.i, .string x.p], .int .i64 left] w fun e w' => (∃ r : Int, e = .returned (.int .i64 r) ∧ (r = -1 ∨ 0 ≤ r ∧ r ≤ 1048576 ∧ x.p.size ≤ 1048576)) ∧ Below w.heap.size w w' := by
 have hl2 := hok
 unfold maxLen at hl2
 have b0 : ∀ o, Below w.heap.size w (w.alloc o) := fun o => (Below.refl _ _).alloc (Nat.le_refl _) o
 have HB := hide b0
 clear b0
 by_cases h0 : left < (x.p.size : Int)
 ·have t0 : left - (x.p.size : Int) < 0 := by omega
  go_enter Tryz.func57, Tryz.ntmps57
  go_wp2
  go_ret
  exact ⟨⟨-1, rfl, .inl rfl⟩, za HB _⟩
 ·have t0 : ¬ left - (x.p.size : Int) < 0 := by omega
  go_enter Tryz.func57, Tryz.ntmps57
  go_wp2
  go_ret
  exact ⟨⟨_, rfl, .inr ⟨by omega, by omega, by omega⟩⟩, za HB _⟩
set_option maxRecDepth 100000 in
set_option maxHeartbeats 800000 in
theorem ya0 (a : Option Addr) (cap : Nat) (Ts : List Pl.Ns) (left : Int) (hf0 : 0 ≤ left) (hf1 : left ≤ 1048576) (w : World) (hl : Ts.length ≤ maxLen) (hv : Mem.ze4 w a Ts) (hok : ∀ x ∈ Ts, x.Is.length ≤ maxLen ∧ ∀ t ∈ x.Is, t.t.L.length ≤ maxLen ∧ ∀ n ∈ t.t.L, n.path.size ≤ maxLen ∧ n.data.size ≤ maxLen) :
  Calls Tryz.prog 22 #[.slice a Ts.length cap, .int .i64 left] w fun e w' => (∃ r : Int, e = .returned (.int .i64 r) ∧ (r = -1 ∨ 0 ≤ r ∧ r ≤ 1048576 ∧ Ts.length ≤ 1048576 ∧ ∀ x ∈ Ts, x.Is.length ≤ 1048576 ∧ ∀ t ∈ x.Is, t.t.L.length ≤ 1048576 ∧ ∀ n ∈ t.t.L, n.path.size ≤ 1048576 ∧ n.data.size ≤ 1048576)) ∧ Below w.heap.size w w' := by
 have hl2 := hl
 unfold maxLen at hl2
 by_cases h0 : left < (Ts.length : Int)
 ·have t0 : left - (Ts.length : Int) < 0 := by omega
  go_enter Tryz.func22, Tryz.ntmps22
  go_wp2
  go_ret
  exact ⟨⟨-1, rfl, .inl rfl⟩, Below.refl _ _⟩
 have t0 : ¬ left - (Ts.length : Int) < 0 := by omega
 have HV := hide hv
 have HO := hide hok
 clear hv hok
 go_enter Tryz.func22, Tryz.ntmps22
 go_wp2
 go_loopw [1, 5] (fun l i wr => ∃ (k : Nat) (r : Int), k ≤ Ts.length ∧ i = .int .i64 (k : Int) ∧ l = .int .i64 r ∧ 0 ≤ r ∧ r ≤ 1048576 ∧ Below w.heap.size w wr ∧ Hid (∀ (j : Nat) x, j < k → Ts[j]? = some x → x.Is.length ≤ 1048576 ∧ ∀ t ∈ x.Is, t.t.L.length ≤ 1048576 ∧ ∀ n ∈ t.t.L, n.path.size ≤ 1048576 ∧ n.data.size ≤ 1048576)) (fun _ i _ => Ts.length - (intOf i).toNat)
 case atStart => exact ⟨0, _, Nat.zero_le _, rfl, rfl, by omega, by omega, Below.refl _ _, fun j n h => absurd h (by omega)⟩
 case round =>
  obtain ⟨k, r, hk, rfl, rfl, hr0, hr1, hbel, HA⟩ := hrel
  by_cases hlt : k < Ts.length
  ·obtain ⟨t, ht⟩ : ∃ t, Ts[k]? = some t := ⟨_, List.getElem?_eq_getElem hlt⟩
   obtain ⟨⟨b, o, rfl, hb, q0, q1⟩, qq⟩ := (za HV) k t ht
   have c0 := (hbel.cell (p := ⟨b, _, none⟩) hb).trans q0
   have c1 := (hbel.cell (p := ⟨b, _, none⟩) hb).trans q1
   have hz := hide (fun W (bb : Below w.heap.size w W) => yc4 t r hr0 hr1 W (Mem.zc2 qq bb) (za HO t (List.mem_of_getElem? ht)))
   have HN := hide ht
   have u1 : (k : Int) < (Ts.length : Int) := by omega
   have u3 : (0 : Int) ≤ (k : Int) := by omega
   clear ht q0 q1
   go_wp2_with fail
   refine (za hz _ hbel).mono ?_
   rintro e w1 ⟨⟨r1, rfl, h1⟩, b1⟩
   have hb2 := hbel.trans (b1.mono hbel.size)
   clear b1 hbel hz
   rcases h1 with rfl | ⟨h2, h3, h5⟩
   ·go_wp2
    go_ret
    exact ⟨⟨-1, rfl, .inl rfl⟩, hb2⟩
   ·have h4 : ¬ r1 < 0 := by omega
    have HA2 : Hid (∀ (j : Nat) x, j < k + 1 → Ts[j]? = some x → x.Is.length ≤ 1048576 ∧ ∀ t ∈ x.Is, t.t.L.length ≤ 1048576 ∧ ∀ n ∈ t.t.L, n.path.size ≤ 1048576 ∧ n.data.size ≤ 1048576) := fun j m hj h' => by
     rcases Nat.lt_succ_iff_lt_or_eq.1 hj with h'' | rfl
     ·exact HA.out j m h'' h'
     ·rw [za HN] at h'; cases h'; exact h5
    clear h5
    go_wp2
    go_roundw
    case rel => exact ⟨k + 1, r1, by omega, by go_num, rfl, h2, by omega, hb2, HA2⟩
    case measure => simp [intOf]; omega
  ·have u1 : ¬ (k : Int) < (Ts.length : Int) := by omega
   go_wp2
   go_ret
   exact ⟨⟨r, rfl, .inr ⟨hr0, hr1, by omega, fun n hn => by
    obtain ⟨j, hj⟩ := List.mem_iff_getElem?.1 hn
    exact HA.out j n (by have := (List.getElem?_eq_some_iff.1 hj).1; omega) hj⟩⟩, hbel⟩
set_option maxRecDepth 100000 in
set_option maxHeartbeats 800000 in
theorem szMountS_any (a : Option Addr) (cap : Nat) (Ts : List Pl.Mn) (left : Int) (hf0 : 0 ≤ left) (hf1 : left ≤ 1048576) (w : World) (hl : Ts.length ≤ maxLen) (hv : Mem.zb2 w a Ts) (hok : ∀ x ∈ Ts, x.p.size ≤ maxLen) :
  Calls Tryz.prog 23 #[.slice a Ts.length cap, .int .i64 left] w fun e w' => (∃ r : Int, e = .returned (.int .i64 r) ∧ (r = -1 ∨ 0 ≤ r ∧ r ≤ 1048576 ∧ Ts.length ≤ 1048576 ∧ ∀ x ∈ Ts, x.p.size ≤ 1048576)) ∧ Below w.heap.size w w' := by
 have hl2 := hl
 unfold maxLen at hl2
 by_cases h0 : left < (Ts.length : Int)
 ·have t0 : left - (Ts.length : Int) < 0 := by omega
  go_enter Tryz.func23, Tryz.ntmps23
  go_wp2
  go_ret
  exact ⟨⟨-1, rfl, .inl rfl⟩, Below.refl _ _⟩
 have t0 : ¬ left - (Ts.length : Int) < 0 := by omega
 have HV := hide hv
 have HO := hide hok
 clear hv hok
 go_enter Tryz.func23, Tryz.ntmps23
 go_wp2
 go_loopw [1, 5] (fun l i wr => ∃ (k : Nat) (r : Int), k ≤ Ts.length ∧ i = .int .i64 (k : Int) ∧ l = .int .i64 r ∧ 0 ≤ r ∧ r ≤ 1048576 ∧ Below w.heap.size w wr ∧ Hid (∀ (j : Nat) x, j < k → Ts[j]? = some x → x.p.size ≤ 1048576)) (fun _ i _ => Ts.length - (intOf i).toNat)
 case atStart => exact ⟨0, _, Nat.zero_le _, rfl, rfl, by omega, by omega, Below.refl _ _, fun j n h => absurd h (by omega)⟩
 case round =>
  obtain ⟨k, r, hk, rfl, rfl, hr0, hr1, hbel, HA⟩ := hrel
  by_cases hlt : k < Ts.length
  ·obtain ⟨t, ht⟩ : ∃ t, Ts[k]? = some t := ⟨_, List.getElem?_eq_getElem hlt⟩
   obtain ⟨b, o, rfl, hb, q0, q1, q2⟩ := (za HV) k t ht
   have c0 := (hbel.cell (p := ⟨b, _, none⟩) hb).trans q0
   have c1 := (hbel.cell (p := ⟨b, _, none⟩) hb).trans q1
   have c2 := (hbel.cell (p := ⟨b, _, none⟩) hb).trans q2
   have hz := hide (fun W (bb : Below w.heap.size w W) => szMount_any t r hr0 hr1 W (za HO t (List.mem_of_getElem? ht)))
   have HN := hide ht
   have u1 : (k : Int) < (Ts.length : Int) := by omega
   have u3 : (0 : Int) ≤ (k : Int) := by omega
   clear ht q0 q1 q2
   go_wp2_with fail
   refine (za hz _ hbel).mono ?_
   rintro e w1 ⟨⟨r1, rfl, h1⟩, b1⟩
   have hb2 := hbel.trans (b1.mono hbel.size)
   clear b1 hbel hz
   rcases h1 with rfl | ⟨h2, h3, h5⟩
   ·go_wp2
    go_ret
    exact ⟨⟨-1, rfl, .inl rfl⟩, hb2⟩
   ·have h4 : ¬ r1 < 0 := by omega
    have HA2 : Hid (∀ (j : Nat) x, j < k + 1 → Ts[j]? = some x → x.p.size ≤ 1048576) := fun j m hj h' => by
     rcases Nat.lt_succ_iff_lt_or_eq.1 hj with h'' | rfl
     ·exact HA.out j m h'' h'
     ·rw [za HN] at h'; cases h'; exact h5
    clear h5
    go_wp2
    go_roundw
    case rel => exact ⟨k + 1, r1, by omega, by go_num, rfl, h2, by omega, hb2, HA2⟩
    case measure => simp [intOf]; omega
  ·have u1 : ¬ (k : Int) < (Ts.length : Int) := by omega
   go_wp2
   go_ret
   exact ⟨⟨r, rfl, .inr ⟨hr0, hr1, by omega, fun n hn => by
    obtain ⟨j, hj⟩ := List.mem_iff_getElem?.1 hn
    exact HA.out j n (by have := (List.getElem?_eq_some_iff.1 hj).1; omega) hj⟩⟩, hbel⟩
set_option maxRecDepth 100000 in
set_option maxHeartbeats 800000 in
theorem szHandleS_any (a : Option Addr) (cap : Nat) (Ts : List Pl.Hn) (left : Int) (hf0 : 0 ≤ left) (hf1 : left ≤ 1048576) (w : World) (hl : Ts.length ≤ maxLen) (hv : Mem.zb9 w a Ts) (hok : ∀ x ∈ Ts, x.p.size ≤ maxLen) :
  Calls Tryz.prog 24 #[.slice a Ts.length cap, .int .i64 left] w fun e w' => (∃ r : Int, e = .returned (.int .i64 r) ∧ (r = -1 ∨ 0 ≤ r ∧ r ≤ 1048576 ∧ Ts.length ≤ 1048576 ∧ ∀ x ∈ Ts, x.p.size ≤ 1048576)) ∧ Below w.heap.size w w' := by
 have hl2 := hl
 unfold maxLen at hl2
 by_cases h0 : left < (Ts.length : Int)
 ·have t0 : left - (Ts.length : Int) < 0 := by omega
  go_enter Tryz.func24, Tryz.ntmps24
  go_wp2
  go_ret
  exact ⟨⟨-1, rfl, .inl rfl⟩, Below.refl _ _⟩
 have t0 : ¬ left - (Ts.length : Int) < 0 := by omega
 have HV := hide hv
 have HO := hide hok
 clear hv hok
 go_enter Tryz.func24, Tryz.ntmps24
 go_wp2
 go_loopw [1, 5] (fun l i wr => ∃ (k : Nat) (r : Int), k ≤ Ts.length ∧ i = .int .i64 (k : Int) ∧ l = .int .i64 r ∧ 0 ≤ r ∧ r ≤ 1048576 ∧ Below w.heap.size w wr ∧ Hid (∀ (j : Nat) x, j < k → Ts[j]? = some x → x.p.size ≤ 1048576)) (fun _ i _ => Ts.length - (intOf i).toNat)
 case atStart => exact ⟨0, _, Nat.zero_le _, rfl, rfl, by omega, by omega, Below.refl _ _, fun j n h => absurd h (by omega)⟩
 case round =>
  obtain ⟨k, r, hk, rfl, rfl, hr0, hr1, hbel, HA⟩ := hrel
  by_cases hlt : k < Ts.length
  ·obtain ⟨t, ht⟩ : ∃ t, Ts[k]? = some t := ⟨_, List.getElem?_eq_getElem hlt⟩
   obtain ⟨b, o, rfl, hb, q0, q1, q2⟩ := (za HV) k t ht
   have c0 := (hbel.cell (p := ⟨b, _, none⟩) hb).trans q0
   have c1 := (hbel.cell (p := ⟨b, _, none⟩) hb).trans q1
   have c2 := (hbel.cell (p := ⟨b, _, none⟩) hb).trans q2
   have hz := hide (fun W (bb : Below w.heap.size w W) => szHandle_any t r hr0 hr1 W (za HO t (List.mem_of_getElem? ht)))
   have HN := hide ht
   have u1 : (k : Int) < (Ts.length : Int) := by omega
   have u3 : (0 : Int) ≤ (k : Int) := by omega
   clear ht q0 q1 q2
   go_wp2_with fail
   refine (za hz _ hbel).mono ?_
   rintro e w1 ⟨⟨r1, rfl, h1⟩, b1⟩
   have hb2 := hbel.trans (b1.mono hbel.size)
   clear b1 hbel hz
   rcases h1 with rfl | ⟨h2, h3, h5⟩
   ·go_wp2
    go_ret
    exact ⟨⟨-1, rfl, .inl rfl⟩, hb2⟩
   ·have h4 : ¬ r1 < 0 := by omega
    have HA2 : Hid (∀ (j : Nat) x, j < k + 1 → Ts[j]? = some x → x.p.size ≤ 1048576) := fun j m hj h' => by
     rcases Nat.lt_succ_iff_lt_or_eq.1 hj with h'' | rfl
     ·exact HA.out j m h'' h'
     ·rw [za HN] at h'; cases h'; exact h5
    clear h5
    go_wp2
    go_roundw
    case rel => exact ⟨k + 1, r1, by omega, by go_num, rfl, h2, by omega, hb2, HA2⟩
    case measure => simp [intOf]; omega
  ·have u1 : ¬ (k : Int) < (Ts.length : Int) := by omega
   go_wp2
   go_ret
   exact ⟨⟨r, rfl, .inr ⟨hr0, hr1, by omega, fun n hn => by
    obtain ⟨j, hj⟩ := List.mem_iff_getElem?.1 hn
    exact HA.out j n (by have := (List.getElem?_eq_some_iff.1 hj).1; omega) hj⟩⟩, hbel⟩
structure OkS (s : Pl.Sp) (K : Nat) : Prop where
 n : s.N.length ≤ K
 m : s.M.length ≤ K
 h : s.H.length ≤ K
 each : ∀ x ∈ s.N, x.Is.length ≤ K ∧ ∀ t ∈ x.Is, t.t.L.length ≤ K ∧ ∀ n ∈ t.t.L, n.path.size ≤ K ∧ n.data.size ≤ K
 mp : ∀ x ∈ s.M, x.p.size ≤ K
 hp : ∀ x ∈ s.H, x.p.size ≤ K
set_option maxRecDepth 100000 in
set_option maxHeartbeats 800000 in
theorem szSpace_any (s : Pl.Sp) (w : World) (hv : Mem.zc3 w s) (hok : OkS s maxLen) :
  Calls Tryz.prog 7 #[.agg s.cs, .int .i64 1048576] w fun e w' => (∃ r : Int, e = .returned (.int .i64 r) ∧ (r = -1 ∨ 0 ≤ r ∧ OkS s 1048576)) ∧ Below w.heap.size w w' := by
 unfold Pl.Sp.cs
 have b0 := (Below.refl w.heap.size w).alloc (o := .cells #[.slice s.ia s.N.length s.ic, .slice s.ma s.M.length s.mc, .slice s.ha s.H.length s.hc, .int .i64 s.next] 26) (Nat.le_refl _)
 have V0 := hide (Mem.Blk.new w #[.slice s.ia s.N.length s.ic, .slice s.ma s.M.length s.mc, .slice s.ha s.H.length s.hc, .int .i64 s.next] 26)
 have h1 := hide (fun W (b : Below w.heap.size w W) => ya0 s.ia s.ic s.N 1048576 (by omega) (by omega) W hok.n (Mem.zf1 hv.zf9 b) hok.each)
 have h2 := hide (fun W (b : Below w.heap.size w W) r h0 hr => szMountS_any s.ma s.mc s.M r h0 hr W hok.m (Mem.zc7 hv.zh b) hok.mp)
 have h3 := hide (fun W (b : Below w.heap.size w W) r h0 hr => szHandleS_any s.ha s.hc s.H r h0 hr W hok.h (Mem.zc6 hv.hands b) hok.hp)
 clear hv hok
 go_enter Tryz.func7, Tryz.ntmps7
 go_wp2_with fail
 refine (za h1 _ b0).mono ?_
 rintro e w1 ⟨⟨r1, rfl, g1⟩, b1⟩
 have bb1 := b0.trans (b1.mono b0.size)
 have V1 := hide ((za V0).call b1)
 clear h1 b1 b0 V0
 have v1 := (za V1).cell 1
 simp only [kGs] at v1
 rcases g1 with rfl | ⟨p1, p2, p3⟩
 ·go_wp2
  go_ret
  exact ⟨⟨-1, rfl, .inl rfl⟩, bb1⟩
 have y1 : ¬ r1 < 0 := by omega
 have P3 := hide p3
 clear p3
 go_wp2_with fail
 refine (za h2 _ bb1 r1 p1 p2).mono ?_
 rintro e w2 ⟨⟨r2, rfl, g2⟩, b2⟩
 have bb2 := bb1.trans (b2.mono bb1.size)
 have V2 := hide ((za V1).call b2)
 clear h2 b2 bb1 V1 v1
 have v2 := (za V2).cell 2
 simp only [kGs] at v2
 rcases g2 with rfl | ⟨q1, q2, q3⟩
 ·go_wp2
  go_ret
  exact ⟨⟨-1, rfl, .inl rfl⟩, bb2⟩
 have y2 : ¬ r2 < 0 := by omega
 have Q3 := hide q3
 clear q3
 go_wp2_with fail
 refine (za h3 _ bb2 r2 q1 q2).mono ?_
 rintro e w3 ⟨⟨r3, rfl, g3⟩, b3⟩
 have bb3 := bb2.trans (b3.mono bb2.size)
 clear h3 b3 bb2 V2 v2
 rcases g3 with rfl | ⟨s1, s2, s3⟩
 ·go_wp2
  go_ret
  exact ⟨⟨-1, rfl, .inl rfl⟩, bb3⟩
 have y3 : ¬ r3 < 0 := by omega
 have S3 := hide s3
 clear s3
 go_wp2
 go_ret
 exact ⟨⟨r3, rfl, .inr ⟨s1, ⟨(za P3).1, (za Q3).1, (za S3).1, (za P3).2, (za Q3).2, (za S3).2⟩⟩⟩, bb3⟩
end zb
end Go.Proofs.YtonffldjbmednaaGreatDoor

namespace Go.Proofs.YtonffldjbmednaaGreatDoor
open Go.RowKit
namespace zb
structure HasS (W : World) (s : Pl.Sp) (gi gm gh : Nat) (B : Nat → Nat) : Prop where
 ia : s.ia = some ⟨gi, 0, none⟩
 ib : ∃ cur, W.heap[gi]? = some (.cells cur 103 (0, 0)) ∧ cur.size = s.N.length * 2 ∧ ∀ (j : Nat) t, s.N[j]? = some t → cur[j * 2 + 1]? = some (.slice t.a t.Is.length t.cap)
 lo : gi < B 0
 band : ∀ (j : Nat) t, s.N[j]? = some t → ∃ g, t.a = some ⟨g, 0, none⟩ ∧ B j ≤ g ∧ WMkJ.Has W g (B (j + 1)) t.Is
 top : B s.N.length ≤ gm
 ma : s.ma = some ⟨gm, 0, none⟩
 mb : ∃ cur, W.heap[gm]? = some (.cells cur 50 (0, 0)) ∧ cur.size = s.M.length * 3
 mh : gm < gh
 ha : s.ha = some ⟨gh, 0, none⟩
 hb : ∃ cur, W.heap[gh]? = some (.cells cur 87 (0, 0)) ∧ cur.size = s.H.length * 3
theorem HasS.call {W W' : World} {s : Pl.Sp} {gi gm gh : Nat} {B : Nat → Nat} (h : HasS W s gi gm gh B) (b : Below W.heap.size W W') : HasS W' s gi gm gh B := by
 obtain ⟨h1, ⟨c1, h2, h3, h4⟩, h5, h6, h7, h8, ⟨c2, h9, h10⟩, h11, h12, ⟨c3, h13, h14⟩⟩ := h
 exact ⟨h1, ⟨c1, (b.block _ (Array.getElem?_eq_some_iff.1 h2).1).trans h2, h3, h4⟩, h5, fun j t hj => by
  obtain ⟨g, k1, k2, k3⟩ := h6 j t hj
  exact ⟨g, k1, k2, k3.call b⟩, h7, h8, ⟨c2, (b.block _ (Array.getElem?_eq_some_iff.1 h9).1).trans h9, h10⟩, h11, h12, ⟨c3, (b.block _ (Array.getElem?_eq_some_iff.1 h13).1).trans h13, h14⟩⟩
theorem HasS.mono {W : World} {s : Pl.Sp} {gi gm gh : Nat} {B : Nat → Nat} (h : HasS W s gi gm gh B) : ∀ k, k ≤ s.N.length → B 0 ≤ B k := by
 intro k
 induction k with
 | zero => intro _; exact Nat.le_refl _
 | succ k ih =>
  intro hk
  have hx : s.N[k]? = some (s.N[k]'(by omega)) := List.getElem?_eq_getElem (by omega)
  obtain ⟨g, -, h2, h3⟩ := h.band k _ hx
  have := ih (by omega)
  have := h3.gx
  omega
theorem HasS.rise {W : World} {s : Pl.Sp} {gi gm gh : Nat} {B : Nat → Nat} (h : HasS W s gi gm gh B) : ∀ k j, j ≤ k → k ≤ s.N.length → B j ≤ B k := by
 intro k
 induction k with
 | zero =>
  intro j hj _
  obtain rfl : j = 0 := by omega
  exact Nat.le_refl _
 | succ k ih =>
  intro j hj hk
  by_cases e : j = k + 1
  ·subst e; exact Nat.le_refl _
  have hx : s.N[k]? = some (s.N[k]'(by omega)) := List.getElem?_eq_getElem (by omega)
  obtain ⟨g, -, h2, h3⟩ := h.band k _ hx
  have := ih j (by omega) (by omega)
  have := h3.gx
  omega
end zb
end Go.Proofs.YtonffldjbmednaaGreatDoor

