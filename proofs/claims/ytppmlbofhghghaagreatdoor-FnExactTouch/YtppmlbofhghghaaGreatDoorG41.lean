/- Several texts of one claim in one file: WLawN, WLawR, WLawI, WLawT, WLawE, WLawJ, WLawY, MemBand. -/
import Derived.Test.YtppmlbofhghghaaGreatDoorG00
import Derived.Test.YtppmlbofhghghaaGreatDoorProg
import Derived.Test.YtppmlbofhghghaaGreatDoorG02
import Derived.Outline
import Derived.Deep.QuietTactic
import Derived.BigQuiet
import Derived.Deep.RegionHeld3
namespace Go.Proofs.YtppmlbofhghghaaGreatDoor
open Go.RowKit
namespace WLaw
set_option maxRecDepth 100000 in
theorem szNode_any (n : Pl.Nd) (left : Int) (w : World) (hp : n.path.size ≤ maxLen) (hd : n.data.size ≤ maxLen) (h0 : 0 ≤ left) (h1 : left ≤ 1048576) :
  Calls Tryz.prog 133 #[n.val, .int .i64 left] w fun e w' => (∃ r : Int, e = .returned (.int .i64 r) ∧ (r = -1 ∨ 0 ≤ r ∧ r + n.path.size + n.data.size = left)) ∧ Below w.heap.size w w' := by
 obtain ⟨p, k, d, t, m⟩ := n
 simp only at hp hd
 unfold maxLen at hp hd
 simp only [Pl.Nd.val]
 have hb : ∀ o, Below w.heap.size w (w.alloc o) := fun o => (Below.refl _ _).alloc (Nat.le_refl _) o
 have HB := hide hb
 clear hb
 by_cases h2 : left < (p.size : Int)
 ·have t2 : left - (p.size : Int) < 0 := by omega
  go_enter Tryz.func133, Tryz.ntmps133
  go_wp2
  go_ret
  exact ⟨⟨-1, rfl, .inl rfl⟩, za HB _⟩
 have t2 : ¬ left - (p.size : Int) < 0 := by omega
 by_cases h3 : left < (p.size : Int) + (d.size : Int)
 ·have t3 : left - (p.size : Int) - (d.size : Int) < 0 := by omega
  go_enter Tryz.func133, Tryz.ntmps133
  go_wp2
  go_ret
  exact ⟨⟨-1, rfl, .inl rfl⟩, za HB _⟩
 ·have t3 : ¬ left - (p.size : Int) - (d.size : Int) < 0 := by omega
  go_enter Tryz.func133, Tryz.ntmps133
  go_wp2
  go_ret
  exact ⟨⟨_, rfl, .inr ⟨by omega, by omega⟩⟩, za HB _⟩
set_option maxRecDepth 100000 in
theorem toNode_any (n : Pl.Nd) (w : World) :
  Calls Tryz.prog 137 #[n.val] w fun e w' => e = .returned n.val ∧ Below w.heap.size w w' := by
 obtain ⟨p, k, d, t, m⟩ := n
 simp only [Pl.Nd.val]
 go_enter Tryz.func137, Tryz.ntmps137
 go_wp2
 refine bodyPost_ret (v := .agg #[.string p, .int .i64 k, .string d, .int .i64 t, .int .i64 m]) (by simp [results, Tryz.results137, go_sem]) rfl ⟨rfl, ?_⟩
 exact (((Below.refl _ _).alloc (Nat.le_refl _) _).alloc (by simp) _).alloc (by simp; omega) _
end WLaw
end Go.Proofs.YtppmlbofhghghaaGreatDoor

namespace Go.Proofs.YtppmlbofhghghaaGreatDoor
open Go.RowKit
namespace WLaw
set_option maxRecDepth 100000 in
set_option maxHeartbeats 400000 in
theorem szNodeS_left (a : Option Addr) (cap : Nat) (L : List Pl.Nd) (left : Int) (hf0 : 0 ≤ left) (hf1 : left ≤ 1048576) (w : World) (hl : L.length ≤ maxLen) (hv : Mem.za1 w a L) (hok : ∀ n ∈ L, n.path.size ≤ maxLen ∧ n.data.size ≤ maxLen) :
  Calls Tryz.prog 100 #[.slice a L.length cap, .int .i64 left] w fun e w' => (∃ r : Int, e = .returned (.int .i64 r) ∧ (r = -1 ∨ 0 ≤ r ∧ r ≤ 1048576 ∧ L.length ≤ 1048576 ∧ ∀ n ∈ L, n.path.size ≤ 1048576 ∧ n.data.size ≤ 1048576)) ∧ Below w.heap.size w w' := by
 have hl2 := hl
 unfold maxLen at hl2
 by_cases h0 : left < (L.length : Int)
 ·have t0 : left - (L.length : Int) < 0 := by omega
  have t1 : IntKind.i64.wrap (left - (L.length : Int)) = left - (L.length : Int) := by rw [IntKind.wrap_i64]; omega
  go_enter Tryz.func100, Tryz.ntmps100
  go_wp2
  go_ret
  exact ⟨⟨-1, rfl, .inl rfl⟩, Below.refl _ _⟩
 have t0 : ¬ left - (L.length : Int) < 0 := by omega
 have t1 : IntKind.i64.wrap (left - (L.length : Int)) = left - (L.length : Int) := by rw [IntKind.wrap_i64]; omega
 have HV := hide hv
 have HO := hide hok
 clear hv hok
 go_enter Tryz.func100, Tryz.ntmps100
 go_wp2
 go_loopw [1, 5] (fun l i wr => ∃ (k : Nat) (r : Int), k ≤ L.length ∧ i = .int .i64 (k : Int) ∧ l = .int .i64 r ∧ 0 ≤ r ∧ r ≤ 1048576 ∧ Below w.heap.size w wr ∧ Hid (∀ (j : Nat) n, j < k → L[j]? = some n → n.path.size ≤ 1048576 ∧ n.data.size ≤ 1048576)) (fun _ i _ => L.length - (intOf i).toNat)
 case atStart => exact ⟨0, _, Nat.zero_le _, rfl, rfl, by omega, by omega, Below.refl _ _, fun j n h => absurd h (by omega)⟩
 case round =>
  obtain ⟨k, r, hk, rfl, rfl, hr0, hr1, hbel, HA⟩ := hrel
  by_cases hlt : k < L.length
  ·obtain ⟨n, hn⟩ : ∃ n, L[k]? = some n := ⟨_, List.getElem?_eq_getElem hlt⟩
   obtain ⟨b, o, rfl, hb, q0, q1, q2, q3, q4⟩ := (za HV) k n hn
   have c0 := (hbel.cell (p := ⟨b, _, none⟩) hb).trans q0
   have c1 := (hbel.cell (p := ⟨b, _, none⟩) hb).trans q1
   have c2 := (hbel.cell (p := ⟨b, _, none⟩) hb).trans q2
   have c3 := (hbel.cell (p := ⟨b, _, none⟩) hb).trans q3
   have c4 := (hbel.cell (p := ⟨b, _, none⟩) hb).trans q4
   have hz := hide (fun W => szNode_any n r W (za HO n (List.mem_of_getElem? hn)).1 (za HO n (List.mem_of_getElem? hn)).2 hr0 hr1)
   have HN := hide hn
   have u1 : (k : Int) < (L.length : Int) := by omega
   have u3 : (0 : Int) ≤ (k : Int) := by omega
   clear q0 q1 q2 q3 q4 hn
   simp only [Pl.Nd.val] at hz
   go_wp2_with fail
   refine (za hz _).mono ?_
   rintro e w1 ⟨⟨r1, rfl, h1⟩, b1⟩
   have hb2 := hbel.trans (b1.mono hbel.size)
   clear b1 hbel hz
   rcases h1 with rfl | ⟨h2, h3⟩
   ·go_wp2
    go_ret
    exact ⟨⟨-1, rfl, .inl rfl⟩, hb2⟩
   ·have h4 : ¬ r1 < 0 := by omega
    have HA2 : Hid (∀ (j : Nat) m, j < k + 1 → L[j]? = some m → m.path.size ≤ 1048576 ∧ m.data.size ≤ 1048576) := fun j m hj h' => by
     rcases Nat.lt_succ_iff_lt_or_eq.1 hj with h'' | rfl
     ·exact HA.out j m h'' h'
     ·rw [za HN] at h'; cases h'; omega
    go_wp2
    go_roundw
    case rel => exact ⟨k + 1, r1, by omega, by go_num, rfl, h2, by omega, hb2, HA2⟩
    case measure => simp [intOf]; omega
  ·have u1 : ¬ (k : Int) < (L.length : Int) := by omega
   go_wp2
   go_ret
   exact ⟨⟨r, rfl, .inr ⟨hr0, hr1, by omega, fun n hn => by
    obtain ⟨j, hj⟩ := List.mem_iff_getElem?.1 hn
    exact HA.out j n (by have := (List.getElem?_eq_some_iff.1 hj).1; omega) hj⟩⟩, hbel⟩
set_option maxRecDepth 100000 in
theorem szTree_left (a : Option Addr) (cap : Nat) (L : List Pl.Nd) (left : Int) (hf0 : 0 ≤ left) (hf1 : left ≤ 1048576) (w : World) (hl : L.length ≤ maxLen) (hv : Mem.za1 w a L) (hok : ∀ n ∈ L, n.path.size ≤ maxLen ∧ n.data.size ≤ maxLen) :
  Calls Tryz.prog 56 #[.agg #[.slice a L.length cap], .int .i64 left] w fun e w' => (∃ r : Int, e = .returned (.int .i64 r) ∧ (r = -1 ∨ 0 ≤ r ∧ r ≤ 1048576 ∧ L.length ≤ 1048576 ∧ ∀ n ∈ L, n.path.size ≤ 1048576 ∧ n.data.size ≤ 1048576)) ∧ Below w.heap.size w w' := by
 have b0 : ∀ o, Below w.heap.size w (w.alloc o) := fun o => (Below.refl _ _).alloc (Nat.le_refl _) o
 have hz := hide (fun W (b : Below w.heap.size w W) => szNodeS_left a cap L left hf0 hf1 W hl (Mem.za0 hv b) hok)
 have HB := hide b0
 clear hv hok b0
 go_enter Tryz.func56, Tryz.ntmps56
 go_wp2_with fail
 refine (za hz _ (za HB _)).mono ?_
 rintro e w1 ⟨⟨r1, rfl, h1⟩, b1⟩
 have hb2 := (za HB _).trans (b1.mono (za HB _).size)
 clear b1 hz
 rcases h1 with rfl | ⟨h2, h3⟩
 ·go_wp2
  go_ret
  exact ⟨⟨-1, rfl, .inl rfl⟩, hb2⟩
 ·have h4 : ¬ r1 < 0 := by omega
  go_wp2
  go_ret
  exact ⟨⟨r1, rfl, .inr ⟨h2, h3⟩⟩, hb2⟩
end WLaw
end Go.Proofs.YtppmlbofhghghaaGreatDoor

namespace Go.Proofs.YtppmlbofhghghaaGreatDoor
open Go.RowKit
namespace WLaw
set_option maxRecDepth 100000 in
theorem szItem_any (x : Pl.It) (left : Int) (hf0 : 0 ≤ left) (hf1 : left ≤ 1048576) (w : World) (hl : x.t.L.length ≤ maxLen) (hv : Mem.za1 w x.t.a x.t.L) (hok : ∀ n ∈ x.t.L, n.path.size ≤ maxLen ∧ n.data.size ≤ maxLen) :
  Calls Tryz.prog 25 #[.agg #[.int .i64 x.m, .slice x.t.a x.t.L.length x.t.cap], .int .i64 left] w fun e w' => (∃ r : Int, e = .returned (.int .i64 r) ∧ (r = -1 ∨ 0 ≤ r ∧ r ≤ 1048576 ∧ x.t.L.length ≤ 1048576 ∧ ∀ n ∈ x.t.L, n.path.size ≤ 1048576 ∧ n.data.size ≤ 1048576)) ∧ Below w.heap.size w w' := by
 have b0 : ∀ o, Below w.heap.size w (w.alloc o) := fun o => (Below.refl _ _).alloc (Nat.le_refl _) o
 have hz := hide (fun W (b : Below w.heap.size w W) => szTree_left x.t.a x.t.cap x.t.L left hf0 hf1 W hl (Mem.za0 hv b) hok)
 have HB := hide b0
 clear hv hok b0
 go_enter Tryz.func25, Tryz.ntmps25
 go_wp2_with fail
 refine (za hz _ (za HB _)).mono ?_
 rintro e w1 ⟨⟨r1, rfl, h1⟩, b1⟩
 have hb2 := (za HB _).trans (b1.mono (za HB _).size)
 clear b1 hz
 rcases h1 with rfl | ⟨h2, h3⟩
 ·go_wp2
  go_ret
  exact ⟨⟨-1, rfl, .inl rfl⟩, hb2⟩
 ·have h4 : ¬ r1 < 0 := by omega
  go_wp2
  go_ret
  exact ⟨⟨r1, rfl, .inr ⟨h2, h3⟩⟩, hb2⟩
set_option maxRecDepth 100000 in
set_option maxHeartbeats 800000 in
theorem zy3 (a : Option Addr) (cap : Nat) (Ts : List Pl.It) (w : World) (hl : Ts.length ≤ maxLen) (hv : Mem.zb3 w a Ts) (hok : ∀ t ∈ Ts, t.t.L.length ≤ maxLen ∧ ∀ n ∈ t.t.L, n.path.size ≤ maxLen ∧ n.data.size ≤ maxLen) :
  Calls Tryz.prog 8 #[.slice a Ts.length cap, .int .i64 1048576] w fun e w' => (∃ r : Int, e = .returned (.int .i64 r) ∧ (r = -1 ∨ 0 ≤ r ∧ r ≤ 1048576 ∧ Ts.length ≤ 1048576 ∧ ∀ t ∈ Ts, t.t.L.length ≤ 1048576 ∧ ∀ n ∈ t.t.L, n.path.size ≤ 1048576 ∧ n.data.size ≤ 1048576)) ∧ Below w.heap.size w w' := by
 have hl2 := hl
 unfold maxLen at hl2
 by_cases h0 : 1048576 < Ts.length
 ·have t0 : (1048576 : Int) - (Ts.length : Int) < 0 := by omega
  go_enter Tryz.func8, Tryz.ntmps8
  go_wp2
  go_ret
  exact ⟨⟨-1, rfl, .inl rfl⟩, Below.refl _ _⟩
 have t0 : ¬ (1048576 : Int) - (Ts.length : Int) < 0 := by omega
 have HV := hide hv
 have HO := hide hok
 clear hv hok
 go_enter Tryz.func8, Tryz.ntmps8
 go_wp2
 go_loopw [1, 5] (fun l i wr => ∃ (k : Nat) (r : Int), k ≤ Ts.length ∧ i = .int .i64 (k : Int) ∧ l = .int .i64 r ∧ 0 ≤ r ∧ r ≤ 1048576 ∧ Below w.heap.size w wr ∧ Hid (∀ (j : Nat) t, j < k → Ts[j]? = some t → t.t.L.length ≤ 1048576 ∧ ∀ n ∈ t.t.L, n.path.size ≤ 1048576 ∧ n.data.size ≤ 1048576)) (fun _ i _ => Ts.length - (intOf i).toNat)
 case atStart => exact ⟨0, _, Nat.zero_le _, rfl, rfl, by omega, by omega, Below.refl _ _, fun j n h => absurd h (by omega)⟩
 case round =>
  obtain ⟨k, r, hk, rfl, rfl, hr0, hr1, hbel, HA⟩ := hrel
  by_cases hlt : k < Ts.length
  ·obtain ⟨t, ht⟩ : ∃ t, Ts[k]? = some t := ⟨_, List.getElem?_eq_getElem hlt⟩
   obtain ⟨⟨b, o, rfl, hb, q0, q0'⟩, q1⟩ := (za HV) k t ht
   have c0 := (hbel.cell (p := ⟨b, _, none⟩) hb).trans q0
   have c1 := (hbel.cell (p := ⟨b, _, none⟩) hb).trans q0'
   have hz := hide (fun W (b : Below w.heap.size w W) => szItem_any t r hr0 hr1 W (za HO t (List.mem_of_getElem? ht)).1 (Mem.za0 q1 b) (za HO t (List.mem_of_getElem? ht)).2)
   have HN := hide ht
   have u1 : (k : Int) < (Ts.length : Int) := by omega
   have u3 : (0 : Int) ≤ (k : Int) := by omega
   simp only [Pl.Tr.val] at c1
   clear q0 q0' ht q1
   go_wp2_with fail
   refine (za hz _ hbel).mono ?_
   rintro e w1 ⟨⟨r1, rfl, h1⟩, b1⟩
   have hb2 := hbel.trans (b1.mono hbel.size)
   clear b1 hbel hz
   rcases h1 with rfl | ⟨h2, h3, h5, h6⟩
   ·go_wp2
    go_ret
    exact ⟨⟨-1, rfl, .inl rfl⟩, hb2⟩
   ·have h4 : ¬ r1 < 0 := by omega
    have HA2 : Hid (∀ (j : Nat) m, j < k + 1 → Ts[j]? = some m → m.t.L.length ≤ 1048576 ∧ ∀ n ∈ m.t.L, n.path.size ≤ 1048576 ∧ n.data.size ≤ 1048576) := fun j m hj h' => by
     rcases Nat.lt_succ_iff_lt_or_eq.1 hj with h'' | rfl
     ·exact HA.out j m h'' h'
     ·rw [za HN] at h'; cases h'; exact ⟨h5, h6⟩
    clear h5 h6
    go_wp2
    go_roundw
    case rel => exact ⟨k + 1, r1, by omega, by go_num, rfl, h2, by omega, hb2, HA2⟩
    case measure => simp [intOf]; omega
  ·have u1 : ¬ (k : Int) < (Ts.length : Int) := by omega
   go_wp2
   go_ret
   exact ⟨⟨r, rfl, .inr ⟨hr0, hr1, by omega, fun n hn => by
    obtain ⟨j, hj⟩ := List.mem_iff_getElem?.1 hn
    exact HA.out j n (by have := (List.getElem?_eq_some_iff.1 hj).1; omega) hj⟩⟩, hbel⟩
end WLaw
end Go.Proofs.YtppmlbofhghghaaGreatDoor

namespace Go.Proofs.YtppmlbofhghghaaGreatDoor
open Go.RowKit
namespace WLaw
def zeroCells (n : Nat) : Array Value := madeCells (Value.agg #[.string ⟨#[]⟩, .int .i64 0, .string ⟨#[]⟩, .int .i64 0, .int .i64 0]).cells (n * 5)
theorem zero_size (n : Nat) : (zeroCells n).size = n * 5 := size_madeCells _ _
theorem zn8 : (Tryz.prog.info? 47).map (fun i => (i.zero, i.size, i.bytes)) = some (some (.agg #[.string ⟨#[]⟩, .int .i64 0, .string ⟨#[]⟩, .int .i64 0, .int .i64 0]), 5, 56) := by kernel_rfl
theorem makeN (n : Nat) (hn : n ≤ 1048576) (w : World) : (Instr.makeSlice 48 (.int .i64 (n : Int)) (.int .i64 (n : Int))).run Tryz.prog w = .ok (.slice (some ⟨w.heap.size, 0, none⟩) n n) (w.alloc (.cells (zeroCells n) 47)) := by
 obtain ⟨i0, h0, h1, h2, h3⟩ := info_parts zn8
 have h := run_make (P := Tryz.prog) w 48 47 i0 (.agg #[.string ⟨#[]⟩, .int .i64 0, .string ⟨#[]⟩, .int .i64 0, .int .i64 0]) Tryz.underlying48 h0 h1 .i64 .i64 (n : Int) (n : Int) (by omega) (Int.le_refl _) (by rw [h3]; omega) (by omega)
 rw [h, h2]
 simp [zeroCells]
set_option maxRecDepth 100000 in
set_option maxHeartbeats 400000 in
theorem toNodeS_row (a : Option Addr) (cap : Nat) (L : List Pl.Nd) (w : World) (hl : L.length ≤ 1048576) (hv : Mem.za1 w a L) :
  Calls Tryz.prog 109 #[.slice a L.length cap] w fun e w' => e = .returned (.slice (some ⟨w.heap.size, 0, none⟩) L.length L.length) ∧ (∃ cur, w'.heap[w.heap.size]? = some (.cells cur 47 (0, 0)) ∧ cur.size = L.length * 5) ∧ Mem.za1 w' (some ⟨w.heap.size, 0, none⟩) L ∧ Below w.heap.size w w' := by
 have HV := hide hv
 have hmk := makeN L.length hl w
 clear hv
 go_enter Tryz.func109, Tryz.ntmps109
 go_wp2
 go_loopw [4] (fun i wr => ∃ (k : Nat) (cur : Array Value), k ≤ L.length ∧ i = .int .i64 (k : Int) ∧ Below w.heap.size w wr ∧ Hid (wr.heap[w.heap.size]? = some (.cells cur 47 (0, 0))) ∧ Hid (cur.size = L.length * 5) ∧ Hid (∀ (j : Nat) n, j < k → L[j]? = some n → cur[j * 5]? = some (.string n.path) ∧ cur[j * 5 + 1]? = some (.int .i64 n.kind) ∧ cur[j * 5 + 2]? = some (.string n.data) ∧ cur[j * 5 + 3]? = some (.int .i64 n.time) ∧ cur[j * 5 + 4]? = some (.int .i64 n.mark))) (fun i _ => L.length - (intOf i).toNat)
 case atStart => exact ⟨0, zeroCells L.length, Nat.zero_le _, rfl, (Below.refl _ _).alloc (Nat.le_refl _) _, hide (heap_alloc_new w _), hide (zero_size _), fun j n h => absurd h (by omega)⟩
 case round =>
  obtain ⟨k, cur, hk, rfl, hbel, HB, HZ, HA⟩ := hrel
  by_cases hlt : k < L.length
  ·obtain ⟨n, hn⟩ : ∃ n, L[k]? = some n := ⟨_, List.getElem?_eq_getElem hlt⟩
   obtain ⟨b, o, rfl, hb, q0, q1, q2, q3, q4⟩ := (za HV) k n hn
   have c0 := (hbel.cell (p := ⟨b, _, none⟩) hb).trans q0
   have c1 := (hbel.cell (p := ⟨b, _, none⟩) hb).trans q1
   have c2 := (hbel.cell (p := ⟨b, _, none⟩) hb).trans q2
   have c3 := (hbel.cell (p := ⟨b, _, none⟩) hb).trans q3
   have c4 := (hbel.cell (p := ⟨b, _, none⟩) hb).trans q4
   have hz := hide (fun W => toNode_any n W)
   have HN := hide hn
   have u1 : (k : Int) < (L.length : Int) := by omega
   have u3 : (0 : Int) ≤ (k : Int) := by omega
   clear q0 q1 q2 q3 q4 hn
   simp only [Pl.Nd.val] at hz
   go_wp2_with fail
   refine (za hz _).mono ?_
   rintro e w1 ⟨rfl, b1⟩
   have hN : w.heap.size < wr.heap.size := (Array.getElem?_eq_some_iff.1 (za HB)).1
   have HB1 := hide ((b1.block _ hN).trans (za HB))
   have hb2 := hide (hbel.trans (b1.mono hbel.size))
   have hcz := za HZ
   have s0 : ∃ x, w1.cell? ⟨w.heap.size, k * 5, none⟩ = some x := ⟨_, (cell_of_row w1 _ (k * 5) _ _ (0, 0) (za HB1)).trans (Array.getElem?_eq_getElem (by omega))⟩
   have s1 : ∃ x, w1.cell? ⟨w.heap.size, k * 5 + 1, none⟩ = some x := ⟨_, (cell_of_row w1 _ (k * 5 + 1) _ _ (0, 0) (za HB1)).trans (Array.getElem?_eq_getElem (by omega))⟩
   have s2 : ∃ x, w1.cell? ⟨w.heap.size, k * 5 + 2, none⟩ = some x := ⟨_, (cell_of_row w1 _ (k * 5 + 2) _ _ (0, 0) (za HB1)).trans (Array.getElem?_eq_getElem (by omega))⟩
   have s3 : ∃ x, w1.cell? ⟨w.heap.size, k * 5 + 3, none⟩ = some x := ⟨_, (cell_of_row w1 _ (k * 5 + 3) _ _ (0, 0) (za HB1)).trans (Array.getElem?_eq_getElem (by omega))⟩
   have s4 : ∃ x, w1.cell? ⟨w.heap.size, k * 5 + 4, none⟩ = some x := ⟨_, (cell_of_row w1 _ (k * 5 + 4) _ _ (0, 0) (za HB1)).trans (Array.getElem?_eq_getElem (by omega))⟩
   obtain ⟨x0, s0⟩ := s0
   obtain ⟨x1, s1⟩ := s1
   obtain ⟨x2, s2⟩ := s2
   obtain ⟨x3, s3⟩ := s3
   obtain ⟨x4, s4⟩ := s4
   have f0 : ∀ j, w1.frozen? ⟨w.heap.size, j, none⟩ = false := fun j => Mem.zg6 (za HB1)
   have HC := hide hcz
   clear b1 hbel hz hcz HB
   go_wp2
   go_roundw
   case rel =>
    refine ⟨k + 1, _, by omega, by go_num, ?_, hide (heap_setCell_same _ _ (k * 5 + 4) _ _ _ (heap_setCell_same _ _ (k * 5 + 3) _ _ _ (heap_setCell_same _ _ (k * 5 + 2) _ _ _ (heap_setCell_same _ _ (k * 5 + 1) _ _ _ (heap_setCell_same _ _ (k * 5) _ _ _ (za HB1)))))), ?_, ?_⟩
    ·exact (((((za hb2).setCell (Nat.le_refl _) _).setCell (Nat.le_refl _) _).setCell (Nat.le_refl _) _).setCell (Nat.le_refl _) _).setCell (Nat.le_refl _) _
    ·exact hide (by simpa using za HC)
    ·intro j m hj hm
     have hjl := (List.getElem?_eq_some_iff.1 hm).1
     rcases Nat.lt_succ_iff_lt_or_eq.1 hj with h'' | rfl
     ·obtain ⟨i0, i1, i2, i3, i4⟩ := HA.out j m h'' hm
      simp only [Array.getElem?_setIfInBounds]
      refine ⟨?_, ?_, ?_, ?_, ?_⟩ <;> (repeat (rw [if_neg (by omega)])) <;> assumption
     ·rw [za HN] at hm
      cases hm
      have hcz := za HC
      simp only [Array.getElem?_setIfInBounds, Array.size_setIfInBounds]
      refine ⟨?_, ?_, ?_, ?_, ?_⟩ <;> simp <;> omega
   case measure => simp [intOf]; omega
  ·have u1 : ¬ (k : Int) < (L.length : Int) := by omega
   go_wp2
   go_ret
   refine ⟨rfl, ⟨cur, za HB, za HZ⟩, fun j n hj => ?_, hbel⟩
   obtain ⟨i0, i1, i2, i3, i4⟩ := HA.out j n (by have := (List.getElem?_eq_some_iff.1 hj).1; omega) hj
   refine ⟨_, 0, rfl, (Array.getElem?_eq_some_iff.1 (za HB)).1, ?_, ?_, ?_, ?_, ?_⟩
   ·rw [cell_of_row wr _ _ _ _ (0, 0) (za HB), Nat.zero_add]; exact i0
   ·rw [cell_of_row wr _ _ _ _ (0, 0) (za HB), Nat.zero_add]; exact i1
   ·rw [cell_of_row wr _ _ _ _ (0, 0) (za HB), Nat.zero_add]; exact i2
   ·rw [cell_of_row wr _ _ _ _ (0, 0) (za HB), Nat.zero_add]; exact i3
   ·rw [cell_of_row wr _ _ _ _ (0, 0) (za HB), Nat.zero_add]; exact i4
end WLaw
end Go.Proofs.YtppmlbofhghghaaGreatDoor

namespace Go.Proofs.YtppmlbofhghghaaGreatDoor
open Go.RowKit
namespace WLaw
set_option maxRecDepth 100000 in
theorem yp8 (a : Option Addr) (cap : Nat) (L : List Pl.Nd) (w : World) (hl : L.length ≤ 1048576) (hv : Mem.za1 w a L) :
  Calls Tryz.prog 68 #[.agg #[.slice a L.length cap]] w fun e w' => ∃ g, e = .returned (.agg #[.slice (some ⟨g, 0, none⟩) L.length L.length]) ∧ w.heap.size ≤ g ∧ (∃ cur, w'.heap[g]? = some (.cells cur 47 (0, 0)) ∧ cur.size = L.length * 5) ∧ Mem.za1 w' (some ⟨g, 0, none⟩) L ∧ Below w.heap.size w w' := by
 have HZ := hide (fun W (b : Below w.heap.size w W) => toNodeS_row a cap L W hl (Mem.za0 hv b))
 clear hv
 have b0 : ∀ o1 o2 o3, Below w.heap.size w (((w.alloc o1).alloc o2).alloc o3) := fun o1 o2 o3 => (((Below.refl _ _).alloc (Nat.le_refl _) o1).alloc (by simp) o2).alloc (by simp; omega) o3
 have HB := hide b0
 clear b0
 go_enter Tryz.func68, Tryz.ntmps68
 go_wp2_with fail
 refine (za HZ _ (za HB _ _ _)).mono ?_
 rintro e w1 ⟨rfl, ⟨cur, hrow, hcur⟩, h1, b1⟩
 have hs : (((w.alloc (.cells #[.slice a L.length cap] 43)).alloc (.cells #[.slice none 0 0] 50)).alloc (.cells #[.slice none 0 0] 50)).heap.size = w.heap.size + 1 + 1 + 1 := by simp
 have r1 : w1.heap[w.heap.size + 1]? = some (.cells #[.slice none 0 0] 50 (0, 0)) := (b1.block _ (by rw [hs]; omega)).trans (Mem.new_mid w _ _ _)
 have r2 : w1.heap[w.heap.size + 1 + 1]? = some (.cells #[.slice none 0 0] 50 (0, 0)) := (b1.block _ (by rw [hs]; omega)).trans (Mem.zq0 w _ _ _)
 have c1 : w1.cell? ⟨w.heap.size + 1, 0, none⟩ = some (.slice none 0 0) := by rw [cell_of_row w1 _ 0 _ _ (0, 0) r1]; rfl
 have c2 : w1.cell? ⟨w.heap.size + 1 + 1, 0, none⟩ = some (.slice none 0 0) := by rw [cell_of_row w1 _ 0 _ _ (0, 0) r2]; rfl
 have f1 : w1.frozen? ⟨w.heap.size + 1, 0, none⟩ = false := Mem.zg6 r1
 have f2 : w1.frozen? ⟨w.heap.size + 1 + 1, 0, none⟩ = false := Mem.zg6 r2
 have bb := hide ((za HB _ _ _).trans (b1.mono (za HB _ _ _).size))
 have H1 := hide h1
 have HR := hide hrow
 have HCU := hide hcur
 have HSZ := hide hs
 generalize (((w.alloc (.cells #[.slice a L.length cap] 43)).alloc (.cells #[.slice none 0 0] 50)).alloc (.cells #[.slice none 0 0] 50)).heap.size = g at H1 HSZ HR ⊢
 clear HZ b1 h1 hs r1 r2 hrow hcur
 go_wp2
 refine bodyPost_ret (v := .agg #[.slice (some ⟨g, 0, none⟩) L.length L.length]) (by simp [results, Tryz.results68, go_sem, c1]) rfl ⟨g, rfl, by have := za HSZ; omega, ⟨cur, ?_, za HCU⟩, ?_, ?_⟩
 ·have hg := za HSZ
  exact (heap_setCell_other _ _ _ _ (by show g ≠ w.heap.size + 1; omega)).trans ((heap_setCell_other _ _ _ _ (by show g ≠ w.heap.size + 1 + 1; omega)).trans (za HR))
 ·intro i n hi
  obtain ⟨b, o, e1, h2, q0, q1, q2, q3, q4⟩ := za H1 i n hi
  cases e1
  have hg := za HSZ
  have hc : ∀ j, ((w1.setCell ⟨w.heap.size + 1 + 1, 0, none⟩ (.slice (some ⟨g, 0, none⟩) L.length L.length)).setCell ⟨w.heap.size + 1, 0, none⟩ (.slice (some ⟨g, 0, none⟩) L.length L.length)).cell? ⟨g, j, none⟩ = w1.cell? ⟨g, j, none⟩ := fun j => by
   rw [World.cell?_setCell_far _ _ _ _ (by show w.heap.size + 1 ≠ g; omega), World.cell?_setCell_far _ _ _ _ (by show w.heap.size + 1 + 1 ≠ g; omega)]
  refine ⟨g, 0, rfl, by simpa [World.setCell] using h2, ?_, ?_, ?_, ?_, ?_⟩
  ·rw [hc]; exact q0
  ·rw [hc]; exact q1
  ·rw [hc]; exact q2
  ·rw [hc]; exact q3
  ·rw [hc]; exact q4
 ·exact ((za bb).setCell (by show w.heap.size ≤ w.heap.size + 1 + 1; omega) _).setCell (by show w.heap.size ≤ w.heap.size + 1; omega) _
set_option maxRecDepth 100000 in
theorem eqNode_any (n : Pl.Nd) (w : World) :
  Calls Tryz.prog 151 #[n.val, n.val] w fun e w' => e = .returned (.bool true) ∧ Below w.heap.size w w' := by
 obtain ⟨p, k, d, t, m⟩ := n
 simp only [Pl.Nd.val]
 go_enter Tryz.func151, Tryz.ntmps151
 go_wp2
 go_ret
 exact ⟨rfl, ((Below.refl _ _).alloc (Nat.le_refl _) _).alloc (by simp) _⟩
set_option maxRecDepth 100000 in
set_option maxHeartbeats 400000 in
theorem eqNodeS_any (a b : Option Addr) (c1 c2 : Nat) (L : List Pl.Nd) (w : World) (hl : L.length ≤ 1048576) (hv : Mem.za1 w a L) (hu : Mem.za1 w b L) :
  Calls Tryz.prog 126 #[.slice a L.length c1, .slice b L.length c2] w fun e w' => e = .returned (.bool true) ∧ Below w.heap.size w w' := by
 have HV := hide hv
 have HU := hide hu
 clear hv hu
 go_enter Tryz.func126, Tryz.ntmps126
 go_wp2
 go_loopw [5] (fun i wr => ∃ k : Nat, k ≤ L.length ∧ i = .int .i64 (k : Int) ∧ Below w.heap.size w wr) (fun i _ => L.length - (intOf i).toNat)
 case atStart => exact ⟨0, Nat.zero_le _, rfl, Below.refl _ _⟩
 case round =>
  obtain ⟨k, hk, rfl, hbel⟩ := hrel
  by_cases hlt : k < L.length
  ·obtain ⟨n, hn⟩ : ∃ n, L[k]? = some n := ⟨_, List.getElem?_eq_getElem hlt⟩
   obtain ⟨g, o, rfl, hg, q0, q1, q2, q3, q4⟩ := (za HV) k n hn
   obtain ⟨g2, o2, rfl, hg2, p0, p1, p2, p3, p4⟩ := (za HU) k n hn
   have c0 := (hbel.cell (p := ⟨g, _, none⟩) hg).trans q0
   have c1 := (hbel.cell (p := ⟨g, _, none⟩) hg).trans q1
   have c2 := (hbel.cell (p := ⟨g, _, none⟩) hg).trans q2
   have c3 := (hbel.cell (p := ⟨g, _, none⟩) hg).trans q3
   have c4 := (hbel.cell (p := ⟨g, _, none⟩) hg).trans q4
   have d0 := (hbel.cell (p := ⟨g2, _, none⟩) hg2).trans p0
   have d1 := (hbel.cell (p := ⟨g2, _, none⟩) hg2).trans p1
   have d2 := (hbel.cell (p := ⟨g2, _, none⟩) hg2).trans p2
   have d3 := (hbel.cell (p := ⟨g2, _, none⟩) hg2).trans p3
   have d4 := (hbel.cell (p := ⟨g2, _, none⟩) hg2).trans p4
   have hz := hide (fun W => eqNode_any n W)
   have MK : Hid (∀ W', Below w.heap.size w W' → (Below w.heap.size w W' ∧ W'.cell? ⟨g, o + k * 5, none⟩ = some (.string n.path) ∧ W'.cell? ⟨g, o + k * 5 + 1, none⟩ = some (.int .i64 n.kind) ∧ W'.cell? ⟨g, o + k * 5 + 2, none⟩ = some (.string n.data) ∧ W'.cell? ⟨g, o + k * 5 + 3, none⟩ = some (.int .i64 n.time) ∧ W'.cell? ⟨g, o + k * 5 + 4, none⟩ = some (.int .i64 n.mark) ∧ W'.cell? ⟨g2, o2 + k * 5, none⟩ = some (.string n.path) ∧ W'.cell? ⟨g2, o2 + k * 5 + 1, none⟩ = some (.int .i64 n.kind) ∧ W'.cell? ⟨g2, o2 + k * 5 + 2, none⟩ = some (.string n.data) ∧ W'.cell? ⟨g2, o2 + k * 5 + 3, none⟩ = some (.int .i64 n.time) ∧ W'.cell? ⟨g2, o2 + k * 5 + 4, none⟩ = some (.int .i64 n.mark))) := fun W' hb => ⟨hb, (hb.cell (p := ⟨g, _, none⟩) hg).trans q0, (hb.cell (p := ⟨g, _, none⟩) hg).trans q1, (hb.cell (p := ⟨g, _, none⟩) hg).trans q2, (hb.cell (p := ⟨g, _, none⟩) hg).trans q3, (hb.cell (p := ⟨g, _, none⟩) hg).trans q4, (hb.cell (p := ⟨g2, _, none⟩) hg2).trans p0, (hb.cell (p := ⟨g2, _, none⟩) hg2).trans p1, (hb.cell (p := ⟨g2, _, none⟩) hg2).trans p2, (hb.cell (p := ⟨g2, _, none⟩) hg2).trans p3, (hb.cell (p := ⟨g2, _, none⟩) hg2).trans p4⟩
   have u1 : (k : Int) < (L.length : Int) := by omega
   have u3 : (0 : Int) ≤ (k : Int) := by omega
   have hbd : Below w.heap.size w wr.drew := ⟨hbel.os, hbel.tape, hbel.output, hbel.size, hbel.block⟩
   clear q0 q1 q2 q3 q4 p0 p1 p2 p3 p4 hn
   simp only [Pl.Nd.val] at hz
   go_wp2_with fail
   go_region_held3 (fun W' => Below w.heap.size w W' ∧ W'.cell? ⟨g, o + k * 5, none⟩ = some (.string n.path) ∧ W'.cell? ⟨g, o + k * 5 + 1, none⟩ = some (.int .i64 n.kind) ∧ W'.cell? ⟨g, o + k * 5 + 2, none⟩ = some (.string n.data) ∧ W'.cell? ⟨g, o + k * 5 + 3, none⟩ = some (.int .i64 n.time) ∧ W'.cell? ⟨g, o + k * 5 + 4, none⟩ = some (.int .i64 n.mark) ∧ W'.cell? ⟨g2, o2 + k * 5, none⟩ = some (.string n.path) ∧ W'.cell? ⟨g2, o2 + k * 5 + 1, none⟩ = some (.int .i64 n.kind) ∧ W'.cell? ⟨g2, o2 + k * 5 + 2, none⟩ = some (.string n.data) ∧ W'.cell? ⟨g2, o2 + k * 5 + 3, none⟩ = some (.int .i64 n.time) ∧ W'.cell? ⟨g2, o2 + k * 5 + 4, none⟩ = some (.int .i64 n.mark)) (first | exact za MK _ hbd | exact za MK _ (hbd.trans (bX.mono hbd.size))) (first | (go_at_call 151; refine (za hz _).mono ?_; rintro e wX ⟨rfl, bX⟩))
   have hb2 := hbd.trans (bX.mono hbd.size)
   clear hbel hbd bX MK
   go_wp2
   go_roundw
   case rel => exact ⟨k + 1, by omega, by go_num, hb2⟩
   case measure => simp [intOf]; omega
  ·have u1 : ¬ (k : Int) < (L.length : Int) := by omega
   go_wp2
   go_ret
   exact ⟨rfl, hbel⟩
set_option maxRecDepth 100000 in
theorem eqTree_any (a b : Option Addr) (c1 c2 : Nat) (L : List Pl.Nd) (w : World) (hl : L.length ≤ 1048576) (hv : Mem.za1 w a L) (hu : Mem.za1 w b L) :
  Calls Tryz.prog 85 #[.agg #[.slice a L.length c1], .agg #[.slice b L.length c2]] w fun e w' => e = .returned (.bool true) ∧ Below w.heap.size w w' := by
 have b0 : ∀ o1 o2, Below w.heap.size w ((w.alloc o1).alloc o2) := fun o1 o2 => ((Below.refl _ _).alloc (Nat.le_refl _) o1).alloc (by simp) o2
 have HB := hide b0
 have HZ := hide (fun W (b' : Below w.heap.size w W) => eqNodeS_any a b c1 c2 L W hl (Mem.za0 hv b') (Mem.za0 hu b'))
 clear hv hu b0
 go_enter Tryz.func85, Tryz.ntmps85
 go_wp2_with fail
 refine (za HZ _ (za HB _ _)).mono ?_
 rintro e w1 ⟨rfl, b1⟩
 have bb := (za HB _ _).trans (b1.mono (za HB _ _).size)
 clear HZ b1
 go_wp2
 go_ret
 exact ⟨rfl, bb⟩
end WLaw
end Go.Proofs.YtppmlbofhghghaaGreatDoor

namespace Go.Proofs.YtppmlbofhghghaaGreatDoor
open Go.RowKit
namespace WLaw
set_option linter.unusedSimpArgs false in
set_option maxRecDepth 100000 in
theorem yh8 (x : Pl.It) (w : World) (hl : x.t.L.length ≤ 1048576) (hv : Mem.za1 w x.t.a x.t.L) :
  Calls Tryz.prog 33 #[.agg #[.int .i64 x.m, .slice x.t.a x.t.L.length x.t.cap]] w fun e w' => ∃ g, e = .returned (.agg #[.int .i64 x.m, .slice (some ⟨g, 0, none⟩) x.t.L.length x.t.L.length]) ∧ w.heap.size ≤ g ∧ Mem.za1 w' (some ⟨g, 0, none⟩) x.t.L ∧ Below w.heap.size w w' := by
 obtain ⟨m, a, cap, L⟩ := x
 simp only at hl hv ⊢
 have b0 : Below w.heap.size w (((w.alloc (.cells #[.int .i64 m, .slice a L.length cap] 45)).alloc (.cells #[.int .i64 0, .slice none 0 0] 61)).alloc (.cells #[.int .i64 m, .slice none 0 0] 61)) := (((Below.refl _ _).alloc (Nat.le_refl _) _).alloc (by simp) _).alloc (by simp; omega) _
 have hz := hide (yp8 a cap L _ hl (Mem.za0 hv b0))
 have hs : (((w.alloc (.cells #[.int .i64 m, .slice a L.length cap] 45)).alloc (.cells #[.int .i64 0, .slice none 0 0] 61)).alloc (.cells #[.int .i64 m, .slice none 0 0] 61)).heap.size = w.heap.size + 1 + 1 + 1 := by simp
 have r1 : Mem.Blk (((w.alloc (.cells #[.int .i64 m, .slice a L.length cap] 45)).alloc (.cells #[.int .i64 0, .slice none 0 0] 61)).alloc (.cells #[.int .i64 m, .slice none 0 0] 61)) (w.heap.size + 1) #[.int .i64 0, .slice none 0 0] 61 := Mem.new_mid w _ _ _
 have r2 : Mem.Blk (((w.alloc (.cells #[.int .i64 m, .slice a L.length cap] 45)).alloc (.cells #[.int .i64 0, .slice none 0 0] 61)).alloc (.cells #[.int .i64 m, .slice none 0 0] 61)) (w.heap.size + 1 + 1) #[.int .i64 m, .slice none 0 0] 61 := Mem.zq0 w _ _ _
 have HB0 := hide b0
 clear hv b0
 go_enter Tryz.func33, Tryz.ntmps33
 go_wp2_with fail
 generalize (((w.alloc (.cells #[.int .i64 m, .slice a L.length cap] 45)).alloc (.cells #[.int .i64 0, .slice none 0 0] 61)).alloc (.cells #[.int .i64 m, .slice none 0 0] 61)) = w3 at hz hs r1 r2 HB0 ⊢
 refine (za hz).mono ?_
 rintro e w1 ⟨g, rfl, hg, -, hn, b1⟩
 have R1 := r1.call b1
 have R2 := r2.call b1
 have c10 := R1.cell 0
 have c11 := R1.cell 1
 have c20 := R2.cell 0
 have c21 := R2.cell 1
 have f10 := R1.fr 0
 have f11 := R1.fr 1
 have f20 := R2.fr 0
 have f21 := R2.fr 1
 simp only [kA0, kA1, kA2] at c10 c11 c20 c21
 have bb := hide ((za HB0).trans (b1.mono (za HB0).size))
 have HG : Hid (w.heap.size + 1 + 1 + 1 ≤ g) := hide (by omega)
 have HN := hide hn
 clear hz b1 hn hs r1 r2 R1 R2 HB0 hg
 go_wp2
 have hg := za HG
 refine bodyPost_ret (v := .agg #[.int .i64 m, .slice (some ⟨g, 0, none⟩) L.length L.length]) (by simp [results, Tryz.results33, go_sem, c10, c11]) rfl ⟨g, rfl, by omega, ?_, ?_⟩
 ·exact Mem.zg5 (Mem.zg5 (Mem.zg5 (za HN) _ _ (by show w.heap.size + 1 + 1 ≠ g; omega)) _ _ (by show w.heap.size + 1 ≠ g; omega)) _ _ (by show w.heap.size + 1 ≠ g; omega)
 ·exact (((za bb).setCell (by show w.heap.size ≤ w.heap.size + 1 + 1; omega) _).setCell (by show w.heap.size ≤ w.heap.size + 1; omega) _).setCell (by show w.heap.size ≤ w.heap.size + 1; omega) _
def zz4 (n : Nat) : Array Value := madeCells (Value.agg #[.int .i64 0, .slice none 0 0]).cells (n * 2)
theorem yg6 (n : Nat) : (zz4 n).size = n * 2 := size_madeCells _ _
theorem infoI : (Tryz.prog.info? 61).map (fun i => (i.zero, i.size, i.bytes)) = some (some (.agg #[.int .i64 0, .slice none 0 0]), 2, 32) := by kernel_rfl
theorem makeI (n : Nat) (hn : n ≤ 1048576) (w : World) : (Instr.makeSlice 24 (.int .i64 (n : Int)) (.int .i64 (n : Int))).run Tryz.prog w = .ok (.slice (some ⟨w.heap.size, 0, none⟩) n n) (w.alloc (.cells (zz4 n) 61)) := by
 obtain ⟨i0, h0, h1, h2, h3⟩ := info_parts infoI
 have h := run_make (P := Tryz.prog) w 24 61 i0 (.agg #[.int .i64 0, .slice none 0 0]) Tryz.underlying24 h0 h1 .i64 .i64 (n : Int) (n : Int) (by omega) (Int.le_refl _) (by rw [h3]; omega) (by omega)
 rw [h, h2]
 simp [zz4]
structure CopI (w wr : World) (Ts D : List Pl.It) (cur : Array Value) : Prop where
 blk : wr.heap[w.heap.size]? = some (.cells cur 61 (0, 0))
 size : cur.size = Ts.length * 2
 same : D.map Pl.It.r = (Ts.take D.length).map Pl.It.r
 each : ∀ (j : Nat) t, D[j]? = some t → cur[j * 2]? = some (.int .i64 t.m) ∧ cur[j * 2 + 1]? = some t.t.val ∧ ∃ g, t.t.a = some ⟨g, 0, none⟩ ∧ w.heap.size < g ∧ Mem.za1 wr t.t.a t.t.L
theorem CopI.call {w wr W : World} {Ts D : List Pl.It} {cur : Array Value} (h : CopI w wr Ts D cur) (b : Below wr.heap.size wr W) : CopI w W Ts D cur :=
 ⟨(b.block _ (Array.getElem?_eq_some_iff.1 h.blk).1).trans h.blk, h.size, h.same, fun j t hj => ⟨(h.each j t hj).1, (h.each j t hj).2.1, by
  obtain ⟨g, h1, h2, h3⟩ := (h.each j t hj).2.2
  exact ⟨g, h1, h2, Mem.za0 h3 b⟩⟩⟩
theorem CopI.put {w wr : World} {Ts D : List Pl.It} {cur : Array Value} (h : CopI w wr Ts D cur) (t : Pl.It) (g : Nat) (hk : Ts[D.length]? = some t) (hg : w.heap.size < g) (hn : Mem.za1 wr (some ⟨g, 0, none⟩) t.t.L) :
  CopI w ((wr.setCell ⟨w.heap.size, D.length * 2, none⟩ (.int .i64 t.m)).setCell ⟨w.heap.size, D.length * 2 + 1, none⟩ (.slice (some ⟨g, 0, none⟩) t.t.L.length t.t.L.length)) Ts (D ++ [⟨t.m, some ⟨g, 0, none⟩, t.t.L.length, t.t.L⟩]) ((cur.setIfInBounds (D.length * 2) (.int .i64 t.m)).setIfInBounds (D.length * 2 + 1) (.slice (some ⟨g, 0, none⟩) t.t.L.length t.t.L.length)) := by
 have hlt := (List.getElem?_eq_some_iff.1 hk).1
 have hsz := h.size
 refine ⟨heap_setCell_same _ _ _ _ _ _ (heap_setCell_same _ _ _ _ _ _ h.blk), by simpa using h.size, ?_, fun j m hj => ?_⟩
 ·rw [List.length_append, List.length_singleton, List.take_add_one, hk, List.map_append, List.map_append, h.same]
  rfl
 ·by_cases e : j < D.length
  ·rw [List.getElem?_append_left e] at hj
   obtain ⟨h1, h1', g', h2, h3, h4⟩ := h.each j m hj
   refine ⟨by rw [Array.getElem?_setIfInBounds, if_neg (by omega), Array.getElem?_setIfInBounds, if_neg (by omega)]; exact h1, by rw [Array.getElem?_setIfInBounds, if_neg (by omega), Array.getElem?_setIfInBounds, if_neg (by omega)]; exact h1', g', h2, h3, ?_⟩
   rw [h2] at h4 ⊢
   exact Mem.zg5 (Mem.zg5 h4 _ _ (by show w.heap.size ≠ g'; omega)) _ _ (by show w.heap.size ≠ g'; omega)
  ·rw [List.getElem?_append_right (by omega)] at hj
   have hj0 : j = D.length := by
    have := (List.getElem?_eq_some_iff.1 hj).1
    simp at this; omega
   subst hj0
   simp at hj
   subst hj
   refine ⟨?_, ?_, g, rfl, hg, Mem.zg5 (Mem.zg5 hn _ _ (by show w.heap.size ≠ g; omega)) _ _ (by show w.heap.size ≠ g; omega)⟩
   ·rw [Array.getElem?_setIfInBounds, if_neg (by omega), Array.getElem?_setIfInBounds, if_pos rfl, if_pos (by omega)]
   ·rw [Array.getElem?_setIfInBounds, if_pos rfl, if_pos (by rw [Array.size_setIfInBounds]; omega)]
    rfl
theorem CopI.items {w wr : World} {Ts D : List Pl.It} {cur : Array Value} (h : CopI w wr Ts D cur) : Mem.zb3 wr (some ⟨w.heap.size, 0, none⟩) D := fun i t hi => by
 obtain ⟨h1, h1', g, h2, h3, h4⟩ := h.each i t hi
 refine ⟨⟨_, 0, rfl, (Array.getElem?_eq_some_iff.1 h.blk).1, ?_, ?_⟩, h4⟩
 ·rw [cell_of_row wr _ _ _ _ (0, 0) h.blk, Nat.zero_add]
  exact h1
 ·rw [cell_of_row wr _ _ _ _ (0, 0) h.blk, Nat.zero_add]
  exact h1'
set_option linter.unusedSimpArgs false in
set_option maxRecDepth 100000 in
set_option maxHeartbeats 800000 in
theorem yg (a : Option Addr) (cap : Nat) (Ts : List Pl.It) (w : World) (hl : Ts.length ≤ 1048576) (hv : Mem.zb3 w a Ts) (hok : ∀ t ∈ Ts, t.t.L.length ≤ 1048576) :
  Calls Tryz.prog 10 #[.slice a Ts.length cap] w fun e w' => e = .returned (.slice (some ⟨w.heap.size, 0, none⟩) Ts.length Ts.length) ∧ (∃ D cur, D.length = Ts.length ∧ CopI w w' Ts D cur) ∧ Below w.heap.size w w' := by
 have HV := hide hv
 have HO := hide hok
 have hmk := makeI Ts.length hl w
 clear hv hok
 go_enter Tryz.func10, Tryz.ntmps10
 go_wp2
 go_loopw [4] (fun i wr => ∃ (D : List Pl.It) (cur : Array Value), D.length ≤ Ts.length ∧ i = .int .i64 (D.length : Int) ∧ Below w.heap.size w wr ∧ Hid (CopI w wr Ts D cur)) (fun i _ => Ts.length - (intOf i).toNat)
 case atStart => exact ⟨[], zz4 Ts.length, Nat.zero_le _, rfl, (Below.refl _ _).alloc (Nat.le_refl _) _, hide ⟨heap_alloc_new w _, yg6 _, rfl, fun j t h => by simp at h⟩⟩
 case round =>
  obtain ⟨D, cur, hk, rfl, hbel, HC⟩ := hrel
  by_cases hlt : D.length < Ts.length
  ·obtain ⟨t, ht⟩ : ∃ t, Ts[D.length]? = some t := ⟨_, List.getElem?_eq_getElem hlt⟩
   obtain ⟨⟨b, o, rfl, hb, q0, q0'⟩, q1⟩ := (za HV) D.length t ht
   have c0 := (hbel.cell (p := ⟨b, _, none⟩) hb).trans q0
   have c1 := (hbel.cell (p := ⟨b, _, none⟩) hb).trans q0'
   have hz := hide (fun W (b : Below w.heap.size w W) => yh8 t W (za HO t (List.mem_of_getElem? ht)) (Mem.za0 q1 b))
   have HN := hide ht
   have u1 : (D.length : Int) < (Ts.length : Int) := by omega
   have u3 : (0 : Int) ≤ (D.length : Int) := by omega
   simp only [Pl.Tr.val] at c1
   clear q0 q0' ht q1
   go_wp2_with fail
   refine (za hz _ hbel).mono ?_
   rintro e w1 ⟨g, rfl, hg, hn, b1⟩
   have hgw : w.heap.size < g := by have := (Array.getElem?_eq_some_iff.1 (za HC).blk).1; omega
   have C1 := (za HC).call b1
   have hb2 := hbel.trans (b1.mono hbel.size)
   have hcs := C1.size
   obtain ⟨x0, s0⟩ : ∃ x, w1.cell? ⟨w.heap.size, D.length * 2, none⟩ = some x := ⟨_, (cell_of_row w1 _ (D.length * 2) _ _ (0, 0) C1.blk).trans (Array.getElem?_eq_getElem (by omega))⟩
   obtain ⟨x1, s1⟩ : ∃ x, w1.cell? ⟨w.heap.size, D.length * 2 + 1, none⟩ = some x := ⟨_, (cell_of_row w1 _ (D.length * 2 + 1) _ _ (0, 0) C1.blk).trans (Array.getElem?_eq_getElem (by omega))⟩
   have f0 : w1.frozen? ⟨w.heap.size, D.length * 2, none⟩ = false := Mem.zg6 C1.blk
   have f1 : w1.frozen? ⟨w.heap.size, D.length * 2 + 1, none⟩ = false := Mem.zg6 C1.blk
   have HC2 := hide (C1.put t g (za HN) hgw hn)
   have HB2 := hide hb2
   clear b1 hbel hz HC C1 hn hg hb2 hcs
   go_wp2
   go_roundw
   case rel => exact ⟨_, _, by rw [List.length_append, List.length_singleton]; omega, by rw [List.length_append, List.length_singleton]; go_num, ((za HB2).setCell (Nat.le_refl _) _).setCell (Nat.le_refl _) _, HC2⟩
   case measure => simp [intOf]; omega
  ·have u1 : ¬ (D.length : Int) < (Ts.length : Int) := by omega
   go_wp2
   go_ret
   exact ⟨rfl, ⟨D, by omega, cur, za HC⟩, hbel⟩
theorem zt7 (a : Option Addr) (cap : Nat) (Ts : List Pl.It) (w : World) (hl : Ts.length ≤ 1048576) (hv : Mem.zb3 w a Ts) (hok : ∀ t ∈ Ts, t.t.L.length ≤ 1048576) :
  Calls Tryz.prog 10 #[.slice a Ts.length cap] w fun e w' => ∃ g D, e = .returned (.slice (some ⟨g, 0, none⟩) Ts.length Ts.length) ∧ w.heap.size ≤ g ∧ D.length = Ts.length ∧ D.map Pl.It.r = Ts.map Pl.It.r ∧ Mem.zb3 w' (some ⟨g, 0, none⟩) D ∧ Below w.heap.size w w' :=
 (yg a cap Ts w hl hv hok).mono fun _ _ ⟨he, ⟨D, cur, hD, hC⟩, b⟩ => ⟨_, D, he, Nat.le_refl _, hD, by rw [hC.same, hD, List.take_length], hC.items, b⟩
end WLaw
end Go.Proofs.YtppmlbofhghghaaGreatDoor

namespace Go.Proofs.YtppmlbofhghghaaGreatDoor
open Go.RowKit
namespace zy8
open WLaw
set_option linter.unusedSimpArgs false in
set_option maxRecDepth 100000 in
theorem yh8 (x : Pl.It) (w : World) (hl : x.t.L.length ≤ 1048576) (hv : Mem.za1 w x.t.a x.t.L) :
  Calls Tryz.prog 33 #[.agg #[.int .i64 x.m, .slice x.t.a x.t.L.length x.t.cap]] w fun e w' => ∃ g, e = .returned (.agg #[.int .i64 x.m, .slice (some ⟨g, 0, none⟩) x.t.L.length x.t.L.length]) ∧ w.heap.size ≤ g ∧ (∃ cs, w'.heap[g]? = some (.cells cs 47 (0, 0)) ∧ x.t.L.length * 5 ≤ cs.size) ∧ Mem.za1 w' (some ⟨g, 0, none⟩) x.t.L ∧ Below w.heap.size w w' := by
 obtain ⟨m, a, cap, L⟩ := x
 simp only at hl hv ⊢
 have b0 : Below w.heap.size w (((w.alloc (.cells #[.int .i64 m, .slice a L.length cap] 45)).alloc (.cells #[.int .i64 0, .slice none 0 0] 61)).alloc (.cells #[.int .i64 m, .slice none 0 0] 61)) := (((Below.refl _ _).alloc (Nat.le_refl _) _).alloc (by simp) _).alloc (by simp; omega) _
 have hz := hide (yp8 a cap L _ hl (Mem.za0 hv b0))
 have hs : (((w.alloc (.cells #[.int .i64 m, .slice a L.length cap] 45)).alloc (.cells #[.int .i64 0, .slice none 0 0] 61)).alloc (.cells #[.int .i64 m, .slice none 0 0] 61)).heap.size = w.heap.size + 1 + 1 + 1 := by simp
 have r1 : Mem.Blk (((w.alloc (.cells #[.int .i64 m, .slice a L.length cap] 45)).alloc (.cells #[.int .i64 0, .slice none 0 0] 61)).alloc (.cells #[.int .i64 m, .slice none 0 0] 61)) (w.heap.size + 1) #[.int .i64 0, .slice none 0 0] 61 := Mem.new_mid w _ _ _
 have r2 : Mem.Blk (((w.alloc (.cells #[.int .i64 m, .slice a L.length cap] 45)).alloc (.cells #[.int .i64 0, .slice none 0 0] 61)).alloc (.cells #[.int .i64 m, .slice none 0 0] 61)) (w.heap.size + 1 + 1) #[.int .i64 m, .slice none 0 0] 61 := Mem.zq0 w _ _ _
 have HB0 := hide b0
 clear hv b0
 go_enter Tryz.func33, Tryz.ntmps33
 go_wp2_with fail
 generalize (((w.alloc (.cells #[.int .i64 m, .slice a L.length cap] 45)).alloc (.cells #[.int .i64 0, .slice none 0 0] 61)).alloc (.cells #[.int .i64 m, .slice none 0 0] 61)) = w3 at hz hs r1 r2 HB0 ⊢
 refine (za hz).mono ?_
 rintro e w1 ⟨g, rfl, hg, ⟨cs, hrow, hcs⟩, hn, b1⟩
 have HRW := hide hrow
 have HCS := hide hcs
 have R1 := r1.call b1
 have R2 := r2.call b1
 have c10 := R1.cell 0
 have c11 := R1.cell 1
 have c20 := R2.cell 0
 have c21 := R2.cell 1
 have f10 := R1.fr 0
 have f11 := R1.fr 1
 have f20 := R2.fr 0
 have f21 := R2.fr 1
 simp only [kA0, kA1, kA2] at c10 c11 c20 c21
 have bb := hide ((za HB0).trans (b1.mono (za HB0).size))
 have HG : Hid (w.heap.size + 1 + 1 + 1 ≤ g) := hide (by omega)
 have HN := hide hn
 clear hz b1 hn hs r1 r2 R1 R2 HB0 hg hrow hcs
 go_wp2
 have hg := za HG
 refine bodyPost_ret (v := .agg #[.int .i64 m, .slice (some ⟨g, 0, none⟩) L.length L.length]) (by simp [results, Tryz.results33, go_sem, c10, c11]) rfl ⟨g, rfl, by omega, ⟨cs, ?_, by have := za HCS; omega⟩, ?_, ?_⟩
 ·rw [heap_setCell_other _ _ _ _ (by show g ≠ w.heap.size + 1; omega), heap_setCell_other _ _ _ _ (by show g ≠ w.heap.size + 1; omega), heap_setCell_other _ _ _ _ (by show g ≠ w.heap.size + 1 + 1; omega)]
  exact za HRW
 ·exact Mem.zg5 (Mem.zg5 (Mem.zg5 (za HN) _ _ (by show w.heap.size + 1 + 1 ≠ g; omega)) _ _ (by show w.heap.size + 1 ≠ g; omega)) _ _ (by show w.heap.size + 1 ≠ g; omega)
 ·exact (((za bb).setCell (by show w.heap.size ≤ w.heap.size + 1 + 1; omega) _).setCell (by show w.heap.size ≤ w.heap.size + 1; omega) _).setCell (by show w.heap.size ≤ w.heap.size + 1; omega) _
structure CopI (w wr : World) (Ts D : List Pl.It) (cur : Array Value) : Prop where
 blk : wr.heap[w.heap.size]? = some (.cells cur 61 (0, 0))
 size : cur.size = Ts.length * 2
 same : D.map Pl.It.r = (Ts.take D.length).map Pl.It.r
 each : ∀ (j : Nat) t, D[j]? = some t → cur[j * 2]? = some (.int .i64 t.m) ∧ cur[j * 2 + 1]? = some t.t.val ∧ ∃ g, t.t.a = some ⟨g, 0, none⟩ ∧ w.heap.size < g ∧ Mem.za1 wr t.t.a t.t.L ∧ ∃ cs, wr.heap[g]? = some (.cells cs 47 (0, 0)) ∧ t.t.L.length * 5 ≤ cs.size ∧ t.t.cap = t.t.L.length
theorem CopI.call {w wr W : World} {Ts D : List Pl.It} {cur : Array Value} (h : CopI w wr Ts D cur) (b : Below wr.heap.size wr W) : CopI w W Ts D cur :=
 ⟨(b.block _ (Array.getElem?_eq_some_iff.1 h.blk).1).trans h.blk, h.size, h.same, fun j t hj => ⟨(h.each j t hj).1, (h.each j t hj).2.1, by
  obtain ⟨g, h1, h2, h3, cs, h4, h5⟩ := (h.each j t hj).2.2
  exact ⟨g, h1, h2, Mem.za0 h3 b, cs, (b.block _ (Array.getElem?_eq_some_iff.1 h4).1).trans h4, h5⟩⟩⟩
theorem CopI.put {w wr : World} {Ts D : List Pl.It} {cur : Array Value} (h : CopI w wr Ts D cur) (t : Pl.It) (g : Nat) (hk : Ts[D.length]? = some t) (hg : w.heap.size < g) (hn : Mem.za1 wr (some ⟨g, 0, none⟩) t.t.L) (hr : ∃ cs, wr.heap[g]? = some (.cells cs 47 (0, 0)) ∧ t.t.L.length * 5 ≤ cs.size) :
  CopI w ((wr.setCell ⟨w.heap.size, D.length * 2, none⟩ (.int .i64 t.m)).setCell ⟨w.heap.size, D.length * 2 + 1, none⟩ (.slice (some ⟨g, 0, none⟩) t.t.L.length t.t.L.length)) Ts (D ++ [⟨t.m, some ⟨g, 0, none⟩, t.t.L.length, t.t.L⟩]) ((cur.setIfInBounds (D.length * 2) (.int .i64 t.m)).setIfInBounds (D.length * 2 + 1) (.slice (some ⟨g, 0, none⟩) t.t.L.length t.t.L.length)) := by
 have hlt := (List.getElem?_eq_some_iff.1 hk).1
 have hsz := h.size
 refine ⟨heap_setCell_same _ _ _ _ _ _ (heap_setCell_same _ _ _ _ _ _ h.blk), by simpa using h.size, ?_, fun j m hj => ?_⟩
 ·rw [List.length_append, List.length_singleton, List.take_add_one, hk, List.map_append, List.map_append, h.same]
  rfl
 ·by_cases e : j < D.length
  ·rw [List.getElem?_append_left e] at hj
   obtain ⟨h1, h1', g', h2, h3, h4, cs, h5, h6⟩ := h.each j m hj
   refine ⟨by rw [Array.getElem?_setIfInBounds, if_neg (by omega), Array.getElem?_setIfInBounds, if_neg (by omega)]; exact h1, by rw [Array.getElem?_setIfInBounds, if_neg (by omega), Array.getElem?_setIfInBounds, if_neg (by omega)]; exact h1', g', h2, h3, ?_, cs, (heap_setCell_other _ _ _ _ (by show g' ≠ w.heap.size; omega)).trans ((heap_setCell_other _ _ _ _ (by show g' ≠ w.heap.size; omega)).trans h5), h6⟩
   rw [h2] at h4 ⊢
   exact Mem.zg5 (Mem.zg5 h4 _ _ (by show w.heap.size ≠ g'; omega)) _ _ (by show w.heap.size ≠ g'; omega)
  ·rw [List.getElem?_append_right (by omega)] at hj
   have hj0 : j = D.length := by
    have := (List.getElem?_eq_some_iff.1 hj).1
    simp at this; omega
   subst hj0
   simp at hj
   subst hj
   obtain ⟨cs, h5, h6⟩ := hr
   refine ⟨?_, ?_, g, rfl, hg, Mem.zg5 (Mem.zg5 hn _ _ (by show w.heap.size ≠ g; omega)) _ _ (by show w.heap.size ≠ g; omega), cs, (heap_setCell_other _ _ _ _ (by show g ≠ w.heap.size; omega)).trans ((heap_setCell_other _ _ _ _ (by show g ≠ w.heap.size; omega)).trans h5), h6, rfl⟩
   ·rw [Array.getElem?_setIfInBounds, if_neg (by omega), Array.getElem?_setIfInBounds, if_pos rfl, if_pos (by omega)]
   ·rw [Array.getElem?_setIfInBounds, if_pos rfl, if_pos (by rw [Array.size_setIfInBounds]; omega)]
    rfl
theorem CopI.items {w wr : World} {Ts D : List Pl.It} {cur : Array Value} (h : CopI w wr Ts D cur) : Mem.zb3 wr (some ⟨w.heap.size, 0, none⟩) D := fun i t hi => by
 obtain ⟨h1, h1', g, h2, h3, h4, -⟩ := h.each i t hi
 refine ⟨⟨_, 0, rfl, (Array.getElem?_eq_some_iff.1 h.blk).1, ?_, ?_⟩, h4⟩
 ·rw [cell_of_row wr _ _ _ _ (0, 0) h.blk, Nat.zero_add]
  exact h1
 ·rw [cell_of_row wr _ _ _ _ (0, 0) h.blk, Nat.zero_add]
  exact h1'
set_option linter.unusedSimpArgs false in
set_option maxRecDepth 100000 in
set_option maxHeartbeats 800000 in
theorem yg (a : Option Addr) (cap : Nat) (Ts : List Pl.It) (w : World) (hl : Ts.length ≤ 1048576) (hv : Mem.zb3 w a Ts) (hok : ∀ t ∈ Ts, t.t.L.length ≤ 1048576) :
  Calls Tryz.prog 10 #[.slice a Ts.length cap] w fun e w' => e = .returned (.slice (some ⟨w.heap.size, 0, none⟩) Ts.length Ts.length) ∧ (∃ D cur, D.length = Ts.length ∧ CopI w w' Ts D cur) ∧ Below w.heap.size w w' := by
 have HV := hide hv
 have HO := hide hok
 have hmk := makeI Ts.length hl w
 clear hv hok
 go_enter Tryz.func10, Tryz.ntmps10
 go_wp2
 go_loopw [4] (fun i wr => ∃ (D : List Pl.It) (cur : Array Value), D.length ≤ Ts.length ∧ i = .int .i64 (D.length : Int) ∧ Below w.heap.size w wr ∧ Hid (CopI w wr Ts D cur)) (fun i _ => Ts.length - (intOf i).toNat)
 case atStart => exact ⟨[], zz4 Ts.length, Nat.zero_le _, rfl, (Below.refl _ _).alloc (Nat.le_refl _) _, hide ⟨heap_alloc_new w _, yg6 _, rfl, fun j t h => by simp at h⟩⟩
 case round =>
  obtain ⟨D, cur, hk, rfl, hbel, HC⟩ := hrel
  by_cases hlt : D.length < Ts.length
  ·obtain ⟨t, ht⟩ : ∃ t, Ts[D.length]? = some t := ⟨_, List.getElem?_eq_getElem hlt⟩
   obtain ⟨⟨b, o, rfl, hb, q0, q0'⟩, q1⟩ := (za HV) D.length t ht
   have c0 := (hbel.cell (p := ⟨b, _, none⟩) hb).trans q0
   have c1 := (hbel.cell (p := ⟨b, _, none⟩) hb).trans q0'
   have hz := hide (fun W (b : Below w.heap.size w W) => yh8 t W (za HO t (List.mem_of_getElem? ht)) (Mem.za0 q1 b))
   have HN := hide ht
   have u1 : (D.length : Int) < (Ts.length : Int) := by omega
   have u3 : (0 : Int) ≤ (D.length : Int) := by omega
   simp only [Pl.Tr.val] at c1
   clear q0 q0' ht q1
   go_wp2_with fail
   refine (za hz _ hbel).mono ?_
   rintro e w1 ⟨g, rfl, hg, hrr, hn, b1⟩
   have hgw : w.heap.size < g := by have := (Array.getElem?_eq_some_iff.1 (za HC).blk).1; omega
   have C1 := (za HC).call b1
   have hb2 := hbel.trans (b1.mono hbel.size)
   have hcs := C1.size
   obtain ⟨x0, s0⟩ : ∃ x, w1.cell? ⟨w.heap.size, D.length * 2, none⟩ = some x := ⟨_, (cell_of_row w1 _ (D.length * 2) _ _ (0, 0) C1.blk).trans (Array.getElem?_eq_getElem (by omega))⟩
   obtain ⟨x1, s1⟩ : ∃ x, w1.cell? ⟨w.heap.size, D.length * 2 + 1, none⟩ = some x := ⟨_, (cell_of_row w1 _ (D.length * 2 + 1) _ _ (0, 0) C1.blk).trans (Array.getElem?_eq_getElem (by omega))⟩
   have f0 : w1.frozen? ⟨w.heap.size, D.length * 2, none⟩ = false := Mem.zg6 C1.blk
   have f1 : w1.frozen? ⟨w.heap.size, D.length * 2 + 1, none⟩ = false := Mem.zg6 C1.blk
   have HC2 := hide (C1.put t g (za HN) hgw hn hrr)
   have HB2 := hide hb2
   clear b1 hbel hz HC C1 hn hg hb2 hcs hrr
   go_wp2
   go_roundw
   case rel => exact ⟨_, _, by rw [List.length_append, List.length_singleton]; omega, by rw [List.length_append, List.length_singleton]; go_num, ((za HB2).setCell (Nat.le_refl _) _).setCell (Nat.le_refl _) _, HC2⟩
   case measure => simp [intOf]; omega
  ·have u1 : ¬ (D.length : Int) < (Ts.length : Int) := by omega
   go_wp2
   go_ret
   exact ⟨rfl, ⟨D, by omega, cur, za HC⟩, hbel⟩
structure Rows (W : World) (g : Nat) (D : List Pl.It) : Prop where
 items : Mem.zb3 W (some ⟨g, 0, none⟩) D
 blk : ∃ cur, W.heap[g]? = some (.cells cur 61 (0, 0)) ∧ cur.size = D.length * 2
 each : ∀ (j : Nat) t, D[j]? = some t → ∃ q, t.t.a = some ⟨q, 0, none⟩ ∧ g < q ∧ q < W.heap.size ∧ ∃ cs, W.heap[q]? = some (.cells cs 47 (0, 0)) ∧ t.t.L.length * 5 ≤ cs.size ∧ t.t.cap = t.t.L.length
theorem zt7 (a : Option Addr) (cap : Nat) (Ts : List Pl.It) (w : World) (hl : Ts.length ≤ 1048576) (hv : Mem.zb3 w a Ts) (hok : ∀ t ∈ Ts, t.t.L.length ≤ 1048576) :
  Calls Tryz.prog 10 #[.slice a Ts.length cap] w fun e w' => ∃ g D, e = .returned (.slice (some ⟨g, 0, none⟩) Ts.length Ts.length) ∧ w.heap.size ≤ g ∧ D.length = Ts.length ∧ D.map Pl.It.r = Ts.map Pl.It.r ∧ Rows w' g D ∧ Below w.heap.size w w' :=
 (yg a cap Ts w hl hv hok).mono fun _ _ ⟨he, ⟨D, cur, hD, hC⟩, b⟩ => ⟨_, D, he, Nat.le_refl _, hD, by rw [hC.same, hD, List.take_length], ⟨hC.items, ⟨cur, hC.blk, by rw [hC.size, hD]⟩, fun j t hj => by
  obtain ⟨-, -, g, h2, h3, -, cs, h5, h6⟩ := hC.each j t hj
  exact ⟨g, h2, h3, (Array.getElem?_eq_some_iff.1 h5).1, cs, h5, h6⟩⟩, b⟩
end zy8
end Go.Proofs.YtppmlbofhghghaaGreatDoor

namespace Go.Proofs.YtppmlbofhghghaaGreatDoor
open Go.RowKit
namespace Mem
structure Band (Y X : Nat) (w w' : World) : Prop where
 os : w'.os = w.os
 tape : w'.tape = w.tape
 output : w'.output = w.output
 size : w.heap.size ≤ w'.heap.size
 block : ∀ j, j < w.heap.size → (j < Y ∨ X ≤ j) → w'.heap[j]? = w.heap[j]?
theorem Band.refl (Y X : Nat) (w : World) : Band Y X w w := ⟨rfl, rfl, rfl, Nat.le_refl _, fun _ _ _ => rfl⟩
theorem Band.of_below {Y X : Nat} {w w' : World} (b : Below w.heap.size w w') : Band Y X w w' := ⟨b.os, b.tape, b.output, b.size, fun j hj _ => b.block j hj⟩
theorem Band.of_grown {Y X g : Nat} {w w' : World} (b : w.grownBy w' (some g)) (h1 : Y ≤ g) (h2 : g < X) : Band Y X w w' := ⟨b.os, b.tape, b.output, b.size, fun j hj hh => b.block j hj (fun e => by cases e; omega)⟩
theorem Band.trans {Y X : Nat} {w v v' : World} (h : Band Y X w v) (h' : Band Y X v v') : Band Y X w v' :=
 ⟨h'.os.trans h.os, h'.tape.trans h.tape, h'.output.trans h.output, Nat.le_trans h.size h'.size, fun j hj hh => (h'.block j (Nat.lt_of_lt_of_le hj h.size) hh).trans (h.block j hj hh)⟩
theorem Band.below {Y X B : Nat} {w v v' : World} (h : Band Y X v v') (b : Below B w v) (hB : B ≤ Y) (hs : B ≤ v.heap.size) : Below B w v' :=
 ⟨h.os.trans b.os, h.tape.trans b.tape, h.output.trans b.output, Nat.le_trans b.size h.size, fun j hj => (h.block j (by omega) (.inl (by omega))).trans (b.block j hj)⟩
theorem Band.blk {Y X g : Nat} {w w' : World} {cs : Array Value} {T : TypeId} (h : Band Y X w w') (hb : Blk w g cs T) (hg : g < Y ∨ X ≤ g) : Blk w' g cs T := (h.block g hb.lt hg).trans hb
theorem Band.row {Y X B e size n : Nat} {w w' : World} {v : Value} {xs : List Value} (h : Band Y X w w') (o : w.ownsRow B e size v n xs) (hg : ∀ g, v.ownBlock = some g → g < Y ∨ X ≤ g) : w'.ownsRow B e size v n xs := by
 refine ⟨o.1, ?_⟩
 rcases o.2 with h0 | ⟨g, cap, cur, rfl, hb, hh, rest⟩
 ·exact .inl h0
 ·exact .inr ⟨g, cap, cur, rfl, hb, (h.block g (Array.getElem?_eq_some_iff.1 hh).1 (hg g rfl)).trans hh, rest⟩
theorem Band.of_set {Y X : Nat} {w : World} (p : Addr) (v : Value) (h1 : Y ≤ p.block) (h2 : p.block < X) : Band Y X w (w.setCell p v) :=
 have b : Below 0 w (w.setCell p v) := (Below.refl 0 w).setCell (Nat.zero_le _) v
 ⟨b.os, b.tape, b.output, b.size, fun j _ hh => heap_setCell_other _ _ _ _ (by omega)⟩
end Mem
end Go.Proofs.YtppmlbofhghghaaGreatDoor

