/- Several texts of one claim in one file: WMkM, WMkH, WMkX. -/
import Derived.Test.YtlgbdbmikmbioaaGreatDoorG05
import Derived.Test.YtlgbdbmikmbioaaGreatDoorG42
import Derived.Test.YtlgbdbmikmbioaaGreatDoorG08
namespace Go.Proofs.YtlgbdbmikmbioaaGreatDoor
open Go.RowKit
namespace Pl
def third (k : Nat) : Bool := decide (k % 3 = 0)
theorem third_is (q : Nat) : (((q : Int) + 1 + 1) % 3 == 0) = third (q + 2) := by
 unfold third
 rw [Bool.eq_iff_iff]
 simp only [beq_iff_eq, decide_eq_true_eq]
 omega
def mkMn (K j : Nat) : Pl.Mn := ⟨mark (K + 3 * j), ((K + 3 * j + 1 : Nat) : Int), third (K + 3 * j + 2)⟩
def mkMns (K n : Nat) : List Pl.Mn := (List.range n).map (mkMn K)
theorem mkMns_len (K n : Nat) : (mkMns K n).length = n := by simp [mkMns]
theorem mkMns_get (K n j : Nat) (h : j < n) : (mkMns K n)[j]? = some (mkMn K j) := by
 unfold mkMns
 rw [List.getElem?_map, List.getElem?_range h]
 rfl
end Pl
namespace WMkM
def rowAt (cv : Array Value) (K j : Nat) : Prop := cv[j * 3]? = some (.string (Pl.mark (K + 3 * j))) ∧ cv[j * 3 + 1]? = some (.int .i64 ((K + 3 * j + 1 : Nat) : Int)) ∧ cv[j * 3 + 2]? = some (.bool (Pl.third (K + 3 * j + 2)))
theorem row_is {w : World} {g K n : Nat} {cv : Array Value} (h : w.heap[g]? = some (.cells cv 66 (0, 0))) (hA : ∀ j, j < n → rowAt cv K j) : Mem.zb4 w (some ⟨g, 0, none⟩) (Pl.mkMns K n) := fun i x hi => by
 have hl := (List.getElem?_eq_some_iff.1 hi).1
 rw [Pl.mkMns_len] at hl
 rw [Pl.mkMns_get K n i hl] at hi
 cases hi
 obtain ⟨h0, h1, h2⟩ := hA i hl
 refine ⟨g, 0, rfl, (Array.getElem?_eq_some_iff.1 h).1, ?_, ?_, ?_⟩
 ·rw [cell_of_row w _ _ _ _ (0, 0) h, Nat.zero_add]; exact h0
 ·rw [cell_of_row w _ _ _ _ (0, 0) h, Nat.zero_add]; exact h1
 ·rw [cell_of_row w _ _ _ _ (0, 0) h, Nat.zero_add]; exact h2

set_option linter.unusedSimpArgs false in
set_option maxRecDepth 100000 in
set_option maxHeartbeats 1000000 in
theorem zc5 (g n cap K : Nat) (cur : Array Value) (w : World) (hn : n ≤ 1048576) (hK : 0 < K) (hK2 : K ≤ 8500000000000000000) (hrow : w.heap[g]? = some (.cells cur 66 (0, 0))) (hsz : n * 3 ≤ cur.size) :
  Calls Tryz.prog 50 #[.slice (some ⟨g, 0, none⟩) n cap, .int .i64 (K : Int)] w fun e w' => e = .returned (.int .i64 ((K + 3 * n : Nat) : Int)) ∧
   (∃ cur', w'.heap[g]? = some (.cells cur' 66 (0, 0)) ∧ cur'.size = cur.size) ∧ Mem.zb4 w' (some ⟨g, 0, none⟩) (Pl.mkMns K n) ∧ w.grownBy w' (some g) := by
 have HR0 := hide hrow
 have HS0 := hide hsz
 clear hrow hsz
 go_enter Tryz.func50, Tryz.ntmps50
 go_wp2
 go_loopw [1, 5] (fun a i wr => ∃ (k q : Nat) (cv : Array Value), k ≤ n ∧ q = K + 3 * k ∧ i = .int .i64 (k : Int) ∧ a = .int .i64 (q : Int) ∧ Hid (wr.heap[g]? = some (.cells cv 66 (0, 0))) ∧ Hid (cv.size = cur.size) ∧ Hid (w.grownBy wr (some g)) ∧
   Hid (∀ j, j < k → rowAt cv K j)) (fun _ i _ => n - (intOf i).toNat)
 case atStart => exact ⟨0, K, cur, Nat.zero_le _, rfl, rfl, rfl, HR0, rfl, ⟨rfl, rfl, rfl, Nat.le_refl _, fun _ _ _ => rfl⟩, fun j h => absurd h (by omega)⟩
 case round =>
  obtain ⟨k, q, cv, hk, hq, rfl, rfl, HR, HS, HG, HA⟩ := hrel
  by_cases hlt : k < n
  ·have y1 : (k : Int) < (n : Int) := by omega
   have y3 : (0 : Int) ≤ (k : Int) := by omega
   have HM := hide (fun W => zo0.zc5 q W (by omega) (by omega))
   have HQ := hide hq
   have q1 : (q : Int) ≤ 9000000000000000000 := by omega
   clear hq
   have hcz : n * 3 ≤ cv.size := by rw [za HS]; exact za HS0
   have HCZ := hide hcz
   clear hcz
   go_wp2_with fail
   refine (za HM _).mono ?_
   rintro e w2 ⟨rfl, b2⟩
   have hg : g < wr.heap.size := (Array.getElem?_eq_some_iff.1 (za HR)).1
   have HR2 := hide ((b2.block _ hg).trans (za HR))
   have hcz := za HCZ
   have s0 : ∃ x, w2.cell? ⟨g, k * 3, none⟩ = some x := ⟨_, (cell_of_row w2 _ (k * 3) _ _ (0, 0) (za HR2)).trans (Array.getElem?_eq_getElem (by omega))⟩
   have s1 : ∃ x, w2.cell? ⟨g, k * 3 + 1, none⟩ = some x := ⟨_, (cell_of_row w2 _ (k * 3 + 1) _ _ (0, 0) (za HR2)).trans (Array.getElem?_eq_getElem (by omega))⟩
   have s2 : ∃ x, w2.cell? ⟨g, k * 3 + 2, none⟩ = some x := ⟨_, (cell_of_row w2 _ (k * 3 + 2) _ _ (0, 0) (za HR2)).trans (Array.getElem?_eq_getElem (by omega))⟩
   obtain ⟨x0, s0⟩ := s0
   obtain ⟨x1, s1⟩ := s1
   obtain ⟨x2, s2⟩ := s2
   have f0 : ∀ j, w2.frozen? ⟨g, j, none⟩ = false := fun j => Mem.za6 (za HR2)
   have HG2 := hide (zf7.zn4 (za HG) b2)
   clear b2 HR HG hcz hg HM
   go_wp2
   go_roundw
   case rel =>
    refine ⟨k + 1, q + 3, _, by omega, by have := za HQ; omega, by go_num, by go_num, hide (heap_setCell_same _ _ (k * 3 + 2) _ _ _ (heap_setCell_same _ _ (k * 3 + 1) _ _ _ (heap_setCell_same _ _ (k * 3) _ _ _ (za HR2)))), ?_, hide (zf7.zd8 (zf7.zd8 (zf7.zd8 (za HG2)))), ?_⟩
    ·exact hide (by simpa using za HS)
    ·intro j hj
     have hcz := za HCZ
     rcases Nat.lt_succ_iff_lt_or_eq.1 hj with h'' | rfl
     ·obtain ⟨i0, i1, i2⟩ := HA.out j h''
      simp only [rowAt, Array.getElem?_setIfInBounds]
      refine ⟨?_, ?_, ?_⟩ <;> (repeat (rw [if_neg (by omega)])) <;> assumption
     ·have hq := za HQ
      simp only [rowAt, Array.getElem?_setIfInBounds, Array.size_setIfInBounds, ← hq]
      refine ⟨by simp; omega, by simp; omega, ?_⟩
      simp
      exact ⟨by omega, Pl.third_is q⟩
   case measure => simp [intOf]; omega
  ·obtain rfl : k = n := by omega
   have y1 : ¬ (k : Int) < (k : Int) := by omega
   have hq2 : (q : Int) = ((K + 3 * k : Nat) : Int) := by omega
   have HQ := hide hq2
   have HI := hide (row_is (za HR) (za HA))
   clear hq hq2
   go_wp2
   go_ret
   exact ⟨(by rw [za HQ]; first | done | rfl), ⟨cv, za HR, za HS⟩, za HI, za HG⟩
end WMkM
end Go.Proofs.YtlgbdbmikmbioaaGreatDoor

namespace Go.Proofs.YtlgbdbmikmbioaaGreatDoor
open Go.RowKit
namespace Pl
def mkHn (K j : Nat) : Pl.Hn := ⟨((K + 3 * j : Nat) : Int), ((K + 3 * j + 1 : Nat) : Int), mark (K + 3 * j + 2)⟩
def mkHns (K n : Nat) : List Pl.Hn := (List.range n).map (mkHn K)
theorem mkHns_len (K n : Nat) : (mkHns K n).length = n := by simp [mkHns]
theorem mkHns_get (K n j : Nat) (h : j < n) : (mkHns K n)[j]? = some (mkHn K j) := by
 unfold mkHns
 rw [List.getElem?_map, List.getElem?_range h]
 rfl
end Pl
namespace WMkH
def rowAt (cv : Array Value) (K j : Nat) : Prop := cv[j * 3]? = some (.int .i64 ((K + 3 * j : Nat) : Int)) ∧ cv[j * 3 + 1]? = some (.int .i64 ((K + 3 * j + 1 : Nat) : Int)) ∧ cv[j * 3 + 2]? = some (.string (Pl.mark (K + 3 * j + 2)))
theorem row_is {w : World} {g K n : Nat} {cv : Array Value} (h : w.heap[g]? = some (.cells cv 130 (0, 0))) (hA : ∀ j, j < n → rowAt cv K j) : Mem.zc4 w (some ⟨g, 0, none⟩) (Pl.mkHns K n) := fun i x hi => by
 have hl := (List.getElem?_eq_some_iff.1 hi).1
 rw [Pl.mkHns_len] at hl
 rw [Pl.mkHns_get K n i hl] at hi
 cases hi
 obtain ⟨h0, h1, h2⟩ := hA i hl
 refine ⟨g, 0, rfl, (Array.getElem?_eq_some_iff.1 h).1, ?_, ?_, ?_⟩
 ·rw [cell_of_row w _ _ _ _ (0, 0) h, Nat.zero_add]; exact h0
 ·rw [cell_of_row w _ _ _ _ (0, 0) h, Nat.zero_add]; exact h1
 ·rw [cell_of_row w _ _ _ _ (0, 0) h, Nat.zero_add]; exact h2

set_option linter.unusedSimpArgs false in
set_option maxRecDepth 100000 in
set_option maxHeartbeats 1000000 in
theorem zc5 (g n cap K : Nat) (cur : Array Value) (w : World) (hn : n ≤ 1048576) (hK : 0 < K) (hK2 : K ≤ 8500000000000000000) (hrow : w.heap[g]? = some (.cells cur 130 (0, 0))) (hsz : n * 3 ≤ cur.size) :
  Calls Tryz.prog 51 #[.slice (some ⟨g, 0, none⟩) n cap, .int .i64 (K : Int)] w fun e w' => e = .returned (.int .i64 ((K + 3 * n : Nat) : Int)) ∧
   (∃ cur', w'.heap[g]? = some (.cells cur' 130 (0, 0)) ∧ cur'.size = cur.size) ∧ Mem.zc4 w' (some ⟨g, 0, none⟩) (Pl.mkHns K n) ∧ w.grownBy w' (some g) := by
 have HR0 := hide hrow
 have HS0 := hide hsz
 clear hrow hsz
 go_enter Tryz.func51, Tryz.ntmps51
 go_wp2
 go_loopw [1, 5] (fun a i wr => ∃ (k q : Nat) (cv : Array Value), k ≤ n ∧ q = K + 3 * k ∧ i = .int .i64 (k : Int) ∧ a = .int .i64 (q : Int) ∧ Hid (wr.heap[g]? = some (.cells cv 130 (0, 0))) ∧ Hid (cv.size = cur.size) ∧ Hid (w.grownBy wr (some g)) ∧
   Hid (∀ j, j < k → rowAt cv K j)) (fun _ i _ => n - (intOf i).toNat)
 case atStart => exact ⟨0, K, cur, Nat.zero_le _, rfl, rfl, rfl, HR0, rfl, ⟨rfl, rfl, rfl, Nat.le_refl _, fun _ _ _ => rfl⟩, fun j h => absurd h (by omega)⟩
 case round =>
  obtain ⟨k, q, cv, hk, hq, rfl, rfl, HR, HS, HG, HA⟩ := hrel
  by_cases hlt : k < n
  ·have y1 : (k : Int) < (n : Int) := by omega
   have y3 : (0 : Int) ≤ (k : Int) := by omega
   have HM := hide (fun W => zo0.zc5 (q + 2) W (by omega) (by omega))
   rw [show ((q + 2 : Nat) : Int) = (q : Int) + 1 + 1 by omega] at HM
   have HQ := hide hq
   have q1 : (q : Int) ≤ 9000000000000000000 := by omega
   clear hq
   have hcz : n * 3 ≤ cv.size := by rw [za HS]; exact za HS0
   have HCZ := hide hcz
   clear hcz
   have hg : g < wr.heap.size := (Array.getElem?_eq_some_iff.1 (za HR)).1
   have hcz := za HCZ
   have s0 : ∃ x, wr.cell? ⟨g, k * 3, none⟩ = some x := ⟨_, (cell_of_row wr _ (k * 3) _ _ (0, 0) (za HR)).trans (Array.getElem?_eq_getElem (by omega))⟩
   have s1 : ∃ x, wr.cell? ⟨g, k * 3 + 1, none⟩ = some x := ⟨_, (cell_of_row wr _ (k * 3 + 1) _ _ (0, 0) (za HR)).trans (Array.getElem?_eq_getElem (by omega))⟩
   obtain ⟨x0, s0⟩ := s0
   obtain ⟨x1, s1⟩ := s1
   have f0 : ∀ j, wr.frozen? ⟨g, j, none⟩ = false := fun j => Mem.za6 (za HR)
   clear hcz hg
   go_wp2_with fail
   have HR1 := hide (heap_setCell_same _ _ (k * 3 + 1) _ _ (.int .i64 ((q : Int) + 1)) (heap_setCell_same _ _ (k * 3) _ _ (.int .i64 (q : Int)) (za HR)))
   have HG1 := hide (zf7.zd8 (o := k * 3 + 1) (x := .int .i64 ((q : Int) + 1)) (zf7.zd8 (o := k * 3) (x := .int .i64 (q : Int)) (za HG)))
   refine (za HM _).mono ?_
   rintro e w2 ⟨rfl, b2⟩
   have HR2 := hide ((b2.block _ (Array.getElem?_eq_some_iff.1 (za HR1)).1).trans (za HR1))
   have HG2 := hide (zf7.zn4 (za HG1) b2)
   have hcz := za HCZ
   have s2 : ∃ x, w2.cell? ⟨g, k * 3 + 2, none⟩ = some x := ⟨_, (cell_of_row w2 _ (k * 3 + 2) _ _ (0, 0) (za HR2)).trans (Array.getElem?_eq_getElem (by simp; omega))⟩
   obtain ⟨x2, s2⟩ := s2
   have f2 : ∀ j, w2.frozen? ⟨g, j, none⟩ = false := fun j => Mem.za6 (za HR2)
   clear b2 HR HG HR1 HG1 hcz HM s0 s1 f0
   go_wp2
   go_roundw
   case rel =>
    refine ⟨k + 1, q + 3, _, by omega, by have := za HQ; omega, by go_num, by go_num, hide (heap_setCell_same _ _ (k * 3 + 2) _ _ _ (za HR2)), ?_, hide (zf7.zd8 (za HG2)), ?_⟩
    ·exact hide (by simpa using za HS)
    ·intro j hj
     have hcz := za HCZ
     rcases Nat.lt_succ_iff_lt_or_eq.1 hj with h'' | rfl
     ·obtain ⟨i0, i1, i2⟩ := HA.out j h''
      simp only [rowAt, Array.getElem?_setIfInBounds]
      refine ⟨?_, ?_, ?_⟩ <;> (repeat (rw [if_neg (by omega)])) <;> assumption
     ·have hq := za HQ
      simp only [rowAt, Array.getElem?_setIfInBounds, Array.size_setIfInBounds, ← hq]
      refine ⟨?_, ?_, ?_⟩ <;> simp <;> omega
   case measure => simp [intOf]; omega
  ·obtain rfl : k = n := by omega
   have y1 : ¬ (k : Int) < (k : Int) := by omega
   have hq2 : (q : Int) = ((K + 3 * k : Nat) : Int) := by omega
   have HQ := hide hq2
   have HI := hide (row_is (za HR) (za HA))
   clear hq hq2
   go_wp2
   go_ret
   exact ⟨(by rw [za HQ]; first | done | rfl), ⟨cv, za HR, za HS⟩, za HI, za HG⟩
end WMkH
end Go.Proofs.YtlgbdbmikmbioaaGreatDoor

set_option linter.unusedSimpArgs false
namespace Go.Proofs.YtlgbdbmikmbioaaGreatDoor
open Go.RowKit
namespace WMkX
open za9
structure Left (W : World) (N : List Pl.Ns) (gi : Nat) (B : Nat → Nat) (j : Nat) : Prop where
 ib : ∃ cur, W.heap[gi]? = some (.cells cur 64 (0, 0)) ∧ cur.size = N.length * 2 ∧ ∀ (i : Nat) t, N[i]? = some t → cur[i * 2 + 1]? = some (.slice t.a t.Is.length t.cap)
 band : ∀ (i : Nat) t, j ≤ i → N[i]? = some t → ∃ g, t.a = some ⟨g, 0, none⟩ ∧ B i ≤ g ∧ WMkJ.Has W g (B (i + 1)) t.Is
theorem Left.id {W : World} {N : List Pl.Ns} {gi : Nat} {B : Nat → Nat} {j : Nat} (h : Left W N gi B j) (hr : ∀ i, i < N.length → gi < B i) (v : Value) : Left (W.setCell ⟨gi, j * 2, none⟩ v) N gi B j := by
 obtain ⟨⟨cur, h1, h2, h3⟩, h4⟩ := h
 refine ⟨⟨_, heap_setCell_same _ _ _ _ _ _ h1, by simpa using h2, fun i t hi => ?_⟩, fun i t hj hi => ?_⟩
 ·rw [Array.getElem?_setIfInBounds, if_neg (by omega)]
  exact h3 i t hi
 ·obtain ⟨g, k1, k2, k3⟩ := h4 i t hj hi
  have := hr i (List.getElem?_eq_some_iff.1 hi).1
  exact ⟨g, k1, k2, k3.low _ _ (by show gi < g; omega)⟩
theorem Left.next {W W' : World} {N : List Pl.Ns} {gi : Nat} {B : Nat → Nat} {j g : Nat} (h : Left W N gi B j) (hr : ∀ i, i < N.length → gi < B i) (hm : ∀ i, j < i → i < N.length → B (j + 1) ≤ B i) (hg : B j ≤ g) (hj : j < N.length) (hb : Mem.Band g (B (j + 1)) W W') : Left W' N gi B (j + 1) := by
 obtain ⟨⟨cur, h1, h2, h3⟩, h4⟩ := h
 refine ⟨⟨cur, (hb.block gi (Array.getElem?_eq_some_iff.1 h1).1 (.inl (by have := hr j hj; omega))).trans h1, h2, h3⟩, fun i t hi ht => ?_⟩
 obtain ⟨g', k1, k2, k3⟩ := h4 i t (by omega) ht
 have := hm i (by omega) (List.getElem?_eq_some_iff.1 ht).1
 exact ⟨g', k1, k2, k3.same (fun b h1 h2 h3 => hb.block b h3 (.inr (by omega)))⟩
theorem Left.start {W : World} {s : Pl.Sp} {gi gm gh : Nat} {B : Nat → Nat} (h : HasS W s gi gm gh B) : Left W s.N gi B 0 := ⟨h.ib, fun i t _ hi => h.band i t hi⟩
set_option maxRecDepth 100000 in
set_option maxHeartbeats 1000000 in
theorem zm7 (N : List Pl.Ns) (gi gm cap : Nat) (B : Nat → Nat) (w : World) (hl : N.length ≤ 1048576) (hok : ∀ x ∈ N, x.Is.length ≤ 1048576 ∧ ∀ t ∈ x.Is, t.t.L.length ≤ 1048576) (hr : ∀ i, i < N.length → gi < B i) (hm : ∀ j i, j < i → i ≤ N.length → B (j + 1) ≤ B i) (htop : B N.length ≤ gm) (hgm : gi < gm) (hv : Left w N gi B 0) :
  Calls Tryz.prog 49 #[.slice (some ⟨gi, 0, none⟩) N.length cap, .int .i64 1] w fun e w' => (∃ K : Nat, e = .returned (.int .i64 (K : Int)) ∧ 0 < K ∧ K ≤ 5800000000000000000) ∧ Mem.Band gi gm w w' := by
 have HO := hide hok
 have HV := hide hv
 have HM := hide hm
 have HR := hide hr
 have HT := hide htop
 clear hok hv hm hr htop
 go_enter Tryz.func49, Tryz.ntmps49
 go_wp2
 go_loopw [1, 5] (fun a i wr => ∃ (j K : Nat), j ≤ N.length ∧ i = .int .i64 (j : Int) ∧ a = .int .i64 (K : Int) ∧ (0 < K ∧ K ≤ 1 + 5497559187457 * j) ∧ Hid (Left wr N gi B j ∧ Mem.Band gi gm w wr)) (fun _ i _ => N.length - (intOf i).toNat)
 case atStart => exact ⟨0, 1, Nat.zero_le _, rfl, rfl, by omega, ⟨za HV, Mem.Band.refl _ _ _⟩⟩
 case round =>
  obtain ⟨j, K, hj, rfl, rfl, hK, HA⟩ := hrel
  by_cases hlt : j < N.length
  ·obtain ⟨t, ht⟩ : ∃ t, N[j]? = some t := ⟨_, List.getElem?_eq_getElem hlt⟩
   have htl := za HO t (List.mem_of_getElem? ht)
   have HS := hide ((za HA).1.id (za HR) (.int .i64 (K : Int)))
   have BS := hide ((za HA).2.trans (Mem.Band.of_set (w := wr) ⟨gi, j * 2, none⟩ (.int .i64 (K : Int)) (Nat.le_refl _) hgm))
   obtain ⟨cur, hb1, hb2, hb3⟩ := (za HA).1.ib
   obtain ⟨cur2, hd1, hd2, hd3⟩ := (za HS).ib
   have c1 := (cell_of_row (wr.setCell ⟨gi, j * 2, none⟩ (.int .i64 (K : Int))) _ (j * 2 + 1) _ _ (0, 0) hd1).trans (hd3 j t ht)
   obtain ⟨g, h1, h2, h3⟩ := (za HS).band j t (Nat.le_refl _) ht
   obtain ⟨x0, s0⟩ : ∃ x, wr.cell? ⟨gi, j * 2, none⟩ = some x := ⟨_, (cell_of_row wr _ (j * 2) _ _ (0, 0) hb1).trans (Array.getElem?_eq_getElem (by omega))⟩
   have f0 : wr.frozen? ⟨gi, j * 2, none⟩ = false := Mem.za6 hb1
   obtain ⟨td, ta, tc, tI⟩ := t
   simp only at h1 h3 htl c1
   subst h1
   have hml := hide (WMkJ.mark_from (K + 1) g (B (j + 1)) tc tI (wr.setCell ⟨gi, j * 2, none⟩ (.int .i64 (K : Int))) (by omega) (by omega) htl.1 htl.2 h3)
   have H2 := hide h2
   have u1 : (j : Int) < (N.length : Int) := by omega
   have u3 : (0 : Int) ≤ (j : Int) := by omega
   have eK : ((K + 1 : Nat) : Int) = (K : Int) + 1 := by omega
   rw [eK] at hml
   have htl1 := htl.1
   clear h2 h3 ht HA hb1 hb2 hb3 hd1 hd2 hd3 eK htl
   go_wp2_with fail
   refine (za hml).mono ?_
   rintro e w2 ⟨⟨K2, rfl, hk1, hk2⟩, hg⟩
   have HB : Hid (Left w2 N gi B (j + 1) ∧ Mem.Band gi gm w w2) := by
    have q1 := za HR j hlt
    have q2 := za HM j N.length hlt (Nat.le_refl _)
    have q3 := za HT
    have q4 := za H2
    exact ⟨(za HS).next (za HR) (fun i hi hl => za HM j i hi (by omega)) q4 hlt hg, (za BS).trans ⟨hg.os, hg.tape, hg.output, hg.size, fun b hb hh => hg.block b hb (by omega)⟩⟩
   have hK3 : 0 < K2 ∧ K2 ≤ 1 + 5497559187457 * (j + 1) := by omega
   clear HS BS hml hg c1 s0 f0 H2 hk1 hk2 htl1 hK
   go_wp2
   go_roundw
   case rel => exact ⟨j + 1, K2, by omega, by go_num, rfl, hK3, HB⟩
   case measure => simp [intOf]; omega
  ·have u1 : ¬ (j : Int) < (N.length : Int) := by omega
   go_wp2
   go_ret
   exact ⟨⟨K, rfl, by omega, by omega⟩, (za HA).2⟩
set_option maxRecDepth 100000 in
set_option maxHeartbeats 1000000 in
theorem zu4 (s : Pl.Sp) (gi gm gh : Nat) (B : Nat → Nat) (w : World) (hok : OkS s 1048576) (hv : HasS w s gi gm gh B) :
  Calls Tryz.prog 20 #[.agg s.cs, .int .i64 1] w fun e w' => (∃ K : Nat, e = .returned (.int .i64 (K : Int)) ∧ 0 < K) ∧ Mem.Band gi (gh + 1) w w' := by
 have hr : ∀ i, i < s.N.length → gi < B i := fun i hi => by have := hv.lo; have := hv.mono i (by omega); omega
 have hm : ∀ j i, j < i → i ≤ s.N.length → B (j + 1) ≤ B i := fun j i h1 h2 => hv.rise i (j + 1) (by omega) h2
 have hgm : gi < gm := by have := hv.lo; have := hv.mono s.N.length (Nat.le_refl _); have := hv.top; omega
 have hmh := hv.mh
 have h1 := hide (fun cap W (b : Below w.heap.size w W) => zm7 s.N gi gm cap B W hok.n (fun x hx => ⟨(hok.each x hx).1, fun t ht => ((hok.each x hx).2 t ht).1⟩) hr hm hv.top hgm (Left.start (hv.call b)))
 obtain ⟨c2, q1, q2⟩ := hv.mb
 obtain ⟨c3, q3, q4⟩ := hv.hb
 have lm : gm < w.heap.size := (Array.getElem?_eq_some_iff.1 q1).1
 have lh : gh < w.heap.size := (Array.getElem?_eq_some_iff.1 q3).1
 have h2 := hide (fun cap K W (hK : 0 < K) (hK2 : K ≤ 8500000000000000000) (h : W.heap[gm]? = some (.cells c2 66 (0, 0))) => WMkM.zc5 gm s.M.length cap K c2 W hok.m hK hK2 h (by omega))
 have h3 := hide (fun cap K W (hK : 0 < K) (hK2 : K ≤ 8500000000000000000) (h : W.heap[gh]? = some (.cells c3 130 (0, 0))) => WMkH.zc5 gh s.H.length cap K c3 W hok.h hK hK2 h (by omega))
 have QM := hide q1
 have QH := hide q3
 have ei := hv.ia
 have em := hv.ma
 have eh := hv.ha
 have lM := hok.m
 have lH := hok.h
 clear q1 q2 q3 q4 hv hok hr hm
 obtain ⟨ia, ic, N, ma, mc, M, ha, hc, H, next⟩ := s
 simp only at ei em eh h1 h2 h3 lM lH
 subst ei em eh
 unfold Pl.Sp.cs
 simp only
 have b0 := (Below.refl w.heap.size w).alloc (o := .cells #[.slice (some ⟨gi, 0, none⟩) N.length ic, .slice (some ⟨gm, 0, none⟩) M.length mc, .slice (some ⟨gh, 0, none⟩) H.length hc, .int .i64 next] 28) (Nat.le_refl _)
 have V0 := hide (Mem.Blk.new w #[.slice (some ⟨gi, 0, none⟩) N.length ic, .slice (some ⟨gm, 0, none⟩) M.length mc, .slice (some ⟨gh, 0, none⟩) H.length hc, .int .i64 next] 28)
 have D0 : Hid (Mem.Band gi (gh + 1) w (w.alloc (.cells #[.slice (some ⟨gi, 0, none⟩) N.length ic, .slice (some ⟨gm, 0, none⟩) M.length mc, .slice (some ⟨gh, 0, none⟩) H.length hc, .int .i64 next] 28))) := hide (Mem.Band.of_below b0)
 have QM0 := hide ((b0.block gm lm).trans (za QM))
 have QH0 := hide ((b0.block gh lh).trans (za QH))
 have a0 := (za V0).cell 0
 simp only [kGs] at a0
 clear QM QH
 go_enter Tryz.func20, Tryz.ntmps20
 go_wp2_with fail
 have HC := hide (za h1 ic _ b0)
 clear h1
 generalize w.alloc (.cells #[.slice (some ⟨gi, 0, none⟩) N.length ic, .slice (some ⟨gm, 0, none⟩) M.length mc, .slice (some ⟨gh, 0, none⟩) H.length hc, .int .i64 next] 28) = wA at b0 V0 D0 QM0 QH0 a0 HC ⊢
 refine (za HC).mono ?_
 rintro e w1 ⟨⟨K1, rfl, k1, k2⟩, bd1⟩
 have hlA : gh < wA.heap.size := (Array.getElem?_eq_some_iff.1 (za QH0)).1
 have hlV : w.heap.size < wA.heap.size := (za V0).lt
 have V1 := hide (bd1.blk (za V0) (.inr (by omega)))
 have QM1 := hide ((bd1.block gm (by omega) (.inr (Nat.le_refl _))).trans (za QM0))
 have QH1 := hide ((bd1.block gh hlA (.inr (by omega))).trans (za QH0))
 have D1 := hide ((za D0).trans ⟨bd1.os, bd1.tape, bd1.output, bd1.size, fun b hb hh => bd1.block b hb (by omega)⟩)
 have hl1 := bd1.size
 clear HC bd1 V0 D0 QM0 QH0 a0 b0
 have a1 := (za V1).cell 1
 simp only [kGs] at a1
 have HC := hide (za h2 mc K1 w1 k1 (by omega) (za QM1))
 clear h2
 go_wp2_with fail
 refine (za HC).mono ?_
 rintro e w2 ⟨rfl, -, -, gr⟩
 have V2 := hide ((za V1).grown gr (fun e => by have := Option.some.inj e; omega))
 have QH2 := hide ((gr.block gh (by omega) (fun e => by have := Option.some.inj e; omega)).trans (za QH1))
 have D2 := hide ((za D1).trans (Mem.Band.zq7 gr (by omega) (by omega)))
 have hl2 := gr.size
 clear HC gr V1 D1 QM1 QH1 a1
 have a2 := (za V2).cell 2
 simp only [kGs] at a2
 have HC := hide (za h3 hc (K1 + 3 * M.length) w2 (by omega) (by omega) (za QH2))
 clear h3
 go_wp2_with fail
 refine (za HC).mono ?_
 rintro e w3 ⟨rfl, -, -, gr⟩
 have D3 := hide ((za D2).trans (Mem.Band.zq7 gr (by omega) (by omega)))
 clear HC gr V2 D2 QH2 a2
 go_wp2
 go_ret
 exact ⟨⟨_, rfl, by omega⟩, za D3⟩
end WMkX
end Go.Proofs.YtlgbdbmikmbioaaGreatDoor

