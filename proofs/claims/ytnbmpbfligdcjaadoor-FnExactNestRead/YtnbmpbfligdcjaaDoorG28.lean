/- Several texts of one claim in one file: WMk1, WMkN, MemFar, MemOwnI. -/
import Derived.Test.YtnbmpbfligdcjaaDoorG07
import Derived.Test.YtnbmpbfligdcjaaDoorG02
import Derived.Test.YtnbmpbfligdcjaaDoorProg
import Derived.WalkSpells
import Derived.Deep.QuietTactic
import Derived.BigQuiet
import Derived.Deep.RegionHeld3
import Derived.Test.YtnbmpbfligdcjaaDoorG06
import Derived.Test.YtnbmpbfligdcjaaDoorG20
import Derived.Test.YtnbmpbfligdcjaaDoorG26
/- The walks of the laws' own small functions over lists of texts: are they the same, marks laid, marks still there. -/
namespace Go.Proofs.YtnbmpbfligdcjaaDoor
open Go.RowKit
namespace Pl
/-- The digits of a number ahead of what is there; f: no fewer than the number. -/
def decF : Nat → Nat → List UInt8 → List UInt8
  | 0, _, out => out
  | f + 1, k, out => if k = 0 then out else decF f (k / 10) (UInt8.ofNat (48 + k % 10) :: out)
theorem decF_zero (f : Nat) (out : List UInt8) : decF f 0 out = out := by cases f <;> simp [decF]
theorem decF_step {f k : Nat} (h : 0 < k) (out : List UInt8) : decF (f + 1) k out = decF f (k / 10) (UInt8.ofNat (48 + k % 10) :: out) := by
  rw [decF, if_neg (by omega)]
/-- The mark of a number. -/
def mark (k : Nat) : ByteArray := ⟨(109 :: decF k k []).toArray⟩
/-- n marks, from k on. -/
def marks (k : Nat) : Nat → List ByteArray
  | 0 => []
  | n + 1 => marks k n ++ [mark (k + n)]
theorem marks_length (k n : Nat) : (marks k n).length = n := by
  induction n with
  | zero => rfl
  | succ n ih => rw [marks, List.length_append, ih]; rfl
theorem marks_get (k : Nat) : ∀ n j, j < n → (marks k n)[j]? = some (mark (k + j)) := by
  intro n
  induction n with
  | zero => intro j h; omega
  | succ n ih =>
    intro j h
    rw [marks]
    by_cases hj : j < n
    · rw [List.getElem?_append_left (by rw [marks_length]; exact hj)]; exact ih j hj
    · obtain rfl : j = n := by omega
      rw [List.getElem?_append_right (by rw [marks_length]; exact Nat.le_refl _), marks_length, Nat.sub_self]; rfl
end Pl
namespace WMarks
set_option maxRecDepth 100000 in
set_option maxHeartbeats 400000 in
theorem mark_any (K : Nat) (w : World) (h0 : 0 < K) (hK : K ≤ 1000000000000000000) :
    Calls Tryd.prog 86 #[.int .i64 (K : Int)] w fun e w' => e = .returned (.string (Pl.mark K)) ∧ Below w.heap.size w w' := by
  have p1 : ¬ (K : Int) ≤ 0 := by omega
  go_enter Tryd.func86, Tryd.ntmps86
  go_wp2
  go_loopw [0, 3] (fun a o wr => ∃ (f k : Nat) (out : List UInt8), k ≤ f ∧ out.length + k ≤ K ∧ a = .int .i64 (k : Int) ∧ o = .string ⟨out.toArray⟩ ∧ Below w.heap.size w wr ∧ Hid (Pl.decF f k out = Pl.decF K K [])) (fun a _ _ => (intOf a).toNat)
  case atStart => exact ⟨K, K, [], Nat.le_refl _, by simp, rfl, rfl, Below.refl _ _, rfl⟩
  case round =>
    obtain ⟨f, k, out, hf, hk, rfl, rfl, hbel, HD⟩ := hrel
    have hsz := hbel.size
    have ho : ¬ 9223372036854775807 < 1 + out.length := by omega
    by_cases hk0 : 0 < k
    · obtain ⟨f, rfl⟩ : ∃ g, f = g + 1 := ⟨f - 1, by omega⟩
      have HD2 : Hid (Pl.decF f (k / 10) (UInt8.ofNat (48 + k % 10) :: out) = Pl.decF K K []) := (Pl.decF_step hk0 out).symm.trans HD.out
      have p2 : (0 : Int) < (k : Int) := by omega
      clear HD
      have hb : ((UInt8.ofNat (48 + k % 10)).toNat : Int) = 48 + (k : Int) % 10 := by
        rw [UInt8.toNat_ofNat_of_lt' (by show 48 + k % 10 < 256; omega)]; omega
      have hcv := Mem.row_text (P := Tryd.prog) (w := wr.alloc (.cells #[.int .u8 (48 + (k : Int) % 10)] 5)) (n := 1) (cap := 1) Tryd.underlying100 Tryd.underlying5 Tryd.underlying9 [UInt8.ofNat (48 + k % 10)] rfl (heap_alloc_new wr _) (by simp only [List.map_cons, List.map_nil, Pl.byteVal, hb]; rfl)
      have HX : Hid ((⟨[UInt8.ofNat (48 + k % 10)].toArray⟩ : ByteArray) ++ (⟨out.toArray⟩ : ByteArray) = ⟨(UInt8.ofNat (48 + k % 10) :: out).toArray⟩) := by
        show _ = _
        rw [Pl.put_behind]; rfl
      have hbel2 := hbel.alloc hsz (.cells #[.int .u8 (48 + (k : Int) % 10)] 5)
      generalize UInt8.ofNat (48 + k % 10) = b at hcv HX HD2
      clear hb
      go_wp2
      go_roundw
      case rel => exact ⟨f, k / 10, b :: out, by omega, by simp; omega, by go_num, congrArg Value.string HX.out, hbel2, HD2⟩
      case measure => simp [intOf]; omega
    · have HD2 : Hid (out = Pl.decF K K []) := by
        obtain rfl : k = 0 := by omega
        exact (Pl.decF_zero f out).symm.trans HD.out
      have p2 : ¬ (0 : Int) < (k : Int) := by omega
      have HX : Hid ((⟨#[109]⟩ : ByteArray) ++ (⟨out.toArray⟩ : ByteArray) = Pl.mark K) := by
        show _ = _
        rw [Pl.mark, ← HD2.out]
        exact Pl.put_behind [109] ⟨out.toArray⟩
      clear HD
      go_wp2
      go_ret
      exact ⟨congrArg (fun x => Ending.returned (.string x)) HX.out, hbel⟩
end WMarks
end Go.Proofs.YtnbmpbfligdcjaaDoor

/- The walks of the laws' own marks on nodes. -/
namespace Go.Proofs.YtnbmpbfligdcjaaDoor
open Go.RowKit
namespace Pl
/-- The i-th node's marks, from K on. -/
def markNd (K i : Nat) : Nd := ⟨mark (K + 5 * i), ((K + 5 * i + 1 : Nat) : Int), mark (K + 5 * i + 2), ((K + 5 * i + 3 : Nat) : Int), ((K + 5 * i + 4 : Nat) : Int)⟩
def markN (K n : Nat) : List Nd := (List.range n).map (markNd K)
theorem markN_get {K n i : Nat} {m : Nd} (h : (markN K n)[i]? = some m) : i < n ∧ m = markNd K i := by
  unfold markN at h
  rw [List.getElem?_map, Option.map_eq_some_iff] at h
  obtain ⟨j, hj, rfl⟩ := h
  obtain ⟨h1, h2⟩ := List.getElem?_eq_some_iff.1 hj
  simp at h1 h2
  subst h2
  exact ⟨h1, rfl⟩
theorem markN_length (K n : Nat) : (markN K n).length = n := by simp [markN]
/-- The j-th node of a row of cells. -/
def rowAt (cv : Array Value) (j : Nat) (m : Nd) : Prop := cv[j * 5]? = some (.string m.path) ∧ cv[j * 5 + 1]? = some (.int .i64 m.kind) ∧ cv[j * 5 + 2]? = some (.string m.data) ∧ cv[j * 5 + 3]? = some (.int .i64 m.time) ∧ cv[j * 5 + 4]? = some (.int .i64 m.mark)
end Pl
namespace WMarkN
theorem grown_call {w v v' : World} {g : Nat} (h : w.grownBy v (some g)) (b : Below v.heap.size v v') : w.grownBy v' (some g) :=
  ⟨b.os.trans h.os, b.tape.trans h.tape, b.output.trans h.output, Nat.le_trans h.size b.size, fun j hj hne => (b.block j (Nat.lt_of_lt_of_le hj h.size)).trans (h.block j hj hne)⟩
theorem grown_set {w v : World} {g o : Nat} {x : Value} (h : w.grownBy v (some g)) : w.grownBy (v.setCell ⟨g, o, none⟩ x) (some g) :=
  ⟨h.os, h.tape, h.output, Nat.le_trans h.size (by simp [World.setCell]), fun j hj hne => (Below.heap_setCell _ _ _ _ (by intro e; exact hne (by rw [e]))).trans (h.block j hj hne)⟩
set_option maxRecDepth 100000 in
set_option maxHeartbeats 400000 in
theorem lay_any (g n cap K : Nat) (cur : Array Value) (w : World) (hn : n ≤ 1048576) (hK : 0 < K) (hK2 : K ≤ 100000000000000000) (hrow : w.heap[g]? = some (.cells cur 57 (0, 0))) (hsz : n * 5 ≤ cur.size) :
    Calls Tryd.prog 71 #[.slice (some ⟨g, 0, none⟩) n cap, .int .i64 (K : Int)] w fun e w' => e = .returned (.int .i64 ((K + 5 * n : Nat) : Int)) ∧
      (∃ cur', w'.heap[g]? = some (.cells cur' 57 (0, 0)) ∧ cur'.size = cur.size) ∧ Mem.isNodes w' (some ⟨g, 0, none⟩) (Pl.markN K n) ∧ w.grownBy w' (some g) := by
  have HR0 := hide hrow
  have HS0 := hide hsz
  clear hrow hsz
  go_enter Tryd.func71, Tryd.ntmps71
  go_wp2
  go_loopw [1, 5] (fun a i wr => ∃ (k q : Nat) (cv : Array Value), k ≤ n ∧ q = K + 5 * k ∧ i = .int .i64 (k : Int) ∧ a = .int .i64 (q : Int) ∧ Hid (wr.heap[g]? = some (.cells cv 57 (0, 0))) ∧ Hid (cv.size = cur.size) ∧ Hid (w.grownBy wr (some g)) ∧
      Hid (∀ j, j < k → Pl.rowAt cv j (Pl.markNd K j))) (fun _ i _ => n - (intOf i).toNat)
  case atStart => exact ⟨0, K, cur, Nat.zero_le _, rfl, rfl, rfl, HR0, rfl, ⟨rfl, rfl, rfl, Nat.le_refl _, fun _ _ _ => rfl⟩, fun j h => absurd h (by omega)⟩
  case round =>
    obtain ⟨k, q, cv, hk, hq, rfl, rfl, HR, HS, HG, HA⟩ := hrel
    by_cases hlt : k < n
    · have y1 : (k : Int) < (n : Int) := by omega
      have y3 : (0 : Int) ≤ (k : Int) := by omega
      have HM := hide (fun W => WMarks.mark_any q W (by omega) (by omega))
      have HM2 := hide (fun W => WMarks.mark_any (q + 2) W (by omega) (by omega))
      rw [show ((q + 2 : Nat) : Int) = (q : Int) + 1 + 1 by omega] at HM2
      have HQ := hide hq
      have q1 : (q : Int) ≤ 1000000000000000000 := by omega
      clear hq
      go_wp2_with fail
      refine (unhide HM _).mono ?_
      rintro e w2 ⟨rfl, b2⟩
      have hg : g < wr.heap.size := (Array.getElem?_eq_some_iff.1 (unhide HR)).1
      have HR2 := hide ((b2.block _ hg).trans (unhide HR))
      have hcz : n * 5 ≤ cv.size := by rw [unhide HS]; exact unhide HS0
      have s0 : ∃ x, w2.cell? ⟨g, k * 5, none⟩ = some x := ⟨_, (cell_of_row w2 _ (k * 5) _ _ (0, 0) (unhide HR2)).trans (Array.getElem?_eq_getElem (by omega))⟩
      have s1 : ∃ x, w2.cell? ⟨g, k * 5 + 1, none⟩ = some x := ⟨_, (cell_of_row w2 _ (k * 5 + 1) _ _ (0, 0) (unhide HR2)).trans (Array.getElem?_eq_getElem (by omega))⟩
      obtain ⟨x0, s0⟩ := s0
      obtain ⟨x1, s1⟩ := s1
      have f0 : ∀ j, w2.frozen? ⟨g, j, none⟩ = false := fun j => Mem.row_frozen (unhide HR2)
      have HG2 := hide (grown_call (unhide HG) b2)
      have HCZ := hide hcz
      clear b2 HR HG hcz hg HM
      go_wp2_with fail
      have HR3 := hide (heap_setCell_same _ _ (k * 5 + 1) _ _ (.int .i64 ((q : Int) + 1)) (heap_setCell_same _ _ (k * 5) _ _ (.string (Pl.mark q)) (unhide HR2)))
      have HG3 := hide (grown_set (o := k * 5 + 1) (x := .int .i64 ((q : Int) + 1)) (grown_set (o := k * 5) (x := .string (Pl.mark q)) (unhide HG2)))
      refine (unhide HM2 _).mono ?_
      rintro e w4 ⟨rfl, b4⟩
      have HR4 := hide ((b4.block _ (Array.getElem?_eq_some_iff.1 (unhide HR3)).1).trans (unhide HR3))
      have HG4 := hide (grown_call (unhide HG3) b4)
      have hcz := unhide HCZ
      have s2 : ∃ x, w4.cell? ⟨g, k * 5 + 2, none⟩ = some x := ⟨_, (cell_of_row w4 _ (k * 5 + 2) _ _ (0, 0) (unhide HR4)).trans (Array.getElem?_eq_getElem (by simp; omega))⟩
      have s3 : ∃ x, w4.cell? ⟨g, k * 5 + 3, none⟩ = some x := ⟨_, (cell_of_row w4 _ (k * 5 + 3) _ _ (0, 0) (unhide HR4)).trans (Array.getElem?_eq_getElem (by simp; omega))⟩
      have s4 : ∃ x, w4.cell? ⟨g, k * 5 + 4, none⟩ = some x := ⟨_, (cell_of_row w4 _ (k * 5 + 4) _ _ (0, 0) (unhide HR4)).trans (Array.getElem?_eq_getElem (by simp; omega))⟩
      obtain ⟨x2, s2⟩ := s2
      obtain ⟨x3, s3⟩ := s3
      obtain ⟨x4, s4⟩ := s4
      have f4 : ∀ j, w4.frozen? ⟨g, j, none⟩ = false := fun j => Mem.row_frozen (unhide HR4)
      clear b4 HR2 HG2 HR3 HG3 hcz HM2 s0 s1 f0
      go_wp2
      go_roundw
      case rel =>
        refine ⟨k + 1, q + 5, _, by omega, by have := unhide HQ; omega, by go_num, by go_num, hide (heap_setCell_same _ _ (k * 5 + 4) _ _ _ (heap_setCell_same _ _ (k * 5 + 3) _ _ _ (heap_setCell_same _ _ (k * 5 + 2) _ _ _ (unhide HR4)))), ?_, hide (grown_set (grown_set (grown_set (unhide HG4)))), ?_⟩
        · exact hide (by simpa using unhide HS)
        · intro j hj
          have hcz := unhide HCZ
          rcases Nat.lt_succ_iff_lt_or_eq.1 hj with h'' | rfl
          · obtain ⟨i0, i1, i2, i3, i4⟩ := HA.out j h''
            simp only [Pl.rowAt, Array.getElem?_setIfInBounds]
            refine ⟨?_, ?_, ?_, ?_, ?_⟩ <;> (repeat (rw [if_neg (by omega)])) <;> assumption
          · have hq := unhide HQ
            simp only [Pl.rowAt, Pl.markNd, Array.getElem?_setIfInBounds, Array.size_setIfInBounds, ← hq]
            refine ⟨?_, ?_, ?_, ?_, ?_⟩ <;> simp <;> omega
      case measure => simp [intOf]; omega
    · obtain rfl : k = n := by omega
      have y1 : ¬ (k : Int) < (k : Int) := by omega
      have hq2 : (q : Int) = ((K + 5 * k : Nat) : Int) := by omega
      have HQ := hide hq2
      clear hq2 hq
      go_wp2
      go_ret
      refine ⟨by rw [unhide HQ]; rfl, ⟨cv, unhide HR, unhide HS⟩, fun j m hj => ?_, unhide HG⟩
      obtain ⟨hjl, rfl⟩ := Pl.markN_get hj
      obtain ⟨i0, i1, i2, i3, i4⟩ := HA.out j hjl
      refine ⟨g, 0, rfl, (Array.getElem?_eq_some_iff.1 (unhide HR)).1, ?_, ?_, ?_, ?_, ?_⟩
      · rw [cell_of_row wr _ _ _ _ (0, 0) (unhide HR), Nat.zero_add]; exact i0
      · rw [cell_of_row wr _ _ _ _ (0, 0) (unhide HR), Nat.zero_add]; exact i1
      · rw [cell_of_row wr _ _ _ _ (0, 0) (unhide HR), Nat.zero_add]; exact i2
      · rw [cell_of_row wr _ _ _ _ (0, 0) (unhide HR), Nat.zero_add]; exact i3
      · rw [cell_of_row wr _ _ _ _ (0, 0) (unhide HR), Nat.zero_add]; exact i4
end WMarkN
end Go.Proofs.YtnbmpbfligdcjaaDoor

/- Rows of nodes through a store elsewhere. -/
namespace Go.Proofs.YtnbmpbfligdcjaaDoor
open Go.RowKit
namespace Mem
theorem nodes_far {w : World} {g o : Nat} {L : List Pl.Nd} (h : isNodes w (some ⟨g, o, none⟩) L) (p : Addr) (v : Value) (hp : p.block ≠ g) : isNodes (w.setCell p v) (some ⟨g, o, none⟩) L := fun i n hi => by
  obtain ⟨g', o', h1, h2, h3, h4, h5, h6, h7⟩ := h i n hi
  cases h1
  refine ⟨g, o, rfl, by simpa using h2, ?_, ?_, ?_, ?_, ?_⟩ <;> (rw [World.cell?_setCell_far _ _ _ _ hp]; assumption)
end Mem
end Go.Proofs.YtnbmpbfligdcjaaDoor

/- Rows of items that are the call's own, each tree's row its own too; the marks of a law on them. -/
namespace Go.Proofs.YtnbmpbfligdcjaaDoor
open Go.RowKit
namespace Pl
/-- Where the marks of the i-th item begin. -/
def kAt (K : Nat) (Is : List It) : Nat → Nat
  | 0 => K
  | i + 1 => kAt K Is i + match Is[i]? with
    | some x => 1 + 5 * x.t.L.length
    | none => 0
theorem kAt_succ {K : Nat} {Is : List It} {i : Nat} {x : It} (h : Is[i]? = some x) : kAt K Is (i + 1) = kAt K Is i + 1 + 5 * x.t.L.length := by
  rw [kAt, h]
  show kAt K Is i + (1 + 5 * x.t.L.length) = _
  omega
theorem kAt_ge (K : Nat) (Is : List It) (i : Nat) : K ≤ kAt K Is i := by
  induction i with
  | zero => exact Nat.le_refl _
  | succ i ih => simp only [kAt]; omega
/-- An item with its marks. -/
def mkIt (K : Nat) (Is : List It) (i : Nat) (x : It) : It := ⟨(kAt K Is i : Int), ⟨x.t.a, x.t.cap, markN (kAt K Is i + 1) x.t.L.length⟩⟩
/-- The items, the first i of them marked. -/
def mkTo (K : Nat) (Is : List It) (i : Nat) : List It := Is.mapIdx (fun j x => if j < i then mkIt K Is j x else x)
theorem mkTo_len (K : Nat) (Is : List It) (i : Nat) : (mkTo K Is i).length = Is.length := by simp [mkTo]
theorem mkTo_zero (K : Nat) (Is : List It) : mkTo K Is 0 = Is := by
  apply List.ext_getElem?
  intro j
  simp [mkTo, List.getElem?_mapIdx]
theorem mkTo_get (K : Nat) (Is : List It) (i j : Nat) : (mkTo K Is i)[j]? = Is[j]?.map (fun x => if j < i then mkIt K Is j x else x) := by
  simp [mkTo, List.getElem?_mapIdx]
theorem mkTo_succ (K : Nat) {Is : List It} {i : Nat} {x : It} (h : Is[i]? = some x) : (mkTo K Is i).set i (mkIt K Is i x) = mkTo K Is (i + 1) := by
  apply List.ext_getElem?
  intro j
  have hlt := (List.getElem?_eq_some_iff.1 h).1
  rw [List.getElem?_set, mkTo_get, mkTo_get]
  by_cases e : i = j
  · subst e
    rw [if_pos rfl, if_pos (by rw [mkTo_len]; exact hlt), h]
    simp
  · rw [if_neg e]
    cases Is[j]? with
    | none => rfl
    | some y =>
      simp only [Option.map_some]
      congr 1
      by_cases h1 : j < i
      · rw [if_pos h1, if_pos (by omega)]
      · rw [if_neg h1, if_neg (by omega)]
end Pl
namespace Mem
structure OwnI (w : World) (B g : Nat) (Is : List Pl.It) : Prop where
  row : ∃ cur, w.heap[g]? = some (.cells cur 81 (0, 0)) ∧ Is.length * 2 ≤ cur.size
  lo : B ≤ g
  items : isItems w (some ⟨g, 0, none⟩) Is
  own : ∀ (i : Nat) x, Is[i]? = some x → (x.t.a = none ∧ x.t.L = [] ∧ x.t.cap = 0) ∨ ∃ h cur, x.t.a = some ⟨h, 0, none⟩ ∧ B ≤ h ∧ h ≠ g ∧ w.heap[h]? = some (.cells cur 57 (0, 0)) ∧ x.t.L.length * 5 ≤ cur.size
  apart : ∀ (i j : Nat) x y, i ≠ j → Is[i]? = some x → Is[j]? = some y → ∀ h, x.t.a = some ⟨h, 0, none⟩ → y.t.a ≠ some ⟨h, 0, none⟩
theorem OwnI.call {w w' : World} {B g : Nat} {Is : List Pl.It} (o : OwnI w B g Is) (b : Below w.heap.size w w') : OwnI w' B g Is := by
  obtain ⟨cur, h1, h2⟩ := o.row
  refine ⟨⟨cur, (b.block _ (Array.getElem?_eq_some_iff.1 h1).1).trans h1, h2⟩, o.lo, items_call o.items b, fun i x hx => ?_, o.apart⟩
  rcases o.own i x hx with h | ⟨h, c, k1, k2, k3, k4, k5⟩
  · exact .inl h
  · exact .inr ⟨h, c, k1, k2, k3, (b.block _ (Array.getElem?_eq_some_iff.1 k4).1).trans k4, k5⟩
theorem set_get {Is : List Pl.It} {i : Nat} {x x' : Pl.It} (hx : Is[i]? = some x) {j : Nat} {y : Pl.It} (hy : (Is.set i x')[j]? = some y) : (j = i ∧ y = x') ∨ (j ≠ i ∧ Is[j]? = some y) := by
  rw [List.getElem?_set] at hy
  by_cases e : i = j
  · subst e
    rw [if_pos rfl, if_pos (List.getElem?_eq_some_iff.1 hx).1] at hy
    cases hy; exact .inl ⟨rfl, rfl⟩
  · rw [if_neg e] at hy; exact .inr ⟨fun h => e h.symm, hy⟩
/-- An item's number is written. -/
theorem OwnI.many {w : World} {B g i : Nat} {Is : List Pl.It} {x : Pl.It} (o : OwnI w B g Is) (hx : Is[i]? = some x) (k : Int) : OwnI (w.setCell ⟨g, i * 2, none⟩ (.int .i64 k)) B g (Is.set i ⟨k, x.t⟩) := by
  obtain ⟨cur, h1, h2⟩ := o.row
  have hlt := (List.getElem?_eq_some_iff.1 hx).1
  have hr := heap_setCell_same w g (i * 2) cur 81 (.int .i64 k) h1
  have hg := (Array.getElem?_eq_some_iff.1 h1).1
  have far : ∀ h, h ≠ g → (w.setCell ⟨g, i * 2, none⟩ (.int .i64 k)).heap[h]? = w.heap[h]? := fun h hh => heap_setCell_other _ _ _ _ hh
  have nod : ∀ (j : Nat) y, Is[j]? = some y → isNodes (w.setCell ⟨g, i * 2, none⟩ (.int .i64 k)) y.t.a y.t.L := fun j y hy => by
    rcases o.own j y hy with ⟨e1, e2, -⟩ | ⟨h, c, k1, k2, k3, -⟩
    · rw [e2]; exact nodes_nil _ _
    · have := (o.items j y hy).2
      rw [k1] at this ⊢
      exact nodes_far this _ _ (fun e => k3 e.symm)
  refine ⟨⟨_, hr, by simpa using h2⟩, o.lo, fun j y hy => ?_, fun j y hy => ?_, fun a b y z hab hy hz h => ?_⟩
  · rcases set_get hx hy with ⟨rfl, rfl⟩ | ⟨hne, hy'⟩
    · refine ⟨⟨g, 0, rfl, by simpa using hg, ?_, ?_⟩, nod j x hx⟩
      · rw [cell_of_row _ _ _ _ _ (0, 0) hr, Nat.zero_add, Array.getElem?_setIfInBounds, if_pos rfl, if_pos (by omega)]
      · obtain ⟨⟨g', o', e, -, -, c2⟩, -⟩ := o.items j x hx
        cases e
        rw [cell_of_row _ _ _ _ _ (0, 0) h1] at c2
        rw [cell_of_row _ _ _ _ _ (0, 0) hr, Array.getElem?_setIfInBounds, if_neg (by omega)]
        exact c2
    · obtain ⟨⟨g', o', e, -, c1, c2⟩, -⟩ := o.items j y hy'
      cases e
      rw [cell_of_row _ _ _ _ _ (0, 0) h1] at c1 c2
      refine ⟨⟨g, 0, rfl, by simpa using hg, ?_, ?_⟩, nod j y hy'⟩
      · rw [cell_of_row _ _ _ _ _ (0, 0) hr, Array.getElem?_setIfInBounds, if_neg (by omega)]; exact c1
      · rw [cell_of_row _ _ _ _ _ (0, 0) hr, Array.getElem?_setIfInBounds, if_neg (by omega)]; exact c2
  · have key : ∃ (j' : Nat) (y' : Pl.It), Is[j']? = some y' ∧ y'.t = y.t := by
      rcases set_get hx hy with ⟨rfl, rfl⟩ | ⟨-, hy'⟩
      · exact ⟨_, x, hx, rfl⟩
      · exact ⟨_, y, hy', rfl⟩
    obtain ⟨j', y', hy', e⟩ := key
    rw [← e]
    rcases o.own j' y' hy' with h | ⟨h, c, k1, k2, k3, k4, k5⟩
    · exact .inl h
    · exact .inr ⟨h, c, k1, k2, k3, (far h k3).trans k4, k5⟩
  · rcases set_get hx hy with ⟨rfl, rfl⟩ | ⟨-, hy'⟩
    · rcases set_get hx hz with ⟨rfl, -⟩ | ⟨-, hz'⟩
      · exact absurd rfl hab
      · exact o.apart _ _ x z hab hx hz' h
    · rcases set_get hx hz with ⟨rfl, rfl⟩ | ⟨-, hz'⟩
      · exact o.apart _ _ y x hab hy' hx h
      · exact o.apart _ _ y z hab hy' hz' h
/-- A tree's nodes are written. -/
theorem OwnI.nodes {w w' : World} {B g i h : Nat} {Is : List Pl.It} {x : Pl.It} {M : List Pl.Nd} (o : OwnI w B g Is) (hx : Is[i]? = some x) (ha : x.t.a = some ⟨h, 0, none⟩) (gr : w.grownBy w' (some h))
    (hrow : ∃ cur, w'.heap[h]? = some (.cells cur 57 (0, 0)) ∧ x.t.L.length * 5 ≤ cur.size) (hn : isNodes w' (some ⟨h, 0, none⟩) M) (hM : M.length = x.t.L.length) : OwnI w' B g (Is.set i ⟨x.m, ⟨x.t.a, x.t.cap, M⟩⟩) := by
  obtain ⟨cur, h1, h2⟩ := o.row
  have hg := (Array.getElem?_eq_some_iff.1 h1).1
  have hgh : g ≠ h := by
    rcases o.own i x hx with ⟨e, -, -⟩ | ⟨h', c, k1, -, k3, -⟩
    · rw [e] at ha; cases ha
    · rw [k1] at ha; cases ha; exact fun e => k3 e.symm
  have hB : B ≤ h := by
    rcases o.own i x hx with ⟨e, -, -⟩ | ⟨h', c, k1, k2, -⟩
    · rw [e] at ha; cases ha
    · rw [k1] at ha; cases ha; exact k2
  have h1' : w'.heap[g]? = some (.cells cur 81 (0, 0)) := (gr.block g hg (fun e => hgh (Option.some.inj e))).trans h1
  have oth : ∀ (j : Nat) y, j ≠ i → Is[j]? = some y → isNodes w' y.t.a y.t.L := fun j y hj hy => by
    rcases o.own j y hy with ⟨e1, e2, -⟩ | ⟨h', c, k1, k2, k3, -⟩
    · rw [e2]; exact nodes_nil _ _
    · have hh : h' ≠ h := fun e => by subst e; exact o.apart i j x y (fun e => hj e.symm) hx hy _ ha k1
      have := (o.items j y hy).2
      rw [k1] at this ⊢
      exact nodes_grown this gr (fun e => hh (Option.some.inj e))
  have cel : ∀ (j : Nat) y, Is[j]? = some y → ∃ b o', some ⟨g, 0, none⟩ = some (⟨b, o', none⟩ : Addr) ∧ b < w'.heap.size ∧ w'.cell? ⟨b, o' + j * 2, none⟩ = some (.int .i64 y.m) ∧ w'.cell? ⟨b, o' + j * 2 + 1, none⟩ = some y.t.val := fun j y hy => by
    obtain ⟨⟨g', o', e, -, c1, c2⟩, -⟩ := o.items j y hy
    cases e
    rw [cell_of_row _ _ _ _ _ (0, 0) h1] at c1 c2
    exact ⟨g, 0, rfl, Nat.lt_of_lt_of_le hg gr.size, by rw [cell_of_row _ _ _ _ _ (0, 0) h1']; exact c1, by rw [cell_of_row _ _ _ _ _ (0, 0) h1']; exact c2⟩
  refine ⟨⟨cur, h1', by simpa using h2⟩, o.lo, fun j y hy => ?_, fun j y hy => ?_, fun a b y z hab hy hz k => ?_⟩
  · rcases set_get hx hy with ⟨rfl, rfl⟩ | ⟨hne, hy'⟩
    · obtain ⟨b, o', e, q1, q2, q3⟩ := cel j x hx
      refine ⟨⟨b, o', e, q1, q2, ?_⟩, by simp only [ha]; exact hn⟩
      rw [q3]; simp only [Pl.Tr.val, hM]
    · exact ⟨cel j y hy', oth j y hne hy'⟩
  · rcases set_get hx hy with ⟨rfl, rfl⟩ | ⟨hne, hy'⟩
    · obtain ⟨c, r1, r2⟩ := hrow
      exact .inr ⟨h, c, ha, hB, fun e => hgh e.symm, r1, by simp only [hM]; exact r2⟩
    · rcases o.own j y hy' with hh | ⟨h', c, k1, k2, k3, k4, k5⟩
      · exact .inl hh
      · have hne' : h' ≠ h := fun e => by subst e; exact o.apart i j x y (fun e => hne e.symm) hx hy' _ ha k1
        exact .inr ⟨h', c, k1, k2, k3, (gr.block h' (Array.getElem?_eq_some_iff.1 k4).1 (fun e => hne' (Option.some.inj e))).trans k4, k5⟩
  · rcases set_get hx hy with ⟨rfl, rfl⟩ | ⟨-, hy'⟩
    · rcases set_get hx hz with ⟨rfl, -⟩ | ⟨-, hz'⟩
      · exact absurd rfl hab
      · exact o.apart _ _ x z hab hx hz' k
    · rcases set_get hx hz with ⟨rfl, rfl⟩ | ⟨-, hz'⟩
      · exact o.apart _ _ y x hab hy' hx k
      · exact o.apart _ _ y z hab hy' hz' k
end Mem
end Go.Proofs.YtnbmpbfligdcjaaDoor

