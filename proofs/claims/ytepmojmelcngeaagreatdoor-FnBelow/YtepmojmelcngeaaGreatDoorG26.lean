/- Several texts of one claim in one file: WSource, WDrawRw, WNames3. -/
import Derived.Test.YtepmojmelcngeaaGreatDoorG19
import Derived.Test.YtepmojmelcngeaaGreatDoorWDrawTr
import Derived.Test.YtepmojmelcngeaaGreatDoorWTreeR
import Derived.Test.YtepmojmelcngeaaGreatDoorG23
import Derived.Test.YtepmojmelcngeaaGreatDoorG03
import Derived.Test.YtepmojmelcngeaaGreatDoorG01
/- The walk of the draws' beginning: a source out of bytes. -/
namespace Go.Proofs.YtepmojmelcngeaaGreatDoor
open Go.RowKit
namespace WSrc
theorem fin {w wr w1 : World} {len cap p : Nat} {a : Option Addr} {v : Value} {m sz : Int} {C : Array Value} (hr : RowB w w.heap.size a len cap) (hbel : Below w.heap.size w wr) (hp : p ≤ len) (hz0 : 0 ≤ sz) (hz1 : sz ≤ 12)
    (hsz : wr.heap.size ≤ w1.heap.size) (hk : ∀ j, j < w.heap.size → w1.heap[j]? = wr.heap[j]?) (e1 : w1.os = wr.os) (e2 : w1.tape = wr.tape) (e3 : w1.output = wr.output)
    (hb : w1.heap[w.heap.size]? = some (.cells C 132 (0, 0))) (hC : C = #[.slice a len cap, .int .i64 (p : Int), v, .int .i64 sz]) (hv : v = .int .u64 m) : Src w1 w.heap.size a len cap ∧ Below w.heap.size w w1 := by
  have hbel2 : Below w.heap.size w w1 := hbel.trans ⟨e1, e2, e3, hsz, hk⟩
  refine ⟨⟨⟨hr.1, hr.2.1, fun i hi => ?_⟩, p, m, sz, by rw [hb, hC, hv], hp, hz0, hz1⟩, hbel2⟩
  obtain ⟨b, o, n, h1, h2, h3, h4⟩ := hr.2.2 i hi
  exact ⟨b, o, n, h1, h2, h3, (hbel2.cell (p := ⟨b, o + i, none⟩) h2).trans h4⟩
set_option maxRecDepth 100000 in
theorem source_any (a : Option Addr) (len cap : Nat) (w : World) (hr : RowB w w.heap.size a len cap) :
    Calls Tryz.prog 64 #[.slice a len cap] w fun e w' => e = .returned (.pointer (some ⟨w.heap.size, 0, none⟩)) ∧ Src w' w.heap.size a len cap ∧ Below w.heap.size w w' := by
  have hl : (len : Int) ≤ 9223372036854775807 := by have h1 := hr.2.1; have h2 := hr.1; unfold maxLen at h1; omega
  have HR := hide hr
  clear hr
  go_enter Tryz.func64, Tryz.ntmps64
  go_wp2
  go_loopw [4] (fun i wr => ∃ (k : Nat) (m : Int), k ≤ 64 ∧ k ≤ len ∧ i = .int .i64 (k : Int) ∧ Hid (wr.heap[w.heap.size]? = some (.cells #[.slice a len cap, .int .i64 0, .int .u64 m, .int .i64 0] 132 (0, 0))) ∧ Below w.heap.size w wr) (fun i _ => 64 - (intOf i).toNat)
  case atStart => exact ⟨0, _, by omega, by omega, rfl, hide (heap_alloc_new w _), (Below.refl _ _).alloc (Nat.le_refl _) _⟩
  case round =>
    obtain ⟨k, m, hk, hkl, rfl, HB, hbel⟩ := hrel
    have c0 : wr.cell? ⟨w.heap.size, 0, none⟩ = some (.slice a len cap) := by rw [cell_of_row wr _ 0 _ _ (0, 0) (unhide HB)]; rfl
    have c2 : wr.cell? ⟨w.heap.size, 2, none⟩ = some (.int .u64 m) := by rw [cell_of_row wr _ 2 _ _ (0, 0) (unhide HB)]; rfl
    have c3 : wr.cell? ⟨w.heap.size, 3, none⟩ = some (.int .i64 0) := by rw [cell_of_row wr _ 3 _ _ (0, 0) (unhide HB)]; rfl
    have f2 : wr.frozen? ⟨w.heap.size, 2, none⟩ = false := Mem.row_frozen (unhide HB)
    have f3 : wr.frozen? ⟨w.heap.size, 3, none⟩ = false := Mem.row_frozen (unhide HB)
    by_cases hlt : k < len ∧ k < 64
    · obtain ⟨b, o, n, rfl, hbS, hn, hc⟩ := (unhide HR).2.2 k hlt.1
      have hc1 : wr.cell? ⟨b, o + k, none⟩ = some (.int .u8 (n : Int)) := (hbel.cell (p := ⟨b, o + k, none⟩) hbS).trans hc
      have t1 : (k : Int) < (len : Int) := by omega
      have t2 : (k : Int) < 64 := by omega
      have t3 : (0 : Int) ≤ (k : Int) := by omega
      clear hc hlt
      go_wp2
      go_region
      go_wp2
      go_roundw
      case rel =>
        refine ⟨k + 1, _, by omega, by omega, by go_num, hide (heap_setCell_same _ _ 2 _ _ _ (unhide HB)), ?_⟩
        exact hbel.trans ⟨rfl, rfl, rfl, by simp [World.setCell], fun j hj => Below.heap_setCell _ _ _ _ (by show j ≠ w.heap.size; omega)⟩
      case measure => simp [intOf]; omega
    · have HF : Hid (¬ (k < len ∧ k < 64)) := hlt
      by_cases h12 : 12 < len / 20
      · have t4 : (12 : Int) < (len : Int) / 20 := by omega
        have hlt1 : k < len := by omega
        have hlt2 : ¬ (k : Int) < 64 := by omega
        have hlt3 : (k : Int) < (len : Int) := by omega
        clear hlt
        go_wp2
        go_ret
        exact ⟨rfl, fin (unhide HR) hbel (Nat.zero_le _) (by omega) (by omega) (by rw [size_set, size_set]; exact Nat.le_refl _) (fun j hj => by rw [Below.heap_setCell _ _ _ _ (by show j ≠ w.heap.size; omega), Below.heap_setCell _ _ _ _ (by show j ≠ w.heap.size; omega)]) rfl rfl rfl (heap_setCell_same _ _ 3 _ _ _ (heap_setCell_same _ _ 3 _ _ _ (unhide HB))) rfl rfl⟩
      · have t4 : ¬ (12 : Int) < (len : Int) / 20 := by omega
        by_cases hlt1 : k < len
        · have hlt2 : ¬ (k : Int) < 64 := by omega
          have hlt3 : (k : Int) < (len : Int) := by omega
          clear hlt
          go_wp2
          go_ret
          exact ⟨rfl, fin (unhide HR) hbel (Nat.zero_le _) (by omega) (by omega) (by rw [size_set]; exact Nat.le_refl _) (fun j hj => by rw [Below.heap_setCell _ _ _ _ (by show j ≠ w.heap.size; omega)]) rfl rfl rfl (heap_setCell_same _ _ 3 _ _ _ (unhide HB)) rfl rfl⟩
        · have hlt3 : ¬ (k : Int) < (len : Int) := by omega
          clear hlt
          go_wp2
          go_ret
          exact ⟨rfl, fin (unhide HR) hbel (Nat.zero_le _) (by omega) (by omega) (by rw [size_set]; exact Nat.le_refl _) (fun j hj => by rw [Below.heap_setCell _ _ _ _ (by show j ≠ w.heap.size; omega)]) rfl rfl rfl (heap_setCell_same _ _ 3 _ _ _ (unhide HB)) rfl rfl⟩
end WSrc
end Go.Proofs.YtepmojmelcngeaaGreatDoor

/- A row below lies below what comes later (of WDrawSm). -/
namespace Go.Proofs.YtepmojmelcngeaaGreatDoor
open Go.RowKit
namespace WSrc
theorem row_up {w W : World} {S len cap : Nat} {a : Option Addr} (h : RowB w w.heap.size a len cap) (b : Below w.heap.size w W) (hS : w.heap.size ≤ S) : RowB W S a len cap :=
  ⟨h.1, h.2.1, fun i hi => by
    obtain ⟨g, o, n, h1, h2, h3, h4⟩ := h.2.2 i hi
    exact ⟨g, o, n, h1, Nat.lt_of_lt_of_le h2 hS, h3, (b.cell (p := ⟨g, o + i, none⟩) h2).trans h4⟩⟩
end WSrc
end Go.Proofs.YtepmojmelcngeaaGreatDoor

/- The walks of the specification's l03Names and TreeNames. -/
namespace Go.Proofs.YtepmojmelcngeaaGreatDoor
open Go.RowKit
namespace WNamesT
theorem infoS : (Tryz.prog.info? 9).map (fun i => (i.zero, i.size, i.bytes)) = some (some (.string ⟨#[]⟩), 1, 16) := by kernel_rfl
theorem tl_eq {a b : ByteArray} (h : a ≠ b) : (a.toList == b.toList) = false := by
  rw [beq_eq_false_iff_ne]
  intro e
  exact h (Pl.by_inj (by rw [ByteArray.toList_eq, ByteArray.toList_eq] at e; exact e))
theorem own_snoc {w : World} {B : Nat} {v : Value} {K : List ByteArray} {t : ByteArray} (h : w.ownsRow B 9 1 v (K.length + 1) (K.map Value.string ++ [.string t])) : w.ownsRow B 9 1 v (K ++ [t]).length ((K ++ [t]).map Value.string) := by
  rw [List.map_append, List.length_append]; exact h
set_option linter.unusedSimpArgs false in
set_option maxRecDepth 100000 in
set_option maxHeartbeats 2000000 in
theorem l03_any (a : Option Addr) (cap : Nat) (L : List Pl.Nd) (p : ByteArray) (w : World) (hl : L.length ≤ 1048576) (hv : Mem.isNodes w a L) (hok : ∀ n ∈ L, n.path.size ≤ 1048576 ∧ n.data.size ≤ 1048576) :
    Calls Tryz.prog 54 #[.agg #[.slice a L.length cap], .string p] w fun e w' => ∃ v, e = .returned v ∧ w'.ownsRow w.heap.size 9 1 v (Pl.kidsL p L).length ((Pl.kidsL p L).map Value.string) ∧ Below w.heap.size w w' := by
  obtain ⟨i0, hi, hz0, hz1, hz2⟩ := info_parts infoS
  have HV := hide hv
  have HO := hide hok
  have b0 : Below w.heap.size w ((w.alloc (.cells #[.slice a L.length cap] 31)).alloc (.cells #[] 9)) := ((Below.refl _ _).alloc (Nat.le_refl _) _).alloc (by simp) _
  have V0 := (Mem.Blk.new w #[.slice a L.length cap] 31).alloc (.cells #[] 9)
  have O0 : ((w.alloc (.cells #[.slice a L.length cap] 31)).alloc (.cells #[] 9)).ownsRow (w.heap.size + 1) 9 1 (.slice (some ⟨w.heap.size + 1, 0, none⟩) 0 0) (Pl.kidsL p (L.take 0)).length ((Pl.kidsL p (L.take 0)).map Value.string) :=
    ⟨rfl, .inr ⟨w.heap.size + 1, 0, #[], rfl, Nat.le_refl _, Mem.new_two _ _ _, Nat.le_refl _, Nat.zero_le _, rfl, rfl⟩⟩
  have HB0 := hide b0
  have HV0 := hide V0
  have HO0 := hide O0
  clear hv hok b0 V0 O0
  go_enter Tryz.func54, Tryz.ntmps54
  go_wp2
  go_loopw [5, 6] (fun v i wr => ∃ k : Nat, k ≤ L.length ∧ i = .int .i64 (k : Int) ∧ Hid (Below w.heap.size w wr) ∧ Hid (Mem.Blk wr w.heap.size #[.slice a L.length cap] 31) ∧ Hid (wr.ownsRow (w.heap.size + 1) 9 1 v (Pl.kidsL p (L.take k)).length ((Pl.kidsL p (L.take k)).map Value.string))) (fun _ i _ => L.length - (intOf i).toNat)
  case atStart => exact ⟨0, Nat.zero_le _, rfl, HB0, HV0, HO0⟩
  case round =>
    obtain ⟨k, hk, rfl, HB, HO1, HW⟩ := hrel
    clear HB0 HV0 HO0
    have c1 := (unhide HO1).cell 0
    simp only [kA0, kA1] at c1
    by_cases hlt : k < L.length
    · obtain ⟨n, hn⟩ : ∃ n, L[k]? = some n := ⟨_, List.getElem?_eq_getElem hlt⟩
      obtain ⟨b, o, rfl, hb, q0, q1, q2, q3, q4⟩ := (Mem.nodes_call (unhide HV) (unhide HB)) k n hn
      have y1 : (k : Int) < (L.length : Int) := by omega
      have y3 : (0 : Int) ≤ (k : Int) := by omega
      have hno := (unhide HO n (List.mem_of_getElem? hn)).1
      have hpa := hide (fun W => WPathS.parent_any n.path W (by unfold maxLen; omega))
      have hba := hide (fun W => WPathS.base1_any n.path W (by unfold maxLen; omega))
      have HLEN := hide (Pl.kids_len p L k)
      by_cases hk0 : Pl.parent n.path = p
      · have HK := hide (Pl.kids_in hn hk0)
        rw [hk0] at hpa
        generalize Pl.base n.path = BB at hba HK
        clear hn hk0 hno
        obtain ⟨qp, qk, qd, qt, qm⟩ := n
        simp only at q0 q1 q2 q3 q4 hpa hba
        have HSZ := hide (unhide HO1).lt
        have HLT := hide ((unhide HW).lt)
        go_wp2_with (first | (go_at_call 56; refine (unhide hpa _).mono ?_; rintro e w' ⟨rfl, hw⟩; obtain rfl := hw.symm) | (go_at_call 95; refine (unhide hba _).mono ?_; rintro e w' ⟨rfl, hw⟩; obtain rfl := hw.symm) | (at_builtin; refine wpList_append_own _ rfl _ _ 46 rfl (w.heap.size + 1) 9 i0 (.string ⟨#[]⟩) 1 16 Tryz.underlying46 hi hz0 hz1 hz2 rfl (by decide) _ _ _ rfl ((unhide HW).alloc _) ⟨wr.heap.size, 0, none⟩ 1 1 [.string BB] rfl rfl (Mem.one_new _ _ _) (fun u hu => by simp at hu; subst hu; rfl) (by have := unhide HLEN; unfold maxLen; omega) (by have := unhide HLEN; omega) (by have := unhide HSZ; simp; omega) ?_))
        intro v' wZ hownZ hgrow _
        have OW := hide (show wZ.ownsRow (w.heap.size + 1) 9 1 v' (Pl.kidsL p (L.take (k + 1))).length ((Pl.kidsL p (L.take (k + 1))).map Value.string) by rw [unhide HK]; exact own_snoc hownZ)
        have BZ := hide (((unhide HB).alloc (unhide HB).size (.cells #[.string BB] 9)).grown hgrow (by have := (unhide HB).size; simp; omega) (fun q hq => by have := (unhide HLT q hq).1; omega))
        have VZ := hide (((unhide HO1).alloc (.cells #[.string BB] 9)).grown hgrow (fun e => by have := (unhide HLT _ e.symm).1; omega))
        clear hownZ hgrow HB HO1 HW hpa hba q0 q1 q2 q3 q4
        go_wp2
        go_roundw
        case rel => exact ⟨k + 1, by omega, by go_num, BZ, VZ, OW⟩
        case measure => simp [intOf]; omega
      · have HK := hide (Pl.kids_out hn hk0)
        have t1 := tl_eq hk0
        generalize Pl.parent n.path = PP at hpa t1
        clear hn hk0 hno hba
        obtain ⟨qp, qk, qd, qt, qm⟩ := n
        simp only at q0 q1 q2 q3 q4 hpa
        rw [← unhide HK] at HW
        go_wp2_with (go_at_call 56; refine (unhide hpa _).mono ?_; rintro e w' ⟨rfl, hw⟩; obtain rfl := hw.symm)
        go_roundw
        case rel => exact ⟨k + 1, by omega, by go_num, HB, HO1, HW⟩
        case measure => simp [intOf]; omega
    · obtain rfl : k = L.length := by omega
      rw [List.take_length] at HW
      have y1 : ¬ ((L.length : Int) < (L.length : Int)) := by omega
      go_wp2
      go_ret
      exact ⟨_, rfl, Mem.own_mono (unhide HW) (by omega), unhide HB⟩
end WNamesT
end Go.Proofs.YtepmojmelcngeaaGreatDoor

