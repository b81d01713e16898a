/- The walks of markItemS and heldItemS. -/
import Derived.Test.YteddcihodfkliabGreatDoorMemOwnI
import Derived.Test.YteddcihodfkliabGreatDoorPartV
namespace Go.Proofs.YteddcihodfkliabGreatDoor
open Go.RowKit
namespace WMarkI
set_option maxRecDepth 100000 in
theorem layNil (K : Nat) (w : World) : Calls Tryz.prog 35 #[.slice none 0 0, .int .i64 (K : Int)] w fun e w' => e = .returned (.int .i64 (K : Int)) ∧ Below w.heap.size w w' := by
  go_enter Tryz.func35, Tryz.ntmps35
  go_wp2
  refine wp_loop_rounds 1 ?_
  rw [rounds_succ]
  go_wp2
  go_ret
  exact ⟨rfl, Below.refl _ _⟩
/-- The marks of one tree's nodes. -/
theorem lay_one {w : World} {B g i K : Nat} {Js : List Pl.It} {x : Pl.It} (o : Mem.OwnI w B g Js) (hx : Js[i]? = some x) (hn : x.t.L.length ≤ 1048576) (hK : 0 < K) (hK2 : K ≤ 1000000) :
    Calls Tryz.prog 35 #[.slice x.t.a x.t.L.length x.t.cap, .int .i64 (K : Int)] w fun e w' => e = .returned (.int .i64 ((K + 5 * x.t.L.length : Nat) : Int)) ∧ Mem.OwnI w' B g (Js.set i ⟨x.m, ⟨x.t.a, x.t.cap, Pl.markN K x.t.L.length⟩⟩) ∧ (B ≤ w.heap.size → Below B w w') := by
  rcases o.own i x hx with ⟨e1, e2, e3⟩ | ⟨h, c, k1, k2, k3, k4, k5⟩
  · rw [e1, e2, e3]
    refine (layNil K w).mono fun e w' ⟨he, b⟩ => ⟨he, ?_, fun hb => b.mono hb⟩
    have : Js.set i ⟨x.m, ⟨none, 0, Pl.markN K 0⟩⟩ = Js := by
      apply List.ext_getElem?
      intro j
      rw [List.getElem?_set]
      by_cases e : i = j
      · subst e
        rw [if_pos rfl, if_pos (List.getElem?_eq_some_iff.1 hx).1, hx]
        obtain ⟨m, a, cap, L⟩ := x
        simp only at e1 e2 e3
        subst e1 e2 e3
        rfl
      · rw [if_neg e]
    simp only [List.length_nil]
    rw [this]
    exact o.call b
  · rw [k1]
    refine (WMarkN.lay_any h x.t.L.length x.t.cap K c w hn hK (Nat.le_trans hK2 (by decide)) k4 k5).mono fun e w' ⟨he, ⟨c', r1, r2⟩, hnd, gr⟩ => ⟨he, ?_, fun hb => ?_⟩
    · have := o.nodes hx k1 gr ⟨c', r1, by omega⟩ hnd (Pl.markN_length _ _)
      rw [k1] at this; exact this
    · exact ⟨gr.os, gr.tape, gr.output, gr.size, fun k hk => gr.block k (by omega) (fun e => by cases e; omega)⟩
set_option linter.unusedSimpArgs false in
set_option maxRecDepth 100000 in
set_option maxHeartbeats 1000000 in
theorem mark_any (B g cap K : Nat) (Is : List Pl.It) (w : World) (hn : Is.length ≤ 1000) (hL : ∀ x ∈ Is, x.t.L.length ≤ 1048576) (hK : 0 < K) (hK2 : ∀ i, i ≤ Is.length → Pl.kAt K Is i ≤ 100000) (o : Mem.OwnI w B g Is) (hB : B ≤ w.heap.size) :
    Calls Tryz.prog 12 #[.slice (some ⟨g, 0, none⟩) Is.length cap, .int .i64 (K : Int)] w fun e w' => e = .returned (.int .i64 (Pl.kAt K Is Is.length : Int)) ∧ Mem.OwnI w' B g (Pl.mkTo K Is Is.length) ∧ Below B w w' := by
  have HO0 : Hid (Mem.OwnI w B g (Pl.mkTo K Is 0)) := hide (by rw [Pl.mkTo_zero]; exact o)
  have HL := hide hL
  have HK2 := hide hK2
  have HKG : Hid (∀ i, 0 < Pl.kAt K Is i) := hide (fun i => Nat.lt_of_lt_of_le hK (Pl.kAt_ge K Is i))
  have HKS : Hid (∀ (i : Nat) x, Is[i]? = some x → Pl.kAt K Is (i + 1) = Pl.kAt K Is i + 1 + 5 * x.t.L.length) := hide (fun i x h => Pl.kAt_succ h)
  have HMG : Hid (∀ (i : Nat) x, Is[i]? = some x → (Pl.mkTo K Is i)[i]? = some x) := hide (fun i x h => by rw [Pl.mkTo_get, h]; simp)
  have HMS : Hid (∀ (i : Nat) x, Is[i]? = some x → ((Pl.mkTo K Is i).set i ⟨((Pl.kAt K Is i : Nat) : Int), x.t⟩).set i ⟨((Pl.kAt K Is i : Nat) : Int), ⟨x.t.a, x.t.cap, Pl.markN (Pl.kAt K Is i + 1) x.t.L.length⟩⟩ = Pl.mkTo K Is (i + 1)) := hide (fun i x h => by rw [List.set_set]; exact Pl.mkTo_succ K h)
  have HML : Hid (∀ i, (Pl.mkTo K Is i).length = Is.length) := hide (fun i => Pl.mkTo_len K Is i)
  have HK0 : Hid (Pl.kAt K Is 0 = K) := hide rfl
  generalize Pl.mkTo K Is = MT at HO0 HMG HMS HML ⊢
  generalize Pl.kAt K Is = KA at HK2 HKG HKS HMS HK0 ⊢
  have hK3 := unhide HK2 Is.length (Nat.le_refl _)
  clear hL hK2 o
  go_enter Tryz.func12, Tryz.ntmps12
  go_wp2
  go_loopw [1, 5] (fun q i wr => ∃ j : Nat, j ≤ Is.length ∧ i = .int .i64 (j : Int) ∧ q = .int .i64 (KA j : Int) ∧ Hid (Mem.OwnI wr B g (MT j)) ∧ Below B w wr) (fun _ i _ => Is.length - (intOf i).toNat)
  case atStart => exact ⟨0, Nat.zero_le _, rfl, by rw [unhide HK0], HO0, Below.refl _ _⟩
  case round =>
    obtain ⟨j, hj, rfl, rfl, HO, hbel⟩ := hrel
    clear HO0
    by_cases hlt : j < Is.length
    · obtain ⟨x, hx⟩ : ∃ x, Is[j]? = some x := ⟨_, List.getElem?_eq_getElem hlt⟩
      have hmx := unhide HMG j x hx
      have u1 : (j : Int) < (Is.length : Int) := by omega
      have u3 : (0 : Int) ≤ (j : Int) := by omega
      have hkj := unhide HK2 j hj
      have hks := unhide HKS j x hx
      have hkk := unhide HKG j
      obtain ⟨cur, r1, r2⟩ := (unhide HO).row
      rw [unhide HML] at r2
      obtain ⟨x0, s0⟩ : ∃ x, wr.cell? ⟨g, j * 2, none⟩ = some x := ⟨_, (cell_of_row wr _ (j * 2) _ _ (0, 0) r1).trans (Array.getElem?_eq_getElem (by omega))⟩
      have f0 : wr.frozen? ⟨g, j * 2, none⟩ = false := Mem.row_frozen r1
      have O1 := (unhide HO).many hmx ((KA j : Nat) : Int)
      have hx1 : ((MT j).set j ⟨((KA j : Nat) : Int), x.t⟩)[j]? = some ⟨((KA j : Nat) : Int), x.t⟩ := by
        rw [List.getElem?_set, if_pos rfl, if_pos (by rw [unhide HML]; exact hlt)]
      obtain ⟨⟨b', o', e', -, -, c1⟩, -⟩ := O1.items j _ hx1
      cases e'
      simp only [Pl.Tr.val, Nat.zero_add] at c1
      have hcall := hide (lay_one (K := KA j + 1) O1 hx1 (unhide HL x (List.mem_of_getElem? hx)) (by omega) (by omega))
      have HST := hide (unhide HMS j x hx)
      have hB2 := hbel.size
      have hb1 : Below B w (wr.setCell ⟨g, j * 2, none⟩ (.int .i64 ((KA j : Nat) : Int))) := hbel.setCell (unhide HO).lo _
      have hs1 : (wr.setCell ⟨g, j * 2, none⟩ (.int .i64 ((KA j : Nat) : Int))).heap.size = wr.heap.size := by simp
      have HB1 := hide hb1
      have HKS2 := hide hks
      clear hx hmx r1 r2 O1 hx1 HO hbel hks hb1
      simp only [Int.natCast_add, Int.cast_ofNat_Int] at hcall
      go_wp2_with fail
      refine (unhide hcall).mono ?_
      rintro e w2 ⟨rfl, o2, b2⟩
      have hb2 := (unhide HB1).trans (b2 (by omega))
      rw [unhide HST] at o2
      have HO2 := hide o2
      clear hcall o2 b2 s0 f0 c1 HB1
      go_wp2
      go_roundw
      case rel => exact ⟨j + 1, by omega, by go_num, by rw [unhide HKS2]; go_num, HO2, hb2⟩
      case measure => simp [intOf]; omega
    · have u1 : ¬ (j : Int) < (Is.length : Int) := by omega
      obtain rfl : j = Is.length := by omega
      go_wp2
      go_ret
      exact ⟨rfl, unhide HO, hbel⟩
set_option linter.unusedSimpArgs false in
set_option maxRecDepth 100000 in
set_option maxHeartbeats 1000000 in
theorem held_any (a : Option Addr) (cap K : Nat) (Is : List Pl.It) (w : World) (hn : Is.length ≤ 1000) (hL : ∀ x ∈ Is, x.t.L.length ≤ 1048576) (hK : 0 < K) (hK2 : ∀ i, i ≤ Is.length → Pl.kAt K Is i ≤ 100000) (hv : Mem.isItems w a (Pl.mkTo K Is Is.length)) :
    Calls Tryz.prog 42 #[.slice a Is.length cap, .int .i64 (K : Int)] w fun e w' => e = .returned (.int .i64 (Pl.kAt K Is Is.length : Int)) ∧ Below w.heap.size w w' := by
  have HV : Hid (∀ (j : Nat) x, Is[j]? = some x → (∃ b o, a = some ⟨b, o, none⟩ ∧ b < w.heap.size ∧ w.cell? ⟨b, o + j * 2, none⟩ = some (.int .i64 (Pl.kAt K Is j : Int)) ∧ w.cell? ⟨b, o + j * 2 + 1, none⟩ = some (.slice x.t.a x.t.L.length x.t.cap)) ∧ Mem.isNodes w x.t.a (Pl.markN (Pl.kAt K Is j + 1) x.t.L.length)) := hide (fun j x hx => by
    have h := hv j (Pl.mkIt K Is j x) (by rw [Pl.mkTo_get, hx, Option.map_some, if_pos (List.getElem?_eq_some_iff.1 hx).1])
    obtain ⟨⟨b, o, h1, h2, h3, h4⟩, h5⟩ := h
    refine ⟨⟨b, o, h1, h2, h3, ?_⟩, h5⟩
    rw [h4]
    simp [Pl.Tr.val, Pl.mkIt, Pl.markN_length])
  have HL := hide hL
  have HK2 := hide hK2
  have HKG : Hid (∀ i, 0 < Pl.kAt K Is i) := hide (fun i => Nat.lt_of_lt_of_le hK (Pl.kAt_ge K Is i))
  have HKS : Hid (∀ (i : Nat) x, Is[i]? = some x → Pl.kAt K Is (i + 1) = Pl.kAt K Is i + 1 + 5 * x.t.L.length) := hide (fun i x h => Pl.kAt_succ h)
  have HK0 : Hid (Pl.kAt K Is 0 = K) := hide rfl
  generalize Pl.kAt K Is = KA at HK2 HKG HKS HV HK0 ⊢
  have hK3 := unhide HK2 Is.length (Nat.le_refl _)
  clear hL hK2 hv
  go_enter Tryz.func42, Tryz.ntmps42
  go_wp2
  go_loopw [1, 5] (fun q i wr => ∃ j : Nat, j ≤ Is.length ∧ i = .int .i64 (j : Int) ∧ q = .int .i64 (KA j : Int) ∧ Below w.heap.size w wr) (fun _ i _ => Is.length - (intOf i).toNat)
  case atStart => exact ⟨0, Nat.zero_le _, rfl, by rw [unhide HK0], Below.refl _ _⟩
  case round =>
    obtain ⟨j, hj, rfl, rfl, hbel⟩ := hrel
    by_cases hlt : j < Is.length
    · obtain ⟨x, hx⟩ : ∃ x, Is[j]? = some x := ⟨_, List.getElem?_eq_getElem hlt⟩
      have u1 : (j : Int) < (Is.length : Int) := by omega
      have u3 : (0 : Int) ≤ (j : Int) := by omega
      have hkj := unhide HK2 j hj
      have hks := unhide HKS j x hx
      have hkk := unhide HKG j
      obtain ⟨⟨b, o, rfl, hb, q0, q1⟩, q2⟩ := unhide HV j x hx
      have c0 := (hbel.cell (p := ⟨b, _, none⟩) hb).trans q0
      have c1 := (hbel.cell (p := ⟨b, _, none⟩) hb).trans q1
      have hcall := hide (WMarkN.held_any x.t.a x.t.L.length x.t.cap (KA j + 1) wr (unhide HL x (List.mem_of_getElem? hx)) (by omega) (by omega) (Mem.nodes_call q2 hbel))
      have hpos : ¬ ((KA j + 1 + 5 * x.t.L.length : Nat) : Int) < 0 := by omega
      have HKS2 := hide hks
      clear hx q0 q1 q2 hks
      simp only [Int.natCast_add, Int.cast_ofNat_Int] at hcall hpos
      go_wp2_with fail
      refine (unhide hcall).mono ?_
      rintro e w2 ⟨rfl, b2⟩
      have hb2 := hbel.trans (b2.mono hbel.size)
      clear hcall b2 c0 c1 hbel
      go_wp2
      go_roundw
      case rel => exact ⟨j + 1, by omega, by go_num, by rw [unhide HKS2]; go_num, hb2⟩
      case measure => simp [intOf]; omega
    · have u1 : ¬ (j : Int) < (Is.length : Int) := by omega
      obtain rfl : j = Is.length := by omega
      go_wp2
      go_ret
      exact ⟨rfl, hbel⟩
end WMarkI
end Go.Proofs.YteddcihodfkliabGreatDoor
