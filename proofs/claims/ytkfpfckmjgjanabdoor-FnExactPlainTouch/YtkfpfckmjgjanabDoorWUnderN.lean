/- The walks of isBelow and of under. -/
import Derived.Test.YtkfpfckmjgjanabDoorWRising
import Derived.Test.YtkfpfckmjgjanabDoorG57
import Derived.Test.YtkfpfckmjgjanabDoorG48
namespace Go.Proofs.YtkfpfckmjgjanabDoor
open Go.RowKit Go.Maps
namespace WUnderN
theorem tl_ne {a b : ByteArray} (h : a ≠ b) : (a.toList == b.toList) = false := by
  rw [beq_eq_false_iff_ne]
  intro e
  exact h (Pl.by_inj (by rw [ByteArray.toList_eq, ByteArray.toList_eq] at e; exact e))
set_option maxRecDepth 100000 in
theorem below_any (n : Pl.Nd) (p : ByteArray) (w : World) (h1 : n.path.size ≤ 1048576) (h2 : p.size ≤ 1048576) :
    Calls Tryd.prog 127 #[n.val, .string p] w fun e w' => e = .returned (.bool (Pl.belowP n.path p)) ∧ Below w.heap.size w w' := by
  obtain ⟨q, k, d, t, m⟩ := n
  simp only [Pl.Nd.val] at h1 ⊢
  have hu := hide (fun W => WPathI.under_any q p W h1 h2)
  have b0 : Below w.heap.size w (w.alloc (.cells #[.string q, .int .i64 k, .string d, .int .i64 t, .int .i64 m] 50)) := (Below.refl _ _).alloc (Nat.le_refl _) _
  by_cases hqp : q = p
  · have E : Pl.belowP q p = false := by simp [Pl.belowP, hqp]
    rw [E]
    clear hu E
    subst hqp
    go_enter Tryd.func127, Tryd.ntmps127
    go_wp2
    go_ret
    exact ⟨rfl, b0⟩
  · have E : Pl.belowP q p = (Pl.pathB q && Pl.pathB p && Pl.underR (Pl.namesR q) (Pl.namesR p)) := by simp [Pl.belowP, hqp]
    rw [E]
    generalize (Pl.pathB q && Pl.pathB p && Pl.underR (Pl.namesR q) (Pl.namesR p)) = R at hu ⊢
    have t1 := tl_ne hqp
    clear E hqp
    go_enter Tryd.func127, Tryd.ntmps127
    go_wp2_with fail
    refine (unhide hu _).mono ?_
    rintro e w1 ⟨rfl, b1⟩
    have b2 := b0.trans (b1.mono b0.size)
    clear b0 b1 hu
    go_wp2
    go_ret
    exact ⟨rfl, b2⟩
/-- Where 'under' stands in its two loops. -/
structure At (w wr : World) (a : Option Addr) (L : List Pl.Nd) : Prop where
  bel : Below w.heap.size w wr
  nodes : Mem.isNodes wr a L
theorem At.call {w wr wr' : World} {a : Option Addr} {L : List Pl.Nd} (h : At w wr a L) (b : Below wr.heap.size wr wr') : At w wr' a L := ⟨h.bel.trans (b.mono h.bel.size), Mem.nodes_call h.nodes b⟩
theorem nodes_piece {w : World} {b o : Nat} {L : List Pl.Nd} (h : Mem.isNodes w (some ⟨b, o, none⟩) L) (i q : Nat) : Mem.isNodes w (some ⟨b, o + i * 5, none⟩) ((L.drop i).take q) := by
  intro k n hk
  rw [List.getElem?_take] at hk
  split at hk
  · rw [List.getElem?_drop] at hk
    obtain ⟨b', o', e, h1, h2, h3, h4, h5, h6⟩ := h (i + k) n hk
    cases e
    have ee : o + (i + k) * 5 = o + i * 5 + k * 5 := by omega
    rw [ee] at h2 h3 h4 h5 h6
    exact ⟨b, o + i * 5, rfl, h1, h2, h3, h4, h5, h6⟩
  · cases hk
theorem piece_len {L : List Pl.Nd} {i j : Nat} (h : j ≤ L.length) : ((L.drop i).take (j - i)).length = j - i := by simp; omega
set_option linter.unusedSimpArgs false in
set_option maxRecDepth 100000 in
set_option maxHeartbeats 2000000 in
theorem any (B N : Nat) (C L : List Pl.Nd) (D : DataW Unit) (p : ByteArray) (w : World) (hown : w.ownsMap Tryd.prog 9 MapN.elem B N D) (hN : N ≤ 1000) (hR : MapN.Reads D C) (hC : C.Pairwise (fun a b => a.path ≠ b.path)) (hperm : L.Perm C) (hr : L.Pairwise (fun a b => Pl.ltP a.path b.path = true))
    (hok : ∀ n ∈ C, Pl.pathB n.path = true ∧ n.data.size ≤ 1048576) (hl : L.length ≤ 1000) (hp : p.size ≤ 1048576) :
    Calls Tryd.prog 115 #[.map (some B), .string p] w fun e w' => ∃ a, e = .returned (.slice a (Pl.pieceL L p).length (Pl.pieceL L p).length) ∧ Mem.isNodes w' a (Pl.pieceL L p) ∧ (∀ b o, a = some ⟨b, o, none⟩ → w.heap.size ≤ b) ∧ Below w.heap.size w w' := by
  have hri := hide (WRising.any B N C L D w hown hN hR hC hperm hr hok)
  have HB := hide (fun n (hn : n ∈ L) W => below_any n p W (by have := Pl.pathB_le (hok n (hperm.mem_iff.1 hn)).1; omega) hp)
  have HPI : Hid (∀ (i j : Nat), i ≤ j → j ≤ L.length → (∀ (k : Nat) n, k < i → L[k]? = some n → Pl.belowP n.path p = false) → (∀ n, L[i]? = some n → Pl.belowP n.path p = true) →
    (∀ (k : Nat) n, i ≤ k → k < j → L[k]? = some n → Pl.belowP n.path p = true) → (∀ n, L[j]? = some n → Pl.belowP n.path p = false) → Pl.pieceL L p = (L.drop i).take (j - i)) := fun i j => Pl.piece_at L p i j
  clear hown hR hC hperm hr hok
  generalize Pl.pieceL L p = M at HPI ⊢
  go_enter Tryd.func115, Tryd.ntmps115
  go_wp2_with fail
  refine (unhide hri).mono ?_
  rintro e w1 ⟨v, rfl, own, b1⟩
  obtain ⟨a, cap, rfl, hnd⟩ := Mem.ownN_is own
  have hcap : L.length ≤ cap := by
    rcases own.2 with ⟨e1, e2⟩ | ⟨g, cap', cur, e1, _, _, h1, _⟩
    · injection e1 with e3 e4 e5; omega
    · injection e1 with e3 e4 e5; omega
  have A0 : Hid (At w w1 a L) := ⟨b1, hnd⟩
  have HBK : Hid (∀ b o, a = some ⟨b, o, none⟩ → w.heap.size ≤ b) := fun b o e => by
    subst e
    exact (Mem.ownN_lt own b rfl).1
  clear hri own b1 hnd
  go_wp2
  go_loopw [6] (fun i wr => ∃ k : Nat, k ≤ L.length ∧ i = .int .i64 (k : Int) ∧ Hid (At w wr a L) ∧ Hid (∀ (j : Nat) n, j < k → L[j]? = some n → Pl.belowP n.path p = false)) (fun i _ => L.length - (intOf i).toNat)
  case atStart => exact ⟨0, Nat.zero_le _, rfl, A0, fun j n h => absurd h (by omega)⟩
  case round =>
    obtain ⟨k, hk, rfl, HA, HK⟩ := hrel
    clear A0
    by_cases hlt : k < L.length
    · obtain ⟨n, hn⟩ : ∃ n, L[k]? = some n := ⟨_, List.getElem?_eq_getElem hlt⟩
      obtain ⟨b1, o1, ea, hb1, q0, q1, q2, q3, q4⟩ := (unhide HA).nodes k n hn
      have hib := hide (fun W => unhide HB n (List.mem_of_getElem? hn) W)
      have y1 : (k : Int) < (L.length : Int) := by omega
      have y3 : (0 : Int) ≤ (k : Int) := by omega
      have EN := hide hn
      cases hbb : Pl.belowP n.path p
      · rw [hbb] at hib
        have HK2 : Hid (∀ (l : Nat) n, l < k + 1 → L[l]? = some n → Pl.belowP n.path p = false) := fun l m h2 hm => by
          rcases Nat.lt_succ_iff_lt_or_eq.1 h2 with h3 | h3
          · exact unhide HK l m h3 hm
          · subst h3; rw [unhide EN] at hm; cases hm; exact hbb
        clear hbb hn EN HK
        obtain ⟨qp, qk, qd, qt, qm⟩ := n
        simp only [Pl.Nd.val] at hib q0 q1 q2 q3 q4
        subst ea
        go_wp2_with fail
        refine (unhide hib _).mono ?_
        rintro e w4 ⟨rfl, b4⟩
        have A4 := hide ((unhide HA).call b4)
        clear HA b4 hib q0 q1 q2 q3 q4 hb1
        go_wp2
        go_roundw
        case rel => exact ⟨k + 1, by omega, by go_num, A4, HK2⟩
        case measure => simp [intOf]; omega
      · rw [hbb] at hib
        have HF : Hid (∀ n, L[k]? = some n → Pl.belowP n.path p = true) := fun m hm => by rw [unhide EN] at hm; cases hm; exact hbb
        clear hbb hn EN
        obtain ⟨qp, qk, qd, qt, qm⟩ := n
        simp only [Pl.Nd.val] at hib q0 q1 q2 q3 q4
        subst ea
        go_wp2_with fail
        refine (unhide hib _).mono ?_
        rintro e w4 ⟨rfl, b4⟩
        have AX := hide ((unhide HA).call b4)
        clear HA b4 hib q0 q1 q2 q3 q4 hb1
        go_wp2
        go_loopw [7] (fun i wr => ∃ j : Nat, k ≤ j ∧ j ≤ L.length ∧ i = .int .i64 (j : Int) ∧ Hid (At w wr (some ⟨b1, o1, none⟩) L) ∧ Hid (∀ (l : Nat) n, k ≤ l → l < j → L[l]? = some n → Pl.belowP n.path p = true)) (fun i _ => L.length - (intOf i).toNat)
        case atStart => exact ⟨k, Nat.le_refl _, hk, rfl, AX, fun l n h1 h2 => absurd h2 (by omega)⟩
        case round =>
          obtain ⟨j, hkj, hj, rfl, HA2, HJ⟩ := hrel
          clear AX
          by_cases hlt2 : j < L.length
          · obtain ⟨n2, hn2⟩ : ∃ n, L[j]? = some n := ⟨_, List.getElem?_eq_getElem hlt2⟩
            obtain ⟨b2, o2, ea2, hb2, q0, q1, q2, q3, q4⟩ := (unhide HA2).nodes j n2 hn2
            cases ea2
            have hib2 := hide (fun W => unhide HB n2 (List.mem_of_getElem? hn2) W)
            have z1 : (j : Int) < (L.length : Int) := by omega
            have z3 : (0 : Int) ≤ (j : Int) := by omega
            have EN2 := hide hn2
            cases hbb : Pl.belowP n2.path p
            · rw [hbb] at hib2
              have HF2 : Hid (∀ n, L[j]? = some n → Pl.belowP n.path p = false) := fun n hn => by rw [unhide EN2] at hn; cases hn; exact hbb
              have EM := hide (unhide HPI k j hkj hj (unhide HK) (unhide HF) (unhide HJ) (unhide HF2))
              have jk : ¬ j = k := fun e => by subst e; have := unhide HF n2 hn2; rw [hbb] at this; cases this
              clear hbb hn2 EN2 HF2 HPI HK HF HJ HB
              obtain ⟨qp2, qk2, qd2, qt2, qm2⟩ := n2
              simp only [Pl.Nd.val] at hib2 q0 q1 q2 q3 q4
              go_wp2_with fail
              refine (unhide hib2 _).mono ?_
              rintro e w4 ⟨rfl, b4⟩
              have A4 := hide ((unhide HA2).call b4)
              clear HA2 b4 hib2 q0 q1 q2 q3 q4 hb2
              have s0 : (0 : Int) ≤ (k : Int) := by omega
              have s1 : (k : Int) ≤ (j : Int) := by omega
              have s2 : (j : Int) ≤ (cap : Int) := by omega
              go_wp2
              go_ret
              have e := unhide EM
              subst e
              exact ⟨some ⟨b1, o1 + k * 5, none⟩, by rw [piece_len hj]; rfl, nodes_piece (unhide A4).nodes k _, (fun b o e => by cases e; exact unhide HBK b1 o1 rfl), (unhide A4).bel⟩
            · rw [hbb] at hib2
              have HJ2 : Hid (∀ (l : Nat) n, k ≤ l → l < j + 1 → L[l]? = some n → Pl.belowP n.path p = true) := fun l n h1 h2 hn => by
                rcases Nat.lt_succ_iff_lt_or_eq.1 h2 with h3 | h3
                · exact unhide HJ l n h1 h3 hn
                · subst h3; rw [unhide EN2] at hn; cases hn; exact hbb
              clear hbb hn2 EN2 HJ
              obtain ⟨qp2, qk2, qd2, qt2, qm2⟩ := n2
              simp only [Pl.Nd.val] at hib2 q0 q1 q2 q3 q4
              go_wp2_with fail
              refine (unhide hib2 _).mono ?_
              rintro e w4 ⟨rfl, b4⟩
              have A4 := hide ((unhide HA2).call b4)
              clear HA2 b4 hib2 q0 q1 q2 q3 q4 hb2
              go_wp2
              go_roundw
              case rel => exact ⟨j + 1, by omega, by omega, by go_num, A4, HJ2⟩
              case measure => simp [intOf]; omega
          · obtain rfl : j = L.length := by omega
            have z1 : ¬ ((L.length : Int) < (L.length : Int)) := by omega
            have EM := hide (unhide HPI k L.length hkj hj (unhide HK) (unhide HF) (unhide HJ) (fun n hn => absurd (List.getElem?_eq_some_iff.1 hn).1 (by omega)))
            have jk : ¬ L.length = k := by omega
            clear HPI HK HF HJ HB
            have s0 : (0 : Int) ≤ (k : Int) := by omega
            have s1 : (k : Int) ≤ (L.length : Int) := by omega
            have s2 : (L.length : Int) ≤ (cap : Int) := by omega
            have A4 := HA2
            clear HA2
            go_wp2
            go_ret
            have e := unhide EM
            subst e
            exact ⟨some ⟨b1, o1 + k * 5, none⟩, by rw [piece_len hj]; rfl, nodes_piece (unhide A4).nodes k _, (fun b o e => by cases e; exact unhide HBK b1 o1 rfl), (unhide A4).bel⟩
    · obtain rfl : k = L.length := by omega
      have y1 : ¬ ((L.length : Int) < (L.length : Int)) := by omega
      have HF : Hid (∀ n, L[L.length]? = some n → Pl.belowP n.path p = true) := fun n hn => absurd (List.getElem?_eq_some_iff.1 hn).1 (by omega)
      have AX := HA
      clear HA
      go_wp2
      go_loopw [7] (fun i wr => i = .int .i64 (L.length : Int) ∧ Hid (At w wr a L)) (fun i _ => 0)
      case atStart => exact ⟨rfl, AX⟩
      case round =>
        obtain ⟨rfl, HA2⟩ := hrel
        have EM := hide (unhide HPI L.length L.length (Nat.le_refl _) (Nat.le_refl _) (unhide HK) (unhide HF) (fun l n h1 h2 => absurd h2 (by omega)) (fun n hn => absurd (List.getElem?_eq_some_iff.1 hn).1 (by omega)))
        clear HPI HK HF HB AX
        have s0 : (0 : Int) ≤ (L.length : Int) := by omega
        have s2 : (L.length : Int) ≤ (cap : Int) := by omega
        have A4 := HA2
        clear HA2
        go_wp2
        go_ret
        have e := unhide EM
        subst e
        exact ⟨a, by rw [piece_len (Nat.le_refl _), Nat.sub_self]; rfl, by rw [Nat.sub_self]; exact Mem.nodes_nil _ _, unhide HBK, (unhide A4).bel⟩
end WUnderN
end Go.Proofs.YtkfpfckmjgjanabDoor
