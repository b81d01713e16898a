/- Several texts of one claim in one file: WFace, WUnderN, WRightI, WSplit. -/
import Derived.Test.YtepmojmelcngeaaGreatDoorG16
import Derived.Test.YtepmojmelcngeaaGreatDoorG05
import Derived.Test.YtepmojmelcngeaaGreatDoorG09
import Derived.Test.YtepmojmelcngeaaGreatDoorMem
import Derived.Test.YtepmojmelcngeaaGreatDoorG01
import Derived.Test.YtepmojmelcngeaaGreatDoorProg
import Derived.WalkSpells
/- The walk of the program's PathUnder. -/
namespace Go.Proofs.YtepmojmelcngeaaGreatDoor
open Go.RowKit
namespace WPathI
set_option maxRecDepth 100000 in
theorem under_any (p t : ByteArray) (w : World) (hp : p.size ≤ 1048576) (ht : t.size ≤ 1048576) :
    Calls Tryz.prog 118 #[.string p, .string t] w fun e w' => e = .returned (.bool (Pl.pathB p && Pl.pathB t && Pl.underR (Pl.namesR p) (Pl.namesR t))) ∧ Below w.heap.size w w' := by
  have hn := hide (fun W => WUnder.both_any p t W hp ht)
  have hA := hide (Pl.namesR_all p)
  have hB := hide (Pl.namesR_all t)
  generalize (Pl.pathB p && Pl.pathB t) = r at hn ⊢
  generalize Pl.namesR p = A at hn hA ⊢
  generalize Pl.namesR t = B at hn hB ⊢
  cases r
  · go_enter Tryz.func118, Tryz.ntmps118
    go_wp2_with fail
    refine (unhide hn _).mono ?_
    rintro e w1 ⟨v1, v2, m, rfl, -, -, -, -, hb⟩
    go_wp2
    go_ret
    exact ⟨rfl, hb⟩
  · go_enter Tryz.func118, Tryz.ntmps118
    go_wp2_with fail
    refine (unhide hn _).mono ?_
    rintro e w1 ⟨v1, v2, m, rfl, h1, h2, h3, h4, hb⟩
    have i1 := hide (Mem.own_texts h2)
    have i2 := hide (Mem.own_texts h4)
    clear h2 h4 h3 hn
    go_wp2_with fail
    refine (WUnder.under_any _ _ A B _ (by have := (unhide hA).2; omega) (by have := (unhide hB).2; omega) (unhide i1) (unhide i2)).mono ?_
    rintro e w2 ⟨rfl, hw⟩
    obtain rfl := hw.symm
    generalize hr : Pl.underR A B = r2
    have HR := hide hr
    clear hr
    go_wp2
    go_ret
    exact ⟨by rw [unhide HR]; rfl, hb⟩
end WPathI
end Go.Proofs.YtepmojmelcngeaaGreatDoor

/- The walks of isBelow and of under. -/
namespace Go.Proofs.YtepmojmelcngeaaGreatDoor
open Go.RowKit Go.Maps
namespace WUnderN
theorem tl_ne {a b : ByteArray} (h : a ≠ b) : (a.toList == b.toList) = false := by
  rw [beq_eq_false_iff_ne]
  intro e
  exact h (Pl.by_inj (by rw [ByteArray.toList_eq, ByteArray.toList_eq] at e; exact e))
set_option maxRecDepth 100000 in
theorem below_any (n : Pl.Nd) (p : ByteArray) (w : World) (h1 : n.path.size ≤ 1048576) (h2 : p.size ≤ 1048576) :
    Calls Tryz.prog 92 #[n.val, .string p] w fun e w' => e = .returned (.bool (Pl.belowP n.path p)) ∧ Below w.heap.size w w' := by
  obtain ⟨q, k, d, t, m⟩ := n
  simp only [Pl.Nd.val] at h1 ⊢
  have hu := hide (fun W => WPathI.under_any q p W h1 h2)
  have b0 : Below w.heap.size w (w.alloc (.cells #[.string q, .int .i64 k, .string d, .int .i64 t, .int .i64 m] 36)) := (Below.refl _ _).alloc (Nat.le_refl _) _
  by_cases hqp : q = p
  · have E : Pl.belowP q p = false := by simp [Pl.belowP, hqp]
    rw [E]
    clear hu E
    subst hqp
    go_enter Tryz.func92, Tryz.ntmps92
    go_wp2
    go_ret
    exact ⟨rfl, b0⟩
  · have E : Pl.belowP q p = (Pl.pathB q && Pl.pathB p && Pl.underR (Pl.namesR q) (Pl.namesR p)) := by simp [Pl.belowP, hqp]
    rw [E]
    generalize (Pl.pathB q && Pl.pathB p && Pl.underR (Pl.namesR q) (Pl.namesR p)) = R at hu ⊢
    have t1 := tl_ne hqp
    clear E hqp
    go_enter Tryz.func92, Tryz.ntmps92
    go_wp2_with fail
    refine (unhide hu _).mono ?_
    rintro e w1 ⟨rfl, b1⟩
    have b2 := b0.trans (b1.mono b0.size)
    clear b0 b1 hu
    go_wp2
    go_ret
    exact ⟨rfl, b2⟩
/-- Where 'under' stands in its two loops. -/
structure At (w wr : World) (a : Option Addr) (L : List Pl.Nd) : Prop where
  bel : Below w.heap.size w wr
  nodes : Mem.isNodes wr a L
theorem At.call {w wr wr' : World} {a : Option Addr} {L : List Pl.Nd} (h : At w wr a L) (b : Below wr.heap.size wr wr') : At w wr' a L := ⟨h.bel.trans (b.mono h.bel.size), Mem.nodes_call h.nodes b⟩
theorem nodes_piece {w : World} {b o : Nat} {L : List Pl.Nd} (h : Mem.isNodes w (some ⟨b, o, none⟩) L) (i q : Nat) : Mem.isNodes w (some ⟨b, o + i * 5, none⟩) ((L.drop i).take q) := by
  intro k n hk
  rw [List.getElem?_take] at hk
  split at hk
  · rw [List.getElem?_drop] at hk
    obtain ⟨b', o', e, h1, h2, h3, h4, h5, h6⟩ := h (i + k) n hk
    cases e
    have ee : o + (i + k) * 5 = o + i * 5 + k * 5 := by omega
    rw [ee] at h2 h3 h4 h5 h6
    exact ⟨b, o + i * 5, rfl, h1, h2, h3, h4, h5, h6⟩
  · cases hk
theorem piece_len {L : List Pl.Nd} {i j : Nat} (h : j ≤ L.length) : ((L.drop i).take (j - i)).length = j - i := by simp; omega
set_option linter.unusedSimpArgs false in
set_option maxRecDepth 100000 in
set_option maxHeartbeats 2000000 in
theorem any (B N : Nat) (C L : List Pl.Nd) (D : DataW Unit) (p : ByteArray) (w : World) (hown : w.ownsMap Tryz.prog 9 MapN.elem B N D) (hN : N ≤ 1000) (hR : MapN.Reads D C) (hC : C.Pairwise (fun a b => a.path ≠ b.path)) (hperm : L.Perm C) (hr : L.Pairwise (fun a b => Pl.ltP a.path b.path = true))
    (hok : ∀ n ∈ C, Pl.pathB n.path = true ∧ n.data.size ≤ 1048576) (hl : L.length ≤ 1000) (hp : p.size ≤ 1048576) :
    Calls Tryz.prog 50 #[.map (some B), .string p] w fun e w' => ∃ a, e = .returned (.slice a (Pl.pieceL L p).length (Pl.pieceL L p).length) ∧ Mem.isNodes w' a (Pl.pieceL L p) ∧ (∀ b o, a = some ⟨b, o, none⟩ → w.heap.size ≤ b) ∧ Below w.heap.size w w' := by
  have hri := hide (WRising.any B N C L D w hown hN hR hC hperm hr hok)
  have HB := hide (fun n (hn : n ∈ L) W => below_any n p W (by have := Pl.pathB_le (hok n (hperm.mem_iff.1 hn)).1; omega) hp)
  have HPI : Hid (∀ (i j : Nat), i ≤ j → j ≤ L.length → (∀ (k : Nat) n, k < i → L[k]? = some n → Pl.belowP n.path p = false) → (∀ n, L[i]? = some n → Pl.belowP n.path p = true) →
    (∀ (k : Nat) n, i ≤ k → k < j → L[k]? = some n → Pl.belowP n.path p = true) → (∀ n, L[j]? = some n → Pl.belowP n.path p = false) → Pl.pieceL L p = (L.drop i).take (j - i)) := fun i j => Pl.piece_at L p i j
  clear hown hR hC hperm hr hok
  generalize Pl.pieceL L p = M at HPI ⊢
  go_enter Tryz.func50, Tryz.ntmps50
  go_wp2_with fail
  refine (unhide hri).mono ?_
  rintro e w1 ⟨v, rfl, own, b1⟩
  obtain ⟨a, cap, rfl, hnd⟩ := Mem.ownN_is own
  have hcap : L.length ≤ cap := by
    rcases own.2 with ⟨e1, e2⟩ | ⟨g, cap', cur, e1, _, _, h1, _⟩
    · injection e1 with e3 e4 e5; omega
    · injection e1 with e3 e4 e5; omega
  have A0 : Hid (At w w1 a L) := ⟨b1, hnd⟩
  have HBK : Hid (∀ b o, a = some ⟨b, o, none⟩ → w.heap.size ≤ b) := fun b o e => by
    subst e
    exact (Mem.ownN_lt own b rfl).1
  clear hri own b1 hnd
  go_wp2
  go_loopw [6] (fun i wr => ∃ k : Nat, k ≤ L.length ∧ i = .int .i64 (k : Int) ∧ Hid (At w wr a L) ∧ Hid (∀ (j : Nat) n, j < k → L[j]? = some n → Pl.belowP n.path p = false)) (fun i _ => L.length - (intOf i).toNat)
  case atStart => exact ⟨0, Nat.zero_le _, rfl, A0, fun j n h => absurd h (by omega)⟩
  case round =>
    obtain ⟨k, hk, rfl, HA, HK⟩ := hrel
    clear A0
    by_cases hlt : k < L.length
    · obtain ⟨n, hn⟩ : ∃ n, L[k]? = some n := ⟨_, List.getElem?_eq_getElem hlt⟩
      obtain ⟨b1, o1, ea, hb1, q0, q1, q2, q3, q4⟩ := (unhide HA).nodes k n hn
      have hib := hide (fun W => unhide HB n (List.mem_of_getElem? hn) W)
      have y1 : (k : Int) < (L.length : Int) := by omega
      have y3 : (0 : Int) ≤ (k : Int) := by omega
      have EN := hide hn
      cases hbb : Pl.belowP n.path p
      · rw [hbb] at hib
        have HK2 : Hid (∀ (l : Nat) n, l < k + 1 → L[l]? = some n → Pl.belowP n.path p = false) := fun l m h2 hm => by
          rcases Nat.lt_succ_iff_lt_or_eq.1 h2 with h3 | h3
          · exact unhide HK l m h3 hm
          · subst h3; rw [unhide EN] at hm; cases hm; exact hbb
        clear hbb hn EN HK
        obtain ⟨qp, qk, qd, qt, qm⟩ := n
        simp only [Pl.Nd.val] at hib q0 q1 q2 q3 q4
        subst ea
        go_wp2_with fail
        refine (unhide hib _).mono ?_
        rintro e w4 ⟨rfl, b4⟩
        have A4 := hide ((unhide HA).call b4)
        clear HA b4 hib q0 q1 q2 q3 q4 hb1
        go_wp2
        go_roundw
        case rel => exact ⟨k + 1, by omega, by go_num, A4, HK2⟩
        case measure => simp [intOf]; omega
      · rw [hbb] at hib
        have HF : Hid (∀ n, L[k]? = some n → Pl.belowP n.path p = true) := fun m hm => by rw [unhide EN] at hm; cases hm; exact hbb
        clear hbb hn EN
        obtain ⟨qp, qk, qd, qt, qm⟩ := n
        simp only [Pl.Nd.val] at hib q0 q1 q2 q3 q4
        subst ea
        go_wp2_with fail
        refine (unhide hib _).mono ?_
        rintro e w4 ⟨rfl, b4⟩
        have AX := hide ((unhide HA).call b4)
        clear HA b4 hib q0 q1 q2 q3 q4 hb1
        go_wp2
        go_loopw [7] (fun i wr => ∃ j : Nat, k ≤ j ∧ j ≤ L.length ∧ i = .int .i64 (j : Int) ∧ Hid (At w wr (some ⟨b1, o1, none⟩) L) ∧ Hid (∀ (l : Nat) n, k ≤ l → l < j → L[l]? = some n → Pl.belowP n.path p = true)) (fun i _ => L.length - (intOf i).toNat)
        case atStart => exact ⟨k, Nat.le_refl _, hk, rfl, AX, fun l n h1 h2 => absurd h2 (by omega)⟩
        case round =>
          obtain ⟨j, hkj, hj, rfl, HA2, HJ⟩ := hrel
          clear AX
          by_cases hlt2 : j < L.length
          · obtain ⟨n2, hn2⟩ : ∃ n, L[j]? = some n := ⟨_, List.getElem?_eq_getElem hlt2⟩
            obtain ⟨b2, o2, ea2, hb2, q0, q1, q2, q3, q4⟩ := (unhide HA2).nodes j n2 hn2
            cases ea2
            have hib2 := hide (fun W => unhide HB n2 (List.mem_of_getElem? hn2) W)
            have z1 : (j : Int) < (L.length : Int) := by omega
            have z3 : (0 : Int) ≤ (j : Int) := by omega
            have EN2 := hide hn2
            cases hbb : Pl.belowP n2.path p
            · rw [hbb] at hib2
              have HF2 : Hid (∀ n, L[j]? = some n → Pl.belowP n.path p = false) := fun n hn => by rw [unhide EN2] at hn; cases hn; exact hbb
              have EM := hide (unhide HPI k j hkj hj (unhide HK) (unhide HF) (unhide HJ) (unhide HF2))
              have jk : ¬ j = k := fun e => by subst e; have := unhide HF n2 hn2; rw [hbb] at this; cases this
              clear hbb hn2 EN2 HF2 HPI HK HF HJ HB
              obtain ⟨qp2, qk2, qd2, qt2, qm2⟩ := n2
              simp only [Pl.Nd.val] at hib2 q0 q1 q2 q3 q4
              go_wp2_with fail
              refine (unhide hib2 _).mono ?_
              rintro e w4 ⟨rfl, b4⟩
              have A4 := hide ((unhide HA2).call b4)
              clear HA2 b4 hib2 q0 q1 q2 q3 q4 hb2
              have s0 : (0 : Int) ≤ (k : Int) := by omega
              have s1 : (k : Int) ≤ (j : Int) := by omega
              have s2 : (j : Int) ≤ (cap : Int) := by omega
              go_wp2
              go_ret
              have e := unhide EM
              subst e
              exact ⟨some ⟨b1, o1 + k * 5, none⟩, by rw [piece_len hj]; rfl, nodes_piece (unhide A4).nodes k _, (fun b o e => by cases e; exact unhide HBK b1 o1 rfl), (unhide A4).bel⟩
            · rw [hbb] at hib2
              have HJ2 : Hid (∀ (l : Nat) n, k ≤ l → l < j + 1 → L[l]? = some n → Pl.belowP n.path p = true) := fun l n h1 h2 hn => by
                rcases Nat.lt_succ_iff_lt_or_eq.1 h2 with h3 | h3
                · exact unhide HJ l n h1 h3 hn
                · subst h3; rw [unhide EN2] at hn; cases hn; exact hbb
              clear hbb hn2 EN2 HJ
              obtain ⟨qp2, qk2, qd2, qt2, qm2⟩ := n2
              simp only [Pl.Nd.val] at hib2 q0 q1 q2 q3 q4
              go_wp2_with fail
              refine (unhide hib2 _).mono ?_
              rintro e w4 ⟨rfl, b4⟩
              have A4 := hide ((unhide HA2).call b4)
              clear HA2 b4 hib2 q0 q1 q2 q3 q4 hb2
              go_wp2
              go_roundw
              case rel => exact ⟨j + 1, by omega, by omega, by go_num, A4, HJ2⟩
              case measure => simp [intOf]; omega
          · obtain rfl : j = L.length := by omega
            have z1 : ¬ ((L.length : Int) < (L.length : Int)) := by omega
            have EM := hide (unhide HPI k L.length hkj hj (unhide HK) (unhide HF) (unhide HJ) (fun n hn => absurd (List.getElem?_eq_some_iff.1 hn).1 (by omega)))
            have jk : ¬ L.length = k := by omega
            clear HPI HK HF HJ HB
            have s0 : (0 : Int) ≤ (k : Int) := by omega
            have s1 : (k : Int) ≤ (L.length : Int) := by omega
            have s2 : (L.length : Int) ≤ (cap : Int) := by omega
            have A4 := HA2
            clear HA2
            go_wp2
            go_ret
            have e := unhide EM
            subst e
            exact ⟨some ⟨b1, o1 + k * 5, none⟩, by rw [piece_len hj]; rfl, nodes_piece (unhide A4).nodes k _, (fun b o e => by cases e; exact unhide HBK b1 o1 rfl), (unhide A4).bel⟩
    · obtain rfl : k = L.length := by omega
      have y1 : ¬ ((L.length : Int) < (L.length : Int)) := by omega
      have HF : Hid (∀ n, L[L.length]? = some n → Pl.belowP n.path p = true) := fun n hn => absurd (List.getElem?_eq_some_iff.1 hn).1 (by omega)
      have AX := HA
      clear HA
      go_wp2
      go_loopw [7] (fun i wr => i = .int .i64 (L.length : Int) ∧ Hid (At w wr a L)) (fun i _ => 0)
      case atStart => exact ⟨rfl, AX⟩
      case round =>
        obtain ⟨rfl, HA2⟩ := hrel
        have EM := hide (unhide HPI L.length L.length (Nat.le_refl _) (Nat.le_refl _) (unhide HK) (unhide HF) (fun l n h1 h2 => absurd h2 (by omega)) (fun n hn => absurd (List.getElem?_eq_some_iff.1 hn).1 (by omega)))
        clear HPI HK HF HB AX
        have s0 : (0 : Int) ≤ (L.length : Int) := by omega
        have s2 : (L.length : Int) ≤ (cap : Int) := by omega
        have A4 := HA2
        clear HA2
        go_wp2
        go_ret
        have e := unhide EM
        subst e
        exact ⟨a, by rw [piece_len (Nat.le_refl _), Nat.sub_self]; rfl, by rw [Nat.sub_self]; exact Mem.nodes_nil _ _, unhide HBK, (unhide A4).bel⟩
end WUnderN
end Go.Proofs.YtepmojmelcngeaaGreatDoor

/- The walk of the program's PathRight, PathParent and PathBase. -/
namespace Go.Proofs.YtepmojmelcngeaaGreatDoor
open Go.RowKit
namespace WPathI
theorem right_any (s : ByteArray) (w : World) (hs : s.size ≤ 1048576) :
    Calls Tryz.prog 71 #[.string s] w fun e w' => e = .returned (.bool (Pl.pathB s)) ∧ Below w.heap.size w w' := by
  go_enter Tryz.func71, Tryz.ntmps71
  go_wp2_with fail
  refine (WNames.any s _ hs).mono ?_
  rintro e w1 ⟨v, rfl, hown, hb⟩
  clear hown
  go_wp2
  go_ret
  exact ⟨rfl, hb⟩
end WPathI
end Go.Proofs.YtepmojmelcngeaaGreatDoor

/- The walk of the specification's l01Split: the pieces lie in a row of the call's own. -/
namespace Go.Proofs.YtepmojmelcngeaaGreatDoor
open Go.RowKit
namespace WSplit
theorem infoS : (Tryz.prog.info? 9).map (fun i => (i.zero, i.size, i.bytes)) = some (some (.string ⟨#[]⟩), 1, 16) := by kernel_rfl

set_option maxRecDepth 100000 in
set_option maxHeartbeats 400000 in
theorem split_any (s : ByteArray) (b : Nat) (w : World) (hs : s.size ≤ 1048576) :
    Calls Tryz.prog 98 #[.string s, .int .u8 (b : Int)] w fun e w' => ∃ v, e = .returned v ∧
      w'.ownsRow w.heap.size 9 1 v (Pl.cut s b).length ((Pl.cut s b).map Value.string) ∧ Below w.heap.size w w' := by
  obtain ⟨i0, hi, hz0, hz1, hz2⟩ := info_parts infoS
  go_enter Tryz.func98, Tryz.ntmps98
  go_wp2
  go_loopw [5, 6, 7] (fun v x i wr => ∃ (k fr : Nat) (L : List ByteArray), k ≤ s.size ∧ fr ≤ k ∧ L.length ≤ k ∧ i = .int .i64 (k : Int) ∧ x = .int .i64 (fr : Int) ∧
      wr.ownsRow w.heap.size 9 1 v L.length (L.map Value.string) ∧ Below w.heap.size w wr ∧ Hid (Pl.cut s b = L ++ Pl.cutF s b (s.size - k) fr k)) (fun _ _ i _ => s.size - (intOf i).toNat)
  case atStart => exact ⟨0, 0, [], by omega, by omega, by simp, rfl, rfl, World.ownsRow_made _ _ 0 (Nat.le_refl _) (Nat.zero_le _) rfl, (Below.refl _ _).alloc (Nat.le_refl _) _, rfl⟩
  case round =>
    obtain ⟨k, fr, L, hk, hfr, hL, rfl, rfl, hown, hbel, H⟩ := hrel
    have hb1 := hbel.size
    by_cases hlt : k < s.size
    · have hf : s.size - k = s.size - (k + 1) + 1 := by omega
      have t1 : (0 : Int) ≤ (fr : Int) := by omega
      have t2 : (fr : Int) ≤ (k : Int) := by omega
      have t3 : (k : Int) ≤ (s.size : Int) := by omega
      by_cases hq : s[k].toNat = b
      · have H2 : Hid (Pl.cut s b = (L ++ [s.extract fr k]) ++ Pl.cutF s b (s.size - (k + 1)) (k + 1) (k + 1)) := by
          show _ = _
          rw [H.out, hf, Pl.cutF_hit hlt hq]; simp
        have t4 : ((s[k].toNat : Int) == (b : Int)) = true := by rw [beq_iff_eq]; omega
        clear H hf hq
        go_wp2_with (at_builtin; refine wpList_append_own _ rfl _ _ 46 rfl w.heap.size 9 i0 (.string ⟨#[]⟩) 1 16 Tryz.underlying46 hi hz0 hz1 hz2 rfl (by decide) _ _ _ rfl (hown.alloc _) ⟨wr.heap.size, 0, none⟩ 1 1 [.string (s.extract fr k)] rfl rfl ?c1 ?c2 ?c3 ?c4 ?c5 ?_)
        case c1 => exact Mem.one_new _ _ _
        case c2 => intro u hu; simp at hu; subst hu; rfl
        case c3 => unfold maxLen; omega
        case c4 => omega
        case c5 => simp; omega
        · intro v' w2 hown' hgrow _
          have hbel' := Mem.below_append hbel (Nat.le_refl _) hown hgrow
          have hown2 : w2.ownsRow w.heap.size 9 1 v' (L ++ [s.extract fr k]).length ((L ++ [s.extract fr k]).map Value.string) := by simpa using hown'
          clear hgrow hown hbel hown' t4
          go_wp2
          go_roundw
          case rel => exact ⟨k + 1, k + 1, L ++ [s.extract fr k], by omega, by omega, by simp; omega, by go_num, by go_num, hown2, hbel', H2⟩
          case measure => simp [intOf]; omega
      · have H2 : Hid (Pl.cut s b = L ++ Pl.cutF s b (s.size - (k + 1)) fr (k + 1)) := by
          show _ = _
          rw [H.out, hf, Pl.cutF_miss hlt hq]
        have t4 : ((s[k].toNat : Int) == (b : Int)) = false := by rw [beq_eq_false_iff_ne]; omega
        clear H hf hq
        go_wp2
        go_roundw
        case rel => exact ⟨k + 1, fr, L, by omega, by omega, by omega, by go_num, rfl, hown, hbel, H2⟩
        case measure => simp [intOf]; omega
    · obtain rfl : k = s.size := by omega
      have H2 : Hid (Pl.cut s b = L ++ [s.extract fr s.size]) := by
        show _ = _
        rw [H.out, Nat.sub_self]; rfl
      have t1 : (0 : Int) ≤ (fr : Int) := by omega
      have t2 : (fr : Int) ≤ (s.size : Int) := by omega
      clear H
      go_wp2_with (at_builtin; refine wpList_append_own _ rfl _ _ 46 rfl w.heap.size 9 i0 (.string ⟨#[]⟩) 1 16 Tryz.underlying46 hi hz0 hz1 hz2 rfl (by decide) _ _ _ rfl (hown.alloc _) ⟨wr.heap.size, 0, none⟩ 1 1 [.string (s.extract fr s.size)] rfl rfl ?c1 ?c2 ?c3 ?c4 ?c5 ?_)
      case c1 => exact Mem.one_new _ _ _
      case c2 => intro u hu; simp at hu; subst hu; rfl
      case c3 => unfold maxLen; omega
      case c4 => omega
      case c5 => simp; omega
      · intro v' w2 hown' hgrow _
        have hbel' := Mem.below_append hbel (Nat.le_refl _) hown hgrow
        have hown2 : w2.ownsRow w.heap.size 9 1 v' (Pl.cut s b).length ((Pl.cut s b).map Value.string) := by rw [H2.out]; simpa using hown'
        clear hgrow hown hbel hown'
        go_wp2
        go_ret
        exact ⟨_, rfl, hown2, hbel'⟩
end WSplit
end Go.Proofs.YtepmojmelcngeaaGreatDoor

