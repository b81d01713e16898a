/- The walk of cut: a path goes from the map, and all below it. -/
import Derived.Test.YtkfpfckmjgjanabDoorWUnderN
import Derived.Test.YtkfpfckmjgjanabDoorWNodesJ
namespace Go.Proofs.YtkfpfckmjgjanabDoor
open Go.RowKit Go.Maps
namespace MapN
theorem reads_del {D : DataW Unit} {C : List Pl.Nd} (h : Reads D C) (q : ByteArray) : Reads (D.del (key q)) (C.filter (fun n => !decide (n.path = q))) := by
  refine ⟨fun n hn => ?_, fun p c hc => ?_⟩
  · rw [List.mem_filter] at hn
    have hne : n.path ≠ q := by simpa using hn.2
    rw [has_del_other (key_ne hne)]
    exact h.has n hn.1
  · by_cases e : p = q
    · exfalso
      subst e
      have a : ∀ z, dat c = z := fun z => by rw [← hc z]; exact atKey_del_same z
      have a2 := dat_inj (a (dat ⟨p, c.kind + 1, p, 0, 0⟩))
      have a3 := congrArg Pl.Nd.kind a2
      simp only at a3
      omega
    · have := h.ent p c (fun z => by rw [← hc z]; exact (atKey_del_other (key_ne e) z).symm)
      exact ⟨List.mem_filter.2 ⟨this.1, by rw [← this.2]; simpa using e⟩, this.2⟩
end MapN
namespace Pl
theorem left_step (L M : List Nd) {k : Nat} {m : Nd} (h : M[k]? = some m) : (L.filter (fun n => (M.take k).all (fun x => !decide (n.path = x.path)))).filter (fun n => !decide (n.path = m.path)) = L.filter (fun n => (M.take (k + 1)).all (fun x => !decide (n.path = x.path))) := by
  have h1 := List.getElem?_eq_some_iff.1 h
  rw [List.filter_filter]
  apply List.filter_congr
  intro n _
  rw [List.take_succ_eq_append_getElem h1.1, h1.2, List.all_append]
  simp [Bool.and_comm]
theorem left_end {L M : List Nd} {p : ByteArray} (hM : M = L.filter (fun n => belowP n.path p)) : (L.filter (fun n => M.all (fun x => !decide (n.path = x.path)))).filter (fun n => !decide (n.path = p)) = L.filter (fun n => !belowP n.path p && !decide (n.path = p)) := by
  rw [List.filter_filter]
  apply List.filter_congr
  intro n hn
  rw [Bool.and_comm]
  congr 1
  cases k : belowP n.path p
  · rw [Bool.not_false, List.all_eq_true]
    intro x hx
    rw [hM, List.mem_filter] at hx
    have : n.path ≠ x.path := fun e => by rw [e, hx.2] at k; cases k
    simpa using this
  · rw [Bool.not_true, List.all_eq_false]
    exact ⟨n, by rw [hM]; exact List.mem_filter.2 ⟨hn, k⟩, by simp⟩
end Pl
namespace WCutI
theorem nodes_turn {w w' : World} {B : Nat} {a : Option Addr} {L : List Pl.Nd} {n : Nat} {D : DataW Unit} (h : Mem.isNodes w a L) (hown : w.ownsMap Tryd.prog 9 MapN.elem B n D) (hg : w.grownBy w' (some B)) : Mem.isNodes w' a L := fun i n hi => by
  obtain ⟨g, o, rfl, h2, h3, h4, h5, h6, h7⟩ := h i n hi
  have hne : some g ≠ some B := fun e => by
    cases e
    obtain ⟨es, clock, hb, _⟩ := hown
    simp [World.cell?, hb] at h3
  exact ⟨g, o, rfl, Nat.lt_of_lt_of_le h2 hg.size, hg.cell h3 hne, hg.cell h4 hne, hg.cell h5 hne, hg.cell h6 hne, hg.cell h7 hne⟩
structure At (w wr : World) (B N : Nat) (a : Option Addr) (L M : List Pl.Nd) (k : Nat) (D : DataW Unit) : Prop where
  grown : w.grownBy wr (some B)
  own : wr.ownsMap Tryd.prog 9 MapN.elem B N D
  reads : MapN.Reads D (L.filter (fun n => (M.take k).all (fun x => !decide (n.path = x.path))))
  nodes : Mem.isNodes wr a M
set_option linter.unusedSimpArgs false in
set_option maxRecDepth 100000 in
set_option maxHeartbeats 2000000 in
theorem any (B N : Nat) (L : List Pl.Nd) (D : DataW Unit) (p : ByteArray) (w : World) (hown : w.ownsMap Tryd.prog 9 MapN.elem B N D) (hN : N ≤ 1000) (hR : MapN.Reads D L) (hC : L.Pairwise (fun a b => a.path ≠ b.path)) (hr : L.Pairwise (fun a b => Pl.ltP a.path b.path = true))
    (hok : ∀ n ∈ L, Pl.pathB n.path = true ∧ n.data.size ≤ 1048576) (hl : L.length ≤ 1000) (hp : p.size ≤ 1048576) :
    Calls Tryd.prog 116 #[.map (some B), .string p] w fun e w' => e = .returned (.tuple #[]) ∧ (∃ D', w'.ownsMap Tryd.prog 9 MapN.elem B N D' ∧ MapN.Reads D' (L.filter (fun n => !Pl.belowP n.path p && !decide (n.path = p)))) ∧ w.grownBy w' (some B) := by
  have hun := hide (WUnderN.any B N L L D p w hown hN hR hC (List.Perm.refl _) hr hok hl hp)
  have HM := hide (Pl.piece_filter p L (fun n hn => (hok n hn).1) hr)
  have HMS : Hid (∀ m ∈ Pl.pieceL L p, m.path.size ≤ 1048576) := fun m hm => by
    rw [unhide HM, List.mem_filter] at hm
    have := Pl.pathB_le (hok m hm.1).1; omega
  have hml : (Pl.pieceL L p).length ≤ 1000 := by rw [unhide HM]; exact Nat.le_trans (List.length_filter_le _ _) hl
  have hkp := MapN.keyOf_mk (p := p) (by unfold maxLen; omega)
  have HO := hide hown
  have HR := hide hR
  clear hown hR hC hr hok
  generalize Pl.pieceL L p = M at hun HM HMS hml
  go_enter Tryd.func116, Tryd.ntmps116
  go_wp2_with fail
  refine (unhide hun).mono ?_
  rintro e w1 ⟨a, rfl, hnd, -, b1⟩
  have A0 : Hid (At w w1 B N a L M 0 D) := ⟨Mem.grown_of_below b1 _, WNodesI.map_call (unhide HO) b1, by rw [List.filter_eq_self.2 (fun _ _ => by simp)]; exact unhide HR, hnd⟩
  clear hun hnd b1 HO HR
  go_wp2
  go_loopw [10] (fun i wr => ∃ k : Nat, k ≤ M.length ∧ i = .int .i64 (k : Int) ∧ Hid (∃ D', At w wr B N a L M k D')) (fun i _ => M.length - (intOf i).toNat)
  case atStart => exact ⟨0, Nat.zero_le _, rfl, ⟨_, unhide A0⟩⟩
  case round =>
    obtain ⟨k, hk, rfl, HA⟩ := hrel
    obtain ⟨D1, A⟩ := unhide HA
    have KA := hide A
    clear HA A A0
    by_cases hlt : k < M.length
    · obtain ⟨n, hn⟩ : ∃ n, M[k]? = some n := ⟨_, List.getElem?_eq_getElem hlt⟩
      obtain ⟨b, o, rfl, hb, q0, q1, q2, q3, q4⟩ := (unhide KA).nodes k n hn
      have y1 : (k : Int) < (M.length : Int) := by omega
      have y3 : (0 : Int) ≤ (k : Int) := by omega
      have hkn := MapN.keyOf_mk (p := n.path) (by have := unhide HMS n (List.mem_of_getElem? hn); unfold maxLen; omega)
      have EST := hide (Pl.left_step L M hn)
      have RD := hide (MapN.reads_del (unhide KA).reads n.path)
      rw [unhide EST] at RD
      clear hn EST
      obtain ⟨qp, qk, qd, qt, qm⟩ := n
      simp only at q0 q1 q2 q3 q4 hkn RD
      have OWD := (unhide KA).own.alloc (.cells #[.string qp, .int .i64 qk, .string qd, .int .i64 qt, .int .i64 qm] 50)
      have GW := (Mem.grown_trans (unhide KA).grown (World.grownBy_alloc wr (.cells #[.string qp, .int .i64 qk, .string qd, .int .i64 qt, .int .i64 qm] 50) (some B)))
      have ND := Mem.nodes_call (unhide KA).nodes ((Below.refl _ _).alloc (Nat.le_refl _) (.cells #[.string qp, .int .i64 qk, .string qd, .int .i64 qt, .int .i64 qm] 50))
      clear KA
      go_wp2_with (at_delete; refine wpList_delete_own _ rfl _ _ 114 9 rfl 50 MapN.law Tryd.underlying114 _ B N D1 rfl OWD _ _ rfl hkn ?_)
      intro w2 hown2 hturn2
      have A2 : Hid (At w w2 B N (some ⟨b, o, none⟩) L M (k + 1) (D1.del (MapN.key qp))) := ⟨Mem.grown_trans GW hturn2.grown, hown2, unhide RD, nodes_turn ND OWD hturn2.grown⟩
      clear OWD GW ND hown2 hturn2 RD
      go_wp2
      go_roundw
      case rel => exact ⟨k + 1, by omega, by go_num, ⟨_, unhide A2⟩⟩
      case measure => simp [intOf]; omega
    · obtain rfl : k = M.length := by omega
      have y1 : ¬ ((M.length : Int) < (M.length : Int)) := by omega
      have RD := hide (MapN.reads_del (unhide KA).reads p)
      rw [List.take_length, Pl.left_end (unhide HM)] at RD
      go_wp2_with (at_delete; refine wpList_delete_own _ rfl _ _ 114 9 rfl 50 MapN.law Tryd.underlying114 _ B N D1 rfl (unhide KA).own _ _ rfl hkp ?_)
      intro w2 hown2 hturn2
      have FIN := hide (show (∃ D', w2.ownsMap Tryd.prog 9 MapN.elem B N D' ∧ MapN.Reads D' (L.filter (fun n => !Pl.belowP n.path p && !decide (n.path = p)))) ∧ w.grownBy w2 (some B) from ⟨⟨_, hown2, unhide RD⟩, Mem.grown_trans (unhide KA).grown hturn2.grown⟩)
      clear KA hown2 hturn2 RD HM HMS
      go_wp2
      go_end0
      exact ⟨rfl, unhide FIN⟩
end WCutI
end Go.Proofs.YtkfpfckmjgjanabDoor
