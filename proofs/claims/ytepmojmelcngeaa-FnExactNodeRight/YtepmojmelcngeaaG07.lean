/- Several texts of one claim in one file: WNames, WRightI, WSplit. -/
import Derived.Test.YtepmojmelcngeaaWWords
import Derived.Test.YtepmojmelcngeaaG06
import Derived.Test.YtepmojmelcngeaaG03
import Derived.Test.YtepmojmelcngeaaG04
import Derived.Test.YtepmojmelcngeaaG01
import Derived.Test.YtepmojmelcngeaaProg
import Derived.WalkSpells
/- The walk of the program's namesOf: the names of a right path in a row of the call's own, and whether it is right. -/
namespace Go.Proofs.Ytepmojmelcngeaa
open Go.RowKit
namespace WNames
set_option maxRecDepth 100000 in
set_option maxHeartbeats 400000 in
theorem any (s : ByteArray) (w : World) (hs : s.size ≤ 1048576) :
    Calls Try.prog 15 #[.string s] w fun e w' => ∃ v, e = .returned (.tuple #[v, .bool (Pl.pathB s)]) ∧
      w'.ownsRow w.heap.size 9 1 v (Pl.namesR s).length ((Pl.namesR s).map Value.string) ∧ Below w.heap.size w w' := by
  by_cases h0 : s.size = 0
  · have E := hide (Pl.right_root h0).1
    have E2 := hide ((Pl.namesR_yes (Pl.right_root h0).1).trans (Pl.right_root h0).2)
    obtain rfl : s = ⟨#[]⟩ := by apply ByteArray.ext; exact Array.eq_empty_of_size_eq_zero h0
    go_enter Try.func15, Try.ntmps15
    go_wp2
    go_ret2
    refine ⟨.slice none 0 0, by rw [unhide E]; rfl, ?_, Below.refl _ _⟩
    rw [unhide E2]
    exact World.ownsRow_nil _ _ _ _
  have t0 : s.toList.isEmpty = false := by
    rw [List.isEmpty_eq_false_iff, ByteArray.toList_eq]
    intro h
    have h1 : s.data.toList.length = 0 := by rw [h]; rfl
    rw [Array.length_toList] at h1
    exact h0 h1
  have E1 : Hid (Pl.names s = Pl.cut s 47) := if_neg h0
  by_cases h8 : 8000 < s.size
  · have E := hide (Pl.pathB_long (s := s) (by omega))
    have E2 := hide (Pl.namesR_no (unhide E))
    go_enter Try.func15, Try.ntmps15
    go_wp2
    go_ret2
    refine ⟨.slice none 0 0, by rw [unhide E]; rfl, ?_, Below.refl _ _⟩
    rw [unhide E2]
    exact World.ownsRow_nil _ _ _ _
  have hpos := Pl.cut_pos s
  have hlen := Pl.cut_length s
  have HSZ : Hid (∀ (k : Nat) t, (Pl.cut s 47)[k]? = some t → t.size ≤ maxLen) := fun k t ht => by
    have := Pl.cut_size ht
    unfold maxLen; omega
  have HLONG : Hid (6 < (Pl.cut s 47).length → Pl.pathB s = false) := fun h => by
    rw [Pl.pathB_short, E1.out]; simp; intro _; omega
  have HBAD : Hid (∀ (k : Nat) t, (Pl.cut s 47)[k]? = some t → Pl.nameB t = false → Pl.pathB s = false) := fun k t ht hb => Pl.pathB_bad (by rw [E1.out]; exact ht) hb
  have HGOOD : Hid ((Pl.cut s 47).length ≤ 6 → (∀ (j : Nat) t, (Pl.cut s 47)[j]? = some t → Pl.nameB t = true) → Pl.pathB s = true ∧ Pl.namesR s = Pl.cut s 47) := fun h6 h => by
    have h1 : Pl.pathB s = true := by
      rw [Pl.pathB_short, E1.out]
      simp [h6]
      intro t ht
      obtain ⟨j, hj⟩ := List.mem_iff_getElem?.1 ht
      exact h j t hj
    exact ⟨h1, by rw [Pl.namesR_yes h1, E1.out]⟩
  have hn := hide (WWords.any s w hs)
  generalize Pl.cut s 47 = L at hn hlen HSZ HBAD HGOOD HLONG hpos
  go_enter Try.func15, Try.ntmps15
  go_wp2_with fail
  refine (unhide hn).mono ?_
  rintro e w1 ⟨v, rfl, hown, hbel⟩
  have HO := hide hown
  rcases Mem.texts hown with ⟨rfl, rfl⟩ | ⟨g, cap, rfl, hcap, hm, hgb, hgl, hcell⟩
  · simp at hpos
  have HC := hide hcell
  clear hcell hown hn
  have hm2 := hm
  unfold maxLen at hm2
  by_cases h6 : 6 < L.length
  · have E := hide (HLONG.out h6)
    have E2 := hide (Pl.namesR_no (unhide E))
    go_wp2
    go_ret2
    refine ⟨.slice none 0 0, by rw [unhide E]; rfl, ?_, hbel⟩
    rw [unhide E2]
    exact World.ownsRow_nil _ _ _ _
  go_wp2
  go_loop [19] (fun i => ∃ k : Nat, k ≤ L.length ∧ i = .int .i64 (k : Int) ∧ Hid (∀ (j : Nat) t, j < k → L[j]? = some t → Pl.nameB t = true)) (fun i => L.length - (intOf i).toNat)
  case atStart => exact ⟨0, Nat.zero_le _, rfl, fun j t h => absurd h (by omega)⟩
  case round =>
    obtain ⟨k, hk, rfl, HA⟩ := hrel
    by_cases hlt : k < L.length
    · obtain ⟨t, ht⟩ : ∃ t, L[k]? = some t := ⟨_, List.getElem?_eq_getElem hlt⟩
      have hc := HC.out k t ht
      have hts := HSZ.out k t ht
      cases hb : Pl.nameB t
      · have E := hide (HBAD.out k t ht hb)
        have E2 := hide (Pl.namesR_no (unhide E))
        have HB := hide hb
        clear ht hb
        go_wp2_with (go_at_call 19; refine (WName.impl_any t _ hts).mono ?_; rw [unhide HB]; rintro e w' ⟨rfl, hw⟩; obtain rfl := hw.symm)
        go_ret2
        refine ⟨.slice none 0 0, by rw [unhide E]; rfl, ?_, hbel⟩
        rw [unhide E2]
        exact World.ownsRow_nil _ _ _ _
      · have HB := hide hb
        have HA2 : Hid (∀ (j : Nat) t, j < k + 1 → L[j]? = some t → Pl.nameB t = true) := fun j t' hj h' => by
          rcases Nat.lt_succ_iff_lt_or_eq.1 hj with h'' | rfl
          · exact HA.out j t' h'' h'
          · rw [ht] at h'; cases h'; exact hb
        clear ht hb HA
        go_wp2_with (go_at_call 19; refine (WName.impl_any t _ hts).mono ?_; rw [unhide HB]; rintro e w' ⟨rfl, hw⟩; obtain rfl := hw.symm)
        go_round
        case rel => exact ⟨k + 1, by omega, by go_num, HA2⟩
        case measure => simp [intOf]; omega
    · have E := hide (HGOOD.out (by omega) (fun j t h => HA.out j t (by have := (List.getElem?_eq_some_iff.1 h).1; omega) h))
      clear HA
      go_wp2
      go_ret2
      exact ⟨.slice (some ⟨g, 0, none⟩) L.length cap, by rw [(unhide E).1]; rfl, by rw [(unhide E).2]; exact unhide HO, hbel⟩
end WNames
end Go.Proofs.Ytepmojmelcngeaa

/- The walk of the program's PathRight, PathParent and PathBase. -/
namespace Go.Proofs.Ytepmojmelcngeaa
open Go.RowKit
namespace WPathI
theorem right_any (s : ByteArray) (w : World) (hs : s.size ≤ 1048576) :
    Calls Try.prog 11 #[.string s] w fun e w' => e = .returned (.bool (Pl.pathB s)) ∧ Below w.heap.size w w' := by
  go_enter Try.func11, Try.ntmps11
  go_wp2_with fail
  refine (WNames.any s _ hs).mono ?_
  rintro e w1 ⟨v, rfl, hown, hb⟩
  clear hown
  go_wp2
  go_ret
  exact ⟨rfl, hb⟩
end WPathI
end Go.Proofs.Ytepmojmelcngeaa

/- The walk of the specification's l01Split: the pieces lie in a row of the call's own. -/
namespace Go.Proofs.Ytepmojmelcngeaa
open Go.RowKit
namespace WSplit
theorem infoS : (Try.prog.info? 9).map (fun i => (i.zero, i.size, i.bytes)) = some (some (.string ⟨#[]⟩), 1, 16) := by kernel_rfl

set_option maxRecDepth 100000 in
set_option maxHeartbeats 400000 in
theorem split_any (s : ByteArray) (b : Nat) (w : World) (hs : s.size ≤ 1048576) :
    Calls Try.prog 17 #[.string s, .int .u8 (b : Int)] w fun e w' => ∃ v, e = .returned v ∧
      w'.ownsRow w.heap.size 9 1 v (Pl.cut s b).length ((Pl.cut s b).map Value.string) ∧ Below w.heap.size w w' := by
  obtain ⟨i0, hi, hz0, hz1, hz2⟩ := info_parts infoS
  go_enter Try.func17, Try.ntmps17
  go_wp2
  go_loopw [5, 6, 7] (fun v x i wr => ∃ (k fr : Nat) (L : List ByteArray), k ≤ s.size ∧ fr ≤ k ∧ L.length ≤ k ∧ i = .int .i64 (k : Int) ∧ x = .int .i64 (fr : Int) ∧
      wr.ownsRow w.heap.size 9 1 v L.length (L.map Value.string) ∧ Below w.heap.size w wr ∧ Hid (Pl.cut s b = L ++ Pl.cutF s b (s.size - k) fr k)) (fun _ _ i _ => s.size - (intOf i).toNat)
  case atStart => exact ⟨0, 0, [], by omega, by omega, by simp, rfl, rfl, World.ownsRow_made _ _ 0 (Nat.le_refl _) (Nat.zero_le _) rfl, (Below.refl _ _).alloc (Nat.le_refl _) _, rfl⟩
  case round =>
    obtain ⟨k, fr, L, hk, hfr, hL, rfl, rfl, hown, hbel, H⟩ := hrel
    have hb1 := hbel.size
    by_cases hlt : k < s.size
    · have hf : s.size - k = s.size - (k + 1) + 1 := by omega
      have t1 : (0 : Int) ≤ (fr : Int) := by omega
      have t2 : (fr : Int) ≤ (k : Int) := by omega
      have t3 : (k : Int) ≤ (s.size : Int) := by omega
      by_cases hq : s[k].toNat = b
      · have H2 : Hid (Pl.cut s b = (L ++ [s.extract fr k]) ++ Pl.cutF s b (s.size - (k + 1)) (k + 1) (k + 1)) := by
          show _ = _
          rw [H.out, hf, Pl.cutF_hit hlt hq]; simp
        have t4 : ((s[k].toNat : Int) == (b : Int)) = true := by rw [beq_iff_eq]; omega
        clear H hf hq
        go_wp2_with (at_builtin; refine wpList_append_own _ rfl _ _ 32 rfl w.heap.size 9 i0 (.string ⟨#[]⟩) 1 16 Try.underlying32 hi hz0 hz1 hz2 rfl (by decide) _ _ _ rfl (hown.alloc _) ⟨wr.heap.size, 0, none⟩ 1 1 [.string (s.extract fr k)] rfl rfl ?c1 ?c2 ?c3 ?c4 ?c5 ?_)
        case c1 => exact Mem.one_new _ _ _
        case c2 => intro u hu; simp at hu; subst hu; rfl
        case c3 => unfold maxLen; omega
        case c4 => omega
        case c5 => simp; omega
        · intro v' w2 hown' hgrow _
          have hbel' := Mem.below_append hbel (Nat.le_refl _) hown hgrow
          have hown2 : w2.ownsRow w.heap.size 9 1 v' (L ++ [s.extract fr k]).length ((L ++ [s.extract fr k]).map Value.string) := by simpa using hown'
          clear hgrow hown hbel hown' t4
          go_wp2
          go_roundw
          case rel => exact ⟨k + 1, k + 1, L ++ [s.extract fr k], by omega, by omega, by simp; omega, by go_num, by go_num, hown2, hbel', H2⟩
          case measure => simp [intOf]; omega
      · have H2 : Hid (Pl.cut s b = L ++ Pl.cutF s b (s.size - (k + 1)) fr (k + 1)) := by
          show _ = _
          rw [H.out, hf, Pl.cutF_miss hlt hq]
        have t4 : ((s[k].toNat : Int) == (b : Int)) = false := by rw [beq_eq_false_iff_ne]; omega
        clear H hf hq
        go_wp2
        go_roundw
        case rel => exact ⟨k + 1, fr, L, by omega, by omega, by omega, by go_num, rfl, hown, hbel, H2⟩
        case measure => simp [intOf]; omega
    · obtain rfl : k = s.size := by omega
      have H2 : Hid (Pl.cut s b = L ++ [s.extract fr s.size]) := by
        show _ = _
        rw [H.out, Nat.sub_self]; rfl
      have t1 : (0 : Int) ≤ (fr : Int) := by omega
      have t2 : (fr : Int) ≤ (s.size : Int) := by omega
      clear H
      go_wp2_with (at_builtin; refine wpList_append_own _ rfl _ _ 32 rfl w.heap.size 9 i0 (.string ⟨#[]⟩) 1 16 Try.underlying32 hi hz0 hz1 hz2 rfl (by decide) _ _ _ rfl (hown.alloc _) ⟨wr.heap.size, 0, none⟩ 1 1 [.string (s.extract fr s.size)] rfl rfl ?c1 ?c2 ?c3 ?c4 ?c5 ?_)
      case c1 => exact Mem.one_new _ _ _
      case c2 => intro u hu; simp at hu; subst hu; rfl
      case c3 => unfold maxLen; omega
      case c4 => omega
      case c5 => simp; omega
      · intro v' w2 hown' hgrow _
        have hbel' := Mem.below_append hbel (Nat.le_refl _) hown hgrow
        have hown2 : w2.ownsRow w.heap.size 9 1 v' (Pl.cut s b).length ((Pl.cut s b).map Value.string) := by rw [H2.out]; simpa using hown'
        clear hgrow hown hbel hown'
        go_wp2
        go_ret
        exact ⟨_, rfl, hown2, hbel'⟩
end WSplit
end Go.Proofs.Ytepmojmelcngeaa

