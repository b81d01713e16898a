/- Several texts of one claim in one file: WSplit, WName, WWords, WJoin, WNames, WPathOf, WRightI, WPathS, WSpecR, WParS, WLess1S, WUnder1S, WJoinS, WBase1S, WBothI, WLess, WParentI. -/
import Derived.Test.YteddcihodfkliaaGreatDoorPartA
import Derived.Test.YteddcihodfkliaaGreatDoorProg
import Derived.WalkSpells
import Derived.WalkKit
import Derived.Lib.OthersKept
import Derived.Laws.RangeAny
import Derived.Deep.QuietTactic
import Derived.BigQuiet
/- The walk of the specification's l01Split: the pieces lie in a row of the call's own. -/
namespace Go.Proofs.YteddcihodfkliaaGreatDoor
open Go.RowKit
namespace WSplit
theorem infoS : (Tryz.prog.info? 9).map (fun i => (i.zero, i.size, i.bytes)) = some (some (.string ⟨#[]⟩), 1, 16) := by kernel_rfl

set_option maxRecDepth 100000 in
set_option maxHeartbeats 400000 in
theorem split_any (s : ByteArray) (b : Nat) (w : World) (hs : s.size ≤ 1048576) :
    Calls Tryz.prog 133 #[.string s, .int .u8 (b : Int)] w fun e w' => ∃ v, e = .returned v ∧
      w'.ownsRow w.heap.size 9 1 v (Pl.cut s b).length ((Pl.cut s b).map Value.string) ∧ Below w.heap.size w w' := by
  obtain ⟨i0, hi, hz0, hz1, hz2⟩ := info_parts infoS
  go_enter Tryz.func133, Tryz.ntmps133
  go_wp2
  go_loopw [5, 6, 7] (fun v x i wr => ∃ (k fr : Nat) (L : List ByteArray), k ≤ s.size ∧ fr ≤ k ∧ L.length ≤ k ∧ i = .int .i64 (k : Int) ∧ x = .int .i64 (fr : Int) ∧
      wr.ownsRow w.heap.size 9 1 v L.length (L.map Value.string) ∧ Below w.heap.size w wr ∧ Hid (Pl.cut s b = L ++ Pl.cutF s b (s.size - k) fr k)) (fun _ _ i _ => s.size - (intOf i).toNat)
  case atStart => exact ⟨0, 0, [], by omega, by omega, by simp, rfl, rfl, World.ownsRow_made _ _ 0 (Nat.le_refl _) (Nat.zero_le _) rfl, (Below.refl _ _).alloc (Nat.le_refl _) _, rfl⟩
  case round =>
    obtain ⟨k, fr, L, hk, hfr, hL, rfl, rfl, hown, hbel, H⟩ := hrel
    have hb1 := hbel.size
    by_cases hlt : k < s.size
    · have hf : s.size - k = s.size - (k + 1) + 1 := by omega
      have t1 : (0 : Int) ≤ (fr : Int) := by omega
      have t2 : (fr : Int) ≤ (k : Int) := by omega
      have t3 : (k : Int) ≤ (s.size : Int) := by omega
      by_cases hq : s[k].toNat = b
      · have H2 : Hid (Pl.cut s b = (L ++ [s.extract fr k]) ++ Pl.cutF s b (s.size - (k + 1)) (k + 1) (k + 1)) := by
          show _ = _
          rw [H.out, hf, Pl.cutF_hit hlt hq]; simp
        have t4 : ((s[k].toNat : Int) == (b : Int)) = true := by rw [beq_iff_eq]; omega
        clear H hf hq
        go_wp2_with (at_builtin; refine wpList_append_own _ rfl _ _ 133 rfl w.heap.size 9 i0 (.string ⟨#[]⟩) 1 16 Tryz.underlying133 hi hz0 hz1 hz2 rfl (by decide) _ _ _ rfl (hown.alloc _) ⟨wr.heap.size, 0, none⟩ 1 1 [.string (s.extract fr k)] rfl rfl ?c1 ?c2 ?c3 ?c4 ?c5 ?_)
        case c1 => exact Mem.one_new _ _ _
        case c2 => intro u hu; simp at hu; subst hu; rfl
        case c3 => unfold maxLen; omega
        case c4 => omega
        case c5 => simp; omega
        · intro v' w2 hown' hgrow _
          have hbel' := Mem.below_append hbel (Nat.le_refl _) hown hgrow
          have hown2 : w2.ownsRow w.heap.size 9 1 v' (L ++ [s.extract fr k]).length ((L ++ [s.extract fr k]).map Value.string) := by simpa using hown'
          clear hgrow hown hbel hown' t4
          go_wp2
          go_roundw
          case rel => exact ⟨k + 1, k + 1, L ++ [s.extract fr k], by omega, by omega, by simp; omega, by go_num, by go_num, hown2, hbel', H2⟩
          case measure => simp [intOf]; omega
      · have H2 : Hid (Pl.cut s b = L ++ Pl.cutF s b (s.size - (k + 1)) fr (k + 1)) := by
          show _ = _
          rw [H.out, hf, Pl.cutF_miss hlt hq]
        have t4 : ((s[k].toNat : Int) == (b : Int)) = false := by rw [beq_eq_false_iff_ne]; omega
        clear H hf hq
        go_wp2
        go_roundw
        case rel => exact ⟨k + 1, fr, L, by omega, by omega, by omega, by go_num, rfl, hown, hbel, H2⟩
        case measure => simp [intOf]; omega
    · obtain rfl : k = s.size := by omega
      have H2 : Hid (Pl.cut s b = L ++ [s.extract fr s.size]) := by
        show _ = _
        rw [H.out, Nat.sub_self]; rfl
      have t1 : (0 : Int) ≤ (fr : Int) := by omega
      have t2 : (fr : Int) ≤ (s.size : Int) := by omega
      clear H
      go_wp2_with (at_builtin; refine wpList_append_own _ rfl _ _ 133 rfl w.heap.size 9 i0 (.string ⟨#[]⟩) 1 16 Tryz.underlying133 hi hz0 hz1 hz2 rfl (by decide) _ _ _ rfl (hown.alloc _) ⟨wr.heap.size, 0, none⟩ 1 1 [.string (s.extract fr s.size)] rfl rfl ?c1 ?c2 ?c3 ?c4 ?c5 ?_)
      case c1 => exact Mem.one_new _ _ _
      case c2 => intro u hu; simp at hu; subst hu; rfl
      case c3 => unfold maxLen; omega
      case c4 => omega
      case c5 => simp; omega
      · intro v' w2 hown' hgrow _
        have hbel' := Mem.below_append hbel (Nat.le_refl _) hown hgrow
        have hown2 : w2.ownsRow w.heap.size 9 1 v' (Pl.cut s b).length ((Pl.cut s b).map Value.string) := by rw [H2.out]; simpa using hown'
        clear hgrow hown hbel hown'
        go_wp2
        go_ret
        exact ⟨_, rfl, hown2, hbel'⟩
end WSplit
end Go.Proofs.YteddcihodfkliaaGreatDoor

/- The walks of NameRight, the program's and the specification's: both answer whether the text is a name. -/
namespace Go.Proofs.YteddcihodfkliaaGreatDoor
open Go.RowKit
namespace WName

set_option maxHeartbeats 400000 in
theorem spec_any (s : ByteArray) (w : World) (hs : s.size ≤ maxLen) :
    Calls Tryz.prog 96 #[.string s] w fun e w' => e = .returned (.bool (Pl.nameB s)) ∧ w' = w := by
  unfold maxLen at hs
  by_cases h1 : s.size < 1
  · have e0 := hide (Pl.nameB_short h1)
    go_enter Tryz.func96, Tryz.ntmps96
    go_wp2
    go_ret
    exact ⟨ret_bool (unhide e0).symm, rfl⟩
  by_cases h2 : 20 < s.size
  · have e0 := hide (Pl.nameB_long h2)
    go_enter Tryz.func96, Tryz.ntmps96
    go_wp2
    go_ret
    exact ⟨ret_bool (unhide e0).symm, rfl⟩
  go_enter Tryz.func96, Tryz.ntmps96
  go_wp2
  go_loop [3] (fun i => ∃ k : Nat, k ≤ s.size ∧ i = .int .i64 k ∧ Hid (∀ j, j < k → Pl.okAt j ((s.data.toList.getD j 0).toNat))) (fun i => s.size - (intOf i).toNat)
  case atStart => exact ⟨0, Nat.zero_le _, rfl, fun j hj => absurd hj (by omega)⟩
  case round =>
    obtain ⟨k, hk, rfl, hok⟩ := hrel
    by_cases hlt : k < s.size
    · by_cases hk0 : k = 0
      · subst hk0
        have okc : ∀ n : Nat, Pl.okAt 0 n ↔ (97 ≤ n ∧ n ≤ 122) := fun n => by unfold Pl.okAt; omega
        have OK := hide okc
        clear okc
        rcases Pl.kinds (s[0].toNat : Int) with ⟨a1, a2⟩ | ⟨a1, a2, a3, a4⟩ | ⟨a1, a2, a3, a4⟩ | ⟨a1, a2, a3, a4⟩ | ⟨a1, a2, a3⟩ | ⟨a1, a2, a3, a4, a5⟩
        · go_wp2
          go_round
          case rel => exact ⟨1, by omega, rfl, Pl.ok_step hok.out hlt ((unhide OK _).2 (by omega))⟩
          case measure => simp [intOf]; omega
        all_goals
          go_wp2
          go_ret
          exact ⟨ret_bool (Pl.nameB_bad 0 hlt (by rw [unhide OK]; omega)).symm, rfl⟩
      · have hkb : ((k : Int) == 0) = false := by simp; omega
        have okc : ∀ n : Nat, Pl.okAt k n ↔ (97 ≤ n ∧ n ≤ 122) ∨ (48 ≤ n ∧ n ≤ 57) ∨ n = 95 := fun n => by unfold Pl.okAt; omega
        have OK := hide okc
        clear okc
        rcases Pl.kinds (s[k].toNat : Int) with ⟨a1, a2⟩ | ⟨a1, a2, a3, a4⟩ | ⟨a1, a2, a3, a4⟩ | ⟨a1, a2, a3, a4⟩ | ⟨a1, a2, a3⟩ | ⟨a1, a2, a3, a4, a5⟩
        · go_wp2
          go_round
          case rel => exact ⟨k + 1, by omega, by go_num, Pl.ok_step hok.out hlt ((unhide OK _).2 (by omega))⟩
          case measure => simp [intOf]; omega
        · go_wp2
          go_round
          case rel => exact ⟨k + 1, by omega, by go_num, Pl.ok_step hok.out hlt ((unhide OK _).2 (by omega))⟩
          case measure => simp [intOf]; omega
        · go_wp2
          go_ret
          exact ⟨ret_bool (Pl.nameB_bad k hlt (by rw [unhide OK]; simp at a4; omega)).symm, rfl⟩
        · go_wp2
          go_round
          case rel => exact ⟨k + 1, by omega, by go_num, Pl.ok_step hok.out hlt ((unhide OK _).2 (by simp at a4; omega))⟩
          case measure => simp [intOf]; omega
        all_goals
          go_wp2
          go_ret
          exact ⟨ret_bool (Pl.nameB_bad k hlt (by rw [unhide OK]; omega)).symm, rfl⟩
    · have e0 : Pl.nameB s = true := Pl.nameB_good h1 h2 (fun j hj => hok.out j (by omega))
      have E0 := hide e0
      clear e0
      go_wp2
      go_ret
      exact ⟨ret_bool (unhide E0).symm, rfl⟩

set_option maxHeartbeats 400000 in
theorem impl_any (s : ByteArray) (w : World) (hs : s.size ≤ maxLen) :
    Calls Tryz.prog 119 #[.string s] w fun e w' => e = .returned (.bool (Pl.nameB s)) ∧ w' = w := by
  unfold maxLen at hs
  by_cases h1 : s.size < 1
  · have e0 := hide (Pl.nameB_short h1)
    go_enter Tryz.func119, Tryz.ntmps119
    go_wp2
    go_ret
    exact ⟨ret_bool (unhide e0).symm, rfl⟩
  by_cases h2 : 20 < s.size
  · have e0 := hide (Pl.nameB_long h2)
    go_enter Tryz.func119, Tryz.ntmps119
    go_wp2
    go_ret
    exact ⟨ret_bool (unhide e0).symm, rfl⟩
  have hp : 0 < s.size := by omega
  by_cases hl : 97 ≤ (s[0].toNat : Int) ∧ (s[0].toNat : Int) ≤ 122
  · obtain ⟨l1, l2⟩ := hl
    have H0 : Hid (Pl.okAt 0 s[0].toNat) := Or.inl (by omega)
    go_enter Tryz.func119, Tryz.ntmps119
    go_wp2
    go_loop [21] (fun i => ∃ k : Nat, k ≤ s.size ∧ i = .int .i64 k ∧ Hid (∀ j, j < k → Pl.okAt j ((s.data.toList.getD j 0).toNat))) (fun i => s.size - (intOf i).toNat)
    case atStart => exact ⟨0, Nat.zero_le _, rfl, fun j hj => absurd hj (by omega)⟩
    case round =>
      obtain ⟨k, hk, rfl, hok⟩ := hrel
      by_cases hlt : k < s.size
      · have hstep : Hid ((97 ≤ s[k].toNat ∧ s[k].toNat ≤ 122) ∨ (48 ≤ s[k].toNat ∧ s[k].toNat ≤ 57) ∨ s[k].toNat = 95 → ∀ j, j < k + 1 → Pl.okAt j ((s.data.toList.getD j 0).toNat)) := by
          intro ho
          refine Pl.ok_step hok.out hlt ?_
          by_cases hk0 : k = 0
          · subst hk0; exact H0
          · unfold Pl.okAt; omega
        have hbad : Hid (¬ ((97 ≤ s[k].toNat ∧ s[k].toNat ≤ 122) ∨ (48 ≤ s[k].toNat ∧ s[k].toNat ≤ 57) ∨ s[k].toNat = 95) → Pl.nameB s = false) := by
          intro hn
          exact Pl.nameB_bad k hlt (by unfold Pl.okAt; omega)
        clear l1 l2 H0 hok
        rcases Pl.kinds (s[k].toNat : Int) with ⟨a1, a2⟩ | ⟨a1, a2, a3, a4⟩ | ⟨a1, a2, a3, a4⟩ | ⟨a1, a2, a3, a4⟩ | ⟨a1, a2, a3⟩ | ⟨a1, a2, a3, a4, a5⟩
        · go_wp2
          go_round
          case rel => exact ⟨k + 1, by omega, by go_num, hstep.out (by omega)⟩
          case measure => simp [intOf]; omega
        · go_wp2
          go_round
          case rel => exact ⟨k + 1, by omega, by go_num, hstep.out (by omega)⟩
          case measure => simp [intOf]; omega
        · go_wp2
          go_ret
          exact ⟨ret_bool (hbad.out (by simp at a4; omega)).symm, rfl⟩
        · go_wp2
          go_round
          case rel => exact ⟨k + 1, by omega, by go_num, hstep.out (by simp at a4; omega)⟩
          case measure => simp [intOf]; omega
        all_goals
          go_wp2
          go_ret
          exact ⟨ret_bool (hbad.out (by omega)).symm, rfl⟩
      · have e0 : Pl.nameB s = true := Pl.nameB_good h1 h2 (fun j hj => hok.out j (by omega))
        have E0 := hide e0
        clear e0
        go_wp2
        go_ret
        exact ⟨ret_bool (unhide E0).symm, rfl⟩
  · have e0 : Pl.nameB s = false := Pl.nameB_bad 0 hp (by unfold Pl.okAt; omega)
    have E0 := hide e0
    clear e0
    by_cases g1 : 97 ≤ (s[0].toNat : Int)
    · have g2 : ¬ (s[0].toNat : Int) ≤ 122 := by omega
      clear hl
      go_enter Tryz.func119, Tryz.ntmps119
      go_wp2
      go_ret
      exact ⟨ret_bool (unhide E0).symm, rfl⟩
    · clear hl
      go_enter Tryz.func119, Tryz.ntmps119
      go_wp2
      go_ret
      exact ⟨ret_bool (unhide E0).symm, rfl⟩
end WName
end Go.Proofs.YteddcihodfkliaaGreatDoor

/- The walk of the program's wordsOf: a text ranged over rune by rune, its pieces in a row of the call's own. -/
namespace Go.Proofs.YteddcihodfkliaaGreatDoor
open Go.RowKit
namespace Pl
theorem get_ge (s : ByteArray) (k : Nat) (h : k < s.size) : s.get! k = s[k] := by
  simp [ByteArray.get!, getElem!_pos, h]; rfl
/-- A rune at a byte that is no slash is none, and no slash lies in its bytes. -/
theorem rune_other (s : ByteArray) (pos : Nat) (h : pos < s.size) (hb : s[pos].toNat ≠ 47) :
    ((Utf8.decode s pos).1 ≠ 47) ∧ 1 ≤ (Utf8.decode s pos).2 ∧ pos + (Utf8.decode s pos).2 ≤ s.size ∧ ∀ j (hj : j < s.size), pos ≤ j → j < pos + (Utf8.decode s pos).2 → s[j].toNat ≠ 47 := by
  by_cases ha : s[pos].toNat < 128
  · rw [decode_ascii s pos h ha]
    refine ⟨hb, Nat.le_refl _, h, fun j hj h1 h2 => ?_⟩
    obtain rfl : j = pos := by simp at h2; omega
    exact hb
  · have hh := decode_high s pos h (by omega)
    refine ⟨by omega, hh.2, ?_⟩
    have hg := get_ge s
    have key : pos + (Utf8.decode s pos).2 ≤ s.size ∧ ∀ k, 1 ≤ k → k < (Utf8.decode s pos).2 → (s.get! (pos + k)).toNat / 64 = 2 := by
      have h0 : s.get! (pos + 0) = s[pos] := hg pos h
      simp only [Utf8.decode, h0, ha, if_false]
      repeat' split
      all_goals simp_all
      all_goals first
        | omega
        | (refine ⟨by omega, fun k h1 h2 => ?_⟩
           rcases (show k = 1 ∨ k = 2 ∨ k = 3 by omega) with rfl | rfl | rfl <;> first | omega | (simp_all; done))
    refine ⟨key.1, fun j hj h1 h2 => ?_⟩
    by_cases he : j = pos
    · subst he; exact hb
    · have := key.2 (j - pos) (by omega) (by omega)
      rw [Nat.add_sub_cancel' h1, hg j hj] at this
      omega
theorem cutF_over {s : ByteArray} {fr : Nat} : ∀ n k, k + n ≤ s.size → (∀ j (hj : j < s.size), k ≤ j → j < k + n → s[j].toNat ≠ 47) → cutF s 47 (s.size - k) fr k = cutF s 47 (s.size - (k + n)) fr (k + n) := by
  intro n
  induction n with
  | zero => intro k _ _; rfl
  | succ n ih =>
    intro k hk h
    have hlt : k < s.size := by omega
    have hf : s.size - k = s.size - (k + 1) + 1 := by omega
    rw [hf, cutF_miss hlt (h k hlt (Nat.le_refl _) (by omega)), ih (k + 1) (by omega) (fun j hj h1 h2 => h j hj (by omega) (by omega))]
    have e : k + 1 + n = k + (n + 1) := by omega
    rw [e]
end Pl
namespace Mem
theorem own_iterAt {w : World} {B e size n : Nat} {v : Value} {xs : List Value} {k : Nat} {s : ByteArray} {pos : Nat} (h : w.ownsRow B e size v n xs) (hk : w.heap[k]? = some (.stringIter s pos)) (pos' : Nat) : (w.iterAt k s pos').ownsRow B e size v n xs := by
  refine ⟨h.1, ?_⟩
  rcases h.2 with h0 | ⟨g, cap, cur, hv, hb, hg, rest⟩
  · exact .inl h0
  · refine .inr ⟨g, cap, cur, hv, hb, ?_, rest⟩
    rw [Lib.iterAt_other _ _ _ _ _ (fun e => by subst e; rw [hk] at hg; cases hg)]
    exact hg
theorem own_no_iter {w : World} {B e size n : Nat} {v : Value} {xs : List Value} {k : Nat} {s : ByteArray} {pos : Nat} (h : w.ownsRow B e size v n xs) (hk : w.heap[k]? = some (.stringIter s pos)) : some k ≠ v.ownBlock := by
  rcases h.2 with ⟨rfl, _⟩ | ⟨g, cap, cur, rfl, hb, hg, rest⟩
  · simp [Value.ownBlock]
  · intro e
    simp only [Value.ownBlock, Option.some.injEq] at e
    subst e
    rw [hk] at hg
    cases hg
end Mem
namespace WWords
theorem infoS : (Tryz.prog.info? 9).map (fun i => (i.zero, i.size, i.bytes)) = some (some (.string ⟨#[]⟩), 1, 16) := by kernel_rfl

set_option maxRecDepth 100000 in
set_option maxHeartbeats 400000 in
theorem any (s : ByteArray) (w : World) (hs : s.size ≤ 1048576) :
    Calls Tryz.prog 118 #[.string s] w fun e w' => ∃ v, e = .returned v ∧
      w'.ownsRow w.heap.size 9 1 v (Pl.cut s 47).length ((Pl.cut s 47).map Value.string) ∧ Below w.heap.size w w' := by
  obtain ⟨i0, hi, hz0, hz1, hz2⟩ := info_parts infoS
  go_enter Tryz.func118, Tryz.ntmps118
  go_wp2
  go_loopw [3, 4] (fun v x wr => ∃ (pos fr : Nat) (L : List ByteArray), pos ≤ s.size ∧ fr ≤ pos ∧ L.length ≤ pos ∧ x = .int .i64 (fr : Int) ∧
      wr.ownsRow w.heap.size 9 1 v L.length (L.map Value.string) ∧ wr.heap[w.heap.size + 1]? = some (.stringIter s pos) ∧ Below w.heap.size w wr ∧ Hid (Pl.cut s 47 = L ++ Pl.cutF s 47 (s.size - pos) fr pos)) (fun _ _ wr => s.size - wr.iterPos (w.heap.size + 1))
  case atStart =>
    refine ⟨0, 0, [], by omega, by omega, by simp, rfl, (World.ownsRow_made _ _ 0 (Nat.le_refl _) (Nat.zero_le _) rfl).alloc _, ?_, ((Below.refl _ _).alloc (Nat.le_refl _) _).alloc (by simp) _, rfl⟩
    have := World.iter_heap (w.alloc (.cells #[] 9)) s 0
    simpa using this
  case round =>
    obtain ⟨pos, fr, L, hk, hfr, hL, rfl, hown, hit, hbel, H⟩ := hrel
    have hb1 := hbel.size
    have hsz : w.heap.size + 1 < wr.heap.size := (Array.getElem?_eq_some_iff.1 hit).1
    have hip : wr.iterPos (w.heap.size + 1) = pos := by simp only [World.iterPos, hit]
    by_cases hlt : pos < s.size
    · by_cases hq : s[pos].toNat = 47
      · have ha : s[pos].toNat < 128 := by omega
        have hnx : ∀ ty, (Instr.next (.pointer (some ⟨w.heap.size + 1, 0, none⟩)) true ty).run Tryz.prog wr = .ok (.tuple #[.bool true, .int .i64 pos, .int .i32 47]) (wr.iterAt (w.heap.size + 1) s (pos + 1)) := fun ty => by
          rw [Lib.run_next_ascii_at wr (w.heap.size + 1) s pos ty hit hlt ha, hq]; rfl
        have hf : s.size - pos = s.size - (pos + 1) + 1 := by omega
        have H2 : Hid (Pl.cut s 47 = (L ++ [s.extract fr pos]) ++ Pl.cutF s 47 (s.size - (pos + 1)) (pos + 1) (pos + 1)) := by
          show _ = _
          rw [H.out, hf, Pl.cutF_hit hlt hq]; simp
        have hown2 := Mem.own_iterAt hown hit (pos + 1)
        have hit2 := Lib.iterAt_heap wr (w.heap.size + 1) s pos (pos + 1) hit
        have hbel2 := Lib.below_iterAt hbel (k := w.heap.size + 1) (by omega) s (pos + 1)
        have hsz2 : Hid ((wr.iterAt (w.heap.size + 1) s (pos + 1)).heap.size = wr.heap.size) := Lib.iterAt_size _ _ _ _
        have hne := Mem.own_no_iter hown2 hit2
        generalize wr.iterAt (w.heap.size + 1) s (pos + 1) = w1 at hnx hown2 hit2 hbel2 hsz2
        have t1 : (0 : Int) ≤ (fr : Int) := by omega
        have t2 : (fr : Int) ≤ (pos : Int) := by omega
        have t3 : (pos : Int) ≤ (s.size : Int) := by omega
        clear H hf hq hown hit hbel ha
        go_wp2_with (at_builtin; refine wpList_append_own _ rfl _ _ 133 rfl w.heap.size 9 i0 (.string ⟨#[]⟩) 1 16 Tryz.underlying133 hi hz0 hz1 hz2 rfl (by decide) _ _ _ rfl (hown2.alloc _) ⟨w1.heap.size, 0, none⟩ 1 1 [.string (s.extract fr pos)] rfl rfl ?c1 ?c2 ?c3 ?c4 ?c5 ?_)
        case c1 => exact Mem.one_new _ _ _
        case c2 => intro u hu; simp at hu; subst hu; rfl
        case c3 => unfold maxLen; omega
        case c4 => omega
        case c5 => have := hsz2.out; simp; omega
        · intro v' w2 hown' hgrow _
          have hsz2 := hsz2.out
          have hbel' := Mem.below_append hbel2 (Nat.le_refl _) hown2 hgrow
          have hown3 : w2.ownsRow w.heap.size 9 1 v' (L ++ [s.extract fr pos]).length ((L ++ [s.extract fr pos]).map Value.string) := by simpa using hown'
          have hit3 : w2.heap[w.heap.size + 1]? = some (.stringIter s (pos + 1)) :=
            (hgrow.block (w.heap.size + 1) (by simp; omega) hne).trans ((Below.heap_alloc _ _ _ (by omega)).trans hit2)
          have hip3 : w2.iterPos (w.heap.size + 1) = pos + 1 := by simp only [World.iterPos, hit3]
          clear hgrow hown2 hbel2 hown' hnx hit2
          go_wp2
          go_roundw
          case rel => exact ⟨pos + 1, pos + 1, L ++ [s.extract fr pos], by omega, by omega, by simp; omega, by go_num, hown3, hit3, hbel', H2⟩
          case measure => rw [hip3, hip]; omega
      · obtain ⟨r1, r2, r3, r4⟩ := Pl.rune_other s pos hlt hq
        have hnx : ∀ ty, (Instr.next (.pointer (some ⟨w.heap.size + 1, 0, none⟩)) true ty).run Tryz.prog wr = .ok (.tuple #[.bool true, .int .i64 pos, .int .i32 (Utf8.decode s pos).1]) (wr.iterAt (w.heap.size + 1) s (pos + (Utf8.decode s pos).2)) := fun ty =>
          Lib.run_next_any_at wr (w.heap.size + 1) s pos ty hit hlt
        have H2 : Hid (Pl.cut s 47 = L ++ Pl.cutF s 47 (s.size - (pos + (Utf8.decode s pos).2)) fr (pos + (Utf8.decode s pos).2)) := by
          show _ = _
          rw [H.out, Pl.cutF_over _ pos r3 r4]
        have hown2 := Mem.own_iterAt hown hit (pos + (Utf8.decode s pos).2)
        have hit2 := Lib.iterAt_heap wr (w.heap.size + 1) s pos (pos + (Utf8.decode s pos).2) hit
        have hbel2 := Lib.below_iterAt hbel (k := w.heap.size + 1) (by omega) s (pos + (Utf8.decode s pos).2)
        have hip2 : (wr.iterAt (w.heap.size + 1) s (pos + (Utf8.decode s pos).2)).iterPos (w.heap.size + 1) = pos + (Utf8.decode s pos).2 := by simp only [World.iterPos, hit2]
        have t4 : (((Utf8.decode s pos).1 : Int) == 47) = false := by rw [beq_eq_false_iff_ne]; omega
        generalize hD : (Utf8.decode s pos).2 = n at *
        generalize (Utf8.decode s pos).1 = r at *
        generalize wr.iterAt (w.heap.size + 1) s (pos + n) = w1 at *
        clear H hq hown hit hbel r4 hD r1
        go_wp2
        go_roundw
        case rel => exact ⟨pos + n, fr, L, r3, by omega, by omega, rfl, hown2, hit2, hbel2, H2⟩
        case measure => rw [hip2, hip]; omega
    · obtain rfl : pos = s.size := by omega
      have hnx : ∀ ty, (Instr.next (.pointer (some ⟨w.heap.size + 1, 0, none⟩)) true ty).run Tryz.prog wr = .ok (.tuple #[.bool false]) wr := fun ty => Lib.run_next_end_at wr (w.heap.size + 1) s s.size ty hit hlt
      have H2 : Hid (Pl.cut s 47 = L ++ [s.extract fr s.size]) := by
        show _ = _
        rw [H.out, Nat.sub_self]; rfl
      have t1 : (0 : Int) ≤ (fr : Int) := by omega
      have t2 : (fr : Int) ≤ (s.size : Int) := by omega
      clear H
      go_wp2_with (at_builtin; refine wpList_append_own _ rfl _ _ 133 rfl w.heap.size 9 i0 (.string ⟨#[]⟩) 1 16 Tryz.underlying133 hi hz0 hz1 hz2 rfl (by decide) _ _ _ rfl (hown.alloc _) ⟨wr.heap.size, 0, none⟩ 1 1 [.string (s.extract fr s.size)] rfl rfl ?c1 ?c2 ?c3 ?c4 ?c5 ?_)
      case c1 => exact Mem.one_new _ _ _
      case c2 => intro u hu; simp at hu; subst hu; rfl
      case c3 => unfold maxLen; omega
      case c4 => omega
      case c5 => simp; omega
      · intro v' w2 hown' hgrow _
        have hbel' := Mem.below_append hbel (Nat.le_refl _) hown hgrow
        have hown2 : w2.ownsRow w.heap.size 9 1 v' (Pl.cut s 47).length ((Pl.cut s 47).map Value.string) := by rw [H2.out]; simpa using hown'
        clear hgrow hown hbel hown'
        go_wp2
        go_ret
        exact ⟨_, rfl, hown2, hbel'⟩
end WWords
end Go.Proofs.YteddcihodfkliaaGreatDoor

/- The walk of the program's joined: texts put together in new memory. -/
namespace Go.Proofs.YteddcihodfkliaaGreatDoor
open Go.RowKit
namespace WJoin
theorem Tryz.one8 (w : World) : (sizeOf 5).run Tryz.prog w = .ok 1 w := by kernel_rfl
theorem Tryz.info8j : (Tryz.prog.info? 5).map (fun i => (i.zero, i.size, i.bytes)) = some (some (.int .u8 0), 1, 1) := by kernel_rfl

set_option maxRecDepth 100000 in
set_option maxHeartbeats 400000 in
theorem any (b o cap : Nat) (ts : List ByteArray) (w : World) (hn : ts.length ≤ 1000000) (ht : Pl.tot ts ≤ 1000000000)
    (hcell : ∀ j t, ts[j]? = some t → w.cell? ⟨b, o + j, none⟩ = some (.string t)) (hb : b < w.heap.size) :
    Calls Tryz.prog 79 #[.slice (some ⟨b, o, none⟩) ts.length cap] w fun e w' => e = .returned (.string ⟨(Pl.cat ts).toArray⟩) ∧ Below w.heap.size w w' := by
  have HC := hide hcell
  clear hcell
  go_enter Tryz.func79, Tryz.ntmps79
  go_wp2
  go_loop [3, 12] (fun n i => ∃ k : Nat, k ≤ ts.length ∧ i = .int .i64 k ∧ n = .int .i64 (Pl.tot (ts.take k) : Nat)) (fun _ i => ts.length - (intOf i).toNat)
  case atStart => exact ⟨0, Nat.zero_le _, rfl, rfl⟩
  case round =>
    obtain ⟨k, hk, rfl, rfl⟩ := hrel
    by_cases hlt : k < ts.length
    · obtain ⟨t, hkt⟩ : ∃ t, ts[k]? = some t := ⟨_, List.getElem?_eq_getElem hlt⟩
      have hc := unhide HC k t hkt
      have H1 := hide (Pl.tot_snoc ts k t hkt)
      have h1 := Pl.tot_le ts (k + 1)
      have h2 : Pl.tot (ts.take k) + t.size ≤ 1000000000 := by have := unhide H1; omega
      clear hkt h1
      go_wp2
      go_round
      case rel => exact ⟨k + 1, by omega, by go_num, by rw [unhide H1]; go_num⟩
      case measure => simp [intOf]; omega
    · have HE : Hid (Pl.tot (ts.take k) = Pl.tot ts) := by
        show _ = _
        rw [List.take_of_length_le (by omega)]
      have hmk := Mem.make_bytes (P := Tryz.prog) Tryz.underlying22 Tryz.info8j (Pl.tot ts) ht w
      rw [HE.out]
      go_wp2
      go_loopw [7, 25] (fun p i wr => ∃ (k : Nat) (cur : Array Value), k ≤ ts.length ∧ i = .int .i64 k ∧ p = .int .i64 (Pl.tot (ts.take k) : Nat) ∧ wr.heap[w.heap.size]? = some (.cells cur 5 (0, 0)) ∧ cur.size = Pl.tot ts ∧
          Hid (cur.toList.take (Pl.tot (ts.take k)) = (Pl.cat (ts.take k)).map Pl.byteVal) ∧ Below w.heap.size w wr) (fun _ i _ => ts.length - (intOf i).toNat)
      case atStart => exact ⟨0, Mem.zeros (Pl.tot ts), Nat.zero_le _, rfl, rfl, heap_alloc_new w _, Mem.zeros_size _, rfl, (Below.refl _ _).alloc (Nat.le_refl _) _⟩
      case round =>
        obtain ⟨k, cur, hk, rfl, rfl, hrow, hcs, HP, hbel⟩ := hrel
        by_cases hlt : k < ts.length
        · obtain ⟨t, hkt⟩ : ∃ t, ts[k]? = some t := ⟨_, List.getElem?_eq_getElem hlt⟩
          have hc : wr.cell? ⟨b, o + k, none⟩ = some (.string t) := (hbel.cell (p := ⟨b, o + k, none⟩) hb).trans (unhide HC k t hkt)
          have H1 := hide (Pl.tot_snoc ts k t hkt)
          have h1 := Pl.tot_le ts (k + 1)
          have h2 : Pl.tot (ts.take k) + t.size ≤ Pl.tot ts := by have := unhide H1; omega
          have HS := hide (Pl.part_step hkt HP.out)
          obtain ⟨D, w2, hsl, hcp, hrow2, hbel2⟩ := Mem.copy_on (P := Tryz.prog) (sT := 9) Tryz.underlying22 Tryz.one8 wr w.heap.size (Pl.tot (ts.take k)) (Pl.tot ts) cur hrow hcs t h2
          have HROW2 := hide hrow2
          have HB2 := hide (hbel.trans hbel2)
          have hsz : Hid ((cur.toList.take (Pl.tot (ts.take k)) ++ t.data.toList.map Pl.byteVal ++ cur.toList.drop (Pl.tot (ts.take k) + t.size)).toArray.size = Pl.tot ts) := by
            show _ = _
            have : t.data.size = t.size := rfl
            simp [this]
            omega
          clear hkt h1 hrow hrow2 hbel2 hbel
          go_wp2
          go_roundw
          case rel => exact ⟨k + 1, _, by omega, by go_num, by rw [unhide H1]; go_num, HROW2, hsz, HS, HB2⟩
          case measure => simp [intOf]; omega
        · have HE2 : Hid (Pl.cat (ts.take k) = Pl.cat ts ∧ Pl.tot (ts.take k) = Pl.tot ts) := by
            show _ ∧ _
            rw [List.take_of_length_le (by omega)]
            exact ⟨rfl, rfl⟩
          have hp : cur.toList.take (Pl.tot ts) = (Pl.cat ts).map Pl.byteVal := by have := HP.out; rwa [HE2.out.1, HE2.out.2] at this
          have hcv := Mem.row_text (P := Tryz.prog) (cap := Pl.tot ts) Tryz.underlying22 Tryz.underlying5 Tryz.underlying9 (Pl.cat ts) (Pl.cat_length ts) hrow hp
          clear hp hrow
          go_wp2
          go_ret
          exact ⟨rfl, hbel⟩
end WJoin
end Go.Proofs.YteddcihodfkliaaGreatDoor

/- The walk of the program's namesOf: the names of a right path in a row of the call's own, and whether it is right. -/
namespace Go.Proofs.YteddcihodfkliaaGreatDoor
open Go.RowKit
namespace WNames
set_option maxRecDepth 100000 in
set_option maxHeartbeats 400000 in
theorem any (s : ByteArray) (w : World) (hs : s.size ≤ 1048576) :
    Calls Tryz.prog 80 #[.string s] w fun e w' => ∃ v, e = .returned (.tuple #[v, .bool (Pl.pathB s)]) ∧
      w'.ownsRow w.heap.size 9 1 v (Pl.namesR s).length ((Pl.namesR s).map Value.string) ∧ Below w.heap.size w w' := by
  by_cases h0 : s.size = 0
  · have E := hide (Pl.right_root h0).1
    have E2 := hide ((Pl.namesR_yes (Pl.right_root h0).1).trans (Pl.right_root h0).2)
    obtain rfl : s = ⟨#[]⟩ := by apply ByteArray.ext; exact Array.eq_empty_of_size_eq_zero h0
    go_enter Tryz.func80, Tryz.ntmps80
    go_wp2
    go_ret2
    refine ⟨.slice none 0 0, by rw [unhide E]; rfl, ?_, Below.refl _ _⟩
    rw [unhide E2]
    exact World.ownsRow_nil _ _ _ _
  have t0 : s.toList.isEmpty = false := by
    rw [List.isEmpty_eq_false_iff, ByteArray.toList_eq]
    intro h
    have h1 : s.data.toList.length = 0 := by rw [h]; rfl
    rw [Array.length_toList] at h1
    exact h0 h1
  have E1 : Hid (Pl.names s = Pl.cut s 47) := if_neg h0
  by_cases h8 : 8000 < s.size
  · have E := hide (Pl.pathB_long (s := s) (by omega))
    have E2 := hide (Pl.namesR_no (unhide E))
    go_enter Tryz.func80, Tryz.ntmps80
    go_wp2
    go_ret2
    refine ⟨.slice none 0 0, by rw [unhide E]; rfl, ?_, Below.refl _ _⟩
    rw [unhide E2]
    exact World.ownsRow_nil _ _ _ _
  have hpos := Pl.cut_pos s
  have hlen := Pl.cut_length s
  have HSZ : Hid (∀ (k : Nat) t, (Pl.cut s 47)[k]? = some t → t.size ≤ maxLen) := fun k t ht => by
    have := Pl.cut_size ht
    unfold maxLen; omega
  have HLONG : Hid (6 < (Pl.cut s 47).length → Pl.pathB s = false) := fun h => by
    rw [Pl.pathB_short, E1.out]; simp; intro _; omega
  have HBAD : Hid (∀ (k : Nat) t, (Pl.cut s 47)[k]? = some t → Pl.nameB t = false → Pl.pathB s = false) := fun k t ht hb => Pl.pathB_bad (by rw [E1.out]; exact ht) hb
  have HGOOD : Hid ((Pl.cut s 47).length ≤ 6 → (∀ (j : Nat) t, (Pl.cut s 47)[j]? = some t → Pl.nameB t = true) → Pl.pathB s = true ∧ Pl.namesR s = Pl.cut s 47) := fun h6 h => by
    have h1 : Pl.pathB s = true := by
      rw [Pl.pathB_short, E1.out]
      simp [h6]
      intro t ht
      obtain ⟨j, hj⟩ := List.mem_iff_getElem?.1 ht
      exact h j t hj
    exact ⟨h1, by rw [Pl.namesR_yes h1, E1.out]⟩
  have hn := hide (WWords.any s w hs)
  generalize Pl.cut s 47 = L at hn hlen HSZ HBAD HGOOD HLONG hpos
  go_enter Tryz.func80, Tryz.ntmps80
  go_wp2_with fail
  refine (unhide hn).mono ?_
  rintro e w1 ⟨v, rfl, hown, hbel⟩
  have HO := hide hown
  rcases Mem.texts hown with ⟨rfl, rfl⟩ | ⟨g, cap, rfl, hcap, hm, hgb, hgl, hcell⟩
  · simp at hpos
  have HC := hide hcell
  clear hcell hown hn
  have hm2 := hm
  unfold maxLen at hm2
  by_cases h6 : 6 < L.length
  · have E := hide (HLONG.out h6)
    have E2 := hide (Pl.namesR_no (unhide E))
    go_wp2
    go_ret2
    refine ⟨.slice none 0 0, by rw [unhide E]; rfl, ?_, hbel⟩
    rw [unhide E2]
    exact World.ownsRow_nil _ _ _ _
  go_wp2
  go_loop [19] (fun i => ∃ k : Nat, k ≤ L.length ∧ i = .int .i64 (k : Int) ∧ Hid (∀ (j : Nat) t, j < k → L[j]? = some t → Pl.nameB t = true)) (fun i => L.length - (intOf i).toNat)
  case atStart => exact ⟨0, Nat.zero_le _, rfl, fun j t h => absurd h (by omega)⟩
  case round =>
    obtain ⟨k, hk, rfl, HA⟩ := hrel
    by_cases hlt : k < L.length
    · obtain ⟨t, ht⟩ : ∃ t, L[k]? = some t := ⟨_, List.getElem?_eq_getElem hlt⟩
      have hc := HC.out k t ht
      have hts := HSZ.out k t ht
      cases hb : Pl.nameB t
      · have E := hide (HBAD.out k t ht hb)
        have E2 := hide (Pl.namesR_no (unhide E))
        have HB := hide hb
        clear ht hb
        go_wp2_with (go_at_call 119; refine (WName.impl_any t _ hts).mono ?_; rw [unhide HB]; rintro e w' ⟨rfl, hw⟩; obtain rfl := hw.symm)
        go_ret2
        refine ⟨.slice none 0 0, by rw [unhide E]; rfl, ?_, hbel⟩
        rw [unhide E2]
        exact World.ownsRow_nil _ _ _ _
      · have HB := hide hb
        have HA2 : Hid (∀ (j : Nat) t, j < k + 1 → L[j]? = some t → Pl.nameB t = true) := fun j t' hj h' => by
          rcases Nat.lt_succ_iff_lt_or_eq.1 hj with h'' | rfl
          · exact HA.out j t' h'' h'
          · rw [ht] at h'; cases h'; exact hb
        clear ht hb HA
        go_wp2_with (go_at_call 119; refine (WName.impl_any t _ hts).mono ?_; rw [unhide HB]; rintro e w' ⟨rfl, hw⟩; obtain rfl := hw.symm)
        go_round
        case rel => exact ⟨k + 1, by omega, by go_num, HA2⟩
        case measure => simp [intOf]; omega
    · have E := hide (HGOOD.out (by omega) (fun j t h => HA.out j t (by have := (List.getElem?_eq_some_iff.1 h).1; omega) h))
      clear HA
      go_wp2
      go_ret2
      exact ⟨.slice (some ⟨g, 0, none⟩) L.length cap, by rw [(unhide E).1]; rfl, by rw [(unhide E).2]; exact unhide HO, hbel⟩
end WNames
end Go.Proofs.YteddcihodfkliaaGreatDoor

/- The walk of the program's pathOf: names put together with a slash between, in new memory. -/
namespace Go.Proofs.YteddcihodfkliaaGreatDoor
open Go.RowKit
namespace Pl
/-- What is put together for the first k names. -/
def partsTo (ts : List ByteArray) : Nat → List ByteArray
  | 0 => []
  | k + 1 => partsTo ts k ++ (if k = 0 then [] else [⟨#[47]⟩]) ++ [ts.getD k ⟨#[]⟩]
theorem glueL_snoc (A : List (List UInt8)) (a : List UInt8) : glueL (A ++ [a]) = glueL A ++ (if A = [] then [] else [47]) ++ a := by
  by_cases h : A = []
  · subst h; rfl
  · rw [glueL_append h (by simp), if_neg h]; simp [glueL]
theorem cat_append (A B : List ByteArray) : cat (A ++ B) = cat A ++ cat B := by simp [cat]
theorem parts_cat (ts : List ByteArray) : ∀ k, k ≤ ts.length → cat (partsTo ts k) = glueL ((ts.take k).map by_) := by
  intro k
  induction k with
  | zero => intro _; rfl
  | succ k ih =>
    intro hk
    have hlt : k < ts.length := by omega
    rw [partsTo, cat_append, cat_append, ih (by omega), List.take_add_one, List.getElem?_eq_getElem hlt, Option.toList_some, List.map_append, List.map_cons, List.map_nil, glueL_snoc, cat_one]
    have h1 : ts.getD k ⟨#[]⟩ = ts[k] := by simp [List.getD_eq_getElem?_getD, List.getElem?_eq_getElem hlt]
    rw [h1]
    have h2 : cat (if k = 0 then [] else [(⟨#[47]⟩ : ByteArray)]) = if (ts.take k).map by_ = [] then [] else [47] := by
      by_cases h0 : k = 0
      · subst h0; rfl
      · rw [if_neg h0, if_neg (by simp; exact ⟨h0, by intro e; subst e; simp at hlt⟩)]; rfl
    rw [h2]; rfl
theorem parts_glue (ts : List ByteArray) : (⟨(cat (partsTo ts ts.length)).toArray⟩ : ByteArray) = glue ts := by
  rw [parts_cat ts _ (Nat.le_refl _), List.take_length]; rfl
theorem parts_tot (ts : List ByteArray) : tot (partsTo ts ts.length) = (glue ts).size := by
  rw [← cat_length, parts_cat ts _ (Nat.le_refl _), List.take_length, ← by_glue, by_length]
theorem parts_length (ts : List ByteArray) : ∀ k, (partsTo ts k).length ≤ 2 * k := by
  intro k
  induction k with
  | zero => simp [partsTo]
  | succ k ih =>
    rw [partsTo]
    by_cases h : k = 0
    · simp [h, partsTo]
    · simp [h]; omega
theorem parts_first {ts : List ByteArray} {t : ByteArray} (ht : ts[0]? = some t) : partsTo ts 1 = partsTo ts 0 ++ [t] := by
  simp [partsTo, List.getD_eq_getElem?_getD, ht]
theorem parts_next {ts : List ByteArray} {k : Nat} {t : ByteArray} (hk : k ≠ 0) (ht : ts[k]? = some t) : partsTo ts (k + 1) = (partsTo ts k ++ [⟨#[47]⟩]) ++ [t] := by
  simp [partsTo, List.getD_eq_getElem?_getD, ht, hk]
end Pl
namespace WPathOf
theorem make12 (w : World) : (Instr.makeSlice 133 (.int .i64 0) (.int .i64 12)).run Tryz.prog w = .ok (.slice (some ⟨w.heap.size, 0, none⟩) 0 12) (w.alloc (.cells (madeCells (Value.string ⟨#[]⟩).cells 12) 9)) := by
  obtain ⟨i0, h0, h1, h2, h3⟩ := info_parts WWords.infoS
  have h := run_make (P := Tryz.prog) w 133 9 i0 (.string ⟨#[]⟩) Tryz.underlying133 h0 h1 .i64 .i64 0 12 (by omega) (by omega) (by rw [h3]; omega) (by omega)
  rw [h]; simp [h2]

set_option maxRecDepth 100000 in
set_option maxHeartbeats 400000 in
theorem any (v : Value) (ts : List ByteArray) (w : World) (hn : ts.length ≤ 1000) (hg : (Pl.glue ts).size ≤ 1000000) (hv : Mem.isTexts w v ts) :
    Calls Tryz.prog 132 #[v] w fun e w' => e = .returned (.string (Pl.glue ts)) ∧ Below w.heap.size w w' := by
  obtain ⟨i0, hi, hz0, hz1, hz2⟩ := info_parts WWords.infoS
  have hmk := make12
  have H0 : Hid ((⟨(Pl.cat (Pl.partsTo ts ts.length)).toArray⟩ : ByteArray) = Pl.glue ts) := Pl.parts_glue ts
  have H1 : Hid (Pl.tot (Pl.partsTo ts ts.length) ≤ 1000000000) := by have := Pl.parts_tot ts; show _ ≤ _; omega
  by_cases hts : ts = []
  · subst hts
    have hv2 : ∃ a cap, v = .slice a 0 cap := by
      rcases hv with ⟨rfl, _⟩ | ⟨b, o, cap, rfl, _⟩
      · exact ⟨_, _, rfl⟩
      · exact ⟨_, _, rfl⟩
    obtain ⟨a, cap, rfl⟩ := hv2
    go_enter Tryz.func132, Tryz.ntmps132
    go_wp2
    go_loop [3, 9] (fun p i => p = .slice (some ⟨w.heap.size, 0, none⟩) 0 12 ∧ i = .int .i64 0) (fun _ _ => 0)
    case atStart => exact ⟨rfl, rfl⟩
    case round =>
      obtain ⟨rfl, rfl⟩ := hrel
      go_wp2_with fail
      refine (WJoin.any w.heap.size 0 12 [] _ (by simp) (by simp [Pl.tot]) (fun j t h => by simp at h) (by simp)).mono ?_
      rintro e w1 ⟨rfl, hb1⟩
      go_wp2
      go_ret
      exact ⟨rfl, ((Below.refl _ _).alloc (Nat.le_refl _) _).trans (hb1.mono (by simp))⟩
  have hpos : 0 < ts.length := List.length_pos_iff.2 hts
  have HNE : Hid (Pl.partsTo ts ts.length ≠ []) := by
    intro h
    obtain ⟨n, hn⟩ : ∃ n, ts.length = n + 1 := ⟨ts.length - 1, by omega⟩
    rw [hn, Pl.partsTo] at h
    simp at h
  rcases hv with ⟨rfl, rfl⟩ | ⟨b, o, cap, rfl, hb, hcell⟩
  · exact absurd rfl hts
  · have HC := hide hcell
    clear hcell
    go_enter Tryz.func132, Tryz.ntmps132
    go_wp2
    go_loopw [3, 9] (fun p i wr => ∃ k : Nat, k ≤ ts.length ∧ i = .int .i64 (k : Int) ∧ wr.ownsRow w.heap.size 9 1 p (Pl.partsTo ts k).length ((Pl.partsTo ts k).map Value.string) ∧ Below w.heap.size w wr) (fun _ i _ => ts.length - (intOf i).toNat)
    case atStart => exact ⟨0, Nat.zero_le _, rfl, World.ownsRow_made _ _ 12 (Nat.le_refl _) (by unfold maxLen; omega) (size_madeCells _ _), (Below.refl _ _).alloc (Nat.le_refl _) _⟩
    case round =>
      obtain ⟨k, hk, rfl, hown, hbel⟩ := hrel
      have hb1 := hbel.size
      have hpl := Pl.parts_length ts k
      by_cases hlt : k < ts.length
      · obtain ⟨t, hkt⟩ : ∃ t, ts[k]? = some t := ⟨_, List.getElem?_eq_getElem hlt⟩
        have hc : wr.cell? ⟨b, o + k, none⟩ = some (.string t) := (hbel.cell (p := ⟨b, o + k, none⟩) hb).trans (unhide HC k t hkt)
        by_cases h0 : k = 0
        · have HS : Hid (Pl.partsTo ts (k + 1) = Pl.partsTo ts k ++ [t]) := by subst h0; exact Pl.parts_first hkt
          have hp : ¬ (0 : Int) < (k : Int) := by omega
          clear hkt h0
          go_wp2_with (at_builtin; refine wpList_append_own _ rfl _ _ 133 rfl w.heap.size 9 i0 (.string ⟨#[]⟩) 1 16 Tryz.underlying133 hi hz0 hz1 hz2 rfl (by decide) _ _ _ rfl (hown.alloc _) ⟨wr.heap.size, 0, none⟩ 1 1 [.string t] rfl rfl (Mem.one_new _ _ _) (Mem.one_str _) (by unfold maxLen; omega) (by omega) (by simp; omega) ?_)
          · intro v' w2 hown' hgrow _
            have hbel' := Mem.below_append hbel (Nat.le_refl _) hown hgrow
            have hown2 : Hid (w2.ownsRow w.heap.size 9 1 v' (Pl.partsTo ts (k + 1)).length ((Pl.partsTo ts (k + 1)).map Value.string)) := by
              show World.ownsRow _ _ _ _ _ _ _
              rw [unhide HS]; simpa using hown'
            clear hgrow hown hbel hown' hc
            go_wp2
            go_roundw
            case rel => exact ⟨k + 1, by omega, by go_num, hown2, hbel'⟩
            case measure => simp [intOf]; omega
        · have HS := hide (Pl.parts_next h0 hkt)
          have hp : (0 : Int) < (k : Int) := by omega
          clear hkt
          go_wp2_with (at_builtin; refine wpList_append_own _ rfl _ _ 133 rfl w.heap.size 9 i0 (.string ⟨#[]⟩) 1 16 Tryz.underlying133 hi hz0 hz1 hz2 rfl (by decide) _ _ _ rfl (hown.alloc _) ⟨wr.heap.size, 0, none⟩ 1 1 [.string ⟨#[47]⟩] rfl rfl (Mem.one_new _ _ _) (Mem.one_str _) (by unfold maxLen; omega) (by omega) (by simp; omega) ?_)
          · intro v1 w1 hown' hgrow _
            have hbel' := Mem.below_append hbel (Nat.le_refl _) hown hgrow
            have hown1 : w1.ownsRow w.heap.size 9 1 v1 (Pl.partsTo ts k ++ [(⟨#[47]⟩ : ByteArray)]).length ((Pl.partsTo ts k ++ [(⟨#[47]⟩ : ByteArray)]).map Value.string) := by simpa using hown'
            have hb2 := hbel'.size
            have hl2 : (Pl.partsTo ts k ++ [(⟨#[47]⟩ : ByteArray)]).length ≤ 2 * k + 1 := by simp; omega
            clear hgrow hown hbel hown' hc hpl
            go_wp2_with (at_builtin; refine wpList_append_own _ rfl _ _ 133 rfl w.heap.size 9 i0 (.string ⟨#[]⟩) 1 16 Tryz.underlying133 hi hz0 hz1 hz2 rfl (by decide) _ _ _ rfl (hown1.alloc _) ⟨w1.heap.size, 0, none⟩ 1 1 [.string t] rfl rfl (Mem.one_new _ _ _) (Mem.one_str _) (by unfold maxLen; omega) (by omega) (by simp; omega) ?_)
            · intro v' w2 hown' hgrow _
              have hbel2 := Mem.below_append hbel' (Nat.le_refl _) hown1 hgrow
              have hown2 : Hid (w2.ownsRow w.heap.size 9 1 v' (Pl.partsTo ts (k + 1)).length ((Pl.partsTo ts (k + 1)).map Value.string)) := by
                show World.ownsRow _ _ _ _ _ _ _
                rw [unhide HS]; simpa using hown'
              clear hgrow hown1 hbel' hown'
              go_wp2
              go_roundw
              case rel => exact ⟨k + 1, by omega, by go_num, hown2, hbel2⟩
              case measure => simp [intOf]; omega
      · obtain rfl : k = ts.length := by omega
        rcases Mem.own_texts hown with ⟨rfl, hnil⟩ | ⟨g, o', cap', rfl, hgl, hcell'⟩
        · exact absurd hnil HNE.out
        · have HC' := hide hcell'
          clear hcell' hown
          go_wp2_with fail
          refine (WJoin.any g o' cap' (Pl.partsTo ts ts.length) _ (by omega) H1.out HC'.out hgl).mono ?_
          rintro e w1 ⟨rfl, hb1⟩
          go_wp2
          go_ret
          exact ⟨by rw [H0.out]; rfl, hbel.trans (hb1.mono (by omega))⟩
end WPathOf
end Go.Proofs.YteddcihodfkliaaGreatDoor

/- The walk of the program's PathRight, PathParent and PathBase. -/
namespace Go.Proofs.YteddcihodfkliaaGreatDoor
open Go.RowKit
namespace WPathI
theorem right_any (s : ByteArray) (w : World) (hs : s.size ≤ 1048576) :
    Calls Tryz.prog 47 #[.string s] w fun e w' => e = .returned (.bool (Pl.pathB s)) ∧ Below w.heap.size w w' := by
  go_enter Tryz.func47, Tryz.ntmps47
  go_wp2_with fail
  refine (WNames.any s _ hs).mono ?_
  rintro e w1 ⟨v, rfl, hown, hb⟩
  clear hown
  go_wp2
  go_ret
  exact ⟨rfl, hb⟩
end WPathI
end Go.Proofs.YteddcihodfkliaaGreatDoor

/- The walks of the specification's l02Names and PathRight. -/
namespace Go.Proofs.YteddcihodfkliaaGreatDoor
open Go.RowKit
namespace WPathS

theorem names_any (s : ByteArray) (w : World) (hs : s.size ≤ 1048576) :
    Calls Tryz.prog 95 #[.string s] w fun e w' => ∃ v, e = .returned v ∧
      w'.ownsRow w.heap.size 9 1 v (Pl.names s).length ((Pl.names s).map Value.string) ∧ Below w.heap.size w w' := by
  by_cases h0 : s.size = 0
  · have E : Hid (Pl.names s = []) := if_pos h0
    obtain rfl : s = ⟨#[]⟩ := by apply ByteArray.ext; exact Array.eq_empty_of_size_eq_zero h0
    go_enter Tryz.func95, Tryz.ntmps95
    go_wp2
    go_ret
    refine ⟨_, rfl, ?_, (Below.refl _ _).alloc (Nat.le_refl _) _⟩
    rw [E.out]
    exact World.ownsRow_made _ _ 0 (Nat.le_refl _) (Nat.zero_le _) rfl
  · have E : Hid (Pl.names s = Pl.cut s 47) := if_neg h0
    have t0 : s.toList.isEmpty = false := by
      rw [List.isEmpty_eq_false_iff, ByteArray.toList_eq]
      intro h
      have h1 : s.data.toList.length = 0 := by rw [h]; rfl
      rw [Array.length_toList] at h1
      exact h0 h1
    go_enter Tryz.func95, Tryz.ntmps95
    go_wp2_with fail
    refine (WSplit.split_any s 47 _ hs).mono ?_
    rintro e w1 ⟨v, rfl, hown, hb⟩
    have HO := hide hown
    clear hown
    go_wp2
    go_ret
    exact ⟨_, rfl, by rw [E.out]; exact unhide HO, hb⟩

set_option maxRecDepth 100000 in
set_option maxHeartbeats 400000 in
theorem right_any (s : ByteArray) (w : World) (hs : s.size ≤ maxLen) :
    Calls Tryz.prog 55 #[.string s] w fun e w' => e = .returned (.bool (Pl.pathB s)) ∧ Below w.heap.size w w' := by
  unfold maxLen at hs
  by_cases h2 : 200 < s.size
  · have E := hide (Pl.pathB_long h2)
    go_enter Tryz.func55, Tryz.ntmps55
    go_wp2
    go_ret
    exact ⟨ret_bool (unhide E).symm, Below.refl _ _⟩
  have hlen := Pl.names_length s
  have HSZ : Hid (∀ (k : Nat) t, (Pl.names s)[k]? = some t → t.size ≤ maxLen) := fun k t ht => by
    have := Pl.names_size ht
    unfold maxLen; omega
  have HBAD : Hid (∀ (k : Nat) t, (Pl.names s)[k]? = some t → Pl.nameB t = false → Pl.pathB s = false) := fun k t ht hb => Pl.pathB_bad ht hb
  have HGOOD : Hid ((∀ (j : Nat) t, (Pl.names s)[j]? = some t → Pl.nameB t = true) → Pl.pathB s = decide ((Pl.names s).length ≤ 6)) := fun h => Pl.pathB_good (by omega) h
  have hn := hide (names_any s w (by omega))
  generalize Pl.names s = L at hn hlen HSZ HBAD HGOOD
  go_enter Tryz.func55, Tryz.ntmps55
  go_wp2_with fail
  refine (unhide hn).mono ?_
  rintro e w1 ⟨v, rfl, hown, hbel⟩
  rcases hown.2 with ⟨rfl, h0⟩ | ⟨g, cap, cur, rfl, hgb, hg, hcap, hm, hsz, htk⟩
  · obtain rfl : L = [] := List.eq_nil_of_length_eq_zero h0
    have E := hide (HGOOD.out (fun j t h => by simp at h))
    clear hown hn HGOOD HBAD HSZ
    go_wp2
    go_loop [4] (fun i => i = .int .i64 0) (fun _ => 0)
    case atStart => rfl
    case round =>
      subst hrel
      go_wp2
      go_ret
      exact ⟨ret_bool (by rw [unhide E]; rfl), hbel⟩
  · have hcell : ∀ (k : Nat) t, L[k]? = some t → w1.cell? ⟨g, k, none⟩ = some (.string t) := by
      intro k t ht
      have hk := (List.getElem?_eq_some_iff.1 ht).1
      rw [cell_of_row w1 g k cur 9 (0, 0) hg]
      have h1 : (cur.toList.take (L.length * 1))[k]? = (L.map Value.string)[k]? := by rw [htk]
      rw [List.getElem?_take_of_lt (by omega), List.getElem?_map, ht] at h1
      simpa using h1
    have HC := hide hcell
    clear hcell hown hn hg htk hsz
    have hm2 := hm
    unfold maxLen at hm2
    go_wp2
    go_loop [4] (fun i => ∃ k : Nat, k ≤ L.length ∧ i = .int .i64 (k : Int) ∧ Hid (∀ (j : Nat) t, j < k → L[j]? = some t → Pl.nameB t = true)) (fun i => L.length - (intOf i).toNat)
    case atStart => exact ⟨0, Nat.zero_le _, rfl, fun j t h => absurd h (by omega)⟩
    case round =>
      obtain ⟨k, hk, rfl, HA⟩ := hrel
      by_cases hlt : k < L.length
      · obtain ⟨t, ht⟩ : ∃ t, L[k]? = some t := ⟨_, List.getElem?_eq_getElem hlt⟩
        have hc := HC.out k t ht
        have hts := HSZ.out k t ht
        cases hb : Pl.nameB t
        · have E := hide (HBAD.out k t ht hb)
          have HB := hide hb
          clear ht hb
          go_wp2_with (go_at_call 96; refine (WName.spec_any t _ hts).mono ?_; rw [unhide HB]; rintro e w' ⟨rfl, hw⟩; obtain rfl := hw.symm)
          go_ret
          exact ⟨ret_bool (unhide E).symm, hbel⟩
        · have HB := hide hb
          have HA2 : Hid (∀ (j : Nat) t, j < k + 1 → L[j]? = some t → Pl.nameB t = true) := fun j t' hj h' => by
            rcases Nat.lt_succ_iff_lt_or_eq.1 hj with h'' | rfl
            · exact HA.out j t' h'' h'
            · rw [ht] at h'; cases h'; exact hb
          clear ht hb HA
          go_wp2_with (go_at_call 96; refine (WName.spec_any t _ hts).mono ?_; rw [unhide HB]; rintro e w' ⟨rfl, hw⟩; obtain rfl := hw.symm)
          go_round
          case rel => exact ⟨k + 1, by omega, by go_num, HA2⟩
          case measure => simp [intOf]; omega
      · have E := hide (HGOOD.out (fun j t h => HA.out j t (by have := (List.getElem?_eq_some_iff.1 h).1; omega) h))
        clear HA
        by_cases h6 : L.length ≤ 6
        · have t6 : (L.length : Int) ≤ 6 := by omega
          go_wp2
          go_ret
          exact ⟨ret_bool (by rw [unhide E]; simp [h6]), hbel⟩
        · have t6 : ¬ (L.length : Int) ≤ 6 := by omega
          go_wp2
          go_ret
          exact ⟨ret_bool (by rw [unhide E]; simp [h6]), hbel⟩
end WPathS
end Go.Proofs.YteddcihodfkliaaGreatDoor

/- The specification's PathRight, under the bound of the laws. -/
namespace Go.Proofs.YteddcihodfkliaaGreatDoor
open Go.RowKit
namespace WPathS
theorem right_one (s : ByteArray) (w : World) (hs : s.size ≤ 1048576) :
    Calls Tryz.prog 55 #[.string s] w fun e w' => e = .returned (.bool (Pl.pathB s)) ∧ Below w.heap.size w w' := right_any s w (by unfold maxLen; omega)
end WPathS
end Go.Proofs.YteddcihodfkliaaGreatDoor

/- The walks of the specification's l02Cut, l02Parent and PathParent. -/
namespace Go.Proofs.YteddcihodfkliaaGreatDoor
open Go.RowKit
namespace WPathS

set_option maxHeartbeats 400000 in
theorem cut_any (s : ByteArray) (w : World) (hs : s.size ≤ maxLen) :
    Calls Tryz.prog 122 #[.string s] w fun e w' => e = .returned (.int .i64 (Pl.slashTo s s.size)) ∧ w' = w := by
  unfold maxLen at hs
  go_enter Tryz.func122, Tryz.ntmps122
  go_wp2
  go_loop [3, 4] (fun x i => ∃ k : Nat, k ≤ s.size ∧ i = .int .i64 (k : Int) ∧ x = .int .i64 (Pl.slashTo s k)) (fun _ i => s.size - (intOf i).toNat)
  case atStart => exact ⟨0, Nat.zero_le _, rfl, rfl⟩
  case round =>
    obtain ⟨k, hk, rfl, rfl⟩ := hrel
    by_cases hlt : k < s.size
    · by_cases hb : s[k].toNat = 47
      · have H := hide (Pl.slash_hit hlt hb)
        have t1 : ((s[k].toNat : Int) == 47) = true := by rw [beq_iff_eq]; omega
        clear hb
        go_wp2
        go_round
        case rel => exact ⟨k + 1, by omega, by go_num, by rw [unhide H]⟩
        case measure => simp [intOf]; omega
      · have H := hide (Pl.slash_miss hlt hb)
        have t1 : ((s[k].toNat : Int) == 47) = false := by rw [beq_eq_false_iff_ne]; omega
        clear hb
        go_wp2
        go_round
        case rel => exact ⟨k + 1, by omega, by go_num, by rw [unhide H]⟩
        case measure => simp [intOf]; omega
    · obtain rfl : k = s.size := by omega
      go_wp2
      go_ret
      exact ⟨rfl, rfl⟩

theorem parent_any (s : ByteArray) (w : World) (hs : s.size ≤ maxLen) :
    Calls Tryz.prog 89 #[.string s] w fun e w' => e = .returned (.string (Pl.parent s)) ∧ w' = w := by
  have hb := Pl.slash_lt s s.size
  have hc := hide (cut_any s w hs)
  unfold maxLen at hs
  have E0 : Hid (Pl.slashTo s s.size < 0 → Pl.parent s = ⟨#[]⟩) := fun h => if_pos h
  have E1 : Hid (¬ Pl.slashTo s s.size < 0 → Pl.parent s = s.extract 0 (Pl.slashTo s s.size).toNat) := fun h => if_neg h
  generalize Pl.slashTo s s.size = k at hc hb E0 E1
  by_cases h : k < 0
  · have E := hide (E0.out h)
    clear E0 E1
    go_enter Tryz.func89, Tryz.ntmps89
    go_wp2_with (go_at_call 122; refine (unhide hc).mono ?_; rintro e w' ⟨rfl, hw⟩; obtain rfl := hw.symm)
    go_ret
    exact ⟨ret_string (unhide E).symm, rfl⟩
  · have E := hide (E1.out h)
    have t1 : 0 ≤ k := by omega
    have t2 : k ≤ (s.size : Int) := by omega
    clear E0 E1
    go_enter Tryz.func89, Tryz.ntmps89
    go_wp2_with (go_at_call 122; refine (unhide hc).mono ?_; rintro e w' ⟨rfl, hw⟩; obtain rfl := hw.symm)
    go_ret
    exact ⟨ret_string (unhide E).symm, rfl⟩
end WPathS
end Go.Proofs.YteddcihodfkliaaGreatDoor

/- The walk of the specification's l02Less. -/
namespace Go.Proofs.YteddcihodfkliaaGreatDoor
open Go.RowKit
namespace WPathS
set_option maxRecDepth 100000 in
set_option maxHeartbeats 1000000 in
theorem less1_any (p t : ByteArray) (w : World) (hp : p.size ≤ 8000) (ht : t.size ≤ 8000) :
    Calls Tryz.prog 87 #[.string p, .string t] w fun e w' => e = .returned (.bool (Pl.lessL (Pl.names p) (Pl.names t))) ∧ Below w.heap.size w w' := by
  have hn1 := hide (fun W => names_any p W (by omega))
  have hn2 := hide (fun W => names_any t W (by omega))
  have hA := Pl.names_length p
  have hB := Pl.names_length t
  generalize Pl.names p = A at hn1 hA ⊢
  generalize Pl.names t = B at hn2 hB ⊢
  have HE : Hid (∀ k, k = A.length ∧ k ≤ B.length ∨ k = B.length ∧ k ≤ A.length → Pl.lessL (A.drop k) (B.drop k) = decide (A.length < B.length)) := fun k h => Pl.less_end h
  have HS : Hid (Pl.lessL A B = Pl.lessL (A.drop 0) (B.drop 0)) := rfl
  have HT : Hid (∀ k a b, A[k]? = some a → B[k]? = some b → a = b → Pl.lessL (A.drop k) (B.drop k) = Pl.lessL (A.drop (k + 1)) (B.drop (k + 1))) := fun k a b h1 h2 h3 => Pl.less_same h1 h2 h3
  have HF : Hid (∀ k a b, A[k]? = some a → B[k]? = some b → a ≠ b → Pl.lessL (A.drop k) (B.drop k) = Op.bytesLess a.toList b.toList) := fun k a b h1 h2 h3 => Pl.less_other h1 h2 h3
  generalize Pl.lessL A B = R at HS ⊢
  go_enter Tryz.func87, Tryz.ntmps87
  go_wp2_with fail
  refine (unhide hn1 _).mono ?_
  rintro e w1 ⟨v, rfl, hown1, b1⟩
  have HO1 := hide hown1
  clear hown1
  go_wp2_with fail
  refine (unhide hn2 _).mono ?_
  rintro e w2 ⟨u, rfl, hown2, b2⟩
  have hv := hide (Mem.texts_call (Mem.own_texts (unhide HO1)) b2)
  have hu := hide (Mem.own_texts hown2)
  have b3 := b1.trans (b2.mono b1.size)
  have hs3 := b3.size
  clear b1 b2 hown2 HO1 hn1 hn2
  obtain ⟨va, vc, rfl⟩ := Mem.texts_shape (unhide hv)
  obtain ⟨ua, uc, rfl⟩ := Mem.texts_shape (unhide hu)
  have HCA : Hid (∀ (k : Nat) x, A[k]? = some x → ∃ b o, va = some ⟨b, o, none⟩ ∧ b < w2.heap.size ∧ w2.cell? ⟨b, o + k, none⟩ = some (.string x)) := fun k x hx => by
    rcases unhide hv with ⟨_, rfl⟩ | ⟨b, o, cap, h1, h2, h3⟩
    · simp at hx
    · cases h1; exact ⟨b, o, rfl, h2, h3 k x hx⟩
  have HCB : Hid (∀ (k : Nat) x, B[k]? = some x → ∃ b o, ua = some ⟨b, o, none⟩ ∧ b < w2.heap.size ∧ w2.cell? ⟨b, o + k, none⟩ = some (.string x)) := fun k x hx => by
    rcases unhide hu with ⟨_, rfl⟩ | ⟨b, o, cap, h1, h2, h3⟩
    · simp at hx
    · cases h1; exact ⟨b, o, rfl, h2, h3 k x hx⟩
  clear hv hu
  go_wp2
  go_loopw [7] (fun i wr => ∃ k : Nat, k ≤ A.length ∧ k ≤ B.length ∧ i = .int .i64 (k : Int) ∧ Below w2.heap.size w2 wr ∧ Hid (R = Pl.lessL (A.drop k) (B.drop k))) (fun i _ => A.length - (intOf i).toNat)
  case atStart => exact ⟨0, Nat.zero_le _, Nat.zero_le _, rfl, Below.refl _ _, HS⟩
  case round =>
    obtain ⟨k, hk, hk2, rfl, hbel, HR⟩ := hrel
    by_cases hlt : k < A.length ∧ k < B.length
    · obtain ⟨l1, l2⟩ := hlt
      obtain ⟨y, hy⟩ : ∃ y, B[k]? = some y := ⟨_, List.getElem?_eq_getElem (by omega)⟩
      obtain ⟨x, hx⟩ : ∃ x, A[k]? = some x := ⟨_, List.getElem?_eq_getElem (by omega)⟩
      obtain ⟨b, o, rfl, hb, hcb⟩ := HCB.out k y hy
      obtain ⟨b', o', rfl, hb', hca⟩ := HCA.out k x hx
      have hc1 : wr.cell? ⟨b, o + k, none⟩ = some (.string y) := (hbel.cell (p := ⟨b, o + k, none⟩) hb).trans hcb
      have hc2 : wr.cell? ⟨b', o' + k, none⟩ = some (.string x) := (hbel.cell (p := ⟨b', o' + k, none⟩) hb').trans hca
      have u1 : (k : Int) < (A.length : Int) := by omega
      have u2 : (k : Int) < (B.length : Int) := by omega
      have u3 : (0 : Int) ≤ (k : Int) := by omega
      clear hcb hca
      by_cases hxy : x = y
      · have t2 := Pl.eq_lists hxy
        have HR2 : Hid (R = Pl.lessL (A.drop (k + 1)) (B.drop (k + 1))) := HR.out.trans (HT.out k x y hx hy hxy)
        clear hx hy HR hxy
        go_wp2
        go_quiet (fail)
        go_wp2
        go_roundw
        case rel => exact ⟨k + 1, by omega, by omega, by go_num, Mem.below_drewN hbel _, HR2⟩
        case measure => simp [intOf]; omega
      · have t2 := Pl.ne_lists hxy
        have E : Hid (R = Op.bytesLess x.toList y.toList) := HR.out.trans (HF.out k x y hx hy hxy)
        clear hx hy HR hxy
        go_wp2
        go_quiet (fail)
        go_wp2
        go_quiet (fail)
        go_wp2
        go_ret
        exact ⟨ret_bool E.out.symm, b3.trans ((Mem.below_drewN (Mem.below_drewN hbel _) _).mono hs3)⟩
    · have E : Hid (R = decide (A.length < B.length)) := HR.out.trans (HE.out _ (by omega))
      clear HR
      by_cases l1 : k < A.length
      · have u1 : (k : Int) < (A.length : Int) := by omega
        have u2 : ¬ (k : Int) < (B.length : Int) := by omega
        clear hlt
        go_wp2
        go_ret
        exact ⟨ret_bool (by rw [E.out]), b3.trans (hbel.mono hs3)⟩
      · have u1 : ¬ (k : Int) < (A.length : Int) := by omega
        clear hlt
        go_wp2
        go_ret
        exact ⟨ret_bool (by rw [E.out]), b3.trans (hbel.mono hs3)⟩
end WPathS
end Go.Proofs.YteddcihodfkliaaGreatDoor

/- The walk of the specification's l02Under. -/
namespace Go.Proofs.YteddcihodfkliaaGreatDoor
open Go.RowKit
namespace Pl
theorem under_root {p t : ByteArray} (h : by_ t = []) : under p t = true := (under_iff p t).2 (.inl h)
theorem under_same (p : ByteArray) : under p p = true := (under_iff p p).2 (.inr (.inl rfl))
theorem under_short {p t : ByteArray} (h0 : by_ t ≠ []) (h1 : p ≠ t) (h : ¬ t.size < p.size) : under p t = false := by
  rw [Bool.eq_false_iff]
  intro h2
  rcases (under_iff p t).1 h2 with h3 | h3 | ⟨r, h3⟩
  · exact h0 h3
  · exact h1 (by_inj h3)
  · have := congrArg List.length h3
    rw [by_length, List.length_append, List.length_cons, by_length] at this
    omega
theorem by_pre (p t : ByteArray) : by_ (p.extract 0 t.size) = (by_ p).take t.size := by rw [by_extract]; simp
theorem under_other {p t : ByteArray} (h0 : by_ t ≠ []) (h1 : p ≠ t) (h : p.extract 0 t.size ≠ t) : under p t = false := by
  rw [Bool.eq_false_iff]
  intro h2
  rcases (under_iff p t).1 h2 with h3 | h3 | ⟨r, h3⟩
  · exact h0 h3
  · exact h1 (by_inj h3)
  · apply h; apply by_inj; rw [by_pre, h3, ← by_length, List.take_left]
theorem pre_split {p t : ByteArray} (hl : t.size < p.size) (h : p.extract 0 t.size = t) : by_ p = by_ t ++ p[t.size] :: (by_ p).drop (t.size + 1) := by
  have h1 : by_ t = (by_ p).take t.size := by rw [← by_pre, h]
  have h2 : t.size < (by_ p).length := by rw [by_length]; exact hl
  have h3 : (by_ p).drop t.size = p[t.size] :: (by_ p).drop (t.size + 1) := by rw [List.drop_eq_getElem_cons h2]; rfl
  exact (List.take_append_drop t.size (by_ p)).symm.trans (by rw [h3, ← h1]; rfl)
theorem under_yes {p t : ByteArray} (hl : t.size < p.size) (h : p.extract 0 t.size = t) (hb : p[t.size].toNat = 47) : under p t = true := by
  refine (under_iff p t).2 (.inr (.inr ⟨(by_ p).drop (t.size + 1), ?_⟩))
  have hb' : p[t.size] = 47 := UInt8.toNat_inj.1 hb
  rw [← hb']; exact pre_split hl h
theorem under_no {p t : ByteArray} (h0 : by_ t ≠ []) (h1 : p ≠ t) (hl : t.size < p.size) (h : p.extract 0 t.size = t) (hb : p[t.size].toNat ≠ 47) : under p t = false := by
  rw [Bool.eq_false_iff]
  intro h2
  rcases (under_iff p t).1 h2 with h3 | h3 | ⟨r, h3⟩
  · exact h0 h3
  · exact h1 (by_inj h3)
  · rw [pre_split hl h] at h3
    have := List.append_cancel_left h3
    simp at this
    exact hb (by rw [this.1]; rfl)
end Pl
namespace WPathS
set_option maxRecDepth 100000 in
set_option maxHeartbeats 400000 in
theorem under1_any (p t : ByteArray) (w : World) (ht : t.size ≤ 1048576) :
    Calls Tryz.prog 160 #[.string p, .string t] w fun e w' => e = .returned (.bool (Pl.under p t)) ∧ w' = w := by
  by_cases h0 : Pl.by_ t = []
  · have E := hide (Pl.under_root (p := p) h0)
    have d1 : t.toList.isEmpty = true := by rw [Pl.empty_list]; simp [h0]
    clear h0
    go_enter Tryz.func160, Tryz.ntmps160
    go_wp2
    go_ret
    exact ⟨ret_bool (unhide E).symm, rfl⟩
  have d1 : t.toList.isEmpty = false := by rw [Pl.empty_list]; simp [h0]
  by_cases h1 : p = t
  · subst h1
    have E := hide (Pl.under_same p)
    clear h0
    go_enter Tryz.func160, Tryz.ntmps160
    go_wp2
    go_ret
    exact ⟨ret_bool (unhide E).symm, rfl⟩
  have d2 := Pl.ne_lists h1
  by_cases hl : t.size < p.size
  · have k1 : (t.size : Int) < (p.size : Int) := by omega
    have k2 : (t.size : Int) ≤ (p.size : Int) := by omega
    have k3 : (0 : Int) ≤ (t.size : Int) := by omega
    by_cases h3 : p.extract 0 t.size = t
    · have d3 := Pl.eq_lists h3
      by_cases h4 : p[t.size].toNat = 47
      · have E := hide (Pl.under_yes hl h3 h4)
        have d4 : ((p[t.size].toNat : Int) == 47) = true := by rw [beq_iff_eq]; omega
        clear h0 h1 h3 h4
        go_enter Tryz.func160, Tryz.ntmps160
        go_wp2
        go_ret
        exact ⟨ret_bool (unhide E).symm, rfl⟩
      · have E := hide (Pl.under_no h0 h1 hl h3 h4)
        have d4 : ((p[t.size].toNat : Int) == 47) = false := by rw [beq_eq_false_iff_ne]; omega
        clear h0 h1 h3 h4
        go_enter Tryz.func160, Tryz.ntmps160
        go_wp2
        go_ret
        exact ⟨ret_bool (unhide E).symm, rfl⟩
    · have E := hide (Pl.under_other h0 h1 h3)
      have d3 := Pl.ne_lists h3
      clear h0 h1 h3
      go_enter Tryz.func160, Tryz.ntmps160
      go_wp2
      go_ret
      exact ⟨ret_bool (unhide E).symm, rfl⟩
  · have E := hide (Pl.under_short h0 h1 hl)
    have k1 : ¬ (t.size : Int) < (p.size : Int) := by omega
    clear h0 h1
    go_enter Tryz.func160, Tryz.ntmps160
    go_wp2
    go_ret
    exact ⟨ret_bool (unhide E).symm, rfl⟩
end WPathS
end Go.Proofs.YteddcihodfkliaaGreatDoor

/- The walk of the specification's l02Join. -/
namespace Go.Proofs.YteddcihodfkliaaGreatDoor
open Go.RowKit
namespace WPathS
theorem join1_any (p n : ByteArray) (w : World) (hp : p.size ≤ 1048576) (hq : n.size ≤ 1048576) :
    Calls Tryz.prog 97 #[.string p, .string n] w fun e w' => e = .returned (.string (Pl.joinN p n)) ∧ w' = w := by
  by_cases h0 : Pl.by_ p = []
  · have E := hide (Pl.joinN_root (n := n) h0)
    have d1 : p.toList.isEmpty = true := by rw [Pl.empty_list]; simp [h0]
    clear h0
    go_enter Tryz.func97, Tryz.ntmps97
    go_wp2
    go_ret
    exact ⟨ret_string (unhide E).symm, rfl⟩
  · have E : Hid (p ++ ⟨#[47]⟩ ++ n = Pl.joinN p n) := by
      show _ = _
      apply Pl.by_inj
      rw [Pl.joinN_two h0]
      simp [Pl.by_]
    have d1 : p.toList.isEmpty = false := by rw [Pl.empty_list]; simp [h0]
    clear h0
    generalize Pl.joinN p n = R at E ⊢
    go_enter Tryz.func97, Tryz.ntmps97
    go_wp2
    go_ret
    exact ⟨by rw [← unhide E]; rfl, rfl⟩

end WPathS
end Go.Proofs.YteddcihodfkliaaGreatDoor

/- The walk of the specification's l02Base. -/
namespace Go.Proofs.YteddcihodfkliaaGreatDoor
open Go.RowKit
namespace WPathS
theorem base1_any (s : ByteArray) (w : World) (hs : s.size ≤ maxLen) :
    Calls Tryz.prog 82 #[.string s] w fun e w' => e = .returned (.string (Pl.base s)) ∧ w' = w := by
  have hb := Pl.slash_lt s s.size
  have hc := hide (fun W => cut_any s W hs)
  unfold maxLen at hs
  have E : Hid (Pl.base s = s.extract (Pl.slashTo s s.size + 1).toNat s.size) := rfl
  generalize Pl.base s = R at E ⊢
  generalize Pl.slashTo s s.size = k at hc hb E
  have t1 : 0 ≤ k + 1 := by omega
  have t2 : k + 1 ≤ (s.size : Int) := by omega
  go_enter Tryz.func82, Tryz.ntmps82
  go_wp2_with (go_at_call 122; refine (unhide hc _).mono ?_; rintro e w' ⟨rfl, hw⟩; obtain rfl := hw.symm)
  go_ret
  exact ⟨ret_string (unhide E).symm, rfl⟩
end WPathS
end Go.Proofs.YteddcihodfkliaaGreatDoor

/- The walk of namesOfBoth. -/
namespace Go.Proofs.YteddcihodfkliaaGreatDoor
open Go.RowKit
namespace WUnder
set_option maxRecDepth 100000 in
theorem both_any (a b : ByteArray) (w : World) (ha : a.size ≤ 1048576) (hb : b.size ≤ 1048576) :
    Calls Tryz.prog 141 #[.string a, .string b] w fun e w' => ∃ v1 v2 m, e = .returned (.tuple #[v1, v2, .bool (Pl.pathB a && Pl.pathB b)]) ∧ w.heap.size ≤ m ∧
      w'.ownsRow w.heap.size 9 1 v1 (Pl.namesR a).length ((Pl.namesR a).map Value.string) ∧ (∀ k, v1.ownBlock = some k → k < m) ∧
      w'.ownsRow m 9 1 v2 (Pl.namesR b).length ((Pl.namesR b).map Value.string) ∧ Below w.heap.size w w' := by
  have hn1 := hide (fun W => WNames.any a W ha)
  have hn2 := hide (fun W => WNames.any b W hb)
  generalize Pl.pathB a = r1 at hn1 ⊢
  generalize Pl.pathB b = r2 at hn2 ⊢
  generalize Pl.namesR a = A at hn1 ⊢
  generalize Pl.namesR b = B at hn2 ⊢
  cases r1 <;> cases r2
  all_goals
    go_enter Tryz.func141, Tryz.ntmps141
    go_wp2_with fail
    refine (unhide hn1 _).mono ?_
    rintro e w1 ⟨v1, rfl, hown1, hb1⟩
    have HO1 := hide hown1
    clear hown1
    go_wp2_with fail
    refine (unhide hn2 _).mono ?_
    rintro e w2 ⟨v2, rfl, hown2, hb2⟩
    have HO2 := hide hown2
    clear hown2
    have H : Hid (∃ m, w.heap.size ≤ m ∧ w2.ownsRow w.heap.size 9 1 v1 A.length (A.map Value.string) ∧ (∀ k, v1.ownBlock = some k → k < m) ∧
        w2.ownsRow m 9 1 v2 B.length (B.map Value.string) ∧ Below w.heap.size w w2) :=
      ⟨w1.heap.size, hb1.size, Mem.own_call (unhide HO1) hb2, fun k hk => ((unhide HO1).lt k hk).2, unhide HO2, hb1.trans (hb2.mono hb1.size)⟩
    clear hb1 hb2 HO1 HO2
    go_wp2
    go_ret3
    obtain ⟨m, h1, h2, h3, h4, h5⟩ := H.out
    exact ⟨v1, v2, m, rfl, h1, h2, h3, h4, h5⟩
end WUnder
end Go.Proofs.YteddcihodfkliaaGreatDoor

/- The walks of a route's ahead and of the program's PathLess (by a method value). -/
namespace Go.Proofs.YteddcihodfkliaaGreatDoor
open Go.RowKit
namespace WLess
set_option maxRecDepth 100000 in
set_option maxHeartbeats 400000 in
theorem ahead_any (v u : Value) (A B : List ByteArray) (w : World) (hA : A.length ≤ 1000) (hB : B.length ≤ 1000) (hv : Mem.isTexts w v A) (hu : Mem.isTexts w u B) :
    Calls Tryz.prog 142 #[v, u] w fun e w' => e = .returned (.bool (Pl.lessL A B)) ∧ Below w.heap.size w w' := by
  have HE : Hid (∀ k, k = A.length ∧ k ≤ B.length ∨ k = B.length ∧ k ≤ A.length → Pl.lessL (A.drop k) (B.drop k) = decide (A.length < B.length)) := fun k h => Pl.less_end h
  by_cases h0 : A = [] ∨ B = []
  · have E : Hid (Pl.lessL A B = decide (A.length < B.length)) := by
      show _ = _
      have := HE.out 0 (by rcases h0 with rfl | rfl <;> simp)
      simpa using this
    obtain ⟨va, vc, rfl⟩ := Mem.texts_shape hv
    obtain ⟨ua, uc, rfl⟩ := Mem.texts_shape hu
    clear hv hu HE
    rcases h0 with rfl | rfl
    · have t0 : (([] : List ByteArray).length : Int) ≤ (B.length : Int) := by simp
      go_enter Tryz.func142, Tryz.ntmps142
      go_wp2
      go_loop [11] (fun i => i = .int .i64 0) (fun _ => 0)
      case atStart => rfl
      case round =>
        subst hrel
        go_wp2
        go_ret
        exact ⟨ret_bool (by rw [E.out]; simp), Below.refl _ _⟩
    · by_cases hA0 : A = []
      · subst hA0
        go_enter Tryz.func142, Tryz.ntmps142
        go_wp2
        go_loop [11] (fun i => i = .int .i64 0) (fun _ => 0)
        case atStart => rfl
        case round =>
          subst hrel
          go_wp2
          go_ret
          exact ⟨ret_bool (by rw [E.out]; simp), Below.refl _ _⟩
      · have hp : 0 < A.length := List.length_pos_iff.2 hA0
        have t0 : ¬ (A.length : Int) ≤ 0 := by omega
        have t1 : ¬ (A.length : Int) < 0 := by omega
        have t2 : (0 : Int) < (A.length : Int) := by omega
        go_enter Tryz.func142, Tryz.ntmps142
        go_wp2
        go_loop [11] (fun i => i = .int .i64 0) (fun _ => 0)
        case atStart => rfl
        case round =>
          subst hrel
          go_wp2
          go_ret
          exact ⟨ret_bool (by rw [E.out]; simp), Below.refl _ _⟩
  · rcases hu with ⟨_, rfl⟩ | ⟨b, o, cap, rfl, hb, hcb⟩
    · simp at h0
    rcases hv with ⟨_, rfl⟩ | ⟨b', o', cap', rfl, hb', hca⟩
    · simp at h0
    have HA := hide hca
    have HB := hide hcb
    clear hca hcb h0
    have HS : Hid (Pl.lessL A B = Pl.lessL (A.drop 0) (B.drop 0)) := rfl
    have HT : Hid (∀ k a b, A[k]? = some a → B[k]? = some b → a = b → Pl.lessL (A.drop k) (B.drop k) = Pl.lessL (A.drop (k + 1)) (B.drop (k + 1))) := fun k a b h1 h2 h3 => Pl.less_same h1 h2 h3
    have HF : Hid (∀ k a b, A[k]? = some a → B[k]? = some b → a ≠ b → Pl.lessL (A.drop k) (B.drop k) = Op.bytesLess a.toList b.toList) := fun k a b h1 h2 h3 => Pl.less_other h1 h2 h3
    generalize Pl.lessL A B = R at HS ⊢
    by_cases hAB : A.length ≤ B.length
    · have t0 : (A.length : Int) ≤ (B.length : Int) := by omega
      go_enter Tryz.func142, Tryz.ntmps142
      go_wp2
      go_loopw [11] (fun i wr => ∃ k : Nat, k ≤ A.length ∧ i = .int .i64 (k : Int) ∧ Below w.heap.size w wr ∧ Hid (R = Pl.lessL (A.drop k) (B.drop k))) (fun i _ => A.length - (intOf i).toNat)
      case atStart => exact ⟨0, Nat.zero_le _, rfl, Below.refl _ _, HS⟩
      case round =>
        obtain ⟨k, hk, rfl, hbel, HR⟩ := hrel
        by_cases hlt : k < A.length
        · obtain ⟨y, hy⟩ : ∃ y, B[k]? = some y := ⟨_, List.getElem?_eq_getElem (by omega)⟩
          obtain ⟨x, hx⟩ : ∃ x, A[k]? = some x := ⟨_, List.getElem?_eq_getElem (by omega)⟩
          have hc1 : wr.cell? ⟨b, o + k, none⟩ = some (.string y) := (hbel.cell (p := ⟨b, o + k, none⟩) hb).trans (HB.out k y hy)
          have hc2 : wr.cell? ⟨b', o' + k, none⟩ = some (.string x) := (hbel.cell (p := ⟨b', o' + k, none⟩) hb').trans (HA.out k x hx)
          have u1 : (k : Int) < (A.length : Int) := by omega
          have u2 : (k : Int) < (B.length : Int) := by omega
          have u3 : (0 : Int) ≤ (k : Int) := by omega
          by_cases hxy : x = y
          · have t2 := Pl.eq_lists hxy
            have HR2 : Hid (R = Pl.lessL (A.drop (k + 1)) (B.drop (k + 1))) := HR.out.trans (HT.out k x y hx hy hxy)
            clear hx hy HR hxy
            go_wp2
            go_quiet (fail)
            go_wp2
            go_roundw
            case rel => exact ⟨k + 1, by omega, by go_num, Mem.below_drewN hbel _, HR2⟩
            case measure => simp [intOf]; omega
          · have t2 := Pl.ne_lists hxy
            have E : Hid (R = Op.bytesLess x.toList y.toList) := HR.out.trans (HF.out k x y hx hy hxy)
            clear hx hy HR hxy
            go_wp2
            go_quiet (fail)
            go_wp2
            go_quiet (fail)
            go_wp2
            go_ret
            exact ⟨ret_bool E.out.symm, Mem.below_drewN (Mem.below_drewN hbel _) _⟩
        · obtain rfl : k = A.length := by omega
          have E : Hid (R = decide (A.length < B.length)) := HR.out.trans (HE.out _ (by omega))
          clear HR
          go_wp2
          go_ret
          exact ⟨ret_bool (by rw [E.out]), hbel⟩
    · have t0 : ¬ (A.length : Int) ≤ (B.length : Int) := by omega
      have t9 : (B.length : Int) < (A.length : Int) := by omega
      go_enter Tryz.func142, Tryz.ntmps142
      go_wp2
      go_loopw [11] (fun i wr => ∃ k : Nat, k ≤ B.length ∧ i = .int .i64 (k : Int) ∧ Below w.heap.size w wr ∧ Hid (R = Pl.lessL (A.drop k) (B.drop k))) (fun i _ => B.length - (intOf i).toNat)
      case atStart => exact ⟨0, Nat.zero_le _, rfl, Below.refl _ _, HS⟩
      case round =>
        obtain ⟨k, hk, rfl, hbel, HR⟩ := hrel
        by_cases hlt : k < B.length
        · obtain ⟨y, hy⟩ : ∃ y, B[k]? = some y := ⟨_, List.getElem?_eq_getElem (by omega)⟩
          obtain ⟨x, hx⟩ : ∃ x, A[k]? = some x := ⟨_, List.getElem?_eq_getElem (by omega)⟩
          have hc1 : wr.cell? ⟨b, o + k, none⟩ = some (.string y) := (hbel.cell (p := ⟨b, o + k, none⟩) hb).trans (HB.out k y hy)
          have hc2 : wr.cell? ⟨b', o' + k, none⟩ = some (.string x) := (hbel.cell (p := ⟨b', o' + k, none⟩) hb').trans (HA.out k x hx)
          have u1 : (k : Int) < (A.length : Int) := by omega
          have u2 : (k : Int) < (B.length : Int) := by omega
          have u3 : (0 : Int) ≤ (k : Int) := by omega
          by_cases hxy : x = y
          · have t2 := Pl.eq_lists hxy
            have HR2 : Hid (R = Pl.lessL (A.drop (k + 1)) (B.drop (k + 1))) := HR.out.trans (HT.out k x y hx hy hxy)
            clear hx hy HR hxy
            go_wp2
            go_quiet (fail)
            go_wp2
            go_roundw
            case rel => exact ⟨k + 1, by omega, by go_num, Mem.below_drewN hbel _, HR2⟩
            case measure => simp [intOf]; omega
          · have t2 := Pl.ne_lists hxy
            have E : Hid (R = Op.bytesLess x.toList y.toList) := HR.out.trans (HF.out k x y hx hy hxy)
            clear hx hy HR hxy
            go_wp2
            go_quiet (fail)
            go_wp2
            go_quiet (fail)
            go_wp2
            go_ret
            exact ⟨ret_bool E.out.symm, Mem.below_drewN (Mem.below_drewN hbel _) _⟩
        · obtain rfl : k = B.length := by omega
          have E : Hid (R = decide (A.length < B.length)) := HR.out.trans (HE.out _ (by omega))
          clear HR
          go_wp2
          go_ret
          exact ⟨ret_bool (by rw [E.out]), hbel⟩

set_option maxRecDepth 100000 in
theorem less_any (p t : ByteArray) (w : World) (hp : p.size ≤ 1048576) (ht : t.size ≤ 1048576) :
    Calls Tryz.prog 110 #[.string p, .string t] w fun e w' => e = .returned (.bool (Pl.pathB p && Pl.pathB t && Pl.lessL (Pl.namesR p) (Pl.namesR t))) ∧ Below w.heap.size w w' := by
  have hn := hide (fun W => WUnder.both_any p t W hp ht)
  have hA := hide (Pl.namesR_all p)
  have hB := hide (Pl.namesR_all t)
  generalize (Pl.pathB p && Pl.pathB t) = r at hn ⊢
  generalize Pl.namesR p = A at hn hA ⊢
  generalize Pl.namesR t = B at hn hB ⊢
  cases r
  · go_enter Tryz.func110, Tryz.ntmps110
    go_wp2_with fail
    refine (unhide hn _).mono ?_
    rintro e w1 ⟨v1, v2, m, rfl, -, -, -, -, hb⟩
    go_wp2
    go_ret
    exact ⟨rfl, hb⟩
  · go_enter Tryz.func110, Tryz.ntmps110
    go_wp2_with fail
    refine (unhide hn _).mono ?_
    rintro e w1 ⟨v1, v2, m, rfl, h1, h2, h3, h4, hb⟩
    have i1 := hide (Mem.own_texts h2)
    have i2 := hide (Mem.own_texts h4)
    clear h2 h4 h3 hn
    go_wp2_with fail
    refine (ahead_any _ _ A B _ (by have := (unhide hA).2; omega) (by have := (unhide hB).2; omega) (unhide i1) (unhide i2)).mono ?_
    rintro e w2 ⟨rfl, hb2⟩
    have hb3 := hb.trans (hb2.mono hb.size)
    generalize hr : Pl.lessL A B = r2
    have HR := hide hr
    clear hr hb hb2
    go_wp2
    go_ret
    exact ⟨by rw [unhide HR]; rfl, hb3⟩
end WLess
end Go.Proofs.YteddcihodfkliaaGreatDoor

/- The walk of the program's PathParent. -/
namespace Go.Proofs.YteddcihodfkliaaGreatDoor
open Go.RowKit
namespace WPathI
set_option maxRecDepth 100000 in
set_option maxHeartbeats 400000 in
theorem parent_any (s : ByteArray) (w : World) (hs : s.size ≤ 1048576) :
    Calls Tryz.prog 143 #[.string s] w fun e w' => e = .returned (.string (Pl.glue (Pl.namesR s).dropLast)) ∧ Below w.heap.size w w' := by
  have hn := hide (WNames.any s w hs)
  have hL := hide (Pl.namesR_all s)
  generalize Pl.pathB s = r at hn
  generalize Pl.namesR s = L at hn hL
  go_enter Tryz.func143, Tryz.ntmps143
  go_wp2_with fail
  refine (unhide hn).mono ?_
  rintro e w1 ⟨v, rfl, hown, hb⟩
  clear hn
  rcases Mem.texts hown with ⟨rfl, rfl⟩ | ⟨g, cap, rfl, hcap, hm, hgb, hgl, hcell⟩
  · clear hown
    go_wp2_with fail
    refine (WPathOf.any _ [] _ (by simp) (by decide) (.inl ⟨rfl, rfl⟩)).mono ?_
    rintro e w2 ⟨rfl, hb2⟩
    have hb3 := hb.trans (hb2.mono hb.size)
    clear hb hb2
    go_wp2
    go_ret
    exact ⟨rfl, hb3⟩
  · clear hown
    have hm2 := hm
    have HC := hide hcell
    clear hcell
    unfold maxLen at hm2
    by_cases h0 : L.length = 0
    · obtain rfl : L = [] := List.eq_nil_of_length_eq_zero h0
      go_wp2_with fail
      refine (WPathOf.any _ [] _ (by simp) (by decide) (.inr ⟨g, 0, cap, rfl, hgl, fun j t h => by simp at h⟩)).mono ?_
      rintro e w2 ⟨rfl, hb2⟩
      have hb3 := hb.trans (hb2.mono hb.size)
      clear hb hb2
      go_wp2
      go_ret
      exact ⟨rfl, hb3⟩
    · have h1 : (0 : Int) ≤ (L.length : Int) - 1 := by omega
      have h2 : (L.length : Int) - 1 ≤ (cap : Int) := by omega
      have E := hide (Pl.drop_last L)
      go_wp2_with fail
      refine (WPathOf.any _ (L.take (L.length - 1)) _ ?_ (Pl.glue_small (Pl.all_take (unhide hL).1 _) ?_) (Mem.take_texts hgl (unhide HC) _ (by omega))).mono ?_
      · have := (unhide hL).2; simp; omega
      · have := (unhide hL).2; simp; omega
      rintro e w2 ⟨rfl, hb2⟩
      rw [unhide E]
      have hb3 := hb.trans (hb2.mono hb.size)
      clear hb hb2
      go_wp2
      go_ret
      exact ⟨rfl, hb3⟩
end WPathI
end Go.Proofs.YteddcihodfkliaaGreatDoor

