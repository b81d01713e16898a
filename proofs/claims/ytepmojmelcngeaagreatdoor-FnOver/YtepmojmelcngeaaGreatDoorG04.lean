/- Several texts of one claim in one file: WWords, WNames, WJoin, WPathOf, WRightI, WSpecR, WNode, WLess1S. -/
import Derived.Test.YtepmojmelcngeaaGreatDoorG03
import Derived.Test.YtepmojmelcngeaaGreatDoorG00
import Derived.Test.YtepmojmelcngeaaGreatDoorProg
import Derived.WalkSpells
import Derived.Lib.OthersKept
import Derived.Laws.RangeAny
import Derived.Test.YtepmojmelcngeaaGreatDoorG01
import Derived.Deep.QuietTactic
import Derived.BigQuiet
import Derived.Deep.RegionHeld3
/- The walk of the program's wordsOf: a text ranged over rune by rune, its pieces in a row of the call's own. -/
namespace Go.Proofs.YtepmojmelcngeaaGreatDoor
open Go.RowKit
namespace Pl
theorem get_ge (s : ByteArray) (k : Nat) (h : k < s.size) : s.get! k = s[k] := by
  simp [ByteArray.get!, getElem!_pos, h]; rfl
/-- A rune at a byte that is no slash is none, and no slash lies in its bytes. -/
theorem rune_other (s : ByteArray) (pos : Nat) (h : pos < s.size) (hb : s[pos].toNat ≠ 47) :
    ((Utf8.decode s pos).1 ≠ 47) ∧ 1 ≤ (Utf8.decode s pos).2 ∧ pos + (Utf8.decode s pos).2 ≤ s.size ∧ ∀ j (hj : j < s.size), pos ≤ j → j < pos + (Utf8.decode s pos).2 → s[j].toNat ≠ 47 := by
  by_cases ha : s[pos].toNat < 128
  · rw [decode_ascii s pos h ha]
    refine ⟨hb, Nat.le_refl _, h, fun j hj h1 h2 => ?_⟩
    obtain rfl : j = pos := by simp at h2; omega
    exact hb
  · have hh := decode_high s pos h (by omega)
    refine ⟨by omega, hh.2, ?_⟩
    have hg := get_ge s
    have key : pos + (Utf8.decode s pos).2 ≤ s.size ∧ ∀ k, 1 ≤ k → k < (Utf8.decode s pos).2 → (s.get! (pos + k)).toNat / 64 = 2 := by
      have h0 : s.get! (pos + 0) = s[pos] := hg pos h
      simp only [Utf8.decode, h0, ha, if_false]
      repeat' split
      all_goals simp_all
      all_goals first
        | omega
        | (refine ⟨by omega, fun k h1 h2 => ?_⟩
           rcases (show k = 1 ∨ k = 2 ∨ k = 3 by omega) with rfl | rfl | rfl <;> first | omega | (simp_all; done))
    refine ⟨key.1, fun j hj h1 h2 => ?_⟩
    by_cases he : j = pos
    · subst he; exact hb
    · have := key.2 (j - pos) (by omega) (by omega)
      rw [Nat.add_sub_cancel' h1, hg j hj] at this
      omega
theorem cutF_over {s : ByteArray} {fr : Nat} : ∀ n k, k + n ≤ s.size → (∀ j (hj : j < s.size), k ≤ j → j < k + n → s[j].toNat ≠ 47) → cutF s 47 (s.size - k) fr k = cutF s 47 (s.size - (k + n)) fr (k + n) := by
  intro n
  induction n with
  | zero => intro k _ _; rfl
  | succ n ih =>
    intro k hk h
    have hlt : k < s.size := by omega
    have hf : s.size - k = s.size - (k + 1) + 1 := by omega
    rw [hf, cutF_miss hlt (h k hlt (Nat.le_refl _) (by omega)), ih (k + 1) (by omega) (fun j hj h1 h2 => h j hj (by omega) (by omega))]
    have e : k + 1 + n = k + (n + 1) := by omega
    rw [e]
end Pl
namespace Mem
theorem own_iterAt {w : World} {B e size n : Nat} {v : Value} {xs : List Value} {k : Nat} {s : ByteArray} {pos : Nat} (h : w.ownsRow B e size v n xs) (hk : w.heap[k]? = some (.stringIter s pos)) (pos' : Nat) : (w.iterAt k s pos').ownsRow B e size v n xs := by
  refine ⟨h.1, ?_⟩
  rcases h.2 with h0 | ⟨g, cap, cur, hv, hb, hg, rest⟩
  · exact .inl h0
  · refine .inr ⟨g, cap, cur, hv, hb, ?_, rest⟩
    rw [Lib.iterAt_other _ _ _ _ _ (fun e => by subst e; rw [hk] at hg; cases hg)]
    exact hg
theorem own_no_iter {w : World} {B e size n : Nat} {v : Value} {xs : List Value} {k : Nat} {s : ByteArray} {pos : Nat} (h : w.ownsRow B e size v n xs) (hk : w.heap[k]? = some (.stringIter s pos)) : some k ≠ v.ownBlock := by
  rcases h.2 with ⟨rfl, _⟩ | ⟨g, cap, cur, rfl, hb, hg, rest⟩
  · simp [Value.ownBlock]
  · intro e
    simp only [Value.ownBlock, Option.some.injEq] at e
    subst e
    rw [hk] at hg
    cases hg
end Mem
namespace WWords
theorem infoS : (Tryz.prog.info? 9).map (fun i => (i.zero, i.size, i.bytes)) = some (some (.string ⟨#[]⟩), 1, 16) := by kernel_rfl

set_option maxRecDepth 100000 in
set_option maxHeartbeats 400000 in
theorem any (s : ByteArray) (w : World) (hs : s.size ≤ 1048576) :
    Calls Tryz.prog 119 #[.string s] w fun e w' => ∃ v, e = .returned v ∧
      w'.ownsRow w.heap.size 9 1 v (Pl.cut s 47).length ((Pl.cut s 47).map Value.string) ∧ Below w.heap.size w w' := by
  obtain ⟨i0, hi, hz0, hz1, hz2⟩ := info_parts infoS
  go_enter Tryz.func119, Tryz.ntmps119
  go_wp2
  go_loopw [3, 4] (fun v x wr => ∃ (pos fr : Nat) (L : List ByteArray), pos ≤ s.size ∧ fr ≤ pos ∧ L.length ≤ pos ∧ x = .int .i64 (fr : Int) ∧
      wr.ownsRow w.heap.size 9 1 v L.length (L.map Value.string) ∧ wr.heap[w.heap.size + 1]? = some (.stringIter s pos) ∧ Below w.heap.size w wr ∧ Hid (Pl.cut s 47 = L ++ Pl.cutF s 47 (s.size - pos) fr pos)) (fun _ _ wr => s.size - wr.iterPos (w.heap.size + 1))
  case atStart =>
    refine ⟨0, 0, [], by omega, by omega, by simp, rfl, (World.ownsRow_made _ _ 0 (Nat.le_refl _) (Nat.zero_le _) rfl).alloc _, ?_, ((Below.refl _ _).alloc (Nat.le_refl _) _).alloc (by simp) _, rfl⟩
    have := World.iter_heap (w.alloc (.cells #[] 9)) s 0
    simpa using this
  case round =>
    obtain ⟨pos, fr, L, hk, hfr, hL, rfl, hown, hit, hbel, H⟩ := hrel
    have hb1 := hbel.size
    have hsz : w.heap.size + 1 < wr.heap.size := (Array.getElem?_eq_some_iff.1 hit).1
    have hip : wr.iterPos (w.heap.size + 1) = pos := by simp only [World.iterPos, hit]
    by_cases hlt : pos < s.size
    · by_cases hq : s[pos].toNat = 47
      · have ha : s[pos].toNat < 128 := by omega
        have hnx : ∀ ty, (Instr.next (.pointer (some ⟨w.heap.size + 1, 0, none⟩)) true ty).run Tryz.prog wr = .ok (.tuple #[.bool true, .int .i64 pos, .int .i32 47]) (wr.iterAt (w.heap.size + 1) s (pos + 1)) := fun ty => by
          rw [Lib.run_next_ascii_at wr (w.heap.size + 1) s pos ty hit hlt ha, hq]; rfl
        have hf : s.size - pos = s.size - (pos + 1) + 1 := by omega
        have H2 : Hid (Pl.cut s 47 = (L ++ [s.extract fr pos]) ++ Pl.cutF s 47 (s.size - (pos + 1)) (pos + 1) (pos + 1)) := by
          show _ = _
          rw [H.out, hf, Pl.cutF_hit hlt hq]; simp
        have hown2 := Mem.own_iterAt hown hit (pos + 1)
        have hit2 := Lib.iterAt_heap wr (w.heap.size + 1) s pos (pos + 1) hit
        have hbel2 := Lib.below_iterAt hbel (k := w.heap.size + 1) (by omega) s (pos + 1)
        have hsz2 : Hid ((wr.iterAt (w.heap.size + 1) s (pos + 1)).heap.size = wr.heap.size) := Lib.iterAt_size _ _ _ _
        have hne := Mem.own_no_iter hown2 hit2
        generalize wr.iterAt (w.heap.size + 1) s (pos + 1) = w1 at hnx hown2 hit2 hbel2 hsz2
        have t1 : (0 : Int) ≤ (fr : Int) := by omega
        have t2 : (fr : Int) ≤ (pos : Int) := by omega
        have t3 : (pos : Int) ≤ (s.size : Int) := by omega
        clear H hf hq hown hit hbel ha
        go_wp2_with (at_builtin; refine wpList_append_own _ rfl _ _ 46 rfl w.heap.size 9 i0 (.string ⟨#[]⟩) 1 16 Tryz.underlying46 hi hz0 hz1 hz2 rfl (by decide) _ _ _ rfl (hown2.alloc _) ⟨w1.heap.size, 0, none⟩ 1 1 [.string (s.extract fr pos)] rfl rfl ?c1 ?c2 ?c3 ?c4 ?c5 ?_)
        case c1 => exact Mem.one_new _ _ _
        case c2 => intro u hu; simp at hu; subst hu; rfl
        case c3 => unfold maxLen; omega
        case c4 => omega
        case c5 => have := hsz2.out; simp; omega
        · intro v' w2 hown' hgrow _
          have hsz2 := hsz2.out
          have hbel' := Mem.below_append hbel2 (Nat.le_refl _) hown2 hgrow
          have hown3 : w2.ownsRow w.heap.size 9 1 v' (L ++ [s.extract fr pos]).length ((L ++ [s.extract fr pos]).map Value.string) := by simpa using hown'
          have hit3 : w2.heap[w.heap.size + 1]? = some (.stringIter s (pos + 1)) :=
            (hgrow.block (w.heap.size + 1) (by simp; omega) hne).trans ((Below.heap_alloc _ _ _ (by omega)).trans hit2)
          have hip3 : w2.iterPos (w.heap.size + 1) = pos + 1 := by simp only [World.iterPos, hit3]
          clear hgrow hown2 hbel2 hown' hnx hit2
          go_wp2
          go_roundw
          case rel => exact ⟨pos + 1, pos + 1, L ++ [s.extract fr pos], by omega, by omega, by simp; omega, by go_num, hown3, hit3, hbel', H2⟩
          case measure => rw [hip3, hip]; omega
      · obtain ⟨r1, r2, r3, r4⟩ := Pl.rune_other s pos hlt hq
        have hnx : ∀ ty, (Instr.next (.pointer (some ⟨w.heap.size + 1, 0, none⟩)) true ty).run Tryz.prog wr = .ok (.tuple #[.bool true, .int .i64 pos, .int .i32 (Utf8.decode s pos).1]) (wr.iterAt (w.heap.size + 1) s (pos + (Utf8.decode s pos).2)) := fun ty =>
          Lib.run_next_any_at wr (w.heap.size + 1) s pos ty hit hlt
        have H2 : Hid (Pl.cut s 47 = L ++ Pl.cutF s 47 (s.size - (pos + (Utf8.decode s pos).2)) fr (pos + (Utf8.decode s pos).2)) := by
          show _ = _
          rw [H.out, Pl.cutF_over _ pos r3 r4]
        have hown2 := Mem.own_iterAt hown hit (pos + (Utf8.decode s pos).2)
        have hit2 := Lib.iterAt_heap wr (w.heap.size + 1) s pos (pos + (Utf8.decode s pos).2) hit
        have hbel2 := Lib.below_iterAt hbel (k := w.heap.size + 1) (by omega) s (pos + (Utf8.decode s pos).2)
        have hip2 : (wr.iterAt (w.heap.size + 1) s (pos + (Utf8.decode s pos).2)).iterPos (w.heap.size + 1) = pos + (Utf8.decode s pos).2 := by simp only [World.iterPos, hit2]
        have t4 : (((Utf8.decode s pos).1 : Int) == 47) = false := by rw [beq_eq_false_iff_ne]; omega
        generalize hD : (Utf8.decode s pos).2 = n at *
        generalize (Utf8.decode s pos).1 = r at *
        generalize wr.iterAt (w.heap.size + 1) s (pos + n) = w1 at *
        clear H hq hown hit hbel r4 hD r1
        go_wp2
        go_roundw
        case rel => exact ⟨pos + n, fr, L, r3, by omega, by omega, rfl, hown2, hit2, hbel2, H2⟩
        case measure => rw [hip2, hip]; omega
    · obtain rfl : pos = s.size := by omega
      have hnx : ∀ ty, (Instr.next (.pointer (some ⟨w.heap.size + 1, 0, none⟩)) true ty).run Tryz.prog wr = .ok (.tuple #[.bool false]) wr := fun ty => Lib.run_next_end_at wr (w.heap.size + 1) s s.size ty hit hlt
      have H2 : Hid (Pl.cut s 47 = L ++ [s.extract fr s.size]) := by
        show _ = _
        rw [H.out, Nat.sub_self]; rfl
      have t1 : (0 : Int) ≤ (fr : Int) := by omega
      have t2 : (fr : Int) ≤ (s.size : Int) := by omega
      clear H
      go_wp2_with (at_builtin; refine wpList_append_own _ rfl _ _ 46 rfl w.heap.size 9 i0 (.string ⟨#[]⟩) 1 16 Tryz.underlying46 hi hz0 hz1 hz2 rfl (by decide) _ _ _ rfl (hown.alloc _) ⟨wr.heap.size, 0, none⟩ 1 1 [.string (s.extract fr s.size)] rfl rfl ?c1 ?c2 ?c3 ?c4 ?c5 ?_)
      case c1 => exact Mem.one_new _ _ _
      case c2 => intro u hu; simp at hu; subst hu; rfl
      case c3 => unfold maxLen; omega
      case c4 => omega
      case c5 => simp; omega
      · intro v' w2 hown' hgrow _
        have hbel' := Mem.below_append hbel (Nat.le_refl _) hown hgrow
        have hown2 : w2.ownsRow w.heap.size 9 1 v' (Pl.cut s 47).length ((Pl.cut s 47).map Value.string) := by rw [H2.out]; simpa using hown'
        clear hgrow hown hbel hown'
        go_wp2
        go_ret
        exact ⟨_, rfl, hown2, hbel'⟩
end WWords
end Go.Proofs.YtepmojmelcngeaaGreatDoor

/- The walk of the program's namesOf: the names of a right path in a row of the call's own, and whether it is right. -/
namespace Go.Proofs.YtepmojmelcngeaaGreatDoor
open Go.RowKit
namespace WNames
set_option maxRecDepth 100000 in
set_option maxHeartbeats 400000 in
theorem any (s : ByteArray) (w : World) (hs : s.size ≤ 1048576) :
    Calls Tryz.prog 93 #[.string s] w fun e w' => ∃ v, e = .returned (.tuple #[v, .bool (Pl.pathB s)]) ∧
      w'.ownsRow w.heap.size 9 1 v (Pl.namesR s).length ((Pl.namesR s).map Value.string) ∧ Below w.heap.size w w' := by
  by_cases h0 : s.size = 0
  · have E := hide (Pl.right_root h0).1
    have E2 := hide ((Pl.namesR_yes (Pl.right_root h0).1).trans (Pl.right_root h0).2)
    obtain rfl : s = ⟨#[]⟩ := by apply ByteArray.ext; exact Array.eq_empty_of_size_eq_zero h0
    go_enter Tryz.func93, Tryz.ntmps93
    go_wp2
    go_ret2
    refine ⟨.slice none 0 0, by rw [unhide E]; rfl, ?_, Below.refl _ _⟩
    rw [unhide E2]
    exact World.ownsRow_nil _ _ _ _
  have t0 : s.toList.isEmpty = false := by
    rw [List.isEmpty_eq_false_iff, ByteArray.toList_eq]
    intro h
    have h1 : s.data.toList.length = 0 := by rw [h]; rfl
    rw [Array.length_toList] at h1
    exact h0 h1
  have E1 : Hid (Pl.names s = Pl.cut s 47) := if_neg h0
  by_cases h8 : 8000 < s.size
  · have E := hide (Pl.pathB_long (s := s) (by omega))
    have E2 := hide (Pl.namesR_no (unhide E))
    go_enter Tryz.func93, Tryz.ntmps93
    go_wp2
    go_ret2
    refine ⟨.slice none 0 0, by rw [unhide E]; rfl, ?_, Below.refl _ _⟩
    rw [unhide E2]
    exact World.ownsRow_nil _ _ _ _
  have hpos := Pl.cut_pos s
  have hlen := Pl.cut_length s
  have HSZ : Hid (∀ (k : Nat) t, (Pl.cut s 47)[k]? = some t → t.size ≤ maxLen) := fun k t ht => by
    have := Pl.cut_size ht
    unfold maxLen; omega
  have HLONG : Hid (6 < (Pl.cut s 47).length → Pl.pathB s = false) := fun h => by
    rw [Pl.pathB_short, E1.out]; simp; intro _; omega
  have HBAD : Hid (∀ (k : Nat) t, (Pl.cut s 47)[k]? = some t → Pl.nameB t = false → Pl.pathB s = false) := fun k t ht hb => Pl.pathB_bad (by rw [E1.out]; exact ht) hb
  have HGOOD : Hid ((Pl.cut s 47).length ≤ 6 → (∀ (j : Nat) t, (Pl.cut s 47)[j]? = some t → Pl.nameB t = true) → Pl.pathB s = true ∧ Pl.namesR s = Pl.cut s 47) := fun h6 h => by
    have h1 : Pl.pathB s = true := by
      rw [Pl.pathB_short, E1.out]
      simp [h6]
      intro t ht
      obtain ⟨j, hj⟩ := List.mem_iff_getElem?.1 ht
      exact h j t hj
    exact ⟨h1, by rw [Pl.namesR_yes h1, E1.out]⟩
  have hn := hide (WWords.any s w hs)
  generalize Pl.cut s 47 = L at hn hlen HSZ HBAD HGOOD HLONG hpos
  go_enter Tryz.func93, Tryz.ntmps93
  go_wp2_with fail
  refine (unhide hn).mono ?_
  rintro e w1 ⟨v, rfl, hown, hbel⟩
  have HO := hide hown
  rcases Mem.texts hown with ⟨rfl, rfl⟩ | ⟨g, cap, rfl, hcap, hm, hgb, hgl, hcell⟩
  · simp at hpos
  have HC := hide hcell
  clear hcell hown hn
  have hm2 := hm
  unfold maxLen at hm2
  by_cases h6 : 6 < L.length
  · have E := hide (HLONG.out h6)
    have E2 := hide (Pl.namesR_no (unhide E))
    go_wp2
    go_ret2
    refine ⟨.slice none 0 0, by rw [unhide E]; rfl, ?_, hbel⟩
    rw [unhide E2]
    exact World.ownsRow_nil _ _ _ _
  go_wp2
  go_loop [19] (fun i => ∃ k : Nat, k ≤ L.length ∧ i = .int .i64 (k : Int) ∧ Hid (∀ (j : Nat) t, j < k → L[j]? = some t → Pl.nameB t = true)) (fun i => L.length - (intOf i).toNat)
  case atStart => exact ⟨0, Nat.zero_le _, rfl, fun j t h => absurd h (by omega)⟩
  case round =>
    obtain ⟨k, hk, rfl, HA⟩ := hrel
    by_cases hlt : k < L.length
    · obtain ⟨t, ht⟩ : ∃ t, L[k]? = some t := ⟨_, List.getElem?_eq_getElem hlt⟩
      have hc := HC.out k t ht
      have hts := HSZ.out k t ht
      cases hb : Pl.nameB t
      · have E := hide (HBAD.out k t ht hb)
        have E2 := hide (Pl.namesR_no (unhide E))
        have HB := hide hb
        clear ht hb
        go_wp2_with (go_at_call 120; refine (WName.impl_any t _ hts).mono ?_; rw [unhide HB]; rintro e w' ⟨rfl, hw⟩; obtain rfl := hw.symm)
        go_ret2
        refine ⟨.slice none 0 0, by rw [unhide E]; rfl, ?_, hbel⟩
        rw [unhide E2]
        exact World.ownsRow_nil _ _ _ _
      · have HB := hide hb
        have HA2 : Hid (∀ (j : Nat) t, j < k + 1 → L[j]? = some t → Pl.nameB t = true) := fun j t' hj h' => by
          rcases Nat.lt_succ_iff_lt_or_eq.1 hj with h'' | rfl
          · exact HA.out j t' h'' h'
          · rw [ht] at h'; cases h'; exact hb
        clear ht hb HA
        go_wp2_with (go_at_call 120; refine (WName.impl_any t _ hts).mono ?_; rw [unhide HB]; rintro e w' ⟨rfl, hw⟩; obtain rfl := hw.symm)
        go_round
        case rel => exact ⟨k + 1, by omega, by go_num, HA2⟩
        case measure => simp [intOf]; omega
    · have E := hide (HGOOD.out (by omega) (fun j t h => HA.out j t (by have := (List.getElem?_eq_some_iff.1 h).1; omega) h))
      clear HA
      go_wp2
      go_ret2
      exact ⟨.slice (some ⟨g, 0, none⟩) L.length cap, by rw [(unhide E).1]; rfl, by rw [(unhide E).2]; exact unhide HO, hbel⟩
end WNames
end Go.Proofs.YtepmojmelcngeaaGreatDoor

/- The walk of the program's joined: texts put together in new memory. -/
namespace Go.Proofs.YtepmojmelcngeaaGreatDoor
open Go.RowKit
namespace WJoin
theorem Tryz.one8 (w : World) : (sizeOf 5).run Tryz.prog w = .ok 1 w := by kernel_rfl
theorem Tryz.info8j : (Tryz.prog.info? 5).map (fun i => (i.zero, i.size, i.bytes)) = some (some (.int .u8 0), 1, 1) := by kernel_rfl

set_option maxRecDepth 100000 in
set_option maxHeartbeats 400000 in
theorem any (b o cap : Nat) (ts : List ByteArray) (w : World) (hn : ts.length ≤ 1000000) (ht : Pl.tot ts ≤ 1000000000)
    (hcell : ∀ j t, ts[j]? = some t → w.cell? ⟨b, o + j, none⟩ = some (.string t)) (hb : b < w.heap.size) :
    Calls Tryz.prog 97 #[.slice (some ⟨b, o, none⟩) ts.length cap] w fun e w' => e = .returned (.string ⟨(Pl.cat ts).toArray⟩) ∧ Below w.heap.size w w' := by
  have HC := hide hcell
  clear hcell
  go_enter Tryz.func97, Tryz.ntmps97
  go_wp2
  go_loop [3, 12] (fun n i => ∃ k : Nat, k ≤ ts.length ∧ i = .int .i64 k ∧ n = .int .i64 (Pl.tot (ts.take k) : Nat)) (fun _ i => ts.length - (intOf i).toNat)
  case atStart => exact ⟨0, Nat.zero_le _, rfl, rfl⟩
  case round =>
    obtain ⟨k, hk, rfl, rfl⟩ := hrel
    by_cases hlt : k < ts.length
    · obtain ⟨t, hkt⟩ : ∃ t, ts[k]? = some t := ⟨_, List.getElem?_eq_getElem hlt⟩
      have hc := unhide HC k t hkt
      have H1 := hide (Pl.tot_snoc ts k t hkt)
      have h1 := Pl.tot_le ts (k + 1)
      have h2 : Pl.tot (ts.take k) + t.size ≤ 1000000000 := by have := unhide H1; omega
      clear hkt h1
      go_wp2
      go_round
      case rel => exact ⟨k + 1, by omega, by go_num, by rw [unhide H1]; go_num⟩
      case measure => simp [intOf]; omega
    · have HE : Hid (Pl.tot (ts.take k) = Pl.tot ts) := by
        show _ = _
        rw [List.take_of_length_le (by omega)]
      have hmk := Mem.make_bytes (P := Tryz.prog) Tryz.underlying43 Tryz.info8j (Pl.tot ts) ht w
      rw [HE.out]
      go_wp2
      go_loopw [7, 25] (fun p i wr => ∃ (k : Nat) (cur : Array Value), k ≤ ts.length ∧ i = .int .i64 k ∧ p = .int .i64 (Pl.tot (ts.take k) : Nat) ∧ wr.heap[w.heap.size]? = some (.cells cur 5 (0, 0)) ∧ cur.size = Pl.tot ts ∧
          Hid (cur.toList.take (Pl.tot (ts.take k)) = (Pl.cat (ts.take k)).map Pl.byteVal) ∧ Below w.heap.size w wr) (fun _ i _ => ts.length - (intOf i).toNat)
      case atStart => exact ⟨0, Mem.zeros (Pl.tot ts), Nat.zero_le _, rfl, rfl, heap_alloc_new w _, Mem.zeros_size _, rfl, (Below.refl _ _).alloc (Nat.le_refl _) _⟩
      case round =>
        obtain ⟨k, cur, hk, rfl, rfl, hrow, hcs, HP, hbel⟩ := hrel
        by_cases hlt : k < ts.length
        · obtain ⟨t, hkt⟩ : ∃ t, ts[k]? = some t := ⟨_, List.getElem?_eq_getElem hlt⟩
          have hc : wr.cell? ⟨b, o + k, none⟩ = some (.string t) := (hbel.cell (p := ⟨b, o + k, none⟩) hb).trans (unhide HC k t hkt)
          have H1 := hide (Pl.tot_snoc ts k t hkt)
          have h1 := Pl.tot_le ts (k + 1)
          have h2 : Pl.tot (ts.take k) + t.size ≤ Pl.tot ts := by have := unhide H1; omega
          have HS := hide (Pl.part_step hkt HP.out)
          obtain ⟨D, w2, hsl, hcp, hrow2, hbel2⟩ := Mem.copy_on (P := Tryz.prog) (sT := 9) Tryz.underlying43 Tryz.one8 wr w.heap.size (Pl.tot (ts.take k)) (Pl.tot ts) cur hrow hcs t h2
          have HROW2 := hide hrow2
          have HB2 := hide (hbel.trans hbel2)
          have hsz : Hid ((cur.toList.take (Pl.tot (ts.take k)) ++ t.data.toList.map Pl.byteVal ++ cur.toList.drop (Pl.tot (ts.take k) + t.size)).toArray.size = Pl.tot ts) := by
            show _ = _
            have : t.data.size = t.size := rfl
            simp [this]
            omega
          clear hkt h1 hrow hrow2 hbel2 hbel
          go_wp2
          go_roundw
          case rel => exact ⟨k + 1, _, by omega, by go_num, by rw [unhide H1]; go_num, HROW2, hsz, HS, HB2⟩
          case measure => simp [intOf]; omega
        · have HE2 : Hid (Pl.cat (ts.take k) = Pl.cat ts ∧ Pl.tot (ts.take k) = Pl.tot ts) := by
            show _ ∧ _
            rw [List.take_of_length_le (by omega)]
            exact ⟨rfl, rfl⟩
          have hp : cur.toList.take (Pl.tot ts) = (Pl.cat ts).map Pl.byteVal := by have := HP.out; rwa [HE2.out.1, HE2.out.2] at this
          have hcv := Mem.row_text (P := Tryz.prog) (cap := Pl.tot ts) Tryz.underlying43 Tryz.underlying5 Tryz.underlying9 (Pl.cat ts) (Pl.cat_length ts) hrow hp
          clear hp hrow
          go_wp2
          go_ret
          exact ⟨rfl, hbel⟩
end WJoin
end Go.Proofs.YtepmojmelcngeaaGreatDoor

/- The walk of the program's pathOf: names put together with a slash between, in new memory. -/
namespace Go.Proofs.YtepmojmelcngeaaGreatDoor
open Go.RowKit
namespace Pl
/-- What is put together for the first k names. -/
def partsTo (ts : List ByteArray) : Nat → List ByteArray
  | 0 => []
  | k + 1 => partsTo ts k ++ (if k = 0 then [] else [⟨#[47]⟩]) ++ [ts.getD k ⟨#[]⟩]
theorem glueL_snoc (A : List (List UInt8)) (a : List UInt8) : glueL (A ++ [a]) = glueL A ++ (if A = [] then [] else [47]) ++ a := by
  by_cases h : A = []
  · subst h; rfl
  · rw [glueL_append h (by simp), if_neg h]; simp [glueL]
theorem cat_append (A B : List ByteArray) : cat (A ++ B) = cat A ++ cat B := by simp [cat]
theorem parts_cat (ts : List ByteArray) : ∀ k, k ≤ ts.length → cat (partsTo ts k) = glueL ((ts.take k).map by_) := by
  intro k
  induction k with
  | zero => intro _; rfl
  | succ k ih =>
    intro hk
    have hlt : k < ts.length := by omega
    rw [partsTo, cat_append, cat_append, ih (by omega), List.take_add_one, List.getElem?_eq_getElem hlt, Option.toList_some, List.map_append, List.map_cons, List.map_nil, glueL_snoc, cat_one]
    have h1 : ts.getD k ⟨#[]⟩ = ts[k] := by simp [List.getD_eq_getElem?_getD, List.getElem?_eq_getElem hlt]
    rw [h1]
    have h2 : cat (if k = 0 then [] else [(⟨#[47]⟩ : ByteArray)]) = if (ts.take k).map by_ = [] then [] else [47] := by
      by_cases h0 : k = 0
      · subst h0; rfl
      · rw [if_neg h0, if_neg (by simp; exact ⟨h0, by intro e; subst e; simp at hlt⟩)]; rfl
    rw [h2]; rfl
theorem parts_glue (ts : List ByteArray) : (⟨(cat (partsTo ts ts.length)).toArray⟩ : ByteArray) = glue ts := by
  rw [parts_cat ts _ (Nat.le_refl _), List.take_length]; rfl
theorem parts_tot (ts : List ByteArray) : tot (partsTo ts ts.length) = (glue ts).size := by
  rw [← cat_length, parts_cat ts _ (Nat.le_refl _), List.take_length, ← by_glue, by_length]
theorem parts_length (ts : List ByteArray) : ∀ k, (partsTo ts k).length ≤ 2 * k := by
  intro k
  induction k with
  | zero => simp [partsTo]
  | succ k ih =>
    rw [partsTo]
    by_cases h : k = 0
    · simp [h, partsTo]
    · simp [h]; omega
theorem parts_first {ts : List ByteArray} {t : ByteArray} (ht : ts[0]? = some t) : partsTo ts 1 = partsTo ts 0 ++ [t] := by
  simp [partsTo, List.getD_eq_getElem?_getD, ht]
theorem parts_next {ts : List ByteArray} {k : Nat} {t : ByteArray} (hk : k ≠ 0) (ht : ts[k]? = some t) : partsTo ts (k + 1) = (partsTo ts k ++ [⟨#[47]⟩]) ++ [t] := by
  simp [partsTo, List.getD_eq_getElem?_getD, ht, hk]
end Pl
namespace WPathOf
theorem make12 (w : World) : (Instr.makeSlice 46 (.int .i64 0) (.int .i64 12)).run Tryz.prog w = .ok (.slice (some ⟨w.heap.size, 0, none⟩) 0 12) (w.alloc (.cells (madeCells (Value.string ⟨#[]⟩).cells 12) 9)) := by
  obtain ⟨i0, h0, h1, h2, h3⟩ := info_parts WWords.infoS
  have h := run_make (P := Tryz.prog) w 46 9 i0 (.string ⟨#[]⟩) Tryz.underlying46 h0 h1 .i64 .i64 0 12 (by omega) (by omega) (by rw [h3]; omega) (by omega)
  rw [h]; simp [h2]

set_option maxRecDepth 100000 in
set_option maxHeartbeats 400000 in
theorem any (v : Value) (ts : List ByteArray) (w : World) (hn : ts.length ≤ 1000) (hg : (Pl.glue ts).size ≤ 1000000) (hv : Mem.isTexts w v ts) :
    Calls Tryz.prog 94 #[v] w fun e w' => e = .returned (.string (Pl.glue ts)) ∧ Below w.heap.size w w' := by
  obtain ⟨i0, hi, hz0, hz1, hz2⟩ := info_parts WWords.infoS
  have hmk := make12
  have H0 : Hid ((⟨(Pl.cat (Pl.partsTo ts ts.length)).toArray⟩ : ByteArray) = Pl.glue ts) := Pl.parts_glue ts
  have H1 : Hid (Pl.tot (Pl.partsTo ts ts.length) ≤ 1000000000) := by have := Pl.parts_tot ts; show _ ≤ _; omega
  by_cases hts : ts = []
  · subst hts
    have hv2 : ∃ a cap, v = .slice a 0 cap := by
      rcases hv with ⟨rfl, _⟩ | ⟨b, o, cap, rfl, _⟩
      · exact ⟨_, _, rfl⟩
      · exact ⟨_, _, rfl⟩
    obtain ⟨a, cap, rfl⟩ := hv2
    go_enter Tryz.func94, Tryz.ntmps94
    go_wp2
    go_loop [3, 9] (fun p i => p = .slice (some ⟨w.heap.size, 0, none⟩) 0 12 ∧ i = .int .i64 0) (fun _ _ => 0)
    case atStart => exact ⟨rfl, rfl⟩
    case round =>
      obtain ⟨rfl, rfl⟩ := hrel
      go_wp2_with fail
      refine (WJoin.any w.heap.size 0 12 [] _ (by simp) (by simp [Pl.tot]) (fun j t h => by simp at h) (by simp)).mono ?_
      rintro e w1 ⟨rfl, hb1⟩
      go_wp2
      go_ret
      exact ⟨rfl, ((Below.refl _ _).alloc (Nat.le_refl _) _).trans (hb1.mono (by simp))⟩
  have hpos : 0 < ts.length := List.length_pos_iff.2 hts
  have HNE : Hid (Pl.partsTo ts ts.length ≠ []) := by
    intro h
    obtain ⟨n, hn⟩ : ∃ n, ts.length = n + 1 := ⟨ts.length - 1, by omega⟩
    rw [hn, Pl.partsTo] at h
    simp at h
  rcases hv with ⟨rfl, rfl⟩ | ⟨b, o, cap, rfl, hb, hcell⟩
  · exact absurd rfl hts
  · have HC := hide hcell
    clear hcell
    go_enter Tryz.func94, Tryz.ntmps94
    go_wp2
    go_loopw [3, 9] (fun p i wr => ∃ k : Nat, k ≤ ts.length ∧ i = .int .i64 (k : Int) ∧ wr.ownsRow w.heap.size 9 1 p (Pl.partsTo ts k).length ((Pl.partsTo ts k).map Value.string) ∧ Below w.heap.size w wr) (fun _ i _ => ts.length - (intOf i).toNat)
    case atStart => exact ⟨0, Nat.zero_le _, rfl, World.ownsRow_made _ _ 12 (Nat.le_refl _) (by unfold maxLen; omega) (size_madeCells _ _), (Below.refl _ _).alloc (Nat.le_refl _) _⟩
    case round =>
      obtain ⟨k, hk, rfl, hown, hbel⟩ := hrel
      have hb1 := hbel.size
      have hpl := Pl.parts_length ts k
      by_cases hlt : k < ts.length
      · obtain ⟨t, hkt⟩ : ∃ t, ts[k]? = some t := ⟨_, List.getElem?_eq_getElem hlt⟩
        have hc : wr.cell? ⟨b, o + k, none⟩ = some (.string t) := (hbel.cell (p := ⟨b, o + k, none⟩) hb).trans (unhide HC k t hkt)
        by_cases h0 : k = 0
        · have HS : Hid (Pl.partsTo ts (k + 1) = Pl.partsTo ts k ++ [t]) := by subst h0; exact Pl.parts_first hkt
          have hp : ¬ (0 : Int) < (k : Int) := by omega
          clear hkt h0
          go_wp2_with (at_builtin; refine wpList_append_own _ rfl _ _ 46 rfl w.heap.size 9 i0 (.string ⟨#[]⟩) 1 16 Tryz.underlying46 hi hz0 hz1 hz2 rfl (by decide) _ _ _ rfl (hown.alloc _) ⟨wr.heap.size, 0, none⟩ 1 1 [.string t] rfl rfl (Mem.one_new _ _ _) (Mem.one_str _) (by unfold maxLen; omega) (by omega) (by simp; omega) ?_)
          · intro v' w2 hown' hgrow _
            have hbel' := Mem.below_append hbel (Nat.le_refl _) hown hgrow
            have hown2 : Hid (w2.ownsRow w.heap.size 9 1 v' (Pl.partsTo ts (k + 1)).length ((Pl.partsTo ts (k + 1)).map Value.string)) := by
              show World.ownsRow _ _ _ _ _ _ _
              rw [unhide HS]; simpa using hown'
            clear hgrow hown hbel hown' hc
            go_wp2
            go_roundw
            case rel => exact ⟨k + 1, by omega, by go_num, hown2, hbel'⟩
            case measure => simp [intOf]; omega
        · have HS := hide (Pl.parts_next h0 hkt)
          have hp : (0 : Int) < (k : Int) := by omega
          clear hkt
          go_wp2_with (at_builtin; refine wpList_append_own _ rfl _ _ 46 rfl w.heap.size 9 i0 (.string ⟨#[]⟩) 1 16 Tryz.underlying46 hi hz0 hz1 hz2 rfl (by decide) _ _ _ rfl (hown.alloc _) ⟨wr.heap.size, 0, none⟩ 1 1 [.string ⟨#[47]⟩] rfl rfl (Mem.one_new _ _ _) (Mem.one_str _) (by unfold maxLen; omega) (by omega) (by simp; omega) ?_)
          · intro v1 w1 hown' hgrow _
            have hbel' := Mem.below_append hbel (Nat.le_refl _) hown hgrow
            have hown1 : w1.ownsRow w.heap.size 9 1 v1 (Pl.partsTo ts k ++ [(⟨#[47]⟩ : ByteArray)]).length ((Pl.partsTo ts k ++ [(⟨#[47]⟩ : ByteArray)]).map Value.string) := by simpa using hown'
            have hb2 := hbel'.size
            have hl2 : (Pl.partsTo ts k ++ [(⟨#[47]⟩ : ByteArray)]).length ≤ 2 * k + 1 := by simp; omega
            clear hgrow hown hbel hown' hc hpl
            go_wp2_with (at_builtin; refine wpList_append_own _ rfl _ _ 46 rfl w.heap.size 9 i0 (.string ⟨#[]⟩) 1 16 Tryz.underlying46 hi hz0 hz1 hz2 rfl (by decide) _ _ _ rfl (hown1.alloc _) ⟨w1.heap.size, 0, none⟩ 1 1 [.string t] rfl rfl (Mem.one_new _ _ _) (Mem.one_str _) (by unfold maxLen; omega) (by omega) (by simp; omega) ?_)
            · intro v' w2 hown' hgrow _
              have hbel2 := Mem.below_append hbel' (Nat.le_refl _) hown1 hgrow
              have hown2 : Hid (w2.ownsRow w.heap.size 9 1 v' (Pl.partsTo ts (k + 1)).length ((Pl.partsTo ts (k + 1)).map Value.string)) := by
                show World.ownsRow _ _ _ _ _ _ _
                rw [unhide HS]; simpa using hown'
              clear hgrow hown1 hbel' hown'
              go_wp2
              go_roundw
              case rel => exact ⟨k + 1, by omega, by go_num, hown2, hbel2⟩
              case measure => simp [intOf]; omega
      · obtain rfl : k = ts.length := by omega
        rcases Mem.own_texts hown with ⟨rfl, hnil⟩ | ⟨g, o', cap', rfl, hgl, hcell'⟩
        · exact absurd hnil HNE.out
        · have HC' := hide hcell'
          clear hcell' hown
          go_wp2_with fail
          refine (WJoin.any g o' cap' (Pl.partsTo ts ts.length) _ (by omega) H1.out HC'.out hgl).mono ?_
          rintro e w1 ⟨rfl, hb1⟩
          go_wp2
          go_ret
          exact ⟨by rw [H0.out]; rfl, hbel.trans (hb1.mono (by omega))⟩
end WPathOf
end Go.Proofs.YtepmojmelcngeaaGreatDoor

/- The walk of the program's PathRight, PathParent and PathBase. -/
namespace Go.Proofs.YtepmojmelcngeaaGreatDoor
open Go.RowKit
namespace WPathI
theorem right_any (s : ByteArray) (w : World) (hs : s.size ≤ 1048576) :
    Calls Tryz.prog 71 #[.string s] w fun e w' => e = .returned (.bool (Pl.pathB s)) ∧ Below w.heap.size w w' := by
  go_enter Tryz.func71, Tryz.ntmps71
  go_wp2_with fail
  refine (WNames.any s _ hs).mono ?_
  rintro e w1 ⟨v, rfl, hown, hb⟩
  clear hown
  go_wp2
  go_ret
  exact ⟨rfl, hb⟩
end WPathI
end Go.Proofs.YtepmojmelcngeaaGreatDoor

/- The specification's PathRight, under the bound of the laws. -/
namespace Go.Proofs.YtepmojmelcngeaaGreatDoor
open Go.RowKit
namespace WPathS
theorem right_one (s : ByteArray) (w : World) (hs : s.size ≤ 1048576) :
    Calls Tryz.prog 57 #[.string s] w fun e w' => e = .returned (.bool (Pl.pathB s)) ∧ Below w.heap.size w w' := right_any s w (by unfold maxLen; omega)
end WPathS
end Go.Proofs.YtepmojmelcngeaaGreatDoor

/- The walks of NodeRight, of the program and of the specification. -/
namespace Go.Proofs.YtepmojmelcngeaaGreatDoor
open Go.RowKit
namespace WNode
set_option maxRecDepth 100000 in
theorem is_any (a b c : Int) (w : World) :
    Calls Tryz.prog 76 #[.int .i64 a, .int .i64 b, .int .i64 c] w fun e w' => e = .returned (.bool (decide (b ≤ a) && decide (a ≤ c))) ∧ w' = w := by
  by_cases h1 : b ≤ a
  · go_enter Tryz.func76, Tryz.ntmps76
    go_wp2
    go_ret
    exact ⟨ret_bool (by simp [h1]), rfl⟩
  · go_enter Tryz.func76, Tryz.ntmps76
    go_wp2
    go_ret
    exact ⟨ret_bool (by have : ¬ b ≤ a := by omega
                        simp [this]), rfl⟩
set_option maxRecDepth 100000 in
theorem time_any (a : Int) (w : World) :
    Calls Tryz.prog 79 #[.int .i64 a] w fun e w' => e = .returned (.bool (decide (0 ≤ a) && decide (a ≤ 1000000))) ∧ w' = w := by
  go_enter Tryz.func79, Tryz.ntmps79
  go_wp2_with fail
  refine (is_any a 0 1000000 _).mono ?_
  rintro e w1 ⟨rfl, rfl⟩
  go_wp2
  go_ret
  exact ⟨rfl, rfl⟩
set_option maxRecDepth 100000 in
set_option maxHeartbeats 2000000 in
theorem spec_any (n : Pl.Nd) (w : World) (hp : n.path.size ≤ 1048576) (hd : n.data.size ≤ 1048576) :
    Calls Tryz.prog 38 #[n.val] w fun e w' => e = .returned (.bool (Pl.nodeB n)) ∧ Below w.heap.size w w' := by
  have E0 := hide (@Pl.node_root n)
  have E1 := hide (@Pl.node_path n)
  have E2 := hide (@Pl.node_data n)
  have E3 := hide (@Pl.node_time n)
  have E4 := hide (@Pl.node_mark n)
  have E5 := hide (@Pl.node_kind n)
  have EK : Hid (Pl.kindB n = (if n.kind = 0 then decide (n.data.size = 0) && decide (n.time = 0) && decide (1 ≤ n.mark) else if n.kind = 1 then decide (n.data.size = 0) else if n.kind = 2 then decide (n.mark = 0) else false)) := rfl
  generalize Pl.nodeB n = R at E0 E1 E2 E3 E4 E5 ⊢
  generalize Pl.kindB n = R2 at E5 EK
  obtain ⟨p, k, d, t, m⟩ := n
  simp only at hp hd E0 E1 E2 E3 E4 E5 EK
  simp only [Pl.Nd.val]
  have hr := hide (fun W => WPathS.right_one p W hp)
  generalize Pl.pathB p = r at hr E1 E5
  by_cases h0 : p.size = 0
  · have E := hide (unhide E0 h0)
    have t0 : p.toList.isEmpty = true := by rw [Pl.empty_list]; simpa [Pl.by_nil] using h0
    clear E0 E1 E2 E3 E4 E5 EK
    go_enter Tryz.func38, Tryz.ntmps38
    go_wp2
    go_ret
    exact ⟨ret_bool (unhide E).symm, (Below.refl _ _).alloc (Nat.le_refl _) _⟩
  have t0 : p.toList.isEmpty = false := by rw [Pl.empty_list]; simpa [Pl.by_nil] using h0
  cases r
  · have E := hide (unhide E1 rfl)
    clear E0 E1 E2 E3 E4 E5 EK
    go_enter Tryz.func38, Tryz.ntmps38
    have hv := Mem.var_new w [.string p, .int .i64 k, .string d, .int .i64 t, .int .i64 m] 36
    have hb0 : Below w.heap.size w (w.alloc (.cells #[.string p, .int .i64 k, .string d, .int .i64 t, .int .i64 m] 36)) := (Below.refl _ _).alloc (Nat.le_refl _) _
    go_wp2_with fail
    refine (unhide hr _).mono ?_
    rintro e w1 ⟨rfl, b1⟩
    have b2 := hb0.trans (b1.mono hb0.size)
    clear hv hb0 b1
    go_wp2
    go_ret
    exact ⟨ret_bool (unhide E).symm, b2⟩
  have E := hide (fun h2 h3 h4 => unhide E5 h0 rfl h2 h3 h4)
  clear E0 E1 E5
  have LEN : Hid (d.size = 0 ↔ d.toList.isEmpty = true) := by show _ ↔ _; rw [Pl.empty_list]; simp [Pl.by_nil]
  go_enter Tryz.func38, Tryz.ntmps38
  have hv := Mem.var_new w [.string p, .int .i64 k, .string d, .int .i64 t, .int .i64 m] 36
  have hb0 : Below w.heap.size w (w.alloc (.cells #[.string p, .int .i64 k, .string d, .int .i64 t, .int .i64 m] 36)) := (Below.refl _ _).alloc (Nat.le_refl _) _
  go_wp2_with fail
  refine (unhide hr _).mono ?_
  rintro e w1 ⟨rfl, b1⟩
  have hb := hb0.trans (b1.mono hb0.size)
  obtain ⟨-, hc⟩ := Mem.var_call hv b1
  have c0 := hc 0 _ rfl
  have c1 := hc 1 _ rfl
  have c2 := hc 2 _ rfl
  have c3 := hc 3 _ rfl
  have c4 := hc 4 _ rfl
  clear hv hb0 b1 hc hr
  by_cases h2 : 60 < d.size
  · have F := hide (unhide E2 h2)
    clear E E2 E3 E4 EK
    go_wp2
    go_ret
    exact ⟨ret_bool (unhide F).symm, hb⟩
  have t2 : decide ((60 : Int) < (d.size : Int)) = false := by simp; omega
  by_cases h3 : 0 ≤ t ∧ t ≤ 1000000
  rotate_left
  · have F := hide (unhide E3 h3)
    have V : (decide (0 ≤ t) && decide (t ≤ 1000000)) = false := by simpa using h3
    clear E E2 E3 E4 EK
    go_wp2_with fail
    refine (time_any t _).mono ?_
    rintro e w2 ⟨rfl, hw⟩
    rw [V]
    obtain rfl := hw.symm
    go_wp2
    go_ret
    exact ⟨ret_bool (unhide F).symm, hb⟩
  have V : (decide (0 ≤ t) && decide (t ≤ 1000000)) = true := by simpa using h3
  go_wp2_with fail
  refine (time_any t _).mono ?_
  rintro e w2 ⟨rfl, hw⟩
  rw [V]
  obtain rfl := hw.symm
  clear V hw
  by_cases h4 : 0 ≤ m ∧ m ≤ 8
  rotate_left
  · have F := hide (unhide E4 h4)
    have V : (decide (0 ≤ m) && decide (m ≤ 8)) = false := by simpa using h4
    clear E E2 E3 E4 EK
    go_wp2_with fail
    refine (is_any m 0 8 _).mono ?_
    rintro e w2 ⟨rfl, hw⟩
    rw [V]
    obtain rfl := hw.symm
    go_wp2
    go_ret
    exact ⟨ret_bool (unhide F).symm, hb⟩
  have V : (decide (0 ≤ m) && decide (m ≤ 8)) = true := by simpa using h4
  go_wp2_with fail
  refine (is_any m 0 8 _).mono ?_
  rintro e w2 ⟨rfl, hw⟩
  rw [V]
  obtain rfl := hw.symm
  clear V hw
  have F := hide ((unhide E (by omega) h3 h4).trans (unhide EK))
  clear E E2 E3 E4 EK
  by_cases hd0 : d.size = 0
  · have u0 : d.toList.isEmpty = true := (unhide LEN).1 hd0
    clear LEN
    by_cases k0 : k = 0
    · subst k0
      by_cases m1 : 1 ≤ m
      · go_wp2
        go_ret
        exact ⟨ret_bool (by rw [unhide F]; simp [hd0, m1]; rfl), hb⟩
      · go_wp2
        go_ret
        exact ⟨ret_bool (by rw [unhide F]; simp [hd0, m1]), hb⟩
    by_cases k1 : k = 1
    · subst k1
      go_wp2
      go_ret
      exact ⟨ret_bool (by rw [unhide F]; simp [hd0]), hb⟩
    by_cases k2 : k = 2
    · subst k2
      go_wp2
      go_ret
      exact ⟨ret_bool (by rw [unhide F]; simp; rfl), hb⟩
    · have e0 : (k == 0) = false := by simpa using k0
      have e1 : (k == 1) = false := by simpa using k1
      have e2 : (k == 2) = false := by simpa using k2
      go_wp2
      go_ret
      exact ⟨ret_bool (by rw [unhide F]; simp [k0, k1, k2]), hb⟩
  · have u0 : d.toList.isEmpty = false := by
      cases hx : d.toList.isEmpty
      · rfl
      · exact absurd ((unhide LEN).2 hx) hd0
    clear LEN
    by_cases k2 : k = 2
    · subst k2
      go_wp2
      go_ret
      exact ⟨ret_bool (by rw [unhide F]; simp; rfl), hb⟩
    · have e2 : (k == 2) = false := by simpa using k2
      go_wp2
      go_ret
      exact ⟨ret_bool (by rw [unhide F]; simp [hd0, k2]), hb⟩
set_option maxRecDepth 100000 in
theorem kind_any (n : Pl.Nd) (w : World) (hd : n.data.size ≤ 1048576) :
    Calls Tryz.prog 128 #[n.val] w fun e w' => e = .returned (.bool (Pl.kindB n)) ∧ Below w.heap.size w w' := by
  have EK : Hid (Pl.kindB n = (if n.kind = 0 then decide (n.data.size = 0) && decide (n.time = 0) && decide (1 ≤ n.mark) else if n.kind = 1 then decide (n.data.size = 0) else if n.kind = 2 then decide (n.mark = 0) else false)) := rfl
  generalize Pl.kindB n = R at EK ⊢
  obtain ⟨p, k, d, t, m⟩ := n
  simp only at hd EK
  simp only [Pl.Nd.val]
  have LEN : Hid (d.size = 0 ↔ d.toList.isEmpty = true) := by show _ ↔ _; rw [Pl.empty_list]; simp [Pl.by_nil]
  have hb : ∀ o, Below w.heap.size w (w.alloc o) := fun o => (Below.refl _ _).alloc (Nat.le_refl _) o
  have HB := hide hb
  clear hb
  by_cases hd0 : d.size = 0
  · have u0 : d.toList.isEmpty = true := (unhide LEN).1 hd0
    clear LEN
    by_cases k0 : k = 0
    · subst k0
      by_cases t1 : t = 0
      · subst t1
        by_cases m1 : 1 ≤ m
        · have m2 : 0 < m := by omega
          go_enter Tryz.func128, Tryz.ntmps128
          go_wp2
          go_ret
          exact ⟨ret_bool (by rw [unhide EK]; simp [hd0, m1]), unhide HB _⟩
        · have m2 : ¬ 0 < m := by omega
          go_enter Tryz.func128, Tryz.ntmps128
          go_wp2
          go_ret
          exact ⟨ret_bool (by rw [unhide EK]; simp [hd0, m1]), unhide HB _⟩
      · have t2 : (t == 0) = false := by simpa using t1
        go_enter Tryz.func128, Tryz.ntmps128
        go_wp2
        go_ret
        exact ⟨ret_bool (by rw [unhide EK]; simp [hd0, t1]), unhide HB _⟩
    by_cases k1 : k = 1
    · subst k1
      go_enter Tryz.func128, Tryz.ntmps128
      go_wp2
      go_ret
      exact ⟨ret_bool (by rw [unhide EK]; simp [hd0]), unhide HB _⟩
    by_cases k2 : k = 2
    · subst k2
      go_enter Tryz.func128, Tryz.ntmps128
      go_wp2
      go_ret
      exact ⟨ret_bool (by rw [unhide EK]; simp; rfl), unhide HB _⟩
    · have e0 : (k == 0) = false := by simpa using k0
      have e1 : (k == 1) = false := by simpa using k1
      have e2 : (k == 2) = false := by simpa using k2
      go_enter Tryz.func128, Tryz.ntmps128
      go_wp2
      go_ret
      exact ⟨ret_bool (by rw [unhide EK]; simp [k0, k1, k2]), unhide HB _⟩
  · have u0 : d.toList.isEmpty = false := by
      cases hx : d.toList.isEmpty
      · rfl
      · exact absurd ((unhide LEN).2 hx) hd0
    clear LEN
    by_cases k0 : k = 0
    · subst k0
      go_enter Tryz.func128, Tryz.ntmps128
      go_wp2
      go_ret
      exact ⟨ret_bool (by rw [unhide EK]; simp [hd0]), unhide HB _⟩
    by_cases k1 : k = 1
    · subst k1
      go_enter Tryz.func128, Tryz.ntmps128
      go_wp2
      go_ret
      exact ⟨ret_bool (by rw [unhide EK]; simp [hd0]), unhide HB _⟩
    by_cases k2 : k = 2
    · subst k2
      go_enter Tryz.func128, Tryz.ntmps128
      go_wp2
      go_ret
      exact ⟨ret_bool (by rw [unhide EK]; simp; rfl), unhide HB _⟩
    · have e0 : (k == 0) = false := by simpa using k0
      have e1 : (k == 1) = false := by simpa using k1
      have e2 : (k == 2) = false := by simpa using k2
      go_enter Tryz.func128, Tryz.ntmps128
      go_wp2
      go_ret
      exact ⟨ret_bool (by rw [unhide EK]; simp [k0, k1, k2]), unhide HB _⟩
set_option maxRecDepth 100000 in
set_option maxHeartbeats 2000000 in
theorem content_any (n : Pl.Nd) (w : World) (hd : n.data.size ≤ 1048576) :
    Calls Tryz.prog 111 #[n.val] w fun e w' => e = .returned (.bool (Pl.contB n)) ∧ Below w.heap.size w w' := by
  have E2 := hide (@Pl.cont_data n)
  have E3 := hide (@Pl.cont_time n)
  have E4 := hide (@Pl.cont_mark n)
  have E5 := hide (@Pl.cont_kind n)
  have EK := hide (fun W => kind_any n W hd)
  generalize Pl.contB n = R at E2 E3 E4 E5 ⊢
  generalize Pl.kindB n = R2 at E5 EK
  obtain ⟨p, k, d, t, m⟩ := n
  simp only at hd E2 E3 E4 E5
  simp only [Pl.Nd.val] at EK ⊢
  have hb : Below w.heap.size w (w.alloc (.cells #[.string p, .int .i64 k, .string d, .int .i64 t, .int .i64 m] 36)) := (Below.refl _ _).alloc (Nat.le_refl _) _
  by_cases h2 : 60 < d.size
  · have F := hide (unhide E2 h2)
    clear E2 E3 E4 E5 EK
    go_enter Tryz.func111, Tryz.ntmps111
    go_wp2
    go_ret
    exact ⟨ret_bool (unhide F).symm, hb⟩
  have t2 : decide ((60 : Int) < (d.size : Int)) = false := by simp; omega
  by_cases h3 : 0 ≤ t ∧ t ≤ 1000000
  rotate_left
  · have F := hide (unhide E3 h3)
    clear E2 E3 E4 E5 EK
    by_cases h5 : t < 0
    · go_enter Tryz.func111, Tryz.ntmps111
      go_wp2
      go_ret
      exact ⟨ret_bool (unhide F).symm, hb⟩
    · have h6 : ¬ t ≤ 1000000 := by omega
      go_enter Tryz.func111, Tryz.ntmps111
      go_wp2
      go_ret
      exact ⟨ret_bool (unhide F).symm, hb⟩
  obtain ⟨h5, h6⟩ := h3
  by_cases h4 : 0 ≤ m ∧ m ≤ 8
  rotate_left
  · have F := hide (unhide E4 h4)
    clear E2 E3 E4 E5 EK
    by_cases h7 : m < 0
    · go_enter Tryz.func111, Tryz.ntmps111
      go_wp2
      go_ret
      exact ⟨ret_bool (unhide F).symm, hb⟩
    · have h8 : ¬ m ≤ 8 := by omega
      go_enter Tryz.func111, Tryz.ntmps111
      go_wp2
      go_ret
      exact ⟨ret_bool (unhide F).symm, hb⟩
  obtain ⟨h7, h8⟩ := h4
  have F := hide (unhide E5 (by omega) ⟨h5, h6⟩ ⟨h7, h8⟩)
  clear E2 E3 E4 E5
  go_enter Tryz.func111, Tryz.ntmps111
  go_wp2_with fail
  refine (unhide EK _).mono ?_
  rintro e w2 ⟨rfl, b2⟩
  have b3 := hb.trans (b2.mono hb.size)
  clear hb b2
  go_wp2
  go_ret
  exact ⟨ret_bool (unhide F).symm, b3⟩
set_option maxRecDepth 100000 in
set_option maxHeartbeats 2000000 in
theorem impl_any (n : Pl.Nd) (w : World) (hp : n.path.size ≤ 1048576) (hd : n.data.size ≤ 1048576) :
    Calls Tryz.prog 82 #[n.val] w fun e w' => e = .returned (.bool (Pl.nodeB n)) ∧ Below w.heap.size w w' := by
  have E0 := hide (@Pl.node_root n)
  have E1 := hide (@Pl.node_path n)
  have E5 := hide (@Pl.node_cont n)
  have EK := hide (fun W => content_any n W hd)
  generalize Pl.nodeB n = R at E0 E1 E5 ⊢
  generalize Pl.contB n = R2 at E5 EK
  obtain ⟨p, k, d, t, m⟩ := n
  simp only at hp hd E0 E1 E5
  simp only [Pl.Nd.val] at EK ⊢
  have hr := hide (fun W => WPathI.right_any p W hp)
  generalize Pl.pathB p = r at hr E1 E5
  have hv := Mem.var_new w [.string p, .int .i64 k, .string d, .int .i64 t, .int .i64 m] 36
  have hb0 : Below w.heap.size w (w.alloc (.cells #[.string p, .int .i64 k, .string d, .int .i64 t, .int .i64 m] 36)) := (Below.refl _ _).alloc (Nat.le_refl _) _
  by_cases h0 : p.size = 0
  · have E := hide (unhide E0 h0)
    have t0 : p.toList.isEmpty = true := by rw [Pl.empty_list]; simpa [Pl.by_nil] using h0
    clear E0 E1 E5 EK hv
    go_enter Tryz.func82, Tryz.ntmps82
    go_wp2
    go_ret
    exact ⟨ret_bool (unhide E).symm, hb0⟩
  have t0 : p.toList.isEmpty = false := by rw [Pl.empty_list]; simpa [Pl.by_nil] using h0
  cases r
  · have E := hide (unhide E1 rfl)
    clear E0 E1 E5 EK
    go_enter Tryz.func82, Tryz.ntmps82
    go_wp2_with fail
    refine (unhide hr _).mono ?_
    rintro e w1 ⟨rfl, b1⟩
    have b2 := hb0.trans (b1.mono hb0.size)
    clear hv hb0 b1
    go_wp2
    go_ret
    exact ⟨ret_bool (unhide E).symm, b2⟩
  have F := hide (unhide E5 h0 rfl)
  clear E0 E1 E5
  go_enter Tryz.func82, Tryz.ntmps82
  go_wp2_with fail
  refine (unhide hr _).mono ?_
  rintro e w1 ⟨rfl, b1⟩
  have hb := hb0.trans (b1.mono hb0.size)
  obtain ⟨-, hc⟩ := Mem.var_call hv b1
  have c0 := hc 0 _ rfl
  have c1 := hc 1 _ rfl
  have c2 := hc 2 _ rfl
  have c3 := hc 3 _ rfl
  have c4 := hc 4 _ rfl
  clear hv hb0 b1 hc hr
  go_wp2_with fail
  refine (unhide EK _).mono ?_
  rintro e w2 ⟨rfl, b2⟩
  have b3 := hb.trans (b2.mono hb.size)
  clear hb b2
  go_wp2
  go_ret
  exact ⟨ret_bool (unhide F).symm, b3⟩
end WNode
end Go.Proofs.YtepmojmelcngeaaGreatDoor

/- The walk of the specification's l02Less. -/
namespace Go.Proofs.YtepmojmelcngeaaGreatDoor
open Go.RowKit
namespace WPathS
set_option maxRecDepth 100000 in
set_option maxHeartbeats 1000000 in
theorem less1_any (p t : ByteArray) (w : World) (hp : p.size ≤ 8000) (ht : t.size ≤ 8000) :
    Calls Tryz.prog 55 #[.string p, .string t] w fun e w' => e = .returned (.bool (Pl.lessL (Pl.names p) (Pl.names t))) ∧ Below w.heap.size w w' := by
  have hn1 := hide (fun W => names_any p W (by omega))
  have hn2 := hide (fun W => names_any t W (by omega))
  have hA := Pl.names_length p
  have hB := Pl.names_length t
  generalize Pl.names p = A at hn1 hA ⊢
  generalize Pl.names t = B at hn2 hB ⊢
  have HE : Hid (∀ k, k = A.length ∧ k ≤ B.length ∨ k = B.length ∧ k ≤ A.length → Pl.lessL (A.drop k) (B.drop k) = decide (A.length < B.length)) := fun k h => Pl.less_end h
  have HS : Hid (Pl.lessL A B = Pl.lessL (A.drop 0) (B.drop 0)) := rfl
  have HT : Hid (∀ k a b, A[k]? = some a → B[k]? = some b → a = b → Pl.lessL (A.drop k) (B.drop k) = Pl.lessL (A.drop (k + 1)) (B.drop (k + 1))) := fun k a b h1 h2 h3 => Pl.less_same h1 h2 h3
  have HF : Hid (∀ k a b, A[k]? = some a → B[k]? = some b → a ≠ b → Pl.lessL (A.drop k) (B.drop k) = Op.bytesLess a.toList b.toList) := fun k a b h1 h2 h3 => Pl.less_other h1 h2 h3
  generalize Pl.lessL A B = R at HS ⊢
  go_enter Tryz.func55, Tryz.ntmps55
  go_wp2_with fail
  refine (unhide hn1 _).mono ?_
  rintro e w1 ⟨v, rfl, hown1, b1⟩
  have HO1 := hide hown1
  clear hown1
  go_wp2_with fail
  refine (unhide hn2 _).mono ?_
  rintro e w2 ⟨u, rfl, hown2, b2⟩
  have hv := hide (Mem.texts_call (Mem.own_texts (unhide HO1)) b2)
  have hu := hide (Mem.own_texts hown2)
  have b3 := b1.trans (b2.mono b1.size)
  have hs3 := b3.size
  clear b1 b2 hown2 HO1 hn1 hn2
  obtain ⟨va, vc, rfl⟩ := Mem.texts_shape (unhide hv)
  obtain ⟨ua, uc, rfl⟩ := Mem.texts_shape (unhide hu)
  have HCA : Hid (∀ (k : Nat) x, A[k]? = some x → ∃ b o, va = some ⟨b, o, none⟩ ∧ b < w2.heap.size ∧ w2.cell? ⟨b, o + k, none⟩ = some (.string x)) := fun k x hx => by
    rcases unhide hv with ⟨_, rfl⟩ | ⟨b, o, cap, h1, h2, h3⟩
    · simp at hx
    · cases h1; exact ⟨b, o, rfl, h2, h3 k x hx⟩
  have HCB : Hid (∀ (k : Nat) x, B[k]? = some x → ∃ b o, ua = some ⟨b, o, none⟩ ∧ b < w2.heap.size ∧ w2.cell? ⟨b, o + k, none⟩ = some (.string x)) := fun k x hx => by
    rcases unhide hu with ⟨_, rfl⟩ | ⟨b, o, cap, h1, h2, h3⟩
    · simp at hx
    · cases h1; exact ⟨b, o, rfl, h2, h3 k x hx⟩
  clear hv hu
  go_wp2
  go_loopw [7] (fun i wr => ∃ k : Nat, k ≤ A.length ∧ k ≤ B.length ∧ i = .int .i64 (k : Int) ∧ Below w2.heap.size w2 wr ∧ Hid (R = Pl.lessL (A.drop k) (B.drop k))) (fun i _ => A.length - (intOf i).toNat)
  case atStart => exact ⟨0, Nat.zero_le _, Nat.zero_le _, rfl, Below.refl _ _, HS⟩
  case round =>
    obtain ⟨k, hk, hk2, rfl, hbel, HR⟩ := hrel
    by_cases hlt : k < A.length ∧ k < B.length
    · obtain ⟨l1, l2⟩ := hlt
      obtain ⟨y, hy⟩ : ∃ y, B[k]? = some y := ⟨_, List.getElem?_eq_getElem (by omega)⟩
      obtain ⟨x, hx⟩ : ∃ x, A[k]? = some x := ⟨_, List.getElem?_eq_getElem (by omega)⟩
      obtain ⟨b, o, rfl, hb, hcb⟩ := HCB.out k y hy
      obtain ⟨b', o', rfl, hb', hca⟩ := HCA.out k x hx
      have hc1 : wr.cell? ⟨b, o + k, none⟩ = some (.string y) := (hbel.cell (p := ⟨b, o + k, none⟩) hb).trans hcb
      have hc2 : wr.cell? ⟨b', o' + k, none⟩ = some (.string x) := (hbel.cell (p := ⟨b', o' + k, none⟩) hb').trans hca
      have u1 : (k : Int) < (A.length : Int) := by omega
      have u2 : (k : Int) < (B.length : Int) := by omega
      have u3 : (0 : Int) ≤ (k : Int) := by omega
      clear hcb hca
      by_cases hxy : x = y
      · have t2 := Pl.eq_lists hxy
        have HR2 : Hid (R = Pl.lessL (A.drop (k + 1)) (B.drop (k + 1))) := HR.out.trans (HT.out k x y hx hy hxy)
        clear hx hy HR hxy
        go_wp2
        go_quiet (fail)
        go_wp2
        go_roundw
        case rel => exact ⟨k + 1, by omega, by omega, by go_num, Mem.below_drewN hbel _, HR2⟩
        case measure => simp [intOf]; omega
      · have t2 := Pl.ne_lists hxy
        have E : Hid (R = Op.bytesLess x.toList y.toList) := HR.out.trans (HF.out k x y hx hy hxy)
        clear hx hy HR hxy
        go_wp2
        go_quiet (fail)
        go_wp2
        go_quiet (fail)
        go_wp2
        go_ret
        exact ⟨ret_bool E.out.symm, b3.trans ((Mem.below_drewN (Mem.below_drewN hbel _) _).mono hs3)⟩
    · have E : Hid (R = decide (A.length < B.length)) := HR.out.trans (HE.out _ (by omega))
      clear HR
      by_cases l1 : k < A.length
      · have u1 : (k : Int) < (A.length : Int) := by omega
        have u2 : ¬ (k : Int) < (B.length : Int) := by omega
        clear hlt
        go_wp2
        go_ret
        exact ⟨ret_bool (by rw [E.out]), b3.trans (hbel.mono hs3)⟩
      · have u1 : ¬ (k : Int) < (A.length : Int) := by omega
        clear hlt
        go_wp2
        go_ret
        exact ⟨ret_bool (by rw [E.out]), b3.trans (hbel.mono hs3)⟩
end WPathS
end Go.Proofs.YtepmojmelcngeaaGreatDoor

