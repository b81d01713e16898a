/- Several texts of one claim in one file: WWords, WNames, WRightI, WSplit, WPathS, WSpecR. -/
import Derived.Test.YtioildojmckepaaGreatDoorG04
import Derived.Test.YtioildojmckepaaGreatDoorG00
import Derived.Test.YtioildojmckepaaGreatDoorProg
import Derived.WalkSpells
import Derived.Lib.OthersKept
import Derived.Laws.RangeAny
import Derived.Test.YtioildojmckepaaGreatDoorG01
namespace Go.Proofs.YtioildojmckepaaGreatDoor
open Go.RowKit
namespace Pl
theorem get_ge (s : ByteArray) (k : Nat) (h : k < s.size) : s.get! k = s[k] := by
  simp [ByteArray.get!, getElem!_pos, h]; rfl
theorem rune_other (s : ByteArray) (pos : Nat) (h : pos < s.size) (hb : s[pos].toNat ≠ 47) :
    ((Utf8.decode s pos).1 ≠ 47) ∧ 1 ≤ (Utf8.decode s pos).2 ∧ pos + (Utf8.decode s pos).2 ≤ s.size ∧ ∀ j (hj : j < s.size), pos ≤ j → j < pos + (Utf8.decode s pos).2 → s[j].toNat ≠ 47 := by
  by_cases ha : s[pos].toNat < 128
  · rw [decode_ascii s pos h ha]
    refine ⟨hb, Nat.le_refl _, h, fun j hj h1 h2 => ?_⟩
    obtain rfl : j = pos := by simp at h2; omega
    exact hb
  · have hh := decode_high s pos h (by omega)
    refine ⟨by omega, hh.2, ?_⟩
    have hg := get_ge s
    have key : pos + (Utf8.decode s pos).2 ≤ s.size ∧ ∀ k, 1 ≤ k → k < (Utf8.decode s pos).2 → (s.get! (pos + k)).toNat / 64 = 2 := by
      have h0 : s.get! (pos + 0) = s[pos] := hg pos h
      simp only [Utf8.decode, h0, ha, if_false]
      repeat' split
      all_goals simp_all
      all_goals first
        | omega
        | (refine ⟨by omega, fun k h1 h2 => ?_⟩
           rcases (show k = 1 ∨ k = 2 ∨ k = 3 by omega) with rfl | rfl | rfl <;> first | omega | (simp_all; done))
    refine ⟨key.1, fun j hj h1 h2 => ?_⟩
    by_cases he : j = pos
    · subst he; exact hb
    · have := key.2 (j - pos) (by omega) (by omega)
      rw [Nat.add_sub_cancel' h1, hg j hj] at this
      omega
theorem cutF_over {s : ByteArray} {fr : Nat} : ∀ n k, k + n ≤ s.size → (∀ j (hj : j < s.size), k ≤ j → j < k + n → s[j].toNat ≠ 47) → cutF s 47 (s.size - k) fr k = cutF s 47 (s.size - (k + n)) fr (k + n) := by
  intro n
  induction n with
  | zero => intro k _ _; rfl
  | succ n ih =>
    intro k hk h
    have hlt : k < s.size := by omega
    have hf : s.size - k = s.size - (k + 1) + 1 := by omega
    rw [hf, ya0 hlt (h k hlt (Nat.le_refl _) (by omega)), ih (k + 1) (by omega) (fun j hj h1 h2 => h j hj (by omega) (by omega))]
    have e : k + 1 + n = k + (n + 1) := by omega
    rw [e]
end Pl
namespace Mem
theorem own_iterAt {w : World} {B e size n : Nat} {v : Value} {xs : List Value} {k : Nat} {s : ByteArray} {pos : Nat} (h : w.ownsRow B e size v n xs) (hk : w.heap[k]? = some (.stringIter s pos)) (pos' : Nat) : (w.iterAt k s pos').ownsRow B e size v n xs := by
  refine ⟨h.1, ?_⟩
  rcases h.2 with h0 | ⟨g, cap, cur, hv, hb, hg, rest⟩
  · exact .inl h0
  · refine .inr ⟨g, cap, cur, hv, hb, ?_, rest⟩
    rw [Lib.iterAt_other _ _ _ _ _ (fun e => by subst e; rw [hk] at hg; cases hg)]
    exact hg
theorem own_no_iter {w : World} {B e size n : Nat} {v : Value} {xs : List Value} {k : Nat} {s : ByteArray} {pos : Nat} (h : w.ownsRow B e size v n xs) (hk : w.heap[k]? = some (.stringIter s pos)) : some k ≠ v.ownBlock := by
  rcases h.2 with ⟨rfl, _⟩ | ⟨g, cap, cur, rfl, hb, hg, rest⟩
  · simp [Value.ownBlock]
  · intro e
    simp only [Value.ownBlock, Option.some.injEq] at e
    subst e
    rw [hk] at hg
    cases hg
end Mem
namespace zx4
theorem infoS : (Tryz.prog.info? 9).map (fun i => (i.zero, i.size, i.bytes)) = some (some (.string ⟨#[]⟩), 1, 16) := by kernel_rfl

set_option maxRecDepth 100000 in
set_option maxHeartbeats 400000 in
theorem any (s : ByteArray) (w : World) (hs : s.size ≤ 1048576) :
    Calls Tryz.prog 111 #[.string s] w fun e w' => ∃ v, e = .returned v ∧
      w'.ownsRow w.heap.size 9 1 v (Pl.cut s 47).length ((Pl.cut s 47).map Value.string) ∧ Below w.heap.size w w' := by
  obtain ⟨i0, hi, hz0, hz1, hz2⟩ := info_parts infoS
  go_enter Tryz.func111, Tryz.ntmps111
  go_wp2
  go_loopw [3, 4] (fun v x wr => ∃ (pos fr : Nat) (L : List ByteArray), pos ≤ s.size ∧ fr ≤ pos ∧ L.length ≤ pos ∧ x = .int .i64 (fr : Int) ∧
      wr.ownsRow w.heap.size 9 1 v L.length (L.map Value.string) ∧ wr.heap[w.heap.size + 1]? = some (.stringIter s pos) ∧ Below w.heap.size w wr ∧ Hid (Pl.cut s 47 = L ++ Pl.cutF s 47 (s.size - pos) fr pos)) (fun _ _ wr => s.size - wr.iterPos (w.heap.size + 1))
  case atStart =>
    refine ⟨0, 0, [], by omega, by omega, by simp, rfl, (World.ownsRow_made _ _ 0 (Nat.le_refl _) (Nat.zero_le _) rfl).alloc _, ?_, ((Below.refl _ _).alloc (Nat.le_refl _) _).alloc (by simp) _, rfl⟩
    have := World.iter_heap (w.alloc (.cells #[] 9)) s 0
    simpa using this
  case round =>
    obtain ⟨pos, fr, L, hk, hfr, hL, rfl, hown, hit, hbel, H⟩ := hrel
    have hb1 := hbel.size
    have hsz : w.heap.size + 1 < wr.heap.size := (Array.getElem?_eq_some_iff.1 hit).1
    have hip : wr.iterPos (w.heap.size + 1) = pos := by simp only [World.iterPos, hit]
    by_cases hlt : pos < s.size
    · by_cases hq : s[pos].toNat = 47
      · have ha : s[pos].toNat < 128 := by omega
        have hnx : ∀ ty, (Instr.next (.pointer (some ⟨w.heap.size + 1, 0, none⟩)) true ty).run Tryz.prog wr = .ok (.tuple #[.bool true, .int .i64 pos, .int .i32 47]) (wr.iterAt (w.heap.size + 1) s (pos + 1)) := fun ty => by
          rw [Lib.run_next_ascii_at wr (w.heap.size + 1) s pos ty hit hlt ha, hq]; rfl
        have hf : s.size - pos = s.size - (pos + 1) + 1 := by omega
        have H2 : Hid (Pl.cut s 47 = (L ++ [s.extract fr pos]) ++ Pl.cutF s 47 (s.size - (pos + 1)) (pos + 1) (pos + 1)) := by
          show _ = _
          rw [H.out, hf, Pl.cutF_hit hlt hq]; simp
        have hown2 := Mem.own_iterAt hown hit (pos + 1)
        have hit2 := Lib.iterAt_heap wr (w.heap.size + 1) s pos (pos + 1) hit
        have hbel2 := Lib.below_iterAt hbel (k := w.heap.size + 1) (by omega) s (pos + 1)
        have hsz2 : Hid ((wr.iterAt (w.heap.size + 1) s (pos + 1)).heap.size = wr.heap.size) := Lib.iterAt_size _ _ _ _
        have hne := Mem.own_no_iter hown2 hit2
        generalize wr.iterAt (w.heap.size + 1) s (pos + 1) = w1 at hnx hown2 hit2 hbel2 hsz2
        have t1 : (0 : Int) ≤ (fr : Int) := by omega
        have t2 : (fr : Int) ≤ (pos : Int) := by omega
        have t3 : (pos : Int) ≤ (s.size : Int) := by omega
        clear H hf hq hown hit hbel ha
        go_wp2_with (at_builtin; refine wpList_append_own _ rfl _ _ 44 rfl w.heap.size 9 i0 (.string ⟨#[]⟩) 1 16 Tryz.underlying44 hi hz0 hz1 hz2 rfl (by decide) _ _ _ rfl (hown2.alloc _) ⟨w1.heap.size, 0, none⟩ 1 1 [.string (s.extract fr pos)] rfl rfl ?c1 ?c2 ?c3 ?c4 ?c5 ?_)
        case c1 => exact Mem.zm8 _ _ _
        case c2 => intro u hu; simp at hu; subst hu; rfl
        case c3 => unfold maxLen; omega
        case c4 => omega
        case c5 => have := hsz2.out; simp; omega
        · intro v' w2 hown' hgrow _
          have hsz2 := hsz2.out
          have hbel' := Mem.zh3 hbel2 (Nat.le_refl _) hown2 hgrow
          have hown3 : w2.ownsRow w.heap.size 9 1 v' (L ++ [s.extract fr pos]).length ((L ++ [s.extract fr pos]).map Value.string) := by simpa using hown'
          have hit3 : w2.heap[w.heap.size + 1]? = some (.stringIter s (pos + 1)) :=
            (hgrow.block (w.heap.size + 1) (by simp; omega) hne).trans ((Below.heap_alloc _ _ _ (by omega)).trans hit2)
          have hip3 : w2.iterPos (w.heap.size + 1) = pos + 1 := by simp only [World.iterPos, hit3]
          clear hgrow hown2 hbel2 hown' hnx hit2
          go_wp2
          go_roundw
          case rel => exact ⟨pos + 1, pos + 1, L ++ [s.extract fr pos], by omega, by omega, by simp; omega, by go_num, hown3, hit3, hbel', H2⟩
          case measure => rw [hip3, hip]; omega
      · obtain ⟨r1, r2, r3, r4⟩ := Pl.rune_other s pos hlt hq
        have hnx : ∀ ty, (Instr.next (.pointer (some ⟨w.heap.size + 1, 0, none⟩)) true ty).run Tryz.prog wr = .ok (.tuple #[.bool true, .int .i64 pos, .int .i32 (Utf8.decode s pos).1]) (wr.iterAt (w.heap.size + 1) s (pos + (Utf8.decode s pos).2)) := fun ty =>
          Lib.run_next_any_at wr (w.heap.size + 1) s pos ty hit hlt
        have H2 : Hid (Pl.cut s 47 = L ++ Pl.cutF s 47 (s.size - (pos + (Utf8.decode s pos).2)) fr (pos + (Utf8.decode s pos).2)) := by
          show _ = _
          rw [H.out, Pl.cutF_over _ pos r3 r4]
        have hown2 := Mem.own_iterAt hown hit (pos + (Utf8.decode s pos).2)
        have hit2 := Lib.iterAt_heap wr (w.heap.size + 1) s pos (pos + (Utf8.decode s pos).2) hit
        have hbel2 := Lib.below_iterAt hbel (k := w.heap.size + 1) (by omega) s (pos + (Utf8.decode s pos).2)
        have hip2 : (wr.iterAt (w.heap.size + 1) s (pos + (Utf8.decode s pos).2)).iterPos (w.heap.size + 1) = pos + (Utf8.decode s pos).2 := by simp only [World.iterPos, hit2]
        have t4 : (((Utf8.decode s pos).1 : Int) == 47) = false := by rw [beq_eq_false_iff_ne]; omega
        generalize hD : (Utf8.decode s pos).2 = n at *
        generalize (Utf8.decode s pos).1 = r at *
        generalize wr.iterAt (w.heap.size + 1) s (pos + n) = w1 at *
        clear H hq hown hit hbel r4 hD r1
        go_wp2
        go_roundw
        case rel => exact ⟨pos + n, fr, L, r3, by omega, by omega, rfl, hown2, hit2, hbel2, H2⟩
        case measure => rw [hip2, hip]; omega
    · obtain rfl : pos = s.size := by omega
      have hnx : ∀ ty, (Instr.next (.pointer (some ⟨w.heap.size + 1, 0, none⟩)) true ty).run Tryz.prog wr = .ok (.tuple #[.bool false]) wr := fun ty => Lib.run_next_end_at wr (w.heap.size + 1) s s.size ty hit hlt
      have H2 : Hid (Pl.cut s 47 = L ++ [s.extract fr s.size]) := by
        show _ = _
        rw [H.out, Nat.sub_self]; rfl
      have t1 : (0 : Int) ≤ (fr : Int) := by omega
      have t2 : (fr : Int) ≤ (s.size : Int) := by omega
      clear H
      go_wp2_with (at_builtin; refine wpList_append_own _ rfl _ _ 44 rfl w.heap.size 9 i0 (.string ⟨#[]⟩) 1 16 Tryz.underlying44 hi hz0 hz1 hz2 rfl (by decide) _ _ _ rfl (hown.alloc _) ⟨wr.heap.size, 0, none⟩ 1 1 [.string (s.extract fr s.size)] rfl rfl ?c1 ?c2 ?c3 ?c4 ?c5 ?_)
      case c1 => exact Mem.zm8 _ _ _
      case c2 => intro u hu; simp at hu; subst hu; rfl
      case c3 => unfold maxLen; omega
      case c4 => omega
      case c5 => simp; omega
      · intro v' w2 hown' hgrow _
        have hbel' := Mem.zh3 hbel (Nat.le_refl _) hown hgrow
        have hown2 : w2.ownsRow w.heap.size 9 1 v' (Pl.cut s 47).length ((Pl.cut s 47).map Value.string) := by rw [H2.out]; simpa using hown'
        clear hgrow hown hbel hown'
        go_wp2
        go_ret
        exact ⟨_, rfl, hown2, hbel'⟩
end zx4
end Go.Proofs.YtioildojmckepaaGreatDoor

namespace Go.Proofs.YtioildojmckepaaGreatDoor
open Go.RowKit
namespace WNames
set_option maxRecDepth 100000 in
set_option maxHeartbeats 400000 in
theorem any (s : ByteArray) (w : World) (hs : s.size ≤ 1048576) :
  Calls Tryz.prog 106 #[.string s] w fun e w' => ∃ v, e = .returned (.tuple #[v, .bool (Pl.zb2 s)]) ∧
   w'.ownsRow w.heap.size 9 1 v (Pl.ze5 s).length ((Pl.ze5 s).map Value.string) ∧ Below w.heap.size w w' := by
 by_cases h0 : s.size = 0
 ·have E := hide (Pl.zm9 h0).1
  have E2 := hide ((Pl.zk8 (Pl.zm9 h0).1).trans (Pl.zm9 h0).2)
  obtain rfl : s = ⟨#[]⟩ := by apply ByteArray.ext; exact Array.eq_empty_of_size_eq_zero h0
  go_enter Tryz.func106, Tryz.ntmps106
  go_wp2
  go_ret2
  refine ⟨.slice none 0 0, by rw [za E]; rfl, ?_, Below.refl _ _⟩
  rw [za E2]
  exact World.ownsRow_nil _ _ _ _
 have t0 : s.toList.isEmpty = false := by
  rw [List.isEmpty_eq_false_iff, ByteArray.toList_eq]
  intro h
  have h1 : s.data.toList.length = 0 := by rw [h]; rfl
  rw [Array.length_toList] at h1
  exact h0 h1
 have E1 : Hid (Pl.names s = Pl.cut s 47) := if_neg h0
 by_cases h8 : 8000 < s.size
 ·have E := hide (Pl.zz4 (s := s) (by omega))
  have E2 := hide (Pl.zw7 (za E))
  go_enter Tryz.func106, Tryz.ntmps106
  go_wp2
  go_ret2
  refine ⟨.slice none 0 0, by rw [za E]; rfl, ?_, Below.refl _ _⟩
  rw [za E2]
  exact World.ownsRow_nil _ _ _ _
 have hpos := Pl.cut_pos s
 have hlen := Pl.cut_length s
 have HSZ : Hid (∀ (k : Nat) t, (Pl.cut s 47)[k]? = some t → t.size ≤ maxLen) := fun k t ht => by
  have := Pl.cut_size ht
  unfold maxLen; omega
 have HLONG : Hid (6 < (Pl.cut s 47).length → Pl.zb2 s = false) := fun h => by
  rw [Pl.zx1, E1.out]; simp; intro _; omega
 have HBAD : Hid (∀ (k : Nat) t, (Pl.cut s 47)[k]? = some t → Pl.zd9 t = false → Pl.zb2 s = false) := fun k t ht hb => Pl.pathB_bad (by rw [E1.out]; exact ht) hb
 have HGOOD : Hid ((Pl.cut s 47).length ≤ 6 → (∀ (j : Nat) t, (Pl.cut s 47)[j]? = some t → Pl.zd9 t = true) → Pl.zb2 s = true ∧ Pl.ze5 s = Pl.cut s 47) := fun h6 h => by
  have h1 : Pl.zb2 s = true := by
   rw [Pl.zx1, E1.out]
   simp [h6]
   intro t ht
   obtain ⟨j, hj⟩ := List.mem_iff_getElem?.1 ht
   exact h j t hj
  exact ⟨h1, by rw [Pl.zk8 h1, E1.out]⟩
 have hn := hide (zx4.any s w hs)
 generalize Pl.cut s 47 = L at hn hlen HSZ HBAD HGOOD HLONG hpos
 go_enter Tryz.func106, Tryz.ntmps106
 go_wp2_with fail
 refine (za hn).mono ?_
 rintro e w1 ⟨v, rfl, hown, hbel⟩
 have HO := hide hown
 rcases Mem.texts hown with ⟨rfl, rfl⟩ | ⟨g, cap, rfl, hcap, hm, hgb, hgl, hcell⟩
 ·simp at hpos
 have HC := hide hcell
 clear hcell hown hn
 have hm2 := hm
 unfold maxLen at hm2
 by_cases h6 : 6 < L.length
 ·have E := hide (HLONG.out h6)
  have E2 := hide (Pl.zw7 (za E))
  go_wp2
  go_ret2
  refine ⟨.slice none 0 0, by rw [za E]; rfl, ?_, hbel⟩
  rw [za E2]
  exact World.ownsRow_nil _ _ _ _
 go_wp2
 go_loop [19] (fun i => ∃ k : Nat, k ≤ L.length ∧ i = .int .i64 (k : Int) ∧ Hid (∀ (j : Nat) t, j < k → L[j]? = some t → Pl.zd9 t = true)) (fun i => L.length - (intOf i).toNat)
 case atStart => exact ⟨0, Nat.zero_le _, rfl, fun j t h => absurd h (by omega)⟩
 case round =>
  obtain ⟨k, hk, rfl, HA⟩ := hrel
  by_cases hlt : k < L.length
  ·obtain ⟨t, ht⟩ : ∃ t, L[k]? = some t := ⟨_, List.getElem?_eq_getElem hlt⟩
   have hc := HC.out k t ht
   have hts := HSZ.out k t ht
   cases hb : Pl.zd9 t
   ·have E := hide (HBAD.out k t ht hb)
    have E2 := hide (Pl.zw7 (za E))
    have HB := hide hb
    clear ht hb
    go_wp2_with (go_at_call 112; refine (WName.ze9 t _ hts).mono ?_; rw [za HB]; rintro e w' ⟨rfl, hw⟩; obtain rfl := hw.symm)
    go_ret2
    refine ⟨.slice none 0 0, by rw [za E]; rfl, ?_, hbel⟩
    rw [za E2]
    exact World.ownsRow_nil _ _ _ _
   ·have HB := hide hb
    have HA2 : Hid (∀ (j : Nat) t, j < k + 1 → L[j]? = some t → Pl.zd9 t = true) := fun j t' hj h' => by
     rcases Nat.lt_succ_iff_lt_or_eq.1 hj with h'' | rfl
     ·exact HA.out j t' h'' h'
     ·rw [ht] at h'; cases h'; exact hb
    clear ht hb HA
    go_wp2_with (go_at_call 112; refine (WName.ze9 t _ hts).mono ?_; rw [za HB]; rintro e w' ⟨rfl, hw⟩; obtain rfl := hw.symm)
    go_round
    case rel => exact ⟨k + 1, by omega, by go_num, HA2⟩
    case measure => simp [intOf]; omega
  ·have E := hide (HGOOD.out (by omega) (fun j t h => HA.out j t (by have := (List.getElem?_eq_some_iff.1 h).1; omega) h))
   clear HA
   go_wp2
   go_ret2
   exact ⟨.slice (some ⟨g, 0, none⟩) L.length cap, by rw [(za E).1]; rfl, by rw [(za E).2]; exact za HO, hbel⟩
end WNames
end Go.Proofs.YtioildojmckepaaGreatDoor

namespace Go.Proofs.YtioildojmckepaaGreatDoor
open Go.RowKit
namespace WPathI
theorem ze6 (s : ByteArray) (w : World) (hs : s.size ≤ 1048576) :
  Calls Tryz.prog 94 #[.string s] w fun e w' => e = .returned (.bool (Pl.zb2 s)) ∧ Below w.heap.size w w' := by
 go_enter Tryz.func94, Tryz.ntmps94
 go_wp2_with fail
 refine (WNames.any s _ hs).mono ?_
 rintro e w1 ⟨v, rfl, hown, hb⟩
 clear hown
 go_wp2
 go_ret
 exact ⟨rfl, hb⟩
end WPathI
end Go.Proofs.YtioildojmckepaaGreatDoor

namespace Go.Proofs.YtioildojmckepaaGreatDoor
open Go.RowKit
namespace WSplit
theorem infoS : (Tryz.prog.info? 9).map (fun i => (i.zero, i.size, i.bytes)) = some (some (.string ⟨#[]⟩), 1, 16) := by kernel_rfl

set_option maxRecDepth 100000 in
set_option maxHeartbeats 400000 in
theorem split_any (s : ByteArray) (b : Nat) (w : World) (hs : s.size ≤ 1048576) :
  Calls Tryz.prog 110 #[.string s, .int .u8 (b : Int)] w fun e w' => ∃ v, e = .returned v ∧
   w'.ownsRow w.heap.size 9 1 v (Pl.cut s b).length ((Pl.cut s b).map Value.string) ∧ Below w.heap.size w w' := by
 obtain ⟨i0, hi, hz0, hz1, hz2⟩ := info_parts infoS
 go_enter Tryz.func110, Tryz.ntmps110
 go_wp2
 go_loopw [5, 6, 7] (fun v x i wr => ∃ (k fr : Nat) (L : List ByteArray), k ≤ s.size ∧ fr ≤ k ∧ L.length ≤ k ∧ i = .int .i64 (k : Int) ∧ x = .int .i64 (fr : Int) ∧
   wr.ownsRow w.heap.size 9 1 v L.length (L.map Value.string) ∧ Below w.heap.size w wr ∧ Hid (Pl.cut s b = L ++ Pl.cutF s b (s.size - k) fr k)) (fun _ _ i _ => s.size - (intOf i).toNat)
 case atStart => exact ⟨0, 0, [], by omega, by omega, by simp, rfl, rfl, World.ownsRow_made _ _ 0 (Nat.le_refl _) (Nat.zero_le _) rfl, (Below.refl _ _).alloc (Nat.le_refl _) _, rfl⟩
 case round =>
  obtain ⟨k, fr, L, hk, hfr, hL, rfl, rfl, hown, hbel, H⟩ := hrel
  have hb1 := hbel.size
  by_cases hlt : k < s.size
  ·have hf : s.size - k = s.size - (k + 1) + 1 := by omega
   have t1 : (0 : Int) ≤ (fr : Int) := by omega
   have t2 : (fr : Int) ≤ (k : Int) := by omega
   have t3 : (k : Int) ≤ (s.size : Int) := by omega
   by_cases hq : s[k].toNat = b
   ·have H2 : Hid (Pl.cut s b = (L ++ [s.extract fr k]) ++ Pl.cutF s b (s.size - (k + 1)) (k + 1) (k + 1)) := by
     show _ = _
     rw [H.out, hf, Pl.cutF_hit hlt hq]; simp
    have t4 : ((s[k].toNat : Int) == (b : Int)) = true := by rw [beq_iff_eq]; omega
    clear H hf hq
    go_wp2_with (at_builtin; refine wpList_append_own _ rfl _ _ 44 rfl w.heap.size 9 i0 (.string ⟨#[]⟩) 1 16 Tryz.underlying44 hi hz0 hz1 hz2 rfl (by decide) _ _ _ rfl (hown.alloc _) ⟨wr.heap.size, 0, none⟩ 1 1 [.string (s.extract fr k)] rfl rfl ?c1 ?c2 ?c3 ?c4 ?c5 ?_)
    case c1 => exact Mem.zm8 _ _ _
    case c2 => intro u hu; simp at hu; subst hu; rfl
    case c3 => unfold maxLen; omega
    case c4 => omega
    case c5 => simp; omega
    ·intro v' w2 hown' hgrow _
     have hbel' := Mem.zh3 hbel (Nat.le_refl _) hown hgrow
     have hown2 : w2.ownsRow w.heap.size 9 1 v' (L ++ [s.extract fr k]).length ((L ++ [s.extract fr k]).map Value.string) := by simpa using hown'
     clear hgrow hown hbel hown' t4
     go_wp2
     go_roundw
     case rel => exact ⟨k + 1, k + 1, L ++ [s.extract fr k], by omega, by omega, by simp; omega, by go_num, by go_num, hown2, hbel', H2⟩
     case measure => simp [intOf]; omega
   ·have H2 : Hid (Pl.cut s b = L ++ Pl.cutF s b (s.size - (k + 1)) fr (k + 1)) := by
     show _ = _
     rw [H.out, hf, Pl.ya0 hlt hq]
    have t4 : ((s[k].toNat : Int) == (b : Int)) = false := by rw [beq_eq_false_iff_ne]; omega
    clear H hf hq
    go_wp2
    go_roundw
    case rel => exact ⟨k + 1, fr, L, by omega, by omega, by omega, by go_num, rfl, hown, hbel, H2⟩
    case measure => simp [intOf]; omega
  ·obtain rfl : k = s.size := by omega
   have H2 : Hid (Pl.cut s b = L ++ [s.extract fr s.size]) := by
    show _ = _
    rw [H.out, Nat.sub_self]; rfl
   have t1 : (0 : Int) ≤ (fr : Int) := by omega
   have t2 : (fr : Int) ≤ (s.size : Int) := by omega
   clear H
   go_wp2_with (at_builtin; refine wpList_append_own _ rfl _ _ 44 rfl w.heap.size 9 i0 (.string ⟨#[]⟩) 1 16 Tryz.underlying44 hi hz0 hz1 hz2 rfl (by decide) _ _ _ rfl (hown.alloc _) ⟨wr.heap.size, 0, none⟩ 1 1 [.string (s.extract fr s.size)] rfl rfl ?c1 ?c2 ?c3 ?c4 ?c5 ?_)
   case c1 => exact Mem.zm8 _ _ _
   case c2 => intro u hu; simp at hu; subst hu; rfl
   case c3 => unfold maxLen; omega
   case c4 => omega
   case c5 => simp; omega
   ·intro v' w2 hown' hgrow _
    have hbel' := Mem.zh3 hbel (Nat.le_refl _) hown hgrow
    have hown2 : w2.ownsRow w.heap.size 9 1 v' (Pl.cut s b).length ((Pl.cut s b).map Value.string) := by rw [H2.out]; simpa using hown'
    clear hgrow hown hbel hown'
    go_wp2
    go_ret
    exact ⟨_, rfl, hown2, hbel'⟩
end WSplit
end Go.Proofs.YtioildojmckepaaGreatDoor

namespace Go.Proofs.YtioildojmckepaaGreatDoor
open Go.RowKit
namespace zf3

theorem yb3 (s : ByteArray) (w : World) (hs : s.size ≤ 1048576) :
  Calls Tryz.prog 101 #[.string s] w fun e w' => ∃ v, e = .returned v ∧
   w'.ownsRow w.heap.size 9 1 v (Pl.names s).length ((Pl.names s).map Value.string) ∧ Below w.heap.size w w' := by
 by_cases h0 : s.size = 0
 ·have E : Hid (Pl.names s = []) := if_pos h0
  obtain rfl : s = ⟨#[]⟩ := by apply ByteArray.ext; exact Array.eq_empty_of_size_eq_zero h0
  go_enter Tryz.func101, Tryz.ntmps101
  go_wp2
  go_ret
  refine ⟨_, rfl, ?_, (Below.refl _ _).alloc (Nat.le_refl _) _⟩
  rw [E.out]
  exact World.ownsRow_made _ _ 0 (Nat.le_refl _) (Nat.zero_le _) rfl
 ·have E : Hid (Pl.names s = Pl.cut s 47) := if_neg h0
  have t0 : s.toList.isEmpty = false := by
   rw [List.isEmpty_eq_false_iff, ByteArray.toList_eq]
   intro h
   have h1 : s.data.toList.length = 0 := by rw [h]; rfl
   rw [Array.length_toList] at h1
   exact h0 h1
  go_enter Tryz.func101, Tryz.ntmps101
  go_wp2_with fail
  refine (WSplit.split_any s 47 _ hs).mono ?_
  rintro e w1 ⟨v, rfl, hown, hb⟩
  have HO := hide hown
  clear hown
  go_wp2
  go_ret
  exact ⟨_, rfl, by rw [E.out]; exact za HO, hb⟩

set_option maxRecDepth 100000 in
set_option maxHeartbeats 400000 in
theorem ze6 (s : ByteArray) (w : World) (hs : s.size ≤ maxLen) :
  Calls Tryz.prog 99 #[.string s] w fun e w' => e = .returned (.bool (Pl.zb2 s)) ∧ Below w.heap.size w w' := by
 unfold maxLen at hs
 by_cases h2 : 200 < s.size
 ·have E := hide (Pl.zz4 h2)
  go_enter Tryz.func99, Tryz.ntmps99
  go_wp2
  go_ret
  exact ⟨za2 (za E).symm, Below.refl _ _⟩
 have hlen := Pl.zu5 s
 have HSZ : Hid (∀ (k : Nat) t, (Pl.names s)[k]? = some t → t.size ≤ maxLen) := fun k t ht => by
  have := Pl.names_size ht
  unfold maxLen; omega
 have HBAD : Hid (∀ (k : Nat) t, (Pl.names s)[k]? = some t → Pl.zd9 t = false → Pl.zb2 s = false) := fun k t ht hb => Pl.pathB_bad ht hb
 have HGOOD : Hid ((∀ (j : Nat) t, (Pl.names s)[j]? = some t → Pl.zd9 t = true) → Pl.zb2 s = decide ((Pl.names s).length ≤ 6)) := fun h => Pl.pathB_good (by omega) h
 have hn := hide (yb3 s w (by omega))
 generalize Pl.names s = L at hn hlen HSZ HBAD HGOOD
 go_enter Tryz.func99, Tryz.ntmps99
 go_wp2_with fail
 refine (za hn).mono ?_
 rintro e w1 ⟨v, rfl, hown, hbel⟩
 rcases hown.2 with ⟨rfl, h0⟩ | ⟨g, cap, cur, rfl, hgb, hg, hcap, hm, hsz, htk⟩
 ·obtain rfl : L = [] := List.eq_nil_of_length_eq_zero h0
  have E := hide (HGOOD.out (fun j t h => by simp at h))
  clear hown hn HGOOD HBAD HSZ
  go_wp2
  go_loop [4] (fun i => i = .int .i64 0) (fun _ => 0)
  case atStart => rfl
  case round =>
   subst hrel
   go_wp2
   go_ret
   exact ⟨za2 (by rw [za E]; rfl), hbel⟩
 ·have hcell : ∀ (k : Nat) t, L[k]? = some t → w1.cell? ⟨g, k, none⟩ = some (.string t) := by
   intro k t ht
   have hk := (List.getElem?_eq_some_iff.1 ht).1
   rw [cell_of_row w1 g k cur 9 (0, 0) hg]
   have h1 : (cur.toList.take (L.length * 1))[k]? = (L.map Value.string)[k]? := by rw [htk]
   rw [List.getElem?_take_of_lt (by omega), List.getElem?_map, ht] at h1
   simpa using h1
  have HC := hide hcell
  clear hcell hown hn hg htk hsz
  have hm2 := hm
  unfold maxLen at hm2
  go_wp2
  go_loop [4] (fun i => ∃ k : Nat, k ≤ L.length ∧ i = .int .i64 (k : Int) ∧ Hid (∀ (j : Nat) t, j < k → L[j]? = some t → Pl.zd9 t = true)) (fun i => L.length - (intOf i).toNat)
  case atStart => exact ⟨0, Nat.zero_le _, rfl, fun j t h => absurd h (by omega)⟩
  case round =>
   obtain ⟨k, hk, rfl, HA⟩ := hrel
   by_cases hlt : k < L.length
   ·obtain ⟨t, ht⟩ : ∃ t, L[k]? = some t := ⟨_, List.getElem?_eq_getElem hlt⟩
    have hc := HC.out k t ht
    have hts := HSZ.out k t ht
    cases hb : Pl.zd9 t
    ·have E := hide (HBAD.out k t ht hb)
     have HB := hide hb
     clear ht hb
     go_wp2_with (go_at_call 109; refine (WName.zb8 t _ hts).mono ?_; rw [za HB]; rintro e w' ⟨rfl, hw⟩; obtain rfl := hw.symm)
     go_ret
     exact ⟨za2 (za E).symm, hbel⟩
    ·have HB := hide hb
     have HA2 : Hid (∀ (j : Nat) t, j < k + 1 → L[j]? = some t → Pl.zd9 t = true) := fun j t' hj h' => by
      rcases Nat.lt_succ_iff_lt_or_eq.1 hj with h'' | rfl
      ·exact HA.out j t' h'' h'
      ·rw [ht] at h'; cases h'; exact hb
     clear ht hb HA
     go_wp2_with (go_at_call 109; refine (WName.zb8 t _ hts).mono ?_; rw [za HB]; rintro e w' ⟨rfl, hw⟩; obtain rfl := hw.symm)
     go_round
     case rel => exact ⟨k + 1, by omega, by go_num, HA2⟩
     case measure => simp [intOf]; omega
   ·have E := hide (HGOOD.out (fun j t h => HA.out j t (by have := (List.getElem?_eq_some_iff.1 h).1; omega) h))
    clear HA
    by_cases h6 : L.length ≤ 6
    ·have t6 : (L.length : Int) ≤ 6 := by omega
     go_wp2
     go_ret
     exact ⟨za2 (by rw [za E]; simp [h6]), hbel⟩
    ·have t6 : ¬ (L.length : Int) ≤ 6 := by omega
     go_wp2
     go_ret
     exact ⟨za2 (by rw [za E]; simp [h6]), hbel⟩
end zf3
end Go.Proofs.YtioildojmckepaaGreatDoor

namespace Go.Proofs.YtioildojmckepaaGreatDoor
open Go.RowKit
namespace zf3
theorem right_one (s : ByteArray) (w : World) (hs : s.size ≤ 1048576) :
  Calls Tryz.prog 99 #[.string s] w fun e w' => e = .returned (.bool (Pl.zb2 s)) ∧ Below w.heap.size w w' := ze6 s w (by unfold maxLen; omega)
end zf3
end Go.Proofs.YtioildojmckepaaGreatDoor

