import Derived.Test.YtpggbphcbcogdaaGreatDoorPlainPath
import Derived.Test.YtpggbphcbcogdaaGreatDoorMem
import Derived.Test.YtpggbphcbcogdaaGreatDoorProg
import Derived.WalkSpells
import Derived.Lib.OthersKept
import Derived.Laws.RangeAny
namespace Go.Proofs.YtpggbphcbcogdaaGreatDoor
open Go.RowKit
namespace Pl
theorem get_ge (s : ByteArray) (k : Nat) (h : k < s.size) : s.get! k = s[k] := by
  simp [ByteArray.get!, getElem!_pos, h]; rfl
theorem rune_other (s : ByteArray) (pos : Nat) (h : pos < s.size) (hb : s[pos].toNat ≠ 47) :
    ((Utf8.decode s pos).1 ≠ 47) ∧ 1 ≤ (Utf8.decode s pos).2 ∧ pos + (Utf8.decode s pos).2 ≤ s.size ∧ ∀ j (hj : j < s.size), pos ≤ j → j < pos + (Utf8.decode s pos).2 → s[j].toNat ≠ 47 := by
  by_cases ha : s[pos].toNat < 128
  · rw [decode_ascii s pos h ha]
    refine ⟨hb, Nat.le_refl _, h, fun j hj h1 h2 => ?_⟩
    obtain rfl : j = pos := by simp at h2; omega
    exact hb
  · have hh := decode_high s pos h (by omega)
    refine ⟨by omega, hh.2, ?_⟩
    have hg := get_ge s
    have key : pos + (Utf8.decode s pos).2 ≤ s.size ∧ ∀ k, 1 ≤ k → k < (Utf8.decode s pos).2 → (s.get! (pos + k)).toNat / 64 = 2 := by
      have h0 : s.get! (pos + 0) = s[pos] := hg pos h
      simp only [Utf8.decode, h0, ha, if_false]
      repeat' split
      all_goals simp_all
      all_goals first
        | omega
        | (refine ⟨by omega, fun k h1 h2 => ?_⟩
           rcases (show k = 1 ∨ k = 2 ∨ k = 3 by omega) with rfl | rfl | rfl <;> first | omega | (simp_all; done))
    refine ⟨key.1, fun j hj h1 h2 => ?_⟩
    by_cases he : j = pos
    · subst he; exact hb
    · have := key.2 (j - pos) (by omega) (by omega)
      rw [Nat.add_sub_cancel' h1, hg j hj] at this
      omega
theorem cutF_over {s : ByteArray} {fr : Nat} : ∀ n k, k + n ≤ s.size → (∀ j (hj : j < s.size), k ≤ j → j < k + n → s[j].toNat ≠ 47) → cutF s 47 (s.size - k) fr k = cutF s 47 (s.size - (k + n)) fr (k + n) := by
  intro n
  induction n with
  | zero => intro k _ _; rfl
  | succ n ih =>
    intro k hk h
    have hlt : k < s.size := by omega
    have hf : s.size - k = s.size - (k + 1) + 1 := by omega
    rw [hf, zu hlt (h k hlt (Nat.le_refl _) (by omega)), ih (k + 1) (by omega) (fun j hj h1 h2 => h j hj (by omega) (by omega))]
    have e : k + 1 + n = k + (n + 1) := by omega
    rw [e]
end Pl
namespace Mem
theorem own_iterAt {w : World} {B e size n : Nat} {v : Value} {xs : List Value} {k : Nat} {s : ByteArray} {pos : Nat} (h : w.ownsRow B e size v n xs) (hk : w.heap[k]? = some (.stringIter s pos)) (pos' : Nat) : (w.iterAt k s pos').ownsRow B e size v n xs := by
  refine ⟨h.1, ?_⟩
  rcases h.2 with h0 | ⟨g, cap, cur, hv, hb, hg, rest⟩
  · exact .inl h0
  · refine .inr ⟨g, cap, cur, hv, hb, ?_, rest⟩
    rw [Lib.iterAt_other _ _ _ _ _ (fun e => by subst e; rw [hk] at hg; cases hg)]
    exact hg
theorem own_no_iter {w : World} {B e size n : Nat} {v : Value} {xs : List Value} {k : Nat} {s : ByteArray} {pos : Nat} (h : w.ownsRow B e size v n xs) (hk : w.heap[k]? = some (.stringIter s pos)) : some k ≠ v.ownBlock := by
  rcases h.2 with ⟨rfl, _⟩ | ⟨g, cap, cur, rfl, hb, hg, rest⟩
  · simp [Value.ownBlock]
  · intro e
    simp only [Value.ownBlock, Option.some.injEq] at e
    subst e
    rw [hk] at hg
    cases hg
end Mem
namespace WWords
theorem zk5 : (Tryz.prog.info? 9).map (fun i => (i.zero, i.size, i.bytes)) = some (some (.string ⟨#[]⟩), 1, 16) := by kernel_rfl

set_option maxRecDepth 100000 in
set_option maxHeartbeats 400000 in
theorem any (s : ByteArray) (w : World) (hs : s.size ≤ 1048576) :
    Calls Tryz.prog 53 #[.string s] w fun e w' => ∃ v, e = .returned v ∧
      w'.ownsRow w.heap.size 9 1 v (Pl.cut s 47).length ((Pl.cut s 47).map Value.string) ∧ Below w.heap.size w w' := by
  obtain ⟨i0, hi, hz0, hz1, hz2⟩ := info_parts zk5
  go_enter Tryz.func53, Tryz.ntmps53
  go_wp2
  go_loopw [3, 4] (fun v x wr => ∃ (pos fr : Nat) (L : List ByteArray), pos ≤ s.size ∧ fr ≤ pos ∧ L.length ≤ pos ∧ x = .int .i64 (fr : Int) ∧
      wr.ownsRow w.heap.size 9 1 v L.length (L.map Value.string) ∧ wr.heap[w.heap.size + 1]? = some (.stringIter s pos) ∧ Below w.heap.size w wr ∧ Hid (Pl.cut s 47 = L ++ Pl.cutF s 47 (s.size - pos) fr pos)) (fun _ _ wr => s.size - wr.iterPos (w.heap.size + 1))
  case atStart =>
    refine ⟨0, 0, [], by omega, by omega, by simp, rfl, (World.ownsRow_made _ _ 0 (Nat.le_refl _) (Nat.zero_le _) rfl).alloc _, ?_, ((Below.refl _ _).alloc (Nat.le_refl _) _).alloc (by simp) _, rfl⟩
    have := World.iter_heap (w.alloc (.cells #[] 9)) s 0
    simpa using this
  case round =>
    obtain ⟨pos, fr, L, hk, hfr, hL, rfl, hown, hit, hbel, H⟩ := hrel
    have hb1 := hbel.size
    have hsz : w.heap.size + 1 < wr.heap.size := (Array.getElem?_eq_some_iff.1 hit).1
    have hip : wr.iterPos (w.heap.size + 1) = pos := by simp only [World.iterPos, hit]
    by_cases hlt : pos < s.size
    · by_cases hq : s[pos].toNat = 47
      · have ha : s[pos].toNat < 128 := by omega
        have hnx : ∀ ty, (Instr.next (.pointer (some ⟨w.heap.size + 1, 0, none⟩)) true ty).run Tryz.prog wr = .ok (.tuple #[.bool true, .int .i64 pos, .int .i32 47]) (wr.iterAt (w.heap.size + 1) s (pos + 1)) := fun ty => by
          rw [Lib.run_next_ascii_at wr (w.heap.size + 1) s pos ty hit hlt ha, hq]; rfl
        have hf : s.size - pos = s.size - (pos + 1) + 1 := by omega
        have H2 : Hid (Pl.cut s 47 = (L ++ [s.extract fr pos]) ++ Pl.cutF s 47 (s.size - (pos + 1)) (pos + 1) (pos + 1)) := by
          show _ = _
          rw [H.out, hf, Pl.cutF_hit hlt hq]; simp
        have hown2 := Mem.own_iterAt hown hit (pos + 1)
        have hit2 := Lib.iterAt_heap wr (w.heap.size + 1) s pos (pos + 1) hit
        have hbel2 := Lib.below_iterAt hbel (k := w.heap.size + 1) (by omega) s (pos + 1)
        have hsz2 : Hid ((wr.iterAt (w.heap.size + 1) s (pos + 1)).heap.size = wr.heap.size) := Lib.iterAt_size _ _ _ _
        have hne := Mem.own_no_iter hown2 hit2
        generalize wr.iterAt (w.heap.size + 1) s (pos + 1) = w1 at hnx hown2 hit2 hbel2 hsz2
        have t1 : (0 : Int) ≤ (fr : Int) := by omega
        have t2 : (fr : Int) ≤ (pos : Int) := by omega
        have t3 : (pos : Int) ≤ (s.size : Int) := by omega
        clear H hf hq hown hit hbel ha
        go_wp2_with (at_builtin; refine wpList_append_own _ rfl _ _ 24 rfl w.heap.size 9 i0 (.string ⟨#[]⟩) 1 16 Tryz.underlying24 hi hz0 hz1 hz2 rfl (by decide) _ _ _ rfl (hown2.alloc _) ⟨w1.heap.size, 0, none⟩ 1 1 [.string (s.extract fr pos)] rfl rfl ?c1 ?c2 ?c3 ?c4 ?c5 ?_)
        case c1 => exact Mem.zd0 _ _ _
        case c2 => intro u hu; simp at hu; subst hu; rfl
        case c3 => unfold maxLen; omega
        case c4 => omega
        case c5 => have := hsz2.out; simp; omega
        · intro v' w2 hown' hgrow _
          have hsz2 := hsz2.out
          have hbel' := Mem.ze0 hbel2 (Nat.le_refl _) hown2 hgrow
          have hown3 : w2.ownsRow w.heap.size 9 1 v' (L ++ [s.extract fr pos]).length ((L ++ [s.extract fr pos]).map Value.string) := by simpa using hown'
          have hit3 : w2.heap[w.heap.size + 1]? = some (.stringIter s (pos + 1)) :=
            (hgrow.block (w.heap.size + 1) (by simp; omega) hne).trans ((Below.heap_alloc _ _ _ (by omega)).trans hit2)
          have hip3 : w2.iterPos (w.heap.size + 1) = pos + 1 := by simp only [World.iterPos, hit3]
          clear hgrow hown2 hbel2 hown' hnx hit2
          go_wp2
          go_roundw
          case rel => exact ⟨pos + 1, pos + 1, L ++ [s.extract fr pos], by omega, by omega, by simp; omega, by go_num, hown3, hit3, hbel', H2⟩
          case measure => rw [hip3, hip]; omega
      · obtain ⟨r1, r2, r3, r4⟩ := Pl.rune_other s pos hlt hq
        have hnx : ∀ ty, (Instr.next (.pointer (some ⟨w.heap.size + 1, 0, none⟩)) true ty).run Tryz.prog wr = .ok (.tuple #[.bool true, .int .i64 pos, .int .i32 (Utf8.decode s pos).1]) (wr.iterAt (w.heap.size + 1) s (pos + (Utf8.decode s pos).2)) := fun ty =>
          Lib.run_next_any_at wr (w.heap.size + 1) s pos ty hit hlt
        have H2 : Hid (Pl.cut s 47 = L ++ Pl.cutF s 47 (s.size - (pos + (Utf8.decode s pos).2)) fr (pos + (Utf8.decode s pos).2)) := by
          show _ = _
          rw [H.out, Pl.cutF_over _ pos r3 r4]
        have hown2 := Mem.own_iterAt hown hit (pos + (Utf8.decode s pos).2)
        have hit2 := Lib.iterAt_heap wr (w.heap.size + 1) s pos (pos + (Utf8.decode s pos).2) hit
        have hbel2 := Lib.below_iterAt hbel (k := w.heap.size + 1) (by omega) s (pos + (Utf8.decode s pos).2)
        have hip2 : (wr.iterAt (w.heap.size + 1) s (pos + (Utf8.decode s pos).2)).iterPos (w.heap.size + 1) = pos + (Utf8.decode s pos).2 := by simp only [World.iterPos, hit2]
        have t4 : (((Utf8.decode s pos).1 : Int) == 47) = false := by rw [beq_eq_false_iff_ne]; omega
        generalize hD : (Utf8.decode s pos).2 = n at *
        generalize (Utf8.decode s pos).1 = r at *
        generalize wr.iterAt (w.heap.size + 1) s (pos + n) = w1 at *
        clear H hq hown hit hbel r4 hD r1
        go_wp2
        go_roundw
        case rel => exact ⟨pos + n, fr, L, r3, by omega, by omega, rfl, hown2, hit2, hbel2, H2⟩
        case measure => rw [hip2, hip]; omega
    · obtain rfl : pos = s.size := by omega
      have hnx : ∀ ty, (Instr.next (.pointer (some ⟨w.heap.size + 1, 0, none⟩)) true ty).run Tryz.prog wr = .ok (.tuple #[.bool false]) wr := fun ty => Lib.run_next_end_at wr (w.heap.size + 1) s s.size ty hit hlt
      have H2 : Hid (Pl.cut s 47 = L ++ [s.extract fr s.size]) := by
        show _ = _
        rw [H.out, Nat.sub_self]; rfl
      have t1 : (0 : Int) ≤ (fr : Int) := by omega
      have t2 : (fr : Int) ≤ (s.size : Int) := by omega
      clear H
      go_wp2_with (at_builtin; refine wpList_append_own _ rfl _ _ 24 rfl w.heap.size 9 i0 (.string ⟨#[]⟩) 1 16 Tryz.underlying24 hi hz0 hz1 hz2 rfl (by decide) _ _ _ rfl (hown.alloc _) ⟨wr.heap.size, 0, none⟩ 1 1 [.string (s.extract fr s.size)] rfl rfl ?c1 ?c2 ?c3 ?c4 ?c5 ?_)
      case c1 => exact Mem.zd0 _ _ _
      case c2 => intro u hu; simp at hu; subst hu; rfl
      case c3 => unfold maxLen; omega
      case c4 => omega
      case c5 => simp; omega
      · intro v' w2 hown' hgrow _
        have hbel' := Mem.ze0 hbel (Nat.le_refl _) hown hgrow
        have hown2 : w2.ownsRow w.heap.size 9 1 v' (Pl.cut s 47).length ((Pl.cut s 47).map Value.string) := by rw [H2.out]; simpa using hown'
        clear hgrow hown hbel hown'
        go_wp2
        go_ret
        exact ⟨_, rfl, hown2, hbel'⟩
end WWords
end Go.Proofs.YtpggbphcbcogdaaGreatDoor
