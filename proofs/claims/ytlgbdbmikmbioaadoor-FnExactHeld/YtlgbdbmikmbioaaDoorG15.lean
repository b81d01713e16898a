/- Several texts of one claim in one file: MapNv, WWords, WName, MemTexts. -/
import Derived.Test.YtlgbdbmikmbioaaDoorG14
import Derived.Test.YtlgbdbmikmbioaaDoorG05
import Derived.Test.YtlgbdbmikmbioaaDoorG01
import Derived.Test.YtlgbdbmikmbioaaDoorProg
import Derived.WalkSpells
import Derived.Lib.OthersKept
import Derived.Laws.RangeAny
import Derived.Test.YtlgbdbmikmbioaaDoorPlain
import Derived.WalkKit
import Derived.Deep.Draws
/- A map from numbers to nests: what it reads as. -/
namespace Go.Proofs.YtlgbdbmikmbioaaDoor
open Go.RowKit Go.Maps
namespace Pl
/-- A nest of the program as it lies: its map, how many layers, and where they lie. -/
structure Nv where
  m : Option Nat
  n : Nat
  a : Option Addr
  cap : Nat
def Nv.val (x : Nv) : Value := .agg #[.map x.m, .int .i64 (x.n : Int), .slice x.a x.n x.cap]
def vals (E : List (Int × Nv)) : List (Int × Value) := E.map (fun x => (x.1, x.2.val))
def getN (E : List (Int × Nv)) (d : Int) : Nv := match E.find? (fun x => decide (x.1 = d)) with | some x => x.2 | none => ⟨none, 0, none, 0⟩
theorem vals_ids (E : List (Int × Nv)) : (vals E).map (·.1) = E.map (·.1) := by simp [vals, List.map_map]
theorem vals_apart {E : List (Int × Nv)} (h : E.Pairwise (fun a b => a.1 ≠ b.1)) : (vals E).Pairwise (fun a b => a.1 ≠ b.1) := by
  unfold vals
  rw [List.pairwise_map]
  exact h
theorem get_vals (E : List (Int × Nv)) (d : Int) : MapI.getV (vals E) d (Nv.val ⟨none, 0, none, 0⟩) = (getN E d).val := by
  unfold MapI.getV getN vals
  rw [List.find?_map]
  have e : ((fun n : Int × Value => decide (n.1 = d)) ∘ fun x : Int × Nv => (x.1, x.2.val)) = fun x => decide (x.1 = d) := rfl
  rw [e]
  cases E.find? (fun x => decide (x.1 = d)) <;> rfl
theorem look_vals {E : List (Int × Nv)} (h : E.Pairwise (fun a b => a.1 ≠ b.1)) (d : Int) : Maps.has (MapI.mapOf (vals E)) (MapI.key d) = decide (d ∈ E.map (·.1)) ∧ (MapI.mapOf (vals E)).atKey (MapI.key d) (MapI.dat (Nv.val ⟨none, 0, none, 0⟩)) = MapI.dat (.agg #[.map (getN E d).m, .int .i64 ((getN E d).n : Int), .slice (getN E d).a (getN E d).n (getN E d).cap]) := by
  have h1 := MapI.look (vals_apart h) d (Nv.val ⟨none, 0, none, 0⟩)
  rw [vals_ids, get_vals] at h1
  exact h1
theorem zeroNv (w : World) : (zeroValue 96).run Tryd.prog w = .ok (Nv.val ⟨none, 0, none, 0⟩) w := by kernel_rfl
end Pl
end Go.Proofs.YtlgbdbmikmbioaaDoor

/- The walk of the program's wordsOf: a text ranged over rune by rune, its pieces in a row of the call's own. -/
namespace Go.Proofs.YtlgbdbmikmbioaaDoor
open Go.RowKit
namespace Pl
theorem get_ge (s : ByteArray) (k : Nat) (h : k < s.size) : s.get! k = s[k] := by
  simp [ByteArray.get!, getElem!_pos, h]; rfl
/-- A rune at a byte that is no slash is none, and no slash lies in its bytes. -/
theorem rune_other (s : ByteArray) (pos : Nat) (h : pos < s.size) (hb : s[pos].toNat ≠ 47) :
    ((Utf8.decode s pos).1 ≠ 47) ∧ 1 ≤ (Utf8.decode s pos).2 ∧ pos + (Utf8.decode s pos).2 ≤ s.size ∧ ∀ j (hj : j < s.size), pos ≤ j → j < pos + (Utf8.decode s pos).2 → s[j].toNat ≠ 47 := by
  by_cases ha : s[pos].toNat < 128
  · rw [decode_ascii s pos h ha]
    refine ⟨hb, Nat.le_refl _, h, fun j hj h1 h2 => ?_⟩
    obtain rfl : j = pos := by simp at h2; omega
    exact hb
  · have hh := decode_high s pos h (by omega)
    refine ⟨by omega, hh.2, ?_⟩
    have hg := get_ge s
    have key : pos + (Utf8.decode s pos).2 ≤ s.size ∧ ∀ k, 1 ≤ k → k < (Utf8.decode s pos).2 → (s.get! (pos + k)).toNat / 64 = 2 := by
      have h0 : s.get! (pos + 0) = s[pos] := hg pos h
      simp only [Utf8.decode, h0, ha, if_false]
      repeat' split
      all_goals simp_all
      all_goals first
        | omega
        | (refine ⟨by omega, fun k h1 h2 => ?_⟩
           rcases (show k = 1 ∨ k = 2 ∨ k = 3 by omega) with rfl | rfl | rfl <;> first | omega | (simp_all; done))
    refine ⟨key.1, fun j hj h1 h2 => ?_⟩
    by_cases he : j = pos
    · subst he; exact hb
    · have := key.2 (j - pos) (by omega) (by omega)
      rw [Nat.add_sub_cancel' h1, hg j hj] at this
      omega
theorem cutF_over {s : ByteArray} {fr : Nat} : ∀ n k, k + n ≤ s.size → (∀ j (hj : j < s.size), k ≤ j → j < k + n → s[j].toNat ≠ 47) → cutF s 47 (s.size - k) fr k = cutF s 47 (s.size - (k + n)) fr (k + n) := by
  intro n
  induction n with
  | zero => intro k _ _; rfl
  | succ n ih =>
    intro k hk h
    have hlt : k < s.size := by omega
    have hf : s.size - k = s.size - (k + 1) + 1 := by omega
    rw [hf, cutF_miss hlt (h k hlt (Nat.le_refl _) (by omega)), ih (k + 1) (by omega) (fun j hj h1 h2 => h j hj (by omega) (by omega))]
    have e : k + 1 + n = k + (n + 1) := by omega
    rw [e]
end Pl
namespace Mem
theorem own_iterAt {w : World} {B e size n : Nat} {v : Value} {xs : List Value} {k : Nat} {s : ByteArray} {pos : Nat} (h : w.ownsRow B e size v n xs) (hk : w.heap[k]? = some (.stringIter s pos)) (pos' : Nat) : (w.iterAt k s pos').ownsRow B e size v n xs := by
  refine ⟨h.1, ?_⟩
  rcases h.2 with h0 | ⟨g, cap, cur, hv, hb, hg, rest⟩
  · exact .inl h0
  · refine .inr ⟨g, cap, cur, hv, hb, ?_, rest⟩
    rw [Lib.iterAt_other _ _ _ _ _ (fun e => by subst e; rw [hk] at hg; cases hg)]
    exact hg
theorem own_no_iter {w : World} {B e size n : Nat} {v : Value} {xs : List Value} {k : Nat} {s : ByteArray} {pos : Nat} (h : w.ownsRow B e size v n xs) (hk : w.heap[k]? = some (.stringIter s pos)) : some k ≠ v.ownBlock := by
  rcases h.2 with ⟨rfl, _⟩ | ⟨g, cap, cur, rfl, hb, hg, rest⟩
  · simp [Value.ownBlock]
  · intro e
    simp only [Value.ownBlock, Option.some.injEq] at e
    subst e
    rw [hk] at hg
    cases hg
end Mem
namespace WWords
theorem infoS : (Tryd.prog.info? 9).map (fun i => (i.zero, i.size, i.bytes)) = some (some (.string ⟨#[]⟩), 1, 16) := by kernel_rfl

set_option maxRecDepth 100000 in
set_option maxHeartbeats 400000 in
theorem any (s : ByteArray) (w : World) (hs : s.size ≤ 1048576) :
    Calls Tryd.prog 76 #[.string s] w fun e w' => ∃ v, e = .returned v ∧
      w'.ownsRow w.heap.size 9 1 v (Pl.cut s 47).length ((Pl.cut s 47).map Value.string) ∧ Below w.heap.size w w' := by
  obtain ⟨i0, hi, hz0, hz1, hz2⟩ := info_parts infoS
  go_enter Tryd.func76, Tryd.ntmps76
  go_wp2
  go_loopw [3, 4] (fun v x wr => ∃ (pos fr : Nat) (L : List ByteArray), pos ≤ s.size ∧ fr ≤ pos ∧ L.length ≤ pos ∧ x = .int .i64 (fr : Int) ∧
      wr.ownsRow w.heap.size 9 1 v L.length (L.map Value.string) ∧ wr.heap[w.heap.size + 1]? = some (.stringIter s pos) ∧ Below w.heap.size w wr ∧ Hid (Pl.cut s 47 = L ++ Pl.cutF s 47 (s.size - pos) fr pos)) (fun _ _ wr => s.size - wr.iterPos (w.heap.size + 1))
  case atStart =>
    refine ⟨0, 0, [], by omega, by omega, by simp, rfl, (World.ownsRow_made _ _ 0 (Nat.le_refl _) (Nat.zero_le _) rfl).alloc _, ?_, ((Below.refl _ _).alloc (Nat.le_refl _) _).alloc (by simp) _, rfl⟩
    have := World.iter_heap (w.alloc (.cells #[] 9)) s 0
    simpa using this
  case round =>
    obtain ⟨pos, fr, L, hk, hfr, hL, rfl, hown, hit, hbel, H⟩ := hrel
    have hb1 := hbel.size
    have hsz : w.heap.size + 1 < wr.heap.size := (Array.getElem?_eq_some_iff.1 hit).1
    have hip : wr.iterPos (w.heap.size + 1) = pos := by simp only [World.iterPos, hit]
    by_cases hlt : pos < s.size
    · by_cases hq : s[pos].toNat = 47
      · have ha : s[pos].toNat < 128 := by omega
        have hnx : ∀ ty, (Instr.next (.pointer (some ⟨w.heap.size + 1, 0, none⟩)) true ty).run Tryd.prog wr = .ok (.tuple #[.bool true, .int .i64 pos, .int .i32 47]) (wr.iterAt (w.heap.size + 1) s (pos + 1)) := fun ty => by
          rw [Lib.run_next_ascii_at wr (w.heap.size + 1) s pos ty hit hlt ha, hq]; rfl
        have hf : s.size - pos = s.size - (pos + 1) + 1 := by omega
        have H2 : Hid (Pl.cut s 47 = (L ++ [s.extract fr pos]) ++ Pl.cutF s 47 (s.size - (pos + 1)) (pos + 1) (pos + 1)) := by
          show _ = _
          rw [H.out, hf, Pl.cutF_hit hlt hq]; simp
        have hown2 := Mem.own_iterAt hown hit (pos + 1)
        have hit2 := Lib.iterAt_heap wr (w.heap.size + 1) s pos (pos + 1) hit
        have hbel2 := Lib.below_iterAt hbel (k := w.heap.size + 1) (by omega) s (pos + 1)
        have hsz2 : Hid ((wr.iterAt (w.heap.size + 1) s (pos + 1)).heap.size = wr.heap.size) := Lib.iterAt_size _ _ _ _
        have hne := Mem.own_no_iter hown2 hit2
        generalize wr.iterAt (w.heap.size + 1) s (pos + 1) = w1 at hnx hown2 hit2 hbel2 hsz2
        have t1 : (0 : Int) ≤ (fr : Int) := by omega
        have t2 : (fr : Int) ≤ (pos : Int) := by omega
        have t3 : (pos : Int) ≤ (s.size : Int) := by omega
        clear H hf hq hown hit hbel ha
        go_wp2_with (at_builtin; refine wpList_append_own _ rfl _ _ 86 rfl w.heap.size 9 i0 (.string ⟨#[]⟩) 1 16 Tryd.underlying86 hi hz0 hz1 hz2 rfl (by decide) _ _ _ rfl (hown2.alloc _) ⟨w1.heap.size, 0, none⟩ 1 1 [.string (s.extract fr pos)] rfl rfl ?c1 ?c2 ?c3 ?c4 ?c5 ?_)
        case c1 => exact Mem.one_new _ _ _
        case c2 => intro u hu; simp at hu; subst hu; rfl
        case c3 => unfold maxLen; omega
        case c4 => omega
        case c5 => have := hsz2.out; simp; omega
        · intro v' w2 hown' hgrow _
          have hsz2 := hsz2.out
          have hbel' := Mem.below_append hbel2 (Nat.le_refl _) hown2 hgrow
          have hown3 : w2.ownsRow w.heap.size 9 1 v' (L ++ [s.extract fr pos]).length ((L ++ [s.extract fr pos]).map Value.string) := by simpa using hown'
          have hit3 : w2.heap[w.heap.size + 1]? = some (.stringIter s (pos + 1)) :=
            (hgrow.block (w.heap.size + 1) (by simp; omega) hne).trans ((Below.heap_alloc _ _ _ (by omega)).trans hit2)
          have hip3 : w2.iterPos (w.heap.size + 1) = pos + 1 := by simp only [World.iterPos, hit3]
          clear hgrow hown2 hbel2 hown' hnx hit2
          go_wp2
          go_roundw
          case rel => exact ⟨pos + 1, pos + 1, L ++ [s.extract fr pos], by omega, by omega, by simp; omega, by go_num, hown3, hit3, hbel', H2⟩
          case measure => rw [hip3, hip]; omega
      · obtain ⟨r1, r2, r3, r4⟩ := Pl.rune_other s pos hlt hq
        have hnx : ∀ ty, (Instr.next (.pointer (some ⟨w.heap.size + 1, 0, none⟩)) true ty).run Tryd.prog wr = .ok (.tuple #[.bool true, .int .i64 pos, .int .i32 (Utf8.decode s pos).1]) (wr.iterAt (w.heap.size + 1) s (pos + (Utf8.decode s pos).2)) := fun ty =>
          Lib.run_next_any_at wr (w.heap.size + 1) s pos ty hit hlt
        have H2 : Hid (Pl.cut s 47 = L ++ Pl.cutF s 47 (s.size - (pos + (Utf8.decode s pos).2)) fr (pos + (Utf8.decode s pos).2)) := by
          show _ = _
          rw [H.out, Pl.cutF_over _ pos r3 r4]
        have hown2 := Mem.own_iterAt hown hit (pos + (Utf8.decode s pos).2)
        have hit2 := Lib.iterAt_heap wr (w.heap.size + 1) s pos (pos + (Utf8.decode s pos).2) hit
        have hbel2 := Lib.below_iterAt hbel (k := w.heap.size + 1) (by omega) s (pos + (Utf8.decode s pos).2)
        have hip2 : (wr.iterAt (w.heap.size + 1) s (pos + (Utf8.decode s pos).2)).iterPos (w.heap.size + 1) = pos + (Utf8.decode s pos).2 := by simp only [World.iterPos, hit2]
        have t4 : (((Utf8.decode s pos).1 : Int) == 47) = false := by rw [beq_eq_false_iff_ne]; omega
        generalize hD : (Utf8.decode s pos).2 = n at *
        generalize (Utf8.decode s pos).1 = r at *
        generalize wr.iterAt (w.heap.size + 1) s (pos + n) = w1 at *
        clear H hq hown hit hbel r4 hD r1
        go_wp2
        go_roundw
        case rel => exact ⟨pos + n, fr, L, r3, by omega, by omega, rfl, hown2, hit2, hbel2, H2⟩
        case measure => rw [hip2, hip]; omega
    · obtain rfl : pos = s.size := by omega
      have hnx : ∀ ty, (Instr.next (.pointer (some ⟨w.heap.size + 1, 0, none⟩)) true ty).run Tryd.prog wr = .ok (.tuple #[.bool false]) wr := fun ty => Lib.run_next_end_at wr (w.heap.size + 1) s s.size ty hit hlt
      have H2 : Hid (Pl.cut s 47 = L ++ [s.extract fr s.size]) := by
        show _ = _
        rw [H.out, Nat.sub_self]; rfl
      have t1 : (0 : Int) ≤ (fr : Int) := by omega
      have t2 : (fr : Int) ≤ (s.size : Int) := by omega
      clear H
      go_wp2_with (at_builtin; refine wpList_append_own _ rfl _ _ 86 rfl w.heap.size 9 i0 (.string ⟨#[]⟩) 1 16 Tryd.underlying86 hi hz0 hz1 hz2 rfl (by decide) _ _ _ rfl (hown.alloc _) ⟨wr.heap.size, 0, none⟩ 1 1 [.string (s.extract fr s.size)] rfl rfl ?c1 ?c2 ?c3 ?c4 ?c5 ?_)
      case c1 => exact Mem.one_new _ _ _
      case c2 => intro u hu; simp at hu; subst hu; rfl
      case c3 => unfold maxLen; omega
      case c4 => omega
      case c5 => simp; omega
      · intro v' w2 hown' hgrow _
        have hbel' := Mem.below_append hbel (Nat.le_refl _) hown hgrow
        have hown2 : w2.ownsRow w.heap.size 9 1 v' (Pl.cut s 47).length ((Pl.cut s 47).map Value.string) := by rw [H2.out]; simpa using hown'
        clear hgrow hown hbel hown'
        go_wp2
        go_ret
        exact ⟨_, rfl, hown2, hbel'⟩
end WWords
end Go.Proofs.YtlgbdbmikmbioaaDoor

/- The walks of NameRight, the program's and the specification's: both answer whether the text is a name. -/
namespace Go.Proofs.YtlgbdbmikmbioaaDoor
open Go.RowKit
namespace WName

set_option maxHeartbeats 400000 in
theorem spec_any (s : ByteArray) (w : World) (hs : s.size ≤ maxLen) :
    Calls Tryd.prog 51 #[.string s] w fun e w' => e = .returned (.bool (Pl.nameB s)) ∧ w' = w := by
  unfold maxLen at hs
  by_cases h1 : s.size < 1
  · have e0 := hide (Pl.nameB_short h1)
    go_enter Tryd.func51, Tryd.ntmps51
    go_wp2
    go_ret
    exact ⟨ret_bool (unhide e0).symm, rfl⟩
  by_cases h2 : 20 < s.size
  · have e0 := hide (Pl.nameB_long h2)
    go_enter Tryd.func51, Tryd.ntmps51
    go_wp2
    go_ret
    exact ⟨ret_bool (unhide e0).symm, rfl⟩
  go_enter Tryd.func51, Tryd.ntmps51
  go_wp2
  go_loop [3] (fun i => ∃ k : Nat, k ≤ s.size ∧ i = .int .i64 k ∧ Hid (∀ j, j < k → Pl.okAt j ((s.data.toList.getD j 0).toNat))) (fun i => s.size - (intOf i).toNat)
  case atStart => exact ⟨0, Nat.zero_le _, rfl, fun j hj => absurd hj (by omega)⟩
  case round =>
    obtain ⟨k, hk, rfl, hok⟩ := hrel
    by_cases hlt : k < s.size
    · by_cases hk0 : k = 0
      · subst hk0
        have okc : ∀ n : Nat, Pl.okAt 0 n ↔ (97 ≤ n ∧ n ≤ 122) := fun n => by unfold Pl.okAt; omega
        have OK := hide okc
        clear okc
        rcases Pl.kinds (s[0].toNat : Int) with ⟨a1, a2⟩ | ⟨a1, a2, a3, a4⟩ | ⟨a1, a2, a3, a4⟩ | ⟨a1, a2, a3, a4⟩ | ⟨a1, a2, a3⟩ | ⟨a1, a2, a3, a4, a5⟩
        · go_wp2
          go_round
          case rel => exact ⟨1, by omega, rfl, Pl.ok_step hok.out hlt ((unhide OK _).2 (by omega))⟩
          case measure => simp [intOf]; omega
        all_goals
          go_wp2
          go_ret
          exact ⟨ret_bool (Pl.nameB_bad 0 hlt (by rw [unhide OK]; omega)).symm, rfl⟩
      · have hkb : ((k : Int) == 0) = false := by simp; omega
        have okc : ∀ n : Nat, Pl.okAt k n ↔ (97 ≤ n ∧ n ≤ 122) ∨ (48 ≤ n ∧ n ≤ 57) ∨ n = 95 := fun n => by unfold Pl.okAt; omega
        have OK := hide okc
        clear okc
        rcases Pl.kinds (s[k].toNat : Int) with ⟨a1, a2⟩ | ⟨a1, a2, a3, a4⟩ | ⟨a1, a2, a3, a4⟩ | ⟨a1, a2, a3, a4⟩ | ⟨a1, a2, a3⟩ | ⟨a1, a2, a3, a4, a5⟩
        · go_wp2
          go_round
          case rel => exact ⟨k + 1, by omega, by go_num, Pl.ok_step hok.out hlt ((unhide OK _).2 (by omega))⟩
          case measure => simp [intOf]; omega
        · go_wp2
          go_round
          case rel => exact ⟨k + 1, by omega, by go_num, Pl.ok_step hok.out hlt ((unhide OK _).2 (by omega))⟩
          case measure => simp [intOf]; omega
        · go_wp2
          go_ret
          exact ⟨ret_bool (Pl.nameB_bad k hlt (by rw [unhide OK]; simp at a4; omega)).symm, rfl⟩
        · go_wp2
          go_round
          case rel => exact ⟨k + 1, by omega, by go_num, Pl.ok_step hok.out hlt ((unhide OK _).2 (by simp at a4; omega))⟩
          case measure => simp [intOf]; omega
        all_goals
          go_wp2
          go_ret
          exact ⟨ret_bool (Pl.nameB_bad k hlt (by rw [unhide OK]; omega)).symm, rfl⟩
    · have e0 : Pl.nameB s = true := Pl.nameB_good h1 h2 (fun j hj => hok.out j (by omega))
      have E0 := hide e0
      clear e0
      go_wp2
      go_ret
      exact ⟨ret_bool (unhide E0).symm, rfl⟩

set_option maxHeartbeats 400000 in
theorem impl_any (s : ByteArray) (w : World) (hs : s.size ≤ maxLen) :
    Calls Tryd.prog 77 #[.string s] w fun e w' => e = .returned (.bool (Pl.nameB s)) ∧ w' = w := by
  unfold maxLen at hs
  by_cases h1 : s.size < 1
  · have e0 := hide (Pl.nameB_short h1)
    go_enter Tryd.func77, Tryd.ntmps77
    go_wp2
    go_ret
    exact ⟨ret_bool (unhide e0).symm, rfl⟩
  by_cases h2 : 20 < s.size
  · have e0 := hide (Pl.nameB_long h2)
    go_enter Tryd.func77, Tryd.ntmps77
    go_wp2
    go_ret
    exact ⟨ret_bool (unhide e0).symm, rfl⟩
  have hp : 0 < s.size := by omega
  by_cases hl : 97 ≤ (s[0].toNat : Int) ∧ (s[0].toNat : Int) ≤ 122
  · obtain ⟨l1, l2⟩ := hl
    have H0 : Hid (Pl.okAt 0 s[0].toNat) := Or.inl (by omega)
    go_enter Tryd.func77, Tryd.ntmps77
    go_wp2
    go_loop [21] (fun i => ∃ k : Nat, k ≤ s.size ∧ i = .int .i64 k ∧ Hid (∀ j, j < k → Pl.okAt j ((s.data.toList.getD j 0).toNat))) (fun i => s.size - (intOf i).toNat)
    case atStart => exact ⟨0, Nat.zero_le _, rfl, fun j hj => absurd hj (by omega)⟩
    case round =>
      obtain ⟨k, hk, rfl, hok⟩ := hrel
      by_cases hlt : k < s.size
      · have hstep : Hid ((97 ≤ s[k].toNat ∧ s[k].toNat ≤ 122) ∨ (48 ≤ s[k].toNat ∧ s[k].toNat ≤ 57) ∨ s[k].toNat = 95 → ∀ j, j < k + 1 → Pl.okAt j ((s.data.toList.getD j 0).toNat)) := by
          intro ho
          refine Pl.ok_step hok.out hlt ?_
          by_cases hk0 : k = 0
          · subst hk0; exact H0
          · unfold Pl.okAt; omega
        have hbad : Hid (¬ ((97 ≤ s[k].toNat ∧ s[k].toNat ≤ 122) ∨ (48 ≤ s[k].toNat ∧ s[k].toNat ≤ 57) ∨ s[k].toNat = 95) → Pl.nameB s = false) := by
          intro hn
          exact Pl.nameB_bad k hlt (by unfold Pl.okAt; omega)
        clear l1 l2 H0 hok
        rcases Pl.kinds (s[k].toNat : Int) with ⟨a1, a2⟩ | ⟨a1, a2, a3, a4⟩ | ⟨a1, a2, a3, a4⟩ | ⟨a1, a2, a3, a4⟩ | ⟨a1, a2, a3⟩ | ⟨a1, a2, a3, a4, a5⟩
        · go_wp2
          go_round
          case rel => exact ⟨k + 1, by omega, by go_num, hstep.out (by omega)⟩
          case measure => simp [intOf]; omega
        · go_wp2
          go_round
          case rel => exact ⟨k + 1, by omega, by go_num, hstep.out (by omega)⟩
          case measure => simp [intOf]; omega
        · go_wp2
          go_ret
          exact ⟨ret_bool (hbad.out (by simp at a4; omega)).symm, rfl⟩
        · go_wp2
          go_round
          case rel => exact ⟨k + 1, by omega, by go_num, hstep.out (by simp at a4; omega)⟩
          case measure => simp [intOf]; omega
        all_goals
          go_wp2
          go_ret
          exact ⟨ret_bool (hbad.out (by omega)).symm, rfl⟩
      · have e0 : Pl.nameB s = true := Pl.nameB_good h1 h2 (fun j hj => hok.out j (by omega))
        have E0 := hide e0
        clear e0
        go_wp2
        go_ret
        exact ⟨ret_bool (unhide E0).symm, rfl⟩
  · have e0 : Pl.nameB s = false := Pl.nameB_bad 0 hp (by unfold Pl.okAt; omega)
    have E0 := hide e0
    clear e0
    by_cases g1 : 97 ≤ (s[0].toNat : Int)
    · have g2 : ¬ (s[0].toNat : Int) ≤ 122 := by omega
      clear hl
      go_enter Tryd.func77, Tryd.ntmps77
      go_wp2
      go_ret
      exact ⟨ret_bool (unhide E0).symm, rfl⟩
    · clear hl
      go_enter Tryd.func77, Tryd.ntmps77
      go_wp2
      go_ret
      exact ⟨ret_bool (unhide E0).symm, rfl⟩
end WName
end Go.Proofs.YtlgbdbmikmbioaaDoor

/- Rows of texts: of the call's own, handed on, cut, and kept behind calls. No program in sight. -/
namespace Go.Proofs.YtlgbdbmikmbioaaDoor
open Go.RowKit
namespace Mem
/-- A row of texts of the call's own: nil, or its cells. -/
theorem texts {w : World} {B T : Nat} {v : Value} {L : List ByteArray} (h : w.ownsRow B T 1 v L.length (L.map Value.string)) :
    (v = .slice none 0 0 ∧ L = []) ∨ ∃ g cap, v = .slice (some ⟨g, 0, none⟩) L.length cap ∧ L.length ≤ cap ∧ cap ≤ maxLen ∧ B ≤ g ∧ g < w.heap.size ∧ ∀ (k : Nat) t, L[k]? = some t → w.cell? ⟨g, k, none⟩ = some (.string t) := by
  rcases h.2 with ⟨rfl, h0⟩ | ⟨g, cap, cur, rfl, hgb, hg, hcap, hm, hsz, htk⟩
  · exact .inl ⟨rfl, List.eq_nil_of_length_eq_zero h0⟩
  · refine .inr ⟨g, cap, rfl, hcap, hm, hgb, (Array.getElem?_eq_some_iff.1 hg).1, fun k t ht => ?_⟩
    have hk := (List.getElem?_eq_some_iff.1 ht).1
    rw [cell_of_row w g k cur T (0, 0) hg]
    have h1 : (cur.toList.take (L.length * 1))[k]? = (L.map Value.string)[k]? := by rw [htk]
    rw [List.getElem?_take_of_lt (by omega), List.getElem?_map, ht] at h1
    simpa using h1
theorem one_str (t : ByteArray) : ∀ u ∈ [Value.string t], u.oneCell' = true := by
  intro u hu; simp at hu; subst hu; rfl
/-- A slice of texts: nil, or its cells (below the heap's end). -/
def isTexts (w : World) (v : Value) (ts : List ByteArray) : Prop :=
  (v = .slice none 0 0 ∧ ts = []) ∨ ∃ b o cap, v = .slice (some ⟨b, o, none⟩) ts.length cap ∧ b < w.heap.size ∧ ∀ (j : Nat) t, ts[j]? = some t → w.cell? ⟨b, o + j, none⟩ = some (.string t)
theorem own_texts {w : World} {B T : Nat} {v : Value} {L : List ByteArray} (h : w.ownsRow B T 1 v L.length (L.map Value.string)) : isTexts w v L := by
  rcases texts h with h | ⟨g, cap, h1, h2, h3, h4, h5, h6⟩
  · exact .inl h
  · exact .inr ⟨g, 0, cap, h1, h5, fun j t ht => by rw [Nat.zero_add]; exact h6 j t ht⟩
theorem take_texts {w : World} {g cap : Nat} {L : List ByteArray} (hg : g < w.heap.size) (hc : ∀ (k : Nat) t, L[k]? = some t → w.cell? ⟨g, k, none⟩ = some (.string t)) (n : Nat) (hn : n ≤ L.length) :
    isTexts w (.slice (some ⟨g, 0, none⟩) n cap) (L.take n) := by
  refine .inr ⟨g, 0, cap, by rw [List.length_take, Nat.min_eq_left hn], hg, fun j t ht => ?_⟩
  rw [Nat.zero_add]
  refine hc j t ?_
  have hj : j < n := by have := (List.getElem?_eq_some_iff.1 ht).1; rw [List.length_take] at this; omega
  rwa [List.getElem?_take_of_lt hj] at ht
theorem drop_texts {w : World} {g cap : Nat} {L : List ByteArray} (hg : g < w.heap.size) (hc : ∀ (k : Nat) t, L[k]? = some t → w.cell? ⟨g, k, none⟩ = some (.string t)) (n : Nat) :
    isTexts w (.slice (some ⟨g, n, none⟩) (L.length - n) cap) (L.drop n) := by
  refine .inr ⟨g, n, cap, by rw [List.length_drop], hg, fun j t ht => ?_⟩
  refine hc (n + j) t ?_
  rwa [List.getElem?_drop] at ht
theorem own_below {w w' : World} {B B' e size n : Nat} {v : Value} {xs : List Value} (h : w.ownsRow B e size v n xs) (hb : Below B' w w') (hB : ∀ k, v.ownBlock = some k → k < B') : w'.ownsRow B e size v n xs := by
  refine ⟨h.1, ?_⟩
  rcases h.2 with h0 | ⟨g, cap, cur, rfl, hgb, hg, rest⟩
  · exact .inl h0
  · exact .inr ⟨g, cap, cur, rfl, hgb, (hb.block g (hB g rfl)).trans hg, rest⟩
theorem own_call {w w' : World} {B e size n : Nat} {v : Value} {xs : List Value} (h : w.ownsRow B e size v n xs) (hb : Below w.heap.size w w') : w'.ownsRow B e size v n xs :=
  own_below h hb (fun k hk => (h.lt k hk).2)
theorem texts_call {w w' : World} {v : Value} {ts : List ByteArray} (h : isTexts w v ts) (hb : Below w.heap.size w w') : isTexts w' v ts := by
  rcases h with h | ⟨b, o, cap, rfl, hlt, hc⟩
  · exact .inl h
  · exact .inr ⟨b, o, cap, rfl, Nat.lt_of_lt_of_le hlt hb.size, fun j t ht => (hb.cell (p := ⟨b, o + j, none⟩) hlt).trans (hc j t ht)⟩
theorem below_drewN {B : Nat} {a w : World} (h : Below B a w) (q : Nat) : Below B a (w.drewN q) := h.trans ⟨rfl, rfl, rfl, Nat.le_refl _, fun _ _ => rfl⟩
/-- A slice of texts: its shape, and its cells in whatever world comes behind. -/
theorem texts_shape {w : World} {v : Value} {ts : List ByteArray} (h : isTexts w v ts) : ∃ a cap, v = .slice a ts.length cap := by
  rcases h with ⟨rfl, rfl⟩ | ⟨b, o, cap, rfl, _⟩ <;> exact ⟨_, _, rfl⟩
theorem own_textsN {w : World} {B T n : Nat} {v : Value} {L : List ByteArray} (h : w.ownsRow B T 1 v n (L.map Value.string)) (hn : L.length = n) : isTexts w v L := by
  subst hn; exact own_texts h
end Mem
end Go.Proofs.YtlgbdbmikmbioaaDoor

