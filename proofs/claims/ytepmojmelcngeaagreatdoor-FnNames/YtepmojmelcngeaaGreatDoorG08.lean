/- Several texts of one claim in one file: MemTexts, WNames, WJoin. -/
import Derived.Test.YtepmojmelcngeaaGreatDoorMem
import Derived.Deep.Draws
import Derived.Test.YtepmojmelcngeaaGreatDoorG07
import Derived.Test.YtepmojmelcngeaaGreatDoorG02
import Derived.Test.YtepmojmelcngeaaGreatDoorProg
import Derived.WalkSpells
/- Rows of texts: of the call's own, handed on, cut, and kept behind calls. No program in sight. -/
namespace Go.Proofs.YtepmojmelcngeaaGreatDoor
open Go.RowKit
namespace Mem
/-- A row of texts of the call's own: nil, or its cells. -/
theorem texts {w : World} {B T : Nat} {v : Value} {L : List ByteArray} (h : w.ownsRow B T 1 v L.length (L.map Value.string)) :
    (v = .slice none 0 0 ∧ L = []) ∨ ∃ g cap, v = .slice (some ⟨g, 0, none⟩) L.length cap ∧ L.length ≤ cap ∧ cap ≤ maxLen ∧ B ≤ g ∧ g < w.heap.size ∧ ∀ (k : Nat) t, L[k]? = some t → w.cell? ⟨g, k, none⟩ = some (.string t) := by
  rcases h.2 with ⟨rfl, h0⟩ | ⟨g, cap, cur, rfl, hgb, hg, hcap, hm, hsz, htk⟩
  · exact .inl ⟨rfl, List.eq_nil_of_length_eq_zero h0⟩
  · refine .inr ⟨g, cap, rfl, hcap, hm, hgb, (Array.getElem?_eq_some_iff.1 hg).1, fun k t ht => ?_⟩
    have hk := (List.getElem?_eq_some_iff.1 ht).1
    rw [cell_of_row w g k cur T (0, 0) hg]
    have h1 : (cur.toList.take (L.length * 1))[k]? = (L.map Value.string)[k]? := by rw [htk]
    rw [List.getElem?_take_of_lt (by omega), List.getElem?_map, ht] at h1
    simpa using h1
theorem one_str (t : ByteArray) : ∀ u ∈ [Value.string t], u.oneCell' = true := by
  intro u hu; simp at hu; subst hu; rfl
/-- A slice of texts: nil, or its cells (below the heap's end). -/
def isTexts (w : World) (v : Value) (ts : List ByteArray) : Prop :=
  (v = .slice none 0 0 ∧ ts = []) ∨ ∃ b o cap, v = .slice (some ⟨b, o, none⟩) ts.length cap ∧ b < w.heap.size ∧ ∀ (j : Nat) t, ts[j]? = some t → w.cell? ⟨b, o + j, none⟩ = some (.string t)
theorem own_texts {w : World} {B T : Nat} {v : Value} {L : List ByteArray} (h : w.ownsRow B T 1 v L.length (L.map Value.string)) : isTexts w v L := by
  rcases texts h with h | ⟨g, cap, h1, h2, h3, h4, h5, h6⟩
  · exact .inl h
  · exact .inr ⟨g, 0, cap, h1, h5, fun j t ht => by rw [Nat.zero_add]; exact h6 j t ht⟩
theorem take_texts {w : World} {g cap : Nat} {L : List ByteArray} (hg : g < w.heap.size) (hc : ∀ (k : Nat) t, L[k]? = some t → w.cell? ⟨g, k, none⟩ = some (.string t)) (n : Nat) (hn : n ≤ L.length) :
    isTexts w (.slice (some ⟨g, 0, none⟩) n cap) (L.take n) := by
  refine .inr ⟨g, 0, cap, by rw [List.length_take, Nat.min_eq_left hn], hg, fun j t ht => ?_⟩
  rw [Nat.zero_add]
  refine hc j t ?_
  have hj : j < n := by have := (List.getElem?_eq_some_iff.1 ht).1; rw [List.length_take] at this; omega
  rwa [List.getElem?_take_of_lt hj] at ht
theorem drop_texts {w : World} {g cap : Nat} {L : List ByteArray} (hg : g < w.heap.size) (hc : ∀ (k : Nat) t, L[k]? = some t → w.cell? ⟨g, k, none⟩ = some (.string t)) (n : Nat) :
    isTexts w (.slice (some ⟨g, n, none⟩) (L.length - n) cap) (L.drop n) := by
  refine .inr ⟨g, n, cap, by rw [List.length_drop], hg, fun j t ht => ?_⟩
  refine hc (n + j) t ?_
  rwa [List.getElem?_drop] at ht
theorem own_below {w w' : World} {B B' e size n : Nat} {v : Value} {xs : List Value} (h : w.ownsRow B e size v n xs) (hb : Below B' w w') (hB : ∀ k, v.ownBlock = some k → k < B') : w'.ownsRow B e size v n xs := by
  refine ⟨h.1, ?_⟩
  rcases h.2 with h0 | ⟨g, cap, cur, rfl, hgb, hg, rest⟩
  · exact .inl h0
  · exact .inr ⟨g, cap, cur, rfl, hgb, (hb.block g (hB g rfl)).trans hg, rest⟩
theorem own_call {w w' : World} {B e size n : Nat} {v : Value} {xs : List Value} (h : w.ownsRow B e size v n xs) (hb : Below w.heap.size w w') : w'.ownsRow B e size v n xs :=
  own_below h hb (fun k hk => (h.lt k hk).2)
theorem texts_call {w w' : World} {v : Value} {ts : List ByteArray} (h : isTexts w v ts) (hb : Below w.heap.size w w') : isTexts w' v ts := by
  rcases h with h | ⟨b, o, cap, rfl, hlt, hc⟩
  · exact .inl h
  · exact .inr ⟨b, o, cap, rfl, Nat.lt_of_lt_of_le hlt hb.size, fun j t ht => (hb.cell (p := ⟨b, o + j, none⟩) hlt).trans (hc j t ht)⟩
theorem below_drewN {B : Nat} {a w : World} (h : Below B a w) (q : Nat) : Below B a (w.drewN q) := h.trans ⟨rfl, rfl, rfl, Nat.le_refl _, fun _ _ => rfl⟩
/-- A slice of texts: its shape, and its cells in whatever world comes behind. -/
theorem texts_shape {w : World} {v : Value} {ts : List ByteArray} (h : isTexts w v ts) : ∃ a cap, v = .slice a ts.length cap := by
  rcases h with ⟨rfl, rfl⟩ | ⟨b, o, cap, rfl, _⟩ <;> exact ⟨_, _, rfl⟩
theorem own_textsN {w : World} {B T n : Nat} {v : Value} {L : List ByteArray} (h : w.ownsRow B T 1 v n (L.map Value.string)) (hn : L.length = n) : isTexts w v L := by
  subst hn; exact own_texts h
end Mem
end Go.Proofs.YtepmojmelcngeaaGreatDoor

/- The walk of the program's namesOf: the names of a right path in a row of the call's own, and whether it is right. -/
namespace Go.Proofs.YtepmojmelcngeaaGreatDoor
open Go.RowKit
namespace WNames
set_option maxRecDepth 100000 in
set_option maxHeartbeats 400000 in
theorem any (s : ByteArray) (w : World) (hs : s.size ≤ 1048576) :
    Calls Tryz.prog 93 #[.string s] w fun e w' => ∃ v, e = .returned (.tuple #[v, .bool (Pl.pathB s)]) ∧
      w'.ownsRow w.heap.size 9 1 v (Pl.namesR s).length ((Pl.namesR s).map Value.string) ∧ Below w.heap.size w w' := by
  by_cases h0 : s.size = 0
  · have E := hide (Pl.right_root h0).1
    have E2 := hide ((Pl.namesR_yes (Pl.right_root h0).1).trans (Pl.right_root h0).2)
    obtain rfl : s = ⟨#[]⟩ := by apply ByteArray.ext; exact Array.eq_empty_of_size_eq_zero h0
    go_enter Tryz.func93, Tryz.ntmps93
    go_wp2
    go_ret2
    refine ⟨.slice none 0 0, by rw [unhide E]; rfl, ?_, Below.refl _ _⟩
    rw [unhide E2]
    exact World.ownsRow_nil _ _ _ _
  have t0 : s.toList.isEmpty = false := by
    rw [List.isEmpty_eq_false_iff, ByteArray.toList_eq]
    intro h
    have h1 : s.data.toList.length = 0 := by rw [h]; rfl
    rw [Array.length_toList] at h1
    exact h0 h1
  have E1 : Hid (Pl.names s = Pl.cut s 47) := if_neg h0
  by_cases h8 : 8000 < s.size
  · have E := hide (Pl.pathB_long (s := s) (by omega))
    have E2 := hide (Pl.namesR_no (unhide E))
    go_enter Tryz.func93, Tryz.ntmps93
    go_wp2
    go_ret2
    refine ⟨.slice none 0 0, by rw [unhide E]; rfl, ?_, Below.refl _ _⟩
    rw [unhide E2]
    exact World.ownsRow_nil _ _ _ _
  have hpos := Pl.cut_pos s
  have hlen := Pl.cut_length s
  have HSZ : Hid (∀ (k : Nat) t, (Pl.cut s 47)[k]? = some t → t.size ≤ maxLen) := fun k t ht => by
    have := Pl.cut_size ht
    unfold maxLen; omega
  have HLONG : Hid (6 < (Pl.cut s 47).length → Pl.pathB s = false) := fun h => by
    rw [Pl.pathB_short, E1.out]; simp; intro _; omega
  have HBAD : Hid (∀ (k : Nat) t, (Pl.cut s 47)[k]? = some t → Pl.nameB t = false → Pl.pathB s = false) := fun k t ht hb => Pl.pathB_bad (by rw [E1.out]; exact ht) hb
  have HGOOD : Hid ((Pl.cut s 47).length ≤ 6 → (∀ (j : Nat) t, (Pl.cut s 47)[j]? = some t → Pl.nameB t = true) → Pl.pathB s = true ∧ Pl.namesR s = Pl.cut s 47) := fun h6 h => by
    have h1 : Pl.pathB s = true := by
      rw [Pl.pathB_short, E1.out]
      simp [h6]
      intro t ht
      obtain ⟨j, hj⟩ := List.mem_iff_getElem?.1 ht
      exact h j t hj
    exact ⟨h1, by rw [Pl.namesR_yes h1, E1.out]⟩
  have hn := hide (WWords.any s w hs)
  generalize Pl.cut s 47 = L at hn hlen HSZ HBAD HGOOD HLONG hpos
  go_enter Tryz.func93, Tryz.ntmps93
  go_wp2_with fail
  refine (unhide hn).mono ?_
  rintro e w1 ⟨v, rfl, hown, hbel⟩
  have HO := hide hown
  rcases Mem.texts hown with ⟨rfl, rfl⟩ | ⟨g, cap, rfl, hcap, hm, hgb, hgl, hcell⟩
  · simp at hpos
  have HC := hide hcell
  clear hcell hown hn
  have hm2 := hm
  unfold maxLen at hm2
  by_cases h6 : 6 < L.length
  · have E := hide (HLONG.out h6)
    have E2 := hide (Pl.namesR_no (unhide E))
    go_wp2
    go_ret2
    refine ⟨.slice none 0 0, by rw [unhide E]; rfl, ?_, hbel⟩
    rw [unhide E2]
    exact World.ownsRow_nil _ _ _ _
  go_wp2
  go_loop [19] (fun i => ∃ k : Nat, k ≤ L.length ∧ i = .int .i64 (k : Int) ∧ Hid (∀ (j : Nat) t, j < k → L[j]? = some t → Pl.nameB t = true)) (fun i => L.length - (intOf i).toNat)
  case atStart => exact ⟨0, Nat.zero_le _, rfl, fun j t h => absurd h (by omega)⟩
  case round =>
    obtain ⟨k, hk, rfl, HA⟩ := hrel
    by_cases hlt : k < L.length
    · obtain ⟨t, ht⟩ : ∃ t, L[k]? = some t := ⟨_, List.getElem?_eq_getElem hlt⟩
      have hc := HC.out k t ht
      have hts := HSZ.out k t ht
      cases hb : Pl.nameB t
      · have E := hide (HBAD.out k t ht hb)
        have E2 := hide (Pl.namesR_no (unhide E))
        have HB := hide hb
        clear ht hb
        go_wp2_with (go_at_call 120; refine (WName.impl_any t _ hts).mono ?_; rw [unhide HB]; rintro e w' ⟨rfl, hw⟩; obtain rfl := hw.symm)
        go_ret2
        refine ⟨.slice none 0 0, by rw [unhide E]; rfl, ?_, hbel⟩
        rw [unhide E2]
        exact World.ownsRow_nil _ _ _ _
      · have HB := hide hb
        have HA2 : Hid (∀ (j : Nat) t, j < k + 1 → L[j]? = some t → Pl.nameB t = true) := fun j t' hj h' => by
          rcases Nat.lt_succ_iff_lt_or_eq.1 hj with h'' | rfl
          · exact HA.out j t' h'' h'
          · rw [ht] at h'; cases h'; exact hb
        clear ht hb HA
        go_wp2_with (go_at_call 120; refine (WName.impl_any t _ hts).mono ?_; rw [unhide HB]; rintro e w' ⟨rfl, hw⟩; obtain rfl := hw.symm)
        go_round
        case rel => exact ⟨k + 1, by omega, by go_num, HA2⟩
        case measure => simp [intOf]; omega
    · have E := hide (HGOOD.out (by omega) (fun j t h => HA.out j t (by have := (List.getElem?_eq_some_iff.1 h).1; omega) h))
      clear HA
      go_wp2
      go_ret2
      exact ⟨.slice (some ⟨g, 0, none⟩) L.length cap, by rw [(unhide E).1]; rfl, by rw [(unhide E).2]; exact unhide HO, hbel⟩
end WNames
end Go.Proofs.YtepmojmelcngeaaGreatDoor

/- The walk of the program's joined: texts put together in new memory. -/
namespace Go.Proofs.YtepmojmelcngeaaGreatDoor
open Go.RowKit
namespace WJoin
theorem Tryz.one8 (w : World) : (sizeOf 5).run Tryz.prog w = .ok 1 w := by kernel_rfl
theorem Tryz.info8j : (Tryz.prog.info? 5).map (fun i => (i.zero, i.size, i.bytes)) = some (some (.int .u8 0), 1, 1) := by kernel_rfl

set_option maxRecDepth 100000 in
set_option maxHeartbeats 400000 in
theorem any (b o cap : Nat) (ts : List ByteArray) (w : World) (hn : ts.length ≤ 1000000) (ht : Pl.tot ts ≤ 1000000000)
    (hcell : ∀ j t, ts[j]? = some t → w.cell? ⟨b, o + j, none⟩ = some (.string t)) (hb : b < w.heap.size) :
    Calls Tryz.prog 97 #[.slice (some ⟨b, o, none⟩) ts.length cap] w fun e w' => e = .returned (.string ⟨(Pl.cat ts).toArray⟩) ∧ Below w.heap.size w w' := by
  have HC := hide hcell
  clear hcell
  go_enter Tryz.func97, Tryz.ntmps97
  go_wp2
  go_loop [3, 12] (fun n i => ∃ k : Nat, k ≤ ts.length ∧ i = .int .i64 k ∧ n = .int .i64 (Pl.tot (ts.take k) : Nat)) (fun _ i => ts.length - (intOf i).toNat)
  case atStart => exact ⟨0, Nat.zero_le _, rfl, rfl⟩
  case round =>
    obtain ⟨k, hk, rfl, rfl⟩ := hrel
    by_cases hlt : k < ts.length
    · obtain ⟨t, hkt⟩ : ∃ t, ts[k]? = some t := ⟨_, List.getElem?_eq_getElem hlt⟩
      have hc := unhide HC k t hkt
      have H1 := hide (Pl.tot_snoc ts k t hkt)
      have h1 := Pl.tot_le ts (k + 1)
      have h2 : Pl.tot (ts.take k) + t.size ≤ 1000000000 := by have := unhide H1; omega
      clear hkt h1
      go_wp2
      go_round
      case rel => exact ⟨k + 1, by omega, by go_num, by rw [unhide H1]; go_num⟩
      case measure => simp [intOf]; omega
    · have HE : Hid (Pl.tot (ts.take k) = Pl.tot ts) := by
        show _ = _
        rw [List.take_of_length_le (by omega)]
      have hmk := Mem.make_bytes (P := Tryz.prog) Tryz.underlying43 Tryz.info8j (Pl.tot ts) ht w
      rw [HE.out]
      go_wp2
      go_loopw [7, 25] (fun p i wr => ∃ (k : Nat) (cur : Array Value), k ≤ ts.length ∧ i = .int .i64 k ∧ p = .int .i64 (Pl.tot (ts.take k) : Nat) ∧ wr.heap[w.heap.size]? = some (.cells cur 5 (0, 0)) ∧ cur.size = Pl.tot ts ∧
          Hid (cur.toList.take (Pl.tot (ts.take k)) = (Pl.cat (ts.take k)).map Pl.byteVal) ∧ Below w.heap.size w wr) (fun _ i _ => ts.length - (intOf i).toNat)
      case atStart => exact ⟨0, Mem.zeros (Pl.tot ts), Nat.zero_le _, rfl, rfl, heap_alloc_new w _, Mem.zeros_size _, rfl, (Below.refl _ _).alloc (Nat.le_refl _) _⟩
      case round =>
        obtain ⟨k, cur, hk, rfl, rfl, hrow, hcs, HP, hbel⟩ := hrel
        by_cases hlt : k < ts.length
        · obtain ⟨t, hkt⟩ : ∃ t, ts[k]? = some t := ⟨_, List.getElem?_eq_getElem hlt⟩
          have hc : wr.cell? ⟨b, o + k, none⟩ = some (.string t) := (hbel.cell (p := ⟨b, o + k, none⟩) hb).trans (unhide HC k t hkt)
          have H1 := hide (Pl.tot_snoc ts k t hkt)
          have h1 := Pl.tot_le ts (k + 1)
          have h2 : Pl.tot (ts.take k) + t.size ≤ Pl.tot ts := by have := unhide H1; omega
          have HS := hide (Pl.part_step hkt HP.out)
          obtain ⟨D, w2, hsl, hcp, hrow2, hbel2⟩ := Mem.copy_on (P := Tryz.prog) (sT := 9) Tryz.underlying43 Tryz.one8 wr w.heap.size (Pl.tot (ts.take k)) (Pl.tot ts) cur hrow hcs t h2
          have HROW2 := hide hrow2
          have HB2 := hide (hbel.trans hbel2)
          have hsz : Hid ((cur.toList.take (Pl.tot (ts.take k)) ++ t.data.toList.map Pl.byteVal ++ cur.toList.drop (Pl.tot (ts.take k) + t.size)).toArray.size = Pl.tot ts) := by
            show _ = _
            have : t.data.size = t.size := rfl
            simp [this]
            omega
          clear hkt h1 hrow hrow2 hbel2 hbel
          go_wp2
          go_roundw
          case rel => exact ⟨k + 1, _, by omega, by go_num, by rw [unhide H1]; go_num, HROW2, hsz, HS, HB2⟩
          case measure => simp [intOf]; omega
        · have HE2 : Hid (Pl.cat (ts.take k) = Pl.cat ts ∧ Pl.tot (ts.take k) = Pl.tot ts) := by
            show _ ∧ _
            rw [List.take_of_length_le (by omega)]
            exact ⟨rfl, rfl⟩
          have hp : cur.toList.take (Pl.tot ts) = (Pl.cat ts).map Pl.byteVal := by have := HP.out; rwa [HE2.out.1, HE2.out.2] at this
          have hcv := Mem.row_text (P := Tryz.prog) (cap := Pl.tot ts) Tryz.underlying43 Tryz.underlying5 Tryz.underlying9 (Pl.cat ts) (Pl.cat_length ts) hrow hp
          clear hp hrow
          go_wp2
          go_ret
          exact ⟨rfl, hbel⟩
end WJoin
end Go.Proofs.YtepmojmelcngeaaGreatDoor

