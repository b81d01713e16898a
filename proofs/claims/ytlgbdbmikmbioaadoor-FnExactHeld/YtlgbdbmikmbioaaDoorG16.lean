/- Several texts of one claim in one file: WNames, WJoin, WPathOf, WBothI. -/
import Derived.Test.YtlgbdbmikmbioaaDoorG15
import Derived.Test.YtlgbdbmikmbioaaDoorG02
import Derived.Test.YtlgbdbmikmbioaaDoorG05
import Derived.Test.YtlgbdbmikmbioaaDoorProg
import Derived.WalkSpells
/- The walk of the program's namesOf: the names of a right path in a row of the call's own, and whether it is right. -/
namespace Go.Proofs.YtlgbdbmikmbioaaDoor
open Go.RowKit
namespace WNames
set_option maxRecDepth 100000 in
set_option maxHeartbeats 400000 in
theorem any (s : ByteArray) (w : World) (hs : s.size ≤ 1048576) :
    Calls Tryd.prog 69 #[.string s] w fun e w' => ∃ v, e = .returned (.tuple #[v, .bool (Pl.pathB s)]) ∧
      w'.ownsRow w.heap.size 9 1 v (Pl.namesR s).length ((Pl.namesR s).map Value.string) ∧ Below w.heap.size w w' := by
  by_cases h0 : s.size = 0
  · have E := hide (Pl.right_root h0).1
    have E2 := hide ((Pl.namesR_yes (Pl.right_root h0).1).trans (Pl.right_root h0).2)
    obtain rfl : s = ⟨#[]⟩ := by apply ByteArray.ext; exact Array.eq_empty_of_size_eq_zero h0
    go_enter Tryd.func69, Tryd.ntmps69
    go_wp2
    go_ret2
    refine ⟨.slice none 0 0, by rw [unhide E]; rfl, ?_, Below.refl _ _⟩
    rw [unhide E2]
    exact World.ownsRow_nil _ _ _ _
  have t0 : s.toList.isEmpty = false := by
    rw [List.isEmpty_eq_false_iff, ByteArray.toList_eq]
    intro h
    have h1 : s.data.toList.length = 0 := by rw [h]; rfl
    rw [Array.length_toList] at h1
    exact h0 h1
  have E1 : Hid (Pl.names s = Pl.cut s 47) := if_neg h0
  by_cases h8 : 8000 < s.size
  · have E := hide (Pl.pathB_long (s := s) (by omega))
    have E2 := hide (Pl.namesR_no (unhide E))
    go_enter Tryd.func69, Tryd.ntmps69
    go_wp2
    go_ret2
    refine ⟨.slice none 0 0, by rw [unhide E]; rfl, ?_, Below.refl _ _⟩
    rw [unhide E2]
    exact World.ownsRow_nil _ _ _ _
  have hpos := Pl.cut_pos s
  have hlen := Pl.cut_length s
  have HSZ : Hid (∀ (k : Nat) t, (Pl.cut s 47)[k]? = some t → t.size ≤ maxLen) := fun k t ht => by
    have := Pl.cut_size ht
    unfold maxLen; omega
  have HLONG : Hid (6 < (Pl.cut s 47).length → Pl.pathB s = false) := fun h => by
    rw [Pl.pathB_short, E1.out]; simp; intro _; omega
  have HBAD : Hid (∀ (k : Nat) t, (Pl.cut s 47)[k]? = some t → Pl.nameB t = false → Pl.pathB s = false) := fun k t ht hb => Pl.pathB_bad (by rw [E1.out]; exact ht) hb
  have HGOOD : Hid ((Pl.cut s 47).length ≤ 6 → (∀ (j : Nat) t, (Pl.cut s 47)[j]? = some t → Pl.nameB t = true) → Pl.pathB s = true ∧ Pl.namesR s = Pl.cut s 47) := fun h6 h => by
    have h1 : Pl.pathB s = true := by
      rw [Pl.pathB_short, E1.out]
      simp [h6]
      intro t ht
      obtain ⟨j, hj⟩ := List.mem_iff_getElem?.1 ht
      exact h j t hj
    exact ⟨h1, by rw [Pl.namesR_yes h1, E1.out]⟩
  have hn := hide (WWords.any s w hs)
  generalize Pl.cut s 47 = L at hn hlen HSZ HBAD HGOOD HLONG hpos
  go_enter Tryd.func69, Tryd.ntmps69
  go_wp2_with fail
  refine (unhide hn).mono ?_
  rintro e w1 ⟨v, rfl, hown, hbel⟩
  have HO := hide hown
  rcases Mem.texts hown with ⟨rfl, rfl⟩ | ⟨g, cap, rfl, hcap, hm, hgb, hgl, hcell⟩
  · simp at hpos
  have HC := hide hcell
  clear hcell hown hn
  have hm2 := hm
  unfold maxLen at hm2
  by_cases h6 : 6 < L.length
  · have E := hide (HLONG.out h6)
    have E2 := hide (Pl.namesR_no (unhide E))
    go_wp2
    go_ret2
    refine ⟨.slice none 0 0, by rw [unhide E]; rfl, ?_, hbel⟩
    rw [unhide E2]
    exact World.ownsRow_nil _ _ _ _
  go_wp2
  go_loop [19] (fun i => ∃ k : Nat, k ≤ L.length ∧ i = .int .i64 (k : Int) ∧ Hid (∀ (j : Nat) t, j < k → L[j]? = some t → Pl.nameB t = true)) (fun i => L.length - (intOf i).toNat)
  case atStart => exact ⟨0, Nat.zero_le _, rfl, fun j t h => absurd h (by omega)⟩
  case round =>
    obtain ⟨k, hk, rfl, HA⟩ := hrel
    by_cases hlt : k < L.length
    · obtain ⟨t, ht⟩ : ∃ t, L[k]? = some t := ⟨_, List.getElem?_eq_getElem hlt⟩
      have hc := HC.out k t ht
      have hts := HSZ.out k t ht
      cases hb : Pl.nameB t
      · have E := hide (HBAD.out k t ht hb)
        have E2 := hide (Pl.namesR_no (unhide E))
        have HB := hide hb
        clear ht hb
        go_wp2_with (go_at_call 77; refine (WName.impl_any t _ hts).mono ?_; rw [unhide HB]; rintro e w' ⟨rfl, hw⟩; obtain rfl := hw.symm)
        go_ret2
        refine ⟨.slice none 0 0, by rw [unhide E]; rfl, ?_, hbel⟩
        rw [unhide E2]
        exact World.ownsRow_nil _ _ _ _
      · have HB := hide hb
        have HA2 : Hid (∀ (j : Nat) t, j < k + 1 → L[j]? = some t → Pl.nameB t = true) := fun j t' hj h' => by
          rcases Nat.lt_succ_iff_lt_or_eq.1 hj with h'' | rfl
          · exact HA.out j t' h'' h'
          · rw [ht] at h'; cases h'; exact hb
        clear ht hb HA
        go_wp2_with (go_at_call 77; refine (WName.impl_any t _ hts).mono ?_; rw [unhide HB]; rintro e w' ⟨rfl, hw⟩; obtain rfl := hw.symm)
        go_round
        case rel => exact ⟨k + 1, by omega, by go_num, HA2⟩
        case measure => simp [intOf]; omega
    · have E := hide (HGOOD.out (by omega) (fun j t h => HA.out j t (by have := (List.getElem?_eq_some_iff.1 h).1; omega) h))
      clear HA
      go_wp2
      go_ret2
      exact ⟨.slice (some ⟨g, 0, none⟩) L.length cap, by rw [(unhide E).1]; rfl, by rw [(unhide E).2]; exact unhide HO, hbel⟩
end WNames
end Go.Proofs.YtlgbdbmikmbioaaDoor

/- The walk of the program's joined: texts put together in new memory. -/
namespace Go.Proofs.YtlgbdbmikmbioaaDoor
open Go.RowKit
namespace WJoin
theorem Tryd.one8 (w : World) : (sizeOf 5).run Tryd.prog w = .ok 1 w := by kernel_rfl
theorem Tryd.info8j : (Tryd.prog.info? 5).map (fun i => (i.zero, i.size, i.bytes)) = some (some (.int .u8 0), 1, 1) := by kernel_rfl

set_option maxRecDepth 100000 in
set_option maxHeartbeats 400000 in
theorem any (b o cap : Nat) (ts : List ByteArray) (w : World) (hn : ts.length ≤ 1000000) (ht : Pl.tot ts ≤ 1000000000)
    (hcell : ∀ j t, ts[j]? = some t → w.cell? ⟨b, o + j, none⟩ = some (.string t)) (hb : b < w.heap.size) :
    Calls Tryd.prog 100 #[.slice (some ⟨b, o, none⟩) ts.length cap] w fun e w' => e = .returned (.string ⟨(Pl.cat ts).toArray⟩) ∧ Below w.heap.size w w' := by
  have HC := hide hcell
  clear hcell
  go_enter Tryd.func100, Tryd.ntmps100
  go_wp2
  go_loop [3, 12] (fun n i => ∃ k : Nat, k ≤ ts.length ∧ i = .int .i64 k ∧ n = .int .i64 (Pl.tot (ts.take k) : Nat)) (fun _ i => ts.length - (intOf i).toNat)
  case atStart => exact ⟨0, Nat.zero_le _, rfl, rfl⟩
  case round =>
    obtain ⟨k, hk, rfl, rfl⟩ := hrel
    by_cases hlt : k < ts.length
    · obtain ⟨t, hkt⟩ : ∃ t, ts[k]? = some t := ⟨_, List.getElem?_eq_getElem hlt⟩
      have hc := unhide HC k t hkt
      have H1 := hide (Pl.tot_snoc ts k t hkt)
      have h1 := Pl.tot_le ts (k + 1)
      have h2 : Pl.tot (ts.take k) + t.size ≤ 1000000000 := by have := unhide H1; omega
      clear hkt h1
      go_wp2
      go_round
      case rel => exact ⟨k + 1, by omega, by go_num, by rw [unhide H1]; go_num⟩
      case measure => simp [intOf]; omega
    · have HE : Hid (Pl.tot (ts.take k) = Pl.tot ts) := by
        show _ = _
        rw [List.take_of_length_le (by omega)]
      have hmk := Mem.make_bytes (P := Tryd.prog) Tryd.underlying157 Tryd.info8j (Pl.tot ts) ht w
      rw [HE.out]
      go_wp2
      go_loopw [7, 25] (fun p i wr => ∃ (k : Nat) (cur : Array Value), k ≤ ts.length ∧ i = .int .i64 k ∧ p = .int .i64 (Pl.tot (ts.take k) : Nat) ∧ wr.heap[w.heap.size]? = some (.cells cur 5 (0, 0)) ∧ cur.size = Pl.tot ts ∧
          Hid (cur.toList.take (Pl.tot (ts.take k)) = (Pl.cat (ts.take k)).map Pl.byteVal) ∧ Below w.heap.size w wr) (fun _ i _ => ts.length - (intOf i).toNat)
      case atStart => exact ⟨0, Mem.zeros (Pl.tot ts), Nat.zero_le _, rfl, rfl, heap_alloc_new w _, Mem.zeros_size _, rfl, (Below.refl _ _).alloc (Nat.le_refl _) _⟩
      case round =>
        obtain ⟨k, cur, hk, rfl, rfl, hrow, hcs, HP, hbel⟩ := hrel
        by_cases hlt : k < ts.length
        · obtain ⟨t, hkt⟩ : ∃ t, ts[k]? = some t := ⟨_, List.getElem?_eq_getElem hlt⟩
          have hc : wr.cell? ⟨b, o + k, none⟩ = some (.string t) := (hbel.cell (p := ⟨b, o + k, none⟩) hb).trans (unhide HC k t hkt)
          have H1 := hide (Pl.tot_snoc ts k t hkt)
          have h1 := Pl.tot_le ts (k + 1)
          have h2 : Pl.tot (ts.take k) + t.size ≤ Pl.tot ts := by have := unhide H1; omega
          have HS := hide (Pl.part_step hkt HP.out)
          obtain ⟨D, w2, hsl, hcp, hrow2, hbel2⟩ := Mem.copy_on (P := Tryd.prog) (sT := 9) Tryd.underlying157 Tryd.one8 wr w.heap.size (Pl.tot (ts.take k)) (Pl.tot ts) cur hrow hcs t h2
          have HROW2 := hide hrow2
          have HB2 := hide (hbel.trans hbel2)
          have hsz : Hid ((cur.toList.take (Pl.tot (ts.take k)) ++ t.data.toList.map Pl.byteVal ++ cur.toList.drop (Pl.tot (ts.take k) + t.size)).toArray.size = Pl.tot ts) := by
            show _ = _
            have : t.data.size = t.size := rfl
            simp [this]
            omega
          clear hkt h1 hrow hrow2 hbel2 hbel
          go_wp2
          go_roundw
          case rel => exact ⟨k + 1, _, by omega, by go_num, by rw [unhide H1]; go_num, HROW2, hsz, HS, HB2⟩
          case measure => simp [intOf]; omega
        · have HE2 : Hid (Pl.cat (ts.take k) = Pl.cat ts ∧ Pl.tot (ts.take k) = Pl.tot ts) := by
            show _ ∧ _
            rw [List.take_of_length_le (by omega)]
            exact ⟨rfl, rfl⟩
          have hp : cur.toList.take (Pl.tot ts) = (Pl.cat ts).map Pl.byteVal := by have := HP.out; rwa [HE2.out.1, HE2.out.2] at this
          have hcv := Mem.row_text (P := Tryd.prog) (cap := Pl.tot ts) Tryd.underlying157 Tryd.underlying5 Tryd.underlying9 (Pl.cat ts) (Pl.cat_length ts) hrow hp
          clear hp hrow
          go_wp2
          go_ret
          exact ⟨rfl, hbel⟩
end WJoin
end Go.Proofs.YtlgbdbmikmbioaaDoor

/- The walk of the program's pathOf: names put together with a slash between, in new memory. -/
namespace Go.Proofs.YtlgbdbmikmbioaaDoor
open Go.RowKit
namespace Pl
/-- What is put together for the first k names. -/
def partsTo (ts : List ByteArray) : Nat → List ByteArray
  | 0 => []
  | k + 1 => partsTo ts k ++ (if k = 0 then [] else [⟨#[47]⟩]) ++ [ts.getD k ⟨#[]⟩]
theorem glueL_snoc (A : List (List UInt8)) (a : List UInt8) : glueL (A ++ [a]) = glueL A ++ (if A = [] then [] else [47]) ++ a := by
  by_cases h : A = []
  · subst h; rfl
  · rw [glueL_append h (by simp), if_neg h]; simp [glueL]
theorem cat_append (A B : List ByteArray) : cat (A ++ B) = cat A ++ cat B := by simp [cat]
theorem parts_cat (ts : List ByteArray) : ∀ k, k ≤ ts.length → cat (partsTo ts k) = glueL ((ts.take k).map by_) := by
  intro k
  induction k with
  | zero => intro _; rfl
  | succ k ih =>
    intro hk
    have hlt : k < ts.length := by omega
    rw [partsTo, cat_append, cat_append, ih (by omega), List.take_add_one, List.getElem?_eq_getElem hlt, Option.toList_some, List.map_append, List.map_cons, List.map_nil, glueL_snoc, cat_one]
    have h1 : ts.getD k ⟨#[]⟩ = ts[k] := by simp [List.getD_eq_getElem?_getD, List.getElem?_eq_getElem hlt]
    rw [h1]
    have h2 : cat (if k = 0 then [] else [(⟨#[47]⟩ : ByteArray)]) = if (ts.take k).map by_ = [] then [] else [47] := by
      by_cases h0 : k = 0
      · subst h0; rfl
      · rw [if_neg h0, if_neg (by simp; exact ⟨h0, by intro e; subst e; simp at hlt⟩)]; rfl
    rw [h2]; rfl
theorem parts_glue (ts : List ByteArray) : (⟨(cat (partsTo ts ts.length)).toArray⟩ : ByteArray) = glue ts := by
  rw [parts_cat ts _ (Nat.le_refl _), List.take_length]; rfl
theorem parts_tot (ts : List ByteArray) : tot (partsTo ts ts.length) = (glue ts).size := by
  rw [← cat_length, parts_cat ts _ (Nat.le_refl _), List.take_length, ← by_glue, by_length]
theorem parts_length (ts : List ByteArray) : ∀ k, (partsTo ts k).length ≤ 2 * k := by
  intro k
  induction k with
  | zero => simp [partsTo]
  | succ k ih =>
    rw [partsTo]
    by_cases h : k = 0
    · simp [h, partsTo]
    · simp [h]; omega
theorem parts_first {ts : List ByteArray} {t : ByteArray} (ht : ts[0]? = some t) : partsTo ts 1 = partsTo ts 0 ++ [t] := by
  simp [partsTo, List.getD_eq_getElem?_getD, ht]
theorem parts_next {ts : List ByteArray} {k : Nat} {t : ByteArray} (hk : k ≠ 0) (ht : ts[k]? = some t) : partsTo ts (k + 1) = (partsTo ts k ++ [⟨#[47]⟩]) ++ [t] := by
  simp [partsTo, List.getD_eq_getElem?_getD, ht, hk]
end Pl
namespace WPathOf
theorem make12 (w : World) : (Instr.makeSlice 86 (.int .i64 0) (.int .i64 12)).run Tryd.prog w = .ok (.slice (some ⟨w.heap.size, 0, none⟩) 0 12) (w.alloc (.cells (madeCells (Value.string ⟨#[]⟩).cells 12) 9)) := by
  obtain ⟨i0, h0, h1, h2, h3⟩ := info_parts WWords.infoS
  have h := run_make (P := Tryd.prog) w 86 9 i0 (.string ⟨#[]⟩) Tryd.underlying86 h0 h1 .i64 .i64 0 12 (by omega) (by omega) (by rw [h3]; omega) (by omega)
  rw [h]; simp [h2]

set_option maxRecDepth 100000 in
set_option maxHeartbeats 400000 in
theorem any (v : Value) (ts : List ByteArray) (w : World) (hn : ts.length ≤ 1000) (hg : (Pl.glue ts).size ≤ 1000000) (hv : Mem.isTexts w v ts) :
    Calls Tryd.prog 99 #[v] w fun e w' => e = .returned (.string (Pl.glue ts)) ∧ Below w.heap.size w w' := by
  obtain ⟨i0, hi, hz0, hz1, hz2⟩ := info_parts WWords.infoS
  have hmk := make12
  have H0 : Hid ((⟨(Pl.cat (Pl.partsTo ts ts.length)).toArray⟩ : ByteArray) = Pl.glue ts) := Pl.parts_glue ts
  have H1 : Hid (Pl.tot (Pl.partsTo ts ts.length) ≤ 1000000000) := by have := Pl.parts_tot ts; show _ ≤ _; omega
  by_cases hts : ts = []
  · subst hts
    have hv2 : ∃ a cap, v = .slice a 0 cap := by
      rcases hv with ⟨rfl, _⟩ | ⟨b, o, cap, rfl, _⟩
      · exact ⟨_, _, rfl⟩
      · exact ⟨_, _, rfl⟩
    obtain ⟨a, cap, rfl⟩ := hv2
    go_enter Tryd.func99, Tryd.ntmps99
    go_wp2
    go_loop [3, 9] (fun p i => p = .slice (some ⟨w.heap.size, 0, none⟩) 0 12 ∧ i = .int .i64 0) (fun _ _ => 0)
    case atStart => exact ⟨rfl, rfl⟩
    case round =>
      obtain ⟨rfl, rfl⟩ := hrel
      go_wp2_with fail
      refine (WJoin.any w.heap.size 0 12 [] _ (by simp) (by simp [Pl.tot]) (fun j t h => by simp at h) (by simp)).mono ?_
      rintro e w1 ⟨rfl, hb1⟩
      go_wp2
      go_ret
      exact ⟨rfl, ((Below.refl _ _).alloc (Nat.le_refl _) _).trans (hb1.mono (by simp))⟩
  have hpos : 0 < ts.length := List.length_pos_iff.2 hts
  have HNE : Hid (Pl.partsTo ts ts.length ≠ []) := by
    intro h
    obtain ⟨n, hn⟩ : ∃ n, ts.length = n + 1 := ⟨ts.length - 1, by omega⟩
    rw [hn, Pl.partsTo] at h
    simp at h
  rcases hv with ⟨rfl, rfl⟩ | ⟨b, o, cap, rfl, hb, hcell⟩
  · exact absurd rfl hts
  · have HC := hide hcell
    clear hcell
    go_enter Tryd.func99, Tryd.ntmps99
    go_wp2
    go_loopw [3, 9] (fun p i wr => ∃ k : Nat, k ≤ ts.length ∧ i = .int .i64 (k : Int) ∧ wr.ownsRow w.heap.size 9 1 p (Pl.partsTo ts k).length ((Pl.partsTo ts k).map Value.string) ∧ Below w.heap.size w wr) (fun _ i _ => ts.length - (intOf i).toNat)
    case atStart => exact ⟨0, Nat.zero_le _, rfl, World.ownsRow_made _ _ 12 (Nat.le_refl _) (by unfold maxLen; omega) (size_madeCells _ _), (Below.refl _ _).alloc (Nat.le_refl _) _⟩
    case round =>
      obtain ⟨k, hk, rfl, hown, hbel⟩ := hrel
      have hb1 := hbel.size
      have hpl := Pl.parts_length ts k
      by_cases hlt : k < ts.length
      · obtain ⟨t, hkt⟩ : ∃ t, ts[k]? = some t := ⟨_, List.getElem?_eq_getElem hlt⟩
        have hc : wr.cell? ⟨b, o + k, none⟩ = some (.string t) := (hbel.cell (p := ⟨b, o + k, none⟩) hb).trans (unhide HC k t hkt)
        by_cases h0 : k = 0
        · have HS : Hid (Pl.partsTo ts (k + 1) = Pl.partsTo ts k ++ [t]) := by subst h0; exact Pl.parts_first hkt
          have hp : ¬ (0 : Int) < (k : Int) := by omega
          clear hkt h0
          go_wp2_with (at_builtin; refine wpList_append_own _ rfl _ _ 86 rfl w.heap.size 9 i0 (.string ⟨#[]⟩) 1 16 Tryd.underlying86 hi hz0 hz1 hz2 rfl (by decide) _ _ _ rfl (hown.alloc _) ⟨wr.heap.size, 0, none⟩ 1 1 [.string t] rfl rfl (Mem.one_new _ _ _) (Mem.one_str _) (by unfold maxLen; omega) (by omega) (by simp; omega) ?_)
          · intro v' w2 hown' hgrow _
            have hbel' := Mem.below_append hbel (Nat.le_refl _) hown hgrow
            have hown2 : Hid (w2.ownsRow w.heap.size 9 1 v' (Pl.partsTo ts (k + 1)).length ((Pl.partsTo ts (k + 1)).map Value.string)) := by
              show World.ownsRow _ _ _ _ _ _ _
              rw [unhide HS]; simpa using hown'
            clear hgrow hown hbel hown' hc
            go_wp2
            go_roundw
            case rel => exact ⟨k + 1, by omega, by go_num, hown2, hbel'⟩
            case measure => simp [intOf]; omega
        · have HS := hide (Pl.parts_next h0 hkt)
          have hp : (0 : Int) < (k : Int) := by omega
          clear hkt
          go_wp2_with (at_builtin; refine wpList_append_own _ rfl _ _ 86 rfl w.heap.size 9 i0 (.string ⟨#[]⟩) 1 16 Tryd.underlying86 hi hz0 hz1 hz2 rfl (by decide) _ _ _ rfl (hown.alloc _) ⟨wr.heap.size, 0, none⟩ 1 1 [.string ⟨#[47]⟩] rfl rfl (Mem.one_new _ _ _) (Mem.one_str _) (by unfold maxLen; omega) (by omega) (by simp; omega) ?_)
          · intro v1 w1 hown' hgrow _
            have hbel' := Mem.below_append hbel (Nat.le_refl _) hown hgrow
            have hown1 : w1.ownsRow w.heap.size 9 1 v1 (Pl.partsTo ts k ++ [(⟨#[47]⟩ : ByteArray)]).length ((Pl.partsTo ts k ++ [(⟨#[47]⟩ : ByteArray)]).map Value.string) := by simpa using hown'
            have hb2 := hbel'.size
            have hl2 : (Pl.partsTo ts k ++ [(⟨#[47]⟩ : ByteArray)]).length ≤ 2 * k + 1 := by simp; omega
            clear hgrow hown hbel hown' hc hpl
            go_wp2_with (at_builtin; refine wpList_append_own _ rfl _ _ 86 rfl w.heap.size 9 i0 (.string ⟨#[]⟩) 1 16 Tryd.underlying86 hi hz0 hz1 hz2 rfl (by decide) _ _ _ rfl (hown1.alloc _) ⟨w1.heap.size, 0, none⟩ 1 1 [.string t] rfl rfl (Mem.one_new _ _ _) (Mem.one_str _) (by unfold maxLen; omega) (by omega) (by simp; omega) ?_)
            · intro v' w2 hown' hgrow _
              have hbel2 := Mem.below_append hbel' (Nat.le_refl _) hown1 hgrow
              have hown2 : Hid (w2.ownsRow w.heap.size 9 1 v' (Pl.partsTo ts (k + 1)).length ((Pl.partsTo ts (k + 1)).map Value.string)) := by
                show World.ownsRow _ _ _ _ _ _ _
                rw [unhide HS]; simpa using hown'
              clear hgrow hown1 hbel' hown'
              go_wp2
              go_roundw
              case rel => exact ⟨k + 1, by omega, by go_num, hown2, hbel2⟩
              case measure => simp [intOf]; omega
      · obtain rfl : k = ts.length := by omega
        rcases Mem.own_texts hown with ⟨rfl, hnil⟩ | ⟨g, o', cap', rfl, hgl, hcell'⟩
        · exact absurd hnil HNE.out
        · have HC' := hide hcell'
          clear hcell' hown
          go_wp2_with fail
          refine (WJoin.any g o' cap' (Pl.partsTo ts ts.length) _ (by omega) H1.out HC'.out hgl).mono ?_
          rintro e w1 ⟨rfl, hb1⟩
          go_wp2
          go_ret
          exact ⟨by rw [H0.out]; rfl, hbel.trans (hb1.mono (by omega))⟩
end WPathOf
end Go.Proofs.YtlgbdbmikmbioaaDoor

/- The walk of namesOfBoth. -/
namespace Go.Proofs.YtlgbdbmikmbioaaDoor
open Go.RowKit
namespace WUnder
set_option maxRecDepth 100000 in
theorem both_any (a b : ByteArray) (w : World) (ha : a.size ≤ 1048576) (hb : b.size ≤ 1048576) :
    Calls Tryd.prog 65 #[.string a, .string b] w fun e w' => ∃ v1 v2 m, e = .returned (.tuple #[v1, v2, .bool (Pl.pathB a && Pl.pathB b)]) ∧ w.heap.size ≤ m ∧
      w'.ownsRow w.heap.size 9 1 v1 (Pl.namesR a).length ((Pl.namesR a).map Value.string) ∧ (∀ k, v1.ownBlock = some k → k < m) ∧
      w'.ownsRow m 9 1 v2 (Pl.namesR b).length ((Pl.namesR b).map Value.string) ∧ Below w.heap.size w w' := by
  have hn1 := hide (fun W => WNames.any a W ha)
  have hn2 := hide (fun W => WNames.any b W hb)
  generalize Pl.pathB a = r1 at hn1 ⊢
  generalize Pl.pathB b = r2 at hn2 ⊢
  generalize Pl.namesR a = A at hn1 ⊢
  generalize Pl.namesR b = B at hn2 ⊢
  cases r1 <;> cases r2
  all_goals
    go_enter Tryd.func65, Tryd.ntmps65
    go_wp2_with fail
    refine (unhide hn1 _).mono ?_
    rintro e w1 ⟨v1, rfl, hown1, hb1⟩
    have HO1 := hide hown1
    clear hown1
    go_wp2_with fail
    refine (unhide hn2 _).mono ?_
    rintro e w2 ⟨v2, rfl, hown2, hb2⟩
    have HO2 := hide hown2
    clear hown2
    have H : Hid (∃ m, w.heap.size ≤ m ∧ w2.ownsRow w.heap.size 9 1 v1 A.length (A.map Value.string) ∧ (∀ k, v1.ownBlock = some k → k < m) ∧
        w2.ownsRow m 9 1 v2 B.length (B.map Value.string) ∧ Below w.heap.size w w2) :=
      ⟨w1.heap.size, hb1.size, Mem.own_call (unhide HO1) hb2, fun k hk => ((unhide HO1).lt k hk).2, unhide HO2, hb1.trans (hb2.mono hb1.size)⟩
    clear hb1 hb2 HO1 HO2
    go_wp2
    go_ret3
    obtain ⟨m, h1, h2, h3, h4, h5⟩ := H.out
    exact ⟨v1, v2, m, rfl, h1, h2, h3, h4, h5⟩
end WUnder
end Go.Proofs.YtlgbdbmikmbioaaDoor

