/- Several texts of one claim in one file: WNames, WJoin, WPathOf, WPathsTo, WTakeS, WRootS, MapN, WParentI, WNodesI. -/
import Derived.Test.YtppmlbofhghghaaGreatDoorG00
import Derived.Test.YtppmlbofhghghaaGreatDoorG02
import Derived.Test.YtppmlbofhghghaaGreatDoorG03
import Derived.Test.YtppmlbofhghghaaGreatDoorProg
import Derived.WalkSpells
import Derived.RangeFuncNested
import Derived.RangeFuncBound
import Derived.RangeFuncCalls
import Derived.RangeFuncLeaves
import Derived.Shelf.Abstract
import Derived.Shelf.RegionOpen
import Derived.OwnWalkIn
import Derived.TacticsInMore
import Derived.LoopNIn
import Derived.LoopIn
import Derived.Test.YtppmlbofhghghaaGreatDoorG01
import Derived.Below
import Derived.Maps.OwnSet
import Derived.Deep.QuietTactic
import Derived.BigQuiet
import Derived.Deep.RegionHeld3
namespace Go.Proofs.YtppmlbofhghghaaGreatDoor
open Go.RowKit
namespace yd8
set_option maxRecDepth 100000 in
set_option maxHeartbeats 400000 in
theorem any (s : ByteArray) (w : World) (hs : s.size ≤ 1048576) :
  Calls Tryz.prog 130 #[.string s] w fun e w' => ∃ v, e = .returned (.tuple #[v, .bool (Pl.za3 s)]) ∧
   w'.ownsRow w.heap.size 9 1 v (Pl.zb2 s).length ((Pl.zb2 s).map Value.string) ∧ Below w.heap.size w w' := by
 by_cases h0 : s.size = 0
 ·have E := hide (Pl.zh6 h0).1
  have E2 := hide ((Pl.zc8 (Pl.zh6 h0).1).trans (Pl.zh6 h0).2)
  obtain rfl : s = ⟨#[]⟩ := by apply ByteArray.ext; exact Array.eq_empty_of_size_eq_zero h0
  go_enter Tryz.func130, Tryz.ntmps130
  go_wp2
  go_ret2
  refine ⟨.slice none 0 0, by rw [za E]; rfl, ?_, Below.refl _ _⟩
  rw [za E2]
  exact World.ownsRow_nil _ _ _ _
 have t0 : s.toList.isEmpty = false := by
  rw [List.isEmpty_eq_false_iff, ByteArray.toList_eq]
  intro h
  have h1 : s.data.toList.length = 0 := by rw [h]; rfl
  rw [Array.length_toList] at h1
  exact h0 h1
 have E1 : Hid (Pl.names s = Pl.cut s 47) := if_neg h0
 by_cases h8 : 8000 < s.size
 ·have E := hide (Pl.yj5 (s := s) (by omega))
  have E2 := hide (Pl.yf1 (za E))
  go_enter Tryz.func130, Tryz.ntmps130
  go_wp2
  go_ret2
  refine ⟨.slice none 0 0, by rw [za E]; rfl, ?_, Below.refl _ _⟩
  rw [za E2]
  exact World.ownsRow_nil _ _ _ _
 have hpos := Pl.cut_pos s
 have hlen := Pl.cut_length s
 have HSZ : Hid (∀ (k : Nat) t, (Pl.cut s 47)[k]? = some t → t.size ≤ maxLen) := fun k t ht => by
  have := Pl.cut_size ht
  unfold maxLen; omega
 have HLONG : Hid (6 < (Pl.cut s 47).length → Pl.za3 s = false) := fun h => by
  rw [Pl.yf7, E1.out]; simp; intro _; omega
 have HBAD : Hid (∀ (k : Nat) t, (Pl.cut s 47)[k]? = some t → Pl.ze5 t = false → Pl.za3 s = false) := fun k t ht hb => Pl.pathB_bad (by rw [E1.out]; exact ht) hb
 have HGOOD : Hid ((Pl.cut s 47).length ≤ 6 → (∀ (j : Nat) t, (Pl.cut s 47)[j]? = some t → Pl.ze5 t = true) → Pl.za3 s = true ∧ Pl.zb2 s = Pl.cut s 47) := fun h6 h => by
  have h1 : Pl.za3 s = true := by
   rw [Pl.yf7, E1.out]
   simp [h6]
   intro t ht
   obtain ⟨j, hj⟩ := List.mem_iff_getElem?.1 ht
   exact h j t hj
  exact ⟨h1, by rw [Pl.zc8 h1, E1.out]⟩
 have hn := hide (WWords.any s w hs)
 generalize Pl.cut s 47 = L at hn hlen HSZ HBAD HGOOD HLONG hpos
 go_enter Tryz.func130, Tryz.ntmps130
 go_wp2_with fail
 refine (za hn).mono ?_
 rintro e w1 ⟨v, rfl, hown, hbel⟩
 have HO := hide hown
 rcases Mem.texts hown with ⟨rfl, rfl⟩ | ⟨g, cap, rfl, hcap, hm, hgb, hgl, hcell⟩
 ·simp at hpos
 have HC := hide hcell
 clear hcell hown hn
 have hm2 := hm
 unfold maxLen at hm2
 by_cases h6 : 6 < L.length
 ·have E := hide (HLONG.out h6)
  have E2 := hide (Pl.yf1 (za E))
  go_wp2
  go_ret2
  refine ⟨.slice none 0 0, by rw [za E]; rfl, ?_, hbel⟩
  rw [za E2]
  exact World.ownsRow_nil _ _ _ _
 go_wp2
 go_loop [19] (fun i => ∃ k : Nat, k ≤ L.length ∧ i = .int .i64 (k : Int) ∧ Hid (∀ (j : Nat) t, j < k → L[j]? = some t → Pl.ze5 t = true)) (fun i => L.length - (intOf i).toNat)
 case atStart => exact ⟨0, Nat.zero_le _, rfl, fun j t h => absurd h (by omega)⟩
 case round =>
  obtain ⟨k, hk, rfl, HA⟩ := hrel
  by_cases hlt : k < L.length
  ·obtain ⟨t, ht⟩ : ∃ t, L[k]? = some t := ⟨_, List.getElem?_eq_getElem hlt⟩
   have hc := HC.out k t ht
   have hts := HSZ.out k t ht
   cases hb : Pl.ze5 t
   ·have E := hide (HBAD.out k t ht hb)
    have E2 := hide (Pl.yf1 (za E))
    have HB := hide hb
    clear ht hb
    go_wp2_with (go_at_call 154; refine (WName.zn0 t _ hts).mono ?_; rw [za HB]; rintro e w' ⟨rfl, hw⟩; obtain rfl := hw.symm)
    go_ret2
    refine ⟨.slice none 0 0, by rw [za E]; rfl, ?_, hbel⟩
    rw [za E2]
    exact World.ownsRow_nil _ _ _ _
   ·have HB := hide hb
    have HA2 : Hid (∀ (j : Nat) t, j < k + 1 → L[j]? = some t → Pl.ze5 t = true) := fun j t' hj h' => by
     rcases Nat.lt_succ_iff_lt_or_eq.1 hj with h'' | rfl
     ·exact HA.out j t' h'' h'
     ·rw [ht] at h'; cases h'; exact hb
    clear ht hb HA
    go_wp2_with (go_at_call 154; refine (WName.zn0 t _ hts).mono ?_; rw [za HB]; rintro e w' ⟨rfl, hw⟩; obtain rfl := hw.symm)
    go_round
    case rel => exact ⟨k + 1, by omega, by go_num, HA2⟩
    case measure => simp [intOf]; omega
  ·have E := hide (HGOOD.out (by omega) (fun j t h => HA.out j t (by have := (List.getElem?_eq_some_iff.1 h).1; omega) h))
   clear HA
   go_wp2
   go_ret2
   exact ⟨.slice (some ⟨g, 0, none⟩) L.length cap, by rw [(za E).1]; rfl, by rw [(za E).2]; exact za HO, hbel⟩
end yd8
end Go.Proofs.YtppmlbofhghghaaGreatDoor

namespace Go.Proofs.YtppmlbofhghghaaGreatDoor
open Go.RowKit
namespace WJoin
theorem Tryz.one8 (w : World) : (sizeOf 5).run Tryz.prog w = .ok 1 w := by kernel_rfl
theorem Tryz.info8j : (Tryz.prog.info? 5).map (fun i => (i.zero, i.size, i.bytes)) = some (some (.int .u8 0), 1, 1) := by kernel_rfl

set_option maxRecDepth 100000 in
set_option maxHeartbeats 400000 in
theorem any (b o cap : Nat) (ts : List ByteArray) (w : World) (hn : ts.length ≤ 1000000) (ht : Pl.tot ts ≤ 1000000000)
  (hcell : ∀ j t, ts[j]? = some t → w.cell? ⟨b, o + j, none⟩ = some (.string t)) (hb : b < w.heap.size) :
  Calls Tryz.prog 155 #[.slice (some ⟨b, o, none⟩) ts.length cap] w fun e w' => e = .returned (.string ⟨(Pl.cat ts).toArray⟩) ∧ Below w.heap.size w w' := by
 have HC := hide hcell
 clear hcell
 go_enter Tryz.func155, Tryz.ntmps155
 go_wp2
 go_loop [3, 12] (fun n i => ∃ k : Nat, k ≤ ts.length ∧ i = .int .i64 k ∧ n = .int .i64 (Pl.tot (ts.take k) : Nat)) (fun _ i => ts.length - (intOf i).toNat)
 case atStart => exact ⟨0, Nat.zero_le _, rfl, rfl⟩
 case round =>
  obtain ⟨k, hk, rfl, rfl⟩ := hrel
  by_cases hlt : k < ts.length
  ·obtain ⟨t, hkt⟩ : ∃ t, ts[k]? = some t := ⟨_, List.getElem?_eq_getElem hlt⟩
   have hc := za HC k t hkt
   have H1 := hide (Pl.tot_snoc ts k t hkt)
   have h1 := Pl.tot_le ts (k + 1)
   have h2 : Pl.tot (ts.take k) + t.size ≤ 1000000000 := by have := za H1; omega
   clear hkt h1
   go_wp2
   go_round
   case rel => exact ⟨k + 1, by omega, by go_num, by rw [za H1]; go_num⟩
   case measure => simp [intOf]; omega
  ·have HE : Hid (Pl.tot (ts.take k) = Pl.tot ts) := by
    show _ = _
    rw [List.take_of_length_le (by omega)]
   have hmk := Mem.make_bytes (P := Tryz.prog) Tryz.underlying149 Tryz.info8j (Pl.tot ts) ht w
   rw [HE.out]
   go_wp2
   go_loopw [7, 25] (fun p i wr => ∃ (k : Nat) (cur : Array Value), k ≤ ts.length ∧ i = .int .i64 k ∧ p = .int .i64 (Pl.tot (ts.take k) : Nat) ∧ wr.heap[w.heap.size]? = some (.cells cur 5 (0, 0)) ∧ cur.size = Pl.tot ts ∧
     Hid (cur.toList.take (Pl.tot (ts.take k)) = (Pl.cat (ts.take k)).map Pl.zh8) ∧ Below w.heap.size w wr) (fun _ i _ => ts.length - (intOf i).toNat)
   case atStart => exact ⟨0, Mem.zeros (Pl.tot ts), Nat.zero_le _, rfl, rfl, heap_alloc_new w _, Mem.zeros_size _, rfl, (Below.refl _ _).alloc (Nat.le_refl _) _⟩
   case round =>
    obtain ⟨k, cur, hk, rfl, rfl, hrow, hcs, HP, hbel⟩ := hrel
    by_cases hlt : k < ts.length
    ·obtain ⟨t, hkt⟩ : ∃ t, ts[k]? = some t := ⟨_, List.getElem?_eq_getElem hlt⟩
     have hc : wr.cell? ⟨b, o + k, none⟩ = some (.string t) := (hbel.cell (p := ⟨b, o + k, none⟩) hb).trans (za HC k t hkt)
     have H1 := hide (Pl.tot_snoc ts k t hkt)
     have h1 := Pl.tot_le ts (k + 1)
     have h2 : Pl.tot (ts.take k) + t.size ≤ Pl.tot ts := by have := za H1; omega
     have HS := hide (Pl.part_step hkt HP.out)
     obtain ⟨D, w2, hsl, hcp, hrow2, hbel2⟩ := Mem.copy_on (P := Tryz.prog) (sT := 9) Tryz.underlying149 Tryz.one8 wr w.heap.size (Pl.tot (ts.take k)) (Pl.tot ts) cur hrow hcs t h2
     have HROW2 := hide hrow2
     have HB2 := hide (hbel.trans hbel2)
     have hsz : Hid ((cur.toList.take (Pl.tot (ts.take k)) ++ t.data.toList.map Pl.zh8 ++ cur.toList.drop (Pl.tot (ts.take k) + t.size)).toArray.size = Pl.tot ts) := by
      show _ = _
      have : t.data.size = t.size := rfl
      simp [this]
      omega
     clear hkt h1 hrow hrow2 hbel2 hbel
     go_wp2
     go_roundw
     case rel => exact ⟨k + 1, _, by omega, by go_num, by rw [za H1]; go_num, HROW2, hsz, HS, HB2⟩
     case measure => simp [intOf]; omega
    ·have HE2 : Hid (Pl.cat (ts.take k) = Pl.cat ts ∧ Pl.tot (ts.take k) = Pl.tot ts) := by
      show _ ∧ _
      rw [List.take_of_length_le (by omega)]
      exact ⟨rfl, rfl⟩
     have hp : cur.toList.take (Pl.tot ts) = (Pl.cat ts).map Pl.zh8 := by have := HP.out; rwa [HE2.out.1, HE2.out.2] at this
     have hcv := Mem.row_text (P := Tryz.prog) (cap := Pl.tot ts) Tryz.underlying149 Tryz.underlying5 Tryz.underlying9 (Pl.cat ts) (Pl.yi4 ts) hrow hp
     clear hp hrow
     go_wp2
     go_ret
     exact ⟨rfl, hbel⟩
end WJoin
end Go.Proofs.YtppmlbofhghghaaGreatDoor

namespace Go.Proofs.YtppmlbofhghghaaGreatDoor
open Go.RowKit
namespace Pl
def ze0 (ts : List ByteArray) : Nat → List ByteArray
 | 0 => []
 | k + 1 => ze0 ts k ++ (if k = 0 then [] else [⟨#[47]⟩]) ++ [ts.getD k ⟨#[]⟩]
theorem glueL_snoc (A : List (List UInt8)) (a : List UInt8) : zi1 (A ++ [a]) = zi1 A ++ (if A = [] then [] else [47]) ++ a := by
 by_cases h : A = []
 ·subst h; rfl
 ·rw [yd6 h (by simp), if_neg h]; simp [zi1]
theorem yo5 (A B : List ByteArray) : cat (A ++ B) = cat A ++ cat B := by simp [cat]
theorem parts_cat (ts : List ByteArray) : ∀ k, k ≤ ts.length → cat (ze0 ts k) = zi1 ((ts.take k).map by_) := by
 intro k
 induction k with
 | zero => intro _; rfl
 | succ k ih =>
  intro hk
  have hlt : k < ts.length := by omega
  rw [ze0, yo5, yo5, ih (by omega), List.take_add_one, List.getElem?_eq_getElem hlt, Option.toList_some, List.map_append, List.map_cons, List.map_nil, glueL_snoc, cat_one]
  have h1 : ts.getD k ⟨#[]⟩ = ts[k] := by simp [List.getD_eq_getElem?_getD, List.getElem?_eq_getElem hlt]
  rw [h1]
  have h2 : cat (if k = 0 then [] else [(⟨#[47]⟩ : ByteArray)]) = if (ts.take k).map by_ = [] then [] else [47] := by
   by_cases h0 : k = 0
   ·subst h0; rfl
   ·rw [if_neg h0, if_neg (by simp; exact ⟨h0, by intro e; subst e; simp at hlt⟩)]; rfl
  rw [h2]; rfl
theorem parts_glue (ts : List ByteArray) : (⟨(cat (ze0 ts ts.length)).toArray⟩ : ByteArray) = glue ts := by
 rw [parts_cat ts _ (Nat.le_refl _), List.take_length]; rfl
theorem parts_tot (ts : List ByteArray) : tot (ze0 ts ts.length) = (glue ts).size := by
 rw [← yi4, parts_cat ts _ (Nat.le_refl _), List.take_length, ← zt5, zh9]
theorem parts_length (ts : List ByteArray) : ∀ k, (ze0 ts k).length ≤ 2 * k := by
 intro k
 induction k with
 | zero => simp [ze0]
 | succ k ih =>
  rw [ze0]
  by_cases h : k = 0
  ·simp [h, ze0]
  ·simp [h]; omega
theorem parts_first {ts : List ByteArray} {t : ByteArray} (ht : ts[0]? = some t) : ze0 ts 1 = ze0 ts 0 ++ [t] := by
 simp [ze0, List.getD_eq_getElem?_getD, ht]
theorem parts_next {ts : List ByteArray} {k : Nat} {t : ByteArray} (hk : k ≠ 0) (ht : ts[k]? = some t) : ze0 ts (k + 1) = (ze0 ts k ++ [⟨#[47]⟩]) ++ [t] := by
 simp [ze0, List.getD_eq_getElem?_getD, ht, hk]
end Pl
namespace yc
theorem make12 (w : World) : (Instr.makeSlice 92 (.int .i64 0) (.int .i64 12)).run Tryz.prog w = .ok (.slice (some ⟨w.heap.size, 0, none⟩) 0 12) (w.alloc (.cells (madeCells (Value.string ⟨#[]⟩).cells 12) 9)) := by
 obtain ⟨i0, h0, h1, h2, h3⟩ := info_parts WWords.infoS
 have h := run_make (P := Tryz.prog) w 92 9 i0 (.string ⟨#[]⟩) Tryz.underlying92 h0 h1 .i64 .i64 0 12 (by omega) (by omega) (by rw [h3]; omega) (by omega)
 rw [h]; simp [h2]

set_option maxRecDepth 100000 in
set_option maxHeartbeats 400000 in
theorem any (v : Value) (ts : List ByteArray) (w : World) (hn : ts.length ≤ 1000) (hg : (Pl.glue ts).size ≤ 1000000) (hv : Mem.zo w v ts) :
  Calls Tryz.prog 150 #[v] w fun e w' => e = .returned (.string (Pl.glue ts)) ∧ Below w.heap.size w w' := by
 obtain ⟨i0, hi, hz0, hz1, hz2⟩ := info_parts WWords.infoS
 have hmk := make12
 have H0 : Hid ((⟨(Pl.cat (Pl.ze0 ts ts.length)).toArray⟩ : ByteArray) = Pl.glue ts) := Pl.parts_glue ts
 have H1 : Hid (Pl.tot (Pl.ze0 ts ts.length) ≤ 1000000000) := by have := Pl.parts_tot ts; show _ ≤ _; omega
 by_cases hts : ts = []
 ·subst hts
  have hv2 : ∃ a cap, v = .slice a 0 cap := by
   rcases hv with ⟨rfl, _⟩ | ⟨b, o, cap, rfl, _⟩
   ·exact ⟨_, _, rfl⟩
   ·exact ⟨_, _, rfl⟩
  obtain ⟨a, cap, rfl⟩ := hv2
  go_enter Tryz.func150, Tryz.ntmps150
  go_wp2
  go_loop [3, 9] (fun p i => p = .slice (some ⟨w.heap.size, 0, none⟩) 0 12 ∧ i = .int .i64 0) (fun _ _ => 0)
  case atStart => exact ⟨rfl, rfl⟩
  case round =>
   obtain ⟨rfl, rfl⟩ := hrel
   go_wp2_with fail
   refine (WJoin.any w.heap.size 0 12 [] _ (by simp) (by simp [Pl.tot]) (fun j t h => by simp at h) (by simp)).mono ?_
   rintro e w1 ⟨rfl, hb1⟩
   go_wp2
   go_ret
   exact ⟨rfl, ((Below.refl _ _).alloc (Nat.le_refl _) _).trans (hb1.mono (by simp))⟩
 have hpos : 0 < ts.length := List.length_pos_iff.2 hts
 have HNE : Hid (Pl.ze0 ts ts.length ≠ []) := by
  intro h
  obtain ⟨n, hn⟩ : ∃ n, ts.length = n + 1 := ⟨ts.length - 1, by omega⟩
  rw [hn, Pl.ze0] at h
  simp at h
 rcases hv with ⟨rfl, rfl⟩ | ⟨b, o, cap, rfl, hb, hcell⟩
 ·exact absurd rfl hts
 ·have HC := hide hcell
  clear hcell
  go_enter Tryz.func150, Tryz.ntmps150
  go_wp2
  go_loopw [3, 9] (fun p i wr => ∃ k : Nat, k ≤ ts.length ∧ i = .int .i64 (k : Int) ∧ wr.ownsRow w.heap.size 9 1 p (Pl.ze0 ts k).length ((Pl.ze0 ts k).map Value.string) ∧ Below w.heap.size w wr) (fun _ i _ => ts.length - (intOf i).toNat)
  case atStart => exact ⟨0, Nat.zero_le _, rfl, World.ownsRow_made _ _ 12 (Nat.le_refl _) (by unfold maxLen; omega) (size_madeCells _ _), (Below.refl _ _).alloc (Nat.le_refl _) _⟩
  case round =>
   obtain ⟨k, hk, rfl, hown, hbel⟩ := hrel
   have hb1 := hbel.size
   have hpl := Pl.parts_length ts k
   by_cases hlt : k < ts.length
   ·obtain ⟨t, hkt⟩ : ∃ t, ts[k]? = some t := ⟨_, List.getElem?_eq_getElem hlt⟩
    have hc : wr.cell? ⟨b, o + k, none⟩ = some (.string t) := (hbel.cell (p := ⟨b, o + k, none⟩) hb).trans (za HC k t hkt)
    by_cases h0 : k = 0
    ·have HS : Hid (Pl.ze0 ts (k + 1) = Pl.ze0 ts k ++ [t]) := by subst h0; exact Pl.parts_first hkt
     have hp : ¬ (0 : Int) < (k : Int) := by omega
     clear hkt h0
     go_wp2_with (at_builtin; refine wpList_append_own _ rfl _ _ 92 rfl w.heap.size 9 i0 (.string ⟨#[]⟩) 1 16 Tryz.underlying92 hi hz0 hz1 hz2 rfl (by decide) _ _ _ rfl (hown.alloc _) ⟨wr.heap.size, 0, none⟩ 1 1 [.string t] rfl rfl (Mem.zh7 _ _ _) (Mem.one_str _) (by unfold maxLen; omega) (by omega) (by simp; omega) ?_)
     ·intro v' w2 hown' hgrow _
      have hbel' := Mem.zl8 hbel (Nat.le_refl _) hown hgrow
      have hown2 : Hid (w2.ownsRow w.heap.size 9 1 v' (Pl.ze0 ts (k + 1)).length ((Pl.ze0 ts (k + 1)).map Value.string)) := by
       show World.ownsRow _ _ _ _ _ _ _
       rw [za HS]; simpa using hown'
      clear hgrow hown hbel hown' hc
      go_wp2
      go_roundw
      case rel => exact ⟨k + 1, by omega, by go_num, hown2, hbel'⟩
      case measure => simp [intOf]; omega
    ·have HS := hide (Pl.parts_next h0 hkt)
     have hp : (0 : Int) < (k : Int) := by omega
     clear hkt
     go_wp2_with (at_builtin; refine wpList_append_own _ rfl _ _ 92 rfl w.heap.size 9 i0 (.string ⟨#[]⟩) 1 16 Tryz.underlying92 hi hz0 hz1 hz2 rfl (by decide) _ _ _ rfl (hown.alloc _) ⟨wr.heap.size, 0, none⟩ 1 1 [.string ⟨#[47]⟩] rfl rfl (Mem.zh7 _ _ _) (Mem.one_str _) (by unfold maxLen; omega) (by omega) (by simp; omega) ?_)
     ·intro v1 w1 hown' hgrow _
      have hbel' := Mem.zl8 hbel (Nat.le_refl _) hown hgrow
      have hown1 : w1.ownsRow w.heap.size 9 1 v1 (Pl.ze0 ts k ++ [(⟨#[47]⟩ : ByteArray)]).length ((Pl.ze0 ts k ++ [(⟨#[47]⟩ : ByteArray)]).map Value.string) := by simpa using hown'
      have hb2 := hbel'.size
      have hl2 : (Pl.ze0 ts k ++ [(⟨#[47]⟩ : ByteArray)]).length ≤ 2 * k + 1 := by simp; omega
      clear hgrow hown hbel hown' hc hpl
      go_wp2_with (at_builtin; refine wpList_append_own _ rfl _ _ 92 rfl w.heap.size 9 i0 (.string ⟨#[]⟩) 1 16 Tryz.underlying92 hi hz0 hz1 hz2 rfl (by decide) _ _ _ rfl (hown1.alloc _) ⟨w1.heap.size, 0, none⟩ 1 1 [.string t] rfl rfl (Mem.zh7 _ _ _) (Mem.one_str _) (by unfold maxLen; omega) (by omega) (by simp; omega) ?_)
      ·intro v' w2 hown' hgrow _
       have hbel2 := Mem.zl8 hbel' (Nat.le_refl _) hown1 hgrow
       have hown2 : Hid (w2.ownsRow w.heap.size 9 1 v' (Pl.ze0 ts (k + 1)).length ((Pl.ze0 ts (k + 1)).map Value.string)) := by
        show World.ownsRow _ _ _ _ _ _ _
        rw [za HS]; simpa using hown'
       clear hgrow hown1 hbel' hown'
       go_wp2
       go_roundw
       case rel => exact ⟨k + 1, by omega, by go_num, hown2, hbel2⟩
       case measure => simp [intOf]; omega
   ·obtain rfl : k = ts.length := by omega
    rcases Mem.zo6 hown with ⟨rfl, hnil⟩ | ⟨g, o', cap', rfl, hgl, hcell'⟩
    ·exact absurd hnil HNE.out
    ·have HC' := hide hcell'
     clear hcell' hown
     go_wp2_with fail
     refine (WJoin.any g o' cap' (Pl.ze0 ts ts.length) _ (by omega) H1.out HC'.out hgl).mono ?_
     rintro e w1 ⟨rfl, hb1⟩
     go_wp2
     go_ret
     exact ⟨by rw [H0.out]; rfl, hbel.trans (hb1.mono (by omega))⟩
end yc
end Go.Proofs.YtppmlbofhghghaaGreatDoor

namespace Go.Proofs.YtppmlbofhghghaaGreatDoor
open Go.RowKit Go.Shelf
attribute [local go_sem] Oper.semAt_some
namespace Pl
def ways (L : List ByteArray) (k : Nat) : List ByteArray := (List.range k).map (fun i => glue (L.take (i + 1)))
theorem yf3 (L : List ByteArray) (k : Nat) : ways L (k + 1) = ways L k ++ [glue (L.take (k + 1))] := by simp [ways, List.range_succ]
theorem yh6 (L : List ByteArray) (k : Nat) : (ways L k).length = k := by simp [ways]
end Pl
namespace zk2
abbrev Small := { x : ByteArray // x.size ≤ 1000000 }
def KC (X : Nat) (W W' : World) : Prop := W.heap.size ≤ W'.heap.size ∧ ∀ (j : Nat) (o : Obj), j ≠ X → W.heap[j]? = some o → o.isCells = true → W'.heap[j]? = some o
theorem KC.trans {X : Nat} {A B C : World} (h1 : KC X A B) (h2 : KC X B C) : KC X A C := ⟨Nat.le_trans h1.1 h2.1, fun j o hj ho hc => h2.2 j o hj (h1.2 j o hj ho hc) hc⟩
theorem KC.put {X l : Nat} (W : World) (o o' : Obj) (hl : W.heap[l]? = some o) (ho : o.isCells = false) : KC X W (W.putObj l o') := by
 refine ⟨by simp, fun j p _ hp hc => ?_⟩
 have hne : j ≠ l := fun e => by rw [e, hl] at hp; cases hp; rw [ho] at hc; cases hc
 exact (World.putObj_heap_other hne).trans hp
theorem row_kept {X : Nat} {W W' : World} {B T n : Nat} {v : Value} {xs : List Value} (h : W.ownsRow B T 1 v n xs) (k : KC X W W') (hX : X < B) : W'.ownsRow B T 1 v n xs := by
 refine ⟨h.1, ?_⟩
 rcases h.2 with h0 | ⟨g, cap, cur, hv, hb, hg, rest⟩
 ·exact .inl h0
 ·exact .inr ⟨g, cap, cur, hv, hb, k.2 g _ (by omega) hg rfl, rest⟩
end zk2
namespace Mem
theorem yp7 {w : World} {a : Option Addr} {n cap : Nat} {L : List ByteArray} (h : zo w (.slice a n cap) L) (k : Nat) (hk : k ≤ L.length) (h0 : 0 < k) : zo w (.slice a k cap) (L.take k) := by
 rcases h with ⟨_, h2⟩ | ⟨b, o, cap', hv, hb, hc⟩
 ·subst h2; simp at hk; omega
 ·injection hv with e1 e2 e3
  subst e1
  refine .inr ⟨b, o, cap, by rw [List.length_take, Nat.min_eq_left hk], hb, fun j t hj => hc j t ?_⟩
  rw [List.getElem?_take] at hj
  split at hj
  ·exact hj
  ·cases hj
theorem own_cap {w : World} {B T n cap : Nat} {a : Option Addr} {xs : List Value} (h : w.ownsRow B T 1 (.slice a n cap) n xs) : n ≤ cap := by
 rcases h.2 with ⟨hv, h0⟩ | ⟨g, cap', cur, hv, hb, hg, hc, rest⟩
 ·omega
 ·injection hv with e1 e2 e3
  omega
end Mem
namespace zk2
set_option linter.unusedSimpArgs false in
set_option maxRecDepth 100000 in
set_option maxHeartbeats 2000000 in
theorem iter_stops (n : Nat) (X : Nat) (q : Addr) (p : ByteArray) (w : World) (hX : X < w.heap.size) (hq : w.cell? q = some (.string p)) (hql : q.block < w.heap.size) (hp : p.size ≤ 1048576) :
  SeqStopsK Fence.wide n Tryz.prog 149 #[.pointer (some q)] (fun x : Small => #[Value.string x.1]) (KC X) (fun xs => xs.map Subtype.val = Pl.ways (Pl.zb2 p) (Pl.zb2 p).length) (fun _ => True) (Pl.zb2 p).length w := fun l J Jx W hW hJ _ hY h0 => by
 have hq1 : W.cell? q = some (.string p) := (hW.cell hql).trans hq
 have hXW : X < W.heap.size := Nat.lt_of_lt_of_le hX hW.size
 have HN := hide (yd8.any p W hp)
 generalize Pl.za3 p = rr at HN
 have hl6 : (Pl.zb2 p).length ≤ 6 := (Pl.zg4 p).2
 have HGL : Hid (∀ k, (Pl.glue ((Pl.zb2 p).take k)).size ≤ 1000000) := fun k => Pl.ya4 (fun t ht => (Pl.zg4 p).1 t (List.mem_of_mem_take ht)) (by have := (Pl.zg4 p).2; simp; omega)
 generalize Pl.zb2 p = L at hY hl6 HGL HN ⊢
 refine callsIn_of_wp Tryz.func149 rfl trivial ?_ rfl
 simp only [Tryz.ntmps149, List.size_toArray, List.length_cons, List.length_nil, Nat.reduceAdd, Nat.reduceSub, Array.replicate_succ, Array.replicate_zero, List.push_toArray, List.append_toArray, List.nil_append, List.cons_append]
 gi_wp2_with fail
 refine ⟨trivial, fun h => (by cases h), ?_⟩
 refine (callsIn_wide.2 (za HN)).mono ?_
 rintro e w1 ⟨v, rfl, own, b1⟩
 obtain ⟨a, cap, rfl⟩ := Mem.za2 own
 have hJ1 : Hid (∃ pre : List Small, pre.map Subtype.val = Pl.ways L 0 ∧ J pre w1) := ⟨[], rfl, hJ [] W w1 none h0 (Mem.zc9 b1 none) (fun r e => by cases e)⟩
 have OW := hide own
 have HY := hide hY
 clear HN own b1 h0 hY
 gi_wp2_with fail
 gi_loopw [13] (fun i wr => ∃ k : Nat, k ≤ L.length ∧ i = .int .i64 k ∧ Hid (∃ pre : List Small, pre.map Subtype.val = Pl.ways L k ∧ J pre wr) ∧ Hid (wr.ownsRow W.heap.size 9 1 (.slice a L.length cap) L.length (L.map Value.string)))
  (fun i _ => L.length - (intOf i).toNat)
 case atStart => exact ⟨0, Nat.zero_le _, rfl, hJ1, OW⟩
 case round =>
  obtain ⟨k, hk, rfl, HJ, HO⟩ := hrel
  clear hJ1 OW
  by_cases hlt : k < L.length
  ·have y1 : (k : Int) < (L.length : Int) := by omega
   have hT := Mem.yp7 (Mem.zo6 (za HO)) (k + 1) (by omega) (by omega)
   have HP := hide (yc.any (.slice a (k + 1) cap) (L.take (k + 1)) wr (by simp; omega) (za HGL (k + 1)) hT)
   have hcap := Mem.own_cap (za HO)
   have hw1 : IntKind.i64.wrap ((k : Int) + 1) = (k : Int) + 1 := by simp only [IntKind.wrap_i64]; omega
   clear hT
   gi_wp2_with fail
   refine ⟨trivial, fun h => (by cases h), ?_⟩
   refine (callsIn_wide.2 (za HP)).mono ?_
   rintro e w2 ⟨rfl, b2⟩
   obtain ⟨pre, hpre, hJp⟩ := za HJ
   have HJ2 : J pre w2 := hJ _ wr w2 none hJp (Mem.zc9 b2 none) (fun r e => by cases e)
   have HO2 := hide (Mem.zj9 (za HO) b2)
   obtain ⟨fn, tmps, assign, body, hy, hR⟩ := za HY pre ⟨Pl.glue (L.take (k + 1)), za HGL (k + 1)⟩ w2 HJ2 (by have := congrArg List.length hpre; rw [Pl.yh6, List.length_map] at this; omega)
   have HWS : Hid ((pre ++ [(⟨Pl.glue (L.take (k + 1)), za HGL (k + 1)⟩ : Small)]).map Subtype.val = Pl.ways L (k + 1)) := by rw [List.map_append, hpre, Pl.yf3]; exact rfl
   dsimp only at hy
   clear HP HJ HO HJ2 b2 hpre hJp
   gi_wp2
   refine ⟨fun h => (by cases h), ?_⟩
   refine hR.mono ?_
   rintro e W3 (⟨rfl, hJ3, hk3⟩ | ⟨rfl, hJx3⟩)
   ·have HJ3 : Hid (∃ pre : List Small, pre.map Subtype.val = Pl.ways L (k + 1) ∧ J pre W3) := ⟨_, za HWS, hJ3⟩
    have HO3 := hide (row_kept (za HO2) hk3 hXW)
    clear hJ3 hk3 HO2 hR hy HWS
    gi_wp2
    go_roundw
    case rel => exact ⟨k + 1, by omega, by go_num, HJ3, HO3⟩
    case measure => simp [intOf]; omega
   ·gi_wp2
    refine bodyPost_ret (results_none rfl _ _ _) rfl ?_
    exact ⟨⟨_, rfl⟩, .inr ⟨_, trivial, hJx3⟩⟩
  ·obtain rfl : k = L.length := by omega
   have y1 : ¬ ((L.length : Int) < (L.length : Int)) := by omega
   gi_wp2
   go_end0
   exact ⟨⟨_, rfl⟩, .inl (za HJ)⟩
set_option maxRecDepth 100000 in
theorem paths_any (p : ByteArray) (w : World) : Calls Tryz.prog 124 #[.string p] w fun e w' => e = .returned (.func (.func 149) #[] #[.pointer (some ⟨w.heap.size, 0, none⟩)]) ∧ w' = w.alloc (.cells #[.string p] 9) := by
 have hmf : ∀ (fn : Fn) (first cap : Array Value) (w : World), (Instr.makeFunc fn first cap).run Tryz.prog w = .ok (.func fn first cap) w := fun _ _ _ _ => rfl
 go_enter Tryz.func124, Tryz.ntmps124
 go_wp2
 go_ret
 exact ⟨rfl, rfl⟩
end zk2
end Go.Proofs.YtppmlbofhghghaaGreatDoor

namespace Go.Proofs.YtppmlbofhghghaaGreatDoor
open Go.RowKit
namespace zk7
theorem set_have (t : Bool) (n : Pl.Nd) (hv : List Bool) (k : Nat) (x : Bool) : (Pl.Sg.cs ⟨t, n, hv⟩).toArray.setIfInBounds (6 + k) (.bool x) = (Pl.Sg.cs ⟨t, n, hv.set k x⟩).toArray := by
 rw [List.setIfInBounds_toArray]
 unfold Pl.Sg.cs
 rw [List.set_append_right _ _ (by simp)]
 simp [List.map_set]
theorem set_mark (t : Bool) (n : Pl.Nd) (hv : List Bool) (m : Int) : (Pl.Sg.cs ⟨t, n, hv⟩).toArray.setIfInBounds 5 (.int .i64 m) = (Pl.Sg.cs ⟨t, ⟨n.path, n.kind, n.data, n.time, m⟩, hv⟩).toArray := by
 rw [List.setIfInBounds_toArray]
 rfl
theorem set_node (n : Pl.Nd) (hv : List Bool) (u : Bool) (m : Pl.Nd) : ((((((Pl.Sg.cs ⟨u, m, hv⟩).toArray.setIfInBounds 0 (.bool true)).setIfInBounds 1 (.string n.path)).setIfInBounds 2 (.int .i64 n.kind)).setIfInBounds 3 (.string n.data)).setIfInBounds 4 (.int .i64 n.time)).setIfInBounds 5 (.int .i64 n.mark) = (Pl.Sg.cs ⟨true, n, hv⟩).toArray := by
 simp only [kB3]
 rfl
theorem yn3 (w : World) (b : Nat) : w.grownBy w (some b) := ⟨rfl, rfl, rfl, Nat.le_refl _, fun _ _ _ => rfl⟩
theorem zd7 {w v : World} {g : Nat} (h : w.grownBy v (some g)) (o : Nat) (x : Value) : w.grownBy (v.setCell ⟨g, o, none⟩ x) (some g) :=
 ⟨h.os, h.tape, h.output, Nat.le_trans h.size (by simp [World.setCell]), fun j hj hne => (Below.heap_setCell _ _ _ _ (by intro e; exact hne (by rw [e]))).trans (h.block j hj hne)⟩
theorem yn0 {w w' : World} {b : Nat} (h : w.grownBy w' (some b)) (o : Obj) : w.grownBy (w'.alloc o) (some b) :=
 Mem.zj7 h (Mem.zc9 ((Below.refl _ _).alloc (Nat.le_refl _) o) (some b))
set_option linter.unusedSimpArgs false in
set_option maxRecDepth 100000 in
set_option maxHeartbeats 2000000 in
theorem take_any (b k : Nat) (s : Pl.Sg) (n : Pl.Nd) (w : World) (hk : k < 4) (hh : s.have'.length = 4) (hb : Mem.Blk w b s.cs.toArray 241) :
  Calls Tryz.prog 196 #[.pointer (some ⟨b, 0, none⟩), .int .i64 k, n.val] w fun e w' => e = .returned (.bool (Pl.zk0 n)) ∧ Mem.Blk w' b (Pl.zh5 s k n).cs.toArray 241 ∧ w.grownBy w' (some b) := by
 obtain ⟨told, ⟨sp, sk, sd, st, sm⟩, hv⟩ := s
 obtain ⟨np, nk, nd, nt, nm⟩ := n
 obtain ⟨h0, h1, h2, h3, rfl⟩ : ∃ h0 h1 h2 h3, hv = [h0, h1, h2, h3] := by
  match hv, hh with
  | [a, b, c, d], _ => exact ⟨a, b, c, d, rfl⟩
 have hix : 0 ≤ (k : Int) ∧ (k : Int) < 4 := by omega
 simp only [Pl.Nd.val]
 have hbl := hb.lt
 have V := hb.alloc (.cells #[.string np, .int .i64 nk, .string nd, .int .i64 nt, .int .i64 nm] 47)
 have N := Mem.Blk.new w #[.string np, .int .i64 nk, .string nd, .int .i64 nt, .int .i64 nm] 47
 have c0 := hb.cell 0
 have c1 := hb.cell 1
 have c2 := hb.cell 2
 have c3 := hb.cell 3
 have c4 := hb.cell 4
 have c5 := hb.cell 5
 have f0 := hb.fr 0
 have f1 := hb.fr 1
 have f2 := hb.fr 2
 have f3 := hb.fr 3
 have f4 := hb.fr 4
 have f5 := hb.fr 5
 have fk := hb.fr (6 + k)
 obtain ⟨x, ck⟩ : ∃ x, w.cell? ⟨b, 6 + k, none⟩ = some (.bool x) := by
  rw [hb.cell (6 + k)]
  obtain rfl | rfl | rfl | rfl : k = 0 ∨ k = 1 ∨ k = 2 ∨ k = 3 := by omega
  all_goals exact ⟨_, rfl⟩
 simp only [Pl.Sg.cs, List.map_cons, List.map_nil, List.cons_append, List.nil_append, kA0, kA1, kA2] at c0 c1 c2 c3 c4 c5
 have hN : ∀ (t : Bool) (x : Bool) (M : Int), Mem.Blk (((w.setCell ⟨b, 5, none⟩ (.int .i64 M)).setCell ⟨b, 6 + k, none⟩ (.bool x)).alloc (.cells #[.string np, .int .i64 nk, .string nd, .int .i64 nt, .int .i64 nm] 47)).drew.drew b (Pl.Sg.cs ⟨told, ⟨sp, sk, sd, st, M⟩, [h0, h1, h2, h3].set k x⟩).toArray 241 ∧ w.grownBy (((w.setCell ⟨b, 5, none⟩ (.int .i64 M)).setCell ⟨b, 6 + k, none⟩ (.bool x)).alloc (.cells #[.string np, .int .i64 nk, .string nd, .int .i64 nt, .int .i64 nm] 47)).drew.drew (some b) := by
  intro t x M
  have h1 := ((hb.put 5 (.int .i64 M)).put (6 + k) (.bool x)).alloc (.cells #[.string np, .int .i64 nk, .string nd, .int .i64 nt, .int .i64 nm] 47)
  rw [set_mark, set_have] at h1
  have h2 := yn0 (zd7 (zd7 (yn3 w b) 5 (.int .i64 M)) (6 + k) (.bool x)) (.cells #[.string np, .int .i64 nk, .string nd, .int .i64 nt, .int .i64 nm] 47)
  exact ⟨h1, ⟨h2.os, h2.tape, h2.output, h2.size, h2.block⟩⟩
 cases told
 ·clear hN
  have V2 : Mem.Blk (((((((((w.setCell ⟨b, 0, none⟩ (.bool true)).setCell ⟨b, 1, none⟩ (.string np)).setCell ⟨b, 2, none⟩ (.int .i64 nk)).setCell ⟨b, 3, none⟩ (.string nd)).setCell ⟨b, 4, none⟩ (.int .i64 nt)).setCell ⟨b, 5, none⟩ (.int .i64 nm)).alloc (.cells #[.string np, .int .i64 nk, .string nd, .int .i64 nt, .int .i64 nm] 47))).drew) b (Pl.Sg.cs ⟨true, ⟨np, nk, nd, nt, nm⟩, [h0, h1, h2, h3]⟩).toArray 241 := by
   have h := ((((((hb.put 0 (.bool true)).put 1 (.string np)).put 2 (.int .i64 nk)).put 3 (.string nd)).put 4 (.int .i64 nt)).put 5 (.int .i64 nm)).alloc (.cells #[.string np, .int .i64 nk, .string nd, .int .i64 nt, .int .i64 nm] 47)
   rw [set_node ⟨np, nk, nd, nt, nm⟩] at h
   exact h
  have hsz : (((((((((w.setCell ⟨b, 0, none⟩ (.bool true)).setCell ⟨b, 1, none⟩ (.string np)).setCell ⟨b, 2, none⟩ (.int .i64 nk)).setCell ⟨b, 3, none⟩ (.string nd)).setCell ⟨b, 4, none⟩ (.int .i64 nt)).setCell ⟨b, 5, none⟩ (.int .i64 nm)).alloc (.cells #[.string np, .int .i64 nk, .string nd, .int .i64 nt, .int .i64 nm] 47))).drew).heap.size = w.heap.size + 1 := by simp
  have N2 : Mem.Blk (((((((((w.setCell ⟨b, 0, none⟩ (.bool true)).setCell ⟨b, 1, none⟩ (.string np)).setCell ⟨b, 2, none⟩ (.int .i64 nk)).setCell ⟨b, 3, none⟩ (.string nd)).setCell ⟨b, 4, none⟩ (.int .i64 nt)).setCell ⟨b, 5, none⟩ (.int .i64 nm)).alloc (.cells #[.string np, .int .i64 nk, .string nd, .int .i64 nt, .int .i64 nm] 47))).drew) w.heap.size #[.string np, .int .i64 nk, .string nd, .int .i64 nt, .int .i64 nm] 47 := by
   have h := Mem.Blk.new ((((((w.setCell ⟨b, 0, none⟩ (.bool true)).setCell ⟨b, 1, none⟩ (.string np)).setCell ⟨b, 2, none⟩ (.int .i64 nk)).setCell ⟨b, 3, none⟩ (.string nd)).setCell ⟨b, 4, none⟩ (.int .i64 nt)).setCell ⟨b, 5, none⟩ (.int .i64 nm)) #[.string np, .int .i64 nk, .string nd, .int .i64 nt, .int .i64 nm] 47
   simp only [World.size_setCell] at h
   exact h
  have G2 : w.grownBy (((((((((w.setCell ⟨b, 0, none⟩ (.bool true)).setCell ⟨b, 1, none⟩ (.string np)).setCell ⟨b, 2, none⟩ (.int .i64 nk)).setCell ⟨b, 3, none⟩ (.string nd)).setCell ⟨b, 4, none⟩ (.int .i64 nt)).setCell ⟨b, 5, none⟩ (.int .i64 nm)).alloc (.cells #[.string np, .int .i64 nk, .string nd, .int .i64 nt, .int .i64 nm] 47))).drew) (some b) := by
   have h := yn0 (zd7 (zd7 (zd7 (zd7 (zd7 (zd7 (yn3 w b) 0 (.bool true)) 1 (.string np)) 2 (.int .i64 nk)) 3 (.string nd)) 4 (.int .i64 nt)) 5 (.int .i64 nm)) (.cells #[.string np, .int .i64 nk, .string nd, .int .i64 nt, .int .i64 nm] 47)
   exact ⟨h.os, h.tape, h.output, h.size, h.block⟩
  have hM : max nm nm = nm := by omega
  have hmx : ¬ nm < nm := by omega
  go_enter Tryz.func196, Tryz.ntmps196
  go_wp2
  go_region
  go_wp2
  generalize (((((((((w.setCell ⟨b, 0, none⟩ (.bool true)).setCell ⟨b, 1, none⟩ (.string np)).setCell ⟨b, 2, none⟩ (.int .i64 nk)).setCell ⟨b, 3, none⟩ (.string nd)).setCell ⟨b, 4, none⟩ (.int .i64 nt)).setCell ⟨b, 5, none⟩ (.int .i64 nm)).alloc (.cells #[.string np, .int .i64 nk, .string nd, .int .i64 nt, .int .i64 nm] 47))).drew) = w2 at V2 N2 G2 hsz ⊢
  have HN : Hid (∀ x : Bool, Mem.Blk ((w2.setCell ⟨b, 5, none⟩ (.int .i64 nm)).setCell ⟨b, 6 + k, none⟩ (.bool x)).drew.drew b (Pl.Sg.cs ⟨true, ⟨np, nk, nd, nt, nm⟩, [h0, h1, h2, h3].set k x⟩).toArray 241 ∧ w.grownBy ((w2.setCell ⟨b, 5, none⟩ (.int .i64 nm)).setCell ⟨b, 6 + k, none⟩ (.bool x)).drew.drew (some b)) := by
   intro x
   have h1 := (V2.put 5 (.int .i64 nm)).put (6 + k) (.bool x)
   rw [set_mark, set_have] at h1
   have h2 := zd7 (zd7 G2 5 (.int .i64 nm)) (6 + k) (.bool x)
   exact ⟨h1, ⟨h2.os, h2.tape, h2.output, h2.size, h2.block⟩⟩
  have c5 := V2.cell 5
  have f5 := V2.fr 5
  have fk := V2.fr (6 + k)
  have n1 := N2.cell 1
  have n4 := N2.cell 4
  obtain ⟨x, ck⟩ : ∃ x, w2.cell? ⟨b, 6 + k, none⟩ = some (.bool x) := by
   rw [V2.cell (6 + k)]
   obtain rfl | rfl | rfl | rfl : k = 0 ∨ k = 1 ∨ k = 2 ∨ k = 3 := by omega
   all_goals exact ⟨_, rfl⟩
  simp only [Pl.Sg.cs, List.map_cons, List.map_nil, List.cons_append, List.nil_append, kA0, kA1, kA2] at c5 n1 n4
  clear V2 N2 G2 hb V N c0 c1 c2 c3 c4
  have hne : ¬ w.heap.size = b := by omega
  by_cases hn : nk = 1
  ·subst hn
   go_region
   go_wp2
   go_region
   go_wp2
   go_ret
   exact ⟨by simp [Pl.zk0], by simp only [Pl.zh5, Pl.zm1, Bool.false_eq_true, if_false, hM, decide_true]; exact (za HN true).1, (za HN true).2⟩
  ·have t1 : (nk == 1) = false := by simpa using hn
   have t2 : (nk != 1) = true := by simpa using hn
   have t3 : decide (nk = 1) = false := by simpa using hn
   go_region
   go_wp2
   go_region
   go_wp2
   go_ret
   exact ⟨by simp [Pl.zk0, hn], by simp only [Pl.zh5, Pl.zm1, Bool.false_eq_true, if_false, hM, t3]; exact (za HN false).1, (za HN false).2⟩
 ·have HN := hide hN
  clear hN V N hb
  by_cases hmx : sm < nm
  ·have hM : max sm nm = nm := by omega
   by_cases hn : nk = 1
   ·subst hn
    go_enter Tryz.func196, Tryz.ntmps196
    go_wp2
    go_region
    go_wp2
    go_region
    go_wp2
    go_ret
    exact ⟨by simp [Pl.zk0], by simp only [Pl.zh5, Pl.zm1, if_true, hM, decide_true]; exact (za HN true true nm).1, (za HN true true nm).2⟩
   ·have t1 : (nk == 1) = false := by simpa using hn
    have t2 : (nk != 1) = true := by simpa using hn
    have t3 : decide (nk = 1) = false := by simpa using hn
    go_enter Tryz.func196, Tryz.ntmps196
    go_wp2
    go_region
    go_wp2
    go_region
    go_wp2
    go_ret
    exact ⟨by simp [Pl.zk0, hn], by simp only [Pl.zh5, Pl.zm1, if_true, hM, t3]; exact (za HN true false nm).1, (za HN true false nm).2⟩
  ·have hM : max sm nm = sm := by omega
   by_cases hn : nk = 1
   ·subst hn
    go_enter Tryz.func196, Tryz.ntmps196
    go_wp2
    go_region
    go_wp2
    go_region
    go_wp2
    go_ret
    exact ⟨by simp [Pl.zk0], by simp only [Pl.zh5, Pl.zm1, if_true, hM, decide_true]; exact (za HN true true sm).1, (za HN true true sm).2⟩
   ·have t1 : (nk == 1) = false := by simpa using hn
    have t2 : (nk != 1) = true := by simpa using hn
    have t3 : decide (nk = 1) = false := by simpa using hn
    go_enter Tryz.func196, Tryz.ntmps196
    go_wp2
    go_region
    go_wp2
    go_region
    go_wp2
    go_ret
    exact ⟨by simp [Pl.zk0, hn], by simp only [Pl.zh5, Pl.zm1, if_true, hM, t3]; exact (za HN true false sm).1, (za HN true false sm).2⟩
end zk7
end Go.Proofs.YtppmlbofhghghaaGreatDoor

namespace Go.Proofs.YtppmlbofhghghaaGreatDoor
open Go.RowKit
namespace Pl
def partsR (n : Nat) : List Bool := [decide (0 < n), decide (1 < n), decide (2 < n), decide (3 < n)]
def zu0 (n : Nat) : Sg := ⟨false, za7, partsR n⟩
theorem parts_set {k : Nat} (h : k < 4) : (partsR k).set k true = partsR (k + 1) := by
 obtain rfl | rfl | rfl | rfl : k = 0 ∨ k = 1 ∨ k = 2 ∨ k = 3 := by omega
 all_goals rfl
end Pl
namespace zk7
set_option maxRecDepth 100000 in
theorem dec_make (a : Option Addr) (n cap : Nat) (w : World) : Calls Tryz.prog 193 #[.slice a n cap] w fun e w' => e = .returned (.func (.func 195) #[] #[.pointer (some ⟨w.heap.size, 0, none⟩)]) ∧ w' = w.alloc (.cells #[.slice a n cap] 194) := by
 have hmf : ∀ (fn : Fn) (first cap : Array Value) (w : World), (Instr.makeFunc fn first cap).run Tryz.prog w = .ok (.func fn first cap) w := fun _ _ _ _ => rfl
 go_enter Tryz.func193, Tryz.ntmps193
 go_wp2
 go_ret
 exact ⟨rfl, rfl⟩
set_option linter.unusedSimpArgs false in
set_option maxRecDepth 100000 in
set_option maxHeartbeats 2000000 in
theorem root_any (a : Option Addr) (n cap : Nat) (w : World) (hn : n ≤ 4) :
  Calls Tryz.prog 194 #[.slice a n cap] w fun e w' => e = .returned (.agg (Pl.zu0 n).cs.toArray) ∧ Below w.heap.size w w' := by
 have b0 : Below w.heap.size w ((w.alloc (.cells Pl.Sg.zero.cs.toArray 241)).alloc (.cells Pl.Sg.zero.cs.toArray 241)) := ((Below.refl _ _).alloc (Nat.le_refl _) _).alloc (by simp) _
 have A0 : Hid (Below w.heap.size w ((w.alloc (.cells Pl.Sg.zero.cs.toArray 241)).alloc (.cells Pl.Sg.zero.cs.toArray 241)) ∧ Mem.Blk ((w.alloc (.cells Pl.Sg.zero.cs.toArray 241)).alloc (.cells Pl.Sg.zero.cs.toArray 241)) w.heap.size Pl.Sg.zero.cs.toArray 241 ∧ Mem.Blk ((w.alloc (.cells Pl.Sg.zero.cs.toArray 241)).alloc (.cells Pl.Sg.zero.cs.toArray 241)) (w.heap.size + 1) (Pl.zu0 0).cs.toArray 241) := ⟨b0, (Mem.Blk.new _ _ _).alloc _, Mem.zg0 _ _ _⟩
 simp only [Pl.Sg.zero, Pl.za7, Pl.Sg.cs, List.map_cons, List.map_nil, List.cons_append, List.nil_append] at A0
 have hR : w.heap.size ≤ w.heap.size := Nat.le_refl _
 clear b0
 go_enter Tryz.func194, Tryz.ntmps194
 go_wp2
 go_loopw [7] (fun i wr => ∃ k : Nat, k ≤ n ∧ i = .int .i64 (k : Int) ∧ Hid (Below w.heap.size w wr ∧ Mem.Blk wr w.heap.size Pl.Sg.zero.cs.toArray 241 ∧ Mem.Blk wr (w.heap.size + 1) (Pl.zu0 k).cs.toArray 241)) (fun i _ => n - (intOf i).toNat)
 case atStart => exact ⟨0, Nat.zero_le _, rfl, A0⟩
 case round =>
  obtain ⟨k, hk, rfl, HA⟩ := hrel
  clear A0
  by_cases hlt : k < n
  ·have y1 : (k : Int) < (n : Int) := by omega
   have hix : 0 ≤ (k : Int) ∧ (k : Int) < 4 := by omega
   have fk := (za HA).2.2.fr (6 + k)
   obtain ⟨x, ck⟩ : ∃ x, wr.cell? ⟨w.heap.size + 1, 6 + k, none⟩ = some (.bool x) := by
    rw [(za HA).2.2.cell (6 + k)]
    obtain rfl | rfl | rfl | rfl : k = 0 ∨ k = 1 ∨ k = 2 ∨ k = 3 := by omega
    all_goals exact ⟨_, rfl⟩
   have A2 : Hid (Below w.heap.size w (wr.setCell ⟨w.heap.size + 1, 6 + k, none⟩ (.bool true)) ∧ Mem.Blk (wr.setCell ⟨w.heap.size + 1, 6 + k, none⟩ (.bool true)) w.heap.size Pl.Sg.zero.cs.toArray 241 ∧ Mem.Blk (wr.setCell ⟨w.heap.size + 1, 6 + k, none⟩ (.bool true)) (w.heap.size + 1) (Pl.zu0 (k + 1)).cs.toArray 241) := by
    refine ⟨(za HA).1.setCell (by show w.heap.size ≤ w.heap.size + 1; omega) _, (za HA).2.1.far _ _ (by show w.heap.size ≠ w.heap.size + 1; omega), ?_⟩
    have h := (za HA).2.2.put (6 + k) (.bool true)
    unfold Pl.zu0 at h
    rw [set_have, Pl.parts_set (by omega)] at h
    exact h
   clear HA
   go_wp2
   go_roundw
   case rel => exact ⟨k + 1, by omega, by go_num, A2⟩
   case measure => simp [intOf]; omega
  ·obtain rfl : k = n := by omega
   have y1 : ¬ ((k : Int) < (k : Int)) := by omega
   have R1 := (za HA).2.1
   have S1 := (za HA).2.2
   have BU := (za HA).1
   have ER : Hid (Pl.zu0 k = ⟨false, Pl.za7, [decide (0 < k), decide (1 < k), decide (2 < k), decide (3 < k)]⟩) := rfl
   generalize decide (0 < k) = g0 at ER
   generalize decide (1 < k) = g1 at ER
   generalize decide (2 < k) = g2 at ER
   generalize decide (3 < k) = g3 at ER
   rw [za ER] at S1
   have c0 := R1.cell 0
   have f0 := R1.fr 0
   have d0 := S1.cell 0
   have c1 := R1.cell 1
   have f1 := R1.fr 1
   have d1 := S1.cell 1
   have c2 := R1.cell 2
   have f2 := R1.fr 2
   have d2 := S1.cell 2
   have c3 := R1.cell 3
   have f3 := R1.fr 3
   have d3 := S1.cell 3
   have c4 := R1.cell 4
   have f4 := R1.fr 4
   have d4 := S1.cell 4
   have c5 := R1.cell 5
   have f5 := R1.fr 5
   have d5 := S1.cell 5
   have c6 := R1.cell 6
   have f6 := R1.fr 6
   have d6 := S1.cell 6
   have c7 := R1.cell 7
   have f7 := R1.fr 7
   have d7 := S1.cell 7
   have c8 := R1.cell 8
   have f8 := R1.fr 8
   have d8 := S1.cell 8
   have c9 := R1.cell 9
   have f9 := R1.fr 9
   have d9 := S1.cell 9
   simp only [Pl.Sg.zero, Pl.za7, Pl.Sg.cs, List.map_cons, List.map_nil, List.cons_append, List.nil_append, kA0, kA1, kA2] at c0 c1 c2 c3 c4 c5 c6 c7 c8 c9 d0 d1 d2 d3 d4 d5 d6 d7 d8 d9
   clear R1 S1 HA
   go_wp2
   refine bodyPost_ret (v := .agg #[.bool false, .string ⟨#[]⟩, .int .i64 0, .string ⟨#[]⟩, .int .i64 0, .int .i64 0, .bool g0, .bool g1, .bool g2, .bool g3]) (by simp [results, Tryz.results194, go_sem, c0, c1, c2, c3, c4, c5, c6, c7, c8, c9]) rfl ⟨by rw [za ER]; rfl, ?_⟩
   exact ((((((((((BU.setCell (p := ⟨w.heap.size, 0, none⟩) hR _).setCell (p := ⟨w.heap.size, 1, none⟩) hR _).setCell (p := ⟨w.heap.size, 2, none⟩) hR _).setCell (p := ⟨w.heap.size, 3, none⟩) hR _).setCell (p := ⟨w.heap.size, 4, none⟩) hR _).setCell (p := ⟨w.heap.size, 5, none⟩) hR _).setCell (p := ⟨w.heap.size, 6, none⟩) hR _).setCell (p := ⟨w.heap.size, 7, none⟩) hR _).setCell (p := ⟨w.heap.size, 8, none⟩) hR _).setCell (p := ⟨w.heap.size, 9, none⟩) hR _)
end zk7
end Go.Proofs.YtppmlbofhghghaaGreatDoor

namespace Go.Proofs.YtppmlbofhghghaaGreatDoor
open Go.RowKit Go.Maps
namespace MapN
def key (p : ByteArray) : Lit := .string p.data.toList
def dat (n : Pl.Nd) : DataW Unit := .agg [.lit (.string n.path.data.toList), .lit (.int .i64 n.kind), .lit (.string n.data.data.toList), .lit (.int .i64 n.time), .lit (.int .i64 n.mark)]
theorem zt1 {a b : Pl.Nd} (h : dat a = dat b) : a = b := by
 obtain ⟨p, k, d, t, m⟩ := a
 obtain ⟨p', k', d', t', m'⟩ := b
 simp only [dat, DataW.agg.injEq, List.cons.injEq, DataW.lit.injEq, Lit.string.injEq, Lit.int.injEq, and_true, true_and] at h
 obtain ⟨h1, h2, h3, h4, h5⟩ := h
 have e1 : p = p' := Pl.zi3 h1
 have e2 : d = d' := Pl.zi3 h3
 subst e1 e2 h2 h4 h5
 rfl
def elem : Value → Option (DataW Unit × List MemPlace)
 | .agg cs => match cs.toList with
  | [.string p, .int .i64 k, .string d, .int .i64 t, .int .i64 m] => some (dat ⟨p, k, d, t, m⟩, [])
  | _ => none
 | _ => none
theorem zi6 (n : Pl.Nd) : elem n.val = some (dat n, []) := rfl
theorem zu6 {v : Value} {d : DataW Unit} {ps : List MemPlace} (h : elem v = some (d, ps)) : ∃ n : Pl.Nd, v = n.val ∧ d = dat n := by
 unfold elem at h
 split at h
 ·rename_i cs
  split at h
  ·rename_i p k d' t m hcs
   simp only [Option.some.injEq, Prod.mk.injEq] at h
   refine ⟨⟨p, k, d', t, m⟩, ?_, h.1.symm⟩
   rw [Pl.Nd.val, show cs = cs.toList.toArray by simp, hcs]
  ·cases h
 ·cases h
def mapOf (C : List Pl.Nd) : DataW Unit := C.foldl (fun D n => D.put (key n.path) (dat n)) (.map [])
theorem mapOf_snoc (C : List Pl.Nd) (n : Pl.Nd) : mapOf (C ++ [n]) = (mapOf C).put (key n.path) (dat n) := by simp [mapOf, List.foldl_append]
theorem ye0 (p : ByteArray) : WideAt.IsKeyLit (key p) := by simp [key, WideAt.IsKeyLit]
theorem ya2 {a b : ByteArray} (h : a ≠ b) : key a ≠ key b := fun e => h (Pl.zi3 (Lit.string.inj e))
theorem isMap_fold : ∀ (C : List Pl.Nd) (D : DataW Unit), IsMap D → IsMap (C.foldl (fun D n => D.put (key n.path) (dat n)) D) := by
 intro C
 induction C with
 | nil => intro D h; exact h
 | cons n C ih => intro D h; exact ih _ (h.put _ _)
theorem zp2 (C : List Pl.Nd) : IsMap (mapOf C) := isMap_fold C _ isMap_empty
theorem zw7 (p : ByteArray) : ∀ (C : List Pl.Nd) (D : DataW Unit), (∀ n ∈ C, n.path ≠ p) → Maps.has (C.foldl (fun D n => D.put (key n.path) (dat n)) D) (key p) = Maps.has D (key p) ∧ ∀ z, (C.foldl (fun D n => D.put (key n.path) (dat n)) D).atKey (key p) z = D.atKey (key p) z := by
 intro C
 induction C with
 | nil => intro D _; exact ⟨rfl, fun _ => rfl⟩
 | cons n C ih =>
  intro D h
  have h1 : key p ≠ key n.path := ya2 (fun e => h n List.mem_cons_self e.symm)
  obtain ⟨i1, i2⟩ := ih (D.put (key n.path) (dat n)) (fun m hm => h m (List.mem_cons_of_mem _ hm))
  refine ⟨?_, fun z => ?_⟩
  ·show Maps.has (C.foldl _ (D.put (key n.path) (dat n))) (key p) = _
   rw [i1, has_put_other h1]
  ·show (C.foldl _ (D.put (key n.path) (dat n))).atKey (key p) z = _
   rw [i2, atKey_put_other h1]
theorem zp7 {C : List Pl.Nd} {p : ByteArray} (h : ∀ n ∈ C, n.path ≠ p) : Maps.has (mapOf C) (key p) = false := by
 rw [mapOf, (zw7 p C _ h).1]; rfl
theorem zn2 {C : List Pl.Nd} {n : Pl.Nd} (hC : C.Pairwise (fun a b => a.path ≠ b.path)) (hn : n ∈ C) : Maps.has (mapOf C) (key n.path) = true ∧ ∀ z, (mapOf C).atKey (key n.path) z = dat n := by
 obtain ⟨A, B, rfl⟩ := List.append_of_mem hn
 rw [List.pairwise_append] at hC
 have h2 := (List.pairwise_cons.1 hC.2.1).1
 have e : mapOf (A ++ n :: B) = B.foldl (fun D n => D.put (key n.path) (dat n)) ((mapOf A).put (key n.path) (dat n)) := by simp [mapOf, List.foldl_append]
 obtain ⟨i1, i2⟩ := zw7 n.path B ((mapOf A).put (key n.path) (dat n)) (fun m hm e => h2 m hm e.symm)
 rw [e]
 exact ⟨by rw [i1, has_put_same (zp2 A) (ye0 _)], fun z => by rw [i2, atKey_put_same (zp2 A) (ye0 _)]⟩
theorem law : Keyed Tryz.prog 9 := string_keyed Tryz.underlying9
theorem za7 (w : World) : (zeroValue 47).run Tryz.prog w = .ok (Pl.Nd.val ⟨⟨#[]⟩, 0, ⟨#[]⟩, 0, 0⟩) w := by kernel_rfl
theorem zi9 {p : ByteArray} (h : p.size ≤ maxLen) : keyOf Tryz.prog 9 (.string p) = some (key p) := WideMaps.keyOf_string_mk Tryz.underlying9 h
end MapN
end Go.Proofs.YtppmlbofhghghaaGreatDoor

namespace Go.Proofs.YtppmlbofhghghaaGreatDoor
open Go.RowKit
namespace zw
set_option maxRecDepth 100000 in
set_option maxHeartbeats 4000000 in
theorem zt2 (s : ByteArray) (w : World) (hs : s.size ≤ 1048576) :
  Calls Tryz.prog 125 #[.string s] w fun e w' => e = .returned (.string (Pl.glue (Pl.zb2 s).dropLast)) ∧ Below w.heap.size w w' := by
 have hn := hide (yd8.any s w hs)
 have hL := hide (Pl.zg4 s)
 generalize Pl.za3 s = r at hn
 generalize Pl.zb2 s = L at hn hL
 go_enter Tryz.func125, Tryz.ntmps125
 go_wp2_with fail
 refine (za hn).mono ?_
 rintro e w1 ⟨v, rfl, hown, hb⟩
 clear hn
 rcases Mem.texts hown with ⟨rfl, rfl⟩ | ⟨g, cap, rfl, hcap, hm, hgb, hgl, hcell⟩
 ·clear hown
  go_wp2_with fail
  refine (yc.any _ [] _ (by simp) (by decide) (.inl ⟨rfl, rfl⟩)).mono ?_
  rintro e w2 ⟨rfl, hb2⟩
  have hb3 := hb.trans (hb2.mono hb.size)
  clear hb hb2
  go_wp2
  go_ret
  exact ⟨rfl, hb3⟩
 ·clear hown
  have hm2 := hm
  have HC := hide hcell
  clear hcell
  unfold maxLen at hm2
  by_cases h0 : L.length = 0
  ·obtain rfl : L = [] := List.eq_nil_of_length_eq_zero h0
   go_wp2_with fail
   refine (yc.any _ [] _ (by simp) (by decide) (.inr ⟨g, 0, cap, rfl, hgl, fun j t h => by simp at h⟩)).mono ?_
   rintro e w2 ⟨rfl, hb2⟩
   have hb3 := hb.trans (hb2.mono hb.size)
   clear hb hb2
   go_wp2
   go_ret
   exact ⟨rfl, hb3⟩
  ·have h1 : (0 : Int) ≤ (L.length : Int) - 1 := by omega
   have h2 : (L.length : Int) - 1 ≤ (cap : Int) := by omega
   have E := hide (Pl.drop_last L)
   go_wp2_with fail
   refine (yc.any _ (L.take (L.length - 1)) _ ?_ (Pl.ya4 (Pl.zx2 (za hL).1 _) ?_) (Mem.take_texts hgl (za HC) _ (by omega))).mono ?_
   ·have := (za hL).2; simp; omega
   ·have := (za hL).2; simp; omega
   rintro e w2 ⟨rfl, hb2⟩
   rw [za E]
   have hb3 := hb.trans (hb2.mono hb.size)
   clear hb hb2
   go_wp2
   go_ret
   exact ⟨rfl, hb3⟩
end zw
end Go.Proofs.YtppmlbofhghghaaGreatDoor

namespace Go.Proofs.YtppmlbofhghghaaGreatDoor
open Go.RowKit Go.Maps
namespace Pl
def parV (e2 e3 : Value) (C : List Nd) (p : ByteArray) : Value :=
 if (zb7 p).size = 0 then .nilIface else match C.find? (fun m => decide (m.path = zb7 p)) with | none => e2 | some m => if m.kind = 1 then .nilIface else e3
theorem par_ok {C : List Nd} {p : ByteArray} {u2 u3 : TypeId} {x2 x3 : Value} (hC : C.Pairwise (fun a b => a.path ≠ b.path)) :
  (parI C p = true ∧ parV (.iface u2 x2) (.iface u3 x3) C p = .nilIface) ∨ (parI C p = false ∧ ∃ u x, parV (.iface u2 x2) (.iface u3 x3) C p = .iface u x) := by
 unfold parV parI
 by_cases h0 : (zb7 p).size = 0
 ·left; simp [h0]
 simp only [h0, decide_false, Bool.false_or, if_false]
 cases hf : C.find? (fun m => decide (m.path = zb7 p)) with
 | none =>
  right
  refine ⟨?_, u2, x2, rfl⟩
  rw [List.any_eq_false]
  intro m hm
  have := List.find?_eq_none.1 hf m hm
  simp at this
  simp [this]
 | some m =>
  have h1 := List.mem_of_find?_eq_some hf
  have h2 : m.path = zb7 p := by simpa using List.find?_some hf
  by_cases hk : m.kind = 1
  ·left
   refine ⟨?_, by simp [hk]⟩
   rw [List.any_eq_true]
   exact ⟨m, h1, by simp [h2, hk]⟩
  ·right
   refine ⟨?_, u3, x3, by simp [hk]⟩
   rw [List.any_eq_false]
   intro x hx
   simp only [Bool.and_eq_true, decide_eq_true_eq, not_and]
   intro hxp
   have : x = m := by
    have hp : ∀ {A : List Nd}, A.Pairwise (fun a b => a.path ≠ b.path) → ∀ {a b : Nd}, a ∈ A → b ∈ A → a.path = b.path → a = b := by
     intro A hA
     induction hA with
     | nil => intro a b ha; cases ha
     | cons hx' _ ih =>
      intro a b ha hb e
      rcases List.mem_cons.1 ha with e1 | h1
      ·rcases List.mem_cons.1 hb with e2 | h2
       ·rw [e1, e2]
       ·exact absurd (e1 ▸ e) (hx' _ h2)
      ·rcases List.mem_cons.1 hb with e2 | h2
       ·exact absurd (e2 ▸ e).symm (hx' _ h1)
       ·exact ih h1 h2 e
    exact hp hC hx h1 (hxp.trans h2.symm)
   rw [this]; exact hk
end Pl
namespace MapN
section
variable {P : Program} (w : World) {ops : Array Oper} {rest : List Oper} {o : Oper} {a : Act} {Q : Exit → Act → World → Prop}
theorem look_ok (hg : o.guard = none) (m x : Operand) (t : TypeId) (hop : o.op = Op.lookup t m x true)
  (k e : TypeId) (K : Keyed P k) (ht : P.underlying t = some (.map k e)) (hz : (zeroValue e).run P w = .ok (Pl.Nd.val ⟨⟨#[]⟩, 0, ⟨#[]⟩, 0, 0⟩) w) (b n : Nat) (D : DataW Unit)
  (hm : a.eval m = .map (some b)) (hown : w.ownsMap P k elem b n D) (kv : Value) (kl : Lit) (hx : a.eval x = kv) (hkey : keyOf P k kv = some kl) (nd : Pl.Nd) (hat : D.atKey kl (dat ⟨⟨#[]⟩, 0, ⟨#[]⟩, 0, 0⟩) = dat nd) (r : Bool) (hr : Maps.has D kl = r)
  (hK : wpList P ops Q rest (a.put o.dst (.tuple #[.agg #[.string nd.path, .int .i64 nd.kind, .string nd.data, .int .i64 nd.time, .int .i64 nd.mark], .bool r])) w) :
  wpList P ops Q (o :: rest) a w :=
 wpList_lookup_own_ok w hg m x t hop k e K ht elem hz _ [] (zi6 _) b n D hm hown kv kl hx hkey (fun v ps hv => by
  obtain ⟨n1, rfl, hd⟩ := zu6 hv
  obtain rfl := zt1 (hat.symm.trans hd)
  rw [hr]
  exact hK)
end
end MapN
namespace zc2
structure Errs (w : World) (u1 u2 u3 : TypeId) (x1 x2 x3 : Value) : Prop where
 c1 : w.cell? ⟨1, 0, none⟩ = some (.iface u1 x1)
 c2 : w.cell? ⟨2, 0, none⟩ = some (.iface u2 x2)
 c3 : w.cell? ⟨3, 0, none⟩ = some (.iface u3 x3)
theorem Errs.call {w w' : World} {u1 u2 u3 : TypeId} {x1 x2 x3 : Value} (h : Errs w u1 u2 u3 x1 x2 x3) (b : Below w.heap.size w w') : Errs w' u1 u2 u3 x1 x2 x3 :=
 ⟨(b.cell (p := ⟨_, 0, none⟩) (World.block_lt_of_cell? w ⟨_, 0, none⟩ h.c1)).trans h.c1, (b.cell (p := ⟨_, 0, none⟩) (World.block_lt_of_cell? w ⟨_, 0, none⟩ h.c2)).trans h.c2, (b.cell (p := ⟨_, 0, none⟩) (World.block_lt_of_cell? w ⟨_, 0, none⟩ h.c3)).trans h.c3⟩
theorem zd6 {w w' : World} {B n : Nat} {D : DataW Unit} (h : w.ownsMap Tryz.prog 9 MapN.elem B n D) (b : Below w.heap.size w w') : w'.ownsMap Tryz.prog 9 MapN.elem B n D :=
 h.kept (row := none) ⟨b.os, b.tape, b.output, b.size, fun k hk _ => b.block k hk⟩ (by simp)
set_option maxRecDepth 100000 in
set_option maxHeartbeats 400000 in
theorem fault_any (B N : Nat) (C : List Pl.Nd) (p : ByteArray) (w : World) (u1 u2 u3 : TypeId) (x1 x2 x3 : Value) (hE : Errs w u1 u2 u3 x1 x2 x3) (hown : w.ownsMap Tryz.prog 9 MapN.elem B N (MapN.mapOf C)) (hC : C.Pairwise (fun a b => a.path ≠ b.path)) (hp : p.size ≤ 1048576) :
  Calls Tryz.prog 122 #[.map (some B), .string p] w fun e w' => e = .returned (Pl.parV (.iface u2 x2) (.iface u3 x3) C p) ∧ Below w.heap.size w w' := by
 have hpa := hide (zw.zt2 p w hp)
 have hz := hide (show (Pl.zb7 p).size ≤ 1048576 from by
  have h1 := Pl.zg4 p
  have h2 := Pl.zz8 (Pl.zb2 p).dropLast (fun t ht => (Pl.zs4 (h1.1 t (List.dropLast_subset _ ht))).2.2.2)
  rw [List.length_dropLast] at h2
  show (Pl.glue (Pl.zb2 p).dropLast).size ≤ 1048576
  omega)
 change Hid (Calls Tryz.prog _ _ w fun e w' => e = .returned (.string (Pl.zb7 p)) ∧ _) at hpa
 have E1 : Hid ((Pl.zb7 p).size = 0 → Pl.parV (.iface u2 x2) (.iface u3 x3) C p = .nilIface) := fun h => by simp [Pl.parV, h]
 have E2 : Hid ((Pl.zb7 p).size ≠ 0 → C.find? (fun m => decide (m.path = Pl.zb7 p)) = none → Pl.parV (.iface u2 x2) (.iface u3 x3) C p = .iface u2 x2) := fun h hf => by simp [Pl.parV, h, hf]
 have E3 : Hid ((Pl.zb7 p).size ≠ 0 → ∀ m, C.find? (fun m => decide (m.path = Pl.zb7 p)) = some m → Pl.parV (.iface u2 x2) (.iface u3 x3) C p = if m.kind = 1 then .nilIface else .iface u3 x3) := fun h m hf => by simp [Pl.parV, h, hf]
 generalize Pl.parV (.iface u2 x2) (.iface u3 x3) C p = R at E1 E2 E3 ⊢
 generalize Pl.zb7 p = q at hpa hz E1 E2 E3
 have HE := hide hE
 have HM := hide hown
 clear hE hown
 go_enter Tryz.func122, Tryz.ntmps122
 go_wp2_with fail
 refine (za hpa).mono ?_
 rintro e w1 ⟨rfl, b1⟩
 have hE1 := (za HE).call b1
 have hM1 := hide (zd6 (za HM) b1)
 have k2 : ∀ o, (w1.alloc o).cell? ⟨2, 0, none⟩ = some (.iface u2 x2) := fun o => (World.cell?_alloc_some _ _ _ (by rw [hE1.c2]; rfl)).trans hE1.c2
 have k3 : ∀ o, (w1.alloc o).cell? ⟨3, 0, none⟩ = some (.iface u3 x3) := fun o => (World.cell?_alloc_some _ _ _ (by rw [hE1.c3]; rfl)).trans hE1.c3
 clear HE HM hpa hE1
 by_cases h0 : q.size = 0
 ·have t0 : q.toList.isEmpty = true := by rw [Pl.zf7]; simpa [Pl.zj6] using h0
  have E := hide (za E1 h0)
  go_wp2
  go_ret
  exact ⟨by rw [za E]; rfl, b1⟩
 have t0 : q.toList.isEmpty = false := by rw [Pl.zf7]; simpa [Pl.zj6] using h0
 have hkey := MapN.zi9 (p := q) (by have := za hz; unfold maxLen; omega)
 cases hf : C.find? (fun m => decide (m.path = q)) with
 | none =>
  have E := hide (za E2 h0 hf)
  have hmiss : ∀ n ∈ C, n.path ≠ q := fun n hn => by simpa using List.find?_eq_none.1 hf n hn
  have ha := hide (MapN.zp7 hmiss)
  have ha2 := hide (Maps.atKey_of_not_has (za ha) (MapN.dat ⟨⟨#[]⟩, 0, ⟨#[]⟩, 0, 0⟩))
  clear E1 E2 E3 hf hmiss
  go_wp2_with (at_lookup; refine MapN.look_ok _ rfl _ _ 101 rfl 9 47 MapN.law Tryz.underlying101 (MapN.za7 _) B N (MapN.mapOf C) rfl (za hM1) _ _ rfl hkey ⟨⟨#[]⟩, 0, ⟨#[]⟩, 0, 0⟩ (za ha2) false (za ha) ?_)
  go_ret
  exact ⟨by rw [za E]; rfl, b1.alloc b1.size _⟩
 | some m =>
  have E := hide (za E3 h0 m hf)
  have hm1 := List.mem_of_find?_eq_some hf
  have hm2 : m.path = q := by simpa using List.find?_some hf
  obtain ⟨y1, y2⟩ := MapN.zn2 hC hm1
  rw [hm2] at y1 y2
  have ha := hide y1
  have ha2 := hide (y2 (MapN.dat ⟨⟨#[]⟩, 0, ⟨#[]⟩, 0, 0⟩))
  clear E1 E2 E3 hf y1 y2 hm1 hm2
  by_cases hk : m.kind = 1
  ·have E' := hide (show R = .nilIface by rw [za E, if_pos hk])
   have t1 : (m.kind == 1) = true := by simpa using hk
   clear E hk
   go_wp2_with (at_lookup; refine MapN.look_ok _ rfl _ _ 101 rfl 9 47 MapN.law Tryz.underlying101 (MapN.za7 _) B N (MapN.mapOf C) rfl (za hM1) _ _ rfl hkey m (za ha2) true (za ha) ?_)
   go_ret
   exact ⟨by rw [za E']; rfl, b1.alloc b1.size _⟩
  ·have E' := hide (show R = .iface u3 x3 by rw [za E, if_neg hk])
   have t1 : (m.kind == 1) = false := by simpa using hk
   clear E hk
   go_wp2_with (at_lookup; refine MapN.look_ok _ rfl _ _ 101 rfl 9 47 MapN.law Tryz.underlying101 (MapN.za7 _) B N (MapN.mapOf C) rfl (za hM1) _ _ rfl hkey m (za ha2) true (za ha) ?_)
   go_ret
   exact ⟨by rw [za E']; rfl, b1.alloc b1.size _⟩
end zc2
end Go.Proofs.YtppmlbofhghghaaGreatDoor

