/- Several texts of one claim in one file: WNames3, WName4. -/
import Derived.Test.YtcogaghibpajjaaGreatDoorG07
import Derived.Test.YtcogaghibpajjaaGreatDoorG02
import Derived.Test.YtcogaghibpajjaaGreatDoorG14
import Derived.Deep.RegionHeld3
import Derived.Lib.OthersKept
import Derived.Laws.RangeAny
import Derived.Deep.Draws
import Derived.Deep.QuietTactic
import Derived.BigQuiet
import Derived.Test.YtcogaghibpajjaaGreatDoorG03
import Derived.Deep.Cut
namespace Go.Proofs.YtcogaghibpajjaaGreatDoor
open Go.RowKit
namespace WNamesT
theorem infoS : (Tryz.prog.info? 9).map (fun i => (i.zero, i.size, i.bytes)) = some (some (.string ⟨#[]⟩), 1, 16) := by kernel_rfl
theorem tl_eq {a b : ByteArray} (h : a ≠ b) : (a.toList == b.toList) = false := by
 rw [beq_eq_false_iff_ne]
 intro e
 exact h (Pl.zi1 (by rw [ByteArray.toList_eq, ByteArray.toList_eq] at e; exact e))
theorem own_snoc {w : World} {B : Nat} {v : Value} {K : List ByteArray} {t : ByteArray} (h : w.ownsRow B 9 1 v (K.length + 1) (K.map Value.string ++ [.string t])) : w.ownsRow B 9 1 v (K ++ [t]).length ((K ++ [t]).map Value.string) := by
 rw [List.map_append, List.length_append]; exact h
set_option linter.unusedSimpArgs false in
set_option maxRecDepth 100000 in
set_option maxHeartbeats 2000000 in
theorem l03_any (a : Option Addr) (cap : Nat) (L : List Pl.Nd) (p : ByteArray) (w : World) (hl : L.length ≤ 1048576) (hv : Mem.za9 w a L) (hok : ∀ n ∈ L, n.path.size ≤ 1048576 ∧ n.data.size ≤ 1048576) :
  Calls Tryz.prog 104 #[.agg #[.slice a L.length cap], .string p] w fun e w' => ∃ v, e = .returned v ∧ w'.ownsRow w.heap.size 9 1 v (Pl.ze1 p L).length ((Pl.ze1 p L).map Value.string) ∧ Below w.heap.size w w' := by
 obtain ⟨i0, hi, hz0, hz1, hz2⟩ := info_parts infoS
 have HV := hide hv
 have HO := hide hok
 have b0 : Below w.heap.size w ((w.alloc (.cells #[.slice a L.length cap] 27)).alloc (.cells #[] 9)) := ((Below.refl _ _).alloc (Nat.le_refl _) _).alloc (by simp) _
 have V0 := (Mem.Blk.new w #[.slice a L.length cap] 27).alloc (.cells #[] 9)
 have O0 : ((w.alloc (.cells #[.slice a L.length cap] 27)).alloc (.cells #[] 9)).ownsRow (w.heap.size + 1) 9 1 (.slice (some ⟨w.heap.size + 1, 0, none⟩) 0 0) (Pl.ze1 p (L.take 0)).length ((Pl.ze1 p (L.take 0)).map Value.string) :=
  ⟨rfl, .inr ⟨w.heap.size + 1, 0, #[], rfl, Nat.le_refl _, Mem.zg9 _ _ _, Nat.le_refl _, Nat.zero_le _, rfl, rfl⟩⟩
 have HB0 := hide b0
 have HV0 := hide V0
 have HO0 := hide O0
 clear hv hok b0 V0 O0
 go_enter Tryz.func104, Tryz.ntmps104
 go_wp2
 go_loopw [5, 6] (fun v i wr => ∃ k : Nat, k ≤ L.length ∧ i = .int .i64 (k : Int) ∧ Hid (Below w.heap.size w wr) ∧ Hid (Mem.Blk wr w.heap.size #[.slice a L.length cap] 27) ∧ Hid (wr.ownsRow (w.heap.size + 1) 9 1 v (Pl.ze1 p (L.take k)).length ((Pl.ze1 p (L.take k)).map Value.string))) (fun _ i _ => L.length - (intOf i).toNat)
 case atStart => exact ⟨0, Nat.zero_le _, rfl, HB0, HV0, HO0⟩
 case round =>
  obtain ⟨k, hk, rfl, HB, HO1, HW⟩ := hrel
  clear HB0 HV0 HO0
  have c1 := (za HO1).cell 0
  simp only [kA0, kA1] at c1
  by_cases hlt : k < L.length
  ·obtain ⟨n, hn⟩ : ∃ n, L[k]? = some n := ⟨_, List.getElem?_eq_getElem hlt⟩
   obtain ⟨b, o, rfl, hb, q0, q1, q2, q3, q4⟩ := (Mem.za4 (za HV) (za HB)) k n hn
   have y1 : (k : Int) < (L.length : Int) := by omega
   have y3 : (0 : Int) ≤ (k : Int) := by omega
   have hno := (za HO n (List.mem_of_getElem? hn)).1
   have hpa := hide (fun W => zd9.zr6 n.path W (by unfold maxLen; omega))
   have hba := hide (fun W => zd9.base1_any n.path W (by unfold maxLen; omega))
   have HLEN := hide (Pl.kids_len p L k)
   by_cases hk0 : Pl.parent n.path = p
   ·have HK := hide (Pl.kids_in hn hk0)
    rw [hk0] at hpa
    generalize Pl.base n.path = BB at hba HK
    clear hn hk0 hno
    obtain ⟨qp, qk, qd, qt, qm⟩ := n
    simp only at q0 q1 q2 q3 q4 hpa hba
    have HSZ := hide (za HO1).lt
    have HLT := hide ((za HW).lt)
    go_wp2_with (first | (go_at_call 41; refine (za hpa _).mono ?_; rintro e w' ⟨rfl, hw⟩; obtain rfl := hw.symm) | (go_at_call 66; refine (za hba _).mono ?_; rintro e w' ⟨rfl, hw⟩; obtain rfl := hw.symm) | (at_builtin; refine wpList_append_own _ rfl _ _ 104 rfl (w.heap.size + 1) 9 i0 (.string ⟨#[]⟩) 1 16 Tryz.underlying104 hi hz0 hz1 hz2 rfl (by decide) _ _ _ rfl ((za HW).alloc _) ⟨wr.heap.size, 0, none⟩ 1 1 [.string BB] rfl rfl (Mem.ze6 _ _ _) (fun u hu => by simp at hu; subst hu; rfl) (by have := za HLEN; unfold maxLen; omega) (by have := za HLEN; omega) (by have := za HSZ; simp; omega) ?_))
    intro v' wZ hownZ hgrow _
    have OW := hide (show wZ.ownsRow (w.heap.size + 1) 9 1 v' (Pl.ze1 p (L.take (k + 1))).length ((Pl.ze1 p (L.take (k + 1))).map Value.string) by rw [za HK]; exact own_snoc hownZ)
    have BZ := hide (((za HB).alloc (za HB).size (.cells #[.string BB] 9)).grown hgrow (by have := (za HB).size; simp; omega) (fun q hq => by have := (za HLT q hq).1; omega))
    have VZ := hide (((za HO1).alloc (.cells #[.string BB] 9)).grown hgrow (fun e => by have := (za HLT _ e.symm).1; omega))
    clear hownZ hgrow HB HO1 HW hpa hba q0 q1 q2 q3 q4
    go_wp2
    go_roundw
    case rel => exact ⟨k + 1, by omega, by go_num, BZ, VZ, OW⟩
    case measure => simp [intOf]; omega
   ·have HK := hide (Pl.kids_out hn hk0)
    have t1 := tl_eq hk0
    generalize Pl.parent n.path = PP at hpa t1
    clear hn hk0 hno hba
    obtain ⟨qp, qk, qd, qt, qm⟩ := n
    simp only at q0 q1 q2 q3 q4 hpa
    rw [← za HK] at HW
    go_wp2_with (go_at_call 41; refine (za hpa _).mono ?_; rintro e w' ⟨rfl, hw⟩; obtain rfl := hw.symm)
    go_roundw
    case rel => exact ⟨k + 1, by omega, by go_num, HB, HO1, HW⟩
    case measure => simp [intOf]; omega
  ·obtain rfl : k = L.length := by omega
   rw [List.take_length] at HW
   have y1 : ¬ ((L.length : Int) < (L.length : Int)) := by omega
   go_wp2
   go_ret
   exact ⟨_, rfl, Mem.zp8 (za HW) (by omega), za HB⟩
end WNamesT
end Go.Proofs.YtcogaghibpajjaaGreatDoor

namespace Go.Proofs.YtcogaghibpajjaaGreatDoor
open Go.RowKit
namespace Pl
def zm1 (a b : ByteArray) : Bool := Op.bytesLess a.toList b.toList
def insN (t : ByteArray) : List ByteArray → List ByteArray
 | [] => [t]
 | a :: l => if zm1 a t = true then a :: insN t l else if a = t then a :: l else t :: a :: l
theorem ins_at (t : ByteArray) : ∀ (l : List ByteArray) (k : Nat), (∀ (j : Nat) x, j < k → l[j]? = some x → zm1 x t = true) → (∀ x, l[k]? = some x → zm1 x t = false) → k ≤ l.length → insN t l = if l[k]? = some t then l else l.take k ++ [t] ++ l.drop k := by
 intro l
 induction l with
 | nil =>
  intro k _ _ hk
  have : k = 0 := by simpa using hk
  subst this
  simp [insN]
 | cons a l ih =>
  intro k h1 h2 hk
  cases k with
  | zero =>
   have h3 := h2 a rfl
   rw [insN, if_neg (by rw [h3]; simp)]
   by_cases e : a = t
   ·simp [e]
   ·simp [e]
  | succ k =>
   have h3 := h1 0 a (by omega) rfl
   rw [insN, if_pos h3, ih k (fun j x hj hx => h1 (j + 1) x (by omega) (by simpa using hx)) (fun x hx => h2 x (by simpa using hx)) (by simpa using hk)]
   simp only [kA2, List.take_succ_cons, List.drop_succ_cons, List.cons_append]
   split <;> rfl
theorem ins_len (t : ByteArray) (l : List ByteArray) : (insN t l).length ≤ l.length + 1 := by
 induction l with
 | nil => simp [insN]
 | cons a l ih =>
  rw [insN]
  split
  ·simp; omega
  ·split <;> simp
end Pl
namespace WName4
theorem infoS : (Tryz.prog.info? 9).map (fun i => (i.zero, i.size, i.bytes)) = some (some (.string ⟨#[]⟩), 1, 16) := by kernel_rfl
def Txt (w : World) (B : Nat) (v : Value) (l : List ByteArray) : Prop := w.ownsRow B 9 1 v l.length (l.map Value.string)
theorem Txt.cell {w : World} {B g n cap : Nat} {l : List ByteArray} (h : Txt w B (.slice (some ⟨g, 0, none⟩) n cap) l) {k : Nat} {x : ByteArray} (hk : l[k]? = some x) : w.cell? ⟨g, k, none⟩ = some (.string x) := by
 have := World.ownsRow.cells h (g := g) rfl k (.string x) (by simp [hk])
 rw [Mem.add_lit] at this
 exact this
set_option linter.unusedSimpArgs false in
set_option maxRecDepth 100000 in
set_option maxHeartbeats 1000000 in
theorem any (B g cap : Nat) (l : List ByteArray) (t : ByteArray) (w : World) (hl : l.length ≤ 1000) (hB : B ≤ w.heap.size) (hown : Txt w B (.slice (some ⟨g, 0, none⟩) l.length cap) l) :
  Calls Tryz.prog 105 #[.slice (some ⟨g, 0, none⟩) l.length cap, .string t] w fun e w' => ∃ g' cap', e = .returned (.slice (some ⟨g', 0, none⟩) (Pl.insN t l).length cap') ∧ Txt w' B (.slice (some ⟨g', 0, none⟩) (Pl.insN t l).length cap') (Pl.insN t l) ∧ Below w.heap.size w w' := by
 obtain ⟨i0, hi, hz0, hz1, hz2⟩ := info_parts infoS
 have HO := hide hown
 have HIN := hide (Pl.ins_at t l)
 have hcap : l.length ≤ cap := by
  rcases hown.2 with ⟨h, _⟩ | ⟨g', cap', cur, h, _, _, h2, _⟩
  ·cases h
  ·injection h with _ _ h3; omega
 clear hown
 go_enter Tryz.func105, Tryz.ntmps105
 go_wp2
 go_loop [5] (fun i => ∃ k : Nat, k ≤ l.length ∧ i = .int .i64 (k : Int) ∧ Hid (∀ (j : Nat) x, j < k → l[j]? = some x → Pl.zm1 x t = true)) (fun i => l.length - (intOf i).toNat)
 case atStart => exact ⟨0, Nat.zero_le _, rfl, fun j x h => absurd h (by omega)⟩
 case round =>
  obtain ⟨k, hk, rfl, HK⟩ := hrel
  have y3 : (0 : Int) ≤ (k : Int) := by omega
  by_cases hlt : k < l.length
  ·obtain ⟨x, hx⟩ : ∃ x, l[k]? = some x := ⟨_, List.getElem?_eq_getElem hlt⟩
   have c0 := (za HO).cell hx
   have y1 : (k : Int) < (l.length : Int) := by omega
   cases hle : Pl.zm1 x t
   ·have t1 : Op.bytesLess x.toList t.toList = false := hle
    by_cases e : x = t
    ·have t2 : (x.toList == t.toList) = true := by rw [e]; simp
     have EI : Hid (Pl.insN t l = l) := by
      show _ = _
      rw [za HIN k (za HK) (fun y hy => by rw [hx] at hy; cases hy; exact hle) hk, if_pos (by rw [hx, e])]
     clear hle e hx HK HIN
     go_wp2
     go_ret
     exact ⟨g, cap, by rw [za EI]; rfl, by rw [za EI]; exact za HO, Below.refl _ _⟩
    ·have t2 : (x.toList == t.toList) = false := WNamesT.tl_eq e
     have EI : Hid (Pl.insN t l = l.take k ++ [t] ++ l.drop k) := by
      show _ = _
      rw [za HIN k (za HK) (fun y hy => by rw [hx] at hy; cases hy; exact hle) hk, if_neg (by rw [hx]; intro h; cases h; exact e rfl)]
     have HL0 := hide (fun W' (b : Below w.heap.size w W') => Mem.zg5 (za HO) b)
     have OA0 : Hid (Txt (w.alloc (.cells #[] 9)) w.heap.size (.slice (some ⟨w.heap.size, 0, none⟩) 0 0) []) := ⟨rfl, .inr ⟨w.heap.size, 0, #[], rfl, Nat.le_refl _, heap_alloc_new _ _, Nat.le_refl _, Nat.zero_le _, rfl, rfl⟩⟩
     have BA0 := hide ((Below.refl w.heap.size w).alloc (Nat.le_refl _) (.cells #[] 9))
     have s1 : (k : Int) ≤ (cap : Int) := by omega
     have s2 : (k : Int) ≤ (l.length : Int) := by omega
     have hlk : (l.take k).length = k := by rw [List.length_take]; omega
     have HLK := hide hlk
     have HTC : Hid (∀ W' B', Txt W' B' (.slice (some ⟨g, 0, none⟩) l.length cap) l → (∀ j u, ((l.take k).map Value.string)[j]? = some u → W'.cell? ((⟨g, 0, none⟩ : Addr).add j) = some u) ∧ (∀ j u, ((l.drop k).map Value.string)[j]? = some u → W'.cell? ((⟨g, k, none⟩ : Addr).add j) = some u)) := fun W' B' h => by
      refine ⟨fun j u hu => ?_, fun j u hu => ?_⟩
      ·rw [List.getElem?_map, List.getElem?_take] at hu
       split at hu
       ·cases hy : l[j]? with
        | none => rw [hy] at hu; simp at hu
        | some y => rw [hy] at hu; simp at hu; subst hu; rw [Mem.add_lit]; exact h.cell hy
       ·simp at hu
      ·rw [List.getElem?_map, List.getElem?_drop] at hu
       cases hy : l[k + j]? with
       | none => rw [hy] at hu; simp at hu
       | some y => rw [hy] at hu; simp at hu; subst hu; rw [Mem.zo2]; exact h.cell hy
     have HO1 : Hid (∀ (m : List ByteArray), ∀ u ∈ m.map Value.string, u.oneCell' = true) := fun m u hu => by
      obtain ⟨y, -, rfl⟩ := List.mem_map.1 hu
      rfl
     clear hlk hle e hx HK HIN
     go_wp2_with (at_builtin; refine wpList_append_own _ rfl _ _ 104 rfl w.heap.size 9 i0 _ 1 16 Tryz.underlying104 hi hz0 hz1 hz2 rfl (by decide) _ _ _ rfl (za OA0) ⟨g, 0, none⟩ k cap ((l.take k).map Value.string) rfl (by rw [List.length_map, za HLK]; omega) (za HTC _ _ (za HL0 _ (za BA0))).1 (za HO1 _) (by simp; unfold maxLen; omega) (by simp; omega) (by simp) ?_)
     intro v1 wA ownA growA _
     have OA : Hid (Txt wA w.heap.size v1 (l.take k)) := by
      show World.ownsRow _ _ _ _ _ _ _
      rw [za HLK]
      first | exact ownA | (simpa using ownA)
     have BA := hide ((za BA0).grown growA (by simp) (fun q hq => by cases hq; exact Nat.le_refl _))
     clear ownA growA OA0 BA0
     obtain ⟨TK, hTK⟩ : ∃ TK, l.take k = TK := ⟨_, rfl⟩
     rw [hTK] at OA HLK
     have HTK := hide hTK
     clear hTK
     have hsA := (za BA).size
     go_wp2_with (at_builtin; refine wpList_append_own _ rfl _ _ 104 rfl w.heap.size 9 i0 _ 1 16 Tryz.underlying104 hi hz0 hz1 hz2 rfl (by decide) _ _ _ rfl (Mem.zg5 (za OA) ((Below.refl _ _).alloc (Nat.le_refl _) _)) ⟨wA.heap.size, 0, none⟩ 1 1 [.string t] rfl rfl (Mem.ze6 _ _ _) (fun u hu => by simp at hu; subst hu; rfl) (by rw [za HLK]; unfold maxLen; omega) (by rw [za HLK]; omega) (by simp; omega) ?_)
     intro v2 wB ownB growB _
     have OB : Hid (Txt wB w.heap.size v2 (TK ++ [t])) := by
      show World.ownsRow _ _ _ _ _ _ _
      rw [List.map_append, List.length_append]
      exact ownB
     have BB := hide (((za BA).alloc hsA (.cells #[.string t] 9)).grown growB (by simp; omega) (fun q hq => (World.ownsRow.lt (za OA) q hq).1))
     clear ownB growB OA BA hsA
     have hsB := (za BB).size
     have HLB : Hid ((TK ++ [t]).length = k + 1) := by show _ = _; rw [List.length_append, za HLK]; rfl
     have HLD : Hid ((l.drop k).length = l.length - k) := List.length_drop
     have HDL := hide (za HTC wB _ (za HL0 _ (za BB))).2
     have HON := hide (za HO1 (l.drop k))
     go_wp2_with (at_builtin; refine wpList_append_own _ rfl _ _ 104 rfl w.heap.size 9 i0 _ 1 16 Tryz.underlying104 hi hz0 hz1 hz2 rfl (by decide) _ _ _ rfl (za OB) ⟨g, k, none⟩ (l.length - k) (cap - k) ((l.drop k).map Value.string) rfl (by rw [List.length_map, za HLD]; omega) (za HDL) (za HON) (by rw [za HLB]; unfold maxLen; omega) (by rw [za HLB]; omega) hsB ?_)
     intro v3 wC ownC growC _
     have OC : Hid (Txt wC w.heap.size v3 (TK ++ [t] ++ l.drop k)) := by
      show World.ownsRow _ _ _ _ _ _ _
      have e1 : (TK ++ [t] ++ l.drop k).length = TK.length + 1 + (l.length - k) := by rw [List.length_append, List.length_append, za HLD]; rfl
      have e2 : (TK ++ [t] ++ l.drop k).map Value.string = TK.map Value.string ++ Value.string t :: List.drop k (l.map Value.string) := by simp [List.map_drop]
      rw [e1, e2]
      first | exact ownC | (simpa using ownC)
     have BC := hide ((za BB).grown growC hsB (fun q hq => (World.ownsRow.lt (za OB) q hq).1))
     clear ownC growC OB BB HDL HON HLB HLD HTC HL0 HO1
     rw [← za HTK, ← za EI] at OC
     have hpos : 0 < (Pl.insN t l).length := by rw [za EI, List.length_append, List.length_append, List.length_singleton]; omega
     obtain ⟨g', cap', rfl⟩ : ∃ g' cap', v3 = .slice (some ⟨g', 0, none⟩) (Pl.insN t l).length cap' := by
      rcases (za OC).2 with ⟨_, h0⟩ | ⟨g', cap', cur, hv, -⟩
      ·omega
      ·exact ⟨g', cap', hv⟩
     go_wp2
     go_ret
     exact ⟨g', cap', rfl, Mem.zp8 (za OC) hB, za BC⟩
   ·have t1 : Op.bytesLess x.toList t.toList = true := hle
    have HK2 : Hid (∀ (j : Nat) y, j < k + 1 → l[j]? = some y → Pl.zm1 y t = true) := fun j y hj hy => by
     by_cases h : j < k
     ·exact za HK j y h hy
     ·obtain rfl : j = k := by omega
      rw [hx] at hy; cases hy; exact hle
    clear hle hx HK HIN
    go_wp2
    go_round
    case rel => exact ⟨k + 1, by omega, by go_num, HK2⟩
    case measure => simp [intOf]; omega
  ·have y1 : ¬ (k : Int) < (l.length : Int) := by omega
   have EI : Hid (Pl.insN t l = l.take k ++ [t] ++ l.drop k) := by
    show _ = _
    rw [za HIN k (za HK) (fun y hy => by rw [List.getElem?_eq_none (by omega)] at hy; cases hy) hk, if_neg (by rw [List.getElem?_eq_none (by omega)]; simp)]
   by_cases hkc : k < cap
   ·have HL0 := hide (fun W' (b : Below w.heap.size w W') => Mem.zg5 (za HO) b)
    have OA0 : Hid (Txt (w.alloc (.cells #[] 9)) w.heap.size (.slice (some ⟨w.heap.size, 0, none⟩) 0 0) []) := ⟨rfl, .inr ⟨w.heap.size, 0, #[], rfl, Nat.le_refl _, heap_alloc_new _ _, Nat.le_refl _, Nat.zero_le _, rfl, rfl⟩⟩
    have BA0 := hide ((Below.refl w.heap.size w).alloc (Nat.le_refl _) (.cells #[] 9))
    have s1 : (k : Int) ≤ (cap : Int) := by omega
    have s2 : (k : Int) ≤ (l.length : Int) := by omega
    have hlk : (l.take k).length = k := by rw [List.length_take]; omega
    have HLK := hide hlk
    have HTC : Hid (∀ W' B', Txt W' B' (.slice (some ⟨g, 0, none⟩) l.length cap) l → (∀ j u, ((l.take k).map Value.string)[j]? = some u → W'.cell? ((⟨g, 0, none⟩ : Addr).add j) = some u) ∧ (∀ j u, ((l.drop k).map Value.string)[j]? = some u → W'.cell? ((⟨g, k, none⟩ : Addr).add j) = some u)) := fun W' B' h => by
     refine ⟨fun j u hu => ?_, fun j u hu => ?_⟩
     ·rw [List.getElem?_map, List.getElem?_take] at hu
      split at hu
      ·cases hy : l[j]? with
       | none => rw [hy] at hu; simp at hu
       | some y => rw [hy] at hu; simp at hu; subst hu; rw [Mem.add_lit]; exact h.cell hy
      ·simp at hu
     ·rw [List.getElem?_map, List.getElem?_drop] at hu
      cases hy : l[k + j]? with
      | none => rw [hy] at hu; simp at hu
      | some y => rw [hy] at hu; simp at hu; subst hu; rw [Mem.zo2]; exact h.cell hy
    have HO1 : Hid (∀ (m : List ByteArray), ∀ u ∈ m.map Value.string, u.oneCell' = true) := fun m u hu => by
     obtain ⟨y, -, rfl⟩ := List.mem_map.1 hu
     rfl
    clear hlk HK HIN
    go_wp2_with (at_builtin; refine wpList_append_own _ rfl _ _ 104 rfl w.heap.size 9 i0 _ 1 16 Tryz.underlying104 hi hz0 hz1 hz2 rfl (by decide) _ _ _ rfl (za OA0) ⟨g, 0, none⟩ k cap ((l.take k).map Value.string) rfl (by rw [List.length_map, za HLK]; omega) (za HTC _ _ (za HL0 _ (za BA0))).1 (za HO1 _) (by simp; unfold maxLen; omega) (by simp; omega) (by simp) ?_)
    intro v1 wA ownA growA _
    have OA : Hid (Txt wA w.heap.size v1 (l.take k)) := by
     show World.ownsRow _ _ _ _ _ _ _
     rw [za HLK]
     first | exact ownA | (simpa using ownA)
    have BA := hide ((za BA0).grown growA (by simp) (fun q hq => by cases hq; exact Nat.le_refl _))
    clear ownA growA OA0 BA0
    obtain ⟨TK, hTK⟩ : ∃ TK, l.take k = TK := ⟨_, rfl⟩
    rw [hTK] at OA HLK
    have HTK := hide hTK
    clear hTK
    have hsA := (za BA).size
    go_wp2_with (at_builtin; refine wpList_append_own _ rfl _ _ 104 rfl w.heap.size 9 i0 _ 1 16 Tryz.underlying104 hi hz0 hz1 hz2 rfl (by decide) _ _ _ rfl (Mem.zg5 (za OA) ((Below.refl _ _).alloc (Nat.le_refl _) _)) ⟨wA.heap.size, 0, none⟩ 1 1 [.string t] rfl rfl (Mem.ze6 _ _ _) (fun u hu => by simp at hu; subst hu; rfl) (by rw [za HLK]; unfold maxLen; omega) (by rw [za HLK]; omega) (by simp; omega) ?_)
    intro v2 wB ownB growB _
    have OB : Hid (Txt wB w.heap.size v2 (TK ++ [t])) := by
     show World.ownsRow _ _ _ _ _ _ _
     rw [List.map_append, List.length_append]
     exact ownB
    have BB := hide (((za BA).alloc hsA (.cells #[.string t] 9)).grown growB (by simp; omega) (fun q hq => (World.ownsRow.lt (za OA) q hq).1))
    clear ownB growB OA BA hsA
    have hsB := (za BB).size
    have HLB : Hid ((TK ++ [t]).length = k + 1) := by show _ = _; rw [List.length_append, za HLK]; rfl
    have HLD : Hid ((l.drop k).length = l.length - k) := List.length_drop
    have HDL := hide (za HTC wB _ (za HL0 _ (za BB))).2
    have HON := hide (za HO1 (l.drop k))
    go_wp2_with (at_builtin; refine wpList_append_own _ rfl _ _ 104 rfl w.heap.size 9 i0 _ 1 16 Tryz.underlying104 hi hz0 hz1 hz2 rfl (by decide) _ _ _ rfl (za OB) ⟨g, k, none⟩ (l.length - k) (cap - k) ((l.drop k).map Value.string) rfl (by rw [List.length_map, za HLD]; omega) (za HDL) (za HON) (by rw [za HLB]; unfold maxLen; omega) (by rw [za HLB]; omega) hsB ?_)
    intro v3 wC ownC growC _
    have OC : Hid (Txt wC w.heap.size v3 (TK ++ [t] ++ l.drop k)) := by
     show World.ownsRow _ _ _ _ _ _ _
     have e1 : (TK ++ [t] ++ l.drop k).length = TK.length + 1 + (l.length - k) := by rw [List.length_append, List.length_append, za HLD]; rfl
     have e2 : (TK ++ [t] ++ l.drop k).map Value.string = TK.map Value.string ++ Value.string t :: List.drop k (l.map Value.string) := by simp [List.map_drop]
     rw [e1, e2]
     first | exact ownC | (simpa using ownC)
    have BC := hide ((za BB).grown growC hsB (fun q hq => (World.ownsRow.lt (za OB) q hq).1))
    clear ownC growC OB BB HDL HON HLB HLD HTC HL0 HO1
    rw [← za HTK, ← za EI] at OC
    have hpos : 0 < (Pl.insN t l).length := by rw [za EI, List.length_append, List.length_append, List.length_singleton]; omega
    obtain ⟨g', cap', rfl⟩ : ∃ g' cap', v3 = .slice (some ⟨g', 0, none⟩) (Pl.insN t l).length cap' := by
     rcases (za OC).2 with ⟨_, h0⟩ | ⟨g', cap', cur, hv, -⟩
     ·omega
     ·exact ⟨g', cap', hv⟩
    go_wp2
    go_ret
    exact ⟨g', cap', rfl, Mem.zp8 (za OC) hB, za BC⟩
   ·obtain rfl : k = cap := by omega
    have HL0 := hide (fun W' (b : Below w.heap.size w W') => Mem.zg5 (za HO) b)
    have OA0 : Hid (Txt (w.alloc (.cells #[] 9)) w.heap.size (.slice (some ⟨w.heap.size, 0, none⟩) 0 0) []) := ⟨rfl, .inr ⟨w.heap.size, 0, #[], rfl, Nat.le_refl _, heap_alloc_new _ _, Nat.le_refl _, Nat.zero_le _, rfl, rfl⟩⟩
    have BA0 := hide ((Below.refl w.heap.size w).alloc (Nat.le_refl _) (.cells #[] 9))
    have s1 : (k : Int) ≤ (k : Int) := by omega
    have s2 : (k : Int) ≤ (l.length : Int) := by omega
    have hlk : (l.take k).length = k := by rw [List.length_take]; omega
    have HLK := hide hlk
    have HTC : Hid (∀ W' B', Txt W' B' (.slice (some ⟨g, 0, none⟩) l.length k) l → (∀ j u, ((l.take k).map Value.string)[j]? = some u → W'.cell? ((⟨g, 0, none⟩ : Addr).add j) = some u) ∧ (∀ j u, ((l.drop k).map Value.string)[j]? = some u → W'.cell? ((⟨g, k, none⟩ : Addr).add j) = some u)) := fun W' B' h => by
     refine ⟨fun j u hu => ?_, fun j u hu => ?_⟩
     ·rw [List.getElem?_map, List.getElem?_take] at hu
      split at hu
      ·cases hy : l[j]? with
       | none => rw [hy] at hu; simp at hu
       | some y => rw [hy] at hu; simp at hu; subst hu; rw [Mem.add_lit]; exact h.cell hy
      ·simp at hu
     ·rw [List.getElem?_map, List.getElem?_drop] at hu
      cases hy : l[k + j]? with
      | none => rw [hy] at hu; simp at hu
      | some y => rw [hy] at hu; simp at hu; subst hu; rw [Mem.zo2]; exact h.cell hy
    have HO1 : Hid (∀ (m : List ByteArray), ∀ u ∈ m.map Value.string, u.oneCell' = true) := fun m u hu => by
     obtain ⟨y, -, rfl⟩ := List.mem_map.1 hu
     rfl
    clear hlk HK HIN
    go_wp2_with (at_builtin; refine wpList_append_own _ rfl _ _ 104 rfl w.heap.size 9 i0 _ 1 16 Tryz.underlying104 hi hz0 hz1 hz2 rfl (by decide) _ _ _ rfl (za OA0) ⟨g, 0, none⟩ k k ((l.take k).map Value.string) rfl (by rw [List.length_map, za HLK]; omega) (za HTC _ _ (za HL0 _ (za BA0))).1 (za HO1 _) (by simp; unfold maxLen; omega) (by simp; omega) (by simp) ?_)
    intro v1 wA ownA growA _
    have OA : Hid (Txt wA w.heap.size v1 (l.take k)) := by
     show World.ownsRow _ _ _ _ _ _ _
     rw [za HLK]
     first | exact ownA | (simpa using ownA)
    have BA := hide ((za BA0).grown growA (by simp) (fun q hq => by cases hq; exact Nat.le_refl _))
    clear ownA growA OA0 BA0
    obtain ⟨TK, hTK⟩ : ∃ TK, l.take k = TK := ⟨_, rfl⟩
    rw [hTK] at OA HLK
    have HTK := hide hTK
    clear hTK
    have hsA := (za BA).size
    go_wp2_with (at_builtin; refine wpList_append_own _ rfl _ _ 104 rfl w.heap.size 9 i0 _ 1 16 Tryz.underlying104 hi hz0 hz1 hz2 rfl (by decide) _ _ _ rfl (Mem.zg5 (za OA) ((Below.refl _ _).alloc (Nat.le_refl _) _)) ⟨wA.heap.size, 0, none⟩ 1 1 [.string t] rfl rfl (Mem.ze6 _ _ _) (fun u hu => by simp at hu; subst hu; rfl) (by rw [za HLK]; unfold maxLen; omega) (by rw [za HLK]; omega) (by simp; omega) ?_)
    intro v2 wB ownB growB _
    have OB : Hid (Txt wB w.heap.size v2 (TK ++ [t])) := by
     show World.ownsRow _ _ _ _ _ _ _
     rw [List.map_append, List.length_append]
     exact ownB
    have BB := hide (((za BA).alloc hsA (.cells #[.string t] 9)).grown growB (by simp; omega) (fun q hq => (World.ownsRow.lt (za OA) q hq).1))
    clear ownB growB OA BA hsA
    have hsB := (za BB).size
    have HLB : Hid ((TK ++ [t]).length = k + 1) := by show _ = _; rw [List.length_append, za HLK]; rfl
    have HLD : Hid ((l.drop k).length = l.length - k) := List.length_drop
    have HDL := hide (za HTC wB _ (za HL0 _ (za BB))).2
    have HON := hide (za HO1 (l.drop k))
    go_wp2_with (at_builtin; refine wpList_append_own _ rfl _ _ 104 rfl w.heap.size 9 i0 _ 1 16 Tryz.underlying104 hi hz0 hz1 hz2 rfl (by decide) _ _ _ rfl (za OB) ⟨g, 0, none⟩ 0 0 ([] : List Value) rfl rfl (by intro j u hu; simp at hu) (by simp) (by rw [za HLB]; unfold maxLen; omega) (by rw [za HLB]; omega) hsB ?_)
    intro v3 wC ownC growC _
    have OC : Hid (Txt wC w.heap.size v3 (TK ++ [t] ++ l.drop k)) := by
     show World.ownsRow _ _ _ _ _ _ _
     have hdk : l.drop k = [] := List.drop_eq_nil_of_le (by omega)
     rw [hdk, List.append_nil, List.map_append, List.length_append]
     first | exact ownC | (simpa using ownC)
    have BC := hide ((za BB).grown growC hsB (fun q hq => (World.ownsRow.lt (za OB) q hq).1))
    clear ownC growC OB BB HDL HON HLB HLD HTC HL0 HO1
    rw [← za HTK, ← za EI] at OC
    have hpos : 0 < (Pl.insN t l).length := by rw [za EI, List.length_append, List.length_append, List.length_singleton]; omega
    obtain ⟨g', cap', rfl⟩ : ∃ g' cap', v3 = .slice (some ⟨g', 0, none⟩) (Pl.insN t l).length cap' := by
     rcases (za OC).2 with ⟨_, h0⟩ | ⟨g', cap', cur, hv, -⟩
     ·omega
     ·exact ⟨g', cap', hv⟩
    go_wp2
    go_ret
    exact ⟨g', cap', rfl, Mem.zp8 (za OC) hB, za BC⟩
end WName4
end Go.Proofs.YtcogaghibpajjaaGreatDoor

