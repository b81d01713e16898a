/- Several texts of one claim in one file: WBase1S, WNames3, WNamesT, WParI. -/
import Derived.Test.YtjfnmfnjlacbeaaDoorG13
import Derived.Test.YtjfnmfnjlacbeaaDoorPlainPar
import Derived.Test.YtjfnmfnjlacbeaaDoorG04
import Derived.Test.YtjfnmfnjlacbeaaDoorWTreeR
import Derived.Test.YtjfnmfnjlacbeaaDoorG25
import Derived.Test.YtjfnmfnjlacbeaaDoorPlainNames
import Derived.Test.YtjfnmfnjlacbeaaDoorG16
/- The walk of the specification's l02Base. -/
namespace Go.Proofs.YtjfnmfnjlacbeaaDoor
open Go.RowKit
namespace WPathS
theorem base1_any (s : ByteArray) (w : World) (hs : s.size ≤ maxLen) :
    Calls Tryd.prog 86 #[.string s] w fun e w' => e = .returned (.string (Pl.base s)) ∧ w' = w := by
  have hb := Pl.slash_lt s s.size
  have hc := hide (fun W => cut_any s W hs)
  unfold maxLen at hs
  have E : Hid (Pl.base s = s.extract (Pl.slashTo s s.size + 1).toNat s.size) := rfl
  generalize Pl.base s = R at E ⊢
  generalize Pl.slashTo s s.size = k at hc hb E
  have t1 : 0 ≤ k + 1 := by omega
  have t2 : k + 1 ≤ (s.size : Int) := by omega
  go_enter Tryd.func86, Tryd.ntmps86
  go_wp2_with (go_at_call 79; refine (unhide hc _).mono ?_; rintro e w' ⟨rfl, hw⟩; obtain rfl := hw.symm)
  go_ret
  exact ⟨ret_string (unhide E).symm, rfl⟩
end WPathS
end Go.Proofs.YtjfnmfnjlacbeaaDoor

/- The walks of the specification's l03Names and TreeNames. -/
namespace Go.Proofs.YtjfnmfnjlacbeaaDoor
open Go.RowKit
namespace WNamesT
theorem infoS : (Tryd.prog.info? 9).map (fun i => (i.zero, i.size, i.bytes)) = some (some (.string ⟨#[]⟩), 1, 16) := by kernel_rfl
theorem tl_eq {a b : ByteArray} (h : a ≠ b) : (a.toList == b.toList) = false := by
  rw [beq_eq_false_iff_ne]
  intro e
  exact h (Pl.by_inj (by rw [ByteArray.toList_eq, ByteArray.toList_eq] at e; exact e))
theorem own_snoc {w : World} {B : Nat} {v : Value} {K : List ByteArray} {t : ByteArray} (h : w.ownsRow B 9 1 v (K.length + 1) (K.map Value.string ++ [.string t])) : w.ownsRow B 9 1 v (K ++ [t]).length ((K ++ [t]).map Value.string) := by
  rw [List.map_append, List.length_append]; exact h
set_option linter.unusedSimpArgs false in
set_option maxRecDepth 100000 in
set_option maxHeartbeats 2000000 in
theorem l03_any (a : Option Addr) (cap : Nat) (L : List Pl.Nd) (p : ByteArray) (w : World) (hl : L.length ≤ 1048576) (hv : Mem.isNodes w a L) (hok : ∀ n ∈ L, n.path.size ≤ 1048576 ∧ n.data.size ≤ 1048576) :
    Calls Tryd.prog 57 #[.agg #[.slice a L.length cap], .string p] w fun e w' => ∃ v, e = .returned v ∧ w'.ownsRow w.heap.size 9 1 v (Pl.kidsL p L).length ((Pl.kidsL p L).map Value.string) ∧ Below w.heap.size w w' := by
  obtain ⟨i0, hi, hz0, hz1, hz2⟩ := info_parts infoS
  have HV := hide hv
  have HO := hide hok
  have b0 : Below w.heap.size w ((w.alloc (.cells #[.slice a L.length cap] 36)).alloc (.cells #[] 9)) := ((Below.refl _ _).alloc (Nat.le_refl _) _).alloc (by simp) _
  have V0 := (Mem.Blk.new w #[.slice a L.length cap] 36).alloc (.cells #[] 9)
  have O0 : ((w.alloc (.cells #[.slice a L.length cap] 36)).alloc (.cells #[] 9)).ownsRow (w.heap.size + 1) 9 1 (.slice (some ⟨w.heap.size + 1, 0, none⟩) 0 0) (Pl.kidsL p (L.take 0)).length ((Pl.kidsL p (L.take 0)).map Value.string) :=
    ⟨rfl, .inr ⟨w.heap.size + 1, 0, #[], rfl, Nat.le_refl _, Mem.new_two _ _ _, Nat.le_refl _, Nat.zero_le _, rfl, rfl⟩⟩
  have HB0 := hide b0
  have HV0 := hide V0
  have HO0 := hide O0
  clear hv hok b0 V0 O0
  go_enter Tryd.func57, Tryd.ntmps57
  go_wp2
  go_loopw [5, 6] (fun v i wr => ∃ k : Nat, k ≤ L.length ∧ i = .int .i64 (k : Int) ∧ Hid (Below w.heap.size w wr) ∧ Hid (Mem.Blk wr w.heap.size #[.slice a L.length cap] 36) ∧ Hid (wr.ownsRow (w.heap.size + 1) 9 1 v (Pl.kidsL p (L.take k)).length ((Pl.kidsL p (L.take k)).map Value.string))) (fun _ i _ => L.length - (intOf i).toNat)
  case atStart => exact ⟨0, Nat.zero_le _, rfl, HB0, HV0, HO0⟩
  case round =>
    obtain ⟨k, hk, rfl, HB, HO1, HW⟩ := hrel
    clear HB0 HV0 HO0
    have c1 := (unhide HO1).cell 0
    simp only [kA0, kA1] at c1
    by_cases hlt : k < L.length
    · obtain ⟨n, hn⟩ : ∃ n, L[k]? = some n := ⟨_, List.getElem?_eq_getElem hlt⟩
      obtain ⟨b, o, rfl, hb, q0, q1, q2, q3, q4⟩ := (Mem.nodes_call (unhide HV) (unhide HB)) k n hn
      have y1 : (k : Int) < (L.length : Int) := by omega
      have y3 : (0 : Int) ≤ (k : Int) := by omega
      have hno := (unhide HO n (List.mem_of_getElem? hn)).1
      have hpa := hide (fun W => WPathS.parent_any n.path W (by unfold maxLen; omega))
      have hba := hide (fun W => WPathS.base1_any n.path W (by unfold maxLen; omega))
      have HLEN := hide (Pl.kids_len p L k)
      by_cases hk0 : Pl.parent n.path = p
      · have HK := hide (Pl.kids_in hn hk0)
        rw [hk0] at hpa
        generalize Pl.base n.path = BB at hba HK
        clear hn hk0 hno
        obtain ⟨qp, qk, qd, qt, qm⟩ := n
        simp only at q0 q1 q2 q3 q4 hpa hba
        have HSZ := hide (unhide HO1).lt
        have HLT := hide ((unhide HW).lt)
        go_wp2_with (first | (go_at_call 49; refine (unhide hpa _).mono ?_; rintro e w' ⟨rfl, hw⟩; obtain rfl := hw.symm) | (go_at_call 86; refine (unhide hba _).mono ?_; rintro e w' ⟨rfl, hw⟩; obtain rfl := hw.symm) | (at_builtin; refine wpList_append_own _ rfl _ _ 47 rfl (w.heap.size + 1) 9 i0 (.string ⟨#[]⟩) 1 16 Tryd.underlying47 hi hz0 hz1 hz2 rfl (by decide) _ _ _ rfl ((unhide HW).alloc _) ⟨wr.heap.size, 0, none⟩ 1 1 [.string BB] rfl rfl (Mem.one_new _ _ _) (fun u hu => by simp at hu; subst hu; rfl) (by have := unhide HLEN; unfold maxLen; omega) (by have := unhide HLEN; omega) (by have := unhide HSZ; simp; omega) ?_))
        intro v' wZ hownZ hgrow _
        have OW := hide (show wZ.ownsRow (w.heap.size + 1) 9 1 v' (Pl.kidsL p (L.take (k + 1))).length ((Pl.kidsL p (L.take (k + 1))).map Value.string) by rw [unhide HK]; exact own_snoc hownZ)
        have BZ := hide (((unhide HB).alloc (unhide HB).size (.cells #[.string BB] 9)).grown hgrow (by have := (unhide HB).size; simp; omega) (fun q hq => by have := (unhide HLT q hq).1; omega))
        have VZ := hide (((unhide HO1).alloc (.cells #[.string BB] 9)).grown hgrow (fun e => by have := (unhide HLT _ e.symm).1; omega))
        clear hownZ hgrow HB HO1 HW hpa hba q0 q1 q2 q3 q4
        go_wp2
        go_roundw
        case rel => exact ⟨k + 1, by omega, by go_num, BZ, VZ, OW⟩
        case measure => simp [intOf]; omega
      · have HK := hide (Pl.kids_out hn hk0)
        have t1 := tl_eq hk0
        generalize Pl.parent n.path = PP at hpa t1
        clear hn hk0 hno hba
        obtain ⟨qp, qk, qd, qt, qm⟩ := n
        simp only at q0 q1 q2 q3 q4 hpa
        rw [← unhide HK] at HW
        go_wp2_with (go_at_call 49; refine (unhide hpa _).mono ?_; rintro e w' ⟨rfl, hw⟩; obtain rfl := hw.symm)
        go_roundw
        case rel => exact ⟨k + 1, by omega, by go_num, HB, HO1, HW⟩
        case measure => simp [intOf]; omega
    · obtain rfl : k = L.length := by omega
      rw [List.take_length] at HW
      have y1 : ¬ ((L.length : Int) < (L.length : Int)) := by omega
      go_wp2
      go_ret
      exact ⟨_, rfl, Mem.own_mono (unhide HW) (by omega), unhide HB⟩
end WNamesT
end Go.Proofs.YtjfnmfnjlacbeaaDoor

/- The specification's TreeNames. -/
namespace Go.Proofs.YtjfnmfnjlacbeaaDoor
open Go.RowKit
namespace WNamesT
set_option linter.unusedSimpArgs false in
set_option maxRecDepth 100000 in
set_option maxHeartbeats 2000000 in
theorem spec_any (a : Option Addr) (cap : Nat) (L : List Pl.Nd) (p : ByteArray) (w : World) (hl : L.length ≤ 1048576) (hv : Mem.isNodes w a L) (hok : ∀ n ∈ L, n.path.size ≤ 1048576 ∧ n.data.size ≤ 1048576) :
    Calls Tryd.prog 24 #[.agg #[.slice a L.length cap], .string p] w fun e w' => ∃ v, e = .returned v ∧ w'.ownsRow w.heap.size 9 1 v (Pl.kidsO p L).length ((Pl.kidsO p L).map Value.string) ∧ Below w.heap.size w w' := by
  have b0 : Below w.heap.size w (w.alloc (.cells #[.slice a L.length cap] 36)) := (Below.refl _ _).alloc (Nat.le_refl _) _
  have V0 := Mem.Blk.new w #[.slice a L.length cap] 36
  have hrt := hide (fun W (b : Below w.heap.size w W) => WTreeS.right_tree a cap L W hl (Mem.nodes_call hv b) hok)
  have hdi := hide (fun W (b : Below w.heap.size w W) => WTreeS.dir_any a cap L p W hl (Mem.nodes_call hv b))
  have hna := hide (fun W (b : Below w.heap.size w W) => l03_any a cap L p W hl (Mem.nodes_call hv b) hok)
  have EMPTY : Hid (∀ W : World, (W.alloc (.cells #[] 9)).ownsRow W.heap.size 9 1 (.slice (some ⟨W.heap.size, 0, none⟩) 0 0) ([] : List ByteArray).length (([] : List ByteArray).map Value.string)) := fun W =>
    ⟨rfl, .inr ⟨W.heap.size, 0, #[], rfl, Nat.le_refl _, heap_alloc_new _ _, Nat.le_refl _, Nat.zero_le _, rfl, rfl⟩⟩
  have EL : Hid (8000 < p.size → Pl.kidsO p L = []) := fun h => by
    rw [Pl.kidsO]
    split
    · rename_i h2
      exfalso
      have hL : ∀ n ∈ L, Pl.pathB n.path = true := fun n hn => by
        have h3 := h2.1
        simp only [Pl.treeB, Bool.and_eq_true] at h3
        exact (Pl.node_right (Pl.goI_all L _ _ h3.2 n hn)).1
      have := Pl.pathB_le (Pl.dir_right hL h2.2)
      omega
    · rfl
  have EO : Hid (Pl.kidsO p L = if Pl.treeB L = true ∧ Pl.dirS L p = true then Pl.kidsL p L else []) := rfl
  generalize Pl.kidsO p L = K at EL EO ⊢
  generalize Pl.treeB L = R1 at hrt EO
  generalize Pl.dirS L p = R2 at hdi EO
  clear hv hok
  by_cases hz : 8000 < p.size
  · have t0 : (8000 : Int) < (p.size : Int) := by omega
    have e := unhide EL hz
    subst e
    clear hrt hdi hna EO EL V0
    go_enter Tryd.func24, Tryd.ntmps24
    go_wp2
    go_ret
    have E1 := unhide EMPTY (w.alloc (.cells #[.slice a L.length cap] 36))
    rw [show (w.alloc (.cells #[.slice a L.length cap] 36)).heap.size = w.heap.size + 1 by simp] at E1
    exact ⟨_, rfl, Mem.own_mono E1 (by omega), b0.alloc b0.size _⟩
  have t0 : ¬ (8000 : Int) < (p.size : Int) := by omega
  clear EL
  cases R1
  · have e : K = [] := by rw [unhide EO, if_neg (by simp)]
    subst e
    clear hdi hna EO V0
    go_enter Tryd.func24, Tryd.ntmps24
    go_wp2_with fail
    refine (unhide hrt _ b0).mono ?_
    rintro e w1 ⟨rfl, b1⟩
    have b2 := b0.trans (b1.mono b0.size)
    clear hrt b0 b1
    go_wp2
    go_ret
    exact ⟨_, rfl, Mem.own_mono (unhide EMPTY w1) b2.size, b2.alloc b2.size _⟩
  cases R2
  · have e : K = [] := by rw [unhide EO, if_neg (by simp)]
    subst e
    clear hna EO
    go_enter Tryd.func24, Tryd.ntmps24
    go_wp2_with fail
    refine (unhide hrt _ b0).mono ?_
    rintro e w1 ⟨rfl, b1⟩
    have b2 := b0.trans (b1.mono b0.size)
    have c0 := (V0.call b1).cell 0
    simp only [kA0, kA1] at c0
    clear hrt b0 b1 V0
    go_wp2_with fail
    refine (unhide hdi _ b2).mono ?_
    rintro e w3 ⟨rfl, b3⟩
    have b4 := b2.trans (b3.mono b2.size)
    clear hdi b2 b3 c0
    go_wp2
    go_ret
    exact ⟨_, rfl, Mem.own_mono (unhide EMPTY w3) b4.size, b4.alloc b4.size _⟩
  · have e : K = Pl.kidsL p L := by rw [unhide EO, if_pos ⟨rfl, rfl⟩]
    clear EO EMPTY
    rw [← e] at hna
    clear e
    go_enter Tryd.func24, Tryd.ntmps24
    go_wp2_with fail
    refine (unhide hrt _ b0).mono ?_
    rintro e w1 ⟨rfl, b1⟩
    have b2 := b0.trans (b1.mono b0.size)
    have V1 := V0.call b1
    have c0 := V1.cell 0
    simp only [kA0, kA1] at c0
    clear hrt b0 b1 V0
    go_wp2_with fail
    refine (unhide hdi _ b2).mono ?_
    rintro e w3 ⟨rfl, b3⟩
    have b4 := b2.trans (b3.mono b2.size)
    have c1 := (V1.call b3).cell 0
    simp only [kA0, kA1] at c1
    clear hdi b2 b3 c0 V1
    go_wp2_with fail
    refine (unhide hna _ b4).mono ?_
    rintro e w5 ⟨v, rfl, own, b5⟩
    have b6 := b4.trans (b5.mono b4.size)
    have OW := hide (Mem.own_mono own b4.size)
    clear hna b4 b5 own c1
    go_wp2
    go_ret
    exact ⟨_, rfl, unhide OW, b6⟩
end WNamesT
end Go.Proofs.YtjfnmfnjlacbeaaDoor

/- The walk of the program's PathBase. -/
namespace Go.Proofs.YtjfnmfnjlacbeaaDoor
open Go.RowKit
namespace WPathI
set_option maxRecDepth 100000 in
set_option maxHeartbeats 400000 in
theorem base_any (s : ByteArray) (w : World) (hs : s.size ≤ 1048576) :
    Calls Tryd.prog 60 #[.string s] w fun e w' => e = .returned (.string (Pl.glue ((Pl.namesR s).drop ((Pl.namesR s).length - 1)))) ∧ Below w.heap.size w w' := by
  have hn := hide (WNames.any s w hs)
  have hL := hide (Pl.namesR_all s)
  generalize Pl.pathB s = r at hn
  generalize Pl.namesR s = L at hn hL
  go_enter Tryd.func60, Tryd.ntmps60
  go_wp2_with fail
  refine (unhide hn).mono ?_
  rintro e w1 ⟨v, rfl, hown, hb⟩
  clear hn
  rcases Mem.texts hown with ⟨rfl, rfl⟩ | ⟨g, cap, rfl, hcap, hm, hgb, hgl, hcell⟩
  · clear hown
    go_wp2_with fail
    refine (WPathOf.any _ [] _ (by simp) (by decide) (.inl ⟨rfl, rfl⟩)).mono ?_
    rintro e w2 ⟨rfl, hb2⟩
    have hb3 := hb.trans (hb2.mono hb.size)
    clear hb hb2
    go_wp2
    go_ret
    exact ⟨rfl, hb3⟩
  · clear hown
    have hm2 := hm
    have HC := hide hcell
    clear hcell
    unfold maxLen at hm2
    by_cases h0 : L.length = 0
    · obtain rfl : L = [] := List.eq_nil_of_length_eq_zero h0
      go_wp2_with fail
      refine (WPathOf.any _ [] _ (by simp) (by decide) (.inr ⟨g, 0, cap, rfl, hgl, fun j t h => by simp at h⟩)).mono ?_
      rintro e w2 ⟨rfl, hb2⟩
      have hb3 := hb.trans (hb2.mono hb.size)
      clear hb hb2
      go_wp2
      go_ret
      exact ⟨rfl, hb3⟩
    · have h1 : (0 : Int) ≤ (L.length : Int) - 1 := by omega
      have h2 : (L.length : Int) - 1 ≤ (L.length : Int) := by omega
      have h3 : cap ≠ L.length - 1 := by omega
      go_wp2_with fail
      refine (WPathOf.any _ (L.drop (L.length - 1)) _ ?_ (Pl.glue_small (Pl.all_drop (unhide hL).1 _) ?_) (Mem.drop_texts hgl (unhide HC) _)).mono ?_
      · have := (unhide hL).2; simp; omega
      · have := (unhide hL).2; simp; omega
      rintro e w2 ⟨rfl, hb2⟩
      have hb3 := hb.trans (hb2.mono hb.size)
      clear hb hb2
      go_wp2
      go_ret
      exact ⟨rfl, hb3⟩
end WPathI
end Go.Proofs.YtjfnmfnjlacbeaaDoor

