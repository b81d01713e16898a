/- Several texts of one claim in one file: WBothI, WLess, WParentI. -/
import Derived.Test.YtkfpfckmjgjanacDoorG11
import Derived.Test.YtkfpfckmjgjanacDoorG03
import Derived.Deep.QuietTactic
import Derived.BigQuiet
/- The walk of namesOfBoth. -/
namespace Go.Proofs.YtkfpfckmjgjanacDoor
open Go.RowKit
namespace WUnder
set_option maxRecDepth 100000 in
theorem both_any (a b : ByteArray) (w : World) (ha : a.size ≤ 1048576) (hb : b.size ≤ 1048576) :
    Calls Tryd.prog 53 #[.string a, .string b] w fun e w' => ∃ v1 v2 m, e = .returned (.tuple #[v1, v2, .bool (Pl.pathB a && Pl.pathB b)]) ∧ w.heap.size ≤ m ∧
      w'.ownsRow w.heap.size 9 1 v1 (Pl.namesR a).length ((Pl.namesR a).map Value.string) ∧ (∀ k, v1.ownBlock = some k → k < m) ∧
      w'.ownsRow m 9 1 v2 (Pl.namesR b).length ((Pl.namesR b).map Value.string) ∧ Below w.heap.size w w' := by
  have hn1 := hide (fun W => WNames.any a W ha)
  have hn2 := hide (fun W => WNames.any b W hb)
  generalize Pl.pathB a = r1 at hn1 ⊢
  generalize Pl.pathB b = r2 at hn2 ⊢
  generalize Pl.namesR a = A at hn1 ⊢
  generalize Pl.namesR b = B at hn2 ⊢
  cases r1 <;> cases r2
  all_goals
    go_enter Tryd.func53, Tryd.ntmps53
    go_wp2_with fail
    refine (unhide hn1 _).mono ?_
    rintro e w1 ⟨v1, rfl, hown1, hb1⟩
    have HO1 := hide hown1
    clear hown1
    go_wp2_with fail
    refine (unhide hn2 _).mono ?_
    rintro e w2 ⟨v2, rfl, hown2, hb2⟩
    have HO2 := hide hown2
    clear hown2
    have H : Hid (∃ m, w.heap.size ≤ m ∧ w2.ownsRow w.heap.size 9 1 v1 A.length (A.map Value.string) ∧ (∀ k, v1.ownBlock = some k → k < m) ∧
        w2.ownsRow m 9 1 v2 B.length (B.map Value.string) ∧ Below w.heap.size w w2) :=
      ⟨w1.heap.size, hb1.size, Mem.own_call (unhide HO1) hb2, fun k hk => ((unhide HO1).lt k hk).2, unhide HO2, hb1.trans (hb2.mono hb1.size)⟩
    clear hb1 hb2 HO1 HO2
    go_wp2
    go_ret3
    obtain ⟨m, h1, h2, h3, h4, h5⟩ := H.out
    exact ⟨v1, v2, m, rfl, h1, h2, h3, h4, h5⟩
end WUnder
end Go.Proofs.YtkfpfckmjgjanacDoor

/- The walks of a route's ahead and of the program's PathLess (by a method value). -/
namespace Go.Proofs.YtkfpfckmjgjanacDoor
open Go.RowKit
namespace WLess
set_option maxRecDepth 100000 in
set_option maxHeartbeats 400000 in
theorem ahead_any (v u : Value) (A B : List ByteArray) (w : World) (hA : A.length ≤ 1000) (hB : B.length ≤ 1000) (hv : Mem.isTexts w v A) (hu : Mem.isTexts w u B) :
    Calls Tryd.prog 54 #[v, u] w fun e w' => e = .returned (.bool (Pl.lessL A B)) ∧ Below w.heap.size w w' := by
  have HE : Hid (∀ k, k = A.length ∧ k ≤ B.length ∨ k = B.length ∧ k ≤ A.length → Pl.lessL (A.drop k) (B.drop k) = decide (A.length < B.length)) := fun k h => Pl.less_end h
  by_cases h0 : A = [] ∨ B = []
  · have E : Hid (Pl.lessL A B = decide (A.length < B.length)) := by
      show _ = _
      have := HE.out 0 (by rcases h0 with rfl | rfl <;> simp)
      simpa using this
    obtain ⟨va, vc, rfl⟩ := Mem.texts_shape hv
    obtain ⟨ua, uc, rfl⟩ := Mem.texts_shape hu
    clear hv hu HE
    rcases h0 with rfl | rfl
    · have t0 : (([] : List ByteArray).length : Int) ≤ (B.length : Int) := by simp
      go_enter Tryd.func54, Tryd.ntmps54
      go_wp2
      go_loop [11] (fun i => i = .int .i64 0) (fun _ => 0)
      case atStart => rfl
      case round =>
        subst hrel
        go_wp2
        go_ret
        exact ⟨ret_bool (by rw [E.out]; simp), Below.refl _ _⟩
    · by_cases hA0 : A = []
      · subst hA0
        go_enter Tryd.func54, Tryd.ntmps54
        go_wp2
        go_loop [11] (fun i => i = .int .i64 0) (fun _ => 0)
        case atStart => rfl
        case round =>
          subst hrel
          go_wp2
          go_ret
          exact ⟨ret_bool (by rw [E.out]; simp), Below.refl _ _⟩
      · have hp : 0 < A.length := List.length_pos_iff.2 hA0
        have t0 : ¬ (A.length : Int) ≤ 0 := by omega
        have t1 : ¬ (A.length : Int) < 0 := by omega
        have t2 : (0 : Int) < (A.length : Int) := by omega
        go_enter Tryd.func54, Tryd.ntmps54
        go_wp2
        go_loop [11] (fun i => i = .int .i64 0) (fun _ => 0)
        case atStart => rfl
        case round =>
          subst hrel
          go_wp2
          go_ret
          exact ⟨ret_bool (by rw [E.out]; simp), Below.refl _ _⟩
  · rcases hu with ⟨_, rfl⟩ | ⟨b, o, cap, rfl, hb, hcb⟩
    · simp at h0
    rcases hv with ⟨_, rfl⟩ | ⟨b', o', cap', rfl, hb', hca⟩
    · simp at h0
    have HA := hide hca
    have HB := hide hcb
    clear hca hcb h0
    have HS : Hid (Pl.lessL A B = Pl.lessL (A.drop 0) (B.drop 0)) := rfl
    have HT : Hid (∀ k a b, A[k]? = some a → B[k]? = some b → a = b → Pl.lessL (A.drop k) (B.drop k) = Pl.lessL (A.drop (k + 1)) (B.drop (k + 1))) := fun k a b h1 h2 h3 => Pl.less_same h1 h2 h3
    have HF : Hid (∀ k a b, A[k]? = some a → B[k]? = some b → a ≠ b → Pl.lessL (A.drop k) (B.drop k) = Op.bytesLess a.toList b.toList) := fun k a b h1 h2 h3 => Pl.less_other h1 h2 h3
    generalize Pl.lessL A B = R at HS ⊢
    by_cases hAB : A.length ≤ B.length
    · have t0 : (A.length : Int) ≤ (B.length : Int) := by omega
      go_enter Tryd.func54, Tryd.ntmps54
      go_wp2
      go_loopw [11] (fun i wr => ∃ k : Nat, k ≤ A.length ∧ i = .int .i64 (k : Int) ∧ Below w.heap.size w wr ∧ Hid (R = Pl.lessL (A.drop k) (B.drop k))) (fun i _ => A.length - (intOf i).toNat)
      case atStart => exact ⟨0, Nat.zero_le _, rfl, Below.refl _ _, HS⟩
      case round =>
        obtain ⟨k, hk, rfl, hbel, HR⟩ := hrel
        by_cases hlt : k < A.length
        · obtain ⟨y, hy⟩ : ∃ y, B[k]? = some y := ⟨_, List.getElem?_eq_getElem (by omega)⟩
          obtain ⟨x, hx⟩ : ∃ x, A[k]? = some x := ⟨_, List.getElem?_eq_getElem (by omega)⟩
          have hc1 : wr.cell? ⟨b, o + k, none⟩ = some (.string y) := (hbel.cell (p := ⟨b, o + k, none⟩) hb).trans (HB.out k y hy)
          have hc2 : wr.cell? ⟨b', o' + k, none⟩ = some (.string x) := (hbel.cell (p := ⟨b', o' + k, none⟩) hb').trans (HA.out k x hx)
          have u1 : (k : Int) < (A.length : Int) := by omega
          have u2 : (k : Int) < (B.length : Int) := by omega
          have u3 : (0 : Int) ≤ (k : Int) := by omega
          by_cases hxy : x = y
          · have t2 := Pl.eq_lists hxy
            have HR2 : Hid (R = Pl.lessL (A.drop (k + 1)) (B.drop (k + 1))) := HR.out.trans (HT.out k x y hx hy hxy)
            clear hx hy HR hxy
            go_wp2
            go_quiet (fail)
            go_wp2
            go_roundw
            case rel => exact ⟨k + 1, by omega, by go_num, Mem.below_drewN hbel _, HR2⟩
            case measure => simp [intOf]; omega
          · have t2 := Pl.ne_lists hxy
            have E : Hid (R = Op.bytesLess x.toList y.toList) := HR.out.trans (HF.out k x y hx hy hxy)
            clear hx hy HR hxy
            go_wp2
            go_quiet (fail)
            go_wp2
            go_quiet (fail)
            go_wp2
            go_ret
            exact ⟨ret_bool E.out.symm, Mem.below_drewN (Mem.below_drewN hbel _) _⟩
        · obtain rfl : k = A.length := by omega
          have E : Hid (R = decide (A.length < B.length)) := HR.out.trans (HE.out _ (by omega))
          clear HR
          go_wp2
          go_ret
          exact ⟨ret_bool (by rw [E.out]), hbel⟩
    · have t0 : ¬ (A.length : Int) ≤ (B.length : Int) := by omega
      have t9 : (B.length : Int) < (A.length : Int) := by omega
      go_enter Tryd.func54, Tryd.ntmps54
      go_wp2
      go_loopw [11] (fun i wr => ∃ k : Nat, k ≤ B.length ∧ i = .int .i64 (k : Int) ∧ Below w.heap.size w wr ∧ Hid (R = Pl.lessL (A.drop k) (B.drop k))) (fun i _ => B.length - (intOf i).toNat)
      case atStart => exact ⟨0, Nat.zero_le _, rfl, Below.refl _ _, HS⟩
      case round =>
        obtain ⟨k, hk, rfl, hbel, HR⟩ := hrel
        by_cases hlt : k < B.length
        · obtain ⟨y, hy⟩ : ∃ y, B[k]? = some y := ⟨_, List.getElem?_eq_getElem (by omega)⟩
          obtain ⟨x, hx⟩ : ∃ x, A[k]? = some x := ⟨_, List.getElem?_eq_getElem (by omega)⟩
          have hc1 : wr.cell? ⟨b, o + k, none⟩ = some (.string y) := (hbel.cell (p := ⟨b, o + k, none⟩) hb).trans (HB.out k y hy)
          have hc2 : wr.cell? ⟨b', o' + k, none⟩ = some (.string x) := (hbel.cell (p := ⟨b', o' + k, none⟩) hb').trans (HA.out k x hx)
          have u1 : (k : Int) < (A.length : Int) := by omega
          have u2 : (k : Int) < (B.length : Int) := by omega
          have u3 : (0 : Int) ≤ (k : Int) := by omega
          by_cases hxy : x = y
          · have t2 := Pl.eq_lists hxy
            have HR2 : Hid (R = Pl.lessL (A.drop (k + 1)) (B.drop (k + 1))) := HR.out.trans (HT.out k x y hx hy hxy)
            clear hx hy HR hxy
            go_wp2
            go_quiet (fail)
            go_wp2
            go_roundw
            case rel => exact ⟨k + 1, by omega, by go_num, Mem.below_drewN hbel _, HR2⟩
            case measure => simp [intOf]; omega
          · have t2 := Pl.ne_lists hxy
            have E : Hid (R = Op.bytesLess x.toList y.toList) := HR.out.trans (HF.out k x y hx hy hxy)
            clear hx hy HR hxy
            go_wp2
            go_quiet (fail)
            go_wp2
            go_quiet (fail)
            go_wp2
            go_ret
            exact ⟨ret_bool E.out.symm, Mem.below_drewN (Mem.below_drewN hbel _) _⟩
        · obtain rfl : k = B.length := by omega
          have E : Hid (R = decide (A.length < B.length)) := HR.out.trans (HE.out _ (by omega))
          clear HR
          go_wp2
          go_ret
          exact ⟨ret_bool (by rw [E.out]), hbel⟩

set_option maxRecDepth 100000 in
theorem less_any (p t : ByteArray) (w : World) (hp : p.size ≤ 1048576) (ht : t.size ≤ 1048576) :
    Calls Tryd.prog 44 #[.string p, .string t] w fun e w' => e = .returned (.bool (Pl.pathB p && Pl.pathB t && Pl.lessL (Pl.namesR p) (Pl.namesR t))) ∧ Below w.heap.size w w' := by
  have hn := hide (fun W => WUnder.both_any p t W hp ht)
  have hA := hide (Pl.namesR_all p)
  have hB := hide (Pl.namesR_all t)
  generalize (Pl.pathB p && Pl.pathB t) = r at hn ⊢
  generalize Pl.namesR p = A at hn hA ⊢
  generalize Pl.namesR t = B at hn hB ⊢
  cases r
  · go_enter Tryd.func44, Tryd.ntmps44
    go_wp2_with fail
    refine (unhide hn _).mono ?_
    rintro e w1 ⟨v1, v2, m, rfl, -, -, -, -, hb⟩
    go_wp2
    go_ret
    exact ⟨rfl, hb⟩
  · go_enter Tryd.func44, Tryd.ntmps44
    go_wp2_with fail
    refine (unhide hn _).mono ?_
    rintro e w1 ⟨v1, v2, m, rfl, h1, h2, h3, h4, hb⟩
    have i1 := hide (Mem.own_texts h2)
    have i2 := hide (Mem.own_texts h4)
    clear h2 h4 h3 hn
    go_wp2_with fail
    refine (ahead_any _ _ A B _ (by have := (unhide hA).2; omega) (by have := (unhide hB).2; omega) (unhide i1) (unhide i2)).mono ?_
    rintro e w2 ⟨rfl, hb2⟩
    have hb3 := hb.trans (hb2.mono hb.size)
    generalize hr : Pl.lessL A B = r2
    have HR := hide hr
    clear hr hb hb2
    go_wp2
    go_ret
    exact ⟨by rw [unhide HR]; rfl, hb3⟩
end WLess
end Go.Proofs.YtkfpfckmjgjanacDoor

/- The walk of the program's PathParent. -/
namespace Go.Proofs.YtkfpfckmjgjanacDoor
open Go.RowKit
namespace WPathI
set_option maxRecDepth 100000 in
set_option maxHeartbeats 4000000 in
theorem parent_any (s : ByteArray) (w : World) (hs : s.size ≤ 1048576) :
    Calls Tryd.prog 55 #[.string s] w fun e w' => e = .returned (.string (Pl.glue (Pl.namesR s).dropLast)) ∧ Below w.heap.size w w' := by
  have hn := hide (WNames.any s w hs)
  have hL := hide (Pl.namesR_all s)
  generalize Pl.pathB s = r at hn
  generalize Pl.namesR s = L at hn hL
  go_enter Tryd.func55, Tryd.ntmps55
  go_wp2_with fail
  refine (unhide hn).mono ?_
  rintro e w1 ⟨v, rfl, hown, hb⟩
  clear hn
  rcases Mem.texts hown with ⟨rfl, rfl⟩ | ⟨g, cap, rfl, hcap, hm, hgb, hgl, hcell⟩
  · clear hown
    go_wp2_with fail
    refine (WPathOf.any _ [] _ (by simp) (by decide) (.inl ⟨rfl, rfl⟩)).mono ?_
    rintro e w2 ⟨rfl, hb2⟩
    have hb3 := hb.trans (hb2.mono hb.size)
    clear hb hb2
    go_wp2
    go_ret
    exact ⟨rfl, hb3⟩
  · clear hown
    have hm2 := hm
    have HC := hide hcell
    clear hcell
    unfold maxLen at hm2
    by_cases h0 : L.length = 0
    · obtain rfl : L = [] := List.eq_nil_of_length_eq_zero h0
      go_wp2_with fail
      refine (WPathOf.any _ [] _ (by simp) (by decide) (.inr ⟨g, 0, cap, rfl, hgl, fun j t h => by simp at h⟩)).mono ?_
      rintro e w2 ⟨rfl, hb2⟩
      have hb3 := hb.trans (hb2.mono hb.size)
      clear hb hb2
      go_wp2
      go_ret
      exact ⟨rfl, hb3⟩
    · have h1 : (0 : Int) ≤ (L.length : Int) - 1 := by omega
      have h2 : (L.length : Int) - 1 ≤ (cap : Int) := by omega
      have E := hide (Pl.drop_last L)
      go_wp2_with fail
      refine (WPathOf.any _ (L.take (L.length - 1)) _ ?_ (Pl.glue_small (Pl.all_take (unhide hL).1 _) ?_) (Mem.take_texts hgl (unhide HC) _ (by omega))).mono ?_
      · have := (unhide hL).2; simp; omega
      · have := (unhide hL).2; simp; omega
      rintro e w2 ⟨rfl, hb2⟩
      rw [unhide E]
      have hb3 := hb.trans (hb2.mono hb.size)
      clear hb hb2
      go_wp2
      go_ret
      exact ⟨rfl, hb3⟩
end WPathI
end Go.Proofs.YtkfpfckmjgjanacDoor

