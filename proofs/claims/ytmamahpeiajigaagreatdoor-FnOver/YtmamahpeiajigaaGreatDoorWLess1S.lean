/- The walk of the specification's l02Less. -/
import Derived.Test.YtmamahpeiajigaaGreatDoorWSpecR
import Derived.Test.YtmamahpeiajigaaGreatDoorPlainLess
import Derived.Test.YtmamahpeiajigaaGreatDoorMemTexts
import Derived.Deep.QuietTactic
import Derived.BigQuiet
namespace Go.Proofs.YtmamahpeiajigaaGreatDoor
open Go.RowKit
namespace WPathS
set_option maxRecDepth 100000 in
set_option maxHeartbeats 1000000 in
theorem less1_any (p t : ByteArray) (w : World) (hp : p.size ≤ 8000) (ht : t.size ≤ 8000) :
    Calls Tryz.prog 49 #[.string p, .string t] w fun e w' => e = .returned (.bool (Pl.lessL (Pl.names p) (Pl.names t))) ∧ Below w.heap.size w w' := by
  have hn1 := hide (fun W => names_any p W (by omega))
  have hn2 := hide (fun W => names_any t W (by omega))
  have hA := Pl.names_length p
  have hB := Pl.names_length t
  generalize Pl.names p = A at hn1 hA ⊢
  generalize Pl.names t = B at hn2 hB ⊢
  have HE : Hid (∀ k, k = A.length ∧ k ≤ B.length ∨ k = B.length ∧ k ≤ A.length → Pl.lessL (A.drop k) (B.drop k) = decide (A.length < B.length)) := fun k h => Pl.less_end h
  have HS : Hid (Pl.lessL A B = Pl.lessL (A.drop 0) (B.drop 0)) := rfl
  have HT : Hid (∀ k a b, A[k]? = some a → B[k]? = some b → a = b → Pl.lessL (A.drop k) (B.drop k) = Pl.lessL (A.drop (k + 1)) (B.drop (k + 1))) := fun k a b h1 h2 h3 => Pl.less_same h1 h2 h3
  have HF : Hid (∀ k a b, A[k]? = some a → B[k]? = some b → a ≠ b → Pl.lessL (A.drop k) (B.drop k) = Op.bytesLess a.toList b.toList) := fun k a b h1 h2 h3 => Pl.less_other h1 h2 h3
  generalize Pl.lessL A B = R at HS ⊢
  go_enter Tryz.func49, Tryz.ntmps49
  go_wp2_with fail
  refine (unhide hn1 _).mono ?_
  rintro e w1 ⟨v, rfl, hown1, b1⟩
  have HO1 := hide hown1
  clear hown1
  go_wp2_with fail
  refine (unhide hn2 _).mono ?_
  rintro e w2 ⟨u, rfl, hown2, b2⟩
  have hv := hide (Mem.texts_call (Mem.own_texts (unhide HO1)) b2)
  have hu := hide (Mem.own_texts hown2)
  have b3 := b1.trans (b2.mono b1.size)
  have hs3 := b3.size
  clear b1 b2 hown2 HO1 hn1 hn2
  obtain ⟨va, vc, rfl⟩ := Mem.texts_shape (unhide hv)
  obtain ⟨ua, uc, rfl⟩ := Mem.texts_shape (unhide hu)
  have HCA : Hid (∀ (k : Nat) x, A[k]? = some x → ∃ b o, va = some ⟨b, o, none⟩ ∧ b < w2.heap.size ∧ w2.cell? ⟨b, o + k, none⟩ = some (.string x)) := fun k x hx => by
    rcases unhide hv with ⟨_, rfl⟩ | ⟨b, o, cap, h1, h2, h3⟩
    · simp at hx
    · cases h1; exact ⟨b, o, rfl, h2, h3 k x hx⟩
  have HCB : Hid (∀ (k : Nat) x, B[k]? = some x → ∃ b o, ua = some ⟨b, o, none⟩ ∧ b < w2.heap.size ∧ w2.cell? ⟨b, o + k, none⟩ = some (.string x)) := fun k x hx => by
    rcases unhide hu with ⟨_, rfl⟩ | ⟨b, o, cap, h1, h2, h3⟩
    · simp at hx
    · cases h1; exact ⟨b, o, rfl, h2, h3 k x hx⟩
  clear hv hu
  go_wp2
  go_loopw [7] (fun i wr => ∃ k : Nat, k ≤ A.length ∧ k ≤ B.length ∧ i = .int .i64 (k : Int) ∧ Below w2.heap.size w2 wr ∧ Hid (R = Pl.lessL (A.drop k) (B.drop k))) (fun i _ => A.length - (intOf i).toNat)
  case atStart => exact ⟨0, Nat.zero_le _, Nat.zero_le _, rfl, Below.refl _ _, HS⟩
  case round =>
    obtain ⟨k, hk, hk2, rfl, hbel, HR⟩ := hrel
    by_cases hlt : k < A.length ∧ k < B.length
    · obtain ⟨l1, l2⟩ := hlt
      obtain ⟨y, hy⟩ : ∃ y, B[k]? = some y := ⟨_, List.getElem?_eq_getElem (by omega)⟩
      obtain ⟨x, hx⟩ : ∃ x, A[k]? = some x := ⟨_, List.getElem?_eq_getElem (by omega)⟩
      obtain ⟨b, o, rfl, hb, hcb⟩ := HCB.out k y hy
      obtain ⟨b', o', rfl, hb', hca⟩ := HCA.out k x hx
      have hc1 : wr.cell? ⟨b, o + k, none⟩ = some (.string y) := (hbel.cell (p := ⟨b, o + k, none⟩) hb).trans hcb
      have hc2 : wr.cell? ⟨b', o' + k, none⟩ = some (.string x) := (hbel.cell (p := ⟨b', o' + k, none⟩) hb').trans hca
      have u1 : (k : Int) < (A.length : Int) := by omega
      have u2 : (k : Int) < (B.length : Int) := by omega
      have u3 : (0 : Int) ≤ (k : Int) := by omega
      clear hcb hca
      by_cases hxy : x = y
      · have t2 := Pl.eq_lists hxy
        have HR2 : Hid (R = Pl.lessL (A.drop (k + 1)) (B.drop (k + 1))) := HR.out.trans (HT.out k x y hx hy hxy)
        clear hx hy HR hxy
        go_wp2
        go_quiet (fail)
        go_wp2
        go_roundw
        case rel => exact ⟨k + 1, by omega, by omega, by go_num, Mem.below_drewN hbel _, HR2⟩
        case measure => simp [intOf]; omega
      · have t2 := Pl.ne_lists hxy
        have E : Hid (R = Op.bytesLess x.toList y.toList) := HR.out.trans (HF.out k x y hx hy hxy)
        clear hx hy HR hxy
        go_wp2
        go_quiet (fail)
        go_wp2
        go_quiet (fail)
        go_wp2
        go_ret
        exact ⟨ret_bool E.out.symm, b3.trans ((Mem.below_drewN (Mem.below_drewN hbel _) _).mono hs3)⟩
    · have E : Hid (R = decide (A.length < B.length)) := HR.out.trans (HE.out _ (by omega))
      clear HR
      by_cases l1 : k < A.length
      · have u1 : (k : Int) < (A.length : Int) := by omega
        have u2 : ¬ (k : Int) < (B.length : Int) := by omega
        clear hlt
        go_wp2
        go_ret
        exact ⟨ret_bool (by rw [E.out]), b3.trans (hbel.mono hs3)⟩
      · have u1 : ¬ (k : Int) < (A.length : Int) := by omega
        clear hlt
        go_wp2
        go_ret
        exact ⟨ret_bool (by rw [E.out]), b3.trans (hbel.mono hs3)⟩
end WPathS
end Go.Proofs.YtmamahpeiajigaaGreatDoor
