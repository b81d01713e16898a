/- Several texts of one claim in one file: WUnder, WFace. -/
import Derived.Test.YtkfpfckmjgjanabDoorG12
import Derived.Deep.QuietTactic
import Derived.BigQuiet
/- The walk of a route's under. -/
namespace Go.Proofs.YtkfpfckmjgjanabDoor
open Go.RowKit
namespace WUnder
set_option maxRecDepth 100000 in
set_option maxHeartbeats 400000 in
theorem under_any (v u : Value) (A B : List ByteArray) (w : World) (hA : A.length ≤ 1000) (hB : B.length ≤ 1000) (hv : Mem.isTexts w v A) (hu : Mem.isTexts w u B) :
    Calls Tryd.prog 142 #[v, u] w fun e w' => e = .returned (.bool (Pl.underR A B)) ∧ w' = w := by
  obtain ⟨va, vc, rfl⟩ : ∃ a cap, v = .slice a A.length cap := by
    rcases hv with ⟨rfl, rfl⟩ | ⟨b, o, cap, rfl, _⟩ <;> exact ⟨_, _, rfl⟩
  obtain ⟨ua, uc, rfl⟩ : ∃ a cap, u = .slice a B.length cap := by
    rcases hu with ⟨rfl, rfl⟩ | ⟨b, o, cap, rfl, _⟩ <;> exact ⟨_, _, rfl⟩
  by_cases hlen : A.length < B.length
  · have E := hide (Pl.underR_short hlen)
    have t1 : (A.length : Int) < (B.length : Int) := by omega
    go_enter Tryd.func142, Tryd.ntmps142
    go_wp2
    go_ret
    exact ⟨ret_bool (unhide E).symm, rfl⟩
  have t1 : ¬ (A.length : Int) < (B.length : Int) := by omega
  by_cases h0 : B = []
  · subst h0
    have E : Hid (Pl.underR A [] = true) := (Pl.underR_iff A []).2 (fun j t h => by simp at h)
    go_enter Tryd.func142, Tryd.ntmps142
    go_wp2
    go_loop [14] (fun i => i = .int .i64 0) (fun _ => 0)
    case atStart => rfl
    case round =>
      subst hrel
      go_wp2
      go_ret
      exact ⟨ret_bool (unhide E).symm, rfl⟩
  rcases hu with ⟨_, rfl⟩ | ⟨b, o, cap, hv1, hb, hcb⟩
  · exact absurd rfl h0
  rcases hv with ⟨_, rfl⟩ | ⟨b', o', cap', hv2, hb', hca⟩
  · exact absurd (List.length_pos_iff.2 h0) (by simp at hlen; simp [hlen])
  cases hv1
  cases hv2
  have HA := hide hca
  have HB := hide hcb
  clear hca hcb
  have HT : Hid ((∀ (j : Nat) t, B[j]? = some t → A[j]? = some t) → Pl.underR A B = true) := fun h => (Pl.underR_iff A B).2 h
  have HF : Hid (∀ (j : Nat) a b, A[j]? = some a → B[j]? = some b → a ≠ b → Pl.underR A B = false) := fun j a b h1 h2 h3 => Pl.underR_not h1 h2 h3
  generalize Pl.underR A B = R at HT HF ⊢
  go_enter Tryd.func142, Tryd.ntmps142
  go_wp2
  go_loop [14] (fun i => ∃ k : Nat, k ≤ B.length ∧ i = .int .i64 (k : Int) ∧ Hid (∀ (j : Nat) t, j < k → B[j]? = some t → A[j]? = some t)) (fun i => B.length - (intOf i).toNat)
  case atStart => exact ⟨0, Nat.zero_le _, rfl, fun j t h => absurd h (by omega)⟩
  case round =>
    obtain ⟨k, hk, rfl, HS⟩ := hrel
    by_cases hlt : k < B.length
    · obtain ⟨y, hy⟩ : ∃ y, B[k]? = some y := ⟨_, List.getElem?_eq_getElem hlt⟩
      obtain ⟨x, hx⟩ : ∃ x, A[k]? = some x := ⟨_, List.getElem?_eq_getElem (by omega)⟩
      have hc1 := HB.out k y hy
      have hc2 := HA.out k x hx
      have hkA : k < A.length := by omega
      by_cases hxy : x = y
      · have t2 := Pl.eq_lists hxy
        have HS2 : Hid (∀ (j : Nat) t, j < k + 1 → B[j]? = some t → A[j]? = some t) := fun j t' hj h' => by
          rcases Nat.lt_succ_iff_lt_or_eq.1 hj with h'' | rfl
          · exact HS.out j t' h'' h'
          · rw [hy] at h'; cases h'; rw [hx, hxy]
        clear hx hy HS hxy
        go_wp2
        go_round
        case rel => exact ⟨k + 1, by omega, by go_num, HS2⟩
        case measure => simp [intOf]; omega
      · have t2 := Pl.ne_lists hxy
        have E := hide (HF.out k x y hx hy hxy)
        clear hx hy HS hxy
        go_wp2
        go_ret
        exact ⟨ret_bool (unhide E).symm, rfl⟩
    · have E := hide (HT.out (fun j t h => HS.out j t (by have := (List.getElem?_eq_some_iff.1 h).1; omega) h))
      go_wp2
      go_ret
      exact ⟨ret_bool (unhide E).symm, rfl⟩
end WUnder
end Go.Proofs.YtkfpfckmjgjanabDoor

/- The walk of the program's PathUnder. -/
namespace Go.Proofs.YtkfpfckmjgjanabDoor
open Go.RowKit
namespace WPathI
set_option maxRecDepth 100000 in
theorem under_any (p t : ByteArray) (w : World) (hp : p.size ≤ 1048576) (ht : t.size ≤ 1048576) :
    Calls Tryd.prog 131 #[.string p, .string t] w fun e w' => e = .returned (.bool (Pl.pathB p && Pl.pathB t && Pl.underR (Pl.namesR p) (Pl.namesR t))) ∧ Below w.heap.size w w' := by
  have hn := hide (fun W => WUnder.both_any p t W hp ht)
  have hA := hide (Pl.namesR_all p)
  have hB := hide (Pl.namesR_all t)
  generalize (Pl.pathB p && Pl.pathB t) = r at hn ⊢
  generalize Pl.namesR p = A at hn hA ⊢
  generalize Pl.namesR t = B at hn hB ⊢
  cases r
  · go_enter Tryd.func131, Tryd.ntmps131
    go_wp2_with fail
    refine (unhide hn _).mono ?_
    rintro e w1 ⟨v1, v2, m, rfl, -, -, -, -, hb⟩
    go_wp2
    go_ret
    exact ⟨rfl, hb⟩
  · go_enter Tryd.func131, Tryd.ntmps131
    go_wp2_with fail
    refine (unhide hn _).mono ?_
    rintro e w1 ⟨v1, v2, m, rfl, h1, h2, h3, h4, hb⟩
    have i1 := hide (Mem.own_texts h2)
    have i2 := hide (Mem.own_texts h4)
    clear h2 h4 h3 hn
    go_wp2_with fail
    refine (WUnder.under_any _ _ A B _ (by have := (unhide hA).2; omega) (by have := (unhide hB).2; omega) (unhide i1) (unhide i2)).mono ?_
    rintro e w2 ⟨rfl, hw⟩
    obtain rfl := hw.symm
    generalize hr : Pl.underR A B = r2
    have HR := hide hr
    clear hr
    go_wp2
    go_ret
    exact ⟨by rw [unhide HR]; rfl, hb⟩
end WPathI
end Go.Proofs.YtkfpfckmjgjanabDoor

