/- The walks of the specification's l02Under, l02Rest, l02Both and l02Join. -/
import Derived.Test.YtefeegooeicdaahWSpecR
namespace Go.Proofs.Ytefeegooeicdaah
open Go.RowKit
namespace Pl
theorem under_root {p t : ByteArray} (h : by_ t = []) : under p t = true := (under_iff p t).2 (.inl h)
theorem under_same (p : ByteArray) : under p p = true := (under_iff p p).2 (.inr (.inl rfl))
theorem under_short {p t : ByteArray} (h0 : by_ t ≠ []) (h1 : p ≠ t) (h : ¬ t.size < p.size) : under p t = false := by
  rw [Bool.eq_false_iff]
  intro h2
  rcases (under_iff p t).1 h2 with h3 | h3 | ⟨r, h3⟩
  · exact h0 h3
  · exact h1 (by_inj h3)
  · have := congrArg List.length h3
    rw [by_length, List.length_append, List.length_cons, by_length] at this
    omega
theorem by_pre (p t : ByteArray) : by_ (p.extract 0 t.size) = (by_ p).take t.size := by rw [by_extract]; simp
theorem under_other {p t : ByteArray} (h0 : by_ t ≠ []) (h1 : p ≠ t) (h : p.extract 0 t.size ≠ t) : under p t = false := by
  rw [Bool.eq_false_iff]
  intro h2
  rcases (under_iff p t).1 h2 with h3 | h3 | ⟨r, h3⟩
  · exact h0 h3
  · exact h1 (by_inj h3)
  · apply h; apply by_inj; rw [by_pre, h3, ← by_length, List.take_left]
theorem pre_split {p t : ByteArray} (hl : t.size < p.size) (h : p.extract 0 t.size = t) : by_ p = by_ t ++ p[t.size] :: (by_ p).drop (t.size + 1) := by
  have h1 : by_ t = (by_ p).take t.size := by rw [← by_pre, h]
  have h2 : t.size < (by_ p).length := by rw [by_length]; exact hl
  have h3 : (by_ p).drop t.size = p[t.size] :: (by_ p).drop (t.size + 1) := by rw [List.drop_eq_getElem_cons h2]; rfl
  exact (List.take_append_drop t.size (by_ p)).symm.trans (by rw [h3, ← h1]; rfl)
theorem under_yes {p t : ByteArray} (hl : t.size < p.size) (h : p.extract 0 t.size = t) (hb : p[t.size].toNat = 47) : under p t = true := by
  refine (under_iff p t).2 (.inr (.inr ⟨(by_ p).drop (t.size + 1), ?_⟩))
  have hb' : p[t.size] = 47 := UInt8.toNat_inj.1 hb
  rw [← hb']; exact pre_split hl h
theorem under_no {p t : ByteArray} (h0 : by_ t ≠ []) (h1 : p ≠ t) (hl : t.size < p.size) (h : p.extract 0 t.size = t) (hb : p[t.size].toNat ≠ 47) : under p t = false := by
  rw [Bool.eq_false_iff]
  intro h2
  rcases (under_iff p t).1 h2 with h3 | h3 | ⟨r, h3⟩
  · exact h0 h3
  · exact h1 (by_inj h3)
  · rw [pre_split hl h] at h3
    have := List.append_cancel_left h3
    simp at this
    exact hb (by rw [this.1]; rfl)
end Pl
namespace WPathS
set_option maxRecDepth 100000 in
set_option maxHeartbeats 400000 in
theorem under1_any (p t : ByteArray) (w : World) (ht : t.size ≤ 1048576) :
    Calls Try.prog 25 #[.string p, .string t] w fun e w' => e = .returned (.bool (Pl.under p t)) ∧ w' = w := by
  by_cases h0 : Pl.by_ t = []
  · have E := hide (Pl.under_root (p := p) h0)
    have d1 : t.toList.isEmpty = true := by rw [Pl.empty_list]; simp [h0]
    clear h0
    go_enter Try.func25, Try.ntmps25
    go_wp2
    go_ret
    exact ⟨ret_bool (unhide E).symm, rfl⟩
  have d1 : t.toList.isEmpty = false := by rw [Pl.empty_list]; simp [h0]
  by_cases h1 : p = t
  · subst h1
    have E := hide (Pl.under_same p)
    clear h0
    go_enter Try.func25, Try.ntmps25
    go_wp2
    go_ret
    exact ⟨ret_bool (unhide E).symm, rfl⟩
  have d2 := Pl.ne_lists h1
  by_cases hl : t.size < p.size
  · have k1 : (t.size : Int) < (p.size : Int) := by omega
    have k2 : (t.size : Int) ≤ (p.size : Int) := by omega
    have k3 : (0 : Int) ≤ (t.size : Int) := by omega
    by_cases h3 : p.extract 0 t.size = t
    · have d3 := Pl.eq_lists h3
      by_cases h4 : p[t.size].toNat = 47
      · have E := hide (Pl.under_yes hl h3 h4)
        have d4 : ((p[t.size].toNat : Int) == 47) = true := by rw [beq_iff_eq]; omega
        clear h0 h1 h3 h4
        go_enter Try.func25, Try.ntmps25
        go_wp2
        go_ret
        exact ⟨ret_bool (unhide E).symm, rfl⟩
      · have E := hide (Pl.under_no h0 h1 hl h3 h4)
        have d4 : ((p[t.size].toNat : Int) == 47) = false := by rw [beq_eq_false_iff_ne]; omega
        clear h0 h1 h3 h4
        go_enter Try.func25, Try.ntmps25
        go_wp2
        go_ret
        exact ⟨ret_bool (unhide E).symm, rfl⟩
    · have E := hide (Pl.under_other h0 h1 h3)
      have d3 := Pl.ne_lists h3
      clear h0 h1 h3
      go_enter Try.func25, Try.ntmps25
      go_wp2
      go_ret
      exact ⟨ret_bool (unhide E).symm, rfl⟩
  · have E := hide (Pl.under_short h0 h1 hl)
    have k1 : ¬ (t.size : Int) < (p.size : Int) := by omega
    clear h0 h1
    go_enter Try.func25, Try.ntmps25
    go_wp2
    go_ret
    exact ⟨ret_bool (unhide E).symm, rfl⟩

set_option maxRecDepth 100000 in
set_option maxHeartbeats 400000 in
theorem underF_any (p t : ByteArray) (w : World) (hp : p.size ≤ 1048576) (ht : t.size ≤ 1048576) :
    Calls Try.prog 9 #[.string p, .string t] w fun e w' => e = .returned (.bool (Pl.pathB p && Pl.pathB t && Pl.underR (Pl.namesR p) (Pl.namesR t))) ∧ Below w.heap.size w w' := by
  have hr1 := hide (fun W => right_any p W (by unfold maxLen; omega))
  have hr2 := hide (fun W => right_any t W (by unfold maxLen; omega))
  have hun := hide (fun W => under1_any p t W ht)
  have L1 : Hid (8000 < p.size → Pl.pathB p = false) := fun h => Pl.pathB_long (by omega)
  have L2 : Hid (8000 < t.size → Pl.pathB t = false) := fun h => Pl.pathB_long (by omega)
  have EU : Hid (Pl.pathB p = true → Pl.pathB t = true → Pl.underR (Pl.namesR p) (Pl.namesR t) = Pl.under p t) := fun h1 h2 => by rw [Pl.namesR_yes h1, Pl.namesR_yes h2]; rfl
  generalize Pl.underR (Pl.namesR p) (Pl.namesR t) = u at EU ⊢
  generalize Pl.under p t = u2 at EU hun
  generalize Pl.pathB p = r1 at hr1 L1 EU ⊢
  generalize Pl.pathB t = r2 at hr2 L2 EU ⊢
  by_cases h1 : 8000 < p.size
  · have E := hide (L1.out h1)
    have k1 : ¬ (p.size : Int) ≤ 8000 := by omega
    go_enter Try.func9, Try.ntmps9
    go_wp2
    go_ret
    exact ⟨ret_bool (by rw [unhide E]; rfl), Below.refl _ _⟩
  have k1 : (p.size : Int) ≤ 8000 := by omega
  by_cases h2 : 8000 < t.size
  · have E := hide (L2.out h2)
    have k2 : ¬ (t.size : Int) ≤ 8000 := by omega
    go_enter Try.func9, Try.ntmps9
    go_wp2
    go_ret
    exact ⟨ret_bool (by rw [unhide E]; simp), Below.refl _ _⟩
  have k2 : (t.size : Int) ≤ 8000 := by omega
  cases r1
  · go_enter Try.func9, Try.ntmps9
    go_wp2_with (go_at_call 24; refine (unhide hr1 _).mono ?_; rintro e w1 ⟨rfl, b1⟩)
    go_ret
    exact ⟨rfl, b1⟩
  cases r2
  · go_enter Try.func9, Try.ntmps9
    go_wp2_with fail
    refine (unhide hr1 _).mono ?_
    rintro e w1 ⟨rfl, b1⟩
    go_wp2_with fail
    refine (unhide hr2 _).mono ?_
    rintro e w2 ⟨rfl, b2⟩
    go_wp2
    go_ret
    exact ⟨rfl, b1.trans (b2.mono b1.size)⟩
  · have E := hide (EU.out rfl rfl)
    go_enter Try.func9, Try.ntmps9
    go_wp2_with fail
    refine (unhide hr1 _).mono ?_
    rintro e w1 ⟨rfl, b1⟩
    go_wp2_with fail
    refine (unhide hr2 _).mono ?_
    rintro e w2 ⟨rfl, b2⟩
    go_wp2_with fail
    refine (unhide hun _).mono ?_
    rintro e w3 ⟨rfl, hw⟩
    obtain rfl := hw.symm
    go_wp2
    go_ret
    exact ⟨by rw [unhide E]; rfl, b1.trans (b2.mono b1.size)⟩
end WPathS
end Go.Proofs.Ytefeegooeicdaah
