/- The walk of the program's PathJoin. -/
import Derived.Test.YtopipjfomnnjcaaWPathOf
import Derived.Test.YtopipjfomnnjcaaMemRes
namespace Go.Proofs.Ytopipjfomnnjcaa
open Go.RowKit
namespace WPathI
set_option maxRecDepth 100000 in
set_option maxHeartbeats 400000 in
theorem join_any (p n : ByteArray) (w : World) (hp : p.size ≤ 1048576) (hq : n.size ≤ 1048576) :
    Calls Try.prog 17 #[.string p, .string n] w fun e w' => e = .returned (Pl.tOut (Pl.joinO p n)) ∧ Below w.heap.size w w' := by
  obtain ⟨i0, hi, hz0, hz1, hz2⟩ := info_parts WWords.infoS
  by_cases h1 : 8000 < p.size ∨ 8000 < n.size
  · have E : Hid (Pl.tOut (Pl.joinO p n) = .agg #[.string ⟨#[]⟩, .int .i64 0, .int .i64 2]) := by show _ = _; rw [Pl.joinO, if_pos h1]; rfl
    generalize Pl.tOut (Pl.joinO p n) = R at E ⊢
    by_cases h2 : 8000 < p.size
    · clear h1
      go_enter Try.func17, Try.ntmps17
      go_wp2
      refine bodyPost_ret (v := .agg #[.string ⟨#[]⟩, .int .i64 0, .int .i64 2]) (by simp [results, Try.results17, go_sem]) rfl ⟨by rw [E.out], ?_⟩
      exact (Below.refl _ _).alloc (Nat.le_refl _) _
    · have h3 : 8000 < n.size := by omega
      clear h1
      go_enter Try.func17, Try.ntmps17
      go_wp2
      refine bodyPost_ret (v := .agg #[.string ⟨#[]⟩, .int .i64 0, .int .i64 2]) (by simp [results, Try.results17, go_sem]) rfl ⟨by rw [E.out], ?_⟩
      exact (Below.refl _ _).alloc (Nat.le_refl _) _
  have h2 : ¬ 8000 < p.size := fun h => h1 (.inl h)
  have h3 : ¬ 8000 < n.size := fun h => h1 (.inr h)
  have hn := hide (fun W => WNames.any p W hp)
  have hL := hide (Pl.namesR_all p)
  have hnr := hide (fun W => WName.impl_any n W (by unfold maxLen; omega))
  have EB : Hid (¬ (Pl.pathB p = true ∧ Pl.nameB n = true) → Pl.tOut (Pl.joinO p n) = .agg #[.string ⟨#[]⟩, .int .i64 0, .int .i64 1]) := fun h => by rw [Pl.joinO, if_neg h1, if_pos h]; rfl
  have EF : Hid (Pl.pathB p = true ∧ Pl.nameB n = true → (Pl.namesR p).length = 6 → Pl.tOut (Pl.joinO p n) = .agg #[.string ⟨#[]⟩, .int .i64 0, .int .i64 9]) := fun h h6 => by rw [Pl.joinO, if_neg h1, if_neg (fun g => g h), if_pos h6]; rfl
  have EG : Hid (Pl.pathB p = true ∧ Pl.nameB n = true → ¬ (Pl.namesR p).length = 6 → Pl.tOut (Pl.joinO p n) = .agg #[.string (Pl.glue (Pl.namesR p ++ [n])), .int .i64 0, .int .i64 0]) := fun h h6 => by rw [Pl.joinO, if_neg h1, if_neg (fun g => g h), if_neg h6]; rfl
  have HNM : Hid (Pl.nameB n = true → n.size ≤ 20) := fun h => (Pl.name_free h).2.2.2
  have HNS : Hid (∀ L : List ByteArray, (∀ t ∈ L, Pl.nameB t = true) → L.length ≤ 6 → Pl.nameB n = true → (Pl.glue (L ++ [n])).size ≤ 1000000) := fun L hL h6 hb => by
    refine Pl.glue_small (fun t ht => ?_) (by simp; omega)
    rcases List.mem_append.1 ht with ht | ht
    · exact hL t ht
    · simp at ht; subst ht; exact hb
  generalize Pl.tOut (Pl.joinO p n) = R at EB EF EG ⊢
  generalize Pl.pathB p = r at hn EB EF EG
  generalize Pl.nameB n = q at hnr EB EF EG HNM HNS
  generalize Pl.namesR p = L at hn hL EF EG
  clear h1
  cases r
  · have E := hide (EB.out (by simp))
    clear EB EF EG
    go_enter Try.func17, Try.ntmps17
    go_wp2_with fail
    refine (unhide hn _).mono ?_
    rintro e w1 ⟨v, rfl, hown, hb⟩
    have hR := (Mem.Res.start w).call hb
    obtain ⟨⟨c0, c1, c2⟩, ⟨f0, f1, f2⟩⟩ := hR.cells
    have hB := hR.bel
    clear hown hb hR
    go_wp2
    refine bodyPost_ret (v := .agg #[.string ⟨#[]⟩, .int .i64 0, .int .i64 1]) (by simp [results, Try.results17, go_sem, c0, c1, c2]) rfl ⟨by rw [unhide E], ?_⟩
    exact ((hB.setCell (by simp) _).setCell (by simp) _).setCell (by simp) _
  cases q
  · have E := hide (EB.out (by simp))
    clear EB EF EG
    go_enter Try.func17, Try.ntmps17
    go_wp2_with fail
    refine (unhide hn _).mono ?_
    rintro e w1 ⟨v, rfl, hown, hb⟩
    have hR := (Mem.Res.start w).call hb
    obtain ⟨⟨c0, c1, c2⟩, ⟨f0, f1, f2⟩⟩ := hR.cells
    have hB := hR.bel
    clear hown hb hR
    go_wp2_with (go_at_call 59; refine (unhide hnr _).mono ?_; rintro e w' ⟨rfl, hw⟩; obtain rfl := hw.symm)
    refine bodyPost_ret (v := .agg #[.string ⟨#[]⟩, .int .i64 0, .int .i64 1]) (by simp [results, Try.results17, go_sem, c0, c1, c2]) rfl ⟨by rw [unhide E], ?_⟩
    exact ((hB.setCell (by simp) _).setCell (by simp) _).setCell (by simp) _
  by_cases h6 : L.length = 6
  · have E := hide (EF.out ⟨rfl, rfl⟩ h6)
    have t6 : ((L.length : Int) == 6) = true := by rw [beq_iff_eq]; omega
    clear EB EF EG
    go_enter Try.func17, Try.ntmps17
    go_wp2_with fail
    refine (unhide hn _).mono ?_
    rintro e w1 ⟨v, rfl, hown, hb⟩
    have hR := (Mem.Res.start w).call hb
    obtain ⟨⟨c0, c1, c2⟩, ⟨f0, f1, f2⟩⟩ := hR.cells
    have hB := hR.bel
    obtain ⟨va, vc, rfl⟩ : ∃ a cap, v = .slice a L.length cap := by
      rcases Mem.own_texts hown with ⟨rfl, rfl⟩ | ⟨b, o, cap, rfl, _⟩ <;> exact ⟨_, _, rfl⟩
    clear hown hb hR h6
    go_wp2_with (go_at_call 59; refine (unhide hnr _).mono ?_; rintro e w' ⟨rfl, hw⟩; obtain rfl := hw.symm)
    refine bodyPost_ret (v := .agg #[.string ⟨#[]⟩, .int .i64 0, .int .i64 9]) (by simp [results, Try.results17, go_sem, c0, c1, c2]) rfl ⟨by rw [unhide E], ?_⟩
    exact ((hB.setCell (by simp) _).setCell (by simp) _).setCell (by simp) _
  · have E := hide (EG.out ⟨rfl, rfl⟩ h6)
    have t6 : ((L.length : Int) == 6) = false := by rw [beq_eq_false_iff_ne]; omega
    have hl6 := (unhide hL).2
    clear EB EF EG
    go_enter Try.func17, Try.ntmps17
    go_wp2_with fail
    refine (unhide hn _).mono ?_
    rintro e w1 ⟨v, rfl, hown, hb⟩
    have hR := (Mem.Res.start w).call hb
    have hs1 := hb.size
    have hbase : w.heap.size < (w.alloc (.cells #[.string ⟨#[]⟩, .int .i64 0, .int .i64 0] 27)).heap.size := (Mem.Res.start w).lt
    generalize (w.alloc (.cells #[.string ⟨#[]⟩, .int .i64 0, .int .i64 0] 27)).heap.size = B at hown hs1 hbase
    obtain ⟨va, vc, rfl⟩ : ∃ a cap, v = .slice a L.length cap := by
      rcases Mem.own_texts hown with ⟨rfl, rfl⟩ | ⟨b, o, cap, rfl, _⟩ <;> exact ⟨_, _, rfl⟩
    clear hb h6 hn
    go_wp2_with (first | (go_at_call 59; refine (unhide hnr _).mono ?_; rintro e w' ⟨rfl, hw⟩; obtain rfl := hw.symm) | (at_builtin; refine wpList_append_own _ rfl _ _ 53 rfl B 9 i0 (.string ⟨#[]⟩) 1 16 Try.underlying53 hi hz0 hz1 hz2 rfl (by decide) _ _ _ rfl (hown.alloc _) ⟨w1.heap.size, 0, none⟩ 1 1 [.string n] rfl rfl (Mem.one_new _ _ _) (Mem.one_str _) (by unfold maxLen; omega) (by omega) (by simp; omega) ?_))
    intro v' w2 hown' hgrow _
    have hbel := Mem.below_append (Below.refl B w1) hs1 hown hgrow
    have hown2 : w2.ownsRow B 9 1 v' (L ++ [n]).length ((L ++ [n]).map Value.string) := by simpa using hown'
    have hR2 := hR.below hbel hbase
    have i1 := hide (Mem.own_texts hown2)
    clear hgrow hown hown' hown2 hbel hR
    go_wp2_with fail
    refine (WPathOf.any _ (L ++ [n]) _ (by simp; omega) (HNS.out L (unhide hL).1 hl6 trivial) (unhide i1)).mono ?_
    rintro e w3 ⟨rfl, hb3⟩
    have hR3 := hR2.call hb3
    obtain ⟨⟨c0, c1, c2⟩, ⟨f0, f1, f2⟩⟩ := hR3.cells
    have hB := hR3.bel
    clear hb3 hR2 hR3
    generalize Pl.glue (L ++ [n]) = body at E ⊢
    go_wp2
    refine bodyPost_ret (v := .agg #[.string body, .int .i64 0, .int .i64 0]) (by simp [results, Try.results17, go_sem, c0, c1, c2]) rfl ⟨by rw [unhide E], ?_⟩
    exact ((hB.setCell (by simp) _).setCell (by simp) _).setCell (by simp) _
end WPathI
end Go.Proofs.Ytopipjfomnnjcaa
