/- The walks of the program's PathRest and PathBoth. -/
import Derived.Test.YtopipjfomnnjcaaWUnder
import Derived.Test.YtopipjfomnnjcaaMemRes
import Derived.Laws.AppendOwnNone
namespace Go.Proofs.Ytopipjfomnnjcaa
open Go.RowKit
namespace WPathI
set_option maxRecDepth 100000 in
set_option maxHeartbeats 1000000 in
theorem rest_any (p n : ByteArray) (w : World) (hp : p.size ≤ 1048576) (hq : n.size ≤ 1048576) :
    Calls Try.prog 36 #[.string p, .string n] w fun e w' => e = .returned (Pl.tOut (Pl.restO p n)) ∧ Below w.heap.size w w' := by
  by_cases h1 : 8000 < p.size ∨ 8000 < n.size
  · have E : Hid (Pl.tOut (Pl.restO p n) = .agg #[.string ⟨#[]⟩, .int .i64 0, .int .i64 2]) := by show _ = _; rw [Pl.restO, if_pos h1]; rfl
    generalize Pl.tOut (Pl.restO p n) = R at E ⊢
    by_cases h2 : 8000 < p.size
    · clear h1
      go_enter Try.func36, Try.ntmps36
      go_wp2
      refine bodyPost_ret (v := .agg #[.string ⟨#[]⟩, .int .i64 0, .int .i64 2]) (by simp [results, Try.results36, go_sem]) rfl ⟨by rw [E.out], ?_⟩
      exact (Below.refl _ _).alloc (Nat.le_refl _) _
    · have h3 : 8000 < n.size := by omega
      clear h1
      go_enter Try.func36, Try.ntmps36
      go_wp2
      refine bodyPost_ret (v := .agg #[.string ⟨#[]⟩, .int .i64 0, .int .i64 2]) (by simp [results, Try.results36, go_sem]) rfl ⟨by rw [E.out], ?_⟩
      exact (Below.refl _ _).alloc (Nat.le_refl _) _
  have h2 : ¬ 8000 < p.size := fun h => h1 (.inl h)
  have h3 : ¬ 8000 < n.size := fun h => h1 (.inr h)
  have hn := hide (fun W => WUnder.both_any p n W hp hq)
  have hA := hide (Pl.namesR_all p)
  have hB := hide (Pl.namesR_all n)
  have EB : Hid ((Pl.pathB p && Pl.pathB n) = false → Pl.tOut (Pl.restO p n) = .agg #[.string ⟨#[]⟩, .int .i64 0, .int .i64 1]) := fun h => by
    rw [Pl.restO, if_neg h1, if_pos (by rw [← Bool.and_eq_true, h]; simp)]; rfl
  have EN : Hid ((Pl.pathB p && Pl.pathB n) = true → Pl.underR (Pl.namesR p) (Pl.namesR n) = false → Pl.tOut (Pl.restO p n) = .agg #[.string ⟨#[]⟩, .int .i64 0, .int .i64 6]) := fun h hu => by
    rw [Pl.restO, if_neg h1, if_neg (by rw [← Bool.and_eq_true, h]; simp), if_pos hu]; rfl
  have EG : Hid ((Pl.pathB p && Pl.pathB n) = true → Pl.underR (Pl.namesR p) (Pl.namesR n) = true → Pl.tOut (Pl.restO p n) = .agg #[.string (Pl.glue ((Pl.namesR p).drop (Pl.namesR n).length)), .int .i64 0, .int .i64 0]) := fun h hu => by
    rw [Pl.restO, if_neg h1, if_neg (by rw [← Bool.and_eq_true, h]; simp), if_neg (by rw [hu]; simp)]; rfl
  generalize Pl.tOut (Pl.restO p n) = R at EB EN EG ⊢
  generalize (Pl.pathB p && Pl.pathB n) = r at hn EB EN EG
  generalize Pl.namesR p = A at hn hA EN EG
  generalize Pl.namesR n = B at hn hB EN EG
  clear h1
  cases r
  · have E := hide (EB.out rfl)
    clear EB EN EG
    go_enter Try.func36, Try.ntmps36
    go_wp2_with fail
    refine (unhide hn _).mono ?_
    rintro e w1 ⟨v1, v2, m, rfl, -, -, -, -, hb⟩
    have hR := (Mem.Res.start w).call hb
    obtain ⟨⟨c0, c1, c2⟩, ⟨f0, f1, f2⟩⟩ := hR.cells
    have hB := hR.bel
    clear hb hR
    go_wp2
    refine bodyPost_ret (v := .agg #[.string ⟨#[]⟩, .int .i64 0, .int .i64 1]) (by simp [results, Try.results36, go_sem, c0, c1, c2]) rfl ⟨by rw [unhide E], ?_⟩
    exact ((hB.setCell (by simp) _).setCell (by simp) _).setCell (by simp) _
  have hlA := (unhide hA).2
  have hlB := (unhide hB).2
  have hun := hide (fun v u W (i : Mem.isTexts W v A) (j : Mem.isTexts W u B) => WUnder.under_any v u A B W (by omega) (by omega) i j)
  cases hu : Pl.underR A B
  · have E := hide (EN.out rfl hu)
    have HU := hide hu
    clear EB EN EG hu
    go_enter Try.func36, Try.ntmps36
    go_wp2_with fail
    refine (unhide hn _).mono ?_
    rintro e w1 ⟨v1, v2, m, rfl, g1, g2, g3, g4, hb⟩
    have i1 := hide (Mem.own_texts g2)
    have i2 := hide (Mem.own_texts g4)
    have hR := (Mem.Res.start w).call hb
    obtain ⟨⟨c0, c1, c2⟩, ⟨f0, f1, f2⟩⟩ := hR.cells
    have hB := hR.bel
    clear hb hR g1 g2 g3 g4 hn
    go_wp2_with (go_at_call 68; refine (unhide hun _ _ _ (unhide i1) (unhide i2)).mono ?_; rw [unhide HU]; rintro e w' ⟨rfl, hw⟩; obtain rfl := hw.symm)
    refine bodyPost_ret (v := .agg #[.string ⟨#[]⟩, .int .i64 0, .int .i64 6]) (by simp [results, Try.results36, go_sem, c0, c1, c2]) rfl ⟨by rw [unhide E], ?_⟩
    exact ((hB.setCell (by simp) _).setCell (by simp) _).setCell (by simp) _
  · have E := hide (EG.out rfl hu)
    have HU := hide hu
    have hBA := Pl.underR_length hu
    clear EB EN EG hu
    go_enter Try.func36, Try.ntmps36
    go_wp2_with fail
    refine (unhide hn _).mono ?_
    rintro e w1 ⟨v1, v2, m, rfl, g1, g2, g3, g4, hb⟩
    have i1 := hide (Mem.own_texts g2)
    have i2 := hide (Mem.own_texts g4)
    have hR := (Mem.Res.start w).call hb
    obtain ⟨ua, uc, rfl⟩ : ∃ a cap, v2 = .slice a B.length cap := by
      rcases Mem.own_texts g4 with ⟨rfl, rfl⟩ | ⟨b, o, cap, rfl, _⟩ <;> exact ⟨_, _, rfl⟩
    have HG : Hid ((Pl.glue (A.drop B.length)).size ≤ 1000000) := Pl.glue_small (Pl.all_drop (unhide hA).1 _) (by simp; omega)
    have T1 : (B.length : Int) ≤ (A.length : Int) := by omega
    rcases Mem.texts g2 with ⟨rfl, rfl⟩ | ⟨g, cap, rfl, hcap, hm, hgb, hgl, hcell⟩
    · obtain rfl : B = [] := List.eq_nil_of_length_eq_zero (by simp at hBA; simp [hBA])
      clear hb g1 g2 g3 g4 hn
      go_wp2_with (go_at_call 68; refine (unhide hun _ _ _ (unhide i1) (unhide i2)).mono ?_; rw [unhide HU]; rintro e w' ⟨rfl, hw⟩; obtain rfl := hw.symm)
      refine (WPathOf.any _ [] _ (by simp) (by decide) (.inl ⟨rfl, rfl⟩)).mono ?_
      rintro e w3 ⟨rfl, hb3⟩
      have hR3 := hR.call hb3
      obtain ⟨⟨c0, c1, c2⟩, ⟨f0, f1, f2⟩⟩ := hR3.cells
      have hB := hR3.bel
      clear hb3 hR hR3
      go_wp2
      refine bodyPost_ret (v := .agg #[.string (Pl.glue []), .int .i64 0, .int .i64 0]) (by simp [results, Try.results36, go_sem, c0, c1, c2]) rfl ⟨by rw [unhide E]; rfl, ?_⟩
      exact ((hB.setCell (by simp) _).setCell (by simp) _).setCell (by simp) _
    · have HC := hide hcell
      have hm2 := hm
      unfold maxLen at hm2
      clear hcell hb g1 g2 g3 g4 hn
      by_cases hcB : cap = B.length
      · have HD : Hid (A.drop B.length = []) := List.drop_of_length_le (by omega)
        subst hcB
        go_wp2_with (go_at_call 68; refine (unhide hun _ _ _ (unhide i1) (unhide i2)).mono ?_; rw [unhide HU]; rintro e w' ⟨rfl, hw⟩; obtain rfl := hw.symm)
        refine (WPathOf.any _ (A.drop B.length) _ (by simp; omega) HG.out (.inr ⟨g, 0, 0, by rw [HD.out]; rfl, hgl, fun j t h => by rw [HD.out] at h; simp at h⟩)).mono ?_
        rintro e w3 ⟨rfl, hb3⟩
        have hR3 := hR.call hb3
        obtain ⟨⟨c0, c1, c2⟩, ⟨f0, f1, f2⟩⟩ := hR3.cells
        have hB := hR3.bel
        clear hb3 hR hR3
        generalize Pl.glue (A.drop B.length) = body at E ⊢
        go_wp2
        refine bodyPost_ret (v := .agg #[.string body, .int .i64 0, .int .i64 0]) (by simp [results, Try.results36, go_sem, c0, c1, c2]) rfl ⟨by rw [unhide E], ?_⟩
        exact ((hB.setCell (by simp) _).setCell (by simp) _).setCell (by simp) _
      · go_wp2_with (go_at_call 68; refine (unhide hun _ _ _ (unhide i1) (unhide i2)).mono ?_; rw [unhide HU]; rintro e w' ⟨rfl, hw⟩; obtain rfl := hw.symm)
        refine (WPathOf.any _ (A.drop B.length) _ (by simp; omega) HG.out (Mem.drop_texts hgl (unhide HC) _)).mono ?_
        rintro e w3 ⟨rfl, hb3⟩
        have hR3 := hR.call hb3
        obtain ⟨⟨c0, c1, c2⟩, ⟨f0, f1, f2⟩⟩ := hR3.cells
        have hB := hR3.bel
        clear hb3 hR hR3
        generalize Pl.glue (A.drop B.length) = body at E ⊢
        go_wp2
        refine bodyPost_ret (v := .agg #[.string body, .int .i64 0, .int .i64 0]) (by simp [results, Try.results36, go_sem, c0, c1, c2]) rfl ⟨by rw [unhide E], ?_⟩
        exact ((hB.setCell (by simp) _).setCell (by simp) _).setCell (by simp) _
end WPathI
end Go.Proofs.Ytopipjfomnnjcaa
