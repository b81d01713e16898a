/- The walk of the program's PathBoth. -/
import Derived.Test.YtopipjfomnnjcaaWUnder
import Derived.Test.YtopipjfomnnjcaaMemRes
import Derived.Laws.AppendOwnNone
namespace Go.Proofs.Ytopipjfomnnjcaa
open Go.RowKit
namespace Mem
theorem strs_one (L : List ByteArray) : ∀ u ∈ L.map Value.string, u.oneCell' = true := by
  intro u hu
  obtain ⟨b, _, rfl⟩ := List.mem_map.1 hu
  rfl
theorem strs_cells {w : World} {g : Nat} {L : List ByteArray} (hc : ∀ (k : Nat) t, L[k]? = some t → w.cell? ⟨g, k, none⟩ = some (.string t)) : ∀ j u, (L.map Value.string)[j]? = some u → w.cell? ((⟨g, 0, none⟩ : Addr).add j) = some u := by
  intro j u hj
  rw [add_lit]
  rw [List.getElem?_map] at hj
  cases hL : L[j]? with
  | none => rw [hL] at hj; simp at hj
  | some t => rw [hL] at hj; simp at hj; subst hj; exact hc j t hL
/-- Behind an append that makes no new block first. -/
theorem below_append' {B : Nat} {a w w1 : World} {e : TypeId} {size n : Nat} {v : Value} {xs : List Value} (h : Below B a w) (hB : B ≤ a.heap.size) (hown : w.ownsRow B e size v n xs) (hg : w.grownBy w1 v.ownBlock) : Below B a w1 :=
  have hs := h.size
  h.grown hg (by omega) (fun k hk => (hown.lt k hk).1)
end Mem
namespace WPathI
set_option maxRecDepth 100000 in
set_option maxHeartbeats 1000000 in
theorem both_any (p n : ByteArray) (w : World) (hp : p.size ≤ 1048576) (hq : n.size ≤ 1048576) :
    Calls Try.prog 38 #[.string p, .string n] w fun e w' => e = .returned (Pl.tOut (Pl.bothO p n)) ∧ Below w.heap.size w w' := by
  obtain ⟨i0, hi, hz0, hz1, hz2⟩ := info_parts WWords.infoS
  by_cases h1 : 8000 < p.size ∨ 8000 < n.size
  · have E : Hid (Pl.tOut (Pl.bothO p n) = .agg #[.string ⟨#[]⟩, .int .i64 0, .int .i64 2]) := by show _ = _; rw [Pl.bothO, if_pos h1]; rfl
    generalize Pl.tOut (Pl.bothO p n) = R at E ⊢
    by_cases h2 : 8000 < p.size
    · clear h1
      go_enter Try.func38, Try.ntmps38
      go_wp2
      refine bodyPost_ret (v := .agg #[.string ⟨#[]⟩, .int .i64 0, .int .i64 2]) (by simp [results, Try.results38, go_sem]) rfl ⟨by rw [E.out], ?_⟩
      exact (Below.refl _ _).alloc (Nat.le_refl _) _
    · have h3 : 8000 < n.size := by omega
      clear h1
      go_enter Try.func38, Try.ntmps38
      go_wp2
      refine bodyPost_ret (v := .agg #[.string ⟨#[]⟩, .int .i64 0, .int .i64 2]) (by simp [results, Try.results38, go_sem]) rfl ⟨by rw [E.out], ?_⟩
      exact (Below.refl _ _).alloc (Nat.le_refl _) _
  have h2 : ¬ 8000 < p.size := fun h => h1 (.inl h)
  have h3 : ¬ 8000 < n.size := fun h => h1 (.inr h)
  have hn := hide (fun W => WUnder.both_any p n W hp hq)
  have hA := hide (Pl.namesR_all p)
  have hB := hide (Pl.namesR_all n)
  have EB : Hid ((Pl.pathB p && Pl.pathB n) = false → Pl.tOut (Pl.bothO p n) = .agg #[.string ⟨#[]⟩, .int .i64 0, .int .i64 1]) := fun h => by
    rw [Pl.bothO, if_neg h1, if_pos (by rw [← Bool.and_eq_true, h]; simp)]; rfl
  have EN : Hid ((Pl.pathB p && Pl.pathB n) = true → 6 < (Pl.namesR p).length + (Pl.namesR n).length → Pl.tOut (Pl.bothO p n) = .agg #[.string ⟨#[]⟩, .int .i64 0, .int .i64 9]) := fun h hu => by
    rw [Pl.bothO, if_neg h1, if_neg (by rw [← Bool.and_eq_true, h]; simp), if_pos hu]; rfl
  have EG : Hid ((Pl.pathB p && Pl.pathB n) = true → ¬ 6 < (Pl.namesR p).length + (Pl.namesR n).length → Pl.tOut (Pl.bothO p n) = .agg #[.string (Pl.glue (Pl.namesR p ++ Pl.namesR n)), .int .i64 0, .int .i64 0]) := fun h hu => by
    rw [Pl.bothO, if_neg h1, if_neg (by rw [← Bool.and_eq_true, h]; simp), if_neg hu]; rfl
  generalize Pl.tOut (Pl.bothO p n) = R at EB EN EG ⊢
  generalize (Pl.pathB p && Pl.pathB n) = r at hn EB EN EG
  generalize Pl.namesR p = A at hn hA EN EG
  generalize Pl.namesR n = B at hn hB EN EG
  clear h1
  cases r
  · have E := hide (EB.out rfl)
    clear EB EN EG
    go_enter Try.func38, Try.ntmps38
    go_wp2_with fail
    refine (unhide hn _).mono ?_
    rintro e w1 ⟨v1, v2, m, rfl, -, -, -, -, hb⟩
    have hR := (Mem.Res.start w).call hb
    obtain ⟨⟨c0, c1, c2⟩, ⟨f0, f1, f2⟩⟩ := hR.cells
    have hB := hR.bel
    clear hb hR
    go_wp2
    refine bodyPost_ret (v := .agg #[.string ⟨#[]⟩, .int .i64 0, .int .i64 1]) (by simp [results, Try.results38, go_sem, c0, c1, c2]) rfl ⟨by rw [unhide E], ?_⟩
    exact ((hB.setCell (by simp) _).setCell (by simp) _).setCell (by simp) _
  have hlA := (unhide hA).2
  have hlB := (unhide hB).2
  by_cases hu : 6 < A.length + B.length
  · have E := hide (EN.out rfl hu)
    have t6 : (6 : Int) < (A.length : Int) + (B.length : Int) := by omega
    clear EB EN EG
    go_enter Try.func38, Try.ntmps38
    go_wp2_with fail
    refine (unhide hn _).mono ?_
    rintro e w1 ⟨v1, v2, m, rfl, g1, g2, g3, g4, hb⟩
    have hR := (Mem.Res.start w).call hb
    obtain ⟨⟨c0, c1, c2⟩, ⟨f0, f1, f2⟩⟩ := hR.cells
    have hB := hR.bel
    obtain ⟨va, vc, rfl⟩ : ∃ a cap, v1 = .slice a A.length cap := by
      rcases Mem.own_texts g2 with ⟨rfl, rfl⟩ | ⟨b, o, cap, rfl, _⟩ <;> exact ⟨_, _, rfl⟩
    obtain ⟨ua, uc, rfl⟩ : ∃ a cap, v2 = .slice a B.length cap := by
      rcases Mem.own_texts g4 with ⟨rfl, rfl⟩ | ⟨b, o, cap, rfl, _⟩ <;> exact ⟨_, _, rfl⟩
    clear hb hR g1 g2 g3 g4 hn hu
    go_wp2
    refine bodyPost_ret (v := .agg #[.string ⟨#[]⟩, .int .i64 0, .int .i64 9]) (by simp [results, Try.results38, go_sem, c0, c1, c2]) rfl ⟨by rw [unhide E], ?_⟩
    exact ((hB.setCell (by simp) _).setCell (by simp) _).setCell (by simp) _
  · have E := hide (EG.out rfl hu)
    have t6 : ¬ (6 : Int) < (A.length : Int) + (B.length : Int) := by omega
    have HG : Hid ((Pl.glue (A ++ B)).size ≤ 1000000) := Pl.glue_small (fun t ht => by
      rcases List.mem_append.1 ht with ht | ht
      · exact (unhide hA).1 t ht
      · exact (unhide hB).1 t ht) (by simp; omega)
    clear EB EN EG
    go_enter Try.func38, Try.ntmps38
    go_wp2_with fail
    refine (unhide hn _).mono ?_
    rintro e w1 ⟨v1, v2, m, rfl, g1, g2, g3, g4, hb⟩
    have hR := (Mem.Res.start w).call hb
    have hs1 := hb.size
    have hbase : w.heap.size < (w.alloc (.cells #[.string ⟨#[]⟩, .int .i64 0, .int .i64 0] 27)).heap.size := (Mem.Res.start w).lt
    generalize (w.alloc (.cells #[.string ⟨#[]⟩, .int .i64 0, .int .i64 0] 27)).heap.size = N at g1 g2 hs1 hbase
    obtain ⟨va, vc, rfl⟩ : ∃ a cap, v1 = .slice a A.length cap := by
      rcases Mem.own_texts g2 with ⟨rfl, rfl⟩ | ⟨b, o, cap, rfl, _⟩ <;> exact ⟨_, _, rfl⟩
    rcases Mem.texts g4 with ⟨rfl, rfl⟩ | ⟨g, cap, rfl, hcap, hm, hgb, hgl, hcell⟩
    · have i1 : Hid (Mem.isTexts w1 (.slice va A.length vc) (A ++ [])) := by
        show Mem.isTexts _ _ _
        rw [List.append_nil]; exact Mem.own_texts g2
      clear hb g1 g3 g4 hn hu
      go_wp2_with (at_builtin; refine wpList_append_own_none rfl _ _ 53 rfl N 9 i0 1 Try.underlying53 hi _ _ _ rfl g2 rfl ?_)
      refine (WPathOf.any _ (A ++ []) _ (by simp; omega) HG.out (unhide i1)).mono ?_
      rintro e w3 ⟨rfl, hb3⟩
      have hR3 := hR.call hb3
      obtain ⟨⟨c0, c1, c2⟩, ⟨f0, f1, f2⟩⟩ := hR3.cells
      have hB := hR3.bel
      clear hb3 hR hR3 g2
      generalize Pl.glue (A ++ []) = body at E ⊢
      go_wp2
      refine bodyPost_ret (v := .agg #[.string body, .int .i64 0, .int .i64 0]) (by simp [results, Try.results38, go_sem, c0, c1, c2]) rfl ⟨by rw [unhide E], ?_⟩
      exact ((hB.setCell (by simp) _).setCell (by simp) _).setCell (by simp) _
    · have HC := hide hcell
      clear hb g3 g4 hn hu hcell
      go_wp2_with (at_builtin; refine wpList_append_own _ rfl _ _ 53 rfl N 9 i0 (.string ⟨#[]⟩) 1 16 Try.underlying53 hi hz0 hz1 hz2 rfl (by decide) _ _ _ rfl g2 ⟨g, 0, none⟩ B.length cap (B.map Value.string) rfl (by simp) (Mem.strs_cells (unhide HC)) (Mem.strs_one B) (by unfold maxLen; omega) (by omega) (by omega) ?_)
      intro v' w2 hown' hgrow _
      have hbel := Mem.below_append' (Below.refl N w1) hs1 g2 hgrow
      have hown2 : w2.ownsRow N 9 1 v' (A ++ B).length ((A ++ B).map Value.string) := by simpa using hown'
      have hR2 := hR.below hbel hbase
      have i1 := hide (Mem.own_texts hown2)
      clear hgrow g2 hown' hown2 hbel hR
      go_wp2_with fail
      refine (WPathOf.any _ (A ++ B) _ (by simp; omega) HG.out (unhide i1)).mono ?_
      rintro e w3 ⟨rfl, hb3⟩
      have hR3 := hR2.call hb3
      obtain ⟨⟨c0, c1, c2⟩, ⟨f0, f1, f2⟩⟩ := hR3.cells
      have hB := hR3.bel
      clear hb3 hR2 hR3
      generalize Pl.glue (A ++ B) = body at E ⊢
      go_wp2
      refine bodyPost_ret (v := .agg #[.string body, .int .i64 0, .int .i64 0]) (by simp [results, Try.results38, go_sem, c0, c1, c2]) rfl ⟨by rw [unhide E], ?_⟩
      exact ((hB.setCell (by simp) _).setCell (by simp) _).setCell (by simp) _
end WPathI
end Go.Proofs.Ytopipjfomnnjcaa
