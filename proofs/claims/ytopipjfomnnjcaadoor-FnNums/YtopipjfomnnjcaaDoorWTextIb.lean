/- The walk of the program's GetText. -/
import Derived.Test.YtopipjfomnnjcaaDoorWTextRb
import Derived.Test.YtopipjfomnnjcaaDoorWAsB
namespace Go.Proofs.YtopipjfomnnjcaaDoor
open Go.RowKit
namespace WTextI
set_option maxRecDepth 100000 in
set_option maxHeartbeats 1000000 in
theorem impl_any (s : ByteArray) (a : Int) (w : World) (hs : s.size ≤ maxLen) (ha : a ≤ 9223372036854775807)
    (hg : w.cell? ⟨0, 0, none⟩ = some (.iface 74 (.agg #[.pointer (some ⟨1, 42, none⟩)]))) :
    Calls Tryd.prog 11 #[.string s, .int .i64 a] w fun e w' => e = .returned (WTextS.txt (Pl.getText s a)) ∧ Below w.heap.size w w' := by
  unfold maxLen at hs
  by_cases h1 : 8000 < s.size
  · have E : Hid (WTextS.txt (Pl.getText s a) = .agg #[.string ⟨#[]⟩, .int .i64 0, .int .i64 2]) := by
      show _ = _
      have e : Pl.getNum s a = (0, 0, 2) := by rw [Pl.getNum, if_pos h1]
      rw [Pl.getText, e]; rfl
    go_enter Tryd.func11, Tryd.ntmps11
    go_wp2
    refine bodyPost_ret (v := .agg #[.string ⟨#[]⟩, .int .i64 0, .int .i64 2]) (by simp [results, Tryd.results11, go_sem]) rfl ⟨by rw [E.out], ?_⟩
    exact (Below.refl _ _).alloc (Nat.le_refl _) _
  have hlt : 0 < w.heap.size := World.block_lt_of_cell? w ⟨0, 0, none⟩ hg
  have hg1 : (w.alloc (.cells #[.string ⟨#[]⟩, .int .i64 0, .int .i64 0] 31)).cell? ⟨0, 0, none⟩ = some (.iface 74 (.agg #[.pointer (some ⟨1, 42, none⟩)])) := by
    rw [World.cell?_alloc_lt _ _ ⟨0, 0, none⟩ hlt]; exact hg
  have HG1 := hide hg1
  clear hg1 hg
  have HR := hide (fun W => read_any s a W (by omega) ha)
  have HZ : (Pl.getText s a).2.2 ≠ 0 → (Pl.getText s a).1 = ⟨#[]⟩ ∧ (Pl.getText s a).2.1 = 0 := Pl.getText_zero s a
  generalize Pl.getText s a = r at HR HZ ⊢
  obtain ⟨t, y, c⟩ := r
  have HXY : c ≠ 0 → t = ⟨#[]⟩ ∧ y = 0 := HZ
  clear HZ
  by_cases hc : c = 0
  · subst hc
    clear HXY
    have E := hide (told_good (r := (t, y, 0)) rfl)
    go_enter Tryd.func11, Tryd.ntmps11
    go_wp2_with fail
    refine (unhide HR _).mono ?_
    rintro e w1 ⟨rfl, b1⟩
    rw [unhide E]
    obtain ⟨⟨c0, c1, c2⟩, ⟨f0, f1, f2⟩, b3⟩ := Mem.kept3 b1 (heap_alloc_new w _) ((Below.refl _ _).alloc (Nat.le_refl _) _)
    have hlt1 : w.heap.size < w1.heap.size := World.block_lt_of_cell? w1 ⟨w.heap.size, 0, none⟩ c0
    clear b1
    go_wp2_with fail
    refine (WAs.code_nil _).mono ?_
    rintro e w2 ⟨rfl, b4⟩
    obtain ⟨⟨d0, d1, d2⟩, ⟨e0, e1, e2⟩, b5⟩ := Mem.still3 b4 hlt1 b3 c0 c1 c2 f0 f1 f2
    clear b3 b4 c0 c1 c2 f0 f1 f2
    go_wp2
    refine bodyPost_ret (v := .agg #[.string t, .int .i64 y, .int .i64 0]) (by simp [results, Tryd.results11, go_sem, d0, d1, d2]) rfl ⟨rfl, ?_⟩
    exact ((b5.setCell (by simp) _).setCell (by simp) _).setCell (by simp) _
  · obtain ⟨rfl, rfl⟩ := HXY hc
    have E := hide (told_bad (r := (⟨#[]⟩, 0, c)) rfl hc)
    clear HXY
    go_enter Tryd.func11, Tryd.ntmps11
    go_wp2_with fail
    refine (unhide HR _).mono ?_
    rintro e w1 ⟨rfl, b1⟩
    rw [unhide E]
    have hg2 : w1.cell? ⟨0, 0, none⟩ = some (.iface 74 (.agg #[.pointer (some ⟨1, 42, none⟩)])) := (b1.cell (p := ⟨0, 0, none⟩) (by simp)).trans (unhide HG1)
    obtain ⟨⟨c0, c1, c2⟩, ⟨f0, f1, f2⟩, b3⟩ := Mem.kept3 b1 (heap_alloc_new w _) ((Below.refl _ _).alloc (Nat.le_refl _) _)
    have hlt1 : w.heap.size < w1.heap.size := World.block_lt_of_cell? w1 ⟨w.heap.size, 0, none⟩ c0
    have HG2 := hide hg2
    clear b1 hg2
    go_wp2_with fail
    refine (WAs.code_hit c _ (unhide HG2)).mono ?_
    rintro e w2 ⟨rfl, b4⟩
    obtain ⟨⟨d0, d1, d2⟩, ⟨e0, e1, e2⟩, b5⟩ := Mem.still3 b4 hlt1 b3 c0 c1 c2 f0 f1 f2
    clear b3 b4 c0 c1 c2 f0 f1 f2
    go_wp2
    refine bodyPost_ret (v := .agg #[.string ⟨#[]⟩, .int .i64 0, .int .i64 c]) (by simp [results, Tryd.results11, go_sem, d0, d1, d2]) rfl ⟨rfl, ?_⟩
    exact ((b5.setCell (by simp) _).setCell (by simp) _).setCell (by simp) _
end WTextI
end Go.Proofs.YtopipjfomnnjcaaDoor
