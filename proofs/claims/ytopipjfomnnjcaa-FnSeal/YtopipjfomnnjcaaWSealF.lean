/- The walks of Seal, the program's and the specification's. -/
import Derived.Test.YtopipjfomnnjcaaWSeal
namespace Go.Proofs.Ytopipjfomnnjcaa
open Go.RowKit
namespace WSeal
/-- Seal's answer. -/
def sealed (s : ByteArray) : ByteArray := if 7996 < s.size then ⟨#[]⟩ else ⟨(s.data.toList ++ Pl.four (Pl.crcOut 0 s.data.toList)).toArray⟩
theorem sealed_long {s : ByteArray} (h : 7996 < s.size) : sealed s = ⟨#[]⟩ := if_pos h
theorem sealed_short {s : ByteArray} (h : ¬ 7996 < s.size) : sealed s = ⟨(s.data.toList ++ Pl.four (Pl.crcOut 0 s.data.toList)).toArray⟩ := if_neg h

set_option maxRecDepth 100000 in
theorem spec_any (s : ByteArray) (w : World) (hs : s.size ≤ maxLen) :
    Calls Try.prog 9 #[.string s] w fun e w' => e = .returned (.string (sealed s)) ∧ Below w.heap.size w w' := by
  unfold maxLen at hs
  by_cases h : 7996 < s.size
  · have E := hide (sealed_long h)
    go_enter Try.func9, Try.ntmps9
    go_wp2
    go_ret
    exact ⟨ret_string (unhide E).symm, Below.refl _ _⟩
  · have E := hide (sealed_short h)
    have hn := Pl.crcOut_le 0 s.data.toList
    have hfl : (Pl.four (Pl.crcOut 0 s.data.toList)).length = 4 := rfl
    go_enter Try.func9, Try.ntmps9
    go_wp2_with fail
    refine (WCrc.spec_in 0 s _ (by omega) (by omega)).mono ?_
    rintro e w1 ⟨rfl, hw⟩
    obtain rfl := hw.symm
    go_wp2_with fail
    refine (four_any _ _ (by omega)).mono ?_
    rintro e w2 ⟨rfl, b2⟩
    go_wp2
    go_ret
    exact ⟨ret_string (by rw [unhide E, Pl.put_after]), b2⟩

set_option maxRecDepth 100000 in
theorem impl_any (s : ByteArray) (w : World) (hs : s.size ≤ maxLen) :
    Calls Try.prog 8 #[.string s] w fun e w' => e = .returned (.string (sealed s)) ∧ Below w.heap.size w w' := by
  unfold maxLen at hs
  by_cases h : 7996 < s.size
  · have E := hide (sealed_long h)
    go_enter Try.func8, Try.ntmps8
    go_wp2
    go_ret
    exact ⟨ret_string (unhide E).symm, Below.refl _ _⟩
  · have E := hide (sealed_short h)
    have hfl : (⟨(Pl.four (Pl.crcOut 0 s.data.toList)).toArray⟩ : ByteArray).size = 4 := rfl
    go_enter Try.func8, Try.ntmps8
    go_wp2_with fail
    refine (sum_any s _ (by omega)).mono ?_
    rintro e w1 ⟨rfl, b1⟩
    go_wp2_with fail
    refine (WJoin.any w1.heap.size 0 2 [s, ⟨(Pl.four (Pl.crcOut 0 s.data.toList)).toArray⟩] _ (by simp) (by rw [Pl.tot_two]; omega) (Mem.two_texts _ _ _ _) (by simp)).mono ?_
    rintro e w2 ⟨rfl, b2⟩
    have b3 := (b1.alloc b1.size _).trans (b2.mono (by simp; have := b1.size; omega))
    clear b1 b2
    go_wp2
    go_ret
    exact ⟨ret_string (by rw [unhide E, Pl.cat_two]), b3⟩
end WSeal
end Go.Proofs.Ytopipjfomnnjcaa
