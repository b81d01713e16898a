/- The walks of PutText, the program's and the specification's. -/
import Derived.Test.YtopipjfomnnjcajDoorWNum
import Derived.Test.YtopipjfomnnjcajDoorWJoin
namespace Go.Proofs.YtopipjfomnnjcajDoor
open Go.RowKit
namespace WText
/-- PutText's answer. -/
def put (s : ByteArray) : ByteArray := if 8000 < s.size then ⟨#[]⟩ else ⟨(Pl.enc (Pl.fold s.size) ++ s.data.toList).toArray⟩
theorem put_long {s : ByteArray} (h : 8000 < s.size) : put s = ⟨#[]⟩ := if_pos h
theorem put_short {s : ByteArray} (h : ¬ 8000 < s.size) : put s = ⟨(Pl.enc (Pl.fold s.size) ++ s.data.toList).toArray⟩ := if_neg h

theorem spec_any (s : ByteArray) (w : World) (hs : s.size ≤ maxLen) :
    Calls Tryd.prog 59 #[.string s] w fun e w' => e = .returned (.string (put s)) ∧ Below w.heap.size w w' := by
  unfold maxLen at hs
  by_cases h : 8000 < s.size
  · have E := hide (put_long h)
    go_enter Tryd.func59, Tryd.ntmps59
    go_wp2
    go_ret
    exact ⟨ret_string (unhide E).symm, Below.refl _ _⟩
  · have E := hide (put_short h)
    have hle := Pl.enc_length_le 9 (Pl.fold s.size) (by have := Pl.fold_pos (n := s.size) (by omega); omega)
    go_enter Tryd.func59, Tryd.ntmps59
    go_wp2_with fail
    refine (WNum.specPut _ _ (by omega) (by omega)).mono ?_
    rintro e w1 ⟨rfl, b1⟩
    go_wp2
    go_ret
    exact ⟨ret_string (by rw [unhide E, Pl.put_behind]), b1⟩

theorem impl_any (s : ByteArray) (w : World) (hs : s.size ≤ maxLen) :
    Calls Tryd.prog 33 #[.string s] w fun e w' => e = .returned (.string (put s)) ∧ Below w.heap.size w w' := by
  unfold maxLen at hs
  by_cases h : 8000 < s.size
  · have E := hide (put_long h)
    go_enter Tryd.func33, Tryd.ntmps33
    go_wp2
    go_ret
    exact ⟨ret_string (unhide E).symm, Below.refl _ _⟩
  · have E := hide (put_short h)
    have hle := Pl.enc_length_le 9 (Pl.fold s.size) (by have := Pl.fold_pos (n := s.size) (by omega); omega)
    go_enter Tryd.func33, Tryd.ntmps33
    go_wp2_with fail
    refine (WNum.implPut _ _ (by omega) (by omega)).mono ?_
    rintro e w1 ⟨rfl, b1⟩
    go_wp2_with fail
    refine (WJoin.any w1.heap.size 0 2 [⟨(Pl.enc (Pl.fold s.size)).toArray⟩, s] _ (by simp) (by rw [Pl.tot_two]; simp only [ByteArray.size, List.size_toArray] at *; omega) (Mem.two_texts _ _ _ _) (by simp)).mono ?_
    rintro e w2 ⟨rfl, b2⟩
    have b3 := (b1.alloc b1.size _).trans (b2.mono (by simp; have := b1.size; omega))
    clear b1 b2
    go_wp2
    go_ret
    exact ⟨ret_string (by rw [unhide E, Pl.cat_two]), b3⟩
end WText
end Go.Proofs.YtopipjfomnnjcajDoor
