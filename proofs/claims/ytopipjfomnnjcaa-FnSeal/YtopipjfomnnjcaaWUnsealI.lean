/- The walks of Unseal, the program's and the specification's. -/
import Derived.Test.YtopipjfomnnjcaaWSeal
import Derived.Deep.RegionHeld3
namespace Go.Proofs.Ytopipjfomnnjcaa
open Go.RowKit
namespace WUnseal
/-- Do the last four bytes tell the sum of the others? -/
def good (s : ByteArray) : Bool := Pl.four (Pl.crcOut 0 (s.data.toList.take (s.size - 4))) == (s.extract (s.size - 4) s.size).toList
/-- Unseal's answer. -/
def code (s : ByteArray) : Int := if 8000 < s.size then 2 else if s.size < 4 then 4 else if good s then 0 else 5
def text (s : ByteArray) : ByteArray := if 8000 < s.size then ⟨#[]⟩ else if s.size < 4 then ⟨#[]⟩ else if good s then s.extract 0 (s.size - 4) else ⟨#[]⟩
def out (s : ByteArray) : Value := .agg #[.string (text s), .int .i64 0, .int .i64 (code s)]

set_option maxRecDepth 100000 in
set_option maxHeartbeats 400000 in
theorem impl_any (s : ByteArray) (w : World) (hs : s.size ≤ maxLen) :
    Calls Try.prog 11 #[.string s] w fun e w' => e = .returned (out s) ∧ Below w.heap.size w w' := by
  unfold maxLen at hs
  by_cases h1 : 8000 < s.size
  · have E : Hid (out s = .agg #[.string ⟨#[]⟩, .int .i64 0, .int .i64 2]) := by show _ = _; simp [out, text, code, h1]
    go_enter Try.func11, Try.ntmps11
    go_wp2
    refine bodyPost_ret (v := .agg #[.string ⟨#[]⟩, .int .i64 0, .int .i64 2]) (by simp [results, Try.results11, go_sem]) rfl ⟨by rw [E.out], ?_⟩
    exact (Below.refl _ _).alloc (Nat.le_refl _) _
  by_cases h2 : s.size < 4
  · have E : Hid (out s = .agg #[.string ⟨#[]⟩, .int .i64 0, .int .i64 4]) := by show _ = _; simp [out, text, code, h1, h2]
    go_enter Try.func11, Try.ntmps11
    go_wp2
    refine bodyPost_ret (v := .agg #[.string ⟨#[]⟩, .int .i64 0, .int .i64 4]) (by simp [results, Try.results11, go_sem]) rfl ⟨by rw [E.out], ?_⟩
    exact (Below.refl _ _).alloc (Nat.le_refl _) _
  have hsz : (s.extract 0 (s.size - 4)).size ≤ 8000 := by simp; omega
  have i1 : (4 : Int) ≤ (s.size : Int) := by omega
  have i2 : (s.size : Int) - 4 ≤ (s.size : Int) := by omega
  have i3 : IntKind.i64.wrap ((s.size : Int) - 4) = (s.size : Int) - 4 := by rw [IntKind.wrap_i64]; omega
  go_enter Try.func11, Try.ntmps11
  go_wp2
  go_region_held3 (fun _ => True) (trivial) ((go_at_call 49; refine (WSeal.sum_any _ _ hsz).mono ?_; rintro e w' ⟨rfl, b2⟩))
  obtain ⟨⟨c0, c1, c2⟩, ⟨f0, f1, f2⟩, b3⟩ := Mem.kept3 b2 (heap_alloc_new w _) ((Below.refl _ _).alloc (Nat.le_refl _) _).drew
  have hblt : w.heap.size < w'.heap.size := World.block_lt_of_cell? w' ⟨w.heap.size, 0, none⟩ c0
  clear b2
  generalize hgd : ((s.extract (s.size - 4) s.size).toList == Pl.four (Pl.crcOut 0 (List.take (s.size - 4) s.data.toList))) = g
  have hq : good s = g := by rw [← hgd, good]; exact Bool.beq_comm
  clear hgd
  cases g
  · have E : Hid (out s = .agg #[.string ⟨#[]⟩, .int .i64 0, .int .i64 5]) := by show _ = _; simp [out, text, code, h1, h2, hq]
    clear hq
    go_wp2
    refine bodyPost_ret (v := .agg #[.string ⟨#[]⟩, .int .i64 0, .int .i64 5]) (by simp [results, Try.results11, go_sem, c0, c1, c2]) rfl ⟨by rw [E.out], ?_⟩
    exact ((b3.setCell (by simp) _).setCell (by simp) _).setCell (by simp) _
  · have E : Hid (out s = .agg #[.string ⟨(s.extract 0 (s.size - 4)).data.toList.toArray⟩, .int .i64 0, .int .i64 0]) := by
      show _ = _
      have eb : (⟨(s.extract 0 (s.size - 4)).data.toList.toArray⟩ : ByteArray) = s.extract 0 (s.size - 4) := by
        apply ByteArray.ext
        rw [Array.toArray_toList]
      rw [eb]
      simp [out, text, code, h1, h2, hq]
    clear hq
    go_wp2_with fail
    refine (WJoin.any w'.heap.size 0 1 [s.extract 0 (s.size - 4)] _ (by simp) (by rw [Pl.tot_one]; omega) (Mem.one_text _ _ _) (by simp)).mono ?_
    rintro e w2 ⟨rfl, b4⟩
    obtain ⟨⟨d0, d1, d2⟩, ⟨e0, e1, e2⟩, b5⟩ := Mem.again3 b4 (w := w) (B := w.heap.size) hblt b3 c0 c1 c2 f0 f1 f2
    clear b3 b4 c0 c1 c2 f0 f1 f2
    rw [Pl.cat_one]
    generalize (⟨(s.extract 0 (s.size - 4)).data.toList.toArray⟩ : ByteArray) = body at E ⊢
    go_wp2
    refine bodyPost_ret (v := .agg #[.string body, .int .i64 0, .int .i64 0]) (by simp [results, Try.results11, go_sem, d0, d1, d2]) rfl ⟨by rw [E.out], ?_⟩
    exact ((b5.setCell (by simp) _).setCell (by simp) _).setCell (by simp) _
end WUnseal
end Go.Proofs.Ytopipjfomnnjcaa
