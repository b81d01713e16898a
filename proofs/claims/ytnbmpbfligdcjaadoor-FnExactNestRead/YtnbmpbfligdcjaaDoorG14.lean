/- Several texts of one claim in one file: WTreeR, WNum, WText. -/
import Derived.Test.YtnbmpbfligdcjaaDoorWTreeS
import Derived.Test.YtnbmpbfligdcjaaDoorPlain
import Derived.Test.YtnbmpbfligdcjaaDoorG06
import Derived.Test.YtnbmpbfligdcjaaDoorProg
import Derived.WalkKit
import Derived.WalkSpells
import Derived.Test.YtnbmpbfligdcjaaDoorG08
/- The specification's TreeRight, as the program's. -/
namespace Go.Proofs.YtnbmpbfligdcjaaDoor
open Go.RowKit
namespace WTreeS
theorem right_tree (a : Option Addr) (cap : Nat) (L : List Pl.Nd) (w : World) (hl : L.length ≤ 1048576) (hv : Mem.isNodes w a L) (hok : ∀ n ∈ L, n.path.size ≤ 1048576 ∧ n.data.size ≤ 1048576) :
    Calls Tryd.prog 28 #[.agg #[.slice a L.length cap]] w fun e w' => e = .returned (.bool (Pl.treeB L)) ∧ Below w.heap.size w w' := by
  have h := right_any a cap L w hl hv hok
  rw [Pl.tree_same] at h
  exact h
end WTreeS
end Go.Proofs.YtnbmpbfligdcjaaDoor

/- The walks of PutNum, the program's and the specification's: both answer the bytes of the number. -/
namespace Go.Proofs.YtnbmpbfligdcjaaDoor
open Go.RowKit
namespace WNum

theorem specFold (n : Int) (w : World) (h1 : -9223372036854775808 ≤ n) (h2 : n ≤ 9223372036854775807) :
    Calls Tryd.prog 80 #[.int .i64 n] w fun e w' => e = .returned (.int .u64 (Pl.fold n : Nat)) ∧ w' = w := by
  by_cases h : n < 0
  · have E := hide (Pl.fold_neg h)
    go_enter Tryd.func80, Tryd.ntmps80
    go_wp2
    go_ret
    exact ⟨ret_int (by rw [unhide E]; omega), rfl⟩
  · have E := hide (Pl.fold_pos (Int.not_lt.1 h))
    go_enter Tryd.func80, Tryd.ntmps80
    go_wp2
    go_ret
    exact ⟨ret_int (by rw [unhide E]), rfl⟩

theorem implFold (n : Int) (w : World) (h1 : -9223372036854775808 ≤ n) (h2 : n ≤ 9223372036854775807) :
    Calls Tryd.prog 64 #[.int .i64 n] w fun e w' => e = .returned (.int .u64 (Pl.fold n : Nat)) ∧ w' = w := by
  by_cases h : n < 0
  · have E := hide (Pl.foldNot_form n h1 h)
    go_enter Tryd.func64, Tryd.ntmps64
    go_wp2
    go_ret
    exact ⟨ret_int (by rw [← unhide E]), rfl⟩
  · have E := hide (Pl.fold_pos (Int.not_lt.1 h))
    go_enter Tryd.func64, Tryd.ntmps64
    go_wp2
    go_ret
    exact ⟨ret_int (by rw [unhide E]; omega), rfl⟩

theorem Tryd.len10 : Tryd.prog.arrayLen 96 = 10 := by kernel_rfl
theorem Tryd.arr10 : Tryd.prog.underlying 96 = some (.array (Tryd.prog.arrayLen 96) (Tryd.prog.elem 96)) := by kernel_rfl
theorem Tryd.size1 (w : World) : (sizeOf (Tryd.prog.elem 96)).run Tryd.prog w = .ok 1 w := by kernel_rfl
/-- 'all[:k+1]' of the ten bytes. -/
theorem head_slice (k : Nat) (hk : k ≤ 9) (B : Nat) (w : World) :
    (Instr.sliceAt 96 (.pointer (some ⟨B, 0, none⟩)) none (some (.int .i64 ((k : Int) + 1))) none).run Tryd.prog w = .ok (.slice (some ⟨B, 0, none⟩) (k + 1) 10) w := by
  have h := run_sliceAt_array_h (P := Tryd.prog) w 96 ⟨B, 0, none⟩ Tryd.arr10 .i64 ((k : Int) + 1) (by omega) (by rw [Tryd.len10]; omega)
  rw [h, Tryd.size1]
  simp only [Result.andThen, slicedAt, Tryd.len10]
  simp [Addr.add]
/-- 'string(all[:k+1])'. -/
theorem head_text {u k X : Nat} {C : Array Value} {w : World} (h : Pl.PutAt u k X C) (hX : X < 128) (hk : k < C.size) :
    (convert 100 9 (.slice (some ⟨w.heap.size, 0, none⟩) (k + 1) 10)).run Tryd.prog (w.alloc (.cells (C.setIfInBounds k (.int .u8 (X : Int))) 96))
      = .ok (.string ⟨(Pl.enc u).toArray⟩) (w.alloc (.cells (C.setIfInBounds k (.int .u8 (X : Int))) 96)) := by
  have e := run_convert_bytes_back (P := Tryd.prog) (w.alloc (.cells (C.setIfInBounds k (.int .u8 (X : Int))) 96)) 100 9 5 ⟨w.heap.size, 0, none⟩ 10 (Pl.enc u) Tryd.underlying100 Tryd.underlying5 Tryd.underlying9
    (fun j hj => by
      have hb := h.bytes hX hk j hj
      have ha : (⟨w.heap.size, 0, none⟩ : Addr).add j = ⟨w.heap.size, j, none⟩ := by unfold Addr.add; split <;> simp_all
      rw [ha, World.cell?_alloc_mark]
      exact hb)
  rw [h.length hX] at e
  exact e

set_option maxRecDepth 100000 in
set_option maxHeartbeats 400000 in
theorem implPut (n : Int) (w : World) (h1 : -9223372036854775808 ≤ n) (h2 : n ≤ 9223372036854775807) :
    Calls Tryd.prog 32 #[.int .i64 n] w fun e w' => e = .returned (.string ⟨(Pl.enc (Pl.fold n)).toArray⟩) ∧ Below w.heap.size w w' := by
  have hu := Pl.fold_lt h1 h2
  go_enter Tryd.func32, Tryd.ntmps32
  go_wp2_with (go_at_call 64; refine (implFold n _ h1 h2).mono ?_; rintro e w' ⟨rfl, rfl⟩)
  go_loopw [4, 5] (fun c x wr => ∃ (k X : Nat) (C : Array Value), k ≤ 9 ∧ C.size = 10 ∧ c = .int .i64 k ∧ x = .int .u64 (X : Int) ∧ wr = w.alloc (.cells C 96) ∧ X < 18446744073709551616 ∧
      Hid (Pl.PutAt (Pl.fold n) k X C)) (fun c _ _ => 10 - (intOf c).toNat)
  case atStart => exact ⟨0, Pl.fold n, _, by omega, rfl, rfl, rfl, rfl, hu, Pl.PutAt.start _ _⟩
  case round =>
    obtain ⟨k, X, C, hk, hC, rfl, rfl, rfl, hX, HP⟩ := hrel
    by_cases h128 : 128 ≤ X
    · have hk8 : k < 9 := Pl.PutAt.lt HP.out h128 hu
      have hl := Pl.low7_form X hX
      go_wp2
      go_roundw
      case rel => exact ⟨k + 1, X / 128, _, by omega, by simp [hC], by go_num, by go_num, rfl, by omega, HP.out.step h128 (by omega)⟩
      case measure => simp [intOf]; omega
    · obtain ⟨v0, hv0⟩ : ∃ v, C[k]? = some v := ⟨C[k], Array.getElem?_eq_getElem (by omega)⟩
      have hX' : X < 128 := by omega
      have hsl := head_slice k hk w.heap.size
      have hcv := head_text (w := w) HP.out hX' (by omega)
      go_wp2
      go_ret
      exact ⟨rfl, (Below.refl _ _).alloc (Nat.le_refl _) _⟩

theorem Tryd.info8 : (Tryd.prog.info? 5).map (fun i => (i.zero, i.size, i.bytes)) = some (some (.int .u8 0), 1, 1) := by kernel_rfl

set_option maxRecDepth 100000 in
set_option maxHeartbeats 400000 in
theorem specPut (n : Int) (w : World) (h1 : -9223372036854775808 ≤ n) (h2 : n ≤ 9223372036854775807) :
    Calls Tryd.prog 60 #[.int .i64 n] w fun e w' => e = .returned (.string ⟨(Pl.enc (Pl.fold n)).toArray⟩) ∧ Below w.heap.size w w' := by
  have hu := Pl.fold_lt h1 h2
  go_enter Tryd.func60, Tryd.ntmps60
  go_wp2_with (go_at_call 80; refine (specFold n _ h1 h2).mono ?_; rintro e w' ⟨rfl, hw⟩; obtain rfl := hw.symm)
  obtain ⟨i0, hi, hz0, hz1, hz2⟩ := info_parts Tryd.info8
  go_loopw [3, 4] (fun x v wr => ∃ (k X : Nat), k ≤ 9 ∧ x = .int .u64 (X : Int) ∧ X < 18446744073709551616 ∧
      wr.ownsRow w.heap.size 5 1 v k ((Pl.encTo (Pl.fold n) k).map Pl.byteVal) ∧ Below w.heap.size w wr ∧ Hid (Pl.EncAt (Pl.fold n) k X)) (fun x _ _ => (intOf x).toNat)
  case atStart => exact ⟨0, Pl.fold n, by omega, rfl, hu, World.ownsRow_made _ _ 0 (Nat.le_refl _) (Nat.zero_le _) rfl, (Below.refl _ _).alloc (Nat.le_refl _) _, Pl.EncAt.start _⟩
  case round =>
    obtain ⟨k, X, hk, rfl, hX, hown, hbel, HP⟩ := hrel
    by_cases h128 : 128 ≤ X
    · have hk8 : k < 9 := Pl.EncAt.lt HP.out h128 hu
      have HC := hide HP.out.cells
      have hlow := hown.lt
      have hb1 := hbel.size
      go_wp2_with (at_builtin; refine wpList_append_own _ rfl _ _ 100 rfl w.heap.size 5 i0 (.int .u8 0) 1 1 Tryd.underlying100 hi hz0 hz1 hz2 rfl (by decide) _ _ _ rfl (hown.alloc _) ⟨wr.heap.size, 0, none⟩ 1 1 [.int .u8 ((X : Int) % 128 + 128)] rfl rfl ?c1 ?c2 ?c3 ?c4 ?c5 ?_)
      case c1 => exact Mem.one_new _ _ _
      case c2 => exact Mem.one_cell _ _
      case c3 => unfold maxLen; omega
      case c4 => omega
      case c5 => simp; omega
      · intro v' w1 hown' hgrow _
        have hbel' := Mem.below_append hbel (Nat.le_refl _) hown hgrow
        rw [unhide HC] at hown'
        clear hgrow hown hbel hlow
        go_wp2
        go_roundw
        case rel => exact ⟨k + 1, X / 128, by omega, by go_num, by omega, hown', hbel', HP.out.step h128⟩
        case measure => simp [intOf]; omega
    · have hX' : X < 128 := by omega
      have HC := hide (HP.out.last hX')
      have HL := hide (HP.out.length hX')
      have hb1 := hbel.size
      go_wp2_with (at_builtin; refine wpList_append_own _ rfl _ _ 100 rfl w.heap.size 5 i0 (.int .u8 0) 1 1 Tryd.underlying100 hi hz0 hz1 hz2 rfl (by decide) _ _ _ rfl (hown.alloc _) ⟨wr.heap.size, 0, none⟩ 1 1 [.int .u8 (X : Int)] rfl rfl ?c1 ?c2 ?c3 ?c4 ?c5 ?_)
      case c1 => exact Mem.one_new _ _ _
      case c2 => exact Mem.one_cell _ _
      case c3 => unfold maxLen; omega
      case c4 => omega
      case c5 => simp; omega
      · intro v' w1 hown' hgrow _
        have hbel' := Mem.below_append hbel (Nat.le_refl _) hown hgrow
        rw [unhide HC] at hown'
        have hcv := Mem.own_text Tryd.underlying100 Tryd.underlying5 Tryd.underlying9 (Pl.enc (Pl.fold n)) (unhide HL) (by omega) hown'
        clear hgrow hown hbel hown'
        go_wp2
        go_ret
        exact ⟨rfl, hbel'⟩
end WNum
end Go.Proofs.YtnbmpbfligdcjaaDoor

/- The walks of PutText, the program's and the specification's. -/
namespace Go.Proofs.YtnbmpbfligdcjaaDoor
open Go.RowKit
namespace WText
/-- PutText's answer. -/
def put (s : ByteArray) : ByteArray := if 8000 < s.size then ⟨#[]⟩ else ⟨(Pl.enc (Pl.fold s.size) ++ s.data.toList).toArray⟩
theorem put_long {s : ByteArray} (h : 8000 < s.size) : put s = ⟨#[]⟩ := if_pos h
theorem put_short {s : ByteArray} (h : ¬ 8000 < s.size) : put s = ⟨(Pl.enc (Pl.fold s.size) ++ s.data.toList).toArray⟩ := if_neg h

theorem spec_any (s : ByteArray) (w : World) (hs : s.size ≤ maxLen) :
    Calls Tryd.prog 61 #[.string s] w fun e w' => e = .returned (.string (put s)) ∧ Below w.heap.size w w' := by
  unfold maxLen at hs
  by_cases h : 8000 < s.size
  · have E := hide (put_long h)
    go_enter Tryd.func61, Tryd.ntmps61
    go_wp2
    go_ret
    exact ⟨ret_string (unhide E).symm, Below.refl _ _⟩
  · have E := hide (put_short h)
    have hle := Pl.enc_length_le 9 (Pl.fold s.size) (by have := Pl.fold_pos (n := s.size) (by omega); omega)
    go_enter Tryd.func61, Tryd.ntmps61
    go_wp2_with fail
    refine (WNum.specPut _ _ (by omega) (by omega)).mono ?_
    rintro e w1 ⟨rfl, b1⟩
    go_wp2
    go_ret
    exact ⟨ret_string (by rw [unhide E, Pl.put_behind]), b1⟩

theorem impl_any (s : ByteArray) (w : World) (hs : s.size ≤ maxLen) :
    Calls Tryd.prog 33 #[.string s] w fun e w' => e = .returned (.string (put s)) ∧ Below w.heap.size w w' := by
  unfold maxLen at hs
  by_cases h : 8000 < s.size
  · have E := hide (put_long h)
    go_enter Tryd.func33, Tryd.ntmps33
    go_wp2
    go_ret
    exact ⟨ret_string (unhide E).symm, Below.refl _ _⟩
  · have E := hide (put_short h)
    have hle := Pl.enc_length_le 9 (Pl.fold s.size) (by have := Pl.fold_pos (n := s.size) (by omega); omega)
    go_enter Tryd.func33, Tryd.ntmps33
    go_wp2_with fail
    refine (WNum.implPut _ _ (by omega) (by omega)).mono ?_
    rintro e w1 ⟨rfl, b1⟩
    go_wp2_with fail
    refine (WJoin.any w1.heap.size 0 2 [⟨(Pl.enc (Pl.fold s.size)).toArray⟩, s] _ (by simp) (by rw [Pl.tot_two]; simp only [ByteArray.size, List.size_toArray] at *; omega) (Mem.two_texts _ _ _ _) (by simp)).mono ?_
    rintro e w2 ⟨rfl, b2⟩
    have b3 := (b1.alloc b1.size _).trans (b2.mono (by simp; have := b1.size; omega))
    clear b1 b2
    go_wp2
    go_ret
    exact ⟨ret_string (by rw [unhide E, Pl.cat_two]), b3⟩
end WText
end Go.Proofs.YtnbmpbfligdcjaaDoor

