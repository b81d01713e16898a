/- Several texts of one claim in one file: WNodesR, WNum, WText, WBytesT. -/
import Derived.Test.YtioildojmckepaaGreatDoorG26
import Derived.Test.YtioildojmckepaaGreatDoorG01
import Derived.Test.YtioildojmckepaaGreatDoorG04
import Derived.Test.YtioildojmckepaaGreatDoorProg
import Derived.WalkSpells
import Derived.Test.YtioildojmckepaaGreatDoorG25
import Derived.Lib.OthersKept
import Derived.Laws.RangeAny
import Derived.Deep.Draws
import Derived.Deep.QuietTactic
import Derived.BigQuiet
import Derived.Maps.OwnSet
import Derived.Outline
namespace Go.Proofs.YtioildojmckepaaGreatDoor
open Go.RowKit Go.Maps
namespace zh9
set_option maxRecDepth 100000 in
theorem zz6 (a : Option Addr) (cap : Nat) (L : List Pl.Nd) (w : World) (hl : L.length ≤ 1048576) (hv : Mem.zb5 w a L) (hok : ∀ n ∈ L, n.path.size ≤ 1048576 ∧ n.data.size ≤ 1048576)
  (r1 r2 r3 : TypeId) (x1 x2 x3 : Value) (hE : Errs w r1 r2 r3 x1 x2 x3) :
  Calls Tryz.prog 50 #[.agg #[.slice a L.length cap]] w fun e w' => e = .returned (.bool (Pl.zb1 L)) ∧ Below w.heap.size w w' := by
 have b0 : Below w.heap.size w (w.alloc (.cells #[.slice a L.length cap] 36)) := (Below.refl _ _).alloc (Nat.le_refl _) _
 have hn := hide (nodes_any a cap L _ hl (Mem.za5 hv b0) hok r1 r2 r3 x1 x2 x3 (hE.call b0))
 clear hv hok hE
 generalize Pl.zb1 L = R at hn ⊢
 go_enter Tryz.func50, Tryz.ntmps50
 go_wp2_with fail
 refine (za hn).mono ?_
 rintro e w1 ⟨h1, b1⟩
 have b2 := b0.trans (b1.mono b0.size)
 clear hn b0 b1
 rcases h1 with ⟨rfl, B, rfl, -, -⟩ | ⟨rfl, rfl⟩
 ·go_wp2
  go_ret
  exact ⟨rfl, b2⟩
 ·go_wp2
  go_ret
  exact ⟨rfl, b2⟩
end zh9
end Go.Proofs.YtioildojmckepaaGreatDoor

namespace Go.Proofs.YtioildojmckepaaGreatDoor
open Go.RowKit
namespace WNum

theorem specFold (n : Int) (w : World) (h1 : -9223372036854775808 ≤ n) (h2 : n ≤ 9223372036854775807) :
  Calls Tryz.prog 71 #[.int .i64 n] w fun e w' => e = .returned (.int .u64 (Pl.fold n : Nat)) ∧ w' = w := by
 by_cases h : n < 0
 ·have E := hide (Pl.fold_neg h)
  go_enter Tryz.func71, Tryz.ntmps71
  go_wp2
  go_ret
  exact ⟨zt9 (by rw [za E]; omega), rfl⟩
 ·have E := hide (Pl.zl (Int.not_lt.1 h))
  go_enter Tryz.func71, Tryz.ntmps71
  go_wp2
  go_ret
  exact ⟨zt9 (by rw [za E]), rfl⟩

theorem implFold (n : Int) (w : World) (h1 : -9223372036854775808 ≤ n) (h2 : n ≤ 9223372036854775807) :
  Calls Tryz.prog 49 #[.int .i64 n] w fun e w' => e = .returned (.int .u64 (Pl.fold n : Nat)) ∧ w' = w := by
 by_cases h : n < 0
 ·have E := hide (Pl.foldNot_form n h1 h)
  go_enter Tryz.func49, Tryz.ntmps49
  go_wp2
  go_ret
  exact ⟨zt9 (by rw [← za E]), rfl⟩
 ·have E := hide (Pl.zl (Int.not_lt.1 h))
  go_enter Tryz.func49, Tryz.ntmps49
  go_wp2
  go_ret
  exact ⟨zt9 (by rw [za E]; omega), rfl⟩

theorem Tryz.len10 : Tryz.prog.arrayLen 83 = 10 := by kernel_rfl
theorem Tryz.arr10 : Tryz.prog.underlying 83 = some (.array (Tryz.prog.arrayLen 83) (Tryz.prog.elem 83)) := by kernel_rfl
theorem Tryz.size1 (w : World) : (sizeOf (Tryz.prog.elem 83)).run Tryz.prog w = .ok 1 w := by kernel_rfl
theorem head_slice (k : Nat) (hk : k ≤ 9) (B : Nat) (w : World) :
  (Instr.sliceAt 83 (.pointer (some ⟨B, 0, none⟩)) none (some (.int .i64 ((k : Int) + 1))) none).run Tryz.prog w = .ok (.slice (some ⟨B, 0, none⟩) (k + 1) 10) w := by
 have h := run_sliceAt_array_h (P := Tryz.prog) w 83 ⟨B, 0, none⟩ Tryz.arr10 .i64 ((k : Int) + 1) (by omega) (by rw [Tryz.len10]; omega)
 rw [h, Tryz.size1]
 simp only [Result.andThen, slicedAt, Tryz.len10]
 simp [Addr.add]
theorem head_text {u k X : Nat} {C : Array Value} {w : World} (h : Pl.zj8 u k X C) (hX : X < 128) (hk : k < C.size) :
  (convert 22 9 (.slice (some ⟨w.heap.size, 0, none⟩) (k + 1) 10)).run Tryz.prog (w.alloc (.cells (C.setIfInBounds k (.int .u8 (X : Int))) 83))
   = .ok (.string ⟨(Pl.enc u).toArray⟩) (w.alloc (.cells (C.setIfInBounds k (.int .u8 (X : Int))) 83)) := by
 have e := run_convert_bytes_back (P := Tryz.prog) (w.alloc (.cells (C.setIfInBounds k (.int .u8 (X : Int))) 83)) 22 9 5 ⟨w.heap.size, 0, none⟩ 10 (Pl.enc u) Tryz.underlying22 Tryz.underlying5 Tryz.underlying9
  (fun j hj => by
   have hb := h.bytes hX hk j hj
   have ha : (⟨w.heap.size, 0, none⟩ : Addr).add j = ⟨w.heap.size, j, none⟩ := by unfold Addr.add; split <;> simp_all
   rw [ha, World.cell?_alloc_mark]
   exact hb)
 rw [h.length hX] at e
 exact e

set_option maxRecDepth 100000 in
set_option maxHeartbeats 400000 in
theorem zq0 (n : Int) (w : World) (h1 : -9223372036854775808 ≤ n) (h2 : n ≤ 9223372036854775807) :
  Calls Tryz.prog 24 #[.int .i64 n] w fun e w' => e = .returned (.string ⟨(Pl.enc (Pl.fold n)).toArray⟩) ∧ Below w.heap.size w w' := by
 have hu := Pl.zu3 h1 h2
 go_enter Tryz.func24, Tryz.ntmps24
 go_wp2_with (go_at_call 49; refine (implFold n _ h1 h2).mono ?_; rintro e w' ⟨rfl, rfl⟩)
 go_loopw [4, 5] (fun c x wr => ∃ (k X : Nat) (C : Array Value), k ≤ 9 ∧ C.size = 10 ∧ c = .int .i64 k ∧ x = .int .u64 (X : Int) ∧ wr = w.alloc (.cells C 83) ∧ X < 18446744073709551616 ∧
   Hid (Pl.zj8 (Pl.fold n) k X C)) (fun c _ _ => 10 - (intOf c).toNat)
 case atStart => exact ⟨0, Pl.fold n, _, by omega, rfl, rfl, rfl, rfl, hu, Pl.zj8.start _ _⟩
 case round =>
  obtain ⟨k, X, C, hk, hC, rfl, rfl, rfl, hX, HP⟩ := hrel
  by_cases h128 : 128 ≤ X
  ·have hk8 : k < 9 := Pl.zj8.lt HP.out h128 hu
   have hl := Pl.low7_form X hX
   go_wp2
   go_roundw
   case rel => exact ⟨k + 1, X / 128, _, by omega, by simp [hC], by go_num, by go_num, rfl, by omega, HP.out.step h128 (by omega)⟩
   case measure => simp [intOf]; omega
  ·obtain ⟨v0, hv0⟩ : ∃ v, C[k]? = some v := ⟨C[k], Array.getElem?_eq_getElem (by omega)⟩
   have hX' : X < 128 := by omega
   have hsl := head_slice k hk w.heap.size
   have hcv := head_text (w := w) HP.out hX' (by omega)
   go_wp2
   go_ret
   exact ⟨rfl, (Below.refl _ _).alloc (Nat.le_refl _) _⟩

theorem Tryz.info8 : (Tryz.prog.info? 5).map (fun i => (i.zero, i.size, i.bytes)) = some (some (.int .u8 0), 1, 1) := by kernel_rfl

set_option maxRecDepth 100000 in
set_option maxHeartbeats 400000 in
theorem zp6 (n : Int) (w : World) (h1 : -9223372036854775808 ≤ n) (h2 : n ≤ 9223372036854775807) :
  Calls Tryz.prog 54 #[.int .i64 n] w fun e w' => e = .returned (.string ⟨(Pl.enc (Pl.fold n)).toArray⟩) ∧ Below w.heap.size w w' := by
 have hu := Pl.zu3 h1 h2
 go_enter Tryz.func54, Tryz.ntmps54
 go_wp2_with (go_at_call 71; refine (specFold n _ h1 h2).mono ?_; rintro e w' ⟨rfl, hw⟩; obtain rfl := hw.symm)
 obtain ⟨i0, hi, hz0, hz1, hz2⟩ := info_parts Tryz.info8
 go_loopw [3, 4] (fun x v wr => ∃ (k X : Nat), k ≤ 9 ∧ x = .int .u64 (X : Int) ∧ X < 18446744073709551616 ∧
   wr.ownsRow w.heap.size 5 1 v k ((Pl.zk9 (Pl.fold n) k).map Pl.zd2) ∧ Below w.heap.size w wr ∧ Hid (Pl.zj3 (Pl.fold n) k X)) (fun x _ _ => (intOf x).toNat)
 case atStart => exact ⟨0, Pl.fold n, by omega, rfl, hu, World.ownsRow_made _ _ 0 (Nat.le_refl _) (Nat.zero_le _) rfl, (Below.refl _ _).alloc (Nat.le_refl _) _, Pl.zj3.start _⟩
 case round =>
  obtain ⟨k, X, hk, rfl, hX, hown, hbel, HP⟩ := hrel
  by_cases h128 : 128 ≤ X
  ·have hk8 : k < 9 := Pl.zj3.lt HP.out h128 hu
   have HC := hide HP.out.cells
   have hlow := hown.lt
   have hb1 := hbel.size
   go_wp2_with (at_builtin; refine wpList_append_own _ rfl _ _ 22 rfl w.heap.size 5 i0 (.int .u8 0) 1 1 Tryz.underlying22 hi hz0 hz1 hz2 rfl (by decide) _ _ _ rfl (hown.alloc _) ⟨wr.heap.size, 0, none⟩ 1 1 [.int .u8 ((X : Int) % 128 + 128)] rfl rfl ?c1 ?c2 ?c3 ?c4 ?c5 ?_)
   case c1 => exact Mem.zm8 _ _ _
   case c2 => exact Mem.one_cell _ _
   case c3 => unfold maxLen; omega
   case c4 => omega
   case c5 => simp; omega
   ·intro v' w1 hown' hgrow _
    have hbel' := Mem.zh3 hbel (Nat.le_refl _) hown hgrow
    rw [za HC] at hown'
    clear hgrow hown hbel hlow
    go_wp2
    go_roundw
    case rel => exact ⟨k + 1, X / 128, by omega, by go_num, by omega, hown', hbel', HP.out.step h128⟩
    case measure => simp [intOf]; omega
  ·have hX' : X < 128 := by omega
   have HC := hide (HP.out.last hX')
   have HL := hide (HP.out.length hX')
   have hb1 := hbel.size
   go_wp2_with (at_builtin; refine wpList_append_own _ rfl _ _ 22 rfl w.heap.size 5 i0 (.int .u8 0) 1 1 Tryz.underlying22 hi hz0 hz1 hz2 rfl (by decide) _ _ _ rfl (hown.alloc _) ⟨wr.heap.size, 0, none⟩ 1 1 [.int .u8 (X : Int)] rfl rfl ?c1 ?c2 ?c3 ?c4 ?c5 ?_)
   case c1 => exact Mem.zm8 _ _ _
   case c2 => exact Mem.one_cell _ _
   case c3 => unfold maxLen; omega
   case c4 => omega
   case c5 => simp; omega
   ·intro v' w1 hown' hgrow _
    have hbel' := Mem.zh3 hbel (Nat.le_refl _) hown hgrow
    rw [za HC] at hown'
    have hcv := Mem.own_text Tryz.underlying22 Tryz.underlying5 Tryz.underlying9 (Pl.enc (Pl.fold n)) (za HL) (by omega) hown'
    clear hgrow hown hbel hown'
    go_wp2
    go_ret
    exact ⟨rfl, hbel'⟩
end WNum
end Go.Proofs.YtioildojmckepaaGreatDoor

namespace Go.Proofs.YtioildojmckepaaGreatDoor
open Go.RowKit
namespace zc6
def put (s : ByteArray) : ByteArray := if 8000 < s.size then ⟨#[]⟩ else ⟨(Pl.enc (Pl.fold s.size) ++ s.data.toList).toArray⟩
theorem put_long {s : ByteArray} (h : 8000 < s.size) : put s = ⟨#[]⟩ := if_pos h
theorem zm1 {s : ByteArray} (h : ¬ 8000 < s.size) : put s = ⟨(Pl.enc (Pl.fold s.size) ++ s.data.toList).toArray⟩ := if_neg h

theorem zb8 (s : ByteArray) (w : World) (hs : s.size ≤ maxLen) :
  Calls Tryz.prog 55 #[.string s] w fun e w' => e = .returned (.string (put s)) ∧ Below w.heap.size w w' := by
 unfold maxLen at hs
 by_cases h : 8000 < s.size
 ·have E := hide (put_long h)
  go_enter Tryz.func55, Tryz.ntmps55
  go_wp2
  go_ret
  exact ⟨zd3 (za E).symm, Below.refl _ _⟩
 ·have E := hide (zm1 h)
  have hle := Pl.zj5 9 (Pl.fold s.size) (by have := Pl.zl (n := s.size) (by omega); omega)
  go_enter Tryz.func55, Tryz.ntmps55
  go_wp2_with fail
  refine (WNum.zp6 _ _ (by omega) (by omega)).mono ?_
  rintro e w1 ⟨rfl, b1⟩
  go_wp2
  go_ret
  exact ⟨zd3 (by rw [za E, Pl.yc8]), b1⟩

theorem ze9 (s : ByteArray) (w : World) (hs : s.size ≤ maxLen) :
  Calls Tryz.prog 25 #[.string s] w fun e w' => e = .returned (.string (put s)) ∧ Below w.heap.size w w' := by
 unfold maxLen at hs
 by_cases h : 8000 < s.size
 ·have E := hide (put_long h)
  go_enter Tryz.func25, Tryz.ntmps25
  go_wp2
  go_ret
  exact ⟨zd3 (za E).symm, Below.refl _ _⟩
 ·have E := hide (zm1 h)
  have hle := Pl.zj5 9 (Pl.fold s.size) (by have := Pl.zl (n := s.size) (by omega); omega)
  go_enter Tryz.func25, Tryz.ntmps25
  go_wp2_with fail
  refine (WNum.zq0 _ _ (by omega) (by omega)).mono ?_
  rintro e w1 ⟨rfl, b1⟩
  go_wp2_with fail
  refine (WJoin.any w1.heap.size 0 2 [⟨(Pl.enc (Pl.fold s.size)).toArray⟩, s] _ (by simp) (by rw [Pl.tot_two]; simp only [ByteArray.size, List.size_toArray] at *; omega) (Mem.two_texts _ _ _ _) (by simp)).mono ?_
  rintro e w2 ⟨rfl, b2⟩
  have b3 := (b1.alloc b1.size _).trans (b2.mono (by simp; have := b1.size; omega))
  clear b1 b2
  go_wp2
  go_ret
  exact ⟨zd3 (by rw [za E, Pl.cat_two]), b3⟩
end zc6
end Go.Proofs.YtioildojmckepaaGreatDoor

namespace Go.Proofs.YtioildojmckepaaGreatDoor
open Go.RowKit
namespace Pl
def num (n : Int) : ByteArray := ⟨(enc (fold n)).toArray⟩
def zc4 (n : Nd) : List ByteArray := [zc6.put n.path, num n.kind, zc6.put n.data, num n.time, num n.mark]
def zj2 (L : List Nd) : List ByteArray := num L.length :: L.flatMap zc4
def zb4 (L : List Nd) : ByteArray := ⟨(cat (zj2 L)).toArray⟩
def zd7 (L : List Nd) : ByteArray := if zb1 L then (if 8000 < (zb4 L).size then ⟨#[]⟩ else zb4 L) else ⟨#[]⟩
end Pl
namespace Pl
theorem zi8 {n : Int} (h1 : -9223372036854775808 ≤ n) (h2 : n ≤ 9223372036854775807) : (num n).size ≤ 11 := by
 have h := zj5 10 (fold n) (Nat.lt_of_lt_of_le (zu3 h1 h2) (by decide))
 show (enc (fold n)).toArray.size ≤ 11
 simpa using h
theorem zv3 {s : ByteArray} (h : s.size ≤ 8000) : (zc6.put s).size ≤ s.size + 11 := by
 rw [zc6.zm1 (by omega)]
 have h := zj5 10 (fold s.size) (Nat.lt_of_lt_of_le (zu3 (by omega) (by omega)) (by decide))
 show (enc (fold s.size) ++ s.data.toList).toArray.size ≤ s.size + 11
 have e : s.data.toList.length = s.size := Array.length_toList
 simp only [List.size_toArray, List.length_append, e]
 omega
def upTo (L : List Nd) (k : Nat) : ByteArray := ⟨(cat (num L.length :: (L.take k).flatMap zc4)).toArray⟩
theorem zo5 (A B : List ByteArray) : cat (A ++ B) = cat A ++ cat B := by simp [cat]
theorem upTo_step (L : List Nd) {n : Nd} {k : Nat} (h : L[k]? = some n) : upTo L (k + 1) = upTo L k ++ zc6.put n.path ++ num n.kind ++ zc6.put n.data ++ num n.time ++ num n.mark := by
 have h1 := (List.getElem?_eq_some_iff.1 h)
 apply ByteArray.ext
 apply Array.toList_inj.1
 have e : L.take (k + 1) = L.take k ++ [n] := by rw [List.take_succ_eq_append_getElem h1.1, h1.2]
 have h2 : (num L.length :: (L.take (k + 1)).flatMap zc4) = (num L.length :: (L.take k).flatMap zc4) ++ zc4 n := by rw [e, List.flatMap_append]; simp
 simp only [upTo, h2, zo5]
 simp [zc4, cat]
theorem zt6 {n : Nd} (h : zl6 n = true) : 0 ≤ n.kind ∧ n.kind ≤ 2 := by
 unfold zl6 at h
 split at h
 ·omega
 split at h
 ·omega
 split at h
 ·omega
 ·cases h
theorem upTo_zero (L : List Nd) : upTo L 0 = num L.length := by
 apply ByteArray.ext; apply Array.toList_inj.1; simp [upTo, cat]
theorem upTo_end (L : List Nd) : upTo L L.length = zb4 L := by simp [upTo, zb4, zj2]
end Pl
namespace zo6
set_option linter.unusedSimpArgs false in
set_option maxRecDepth 100000 in
set_option maxHeartbeats 2000000 in
theorem zv9 (a : Option Addr) (cap : Nat) (L : List Pl.Nd) (w : World) (h40 : L.length ≤ 40) (hv : Mem.zb5 w a L) (hok : ∀ n ∈ L, Pl.zc1 n = true) :
  Calls Tryz.prog 56 #[.agg #[.slice a L.length cap]] w fun e w' => e = .returned (.string (Pl.zb4 L)) ∧ Below w.heap.size w w' := by
 have b0 : Below w.heap.size w (w.alloc (.cells #[.slice a L.length cap] 36)) := (Below.refl _ _).alloc (Nat.le_refl _) _
 have hvar := Mem.ze w [.slice a L.length cap] 36
 have HV := hide hv
 have HO := hide hok
 have hp := hide (WNum.zp6 (L.length : Int) (w.alloc (.cells #[.slice a L.length cap] 36)) (by omega) (by omega))
 clear hv hok
 go_enter Tryz.func56, Tryz.ntmps56
 go_wp2_with fail
 refine (za hp).mono ?_
 rintro e w1 ⟨rfl, b1⟩
 have b2 := b0.trans (b1.mono b0.size)
 have HVAR := hide (Mem.zf8 hvar b1)
 clear hvar b0 b1 hp
 go_wp2
 go_loopw [3, 4] (fun v i wr => ∃ (k : Nat) (B : ByteArray), k ≤ L.length ∧ i = .int .i64 (k : Int) ∧ v = .string B ∧ B.size ≤ 11 + k * 400 ∧ Below w.heap.size w wr ∧ Hid (Mem.Var wr w.heap.size [.slice a L.length cap]) ∧ Hid (B = Pl.upTo L k)) (fun _ i _ => L.length - (intOf i).toNat)
 case atStart => exact ⟨0, _, Nat.zero_le _, rfl, rfl, by have := Pl.zi8 (n := (L.length : Int)) (by omega) (by omega); exact this, b2, HVAR, hide (Pl.upTo_zero L).symm⟩
 case round =>
  obtain ⟨k, B, hk, rfl, rfl, hBs, hbel, HVAR2, HBE⟩ := hrel
  have cv := (za HVAR2).2 0 _ rfl
  by_cases hlt : k < L.length
  ·obtain ⟨n, hn⟩ : ∃ n, L[k]? = some n := ⟨_, List.getElem?_eq_getElem hlt⟩
   obtain ⟨b, o, rfl, hb, q0, q1, q2, q3, q4⟩ := (Mem.za5 (za HV) hbel) k n hn
   have hnb := za HO n (List.mem_of_getElem? hn)
   have hnr := Pl.zk7 (Pl.zf9 hnb).1
   obtain ⟨hnd, hnt, hnm, hnk⟩ := Pl.zl3 hnb
   have hkk := Pl.zt6 hnk
   have HST := hide (Pl.upTo_step L hn)
   have y1 : (k : Int) < (L.length : Int) := by omega
   have y3 : (0 : Int) ≤ (k : Int) := by omega
   obtain ⟨p, k0, d, t, m⟩ := n
   simp only at q0 q1 q2 q3 q4 hnr hnd hnt hnm hkk HST
   have cp := hide (fun W => zc6.zb8 p W (by unfold maxLen; omega))
   have cd := hide (fun W => zc6.zb8 d W (by unfold maxLen; omega))
   have ck := hide (fun W => WNum.zp6 k0 W (by omega) (by omega))
   have ct := hide (fun W => WNum.zp6 t W (by omega) (by omega))
   have cm := hide (fun W => WNum.zp6 m W (by omega) (by omega))
   have zp := Pl.zv3 (s := p) (by omega)
   have zd := Pl.zv3 (s := d) (by omega)
   have zk := Pl.zi8 (n := k0) (by omega) (by omega)
   have zt := Pl.zi8 (n := t) (by omega) (by omega)
   have zm := Pl.zi8 (n := m) (by omega) (by omega)
   change Hid (∀ W, Calls Tryz.prog _ _ W fun e w' => e = .returned (.string (Pl.num k0)) ∧ _) at ck
   change Hid (∀ W, Calls Tryz.prog _ _ W fun e w' => e = .returned (.string (Pl.num t)) ∧ _) at ct
   change Hid (∀ W, Calls Tryz.prog _ _ W fun e w' => e = .returned (.string (Pl.num m)) ∧ _) at cm
   generalize zc6.put p = P1 at cp zp HST
   generalize zc6.put d = D1 at cd zd HST
   generalize Pl.num k0 = K1 at ck zk HST
   generalize Pl.num t = T1 at ct zt HST
   generalize Pl.num m = M1 at cm zm HST
   go_wp2_with fail
   have zn := Mem.ze wr [.string p, .int .i64 k0, .string d, .int .i64 t, .int .i64 m] 88
   have bw1 : Below wr.heap.size wr (wr.alloc (.cells #[.string p, .int .i64 k0, .string d, .int .i64 t, .int .i64 m] 88)) := (Below.refl _ _).alloc (Nat.le_refl _) _
   have hsz : (wr.alloc (.cells #[.string p, .int .i64 k0, .string d, .int .i64 t, .int .i64 m] 88)).heap.size = wr.heap.size + 1 := by simp
   generalize hW0 : wr.alloc (.cells #[.string p, .int .i64 k0, .string d, .int .i64 t, .int .i64 m] 88) = W0
   rw [hW0] at bw1 hsz
   have zn : Mem.Var W0 wr.heap.size [.string p, .int .i64 k0, .string d, .int .i64 t, .int .i64 m] := hW0 ▸ Mem.ze wr [.string p, .int .i64 k0, .string d, .int .i64 t, .int .i64 m] 88
   have z2 : wr.heap.size < W0.heap.size := by omega
   have bw0 : Below w.heap.size w W0 := hbel.trans (bw1.mono hbel.size)
   have VW0 := hide (Mem.zf8 (za HVAR2) bw1)
   have MK : Hid (∀ W', Below W0.heap.size W0 W' → (Below W0.heap.size W0 W' ∧ W'.cell? ⟨wr.heap.size, 0, none⟩ = some (.string p) ∧ W'.cell? ⟨wr.heap.size, 1, none⟩ = some (.int .i64 k0) ∧ W'.cell? ⟨wr.heap.size, 2, none⟩ = some (.string d) ∧ W'.cell? ⟨wr.heap.size, 3, none⟩ = some (.int .i64 t) ∧ W'.cell? ⟨wr.heap.size, 4, none⟩ = some (.int .i64 m))) := fun W' hb' => ⟨hb', (hb'.cell (p := ⟨wr.heap.size, 0, none⟩) z2).trans (zn.2 0 _ rfl), (hb'.cell (p := ⟨wr.heap.size, 1, none⟩) z2).trans (zn.2 1 _ rfl), (hb'.cell (p := ⟨wr.heap.size, 2, none⟩) z2).trans (zn.2 2 _ rfl), (hb'.cell (p := ⟨wr.heap.size, 3, none⟩) z2).trans (zn.2 3 _ rfl), (hb'.cell (p := ⟨wr.heap.size, 4, none⟩) z2).trans (zn.2 4 _ rfl)⟩
   have a1 : ¬ 9223372036854775807 < B.size + P1.size := by omega
   have a2 : ¬ 9223372036854775807 < B.size + P1.size + K1.size := by omega
   have a3 : ¬ 9223372036854775807 < B.size + P1.size + K1.size + D1.size := by omega
   have a4 : ¬ 9223372036854775807 < B.size + P1.size + K1.size + D1.size + T1.size := by omega
   have a5 : ¬ 9223372036854775807 < B.size + P1.size + K1.size + D1.size + T1.size + M1.size := by omega
   clear hW0 q0 q1 q2 q3 q4 cv hn hnb hnk
   refine wp_region_held_drew (S := fun W' => Below W0.heap.size W0 W' ∧ W'.cell? ⟨wr.heap.size, 0, none⟩ = some (.string p) ∧ W'.cell? ⟨wr.heap.size, 1, none⟩ = some (.int .i64 k0) ∧ W'.cell? ⟨wr.heap.size, 2, none⟩ = some (.string d) ∧ W'.cell? ⟨wr.heap.size, 3, none⟩ = some (.int .i64 t) ∧ W'.cell? ⟨wr.heap.size, 4, none⟩ = some (.int .i64 m)) (by kernel_rfl) ?_ (fun hHeld => ?_)
   ·exact za MK _ ((Below.refl _ _).trans ⟨rfl, rfl, rfl, Nat.le_refl _, fun _ _ => rfl⟩)
   refine tka (i := 0) rfl ?_
   try simp only [Act.put, kBs]
   refine tka (i := 1) rfl ?_
   try simp only [Act.put, kBs]
   refine tka (i := 2) rfl ?_
   try simp only [Act.put, kBs]
   refine tka (i := 5) rfl ?_
   try simp only [Act.put, kBs]
   refine tka (i := 6) rfl ?_
   try simp only [Act.put, kBs]
   refine tka (i := 9) rfl ?_
   try simp only [Act.put, kBs]
   refine tka (i := 10) rfl ?_
   try simp only [Act.put, kBs]
   refine tka (i := 13) rfl ?_
   try simp only [Act.put, kBs]
   refine tka (i := 14) rfl ?_
   try simp only [Act.put, kBs]
   refine tka (i := 17) rfl ?_
   try simp only [Act.put, kBs]
   refine tka (i := 18) rfl ?_
   try simp only [Act.put, kBs]
   refine wpAnyH_ready (rs := [3]) (by kernel_rfl) (by simp) ?_
   refine AllReadyH.cons rfl (fun K hK => ?_) AllReadyH.nil
   go_simp
   refine (za cp _).mono ?_
   rintro e wX ⟨rfl, bX⟩
   refine hK.out _ _ ?_ (fun hHeld => ?_)
   ·exact za MK _ (hHeld.1.trans (bX.mono hHeld.1.size))
   clear hK K
   try simp only [Act.put, kBs]
   refine tka (i := 4) rfl ?_
   try simp only [Act.put, kBs]
   refine wpAnyH_ready (rs := [7]) (by kernel_rfl) (by simp) ?_
   refine AllReadyH.cons rfl (fun K hK => ?_) AllReadyH.nil
   go_simp
   refine (za ck _).mono ?_
   rintro e wX ⟨rfl, bX⟩
   refine hK.out _ _ ?_ (fun hHeld => ?_)
   ·exact za MK _ (hHeld.1.trans (bX.mono hHeld.1.size))
   clear hK K
   try simp only [Act.put, kBs]
   refine tka (i := 8) rfl ?_
   try simp only [Act.put, kBs]
   refine wpAnyH_ready (rs := [11]) (by kernel_rfl) (by simp) ?_
   refine AllReadyH.cons rfl (fun K hK => ?_) AllReadyH.nil
   go_simp
   refine (za cd _).mono ?_
   rintro e wX ⟨rfl, bX⟩
   refine hK.out _ _ ?_ (fun hHeld => ?_)
   ·exact za MK _ (hHeld.1.trans (bX.mono hHeld.1.size))
   clear hK K
   try simp only [Act.put, kBs]
   refine tka (i := 12) rfl ?_
   try simp only [Act.put, kBs]
   refine wpAnyH_ready (rs := [15]) (by kernel_rfl) (by simp) ?_
   refine AllReadyH.cons rfl (fun K hK => ?_) AllReadyH.nil
   go_simp
   refine (za ct _).mono ?_
   rintro e wX ⟨rfl, bX⟩
   refine hK.out _ _ ?_ (fun hHeld => ?_)
   ·exact za MK _ (hHeld.1.trans (bX.mono hHeld.1.size))
   clear hK K
   try simp only [Act.put, kBs]
   refine tka (i := 16) rfl ?_
   try simp only [Act.put, kBs]
   refine wpAnyH_ready (rs := [19]) (by kernel_rfl) (by simp) ?_
   refine AllReadyH.cons rfl (fun K hK => ?_) AllReadyH.nil
   go_simp
   refine (za cm _).mono ?_
   rintro e wX ⟨rfl, bX⟩
   refine hK.out _ _ ?_ (fun hHeld => ?_)
   ·exact za MK _ (hHeld.1.trans (bX.mono hHeld.1.size))
   clear hK K
   try simp only [Act.put, kBs]
   refine tka (i := 20) rfl ?_
   try simp only [Act.put, kBs]
   refine tka (i := 21) rfl ?_
   try simp only [Act.put, kBs]
   refine wpAnyH_done (by kernel_rfl) ?_ _
   have bfin := hide (bw0.trans (hHeld.1.mono bw0.size))
   have HV3 := hide (Mem.zf8 (za VW0) hHeld.1)
   have HBE2 := hide (show B ++ P1 ++ K1 ++ D1 ++ T1 ++ M1 = Pl.upTo L (k + 1) by rw [za HST, za HBE])
   have hz5 : (B ++ P1 ++ K1 ++ D1 ++ T1 ++ M1).size ≤ 11 + (k + 1) * 400 := by simp only [ByteArray.size_append]; omega
   clear hHeld MK a1 a2 a3 a4 a5
   go_wp2
   go_roundw
   case rel => exact ⟨k + 1, _, by omega, by go_num, rfl, hz5, za bfin, HV3, HBE2⟩
   case measure => simp [intOf]; omega
  ·obtain rfl : k = L.length := by omega
   have E := hide ((za HBE).trans (Pl.upTo_end L))
   go_wp2
   go_ret
   exact ⟨zd3 (za E), hbel⟩
end zo6
end Go.Proofs.YtioildojmckepaaGreatDoor

