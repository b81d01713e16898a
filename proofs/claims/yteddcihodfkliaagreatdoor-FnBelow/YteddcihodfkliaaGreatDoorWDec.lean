/- The walk of the specification's l01Dec (the digits of a small number): only how long it is. -/
import Derived.Test.YteddcihodfkliaaGreatDoorPartA
import Derived.Test.YteddcihodfkliaaGreatDoorProg
import Derived.WalkSpells
import Derived.RegionTactic
namespace Go.Proofs.YteddcihodfkliaaGreatDoor
open Go.RowKit
namespace WDec
set_option maxRecDepth 100000 in
set_option maxHeartbeats 400000 in
theorem dec_any (K : Nat) (w : World) (h0 : 0 < K) (hK : K ≤ 1000000) :
    Calls Tryz.prog 85 #[.int .i64 (K : Int)] w fun e w' => ∃ t : ByteArray, t.size ≤ K ∧ e = .returned (.string t) ∧ Below w.heap.size w w' := by
  have p1 : ¬ (K : Int) = 0 := by omega
  have p3 : ¬ (K : Int) < 0 := by omega
  go_enter Tryz.func85, Tryz.ntmps85
  go_wp2
  go_loopw [0, 4] (fun a o wr => ∃ (k : Nat) (out : List UInt8), out.length + k ≤ K ∧ a = .int .i64 (k : Int) ∧ o = .string ⟨out.toArray⟩ ∧ Below w.heap.size w wr) (fun a _ _ => (intOf a).toNat)
  case atStart => exact ⟨K, [], by simp, rfl, rfl, Below.refl _ _⟩
  case round =>
    obtain ⟨k, out, hk, rfl, rfl, hbel⟩ := hrel
    have hsz := hbel.size
    have ho : ¬ 9223372036854775807 < 1 + out.length := by omega
    by_cases hk0 : 0 < k
    · have p2 : ¬ (k : Int) = 0 := by omega
      have p4 : ¬ (k : Int) % 10 < 0 := by omega
      have p5 : ¬ (k : Int).tmod 10 < 0 := by have := Int.tmod_nonneg 10 (show (0 : Int) ≤ (k : Int) by omega); omega
      have hb : ((UInt8.ofNat (48 + k % 10)).toNat : Int) = 48 + (k : Int) % 10 := by
        rw [UInt8.toNat_ofNat_of_lt' (by show 48 + k % 10 < 256; omega)]; omega
      have hcv := Mem.row_text (P := Tryz.prog) (w := wr.alloc (.cells #[.int .u8 (48 + (k : Int) % 10)] 5)) (n := 1) (cap := 1) Tryz.underlying22 Tryz.underlying5 Tryz.underlying9 [UInt8.ofNat (48 + k % 10)] rfl (heap_alloc_new wr _) (by simp only [List.map_cons, List.map_nil, Pl.byteVal, hb]; rfl)
      have HX : Hid ((⟨[UInt8.ofNat (48 + k % 10)].toArray⟩ : ByteArray) ++ (⟨out.toArray⟩ : ByteArray) = ⟨(UInt8.ofNat (48 + k % 10) :: out).toArray⟩) := by
        show _ = _
        rw [Pl.put_behind]; rfl
      have hbel2 := hbel.alloc hsz (.cells #[.int .u8 (48 + (k : Int) % 10)] 5)
      generalize UInt8.ofNat (48 + k % 10) = b at hcv HX
      clear hb
      go_wp2
      go_roundw
      case rel => exact ⟨k / 10, b :: out, by simp; omega, by go_num, congrArg Value.string HX.out, hbel2⟩
      case measure => simp [intOf]; omega
    · obtain rfl : k = 0 := by omega
      go_wp2
      go_ret
      exact ⟨_, by show out.toArray.size ≤ K; simp; omega, rfl, hbel⟩
end WDec
end Go.Proofs.YteddcihodfkliaaGreatDoor
