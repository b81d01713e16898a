/- The walks of the laws' own small functions over lists of texts: are they the same, marks laid, marks still there. -/
import Derived.Test.YtgdfadibdioedaaDoorG05
import Derived.Test.YtgdfadibdioedaaDoorPlainR
import Derived.Test.YtgdfadibdioedaaDoorProg
import Derived.WalkSpells
import Derived.Deep.QuietTactic
import Derived.BigQuiet
import Derived.Deep.RegionHeld3
namespace Go.Proofs.YtgdfadibdioedaaDoor
open Go.RowKit
namespace Pl
/-- The digits of a number ahead of what is there; f: no fewer than the number. -/
def decF : Nat → Nat → List UInt8 → List UInt8
  | 0, _, out => out
  | f + 1, k, out => if k = 0 then out else decF f (k / 10) (UInt8.ofNat (48 + k % 10) :: out)
theorem decF_zero (f : Nat) (out : List UInt8) : decF f 0 out = out := by cases f <;> simp [decF]
theorem decF_step {f k : Nat} (h : 0 < k) (out : List UInt8) : decF (f + 1) k out = decF f (k / 10) (UInt8.ofNat (48 + k % 10) :: out) := by
  rw [decF, if_neg (by omega)]
/-- The mark of a number. -/
def mark (k : Nat) : ByteArray := ⟨(109 :: decF k k []).toArray⟩
/-- n marks, from k on. -/
def marks (k : Nat) : Nat → List ByteArray
  | 0 => []
  | n + 1 => marks k n ++ [mark (k + n)]
theorem marks_length (k n : Nat) : (marks k n).length = n := by
  induction n with
  | zero => rfl
  | succ n ih => rw [marks, List.length_append, ih]; rfl
theorem marks_get (k : Nat) : ∀ n j, j < n → (marks k n)[j]? = some (mark (k + j)) := by
  intro n
  induction n with
  | zero => intro j h; omega
  | succ n ih =>
    intro j h
    rw [marks]
    by_cases hj : j < n
    · rw [List.getElem?_append_left (by rw [marks_length]; exact hj)]; exact ih j hj
    · obtain rfl : j = n := by omega
      rw [List.getElem?_append_right (by rw [marks_length]; exact Nat.le_refl _), marks_length, Nat.sub_self]; rfl
end Pl
namespace WMarks
set_option maxRecDepth 100000 in
set_option maxHeartbeats 400000 in
theorem mark_any (K : Nat) (w : World) (h0 : 0 < K) (hK : K ≤ 100000000) :
    Calls Tryd.prog 9 #[.int .i64 (K : Int)] w fun e w' => e = .returned (.string (Pl.mark K)) ∧ Below w.heap.size w w' := by
  have p1 : ¬ (K : Int) ≤ 0 := by omega
  go_enter Tryd.func9, Tryd.ntmps9
  go_wp2
  go_loopw [0, 3] (fun a o wr => ∃ (f k : Nat) (out : List UInt8), k ≤ f ∧ out.length + k ≤ K ∧ a = .int .i64 (k : Int) ∧ o = .string ⟨out.toArray⟩ ∧ Below w.heap.size w wr ∧ Hid (Pl.decF f k out = Pl.decF K K [])) (fun a _ _ => (intOf a).toNat)
  case atStart => exact ⟨K, K, [], Nat.le_refl _, by simp, rfl, rfl, Below.refl _ _, rfl⟩
  case round =>
    obtain ⟨f, k, out, hf, hk, rfl, rfl, hbel, HD⟩ := hrel
    have hsz := hbel.size
    have ho : ¬ 9223372036854775807 < 1 + out.length := by omega
    by_cases hk0 : 0 < k
    · obtain ⟨f, rfl⟩ : ∃ g, f = g + 1 := ⟨f - 1, by omega⟩
      have HD2 : Hid (Pl.decF f (k / 10) (UInt8.ofNat (48 + k % 10) :: out) = Pl.decF K K []) := (Pl.decF_step hk0 out).symm.trans HD.out
      have p2 : (0 : Int) < (k : Int) := by omega
      clear HD
      have hb : ((UInt8.ofNat (48 + k % 10)).toNat : Int) = 48 + (k : Int) % 10 := by
        rw [UInt8.toNat_ofNat_of_lt' (by show 48 + k % 10 < 256; omega)]; omega
      have hcv := Mem.row_text (P := Tryd.prog) (w := wr.alloc (.cells #[.int .u8 (48 + (k : Int) % 10)] 5)) (n := 1) (cap := 1) Tryd.underlying29 Tryd.underlying5 Tryd.underlying9 [UInt8.ofNat (48 + k % 10)] rfl (heap_alloc_new wr _) (by simp only [List.map_cons, List.map_nil, Pl.byteVal, hb]; rfl)
      have HX : Hid ((⟨[UInt8.ofNat (48 + k % 10)].toArray⟩ : ByteArray) ++ (⟨out.toArray⟩ : ByteArray) = ⟨(UInt8.ofNat (48 + k % 10) :: out).toArray⟩) := by
        show _ = _
        rw [Pl.put_behind]; rfl
      have hbel2 := hbel.alloc hsz (.cells #[.int .u8 (48 + (k : Int) % 10)] 5)
      generalize UInt8.ofNat (48 + k % 10) = b at hcv HX HD2
      clear hb
      go_wp2
      go_roundw
      case rel => exact ⟨f, k / 10, b :: out, by omega, by simp; omega, by go_num, congrArg Value.string HX.out, hbel2, HD2⟩
      case measure => simp [intOf]; omega
    · have HD2 : Hid (out = Pl.decF K K []) := by
        obtain rfl : k = 0 := by omega
        exact (Pl.decF_zero f out).symm.trans HD.out
      have p2 : ¬ (0 : Int) < (k : Int) := by omega
      have HX : Hid ((⟨#[109]⟩ : ByteArray) ++ (⟨out.toArray⟩ : ByteArray) = Pl.mark K) := by
        show _ = _
        rw [Pl.mark, ← HD2.out]
        exact Pl.put_behind [109] ⟨out.toArray⟩
      clear HD
      go_wp2
      go_ret
      exact ⟨congrArg (fun x => Ending.returned (.string x)) HX.out, hbel⟩

set_option maxRecDepth 100000 in
set_option maxHeartbeats 400000 in
/-- Two lists of the same texts are the same. -/
theorem eq_any (v u : Value) (A : List ByteArray) (w : World) (hA : A.length ≤ 1000) (hv : Mem.isTexts w v A) (hu : Mem.isTexts w u A) :
    Calls Tryd.prog 6 #[v, u] w fun e w' => e = .returned (.bool true) ∧ Below w.heap.size w w' := by
  obtain ⟨va, vc, rfl⟩ := Mem.texts_shape hv
  obtain ⟨ua, uc, rfl⟩ := Mem.texts_shape hu
  have HCA : Hid (∀ (k : Nat) x, A[k]? = some x → ∃ b o, va = some ⟨b, o, none⟩ ∧ b < w.heap.size ∧ w.cell? ⟨b, o + k, none⟩ = some (.string x)) := fun k x hx => by
    rcases hv with ⟨_, rfl⟩ | ⟨b, o, cap, h1, h2, h3⟩
    · simp at hx
    · cases h1; exact ⟨b, o, rfl, h2, h3 k x hx⟩
  have HCB : Hid (∀ (k : Nat) x, A[k]? = some x → ∃ b o, ua = some ⟨b, o, none⟩ ∧ b < w.heap.size ∧ w.cell? ⟨b, o + k, none⟩ = some (.string x)) := fun k x hx => by
    rcases hu with ⟨_, rfl⟩ | ⟨b, o, cap, h1, h2, h3⟩
    · simp at hx
    · cases h1; exact ⟨b, o, rfl, h2, h3 k x hx⟩
  clear hv hu
  go_enter Tryd.func6, Tryd.ntmps6
  go_wp2
  go_loopw [5] (fun i wr => ∃ k : Nat, k ≤ A.length ∧ i = .int .i64 (k : Int) ∧ Below w.heap.size w wr) (fun i _ => A.length - (intOf i).toNat)
  case atStart => exact ⟨0, Nat.zero_le _, rfl, Below.refl _ _⟩
  case round =>
    obtain ⟨k, hk, rfl, hbel⟩ := hrel
    by_cases hlt : k < A.length
    · obtain ⟨x, hx⟩ : ∃ x, A[k]? = some x := ⟨_, List.getElem?_eq_getElem (by omega)⟩
      obtain ⟨b, o, rfl, hb, hcb⟩ := HCB.out k x hx
      obtain ⟨b', o', rfl, hb', hca⟩ := HCA.out k x hx
      have hc1 : wr.cell? ⟨b, o + k, none⟩ = some (.string x) := (hbel.cell (p := ⟨b, o + k, none⟩) hb).trans hcb
      have hc2 : wr.cell? ⟨b', o' + k, none⟩ = some (.string x) := (hbel.cell (p := ⟨b', o' + k, none⟩) hb').trans hca
      have u1 : (k : Int) < (A.length : Int) := by omega
      have u3 : (0 : Int) ≤ (k : Int) := by omega
      clear hcb hca hx HCA HCB
      go_wp2
      go_quiet (fail)
      go_wp2
      go_roundw
      case rel => exact ⟨k + 1, by omega, by go_num, Mem.below_drewN hbel _⟩
      case measure => simp [intOf]; omega
    · go_wp2
      go_ret
      exact ⟨rfl, hbel⟩

set_option maxRecDepth 100000 in
set_option maxHeartbeats 400000 in
/-- Marks laid into a row of the call's own. -/
theorem lay_any (B g n cap K : Nat) (xs : List Value) (w : World) (hn : n ≤ 1000) (hK : 0 < K) (hK2 : K ≤ 1000) (hown : w.ownsRow B 9 1 (.slice (some ⟨g, 0, none⟩) n cap) n xs) :
    Calls Tryd.prog 7 #[.slice (some ⟨g, 0, none⟩) n cap, .int .i64 (K : Int)] w fun e w' => e = .returned (.int .i64 ((K + n : Nat) : Int)) ∧
      w'.ownsRow B 9 1 (.slice (some ⟨g, 0, none⟩) n cap) n ((Pl.marks K n).map Value.string) ∧ w.grownBy w' (some g) := by
  have hlt0 := hown.lt g rfl
  go_enter Tryd.func7, Tryd.ntmps7
  go_wp2
  go_loopw [1, 5] (fun a i wr => ∃ (k : Nat) (ys : List Value), k ≤ n ∧ i = .int .i64 (k : Int) ∧ a = .int .i64 ((K + k : Nat) : Int) ∧ wr.ownsRow B 9 1 (.slice (some ⟨g, 0, none⟩) n cap) n ys ∧ w.grownBy wr (some g) ∧
      Hid (ys.take k = (Pl.marks K k).map Value.string)) (fun _ i _ => n - (intOf i).toNat)
  case atStart => exact ⟨0, xs, Nat.zero_le _, rfl, rfl, hown, ⟨rfl, rfl, rfl, Nat.le_refl _, fun _ _ _ => rfl⟩, rfl⟩
  case round =>
    obtain ⟨k, ys, hk, rfl, rfl, hown1, hgr, HX⟩ := hrel
    have hsz := hgr.size
    have hyl : ys.length = n := by have := hown1.1; omega
    by_cases hlt : k < n
    · have u1 : (k : Int) < (n : Int) := by omega
      have HM := hide (fun W => mark_any (K + k) W (by omega) (by omega))
      have HM2 : Hid ((Pl.marks K (k + 1)).map Value.string = (Pl.marks K k).map Value.string ++ [Value.string (Pl.mark (K + k))]) := by
        show _ = _
        rw [Pl.marks, List.map_append]; rfl
      generalize Pl.mark (K + k) = t at HM HM2
      go_wp2_with fail
      refine (unhide HM _).mono ?_
      rintro e w2 ⟨rfl, hb2⟩
      have hown2 := Mem.own_call hown1 hb2
      obtain ⟨hown3, hgr3⟩ := hown2.stored k (.string t)
      have hce : w2.cell? ⟨g, k, none⟩ = some ys[k] := by
        rw [hown2.cellAt k (by omega), List.getElem?_eq_getElem (by omega)]
      have hfr := hown2.frozenAt k
      have hgr4 : w.grownBy (w2.setCell ⟨g, k, none⟩ (.string t)) (some g) :=
        ⟨hgr3.os.trans (hb2.os.trans hgr.os), hgr3.tape.trans (hb2.tape.trans hgr.tape), hgr3.output.trans (hb2.output.trans hgr.output), Nat.le_trans hsz (Nat.le_trans hb2.size hgr3.size),
          fun j hj hne => (hgr3.block j (by have := hb2.size; omega) hne).trans ((hb2.block j (by omega)).trans (hgr.block j hj hne))⟩
      have H3 : Hid ((ys.set k (.string t)).take (k + 1) = (Pl.marks K (k + 1)).map Value.string) := by
        show _ = _
        rw [unhide HM2, ← HX.out, List.take_add_one, List.take_set_of_le (by omega), List.getElem?_set_self (by omega)]; rfl
      have HO3 := hide hown3
      have HG4 := hide hgr4
      clear hown1 hown2 hb2 hgr hgr3 HX hown3 hgr4 HM HM2
      go_wp2
      go_roundw
      case rel => exact ⟨k + 1, _, by omega, by go_num, by go_num, unhide HO3, unhide HG4, H3⟩
      case measure => simp [intOf]; omega
    · obtain rfl : k = n := by omega
      have H2 : Hid (ys = (Pl.marks K k).map Value.string) := by
        show _ = _
        have h1 := HX.out
        rwa [List.take_of_length_le (by omega)] at h1
      have HO := hide hown1
      have HG := hide hgr
      clear hown1 hgr
      go_wp2
      go_ret
      exact ⟨rfl, by rw [← unhide H2]; exact unhide HO, unhide HG⟩

set_option maxRecDepth 100000 in
set_option maxHeartbeats 400000 in
/-- Marks that are still there. -/
theorem held_any (v : Value) (n K : Nat) (w : World) (hn : n ≤ 1000) (hK : 0 < K) (hK2 : K ≤ 1000) (hv : Mem.isTexts w v (Pl.marks K n)) :
    Calls Tryd.prog 8 #[v, .int .i64 (K : Int)] w fun e w' => e = .returned (.int .i64 ((K + n : Nat) : Int)) ∧ Below w.heap.size w w' := by
  have hsh := Mem.texts_shape hv
  rw [Pl.marks_length] at hsh
  obtain ⟨va, vc, rfl⟩ := hsh
  have HCA : Hid (∀ (k : Nat), k < n → ∃ b o, va = some ⟨b, o, none⟩ ∧ b < w.heap.size ∧ w.cell? ⟨b, o + k, none⟩ = some (.string (Pl.mark (K + k)))) := fun k hk => by
    have hx := Pl.marks_get K n k hk
    rcases hv with ⟨_, h0⟩ | ⟨b, o, cap, h1, h2, h3⟩
    · rw [h0] at hx; simp at hx
    · rw [Pl.marks_length] at h1; cases h1; exact ⟨b, o, rfl, h2, h3 k _ hx⟩
  clear hv
  go_enter Tryd.func8, Tryd.ntmps8
  go_wp2
  go_loopw [1, 5] (fun a i wr => ∃ (k : Nat), k ≤ n ∧ i = .int .i64 (k : Int) ∧ a = .int .i64 ((K + k : Nat) : Int) ∧ Below w.heap.size w wr) (fun _ i _ => n - (intOf i).toNat)
  case atStart => exact ⟨0, Nat.zero_le _, rfl, rfl, Below.refl _ _⟩
  case round =>
    obtain ⟨k, hk, rfl, rfl, hbel⟩ := hrel
    have hsz := hbel.size
    by_cases hlt : k < n
    · have u1 : (k : Int) < (n : Int) := by omega
      have u3 : (0 : Int) ≤ (k : Int) := by omega
      have HM := hide (fun W => mark_any (K + k) W (by omega) (by omega))
      obtain ⟨b, o, rfl, hb, hca⟩ := HCA.out k hlt
      have hc : wr.cell? ⟨b, o + k, none⟩ = some (.string (Pl.mark (K + k))) := (hbel.cell (p := ⟨b, o + k, none⟩) hb).trans hca
      have hbr : b < wr.heap.size := by omega
      generalize Pl.mark (K + k) = t at HM hc hca
      clear hca HCA
      go_wp2
      go_region_held3 (fun w' => w'.cell? ⟨b, o + k, none⟩ = some (.string t)) (first | (go_keep; done) | exact (b2.cell (p := ⟨b, o + k, none⟩) (by simpa using hbr)).trans (by simpa using hc)) ((go_at_call 9; refine (unhide HM _).mono ?_; rintro e w' ⟨rfl, b2⟩))
      have hbel2 : Below w.heap.size w w' := hbel.drew.trans (b2.mono hsz)
      clear b2 hbel HM
      go_wp2
      go_roundw
      case rel => exact ⟨k + 1, by omega, by go_num, by go_num, hbel2⟩
      case measure => simp [intOf]; omega
    · obtain rfl : k = n := by omega
      go_wp2
      go_ret
      exact ⟨rfl, hbel⟩
end WMarks
end Go.Proofs.YtgdfadibdioedaaDoor
