/- The walk of the law FnNums, over the walks of the functions and of the draws. -/
import Derived.Test.YtopipjfomnnjcaaDoorWDrawT
import Derived.Test.YtopipjfomnnjcaaDoorWGetIb
import Derived.Test.YtopipjfomnnjcaaDoorWTextIb
import Derived.Test.YtopipjfomnnjcaaDoorPlainFwd
import Derived.Test.YtopipjfomnnjcaaDoorPlainR
namespace Go.Proofs.YtopipjfomnnjcaaDoor
open Go.RowKit
namespace fnNums
theorem row_below {w w' : World} {a : Option Addr} {len cap : Nat} (h : WSrc.RowB w w.heap.size a len cap) (b : Below w.heap.size w w') : WSrc.RowB w' w'.heap.size a len cap :=
  ⟨h.1, h.2.1, fun i hi => by
    obtain ⟨g, o, n, h1, h2, h3, h4⟩ := h.2.2 i hi
    exact ⟨g, o, n, h1, Nat.lt_of_lt_of_le h2 b.size, h3, (b.cell (p := ⟨g, o + i, none⟩) h2).trans h4⟩⟩
theorem by_app (a b : ByteArray) : Pl.by_ (a ++ b) = Pl.by_ a ++ Pl.by_ b := by simp [Pl.by_]
set_option linter.unusedSimpArgs false in
set_option maxRecDepth 100000 in
set_option maxHeartbeats 2000000 in
theorem walk (a0 : Option Addr) (len0 cap0 : Nat) (a1 : Option Addr) (len1 cap1 : Nat) (w : World) (w0 : WSrc.RowB w w.heap.size a0 len0 cap0) (w1 : WSrc.RowB w w.heap.size a1 len1 cap1)
    (hg : w.cell? ⟨0, 0, none⟩ = some (.iface 74 (.agg #[.pointer (some ⟨1, 42, none⟩)]))) :
    Calls Tryd.prog 3 #[.slice a0 len0 cap0, .slice a1 len1 cap1] w fun e w' => e = .returned (.bool true) ∧ Below w.heap.size w w' := by
  by_cases hL0 : (1048576 : Int) < (len0 : Int)
  · clear w0 w1 hg
    go_enter Tryd.func3, Tryd.ntmps3
    go_wp2
    go_ret
    exact ⟨rfl, Below.refl _ _⟩
  by_cases hL1 : (1048576 : Int) < (len1 : Int)
  · clear w0 w1 hg
    go_enter Tryd.func3, Tryd.ntmps3
    go_wp2
    go_ret
    exact ⟨rfl, Below.refl _ _⟩
  have hf1 : ∀ W : World, (Instr.field 26 (.agg #[.int .i64 0, .int .i64 0, .int .i64 4]) 2).run Tryd.prog W = .ok (.int .i64 4) W := fun _ => by kernel_rfl
  have hf2 : ∀ (y1 : ByteArray) (y2 : Int) (W : World), (Instr.field 31 (.agg #[.string y1, .int .i64 y2, .int .i64 4]) 2).run Tryd.prog W = .ok (.int .i64 4) W := fun _ _ _ => by kernel_rfl
  have hlt0 : 0 < w.heap.size := World.block_lt_of_cell? w ⟨0, 0, none⟩ hg
  have HG := hide (fun W (b : Below w.heap.size w W) => (b.cell (p := ⟨0, 0, none⟩) hlt0).trans hg)
  have hd1 := hide (WSrc.drawPutNum_any a0 len0 cap0 w w0)
  have hd2 := hide (fun W (b : Below w.heap.size w W) => WSrc.drawPutText_any a1 len1 cap1 W (row_below w1 b))
  clear w0 w1 hg
  go_enter Tryd.func3, Tryd.ntmps3
  go_wp2_with fail
  refine (unhide hd1).mono ?_
  rintro e v1 ⟨n, rfl, hn1, hn2, b1⟩
  clear hd1
  obtain ⟨hT1, hT2⟩ := Pl.num_len hn1 hn2
  have hpI := hide (fun W => WNum.implPut n W hn1 hn2)
  have hpS := hide (fun W => WNum.specPut n W hn1 hn2)
  obtain ⟨T, hT⟩ : ∃ T : ByteArray, T = ⟨(Pl.enc (Pl.fold n)).toArray⟩ := ⟨_, rfl⟩
  have hTb : Pl.by_ T = Pl.enc (Pl.fold n) := by rw [hT]; exact Pl.by_mk _
  have hTs : T.size = (Pl.enc (Pl.fold n)).length := by rw [← Pl.by_length, hTb]
  rw [← hT] at hpI hpS
  have t1 : ¬ (T.size : Int) < 1 := by omega
  have t2 : ¬ (10 : Int) < (T.size : Int) := by omega
  obtain ⟨X, hX⟩ : ∃ X : ByteArray, X = (⟨#[120, 121]⟩ : ByteArray) ++ T ++ (⟨#[122]⟩ : ByteArray) := ⟨_, rfl⟩
  have hXb : Pl.by_ X = [120, 121] ++ Pl.enc (Pl.fold n) ++ [122] := by rw [hX, by_app, by_app, hTb]; rfl
  have hXs : X.size = T.size + 3 := by rw [← Pl.by_length, hXb, hTs]; simp
  have hXg : Pl.getNum X 2 = (n, ((2 + T.size : Nat) : Int), 0) := by
    rw [hTs]
    exact Pl.getNum_fwd (p := 2) (r := [122]) (by omega) hn1 hn2 (by rw [hXb]; simp)
  obtain ⟨Y, hY⟩ : ∃ Y : ByteArray, Y = T.extract 0 (T.size - 1) := ⟨_, rfl⟩
  have hYb : Pl.by_ Y = (Pl.enc (Pl.fold n)).dropLast := by rw [hY, Pl.by_extract, hTb, List.drop_zero, Nat.sub_zero, List.dropLast_eq_take, hTs]
  have hYs : Y.size ≤ 8000 := by rw [← Pl.by_length, hYb, List.length_dropLast]; omega
  have hYg : Pl.getNum Y 0 = (0, 0, 4) := Pl.getNum_cut hYs hn1 hn2 hYb
  have hcX := hide (fun W (b : Below w.heap.size w W) => by
    have h := WGet.impl_any X 2 W (by unfold maxLen; omega) (by omega) (unhide HG W b)
    rw [hXg] at h; exact h)
  have hcY := hide (fun W (b : Below w.heap.size w W) => by
    have h := WGet.impl_any Y 0 W (by unfold maxLen; omega) (by omega) (unhide HG W b)
    rw [hYg] at h; exact h)
  simp only [WGetS.num] at hcX hcY
  have HX := hide hX
  have HY := hide hY
  clear hT hTb hTs hX hXb hXg hY hYb hYg hT1 hT2
  go_wp2_with fail
  refine (unhide hpI _).mono ?_
  rintro e v2 ⟨rfl, b2⟩
  have bw2 := b1.trans (b2.mono b1.size)
  clear hpI b1 b2
  go_wp2_with fail
  refine (unhide hpS _).mono ?_
  rintro e v3 ⟨rfl, b3⟩
  have bw3 := bw2.trans (b3.mono bw2.size)
  clear hpS bw2 b3
  go_wp2_with fail
  rw [← unhide HX]
  refine (unhide hcX _ bw3).mono ?_
  rintro e v4 ⟨rfl, b4⟩
  have bw4 := bw3.trans (b4.mono bw3.size)
  have bA := bw4.alloc bw4.size (.cells #[.int .i64 n, .int .i64 ((2 + T.size : Nat) : Int), .int .i64 0] 26)
  have hcY2 := hide (unhide hcY _ bA)
  have t3 : ((2 + T.size : Nat) : Int) = (T.size : Int) + 2 := by omega
  rw [t3] at bA hcY2 ⊢
  have t4 : (0 : Int) ≤ (T.size : Int) - 1 := by omega
  have t5 : (T.size : Int) - 1 ≤ (T.size : Int) := by omega
  have t6 : ((T.size : Int) - 1).toNat = T.size - 1 := by omega
  clear hcX bw3 b4 bw4 hcY
  go_wp2_with fail
  rw [← unhide HY]
  refine (unhide hcY2).mono ?_
  rintro e v5 ⟨rfl, b5⟩
  have bw5 := bA.trans (b5.mono bA.size)
  clear hcY2 bA b5 HX HY t3 t4 t5 t6 hXs hYs
  go_wp2_with fail
  refine (unhide hd2 _ bw5).mono ?_
  rintro e v6 ⟨u, hu, rfl, b6⟩
  have bw6 := bw5.trans (b6.mono bw5.size)
  clear hd2 bw5 b6
  have hqI := hide (fun W => WText.impl_any u W (by unfold maxLen; omega))
  have hqS := hide (fun W => WText.spec_any u W (by unfold maxLen; omega))
  by_cases hlong : 8000 < u.size
  · rw [WText.put_long hlong] at hqI hqS
    clear HG
    go_wp2_with fail
    refine (unhide hqI _).mono ?_
    rintro e v7 ⟨rfl, b7⟩
    have bw7 := bw6.trans (b7.mono bw6.size)
    go_wp2_with fail
    refine (unhide hqS _).mono ?_
    rintro e v8 ⟨rfl, b8⟩
    have bw8 := bw7.trans (b8.mono bw7.size)
    clear hqI bw6 b7 bw7 b8
    go_wp2_with fail
    refine (unhide hqS _).mono ?_
    rintro e v9 ⟨rfl, b9⟩
    have bw9 := bw8.trans (b9.mono bw8.size)
    clear hqS bw8 b9
    go_wp2
    go_ret
    exact ⟨rfl, bw9⟩
  have hPb : Pl.by_ (WText.put u) = Pl.enc (Pl.fold (u.size : Int)) ++ Pl.by_ u := by rw [WText.put_short hlong, Pl.by_mk]; rfl
  have hel := (Pl.num_len (n := (u.size : Int)) (by omega) (by omega))
  have hPs : (WText.put u).size = (Pl.enc (Pl.fold (u.size : Int))).length + u.size := by rw [← Pl.by_length, hPb, List.length_append, Pl.by_length]
  generalize WText.put u = P at hqI hqS hPb hPs
  have hPe : P.toList.isEmpty = false := by rw [Pl.empty_list]; exact decide_eq_false (fun h => by rw [Pl.by_nil] at h; omega)
  by_cases h8 : (8000 : Int) < (P.size : Int) + 1
  · clear HG hPb
    go_wp2_with fail
    refine (unhide hqI _).mono ?_
    rintro e v7 ⟨rfl, b7⟩
    have bw7 := bw6.trans (b7.mono bw6.size)
    go_wp2_with fail
    refine (unhide hqS _).mono ?_
    rintro e v8 ⟨rfl, b8⟩
    have bw8 := bw7.trans (b8.mono bw7.size)
    clear hqI bw6 b7 bw7 b8 hqS
    go_wp2
    go_ret
    exact ⟨rfl, bw8⟩
  obtain ⟨X, hX⟩ : ∃ X : ByteArray, X = (⟨#[120]⟩ : ByteArray) ++ P := ⟨_, rfl⟩
  have hXb : Pl.by_ X = [120] ++ (Pl.enc (Pl.fold (u.size : Int)) ++ Pl.by_ u) := by rw [hX, by_app, hPb]; rfl
  have hXs : X.size = P.size + 1 := by rw [← Pl.by_length, hXb, hPs, List.length_append, List.length_append, Pl.by_length]; simp; omega
  have hXg : Pl.getText X 1 = (u, (P.size : Int) + 1, 0) := by
    have h := Pl.getText_fwd (s := X) (u := u) (p := 1) (by omega) (by omega) (by rw [hXb]; simp)
    rw [show (P.size : Int) + 1 = ((1 + (Pl.enc (Pl.fold (u.size : Int))).length + u.size : Nat) : Int) by omega]
    exact h
  obtain ⟨Y, hY⟩ : ∃ Y : ByteArray, Y = P.extract 0 (P.size - 1) := ⟨_, rfl⟩
  have hYb : Pl.by_ Y = (Pl.enc (Pl.fold (u.size : Int)) ++ Pl.by_ u).dropLast := by rw [hY, Pl.by_extract, hPb, List.drop_zero, Nat.sub_zero, List.dropLast_eq_take, List.length_append, Pl.by_length, hPs]
  have hYs : Y.size ≤ 8000 := by rw [← Pl.by_length, hYb, List.length_dropLast, List.length_append, Pl.by_length]; omega
  have hYg := Pl.getText_cut hYs (by omega) hYb
  obtain ⟨y1, y2, y3, hYe⟩ : ∃ y1 y2 y3, Pl.getText Y 0 = (y1, y2, y3) := ⟨_, _, _, rfl⟩
  rw [hYe] at hYg
  simp only at hYg
  subst hYg
  have hcX := hide (fun W (b : Below w.heap.size w W) => by
    have h := WTextI.impl_any X 1 W (by unfold maxLen; omega) (by omega) (unhide HG W b)
    rw [hXg] at h; exact h)
  have hcY := hide (fun W (b : Below w.heap.size w W) => by
    have h := WTextI.impl_any Y 0 W (by unfold maxLen; omega) (by omega) (unhide HG W b)
    rw [hYe] at h; exact h)
  simp only [WTextS.txt] at hcX hcY
  have HX := hide hX
  have HY := hide hY
  have t4 : (0 : Int) ≤ (P.size : Int) - 1 := by omega
  have t5 : (P.size : Int) - 1 ≤ (P.size : Int) := by omega
  have t6 : ((P.size : Int) - 1).toNat = P.size - 1 := by omega
  have t7 : 1 ≤ P.size := by omega
  clear hX hXb hXg hY hYb hYe hel hPb hPs HG
  go_wp2_with fail
  refine (unhide hqI _).mono ?_
  rintro e v7 ⟨rfl, b7⟩
  have bw7 := bw6.trans (b7.mono bw6.size)
  go_wp2_with fail
  refine (unhide hqS _).mono ?_
  rintro e v8 ⟨rfl, b8⟩
  have bw8 := bw7.trans (b8.mono bw7.size)
  clear hqI hqS bw6 b7 bw7 b8
  go_wp2_with fail
  rw [← unhide HX]
  refine (unhide hcX _ bw8).mono ?_
  rintro e v9 ⟨rfl, b9⟩
  have bw9 := bw8.trans (b9.mono bw8.size)
  clear hcX bw8 b9
  go_wp2_with fail
  rw [← unhide HY]
  refine (unhide hcY _ bw9).mono ?_
  rintro e v10 ⟨rfl, b10⟩
  have bw10 := bw9.trans (b10.mono bw9.size)
  clear hcY bw9 b10 HX HY
  go_wp2
  go_ret
  exact ⟨rfl, bw10⟩
end fnNums
end Go.Proofs.YtopipjfomnnjcaaDoor
