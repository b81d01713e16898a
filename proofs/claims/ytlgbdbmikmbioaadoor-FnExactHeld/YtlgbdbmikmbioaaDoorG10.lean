/- Several texts of one claim in one file: WLawTo, WLawTn. -/
import Derived.Test.YtlgbdbmikmbioaaDoorG09
import Derived.Test.YtlgbdbmikmbioaaDoorWLawJ
/- The walks of the laws' own toMount, toMountS, toHandle, toHandleS (by genTo3.py). -/
namespace Go.Proofs.YtlgbdbmikmbioaaDoor
open Go.RowKit
namespace WLawSp
open WLaw
set_option linter.unusedSimpArgs false in
set_option maxRecDepth 100000 in
set_option maxHeartbeats 800000 in
theorem toMount_any (x : Pl.Mn) (w : World) :
    Calls Tryd.prog 37 #[.agg #[.string x.p, .int .i64 x.i, .bool x.z]] w fun e w' => e = .returned (.agg #[.string x.p, .int .i64 x.i, .bool x.z]) ∧ Below w.heap.size w w' := by
  have b0 : ∀ o1 o2 o3, Below w.heap.size w (((w.alloc o1).alloc o2).alloc o3) := fun o1 o2 o3 => (((Below.refl _ _).alloc (Nat.le_refl _) o1).alloc (by simp) o2).alloc (by simp; omega) o3
  have HB := hide b0
  clear b0
  go_enter Tryd.func37, Tryd.ntmps37
  go_wp2
  refine bodyPost_ret (v := .agg #[.string x.p, .int .i64 x.i, .bool x.z]) (by simp [results, Tryd.results37, go_sem]) rfl ⟨rfl, ?_⟩
  first | exact unhide HB _ _ _ | exact ((unhide HB _ _ _).setCell (by omega) _) | skip
theorem infoMount : (Tryd.prog.info? 68).map (fun i => (i.zero, i.size, i.bytes)) = some (some (.agg #[.string ⟨#[]⟩, .int .i64 0, .bool false]), 3, 32) := by kernel_rfl
theorem makeMount (n : Nat) (hn : n ≤ 1048576) (w : World) : (Instr.makeSlice 30 (.int .i64 (n : Int)) (.int .i64 (n : Int))).run Tryd.prog w = .ok (.slice (some ⟨w.heap.size, 0, none⟩) n n) (w.alloc (.cells (madeCells (Value.agg #[.string ⟨#[]⟩, .int .i64 0, .bool false]).cells (n * 3)) 68)) := by
  obtain ⟨i0, h0, h1, h2, h3⟩ := info_parts infoMount
  have h := run_make (P := Tryd.prog) w 30 68 i0 (.agg #[.string ⟨#[]⟩, .int .i64 0, .bool false]) Tryd.underlying30 h0 h1 .i64 .i64 (n : Int) (n : Int) (by omega) (Int.le_refl _) (by rw [h3]; omega) (by omega)
  rw [h, h2]
  simp
set_option linter.unusedSimpArgs false in
set_option maxRecDepth 100000 in
set_option maxHeartbeats 800000 in
theorem toMountS_any (a : Option Addr) (cap : Nat) (Ts : List Pl.Mn) (w : World) (hl : Ts.length ≤ 1048576) (hv : Mem.isMounts w a Ts) :
    Calls Tryd.prog 20 #[.slice a Ts.length cap] w fun e w' => e = .returned (.slice (some ⟨w.heap.size, 0, none⟩) Ts.length Ts.length) ∧ (∃ cur, Mem.Cop3 68 (fun x : Pl.Mn => .string x.p) (fun x : Pl.Mn => .int .i64 x.i) (fun x : Pl.Mn => .bool x.z) w w' Ts.length Ts cur) ∧ Below w.heap.size w w' := by
  have HV := hide hv
  have hmk := makeMount Ts.length hl w
  clear hv
  go_enter Tryd.func20, Tryd.ntmps20
  go_wp2
  go_loopw [4] (fun i wr => ∃ (D : List Pl.Mn) (cur : Array Value), D.length ≤ Ts.length ∧ i = .int .i64 (D.length : Int) ∧ Below w.heap.size w wr ∧ Hid (D = Ts.take D.length) ∧ Hid (Mem.Cop3 68 (fun x : Pl.Mn => .string x.p) (fun x : Pl.Mn => .int .i64 x.i) (fun x : Pl.Mn => .bool x.z) w wr Ts.length D cur)) (fun i _ => Ts.length - (intOf i).toNat)
  case atStart => exact ⟨[], _, Nat.zero_le _, rfl, (Below.refl _ _).alloc (Nat.le_refl _) _, hide rfl, hide ⟨heap_alloc_new w _, size_madeCells _ _, fun j t h => by simp at h⟩⟩
  case round =>
    obtain ⟨D, cur, hk, rfl, hbel, HD, HC⟩ := hrel
    by_cases hlt : D.length < Ts.length
    · obtain ⟨t, ht⟩ : ∃ t, Ts[D.length]? = some t := ⟨_, List.getElem?_eq_getElem hlt⟩
      obtain ⟨b, o, rfl, hb, q0, q1, q2⟩ := (unhide HV) D.length t ht
      have c0 := (hbel.cell (p := ⟨b, _, none⟩) hb).trans q0
      have c1 := (hbel.cell (p := ⟨b, _, none⟩) hb).trans q1
      have c2 := (hbel.cell (p := ⟨b, _, none⟩) hb).trans q2
      have hz := hide (fun W => toMount_any t W)
      have u1 : (D.length : Int) < (Ts.length : Int) := by omega
      have u3 : (0 : Int) ≤ (D.length : Int) := by omega
      have HD2 : Hid (D ++ [t] = Ts.take (D ++ [t]).length) := hide (by
        have h := unhide HD
        rw [List.length_append, List.length_singleton, List.take_add_one, ht, ← h]; rfl)
      clear q0 q1 q2 ht HD
      go_wp2_with fail
      refine (unhide hz _).mono ?_
      rintro e w1 ⟨rfl, b1⟩
      have C1 := (unhide HC).call b1
      have hb2 := hbel.trans (b1.mono hbel.size)
      obtain ⟨⟨x0, s0⟩, f0⟩ := C1.cell (k := D.length * 3) (by omega)
      obtain ⟨⟨x1, s1⟩, f1⟩ := C1.cell (k := D.length * 3 + 1) (by omega)
      obtain ⟨⟨x2, s2⟩, f2⟩ := C1.cell (k := D.length * 3 + 2) (by omega)
      have HC2 := hide (C1.put t hlt)
      have HB2 := hide hb2
      clear b1 hbel hz HC C1 hb2
      go_wp2
      go_roundw
      case rel => exact ⟨D ++ [t], _, by rw [List.length_append, List.length_singleton]; omega, by rw [List.length_append, List.length_singleton]; go_num, (((unhide HB2).setCell (Nat.le_refl _) _).setCell (Nat.le_refl _) _).setCell (Nat.le_refl _) _, HD2, HC2⟩
      case measure => simp [intOf]; omega
    · have u1 : ¬ (D.length : Int) < (Ts.length : Int) := by omega
      have HE : Hid (D = Ts) := hide (by
        have h := unhide HD
        rw [h, List.take_of_length_le (by omega)])
      go_wp2
      go_ret
      exact ⟨rfl, ⟨cur, by have h := unhide HC; rw [unhide HE] at h; exact h⟩, hbel⟩
set_option linter.unusedSimpArgs false in
set_option maxRecDepth 100000 in
set_option maxHeartbeats 800000 in
theorem toHandle_any (x : Pl.Hn) (w : World) :
    Calls Tryd.prog 38 #[.agg #[.int .i64 x.d, .int .i64 x.i, .string x.p]] w fun e w' => e = .returned (.agg #[.int .i64 x.d, .int .i64 x.i, .string x.p]) ∧ Below w.heap.size w w' := by
  have b0 : ∀ o1 o2 o3, Below w.heap.size w (((w.alloc o1).alloc o2).alloc o3) := fun o1 o2 o3 => (((Below.refl _ _).alloc (Nat.le_refl _) o1).alloc (by simp) o2).alloc (by simp; omega) o3
  have HB := hide b0
  clear b0
  go_enter Tryd.func38, Tryd.ntmps38
  go_wp2
  refine bodyPost_ret (v := .agg #[.int .i64 x.d, .int .i64 x.i, .string x.p]) (by simp [results, Tryd.results38, go_sem]) rfl ⟨rfl, ?_⟩
  first | exact unhide HB _ _ _ | exact ((unhide HB _ _ _).setCell (by omega) _) | skip
theorem infoHandle : (Tryd.prog.info? 65).map (fun i => (i.zero, i.size, i.bytes)) = some (some (.agg #[.int .i64 0, .int .i64 0, .string ⟨#[]⟩]), 3, 32) := by kernel_rfl
theorem makeHandle (n : Nat) (hn : n ≤ 1048576) (w : World) : (Instr.makeSlice 31 (.int .i64 (n : Int)) (.int .i64 (n : Int))).run Tryd.prog w = .ok (.slice (some ⟨w.heap.size, 0, none⟩) n n) (w.alloc (.cells (madeCells (Value.agg #[.int .i64 0, .int .i64 0, .string ⟨#[]⟩]).cells (n * 3)) 65)) := by
  obtain ⟨i0, h0, h1, h2, h3⟩ := info_parts infoHandle
  have h := run_make (P := Tryd.prog) w 31 65 i0 (.agg #[.int .i64 0, .int .i64 0, .string ⟨#[]⟩]) Tryd.underlying31 h0 h1 .i64 .i64 (n : Int) (n : Int) (by omega) (Int.le_refl _) (by rw [h3]; omega) (by omega)
  rw [h, h2]
  simp
set_option linter.unusedSimpArgs false in
set_option maxRecDepth 100000 in
set_option maxHeartbeats 800000 in
theorem toHandleS_any (a : Option Addr) (cap : Nat) (Ts : List Pl.Hn) (w : World) (hl : Ts.length ≤ 1048576) (hv : Mem.isHands w a Ts) :
    Calls Tryd.prog 21 #[.slice a Ts.length cap] w fun e w' => e = .returned (.slice (some ⟨w.heap.size, 0, none⟩) Ts.length Ts.length) ∧ (∃ cur, Mem.Cop3 65 (fun x : Pl.Hn => .int .i64 x.d) (fun x : Pl.Hn => .int .i64 x.i) (fun x : Pl.Hn => .string x.p) w w' Ts.length Ts cur) ∧ Below w.heap.size w w' := by
  have HV := hide hv
  have hmk := makeHandle Ts.length hl w
  clear hv
  go_enter Tryd.func21, Tryd.ntmps21
  go_wp2
  go_loopw [4] (fun i wr => ∃ (D : List Pl.Hn) (cur : Array Value), D.length ≤ Ts.length ∧ i = .int .i64 (D.length : Int) ∧ Below w.heap.size w wr ∧ Hid (D = Ts.take D.length) ∧ Hid (Mem.Cop3 65 (fun x : Pl.Hn => .int .i64 x.d) (fun x : Pl.Hn => .int .i64 x.i) (fun x : Pl.Hn => .string x.p) w wr Ts.length D cur)) (fun i _ => Ts.length - (intOf i).toNat)
  case atStart => exact ⟨[], _, Nat.zero_le _, rfl, (Below.refl _ _).alloc (Nat.le_refl _) _, hide rfl, hide ⟨heap_alloc_new w _, size_madeCells _ _, fun j t h => by simp at h⟩⟩
  case round =>
    obtain ⟨D, cur, hk, rfl, hbel, HD, HC⟩ := hrel
    by_cases hlt : D.length < Ts.length
    · obtain ⟨t, ht⟩ : ∃ t, Ts[D.length]? = some t := ⟨_, List.getElem?_eq_getElem hlt⟩
      obtain ⟨b, o, rfl, hb, q0, q1, q2⟩ := (unhide HV) D.length t ht
      have c0 := (hbel.cell (p := ⟨b, _, none⟩) hb).trans q0
      have c1 := (hbel.cell (p := ⟨b, _, none⟩) hb).trans q1
      have c2 := (hbel.cell (p := ⟨b, _, none⟩) hb).trans q2
      have hz := hide (fun W => toHandle_any t W)
      have u1 : (D.length : Int) < (Ts.length : Int) := by omega
      have u3 : (0 : Int) ≤ (D.length : Int) := by omega
      have HD2 : Hid (D ++ [t] = Ts.take (D ++ [t]).length) := hide (by
        have h := unhide HD
        rw [List.length_append, List.length_singleton, List.take_add_one, ht, ← h]; rfl)
      clear q0 q1 q2 ht HD
      go_wp2_with fail
      refine (unhide hz _).mono ?_
      rintro e w1 ⟨rfl, b1⟩
      have C1 := (unhide HC).call b1
      have hb2 := hbel.trans (b1.mono hbel.size)
      obtain ⟨⟨x0, s0⟩, f0⟩ := C1.cell (k := D.length * 3) (by omega)
      obtain ⟨⟨x1, s1⟩, f1⟩ := C1.cell (k := D.length * 3 + 1) (by omega)
      obtain ⟨⟨x2, s2⟩, f2⟩ := C1.cell (k := D.length * 3 + 2) (by omega)
      have HC2 := hide (C1.put t hlt)
      have HB2 := hide hb2
      clear b1 hbel hz HC C1 hb2
      go_wp2
      go_roundw
      case rel => exact ⟨D ++ [t], _, by rw [List.length_append, List.length_singleton]; omega, by rw [List.length_append, List.length_singleton]; go_num, (((unhide HB2).setCell (Nat.le_refl _) _).setCell (Nat.le_refl _) _).setCell (Nat.le_refl _) _, HD2, HC2⟩
      case measure => simp [intOf]; omega
    · have u1 : ¬ (D.length : Int) < (Ts.length : Int) := by omega
      have HE : Hid (D = Ts) := hide (by
        have h := unhide HD
        rw [h, List.take_of_length_le (by omega)])
      go_wp2
      go_ret
      exact ⟨rfl, ⟨cur, by have h := unhide HC; rw [unhide HE] at h; exact h⟩, hbel⟩
end WLawSp
end Go.Proofs.YtlgbdbmikmbioaaDoor

/- The walks of the laws' own toInstance, toInstanceS, toSpace (by genToN.py). -/
namespace Go.Proofs.YtlgbdbmikmbioaaDoor
open Go.RowKit
namespace WLawY
theorem Rows.call {W W' : World} {g : Nat} {D : List Pl.It} (h : Rows W g D) (b : Below W.heap.size W W') : Rows W' g D := by
  obtain ⟨cur, h1, h2⟩ := h.blk
  refine ⟨Mem.items_call h.items b, ⟨cur, (b.block _ (Array.getElem?_eq_some_iff.1 h1).1).trans h1, h2⟩, fun j t hj => ?_⟩
  obtain ⟨q, a1, a2, a3, cs, a4, a5⟩ := h.each j t hj
  exact ⟨q, a1, a2, Nat.lt_of_lt_of_le a3 b.size, cs, (b.block _ (Array.getElem?_eq_some_iff.1 a4).1).trans a4, a5⟩
/-- A store into a block below leaves the rows. -/
theorem Rows.low {W : World} {g : Nat} {D : List Pl.It} (h : Rows W g D) (p : Addr) (v : Value) (hp : p.block < g) : Rows (W.setCell p v) g D := by
  obtain ⟨cur, h1, h2⟩ := h.blk
  have hg := (Array.getElem?_eq_some_iff.1 h1).1
  refine ⟨fun i t hi => ?_, ⟨cur, (heap_setCell_other _ _ _ _ (by omega)).trans h1, h2⟩, fun j t hj => ?_⟩
  · obtain ⟨⟨b, o, e, hb, c0, c1⟩, hn⟩ := h.items i t hi
    cases e
    obtain ⟨q, a1, a2, a3, -⟩ := h.each i t hi
    refine ⟨⟨g, 0, rfl, by rw [World.size_setCell]; exact hb, ?_, ?_⟩, ?_⟩
    · rw [World.cell?_setCell_other _ _ _ _ (fun e => by rw [e] at hp; exact absurd hp (by show ¬ g < g; omega))]; exact c0
    · rw [World.cell?_setCell_other _ _ _ _ (fun e => by rw [e] at hp; exact absurd hp (by show ¬ g < g; omega))]; exact c1
    · rw [a1] at hn ⊢
      exact Mem.nodes_far hn p v (by omega)
  · obtain ⟨q, a1, a2, a3, cs, a4, a5⟩ := h.each j t hj
    exact ⟨q, a1, a2, by rw [World.size_setCell]; exact a3, cs, (heap_setCell_other _ _ _ _ (by omega)).trans a4, a5⟩
end WLawY
namespace WLawSp
open WLaw
set_option linter.unusedSimpArgs false in
set_option maxRecDepth 100000 in
theorem toInstance_any (x : Pl.Ns) (w : World) (hl : x.Is.length ≤ 1048576) (hv : Mem.isItems w x.a x.Is) (hok : ∀ t ∈ x.Is, t.t.L.length ≤ 1048576) :
    Calls Tryd.prog 36 #[.agg #[.int .i64 x.d, .slice x.a x.Is.length x.cap]] w fun e w' => ∃ g D, e = .returned (.agg #[.int .i64 x.d, .slice (some ⟨g, 0, none⟩) x.Is.length x.Is.length]) ∧ w.heap.size ≤ g ∧ D.length = x.Is.length ∧ D.map Pl.It.r = x.Is.map Pl.It.r ∧ WLawY.Rows w' g D ∧ Below w.heap.size w w' := by
  obtain ⟨m, a, cap, L⟩ := x
  simp only at hl hv hok ⊢
  have b0 : Below w.heap.size w (((w.alloc (.cells #[.int .i64 m, .slice a L.length cap] 58)).alloc (.cells #[.int .i64 0, .slice none 0 0] 72)).alloc (.cells #[.int .i64 m, .slice none 0 0] 72)) := (((Below.refl _ _).alloc (Nat.le_refl _) _).alloc (by simp) _).alloc (by simp; omega) _
  have hz := hide (WLawY.toItemS_any a cap L _ hl (Mem.items_call hv b0) hok)
  have hs : (((w.alloc (.cells #[.int .i64 m, .slice a L.length cap] 58)).alloc (.cells #[.int .i64 0, .slice none 0 0] 72)).alloc (.cells #[.int .i64 m, .slice none 0 0] 72)).heap.size = w.heap.size + 1 + 1 + 1 := by simp
  have r1 : Mem.Blk (((w.alloc (.cells #[.int .i64 m, .slice a L.length cap] 58)).alloc (.cells #[.int .i64 0, .slice none 0 0] 72)).alloc (.cells #[.int .i64 m, .slice none 0 0] 72)) (w.heap.size + 1) #[.int .i64 0, .slice none 0 0] 72 := Mem.new_mid w _ _ _
  have r2 : Mem.Blk (((w.alloc (.cells #[.int .i64 m, .slice a L.length cap] 58)).alloc (.cells #[.int .i64 0, .slice none 0 0] 72)).alloc (.cells #[.int .i64 m, .slice none 0 0] 72)) (w.heap.size + 1 + 1) #[.int .i64 m, .slice none 0 0] 72 := Mem.new_three w _ _ _
  have HB0 := hide b0
  clear hv b0 hok
  go_enter Tryd.func36, Tryd.ntmps36
  go_wp2_with fail
  generalize (((w.alloc (.cells #[.int .i64 m, .slice a L.length cap] 58)).alloc (.cells #[.int .i64 0, .slice none 0 0] 72)).alloc (.cells #[.int .i64 m, .slice none 0 0] 72)) = w3 at hz hs r1 r2 HB0 ⊢
  refine (unhide hz).mono ?_
  rintro e w1 ⟨g, D, rfl, hg, hD, hm, hn, b1⟩
  have R1 := r1.call b1
  have R2 := r2.call b1
  have c10 := R1.cell 0
  have c11 := R1.cell 1
  have c20 := R2.cell 0
  have c21 := R2.cell 1
  have f10 := R1.fr 0
  have f11 := R1.fr 1
  have f20 := R2.fr 0
  have f21 := R2.fr 1
  simp only [kA0, kA1, kA2] at c10 c11 c20 c21
  have bb := hide ((unhide HB0).trans (b1.mono (unhide HB0).size))
  have HG : Hid (w.heap.size + 1 + 1 + 1 ≤ g) := hide (by omega)
  have HN := hide hn
  have HD := hide hD
  have HM := hide hm
  clear hz b1 hn hs r1 r2 R1 R2 HB0 hg hD hm
  go_wp2
  have hg := unhide HG
  refine bodyPost_ret (v := .agg #[.int .i64 m, .slice (some ⟨g, 0, none⟩) L.length L.length]) (by simp [results, Tryd.results36, go_sem, c10, c11]) rfl ⟨g, D, rfl, by omega, unhide HD, unhide HM, ?_, ?_⟩
  · exact (((unhide HN).low _ _ (by show w.heap.size + 1 + 1 < g; omega)).low _ _ (by show w.heap.size + 1 < g; omega)).low _ _ (by show w.heap.size + 1 < g; omega)
  · exact (((unhide bb).setCell (by show w.heap.size ≤ w.heap.size + 1 + 1; omega) _).setCell (by show w.heap.size ≤ w.heap.size + 1; omega) _).setCell (by show w.heap.size ≤ w.heap.size + 1; omega) _
theorem infoInst : (Tryd.prog.info? 72).map (fun i => (i.zero, i.size, i.bytes)) = some (some (.agg #[.int .i64 0, .slice none 0 0]), 2, 32) := by kernel_rfl
theorem makeInst (n : Nat) (hn : n ≤ 1048576) (w : World) : (Instr.makeSlice 29 (.int .i64 (n : Int)) (.int .i64 (n : Int))).run Tryd.prog w = .ok (.slice (some ⟨w.heap.size, 0, none⟩) n n) (w.alloc (.cells (madeCells (Value.agg #[.int .i64 0, .slice none 0 0]).cells (n * 2)) 72)) := by
  obtain ⟨i0, h0, h1, h2, h3⟩ := info_parts infoInst
  have h := run_make (P := Tryd.prog) w 29 72 i0 (.agg #[.int .i64 0, .slice none 0 0]) Tryd.underlying29 h0 h1 .i64 .i64 (n : Int) (n : Int) (by omega) (Int.le_refl _) (by rw [h3]; omega) (by omega)
  rw [h, h2]
  simp
/-- The instances that were copied so far: each nest in rows of its own, behind the row of instances. -/
structure CopN (w wr : World) (Ts D : List Pl.Ns) (cur : Array Value) : Prop where
  blk : wr.heap[w.heap.size]? = some (.cells cur 72 (0, 0))
  size : cur.size = Ts.length * 2
  same : D.map Pl.Ns.r = (Ts.take D.length).map Pl.Ns.r
  each : ∀ (j : Nat) t, D[j]? = some t → cur[j * 2]? = some (.int .i64 t.d) ∧ cur[j * 2 + 1]? = some (.slice t.a t.Is.length t.cap) ∧ ∃ g, t.a = some ⟨g, 0, none⟩ ∧ w.heap.size < g ∧ WLawY.Rows wr g t.Is ∧ t.cap = t.Is.length
theorem CopN.call {w wr W : World} {Ts D : List Pl.Ns} {cur : Array Value} (h : CopN w wr Ts D cur) (b : Below wr.heap.size wr W) : CopN w W Ts D cur :=
  ⟨(b.block _ (Array.getElem?_eq_some_iff.1 h.blk).1).trans h.blk, h.size, h.same, fun j t hj => ⟨(h.each j t hj).1, (h.each j t hj).2.1, by
    obtain ⟨g, h1, h2, h3, h4⟩ := (h.each j t hj).2.2
    exact ⟨g, h1, h2, h3.call b, h4⟩⟩⟩
theorem CopN.put {w wr : World} {Ts D : List Pl.Ns} {cur : Array Value} (h : CopN w wr Ts D cur) (t : Pl.Ns) (g : Nat) (E : List Pl.It) (hk : Ts[D.length]? = some t) (hg : w.heap.size < g) (hE : E.length = t.Is.length) (hm : E.map Pl.It.r = t.Is.map Pl.It.r) (hn : WLawY.Rows wr g E) :
    CopN w ((wr.setCell ⟨w.heap.size, D.length * 2, none⟩ (.int .i64 t.d)).setCell ⟨w.heap.size, D.length * 2 + 1, none⟩ (.slice (some ⟨g, 0, none⟩) t.Is.length t.Is.length)) Ts (D ++ [⟨t.d, some ⟨g, 0, none⟩, t.Is.length, E⟩]) ((cur.setIfInBounds (D.length * 2) (.int .i64 t.d)).setIfInBounds (D.length * 2 + 1) (.slice (some ⟨g, 0, none⟩) t.Is.length t.Is.length)) := by
  have hlt := (List.getElem?_eq_some_iff.1 hk).1
  have hsz := h.size
  refine ⟨heap_setCell_same _ _ _ _ _ _ (heap_setCell_same _ _ _ _ _ _ h.blk), by simpa using h.size, ?_, fun j m hj => ?_⟩
  · rw [List.length_append, List.length_singleton, List.take_add_one, hk, List.map_append, List.map_append, h.same]
    simp [Pl.Ns.r, hm]
  · by_cases e : j < D.length
    · rw [List.getElem?_append_left e] at hj
      obtain ⟨h1, h1', g', h2, h3, h4, h5⟩ := h.each j m hj
      exact ⟨by rw [Array.getElem?_setIfInBounds, if_neg (by omega), Array.getElem?_setIfInBounds, if_neg (by omega)]; exact h1, by rw [Array.getElem?_setIfInBounds, if_neg (by omega), Array.getElem?_setIfInBounds, if_neg (by omega)]; exact h1', g', h2, h3, (h4.low _ _ h3).low _ _ h3, h5⟩
    · rw [List.getElem?_append_right (by omega)] at hj
      have hj0 : j = D.length := by
        have := (List.getElem?_eq_some_iff.1 hj).1
        simp at this; omega
      subst hj0
      simp at hj
      subst hj
      refine ⟨?_, ?_, g, rfl, hg, (hn.low _ _ hg).low _ _ hg, hE.symm⟩
      · rw [Array.getElem?_setIfInBounds, if_neg (by omega), Array.getElem?_setIfInBounds, if_pos rfl, if_pos (by omega)]
      · rw [Array.getElem?_setIfInBounds, if_pos rfl, if_pos (by rw [Array.size_setIfInBounds]; omega), hE]
theorem CopN.insts {w wr : World} {Ts D : List Pl.Ns} {cur : Array Value} (h : CopN w wr Ts D cur) : Mem.isInsts wr (some ⟨w.heap.size, 0, none⟩) D := fun i t hi => by
  obtain ⟨h1, h1', g, h2, h3, h4, -⟩ := h.each i t hi
  refine ⟨⟨_, 0, rfl, (Array.getElem?_eq_some_iff.1 h.blk).1, ?_, ?_⟩, by rw [h2]; exact h4.items⟩
  · rw [cell_of_row wr _ _ _ _ (0, 0) h.blk, Nat.zero_add]
    exact h1
  · rw [cell_of_row wr _ _ _ _ (0, 0) h.blk, Nat.zero_add]
    exact h1'
set_option linter.unusedSimpArgs false in
set_option maxRecDepth 100000 in
set_option maxHeartbeats 800000 in
theorem toInstanceS_any (a : Option Addr) (cap : Nat) (Ts : List Pl.Ns) (w : World) (hl : Ts.length ≤ 1048576) (hv : Mem.isInsts w a Ts) (hok : ∀ x ∈ Ts, x.Is.length ≤ 1048576 ∧ ∀ t ∈ x.Is, t.t.L.length ≤ 1048576) :
    Calls Tryd.prog 19 #[.slice a Ts.length cap] w fun e w' => e = .returned (.slice (some ⟨w.heap.size, 0, none⟩) Ts.length Ts.length) ∧ (∃ D cur, D.length = Ts.length ∧ CopN w w' Ts D cur) ∧ Below w.heap.size w w' := by
  have HV := hide hv
  have HO := hide hok
  have hmk := makeInst Ts.length hl w
  clear hv hok
  go_enter Tryd.func19, Tryd.ntmps19
  go_wp2
  go_loopw [4] (fun i wr => ∃ (D : List Pl.Ns) (cur : Array Value), D.length ≤ Ts.length ∧ i = .int .i64 (D.length : Int) ∧ Below w.heap.size w wr ∧ Hid (CopN w wr Ts D cur)) (fun i _ => Ts.length - (intOf i).toNat)
  case atStart => exact ⟨[], _, Nat.zero_le _, rfl, (Below.refl _ _).alloc (Nat.le_refl _) _, hide ⟨heap_alloc_new w _, size_madeCells _ _, rfl, fun j t h => by simp at h⟩⟩
  case round =>
    obtain ⟨D, cur, hk, rfl, hbel, HC⟩ := hrel
    by_cases hlt : D.length < Ts.length
    · obtain ⟨t, ht⟩ : ∃ t, Ts[D.length]? = some t := ⟨_, List.getElem?_eq_getElem hlt⟩
      obtain ⟨⟨b, o, rfl, hb, q0, q1⟩, qq⟩ := (unhide HV) D.length t ht
      have c0 := (hbel.cell (p := ⟨b, _, none⟩) hb).trans q0
      have c1 := (hbel.cell (p := ⟨b, _, none⟩) hb).trans q1
      have hz := hide (fun W (b : Below w.heap.size w W) => toInstance_any t W (unhide HO t (List.mem_of_getElem? ht)).1 (Mem.items_call qq b) (unhide HO t (List.mem_of_getElem? ht)).2)
      have HN := hide ht
      have u1 : (D.length : Int) < (Ts.length : Int) := by omega
      have u3 : (0 : Int) ≤ (D.length : Int) := by omega
      clear q0 q1 ht qq
      go_wp2_with fail
      refine (unhide hz _ hbel).mono ?_
      rintro e w1 ⟨g, E, rfl, hg, hEl, hEm, hn, b1⟩
      have hgw : w.heap.size < g := by have := (Array.getElem?_eq_some_iff.1 (unhide HC).blk).1; omega
      have C1 := (unhide HC).call b1
      have hb2 := hbel.trans (b1.mono hbel.size)
      have hcs := C1.size
      obtain ⟨x0, s0⟩ : ∃ x, w1.cell? ⟨w.heap.size, D.length * 2, none⟩ = some x := ⟨_, (cell_of_row w1 _ (D.length * 2) _ _ (0, 0) C1.blk).trans (Array.getElem?_eq_getElem (by omega))⟩
      obtain ⟨x1, s1⟩ : ∃ x, w1.cell? ⟨w.heap.size, D.length * 2 + 1, none⟩ = some x := ⟨_, (cell_of_row w1 _ (D.length * 2 + 1) _ _ (0, 0) C1.blk).trans (Array.getElem?_eq_getElem (by omega))⟩
      have f0 : w1.frozen? ⟨w.heap.size, D.length * 2, none⟩ = false := Mem.row_frozen C1.blk
      have f1 : w1.frozen? ⟨w.heap.size, D.length * 2 + 1, none⟩ = false := Mem.row_frozen C1.blk
      have HC2 := hide (C1.put t g E (unhide HN) hgw hEl hEm hn)
      have HB2 := hide hb2
      clear b1 hbel hz HC C1 hn hg hb2 hcs hEl hEm
      go_wp2
      go_roundw
      case rel => exact ⟨_, _, by rw [List.length_append, List.length_singleton]; omega, by rw [List.length_append, List.length_singleton]; go_num, ((unhide HB2).setCell (Nat.le_refl _) _).setCell (Nat.le_refl _) _, HC2⟩
      case measure => simp [intOf]; omega
    · have u1 : ¬ (D.length : Int) < (Ts.length : Int) := by omega
      go_wp2
      go_ret
      exact ⟨rfl, ⟨D, by omega, cur, unhide HC⟩, hbel⟩
end WLawSp
end Go.Proofs.YtlgbdbmikmbioaaDoor

