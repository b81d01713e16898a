/- The walk of the program's Flatter. -/
import Derived.Test.YteddcihodfkliabGreatDoorWFlat
import Derived.Test.YteddcihodfkliabGreatDoorWItemsOf
import Derived.Test.YteddcihodfkliabGreatDoorWNestX
import Derived.Test.YteddcihodfkliabGreatDoorPlainFlatN
import Derived.Test.YteddcihodfkliabGreatDoorPartF
namespace Go.Proofs.YteddcihodfkliabGreatDoor
open Go.RowKit
namespace WFlat
/-- A NestOut of the call's own. -/
def Outs (w w' : World) (C : Int) (O : List (Int × List Pl.Nd)) (e : Ending) : Prop := ∃ v Is, e = .returned (.agg #[v, .int .i64 C]) ∧ Mem.Io w' w.heap.size v Is ∧ Is.map Pl.It.r = O
set_option linter.unusedSimpArgs false in
set_option maxRecDepth 100000 in
set_option maxHeartbeats 1000000 in
theorem flatter_any (a : Option Addr) (cap : Nat) (Is : List Pl.It) (w : World) (hl : Is.length ≤ 1048576) (hcap : Is.length ≤ cap) (hv : Mem.isItems w a Is) (hok : ∀ x ∈ Is, x.t.L.length ≤ 1048576 ∧ ∀ n ∈ x.t.L, n.path.size ≤ 1048576 ∧ n.data.size ≤ 1048576) (x : Nat → Addr) (hE : WIs.Six w x) :
    Calls Tryz.prog 16 #[.slice a Is.length cap] w fun e w' => Outs w w' (Pl.flatC (Is.map Pl.It.r)) (Pl.flatI (Is.map Pl.It.r)) e ∧ Below w.heap.size w w' := by
  have b0 : Below w.heap.size w (w.alloc (.cells #[.slice none 0 0, .int .i64 0] 34)) := (Below.refl _ _).alloc (Nat.le_refl _) _
  have V0 := Mem.Blk.new w #[.slice none 0 0, .int .i64 0] 34
  have hs0 : (w.alloc (.cells #[.slice none 0 0, .int .i64 0] 34)).heap.size = w.heap.size + 1 := by simp
  have hxl : (Is.map Pl.It.r).length = Is.length := List.length_map ..
  have hno := hide (WNestX.nest_any a cap Is (w.alloc (.cells #[.slice none 0 0, .int .i64 0] 34)) hl hcap (Mem.items_call hv b0) hok _ _ _ _ _ _ _ _ (WViewI.six4 (hE.call b0)))
  have HE := hide (fun W (b : Below w.heap.size w W) => hE.call b)
  have HVL : Hid (400 < Is.length → Pl.flatC (Is.map Pl.It.r) = 2 ∧ Pl.flatI (Is.map Pl.It.r) = []) := fun h => Pl.flat_long (by omega)
  have HVB : Hid (¬ 400 < Is.length → Pl.nest (Pl.rowO (Is.map Pl.It.r)) = none → Pl.flatC (Is.map Pl.It.r) = 1 ∧ Pl.flatI (Is.map Pl.It.r) = []) := fun h1 h2 => Pl.flat_bad (by omega) h2
  have HVN : Hid (∀ L k, Pl.nest (Pl.rowO (Is.map Pl.It.r)) = some (Pl.Fx.shape k) → (Pl.Fx.cons L k .nil).flat = Is.map Pl.It.r → k.flatK = none → Pl.flatC (Is.map Pl.It.r) = 10 ∧ Pl.flatI (Is.map Pl.It.r) = []) := fun L k h1 h2 h3 => Pl.flat_none (Pl.nest_len h1) (Pl.nestX_some h1 h2) h3
  have HVS : Hid (∀ L k K, Pl.nest (Pl.rowO (Is.map Pl.It.r)) = some (Pl.Fx.shape k) → (Pl.Fx.cons L k .nil).flat = Is.map Pl.It.r → k.flatK = some K → Pl.flatC (Is.map Pl.It.r) = 0 ∧ Pl.flatI (Is.map Pl.It.r) = ((K.len : Int), []) :: K.flat) := fun L k K h1 h2 h3 => Pl.flat_some (Pl.nest_len h1) (Pl.nestX_some h1 h2) h3
  have HSZ : Hid (∀ L k, Pl.nest (Pl.rowO (Is.map Pl.It.r)) = some (Pl.Fx.shape k) → (Pl.Fx.cons L k .nil).flat = Is.map Pl.It.r → k.sz ≤ 12) := fun L k h1 h2 => by
    have h3 := Pl.nest_len h1
    have h4 := congrArg List.length h2
    rw [Pl.Fx.flat_len, Pl.Fx.sz] at h4
    omega
  generalize Pl.flatC (Is.map Pl.It.r) = C at HVL HVB HVN HVS ⊢
  generalize Pl.flatI (Is.map Pl.It.r) = O at HVL HVB HVN HVS ⊢
  generalize Pl.nest (Pl.rowO (Is.map Pl.It.r)) = NN at hno HVB HVN HVS HSZ
  clear hv hok hE hxl
  go_enter Tryz.func16, Tryz.ntmps16
  go_wp2_with fail
  generalize w.alloc (.cells #[.slice none 0 0, .int .i64 0] 34) = w2 at b0 V0 hs0 hno ⊢
  refine (unhide hno).mono ?_
  rintro e w1 ⟨hN, b1⟩
  have bw1 := b0.trans (b1.mono b0.size)
  have V1 := V0.call b1
  have hs1 := b1.size
  clear hno b0 V0
  rcases hN with ⟨L, k, q, a1, cap1, hNN, rfl, ⟨-, hqm⟩, ⟨hko, hfl⟩, hlay⟩ | ⟨hNN, r, y, rfl, hwhy⟩
  rotate_left
  · have V2 := V1.alloc (.cells #[.map none, .int .i64 0, .slice none 0 0] 68)
    have bw2 := bw1.alloc bw1.size (.cells #[.map none, .int .i64 0, .slice none 0 0] 68)
    rcases hwhy with ⟨h4, rfl, rfl⟩ | ⟨h4, rfl, rfl⟩
    · obtain ⟨rfl, rfl⟩ := unhide HVL h4
      have hcd := hide (WIs.code0 x _ (unhide HE _ bw2))
      clear V1 bw1 HVL HVB HVN HVS HSZ hNN
      go_wp2_with fail
      refine (unhide hcd).mono ?_
      rintro e w3 ⟨rfl, hw3⟩
      subst w3
      have HB := hide bw2
      have d0 := V2.cell 0
      have d1 := V2.cell 1
      have f0 := V2.fr 0
      have f1 := V2.fr 1
      simp only [List.getElem?_toArray, List.getElem?_cons_zero, List.getElem?_cons_succ] at d0 d1
      clear hcd V2 bw2
      go_wp2
      refine bodyPost_ret (v := .agg #[.slice none 0 0, .int .i64 2]) (by simp [results, Tryz.results16, go_sem, d0, d1]) rfl ⟨⟨_, [], rfl, Mem.Io.nil _ _, rfl⟩, ?_⟩
      first | exact ((unhide HB).setCell (Nat.le_refl _) _).setCell (Nat.le_refl _) _ | exact (unhide HB).setCell (Nat.le_refl _) _
    · obtain ⟨rfl, rfl⟩ := unhide HVB (by omega) hNN
      have hcd := hide (WIs.code1 x _ (unhide HE _ bw2))
      clear V1 bw1 HVL HVB HVN HVS HSZ hNN
      go_wp2_with fail
      refine (unhide hcd).mono ?_
      rintro e w3 ⟨rfl, hw3⟩
      subst w3
      have HB := hide bw2
      have d0 := V2.cell 0
      have d1 := V2.cell 1
      have f0 := V2.fr 0
      have f1 := V2.fr 1
      simp only [List.getElem?_toArray, List.getElem?_cons_zero, List.getElem?_cons_succ] at d0 d1
      clear hcd V2 bw2
      go_wp2
      refine bodyPost_ret (v := .agg #[.slice none 0 0, .int .i64 1]) (by simp [results, Tryz.results16, go_sem, d0, d1]) rfl ⟨⟨_, [], rfl, Mem.Io.nil _ _, rfl⟩, ?_⟩
      first | exact ((unhide HB).setCell (Nat.le_refl _) _).setCell (Nat.le_refl _) _ | exact (unhide HB).setCell (Nat.le_refl _) _
  have V2 := V1.alloc (.cells #[.map (some q), .int .i64 (k.len : Int), .slice a1 k.len cap1] 68)
  have bw2 := bw1.alloc bw1.size (.cells #[.map (some q), .int .i64 (k.len : Int), .slice a1 k.len cap1] 68)
  have bA : Below w1.heap.size w1 (w1.alloc (.cells #[.map (some q), .int .i64 (k.len : Int), .slice a1 k.len cap1] 68)) := (Below.refl _ _).alloc (Nat.le_refl _) _
  have X2 := Mem.Blk.new w1 #[.map (some q), .int .i64 (k.len : Int), .slice a1 k.len cap1] 68
  have x0 := X2.cell 0
  have x1 := X2.cell 1
  have x2 := X2.cell 2
  simp only [List.getElem?_toArray, List.getElem?_cons_zero, List.getElem?_cons_succ] at x0 x1 x2
  have hlf := hide (flat_any _ k (some q) (k.len : Int) _ _ hko.2.2.1 hko.2.2.2.1 (Mem.layX_call hlay bA))
  have HKO := hide (fun K (h : k.flatK = some K) => Pl.flatK_ok hko.2.2.2.1 h)
  have hkz := unhide HSZ L k hNN hfl
  have HN2 := hide (fun h => unhide HVN L k hNN hfl h)
  have HS2 := hide (fun K h => unhide HVS L k K hNN hfl h)
  clear hqm hko hfl hlay bA X2 V1 bw1 HVL HVB HVN HVS HSZ hNN
  go_wp2_with fail
  generalize w1.alloc (.cells #[.map (some q), .int .i64 (k.len : Int), .slice a1 k.len cap1] 68) = w4 at V2 bw2 hlf x0 x1 x2 ⊢
  refine (unhide hlf).mono ?_
  rintro e w5 ⟨hX, b5⟩
  have bw5 := bw2.trans (b5.mono bw2.size)
  have V5 := V2.call b5
  clear hlf x0 x1 x2
  rcases hX with ⟨K', a5, cap5, hV, rfl, hl5⟩ | ⟨hV, rfl⟩
  · obtain ⟨rfl, rfl⟩ := unhide HS2 K' hV
    obtain ⟨o1, o2, o3, -, -, -⟩ := unhide HKO K' hV
    have V6 := V5.alloc (.cells #[.map none, .int .i64 (K'.len : Int), .slice a5 K'.len cap5] 68)
    have bw6 := bw5.alloc bw5.size (.cells #[.map none, .int .i64 (K'.len : Int), .slice a5 K'.len cap5] 68)
    have X6 := Mem.Blk.new w5 #[.map none, .int .i64 (K'.len : Int), .slice a5 K'.len cap5] 68
    have x0 := X6.cell 0
    have x1 := X6.cell 1
    have x2 := X6.cell 2
    simp only [List.getElem?_toArray, List.getElem?_cons_zero, List.getElem?_cons_succ] at x0 x1 x2
    have hri := hide (WItemsOf.items_of 1000 (Nat.le_refl _) (fun _ => True) K' [] none (K'.len : Int) (.slice a5 K'.len cap5) (w5.alloc (.cells #[.map none, .int .i64 (K'.len : Int), .slice a5 K'.len cap5] 68)) (by omega) rfl o1 (.inr ⟨rfl, rfl⟩) (Mem.layX_call hl5 ((Below.refl _ _).alloc (Nat.le_refl _) _)))
    clear V2 V5 bw2 bw5 b5 HKO HN2 HS2 hV hl5 X6 o1
    go_wp2_with fail
    generalize w5.alloc (.cells #[.map none, .int .i64 (K'.len : Int), .slice a5 K'.len cap5] 68) = w6 at V6 bw6 hri x0 x1 x2 ⊢
    refine (unhide hri).mono ?_
    rintro e w7 ⟨v7, Js, rfl, io7, hr7, b7⟩
    obtain ⟨a7, c7, rfl⟩ := Mem.own_shape io7.row
    have hR := V6.lt
    have V7 := V6.call b7
    have OW := hide (((io7.set ⟨w.heap.size, 0, none⟩ (.slice a7 Js.length c7) (by show w.heap.size < _; omega)).set ⟨w.heap.size, 1, none⟩ (.int .i64 0) (by show w.heap.size < _; omega)).mono (show w.heap.size ≤ w6.heap.size by omega))
    have HR7 := hide hr7
    have HB := hide (bw6.trans (b7.mono bw6.size))
    have d0 := V7.cell 0
    have d1 := V7.cell 1
    have f0 := V7.fr 0
    have f1 := V7.fr 1
    simp only [List.getElem?_toArray, List.getElem?_cons_zero, List.getElem?_cons_succ] at d0 d1
    clear hri io7 b7 V6 V7 bw6 x0 x1 x2 hr7
    go_wp2
    refine bodyPost_ret (v := .agg #[.slice a7 Js.length c7, .int .i64 0]) (by simp [results, Tryz.results16, go_sem, d0, d1]) rfl ⟨⟨_, Js, rfl, unhide OW, unhide HR7⟩, ?_⟩
    exact ((unhide HB).setCell (Nat.le_refl _) _).setCell (Nat.le_refl _) _
  · obtain ⟨rfl, rfl⟩ := unhide HN2 hV
    have V2 := V5.alloc (.cells #[.map none, .int .i64 0, .slice none 0 0] 68)
    have HB := hide (bw5.alloc bw5.size (.cells #[.map none, .int .i64 0, .slice none 0 0] 68))
    have d0 := V2.cell 0
    have d1 := V2.cell 1
    have f0 := V2.fr 0
    have f1 := V2.fr 1
    simp only [List.getElem?_toArray, List.getElem?_cons_zero, List.getElem?_cons_succ] at d0 d1
    clear V5 bw5 b5 HKO HN2 HS2 hV V2
    go_wp2
    refine bodyPost_ret (v := .agg #[.slice none 0 0, .int .i64 10]) (by simp [results, Tryz.results16, go_sem, d0, d1]) rfl ⟨⟨_, [], rfl, Mem.Io.nil _ _, rfl⟩, ?_⟩
    first | exact ((unhide HB).setCell (Nat.le_refl _) _).setCell (Nat.le_refl _) _ | exact (unhide HB).setCell (Nat.le_refl _) _
set_option maxRecDepth 100000 in
theorem can_any (a : Option Addr) (cap : Nat) (Is : List Pl.It) (w : World) (hl : Is.length ≤ 1048576) (hcap : Is.length ≤ cap) (hv : Mem.isItems w a Is) (hok : ∀ x ∈ Is, x.t.L.length ≤ 1048576 ∧ ∀ n ∈ x.t.L, n.path.size ≤ 1048576 ∧ n.data.size ≤ 1048576) (x : Nat → Addr) (hE : WIs.Six w x) :
    Calls Tryz.prog 21 #[.slice a Is.length cap] w fun e w' => e = .returned (.bool (decide (Pl.flatC (Is.map Pl.It.r) = 0))) ∧ Below w.heap.size w w' := by
  have hf := hide (flatter_any a cap Is w hl hcap hv hok x hE)
  generalize Pl.flatC (Is.map Pl.It.r) = C at hf ⊢
  generalize Pl.flatI (Is.map Pl.It.r) = O at hf
  clear hv hok hE
  go_enter Tryz.func21, Tryz.ntmps21
  go_wp2_with fail
  refine (unhide hf).mono ?_
  rintro e w1 ⟨⟨v, Js, rfl, io, -⟩, b1⟩
  obtain ⟨a1, c1, rfl⟩ := Mem.own_shape io.row
  have hfd : ∀ W, (Instr.field 34 (.agg #[.slice a1 Js.length c1, .int .i64 C]) 1).run Tryz.prog W = .ok (.int .i64 C) W := fun _ => by kernel_rfl
  clear hf io
  by_cases hC : C = 0
  · subst hC
    go_wp2
    go_ret
    exact ⟨rfl, b1⟩
  · have h1 : (C == 0) = false := by simpa using hC
    have h2 : decide (C = 0) = false := by simpa using hC
    go_wp2
    go_ret
    exact ⟨ret_bool h2.symm, b1⟩
end WFlat
end Go.Proofs.YteddcihodfkliabGreatDoor
