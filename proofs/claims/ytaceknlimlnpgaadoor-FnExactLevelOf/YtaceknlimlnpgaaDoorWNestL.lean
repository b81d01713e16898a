/- The walks of level of a nest. -/
import Derived.Test.YtaceknlimlnpgaaDoorWNestF
namespace Go.Proofs.YtaceknlimlnpgaaDoor
open Go.RowKit
namespace WNestI
set_option linter.unusedSimpArgs false in
set_option maxRecDepth 100000 in
set_option maxHeartbeats 1000000 in
theorem level_any (N : Nat → Prop) (n : Nat) (hn : n ≤ 1000) : ∀ (k : Pl.Fo) (q : Option Nat) (m : Int) (v : Value) (w : World), k.sz ≤ n → Mem.lay w N k v →
    Calls Tryd.prog 18 #[.agg #[.map q, .int .i64 m, v]] w fun e w' => e = .returned (.int .i64 (k.level : Int)) ∧ Below w.heap.size w w' := by
  have base : ∀ (q : Option Nat) (m : Int) (a : Option Addr) (cap : Nat) (w : World), Calls Tryd.prog 18 #[.agg #[.map q, .int .i64 m, .slice a 0 cap]] w fun e w' => e = .returned (.int .i64 0) ∧ Below w.heap.size w w' := by
    intro q m a cap w
    have b0 : Below w.heap.size w (w.alloc (.cells #[.map q, .int .i64 m, .slice a 0 cap] 50)) := (Below.refl _ _).alloc (Nat.le_refl _) _
    have hlf := hide (leaf_any .nil q m a cap)
    simp only [Pl.Fo.len] at hlf
    go_enter Tryd.func18, Tryd.ntmps18
    go_wp2_with fail
    refine (unhide hlf _).mono ?_
    rintro e w1 ⟨rfl, b1⟩
    have bb := b0.trans (b1.mono b0.size)
    clear b0 b1 hlf
    go_wp2
    go_ret
    exact ⟨rfl, bb⟩
  induction n with
  | zero =>
    intro k q m v w hs hl
    obtain ⟨a, cap, rfl, -⟩ := hl
    cases k with
    | nil => exact base q m a cap w
    | cons a b => simp [Pl.Fo.sz] at hs
  | succ n ih =>
    intro k q m v w hs hl
    obtain ⟨a, cap, rfl, hrow⟩ := hl
    cases k with
    | nil => exact base q m a cap w
    | cons k0 m0 =>
      rcases hrow with h | ⟨g, rfl, hrow⟩
      · cases h
      obtain ⟨⟨x, y, a1, cap1, c0, c1, c2, hg, hN, ⟨q1, rfl⟩, ⟨r1, rfl⟩, hsub⟩, -⟩ := hrow
      have hlen : (Pl.Fo.cons k0 m0).len = m0.len + 1 := rfl
      have hlv : (Pl.Fo.cons k0 m0).level = 1 + k0.level := rfl
      have hkd := Pl.level_le k0
      have hkz := k0.depth_le
      simp only [Pl.Fo.sz] at hs
      have t1 : (0 : Int) < ((m0.len + 1 : Nat) : Int) := by omega
      have HL : Mem.lay w N k0 (.slice a1 k0.len cap1) := ⟨a1, cap1, rfl, hsub⟩
      have b0 : Below w.heap.size w (w.alloc (.cells #[.map q, .int .i64 m, .slice (some ⟨g, 0, none⟩) (m0.len + 1) cap] 50)) := (Below.refl _ _).alloc (Nat.le_refl _) _
      have A0 := Mem.Blk.new w #[.map q, .int .i64 m, .slice (some ⟨g, 0, none⟩) (m0.len + 1) cap] 50
      have hlf := hide (leaf_any (.cons k0 m0) q m (some ⟨g, 0, none⟩) cap)
      rw [show decide ((Pl.Fo.cons k0 m0).len = 0) = false from decide_eq_false (by omega)] at hlf
      rw [hlen] at hlf ⊢
      rw [hlv]
      have HI := hide (fun W (b : Below w.heap.size w W) => ih (by omega) k0 q1 r1 _ W (by omega) (Mem.lay_call HL b))
      have HC : Hid (∀ W, Below w.heap.size w W → W.cell? ⟨g, 0, none⟩ = some (.map q1) ∧ W.cell? ⟨g, 1, none⟩ = some (.int .i64 r1) ∧ W.cell? ⟨g, 2, none⟩ = some (.slice a1 k0.len cap1)) := fun W b => ⟨(b.cell (p := ⟨g, _, none⟩) hg).trans c0, (b.cell (p := ⟨g, _, none⟩) hg).trans c1, (b.cell (p := ⟨g, _, none⟩) hg).trans c2⟩
      clear ih base hsub HL c0 c1 c2 hlen hlv
      go_enter Tryd.func18, Tryd.ntmps18
      go_wp2_with fail
      generalize w.alloc (.cells #[.map q, .int .i64 m, .slice (some ⟨g, 0, none⟩) (m0.len + 1) cap] 50) = w2 at b0 A0 ⊢
      refine (unhide hlf _).mono ?_
      rintro e w1 ⟨rfl, b1⟩
      have bb := b0.trans (b1.mono b0.size)
      have c02 := (A0.call b1).cell 2
      simp only [List.getElem?_toArray, List.getElem?_cons_zero, List.getElem?_cons_succ] at c02
      obtain ⟨d0, d1, d2⟩ := unhide HC w1 bb
      have hcall := hide (unhide HI w1 bb)
      clear b0 b1 hlf A0 HI HC
      go_wp2_with fail
      refine (unhide hcall).mono ?_
      rintro e wX ⟨rfl, bX⟩
      have bw2 := bb.trans (bX.mono bb.size)
      clear bb bX hcall d0 d1 d2 c02
      go_wp2
      go_ret
      exact ⟨by simp, bw2⟩
end WNestI
end Go.Proofs.YtaceknlimlnpgaaDoor
