/- The walk of the law FnFirst, over the walks of the functions and of the draws (by gen3.py). -/
import Derived.Test.YtmohbgmbknfaiaaGreatDoorG25
import Derived.Test.YtmohbgmbknfaiaaGreatDoorG36
import Derived.Test.YtmohbgmbknfaiaaGreatDoorG44
import Derived.Test.YtmohbgmbknfaiaaGreatDoorWSeenF
import Derived.Test.YtmohbgmbknfaiaaGreatDoorG45
import Derived.Laws.Cover1
namespace Go.Proofs.YtmohbgmbknfaiaaGreatDoor
open Go.RowKit
namespace fnFirst
/-- What stands while the law asks. -/
structure Fk (w W : World) (X3 X4 : Nat) (la xa : Option Addr) (lc xc : Nat) (Ts : List Pl.Tr) (O : List Pl.Nd) (C : Int) : Prop where
  bel : Below w.heap.size w W
  b3 : Mem.Blk W X3 #[.slice la Ts.length lc] 25
  b4 : Mem.Blk W X4 #[.slice xa O.length xc, .int .i64 C] 31
  t3 : Mem.isTrees W la Ts
  n4 : Mem.isNodes W xa O
section
variable {w W W' : World} {X3 X4 : Nat} {la xa : Option Addr} {lc xc : Nat} {Ts : List Pl.Tr} {O : List Pl.Nd} {C : Int}
theorem Fk.call (h : Fk w W X3 X4 la xa lc xc Ts O C) (b : Below W.heap.size W W') : Fk w W' X3 X4 la xa lc xc Ts O C :=
  ⟨h.bel.trans (b.mono h.bel.size), h.b3.call b, h.b4.call b, Mem.trees_call h.t3 b, Mem.nodes_call h.n4 b⟩
theorem Fk.drew (h : Fk w W X3 X4 la xa lc xc Ts O C) : Fk w W.drew X3 X4 la xa lc xc Ts O C :=
  h.call ⟨rfl, rfl, rfl, Nat.le_refl _, fun _ _ => rfl⟩
end
/-- What stands in the loop. -/
structure Rk (w W : World) (X3 X4 : Nat) (la xa : Option Addr) (lc xc : Nat) (Ts : List Pl.Tr) (O : List Pl.Nd) (C : Int) (X5 : Nat) (tr : Pl.Tr) : Prop where
  fk : Fk w W X3 X4 la xa lc xc Ts O C
  b5 : Mem.Blk W X5 #[.slice tr.a tr.L.length tr.cap] 29
  n5 : Mem.isNodes W tr.a tr.L
section
variable {w W W' : World} {X3 X4 : Nat} {la xa : Option Addr} {lc xc : Nat} {Ts : List Pl.Tr} {O : List Pl.Nd} {C : Int} {X5 : Nat} {tr : Pl.Tr}
theorem Rk.call (h : Rk w W X3 X4 la xa lc xc Ts O C X5 tr) (b : Below W.heap.size W W') : Rk w W' X3 X4 la xa lc xc Ts O C X5 tr := ⟨h.fk.call b, h.b5.call b, Mem.nodes_call h.n5 b⟩
end
theorem lay_all {W : World} {B : Nat} {va : Option Addr} {Ts : List Pl.Tr} (h : WSrc.LayV W B va Ts) : ∀ t ∈ Ts, t.L.length ≤ 1048576 ∧ ∀ n ∈ t.L, n.path.size ≤ 1048576 ∧ n.data.size ≤ 1048576 := fun t ht =>
  ⟨by have := (h.each t ht).2.1; omega, Pl.small_ok (h.each t ht).2.2⟩
theorem lay_len {Ls : List (List Pl.Nd)} (h : Pl.layB Ls = true) : 1 ≤ Ls.length := by
  simp only [Pl.layB, Bool.and_eq_true, decide_eq_true_eq, List.all_eq_true] at h
  exact h.1.1
set_option linter.unusedSimpArgs false in
set_option maxRecDepth 100000 in
set_option maxHeartbeats 4000000 in
theorem walk (a0 : Option Addr) (len0 cap0 : Nat) (w : World) (w0 : WSrc.RowB w w.heap.size a0 len0 cap0) (x : Nat → Addr) (hE : WIs.Six w x) :
    Calls Tryz.prog 3 #[.slice a0 len0 cap0] w fun e w' => e = .returned (.bool true) ∧ Below w.heap.size w w' := by
  by_cases hL0 : (1048576 : Int) < (len0 : Int)
  · clear w0 hE
    go_enter Tryz.func3, Tryz.ntmps3
    go_wp2
    go_ret
    exact ⟨rfl, Below.refl _ _⟩
  have HE := hide (fun W (b : Below w.heap.size w W) => hE.call b)
  have hd1 := hide (WSrc.drawOver_any a0 len0 cap0 w w0)
  clear w0 hE
  go_enter Tryz.func3, Tryz.ntmps3
  go_wp2_with fail
  refine (unhide hd1).mono ?_
  rintro e v1 ⟨la, lc, Ts, hl, rfl, lv, b1⟩
  have OKT := hide (lay_all lv)
  have B3 := hide (Mem.Blk.new v1 #[.slice la Ts.length lc] 25)
  have T3 := hide (Mem.trees_call lv.trees ((Below.refl _ _).alloc (Nat.le_refl _) (.cells #[.slice la Ts.length lc] 25)))
  have b2 := b1.alloc b1.size (.cells #[.slice la Ts.length lc] 25)
  clear hd1 lv b1
  have hio := hide (fun W (b : Below w.heap.size w W) (v : Mem.isTrees W la Ts) => WGather.impl_any la lc Ts (Pl.allO (Ts.map (·.L))) W (by omega) v (unhide OKT) (Pl.all_lay (Ts.map (·.L))) x (unhide HE W b))
  have hso := hide (fun W (v : Mem.isTrees W la Ts) => WWalk4.spec_any la lc Ts W (by omega) v (unhide OKT))
  have hsi := hide (fun W p (hp : p.size ≤ 1048576) (b : Below w.heap.size w W) (v : Mem.isTrees W la Ts) => WSeen.impl_any la lc Ts p W (by omega) v (unhide OKT) hp _ _ _ _ _ _ (unhide HE W b).errs)
  have HOS := hide (Pl.over_small (Ts.map (·.L)))
  have HG := hide (fun h p => Pl.over_get (Ls := Ts.map (·.L)) h p)
  have HLB := hide (fun h => (Pl.over_all (Ls := Ts.map (·.L)) h).1)
  have hol := Pl.over_le (Ts.map (·.L)) (Pl.allO (Ts.map (·.L)))
  generalize Pl.overN (Ts.map (·.L)) (Pl.allO (Ts.map (·.L))) = O at hio hso HOS HG hol
  generalize Pl.overC (Ts.map (·.L)) (Pl.allO (Ts.map (·.L))) = C at hio hso HG HLB
  have x3 := (unhide B3).cell 0
  simp only [kA0, kA1, kA2] at x3
  go_wp2_with fail
  generalize v1.alloc (.cells #[.slice la Ts.length lc] 25) = v2 at B3 T3 b2 x3 ⊢
  generalize v1.heap.size = X3 at B3 x3 ⊢
  refine (unhide hio _ b2 (unhide T3)).mono ?_
  rintro e v3 ⟨vx, rfl, own3, b3⟩
  obtain ⟨xa, xc, hvx⟩ := Mem.own_shape own3
  subst hvx
  have b3' := b3.alloc b3.size (.cells #[.slice xa O.length xc, .int .i64 C] 31)
  have K4 : Hid (Fk w (v3.alloc (.cells #[.slice xa O.length xc, .int .i64 C] 31)) X3 v3.heap.size la xa lc xc Ts O C) :=
    ⟨b2.trans (b3'.mono b2.size), (unhide B3).call b3', Mem.Blk.new _ _ _, Mem.trees_call (unhide T3) b3', ((WSrc.treeV_own own3).alloc _).1⟩
  clear hio own3 b3 b3' b2 x3 B3 T3
  go_wp2_with fail
  generalize v3.alloc (.cells #[.slice xa O.length xc, .int .i64 C] 31) = v4 at K4 ⊢
  generalize v3.heap.size = X4 at K4 ⊢
  have MK : Hid (∀ W', Fk w W' X3 X4 la xa lc xc Ts O C → (fun W' => Fk w W' X3 X4 la xa lc xc Ts O C ∧ W'.cell? ⟨X3, 0, none⟩ = some (.slice la Ts.length lc) ∧ W'.cell? ⟨X4, 0, none⟩ = some (.slice xa O.length xc) ∧ W'.cell? ⟨X4, 1, none⟩ = some (.int .i64 C)) W') := fun W' h => ⟨h, (by have e := h.b3.cell 0; simp only [kA0, kA1, kA2] at e; exact e), (by have e := h.b4.cell 0; simp only [kA0, kA1, kA2] at e; exact e), (by have e := h.b4.cell 1; simp only [kA0, kA1, kA2] at e; exact e)⟩
  have hc0 : (C != C) = false := by simp
  have hc1 : (C == C) = true := by simp
  by_cases hC : C = 0
  rotate_left
  · have hD1 : (C == 0) = false := by simpa using hC
    have hD2 : decide (C = 0) = false := by simpa using hC
    have hD3 : (C != 0) = true := by simpa using hC
    refine wp_region_held_drew (S := fun W' => Fk w W' X3 X4 la xa lc xc Ts O C ∧ W'.cell? ⟨X3, 0, none⟩ = some (.slice la Ts.length lc) ∧ W'.cell? ⟨X4, 0, none⟩ = some (.slice xa O.length xc) ∧ W'.cell? ⟨X4, 1, none⟩ = some (.int .i64 C)) (by kernel_rfl) ?_ (fun hHeld => ?_)
    · exact unhide MK _ (unhide K4).drew
    clear K4
    refine wpAnyH_take (i := 0) (v := ?_) rfl (by kernel_rfl) (by kernel_rfl) (by kernel_rfl) (fun _ _ _ h => h) (Or.inl ⟨by rfl, ?_⟩) (by assumption) ?_
    rotate_left
    · (intro w hSw; (try dsimp only at hSw); go_simp; (try with_reducible rfl))
    try simp only [Act.put, kB0, kB1, kB2, kB3, kB4, kB5]
    refine wpAnyH_take (i := 1) (v := ?_) rfl (by kernel_rfl) (by kernel_rfl) (by kernel_rfl) (fun _ _ _ h => h) (Or.inl ⟨by rfl, ?_⟩) (by assumption) ?_
    rotate_left
    · (intro w hSw; (try dsimp only at hSw); go_simp; (try with_reducible rfl))
    try simp only [Act.put, kB0, kB1, kB2, kB3, kB4, kB5]
    refine wpAnyH_take (i := 2) (v := ?_) rfl (by kernel_rfl) (by kernel_rfl) (by kernel_rfl) (fun _ _ _ h => h) (Or.inl ⟨by rfl, ?_⟩) (by assumption) ?_
    rotate_left
    · (intro w hSw; (try dsimp only at hSw); go_simp; (try with_reducible rfl))
    try simp only [Act.put, kB0, kB1, kB2, kB3, kB4, kB5]
    refine wpAnyH_ready (rs := [3]) (by kernel_rfl) (by simp) ?_
    refine AllReadyH.cons rfl (fun K hK => ?_) AllReadyH.nil
    go_simp
    refine (unhide hso _ hHeld.1.t3).mono ?_
    rintro e wX ⟨vs, rfl, ownS, bX⟩
    obtain ⟨sa, sc, hvs⟩ := Mem.own_shape ownS
    subst hvs
    clear ownS
    have hf := hide (fun W => (by kernel_rfl : (Instr.field 31 (.agg #[.slice sa O.length sc, .int .i64 C]) 1).run Tryz.prog W = .ok (.int .i64 C) W))
    have hf' := unhide hf
    refine hK.out _ _ ?_ (fun hHeld => ?_)
    · exact unhide MK _ (hHeld.1.call bX)
    clear hK K
    try simp only [Act.put, kB0, kB1, kB2, kB3, kB4, kB5]
    refine wpAnyH_take (i := 4) (v := ?_) rfl (by kernel_rfl) (by kernel_rfl) (by kernel_rfl) (fun _ _ _ h => h) (Or.inl ⟨by rfl, ?_⟩) (by assumption) ?_
    rotate_left
    · (intro w hSw; (try dsimp only at hSw); go_simp; (try with_reducible rfl))
    try simp only [Act.put, kB0, kB1, kB2, kB3, kB4, kB5]
    refine wpAnyH_take (i := 5) (v := ?_) rfl (by kernel_rfl) (by kernel_rfl) (by kernel_rfl) (fun _ _ _ h => h) (Or.inl ⟨by rfl, ?_⟩) (by assumption) ?_
    rotate_left
    · (intro w hSw; (try dsimp only at hSw); go_simp; (try with_reducible rfl))
    try simp only [Act.put, kB0, kB1, kB2, kB3, kB4, kB5]
    refine wpAnyH_take (i := 6) (v := ?_) rfl (by kernel_rfl) (by kernel_rfl) (by kernel_rfl) (fun _ _ _ h => h) (Or.inl ⟨by rfl, ?_⟩) (by assumption) ?_
    rotate_left
    · (intro w hSw; (try dsimp only at hSw); go_simp; (try with_reducible rfl))
    try simp only [Act.put, kB0, kB1, kB2, kB3, kB4, kB5]
    refine wpAnyH_take (i := 7) (v := ?_) rfl (by kernel_rfl) (by kernel_rfl) (by kernel_rfl) (fun _ _ _ h => h) (Or.inl ⟨by rfl, ?_⟩) (by assumption) ?_
    rotate_left
    · (intro w hSw; (try dsimp only at hSw); go_simp; (try with_reducible rfl))
    try simp only [Act.put, kB0, kB1, kB2, kB3, kB4, kB5]
    refine wpAnyH_take (i := 8) (v := ?_) rfl (by kernel_rfl) (by kernel_rfl) (by kernel_rfl) (fun _ _ _ h => h) (Or.inl ⟨by rfl, ?_⟩) (by assumption) ?_
    rotate_left
    · (intro w hSw; (try dsimp only at hSw); go_simp; (try with_reducible rfl))
    try simp only [Act.put, kB0, kB1, kB2, kB3, kB4, kB5]
    refine wpAnyH_take (i := 9) (v := ?_) rfl (by kernel_rfl) (by kernel_rfl) (by kernel_rfl) (fun _ _ _ h => h) (Or.inl ⟨by rfl, ?_⟩) (by assumption) ?_
    rotate_left
    · (intro w hSw; (try dsimp only at hSw); go_simp; (try with_reducible rfl))
    try simp only [Act.put, kB0, kB1, kB2, kB3, kB4, kB5]
    refine wpAnyH_take (i := 10) (v := ?_) rfl (by kernel_rfl) (by kernel_rfl) (by kernel_rfl) (fun _ _ _ h => h) (Or.inl ⟨by rfl, ?_⟩) (by assumption) ?_
    rotate_left
    · (intro w hSw; (try dsimp only at hSw); go_simp; (try with_reducible rfl))
    try simp only [Act.put, kB0, kB1, kB2, kB3, kB4, kB5]
    refine wpAnyH_done (by kernel_rfl) ?_ _
    have K4 := hide hHeld.1
    clear hHeld hf hf'
    go_wp2_with fail
    refine wp_region_held_drew (S := fun W' => Fk w W' X3 X4 la xa lc xc Ts O C ∧ W'.cell? ⟨X3, 0, none⟩ = some (.slice la Ts.length lc) ∧ W'.cell? ⟨X4, 0, none⟩ = some (.slice xa O.length xc) ∧ W'.cell? ⟨X4, 1, none⟩ = some (.int .i64 C)) (by kernel_rfl) ?_ (fun hHeld => ?_)
    · exact unhide MK _ (unhide K4).drew
    clear K4
    refine wpAnyH_take (i := 0) (v := ?_) rfl (by kernel_rfl) (by kernel_rfl) (by kernel_rfl) (fun _ _ _ h => h) (Or.inl ⟨by rfl, ?_⟩) (by assumption) ?_
    rotate_left
    · (intro w hSw; (try dsimp only at hSw); go_simp; (try with_reducible rfl))
    try simp only [Act.put, kB0, kB1, kB2, kB3, kB4, kB5]
    refine wpAnyH_take (i := 1) (v := ?_) rfl (by kernel_rfl) (by kernel_rfl) (by kernel_rfl) (fun _ _ _ h => h) (Or.inl ⟨by rfl, ?_⟩) (by assumption) ?_
    rotate_left
    · (intro w hSw; (try dsimp only at hSw); go_simp; (try with_reducible rfl))
    try simp only [Act.put, kB0, kB1, kB2, kB3, kB4, kB5]
    refine wpAnyH_take (i := 2) (v := ?_) rfl (by kernel_rfl) (by kernel_rfl) (by kernel_rfl) (fun _ _ _ h => h) (Or.inl ⟨by rfl, ?_⟩) (by assumption) ?_
    rotate_left
    · (intro w hSw; (try dsimp only at hSw); go_simp; (try with_reducible rfl))
    try simp only [Act.put, kB0, kB1, kB2, kB3, kB4, kB5]
    refine wpAnyH_ready (rs := [3]) (by kernel_rfl) (by simp) ?_
    refine AllReadyH.cons rfl (fun K hK => ?_) AllReadyH.nil
    go_simp
    refine (unhide hso _ hHeld.1.t3).mono ?_
    rintro e wX ⟨vs, rfl, ownS, bX⟩
    obtain ⟨sa, sc, hvs⟩ := Mem.own_shape ownS
    subst hvs
    clear ownS
    have hf := hide (fun W => (by kernel_rfl : (Instr.field 31 (.agg #[.slice sa O.length sc, .int .i64 C]) 1).run Tryz.prog W = .ok (.int .i64 C) W))
    have hf' := unhide hf
    refine hK.out _ _ ?_ (fun hHeld => ?_)
    · exact unhide MK _ (hHeld.1.call bX)
    clear hK K
    try simp only [Act.put, kB0, kB1, kB2, kB3, kB4, kB5]
    refine wpAnyH_take (i := 4) (v := ?_) rfl (by kernel_rfl) (by kernel_rfl) (by kernel_rfl) (fun _ _ _ h => h) (Or.inl ⟨by rfl, ?_⟩) (by assumption) ?_
    rotate_left
    · (intro w hSw; (try dsimp only at hSw); go_simp; (try with_reducible rfl))
    try simp only [Act.put, kB0, kB1, kB2, kB3, kB4, kB5]
    refine wpAnyH_take (i := 5) (v := ?_) rfl (by kernel_rfl) (by kernel_rfl) (by kernel_rfl) (fun _ _ _ h => h) (Or.inl ⟨by rfl, ?_⟩) (by assumption) ?_
    rotate_left
    · (intro w hSw; (try dsimp only at hSw); go_simp; (try with_reducible rfl))
    try simp only [Act.put, kB0, kB1, kB2, kB3, kB4, kB5]
    refine wpAnyH_take (i := 6) (v := ?_) rfl (by kernel_rfl) (by kernel_rfl) (by kernel_rfl) (fun _ _ _ h => h) (Or.inl ⟨by rfl, ?_⟩) (by assumption) ?_
    rotate_left
    · (intro w hSw; (try dsimp only at hSw); go_simp; (try with_reducible rfl))
    try simp only [Act.put, kB0, kB1, kB2, kB3, kB4, kB5]
    refine wpAnyH_done (by kernel_rfl) ?_ _
    have K4 := hide hHeld.1
    clear hHeld hf hf'
    go_wp2
    go_ret
    exact ⟨rfl, (unhide K4).bel⟩
  subst hC
  refine wp_region_held_drew (S := fun W' => Fk w W' X3 X4 la xa lc xc Ts O 0 ∧ W'.cell? ⟨X3, 0, none⟩ = some (.slice la Ts.length lc) ∧ W'.cell? ⟨X4, 0, none⟩ = some (.slice xa O.length xc) ∧ W'.cell? ⟨X4, 1, none⟩ = some (.int .i64 0)) (by kernel_rfl) ?_ (fun hHeld => ?_)
  · exact unhide MK _ (unhide K4).drew
  clear K4
  refine wpAnyH_take (i := 0) (v := ?_) rfl (by kernel_rfl) (by kernel_rfl) (by kernel_rfl) (fun _ _ _ h => h) (Or.inl ⟨by rfl, ?_⟩) (by assumption) ?_
  rotate_left
  · (intro w hSw; (try dsimp only at hSw); go_simp; (try with_reducible rfl))
  try simp only [Act.put, kB0, kB1, kB2, kB3, kB4, kB5]
  refine wpAnyH_take (i := 1) (v := ?_) rfl (by kernel_rfl) (by kernel_rfl) (by kernel_rfl) (fun _ _ _ h => h) (Or.inl ⟨by rfl, ?_⟩) (by assumption) ?_
  rotate_left
  · (intro w hSw; (try dsimp only at hSw); go_simp; (try with_reducible rfl))
  try simp only [Act.put, kB0, kB1, kB2, kB3, kB4, kB5]
  refine wpAnyH_take (i := 2) (v := ?_) rfl (by kernel_rfl) (by kernel_rfl) (by kernel_rfl) (fun _ _ _ h => h) (Or.inl ⟨by rfl, ?_⟩) (by assumption) ?_
  rotate_left
  · (intro w hSw; (try dsimp only at hSw); go_simp; (try with_reducible rfl))
  try simp only [Act.put, kB0, kB1, kB2, kB3, kB4, kB5]
  refine wpAnyH_ready (rs := [3]) (by kernel_rfl) (by simp) ?_
  refine AllReadyH.cons rfl (fun K hK => ?_) AllReadyH.nil
  go_simp
  refine (unhide hso _ hHeld.1.t3).mono ?_
  rintro e wX ⟨vs, rfl, ownS, bX⟩
  obtain ⟨sa, sc, hvs⟩ := Mem.own_shape ownS
  subst hvs
  clear ownS
  have hf := hide (fun W => (by kernel_rfl : (Instr.field 31 (.agg #[.slice sa O.length sc, .int .i64 0]) 1).run Tryz.prog W = .ok (.int .i64 0) W))
  have hf' := unhide hf
  refine hK.out _ _ ?_ (fun hHeld => ?_)
  · exact unhide MK _ (hHeld.1.call bX)
  clear hK K
  try simp only [Act.put, kB0, kB1, kB2, kB3, kB4, kB5]
  refine wpAnyH_take (i := 4) (v := ?_) rfl (by kernel_rfl) (by kernel_rfl) (by kernel_rfl) (fun _ _ _ h => h) (Or.inl ⟨by rfl, ?_⟩) (by assumption) ?_
  rotate_left
  · (intro w hSw; (try dsimp only at hSw); go_simp; (try with_reducible rfl))
  try simp only [Act.put, kB0, kB1, kB2, kB3, kB4, kB5]
  refine wpAnyH_take (i := 5) (v := ?_) rfl (by kernel_rfl) (by kernel_rfl) (by kernel_rfl) (fun _ _ _ h => h) (Or.inl ⟨by rfl, ?_⟩) (by assumption) ?_
  rotate_left
  · (intro w hSw; (try dsimp only at hSw); go_simp; (try with_reducible rfl))
  try simp only [Act.put, kB0, kB1, kB2, kB3, kB4, kB5]
  refine wpAnyH_take (i := 6) (v := ?_) rfl (by kernel_rfl) (by kernel_rfl) (by kernel_rfl) (fun _ _ _ h => h) (Or.inl ⟨by rfl, ?_⟩) (by assumption) ?_
  rotate_left
  · (intro w hSw; (try dsimp only at hSw); go_simp; (try with_reducible rfl))
  try simp only [Act.put, kB0, kB1, kB2, kB3, kB4, kB5]
  refine wpAnyH_take (i := 7) (v := ?_) rfl (by kernel_rfl) (by kernel_rfl) (by kernel_rfl) (fun _ _ _ h => h) (Or.inl ⟨by rfl, ?_⟩) (by assumption) ?_
  rotate_left
  · (intro w hSw; (try dsimp only at hSw); go_simp; (try with_reducible rfl))
  try simp only [Act.put, kB0, kB1, kB2, kB3, kB4, kB5]
  refine wpAnyH_take (i := 8) (v := ?_) rfl (by kernel_rfl) (by kernel_rfl) (by kernel_rfl) (fun _ _ _ h => h) (Or.inl ⟨by rfl, ?_⟩) (by assumption) ?_
  rotate_left
  · (intro w hSw; (try dsimp only at hSw); go_simp; (try with_reducible rfl))
  try simp only [Act.put, kB0, kB1, kB2, kB3, kB4, kB5]
  refine wpAnyH_take (i := 9) (v := ?_) rfl (by kernel_rfl) (by kernel_rfl) (by kernel_rfl) (fun _ _ _ h => h) (Or.inl ⟨by rfl, ?_⟩) (by assumption) ?_
  rotate_left
  · (intro w hSw; (try dsimp only at hSw); go_simp; (try with_reducible rfl))
  try simp only [Act.put, kB0, kB1, kB2, kB3, kB4, kB5]
  refine wpAnyH_take (i := 10) (v := ?_) rfl (by kernel_rfl) (by kernel_rfl) (by kernel_rfl) (fun _ _ _ h => h) (Or.inl ⟨by rfl, ?_⟩) (by assumption) ?_
  rotate_left
  · (intro w hSw; (try dsimp only at hSw); go_simp; (try with_reducible rfl))
  try simp only [Act.put, kB0, kB1, kB2, kB3, kB4, kB5]
  refine wpAnyH_done (by kernel_rfl) ?_ _
  have K4 := hide hHeld.1
  clear hHeld hf hf'
  clear hso MK hc0 hc1
  have HL := unhide HLB rfl
  have hlen : 0 < Ts.length := by have := lay_len HL; rw [List.length_map] at this; omega
  have HGV := hide (unhide HG rfl)
  clear HG HLB
  obtain ⟨tr, htr⟩ : ∃ tr, Ts[0]? = some tr := ⟨_, List.getElem?_eq_getElem hlen⟩
  have HFS := hide (fun n (hn : n ∈ tr.L) => Pl.first_says HL (L := tr.L) (by rw [List.getElem?_map, htr]; rfl) (n := n) hn)
  have HNO := hide (fun n (hn : n ∈ tr.L) => ((unhide OKT) tr (List.mem_of_getElem? htr)).2 n hn)
  have htl : tr.L.length ≤ 1048576 := ((unhide OKT) tr (List.mem_of_getElem? htr)).1
  obtain ⟨⟨b, o, hla, hb, q⟩, hN⟩ := (unhide K4).t3 0 tr htr
  have K5 : Hid (Rk w (wX.alloc (.cells #[.slice tr.a tr.L.length tr.cap] 29)) X3 X4 la xa lc xc Ts O 0 wX.heap.size tr) :=
    ⟨(unhide K4).call ((Below.refl _ _).alloc (Nat.le_refl _) _), Mem.Blk.new _ _ _, Mem.nodes_call hN ((Below.refl _ _).alloc (Nat.le_refl _) _)⟩
  have x3 := (unhide K4).b3.cell 0
  simp only [kA0, kA1, kA2] at x3
  have y0 : (0 : Int) < (Ts.length : Int) := by omega
  have q' : wX.cell? ⟨b, o, none⟩ = some (.slice tr.a tr.L.length tr.cap) := q
  have HLA := hide hla
  rw [hla] at x3
  clear K4 hN hla HL q
  go_wp2_with fail
  generalize wX.alloc (.cells #[.slice tr.a tr.L.length tr.cap] 29) = v5 at K5 ⊢
  generalize wX.heap.size = X5 at K5 ⊢
  clear x3 q' hb y0 htr
  go_loopw [6] (fun i wr => ∃ k : Nat, k ≤ tr.L.length ∧ i = .int .i64 (k : Int) ∧ Hid (Rk w wr X3 X4 la xa lc xc Ts O 0 X5 tr)) (fun i _ => tr.L.length - (intOf i).toNat)
  case atStart => exact ⟨0, Nat.zero_le _, rfl, K5⟩
  case round =>
    obtain ⟨k, hk, rfl, KR⟩ := hrel
    clear K5
    have x5 := (unhide KR).b5.cell 0
    simp only [kA0, kA1, kA2] at x5
    by_cases hlt : k < tr.L.length
    rotate_left
    · have y1 : ¬ (k : Int) < (tr.L.length : Int) := by omega
      have hbel := (unhide KR).fk.bel
      go_wp2
      go_ret
      exact ⟨rfl, hbel⟩
    have y1 : (k : Int) < (tr.L.length : Int) := by omega
    have y3 : (0 : Int) ≤ (k : Int) := by omega
    obtain ⟨⟨p, kd, d, t, m⟩, hn⟩ : ∃ n, tr.L[k]? = some n := ⟨_, List.getElem?_eq_getElem hlt⟩
    have hmem := List.mem_of_getElem? hn
    have hps := (unhide HNO _ hmem).1
    obtain ⟨np, nk, nd, nt, nm, c, hV, hk0, hk2, hk1, hk3⟩ := unhide HFS _ hmem
    simp only at hps hV hk0 hk2 hk1 hk3
    obtain ⟨b', o', hta, hb', q0, q1, q2, q3, q4⟩ := (unhide KR).n5 k _ hn
    simp only at q0 q1 q2 q3 q4
    have hget := hide (fun W (b : Below w.heap.size w W) (v : Mem.isNodes W xa O) => WGetT.impl_any xa xc O p W (by omega) v (unhide HOS) hps x (unhide HE W b))
    have hsee := hide (fun W (b : Below w.heap.size w W) (v : Mem.isTrees W la Ts) => unhide hsi W p hps b v)
    rw [unhide HGV p, hV] at hget
    rw [hV] at hsee
    have K1 := hide ((unhide KR).call ((Below.refl _ _).alloc (Nat.le_refl _) (.cells #[.string p, .int .i64 kd, .string d, .int .i64 t, .int .i64 m] 34)))
    have BN := hide (Mem.Blk.new wr #[.string p, .int .i64 kd, .string d, .int .i64 t, .int .i64 m] 34)
    have x4 := (unhide K1).fk.b4.cell 0
    have n0 := (unhide BN).cell 0
    simp only [kA0, kA1, kA2] at x4 n0
    rw [hta] at x5
    clear hV hn hmem KR hta
    go_wp2_with fail
    generalize wr.alloc (.cells #[.string p, .int .i64 kd, .string d, .int .i64 t, .int .i64 m] 34) = u1 at K1 BN x4 n0 ⊢
    generalize wr.heap.size = XN at BN n0 ⊢
    refine (unhide hget _ (unhide K1).fk.bel (unhide K1).fk.n4).mono ?_
    rintro e u2 ⟨rfl, b2⟩
    have b2' := b2.alloc b2.size (.cells #[.string np, .int .i64 nk, .string nd, .int .i64 nt, .int .i64 nm, .int .i64 c] 36)
    have K2 := hide ((unhide K1).call b2')
    have BN2 := hide ((unhide BN).call b2')
    have BG := hide (Mem.Blk.new u2 #[.string np, .int .i64 nk, .string nd, .int .i64 nt, .int .i64 nm, .int .i64 c] 36)
    have x3 := (unhide K2).fk.b3.cell 0
    have m0 := (unhide BN2).cell 0
    simp only [kA0, kA1, kA2] at x3 m0
    clear hget K1 BN x4 n0 b2 b2' x5 q0 q1 q2 q3 q4 hb'
    go_wp2_with fail
    generalize u2.alloc (.cells #[.string np, .int .i64 nk, .string nd, .int .i64 nt, .int .i64 nm, .int .i64 c] 36) = u3 at K2 BN2 BG x3 m0 ⊢
    generalize u2.heap.size = XG at BG ⊢
    refine (unhide hsee _ (unhide K2).fk.bel (unhide K2).fk.t3).mono ?_
    rintro e u4 ⟨rfl, b4⟩
    have b4' := b4.alloc b4.size (.cells #[.string np, .int .i64 nk, .string nd, .int .i64 nt, .int .i64 nm, .int .i64 c] 36)
    have KE := hide ((unhide K2).call b4')
    have BN := hide ((unhide BN2).call b4')
    have BG := hide ((unhide BG).call b4')
    have BS := hide (Mem.Blk.new u4 #[.string np, .int .i64 nk, .string nd, .int .i64 nt, .int .i64 nm, .int .i64 c] 36)
    clear hsee K2 BN2 x3 m0 b4 b4'
    have n0 := (unhide BN).cell 0
    have n1 := (unhide BN).cell 1
    have n2 := (unhide BN).cell 2
    have n3 := (unhide BN).cell 3
    have n4 := (unhide BN).cell 4
    have g0 := (unhide BG).cell 0
    have s0 := (unhide BS).cell 0
    have g1 := (unhide BG).cell 1
    have s1 := (unhide BS).cell 1
    have g2 := (unhide BG).cell 2
    have s2 := (unhide BS).cell 2
    have g3 := (unhide BG).cell 3
    have s3 := (unhide BS).cell 3
    have g4 := (unhide BG).cell 4
    have s4 := (unhide BS).cell 4
    have g5 := (unhide BG).cell 5
    have s5 := (unhide BS).cell 5
    simp only [kA0, kA1, kA2] at n0 n1 n2 n3 n4 g0 s0 g1 s1 g2 s2 g3 s3 g4 s4 g5 s5
    rcases hk3 with hkd | hkd | hkd
    · subst hkd
      by_cases hc : c = 0
      · subst hc
        have e := hk0 rfl rfl
        subst e
        clear hk0 hk1 hk2
        go_wp2
        go_roundw
        case rel => exact ⟨k + 1, by omega, by go_num, KE⟩
        case measure => simp [intOf]; omega
      · have hc1 : (c == 0) = false := by simpa using hc
        have hc2 : decide (c = 0) = false := by simpa using hc
        clear hk0 hk1 hk2
        go_wp2
        go_roundw
        case rel => exact ⟨k + 1, by omega, by go_num, KE⟩
        case measure => simp [intOf]; omega
    · subst hkd
      obtain ⟨e1, e2, e3⟩ := hk1 rfl
      subst e1 e2 e3
      clear hk0 hk1 hk2
      go_wp2
      go_roundw
      case rel => exact ⟨k + 1, by omega, by go_num, KE⟩
      case measure => simp [intOf]; omega
    · subst hkd
      obtain ⟨e1, e2, e3, e4, e5, e6⟩ := hk2 rfl
      subst e1 e2 e3 e4 e5 e6
      clear hk0 hk1 hk2
      go_wp2
      go_roundw
      case rel => exact ⟨k + 1, by omega, by go_num, KE⟩
      case measure => simp [intOf]; omega
end fnFirst
end Go.Proofs.YtmohbgmbknfaiaaGreatDoor
