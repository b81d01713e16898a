/- The walk of the law FnOver, over the walks of the functions and of the draws (by genFO.py). -/
import Derived.Test.YtepmojmelcngeaaGreatDoorG57
import Derived.Test.YtepmojmelcngeaaGreatDoorG34
import Derived.Test.YtepmojmelcngeaaGreatDoorWOverF
import Derived.Test.YtepmojmelcngeaaGreatDoorG47
import Derived.Test.YtepmojmelcngeaaGreatDoorG59
import Derived.Test.YtepmojmelcngeaaGreatDoorG13
import Derived.Test.YtepmojmelcngeaaGreatDoorG48
import Derived.Laws.Cover1
namespace Go.Proofs.YtepmojmelcngeaaGreatDoor
open Go.RowKit
namespace fnOver
open Pl in
theorem over_small (Ls : List (List Nd)) : ∀ n ∈ overN Ls (allO Ls), n.path.size ≤ 1048576 ∧ n.data.size ≤ 1048576 := by
  intro n hn
  unfold overN at hn
  split at hn
  · rename_i h
    obtain ⟨h4, htr⟩ := lay_ok h.1
    have h2 := told_ok htr (((all_told h4 htr).mem n).1 hn)
    have := pathB_le h2.1
    exact ⟨by omega, h2.2⟩
  · cases hn
open Pl in
theorem all_lay (Ls : List (List Nd)) (h : layB Ls = true) : AllN Ls (allO Ls) := all_told (lay_ok h).1 (lay_ok h).2
open Pl in
theorem over_le (Ls : List (List Nd)) (O : List Nd) : (overN Ls O).length ≤ 40 := by
  unfold overN
  split
  · rename_i h; exact h.2
  · exact Nat.zero_le _
open Pl in
theorem over_all {Ls : List (List Nd)} (h : overC Ls (allO Ls) = 0) : layB Ls = true ∧ (allO Ls).length ≤ 40 ∧ overN Ls (allO Ls) = allO Ls := by
  unfold overC at h
  split at h
  · rename_i hl
    split at h
    · cases h
    · rename_i h40
      have h41 : (allO Ls).length ≤ 40 := by omega
      exact ⟨hl, h41, by rw [overN, if_pos ⟨hl, h41⟩]⟩
  · cases h
open Pl in
theorem over_tree {Ls : List (List Nd)} (h : overC Ls (allO Ls) = 0) : treeB (overN Ls (allO Ls)) = true := by
  obtain ⟨h1, h2, h3⟩ := over_all h
  rw [h3]
  exact all_tree (lay_ok h1).1 (lay_ok h1).2 h2
open Pl in
theorem over_get {Ls : List (List Nd)} (h : overC Ls (allO Ls) = 0) (p : ByteArray) : getV (overN Ls (allO Ls)) p = seenV Ls p := by
  obtain ⟨h1, h2, h3⟩ := over_all h
  rw [h3]
  exact (seen_get h1 h2 p).symm
open Pl in
theorem seen_form (Ls : List (List Nd)) (p : ByteArray) : ∃ (np : ByteArray) (nk : Int) (nd : ByteArray) (nt nm c : Int), seenV Ls p = .agg #[.string np, .int .i64 nk, .string nd, .int .i64 nt, .int .i64 nm, .int .i64 c] := by
  unfold seenV
  split
  · exact ⟨⟨#[]⟩, 0, ⟨#[]⟩, 0, 0, _, rfl⟩
  split
  · exact ⟨⟨#[]⟩, 0, ⟨#[]⟩, 0, 0, _, rfl⟩
  split
  · exact ⟨_, _, _, _, _, _, rfl⟩
  · exact ⟨⟨#[]⟩, 0, ⟨#[]⟩, 0, 0, _, rfl⟩
/-- What stands while the law asks. -/
structure Fk (w W : World) (X5 X6 X7 X9 X10 : Nat) (la xa ma za : Option Addr) (lc xc mc zc : Nat) (Ts Us : List Pl.Tr) (O Z : List Pl.Nd) (np : ByteArray) (nk : Int) (nd : ByteArray) (nt nm C c D : Int) : Prop where
  bel : Below w.heap.size w W
  b5 : Mem.Blk W X5 #[.slice la Ts.length lc] 60
  b6 : Mem.Blk W X6 #[.slice xa O.length xc, .int .i64 C] 33
  b7 : Mem.Blk W X7 #[.slice ma Us.length mc] 60
  b9 : Mem.Blk W X9 #[.string np, .int .i64 nk, .string nd, .int .i64 nt, .int .i64 nm, .int .i64 c] 52
  b10 : Mem.Blk W X10 #[.slice za Z.length zc, .int .i64 D] 33
  t5 : Mem.isTrees W la Ts
  n6 : Mem.isNodes W xa O
  t7 : Mem.isTrees W ma Us
  n10 : Mem.isNodes W za Z
section
variable {w W W' : World} {X5 X6 X7 X9 X10 : Nat} {la xa ma za : Option Addr} {lc xc mc zc : Nat} {Ts Us : List Pl.Tr} {O Z : List Pl.Nd} {np : ByteArray} {nk : Int} {nd : ByteArray} {nt nm C c D : Int}
theorem Fk.call (h : Fk w W X5 X6 X7 X9 X10 la xa ma za lc xc mc zc Ts Us O Z np nk nd nt nm C c D) (b : Below W.heap.size W W') : Fk w W' X5 X6 X7 X9 X10 la xa ma za lc xc mc zc Ts Us O Z np nk nd nt nm C c D :=
  ⟨h.bel.trans (b.mono h.bel.size), h.b5.call b, h.b6.call b, h.b7.call b, h.b9.call b, h.b10.call b, Mem.trees_call h.t5 b, Mem.nodes_call h.n6 b, Mem.trees_call h.t7 b, Mem.nodes_call h.n10 b⟩
theorem Fk.drew (h : Fk w W X5 X6 X7 X9 X10 la xa ma za lc xc mc zc Ts Us O Z np nk nd nt nm C c D) : Fk w W.drew X5 X6 X7 X9 X10 la xa ma za lc xc mc zc Ts Us O Z np nk nd nt nm C c D :=
  h.call ⟨rfl, rfl, rfl, Nat.le_refl _, fun _ _ => rfl⟩
end
theorem row_below {w w' : World} {a : Option Addr} {len cap : Nat} (h : WSrc.RowB w w.heap.size a len cap) (b : Below w.heap.size w w') : WSrc.RowB w' w'.heap.size a len cap := WSrc.row_up h b b.size
theorem lay_all {W : World} {B : Nat} {va : Option Addr} {Ts : List Pl.Tr} (h : WSrc.LayV W B va Ts) : ∀ t ∈ Ts, t.L.length ≤ 1048576 ∧ ∀ n ∈ t.L, n.path.size ≤ 1048576 ∧ n.data.size ≤ 1048576 := fun t ht =>
  ⟨by have := (h.each t ht).2.1; omega, Pl.small_ok (h.each t ht).2.2⟩
set_option linter.unusedSimpArgs false in
set_option maxRecDepth 100000 in
set_option maxHeartbeats 4000000 in
theorem walk (a0 : Option Addr) (len0 cap0 : Nat) (a1 : Option Addr) (len1 cap1 : Nat) (w : World) (w0 : WSrc.RowB w w.heap.size a0 len0 cap0) (w1 : WSrc.RowB w w.heap.size a1 len1 cap1) (x : Nat → Addr) (hE : WIs.Six w x) :
    Calls Tryz.prog 5 #[.slice a0 len0 cap0, .slice a1 len1 cap1] w fun e w' => e = .returned (.bool true) ∧ Below w.heap.size w w' := by
  by_cases hL0 : (1048576 : Int) < (len0 : Int)
  · clear w0 w1 hE
    go_enter Tryz.func5, Tryz.ntmps5
    go_wp2
    go_ret
    exact ⟨rfl, Below.refl _ _⟩
  by_cases hL1 : (1048576 : Int) < (len1 : Int)
  · clear w0 w1 hE
    go_enter Tryz.func5, Tryz.ntmps5
    go_wp2
    go_ret
    exact ⟨rfl, Below.refl _ _⟩
  have HE := hide (fun W (b : Below w.heap.size w W) => hE.call b)
  have hd1 := hide (WSrc.drawOver_any a0 len0 cap0 w w0)
  have hd2 := hide (fun W (b : Below w.heap.size w W) => WSrc.drawSeenAt_any a1 len1 cap1 W (row_below w1 b))
  clear w0 w1 hE
  go_enter Tryz.func5, Tryz.ntmps5
  go_wp2_with fail
  refine (unhide hd1).mono ?_
  rintro e v1 ⟨la, lc, Ts, hl, rfl, lv, b1⟩
  have OKT := hide (lay_all lv)
  have B5 := hide (Mem.Blk.new v1 #[.slice la Ts.length lc] 60)
  have T5 := hide (Mem.trees_call lv.trees ((Below.refl _ _).alloc (Nat.le_refl _) (.cells #[.slice la Ts.length lc] 60)))
  have b2 := b1.alloc b1.size (.cells #[.slice la Ts.length lc] 60)
  clear hd1 lv b1
  have hio := hide (fun W (b : Below w.heap.size w W) (v : Mem.isTrees W la Ts) => WGather.impl_any la lc Ts (Pl.allO (Ts.map (·.L))) W (by omega) v (unhide OKT) (all_lay (Ts.map (·.L))) x (unhide HE W b))
  have hso := hide (fun W (v : Mem.isTrees W la Ts) => WWalk4.spec_any la lc Ts W (by omega) v (unhide OKT))
  have hli := hide (fun W (b : Below w.heap.size w W) (v : Mem.isTrees W la Ts) => WOverI.right_any la lc Ts W (by omega) v (unhide OKT) _ _ _ _ _ _ (unhide HE W b).errs)
  have hls := hide (fun W (v : Mem.isTrees W la Ts) => WLayS.any la lc Ts W (by omega) v (unhide OKT))
  have HOS := hide (over_small (Ts.map (·.L)))
  have HOT := hide (over_tree (Ls := Ts.map (·.L)))
  have hol := over_le (Ts.map (·.L)) (Pl.allO (Ts.map (·.L)))
  generalize Pl.overN (Ts.map (·.L)) (Pl.allO (Ts.map (·.L))) = O at hio hso HOS HOT hol
  generalize Pl.overC (Ts.map (·.L)) (Pl.allO (Ts.map (·.L))) = C at hio hso HOT
  generalize Pl.layB (Ts.map (·.L)) = LB at hli hls
  have x5 := (unhide B5).cell 0
  simp only [kA0, kA1, kA2] at x5
  go_wp2_with fail
  generalize v1.alloc (.cells #[.slice la Ts.length lc] 60) = v2 at B5 T5 b2 x5 ⊢
  generalize v1.heap.size = X5 at B5 x5 ⊢
  refine (unhide hio _ b2 (unhide T5)).mono ?_
  rintro e v3 ⟨vx, rfl, own3, b3⟩
  obtain ⟨xa, xc, hvx⟩ := Mem.own_shape own3
  subst hvx
  have b3' := b3.alloc b3.size (.cells #[.slice xa O.length xc, .int .i64 C] 33)
  have B6 := hide (Mem.Blk.new v3 #[.slice xa O.length xc, .int .i64 C] 33)
  have B5 := hide ((unhide B5).call b3')
  have T5 := hide (Mem.trees_call (unhide T5) b3')
  have N6 := hide ((WSrc.treeV_own own3).alloc (.cells #[.slice xa O.length xc, .int .i64 C] 33)).1
  have b4 := b2.trans (b3'.mono b2.size)
  clear hio own3 b3 b3' b2 x5
  go_wp2_with fail
  generalize v3.alloc (.cells #[.slice xa O.length xc, .int .i64 C] 33) = v4 at B5 B6 T5 N6 b4 ⊢
  generalize v3.heap.size = X6 at B6 ⊢
  refine (unhide hd2 _ b4).mono ?_
  rintro e v5 ⟨ma, mc, Us, p, hl2, hp, rfl, lv, b5⟩
  have OKU := hide (lay_all lv)
  have b5' := b5.alloc b5.size (.cells #[.slice ma Us.length mc] 60)
  have B7 := hide (Mem.Blk.new v5 #[.slice ma Us.length mc] 60)
  have T7 := hide (Mem.trees_call lv.trees ((Below.refl _ _).alloc (Nat.le_refl _) (.cells #[.slice ma Us.length mc] 60)))
  have B5 := hide ((unhide B5).call b5')
  have B6 := hide ((unhide B6).call b5')
  have T5 := hide (Mem.trees_call (unhide T5) b5')
  have N6 := hide (Mem.nodes_call (unhide N6) b5')
  have b6 := b4.trans (b5'.mono b4.size)
  clear hd2 lv b5 b5' b4
  have hsi := hide (WSeen.impl_any ma mc Us p _ (by omega) (unhide T7) (unhide OKU) (by omega) _ _ _ _ _ _ (unhide HE _ b6).errs)
  have hss := hide (fun W (v : Mem.isTrees W ma Us) => WPick.seenS_any ma mc Us p W (by omega) v (unhide OKU) (by omega))
  have hzo := hide (fun W (b : Below w.heap.size w W) (v : Mem.isTrees W ma Us) => WGather.impl_any ma mc Us (Pl.allO (Us.map (·.L))) W (by omega) v (unhide OKU) (all_lay (Us.map (·.L))) x (unhide HE W b))
  have HG := hide (fun h => over_get (Ls := Us.map (·.L)) h p)
  have HZS := hide (over_small (Us.map (·.L)))
  have hzl := over_le (Us.map (·.L)) (Pl.allO (Us.map (·.L)))
  obtain ⟨np, nk, nd, nt, nm, c, hV⟩ := seen_form (Us.map (·.L)) p
  rw [hV] at hsi hss HG
  clear hV
  generalize Pl.overN (Us.map (·.L)) (Pl.allO (Us.map (·.L))) = Z at hzo HG HZS hzl
  generalize Pl.overC (Us.map (·.L)) (Pl.allO (Us.map (·.L))) = D at hzo HG
  have x7 := (unhide B7).cell 0
  simp only [kA0, kA1, kA2] at x7
  go_wp2_with fail
  generalize v5.alloc (.cells #[.slice ma Us.length mc] 60) = v6 at B5 B6 B7 T5 T7 N6 b6 hsi x7 ⊢
  generalize v5.heap.size = X7 at B7 x7 ⊢
  refine (unhide hsi).mono ?_
  rintro e v7 ⟨rfl, b7⟩
  have b7' := b7.alloc b7.size (.cells #[.string np, .int .i64 nk, .string nd, .int .i64 nt, .int .i64 nm, .int .i64 c] 52)
  have B9 := hide (Mem.Blk.new v7 #[.string np, .int .i64 nk, .string nd, .int .i64 nt, .int .i64 nm, .int .i64 c] 52)
  have B5 := hide ((unhide B5).call b7')
  have B6 := hide ((unhide B6).call b7')
  have B7 := hide ((unhide B7).call b7')
  have T5 := hide (Mem.trees_call (unhide T5) b7')
  have T7 := hide (Mem.trees_call (unhide T7) b7')
  have N6 := hide (Mem.nodes_call (unhide N6) b7')
  have b8 := b6.trans (b7'.mono b6.size)
  clear hsi b7 b7' b6 x7
  have x7 := (unhide B7).cell 0
  simp only [kA0, kA1, kA2] at x7
  go_wp2_with fail
  generalize v7.alloc (.cells #[.string np, .int .i64 nk, .string nd, .int .i64 nt, .int .i64 nm, .int .i64 c] 52) = v8 at B5 B6 B7 B9 T5 T7 N6 b8 x7 ⊢
  generalize v7.heap.size = X9 at B9 ⊢
  refine (unhide hzo _ b8 (unhide T7)).mono ?_
  rintro e v9 ⟨vz, rfl, own9, b9⟩
  obtain ⟨za, zc, hvz⟩ := Mem.own_shape own9
  subst hvz
  have b9' := b9.alloc b9.size (.cells #[.slice za Z.length zc, .int .i64 D] 33)
  have K5 : Hid (Fk w (v9.alloc (.cells #[.slice za Z.length zc, .int .i64 D] 33)) X5 X6 X7 X9 v9.heap.size la xa ma za lc xc mc zc Ts Us O Z np nk nd nt nm C c D) :=
    ⟨b8.trans (b9'.mono b8.size), (unhide B5).call b9', (unhide B6).call b9', (unhide B7).call b9', (unhide B9).call b9', Mem.Blk.new _ _ _, Mem.trees_call (unhide T5) b9', Mem.nodes_call (unhide N6) b9', Mem.trees_call (unhide T7) b9', ((WSrc.treeV_own own9).alloc _).1⟩
  clear hzo own9 b9 b9' b8 B5 B6 B7 B9 T5 T7 N6 x7
  go_wp2_with fail
  generalize v9.alloc (.cells #[.slice za Z.length zc, .int .i64 D] 33) = vA at K5 ⊢
  generalize v9.heap.size = X10 at K5 ⊢
  have MK : Hid (∀ W', Fk w W' X5 X6 X7 X9 X10 la xa ma za lc xc mc zc Ts Us O Z np nk nd nt nm C c D → (fun W' => Fk w W' X5 X6 X7 X9 X10 la xa ma za lc xc mc zc Ts Us O Z np nk nd nt nm C c D ∧ W'.cell? ⟨X5, 0, none⟩ = some (.slice la Ts.length lc) ∧ W'.cell? ⟨X6, 0, none⟩ = some (.slice xa O.length xc) ∧ W'.cell? ⟨X6, 1, none⟩ = some (.int .i64 C) ∧ W'.cell? ⟨X7, 0, none⟩ = some (.slice ma Us.length mc) ∧ W'.cell? ⟨X9, 0, none⟩ = some (.string np) ∧ W'.cell? ⟨X9, 1, none⟩ = some (.int .i64 nk) ∧ W'.cell? ⟨X9, 2, none⟩ = some (.string nd) ∧ W'.cell? ⟨X9, 3, none⟩ = some (.int .i64 nt) ∧ W'.cell? ⟨X9, 4, none⟩ = some (.int .i64 nm) ∧ W'.cell? ⟨X9, 5, none⟩ = some (.int .i64 c) ∧ W'.cell? ⟨X10, 0, none⟩ = some (.slice za Z.length zc) ∧ W'.cell? ⟨X10, 1, none⟩ = some (.int .i64 D)) W') := fun W' h => ⟨h, (by have e := h.b5.cell 0; simp only [kA0, kA1, kA2] at e; exact e), (by have e := h.b6.cell 0; simp only [kA0, kA1, kA2] at e; exact e), (by have e := h.b6.cell 1; simp only [kA0, kA1, kA2] at e; exact e), (by have e := h.b7.cell 0; simp only [kA0, kA1, kA2] at e; exact e), (by have e := h.b9.cell 0; simp only [kA0, kA1, kA2] at e; exact e), (by have e := h.b9.cell 1; simp only [kA0, kA1, kA2] at e; exact e), (by have e := h.b9.cell 2; simp only [kA0, kA1, kA2] at e; exact e), (by have e := h.b9.cell 3; simp only [kA0, kA1, kA2] at e; exact e), (by have e := h.b9.cell 4; simp only [kA0, kA1, kA2] at e; exact e), (by have e := h.b9.cell 5; simp only [kA0, kA1, kA2] at e; exact e), (by have e := h.b10.cell 0; simp only [kA0, kA1, kA2] at e; exact e), (by have e := h.b10.cell 1; simp only [kA0, kA1, kA2] at e; exact e)⟩
  refine wp_region_held_drew (S := fun W' => Fk w W' X5 X6 X7 X9 X10 la xa ma za lc xc mc zc Ts Us O Z np nk nd nt nm C c D ∧ W'.cell? ⟨X5, 0, none⟩ = some (.slice la Ts.length lc) ∧ W'.cell? ⟨X6, 0, none⟩ = some (.slice xa O.length xc) ∧ W'.cell? ⟨X6, 1, none⟩ = some (.int .i64 C) ∧ W'.cell? ⟨X7, 0, none⟩ = some (.slice ma Us.length mc) ∧ W'.cell? ⟨X9, 0, none⟩ = some (.string np) ∧ W'.cell? ⟨X9, 1, none⟩ = some (.int .i64 nk) ∧ W'.cell? ⟨X9, 2, none⟩ = some (.string nd) ∧ W'.cell? ⟨X9, 3, none⟩ = some (.int .i64 nt) ∧ W'.cell? ⟨X9, 4, none⟩ = some (.int .i64 nm) ∧ W'.cell? ⟨X9, 5, none⟩ = some (.int .i64 c) ∧ W'.cell? ⟨X10, 0, none⟩ = some (.slice za Z.length zc) ∧ W'.cell? ⟨X10, 1, none⟩ = some (.int .i64 D)) (by kernel_rfl) ?_ (fun hHeld => ?_)
  · exact unhide MK _ (unhide K5).drew
  clear K5
  refine wpAnyH_take (i := 0) (v := ?_) rfl (by kernel_rfl) (by kernel_rfl) (by kernel_rfl) (fun _ _ _ h => h) (Or.inl ⟨by rfl, ?_⟩) (by assumption) ?_
  rotate_left
  · (intro w hSw; (try dsimp only at hSw); go_simp; (try with_reducible rfl))
  try simp only [Act.put, kB0, kB1, kB2, kB3, kB4, kB5]
  refine wpAnyH_take (i := 1) (v := ?_) rfl (by kernel_rfl) (by kernel_rfl) (by kernel_rfl) (fun _ _ _ h => h) (Or.inl ⟨by rfl, ?_⟩) (by assumption) ?_
  rotate_left
  · (intro w hSw; (try dsimp only at hSw); go_simp; (try with_reducible rfl))
  try simp only [Act.put, kB0, kB1, kB2, kB3, kB4, kB5]
  refine wpAnyH_ready (rs := [2]) (by kernel_rfl) (by simp) ?_
  refine AllReadyH.cons rfl (fun K hK => ?_) AllReadyH.nil
  go_simp
  refine (unhide hso _ hHeld.1.t5).mono ?_
  rintro e wX ⟨vs, rfl, ownS, bX⟩
  obtain ⟨sa, sc, hvs⟩ := Mem.own_shape ownS
  subst hvs
  have NS := hide (Mem.ownN_nodes ownS).2
  clear ownS
  refine hK.out _ _ ?_ (fun hHeld => ?_)
  · exact unhide MK _ (hHeld.1.call bX)
  clear hK K
  try simp only [Act.put, kB0, kB1, kB2, kB3, kB4, kB5]
  refine wpAnyH_ready (rs := [3]) (by kernel_rfl) (by simp) ?_
  refine AllReadyH.cons rfl (fun K hK => ?_) AllReadyH.nil
  go_simp
  refine (WLw.trees_any xa sa xc sc C O _ (by omega) hHeld.1.n6 (unhide NS) (unhide HOS) (unhide HOT)).mono ?_
  rintro e wX ⟨rfl, bX⟩
  refine hK.out _ _ ?_ (fun hHeld => ?_)
  · exact unhide MK _ (hHeld.1.call bX)
  clear hK K
  try simp only [Act.put, kB0, kB1, kB2, kB3, kB4, kB5]
  clear NS
  refine wpAnyH_take (i := 4) (v := ?_) rfl (by kernel_rfl) (by kernel_rfl) (by kernel_rfl) (fun _ _ _ h => h) (Or.inl ⟨by rfl, ?_⟩) (by assumption) ?_
  rotate_left
  · (intro w hSw; (try dsimp only at hSw); go_simp; (try with_reducible rfl))
  try simp only [Act.put, kB0, kB1, kB2, kB3, kB4, kB5]
  refine wpAnyH_take (i := 5) (v := ?_) rfl (by kernel_rfl) (by kernel_rfl) (by kernel_rfl) (fun _ _ _ h => h) (Or.inl ⟨by rfl, ?_⟩) (by assumption) ?_
  rotate_left
  · (intro w hSw; (try dsimp only at hSw); go_simp; (try with_reducible rfl))
  try simp only [Act.put, kB0, kB1, kB2, kB3, kB4, kB5]
  refine wpAnyH_take (i := 6) (v := ?_) rfl (by kernel_rfl) (by kernel_rfl) (by kernel_rfl) (fun _ _ _ h => h) (Or.inl ⟨by rfl, ?_⟩) (by assumption) ?_
  rotate_left
  · (intro w hSw; (try dsimp only at hSw); go_simp; (try with_reducible rfl))
  try simp only [Act.put, kB0, kB1, kB2, kB3, kB4, kB5]
  refine wpAnyH_take (i := 7) (v := ?_) rfl (by kernel_rfl) (by kernel_rfl) (by kernel_rfl) (fun _ _ _ h => h) (Or.inl ⟨by rfl, ?_⟩) (by assumption) ?_
  rotate_left
  · (intro w hSw; (try dsimp only at hSw); go_simp; (try with_reducible rfl))
  try simp only [Act.put, kB0, kB1, kB2, kB3, kB4, kB5]
  refine wpAnyH_take (i := 8) (v := ?_) rfl (by kernel_rfl) (by kernel_rfl) (by kernel_rfl) (fun _ _ _ h => h) (Or.inl ⟨by rfl, ?_⟩) (by assumption) ?_
  rotate_left
  · (intro w hSw; (try dsimp only at hSw); go_simp; (try with_reducible rfl))
  try simp only [Act.put, kB0, kB1, kB2, kB3, kB4, kB5]
  refine wpAnyH_ready (rs := [9]) (by kernel_rfl) (by simp) ?_
  refine AllReadyH.cons rfl (fun K hK => ?_) AllReadyH.nil
  go_simp
  refine (unhide hss _ hHeld.1.t7).mono ?_
  rintro e wX ⟨rfl, bX⟩
  refine hK.out _ _ ?_ (fun hHeld => ?_)
  · exact unhide MK _ (hHeld.1.call bX)
  clear hK K
  try simp only [Act.put, kB0, kB1, kB2, kB3, kB4, kB5]
  refine wpAnyH_take (i := 10) (v := ?_) rfl (by kernel_rfl) (by kernel_rfl) (by kernel_rfl) (fun _ _ _ h => h) (Or.inl ⟨by rfl, ?_⟩) (by assumption) ?_
  rotate_left
  · (intro w hSw; (try dsimp only at hSw); go_simp; (try with_reducible rfl))
  try simp only [Act.put, kB0, kB1, kB2, kB3, kB4, kB5]
  refine wpAnyH_take (i := 11) (v := ?_) rfl (by kernel_rfl) (by kernel_rfl) (by kernel_rfl) (fun _ _ _ h => h) (Or.inl ⟨by rfl, ?_⟩) (by assumption) ?_
  rotate_left
  · (intro w hSw; (try dsimp only at hSw); go_simp; (try with_reducible rfl))
  try simp only [Act.put, kB0, kB1, kB2, kB3, kB4, kB5]
  refine wpAnyH_take (i := 12) (v := ?_) rfl (by kernel_rfl) (by kernel_rfl) (by kernel_rfl) (fun _ _ _ h => h) (Or.inl ⟨by rfl, ?_⟩) (by assumption) ?_
  rotate_left
  · (intro w hSw; (try dsimp only at hSw); go_simp; (try with_reducible rfl))
  try simp only [Act.put, kB0, kB1, kB2, kB3, kB4, kB5]
  refine wpAnyH_take (i := 13) (v := ?_) rfl (by kernel_rfl) (by kernel_rfl) (by kernel_rfl) (fun _ _ _ h => h) (Or.inl ⟨by rfl, ?_⟩) (by assumption) ?_
  rotate_left
  · (intro w hSw; (try dsimp only at hSw); go_simp; (try with_reducible rfl))
  try simp only [Act.put, kB0, kB1, kB2, kB3, kB4, kB5]
  refine wpAnyH_take (i := 15) (v := ?_) rfl (by kernel_rfl) (by kernel_rfl) (by kernel_rfl) (fun _ _ _ h => h) (Or.inl ⟨by rfl, ?_⟩) (by assumption) ?_
  rotate_left
  · (intro w hSw; (try dsimp only at hSw); go_simp; (try with_reducible rfl))
  try simp only [Act.put, kB0, kB1, kB2, kB3, kB4, kB5]
  refine wpAnyH_ready (rs := [14]) (by kernel_rfl) (by simp) ?_
  refine AllReadyH.cons rfl (fun K hK => ?_) AllReadyH.nil
  go_simp
  refine (unhide hli _ hHeld.1.bel hHeld.1.t5).mono ?_
  rintro e wX ⟨rfl, bX⟩
  refine hK.out _ _ ?_ (fun hHeld => ?_)
  · exact unhide MK _ (hHeld.1.call bX)
  clear hK K
  try simp only [Act.put, kB0, kB1, kB2, kB3, kB4, kB5]
  refine wpAnyH_ready (rs := [16]) (by kernel_rfl) (by simp) ?_
  refine AllReadyH.cons rfl (fun K hK => ?_) AllReadyH.nil
  go_simp
  refine (unhide hls _ hHeld.1.t5).mono ?_
  rintro e wX ⟨rfl, bX⟩
  refine hK.out _ _ ?_ (fun hHeld => ?_)
  · exact unhide MK _ (hHeld.1.call bX)
  clear hK K
  try simp only [Act.put, kB0, kB1, kB2, kB3, kB4, kB5]
  refine wpAnyH_take (i := 17) (v := ?_) rfl (by kernel_rfl) (by kernel_rfl) (by kernel_rfl) (fun _ _ _ h => h) (Or.inl ⟨by rfl, ?_⟩) (by assumption) ?_
  rotate_left
  · (intro w hSw; (try dsimp only at hSw); go_simp; (try with_reducible rfl))
  try simp only [Act.put, kB0, kB1, kB2, kB3, kB4, kB5]
  refine wpAnyH_take (i := 18) (v := ?_) rfl (by kernel_rfl) (by kernel_rfl) (by kernel_rfl) (fun _ _ _ h => h) (Or.inl ⟨by rfl, ?_⟩) (by assumption) ?_
  rotate_left
  · (intro w hSw; (try dsimp only at hSw); go_simp; (try with_reducible rfl))
  try simp only [Act.put, kB0, kB1, kB2, kB3, kB4, kB5]
  refine wpAnyH_done (by kernel_rfl) ?_ _
  have K5 := hide hHeld.1
  clear hHeld hso hss hli hls
  have z1 := (unhide K5).b10.cell 1
  have z0 := (unhide K5).b10.cell 0
  have y5 := (unhide K5).b9.cell 5
  simp only [kA0, kA1, kA2] at z0 z1 y5
  by_cases hD : D = 0
  · subst hD
    by_cases hc : c = 1
    · subst hc
      go_wp2
      go_ret
      exact ⟨rfl, (unhide K5).bel⟩
    · have hc1 : (c == 1) = false := by simpa using hc
      have hc2 : decide (c = 1) = false := by simpa using hc
      have HGV := unhide HG rfl
      have hget := hide (fun W (v : Mem.isNodes W za Z) => WGetT.spec_any za zc Z p W (by omega) v (unhide HZS) (by omega))
      rw [HGV] at hget
      clear HGV HG
      go_wp2_with fail
      refine (unhide hget _ (unhide K5).n10).mono ?_
      rintro e wX ⟨rfl, bX⟩
      have bX' := bX.alloc bX.size (.cells #[.string np, .int .i64 nk, .string nd, .int .i64 nt, .int .i64 nm, .int .i64 c] 52)
      have B11 := Mem.Blk.new wX #[.string np, .int .i64 nk, .string nd, .int .i64 nt, .int .i64 nm, .int .i64 c] 52
      have K6 := hide ((unhide K5).call bX')
      clear K5 bX bX' z0 z1 y5
      have y0 := (unhide K6).b9.cell 0
      have u0 := B11.cell 0
      have y1 := (unhide K6).b9.cell 1
      have u1 := B11.cell 1
      have y2 := (unhide K6).b9.cell 2
      have u2 := B11.cell 2
      have y3 := (unhide K6).b9.cell 3
      have u3 := B11.cell 3
      have y4 := (unhide K6).b9.cell 4
      have u4 := B11.cell 4
      have y5 := (unhide K6).b9.cell 5
      have u5 := B11.cell 5
      simp only [kA0, kA1, kA2] at y0 u0 y1 u1 y2 u2 y3 u3 y4 u4 y5 u5
      go_wp2
      go_ret
      exact ⟨rfl, (unhide K6).bel⟩
  · have hD1 : (D == 0) = false := by simpa using hD
    have hD2 : decide (D = 0) = false := by simpa using hD
    have hD3 : (D != 0) = true := by simpa using hD
    go_wp2
    go_ret
    exact ⟨rfl, (unhide K5).bel⟩
end fnOver
end Go.Proofs.YtepmojmelcngeaaGreatDoor
