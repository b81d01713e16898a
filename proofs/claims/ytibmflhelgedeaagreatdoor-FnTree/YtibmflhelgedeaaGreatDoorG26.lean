/- Several texts of one claim in one file: WPutH, WPutC. -/
import Derived.Test.YtibmflhelgedeaaGreatDoorWPutG
import Derived.Test.YtibmflhelgedeaaGreatDoorPlainAddC
import Derived.Test.YtibmflhelgedeaaGreatDoorG07
/- The walk of the specification's l03Put over a nil slice; what a tree's slice may be. -/
namespace Go.Proofs.YtibmflhelgedeaaGreatDoor
open Go.RowKit
namespace WPutG
/-- A slice of nodes that a tree may have: nil, or one that lies below the heap's end. -/
def okA (w : World) (a : Option Addr) (cap : Nat) (L : List Pl.Nd) : Prop := (a = none ∧ cap = 0 ∧ L = []) ∨ ∃ g o, a = some ⟨g, o, none⟩ ∧ g < w.heap.size ∧ L.length ≤ cap
theorem okA_call {w w' : World} {a : Option Addr} {cap : Nat} {L : List Pl.Nd} (h : okA w a cap L) (b : w.heap.size ≤ w'.heap.size) : okA w' a cap L := by
  rcases h with h | ⟨g, o, h1, h2, h3⟩
  · exact .inl h
  · exact .inr ⟨g, o, h1, Nat.lt_of_lt_of_le h2 b, h3⟩
/-- What stands while l03Put goes on over nil. -/
structure At0 (w W : World) (n : Pl.Nd) : Prop where
  bel : Below w.heap.size w W
  one : Mem.Blk W w.heap.size #[.slice none 0 0] 25
  two : Mem.Blk W (w.heap.size + 1) n.cs.toArray 27
  three : Mem.Blk W (w.heap.size + 1 + 1) #[.slice none 0 0] 25
section
variable {w W W' : World} {n : Pl.Nd}
theorem At0.call (h : At0 w W n) (b : Below W.heap.size W W') : At0 w W' n :=
  ⟨h.bel.trans (b.mono h.bel.size), h.one.call b, h.two.call b, h.three.call b⟩
theorem At0.drew (h : At0 w W n) : At0 w W.drew n :=
  ⟨⟨h.bel.os, h.bel.tape, h.bel.output, h.bel.size, h.bel.block⟩, h.one, h.two, h.three⟩
theorem At0.grown {r : Option Nat} (h : At0 w W n) (b : W.grownBy W' r) (hr : ∀ q, r = some q → w.heap.size + 3 ≤ q) : At0 w W' n :=
  ⟨h.bel.grown b h.bel.size (fun q hq => by have := hr q hq; omega), h.one.grown b (fun e => by have := hr _ e.symm; omega), h.two.grown b (fun e => by have := hr _ e.symm; omega), h.three.grown b (fun e => by have := hr _ e.symm; omega)⟩
theorem At0.alloc (h : At0 w W n) (x : Obj) : At0 w (W.alloc x) n := h.call ((Below.refl _ _).alloc (Nat.le_refl _) x)
end
set_option linter.unusedSimpArgs false in
set_option maxRecDepth 100000 in
set_option maxHeartbeats 1000000 in
theorem put_nil (n : Pl.Nd) (w : World) :
    Calls Tryz.prog 140 #[.agg #[.slice none 0 0], n.val] w fun e w' => ∃ v, e = .returned (.agg #[v]) ∧ Mem.ownN w' w.heap.size v [n] ∧ Below w.heap.size w w' := by
  obtain ⟨i0, hi, hz0, hz1, hz2⟩ := info_parts WPutT.infoN
  obtain ⟨np, nk, nd, nt, nm⟩ := n
  simp only [Pl.Nd.val]
  have H0 : At0 w (((w.alloc (.cells #[.slice none 0 0] 25)).alloc (.cells #[.string np, .int .i64 nk, .string nd, .int .i64 nt, .int .i64 nm] 27)).alloc (.cells #[.slice none 0 0] 25)) ⟨np, nk, nd, nt, nm⟩ :=
    ⟨(((Below.refl _ _).alloc (Nat.le_refl _) _).alloc (by simp) _).alloc (by simp; omega) _, ((Mem.Blk.new _ _ _).alloc _).alloc _, (by have h := (Mem.Blk.new (w.alloc (.cells #[.slice none 0 0] 25)) #[.string np, .int .i64 nk, .string nd, .int .i64 nt, .int .i64 nm] 27).alloc (.cells #[.slice none 0 0] 25); rwa [show (w.alloc (.cells #[.slice none 0 0] 25)).heap.size = w.heap.size + 1 by simp] at h), Mem.new_three _ _ _ _⟩
  have HH := hide H0
  clear H0
  go_enter Tryz.func140, Tryz.ntmps140
  go_wp2
  go_loopw [5] (fun i wr => i = .int .i64 0 ∧ Hid (At0 w wr ⟨np, nk, nd, nt, nm⟩)) (fun i _ => 0)
  case atStart => exact ⟨rfl, HH⟩
  case round =>
    obtain ⟨rfl, HA⟩ := hrel
    clear HH
    have MK : Hid (∀ W', At0 w W' ⟨np, nk, nd, nt, nm⟩ → (fun W' => At0 w W' ⟨np, nk, nd, nt, nm⟩ ∧ W'.cell? ⟨w.heap.size, 0, none⟩ = some (.slice none 0 0) ∧ W'.cell? ⟨w.heap.size + 1, 0, none⟩ = some (.string np)) W') := fun W' h => ⟨h, h.one.cell 0, h.two.cell 0⟩
    go_wp2_with fail
    refine wp_region_held_drew (S := fun W' => At0 w W' ⟨np, nk, nd, nt, nm⟩ ∧ W'.cell? ⟨w.heap.size, 0, none⟩ = some (.slice none 0 0) ∧ W'.cell? ⟨w.heap.size + 1, 0, none⟩ = some (.string np)) (by kernel_rfl) ?_ (fun hHeld => ?_)
    · exact unhide MK _ (unhide HA).drew
    refine wpAnyH_take (i := 0) (v := ?_) rfl (by kernel_rfl) (by kernel_rfl) (by kernel_rfl) (fun _ _ _ h => h) (Or.inl ⟨by rfl, ?_⟩) (by assumption) ?_
    rotate_left
    · (intro w hSw; (try dsimp only at hSw); go_simp; (try with_reducible rfl))
    try simp only [Act.put, kB0, kB1, kB2, kB3, kB4, kB5]
    refine wpAnyH_take (i := 1) (v := ?_) rfl (by kernel_rfl) (by kernel_rfl) (by kernel_rfl) (fun _ _ _ h => h) (Or.inl ⟨by rfl, ?_⟩) (by assumption) ?_
    rotate_left
    · (intro w hSw; (try dsimp only at hSw); go_simp; (try with_reducible rfl))
    try simp only [Act.put, kB0, kB1, kB2, kB3, kB4, kB5]
    refine wpAnyH_take (i := 2) (v := ?_) rfl (by kernel_rfl) (by kernel_rfl) (by kernel_rfl) (fun _ _ _ h => h) (Or.inl ⟨by rfl, ?_⟩) (by assumption) ?_
    rotate_left
    · (intro w hSw; (try dsimp only at hSw); go_simp; (try with_reducible rfl))
    try simp only [Act.put, kB0, kB1, kB2, kB3, kB4, kB5]
    refine wpAnyH_take (i := 3) (v := ?_) rfl (by kernel_rfl) (by kernel_rfl) (by kernel_rfl) (fun _ _ _ h => h) (Or.inl ⟨by rfl, ?_⟩) (by assumption) ?_
    rotate_left
    · (intro w hSw; (try dsimp only at hSw); go_simp; (try with_reducible rfl))
    try simp only [Act.put, kB0, kB1, kB2, kB3, kB4, kB5]
    refine wpAnyH_take (i := 4) (v := ?_) rfl (by kernel_rfl) (by kernel_rfl) (by kernel_rfl) (fun _ _ _ h => h) (Or.inl ⟨by rfl, ?_⟩) (by assumption) ?_
    rotate_left
    · (intro w hSw; (try dsimp only at hSw); go_simp; (try with_reducible rfl))
    try simp only [Act.put, kB0, kB1, kB2, kB3, kB4, kB5]
    refine wpAnyH_take (i := 5) (v := ?_) rfl (by kernel_rfl) (by kernel_rfl) (by kernel_rfl) (fun _ _ _ h => h) (Or.inl ⟨by rfl, ?_⟩) (by assumption) ?_
    rotate_left
    · (intro w hSw; (try dsimp only at hSw); go_simp; (try with_reducible rfl))
    try simp only [Act.put, kB0, kB1, kB2, kB3, kB4, kB5]
    refine wpAnyH_take (i := 6) (v := undef) rfl (by kernel_rfl) (by kernel_rfl) (by kernel_rfl) (fun _ _ _ h => h) (Or.inr ⟨by rfl, rfl⟩) (by assumption) ?_
    try simp only [Act.put, kB0, kB1, kB2, kB3, kB4, kB5]
    refine wpAnyH_take (i := 7) (v := undef) rfl (by kernel_rfl) (by kernel_rfl) (by kernel_rfl) (fun _ _ _ h => h) (Or.inr ⟨by rfl, rfl⟩) (by assumption) ?_
    try simp only [Act.put, kB0, kB1, kB2, kB3, kB4, kB5]
    refine wpAnyH_take (i := 8) (v := undef) rfl (by kernel_rfl) (by kernel_rfl) (by kernel_rfl) (fun _ _ _ h => h) (Or.inr ⟨by rfl, rfl⟩) (by assumption) ?_
    try simp only [Act.put, kB0, kB1, kB2, kB3, kB4, kB5]
    refine wpAnyH_take (i := 9) (v := undef) rfl (by kernel_rfl) (by kernel_rfl) (by kernel_rfl) (fun _ _ _ h => h) (Or.inr ⟨by rfl, rfl⟩) (by assumption) ?_
    try simp only [Act.put, kB0, kB1, kB2, kB3, kB4, kB5]
    refine wpAnyH_take (i := 10) (v := undef) rfl (by kernel_rfl) (by kernel_rfl) (by kernel_rfl) (fun _ _ _ h => h) (Or.inr ⟨by rfl, rfl⟩) (by assumption) ?_
    try simp only [Act.put, kB0, kB1, kB2, kB3, kB4, kB5]
    refine wpAnyH_take (i := 11) (v := undef) rfl (by kernel_rfl) (by kernel_rfl) (by kernel_rfl) (fun _ _ _ h => h) (Or.inr ⟨by rfl, rfl⟩) (by assumption) ?_
    try simp only [Act.put, kB0, kB1, kB2, kB3, kB4, kB5]
    refine wpAnyH_take (i := 12) (v := undef) rfl (by kernel_rfl) (by kernel_rfl) (by kernel_rfl) (fun _ _ _ h => h) (Or.inr ⟨by rfl, rfl⟩) (by assumption) ?_
    try simp only [Act.put, kB0, kB1, kB2, kB3, kB4, kB5]
    refine wpAnyH_take (i := 13) (v := undef) rfl (by kernel_rfl) (by kernel_rfl) (by kernel_rfl) (fun _ _ _ h => h) (Or.inr ⟨by rfl, rfl⟩) (by assumption) ?_
    try simp only [Act.put, kB0, kB1, kB2, kB3, kB4, kB5]
    refine wpAnyH_take (i := 14) (v := undef) rfl (by kernel_rfl) (by kernel_rfl) (by kernel_rfl) (fun _ _ _ h => h) (Or.inr ⟨by rfl, rfl⟩) (by assumption) ?_
    try simp only [Act.put, kB0, kB1, kB2, kB3, kB4, kB5]
    refine wpAnyH_take (i := 15) (v := ?_) rfl (by kernel_rfl) (by kernel_rfl) (by kernel_rfl) (fun _ _ _ h => h) (Or.inl ⟨by rfl, ?_⟩) (by assumption) ?_
    rotate_left
    · (intro w hSw; (try dsimp only at hSw); go_simp; (try with_reducible rfl))
    try simp only [Act.put, kB0, kB1, kB2, kB3, kB4, kB5]
    refine wpAnyH_done (by kernel_rfl) ?_ _
    generalize wr.drew = WE at hHeld ⊢
    have AX := hide hHeld.1
    clear hHeld MK HA
    have hsW := (unhide AX).three.lt
    have OA0 : Hid (Mem.ownN (WE.alloc (.cells #[] 27)) (w.heap.size + 3) (.slice (some ⟨WE.heap.size, 0, none⟩) 0 0) []) := ⟨rfl, .inr ⟨WE.heap.size, 0, #[], rfl, by omega, heap_alloc_new _ _, Nat.le_refl _, Nat.zero_le _, rfl, rfl⟩⟩
    have AA := hide ((unhide AX).alloc (.cells #[] 27))
    clear AX
    have d0 := (unhide AA).one.cell 0
    simp only [kA0, kA1] at d0
    have e0 := (unhide AA).two.cell 0
    have e1 := (unhide AA).two.cell 1
    have e2 := (unhide AA).two.cell 2
    have e3 := (unhide AA).two.cell 3
    have e4 := (unhide AA).two.cell 4
    simp only [Pl.Nd.cs, kA0, kA1, kA2] at e0 e1 e2 e3 e4
    go_wp2_with (at_builtin; first | (refine wpList_append_own_none rfl _ _ 23 rfl (w.heap.size + 3) 27 i0 5 Tryz.underlying23 hi _ _ _ rfl (unhide OA0) rfl ?_; generalize WE.alloc (.cells #[] 27) = wA at AA OA0 d0 e0 e1 e2 e3 e4 ⊢) | refine wpList_append_own _ rfl _ _ 23 rfl (w.heap.size + 3) 27 i0 _ 5 56 Tryz.underlying23 hi hz0 hz1 hz2 rfl (by decide) _ _ _ rfl (Mem.ownN_alloc (unhide OA0) _) ⟨wA.heap.size, 0, none⟩ 1 1 [.string np, .int .i64 nk, .string nd, .int .i64 nt, .int .i64 nm] rfl rfl (Mem.cs_new wA ⟨np, nk, nd, nt, nm⟩ _) (Mem.cs_one ⟨np, nk, nd, nt, nm⟩) (by rw [List.length_nil]; unfold maxLen; omega) (by rw [List.length_nil]; omega) (by have := (unhide AA).three.lt; simp; omega) ?_)
    intro v2 wB ownB growB _
    have OB := hide (Mem.ownN_snoc (L := []) (n := ⟨np, nk, nd, nt, nm⟩) ownB)
    rw [List.nil_append] at OB
    have AB := hide (((unhide AA).alloc (.cells #[.string np, .int .i64 nk, .string nd, .int .i64 nt, .int .i64 nm] 27)).grown growB (fun q hq => by have h9 : WE.heap.size = q := Option.some.inj hq; omega))
    clear ownB growB OA0 AA d0 e0 e1 e2 e3 e4 hsW
    have MK : Hid (∀ W', At0 w W' ⟨np, nk, nd, nt, nm⟩ → (fun W' => At0 w W' ⟨np, nk, nd, nt, nm⟩ ∧ W'.cell? ⟨w.heap.size, 0, none⟩ = some (.slice none 0 0) ∧ W'.cell? ⟨w.heap.size + 1, 0, none⟩ = some (.string np)) W') := fun W' h => ⟨h, h.one.cell 0, h.two.cell 0⟩
    go_wp2_with fail
    refine wp_region_held_drew (S := fun W' => At0 w W' ⟨np, nk, nd, nt, nm⟩ ∧ W'.cell? ⟨w.heap.size, 0, none⟩ = some (.slice none 0 0) ∧ W'.cell? ⟨w.heap.size + 1, 0, none⟩ = some (.string np)) (by kernel_rfl) ?_ (fun hHeld => ?_)
    · exact unhide MK _ (unhide AB).drew
    refine wpAnyH_take (i := 0) (v := ?_) rfl (by kernel_rfl) (by kernel_rfl) (by kernel_rfl) (fun _ _ _ h => h) (Or.inl ⟨by rfl, ?_⟩) (by assumption) ?_
    rotate_left
    · (intro w hSw; (try dsimp only at hSw); go_simp; (try with_reducible rfl))
    try simp only [Act.put, kB0, kB1, kB2, kB3, kB4, kB5]
    refine wpAnyH_take (i := 1) (v := ?_) rfl (by kernel_rfl) (by kernel_rfl) (by kernel_rfl) (fun _ _ _ h => h) (Or.inl ⟨by rfl, ?_⟩) (by assumption) ?_
    rotate_left
    · (intro w hSw; (try dsimp only at hSw); go_simp; (try with_reducible rfl))
    try simp only [Act.put, kB0, kB1, kB2, kB3, kB4, kB5]
    refine wpAnyH_take (i := 2) (v := ?_) rfl (by kernel_rfl) (by kernel_rfl) (by kernel_rfl) (fun _ _ _ h => h) (Or.inl ⟨by rfl, ?_⟩) (by assumption) ?_
    rotate_left
    · (intro w hSw; (try dsimp only at hSw); go_simp; (try with_reducible rfl))
    try simp only [Act.put, kB0, kB1, kB2, kB3, kB4, kB5]
    refine wpAnyH_take (i := 3) (v := ?_) rfl (by kernel_rfl) (by kernel_rfl) (by kernel_rfl) (fun _ _ _ h => h) (Or.inl ⟨by rfl, ?_⟩) (by assumption) ?_
    rotate_left
    · (intro w hSw; (try dsimp only at hSw); go_simp; (try with_reducible rfl))
    try simp only [Act.put, kB0, kB1, kB2, kB3, kB4, kB5]
    refine wpAnyH_take (i := 4) (v := ?_) rfl (by kernel_rfl) (by kernel_rfl) (by kernel_rfl) (fun _ _ _ h => h) (Or.inl ⟨by rfl, ?_⟩) (by assumption) ?_
    rotate_left
    · (intro w hSw; (try dsimp only at hSw); go_simp; (try with_reducible rfl))
    try simp only [Act.put, kB0, kB1, kB2, kB3, kB4, kB5]
    refine wpAnyH_take (i := 5) (v := ?_) rfl (by kernel_rfl) (by kernel_rfl) (by kernel_rfl) (fun _ _ _ h => h) (Or.inl ⟨by rfl, ?_⟩) (by assumption) ?_
    rotate_left
    · (intro w hSw; (try dsimp only at hSw); go_simp; (try with_reducible rfl))
    try simp only [Act.put, kB0, kB1, kB2, kB3, kB4, kB5]
    refine wpAnyH_take (i := 6) (v := undef) rfl (by kernel_rfl) (by kernel_rfl) (by kernel_rfl) (fun _ _ _ h => h) (Or.inr ⟨by rfl, rfl⟩) (by assumption) ?_
    try simp only [Act.put, kB0, kB1, kB2, kB3, kB4, kB5]
    refine wpAnyH_take (i := 7) (v := undef) rfl (by kernel_rfl) (by kernel_rfl) (by kernel_rfl) (fun _ _ _ h => h) (Or.inr ⟨by rfl, rfl⟩) (by assumption) ?_
    try simp only [Act.put, kB0, kB1, kB2, kB3, kB4, kB5]
    refine wpAnyH_take (i := 8) (v := undef) rfl (by kernel_rfl) (by kernel_rfl) (by kernel_rfl) (fun _ _ _ h => h) (Or.inr ⟨by rfl, rfl⟩) (by assumption) ?_
    try simp only [Act.put, kB0, kB1, kB2, kB3, kB4, kB5]
    refine wpAnyH_take (i := 9) (v := undef) rfl (by kernel_rfl) (by kernel_rfl) (by kernel_rfl) (fun _ _ _ h => h) (Or.inr ⟨by rfl, rfl⟩) (by assumption) ?_
    try simp only [Act.put, kB0, kB1, kB2, kB3, kB4, kB5]
    refine wpAnyH_take (i := 10) (v := undef) rfl (by kernel_rfl) (by kernel_rfl) (by kernel_rfl) (fun _ _ _ h => h) (Or.inr ⟨by rfl, rfl⟩) (by assumption) ?_
    try simp only [Act.put, kB0, kB1, kB2, kB3, kB4, kB5]
    refine wpAnyH_take (i := 11) (v := undef) rfl (by kernel_rfl) (by kernel_rfl) (by kernel_rfl) (fun _ _ _ h => h) (Or.inr ⟨by rfl, rfl⟩) (by assumption) ?_
    try simp only [Act.put, kB0, kB1, kB2, kB3, kB4, kB5]
    refine wpAnyH_take (i := 12) (v := undef) rfl (by kernel_rfl) (by kernel_rfl) (by kernel_rfl) (fun _ _ _ h => h) (Or.inr ⟨by rfl, rfl⟩) (by assumption) ?_
    try simp only [Act.put, kB0, kB1, kB2, kB3, kB4, kB5]
    refine wpAnyH_take (i := 13) (v := undef) rfl (by kernel_rfl) (by kernel_rfl) (by kernel_rfl) (fun _ _ _ h => h) (Or.inr ⟨by rfl, rfl⟩) (by assumption) ?_
    try simp only [Act.put, kB0, kB1, kB2, kB3, kB4, kB5]
    refine wpAnyH_take (i := 14) (v := undef) rfl (by kernel_rfl) (by kernel_rfl) (by kernel_rfl) (fun _ _ _ h => h) (Or.inr ⟨by rfl, rfl⟩) (by assumption) ?_
    try simp only [Act.put, kB0, kB1, kB2, kB3, kB4, kB5]
    refine wpAnyH_take (i := 15) (v := ?_) rfl (by kernel_rfl) (by kernel_rfl) (by kernel_rfl) (fun _ _ _ h => h) (Or.inl ⟨by rfl, ?_⟩) (by assumption) ?_
    rotate_left
    · (intro w hSw; (try dsimp only at hSw); go_simp; (try with_reducible rfl))
    try simp only [Act.put, kB0, kB1, kB2, kB3, kB4, kB5]
    refine wpAnyH_done (by kernel_rfl) ?_ _
    have OC : Hid (Mem.ownN wB.drew (w.heap.size + 3) v2 [⟨np, nk, nd, nt, nm⟩]) := unhide OB
    generalize wB.drew = WC at hHeld OC ⊢
    have AC := hide hHeld.1
    clear hHeld MK AB OB
    have d0 := (unhide AC).one.cell 0
    simp only [kA0, kA1] at d0
    obtain ⟨a3, cap3, hv3⟩ := Mem.own_shape (unhide OC)
    subst hv3
    have z0 := (unhide AC).three.cell 0
    have zf := (unhide AC).three.fr 0
    simp only [kA0, kA1] at z0
    go_wp2_with (at_builtin; refine wpList_append_own_none rfl _ _ 23 rfl (w.heap.size + 3) 27 i0 5 Tryz.underlying23 hi _ _ _ rfl (unhide OC) rfl ?_)
    refine bodyPost_ret (v := .agg #[.slice a3 1 cap3]) (by simp [results, Tryz.results140, go_sem, z0]) rfl ⟨_, rfl, ?_, ?_⟩
    · exact Mem.ownN_mono (Mem.ownN_set (unhide OC) _ _ (by show w.heap.size + 1 + 1 < w.heap.size + 3; omega)) (by omega)
    · exact (unhide AC).bel.setCell (by show w.heap.size ≤ w.heap.size + 1 + 1; omega) _
theorem put_gen (a : Option Addr) (cap : Nat) (L : List Pl.Nd) (n : Pl.Nd) (w : World) (hl : L.length ≤ 1000) (hA : okA w a cap L) (hv : Mem.isNodes w a L) (hok : ∀ m ∈ L, m.path.size ≤ 8000) (hn8 : n.path.size ≤ 8000) :
    Calls Tryz.prog 140 #[.agg #[.slice a L.length cap], n.val] w fun e w' => ∃ v, e = .returned (.agg #[v]) ∧ Mem.ownN w' w.heap.size v (Pl.putL L n) ∧ Below w.heap.size w w' := by
  rcases hA with ⟨rfl, rfl, rfl⟩ | ⟨g, o, rfl, h2, h3⟩
  · exact put_nil n w
  · exact put_off g o cap L n w hl h2 hv h3 hok hn8
end WPutG
end Go.Proofs.YtibmflhelgedeaaGreatDoor

/- The walk of the specification's l03Add over any slice of nodes. -/
namespace Go.Proofs.YtibmflhelgedeaaGreatDoor
open Go.RowKit
namespace WPutC
structure At (w W : World) (a : Option Addr) (cap : Nat) (L : List Pl.Nd) (n : Pl.Nd) : Prop where
  bel : Below w.heap.size w W
  one : Mem.Blk W w.heap.size #[.slice a L.length cap] 25
  two : Mem.Blk W (w.heap.size + 1) n.cs.toArray 27
  three : Mem.Blk W (w.heap.size + 1 + 1) #[.slice none 0 0, .int .i64 0] 31
theorem At.call {w W W' : World} {a : Option Addr} {cap : Nat} {L : List Pl.Nd} {n : Pl.Nd} (h : At w W a cap L n) (b : Below W.heap.size W W') : At w W' a cap L n :=
  ⟨h.bel.trans (b.mono h.bel.size), h.one.call b, h.two.call b, h.three.call b⟩
set_option linter.unusedSimpArgs false in
set_option maxRecDepth 100000 in
set_option maxHeartbeats 1000000 in
theorem add_any (a : Option Addr) (cap : Nat) (L : List Pl.Nd) (n : Pl.Nd) (w : World) (hl : L.length ≤ 1000) (hA : WPutG.okA w a cap L) (hv : Mem.isNodes w a L) (hok : ∀ m ∈ L, m.path.size ≤ 8000) (hn8 : n.path.size ≤ 8000) :
    Calls Tryz.prog 83 #[.agg #[.slice a L.length cap], n.val] w fun e w' => ∃ v, e = .returned (.agg #[v, .int .i64 (Pl.addC L n)]) ∧ Mem.ownN w' w.heap.size v (Pl.addO L n) ∧ Below w.heap.size w w' := by
  have HPA := hide (fun W => WPathS.parent_any n.path W (by unfold maxLen; omega))
  have HAU := hide (fun W (b : Below w.heap.size w W) => WTreeS.at_any a cap L (Pl.parent n.path) W (by omega) (Mem.nodes_call hv b))
  have HDU := hide (fun W (b : Below w.heap.size w W) => WTreeS.dir_any a cap L (Pl.parent n.path) W (by omega) (Mem.nodes_call hv b))
  have HOV := hide (fun W (b : Below w.heap.size w W) => WPutS.over_any a cap L n.path W (by omega) (Mem.nodes_call hv b) (by omega))
  have HAN := hide (fun W (b : Below w.heap.size w W) => WTreeS.at_any a cap L n.path W (by omega) (Mem.nodes_call hv b))
  have HPU := hide (fun W (b : Below w.heap.size w W) => WPutG.put_gen a cap L n W hl (WPutG.okA_call hA b.size) (Mem.nodes_call hv b) hok hn8)
  have E6 : Hid ((Pl.parent n.path).size ≠ 0 ∧ L.find? (fun m => decide (m.path = Pl.parent n.path)) = none → Pl.addC L n = 6) := fun h => by rw [Pl.addC, if_pos h]
  have E12 : Hid (¬ ((Pl.parent n.path).size ≠ 0 ∧ L.find? (fun m => decide (m.path = Pl.parent n.path)) = none) → Pl.dirS L (Pl.parent n.path) = false → Pl.addC L n = 12) := fun h h2 => by rw [Pl.addC, if_neg h, if_pos h2]
  have E11 : Hid (¬ ((Pl.parent n.path).size ≠ 0 ∧ L.find? (fun m => decide (m.path = Pl.parent n.path)) = none) → Pl.dirS L (Pl.parent n.path) = true → n.kind ≠ 1 ∧ Pl.overL L n.path = true → Pl.addC L n = 11) := fun h h2 h3 => by rw [Pl.addC, if_neg h, if_neg (by rw [h2]; simp), if_pos h3]
  have E9 : Hid (¬ ((Pl.parent n.path).size ≠ 0 ∧ L.find? (fun m => decide (m.path = Pl.parent n.path)) = none) → Pl.dirS L (Pl.parent n.path) = true → ¬ (n.kind ≠ 1 ∧ Pl.overL L n.path = true) → (L.find? (fun m => decide (m.path = n.path)) = none ∧ 40 ≤ L.length) → Pl.addC L n = 9) := fun h h2 h3 h4 => by rw [Pl.addC, if_neg h, if_neg (by rw [h2]; simp), if_neg h3, if_pos h4]
  have E0 : Hid (¬ ((Pl.parent n.path).size ≠ 0 ∧ L.find? (fun m => decide (m.path = Pl.parent n.path)) = none) → Pl.dirS L (Pl.parent n.path) = true → ¬ (n.kind ≠ 1 ∧ Pl.overL L n.path = true) → ¬ (L.find? (fun m => decide (m.path = n.path)) = none ∧ 40 ≤ L.length) → Pl.addC L n = 0) := fun h h2 h3 h4 => by rw [Pl.addC, if_neg h, if_neg (by rw [h2]; simp), if_neg h3, if_neg h4]
  have HO : Hid (Pl.addO L n = if Pl.addC L n = 0 then Pl.putL L n else []) := rfl
  obtain ⟨C, HC⟩ : ∃ C, Hid (C = Pl.addC L n) := ⟨_, hide rfl⟩
  rw [← unhide HC] at HO ⊢
  generalize Pl.addO L n = O at HO ⊢
  obtain ⟨np, nk, nd, nt, nm⟩ := n
  simp only [Pl.Nd.val] at HPA HAU HDU HOV HAN HPU hn8 HC HO E6 E12 E11 E9 E0 ⊢
  have H0 : At w (((w.alloc (.cells #[.slice a L.length cap] 25)).alloc (.cells #[.string np, .int .i64 nk, .string nd, .int .i64 nt, .int .i64 nm] 27)).alloc (.cells #[.slice none 0 0, .int .i64 0] 31)) a cap L ⟨np, nk, nd, nt, nm⟩ :=
    ⟨(((Below.refl _ _).alloc (Nat.le_refl _) _).alloc (by simp) _).alloc (by simp; omega) _, ((Mem.Blk.new _ _ _).alloc _).alloc _, (by have h := (Mem.Blk.new (w.alloc (.cells #[.slice a L.length cap] 25)) #[.string np, .int .i64 nk, .string nd, .int .i64 nt, .int .i64 nm] 27).alloc (.cells #[.slice none 0 0, .int .i64 0] 31); rwa [show (w.alloc (.cells #[.slice a L.length cap] 25)).heap.size = w.heap.size + 1 by simp] at h), Mem.new_three _ _ _ _⟩
  have HA := hide H0
  clear H0 hv hok hn8
  go_enter Tryz.func83, Tryz.ntmps83
  go_wp2_with fail
  refine (unhide HPA _).mono ?_
  rintro e wP ⟨rfl, hwP⟩
  obtain rfl := hwP.symm
  clear HPA
  generalize hUP : Pl.parent np = UP at HAU HDU E6 E12 E11 E9 E0
  generalize ((w.alloc (.cells #[.slice a L.length cap] 25)).alloc (.cells #[.string np, .int .i64 nk, .string nd, .int .i64 nt, .int .i64 nm] 27)).alloc (.cells #[.slice none 0 0, .int .i64 0] 31) = W1 at HA ⊢
  have c1 := (unhide HA).one.cell 0
  have p0 := (unhide HA).two.cell 0
  have p1 := (unhide HA).two.cell 1
  have p2 := (unhide HA).two.cell 2
  have p3 := (unhide HA).two.cell 3
  have p4 := (unhide HA).two.cell 4
  simp only [Pl.Nd.cs, kA0, kA1, kA2] at c1 p0 p1 p2 p3 p4
  by_cases h0 : UP.size = 0
  · have t0 : UP.toList.isEmpty = true := by rw [Pl.empty_list]; simpa [Pl.by_nil] using h0
    have Q1 : Hid (¬ (UP.size ≠ 0 ∧ L.find? (fun m => decide (m.path = UP)) = none)) := fun h => h.1 h0
    clear h0 HAU hUP
    go_wp2_with fail
    refine (unhide HDU _ (unhide HA).bel).mono ?_
    rintro e wV ⟨rfl, bV⟩
    have HA3 := hide ((unhide HA).call bV)
    clear HA bV HDU
    clear c1 p0 p1 p2 p3 p4
    cases hdd : Pl.dirS L UP
    · have EC := hide (show C = 12 by rw [unhide HC]; exact unhide E12 (unhide Q1) hdd)
      have EN := hide (show O = [] by rw [unhide HO, if_neg (by rw [unhide EC]; decide)])
      clear HC HO
      clear hdd E6 E12 E11 E9 E0 HOV HAN HPU Q1
      go_wp2_with fail
      refine (WIll3.ill_any 12 _).mono ?_
      rintro e wI ⟨rfl, bI⟩
      have AI := hide ((unhide HA3).call bI)
      clear bI HA3
      have d0 := (unhide AI).three.cell 0
      have d1 := (unhide AI).three.cell 1
      have f0 := (unhide AI).three.fr 0
      have f1 := (unhide AI).three.fr 1
      simp only [kA0, kA1, kA2] at d0 d1
      go_wp2
      refine bodyPost_ret (v := .agg #[.slice none 0 0, .int .i64 12]) (by simp [results, Tryz.results83, go_sem, d0, d1]) rfl ⟨.slice none 0 0, by rw [unhide EC], by rw [unhide EN]; exact Mem.ownN_nil _ _, ?_⟩
      exact ((unhide AI).bel.setCell (by show w.heap.size ≤ w.heap.size + 1 + 1; omega) _).setCell (by show w.heap.size ≤ w.heap.size + 1 + 1; omega) _
    have c1 := (unhide HA3).one.cell 0
    have p0 := (unhide HA3).two.cell 0
    have p1 := (unhide HA3).two.cell 1
    have p2 := (unhide HA3).two.cell 2
    have p3 := (unhide HA3).two.cell 3
    have p4 := (unhide HA3).two.cell 4
    simp only [Pl.Nd.cs, kA0, kA1, kA2] at c1 p0 p1 p2 p3 p4
    by_cases hk1 : nk = 1
    · subst hk1
      have Q2 : Hid (¬ ((1 : Int) ≠ 1 ∧ Pl.overL L np = true)) := fun h => h.1 rfl
      have Q0 : Hid (Pl.dirS L UP = true) := hdd
      clear hdd HOV
      have HA4 := HA3
      clear HA3
      go_wp2_with fail
      refine (unhide HAN _ (unhide HA4).bel).mono ?_
      rintro e wN ⟨⟨r, rfl, hr⟩, bN⟩
      have HA5 := hide ((unhide HA4).call bN)
      clear HA4 bN HAN
      clear c1 p0 p1 p2 p3 p4
      rcases hr.out with ⟨kn, nn, rfl, hkn, hfn⟩ | ⟨rfl, hfn⟩
      · have tn : ¬ ((kn : Int) < 0) := by omega
        have EC := hide (show C = 0 by rw [unhide HC]; exact unhide E0 (unhide Q1) (unhide Q0) (unhide Q2) (fun h => by rw [hfn] at h; cases h.1))
        clear hr hkn hfn E6 E12 E11 E9 E0 Q0 Q1 Q2
        have EN := hide (show O = Pl.putL L ⟨np, 1, nd, nt, nm⟩ by rw [unhide HO, if_pos (unhide EC)])
        clear HC HO
        have c1 := (unhide HA5).one.cell 0
        have p0 := (unhide HA5).two.cell 0
        have p1 := (unhide HA5).two.cell 1
        have p2 := (unhide HA5).two.cell 2
        have p3 := (unhide HA5).two.cell 3
        have p4 := (unhide HA5).two.cell 4
        simp only [Pl.Nd.cs, kA0, kA1, kA2] at c1 p0 p1 p2 p3 p4
        go_wp2_with fail
        refine (unhide HPU _ (unhide HA5).bel).mono ?_
        rintro e wT ⟨v, rfl, own, bT⟩
        obtain ⟨a', cap', hvv⟩ := Mem.own_shape own
        subst hvv
        have hs5 := (unhide HA5).three.lt
        have AI := hide ((unhide HA5).call bT)
        have OW := hide own
        clear own bT HA5 HPU c1 p0 p1 p2 p3 p4
        have d0 := (unhide AI).three.cell 0
        have d1 := (unhide AI).three.cell 1
        have f0 := (unhide AI).three.fr 0
        have f1 := (unhide AI).three.fr 1
        simp only [kA0, kA1, kA2] at d0 d1
        go_wp2
        refine bodyPost_ret (v := .agg #[.slice a' (Pl.putL L ⟨np, 1, nd, nt, nm⟩).length cap', .int .i64 0]) (by simp [results, Tryz.results83, go_sem, d0, d1]) rfl ⟨.slice a' (Pl.putL L ⟨np, 1, nd, nt, nm⟩).length cap', by rw [unhide EC], ?_, ?_⟩
        · rw [unhide EN]
          exact Mem.ownN_mono (Mem.ownN_set (Mem.ownN_set (unhide OW) _ _ (by show w.heap.size + 1 + 1 < _; omega)) _ _ (by show w.heap.size + 1 + 1 < _; omega)) (by omega)
        · exact ((unhide AI).bel.setCell (by show w.heap.size ≤ w.heap.size + 1 + 1; omega) _).setCell (by show w.heap.size ≤ w.heap.size + 1 + 1; omega) _
      · by_cases h40 : 40 ≤ L.length
        · have t40 : (40 : Int) ≤ (L.length : Int) := by omega
          have EC := hide (show C = 9 by rw [unhide HC]; exact unhide E9 (unhide Q1) (unhide Q0) (unhide Q2) ⟨hfn, h40⟩)
          have EN := hide (show O = [] by rw [unhide HO, if_neg (by rw [unhide EC]; decide)])
          clear HC HO
          clear hr hfn E6 E12 E11 E9 E0 HPU Q0 Q1 Q2
          have c1 := (unhide HA5).one.cell 0
          have p0 := (unhide HA5).two.cell 0
          have p1 := (unhide HA5).two.cell 1
          have p2 := (unhide HA5).two.cell 2
          have p3 := (unhide HA5).two.cell 3
          have p4 := (unhide HA5).two.cell 4
          simp only [Pl.Nd.cs, kA0, kA1, kA2] at c1 p0 p1 p2 p3 p4
          go_wp2_with fail
          refine (WIll3.ill_any 9 _).mono ?_
          rintro e wI ⟨rfl, bI⟩
          have AI := hide ((unhide HA5).call bI)
          clear bI HA5
          have d0 := (unhide AI).three.cell 0
          have d1 := (unhide AI).three.cell 1
          have f0 := (unhide AI).three.fr 0
          have f1 := (unhide AI).three.fr 1
          simp only [kA0, kA1, kA2] at d0 d1
          go_wp2
          refine bodyPost_ret (v := .agg #[.slice none 0 0, .int .i64 9]) (by simp [results, Tryz.results83, go_sem, d0, d1]) rfl ⟨.slice none 0 0, by rw [unhide EC], by rw [unhide EN]; exact Mem.ownN_nil _ _, ?_⟩
          exact ((unhide AI).bel.setCell (by show w.heap.size ≤ w.heap.size + 1 + 1; omega) _).setCell (by show w.heap.size ≤ w.heap.size + 1 + 1; omega) _
        · have t40 : ¬ (40 : Int) ≤ (L.length : Int) := by omega
          have EC := hide (show C = 0 by rw [unhide HC]; exact unhide E0 (unhide Q1) (unhide Q0) (unhide Q2) (fun h => h40 h.2))
          clear hr hfn E6 E12 E11 E9 E0 Q0 Q1 Q2 h40
          have EN := hide (show O = Pl.putL L ⟨np, 1, nd, nt, nm⟩ by rw [unhide HO, if_pos (unhide EC)])
          clear HC HO
          have c1 := (unhide HA5).one.cell 0
          have p0 := (unhide HA5).two.cell 0
          have p1 := (unhide HA5).two.cell 1
          have p2 := (unhide HA5).two.cell 2
          have p3 := (unhide HA5).two.cell 3
          have p4 := (unhide HA5).two.cell 4
          simp only [Pl.Nd.cs, kA0, kA1, kA2] at c1 p0 p1 p2 p3 p4
          go_wp2_with fail
          refine (unhide HPU _ (unhide HA5).bel).mono ?_
          rintro e wT ⟨v, rfl, own, bT⟩
          obtain ⟨a', cap', hvv⟩ := Mem.own_shape own
          subst hvv
          have hs5 := (unhide HA5).three.lt
          have AI := hide ((unhide HA5).call bT)
          have OW := hide own
          clear own bT HA5 HPU c1 p0 p1 p2 p3 p4
          have d0 := (unhide AI).three.cell 0
          have d1 := (unhide AI).three.cell 1
          have f0 := (unhide AI).three.fr 0
          have f1 := (unhide AI).three.fr 1
          simp only [kA0, kA1, kA2] at d0 d1
          go_wp2
          refine bodyPost_ret (v := .agg #[.slice a' (Pl.putL L ⟨np, 1, nd, nt, nm⟩).length cap', .int .i64 0]) (by simp [results, Tryz.results83, go_sem, d0, d1]) rfl ⟨.slice a' (Pl.putL L ⟨np, 1, nd, nt, nm⟩).length cap', by rw [unhide EC], ?_, ?_⟩
          · rw [unhide EN]
            exact Mem.ownN_mono (Mem.ownN_set (Mem.ownN_set (unhide OW) _ _ (by show w.heap.size + 1 + 1 < _; omega)) _ _ (by show w.heap.size + 1 + 1 < _; omega)) (by omega)
          · exact ((unhide AI).bel.setCell (by show w.heap.size ≤ w.heap.size + 1 + 1; omega) _).setCell (by show w.heap.size ≤ w.heap.size + 1 + 1; omega) _
    · have tk : (nk == 1) = false := by simpa using hk1
      go_wp2_with fail
      refine (unhide HOV _ (unhide HA3).bel).mono ?_
      rintro e wO ⟨rfl, bO⟩
      have HA4 := hide ((unhide HA3).call bO)
      clear HA3 bO HOV c1 p0 p1 p2 p3 p4
      cases hov : Pl.overL L np
      · have Q2 : Hid (¬ (nk ≠ 1 ∧ Pl.overL L np = true)) := fun h => by rw [hov] at h; cases h.2
        have Q0 : Hid (Pl.dirS L UP = true) := hdd
        clear hov hdd hk1
        have c1 := (unhide HA4).one.cell 0
        have p0 := (unhide HA4).two.cell 0
        have p1 := (unhide HA4).two.cell 1
        have p2 := (unhide HA4).two.cell 2
        have p3 := (unhide HA4).two.cell 3
        have p4 := (unhide HA4).two.cell 4
        simp only [Pl.Nd.cs, kA0, kA1, kA2] at c1 p0 p1 p2 p3 p4
        go_wp2_with fail
        refine (unhide HAN _ (unhide HA4).bel).mono ?_
        rintro e wN ⟨⟨r, rfl, hr⟩, bN⟩
        have HA5 := hide ((unhide HA4).call bN)
        clear HA4 bN HAN
        clear c1 p0 p1 p2 p3 p4
        rcases hr.out with ⟨kn, nn, rfl, hkn, hfn⟩ | ⟨rfl, hfn⟩
        · have tn : ¬ ((kn : Int) < 0) := by omega
          have EC := hide (show C = 0 by rw [unhide HC]; exact unhide E0 (unhide Q1) (unhide Q0) (unhide Q2) (fun h => by rw [hfn] at h; cases h.1))
          clear hr hkn hfn E6 E12 E11 E9 E0 Q0 Q1 Q2
          have EN := hide (show O = Pl.putL L ⟨np, nk, nd, nt, nm⟩ by rw [unhide HO, if_pos (unhide EC)])
          clear HC HO
          have c1 := (unhide HA5).one.cell 0
          have p0 := (unhide HA5).two.cell 0
          have p1 := (unhide HA5).two.cell 1
          have p2 := (unhide HA5).two.cell 2
          have p3 := (unhide HA5).two.cell 3
          have p4 := (unhide HA5).two.cell 4
          simp only [Pl.Nd.cs, kA0, kA1, kA2] at c1 p0 p1 p2 p3 p4
          go_wp2_with fail
          refine (unhide HPU _ (unhide HA5).bel).mono ?_
          rintro e wT ⟨v, rfl, own, bT⟩
          obtain ⟨a', cap', hvv⟩ := Mem.own_shape own
          subst hvv
          have hs5 := (unhide HA5).three.lt
          have AI := hide ((unhide HA5).call bT)
          have OW := hide own
          clear own bT HA5 HPU c1 p0 p1 p2 p3 p4
          have d0 := (unhide AI).three.cell 0
          have d1 := (unhide AI).three.cell 1
          have f0 := (unhide AI).three.fr 0
          have f1 := (unhide AI).three.fr 1
          simp only [kA0, kA1, kA2] at d0 d1
          go_wp2
          refine bodyPost_ret (v := .agg #[.slice a' (Pl.putL L ⟨np, nk, nd, nt, nm⟩).length cap', .int .i64 0]) (by simp [results, Tryz.results83, go_sem, d0, d1]) rfl ⟨.slice a' (Pl.putL L ⟨np, nk, nd, nt, nm⟩).length cap', by rw [unhide EC], ?_, ?_⟩
          · rw [unhide EN]
            exact Mem.ownN_mono (Mem.ownN_set (Mem.ownN_set (unhide OW) _ _ (by show w.heap.size + 1 + 1 < _; omega)) _ _ (by show w.heap.size + 1 + 1 < _; omega)) (by omega)
          · exact ((unhide AI).bel.setCell (by show w.heap.size ≤ w.heap.size + 1 + 1; omega) _).setCell (by show w.heap.size ≤ w.heap.size + 1 + 1; omega) _
        · by_cases h40 : 40 ≤ L.length
          · have t40 : (40 : Int) ≤ (L.length : Int) := by omega
            have EC := hide (show C = 9 by rw [unhide HC]; exact unhide E9 (unhide Q1) (unhide Q0) (unhide Q2) ⟨hfn, h40⟩)
            have EN := hide (show O = [] by rw [unhide HO, if_neg (by rw [unhide EC]; decide)])
            clear HC HO
            clear hr hfn E6 E12 E11 E9 E0 HPU Q0 Q1 Q2
            have c1 := (unhide HA5).one.cell 0
            have p0 := (unhide HA5).two.cell 0
            have p1 := (unhide HA5).two.cell 1
            have p2 := (unhide HA5).two.cell 2
            have p3 := (unhide HA5).two.cell 3
            have p4 := (unhide HA5).two.cell 4
            simp only [Pl.Nd.cs, kA0, kA1, kA2] at c1 p0 p1 p2 p3 p4
            go_wp2_with fail
            refine (WIll3.ill_any 9 _).mono ?_
            rintro e wI ⟨rfl, bI⟩
            have AI := hide ((unhide HA5).call bI)
            clear bI HA5
            have d0 := (unhide AI).three.cell 0
            have d1 := (unhide AI).three.cell 1
            have f0 := (unhide AI).three.fr 0
            have f1 := (unhide AI).three.fr 1
            simp only [kA0, kA1, kA2] at d0 d1
            go_wp2
            refine bodyPost_ret (v := .agg #[.slice none 0 0, .int .i64 9]) (by simp [results, Tryz.results83, go_sem, d0, d1]) rfl ⟨.slice none 0 0, by rw [unhide EC], by rw [unhide EN]; exact Mem.ownN_nil _ _, ?_⟩
            exact ((unhide AI).bel.setCell (by show w.heap.size ≤ w.heap.size + 1 + 1; omega) _).setCell (by show w.heap.size ≤ w.heap.size + 1 + 1; omega) _
          · have t40 : ¬ (40 : Int) ≤ (L.length : Int) := by omega
            have EC := hide (show C = 0 by rw [unhide HC]; exact unhide E0 (unhide Q1) (unhide Q0) (unhide Q2) (fun h => h40 h.2))
            clear hr hfn E6 E12 E11 E9 E0 Q0 Q1 Q2 h40
            have EN := hide (show O = Pl.putL L ⟨np, nk, nd, nt, nm⟩ by rw [unhide HO, if_pos (unhide EC)])
            clear HC HO
            have c1 := (unhide HA5).one.cell 0
            have p0 := (unhide HA5).two.cell 0
            have p1 := (unhide HA5).two.cell 1
            have p2 := (unhide HA5).two.cell 2
            have p3 := (unhide HA5).two.cell 3
            have p4 := (unhide HA5).two.cell 4
            simp only [Pl.Nd.cs, kA0, kA1, kA2] at c1 p0 p1 p2 p3 p4
            go_wp2_with fail
            refine (unhide HPU _ (unhide HA5).bel).mono ?_
            rintro e wT ⟨v, rfl, own, bT⟩
            obtain ⟨a', cap', hvv⟩ := Mem.own_shape own
            subst hvv
            have hs5 := (unhide HA5).three.lt
            have AI := hide ((unhide HA5).call bT)
            have OW := hide own
            clear own bT HA5 HPU c1 p0 p1 p2 p3 p4
            have d0 := (unhide AI).three.cell 0
            have d1 := (unhide AI).three.cell 1
            have f0 := (unhide AI).three.fr 0
            have f1 := (unhide AI).three.fr 1
            simp only [kA0, kA1, kA2] at d0 d1
            go_wp2
            refine bodyPost_ret (v := .agg #[.slice a' (Pl.putL L ⟨np, nk, nd, nt, nm⟩).length cap', .int .i64 0]) (by simp [results, Tryz.results83, go_sem, d0, d1]) rfl ⟨.slice a' (Pl.putL L ⟨np, nk, nd, nt, nm⟩).length cap', by rw [unhide EC], ?_, ?_⟩
            · rw [unhide EN]
              exact Mem.ownN_mono (Mem.ownN_set (Mem.ownN_set (unhide OW) _ _ (by show w.heap.size + 1 + 1 < _; omega)) _ _ (by show w.heap.size + 1 + 1 < _; omega)) (by omega)
            · exact ((unhide AI).bel.setCell (by show w.heap.size ≤ w.heap.size + 1 + 1; omega) _).setCell (by show w.heap.size ≤ w.heap.size + 1 + 1; omega) _
      · have EC := hide (show C = 11 by rw [unhide HC]; exact unhide E11 (unhide Q1) hdd ⟨hk1, hov⟩)
        have EN := hide (show O = [] by rw [unhide HO, if_neg (by rw [unhide EC]; decide)])
        clear HC HO
        clear hov hdd hk1 E6 E12 E11 E9 E0 HAN HPU Q1
        go_wp2_with fail
        refine (WIll3.ill_any 11 _).mono ?_
        rintro e wI ⟨rfl, bI⟩
        have AI := hide ((unhide HA4).call bI)
        clear bI HA4
        have d0 := (unhide AI).three.cell 0
        have d1 := (unhide AI).three.cell 1
        have f0 := (unhide AI).three.fr 0
        have f1 := (unhide AI).three.fr 1
        simp only [kA0, kA1, kA2] at d0 d1
        go_wp2
        refine bodyPost_ret (v := .agg #[.slice none 0 0, .int .i64 11]) (by simp [results, Tryz.results83, go_sem, d0, d1]) rfl ⟨.slice none 0 0, by rw [unhide EC], by rw [unhide EN]; exact Mem.ownN_nil _ _, ?_⟩
        exact ((unhide AI).bel.setCell (by show w.heap.size ≤ w.heap.size + 1 + 1; omega) _).setCell (by show w.heap.size ≤ w.heap.size + 1 + 1; omega) _
  · have t0 : UP.toList.isEmpty = false := by rw [Pl.empty_list]; simpa [Pl.by_nil] using h0
    go_wp2_with fail
    refine (unhide HAU _ (unhide HA).bel).mono ?_
    rintro e wU ⟨⟨r, rfl, hr⟩, bU⟩
    have HA2 := hide ((unhide HA).call bU)
    clear HA bU HAU c1 p0 p1 p2 p3 p4
    rcases hr.out with ⟨ku, nu, rfl, hku, hfu⟩ | ⟨rfl, hfu⟩
    · have tu : ¬ ((ku : Int) < 0) := by omega
      have Q1 : Hid (¬ (UP.size ≠ 0 ∧ L.find? (fun m => decide (m.path = UP)) = none)) := fun h => by rw [hfu] at h; cases h.2
      clear hr hku hfu h0 hUP
      have HA := HA2
      clear HA2
      have c1 := (unhide HA).one.cell 0
      have p0 := (unhide HA).two.cell 0
      have p1 := (unhide HA).two.cell 1
      have p2 := (unhide HA).two.cell 2
      have p3 := (unhide HA).two.cell 3
      have p4 := (unhide HA).two.cell 4
      simp only [Pl.Nd.cs, kA0, kA1, kA2] at c1 p0 p1 p2 p3 p4
      go_wp2_with fail
      refine (unhide HDU _ (unhide HA).bel).mono ?_
      rintro e wV ⟨rfl, bV⟩
      have HA3 := hide ((unhide HA).call bV)
      clear HA bV HDU
      clear c1 p0 p1 p2 p3 p4
      cases hdd : Pl.dirS L UP
      · have EC := hide (show C = 12 by rw [unhide HC]; exact unhide E12 (unhide Q1) hdd)
        have EN := hide (show O = [] by rw [unhide HO, if_neg (by rw [unhide EC]; decide)])
        clear HC HO
        clear hdd E6 E12 E11 E9 E0 HOV HAN HPU Q1
        go_wp2_with fail
        refine (WIll3.ill_any 12 _).mono ?_
        rintro e wI ⟨rfl, bI⟩
        have AI := hide ((unhide HA3).call bI)
        clear bI HA3
        have d0 := (unhide AI).three.cell 0
        have d1 := (unhide AI).three.cell 1
        have f0 := (unhide AI).three.fr 0
        have f1 := (unhide AI).three.fr 1
        simp only [kA0, kA1, kA2] at d0 d1
        go_wp2
        refine bodyPost_ret (v := .agg #[.slice none 0 0, .int .i64 12]) (by simp [results, Tryz.results83, go_sem, d0, d1]) rfl ⟨.slice none 0 0, by rw [unhide EC], by rw [unhide EN]; exact Mem.ownN_nil _ _, ?_⟩
        exact ((unhide AI).bel.setCell (by show w.heap.size ≤ w.heap.size + 1 + 1; omega) _).setCell (by show w.heap.size ≤ w.heap.size + 1 + 1; omega) _
      have c1 := (unhide HA3).one.cell 0
      have p0 := (unhide HA3).two.cell 0
      have p1 := (unhide HA3).two.cell 1
      have p2 := (unhide HA3).two.cell 2
      have p3 := (unhide HA3).two.cell 3
      have p4 := (unhide HA3).two.cell 4
      simp only [Pl.Nd.cs, kA0, kA1, kA2] at c1 p0 p1 p2 p3 p4
      by_cases hk1 : nk = 1
      · subst hk1
        have Q2 : Hid (¬ ((1 : Int) ≠ 1 ∧ Pl.overL L np = true)) := fun h => h.1 rfl
        have Q0 : Hid (Pl.dirS L UP = true) := hdd
        clear hdd HOV
        have HA4 := HA3
        clear HA3
        go_wp2_with fail
        refine (unhide HAN _ (unhide HA4).bel).mono ?_
        rintro e wN ⟨⟨r, rfl, hr⟩, bN⟩
        have HA5 := hide ((unhide HA4).call bN)
        clear HA4 bN HAN
        clear c1 p0 p1 p2 p3 p4
        rcases hr.out with ⟨kn, nn, rfl, hkn, hfn⟩ | ⟨rfl, hfn⟩
        · have tn : ¬ ((kn : Int) < 0) := by omega
          have EC := hide (show C = 0 by rw [unhide HC]; exact unhide E0 (unhide Q1) (unhide Q0) (unhide Q2) (fun h => by rw [hfn] at h; cases h.1))
          clear hr hkn hfn E6 E12 E11 E9 E0 Q0 Q1 Q2
          have EN := hide (show O = Pl.putL L ⟨np, 1, nd, nt, nm⟩ by rw [unhide HO, if_pos (unhide EC)])
          clear HC HO
          have c1 := (unhide HA5).one.cell 0
          have p0 := (unhide HA5).two.cell 0
          have p1 := (unhide HA5).two.cell 1
          have p2 := (unhide HA5).two.cell 2
          have p3 := (unhide HA5).two.cell 3
          have p4 := (unhide HA5).two.cell 4
          simp only [Pl.Nd.cs, kA0, kA1, kA2] at c1 p0 p1 p2 p3 p4
          go_wp2_with fail
          refine (unhide HPU _ (unhide HA5).bel).mono ?_
          rintro e wT ⟨v, rfl, own, bT⟩
          obtain ⟨a', cap', hvv⟩ := Mem.own_shape own
          subst hvv
          have hs5 := (unhide HA5).three.lt
          have AI := hide ((unhide HA5).call bT)
          have OW := hide own
          clear own bT HA5 HPU c1 p0 p1 p2 p3 p4
          have d0 := (unhide AI).three.cell 0
          have d1 := (unhide AI).three.cell 1
          have f0 := (unhide AI).three.fr 0
          have f1 := (unhide AI).three.fr 1
          simp only [kA0, kA1, kA2] at d0 d1
          go_wp2
          refine bodyPost_ret (v := .agg #[.slice a' (Pl.putL L ⟨np, 1, nd, nt, nm⟩).length cap', .int .i64 0]) (by simp [results, Tryz.results83, go_sem, d0, d1]) rfl ⟨.slice a' (Pl.putL L ⟨np, 1, nd, nt, nm⟩).length cap', by rw [unhide EC], ?_, ?_⟩
          · rw [unhide EN]
            exact Mem.ownN_mono (Mem.ownN_set (Mem.ownN_set (unhide OW) _ _ (by show w.heap.size + 1 + 1 < _; omega)) _ _ (by show w.heap.size + 1 + 1 < _; omega)) (by omega)
          · exact ((unhide AI).bel.setCell (by show w.heap.size ≤ w.heap.size + 1 + 1; omega) _).setCell (by show w.heap.size ≤ w.heap.size + 1 + 1; omega) _
        · by_cases h40 : 40 ≤ L.length
          · have t40 : (40 : Int) ≤ (L.length : Int) := by omega
            have EC := hide (show C = 9 by rw [unhide HC]; exact unhide E9 (unhide Q1) (unhide Q0) (unhide Q2) ⟨hfn, h40⟩)
            have EN := hide (show O = [] by rw [unhide HO, if_neg (by rw [unhide EC]; decide)])
            clear HC HO
            clear hr hfn E6 E12 E11 E9 E0 HPU Q0 Q1 Q2
            have c1 := (unhide HA5).one.cell 0
            have p0 := (unhide HA5).two.cell 0
            have p1 := (unhide HA5).two.cell 1
            have p2 := (unhide HA5).two.cell 2
            have p3 := (unhide HA5).two.cell 3
            have p4 := (unhide HA5).two.cell 4
            simp only [Pl.Nd.cs, kA0, kA1, kA2] at c1 p0 p1 p2 p3 p4
            go_wp2_with fail
            refine (WIll3.ill_any 9 _).mono ?_
            rintro e wI ⟨rfl, bI⟩
            have AI := hide ((unhide HA5).call bI)
            clear bI HA5
            have d0 := (unhide AI).three.cell 0
            have d1 := (unhide AI).three.cell 1
            have f0 := (unhide AI).three.fr 0
            have f1 := (unhide AI).three.fr 1
            simp only [kA0, kA1, kA2] at d0 d1
            go_wp2
            refine bodyPost_ret (v := .agg #[.slice none 0 0, .int .i64 9]) (by simp [results, Tryz.results83, go_sem, d0, d1]) rfl ⟨.slice none 0 0, by rw [unhide EC], by rw [unhide EN]; exact Mem.ownN_nil _ _, ?_⟩
            exact ((unhide AI).bel.setCell (by show w.heap.size ≤ w.heap.size + 1 + 1; omega) _).setCell (by show w.heap.size ≤ w.heap.size + 1 + 1; omega) _
          · have t40 : ¬ (40 : Int) ≤ (L.length : Int) := by omega
            have EC := hide (show C = 0 by rw [unhide HC]; exact unhide E0 (unhide Q1) (unhide Q0) (unhide Q2) (fun h => h40 h.2))
            clear hr hfn E6 E12 E11 E9 E0 Q0 Q1 Q2 h40
            have EN := hide (show O = Pl.putL L ⟨np, 1, nd, nt, nm⟩ by rw [unhide HO, if_pos (unhide EC)])
            clear HC HO
            have c1 := (unhide HA5).one.cell 0
            have p0 := (unhide HA5).two.cell 0
            have p1 := (unhide HA5).two.cell 1
            have p2 := (unhide HA5).two.cell 2
            have p3 := (unhide HA5).two.cell 3
            have p4 := (unhide HA5).two.cell 4
            simp only [Pl.Nd.cs, kA0, kA1, kA2] at c1 p0 p1 p2 p3 p4
            go_wp2_with fail
            refine (unhide HPU _ (unhide HA5).bel).mono ?_
            rintro e wT ⟨v, rfl, own, bT⟩
            obtain ⟨a', cap', hvv⟩ := Mem.own_shape own
            subst hvv
            have hs5 := (unhide HA5).three.lt
            have AI := hide ((unhide HA5).call bT)
            have OW := hide own
            clear own bT HA5 HPU c1 p0 p1 p2 p3 p4
            have d0 := (unhide AI).three.cell 0
            have d1 := (unhide AI).three.cell 1
            have f0 := (unhide AI).three.fr 0
            have f1 := (unhide AI).three.fr 1
            simp only [kA0, kA1, kA2] at d0 d1
            go_wp2
            refine bodyPost_ret (v := .agg #[.slice a' (Pl.putL L ⟨np, 1, nd, nt, nm⟩).length cap', .int .i64 0]) (by simp [results, Tryz.results83, go_sem, d0, d1]) rfl ⟨.slice a' (Pl.putL L ⟨np, 1, nd, nt, nm⟩).length cap', by rw [unhide EC], ?_, ?_⟩
            · rw [unhide EN]
              exact Mem.ownN_mono (Mem.ownN_set (Mem.ownN_set (unhide OW) _ _ (by show w.heap.size + 1 + 1 < _; omega)) _ _ (by show w.heap.size + 1 + 1 < _; omega)) (by omega)
            · exact ((unhide AI).bel.setCell (by show w.heap.size ≤ w.heap.size + 1 + 1; omega) _).setCell (by show w.heap.size ≤ w.heap.size + 1 + 1; omega) _
      · have tk : (nk == 1) = false := by simpa using hk1
        go_wp2_with fail
        refine (unhide HOV _ (unhide HA3).bel).mono ?_
        rintro e wO ⟨rfl, bO⟩
        have HA4 := hide ((unhide HA3).call bO)
        clear HA3 bO HOV c1 p0 p1 p2 p3 p4
        cases hov : Pl.overL L np
        · have Q2 : Hid (¬ (nk ≠ 1 ∧ Pl.overL L np = true)) := fun h => by rw [hov] at h; cases h.2
          have Q0 : Hid (Pl.dirS L UP = true) := hdd
          clear hov hdd hk1
          have c1 := (unhide HA4).one.cell 0
          have p0 := (unhide HA4).two.cell 0
          have p1 := (unhide HA4).two.cell 1
          have p2 := (unhide HA4).two.cell 2
          have p3 := (unhide HA4).two.cell 3
          have p4 := (unhide HA4).two.cell 4
          simp only [Pl.Nd.cs, kA0, kA1, kA2] at c1 p0 p1 p2 p3 p4
          go_wp2_with fail
          refine (unhide HAN _ (unhide HA4).bel).mono ?_
          rintro e wN ⟨⟨r, rfl, hr⟩, bN⟩
          have HA5 := hide ((unhide HA4).call bN)
          clear HA4 bN HAN
          clear c1 p0 p1 p2 p3 p4
          rcases hr.out with ⟨kn, nn, rfl, hkn, hfn⟩ | ⟨rfl, hfn⟩
          · have tn : ¬ ((kn : Int) < 0) := by omega
            have EC := hide (show C = 0 by rw [unhide HC]; exact unhide E0 (unhide Q1) (unhide Q0) (unhide Q2) (fun h => by rw [hfn] at h; cases h.1))
            clear hr hkn hfn E6 E12 E11 E9 E0 Q0 Q1 Q2
            have EN := hide (show O = Pl.putL L ⟨np, nk, nd, nt, nm⟩ by rw [unhide HO, if_pos (unhide EC)])
            clear HC HO
            have c1 := (unhide HA5).one.cell 0
            have p0 := (unhide HA5).two.cell 0
            have p1 := (unhide HA5).two.cell 1
            have p2 := (unhide HA5).two.cell 2
            have p3 := (unhide HA5).two.cell 3
            have p4 := (unhide HA5).two.cell 4
            simp only [Pl.Nd.cs, kA0, kA1, kA2] at c1 p0 p1 p2 p3 p4
            go_wp2_with fail
            refine (unhide HPU _ (unhide HA5).bel).mono ?_
            rintro e wT ⟨v, rfl, own, bT⟩
            obtain ⟨a', cap', hvv⟩ := Mem.own_shape own
            subst hvv
            have hs5 := (unhide HA5).three.lt
            have AI := hide ((unhide HA5).call bT)
            have OW := hide own
            clear own bT HA5 HPU c1 p0 p1 p2 p3 p4
            have d0 := (unhide AI).three.cell 0
            have d1 := (unhide AI).three.cell 1
            have f0 := (unhide AI).three.fr 0
            have f1 := (unhide AI).three.fr 1
            simp only [kA0, kA1, kA2] at d0 d1
            go_wp2
            refine bodyPost_ret (v := .agg #[.slice a' (Pl.putL L ⟨np, nk, nd, nt, nm⟩).length cap', .int .i64 0]) (by simp [results, Tryz.results83, go_sem, d0, d1]) rfl ⟨.slice a' (Pl.putL L ⟨np, nk, nd, nt, nm⟩).length cap', by rw [unhide EC], ?_, ?_⟩
            · rw [unhide EN]
              exact Mem.ownN_mono (Mem.ownN_set (Mem.ownN_set (unhide OW) _ _ (by show w.heap.size + 1 + 1 < _; omega)) _ _ (by show w.heap.size + 1 + 1 < _; omega)) (by omega)
            · exact ((unhide AI).bel.setCell (by show w.heap.size ≤ w.heap.size + 1 + 1; omega) _).setCell (by show w.heap.size ≤ w.heap.size + 1 + 1; omega) _
          · by_cases h40 : 40 ≤ L.length
            · have t40 : (40 : Int) ≤ (L.length : Int) := by omega
              have EC := hide (show C = 9 by rw [unhide HC]; exact unhide E9 (unhide Q1) (unhide Q0) (unhide Q2) ⟨hfn, h40⟩)
              have EN := hide (show O = [] by rw [unhide HO, if_neg (by rw [unhide EC]; decide)])
              clear HC HO
              clear hr hfn E6 E12 E11 E9 E0 HPU Q0 Q1 Q2
              have c1 := (unhide HA5).one.cell 0
              have p0 := (unhide HA5).two.cell 0
              have p1 := (unhide HA5).two.cell 1
              have p2 := (unhide HA5).two.cell 2
              have p3 := (unhide HA5).two.cell 3
              have p4 := (unhide HA5).two.cell 4
              simp only [Pl.Nd.cs, kA0, kA1, kA2] at c1 p0 p1 p2 p3 p4
              go_wp2_with fail
              refine (WIll3.ill_any 9 _).mono ?_
              rintro e wI ⟨rfl, bI⟩
              have AI := hide ((unhide HA5).call bI)
              clear bI HA5
              have d0 := (unhide AI).three.cell 0
              have d1 := (unhide AI).three.cell 1
              have f0 := (unhide AI).three.fr 0
              have f1 := (unhide AI).three.fr 1
              simp only [kA0, kA1, kA2] at d0 d1
              go_wp2
              refine bodyPost_ret (v := .agg #[.slice none 0 0, .int .i64 9]) (by simp [results, Tryz.results83, go_sem, d0, d1]) rfl ⟨.slice none 0 0, by rw [unhide EC], by rw [unhide EN]; exact Mem.ownN_nil _ _, ?_⟩
              exact ((unhide AI).bel.setCell (by show w.heap.size ≤ w.heap.size + 1 + 1; omega) _).setCell (by show w.heap.size ≤ w.heap.size + 1 + 1; omega) _
            · have t40 : ¬ (40 : Int) ≤ (L.length : Int) := by omega
              have EC := hide (show C = 0 by rw [unhide HC]; exact unhide E0 (unhide Q1) (unhide Q0) (unhide Q2) (fun h => h40 h.2))
              clear hr hfn E6 E12 E11 E9 E0 Q0 Q1 Q2 h40
              have EN := hide (show O = Pl.putL L ⟨np, nk, nd, nt, nm⟩ by rw [unhide HO, if_pos (unhide EC)])
              clear HC HO
              have c1 := (unhide HA5).one.cell 0
              have p0 := (unhide HA5).two.cell 0
              have p1 := (unhide HA5).two.cell 1
              have p2 := (unhide HA5).two.cell 2
              have p3 := (unhide HA5).two.cell 3
              have p4 := (unhide HA5).two.cell 4
              simp only [Pl.Nd.cs, kA0, kA1, kA2] at c1 p0 p1 p2 p3 p4
              go_wp2_with fail
              refine (unhide HPU _ (unhide HA5).bel).mono ?_
              rintro e wT ⟨v, rfl, own, bT⟩
              obtain ⟨a', cap', hvv⟩ := Mem.own_shape own
              subst hvv
              have hs5 := (unhide HA5).three.lt
              have AI := hide ((unhide HA5).call bT)
              have OW := hide own
              clear own bT HA5 HPU c1 p0 p1 p2 p3 p4
              have d0 := (unhide AI).three.cell 0
              have d1 := (unhide AI).three.cell 1
              have f0 := (unhide AI).three.fr 0
              have f1 := (unhide AI).three.fr 1
              simp only [kA0, kA1, kA2] at d0 d1
              go_wp2
              refine bodyPost_ret (v := .agg #[.slice a' (Pl.putL L ⟨np, nk, nd, nt, nm⟩).length cap', .int .i64 0]) (by simp [results, Tryz.results83, go_sem, d0, d1]) rfl ⟨.slice a' (Pl.putL L ⟨np, nk, nd, nt, nm⟩).length cap', by rw [unhide EC], ?_, ?_⟩
              · rw [unhide EN]
                exact Mem.ownN_mono (Mem.ownN_set (Mem.ownN_set (unhide OW) _ _ (by show w.heap.size + 1 + 1 < _; omega)) _ _ (by show w.heap.size + 1 + 1 < _; omega)) (by omega)
              · exact ((unhide AI).bel.setCell (by show w.heap.size ≤ w.heap.size + 1 + 1; omega) _).setCell (by show w.heap.size ≤ w.heap.size + 1 + 1; omega) _
        · have EC := hide (show C = 11 by rw [unhide HC]; exact unhide E11 (unhide Q1) hdd ⟨hk1, hov⟩)
          have EN := hide (show O = [] by rw [unhide HO, if_neg (by rw [unhide EC]; decide)])
          clear HC HO
          clear hov hdd hk1 E6 E12 E11 E9 E0 HAN HPU Q1
          go_wp2_with fail
          refine (WIll3.ill_any 11 _).mono ?_
          rintro e wI ⟨rfl, bI⟩
          have AI := hide ((unhide HA4).call bI)
          clear bI HA4
          have d0 := (unhide AI).three.cell 0
          have d1 := (unhide AI).three.cell 1
          have f0 := (unhide AI).three.fr 0
          have f1 := (unhide AI).three.fr 1
          simp only [kA0, kA1, kA2] at d0 d1
          go_wp2
          refine bodyPost_ret (v := .agg #[.slice none 0 0, .int .i64 11]) (by simp [results, Tryz.results83, go_sem, d0, d1]) rfl ⟨.slice none 0 0, by rw [unhide EC], by rw [unhide EN]; exact Mem.ownN_nil _ _, ?_⟩
          exact ((unhide AI).bel.setCell (by show w.heap.size ≤ w.heap.size + 1 + 1; omega) _).setCell (by show w.heap.size ≤ w.heap.size + 1 + 1; omega) _
    · have EC := hide (show C = 6 by rw [unhide HC]; exact unhide E6 ⟨h0, hfu⟩)
      have EN := hide (show O = [] by rw [unhide HO, if_neg (by rw [unhide EC]; decide)])
      clear HC HO
      clear hr hfu h0 hUP E6 E12 E11 E9 E0 HDU HOV HAN HPU
      go_wp2_with fail
      refine (WIll3.ill_any 6 _).mono ?_
      rintro e wI ⟨rfl, bI⟩
      have AI := hide ((unhide HA2).call bI)
      clear bI HA2
      have d0 := (unhide AI).three.cell 0
      have d1 := (unhide AI).three.cell 1
      have f0 := (unhide AI).three.fr 0
      have f1 := (unhide AI).three.fr 1
      simp only [kA0, kA1, kA2] at d0 d1
      go_wp2
      refine bodyPost_ret (v := .agg #[.slice none 0 0, .int .i64 6]) (by simp [results, Tryz.results83, go_sem, d0, d1]) rfl ⟨.slice none 0 0, by rw [unhide EC], by rw [unhide EN]; exact Mem.ownN_nil _ _, ?_⟩
      exact ((unhide AI).bel.setCell (by show w.heap.size ≤ w.heap.size + 1 + 1; omega) _).setCell (by show w.heap.size ≤ w.heap.size + 1 + 1; omega) _
end WPutC
end Go.Proofs.YtibmflhelgedeaaGreatDoor

