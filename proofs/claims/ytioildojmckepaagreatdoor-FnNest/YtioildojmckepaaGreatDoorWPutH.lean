import Derived.Test.YtioildojmckepaaGreatDoorWPutG
namespace Go.Proofs.YtioildojmckepaaGreatDoor
open Go.RowKit
namespace zn4
def okA (w : World) (a : Option Addr) (cap : Nat) (L : List Pl.Nd) : Prop := (a = none ∧ cap = 0 ∧ L = []) ∨ ∃ g o, a = some ⟨g, o, none⟩ ∧ g < w.heap.size ∧ L.length ≤ cap
theorem zu9 {w w' : World} {a : Option Addr} {cap : Nat} {L : List Pl.Nd} (h : okA w a cap L) (b : w.heap.size ≤ w'.heap.size) : okA w' a cap L := by
 rcases h with h | ⟨g, o, h1, h2, h3⟩
 ·exact .inl h
 ·exact .inr ⟨g, o, h1, Nat.lt_of_lt_of_le h2 b, h3⟩
structure At0 (w W : World) (n : Pl.Nd) : Prop where
 bel : Below w.heap.size w W
 one : Mem.Blk W w.heap.size #[.slice none 0 0] 36
 two : Mem.Blk W (w.heap.size + 1) n.cs.toArray 88
 three : Mem.Blk W (w.heap.size + 1 + 1) #[.slice none 0 0] 36
section
variable {w W W' : World} {n : Pl.Nd}
theorem At0.call (h : At0 w W n) (b : Below W.heap.size W W') : At0 w W' n :=
 ⟨h.bel.trans (b.mono h.bel.size), h.one.call b, h.two.call b, h.three.call b⟩
theorem At0.drew (h : At0 w W n) : At0 w W.drew n :=
 ⟨⟨h.bel.os, h.bel.tape, h.bel.output, h.bel.size, h.bel.block⟩, h.one, h.two, h.three⟩
theorem At0.grown {r : Option Nat} (h : At0 w W n) (b : W.grownBy W' r) (hr : ∀ q, r = some q → w.heap.size + 3 ≤ q) : At0 w W' n :=
 ⟨h.bel.grown b h.bel.size (fun q hq => by have := hr q hq; omega), h.one.grown b (fun e => by have := hr _ e.symm; omega), h.two.grown b (fun e => by have := hr _ e.symm; omega), h.three.grown b (fun e => by have := hr _ e.symm; omega)⟩
theorem At0.alloc (h : At0 w W n) (x : Obj) : At0 w (W.alloc x) n := h.call ((Below.refl _ _).alloc (Nat.le_refl _) x)
end
set_option linter.unusedSimpArgs false in
set_option maxRecDepth 100000 in
set_option maxHeartbeats 1000000 in
theorem put_nil (n : Pl.Nd) (w : World) :
  Calls Tryz.prog 104 #[.agg #[.slice none 0 0], n.val] w fun e w' => ∃ v, e = .returned (.agg #[v]) ∧ Mem.ownN w' w.heap.size v [n] ∧ Below w.heap.size w w' := by
 obtain ⟨i0, hi, hz0, hz1, hz2⟩ := info_parts zf4.zp2
 obtain ⟨np, nk, nd, nt, nm⟩ := n
 simp only [Pl.Nd.val]
 have H0 : At0 w (((w.alloc (.cells #[.slice none 0 0] 36)).alloc (.cells #[.string np, .int .i64 nk, .string nd, .int .i64 nt, .int .i64 nm] 88)).alloc (.cells #[.slice none 0 0] 36)) ⟨np, nk, nd, nt, nm⟩ :=
  ⟨(((Below.refl _ _).alloc (Nat.le_refl _) _).alloc (by simp) _).alloc (by simp; omega) _, ((Mem.Blk.new _ _ _).alloc _).alloc _, (by have h := (Mem.Blk.new (w.alloc (.cells #[.slice none 0 0] 36)) #[.string np, .int .i64 nk, .string nd, .int .i64 nt, .int .i64 nm] 88).alloc (.cells #[.slice none 0 0] 36); rwa [show (w.alloc (.cells #[.slice none 0 0] 36)).heap.size = w.heap.size + 1 by simp] at h), Mem.zk6 _ _ _ _⟩
 have HH := hide H0
 clear H0
 go_enter Tryz.func104, Tryz.ntmps104
 go_wp2
 go_loopw [5] (fun i wr => i = .int .i64 0 ∧ Hid (At0 w wr ⟨np, nk, nd, nt, nm⟩)) (fun i _ => 0)
 case atStart => exact ⟨rfl, HH⟩
 case round =>
  obtain ⟨rfl, HA⟩ := hrel
  clear HH
  have MK : Hid (∀ W', At0 w W' ⟨np, nk, nd, nt, nm⟩ → (fun W' => At0 w W' ⟨np, nk, nd, nt, nm⟩ ∧ W'.cell? ⟨w.heap.size, 0, none⟩ = some (.slice none 0 0) ∧ W'.cell? ⟨w.heap.size + 1, 0, none⟩ = some (.string np)) W') := fun W' h => ⟨h, h.one.cell 0, h.two.cell 0⟩
  go_wp2_with fail
  refine wp_region_held_drew (S := fun W' => At0 w W' ⟨np, nk, nd, nt, nm⟩ ∧ W'.cell? ⟨w.heap.size, 0, none⟩ = some (.slice none 0 0) ∧ W'.cell? ⟨w.heap.size + 1, 0, none⟩ = some (.string np)) (by kernel_rfl) ?_ (fun hHeld => ?_)
  ·exact za MK _ (za HA).drew
  refine tka (i := 0) rfl ?_
  try simp only [Act.put, kBs]
  refine tka (i := 1) rfl ?_
  try simp only [Act.put, kBs]
  refine tka (i := 2) rfl ?_
  try simp only [Act.put, kBs]
  refine tka (i := 3) rfl ?_
  try simp only [Act.put, kBs]
  refine tka (i := 4) rfl ?_
  try simp only [Act.put, kBs]
  refine tka (i := 5) rfl ?_
  try simp only [Act.put, kBs]
  refine tkc (i := 6) rfl ?_
  try simp only [Act.put, kBs]
  refine tkc (i := 7) rfl ?_
  try simp only [Act.put, kBs]
  refine tkc (i := 8) rfl ?_
  try simp only [Act.put, kBs]
  refine tkc (i := 9) rfl ?_
  try simp only [Act.put, kBs]
  refine tkc (i := 10) rfl ?_
  try simp only [Act.put, kBs]
  refine tkc (i := 11) rfl ?_
  try simp only [Act.put, kBs]
  refine tkc (i := 12) rfl ?_
  try simp only [Act.put, kBs]
  refine tkc (i := 13) rfl ?_
  try simp only [Act.put, kBs]
  refine tkc (i := 14) rfl ?_
  try simp only [Act.put, kBs]
  refine tka (i := 15) rfl ?_
  try simp only [Act.put, kBs]
  refine wpAnyH_done (by kernel_rfl) ?_ _
  generalize wr.drew = WE at hHeld ⊢
  have AX := hide hHeld.1
  clear hHeld MK HA
  have hsW := (za AX).three.lt
  have OA0 : Hid (Mem.ownN (WE.alloc (.cells #[] 88)) (w.heap.size + 3) (.slice (some ⟨WE.heap.size, 0, none⟩) 0 0) []) := ⟨rfl, .inr ⟨WE.heap.size, 0, #[], rfl, by omega, heap_alloc_new _ _, Nat.le_refl _, Nat.zero_le _, rfl, rfl⟩⟩
  have AA := hide ((za AX).alloc (.cells #[] 88))
  clear AX
  have d0 := (za AA).one.cell 0
  simp only [kA0, kA1] at d0
  have e0 := (za AA).two.cell 0
  have e1 := (za AA).two.cell 1
  have e2 := (za AA).two.cell 2
  have e3 := (za AA).two.cell 3
  have e4 := (za AA).two.cell 4
  simp only [Pl.Nd.cs, kGs] at e0 e1 e2 e3 e4
  go_wp2_with (at_builtin; first | (refine wpList_append_own_none rfl _ _ 34 rfl (w.heap.size + 3) 88 i0 5 Tryz.underlying34 hi _ _ _ rfl (za OA0) rfl ?_; generalize WE.alloc (.cells #[] 88) = wA at AA OA0 d0 e0 e1 e2 e3 e4 ⊢) | refine wpList_append_own _ rfl _ _ 34 rfl (w.heap.size + 3) 88 i0 _ 5 56 Tryz.underlying34 hi hz0 hz1 hz2 rfl (by decide) _ _ _ rfl (Mem.zd4 (za OA0) _) ⟨wA.heap.size, 0, none⟩ 1 1 [.string np, .int .i64 nk, .string nd, .int .i64 nt, .int .i64 nm] rfl rfl (Mem.zi9 wA ⟨np, nk, nd, nt, nm⟩ _) (Mem.zi1 ⟨np, nk, nd, nt, nm⟩) (by rw [List.length_nil]; unfold maxLen; omega) (by rw [List.length_nil]; omega) (by have := (za AA).three.lt; simp; omega) ?_)
  intro v2 wB ownB growB _
  have OB := hide (Mem.zg7 (L := []) (n := ⟨np, nk, nd, nt, nm⟩) ownB)
  rw [List.nil_append] at OB
  have AB := hide (((za AA).alloc (.cells #[.string np, .int .i64 nk, .string nd, .int .i64 nt, .int .i64 nm] 88)).grown growB (fun q hq => by have h9 : WE.heap.size = q := Option.some.inj hq; omega))
  clear ownB growB OA0 AA d0 e0 e1 e2 e3 e4 hsW
  have MK : Hid (∀ W', At0 w W' ⟨np, nk, nd, nt, nm⟩ → (fun W' => At0 w W' ⟨np, nk, nd, nt, nm⟩ ∧ W'.cell? ⟨w.heap.size, 0, none⟩ = some (.slice none 0 0) ∧ W'.cell? ⟨w.heap.size + 1, 0, none⟩ = some (.string np)) W') := fun W' h => ⟨h, h.one.cell 0, h.two.cell 0⟩
  go_wp2_with fail
  refine wp_region_held_drew (S := fun W' => At0 w W' ⟨np, nk, nd, nt, nm⟩ ∧ W'.cell? ⟨w.heap.size, 0, none⟩ = some (.slice none 0 0) ∧ W'.cell? ⟨w.heap.size + 1, 0, none⟩ = some (.string np)) (by kernel_rfl) ?_ (fun hHeld => ?_)
  ·exact za MK _ (za AB).drew
  refine tka (i := 0) rfl ?_
  try simp only [Act.put, kBs]
  refine tka (i := 1) rfl ?_
  try simp only [Act.put, kBs]
  refine tka (i := 2) rfl ?_
  try simp only [Act.put, kBs]
  refine tka (i := 3) rfl ?_
  try simp only [Act.put, kBs]
  refine tka (i := 4) rfl ?_
  try simp only [Act.put, kBs]
  refine tka (i := 5) rfl ?_
  try simp only [Act.put, kBs]
  refine tkc (i := 6) rfl ?_
  try simp only [Act.put, kBs]
  refine tkc (i := 7) rfl ?_
  try simp only [Act.put, kBs]
  refine tkc (i := 8) rfl ?_
  try simp only [Act.put, kBs]
  refine tkc (i := 9) rfl ?_
  try simp only [Act.put, kBs]
  refine tkc (i := 10) rfl ?_
  try simp only [Act.put, kBs]
  refine tkc (i := 11) rfl ?_
  try simp only [Act.put, kBs]
  refine tkc (i := 12) rfl ?_
  try simp only [Act.put, kBs]
  refine tkc (i := 13) rfl ?_
  try simp only [Act.put, kBs]
  refine tkc (i := 14) rfl ?_
  try simp only [Act.put, kBs]
  refine tka (i := 15) rfl ?_
  try simp only [Act.put, kBs]
  refine wpAnyH_done (by kernel_rfl) ?_ _
  have OC : Hid (Mem.ownN wB.drew (w.heap.size + 3) v2 [⟨np, nk, nd, nt, nm⟩]) := za OB
  generalize wB.drew = WC at hHeld OC ⊢
  have AC := hide hHeld.1
  clear hHeld MK AB OB
  have d0 := (za AC).one.cell 0
  simp only [kA0, kA1] at d0
  obtain ⟨a3, cap3, hv3⟩ := Mem.za3 (za OC)
  subst hv3
  have z0 := (za AC).three.cell 0
  have zf := (za AC).three.fr 0
  simp only [kA0, kA1] at z0
  go_wp2_with (at_builtin; refine wpList_append_own_none rfl _ _ 34 rfl (w.heap.size + 3) 88 i0 5 Tryz.underlying34 hi _ _ _ rfl (za OC) rfl ?_)
  refine bodyPost_ret (v := .agg #[.slice a3 1 cap3]) (by simp [results, Tryz.results104, go_sem, z0]) rfl ⟨_, rfl, ?_, ?_⟩
  ·exact Mem.zb7 (Mem.za4 (za OC) _ _ (by show w.heap.size + 1 + 1 < w.heap.size + 3; omega)) (by omega)
  ·exact (za AC).bel.setCell (by show w.heap.size ≤ w.heap.size + 1 + 1; omega) _
theorem put_gen (a : Option Addr) (cap : Nat) (L : List Pl.Nd) (n : Pl.Nd) (w : World) (hl : L.length ≤ 1000) (hA : okA w a cap L) (hv : Mem.zb5 w a L) (hok : ∀ m ∈ L, m.path.size ≤ 8000) (hn8 : n.path.size ≤ 8000) :
  Calls Tryz.prog 104 #[.agg #[.slice a L.length cap], n.val] w fun e w' => ∃ v, e = .returned (.agg #[v]) ∧ Mem.ownN w' w.heap.size v (Pl.putL L n) ∧ Below w.heap.size w w' := by
 rcases hA with ⟨rfl, rfl, rfl⟩ | ⟨g, o, rfl, h2, h3⟩
 ·exact put_nil n w
 ·exact put_off g o cap L n w hl h2 hv h3 hok hn8
end zn4
end Go.Proofs.YtioildojmckepaaGreatDoor
