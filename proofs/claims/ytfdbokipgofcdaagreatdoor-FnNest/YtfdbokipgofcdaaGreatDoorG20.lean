/- Several texts of one claim in one file: WPutH, WPutC, WPutD. -/
import Derived.Test.YtfdbokipgofcdaaGreatDoorWPutG
import Derived.Test.YtfdbokipgofcdaaGreatDoorG15
import Derived.Test.YtfdbokipgofcdaaGreatDoorPlainAddC
import Derived.Test.YtfdbokipgofcdaaGreatDoorG18
import Derived.Test.YtfdbokipgofcdaaGreatDoorG16
namespace Go.Proofs.YtfdbokipgofcdaaGreatDoor
open Go.RowKit
namespace zu4
def okA (w : World) (a : Option Addr) (cap : Nat) (L : List Pl.Nd) : Prop := (a = none ∧ cap = 0 ∧ L = []) ∨ ∃ g o, a = some ⟨g, o, none⟩ ∧ g < w.heap.size ∧ L.length ≤ cap
theorem yh1 {w w' : World} {a : Option Addr} {cap : Nat} {L : List Pl.Nd} (h : okA w a cap L) (b : w.heap.size ≤ w'.heap.size) : okA w' a cap L := by
 rcases h with h | ⟨g, o, h1, h2, h3⟩
 ·exact .inl h
 ·exact .inr ⟨g, o, h1, Nat.lt_of_lt_of_le h2 b, h3⟩
structure At0 (w W : World) (n : Pl.Nd) : Prop where
 bel : Below w.heap.size w W
 one : Mem.Blk W w.heap.size #[.slice none 0 0] 36
 two : Mem.Blk W (w.heap.size + 1) n.cs.toArray 89
 three : Mem.Blk W (w.heap.size + 1 + 1) #[.slice none 0 0] 36
section
variable {w W W' : World} {n : Pl.Nd}
theorem At0.call (h : At0 w W n) (b : Below W.heap.size W W') : At0 w W' n :=
 ⟨h.bel.trans (b.mono h.bel.size), h.one.call b, h.two.call b, h.three.call b⟩
theorem At0.drew (h : At0 w W n) : At0 w W.drew n :=
 ⟨⟨h.bel.os, h.bel.tape, h.bel.output, h.bel.size, h.bel.block⟩, h.one, h.two, h.three⟩
theorem At0.grown {r : Option Nat} (h : At0 w W n) (b : W.grownBy W' r) (hr : ∀ q, r = some q → w.heap.size + 3 ≤ q) : At0 w W' n :=
 ⟨h.bel.grown b h.bel.size (fun q hq => by have := hr q hq; omega), h.one.grown b (fun e => by have := hr _ e.symm; omega), h.two.grown b (fun e => by have := hr _ e.symm; omega), h.three.grown b (fun e => by have := hr _ e.symm; omega)⟩
theorem At0.alloc (h : At0 w W n) (x : Obj) : At0 w (W.alloc x) n := h.call ((Below.refl _ _).alloc (Nat.le_refl _) x)
end
set_option linter.unusedSimpArgs false in
set_option maxRecDepth 100000 in
set_option maxHeartbeats 1000000 in
theorem put_nil (n : Pl.Nd) (w : World) :
  Calls Tryz.prog 145 #[.agg #[.slice none 0 0], n.val] w fun e w' => ∃ v, e = .returned (.agg #[v]) ∧ Mem.ownN w' w.heap.size v [n] ∧ Below w.heap.size w w' := by
 obtain ⟨i0, hi, hz0, hz1, hz2⟩ := info_parts zg3.zl3
 obtain ⟨np, nk, nd, nt, nm⟩ := n
 simp only [Pl.Nd.val]
 have H0 : At0 w (((w.alloc (.cells #[.slice none 0 0] 36)).alloc (.cells #[.string np, .int .i64 nk, .string nd, .int .i64 nt, .int .i64 nm] 89)).alloc (.cells #[.slice none 0 0] 36)) ⟨np, nk, nd, nt, nm⟩ :=
  ⟨(((Below.refl _ _).alloc (Nat.le_refl _) _).alloc (by simp) _).alloc (by simp; omega) _, ((Mem.Blk.new _ _ _).alloc _).alloc _, (by have h := (Mem.Blk.new (w.alloc (.cells #[.slice none 0 0] 36)) #[.string np, .int .i64 nk, .string nd, .int .i64 nt, .int .i64 nm] 89).alloc (.cells #[.slice none 0 0] 36); rwa [show (w.alloc (.cells #[.slice none 0 0] 36)).heap.size = w.heap.size + 1 by simp] at h), Mem.zq6 _ _ _ _⟩
 have HH := hide H0
 clear H0
 go_enter Tryz.func145, Tryz.ntmps145
 go_wp2
 go_loopw [5] (fun i wr => i = .int .i64 0 ∧ Hid (At0 w wr ⟨np, nk, nd, nt, nm⟩)) (fun i _ => 0)
 case atStart => exact ⟨rfl, HH⟩
 case round =>
  obtain ⟨rfl, HA⟩ := hrel
  clear HH
  have MK : Hid (∀ W', At0 w W' ⟨np, nk, nd, nt, nm⟩ → (fun W' => At0 w W' ⟨np, nk, nd, nt, nm⟩ ∧ W'.cell? ⟨w.heap.size, 0, none⟩ = some (.slice none 0 0) ∧ W'.cell? ⟨w.heap.size + 1, 0, none⟩ = some (.string np)) W') := fun W' h => ⟨h, h.one.cell 0, h.two.cell 0⟩
  go_wp2_with fail
  refine wp_region_held_drew (S := fun W' => At0 w W' ⟨np, nk, nd, nt, nm⟩ ∧ W'.cell? ⟨w.heap.size, 0, none⟩ = some (.slice none 0 0) ∧ W'.cell? ⟨w.heap.size + 1, 0, none⟩ = some (.string np)) (by kernel_rfl) ?_ (fun hHeld => ?_)
  ·exact za MK _ (za HA).drew
  refine tka (i := 0) rfl ?_
  try simp only [Act.put, kBs]
  refine tka (i := 1) rfl ?_
  try simp only [Act.put, kBs]
  refine tka (i := 2) rfl ?_
  try simp only [Act.put, kBs]
  refine tka (i := 3) rfl ?_
  try simp only [Act.put, kBs]
  refine tka (i := 4) rfl ?_
  try simp only [Act.put, kBs]
  refine tka (i := 5) rfl ?_
  try simp only [Act.put, kBs]
  refine tkc (i := 6) rfl ?_
  try simp only [Act.put, kBs]
  refine tkc (i := 7) rfl ?_
  try simp only [Act.put, kBs]
  refine tkc (i := 8) rfl ?_
  try simp only [Act.put, kBs]
  refine tkc (i := 9) rfl ?_
  try simp only [Act.put, kBs]
  refine tkc (i := 10) rfl ?_
  try simp only [Act.put, kBs]
  refine tkc (i := 11) rfl ?_
  try simp only [Act.put, kBs]
  refine tkc (i := 12) rfl ?_
  try simp only [Act.put, kBs]
  refine tkc (i := 13) rfl ?_
  try simp only [Act.put, kBs]
  refine tkc (i := 14) rfl ?_
  try simp only [Act.put, kBs]
  refine tka (i := 15) rfl ?_
  try simp only [Act.put, kBs]
  refine wpAnyH_done (by kernel_rfl) ?_ _
  generalize wr.drew = WE at hHeld ⊢
  have AX := hide hHeld.1
  clear hHeld MK HA
  have hsW := (za AX).three.lt
  have OA0 : Hid (Mem.ownN (WE.alloc (.cells #[] 89)) (w.heap.size + 3) (.slice (some ⟨WE.heap.size, 0, none⟩) 0 0) []) := ⟨rfl, .inr ⟨WE.heap.size, 0, #[], rfl, by omega, heap_alloc_new _ _, Nat.le_refl _, Nat.zero_le _, rfl, rfl⟩⟩
  have AA := hide ((za AX).alloc (.cells #[] 89))
  clear AX
  have d0 := (za AA).one.cell 0
  simp only [kA0, kA1] at d0
  have e0 := (za AA).two.cell 0
  have e1 := (za AA).two.cell 1
  have e2 := (za AA).two.cell 2
  have e3 := (za AA).two.cell 3
  have e4 := (za AA).two.cell 4
  simp only [Pl.Nd.cs, kGs] at e0 e1 e2 e3 e4
  go_wp2_with (at_builtin; first | (refine wpList_append_own_none rfl _ _ 34 rfl (w.heap.size + 3) 89 i0 5 Tryz.underlying34 hi _ _ _ rfl (za OA0) rfl ?_; generalize WE.alloc (.cells #[] 89) = wA at AA OA0 d0 e0 e1 e2 e3 e4 ⊢) | refine wpList_append_own _ rfl _ _ 34 rfl (w.heap.size + 3) 89 i0 _ 5 56 Tryz.underlying34 hi hz0 hz1 hz2 rfl (by decide) _ _ _ rfl (Mem.zd1 (za OA0) _) ⟨wA.heap.size, 0, none⟩ 1 1 [.string np, .int .i64 nk, .string nd, .int .i64 nt, .int .i64 nm] rfl rfl (Mem.zl4 wA ⟨np, nk, nd, nt, nm⟩ _) (Mem.zk2 ⟨np, nk, nd, nt, nm⟩) (by rw [List.length_nil]; unfold maxLen; omega) (by rw [List.length_nil]; omega) (by have := (za AA).three.lt; simp; omega) ?_)
  intro v2 wB ownB growB _
  have OB := hide (Mem.zi4 (L := []) (n := ⟨np, nk, nd, nt, nm⟩) ownB)
  rw [List.nil_append] at OB
  have AB := hide (((za AA).alloc (.cells #[.string np, .int .i64 nk, .string nd, .int .i64 nt, .int .i64 nm] 89)).grown growB (fun q hq => by have h9 : WE.heap.size = q := Option.some.inj hq; omega))
  clear ownB growB OA0 AA d0 e0 e1 e2 e3 e4 hsW
  have MK : Hid (∀ W', At0 w W' ⟨np, nk, nd, nt, nm⟩ → (fun W' => At0 w W' ⟨np, nk, nd, nt, nm⟩ ∧ W'.cell? ⟨w.heap.size, 0, none⟩ = some (.slice none 0 0) ∧ W'.cell? ⟨w.heap.size + 1, 0, none⟩ = some (.string np)) W') := fun W' h => ⟨h, h.one.cell 0, h.two.cell 0⟩
  go_wp2_with fail
  refine wp_region_held_drew (S := fun W' => At0 w W' ⟨np, nk, nd, nt, nm⟩ ∧ W'.cell? ⟨w.heap.size, 0, none⟩ = some (.slice none 0 0) ∧ W'.cell? ⟨w.heap.size + 1, 0, none⟩ = some (.string np)) (by kernel_rfl) ?_ (fun hHeld => ?_)
  ·exact za MK _ (za AB).drew
  refine tka (i := 0) rfl ?_
  try simp only [Act.put, kBs]
  refine tka (i := 1) rfl ?_
  try simp only [Act.put, kBs]
  refine tka (i := 2) rfl ?_
  try simp only [Act.put, kBs]
  refine tka (i := 3) rfl ?_
  try simp only [Act.put, kBs]
  refine tka (i := 4) rfl ?_
  try simp only [Act.put, kBs]
  refine tka (i := 5) rfl ?_
  try simp only [Act.put, kBs]
  refine tkc (i := 6) rfl ?_
  try simp only [Act.put, kBs]
  refine tkc (i := 7) rfl ?_
  try simp only [Act.put, kBs]
  refine tkc (i := 8) rfl ?_
  try simp only [Act.put, kBs]
  refine tkc (i := 9) rfl ?_
  try simp only [Act.put, kBs]
  refine tkc (i := 10) rfl ?_
  try simp only [Act.put, kBs]
  refine tkc (i := 11) rfl ?_
  try simp only [Act.put, kBs]
  refine tkc (i := 12) rfl ?_
  try simp only [Act.put, kBs]
  refine tkc (i := 13) rfl ?_
  try simp only [Act.put, kBs]
  refine tkc (i := 14) rfl ?_
  try simp only [Act.put, kBs]
  refine tka (i := 15) rfl ?_
  try simp only [Act.put, kBs]
  refine wpAnyH_done (by kernel_rfl) ?_ _
  have OC : Hid (Mem.ownN wB.drew (w.heap.size + 3) v2 [⟨np, nk, nd, nt, nm⟩]) := za OB
  generalize wB.drew = WC at hHeld OC ⊢
  have AC := hide hHeld.1
  clear hHeld MK AB OB
  have d0 := (za AC).one.cell 0
  simp only [kA0, kA1] at d0
  obtain ⟨a3, cap3, hv3⟩ := Mem.za1 (za OC)
  subst hv3
  have z0 := (za AC).three.cell 0
  have zf := (za AC).three.fr 0
  simp only [kA0, kA1] at z0
  go_wp2_with (at_builtin; refine wpList_append_own_none rfl _ _ 34 rfl (w.heap.size + 3) 89 i0 5 Tryz.underlying34 hi _ _ _ rfl (za OC) rfl ?_)
  refine bodyPost_ret (v := .agg #[.slice a3 1 cap3]) (by simp [results, Tryz.results145, go_sem, z0]) rfl ⟨_, rfl, ?_, ?_⟩
  ·exact Mem.zb4 (Mem.za7 (za OC) _ _ (by show w.heap.size + 1 + 1 < w.heap.size + 3; omega)) (by omega)
  ·exact (za AC).bel.setCell (by show w.heap.size ≤ w.heap.size + 1 + 1; omega) _
theorem put_gen (a : Option Addr) (cap : Nat) (L : List Pl.Nd) (n : Pl.Nd) (w : World) (hl : L.length ≤ 1000) (hA : okA w a cap L) (hv : Mem.zc2 w a L) (hok : ∀ m ∈ L, m.path.size ≤ 8000) (hn8 : n.path.size ≤ 8000) :
  Calls Tryz.prog 145 #[.agg #[.slice a L.length cap], n.val] w fun e w' => ∃ v, e = .returned (.agg #[v]) ∧ Mem.ownN w' w.heap.size v (Pl.putL L n) ∧ Below w.heap.size w w' := by
 rcases hA with ⟨rfl, rfl, rfl⟩ | ⟨g, o, rfl, h2, h3⟩
 ·exact put_nil n w
 ·exact put_off g o cap L n w hl h2 hv h3 hok hn8
end zu4
end Go.Proofs.YtfdbokipgofcdaaGreatDoor

namespace Go.Proofs.YtfdbokipgofcdaaGreatDoor
open Go.RowKit
namespace WPutC
structure At (w W : World) (a : Option Addr) (cap : Nat) (L : List Pl.Nd) (n : Pl.Nd) : Prop where
 bel : Below w.heap.size w W
 one : Mem.Blk W w.heap.size #[.slice a L.length cap] 36
 two : Mem.Blk W (w.heap.size + 1) n.cs.toArray 89
 three : Mem.Blk W (w.heap.size + 1 + 1) #[.slice none 0 0, .int .i64 0] 42
theorem At.call {w W W' : World} {a : Option Addr} {cap : Nat} {L : List Pl.Nd} {n : Pl.Nd} (h : At w W a cap L n) (b : Below W.heap.size W W') : At w W' a cap L n :=
 ⟨h.bel.trans (b.mono h.bel.size), h.one.call b, h.two.call b, h.three.call b⟩
set_option linter.unusedSimpArgs false in
set_option maxRecDepth 100000 in
set_option maxHeartbeats 1000000 in
theorem zx9 (a : Option Addr) (cap : Nat) (L : List Pl.Nd) (n : Pl.Nd) (w : World) (hl : L.length ≤ 1000) (hA : zu4.okA w a cap L) (hv : Mem.zc2 w a L) (hok : ∀ m ∈ L, m.path.size ≤ 8000) (hn8 : n.path.size ≤ 8000) :
  Calls Tryz.prog 121 #[.agg #[.slice a L.length cap], n.val] w fun e w' => ∃ v, e = .returned (.agg #[v, .int .i64 (Pl.addC L n)]) ∧ Mem.ownN w' w.heap.size v (Pl.addO L n) ∧ Below w.heap.size w w' := by
 have HPA := hide (fun W => zh5.yf0 n.path W (by unfold maxLen; omega))
 have HAU := hide (fun W (b : Below w.heap.size w W) => zt4.at_any a cap L (Pl.parent n.path) W (by omega) (Mem.za8 hv b))
 have HDU := hide (fun W (b : Below w.heap.size w W) => zt4.dir_any a cap L (Pl.parent n.path) W (by omega) (Mem.za8 hv b))
 have HOV := hide (fun W (b : Below w.heap.size w W) => WPutS.over_any a cap L n.path W (by omega) (Mem.za8 hv b) (by omega))
 have HAN := hide (fun W (b : Below w.heap.size w W) => zt4.at_any a cap L n.path W (by omega) (Mem.za8 hv b))
 have HPU := hide (fun W (b : Below w.heap.size w W) => zu4.put_gen a cap L n W hl (zu4.yh1 hA b.size) (Mem.za8 hv b) hok hn8)
 have E6 : Hid ((Pl.parent n.path).size ≠ 0 ∧ L.find? (fun m => decide (m.path = Pl.parent n.path)) = none → Pl.addC L n = 6) := fun h => by rw [Pl.addC, if_pos h]
 have E12 : Hid (¬ ((Pl.parent n.path).size ≠ 0 ∧ L.find? (fun m => decide (m.path = Pl.parent n.path)) = none) → Pl.dirS L (Pl.parent n.path) = false → Pl.addC L n = 12) := fun h h2 => by rw [Pl.addC, if_neg h, if_pos h2]
 have E11 : Hid (¬ ((Pl.parent n.path).size ≠ 0 ∧ L.find? (fun m => decide (m.path = Pl.parent n.path)) = none) → Pl.dirS L (Pl.parent n.path) = true → n.kind ≠ 1 ∧ Pl.zo7 L n.path = true → Pl.addC L n = 11) := fun h h2 h3 => by rw [Pl.addC, if_neg h, if_neg (by rw [h2]; simp), if_pos h3]
 have E9 : Hid (¬ ((Pl.parent n.path).size ≠ 0 ∧ L.find? (fun m => decide (m.path = Pl.parent n.path)) = none) → Pl.dirS L (Pl.parent n.path) = true → ¬ (n.kind ≠ 1 ∧ Pl.zo7 L n.path = true) → (L.find? (fun m => decide (m.path = n.path)) = none ∧ 40 ≤ L.length) → Pl.addC L n = 9) := fun h h2 h3 h4 => by rw [Pl.addC, if_neg h, if_neg (by rw [h2]; simp), if_neg h3, if_pos h4]
 have E0 : Hid (¬ ((Pl.parent n.path).size ≠ 0 ∧ L.find? (fun m => decide (m.path = Pl.parent n.path)) = none) → Pl.dirS L (Pl.parent n.path) = true → ¬ (n.kind ≠ 1 ∧ Pl.zo7 L n.path = true) → ¬ (L.find? (fun m => decide (m.path = n.path)) = none ∧ 40 ≤ L.length) → Pl.addC L n = 0) := fun h h2 h3 h4 => by rw [Pl.addC, if_neg h, if_neg (by rw [h2]; simp), if_neg h3, if_neg h4]
 have HO : Hid (Pl.addO L n = if Pl.addC L n = 0 then Pl.putL L n else []) := rfl
 obtain ⟨C, HC⟩ : ∃ C, Hid (C = Pl.addC L n) := ⟨_, hide rfl⟩
 rw [← za HC] at HO ⊢
 generalize Pl.addO L n = O at HO ⊢
 obtain ⟨np, nk, nd, nt, nm⟩ := n
 simp only [Pl.Nd.val] at HPA HAU HDU HOV HAN HPU hn8 HC HO E6 E12 E11 E9 E0 ⊢
 have H0 : At w (((w.alloc (.cells #[.slice a L.length cap] 36)).alloc (.cells #[.string np, .int .i64 nk, .string nd, .int .i64 nt, .int .i64 nm] 89)).alloc (.cells #[.slice none 0 0, .int .i64 0] 42)) a cap L ⟨np, nk, nd, nt, nm⟩ :=
  ⟨(((Below.refl _ _).alloc (Nat.le_refl _) _).alloc (by simp) _).alloc (by simp; omega) _, ((Mem.Blk.new _ _ _).alloc _).alloc _, (by have h := (Mem.Blk.new (w.alloc (.cells #[.slice a L.length cap] 36)) #[.string np, .int .i64 nk, .string nd, .int .i64 nt, .int .i64 nm] 89).alloc (.cells #[.slice none 0 0, .int .i64 0] 42); rwa [show (w.alloc (.cells #[.slice a L.length cap] 36)).heap.size = w.heap.size + 1 by simp] at h), Mem.zq6 _ _ _ _⟩
 have HA := hide H0
 clear H0 hv hok hn8
 go_enter Tryz.func121, Tryz.ntmps121
 go_wp2_with fail
 refine (za HPA _).mono ?_
 rintro e wP ⟨rfl, hwP⟩
 obtain rfl := hwP.symm
 clear HPA
 generalize hUP : Pl.parent np = UP at HAU HDU E6 E12 E11 E9 E0
 generalize ((w.alloc (.cells #[.slice a L.length cap] 36)).alloc (.cells #[.string np, .int .i64 nk, .string nd, .int .i64 nt, .int .i64 nm] 89)).alloc (.cells #[.slice none 0 0, .int .i64 0] 42) = W1 at HA ⊢
 have c1 := (za HA).one.cell 0
 have p0 := (za HA).two.cell 0
 have p1 := (za HA).two.cell 1
 have p2 := (za HA).two.cell 2
 have p3 := (za HA).two.cell 3
 have p4 := (za HA).two.cell 4
 simp only [Pl.Nd.cs, kGs] at c1 p0 p1 p2 p3 p4
 by_cases h0 : UP.size = 0
 ·have t0 : UP.toList.isEmpty = true := by rw [Pl.ze]; simpa [Pl.zj1] using h0
  have Q1 : Hid (¬ (UP.size ≠ 0 ∧ L.find? (fun m => decide (m.path = UP)) = none)) := fun h => h.1 h0
  clear h0 HAU hUP
  go_wp2_with fail
  refine (za HDU _ (za HA).bel).mono ?_
  rintro e wV ⟨rfl, bV⟩
  have HA3 := hide ((za HA).call bV)
  clear HA bV HDU
  clear c1 p0 p1 p2 p3 p4
  cases hdd : Pl.dirS L UP
  ·have EC := hide (show C = 12 by rw [za HC]; exact za E12 (za Q1) hdd)
   have EN := hide (show O = [] by rw [za HO, if_neg (by rw [za EC]; decide)])
   clear HC HO
   clear hdd E6 E12 E11 E9 E0 HOV HAN HPU Q1
   go_wp2_with fail
   refine (zn7.zk0 12 _).mono ?_
   rintro e wI ⟨rfl, bI⟩
   have AI := hide ((za HA3).call bI)
   clear bI HA3
   have d0 := (za AI).three.cell 0
   have d1 := (za AI).three.cell 1
   have f0 := (za AI).three.fr 0
   have f1 := (za AI).three.fr 1
   simp only [kGs] at d0 d1
   go_wp2
   refine bodyPost_ret (v := .agg #[.slice none 0 0, .int .i64 12]) (by simp [results, Tryz.results121, go_sem, d0, d1]) rfl ⟨.slice none 0 0, by rw [za EC], by rw [za EN]; exact Mem.zd2 _ _, ?_⟩
   exact ((za AI).bel.setCell (by show w.heap.size ≤ w.heap.size + 1 + 1; omega) _).setCell (by show w.heap.size ≤ w.heap.size + 1 + 1; omega) _
  have c1 := (za HA3).one.cell 0
  have p0 := (za HA3).two.cell 0
  have p1 := (za HA3).two.cell 1
  have p2 := (za HA3).two.cell 2
  have p3 := (za HA3).two.cell 3
  have p4 := (za HA3).two.cell 4
  simp only [Pl.Nd.cs, kGs] at c1 p0 p1 p2 p3 p4
  by_cases hk1 : nk = 1
  ·subst hk1
   have Q2 : Hid (¬ ((1 : Int) ≠ 1 ∧ Pl.zo7 L np = true)) := fun h => h.1 rfl
   have Q0 : Hid (Pl.dirS L UP = true) := hdd
   clear hdd HOV
   have HA4 := HA3
   clear HA3
   go_wp2_with fail
   refine (za HAN _ (za HA4).bel).mono ?_
   rintro e wN ⟨⟨r, rfl, hr⟩, bN⟩
   have HA5 := hide ((za HA4).call bN)
   clear HA4 bN HAN
   clear c1 p0 p1 p2 p3 p4
   rcases hr.out with ⟨kn, nn, rfl, hkn, hfn⟩ | ⟨rfl, hfn⟩
   ·have tn : ¬ ((kn : Int) < 0) := by omega
    have EC := hide (show C = 0 by rw [za HC]; exact za E0 (za Q1) (za Q0) (za Q2) (fun h => by rw [hfn] at h; cases h.1))
    clear hr hkn hfn E6 E12 E11 E9 E0 Q0 Q1 Q2
    have EN := hide (show O = Pl.putL L ⟨np, 1, nd, nt, nm⟩ by rw [za HO, if_pos (za EC)])
    clear HC HO
    have c1 := (za HA5).one.cell 0
    have p0 := (za HA5).two.cell 0
    have p1 := (za HA5).two.cell 1
    have p2 := (za HA5).two.cell 2
    have p3 := (za HA5).two.cell 3
    have p4 := (za HA5).two.cell 4
    simp only [Pl.Nd.cs, kGs] at c1 p0 p1 p2 p3 p4
    go_wp2_with fail
    refine (za HPU _ (za HA5).bel).mono ?_
    rintro e wT ⟨v, rfl, own, bT⟩
    obtain ⟨a', cap', hvv⟩ := Mem.za1 own
    subst hvv
    have hs5 := (za HA5).three.lt
    have AI := hide ((za HA5).call bT)
    have OW := hide own
    clear own bT HA5 HPU c1 p0 p1 p2 p3 p4
    have d0 := (za AI).three.cell 0
    have d1 := (za AI).three.cell 1
    have f0 := (za AI).three.fr 0
    have f1 := (za AI).three.fr 1
    simp only [kGs] at d0 d1
    go_wp2
    refine bodyPost_ret (v := .agg #[.slice a' (Pl.putL L ⟨np, 1, nd, nt, nm⟩).length cap', .int .i64 0]) (by simp [results, Tryz.results121, go_sem, d0, d1]) rfl ⟨.slice a' (Pl.putL L ⟨np, 1, nd, nt, nm⟩).length cap', by rw [za EC], ?_, ?_⟩
    ·rw [za EN]
     exact Mem.zb4 (Mem.za7 (Mem.za7 (za OW) _ _ (by show w.heap.size + 1 + 1 < _; omega)) _ _ (by show w.heap.size + 1 + 1 < _; omega)) (by omega)
    ·exact ((za AI).bel.setCell (by show w.heap.size ≤ w.heap.size + 1 + 1; omega) _).setCell (by show w.heap.size ≤ w.heap.size + 1 + 1; omega) _
   ·by_cases h40 : 40 ≤ L.length
    ·have t40 : (40 : Int) ≤ (L.length : Int) := by omega
     have EC := hide (show C = 9 by rw [za HC]; exact za E9 (za Q1) (za Q0) (za Q2) ⟨hfn, h40⟩)
     have EN := hide (show O = [] by rw [za HO, if_neg (by rw [za EC]; decide)])
     clear HC HO
     clear hr hfn E6 E12 E11 E9 E0 HPU Q0 Q1 Q2
     have c1 := (za HA5).one.cell 0
     have p0 := (za HA5).two.cell 0
     have p1 := (za HA5).two.cell 1
     have p2 := (za HA5).two.cell 2
     have p3 := (za HA5).two.cell 3
     have p4 := (za HA5).two.cell 4
     simp only [Pl.Nd.cs, kGs] at c1 p0 p1 p2 p3 p4
     go_wp2_with fail
     refine (zn7.zk0 9 _).mono ?_
     rintro e wI ⟨rfl, bI⟩
     have AI := hide ((za HA5).call bI)
     clear bI HA5
     have d0 := (za AI).three.cell 0
     have d1 := (za AI).three.cell 1
     have f0 := (za AI).three.fr 0
     have f1 := (za AI).three.fr 1
     simp only [kGs] at d0 d1
     go_wp2
     refine bodyPost_ret (v := .agg #[.slice none 0 0, .int .i64 9]) (by simp [results, Tryz.results121, go_sem, d0, d1]) rfl ⟨.slice none 0 0, by rw [za EC], by rw [za EN]; exact Mem.zd2 _ _, ?_⟩
     exact ((za AI).bel.setCell (by show w.heap.size ≤ w.heap.size + 1 + 1; omega) _).setCell (by show w.heap.size ≤ w.heap.size + 1 + 1; omega) _
    ·have t40 : ¬ (40 : Int) ≤ (L.length : Int) := by omega
     have EC := hide (show C = 0 by rw [za HC]; exact za E0 (za Q1) (za Q0) (za Q2) (fun h => h40 h.2))
     clear hr hfn E6 E12 E11 E9 E0 Q0 Q1 Q2 h40
     have EN := hide (show O = Pl.putL L ⟨np, 1, nd, nt, nm⟩ by rw [za HO, if_pos (za EC)])
     clear HC HO
     have c1 := (za HA5).one.cell 0
     have p0 := (za HA5).two.cell 0
     have p1 := (za HA5).two.cell 1
     have p2 := (za HA5).two.cell 2
     have p3 := (za HA5).two.cell 3
     have p4 := (za HA5).two.cell 4
     simp only [Pl.Nd.cs, kGs] at c1 p0 p1 p2 p3 p4
     go_wp2_with fail
     refine (za HPU _ (za HA5).bel).mono ?_
     rintro e wT ⟨v, rfl, own, bT⟩
     obtain ⟨a', cap', hvv⟩ := Mem.za1 own
     subst hvv
     have hs5 := (za HA5).three.lt
     have AI := hide ((za HA5).call bT)
     have OW := hide own
     clear own bT HA5 HPU c1 p0 p1 p2 p3 p4
     have d0 := (za AI).three.cell 0
     have d1 := (za AI).three.cell 1
     have f0 := (za AI).three.fr 0
     have f1 := (za AI).three.fr 1
     simp only [kGs] at d0 d1
     go_wp2
     refine bodyPost_ret (v := .agg #[.slice a' (Pl.putL L ⟨np, 1, nd, nt, nm⟩).length cap', .int .i64 0]) (by simp [results, Tryz.results121, go_sem, d0, d1]) rfl ⟨.slice a' (Pl.putL L ⟨np, 1, nd, nt, nm⟩).length cap', by rw [za EC], ?_, ?_⟩
     ·rw [za EN]
      exact Mem.zb4 (Mem.za7 (Mem.za7 (za OW) _ _ (by show w.heap.size + 1 + 1 < _; omega)) _ _ (by show w.heap.size + 1 + 1 < _; omega)) (by omega)
     ·exact ((za AI).bel.setCell (by show w.heap.size ≤ w.heap.size + 1 + 1; omega) _).setCell (by show w.heap.size ≤ w.heap.size + 1 + 1; omega) _
  ·have tk : (nk == 1) = false := by simpa using hk1
   go_wp2_with fail
   refine (za HOV _ (za HA3).bel).mono ?_
   rintro e wO ⟨rfl, bO⟩
   have HA4 := hide ((za HA3).call bO)
   clear HA3 bO HOV c1 p0 p1 p2 p3 p4
   cases hov : Pl.zo7 L np
   ·have Q2 : Hid (¬ (nk ≠ 1 ∧ Pl.zo7 L np = true)) := fun h => by rw [hov] at h; cases h.2
    have Q0 : Hid (Pl.dirS L UP = true) := hdd
    clear hov hdd hk1
    have c1 := (za HA4).one.cell 0
    have p0 := (za HA4).two.cell 0
    have p1 := (za HA4).two.cell 1
    have p2 := (za HA4).two.cell 2
    have p3 := (za HA4).two.cell 3
    have p4 := (za HA4).two.cell 4
    simp only [Pl.Nd.cs, kGs] at c1 p0 p1 p2 p3 p4
    go_wp2_with fail
    refine (za HAN _ (za HA4).bel).mono ?_
    rintro e wN ⟨⟨r, rfl, hr⟩, bN⟩
    have HA5 := hide ((za HA4).call bN)
    clear HA4 bN HAN
    clear c1 p0 p1 p2 p3 p4
    rcases hr.out with ⟨kn, nn, rfl, hkn, hfn⟩ | ⟨rfl, hfn⟩
    ·have tn : ¬ ((kn : Int) < 0) := by omega
     have EC := hide (show C = 0 by rw [za HC]; exact za E0 (za Q1) (za Q0) (za Q2) (fun h => by rw [hfn] at h; cases h.1))
     clear hr hkn hfn E6 E12 E11 E9 E0 Q0 Q1 Q2
     have EN := hide (show O = Pl.putL L ⟨np, nk, nd, nt, nm⟩ by rw [za HO, if_pos (za EC)])
     clear HC HO
     have c1 := (za HA5).one.cell 0
     have p0 := (za HA5).two.cell 0
     have p1 := (za HA5).two.cell 1
     have p2 := (za HA5).two.cell 2
     have p3 := (za HA5).two.cell 3
     have p4 := (za HA5).two.cell 4
     simp only [Pl.Nd.cs, kGs] at c1 p0 p1 p2 p3 p4
     go_wp2_with fail
     refine (za HPU _ (za HA5).bel).mono ?_
     rintro e wT ⟨v, rfl, own, bT⟩
     obtain ⟨a', cap', hvv⟩ := Mem.za1 own
     subst hvv
     have hs5 := (za HA5).three.lt
     have AI := hide ((za HA5).call bT)
     have OW := hide own
     clear own bT HA5 HPU c1 p0 p1 p2 p3 p4
     have d0 := (za AI).three.cell 0
     have d1 := (za AI).three.cell 1
     have f0 := (za AI).three.fr 0
     have f1 := (za AI).three.fr 1
     simp only [kGs] at d0 d1
     go_wp2
     refine bodyPost_ret (v := .agg #[.slice a' (Pl.putL L ⟨np, nk, nd, nt, nm⟩).length cap', .int .i64 0]) (by simp [results, Tryz.results121, go_sem, d0, d1]) rfl ⟨.slice a' (Pl.putL L ⟨np, nk, nd, nt, nm⟩).length cap', by rw [za EC], ?_, ?_⟩
     ·rw [za EN]
      exact Mem.zb4 (Mem.za7 (Mem.za7 (za OW) _ _ (by show w.heap.size + 1 + 1 < _; omega)) _ _ (by show w.heap.size + 1 + 1 < _; omega)) (by omega)
     ·exact ((za AI).bel.setCell (by show w.heap.size ≤ w.heap.size + 1 + 1; omega) _).setCell (by show w.heap.size ≤ w.heap.size + 1 + 1; omega) _
    ·by_cases h40 : 40 ≤ L.length
     ·have t40 : (40 : Int) ≤ (L.length : Int) := by omega
      have EC := hide (show C = 9 by rw [za HC]; exact za E9 (za Q1) (za Q0) (za Q2) ⟨hfn, h40⟩)
      have EN := hide (show O = [] by rw [za HO, if_neg (by rw [za EC]; decide)])
      clear HC HO
      clear hr hfn E6 E12 E11 E9 E0 HPU Q0 Q1 Q2
      have c1 := (za HA5).one.cell 0
      have p0 := (za HA5).two.cell 0
      have p1 := (za HA5).two.cell 1
      have p2 := (za HA5).two.cell 2
      have p3 := (za HA5).two.cell 3
      have p4 := (za HA5).two.cell 4
      simp only [Pl.Nd.cs, kGs] at c1 p0 p1 p2 p3 p4
      go_wp2_with fail
      refine (zn7.zk0 9 _).mono ?_
      rintro e wI ⟨rfl, bI⟩
      have AI := hide ((za HA5).call bI)
      clear bI HA5
      have d0 := (za AI).three.cell 0
      have d1 := (za AI).three.cell 1
      have f0 := (za AI).three.fr 0
      have f1 := (za AI).three.fr 1
      simp only [kGs] at d0 d1
      go_wp2
      refine bodyPost_ret (v := .agg #[.slice none 0 0, .int .i64 9]) (by simp [results, Tryz.results121, go_sem, d0, d1]) rfl ⟨.slice none 0 0, by rw [za EC], by rw [za EN]; exact Mem.zd2 _ _, ?_⟩
      exact ((za AI).bel.setCell (by show w.heap.size ≤ w.heap.size + 1 + 1; omega) _).setCell (by show w.heap.size ≤ w.heap.size + 1 + 1; omega) _
     ·have t40 : ¬ (40 : Int) ≤ (L.length : Int) := by omega
      have EC := hide (show C = 0 by rw [za HC]; exact za E0 (za Q1) (za Q0) (za Q2) (fun h => h40 h.2))
      clear hr hfn E6 E12 E11 E9 E0 Q0 Q1 Q2 h40
      have EN := hide (show O = Pl.putL L ⟨np, nk, nd, nt, nm⟩ by rw [za HO, if_pos (za EC)])
      clear HC HO
      have c1 := (za HA5).one.cell 0
      have p0 := (za HA5).two.cell 0
      have p1 := (za HA5).two.cell 1
      have p2 := (za HA5).two.cell 2
      have p3 := (za HA5).two.cell 3
      have p4 := (za HA5).two.cell 4
      simp only [Pl.Nd.cs, kGs] at c1 p0 p1 p2 p3 p4
      go_wp2_with fail
      refine (za HPU _ (za HA5).bel).mono ?_
      rintro e wT ⟨v, rfl, own, bT⟩
      obtain ⟨a', cap', hvv⟩ := Mem.za1 own
      subst hvv
      have hs5 := (za HA5).three.lt
      have AI := hide ((za HA5).call bT)
      have OW := hide own
      clear own bT HA5 HPU c1 p0 p1 p2 p3 p4
      have d0 := (za AI).three.cell 0
      have d1 := (za AI).three.cell 1
      have f0 := (za AI).three.fr 0
      have f1 := (za AI).three.fr 1
      simp only [kGs] at d0 d1
      go_wp2
      refine bodyPost_ret (v := .agg #[.slice a' (Pl.putL L ⟨np, nk, nd, nt, nm⟩).length cap', .int .i64 0]) (by simp [results, Tryz.results121, go_sem, d0, d1]) rfl ⟨.slice a' (Pl.putL L ⟨np, nk, nd, nt, nm⟩).length cap', by rw [za EC], ?_, ?_⟩
      ·rw [za EN]
       exact Mem.zb4 (Mem.za7 (Mem.za7 (za OW) _ _ (by show w.heap.size + 1 + 1 < _; omega)) _ _ (by show w.heap.size + 1 + 1 < _; omega)) (by omega)
      ·exact ((za AI).bel.setCell (by show w.heap.size ≤ w.heap.size + 1 + 1; omega) _).setCell (by show w.heap.size ≤ w.heap.size + 1 + 1; omega) _
   ·have EC := hide (show C = 11 by rw [za HC]; exact za E11 (za Q1) hdd ⟨hk1, hov⟩)
    have EN := hide (show O = [] by rw [za HO, if_neg (by rw [za EC]; decide)])
    clear HC HO
    clear hov hdd hk1 E6 E12 E11 E9 E0 HAN HPU Q1
    go_wp2_with fail
    refine (zn7.zk0 11 _).mono ?_
    rintro e wI ⟨rfl, bI⟩
    have AI := hide ((za HA4).call bI)
    clear bI HA4
    have d0 := (za AI).three.cell 0
    have d1 := (za AI).three.cell 1
    have f0 := (za AI).three.fr 0
    have f1 := (za AI).three.fr 1
    simp only [kGs] at d0 d1
    go_wp2
    refine bodyPost_ret (v := .agg #[.slice none 0 0, .int .i64 11]) (by simp [results, Tryz.results121, go_sem, d0, d1]) rfl ⟨.slice none 0 0, by rw [za EC], by rw [za EN]; exact Mem.zd2 _ _, ?_⟩
    exact ((za AI).bel.setCell (by show w.heap.size ≤ w.heap.size + 1 + 1; omega) _).setCell (by show w.heap.size ≤ w.heap.size + 1 + 1; omega) _
 ·have t0 : UP.toList.isEmpty = false := by rw [Pl.ze]; simpa [Pl.zj1] using h0
  go_wp2_with fail
  refine (za HAU _ (za HA).bel).mono ?_
  rintro e wU ⟨⟨r, rfl, hr⟩, bU⟩
  have HA2 := hide ((za HA).call bU)
  clear HA bU HAU c1 p0 p1 p2 p3 p4
  rcases hr.out with ⟨ku, nu, rfl, hku, hfu⟩ | ⟨rfl, hfu⟩
  ·have tu : ¬ ((ku : Int) < 0) := by omega
   have Q1 : Hid (¬ (UP.size ≠ 0 ∧ L.find? (fun m => decide (m.path = UP)) = none)) := fun h => by rw [hfu] at h; cases h.2
   clear hr hku hfu h0 hUP
   have HA := HA2
   clear HA2
   have c1 := (za HA).one.cell 0
   have p0 := (za HA).two.cell 0
   have p1 := (za HA).two.cell 1
   have p2 := (za HA).two.cell 2
   have p3 := (za HA).two.cell 3
   have p4 := (za HA).two.cell 4
   simp only [Pl.Nd.cs, kGs] at c1 p0 p1 p2 p3 p4
   go_wp2_with fail
   refine (za HDU _ (za HA).bel).mono ?_
   rintro e wV ⟨rfl, bV⟩
   have HA3 := hide ((za HA).call bV)
   clear HA bV HDU
   clear c1 p0 p1 p2 p3 p4
   cases hdd : Pl.dirS L UP
   ·have EC := hide (show C = 12 by rw [za HC]; exact za E12 (za Q1) hdd)
    have EN := hide (show O = [] by rw [za HO, if_neg (by rw [za EC]; decide)])
    clear HC HO
    clear hdd E6 E12 E11 E9 E0 HOV HAN HPU Q1
    go_wp2_with fail
    refine (zn7.zk0 12 _).mono ?_
    rintro e wI ⟨rfl, bI⟩
    have AI := hide ((za HA3).call bI)
    clear bI HA3
    have d0 := (za AI).three.cell 0
    have d1 := (za AI).three.cell 1
    have f0 := (za AI).three.fr 0
    have f1 := (za AI).three.fr 1
    simp only [kGs] at d0 d1
    go_wp2
    refine bodyPost_ret (v := .agg #[.slice none 0 0, .int .i64 12]) (by simp [results, Tryz.results121, go_sem, d0, d1]) rfl ⟨.slice none 0 0, by rw [za EC], by rw [za EN]; exact Mem.zd2 _ _, ?_⟩
    exact ((za AI).bel.setCell (by show w.heap.size ≤ w.heap.size + 1 + 1; omega) _).setCell (by show w.heap.size ≤ w.heap.size + 1 + 1; omega) _
   have c1 := (za HA3).one.cell 0
   have p0 := (za HA3).two.cell 0
   have p1 := (za HA3).two.cell 1
   have p2 := (za HA3).two.cell 2
   have p3 := (za HA3).two.cell 3
   have p4 := (za HA3).two.cell 4
   simp only [Pl.Nd.cs, kGs] at c1 p0 p1 p2 p3 p4
   by_cases hk1 : nk = 1
   ·subst hk1
    have Q2 : Hid (¬ ((1 : Int) ≠ 1 ∧ Pl.zo7 L np = true)) := fun h => h.1 rfl
    have Q0 : Hid (Pl.dirS L UP = true) := hdd
    clear hdd HOV
    have HA4 := HA3
    clear HA3
    go_wp2_with fail
    refine (za HAN _ (za HA4).bel).mono ?_
    rintro e wN ⟨⟨r, rfl, hr⟩, bN⟩
    have HA5 := hide ((za HA4).call bN)
    clear HA4 bN HAN
    clear c1 p0 p1 p2 p3 p4
    rcases hr.out with ⟨kn, nn, rfl, hkn, hfn⟩ | ⟨rfl, hfn⟩
    ·have tn : ¬ ((kn : Int) < 0) := by omega
     have EC := hide (show C = 0 by rw [za HC]; exact za E0 (za Q1) (za Q0) (za Q2) (fun h => by rw [hfn] at h; cases h.1))
     clear hr hkn hfn E6 E12 E11 E9 E0 Q0 Q1 Q2
     have EN := hide (show O = Pl.putL L ⟨np, 1, nd, nt, nm⟩ by rw [za HO, if_pos (za EC)])
     clear HC HO
     have c1 := (za HA5).one.cell 0
     have p0 := (za HA5).two.cell 0
     have p1 := (za HA5).two.cell 1
     have p2 := (za HA5).two.cell 2
     have p3 := (za HA5).two.cell 3
     have p4 := (za HA5).two.cell 4
     simp only [Pl.Nd.cs, kGs] at c1 p0 p1 p2 p3 p4
     go_wp2_with fail
     refine (za HPU _ (za HA5).bel).mono ?_
     rintro e wT ⟨v, rfl, own, bT⟩
     obtain ⟨a', cap', hvv⟩ := Mem.za1 own
     subst hvv
     have hs5 := (za HA5).three.lt
     have AI := hide ((za HA5).call bT)
     have OW := hide own
     clear own bT HA5 HPU c1 p0 p1 p2 p3 p4
     have d0 := (za AI).three.cell 0
     have d1 := (za AI).three.cell 1
     have f0 := (za AI).three.fr 0
     have f1 := (za AI).three.fr 1
     simp only [kGs] at d0 d1
     go_wp2
     refine bodyPost_ret (v := .agg #[.slice a' (Pl.putL L ⟨np, 1, nd, nt, nm⟩).length cap', .int .i64 0]) (by simp [results, Tryz.results121, go_sem, d0, d1]) rfl ⟨.slice a' (Pl.putL L ⟨np, 1, nd, nt, nm⟩).length cap', by rw [za EC], ?_, ?_⟩
     ·rw [za EN]
      exact Mem.zb4 (Mem.za7 (Mem.za7 (za OW) _ _ (by show w.heap.size + 1 + 1 < _; omega)) _ _ (by show w.heap.size + 1 + 1 < _; omega)) (by omega)
     ·exact ((za AI).bel.setCell (by show w.heap.size ≤ w.heap.size + 1 + 1; omega) _).setCell (by show w.heap.size ≤ w.heap.size + 1 + 1; omega) _
    ·by_cases h40 : 40 ≤ L.length
     ·have t40 : (40 : Int) ≤ (L.length : Int) := by omega
      have EC := hide (show C = 9 by rw [za HC]; exact za E9 (za Q1) (za Q0) (za Q2) ⟨hfn, h40⟩)
      have EN := hide (show O = [] by rw [za HO, if_neg (by rw [za EC]; decide)])
      clear HC HO
      clear hr hfn E6 E12 E11 E9 E0 HPU Q0 Q1 Q2
      have c1 := (za HA5).one.cell 0
      have p0 := (za HA5).two.cell 0
      have p1 := (za HA5).two.cell 1
      have p2 := (za HA5).two.cell 2
      have p3 := (za HA5).two.cell 3
      have p4 := (za HA5).two.cell 4
      simp only [Pl.Nd.cs, kGs] at c1 p0 p1 p2 p3 p4
      go_wp2_with fail
      refine (zn7.zk0 9 _).mono ?_
      rintro e wI ⟨rfl, bI⟩
      have AI := hide ((za HA5).call bI)
      clear bI HA5
      have d0 := (za AI).three.cell 0
      have d1 := (za AI).three.cell 1
      have f0 := (za AI).three.fr 0
      have f1 := (za AI).three.fr 1
      simp only [kGs] at d0 d1
      go_wp2
      refine bodyPost_ret (v := .agg #[.slice none 0 0, .int .i64 9]) (by simp [results, Tryz.results121, go_sem, d0, d1]) rfl ⟨.slice none 0 0, by rw [za EC], by rw [za EN]; exact Mem.zd2 _ _, ?_⟩
      exact ((za AI).bel.setCell (by show w.heap.size ≤ w.heap.size + 1 + 1; omega) _).setCell (by show w.heap.size ≤ w.heap.size + 1 + 1; omega) _
     ·have t40 : ¬ (40 : Int) ≤ (L.length : Int) := by omega
      have EC := hide (show C = 0 by rw [za HC]; exact za E0 (za Q1) (za Q0) (za Q2) (fun h => h40 h.2))
      clear hr hfn E6 E12 E11 E9 E0 Q0 Q1 Q2 h40
      have EN := hide (show O = Pl.putL L ⟨np, 1, nd, nt, nm⟩ by rw [za HO, if_pos (za EC)])
      clear HC HO
      have c1 := (za HA5).one.cell 0
      have p0 := (za HA5).two.cell 0
      have p1 := (za HA5).two.cell 1
      have p2 := (za HA5).two.cell 2
      have p3 := (za HA5).two.cell 3
      have p4 := (za HA5).two.cell 4
      simp only [Pl.Nd.cs, kGs] at c1 p0 p1 p2 p3 p4
      go_wp2_with fail
      refine (za HPU _ (za HA5).bel).mono ?_
      rintro e wT ⟨v, rfl, own, bT⟩
      obtain ⟨a', cap', hvv⟩ := Mem.za1 own
      subst hvv
      have hs5 := (za HA5).three.lt
      have AI := hide ((za HA5).call bT)
      have OW := hide own
      clear own bT HA5 HPU c1 p0 p1 p2 p3 p4
      have d0 := (za AI).three.cell 0
      have d1 := (za AI).three.cell 1
      have f0 := (za AI).three.fr 0
      have f1 := (za AI).three.fr 1
      simp only [kGs] at d0 d1
      go_wp2
      refine bodyPost_ret (v := .agg #[.slice a' (Pl.putL L ⟨np, 1, nd, nt, nm⟩).length cap', .int .i64 0]) (by simp [results, Tryz.results121, go_sem, d0, d1]) rfl ⟨.slice a' (Pl.putL L ⟨np, 1, nd, nt, nm⟩).length cap', by rw [za EC], ?_, ?_⟩
      ·rw [za EN]
       exact Mem.zb4 (Mem.za7 (Mem.za7 (za OW) _ _ (by show w.heap.size + 1 + 1 < _; omega)) _ _ (by show w.heap.size + 1 + 1 < _; omega)) (by omega)
      ·exact ((za AI).bel.setCell (by show w.heap.size ≤ w.heap.size + 1 + 1; omega) _).setCell (by show w.heap.size ≤ w.heap.size + 1 + 1; omega) _
   ·have tk : (nk == 1) = false := by simpa using hk1
    go_wp2_with fail
    refine (za HOV _ (za HA3).bel).mono ?_
    rintro e wO ⟨rfl, bO⟩
    have HA4 := hide ((za HA3).call bO)
    clear HA3 bO HOV c1 p0 p1 p2 p3 p4
    cases hov : Pl.zo7 L np
    ·have Q2 : Hid (¬ (nk ≠ 1 ∧ Pl.zo7 L np = true)) := fun h => by rw [hov] at h; cases h.2
     have Q0 : Hid (Pl.dirS L UP = true) := hdd
     clear hov hdd hk1
     have c1 := (za HA4).one.cell 0
     have p0 := (za HA4).two.cell 0
     have p1 := (za HA4).two.cell 1
     have p2 := (za HA4).two.cell 2
     have p3 := (za HA4).two.cell 3
     have p4 := (za HA4).two.cell 4
     simp only [Pl.Nd.cs, kGs] at c1 p0 p1 p2 p3 p4
     go_wp2_with fail
     refine (za HAN _ (za HA4).bel).mono ?_
     rintro e wN ⟨⟨r, rfl, hr⟩, bN⟩
     have HA5 := hide ((za HA4).call bN)
     clear HA4 bN HAN
     clear c1 p0 p1 p2 p3 p4
     rcases hr.out with ⟨kn, nn, rfl, hkn, hfn⟩ | ⟨rfl, hfn⟩
     ·have tn : ¬ ((kn : Int) < 0) := by omega
      have EC := hide (show C = 0 by rw [za HC]; exact za E0 (za Q1) (za Q0) (za Q2) (fun h => by rw [hfn] at h; cases h.1))
      clear hr hkn hfn E6 E12 E11 E9 E0 Q0 Q1 Q2
      have EN := hide (show O = Pl.putL L ⟨np, nk, nd, nt, nm⟩ by rw [za HO, if_pos (za EC)])
      clear HC HO
      have c1 := (za HA5).one.cell 0
      have p0 := (za HA5).two.cell 0
      have p1 := (za HA5).two.cell 1
      have p2 := (za HA5).two.cell 2
      have p3 := (za HA5).two.cell 3
      have p4 := (za HA5).two.cell 4
      simp only [Pl.Nd.cs, kGs] at c1 p0 p1 p2 p3 p4
      go_wp2_with fail
      refine (za HPU _ (za HA5).bel).mono ?_
      rintro e wT ⟨v, rfl, own, bT⟩
      obtain ⟨a', cap', hvv⟩ := Mem.za1 own
      subst hvv
      have hs5 := (za HA5).three.lt
      have AI := hide ((za HA5).call bT)
      have OW := hide own
      clear own bT HA5 HPU c1 p0 p1 p2 p3 p4
      have d0 := (za AI).three.cell 0
      have d1 := (za AI).three.cell 1
      have f0 := (za AI).three.fr 0
      have f1 := (za AI).three.fr 1
      simp only [kGs] at d0 d1
      go_wp2
      refine bodyPost_ret (v := .agg #[.slice a' (Pl.putL L ⟨np, nk, nd, nt, nm⟩).length cap', .int .i64 0]) (by simp [results, Tryz.results121, go_sem, d0, d1]) rfl ⟨.slice a' (Pl.putL L ⟨np, nk, nd, nt, nm⟩).length cap', by rw [za EC], ?_, ?_⟩
      ·rw [za EN]
       exact Mem.zb4 (Mem.za7 (Mem.za7 (za OW) _ _ (by show w.heap.size + 1 + 1 < _; omega)) _ _ (by show w.heap.size + 1 + 1 < _; omega)) (by omega)
      ·exact ((za AI).bel.setCell (by show w.heap.size ≤ w.heap.size + 1 + 1; omega) _).setCell (by show w.heap.size ≤ w.heap.size + 1 + 1; omega) _
     ·by_cases h40 : 40 ≤ L.length
      ·have t40 : (40 : Int) ≤ (L.length : Int) := by omega
       have EC := hide (show C = 9 by rw [za HC]; exact za E9 (za Q1) (za Q0) (za Q2) ⟨hfn, h40⟩)
       have EN := hide (show O = [] by rw [za HO, if_neg (by rw [za EC]; decide)])
       clear HC HO
       clear hr hfn E6 E12 E11 E9 E0 HPU Q0 Q1 Q2
       have c1 := (za HA5).one.cell 0
       have p0 := (za HA5).two.cell 0
       have p1 := (za HA5).two.cell 1
       have p2 := (za HA5).two.cell 2
       have p3 := (za HA5).two.cell 3
       have p4 := (za HA5).two.cell 4
       simp only [Pl.Nd.cs, kGs] at c1 p0 p1 p2 p3 p4
       go_wp2_with fail
       refine (zn7.zk0 9 _).mono ?_
       rintro e wI ⟨rfl, bI⟩
       have AI := hide ((za HA5).call bI)
       clear bI HA5
       have d0 := (za AI).three.cell 0
       have d1 := (za AI).three.cell 1
       have f0 := (za AI).three.fr 0
       have f1 := (za AI).three.fr 1
       simp only [kGs] at d0 d1
       go_wp2
       refine bodyPost_ret (v := .agg #[.slice none 0 0, .int .i64 9]) (by simp [results, Tryz.results121, go_sem, d0, d1]) rfl ⟨.slice none 0 0, by rw [za EC], by rw [za EN]; exact Mem.zd2 _ _, ?_⟩
       exact ((za AI).bel.setCell (by show w.heap.size ≤ w.heap.size + 1 + 1; omega) _).setCell (by show w.heap.size ≤ w.heap.size + 1 + 1; omega) _
      ·have t40 : ¬ (40 : Int) ≤ (L.length : Int) := by omega
       have EC := hide (show C = 0 by rw [za HC]; exact za E0 (za Q1) (za Q0) (za Q2) (fun h => h40 h.2))
       clear hr hfn E6 E12 E11 E9 E0 Q0 Q1 Q2 h40
       have EN := hide (show O = Pl.putL L ⟨np, nk, nd, nt, nm⟩ by rw [za HO, if_pos (za EC)])
       clear HC HO
       have c1 := (za HA5).one.cell 0
       have p0 := (za HA5).two.cell 0
       have p1 := (za HA5).two.cell 1
       have p2 := (za HA5).two.cell 2
       have p3 := (za HA5).two.cell 3
       have p4 := (za HA5).two.cell 4
       simp only [Pl.Nd.cs, kGs] at c1 p0 p1 p2 p3 p4
       go_wp2_with fail
       refine (za HPU _ (za HA5).bel).mono ?_
       rintro e wT ⟨v, rfl, own, bT⟩
       obtain ⟨a', cap', hvv⟩ := Mem.za1 own
       subst hvv
       have hs5 := (za HA5).three.lt
       have AI := hide ((za HA5).call bT)
       have OW := hide own
       clear own bT HA5 HPU c1 p0 p1 p2 p3 p4
       have d0 := (za AI).three.cell 0
       have d1 := (za AI).three.cell 1
       have f0 := (za AI).three.fr 0
       have f1 := (za AI).three.fr 1
       simp only [kGs] at d0 d1
       go_wp2
       refine bodyPost_ret (v := .agg #[.slice a' (Pl.putL L ⟨np, nk, nd, nt, nm⟩).length cap', .int .i64 0]) (by simp [results, Tryz.results121, go_sem, d0, d1]) rfl ⟨.slice a' (Pl.putL L ⟨np, nk, nd, nt, nm⟩).length cap', by rw [za EC], ?_, ?_⟩
       ·rw [za EN]
        exact Mem.zb4 (Mem.za7 (Mem.za7 (za OW) _ _ (by show w.heap.size + 1 + 1 < _; omega)) _ _ (by show w.heap.size + 1 + 1 < _; omega)) (by omega)
       ·exact ((za AI).bel.setCell (by show w.heap.size ≤ w.heap.size + 1 + 1; omega) _).setCell (by show w.heap.size ≤ w.heap.size + 1 + 1; omega) _
    ·have EC := hide (show C = 11 by rw [za HC]; exact za E11 (za Q1) hdd ⟨hk1, hov⟩)
     have EN := hide (show O = [] by rw [za HO, if_neg (by rw [za EC]; decide)])
     clear HC HO
     clear hov hdd hk1 E6 E12 E11 E9 E0 HAN HPU Q1
     go_wp2_with fail
     refine (zn7.zk0 11 _).mono ?_
     rintro e wI ⟨rfl, bI⟩
     have AI := hide ((za HA4).call bI)
     clear bI HA4
     have d0 := (za AI).three.cell 0
     have d1 := (za AI).three.cell 1
     have f0 := (za AI).three.fr 0
     have f1 := (za AI).three.fr 1
     simp only [kGs] at d0 d1
     go_wp2
     refine bodyPost_ret (v := .agg #[.slice none 0 0, .int .i64 11]) (by simp [results, Tryz.results121, go_sem, d0, d1]) rfl ⟨.slice none 0 0, by rw [za EC], by rw [za EN]; exact Mem.zd2 _ _, ?_⟩
     exact ((za AI).bel.setCell (by show w.heap.size ≤ w.heap.size + 1 + 1; omega) _).setCell (by show w.heap.size ≤ w.heap.size + 1 + 1; omega) _
  ·have EC := hide (show C = 6 by rw [za HC]; exact za E6 ⟨h0, hfu⟩)
   have EN := hide (show O = [] by rw [za HO, if_neg (by rw [za EC]; decide)])
   clear HC HO
   clear hr hfu h0 hUP E6 E12 E11 E9 E0 HDU HOV HAN HPU
   go_wp2_with fail
   refine (zn7.zk0 6 _).mono ?_
   rintro e wI ⟨rfl, bI⟩
   have AI := hide ((za HA2).call bI)
   clear bI HA2
   have d0 := (za AI).three.cell 0
   have d1 := (za AI).three.cell 1
   have f0 := (za AI).three.fr 0
   have f1 := (za AI).three.fr 1
   simp only [kGs] at d0 d1
   go_wp2
   refine bodyPost_ret (v := .agg #[.slice none 0 0, .int .i64 6]) (by simp [results, Tryz.results121, go_sem, d0, d1]) rfl ⟨.slice none 0 0, by rw [za EC], by rw [za EN]; exact Mem.zd2 _ _, ?_⟩
   exact ((za AI).bel.setCell (by show w.heap.size ≤ w.heap.size + 1 + 1; omega) _).setCell (by show w.heap.size ≤ w.heap.size + 1 + 1; omega) _
end WPutC
end Go.Proofs.YtfdbokipgofcdaaGreatDoor

namespace Go.Proofs.YtfdbokipgofcdaaGreatDoor
open Go.RowKit
namespace WPutD
set_option linter.unusedSimpArgs false in
set_option maxRecDepth 100000 in
set_option maxHeartbeats 1000000 in
theorem zd0 (a : Option Addr) (cap : Nat) (L : List Pl.Nd) (n : Pl.Nd) (w : World) (hA : zu4.okA w a cap L) (hl : L.length ≤ 1048576) (hv : Mem.zc2 w a L) (hok : ∀ n ∈ L, n.path.size ≤ 1048576 ∧ n.data.size ≤ 1048576) (hn : n.path.size ≤ 1048576 ∧ n.data.size ≤ 1048576) :
  Calls Tryz.prog 103 #[.agg #[.slice a L.length cap], n.val] w fun e w' => ∃ v, e = .returned (.agg #[v, .int .i64 (Pl.putC L n)]) ∧ Mem.ownN w' w.heap.size v (Pl.putO L n) ∧ Below w.heap.size w w' := by
 have HRT := hide (fun W (b : Below w.heap.size w W) => zt4.ye6 a cap L W hl (Mem.za8 hv b) hok)
 have HNR := hide (fun W => WNode.zd0 n W hn.1 hn.2)
 have HAD := hide (fun W (b : Below w.heap.size w W) (h1 : Pl.za2 L = true) (h2 : Pl.zb6 n = true) => WPutC.zx9 a cap L n W (by have := (WPutB.yp1 h1).1; omega) (zu4.yh1 hA b.size) (Mem.za8 hv b) (fun m hm => by have := (WPutB.yp1 h1).2 m hm; omega) (by have := Pl.zi7 (Pl.ze2 h2).1; omega))
 have HC : Hid (Pl.putC L n = if Pl.za2 L = true ∧ Pl.zb6 n = true then Pl.addC L n else 1) := rfl
 have HO : Hid (Pl.putO L n = if Pl.za2 L = true ∧ Pl.zb6 n = true then Pl.addO L n else []) := rfl
 generalize Pl.putC L n = C at HC ⊢
 generalize Pl.putO L n = O at HO ⊢
 generalize Pl.addC L n = AC at HAD HC
 generalize Pl.addO L n = AO at HAD HO
 generalize Pl.za2 L = R1 at HRT HAD HC HO
 generalize Pl.zb6 n = R2 at HNR HAD HC HO
 obtain ⟨np, nk, nd, nt, nm⟩ := n
 simp only [Pl.Nd.val] at HNR HAD ⊢
 have H0 : WPutC.At w (((w.alloc (.cells #[.slice a L.length cap] 36)).alloc (.cells #[.string np, .int .i64 nk, .string nd, .int .i64 nt, .int .i64 nm] 89)).alloc (.cells #[.slice none 0 0, .int .i64 0] 42)) a cap L ⟨np, nk, nd, nt, nm⟩ :=
  ⟨(((Below.refl _ _).alloc (Nat.le_refl _) _).alloc (by simp) _).alloc (by simp; omega) _, ((Mem.Blk.new _ _ _).alloc _).alloc _, (by have h := (Mem.Blk.new (w.alloc (.cells #[.slice a L.length cap] 36)) #[.string np, .int .i64 nk, .string nd, .int .i64 nt, .int .i64 nm] 89).alloc (.cells #[.slice none 0 0, .int .i64 0] 42); rwa [show (w.alloc (.cells #[.slice a L.length cap] 36)).heap.size = w.heap.size + 1 by simp] at h), Mem.zq6 _ _ _ _⟩
 have HA := hide H0
 clear H0 hv hok hn
 go_enter Tryz.func103, Tryz.ntmps103
 go_wp2_with fail
 refine (za HRT _ (za HA).bel).mono ?_
 rintro e w1 ⟨rfl, b1⟩
 have A1 := hide ((za HA).call b1)
 clear HA HRT b1
 have c1 := (za A1).one.cell 0
 have p0 := (za A1).two.cell 0
 have p1 := (za A1).two.cell 1
 have p2 := (za A1).two.cell 2
 have p3 := (za A1).two.cell 3
 have p4 := (za A1).two.cell 4
 simp only [Pl.Nd.cs, kGs] at c1 p0 p1 p2 p3 p4
 cases R1
 ·have EC := hide (show C = 1 by rw [za HC, if_neg (by simp)])
  have EN := hide (show O = [] by rw [za HO, if_neg (by simp)])
  clear HC HO HAD HNR
  have A2 := A1
  clear A1
  go_wp2_with fail
  refine (zn7.zk0 1 _).mono ?_
  rintro e wI ⟨rfl, bI⟩
  have AI := hide ((za A2).call bI)
  clear bI A2
  have d0 := (za AI).three.cell 0
  have d1 := (za AI).three.cell 1
  have f0 := (za AI).three.fr 0
  have f1 := (za AI).three.fr 1
  simp only [kGs] at d0 d1
  go_wp2
  refine bodyPost_ret (v := .agg #[.slice none 0 0, .int .i64 1]) (by simp [results, Tryz.results103, go_sem, d0, d1]) rfl ⟨.slice none 0 0, by rw [za EC], by rw [za EN]; exact Mem.zd2 _ _, ?_⟩
  exact ((za AI).bel.setCell (by show w.heap.size ≤ w.heap.size + 1 + 1; omega) _).setCell (by show w.heap.size ≤ w.heap.size + 1 + 1; omega) _
 ·go_wp2_with fail
  refine (za HNR _).mono ?_
  rintro e w2 ⟨rfl, b2⟩
  have A2 := hide ((za A1).call b2)
  clear A1 HNR b2 c1 p0 p1 p2 p3 p4
  cases R2
  ·have EC := hide (show C = 1 by rw [za HC, if_neg (by simp)])
   have EN := hide (show O = [] by rw [za HO, if_neg (by simp)])
   clear HC HO HAD
   go_wp2_with fail
   refine (zn7.zk0 1 _).mono ?_
   rintro e wI ⟨rfl, bI⟩
   have AI := hide ((za A2).call bI)
   clear bI A2
   have d0 := (za AI).three.cell 0
   have d1 := (za AI).three.cell 1
   have f0 := (za AI).three.fr 0
   have f1 := (za AI).three.fr 1
   simp only [kGs] at d0 d1
   go_wp2
   refine bodyPost_ret (v := .agg #[.slice none 0 0, .int .i64 1]) (by simp [results, Tryz.results103, go_sem, d0, d1]) rfl ⟨.slice none 0 0, by rw [za EC], by rw [za EN]; exact Mem.zd2 _ _, ?_⟩
   exact ((za AI).bel.setCell (by show w.heap.size ≤ w.heap.size + 1 + 1; omega) _).setCell (by show w.heap.size ≤ w.heap.size + 1 + 1; omega) _
  ·have EC := hide (show C = AC by rw [za HC, if_pos (by simp)])
   have EN := hide (show O = AO by rw [za HO, if_pos (by simp)])
   clear HC HO
   have c1 := (za A2).one.cell 0
   have p0 := (za A2).two.cell 0
   have p1 := (za A2).two.cell 1
   have p2 := (za A2).two.cell 2
   have p3 := (za A2).two.cell 3
   have p4 := (za A2).two.cell 4
   simp only [Pl.Nd.cs, kGs] at c1 p0 p1 p2 p3 p4
   go_wp2_with fail
   refine (za HAD _ (za A2).bel (by first | rfl | trivial) (by first | rfl | trivial)).mono ?_
   rintro e wI ⟨v, rfl, own, bI⟩
   obtain ⟨a', cap', hvv⟩ := Mem.za1 own
   subst hvv
   have hs5 := (za A2).three.lt
   have AI := hide ((za A2).call bI)
   have OW := hide own
   clear own bI A2 HAD c1 p0 p1 p2 p3 p4
   have d0 := (za AI).three.cell 0
   have d1 := (za AI).three.cell 1
   have f0 := (za AI).three.fr 0
   have f1 := (za AI).three.fr 1
   simp only [kGs] at d0 d1
   go_wp2
   refine bodyPost_ret (v := .agg #[.slice a' AO.length cap', .int .i64 AC]) (by simp [results, Tryz.results103, go_sem, d0, d1]) rfl ⟨.slice a' AO.length cap', by rw [za EC], ?_, ?_⟩
   ·rw [za EN]
    exact Mem.zb4 (Mem.za7 (Mem.za7 (za OW) _ _ (by show w.heap.size + 1 + 1 < _; omega)) _ _ (by show w.heap.size + 1 + 1 < _; omega)) (by omega)
   ·exact ((za AI).bel.setCell (by show w.heap.size ≤ w.heap.size + 1 + 1; omega) _).setCell (by show w.heap.size ≤ w.heap.size + 1 + 1; omega) _
end WPutD
end Go.Proofs.YtfdbokipgofcdaaGreatDoor

