/- Several texts of one claim in one file: WPutH, WAboveA, Merge. -/
import Derived.Test.YtppmlbofhghghaaGreatDoorWPutG
import Derived.Test.YtppmlbofhghghaaGreatDoorG02
import Derived.Test.YtppmlbofhghghaaGreatDoorG04
import Derived.Test.YtppmlbofhghghaaGreatDoorG28
import Derived.Deep.RegionHeld3
namespace Go.Proofs.YtppmlbofhghghaaGreatDoor
open Go.RowKit
namespace zb1
def okA (w : World) (a : Option Addr) (cap : Nat) (L : List Pl.Nd) : Prop := (a = none ∧ cap = 0 ∧ L = []) ∨ ∃ g o, a = some ⟨g, o, none⟩ ∧ g < w.heap.size ∧ L.length ≤ cap
theorem zg3 {w w' : World} {a : Option Addr} {cap : Nat} {L : List Pl.Nd} (h : okA w a cap L) (b : w.heap.size ≤ w'.heap.size) : okA w' a cap L := by
 rcases h with h | ⟨g, o, h1, h2, h3⟩
 ·exact .inl h
 ·exact .inr ⟨g, o, h1, Nat.lt_of_lt_of_le h2 b, h3⟩
structure At0 (w W : World) (n : Pl.Nd) : Prop where
 bel : Below w.heap.size w W
 one : Mem.Blk W w.heap.size #[.slice none 0 0] 50
 two : Mem.Blk W (w.heap.size + 1) n.cs.toArray 47
 three : Mem.Blk W (w.heap.size + 1 + 1) #[.slice none 0 0] 50
section
variable {w W W' : World} {n : Pl.Nd}
theorem At0.call (h : At0 w W n) (b : Below W.heap.size W W') : At0 w W' n :=
 ⟨h.bel.trans (b.mono h.bel.size), h.one.call b, h.two.call b, h.three.call b⟩
theorem At0.drew (h : At0 w W n) : At0 w W.drew n :=
 ⟨⟨h.bel.os, h.bel.tape, h.bel.output, h.bel.size, h.bel.block⟩, h.one, h.two, h.three⟩
theorem At0.grown {r : Option Nat} (h : At0 w W n) (b : W.grownBy W' r) (hr : ∀ q, r = some q → w.heap.size + 3 ≤ q) : At0 w W' n :=
 ⟨h.bel.grown b h.bel.size (fun q hq => by have := hr q hq; omega), h.one.grown b (fun e => by have := hr _ e.symm; omega), h.two.grown b (fun e => by have := hr _ e.symm; omega), h.three.grown b (fun e => by have := hr _ e.symm; omega)⟩
theorem At0.alloc (h : At0 w W n) (x : Obj) : At0 w (W.alloc x) n := h.call ((Below.refl _ _).alloc (Nat.le_refl _) x)
end
set_option linter.unusedSimpArgs false in
set_option maxRecDepth 100000 in
set_option maxHeartbeats 1000000 in
theorem put_nil (n : Pl.Nd) (w : World) :
  Calls Tryz.prog 30 #[.agg #[.slice none 0 0], n.val] w fun e w' => ∃ v, e = .returned (.agg #[v]) ∧ Mem.ownN w' w.heap.size v [n] ∧ Below w.heap.size w w' := by
 obtain ⟨i0, hi, hz0, hz1, hz2⟩ := info_parts zg8.zn8
 obtain ⟨np, nk, nd, nt, nm⟩ := n
 simp only [Pl.Nd.val]
 have H0 : At0 w (((w.alloc (.cells #[.slice none 0 0] 50)).alloc (.cells #[.string np, .int .i64 nk, .string nd, .int .i64 nt, .int .i64 nm] 47)).alloc (.cells #[.slice none 0 0] 50)) ⟨np, nk, nd, nt, nm⟩ :=
  ⟨(((Below.refl _ _).alloc (Nat.le_refl _) _).alloc (by simp) _).alloc (by simp; omega) _, ((Mem.Blk.new _ _ _).alloc _).alloc _, (by have h := (Mem.Blk.new (w.alloc (.cells #[.slice none 0 0] 50)) #[.string np, .int .i64 nk, .string nd, .int .i64 nt, .int .i64 nm] 47).alloc (.cells #[.slice none 0 0] 50); rwa [show (w.alloc (.cells #[.slice none 0 0] 50)).heap.size = w.heap.size + 1 by simp] at h), Mem.zq0 _ _ _ _⟩
 have HH := hide H0
 clear H0
 go_enter Tryz.func30, Tryz.ntmps30
 go_wp2
 go_loopw [5] (fun i wr => i = .int .i64 0 ∧ Hid (At0 w wr ⟨np, nk, nd, nt, nm⟩)) (fun i _ => 0)
 case atStart => exact ⟨rfl, HH⟩
 case round =>
  obtain ⟨rfl, HA⟩ := hrel
  clear HH
  have MK : Hid (∀ W', At0 w W' ⟨np, nk, nd, nt, nm⟩ → (fun W' => At0 w W' ⟨np, nk, nd, nt, nm⟩ ∧ W'.cell? ⟨w.heap.size, 0, none⟩ = some (.slice none 0 0) ∧ W'.cell? ⟨w.heap.size + 1, 0, none⟩ = some (.string np)) W') := fun W' h => ⟨h, h.one.cell 0, h.two.cell 0⟩
  go_wp2_with fail
  refine wp_region_held_drew (S := fun W' => At0 w W' ⟨np, nk, nd, nt, nm⟩ ∧ W'.cell? ⟨w.heap.size, 0, none⟩ = some (.slice none 0 0) ∧ W'.cell? ⟨w.heap.size + 1, 0, none⟩ = some (.string np)) (by kernel_rfl) ?_ (fun hHeld => ?_)
  ·exact za MK _ (za HA).drew
  refine tka (i := 0) rfl ?_
  try simp only [Act.put, kBs]
  refine tka (i := 1) rfl ?_
  try simp only [Act.put, kBs]
  refine tka (i := 2) rfl ?_
  try simp only [Act.put, kBs]
  refine tka (i := 3) rfl ?_
  try simp only [Act.put, kBs]
  refine tka (i := 4) rfl ?_
  try simp only [Act.put, kBs]
  refine tka (i := 5) rfl ?_
  try simp only [Act.put, kBs]
  refine tkc (i := 6) rfl ?_
  try simp only [Act.put, kBs]
  refine tkc (i := 7) rfl ?_
  try simp only [Act.put, kBs]
  refine tkc (i := 8) rfl ?_
  try simp only [Act.put, kBs]
  refine tkc (i := 9) rfl ?_
  try simp only [Act.put, kBs]
  refine tkc (i := 10) rfl ?_
  try simp only [Act.put, kBs]
  refine tkc (i := 11) rfl ?_
  try simp only [Act.put, kBs]
  refine tkc (i := 12) rfl ?_
  try simp only [Act.put, kBs]
  refine tkc (i := 13) rfl ?_
  try simp only [Act.put, kBs]
  refine tkc (i := 14) rfl ?_
  try simp only [Act.put, kBs]
  refine tka (i := 15) rfl ?_
  try simp only [Act.put, kBs]
  refine wpAnyH_done (by kernel_rfl) ?_ _
  generalize wr.drew = WE at hHeld ⊢
  have AX := hide hHeld.1
  clear hHeld MK HA
  have hsW := (za AX).three.lt
  have OA0 : Hid (Mem.ownN (WE.alloc (.cells #[] 47)) (w.heap.size + 3) (.slice (some ⟨WE.heap.size, 0, none⟩) 0 0) []) := ⟨rfl, .inr ⟨WE.heap.size, 0, #[], rfl, by omega, heap_alloc_new _ _, Nat.le_refl _, Nat.zero_le _, rfl, rfl⟩⟩
  have AA := hide ((za AX).alloc (.cells #[] 47))
  clear AX
  have d0 := (za AA).one.cell 0
  simp only [kA0, kA1] at d0
  have e0 := (za AA).two.cell 0
  have e1 := (za AA).two.cell 1
  have e2 := (za AA).two.cell 2
  have e3 := (za AA).two.cell 3
  have e4 := (za AA).two.cell 4
  simp only [Pl.Nd.cs, kA0, kA1, kA2] at e0 e1 e2 e3 e4
  go_wp2_with (at_builtin; first | (refine wpList_append_own_none rfl _ _ 48 rfl (w.heap.size + 3) 47 i0 5 Tryz.underlying48 hi _ _ _ rfl (za OA0) rfl ?_; generalize WE.alloc (.cells #[] 47) = wA at AA OA0 d0 e0 e1 e2 e3 e4 ⊢) | refine wpList_append_own _ rfl _ _ 48 rfl (w.heap.size + 3) 47 i0 _ 5 56 Tryz.underlying48 hi hz0 hz1 hz2 rfl (by decide) _ _ _ rfl (Mem.zf8 (za OA0) _) ⟨wA.heap.size, 0, none⟩ 1 1 [.string np, .int .i64 nk, .string nd, .int .i64 nt, .int .i64 nm] rfl rfl (Mem.zp8 wA ⟨np, nk, nd, nt, nm⟩ _) (Mem.zn5 ⟨np, nk, nd, nt, nm⟩) (by rw [List.length_nil]; unfold maxLen; omega) (by rw [List.length_nil]; omega) (by have := (za AA).three.lt; simp; omega) ?_)
  intro v2 wB ownB growB _
  have OB := hide (Mem.zl0 (L := []) (n := ⟨np, nk, nd, nt, nm⟩) ownB)
  rw [List.nil_append] at OB
  have AB := hide (((za AA).alloc (.cells #[.string np, .int .i64 nk, .string nd, .int .i64 nt, .int .i64 nm] 47)).grown growB (fun q hq => by have h9 : WE.heap.size = q := Option.some.inj hq; omega))
  clear ownB growB OA0 AA d0 e0 e1 e2 e3 e4 hsW
  have MK : Hid (∀ W', At0 w W' ⟨np, nk, nd, nt, nm⟩ → (fun W' => At0 w W' ⟨np, nk, nd, nt, nm⟩ ∧ W'.cell? ⟨w.heap.size, 0, none⟩ = some (.slice none 0 0) ∧ W'.cell? ⟨w.heap.size + 1, 0, none⟩ = some (.string np)) W') := fun W' h => ⟨h, h.one.cell 0, h.two.cell 0⟩
  go_wp2_with fail
  refine wp_region_held_drew (S := fun W' => At0 w W' ⟨np, nk, nd, nt, nm⟩ ∧ W'.cell? ⟨w.heap.size, 0, none⟩ = some (.slice none 0 0) ∧ W'.cell? ⟨w.heap.size + 1, 0, none⟩ = some (.string np)) (by kernel_rfl) ?_ (fun hHeld => ?_)
  ·exact za MK _ (za AB).drew
  refine tka (i := 0) rfl ?_
  try simp only [Act.put, kBs]
  refine tka (i := 1) rfl ?_
  try simp only [Act.put, kBs]
  refine tka (i := 2) rfl ?_
  try simp only [Act.put, kBs]
  refine tka (i := 3) rfl ?_
  try simp only [Act.put, kBs]
  refine tka (i := 4) rfl ?_
  try simp only [Act.put, kBs]
  refine tka (i := 5) rfl ?_
  try simp only [Act.put, kBs]
  refine tkc (i := 6) rfl ?_
  try simp only [Act.put, kBs]
  refine tkc (i := 7) rfl ?_
  try simp only [Act.put, kBs]
  refine tkc (i := 8) rfl ?_
  try simp only [Act.put, kBs]
  refine tkc (i := 9) rfl ?_
  try simp only [Act.put, kBs]
  refine tkc (i := 10) rfl ?_
  try simp only [Act.put, kBs]
  refine tkc (i := 11) rfl ?_
  try simp only [Act.put, kBs]
  refine tkc (i := 12) rfl ?_
  try simp only [Act.put, kBs]
  refine tkc (i := 13) rfl ?_
  try simp only [Act.put, kBs]
  refine tkc (i := 14) rfl ?_
  try simp only [Act.put, kBs]
  refine tka (i := 15) rfl ?_
  try simp only [Act.put, kBs]
  refine wpAnyH_done (by kernel_rfl) ?_ _
  have OC : Hid (Mem.ownN wB.drew (w.heap.size + 3) v2 [⟨np, nk, nd, nt, nm⟩]) := za OB
  generalize wB.drew = WC at hHeld OC ⊢
  have AC := hide hHeld.1
  clear hHeld MK AB OB
  have d0 := (za AC).one.cell 0
  simp only [kA0, kA1] at d0
  obtain ⟨a3, cap3, hv3⟩ := Mem.za2 (za OC)
  subst hv3
  have z0 := (za AC).three.cell 0
  have zf := (za AC).three.fr 0
  simp only [kA0, kA1] at z0
  go_wp2_with (at_builtin; refine wpList_append_own_none rfl _ _ 48 rfl (w.heap.size + 3) 47 i0 5 Tryz.underlying48 hi _ _ _ rfl (za OC) rfl ?_)
  refine bodyPost_ret (v := .agg #[.slice a3 1 cap3]) (by simp [results, Tryz.results30, go_sem, z0]) rfl ⟨_, rfl, ?_, ?_⟩
  ·exact Mem.zb4 (Mem.za8 (za OC) _ _ (by show w.heap.size + 1 + 1 < w.heap.size + 3; omega)) (by omega)
  ·exact (za AC).bel.setCell (by show w.heap.size ≤ w.heap.size + 1 + 1; omega) _
theorem yb9 (a : Option Addr) (cap : Nat) (L : List Pl.Nd) (n : Pl.Nd) (w : World) (hl : L.length ≤ 1000) (hA : okA w a cap L) (hv : Mem.za1 w a L) (hok : ∀ m ∈ L, m.path.size ≤ 8000) (hn8 : n.path.size ≤ 8000) :
  Calls Tryz.prog 30 #[.agg #[.slice a L.length cap], n.val] w fun e w' => ∃ v, e = .returned (.agg #[v]) ∧ Mem.ownN w' w.heap.size v (Pl.putL L n) ∧ Below w.heap.size w w' := by
 rcases hA with ⟨rfl, rfl, rfl⟩ | ⟨g, o, rfl, h2, h3⟩
 ·exact put_nil n w
 ·exact put_off g o cap L n w hl h2 hv h3 hok hn8
end zb1
end Go.Proofs.YtppmlbofhghghaaGreatDoor

namespace Go.Proofs.YtppmlbofhghghaaGreatDoor
open Go.RowKit
namespace Pl
def zy6 (S L : List Nd) (q : ByteArray) : List Nd :=
 match lk L q with
 | some m => if m.kind = 0 then putL L (dirN L q ((lk S q).getD za7).time) else L
 | none => putL L (dirN L q ((lk S q).getD za7).time)
def abvN (S L : List Nd) : List ByteArray → List Nd
 | [] => L
 | q :: qs => abvN S (zy6 S L q) qs
theorem stepA_put {S L : List Nd} {q : ByteArray} {n : Nd} (h : lk L q = none ∨ ∃ m, lk L q = some m ∧ m.kind = 0) (hn : lk S q = some n) : zy6 S L q = putL L (dirN L q n.time) := by
 unfold zy6
 rcases h with h | ⟨m, h, hk⟩
 ·rw [h, hn]; rfl
 ·rw [h, hn]; simp only; rw [if_pos hk]; rfl
theorem stepA_keep {S L : List Nd} {q : ByteArray} {m : Nd} (h : lk L q = some m) (hk : m.kind ≠ 0) : zy6 S L q = L := by
 unfold zy6; rw [h]; simp only; rw [if_neg hk]
theorem wayK_get {L : List ByteArray} {k j : Nat} (h : j < k) : (ways L k)[j]? = some (glue (L.take (j + 1))) := by simp [ways, h]
theorem wayK_drop {L : List ByteArray} {k j : Nat} (h : j < k) : (ways L k).drop j = glue (L.take (j + 1)) :: (ways L k).drop (j + 1) := by
 have h1 := List.getElem?_eq_some_iff.1 (wayK_get (L := L) h)
 rw [List.drop_eq_getElem_cons h1.1, h1.2]
theorem wayK_join {L : List ByteArray} {j : Nat} {t : ByteArray} (hL : ∀ t ∈ L, ze5 t = true) (h : L[j]? = some t) : ze4 (glue (L.take j)) t = glue (L.take (j + 1)) := by
 have h1 := List.getElem?_eq_some_iff.1 h
 rw [ze4, zo7 (fun t ht => hL t (List.mem_of_mem_take ht)), List.take_succ_eq_append_getElem h1.1, h1.2]
end Pl
namespace zh3
theorem row7 {w w' : World} {B e size n : Nat} {v : Value} {xs : List Value} (h : w.ownsRow B e size v n xs) (b : Below w.heap.size w w') : w'.ownsRow B e size v n xs := by
 refine ⟨h.1, ?_⟩
 rcases h.2 with h0 | ⟨g, cap, cur, hv, hb, hg, rest⟩
 ·exact .inl h0
 ·exact .inr ⟨g, cap, cur, hv, hb, (b.block _ (Array.getElem?_eq_some_iff.1 hg).1).trans hg, rest⟩
structure Ab (w W : World) (gs os cs : Nat) (S : List Pl.Nd) (N : List ByteArray) (vl : Value) (a : Option Addr) (cap : Nat) (L : List Pl.Nd) : Prop where
 bel : Below w.heap.size w W
 blk : Mem.Blk W w.heap.size #[.slice a L.length cap] 50
 sig : Mem.Blk W (w.heap.size + 1) #[.slice (some ⟨gs, os, none⟩) S.length cs] 50
 out : Mem.Blk W (w.heap.size + 2) #[.slice none 0 0] 50
 okA : zb1.okA W a cap L
 nds : Mem.za1 W a L
 sns : Mem.za1 W (some ⟨gs, os, none⟩) S
 far : ∀ g o, a = some ⟨g, o, none⟩ → g < w.heap.size ∨ w.heap.size + 3 ≤ g
 fas : gs < w.heap.size
 txt : W.ownsRow (w.heap.size + 3) 9 1 vl N.length (N.map Value.string)
 sml : ∀ m ∈ L, m.path.size ≤ 8000
theorem Ab.call {w W W' : World} {gs os cs : Nat} {S : List Pl.Nd} {N : List ByteArray} {vl : Value} {a : Option Addr} {cap : Nat} {L : List Pl.Nd} (h : Ab w W gs os cs S N vl a cap L) (b : Below W.heap.size W W') : Ab w W' gs os cs S N vl a cap L :=
 ⟨h.bel.trans (b.mono h.bel.size), h.blk.call b, h.sig.call b, h.out.call b, zb1.zg3 h.okA b.size, Mem.za0 h.nds b, Mem.za0 h.sns b, h.far, h.fas, row7 h.txt b, h.sml⟩
theorem Ab.drew {w W : World} {gs os cs : Nat} {S : List Pl.Nd} {N : List ByteArray} {vl : Value} {a : Option Addr} {cap : Nat} {L : List Pl.Nd} (h : Ab w W gs os cs S N vl a cap L) : Ab w W.drew gs os cs S N vl a cap L :=
 h.call ⟨rfl, rfl, rfl, Nat.le_refl _, fun _ _ => rfl⟩
theorem Ab.size {w W : World} {gs os cs : Nat} {S : List Pl.Nd} {N : List ByteArray} {vl : Value} {a : Option Addr} {cap : Nat} {L : List Pl.Nd} (h : Ab w W gs os cs S N vl a cap L) : w.heap.size + 3 ≤ W.heap.size := h.out.lt
theorem Ab.put {w W : World} {gs os cs B : Nat} {S : List Pl.Nd} {N : List ByteArray} {vl : Value} {a a' : Option Addr} {cap cap' : Nat} {L L' : List Pl.Nd} (h : Ab w W gs os cs S N vl a cap L) (own : Mem.ownN W B (.slice a' L'.length cap') L') (hB : w.heap.size + 3 ≤ B) (hs : ∀ m ∈ L', m.path.size ≤ 8000) :
  Ab w (W.setCell ⟨w.heap.size, 0, none⟩ (.slice a' L'.length cap')) gs os cs S N vl a' cap' L' := by
 have own2 := Mem.za8 own ⟨w.heap.size, 0, none⟩ (.slice a' L'.length cap') (by show w.heap.size < B; omega)
 have b2 := h.blk.put 0 (.slice a' L'.length cap')
 simp only [kB3, kB4] at b2
 refine ⟨h.bel.setCell (Nat.le_refl _) _, b2, h.sig.far _ _ (by show w.heap.size + 1 ≠ w.heap.size; omega), h.out.far _ _ (by show w.heap.size + 2 ≠ w.heap.size; omega), ?_, (Mem.zc7 own2).2, Mem.zg5 h.sns _ _ (by have := h.fas; show w.heap.size ≠ gs; omega), ?_, h.fas, ?_, hs⟩
 ·rcases own2.2 with ⟨h0, h1⟩ | ⟨g, c, cur, hv, hb, hg, hc, _⟩
  ·injection h0 with e1 e2 e3
   exact .inl ⟨e1, e3, List.length_eq_zero_iff.1 h1⟩
  ·injection hv with e1 e2 e3
   subst e1 e3
   exact .inr ⟨g, 0, rfl, (Array.getElem?_eq_some_iff.1 hg).1, hc⟩
 ·rintro g o rfl
  have := (Mem.ze2 own g rfl).1
  omega
 ·refine ⟨h.txt.1, ?_⟩
  rcases h.txt.2 with h0 | ⟨g, c, cur, hv, hb, hg, rest⟩
  ·exact .inl h0
  ·exact .inr ⟨g, c, cur, hv, hb, (heap_setCell_other W ⟨w.heap.size, 0, none⟩ g _ (by show g ≠ w.heap.size; omega)).trans hg, rest⟩
end zh3
end Go.Proofs.YtppmlbofhghghaaGreatDoor

namespace Go.Proofs.YtppmlbofhghghaaGreatDoor

theorem yd5 {P : Program} {code : Code} {Q : Exit → Act → World → Prop} {T : Array Value} {D : List _} {w : World} (R : Array Value → Array Value → World → Prop)
  (h : code.wp P (fun e a W => e = .normal ∧ a.defers = D ∧ R T a.tmps W) ⟨T, D⟩ w) (h2 : ∀ T' W, R T T' W → Q .normal ⟨T', D⟩ W) : code.wp P Q ⟨T, D⟩ w :=
 Code.wp_mono (fun e a W ⟨h1, h3, h4⟩ => by
  obtain ⟨t, d⟩ := a
  simp only at h3
  subst h1 h3
  exact h2 _ _ h4) h
end Go.Proofs.YtppmlbofhghghaaGreatDoor

