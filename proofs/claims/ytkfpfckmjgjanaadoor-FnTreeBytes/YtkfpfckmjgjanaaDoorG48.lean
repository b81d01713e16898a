/- Several texts of one claim in one file: WDrawTq, WLwTree. -/
import Derived.Test.YtkfpfckmjgjanaaDoorG47
import Derived.Test.YtkfpfckmjgjanaaDoorWTreeR
import Derived.Test.YtkfpfckmjgjanaaDoorG15
import Derived.Deep.QuietTactic
import Derived.BigQuiet
/- The walk of the draw of two trees (DrawTreeSame; by genDQ.py). -/
namespace Go.Proofs.YtkfpfckmjgjanaaDoor
open Go.RowKit
namespace Pl
def okL (L : List Nd) : Prop := L.length ≤ 64 ∧ ∀ n ∈ L, n.path.size ≤ 1048576 ∧ n.data.size ≤ 1048576
end Pl
namespace WSrc
/-- What the draw of two trees keeps. -/
structure Qk (w W : World) (S X Y : Nat) (a : Option Addr) (len cap : Nat) (va : Option Addr) (vc : Nat) (L : List Pl.Nd) (ub : Option Addr) (uc : Nat) (M : List Pl.Nd) : Prop where
  lo : w.heap.size + 2 = S
  hi : S < X
  hy : X < Y
  bel : Below w.heap.size w W
  src : Src W S a len cap
  r0 : Mem.Blk W w.heap.size #[.slice none 0 0] 32
  r1 : Mem.Blk W (w.heap.size + 1) #[.slice none 0 0] 32
  one : Mem.Blk W X #[.slice va L.length vc] 32
  two : Mem.Blk W Y #[.slice ub M.length uc] 32
  tv : TreeV W (S + 1) va vc L
  tu : TreeV W (S + 1) ub uc M
  ny : ∀ g o, va = some ⟨g, o, none⟩ → g ≠ Y
  ng : ∀ g o, ub = some ⟨g, o, none⟩ → g ≠ X ∧ g ≠ Y ∧ S < g ∧ ∀ g' o', va = some ⟨g', o', none⟩ → g' ≠ g
section
variable {w W W' : World} {S X Y len cap vc uc : Nat} {a va ub : Option Addr} {L M : List Pl.Nd}
theorem Qk.call (h : Qk w W S X Y a len cap va vc L ub uc M) (s : Src W' S a len cap) (g : W.grownBy W' (some S)) : Qk w W' S X Y a len cap va vc L ub uc M :=
  have l := h.lo
  have l2 := h.hi
  have l3 := h.hy
  ⟨l, l2, l3, h.bel.grown g h.bel.size (fun q hq => by cases hq; omega), s, h.r0.grown g (by simp; omega), h.r1.grown g (by simp; omega), h.one.grown g (by simp; omega), h.two.grown g (by simp; omega), h.tv.grown g (fun q hq => by cases hq; omega), h.tu.grown g (fun q hq => by cases hq; omega), h.ny, h.ng⟩
theorem tv_far {B X k : Nat} {v : Value} (h : TreeV W B va vc L) (hX : ∀ g o, va = some ⟨g, o, none⟩ → g ≠ X) : TreeV (W.setCell ⟨X, k, none⟩ v) B va vc L := by
  refine ⟨?_, WPutG.okA_call h.2.1 (by rw [World.size_setCell]; exact Nat.le_refl _), h.2.2⟩
  rcases h.2.1 with ⟨rfl, rfl, rfl⟩ | ⟨b, o, rfl, h2, h3⟩
  · exact Mem.nodes_nil _ _
  · exact Mem.nodes_grown h.1 (grown_set (grown_refl W (some X))) (fun e => hX b o rfl (Option.some.inj e))
/-- Another second tree. -/
theorem Qk.put (h : Qk w W S X Y a len cap va vc L ub uc M) {ud : Option Addr} {ue : Nat} {M2 : List Pl.Nd} (tu : TreeV W (S + 1) ud ue M2) (ng : ∀ g o, ud = some ⟨g, o, none⟩ → g ≠ X ∧ g ≠ Y ∧ S < g ∧ ∀ g' o', va = some ⟨g', o', none⟩ → g' ≠ g) : Qk w (W.setCell ⟨Y, 0, none⟩ (.slice ud M2.length ue)) S X Y a len cap va vc L ud ue M2 :=
  have l := h.lo
  have l2 := h.hi
  have l3 := h.hy
  ⟨l, l2, l3, h.bel.setCell (by show w.heap.size ≤ Y; omega) _, src_put h.src 0 _ (by omega), h.r0.far _ _ (by show w.heap.size ≠ Y; omega), h.r1.far _ _ (by show w.heap.size + 1 ≠ Y; omega), h.one.far _ _ (by show X ≠ Y; omega), h.two.put 0 _, tv_far h.tv h.ny, tv_far tu (fun g o e => (ng g o e).2.1), h.ny, ng⟩
set_option linter.unusedSimpArgs false in
/-- Another time in the second tree's first node. -/
theorem Qk.time {g : Nat} {n : Pl.Nd} {R : List Pl.Nd} (h : Qk w W S X Y a len cap va vc L (some ⟨g, 0, none⟩) uc (n :: R)) (t : Int) : Qk w (W.setCell ⟨g, 3, none⟩ (.int .i64 t)) S X Y a len cap va vc L (some ⟨g, 0, none⟩) uc ({ n with time := t } :: R) := by
  have l := h.lo
  have l2 := h.hi
  have l3 := h.hy
  obtain ⟨n1, n2, n3, n4⟩ := h.ng g 0 rfl
  refine ⟨l, l2, l3, h.bel.setCell (by show w.heap.size ≤ g; omega) _, src_put h.src 3 _ n3, h.r0.far _ _ (by show w.heap.size ≠ g; omega), h.r1.far _ _ (by show w.heap.size + 1 ≠ g; omega), h.one.far _ _ (by show X ≠ g; omega), h.two.far _ _ (by show Y ≠ g; omega), tv_far h.tv (fun g' o' e => n4 g' o' e), ⟨?_, WPutG.okA_call (L := { n with time := t } :: R) (by
    rcases h.tu.2.1 with ⟨e, _⟩ | h9
    · cases e
    · exact .inr h9) (by rw [World.size_setCell]; exact Nat.le_refl _), h.tu.2.2⟩, h.ny, h.ng⟩
  intro i m hi
  have hs : ∀ j, j ≠ 3 → (W.setCell ⟨g, 3, none⟩ (.int .i64 t)).cell? ⟨g, j, none⟩ = W.cell? ⟨g, j, none⟩ := fun j hj => World.cell?_setCell_other _ _ _ _ (by simp <;> omega)
  cases i with
  | zero =>
    simp only [kA1, Option.some.injEq] at hi
    subst hi
    obtain ⟨g', o', e, q, q0, q1, q2, q3, q4⟩ := h.tu.1 0 n rfl
    cases e
    simp only [Nat.zero_mul, Nat.add_zero, Nat.zero_add] at q0 q1 q2 q3 q4
    refine ⟨g, 0, rfl, by rw [World.size_setCell]; exact q, ?_, ?_, ?_, ?_, ?_⟩
    · simp only [Nat.zero_mul, Nat.add_zero, Nat.zero_add]; rw [hs 0 (by omega)]; exact q0
    · simp only [Nat.zero_mul, Nat.add_zero, Nat.zero_add]; rw [hs 1 (by omega)]; exact q1
    · simp only [Nat.zero_mul, Nat.add_zero, Nat.zero_add]; rw [hs 2 (by omega)]; exact q2
    · simp only [Nat.zero_mul, Nat.add_zero, Nat.zero_add]; exact World.cell?_setCell_same' _ _ _ (by rw [q3]; rfl)
    · simp only [Nat.zero_mul, Nat.add_zero, Nat.zero_add]; rw [hs 4 (by omega)]; exact q4
  | succ i =>
    simp only [kA2] at hi
    obtain ⟨g', o', e, q, q0, q1, q2, q3, q4⟩ := h.tu.1 (i + 1) m (by simpa using hi)
    cases e
    refine ⟨g, 0, rfl, by rw [World.size_setCell]; exact q, ?_, ?_, ?_, ?_, ?_⟩
    · rw [hs _ (by omega)]; exact q0
    · rw [hs _ (by omega)]; exact q1
    · rw [hs _ (by omega)]; exact q2
    · rw [hs _ (by omega)]; exact q3
    · rw [hs _ (by omega)]; exact q4
theorem Qk.done0 (h : Qk w W S X Y a len cap va vc L ub uc M) : TreeV ((W.setCell ⟨w.heap.size, 0, none⟩ (.slice va L.length vc)).setCell ⟨w.heap.size + 1, 0, none⟩ (.slice ub M.length uc)) w.heap.size va vc L ∧ TreeV ((W.setCell ⟨w.heap.size, 0, none⟩ (.slice va L.length vc)).setCell ⟨w.heap.size + 1, 0, none⟩ (.slice ub M.length uc)) w.heap.size ub uc M ∧ Below w.heap.size w ((W.setCell ⟨w.heap.size, 0, none⟩ (.slice va L.length vc)).setCell ⟨w.heap.size + 1, 0, none⟩ (.slice ub M.length uc)) ∧ Mem.Blk ((W.setCell ⟨w.heap.size, 0, none⟩ (.slice va L.length vc)).setCell ⟨w.heap.size + 1, 0, none⟩ (.slice ub M.length uc)) w.heap.size #[.slice va L.length vc] 32 ∧ Mem.Blk ((W.setCell ⟨w.heap.size, 0, none⟩ (.slice va L.length vc)).setCell ⟨w.heap.size + 1, 0, none⟩ (.slice ub M.length uc)) (w.heap.size + 1) #[.slice ub M.length uc] 32 := by
  have l := h.lo
  have e : w.heap.size ≠ w.heap.size + 1 := by omega
  exact ⟨((h.tv.set _ _ _ (by omega)).set _ _ _ (by omega)).mono (by omega), ((h.tu.set _ _ _ (by omega)).set _ _ _ (by omega)).mono (by omega), (h.bel.setCell (Nat.le_refl _) _).setCell (Nat.le_succ _) _, (h.r0.put 0 _).far _ _ e, (h.r1.far _ _ e.symm).put 0 _⟩
theorem drew5 {W6 : World} {B X1 X2 : Nat} {c1 c2 : Array Value} {T1 T2 : TypeId} (h : TreeV W6 B va vc L ∧ TreeV W6 B ub uc M ∧ Below w.heap.size w W6 ∧ Mem.Blk W6 X1 c1 T1 ∧ Mem.Blk W6 X2 c2 T2) : TreeV W6.drew B va vc L ∧ TreeV W6.drew B ub uc M ∧ Below w.heap.size w W6.drew ∧ Mem.Blk W6.drew X1 c1 T1 ∧ Mem.Blk W6.drew X2 c2 T2 :=
  ⟨⟨h.1.1, h.1.2.1, h.1.2.2⟩, ⟨h.2.1.1, h.2.1.2.1, h.2.1.2.2⟩, ⟨h.2.2.1.os, h.2.2.1.tape, h.2.2.1.output, h.2.2.1.size, h.2.2.1.block⟩, h.2.2.2.1, h.2.2.2.2⟩
theorem Qk.drew (h : Qk w W S X Y a len cap va vc L ub uc M) : Qk w W.drew S X Y a len cap va vc L ub uc M :=
  ⟨h.lo, h.hi, h.hy, ⟨h.bel.os, h.bel.tape, h.bel.output, h.bel.size, h.bel.block⟩, h.src, h.r0, h.r1, h.one, h.two, ⟨h.tv.1, h.tv.2.1, h.tv.2.2⟩, ⟨h.tu.1, h.tu.2.1, h.tu.2.2⟩, h.ny, h.ng⟩
end
set_option linter.unusedSimpArgs false in
set_option maxRecDepth 100000 in
set_option maxHeartbeats 4000000 in
theorem drawSame_any (a : Option Addr) (len cap : Nat) (w : World) (hr : RowB w w.heap.size a len cap) :
    Calls Tryd.prog 18 #[.slice a len cap] w fun e w' => ∃ (va : Option Addr) (vc : Nat) (L : List Pl.Nd) (ub : Option Addr) (uc : Nat) (M : List Pl.Nd), Pl.okL L ∧ Pl.okL M ∧ e = .returned (.tuple #[.agg #[.slice va L.length vc], .agg #[.slice ub M.length uc]]) ∧ TreeV w' w.heap.size va vc L ∧ TreeV w' w.heap.size ub uc M ∧ Below w.heap.size w w' := by
  have b0 : Below w.heap.size w ((w.alloc (.cells #[.slice none 0 0] 32)).alloc (.cells #[.slice none 0 0] 32)) := ((Below.refl _ _).alloc (Nat.le_refl _) _).alloc (by simp) _
  have hz0 : ((w.alloc (.cells #[.slice none 0 0] 32)).alloc (.cells #[.slice none 0 0] 32)).heap.size = w.heap.size + 2 := by simp
  have h0 := hide (source_any a len cap _ (row_upB hr b0 (by omega)))
  have B0 := (Mem.Blk.new w #[.slice none 0 0] 32).alloc (.cells #[.slice none 0 0] 32)
  have B1 : Mem.Blk ((w.alloc (.cells #[.slice none 0 0] 32)).alloc (.cells #[.slice none 0 0] 32)) (w.heap.size + 1) #[.slice none 0 0] 32 := Mem.new_two _ _ _
  rw [hz0] at h0
  clear hr
  go_enter Tryd.func18, Tryd.ntmps18
  go_wp2_with fail
  generalize (w.alloc (.cells #[.slice none 0 0] 32)).alloc (.cells #[.slice none 0 0] 32) = w0 at h0 b0 B0 B1 hz0 ⊢
  refine (unhide h0).mono ?_
  rintro e w1 ⟨rfl, hs, b1⟩
  have B0 := B0.below b1 (by omega)
  have B1 := B1.below b1 (by omega)
  have b1 := b0.trans (b1.mono (by omega))
  clear h0 b0
  go_wp2_with fail
  refine (tree_any (w.heap.size + 2) a len cap _ hs).mono ?_
  rintro e w2 ⟨va, vc, L, hl, hsm, rfl, tv, s2, g2⟩
  have HSM := hide hsm
  have hlt := src_lt hs
  have B0 := (B0.grown g2 (by simp)).alloc (.cells #[.slice va L.length vc] 32)
  have B1 := (B1.grown g2 (by simp)).alloc (.cells #[.slice va L.length vc] 32)
  have BX := Mem.Blk.new w2 #[.slice va L.length vc] 32
  have b2 := (b1.grown g2 b1.size (fun q hq => by cases hq; omega)).alloc (by have := b1.size; have := g2.size; omega) (.cells #[.slice va L.length vc] 32)
  have hX : w.heap.size + 2 < w2.heap.size := by have := g2.size; omega
  have s3 := src_alloc s2 (.cells #[.slice va L.length vc] 32)
  have TV := hide ((tv.mono (show w.heap.size + 2 + 1 ≤ w1.heap.size by omega)).alloc (.cells #[.slice va L.length vc] 32))
  have hcp := hide (WCopyT.copy_any va vc L _ (by omega) (unhide TV).2.1 (unhide TV).1)
  have x0 := BX.cell 0
  simp only [kA0, kA1, kA2] at x0
  clear hs s2 g2 tv b1 hsm hlt hz0
  go_wp2_with fail
  generalize hw3 : w2.alloc (.cells #[.slice va L.length vc] 32) = w3 at B0 B1 BX b2 s3 TV hcp x0 ⊢
  generalize w2.heap.size = X at BX hX x0 ⊢
  clear hw3
  refine (unhide hcp).mono ?_
  rintro e w4 ⟨v4, rfl, own4, b4⟩
  obtain ⟨ub, uc, hv4⟩ := Mem.own_shape own4
  subst hv4
  have hX3 := BX.lt
  have b4' := b4.alloc b4.size (.cells #[.slice ub L.length uc] 32)
  have OW := hide own4
  have D : Hid (Qk w (w4.alloc (.cells #[.slice ub L.length uc] 32)) (w.heap.size + 2) X w4.heap.size a len cap va vc L ub uc L) :=
    ⟨rfl, hX, Nat.lt_of_lt_of_le hX3 b4.size, b2.trans (b4'.mono b2.size), src_below s3 b4', B0.call b4', B1.call b4', BX.call b4', Mem.Blk.new _ _ _, (unhide TV).call b4', ((treeV_own own4).mono (by have := b2.size; omega)).alloc _, fun g o e => by
      rcases (unhide TV).2.1 with ⟨h, _⟩ | ⟨b, o', h, h2, _⟩
      · rw [h] at e; cases e
      · rw [h] at e; cases e; have := b4.size; omega, fun g o e => by
      subst e
      have h9 := Mem.ownN_lt own4 g rfl
      refine ⟨by omega, by omega, by omega, fun g' o' e' => ?_⟩
      rcases (unhide TV).2.1 with ⟨h, _⟩ | ⟨b, o'', h, h2, _⟩
      · rw [h] at e'; cases e'
      · rw [h] at e'; cases e'; omega⟩
  have HUB : Hid (0 < L.length → ∃ g cur T, ub = some ⟨g, 0, none⟩ ∧ Mem.Blk (w4.alloc (.cells #[.slice ub L.length uc] 32)) g cur T) := fun h1 => by
    rcases (unhide OW).2 with ⟨e, h0⟩ | ⟨g, cap', cur, e, hb, hg, _⟩
    · omega
    · injection e with e1 e2 e3; exact ⟨g, cur, _, e1, Mem.Blk.alloc hg _⟩
  clear hcp own4 b4 b4' OW B0 B1 BX b2 s3 TV hX hX3 x0
  obtain ⟨S0, hS0⟩ : ∃ S0, S0 = w.heap.size + 2 := ⟨_, rfl⟩
  rw [← hS0] at D
  go_wp2_with fail
  rw [← hS0]
  have HS0 := hide hS0
  clear hS0
  generalize hw5 : w4.alloc (.cells #[.slice ub L.length uc] 32) = w5 at D HUB ⊢
  generalize w4.heap.size = Y at D ⊢
  clear hw5
  refine (n_any S0 a len cap 3 _ (unhide D).src (by omega)).mono ?_
  rintro e w6 ⟨r, rfl, r0, r1, s6, g6⟩
  have HUB : Hid (0 < L.length → ∃ g cur T, ub = some ⟨g, 0, none⟩ ∧ Mem.Blk w6 g cur T) := fun h1 => by
    obtain ⟨g, cur, T, e, B⟩ := unhide HUB h1
    exact ⟨g, cur, T, e, B.grown g6 (by have := ((unhide D).ng g 0 e).2.2.1; simp; omega)⟩
  have D := hide ((unhide D).call s6 g6)
  clear s6 g6
  have hr : r = 0 ∨ r = 1 ∨ r = 2 := by omega
  clear r0 r1
  have HLk : Hid (Pl.okL L) := ⟨hl, Pl.small_ok (unhide HSM)⟩
  rcases hr with rfl | rfl | rfl
  · go_wp2_with fail
    refine (tree_any S0 a len cap _ (unhide D).src).mono ?_
    rintro e w7 ⟨vd, ve, M, hl2, hsm2, rfl, tv2, s7, g7⟩
    have D7 := hide ((unhide D).call s7 g7)
    have HMk : Hid (Pl.okL M) := ⟨hl2, Pl.small_ok hsm2⟩
    have hlt6 := (unhide D).two.lt
    have hX6 := (unhide D).one.lt
    have hS6 := src_lt (unhide D).src
    have D8 := hide ((unhide D7).put (ud := vd) (ue := ve) (M2 := M) (tv2.mono (by omega)) (fun g o e => by
      have h9 := tv2.2.2 g o e
      refine ⟨by omega, by omega, by omega, fun g' o' e' => ?_⟩
      rcases (unhide D).tv.2.1 with ⟨h, _⟩ | ⟨b, o'', h, h2, _⟩
      · rw [h] at e'; cases e'
      · rw [h] at e'; cases e'; omega))
    have k0 := (unhide D7).two.cell 0
    have kf := (unhide D7).two.fr 0
    simp only [kA0, kA1, kA2] at k0
    clear hsm2 tv2 s7 g7 D hlt6 hX6 hS6
    have z0 := (unhide D8).r0.cell 0
    have u0 := (unhide D8).r1.cell 0
    have zf := (unhide D8).r0.fr 0
    have uf := (unhide D8).r1.fr 0
    have x1 := (unhide D8).one.cell 0
    have v0 := (unhide D8).two.cell 0
    simp only [kA0, kA1, kA2] at z0 u0 x1 v0
    have lo := (unhide D8).lo
    have hi := (unhide D8).hi
    have hy := (unhide D8).hy
    have m1 : ¬ w.heap.size = X := by omega
    have m2 : ¬ w.heap.size = Y := by omega
    have m3 : ¬ w.heap.size + 1 = X := by omega
    have m4 : ¬ w.heap.size + 1 = Y := by omega
    have m5 : ¬ X = w.heap.size := by omega
    have m6 : ¬ Y = w.heap.size := by omega
    have m7 : ¬ X = w.heap.size + 1 := by omega
    have m8 : ¬ Y = w.heap.size + 1 := by omega
    have m9 : ¬ X = Y := by omega
    have m10 : ¬ Y = X := by omega
    clear lo hi hy
    go_wp2
    go_region
    go_wp2
    have hD := drew5 (unhide D8).done0
    have q0 := hD.2.2.2.1.cell
    have q1 := hD.2.2.2.2.cell
    refine bodyPost_ret (v := .tuple #[.agg #[.slice va L.length vc], .agg #[.slice vd M.length ve]]) (by simp [results, Tryd.results18, go_sem, q0, q1]) rfl ⟨va, vc, L, vd, ve, M, unhide HLk, unhide HMk, rfl, hD.1, hD.2.1, hD.2.2.1⟩
  · by_cases h0 : (0 : Int) < (L.length : Int)
    · obtain ⟨g, cur, TT, rfl, BG⟩ := unhide HUB (by omega)
      have HLk2 := HLk
      obtain ⟨n, R, rfl⟩ : ∃ n R, L = n :: R := by
        cases L with
        | nil => simp at h0
        | cons n R => exact ⟨n, R, rfl⟩
      have x0 := (unhide D).two.cell 0
      obtain ⟨g', o', e', -, -, -, -, q3, -⟩ := (unhide D).tu.1 0 n rfl
      cases e'
      simp only [Nat.zero_mul, Nat.add_zero, Nat.zero_add] at q3
      simp only [kA0, kA1, kA2] at x0
      have hgf := BG.fr 3
      have hnt : -2000000 ≤ n.time ∧ n.time ≤ 2000000 := by have := unhide HSM n (List.mem_cons_self ..); unfold Pl.smallD at this; omega
      obtain ⟨np, nk, nd, nt, nm⟩ := n
      simp only at q3 hnt
      have HMk : Hid (Pl.okL (⟨np, nk, nd, nt + 1, nm⟩ :: R)) := ⟨by have := (unhide HLk).1; simpa using this, fun m hm => by
        rcases List.mem_cons.1 hm with rfl | hm
        · exact (unhide HLk).2 ⟨np, nk, nd, nt, nm⟩ (List.mem_cons_self ..)
        · exact (unhide HLk).2 m (List.mem_cons_of_mem _ hm)⟩
      go_wp2
      go_region
      have D8 := hide ((unhide D).time (nt + 1)).drew
      generalize (w6.setCell ⟨g, 3, none⟩ (.int .i64 (nt + 1))).drew = w7 at D8 ⊢
      simp only [List.length_cons] at D8
      clear D BG hgf q3 x0
      have z0 := (unhide D8).r0.cell 0
      have u0 := (unhide D8).r1.cell 0
      have zf := (unhide D8).r0.fr 0
      have uf := (unhide D8).r1.fr 0
      have x1 := (unhide D8).one.cell 0
      have v0 := (unhide D8).two.cell 0
      simp only [kA0, kA1, kA2] at z0 u0 x1 v0
      have lo := (unhide D8).lo
      have hi := (unhide D8).hi
      have hy := (unhide D8).hy
      have m1 : ¬ w.heap.size = X := by omega
      have m2 : ¬ w.heap.size = Y := by omega
      have m3 : ¬ w.heap.size + 1 = X := by omega
      have m4 : ¬ w.heap.size + 1 = Y := by omega
      have m5 : ¬ X = w.heap.size := by omega
      have m6 : ¬ Y = w.heap.size := by omega
      have m7 : ¬ X = w.heap.size + 1 := by omega
      have m8 : ¬ Y = w.heap.size + 1 := by omega
      have m9 : ¬ X = Y := by omega
      have m10 : ¬ Y = X := by omega
      clear lo hi hy
      go_wp2
      go_region
      go_wp2
      have hD := drew5 (unhide D8).done0
      simp only [List.length_cons] at hD
      have q0 := hD.2.2.2.1.cell
      have q1 := hD.2.2.2.2.cell
      refine bodyPost_ret (v := .tuple #[.agg #[.slice va (R.length + 1) vc], .agg #[.slice (some ⟨g, 0, none⟩) (R.length + 1) uc]]) (by simp [results, Tryd.results18, go_sem, q0, q1]) rfl ⟨va, vc, ⟨np, nk, nd, nt, nm⟩ :: R, (some ⟨g, 0, none⟩), uc, (⟨np, nk, nd, nt + 1, nm⟩ :: R), unhide HLk, unhide HMk, rfl, hD.1, hD.2.1, hD.2.2.1⟩
    · have x0 := (unhide D).two.cell 0
      simp only [kA0, kA1, kA2] at x0
      have D8 := D
      have HMk := HLk
      have z0 := (unhide D8).r0.cell 0
      have u0 := (unhide D8).r1.cell 0
      have zf := (unhide D8).r0.fr 0
      have uf := (unhide D8).r1.fr 0
      have x1 := (unhide D8).one.cell 0
      have v0 := (unhide D8).two.cell 0
      simp only [kA0, kA1, kA2] at z0 u0 x1 v0
      have lo := (unhide D8).lo
      have hi := (unhide D8).hi
      have hy := (unhide D8).hy
      have m1 : ¬ w.heap.size = X := by omega
      have m2 : ¬ w.heap.size = Y := by omega
      have m3 : ¬ w.heap.size + 1 = X := by omega
      have m4 : ¬ w.heap.size + 1 = Y := by omega
      have m5 : ¬ X = w.heap.size := by omega
      have m6 : ¬ Y = w.heap.size := by omega
      have m7 : ¬ X = w.heap.size + 1 := by omega
      have m8 : ¬ Y = w.heap.size + 1 := by omega
      have m9 : ¬ X = Y := by omega
      have m10 : ¬ Y = X := by omega
      clear lo hi hy
      go_wp2
      go_region
      go_wp2
      have hD := drew5 (unhide D8).done0
      have q0 := hD.2.2.2.1.cell
      have q1 := hD.2.2.2.2.cell
      refine bodyPost_ret (v := .tuple #[.agg #[.slice va L.length vc], .agg #[.slice ub L.length uc]]) (by simp [results, Tryd.results18, go_sem, q0, q1]) rfl ⟨va, vc, L, ub, uc, L, unhide HLk, unhide HMk, rfl, hD.1, hD.2.1, hD.2.2.1⟩
  · have D8 := D
    have HMk := HLk
    have z0 := (unhide D8).r0.cell 0
    have u0 := (unhide D8).r1.cell 0
    have zf := (unhide D8).r0.fr 0
    have uf := (unhide D8).r1.fr 0
    have x1 := (unhide D8).one.cell 0
    have v0 := (unhide D8).two.cell 0
    simp only [kA0, kA1, kA2] at z0 u0 x1 v0
    have lo := (unhide D8).lo
    have hi := (unhide D8).hi
    have hy := (unhide D8).hy
    have m1 : ¬ w.heap.size = X := by omega
    have m2 : ¬ w.heap.size = Y := by omega
    have m3 : ¬ w.heap.size + 1 = X := by omega
    have m4 : ¬ w.heap.size + 1 = Y := by omega
    have m5 : ¬ X = w.heap.size := by omega
    have m6 : ¬ Y = w.heap.size := by omega
    have m7 : ¬ X = w.heap.size + 1 := by omega
    have m8 : ¬ Y = w.heap.size + 1 := by omega
    have m9 : ¬ X = Y := by omega
    have m10 : ¬ Y = X := by omega
    clear lo hi hy
    go_wp2
    go_region
    go_wp2
    have hD := drew5 (unhide D8).done0
    have q0 := hD.2.2.2.1.cell
    have q1 := hD.2.2.2.2.cell
    refine bodyPost_ret (v := .tuple #[.agg #[.slice va L.length vc], .agg #[.slice ub L.length uc]]) (by simp [results, Tryd.results18, go_sem, q0, q1]) rfl ⟨va, vc, L, ub, uc, L, unhide HLk, unhide HMk, rfl, hD.1, hD.2.1, hD.2.2.1⟩
end WSrc
end Go.Proofs.YtkfpfckmjgjanaaDoor

/- The walks of the laws' own lwTree (over the same nodes) and lwTrees. -/
namespace Go.Proofs.YtkfpfckmjgjanaaDoor
open Go.RowKit
namespace WLw
set_option linter.unusedSimpArgs false in
set_option maxRecDepth 100000 in
set_option maxHeartbeats 2000000 in
theorem tree_any (a b : Option Addr) (c1 c2 : Nat) (L : List Pl.Nd) (w : World) (hA : L.length ≤ 1048576) (hv : Mem.isNodes w a L) (hu : Mem.isNodes w b L) :
    Calls Tryd.prog 21 #[.agg #[.slice a L.length c1], .agg #[.slice b L.length c2]] w fun e w' => e = .returned (.bool true) ∧ Below w.heap.size w w' := by
  have b0 : Below w.heap.size w ((w.alloc (.cells #[.slice a L.length c1] 32)).alloc (.cells #[.slice b L.length c2] 32)) := ((Below.refl _ _).alloc (Nat.le_refl _) _).alloc (by simp) _
  have HV := hide hv
  have HU := hide hu
  clear hv hu
  go_enter Tryd.func21, Tryd.ntmps21
  go_wp2
  go_loopw [5] (fun i wr => ∃ k : Nat, k ≤ L.length ∧ i = .int .i64 (k : Int) ∧ Below w.heap.size w wr ∧ Hid (Mem.Var wr w.heap.size [.slice a L.length c1]) ∧ Hid (Mem.Var wr (w.heap.size + 1) [.slice b L.length c2])) (fun i _ => L.length - (intOf i).toNat)
  case atStart =>
    refine ⟨0, Nat.zero_le _, rfl, b0, ?_, ?_⟩
    · exact hide (Mem.var_alloc (Mem.var_new w [.slice a L.length c1] 32) _)
    · have h := Mem.var_new (w.alloc (.cells #[.slice a L.length c1] 32)) [.slice b L.length c2] 32
      rw [show (w.alloc (.cells #[.slice a L.length c1] 32)).heap.size = w.heap.size + 1 by simp] at h
      exact hide h
  case round =>
    obtain ⟨k, hk, rfl, hbel, V1, V2⟩ := hrel
    have cv1 := (unhide V1).2 0 _ rfl
    have cv2 := (unhide V2).2 0 _ rfl
    by_cases hlt : k < L.length
    · obtain ⟨n, hn⟩ : ∃ n, L[k]? = some n := ⟨_, List.getElem?_eq_getElem hlt⟩
      have y1 : (k : Int) < (L.length : Int) := by omega
      have y3 : (0 : Int) ≤ (k : Int) := by omega
      obtain ⟨g, o, rfl, hg, q0, q1, q2, q3, q4⟩ := (Mem.nodes_call (unhide HV) hbel) k n hn
      obtain ⟨g2, o2, rfl, hg2, p0, p1, p2, p3, p4⟩ := (Mem.nodes_call (unhide HU) hbel) k n hn
      obtain ⟨np, nk, nd, nt, nm⟩ := n
      simp only at q0 q1 q2 q3 q4 p0 p1 p2 p3 p4
      clear hn HV HU b0
      go_wp2
      go_quiet (fail)
      go_wp2
      go_roundw
      case rel => exact ⟨k + 1, by omega, by go_num, Mem.below_drewN hbel _, unhide V1, unhide V2⟩
      case measure => simp [intOf]; omega
    · have y1 : ¬ (k : Int) < (L.length : Int) := by omega
      go_wp2
      go_ret
      exact ⟨rfl, hbel⟩
set_option linter.unusedSimpArgs false in
set_option maxRecDepth 100000 in
set_option maxHeartbeats 2000000 in
theorem trees_any (a b : Option Addr) (c1 c2 : Nat) (C : Int) (L : List Pl.Nd) (w : World) (hA : L.length ≤ 1048576) (hv : Mem.isNodes w a L) (hu : Mem.isNodes w b L) (hok : ∀ n ∈ L, n.path.size ≤ 1048576 ∧ n.data.size ≤ 1048576) (hr : C = 0 → Pl.treeB L = true) :
    Calls Tryd.prog 22 #[.agg #[.slice a L.length c1, .int .i64 C], .agg #[.slice b L.length c2, .int .i64 C]] w fun e w' => e = .returned (.bool true) ∧ Below w.heap.size w w' := by
  have b0 : Below w.heap.size w ((w.alloc (.cells #[.slice a L.length c1, .int .i64 C] 37)).alloc (.cells #[.slice b L.length c2, .int .i64 C] 37)) := ((Below.refl _ _).alloc (Nat.le_refl _) _).alloc (by simp) _
  have B1 := hide ((Mem.Blk.new w #[.slice a L.length c1, .int .i64 C] 37).alloc (.cells #[.slice b L.length c2, .int .i64 C] 37))
  have B2 : Hid (Mem.Blk ((w.alloc (.cells #[.slice a L.length c1, .int .i64 C] 37)).alloc (.cells #[.slice b L.length c2, .int .i64 C] 37)) (w.heap.size + 1) #[.slice b L.length c2, .int .i64 C] 37) := Mem.new_two _ _ _
  have HT := hide (tree_any a b c1 c2 L _ hA (Mem.nodes_call hv b0) (Mem.nodes_call hu b0))
  have HR := hide (fun W (b : Below w.heap.size w W) => WTreeS.right_tree a c1 L W hA (Mem.nodes_call hv b) hok)
  clear hv hu hok
  have x0 := (unhide B1).cell 0
  have x1 := (unhide B1).cell 1
  have y0 := (unhide B2).cell 0
  have y1 := (unhide B2).cell 1
  simp only [kA0, kA1, kA2] at x0 x1 y0 y1
  go_enter Tryd.func22, Tryd.ntmps22
  go_wp2_with fail
  refine (unhide HT).mono ?_
  rintro e w1 ⟨rfl, b1⟩
  have B3 := hide ((unhide B1).call b1)
  have bw1 := b0.trans (b1.mono b0.size)
  clear HT x0 x1 y0 y1 B1 B2 b1 b0
  have x0 := (unhide B3).cell 0
  have x1 := (unhide B3).cell 1
  simp only [kA0, kA1, kA2] at x0 x1
  by_cases h0 : C = 0
  · subst h0
    have hr' := hide (hr rfl)
    clear hr
    rw [unhide hr'] at HR
    go_wp2_with fail
    refine (unhide HR _ bw1).mono ?_
    rintro e w2 ⟨rfl, b2⟩
    go_wp2
    go_ret
    exact ⟨rfl, bw1.trans (b2.mono bw1.size)⟩
  · clear HR hr
    go_wp2
    go_ret
    exact ⟨rfl, bw1⟩
end WLw
end Go.Proofs.YtkfpfckmjgjanaaDoor

