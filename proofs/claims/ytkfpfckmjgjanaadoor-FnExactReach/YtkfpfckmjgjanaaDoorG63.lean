/- Several texts of one claim in one file: WReachI, WLawR, MemFar, WLawI. -/
import Derived.Test.YtkfpfckmjgjanaaDoorEachIt
import Derived.Test.YtkfpfckmjgjanaaDoorG62
import Derived.Test.YtkfpfckmjgjanaaDoorG56
import Derived.Test.YtkfpfckmjgjanaaDoorG05
import Derived.Test.YtkfpfckmjgjanaaDoorPlainGetV
import Derived.Test.YtkfpfckmjgjanaaDoorG11
import Derived.Test.YtkfpfckmjgjanaaDoorG15
import Derived.Outline
import Derived.Deep.RegionHeld3
/- The walk of the program's Reach. -/
namespace Go.Proofs.YtkfpfckmjgjanaaDoor
open Go.RowKit Go.Shelf
attribute [local go_sem] Oper.semAt_some
namespace Pl
theorem reach_leaves (p : ByteArray) (X : Fx) : X.okX → X.flat.countP (fun x => hasP p x.2) = (leavesN X).countP (hasP p) := by
  induction X with
  | nil => intro _; rfl
  | cons L k m ih1 ih2 =>
    intro h
    rw [Fx.flat, leavesN, List.countP_cons, List.countP_append, List.countP_append, ih1 h.2.2.2.1, ih2 h.2.2.2.2]
    by_cases hk : k.len = 0
    · have e := Fx.len_zero hk
      subst e
      rw [if_pos (show Fx.nil.len = 0 from rfl), List.countP_singleton]
      simp [leavesN]
      omega
    · rw [if_neg hk]
      rcases h.2.1 with h1 | h1
      · exact absurd (by rw [h1]; rfl) hk
      · subst h1
        simp [hasP]
/-- Reach of a list of items. -/
def reachV (p : ByteArray) (X : List (Int × List Nd)) : Int := if (nest (rowO X)).isSome = true ∧ pathB p = true then ((X.countP (fun x => hasP p x.2) : Nat) : Int) else 0
theorem reach_row (p : ByteArray) (Is : List It) : reachO p Is = reachV p (Is.map It.r) := by
  rw [reachO, reachV, List.countP_map]
  rfl
theorem leaves_len (X : Fx) : (leavesN X).length ≤ X.sz := by
  induction X with
  | nil => exact Nat.le_refl _
  | cons L k m ih1 ih2 =>
    rw [leavesN, List.length_append, Fx.sz]
    split
    · rw [List.length_singleton]; omega
    · omega
end Pl
namespace Rng
theorem Kq.set {X : Nat} {R : Nat → Prop} {W : World} {cs : Array Value} {T : TypeId} (hb : Mem.Blk W X cs T) (i : Nat) (v : Value) : Kq (fun _ j => j = X) R W (W.setCell ⟨X, i, none⟩ v) := by
  refine ⟨by simp, fun j o hj hc _ => ?_, fun j h => .inl h⟩
  have e : j ≠ X := fun e => by
    have h2 : W.heap[X]? = some (.cells cs T (0, 0)) := hb
    rw [e, h2] at hj
    cases hj
    exact hc rfl e
  exact (heap_setCell_other _ _ _ _ e).trans hj
end Rng
namespace WReach
open Rng
/-- What stands between two leaves. -/
structure Cn (w w2 : World) (p : ByteArray) (X7 : Nat) (xs : List (Leaf w2)) (W : World) : Prop where
  bel : Below w.heap.size w W
  keep : Keep w2 W
  path : Mem.Blk W w.heap.size #[.string p] 9
  cnt : Mem.Blk W X7 #[.int .i64 (((xs.map nodesL).countP (Pl.hasP p) : Nat) : Int)] 2
theorem Cn.grown {w w2 : World} {p : ByteArray} {X7 : Nat} {xs : List (Leaf w2)} {W W' : World} {row : Option Nat} (h : Cn w w2 p X7 xs W) (g : W.grownBy W' row) (hr : ∀ r, row = some r → X7 < r) (h2 : w.heap.size < w2.heap.size) (h3 : w2.heap.size ≤ X7) : Cn w w2 p X7 xs W' :=
  ⟨h.bel.grown g h.bel.size (fun r e => by have := hr r e; omega), h.keep.grown g (fun r e => by have := hr r e; omega), h.path.grown g (fun e => by have := hr _ e.symm; omega), h.cnt.grown g (fun e => by have := hr _ e.symm; omega)⟩
theorem Cn.call {w w2 : World} {p : ByteArray} {X7 : Nat} {xs : List (Leaf w2)} {W W' : World} (h : Cn w w2 p X7 xs W) (b : Below W.heap.size W W') (h2 : w.heap.size < w2.heap.size) (h3 : w2.heap.size ≤ X7) : Cn w w2 p X7 xs W' :=
  h.grown (Mem.grown_of_below b none) (fun r e => by cases e) h2 h3
set_option linter.unusedSimpArgs false in
set_option maxRecDepth 100000 in
set_option maxHeartbeats 4000000 in
theorem impl_any (a : Option Addr) (cap : Nat) (Is : List Pl.It) (p : ByteArray) (w : World) (hl : Is.length ≤ 1048576) (hcap : Is.length ≤ cap) (hv : Mem.isItems w a Is) (hok : ∀ x ∈ Is, x.t.L.length ≤ 1048576 ∧ ∀ n ∈ x.t.L, n.path.size ≤ 1048576 ∧ n.data.size ≤ 1048576) (hp : p.size ≤ 1048576)
    (r0 r1 r2 r3 : TypeId) (x0 x1 x2 x3 : Value) (hE : WNestI.Errs4 w r0 r1 r2 r3 x0 x1 x2 x3) :
    Calls Tryd.prog 12 #[.slice a Is.length cap, .string p] w fun e w' => e = .returned (.int .i64 (Pl.reachO p Is)) ∧ Below w.heap.size w w' := by
  have b0 : Below w.heap.size w (w.alloc (.cells #[.string p] 9)) := (Below.refl _ _).alloc (Nat.le_refl _) _
  have P0 := Mem.Blk.new w #[.string p] 9
  have hno := hide (WNestX.nest_any a cap Is (w.alloc (.cells #[.string p] 9)) hl hcap (Mem.items_call hv b0) hok _ _ _ _ _ _ _ _ (hE.call b0))
  have hs0 : (w.alloc (.cells #[.string p] 9)).heap.size = w.heap.size + 1 := by simp
  have HRB : Hid (Pl.nest (Pl.rowO (Is.map Pl.It.r)) = none → Pl.reachO p Is = 0) := fun h => by rw [Pl.reachO, h]; rfl
  have HRP : Hid (Pl.pathB p = false → Pl.reachO p Is = 0) := fun h => by rw [Pl.reachO, if_neg (fun c => by rw [h] at c; cases c.2)]
  have HRC : Hid (∀ L k, Pl.nest (Pl.rowO (Is.map Pl.It.r)) = some (Pl.Fx.shape k) → (Pl.Fx.cons L k .nil).okX → (Pl.Fx.cons L k .nil).flat = Is.map Pl.It.r → Pl.pathB p = true → Pl.reachO p Is = (((Pl.leavesN (.cons L k .nil)).countP (Pl.hasP p) : Nat) : Int) ∧ (Pl.leavesN (.cons L k .nil)).length ≤ 1048576) := fun L k h1 h2 h3 h4 => by
    have e : Pl.reachC p Is = (Pl.leavesN (.cons L k .nil)).countP (Pl.hasP p) := by
      rw [← Pl.reach_leaves p _ h2, h3, List.countP_map]
      rfl
    refine ⟨by rw [Pl.reachO, h1, if_pos ⟨rfl, h4⟩, e], ?_⟩
    have h5 := congrArg List.length h3
    rw [Pl.Fx.flat_len, List.length_map] at h5
    exact Nat.le_trans (Pl.leaves_len _) (by omega)
  generalize Pl.reachO p Is = O at HRB HRP HRC ⊢
  generalize Pl.nest (Pl.rowO (Is.map Pl.It.r)) = NN at hno HRB HRC
  clear hv hok hE
  refine (callsIn_wide (n := 3)).1 ?_
  refine callsIn_of_wp_marks Tryd.func12 rfl trivial ?_ rfl
  simp only [Tryd.ntmps12, List.size_toArray, List.length_cons, List.length_nil, Nat.reduceAdd, Nat.reduceSub, Array.replicate_succ, Array.replicate_zero, List.push_toArray, List.append_toArray, List.nil_append, List.cons_append]
  gi_wp2_with fail
  generalize w.alloc (.cells #[.string p] 9) = w1 at b0 P0 hs0 hno ⊢
  refine ⟨trivial, ?_⟩
  refine (callsIn_wide.2 (unhide hno)).mono ?_
  rintro e w2 ⟨hN, b1⟩
  have bw2 := b0.trans (b1.mono b0.size)
  have P2 := P0.call b1
  have hs2 : w.heap.size < w2.heap.size := by have := b1.size; omega
  clear hno b0 P0
  rcases hN with ⟨L, k, q, a1, cap1, hNN, rfl, ⟨-, hqm⟩, ⟨hko, hfl⟩, hlay⟩ | ⟨hNN, r, y, rfl, -⟩
  rotate_left
  · have e := unhide HRB hNN
    subst e
    have HB := hide (bw2.alloc bw2.size (.cells #[.map none, .int .i64 0, .slice none 0 0] 69))
    clear HRB HRP HRC P2 b1 bw2 hNN
    gi_wp2
    refine ⟨trivial, ?_⟩
    gi_wp2
    exact ⟨_, results_tmp rfl _ _ _, rfl, unhide HB⟩
  · subst hNN
    have b3 : Below w2.heap.size w2 (w2.alloc (.cells #[.map (some q), .int .i64 (k.len : Int), .slice a1 k.len cap1] 69)) := (Below.refl _ _).alloc (Nat.le_refl _) _
    have N3 := Mem.Blk.new w2 #[.map (some q), .int .i64 (k.len : Int), .slice a1 k.len cap1] 69
    have P3 := P2.call b3
    have bw3 := bw2.trans (b3.mono bw2.size)
    have p0 := P3.cell 0
    simp only [kA0, kA1] at p0
    have HLY := hide (Mem.layX_weak hlay (N' := fun j => j < w2.heap.size) (fun b _ hb => hb))
    have HQM := hide hqm
    have HKO := hide hko
    have hrc := hide (unhide HRC L k rfl hko hfl)
    clear hlay hqm hko HRC HRB b1 P2 bw2 hfl
    gi_wp2_with fail
    refine ⟨trivial, ?_⟩
    refine (callsIn_wide.2 (WPathI.right_any p _ hp)).mono ?_
    rintro e w4 ⟨rfl, b4⟩
    have bw4 := bw3.trans (b4.mono bw3.size)
    have P4 := P3.call b4
    have N4 := N3.call b4
    have k4 : Keep w2 w4 := (Keep.of_below b3).trans (Keep.of_below b4)
    have hs4 : w2.heap.size < w4.heap.size := by have := b4.size; have h := N3.lt; omega
    cases hpb : Pl.pathB p with
    | false =>
      have e := unhide HRP hpb
      subst e
      have HB := hide bw4
      clear HRP hrc P3 N3 b3 b4 bw3 P4 N4 bw4
      gi_wp2
      exact ⟨_, results_tmp rfl _ _ _, rfl, unhide HB⟩
    | true =>
      obtain ⟨rfl, hle⟩ := unhide hrc hpb
      have b5 : Below w4.heap.size w4 (w4.alloc (.cells #[.int .i64 0] 2)) := (Below.refl _ _).alloc (Nat.le_refl _) _
      have C5 : Mem.Blk (w4.alloc (.cells #[.int .i64 0] 2)) w4.heap.size #[.int .i64 0] 2 := Mem.Blk.new _ _ _
      have P5 := P4.call b5
      have N5 := N4.call b5
      have k5 := k4.trans (Keep.of_below b5)
      have bw5 := bw4.trans (b5.mono bw4.size)
      have z5 : (w4.alloc (.cells #[.int .i64 0] 2)).heap.size = w4.heap.size + 1 := by simp
      have n0 := N5.cell 0
      have n1 := N5.cell 1
      have n2 := N5.cell 2
      simp only [kA0, kA1, kA2] at n0 n1 n2
      clear HRP hrc P3 N3 b3 b4 bw3 P4 N4 bw4 b5 hpb p0
      gi_wp2_with fail
      generalize w4.alloc (.cells #[.int .i64 0] 2) = w5 at C5 P5 N5 k5 bw5 z5 n0 n1 n2 ⊢
      refine ⟨trivial, ?_⟩
      refine (callsIn_wide.2 (each_any _ _ _ _)).mono ?_
      rintro e w6 ⟨rfl, hw6⟩
      have b6 : Below w5.heap.size w5 w6 := by rw [hw6]; exact (Below.refl _ _).alloc (Nat.le_refl _) _
      have x6 : Mem.Blk w6 w5.heap.size #[.map (some q), .int .i64 (k.len : Int), .slice a1 k.len cap1] 69 := by rw [hw6]; exact Mem.Blk.new _ _ _
      have c6 : Cn w w2 p w4.heap.size [] w6 := ⟨bw5.trans (b6.mono bw5.size), k5.trans (Keep.of_below b6), P5.call b6, C5.call b6⟩
      have z6 : w6.heap.size = w4.heap.size + 2 := by rw [hw6]; simp; omega
      have gd : Rng.Good w2 (w4.heap.size + 1) (fun _ j => j = w4.heap.size) := ⟨mine_one, fun W hB j e => by subst e; exact ⟨by omega, by omega⟩⟩
      have SQ := hide (each_ok w2 (fun _ j => j = w4.heap.size) (w4.heap.size + 1) gd k.sz 2 (fun j => False ∨ j = w6.heap.size + 1) L k q (k.len : Int) a1 cap1 w5.heap.size w6 (Nat.le_refl _) (by omega) (fun j h => by rcases h with h | h; exact h.elim; omega) (unhide HKO) (unhide HQM) (unhide HLY) c6.keep x6)
      have HC6 := hide c6
      clear P5 N5 C5 k5 bw5 b6 hw6 x6 c6 n0 n1 n2 HLY HQM HKO k4
      rw [z5] at SQ
      gi_wp2_with fail
      refine range rfl (fun h => (by cases h)) (gf := 79) (lb := #[.pointer (some ⟨w4.heap.size + 1, 0, none⟩)]) rfl trivial (enters_of Tryd.func79 (by kernel_rfl) rfl) (C := fun _ j => j = w4.heap.size) (R := fun _ => False) (unhide SQ) (Below.refl _ _) (fun _ => rfl) mine_one (fun j h => h.elim)
        (fun xs W => Cn w w2 p w4.heap.size xs W)
        (fun _ _ _ => False)
        (fun xs A A' row h g hr => h.grown g (fun r e => by have := (hr r e).1; omega) hs2 (by omega))
        (fun c xs A A' row h g hr => h)
        (unhide HC6)
        (fun x a'' W => ∃ Bx, Mem.Blk W Bx #[.map (some x.1.1), .int .i64 x.1.2.1] 66 ∧ a'' = { tmps := #[.slice a Is.length cap, .string p, undef, .pointer (some ⟨w.heap.size, 0, none⟩), .int .i64 0, .pointer (some ⟨w2.heap.size, 0, none⟩), .nilIface, .pointer (some ⟨w4.heap.size, 0, none⟩), .pointer (some ⟨Bx, 0, none⟩), undef, undef, .tuple #[.agg #[.map (some q), .int .i64 (k.len : Int), .slice a1 k.len cap1], .nilIface], .slice a Is.length cap, .tuple #[.agg #[.map (some q), .int .i64 (k.len : Int), .slice a1 k.len cap1], .nilIface], .agg #[.map (some q), .int .i64 (k.len : Int), .slice a1 k.len cap1], .nilIface, .nilIface, .bool false, .bool false, .string p, .bool true, .bool false, .bool false, .agg #[.map (some q), .int .i64 (k.len : Int), .slice a1 k.len cap1], .func (.func 79) #[] #[.pointer (some ⟨w4.heap.size + 1, 0, none⟩)], .agg #[.map (some x.1.1), .int .i64 x.1.2.1], undef, undef, undef, undef, undef, undef, undef, undef, undef, undef, undef], defers := [] })
        (fun x a'' _ A A' row h g hr => by
          obtain ⟨Bx, h1, h2⟩ := h
          refine ⟨Bx, h1.grown g (fun e => ?_), h2⟩
          obtain ⟨o, ho, hc⟩ := (hr Bx e.symm).2
          have h3 : A.heap[Bx]? = some (.cells #[.map (some x.1.1), .int .i64 x.1.2.1] 66 (0, 0)) := h1
          rw [h3] at ho
          cases ho
          cases hc) ?assign ?body ?done ?stop
      case assign =>
        intro l' xs x W'' Kz hI hz hK
        gi_wp2
        exact hK _ _ (Kq.alloc (mine_one (B := 0)) (Nat.zero_le _) _) (hI.call ((Below.refl _ _).alloc (Nat.le_refl _) _) hs2 (by omega)) ⟨W''.heap.size, Mem.Blk.new _ _ _, rfl⟩
      case body =>
        rintro l' xs ⟨⟨xq, xm, xL⟩, hxo, hxt⟩ a'' W'' hI ⟨Bx, hx, rfl⟩ hlen hz
        simp only at hxo hxt hx ⊢
        have y0 := hI.path.cell 0
        have e0 := hx.cell 0
        simp only [kA0, kA1, kA2] at y0 e0
        have hmp := hI.keep.own hxo
        have hapL := Pl.tree_apart hxt
        obtain ⟨tt, nn, hat, hh⟩ : ∃ (tt : Bool) (nn : Pl.Nd), (∀ W, Below W''.heap.size W'' W → Calls Tryd.prog 42 #[.map (some xq), .string p] W fun e w' => e = .returned (.tuple #[nn.val, .bool tt]) ∧ Below W.heap.size W w') ∧ Pl.hasP p xL = tt := by
          cases hf : xL.find? (fun m => decide (m.path = p)) with
          | none =>
            have hmiss : ∀ n ∈ xL, n.path ≠ p := fun n hn => by simpa using List.find?_eq_none.1 hf n hn
            exact ⟨false, ⟨⟨#[]⟩, 0, ⟨#[]⟩, 0, 0⟩, fun W bb => WSight.at_some xq 40 (MapN.mapOf xL) p ⟨⟨#[]⟩, 0, ⟨#[]⟩, 0, 0⟩ W hp (WNodesI.map_call hmp bb) (Maps.atKey_of_not_has (MapN.has_no hmiss) _) false (MapN.has_no hmiss), by rw [Pl.hasP, hf]; rfl⟩
          | some nn =>
            have hm1 := List.mem_of_find?_eq_some hf
            have hm2 : nn.path = p := by simpa using List.find?_some hf
            obtain ⟨y2, y3⟩ := MapN.at_yes hapL hm1
            rw [hm2] at y2 y3
            exact ⟨true, nn, fun W bb => WSight.at_some xq 40 (MapN.mapOf xL) p nn W hp (WNodesI.map_call hmp bb) (y3 _) true y2, by rw [Pl.hasP, hf]; rfl⟩
        have HAT := hide (hat W'' (Below.refl _ _))
        have hcn : ((xs ++ [(⟨(xq, xm, xL), hxo, hxt⟩ : Leaf w2)]).map nodesL).countP (Pl.hasP p) = (xs.map nodesL).countP (Pl.hasP p) + (if tt = true then 1 else 0) := by
          rw [List.map_append, List.countP_append, List.map_cons, List.map_nil, List.countP_singleton]
          show _ + (if Pl.hasP p xL = true then 1 else 0) = _
          rw [hh]
        have HCN := hide hcn
        have HI := hide hI
        have hcl : (xs.map nodesL).countP (Pl.hasP p) ≤ 2000000000 := by
          have h5 : (xs.map nodesL).countP (Pl.hasP p) ≤ (xs.map nodesL).length := List.countP_le_length
          rw [List.length_map] at h5
          omega
        simp only [Pl.Nd.val] at HAT
        clear hI hx hat hmp hapL hcn hh
        gi_wp2_with fail
        refine ⟨trivial, ?_⟩
        refine (CallsIn.inRound l' (callsIn_wide.2 (unhide HAT))).mono ?_
        rintro e w7 ⟨rfl, b7⟩
        have i7 := (unhide HI).call b7 hs2 (by omega)
        have i8 := i7.call ((Below.refl _ _).alloc (Nat.le_refl _) (.cells #[.string nn.path, .int .i64 nn.kind, .string nn.data, .int .i64 nn.time, .int .i64 nn.mark] 78)) hs2 (by omega)
        have kq7 : Kq (fun _ j => j = w4.heap.size) (fun _ => False) W'' (w7.alloc (.cells #[.string nn.path, .int .i64 nn.kind, .string nn.data, .int .i64 nn.time, .int .i64 nn.mark] 78)) := (Kq.below (mine_one (B := 0)) (Nat.zero_le _) b7).trans (Kq.alloc (mine_one (B := 0)) (Nat.zero_le _) _)
        cases tt with
        | false =>
          have i9 : Cn w w2 p w4.heap.size (xs ++ [⟨(xq, xm, xL), hxo, hxt⟩]) (w7.alloc (.cells #[.string nn.path, .int .i64 nn.kind, .string nn.data, .int .i64 nn.time, .int .i64 nn.mark] 78)) := ⟨i8.bel, i8.keep, i8.path, by rw [unhide HCN]; exact i8.cnt⟩
          have I9 := hide i9
          clear i7 i8 i9 HI b7
          gi_wp2
          exact ⟨kq7, unhide I9⟩
        | true =>
          have c8 := i8.cnt.cell 0
          have f8 := i8.cnt.fr 0
          simp only [kA0, kA1] at c8
          have i9 : Cn w w2 p w4.heap.size (xs ++ [⟨(xq, xm, xL), hxo, hxt⟩]) ((w7.alloc (.cells #[.string nn.path, .int .i64 nn.kind, .string nn.data, .int .i64 nn.time, .int .i64 nn.mark] 78)).setCell ⟨w4.heap.size, 0, none⟩ (.int .i64 ((((xs.map nodesL).countP (Pl.hasP p) : Nat) : Int) + 1))) := by
            have h5 := i8.cnt.put 0 (.int .i64 ((((xs.map nodesL).countP (Pl.hasP p) : Nat) : Int) + 1))
            simp only [kB3, kB4] at h5
            exact ⟨i8.bel.setCell (by show w.heap.size ≤ w4.heap.size; omega) _, i8.keep.grown (grownBy_setCell' _ _ _) (fun r e => by cases e; omega), i8.path.far _ _ (by show w.heap.size ≠ w4.heap.size; omega), by rw [unhide HCN]; exact h5⟩
          have I9 := hide i9
          have kq9 := kq7.trans (Kq.set (R := fun _ => False) i8.cnt 0 (.int .i64 ((((xs.map nodesL).countP (Pl.hasP p) : Nat) : Int) + 1)))
          have hwr : IntKind.i64.wrap ((((xs.map nodesL).countP (Pl.hasP p) : Nat) : Int) + 1) = (((xs.map nodesL).countP (Pl.hasP p) : Nat) : Int) + 1 := by simp only [IntKind.wrap_i64]; omega
          clear i7 i8 i9 HI b7 kq7 HCN
          generalize (xs.map nodesL).countP (Pl.hasP p) = cc at c8 I9 kq9 hwr hcl
          gi_wp2
          exact ⟨kq9, unhide I9⟩
      case done =>
        rintro D xs W hD hS hI hK
        have c0 := hI.cnt.cell 0
        simp only [kA0, kA1] at c0
        rw [hS] at c0
        have HB := hide (hI.bel.trans (((Below.refl W.heap.size W).mono hI.bel.size)))
        have hB2 := hide hI.bel
        clear hI
        gi_wp2
        refine ⟨by simp, .inl ⟨_, _, rfl, run_takeDeferred hK, ?_⟩⟩
        exact ⟨_, results_tmp rfl _ _ _, rfl, (unhide hB2).grown (grownBy_putObj' _ _ _) (unhide hB2).size (fun r e => by cases e; omega)⟩
      case stop =>
        rintro D c xs W _ _ h _
        exact h.elim
end WReach
end Go.Proofs.YtkfpfckmjgjanaaDoor

/- The walks of szNodeS and szTree at any room left. -/
namespace Go.Proofs.YtkfpfckmjgjanaaDoor
open Go.RowKit
namespace WLaw
set_option maxRecDepth 100000 in
set_option maxHeartbeats 400000 in
theorem szNodeS_left (a : Option Addr) (cap : Nat) (L : List Pl.Nd) (left : Int) (hf0 : 0 ≤ left) (hf1 : left ≤ 1048576) (w : World) (hl : L.length ≤ maxLen) (hv : Mem.isNodes w a L) (hok : ∀ n ∈ L, n.path.size ≤ maxLen ∧ n.data.size ≤ maxLen) :
    Calls Tryd.prog 68 #[.slice a L.length cap, .int .i64 left] w fun e w' => (∃ r : Int, e = .returned (.int .i64 r) ∧ (r = -1 ∨ 0 ≤ r ∧ r ≤ 1048576 ∧ L.length ≤ 1048576 ∧ ∀ n ∈ L, n.path.size ≤ 1048576 ∧ n.data.size ≤ 1048576)) ∧ Below w.heap.size w w' := by
  have hl2 := hl
  unfold maxLen at hl2
  by_cases h0 : left < (L.length : Int)
  · have t0 : left - (L.length : Int) < 0 := by omega
    have t1 : IntKind.i64.wrap (left - (L.length : Int)) = left - (L.length : Int) := by rw [IntKind.wrap_i64]; omega
    go_enter Tryd.func68, Tryd.ntmps68
    go_wp2
    go_ret
    exact ⟨⟨-1, rfl, .inl rfl⟩, Below.refl _ _⟩
  have t0 : ¬ left - (L.length : Int) < 0 := by omega
  have t1 : IntKind.i64.wrap (left - (L.length : Int)) = left - (L.length : Int) := by rw [IntKind.wrap_i64]; omega
  have HV := hide hv
  have HO := hide hok
  clear hv hok
  go_enter Tryd.func68, Tryd.ntmps68
  go_wp2
  go_loopw [1, 5] (fun l i wr => ∃ (k : Nat) (r : Int), k ≤ L.length ∧ i = .int .i64 (k : Int) ∧ l = .int .i64 r ∧ 0 ≤ r ∧ r ≤ 1048576 ∧ Below w.heap.size w wr ∧ Hid (∀ (j : Nat) n, j < k → L[j]? = some n → n.path.size ≤ 1048576 ∧ n.data.size ≤ 1048576)) (fun _ i _ => L.length - (intOf i).toNat)
  case atStart => exact ⟨0, _, Nat.zero_le _, rfl, rfl, by omega, by omega, Below.refl _ _, fun j n h => absurd h (by omega)⟩
  case round =>
    obtain ⟨k, r, hk, rfl, rfl, hr0, hr1, hbel, HA⟩ := hrel
    by_cases hlt : k < L.length
    · obtain ⟨n, hn⟩ : ∃ n, L[k]? = some n := ⟨_, List.getElem?_eq_getElem hlt⟩
      obtain ⟨b, o, rfl, hb, q0, q1, q2, q3, q4⟩ := (unhide HV) k n hn
      have c0 := (hbel.cell (p := ⟨b, _, none⟩) hb).trans q0
      have c1 := (hbel.cell (p := ⟨b, _, none⟩) hb).trans q1
      have c2 := (hbel.cell (p := ⟨b, _, none⟩) hb).trans q2
      have c3 := (hbel.cell (p := ⟨b, _, none⟩) hb).trans q3
      have c4 := (hbel.cell (p := ⟨b, _, none⟩) hb).trans q4
      have hz := hide (fun W => szNode_any n r W (unhide HO n (List.mem_of_getElem? hn)).1 (unhide HO n (List.mem_of_getElem? hn)).2 hr0 hr1)
      have HN := hide hn
      have u1 : (k : Int) < (L.length : Int) := by omega
      have u3 : (0 : Int) ≤ (k : Int) := by omega
      clear q0 q1 q2 q3 q4 hn
      simp only [Pl.Nd.val] at hz
      go_wp2_with fail
      refine (unhide hz _).mono ?_
      rintro e w1 ⟨⟨r1, rfl, h1⟩, b1⟩
      have hb2 := hbel.trans (b1.mono hbel.size)
      clear b1 hbel hz
      rcases h1 with rfl | ⟨h2, h3⟩
      · go_wp2
        go_ret
        exact ⟨⟨-1, rfl, .inl rfl⟩, hb2⟩
      · have h4 : ¬ r1 < 0 := by omega
        have HA2 : Hid (∀ (j : Nat) m, j < k + 1 → L[j]? = some m → m.path.size ≤ 1048576 ∧ m.data.size ≤ 1048576) := fun j m hj h' => by
          rcases Nat.lt_succ_iff_lt_or_eq.1 hj with h'' | rfl
          · exact HA.out j m h'' h'
          · rw [unhide HN] at h'; cases h'; omega
        go_wp2
        go_roundw
        case rel => exact ⟨k + 1, r1, by omega, by go_num, rfl, h2, by omega, hb2, HA2⟩
        case measure => simp [intOf]; omega
    · have u1 : ¬ (k : Int) < (L.length : Int) := by omega
      go_wp2
      go_ret
      exact ⟨⟨r, rfl, .inr ⟨hr0, hr1, by omega, fun n hn => by
        obtain ⟨j, hj⟩ := List.mem_iff_getElem?.1 hn
        exact HA.out j n (by have := (List.getElem?_eq_some_iff.1 hj).1; omega) hj⟩⟩, hbel⟩
set_option maxRecDepth 100000 in
theorem szTree_left (a : Option Addr) (cap : Nat) (L : List Pl.Nd) (left : Int) (hf0 : 0 ≤ left) (hf1 : left ≤ 1048576) (w : World) (hl : L.length ≤ maxLen) (hv : Mem.isNodes w a L) (hok : ∀ n ∈ L, n.path.size ≤ maxLen ∧ n.data.size ≤ maxLen) :
    Calls Tryd.prog 26 #[.agg #[.slice a L.length cap], .int .i64 left] w fun e w' => (∃ r : Int, e = .returned (.int .i64 r) ∧ (r = -1 ∨ 0 ≤ r ∧ r ≤ 1048576 ∧ L.length ≤ 1048576 ∧ ∀ n ∈ L, n.path.size ≤ 1048576 ∧ n.data.size ≤ 1048576)) ∧ Below w.heap.size w w' := by
  have b0 : ∀ o, Below w.heap.size w (w.alloc o) := fun o => (Below.refl _ _).alloc (Nat.le_refl _) o
  have hz := hide (fun W (b : Below w.heap.size w W) => szNodeS_left a cap L left hf0 hf1 W hl (Mem.nodes_call hv b) hok)
  have HB := hide b0
  clear hv hok b0
  go_enter Tryd.func26, Tryd.ntmps26
  go_wp2_with fail
  refine (unhide hz _ (unhide HB _)).mono ?_
  rintro e w1 ⟨⟨r1, rfl, h1⟩, b1⟩
  have hb2 := (unhide HB _).trans (b1.mono (unhide HB _).size)
  clear b1 hz
  rcases h1 with rfl | ⟨h2, h3⟩
  · go_wp2
    go_ret
    exact ⟨⟨-1, rfl, .inl rfl⟩, hb2⟩
  · have h4 : ¬ r1 < 0 := by omega
    go_wp2
    go_ret
    exact ⟨⟨r1, rfl, .inr ⟨h2, h3⟩⟩, hb2⟩
end WLaw
end Go.Proofs.YtkfpfckmjgjanaaDoor

/- Rows of nodes through a store elsewhere. -/
namespace Go.Proofs.YtkfpfckmjgjanaaDoor
open Go.RowKit
namespace Mem
theorem nodes_far {w : World} {g o : Nat} {L : List Pl.Nd} (h : isNodes w (some ⟨g, o, none⟩) L) (p : Addr) (v : Value) (hp : p.block ≠ g) : isNodes (w.setCell p v) (some ⟨g, o, none⟩) L := fun i n hi => by
  obtain ⟨g', o', h1, h2, h3, h4, h5, h6, h7⟩ := h i n hi
  cases h1
  refine ⟨g, o, rfl, by simpa using h2, ?_, ?_, ?_, ?_, ?_⟩ <;> (rw [World.cell?_setCell_far _ _ _ _ hp]; assumption)
end Mem
end Go.Proofs.YtkfpfckmjgjanaaDoor

/- The walks of the laws' own functions on items: szItem, szItemS, toItem, toItemS, eqItem, eqItemS. -/
namespace Go.Proofs.YtkfpfckmjgjanaaDoor
open Go.RowKit
namespace WLaw
set_option maxRecDepth 100000 in
theorem szItem_any (x : Pl.It) (left : Int) (hf0 : 0 ≤ left) (hf1 : left ≤ 1048576) (w : World) (hl : x.t.L.length ≤ maxLen) (hv : Mem.isNodes w x.t.a x.t.L) (hok : ∀ n ∈ x.t.L, n.path.size ≤ maxLen ∧ n.data.size ≤ maxLen) :
    Calls Tryd.prog 34 #[.agg #[.int .i64 x.m, .slice x.t.a x.t.L.length x.t.cap], .int .i64 left] w fun e w' => (∃ r : Int, e = .returned (.int .i64 r) ∧ (r = -1 ∨ 0 ≤ r ∧ r ≤ 1048576 ∧ x.t.L.length ≤ 1048576 ∧ ∀ n ∈ x.t.L, n.path.size ≤ 1048576 ∧ n.data.size ≤ 1048576)) ∧ Below w.heap.size w w' := by
  have b0 : ∀ o, Below w.heap.size w (w.alloc o) := fun o => (Below.refl _ _).alloc (Nat.le_refl _) o
  have hz := hide (fun W (b : Below w.heap.size w W) => szTree_left x.t.a x.t.cap x.t.L left hf0 hf1 W hl (Mem.nodes_call hv b) hok)
  have HB := hide b0
  clear hv hok b0
  go_enter Tryd.func34, Tryd.ntmps34
  go_wp2_with fail
  refine (unhide hz _ (unhide HB _)).mono ?_
  rintro e w1 ⟨⟨r1, rfl, h1⟩, b1⟩
  have hb2 := (unhide HB _).trans (b1.mono (unhide HB _).size)
  clear b1 hz
  rcases h1 with rfl | ⟨h2, h3⟩
  · go_wp2
    go_ret
    exact ⟨⟨-1, rfl, .inl rfl⟩, hb2⟩
  · have h4 : ¬ r1 < 0 := by omega
    go_wp2
    go_ret
    exact ⟨⟨r1, rfl, .inr ⟨h2, h3⟩⟩, hb2⟩
set_option maxRecDepth 100000 in
set_option maxHeartbeats 800000 in
theorem szItemS_any (a : Option Addr) (cap : Nat) (Ts : List Pl.It) (w : World) (hl : Ts.length ≤ maxLen) (hv : Mem.isItems w a Ts) (hok : ∀ t ∈ Ts, t.t.L.length ≤ maxLen ∧ ∀ n ∈ t.t.L, n.path.size ≤ maxLen ∧ n.data.size ≤ maxLen) :
    Calls Tryd.prog 9 #[.slice a Ts.length cap, .int .i64 1048576] w fun e w' => (∃ r : Int, e = .returned (.int .i64 r) ∧ (r = -1 ∨ 0 ≤ r ∧ r ≤ 1048576 ∧ Ts.length ≤ 1048576 ∧ ∀ t ∈ Ts, t.t.L.length ≤ 1048576 ∧ ∀ n ∈ t.t.L, n.path.size ≤ 1048576 ∧ n.data.size ≤ 1048576)) ∧ Below w.heap.size w w' := by
  have hl2 := hl
  unfold maxLen at hl2
  by_cases h0 : 1048576 < Ts.length
  · have t0 : (1048576 : Int) - (Ts.length : Int) < 0 := by omega
    go_enter Tryd.func9, Tryd.ntmps9
    go_wp2
    go_ret
    exact ⟨⟨-1, rfl, .inl rfl⟩, Below.refl _ _⟩
  have t0 : ¬ (1048576 : Int) - (Ts.length : Int) < 0 := by omega
  have HV := hide hv
  have HO := hide hok
  clear hv hok
  go_enter Tryd.func9, Tryd.ntmps9
  go_wp2
  go_loopw [1, 5] (fun l i wr => ∃ (k : Nat) (r : Int), k ≤ Ts.length ∧ i = .int .i64 (k : Int) ∧ l = .int .i64 r ∧ 0 ≤ r ∧ r ≤ 1048576 ∧ Below w.heap.size w wr ∧ Hid (∀ (j : Nat) t, j < k → Ts[j]? = some t → t.t.L.length ≤ 1048576 ∧ ∀ n ∈ t.t.L, n.path.size ≤ 1048576 ∧ n.data.size ≤ 1048576)) (fun _ i _ => Ts.length - (intOf i).toNat)
  case atStart => exact ⟨0, _, Nat.zero_le _, rfl, rfl, by omega, by omega, Below.refl _ _, fun j n h => absurd h (by omega)⟩
  case round =>
    obtain ⟨k, r, hk, rfl, rfl, hr0, hr1, hbel, HA⟩ := hrel
    by_cases hlt : k < Ts.length
    · obtain ⟨t, ht⟩ : ∃ t, Ts[k]? = some t := ⟨_, List.getElem?_eq_getElem hlt⟩
      obtain ⟨⟨b, o, rfl, hb, q0, q0'⟩, q1⟩ := (unhide HV) k t ht
      have c0 := (hbel.cell (p := ⟨b, _, none⟩) hb).trans q0
      have c1 := (hbel.cell (p := ⟨b, _, none⟩) hb).trans q0'
      have hz := hide (fun W (b : Below w.heap.size w W) => szItem_any t r hr0 hr1 W (unhide HO t (List.mem_of_getElem? ht)).1 (Mem.nodes_call q1 b) (unhide HO t (List.mem_of_getElem? ht)).2)
      have HN := hide ht
      have u1 : (k : Int) < (Ts.length : Int) := by omega
      have u3 : (0 : Int) ≤ (k : Int) := by omega
      simp only [Pl.Tr.val] at c1
      clear q0 q0' ht q1
      go_wp2_with fail
      refine (unhide hz _ hbel).mono ?_
      rintro e w1 ⟨⟨r1, rfl, h1⟩, b1⟩
      have hb2 := hbel.trans (b1.mono hbel.size)
      clear b1 hbel hz
      rcases h1 with rfl | ⟨h2, h3, h5, h6⟩
      · go_wp2
        go_ret
        exact ⟨⟨-1, rfl, .inl rfl⟩, hb2⟩
      · have h4 : ¬ r1 < 0 := by omega
        have HA2 : Hid (∀ (j : Nat) m, j < k + 1 → Ts[j]? = some m → m.t.L.length ≤ 1048576 ∧ ∀ n ∈ m.t.L, n.path.size ≤ 1048576 ∧ n.data.size ≤ 1048576) := fun j m hj h' => by
          rcases Nat.lt_succ_iff_lt_or_eq.1 hj with h'' | rfl
          · exact HA.out j m h'' h'
          · rw [unhide HN] at h'; cases h'; exact ⟨h5, h6⟩
        clear h5 h6
        go_wp2
        go_roundw
        case rel => exact ⟨k + 1, r1, by omega, by go_num, rfl, h2, by omega, hb2, HA2⟩
        case measure => simp [intOf]; omega
    · have u1 : ¬ (k : Int) < (Ts.length : Int) := by omega
      go_wp2
      go_ret
      exact ⟨⟨r, rfl, .inr ⟨hr0, hr1, by omega, fun n hn => by
        obtain ⟨j, hj⟩ := List.mem_iff_getElem?.1 hn
        exact HA.out j n (by have := (List.getElem?_eq_some_iff.1 hj).1; omega) hj⟩⟩, hbel⟩
end WLaw
end Go.Proofs.YtkfpfckmjgjanaaDoor

