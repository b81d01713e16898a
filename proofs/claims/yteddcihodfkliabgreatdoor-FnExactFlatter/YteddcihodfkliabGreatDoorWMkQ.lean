/- The walks of eqNestOut, markNestOut, heldNestOut. -/
import Derived.Test.YteddcihodfkliabGreatDoorWMkB
import Derived.Test.YteddcihodfkliabGreatDoorPartW
namespace Go.Proofs.YteddcihodfkliabGreatDoor
open Go.RowKit
namespace Pl
theorem kAt_le (K : Nat) {Is : List It} (h : ∀ x ∈ Is, x.t.L.length ≤ 40) (i : Nat) : kAt K Is i ≤ K + i * 201 := by
  induction i with
  | zero => exact Nat.le_refl _
  | succ i ih =>
    simp only [kAt]
    cases hi : Is[i]? with
    | none => simp only; omega
    | some x =>
      have := h x (List.mem_of_getElem? hi)
      simp only; omega
end Pl
namespace WMkQ
set_option maxRecDepth 100000 in
theorem mark_any (a : Option Addr) (cap S G : Nat) (c : Int) (Is : List Pl.It) (w : World) (hn : Is.length ≤ 12) (hL : ∀ x ∈ Is, x.t.L.length ≤ 40) (h : Mem.Io w S (.slice a Is.length cap) Is) (hG : ∀ g, (Value.slice a Is.length cap).ownBlock = some g → g < G) (hG2 : ∀ x ∈ Is, ∀ g, x.t.val.ownBlock = some g → g < G) :
    Calls Tryz.prog 18 #[.agg #[.slice a Is.length cap, .int .i64 c], .int .i64 1] w fun e w' => e = .returned (.int .i64 (Pl.kAt 1 Is Is.length : Int)) ∧ Mem.isItems w' a (Pl.mkTo 1 Is Is.length) ∧ Mem.Band S G w w' := by
  have b0 : ∀ o, Below w.heap.size w (w.alloc o) := fun o => (Below.refl _ _).alloc (Nat.le_refl _) o
  have HB := hide b0
  have hl := hide (fun W (b : Below w.heap.size w W) => WMkB.mark_own a cap 1 S G Is W (by omega) (fun x hx => Nat.le_trans (hL x hx) (by decide)) (by decide) (fun i hi => Nat.le_trans (Pl.kAt_le 1 hL i) (by omega)) (h.call b) hG hG2)
  generalize Pl.mkTo 1 Is Is.length = MT at hl ⊢
  generalize Pl.kAt 1 Is Is.length = KA at hl ⊢
  clear b0 h hL hG hG2
  go_enter Tryz.func18, Tryz.ntmps18
  go_wp2_with fail
  refine (unhide hl _ (unhide HB _)).mono ?_
  rintro e w1 ⟨rfl, h1, b1⟩
  have H := hide ((Mem.Band.of_below (unhide HB _)).trans b1)
  have HI := hide h1
  clear h1 hl HB b1
  go_wp2
  go_ret
  exact ⟨rfl, unhide HI, unhide H⟩
set_option maxRecDepth 100000 in
theorem held_any (a : Option Addr) (cap : Nat) (c : Int) (Is : List Pl.It) (w : World) (hn : Is.length ≤ 12) (hL : ∀ x ∈ Is, x.t.L.length ≤ 40) (hv : Mem.isItems w a (Pl.mkTo 1 Is Is.length)) :
    Calls Tryz.prog 19 #[.agg #[.slice a Is.length cap, .int .i64 c], .int .i64 1] w fun e w' => e = .returned (.int .i64 (Pl.kAt 1 Is Is.length : Int)) ∧ Below w.heap.size w w' := by
  have b0 : ∀ o, Below w.heap.size w (w.alloc o) := fun o => (Below.refl _ _).alloc (Nat.le_refl _) o
  have HB := hide b0
  have hl := hide (fun W (b : Below w.heap.size w W) => WMarkI.held_any a cap 1 Is W (by omega) (fun x hx => Nat.le_trans (hL x hx) (by decide)) (by decide) (fun i hi => Nat.le_trans (Pl.kAt_le 1 hL i) (by omega)) (Mem.items_call hv b))
  clear hv b0 hL
  generalize Pl.kAt 1 Is Is.length = q at hl ⊢
  have t0 : ¬ (q : Int) < 0 := by omega
  go_enter Tryz.func19, Tryz.ntmps19
  go_wp2_with fail
  refine (unhide hl _ (unhide HB _)).mono ?_
  rintro e w1 ⟨rfl, b1⟩
  have b2 := (unhide HB _).trans (b1.mono (unhide HB _).size)
  clear b1 hl
  go_wp2
  go_ret
  exact ⟨rfl, b2⟩
set_option maxRecDepth 100000 in
theorem eq_any (a b : Option Addr) (c1 c2 : Nat) (c : Int) (Ts Us : List Pl.It) (w : World) (hl : Ts.length ≤ 12) (hm : Us.map Pl.It.r = Ts.map Pl.It.r) (hL : ∀ x ∈ Ts, x.t.L.length ≤ 40) (hv : Mem.isItems w a Ts) (hu : Mem.isItems w b Us) :
    Calls Tryz.prog 17 #[.agg #[.slice a Ts.length c1, .int .i64 c], .agg #[.slice b Ts.length c2, .int .i64 c]] w fun e w' => e = .returned (.bool true) ∧ Below w.heap.size w w' := by
  have b0 : Below w.heap.size w ((w.alloc (.cells #[.slice a Ts.length c1, .int .i64 c] 34)).alloc (.cells #[.slice b Ts.length c2, .int .i64 c] 34)) := ((Below.refl _ _).alloc (Nat.le_refl _) _).alloc (by simp) _
  have va := Mem.var_alloc (Mem.var_new w [.slice a Ts.length c1, .int .i64 c] 34) (.cells #[.slice b Ts.length c2, .int .i64 c] 34)
  have vb := Mem.var_new (w.alloc (.cells #[.slice a Ts.length c1, .int .i64 c] 34)) [.slice b Ts.length c2, .int .i64 c] 34
  rw [show (w.alloc (.cells #[.slice a Ts.length c1, .int .i64 c] 34)).heap.size = w.heap.size + 1 by simp] at vb
  have he := hide (fun W (bw : Below w.heap.size w W) => WLaw.eqItemS_any a b c1 c2 Ts Us W (by omega) hm (Mem.items_call hv bw) (Mem.items_call hu bw) (fun x hx => Nat.le_trans (hL x hx) (by decide)))
  clear hv hu hm hL
  have k5' := va.2 0 _ rfl
  have d5' := vb.2 0 _ rfl
  go_enter Tryz.func17, Tryz.ntmps17
  go_wp2_with fail
  refine (unhide he _ b0).mono ?_
  rintro e w1 ⟨rfl, b1⟩
  have bw1 := b0.trans (b1.mono b0.size)
  have k5 := (Mem.var_call va b1).2 1 _ rfl
  have d5 := (Mem.var_call vb b1).2 1 _ rfl
  clear he va vb b0 b1 k5' d5'
  go_wp2
  go_ret
  exact ⟨rfl, bw1⟩
end WMkQ
end Go.Proofs.YteddcihodfkliabGreatDoor
