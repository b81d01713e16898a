/- Several texts of one claim in one file: WIs, WCode, Drawn, LaySort, WOrder. -/
import Derived.Test.YtfdbokipgofcdaaGreatDoorG00
import Derived.Below
import Derived.Test.YtfdbokipgofcdaaGreatDoorProg
import Derived.WalkKit
import Derived.Laws.IdiomStrings
import Derived.LaidEql
import Derived.Stop.Asserts
import Derived.Test.YtfdbokipgofcdaaGreatDoorG04
import Derived.Calls
import Derived.Lone
import Derived.RunT
import Derived.Shelf.SlSortCmp.NoneTotal
import Derived.Test.YtfdbokipgofcdaaGreatDoorG07
import Derived.Test.YtfdbokipgofcdaaGreatDoorG34
import Derived.Test.YtfdbokipgofcdaaGreatDoorG03
import Derived.Lib.QuietBelow
namespace Go.Proofs.YtfdbokipgofcdaaGreatDoor
open Go.RowKit Go.Extern.Stop Go.Stop Go.Extern
namespace WIs
theorem typeOfE (v : Value) (w : World) : (ReflectliteType.typeOf #[.iface 219 v]).run Tryz.prog w = .ok (.iface 148 (.agg #[.pointer (some ⟨6, 219, none⟩)])) w := by kernel_rfl
theorem ys6 : ∃ F, find Tryz.f193 = some F ∧ ∀ w, (F #[.agg #[.pointer (some ⟨6, 219, none⟩)]]).run Tryz.prog w = .ok (.bool true) w :=
 ⟨ReflectliteType.method fun t => do Rtype.noPackHeld "Comparable" t; pure (.bool (← typeInfo t).comparable), by kernel_rfl, fun w => by kernel_rfl⟩
theorem methodC (v : Value) (w : World) : (Go.method 355 148 v "Comparable").run Tryz.prog w = .ok (193, v) w := by kernel_rfl
theorem compI : (Tryz.prog.info? 219).map (·.comparable) = some true := by kernel_rfl
theorem sizeI : (Tryz.prog.info? 244).map (·.size) = some 1 := by kernel_rfl
theorem noIs (v : Value) (xT : TypeId) (w : World) : (Instr.typeAssert (.iface 219 v) xT 150 true).run Tryz.prog w = .ok (.tuple #[.nilIface, .bool false]) w := run_typeAssert_lacksB Tryz.underlying150 (by kernel_rfl) (by kernel_rfl) v xT w
theorem noUnwrap (v : Value) (xT : TypeId) (w : World) : (Instr.typeAssert (.iface 219 v) xT 153 true).run Tryz.prog w = .ok (.tuple #[.nilIface, .bool false]) w := run_typeAssert_lacksB Tryz.underlying153 (by kernel_rfl) (by kernel_rfl) v xT w
theorem noUnwraps (v : Value) (xT : TypeId) (w : World) : (Instr.typeAssert (.iface 219 v) xT 155 true).run Tryz.prog w = .ok (.tuple #[.nilIface, .bool false]) w := run_typeAssert_lacksB Tryz.underlying155 (by kernel_rfl) (by kernel_rfl) v xT w
theorem same (a : Addr) (w : World) :
  Calls Tryz.prog 81 #[.iface 219 (.pointer (some a)), .iface 219 (.pointer (some a))] w fun e w' => e = .returned (.bool true) ∧ w' = w := by
 obtain ⟨i, hi, hcmp⟩ := Option.map_eq_some_iff.1 compI
 obtain ⟨j, hj, hjs⟩ := Option.map_eq_some_iff.1 sizeI
 have hT := @run_callFunc_extern Tryz.prog 95 _ ReflectliteType.typeOf Tryz.func95 (by kernel_rfl) (by kernel_rfl) (by kernel_rfl) (by kernel_rfl)
 obtain ⟨F, hF, cT⟩ := ys6
 have hC := @run_callFunc_extern Tryz.prog 193 _ F Tryz.func193 (by kernel_rfl) (by kernel_rfl) (by kernel_rfl) hF
 have tT := typeOfE
 have mR := methodC
 have heq := run_eql_iface_ptr_same (P := Tryz.prog) w a Tryz.underlying56 Tryz.underlying219 hi hcmp hj
 go_enter Tryz.func81, Tryz.ntmps81
 go_wp2
 refine wp_loop_rounds 1 ?_
 rw [rounds_succ]
 go_wp2
 go_ret
 exact ⟨rfl, rfl⟩
theorem other (a b : Addr) (ca cb : Array Value) (ta tb : TypeId) (w : World) (hne : a ≠ b) (ha : w.heap[a.block]? = some (.cells ca ta (0, 0))) (hb : w.heap[b.block]? = some (.cells cb tb (0, 0))) :
  Calls Tryz.prog 81 #[.iface 219 (.pointer (some a)), .iface 219 (.pointer (some b))] w fun e w' => e = .returned (.bool false) ∧ w' = w := by
 obtain ⟨i, hi, hcmp⟩ := Option.map_eq_some_iff.1 compI
 obtain ⟨j, hj, hjs⟩ := Option.map_eq_some_iff.1 sizeI
 have hT := @run_callFunc_extern Tryz.prog 95 _ ReflectliteType.typeOf Tryz.func95 (by kernel_rfl) (by kernel_rfl) (by kernel_rfl) (by kernel_rfl)
 obtain ⟨F, hF, cT⟩ := ys6
 have hC := @run_callFunc_extern Tryz.prog 193 _ F Tryz.func193 (by kernel_rfl) (by kernel_rfl) (by kernel_rfl) hF
 have tT := typeOfE
 have mR := methodC
 have nE := noIs
 have uE := noUnwrap
 have vE := noUnwraps
 have heq := run_eql_iface_ptr_other (P := Tryz.prog) w Tryz.underlying56 Tryz.underlying219 hi hcmp hj (by rw [hjs]; decide) hne ha hb
 go_enter Tryz.func81, Tryz.ntmps81
 go_wp2
 refine wp_loop_rounds 1 ?_
 rw [rounds_succ]
 go_wp2
 go_ret
 exact ⟨rfl, rfl⟩
end WIs
end Go.Proofs.YtfdbokipgofcdaaGreatDoor

namespace Go.Proofs.YtfdbokipgofcdaaGreatDoor
open Go.RowKit
namespace WIs
structure Six (w : World) (x : Nat → Addr) : Prop where
 c0 : w.cell? ⟨0, 0, none⟩ = some (.iface 219 (.pointer (some (x 0))))
 c1 : w.cell? ⟨1, 0, none⟩ = some (.iface 219 (.pointer (some (x 1))))
 c2 : w.cell? ⟨2, 0, none⟩ = some (.iface 219 (.pointer (some (x 2))))
 c3 : w.cell? ⟨3, 0, none⟩ = some (.iface 219 (.pointer (some (x 3))))
 c4 : w.cell? ⟨4, 0, none⟩ = some (.iface 219 (.pointer (some (x 4))))
 c5 : w.cell? ⟨5, 0, none⟩ = some (.iface 219 (.pointer (some (x 5))))
 row : ∀ k, k < 6 → ∃ c t, w.heap[(x k).block]? = some (.cells c t (0, 0))
 apart : ∀ i j, i < 6 → j < 6 → i ≠ j → x i ≠ x j
theorem Six.call {w w' : World} {x : Nat → Addr} (h : Six w x) (b : Below w.heap.size w w') : Six w' x :=
 ⟨(b.cell (p := ⟨_, 0, none⟩) (World.block_lt_of_cell? w ⟨_, 0, none⟩ h.c0)).trans h.c0, (b.cell (p := ⟨_, 0, none⟩) (World.block_lt_of_cell? w ⟨_, 0, none⟩ h.c1)).trans h.c1, (b.cell (p := ⟨_, 0, none⟩) (World.block_lt_of_cell? w ⟨_, 0, none⟩ h.c2)).trans h.c2, (b.cell (p := ⟨_, 0, none⟩) (World.block_lt_of_cell? w ⟨_, 0, none⟩ h.c3)).trans h.c3, (b.cell (p := ⟨_, 0, none⟩) (World.block_lt_of_cell? w ⟨_, 0, none⟩ h.c4)).trans h.c4, (b.cell (p := ⟨_, 0, none⟩) (World.block_lt_of_cell? w ⟨_, 0, none⟩ h.c5)).trans h.c5,
  fun k hk => by
   obtain ⟨c, t, hr⟩ := h.row k hk
   exact ⟨c, t, (b.block _ (Array.getElem?_eq_some_iff.1 hr).1).trans hr⟩, h.apart⟩
theorem Six.errs {w : World} {x : Nat → Addr} (h : Six w x) : ze7.Errs w 219 219 219 (.pointer (some (x 1))) (.pointer (some (x 2))) (.pointer (some (x 3))) := ⟨h.c1, h.c2, h.c3⟩
theorem Six.other {w : World} {x : Nat → Addr} (h : Six w x) (i j : Nat) (hi : i < 6) (hj : j < 6) (hij : i ≠ j) :
  Calls Tryz.prog 81 #[.iface 219 (.pointer (some (x i))), .iface 219 (.pointer (some (x j)))] w fun e w' => e = .returned (.bool false) ∧ w' = w := by
 obtain ⟨c1, t1, h1⟩ := h.row i hi
 obtain ⟨c2, t2, h2⟩ := h.row j hj
 exact WIs.other (x i) (x j) c1 c2 t1 t2 w (h.apart i j hi hj hij) h1 h2
set_option maxRecDepth 100000 in
set_option maxHeartbeats 400000 in
theorem code0 (x : Nat → Addr) (w : World) (h : Six w x) :
  Calls Tryz.prog 56 #[.iface 219 (.pointer (some (x 0)))] w fun e w' => e = .returned (.int .i64 2) ∧ w' = w := by
 have k0 := h.c0
 have k2 := h.c2
 have k3 := h.c3
 have k4 := h.c4
 have k5 := h.c5
 have H := hide h
 clear h
 go_enter Tryz.func56, Tryz.ntmps56
 go_wp2_with fail
 refine (WIs.same (x 0) _).mono ?_
 rintro e w1 ⟨rfl, rfl⟩
 go_wp2
 go_ret
 exact ⟨rfl, rfl⟩
set_option maxRecDepth 100000 in
set_option maxHeartbeats 400000 in
theorem code1 (x : Nat → Addr) (w : World) (h : Six w x) :
  Calls Tryz.prog 56 #[.iface 219 (.pointer (some (x 1)))] w fun e w' => e = .returned (.int .i64 1) ∧ w' = w := by
 have k0 := h.c0
 have k2 := h.c2
 have k3 := h.c3
 have k4 := h.c4
 have k5 := h.c5
 have H := hide h
 clear h
 go_enter Tryz.func56, Tryz.ntmps56
 go_wp2_with fail
 refine ((za H).other 1 0 (by decide) (by decide) (by decide)).mono ?_
 rintro e w1 ⟨rfl, rfl⟩
 go_wp2_with fail
 refine ((za H).other 1 2 (by decide) (by decide) (by decide)).mono ?_
 rintro e w3 ⟨rfl, rfl⟩
 go_wp2_with fail
 refine ((za H).other 1 3 (by decide) (by decide) (by decide)).mono ?_
 rintro e w4 ⟨rfl, rfl⟩
 go_wp2_with fail
 refine ((za H).other 1 4 (by decide) (by decide) (by decide)).mono ?_
 rintro e w5 ⟨rfl, rfl⟩
 go_wp2_with fail
 refine ((za H).other 1 5 (by decide) (by decide) (by decide)).mono ?_
 rintro e w6 ⟨rfl, rfl⟩
 go_wp2
 go_ret
 exact ⟨rfl, rfl⟩
set_option maxRecDepth 100000 in
set_option maxHeartbeats 400000 in
theorem code5 (x : Nat → Addr) (w : World) (h : Six w x) :
  Calls Tryz.prog 56 #[.iface 219 (.pointer (some (x 5)))] w fun e w' => e = .returned (.int .i64 9) ∧ w' = w := by
 have k0 := h.c0
 have k2 := h.c2
 have k3 := h.c3
 have k4 := h.c4
 have k5 := h.c5
 have H := hide h
 clear h
 go_enter Tryz.func56, Tryz.ntmps56
 go_wp2_with fail
 refine ((za H).other 5 0 (by decide) (by decide) (by decide)).mono ?_
 rintro e w1 ⟨rfl, rfl⟩
 go_wp2_with fail
 refine ((za H).other 5 2 (by decide) (by decide) (by decide)).mono ?_
 rintro e w3 ⟨rfl, rfl⟩
 go_wp2_with fail
 refine ((za H).other 5 3 (by decide) (by decide) (by decide)).mono ?_
 rintro e w4 ⟨rfl, rfl⟩
 go_wp2_with fail
 refine ((za H).other 5 4 (by decide) (by decide) (by decide)).mono ?_
 rintro e w5 ⟨rfl, rfl⟩
 go_wp2_with fail
 refine (WIs.same (x 5) _).mono ?_
 rintro e w1 ⟨rfl, rfl⟩
 go_wp2
 go_ret
 exact ⟨rfl, rfl⟩
end WIs
end Go.Proofs.YtfdbokipgofcdaaGreatDoor

namespace Go.Proofs.YtfdbokipgofcdaaGreatDoor
namespace Drw
def wOf {α : Type} : Result α → World | .ok _ w => w | .halt _ w => w
theorem ask_le {α : Type} (a : Ask α) : ∀ w : World, w.drawn ≤ (w.ask a).2.drawn := by
 induction a with
 | done a => intro w; exact Nat.le_refl _
 | ask what range k ih =>
  intro w
  simp only [World.ask]
  split
  ·exact ih _ _
  ·exact Nat.le_trans (Nat.le_succ w.drawn) (ih _ { w with drawn := w.drawn + 1 })
theorem sys_le (w : World) (c : Sys) : w.drawn ≤ (w.sys c).2.drawn := by
 have h := ask_le (Kernel.perform c w.os) w
 unfold World.sys
 revert h
 generalize w.ask (Kernel.perform c w.os) = x
 obtain ⟨⟨r, os⟩, w'⟩ := x
 intro h
 split
 ·exact Nat.le_refl _
 ·rename_i he
  cases he
  exact h
theorem view_eq {p : Program} {w w' : World} {at_ : Addr} {u : TypeId} {k : Addr} {v : Value} {b : Bool} {l : List Addr} (h : w.viewStore p at_ u k v b = .ok (w', l)) : w'.drawn = w.drawn := by
 simp only [World.viewStore, bind, Except.bind, pure, Except.pure] at h
 repeat' first
  | (simp at h; done)
  | (simp only [Except.ok.injEq, Prod.mk.injEq] at h; obtain ⟨rfl, _⟩ := h; rfl)
  | split at h
theorem far_eq {p : Program} {w w' : World} {a : Addr} {v : Value} {b : Bool} {l : List Addr} (h : w.farStore p a v b = .ok (w', l)) : w'.drawn = w.drawn := by
 unfold World.farStore at h
 split at h
 ·split at h
  ·rename_i r hr
   simp only [Except.ok.injEq] at h
   subst h
   exact view_eq hr
  ·simp at h
 ·simp at h
theorem run_le {α : Type} (p : Program) (s : Sem α) : ∀ w : World, w.drawn ≤ (wOf (s.run p w)).drawn := by
 induction s with
 | pure a => intro w; exact Nat.le_refl _
 | load m a k ih =>
  intro w; simp only [Sem.run]; split
  ·exact ih _ _
  ·split
   ·exact ih _ _
   ·exact Nat.le_refl _
 | store m a v k ih =>
  intro w
  have main : w.drawn ≤ (wOf (match w.cell? a with
   | some _ => if w.frozen? a then .halt (.unsupported (.unsafePointer "a write to bytes that a string shares")) w else k.run p (w.setCell a v)
   | none => match w.farStore p a v (m == .atomic) with
    | .ok (w, _) => k.run p w
    | .error h => .halt h w)).drawn := by
   split
   ·split
    ·exact Nat.le_refl _
    ·exact ih (w.setCell a v)
   ·split
    ·rename_i w' l he
     rw [← far_eq he]; exact ih _
    ·exact Nat.le_refl _
  cases v <;> first | exact main | exact Nat.le_refl _
 | new o k ih => intro w; simp only [Sem.run]; exact ih _ { w with heap := w.heap.push o }
 | shape r k ih => intro w; simp only [Sem.run]; exact ih _ _
 | freeze a n k ih =>
  intro w; simp only [Sem.run]
  have h : (w.freeze a n).drawn = w.drawn := by unfold World.freeze; split <;> rfl
  rw [← h]; exact ih _
 | frozen a k ih => intro w; simp only [Sem.run]; exact ih _ _
 | getObj r k ih =>
  intro w; simp only [Sem.run]; split
  ·exact Nat.le_refl _
  ·exact ih _ _
  ·exact Nat.le_refl _
 | setObj r o k ih =>
  intro w; simp only [Sem.run]; split
  ·exact Nat.le_refl _
  ·exact ih { w with heap := w.heap.setIfInBounds r o }
  ·exact Nat.le_refl _
 | choose q k ih =>
  intro w; simp only [Sem.run]; split
  ·exact ih _ _
  ·exact Nat.le_trans (Nat.le_succ _) (ih _ { w with drawn := w.drawn + 1 })
 | sys c k ih => intro w; simp only [Sem.run]; exact Nat.le_trans (sys_le w c) (ih _ _)
 | program k ih => intro w; simp only [Sem.run]; exact ih _ _
 | mark m k ih => intro w; simp only [Sem.run]; exact ih _
 | halt h => intro w; exact Nat.le_refl _
theorem ze8 {α : Type} {p : Program} {s : Sem α} {w w' : World} {a : α} (h : s.run p w = .ok a w') : w.drawn ≤ w'.drawn := by
 have := run_le p s w; rw [h] at this; exact this
theorem run_halt {α : Type} {p : Program} {s : Sem α} {w w' : World} {a : Halt} (h : s.run p w = .halt a w') : w.drawn ≤ w'.drawn := by
 have := run_le p s w; rw [h] at this; exact this
theorem zx0 {α : Type} {p : Program} {s : Sem α} {w : World} {es es' : Array Event} {r : Result α} (h : s.runT p w es = (r, es')) : w.drawn ≤ (wOf r).drawn := by
 have h1 := Sem.runT_fst p s w es
 rw [h] at h1
 have := run_le p s w
 rw [← h1] at this; exact this
theorem runT_ok1 {α : Type} {p : Program} {s : Sem α} {w w' : World} {es : Array Event} {a : α} (h : (s.runT p w es).1 = .ok a w') : w.drawn ≤ w'.drawn := by rw [Sem.runT_fst] at h; exact ze8 h
theorem runT_halt1 {α : Type} {p : Program} {s : Sem α} {w w' : World} {es : Array Event} {a : Halt} (h : (s.runT p w es).1 = .halt a w') : w.drawn ≤ w'.drawn := by rw [Sem.runT_fst] at h; exact run_halt h
def up (d : Nat) : GStep → Prop
 | .go _ w _ | .comm _ _ _ _ w _ | .spawn _ _ w _ | .count _ w _ | .timer _ _ w _ | .alone _ _ w _ | .newcoro _ _ _ w _ | .coroswitch _ _ _ w _ | .collect _ w _ | .watch _ w _ => d ≤ w.drawn
 | .ended _ _ _ => True
theorem zp9 (d : Nat) (es : Array Event) (s : GStep) : up d (GStep.after es s) ↔ up d s := by cases s <;> exact Iff.rfl
theorem zo2 {d d' : Nat} (h : d ≤ d') {s : GStep} (hs : up d' s) : up d s := by
 cases s <;> first | exact Nat.le_trans h hs | trivial
theorem up_ite {d : Nat} {c : Prop} [Decidable c] {a b : GStep} (ha : up d a) (hb : up d b) : up d (if c then a else b) := by split <;> assumption
theorem ya1 (fr : Frame) (m : String) (w : World) : up w.drawn (endThrow fr m w) := Nat.le_refl _
theorem dieOf_up (fr : Frame) (l : List ByteArray) (m : String) (b : Bool) (w : World) : up w.drawn (dieOf fr l m b w) := Nat.le_refl _
theorem yk4 (p : Program) (fr : Frame) (v : Value) (w : World) : up w.drawn (endPrinting p fr v w) := by
 unfold endPrinting
 simp only []
 split
 ·exact ya1 _ _ _
 ·trivial
theorem ys3 (p : Program) (fr : Frame) (cs : List Frame) (dy : Option Dying) (m : String) (w : World) : up w.drawn (endFatal p fr cs dy m w) := by
 unfold endFatal
 simp only []
 split
 ·rename_i h; exact zo2 (ze8 h) (dieOf_up _ _ _ _ _)
 ·trivial
 ·trivial
theorem endWith_up (w : World) (fd : Nat) (t : ByteArray) (o : Outcome) (d : Nat) : up d (endWith w fd t o) := by
 unfold endWith
 simp only []
 split
 ·split <;> trivial
 ·trivial
 ·trivial
theorem writeOn_up (p : Program) (fr : Frame) (dd : Dying) (f : Fatal) (w : World) : up w.drawn (writeOn p fr dd f w) := by
 unfold writeOn
 simp only []
 split
 ·trivial
 ·split
  ·rename_i h; exact zx0 h
  ·rename_i h; exact zx0 h
  ·trivial
  ·trivial
theorem ya2 (p : Program) (main : Bool) (fr : Frame) (cs : List Frame) (dy : Option Dying) (v : Value) (w : World) : up w.drawn (doReturn p main fr cs dy v w) := by
 unfold doReturn
 repeat' first
  | exact Nat.le_refl _
  | trivial
  | split
theorem die_up (p : Program) (fr : Frame) (dd : Dying) (w : World) : up w.drawn (die p fr dd w) := by
 unfold die
 split
 ·exact writeOn_up _ _ _ _ _
 split
 ·split
  ·exact Nat.le_refl _
  ·exact endWith_up _ _ _ _ _
 simp only []
 split
 ·exact Nat.le_refl _
 ·split
  ·rename_i h; exact ze8 h
  ·trivial
 ·generalize hx : (invoke (.fn (.method _) #[]) _).runT p w #[] = x
  obtain ⟨r, es⟩ := x
  have h2 := zx0 hx
  rw [zp9]
  clear hx
  dsimp only
  revert h2
  split <;> intro h2 <;> first | exact h2 | trivial | exact zo2 h2 (yk4 _ _ _ _)
 ·trivial
theorem yu2 (p : Program) (fr : Frame) (cs : List Frame) (dy : Option Dying) (d : Deferred) (w : World) : up w.drawn (callDeferred p fr cs dy d w) := by
 unfold callDeferred
 refine up_ite trivial ?_
 ·simp only []
  generalize hx : (invoke d.target d.args).runT p w #[] = x
  obtain ⟨r, es⟩ := x
  have h2 := zx0 hx
  rw [zp9]
  clear hx
  dsimp only
  revert h2
  split <;> intro h2 <;> first | exact h2 | trivial | exact zo2 h2 (ys3 _ _ _ _ _ _) | exact zo2 h2 (ya1 _ _ _) | (split <;> first | exact h2 | trivial)
theorem unwind_up (p : Program) (main : Bool) (fr : Frame) (cs : List Frame) (dy : Option Dying) (w : World) : up w.drawn (unwind p main fr cs dy w) := by
 unfold unwind
 split
 ·simp only []
  generalize hx : (Instr.takeDeferred _).runT p w #[] = x
  obtain ⟨r, es⟩ := x
  have h2 := zx0 hx
  rw [zp9]
  cases r <;> first | exact h2 | trivial
 ·exact yu2 _ _ _ _ _ _
 ·split
  ·trivial
  ·split
   ·trivial
   ·split
    ·exact Nat.le_refl _
    ·split
     ·split
      ·exact Nat.le_refl _
      ·split
       ·rename_i h; exact ze8 h
       ·trivial
       ·trivial
     ·split
      ·exact yk4 _ _ _ _
      ·trivial
  ·split
   ·exact ya2 _ _ _ _ _ _ _
   ·simp only []
    generalize hx : (results _ _).runT p w #[] = x
    obtain ⟨r, es⟩ := x
    have h2 := zx0 hx
    rw [zp9]
    cases r with
    | ok v w' => exact zo2 h2 (ya2 _ _ _ _ _ _ _)
    | halt n w' => cases n <;> trivial
theorem early_up (p : Program) (fr : Frame) (cs : List Frame) (dy : Option Dying) (g : Nat) (w : World) : up w.drawn (early p fr cs dy g w) := by
 unfold early
 simp only []
 repeat' first
  | exact Nat.le_refl _
  | trivial
  | exact ze8 (by assumption)
  | split
 all_goals (rename_i w' h1 x c e h2; exact (ze8 h1 : w.drawn ≤ w'.drawn))
theorem apply_up (p : Program) (b : Bool) (fr : Frame) (cs : List Frame) (dy : Option Dying) (s : Sem Next) (w : World) : up w.drawn (stepG.apply p b fr cs dy s w) := by
 have h0 : ∃ r es, (if b then s.runT p w #[] else (s.run p w, #[])) = (r, es) ∧ w.drawn ≤ (wOf r).drawn := by
  cases b
  ·exact ⟨_, _, rfl, run_le p s w⟩
  ·exact ⟨_, _, rfl, zx0 rfl⟩
 obtain ⟨r, es, h1, h2⟩ := h0
 unfold stepG.apply
 dsimp only
 rw [h1]
 rw [zp9]
 clear h1
 dsimp only
 revert h2
 split <;> intro h2 <;> first | exact h2 | trivial | exact zo2 h2 (ys3 _ _ _ _ _ _) | exact zo2 h2 (ya1 _ _ _) | exact zo2 h2 (early_up _ _ _ _ _ _) | (split <;> first | exact h2 | trivial | exact zo2 h2 (ya1 _ _ _) | (split <;> first | exact h2 | trivial))
theorem oper_up (p : Program) (b : Bool) (fr : Frame) (cs : List Frame) (dy : Option Dying) (w : World) : up w.drawn (stepG.oper p b fr cs dy w) := by
 unfold stepG.oper
 split
 ·trivial
 ·split <;> exact apply_up ..
theorem up_elim {d : Nat} {α : Type} (o : Option α) (a : GStep) (f : α → GStep) (ha : up d a) (hf : ∀ x, up d (f x)) : up d (o.elim a f) := by
 cases o
 ·exact ha
 ·exact hf _
theorem leave_up (p : Program) (main : Bool) (fr : Frame) (cs : List Frame) (dy : Option Dying) (w : World) (l : Nat) (jump : Option Code) (why : Outcome) : up w.drawn (match (Instr.endRound l jump).runT p w #[] with
  | (r, es) => GStep.after (seen p fr.fn es) (match r with
   | .ok v w => doReturn p main fr cs dy v w
   | .halt _ w => .ended why w)) := by
 generalize hx : (Instr.endRound l jump).runT p w #[] = x
 obtain ⟨r, es⟩ := x
 have h2 := zx0 hx
 dsimp only
 rw [zp9]
 cases r with
 | ok v w' => exact zo2 h2 (ya2 _ _ _ _ _ _ _)
 | halt n w' => trivial
set_option maxHeartbeats 2000000 in
theorem exec_up (p : Program) (main b : Bool) (fr : Frame) (cs : List Frame) (dy : Option Dying) (w : World) : up w.drawn (stepG.exec p main b fr cs dy w) := by
 unfold stepG.exec
 dsimp only
 repeat' first
  | with_reducible exact apply_up ..
  | with_reducible exact oper_up ..
  | with_reducible exact leave_up ..
  | with_reducible refine up_elim _ _ _ ?_ (fun _ => ?_)
  | split
 all_goals first
  | trivial
  | exact Nat.le_refl _
  | exact (zp9 _ _ _).2 (zo2 (runT_ok1 (by assumption)) (ya2 ..))
  | exact (zp9 _ _ _).2 (zo2 (runT_ok1 (by assumption)) (apply_up ..))
  | exact (zp9 _ _ _).2 (runT_ok1 (by assumption))
  | exact (zp9 _ _ _).2 (runT_halt1 (by assumption))
  | exact ze8 (by assumption)
theorem stepG_up (p : Program) (main : Bool) (g : Goroutine) (w : World) (b : Bool) : up w.drawn (stepG p main g w b) := by
 obtain ⟨fr, callers, status, dying, offers⟩ := g
 simp only [stepG]
 split
 ·exact die_up ..
 ·exact exec_up ..
 ·exact unwind_up ..
def nextD : Stepped → Nat | .next m => m.world.drawn | _ => 0
theorem yx3 (p : Program) (rest : Rest) (gs : Array Goroutine) (i : Nat) (g : Goroutine) (cases : Array CommCase) (blocking : Bool)
  (shape : CommShape) (w : World) (m' : Machine) (h : (communicate p rest gs i g cases blocking shape w).1 = .next m') : w.drawn ≤ m'.world.drawn := by
 have hw : ∀ w', waitingAt rest cases w = some w' → w'.drawn = w.drawn := fun w' hh => by
  unfold waitingAt at hh
  repeat' first
   | (simp at hh; done)
   | (simp only [Option.some.injEq] at hh; subst hh; rfl)
   | split at hh
 unfold communicate at h
 simp only [] at h
 repeat' first
  | (simp at h; done)
  | (simp only [Stepped.next.injEq] at h; subst h; exact Nat.le_refl _)
  | (simp only [Stepped.next.injEq] at h; subst h; exact ze8 (by assumption))
  | (simp only [Stepped.next.injEq] at h; subst h; exact Nat.le_of_eq (hw _ (by assumption)).symm)
  | split at h
 all_goals (
  have hd : _ = m'.world.drawn := congrArg nextD h
  dsimp only [nextD] at hd
  rw [← hd]
  first
   | exact ze8 (by assumption)
   | exact Nat.le_trans (ze8 (by assumption)) (run_halt (by assumption))
   | exact Nat.le_trans (ze8 (by assumption)) (ze8 (by assumption)))
theorem look_up (p : Program) (gs : Array Goroutine) (rest : Rest) (w : World) (m' : Machine) (h : look p gs rest w = .next m') : w.drawn ≤ m'.world.drawn := by
 unfold look at h
 simp only [] at h
 repeat' first
  | (simp at h; done)
  | (simp only [Stepped.next.injEq] at h; subst h; rename_i h1; exact ze8 h1)
  | split at h
 all_goals (
  have hd : _ = m'.world.drawn := congrArg nextD h
  dsimp only [nextD] at hd
  rw [← hd]
  first
   | exact ze8 (by assumption)
   | exact Nat.le_trans (ze8 (by assumption)) (run_halt (by assumption))
   | exact Nat.le_trans (ze8 (by assumption)) (ze8 (by assumption)))
theorem serve_up (p : Program) (m m' : Machine) (k : Nat) (h : serve p m k = .next m') : m.world.drawn ≤ m'.world.drawn := by
 unfold serve at h
 simp only [] at h
 repeat' first
  | (simp at h; done)
  | (simp only [Stepped.next.injEq] at h; subst h; exact Nat.le_refl _)
  | split at h
theorem endThrow_go {fr : Frame} {m : String} {w w' : World} {g : Goroutine} {es : Array Event} (h : endThrow fr m w = .go g w' es) : w'.drawn = w.drawn := by
 unfold endThrow dieOf at h
 simp only [] at h
 injection h with h1 h2 h3
 rw [h2]
theorem timerOp_up (m m' : Machine) (op : TimerOp) (v : Value) (h : timerOp m op = .ok (v, m')) : m'.world.drawn = m.world.drawn := by
 have hr : ∀ (m : Machine) k t a b, (retime m k t a b).2.world.drawn = m.world.drawn := fun m k t a b => by
  unfold retime drain
  simp only []
  repeat' first | rfl | split
 have ho : ∀ a m', timerOp.opened m a = some m' → m'.world.drawn = m.world.drawn := fun a m' hh => by
  unfold timerOp.opened at hh
  repeat' first
   | (simp at hh; done)
   | (simp only [Option.some.injEq] at hh; subst hh; rfl)
   | split at hh
 unfold timerOp at h
 cases op with
 | new t =>
  simp only [] at h
  repeat' first
   | (simp at h; done)
   | (simp only [Except.ok.injEq, Prod.mk.injEq] at h; obtain ⟨_, rfl⟩ := h; rfl)
   | split at h
 | stop a =>
  simp only [timerOp.named] at h
  split at h
  ·simp only [Except.ok.injEq] at h
   have := congrArg (fun x => x.2.world.drawn) h
   dsimp only at this
   rw [← this]; exact hr ..
  ·simp at h
 | reset a b c =>
  simp only [] at h
  split at h
  ·rename_i m2 h2
   simp only [timerOp.named] at h
   split at h
   ·simp only [Except.ok.injEq] at h
    have := congrArg (fun x => x.2.world.drawn) h
    dsimp only at this
    rw [← this, hr, ho _ _ h2]
   ·simp at h
  ·simp at h
 | deadline a b c d =>
  simp only [Except.ok.injEq, Prod.mk.injEq] at h
  obtain ⟨_, rfl⟩ := h
  rfl
theorem runM_up (p : Program) (m m' : Machine) (i : Nat) (b : Bool) (h : (runT p m i b).1 = .next m') : m.world.drawn ≤ m'.world.drawn := by
 simp only [runT] at h
 revert h
 generalize m.gs.swapAt! _ _ = gg
 have hs := stepG_up p (i == 0) gg.1 m.world b
 revert hs
 generalize stepG p _ gg.1 m.world b = s
 intro hs h
 cases s <;> simp only [] at h <;> simp only [up] at hs
 all_goals first
  | (simp at h; done)
  | exact Nat.le_trans hs (yx3 _ _ _ _ _ _ _ _ _ _ h)
  | exact Nat.le_trans hs (look_up _ _ _ _ _ h)
  | (simp only [Stepped.next.injEq] at h; subst h; exact hs)
  | (repeat' first
    | (simp at h; done)
    | (simp only [Stepped.next.injEq] at h; subst h; exact hs)
    | (simp only [Stepped.next.injEq] at h; subst h; rename_i h2; exact Nat.le_trans hs (Nat.le_of_eq (timerOp_up _ _ _ _ h2).symm))
    | (simp only [Stepped.next.injEq] at h; subst h; rename_i h2; exact Nat.le_trans hs (Nat.le_of_eq (endThrow_go h2).symm))
    | split at h)
def moveD : Move → Nat | .goroutine m _ => m.world.drawn | .machine s _ => nextD s
theorem yd6 (p : Program) (m m' : Machine) (ops : Array MemOp) (h : askOn p m = .machine (.next m') ops) : m.world.drawn ≤ m'.world.drawn := by
 unfold askOn at h
 simp only [] at h
 repeat' first
  | (simp at h; done)
  | (simp only [Move.machine.injEq] at h; exact Nat.le_trans (ze8 (by assumption)) (serve_up _ _ _ _ h.1))
  | (simp only [Move.machine.injEq, Stepped.next.injEq] at h; obtain ⟨rfl, _⟩ := h; exact ze8 (by assumption))
  | (simp only [Move.machine.injEq, Stepped.next.injEq] at h; obtain ⟨rfl, _⟩ := h; exact Nat.le_trans (ze8 (by assumption)) (ze8 (by assumption)))
  | split at h
 all_goals (
  have hd : _ = m'.world.drawn := congrArg moveD h
  dsimp only [moveD, nextD, Machine.advanceTo] at hd
  have e0 := ze8 (show Sem.run p (if _ then _ else _) m.world = _ by assumption)
  try have e1 := ze8 (show Sem.run p (choose (.extern "clock.wait" _)) _ = _ by assumption)
  omega)
theorem zw7 (p : Program) (m m' : Machine) (i : Nat) (h : askOn p m = .goroutine m' i) : m.world.drawn ≤ m'.world.drawn := by
 unfold askOn at h
 simp only [] at h
 repeat' first
  | (simp at h; done)
  | split at h
 all_goals (
  have hd : _ = m'.world.drawn := congrArg moveD h
  dsimp only [moveD, nextD, Machine.advanceTo] at hd
  have e0 := ze8 (show Sem.run p (if _ then _ else _) m.world = _ by assumption)
  have e1 := ze8 (show Sem.run p (choose (.sched _)) _ = _ by assumption)
  try have e2 := ze8 (show Sem.run p (choose (.extern "clock.wait" _)) _ = _ by assumption)
  try have e3 := ze8 (show Sem.run p (choose (.extern "sched.slice" _)) _ = _ by assumption)
  try simp only [Machine.advanceTo] at *
  omega)
theorem ask_up (p : Program) (m m' : Machine) (ops : Array MemOp) (h : ask p m = .machine (.next m') ops) : m.world.drawn ≤ m'.world.drawn := by
 unfold ask at h
 repeat' first
  | (simp at h; done)
  | exact yd6 p m m' ops h
  | exact Nat.le_trans (ze8 (by assumption)) (yd6 p _ m' ops h)
  | exact Nat.le_trans (ze8 (by assumption)) (Nat.le_trans (look_up _ _ _ _ _ (by assumption)) (yd6 p _ m' ops h))
  | split at h
 all_goals (
  rename_i hn
  simp only [Move.machine.injEq] at h
  exact (hn _ h.1).elim)
theorem yx4 (p : Program) (m m' : Machine) (i : Nat) (h : ask p m = .goroutine m' i) : m.world.drawn ≤ m'.world.drawn := by
 unfold ask at h
 repeat' first
  | (simp at h; done)
  | exact zw7 p m m' i h
  | exact Nat.le_trans (ze8 (by assumption)) (zw7 p _ m' i h)
  | exact Nat.le_trans (ze8 (by assumption)) (Nat.le_trans (look_up _ _ _ _ _ (by assumption)) (zw7 p _ m' i h))
  | split at h
theorem move_up (p : Program) (m m' : Machine) (ops : Array MemOp) (h : move p m = .machine (.next m') ops) : m.world.drawn ≤ m'.world.drawn := by
 unfold move at h
 repeat' first
  | (simp at h; done)
  | (have h3 := ask_up p _ m' ops h; exact h3)
  | split at h
theorem yu6 (p : Program) (m m' : Machine) (i : Nat) (h : move p m = .goroutine m' i) : m.world.drawn ≤ m'.world.drawn := by
 unfold move at h
 repeat' first
  | (simp at h; done)
  | (have h3 := yx4 p _ m' i h; exact h3)
  | (simp only [Move.goroutine.injEq] at h; obtain ⟨rfl, _⟩ := h; exact Nat.le_refl _)
  | split at h
theorem step_up (p : Program) (m m' : Machine) (h : step p m = .next m') : m.world.drawn ≤ m'.world.drawn := by
 simp only [step, stepT] at h
 split at h
 ·rename_i m2 i hm
  exact Nat.le_trans (yu6 p m m2 i hm) (runM_up p m2 m' i _ h)
 ·rename_i s ops hm
  simp only [] at h
  subst h
  exact move_up p m m' ops hm
theorem runN_up (p : Program) : ∀ (n : Nat) (m m' : Machine), runN p n m = .next m' → m.world.drawn ≤ m'.world.drawn := by
 intro n
 induction n with
 | zero => intro m m' h; simp only [runN, Stepped.next.injEq] at h; subst h; exact Nat.le_refl _
 | succ n ih =>
  intro m m' h
  simp only [runN] at h
  split at h
  ·rename_i m2 h2
   exact Nat.le_trans (step_up p m m2 h2) (ih _ _ h)
  ·rename_i e h2
   exact (h2 _ h).elim
theorem calls_up {P : Program} {f : FuncId} {args : Array Value} {w : World} {R : Ending → World → Prop} (hR : ∀ e w', R e w' → ∃ v, e = .returned v) (h : Calls P f args w R) : Calls P f args w fun e w' => R e w' ∧ w.drawn ≤ w'.drawn := by
 intro cs
 obtain ⟨e, w', fr, hr, hc, h1, h2⟩ := h cs
 obtain ⟨v, rfl⟩ := hR e w' hr
 obtain ⟨n, hn⟩ := hc
 exact ⟨_, w', fr, ⟨hr, runN_up P n _ _ hn⟩, ⟨n, hn⟩, h1, h2⟩
end Drw
end Go.Proofs.YtfdbokipgofcdaaGreatDoor

namespace Go.Proofs.YtfdbokipgofcdaaGreatDoor
open Go.Shelf
namespace yf5
def ren : Go.Shelf.Ren := ⟨fun | 6 => 97 | 15 => 114 | 14 => 113 | 28 => 141 | 29 => 142 | 20 => 133 | 21 => 134 | 22 => 135 | 23 => 136 | 24 => 137 | 25 => 138 | 26 => 139 | 27 => 140 | 46 => 152 | 47 => 153 | 48 => 154 | 49 => 155 | 50 => 156 | 57 => 160 | n => n, fun | 22 => 34 | 24 => 89 | 25 => 136 | 3 => 3 | 39 => 96 | 0 => 0 | 53 => 186 | 55 => 90 | 4 => 4 | 46 => 179 | 45 => 178 | 50 => 183 | 5 => 5 | 9 => 9 | 66 => 195 | 70 => 199 | 76 => 202 | 77 => 203 | n => n, fun n => n⟩
theorem lay : SlLaysF0.n6 Tryz.prog ren where
 mixed := by kernel_rfl
 f6 := ⟨ "slices.SortFunc[[]loop.example/g00449/impl.Node,loop.example/g00449/impl.Node]", by decide, Tryz.func97.trans (congrArg some (by kernel_rfl))⟩
 f14 := ⟨ "slices.pdqsortCmpFunc[loop.example/g00449/impl.Node]", by decide, Tryz.func113.trans (congrArg some (by kernel_rfl))⟩
 f15 := Tryz.func114.trans (congrArg some (by kernel_rfl))
 f20 := ⟨ "slices.insertionSortCmpFunc[loop.example/g00449/impl.Node]", by decide, Tryz.func133.trans (congrArg some (by kernel_rfl))⟩
 f21 := ⟨ "slices.heapSortCmpFunc[loop.example/g00449/impl.Node]", by decide, Tryz.func134.trans (congrArg some (by kernel_rfl))⟩
 f22 := ⟨ "slices.breakPatternsCmpFunc[loop.example/g00449/impl.Node]", by decide, Tryz.func135.trans (congrArg some (by kernel_rfl))⟩
 f23 := ⟨ "slices.choosePivotCmpFunc[loop.example/g00449/impl.Node]", by decide, Tryz.func136.trans (congrArg some (by kernel_rfl))⟩
 f24 := ⟨ "slices.reverseRangeCmpFunc[loop.example/g00449/impl.Node]", by decide, Tryz.func137.trans (congrArg some (by kernel_rfl))⟩
 f25 := ⟨ "slices.partialInsertionSortCmpFunc[loop.example/g00449/impl.Node]", by decide, Tryz.func138.trans (congrArg some (by kernel_rfl))⟩
 f26 := ⟨ "slices.partitionEqualCmpFunc[loop.example/g00449/impl.Node]", by decide, Tryz.func139.trans (congrArg some (by kernel_rfl))⟩
 f27 := ⟨ "slices.partitionCmpFunc[loop.example/g00449/impl.Node]", by decide, Tryz.func140.trans (congrArg some (by kernel_rfl))⟩
 f28 := Tryz.func141.trans (congrArg some (by kernel_rfl))
 f29 := Tryz.func142.trans (congrArg some (by kernel_rfl))
 f46 := ⟨ "slices.siftDownCmpFunc[loop.example/g00449/impl.Node]", by decide, Tryz.func152.trans (congrArg some (by kernel_rfl))⟩
 f47 := Tryz.func153.trans (congrArg some (by kernel_rfl))
 f48 := Tryz.func154.trans (congrArg some (by kernel_rfl))
 f49 := ⟨ "slices.medianAdjacentCmpFunc[loop.example/g00449/impl.Node]", by decide, Tryz.func155.trans (congrArg some (by kernel_rfl))⟩
 f50 := ⟨ "slices.medianCmpFunc[loop.example/g00449/impl.Node]", by decide, Tryz.func156.trans (congrArg some (by kernel_rfl))⟩
 f57 := ⟨ "slices.order2CmpFunc[loop.example/g00449/impl.Node]", by decide, Tryz.func160.trans (congrArg some (by kernel_rfl))⟩
 t0 := Tryz.underlying0
 a0 := Tryz.isAgg0
 z0 := Tryz.sizeOf0
 v0 := Tryz.zeroValue0
 t3 := Tryz.underlying3
 a3 := Tryz.isAgg3
 z3 := Tryz.sizeOf3
 v3 := Tryz.zeroValue3
 t4 := Tryz.underlying4
 a4 := Tryz.isAgg4
 z4 := Tryz.sizeOf4
 v4 := Tryz.zeroValue4
 t5 := Tryz.underlying5
 a5 := Tryz.isAgg5
 z5 := Tryz.sizeOf5
 v5 := Tryz.zeroValue5
 t9 := Tryz.underlying9
 a9 := Tryz.isAgg9
 z9 := Tryz.sizeOf9
 v9 := Tryz.zeroValue9
 t22 := Tryz.underlying34
 a22 := Tryz.isAgg34
 z22 := Tryz.sizeOf34
 v22 := Tryz.zeroValue34
 t25 := Tryz.underlying136
 a25 := Tryz.isAgg136
 z25 := Tryz.sizeOf136
 v25 := Tryz.zeroValue136
 t39 := Tryz.underlying96
 a39 := Tryz.isAgg96
 z39 := Tryz.sizeOf96
 v39 := Tryz.zeroValue96
 t45 := Tryz.underlying178
 a45 := Tryz.isAgg178
 z45 := Tryz.sizeOf178
 v45 := Tryz.zeroValue178
 t46 := Tryz.underlying179
 a46 := Tryz.isAgg179
 z46 := Tryz.sizeOf179
 v46 := Tryz.zeroValue179
 t50 := Tryz.underlying183
 a50 := Tryz.isAgg183
 z50 := Tryz.sizeOf183
 v50 := Tryz.zeroValue183
 t53 := Tryz.underlying186
 a53 := Tryz.isAgg186
 z53 := Tryz.sizeOf186
 v53 := Tryz.zeroValue186
 t55 := Tryz.underlying90
 a55 := Tryz.isAgg90
 z55 := Tryz.sizeOf90
 v55 := Tryz.zeroValue90
 t66 := Tryz.underlying195
 a66 := Tryz.isAgg195
 z66 := Tryz.sizeOf195
 v66 := Tryz.zeroValue195
 t70 := Tryz.underlying199
 a70 := Tryz.isAgg199
 z70 := Tryz.sizeOf199
 v70 := Tryz.zeroValue199
 t76 := Tryz.underlying202
 a76 := Tryz.isAgg202
 z76 := Tryz.sizeOf202
 v76 := Tryz.zeroValue202
 t77 := Tryz.underlying203
 a77 := Tryz.isAgg203
 z77 := Tryz.sizeOf203
 v77 := Tryz.zeroValue203
theorem agg : ∀ w, (isAgg (ren.t 24)).run Tryz.prog w = .ok true w := Tryz.isAgg89
theorem size : ∀ w, (Go.sizeOf (ren.t 24)).run Tryz.prog w = .ok 5 w := Tryz.sizeOf89
end yf5
end Go.Proofs.YtfdbokipgofcdaaGreatDoor

namespace Go.Proofs.YtfdbokipgofcdaaGreatDoor
open Go.RowKit Go.Sort
namespace WOrder
theorem grow_of {w w' : World} (h : Go.RowKit.Below w.heap.size w w') (hd : w.drawn ≤ w'.drawn) : ∃ q os', w' = grow (w.drewN q) os' := by
 obtain ⟨⟨d, os⟩, e⟩ := regrown_of_below h
 have e2 : w'.drawn = d := by rw [e]; rfl
 refine ⟨d - w.drawn, os, ?_⟩
 rw [e]
 show grow (redrawn w d) os = grow (w.drewN (d - w.drawn)) os
 unfold redrawn World.drewN
 rw [show w.drawn + (d - w.drawn) = d by omega]
abbrev Rn := {n : Pl.Nd // Pl.za5 n.path = true}
def cf (x y : Rn) : Int := if Pl.ltP x.1.path y.1.path then -1 else if Pl.ltP y.1.path x.1.path then 1 else 0
theorem lt_cf (x y : Rn) : ltOf cf x y = Pl.ltP x.1.path y.1.path := by
 unfold ltOf cf
 cases Pl.ltP x.1.path y.1.path
 ·cases Pl.ltP y.1.path x.1.path <;> rfl
 ·rfl
theorem lt_anti {x y : Rn} (h : x.1.path ≠ y.1.path) : Pl.ltP x.1.path y.1.path = !Pl.ltP y.1.path x.1.path := Pl.two_less x.2 y.2 h
theorem lt_irr (x : Rn) : Pl.ltP x.1.path x.1.path = false := by rw [Pl.zi6 x.2 x.2]; exact Pl.zl6 _
theorem lt_tr {x y z : Rn} (h1 : Pl.ltP x.1.path y.1.path = true) (h2 : Pl.ltP y.1.path z.1.path = true) : Pl.ltP x.1.path z.1.path = true := by
 rw [Pl.zi6 x.2 y.2] at h1
 rw [Pl.zi6 y.2 z.2] at h2
 rw [Pl.zi6 x.2 z.2]
 exact Pl.zm9 _ _ _ h1 h2
theorem swo : SWO (ltOf cf) where
 irrefl x := by rw [lt_cf]; exact lt_irr x
 trans x y z h1 h2 := by rw [lt_cf] at *; exact lt_tr h1 h2
 ntrans x y z h1 h2 := by
  rw [lt_cf] at *
  cases h : Pl.ltP x.1.path z.1.path
  ·rfl
  ·exfalso
   by_cases e : x.1.path = y.1.path
   ·rw [← e, h] at h2; cases h2
   ·have a := lt_anti e
    rw [h1] at a
    have b : Pl.ltP y.1.path x.1.path = true := by
     cases hb : Pl.ltP y.1.path x.1.path
     ·rw [hb] at a; cases a
     ·rfl
    rw [lt_tr b h] at h2
    cases h2
def cfP (p q : ByteArray) : Int := if Pl.ltP p q then -1 else if Pl.ltP q p then 1 else 0
set_option maxRecDepth 100000 in
theorem order_path (p q : ByteArray) (hp : Pl.za5 p = true) (hq : Pl.za5 q = true) (w : World) :
  Calls Tryz.prog 99 #[.string p, .string q] w fun e w' => e = .returned (.int .i64 (cfP p q)) ∧ Go.RowKit.Below w.heap.size w w' := by
 have h1 := hide (fun W => WLess.less_any p q W (by have := Pl.zi7 hp; omega) (by have := Pl.zi7 hq; omega))
 have h2 := hide (fun W => WLess.less_any q p W (by have := Pl.zi7 hq; omega) (by have := Pl.zi7 hp; omega))
 change Hid (∀ W, Calls Tryz.prog _ _ W fun e w' => e = .returned (.bool (Pl.ltP p q)) ∧ _) at h1
 change Hid (∀ W, Calls Tryz.prog _ _ W fun e w' => e = .returned (.bool (Pl.ltP q p)) ∧ _) at h2
 unfold cfP
 generalize Pl.ltP p q = r1 at h1 ⊢
 generalize Pl.ltP q p = r2 at h2 ⊢
 clear hp hq
 cases r1
 ·go_enter Tryz.func99, Tryz.ntmps99
  go_wp2_with fail
  refine (za h1 _).mono ?_
  rintro e w1 ⟨rfl, b1⟩
  clear h1
  go_wp2_with fail
  refine (za h2 _).mono ?_
  rintro e w3 ⟨rfl, b3⟩
  have b4 := b1.trans (b3.mono b1.size)
  clear b1 b3 h2
  cases r2
  ·go_wp2
   go_ret
   exact ⟨rfl, b4⟩
  ·go_wp2
   go_ret
   exact ⟨rfl, b4⟩
 ·clear h2
  go_enter Tryz.func99, Tryz.ntmps99
  go_wp2_with fail
  refine (za h1 _).mono ?_
  rintro e w1 ⟨rfl, b1⟩
  clear h1
  go_wp2
  go_ret
  exact ⟨rfl, b1⟩
set_option maxRecDepth 100000 in
theorem order_any (x y : Rn) (w : World) :
  Calls Tryz.prog 98 #[.agg x.1.cs.toArray, .agg y.1.cs.toArray] w fun e w' => e = .returned (.int .i64 (cf x y)) ∧ Go.RowKit.Below w.heap.size w w' := by
 have h1 := hide (fun W => order_path x.1.path y.1.path x.2 y.2 W)
 have e1 : cf x y = cfP x.1.path y.1.path := rfl
 rw [e1]
 generalize cfP x.1.path y.1.path = r at h1 ⊢
 obtain ⟨⟨p, k, d, t, m⟩, hx⟩ := x
 obtain ⟨⟨p', k', d', t', m'⟩, hy⟩ := y
 simp only [Pl.Nd.cs] at h1 ⊢
 have b0 : Go.RowKit.Below w.heap.size w ((w.alloc (.cells #[.string p, .int .i64 k, .string d, .int .i64 t, .int .i64 m] 89)).alloc (.cells #[.string p', .int .i64 k', .string d', .int .i64 t', .int .i64 m'] 89)) := ((Below.refl _ _).alloc (Nat.le_refl _) _).alloc (by simp) _
 clear hx hy e1
 go_enter Tryz.func98, Tryz.ntmps98
 go_wp2_with fail
 refine (za h1 _).mono ?_
 rintro e w1 ⟨rfl, b1⟩
 have b2 := b0.trans (b1.mono b0.size)
 clear b0 b1 h1
 go_wp2
 go_ret
 exact ⟨rfl, b2⟩
theorem cmp_lays (blk off size : Nat) (w : World) [Inhabited Rn] : CmpLays Tryz.prog 98 #[] (fun x : Rn => x.1.cs) 5 cf blk off size w := fun m os dk _ x y => by
 have h := Drw.calls_up (fun e w' (h : e = .returned (.int .i64 (cf x y)) ∧ _) => ⟨_, h.1⟩) (order_any x y (sortWorldK (fun x : Rn => x.1.cs) 5 w blk off m dk os))
 exact h.mono fun e w' ⟨⟨he, hb⟩, hd⟩ => ⟨he, grow_of hb hd⟩
theorem heap_sorted {α : Type} [Inhabited α] (enc : α → List Value) (w : World) (g n : Nat) (d : Array α) (os : Array Obj) (cur : Array Value) (T : TypeId) (hg : w.heap[g]? = some (.cells cur T (0, 0))) :
  (sortWorldK enc 5 w g 0 n d os).heap[g]? = some (.cells (putCells id 0 (flatK enc 5 d) cur) T (0, 0)) := by
 have hlt : g < w.heap.size := (Array.getElem?_eq_some_iff.1 hg).1
 unfold sortWorldK grow putRowK putRow mapBlock
 simp only [Array.getElem?_append, Array.size_modify]
 rw [if_pos (show g < (Sort.ahead w n).heap.size from hlt), Array.getElem?_modify, if_pos rfl]
 show Option.map _ (w.heap[g]?) = _
 rw [hg]
 rfl
theorem grown_sorted {α : Type} [Inhabited α] (enc : α → List Value) (w : World) (g n : Nat) (d : Array α) (os : Array Obj) : w.grownBy (sortWorldK enc 5 w g 0 n d os) (some g) := by
 refine ⟨rfl, rfl, rfl, ?_, fun j hj hne => ?_⟩
 ·unfold sortWorldK grow putRowK putRow mapBlock
  simp only [Array.size_append, Array.size_modify]
  exact Nat.le_add_right _ _
 ·have h : j ≠ g := fun e => hne (by rw [e])
  unfold sortWorldK grow putRowK putRow mapBlock
  simp only [Array.getElem?_append, Array.size_modify]
  rw [if_pos (show j < (Sort.ahead w n).heap.size from hj), Array.getElem?_modify, if_neg (fun e => h e.symm)]
  rfl
theorem flat_get (d : Array Rn) [Inhabited Rn] (t : Nat) (h : t < d.size * 5) : (flatK (fun x : Rn => x.1.cs) 5 d)[t]! = (Pl.zc5 (d.toList.map (·.1)))[t]! := by
 rw [get_flatK _ _ _ _ h]
 have hd : t / 5 < d.size := by omega
 have e : (d.toList.map (·.1))[t / 5]? = some (d[t / 5]!).1 := by
  rw [List.getElem?_map, Array.getElem?_toList, Array.getElem?_eq_getElem hd, getElem!_pos d _ hd]; rfl
 have h2 := Pl.yo0 _ _ _ e (t % 5) (by omega)
 rw [show t / 5 * 5 + t % 5 = t by omega] at h2
 rw [List.getElem!_eq_getElem?_getD, List.getElem!_eq_getElem?_getD, h2]
theorem sort_any (g cap B : Nat) (T : List Pl.Nd) (w : World) (hp : ∀ t ∈ T, Pl.za5 t.path = true) (hl : T.length ≤ 1048576) (hown : Mem.ownN w B (.slice (some ⟨g, 0, none⟩) T.length cap) T) :
  Calls Tryz.prog 97 #[.slice (some ⟨g, 0, none⟩) T.length cap, .func (.func 98) #[] #[]] w fun e w' => e = .returned (.tuple #[]) ∧
   ∃ S : List Pl.Nd, S.Perm T ∧ S.Pairwise (fun a b => Pl.ltP b.path a.path = false) ∧ Mem.ownN w' B (.slice (some ⟨g, 0, none⟩) T.length cap) S ∧ w.grownBy w' (some g) := by
 by_cases h0 : T = []
 ·subst h0
  refine Calls.mono (AnyF.slices_SortFunc_none (P := Tryz.prog) yf5.lay (some ⟨g, 0, none⟩) cap (.func (.func 98) #[] #[]) w) ?_
  rintro e w' ⟨he, rfl⟩
  exact ⟨he, [], List.Perm.refl _, List.Pairwise.nil, hown, ⟨rfl, rfl, rfl, Nat.le_refl _, fun _ _ _ => rfl⟩⟩
 obtain ⟨t0, ht0⟩ := List.exists_mem_of_ne_nil T h0
 letI : Inhabited Rn := ⟨⟨t0, hp t0 ht0⟩⟩
 rcases hown.2 with ⟨e, -⟩ | ⟨g', cap', cur, e, hb, hg, hc, hm, hsz, ht⟩
 ·cases e
 injection e with e1 e2 e3
 cases e1
 subst e3
 let d : Array Rn := (T.attach.map (fun t => (⟨t.1, hp t.1 t.2⟩ : Rn))).toArray
 have hd : d.toList.map (·.1) = T := by simp [d]
 have hds : d.size = T.length := by simp [d]
 have hcur : T.length * 5 ≤ cur.size := by rw [hsz]; exact Nat.mul_le_mul_right _ hc
 have hH : HoldsK (fun x : Rn => x.1.cs) 5 w g 0 d := by
  intro j hj
  rw [size_flatK, hds] at hj
  refine ⟨?_, Mem.zi8 hg⟩
  rw [cell_of_row w g _ cur _ (0, 0) hg, Nat.zero_add, flat_get d j (by omega), hd, id_eq]
  have h1 : (Pl.zc5 T)[j]? = cur[j]? := by rw [← ht, List.getElem?_take_of_lt (by omega), Array.getElem?_toList]
  rw [← h1, List.getElem!_eq_getElem?_getD, List.getElem?_eq_getElem (by rw [Pl.zk9]; omega)]
  rfl
 have hcon := AnyQ.slices_SortFunc (P := Tryz.prog) yf5.lay 5 yf5.agg yf5.size (fun x : Rn => x.1.cs) (fun _ => rfl) (fun x => Mem.zk2 x.1) cf swo 98 #[] g 0 cap d w (enters_of Tryz.func98 (by kernel_rfl) rfl) (cmp_lays g 0 d.size w) hH (Array.getElem?_eq_some_iff.1 hg).1 (by omega)
 rw [hds] at hcon
 refine Calls.mono hcon ?_
 rintro e w' ⟨he, d', n, os, hperm, hsort, rfl⟩
 have hs' : d'.size = T.length := hperm.1.trans hds
 refine ⟨he, d'.toList.map (·.1), ?_, ?_, ?_, grown_sorted _ w g n d' os⟩
 ·have h := hperm.2.2
  rw [← hds] at h
  have e1 : (d'.extract 0 d.size).toList = d'.toList := by simp [hperm.1.symm]
  have e2 : (d.extract 0 d.size).toList = d.toList := by simp
  rw [e1, e2] at h
  have := h.map (·.1)
  rwa [hd] at this
 ·rw [List.pairwise_map, List.pairwise_iff_getElem]
  intro i j hi hj hij
  have h := hsort i j (Nat.zero_le _) hij (by simp at hj; omega)
  rw [lt_cf, getElem!_pos d' i (by simpa using hi), getElem!_pos d' j (by simpa using hj)] at h
  simpa using h
 ·have hlen : (d'.toList.map (·.1)).length = T.length := by simp [hs']
  refine ⟨?_, .inr ⟨g, cap, _, ?_, hb, heap_sorted _ w g n d' os cur _ hg, ?_, hm, ?_, ?_⟩⟩
  ·rw [Pl.zk9]
  ·rw [hlen]
  ·rw [hlen]; exact hc
  ·simp only [putCells, Array.size_mapIdx]; exact hsz
  ·rw [hlen]
   apply List.ext_getElem?
   intro j
   by_cases hj : j < T.length * 5
   ·rw [List.getElem?_take_of_lt hj, Array.getElem?_toList]
    have h1 : (flatK (fun x : Rn => x.1.cs) 5 d')[j]! = (Pl.zc5 (d'.toList.map (·.1)))[j]! := flat_get d' j (by omega)
    rw [putCells, Array.getElem?_mapIdx, Array.getElem?_eq_getElem (by omega)]
    simp only [Option.map_some, size_flatK, Nat.zero_le, true_and, Nat.zero_add, Nat.sub_zero, id_eq]
    rw [if_pos (by omega), h1, List.getElem!_eq_getElem?_getD, List.getElem?_eq_getElem (by rw [Pl.zk9, hlen]; omega)]
    rfl
   ·rw [List.getElem?_eq_none (by rw [List.length_take]; omega), List.getElem?_eq_none (by rw [Pl.zk9, hlen]; omega)]
end WOrder
end Go.Proofs.YtfdbokipgofcdaaGreatDoor

