/- Several texts of one claim in one file: WSg7, WPanicR, WChange, WInTree, WUnder, WFace, WUnderN, WCodeA, WNeed. -/
import Derived.Test.YtppmlbofhghghaaGreatDoorG03
import Derived.Test.YtppmlbofhghghaaGreatDoorG19
import Derived.Test.YtppmlbofhghghaaGreatDoorG25
import Derived.Test.YtppmlbofhghghaaGreatDoorG26
import Derived.Test.YtppmlbofhghghaaGreatDoorG27
import Derived.Test.YtppmlbofhghghaaGreatDoorG30
import Derived.Maps.Ext
import Derived.ChangeMaps
import Derived.Test.YtppmlbofhghghaaGreatDoorG02
import Derived.Test.YtppmlbofhghghaaGreatDoorProg
import Derived.Defers
import Derived.Recover
import Derived.Test.YtppmlbofhghghaaGreatDoorG10
import Derived.Laws.EntriesVeiled
import Derived.Test.YtppmlbofhghghaaGreatDoorG00
import Derived.WalkSpells
import Derived.Lib.OthersKept
import Derived.Laws.RangeAny
import Derived.Deep.QuietTactic
import Derived.BigQuiet
import Derived.Test.YtppmlbofhghghaaGreatDoorG09
import Derived.Test.YtppmlbofhghghaaGreatDoorG01
namespace Go.Proofs.YtppmlbofhghghaaGreatDoor
open Go.RowKit
namespace Mem
theorem zo0 {W : World} {B n cap : Nat} {a : Option Addr} {L : List Pl.Nd} (h : ownN W B (.slice a n cap) L) : zb1.okA W a cap L := by
 rcases h.2 with ⟨h0, h1⟩ | ⟨g, c, cur, hv, hb, hg, hc, _⟩
 ·injection h0 with e1 e2 e3
  exact .inl ⟨e1, e3, List.length_eq_zero_iff.1 h1⟩
 ·injection hv with e1 e2 e3
  subst e1 e3
  exact .inr ⟨g, 0, rfl, (Array.getElem?_eq_some_iff.1 hg).1, hc⟩
theorem zt0 {W : World} {a : Option Addr} {cap : Nat} {L : List Pl.Nd} (h : zb1.okA W a cap L) : okR a cap L := by
 rcases h with h | ⟨g, o, h, _⟩
 ·exact .inl h
 ·exact .inr ⟨g, o, h⟩
end Mem
namespace Mem
theorem yk1 {W : World} {Y : Nat} {x : Option Addr} {n c T : Nat} {a : Option Addr} {L : List Pl.Nd} (h : za1 W a L) (hY : Blk W Y #[.slice x n c] T) (v : Value) : za1 (W.setCell ⟨Y, 0, none⟩ v) a L := by
 intro i m hi
 obtain ⟨g, o, e, h1, h2, -⟩ := h i m hi
 subst e
 refine zg5 h ⟨Y, 0, none⟩ v ?_ i m hi
 intro e
 have e : Y = g := e
 subst e
 have h3 := hY.cell (o + i * 5)
 rw [h2] at h3
 cases hk : o + i * 5 with
 | zero => rw [hk] at h3; simp at h3
 | succ k => rw [hk] at h3; simp at h3
end Mem
namespace zh3
structure Sg (w W : World) (X : Nat) (va : Option Addr) (vc : Nat) (T : List Pl.Nd) : Prop where
 bel : Below w.heap.size w W
 out : Mem.Blk W w.heap.size #[.slice none 0 0, .int .i64 0] 26
 sig : Mem.Blk W X #[.slice va T.length vc] 50
 own : Mem.ownN W (w.heap.size + 1) (.slice va T.length vc) T
 lo : w.heap.size < X
theorem Sg.call {w W W' : World} {X : Nat} {va : Option Addr} {vc : Nat} {T : List Pl.Nd} (h : Sg w W X va vc T) (b : Below W.heap.size W W') : Sg w W' X va vc T :=
 ⟨h.bel.trans (b.mono h.bel.size), h.out.call b, h.sig.call b, Mem.ze3 h.own b, h.lo⟩
theorem Sg.far {w W : World} {X Y n c : Nat} {y : Option Addr} {va : Option Addr} {vc : Nat} {T : List Pl.Nd} (h : Sg w W X va vc T) (hY : Mem.Blk W Y #[.slice y n c] 50) (hlo : w.heap.size < Y ∧ X < Y) (v : Value) : Sg w (W.setCell ⟨Y, 0, none⟩ v) X va vc T := by
 refine ⟨h.bel.setCell (by show w.heap.size ≤ Y; omega) _, h.out.far _ _ (by show w.heap.size ≠ Y; omega), h.sig.far _ _ (by show X ≠ Y; omega), ⟨h.own.1, ?_⟩, h.lo⟩
 rcases h.own.2 with h0 | ⟨g, cp, cur, hv, hb, hg, rest⟩
 ·exact .inl h0
 ·refine .inr ⟨g, cp, cur, hv, hb, (heap_setCell_other _ _ _ _ ?_).trans hg, rest⟩
  intro e
  have e : g = Y := e
  subst e
  have h2 := hY
  unfold Mem.Blk at h2
  rw [hg] at h2
  injection h2 with h2
  injection h2 with h3 h4
  exact absurd h4 (by decide)
theorem zw9 (W : World) : Below W.heap.size W W.drew := ⟨rfl, rfl, rfl, Nat.le_refl _, fun _ _ => rfl⟩
theorem ye5 {W : World} {b o : Nat} {Is : List Pl.It} {L : List Pl.Nd} {K : Pl.Fx} (hv : Mem.zb3 W (some ⟨b, o, none⟩) Is) (hf : (Pl.Fx.cons L K .nil).flat = Is.map Pl.It.r) :
  ∃ x ∈ Is, x.t.L = Pl.zd5 L K ∧ W.cell? ⟨b, o + K.shape.level * 2 + 1, none⟩ = some x.t.val ∧ Mem.za1 W x.t.a x.t.L ∧ b < W.heap.size ∧ K.shape.level < Is.length := by
 have h1 := Pl.first_flat (.cons L K .nil) L K .nil rfl
 rw [hf, List.getElem?_map] at h1
 obtain ⟨x, h2, h3⟩ := Option.map_eq_some_iff.1 h1
 obtain ⟨⟨b', o', e, hb, -, h5⟩, h6⟩ := hv _ x h2
 injection e with e
 injection e with e1 e2
 subst e1 e2
 exact ⟨x, List.mem_of_getElem? h2, congrArg Prod.snd h3, h5, h6, hb, (List.getElem?_eq_some_iff.1 h2).1⟩
end zh3
end Go.Proofs.YtppmlbofhghghaaGreatDoor

namespace Go.Proofs.YtppmlbofhghghaaGreatDoor
open Go.RowKit
namespace zc3
abbrev pnc (c : Int) : List PanicEntry := [{ v := .iface 137 (.agg #[.int .i64 c]), recovered := false }]
set_option maxRecDepth 100000 in
theorem zk (c : Int) (w : World) : Calls Tryz.prog 72 #[.bool false, .int .i64 c] w fun e w' => e = .returned (.tuple #[]) ∧ w' = w := by
 go_enter Tryz.func72, Tryz.ntmps72
 go_wp2
 go_end0
 exact ⟨rfl, rfl⟩
set_option maxRecDepth 100000 in
theorem zk6 (c : Int) (w : World) : Calls Tryz.prog 72 #[.bool true, .int .i64 c] w fun e w' => e = .panicked (pnc c) ∧ w' = w := by
 go_enter Tryz.func72, Tryz.ntmps72
 go_wp2
 exact ⟨rfl, rfl, rfl⟩
set_option maxRecDepth 100000 in
theorem yi2 (c : Int) (w : World) : Calls Tryz.prog 111 #[.iface 137 (.agg #[.int .i64 c])] w fun e w' => e = .returned (.int .i64 c) ∧ w' = w.alloc (.cells #[.int .i64 c] 137) := by
 have hta : ∀ w : World, (Instr.typeAssert (.iface 137 (.agg #[.int .i64 c])) 20 137 true).run Tryz.prog w = .ok (.tuple #[.agg #[.int .i64 c], .bool true]) w := fun _ => by kernel_rfl
 go_enter Tryz.func111, Tryz.ntmps111
 go_wp2
 go_ret
 exact ⟨rfl, rfl⟩
structure Ends (W w' : World) (e : Ending) (c : Int) (O : List Pl.Nd) : Prop where
 out : (c = 0 ∧ ∃ v, e = .returned (.agg #[v]) ∧ Mem.ownN w' W.heap.size v O) ∨ (c ≠ 0 ∧ O = [] ∧ e = .panicked (pnc c))
 bel : Below W.heap.size W w'
end zc3
end Go.Proofs.YtppmlbofhghghaaGreatDoor

namespace Go.Proofs.YtppmlbofhghghaaGreatDoor
open Go.RowKit
namespace zc3
abbrev chg (n : Pl.Nd) (Fp Fl : FuncId) : Array Value := #[.string n.path, .int .i64 n.kind, .string n.data, .int .i64 n.time, .int .i64 n.mark, .func (.func Fp) #[] #[], .func (.func Fl) #[] #[]]
set_option linter.unusedSimpArgs false in
set_option maxRecDepth 100000 in
set_option maxHeartbeats 1000000 in
theorem long_no (n : Pl.Nd) (Fp Fl : FuncId) (w : World) (h1 : n.path.size ≤ 8000) (h2 : n.data.size ≤ 8000) :
  Calls Tryz.prog 73 #[.agg (chg n Fp Fl)] w fun e w' => e = .returned (.bool false) ∧ Below w.heap.size w w' := by
 have b0 : Below w.heap.size w (w.alloc (.cells (chg n Fp Fl) 68)) := (Below.refl _ _).alloc (Nat.le_refl _) _
 have t1 : ¬ (8000 : Int) < (n.path.size : Int) := by omega
 have t2 : ¬ (8000 : Int) < (n.data.size : Int) := by omega
 go_enter Tryz.func73, Tryz.ntmps73
 go_wp2
 go_ret
 exact ⟨rfl, b0⟩
set_option linter.unusedSimpArgs false in
set_option maxRecDepth 100000 in
set_option maxHeartbeats 1000000 in
theorem long_yes (n : Pl.Nd) (Fp Fl : FuncId) (w : World) (h : ¬ (n.path.size ≤ 8000 ∧ n.data.size ≤ 8000)) :
  Calls Tryz.prog 73 #[.agg (chg n Fp Fl)] w fun e w' => e = .returned (.bool true) ∧ Below w.heap.size w w' := by
 have b0 : Below w.heap.size w (w.alloc (.cells (chg n Fp Fl) 68)) := (Below.refl _ _).alloc (Nat.le_refl _) _
 by_cases t1 : (8000 : Int) < (n.path.size : Int)
 ·go_enter Tryz.func73, Tryz.ntmps73
  go_wp2
  go_ret
  exact ⟨rfl, b0⟩
 ·have t2 : (8000 : Int) < (n.data.size : Int) := by omega
  go_enter Tryz.func73, Tryz.ntmps73
  go_wp2
  go_ret
  exact ⟨rfl, b0⟩
end zc3
end Go.Proofs.YtppmlbofhghghaaGreatDoor

namespace Go.Proofs.YtppmlbofhghghaaGreatDoor
open Go.RowKit Go.Maps
namespace Pl
def chgC (L : List Nd) (n : Nd) (c : Int) : Int := if n.path.size ≤ 8000 ∧ n.data.size ≤ 8000 then (if zd1 L = true ∧ zb n = true then c else 1) else 2
def chgO (L : List Nd) (n : Nd) (c : Int) (O : List Nd) : List Nd := if chgC L n c = 0 then O else []
theorem ze7 {L : List Nd} (h : zd1 L = true) : za5 L = true := by
 rw [zd1, Bool.and_eq_true] at h
 exact h.1
end Pl
namespace zc3
structure Did (W w' : World) (e : Ending) (B : Nat) (c : Int) (O : List Pl.Nd) : Prop where
 out : (c = 0 ∧ e = .returned (.tuple #[]) ∧ ∃ N D' C, N ≤ 1000 ∧ w'.ownsMap Tryz.prog 9 MapN.elem B N D' ∧ MapN.Reads D' C ∧ C.Pairwise (fun a b => a.path ≠ b.path) ∧ O.Perm C ∧ O.Pairwise (fun a b => Pl.ltP a.path b.path = true) ∧ (∀ n ∈ C, Pl.za3 n.path = true ∧ n.data.size ≤ 1048576)) ∨
  (c ≠ 0 ∧ e = .panicked (pnc c))
 grown : W.grownBy w' (some B)
set_option linter.unusedSimpArgs false in
set_option maxRecDepth 100000 in
set_option maxHeartbeats 2000000 in
theorem inTree_any (n : Pl.Nd) (Fp Fl : FuncId) (a : Option Addr) (cap : Nat) (L : List Pl.Nd) (c : Int) (O : List Pl.Nd) (w : World) (hl : L.length ≤ 1048576) (hv : Mem.za1 w a L) (hok : ∀ n ∈ L, n.path.size ≤ 1048576 ∧ n.data.size ≤ 1048576)
  (r1 r2 r3 : TypeId) (x1 x2 x3 : Value) (hE : zc2.Errs w r1 r2 r3 x1 x2 x3)
  (hF : ∀ B W, (callFunc Fp #[.map (some B), n.val]).run Tryz.prog W = .ok (.enter Fp #[.map (some B), n.val]) W)
  (hP : Pl.zd1 L = true → Pl.zb n = true → ∀ B W, Below w.heap.size w W → w.heap.size ≤ B → W.ownsMap Tryz.prog 9 MapN.elem B 40 (MapN.mapOf L) → Calls Tryz.prog Fp #[.map (some B), n.val] W fun e w' => Did W w' e B c O) :
  Calls Tryz.prog 79 #[.agg (chg n Fp Fl), .agg #[.slice a L.length cap]] w fun e w' => Ends w w' e (Pl.chgC L n c) (Pl.chgO L n c O) := by
 have b0 : Below w.heap.size w (((w.alloc (.cells (chg n Fp Fl) 68)).alloc (.cells #[.slice a L.length cap] 50)).alloc (.cells #[.slice none 0 0] 50)) := (((Below.refl _ _).alloc (Nat.le_refl _) _).alloc (by simp) _).alloc (by simp; omega) _
 have A0 : Mem.Blk (((w.alloc (.cells (chg n Fp Fl) 68)).alloc (.cells #[.slice a L.length cap] 50)).alloc (.cells #[.slice none 0 0] 50)) w.heap.size (chg n Fp Fl) 68 := ((Mem.Blk.new _ _ _).alloc _).alloc _
 have T0 : Mem.Blk (((w.alloc (.cells (chg n Fp Fl) 68)).alloc (.cells #[.slice a L.length cap] 50)).alloc (.cells #[.slice none 0 0] 50)) (w.heap.size + 1) #[.slice a L.length cap] 50 := Mem.Blk.alloc (Mem.zg0 _ _ _) _
 have R0 : Mem.Blk (((w.alloc (.cells (chg n Fp Fl) 68)).alloc (.cells #[.slice a L.length cap] 50)).alloc (.cells #[.slice none 0 0] 50)) (w.heap.size + 1 + 1) #[.slice none 0 0] 50 := by
  have := Mem.zg0 (w.alloc (.cells (chg n Fp Fl) 68)) (.cells #[.slice a L.length cap] 50) (.cells #[.slice none 0 0] 50)
  rw [show (w.alloc (.cells (chg n Fp Fl) 68)).heap.size = w.heap.size + 1 by simp] at this
  exact this
 have hF2 : ∀ B W, (callFunc Fp #[.map (some B), .agg #[.string n.path, .int .i64 n.kind, .string n.data, .int .i64 n.time, .int .i64 n.mark]]).run Tryz.prog W = .ok (.enter Fp #[.map (some B), .agg #[.string n.path, .int .i64 n.kind, .string n.data, .int .i64 n.time, .int .i64 n.mark]]) W := hF
 clear hF
 have HPL := hide (fun W (b : Below w.heap.size w W) => yc2.zn0 a cap L W hl (Mem.za0 hv b) hok r1 r2 r3 x1 x2 x3 (hE.call b))
 have HNO := hide (fun W (b : Below w.heap.size w W) => zc2.yf6 a cap L W hl (Mem.za0 hv b) hok r1 r2 r3 x1 x2 x3 (hE.call b))
 have HRN := hide zk
 have HRY := hide zk6
 have HP := hide hP
 have H0 := hide (⟨b0, A0, T0, R0⟩ : _ ∧ _ ∧ _ ∧ _)
 clear hv hok hE hP b0 A0 T0 R0
 by_cases hs : n.path.size ≤ 8000 ∧ n.data.size ≤ 8000
 ·have HN := hide (fun W => zv9.zn0 n W (by omega) (by omega))
  have hlo := hide (fun W => long_no n Fp Fl W hs.1 hs.2)
  have hC : Pl.chgC L n c = if Pl.zd1 L = true ∧ Pl.zb n = true then c else 1 := by rw [Pl.chgC, if_pos hs]
  obtain ⟨b0, A0, T0, R0⟩ := za H0
  have c1 := T0.cell 0
  simp only [kA0, kA1] at c1
  have hn8 : n.path.size ≤ 8000 := hs.1
  clear H0 HRN HRY hs hl
  generalize hPB : Pl.zd1 L = P at HPL hC HP ⊢
  generalize hNB : Pl.zb n = N at HN hC HP ⊢
  have HRN := hide zk
  have HRY := hide zk6
  cases P
  ·have hC1 : Pl.chgC L n c = 1 := by rw [hC]; simp
   have hO : Pl.chgO L n c O = [] := by rw [Pl.chgO, hC1]; rfl
   rw [hC1, hO]
   clear hC hC1 hO HP HNO HN HRN hPB hNB
   go_enter Tryz.func79, Tryz.ntmps79
   go_wp2_with fail
   refine (za hlo _).mono ?_
   rintro e w1 ⟨rfl, b1⟩
   go_wp2_with fail
   refine (zk 2 _).mono ?_
   rintro e wR ⟨rfl, hwR⟩
   subst wR
   have bw1 := b0.trans (b1.mono b0.size)
   have T1 := T0.call b1
   have c1 := T1.cell 0
   simp only [kA0, kA1] at c1
   clear b0 b1 T0 A0 R0
   go_wp2_with fail
   refine (za HPL _ bw1).mono ?_
   rintro e w2 ⟨rfl, b2⟩
   have bw2 := bw1.trans (b2.mono bw1.size)
   clear bw1 b2 T1
   go_wp2_with fail
   refine (za HRY 1 _).mono ?_
   rintro e w3 ⟨rfl, rfl⟩
   go_wp2_with fail
   exact ⟨rfl, ⟨.inr ⟨by decide, rfl, rfl⟩, bw2⟩⟩
  ·cases N
   ·have hC1 : Pl.chgC L n c = 1 := by rw [hC]; simp
    have hO : Pl.chgO L n c O = [] := by rw [Pl.chgO, hC1]; rfl
    rw [hC1, hO]
    clear hC hC1 hO HP HNO HRN hPB hNB
    go_enter Tryz.func79, Tryz.ntmps79
    go_wp2_with fail
    refine (za hlo _).mono ?_
    rintro e w1 ⟨rfl, b1⟩
    go_wp2_with fail
    refine (zk 2 _).mono ?_
    rintro e wR ⟨rfl, hwR⟩
    subst wR
    have bw1 := b0.trans (b1.mono b0.size)
    have T1 := T0.call b1
    have A1 := A0.call b1
    have c1 := T1.cell 0
    simp only [kA0, kA1] at c1
    clear b0 b1 T0 A0 R0
    go_wp2_with fail
    refine (za HPL _ bw1).mono ?_
    rintro e w2 ⟨rfl, b2⟩
    have bw2 := bw1.trans (b2.mono bw1.size)
    have A2 := A1.call b2
    have d0 := A2.cell 0
    have d1 := A2.cell 1
    have d2 := A2.cell 2
    have d3 := A2.cell 3
    have d4 := A2.cell 4
    simp only [kA0, kA1, kA2] at d0 d1 d2 d3 d4
    clear bw1 b2 T1 A1
    go_wp2_with fail
    refine (za HN _).mono ?_
    rintro e w3 ⟨rfl, b3⟩
    have bw3 := bw2.trans (b3.mono bw2.size)
    clear bw2 b3
    go_wp2_with fail
    refine (za HRY 1 _).mono ?_
    rintro e w4 ⟨rfl, rfl⟩
    go_wp2_with fail
    exact ⟨rfl, ⟨.inr ⟨by decide, rfl, rfl⟩, bw3⟩⟩
   ·have hC1 : Pl.chgC L n c = c := by rw [hC]; simp
    have HO : Hid (Pl.chgO L n c O = if c = 0 then O else []) := by rw [Pl.chgO, hC1]; exact rfl
    rw [hC1]
    generalize Pl.chgO L n c O = O' at HO ⊢
    have htr : Pl.za5 L = true := by
     have := hPB
     rw [Pl.zd1, Bool.and_eq_true] at this
     exact this.1
    clear hC hC1 HRY hPB hNB
    go_enter Tryz.func79, Tryz.ntmps79
    go_wp2_with fail
    refine (za hlo _).mono ?_
    rintro e w1 ⟨rfl, b1⟩
    go_wp2_with fail
    refine (zk 2 _).mono ?_
    rintro e wR ⟨rfl, hwR⟩
    subst wR
    have bw1 := b0.trans (b1.mono b0.size)
    have T1 := T0.call b1
    have A1 := A0.call b1
    have R1 := R0.call b1
    have c1 := T1.cell 0
    simp only [kA0, kA1] at c1
    clear b0 b1 T0 A0 R0
    go_wp2_with fail
    refine (za HPL _ bw1).mono ?_
    rintro e w2 ⟨rfl, b2⟩
    have bw2 := bw1.trans (b2.mono bw1.size)
    have A2 := A1.call b2
    have T2 := T1.call b2
    have R2 := R1.call b2
    have d0 := A2.cell 0
    have d1 := A2.cell 1
    have d2 := A2.cell 2
    have d3 := A2.cell 3
    have d4 := A2.cell 4
    simp only [kA0, kA1, kA2] at d0 d1 d2 d3 d4
    clear bw1 b2 T1 A1 R1
    go_wp2_with fail
    refine (za HN _).mono ?_
    rintro e w3 ⟨rfl, b3⟩
    have bw3 := bw2.trans (b3.mono bw2.size)
    have A3 := A2.call b3
    have T3 := T2.call b3
    have R3 := R2.call b3
    have c1 := T3.cell 0
    simp only [kA0, kA1] at c1
    clear bw2 b3 A2 T2 R2 d0 d1 d2 d3 d4
    go_wp2_with fail
    refine (za HRN 1 _).mono ?_
    rintro e w4 ⟨rfl, rfl⟩
    go_wp2_with fail
    refine (za HNO _ bw3).mono ?_
    rintro e w5 ⟨h5, b5⟩
    rcases h5 with ⟨-, B, rfl, hB, hown⟩ | ⟨hx, -⟩
    ·have bw5 := bw3.trans (b5.mono bw3.size)
     have A5 := A3.call b5
     have R5 := R3.call b5
     have HOW := hide hown
     have hB1 : w.heap.size + 3 ≤ B := by have := R3.lt; omega
     have d0 := A5.cell 0
     have d1 := A5.cell 1
     have d2 := A5.cell 2
     have d3 := A5.cell 3
     have d4 := A5.cell 4
     have d5 := A5.cell 5
     simp only [kA0, kA1, kA2] at d0 d1 d2 d3 d4 d5
     have hp := hide (za HP trivial trivial B _ bw5 (by omega) (za HOW))
     clear bw3 b5 A3 T3 R3 c1 hB hown HOW HP HNO HPL HN HRN hlo
     go_wp2_with fail
     refine (za hp).mono ?_
     rintro e w6 ⟨h6, g6⟩
     have R6 := R5.grown g6 (fun e => by cases e; omega)
     have bw6 := bw5.grown g6 bw5.size (fun q hq => by cases hq; omega)
     clear hp A5 R5 bw5 g6 d0 d1 d2 d3 d4 d5
     rcases h6 with ⟨rfl, rfl, N, D', C, hN, hO6, hR6, hC6, hper, hri, hok6⟩ | ⟨hc, rfl⟩
     ·have hris := hide (zm9.any B N C O D' w6 hO6 hN hR6 hC6 hper hri hok6)
      have HO' : Hid (O' = O) := by have := za HO; rw [if_pos rfl] at this; exact this
      clear hN hO6 hR6 hC6 hper hri hok6 HO
      go_wp2_with fail
      refine (za hris).mono ?_
      rintro e w7 ⟨v, rfl, own, b7⟩
      obtain ⟨a', cap', rfl⟩ := Mem.za2 own
      have R7 := R6.call b7
      have bw7 := bw6.trans (b7.mono bw6.size)
      have hlt := R6.lt
      have OW := hide own
      have e0 := R7.cell 0
      have f0 := R7.fr 0
      simp only [kA0, kA1] at e0
      clear hris R6 bw6 b7 own
      go_wp2
      refine bodyPost_ret (v := .agg #[.slice a' O.length cap']) (by simp [results, Tryz.results79, go_sem, e0]) rfl ⟨.inl ⟨rfl, .slice a' O.length cap', rfl, ?_⟩, ?_⟩
      ·rw [za HO']
       exact Mem.zb4 (Mem.za8 (za OW) _ _ (by show w.heap.size + 1 + 1 < _; omega)) (by omega)
      ·exact bw7.setCell (by show w.heap.size ≤ w.heap.size + 1 + 1; omega) _
     ·have HO' : O' = [] := by have := za HO; rw [if_neg hc] at this; exact this
      go_wp2_with fail
      exact ⟨rfl, ⟨.inr ⟨hc, HO', rfl⟩, bw6⟩⟩
    ·exact absurd (htr.symm.trans hx) (by decide)
 ·have hC : Pl.chgC L n c = 2 := by rw [Pl.chgC, if_neg hs]
  have hO : Pl.chgO L n c O = [] := by rw [Pl.chgO, hC]; rfl
  rw [hC, hO]
  have hlo := hide (fun W => long_yes n Fp Fl W hs)
  obtain ⟨b0, A0, T0, R0⟩ := za H0
  go_enter Tryz.func79, Tryz.ntmps79
  go_wp2_with fail
  refine (za hlo _).mono ?_
  rintro e w1 ⟨rfl, b1⟩
  go_wp2_with fail
  refine (zk6 2 _).mono ?_
  rintro e wR ⟨rfl, hwR⟩
  subst wR
  go_wp2_with fail
  exact ⟨rfl, ⟨.inr ⟨by decide, rfl, rfl⟩, b0.trans (b1.mono b0.size)⟩⟩
end zc3
end Go.Proofs.YtppmlbofhghghaaGreatDoor

namespace Go.Proofs.YtppmlbofhghghaaGreatDoor
open Go.RowKit
namespace yg7
set_option maxRecDepth 100000 in
set_option maxHeartbeats 400000 in
theorem yl5 (v u : Value) (A B : List ByteArray) (w : World) (hA : A.length ≤ 1000) (hB : B.length ≤ 1000) (hv : Mem.zo w v A) (hu : Mem.zo w u B) :
  Calls Tryz.prog 176 #[v, u] w fun e w' => e = .returned (.bool (Pl.zn1 A B)) ∧ w' = w := by
 obtain ⟨va, vc, rfl⟩ : ∃ a cap, v = .slice a A.length cap := by
  rcases hv with ⟨rfl, rfl⟩ | ⟨b, o, cap, rfl, _⟩ <;> exact ⟨_, _, rfl⟩
 obtain ⟨ua, uc, rfl⟩ : ∃ a cap, u = .slice a B.length cap := by
  rcases hu with ⟨rfl, rfl⟩ | ⟨b, o, cap, rfl, _⟩ <;> exact ⟨_, _, rfl⟩
 by_cases hlen : A.length < B.length
 ·have E := hide (Pl.underR_short hlen)
  have t1 : (A.length : Int) < (B.length : Int) := by omega
  go_enter Tryz.func176, Tryz.ntmps176
  go_wp2
  go_ret
  exact ⟨za4 (za E).symm, rfl⟩
 have t1 : ¬ (A.length : Int) < (B.length : Int) := by omega
 by_cases h0 : B = []
 ·subst h0
  have E : Hid (Pl.zn1 A [] = true) := (Pl.zp0 A []).2 (fun j t h => by simp at h)
  go_enter Tryz.func176, Tryz.ntmps176
  go_wp2
  go_loop [14] (fun i => i = .int .i64 0) (fun _ => 0)
  case atStart => rfl
  case round =>
   subst hrel
   go_wp2
   go_ret
   exact ⟨za4 (za E).symm, rfl⟩
 rcases hu with ⟨_, rfl⟩ | ⟨b, o, cap, hv1, hb, hcb⟩
 ·exact absurd rfl h0
 rcases hv with ⟨_, rfl⟩ | ⟨b', o', cap', hv2, hb', hca⟩
 ·exact absurd (List.length_pos_iff.2 h0) (by simp at hlen; simp [hlen])
 cases hv1
 cases hv2
 have HA := hide hca
 have HB := hide hcb
 clear hca hcb
 have HT : Hid ((∀ (j : Nat) t, B[j]? = some t → A[j]? = some t) → Pl.zn1 A B = true) := fun h => (Pl.zp0 A B).2 h
 have HF : Hid (∀ (j : Nat) a b, A[j]? = some a → B[j]? = some b → a ≠ b → Pl.zn1 A B = false) := fun j a b h1 h2 h3 => Pl.underR_not h1 h2 h3
 generalize Pl.zn1 A B = R at HT HF ⊢
 go_enter Tryz.func176, Tryz.ntmps176
 go_wp2
 go_loop [14] (fun i => ∃ k : Nat, k ≤ B.length ∧ i = .int .i64 (k : Int) ∧ Hid (∀ (j : Nat) t, j < k → B[j]? = some t → A[j]? = some t)) (fun i => B.length - (intOf i).toNat)
 case atStart => exact ⟨0, Nat.zero_le _, rfl, fun j t h => absurd h (by omega)⟩
 case round =>
  obtain ⟨k, hk, rfl, HS⟩ := hrel
  by_cases hlt : k < B.length
  ·obtain ⟨y, hy⟩ : ∃ y, B[k]? = some y := ⟨_, List.getElem?_eq_getElem hlt⟩
   obtain ⟨x, hx⟩ : ∃ x, A[k]? = some x := ⟨_, List.getElem?_eq_getElem (by omega)⟩
   have hc1 := HB.out k y hy
   have hc2 := HA.out k x hx
   have hkA : k < A.length := by omega
   by_cases hxy : x = y
   ·have t2 := Pl.zx5 hxy
    have HS2 : Hid (∀ (j : Nat) t, j < k + 1 → B[j]? = some t → A[j]? = some t) := fun j t' hj h' => by
     rcases Nat.lt_succ_iff_lt_or_eq.1 hj with h'' | rfl
     ·exact HS.out j t' h'' h'
     ·rw [hy] at h'; cases h'; rw [hx, hxy]
    clear hx hy HS hxy
    go_wp2
    go_round
    case rel => exact ⟨k + 1, by omega, by go_num, HS2⟩
    case measure => simp [intOf]; omega
   ·have t2 := Pl.zu7 hxy
    have E := hide (HF.out k x y hx hy hxy)
    clear hx hy HS hxy
    go_wp2
    go_ret
    exact ⟨za4 (za E).symm, rfl⟩
  ·have E := hide (HT.out (fun j t h => HS.out j t (by have := (List.getElem?_eq_some_iff.1 h).1; omega) h))
   go_wp2
   go_ret
   exact ⟨za4 (za E).symm, rfl⟩
end yg7
end Go.Proofs.YtppmlbofhghghaaGreatDoor

namespace Go.Proofs.YtppmlbofhghghaaGreatDoor
open Go.RowKit
namespace zw
set_option maxRecDepth 100000 in
theorem yl5 (p t : ByteArray) (w : World) (hp : p.size ≤ 1048576) (ht : t.size ≤ 1048576) :
  Calls Tryz.prog 160 #[.string p, .string t] w fun e w' => e = .returned (.bool (Pl.za3 p && Pl.za3 t && Pl.zn1 (Pl.zb2 p) (Pl.zb2 t))) ∧ Below w.heap.size w w' := by
 have hn := hide (fun W => yg7.both_any p t W hp ht)
 have hA := hide (Pl.zg4 p)
 have hB := hide (Pl.zg4 t)
 generalize (Pl.za3 p && Pl.za3 t) = r at hn ⊢
 generalize Pl.zb2 p = A at hn hA ⊢
 generalize Pl.zb2 t = B at hn hB ⊢
 cases r
 ·go_enter Tryz.func160, Tryz.ntmps160
  go_wp2_with fail
  refine (za hn _).mono ?_
  rintro e w1 ⟨v1, v2, m, rfl, -, -, -, -, hb⟩
  go_wp2
  go_ret
  exact ⟨rfl, hb⟩
 ·go_enter Tryz.func160, Tryz.ntmps160
  go_wp2_with fail
  refine (za hn _).mono ?_
  rintro e w1 ⟨v1, v2, m, rfl, h1, h2, h3, h4, hb⟩
  have i1 := hide (Mem.zo6 h2)
  have i2 := hide (Mem.zo6 h4)
  clear h2 h4 h3 hn
  go_wp2_with fail
  refine (yg7.yl5 _ _ A B _ (by have := (za hA).2; omega) (by have := (za hB).2; omega) (za i1) (za i2)).mono ?_
  rintro e w2 ⟨rfl, hw⟩
  obtain rfl := hw.symm
  generalize hr : Pl.zn1 A B = r2
  have HR := hide hr
  clear hr
  go_wp2
  go_ret
  exact ⟨by rw [za HR]; rfl, hb⟩
end zw
end Go.Proofs.YtppmlbofhghghaaGreatDoor

namespace Go.Proofs.YtppmlbofhghghaaGreatDoor
open Go.RowKit Go.Maps
namespace WUnderN
theorem tl_ne {a b : ByteArray} (h : a ≠ b) : (a.toList == b.toList) = false := by
 rw [beq_eq_false_iff_ne]
 intro e
 exact h (Pl.zi3 (by rw [ByteArray.toList_eq, ByteArray.toList_eq] at e; exact e))
set_option maxRecDepth 100000 in
theorem below_any (n : Pl.Nd) (p : ByteArray) (w : World) (h1 : n.path.size ≤ 1048576) (h2 : p.size ≤ 1048576) :
  Calls Tryz.prog 152 #[n.val, .string p] w fun e w' => e = .returned (.bool (Pl.zc0 n.path p)) ∧ Below w.heap.size w w' := by
 obtain ⟨q, k, d, t, m⟩ := n
 simp only [Pl.Nd.val] at h1 ⊢
 have hu := hide (fun W => zw.yl5 q p W h1 h2)
 have b0 : Below w.heap.size w (w.alloc (.cells #[.string q, .int .i64 k, .string d, .int .i64 t, .int .i64 m] 47)) := (Below.refl _ _).alloc (Nat.le_refl _) _
 by_cases hqp : q = p
 ·have E : Pl.zc0 q p = false := by simp [Pl.zc0, hqp]
  rw [E]
  clear hu E
  subst hqp
  go_enter Tryz.func152, Tryz.ntmps152
  go_wp2
  go_ret
  exact ⟨rfl, b0⟩
 ·have E : Pl.zc0 q p = (Pl.za3 q && Pl.za3 p && Pl.zn1 (Pl.zb2 q) (Pl.zb2 p)) := by simp [Pl.zc0, hqp]
  rw [E]
  generalize (Pl.za3 q && Pl.za3 p && Pl.zn1 (Pl.zb2 q) (Pl.zb2 p)) = R at hu ⊢
  have t1 := tl_ne hqp
  clear E hqp
  go_enter Tryz.func152, Tryz.ntmps152
  go_wp2_with fail
  refine (za hu _).mono ?_
  rintro e w1 ⟨rfl, b1⟩
  have b2 := b0.trans (b1.mono b0.size)
  clear b0 b1 hu
  go_wp2
  go_ret
  exact ⟨rfl, b2⟩
structure At (w wr : World) (a : Option Addr) (L : List Pl.Nd) : Prop where
 bel : Below w.heap.size w wr
 nodes : Mem.za1 wr a L
theorem At.call {w wr wr' : World} {a : Option Addr} {L : List Pl.Nd} (h : At w wr a L) (b : Below wr.heap.size wr wr') : At w wr' a L := ⟨h.bel.trans (b.mono h.bel.size), Mem.za0 h.nodes b⟩
theorem ym0 {w : World} {b o : Nat} {L : List Pl.Nd} (h : Mem.za1 w (some ⟨b, o, none⟩) L) (i q : Nat) : Mem.za1 w (some ⟨b, o + i * 5, none⟩) ((L.drop i).take q) := by
 intro k n hk
 rw [List.getElem?_take] at hk
 split at hk
 ·rw [List.getElem?_drop] at hk
  obtain ⟨b', o', e, h1, h2, h3, h4, h5, h6⟩ := h (i + k) n hk
  cases e
  have ee : o + (i + k) * 5 = o + i * 5 + k * 5 := by omega
  rw [ee] at h2 h3 h4 h5 h6
  exact ⟨b, o + i * 5, rfl, h1, h2, h3, h4, h5, h6⟩
 ·cases hk
theorem yl4 {L : List Pl.Nd} {i j : Nat} (h : j ≤ L.length) : ((L.drop i).take (j - i)).length = j - i := by simp; omega
set_option linter.unusedSimpArgs false in
set_option maxRecDepth 100000 in
set_option maxHeartbeats 2000000 in
theorem any (B N : Nat) (C L : List Pl.Nd) (D : DataW Unit) (p : ByteArray) (w : World) (hown : w.ownsMap Tryz.prog 9 MapN.elem B N D) (hN : N ≤ 1000) (hR : MapN.Reads D C) (hC : C.Pairwise (fun a b => a.path ≠ b.path)) (hperm : L.Perm C) (hr : L.Pairwise (fun a b => Pl.ltP a.path b.path = true))
  (hok : ∀ n ∈ C, Pl.za3 n.path = true ∧ n.data.size ≤ 1048576) (hl : L.length ≤ 1000) (hp : p.size ≤ 1048576) :
  Calls Tryz.prog 127 #[.map (some B), .string p] w fun e w' => ∃ a, e = .returned (.slice a (Pl.zg1 L p).length (Pl.zg1 L p).length) ∧ Mem.za1 w' a (Pl.zg1 L p) ∧ (∀ b o, a = some ⟨b, o, none⟩ → w.heap.size ≤ b) ∧ Below w.heap.size w w' := by
 have hri := hide (zm9.any B N C L D w hown hN hR hC hperm hr hok)
 have HB := hide (fun n (hn : n ∈ L) W => below_any n p W (by have := Pl.zb8 (hok n (hperm.mem_iff.1 hn)).1; omega) hp)
 have HPI : Hid (∀ (i j : Nat), i ≤ j → j ≤ L.length → (∀ (k : Nat) n, k < i → L[k]? = some n → Pl.zc0 n.path p = false) → (∀ n, L[i]? = some n → Pl.zc0 n.path p = true) →
  (∀ (k : Nat) n, i ≤ k → k < j → L[k]? = some n → Pl.zc0 n.path p = true) → (∀ n, L[j]? = some n → Pl.zc0 n.path p = false) → Pl.zg1 L p = (L.drop i).take (j - i)) := fun i j => Pl.piece_at L p i j
 clear hown hR hC hperm hr hok
 generalize Pl.zg1 L p = M at HPI ⊢
 go_enter Tryz.func127, Tryz.ntmps127
 go_wp2_with fail
 refine (za hri).mono ?_
 rintro e w1 ⟨v, rfl, own, b1⟩
 obtain ⟨a, cap, rfl, hnd⟩ := Mem.ownN_is own
 have hcap : L.length ≤ cap := by
  rcases own.2 with ⟨e1, e2⟩ | ⟨g, cap', cur, e1, _, _, h1, _⟩
  ·injection e1 with e3 e4 e5; omega
  ·injection e1 with e3 e4 e5; omega
 have A0 : Hid (At w w1 a L) := ⟨b1, hnd⟩
 have HBK : Hid (∀ b o, a = some ⟨b, o, none⟩ → w.heap.size ≤ b) := fun b o e => by
  subst e
  exact (Mem.ze2 own b rfl).1
 clear hri own b1 hnd
 go_wp2
 go_loopw [6] (fun i wr => ∃ k : Nat, k ≤ L.length ∧ i = .int .i64 (k : Int) ∧ Hid (At w wr a L) ∧ Hid (∀ (j : Nat) n, j < k → L[j]? = some n → Pl.zc0 n.path p = false)) (fun i _ => L.length - (intOf i).toNat)
 case atStart => exact ⟨0, Nat.zero_le _, rfl, A0, fun j n h => absurd h (by omega)⟩
 case round =>
  obtain ⟨k, hk, rfl, HA, HK⟩ := hrel
  clear A0
  by_cases hlt : k < L.length
  ·obtain ⟨n, hn⟩ : ∃ n, L[k]? = some n := ⟨_, List.getElem?_eq_getElem hlt⟩
   obtain ⟨b1, o1, ea, hb1, q0, q1, q2, q3, q4⟩ := (za HA).nodes k n hn
   have hib := hide (fun W => za HB n (List.mem_of_getElem? hn) W)
   have y1 : (k : Int) < (L.length : Int) := by omega
   have y3 : (0 : Int) ≤ (k : Int) := by omega
   have EN := hide hn
   cases hbb : Pl.zc0 n.path p
   ·rw [hbb] at hib
    have HK2 : Hid (∀ (l : Nat) n, l < k + 1 → L[l]? = some n → Pl.zc0 n.path p = false) := fun l m h2 hm => by
     rcases Nat.lt_succ_iff_lt_or_eq.1 h2 with h3 | h3
     ·exact za HK l m h3 hm
     ·subst h3; rw [za EN] at hm; cases hm; exact hbb
    clear hbb hn EN HK
    obtain ⟨qp, qk, qd, qt, qm⟩ := n
    simp only [Pl.Nd.val] at hib q0 q1 q2 q3 q4
    subst ea
    go_wp2_with fail
    refine (za hib _).mono ?_
    rintro e w4 ⟨rfl, b4⟩
    have A4 := hide ((za HA).call b4)
    clear HA b4 hib q0 q1 q2 q3 q4 hb1
    go_wp2
    go_roundw
    case rel => exact ⟨k + 1, by omega, by go_num, A4, HK2⟩
    case measure => simp [intOf]; omega
   ·rw [hbb] at hib
    have HF : Hid (∀ n, L[k]? = some n → Pl.zc0 n.path p = true) := fun m hm => by rw [za EN] at hm; cases hm; exact hbb
    clear hbb hn EN
    obtain ⟨qp, qk, qd, qt, qm⟩ := n
    simp only [Pl.Nd.val] at hib q0 q1 q2 q3 q4
    subst ea
    go_wp2_with fail
    refine (za hib _).mono ?_
    rintro e w4 ⟨rfl, b4⟩
    have AX := hide ((za HA).call b4)
    clear HA b4 hib q0 q1 q2 q3 q4 hb1
    go_wp2
    go_loopw [7] (fun i wr => ∃ j : Nat, k ≤ j ∧ j ≤ L.length ∧ i = .int .i64 (j : Int) ∧ Hid (At w wr (some ⟨b1, o1, none⟩) L) ∧ Hid (∀ (l : Nat) n, k ≤ l → l < j → L[l]? = some n → Pl.zc0 n.path p = true)) (fun i _ => L.length - (intOf i).toNat)
    case atStart => exact ⟨k, Nat.le_refl _, hk, rfl, AX, fun l n h1 h2 => absurd h2 (by omega)⟩
    case round =>
     obtain ⟨j, hkj, hj, rfl, HA2, HJ⟩ := hrel
     clear AX
     by_cases hlt2 : j < L.length
     ·obtain ⟨n2, hn2⟩ : ∃ n, L[j]? = some n := ⟨_, List.getElem?_eq_getElem hlt2⟩
      obtain ⟨b2, o2, ea2, hb2, q0, q1, q2, q3, q4⟩ := (za HA2).nodes j n2 hn2
      cases ea2
      have hib2 := hide (fun W => za HB n2 (List.mem_of_getElem? hn2) W)
      have z1 : (j : Int) < (L.length : Int) := by omega
      have z3 : (0 : Int) ≤ (j : Int) := by omega
      have EN2 := hide hn2
      cases hbb : Pl.zc0 n2.path p
      ·rw [hbb] at hib2
       have HF2 : Hid (∀ n, L[j]? = some n → Pl.zc0 n.path p = false) := fun n hn => by rw [za EN2] at hn; cases hn; exact hbb
       have EM := hide (za HPI k j hkj hj (za HK) (za HF) (za HJ) (za HF2))
       have jk : ¬ j = k := fun e => by subst e; have := za HF n2 hn2; rw [hbb] at this; cases this
       clear hbb hn2 EN2 HF2 HPI HK HF HJ HB
       obtain ⟨qp2, qk2, qd2, qt2, qm2⟩ := n2
       simp only [Pl.Nd.val] at hib2 q0 q1 q2 q3 q4
       go_wp2_with fail
       refine (za hib2 _).mono ?_
       rintro e w4 ⟨rfl, b4⟩
       have A4 := hide ((za HA2).call b4)
       clear HA2 b4 hib2 q0 q1 q2 q3 q4 hb2
       have s0 : (0 : Int) ≤ (k : Int) := by omega
       have s1 : (k : Int) ≤ (j : Int) := by omega
       have s2 : (j : Int) ≤ (cap : Int) := by omega
       go_wp2
       go_ret
       have e := za EM
       subst e
       exact ⟨some ⟨b1, o1 + k * 5, none⟩, by rw [yl4 hj]; rfl, ym0 (za A4).nodes k _, (fun b o e => by cases e; exact za HBK b1 o1 rfl), (za A4).bel⟩
      ·rw [hbb] at hib2
       have HJ2 : Hid (∀ (l : Nat) n, k ≤ l → l < j + 1 → L[l]? = some n → Pl.zc0 n.path p = true) := fun l n h1 h2 hn => by
        rcases Nat.lt_succ_iff_lt_or_eq.1 h2 with h3 | h3
        ·exact za HJ l n h1 h3 hn
        ·subst h3; rw [za EN2] at hn; cases hn; exact hbb
       clear hbb hn2 EN2 HJ
       obtain ⟨qp2, qk2, qd2, qt2, qm2⟩ := n2
       simp only [Pl.Nd.val] at hib2 q0 q1 q2 q3 q4
       go_wp2_with fail
       refine (za hib2 _).mono ?_
       rintro e w4 ⟨rfl, b4⟩
       have A4 := hide ((za HA2).call b4)
       clear HA2 b4 hib2 q0 q1 q2 q3 q4 hb2
       go_wp2
       go_roundw
       case rel => exact ⟨j + 1, by omega, by omega, by go_num, A4, HJ2⟩
       case measure => simp [intOf]; omega
     ·obtain rfl : j = L.length := by omega
      have z1 : ¬ ((L.length : Int) < (L.length : Int)) := by omega
      have EM := hide (za HPI k L.length hkj hj (za HK) (za HF) (za HJ) (fun n hn => absurd (List.getElem?_eq_some_iff.1 hn).1 (by omega)))
      have jk : ¬ L.length = k := by omega
      clear HPI HK HF HJ HB
      have s0 : (0 : Int) ≤ (k : Int) := by omega
      have s1 : (k : Int) ≤ (L.length : Int) := by omega
      have s2 : (L.length : Int) ≤ (cap : Int) := by omega
      have A4 := HA2
      clear HA2
      go_wp2
      go_ret
      have e := za EM
      subst e
      exact ⟨some ⟨b1, o1 + k * 5, none⟩, by rw [yl4 hj]; rfl, ym0 (za A4).nodes k _, (fun b o e => by cases e; exact za HBK b1 o1 rfl), (za A4).bel⟩
  ·obtain rfl : k = L.length := by omega
   have y1 : ¬ ((L.length : Int) < (L.length : Int)) := by omega
   have HF : Hid (∀ n, L[L.length]? = some n → Pl.zc0 n.path p = true) := fun n hn => absurd (List.getElem?_eq_some_iff.1 hn).1 (by omega)
   have AX := HA
   clear HA
   go_wp2
   go_loopw [7] (fun i wr => i = .int .i64 (L.length : Int) ∧ Hid (At w wr a L)) (fun i _ => 0)
   case atStart => exact ⟨rfl, AX⟩
   case round =>
    obtain ⟨rfl, HA2⟩ := hrel
    have EM := hide (za HPI L.length L.length (Nat.le_refl _) (Nat.le_refl _) (za HK) (za HF) (fun l n h1 h2 => absurd h2 (by omega)) (fun n hn => absurd (List.getElem?_eq_some_iff.1 hn).1 (by omega)))
    clear HPI HK HF HB AX
    have s0 : (0 : Int) ≤ (L.length : Int) := by omega
    have s2 : (L.length : Int) ≤ (cap : Int) := by omega
    have A4 := HA2
    clear HA2
    go_wp2
    go_ret
    have e := za EM
    subst e
    exact ⟨a, by rw [yl4 (Nat.le_refl _), Nat.sub_self]; rfl, by rw [Nat.sub_self]; exact Mem.ye1 _ _, za HBK, (za A4).bel⟩
end WUnderN
end Go.Proofs.YtppmlbofhghghaaGreatDoor

namespace Go.Proofs.YtppmlbofhghghaaGreatDoor
open Go.RowKit
namespace WCutF
theorem yi2 (x : Nat → Addr) (w : World) (h : WIs.Six w x) (i : Nat) (hi : i < 6) :
  Calls Tryz.prog 76 #[.iface 248 (.pointer (some (x i)))] w fun e w' => e = .returned (.int .i64 (WIs.codeOf i)) ∧ w' = w := by
 obtain rfl | rfl | rfl | rfl | rfl | rfl : i = 0 ∨ i = 1 ∨ i = 2 ∨ i = 3 ∨ i = 4 ∨ i = 5 := by omega
 ·exact WIs.code0 x w h
 ·exact WIs.code1 x w h
 ·exact WIs.code2 x w h
 ·exact WIs.code3 x w h
 ·exact WIs.code4 x w h
 ·exact WIs.code5 x w h
theorem code_pos (i : Nat) : WIs.codeOf i ≠ 0 := by
 unfold WIs.codeOf
 split <;> decide
set_option maxRecDepth 100000 in
theorem code_nil (w : World) : Calls Tryz.prog 76 #[.nilIface] w fun e w' => e = .returned (.int .i64 0) ∧ w' = w := by
 go_enter Tryz.func76, Tryz.ntmps76
 go_wp2
 go_ret
 exact ⟨rfl, rfl⟩
end WCutF
end Go.Proofs.YtppmlbofhghghaaGreatDoor

namespace Go.Proofs.YtppmlbofhghghaaGreatDoor
open Go.RowKit
namespace zc3
set_option maxRecDepth 100000 in
theorem need_ok (w : World) : Calls Tryz.prog 75 #[.int .i64 0] w fun e w' => e = .returned (.tuple #[]) ∧ w' = w := by
 have hr := hide zk
 go_enter Tryz.func75, Tryz.ntmps75
 go_wp2_with fail
 refine (za hr 0 _).mono ?_
 rintro e w1 ⟨rfl, rfl⟩
 go_wp2_with fail
 go_end0
 exact ⟨rfl, rfl⟩
set_option maxRecDepth 100000 in
theorem yg2 (c : Int) (hc : c ≠ 0) (w : World) : Calls Tryz.prog 75 #[.int .i64 c] w fun e w' => e = .panicked (pnc c) ∧ w' = w := by
 have hr := hide zk6
 have t0 : (c != 0) = true := by simpa using hc
 go_enter Tryz.func75, Tryz.ntmps75
 go_wp2_with fail
 refine (za hr c _).mono ?_
 rintro e w1 ⟨rfl, rfl⟩
 go_wp2_with fail
 exact ⟨rfl, rfl, rfl⟩
end zc3
end Go.Proofs.YtppmlbofhghghaaGreatDoor

