/- Several texts of one claim in one file: WMkQ, WMkR, OkNode, OkItems, OpenNode, OpenTree, OpenItems. -/
import Derived.Test.YtlgbdbmikmbioaaGreatDoorG05
import Derived.Test.YtlgbdbmikmbioaaGreatDoorG27
import Derived.Test.YtlgbdbmikmbioaaGreatDoorG44
import Derived.Test.YtlgbdbmikmbioaaGreatDoorG00
import Derived.Below
import Derived.Test.YtlgbdbmikmbioaaGreatDoorG04
import Derived.Test.YtlgbdbmikmbioaaGreatDoorRows
import Derived.ProofKit
import Derived.OpenShut
import Derived.ShutString
import Derived.ChangeOld
import Derived.Test.YtlgbdbmikmbioaaGreatDoorG03
namespace Go.Proofs.YtlgbdbmikmbioaaGreatDoor
open Go.RowKit
namespace Pl
theorem kAt_le (K : Nat) {Is : List It} (h : ∀ x ∈ Is, x.t.L.length ≤ 40) (i : Nat) : kAt K Is i ≤ K + i * 201 := by
 induction i with
 | zero => exact Nat.le_refl _
 | succ i ih =>
  simp only [kAt]
  cases hi : Is[i]? with
  | none => simp only; omega
  | some x =>
   have := h x (List.mem_of_getElem? hi)
   simp only; omega
end Pl
namespace WMkQ
set_option maxRecDepth 100000 in
theorem zc5 (a : Option Addr) (cap S G : Nat) (c : Int) (Is : List Pl.It) (w : World) (hn : Is.length ≤ 12) (hL : ∀ x ∈ Is, x.t.L.length ≤ 40) (h : Mem.Io w S (.slice a Is.length cap) Is) (hG : ∀ g, (Value.slice a Is.length cap).ownBlock = some g → g < G) (hG2 : ∀ x ∈ Is, ∀ g, x.t.val.ownBlock = some g → g < G) :
  Calls Tryz.prog 21 #[.agg #[.slice a Is.length cap, .int .i64 c], .int .i64 1] w fun e w' => e = .returned (.int .i64 (Pl.kAt 1 Is Is.length : Int)) ∧ Mem.za5 w' a (Pl.mkTo 1 Is Is.length) ∧ Mem.Band S G w w' := by
 have b0 : ∀ o, Below w.heap.size w (w.alloc o) := fun o => (Below.refl _ _).alloc (Nat.le_refl _) o
 have HB := hide b0
 have hl := hide (fun W (b : Below w.heap.size w W) => WMkB.mark_own a cap 1 S G Is W (by omega) (fun x hx => Nat.le_trans (hL x hx) (by decide)) (by decide) (fun i hi => Nat.le_trans (Pl.kAt_le 1 hL i) (by omega)) (h.call b) hG hG2)
 generalize Pl.mkTo 1 Is Is.length = MT at hl ⊢
 generalize Pl.kAt 1 Is Is.length = KA at hl ⊢
 clear b0 h hL hG hG2
 go_enter Tryz.func21, Tryz.ntmps21
 go_wp2_with fail
 refine (za hl _ (za HB _)).mono ?_
 rintro e w1 ⟨rfl, h1, b1⟩
 have H := hide ((Mem.Band.of_below (za HB _)).trans b1)
 have HI := hide h1
 clear h1 hl HB b1
 go_wp2
 go_ret
 exact ⟨rfl, za HI, za H⟩
set_option maxRecDepth 100000 in
theorem ze9 (a : Option Addr) (cap : Nat) (c : Int) (Is : List Pl.It) (w : World) (hn : Is.length ≤ 12) (hL : ∀ x ∈ Is, x.t.L.length ≤ 40) (hv : Mem.za5 w a (Pl.mkTo 1 Is Is.length)) :
  Calls Tryz.prog 22 #[.agg #[.slice a Is.length cap, .int .i64 c], .int .i64 1] w fun e w' => e = .returned (.int .i64 (Pl.kAt 1 Is Is.length : Int)) ∧ Below w.heap.size w w' := by
 have b0 : ∀ o, Below w.heap.size w (w.alloc o) := fun o => (Below.refl _ _).alloc (Nat.le_refl _) o
 have HB := hide b0
 have hl := hide (fun W (b : Below w.heap.size w W) => WMarkI.ze9 a cap 1 Is W (by omega) (fun x hx => Nat.le_trans (hL x hx) (by decide)) (by decide) (fun i hi => Nat.le_trans (Pl.kAt_le 1 hL i) (by omega)) (Mem.za8 hv b))
 clear hv b0 hL
 generalize Pl.kAt 1 Is Is.length = q at hl ⊢
 have t0 : ¬ (q : Int) < 0 := by omega
 go_enter Tryz.func22, Tryz.ntmps22
 go_wp2_with fail
 refine (za hl _ (za HB _)).mono ?_
 rintro e w1 ⟨rfl, b1⟩
 have b2 := (za HB _).trans (b1.mono (za HB _).size)
 clear b1 hl
 go_wp2
 go_ret
 exact ⟨rfl, b2⟩
set_option maxRecDepth 100000 in
theorem eq_any (a b : Option Addr) (c1 c2 : Nat) (c : Int) (Ts Us : List Pl.It) (w : World) (hl : Ts.length ≤ 12) (hm : Us.map Pl.It.r = Ts.map Pl.It.r) (hL : ∀ x ∈ Ts, x.t.L.length ≤ 40) (hv : Mem.za5 w a Ts) (hu : Mem.za5 w b Us) :
  Calls Tryz.prog 18 #[.agg #[.slice a Ts.length c1, .int .i64 c], .agg #[.slice b Ts.length c2, .int .i64 c]] w fun e w' => e = .returned (.bool true) ∧ Below w.heap.size w w' := by
 have b0 : Below w.heap.size w ((w.alloc (.cells #[.slice a Ts.length c1, .int .i64 c] 46)).alloc (.cells #[.slice b Ts.length c2, .int .i64 c] 46)) := ((Below.refl _ _).alloc (Nat.le_refl _) _).alloc (by simp) _
 have va := Mem.zu6 (Mem.zc3 w [.slice a Ts.length c1, .int .i64 c] 46) (.cells #[.slice b Ts.length c2, .int .i64 c] 46)
 have vb := Mem.zc3 (w.alloc (.cells #[.slice a Ts.length c1, .int .i64 c] 46)) [.slice b Ts.length c2, .int .i64 c] 46
 rw [show (w.alloc (.cells #[.slice a Ts.length c1, .int .i64 c] 46)).heap.size = w.heap.size + 1 by simp] at vb
 have he := hide (fun W (bw : Below w.heap.size w W) => WLaw.zw a b c1 c2 Ts Us W (by omega) hm (Mem.za8 hv bw) (Mem.za8 hu bw) (fun x hx => Nat.le_trans (hL x hx) (by decide)))
 clear hv hu hm hL
 have k5' := va.2 0 _ rfl
 have d5' := vb.2 0 _ rfl
 go_enter Tryz.func18, Tryz.ntmps18
 go_wp2_with fail
 refine (za he _ b0).mono ?_
 rintro e w1 ⟨rfl, b1⟩
 have bw1 := b0.trans (b1.mono b0.size)
 have k5 := (Mem.zf0 va b1).2 1 _ rfl
 have d5 := (Mem.zf0 vb b1).2 1 _ rfl
 clear he va vb b0 b1 k5' d5'
 go_wp2
 go_ret
 exact ⟨rfl, bw1⟩
end WMkQ
end Go.Proofs.YtlgbdbmikmbioaaGreatDoor

namespace Go.Proofs.YtlgbdbmikmbioaaGreatDoor
open Go.RowKit
namespace Mem
theorem Io.band {W W' : World} {S Y X : Nat} {v : Value} {Is : List Pl.It} (h : Io W S v Is) (b : Band Y X W W') (hv : ∀ g, v.ownBlock = some g → g < Y ∨ X ≤ g) (hx : ∀ x ∈ Is, ∀ g, x.t.val.ownBlock = some g → g < Y ∨ X ≤ g) : Io W' S v Is :=
 ⟨b.row h.row hv, fun i x hi => ⟨b.row (h.each i x hi).1 (hx x (List.mem_of_getElem? hi)), (h.each i x hi).2⟩, h.apart⟩
theorem Io.mem_lt {W : World} {S : Nat} {v : Value} {Is : List Pl.It} (h : Io W S v Is) : ∀ x ∈ Is, ∀ g, x.t.val.ownBlock = some g → S ≤ g ∧ g < W.heap.size := fun x hx g hg => by
 obtain ⟨i, hi⟩ := List.getElem?_of_mem hx
 exact h.lt.2 i x hi g hg
end Mem
namespace WMkR
structure OW (w W : World) (Y B1 : Nat) (aw : Option Addr) (cw : Nat) (U : List Pl.It) (O : List (Int × List Pl.Nd)) (c : Int) : Prop where
 bel : Below w.heap.size w W
 var : Mem.Blk W Y #[.slice aw O.length cw, .int .i64 c] 46
 own : Mem.Io W B1 (.slice aw O.length cw) U
 reads : U.map Pl.It.r = O
 hi : ∀ g, (Value.slice aw O.length cw).ownBlock = some g → g < Y
 hi2 : ∀ x ∈ U, ∀ g, x.t.val.ownBlock = some g → g < Y
 y : w.heap.size ≤ Y
theorem OW.call {w W W' : World} {aw : Option Addr} {Y B1 cw : Nat} {U : List Pl.It} {O : List (Int × List Pl.Nd)} {c : Int} (h : OW w W Y B1 aw cw U O c) (b : Below W.heap.size W W') : OW w W' Y B1 aw cw U O c :=
 ⟨h.bel.trans (b.mono h.bel.size), h.var.call b, h.own.call b, h.reads, h.hi, h.hi2, h.y⟩
theorem OW.band {w W W' : World} {aw : Option Addr} {Y B1 cw g X : Nat} {U : List Pl.It} {O : List (Int × List Pl.Nd)} {c : Int} (h : OW w W Y B1 aw cw U O c) (b : Mem.Band g X W W') (hg : Y < g) : OW w W' Y B1 aw cw U O c :=
 ⟨b.below h.bel (by have := h.y; omega) h.bel.size, b.blk h.var (.inl hg), h.own.band b (fun q hq => .inl (by have := h.hi q hq; omega)) (fun x hx q hq => .inl (by have := h.hi2 x hx q hq; omega)), h.reads, h.hi, h.hi2, h.y⟩
theorem OW.items {w W : World} {aw : Option Addr} {Y B1 cw : Nat} {U : List Pl.It} {O : List (Int × List Pl.Nd)} {c : Int} (h : OW w W Y B1 aw cw U O c) : Mem.za5 W aw U := h.own.items.2
structure G0 (W : World) (G B3 : Nat) (ag : Option Addr) (cg : Nat) (U : List Pl.It) (O : List (Int × List Pl.Nd)) (c : Int) : Prop where
 var : Mem.Blk W G #[.slice ag O.length cg, .int .i64 c] 46
 own : Mem.Io W B3 (.slice ag O.length cg) U
 reads : U.map Pl.It.r = O
 hi : ∀ g, (Value.slice ag O.length cg).ownBlock = some g → g < G
 hi2 : ∀ x ∈ U, ∀ g, x.t.val.ownBlock = some g → g < G
 b : B3 ≤ G
theorem G0.call {W W' : World} {G B3 cg : Nat} {ag : Option Addr} {U : List Pl.It} {O : List (Int × List Pl.Nd)} {c : Int} (h : G0 W G B3 ag cg U O c) (b : Below W.heap.size W W') : G0 W' G B3 ag cg U O c :=
 ⟨h.var.call b, h.own.call b, h.reads, h.hi, h.hi2, h.b⟩
theorem G0.band {W W' : World} {G X cg g : Nat} {ag : Option Addr} {U : List Pl.It} {O : List (Int × List Pl.Nd)} {c : Int} (h : G0 W G X ag cg U O c) (b : Mem.Band g X W W') : G0 W' G X ag cg U O c :=
 ⟨b.blk h.var (.inr h.b), h.own.band b (fun q hq => .inr (h.own.lt.1 q hq).1) (fun x hx q hq => .inr (h.own.mem_lt x hx q hq).1), h.reads, h.hi, h.hi2, h.b⟩
theorem G0.items {W : World} {G B3 cg : Nat} {ag : Option Addr} {U : List Pl.It} {O : List (Int × List Pl.Nd)} {c : Int} (h : G0 W G B3 ag cg U O c) : Mem.za5 W ag U := h.own.items.2
structure M0 (W : World) (G : Nat) (ag : Option Addr) (n cg : Nat) (M : List Pl.It) (c : Int) : Prop where
 var : Mem.Blk W G #[.slice ag n cg, .int .i64 c] 46
 items : Mem.za5 W ag M
theorem M0.call {W W' : World} {G n cg : Nat} {ag : Option Addr} {M : List Pl.It} {c : Int} (h : M0 W G ag n cg M c) (b : Below W.heap.size W W') : M0 W' G ag n cg M c :=
 ⟨h.var.call b, Mem.za8 h.items b⟩
theorem zo1 {U : List Pl.It} {O : List (Int × List Pl.Nd)} (h : U.map Pl.It.r = O) : U.length = O.length := by rw [← h, List.length_map]
theorem le_of {U : List Pl.It} {O : List (Int × List Pl.Nd)} (h : U.map Pl.It.r = O) (hO : ∀ x ∈ O, x.2.length ≤ 40) : ∀ x ∈ U, x.t.L.length ≤ 40 := fun x hx => hO x.r (by rw [← h]; exact List.mem_map.2 ⟨x, hx, rfl⟩)
theorem eq_any (O : List (Int × List Pl.Nd)) (hO : O.length ≤ 12) (hL : ∀ x ∈ O, x.2.length ≤ 40) (a b : Option Addr) (c1 c2 : Nat) (c : Int) (T U : List Pl.It) (w : World) (hT : T.map Pl.It.r = O) (hU : U.map Pl.It.r = O) (hv : Mem.za5 w a T) (hu : Mem.za5 w b U) :
  Calls Tryz.prog 18 #[.agg #[.slice a O.length c1, .int .i64 c], .agg #[.slice b O.length c2, .int .i64 c]] w fun e w' => e = .returned (.bool true) ∧ Below w.heap.size w w' := by
 have := WMkQ.eq_any a b c1 c2 c T U w (by rw [zo1 hT]; exact hO) (hU.trans hT.symm) (le_of hT hL) hv hu
 rw [zo1 hT] at this
 exact this
theorem zc5 (O : List (Int × List Pl.Nd)) (hO : O.length ≤ 12) (hL : ∀ x ∈ O, x.2.length ≤ 40) (a : Option Addr) (cap S G : Nat) (c : Int) (U : List Pl.It) (w : World) (h : G0 w G S a cap U O c) :
  Calls Tryz.prog 21 #[.agg #[.slice a O.length cap, .int .i64 c], .int .i64 1] w fun e w' => e = .returned (.int .i64 (Pl.kAt 1 U O.length : Int)) ∧ M0 w' G a O.length cap (Pl.mkTo 1 U O.length) c ∧ Mem.Band S G w w' := by
 have e := zo1 h.reads
 have := WMkQ.zc5 a cap S G c U w (by rw [e]; exact hO) (le_of h.reads hL) (by rw [e]; exact h.own) (by rw [e]; exact h.hi) h.hi2
 rw [e] at this
 exact this.mono fun _ _ ⟨h1, h2, h3⟩ => ⟨h1, ⟨h3.blk h.var (.inr (Nat.le_refl _)), h2⟩, h3⟩
theorem ze9 (O : List (Int × List Pl.Nd)) (hO : O.length ≤ 12) (hL : ∀ x ∈ O, x.2.length ≤ 40) (a : Option Addr) (cap G : Nat) (c : Int) (U : List Pl.It) (w : World) (hU : U.map Pl.It.r = O) (h : M0 w G a O.length cap (Pl.mkTo 1 U O.length) c) :
  Calls Tryz.prog 22 #[.agg #[.slice a O.length cap, .int .i64 c], .int .i64 1] w fun e w' => e = .returned (.int .i64 (Pl.kAt 1 U O.length : Int)) ∧ Below w.heap.size w w' := by
 have e := zo1 hU
 have := WMkQ.ze9 a cap c U w (by rw [e]; exact hO) (le_of hU hL) (by rw [e]; exact h.items)
 rw [e] at this
 exact this
end WMkR
end Go.Proofs.YtlgbdbmikmbioaaGreatDoor

namespace Go.Proofs.YtlgbdbmikmbioaaGreatDoor
open Go.RowKit
namespace zg7
def Ok (n : Pl.Nd) : Prop := n.path.size ≤ maxLen ∧ n.data.size ≤ maxLen ∧ (-9223372036854775808 ≤ n.kind ∧ n.kind ≤ 9223372036854775807) ∧ (-9223372036854775808 ≤ n.time ∧ n.time ≤ 9223372036854775807) ∧ (-9223372036854775808 ≤ n.mark ∧ n.mark ≤ 9223372036854775807)
end zg7
end Go.Proofs.YtlgbdbmikmbioaaGreatDoor

namespace Go.Proofs.YtlgbdbmikmbioaaGreatDoor
open Go.RowKit
namespace zk8
structure OkI (w : World) (a : Option Addr) (Is : List Pl.It) : Prop where
 len : Is.length ≤ maxLen
 items : Mem.za5 w a Is
 ok : ∀ x ∈ Is, x.t.L.length ≤ maxLen ∧ ∀ n ∈ x.t.L, zg7.Ok n
end zk8
end Go.Proofs.YtlgbdbmikmbioaaGreatDoor

namespace Go.Proofs.YtlgbdbmikmbioaaGreatDoor
open Go.ChangeShapes Go.WideShapes Go.ChangeAt Go.RowKit
namespace zg7
theorem five {α : Type} {l : List α} (h : l.length = 5) : ∃ a b c d e, l = [a, b, c, d, e] := by
 match l, h with
 | [a, b, c, d, e], _ => exact ⟨a, b, c, d, e, rfl⟩
theorem cells5 : Tryz.prog.cellsOf 181 = 5 := by kernel_rfl
theorem cellsS : Tryz.prog.cellsOf 9 = 1 := by kernel_rfl
theorem zb0 : Tryz.prog.cellsOf 2 = 1 := by kernel_rfl
set_option maxRecDepth 100000 in
theorem node {H : Type} {enc : TypeId × Value → H} {w : World} {base fuel : Nat} {spare : Nat → Bool} {held : Bool} {cs : List Value} {x : DataW H × List MemPlace}
  (h : DataW.trod enc Tryz.prog w base spare held fuel 181 cs = some x) : ∃ n : Pl.Nd, cs = n.cells ∧ Ok n := by
 obtain ⟨xs, m, rfl, -, hlen, hxl, hf⟩ := DataW.trod_struct Tryz.underlying181 h
 obtain ⟨c0, c1, c2, c3, c4, rfl⟩ := five (hlen.trans cells5)
 obtain ⟨y0, y1, y2, y3, y4, rfl⟩ := five hxl
 have h0 := hf 0 _ rfl
 have h1 := hf 1 _ rfl
 have h2 := hf 2 _ rfl
 have h3 := hf 3 _ rfl
 have h4 := hf 4 _ rfl
 change DataW.trod enc Tryz.prog w base spare held m 9 (([c0, c1, c2, c3, c4].drop 0).take (Tryz.prog.cellsOf 9)) = some y0 at h0
 rw [cellsS] at h0
 change DataW.trod enc Tryz.prog w base spare held m 2 (([c0, c1, c2, c3, c4].drop 1).take (Tryz.prog.cellsOf 2)) = some y1 at h1
 rw [zb0] at h1
 change DataW.trod enc Tryz.prog w base spare held m 9 (([c0, c1, c2, c3, c4].drop 2).take (Tryz.prog.cellsOf 9)) = some y2 at h2
 rw [cellsS] at h2
 change DataW.trod enc Tryz.prog w base spare held m 2 (([c0, c1, c2, c3, c4].drop 3).take (Tryz.prog.cellsOf 2)) = some y3 at h3
 rw [zb0] at h3
 change DataW.trod enc Tryz.prog w base spare held m 2 (([c0, c1, c2, c3, c4].drop 4).take (Tryz.prog.cellsOf 2)) = some y4 at h4
 rw [zb0] at h4
 obtain ⟨p, e0, -, wp⟩ := DataW.trod_string Tryz.underlying9 h0
 obtain ⟨k, e1, -, wk⟩ := DataW.trod_int Tryz.underlying2 h1
 obtain ⟨d, e2, -, wd⟩ := DataW.trod_string Tryz.underlying9 h2
 obtain ⟨t, e3, -, wt⟩ := DataW.trod_int Tryz.underlying2 h3
 obtain ⟨q, e4, -, wq⟩ := DataW.trod_int Tryz.underlying2 h4
 simp at e0 e1 e2 e3 e4
 subst e0 e1 e2 e3 e4
 exact ⟨⟨p, k, d, t, q⟩, rfl, wp, wd, zj8 wk, zj8 wt, zj8 wq⟩
end zg7
end Go.Proofs.YtlgbdbmikmbioaaGreatDoor

namespace Go.Proofs.YtlgbdbmikmbioaaGreatDoor
open Go.ChangeShapes Go.WideShapes Go.ChangeAt Go.RowKit
namespace zk2
theorem cells1 : Tryz.prog.cellsOf 57 = 1 := by kernel_rfl
theorem cellsL : Tryz.prog.cellsOf 55 = 1 := by kernel_rfl
structure OkT (w : World) (a : Option Addr) (L : List Pl.Nd) : Prop where
 len : L.length ≤ maxLen
 nodes : Mem.za3 w a L
 ok : ∀ n ∈ L, zg7.Ok n
theorem one {α : Type} {l : List α} (h : l.length = 1) : ∃ a, l = [a] := by
 match l, h with
 | [a], _ => exact ⟨a, rfl⟩
theorem mapM5 {f : Nat → Option Value} {c0 c1 c2 c3 c4 : Value} (h : (List.range 5).mapM f = some [c0, c1, c2, c3, c4]) : f 0 = some c0 ∧ f 1 = some c1 ∧ f 2 = some c2 ∧ f 3 = some c3 ∧ f 4 = some c4 := by
 have e : List.range 5 = [0, 1, 2, 3, 4] := rfl
 rw [e] at h
 simp only [List.mapM_cons, List.mapM_nil, Option.pure_def, Option.bind_eq_bind] at h
 cases h0 : f 0 with
 | none => rw [h0] at h; simp at h
 | some a0 =>
  cases h1 : f 1 with
  | none => rw [h0, h1] at h; simp at h
  | some a1 =>
   cases h2 : f 2 with
   | none => rw [h0, h1, h2] at h; simp at h
   | some a2 =>
    cases h3 : f 3 with
    | none => rw [h0, h1, h2, h3] at h; simp at h
    | some a3 =>
     cases h4 : f 4 with
     | none => rw [h0, h1, h2, h3, h4] at h; simp at h
     | some a4 =>
      rw [h0, h1, h2, h3, h4] at h
      simp at h
      obtain ⟨rfl, rfl, rfl, rfl, rfl⟩ := h
      exact ⟨rfl, rfl, rfl, rfl, rfl⟩
end zk2
end Go.Proofs.YtlgbdbmikmbioaaGreatDoor

namespace Go.Proofs.YtlgbdbmikmbioaaGreatDoor
open Go.ChangeShapes Go.WideShapes Go.ChangeAt Go.RowKit
namespace zk8
theorem cells2 : Tryz.prog.cellsOf 59 = 2 := by kernel_rfl
theorem zb0 : Tryz.prog.cellsOf 2 = 1 := by kernel_rfl
theorem two {α : Type} {l : List α} (h : l.length = 2) : ∃ a b, l = [a, b] := by
 match l, h with
 | [a, b], _ => exact ⟨a, b, rfl⟩
set_option maxRecDepth 100000 in
theorem tree {H : Type} {enc : TypeId × Value → H} {w : World} {base fuel : Nat} {spare : Nat → Bool} {held : Bool} {cs : List Value} {x : DataW H × List MemPlace}
  (hf : DataW.trod enc Tryz.prog w base spare held fuel 57 cs = some x) : ∃ t : Pl.Tr, cs = [t.val] ∧ zk2.OkT w t.a t.L := by
 obtain ⟨xs, m, rfl, -, hlen, hxl, hfl⟩ := DataW.trod_struct Tryz.underlying57 hf
 obtain ⟨c, rfl⟩ := zk2.one (hlen.trans zk2.cells1)
 obtain ⟨y, rfl⟩ := zk2.one hxl
 have h0 := hfl 0 _ rfl
 change DataW.trod enc Tryz.prog w base spare held m 55 (([c].drop 0).take (Tryz.prog.cellsOf 55)) = some y at h0
 rw [zk2.cellsL] at h0
 rcases DataW.trod_slice Tryz.underlying55 h0 with ⟨e, -⟩ | ⟨a, len, cap, elems, rest, k, -, e, -, hb, hl, hm, hel, hE, -, -⟩
 ·simp at e
  subst e
  exact ⟨⟨none, 0, []⟩, rfl, ⟨Nat.zero_le _, Mem.zt4 _ _, fun n hn => by cases hn⟩⟩
 ·simp at e
  subst e
  have each : ∀ i, i < len → ∃ n : Pl.Nd, zg7.Ok n ∧ (∃ b o, some a = some ⟨b, o, none⟩ ∧ b < w.heap.size ∧
    w.cell? ⟨b, o + i * 5, none⟩ = some (.string n.path) ∧ w.cell? ⟨b, o + i * 5 + 1, none⟩ = some (.int .i64 n.kind) ∧ w.cell? ⟨b, o + i * 5 + 2, none⟩ = some (.string n.data) ∧
    w.cell? ⟨b, o + i * 5 + 3, none⟩ = some (.int .i64 n.time) ∧ w.cell? ⟨b, o + i * 5 + 4, none⟩ = some (.int .i64 n.mark)) := by
   intro i hi
   have h1 := hE i hi
   rw [List.getElem?_eq_getElem (by omega), zg7.cells5] at h1
   simp only [Option.bind_eq_some_iff] at h1
   obtain ⟨ds, h2, h3⟩ := h1
   obtain ⟨n, rfl, ok⟩ := zg7.node h3
   unfold World.cells? at h2
   split at h2
   rotate_left
   ·cases h2
   obtain ⟨g0, g1, g2, g3, g4⟩ := zk2.mapM5 h2
   obtain ⟨b, o, spot⟩ := a
   have hspot : spot = none := by
    have h1 := hE 0 (by omega)
    rw [List.getElem?_eq_getElem (by omega), zg7.cells5] at h1
    simp only [Option.bind_eq_some_iff] at h1
    obtain ⟨ds, h2, h3⟩ := h1
    obtain ⟨n, rfl, ok⟩ := zg7.node h3
    unfold World.cells? at h2
    split at h2
    rotate_left
    ·cases h2
    simpa [Addr.add] using World.cell?_spot (zk2.mapM5 h2).1
   subst hspot
   have add : ∀ j, ((⟨b, o, none⟩ : Addr).add (i * 5)).add j = ⟨b, o + i * 5 + j, none⟩ := fun j => by rw [Mem.zn8, Mem.zn8]
   rw [add] at g0 g1 g2 g3 g4
   exact ⟨n, ok, b, o, rfl, World.block_lt_of_cell? w ⟨b, o + i * 5 + 0, none⟩ g0, g0, g1, g2, g3, g4⟩
  refine ⟨⟨some a, cap, List.ofFn (fun i : Fin len => Classical.choose (each i i.2))⟩, by simp [Pl.Tr.val], ⟨by simp; omega, fun i n hn => ?_, fun n hn => ?_⟩⟩
  ·rw [List.getElem?_ofFn] at hn
   split at hn
   ·cases hn; exact (Classical.choose_spec (each i (by assumption))).2
   ·cases hn
  ·obtain ⟨i, rfl⟩ := List.mem_ofFn.1 hn
   exact (Classical.choose_spec (each i i.2)).1
set_option maxRecDepth 100000 in
theorem item {H : Type} {enc : TypeId × Value → H} {w : World} {base fuel : Nat} {spare : Nat → Bool} {held : Bool} {cs : List Value} {x : DataW H × List MemPlace}
  (hf : DataW.trod enc Tryz.prog w base spare held fuel 59 cs = some x) : ∃ y : Pl.It, cs = [.int .i64 y.m, y.t.val] ∧ zk2.OkT w y.t.a y.t.L := by
 obtain ⟨xs, m, rfl, -, hlen, hxl, hfl⟩ := DataW.trod_struct Tryz.underlying59 hf
 obtain ⟨c, d, rfl⟩ := two (hlen.trans cells2)
 obtain ⟨y, z, rfl⟩ := two hxl
 have h0 := hfl 0 _ rfl
 have h1 := hfl 1 _ rfl
 change DataW.trod enc Tryz.prog w base spare held m 2 (([c, d].drop 0).take (Tryz.prog.cellsOf 2)) = some y at h0
 change DataW.trod enc Tryz.prog w base spare held m 57 (([c, d].drop 1).take (Tryz.prog.cellsOf 57)) = some z at h1
 rw [zb0] at h0
 rw [zk2.cells1] at h1
 obtain ⟨t, e, ok⟩ := tree h1
 obtain ⟨n, e0, -, -⟩ := DataW.trod_int Tryz.underlying2 h0
 simp at e e0
 subst e e0
 exact ⟨⟨n, t⟩, rfl, ok⟩
end zk8
end Go.Proofs.YtlgbdbmikmbioaaGreatDoor

