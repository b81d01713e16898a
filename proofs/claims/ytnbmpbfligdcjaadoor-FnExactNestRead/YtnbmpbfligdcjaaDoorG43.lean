/- Several texts of one claim in one file: WLawK, WMkQ, WMkR. -/
import Derived.Test.YtnbmpbfligdcjaaDoorG42
import Derived.Test.YtnbmpbfligdcjaaDoorG40
/- The walks of eqItem and eqItemS. -/
namespace Go.Proofs.YtnbmpbfligdcjaaDoor
open Go.RowKit
namespace WLaw
set_option maxRecDepth 100000 in
set_option maxHeartbeats 800000 in
theorem eqItem_any (m : Int) (a b : Option Addr) (c1 c2 : Nat) (L : List Pl.Nd) (w : World) (hl : L.length ≤ 1048576) (hv : Mem.isNodes w a L) (hu : Mem.isNodes w b L) :
    Calls Tryd.prog 51 #[.agg #[.int .i64 m, .slice a L.length c1], .agg #[.int .i64 m, .slice b L.length c2]] w fun e w' => e = .returned (.bool true) ∧ Below w.heap.size w w' := by
  have b0 : ∀ o1 o2, Below w.heap.size w ((w.alloc o1).alloc o2) := fun o1 o2 => ((Below.refl _ _).alloc (Nat.le_refl _) o1).alloc (by simp) o2
  have HB := hide b0
  have HZ := hide (fun W (b' : Below w.heap.size w W) => eqTree_any a b c1 c2 L W hl (Mem.nodes_call hv b') (Mem.nodes_call hu b'))
  clear hv hu b0
  go_enter Tryd.func51, Tryd.ntmps51
  go_wp2_with fail
  refine (unhide HZ _ (unhide HB _ _)).mono ?_
  rintro e w1 ⟨rfl, b1⟩
  have bb := (unhide HB _ _).trans (b1.mono (unhide HB _ _).size)
  clear HZ b1
  go_wp2
  go_ret
  exact ⟨rfl, bb⟩
set_option maxRecDepth 100000 in
set_option maxHeartbeats 800000 in
theorem eqItemS_any (a b : Option Addr) (c1 c2 : Nat) (Ts Us : List Pl.It) (w : World) (hl : Ts.length ≤ 1048576) (hm : Us.map Pl.It.r = Ts.map Pl.It.r) (hv : Mem.isItems w a Ts) (hu : Mem.isItems w b Us) (hok : ∀ t ∈ Ts, t.t.L.length ≤ 1048576) :
    Calls Tryd.prog 21 #[.slice a Ts.length c1, .slice b Ts.length c2] w fun e w' => e = .returned (.bool true) ∧ Below w.heap.size w w' := by
  have HV := hide hv
  have HU := hide hu
  have HO := hide hok
  have HM := hide hm
  clear hv hu hok hm
  go_enter Tryd.func21, Tryd.ntmps21
  go_wp2
  go_loopw [5] (fun i wr => ∃ k : Nat, k ≤ Ts.length ∧ i = .int .i64 (k : Int) ∧ Below w.heap.size w wr) (fun i _ => Ts.length - (intOf i).toNat)
  case atStart => exact ⟨0, Nat.zero_le _, rfl, Below.refl _ _⟩
  case round =>
    obtain ⟨k, hk, rfl, hbel⟩ := hrel
    by_cases hlt : k < Ts.length
    · obtain ⟨t, ht⟩ : ∃ n, Ts[k]? = some n := ⟨_, List.getElem?_eq_getElem hlt⟩
      obtain ⟨u, hu, hum, hul⟩ : ∃ u, Us[k]? = some u ∧ u.m = t.m ∧ u.t.L = t.t.L := by
        have h := congrArg (fun l => l[k]?) (unhide HM)
        simp only [List.getElem?_map, ht, Option.map_some] at h
        cases hu : Us[k]? with
        | none => rw [hu] at h; simp at h
        | some u => rw [hu] at h; simp [Pl.It.r] at h; exact ⟨u, rfl, h.1, h.2⟩
      obtain ⟨⟨g, o, rfl, hg, q0, q0'⟩, q1⟩ := (unhide HV) k t ht
      obtain ⟨⟨g2, o2, rfl, hg2, p0, p0'⟩, p1⟩ := (unhide HU) k u hu
      rw [hul] at p1
      have hz := hide (fun W (b : Below w.heap.size w W) => eqItem_any t.m t.t.a u.t.a t.t.cap u.t.cap t.t.L W (unhide HO t (List.mem_of_getElem? ht)) (Mem.nodes_call q1 b) (Mem.nodes_call p1 b))
      have MK : Hid (∀ W', Below w.heap.size w W' → (Below w.heap.size w W' ∧ W'.cell? ⟨g, o + k * 2, none⟩ = some (.int .i64 t.m) ∧ W'.cell? ⟨g, o + k * 2 + 1, none⟩ = some (.slice t.t.a t.t.L.length t.t.cap) ∧ W'.cell? ⟨g2, o2 + k * 2, none⟩ = some (.int .i64 t.m) ∧ W'.cell? ⟨g2, o2 + k * 2 + 1, none⟩ = some (.slice u.t.a t.t.L.length u.t.cap))) := fun W' hb' => ⟨hb', (hb'.cell (p := ⟨g, _, none⟩) hg).trans q0, (hb'.cell (p := ⟨g, _, none⟩) hg).trans (by rw [q0', Pl.Tr.val]), (hb'.cell (p := ⟨g2, _, none⟩) hg2).trans (by rw [p0, hum]), (hb'.cell (p := ⟨g2, _, none⟩) hg2).trans (by rw [p0', Pl.Tr.val, hul])⟩
      have u1 : (k : Int) < (Ts.length : Int) := by omega
      have u3 : (0 : Int) ≤ (k : Int) := by omega
      have hbd : Below w.heap.size w wr.drew := ⟨hbel.os, hbel.tape, hbel.output, hbel.size, hbel.block⟩
      clear q0 p0 q0' p0' ht hu hul hum q1 p1
      go_wp2_with fail
      go_region_held3 (fun W' => Below w.heap.size w W' ∧ W'.cell? ⟨g, o + k * 2, none⟩ = some (.int .i64 t.m) ∧ W'.cell? ⟨g, o + k * 2 + 1, none⟩ = some (.slice t.t.a t.t.L.length t.t.cap) ∧ W'.cell? ⟨g2, o2 + k * 2, none⟩ = some (.int .i64 t.m) ∧ W'.cell? ⟨g2, o2 + k * 2 + 1, none⟩ = some (.slice u.t.a t.t.L.length u.t.cap)) (first | exact unhide MK _ hbd | exact unhide MK _ (hbd.trans (bX.mono hbd.size))) (first | (go_at_call 51; refine (unhide hz _ hbd).mono ?_; rintro e wX ⟨rfl, bX⟩))
      have hb2 := hbd.trans (bX.mono hbd.size)
      clear hbel hbd bX MK
      go_wp2
      go_roundw
      case rel => exact ⟨k + 1, by omega, by go_num, hb2⟩
      case measure => simp [intOf]; omega
    · have u1 : ¬ (k : Int) < (Ts.length : Int) := by omega
      go_wp2
      go_ret
      exact ⟨rfl, hbel⟩
end WLaw
end Go.Proofs.YtnbmpbfligdcjaaDoor

/- The walks of eqNestOut, markNestOut, heldNestOut. -/
namespace Go.Proofs.YtnbmpbfligdcjaaDoor
open Go.RowKit
namespace Pl
theorem kAt_le (K : Nat) {Is : List It} (h : ∀ x ∈ Is, x.t.L.length ≤ 40) (i : Nat) : kAt K Is i ≤ K + i * 201 := by
  induction i with
  | zero => exact Nat.le_refl _
  | succ i ih =>
    simp only [kAt]
    cases hi : Is[i]? with
    | none => simp only; omega
    | some x =>
      have := h x (List.mem_of_getElem? hi)
      simp only; omega
end Pl
namespace WMkQ
set_option maxRecDepth 100000 in
theorem mark_any (a : Option Addr) (cap S G : Nat) (c : Int) (Is : List Pl.It) (w : World) (hn : Is.length ≤ 12) (hL : ∀ x ∈ Is, x.t.L.length ≤ 40) (h : Mem.Io w S (.slice a Is.length cap) Is) (hG : ∀ g, (Value.slice a Is.length cap).ownBlock = some g → g < G) (hG2 : ∀ x ∈ Is, ∀ g, x.t.val.ownBlock = some g → g < G) :
    Calls Tryd.prog 25 #[.agg #[.slice a Is.length cap, .int .i64 c], .int .i64 1] w fun e w' => e = .returned (.int .i64 (Pl.kAt 1 Is Is.length : Int)) ∧ Mem.isItems w' a (Pl.mkTo 1 Is Is.length) ∧ Mem.Band S G w w' := by
  have b0 : ∀ o, Below w.heap.size w (w.alloc o) := fun o => (Below.refl _ _).alloc (Nat.le_refl _) o
  have HB := hide b0
  have hl := hide (fun W (b : Below w.heap.size w W) => WMkB.mark_own a cap 1 S G Is W (by omega) (fun x hx => Nat.le_trans (hL x hx) (by decide)) (by decide) (fun i hi => Nat.le_trans (Pl.kAt_le 1 hL i) (by omega)) (h.call b) hG hG2)
  generalize Pl.mkTo 1 Is Is.length = MT at hl ⊢
  generalize Pl.kAt 1 Is Is.length = KA at hl ⊢
  clear b0 h hL hG hG2
  go_enter Tryd.func25, Tryd.ntmps25
  go_wp2_with fail
  refine (unhide hl _ (unhide HB _)).mono ?_
  rintro e w1 ⟨rfl, h1, b1⟩
  have H := hide ((Mem.Band.of_below (unhide HB _)).trans b1)
  have HI := hide h1
  clear h1 hl HB b1
  go_wp2
  go_ret
  exact ⟨rfl, unhide HI, unhide H⟩
set_option maxRecDepth 100000 in
theorem held_any (a : Option Addr) (cap : Nat) (c : Int) (Is : List Pl.It) (w : World) (hn : Is.length ≤ 12) (hL : ∀ x ∈ Is, x.t.L.length ≤ 40) (hv : Mem.isItems w a (Pl.mkTo 1 Is Is.length)) :
    Calls Tryd.prog 26 #[.agg #[.slice a Is.length cap, .int .i64 c], .int .i64 1] w fun e w' => e = .returned (.int .i64 (Pl.kAt 1 Is Is.length : Int)) ∧ Below w.heap.size w w' := by
  have b0 : ∀ o, Below w.heap.size w (w.alloc o) := fun o => (Below.refl _ _).alloc (Nat.le_refl _) o
  have HB := hide b0
  have hl := hide (fun W (b : Below w.heap.size w W) => WMarkI.held_any a cap 1 Is W (by omega) (fun x hx => Nat.le_trans (hL x hx) (by decide)) (by decide) (fun i hi => Nat.le_trans (Pl.kAt_le 1 hL i) (by omega)) (Mem.items_call hv b))
  clear hv b0 hL
  generalize Pl.kAt 1 Is Is.length = q at hl ⊢
  have t0 : ¬ (q : Int) < 0 := by omega
  go_enter Tryd.func26, Tryd.ntmps26
  go_wp2_with fail
  refine (unhide hl _ (unhide HB _)).mono ?_
  rintro e w1 ⟨rfl, b1⟩
  have b2 := (unhide HB _).trans (b1.mono (unhide HB _).size)
  clear b1 hl
  go_wp2
  go_ret
  exact ⟨rfl, b2⟩
set_option maxRecDepth 100000 in
theorem eq_any (a b : Option Addr) (c1 c2 : Nat) (c : Int) (Ts Us : List Pl.It) (w : World) (hl : Ts.length ≤ 12) (hm : Us.map Pl.It.r = Ts.map Pl.It.r) (hL : ∀ x ∈ Ts, x.t.L.length ≤ 40) (hv : Mem.isItems w a Ts) (hu : Mem.isItems w b Us) :
    Calls Tryd.prog 24 #[.agg #[.slice a Ts.length c1, .int .i64 c], .agg #[.slice b Ts.length c2, .int .i64 c]] w fun e w' => e = .returned (.bool true) ∧ Below w.heap.size w w' := by
  have b0 : Below w.heap.size w ((w.alloc (.cells #[.slice a Ts.length c1, .int .i64 c] 47)).alloc (.cells #[.slice b Ts.length c2, .int .i64 c] 47)) := ((Below.refl _ _).alloc (Nat.le_refl _) _).alloc (by simp) _
  have va := Mem.var_alloc (Mem.var_new w [.slice a Ts.length c1, .int .i64 c] 47) (.cells #[.slice b Ts.length c2, .int .i64 c] 47)
  have vb := Mem.var_new (w.alloc (.cells #[.slice a Ts.length c1, .int .i64 c] 47)) [.slice b Ts.length c2, .int .i64 c] 47
  rw [show (w.alloc (.cells #[.slice a Ts.length c1, .int .i64 c] 47)).heap.size = w.heap.size + 1 by simp] at vb
  have he := hide (fun W (bw : Below w.heap.size w W) => WLaw.eqItemS_any a b c1 c2 Ts Us W (by omega) hm (Mem.items_call hv bw) (Mem.items_call hu bw) (fun x hx => Nat.le_trans (hL x hx) (by decide)))
  clear hv hu hm hL
  have k5' := va.2 0 _ rfl
  have d5' := vb.2 0 _ rfl
  go_enter Tryd.func24, Tryd.ntmps24
  go_wp2_with fail
  refine (unhide he _ b0).mono ?_
  rintro e w1 ⟨rfl, b1⟩
  have bw1 := b0.trans (b1.mono b0.size)
  have k5 := (Mem.var_call va b1).2 1 _ rfl
  have d5 := (Mem.var_call vb b1).2 1 _ rfl
  clear he va vb b0 b1 k5' d5'
  go_wp2
  go_ret
  exact ⟨rfl, bw1⟩
end WMkQ
end Go.Proofs.YtnbmpbfligdcjaaDoor

/- What a law over nests' answers keeps from call to call. -/
namespace Go.Proofs.YtnbmpbfligdcjaaDoor
open Go.RowKit
namespace Mem
theorem Io.band {W W' : World} {S Y X : Nat} {v : Value} {Is : List Pl.It} (h : Io W S v Is) (b : Band Y X W W') (hv : ∀ g, v.ownBlock = some g → g < Y ∨ X ≤ g) (hx : ∀ x ∈ Is, ∀ g, x.t.val.ownBlock = some g → g < Y ∨ X ≤ g) : Io W' S v Is :=
  ⟨b.row h.row hv, fun i x hi => ⟨b.row (h.each i x hi).1 (hx x (List.mem_of_getElem? hi)), (h.each i x hi).2⟩, h.apart⟩
theorem Io.mem_lt {W : World} {S : Nat} {v : Value} {Is : List Pl.It} (h : Io W S v Is) : ∀ x ∈ Is, ∀ g, x.t.val.ownBlock = some g → S ≤ g ∧ g < W.heap.size := fun x hx g hg => by
  obtain ⟨i, hi⟩ := List.getElem?_of_mem hx
  exact h.lt.2 i x hi g hg
end Mem
namespace WMkR
/-- What the specification answered. -/
structure OW (w W : World) (Y B1 : Nat) (aw : Option Addr) (cw : Nat) (U : List Pl.It) (O : List (Int × List Pl.Nd)) (c : Int) : Prop where
  bel : Below w.heap.size w W
  var : Mem.Blk W Y #[.slice aw O.length cw, .int .i64 c] 47
  own : Mem.Io W B1 (.slice aw O.length cw) U
  reads : U.map Pl.It.r = O
  hi : ∀ g, (Value.slice aw O.length cw).ownBlock = some g → g < Y
  hi2 : ∀ x ∈ U, ∀ g, x.t.val.ownBlock = some g → g < Y
  y : w.heap.size ≤ Y
theorem OW.call {w W W' : World} {aw : Option Addr} {Y B1 cw : Nat} {U : List Pl.It} {O : List (Int × List Pl.Nd)} {c : Int} (h : OW w W Y B1 aw cw U O c) (b : Below W.heap.size W W') : OW w W' Y B1 aw cw U O c :=
  ⟨h.bel.trans (b.mono h.bel.size), h.var.call b, h.own.call b, h.reads, h.hi, h.hi2, h.y⟩
theorem OW.band {w W W' : World} {aw : Option Addr} {Y B1 cw g X : Nat} {U : List Pl.It} {O : List (Int × List Pl.Nd)} {c : Int} (h : OW w W Y B1 aw cw U O c) (b : Mem.Band g X W W') (hg : Y < g) : OW w W' Y B1 aw cw U O c :=
  ⟨b.below h.bel (by have := h.y; omega) h.bel.size, b.blk h.var (.inl hg), h.own.band b (fun q hq => .inl (by have := h.hi q hq; omega)) (fun x hx q hq => .inl (by have := h.hi2 x hx q hq; omega)), h.reads, h.hi, h.hi2, h.y⟩
theorem OW.items {w W : World} {aw : Option Addr} {Y B1 cw : Nat} {U : List Pl.It} {O : List (Int × List Pl.Nd)} {c : Int} (h : OW w W Y B1 aw cw U O c) : Mem.isItems W aw U := h.own.items.2
/-- What the program answered. -/
structure G0 (W : World) (G B3 : Nat) (ag : Option Addr) (cg : Nat) (U : List Pl.It) (O : List (Int × List Pl.Nd)) (c : Int) : Prop where
  var : Mem.Blk W G #[.slice ag O.length cg, .int .i64 c] 47
  own : Mem.Io W B3 (.slice ag O.length cg) U
  reads : U.map Pl.It.r = O
  hi : ∀ g, (Value.slice ag O.length cg).ownBlock = some g → g < G
  hi2 : ∀ x ∈ U, ∀ g, x.t.val.ownBlock = some g → g < G
  b : B3 ≤ G
theorem G0.call {W W' : World} {G B3 cg : Nat} {ag : Option Addr} {U : List Pl.It} {O : List (Int × List Pl.Nd)} {c : Int} (h : G0 W G B3 ag cg U O c) (b : Below W.heap.size W W') : G0 W' G B3 ag cg U O c :=
  ⟨h.var.call b, h.own.call b, h.reads, h.hi, h.hi2, h.b⟩
theorem G0.band {W W' : World} {G X cg g : Nat} {ag : Option Addr} {U : List Pl.It} {O : List (Int × List Pl.Nd)} {c : Int} (h : G0 W G X ag cg U O c) (b : Mem.Band g X W W') : G0 W' G X ag cg U O c :=
  ⟨b.blk h.var (.inr h.b), h.own.band b (fun q hq => .inr (h.own.lt.1 q hq).1) (fun x hx q hq => .inr (h.own.mem_lt x hx q hq).1), h.reads, h.hi, h.hi2, h.b⟩
theorem G0.items {W : World} {G B3 cg : Nat} {ag : Option Addr} {U : List Pl.It} {O : List (Int × List Pl.Nd)} {c : Int} (h : G0 W G B3 ag cg U O c) : Mem.isItems W ag U := h.own.items.2
/-- .. and the marks on it. -/
structure M0 (W : World) (G : Nat) (ag : Option Addr) (n cg : Nat) (M : List Pl.It) (c : Int) : Prop where
  var : Mem.Blk W G #[.slice ag n cg, .int .i64 c] 47
  items : Mem.isItems W ag M
theorem M0.call {W W' : World} {G n cg : Nat} {ag : Option Addr} {M : List Pl.It} {c : Int} (h : M0 W G ag n cg M c) (b : Below W.heap.size W W') : M0 W' G ag n cg M c :=
  ⟨h.var.call b, Mem.items_call h.items b⟩
theorem len_of {U : List Pl.It} {O : List (Int × List Pl.Nd)} (h : U.map Pl.It.r = O) : U.length = O.length := by rw [← h, List.length_map]
theorem le_of {U : List Pl.It} {O : List (Int × List Pl.Nd)} (h : U.map Pl.It.r = O) (hO : ∀ x ∈ O, x.2.length ≤ 40) : ∀ x ∈ U, x.t.L.length ≤ 40 := fun x hx => hO x.r (by rw [← h]; exact List.mem_map.2 ⟨x, hx, rfl⟩)
theorem eq_any (O : List (Int × List Pl.Nd)) (hO : O.length ≤ 12) (hL : ∀ x ∈ O, x.2.length ≤ 40) (a b : Option Addr) (c1 c2 : Nat) (c : Int) (T U : List Pl.It) (w : World) (hT : T.map Pl.It.r = O) (hU : U.map Pl.It.r = O) (hv : Mem.isItems w a T) (hu : Mem.isItems w b U) :
    Calls Tryd.prog 24 #[.agg #[.slice a O.length c1, .int .i64 c], .agg #[.slice b O.length c2, .int .i64 c]] w fun e w' => e = .returned (.bool true) ∧ Below w.heap.size w w' := by
  have := WMkQ.eq_any a b c1 c2 c T U w (by rw [len_of hT]; exact hO) (hU.trans hT.symm) (le_of hT hL) hv hu
  rw [len_of hT] at this
  exact this
theorem mark_any (O : List (Int × List Pl.Nd)) (hO : O.length ≤ 12) (hL : ∀ x ∈ O, x.2.length ≤ 40) (a : Option Addr) (cap S G : Nat) (c : Int) (U : List Pl.It) (w : World) (h : G0 w G S a cap U O c) :
    Calls Tryd.prog 25 #[.agg #[.slice a O.length cap, .int .i64 c], .int .i64 1] w fun e w' => e = .returned (.int .i64 (Pl.kAt 1 U O.length : Int)) ∧ M0 w' G a O.length cap (Pl.mkTo 1 U O.length) c ∧ Mem.Band S G w w' := by
  have e := len_of h.reads
  have := WMkQ.mark_any a cap S G c U w (by rw [e]; exact hO) (le_of h.reads hL) (by rw [e]; exact h.own) (by rw [e]; exact h.hi) h.hi2
  rw [e] at this
  exact this.mono fun _ _ ⟨h1, h2, h3⟩ => ⟨h1, ⟨h3.blk h.var (.inr (Nat.le_refl _)), h2⟩, h3⟩
theorem held_any (O : List (Int × List Pl.Nd)) (hO : O.length ≤ 12) (hL : ∀ x ∈ O, x.2.length ≤ 40) (a : Option Addr) (cap G : Nat) (c : Int) (U : List Pl.It) (w : World) (hU : U.map Pl.It.r = O) (h : M0 w G a O.length cap (Pl.mkTo 1 U O.length) c) :
    Calls Tryd.prog 26 #[.agg #[.slice a O.length cap, .int .i64 c], .int .i64 1] w fun e w' => e = .returned (.int .i64 (Pl.kAt 1 U O.length : Int)) ∧ Below w.heap.size w w' := by
  have e := len_of hU
  have := WMkQ.held_any a cap c U w (by rw [e]; exact hO) (le_of hU hL) (by rw [e]; exact h.items)
  rw [e] at this
  exact this
end WMkR
end Go.Proofs.YtnbmpbfligdcjaaDoor

