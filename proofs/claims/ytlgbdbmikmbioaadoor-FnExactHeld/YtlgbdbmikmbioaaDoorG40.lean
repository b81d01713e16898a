/- Several texts of one claim in one file: WSpS5, OkNode, OpenNode, OpenTree, OkItems, OpenItems. -/
import Derived.Test.YtlgbdbmikmbioaaDoorWSpS2
import Derived.Test.YtlgbdbmikmbioaaDoorWSpS3
import Derived.Test.YtlgbdbmikmbioaaDoorWSpS4
import Derived.Test.YtlgbdbmikmbioaaDoorG02
import Derived.Test.YtlgbdbmikmbioaaDoorG01
import Derived.Test.YtlgbdbmikmbioaaDoorRows
import Derived.ProofKit
import Derived.OpenShut
import Derived.ShutString
import Derived.ChangeOld
import Derived.Test.YtlgbdbmikmbioaaDoorG05
import Derived.Test.YtlgbdbmikmbioaaDoorG07
/- The specification's SpaceRight. -/
namespace Go.Proofs.YtlgbdbmikmbioaaDoor
open Go.RowKit
namespace WSp
set_option linter.unusedSimpArgs false in
set_option maxRecDepth 100000 in
set_option maxHeartbeats 1000000 in
theorem right_any (s : Pl.Sp) (w : World) (hok : WLawSp.OkS s 1048576) (hv : Mem.isSpace w s) :
    Calls Tryd.prog 6 #[.agg s.cs] w fun e w' => e = .returned (.bool (Pl.spaceB s.next (s.N.map nr) s.M s.H Pl.wayB)) ∧ Below w.heap.size w w' := by
  have h0 := hide (fun W => is_below s.next 1 1000000 W)
  have h1 := hide (fun W (b : Below w.heap.size w W) hn0 hn1 => handles_any s W hok (hv.call b) hn0 hn1)
  have h2 := hide (fun W (b : Below w.heap.size w W) => mounts_any s W hok (hv.call b))
  have h3 := hide (fun W (b : Below w.heap.size w W) hn0 hn1 => insts_any s W hok (hv.call b) hn0 hn1)
  have HEQ : Hid (Pl.spaceB s.next (s.N.map nr) s.M s.H Pl.wayB = (Pl.isB s.next 1 1000000 && Pl.handsB (s.N.map (·.d)) s.next Pl.wayB s.H && Pl.mountsB (s.N.map (·.d)) s.M && Pl.instsB s.M s.H s.next (s.N.map nr))) := hide (by
    unfold Pl.spaceB
    rw [List.map_map]
    rfl)
  have HIS : Hid (Pl.isB s.next 1 1000000 = true → 1 ≤ s.next ∧ s.next ≤ 1000000) := hide (fun h => (Pl.isB_iff _ _ _).1 h)
  generalize Pl.spaceB s.next (s.N.map nr) s.M s.H Pl.wayB = R at HEQ ⊢
  generalize Pl.isB s.next 1 1000000 = R0 at HEQ h0 HIS
  generalize Pl.handsB (s.N.map (·.d)) s.next Pl.wayB s.H = R1 at HEQ h1
  generalize Pl.mountsB (s.N.map (·.d)) s.M = R2 at HEQ h2
  generalize Pl.instsB s.M s.H s.next (s.N.map nr) = R3 at HEQ h3
  clear hok hv
  obtain ⟨ia, ic, N, ma, mc, M, ha, hc, H, next⟩ := s
  simp only at h0 h1 h2 h3 HIS ⊢
  unfold Pl.Sp.cs at h1 h2 h3 ⊢
  simp only at h1 h2 h3 ⊢
  have b0 := (Below.refl w.heap.size w).alloc (o := .cells #[.slice ia N.length ic, .slice ma M.length mc, .slice ha H.length hc, .int .i64 next] 33) (Nat.le_refl _)
  have V0 := hide (Mem.Blk.new w #[.slice ia N.length ic, .slice ma M.length mc, .slice ha H.length hc, .int .i64 next] 33)
  have a0 := (unhide V0).cell 0
  have a1 := (unhide V0).cell 1
  have a2 := (unhide V0).cell 2
  have a3 := (unhide V0).cell 3
  simp only [kA0, kA1, kA2] at a0 a1 a2 a3
  go_enter Tryd.func6, Tryd.ntmps6
  go_wp2_with fail
  generalize w.alloc (.cells #[.slice ia N.length ic, .slice ma M.length mc, .slice ha H.length hc, .int .i64 next] 33) = wA at b0 V0 a0 a1 a2 a3 ⊢
  refine (unhide h0 _).mono ?_
  rintro e w1 ⟨rfl, bX⟩
  have b1 := b0.trans (bX.mono b0.size)
  have V1 := hide ((unhide V0).call bX)
  clear a0 a1 a2 a3 V0 b0 bX h0
  cases R0
  · have HE : Hid (R = false) := hide (unhide HEQ)
    clear HEQ h1 h2 h3 HIS
    go_wp2
    go_ret
    exact ⟨(by rw [unhide HE]; first | done | rfl), b1⟩
  obtain ⟨n0, n1⟩ := unhide HIS rfl
  have a0 := (unhide V1).cell 0
  have a1 := (unhide V1).cell 1
  have a2 := (unhide V1).cell 2
  have a3 := (unhide V1).cell 3
  simp only [kA0, kA1, kA2] at a0 a1 a2 a3
  have HC := hide (unhide h1 _ b1 n0 n1)
  clear h1 HIS
  go_wp2_with fail
  refine (unhide HC).mono ?_
  rintro e w2 ⟨rfl, bX⟩
  have b2 := b1.trans (bX.mono b1.size)
  have V2 := hide ((unhide V1).call bX)
  clear a0 a1 a2 a3 V1 b1 bX HC
  cases R1
  · have HE : Hid (R = false) := hide (unhide HEQ)
    clear HEQ h2 h3
    go_wp2
    go_ret
    exact ⟨(by rw [unhide HE]; first | done | rfl), b2⟩
  have a0 := (unhide V2).cell 0
  have a1 := (unhide V2).cell 1
  have a2 := (unhide V2).cell 2
  have a3 := (unhide V2).cell 3
  simp only [kA0, kA1, kA2] at a0 a1 a2 a3
  have HC := hide (unhide h2 _ b2)
  clear h2
  go_wp2_with fail
  refine (unhide HC).mono ?_
  rintro e w3 ⟨rfl, bX⟩
  have b3 := b2.trans (bX.mono b2.size)
  have V3 := hide ((unhide V2).call bX)
  clear a0 a1 a2 a3 V2 b2 bX HC
  cases R2
  · have HE : Hid (R = false) := hide (unhide HEQ)
    clear HEQ h3
    go_wp2
    go_ret
    exact ⟨(by rw [unhide HE]; first | done | rfl), b3⟩
  have a0 := (unhide V3).cell 0
  have a1 := (unhide V3).cell 1
  have a2 := (unhide V3).cell 2
  have a3 := (unhide V3).cell 3
  simp only [kA0, kA1, kA2] at a0 a1 a2 a3
  have HC := hide (unhide h3 _ b3 n0 n1)
  clear h3
  go_wp2_with fail
  refine (unhide HC).mono ?_
  rintro e w4 ⟨rfl, bX⟩
  have b4 := b3.trans (bX.mono b3.size)
  have HE : Hid (R = R3) := hide (unhide HEQ)
  clear a0 a1 a2 a3 V3 b3 bX HC HEQ n0 n1
  go_wp2
  go_ret
  exact ⟨(by rw [unhide HE]; first | done | rfl), b4⟩
end WSp
end Go.Proofs.YtlgbdbmikmbioaaDoor

/- A node that came in: its bounds. -/
namespace Go.Proofs.YtlgbdbmikmbioaaDoor
open Go.RowKit
namespace OpenN
def Ok (n : Pl.Nd) : Prop := n.path.size ≤ maxLen ∧ n.data.size ≤ maxLen ∧ (-9223372036854775808 ≤ n.kind ∧ n.kind ≤ 9223372036854775807) ∧ (-9223372036854775808 ≤ n.time ∧ n.time ≤ 9223372036854775807) ∧ (-9223372036854775808 ≤ n.mark ∧ n.mark ≤ 9223372036854775807)
end OpenN
end Go.Proofs.YtlgbdbmikmbioaaDoor

/- A Node that came in, opened. -/
namespace Go.Proofs.YtlgbdbmikmbioaaDoor
open Go.ChangeShapes Go.WideShapes Go.ChangeAt Go.RowKit
namespace OpenN
theorem five {α : Type} {l : List α} (h : l.length = 5) : ∃ a b c d e, l = [a, b, c, d, e] := by
  match l, h with
  | [a, b, c, d, e], _ => exact ⟨a, b, c, d, e, rfl⟩
theorem cells5 : Tryd.prog.cellsOf 148 = 5 := by kernel_rfl
theorem cellsS : Tryd.prog.cellsOf 9 = 1 := by kernel_rfl
theorem cellsI : Tryd.prog.cellsOf 2 = 1 := by kernel_rfl
set_option maxRecDepth 100000 in
theorem node {H : Type} {enc : TypeId × Value → H} {w : World} {base fuel : Nat} {spare : Nat → Bool} {held : Bool} {cs : List Value} {x : DataW H × List MemPlace}
    (h : DataW.trod enc Tryd.prog w base spare held fuel 148 cs = some x) : ∃ n : Pl.Nd, cs = n.cells ∧ Ok n := by
  obtain ⟨xs, m, rfl, -, hlen, hxl, hf⟩ := DataW.trod_struct Tryd.underlying148 h
  obtain ⟨c0, c1, c2, c3, c4, rfl⟩ := five (hlen.trans cells5)
  obtain ⟨y0, y1, y2, y3, y4, rfl⟩ := five hxl
  have h0 := hf 0 _ rfl
  have h1 := hf 1 _ rfl
  have h2 := hf 2 _ rfl
  have h3 := hf 3 _ rfl
  have h4 := hf 4 _ rfl
  change DataW.trod enc Tryd.prog w base spare held m 9 (([c0, c1, c2, c3, c4].drop 0).take (Tryd.prog.cellsOf 9)) = some y0 at h0
  rw [cellsS] at h0
  change DataW.trod enc Tryd.prog w base spare held m 2 (([c0, c1, c2, c3, c4].drop 1).take (Tryd.prog.cellsOf 2)) = some y1 at h1
  rw [cellsI] at h1
  change DataW.trod enc Tryd.prog w base spare held m 9 (([c0, c1, c2, c3, c4].drop 2).take (Tryd.prog.cellsOf 9)) = some y2 at h2
  rw [cellsS] at h2
  change DataW.trod enc Tryd.prog w base spare held m 2 (([c0, c1, c2, c3, c4].drop 3).take (Tryd.prog.cellsOf 2)) = some y3 at h3
  rw [cellsI] at h3
  change DataW.trod enc Tryd.prog w base spare held m 2 (([c0, c1, c2, c3, c4].drop 4).take (Tryd.prog.cellsOf 2)) = some y4 at h4
  rw [cellsI] at h4
  obtain ⟨p, e0, -, wp⟩ := DataW.trod_string Tryd.underlying9 h0
  obtain ⟨k, e1, -, wk⟩ := DataW.trod_int Tryd.underlying2 h1
  obtain ⟨d, e2, -, wd⟩ := DataW.trod_string Tryd.underlying9 h2
  obtain ⟨t, e3, -, wt⟩ := DataW.trod_int Tryd.underlying2 h3
  obtain ⟨q, e4, -, wq⟩ := DataW.trod_int Tryd.underlying2 h4
  simp at e0 e1 e2 e3 e4
  subst e0 e1 e2 e3 e4
  exact ⟨⟨p, k, d, t, q⟩, rfl, wp, wd, i64_of_wf wk, i64_of_wf wt, i64_of_wf wq⟩
set_option maxRecDepth 100000 in
theorem node_arg {H : Type} {enc : TypeId × Value → H} {w : World} {base b0 : Nat} {spare : Nat → Bool} {held : Bool} {r : Reach} {v : Value} {d : DataW H} {ps : List MemPlace}
    (hv : Value.okWide Tryd.prog w r b0 148 v) (h : DataW.Trod enc Tryd.prog w base spare held 148 v d ps) : ∃ n : Pl.Nd, v = n.val ∧ Ok n := by
  obtain ⟨cs, rfl, hsz⟩ := okWide_struct Tryd.underlying148 hv
  obtain ⟨fuel, hf⟩ := h
  obtain ⟨n, hn, ok⟩ := node hf
  refine ⟨n, ?_, ok⟩
  simp [Value.cells] at hn
  rw [show cs = n.cells.toArray from by rw [← hn]]
  rfl
end OpenN
end Go.Proofs.YtlgbdbmikmbioaaDoor

/- A Tree that came in, opened. -/
namespace Go.Proofs.YtlgbdbmikmbioaaDoor
open Go.ChangeShapes Go.WideShapes Go.ChangeAt Go.RowKit
namespace OpenT
theorem cells1 : Tryd.prog.cellsOf 107 = 1 := by kernel_rfl
theorem cellsL : Tryd.prog.cellsOf 105 = 1 := by kernel_rfl
structure OkT (w : World) (a : Option Addr) (L : List Pl.Nd) : Prop where
  len : L.length ≤ maxLen
  nodes : Mem.isNodes w a L
  ok : ∀ n ∈ L, OpenN.Ok n
theorem one {α : Type} {l : List α} (h : l.length = 1) : ∃ a, l = [a] := by
  match l, h with
  | [a], _ => exact ⟨a, rfl⟩
theorem mapM5 {f : Nat → Option Value} {c0 c1 c2 c3 c4 : Value} (h : (List.range 5).mapM f = some [c0, c1, c2, c3, c4]) : f 0 = some c0 ∧ f 1 = some c1 ∧ f 2 = some c2 ∧ f 3 = some c3 ∧ f 4 = some c4 := by
  have e : List.range 5 = [0, 1, 2, 3, 4] := rfl
  rw [e] at h
  simp only [List.mapM_cons, List.mapM_nil, Option.pure_def, Option.bind_eq_bind] at h
  cases h0 : f 0 with
  | none => rw [h0] at h; simp at h
  | some a0 =>
    cases h1 : f 1 with
    | none => rw [h0, h1] at h; simp at h
    | some a1 =>
      cases h2 : f 2 with
      | none => rw [h0, h1, h2] at h; simp at h
      | some a2 =>
        cases h3 : f 3 with
        | none => rw [h0, h1, h2, h3] at h; simp at h
        | some a3 =>
          cases h4 : f 4 with
          | none => rw [h0, h1, h2, h3, h4] at h; simp at h
          | some a4 =>
            rw [h0, h1, h2, h3, h4] at h
            simp at h
            obtain ⟨rfl, rfl, rfl, rfl, rfl⟩ := h
            exact ⟨rfl, rfl, rfl, rfl, rfl⟩
set_option maxRecDepth 100000 in
theorem tree_arg {H : Type} {enc : TypeId × Value → H} {w : World} {base b0 : Nat} {spare : Nat → Bool} {held : Bool} {r : Reach} {v : Value} {d : DataW H} {ps : List MemPlace}
    (hv : Value.okWide Tryd.prog w r b0 107 v) (h : DataW.Trod enc Tryd.prog w base spare held 107 v d ps) : ∃ (a : Option Addr) (L : List Pl.Nd) (cap : Nat), v = .agg #[.slice a L.length cap] ∧ OkT w a L := by
  obtain ⟨cs, rfl, hsz⟩ := okWide_struct Tryd.underlying107 hv
  obtain ⟨fuel, hf⟩ := h
  obtain ⟨xs, m, rfl, -, hlen, hxl, hfl⟩ := DataW.trod_struct Tryd.underlying107 hf
  obtain ⟨c, hc⟩ := one (show cs.toList.length = 1 by rw [Array.length_toList, hsz, cells1])
  obtain ⟨y, rfl⟩ := one hxl
  have h0 := hfl 0 _ rfl
  change DataW.trod enc Tryd.prog w base spare held m 105 (((Value.agg cs).cells.toList.drop 0).take (Tryd.prog.cellsOf 105)) = some y at h0
  rw [cellsL, show (Value.agg cs).cells = cs from rfl, hc] at h0
  have hcs : cs = #[c] := by rw [show cs = cs.toList.toArray by simp, hc]
  rcases DataW.trod_slice Tryd.underlying105 h0 with ⟨e, -⟩ | ⟨a, len, cap, elems, rest, k, -, e, -, hb, hl, hm, hel, hE, -, -⟩
  · simp at e
    subst e
    exact ⟨none, [], 0, by rw [hcs]; rfl, ⟨Nat.zero_le _, Mem.nodes_nil _ _, fun n hn => by cases hn⟩⟩
  · simp at e
    subst e
    have each : ∀ i, i < len → ∃ n : Pl.Nd, OpenN.Ok n ∧ (∃ b o, some a = some ⟨b, o, none⟩ ∧ b < w.heap.size ∧
        w.cell? ⟨b, o + i * 5, none⟩ = some (.string n.path) ∧ w.cell? ⟨b, o + i * 5 + 1, none⟩ = some (.int .i64 n.kind) ∧ w.cell? ⟨b, o + i * 5 + 2, none⟩ = some (.string n.data) ∧
        w.cell? ⟨b, o + i * 5 + 3, none⟩ = some (.int .i64 n.time) ∧ w.cell? ⟨b, o + i * 5 + 4, none⟩ = some (.int .i64 n.mark)) := by
      intro i hi
      have h1 := hE i hi
      rw [List.getElem?_eq_getElem (by omega), OpenN.cells5] at h1
      simp only [Option.bind_eq_some_iff] at h1
      obtain ⟨ds, h2, h3⟩ := h1
      obtain ⟨n, rfl, ok⟩ := OpenN.node h3
      unfold World.cells? at h2
      split at h2
      rotate_left
      · cases h2
      obtain ⟨g0, g1, g2, g3, g4⟩ := mapM5 h2
      obtain ⟨b, o, spot⟩ := a
      have hspot : spot = none := by
        have h1 := hE 0 (by omega)
        rw [List.getElem?_eq_getElem (by omega), OpenN.cells5] at h1
        simp only [Option.bind_eq_some_iff] at h1
        obtain ⟨ds, h2, h3⟩ := h1
        obtain ⟨n, rfl, ok⟩ := OpenN.node h3
        unfold World.cells? at h2
        split at h2
        rotate_left
        · cases h2
        simpa [Addr.add] using World.cell?_spot (mapM5 h2).1
      subst hspot
      have add : ∀ j, ((⟨b, o, none⟩ : Addr).add (i * 5)).add j = ⟨b, o + i * 5 + j, none⟩ := fun j => by rw [Mem.add_any, Mem.add_any]
      rw [add] at g0 g1 g2 g3 g4
      exact ⟨n, ok, b, o, rfl, World.block_lt_of_cell? w ⟨b, o + i * 5 + 0, none⟩ g0, g0, g1, g2, g3, g4⟩
    refine ⟨some a, List.ofFn (fun i : Fin len => Classical.choose (each i i.2)), cap, by rw [hcs]; simp, ⟨by simp; omega, fun i n hn => ?_, fun n hn => ?_⟩⟩
    · rw [List.getElem?_ofFn] at hn
      split at hn
      · cases hn; exact (Classical.choose_spec (each i (by assumption))).2
      · cases hn
    · obtain ⟨i, rfl⟩ := List.mem_ofFn.1 hn
      exact (Classical.choose_spec (each i i.2)).1
end OpenT
end Go.Proofs.YtlgbdbmikmbioaaDoor

/- Items that came in: their bounds. -/
namespace Go.Proofs.YtlgbdbmikmbioaaDoor
open Go.RowKit
namespace OpenI
structure OkI (w : World) (a : Option Addr) (Is : List Pl.It) : Prop where
  len : Is.length ≤ maxLen
  items : Mem.isItems w a Is
  ok : ∀ x ∈ Is, x.t.L.length ≤ maxLen ∧ ∀ n ∈ x.t.L, OpenN.Ok n
end OpenI
end Go.Proofs.YtlgbdbmikmbioaaDoor

/- Items that came in, opened. -/
namespace Go.Proofs.YtlgbdbmikmbioaaDoor
open Go.ChangeShapes Go.WideShapes Go.ChangeAt Go.RowKit
namespace OpenI
theorem cells2 : Tryd.prog.cellsOf 109 = 2 := by kernel_rfl
theorem cellsI : Tryd.prog.cellsOf 2 = 1 := by kernel_rfl
theorem cellsL : Tryd.prog.cellsOf 56 = 1 := by kernel_rfl
theorem mapM2 {f : Nat → Option Value} {c0 c1 : Value} (h : (List.range 2).mapM f = some [c0, c1]) : f 0 = some c0 ∧ f 1 = some c1 := by
  have e : List.range 2 = [0, 1] := rfl
  rw [e] at h
  simp only [List.mapM_cons, List.mapM_nil, Option.pure_def, Option.bind_eq_bind] at h
  cases h0 : f 0 with
  | none => rw [h0] at h; simp at h
  | some a0 =>
    cases h1 : f 1 with
    | none => rw [h0, h1] at h; simp at h
    | some a1 => rw [h0, h1] at h; simp at h; exact ⟨by rw [h.1], by rw [h.2]⟩
theorem two {α : Type} {l : List α} (h : l.length = 2) : ∃ a b, l = [a, b] := by
  match l, h with
  | [a, b], _ => exact ⟨a, b, rfl⟩
set_option maxRecDepth 100000 in
theorem tree {H : Type} {enc : TypeId × Value → H} {w : World} {base fuel : Nat} {spare : Nat → Bool} {held : Bool} {cs : List Value} {x : DataW H × List MemPlace}
    (hf : DataW.trod enc Tryd.prog w base spare held fuel 107 cs = some x) : ∃ t : Pl.Tr, cs = [t.val] ∧ OpenT.OkT w t.a t.L := by
  obtain ⟨xs, m, rfl, -, hlen, hxl, hfl⟩ := DataW.trod_struct Tryd.underlying107 hf
  obtain ⟨c, rfl⟩ := OpenT.one (hlen.trans OpenT.cells1)
  obtain ⟨y, rfl⟩ := OpenT.one hxl
  have h0 := hfl 0 _ rfl
  change DataW.trod enc Tryd.prog w base spare held m 105 (([c].drop 0).take (Tryd.prog.cellsOf 105)) = some y at h0
  rw [OpenT.cellsL] at h0
  rcases DataW.trod_slice Tryd.underlying105 h0 with ⟨e, -⟩ | ⟨a, len, cap, elems, rest, k, -, e, -, hb, hl, hm, hel, hE, -, -⟩
  · simp at e
    subst e
    exact ⟨⟨none, 0, []⟩, rfl, ⟨Nat.zero_le _, Mem.nodes_nil _ _, fun n hn => by cases hn⟩⟩
  · simp at e
    subst e
    have each : ∀ i, i < len → ∃ n : Pl.Nd, OpenN.Ok n ∧ (∃ b o, some a = some ⟨b, o, none⟩ ∧ b < w.heap.size ∧
        w.cell? ⟨b, o + i * 5, none⟩ = some (.string n.path) ∧ w.cell? ⟨b, o + i * 5 + 1, none⟩ = some (.int .i64 n.kind) ∧ w.cell? ⟨b, o + i * 5 + 2, none⟩ = some (.string n.data) ∧
        w.cell? ⟨b, o + i * 5 + 3, none⟩ = some (.int .i64 n.time) ∧ w.cell? ⟨b, o + i * 5 + 4, none⟩ = some (.int .i64 n.mark)) := by
      intro i hi
      have h1 := hE i hi
      rw [List.getElem?_eq_getElem (by omega), OpenN.cells5] at h1
      simp only [Option.bind_eq_some_iff] at h1
      obtain ⟨ds, h2, h3⟩ := h1
      obtain ⟨n, rfl, ok⟩ := OpenN.node h3
      unfold World.cells? at h2
      split at h2
      rotate_left
      · cases h2
      obtain ⟨g0, g1, g2, g3, g4⟩ := OpenT.mapM5 h2
      obtain ⟨b, o, spot⟩ := a
      have hspot : spot = none := by
        have h1 := hE 0 (by omega)
        rw [List.getElem?_eq_getElem (by omega), OpenN.cells5] at h1
        simp only [Option.bind_eq_some_iff] at h1
        obtain ⟨ds, h2, h3⟩ := h1
        obtain ⟨n, rfl, ok⟩ := OpenN.node h3
        unfold World.cells? at h2
        split at h2
        rotate_left
        · cases h2
        simpa [Addr.add] using World.cell?_spot (OpenT.mapM5 h2).1
      subst hspot
      have add : ∀ j, ((⟨b, o, none⟩ : Addr).add (i * 5)).add j = ⟨b, o + i * 5 + j, none⟩ := fun j => by rw [Mem.add_any, Mem.add_any]
      rw [add] at g0 g1 g2 g3 g4
      exact ⟨n, ok, b, o, rfl, World.block_lt_of_cell? w ⟨b, o + i * 5 + 0, none⟩ g0, g0, g1, g2, g3, g4⟩
    refine ⟨⟨some a, cap, List.ofFn (fun i : Fin len => Classical.choose (each i i.2))⟩, by simp [Pl.Tr.val], ⟨by simp; omega, fun i n hn => ?_, fun n hn => ?_⟩⟩
    · rw [List.getElem?_ofFn] at hn
      split at hn
      · cases hn; exact (Classical.choose_spec (each i (by assumption))).2
      · cases hn
    · obtain ⟨i, rfl⟩ := List.mem_ofFn.1 hn
      exact (Classical.choose_spec (each i i.2)).1
set_option maxRecDepth 100000 in
theorem item {H : Type} {enc : TypeId × Value → H} {w : World} {base fuel : Nat} {spare : Nat → Bool} {held : Bool} {cs : List Value} {x : DataW H × List MemPlace}
    (hf : DataW.trod enc Tryd.prog w base spare held fuel 109 cs = some x) : ∃ y : Pl.It, cs = [.int .i64 y.m, y.t.val] ∧ OpenT.OkT w y.t.a y.t.L := by
  obtain ⟨xs, m, rfl, -, hlen, hxl, hfl⟩ := DataW.trod_struct Tryd.underlying109 hf
  obtain ⟨c, d, rfl⟩ := two (hlen.trans cells2)
  obtain ⟨y, z, rfl⟩ := two hxl
  have h0 := hfl 0 _ rfl
  have h1 := hfl 1 _ rfl
  change DataW.trod enc Tryd.prog w base spare held m 2 (([c, d].drop 0).take (Tryd.prog.cellsOf 2)) = some y at h0
  change DataW.trod enc Tryd.prog w base spare held m 107 (([c, d].drop 1).take (Tryd.prog.cellsOf 107)) = some z at h1
  rw [cellsI] at h0
  rw [OpenT.cells1] at h1
  obtain ⟨t, e, ok⟩ := tree h1
  obtain ⟨n, e0, -, -⟩ := DataW.trod_int Tryd.underlying2 h0
  simp at e e0
  subst e e0
  exact ⟨⟨n, t⟩, rfl, ok⟩
set_option maxRecDepth 100000 in
theorem items_arg {H : Type} {enc : TypeId × Value → H} {w : World} {base b0 : Nat} {spare : Nat → Bool} {held : Bool} {r : Reach} {v : Value} {d : DataW H} {ps : List MemPlace}
    (hv : Value.okWide Tryd.prog w r b0 56 v) (h : DataW.Trod enc Tryd.prog w base spare held 56 v d ps) : ∃ (a : Option Addr) (Is : List Pl.It) (cap : Nat), v = .slice a Is.length cap ∧ OkI w a Is := by
  obtain ⟨a', l', c', rfl⟩ := okWide_slice Tryd.underlying56 hv
  obtain ⟨fuel, h0⟩ := h
  rcases DataW.trod_slice Tryd.underlying56 h0 with ⟨e, -⟩ | ⟨a, len, cap, elems, rest, k, -, e, -, hb, hl, hm, hel, hE, -, -⟩
  · simp [Value.cells] at e
    obtain ⟨rfl, rfl, rfl⟩ := e
    exact ⟨none, [], 0, rfl, ⟨Nat.zero_le _, Mem.items_nil _ _, fun n hn => by cases hn⟩⟩
  · simp [Value.cells] at e
    obtain ⟨rfl, rfl, rfl⟩ := e
    have each : ∀ i, i < l' → ∃ y : Pl.It, OpenT.OkT w y.t.a y.t.L ∧ (∃ b o, some a = some ⟨b, o, none⟩ ∧ b < w.heap.size ∧ w.cell? ⟨b, o + i * 2, none⟩ = some (.int .i64 y.m) ∧ w.cell? ⟨b, o + i * 2 + 1, none⟩ = some y.t.val) := by
      intro i hi
      have h1 := hE i hi
      rw [List.getElem?_eq_getElem (by omega), cells2] at h1
      simp only [Option.bind_eq_some_iff] at h1
      obtain ⟨ds, h2, h3⟩ := h1
      obtain ⟨y, rfl, ok⟩ := item h3
      unfold World.cells? at h2
      split at h2
      rotate_left
      · cases h2
      obtain ⟨g0, g1⟩ := mapM2 h2
      obtain ⟨b, o, spot⟩ := a
      have hspot : spot = none := by
        have h1 := hE 0 (by omega)
        rw [List.getElem?_eq_getElem (by omega), cells2] at h1
        simp only [Option.bind_eq_some_iff] at h1
        obtain ⟨ds, h2, h3⟩ := h1
        obtain ⟨t, rfl, ok⟩ := item h3
        unfold World.cells? at h2
        split at h2
        rotate_left
        · cases h2
        simpa [Addr.add] using World.cell?_spot (mapM2 h2).1
      subst hspot
      have add : ∀ j, ((⟨b, o, none⟩ : Addr).add (i * 2)).add j = ⟨b, o + i * 2 + j, none⟩ := fun j => by rw [Mem.add_any, Mem.add_any]
      rw [add] at g0 g1
      exact ⟨y, ok, b, o, rfl, World.block_lt_of_cell? w ⟨b, o + i * 2 + 0, none⟩ g0, g0, g1⟩
    refine ⟨some a, List.ofFn (fun i : Fin l' => Classical.choose (each i i.2)), c', by simp, ⟨by simp; omega, fun i n hn => ?_, fun n hn => ?_⟩⟩
    · rw [List.getElem?_ofFn] at hn
      split at hn
      · cases hn
        have := Classical.choose_spec (each i (by assumption))
        exact ⟨this.2, this.1.nodes⟩
      · cases hn
    · obtain ⟨i, rfl⟩ := List.mem_ofFn.1 hn
      have := Classical.choose_spec (each i i.2)
      exact ⟨this.1.len, this.1.ok⟩
end OpenI
end Go.Proofs.YtlgbdbmikmbioaaDoor

