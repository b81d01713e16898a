/- Several texts of one claim in one file: MapLookIn, WPathsW, WOpenWay, WLeafs, WNestF, WFirst, WNestL, WRiseT, WWhole. -/
import Derived.Test.YtppmlbofhghghaaGreatDoorG04
import Derived.WalkSpells
import Derived.Lib.OthersKept
import Derived.Laws.RangeAny
import Derived.Deep.Draws
import Derived.Deep.QuietTactic
import Derived.BigQuiet
import Derived.Deep.RegionHeld3
import Derived.Maps.OwnIn
import Derived.Test.YtppmlbofhghghaaGreatDoorG25
import Derived.Test.YtppmlbofhghghaaGreatDoorPlainWay
import Derived.Test.YtppmlbofhghghaaGreatDoorMapPutL
import Derived.Test.YtppmlbofhghghaaGreatDoorG02
import Derived.Test.YtppmlbofhghghaaGreatDoorG00
import Derived.Test.YtppmlbofhghghaaGreatDoorProg
import Derived.Test.YtppmlbofhghghaaGreatDoorG01
import Derived.Test.YtppmlbofhghghaaGreatDoorG10
namespace Go.Proofs.YtppmlbofhghghaaGreatDoor
open Go.RowKit Go.Maps
namespace MapN
section
variable {F : Fence} {nF : Nat} {P : Program} (w : World) {ops : Array Oper} {rest : List Oper} {o : Oper} {a : Act} {Q : Exit → Act → World → Prop}
theorem yl0 (hg : o.guard = none) (m x : Operand) (t : TypeId) (hop : o.op = Op.lookup t m x true)
  (k e : TypeId) (K : Keyed P k) (ht : P.underlying t = some (.map k e)) (hz : (zeroValue e).run P w = .ok (Pl.Nd.val ⟨⟨#[]⟩, 0, ⟨#[]⟩, 0, 0⟩) w) (b n : Nat) (D : DataW Unit)
  (hm : a.eval m = .map (some b)) (hown : w.ownsMap P k elem b n D) (kv : Value) (kl : Lit) (hx : a.eval x = kv) (hkey : keyOf P k kv = some kl) (nd : Pl.Nd) (hat : D.atKey kl (dat ⟨⟨#[]⟩, 0, ⟨#[]⟩, 0, 0⟩) = dat nd) (r : Bool) (hr : Maps.has D kl = r)
  (hK : wpListIn F nF P ops Q rest (a.put o.dst (.tuple #[.agg #[.string nd.path, .int .i64 nd.kind, .string nd.data, .int .i64 nd.time, .int .i64 nd.mark], .bool r])) w) :
  wpListIn F nF P ops Q (o :: rest) a w :=
 wpListIn_lookup_own_ok w hg m x t hop k e K ht elem hz _ [] (zi6 _) b n D hm hown kv kl hx hkey (fun v ps hv => by
  obtain ⟨n1, rfl, hd⟩ := zu6 hv
  obtain rfl := zt1 (hat.symm.trans hd)
  rw [hr]
  exact hK)
theorem lookIn_no (hg : o.guard = none) (m x : Operand) (t : TypeId) (hop : o.op = Op.lookup t m x false)
  (k e : TypeId) (K : Keyed P k) (ht : P.underlying t = some (.map k e)) (hz : (zeroValue e).run P w = .ok (Pl.Nd.val ⟨⟨#[]⟩, 0, ⟨#[]⟩, 0, 0⟩) w) (b n : Nat) (D : DataW Unit)
  (hm : a.eval m = .map (some b)) (hown : w.ownsMap P k elem b n D) (kv : Value) (kl : Lit) (hx : a.eval x = kv) (hkey : keyOf P k kv = some kl) (nd : Pl.Nd) (hat : D.atKey kl (dat ⟨⟨#[]⟩, 0, ⟨#[]⟩, 0, 0⟩) = dat nd)
  (hK : wpListIn F nF P ops Q rest (a.put o.dst (.agg #[.string nd.path, .int .i64 nd.kind, .string nd.data, .int .i64 nd.time, .int .i64 nd.mark])) w) :
  wpListIn F nF P ops Q (o :: rest) a w := by
 refine wpListIn_plain hg fun K' hK' => ?_
 obtain ⟨v, ps, hrun, hv⟩ := hown.lookup K ht hz (zi6 _) hkey
 obtain ⟨n1, rfl, hd⟩ := zu6 hv
 obtain rfl := zt1 (hat.symm.trans hd)
 unfold Oper.wpIn
 refine ⟨by simp [Oper.about, hop], ?_⟩
 rw [Oper.semAt_plain F _ _ (by rw [hop]; intro c hc'; cases hc')]
 simp [execOp, hop, hm, hx, hrun, Result.andThen]
 exact hK' _ _ hK
end
end MapN
end Go.Proofs.YtppmlbofhghghaaGreatDoor

namespace Go.Proofs.YtppmlbofhghghaaGreatDoor
open Go.RowKit Go.Shelf
attribute [local go_sem] Oper.semAt_some
namespace zk2
abbrev Way (L : List ByteArray) := { x : ByteArray // x ∈ Pl.ways L L.length }
theorem way_mem {L : List ByteArray} {k : Nat} (h : k < L.length) : Pl.glue (L.take (k + 1)) ∈ Pl.ways L L.length := List.mem_map.2 ⟨k, List.mem_range.2 h, rfl⟩
set_option linter.unusedSimpArgs false in
set_option maxRecDepth 100000 in
set_option maxHeartbeats 2000000 in
theorem iter_ways (L : List ByteArray) (n : Nat) (X : Nat) (q : Addr) (p : ByteArray) (w : World) (hX : X < w.heap.size) (hq : w.cell? q = some (.string p)) (hql : q.block < w.heap.size) (hp : p.size ≤ 1048576) (hLp : Pl.zb2 p = L) :
  SeqStopsK Fence.wide n Tryz.prog 149 #[.pointer (some q)] (fun x : Way (L) => #[Value.string x.1]) (KC X) (fun xs => xs.map Subtype.val = Pl.ways (L) (L).length) (fun _ => True) (L).length w := fun l J Jx W hW hJ _ hY h0 => by
 have hq1 : W.cell? q = some (.string p) := (hW.cell hql).trans hq
 have hXW : X < W.heap.size := Nat.lt_of_lt_of_le hX hW.size
 have HN := hide (yd8.any p W hp)
 generalize Pl.za3 p = rr at HN
 have hl6 : L.length ≤ 6 := by rw [← hLp]; exact (Pl.zg4 p).2
 have HGL : Hid (∀ k, (Pl.glue ((L).take k)).size ≤ 1000000) := fun k => Pl.ya4 (fun t ht => (Pl.zg4 p).1 t (by rw [hLp]; exact List.mem_of_mem_take ht)) (by have := (Pl.zg4 p).2; rw [hLp] at this; simp; omega)
 rw [hLp] at HN
 refine callsIn_of_wp Tryz.func149 rfl trivial ?_ rfl
 simp only [Tryz.ntmps149, List.size_toArray, List.length_cons, List.length_nil, Nat.reduceAdd, Nat.reduceSub, Array.replicate_succ, Array.replicate_zero, List.push_toArray, List.append_toArray, List.nil_append, List.cons_append]
 gi_wp2_with fail
 refine ⟨trivial, fun h => (by cases h), ?_⟩
 refine (callsIn_wide.2 (za HN)).mono ?_
 rintro e w1 ⟨v, rfl, own, b1⟩
 obtain ⟨a, cap, rfl⟩ := Mem.za2 own
 have hJ1 : Hid (∃ pre : List (Way L), pre.map Subtype.val = Pl.ways L 0 ∧ J pre w1) := ⟨[], rfl, hJ [] W w1 none h0 (Mem.zc9 b1 none) (fun r e => by cases e)⟩
 have OW := hide own
 have HY := hide hY
 clear HN own b1 h0 hY
 gi_wp2_with fail
 gi_loopw [13] (fun i wr => ∃ k : Nat, k ≤ L.length ∧ i = .int .i64 k ∧ Hid (∃ pre : List (Way L), pre.map Subtype.val = Pl.ways L k ∧ J pre wr) ∧ Hid (wr.ownsRow W.heap.size 9 1 (.slice a L.length cap) L.length (L.map Value.string)))
  (fun i _ => L.length - (intOf i).toNat)
 case atStart => exact ⟨0, Nat.zero_le _, rfl, hJ1, OW⟩
 case round =>
  obtain ⟨k, hk, rfl, HJ, HO⟩ := hrel
  clear hJ1 OW
  by_cases hlt : k < L.length
  ·have y1 : (k : Int) < (L.length : Int) := by omega
   have hT := Mem.yp7 (Mem.zo6 (za HO)) (k + 1) (by omega) (by omega)
   have HP := hide (yc.any (.slice a (k + 1) cap) (L.take (k + 1)) wr (by simp; omega) (za HGL (k + 1)) hT)
   have hcap := Mem.own_cap (za HO)
   have hw1 : IntKind.i64.wrap ((k : Int) + 1) = (k : Int) + 1 := by simp only [IntKind.wrap_i64]; omega
   clear hT
   gi_wp2_with fail
   refine ⟨trivial, fun h => (by cases h), ?_⟩
   refine (callsIn_wide.2 (za HP)).mono ?_
   rintro e w2 ⟨rfl, b2⟩
   obtain ⟨pre, hpre, hJp⟩ := za HJ
   have HJ2 : J pre w2 := hJ _ wr w2 none hJp (Mem.zc9 b2 none) (fun r e => by cases e)
   have HO2 := hide (Mem.zj9 (za HO) b2)
   obtain ⟨fn, tmps, assign, body, hy, hR⟩ := za HY pre ⟨Pl.glue (L.take (k + 1)), way_mem hlt⟩ w2 HJ2 (by have := congrArg List.length hpre; rw [Pl.yh6, List.length_map] at this; omega)
   have HWS : Hid ((pre ++ [(⟨Pl.glue (L.take (k + 1)), way_mem hlt⟩ : Way L)]).map Subtype.val = Pl.ways L (k + 1)) := by rw [List.map_append, hpre, Pl.yf3]; exact rfl
   dsimp only at hy
   clear HP HJ HO HJ2 b2 hpre hJp
   gi_wp2
   refine ⟨fun h => (by cases h), ?_⟩
   refine hR.mono ?_
   rintro e W3 (⟨rfl, hJ3, hk3⟩ | ⟨rfl, hJx3⟩)
   ·have HJ3 : Hid (∃ pre : List (Way L), pre.map Subtype.val = Pl.ways L (k + 1) ∧ J pre W3) := ⟨_, za HWS, hJ3⟩
    have HO3 := hide (row_kept (za HO2) hk3 hXW)
    clear hJ3 hk3 HO2 hR hy HWS
    gi_wp2
    go_roundw
    case rel => exact ⟨k + 1, by omega, by go_num, HJ3, HO3⟩
    case measure => simp [intOf]; omega
   ·gi_wp2
    refine bodyPost_ret (results_none rfl _ _ _) rfl ?_
    exact ⟨⟨_, rfl⟩, .inr ⟨_, trivial, hJx3⟩⟩
  ·obtain rfl : k = L.length := by omega
   have y1 : ¬ ((L.length : Int) < (L.length : Int)) := by omega
   gi_wp2
   go_end0
   exact ⟨⟨_, rfl⟩, .inl (za HJ)⟩
end zk2
end Go.Proofs.YtppmlbofhghghaaGreatDoor

namespace Go.Proofs.YtppmlbofhghghaaGreatDoor
open Go.RowKit Go.Shelf
attribute [local go_sem] Oper.semAt_some
namespace WOpen
structure Ow (w : World) (qf qs : Nat) (lev : Int) (L S : List Pl.Nd) (ps : List ByteArray) (W : World) : Prop where
 grown : w.grownBy W (some qf)
 box : Mem.Blk W w.heap.size #[.map (some qf), .map (some qs), .int .i64 lev] 118
 leaf : W.ownsMap Tryz.prog 9 MapN.elem qf (40 + ps.length) (MapN.mapOf (Pl.zg9 S L ps))
 seen : Mem.ownM W qs S
theorem own_grown {W W' : World} {q N : Nat} {D : DataW Unit} {r : Option Nat} (h : W.ownsMap Tryz.prog 9 MapN.elem q N D) (g : W.grownBy W' r) (hr : some q ≠ r) : W'.ownsMap Tryz.prog 9 MapN.elem q N D := by
 have hlt := World.ownsMap.lt h
 obtain ⟨es, clock, hb, F, hs, hD⟩ := h
 exact ⟨es, clock, (g.block q hlt hr).trans hb, F, hs, hD⟩
theorem yb5 {w W W' : World} {q : Nat} {r : Option Nat} (h : w.grownBy W (some q)) (g : W.grownBy W' r) (hr : ∀ k, r = some k → w.heap.size ≤ k ∨ k = q) : w.grownBy W' (some q) :=
 ⟨g.os.trans h.os, g.tape.trans h.tape, g.output.trans h.output, Nat.le_trans h.size g.size, fun k hk hne => (g.block k (Nat.lt_of_lt_of_le hk h.size) (fun e => by
  rcases hr k e.symm with h1 | h1
  ·omega
  ·exact hne (by rw [h1]))).trans (h.block k hk hne)⟩
theorem Ow.step {w W W' : World} {qf qs : Nat} {lev : Int} {L S : List Pl.Nd} {ps : List ByteArray} {r : Option Nat} (h : Ow w qf qs lev L S ps W) (g : W.grownBy W' r) (hr : ∀ k, r = some k → w.heap.size < k) (hf : qf < w.heap.size) (hs : qs < w.heap.size) : Ow w qf qs lev L S ps W' :=
 ⟨yb5 h.grown g (fun k e => .inl (Nat.le_of_lt (hr k e))), h.box.grown g (fun e => by have := hr _ e.symm; omega), own_grown h.leaf g (fun e => by have := hr _ e.symm; omega), h.seen.grown g (fun e => by have := hr _ e.symm; omega)⟩
set_option linter.unusedSimpArgs false in
set_option maxRecDepth 100000 in
set_option maxHeartbeats 4000000 in
theorem open_any (qf qs : Nat) (lev : Int) (L S : List Pl.Nd) (p : ByteArray) (w : World) (hp : p.size ≤ 8000) (hf : Mem.ownM w qf L) (hs : Mem.ownM w qs S) (hne : qf ≠ qs) (hL : Pl.zd9 L) (hS : Pl.zd9 S) (hll : L.length ≤ 40)
  (hW : ∀ q ∈ Pl.ways (Pl.zb2 (Pl.zb7 p)) (Pl.zb2 (Pl.zb7 p)).length, ∃ d, Pl.lk S q = some d) :
  Calls Tryz.prog 83 #[.agg #[.map (some qf), .map (some qs), .int .i64 lev], .string p] w fun e w' => e = .returned (.tuple #[]) ∧ w.grownBy w' (some qf) ∧ w'.ownsMap Tryz.prog 9 MapN.elem qf 46 (MapN.mapOf (Pl.zg9 S L (Pl.ways (Pl.zb2 (Pl.zb7 p)) (Pl.zb2 (Pl.zb7 p)).length))) := by
 have b0 : Below w.heap.size w (w.alloc (.cells #[.map (some qf), .map (some qs), .int .i64 lev] 118)) := (Below.refl _ _).alloc (Nat.le_refl _) _
 have hfl := hf.lt
 have hsl := hs.lt
 have O0 : Ow w qf qs lev L S [] (w.alloc (.cells #[.map (some qf), .map (some qs), .int .i64 lev] 118)) := ⟨Mem.zc9 b0 _, Mem.Blk.new _ _ _, hf.call b0, hs.call b0⟩
 have hq8 : (Pl.zb7 p).size ≤ 1000000 := Pl.ya4 (fun t ht => (Pl.zg4 p).1 t ((List.dropLast_sublist _).subset ht)) (by have := (Pl.zg4 p).2; simp; omega)
 have hwl : (Pl.zb2 (Pl.zb7 p)).length ≤ 6 := (Pl.zg4 _).2
 have HPA := hide (fun W => zw.zt2 p W (by omega))
 have EP : Pl.glue (Pl.zb2 p).dropLast = Pl.zb7 p := rfl
 rw [EP] at HPA
 clear EP hf hs
 generalize Pl.zb7 p = pp at HPA hW hq8 hwl ⊢
 have HW := hide hW
 have HL := hide hL
 have HS := hide hS
 clear hW hL hS
 refine (callsIn_wide (n := 3)).1 ?_
 refine callsIn_of_wp_marks Tryz.func83 rfl trivial ?_ rfl
 simp only [Tryz.ntmps83, List.size_toArray, List.length_cons, List.length_nil, Nat.reduceAdd, Nat.reduceSub, Array.replicate_succ, Array.replicate_zero, List.push_toArray, List.append_toArray, List.nil_append, List.cons_append]
 gi_wp2_with fail
 refine ⟨trivial, ?_⟩
 generalize w.alloc (.cells #[.map (some qf), .map (some qs), .int .i64 lev] 118) = w1 at b0 O0 ⊢
 refine (callsIn_wide.2 (za HPA w1)).mono ?_
 rintro e w2 ⟨rfl, b2⟩
 have O2 := O0.step (Mem.zc9 b2 none) (fun k e => by cases e) hfl hsl
 clear HPA O0
 gi_wp2_with fail
 refine ⟨trivial, ?_⟩
 refine (callsIn_wide.2 (zk2.paths_any pp w2)).mono ?_
 rintro e w3 ⟨rfl, hw3⟩
 have O3 : Ow w qf qs lev L S [] w3 := by rw [hw3]; exact O2.step (World.grownBy_alloc _ _ none) (fun k e => by cases e) hfl hsl
 have z3 : w3.heap.size = w2.heap.size + 1 := by rw [hw3]; simp
 have q3 : w3.cell? ⟨w2.heap.size, 0, none⟩ = some (.string pp) := by
  have := (Mem.Blk.new w2 #[.string pp] 9).cell 0
  rw [hw3]; exact this
 have hz2 : w.heap.size < w2.heap.size := O2.box.lt
 have H3 := hide O3
 have Z3 := hide z3
 clear O2 hw3 O3 b2 b0 z3
 gi_wp2_with fail
 refine wpIn_rangeFunc_ownG rfl (by omega) (gf := 149) (lb := #[.pointer (some ⟨w2.heap.size, 0, none⟩)]) rfl trivial (enters_of Tryz.func149 (by kernel_rfl) rfl)
  (zk2.iter_ways (Pl.zb2 pp) 2 w.heap.size ⟨w2.heap.size, 0, none⟩ pp w3 (by rw [za Z3]; omega) q3 (by show w2.heap.size < _; rw [za Z3]; omega) (by omega) rfl) zk2.KC.trans (fun W l o o' _ hl ho _ => zk2.KC.put W o o' hl ho) (Below.refl _ _) (fun _ => rfl)
  (fun (pre : List (zk2.Way (Pl.zb2 pp))) W => Ow w qf qs lev L S (pre.map Subtype.val) W)
  (fun _ _ _ => False)
  (fun s A A' row hs hg hr => hs.step hg (fun k e => by have := (hr k e).1; rw [za Z3] at this; omega) hfl hsl)
  (fun _ _ _ _ _ hs _ _ => hs)
  (za H3)
  (fun x => { tmps := #[.agg #[.map (some qf), .map (some qs), .int .i64 lev], .string p, .pointer (some ⟨w.heap.size, 0, none⟩), undef, .string x.1, undef, undef, undef, .string p, .string pp, .func (.func 149) #[] #[.pointer (some ⟨w2.heap.size, 0, none⟩)], .string x.1, undef, undef, undef, undef, undef, undef, undef, undef, undef, undef, undef, undef, undef, undef, undef, undef, undef, undef, undef, undef, undef, undef, undef, undef], defers := [] }) ?assign ?body ?done ?stop
 case assign =>
  intro l x W K hK
  gi_wp2
  exact hK
 case body =>
  rintro l pre ⟨x, hx⟩ W hI hlen
  obtain ⟨d, hd⟩ := za HW x hx
  have hpre : (pre.map Subtype.val).length ≤ 6 := by rw [List.length_map]; omega
  have hall : ∀ q ∈ pre.map Subtype.val, ∃ d, Pl.lk S q = some d := fun q hq => by
   obtain ⟨y, -, rfl⟩ := List.mem_map.1 hq
   exact za HW y.1 y.2
  have HM : Hid ((pre ++ [(⟨x, hx⟩ : zk2.Way (Pl.zb2 pp))]).map Subtype.val = pre.map Subtype.val ++ [x]) := by rw [List.map_append]; exact rfl
  generalize pre.map Subtype.val = ps at hI hpre hall HM
  obtain ⟨hr1, hr2⟩ := Pl.ya8 (za HS) ps L (za HL) hall
  have HSN := hide (Pl.open_snoc S L ps x)
  obtain ⟨hd1, hd2⟩ := Pl.zp9 hd
  obtain ⟨dp, dk, dd, dt, dm⟩ := d
  have hd3 : x = dp := hd2.symm
  subst hd3
  have hxr : Pl.za3 x = true := ((za HS).path _ hd1).1
  have hxs : x.size ≤ 8000 := by have := Pl.zb8 hxr; omega
  have hdz := ((za HS).path _ hd1).2
  have hkey := MapN.zi9 (p := x) (by unfold maxLen; omega)
  have hSL := MapN.zn2 (za HS).apart hd1
  simp only at hSL hdz
  clear hd2
  have c0 := hI.box.cell 0
  have c1 := hI.box.cell 1
  simp only [kA0, kA1, kA2] at c0 c1
  have hBx := hI.box.lt
  have HI := hide hI
  have HLF := hide hI.leaf
  clear hI
  cases hlk : Pl.lk (Pl.zg9 S L ps) x with
  | none =>
   have hmiss : ∀ n ∈ Pl.zg9 S L ps, n.path ≠ x := fun n hn => by simpa using List.find?_eq_none.1 hlk n hn
   have HA1 := hide (Maps.atKey_of_not_has (MapN.zp7 hmiss) (MapN.dat ⟨⟨#[]⟩, 0, ⟨#[]⟩, 0, 0⟩))
   have HA2 := hide (MapN.zp7 hmiss)
   have z1 : (W.alloc (.cells #[.string ⟨#[]⟩, .int .i64 0, .string ⟨#[]⟩, .int .i64 0, .int .i64 0] 47)).heap.size = W.heap.size + 1 := by simp
   have i1 := (za HI).step (World.grownBy_alloc W (.cells #[.string ⟨#[]⟩, .int .i64 0, .string ⟨#[]⟩, .int .i64 0, .int .i64 0] 47) none) (fun k e => by cases e) hfl hsl
   have A1 := Mem.Blk.new W #[.string ⟨#[]⟩, .int .i64 0, .string ⟨#[]⟩, .int .i64 0, .int .i64 0] 47
   have i3 := i1.step (World.grownBy_alloc (W.alloc (.cells #[.string ⟨#[]⟩, .int .i64 0, .string ⟨#[]⟩, .int .i64 0, .int .i64 0] 47)) (.cells #[.string x, .int .i64 dk, .string dd, .int .i64 dt, .int .i64 0] 47) none) (fun k e => by cases e) hfl hsl
   have A2 := A1.alloc (.cells #[.string x, .int .i64 dk, .string dd, .int .i64 dt, .int .i64 dm] 47)
   have B2 := Mem.Blk.new (W.alloc (.cells #[.string ⟨#[]⟩, .int .i64 0, .string ⟨#[]⟩, .int .i64 0, .int .i64 0] 47)) #[.string x, .int .i64 dk, .string dd, .int .i64 dt, .int .i64 dm] 47
   have B3 := Mem.Blk.new (W.alloc (.cells #[.string ⟨#[]⟩, .int .i64 0, .string ⟨#[]⟩, .int .i64 0, .int .i64 0] 47)) #[.string x, .int .i64 dk, .string dd, .int .i64 dt, .int .i64 0] 47
   rw [z1] at B2 B3
   have a0 := i1.box.cell 0
   have a1 := i1.box.cell 1
   have a3 := i3.box.cell 0
   have d1 := A1.cell 1
   have d4 := A2.cell 4
   have g4 := B2.cell 4
   have gf := B2.fr 4
   have h0 := B3.cell 0
   have h1 := B3.cell 1
   have h2 := B3.cell 2
   have h3 := B3.cell 3
   have h4 := B3.cell 4
   simp only [kA0, kA1, kA2] at a0 a1 a3 d1 d4 g4 h0 h1 h2 h3 h4
   have HSE := hide i1.seen
   have HL3 := hide i3.leaf
   have HG3 := hide (⟨i3.grown, i3.box, i3.seen⟩ : _ ∧ _ ∧ _)
   have hop : Pl.zq7 S (Pl.zg9 S L ps) x = Pl.putL (Pl.zg9 S L ps) ⟨x, dk, dd, dt, 0⟩ := by
    rw [Pl.zq7, hlk, hd]
    rfl
   have KEEP : Hid (∀ W5, (((W.alloc (.cells #[.string ⟨#[]⟩, .int .i64 0, .string ⟨#[]⟩, .int .i64 0, .int .i64 0] 47)).alloc (.cells #[.string x, .int .i64 dk, .string dd, .int .i64 dt, .int .i64 0] 47)).grownBy W5 (some qf)) → W5.ownsMap Tryz.prog 9 MapN.elem qf (40 + ps.length + 1) ((MapN.mapOf (Pl.zg9 S L ps)).put (MapN.key x) (MapN.dat ⟨x, dk, dd, dt, 0⟩)) → Ow w qf qs lev L S (ps ++ [x]) W5 ∧ zk2.KC w.heap.size W W5 ∧ KeepsFrom w3.heap.size W W5) := fun W5 g5 m5 => by
    have hgw : W.grownBy ((W.alloc (.cells #[.string ⟨#[]⟩, .int .i64 0, .string ⟨#[]⟩, .int .i64 0, .int .i64 0] 47)).alloc (.cells #[.string x, .int .i64 dk, .string dd, .int .i64 dt, .int .i64 0] 47)) none := by
     have b5 := ((Below.refl W.heap.size W).alloc (Nat.le_refl _) (.cells #[.string ⟨#[]⟩, .int .i64 0, .string ⟨#[]⟩, .int .i64 0, .int .i64 0] 47)).alloc (by simp) (.cells #[.string x, .int .i64 dk, .string dd, .int .i64 dt, .int .i64 0] 47)
     exact Mem.zc9 b5 none
    have hqW : qf < W.heap.size := World.ownsMap.lt (za HLF)
    have same : ∀ j, j < W.heap.size → j ≠ qf → W5.heap[j]? = W.heap[j]? := fun j hj hn => by
     rw [g5.block j (Nat.lt_of_lt_of_le hj hgw.size) (fun e => hn (Option.some.inj e)), hgw.block j hj (by simp)]
    obtain ⟨es, clock, hmap, -⟩ := za HLF
    refine ⟨⟨yb5 (za HG3).1 g5 (fun k e => by cases e; exact .inr rfl), (za HG3).2.1.grown g5 (fun e => by have := Option.some.inj e; omega), ?_, (za HG3).2.2.grown g5 (fun e => hne (Option.some.inj e).symm)⟩, ⟨Nat.le_trans hgw.size g5.size, fun j o hj ho hc => ?_⟩, ⟨Nat.le_trans hgw.size g5.size, fun j o hB ho hc => ?_⟩⟩
    ·rw [List.length_append, za HSN, hop]
     refine MapN.zv2 hr1 (n := ⟨x, dk, dd, dt, 0⟩) hxr hdz ?_
     exact m5
    ·have hlt := (Array.getElem?_eq_some_iff.1 ho).1
     rw [same j hlt (fun e => by rw [e, hmap] at ho; cases ho; cases hc)]
     exact ho
    ·have hlt := (Array.getElem?_eq_some_iff.1 ho).1
     rw [same j hlt (fun e => by rw [za Z3] at hB; omega)]
     exact ho
   clear i1 i3 A1 A2 B2 B3 z1
   gi_wp2_with (first | (gi_at_lookup; refine MapN.yl0 _ rfl _ _ 101 rfl 9 47 MapN.law Tryz.underlying101 (MapN.za7 _) qf (40 + ps.length) (MapN.mapOf (Pl.zg9 S L ps)) rfl (za HLF) _ _ rfl hkey ⟨⟨#[]⟩, 0, ⟨#[]⟩, 0, 0⟩ (za HA1) false (za HA2) ?_) | (gi_at_lookup; refine MapN.lookIn_no _ rfl _ _ 101 rfl 9 47 MapN.law Tryz.underlying101 (MapN.za7 _) qs 40 (MapN.mapOf S) rfl (za HSE) _ _ rfl hkey ⟨x, dk, dd, dt, dm⟩ (hSL.2 _) ?_) | (gi_at_mapUpdate; refine wpListIn_mapUpdate_own _ rfl _ _ _ 101 rfl 9 47 MapN.law Tryz.underlying101 _ qf (40 + ps.length) _ rfl (za HL3) (by unfold maxLen; omega) _ _ _ rfl rfl hkey _ [] (MapN.zi6 ⟨x, dk, dd, dt, 0⟩) ?_; intro W5 own5 g5))
   have KP := hide (za KEEP W5 g5 own5)
   clear own5 g5 KEEP HL3 HG3
   gi_wp2
   exact ⟨(za KP).2.2, (za KP).2.1, by show Ow w qf qs lev L S ((pre ++ [(⟨x, hx⟩ : zk2.Way (Pl.zb2 pp))]).map Subtype.val) _; rw [za HM]; exact (za KP).1⟩
  | some nn =>
   obtain ⟨hn1, hn2⟩ := Pl.zp9 hlk
   have hat := MapN.zn2 hr1.apart hn1
   rw [hn2] at hat
   have HA1 := hide (hat.2 (MapN.dat ⟨⟨#[]⟩, 0, ⟨#[]⟩, 0, 0⟩))
   have HA2 := hide hat.1
   clear hat
   obtain ⟨np, nk, nd, nt, nm⟩ := nn
   simp only at hn2 HA1
   clear hn1 hn2
   by_cases hk0 : nk = 0
   ·subst hk0
    have z1 : (W.alloc (.cells #[.string np, .int .i64 0, .string nd, .int .i64 nt, .int .i64 nm] 47)).heap.size = W.heap.size + 1 := by simp
    have i1 := (za HI).step (World.grownBy_alloc W (.cells #[.string np, .int .i64 0, .string nd, .int .i64 nt, .int .i64 nm] 47) none) (fun k e => by cases e) hfl hsl
    have A1 := Mem.Blk.new W #[.string np, .int .i64 0, .string nd, .int .i64 nt, .int .i64 nm] 47
    have i3 := i1.step (World.grownBy_alloc (W.alloc (.cells #[.string np, .int .i64 0, .string nd, .int .i64 nt, .int .i64 nm] 47)) (.cells #[.string x, .int .i64 dk, .string dd, .int .i64 dt, .int .i64 nm] 47) none) (fun k e => by cases e) hfl hsl
    have A2 := A1.alloc (.cells #[.string x, .int .i64 dk, .string dd, .int .i64 dt, .int .i64 dm] 47)
    have B2 := Mem.Blk.new (W.alloc (.cells #[.string np, .int .i64 0, .string nd, .int .i64 nt, .int .i64 nm] 47)) #[.string x, .int .i64 dk, .string dd, .int .i64 dt, .int .i64 dm] 47
    have B3 := Mem.Blk.new (W.alloc (.cells #[.string np, .int .i64 0, .string nd, .int .i64 nt, .int .i64 nm] 47)) #[.string x, .int .i64 dk, .string dd, .int .i64 dt, .int .i64 nm] 47
    rw [z1] at B2 B3
    have a0 := i1.box.cell 0
    have a1 := i1.box.cell 1
    have a3 := i3.box.cell 0
    have d1 := A1.cell 1
    have d4 := A2.cell 4
    have g4 := B2.cell 4
    have gf := B2.fr 4
    have h0 := B3.cell 0
    have h1 := B3.cell 1
    have h2 := B3.cell 2
    have h3 := B3.cell 3
    have h4 := B3.cell 4
    simp only [kA0, kA1, kA2] at a0 a1 a3 d1 d4 g4 h0 h1 h2 h3 h4
    have HSE := hide i1.seen
    have HL3 := hide i3.leaf
    have HG3 := hide (⟨i3.grown, i3.box, i3.seen⟩ : _ ∧ _ ∧ _)
    have hop : Pl.zq7 S (Pl.zg9 S L ps) x = Pl.putL (Pl.zg9 S L ps) ⟨x, dk, dd, dt, nm⟩ := by
     rw [Pl.zq7, hlk, hd]
     rfl
    have KEEP : Hid (∀ W5, (((W.alloc (.cells #[.string np, .int .i64 0, .string nd, .int .i64 nt, .int .i64 nm] 47)).alloc (.cells #[.string x, .int .i64 dk, .string dd, .int .i64 dt, .int .i64 nm] 47)).grownBy W5 (some qf)) → W5.ownsMap Tryz.prog 9 MapN.elem qf (40 + ps.length + 1) ((MapN.mapOf (Pl.zg9 S L ps)).put (MapN.key x) (MapN.dat ⟨x, dk, dd, dt, nm⟩)) → Ow w qf qs lev L S (ps ++ [x]) W5 ∧ zk2.KC w.heap.size W W5 ∧ KeepsFrom w3.heap.size W W5) := fun W5 g5 m5 => by
     have hgw : W.grownBy ((W.alloc (.cells #[.string np, .int .i64 0, .string nd, .int .i64 nt, .int .i64 nm] 47)).alloc (.cells #[.string x, .int .i64 dk, .string dd, .int .i64 dt, .int .i64 nm] 47)) none := by
      have b5 := ((Below.refl W.heap.size W).alloc (Nat.le_refl _) (.cells #[.string np, .int .i64 0, .string nd, .int .i64 nt, .int .i64 nm] 47)).alloc (by simp) (.cells #[.string x, .int .i64 dk, .string dd, .int .i64 dt, .int .i64 nm] 47)
      exact Mem.zc9 b5 none
     have hqW : qf < W.heap.size := World.ownsMap.lt (za HLF)
     have same : ∀ j, j < W.heap.size → j ≠ qf → W5.heap[j]? = W.heap[j]? := fun j hj hn => by
      rw [g5.block j (Nat.lt_of_lt_of_le hj hgw.size) (fun e => hn (Option.some.inj e)), hgw.block j hj (by simp)]
     obtain ⟨es, clock, hmap, -⟩ := za HLF
     refine ⟨⟨yb5 (za HG3).1 g5 (fun k e => by cases e; exact .inr rfl), (za HG3).2.1.grown g5 (fun e => by have := Option.some.inj e; omega), ?_, (za HG3).2.2.grown g5 (fun e => hne (Option.some.inj e).symm)⟩, ⟨Nat.le_trans hgw.size g5.size, fun j o hj ho hc => ?_⟩, ⟨Nat.le_trans hgw.size g5.size, fun j o hB ho hc => ?_⟩⟩
     ·rw [List.length_append, za HSN, hop]
      refine MapN.zv2 hr1 (n := ⟨x, dk, dd, dt, nm⟩) hxr hdz ?_
      exact m5
     ·have hlt := (Array.getElem?_eq_some_iff.1 ho).1
      rw [same j hlt (fun e => by rw [e, hmap] at ho; cases ho; cases hc)]
      exact ho
     ·have hlt := (Array.getElem?_eq_some_iff.1 ho).1
      rw [same j hlt (fun e => by rw [za Z3] at hB; omega)]
      exact ho
    clear i1 i3 A1 A2 B2 B3 z1
    gi_wp2_with (first | (gi_at_lookup; refine MapN.yl0 _ rfl _ _ 101 rfl 9 47 MapN.law Tryz.underlying101 (MapN.za7 _) qf (40 + ps.length) (MapN.mapOf (Pl.zg9 S L ps)) rfl (za HLF) _ _ rfl hkey ⟨np, 0, nd, nt, nm⟩ (za HA1) true (za HA2) ?_) | (gi_at_lookup; refine MapN.lookIn_no _ rfl _ _ 101 rfl 9 47 MapN.law Tryz.underlying101 (MapN.za7 _) qs 40 (MapN.mapOf S) rfl (za HSE) _ _ rfl hkey ⟨x, dk, dd, dt, dm⟩ (hSL.2 _) ?_) | (gi_at_mapUpdate; refine wpListIn_mapUpdate_own _ rfl _ _ _ 101 rfl 9 47 MapN.law Tryz.underlying101 _ qf (40 + ps.length) _ rfl (za HL3) (by unfold maxLen; omega) _ _ _ rfl rfl hkey _ [] (MapN.zi6 ⟨x, dk, dd, dt, nm⟩) ?_; intro W5 own5 g5))
    have KP := hide (za KEEP W5 g5 own5)
    clear own5 g5 KEEP HL3 HG3
    gi_wp2
    exact ⟨(za KP).2.2, (za KP).2.1, by show Ow w qf qs lev L S ((pre ++ [(⟨x, hx⟩ : zk2.Way (Pl.zb2 pp))]).map Subtype.val) _; rw [za HM]; exact (za KP).1⟩
   ·have t1 : (nk == 0) = false := by simpa using hk0
    have t2 : (nk != 0) = true := by simpa using hk0
    have i1 := (za HI).step (World.grownBy_alloc W (.cells #[.string np, .int .i64 nk, .string nd, .int .i64 nt, .int .i64 nm] 47) none) (fun k e => by cases e) hfl hsl
    have A1 := Mem.Blk.new W #[.string np, .int .i64 nk, .string nd, .int .i64 nt, .int .i64 nm] 47
    have d1 := A1.cell 1
    simp only [kA0, kA1, kA2] at d1
    have hop : Pl.zq7 S (Pl.zg9 S L ps) x = Pl.zg9 S L ps := by
     rw [Pl.zq7, hlk]
     exact if_neg hk0
    have KP : Hid (Ow w qf qs lev L S (ps ++ [x]) (W.alloc (.cells #[.string np, .int .i64 nk, .string nd, .int .i64 nt, .int .i64 nm] 47))) := ⟨i1.grown, i1.box, by
     rw [za HSN, hop, List.length_append]
     obtain ⟨es, clock, hb, F, hs, hD⟩ := i1.leaf
     exact ⟨es, clock, hb, F, Nat.le_trans hs (by omega), hD⟩, i1.seen⟩
    clear i1 A1
    gi_wp2_with (gi_at_lookup; refine MapN.yl0 _ rfl _ _ 101 rfl 9 47 MapN.law Tryz.underlying101 (MapN.za7 _) qf (40 + ps.length) (MapN.mapOf (Pl.zg9 S L ps)) rfl (za HLF) _ _ rfl hkey ⟨np, nk, nd, nt, nm⟩ (za HA1) true (za HA2) ?_)
    exact ⟨(KeepsOthers.alloc _ _).from _, ⟨by simp, fun j o _ ho _ => (Below.heap_alloc _ _ _ (Array.getElem?_eq_some_iff.1 ho).1).trans ho⟩, by show Ow w qf qs lev L S ((pre ++ [(⟨x, hx⟩ : zk2.Way (Pl.zb2 pp))]).map Subtype.val) _; rw [za HM]; exact za KP⟩
 case done =>
  rintro D xs W hD hS hI hK
  have HI := hide hI
  clear hI
  gi_wp2
  refine ⟨by simp, .inl ⟨_, _, rfl, run_takeDeferred hK, ?_⟩⟩
  have hD2 : w.heap.size < D := by rw [za Z3] at hD; omega
  have O4 := (za HI).step (grownBy_putObj' W D (.deferred none)) (fun k e => by cases e; exact hD2) hfl hsl
  refine ⟨_, results_none rfl _ _ _, rfl, O4.grown, ?_⟩
  have hm := O4.leaf
  rw [hS] at hm
  have hri := Pl.ya8 (za HS) _ L (za HL) (za HW)
  refine Mem.tight hm ?_
  rw [MapN.zw4 hri.1.apart]
  have := Pl.yh6 (Pl.zb2 pp) (Pl.zb2 pp).length
  omega
 case stop =>
  rintro D c xs W _ _ h _
  exact h.elim
end WOpen
end Go.Proofs.YtppmlbofhghghaaGreatDoor

namespace Go.Proofs.YtppmlbofhghghaaGreatDoor
open Go.RowKit Go.Maps
namespace zv7
structure Done (w w' : World) (e : Ending) (qf : Nat) (O : List Pl.Nd) : Prop where
 ret : e = .returned (.tuple #[])
 grown : w.grownBy w' (some qf)
 map : ∃ N, N ≤ 1000 ∧ w'.ownsMap Tryz.prog 9 MapN.elem qf N (MapN.mapOf O)
theorem zy2 {w W W' : World} {q : Nat} (b : Below w.heap.size w W) (g : W.grownBy W' (some q)) : w.grownBy W' (some q) :=
 ⟨g.os.trans b.os, g.tape.trans b.tape, g.output.trans b.output, Nat.le_trans b.size g.size, fun k hk hne => (g.block k (Nat.lt_of_lt_of_le hk b.size) hne).trans (b.block k hk)⟩
set_option linter.unusedSimpArgs false in
set_option maxRecDepth 100000 in
set_option maxHeartbeats 1000000 in
theorem write_any (qf qs N : Nat) (lev : Int) (L : List Pl.Nd) (n : Pl.Nd) (w : World) (hL : Pl.zd9 L) (hn : Pl.za3 n.path = true) (hd : n.data.size ≤ 1048576) (hN : N ≤ 900) (hown : w.ownsMap Tryz.prog 9 MapN.elem qf N (MapN.mapOf L)) :
  Calls Tryz.prog 71 #[.agg #[.map (some qf), .map (some qs), .int .i64 lev], n.val] w fun e w' => Done w w' e qf (Pl.putL L n) := by
 have hp8 : n.path.size ≤ 8000 := by have := Pl.zb8 hn; omega
 have b0 : Below w.heap.size w ((w.alloc (.cells #[.map (some qf), .map (some qs), .int .i64 lev] 118)).alloc (.cells #[.string n.path, .int .i64 n.kind, .string n.data, .int .i64 n.time, .int .i64 n.mark] 47)) := ((Below.refl _ _).alloc (Nat.le_refl _) _).alloc (by simp) _
 have HM := hide (zc2.zd6 hown b0)
 have hkey := MapN.zi9 (p := n.path) (by unfold maxLen; omega)
 have HE : Hid (∀ W5 : World, ((w.alloc (.cells #[.map (some qf), .map (some qs), .int .i64 lev] 118)).alloc (.cells #[.string n.path, .int .i64 n.kind, .string n.data, .int .i64 n.time, .int .i64 n.mark] 47)).grownBy W5 (some qf) → W5.ownsMap Tryz.prog 9 MapN.elem qf (N + 1) ((MapN.mapOf L).put (MapN.key n.path) (MapN.dat n)) → Done w W5 (.returned (.tuple #[])) qf (Pl.putL L n)) := fun W5 g5 m5 =>
  ⟨rfl, zy2 b0 g5, N + 1, by omega, MapN.zv2 hL hn hd m5⟩
 obtain ⟨np, nk, nd, nt, nm⟩ := n
 simp only [Pl.Nd.val] at hp8 HM hkey HE b0 ⊢
 clear hown b0
 go_enter Tryz.func71, Tryz.ntmps71
 go_wp2_with (at_mapUpdate; refine wpList_mapUpdate_own _ rfl _ _ _ 101 rfl 9 47 MapN.law Tryz.underlying101 _ qf N _ rfl (za HM) (by unfold maxLen; omega) _ _ _ rfl rfl hkey _ [] (MapN.zi6 ⟨np, nk, nd, nt, nm⟩) ?_; intro W5 own5 g5)
 have K := hide (za HE W5 g5 own5)
 clear own5 g5 HE HM
 go_wp2
 go_end0
 exact za K
set_option linter.unusedSimpArgs false in
set_option maxRecDepth 100000 in
set_option maxHeartbeats 1000000 in
theorem make_any (qf qs N : Nat) (lev : Int) (L : List Pl.Nd) (n : Pl.Nd) (w : World) (hL : Pl.zd9 L) (hn : Pl.za3 n.path = true) (hd : n.data.size ≤ 1048576) (hN : N ≤ 900) (hown : w.ownsMap Tryz.prog 9 MapN.elem qf N (MapN.mapOf L)) :
  Calls Tryz.prog 89 #[.agg #[.map (some qf), .map (some qs), .int .i64 lev], n.val] w fun e w' => Done w w' e qf (Pl.putL L { n with mark := lev }) := by
 have hp8 : n.path.size ≤ 8000 := by have := Pl.zb8 hn; omega
 obtain ⟨np, nk, nd, nt, nm⟩ := n
 simp only at hn hd hp8
 have b0 : Below w.heap.size w ((w.alloc (.cells #[.map (some qf), .map (some qs), .int .i64 lev] 118)).alloc (.cells #[.string np, .int .i64 nk, .string nd, .int .i64 nt, .int .i64 lev] 47)) := ((Below.refl _ _).alloc (Nat.le_refl _) _).alloc (by simp) _
 have HM := hide (zc2.zd6 hown b0)
 have hkey := MapN.zi9 (p := np) (by unfold maxLen; omega)
 have HE : Hid (∀ W5 : World, ((w.alloc (.cells #[.map (some qf), .map (some qs), .int .i64 lev] 118)).alloc (.cells #[.string np, .int .i64 nk, .string nd, .int .i64 nt, .int .i64 lev] 47)).grownBy W5 (some qf) → W5.ownsMap Tryz.prog 9 MapN.elem qf (N + 1) ((MapN.mapOf L).put (MapN.key np) (MapN.dat ⟨np, nk, nd, nt, lev⟩)) → Done w W5 (.returned (.tuple #[])) qf (Pl.putL L ⟨np, nk, nd, nt, lev⟩)) := fun W5 g5 m5 =>
  ⟨rfl, zy2 b0 g5, N + 1, by omega, MapN.zv2 hL (n := ⟨np, nk, nd, nt, lev⟩) hn hd m5⟩
 simp only [Pl.Nd.val] at HM hkey HE b0 ⊢
 clear hown b0
 go_enter Tryz.func89, Tryz.ntmps89
 go_wp2_with (at_mapUpdate; refine wpList_mapUpdate_own _ rfl _ _ _ 101 rfl 9 47 MapN.law Tryz.underlying101 _ qf N _ rfl (za HM) (by unfold maxLen; omega) _ _ _ rfl rfl hkey _ [] (MapN.zi6 ⟨np, nk, nd, nt, lev⟩) ?_; intro W5 own5 g5)
 have K := hide (za HE W5 g5 own5)
 clear own5 g5 HE HM
 go_wp2
 go_end0
 exact za K
end zv7
end Go.Proofs.YtppmlbofhghghaaGreatDoor

namespace Go.Proofs.YtppmlbofhghghaaGreatDoor
open Go.RowKit
namespace zl7
set_option maxRecDepth 100000 in
theorem zy (k : Pl.Fo) (q : Option Nat) (m : Int) (a : Option Addr) (cap : Nat) (w : World) :
  Calls Tryz.prog 123 #[.agg #[.map q, .int .i64 m, .slice a k.len cap]] w fun e w' => e = .returned (.bool (decide (k.len = 0))) ∧ Below w.heap.size w w' := by
 by_cases h : k.len = 0
 ·have t : (k.len : Int) = 0 := by omega
  go_enter Tryz.func123, Tryz.ntmps123
  go_wp2
  go_ret
  exact ⟨by simp [h], (Below.refl _ _).alloc (Nat.le_refl _) _⟩
 ·have t : ¬ (k.len : Int) = 0 := by omega
  go_enter Tryz.func123, Tryz.ntmps123
  go_wp2
  go_ret
  exact ⟨by simp [h], (Below.refl _ _).alloc (Nat.le_refl _) _⟩
end zl7
end Go.Proofs.YtppmlbofhghghaaGreatDoor

namespace Go.Proofs.YtppmlbofhghghaaGreatDoor
open Go.RowKit
namespace WFirst
set_option linter.unusedSimpArgs false in
set_option maxRecDepth 100000 in
set_option maxHeartbeats 1000000 in
theorem zq1 (N : Nat → Prop) (n : Nat) (hn : n ≤ 1000) : ∀ (K : Pl.Fx) (L : List Pl.Nd) (q : Nat) (m : Int) (v : Value) (w : World), K.sz ≤ n → Mem.ownM w q L → Mem.layX w N K v →
  Calls Tryz.prog 81 #[.agg #[.map (some q), .int .i64 m, v]] w fun e w' => (∃ qf mf, e = .returned (.agg #[.map (some qf), .int .i64 mf]) ∧ Mem.zn9 w K q v qf ∧ Mem.ownM w qf (Pl.zd5 L K)) ∧ Below w.heap.size w w' := by
 have base : ∀ (L : List Pl.Nd) (q : Nat) (m : Int) (a : Option Addr) (cap : Nat) (w : World), Mem.ownM w q L → Calls Tryz.prog 81 #[.agg #[.map (some q), .int .i64 m, .slice a 0 cap]] w fun e w' => (∃ qf mf, e = .returned (.agg #[.map (some qf), .int .i64 mf]) ∧ Mem.zn9 w .nil q (.slice a 0 cap) qf ∧ Mem.ownM w qf (Pl.zd5 L .nil)) ∧ Below w.heap.size w w' := by
  intro L q m a cap w hm
  have b0 : Below w.heap.size w ((w.alloc (.cells #[.map (some q), .int .i64 m, .slice a 0 cap] 106)).alloc (.cells #[.map none, .int .i64 0] 103)) := ((Below.refl _ _).alloc (Nat.le_refl _) _).alloc (by simp) _
  have A0 := (Mem.Blk.new w #[.map (some q), .int .i64 m, .slice a 0 cap] 106).alloc (.cells #[.map none, .int .i64 0] 103)
  have R0 : Mem.Blk ((w.alloc (.cells #[.map (some q), .int .i64 m, .slice a 0 cap] 106)).alloc (.cells #[.map none, .int .i64 0] 103)) (w.heap.size + 1) #[.map none, .int .i64 0] 103 := Mem.zg0 _ _ _
  have hlf := hide (zl7.zy .nil (some q) m a cap)
  simp only [Pl.Fo.len] at hlf
  have HM := hide hm
  clear hm
  go_enter Tryz.func81, Tryz.ntmps81
  go_wp2_with fail
  generalize (w.alloc (.cells #[.map (some q), .int .i64 m, .slice a 0 cap] 106)).alloc (.cells #[.map none, .int .i64 0] 103) = w2 at b0 A0 R0 ⊢
  refine (za hlf _).mono ?_
  rintro e w1 ⟨rfl, b1⟩
  have bb := b0.trans (b1.mono b0.size)
  have A1 := A0.call b1
  have R1 := R0.call b1
  have c0 := A1.cell 0
  have c1 := A1.cell 1
  have d0 := R1.cell 0
  have d1 := R1.cell 1
  have f0 := R1.fr 0
  have f1 := R1.fr 1
  simp only [kA0, kA1, kA2] at c0 c1 d0 d1
  have HB := hide bb
  clear hlf A0 R0 A1 R1 b0 b1 bb
  go_wp2
  refine bodyPost_ret (v := .agg #[.map (some q), .int .i64 m]) (by simp [results, Tryz.results81, go_sem, d0, d1]) rfl ⟨⟨q, m, rfl, .inl ⟨rfl, rfl⟩, za HM⟩, ?_⟩
  exact ((za HB).setCell (by show w.heap.size ≤ w.heap.size + 1; omega) _).setCell (by show w.heap.size ≤ w.heap.size + 1; omega) _
 induction n with
 | zero =>
  intro K L q m v w hs hm hl
  obtain ⟨a, cap, rfl, -⟩ := hl
  cases K with
  | nil => exact base L q m a cap w hm
  | cons L' k' m' => simp [Pl.Fx.sz] at hs
 | succ n ih =>
  intro K L q m v w hs hm hl
  obtain ⟨a, cap, rfl, hrow⟩ := hl
  cases K with
  | nil => exact base L q m a cap w hm
  | cons L1 k1 m1 =>
   rcases hrow with h | ⟨g, rfl, hcap, hrow⟩
   ·cases h
   obtain ⟨⟨q1, a1, cap1, c0, c1, c2, hg, hN, hNq, hm1, hsub⟩, -⟩ := hrow
   have hlen : (Pl.Fx.cons L1 k1 m1).len = m1.len + 1 := rfl
   simp only [Pl.Fx.sz] at hs
   have t1 : (0 : Int) < ((m1.len + 1 : Nat) : Int) := by omega
   have HL : Mem.layX w N k1 (.slice a1 k1.len cap1) := ⟨a1, cap1, rfl, hsub⟩
   have b0 : Below w.heap.size w ((w.alloc (.cells #[.map (some q), .int .i64 m, .slice (some ⟨g, 0, none⟩) (m1.len + 1) cap] 106)).alloc (.cells #[.map none, .int .i64 0] 103)) := ((Below.refl _ _).alloc (Nat.le_refl _) _).alloc (by simp) _
   have A0 := (Mem.Blk.new w #[.map (some q), .int .i64 m, .slice (some ⟨g, 0, none⟩) (m1.len + 1) cap] 106).alloc (.cells #[.map none, .int .i64 0] 103)
   have R0 : Mem.Blk ((w.alloc (.cells #[.map (some q), .int .i64 m, .slice (some ⟨g, 0, none⟩) (m1.len + 1) cap] 106)).alloc (.cells #[.map none, .int .i64 0] 103)) (w.heap.size + 1) #[.map none, .int .i64 0] 103 := Mem.zg0 _ _ _
   have hlf := hide (zl7.zy (Pl.Fx.cons L1 k1 m1).shape (some q) m (some ⟨g, 0, none⟩) cap)
   rw [Pl.Fx.zz2, show decide ((Pl.Fx.cons L1 k1 m1).len = 0) = false from decide_eq_false (by omega)] at hlf
   rw [hlen] at hlf ⊢
   have HI := hide (fun W (b : Below w.heap.size w W) => ih (by omega) k1 L1 q1 (k1.len : Int) (.slice a1 k1.len cap1) W (by omega) (hm1.call b) (Mem.zl HL b))
   have HC : Hid (∀ W, Below w.heap.size w W → W.cell? ⟨g, 0, none⟩ = some (.map (some q1)) ∧ W.cell? ⟨g, 1, none⟩ = some (.int .i64 (k1.len : Int)) ∧ W.cell? ⟨g, 2, none⟩ = some (.slice a1 k1.len cap1)) := fun W b => ⟨(b.cell (p := ⟨g, _, none⟩) hg).trans c0, (b.cell (p := ⟨g, _, none⟩) hg).trans c1, (b.cell (p := ⟨g, _, none⟩) hg).trans c2⟩
   have HF : Hid (∀ W qf, Below w.heap.size w W → Mem.zn9 W k1 q1 (.slice a1 k1.len cap1) qf → Mem.ownM W qf (Pl.zd5 L1 k1) → Mem.zn9 w (.cons L1 k1 m1) q (.slice (some ⟨g, 0, none⟩) (m1.len + 1) cap) qf ∧ Mem.ownM w qf (Pl.zd5 L (.cons L1 k1 m1))) := fun W qf b hf ho => by
    have hlt : qf < w.heap.size ∧ qf = Mem.zi8 w (.cons L1 k1 m1) g 0 := by
     rcases hf with ⟨rfl, rfl⟩ | ⟨hk, b', n', cap', e1, e2⟩
     ·exact ⟨hm1.lt, by rw [Mem.zi8, c0]; rfl⟩
     ·injection e1 with e1 e3 e4
      rcases hsub with hsub | ⟨b'', e5, h6, h7⟩
      ·exact absurd hsub hk
      rw [e5] at e1
      cases e1
      have he : Mem.zi8 W k1 b' 0 = Mem.zi8 w k1 b' 0 := Mem.yg0 (fun j _ hj => b.block j hj) k1 b' 0 h7
      refine ⟨?_, ?_⟩
      ·rw [e2, he]
       exact Mem.firstQ_lt k1 b' 0 hk h7
      ·rw [e2, he]
       subst e5
       cases k1 with
       | nil => exact absurd rfl hk
       | cons L2 k2 m2 => rw [Mem.zi8, c2]; rfl
    exact ⟨.inr ⟨by simp, g, _, cap, rfl, hlt.2⟩, ho.same (b.block qf hlt.1).symm⟩
   clear ih base hsub HL c0 c1 c2 hlen hm hm1
   go_enter Tryz.func81, Tryz.ntmps81
   go_wp2_with fail
   generalize (w.alloc (.cells #[.map (some q), .int .i64 m, .slice (some ⟨g, 0, none⟩) (m1.len + 1) cap] 106)).alloc (.cells #[.map none, .int .i64 0] 103) = w2 at b0 A0 R0 ⊢
   refine (za hlf _).mono ?_
   rintro e w1 ⟨rfl, b1⟩
   have bb := b0.trans (b1.mono b0.size)
   have R1 := R0.call b1
   have c02 := (A0.call b1).cell 2
   simp only [kA0, kA1, kA2] at c02
   obtain ⟨d0, d1, d2⟩ := za HC w1 bb
   have hcall := hide (za HI w1 bb)
   clear b0 b1 hlf A0 R0 HI HC
   go_wp2_with fail
   refine (za hcall).mono ?_
   rintro e wX ⟨⟨qf, mf, rfl, hf, ho⟩, bX⟩
   obtain ⟨g1, g2⟩ := za HF w1 qf bb hf ho
   have bw2 := bb.trans (bX.mono bb.size)
   have R2 := R1.call bX
   have e0 := R2.cell 0
   have e1 := R2.cell 1
   have f0 := R2.fr 0
   have f1 := R2.fr 1
   simp only [kA0, kA1, kA2] at e0 e1
   have HG := hide (⟨g1, g2⟩ : _ ∧ _)
   have HB := hide bw2
   clear bb bX hcall d0 d1 d2 c02 hf ho HF R1 R2 g1 g2 bw2
   go_wp2
   refine bodyPost_ret (v := .agg #[.map (some qf), .int .i64 mf]) (by simp [results, Tryz.results81, go_sem, e0, e1]) rfl ⟨⟨qf, mf, rfl, (za HG).1, (za HG).2⟩, ?_⟩
   exact ((za HB).setCell (by show w.heap.size ≤ w.heap.size + 1; omega) _).setCell (by show w.heap.size ≤ w.heap.size + 1; omega) _
end WFirst
end Go.Proofs.YtppmlbofhghghaaGreatDoor

namespace Go.Proofs.YtppmlbofhghghaaGreatDoor
open Go.RowKit
namespace zl7
set_option linter.unusedSimpArgs false in
set_option maxRecDepth 100000 in
set_option maxHeartbeats 1000000 in
theorem yk2 (N : Nat → Prop) (n : Nat) (hn : n ≤ 1000) : ∀ (k : Pl.Fo) (q : Option Nat) (m : Int) (v : Value) (w : World), k.sz ≤ n → Mem.lay w N k v →
  Calls Tryz.prog 82 #[.agg #[.map q, .int .i64 m, v]] w fun e w' => e = .returned (.int .i64 (k.level : Int)) ∧ Below w.heap.size w w' := by
 have base : ∀ (q : Option Nat) (m : Int) (a : Option Addr) (cap : Nat) (w : World), Calls Tryz.prog 82 #[.agg #[.map q, .int .i64 m, .slice a 0 cap]] w fun e w' => e = .returned (.int .i64 0) ∧ Below w.heap.size w w' := by
  intro q m a cap w
  have b0 : Below w.heap.size w (w.alloc (.cells #[.map q, .int .i64 m, .slice a 0 cap] 106)) := (Below.refl _ _).alloc (Nat.le_refl _) _
  have hlf := hide (zy .nil q m a cap)
  simp only [Pl.Fo.len] at hlf
  go_enter Tryz.func82, Tryz.ntmps82
  go_wp2_with fail
  refine (za hlf _).mono ?_
  rintro e w1 ⟨rfl, b1⟩
  have bb := b0.trans (b1.mono b0.size)
  clear b0 b1 hlf
  go_wp2
  go_ret
  exact ⟨rfl, bb⟩
 induction n with
 | zero =>
  intro k q m v w hs hl
  obtain ⟨a, cap, rfl, -⟩ := hl
  cases k with
  | nil => exact base q m a cap w
  | cons a b => simp [Pl.Fo.sz] at hs
 | succ n ih =>
  intro k q m v w hs hl
  obtain ⟨a, cap, rfl, hrow⟩ := hl
  cases k with
  | nil => exact base q m a cap w
  | cons k0 m0 =>
   rcases hrow with h | ⟨g, rfl, hrow⟩
   ·cases h
   obtain ⟨⟨x, y, a1, cap1, c0, c1, c2, hg, hN, ⟨q1, rfl⟩, ⟨r1, rfl⟩, hsub⟩, -⟩ := hrow
   have hlen : (Pl.Fo.cons k0 m0).len = m0.len + 1 := rfl
   have hlv : (Pl.Fo.cons k0 m0).level = 1 + k0.level := rfl
   have hkd := Pl.level_le k0
   have hkz := k0.depth_le
   simp only [Pl.Fo.sz] at hs
   have t1 : (0 : Int) < ((m0.len + 1 : Nat) : Int) := by omega
   have HL : Mem.lay w N k0 (.slice a1 k0.len cap1) := ⟨a1, cap1, rfl, hsub⟩
   have b0 : Below w.heap.size w (w.alloc (.cells #[.map q, .int .i64 m, .slice (some ⟨g, 0, none⟩) (m0.len + 1) cap] 106)) := (Below.refl _ _).alloc (Nat.le_refl _) _
   have A0 := Mem.Blk.new w #[.map q, .int .i64 m, .slice (some ⟨g, 0, none⟩) (m0.len + 1) cap] 106
   have hlf := hide (zy (.cons k0 m0) q m (some ⟨g, 0, none⟩) cap)
   rw [show decide ((Pl.Fo.cons k0 m0).len = 0) = false from decide_eq_false (by omega)] at hlf
   rw [hlen] at hlf ⊢
   rw [hlv]
   have HI := hide (fun W (b : Below w.heap.size w W) => ih (by omega) k0 q1 r1 _ W (by omega) (Mem.lay_call HL b))
   have HC : Hid (∀ W, Below w.heap.size w W → W.cell? ⟨g, 0, none⟩ = some (.map q1) ∧ W.cell? ⟨g, 1, none⟩ = some (.int .i64 r1) ∧ W.cell? ⟨g, 2, none⟩ = some (.slice a1 k0.len cap1)) := fun W b => ⟨(b.cell (p := ⟨g, _, none⟩) hg).trans c0, (b.cell (p := ⟨g, _, none⟩) hg).trans c1, (b.cell (p := ⟨g, _, none⟩) hg).trans c2⟩
   clear ih base hsub HL c0 c1 c2 hlen hlv
   go_enter Tryz.func82, Tryz.ntmps82
   go_wp2_with fail
   generalize w.alloc (.cells #[.map q, .int .i64 m, .slice (some ⟨g, 0, none⟩) (m0.len + 1) cap] 106) = w2 at b0 A0 ⊢
   refine (za hlf _).mono ?_
   rintro e w1 ⟨rfl, b1⟩
   have bb := b0.trans (b1.mono b0.size)
   have c02 := (A0.call b1).cell 2
   simp only [kA0, kA1, kA2] at c02
   obtain ⟨d0, d1, d2⟩ := za HC w1 bb
   have hcall := hide (za HI w1 bb)
   clear b0 b1 hlf A0 HI HC
   go_wp2_with fail
   refine (za hcall).mono ?_
   rintro e wX ⟨rfl, bX⟩
   have bw2 := bb.trans (bX.mono bb.size)
   clear bb bX hcall d0 d1 d2 c02
   go_wp2
   go_ret
   exact ⟨by simp, bw2⟩
end zl7
end Go.Proofs.YtppmlbofhghghaaGreatDoor

namespace Go.Proofs.YtppmlbofhghghaaGreatDoor
open Go.RowKit Go.Maps
namespace zz1
theorem six4 {w : World} {x : Nat → Addr} (h : WIs.Six w x) : zl7.Errs4 w 248 248 248 248 (.pointer (some (x 0))) (.pointer (some (x 1))) (.pointer (some (x 2))) (.pointer (some (x 3))) := ⟨h.c0, h.errs⟩
theorem rise_tree (B : Nat) (L : List Pl.Nd) (w : World) (ht : Pl.za5 L = true) (hm : Mem.ownM w B L) :
  Calls Tryz.prog 120 #[.map (some B)] w fun e w' => ∃ v, e = .returned v ∧ Mem.ownN w' w.heap.size v L ∧ Below w.heap.size w w' :=
 zm9.any B 40 L L (MapN.mapOf L) w hm (by omega) (MapN.zj5 (Pl.zy5 ht)) (Pl.zy5 ht) (List.Perm.refl _) (Pl.tree_rise' ht) (fun n hn => by
  have h2 := (((Pl.zd2 _).1 ht).2.1 n hn).1
  have h4 := (Pl.zd3 h2).1
  exact ⟨(Pl.za9 h2).1, by omega⟩)
end zz1
end Go.Proofs.YtppmlbofhghghaaGreatDoor

namespace Go.Proofs.YtppmlbofhghghaaGreatDoor
open Go.RowKit Go.Maps
namespace yb8
set_option maxRecDepth 100000 in
theorem in_over (B : Nat) (v : Value) (Bs : List Nat) (Ls : List (List Pl.Nd)) (w : World) (hov : zi0.Ov w B v Bs Ls) (h4 : Ls.length ≤ 4) (htr : ∀ L ∈ Ls, Pl.za5 L = true) :
  Calls Tryz.prog 165 #[.iface 194 v] w fun e w' => e = .returned (.map (some w.heap.size)) ∧ Whole w w' Ls w.heap.size := by
 have hg := hide (gathered_any B v Bs Ls w hov h4 htr)
 obtain ⟨a, cap, rfl⟩ := zk7.zu3 hov
 have h1 := no_map a Ls.length cap
 have h2 := is_over a Ls.length cap
 clear hov
 go_enter Tryz.func165, Tryz.ntmps165
 go_wp2_with fail
 refine (za hg).mono ?_
 rintro e w1 ⟨rfl, h⟩
 clear hg h1 h2
 go_wp2
 go_ret
 exact ⟨rfl, h⟩
def WholeIs (w w' : World) (Ls : List (List Pl.Nd)) (x : Nat → Addr) (e : Ending) : Prop :=
 (∃ N D C, e = .returned (.tuple #[.map (some w.heap.size), .nilIface]) ∧ C.length ≤ 40 ∧ N ≤ 200 ∧ Gk w w' Ls w.heap.size N D C ∧ ∀ n, n ∈ C ↔ Pl.zp5 Ls n) ∨
 (∃ C : List Pl.Nd, e = .returned (.tuple #[.map none, .iface 248 (.pointer (some (x 5)))]) ∧ 40 < C.length ∧ C.Pairwise (fun a b => a.path ≠ b.path) ∧ (∀ n, n ∈ C ↔ Pl.zp5 Ls n) ∧ Below w.heap.size w w')
set_option maxRecDepth 100000 in
set_option maxHeartbeats 400000 in
theorem whole_any (B : Nat) (v : Value) (Bs : List Nat) (Ls : List (List Pl.Nd)) (w : World) (hov : zi0.Ov w B v Bs Ls) (h4 : Ls.length ≤ 4) (htr : ∀ L ∈ Ls, Pl.za5 L = true) (x : Nat → Addr) (hE : WIs.Six w x) :
  Calls Tryz.prog 157 #[v] w fun e w' => WholeIs w w' Ls x e := by
 have hg := hide (in_over B v Bs Ls w hov h4 htr)
 obtain ⟨a, cap, rfl⟩ := zk7.zu3 hov
 have HE := hide hE
 clear hov hE
 go_enter Tryz.func157, Tryz.ntmps157
 go_wp2_with fail
 refine (za hg).mono ?_
 rintro e w1 ⟨rfl, N, D, C, hN, G, hC⟩
 clear hg
 have KG := hide G
 have HC := hide hC
 have hsz := G.gt.size
 have hk := ((za HE).call G.bel).c5
 clear G hC
 by_cases hl : 40 < C.length
 ·have y1 : (40 : Int) < (Maps.size D : Int) := by omega
  go_wp2_with (first
   | (at_len; refine wpList_len_own _ rfl _ 101 rfl 9 47 Tryz.underlying101 _ w.heap.size N D rfl (za KG).map ?_)
   | go_in)
  go_region
  go_wp2
  go_ret2
  exact .inr ⟨C, rfl, hl, (za KG).gt.apart, za HC, Mem.below_drewN (za KG).bel 1⟩
 ·have y1 : ¬ (40 : Int) < (Maps.size D : Int) := by omega
  go_wp2_with (first
   | (at_len; refine wpList_len_own _ rfl _ 101 rfl 9 47 Tryz.underlying101 _ w.heap.size N D rfl (za KG).map ?_)
   | go_in)
  go_ret2
  exact .inl ⟨N, D, C, rfl, by omega, hN, za KG, za HC⟩
end yb8
end Go.Proofs.YtppmlbofhghghaaGreatDoor

