/- Several texts of one claim in one file: LaySort, WOrder, WRising. -/
import Derived.Shelf.SlSortCmp.NoneTotal
import Derived.Test.YtibmflhelgedeaaGreatDoorProg
import Derived.Test.YtibmflhelgedeaaGreatDoorG07
import Derived.Test.YtibmflhelgedeaaGreatDoorG01
import Derived.Test.YtibmflhelgedeaaGreatDoorG08
import Derived.Test.YtibmflhelgedeaaGreatDoorG02
import Derived.Lib.QuietBelow
import Derived.Maps.RangeWalk
import Derived.Sort.MapsRangeIn
/- slices.SortFunc at nodes: the shelf's laying, at this program. -/
namespace Go.Proofs.YtibmflhelgedeaaGreatDoor
open Go.Shelf
namespace LaySort
def ren : Go.Shelf.Ren := ⟨fun | 6 => 136 | 15 => 170 | 14 => 169 | 28 => 192 | 29 => 193 | 20 => 184 | 21 => 185 | 22 => 186 | 23 => 187 | 24 => 188 | 25 => 189 | 26 => 190 | 27 => 191 | 46 => 199 | 47 => 200 | 48 => 201 | 49 => 202 | 50 => 203 | 57 => 204 | n => n, fun | 22 => 23 | 24 => 27 | 25 => 166 | 3 => 3 | 39 => 161 | 0 => 0 | 53 => 232 | 55 => 156 | 4 => 4 | 46 => 225 | 45 => 224 | 50 => 229 | 5 => 5 | 9 => 9 | 66 => 239 | 70 => 243 | 76 => 245 | 77 => 246 | n => n, fun n => n⟩
theorem lay : SlLaysF0.n6 Tryz.prog ren where
  mixed := by kernel_rfl
  f6 := ⟨ "slices.SortFunc[[]loop.example/g00449/impl.Node,loop.example/g00449/impl.Node]", by decide, Tryz.func136.trans (congrArg some (by kernel_rfl))⟩
  f14 := ⟨ "slices.pdqsortCmpFunc[loop.example/g00449/impl.Node]", by decide, Tryz.func169.trans (congrArg some (by kernel_rfl))⟩
  f15 := Tryz.func170.trans (congrArg some (by kernel_rfl))
  f20 := ⟨ "slices.insertionSortCmpFunc[loop.example/g00449/impl.Node]", by decide, Tryz.func184.trans (congrArg some (by kernel_rfl))⟩
  f21 := ⟨ "slices.heapSortCmpFunc[loop.example/g00449/impl.Node]", by decide, Tryz.func185.trans (congrArg some (by kernel_rfl))⟩
  f22 := ⟨ "slices.breakPatternsCmpFunc[loop.example/g00449/impl.Node]", by decide, Tryz.func186.trans (congrArg some (by kernel_rfl))⟩
  f23 := ⟨ "slices.choosePivotCmpFunc[loop.example/g00449/impl.Node]", by decide, Tryz.func187.trans (congrArg some (by kernel_rfl))⟩
  f24 := ⟨ "slices.reverseRangeCmpFunc[loop.example/g00449/impl.Node]", by decide, Tryz.func188.trans (congrArg some (by kernel_rfl))⟩
  f25 := ⟨ "slices.partialInsertionSortCmpFunc[loop.example/g00449/impl.Node]", by decide, Tryz.func189.trans (congrArg some (by kernel_rfl))⟩
  f26 := ⟨ "slices.partitionEqualCmpFunc[loop.example/g00449/impl.Node]", by decide, Tryz.func190.trans (congrArg some (by kernel_rfl))⟩
  f27 := ⟨ "slices.partitionCmpFunc[loop.example/g00449/impl.Node]", by decide, Tryz.func191.trans (congrArg some (by kernel_rfl))⟩
  f28 := Tryz.func192.trans (congrArg some (by kernel_rfl))
  f29 := Tryz.func193.trans (congrArg some (by kernel_rfl))
  f46 := ⟨ "slices.siftDownCmpFunc[loop.example/g00449/impl.Node]", by decide, Tryz.func199.trans (congrArg some (by kernel_rfl))⟩
  f47 := Tryz.func200.trans (congrArg some (by kernel_rfl))
  f48 := Tryz.func201.trans (congrArg some (by kernel_rfl))
  f49 := ⟨ "slices.medianAdjacentCmpFunc[loop.example/g00449/impl.Node]", by decide, Tryz.func202.trans (congrArg some (by kernel_rfl))⟩
  f50 := ⟨ "slices.medianCmpFunc[loop.example/g00449/impl.Node]", by decide, Tryz.func203.trans (congrArg some (by kernel_rfl))⟩
  f57 := ⟨ "slices.order2CmpFunc[loop.example/g00449/impl.Node]", by decide, Tryz.func204.trans (congrArg some (by kernel_rfl))⟩
  t0 := Tryz.underlying0
  a0 := Tryz.isAgg0
  z0 := Tryz.sizeOf0
  v0 := Tryz.zeroValue0
  t3 := Tryz.underlying3
  a3 := Tryz.isAgg3
  z3 := Tryz.sizeOf3
  v3 := Tryz.zeroValue3
  t4 := Tryz.underlying4
  a4 := Tryz.isAgg4
  z4 := Tryz.sizeOf4
  v4 := Tryz.zeroValue4
  t5 := Tryz.underlying5
  a5 := Tryz.isAgg5
  z5 := Tryz.sizeOf5
  v5 := Tryz.zeroValue5
  t9 := Tryz.underlying9
  a9 := Tryz.isAgg9
  z9 := Tryz.sizeOf9
  v9 := Tryz.zeroValue9
  t22 := Tryz.underlying23
  a22 := Tryz.isAgg23
  z22 := Tryz.sizeOf23
  v22 := Tryz.zeroValue23
  t25 := Tryz.underlying166
  a25 := Tryz.isAgg166
  z25 := Tryz.sizeOf166
  v25 := Tryz.zeroValue166
  t39 := Tryz.underlying161
  a39 := Tryz.isAgg161
  z39 := Tryz.sizeOf161
  v39 := Tryz.zeroValue161
  t45 := Tryz.underlying224
  a45 := Tryz.isAgg224
  z45 := Tryz.sizeOf224
  v45 := Tryz.zeroValue224
  t46 := Tryz.underlying225
  a46 := Tryz.isAgg225
  z46 := Tryz.sizeOf225
  v46 := Tryz.zeroValue225
  t50 := Tryz.underlying229
  a50 := Tryz.isAgg229
  z50 := Tryz.sizeOf229
  v50 := Tryz.zeroValue229
  t53 := Tryz.underlying232
  a53 := Tryz.isAgg232
  z53 := Tryz.sizeOf232
  v53 := Tryz.zeroValue232
  t55 := Tryz.underlying156
  a55 := Tryz.isAgg156
  z55 := Tryz.sizeOf156
  v55 := Tryz.zeroValue156
  t66 := Tryz.underlying239
  a66 := Tryz.isAgg239
  z66 := Tryz.sizeOf239
  v66 := Tryz.zeroValue239
  t70 := Tryz.underlying243
  a70 := Tryz.isAgg243
  z70 := Tryz.sizeOf243
  v70 := Tryz.zeroValue243
  t76 := Tryz.underlying245
  a76 := Tryz.isAgg245
  z76 := Tryz.sizeOf245
  v76 := Tryz.zeroValue245
  t77 := Tryz.underlying246
  a77 := Tryz.isAgg246
  z77 := Tryz.sizeOf246
  v77 := Tryz.zeroValue246
theorem agg : ∀ w, (isAgg (ren.t 24)).run Tryz.prog w = .ok true w := Tryz.isAgg27
theorem size : ∀ w, (Go.sizeOf (ren.t 24)).run Tryz.prog w = .ok 5 w := Tryz.sizeOf27
end LaySort
end Go.Proofs.YtibmflhelgedeaaGreatDoor

/- The walk of pathOrder, and of slices.SortFunc by it: a row of nodes of right paths comes out in order. -/
namespace Go.Proofs.YtibmflhelgedeaaGreatDoor
open Go.RowKit Go.Sort
namespace WOrder
theorem grow_of {w w' : World} (h : Go.RowKit.Below w.heap.size w w') (hd : w.drawn ≤ w'.drawn) : ∃ q os', w' = grow (w.drewN q) os' := by
  obtain ⟨⟨d, os⟩, e⟩ := regrown_of_below h
  have e2 : w'.drawn = d := by rw [e]; rfl
  refine ⟨d - w.drawn, os, ?_⟩
  rw [e]
  show grow (redrawn w d) os = grow (w.drewN (d - w.drawn)) os
  unfold redrawn World.drewN
  rw [show w.drawn + (d - w.drawn) = d by omega]
/-- Nodes of a right path. -/
abbrev Rn := {n : Pl.Nd // Pl.pathB n.path = true}
def cf (x y : Rn) : Int := if Pl.ltP x.1.path y.1.path then -1 else if Pl.ltP y.1.path x.1.path then 1 else 0
theorem lt_cf (x y : Rn) : ltOf cf x y = Pl.ltP x.1.path y.1.path := by
  unfold ltOf cf
  cases Pl.ltP x.1.path y.1.path
  · cases Pl.ltP y.1.path x.1.path <;> rfl
  · rfl
theorem lt_anti {x y : Rn} (h : x.1.path ≠ y.1.path) : Pl.ltP x.1.path y.1.path = !Pl.ltP y.1.path x.1.path := Pl.two_less x.2 y.2 h
theorem lt_irr (x : Rn) : Pl.ltP x.1.path x.1.path = false := by rw [Pl.ltP_right x.2 x.2]; exact Pl.less_irr _
theorem lt_tr {x y z : Rn} (h1 : Pl.ltP x.1.path y.1.path = true) (h2 : Pl.ltP y.1.path z.1.path = true) : Pl.ltP x.1.path z.1.path = true := by
  rw [Pl.ltP_right x.2 y.2] at h1
  rw [Pl.ltP_right y.2 z.2] at h2
  rw [Pl.ltP_right x.2 z.2]
  exact Pl.less_trans _ _ _ h1 h2
theorem swo : SWO (ltOf cf) where
  irrefl x := by rw [lt_cf]; exact lt_irr x
  trans x y z h1 h2 := by rw [lt_cf] at *; exact lt_tr h1 h2
  ntrans x y z h1 h2 := by
    rw [lt_cf] at *
    cases h : Pl.ltP x.1.path z.1.path
    · rfl
    · exfalso
      by_cases e : x.1.path = y.1.path
      · rw [← e, h] at h2; cases h2
      · have a := lt_anti e
        rw [h1] at a
        have b : Pl.ltP y.1.path x.1.path = true := by
          cases hb : Pl.ltP y.1.path x.1.path
          · rw [hb] at a; cases a
          · rfl
        rw [lt_tr b h] at h2
        cases h2
def cfP (p q : ByteArray) : Int := if Pl.ltP p q then -1 else if Pl.ltP q p then 1 else 0
set_option maxRecDepth 100000 in
theorem order_path (p q : ByteArray) (hp : Pl.pathB p = true) (hq : Pl.pathB q = true) (w : World) :
    Calls Tryz.prog 138 #[.string p, .string q] w fun e w' => e = .returned (.int .i64 (cfP p q)) ∧ Go.RowKit.Below w.heap.size w w' := by
  have h1 := hide (fun W => WLess.less_any p q W (by have := Pl.pathB_le hp; omega) (by have := Pl.pathB_le hq; omega))
  have h2 := hide (fun W => WLess.less_any q p W (by have := Pl.pathB_le hq; omega) (by have := Pl.pathB_le hp; omega))
  change Hid (∀ W, Calls Tryz.prog _ _ W fun e w' => e = .returned (.bool (Pl.ltP p q)) ∧ _) at h1
  change Hid (∀ W, Calls Tryz.prog _ _ W fun e w' => e = .returned (.bool (Pl.ltP q p)) ∧ _) at h2
  unfold cfP
  generalize Pl.ltP p q = r1 at h1 ⊢
  generalize Pl.ltP q p = r2 at h2 ⊢
  clear hp hq
  cases r1
  · go_enter Tryz.func138, Tryz.ntmps138
    go_wp2_with fail
    refine (unhide h1 _).mono ?_
    rintro e w1 ⟨rfl, b1⟩
    clear h1
    go_wp2_with fail
    refine (unhide h2 _).mono ?_
    rintro e w3 ⟨rfl, b3⟩
    have b4 := b1.trans (b3.mono b1.size)
    clear b1 b3 h2
    cases r2
    · go_wp2
      go_ret
      exact ⟨rfl, b4⟩
    · go_wp2
      go_ret
      exact ⟨rfl, b4⟩
  · clear h2
    go_enter Tryz.func138, Tryz.ntmps138
    go_wp2_with fail
    refine (unhide h1 _).mono ?_
    rintro e w1 ⟨rfl, b1⟩
    clear h1
    go_wp2
    go_ret
    exact ⟨rfl, b1⟩
set_option maxRecDepth 100000 in
theorem order_any (x y : Rn) (w : World) :
    Calls Tryz.prog 137 #[.agg x.1.cs.toArray, .agg y.1.cs.toArray] w fun e w' => e = .returned (.int .i64 (cf x y)) ∧ Go.RowKit.Below w.heap.size w w' := by
  have h1 := hide (fun W => order_path x.1.path y.1.path x.2 y.2 W)
  have e1 : cf x y = cfP x.1.path y.1.path := rfl
  rw [e1]
  generalize cfP x.1.path y.1.path = r at h1 ⊢
  obtain ⟨⟨p, k, d, t, m⟩, hx⟩ := x
  obtain ⟨⟨p', k', d', t', m'⟩, hy⟩ := y
  simp only [Pl.Nd.cs] at h1 ⊢
  have b0 : Go.RowKit.Below w.heap.size w ((w.alloc (.cells #[.string p, .int .i64 k, .string d, .int .i64 t, .int .i64 m] 27)).alloc (.cells #[.string p', .int .i64 k', .string d', .int .i64 t', .int .i64 m'] 27)) := ((Below.refl _ _).alloc (Nat.le_refl _) _).alloc (by simp) _
  clear hx hy e1
  go_enter Tryz.func137, Tryz.ntmps137
  go_wp2_with fail
  refine (unhide h1 _).mono ?_
  rintro e w1 ⟨rfl, b1⟩
  have b2 := b0.trans (b1.mono b0.size)
  clear b0 b1 h1
  go_wp2
  go_ret
  exact ⟨rfl, b2⟩
theorem cmp_lays (blk off size : Nat) (w : World) [Inhabited Rn] : CmpLays Tryz.prog 137 #[] (fun x : Rn => x.1.cs) 5 cf blk off size w := fun m os dk _ x y => by
  have h := Drw.calls_up (fun e w' (h : e = .returned (.int .i64 (cf x y)) ∧ _) => ⟨_, h.1⟩) (order_any x y (sortWorldK (fun x : Rn => x.1.cs) 5 w blk off m dk os))
  exact h.mono fun e w' ⟨⟨he, hb⟩, hd⟩ => ⟨he, grow_of hb hd⟩
/-- The row behind a sort. -/
theorem heap_sorted {α : Type} [Inhabited α] (enc : α → List Value) (w : World) (g n : Nat) (d : Array α) (os : Array Obj) (cur : Array Value) (T : TypeId) (hg : w.heap[g]? = some (.cells cur T (0, 0))) :
    (sortWorldK enc 5 w g 0 n d os).heap[g]? = some (.cells (putCells id 0 (flatK enc 5 d) cur) T (0, 0)) := by
  have hlt : g < w.heap.size := (Array.getElem?_eq_some_iff.1 hg).1
  unfold sortWorldK grow putRowK putRow mapBlock
  simp only [Array.getElem?_append, Array.size_modify]
  rw [if_pos (show g < (Sort.ahead w n).heap.size from hlt), Array.getElem?_modify, if_pos rfl]
  show Option.map _ (w.heap[g]?) = _
  rw [hg]
  rfl
theorem grown_sorted {α : Type} [Inhabited α] (enc : α → List Value) (w : World) (g n : Nat) (d : Array α) (os : Array Obj) : w.grownBy (sortWorldK enc 5 w g 0 n d os) (some g) := by
  refine ⟨rfl, rfl, rfl, ?_, fun j hj hne => ?_⟩
  · unfold sortWorldK grow putRowK putRow mapBlock
    simp only [Array.size_append, Array.size_modify]
    exact Nat.le_add_right _ _
  · have h : j ≠ g := fun e => hne (by rw [e])
    unfold sortWorldK grow putRowK putRow mapBlock
    simp only [Array.getElem?_append, Array.size_modify]
    rw [if_pos (show j < (Sort.ahead w n).heap.size from hj), Array.getElem?_modify, if_neg (fun e => h e.symm)]
    rfl
theorem flat_get (d : Array Rn) [Inhabited Rn] (t : Nat) (h : t < d.size * 5) : (flatK (fun x : Rn => x.1.cs) 5 d)[t]! = (Pl.cellsN (d.toList.map (·.1)))[t]! := by
  rw [get_flatK _ _ _ _ h]
  have hd : t / 5 < d.size := by omega
  have e : (d.toList.map (·.1))[t / 5]? = some (d[t / 5]!).1 := by
    rw [List.getElem?_map, Array.getElem?_toList, Array.getElem?_eq_getElem hd, getElem!_pos d _ hd]; rfl
  have h2 := Pl.cellsN_get _ _ _ e (t % 5) (by omega)
  rw [show t / 5 * 5 + t % 5 = t by omega] at h2
  rw [List.getElem!_eq_getElem?_getD, List.getElem!_eq_getElem?_getD, h2]
/-- slices.SortFunc by rising's order: a row of the call's own that holds nodes of right paths comes out in order. -/
theorem sort_any (g cap B : Nat) (T : List Pl.Nd) (w : World) (hp : ∀ t ∈ T, Pl.pathB t.path = true) (hl : T.length ≤ 1048576) (hown : Mem.ownN w B (.slice (some ⟨g, 0, none⟩) T.length cap) T) :
    Calls Tryz.prog 136 #[.slice (some ⟨g, 0, none⟩) T.length cap, .func (.func 137) #[] #[]] w fun e w' => e = .returned (.tuple #[]) ∧
      ∃ S : List Pl.Nd, S.Perm T ∧ S.Pairwise (fun a b => Pl.ltP b.path a.path = false) ∧ Mem.ownN w' B (.slice (some ⟨g, 0, none⟩) T.length cap) S ∧ w.grownBy w' (some g) := by
  by_cases h0 : T = []
  · subst h0
    refine Calls.mono (AnyF.slices_SortFunc_none (P := Tryz.prog) LaySort.lay (some ⟨g, 0, none⟩) cap (.func (.func 137) #[] #[]) w) ?_
    rintro e w' ⟨he, rfl⟩
    exact ⟨he, [], List.Perm.refl _, List.Pairwise.nil, hown, ⟨rfl, rfl, rfl, Nat.le_refl _, fun _ _ _ => rfl⟩⟩
  obtain ⟨t0, ht0⟩ := List.exists_mem_of_ne_nil T h0
  letI : Inhabited Rn := ⟨⟨t0, hp t0 ht0⟩⟩
  rcases hown.2 with ⟨e, -⟩ | ⟨g', cap', cur, e, hb, hg, hc, hm, hsz, ht⟩
  · cases e
  injection e with e1 e2 e3
  cases e1
  subst e3
  let d : Array Rn := (T.attach.map (fun t => (⟨t.1, hp t.1 t.2⟩ : Rn))).toArray
  have hd : d.toList.map (·.1) = T := by simp [d]
  have hds : d.size = T.length := by simp [d]
  have hcur : T.length * 5 ≤ cur.size := by rw [hsz]; exact Nat.mul_le_mul_right _ hc
  have hH : HoldsK (fun x : Rn => x.1.cs) 5 w g 0 d := by
    intro j hj
    rw [size_flatK, hds] at hj
    refine ⟨?_, Mem.row_frozen hg⟩
    rw [cell_of_row w g _ cur _ (0, 0) hg, Nat.zero_add, flat_get d j (by omega), hd, id_eq]
    have h1 : (Pl.cellsN T)[j]? = cur[j]? := by rw [← ht, List.getElem?_take_of_lt (by omega), Array.getElem?_toList]
    rw [← h1, List.getElem!_eq_getElem?_getD, List.getElem?_eq_getElem (by rw [Pl.cellsN_len]; omega)]
    rfl
  have hcon := AnyQ.slices_SortFunc (P := Tryz.prog) LaySort.lay 5 LaySort.agg LaySort.size (fun x : Rn => x.1.cs) (fun _ => rfl) (fun x => Mem.cs_one x.1) cf swo 137 #[] g 0 cap d w (enters_of Tryz.func137 (by kernel_rfl) rfl) (cmp_lays g 0 d.size w) hH (Array.getElem?_eq_some_iff.1 hg).1 (by omega)
  rw [hds] at hcon
  refine Calls.mono hcon ?_
  rintro e w' ⟨he, d', n, os, hperm, hsort, rfl⟩
  have hs' : d'.size = T.length := hperm.1.trans hds
  refine ⟨he, d'.toList.map (·.1), ?_, ?_, ?_, grown_sorted _ w g n d' os⟩
  · have h := hperm.2.2
    rw [← hds] at h
    have e1 : (d'.extract 0 d.size).toList = d'.toList := by simp [hperm.1.symm]
    have e2 : (d.extract 0 d.size).toList = d.toList := by simp
    rw [e1, e2] at h
    have := h.map (·.1)
    rwa [hd] at this
  · rw [List.pairwise_map, List.pairwise_iff_getElem]
    intro i j hi hj hij
    have h := hsort i j (Nat.zero_le _) hij (by simp at hj; omega)
    rw [lt_cf, getElem!_pos d' i (by simpa using hi), getElem!_pos d' j (by simpa using hj)] at h
    simpa using h
  · have hlen : (d'.toList.map (·.1)).length = T.length := by simp [hs']
    refine ⟨?_, .inr ⟨g, cap, _, ?_, hb, heap_sorted _ w g n d' os cur _ hg, ?_, hm, ?_, ?_⟩⟩
    · rw [Pl.cellsN_len]
    · rw [hlen]
    · rw [hlen]; exact hc
    · simp only [putCells, Array.size_mapIdx]; exact hsz
    · rw [hlen]
      apply List.ext_getElem?
      intro j
      by_cases hj : j < T.length * 5
      · rw [List.getElem?_take_of_lt hj, Array.getElem?_toList]
        have h1 : (flatK (fun x : Rn => x.1.cs) 5 d')[j]! = (Pl.cellsN (d'.toList.map (·.1)))[j]! := flat_get d' j (by omega)
        rw [putCells, Array.getElem?_mapIdx, Array.getElem?_eq_getElem (by omega)]
        simp only [Option.map_some, size_flatK, Nat.zero_le, true_and, Nat.zero_add, Nat.sub_zero, id_eq]
        rw [if_pos (by omega), h1, List.getElem!_eq_getElem?_getD, List.getElem?_eq_getElem (by rw [Pl.cellsN_len, hlen]; omega)]
        rfl
      · rw [List.getElem?_eq_none (by rw [List.length_take]; omega), List.getElem?_eq_none (by rw [Pl.cellsN_len, hlen]; omega)]
end WOrder
end Go.Proofs.YtibmflhelgedeaaGreatDoor

/- The walk of rising: the nodes of a map, in order, in memory of the call's own. -/
namespace Go.Proofs.YtibmflhelgedeaaGreatDoor
open Go.RowKit Go.Maps
namespace Pl
theorem lt_asym {a b : ByteArray} (ha : pathB a = true) (hb : pathB b = true) (h : ltP a b = true) : ltP b a = false := by
  cases h2 : ltP b a
  · rfl
  · rw [ltP_right ha hb] at h
    rw [ltP_right hb ha] at h2
    have := less_trans _ _ _ h h2
    rw [less_irr] at this
    cases this
/-- There is one list in order. -/
theorem sorted_one {S L : List Nd} (hp : S.Perm L) (hok : ∀ n ∈ L, pathB n.path = true) (h0 : L.Pairwise (fun a b => ltP a.path b.path = true)) (hs : S.Pairwise (fun a b => ltP b.path a.path = false)) : S = L := by
  have hap : ∀ a ∈ L, ∀ b ∈ L, a.path = b.path → a = b := by
    have h1 : L.Pairwise (fun a b => lessL (names a.path) (names b.path) = true) := List.Pairwise.imp_of_mem (fun {a b} ha hb h => by rw [← ltP_right (hok a ha) (hok b hb)]; exact h) h0
    exact fun a ha b hb e => one_path h1 ha hb e
  refine List.Perm.eq_of_pairwise (le := fun a b => ltP b.path a.path = false) ?_ hs (List.Pairwise.imp_of_mem (fun {a b} ha hb h => lt_asym (hok a ha) (hok b hb) h) h0) hp
  intro a b ha hb h1 h2
  have ha' := hp.mem_iff.1 ha
  refine hap a ha' b hb ?_
  by_cases e : a.path = b.path
  · exact e
  · have := two_less (hok a ha') (hok b hb) e
    change ltP a.path b.path = !ltP b.path a.path at this
    rw [h1, h2] at this
    cases this
end Pl
namespace MapN
theorem keyOf_inv {p : ByteArray} {kl : Lit} (h : keyOf Tryz.prog 9 (.string p) = some kl) : kl = key p := by
  simp [keyOf, Tryz.underlying9, mapKey] at h
  rw [← h.2]; rfl
/-- A map reads as some nodes. -/
structure Reads (D : DataW Unit) (C : List Pl.Nd) : Prop where
  has : ∀ n ∈ C, Maps.has D (key n.path) = true
  ent : ∀ (p : ByteArray) (c : Pl.Nd), (∀ z, D.atKey (key p) z = dat c) → c ∈ C ∧ p = c.path
/-- What has come of a map's nodes, and what has not. -/
structure Got (C T : List Pl.Nd) (left : Lit → Bool) : Prop where
  sub : ∀ t ∈ T, t ∈ C
  apart : T.Pairwise (fun a b => a.path ≠ b.path)
  seen : ∀ t ∈ T, left (key t.path) = false
  all : ∀ n ∈ C, left (key n.path) = false → n ∈ T
theorem got_start {C : List Pl.Nd} {D : DataW Unit} (hD : Reads D C) : Got C [] (Maps.has D) :=
  ⟨fun t h => absurd h (by simp), List.Pairwise.nil, fun t h => absurd h (by simp), fun n hn h => by rw [hD.has n hn] at h; cases h⟩
theorem one_apart {C : List Pl.Nd} (h : C.Pairwise (fun a b => a.path ≠ b.path)) {a b : Pl.Nd} (ha : a ∈ C) (hb : b ∈ C) (e : a.path = b.path) : a = b := by
  induction h with
  | nil => cases ha
  | cons h1 _ ih =>
    rcases List.mem_cons.1 ha with ha1 | ha1
    · rcases List.mem_cons.1 hb with hb1 | hb1
      · rw [ha1, hb1]
      · exact absurd (ha1 ▸ e) (h1 _ hb1)
    · rcases List.mem_cons.1 hb with hb1 | hb1
      · exact absurd (hb1 ▸ e).symm (h1 _ ha1)
      · exact ih ha1 hb1
/-- An entry that comes is a node of the map. -/
theorem entry_in {C : List Pl.Nd} {p : ByteArray} {c : Pl.Nd} (hC : C.Pairwise (fun a b => a.path ≠ b.path)) (h : ∀ z, (mapOf C).atKey (key p) z = dat c) : c ∈ C ∧ p = c.path := by
  by_cases hp : ∃ n ∈ C, n.path = p
  · obtain ⟨n, hn, rfl⟩ := hp
    have e := (at_yes hC hn).2 (dat c)
    rw [h] at e
    have e2 := dat_inj e
    subst e2
    exact ⟨hn, rfl⟩
  · exfalso
    have hm : ∀ n ∈ C, n.path ≠ p := fun n hn e => hp ⟨n, hn, e⟩
    have h1 := (mapOf_miss p C (.map []) hm).2
    have a : ∀ z, dat c = z := fun z => by rw [← h z]; exact h1 z
    have a1 := a (dat ⟨p, c.kind + 1, p, 0, 0⟩)
    have a2 := dat_inj a1
    have a3 := congrArg Pl.Nd.kind a2
    simp only at a3
    omega
theorem reads_mapOf {C : List Pl.Nd} (hC : C.Pairwise (fun a b => a.path ≠ b.path)) : Reads (mapOf C) C := ⟨fun _ hn => (at_yes hC hn).1, fun _ _ h => entry_in hC h⟩
theorem got_step {C T : List Pl.Nd} {left : Lit → Bool} {c : Pl.Nd} (hC : C.Pairwise (fun a b => a.path ≠ b.path)) (h : Got C T left) (hc : c ∈ C) (hl : left (key c.path) = true) : Got C (T ++ [c]) (fun z => left z && !z.sameKey (key c.path)) := by
  have same : (key c.path).sameKey (key c.path) = true := by simp [key, Lit.sameKey]
  refine ⟨fun t ht => ?_, ?_, fun t ht => ?_, fun n hn hf => ?_⟩
  · rcases List.mem_append.1 ht with ht | ht
    · exact h.sub t ht
    · simp at ht; subst ht; exact hc
  · rw [List.pairwise_append]
    refine ⟨h.apart, List.pairwise_singleton _ _, fun a ha b hb e => ?_⟩
    simp at hb; subst hb
    have := h.seen a ha
    rw [e, hl] at this; cases this
  · rcases List.mem_append.1 ht with ht | ht
    · show (left (key t.path) && _) = false
      rw [h.seen t ht]; rfl
    · simp at ht; subst ht
      show (left (key t.path) && !(key t.path).sameKey (key t.path)) = false
      rw [same]; simp
  · by_cases e : n.path = c.path
    · rw [one_apart hC hn hc e]; simp
    · refine List.mem_append.2 (.inl (h.all n hn ?_))
      have hs := sameKey_ne (key_ne e)
      have hf' : (left (key n.path) && !(key n.path).sameKey (key c.path)) = false := hf
      rw [hs] at hf'
      simpa using hf'
theorem got_end {C T : List Pl.Nd} {left : Lit → Bool} (hC : C.Pairwise (fun a b => a.path ≠ b.path)) (h : Got C T left) (hl : ∀ k, left k = false) : T.Perm C := by
  refine (List.perm_ext_iff_of_nodup (h.apart.imp (fun {a b} hne e => hne (by rw [e]))) (hC.imp (fun {a b} hne e => hne (by rw [e])))).2 fun x => ⟨h.sub x, fun hx => h.all x hx (hl _)⟩
end MapN
namespace WRising
theorem infoN : (Tryz.prog.info? 27).map (fun i => (i.zero, i.size, i.bytes)) = some (some (.agg #[.string ⟨#[]⟩, .int .i64 0, .string ⟨#[]⟩, .int .i64 0, .int .i64 0]), 5, 56) := by kernel_rfl
def zeros (n : Nat) : Array Value := madeCells (Value.agg #[.string ⟨#[]⟩, .int .i64 0, .string ⟨#[]⟩, .int .i64 0, .int .i64 0]).cells (n * 5)
theorem makeC (n : Nat) (hn : n ≤ 1048576) (w : World) : (Instr.makeSlice 23 (.int .i64 0) (.int .i64 (n : Int))).run Tryz.prog w = .ok (.slice (some ⟨w.heap.size, 0, none⟩) 0 n) (w.alloc (.cells (zeros n) 27)) := by
  obtain ⟨i0, h0, h1, h2, h3⟩ := info_parts infoN
  have h := run_make (P := Tryz.prog) w 23 27 i0 (.agg #[.string ⟨#[]⟩, .int .i64 0, .string ⟨#[]⟩, .int .i64 0, .int .i64 0]) Tryz.underlying23 h0 h1 .i64 .i64 0 (n : Int) (by omega) (by omega) (by rw [h3]; omega) (by omega)
  rw [h, h2]
  simp [zeros]
theorem iter_at {w : World} {B r n : Nat} {D : DataW Unit} {left : Lit → Bool} {cnt : Nat} (h : w.ranges Tryz.prog 9 MapN.elem B r n D left cnt) {g : Nat} {cs : Array Value} {T : TypeId} (hg : w.heap[g]? = some (.cells cs T (0, 0))) : g ≠ r ∧ g ≠ B := by
  obtain ⟨es, clock, since, seen, c0, h1, _, _, _, h2, _⟩ := h
  refine ⟨fun e => ?_, fun e => ?_⟩
  · subst e; rw [hg] at h2; cases h2
  · subst e; rw [hg] at h1; cases h1
theorem own_not {w : World} {B r n Bs : Nat} {D : DataW Unit} {left : Lit → Bool} {cnt : Nat} {v : Value} {T : List Pl.Nd} (h : w.ranges Tryz.prog 9 MapN.elem B r n D left cnt) (ho : Mem.ownN w Bs v T) : ∀ g, v.ownBlock = some g → g ≠ r ∧ g ≠ B := by
  intro g hg
  rcases ho.2 with ⟨rfl, _⟩ | ⟨g', cap, cur, rfl, _, hh, _⟩
  · cases hg
  · cases hg; exact iter_at h hh
/-- .. the sort, whatever row it is. -/
theorem sort_own (v : Value) (B : Nat) (T : List Pl.Nd) (w : World) (hp : ∀ t ∈ T, Pl.pathB t.path = true) (hl : T.length ≤ 1048576) (hown : Mem.ownN w B v T) :
    Calls Tryz.prog 136 #[v, .func (.func 137) #[] #[]] w fun e w' => e = .returned (.tuple #[]) ∧
      ∃ S : List Pl.Nd, S.Perm T ∧ S.Pairwise (fun a b => Pl.ltP b.path a.path = false) ∧ Mem.ownN w' B v S ∧ w.grownBy w' v.ownBlock := by
  rcases hown.2 with ⟨rfl, h0⟩ | ⟨g, cap, cur, rfl, rest⟩
  · have : T = [] := List.length_eq_zero_iff.1 h0
    subst this
    refine Calls.mono (AnyF.slices_SortFunc_none (P := Tryz.prog) LaySort.lay none 0 (.func (.func 137) #[] #[]) w) ?_
    rintro e w' ⟨he, rfl⟩
    exact ⟨he, [], List.Perm.refl _, List.Pairwise.nil, hown, ⟨rfl, rfl, rfl, Nat.le_refl _, fun _ _ _ => rfl⟩⟩
  · exact WOrder.sort_any g cap B T w hp hl hown
set_option maxRecDepth 100000 in
set_option maxHeartbeats 2000000 in
theorem any (B N : Nat) (C L : List Pl.Nd) (D : DataW Unit) (w : World) (hown : w.ownsMap Tryz.prog 9 MapN.elem B N D) (hN : N ≤ 1000) (hD : MapN.Reads D C) (hC : C.Pairwise (fun a b => a.path ≠ b.path)) (hperm : L.Perm C) (hr : L.Pairwise (fun a b => Pl.ltP a.path b.path = true))
    (hok : ∀ n ∈ C, Pl.pathB n.path = true ∧ n.data.size ≤ 1048576) :
    Calls Tryz.prog 78 #[.map (some B)] w fun e w' => ∃ v, e = .returned v ∧ Mem.ownN w' w.heap.size v L ∧ Below w.heap.size w w' := by
  obtain ⟨i0, hi, hz0, hz1, hz2⟩ := info_parts infoN
  have hsz := hown.size_le
  have hmk := makeC (Maps.size D) (by omega) w
  have hbl := hown.lt
  have e1 : (w.alloc (.cells (zeros (Maps.size D)) 27)).heap.size = w.heap.size + 1 := by simp
  have OW0 : Hid (Mem.ownN (w.alloc (.cells (zeros (Maps.size D)) 27)) w.heap.size (.slice (some ⟨w.heap.size, 0, none⟩) 0 (Maps.size D)) []) :=
    ⟨rfl, .inr ⟨w.heap.size, _, _, rfl, Nat.le_refl _, heap_alloc_new _ _, Nat.zero_le _, by unfold maxLen; omega, size_madeCells _ _, rfl⟩⟩
  have HG0 := hide (MapN.got_start hD)
  have HC := hide hC
  have HOK := hide hok
  have HEND : Hid (∀ S T : List Pl.Nd, T.Perm C → S.Perm T → S.Pairwise (fun a b => Pl.ltP b.path a.path = false) → S = L) := fun S T h1 h2 h3 =>
    Pl.sorted_one ((h2.trans h1).trans hperm.symm) (fun n hn => (hok n (hperm.mem_iff.1 hn)).1) hr h3
  have HM := hide hown
  clear hown hr hperm hC hok
  have HENT := hide hD.ent
  clear hD
  go_enter Tryz.func78, Tryz.ntmps78
  go_wp2_with (first
    | (at_len; refine wpList_len_own _ rfl _ 98 rfl 9 27 Tryz.underlying98 _ B N D rfl (unhide HM) ?_)
    | (at_range; refine wpList_range_own _ rfl _ 98 rfl 9 27 MapN.law Tryz.underlying98 _ B N _ rfl ((unhide HM).alloc _) ?_; intro w0 hrg0 hg0 hs0)
    | go_in)
  go_frame
  rw [e1] at hrg0 hs0 ⊢
  have OW1 := hide (Mem.ownN_grown (unhide OW0) hg0 (fun _ _ => by simp))
  have B1 := hide (((Below.refl w.heap.size w).alloc (Nat.le_refl _) _).grown hg0 (by simp) (fun j hj => by cases hj))
  clear hg0 hs0 OW0 hmk e1
  go_loopw [3] (fun v wr => ∃ (left : Lit → Bool) (cnt : Nat) (T : List Pl.Nd), wr.ranges Tryz.prog 9 MapN.elem B (w.heap.size + 1) N D left cnt ∧ T.length + cnt ≤ Maps.size D ∧ Hid (Mem.ownN wr w.heap.size v T) ∧ Hid (MapN.Got C T left) ∧ Hid (Below w.heap.size w wr))
    (fun _ wr => wr.rangeLeft B (w.heap.size + 1))
  case atStart => exact ⟨_, _, [], hrg0, by simp, OW1, HG0, B1⟩
  case round =>
    obtain ⟨left, cnt, T, hrg, hcs, HOW, HGT, HB⟩ := hrel
    have HNT := hide (own_not hrg (unhide HOW))
    clear hrg0 OW1 B1 HG0
    go_wp2_with (first
      | (at_next; refine wpList_next_ranges _ rfl _ rfl 9 MapN.law MapN.elem (Value.string) (Pl.Nd.val) (fun key kl hk => Maps.keyOf_string_inv Tryz.underlying9 hk) (fun v y hv => by obtain ⟨d, ps⟩ := y; obtain ⟨n, hn, _⟩ := MapN.elem_inv hv; exact ⟨n, hn⟩) B (w.heap.size + 1) N _ _ _ rfl hrg ?_ ?_)
      | go_in)
    · intro hc0 hl0
      have hp := hide (MapN.got_end (unhide HC) (unhide HGT) hl0)
      have hs := hide (sort_own u3 w.heap.size T wr (fun t ht => (unhide HOK t ((unhide HGT).sub t ht)).1) (by omega) (unhide HOW))
      have HLW := hide (Mem.ownN_lt (unhide HOW))
      clear HOW HGT HNT hrg hc0 hl0 HENT
      go_wp2_with fail
      refine (unhide hs).mono ?_
      rintro e w2 ⟨rfl, S, h1, h2, h3, h4⟩
      have eS := unhide HEND S T (unhide hp) h1 h2
      subst eS
      have bw := (unhide HB).grown h4 (unhide HB).size (fun q hq => (unhide HLW q hq).1)
      have O2 := hide h3
      clear hs h1 h2 h3 h4 hp HEND
      go_wp2
      go_ret
      exact ⟨u3, rfl, unhide O2, bw⟩
    · intro x c kl yd yp w1 cnt1 hkey hlk hR hat hrg1 hlt hg1 hs1 hen
      have ek : kl = MapN.key x := MapN.keyOf_inv hkey
      have ey : yd = MapN.dat c := by rw [MapN.elem_mk] at hR; cases hR; rfl
      subst ek ey
      obtain ⟨hcC, rfl⟩ := unhide HENT x c hat
      have HG2 := hide (MapN.got_step (unhide HC) (unhide HGT) hcC hlk)
      have hok := unhide HOK c hcC
      have hc := hide (fun W => WCopied.any c W (by have := Pl.pathB_le hok.1; omega) hok.2)
      have HRG1 := hide hrg1
      have OW1 := Mem.ownN_grown (unhide HOW) hg1 (fun g hg e => by cases e; exact (unhide HNT _ hg).1 rfl)
      have B1 := (unhide HB).grown hg1 (unhide HB).size (fun q hq => by cases hq; omega)
      have HLE := hide (hrg.left_eq)
      clear hat hR hkey hlk hok hcC HGT HOW HB hg1 hs1 hrg1 hrg HENT HNT
      obtain ⟨p, k0, d, t, m⟩ := c
      simp only [Pl.Nd.val] at hen hc HG2 HRG1 ⊢
      have OWD := Mem.ownN_alloc OW1 (.cells #[.string p, .int .i64 k0, .string d, .int .i64 t, .int .i64 m] 27)
      have bW := B1.alloc B1.size (.cells #[.string p, .int .i64 k0, .string d, .int .i64 t, .int .i64 m] 27)
      have hsW : w.heap.size ≤ w1.heap.size := B1.size
      clear OW1 B1
      go_wp2_with fail
      refine (unhide hc _).mono ?_
      rintro e wC ⟨rfl, bC⟩
      have OWC := Mem.ownN_call OWD bC
      have bX := bW.trans (bC.mono bW.size)
      have HLT := hide (Mem.ownN_lt OWC)
      have HRC := hide (((unhide HRG1).alloc (.cells #[.string p, .int .i64 k0, .string d, .int .i64 t, .int .i64 m] 27)).kept (Mem.grown_of_below bC none) (by simp) (by simp))
      have HNC := hide (own_not (unhide HRC) OWC)
      have hsX := bX.size
      clear OWD bW bC hc HRG1 hen
      go_wp2_with (at_builtin; refine wpList_append_own _ rfl _ _ 23 rfl w.heap.size 27 i0 _ 5 56 Tryz.underlying23 hi hz0 hz1 hz2 rfl (by decide) _ _ _ rfl (Mem.ownN_alloc OWC _) ⟨wC.heap.size, 0, none⟩ 1 1 [.string p, .int .i64 k0, .string d, .int .i64 t, .int .i64 m] rfl rfl (Mem.cs_new wC ⟨p, k0, d, t, m⟩ _) (Mem.cs_one ⟨p, k0, d, t, m⟩) (by unfold maxLen; omega) (by omega) (by simp; omega) ?_)
      intro v'' wZ hownZ hgrow _
      have OWZ := hide (Mem.ownN_snoc (L := T) (n := ⟨p, k0, d, t, m⟩) hownZ)
      have HRZ := hide (((unhide HRC).alloc (.cells #[.string p, .int .i64 k0, .string d, .int .i64 t, .int .i64 m] 27)).kept hgrow (fun e => (unhide HNC _ e.symm).2 rfl) (fun e => (unhide HNC _ e.symm).1 rfl))
      have bZ := hide ((bX.alloc bX.size (.cells #[.string p, .int .i64 k0, .string d, .int .i64 t, .int .i64 m] 27)).grown hgrow (by have := bX.size; simp; omega) (fun q hq => (unhide HLT q hq).1))
      clear hownZ hgrow OWC bX HRC HNC HLT
      go_wp2
      go_roundw
      case rel => exact ⟨_, cnt1, T ++ [⟨p, k0, d, t, m⟩], unhide HRZ, by simp; omega, OWZ, HG2, bZ⟩
      case measure => rw [(unhide HRZ).left_eq, unhide HLE]; exact hlt
end WRising
end Go.Proofs.YtibmflhelgedeaaGreatDoor

