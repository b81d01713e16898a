/- The walk of pathOrder, and of slices.SortFunc by it: a row of nodes of right paths comes out in order. -/
import Derived.Test.YtepmojmelcngeaaGreatDoorWLess
import Derived.Test.YtepmojmelcngeaaGreatDoorG03
import Derived.Test.YtepmojmelcngeaaGreatDoorPlainTree
import Derived.Test.YtepmojmelcngeaaGreatDoorDrawn
import Derived.Test.YtepmojmelcngeaaGreatDoorG12
import Derived.Lib.QuietBelow
namespace Go.Proofs.YtepmojmelcngeaaGreatDoor
open Go.RowKit Go.Sort
namespace WOrder
theorem grow_of {w w' : World} (h : Go.RowKit.Below w.heap.size w w') (hd : w.drawn ≤ w'.drawn) : ∃ q os', w' = grow (w.drewN q) os' := by
  obtain ⟨⟨d, os⟩, e⟩ := regrown_of_below h
  have e2 : w'.drawn = d := by rw [e]; rfl
  refine ⟨d - w.drawn, os, ?_⟩
  rw [e]
  show grow (redrawn w d) os = grow (w.drewN (d - w.drawn)) os
  unfold redrawn World.drewN
  rw [show w.drawn + (d - w.drawn) = d by omega]
/-- Nodes of a right path. -/
abbrev Rn := {n : Pl.Nd // Pl.pathB n.path = true}
def cf (x y : Rn) : Int := if Pl.ltP x.1.path y.1.path then -1 else if Pl.ltP y.1.path x.1.path then 1 else 0
theorem lt_cf (x y : Rn) : ltOf cf x y = Pl.ltP x.1.path y.1.path := by
  unfold ltOf cf
  cases Pl.ltP x.1.path y.1.path
  · cases Pl.ltP y.1.path x.1.path <;> rfl
  · rfl
theorem lt_anti {x y : Rn} (h : x.1.path ≠ y.1.path) : Pl.ltP x.1.path y.1.path = !Pl.ltP y.1.path x.1.path := Pl.two_less x.2 y.2 h
theorem lt_irr (x : Rn) : Pl.ltP x.1.path x.1.path = false := by rw [Pl.ltP_right x.2 x.2]; exact Pl.less_irr _
theorem lt_tr {x y z : Rn} (h1 : Pl.ltP x.1.path y.1.path = true) (h2 : Pl.ltP y.1.path z.1.path = true) : Pl.ltP x.1.path z.1.path = true := by
  rw [Pl.ltP_right x.2 y.2] at h1
  rw [Pl.ltP_right y.2 z.2] at h2
  rw [Pl.ltP_right x.2 z.2]
  exact Pl.less_trans _ _ _ h1 h2
theorem swo : SWO (ltOf cf) where
  irrefl x := by rw [lt_cf]; exact lt_irr x
  trans x y z h1 h2 := by rw [lt_cf] at *; exact lt_tr h1 h2
  ntrans x y z h1 h2 := by
    rw [lt_cf] at *
    cases h : Pl.ltP x.1.path z.1.path
    · rfl
    · exfalso
      by_cases e : x.1.path = y.1.path
      · rw [← e, h] at h2; cases h2
      · have a := lt_anti e
        rw [h1] at a
        have b : Pl.ltP y.1.path x.1.path = true := by
          cases hb : Pl.ltP y.1.path x.1.path
          · rw [hb] at a; cases a
          · rfl
        rw [lt_tr b h] at h2
        cases h2
def cfP (p q : ByteArray) : Int := if Pl.ltP p q then -1 else if Pl.ltP q p then 1 else 0
set_option maxRecDepth 100000 in
theorem order_path (p q : ByteArray) (hp : Pl.pathB p = true) (hq : Pl.pathB q = true) (w : World) :
    Calls Tryz.prog 88 #[.string p, .string q] w fun e w' => e = .returned (.int .i64 (cfP p q)) ∧ Go.RowKit.Below w.heap.size w w' := by
  have h1 := hide (fun W => WLess.less_any p q W (by have := Pl.pathB_le hp; omega) (by have := Pl.pathB_le hq; omega))
  have h2 := hide (fun W => WLess.less_any q p W (by have := Pl.pathB_le hq; omega) (by have := Pl.pathB_le hp; omega))
  change Hid (∀ W, Calls Tryz.prog _ _ W fun e w' => e = .returned (.bool (Pl.ltP p q)) ∧ _) at h1
  change Hid (∀ W, Calls Tryz.prog _ _ W fun e w' => e = .returned (.bool (Pl.ltP q p)) ∧ _) at h2
  unfold cfP
  generalize Pl.ltP p q = r1 at h1 ⊢
  generalize Pl.ltP q p = r2 at h2 ⊢
  clear hp hq
  cases r1
  · go_enter Tryz.func88, Tryz.ntmps88
    go_wp2_with fail
    refine (unhide h1 _).mono ?_
    rintro e w1 ⟨rfl, b1⟩
    clear h1
    go_wp2_with fail
    refine (unhide h2 _).mono ?_
    rintro e w3 ⟨rfl, b3⟩
    have b4 := b1.trans (b3.mono b1.size)
    clear b1 b3 h2
    cases r2
    · go_wp2
      go_ret
      exact ⟨rfl, b4⟩
    · go_wp2
      go_ret
      exact ⟨rfl, b4⟩
  · clear h2
    go_enter Tryz.func88, Tryz.ntmps88
    go_wp2_with fail
    refine (unhide h1 _).mono ?_
    rintro e w1 ⟨rfl, b1⟩
    clear h1
    go_wp2
    go_ret
    exact ⟨rfl, b1⟩
set_option maxRecDepth 100000 in
theorem order_any (x y : Rn) (w : World) :
    Calls Tryz.prog 87 #[.agg x.1.cs.toArray, .agg y.1.cs.toArray] w fun e w' => e = .returned (.int .i64 (cf x y)) ∧ Go.RowKit.Below w.heap.size w w' := by
  have h1 := hide (fun W => order_path x.1.path y.1.path x.2 y.2 W)
  have e1 : cf x y = cfP x.1.path y.1.path := rfl
  rw [e1]
  generalize cfP x.1.path y.1.path = r at h1 ⊢
  obtain ⟨⟨p, k, d, t, m⟩, hx⟩ := x
  obtain ⟨⟨p', k', d', t', m'⟩, hy⟩ := y
  simp only [Pl.Nd.cs] at h1 ⊢
  have b0 : Go.RowKit.Below w.heap.size w ((w.alloc (.cells #[.string p, .int .i64 k, .string d, .int .i64 t, .int .i64 m] 36)).alloc (.cells #[.string p', .int .i64 k', .string d', .int .i64 t', .int .i64 m'] 36)) := ((Below.refl _ _).alloc (Nat.le_refl _) _).alloc (by simp) _
  clear hx hy e1
  go_enter Tryz.func87, Tryz.ntmps87
  go_wp2_with fail
  refine (unhide h1 _).mono ?_
  rintro e w1 ⟨rfl, b1⟩
  have b2 := b0.trans (b1.mono b0.size)
  clear b0 b1 h1
  go_wp2
  go_ret
  exact ⟨rfl, b2⟩
theorem cmp_lays (blk off size : Nat) (w : World) [Inhabited Rn] : CmpLays Tryz.prog 87 #[] (fun x : Rn => x.1.cs) 5 cf blk off size w := fun m os dk _ x y => by
  have h := Drw.calls_up (fun e w' (h : e = .returned (.int .i64 (cf x y)) ∧ _) => ⟨_, h.1⟩) (order_any x y (sortWorldK (fun x : Rn => x.1.cs) 5 w blk off m dk os))
  exact h.mono fun e w' ⟨⟨he, hb⟩, hd⟩ => ⟨he, grow_of hb hd⟩
/-- The row behind a sort. -/
theorem heap_sorted {α : Type} [Inhabited α] (enc : α → List Value) (w : World) (g n : Nat) (d : Array α) (os : Array Obj) (cur : Array Value) (T : TypeId) (hg : w.heap[g]? = some (.cells cur T (0, 0))) :
    (sortWorldK enc 5 w g 0 n d os).heap[g]? = some (.cells (putCells id 0 (flatK enc 5 d) cur) T (0, 0)) := by
  have hlt : g < w.heap.size := (Array.getElem?_eq_some_iff.1 hg).1
  unfold sortWorldK grow putRowK putRow mapBlock
  simp only [Array.getElem?_append, Array.size_modify]
  rw [if_pos (show g < (Sort.ahead w n).heap.size from hlt), Array.getElem?_modify, if_pos rfl]
  show Option.map _ (w.heap[g]?) = _
  rw [hg]
  rfl
theorem grown_sorted {α : Type} [Inhabited α] (enc : α → List Value) (w : World) (g n : Nat) (d : Array α) (os : Array Obj) : w.grownBy (sortWorldK enc 5 w g 0 n d os) (some g) := by
  refine ⟨rfl, rfl, rfl, ?_, fun j hj hne => ?_⟩
  · unfold sortWorldK grow putRowK putRow mapBlock
    simp only [Array.size_append, Array.size_modify]
    exact Nat.le_add_right _ _
  · have h : j ≠ g := fun e => hne (by rw [e])
    unfold sortWorldK grow putRowK putRow mapBlock
    simp only [Array.getElem?_append, Array.size_modify]
    rw [if_pos (show j < (Sort.ahead w n).heap.size from hj), Array.getElem?_modify, if_neg (fun e => h e.symm)]
    rfl
theorem flat_get (d : Array Rn) [Inhabited Rn] (t : Nat) (h : t < d.size * 5) : (flatK (fun x : Rn => x.1.cs) 5 d)[t]! = (Pl.cellsN (d.toList.map (·.1)))[t]! := by
  rw [get_flatK _ _ _ _ h]
  have hd : t / 5 < d.size := by omega
  have e : (d.toList.map (·.1))[t / 5]? = some (d[t / 5]!).1 := by
    rw [List.getElem?_map, Array.getElem?_toList, Array.getElem?_eq_getElem hd, getElem!_pos d _ hd]; rfl
  have h2 := Pl.cellsN_get _ _ _ e (t % 5) (by omega)
  rw [show t / 5 * 5 + t % 5 = t by omega] at h2
  rw [List.getElem!_eq_getElem?_getD, List.getElem!_eq_getElem?_getD, h2]
/-- slices.SortFunc by rising's order: a row of the call's own that holds nodes of right paths comes out in order. -/
theorem sort_any (g cap B : Nat) (T : List Pl.Nd) (w : World) (hp : ∀ t ∈ T, Pl.pathB t.path = true) (hl : T.length ≤ 1048576) (hown : Mem.ownN w B (.slice (some ⟨g, 0, none⟩) T.length cap) T) :
    Calls Tryz.prog 86 #[.slice (some ⟨g, 0, none⟩) T.length cap, .func (.func 87) #[] #[]] w fun e w' => e = .returned (.tuple #[]) ∧
      ∃ S : List Pl.Nd, S.Perm T ∧ S.Pairwise (fun a b => Pl.ltP b.path a.path = false) ∧ Mem.ownN w' B (.slice (some ⟨g, 0, none⟩) T.length cap) S ∧ w.grownBy w' (some g) := by
  by_cases h0 : T = []
  · subst h0
    refine Calls.mono (AnyF.slices_SortFunc_none (P := Tryz.prog) LaySort.lay (some ⟨g, 0, none⟩) cap (.func (.func 87) #[] #[]) w) ?_
    rintro e w' ⟨he, rfl⟩
    exact ⟨he, [], List.Perm.refl _, List.Pairwise.nil, hown, ⟨rfl, rfl, rfl, Nat.le_refl _, fun _ _ _ => rfl⟩⟩
  obtain ⟨t0, ht0⟩ := List.exists_mem_of_ne_nil T h0
  letI : Inhabited Rn := ⟨⟨t0, hp t0 ht0⟩⟩
  rcases hown.2 with ⟨e, -⟩ | ⟨g', cap', cur, e, hb, hg, hc, hm, hsz, ht⟩
  · cases e
  injection e with e1 e2 e3
  cases e1
  subst e3
  let d : Array Rn := (T.attach.map (fun t => (⟨t.1, hp t.1 t.2⟩ : Rn))).toArray
  have hd : d.toList.map (·.1) = T := by simp [d]
  have hds : d.size = T.length := by simp [d]
  have hcur : T.length * 5 ≤ cur.size := by rw [hsz]; exact Nat.mul_le_mul_right _ hc
  have hH : HoldsK (fun x : Rn => x.1.cs) 5 w g 0 d := by
    intro j hj
    rw [size_flatK, hds] at hj
    refine ⟨?_, Mem.row_frozen hg⟩
    rw [cell_of_row w g _ cur _ (0, 0) hg, Nat.zero_add, flat_get d j (by omega), hd, id_eq]
    have h1 : (Pl.cellsN T)[j]? = cur[j]? := by rw [← ht, List.getElem?_take_of_lt (by omega), Array.getElem?_toList]
    rw [← h1, List.getElem!_eq_getElem?_getD, List.getElem?_eq_getElem (by rw [Pl.cellsN_len]; omega)]
    rfl
  have hcon := AnyQ.slices_SortFunc (P := Tryz.prog) LaySort.lay 5 LaySort.agg LaySort.size (fun x : Rn => x.1.cs) (fun _ => rfl) (fun x => Mem.cs_one x.1) cf swo 87 #[] g 0 cap d w (enters_of Tryz.func87 (by kernel_rfl) rfl) (cmp_lays g 0 d.size w) hH (Array.getElem?_eq_some_iff.1 hg).1 (by omega)
  rw [hds] at hcon
  refine Calls.mono hcon ?_
  rintro e w' ⟨he, d', n, os, hperm, hsort, rfl⟩
  have hs' : d'.size = T.length := hperm.1.trans hds
  refine ⟨he, d'.toList.map (·.1), ?_, ?_, ?_, grown_sorted _ w g n d' os⟩
  · have h := hperm.2.2
    rw [← hds] at h
    have e1 : (d'.extract 0 d.size).toList = d'.toList := by simp [hperm.1.symm]
    have e2 : (d.extract 0 d.size).toList = d.toList := by simp
    rw [e1, e2] at h
    have := h.map (·.1)
    rwa [hd] at this
  · rw [List.pairwise_map, List.pairwise_iff_getElem]
    intro i j hi hj hij
    have h := hsort i j (Nat.zero_le _) hij (by simp at hj; omega)
    rw [lt_cf, getElem!_pos d' i (by simpa using hi), getElem!_pos d' j (by simpa using hj)] at h
    simpa using h
  · have hlen : (d'.toList.map (·.1)).length = T.length := by simp [hs']
    refine ⟨?_, .inr ⟨g, cap, _, ?_, hb, heap_sorted _ w g n d' os cur _ hg, ?_, hm, ?_, ?_⟩⟩
    · rw [Pl.cellsN_len]
    · rw [hlen]
    · rw [hlen]; exact hc
    · simp only [putCells, Array.size_mapIdx]; exact hsz
    · rw [hlen]
      apply List.ext_getElem?
      intro j
      by_cases hj : j < T.length * 5
      · rw [List.getElem?_take_of_lt hj, Array.getElem?_toList]
        have h1 : (flatK (fun x : Rn => x.1.cs) 5 d')[j]! = (Pl.cellsN (d'.toList.map (·.1)))[j]! := flat_get d' j (by omega)
        rw [putCells, Array.getElem?_mapIdx, Array.getElem?_eq_getElem (by omega)]
        simp only [Option.map_some, size_flatK, Nat.zero_le, true_and, Nat.zero_add, Nat.sub_zero, id_eq]
        rw [if_pos (by omega), h1, List.getElem!_eq_getElem?_getD, List.getElem?_eq_getElem (by rw [Pl.cellsN_len, hlen]; omega)]
        rfl
      · rw [List.getElem?_eq_none (by rw [List.length_take]; omega), List.getElem?_eq_none (by rw [Pl.cellsN_len, hlen]; omega)]
end WOrder
end Go.Proofs.YtepmojmelcngeaaGreatDoor
