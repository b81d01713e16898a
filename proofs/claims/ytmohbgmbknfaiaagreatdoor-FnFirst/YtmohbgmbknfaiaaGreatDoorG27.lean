/- Several texts of one claim in one file: MapN, WRising, MapPut, WPathsTo, WTakeS. -/
import Derived.Test.YtmohbgmbknfaiaaGreatDoorG01
import Derived.Test.YtmohbgmbknfaiaaGreatDoorProg
import Derived.Test.YtmohbgmbknfaiaaGreatDoorG03
import Derived.Maps.OwnSet
import Derived.WalkKit
import Derived.Test.YtmohbgmbknfaiaaGreatDoorG26
import Derived.Maps.RangeWalk
import Derived.Sort.MapsRangeIn
import Derived.RangeFuncNested
import Derived.RangeFuncBound
import Derived.RangeFuncCalls
import Derived.RangeFuncLeaves
import Derived.Shelf.Abstract
import Derived.Shelf.RegionOpen
import Derived.OwnWalkIn
import Derived.TacticsInMore
import Derived.LoopNIn
import Derived.LoopIn
import Derived.Test.YtmohbgmbknfaiaaGreatDoorG06
import Derived.Test.YtmohbgmbknfaiaaGreatDoorG04
import Derived.Test.YtmohbgmbknfaiaaGreatDoorG02
import Derived.Test.YtmohbgmbknfaiaaGreatDoorG00
import Derived.WalkSpells
/- A map from paths to nodes: what it reads as. -/
namespace Go.Proofs.YtmohbgmbknfaiaaGreatDoor
open Go.RowKit Go.Maps
namespace MapN
def key (p : ByteArray) : Lit := .string p.data.toList
def dat (n : Pl.Nd) : DataW Unit := .agg [.lit (.string n.path.data.toList), .lit (.int .i64 n.kind), .lit (.string n.data.data.toList), .lit (.int .i64 n.time), .lit (.int .i64 n.mark)]
theorem dat_inj {a b : Pl.Nd} (h : dat a = dat b) : a = b := by
  obtain ⟨p, k, d, t, m⟩ := a
  obtain ⟨p', k', d', t', m'⟩ := b
  simp only [dat, DataW.agg.injEq, List.cons.injEq, DataW.lit.injEq, Lit.string.injEq, Lit.int.injEq, and_true, true_and] at h
  obtain ⟨h1, h2, h3, h4, h5⟩ := h
  have e1 : p = p' := Pl.by_inj h1
  have e2 : d = d' := Pl.by_inj h3
  subst e1 e2 h2 h4 h5
  rfl
/-- How an element's value reads. -/
def elem : Value → Option (DataW Unit × List MemPlace)
  | .agg cs => match cs.toList with
    | [.string p, .int .i64 k, .string d, .int .i64 t, .int .i64 m] => some (dat ⟨p, k, d, t, m⟩, [])
    | _ => none
  | _ => none
theorem elem_mk (n : Pl.Nd) : elem n.val = some (dat n, []) := rfl
theorem elem_inv {v : Value} {d : DataW Unit} {ps : List MemPlace} (h : elem v = some (d, ps)) : ∃ n : Pl.Nd, v = n.val ∧ d = dat n := by
  unfold elem at h
  split at h
  · rename_i cs
    split at h
    · rename_i p k d' t m hcs
      simp only [Option.some.injEq, Prod.mk.injEq] at h
      refine ⟨⟨p, k, d', t, m⟩, ?_, h.1.symm⟩
      rw [Pl.Nd.val, show cs = cs.toList.toArray by simp, hcs]
    · cases h
  · cases h
/-- The map of some nodes, put one behind the other. -/
def mapOf (C : List Pl.Nd) : DataW Unit := C.foldl (fun D n => D.put (key n.path) (dat n)) (.map [])
theorem mapOf_snoc (C : List Pl.Nd) (n : Pl.Nd) : mapOf (C ++ [n]) = (mapOf C).put (key n.path) (dat n) := by simp [mapOf, List.foldl_append]
theorem key_is (p : ByteArray) : WideAt.IsKeyLit (key p) := by simp [key, WideAt.IsKeyLit]
theorem key_ne {a b : ByteArray} (h : a ≠ b) : key a ≠ key b := fun e => h (Pl.by_inj (Lit.string.inj e))
theorem isMap_fold : ∀ (C : List Pl.Nd) (D : DataW Unit), IsMap D → IsMap (C.foldl (fun D n => D.put (key n.path) (dat n)) D) := by
  intro C
  induction C with
  | nil => intro D h; exact h
  | cons n C ih => intro D h; exact ih _ (h.put _ _)
theorem mapOf_isMap (C : List Pl.Nd) : IsMap (mapOf C) := isMap_fold C _ isMap_empty
theorem mapOf_miss (p : ByteArray) : ∀ (C : List Pl.Nd) (D : DataW Unit), (∀ n ∈ C, n.path ≠ p) → Maps.has (C.foldl (fun D n => D.put (key n.path) (dat n)) D) (key p) = Maps.has D (key p) ∧ ∀ z, (C.foldl (fun D n => D.put (key n.path) (dat n)) D).atKey (key p) z = D.atKey (key p) z := by
  intro C
  induction C with
  | nil => intro D _; exact ⟨rfl, fun _ => rfl⟩
  | cons n C ih =>
    intro D h
    have h1 : key p ≠ key n.path := key_ne (fun e => h n List.mem_cons_self e.symm)
    obtain ⟨i1, i2⟩ := ih (D.put (key n.path) (dat n)) (fun m hm => h m (List.mem_cons_of_mem _ hm))
    refine ⟨?_, fun z => ?_⟩
    · show Maps.has (C.foldl _ (D.put (key n.path) (dat n))) (key p) = _
      rw [i1, has_put_other h1]
    · show (C.foldl _ (D.put (key n.path) (dat n))).atKey (key p) z = _
      rw [i2, atKey_put_other h1]
theorem has_no {C : List Pl.Nd} {p : ByteArray} (h : ∀ n ∈ C, n.path ≠ p) : Maps.has (mapOf C) (key p) = false := by
  rw [mapOf, (mapOf_miss p C _ h).1]; rfl
/-- Where no two have one path: what stands at a path. -/
theorem at_yes {C : List Pl.Nd} {n : Pl.Nd} (hC : C.Pairwise (fun a b => a.path ≠ b.path)) (hn : n ∈ C) : Maps.has (mapOf C) (key n.path) = true ∧ ∀ z, (mapOf C).atKey (key n.path) z = dat n := by
  obtain ⟨A, B, rfl⟩ := List.append_of_mem hn
  rw [List.pairwise_append] at hC
  have h2 := (List.pairwise_cons.1 hC.2.1).1
  have e : mapOf (A ++ n :: B) = B.foldl (fun D n => D.put (key n.path) (dat n)) ((mapOf A).put (key n.path) (dat n)) := by simp [mapOf, List.foldl_append]
  obtain ⟨i1, i2⟩ := mapOf_miss n.path B ((mapOf A).put (key n.path) (dat n)) (fun m hm e => h2 m hm e.symm)
  rw [e]
  exact ⟨by rw [i1, has_put_same (mapOf_isMap A) (key_is _)], fun z => by rw [i2, atKey_put_same (mapOf_isMap A) (key_is _)]⟩
theorem law : Keyed Tryz.prog 9 := string_keyed Tryz.underlying9
theorem zeroN (w : World) : (zeroValue 34).run Tryz.prog w = .ok (Pl.Nd.val ⟨⟨#[]⟩, 0, ⟨#[]⟩, 0, 0⟩) w := by kernel_rfl
theorem keyOf_mk {p : ByteArray} (h : p.size ≤ maxLen) : keyOf Tryz.prog 9 (.string p) = some (key p) := WideMaps.keyOf_string_mk Tryz.underlying9 h
end MapN
end Go.Proofs.YtmohbgmbknfaiaaGreatDoor

/- The walk of rising: the nodes of a map, in order, in memory of the call's own. -/
namespace Go.Proofs.YtmohbgmbknfaiaaGreatDoor
open Go.RowKit Go.Maps
namespace Pl
theorem lt_asym {a b : ByteArray} (ha : pathB a = true) (hb : pathB b = true) (h : ltP a b = true) : ltP b a = false := by
  cases h2 : ltP b a
  · rfl
  · rw [ltP_right ha hb] at h
    rw [ltP_right hb ha] at h2
    have := less_trans _ _ _ h h2
    rw [less_irr] at this
    cases this
/-- There is one list in order. -/
theorem sorted_one {S L : List Nd} (hp : S.Perm L) (hok : ∀ n ∈ L, pathB n.path = true) (h0 : L.Pairwise (fun a b => ltP a.path b.path = true)) (hs : S.Pairwise (fun a b => ltP b.path a.path = false)) : S = L := by
  have hap : ∀ a ∈ L, ∀ b ∈ L, a.path = b.path → a = b := by
    have h1 : L.Pairwise (fun a b => lessL (names a.path) (names b.path) = true) := List.Pairwise.imp_of_mem (fun {a b} ha hb h => by rw [← ltP_right (hok a ha) (hok b hb)]; exact h) h0
    exact fun a ha b hb e => one_path h1 ha hb e
  refine List.Perm.eq_of_pairwise (le := fun a b => ltP b.path a.path = false) ?_ hs (List.Pairwise.imp_of_mem (fun {a b} ha hb h => lt_asym (hok a ha) (hok b hb) h) h0) hp
  intro a b ha hb h1 h2
  have ha' := hp.mem_iff.1 ha
  refine hap a ha' b hb ?_
  by_cases e : a.path = b.path
  · exact e
  · have := two_less (hok a ha') (hok b hb) e
    change ltP a.path b.path = !ltP b.path a.path at this
    rw [h1, h2] at this
    cases this
end Pl
namespace MapN
theorem keyOf_inv {p : ByteArray} {kl : Lit} (h : keyOf Tryz.prog 9 (.string p) = some kl) : kl = key p := by
  simp [keyOf, Tryz.underlying9, mapKey] at h
  rw [← h.2]; rfl
/-- A map reads as some nodes. -/
structure Reads (D : DataW Unit) (C : List Pl.Nd) : Prop where
  has : ∀ n ∈ C, Maps.has D (key n.path) = true
  ent : ∀ (p : ByteArray) (c : Pl.Nd), (∀ z, D.atKey (key p) z = dat c) → c ∈ C ∧ p = c.path
/-- What has come of a map's nodes, and what has not. -/
structure Got (C T : List Pl.Nd) (left : Lit → Bool) : Prop where
  sub : ∀ t ∈ T, t ∈ C
  apart : T.Pairwise (fun a b => a.path ≠ b.path)
  seen : ∀ t ∈ T, left (key t.path) = false
  all : ∀ n ∈ C, left (key n.path) = false → n ∈ T
theorem got_start {C : List Pl.Nd} {D : DataW Unit} (hD : Reads D C) : Got C [] (Maps.has D) :=
  ⟨fun t h => absurd h (by simp), List.Pairwise.nil, fun t h => absurd h (by simp), fun n hn h => by rw [hD.has n hn] at h; cases h⟩
theorem one_apart {C : List Pl.Nd} (h : C.Pairwise (fun a b => a.path ≠ b.path)) {a b : Pl.Nd} (ha : a ∈ C) (hb : b ∈ C) (e : a.path = b.path) : a = b := by
  induction h with
  | nil => cases ha
  | cons h1 _ ih =>
    rcases List.mem_cons.1 ha with ha1 | ha1
    · rcases List.mem_cons.1 hb with hb1 | hb1
      · rw [ha1, hb1]
      · exact absurd (ha1 ▸ e) (h1 _ hb1)
    · rcases List.mem_cons.1 hb with hb1 | hb1
      · exact absurd (hb1 ▸ e).symm (h1 _ ha1)
      · exact ih ha1 hb1
/-- An entry that comes is a node of the map. -/
theorem entry_in {C : List Pl.Nd} {p : ByteArray} {c : Pl.Nd} (hC : C.Pairwise (fun a b => a.path ≠ b.path)) (h : ∀ z, (mapOf C).atKey (key p) z = dat c) : c ∈ C ∧ p = c.path := by
  by_cases hp : ∃ n ∈ C, n.path = p
  · obtain ⟨n, hn, rfl⟩ := hp
    have e := (at_yes hC hn).2 (dat c)
    rw [h] at e
    have e2 := dat_inj e
    subst e2
    exact ⟨hn, rfl⟩
  · exfalso
    have hm : ∀ n ∈ C, n.path ≠ p := fun n hn e => hp ⟨n, hn, e⟩
    have h1 := (mapOf_miss p C (.map []) hm).2
    have a : ∀ z, dat c = z := fun z => by rw [← h z]; exact h1 z
    have a1 := a (dat ⟨p, c.kind + 1, p, 0, 0⟩)
    have a2 := dat_inj a1
    have a3 := congrArg Pl.Nd.kind a2
    simp only at a3
    omega
theorem reads_mapOf {C : List Pl.Nd} (hC : C.Pairwise (fun a b => a.path ≠ b.path)) : Reads (mapOf C) C := ⟨fun _ hn => (at_yes hC hn).1, fun _ _ h => entry_in hC h⟩
theorem got_step {C T : List Pl.Nd} {left : Lit → Bool} {c : Pl.Nd} (hC : C.Pairwise (fun a b => a.path ≠ b.path)) (h : Got C T left) (hc : c ∈ C) (hl : left (key c.path) = true) : Got C (T ++ [c]) (fun z => left z && !z.sameKey (key c.path)) := by
  have same : (key c.path).sameKey (key c.path) = true := by simp [key, Lit.sameKey]
  refine ⟨fun t ht => ?_, ?_, fun t ht => ?_, fun n hn hf => ?_⟩
  · rcases List.mem_append.1 ht with ht | ht
    · exact h.sub t ht
    · simp at ht; subst ht; exact hc
  · rw [List.pairwise_append]
    refine ⟨h.apart, List.pairwise_singleton _ _, fun a ha b hb e => ?_⟩
    simp at hb; subst hb
    have := h.seen a ha
    rw [e, hl] at this; cases this
  · rcases List.mem_append.1 ht with ht | ht
    · show (left (key t.path) && _) = false
      rw [h.seen t ht]; rfl
    · simp at ht; subst ht
      show (left (key t.path) && !(key t.path).sameKey (key t.path)) = false
      rw [same]; simp
  · by_cases e : n.path = c.path
    · rw [one_apart hC hn hc e]; simp
    · refine List.mem_append.2 (.inl (h.all n hn ?_))
      have hs := sameKey_ne (key_ne e)
      have hf' : (left (key n.path) && !(key n.path).sameKey (key c.path)) = false := hf
      rw [hs] at hf'
      simpa using hf'
theorem got_end {C T : List Pl.Nd} {left : Lit → Bool} (hC : C.Pairwise (fun a b => a.path ≠ b.path)) (h : Got C T left) (hl : ∀ k, left k = false) : T.Perm C := by
  refine (List.perm_ext_iff_of_nodup (h.apart.imp (fun {a b} hne e => hne (by rw [e]))) (hC.imp (fun {a b} hne e => hne (by rw [e])))).2 fun x => ⟨h.sub x, fun hx => h.all x hx (hl _)⟩
end MapN
namespace WRising
theorem infoN : (Tryz.prog.info? 34).map (fun i => (i.zero, i.size, i.bytes)) = some (some (.agg #[.string ⟨#[]⟩, .int .i64 0, .string ⟨#[]⟩, .int .i64 0, .int .i64 0]), 5, 56) := by kernel_rfl
def zeros (n : Nat) : Array Value := madeCells (Value.agg #[.string ⟨#[]⟩, .int .i64 0, .string ⟨#[]⟩, .int .i64 0, .int .i64 0]).cells (n * 5)
theorem makeC (n : Nat) (hn : n ≤ 1048576) (w : World) : (Instr.makeSlice 27 (.int .i64 0) (.int .i64 (n : Int))).run Tryz.prog w = .ok (.slice (some ⟨w.heap.size, 0, none⟩) 0 n) (w.alloc (.cells (zeros n) 34)) := by
  obtain ⟨i0, h0, h1, h2, h3⟩ := info_parts infoN
  have h := run_make (P := Tryz.prog) w 27 34 i0 (.agg #[.string ⟨#[]⟩, .int .i64 0, .string ⟨#[]⟩, .int .i64 0, .int .i64 0]) Tryz.underlying27 h0 h1 .i64 .i64 0 (n : Int) (by omega) (by omega) (by rw [h3]; omega) (by omega)
  rw [h, h2]
  simp [zeros]
theorem iter_at {w : World} {B r n : Nat} {D : DataW Unit} {left : Lit → Bool} {cnt : Nat} (h : w.ranges Tryz.prog 9 MapN.elem B r n D left cnt) {g : Nat} {cs : Array Value} {T : TypeId} (hg : w.heap[g]? = some (.cells cs T (0, 0))) : g ≠ r ∧ g ≠ B := by
  obtain ⟨es, clock, since, seen, c0, h1, _, _, _, h2, _⟩ := h
  refine ⟨fun e => ?_, fun e => ?_⟩
  · subst e; rw [hg] at h2; cases h2
  · subst e; rw [hg] at h1; cases h1
theorem own_not {w : World} {B r n Bs : Nat} {D : DataW Unit} {left : Lit → Bool} {cnt : Nat} {v : Value} {T : List Pl.Nd} (h : w.ranges Tryz.prog 9 MapN.elem B r n D left cnt) (ho : Mem.ownN w Bs v T) : ∀ g, v.ownBlock = some g → g ≠ r ∧ g ≠ B := by
  intro g hg
  rcases ho.2 with ⟨rfl, _⟩ | ⟨g', cap, cur, rfl, _, hh, _⟩
  · cases hg
  · cases hg; exact iter_at h hh
/-- .. the sort, whatever row it is. -/
theorem sort_own (v : Value) (B : Nat) (T : List Pl.Nd) (w : World) (hp : ∀ t ∈ T, Pl.pathB t.path = true) (hl : T.length ≤ 1048576) (hown : Mem.ownN w B v T) :
    Calls Tryz.prog 80 #[v, .func (.func 81) #[] #[]] w fun e w' => e = .returned (.tuple #[]) ∧
      ∃ S : List Pl.Nd, S.Perm T ∧ S.Pairwise (fun a b => Pl.ltP b.path a.path = false) ∧ Mem.ownN w' B v S ∧ w.grownBy w' v.ownBlock := by
  rcases hown.2 with ⟨rfl, h0⟩ | ⟨g, cap, cur, rfl, rest⟩
  · have : T = [] := List.length_eq_zero_iff.1 h0
    subst this
    refine Calls.mono (AnyF.slices_SortFunc_none (P := Tryz.prog) LaySort.lay none 0 (.func (.func 81) #[] #[]) w) ?_
    rintro e w' ⟨he, rfl⟩
    exact ⟨he, [], List.Perm.refl _, List.Pairwise.nil, hown, ⟨rfl, rfl, rfl, Nat.le_refl _, fun _ _ _ => rfl⟩⟩
  · exact WOrder.sort_any g cap B T w hp hl hown
set_option maxRecDepth 100000 in
set_option maxHeartbeats 2000000 in
theorem any (B N : Nat) (C L : List Pl.Nd) (D : DataW Unit) (w : World) (hown : w.ownsMap Tryz.prog 9 MapN.elem B N D) (hN : N ≤ 1000) (hD : MapN.Reads D C) (hC : C.Pairwise (fun a b => a.path ≠ b.path)) (hperm : L.Perm C) (hr : L.Pairwise (fun a b => Pl.ltP a.path b.path = true))
    (hok : ∀ n ∈ C, Pl.pathB n.path = true ∧ n.data.size ≤ 1048576) :
    Calls Tryz.prog 36 #[.map (some B)] w fun e w' => ∃ v, e = .returned v ∧ Mem.ownN w' w.heap.size v L ∧ Below w.heap.size w w' := by
  obtain ⟨i0, hi, hz0, hz1, hz2⟩ := info_parts infoN
  have hsz := hown.size_le
  have hmk := makeC (Maps.size D) (by omega) w
  have hbl := hown.lt
  have e1 : (w.alloc (.cells (zeros (Maps.size D)) 34)).heap.size = w.heap.size + 1 := by simp
  have OW0 : Hid (Mem.ownN (w.alloc (.cells (zeros (Maps.size D)) 34)) w.heap.size (.slice (some ⟨w.heap.size, 0, none⟩) 0 (Maps.size D)) []) :=
    ⟨rfl, .inr ⟨w.heap.size, _, _, rfl, Nat.le_refl _, heap_alloc_new _ _, Nat.zero_le _, by unfold maxLen; omega, size_madeCells _ _, rfl⟩⟩
  have HG0 := hide (MapN.got_start hD)
  have HC := hide hC
  have HOK := hide hok
  have HEND : Hid (∀ S T : List Pl.Nd, T.Perm C → S.Perm T → S.Pairwise (fun a b => Pl.ltP b.path a.path = false) → S = L) := fun S T h1 h2 h3 =>
    Pl.sorted_one ((h2.trans h1).trans hperm.symm) (fun n hn => (hok n (hperm.mem_iff.1 hn)).1) hr h3
  have HM := hide hown
  clear hown hr hperm hC hok
  have HENT := hide hD.ent
  clear hD
  go_enter Tryz.func36, Tryz.ntmps36
  go_wp2_with (first
    | (at_len; refine wpList_len_own _ rfl _ 70 rfl 9 34 Tryz.underlying70 _ B N D rfl (unhide HM) ?_)
    | (at_range; refine wpList_range_own _ rfl _ 70 rfl 9 34 MapN.law Tryz.underlying70 _ B N _ rfl ((unhide HM).alloc _) ?_; intro w0 hrg0 hg0 hs0)
    | go_in)
  go_frame
  rw [e1] at hrg0 hs0 ⊢
  have OW1 := hide (Mem.ownN_grown (unhide OW0) hg0 (fun _ _ => by simp))
  have B1 := hide (((Below.refl w.heap.size w).alloc (Nat.le_refl _) _).grown hg0 (by simp) (fun j hj => by cases hj))
  clear hg0 hs0 OW0 hmk e1
  go_loopw [3] (fun v wr => ∃ (left : Lit → Bool) (cnt : Nat) (T : List Pl.Nd), wr.ranges Tryz.prog 9 MapN.elem B (w.heap.size + 1) N D left cnt ∧ T.length + cnt ≤ Maps.size D ∧ Hid (Mem.ownN wr w.heap.size v T) ∧ Hid (MapN.Got C T left) ∧ Hid (Below w.heap.size w wr))
    (fun _ wr => wr.rangeLeft B (w.heap.size + 1))
  case atStart => exact ⟨_, _, [], hrg0, by simp, OW1, HG0, B1⟩
  case round =>
    obtain ⟨left, cnt, T, hrg, hcs, HOW, HGT, HB⟩ := hrel
    have HNT := hide (own_not hrg (unhide HOW))
    clear hrg0 OW1 B1 HG0
    go_wp2_with (first
      | (at_next; refine wpList_next_ranges _ rfl _ rfl 9 MapN.law MapN.elem (Value.string) (Pl.Nd.val) (fun key kl hk => Maps.keyOf_string_inv Tryz.underlying9 hk) (fun v y hv => by obtain ⟨d, ps⟩ := y; obtain ⟨n, hn, _⟩ := MapN.elem_inv hv; exact ⟨n, hn⟩) B (w.heap.size + 1) N _ _ _ rfl hrg ?_ ?_)
      | go_in)
    · intro hc0 hl0
      have hp := hide (MapN.got_end (unhide HC) (unhide HGT) hl0)
      have hs := hide (sort_own u3 w.heap.size T wr (fun t ht => (unhide HOK t ((unhide HGT).sub t ht)).1) (by omega) (unhide HOW))
      have HLW := hide (Mem.ownN_lt (unhide HOW))
      clear HOW HGT HNT hrg hc0 hl0 HENT
      go_wp2_with fail
      refine (unhide hs).mono ?_
      rintro e w2 ⟨rfl, S, h1, h2, h3, h4⟩
      have eS := unhide HEND S T (unhide hp) h1 h2
      subst eS
      have bw := (unhide HB).grown h4 (unhide HB).size (fun q hq => (unhide HLW q hq).1)
      have O2 := hide h3
      clear hs h1 h2 h3 h4 hp HEND
      go_wp2
      go_ret
      exact ⟨u3, rfl, unhide O2, bw⟩
    · intro x c kl yd yp w1 cnt1 hkey hlk hR hat hrg1 hlt hg1 hs1 hen
      have ek : kl = MapN.key x := MapN.keyOf_inv hkey
      have ey : yd = MapN.dat c := by rw [MapN.elem_mk] at hR; cases hR; rfl
      subst ek ey
      obtain ⟨hcC, rfl⟩ := unhide HENT x c hat
      have HG2 := hide (MapN.got_step (unhide HC) (unhide HGT) hcC hlk)
      have hok := unhide HOK c hcC
      have hc := hide (fun W => WCopied.any c W (by have := Pl.pathB_le hok.1; omega) hok.2)
      have HRG1 := hide hrg1
      have OW1 := Mem.ownN_grown (unhide HOW) hg1 (fun g hg e => by cases e; exact (unhide HNT _ hg).1 rfl)
      have B1 := (unhide HB).grown hg1 (unhide HB).size (fun q hq => by cases hq; omega)
      have HLE := hide (hrg.left_eq)
      clear hat hR hkey hlk hok hcC HGT HOW HB hg1 hs1 hrg1 hrg HENT HNT
      obtain ⟨p, k0, d, t, m⟩ := c
      simp only [Pl.Nd.val] at hen hc HG2 HRG1 ⊢
      have OWD := Mem.ownN_alloc OW1 (.cells #[.string p, .int .i64 k0, .string d, .int .i64 t, .int .i64 m] 34)
      have bW := B1.alloc B1.size (.cells #[.string p, .int .i64 k0, .string d, .int .i64 t, .int .i64 m] 34)
      have hsW : w.heap.size ≤ w1.heap.size := B1.size
      clear OW1 B1
      go_wp2_with fail
      refine (unhide hc _).mono ?_
      rintro e wC ⟨rfl, bC⟩
      have OWC := Mem.ownN_call OWD bC
      have bX := bW.trans (bC.mono bW.size)
      have HLT := hide (Mem.ownN_lt OWC)
      have HRC := hide (((unhide HRG1).alloc (.cells #[.string p, .int .i64 k0, .string d, .int .i64 t, .int .i64 m] 34)).kept (Mem.grown_of_below bC none) (by simp) (by simp))
      have HNC := hide (own_not (unhide HRC) OWC)
      have hsX := bX.size
      clear OWD bW bC hc HRG1 hen
      go_wp2_with (at_builtin; refine wpList_append_own _ rfl _ _ 27 rfl w.heap.size 34 i0 _ 5 56 Tryz.underlying27 hi hz0 hz1 hz2 rfl (by decide) _ _ _ rfl (Mem.ownN_alloc OWC _) ⟨wC.heap.size, 0, none⟩ 1 1 [.string p, .int .i64 k0, .string d, .int .i64 t, .int .i64 m] rfl rfl (Mem.cs_new wC ⟨p, k0, d, t, m⟩ _) (Mem.cs_one ⟨p, k0, d, t, m⟩) (by unfold maxLen; omega) (by omega) (by simp; omega) ?_)
      intro v'' wZ hownZ hgrow _
      have OWZ := hide (Mem.ownN_snoc (L := T) (n := ⟨p, k0, d, t, m⟩) hownZ)
      have HRZ := hide (((unhide HRC).alloc (.cells #[.string p, .int .i64 k0, .string d, .int .i64 t, .int .i64 m] 34)).kept hgrow (fun e => (unhide HNC _ e.symm).2 rfl) (fun e => (unhide HNC _ e.symm).1 rfl))
      have bZ := hide ((bX.alloc bX.size (.cells #[.string p, .int .i64 k0, .string d, .int .i64 t, .int .i64 m] 34)).grown hgrow (by have := bX.size; simp; omega) (fun q hq => (unhide HLT q hq).1))
      clear hownZ hgrow OWC bX HRC HNC HLT
      go_wp2
      go_roundw
      case rel => exact ⟨_, cnt1, T ++ [⟨p, k0, d, t, m⟩], unhide HRZ, by simp; omega, OWZ, HG2, bZ⟩
      case measure => rw [(unhide HRZ).left_eq, unhide HLE]; exact hlt
end WRising
end Go.Proofs.YtmohbgmbknfaiaaGreatDoor

/- What a map of nodes reads behind a put, and how many it has. -/
namespace Go.Proofs.YtmohbgmbknfaiaaGreatDoor
open Go.RowKit Go.Maps
namespace MapN
theorem reads_put {D : DataW Unit} {C : List Pl.Nd} (h : Reads D C) (hm : IsMap D) (n : Pl.Nd) : Reads (D.put (key n.path) (dat n)) (C.filter (fun m => !decide (m.path = n.path)) ++ [n]) := by
  refine ⟨fun m hmem => ?_, fun p c hc => ?_⟩
  · by_cases e : m.path = n.path
    · rw [e]; exact has_put_same hm (key_is _) _
    · rw [has_put_other (key_ne e)]
      rcases List.mem_append.1 hmem with h1 | h1
      · exact h.has m (List.mem_filter.1 h1).1
      · simp at h1; subst h1; exact absurd rfl e
  · by_cases e : p = n.path
    · subst e
      have h1 := hc (dat n)
      rw [atKey_put_same hm (key_is _)] at h1
      have := dat_inj h1
      subst this
      exact ⟨by simp, rfl⟩
    · have h1 := h.ent p c (fun z => by rw [← hc z]; exact (atKey_put_other (key_ne e) _ z).symm)
      exact ⟨List.mem_append_left _ (List.mem_filter.2 ⟨h1.1, by rw [← h1.2]; simpa using e⟩), h1.2⟩
theorem tidy_mapOf : ∀ (C : List Pl.Nd) (D : DataW Unit), Tidy D → Tidy (C.foldl (fun D n => D.put (key n.path) (dat n)) D) := by
  intro C
  induction C with
  | nil => intro D h; exact h
  | cons n C ih => intro D h; exact ih _ (h.put (key_is _) _)
theorem size_fold : ∀ (C : List Pl.Nd) (D : DataW Unit), Tidy D → C.Pairwise (fun a b => a.path ≠ b.path) → (∀ n ∈ C, Maps.has D (key n.path) = false) → Maps.size (C.foldl (fun D n => D.put (key n.path) (dat n)) D) = Maps.size D + C.length := by
  intro C
  induction C with
  | nil => intro D _ _ _; rfl
  | cons n C ih =>
    intro D hD hp hn
    have hp' := List.pairwise_cons.1 hp
    rw [List.foldl_cons, ih _ (hD.put (key_is _) _) hp'.2 (fun m hm => by rw [has_put_other (key_ne (fun e => hp'.1 m hm e.symm))]; exact hn m (List.mem_cons_of_mem _ hm)), size_put hD, if_neg (by rw [hn n List.mem_cons_self]; simp), List.length_cons]
    omega
theorem size_mapOf {C : List Pl.Nd} (h : C.Pairwise (fun a b => a.path ≠ b.path)) : Maps.size (mapOf C) = C.length := by
  have := size_fold C (.map []) tidy_empty h (fun _ _ => rfl)
  rw [mapOf, this]
  show 0 + _ = _
  omega
end MapN
end Go.Proofs.YtmohbgmbknfaiaaGreatDoor

/- The paths on the way to one: pathsTo, and its iterator. -/
namespace Go.Proofs.YtmohbgmbknfaiaaGreatDoor
open Go.RowKit Go.Shelf
attribute [local go_sem] Oper.semAt_some
namespace Pl
/-- The first k paths on the way along names. -/
def ways (L : List ByteArray) (k : Nat) : List ByteArray := (List.range k).map (fun i => glue (L.take (i + 1)))
theorem ways_succ (L : List ByteArray) (k : Nat) : ways L (k + 1) = ways L k ++ [glue (L.take (k + 1))] := by simp [ways, List.range_succ]
theorem ways_len (L : List ByteArray) (k : Nat) : (ways L k).length = k := by simp [ways]
end Pl
namespace WWays
/-- A text that is not too long. -/
abbrev Small := { x : ByteArray // x.size ≤ 1000000 }
/-- All blocks of cells but one are as they were. -/
def KC (X : Nat) (W W' : World) : Prop := W.heap.size ≤ W'.heap.size ∧ ∀ (j : Nat) (o : Obj), j ≠ X → W.heap[j]? = some o → o.isCells = true → W'.heap[j]? = some o
theorem KC.trans {X : Nat} {A B C : World} (h1 : KC X A B) (h2 : KC X B C) : KC X A C := ⟨Nat.le_trans h1.1 h2.1, fun j o hj ho hc => h2.2 j o hj (h1.2 j o hj ho hc) hc⟩
theorem KC.put {X l : Nat} (W : World) (o o' : Obj) (hl : W.heap[l]? = some o) (ho : o.isCells = false) : KC X W (W.putObj l o') := by
  refine ⟨by simp, fun j p _ hp hc => ?_⟩
  have hne : j ≠ l := fun e => by rw [e, hl] at hp; cases hp; rw [ho] at hc; cases hc
  exact (World.putObj_heap_other hne).trans hp
theorem row_kept {X : Nat} {W W' : World} {B T n : Nat} {v : Value} {xs : List Value} (h : W.ownsRow B T 1 v n xs) (k : KC X W W') (hX : X < B) : W'.ownsRow B T 1 v n xs := by
  refine ⟨h.1, ?_⟩
  rcases h.2 with h0 | ⟨g, cap, cur, hv, hb, hg, rest⟩
  · exact .inl h0
  · exact .inr ⟨g, cap, cur, hv, hb, k.2 g _ (by omega) hg rfl, rest⟩
end WWays
namespace Mem
theorem texts_take {w : World} {a : Option Addr} {n cap : Nat} {L : List ByteArray} (h : isTexts w (.slice a n cap) L) (k : Nat) (hk : k ≤ L.length) (h0 : 0 < k) : isTexts w (.slice a k cap) (L.take k) := by
  rcases h with ⟨_, h2⟩ | ⟨b, o, cap', hv, hb, hc⟩
  · subst h2; simp at hk; omega
  · injection hv with e1 e2 e3
    subst e1
    refine .inr ⟨b, o, cap, by rw [List.length_take, Nat.min_eq_left hk], hb, fun j t hj => hc j t ?_⟩
    rw [List.getElem?_take] at hj
    split at hj
    · exact hj
    · cases hj
theorem own_cap {w : World} {B T n cap : Nat} {a : Option Addr} {xs : List Value} (h : w.ownsRow B T 1 (.slice a n cap) n xs) : n ≤ cap := by
  rcases h.2 with ⟨hv, h0⟩ | ⟨g, cap', cur, hv, hb, hg, hc, rest⟩
  · omega
  · injection hv with e1 e2 e3
    omega
end Mem
namespace WWays
set_option linter.unusedSimpArgs false in
set_option maxRecDepth 100000 in
set_option maxHeartbeats 2000000 in
theorem iter_stops (n : Nat) (X : Nat) (q : Addr) (p : ByteArray) (w : World) (hX : X < w.heap.size) (hq : w.cell? q = some (.string p)) (hql : q.block < w.heap.size) (hp : p.size ≤ 1048576) :
    SeqStopsK Fence.wide n Tryz.prog 195 #[.pointer (some q)] (fun x : Small => #[Value.string x.1]) (KC X) (fun xs => xs.map Subtype.val = Pl.ways (Pl.namesR p) (Pl.namesR p).length) (fun _ => True) (Pl.namesR p).length w := fun l J Jx W hW hJ _ hY h0 => by
  have hq1 : W.cell? q = some (.string p) := (hW.cell hql).trans hq
  have hXW : X < W.heap.size := Nat.lt_of_lt_of_le hX hW.size
  have HN := hide (WNames.any p W hp)
  generalize Pl.pathB p = rr at HN
  have hl6 : (Pl.namesR p).length ≤ 6 := (Pl.namesR_all p).2
  have HGL : Hid (∀ k, (Pl.glue ((Pl.namesR p).take k)).size ≤ 1000000) := fun k => Pl.glue_small (fun t ht => (Pl.namesR_all p).1 t (List.mem_of_mem_take ht)) (by have := (Pl.namesR_all p).2; simp; omega)
  generalize Pl.namesR p = L at hY hl6 HGL HN ⊢
  refine callsIn_of_wp Tryz.func195 rfl trivial ?_ rfl
  simp only [Tryz.ntmps195, List.size_toArray, List.length_cons, List.length_nil, Nat.reduceAdd, Nat.reduceSub, Array.replicate_succ, Array.replicate_zero, List.push_toArray, List.append_toArray, List.nil_append, List.cons_append]
  gi_wp2_with fail
  refine ⟨trivial, fun h => (by cases h), ?_⟩
  refine (callsIn_wide.2 (unhide HN)).mono ?_
  rintro e w1 ⟨v, rfl, own, b1⟩
  obtain ⟨a, cap, rfl⟩ := Mem.own_shape own
  have hJ1 : Hid (∃ pre : List Small, pre.map Subtype.val = Pl.ways L 0 ∧ J pre w1) := ⟨[], rfl, hJ [] W w1 none h0 (Mem.grown_of_below b1 none) (fun r e => by cases e)⟩
  have OW := hide own
  have HY := hide hY
  clear HN own b1 h0 hY
  gi_wp2_with fail
  gi_loopw [13] (fun i wr => ∃ k : Nat, k ≤ L.length ∧ i = .int .i64 k ∧ Hid (∃ pre : List Small, pre.map Subtype.val = Pl.ways L k ∧ J pre wr) ∧ Hid (wr.ownsRow W.heap.size 9 1 (.slice a L.length cap) L.length (L.map Value.string)))
    (fun i _ => L.length - (intOf i).toNat)
  case atStart => exact ⟨0, Nat.zero_le _, rfl, hJ1, OW⟩
  case round =>
    obtain ⟨k, hk, rfl, HJ, HO⟩ := hrel
    clear hJ1 OW
    by_cases hlt : k < L.length
    · have y1 : (k : Int) < (L.length : Int) := by omega
      have hT := Mem.texts_take (Mem.own_texts (unhide HO)) (k + 1) (by omega) (by omega)
      have HP := hide (WPathOf.any (.slice a (k + 1) cap) (L.take (k + 1)) wr (by simp; omega) (unhide HGL (k + 1)) hT)
      have hcap := Mem.own_cap (unhide HO)
      have hw1 : IntKind.i64.wrap ((k : Int) + 1) = (k : Int) + 1 := by simp only [IntKind.wrap_i64]; omega
      clear hT
      gi_wp2_with fail
      refine ⟨trivial, fun h => (by cases h), ?_⟩
      refine (callsIn_wide.2 (unhide HP)).mono ?_
      rintro e w2 ⟨rfl, b2⟩
      obtain ⟨pre, hpre, hJp⟩ := unhide HJ
      have HJ2 : J pre w2 := hJ _ wr w2 none hJp (Mem.grown_of_below b2 none) (fun r e => by cases e)
      have HO2 := hide (Mem.own_call (unhide HO) b2)
      obtain ⟨fn, tmps, assign, body, hy, hR⟩ := unhide HY pre ⟨Pl.glue (L.take (k + 1)), unhide HGL (k + 1)⟩ w2 HJ2 (by have := congrArg List.length hpre; rw [Pl.ways_len, List.length_map] at this; omega)
      have HWS : Hid ((pre ++ [(⟨Pl.glue (L.take (k + 1)), unhide HGL (k + 1)⟩ : Small)]).map Subtype.val = Pl.ways L (k + 1)) := by rw [List.map_append, hpre, Pl.ways_succ]; exact rfl
      dsimp only at hy
      clear HP HJ HO HJ2 b2 hpre hJp
      gi_wp2
      refine ⟨fun h => (by cases h), ?_⟩
      refine hR.mono ?_
      rintro e W3 (⟨rfl, hJ3, hk3⟩ | ⟨rfl, hJx3⟩)
      · have HJ3 : Hid (∃ pre : List Small, pre.map Subtype.val = Pl.ways L (k + 1) ∧ J pre W3) := ⟨_, unhide HWS, hJ3⟩
        have HO3 := hide (row_kept (unhide HO2) hk3 hXW)
        clear hJ3 hk3 HO2 hR hy HWS
        gi_wp2
        go_roundw
        case rel => exact ⟨k + 1, by omega, by go_num, HJ3, HO3⟩
        case measure => simp [intOf]; omega
      · gi_wp2
        refine bodyPost_ret (results_none rfl _ _ _) rfl ?_
        exact ⟨⟨_, rfl⟩, .inr ⟨_, trivial, hJx3⟩⟩
    · obtain rfl : k = L.length := by omega
      have y1 : ¬ ((L.length : Int) < (L.length : Int)) := by omega
      gi_wp2
      go_end0
      exact ⟨⟨_, rfl⟩, .inl (unhide HJ)⟩
set_option maxRecDepth 100000 in
theorem paths_any (p : ByteArray) (w : World) : Calls Tryz.prog 148 #[.string p] w fun e w' => e = .returned (.func (.func 195) #[] #[.pointer (some ⟨w.heap.size, 0, none⟩)]) ∧ w' = w.alloc (.cells #[.string p] 9) := by
  have hmf : ∀ (fn : Fn) (first cap : Array Value) (w : World), (Instr.makeFunc fn first cap).run Tryz.prog w = .ok (.func fn first cap) w := fun _ _ _ _ => rfl
  go_enter Tryz.func148, Tryz.ntmps148
  go_wp2
  go_ret
  exact ⟨rfl, rfl⟩
end WWays
end Go.Proofs.YtmohbgmbknfaiaaGreatDoor

/- The walks of take and levelUp. -/
namespace Go.Proofs.YtmohbgmbknfaiaaGreatDoor
open Go.RowKit
namespace WSight
theorem set_have (t : Bool) (n : Pl.Nd) (hv : List Bool) (k : Nat) (x : Bool) : (Pl.Sg.cs ⟨t, n, hv⟩).toArray.setIfInBounds (6 + k) (.bool x) = (Pl.Sg.cs ⟨t, n, hv.set k x⟩).toArray := by
  rw [List.setIfInBounds_toArray]
  unfold Pl.Sg.cs
  rw [List.set_append_right _ _ (by simp)]
  simp [List.map_set]
theorem set_mark (t : Bool) (n : Pl.Nd) (hv : List Bool) (m : Int) : (Pl.Sg.cs ⟨t, n, hv⟩).toArray.setIfInBounds 5 (.int .i64 m) = (Pl.Sg.cs ⟨t, ⟨n.path, n.kind, n.data, n.time, m⟩, hv⟩).toArray := by
  rw [List.setIfInBounds_toArray]
  rfl
theorem set_node (n : Pl.Nd) (hv : List Bool) (u : Bool) (m : Pl.Nd) : ((((((Pl.Sg.cs ⟨u, m, hv⟩).toArray.setIfInBounds 0 (.bool true)).setIfInBounds 1 (.string n.path)).setIfInBounds 2 (.int .i64 n.kind)).setIfInBounds 3 (.string n.data)).setIfInBounds 4 (.int .i64 n.time)).setIfInBounds 5 (.int .i64 n.mark) = (Pl.Sg.cs ⟨true, n, hv⟩).toArray := by
  simp only [kB3]
  rfl
theorem grown_same (w : World) (b : Nat) : w.grownBy w (some b) := ⟨rfl, rfl, rfl, Nat.le_refl _, fun _ _ _ => rfl⟩
theorem grown_set {w v : World} {g : Nat} (h : w.grownBy v (some g)) (o : Nat) (x : Value) : w.grownBy (v.setCell ⟨g, o, none⟩ x) (some g) :=
  ⟨h.os, h.tape, h.output, Nat.le_trans h.size (by simp [World.setCell]), fun j hj hne => (Below.heap_setCell _ _ _ _ (by intro e; exact hne (by rw [e]))).trans (h.block j hj hne)⟩
theorem grown_alloc {w w' : World} {b : Nat} (h : w.grownBy w' (some b)) (o : Obj) : w.grownBy (w'.alloc o) (some b) :=
  Mem.grown_trans h (Mem.grown_of_below ((Below.refl _ _).alloc (Nat.le_refl _) o) (some b))
set_option linter.unusedSimpArgs false in
set_option maxRecDepth 100000 in
set_option maxHeartbeats 2000000 in
theorem take_any (b k : Nat) (s : Pl.Sg) (n : Pl.Nd) (w : World) (hk : k < 4) (hh : s.have'.length = 4) (hb : Mem.Blk w b s.cs.toArray 142) :
    Calls Tryz.prog 193 #[.pointer (some ⟨b, 0, none⟩), .int .i64 k, n.val] w fun e w' => e = .returned (.bool (Pl.stopB n)) ∧ Mem.Blk w' b (Pl.takeS s k n).cs.toArray 142 ∧ w.grownBy w' (some b) := by
  obtain ⟨told, ⟨sp, sk, sd, st, sm⟩, hv⟩ := s
  obtain ⟨np, nk, nd, nt, nm⟩ := n
  obtain ⟨h0, h1, h2, h3, rfl⟩ : ∃ h0 h1 h2 h3, hv = [h0, h1, h2, h3] := by
    match hv, hh with
    | [a, b, c, d], _ => exact ⟨a, b, c, d, rfl⟩
  have hix : 0 ≤ (k : Int) ∧ (k : Int) < 4 := by omega
  simp only [Pl.Nd.val]
  have hbl := hb.lt
  have V := hb.alloc (.cells #[.string np, .int .i64 nk, .string nd, .int .i64 nt, .int .i64 nm] 34)
  have N := Mem.Blk.new w #[.string np, .int .i64 nk, .string nd, .int .i64 nt, .int .i64 nm] 34
  have c0 := hb.cell 0
  have c1 := hb.cell 1
  have c2 := hb.cell 2
  have c3 := hb.cell 3
  have c4 := hb.cell 4
  have c5 := hb.cell 5
  have f0 := hb.fr 0
  have f1 := hb.fr 1
  have f2 := hb.fr 2
  have f3 := hb.fr 3
  have f4 := hb.fr 4
  have f5 := hb.fr 5
  have fk := hb.fr (6 + k)
  obtain ⟨x, ck⟩ : ∃ x, w.cell? ⟨b, 6 + k, none⟩ = some (.bool x) := by
    rw [hb.cell (6 + k)]
    obtain rfl | rfl | rfl | rfl : k = 0 ∨ k = 1 ∨ k = 2 ∨ k = 3 := by omega
    all_goals exact ⟨_, rfl⟩
  simp only [Pl.Sg.cs, List.map_cons, List.map_nil, List.cons_append, List.nil_append, kA0, kA1, kA2] at c0 c1 c2 c3 c4 c5
  have hN : ∀ (t : Bool) (x : Bool) (M : Int), Mem.Blk (((w.setCell ⟨b, 5, none⟩ (.int .i64 M)).setCell ⟨b, 6 + k, none⟩ (.bool x)).alloc (.cells #[.string np, .int .i64 nk, .string nd, .int .i64 nt, .int .i64 nm] 34)).drew.drew b (Pl.Sg.cs ⟨told, ⟨sp, sk, sd, st, M⟩, [h0, h1, h2, h3].set k x⟩).toArray 142 ∧ w.grownBy (((w.setCell ⟨b, 5, none⟩ (.int .i64 M)).setCell ⟨b, 6 + k, none⟩ (.bool x)).alloc (.cells #[.string np, .int .i64 nk, .string nd, .int .i64 nt, .int .i64 nm] 34)).drew.drew (some b) := by
    intro t x M
    have h1 := ((hb.put 5 (.int .i64 M)).put (6 + k) (.bool x)).alloc (.cells #[.string np, .int .i64 nk, .string nd, .int .i64 nt, .int .i64 nm] 34)
    rw [set_mark, set_have] at h1
    have h2 := grown_alloc (grown_set (grown_set (grown_same w b) 5 (.int .i64 M)) (6 + k) (.bool x)) (.cells #[.string np, .int .i64 nk, .string nd, .int .i64 nt, .int .i64 nm] 34)
    exact ⟨h1, ⟨h2.os, h2.tape, h2.output, h2.size, h2.block⟩⟩
  cases told
  · clear hN
    have V2 : Mem.Blk (((((((((w.setCell ⟨b, 0, none⟩ (.bool true)).setCell ⟨b, 1, none⟩ (.string np)).setCell ⟨b, 2, none⟩ (.int .i64 nk)).setCell ⟨b, 3, none⟩ (.string nd)).setCell ⟨b, 4, none⟩ (.int .i64 nt)).setCell ⟨b, 5, none⟩ (.int .i64 nm)).alloc (.cells #[.string np, .int .i64 nk, .string nd, .int .i64 nt, .int .i64 nm] 34))).drew) b (Pl.Sg.cs ⟨true, ⟨np, nk, nd, nt, nm⟩, [h0, h1, h2, h3]⟩).toArray 142 := by
      have h := ((((((hb.put 0 (.bool true)).put 1 (.string np)).put 2 (.int .i64 nk)).put 3 (.string nd)).put 4 (.int .i64 nt)).put 5 (.int .i64 nm)).alloc (.cells #[.string np, .int .i64 nk, .string nd, .int .i64 nt, .int .i64 nm] 34)
      rw [set_node ⟨np, nk, nd, nt, nm⟩] at h
      exact h
    have hsz : (((((((((w.setCell ⟨b, 0, none⟩ (.bool true)).setCell ⟨b, 1, none⟩ (.string np)).setCell ⟨b, 2, none⟩ (.int .i64 nk)).setCell ⟨b, 3, none⟩ (.string nd)).setCell ⟨b, 4, none⟩ (.int .i64 nt)).setCell ⟨b, 5, none⟩ (.int .i64 nm)).alloc (.cells #[.string np, .int .i64 nk, .string nd, .int .i64 nt, .int .i64 nm] 34))).drew).heap.size = w.heap.size + 1 := by simp
    have N2 : Mem.Blk (((((((((w.setCell ⟨b, 0, none⟩ (.bool true)).setCell ⟨b, 1, none⟩ (.string np)).setCell ⟨b, 2, none⟩ (.int .i64 nk)).setCell ⟨b, 3, none⟩ (.string nd)).setCell ⟨b, 4, none⟩ (.int .i64 nt)).setCell ⟨b, 5, none⟩ (.int .i64 nm)).alloc (.cells #[.string np, .int .i64 nk, .string nd, .int .i64 nt, .int .i64 nm] 34))).drew) w.heap.size #[.string np, .int .i64 nk, .string nd, .int .i64 nt, .int .i64 nm] 34 := by
      have h := Mem.Blk.new ((((((w.setCell ⟨b, 0, none⟩ (.bool true)).setCell ⟨b, 1, none⟩ (.string np)).setCell ⟨b, 2, none⟩ (.int .i64 nk)).setCell ⟨b, 3, none⟩ (.string nd)).setCell ⟨b, 4, none⟩ (.int .i64 nt)).setCell ⟨b, 5, none⟩ (.int .i64 nm)) #[.string np, .int .i64 nk, .string nd, .int .i64 nt, .int .i64 nm] 34
      simp only [World.size_setCell] at h
      exact h
    have G2 : w.grownBy (((((((((w.setCell ⟨b, 0, none⟩ (.bool true)).setCell ⟨b, 1, none⟩ (.string np)).setCell ⟨b, 2, none⟩ (.int .i64 nk)).setCell ⟨b, 3, none⟩ (.string nd)).setCell ⟨b, 4, none⟩ (.int .i64 nt)).setCell ⟨b, 5, none⟩ (.int .i64 nm)).alloc (.cells #[.string np, .int .i64 nk, .string nd, .int .i64 nt, .int .i64 nm] 34))).drew) (some b) := by
      have h := grown_alloc (grown_set (grown_set (grown_set (grown_set (grown_set (grown_set (grown_same w b) 0 (.bool true)) 1 (.string np)) 2 (.int .i64 nk)) 3 (.string nd)) 4 (.int .i64 nt)) 5 (.int .i64 nm)) (.cells #[.string np, .int .i64 nk, .string nd, .int .i64 nt, .int .i64 nm] 34)
      exact ⟨h.os, h.tape, h.output, h.size, h.block⟩
    have hM : max nm nm = nm := by omega
    have hmx : ¬ nm < nm := by omega
    go_enter Tryz.func193, Tryz.ntmps193
    go_wp2
    go_region
    go_wp2
    generalize (((((((((w.setCell ⟨b, 0, none⟩ (.bool true)).setCell ⟨b, 1, none⟩ (.string np)).setCell ⟨b, 2, none⟩ (.int .i64 nk)).setCell ⟨b, 3, none⟩ (.string nd)).setCell ⟨b, 4, none⟩ (.int .i64 nt)).setCell ⟨b, 5, none⟩ (.int .i64 nm)).alloc (.cells #[.string np, .int .i64 nk, .string nd, .int .i64 nt, .int .i64 nm] 34))).drew) = w2 at V2 N2 G2 hsz ⊢
    have HN : Hid (∀ x : Bool, Mem.Blk ((w2.setCell ⟨b, 5, none⟩ (.int .i64 nm)).setCell ⟨b, 6 + k, none⟩ (.bool x)).drew.drew b (Pl.Sg.cs ⟨true, ⟨np, nk, nd, nt, nm⟩, [h0, h1, h2, h3].set k x⟩).toArray 142 ∧ w.grownBy ((w2.setCell ⟨b, 5, none⟩ (.int .i64 nm)).setCell ⟨b, 6 + k, none⟩ (.bool x)).drew.drew (some b)) := by
      intro x
      have h1 := (V2.put 5 (.int .i64 nm)).put (6 + k) (.bool x)
      rw [set_mark, set_have] at h1
      have h2 := grown_set (grown_set G2 5 (.int .i64 nm)) (6 + k) (.bool x)
      exact ⟨h1, ⟨h2.os, h2.tape, h2.output, h2.size, h2.block⟩⟩
    have c5 := V2.cell 5
    have f5 := V2.fr 5
    have fk := V2.fr (6 + k)
    have n1 := N2.cell 1
    have n4 := N2.cell 4
    obtain ⟨x, ck⟩ : ∃ x, w2.cell? ⟨b, 6 + k, none⟩ = some (.bool x) := by
      rw [V2.cell (6 + k)]
      obtain rfl | rfl | rfl | rfl : k = 0 ∨ k = 1 ∨ k = 2 ∨ k = 3 := by omega
      all_goals exact ⟨_, rfl⟩
    simp only [Pl.Sg.cs, List.map_cons, List.map_nil, List.cons_append, List.nil_append, kA0, kA1, kA2] at c5 n1 n4
    clear V2 N2 G2 hb V N c0 c1 c2 c3 c4
    have hne : ¬ w.heap.size = b := by omega
    by_cases hn : nk = 1
    · subst hn
      go_region
      go_wp2
      go_region
      go_wp2
      go_ret
      exact ⟨by simp [Pl.stopB], by simp only [Pl.takeS, Pl.markMax, Bool.false_eq_true, if_false, hM, decide_true]; exact (unhide HN true).1, (unhide HN true).2⟩
    · have t1 : (nk == 1) = false := by simpa using hn
      have t2 : (nk != 1) = true := by simpa using hn
      have t3 : decide (nk = 1) = false := by simpa using hn
      go_region
      go_wp2
      go_region
      go_wp2
      go_ret
      exact ⟨by simp [Pl.stopB, hn], by simp only [Pl.takeS, Pl.markMax, Bool.false_eq_true, if_false, hM, t3]; exact (unhide HN false).1, (unhide HN false).2⟩
  · have HN := hide hN
    clear hN V N hb
    by_cases hmx : sm < nm
    · have hM : max sm nm = nm := by omega
      by_cases hn : nk = 1
      · subst hn
        go_enter Tryz.func193, Tryz.ntmps193
        go_wp2
        go_region
        go_wp2
        go_region
        go_wp2
        go_ret
        exact ⟨by simp [Pl.stopB], by simp only [Pl.takeS, Pl.markMax, if_true, hM, decide_true]; exact (unhide HN true true nm).1, (unhide HN true true nm).2⟩
      · have t1 : (nk == 1) = false := by simpa using hn
        have t2 : (nk != 1) = true := by simpa using hn
        have t3 : decide (nk = 1) = false := by simpa using hn
        go_enter Tryz.func193, Tryz.ntmps193
        go_wp2
        go_region
        go_wp2
        go_region
        go_wp2
        go_ret
        exact ⟨by simp [Pl.stopB, hn], by simp only [Pl.takeS, Pl.markMax, if_true, hM, t3]; exact (unhide HN true false nm).1, (unhide HN true false nm).2⟩
    · have hM : max sm nm = sm := by omega
      by_cases hn : nk = 1
      · subst hn
        go_enter Tryz.func193, Tryz.ntmps193
        go_wp2
        go_region
        go_wp2
        go_region
        go_wp2
        go_ret
        exact ⟨by simp [Pl.stopB], by simp only [Pl.takeS, Pl.markMax, if_true, hM, decide_true]; exact (unhide HN true true sm).1, (unhide HN true true sm).2⟩
      · have t1 : (nk == 1) = false := by simpa using hn
        have t2 : (nk != 1) = true := by simpa using hn
        have t3 : decide (nk = 1) = false := by simpa using hn
        go_enter Tryz.func193, Tryz.ntmps193
        go_wp2
        go_region
        go_wp2
        go_region
        go_wp2
        go_ret
        exact ⟨by simp [Pl.stopB, hn], by simp only [Pl.takeS, Pl.markMax, if_true, hM, t3]; exact (unhide HN true false sm).1, (unhide HN true false sm).2⟩
end WSight
end Go.Proofs.YtmohbgmbknfaiaaGreatDoor

