/- Several texts of one claim in one file: WRising, WUnder. -/
import Derived.Test.YtepmojmelcngeaaGreatDoorWOrder
import Derived.Test.YtepmojmelcngeaaGreatDoorWCopied
import Derived.Test.YtepmojmelcngeaaGreatDoorMapN
import Derived.Maps.RangeWalk
import Derived.Sort.MapsRangeIn
import Derived.Test.YtepmojmelcngeaaGreatDoorG09
import Derived.Deep.QuietTactic
import Derived.BigQuiet
/- The walk of rising: the nodes of a map, in order, in memory of the call's own. -/
namespace Go.Proofs.YtepmojmelcngeaaGreatDoor
open Go.RowKit Go.Maps
namespace Pl
theorem lt_asym {a b : ByteArray} (ha : pathB a = true) (hb : pathB b = true) (h : ltP a b = true) : ltP b a = false := by
  cases h2 : ltP b a
  · rfl
  · rw [ltP_right ha hb] at h
    rw [ltP_right hb ha] at h2
    have := less_trans _ _ _ h h2
    rw [less_irr] at this
    cases this
/-- There is one list in order. -/
theorem sorted_one {S L : List Nd} (hp : S.Perm L) (hok : ∀ n ∈ L, pathB n.path = true) (h0 : L.Pairwise (fun a b => ltP a.path b.path = true)) (hs : S.Pairwise (fun a b => ltP b.path a.path = false)) : S = L := by
  have hap : ∀ a ∈ L, ∀ b ∈ L, a.path = b.path → a = b := by
    have h1 : L.Pairwise (fun a b => lessL (names a.path) (names b.path) = true) := List.Pairwise.imp_of_mem (fun {a b} ha hb h => by rw [← ltP_right (hok a ha) (hok b hb)]; exact h) h0
    exact fun a ha b hb e => one_path h1 ha hb e
  refine List.Perm.eq_of_pairwise (le := fun a b => ltP b.path a.path = false) ?_ hs (List.Pairwise.imp_of_mem (fun {a b} ha hb h => lt_asym (hok a ha) (hok b hb) h) h0) hp
  intro a b ha hb h1 h2
  have ha' := hp.mem_iff.1 ha
  refine hap a ha' b hb ?_
  by_cases e : a.path = b.path
  · exact e
  · have := two_less (hok a ha') (hok b hb) e
    change ltP a.path b.path = !ltP b.path a.path at this
    rw [h1, h2] at this
    cases this
end Pl
namespace MapN
theorem keyOf_inv {p : ByteArray} {kl : Lit} (h : keyOf Tryz.prog 9 (.string p) = some kl) : kl = key p := by
  simp [keyOf, Tryz.underlying9, mapKey] at h
  rw [← h.2]; rfl
/-- A map reads as some nodes. -/
structure Reads (D : DataW Unit) (C : List Pl.Nd) : Prop where
  has : ∀ n ∈ C, Maps.has D (key n.path) = true
  ent : ∀ (p : ByteArray) (c : Pl.Nd), (∀ z, D.atKey (key p) z = dat c) → c ∈ C ∧ p = c.path
/-- What has come of a map's nodes, and what has not. -/
structure Got (C T : List Pl.Nd) (left : Lit → Bool) : Prop where
  sub : ∀ t ∈ T, t ∈ C
  apart : T.Pairwise (fun a b => a.path ≠ b.path)
  seen : ∀ t ∈ T, left (key t.path) = false
  all : ∀ n ∈ C, left (key n.path) = false → n ∈ T
theorem got_start {C : List Pl.Nd} {D : DataW Unit} (hD : Reads D C) : Got C [] (Maps.has D) :=
  ⟨fun t h => absurd h (by simp), List.Pairwise.nil, fun t h => absurd h (by simp), fun n hn h => by rw [hD.has n hn] at h; cases h⟩
theorem one_apart {C : List Pl.Nd} (h : C.Pairwise (fun a b => a.path ≠ b.path)) {a b : Pl.Nd} (ha : a ∈ C) (hb : b ∈ C) (e : a.path = b.path) : a = b := by
  induction h with
  | nil => cases ha
  | cons h1 _ ih =>
    rcases List.mem_cons.1 ha with ha1 | ha1
    · rcases List.mem_cons.1 hb with hb1 | hb1
      · rw [ha1, hb1]
      · exact absurd (ha1 ▸ e) (h1 _ hb1)
    · rcases List.mem_cons.1 hb with hb1 | hb1
      · exact absurd (hb1 ▸ e).symm (h1 _ ha1)
      · exact ih ha1 hb1
/-- An entry that comes is a node of the map. -/
theorem entry_in {C : List Pl.Nd} {p : ByteArray} {c : Pl.Nd} (hC : C.Pairwise (fun a b => a.path ≠ b.path)) (h : ∀ z, (mapOf C).atKey (key p) z = dat c) : c ∈ C ∧ p = c.path := by
  by_cases hp : ∃ n ∈ C, n.path = p
  · obtain ⟨n, hn, rfl⟩ := hp
    have e := (at_yes hC hn).2 (dat c)
    rw [h] at e
    have e2 := dat_inj e
    subst e2
    exact ⟨hn, rfl⟩
  · exfalso
    have hm : ∀ n ∈ C, n.path ≠ p := fun n hn e => hp ⟨n, hn, e⟩
    have h1 := (mapOf_miss p C (.map []) hm).2
    have a : ∀ z, dat c = z := fun z => by rw [← h z]; exact h1 z
    have a1 := a (dat ⟨p, c.kind + 1, p, 0, 0⟩)
    have a2 := dat_inj a1
    have a3 := congrArg Pl.Nd.kind a2
    simp only at a3
    omega
theorem reads_mapOf {C : List Pl.Nd} (hC : C.Pairwise (fun a b => a.path ≠ b.path)) : Reads (mapOf C) C := ⟨fun _ hn => (at_yes hC hn).1, fun _ _ h => entry_in hC h⟩
theorem got_step {C T : List Pl.Nd} {left : Lit → Bool} {c : Pl.Nd} (hC : C.Pairwise (fun a b => a.path ≠ b.path)) (h : Got C T left) (hc : c ∈ C) (hl : left (key c.path) = true) : Got C (T ++ [c]) (fun z => left z && !z.sameKey (key c.path)) := by
  have same : (key c.path).sameKey (key c.path) = true := by simp [key, Lit.sameKey]
  refine ⟨fun t ht => ?_, ?_, fun t ht => ?_, fun n hn hf => ?_⟩
  · rcases List.mem_append.1 ht with ht | ht
    · exact h.sub t ht
    · simp at ht; subst ht; exact hc
  · rw [List.pairwise_append]
    refine ⟨h.apart, List.pairwise_singleton _ _, fun a ha b hb e => ?_⟩
    simp at hb; subst hb
    have := h.seen a ha
    rw [e, hl] at this; cases this
  · rcases List.mem_append.1 ht with ht | ht
    · show (left (key t.path) && _) = false
      rw [h.seen t ht]; rfl
    · simp at ht; subst ht
      show (left (key t.path) && !(key t.path).sameKey (key t.path)) = false
      rw [same]; simp
  · by_cases e : n.path = c.path
    · rw [one_apart hC hn hc e]; simp
    · refine List.mem_append.2 (.inl (h.all n hn ?_))
      have hs := sameKey_ne (key_ne e)
      have hf' : (left (key n.path) && !(key n.path).sameKey (key c.path)) = false := hf
      rw [hs] at hf'
      simpa using hf'
theorem got_end {C T : List Pl.Nd} {left : Lit → Bool} (hC : C.Pairwise (fun a b => a.path ≠ b.path)) (h : Got C T left) (hl : ∀ k, left k = false) : T.Perm C := by
  refine (List.perm_ext_iff_of_nodup (h.apart.imp (fun {a b} hne e => hne (by rw [e]))) (hC.imp (fun {a b} hne e => hne (by rw [e])))).2 fun x => ⟨h.sub x, fun hx => h.all x hx (hl _)⟩
end MapN
namespace WRising
theorem infoN : (Tryz.prog.info? 36).map (fun i => (i.zero, i.size, i.bytes)) = some (some (.agg #[.string ⟨#[]⟩, .int .i64 0, .string ⟨#[]⟩, .int .i64 0, .int .i64 0]), 5, 56) := by kernel_rfl
def zeros (n : Nat) : Array Value := madeCells (Value.agg #[.string ⟨#[]⟩, .int .i64 0, .string ⟨#[]⟩, .int .i64 0, .int .i64 0]).cells (n * 5)
theorem makeC (n : Nat) (hn : n ≤ 1048576) (w : World) : (Instr.makeSlice 29 (.int .i64 0) (.int .i64 (n : Int))).run Tryz.prog w = .ok (.slice (some ⟨w.heap.size, 0, none⟩) 0 n) (w.alloc (.cells (zeros n) 36)) := by
  obtain ⟨i0, h0, h1, h2, h3⟩ := info_parts infoN
  have h := run_make (P := Tryz.prog) w 29 36 i0 (.agg #[.string ⟨#[]⟩, .int .i64 0, .string ⟨#[]⟩, .int .i64 0, .int .i64 0]) Tryz.underlying29 h0 h1 .i64 .i64 0 (n : Int) (by omega) (by omega) (by rw [h3]; omega) (by omega)
  rw [h, h2]
  simp [zeros]
theorem iter_at {w : World} {B r n : Nat} {D : DataW Unit} {left : Lit → Bool} {cnt : Nat} (h : w.ranges Tryz.prog 9 MapN.elem B r n D left cnt) {g : Nat} {cs : Array Value} {T : TypeId} (hg : w.heap[g]? = some (.cells cs T (0, 0))) : g ≠ r ∧ g ≠ B := by
  obtain ⟨es, clock, since, seen, c0, h1, _, _, _, h2, _⟩ := h
  refine ⟨fun e => ?_, fun e => ?_⟩
  · subst e; rw [hg] at h2; cases h2
  · subst e; rw [hg] at h1; cases h1
theorem own_not {w : World} {B r n Bs : Nat} {D : DataW Unit} {left : Lit → Bool} {cnt : Nat} {v : Value} {T : List Pl.Nd} (h : w.ranges Tryz.prog 9 MapN.elem B r n D left cnt) (ho : Mem.ownN w Bs v T) : ∀ g, v.ownBlock = some g → g ≠ r ∧ g ≠ B := by
  intro g hg
  rcases ho.2 with ⟨rfl, _⟩ | ⟨g', cap, cur, rfl, _, hh, _⟩
  · cases hg
  · cases hg; exact iter_at h hh
/-- .. the sort, whatever row it is. -/
theorem sort_own (v : Value) (B : Nat) (T : List Pl.Nd) (w : World) (hp : ∀ t ∈ T, Pl.pathB t.path = true) (hl : T.length ≤ 1048576) (hown : Mem.ownN w B v T) :
    Calls Tryz.prog 86 #[v, .func (.func 87) #[] #[]] w fun e w' => e = .returned (.tuple #[]) ∧
      ∃ S : List Pl.Nd, S.Perm T ∧ S.Pairwise (fun a b => Pl.ltP b.path a.path = false) ∧ Mem.ownN w' B v S ∧ w.grownBy w' v.ownBlock := by
  rcases hown.2 with ⟨rfl, h0⟩ | ⟨g, cap, cur, rfl, rest⟩
  · have : T = [] := List.length_eq_zero_iff.1 h0
    subst this
    refine Calls.mono (AnyF.slices_SortFunc_none (P := Tryz.prog) LaySort.lay none 0 (.func (.func 87) #[] #[]) w) ?_
    rintro e w' ⟨he, rfl⟩
    exact ⟨he, [], List.Perm.refl _, List.Pairwise.nil, hown, ⟨rfl, rfl, rfl, Nat.le_refl _, fun _ _ _ => rfl⟩⟩
  · exact WOrder.sort_any g cap B T w hp hl hown
set_option maxRecDepth 100000 in
set_option maxHeartbeats 2000000 in
theorem any (B N : Nat) (C L : List Pl.Nd) (D : DataW Unit) (w : World) (hown : w.ownsMap Tryz.prog 9 MapN.elem B N D) (hN : N ≤ 1000) (hD : MapN.Reads D C) (hC : C.Pairwise (fun a b => a.path ≠ b.path)) (hperm : L.Perm C) (hr : L.Pairwise (fun a b => Pl.ltP a.path b.path = true))
    (hok : ∀ n ∈ C, Pl.pathB n.path = true ∧ n.data.size ≤ 1048576) :
    Calls Tryz.prog 45 #[.map (some B)] w fun e w' => ∃ v, e = .returned v ∧ Mem.ownN w' w.heap.size v L ∧ Below w.heap.size w w' := by
  obtain ⟨i0, hi, hz0, hz1, hz2⟩ := info_parts infoN
  have hsz := hown.size_le
  have hmk := makeC (Maps.size D) (by omega) w
  have hbl := hown.lt
  have e1 : (w.alloc (.cells (zeros (Maps.size D)) 36)).heap.size = w.heap.size + 1 := by simp
  have OW0 : Hid (Mem.ownN (w.alloc (.cells (zeros (Maps.size D)) 36)) w.heap.size (.slice (some ⟨w.heap.size, 0, none⟩) 0 (Maps.size D)) []) :=
    ⟨rfl, .inr ⟨w.heap.size, _, _, rfl, Nat.le_refl _, heap_alloc_new _ _, Nat.zero_le _, by unfold maxLen; omega, size_madeCells _ _, rfl⟩⟩
  have HG0 := hide (MapN.got_start hD)
  have HC := hide hC
  have HOK := hide hok
  have HEND : Hid (∀ S T : List Pl.Nd, T.Perm C → S.Perm T → S.Pairwise (fun a b => Pl.ltP b.path a.path = false) → S = L) := fun S T h1 h2 h3 =>
    Pl.sorted_one ((h2.trans h1).trans hperm.symm) (fun n hn => (hok n (hperm.mem_iff.1 hn)).1) hr h3
  have HM := hide hown
  clear hown hr hperm hC hok
  have HENT := hide hD.ent
  clear hD
  go_enter Tryz.func45, Tryz.ntmps45
  go_wp2_with (first
    | (at_len; refine wpList_len_own _ rfl _ 74 rfl 9 36 Tryz.underlying74 _ B N D rfl (unhide HM) ?_)
    | (at_range; refine wpList_range_own _ rfl _ 74 rfl 9 36 MapN.law Tryz.underlying74 _ B N _ rfl ((unhide HM).alloc _) ?_; intro w0 hrg0 hg0 hs0)
    | go_in)
  go_frame
  rw [e1] at hrg0 hs0 ⊢
  have OW1 := hide (Mem.ownN_grown (unhide OW0) hg0 (fun _ _ => by simp))
  have B1 := hide (((Below.refl w.heap.size w).alloc (Nat.le_refl _) _).grown hg0 (by simp) (fun j hj => by cases hj))
  clear hg0 hs0 OW0 hmk e1
  go_loopw [3] (fun v wr => ∃ (left : Lit → Bool) (cnt : Nat) (T : List Pl.Nd), wr.ranges Tryz.prog 9 MapN.elem B (w.heap.size + 1) N D left cnt ∧ T.length + cnt ≤ Maps.size D ∧ Hid (Mem.ownN wr w.heap.size v T) ∧ Hid (MapN.Got C T left) ∧ Hid (Below w.heap.size w wr))
    (fun _ wr => wr.rangeLeft B (w.heap.size + 1))
  case atStart => exact ⟨_, _, [], hrg0, by simp, OW1, HG0, B1⟩
  case round =>
    obtain ⟨left, cnt, T, hrg, hcs, HOW, HGT, HB⟩ := hrel
    have HNT := hide (own_not hrg (unhide HOW))
    clear hrg0 OW1 B1 HG0
    go_wp2_with (first
      | (at_next; refine wpList_next_ranges _ rfl _ rfl 9 MapN.law MapN.elem (Value.string) (Pl.Nd.val) (fun key kl hk => Maps.keyOf_string_inv Tryz.underlying9 hk) (fun v y hv => by obtain ⟨d, ps⟩ := y; obtain ⟨n, hn, _⟩ := MapN.elem_inv hv; exact ⟨n, hn⟩) B (w.heap.size + 1) N _ _ _ rfl hrg ?_ ?_)
      | go_in)
    · intro hc0 hl0
      have hp := hide (MapN.got_end (unhide HC) (unhide HGT) hl0)
      have hs := hide (sort_own u3 w.heap.size T wr (fun t ht => (unhide HOK t ((unhide HGT).sub t ht)).1) (by omega) (unhide HOW))
      have HLW := hide (Mem.ownN_lt (unhide HOW))
      clear HOW HGT HNT hrg hc0 hl0 HENT
      go_wp2_with fail
      refine (unhide hs).mono ?_
      rintro e w2 ⟨rfl, S, h1, h2, h3, h4⟩
      have eS := unhide HEND S T (unhide hp) h1 h2
      subst eS
      have bw := (unhide HB).grown h4 (unhide HB).size (fun q hq => (unhide HLW q hq).1)
      have O2 := hide h3
      clear hs h1 h2 h3 h4 hp HEND
      go_wp2
      go_ret
      exact ⟨u3, rfl, unhide O2, bw⟩
    · intro x c kl yd yp w1 cnt1 hkey hlk hR hat hrg1 hlt hg1 hs1 hen
      have ek : kl = MapN.key x := MapN.keyOf_inv hkey
      have ey : yd = MapN.dat c := by rw [MapN.elem_mk] at hR; cases hR; rfl
      subst ek ey
      obtain ⟨hcC, rfl⟩ := unhide HENT x c hat
      have HG2 := hide (MapN.got_step (unhide HC) (unhide HGT) hcC hlk)
      have hok := unhide HOK c hcC
      have hc := hide (fun W => WCopied.any c W (by have := Pl.pathB_le hok.1; omega) hok.2)
      have HRG1 := hide hrg1
      have OW1 := Mem.ownN_grown (unhide HOW) hg1 (fun g hg e => by cases e; exact (unhide HNT _ hg).1 rfl)
      have B1 := (unhide HB).grown hg1 (unhide HB).size (fun q hq => by cases hq; omega)
      have HLE := hide (hrg.left_eq)
      clear hat hR hkey hlk hok hcC HGT HOW HB hg1 hs1 hrg1 hrg HENT HNT
      obtain ⟨p, k0, d, t, m⟩ := c
      simp only [Pl.Nd.val] at hen hc HG2 HRG1 ⊢
      have OWD := Mem.ownN_alloc OW1 (.cells #[.string p, .int .i64 k0, .string d, .int .i64 t, .int .i64 m] 36)
      have bW := B1.alloc B1.size (.cells #[.string p, .int .i64 k0, .string d, .int .i64 t, .int .i64 m] 36)
      have hsW : w.heap.size ≤ w1.heap.size := B1.size
      clear OW1 B1
      go_wp2_with fail
      refine (unhide hc _).mono ?_
      rintro e wC ⟨rfl, bC⟩
      have OWC := Mem.ownN_call OWD bC
      have bX := bW.trans (bC.mono bW.size)
      have HLT := hide (Mem.ownN_lt OWC)
      have HRC := hide (((unhide HRG1).alloc (.cells #[.string p, .int .i64 k0, .string d, .int .i64 t, .int .i64 m] 36)).kept (Mem.grown_of_below bC none) (by simp) (by simp))
      have HNC := hide (own_not (unhide HRC) OWC)
      have hsX := bX.size
      clear OWD bW bC hc HRG1 hen
      go_wp2_with (at_builtin; refine wpList_append_own _ rfl _ _ 29 rfl w.heap.size 36 i0 _ 5 56 Tryz.underlying29 hi hz0 hz1 hz2 rfl (by decide) _ _ _ rfl (Mem.ownN_alloc OWC _) ⟨wC.heap.size, 0, none⟩ 1 1 [.string p, .int .i64 k0, .string d, .int .i64 t, .int .i64 m] rfl rfl (Mem.cs_new wC ⟨p, k0, d, t, m⟩ _) (Mem.cs_one ⟨p, k0, d, t, m⟩) (by unfold maxLen; omega) (by omega) (by simp; omega) ?_)
      intro v'' wZ hownZ hgrow _
      have OWZ := hide (Mem.ownN_snoc (L := T) (n := ⟨p, k0, d, t, m⟩) hownZ)
      have HRZ := hide (((unhide HRC).alloc (.cells #[.string p, .int .i64 k0, .string d, .int .i64 t, .int .i64 m] 36)).kept hgrow (fun e => (unhide HNC _ e.symm).2 rfl) (fun e => (unhide HNC _ e.symm).1 rfl))
      have bZ := hide ((bX.alloc bX.size (.cells #[.string p, .int .i64 k0, .string d, .int .i64 t, .int .i64 m] 36)).grown hgrow (by have := bX.size; simp; omega) (fun q hq => (unhide HLT q hq).1))
      clear hownZ hgrow OWC bX HRC HNC HLT
      go_wp2
      go_roundw
      case rel => exact ⟨_, cnt1, T ++ [⟨p, k0, d, t, m⟩], unhide HRZ, by simp; omega, OWZ, HG2, bZ⟩
      case measure => rw [(unhide HRZ).left_eq, unhide HLE]; exact hlt
end WRising
end Go.Proofs.YtepmojmelcngeaaGreatDoor

/- The walk of a route's under. -/
namespace Go.Proofs.YtepmojmelcngeaaGreatDoor
open Go.RowKit
namespace WUnder
set_option maxRecDepth 100000 in
set_option maxHeartbeats 400000 in
theorem under_any (v u : Value) (A B : List ByteArray) (w : World) (hA : A.length ≤ 1000) (hB : B.length ≤ 1000) (hv : Mem.isTexts w v A) (hu : Mem.isTexts w u B) :
    Calls Tryz.prog 139 #[v, u] w fun e w' => e = .returned (.bool (Pl.underR A B)) ∧ w' = w := by
  obtain ⟨va, vc, rfl⟩ : ∃ a cap, v = .slice a A.length cap := by
    rcases hv with ⟨rfl, rfl⟩ | ⟨b, o, cap, rfl, _⟩ <;> exact ⟨_, _, rfl⟩
  obtain ⟨ua, uc, rfl⟩ : ∃ a cap, u = .slice a B.length cap := by
    rcases hu with ⟨rfl, rfl⟩ | ⟨b, o, cap, rfl, _⟩ <;> exact ⟨_, _, rfl⟩
  by_cases hlen : A.length < B.length
  · have E := hide (Pl.underR_short hlen)
    have t1 : (A.length : Int) < (B.length : Int) := by omega
    go_enter Tryz.func139, Tryz.ntmps139
    go_wp2
    go_ret
    exact ⟨ret_bool (unhide E).symm, rfl⟩
  have t1 : ¬ (A.length : Int) < (B.length : Int) := by omega
  by_cases h0 : B = []
  · subst h0
    have E : Hid (Pl.underR A [] = true) := (Pl.underR_iff A []).2 (fun j t h => by simp at h)
    go_enter Tryz.func139, Tryz.ntmps139
    go_wp2
    go_loop [14] (fun i => i = .int .i64 0) (fun _ => 0)
    case atStart => rfl
    case round =>
      subst hrel
      go_wp2
      go_ret
      exact ⟨ret_bool (unhide E).symm, rfl⟩
  rcases hu with ⟨_, rfl⟩ | ⟨b, o, cap, hv1, hb, hcb⟩
  · exact absurd rfl h0
  rcases hv with ⟨_, rfl⟩ | ⟨b', o', cap', hv2, hb', hca⟩
  · exact absurd (List.length_pos_iff.2 h0) (by simp at hlen; simp [hlen])
  cases hv1
  cases hv2
  have HA := hide hca
  have HB := hide hcb
  clear hca hcb
  have HT : Hid ((∀ (j : Nat) t, B[j]? = some t → A[j]? = some t) → Pl.underR A B = true) := fun h => (Pl.underR_iff A B).2 h
  have HF : Hid (∀ (j : Nat) a b, A[j]? = some a → B[j]? = some b → a ≠ b → Pl.underR A B = false) := fun j a b h1 h2 h3 => Pl.underR_not h1 h2 h3
  generalize Pl.underR A B = R at HT HF ⊢
  go_enter Tryz.func139, Tryz.ntmps139
  go_wp2
  go_loop [14] (fun i => ∃ k : Nat, k ≤ B.length ∧ i = .int .i64 (k : Int) ∧ Hid (∀ (j : Nat) t, j < k → B[j]? = some t → A[j]? = some t)) (fun i => B.length - (intOf i).toNat)
  case atStart => exact ⟨0, Nat.zero_le _, rfl, fun j t h => absurd h (by omega)⟩
  case round =>
    obtain ⟨k, hk, rfl, HS⟩ := hrel
    by_cases hlt : k < B.length
    · obtain ⟨y, hy⟩ : ∃ y, B[k]? = some y := ⟨_, List.getElem?_eq_getElem hlt⟩
      obtain ⟨x, hx⟩ : ∃ x, A[k]? = some x := ⟨_, List.getElem?_eq_getElem (by omega)⟩
      have hc1 := HB.out k y hy
      have hc2 := HA.out k x hx
      have hkA : k < A.length := by omega
      by_cases hxy : x = y
      · have t2 := Pl.eq_lists hxy
        have HS2 : Hid (∀ (j : Nat) t, j < k + 1 → B[j]? = some t → A[j]? = some t) := fun j t' hj h' => by
          rcases Nat.lt_succ_iff_lt_or_eq.1 hj with h'' | rfl
          · exact HS.out j t' h'' h'
          · rw [hy] at h'; cases h'; rw [hx, hxy]
        clear hx hy HS hxy
        go_wp2
        go_round
        case rel => exact ⟨k + 1, by omega, by go_num, HS2⟩
        case measure => simp [intOf]; omega
      · have t2 := Pl.ne_lists hxy
        have E := hide (HF.out k x y hx hy hxy)
        clear hx hy HS hxy
        go_wp2
        go_ret
        exact ⟨ret_bool (unhide E).symm, rfl⟩
    · have E := hide (HT.out (fun j t h => HS.out j t (by have := (List.getElem?_eq_some_iff.1 h).1; omega) h))
      go_wp2
      go_ret
      exact ⟨ret_bool (unhide E).symm, rfl⟩
end WUnder
end Go.Proofs.YtepmojmelcngeaaGreatDoor

