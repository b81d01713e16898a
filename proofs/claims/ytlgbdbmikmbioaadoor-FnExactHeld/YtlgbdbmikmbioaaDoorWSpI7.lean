/- The program's instsOf. -/
import Derived.Test.YtlgbdbmikmbioaaDoorG24
import Derived.Test.YtlgbdbmikmbioaaDoorPlainNr
import Derived.Test.YtlgbdbmikmbioaaDoorG13
import Derived.Test.YtlgbdbmikmbioaaDoorWLawSz
import Derived.Test.YtlgbdbmikmbioaaDoorG29
import Derived.Deep.Cut
namespace Go.Proofs.YtlgbdbmikmbioaaDoor
open Go.RowKit Go.Maps
namespace WSpI
/-- What instsOf answers. -/
def Insted (w : World) (N : List Pl.Ns) (RB : Bool) (e : Ending) (w' : World) : Prop :=
  (RB = true ∧ ∃ q E, e = .returned (.tuple #[.map (some q), .bool true]) ∧ w.heap.size ≤ q ∧ E.map (·.1) = N.map (·.d) ∧ w'.ownsMap Tryd.prog 2 MapI.elem q 12 (MapI.mapOf (Pl.vals E)) ∧ Mem.nestsV w' (w.heap.size + 2) E N ∧ q < w.heap.size + 2) ∨
  (RB = false ∧ e = .returned (.tuple #[.map none, .bool false]))
theorem rise_apart {l : List Int} {next : Int} (h : ∀ k, k < l.length → Pl.riseB l next k = true) : l.Pairwise (· < ·) := by
  rw [List.pairwise_iff_getElem]
  have h1 := (Pl.rise_iff l next).1 h
  intro i j hi hj hij
  induction j with
  | zero => omega
  | succ j ih =>
    have h2 := (h1 (j + 1) l[j + 1] (List.getElem?_eq_getElem hj)).2 j (l[j]'(by omega)) rfl (List.getElem?_eq_getElem (by omega))
    by_cases e : i = j
    · subst e; exact h2
    · have := ih (by omega) (by omega)
      omega
theorem inst_apart {N : List (Int × Bool)} {next : Int} {k : Nat} (hk : k ≤ N.length) (h : ∀ j, j < k → Pl.instP N next j = true) : ((N.map (·.1)).take k).Pairwise (· < ·) := by
  refine rise_apart (next := next) fun j hj => ?_
  rw [List.length_take, List.length_map] at hj
  have ht : N[j]? = some N[j] := List.getElem?_eq_getElem (by omega)
  have h1 := h j (by omega)
  simp only [Pl.instP, ht, Bool.and_eq_true] at h1
  have h2 := h1.2
  have hl : Pl.lastI ((N.map (·.1)).take k) j = Pl.lastI (N.map (·.1)) j := by
    cases j with
    | zero => rfl
    | succ j => simp only [Pl.lastI]; rw [List.getElem?_take, if_pos (by omega)]
  unfold Pl.riseB at h2 ⊢
  rw [hl, List.getElem?_take, if_pos (by omega)]
  exact h2
set_option linter.unusedSimpArgs false in
set_option maxRecDepth 100000 in
set_option maxHeartbeats 4000000 in
theorem insts_any (s : Pl.Sp) (w : World) (hok : WLawSp.OkS s 1048576) (hcap : ∀ x ∈ s.N, x.Is.length ≤ x.cap) (hv : Mem.isInsts w s.ia s.N) (hl : s.N.length ≤ 12) (hn : s.next ≤ 1000000)
    (r0 r1 r2 r3 : TypeId) (x0 x1 x2 x3 : Value) (hE : WNestI.Errs4 w r0 r1 r2 r3 x0 x1 x2 x3) :
    Calls Tryd.prog 39 #[.agg s.cs] w fun e w' => Insted w s.N (Pl.instsP (s.N.map WSp.nr) s.next) e w' ∧ Below w.heap.size w w' := by
  obtain ⟨ia, ic, N, ma, mc, M, ha, hc, H, next⟩ := s
  simp only at hcap hv hl hn ⊢
  have HN := hide (fun W (b : Below w.heap.size w W) (x : Pl.Ns) (hx : x ∈ N) (h : Mem.isItems W x.a x.Is) => WNestX.nest_any x.a x.cap x.Is W (hok.each x hx).1 (hcap x hx) h (hok.each x hx).2 r0 r1 r2 r3 x0 x1 x2 x3 (hE.call b))
  have HV := hide hv
  unfold Pl.Sp.cs
  simp only
  have b0 : Below w.heap.size w ((w.alloc (.cells #[.slice ia N.length ic, .slice ma M.length mc, .slice ha H.length hc, .int .i64 next] 33)).alloc (.map #[] 0)) := ((Below.refl _ _).alloc (Nat.le_refl _) _).alloc (by simp) _
  have V0 := hide ((Mem.Blk.new w #[.slice ia N.length ic, .slice ma M.length mc, .slice ha H.length hc, .int .i64 next] 33).alloc (.map #[] 0))
  have M0 : Hid (((w.alloc (.cells #[.slice ia N.length ic, .slice ma M.length mc, .slice ha H.length hc, .int .i64 next] 33)).alloc (.map #[] 0)).ownsMap Tryd.prog 2 MapI.elem (w.heap.size + 1) 0 (MapI.mapOf (Pl.vals []))) := hide (by
    have h := World.ownsMap_made (w.alloc (.cells #[.slice ia N.length ic, .slice ma M.length mc, .slice ha H.length hc, .int .i64 next] 33)) Tryd.prog 2 MapI.elem
    rw [show (w.alloc (.cells #[.slice ia N.length ic, .slice ma M.length mc, .slice ha H.length hc, .int .i64 next] 33)).heap.size = w.heap.size + 1 by simp] at h
    exact h)
  have a0 := (unhide V0).cell 0
  simp only [kA0, kA1, kA2] at a0
  have HR1 : Hid (Pl.instsP (N.map WSp.nr) next = (List.range N.length).all (Pl.instP (N.map WSp.nr) next)) := hide (by unfold Pl.instsP; rw [List.length_map])
  generalize Pl.instsP (N.map WSp.nr) next = RB at HR1 ⊢
  clear hok hcap hv hE
  have hmm := @run_makeMap Tryd.prog
  go_enter Tryd.func39, Tryd.ntmps39
  go_wp2
  go_loopw [5, 14] (fun l i wr => ∃ (k : Nat) (E : List (Int × Pl.Nv)), k ≤ N.length ∧ i = .int .i64 (k : Int) ∧ l = .int .i64 (Pl.lastI (N.map (·.d)) k) ∧ Below w.heap.size w wr ∧ Hid (Mem.Blk wr w.heap.size #[.slice ia N.length ic, .slice ma M.length mc, .slice ha H.length hc, .int .i64 next] 33) ∧ Hid (wr.ownsMap Tryd.prog 2 MapI.elem (w.heap.size + 1) k (MapI.mapOf (Pl.vals E))) ∧ Hid (E.map (·.1) = (N.map (·.d)).take k) ∧ Hid (Mem.nestsV wr (w.heap.size + 2) E N) ∧ Hid (∀ j, j < k → Pl.instP (N.map WSp.nr) next j = true)) (fun _ i _ => N.length - (intOf i).toNat)
  case atStart => exact ⟨0, [], Nat.zero_le _, rfl, rfl, b0, V0, M0, hide (by simp), fun i y h => (by simp at h), fun j h => absurd h (by omega)⟩
  case round =>
    obtain ⟨k, E, hk, rfl, rfl, hbel, V, MO, HEI, NS, HA⟩ := hrel
    clear V0 b0 a0 M0
    by_cases hlt : k < N.length
    · obtain ⟨t, ht⟩ : ∃ n, N[k]? = some n := ⟨_, List.getElem?_eq_getElem hlt⟩
      obtain ⟨⟨g, o, rfl, hg, q0, q1⟩, q2⟩ := (unhide HV) k t ht
      have HNO : Hid (Pl.instP (N.map WSp.nr) next k = false → RB = false) := hide (fun h => by rw [unhide HR1]; exact Pl.all_no hlt h)
      have HSTEP : Hid (Pl.instP (N.map WSp.nr) next k = ((Pl.nest (Pl.rowO (t.Is.map Pl.It.r))).isSome && (decide (Pl.lastI (N.map (·.d)) k < t.d) && decide (t.d < next)))) := hide (by
        unfold Pl.instP Pl.riseB
        rw [List.getElem?_map, ht, List.map_map]
        have e : (Prod.fst ∘ WSp.nr) = fun x : Pl.Ns => x.d := rfl
        rw [show ((fun x : Int × Bool => x.1) ∘ WSp.nr) = fun x : Pl.Ns => x.d from rfl, List.getElem?_map, ht]
        rfl)
      have HLAST : Hid (Pl.lastI (N.map (·.d)) (k + 1) = t.d) := hide (by
        show (match (N.map (·.d))[k]? with | none => 0 | some x => x) = _
        rw [List.getElem?_map, ht]
        rfl)
      generalize Pl.lastI (N.map (·.d)) k = L at HSTEP ⊢
      have u1 : (k : Int) < (N.length : Int) := by omega
      have u3 : (0 : Int) ≤ (k : Int) := by omega
      have b2 : Below wr.heap.size wr (wr.alloc (.cells #[.int .i64 t.d, .slice t.a t.Is.length t.cap] 72)) := (Below.refl _ _).alloc (Nat.le_refl _) _
      have hbel2 := hbel.trans (b2.mono hbel.size)
      have c0 := (hbel.cell (p := ⟨g, _, none⟩) hg).trans q0
      have c1 := (hbel.cell (p := ⟨g, _, none⟩) hg).trans q1
      have X2 := hide (Mem.Blk.new wr #[.int .i64 t.d, .slice t.a t.Is.length t.cap] 72)
      have V2 := hide ((unhide V).call b2)
      have M2 := hide (MapI.map_call (unhide MO) b2)
      have N2 := hide ((unhide NS).call b2)
      have hlo : w.heap.size + 2 ≤ wr.heap.size := by have := (unhide MO).lt; omega
      have HC := hide (unhide HN _ hbel2 t (List.mem_of_getElem? ht) (Mem.items_call q2 hbel2))
      have HT := hide ht
      clear q0 q1 q2 V MO NS ht
      go_upto_region 6 with fail
      have hlo2 : w.heap.size + 2 ≤ (wr.alloc (.cells #[.int .i64 t.d, .slice t.a t.Is.length t.cap] 72)).heap.size := Nat.le_trans hlo b2.size
      generalize wr.alloc (.cells #[.int .i64 t.d, .slice t.a t.Is.length t.cap] 72) = wZ at hbel2 V2 X2 M2 N2 HC hlo2 ⊢
      generalize wr.heap.size = X at X2 ⊢
      have y0 := (unhide X2).cell 0
      have y1 := (unhide X2).cell 1
      simp only [kA0, kA1, kA2] at y0 y1
      clear hbel c0 c1 b2 hlo
      go_wp2_with fail
      refine (unhide HC).mono ?_
      rintro e w3 ⟨hN, bX⟩
      have b3 := hbel2.trans (bX.mono hbel2.size)
      have V3 := hide ((unhide V2).call bX)
      have X3 := hide ((unhide X2).call bX)
      have M3 := hide (MapI.map_call (unhide M2) bX)
      have N3 := hide ((unhide N2).call bX)
      clear HC y0 y1 V2 X2 M2 N2 hbel2
      rcases hN with ⟨L', kx, q', a', cap', hsome, rfl, hnest⟩ | ⟨hnone, r, x, rfl, -⟩
      · have hs3 : wZ.heap.size ≤ w3.heap.size := bX.size
        have NV : Hid (Mem.nestV w3 (w.heap.size + 2) ⟨some q', kx.len, a', cap'⟩ (t.Is.map Pl.It.r)) := hide (by
          obtain ⟨⟨⟨h1, h2⟩, h3⟩, h4, h5⟩ := hnest
          exact ⟨L', kx, q', rfl, rfl, ⟨⟨Nat.le_trans hlo2 h1, h2⟩, h3⟩, h4, Mem.layX_weak h5 (fun b hb _ => Nat.le_trans hlo2 hb)⟩)
        rw [hsome] at HSTEP
        generalize kx.len = kn at NV ⊢
        clear hnest hsome bX
        have b5 := b3.alloc (o := .cells #[.map (some q'), .int .i64 (kn : Int), .slice a' kn cap'] 96) b3.size
        have bA : Below w3.heap.size w3 (w3.alloc (.cells #[.map (some q'), .int .i64 (kn : Int), .slice a' kn cap'] 96)) := (Below.refl _ _).alloc (Nat.le_refl _) _
        have V5 := hide ((unhide V3).call bA)
        have X5 := hide ((unhide X3).call bA)
        have M5 := hide (MapI.map_call (unhide M3) bA)
        have N5 := hide ((unhide N3).call bA)
        have NV5 := hide ((unhide NV).call bA)
        have Y5 := hide (Mem.Blk.new w3 #[.map (some q'), .int .i64 (kn : Int), .slice a' kn cap'] 96)
        have hY := (unhide M3).lt
        go_upto_region 7 with fail
        generalize w3.alloc (.cells #[.map (some q'), .int .i64 (kn : Int), .slice a' kn cap'] 96) = wY at b5 V5 X5 M5 N5 NV5 Y5 ⊢
        generalize w3.heap.size = Y at Y5 ⊢
        have y0 := (unhide X5).cell 0
        have y1 := (unhide X5).cell 1
        have v3 := (unhide V5).cell 3
        have z0 := (unhide Y5).cell 0
        have z1 := (unhide Y5).cell 1
        have z2 := (unhide Y5).cell 2
        simp only [kA0, kA1, kA2] at y0 y1 v3 z0 z1 z2
        clear V3 X3 M3 N3 NV bA b3
        by_cases h1 : t.d ≤ L
        · have HE0 : Hid (RB = false) := hide (unhide HNO (by rw [unhide HSTEP, decide_eq_false (by omega : ¬ L < t.d)]; simp))
          go_wp2
          go_ret2
          exact ⟨Or.inr ⟨unhide HE0, rfl⟩, b5⟩
        by_cases h2 : next ≤ t.d
        · have HE0 : Hid (RB = false) := hide (unhide HNO (by rw [unhide HSTEP, decide_eq_false (by omega : ¬ t.d < next)]; simp))
          go_wp2
          go_ret2
          exact ⟨Or.inr ⟨unhide HE0, rfl⟩, b5⟩
        rw [decide_eq_true (by omega : L < t.d), decide_eq_true (by omega : t.d < next)] at HSTEP
        have HA2 : Hid (∀ j, j < k + 1 → Pl.instP (N.map WSp.nr) next j = true) := fun j hj => by
          rcases Nat.lt_succ_iff_lt_or_eq.1 hj with h | h
          · exact unhide HA j h
          · rw [h, unhide HSTEP]; rfl
        have hlow : MapI.i64 t.d := by
          have hp := Pl.rise_pos (l := (N.map (·.d)).take (k + 1)) (next := next) (fun j hj => by
            rw [List.length_take, List.length_map] at hj
            have h3 := unhide HA2 j (by omega)
            have ht : N[j]? = some N[j] := List.getElem?_eq_getElem (by omega)
            unfold Pl.instP at h3
            rw [List.getElem?_map, ht] at h3
            simp only [Option.map_some, Bool.and_eq_true] at h3
            have h4 := h3.2
            rw [List.map_map, show ((fun x : Int × Bool => x.1) ∘ WSp.nr) = fun x : Pl.Ns => x.d from rfl] at h4
            have hl : Pl.lastI ((N.map (·.d)).take (k + 1)) j = Pl.lastI (N.map (·.d)) j := by
              cases j with
              | zero => rfl
              | succ j => simp only [Pl.lastI]; rw [List.getElem?_take, if_pos (by omega)]
            unfold Pl.riseB at h4 ⊢
            rw [hl, List.getElem?_take, if_pos (by omega)]
            exact h4) k t.d (by rw [List.getElem?_take, if_pos (by omega), List.getElem?_map, unhide HT]; rfl)
          unfold MapI.i64
          omega
        have hkey := MapI.keyOf_mk hlow
        have hEl : Hid (E.length = k) := hide (by
          have := congrArg List.length (unhide HEI)
          rw [List.length_map, List.length_take, List.length_map] at this
          omega)
        have HEI2 : Hid ((E ++ [(t.d, (⟨some q', kn, a', cap'⟩ : Pl.Nv))]).map (·.1) = (N.map (·.d)).take (k + 1)) := hide (by
          rw [List.map_append, unhide HEI, List.take_add_one, List.getElem?_map, unhide HT]
          rfl)
        have HPUT : Hid ((MapI.mapOf (Pl.vals E)).put (MapI.key t.d) (MapI.dat (.agg #[.map (some q'), .int .i64 (kn : Int), .slice a' kn cap'])) = MapI.mapOf (Pl.vals (E ++ [(t.d, (⟨some q', kn, a', cap'⟩ : Pl.Nv))]))) := hide (by
          show _ = MapI.mapOf ((E ++ [(t.d, (⟨some q', kn, a', cap'⟩ : Pl.Nv))]).map (fun x => (x.1, x.2.val)))
          rw [List.map_append]
          exact (MapI.mapOf_snoc (Pl.vals E) (t.d, .agg #[.map (some q'), .int .i64 (kn : Int), .slice a' kn cap'])).symm)
        have hXn : Hid (X ≠ w.heap.size + 1) := hide (fun e => by
          obtain ⟨es, cl, h9, _⟩ := unhide M5
          rw [← e] at h9
          have h8 := unhide X5
          unfold Mem.Blk at h8
          rw [h8] at h9
          cases h9)
        clear HSTEP HNO
        go_wp2_with (first | (at_mapUpdate; refine wpList_mapUpdate_own _ rfl _ _ _ 46 rfl 2 96 MapI.law Tryd.underlying46 _ (w.heap.size + 1) k _ rfl (unhide M5) (by unfold maxLen; omega) _ _ _ rfl rfl hkey _ [] (MapI.elem_mk (.agg #[.map (some q'), .int .i64 (kn : Int), .slice a' kn cap'])) ?_; intro wD hownD hgrowD; have cD := hgrowD.cell y0 (fun e => unhide hXn (Option.some.inj e)); have M6 := hide hownD; have V6 := hide ((unhide V5).grown hgrowD (fun e => by have := Option.some.inj e; omega)); have N6 := hide ((unhide N5).grown hgrowD (by omega)); have NV6 := hide ((unhide NV5).grown hgrowD (by omega)); have b6 := b5.grown hgrowD b5.size (fun j hj => by have := Option.some.inj hj; omega); clear hownD hgrowD) | fail)
        rw [unhide HPUT] at M6
        have N7 := hide ((unhide N6).snoc (x := t) (by rw [unhide hEl]; exact unhide HT) (unhide NV6))
        go_wp2
        go_roundw
        case rel => exact ⟨k + 1, E ++ [(t.d, ⟨some q', kn, a', cap'⟩)], by omega, by go_num, by rw [unhide HLAST], b6, V6, M6, HEI2, N7, HA2⟩
        case measure => simp [intOf]; omega
      · have HE0 : Hid (RB = false) := hide (unhide HNO (by rw [unhide HSTEP, hnone]; rfl))
        have b5 := b3.alloc (o := .cells #[.map none, .int .i64 0, .slice none 0 0] 96) b3.size
        clear hnone bX
        go_wp2
        go_ret2
        exact ⟨Or.inr ⟨unhide HE0, rfl⟩, b5⟩
    · have u1 : ¬ (k : Int) < (N.length : Int) := by omega
      have hke : k = N.length := by omega
      have HE : Hid (RB = true) := hide (by rw [unhide HR1]; exact Pl.all_yes (fun j hj => unhide HA j (by omega)))
      have HF : Hid (E.map (·.1) = N.map (·.d)) := hide (by rw [unhide HEI, hke, List.take_of_length_le (by rw [List.length_map]; omega)])
      have MF := hide ((unhide MO).mono (show k ≤ 12 by omega))
      go_wp2
      go_ret2
      exact ⟨Or.inl ⟨unhide HE, w.heap.size + 1, E, rfl, by omega, unhide HF, unhide MF, unhide NS, by omega⟩, hbel⟩
end WSpI
end Go.Proofs.YtlgbdbmikmbioaaDoor
