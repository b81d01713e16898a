/- Several texts of one claim in one file: WAsLeaf, WNestX, WViewI, WSightI. -/
import Derived.Test.YteddcihodfkliaaGreatDoorMemFx
import Derived.Test.YteddcihodfkliaaGreatDoorPartAG
import Derived.Test.YteddcihodfkliaaGreatDoorPlainCanon
import Derived.Test.YteddcihodfkliaaGreatDoorPartL
import Derived.Test.YteddcihodfkliaaGreatDoorPartAC
import Derived.Test.YteddcihodfkliaaGreatDoorPartR
import Derived.Test.YteddcihodfkliaaGreatDoorPartQ
import Derived.Test.YteddcihodfkliaaGreatDoorPartF
import Derived.Test.YteddcihodfkliaaGreatDoorPartM
import Derived.Test.YteddcihodfkliaaGreatDoorPlainNames
import Derived.Test.YteddcihodfkliaaGreatDoorPartAH
/- asLeaf: all that is seen of a nest, as if it were one leaf. -/
namespace Go.Proofs.YteddcihodfkliaaGreatDoor
open Go.RowKit Go.Maps
namespace WAsLeaf
/-- Layers as they lie: a row of the call's own, each a map of nodes, wherever it lies. -/
structure Oq (w : World) (S : Nat) (v : Value) (Bs : List Nat) (Ls : List (List Pl.Nd)) : Prop where
  row : w.ownsRow S 172 1 v Bs.length (Bs.map WOverI.layV)
  len : Bs.length = Ls.length
  maps : ∀ (j : Nat) b L, Bs[j]? = some b → Ls[j]? = some L → Mem.ownM w b L
theorem Oq.ov {w : World} {S : Nat} {v : Value} {Bs : List Nat} {Ls : List (List Pl.Nd)} (h : Oq w S v Bs Ls) : WOverI.Ov w 0 v Bs Ls := by
  refine ⟨⟨h.row.1, ?_⟩, h.len, fun j b L h1 h2 => ⟨Nat.zero_le _, h.maps j b L h1 h2⟩⟩
  rcases h.row.2 with h0 | ⟨g, cap, cur, hv, hb, rest⟩
  · exact .inl h0
  · exact .inr ⟨g, cap, cur, hv, Nat.zero_le _, rest⟩
theorem Oq.call {w w' : World} {S : Nat} {v : Value} {Bs : List Nat} {Ls : List (List Pl.Nd)} (h : Oq w S v Bs Ls) (b : Below w.heap.size w w') : Oq w' S v Bs Ls :=
  ⟨WOverI.row_call h.row b, h.len, fun j c L h1 h2 => (h.maps j c L h1 h2).call b⟩
theorem Oq.put {w w' : World} {S b : Nat} {v v' : Value} {Bs : List Nat} {Ls : List (List Pl.Nd)} {L : List Pl.Nd} (h : Oq w S v Bs Ls) (hm : Mem.ownM w b L)
    (hr : w'.ownsRow S 172 1 v' (Bs.length + 1) (Bs.map WOverI.layV ++ [WOverI.layV b])) (hg : w.grownBy w' v.ownBlock) : Oq w' S v' (Bs ++ [b]) (Ls ++ [L]) := by
  refine ⟨by simpa using hr, by simp [h.len], fun j c M h1 h2 => ?_⟩
  by_cases e : j < Bs.length
  · rw [List.getElem?_append_left e] at h1
    rw [List.getElem?_append_left (by rw [← h.len]; exact e)] at h2
    have h4 := h.maps j c M h1 h2
    exact h4.grown hg (WOverI.map_not h.row h4)
  · rw [List.getElem?_append_right (by omega)] at h1
    rw [List.getElem?_append_right (by rw [← h.len]; omega)] at h2
    have e0 : j - Bs.length = 0 := by
      have := (List.getElem?_eq_some_iff.1 h1).1
      simp at this; omega
    rw [e0] at h1
    rw [← h.len, e0] at h2
    simp at h1 h2
    subst h1 h2
    exact hm.grown hg (WOverI.map_not h.row hm)
/-- What asLeaf answers. -/
def Leafed (w' : World) (x : Nat → Addr) (VV : Option (List Pl.Nd)) (e : Ending) : Prop :=
  (∃ V q m, VV = some V ∧ e = .returned (.tuple #[.agg #[.map (some q), .int .i64 m], .nilIface]) ∧ Mem.ownM w' q V) ∨
  (VV = none ∧ e = .returned (.tuple #[.agg #[.map none, .int .i64 0], .iface 233 (.pointer (some (x 5)))]))
theorem told_map {w : World} {q N : Nat} {Ls : List (List Pl.Nd)} {D : DataW Unit} {C : List Pl.Nd} (h : w.ownsMap Tryz.prog 9 MapN.elem q N D) (g : MapN.Gt Ls D C) (hC : ∀ n, n ∈ C ↔ Pl.ToldN Ls n) (h4 : Ls.length ≤ 4) (htr : ∀ L ∈ Ls, Pl.treeB L = true) (hl : C.length ≤ 40) : Pl.overO (some Ls) = some (Pl.allO Ls) ∧ Mem.ownM w q (Pl.allO Ls) := by
  have ha := Pl.all_told h4 htr
  have hp := Pl.all_perm htr ha g.apart hC
  have hle : (Pl.allO Ls).length ≤ 40 := by rw [hp.length_eq]; exact hl
  have ht := Pl.all_tree h4 htr hle
  have e := MapN.is_mapOf h g (Pl.tree_apart' ht) (fun n => (hC n).trans (ha.mem n).symm)
  refine ⟨if_pos hle, ?_⟩
  subst e
  exact Mem.tight h (by rw [MapN.size_mapOf (Pl.tree_apart' ht)]; exact hle)
theorem told_long {Ls : List (List Pl.Nd)} {C : List Pl.Nd} (ap : C.Pairwise (fun a b => a.path ≠ b.path)) (hC : ∀ n, n ∈ C ↔ Pl.ToldN Ls n) (h4 : Ls.length ≤ 4) (htr : ∀ L ∈ Ls, Pl.treeB L = true) (hl : 40 < C.length) : Pl.overO (some Ls) = none := by
  have hp := Pl.all_perm htr (Pl.all_told h4 htr) ap hC
  exact if_neg (by rw [hp.length_eq]; omega)
set_option linter.unusedSimpArgs false in
set_option maxRecDepth 100000 in
set_option maxHeartbeats 2000000 in
theorem leaf_as (x : Nat → Addr) (n : Nat) (hn : n ≤ 1000) : ∀ (N : Nat → Prop) (K : Pl.Fx) (L : List Pl.Nd) (q : Nat) (m : Int) (v : Value) (w : World), K.sz ≤ n → (Pl.Fx.cons L K .nil).okX → Mem.ownM w q L → Mem.layX w N K v → WIs.Six w x →
    Calls Tryz.prog 64 #[.agg #[.map (some q), .int .i64 m, v]] w fun e w' => Leafed w' x (Pl.viewX L K) e ∧ Below w.heap.size w w' := by
  obtain ⟨i0, hi, hz0, hz1, hz2⟩ := info_parts WOverI.infoL
  have base : ∀ (L : List Pl.Nd) (q : Nat) (m : Int) (a : Option Addr) (cap : Nat) (w : World), Mem.ownM w q L → Calls Tryz.prog 64 #[.agg #[.map (some q), .int .i64 m, .slice a 0 cap]] w fun e w' => Leafed w' x (some L) e ∧ Below w.heap.size w w' := by
    intro L q m a cap w hm
    have b0 : Below w.heap.size w ((w.alloc (.cells #[.map (some q), .int .i64 m, .slice a 0 cap] 112)).alloc (.cells #[.map none, .int .i64 0] 109)) := ((Below.refl _ _).alloc (Nat.le_refl _) _).alloc (by simp) _
    have A0 := (Mem.Blk.new w #[.map (some q), .int .i64 m, .slice a 0 cap] 112).alloc (.cells #[.map none, .int .i64 0] 109)
    have R0 : Mem.Blk ((w.alloc (.cells #[.map (some q), .int .i64 m, .slice a 0 cap] 112)).alloc (.cells #[.map none, .int .i64 0] 109)) (w.heap.size + 1) #[.map none, .int .i64 0] 109 := Mem.new_two _ _ _
    have hlf := hide (WNestI.leaf_any .nil (some q) m a cap)
    simp only [Pl.Fo.len] at hlf
    have HM := hide (hm.call b0)
    have hql := hm.lt
    clear hm
    go_enter Tryz.func64, Tryz.ntmps64
    go_wp2_with fail
    generalize (w.alloc (.cells #[.map (some q), .int .i64 m, .slice a 0 cap] 112)).alloc (.cells #[.map none, .int .i64 0] 109) = w2 at b0 A0 R0 HM ⊢
    refine (unhide hlf _).mono ?_
    rintro e w1 ⟨rfl, b1⟩
    have bb := b0.trans (b1.mono b0.size)
    have A1 := A0.call b1
    have R1 := R0.call b1
    have M1 := hide (((unhide HM).call b1).set ⟨w.heap.size + 1, 0, none⟩ (.map (some q)) (by show q ≠ w.heap.size + 1; omega))
    have M2 := hide ((unhide M1).set ⟨w.heap.size + 1, 1, none⟩ (.int .i64 m) (by show q ≠ w.heap.size + 1; omega))
    have c0 := A1.cell 0
    have c1 := A1.cell 1
    have d0 := R1.cell 0
    have d1 := R1.cell 1
    have f0 := R1.fr 0
    have f1 := R1.fr 1
    simp only [List.getElem?_toArray, List.getElem?_cons_zero, List.getElem?_cons_succ] at c0 c1 d0 d1
    have HB := hide bb
    clear hlf A0 R0 A1 R1 HM M1 b0 b1 bb
    go_wp2
    refine bodyPost_ret (v := .tuple #[.agg #[.map (some q), .int .i64 m], .nilIface]) (by simp [results, Tryz.results64, go_sem, d0, d1]) rfl ⟨Or.inl ⟨L, q, m, rfl, rfl, unhide M2⟩, ?_⟩
    exact ((unhide HB).setCell (by show w.heap.size ≤ w.heap.size + 1; omega) _).setCell (by show w.heap.size ≤ w.heap.size + 1; omega) _
  induction n with
  | zero =>
    intro N K L q m v w hs hx hm hl hE
    obtain ⟨a, cap, rfl, -⟩ := hl
    cases K with
    | nil => exact base L q m a cap w hm
    | cons L' k' m' => simp [Pl.Fx.sz] at hs
  | succ n ih =>
    intro N K L q m v w hs hx hm hl hE
    obtain ⟨a, cap, rfl, hrow⟩ := hl
    by_cases hK0 : K.len = 0
    · have e := Pl.Fx.len_zero hK0
      subst e
      exact base L q m a cap w hm
    rcases hrow with h | ⟨g, rfl, hrow⟩
    · rw [h] at hK0; exact absurd rfl hK0
    rw [Pl.view_nest hK0]
    have hK4 : K.len ≤ 4 := hx.2.2.1
    have HKX := hide hx.2.2.2.1
    have b0 : Below w.heap.size w ((w.alloc (.cells #[.map (some q), .int .i64 m, .slice (some ⟨g, 0, none⟩) K.len cap] 112)).alloc (.cells #[.map none, .int .i64 0] 109)) := ((Below.refl _ _).alloc (Nat.le_refl _) _).alloc (by simp) _
    have A0 := (Mem.Blk.new w #[.map (some q), .int .i64 m, .slice (some ⟨g, 0, none⟩) K.len cap] 112).alloc (.cells #[.map none, .int .i64 0] 109)
    have R0 : Mem.Blk ((w.alloc (.cells #[.map (some q), .int .i64 m, .slice (some ⟨g, 0, none⟩) K.len cap] 112)).alloc (.cells #[.map none, .int .i64 0] 109)) (w.heap.size + 1) #[.map none, .int .i64 0] 109 := Mem.new_two _ _ _
    have HI := hide (ih (by omega))
    have HRW := hide (Mem.rowX_call (Mem.rowX_mono (N' := fun b => b < w.heap.size) (fun b _ hb => ⟨hb, hb, rfl⟩) K g 0 hrow) b0)
    have HE := hide (fun W (b : Below w.heap.size w W) => hE.call b)
    have hlf := hide (WNestI.leaf_any K.shape (some q) m (some ⟨g, 0, none⟩) cap)
    rw [Pl.Fx.shape_len, show decide (K.len = 0) = false from decide_eq_false hK0] at hlf
    clear ih hrow base hx hm hE
    go_enter Tryz.func64, Tryz.ntmps64
    go_wp2_with fail
    generalize (w.alloc (.cells #[.map (some q), .int .i64 m, .slice (some ⟨g, 0, none⟩) K.len cap] 112)).alloc (.cells #[.map none, .int .i64 0] 109) = w2 at b0 A0 R0 HRW ⊢
    refine (unhide hlf _).mono ?_
    rintro e w1 ⟨rfl, b1⟩
    have bb := b0.trans (b1.mono b0.size)
    have c02 := (A0.call b1).cell 2
    simp only [List.getElem?_toArray, List.getElem?_cons_zero, List.getElem?_cons_succ] at c02
    have RR := hide (R0.call b1)
    have RW : Hid (Mem.rowX w1 (fun b => b < w.heap.size) K g (0 * 3)) := hide (by simpa using Mem.rowX_call (unhide HRW) b1)
    have OQ0 : Hid (Oq w1 (w.heap.size + 2) (.slice none 0 0) [] []) := ⟨⟨by rfl, .inl ⟨rfl, rfl⟩⟩, rfl, fun j b L h => by simp at h⟩
    have SF0 := hide (Pl.seenF_start K)
    clear b0 b1 hlf A0 R0 HRW
    go_wp2
    go_loopw [4, 18] (fun v i wr => ∃ (j : Nat) (Bs : List Nat) (Ls : List (List Pl.Nd)) (F : Pl.Fx), i = .int .i64 (j : Int) ∧ j + F.len = K.len ∧ Bs.length = j ∧ F.sz ≤ n + 1 ∧ Below w.heap.size w wr ∧ Hid (Oq wr (w.heap.size + 2) v Bs Ls) ∧ Hid (Mem.rowX wr (fun b => b < w.heap.size) F g (j * 3)) ∧ Hid (Pl.seenF K F Ls) ∧ Hid F.okX ∧ Hid (Mem.Blk wr (w.heap.size + 1) #[.map none, .int .i64 0] 109)) (fun _ i _ => K.len - (intOf i).toNat)
    case atStart => exact ⟨0, [], [], K, rfl, by omega, rfl, hs, bb, OQ0, RW, SF0, HKX, RR⟩
    case round =>
      obtain ⟨j, Bs, Ls, F, rfl, hj, hBs, hsz, hbel, OQ, HR, SF, FX, RB⟩ := hrel
      clear RW bb c02 OQ0 SF0 RR
      cases F with
      | nil =>
        simp only [Pl.Fx.len] at hj
        have u1 : ¬ (j : Int) < (K.len : Int) := by omega
        have hvs := Pl.seenF_end (unhide SF)
        obtain ⟨hLl, htr⟩ := Pl.views_ok K Ls (unhide HKX) hvs
        have hwh := hide (WGather.whole_any 0 _ Bs Ls wr (unhide OQ).ov (by omega) htr x (unhide HE _ hbel))
        have HTM := hide (fun W N D C (h : World.ownsMap W Tryz.prog 9 MapN.elem wr.heap.size N D) g hC hl => told_map (w := W) (q := wr.heap.size) (N := N) (D := D) (C := C) h g hC (by omega) htr hl)
        have HTL := hide (fun C ap hC hl => told_long (Ls := Ls) (C := C) ap hC (by omega) htr hl)
        obtain ⟨va, vc, hv⟩ := WSight.ov_shape (unhide OQ).ov
        subst hv
        have hVS : Hid (Pl.viewsX K = some Ls) := hvs
        clear htr hvs OQ HR SF FX hLl
        go_wp2_with fail
        refine (unhide hwh).mono ?_
        rintro e w3 h3
        clear hwh
        rcases h3 with ⟨N3, D, C, rfl, hC4, -, G, hC⟩ | ⟨C, rfl, hC4, hap, hC, b2⟩
        · obtain ⟨e1, m1⟩ := unhide HTM w3 N3 D C G.map G.gt hC hC4
          have E1 : Hid (Pl.overO (Pl.viewsX K) = some (Pl.allO Ls)) := hide (by rw [unhide hVS]; exact e1)
          have hlt := (unhide RB).lt
          have R3 := (unhide RB).call G.bel
          have B3 := hide (hbel.trans (G.bel.mono hbel.size))
          have M3 := hide ((m1.set ⟨w.heap.size + 1, 0, none⟩ (.map (some wr.heap.size)) (by show wr.heap.size ≠ w.heap.size + 1; omega)).set ⟨w.heap.size + 1, 1, none⟩ (.int .i64 0) (by show wr.heap.size ≠ w.heap.size + 1; omega))
          have d0 := R3.cell 0
          have d1 := R3.cell 1
          have f0 := R3.fr 0
          have f1 := R3.fr 1
          simp only [List.getElem?_toArray, List.getElem?_cons_zero, List.getElem?_cons_succ] at d0 d1
          clear G hC e1 m1 R3 HTM HTL RB hVS HE
          go_wp2
          refine bodyPost_ret (v := .tuple #[.agg #[.map (some wr.heap.size), .int .i64 0], .nilIface]) (by simp [results, Tryz.results64, go_sem, d0, d1]) rfl ⟨Or.inl ⟨_, _, _, unhide E1, rfl, unhide M3⟩, ?_⟩
          exact ((unhide B3).setCell (by show w.heap.size ≤ w.heap.size + 1; omega) _).setCell (by show w.heap.size ≤ w.heap.size + 1; omega) _
        · have E1 : Hid (Pl.overO (Pl.viewsX K) = none) := hide (by rw [unhide hVS]; exact unhide HTL C hap hC hC4)
          have R3 := (unhide RB).call b2
          have B3 := hide (hbel.trans (b2.mono hbel.size))
          have d0 := R3.cell 0
          have d1 := R3.cell 1
          have f0 := R3.fr 0
          have f1 := R3.fr 1
          simp only [List.getElem?_toArray, List.getElem?_cons_zero, List.getElem?_cons_succ] at d0 d1
          clear hC hap R3 HTM HTL RB hVS HE b2
          go_wp2
          refine bodyPost_ret (v := .tuple #[.agg #[.map none, .int .i64 0], .iface 233 (.pointer (some (x 5)))]) (by simp [results, Tryz.results64, go_sem, d0, d1]) rfl ⟨Or.inr ⟨unhide E1, rfl⟩, ?_⟩
          first | exact unhide B3 | exact ((unhide B3).setCell (by show w.heap.size ≤ w.heap.size + 1; omega) _).setCell (by show w.heap.size ≤ w.heap.size + 1; omega) _
      | cons L1 k1 m1 =>
        simp only [Pl.Fx.len, Pl.Fx.sz] at hj hsz
        obtain ⟨g1, g2, g3, g5, g6⟩ := unhide FX
        obtain ⟨⟨q1, a1, cap1, c0, c1, c2, hg, hNg, hNq, hm1, hsub⟩, hrest⟩ := unhide HR
        have u1 : (j : Int) < (K.len : Int) := by omega
        have u3 : (0 : Int) ≤ (j : Int) := by omega
        have bA : Below wr.heap.size wr (wr.alloc (.cells #[.map (some q1), .int .i64 (k1.len : Int), .slice a1 k1.len cap1] 112)) := (Below.refl _ _).alloc (Nat.le_refl _) _
        have HL : Mem.layX wr (fun b => b < w.heap.size) k1 (.slice a1 k1.len cap1) := ⟨a1, cap1, rfl, hsub⟩
        have bw := hbel.trans (bA.mono hbel.size)
        have hcall := hide (unhide HI (fun b => b < w.heap.size) k1 L1 q1 (k1.len : Int) _ _ (by omega) ⟨g1, g2, g3, g5, trivial⟩ (hm1.call bA) (Mem.layX_call HL bA) (unhide HE _ bw))
        have HRR := hide (Mem.rowX_call hrest bA)
        have OA := hide ((unhide OQ).call bA)
        have RA := hide ((unhide RB).call bA)
        have G6 := hide g6
        have hsw := hbel.size
        clear hsub hrest HL HR OQ RB FX g1 g2 g5 g6 hm1
        go_wp2_with fail
        refine (unhide hcall).mono ?_
        rintro e wX ⟨hX, bX⟩
        have bw2 := bw.trans (bX.mono bw.size)
        clear hcall
        rcases hX with ⟨V, q2, m2, hV, rfl, hm2⟩ | ⟨hV, rfl⟩
        · have SF2 := hide (Pl.seenF_step (unhide SF) hV)
          have bA2 : Below wX.heap.size wX ((wX.alloc (.cells #[.map (some q2), .int .i64 m2] 109)).alloc (.cells #[WOverI.layV q2] 172)) := ((Below.refl _ _).alloc (Nat.le_refl _) _).alloc (by simp) _
          have bb2 := bX.trans (bA2.mono bX.size)
          have O2 := (unhide OA).call bb2
          have M2 := hm2.call bA2
          have HP := hide (fun v' w4 h1 h2 => O2.put (v' := v') (w' := w4) M2 h1 h2)
          have HRO := hide O2.row
          have bw3 := bw2.trans (bA2.mono bw2.size)
          have HQ := hide (fun w4 (h2 : ((wX.alloc (.cells #[.map (some q2), .int .i64 m2] 109)).alloc (.cells #[WOverI.layV q2] 172)).grownBy w4 _) => bw3.grown h2 bw3.size (fun k hk => by have := (O2.row.lt k hk).1; omega))
          have HGR := hide (fun w4 (h2 : ((wX.alloc (.cells #[.map (some q2), .int .i64 m2] 109)).alloc (.cells #[WOverI.layV q2] 172)).grownBy w4 _) => (⟨((unhide RA).call bb2).grown h2 (fun e => by have := (O2.row.lt _ e.symm).1; omega), Mem.rowX_mono (fun b hb hlt => ⟨hb, Nat.lt_of_lt_of_le hlt h2.size, h2.block b hlt (fun e => by have := (O2.row.lt b e.symm).1; omega)⟩) _ _ _ (Mem.rowX_call (unhide HRR) bb2)⟩ : Mem.Blk w4 (w.heap.size + 1) #[.map none, .int .i64 0] 109 ∧ Mem.rowX w4 (fun b => b < w.heap.size) m1 g (j * 3 + 3)))
          have HSB := hide (show w.heap.size + 2 ≤ wX.heap.size by have h1 := (unhide RA).lt; have h2 := bX.size; omega)
          clear bA O2 M2 hm2 hV SF OA RA HRR bA2 bb2 bX bw bw3
          unfold WOverI.layV at HP HRO HQ HGR
          go_wp2_with (at_builtin; refine wpList_append_own _ rfl _ _ 64 rfl (w.heap.size + 2) 172 i0 .nilIface 1 16 Tryz.underlying64 hi hz0 hz1 hz2 rfl (by decide) _ _ _ rfl (unhide HRO) ⟨wX.heap.size + 1, 0, none⟩ 1 1 [.iface 71 (.map (some q2))] rfl rfl (by have := Mem.one_new (wX.alloc (.cells #[.map (some q2), .int .i64 m2] 109)) (.iface 71 (.map (some q2))) 172; simpa using this) (fun u hu => by simp at hu; subst hu; rfl) (by unfold maxLen; omega) (by omega) (by have := unhide HSB; simp; omega) ?_)
          intro v' w4 own' hgrow _
          have OV2 := hide (unhide HP v' w4 (by rw [hBs]; exact own') hgrow)
          have bw4 := unhide HQ w4 hgrow
          obtain ⟨RB2, HR2⟩ := unhide HGR w4 hgrow
          have RB3 := hide RB2
          have HR3 := hide HR2
          rw [show j * 3 + 3 = (j + 1) * 3 by omega] at HR3
          have hBl : (Bs ++ [q2]).length = j + 1 := by simp [hBs]
          have HBL := hide hBl
          clear HP HRO HQ HGR own' hgrow HSB RB2 HR2 hBl
          go_wp2
          go_roundw
          case rel => exact ⟨j + 1, Bs ++ [q2], Ls ++ [V], m1, by go_num, by omega, unhide HBL, by omega, bw4, OV2, HR3, SF2, G6, RB3⟩
          case measure => simp [intOf]; omega
        · have E1 : Hid (Pl.overO (Pl.viewsX K) = none) := hide (by rw [Pl.seenF_fail (unhide SF) hV]; rfl)
          have R3 := ((unhide RA).call bX).alloc (.cells #[.map none, .int .i64 0] 109)
          have B3 := hide (bw2.alloc bw2.size (.cells #[.map none, .int .i64 0] 109))
          have d0 := R3.cell 0
          have d1 := R3.cell 1
          have f0 := R3.fr 0
          have f1 := R3.fr 1
          simp only [List.getElem?_toArray, List.getElem?_cons_zero, List.getElem?_cons_succ] at d0 d1
          clear hV SF OA RA HRR bX bw bw2 R3 bA HE HI
          go_wp2
          refine bodyPost_ret (v := .tuple #[.agg #[.map none, .int .i64 0], .iface 233 (.pointer (some (x 5)))]) (by simp [results, Tryz.results64, go_sem, d0, d1]) rfl ⟨Or.inr ⟨unhide E1, rfl⟩, ?_⟩
          first | exact unhide B3 | exact ((unhide B3).setCell (by show w.heap.size ≤ w.heap.size + 1; omega) _).setCell (by show w.heap.size ≤ w.heap.size + 1; omega) _
end WAsLeaf
end Go.Proofs.YteddcihodfkliaaGreatDoor

/- The walk of nestOf, with what each nest is itself. -/
namespace Go.Proofs.YteddcihodfkliaaGreatDoor
open Go.RowKit
namespace WNestX
/-- What nestOf answers. -/
def Nested (w : World) (r0 r1 : TypeId) (x0 x1 : Value) (Is : List Pl.It) (NN : Option Pl.Fo) (e : Ending) (w' : World) : Prop :=
  (∃ L k q a cap, NN = some k.shape ∧ e = .returned (.tuple #[.agg #[.map (some q), .int .i64 (k.len : Int), .slice a k.len cap], .nilIface]) ∧ (w.heap.size ≤ q ∧ Mem.ownM w' q L) ∧ ((Pl.Fx.cons L k .nil).okX ∧ (Pl.Fx.cons L k .nil).flat = Is.map Pl.It.r) ∧ Mem.layX w' (fun b => w.heap.size ≤ b) k (.slice a k.len cap)) ∨
  (NN = none ∧ ∃ r x, e = .returned (.tuple #[.agg #[.map none, .int .i64 0, .slice none 0 0], .iface r x]) ∧ ((400 < Is.length ∧ r = r0 ∧ x = x0) ∨ (Is.length ≤ 400 ∧ r = r1 ∧ x = x1)))
set_option linter.unusedSimpArgs false in
set_option maxRecDepth 100000 in
set_option maxHeartbeats 1000000 in
theorem nest_any (a : Option Addr) (cap : Nat) (Is : List Pl.It) (w : World) (hl : Is.length ≤ 1048576) (hcap : Is.length ≤ cap) (hv : Mem.isItems w a Is) (hok : ∀ x ∈ Is, x.t.L.length ≤ 1048576 ∧ ∀ n ∈ x.t.L, n.path.size ≤ 1048576 ∧ n.data.size ≤ 1048576)
    (r0 r1 r2 r3 : TypeId) (x0 x1 x2 x3 : Value) (hE : WNestI.Errs4 w r0 r1 r2 r3 x0 x1 x2 x3) :
    Calls Tryz.prog 63 #[.slice a Is.length cap] w fun e w' => Nested w r0 r1 x0 x1 Is (Pl.nest (Pl.rowO (Is.map Pl.It.r))) e w' ∧ Below w.heap.size w w' := by
  have hrl : (Pl.rowO (Is.map Pl.It.r)).length = Is.length := by rw [Pl.rowO_len, List.length_map]
  have b0 : Below w.heap.size w (w.alloc (.cells #[.map none, .int .i64 0, .slice none 0 0] 112)) := (Below.refl _ _).alloc (Nat.le_refl _) _
  have A0 := Mem.Blk.new w #[.map none, .int .i64 0, .slice none 0 0] 112
  have k0 := (hE.call b0).c0
  have k1 := (hE.call b0).three.c1
  by_cases h400 : 400 < Is.length
  · have t0 : (400 : Int) < (Is.length : Int) := by omega
    rw [Pl.nest_long _ (by omega)]
    have HB0 := hide b0
    clear hv hok hE b0 A0 hrl
    go_enter Tryz.func63, Tryz.ntmps63
    go_wp2
    go_region
    go_wp2
    refine bodyPost_ret (v := .tuple #[.agg #[.map none, .int .i64 0, .slice none 0 0], .iface r0 x0]) (by simp [results, Tryz.results63, go_sem]) rfl ⟨Or.inr ⟨rfl, _, _, rfl, .inl ⟨h400, rfl, rfl⟩⟩, ?_⟩
    exact Mem.below_drewN (unhide HB0) 1
  have t0 : ¬ (400 : Int) < (Is.length : Int) := by omega
  by_cases h12 : 12 < Is.length
  · have t1 : (12 : Int) < (Is.length : Int) := by omega
    rw [Pl.nest_long _ (by omega)]
    have HB0 := hide b0
    clear hv hok hE b0 A0 hrl
    go_enter Tryz.func63, Tryz.ntmps63
    go_wp2
    go_region
    go_wp2
    refine bodyPost_ret (v := .tuple #[.agg #[.map none, .int .i64 0, .slice none 0 0], .iface r1 x1]) (by simp [results, Tryz.results63, go_sem]) rfl ⟨Or.inr ⟨rfl, _, _, rfl, .inr ⟨by omega, rfl, rfl⟩⟩, ?_⟩
    exact Mem.below_drewN (unhide HB0) 1
  have t1 : ¬ (12 : Int) < (Is.length : Int) := by omega
  have hz := hide (take_any r1 r2 r3 x1 x2 x3 12 Is a cap _ (by omega) (by omega) hcap (Mem.items_call hv b0) hok (hE.call b0).three)
  have n1 : 0 < w.heap.size := World.block_lt_of_cell? w ⟨_, 0, none⟩ hE.three.c1
  have n2 : ¬ w.heap.size = 0 := by omega
  have n3 : ¬ 0 = w.heap.size := by omega
  have HE := hide (fun W (b : Below w.heap.size w W) => (hE.call b).three.c1)
  have HRL := hide hrl
  generalize Pl.rowO (Is.map Pl.It.r) = LL at hz HRL ⊢
  generalize hNN : Pl.nest LL = NN
  have HNN := hide hNN
  clear hv hok hE k0 k1 hrl hNN
  go_enter Tryz.func63, Tryz.ntmps63
  go_wp2_with fail
  generalize w.alloc (.cells #[.map none, .int .i64 0, .slice none 0 0] 112) = w2 at b0 A0 hz ⊢
  refine (unhide hz).mono ?_
  rintro e w1 ⟨h1, b1⟩
  have bw1 := b0.trans (b1.mono b0.size)
  have A1 := A0.call b1
  have HWW : Hid (w.heap.size < w2.heap.size) := hide A0.lt
  clear hz b1 A0 b0
  rcases h1 with ⟨L, kids, q, v, k, a', cap', ht, rfl, hk, hkl, hc, -, ⟨hqw, hqm⟩, hfl, hlay⟩ | ⟨ht, rfl⟩
  · obtain ⟨va, vcap, rfl, hrest⟩ := hlay
    have hlen : (Is.drop k).length = Is.length - k := List.length_drop
    have hR : (Pl.rowO ((Is.drop k).map Pl.It.r)).length = Is.length - k := by rw [Pl.rowO_len, List.length_map, hlen]
    have hsz := Pl.take_sz ht
    simp only [Pl.Fo.sz] at hsz
    have A2 := A1.alloc (.cells #[.map (some q), .int .i64 (kids.len : Int), .slice va kids.len vcap] 112)
    have X2 := Mem.Blk.new w1 #[.map (some q), .int .i64 (kids.len : Int), .slice va kids.len vcap] 112
    have bA : Below w1.heap.size w1 (w1.alloc (.cells #[.map (some q), .int .i64 (kids.len : Int), .slice va kids.len vcap] 112)) := (Below.refl _ _).alloc (Nat.le_refl _) _
    have bw2 := bw1.trans (bA.mono bw1.size)
    have HL : Hid (Mem.layX (w1.alloc (.cells #[.map (some q), .int .i64 (kids.len : Int), .slice va kids.len vcap] 112)) (fun b => w2.heap.size ≤ b) kids (.slice va kids.len vcap)) := hide (Mem.layX_call ⟨va, vcap, rfl, hrest⟩ bA)
    have HQM := hide (hqm.call bA)
    have HFL := hide hfl
    have HLD : Hid ((Is.drop k).length = Is.length - k) := hlen
    have HQW := hide hqw
    clear hqm hfl hqw
    rw [hlen]
    have hkk : Is.length - k ≤ 12 := by omega
    generalize Is.length - k = rest at hR hkk HLD ⊢
    by_cases hr0 : 0 < rest
    · have u1 : (0 : Int) < (rest : Int) := by omega
      have hno : Hid (NN = none) := hide (by rw [← unhide HNN]; exact Pl.nest_rest ht (by omega))
      have e1 := unhide HE _ bw2
      have c20 := A2.cell 0
      have c21 := A2.cell 1
      have c22 := A2.cell 2
      have f20 := A2.fr 0
      have f21 := A2.fr 1
      have f22 := A2.fr 2
      simp only [List.getElem?_toArray, List.getElem?_cons_zero, List.getElem?_cons_succ] at c20 c21 c22
      have BB := hide bw2
      clear A1 A2 X2 bA HL hrest bw1 bw2 HNN HE ht hlen
      go_wp2
      go_region
      go_wp2
      refine bodyPost_ret (v := .tuple #[.agg #[.map none, .int .i64 0, .slice none 0 0], .iface r1 x1]) (by simp [results, Tryz.results63, go_sem, c20, c21, c22]) rfl ⟨Or.inr ⟨unhide hno, _, _, rfl, .inr ⟨by omega, rfl, rfl⟩⟩, ?_⟩
      first | exact Mem.below_drewN (unhide BB) 1 | exact (((Mem.below_drewN (unhide BB) 1).setCell (Nat.le_refl _) _).setCell (Nat.le_refl _) _).setCell (Nat.le_refl _) _
    have u1 : ¬ (0 : Int) < (rest : Int) := by omega
    have hdz := kids.shape.depth_le
    have hcall := hide (WNestI.depth_any _ 1000 (Nat.le_refl _) kids.shape (some q) (kids.len : Int) _ _ (by have := unhide HRL; omega) (Mem.layX_lay (unhide HL)))
    go_wp2_with fail
    generalize w1.alloc (.cells #[.map (some q), .int .i64 (kids.len : Int), .slice va kids.len vcap] 112) = w3 at bA bw2 HL HQM A2 X2 hcall ⊢
    refine (unhide hcall).mono ?_
    rintro e w4 ⟨rfl, b4⟩
    have bw4 := bw2.trans (b4.mono bw2.size)
    have A4 := A2.call b4
    have X4 := X2.call b4
    have HL4 : Hid (Mem.layX w4 (fun b => w2.heap.size ≤ b) kids (.slice va kids.len vcap)) := hide (Mem.layX_call (unhide HL) b4)
    have HQ4 := hide ((unhide HQM).call b4)
    clear HQM
    have c20 := A4.cell 0
    have c21 := A4.cell 1
    have c22 := A4.cell 2
    have f20 := A4.fr 0
    have f21 := A4.fr 1
    have f22 := A4.fr 2
    have c40 := X4.cell 0
    have c41 := X4.cell 1
    have c42 := X4.cell 2
    simp only [List.getElem?_toArray, List.getElem?_cons_zero, List.getElem?_cons_succ] at c20 c21 c22 c40 c41 c42
    have hs1 : w2.heap.size ≤ w1.heap.size ∨ True := .inr trivial
    clear hcall HL b4 A2 X2 A4 X4 hrest hs1
    by_cases h4 : 4 < kids.shape.depth + 1
    · have u2 : (4 : Int) < (kids.shape.depth : Int) + 1 := by omega
      have hno : Hid (NN = none) := hide (by rw [← unhide HNN]; exact Pl.nest_deep ht h4)
      have e1 := unhide HE _ bw4
      have BB := hide bw4
      clear A1 bA bw1 bw2 HNN HE ht hlen bw4 HL4
      go_wp2
      go_region
      go_wp2
      refine bodyPost_ret (v := .tuple #[.agg #[.map none, .int .i64 0, .slice none 0 0], .iface r1 x1]) (by simp [results, Tryz.results63, go_sem, c20, c21, c22]) rfl ⟨Or.inr ⟨unhide hno, _, _, rfl, .inr ⟨by omega, rfl, rfl⟩⟩, ?_⟩
      first | exact Mem.below_drewN (unhide BB) 1 | exact (((Mem.below_drewN (unhide BB) 1).setCell (Nat.le_refl _) _).setCell (Nat.le_refl _) _).setCell (Nat.le_refl _) _
    · have u2 : ¬ (4 : Int) < (kids.shape.depth : Int) + 1 := by omega
      have hyes : Hid (NN = some kids.shape) := hide (by rw [← unhide HNN]; exact Pl.nest_ok (by have := unhide HRL; omega) ht (by omega) h4)
      have HW2 : Hid (w.heap.size < w2.heap.size) := HWW
      have BB := hide bw4
      clear A1 bA bw1 bw2 HNN HE ht hlen bw4
      go_wp2
      refine bodyPost_ret (v := .tuple #[.agg #[.map (some q), .int .i64 (kids.len : Int), .slice va kids.len vcap], .nilIface]) (by simp [results, Tryz.results63, go_sem, c20, c21, c22]) rfl ⟨Or.inl ⟨L, kids, q, va, vcap, unhide hyes, rfl, ?_, ?_, ?_⟩, ?_⟩
      · have h1 := unhide HW2
        have h2 := unhide HQW
        exact ⟨by omega, (((unhide HQ4).set _ _ (by show q ≠ w.heap.size; omega)).set _ _ (by show q ≠ w.heap.size; omega)).set _ _ (by show q ≠ w.heap.size; omega)⟩
      · have h3 := unhide HFL
        have h4 : Is.drop k = [] := List.eq_nil_of_length_eq_zero (by have := unhide HLD; omega)
        rw [h4, List.map_nil, List.append_nil] at h3
        exact h3
      · refine Mem.layX_mono (fun b hb hlt => ⟨?_, by simpa using hlt, ?_⟩) (unhide HL4)
        · have := unhide HW2; omega
        · have := unhide HW2
          rw [heap_setCell_other _ _ _ _ (by show b ≠ w.heap.size; omega), heap_setCell_other _ _ _ _ (by show b ≠ w.heap.size; omega), heap_setCell_other _ _ _ _ (by show b ≠ w.heap.size; omega)]
      · exact (((unhide BB).setCell (Nat.le_refl _) _).setCell (Nat.le_refl _) _).setCell (Nat.le_refl _) _
  · have hno : Hid (NN = none) := hide (by rw [← unhide HNN]; exact Pl.nest_fail ht)
    have A2 := A1.alloc (.cells #[.map none, .int .i64 0, .slice none 0 0] 112)
    have bw2 := bw1.alloc bw1.size (.cells #[.map none, .int .i64 0, .slice none 0 0] 112)
    have c20 := A2.cell 0
    have c21 := A2.cell 1
    have c22 := A2.cell 2
    have f20 := A2.fr 0
    have f21 := A2.fr 1
    have f22 := A2.fr 2
    simp only [List.getElem?_toArray, List.getElem?_cons_zero, List.getElem?_cons_succ] at c20 c21 c22
    have BB := hide bw2
    clear A1 A2 bw1 bw2 HNN HE ht
    go_wp2
    refine bodyPost_ret (v := .tuple #[.agg #[.map none, .int .i64 0, .slice none 0 0], .iface r1 x1]) (by simp [results, Tryz.results63, go_sem, c20, c21, c22]) rfl ⟨Or.inr ⟨unhide hno, _, _, rfl, .inr ⟨by omega, rfl, rfl⟩⟩, ?_⟩
    first | exact unhide BB | exact (((unhide BB).setCell (Nat.le_refl _) _).setCell (Nat.le_refl _) _).setCell (Nat.le_refl _) _
end WNestX
end Go.Proofs.YteddcihodfkliaaGreatDoor

/- The walk of the program's View. -/
namespace Go.Proofs.YteddcihodfkliaaGreatDoor
open Go.RowKit Go.Maps
namespace WViewI
theorem six4 {w : World} {x : Nat → Addr} (h : WIs.Six w x) : WNestI.Errs4 w 233 233 233 233 (.pointer (some (x 0))) (.pointer (some (x 1))) (.pointer (some (x 2))) (.pointer (some (x 3))) := ⟨h.c0, h.errs⟩
/-- The nodes of a right tree rise out of their map. -/
theorem rise_tree (B : Nat) (L : List Pl.Nd) (w : World) (ht : Pl.treeB L = true) (hm : Mem.ownM w B L) :
    Calls Tryz.prog 41 #[.map (some B)] w fun e w' => ∃ v, e = .returned v ∧ Mem.ownN w' w.heap.size v L ∧ Below w.heap.size w w' :=
  WRising.any B 40 L L (MapN.mapOf L) w hm (by omega) (MapN.reads_mapOf (Pl.tree_apart' ht)) (Pl.tree_apart' ht) (List.Perm.refl _) (Pl.tree_rise' ht) (fun n hn => by
    have h2 := (((Pl.tree_iff _).1 ht).2.1 n hn).1
    have h4 := (Pl.node_bounds h2).1
    exact ⟨(Pl.node_right h2).1, by omega⟩)
set_option linter.unusedSimpArgs false in
set_option maxRecDepth 100000 in
set_option maxHeartbeats 1000000 in
theorem view_any (a : Option Addr) (cap : Nat) (Is : List Pl.It) (w : World) (hl : Is.length ≤ 1048576) (hcap : Is.length ≤ cap) (hv : Mem.isItems w a Is) (hok : ∀ x ∈ Is, x.t.L.length ≤ 1048576 ∧ ∀ n ∈ x.t.L, n.path.size ≤ 1048576 ∧ n.data.size ≤ 1048576) (x : Nat → Addr) (hE : WIs.Six w x) :
    Calls Tryz.prog 28 #[.slice a Is.length cap] w fun e w' => ∃ v, e = .returned (.agg #[v, .int .i64 (Pl.viewC (Is.map Pl.It.r))]) ∧ Mem.ownN w' w.heap.size v (Pl.viewN (Is.map Pl.It.r)) ∧ Below w.heap.size w w' := by
  have b0 : Below w.heap.size w (w.alloc (.cells #[.slice none 0 0, .int .i64 0] 31)) := (Below.refl _ _).alloc (Nat.le_refl _) _
  have V0 := Mem.Blk.new w #[.slice none 0 0, .int .i64 0] 31
  have hs0 : (w.alloc (.cells #[.slice none 0 0, .int .i64 0] 31)).heap.size = w.heap.size + 1 := by simp
  have hxl : (Is.map Pl.It.r).length = Is.length := List.length_map ..
  have hno := hide (WNestX.nest_any a cap Is (w.alloc (.cells #[.slice none 0 0, .int .i64 0] 31)) hl hcap (Mem.items_call hv b0) hok _ _ _ _ _ _ _ _ (six4 (hE.call b0)))
  have HE := hide (fun W (b : Below w.heap.size w W) => hE.call b)
  have HVL : Hid (400 < Is.length → Pl.viewC (Is.map Pl.It.r) = 2 ∧ Pl.viewN (Is.map Pl.It.r) = []) := fun h => Pl.view_long (by omega)
  have HVB : Hid (¬ 400 < Is.length → Pl.nest (Pl.rowO (Is.map Pl.It.r)) = none → Pl.viewC (Is.map Pl.It.r) = 1 ∧ Pl.viewN (Is.map Pl.It.r) = []) := fun h1 h2 => Pl.view_bad (by omega) h2
  have HVN : Hid (∀ L k, Pl.nest (Pl.rowO (Is.map Pl.It.r)) = some (Pl.Fx.shape k) → (Pl.Fx.cons L k .nil).flat = Is.map Pl.It.r → Pl.viewX L k = none → Pl.viewC (Is.map Pl.It.r) = 9 ∧ Pl.viewN (Is.map Pl.It.r) = []) := fun L k h1 h2 h3 => Pl.view_none (Pl.nest_len h1) (Pl.nestX_some h1 h2) h3
  have HVS : Hid (∀ L k V, Pl.nest (Pl.rowO (Is.map Pl.It.r)) = some (Pl.Fx.shape k) → (Pl.Fx.cons L k .nil).flat = Is.map Pl.It.r → Pl.viewX L k = some V → Pl.viewC (Is.map Pl.It.r) = 0 ∧ Pl.viewN (Is.map Pl.It.r) = V) := fun L k V h1 h2 h3 => Pl.view_some (Pl.nest_len h1) (Pl.nestX_some h1 h2) h3
  have HSZ : Hid (∀ L k, Pl.nest (Pl.rowO (Is.map Pl.It.r)) = some (Pl.Fx.shape k) → (Pl.Fx.cons L k .nil).flat = Is.map Pl.It.r → k.sz ≤ 1000) := fun L k h1 h2 => by
    have h3 := Pl.nest_len h1
    have h4 := congrArg List.length h2
    rw [Pl.Fx.flat_len, Pl.Fx.sz] at h4
    omega
  generalize Pl.viewC (Is.map Pl.It.r) = C at HVL HVB HVN HVS ⊢
  generalize Pl.viewN (Is.map Pl.It.r) = O at HVL HVB HVN HVS ⊢
  generalize Pl.nest (Pl.rowO (Is.map Pl.It.r)) = NN at hno HVB HVN HVS HSZ
  clear hv hok hE hxl
  go_enter Tryz.func28, Tryz.ntmps28
  go_wp2_with fail
  generalize w.alloc (.cells #[.slice none 0 0, .int .i64 0] 31) = w2 at b0 V0 hs0 hno ⊢
  refine (unhide hno).mono ?_
  rintro e w1 ⟨hN, b1⟩
  have bw1 := b0.trans (b1.mono b0.size)
  have V1 := V0.call b1
  have hs1 := b1.size
  clear hno b0 V0
  rcases hN with ⟨L, k, q, a1, cap1, hNN, rfl, ⟨-, hqm⟩, ⟨hko, hfl⟩, hlay⟩ | ⟨hNN, r, y, rfl, hwhy⟩
  rotate_left
  · have V2 := V1.alloc (.cells #[.map none, .int .i64 0, .slice none 0 0] 112)
    have bw2 := bw1.alloc bw1.size (.cells #[.map none, .int .i64 0, .slice none 0 0] 112)
    rcases hwhy with ⟨h4, rfl, rfl⟩ | ⟨h4, rfl, rfl⟩
    · obtain ⟨rfl, rfl⟩ := unhide HVL h4
      have hcd := hide (WIs.code0 x _ (unhide HE _ bw2))
      clear V1 bw1 HVL HVB HVN HVS HSZ hNN
      go_wp2_with fail
      refine (unhide hcd).mono ?_
      rintro e w3 ⟨rfl, hw3⟩
      subst w3
      have HB := hide bw2
      have d0 := V2.cell 0
      have d1 := V2.cell 1
      have f0 := V2.fr 0
      have f1 := V2.fr 1
      simp only [List.getElem?_toArray, List.getElem?_cons_zero, List.getElem?_cons_succ] at d0 d1
      clear hcd V2 bw2
      go_wp2
      refine bodyPost_ret (v := .agg #[.slice none 0 0, .int .i64 2]) (by simp [results, Tryz.results28, go_sem, d0, d1]) rfl ⟨_, rfl, Mem.ownN_nil _ _, ?_⟩
      first | exact ((unhide HB).setCell (Nat.le_refl _) _).setCell (Nat.le_refl _) _ | exact (unhide HB).setCell (Nat.le_refl _) _
    · obtain ⟨rfl, rfl⟩ := unhide HVB (by omega) hNN
      have hcd := hide (WIs.code1 x _ (unhide HE _ bw2))
      clear V1 bw1 HVL HVB HVN HVS HSZ hNN
      go_wp2_with fail
      refine (unhide hcd).mono ?_
      rintro e w3 ⟨rfl, hw3⟩
      subst w3
      have HB := hide bw2
      have d0 := V2.cell 0
      have d1 := V2.cell 1
      have f0 := V2.fr 0
      have f1 := V2.fr 1
      simp only [List.getElem?_toArray, List.getElem?_cons_zero, List.getElem?_cons_succ] at d0 d1
      clear hcd V2 bw2
      go_wp2
      refine bodyPost_ret (v := .agg #[.slice none 0 0, .int .i64 1]) (by simp [results, Tryz.results28, go_sem, d0, d1]) rfl ⟨_, rfl, Mem.ownN_nil _ _, ?_⟩
      first | exact ((unhide HB).setCell (Nat.le_refl _) _).setCell (Nat.le_refl _) _ | exact (unhide HB).setCell (Nat.le_refl _) _
  have V2 := V1.alloc (.cells #[.map (some q), .int .i64 (k.len : Int), .slice a1 k.len cap1] 112)
  have bw2 := bw1.alloc bw1.size (.cells #[.map (some q), .int .i64 (k.len : Int), .slice a1 k.len cap1] 112)
  have bA : Below w1.heap.size w1 (w1.alloc (.cells #[.map (some q), .int .i64 (k.len : Int), .slice a1 k.len cap1] 112)) := (Below.refl _ _).alloc (Nat.le_refl _) _
  have X2 := Mem.Blk.new w1 #[.map (some q), .int .i64 (k.len : Int), .slice a1 k.len cap1] 112
  have x0 := X2.cell 0
  have x1 := X2.cell 1
  have x2 := X2.cell 2
  simp only [List.getElem?_toArray, List.getElem?_cons_zero, List.getElem?_cons_succ] at x0 x1 x2
  have hlf := hide (WAsLeaf.leaf_as x 1000 (Nat.le_refl _) _ k L q (k.len : Int) _ _ (unhide HSZ L k hNN hfl) hko (hqm.call bA) (Mem.layX_call hlay bA) (unhide HE _ bw2))
  have HVT := hide (fun V (h : Pl.viewX L k = some V) => Pl.view_ok hko h)
  have HN2 := hide (fun h => unhide HVN L k hNN hfl h)
  have HS2 := hide (fun V h => unhide HVS L k V hNN hfl h)
  clear hqm hko hfl hlay bA X2 V1 bw1 HVL HVB HVN HVS HSZ hNN
  go_wp2_with fail
  generalize w1.alloc (.cells #[.map (some q), .int .i64 (k.len : Int), .slice a1 k.len cap1] 112) = w4 at V2 bw2 hlf x0 x1 x2 ⊢
  refine (unhide hlf).mono ?_
  rintro e w5 ⟨hX, b5⟩
  have bw5 := bw2.trans (b5.mono bw2.size)
  have V5 := V2.call b5
  clear hlf x0 x1 x2
  rcases hX with ⟨V, q5, m5, hV, rfl, hm5⟩ | ⟨hV, rfl⟩
  · obtain ⟨rfl, rfl⟩ := unhide HS2 V hV
    have V6 := V5.alloc (.cells #[.map (some q5), .int .i64 m5] 109)
    have bw6 := bw5.alloc bw5.size (.cells #[.map (some q5), .int .i64 m5] 109)
    have X6 := Mem.Blk.new w5 #[.map (some q5), .int .i64 m5] 109
    have x0 := X6.cell 0
    simp only [List.getElem?_toArray, List.getElem?_cons_zero, List.getElem?_cons_succ] at x0
    have hri := hide (rise_tree q5 O (w5.alloc (.cells #[.map (some q5), .int .i64 m5] 109)) (unhide HVT _ hV) (hm5.call ((Below.refl _ _).alloc (Nat.le_refl _) _)))
    clear V2 V5 bw2 bw5 b5 HVT HN2 HS2 hV hm5 X6
    go_wp2_with fail
    generalize w5.alloc (.cells #[.map (some q5), .int .i64 m5] 109) = w6 at V6 bw6 hri x0 ⊢
    refine (unhide hri).mono ?_
    rintro e w7 ⟨v7, rfl, own7, b7⟩
    obtain ⟨a7, c7, rfl⟩ := Mem.own_shape own7
    have hR := V6.lt
    have V7 := V6.call b7
    have OW := hide (Mem.ownN_mono (Mem.ownN_set (Mem.ownN_set own7 ⟨w.heap.size, 0, none⟩ (.slice a7 O.length c7) (by show w.heap.size < _; omega)) ⟨w.heap.size, 1, none⟩ (.int .i64 0) (by show w.heap.size < _; omega)) (show w.heap.size ≤ w6.heap.size by omega))
    have HB := hide (bw6.trans (b7.mono bw6.size))
    have d0 := V7.cell 0
    have d1 := V7.cell 1
    have f0 := V7.fr 0
    have f1 := V7.fr 1
    simp only [List.getElem?_toArray, List.getElem?_cons_zero, List.getElem?_cons_succ] at d0 d1
    clear hri own7 b7 V6 V7 bw6 x0
    go_wp2
    refine bodyPost_ret (v := .agg #[.slice a7 O.length c7, .int .i64 0]) (by simp [results, Tryz.results28, go_sem, d0, d1]) rfl ⟨_, rfl, unhide OW, ?_⟩
    exact ((unhide HB).setCell (Nat.le_refl _) _).setCell (Nat.le_refl _) _
  · obtain ⟨rfl, rfl⟩ := unhide HN2 hV
    have V2 := V5.alloc (.cells #[.map none, .int .i64 0] 109)
    have bw2 := bw5.alloc bw5.size (.cells #[.map none, .int .i64 0] 109)
    have hcd := hide (WIs.code5 x _ (unhide HE _ bw2))
    clear V5 bw5 b5 HVT HN2 HS2 hV
    go_wp2_with fail
    refine (unhide hcd).mono ?_
    rintro e w3 ⟨rfl, hw3⟩
    subst w3
    have HB := hide bw2
    have d0 := V2.cell 0
    have d1 := V2.cell 1
    have f0 := V2.fr 0
    have f1 := V2.fr 1
    simp only [List.getElem?_toArray, List.getElem?_cons_zero, List.getElem?_cons_succ] at d0 d1
    clear hcd V2 bw2
    go_wp2
    refine bodyPost_ret (v := .agg #[.slice none 0 0, .int .i64 9]) (by simp [results, Tryz.results28, go_sem, d0, d1]) rfl ⟨_, rfl, Mem.ownN_nil _ _, ?_⟩
    first | exact ((unhide HB).setCell (Nat.le_refl _) _).setCell (Nat.le_refl _) _ | exact (unhide HB).setCell (Nat.le_refl _) _
end WViewI
end Go.Proofs.YteddcihodfkliaaGreatDoor

/- The walk of the program's Sight. -/
namespace Go.Proofs.YteddcihodfkliaaGreatDoor
open Go.RowKit
namespace WViewI
set_option linter.unusedSimpArgs false in
set_option maxRecDepth 100000 in
set_option maxHeartbeats 1000000 in
theorem sight_any (a : Option Addr) (cap : Nat) (Is : List Pl.It) (w : World) (hl : Is.length ≤ 1048576) (hcap : Is.length ≤ cap) (hv : Mem.isItems w a Is) (hok : ∀ x ∈ Is, x.t.L.length ≤ 1048576 ∧ ∀ n ∈ x.t.L, n.path.size ≤ 1048576 ∧ n.data.size ≤ 1048576) (x : Nat → Addr) (hE : WIs.Six w x) :
    Calls Tryz.prog 35 #[.slice a Is.length cap] w fun e w' => ∃ v, e = .returned (.agg #[v, .int .i64 (Pl.viewC (Is.map Pl.It.r))]) ∧ Mem.ownN w' w.heap.size v (Pl.sightN (Is.map Pl.It.r)) ∧ Below w.heap.size w w' := by
  have b0 : Below w.heap.size w (w.alloc (.cells #[.slice none 0 0, .int .i64 0] 31)) := (Below.refl _ _).alloc (Nat.le_refl _) _
  have V0 := Mem.Blk.new w #[.slice none 0 0, .int .i64 0] 31
  have hs0 : (w.alloc (.cells #[.slice none 0 0, .int .i64 0] 31)).heap.size = w.heap.size + 1 := by simp
  have hvi := hide (WViewI.view_any a cap Is (w.alloc (.cells #[.slice none 0 0, .int .i64 0] 31)) hl hcap (Mem.items_call hv b0) hok x (hE.call b0))
  have HN : Hid (Pl.viewC (Is.map Pl.It.r) ≠ 0 → Pl.viewN (Is.map Pl.It.r) = [] ∧ Pl.sightN (Is.map Pl.It.r) = []) := fun h => ⟨Pl.view_nil h, Pl.sight_no h⟩
  have HY : Hid (Pl.viewC (Is.map Pl.It.r) = 0 → Pl.treeB (Pl.viewN (Is.map Pl.It.r)) = true ∧ Pl.sightN (Is.map Pl.It.r) = Pl.plainL (Pl.viewN (Is.map Pl.It.r))) := fun h => ⟨Pl.view_tree h, Pl.sight_yes h⟩
  have HL := hide (Pl.view_le (Is.map Pl.It.r))
  generalize Pl.sightN (Is.map Pl.It.r) = O at HN HY ⊢
  generalize Pl.viewC (Is.map Pl.It.r) = C at hvi HN HY ⊢
  generalize Pl.viewN (Is.map Pl.It.r) = V at hvi HN HY HL
  have HE := hide (fun W (b : Below w.heap.size w W) => hE.call b)
  clear hv hok hE
  go_enter Tryz.func35, Tryz.ntmps35
  go_wp2_with fail
  generalize w.alloc (.cells #[.slice none 0 0, .int .i64 0] 31) = w2 at b0 V0 hs0 hvi ⊢
  refine (unhide hvi).mono ?_
  rintro e w1 ⟨v1, rfl, own1, b1⟩
  obtain ⟨a1, c1, rfl⟩ := Mem.own_shape own1
  have bw1 := b0.trans (b1.mono b0.size)
  have V3 := (V0.call b1).alloc (.cells #[.slice a1 V.length c1, .int .i64 C] 31)
  have bw3 := bw1.alloc bw1.size (.cells #[.slice a1 V.length c1, .int .i64 C] 31)
  have X3 := Mem.Blk.new w1 #[.slice a1 V.length c1, .int .i64 C] 31
  have O3 := Mem.ownN_alloc own1 (.cells #[.slice a1 V.length c1, .int .i64 C] 31)
  have hs1 := b1.size
  have x0 := X3.cell 0
  have x1 := X3.cell 1
  simp only [List.getElem?_toArray, List.getElem?_cons_zero, List.getElem?_cons_succ] at x0 x1
  clear hvi b0 V0 own1 b1 bw1 X3
  by_cases hC : C = 0
  · subst hC
    obtain ⟨ht, rfl⟩ := unhide HY rfl
    have hpl := hide (WPlainO.impl_any a1 c1 V (w1.alloc (.cells #[.slice a1 V.length c1, .int .i64 0] 31)) (by have := (unhide HL).1; omega) (Mem.ownN_nodes O3).2 (unhide HL).2 _ _ _ _ _ _ (unhide HE _ bw3).errs)
    rw [show Pl.plainC V = 0 by rw [Pl.plainC, if_pos ht], show Pl.plainO V = Pl.plainL V by rw [Pl.plainO, if_pos ht]] at hpl
    clear HN HY HL ht O3 HE
    go_wp2_with fail
    generalize w1.alloc (.cells #[.slice a1 V.length c1, .int .i64 0] 31) = w4 at V3 bw3 hpl x0 x1 ⊢
    refine (unhide hpl).mono ?_
    rintro e w5 ⟨v5, rfl, own5, b5⟩
    obtain ⟨a5, c5, rfl⟩ := Mem.own_shape own5
    have hR := V3.lt
    have OW := hide (Mem.ownN_mono (Mem.ownN_set (Mem.ownN_set own5 ⟨w.heap.size, 0, none⟩ (.slice a5 (Pl.plainL V).length c5) (by show w.heap.size < _; omega)) ⟨w.heap.size, 1, none⟩ (.int .i64 0) (by show w.heap.size < _; omega)) (show w.heap.size ≤ w4.heap.size by omega))
    have HB := hide (bw3.trans (b5.mono bw3.size))
    have d0 := (V3.call b5).cell 0
    have d1 := (V3.call b5).cell 1
    have f0 := (V3.call b5).fr 0
    have f1 := (V3.call b5).fr 1
    simp only [List.getElem?_toArray, List.getElem?_cons_zero, List.getElem?_cons_succ] at d0 d1
    clear hpl own5 b5 V3 bw3 x0 x1
    go_wp2
    refine bodyPost_ret (v := .agg #[.slice a5 (Pl.plainL V).length c5, .int .i64 0]) (by simp [results, Tryz.results35, go_sem, d0, d1]) rfl ⟨_, rfl, unhide OW, ?_⟩
    first | exact ((unhide HB).setCell (Nat.le_refl _) _).setCell (Nat.le_refl _) _ | exact (unhide HB).setCell (Nat.le_refl _) _
  · obtain ⟨rfl, rfl⟩ := unhide HN hC
    simp only [List.length_nil] at V3 bw3 O3 x0 x1 ⊢
    have hD1 : (C == 0) = false := by simpa using hC
    have hD2 : decide (C = 0) = false := by simpa using hC
    have hD3 : (C != 0) = true := by simpa using hC
    have OW := hide (Mem.ownN_mono (Mem.ownN_set (Mem.ownN_set O3 ⟨w.heap.size, 0, none⟩ (.slice a1 0 c1) (by show w.heap.size < _; omega)) ⟨w.heap.size, 1, none⟩ (.int .i64 C) (by show w.heap.size < _; omega)) (show w.heap.size ≤ w2.heap.size by omega))
    clear HN HY HL O3 HE
    have HB := hide bw3
    have d0 := V3.cell 0
    have d1 := V3.cell 1
    have f0 := V3.fr 0
    have f1 := V3.fr 1
    simp only [List.getElem?_toArray, List.getElem?_cons_zero, List.getElem?_cons_succ] at d0 d1
    clear V3 bw3
    go_wp2
    refine bodyPost_ret (v := .agg #[.slice a1 0 c1, .int .i64 C]) (by simp [results, Tryz.results35, go_sem, d0, d1]) rfl ⟨_, rfl, unhide OW, ?_⟩
    first | exact ((unhide HB).setCell (Nat.le_refl _) _).setCell (Nat.le_refl _) _ | exact (unhide HB).setCell (Nat.le_refl _) _
end WViewI
end Go.Proofs.YteddcihodfkliaaGreatDoor

