/- The specification's l04At (by genA4.py). -/
import Derived.Test.YtkfpfckmjgjanabDoorG45
import Derived.Deep.Cut
namespace Go.Proofs.YtkfpfckmjgjanabDoor
open Go.RowKit
namespace WPick
set_option linter.unusedSimpArgs false in
set_option maxRecDepth 100000 in
set_option maxHeartbeats 3000000 in
theorem at4_any (p : ByteArray) (L : List ByteArray) (Ts : List Pl.Tr) (ad : Option Addr) (capt : Nat) (w : World) (hT : Mem.isTrees w ad Ts) (hn1 : 1 ≤ Ts.length) (hn4 : Ts.length ≤ 4) (hL : ∀ t ∈ Ts, t.L.length ≤ 1048576 ∧ ∀ n ∈ t.L, 0 ≤ n.mark ∧ n.mark ≤ 8) (hTr : ∀ M ∈ Ts.map (·.L), Pl.treeB M = true)
    (hpL : Pl.names p = L) (hnm : ∀ t ∈ L, Pl.nameB t = true) (h1 : 1 ≤ L.length) (h6 : L.length ≤ 6) (hps : p.size ≤ 1048576) (hsz : ∀ j : Nat, (Pl.glue (L.take j)).size ≤ 1048576) :
    Calls Tryd.prog 52 #[.slice ad Ts.length capt, .string p] w fun e w' => ∃ v, e = .returned (.agg (cellsO (Pl.atW (Ts.map (·.L)) (List.range Ts.length) (Pl.ways L L.length)) v).toArray) ∧ ownI w' w.heap.size v (Pl.atW (Ts.map (·.L)) (List.range Ts.length) (Pl.ways L L.length)).parts ∧ Below w.heap.size w w' := by
  have HRR : Hid (Pl.atW (Ts.map (·.L)) (List.range Ts.length) (Pl.ways L L.length) = Pl.atW (Ts.map (·.L)) (List.range Ts.length) (Pl.ways L L.length)) := rfl
  generalize hR : Pl.atW (Ts.map (·.L)) (List.range Ts.length) (Pl.ways L L.length) = R
  clear HRR
  have HR := hide hR
  have HT := hide hT
  have HL := hide hL
  have HTR := hide hTr
  have HNM := hide hnm
  have HSZ := hide hsz
  have HAL := hide (fun W => all_any Ts.length W hn4)
  have HNA := hide (fun W => WPathS.names_any p W hps)
  rw [hpL] at HNA
  clear hT hL hTr hnm hR hsz
  have B0 : Hid (Below w.heap.size w (w.alloc (.cells (cellsO ⟨false, Pl.zeroN, []⟩ (.slice none 0 0)).toArray 86)) ∧ Mem.Blk (w.alloc (.cells (cellsO ⟨false, Pl.zeroN, []⟩ (.slice none 0 0)).toArray 86)) w.heap.size (cellsO ⟨false, Pl.zeroN, []⟩ (.slice none 0 0)).toArray 86) := ⟨(Below.refl _ _).alloc (Nat.le_refl _) _, Mem.Blk.new _ _ _⟩
  simp only [cellsO, Pl.zeroN] at B0
  go_enter Tryd.func52, Tryd.ntmps52
  go_wp2_with fail
  refine (unhide HAL _).mono ?_
  rintro e w1 ⟨vk, rfl, hownK, b1⟩
  simp only [sz_alloc] at hownK b1
  have B1 := hide (⟨(unhide B0).1.trans (b1.mono (by omega)), (unhide B0).2.below b1 (by omega)⟩ : Below w.heap.size w w1 ∧ _)
  have KO := hide hownK
  clear B0 HAL hownK
  go_wp2_with fail
  refine (unhide HNA _).mono ?_
  rintro e w2 ⟨vl, rfl, hownL, b2⟩
  have hs1 : w.heap.size + 1 ≤ w1.heap.size := by have h := b1.size; simp only [sz_alloc] at h; exact h
  have B2 := hide (⟨(unhide B1).1.trans (b2.mono (by omega)), (unhide B1).2.call b2⟩ : Below w.heap.size w w2 ∧ _)
  have KO2 := hide (ownI_call (unhide KO) b2)
  have KL := hide (Mem.own_mono hownL (show w.heap.size + 1 ≤ w1.heap.size by omega))
  have hs2 := b2.size
  clear B1 KO hownL HNA b1 b2
  obtain ⟨gl, cl, hvl⟩ : ∃ g cap, vl = .slice (some ⟨g, 0, none⟩) L.length cap := by
    rcases (unhide KL).2 with ⟨_, h0⟩ | ⟨g, cap, cur, hv, -⟩
    · omega
    · exact ⟨g, cap, hv⟩
  subst hvl
  have A0 : Hid (AtQ w (w2.alloc (.cells (cellsO ⟨false, Pl.zeroN, []⟩ (.slice none 0 0)).toArray 86)) w2.heap.size vk (List.range Ts.length) Pl.zeroO (.slice none 0 0) (.slice (some ⟨gl, 0, none⟩) L.length cl) L) :=
    ⟨by omega, (unhide B2).1.alloc (by omega) _, (unhide B2).2.alloc _, Mem.Blk.new _ _ _, row_call (unhide KO2) ((Below.refl _ _).alloc (Nat.le_refl _) _), ownI_nil _ _, row_call (unhide KL) ((Below.refl _ _).alloc (Nat.le_refl _) _), fun e => by have := (World.ownsRow.lt (unhide KO2) _ e).2; omega, fun e => (by cases e), fun e => by have := (World.ownsRow.lt (unhide KL) _ e).2; omega⟩
  simp only [cellsO, Pl.zeroN] at A0
  clear B2 KO2 KL
  go_upto_region 5 with fail
  generalize w2.alloc (.cells #[.bool false, .string ⟨#[]⟩, .int .i64 0, .string ⟨#[]⟩, .int .i64 0, .int .i64 0, .slice none 0 0] 86) = W0 at A0 ⊢
  generalize w2.heap.size = X at A0 ⊢
  clear hs1 hs2
  go_wp2
  go_loopw [5, 7, 9] (fun vk st i wr => ∃ j : Nat, j ≤ L.length ∧ i = .int .i64 (j : Int) ∧ st = .string (Pl.glue (L.take j)) ∧ Hid (∃ ks o v, AtQ w wr X vk ks o v (.slice (some ⟨gl, 0, none⟩) L.length cl) L ∧ ks.Sublist (List.range Ts.length) ∧ (j < L.length → ks ≠ [] ∧ Pl.atW (Ts.map (·.L)) ks ((Pl.ways L L.length).drop j) = R) ∧ (j = L.length → o = R))) (fun _ _ i _ => L.length - (intOf i).toNat)
  case atStart => exact ⟨0, Nat.zero_le _, rfl, rfl, ⟨_, _, _, unhide A0, List.Sublist.refl _, fun _ => ⟨fun e => by have h := congrArg List.length e; rw [List.length_range, List.length_nil] at h; omega, unhide HR⟩, fun h => absurd h (by omega)⟩⟩
  case round =>
    obtain ⟨j, hj, rfl, rfl, HA⟩ := hrel
    clear A0 HR
    by_cases hlt : j < L.length
    · obtain ⟨t, ht⟩ : ∃ t, L[j]? = some t := ⟨_, List.getElem?_eq_getElem hlt⟩
      have htn := unhide HNM t (List.mem_of_getElem? ht)
      obtain ⟨ks, o, v, KQ, hsub, hgo, -⟩ := unhide HA
      obtain ⟨hne, EG⟩ := hgo hlt
      obtain ⟨gp, cp, rfl, hgB, hgp, hcK⟩ := ownI_cells KQ.ownK hne
      have cL := KQ.txt.cells (g := gl) rfl j (.string t) (by simp [ht])
      rw [Mem.add_lit] at cL
      have htz : t.size ≤ 20 := Nat.le_of_not_lt fun h => by rw [Pl.nameB_long h] at htn; cases htn
      have HJ := hide (WPathS.join1_any (Pl.glue (L.take j)) t wr (unhide HSZ j) (by omega))
      rw [Pl.way_join (unhide HNM) ht] at HJ
      have hk4 : ks.length ≤ 4 := by have := hsub.length_le; rw [List.length_range] at this; omega
      have HCH := hide (child_any (Pl.glue (L.take (j + 1))) Ts ks ad capt gp cp wr (Mem.trees_call (unhide HT) KQ.bel) hn4 hne hk4 (fun k hk => by have := hsub.subset hk; rw [List.mem_range] at this; exact this) hgp hcK (unhide HL))
      have HSA := hide (Pl.child_same (Ls := Ts.map (·.L)) (ks := ks) (q := Pl.glue (L.take (j + 1))) (by rw [List.length_map]; exact hn4) (unhide HTR) (by rw [List.length_map]; exact hsub))
      have HSU := hide (Pl.child_sub (Ls := Ts.map (·.L)) (ks := ks) (q := Pl.glue (L.take (j + 1))) (by rw [List.length_map]; exact hsub))
      have HLS : Hid (j + 1 = L.length → (if (Pl.childO (Ts.map (·.L)) ks (Pl.glue (L.take (j + 1)))).ok = true then (Pl.childO (Ts.map (·.L)) ks (Pl.glue (L.take (j + 1)))) else Pl.zeroO) = R) := fun h => (Pl.at_last h rfl).symm.trans EG
      have HMR : Hid (j + 1 < L.length → (if (Pl.childO (Ts.map (·.L)) ks (Pl.glue (L.take (j + 1)))).ok = true ∧ (Pl.childO (Ts.map (·.L)) ks (Pl.glue (L.take (j + 1)))).node.kind = 1 then Pl.atW (Ts.map (·.L)) (Pl.childO (Ts.map (·.L)) ks (Pl.glue (L.take (j + 1)))).parts ((Pl.ways L L.length).drop (j + 1)) else Pl.zeroO) = R) := fun h => (Pl.at_more h rfl).symm.trans EG
      have y1 : (j : Int) < (L.length : Int) := by omega
      have y2 : (0 : Int) ≤ (j : Int) := by omega
      have KA := hide KQ
      clear KQ hcK EG hgo HA hsub
      go_wp2_with fail
      refine (unhide HJ).mono ?_
      rintro e wJ ⟨rfl, hwJ⟩
      subst wJ
      clear HJ cL
      generalize hq : Pl.glue (L.take (j + 1)) = q at HCH HSA HSU HLS HMR ⊢
      generalize Pl.childO (Ts.map (·.L)) ks q = o' at HCH HSA HSU HLS HMR
      go_wp2_with fail
      refine (unhide HCH).mono ?_
      rintro e w2 ⟨v', rfl, hown', b2⟩
      obtain ⟨ok, ⟨np, nk, nd, nt, nm⟩, kz⟩ := o'
      obtain ⟨va, vc, rfl⟩ := ownI_shape hown'
      have hsz := (unhide KA).bel.size
      have hXl := (unhide KA).out.lt
      have hXg := (unhide KA).lt
      have KB := hide ((unhide KA).call b2)
      have own2 := hide (ownI_mono hown' (show w.heap.size + 1 ≤ wr.heap.size by omega))
      have far2 := hide (ownI_new hown' hXl)
      clear KA HCH b2 hown'
      simp only [cellsO]
      obtain ⟨ok0, ⟨np0, nk0, nd0, nt0, nm0⟩, kz0⟩ := o
      have c0 := (unhide KB).out.cell 0
      have cf0 := (unhide KB).out.fr 0
      have c1 := (unhide KB).out.cell 1
      have cf1 := (unhide KB).out.fr 1
      have c2 := (unhide KB).out.cell 2
      have cf2 := (unhide KB).out.fr 2
      have c3 := (unhide KB).out.cell 3
      have cf3 := (unhide KB).out.fr 3
      have c4 := (unhide KB).out.cell 4
      have cf4 := (unhide KB).out.fr 4
      have c5 := (unhide KB).out.cell 5
      have cf5 := (unhide KB).out.fr 5
      have c6 := (unhide KB).out.cell 6
      have cf6 := (unhide KB).out.fr 6
      simp only [cellsO, Pl.zeroN, kA0, kA1, kA2] at c0 c1 c2 c3 c4 c5 c6
      go_upto_region 10 with fail
      have KC := hide ((unhide KB).put (o' := ⟨ok, ⟨np, nk, nd, nt, nm⟩, kz⟩) (unhide own2) (unhide far2))
      clear KB own2 far2 c0 c1 c2 c3 c4 c5 c6 cf0 cf1 cf2 cf3 cf4 cf5 cf6
      simp only at KC
      generalize (((((((w2.setCell ⟨X, 0, none⟩ (.bool (ok))).setCell ⟨X, 1, none⟩ (.string (np))).setCell ⟨X, 2, none⟩ (.int .i64 (nk))).setCell ⟨X, 3, none⟩ (.string (nd))).setCell ⟨X, 4, none⟩ (.int .i64 (nt))).setCell ⟨X, 5, none⟩ (.int .i64 (nm))).setCell ⟨X, 6, none⟩ (.slice va kz.length vc)) = W3 at KC ⊢
      have d0 := (unhide KC).out.cell 0
      have d2 := (unhide KC).out.cell 2
      have d6 := (unhide KC).out.cell 6
      simp only [cellsO, kA0, kA1, kA2] at d0 d2 d6
      have hwl : IntKind.i64.wrap ((L.length : Int) - 1) = (L.length : Int) - 1 := by simp only [IntKind.wrap_i64]; omega
      cases ok with
      | false =>
        have EZ : Hid (Pl.zeroO = R) := by
          by_cases hz : j + 1 = L.length
          · have h := unhide HLS hz
            simp only [Bool.false_eq_true, if_false] at h
            exact h
          · have h := unhide HMR (by omega)
            simp only [Bool.false_eq_true, false_and, if_false] at h
            exact h
        clear HLS HMR HSA HSU
        go_upto_region 11 with fail
        clear d0 d2 d6
        have r0 := (unhide KC).res.cell 0
        have rf0 := (unhide KC).res.fr 0
        have r1 := (unhide KC).res.cell 1
        have rf1 := (unhide KC).res.fr 1
        have r2 := (unhide KC).res.cell 2
        have rf2 := (unhide KC).res.fr 2
        have r3 := (unhide KC).res.cell 3
        have rf3 := (unhide KC).res.fr 3
        have r4 := (unhide KC).res.cell 4
        have rf4 := (unhide KC).res.fr 4
        have r5 := (unhide KC).res.cell 5
        have rf5 := (unhide KC).res.fr 5
        have r6 := (unhide KC).res.cell 6
        have rf6 := (unhide KC).res.fr 6
        simp only [cellsO, Pl.zeroN, kA0, kA1, kA2] at r0 r1 r2 r3 r4 r5 r6
        have RT := hide (ret7 (unhide KC).bel (unhide KC).res rfl (ownI_nil _ _) (false) (⟨#[]⟩) (0) (⟨#[]⟩) (0) (0) (.slice none 0 0))
        have EV := EZ
        go_wp2
        generalize (((((((W3.setCell ⟨w.heap.size, 0, none⟩ (.bool (false))).setCell ⟨w.heap.size, 1, none⟩ (.string (⟨#[]⟩))).setCell ⟨w.heap.size, 2, none⟩ (.int .i64 (0))).setCell ⟨w.heap.size, 3, none⟩ (.string (⟨#[]⟩))).setCell ⟨w.heap.size, 4, none⟩ (.int .i64 (0))).setCell ⟨w.heap.size, 5, none⟩ (.int .i64 (0))).setCell ⟨w.heap.size, 6, none⟩ (.slice none 0 0)) = WR at RT ⊢
        have q0 := (unhide RT).1.cell 0
        have q1 := (unhide RT).1.cell 1
        have q2 := (unhide RT).1.cell 2
        have q3 := (unhide RT).1.cell 3
        have q4 := (unhide RT).1.cell 4
        have q5 := (unhide RT).1.cell 5
        have q6 := (unhide RT).1.cell 6
        simp only [kA0, kA1, kA2] at q0 q1 q2 q3 q4 q5 q6
        exact bodyPost_ret (v := .agg #[.bool (false), .string (⟨#[]⟩), .int .i64 (0), .string (⟨#[]⟩), .int .i64 (0), .int .i64 (0), .slice none 0 0]) (by simp [results, Tryd.results52, go_sem, q0, q1, q2, q3, q4, q5, q6]) rfl ⟨.slice none 0 0, by rw [← unhide EV]; rfl, by rw [← unhide EV]; exact (unhide RT).2.2, (unhide RT).2.1⟩
      | true =>
        by_cases hz : j + 1 = L.length
        · have EF : Hid ((⟨true, ⟨np, nk, nd, nt, nm⟩, kz⟩ : Pl.Ot) = R) := by
            have h := unhide HLS hz
            simp only [if_true] at h
            exact h
          have y5 : ¬ (j : Int) < (L.length : Int) - 1 := by omega
          have HSU2 : Hid (kz.Sublist (List.range Ts.length)) := by have h := unhide HSU; rw [List.length_map] at h; exact h
          clear HLS HMR HSA HSU
          go_wp2
          go_roundw
          case rel => exact ⟨j + 1, by omega, by go_num, by rw [hq], ⟨kz, _, _, (unhide KC).next, unhide HSU2, fun h => absurd h (by omega), fun _ => unhide EF⟩⟩
          case measure => simp [intOf]; omega
        · have hz2 : j + 1 < L.length := by omega
          have y5 : (j : Int) < (L.length : Int) - 1 := by omega
          by_cases hk1 : nk = 1
          · subst hk1
            have EF : Hid (Pl.atW (Ts.map (·.L)) kz ((Pl.ways L L.length).drop (j + 1)) = R) := by
              have h := unhide HMR hz2
              simp only [and_self, if_true] at h
              exact h
            have HNE : Hid (kz ≠ []) := fun e => (unhide HSA).no e rfl rfl
            have HSU2 : Hid (kz.Sublist (List.range Ts.length)) := by have h := unhide HSU; rw [List.length_map] at h; exact h
            clear HLS HMR HSA HSU
            go_wp2
            go_roundw
            case rel => exact ⟨j + 1, by omega, by go_num, by rw [hq], ⟨kz, _, _, (unhide KC).next, unhide HSU2, fun _ => ⟨unhide HNE, unhide EF⟩, fun h => absurd h (by omega)⟩⟩
            case measure => simp [intOf]; omega
          · have EZ : Hid (Pl.zeroO = R) := by
              have h := unhide HMR hz2
              simp only [hk1, and_false, if_false] at h
              exact h
            clear HLS HMR HSA HSU
            go_upto_region 11 with fail
            clear d0 d2 d6
            have r0 := (unhide KC).res.cell 0
            have rf0 := (unhide KC).res.fr 0
            have r1 := (unhide KC).res.cell 1
            have rf1 := (unhide KC).res.fr 1
            have r2 := (unhide KC).res.cell 2
            have rf2 := (unhide KC).res.fr 2
            have r3 := (unhide KC).res.cell 3
            have rf3 := (unhide KC).res.fr 3
            have r4 := (unhide KC).res.cell 4
            have rf4 := (unhide KC).res.fr 4
            have r5 := (unhide KC).res.cell 5
            have rf5 := (unhide KC).res.fr 5
            have r6 := (unhide KC).res.cell 6
            have rf6 := (unhide KC).res.fr 6
            simp only [cellsO, Pl.zeroN, kA0, kA1, kA2] at r0 r1 r2 r3 r4 r5 r6
            have RT := hide (ret7 (unhide KC).bel (unhide KC).res rfl (ownI_nil _ _) (false) (⟨#[]⟩) (0) (⟨#[]⟩) (0) (0) (.slice none 0 0))
            have EV := EZ
            go_wp2
            generalize (((((((W3.setCell ⟨w.heap.size, 0, none⟩ (.bool (false))).setCell ⟨w.heap.size, 1, none⟩ (.string (⟨#[]⟩))).setCell ⟨w.heap.size, 2, none⟩ (.int .i64 (0))).setCell ⟨w.heap.size, 3, none⟩ (.string (⟨#[]⟩))).setCell ⟨w.heap.size, 4, none⟩ (.int .i64 (0))).setCell ⟨w.heap.size, 5, none⟩ (.int .i64 (0))).setCell ⟨w.heap.size, 6, none⟩ (.slice none 0 0)) = WR at RT ⊢
            have q0 := (unhide RT).1.cell 0
            have q1 := (unhide RT).1.cell 1
            have q2 := (unhide RT).1.cell 2
            have q3 := (unhide RT).1.cell 3
            have q4 := (unhide RT).1.cell 4
            have q5 := (unhide RT).1.cell 5
            have q6 := (unhide RT).1.cell 6
            simp only [kA0, kA1, kA2] at q0 q1 q2 q3 q4 q5 q6
            exact bodyPost_ret (v := .agg #[.bool (false), .string (⟨#[]⟩), .int .i64 (0), .string (⟨#[]⟩), .int .i64 (0), .int .i64 (0), .slice none 0 0]) (by simp [results, Tryd.results52, go_sem, q0, q1, q2, q3, q4, q5, q6]) rfl ⟨.slice none 0 0, by rw [← unhide EV]; rfl, by rw [← unhide EV]; exact (unhide RT).2.2, (unhide RT).2.1⟩
    · obtain rfl : j = L.length := by omega
      obtain ⟨ks, o, v, KQ, -, -, hend⟩ := unhide HA
      obtain ⟨ok, ⟨np, nk, nd, nt, nm⟩, kz⟩ := o
      obtain ⟨va, vc, rfl⟩ := ownI_shape KQ.own
      have EF : Hid ((⟨ok, ⟨np, nk, nd, nt, nm⟩, kz⟩ : Pl.Ot) = R) := hend rfl
      have y2 : ¬ (L.length : Int) < (L.length : Int) := by omega
      have KC := hide KQ
      simp only at KC
      clear KQ hend HA
      go_upto_region 13 with fail
      have c0 := (unhide KC).out.cell 0
      have cf0 := (unhide KC).out.fr 0
      have c1 := (unhide KC).out.cell 1
      have cf1 := (unhide KC).out.fr 1
      have c2 := (unhide KC).out.cell 2
      have cf2 := (unhide KC).out.fr 2
      have c3 := (unhide KC).out.cell 3
      have cf3 := (unhide KC).out.fr 3
      have c4 := (unhide KC).out.cell 4
      have cf4 := (unhide KC).out.fr 4
      have c5 := (unhide KC).out.cell 5
      have cf5 := (unhide KC).out.fr 5
      have c6 := (unhide KC).out.cell 6
      have cf6 := (unhide KC).out.fr 6
      simp only [cellsO, Pl.zeroN, kA0, kA1, kA2] at c0 c1 c2 c3 c4 c5 c6
      have r0 := (unhide KC).res.cell 0
      have rf0 := (unhide KC).res.fr 0
      have r1 := (unhide KC).res.cell 1
      have rf1 := (unhide KC).res.fr 1
      have r2 := (unhide KC).res.cell 2
      have rf2 := (unhide KC).res.fr 2
      have r3 := (unhide KC).res.cell 3
      have rf3 := (unhide KC).res.fr 3
      have r4 := (unhide KC).res.cell 4
      have rf4 := (unhide KC).res.fr 4
      have r5 := (unhide KC).res.cell 5
      have rf5 := (unhide KC).res.fr 5
      have r6 := (unhide KC).res.cell 6
      have rf6 := (unhide KC).res.fr 6
      simp only [cellsO, Pl.zeroN, kA0, kA1, kA2] at r0 r1 r2 r3 r4 r5 r6
      have RT := hide (ret7 (unhide KC).bel (unhide KC).res rfl (unhide KC).own (ok) (np) (nk) (nd) (nt) (nm) (.slice va kz.length vc))
      have EV := EF
      go_wp2
      generalize (((((((wr.setCell ⟨w.heap.size, 0, none⟩ (.bool (ok))).setCell ⟨w.heap.size, 1, none⟩ (.string (np))).setCell ⟨w.heap.size, 2, none⟩ (.int .i64 (nk))).setCell ⟨w.heap.size, 3, none⟩ (.string (nd))).setCell ⟨w.heap.size, 4, none⟩ (.int .i64 (nt))).setCell ⟨w.heap.size, 5, none⟩ (.int .i64 (nm))).setCell ⟨w.heap.size, 6, none⟩ (.slice va kz.length vc)) = WR at RT ⊢
      have q0 := (unhide RT).1.cell 0
      have q1 := (unhide RT).1.cell 1
      have q2 := (unhide RT).1.cell 2
      have q3 := (unhide RT).1.cell 3
      have q4 := (unhide RT).1.cell 4
      have q5 := (unhide RT).1.cell 5
      have q6 := (unhide RT).1.cell 6
      simp only [kA0, kA1, kA2] at q0 q1 q2 q3 q4 q5 q6
      exact bodyPost_ret (v := .agg #[.bool (ok), .string (np), .int .i64 (nk), .string (nd), .int .i64 (nt), .int .i64 (nm), .slice va kz.length vc]) (by simp [results, Tryd.results52, go_sem, q0, q1, q2, q3, q4, q5, q6]) rfl ⟨.slice va kz.length vc, by rw [← unhide EV]; rfl, by rw [← unhide EV]; exact (unhide RT).2.2, (unhide RT).2.1⟩

end WPick
end Go.Proofs.YtkfpfckmjgjanabDoor
