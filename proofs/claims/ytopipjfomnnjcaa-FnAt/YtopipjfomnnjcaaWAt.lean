/- The walk of the program's PathAt: a text seen from a base. -/
import Derived.Test.YtopipjfomnnjcaaWStep
import Derived.Test.YtopipjfomnnjcaaWUnder
import Derived.Test.YtopipjfomnnjcaaMemRes
namespace Go.Proofs.Ytopipjfomnnjcaa
open Go.RowKit
namespace Mem
theorem cell_same {w w' : World} {b o : Nat} (h : w'.heap[b]? = w.heap[b]?) : w'.cell? ⟨b, o, none⟩ = w.cell? ⟨b, o, none⟩ := by simp [World.cell?, h]
theorem Res.grown {w w1 w2 : World} {N : Nat} {e size n : Nat} {v : Value} {xs : List Value} (h : Res w w1) (hg : w1.grownBy w2 v.ownBlock) (hown : w1.ownsRow N e size v n xs) (hN : w.heap.size < N) : Res w w2 := by
  have hne : some w.heap.size ≠ v.ownBlock := fun hv => by have := (hown.lt _ hv.symm).1; omega
  exact ⟨(hg.block _ h.lt hne).trans h.heap, h.bel.grown hg (Nat.le_of_lt h.lt) (fun k hk => by have := (hown.lt k hk).1; omega)⟩
end Mem
namespace WPathI
set_option maxRecDepth 100000 in
set_option maxHeartbeats 1000000 in
theorem at_any (p n : ByteArray) (w : World) (hp : p.size ≤ 1048576) (hq : n.size ≤ 1048576) :
    Calls Try.prog 42 #[.string p, .string n] w fun e w' => e = .returned (Pl.tOut (Pl.atO p n)) ∧ Below w.heap.size w w' := by
  by_cases h1 : 8000 < p.size ∨ 8000 < n.size
  · have E : Hid (Pl.tOut (Pl.atO p n) = .agg #[.string ⟨#[]⟩, .int .i64 0, .int .i64 2]) := by show _ = _; rw [Pl.atO, if_pos h1]; rfl
    generalize Pl.tOut (Pl.atO p n) = R at E ⊢
    by_cases h2 : 8000 < p.size
    · clear h1
      go_enter Try.func42, Try.ntmps42
      go_wp2
      refine bodyPost_ret (v := .agg #[.string ⟨#[]⟩, .int .i64 0, .int .i64 2]) (by simp [results, Try.results42, go_sem]) rfl ⟨by rw [E.out], ?_⟩
      exact (Below.refl _ _).alloc (Nat.le_refl _) _
    · have h3 : 8000 < n.size := by omega
      clear h1
      go_enter Try.func42, Try.ntmps42
      go_wp2
      refine bodyPost_ret (v := .agg #[.string ⟨#[]⟩, .int .i64 0, .int .i64 2]) (by simp [results, Try.results42, go_sem]) rfl ⟨by rw [E.out], ?_⟩
      exact (Below.refl _ _).alloc (Nat.le_refl _) _
  have h2 : ¬ 8000 < p.size := fun h => h1 (.inl h)
  have h3 : ¬ 8000 < n.size := fun h => h1 (.inr h)
  have hn := hide (fun W => WNames.any p W hp)
  have hA := hide (Pl.namesR_all p)
  have EB : Hid (Pl.pathB p = false → Pl.tOut (Pl.atO p n) = .agg #[.string ⟨#[]⟩, .int .i64 0, .int .i64 1]) := fun h => by
    rw [Pl.atO, if_neg h1, if_pos h]; rfl
  have EG : Hid (Pl.pathB p = true → ∀ h, Pl.walkW (Pl.start p n) (Pl.cut n 47) = .ok h → Pl.tOut (Pl.atO p n) = .agg #[.string (Pl.glue h), .int .i64 0, .int .i64 0]) := fun h h' hw => by
    rw [Pl.atO, if_neg h1, if_neg (by simp [h]), hw]; rfl
  have EE : Hid (Pl.pathB p = true → ∀ c, Pl.walkW (Pl.start p n) (Pl.cut n 47) = .error c → Pl.tOut (Pl.atO p n) = .agg #[.string ⟨#[]⟩, .int .i64 0, .int .i64 c]) := fun h c hw => by
    rw [Pl.atO, if_neg h1, if_neg (by simp [h]), hw]; rfl
  have HW1 : Hid (∀ t, (Pl.cut n 47)[0]? = some t → Pl.slashB n = (decide (Pl.by_ t = []) && decide (1 < (Pl.cut n 47).length))) := fun t ht => Pl.cut_first ht
  have HW2 : Hid (Pl.slashB n = true → Pl.start p n = []) := fun h => by rw [Pl.start, h]; rfl
  have HW3 : Hid (Pl.slashB n = false → Pl.start p n = Pl.namesR p) := fun h => by rw [Pl.start, h]; rfl
  have hpos := Pl.cut_pos n
  have hlen := Pl.cut_length n
  have HSZ : Hid (∀ (k : Nat) t, (Pl.cut n 47)[k]? = some t → t.size ≤ 8000) := fun k t ht => by have := Pl.cut_size ht; omega
  have hwd := hide (fun W => WWords.any n W hq)
  generalize Pl.tOut (Pl.atO p n) = R at EB EG EE ⊢
  generalize Pl.pathB p = r at hn EB EG EE
  generalize Pl.namesR p = A at hn hA HW3
  generalize Pl.cut n 47 = L at EG EE HW1 hpos hlen HSZ hwd
  generalize Pl.start p n = S0 at EG EE HW2 HW3
  clear h1
  cases r
  · have E := hide (EB.out rfl)
    clear EB EG EE
    go_enter Try.func42, Try.ntmps42
    go_wp2_with fail
    refine (unhide hn _).mono ?_
    rintro e w1 ⟨v, rfl, hown, hb⟩
    have hR := (Mem.Res.start w).call hb
    obtain ⟨⟨c0, c1, c2⟩, ⟨f0, f1, f2⟩⟩ := hR.cells
    have hB := hR.bel
    clear hb hR hown
    go_wp2
    refine bodyPost_ret (v := .agg #[.string ⟨#[]⟩, .int .i64 0, .int .i64 1]) (by simp [results, Try.results42, go_sem, c0, c1, c2]) rfl ⟨by rw [unhide E], ?_⟩
    exact ((hB.setCell (by simp) _).setCell (by simp) _).setCell (by simp) _
  have EG2 : Hid (∀ h, Pl.walkW S0 L = .ok h → R = .agg #[.string (Pl.glue h), .int .i64 0, .int .i64 0]) := fun h hw => EG.out rfl h hw
  have EE2 : Hid (∀ c, Pl.walkW S0 L = .error c → R = .agg #[.string ⟨#[]⟩, .int .i64 0, .int .i64 c]) := fun c hw => EE.out rfl c hw
  clear EG EE EB
  obtain ⟨t0, ht0⟩ : ∃ t, L[0]? = some t := ⟨_, List.getElem?_eq_getElem hpos⟩
  have hsl := HW1.out t0 ht0
  go_enter Try.func42, Try.ntmps42
  go_wp2_with fail
  refine (unhide hn _).mono ?_
  rintro e w1 ⟨v, rfl, hown, hb⟩
  have hR := (Mem.Res.start w).call hb
  have hs1 := hb.size
  have hbase : w.heap.size < (w.alloc (.cells #[.string ⟨#[]⟩, .int .i64 0, .int .i64 0] 27)).heap.size := (Mem.Res.start w).lt
  generalize (w.alloc (.cells #[.string ⟨#[]⟩, .int .i64 0, .int .i64 0] 27)).heap.size = N at hown hs1 hbase
  have HO := hide hown
  clear hb hn hown
  go_wp2_with fail
  refine (unhide hwd _).mono ?_
  rintro e w2 ⟨u, rfl, hown2, hb2⟩
  have HO2 := hide (Mem.own_call (unhide HO) hb2)
  have HNE : Hid (∀ k, w1.heap.size ≤ k → v.ownBlock ≠ some k) := fun k hk hv => by have := ((unhide HO).lt k hv).2; omega
  have hR2 := hR.call hb2
  have hs2 := hb2.size
  rcases Mem.texts hown2 with ⟨rfl, rfl⟩ | ⟨g, cap, rfl, hcap, hm, hgb, hgl, hcell⟩
  · simp at hpos
  have HC := hide hcell
  clear hb2 hown2 hcell hwd HO hR
  have hm2 := hm
  unfold maxLen at hm2
  have hc0 := unhide HC 0 t0 ht0
  have HNV : Hid (v.ownBlock ≠ some g) := HNE.out g hgb
  by_cases e0 : Pl.by_ t0 = []
  · by_cases e1 : 1 < L.length
    · have HS0 : Hid (S0 = []) := HW2.out (by rw [hsl]; simp [e0, e1])
      have d1 : t0.toList.isEmpty = true := by rw [Pl.empty_list]; simp [e0]
      have d2 : (1 : Int) < (L.length : Int) := by omega
      have HOV : Hid (w2.ownsRow N 9 1 (.slice none 0 0) ([] : List ByteArray).length (([] : List ByteArray).map Value.string)) := World.ownsRow_nil _ _ _ _
      have HNV : Hid (Value.ownBlock (.slice none 0 0) ≠ some g) := by intro h; simp [Value.ownBlock] at h
      have HAL : Hid ((∀ t ∈ ([] : List ByteArray), Pl.nameB t = true) ∧ ([] : List ByteArray).length ≤ 6) := ⟨fun t h => by simp at h, by simp⟩
      clear HW1 HW2 HW3 hsl e0 HNE ht0 HO2
      go_wp2
      go_loopw [5, 42] (fun V i wr => ∃ (k : Nat) (h : List ByteArray), k ≤ L.length ∧ i = .int .i64 (k : Int) ∧ Hid (wr.ownsRow N 9 1 V h.length (h.map Value.string)) ∧ Hid (V.ownBlock ≠ some g) ∧
          Hid (∀ (j : Nat) t, L[j]? = some t → wr.cell? ⟨g, j, none⟩ = some (.string t)) ∧ w2.heap.size ≤ wr.heap.size ∧ Mem.Res w wr ∧ Hid ((∀ t ∈ h, Pl.nameB t = true) ∧ h.length ≤ 6) ∧ Hid (Pl.walkW S0 L = Pl.walkW h (L.drop k))) (fun _ i _ => L.length - (intOf i).toNat)
      case atStart => exact ⟨0, [], Nat.zero_le _, rfl, HOV, HNV, HC, Nat.le_refl _, hR2, HAL, by show _ = _; rw [HS0.out]; rfl⟩
      case round =>
        obtain ⟨k, h, hk, rfl, HO, HNV, HC, hsw, hR, HAL, HW⟩ := hrel
        by_cases hlt : k < L.length
        · obtain ⟨t, ht⟩ : ∃ t, L[k]? = some t := ⟨_, List.getElem?_eq_getElem hlt⟩
          have hc := HC.out k t ht
          have hts := HSZ.out k t ht
          have HT := hide ht
          have u1 : (k : Int) < (L.length : Int) := by omega
          clear ht
          go_wp2_with fail
          refine (WStep.any N _ h t wr (by omega) (unhide HO) (unhide HAL).2 hts).mono ?_
          rintro e w3 ⟨hgrow, hout⟩
          have hR3 := hR.grown hgrow (unhide HO) hbase
          have hs3 := hgrow.size
          rcases hout with ⟨v', h', hst, rfl, hown', hat⟩ | ⟨v', c, hst, rfl, hcc⟩
          · have HO3 := hide hown'
            have HNV3 : Hid (v'.ownBlock ≠ some g) := by
              rcases hat with hat | ⟨q, hat, hq⟩
              · intro hv; exact HNV.out (hat.symm.trans hv)
              · intro hv; rw [hat] at hv; cases hv; omega
            have HC3 : Hid (∀ (j : Nat) t, L[j]? = some t → w3.cell? ⟨g, j, none⟩ = some (.string t)) := fun j t hj =>
              (Mem.cell_same (hgrow.block g (by omega) (fun hv => HNV.out hv.symm))).trans (HC.out j t hj)
            have HAL3 : Hid ((∀ t ∈ h', Pl.nameB t = true) ∧ h'.length ≤ 6) := Pl.step_all hst (unhide HAL).1 (unhide HAL).2
            have HW3 : Hid (Pl.walkW S0 L = Pl.walkW h' (L.drop (k + 1))) := HW.out.trans (Pl.walk_ok (unhide HT) hst)
            clear hgrow hst hown' hat hR HO HNV HC HAL HW hc
            go_wp2
            go_roundw
            case rel => exact ⟨k + 1, h', by omega, by go_num, HO3, HNV3, HC3, by omega, hR3, HAL3, HW3⟩
            case measure => simp [intOf]; omega
          · have E := hide (EE2.out c (HW.out.trans (Pl.walk_no (unhide HT) hst)))
            have k1 : (c == 0) = false := by rw [beq_eq_false_iff_ne]; exact hcc
            obtain ⟨⟨c0, c1, c2⟩, ⟨f0, f1, f2⟩⟩ := hR3.cells
            have hB := hR3.bel
            clear hgrow hst hR hR3 HO HNV HC HAL HW hc EG2 EE2 hcc
            go_wp2
            refine bodyPost_ret (v := .agg #[.string ⟨#[]⟩, .int .i64 0, .int .i64 c]) (by simp [results, Try.results42, go_sem, c0, c1, c2]) rfl ⟨by rw [unhide E], ?_⟩
            exact ((hB.setCell (by simp) _).setCell (by simp) _).setCell (by simp) _
        · obtain rfl : k = L.length := by omega
          have E := hide (EG2.out h (HW.out.trans (Pl.walk_end L)))
          have i1 := hide (Mem.own_texts (unhide HO))
          clear EG2 EE2 HW HC HNV HO
          go_wp2_with fail
          refine (WPathOf.any _ h _ (by have := (unhide HAL).2; omega) (Pl.glue_small (unhide HAL).1 (by have := (unhide HAL).2; omega)) (unhide i1)).mono ?_
          rintro e w3 ⟨rfl, hb3⟩
          have hR3 := hR.call hb3
          obtain ⟨⟨c0, c1, c2⟩, ⟨f0, f1, f2⟩⟩ := hR3.cells
          have hB := hR3.bel
          clear hb3 hR hR3
          generalize Pl.glue h = body at E ⊢
          go_wp2
          refine bodyPost_ret (v := .agg #[.string body, .int .i64 0, .int .i64 0]) (by simp [results, Try.results42, go_sem, c0, c1, c2]) rfl ⟨by rw [unhide E], ?_⟩
          exact ((hB.setCell (by simp) _).setCell (by simp) _).setCell (by simp) _
    · have HS0 : Hid (S0 = A) := HW3.out (by rw [hsl]; simp [e1])
      have d1 : t0.toList.isEmpty = true := by rw [Pl.empty_list]; simp [e0]
      have d2 : ¬ (1 : Int) < (L.length : Int) := by omega
      have HOV := HO2
      have HAL := hA
      clear HW1 HW2 HW3 hsl e0 HNE ht0
      go_wp2
      go_loopw [5, 42] (fun V i wr => ∃ (k : Nat) (h : List ByteArray), k ≤ L.length ∧ i = .int .i64 (k : Int) ∧ Hid (wr.ownsRow N 9 1 V h.length (h.map Value.string)) ∧ Hid (V.ownBlock ≠ some g) ∧
          Hid (∀ (j : Nat) t, L[j]? = some t → wr.cell? ⟨g, j, none⟩ = some (.string t)) ∧ w2.heap.size ≤ wr.heap.size ∧ Mem.Res w wr ∧ Hid ((∀ t ∈ h, Pl.nameB t = true) ∧ h.length ≤ 6) ∧ Hid (Pl.walkW S0 L = Pl.walkW h (L.drop k))) (fun _ i _ => L.length - (intOf i).toNat)
      case atStart => exact ⟨0, A, Nat.zero_le _, rfl, HOV, HNV, HC, Nat.le_refl _, hR2, HAL, by show _ = _; rw [HS0.out]; rfl⟩
      case round =>
        obtain ⟨k, h, hk, rfl, HO, HNV, HC, hsw, hR, HAL, HW⟩ := hrel
        by_cases hlt : k < L.length
        · obtain ⟨t, ht⟩ : ∃ t, L[k]? = some t := ⟨_, List.getElem?_eq_getElem hlt⟩
          have hc := HC.out k t ht
          have hts := HSZ.out k t ht
          have HT := hide ht
          have u1 : (k : Int) < (L.length : Int) := by omega
          clear ht
          go_wp2_with fail
          refine (WStep.any N _ h t wr (by omega) (unhide HO) (unhide HAL).2 hts).mono ?_
          rintro e w3 ⟨hgrow, hout⟩
          have hR3 := hR.grown hgrow (unhide HO) hbase
          have hs3 := hgrow.size
          rcases hout with ⟨v', h', hst, rfl, hown', hat⟩ | ⟨v', c, hst, rfl, hcc⟩
          · have HO3 := hide hown'
            have HNV3 : Hid (v'.ownBlock ≠ some g) := by
              rcases hat with hat | ⟨q, hat, hq⟩
              · intro hv; exact HNV.out (hat.symm.trans hv)
              · intro hv; rw [hat] at hv; cases hv; omega
            have HC3 : Hid (∀ (j : Nat) t, L[j]? = some t → w3.cell? ⟨g, j, none⟩ = some (.string t)) := fun j t hj =>
              (Mem.cell_same (hgrow.block g (by omega) (fun hv => HNV.out hv.symm))).trans (HC.out j t hj)
            have HAL3 : Hid ((∀ t ∈ h', Pl.nameB t = true) ∧ h'.length ≤ 6) := Pl.step_all hst (unhide HAL).1 (unhide HAL).2
            have HW3 : Hid (Pl.walkW S0 L = Pl.walkW h' (L.drop (k + 1))) := HW.out.trans (Pl.walk_ok (unhide HT) hst)
            clear hgrow hst hown' hat hR HO HNV HC HAL HW hc
            go_wp2
            go_roundw
            case rel => exact ⟨k + 1, h', by omega, by go_num, HO3, HNV3, HC3, by omega, hR3, HAL3, HW3⟩
            case measure => simp [intOf]; omega
          · have E := hide (EE2.out c (HW.out.trans (Pl.walk_no (unhide HT) hst)))
            have k1 : (c == 0) = false := by rw [beq_eq_false_iff_ne]; exact hcc
            obtain ⟨⟨c0, c1, c2⟩, ⟨f0, f1, f2⟩⟩ := hR3.cells
            have hB := hR3.bel
            clear hgrow hst hR hR3 HO HNV HC HAL HW hc EG2 EE2 hcc
            go_wp2
            refine bodyPost_ret (v := .agg #[.string ⟨#[]⟩, .int .i64 0, .int .i64 c]) (by simp [results, Try.results42, go_sem, c0, c1, c2]) rfl ⟨by rw [unhide E], ?_⟩
            exact ((hB.setCell (by simp) _).setCell (by simp) _).setCell (by simp) _
        · obtain rfl : k = L.length := by omega
          have E := hide (EG2.out h (HW.out.trans (Pl.walk_end L)))
          have i1 := hide (Mem.own_texts (unhide HO))
          clear EG2 EE2 HW HC HNV HO
          go_wp2_with fail
          refine (WPathOf.any _ h _ (by have := (unhide HAL).2; omega) (Pl.glue_small (unhide HAL).1 (by have := (unhide HAL).2; omega)) (unhide i1)).mono ?_
          rintro e w3 ⟨rfl, hb3⟩
          have hR3 := hR.call hb3
          obtain ⟨⟨c0, c1, c2⟩, ⟨f0, f1, f2⟩⟩ := hR3.cells
          have hB := hR3.bel
          clear hb3 hR hR3
          generalize Pl.glue h = body at E ⊢
          go_wp2
          refine bodyPost_ret (v := .agg #[.string body, .int .i64 0, .int .i64 0]) (by simp [results, Try.results42, go_sem, c0, c1, c2]) rfl ⟨by rw [unhide E], ?_⟩
          exact ((hB.setCell (by simp) _).setCell (by simp) _).setCell (by simp) _
  · have HS0 : Hid (S0 = A) := HW3.out (by rw [hsl]; simp [e0])
    have d1 : t0.toList.isEmpty = false := by rw [Pl.empty_list]; simp [e0]
    have HOV := HO2
    have HAL := hA
    clear HW1 HW2 HW3 hsl e0 HNE ht0
    go_wp2
    go_loopw [5, 42] (fun V i wr => ∃ (k : Nat) (h : List ByteArray), k ≤ L.length ∧ i = .int .i64 (k : Int) ∧ Hid (wr.ownsRow N 9 1 V h.length (h.map Value.string)) ∧ Hid (V.ownBlock ≠ some g) ∧
        Hid (∀ (j : Nat) t, L[j]? = some t → wr.cell? ⟨g, j, none⟩ = some (.string t)) ∧ w2.heap.size ≤ wr.heap.size ∧ Mem.Res w wr ∧ Hid ((∀ t ∈ h, Pl.nameB t = true) ∧ h.length ≤ 6) ∧ Hid (Pl.walkW S0 L = Pl.walkW h (L.drop k))) (fun _ i _ => L.length - (intOf i).toNat)
    case atStart => exact ⟨0, A, Nat.zero_le _, rfl, HOV, HNV, HC, Nat.le_refl _, hR2, HAL, by show _ = _; rw [HS0.out]; rfl⟩
    case round =>
      obtain ⟨k, h, hk, rfl, HO, HNV, HC, hsw, hR, HAL, HW⟩ := hrel
      by_cases hlt : k < L.length
      · obtain ⟨t, ht⟩ : ∃ t, L[k]? = some t := ⟨_, List.getElem?_eq_getElem hlt⟩
        have hc := HC.out k t ht
        have hts := HSZ.out k t ht
        have HT := hide ht
        have u1 : (k : Int) < (L.length : Int) := by omega
        clear ht
        go_wp2_with fail
        refine (WStep.any N _ h t wr (by omega) (unhide HO) (unhide HAL).2 hts).mono ?_
        rintro e w3 ⟨hgrow, hout⟩
        have hR3 := hR.grown hgrow (unhide HO) hbase
        have hs3 := hgrow.size
        rcases hout with ⟨v', h', hst, rfl, hown', hat⟩ | ⟨v', c, hst, rfl, hcc⟩
        · have HO3 := hide hown'
          have HNV3 : Hid (v'.ownBlock ≠ some g) := by
            rcases hat with hat | ⟨q, hat, hq⟩
            · intro hv; exact HNV.out (hat.symm.trans hv)
            · intro hv; rw [hat] at hv; cases hv; omega
          have HC3 : Hid (∀ (j : Nat) t, L[j]? = some t → w3.cell? ⟨g, j, none⟩ = some (.string t)) := fun j t hj =>
            (Mem.cell_same (hgrow.block g (by omega) (fun hv => HNV.out hv.symm))).trans (HC.out j t hj)
          have HAL3 : Hid ((∀ t ∈ h', Pl.nameB t = true) ∧ h'.length ≤ 6) := Pl.step_all hst (unhide HAL).1 (unhide HAL).2
          have HW3 : Hid (Pl.walkW S0 L = Pl.walkW h' (L.drop (k + 1))) := HW.out.trans (Pl.walk_ok (unhide HT) hst)
          clear hgrow hst hown' hat hR HO HNV HC HAL HW hc
          go_wp2
          go_roundw
          case rel => exact ⟨k + 1, h', by omega, by go_num, HO3, HNV3, HC3, by omega, hR3, HAL3, HW3⟩
          case measure => simp [intOf]; omega
        · have E := hide (EE2.out c (HW.out.trans (Pl.walk_no (unhide HT) hst)))
          have k1 : (c == 0) = false := by rw [beq_eq_false_iff_ne]; exact hcc
          obtain ⟨⟨c0, c1, c2⟩, ⟨f0, f1, f2⟩⟩ := hR3.cells
          have hB := hR3.bel
          clear hgrow hst hR hR3 HO HNV HC HAL HW hc EG2 EE2 hcc
          go_wp2
          refine bodyPost_ret (v := .agg #[.string ⟨#[]⟩, .int .i64 0, .int .i64 c]) (by simp [results, Try.results42, go_sem, c0, c1, c2]) rfl ⟨by rw [unhide E], ?_⟩
          exact ((hB.setCell (by simp) _).setCell (by simp) _).setCell (by simp) _
      · obtain rfl : k = L.length := by omega
        have E := hide (EG2.out h (HW.out.trans (Pl.walk_end L)))
        have i1 := hide (Mem.own_texts (unhide HO))
        clear EG2 EE2 HW HC HNV HO
        go_wp2_with fail
        refine (WPathOf.any _ h _ (by have := (unhide HAL).2; omega) (Pl.glue_small (unhide HAL).1 (by have := (unhide HAL).2; omega)) (unhide i1)).mono ?_
        rintro e w3 ⟨rfl, hb3⟩
        have hR3 := hR.call hb3
        obtain ⟨⟨c0, c1, c2⟩, ⟨f0, f1, f2⟩⟩ := hR3.cells
        have hB := hR3.bel
        clear hb3 hR hR3
        generalize Pl.glue h = body at E ⊢
        go_wp2
        refine bodyPost_ret (v := .agg #[.string body, .int .i64 0, .int .i64 0]) (by simp [results, Try.results42, go_sem, c0, c1, c2]) rfl ⟨by rw [unhide E], ?_⟩
        exact ((hB.setCell (by simp) _).setCell (by simp) _).setCell (by simp) _
end WPathI
end Go.Proofs.Ytopipjfomnnjcaa
