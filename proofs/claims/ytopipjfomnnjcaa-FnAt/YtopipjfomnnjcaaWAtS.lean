/- The walk of the specification's PathAt. -/
import Derived.Test.YtopipjfomnnjcaaWIll
import Derived.Test.YtopipjfomnnjcaaWJoinS
import Derived.Test.YtopipjfomnnjcaaWParS
import Derived.Test.YtopipjfomnnjcaaWSpecR
import Derived.Test.YtopipjfomnnjcaaMemRes
import Derived.Test.YtopipjfomnnjcaaMemTexts
namespace Go.Proofs.Ytopipjfomnnjcaa
open Go.RowKit
namespace Pl
theorem slashB_none {s : ByteArray} (h : s.size = 0) : slashB s = false := by
  unfold slashB; rw [by_nil.2 h]; rfl
theorem slashB_first {s : ByteArray} (h : 0 < s.size) : slashB s = decide (s[0].toNat = 47) := by
  have h' : 0 < (by_ s).length := by rw [by_length]; exact h
  have e : by_ s = (s[0]'h) :: (by_ s).drop 1 := by
    have := List.drop_eq_getElem_cons h'
    rw [List.drop_zero] at this
    exact this
  unfold slashB
  rw [e]
  by_cases hb : (s[0]'h).toNat = 47
  · have hb' : (s[0]'h) = 47 := UInt8.toNat_inj.1 hb
    rw [decide_eq_true hb]
    show (some (s[0]'h) == some (47 : UInt8)) = true
    rw [hb']; rfl
  · rw [decide_eq_false hb]
    show (some (s[0]'h) == some (47 : UInt8)) = false
    exact beq_eq_false_iff_ne.2 (fun e => hb (by rw [Option.some.inj e]; rfl))
end Pl
namespace WPathS
set_option maxRecDepth 100000 in
set_option maxHeartbeats 2000000 in
theorem atF_any (p n : ByteArray) (w : World) (hp : p.size ≤ 1048576) (hq : n.size ≤ 1048576) :
    Calls Try.prog 43 #[.string p, .string n] w fun e w' => e = .returned (Pl.tOut (Pl.atO p n)) ∧ Below w.heap.size w w' := by
  have hill := hide (fun c W => ill_any c W)
  by_cases h1 : 8000 < p.size ∨ 8000 < n.size
  · have E : Hid (Pl.tOut (Pl.atO p n) = .agg #[.string ⟨#[]⟩, .int .i64 0, .int .i64 2]) := by show _ = _; rw [Pl.atO, if_pos h1]; rfl
    generalize Pl.tOut (Pl.atO p n) = R at E ⊢
    by_cases h2 : 8000 < p.size
    · clear h1
      go_enter Try.func43, Try.ntmps43
      have hR := Mem.Res.start w
      go_wp2_with fail
      refine (unhide hill _ _).mono ?_
      rintro e wE ⟨rfl, bE⟩
      have hRE := hR.call bE
      obtain ⟨⟨c0, c1, c2⟩, ⟨f0, f1, f2⟩⟩ := hRE.cells
      have hB := hRE.bel
      clear bE hR hRE
      go_wp2
      refine bodyPost_ret (v := .agg #[.string ⟨#[]⟩, .int .i64 0, .int .i64 2]) (by simp [results, Try.results43, go_sem, c0, c1, c2]) rfl ⟨by rw [unhide E], ?_⟩
      exact ((hB.setCell (by simp) _).setCell (by simp) _).setCell (by simp) _
    · have h3 : 8000 < n.size := by omega
      clear h1
      go_enter Try.func43, Try.ntmps43
      have hR := Mem.Res.start w
      go_wp2_with fail
      refine (unhide hill _ _).mono ?_
      rintro e wE ⟨rfl, bE⟩
      have hRE := hR.call bE
      obtain ⟨⟨c0, c1, c2⟩, ⟨f0, f1, f2⟩⟩ := hRE.cells
      have hB := hRE.bel
      clear bE hR hRE
      go_wp2
      refine bodyPost_ret (v := .agg #[.string ⟨#[]⟩, .int .i64 0, .int .i64 2]) (by simp [results, Try.results43, go_sem, c0, c1, c2]) rfl ⟨by rw [unhide E], ?_⟩
      exact ((hB.setCell (by simp) _).setCell (by simp) _).setCell (by simp) _
  have h2 : ¬ 8000 < p.size := fun h => h1 (.inl h)
  have h3 : ¬ 8000 < n.size := fun h => h1 (.inr h)
  have hr := hide (fun W => right_one p W hp)
  have EB : Hid (Pl.pathB p = false → Pl.tOut (Pl.atO p n) = .agg #[.string ⟨#[]⟩, .int .i64 0, .int .i64 1]) := fun h => by
    rw [Pl.atO, if_neg h1, if_pos h]; rfl
  have EG : Hid (Pl.pathB p = true → ∀ h, Pl.walkW (Pl.start p n) (Pl.cut n 47) = .ok h → Pl.tOut (Pl.atO p n) = .agg #[.string (Pl.glue h), .int .i64 0, .int .i64 0]) := fun h h' hw => by
    rw [Pl.atO, if_neg h1, if_neg (by simp [h]), hw]; rfl
  have EE : Hid (Pl.pathB p = true → ∀ c, Pl.walkW (Pl.start p n) (Pl.cut n 47) = .error c → Pl.tOut (Pl.atO p n) = .agg #[.string ⟨#[]⟩, .int .i64 0, .int .i64 c]) := fun h c hw => by
    rw [Pl.atO, if_neg h1, if_neg (by simp [h]), hw]; rfl
  have HW2 : Hid (Pl.slashB n = true → Pl.start p n = []) := fun h => by rw [Pl.start, h]; rfl
  have HW3 : Hid (Pl.slashB n = false → Pl.pathB p = true → Pl.start p n = Pl.names p) := fun h hp => by rw [Pl.start, h, ← Pl.namesR_yes hp]; rfl
  have hA : Hid (Pl.pathB p = true → (∀ t ∈ Pl.names p, Pl.nameB t = true) ∧ (Pl.names p).length ≤ 6) := fun h => Pl.pathB_all h
  have HGP : Hid (p = Pl.glue (Pl.names p)) := (Pl.glue_names p).symm
  have hpos := Pl.cut_pos n
  have hlen := Pl.cut_length n
  have HSZ : Hid (∀ (k : Nat) t, (Pl.cut n 47)[k]? = some t → t.size ≤ 8000) := fun k t ht => by have := Pl.cut_size ht; omega
  have hwd := hide (fun W => WSplit.split_any n 47 W hq)
  generalize Pl.tOut (Pl.atO p n) = R at EB EG EE ⊢
  generalize Pl.pathB p = r at hr EB EG EE HW3 hA
  generalize Pl.cut n 47 = L at EG EE hpos hlen HSZ hwd
  generalize Pl.start p n = S0 at EG EE HW2 HW3
  clear h1
  cases r
  · have E := hide (EB.out rfl)
    clear EB EG EE
    go_enter Try.func43, Try.ntmps43
    have hR := Mem.Res.start w
    go_wp2_with fail
    refine (unhide hr _).mono ?_
    rintro e w1 ⟨rfl, b1⟩
    have hR := hR.call b1
    clear b1
    go_wp2_with fail
    refine (unhide hill _ _).mono ?_
    rintro e wE ⟨rfl, bE⟩
    have hRE := hR.call bE
    obtain ⟨⟨c0, c1, c2⟩, ⟨f0, f1, f2⟩⟩ := hRE.cells
    have hB := hRE.bel
    clear bE hR hRE
    go_wp2
    refine bodyPost_ret (v := .agg #[.string ⟨#[]⟩, .int .i64 0, .int .i64 1]) (by simp [results, Try.results43, go_sem, c0, c1, c2]) rfl ⟨by rw [unhide E], ?_⟩
    exact ((hB.setCell (by simp) _).setCell (by simp) _).setCell (by simp) _
  have EG2 : Hid (∀ h, Pl.walkW S0 L = .ok h → R = .agg #[.string (Pl.glue h), .int .i64 0, .int .i64 0]) := fun h hw => EG.out rfl h hw
  have EE2 : Hid (∀ c, Pl.walkW S0 L = .error c → R = .agg #[.string ⟨#[]⟩, .int .i64 0, .int .i64 c]) := fun c hw => EE.out rfl c hw
  have HAP := hide (hA.out rfl)
  have HW4 : Hid (Pl.slashB n = false → S0 = Pl.names p) := fun h => HW3.out h rfl
  clear EG EE EB hA HW3
  by_cases e0 : n.size = 0
  · have HS0 : Hid (S0 = Pl.names p) := HW4.out (Pl.slashB_none e0)
    have HAL := HAP
    have HG0 := HGP
    have k0 : ¬ (0 : Int) < (n.size : Int) := by omega
    clear HW2 HW4 HGP HAP
    go_enter Try.func43, Try.ntmps43
    have hR := Mem.Res.start w
    go_wp2_with fail
    refine (unhide hr _).mono ?_
    rintro e w1 ⟨rfl, b1⟩
    have hR1 := hR.call b1
    clear b1 hR
    go_wp2_with fail
    refine (unhide hwd _).mono ?_
    rintro e w2 ⟨u, rfl, hown2, b2⟩
    have hR2 := hR1.call b2
    rcases Mem.texts hown2 with ⟨rfl, rfl⟩ | ⟨g, cap, rfl, hcap, hm, hgb, hgl, hcell⟩
    · simp at hpos
    have HC := hide hcell
    clear b2 hown2 hcell hwd hR1
    have hm2 := hm
    unfold maxLen at hm2
    go_wp2
    go_loopw [5, 7] (fun a i wr => ∃ (k : Nat) (h : List ByteArray), k ≤ L.length ∧ i = .int .i64 (k : Int) ∧ a = .string (Pl.glue h) ∧ Below w2.heap.size w2 wr ∧ Mem.Res w wr ∧ Hid ((∀ t ∈ h, Pl.nameB t = true) ∧ h.length ≤ 6) ∧ Hid (Pl.walkW S0 L = Pl.walkW h (L.drop k))) (fun _ i _ => L.length - (intOf i).toNat)
    case atStart => exact ⟨0, Pl.names p, Nat.zero_le _, rfl, congrArg Value.string HG0.out, Below.refl _ _, hR2, HAL, by show _ = _; rw [HS0.out]; rfl⟩
    case round =>
      obtain ⟨k, h, hk, rfl, rfl, hbel, hR, HAL, HW⟩ := hrel
      have hs2 := hbel.size
      by_cases hlt : k < L.length
      · obtain ⟨t, ht⟩ : ∃ t, L[k]? = some t := ⟨_, List.getElem?_eq_getElem hlt⟩
        have hc : wr.cell? ⟨g, k, none⟩ = some (.string t) := (hbel.cell (p := ⟨g, k, none⟩) hgl).trans (HC.out k t ht)
        have hts := HSZ.out k t ht
        have HT := hide ht
        have u1 : (k : Int) < (L.length : Int) := by omega
        have HGS : Hid ((Pl.glue h).size ≤ 1000000) := Pl.glue_small (unhide HAL).1 (by have := (unhide HAL).2; omega)
        clear ht
        by_cases h1 : Pl.by_ t = [] ∨ Pl.by_ t = [46]
        · have HW2 : Hid (Pl.walkW S0 L = Pl.walkW h (L.drop (k + 1))) := HW.out.trans (Pl.walk_ok (unhide HT) (Pl.step_stay h1))
          by_cases h2 : Pl.by_ t = []
          · have d1 : t.toList.isEmpty = true := by rw [Pl.empty_list]; simp [h2]
            clear h1 h2 HW
            go_wp2
            go_roundw
            case rel => exact ⟨k + 1, h, by omega, by go_num, rfl, hbel, hR, HAL, HW2⟩
            case measure => simp [intOf]; omega
          · have d1 : t.toList.isEmpty = false := by rw [Pl.empty_list]; simp [h2]
            have d2 : (t.toList == [46]) = true := by rw [Pl.list_is]; simpa [h2] using h1
            clear h1 h2 HW
            go_wp2
            go_roundw
            case rel => exact ⟨k + 1, h, by omega, by go_num, rfl, hbel, hR, HAL, HW2⟩
            case measure => simp [intOf]; omega
        have d1 : t.toList.isEmpty = false := by rw [Pl.empty_list]; simp; exact fun e => h1 (.inl e)
        have d2 : (t.toList == [46]) = false := by rw [Pl.list_is]; simp; exact fun e => h1 (.inr e)
        by_cases h2 : Pl.by_ t = [46, 46]
        · have HW2 : Hid (Pl.walkW S0 L = Pl.walkW h.dropLast (L.drop (k + 1))) := HW.out.trans (Pl.walk_ok (unhide HT) (Pl.step_up h1 h2))
          have HAL2 : Hid ((∀ t ∈ h.dropLast, Pl.nameB t = true) ∧ h.dropLast.length ≤ 6) := Pl.step_all (Pl.step_up (h := h) h1 h2) (unhide HAL).1 (unhide HAL).2
          have HP : Hid (Pl.parent (Pl.glue h) = Pl.glue h.dropLast) := by show _ = _; rw [Pl.parent_glue, Pl.names_glue (unhide HAL).1]
          have d3 : (t.toList == [46, 46]) = true := by rw [Pl.list_is]; simpa using h2
          clear h1 h2 HW
          go_wp2_with fail
          refine (parent_any (Pl.glue h) _ (by have := HGS.out; unfold maxLen; omega)).mono ?_
          rintro e w' ⟨rfl, hw⟩
          obtain rfl := hw.symm
          rw [HP.out]
          go_wp2
          go_roundw
          case rel => exact ⟨k + 1, h.dropLast, by omega, by go_num, rfl, hbel, hR, HAL2, HW2⟩
          case measure => simp [intOf]; omega
        have d3 : (t.toList == [46, 46]) = false := by rw [Pl.list_is]; simpa using h2
        have hnr := hide (fun W => WName.spec_any t W (by unfold maxLen; omega))
        cases h3 : Pl.nameB t
        · have E := hide (EE2.out 3 (HW.out.trans (Pl.walk_no (unhide HT) (Pl.step_bad h1 h2 h3))))
          have HN := hide h3
          clear h1 h2 h3 HW EE2 EG2
          go_wp2_with fail
          refine (unhide hnr _).mono ?_
          rw [unhide HN]
          rintro e w' ⟨rfl, hw⟩
          obtain rfl := hw.symm
          go_wp2_with fail
          refine (unhide hill _ _).mono ?_
          rintro e wE ⟨rfl, bE⟩
          have hRE := hR.call bE
          obtain ⟨⟨c0, c1, c2⟩, ⟨f0, f1, f2⟩⟩ := hRE.cells
          have hB := hRE.bel
          clear bE hR hRE
          go_wp2
          refine bodyPost_ret (v := .agg #[.string ⟨#[]⟩, .int .i64 0, .int .i64 3]) (by simp [results, Try.results43, go_sem, c0, c1, c2]) rfl ⟨by rw [unhide E], ?_⟩
          exact ((hB.setCell (by simp) _).setCell (by simp) _).setCell (by simp) _
        · have HN := hide h3
          have hnm := hide (fun W => names_any (Pl.glue h) W (by have := HGS.out; omega))
          rw [Pl.names_glue (unhide HAL).1] at hnm
          by_cases h4 : h.length = 6
          · have E := hide (EE2.out 9 (HW.out.trans (Pl.walk_no (unhide HT) (Pl.step_full h1 h2 (by simp [h3]) h4))))
            have t6 : (6 : Int) ≤ (h.length : Int) := by omega
            clear h1 h2 h3 HW EE2 EG2 h4
            go_wp2_with fail
            refine (unhide hnr _).mono ?_
            rw [unhide HN]
            rintro e w' ⟨rfl, hw⟩
            obtain rfl := hw.symm
            go_wp2_with fail
            refine (unhide hnm _).mono ?_
            rintro e w3 ⟨v, rfl, hown, b3⟩
            obtain ⟨va, vc, rfl⟩ := Mem.own_shape hown
            have hR := hR.call b3
            clear hown b3
            go_wp2_with fail
            refine (unhide hill _ _).mono ?_
            rintro e wE ⟨rfl, bE⟩
            have hRE := hR.call bE
            obtain ⟨⟨c0, c1, c2⟩, ⟨f0, f1, f2⟩⟩ := hRE.cells
            have hB := hRE.bel
            clear bE hR hRE
            go_wp2
            refine bodyPost_ret (v := .agg #[.string ⟨#[]⟩, .int .i64 0, .int .i64 9]) (by simp [results, Try.results43, go_sem, c0, c1, c2]) rfl ⟨by rw [unhide E], ?_⟩
            exact ((hB.setCell (by simp) _).setCell (by simp) _).setCell (by simp) _
          · have HW2 : Hid (Pl.walkW S0 L = Pl.walkW (h ++ [t]) (L.drop (k + 1))) := HW.out.trans (Pl.walk_ok (unhide HT) (Pl.step_into h1 h2 (by simp [h3]) h4))
            have HAL2 : Hid ((∀ u ∈ h ++ [t], Pl.nameB u = true) ∧ (h ++ [t]).length ≤ 6) := Pl.step_all (Pl.step_into (h := h) h1 h2 (by simp [h3]) h4) (unhide HAL).1 (unhide HAL).2
            have HJ : Hid (Pl.joinN (Pl.glue h) t = Pl.glue (h ++ [t])) := by show _ = _; rw [Pl.joinN, Pl.names_glue (unhide HAL).1]
            have t6 : ¬ (6 : Int) ≤ (h.length : Int) := by have := (unhide HAL).2; omega
            clear h1 h2 h3 HW h4
            go_wp2_with fail
            refine (unhide hnr _).mono ?_
            rw [unhide HN]
            rintro e w' ⟨rfl, hw⟩
            obtain rfl := hw.symm
            go_wp2_with fail
            refine (unhide hnm _).mono ?_
            rintro e w3 ⟨v, rfl, hown, b3⟩
            obtain ⟨va, vc, rfl⟩ := Mem.own_shape hown
            have hR3 := hR.call b3
            have hbel3 := hbel.trans (b3.mono hs2)
            have hc3 : w3.cell? ⟨g, k, none⟩ = some (.string t) := (b3.cell (p := ⟨g, k, none⟩) (by show g < _; omega)).trans hc
            clear hown b3 hR hbel hc
            go_wp2_with fail
            refine (join1_any (Pl.glue h) t _ (by have := HGS.out; omega) (by omega)).mono ?_
            rintro e w' ⟨rfl, hw⟩
            obtain rfl := hw.symm
            rw [HJ.out]
            go_wp2
            go_roundw
            case rel => exact ⟨k + 1, h ++ [t], by omega, by go_num, rfl, hbel3, hR3, HAL2, HW2⟩
            case measure => simp [intOf]; omega
      · obtain rfl : k = L.length := by omega
        have E := hide (EG2.out h (HW.out.trans (Pl.walk_end L)))
        obtain ⟨⟨c0, c1, c2⟩, ⟨f0, f1, f2⟩⟩ := hR.cells
        have hB := hR.bel
        clear EG2 EE2 HW HC hR
        generalize Pl.glue h = body at E ⊢
        go_wp2
        refine bodyPost_ret (v := .agg #[.string body, .int .i64 0, .int .i64 0]) (by simp [results, Try.results43, go_sem, c0, c1, c2]) rfl ⟨by rw [unhide E], ?_⟩
        exact ((hB.setCell (by simp) _).setCell (by simp) _).setCell (by simp) _
  have hn0 : 0 < n.size := by omega
  have k0 : (0 : Int) < (n.size : Int) := by omega
  by_cases e1 : n[0].toNat = 47
  · have HS0 : Hid (S0 = []) := HW2.out (by rw [Pl.slashB_first hn0]; simp [e1])
    have HAL : Hid ((∀ t ∈ ([] : List ByteArray), Pl.nameB t = true) ∧ ([] : List ByteArray).length ≤ 6) := ⟨fun t h => by simp at h, by simp⟩
    have HG0 : Hid ((⟨#[]⟩ : ByteArray) = Pl.glue []) := rfl
    have k1 : ((n[0].toNat : Int) == 47) = true := by rw [beq_iff_eq]; omega
    clear HW2 HW4 HGP HAP e1
    go_enter Try.func43, Try.ntmps43
    have hR := Mem.Res.start w
    go_wp2_with fail
    refine (unhide hr _).mono ?_
    rintro e w1 ⟨rfl, b1⟩
    have hR1 := hR.call b1
    clear b1 hR
    go_wp2_with fail
    refine (unhide hwd _).mono ?_
    rintro e w2 ⟨u, rfl, hown2, b2⟩
    have hR2 := hR1.call b2
    rcases Mem.texts hown2 with ⟨rfl, rfl⟩ | ⟨g, cap, rfl, hcap, hm, hgb, hgl, hcell⟩
    · simp at hpos
    have HC := hide hcell
    clear b2 hown2 hcell hwd hR1
    have hm2 := hm
    unfold maxLen at hm2
    go_wp2
    go_loopw [5, 7] (fun a i wr => ∃ (k : Nat) (h : List ByteArray), k ≤ L.length ∧ i = .int .i64 (k : Int) ∧ a = .string (Pl.glue h) ∧ Below w2.heap.size w2 wr ∧ Mem.Res w wr ∧ Hid ((∀ t ∈ h, Pl.nameB t = true) ∧ h.length ≤ 6) ∧ Hid (Pl.walkW S0 L = Pl.walkW h (L.drop k))) (fun _ i _ => L.length - (intOf i).toNat)
    case atStart => exact ⟨0, [], Nat.zero_le _, rfl, congrArg Value.string HG0.out, Below.refl _ _, hR2, HAL, by show _ = _; rw [HS0.out]; rfl⟩
    case round =>
      obtain ⟨k, h, hk, rfl, rfl, hbel, hR, HAL, HW⟩ := hrel
      have hs2 := hbel.size
      by_cases hlt : k < L.length
      · obtain ⟨t, ht⟩ : ∃ t, L[k]? = some t := ⟨_, List.getElem?_eq_getElem hlt⟩
        have hc : wr.cell? ⟨g, k, none⟩ = some (.string t) := (hbel.cell (p := ⟨g, k, none⟩) hgl).trans (HC.out k t ht)
        have hts := HSZ.out k t ht
        have HT := hide ht
        have u1 : (k : Int) < (L.length : Int) := by omega
        have HGS : Hid ((Pl.glue h).size ≤ 1000000) := Pl.glue_small (unhide HAL).1 (by have := (unhide HAL).2; omega)
        clear ht
        by_cases h1 : Pl.by_ t = [] ∨ Pl.by_ t = [46]
        · have HW2 : Hid (Pl.walkW S0 L = Pl.walkW h (L.drop (k + 1))) := HW.out.trans (Pl.walk_ok (unhide HT) (Pl.step_stay h1))
          by_cases h2 : Pl.by_ t = []
          · have d1 : t.toList.isEmpty = true := by rw [Pl.empty_list]; simp [h2]
            clear h1 h2 HW
            go_wp2
            go_roundw
            case rel => exact ⟨k + 1, h, by omega, by go_num, rfl, hbel, hR, HAL, HW2⟩
            case measure => simp [intOf]; omega
          · have d1 : t.toList.isEmpty = false := by rw [Pl.empty_list]; simp [h2]
            have d2 : (t.toList == [46]) = true := by rw [Pl.list_is]; simpa [h2] using h1
            clear h1 h2 HW
            go_wp2
            go_roundw
            case rel => exact ⟨k + 1, h, by omega, by go_num, rfl, hbel, hR, HAL, HW2⟩
            case measure => simp [intOf]; omega
        have d1 : t.toList.isEmpty = false := by rw [Pl.empty_list]; simp; exact fun e => h1 (.inl e)
        have d2 : (t.toList == [46]) = false := by rw [Pl.list_is]; simp; exact fun e => h1 (.inr e)
        by_cases h2 : Pl.by_ t = [46, 46]
        · have HW2 : Hid (Pl.walkW S0 L = Pl.walkW h.dropLast (L.drop (k + 1))) := HW.out.trans (Pl.walk_ok (unhide HT) (Pl.step_up h1 h2))
          have HAL2 : Hid ((∀ t ∈ h.dropLast, Pl.nameB t = true) ∧ h.dropLast.length ≤ 6) := Pl.step_all (Pl.step_up (h := h) h1 h2) (unhide HAL).1 (unhide HAL).2
          have HP : Hid (Pl.parent (Pl.glue h) = Pl.glue h.dropLast) := by show _ = _; rw [Pl.parent_glue, Pl.names_glue (unhide HAL).1]
          have d3 : (t.toList == [46, 46]) = true := by rw [Pl.list_is]; simpa using h2
          clear h1 h2 HW
          go_wp2_with fail
          refine (parent_any (Pl.glue h) _ (by have := HGS.out; unfold maxLen; omega)).mono ?_
          rintro e w' ⟨rfl, hw⟩
          obtain rfl := hw.symm
          rw [HP.out]
          go_wp2
          go_roundw
          case rel => exact ⟨k + 1, h.dropLast, by omega, by go_num, rfl, hbel, hR, HAL2, HW2⟩
          case measure => simp [intOf]; omega
        have d3 : (t.toList == [46, 46]) = false := by rw [Pl.list_is]; simpa using h2
        have hnr := hide (fun W => WName.spec_any t W (by unfold maxLen; omega))
        cases h3 : Pl.nameB t
        · have E := hide (EE2.out 3 (HW.out.trans (Pl.walk_no (unhide HT) (Pl.step_bad h1 h2 h3))))
          have HN := hide h3
          clear h1 h2 h3 HW EE2 EG2
          go_wp2_with fail
          refine (unhide hnr _).mono ?_
          rw [unhide HN]
          rintro e w' ⟨rfl, hw⟩
          obtain rfl := hw.symm
          go_wp2_with fail
          refine (unhide hill _ _).mono ?_
          rintro e wE ⟨rfl, bE⟩
          have hRE := hR.call bE
          obtain ⟨⟨c0, c1, c2⟩, ⟨f0, f1, f2⟩⟩ := hRE.cells
          have hB := hRE.bel
          clear bE hR hRE
          go_wp2
          refine bodyPost_ret (v := .agg #[.string ⟨#[]⟩, .int .i64 0, .int .i64 3]) (by simp [results, Try.results43, go_sem, c0, c1, c2]) rfl ⟨by rw [unhide E], ?_⟩
          exact ((hB.setCell (by simp) _).setCell (by simp) _).setCell (by simp) _
        · have HN := hide h3
          have hnm := hide (fun W => names_any (Pl.glue h) W (by have := HGS.out; omega))
          rw [Pl.names_glue (unhide HAL).1] at hnm
          by_cases h4 : h.length = 6
          · have E := hide (EE2.out 9 (HW.out.trans (Pl.walk_no (unhide HT) (Pl.step_full h1 h2 (by simp [h3]) h4))))
            have t6 : (6 : Int) ≤ (h.length : Int) := by omega
            clear h1 h2 h3 HW EE2 EG2 h4
            go_wp2_with fail
            refine (unhide hnr _).mono ?_
            rw [unhide HN]
            rintro e w' ⟨rfl, hw⟩
            obtain rfl := hw.symm
            go_wp2_with fail
            refine (unhide hnm _).mono ?_
            rintro e w3 ⟨v, rfl, hown, b3⟩
            obtain ⟨va, vc, rfl⟩ := Mem.own_shape hown
            have hR := hR.call b3
            clear hown b3
            go_wp2_with fail
            refine (unhide hill _ _).mono ?_
            rintro e wE ⟨rfl, bE⟩
            have hRE := hR.call bE
            obtain ⟨⟨c0, c1, c2⟩, ⟨f0, f1, f2⟩⟩ := hRE.cells
            have hB := hRE.bel
            clear bE hR hRE
            go_wp2
            refine bodyPost_ret (v := .agg #[.string ⟨#[]⟩, .int .i64 0, .int .i64 9]) (by simp [results, Try.results43, go_sem, c0, c1, c2]) rfl ⟨by rw [unhide E], ?_⟩
            exact ((hB.setCell (by simp) _).setCell (by simp) _).setCell (by simp) _
          · have HW2 : Hid (Pl.walkW S0 L = Pl.walkW (h ++ [t]) (L.drop (k + 1))) := HW.out.trans (Pl.walk_ok (unhide HT) (Pl.step_into h1 h2 (by simp [h3]) h4))
            have HAL2 : Hid ((∀ u ∈ h ++ [t], Pl.nameB u = true) ∧ (h ++ [t]).length ≤ 6) := Pl.step_all (Pl.step_into (h := h) h1 h2 (by simp [h3]) h4) (unhide HAL).1 (unhide HAL).2
            have HJ : Hid (Pl.joinN (Pl.glue h) t = Pl.glue (h ++ [t])) := by show _ = _; rw [Pl.joinN, Pl.names_glue (unhide HAL).1]
            have t6 : ¬ (6 : Int) ≤ (h.length : Int) := by have := (unhide HAL).2; omega
            clear h1 h2 h3 HW h4
            go_wp2_with fail
            refine (unhide hnr _).mono ?_
            rw [unhide HN]
            rintro e w' ⟨rfl, hw⟩
            obtain rfl := hw.symm
            go_wp2_with fail
            refine (unhide hnm _).mono ?_
            rintro e w3 ⟨v, rfl, hown, b3⟩
            obtain ⟨va, vc, rfl⟩ := Mem.own_shape hown
            have hR3 := hR.call b3
            have hbel3 := hbel.trans (b3.mono hs2)
            have hc3 : w3.cell? ⟨g, k, none⟩ = some (.string t) := (b3.cell (p := ⟨g, k, none⟩) (by show g < _; omega)).trans hc
            clear hown b3 hR hbel hc
            go_wp2_with fail
            refine (join1_any (Pl.glue h) t _ (by have := HGS.out; omega) (by omega)).mono ?_
            rintro e w' ⟨rfl, hw⟩
            obtain rfl := hw.symm
            rw [HJ.out]
            go_wp2
            go_roundw
            case rel => exact ⟨k + 1, h ++ [t], by omega, by go_num, rfl, hbel3, hR3, HAL2, HW2⟩
            case measure => simp [intOf]; omega
      · obtain rfl : k = L.length := by omega
        have E := hide (EG2.out h (HW.out.trans (Pl.walk_end L)))
        obtain ⟨⟨c0, c1, c2⟩, ⟨f0, f1, f2⟩⟩ := hR.cells
        have hB := hR.bel
        clear EG2 EE2 HW HC hR
        generalize Pl.glue h = body at E ⊢
        go_wp2
        refine bodyPost_ret (v := .agg #[.string body, .int .i64 0, .int .i64 0]) (by simp [results, Try.results43, go_sem, c0, c1, c2]) rfl ⟨by rw [unhide E], ?_⟩
        exact ((hB.setCell (by simp) _).setCell (by simp) _).setCell (by simp) _
  · have HS0 : Hid (S0 = Pl.names p) := HW4.out (by rw [Pl.slashB_first hn0]; simp [e1])
    have HAL := HAP
    have HG0 := HGP
    have k1 : ((n[0].toNat : Int) == 47) = false := by rw [beq_eq_false_iff_ne]; omega
    clear HW2 HW4 HGP HAP e1
    go_enter Try.func43, Try.ntmps43
    have hR := Mem.Res.start w
    go_wp2_with fail
    refine (unhide hr _).mono ?_
    rintro e w1 ⟨rfl, b1⟩
    have hR1 := hR.call b1
    clear b1 hR
    go_wp2_with fail
    refine (unhide hwd _).mono ?_
    rintro e w2 ⟨u, rfl, hown2, b2⟩
    have hR2 := hR1.call b2
    rcases Mem.texts hown2 with ⟨rfl, rfl⟩ | ⟨g, cap, rfl, hcap, hm, hgb, hgl, hcell⟩
    · simp at hpos
    have HC := hide hcell
    clear b2 hown2 hcell hwd hR1
    have hm2 := hm
    unfold maxLen at hm2
    go_wp2
    go_loopw [5, 7] (fun a i wr => ∃ (k : Nat) (h : List ByteArray), k ≤ L.length ∧ i = .int .i64 (k : Int) ∧ a = .string (Pl.glue h) ∧ Below w2.heap.size w2 wr ∧ Mem.Res w wr ∧ Hid ((∀ t ∈ h, Pl.nameB t = true) ∧ h.length ≤ 6) ∧ Hid (Pl.walkW S0 L = Pl.walkW h (L.drop k))) (fun _ i _ => L.length - (intOf i).toNat)
    case atStart => exact ⟨0, Pl.names p, Nat.zero_le _, rfl, congrArg Value.string HG0.out, Below.refl _ _, hR2, HAL, by show _ = _; rw [HS0.out]; rfl⟩
    case round =>
      obtain ⟨k, h, hk, rfl, rfl, hbel, hR, HAL, HW⟩ := hrel
      have hs2 := hbel.size
      by_cases hlt : k < L.length
      · obtain ⟨t, ht⟩ : ∃ t, L[k]? = some t := ⟨_, List.getElem?_eq_getElem hlt⟩
        have hc : wr.cell? ⟨g, k, none⟩ = some (.string t) := (hbel.cell (p := ⟨g, k, none⟩) hgl).trans (HC.out k t ht)
        have hts := HSZ.out k t ht
        have HT := hide ht
        have u1 : (k : Int) < (L.length : Int) := by omega
        have HGS : Hid ((Pl.glue h).size ≤ 1000000) := Pl.glue_small (unhide HAL).1 (by have := (unhide HAL).2; omega)
        clear ht
        by_cases h1 : Pl.by_ t = [] ∨ Pl.by_ t = [46]
        · have HW2 : Hid (Pl.walkW S0 L = Pl.walkW h (L.drop (k + 1))) := HW.out.trans (Pl.walk_ok (unhide HT) (Pl.step_stay h1))
          by_cases h2 : Pl.by_ t = []
          · have d1 : t.toList.isEmpty = true := by rw [Pl.empty_list]; simp [h2]
            clear h1 h2 HW
            go_wp2
            go_roundw
            case rel => exact ⟨k + 1, h, by omega, by go_num, rfl, hbel, hR, HAL, HW2⟩
            case measure => simp [intOf]; omega
          · have d1 : t.toList.isEmpty = false := by rw [Pl.empty_list]; simp [h2]
            have d2 : (t.toList == [46]) = true := by rw [Pl.list_is]; simpa [h2] using h1
            clear h1 h2 HW
            go_wp2
            go_roundw
            case rel => exact ⟨k + 1, h, by omega, by go_num, rfl, hbel, hR, HAL, HW2⟩
            case measure => simp [intOf]; omega
        have d1 : t.toList.isEmpty = false := by rw [Pl.empty_list]; simp; exact fun e => h1 (.inl e)
        have d2 : (t.toList == [46]) = false := by rw [Pl.list_is]; simp; exact fun e => h1 (.inr e)
        by_cases h2 : Pl.by_ t = [46, 46]
        · have HW2 : Hid (Pl.walkW S0 L = Pl.walkW h.dropLast (L.drop (k + 1))) := HW.out.trans (Pl.walk_ok (unhide HT) (Pl.step_up h1 h2))
          have HAL2 : Hid ((∀ t ∈ h.dropLast, Pl.nameB t = true) ∧ h.dropLast.length ≤ 6) := Pl.step_all (Pl.step_up (h := h) h1 h2) (unhide HAL).1 (unhide HAL).2
          have HP : Hid (Pl.parent (Pl.glue h) = Pl.glue h.dropLast) := by show _ = _; rw [Pl.parent_glue, Pl.names_glue (unhide HAL).1]
          have d3 : (t.toList == [46, 46]) = true := by rw [Pl.list_is]; simpa using h2
          clear h1 h2 HW
          go_wp2_with fail
          refine (parent_any (Pl.glue h) _ (by have := HGS.out; unfold maxLen; omega)).mono ?_
          rintro e w' ⟨rfl, hw⟩
          obtain rfl := hw.symm
          rw [HP.out]
          go_wp2
          go_roundw
          case rel => exact ⟨k + 1, h.dropLast, by omega, by go_num, rfl, hbel, hR, HAL2, HW2⟩
          case measure => simp [intOf]; omega
        have d3 : (t.toList == [46, 46]) = false := by rw [Pl.list_is]; simpa using h2
        have hnr := hide (fun W => WName.spec_any t W (by unfold maxLen; omega))
        cases h3 : Pl.nameB t
        · have E := hide (EE2.out 3 (HW.out.trans (Pl.walk_no (unhide HT) (Pl.step_bad h1 h2 h3))))
          have HN := hide h3
          clear h1 h2 h3 HW EE2 EG2
          go_wp2_with fail
          refine (unhide hnr _).mono ?_
          rw [unhide HN]
          rintro e w' ⟨rfl, hw⟩
          obtain rfl := hw.symm
          go_wp2_with fail
          refine (unhide hill _ _).mono ?_
          rintro e wE ⟨rfl, bE⟩
          have hRE := hR.call bE
          obtain ⟨⟨c0, c1, c2⟩, ⟨f0, f1, f2⟩⟩ := hRE.cells
          have hB := hRE.bel
          clear bE hR hRE
          go_wp2
          refine bodyPost_ret (v := .agg #[.string ⟨#[]⟩, .int .i64 0, .int .i64 3]) (by simp [results, Try.results43, go_sem, c0, c1, c2]) rfl ⟨by rw [unhide E], ?_⟩
          exact ((hB.setCell (by simp) _).setCell (by simp) _).setCell (by simp) _
        · have HN := hide h3
          have hnm := hide (fun W => names_any (Pl.glue h) W (by have := HGS.out; omega))
          rw [Pl.names_glue (unhide HAL).1] at hnm
          by_cases h4 : h.length = 6
          · have E := hide (EE2.out 9 (HW.out.trans (Pl.walk_no (unhide HT) (Pl.step_full h1 h2 (by simp [h3]) h4))))
            have t6 : (6 : Int) ≤ (h.length : Int) := by omega
            clear h1 h2 h3 HW EE2 EG2 h4
            go_wp2_with fail
            refine (unhide hnr _).mono ?_
            rw [unhide HN]
            rintro e w' ⟨rfl, hw⟩
            obtain rfl := hw.symm
            go_wp2_with fail
            refine (unhide hnm _).mono ?_
            rintro e w3 ⟨v, rfl, hown, b3⟩
            obtain ⟨va, vc, rfl⟩ := Mem.own_shape hown
            have hR := hR.call b3
            clear hown b3
            go_wp2_with fail
            refine (unhide hill _ _).mono ?_
            rintro e wE ⟨rfl, bE⟩
            have hRE := hR.call bE
            obtain ⟨⟨c0, c1, c2⟩, ⟨f0, f1, f2⟩⟩ := hRE.cells
            have hB := hRE.bel
            clear bE hR hRE
            go_wp2
            refine bodyPost_ret (v := .agg #[.string ⟨#[]⟩, .int .i64 0, .int .i64 9]) (by simp [results, Try.results43, go_sem, c0, c1, c2]) rfl ⟨by rw [unhide E], ?_⟩
            exact ((hB.setCell (by simp) _).setCell (by simp) _).setCell (by simp) _
          · have HW2 : Hid (Pl.walkW S0 L = Pl.walkW (h ++ [t]) (L.drop (k + 1))) := HW.out.trans (Pl.walk_ok (unhide HT) (Pl.step_into h1 h2 (by simp [h3]) h4))
            have HAL2 : Hid ((∀ u ∈ h ++ [t], Pl.nameB u = true) ∧ (h ++ [t]).length ≤ 6) := Pl.step_all (Pl.step_into (h := h) h1 h2 (by simp [h3]) h4) (unhide HAL).1 (unhide HAL).2
            have HJ : Hid (Pl.joinN (Pl.glue h) t = Pl.glue (h ++ [t])) := by show _ = _; rw [Pl.joinN, Pl.names_glue (unhide HAL).1]
            have t6 : ¬ (6 : Int) ≤ (h.length : Int) := by have := (unhide HAL).2; omega
            clear h1 h2 h3 HW h4
            go_wp2_with fail
            refine (unhide hnr _).mono ?_
            rw [unhide HN]
            rintro e w' ⟨rfl, hw⟩
            obtain rfl := hw.symm
            go_wp2_with fail
            refine (unhide hnm _).mono ?_
            rintro e w3 ⟨v, rfl, hown, b3⟩
            obtain ⟨va, vc, rfl⟩ := Mem.own_shape hown
            have hR3 := hR.call b3
            have hbel3 := hbel.trans (b3.mono hs2)
            have hc3 : w3.cell? ⟨g, k, none⟩ = some (.string t) := (b3.cell (p := ⟨g, k, none⟩) (by show g < _; omega)).trans hc
            clear hown b3 hR hbel hc
            go_wp2_with fail
            refine (join1_any (Pl.glue h) t _ (by have := HGS.out; omega) (by omega)).mono ?_
            rintro e w' ⟨rfl, hw⟩
            obtain rfl := hw.symm
            rw [HJ.out]
            go_wp2
            go_roundw
            case rel => exact ⟨k + 1, h ++ [t], by omega, by go_num, rfl, hbel3, hR3, HAL2, HW2⟩
            case measure => simp [intOf]; omega
      · obtain rfl : k = L.length := by omega
        have E := hide (EG2.out h (HW.out.trans (Pl.walk_end L)))
        obtain ⟨⟨c0, c1, c2⟩, ⟨f0, f1, f2⟩⟩ := hR.cells
        have hB := hR.bel
        clear EG2 EE2 HW HC hR
        generalize Pl.glue h = body at E ⊢
        go_wp2
        refine bodyPost_ret (v := .agg #[.string body, .int .i64 0, .int .i64 0]) (by simp [results, Try.results43, go_sem, c0, c1, c2]) rfl ⟨by rw [unhide E], ?_⟩
        exact ((hB.setCell (by simp) _).setCell (by simp) _).setCell (by simp) _
end WPathS
end Go.Proofs.Ytopipjfomnnjcaa
