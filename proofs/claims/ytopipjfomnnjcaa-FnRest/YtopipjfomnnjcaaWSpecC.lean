/- The walks of the specification's l02Rest, PathRest, l02Both and PathBoth. -/
import Derived.Test.YtopipjfomnnjcaaWIll
import Derived.Test.YtopipjfomnnjcaaWUnderS
import Derived.Test.YtopipjfomnnjcaaMemRes
namespace Go.Proofs.Ytopipjfomnnjcaa
open Go.RowKit
namespace WPathS
theorem rest1_any (p n : ByteArray) (w : World) (hp : p.size ≤ 1048576) (hu : Pl.under p n = true) :
    Calls Try.prog 72 #[.string p, .string n] w fun e w' => e = .returned (.string (Pl.rest p n)) ∧ w' = w := by
  by_cases h0 : Pl.by_ n = []
  · have E := hide (Pl.rest_root (p := p) h0)
    have d1 : n.toList.isEmpty = true := by rw [Pl.empty_list]; simp [h0]
    clear h0 hu
    go_enter Try.func72, Try.ntmps72
    go_wp2
    go_ret
    exact ⟨ret_string (unhide E).symm, rfl⟩
  have d1 : n.toList.isEmpty = false := by rw [Pl.empty_list]; simp [h0]
  by_cases h1 : p = n
  · subst h1
    have E := hide (Pl.rest_same p)
    clear h0 hu
    go_enter Try.func72, Try.ntmps72
    go_wp2
    go_ret
    exact ⟨ret_string (unhide E).symm, rfl⟩
  · have d2 := Pl.ne_lists h1
    obtain ⟨r, hr⟩ : ∃ r, Pl.by_ p = Pl.by_ n ++ 47 :: r := by
      rcases (Pl.under_iff p n).1 hu with h3 | h3 | h3
      · exact absurd h3 h0
      · exact absurd (Pl.by_inj h3) h1
      · exact h3
    have E := hide (Pl.rest_more h0 hr)
    have hsz : n.size + 1 ≤ p.size := by
      have := congrArg List.length hr
      rw [Pl.by_length, List.length_append, List.length_cons, Pl.by_length] at this
      omega
    have k1 : (0 : Int) ≤ (n.size : Int) + 1 := by omega
    have k2 : (n.size : Int) + 1 ≤ (p.size : Int) := by omega
    clear h0 h1 hr hu
    generalize Pl.rest p n = R at E ⊢
    go_enter Try.func72, Try.ntmps72
    go_wp2
    go_ret
    exact ⟨by rw [unhide E]; rfl, rfl⟩

theorem both1_any (p n : ByteArray) (w : World) (hp : p.size ≤ 1048576) (hq : n.size ≤ 1048576) :
    Calls Try.prog 73 #[.string p, .string n] w fun e w' => e = .returned (.string (Pl.both p n)) ∧ w' = w := by
  by_cases h0 : Pl.by_ p = []
  · have E := hide (Pl.both_none (t := p) (p := n) (.inl h0))
    have d1 : p.toList.isEmpty = true := by rw [Pl.empty_list]; simp [h0]
    clear h0
    generalize Pl.both p n = R at E ⊢
    go_enter Try.func73, Try.ntmps73
    go_wp2
    go_ret
    exact ⟨by rw [unhide E]; rfl, rfl⟩
  have d1 : p.toList.isEmpty = false := by rw [Pl.empty_list]; simp [h0]
  by_cases h1 : Pl.by_ n = []
  · have E := hide (Pl.both_none (t := p) (p := n) (.inr h1))
    have d2 : n.toList.isEmpty = true := by rw [Pl.empty_list]; simp [h1]
    clear h0 h1
    generalize Pl.both p n = R at E ⊢
    go_enter Try.func73, Try.ntmps73
    go_wp2
    go_ret
    exact ⟨by rw [unhide E]; rfl, rfl⟩
  · have d2 : n.toList.isEmpty = false := by rw [Pl.empty_list]; simp [h1]
    have E : Hid (p ++ ⟨#[47]⟩ ++ n = Pl.both p n) := by
      show _ = _
      apply Pl.by_inj
      rw [Pl.both_two h0 h1]
      simp [Pl.by_]
    clear h0 h1
    generalize Pl.both p n = R at E ⊢
    go_enter Try.func73, Try.ntmps73
    go_wp2
    go_ret
    exact ⟨by rw [← unhide E]; rfl, rfl⟩

set_option maxRecDepth 100000 in
set_option maxHeartbeats 1000000 in
theorem restF_any (p n : ByteArray) (w : World) (hp : p.size ≤ 1048576) (hq : n.size ≤ 1048576) :
    Calls Try.prog 39 #[.string p, .string n] w fun e w' => e = .returned (Pl.tOut (Pl.restO p n)) ∧ Below w.heap.size w w' := by
  have hill := hide (fun c W => ill_any c W)
  by_cases h1 : 8000 < p.size ∨ 8000 < n.size
  · have E : Hid (Pl.tOut (Pl.restO p n) = .agg #[.string ⟨#[]⟩, .int .i64 0, .int .i64 2]) := by show _ = _; rw [Pl.restO, if_pos h1]; rfl
    generalize Pl.tOut (Pl.restO p n) = R at E ⊢
    by_cases h2 : 8000 < p.size
    · clear h1
      go_enter Try.func39, Try.ntmps39
      have hR := Mem.Res.start w
      go_wp2_with fail
      refine (unhide hill _ _).mono ?_
      rintro e wE ⟨rfl, bE⟩
      have hRE := hR.call bE
      obtain ⟨⟨c0, c1, c2⟩, ⟨f0, f1, f2⟩⟩ := hRE.cells
      have hB := hRE.bel
      clear bE hR hRE
      go_wp2
      refine bodyPost_ret (v := .agg #[.string ⟨#[]⟩, .int .i64 0, .int .i64 2]) (by simp [results, Try.results39, go_sem, c0, c1, c2]) rfl ⟨by rw [unhide E], ?_⟩
      exact ((hB.setCell (by simp) _).setCell (by simp) _).setCell (by simp) _
    · have h3 : 8000 < n.size := by omega
      clear h1
      go_enter Try.func39, Try.ntmps39
      have hR := Mem.Res.start w
      go_wp2_with fail
      refine (unhide hill _ _).mono ?_
      rintro e wE ⟨rfl, bE⟩
      have hRE := hR.call bE
      obtain ⟨⟨c0, c1, c2⟩, ⟨f0, f1, f2⟩⟩ := hRE.cells
      have hB := hRE.bel
      clear bE hR hRE
      go_wp2
      refine bodyPost_ret (v := .agg #[.string ⟨#[]⟩, .int .i64 0, .int .i64 2]) (by simp [results, Try.results39, go_sem, c0, c1, c2]) rfl ⟨by rw [unhide E], ?_⟩
      exact ((hB.setCell (by simp) _).setCell (by simp) _).setCell (by simp) _
  have h2 : ¬ 8000 < p.size := fun h => h1 (.inl h)
  have h3 : ¬ 8000 < n.size := fun h => h1 (.inr h)
  have hr1 := hide (fun W => right_one p W hp)
  have hr2 := hide (fun W => right_one n W hq)
  have hun := hide (fun W => under1_any p n W hq)
  have hj := hide (fun W (h : Pl.under p n = true) => rest1_any p n W hp h)
  have EB : Hid (¬ (Pl.pathB p = true ∧ Pl.pathB n = true) → Pl.tOut (Pl.restO p n) = .agg #[.string ⟨#[]⟩, .int .i64 0, .int .i64 1]) := fun h => by rw [Pl.restO, if_neg h1, if_pos h]; rfl
  have EF : Hid (Pl.pathB p = true ∧ Pl.pathB n = true → Pl.under p n = false → Pl.tOut (Pl.restO p n) = .agg #[.string ⟨#[]⟩, .int .i64 0, .int .i64 6]) := fun h h6 => by
    rw [Pl.restO, if_neg h1, if_neg (fun g => g h), if_pos (by rw [Pl.namesR_yes h.1, Pl.namesR_yes h.2]; exact h6)]; rfl
  have EG : Hid (Pl.pathB p = true ∧ Pl.pathB n = true → Pl.under p n = true → Pl.tOut (Pl.restO p n) = .agg #[.string (Pl.rest p n), .int .i64 0, .int .i64 0]) := fun h h6 => by
    rw [Pl.restO, if_neg h1, if_neg (fun g => g h), if_neg (by rw [Pl.namesR_yes h.1, Pl.namesR_yes h.2, ← Pl.under_names, h6]; simp), Pl.namesR_yes h.1, Pl.namesR_yes h.2]; rfl
  generalize Pl.tOut (Pl.restO p n) = R at EB EF EG ⊢
  generalize Pl.pathB p = r at hr1 EB EF EG
  generalize Pl.pathB n = q at hr2 EB EF EG
  generalize Pl.under p n = u at hun hj EF EG
  generalize Pl.rest p n = BODY at hj EG
  clear h1
  cases r
  · have E := hide (EB.out (by simp))
    clear EB EF EG
    go_enter Try.func39, Try.ntmps39
    have hR := Mem.Res.start w
    go_wp2_with fail
    refine (unhide hr1 _).mono ?_
    rintro e w1 ⟨rfl, b1⟩
    have hR := hR.call b1
    clear b1
    go_wp2_with fail
    refine (unhide hill _ _).mono ?_
    rintro e wE ⟨rfl, bE⟩
    have hRE := hR.call bE
    obtain ⟨⟨c0, c1, c2⟩, ⟨f0, f1, f2⟩⟩ := hRE.cells
    have hB := hRE.bel
    clear bE hR hRE
    go_wp2
    refine bodyPost_ret (v := .agg #[.string ⟨#[]⟩, .int .i64 0, .int .i64 1]) (by simp [results, Try.results39, go_sem, c0, c1, c2]) rfl ⟨by rw [unhide E], ?_⟩
    exact ((hB.setCell (by simp) _).setCell (by simp) _).setCell (by simp) _
  cases q
  · have E := hide (EB.out (by simp))
    clear EB EF EG
    go_enter Try.func39, Try.ntmps39
    have hR := Mem.Res.start w
    go_wp2_with fail
    refine (unhide hr1 _).mono ?_
    rintro e w1 ⟨rfl, b1⟩
    have hR := hR.call b1
    clear b1
    go_wp2_with fail
    refine (unhide hr2 _).mono ?_
    rintro e w2 ⟨rfl, b2⟩
    have hR := hR.call b2
    clear b2
    go_wp2_with fail
    refine (unhide hill _ _).mono ?_
    rintro e wE ⟨rfl, bE⟩
    have hRE := hR.call bE
    obtain ⟨⟨c0, c1, c2⟩, ⟨f0, f1, f2⟩⟩ := hRE.cells
    have hB := hRE.bel
    clear bE hR hRE
    go_wp2
    refine bodyPost_ret (v := .agg #[.string ⟨#[]⟩, .int .i64 0, .int .i64 1]) (by simp [results, Try.results39, go_sem, c0, c1, c2]) rfl ⟨by rw [unhide E], ?_⟩
    exact ((hB.setCell (by simp) _).setCell (by simp) _).setCell (by simp) _
  cases u
  · have E := hide (EF.out ⟨rfl, rfl⟩ rfl)
    clear EB EF EG
    go_enter Try.func39, Try.ntmps39
    have hR := Mem.Res.start w
    go_wp2_with fail
    refine (unhide hr1 _).mono ?_
    rintro e w1 ⟨rfl, b1⟩
    have hR := hR.call b1
    clear b1
    go_wp2_with fail
    refine (unhide hr2 _).mono ?_
    rintro e w2 ⟨rfl, b2⟩
    have hR := hR.call b2
    clear b2
    go_wp2_with fail
    refine (unhide hun _).mono ?_
    rintro e w' ⟨rfl, hw⟩
    obtain rfl := hw.symm
    go_wp2_with fail
    refine (unhide hill _ _).mono ?_
    rintro e wE ⟨rfl, bE⟩
    have hRE := hR.call bE
    obtain ⟨⟨c0, c1, c2⟩, ⟨f0, f1, f2⟩⟩ := hRE.cells
    have hB := hRE.bel
    clear bE hR hRE
    go_wp2
    refine bodyPost_ret (v := .agg #[.string ⟨#[]⟩, .int .i64 0, .int .i64 6]) (by simp [results, Try.results39, go_sem, c0, c1, c2]) rfl ⟨by rw [unhide E], ?_⟩
    exact ((hB.setCell (by simp) _).setCell (by simp) _).setCell (by simp) _
  · have E := hide (EG.out ⟨rfl, rfl⟩ rfl)
    have hj2 := hide (fun W => unhide hj W rfl)
    clear hj
    clear EB EF EG
    go_enter Try.func39, Try.ntmps39
    have hR := Mem.Res.start w
    go_wp2_with fail
    refine (unhide hr1 _).mono ?_
    rintro e w1 ⟨rfl, b1⟩
    have hR := hR.call b1
    clear b1
    go_wp2_with fail
    refine (unhide hr2 _).mono ?_
    rintro e w2 ⟨rfl, b2⟩
    have hR := hR.call b2
    clear b2
    go_wp2_with fail
    refine (unhide hun _).mono ?_
    rintro e w' ⟨rfl, hw⟩
    obtain rfl := hw.symm
    go_wp2_with fail
    refine (unhide hj2 _).mono ?_
    rintro e w' ⟨rfl, hw⟩
    obtain rfl := hw.symm
    generalize BODY = body at E ⊢
    obtain ⟨⟨c0, c1, c2⟩, ⟨f0, f1, f2⟩⟩ := hR.cells
    have hB := hR.bel
    clear hR
    go_wp2
    refine bodyPost_ret (v := .agg #[.string body, .int .i64 0, .int .i64 0]) (by simp [results, Try.results39, go_sem, c0, c1, c2]) rfl ⟨by rw [unhide E], ?_⟩
    exact ((hB.setCell (by simp) _).setCell (by simp) _).setCell (by simp) _

set_option maxRecDepth 100000 in
set_option maxHeartbeats 1000000 in
theorem bothF_any (p n : ByteArray) (w : World) (hp : p.size ≤ 1048576) (hq : n.size ≤ 1048576) :
    Calls Try.prog 40 #[.string p, .string n] w fun e w' => e = .returned (Pl.tOut (Pl.bothO p n)) ∧ Below w.heap.size w w' := by
  have hill := hide (fun c W => ill_any c W)
  by_cases h1 : 8000 < p.size ∨ 8000 < n.size
  · have E : Hid (Pl.tOut (Pl.bothO p n) = .agg #[.string ⟨#[]⟩, .int .i64 0, .int .i64 2]) := by show _ = _; rw [Pl.bothO, if_pos h1]; rfl
    generalize Pl.tOut (Pl.bothO p n) = R at E ⊢
    by_cases h2 : 8000 < n.size
    · clear h1
      go_enter Try.func40, Try.ntmps40
      have hR := Mem.Res.start w
      go_wp2_with fail
      refine (unhide hill _ _).mono ?_
      rintro e wE ⟨rfl, bE⟩
      have hRE := hR.call bE
      obtain ⟨⟨c0, c1, c2⟩, ⟨f0, f1, f2⟩⟩ := hRE.cells
      have hB := hRE.bel
      clear bE hR hRE
      go_wp2
      refine bodyPost_ret (v := .agg #[.string ⟨#[]⟩, .int .i64 0, .int .i64 2]) (by simp [results, Try.results40, go_sem, c0, c1, c2]) rfl ⟨by rw [unhide E], ?_⟩
      exact ((hB.setCell (by simp) _).setCell (by simp) _).setCell (by simp) _
    · have h3 : 8000 < p.size := by omega
      clear h1
      go_enter Try.func40, Try.ntmps40
      have hR := Mem.Res.start w
      go_wp2_with fail
      refine (unhide hill _ _).mono ?_
      rintro e wE ⟨rfl, bE⟩
      have hRE := hR.call bE
      obtain ⟨⟨c0, c1, c2⟩, ⟨f0, f1, f2⟩⟩ := hRE.cells
      have hB := hRE.bel
      clear bE hR hRE
      go_wp2
      refine bodyPost_ret (v := .agg #[.string ⟨#[]⟩, .int .i64 0, .int .i64 2]) (by simp [results, Try.results40, go_sem, c0, c1, c2]) rfl ⟨by rw [unhide E], ?_⟩
      exact ((hB.setCell (by simp) _).setCell (by simp) _).setCell (by simp) _
  have h2 : ¬ 8000 < p.size := fun h => h1 (.inl h)
  have h3 : ¬ 8000 < n.size := fun h => h1 (.inr h)
  have hr1 := hide (fun W => right_one p W hp)
  have hr2 := hide (fun W => right_one n W hq)
  have hn1 := hide (fun W => names_any p W hp)
  have hn2 := hide (fun W => names_any n W hq)
  have hj := hide (fun W => both1_any p n W hp hq)
  have EB : Hid (¬ (Pl.pathB p = true ∧ Pl.pathB n = true) → Pl.tOut (Pl.bothO p n) = .agg #[.string ⟨#[]⟩, .int .i64 0, .int .i64 1]) := fun h => by rw [Pl.bothO, if_neg h1, if_pos h]; rfl
  have EF : Hid (Pl.pathB p = true ∧ Pl.pathB n = true → 6 < (Pl.names p).length + (Pl.names n).length → Pl.tOut (Pl.bothO p n) = .agg #[.string ⟨#[]⟩, .int .i64 0, .int .i64 9]) := fun h h6 => by
    rw [Pl.bothO, if_neg h1, if_neg (fun g => g h), if_pos (by rw [Pl.namesR_yes h.1, Pl.namesR_yes h.2]; exact h6)]; rfl
  have EG : Hid (Pl.pathB p = true ∧ Pl.pathB n = true → ¬ 6 < (Pl.names p).length + (Pl.names n).length → Pl.tOut (Pl.bothO p n) = .agg #[.string (Pl.both p n), .int .i64 0, .int .i64 0]) := fun h h6 => by
    rw [Pl.bothO, if_neg h1, if_neg (fun g => g h), if_neg (by rw [Pl.namesR_yes h.1, Pl.namesR_yes h.2]; exact h6), Pl.namesR_yes h.1, Pl.namesR_yes h.2]; rfl
  have HL6 : Hid (Pl.pathB p = true → (Pl.names p).length ≤ 6) := fun h => (Pl.pathB_all h).2
  have HM6 : Hid (Pl.pathB n = true → (Pl.names n).length ≤ 6) := fun h => (Pl.pathB_all h).2
  generalize Pl.tOut (Pl.bothO p n) = R at EB EF EG ⊢
  generalize Pl.pathB p = r at hr1 EB EF EG HL6
  generalize Pl.pathB n = q at hr2 EB EF EG HM6
  generalize Pl.names p = L at hn1 EF EG HL6
  generalize Pl.names n = M at hn2 EF EG HM6
  generalize Pl.both p n = BODY at hj EG
  clear h1
  cases q
  · have E := hide (EB.out (by simp))
    clear EB EF EG
    go_enter Try.func40, Try.ntmps40
    have hR := Mem.Res.start w
    go_wp2_with fail
    refine (unhide hr2 _).mono ?_
    rintro e w1 ⟨rfl, b1⟩
    have hR := hR.call b1
    clear b1
    go_wp2_with fail
    refine (unhide hill _ _).mono ?_
    rintro e wE ⟨rfl, bE⟩
    have hRE := hR.call bE
    obtain ⟨⟨c0, c1, c2⟩, ⟨f0, f1, f2⟩⟩ := hRE.cells
    have hB := hRE.bel
    clear bE hR hRE
    go_wp2
    refine bodyPost_ret (v := .agg #[.string ⟨#[]⟩, .int .i64 0, .int .i64 1]) (by simp [results, Try.results40, go_sem, c0, c1, c2]) rfl ⟨by rw [unhide E], ?_⟩
    exact ((hB.setCell (by simp) _).setCell (by simp) _).setCell (by simp) _
  cases r
  · have E := hide (EB.out (by simp))
    clear EB EF EG
    go_enter Try.func40, Try.ntmps40
    have hR := Mem.Res.start w
    go_wp2_with fail
    refine (unhide hr2 _).mono ?_
    rintro e w1 ⟨rfl, b1⟩
    have hR := hR.call b1
    clear b1
    go_wp2_with fail
    refine (unhide hr1 _).mono ?_
    rintro e w2 ⟨rfl, b2⟩
    have hR := hR.call b2
    clear b2
    go_wp2_with fail
    refine (unhide hill _ _).mono ?_
    rintro e wE ⟨rfl, bE⟩
    have hRE := hR.call bE
    obtain ⟨⟨c0, c1, c2⟩, ⟨f0, f1, f2⟩⟩ := hRE.cells
    have hB := hRE.bel
    clear bE hR hRE
    go_wp2
    refine bodyPost_ret (v := .agg #[.string ⟨#[]⟩, .int .i64 0, .int .i64 1]) (by simp [results, Try.results40, go_sem, c0, c1, c2]) rfl ⟨by rw [unhide E], ?_⟩
    exact ((hB.setCell (by simp) _).setCell (by simp) _).setCell (by simp) _
  have hl6 := HL6.out rfl
  have hm6 := HM6.out rfl
  by_cases h6 : 6 < L.length + M.length
  · have E := hide (EF.out ⟨rfl, rfl⟩ h6)
    have t6 : (6 : Int) < (M.length : Int) + (L.length : Int) := by omega
    clear EB EF EG h6
    go_enter Try.func40, Try.ntmps40
    have hR := Mem.Res.start w
    go_wp2_with fail
    refine (unhide hr2 _).mono ?_
    rintro e w1 ⟨rfl, b1⟩
    have hR := hR.call b1
    clear b1
    go_wp2_with fail
    refine (unhide hr1 _).mono ?_
    rintro e w2 ⟨rfl, b2⟩
    have hR := hR.call b2
    clear b2
    go_wp2_with fail
    refine (unhide hn2 _).mono ?_
    rintro e w3 ⟨v3, rfl, hown, b3⟩
    obtain ⟨va3, vc3, rfl⟩ := Mem.own_shape hown
    have hR := hR.call b3
    clear hown b3
    go_wp2_with fail
    refine (unhide hn1 _).mono ?_
    rintro e w4 ⟨v4, rfl, hown, b4⟩
    obtain ⟨va4, vc4, rfl⟩ := Mem.own_shape hown
    have hR := hR.call b4
    clear hown b4
    go_wp2_with fail
    refine (unhide hill _ _).mono ?_
    rintro e wE ⟨rfl, bE⟩
    have hRE := hR.call bE
    obtain ⟨⟨c0, c1, c2⟩, ⟨f0, f1, f2⟩⟩ := hRE.cells
    have hB := hRE.bel
    clear bE hR hRE
    go_wp2
    refine bodyPost_ret (v := .agg #[.string ⟨#[]⟩, .int .i64 0, .int .i64 9]) (by simp [results, Try.results40, go_sem, c0, c1, c2]) rfl ⟨by rw [unhide E], ?_⟩
    exact ((hB.setCell (by simp) _).setCell (by simp) _).setCell (by simp) _
  · have E := hide (EG.out ⟨rfl, rfl⟩ h6)
    have t6 : ¬ (6 : Int) < (M.length : Int) + (L.length : Int) := by omega
    clear EB EF EG h6
    go_enter Try.func40, Try.ntmps40
    have hR := Mem.Res.start w
    go_wp2_with fail
    refine (unhide hr2 _).mono ?_
    rintro e w1 ⟨rfl, b1⟩
    have hR := hR.call b1
    clear b1
    go_wp2_with fail
    refine (unhide hr1 _).mono ?_
    rintro e w2 ⟨rfl, b2⟩
    have hR := hR.call b2
    clear b2
    go_wp2_with fail
    refine (unhide hn2 _).mono ?_
    rintro e w3 ⟨v3, rfl, hown, b3⟩
    obtain ⟨va3, vc3, rfl⟩ := Mem.own_shape hown
    have hR := hR.call b3
    clear hown b3
    go_wp2_with fail
    refine (unhide hn1 _).mono ?_
    rintro e w4 ⟨v4, rfl, hown, b4⟩
    obtain ⟨va4, vc4, rfl⟩ := Mem.own_shape hown
    have hR := hR.call b4
    clear hown b4
    go_wp2_with fail
    refine (unhide hj _).mono ?_
    rintro e w' ⟨rfl, hw⟩
    obtain rfl := hw.symm
    generalize BODY = body at E ⊢
    obtain ⟨⟨c0, c1, c2⟩, ⟨f0, f1, f2⟩⟩ := hR.cells
    have hB := hR.bel
    clear hR
    go_wp2
    refine bodyPost_ret (v := .agg #[.string body, .int .i64 0, .int .i64 0]) (by simp [results, Try.results40, go_sem, c0, c1, c2]) rfl ⟨by rw [unhide E], ?_⟩
    exact ((hB.setCell (by simp) _).setCell (by simp) _).setCell (by simp) _
end WPathS
end Go.Proofs.Ytopipjfomnnjcaa
