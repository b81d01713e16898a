/- The walk of the specification's PathJoin. -/
import Derived.Test.YthkfhjemcekpgaaGreatDoorWIll
import Derived.Test.YthkfhjemcekpgaaGreatDoorPartB
import Derived.Test.YthkfhjemcekpgaaGreatDoorMemRes
namespace Go.Proofs.YthkfhjemcekpgaaGreatDoor
open Go.RowKit
namespace WPathS
set_option maxRecDepth 100000 in
set_option maxHeartbeats 1000000 in
theorem joinF_any (p n : ByteArray) (w : World) (hp : p.size ≤ 1048576) (hq : n.size ≤ 1048576) :
    Calls Tryz.prog 28 #[.string p, .string n] w fun e w' => e = .returned (Pl.tOut (Pl.joinO p n)) ∧ Below w.heap.size w w' := by
  have hill := hide (fun c W => ill_any c W)
  by_cases h1 : 8000 < p.size ∨ 8000 < n.size
  · have E : Hid (Pl.tOut (Pl.joinO p n) = .agg #[.string ⟨#[]⟩, .int .i64 0, .int .i64 2]) := by show _ = _; rw [Pl.joinO, if_pos h1]; rfl
    generalize Pl.tOut (Pl.joinO p n) = R at E ⊢
    by_cases h2 : 8000 < p.size
    · clear h1
      go_enter Tryz.func28, Tryz.ntmps28
      go_wp2_with fail
      refine (unhide hill _ _).mono ?_
      rintro e w1 ⟨rfl, b1⟩
      have hR := (Mem.Res.start w).call b1
      obtain ⟨⟨c0, c1, c2⟩, ⟨f0, f1, f2⟩⟩ := hR.cells
      have hB := hR.bel
      clear b1 hR
      go_wp2
      refine bodyPost_ret (v := .agg #[.string ⟨#[]⟩, .int .i64 0, .int .i64 2]) (by simp [results, Tryz.results28, go_sem, c0, c1, c2]) rfl ⟨by rw [unhide E], ?_⟩
      exact ((hB.setCell (by simp) _).setCell (by simp) _).setCell (by simp) _
    · have h3 : 8000 < n.size := by omega
      clear h1
      go_enter Tryz.func28, Tryz.ntmps28
      go_wp2_with fail
      refine (unhide hill _ _).mono ?_
      rintro e w1 ⟨rfl, b1⟩
      have hR := (Mem.Res.start w).call b1
      obtain ⟨⟨c0, c1, c2⟩, ⟨f0, f1, f2⟩⟩ := hR.cells
      have hB := hR.bel
      clear b1 hR
      go_wp2
      refine bodyPost_ret (v := .agg #[.string ⟨#[]⟩, .int .i64 0, .int .i64 2]) (by simp [results, Tryz.results28, go_sem, c0, c1, c2]) rfl ⟨by rw [unhide E], ?_⟩
      exact ((hB.setCell (by simp) _).setCell (by simp) _).setCell (by simp) _
  have h2 : ¬ 8000 < p.size := fun h => h1 (.inl h)
  have h3 : ¬ 8000 < n.size := fun h => h1 (.inr h)
  have hr := hide (fun W => right_one p W hp)
  have hnr := hide (fun W => WName.spec_any n W (by unfold maxLen; omega))
  have hnm := hide (fun W => names_any p W hp)
  have hj := hide (fun W => join1_any p n W hp hq)
  have EB : Hid (¬ (Pl.pathB p = true ∧ Pl.nameB n = true) → Pl.tOut (Pl.joinO p n) = .agg #[.string ⟨#[]⟩, .int .i64 0, .int .i64 1]) := fun h => by rw [Pl.joinO, if_neg h1, if_pos h]; rfl
  have EF : Hid (Pl.pathB p = true ∧ Pl.nameB n = true → (Pl.names p).length = 6 → Pl.tOut (Pl.joinO p n) = .agg #[.string ⟨#[]⟩, .int .i64 0, .int .i64 9]) := fun h h6 => by rw [Pl.joinO, if_neg h1, if_neg (fun g => g h), if_pos (by rw [Pl.namesR_yes h.1]; exact h6)]; rfl
  have EG : Hid (Pl.pathB p = true ∧ Pl.nameB n = true → ¬ (Pl.names p).length = 6 → Pl.tOut (Pl.joinO p n) = .agg #[.string (Pl.joinN p n), .int .i64 0, .int .i64 0]) := fun h h6 => by rw [Pl.joinO, if_neg h1, if_neg (fun g => g h), if_neg (by rw [Pl.namesR_yes h.1]; exact h6), Pl.namesR_yes h.1]; rfl
  have HL6 : Hid (Pl.pathB p = true → (Pl.names p).length ≤ 6) := fun h => (Pl.pathB_all h).2
  generalize Pl.tOut (Pl.joinO p n) = R at EB EF EG ⊢
  generalize Pl.pathB p = r at hr EB EF EG HL6
  generalize Pl.nameB n = q at hnr EB EF EG
  generalize Pl.names p = L at hnm EF EG HL6
  generalize Pl.joinN p n = BODY at hj EG
  clear h1
  cases r
  · have E := hide (EB.out (by simp))
    clear EB EF EG
    go_enter Tryz.func28, Tryz.ntmps28
    go_wp2_with fail
    refine (unhide hr _).mono ?_
    rintro e w1 ⟨rfl, b1⟩
    have hR := (Mem.Res.start w).call b1
    clear b1
    go_wp2_with fail
    refine (unhide hill _ _).mono ?_
    rintro e wE ⟨rfl, bE⟩
    have hRE := hR.call bE
    obtain ⟨⟨c0, c1, c2⟩, ⟨f0, f1, f2⟩⟩ := hRE.cells
    have hB := hRE.bel
    clear bE hR hRE
    go_wp2
    refine bodyPost_ret (v := .agg #[.string ⟨#[]⟩, .int .i64 0, .int .i64 1]) (by simp [results, Tryz.results28, go_sem, c0, c1, c2]) rfl ⟨by rw [unhide E], ?_⟩
    exact ((hB.setCell (by simp) _).setCell (by simp) _).setCell (by simp) _
  cases q
  · have E := hide (EB.out (by simp))
    clear EB EF EG
    go_enter Tryz.func28, Tryz.ntmps28
    go_wp2_with fail
    refine (unhide hr _).mono ?_
    rintro e w1 ⟨rfl, b1⟩
    have hR := (Mem.Res.start w).call b1
    clear b1
    go_wp2_with fail
    refine (unhide hnr _).mono ?_
    rintro e w' ⟨rfl, hw⟩
    obtain rfl := hw.symm
    go_wp2_with fail
    refine (unhide hill _ _).mono ?_
    rintro e wE ⟨rfl, bE⟩
    have hRE := hR.call bE
    obtain ⟨⟨c0, c1, c2⟩, ⟨f0, f1, f2⟩⟩ := hRE.cells
    have hB := hRE.bel
    clear bE hR hRE
    go_wp2
    refine bodyPost_ret (v := .agg #[.string ⟨#[]⟩, .int .i64 0, .int .i64 1]) (by simp [results, Tryz.results28, go_sem, c0, c1, c2]) rfl ⟨by rw [unhide E], ?_⟩
    exact ((hB.setCell (by simp) _).setCell (by simp) _).setCell (by simp) _
  have hl6 := HL6.out rfl
  by_cases h6 : L.length = 6
  · have E := hide (EF.out ⟨rfl, rfl⟩ h6)
    have t6 : (6 : Int) ≤ (L.length : Int) := by omega
    clear EB EF EG
    go_enter Tryz.func28, Tryz.ntmps28
    go_wp2_with fail
    refine (unhide hr _).mono ?_
    rintro e w1 ⟨rfl, b1⟩
    have hR := (Mem.Res.start w).call b1
    clear b1
    go_wp2_with fail
    refine (unhide hnr _).mono ?_
    rintro e w' ⟨rfl, hw⟩
    obtain rfl := hw.symm
    go_wp2_with fail
    refine (unhide hnm _).mono ?_
    rintro e w2 ⟨v, rfl, hown, b2⟩
    obtain ⟨va, vc, rfl⟩ := Mem.own_shape hown
    have hR := hR.call b2
    clear hown b2 h6
    go_wp2_with fail
    refine (unhide hill _ _).mono ?_
    rintro e wE ⟨rfl, bE⟩
    have hRE := hR.call bE
    obtain ⟨⟨c0, c1, c2⟩, ⟨f0, f1, f2⟩⟩ := hRE.cells
    have hB := hRE.bel
    clear bE hR hRE
    go_wp2
    refine bodyPost_ret (v := .agg #[.string ⟨#[]⟩, .int .i64 0, .int .i64 9]) (by simp [results, Tryz.results28, go_sem, c0, c1, c2]) rfl ⟨by rw [unhide E], ?_⟩
    exact ((hB.setCell (by simp) _).setCell (by simp) _).setCell (by simp) _
  · have E := hide (EG.out ⟨rfl, rfl⟩ h6)
    have t6 : ¬ (6 : Int) ≤ (L.length : Int) := by omega
    clear EB EF EG
    go_enter Tryz.func28, Tryz.ntmps28
    go_wp2_with fail
    refine (unhide hr _).mono ?_
    rintro e w1 ⟨rfl, b1⟩
    have hR := (Mem.Res.start w).call b1
    clear b1
    go_wp2_with fail
    refine (unhide hnr _).mono ?_
    rintro e w' ⟨rfl, hw⟩
    obtain rfl := hw.symm
    go_wp2_with fail
    refine (unhide hnm _).mono ?_
    rintro e w2 ⟨v, rfl, hown, b2⟩
    obtain ⟨va, vc, rfl⟩ := Mem.own_shape hown
    have hR := hR.call b2
    clear hown b2 h6
    go_wp2_with fail
    refine (unhide hj _).mono ?_
    rintro e w' ⟨rfl, hw⟩
    obtain rfl := hw.symm
    generalize BODY = body at E ⊢
    obtain ⟨⟨c0, c1, c2⟩, ⟨f0, f1, f2⟩⟩ := hR.cells
    have hB := hR.bel
    clear hR
    go_wp2
    refine bodyPost_ret (v := .agg #[.string body, .int .i64 0, .int .i64 0]) (by simp [results, Tryz.results28, go_sem, c0, c1, c2]) rfl ⟨by rw [unhide E], ?_⟩
    exact ((hB.setCell (by simp) _).setCell (by simp) _).setCell (by simp) _
end WPathS
end Go.Proofs.YthkfhjemcekpgaaGreatDoor
