/- Several texts of one claim in one file: WIll, MemRes, WSpecB, WSpecP. -/
import Derived.Test.YtepmojmelcngeaaGreatDoorG18
import Derived.Test.YtepmojmelcngeaaGreatDoorG02
import Derived.Test.YtepmojmelcngeaaGreatDoorMem
import Derived.Test.YtepmojmelcngeaaGreatDoorG44
import Derived.Test.YtepmojmelcngeaaGreatDoorG20
/- The walk of the specification's l02Ill. -/
namespace Go.Proofs.YtepmojmelcngeaaGreatDoor
open Go.RowKit
namespace WPathS
theorem ill_any (c : Int) (w : World) :
    Calls Tryz.prog 60 #[.int .i64 c] w fun e w' => e = .returned (.agg #[.string ⟨#[]⟩, .int .i64 0, .int .i64 c]) ∧ Below w.heap.size w w' := by
  go_enter Tryz.func60, Tryz.ntmps60
  go_wp2
  refine bodyPost_ret (v := .agg #[.string ⟨#[]⟩, .int .i64 0, .int .i64 c]) (by simp [results, Tryz.results60, go_sem]) rfl ⟨rfl, ?_⟩
  exact (Below.refl _ _).alloc (Nat.le_refl _) _

end WPathS
end Go.Proofs.YtepmojmelcngeaaGreatDoor

/- A result of three cells that was made first, through the calls behind it. No program in sight but its type's number. -/
namespace Go.Proofs.YtepmojmelcngeaaGreatDoor
open Go.RowKit
namespace Mem
/-- A result of three cells (a text, two numbers) that was made first, still empty; old memory is as it was. -/
structure Res (w w' : World) : Prop where
  heap : w'.heap[w.heap.size]? = some (.cells #[.string ⟨#[]⟩, .int .i64 0, .int .i64 0] 55 (0, 0))
  bel : Below w.heap.size w w'
theorem Res.start (w : World) : Res w (w.alloc (.cells #[.string ⟨#[]⟩, .int .i64 0, .int .i64 0] 55)) := ⟨heap_alloc_new w _, (Below.refl _ _).alloc (Nat.le_refl _) _⟩
theorem Res.lt {w w' : World} (h : Res w w') : w.heap.size < w'.heap.size := (Array.getElem?_eq_some_iff.1 h.heap).1
theorem Res.below {w w1 w2 : World} {B : Nat} (h : Res w w1) (hb : Below B w1 w2) (hB : w.heap.size < B) : Res w w2 :=
  ⟨(hb.block _ hB).trans h.heap, h.bel.trans (hb.mono (Nat.le_of_lt hB))⟩
theorem Res.call {w w1 w2 : World} (h : Res w w1) (hb : Below w1.heap.size w1 w2) : Res w w2 := h.below hb h.lt
theorem Res.cells {w w' : World} (h : Res w w') : (w'.cell? ⟨w.heap.size, 0, none⟩ = some (.string ⟨#[]⟩) ∧ w'.cell? ⟨w.heap.size, 1, none⟩ = some (.int .i64 0) ∧ w'.cell? ⟨w.heap.size, 2, none⟩ = some (.int .i64 0)) ∧
    (w'.frozen? ⟨w.heap.size, 0, none⟩ = false ∧ w'.frozen? ⟨w.heap.size, 1, none⟩ = false ∧ w'.frozen? ⟨w.heap.size, 2, none⟩ = false) := by
  refine ⟨⟨?_, ?_, ?_⟩, ⟨row_frozen h.heap, row_frozen h.heap, row_frozen h.heap⟩⟩
  · rw [cell_of_row w' _ 0 _ _ (0, 0) h.heap]; rfl
  · rw [cell_of_row w' _ 1 _ _ (0, 0) h.heap]; rfl
  · rw [cell_of_row w' _ 2 _ _ (0, 0) h.heap]; rfl
end Mem
end Go.Proofs.YtepmojmelcngeaaGreatDoor

/- The walk of the specification's PathJoin. -/
namespace Go.Proofs.YtepmojmelcngeaaGreatDoor
open Go.RowKit
namespace WPathS
set_option maxRecDepth 100000 in
set_option maxHeartbeats 1000000 in
theorem joinF_any (p n : ByteArray) (w : World) (hp : p.size ≤ 1048576) (hq : n.size ≤ 1048576) :
    Calls Tryz.prog 25 #[.string p, .string n] w fun e w' => e = .returned (Pl.tOut (Pl.joinO p n)) ∧ Below w.heap.size w w' := by
  have hill := hide (fun c W => ill_any c W)
  by_cases h1 : 8000 < p.size ∨ 8000 < n.size
  · have E : Hid (Pl.tOut (Pl.joinO p n) = .agg #[.string ⟨#[]⟩, .int .i64 0, .int .i64 2]) := by show _ = _; rw [Pl.joinO, if_pos h1]; rfl
    generalize Pl.tOut (Pl.joinO p n) = R at E ⊢
    by_cases h2 : 8000 < p.size
    · clear h1
      go_enter Tryz.func25, Tryz.ntmps25
      go_wp2_with fail
      refine (unhide hill _ _).mono ?_
      rintro e w1 ⟨rfl, b1⟩
      have hR := (Mem.Res.start w).call b1
      obtain ⟨⟨c0, c1, c2⟩, ⟨f0, f1, f2⟩⟩ := hR.cells
      have hB := hR.bel
      clear b1 hR
      go_wp2
      refine bodyPost_ret (v := .agg #[.string ⟨#[]⟩, .int .i64 0, .int .i64 2]) (by simp [results, Tryz.results25, go_sem, c0, c1, c2]) rfl ⟨by rw [unhide E], ?_⟩
      exact ((hB.setCell (by simp) _).setCell (by simp) _).setCell (by simp) _
    · have h3 : 8000 < n.size := by omega
      clear h1
      go_enter Tryz.func25, Tryz.ntmps25
      go_wp2_with fail
      refine (unhide hill _ _).mono ?_
      rintro e w1 ⟨rfl, b1⟩
      have hR := (Mem.Res.start w).call b1
      obtain ⟨⟨c0, c1, c2⟩, ⟨f0, f1, f2⟩⟩ := hR.cells
      have hB := hR.bel
      clear b1 hR
      go_wp2
      refine bodyPost_ret (v := .agg #[.string ⟨#[]⟩, .int .i64 0, .int .i64 2]) (by simp [results, Tryz.results25, go_sem, c0, c1, c2]) rfl ⟨by rw [unhide E], ?_⟩
      exact ((hB.setCell (by simp) _).setCell (by simp) _).setCell (by simp) _
  have h2 : ¬ 8000 < p.size := fun h => h1 (.inl h)
  have h3 : ¬ 8000 < n.size := fun h => h1 (.inr h)
  have hr := hide (fun W => right_one p W hp)
  have hnr := hide (fun W => WName.spec_any n W (by unfold maxLen; omega))
  have hnm := hide (fun W => names_any p W hp)
  have hj := hide (fun W => join1_any p n W hp hq)
  have EB : Hid (¬ (Pl.pathB p = true ∧ Pl.nameB n = true) → Pl.tOut (Pl.joinO p n) = .agg #[.string ⟨#[]⟩, .int .i64 0, .int .i64 1]) := fun h => by rw [Pl.joinO, if_neg h1, if_pos h]; rfl
  have EF : Hid (Pl.pathB p = true ∧ Pl.nameB n = true → (Pl.names p).length = 6 → Pl.tOut (Pl.joinO p n) = .agg #[.string ⟨#[]⟩, .int .i64 0, .int .i64 9]) := fun h h6 => by rw [Pl.joinO, if_neg h1, if_neg (fun g => g h), if_pos (by rw [Pl.namesR_yes h.1]; exact h6)]; rfl
  have EG : Hid (Pl.pathB p = true ∧ Pl.nameB n = true → ¬ (Pl.names p).length = 6 → Pl.tOut (Pl.joinO p n) = .agg #[.string (Pl.joinN p n), .int .i64 0, .int .i64 0]) := fun h h6 => by rw [Pl.joinO, if_neg h1, if_neg (fun g => g h), if_neg (by rw [Pl.namesR_yes h.1]; exact h6), Pl.namesR_yes h.1]; rfl
  have HL6 : Hid (Pl.pathB p = true → (Pl.names p).length ≤ 6) := fun h => (Pl.pathB_all h).2
  generalize Pl.tOut (Pl.joinO p n) = R at EB EF EG ⊢
  generalize Pl.pathB p = r at hr EB EF EG HL6
  generalize Pl.nameB n = q at hnr EB EF EG
  generalize Pl.names p = L at hnm EF EG HL6
  generalize Pl.joinN p n = BODY at hj EG
  clear h1
  cases r
  · have E := hide (EB.out (by simp))
    clear EB EF EG
    go_enter Tryz.func25, Tryz.ntmps25
    go_wp2_with fail
    refine (unhide hr _).mono ?_
    rintro e w1 ⟨rfl, b1⟩
    have hR := (Mem.Res.start w).call b1
    clear b1
    go_wp2_with fail
    refine (unhide hill _ _).mono ?_
    rintro e wE ⟨rfl, bE⟩
    have hRE := hR.call bE
    obtain ⟨⟨c0, c1, c2⟩, ⟨f0, f1, f2⟩⟩ := hRE.cells
    have hB := hRE.bel
    clear bE hR hRE
    go_wp2
    refine bodyPost_ret (v := .agg #[.string ⟨#[]⟩, .int .i64 0, .int .i64 1]) (by simp [results, Tryz.results25, go_sem, c0, c1, c2]) rfl ⟨by rw [unhide E], ?_⟩
    exact ((hB.setCell (by simp) _).setCell (by simp) _).setCell (by simp) _
  cases q
  · have E := hide (EB.out (by simp))
    clear EB EF EG
    go_enter Tryz.func25, Tryz.ntmps25
    go_wp2_with fail
    refine (unhide hr _).mono ?_
    rintro e w1 ⟨rfl, b1⟩
    have hR := (Mem.Res.start w).call b1
    clear b1
    go_wp2_with fail
    refine (unhide hnr _).mono ?_
    rintro e w' ⟨rfl, hw⟩
    obtain rfl := hw.symm
    go_wp2_with fail
    refine (unhide hill _ _).mono ?_
    rintro e wE ⟨rfl, bE⟩
    have hRE := hR.call bE
    obtain ⟨⟨c0, c1, c2⟩, ⟨f0, f1, f2⟩⟩ := hRE.cells
    have hB := hRE.bel
    clear bE hR hRE
    go_wp2
    refine bodyPost_ret (v := .agg #[.string ⟨#[]⟩, .int .i64 0, .int .i64 1]) (by simp [results, Tryz.results25, go_sem, c0, c1, c2]) rfl ⟨by rw [unhide E], ?_⟩
    exact ((hB.setCell (by simp) _).setCell (by simp) _).setCell (by simp) _
  have hl6 := HL6.out rfl
  by_cases h6 : L.length = 6
  · have E := hide (EF.out ⟨rfl, rfl⟩ h6)
    have t6 : (6 : Int) ≤ (L.length : Int) := by omega
    clear EB EF EG
    go_enter Tryz.func25, Tryz.ntmps25
    go_wp2_with fail
    refine (unhide hr _).mono ?_
    rintro e w1 ⟨rfl, b1⟩
    have hR := (Mem.Res.start w).call b1
    clear b1
    go_wp2_with fail
    refine (unhide hnr _).mono ?_
    rintro e w' ⟨rfl, hw⟩
    obtain rfl := hw.symm
    go_wp2_with fail
    refine (unhide hnm _).mono ?_
    rintro e w2 ⟨v, rfl, hown, b2⟩
    obtain ⟨va, vc, rfl⟩ := Mem.own_shape hown
    have hR := hR.call b2
    clear hown b2 h6
    go_wp2_with fail
    refine (unhide hill _ _).mono ?_
    rintro e wE ⟨rfl, bE⟩
    have hRE := hR.call bE
    obtain ⟨⟨c0, c1, c2⟩, ⟨f0, f1, f2⟩⟩ := hRE.cells
    have hB := hRE.bel
    clear bE hR hRE
    go_wp2
    refine bodyPost_ret (v := .agg #[.string ⟨#[]⟩, .int .i64 0, .int .i64 9]) (by simp [results, Tryz.results25, go_sem, c0, c1, c2]) rfl ⟨by rw [unhide E], ?_⟩
    exact ((hB.setCell (by simp) _).setCell (by simp) _).setCell (by simp) _
  · have E := hide (EG.out ⟨rfl, rfl⟩ h6)
    have t6 : ¬ (6 : Int) ≤ (L.length : Int) := by omega
    clear EB EF EG
    go_enter Tryz.func25, Tryz.ntmps25
    go_wp2_with fail
    refine (unhide hr _).mono ?_
    rintro e w1 ⟨rfl, b1⟩
    have hR := (Mem.Res.start w).call b1
    clear b1
    go_wp2_with fail
    refine (unhide hnr _).mono ?_
    rintro e w' ⟨rfl, hw⟩
    obtain rfl := hw.symm
    go_wp2_with fail
    refine (unhide hnm _).mono ?_
    rintro e w2 ⟨v, rfl, hown, b2⟩
    obtain ⟨va, vc, rfl⟩ := Mem.own_shape hown
    have hR := hR.call b2
    clear hown b2 h6
    go_wp2_with fail
    refine (unhide hj _).mono ?_
    rintro e w' ⟨rfl, hw⟩
    obtain rfl := hw.symm
    generalize BODY = body at E ⊢
    obtain ⟨⟨c0, c1, c2⟩, ⟨f0, f1, f2⟩⟩ := hR.cells
    have hB := hR.bel
    clear hR
    go_wp2
    refine bodyPost_ret (v := .agg #[.string body, .int .i64 0, .int .i64 0]) (by simp [results, Tryz.results25, go_sem, c0, c1, c2]) rfl ⟨by rw [unhide E], ?_⟩
    exact ((hB.setCell (by simp) _).setCell (by simp) _).setCell (by simp) _
end WPathS
end Go.Proofs.YtepmojmelcngeaaGreatDoor

/- The walk of the specification's PathParent. -/
namespace Go.Proofs.YtepmojmelcngeaaGreatDoor
open Go.RowKit
namespace WPathS
set_option maxRecDepth 100000 in
theorem parentF_any (s : ByteArray) (w : World) (hs : s.size ≤ 1048576) :
    Calls Tryz.prog 23 #[.string s] w fun e w' => e = .returned (.string (Pl.glue (Pl.namesR s).dropLast)) ∧ Below w.heap.size w w' := by
  have hm : s.size ≤ maxLen := by unfold maxLen; omega
  have hr := hide (fun W => right_any s W hm)
  have hc := hide (fun W => parent_any s W hm)
  cases hB : Pl.pathB s
  · have E : Hid (Pl.glue (Pl.namesR s).dropLast = ⟨#[]⟩) := by show _ = _; rw [Pl.namesR_no hB]; rfl
    have HB := hide hB
    clear hB
    generalize Pl.glue (Pl.namesR s).dropLast = R at E ⊢
    by_cases h8 : 8000 < s.size
    · go_enter Tryz.func23, Tryz.ntmps23
      go_wp2
      go_ret
      exact ⟨ret_string (unhide E).symm, Below.refl _ _⟩
    · go_enter Tryz.func23, Tryz.ntmps23
      go_wp2_with (go_at_call 57; refine (unhide hr _).mono ?_; rw [unhide HB]; rintro e w1 ⟨rfl, b1⟩)
      go_ret
      exact ⟨ret_string (unhide E).symm, b1⟩
  · have E : Hid (Pl.parent s = Pl.glue (Pl.namesR s).dropLast) := by show _ = _; rw [Pl.namesR_yes hB]; exact Pl.parent_glue s
    have h8 : ¬ 8000 < s.size := fun h => by rw [Pl.pathB_long (by omega)] at hB; cases hB
    have HB := hide hB
    clear hB
    generalize Pl.glue (Pl.namesR s).dropLast = R at E ⊢
    generalize Pl.parent s = R2 at E hc
    go_enter Tryz.func23, Tryz.ntmps23
    go_wp2_with (first | (go_at_call 57; refine (unhide hr _).mono ?_; rw [unhide HB]; rintro e w1 ⟨rfl, b1⟩) | (go_at_call 56; refine (unhide hc _).mono ?_; rintro e w' ⟨rfl, hw⟩; obtain rfl := hw.symm))
    go_ret
    exact ⟨ret_string (unhide E), b1⟩

end WPathS
end Go.Proofs.YtepmojmelcngeaaGreatDoor

