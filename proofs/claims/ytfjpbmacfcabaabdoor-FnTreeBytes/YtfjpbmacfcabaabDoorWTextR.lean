/- The walk of the program's readText. -/
import Derived.Test.YtfjpbmacfcabaabDoorWGetN
import Derived.Test.YtfjpbmacfcabaabDoorWTextS
import Derived.Test.YtfjpbmacfcabaabDoorPartB
namespace Go.Proofs.YtfjpbmacfcabaabDoor
open Go.RowKit
namespace WTextI
/-- The three cells behind one more such call. -/
theorem Mem.still3 {w W w' : World} {B : Nat} {x y z : Value} (b : Below W.heap.size W w') (hlt : B < W.heap.size) (hW : Below B w W)
    (c0 : W.cell? ⟨B, 0, none⟩ = some x) (c1 : W.cell? ⟨B, 1, none⟩ = some y) (c2 : W.cell? ⟨B, 2, none⟩ = some z) (f0 : W.frozen? ⟨B, 0, none⟩ = false) (f1 : W.frozen? ⟨B, 1, none⟩ = false) (f2 : W.frozen? ⟨B, 2, none⟩ = false) :
    (w'.cell? ⟨B, 0, none⟩ = some x ∧ w'.cell? ⟨B, 1, none⟩ = some y ∧ w'.cell? ⟨B, 2, none⟩ = some z) ∧
    (w'.frozen? ⟨B, 0, none⟩ = false ∧ w'.frozen? ⟨B, 1, none⟩ = false ∧ w'.frozen? ⟨B, 2, none⟩ = false) ∧ Below B w w' := by
  refine ⟨⟨?_, ?_, ?_⟩, ⟨?_, ?_, ?_⟩, hW.trans (b.mono (Nat.le_of_lt hlt))⟩
  · rw [b.cell hlt]; exact c0
  · rw [b.cell hlt]; exact c1
  · rw [b.cell hlt]; exact c2
  · rw [b.frozen hlt]; exact f0
  · rw [b.frozen hlt]; exact f1
  · rw [b.frozen hlt]; exact f2
theorem Pl.getText_zero (s : ByteArray) (a : Int) : (Pl.getText s a).2.2 ≠ 0 → (Pl.getText s a).1 = ⟨#[]⟩ ∧ (Pl.getText s a).2.1 = 0 := by
  unfold Pl.getText
  split
  · intro _; exact ⟨rfl, rfl⟩
  · split
    · intro _; exact ⟨rfl, rfl⟩
    · split
      · intro _; exact ⟨rfl, rfl⟩
      · intro h; exact absurd rfl h
/-- What readText answers: a fault is a byteFault. -/
def told (r : ByteArray × Int × Int) : Value := if r.2.2 = 0 then .tuple #[.string r.1, .int .i64 r.2.1, .nilIface] else .tuple #[.string ⟨#[]⟩, .int .i64 0, .iface 103 (.agg #[.int .i64 r.2.2])]
theorem told_bad {r : ByteArray × Int × Int} {c : Int} (h : r = (⟨#[]⟩, 0, c)) (hc : c ≠ 0) : told r = .tuple #[.string ⟨#[]⟩, .int .i64 0, .iface 103 (.agg #[.int .i64 c])] := by
  subst h; simp [told, hc]
theorem told_good {r : ByteArray × Int × Int} {t : ByteArray} {p : Int} (h : r = (t, p, 0)) : told r = .tuple #[.string t, .int .i64 p, .nilIface] := by
  subst h; simp [told]

set_option maxRecDepth 100000 in
set_option maxHeartbeats 1000000 in
theorem read_any (s : ByteArray) (a : Int) (w : World) (h8 : s.size ≤ 8000) (ha : a ≤ 9223372036854775807) :
    Calls Tryd.prog 71 #[.string s, .int .i64 a] w fun e w' => e = .returned (told (Pl.getText s a)) ∧ Below w.heap.size w w' := by
  obtain ⟨n, p, c, HN, H⟩ := Pl.getText_cases s a
  have HR := hide (WGet.read_whole s a w h8 ha)
  rw [HN] at HR
  clear HN
  rcases H with ⟨hc, hn, hp, H⟩ | ⟨rfl, _, q, rfl, hq, H⟩
  · subst hn hp
    have E0 := hide (WGet.told_bad (r := (0, 0, c)) rfl hc)
    have E := hide (told_bad H hc)
    clear H hc
    go_enter Tryd.func71, Tryd.ntmps71
    go_wp2_with fail
    refine (unhide HR).mono ?_
    rintro e w1 ⟨rfl, hw⟩
    obtain rfl := hw.symm
    rw [unhide E0]
    go_wp2
    go_ret3
    exact ⟨(congrArg Ending.returned (unhide E)).symm, Below.refl _ _⟩
  · have E0 := hide (WGet.told_good (r := (n, (q : Int), 0)) rfl)
    rcases H with ⟨hn, H⟩ | ⟨hn, H⟩ | ⟨m, rfl, hm, H⟩
    · have E := hide (told_bad H (by decide))
      clear H
      go_enter Tryd.func71, Tryd.ntmps71
      go_wp2_with fail
      refine (unhide HR).mono ?_
      rintro e w1 ⟨rfl, hw⟩
      obtain rfl := hw.symm
      rw [unhide E0]
      go_wp2
      go_ret3
      exact ⟨(congrArg Ending.returned (unhide E)).symm, Below.refl _ _⟩
    · have E := hide (told_bad H (by decide))
      have t1 : ¬ n < 0 := by omega
      clear H
      go_enter Tryd.func71, Tryd.ntmps71
      go_wp2_with fail
      refine (unhide HR).mono ?_
      rintro e w1 ⟨rfl, hw⟩
      obtain rfl := hw.symm
      rw [unhide E0]
      go_wp2
      go_ret3
      exact ⟨(congrArg Ending.returned (unhide E)).symm, Below.refl _ _⟩
    · have t1 : ¬ (m : Int) < 0 := by omega
      have t2 : ¬ (8000 : Int) < (m : Int) := by omega
      rcases H with ⟨h3, H⟩ | ⟨h3, H⟩
      · have E := hide (told_bad H (by decide))
        have t3 : (s.size : Int) - (q : Int) < (m : Int) := by omega
        clear H
        go_enter Tryd.func71, Tryd.ntmps71
        go_wp2_with fail
        refine (unhide HR).mono ?_
        rintro e w1 ⟨rfl, hw⟩
        obtain rfl := hw.symm
        rw [unhide E0]
        go_wp2
        go_ret3
        exact ⟨(congrArg Ending.returned (unhide E)).symm, Below.refl _ _⟩
      · have eb : (⟨(s.extract q (q + m)).data.toList.toArray⟩ : ByteArray) = s.extract q (q + m) := by
          apply ByteArray.ext
          rw [Array.toArray_toList]
        rw [← eb] at H
        have E := hide (told_good H)
        have t3 : ¬ (s.size : Int) - (q : Int) < (m : Int) := by omega
        have t5 : (0 : Int) ≤ (q : Int) := by omega
        have t6 : (q : Int) ≤ (q : Int) + (m : Int) := by omega
        have t7 : (q : Int) + (m : Int) ≤ (s.size : Int) := by omega
        have hsz : (s.extract q (q + m)).size ≤ 8000 := by simp; omega
        have HSZ := hide hsz
        clear H hsz eb
        go_enter Tryd.func71, Tryd.ntmps71
        go_wp2_with fail
        refine (unhide HR).mono ?_
        rintro e w1 ⟨rfl, hw⟩
        obtain rfl := hw.symm
        rw [unhide E0]
        go_wp2_with fail
        refine (WJoin.any w.heap.size 0 1 [s.extract q (q + m)] _ (by simp) (by rw [Pl.tot_one]; have := unhide HSZ; omega) (Mem.one_text _ _ _) (by simp)).mono ?_
        rintro e w2 ⟨rfl, b2⟩
        have b3 := ((Below.refl w.heap.size w).alloc (Nat.le_refl _) _).trans (b2.mono (by simp))
        rw [Pl.cat_one]
        generalize (⟨(s.extract q (q + m)).data.toList.toArray⟩ : ByteArray) = B at E ⊢
        clear b2 HSZ
        go_wp2
        go_ret3
        exact ⟨(congrArg Ending.returned (unhide E)).symm, b3⟩
end WTextI
end Go.Proofs.YtfjpbmacfcabaabDoor
