/- The walk of the specification's GetText. -/
import Derived.Test.YtfjpbmacfcabaabDoorWGetS
import Derived.Test.YtfjpbmacfcabaabDoorPartA
import Derived.Deep.RegionHeld3
namespace Go.Proofs.YtfjpbmacfcabaabDoor
open Go.RowKit
namespace WTextS
/-- A TextOut. -/
def txt (r : ByteArray × Int × Int) : Value := .agg #[.string r.1, .int .i64 r.2.1, .int .i64 r.2.2]

theorem new_cell (W : World) (C : Array Value) (T : TypeId) (B : Nat) {j : Nat} {v : Value} (hB : W.heap.size = B) (hv : C[j]? = some v) : ((W.alloc (.cells C T)).drew).cell? ⟨B, j, none⟩ = some v := by
  subst hB
  show (W.alloc (.cells C T)).cell? ⟨W.heap.size, j, none⟩ = some v
  rw [World.cell?_alloc_mark]
  exact hv

set_option maxRecDepth 100000 in
set_option maxHeartbeats 1000000 in
theorem spec_any (s : ByteArray) (a : Int) (w : World) (hs : s.size ≤ maxLen) (ha : a ≤ 9223372036854775807) :
    Calls Tryd.prog 53 #[.string s, .int .i64 a] w fun e w' => e = .returned (txt (Pl.getText s a)) ∧ Below w.heap.size w w' := by
  have m0 := hs
  unfold maxLen at m0
  obtain ⟨n, p, c, HN, H⟩ := Pl.getText_cases s a
  have E1 : Hid (WGetS.num (Pl.getNum s a) = .agg #[.int .i64 n, .int .i64 p, .int .i64 c]) := by show _ = _; rw [HN]; rfl
  clear HN
  have HC := hide H
  clear H
  go_enter Tryd.func53, Tryd.ntmps53
  go_wp2_with fail
  refine (WGetS.spec_any s a _ hs ha).mono ?_
  rintro e w1 ⟨rfl, b1⟩
  rw [E1.out]
  obtain ⟨⟨c0, c1, c2⟩, ⟨f0, f1, f2⟩, b3⟩ := Mem.kept3 b1 (heap_alloc_new w _) ((Below.refl _ _).alloc (Nat.le_refl _) _)
  have hlt : w.heap.size < w1.heap.size := World.block_lt_of_cell? w1 ⟨w.heap.size, 0, none⟩ c0
  clear b1 E1
  rcases unhide HC with ⟨hc, hn, hp, H⟩ | ⟨rfl, h8, q, rfl, hq, H⟩
  · have E : Hid (txt (Pl.getText s a) = .agg #[.string ⟨#[]⟩, .int .i64 0, .int .i64 c]) := by show _ = _; rw [H]; rfl
    have t1 : (c != 0) = true := by rw [bne_iff_ne]; exact hc
    clear HC H hc hn hp
    go_wp2
    refine bodyPost_ret (v := .agg #[.string ⟨#[]⟩, .int .i64 0, .int .i64 c]) (by simp [results, Tryd.results53, go_sem, c0, c1, c2, hlt]) rfl ⟨by rw [E.out], ?_⟩
    exact (((b3.setCell (by simp) _).setCell (by simp) _).setCell (by simp) _).alloc (by simp [World.setCell]; omega) _
  · rcases H with ⟨hn, H⟩ | ⟨hn, H⟩ | ⟨m, rfl, hm, H⟩
    · have E : Hid (txt (Pl.getText s a) = .agg #[.string ⟨#[]⟩, .int .i64 0, .int .i64 3]) := by show _ = _; rw [H]; rfl
      clear HC H
      go_wp2
      refine bodyPost_ret (v := .agg #[.string ⟨#[]⟩, .int .i64 0, .int .i64 3]) (by simp [results, Tryd.results53, go_sem, c0, c1, c2, hlt]) rfl ⟨by rw [E.out], ?_⟩
      exact (((b3.setCell (by simp) _).setCell (by simp) _).setCell (by simp) _).alloc (by simp [World.setCell]; omega) _
    · have E : Hid (txt (Pl.getText s a) = .agg #[.string ⟨#[]⟩, .int .i64 0, .int .i64 3]) := by show _ = _; rw [H]; rfl
      have t1 : ¬ n < 0 := by omega
      clear HC H
      go_wp2
      refine bodyPost_ret (v := .agg #[.string ⟨#[]⟩, .int .i64 0, .int .i64 3]) (by simp [results, Tryd.results53, go_sem, c0, c1, c2, hlt]) rfl ⟨by rw [E.out], ?_⟩
      exact (((b3.setCell (by simp) _).setCell (by simp) _).setCell (by simp) _).alloc (by simp [World.setCell]; omega) _
    · have t1 : ¬ (m : Int) < 0 := by omega
      have t2 : ¬ (8000 : Int) < (m : Int) := by omega
      rcases H with ⟨h3, H⟩ | ⟨h3, H⟩
      · have E : Hid (txt (Pl.getText s a) = .agg #[.string ⟨#[]⟩, .int .i64 0, .int .i64 4]) := by show _ = _; rw [H]; rfl
        have t3 : (s.size : Int) - (m : Int) < (q : Int) := by omega
        clear HC H
        go_wp2
        refine bodyPost_ret (v := .agg #[.string ⟨#[]⟩, .int .i64 0, .int .i64 4]) (by simp [results, Tryd.results53, go_sem, c0, c1, c2, hlt]) rfl ⟨by rw [E.out], ?_⟩
        exact (((b3.setCell (by simp) _).setCell (by simp) _).setCell (by simp) _).alloc (by simp [World.setCell]; omega) _
      · have E : Hid (txt (Pl.getText s a) = .agg #[.string (s.extract q (q + m)), .int .i64 ((q : Int) + (m : Int)), .int .i64 0]) := by show _ = _; rw [H]; rfl
        have t3 : ¬ (s.size : Int) - (m : Int) < (q : Int) := by omega
        have t4 : IntKind.i64.wrap ((q : Int) + (m : Int)) = (q : Int) + (m : Int) := by rw [IntKind.wrap_i64]; omega
        have t5 : (0 : Int) ≤ (q : Int) := by omega
        have t6 : (q : Int) ≤ (q : Int) + (m : Int) := by omega
        have t7 : (q : Int) + (m : Int) ≤ (s.size : Int) := by omega
        clear HC H
        go_wp2
        go_region_held3 (fun w' => w'.cell? ⟨w1.heap.size, 0, none⟩ = some (.int .i64 (m : Int)) ∧ w'.cell? ⟨w1.heap.size, 1, none⟩ = some (.int .i64 (q : Int))) (first | (go_keep; done) | exact ⟨new_cell _ _ _ _ (by simp) rfl, new_cell _ _ _ _ (by simp) rfl⟩) (fail)
        have et : ((q : Int) + (m : Int)).toNat = q + m := by omega
        rw [et]
        generalize s.extract q (q + m) = B at E ⊢
        clear et
        go_wp2
        refine bodyPost_ret (v := .agg #[.string B, .int .i64 ((q : Int) + (m : Int)), .int .i64 0]) (by simp [results, Tryd.results53, go_sem, c0, c1, c2, hlt]) rfl ⟨by rw [E.out], ?_⟩
        exact ((((b3.setCell (by simp) _).setCell (by simp) _).setCell (by simp) _).alloc (by simp [World.setCell]; omega) _).drew
end WTextS
end Go.Proofs.YtfjpbmacfcabaabDoor
