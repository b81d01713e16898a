/- The walk of the program's PathNames: new texts in a new row. -/
import Derived.Test.YtopipjfomnnjcaaWPathOf
namespace Go.Proofs.Ytopipjfomnnjcaa
open Go.RowKit
namespace WNamesI
theorem makeN (n : Nat) (hn : n ≤ 1000) (w : World) : (Instr.makeSlice 39 (.int .i64 (n : Int)) (.int .i64 (n : Int))).run Try.prog w = .ok (.slice (some ⟨w.heap.size, 0, none⟩) n n) (w.alloc (.cells (madeCells (Value.string ⟨#[]⟩).cells n) 9)) := by
  obtain ⟨i0, h0, h1, h2, h3⟩ := info_parts WWords.infoS
  have h := run_make (P := Try.prog) w 39 9 i0 (.string ⟨#[]⟩) Try.underlying39 h0 h1 .i64 .i64 (n : Int) (n : Int) (by omega) (Int.le_refl _) (by rw [h3]; omega) (by omega)
  rw [h, h2]; simp

set_option maxRecDepth 100000 in
set_option maxHeartbeats 400000 in
theorem any (s : ByteArray) (w : World) (hs : s.size ≤ 1048576) :
    Calls Try.prog 27 #[.string s] w fun e w' => ∃ g, e = .returned (.slice (some ⟨g, 0, none⟩) (Pl.namesR s).length (Pl.namesR s).length) ∧
      w'.ownsRow w.heap.size 9 1 (.slice (some ⟨g, 0, none⟩) (Pl.namesR s).length (Pl.namesR s).length) (Pl.namesR s).length ((Pl.namesR s).map Value.string) ∧ Below w.heap.size w w' := by
  have hn := hide (WNames.any s w hs)
  have hL := hide (Pl.namesR_all s)
  generalize Pl.pathB s = r at hn
  generalize Pl.namesR s = L at hn hL
  have hl6 := (unhide hL).2
  go_enter Try.func27, Try.ntmps27
  go_wp2_with fail
  refine (unhide hn).mono ?_
  rintro e w1 ⟨v, rfl, hown, hb⟩
  clear hn
  have hmk := fun W => makeN L.length (by omega) W
  rcases Mem.texts hown with ⟨rfl, rfl⟩ | ⟨g, cap, rfl, hcap, hm, hgb, hgl, hcell⟩
  · clear hown
    have hmk0 : ∀ W, (Instr.makeSlice 39 (.int .i64 0) (.int .i64 0)).run Try.prog W = .ok (.slice (some ⟨W.heap.size, 0, none⟩) 0 0) (W.alloc (.cells (madeCells (Value.string ⟨#[]⟩).cells 0) 9)) := fun W => makeN 0 (by omega) W
    clear hmk
    go_wp2
    go_loop [18] (fun i => i = .int .i64 0) (fun _ => 0)
    case atStart => rfl
    case round =>
      subst hrel
      go_wp2
      go_ret
      exact ⟨w1.heap.size, rfl, World.ownsRow_made _ _ 0 hb.size (Nat.zero_le _) (size_madeCells _ _), hb.alloc hb.size _⟩
  · clear hown
    have HC := hide hcell
    clear hcell
    have hb0 := hb.size
    go_wp2
    go_loopw [18] (fun i wr => ∃ (k : Nat) (xs : List Value), k ≤ L.length ∧ i = .int .i64 (k : Int) ∧ wr.ownsRow w.heap.size 9 1 (.slice (some ⟨w1.heap.size, 0, none⟩) L.length L.length) L.length xs ∧
        Below w1.heap.size w1 wr ∧ Hid (xs.take k = (L.take k).map Value.string)) (fun i _ => L.length - (intOf i).toNat)
    case atStart => exact ⟨0, _, Nat.zero_le _, rfl, World.ownsRow_lit _ _ _ hb0 (by unfold maxLen; omega) (by rw [size_madeCells]; simp), (Below.refl _ _).alloc (Nat.le_refl _) _, rfl⟩
    case round =>
      obtain ⟨k, xs, hk, rfl, hown, hbel, HX⟩ := hrel
      by_cases hlt : k < L.length
      · obtain ⟨t, hkt⟩ : ∃ t, L[k]? = some t := ⟨_, List.getElem?_eq_getElem hlt⟩
        have hc : wr.cell? ⟨g, k, none⟩ = some (.string t) := (hbel.cell (p := ⟨g, k, none⟩) hgl).trans (unhide HC k t hkt)
        have u1 : (k : Int) < (L.length : Int) := by omega
        have H1 : Hid ((⟨(Pl.cat [t]).toArray⟩ : ByteArray) = t) := by
          show _ = _
          rw [Pl.cat_one]
        have H2 : Hid ((L.take (k + 1)).map Value.string = (L.take k).map Value.string ++ [Value.string t]) := by
          show _ = _
          rw [List.take_add_one, hkt]; simp
        have hts : t.size ≤ 20 := (Pl.name_free ((unhide hL).1 t (List.mem_of_getElem? hkt))).2.2.2
        have hxl : xs.length = L.length := by have := hown.1; omega
        have hs2 := hbel.size
        clear hkt
        go_wp2_with fail
        refine (WJoin.any wr.heap.size 0 1 [t] _ (by simp) (by rw [Pl.tot_one]; omega) (Mem.one_text _ _ _) (by simp)).mono ?_
        rintro e w2 ⟨rfl, hb2⟩
        rw [unhide H1]
        have hown2 := Mem.own_call (hown.alloc (.cells #[.string t] 9)) hb2
        have hbel2 : Below w1.heap.size w1 w2 := (hbel.alloc hs2 _).trans (hb2.mono (by simp; omega))
        obtain ⟨hown3, hgr⟩ := hown2.stored k (.string t)
        have hce : w2.cell? ⟨w1.heap.size, k, none⟩ = some xs[k] := by
          rw [hown2.cellAt k (by omega), List.getElem?_eq_getElem (by omega)]
        have hfr := hown2.frozenAt k
        have hbel3 := hbel2.setCell (p := ⟨w1.heap.size, k, none⟩) (by simp) (.string t)
        have H3 : Hid ((xs.set k (.string t)).take (k + 1) = (L.take (k + 1)).map Value.string) := by
          show _ = _
          rw [unhide H2, ← HX.out, List.take_add_one, List.take_set_of_le (by omega), List.getElem?_set_self (by omega)]; rfl
        have HO3 := hide hown3
        clear hown hown2 hbel hbel2 hb2 hgr HX hown3
        go_wp2
        go_roundw
        case rel => exact ⟨k + 1, _, by omega, by go_num, unhide HO3, hbel3, H3⟩
        case measure => simp [intOf]; omega
      · have H2 : Hid (xs = L.map Value.string) := by
          show _ = _
          have h1 := HX.out
          have hxl : xs.length = L.length := by have := hown.1; omega
          rwa [List.take_of_length_le (by omega), List.take_of_length_le (by omega)] at h1
        have hbf := hb.trans (hbel.mono hb0)
        have HO := hide hown
        clear hown
        go_wp2
        go_ret
        exact ⟨w1.heap.size, rfl, by rw [← unhide H2]; exact unhide HO, hbf⟩
end WNamesI
end Go.Proofs.Ytopipjfomnnjcaa
