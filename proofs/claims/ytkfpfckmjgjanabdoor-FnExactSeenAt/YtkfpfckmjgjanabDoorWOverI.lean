/- The walk of overlayOf. -/
import Derived.Test.YtkfpfckmjgjanabDoorG27
import Derived.Test.YtkfpfckmjgjanabDoorWNodesJ
import Derived.Test.YtkfpfckmjgjanabDoorG17
namespace Go.Proofs.YtkfpfckmjgjanabDoor
open Go.RowKit Go.Maps
namespace Pl
theorem lay_no {Ts : List (List Nd)} {L : List Nd} (hL : L ∈ Ts) (h : treeB L = false) : layB Ts = false := by
  have : Ts.all treeB = false := by
    rw [List.all_eq_false]
    exact ⟨L, hL, by rw [h]; simp⟩
  rw [layB, this, Bool.and_false]
theorem lay_few {Ts : List (List Nd)} (h : Ts.length < 1 ∨ 4 < Ts.length) : layB Ts = false := by
  unfold layB
  rcases h with h | h
  · rw [show decide (1 ≤ Ts.length) = false from decide_eq_false (by omega)]; simp
  · rw [show decide (Ts.length ≤ 4) = false from decide_eq_false (by omega)]; simp
theorem lay_yes {Ts : List (List Nd)} (h1 : 1 ≤ Ts.length) (h2 : Ts.length ≤ 4) (h : ∀ L ∈ Ts, treeB L = true) : layB Ts = true := by
  rw [layB, decide_eq_true h1, decide_eq_true h2, Bool.true_and, Bool.true_and, List.all_eq_true]
  exact h
end Pl
namespace WOverI
def layV (b : Nat) : Value := .iface 114 (.map (some b))
theorem row_call {w w' : World} {B n : Nat} {T : TypeId} {v : Value} {xs : List Value} (h : w.ownsRow B T 1 v n xs) (b : Below w.heap.size w w') : w'.ownsRow B T 1 v n xs := by
  refine ⟨h.1, ?_⟩
  rcases h.2 with h0 | ⟨g, cap, cur, hv, hb, hg, rest⟩
  · exact .inl h0
  · exact .inr ⟨g, cap, cur, hv, hb, (b.block g (Array.getElem?_eq_some_iff.1 hg).1).trans hg, rest⟩
/-- Layers as they lie: a row of the call's own, each a map of nodes. -/
structure Ov (w : World) (B : Nat) (v : Value) (Bs : List Nat) (Ls : List (List Pl.Nd)) : Prop where
  row : w.ownsRow B 147 1 v Bs.length (Bs.map layV)
  len : Bs.length = Ls.length
  maps : ∀ (j : Nat) b L, Bs[j]? = some b → Ls[j]? = some L → B ≤ b ∧ w.ownsMap Tryd.prog 9 MapN.elem b 40 (MapN.mapOf L)
theorem Ov.call {w w' : World} {B : Nat} {v : Value} {Bs : List Nat} {Ls : List (List Pl.Nd)} (h : Ov w B v Bs Ls) (b : Below w.heap.size w w') : Ov w' B v Bs Ls :=
  ⟨row_call h.row b, h.len, fun j c L h1 h2 => ⟨(h.maps j c L h1 h2).1, WNodesI.map_call (h.maps j c L h1 h2).2 b⟩⟩
theorem map_not {w : World} {B b n m : Nat} {T : TypeId} {v : Value} {xs : List Value} {D : DataW Unit} (h : w.ownsRow B T 1 v n xs) (hm : w.ownsMap Tryd.prog 9 MapN.elem b m D) : some b ≠ v.ownBlock := fun e => by
  obtain ⟨es, clock, h1, _⟩ := hm
  rcases h.2 with ⟨rfl, _⟩ | ⟨g, cap, cur, rfl, _, hg, _⟩
  · cases e
  · cases e
    rw [hg] at h1
    cases h1
theorem Ov.put {w w' : World} {B b : Nat} {v v' : Value} {Bs : List Nat} {Ls : List (List Pl.Nd)} {L : List Pl.Nd} (h : Ov w B v Bs Ls) (hm : w.ownsMap Tryd.prog 9 MapN.elem b 40 (MapN.mapOf L)) (hb : B ≤ b)
    (hr : w'.ownsRow B 147 1 v' (Bs.length + 1) (Bs.map layV ++ [layV b])) (hg : w.grownBy w' v.ownBlock) : Ov w' B v' (Bs ++ [b]) (Ls ++ [L]) := by
  refine ⟨by simpa using hr, by simp [h.len], fun j c M h1 h2 => ?_⟩
  by_cases e : j < Bs.length
  · rw [List.getElem?_append_left e] at h1
    rw [List.getElem?_append_left (by rw [← h.len]; exact e)] at h2
    obtain ⟨h3, h4⟩ := h.maps j c M h1 h2
    exact ⟨h3, h4.kept hg (map_not h.row h4)⟩
  · rw [List.getElem?_append_right (by omega)] at h1
    rw [List.getElem?_append_right (by rw [← h.len]; omega)] at h2
    have e0 : j - Bs.length = 0 := by
      have := (List.getElem?_eq_some_iff.1 h1).1
      simp at this; omega
    rw [e0] at h1
    rw [← h.len, e0] at h2
    simp at h1 h2
    subst h1 h2
    exact ⟨hb, hm.kept hg (map_not h.row hm)⟩
theorem infoL : (Tryd.prog.info? 147).map (fun i => (i.zero, i.size, i.bytes)) = some (some .nilIface, 1, 16) := by kernel_rfl
set_option linter.unusedSimpArgs false in
set_option maxRecDepth 100000 in
set_option maxHeartbeats 1000000 in
theorem over_any (a : Option Addr) (cap : Nat) (Ts : List Pl.Tr) (w : World) (hl : Ts.length ≤ 1048576) (hv : Mem.isTrees w a Ts) (hok : ∀ t ∈ Ts, t.L.length ≤ 1048576 ∧ ∀ n ∈ t.L, n.path.size ≤ 1048576 ∧ n.data.size ≤ 1048576)
    (r1 r2 r3 : TypeId) (x1 x2 x3 : Value) (hE : WNodesI.Errs w r1 r2 r3 x1 x2 x3) :
    Calls Tryd.prog 40 #[.agg #[.slice a Ts.length cap]] w fun e w' => ((Pl.layB (Ts.map (·.L)) = true ∧ ∃ v Bs, e = .returned (.tuple #[v, .nilIface]) ∧ Ov w' w.heap.size v Bs (Ts.map (·.L))) ∨
      (Pl.layB (Ts.map (·.L)) = false ∧ e = .returned (.tuple #[.slice none 0 0, .iface r1 x1]))) ∧ Below w.heap.size w w' := by
  obtain ⟨i0, hi, hz0, hz1, hz2⟩ := info_parts infoL
  have b0 : Below w.heap.size w (w.alloc (.cells #[.slice a Ts.length cap] 29)) := (Below.refl _ _).alloc (Nat.le_refl _) _
  have HT := hide (fun (t : Pl.Tr) (k : Nat) (hk : Ts[k]? = some t) W (b : Below w.heap.size w W) => WNodesI.nodes_any t.a t.cap t.L W (hok t (List.mem_of_getElem? hk)).1 (Mem.nodes_call (hv k t hk).2 b) (hok t (List.mem_of_getElem? hk)).2 _ _ _ _ _ _ (hE.call b))
  have HV := hide hv
  have HF : Hid (∀ (t : Pl.Tr) (k : Nat), Ts[k]? = some t → Pl.treeB t.L = false → Pl.layB (Ts.map (·.L)) = false) := fun t k hk hq => Pl.lay_no (List.mem_map.2 ⟨t, List.mem_of_getElem? hk, rfl⟩) hq
  have HW : Hid (Ts.length < 1 ∨ 4 < Ts.length → Pl.layB (Ts.map (·.L)) = false) := fun h => Pl.lay_few (by simpa using h)
  have HY : Hid (1 ≤ Ts.length → Ts.length ≤ 4 → (∀ (j : Nat) t, j < Ts.length → Ts[j]? = some t → Pl.treeB t.L = true) → Pl.layB (Ts.map (·.L)) = true) := fun h1 h2 h3 => Pl.lay_yes (by simpa using h1) (by simpa using h2) (fun L hL => by
    obtain ⟨t, ht, rfl⟩ := List.mem_map.1 hL
    obtain ⟨j, hj⟩ := List.mem_iff_getElem?.1 ht
    exact h3 j t (List.getElem?_eq_some_iff.1 hj).1 hj)
  have HS : Hid (∀ k t, Ts[k]? = some t → (Ts.take (k + 1)).map (·.L) = (Ts.take k).map (·.L) ++ [t.L]) := fun k t hk => by
    rw [List.take_add_one, hk, List.map_append]; rfl
  have k1 := (hE.call b0).c1
  clear hv hok hE
  by_cases h1 : Ts.length < 1
  · have t0 : (Ts.length : Int) < 1 := by omega
    have hf := unhide HW (.inl h1)
    go_enter Tryd.func40, Tryd.ntmps40
    go_wp2
    go_region
    go_wp2
    go_ret2
    exact ⟨.inr ⟨hf, rfl⟩, Mem.below_drewN b0 1⟩
  have t0 : ¬ (Ts.length : Int) < 1 := by omega
  by_cases h2 : 4 < Ts.length
  · have t1 : (4 : Int) < (Ts.length : Int) := by omega
    have hf := unhide HW (.inr h2)
    go_enter Tryd.func40, Tryd.ntmps40
    go_wp2
    go_region
    go_wp2
    go_ret2
    exact ⟨.inr ⟨hf, rfl⟩, Mem.below_drewN b0 1⟩
  have t1 : ¬ (4 : Int) < (Ts.length : Int) := by omega
  have OV0 : Hid (Ov (w.alloc (.cells #[.slice a Ts.length cap] 29)) w.heap.size (.slice none 0 0) [] ((Ts.take 0).map (·.L))) := ⟨⟨by rfl, .inl ⟨rfl, rfl⟩⟩, rfl, fun j b L h => by simp at h⟩
  clear k1
  go_enter Tryd.func40, Tryd.ntmps40
  go_wp2
  go_loopw [4, 23] (fun v i wr => ∃ (k : Nat) (Bs : List Nat), k ≤ Ts.length ∧ i = .int .i64 (k : Int) ∧ Below w.heap.size w wr ∧ Hid (Ov wr w.heap.size v Bs ((Ts.take k).map (·.L))) ∧ Hid (∀ (j : Nat) t, j < k → Ts[j]? = some t → Pl.treeB t.L = true)) (fun _ i _ => Ts.length - (intOf i).toNat)
  case atStart => exact ⟨0, [], Nat.zero_le _, rfl, b0, OV0, fun j t h => absurd h (by omega)⟩
  case round =>
    obtain ⟨k, Bs, hk, rfl, hbel, HO, HA⟩ := hrel
    by_cases hlt : k < Ts.length
    · obtain ⟨t, ht⟩ : ∃ t, Ts[k]? = some t := ⟨_, List.getElem?_eq_getElem hlt⟩
      obtain ⟨⟨b, o, rfl, hb, q0⟩, -⟩ := (unhide HV) k t ht
      have c0 := (hbel.cell (p := ⟨b, _, none⟩) hb).trans q0
      have hz := hide (fun W b => unhide HT t k ht W b)
      have HN := hide ht
      have u1 : (k : Int) < (Ts.length : Int) := by omega
      have u3 : (0 : Int) ≤ (k : Int) := by omega
      simp only [Pl.Tr.val] at c0
      clear q0 ht OV0
      have bA := hbel.alloc hbel.size (.cells #[.slice t.a t.L.length t.cap] 39)
      have OA := (unhide HO).call ((Below.refl _ _).alloc (Nat.le_refl _) (.cells #[.slice t.a t.L.length t.cap] 39))
      go_wp2_with fail
      refine (unhide hz _ bA).mono ?_
      rintro e w1 ⟨h1, b1⟩
      have bw1 := bA.trans (b1.mono bA.size)
      have O1 := OA.call b1
      have hwr := hbel.size
      clear hz hbel HO OA c0
      rcases h1 with ⟨hT, B, rfl, hB, hown⟩ | ⟨hT, rfl⟩
      · have HTT := hide hT
        have hBw : w.heap.size ≤ B := Nat.le_trans bA.size hB
        have bA1 : Below w1.heap.size w1 (w1.alloc (.cells #[layV B] 147)) := (Below.refl _ _).alloc (Nat.le_refl _) _
        have O2 := O1.call bA1
        have hown2 := WNodesI.map_call hown bA1
        have HLN : Bs.length ≤ 4 := by have := O1.len; rw [List.length_map, List.length_take] at this; omega
        have HP := hide (fun v' w2 h1 h2 => O2.put (v' := v') (w' := w2) hown2 hBw h1 h2)
        have HR := hide O2.row
        have HQ := hide (fun w2 h2 => Mem.below_append (o := .cells #[layV B] 147) (w1 := w2) bw1 (Nat.le_refl _) O1.row h2)
        have HSB := hide bw1.size
        clear bA b1 hB hT O1 O2 hown2 hown bA1 bw1
        unfold layV at HP HR HQ
        go_wp2_with (at_builtin; refine wpList_append_own _ rfl _ _ 70 rfl w.heap.size 147 i0 .nilIface 1 16 Tryd.underlying70 hi hz0 hz1 hz2 rfl (by decide) _ _ _ rfl (unhide HR) ⟨w1.heap.size, 0, none⟩ 1 1 [.iface 114 (.map (some B))] rfl rfl (Mem.one_new _ _ _) (fun u hu => by simp at hu; subst hu; rfl) (by unfold maxLen; omega) (by omega) (by have := unhide HSB; simp; omega) ?_)
        intro v' w2 own' hgrow _
        have OV2 := hide (unhide HP v' w2 own' hgrow)
        have bw2 := unhide HQ w2 hgrow
        rw [← unhide HS k t (unhide HN)] at OV2
        have HA2 : Hid (∀ (j : Nat) m, j < k + 1 → Ts[j]? = some m → Pl.treeB m.L = true) := fun j m hj h' => by
          rcases Nat.lt_succ_iff_lt_or_eq.1 hj with h'' | rfl
          · exact HA.out j m h'' h'
          · rw [unhide HN] at h'; cases h'; exact unhide HTT
        clear HP HR HQ own' hgrow HSB HLN
        go_wp2
        go_roundw
        case rel => exact ⟨k + 1, _, by omega, by go_num, bw2, OV2, HA2⟩
        case measure => simp [intOf]; omega
      · have hf := unhide HF t k (unhide HN) hT
        clear O1 bA b1
        go_wp2
        go_ret2
        exact ⟨.inr ⟨hf, rfl⟩, bw1⟩
    · have u1 : ¬ (k : Int) < (Ts.length : Int) := by omega
      have hkl : k = Ts.length := by omega
      have HF2 := hide (unhide HY (by omega) (by omega) (fun j t hj ht => HA.out j t (by omega) ht))
      have OF := hide (show Ov wr w.heap.size _ Bs (Ts.map (·.L)) by have := unhide HO; rw [hkl, List.take_length] at this; exact this)
      clear HO HA
      go_wp2
      go_ret2
      exact ⟨.inl ⟨unhide HF2, _, rfl, Bs, unhide OF⟩, hbel⟩
end WOverI
end Go.Proofs.YtkfpfckmjgjanabDoor
