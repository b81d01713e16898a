/- Several texts of one claim in one file: MemTrees, WLayS. -/
import Derived.Test.YtkfpfckmjgjanabDoorG06
import Derived.Test.YtkfpfckmjgjanabDoorG04
import Derived.Test.YtkfpfckmjgjanabDoorG17
/- A row of trees in memory. -/
namespace Go.Proofs.YtkfpfckmjgjanabDoor
open Go.RowKit
namespace Pl
/-- A tree as it lies: where its nodes are, how much room they have, and what they are. -/
structure Tr where
  a : Option Addr
  cap : Nat
  L : List Nd
def Tr.val (t : Tr) : Value := .slice t.a t.L.length t.cap
/-- Right layers: one to four, each a right tree. -/
def layB (Ts : List (List Nd)) : Bool := decide (1 ≤ Ts.length) && decide (Ts.length ≤ 4) && Ts.all treeB
end Pl
namespace Mem
def isTrees (w : World) (a : Option Addr) (Ts : List Pl.Tr) : Prop :=
  ∀ (i : Nat) t, Ts[i]? = some t → (∃ b o, a = some ⟨b, o, none⟩ ∧ b < w.heap.size ∧ w.cell? ⟨b, o + i, none⟩ = some t.val) ∧ isNodes w t.a t.L
theorem trees_call {w w' : World} {a : Option Addr} {Ts : List Pl.Tr} (h : isTrees w a Ts) (b : Below w.heap.size w w') : isTrees w' a Ts := fun i t hi => by
  obtain ⟨⟨g, o, h1, h2, h3⟩, h4⟩ := h i t hi
  exact ⟨⟨g, o, h1, Nat.lt_of_lt_of_le h2 b.size, (b.cell (p := ⟨g, _, none⟩) h2).trans h3⟩, nodes_call h4 b⟩
theorem trees_nil (w : World) (a : Option Addr) : isTrees w a [] := fun i n hi => by simp at hi
end Mem
end Go.Proofs.YtkfpfckmjgjanabDoor

/- The walk of the specification's LayersRight. -/
namespace Go.Proofs.YtkfpfckmjgjanabDoor
open Go.RowKit
namespace WLayS
set_option linter.unusedSimpArgs false in
set_option maxRecDepth 100000 in
set_option maxHeartbeats 1000000 in
theorem any (a : Option Addr) (cap : Nat) (Ts : List Pl.Tr) (w : World) (hl : Ts.length ≤ 1048576) (hv : Mem.isTrees w a Ts) (hok : ∀ t ∈ Ts, t.L.length ≤ 1048576 ∧ ∀ n ∈ t.L, n.path.size ≤ 1048576 ∧ n.data.size ≤ 1048576) :
    Calls Tryd.prog 10 #[.agg #[.slice a Ts.length cap]] w fun e w' => e = .returned (.bool (Pl.layB (Ts.map (·.L)))) ∧ Below w.heap.size w w' := by
  have b0 : Below w.heap.size w (w.alloc (.cells #[.slice a Ts.length cap] 29)) := (Below.refl _ _).alloc (Nat.le_refl _) _
  have A0 := Mem.Blk.new w #[.slice a Ts.length cap] 29
  have HT := hide (fun (t : Pl.Tr) (k : Nat) (hk : Ts[k]? = some t) W (b : Below w.heap.size w W) => WTreeS.right_tree t.a t.cap t.L W (hok t (List.mem_of_getElem? hk)).1 (Mem.nodes_call (hv k t hk).2 b) (hok t (List.mem_of_getElem? hk)).2)
  have HV := hide hv
  have HF : Hid (∀ (t : Pl.Tr) (k : Nat), Ts[k]? = some t → Pl.treeB t.L = false → Pl.layB (Ts.map (·.L)) = false) := fun t k hk hq => by
    have : (Ts.map (·.L)).all Pl.treeB = false := by
      rw [List.all_eq_false]
      exact ⟨t.L, List.mem_map.2 ⟨t, List.mem_of_getElem? hk, rfl⟩, by rw [hq]; simp⟩
    rw [Pl.layB, this, Bool.and_false]
  have HQ : Hid (∀ k, k ≤ Ts.length → (∀ (j : Nat) t, j < k → Ts[j]? = some t → Pl.treeB t.L = true) → ¬ (k < Ts.length ∧ k ≤ 4) → k ≤ 5 → Pl.layB (Ts.map (·.L)) = (decide ((1 : Int) ≤ (Ts.length : Int)) && decide ((Ts.length : Int) ≤ 4))) := fun k hk hA hn hk5 => by
    rw [Pl.layB, List.length_map]
    by_cases h4 : Ts.length ≤ 4
    · have hkl : k = Ts.length := by omega
      have : (Ts.map (·.L)).all Pl.treeB = true := by
        rw [List.all_eq_true]
        intro x hx
        obtain ⟨t, ht, rfl⟩ := List.mem_map.1 hx
        obtain ⟨j, hj⟩ := List.mem_iff_getElem?.1 ht
        exact hA j t (by have := (List.getElem?_eq_some_iff.1 hj).1; omega) hj
      rw [this, Bool.and_true]
      congr 1
      · exact decide_eq_decide.2 (by omega)
      · exact decide_eq_decide.2 (by omega)
    · rw [show decide (Ts.length ≤ 4) = false from decide_eq_false h4, show decide ((Ts.length : Int) ≤ 4) = false from decide_eq_false (by omega)]
      simp
  clear hv hok
  generalize Pl.layB (Ts.map (·.L)) = V at HF HQ ⊢
  go_enter Tryd.func10, Tryd.ntmps10
  go_wp2
  go_loopw [3] (fun i wr => ∃ (k : Nat), k ≤ Ts.length ∧ k ≤ 5 ∧ i = .int .i64 (k : Int) ∧ Below w.heap.size w wr ∧ Hid (Mem.Blk wr w.heap.size #[.slice a Ts.length cap] 29) ∧ Hid (∀ (j : Nat) t, j < k → Ts[j]? = some t → Pl.treeB t.L = true)) (fun i _ => Ts.length - (intOf i).toNat)
  case atStart => exact ⟨0, Nat.zero_le _, by omega, rfl, b0, A0, fun j t h => absurd h (by omega)⟩
  case round =>
    obtain ⟨k, hk, hk5, rfl, hbel, HB, HA⟩ := hrel
    have c0 := HB.out.cell 0
    simp only [kA0, kA1] at c0
    by_cases hlt : k < Ts.length ∧ k ≤ 4
    · obtain ⟨t, ht⟩ : ∃ t, Ts[k]? = some t := ⟨_, List.getElem?_eq_getElem hlt.1⟩
      obtain ⟨⟨b, o, rfl, hb, q0⟩, -⟩ := (unhide HV) k t ht
      have c1 := (hbel.cell (p := ⟨b, _, none⟩) hb).trans q0
      have hz := hide (fun W b => unhide HT t k ht W b)
      have HN := hide ht
      have u1 : (k : Int) < (Ts.length : Int) := by omega
      have u2 : (k : Int) ≤ 4 := by omega
      have u3 : (0 : Int) ≤ (k : Int) := by omega
      simp only [Pl.Tr.val] at c1
      clear q0 ht
      go_wp2_with fail
      refine (unhide hz _ hbel).mono ?_
      rintro e w1 ⟨rfl, b1⟩
      have hb2 := hbel.trans (b1.mono hbel.size)
      have HB2 := hide (HB.out.call b1)
      clear b1 hbel hz c0 c1 HB
      cases hq : Pl.treeB t.L
      · go_wp2
        go_ret
        exact ⟨by rw [(unhide HF) t k (unhide HN) hq]; rfl, hb2⟩
      · have HA2 : Hid (∀ (j : Nat) m, j < k + 1 → Ts[j]? = some m → Pl.treeB m.L = true) := fun j m hj h' => by
          rcases Nat.lt_succ_iff_lt_or_eq.1 hj with h'' | rfl
          · exact HA.out j m h'' h'
          · rw [unhide HN] at h'; cases h'; exact hq
        go_wp2
        go_roundw
        case rel => exact ⟨k + 1, by omega, by omega, by go_num, hb2, HB2, HA2⟩
        case measure => simp [intOf]; omega
    · have hfin := unhide HQ k hk (unhide HA) hlt hk5
      have hIS := hide (WNode.is_any (Ts.length : Int) 1 4)
      generalize (decide ((1 : Int) ≤ (Ts.length : Int)) && decide ((Ts.length : Int) ≤ 4)) = V2 at hfin hIS
      by_cases h1 : k < Ts.length
      · have u1 : (k : Int) < (Ts.length : Int) := by omega
        have u2 : ¬ (k : Int) ≤ 4 := by omega
        go_wp2_with fail
        refine (unhide hIS _).mono ?_
        rintro e w1 ⟨rfl, rfl⟩
        go_wp2
        go_ret
        exact ⟨by rw [hfin]; rfl, hbel⟩
      · have u1 : ¬ (k : Int) < (Ts.length : Int) := by omega
        go_wp2_with fail
        refine (unhide hIS _).mono ?_
        rintro e w1 ⟨rfl, rfl⟩
        go_wp2
        go_ret
        exact ⟨by rw [hfin]; rfl, hbel⟩
end WLayS
end Go.Proofs.YtkfpfckmjgjanabDoor

