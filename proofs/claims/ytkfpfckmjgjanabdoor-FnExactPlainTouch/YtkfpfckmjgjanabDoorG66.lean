/- Several texts of one claim in one file: WTouchP, WTouching. -/
import Derived.Test.YtkfpfckmjgjanabDoorWInTree
import Derived.Test.YtkfpfckmjgjanabDoorPlainOver
import Derived.Test.YtkfpfckmjgjanabDoorPlainCut
import Derived.Test.YtkfpfckmjgjanabDoorG49
import Derived.Laws.EntriesVeiled
/- What has another time in a map of nodes: touchPlain. -/
namespace Go.Proofs.YtkfpfckmjgjanabDoor
open Go.RowKit Go.Maps
namespace Pl
def tchC (L : List Nd) (p : ByteArray) : Int := if L.find? (fun m => decide (m.path = p)) = none then 6 else 0
def tchN (p : ByteArray) (t : Int) (m : Nd) : Nd := if m.path = p then ⟨m.path, m.kind, m.data, t, m.mark⟩ else m
def tchL (L : List Nd) (p : ByteArray) (t : Int) : List Nd := L.map (tchN p t)
theorem tch_path (p : ByteArray) (t : Int) (m : Nd) : (tchN p t m).path = m.path := by unfold tchN; split <;> rfl
theorem tch_data (p : ByteArray) (t : Int) (m : Nd) : (tchN p t m).data = m.data := by unfold tchN; split <;> rfl
theorem tch_len (L : List Nd) (p : ByteArray) (t : Int) : (tchL L p t).length = L.length := List.length_map _
theorem tch_off {L : List Nd} {p : ByteArray} {t : Int} (h : ∀ n ∈ L, n.path ≠ p) : tchL L p t = L := by
  unfold tchL
  rw [List.map_congr_left (g := id) (fun n hn => by simp [tchN, h n hn])]
  simp
theorem tch_perm {p : ByteArray} {t : Int} {m : Nd} (hp : m.path = p) : ∀ {L : List Nd}, L.Pairwise (fun a b => a.path ≠ b.path) → m ∈ L → (tchL L p t).Perm (L.filter (fun n => !decide (n.path = p)) ++ [⟨m.path, m.kind, m.data, t, m.mark⟩]) := by
  intro L
  induction L with
  | nil => intro _ h; cases h
  | cons n L ih =>
    intro hw hm
    have hw' := List.pairwise_cons.1 hw
    rcases List.mem_cons.1 hm with rfl | hm
    · have hoff : ∀ x ∈ L, x.path ≠ p := fun x hx e => hw'.1 x hx (hp.trans e.symm)
      have hf : (m :: L).filter (fun n => !decide (n.path = p)) = L := by
        rw [List.filter_cons_of_neg (by simp [hp])]
        exact List.filter_eq_self.2 (fun x hx => by simp [hoff x hx])
      rw [hf, tchL, List.map_cons, show tchN p t m = ⟨m.path, m.kind, m.data, t, m.mark⟩ by simp [tchN, hp]]
      have := tch_off (t := t) hoff
      unfold tchL at this
      rw [this]
      exact (List.perm_append_singleton _ _).symm
    · have hne : n.path ≠ p := fun e => hw'.1 m hm (e.trans hp.symm)
      rw [List.filter_cons_of_pos (by simp [hne]), tchL, List.map_cons, show tchN p t n = n by simp [tchN, hne], List.cons_append]
      exact (ih hw'.2 hm).cons n
end Pl
namespace WPanic
set_option linter.unusedSimpArgs false in
set_option maxRecDepth 100000 in
set_option maxHeartbeats 2000000 in
theorem touchP_any (B : Nat) (L : List Pl.Nd) (n : Pl.Nd) (w : World) (ht : Pl.treeB L = true) (hp : Pl.pathB n.path = true) (hown : w.ownsMap Tryd.prog 9 MapN.elem B 40 (MapN.mapOf L)) :
    Calls Tryd.prog 99 #[.map (some B), n.val] w fun e w' => Did w w' e B (Pl.tchC L n.path) (Pl.tchL L n.path n.time) := by
  obtain ⟨hr, hokn, h40⟩ := Pl.tree_rise ht
  have hC := Pl.tree_apart ht
  have hp8 : n.path.size ≤ 8000 := by have := Pl.pathB_le hp; omega
  have HM := hide hown
  have HAP := hide hC
  have EC : Hid (Pl.tchC L n.path = if L.find? (fun m => decide (m.path = n.path)) = none then 6 else 0) := rfl
  have HFIN : Hid (∀ m ∈ L, m.path = n.path → ∀ (N : Nat) (D' : DataW Unit) (w' : World), N ≤ 1000 → w'.ownsMap Tryd.prog 9 MapN.elem B N D' → MapN.Reads D' (L.filter (fun x => !decide (x.path = n.path)) ++ [⟨m.path, m.kind, m.data, n.time, m.mark⟩]) → ∃ N D' C, N ≤ 1000 ∧ w'.ownsMap Tryd.prog 9 MapN.elem B N D' ∧ MapN.Reads D' C ∧ C.Pairwise (fun a b => a.path ≠ b.path) ∧ (Pl.tchL L n.path n.time).Perm C ∧ (Pl.tchL L n.path n.time).Pairwise (fun a b => Pl.ltP a.path b.path = true) ∧ (∀ n ∈ C, Pl.pathB n.path = true ∧ n.data.size ≤ 1048576)) := by
    intro m hm hmp N D' w' hN h1 h2
    have hpe := Pl.tch_perm (t := n.time) hmp hC hm
    have hap : (Pl.tchL L n.path n.time).Pairwise (fun a b => a.path ≠ b.path) := by
      unfold Pl.tchL
      rw [List.pairwise_map]
      exact hC.imp (fun {a b} h => by rw [Pl.tch_path, Pl.tch_path]; exact h)
    refine ⟨N, D', _, hN, h1, h2, (hpe.pairwise_iff (fun h => fun e => h e.symm)).1 hap, hpe, ?_, fun x hx => ?_⟩
    · unfold Pl.tchL
      rw [List.pairwise_map]
      exact hr.imp (fun {a b} h => by rw [Pl.tch_path, Pl.tch_path]; exact h)
    · have := hpe.mem_iff.2 hx
      unfold Pl.tchL at this
      obtain ⟨y, hy, rfl⟩ := List.mem_map.1 this
      rw [Pl.tch_path, Pl.tch_data]
      exact hokn y hy
  generalize Pl.tchC L n.path = c at EC ⊢
  obtain ⟨np, nk, nd, nt, nm⟩ := n
  simp only [Pl.Nd.val] at hp8 HFIN EC ⊢
  generalize Pl.tchL L np nt = O at HFIN ⊢
  clear hr hokn hown
  have b0 : Below w.heap.size w (w.alloc (.cells #[.string np, .int .i64 nk, .string nd, .int .i64 nt, .int .i64 nm] 50)) := (Below.refl _ _).alloc (Nat.le_refl _) _
  have V0 := Mem.Blk.new w #[.string np, .int .i64 nk, .string nd, .int .i64 nt, .int .i64 nm] 50
  have HM0 := hide (WNodesI.map_call (unhide HM) b0)
  have hkey := MapN.keyOf_mk (p := np) (by unfold maxLen; omega)
  have HRN := hide refuse_no
  have HRY := hide refuse_yes
  have hg : ∀ {W : World}, Below w.heap.size w W → w.grownBy W (some B) := fun b => ⟨b.os, b.tape, b.output, b.size, fun j hj _ => b.block j hj⟩
  cases hf : L.find? (fun m => decide (m.path = np)) with
  | none =>
    have hmiss : ∀ n ∈ L, n.path ≠ np := fun n hn => by simpa using List.find?_eq_none.1 hf n hn
    have ha := hide (MapN.has_no hmiss)
    have ha2 := hide (Maps.atKey_of_not_has (unhide ha) (MapN.dat ⟨⟨#[]⟩, 0, ⟨#[]⟩, 0, 0⟩))
    have hc : c = 6 := by have := unhide EC; rw [hf, if_pos rfl] at this; exact this
    subst hc
    clear EC HFIN hmiss hf HRN hC
    go_enter Tryd.func99, Tryd.ntmps99
    go_wp2_with (at_lookup; refine MapN.look_ok _ rfl _ _ 114 rfl 9 50 MapN.law Tryd.underlying114 (MapN.zeroN _) B 40 (MapN.mapOf L) rfl (unhide HM0) _ _ rfl hkey ⟨⟨#[]⟩, 0, ⟨#[]⟩, 0, 0⟩ (unhide ha2) false (unhide ha) ?_)
    refine (unhide HRY 6 _).mono ?_
    rintro e w1 ⟨rfl, rfl⟩
    go_wp2_with fail
    exact ⟨rfl, ⟨.inr ⟨by decide, rfl⟩, hg (b0.alloc b0.size _)⟩⟩
  | some m =>
    have hm1 := List.mem_of_find?_eq_some hf
    have hm2 : m.path = np := by simpa using List.find?_some hf
    subst hm2
    obtain ⟨y1, y2⟩ := MapN.at_yes (unhide HAP) hm1
    have ha := hide y1
    have ha2 := hide (y2 (MapN.dat ⟨⟨#[]⟩, 0, ⟨#[]⟩, 0, 0⟩))
    have hc : c = 0 := by have := unhide EC; rw [hf, if_neg (by simp)] at this; exact this
    subst hc
    have HF := hide (unhide HFIN m hm1 rfl)
    have RP := hide (MapN.reads_put (MapN.reads_mapOf hC) (MapN.mapOf_isMap L) ⟨m.path, m.kind, m.data, nt, m.mark⟩)
    have b1 := b0.alloc b0.size (.cells #[.string m.path, .int .i64 m.kind, .string m.data, .int .i64 nt, .int .i64 m.mark] 50)
    have HM1 := hide (WNodesI.map_call (unhide HM) b1)
    clear EC HFIN hf hm1 y1 y2 hC HRY
    go_enter Tryd.func99, Tryd.ntmps99
    go_wp2_with (at_lookup; refine MapN.look_ok _ rfl _ _ 114 rfl 9 50 MapN.law Tryd.underlying114 (MapN.zeroN _) B 40 (MapN.mapOf L) rfl (unhide HM0) _ _ rfl hkey m (unhide ha2) true (unhide ha) ?_)
    refine (unhide HRN 6 _).mono ?_
    rintro e w1 ⟨rfl, rfl⟩
    have V1 := V0.alloc (.cells m.cs.toArray 50)
    have M1 : Mem.Blk ((w.alloc (.cells #[.string m.path, .int .i64 nk, .string nd, .int .i64 nt, .int .i64 nm] 50)).alloc (.cells m.cs.toArray 50)) (w.heap.size + 1) m.cs.toArray 50 := Mem.new_two _ _ _
    simp only [Pl.Nd.cs] at V1 M1
    have p0 := V1.cell 0
    have p3 := V1.cell 3
    have q0 := M1.cell 0
    have q1 := M1.cell 1
    have q2 := M1.cell 2
    have q3 := M1.cell 3
    have q4 := M1.cell 4
    have g3 := M1.fr 3
    simp only [kA0, kA1, kA2] at p0 p3 q0 q1 q2 q3 q4
    go_wp2_with (at_mapUpdate; refine wpList_mapUpdate_own _ rfl _ _ _ 114 rfl 9 50 MapN.law Tryd.underlying114 _ B 40 _ rfl (unhide HM1) (by unfold maxLen; omega) _ _ _ rfl rfl hkey _ [] (MapN.elem_mk ⟨m.path, m.kind, m.data, nt, m.mark⟩) ?_)
    intro wZ hownZ hgrowZ
    have FZ := hide (unhide HF 41 _ wZ (by omega) hownZ (unhide RP))
    have GZ := hide (Mem.grown_trans (Mem.grown_of_below b1 (some B)) hgrowZ)
    clear hownZ hgrowZ RP HM1 HM0 ha ha2 HF
    go_wp2
    go_end0
    exact ⟨.inl ⟨rfl, rfl, unhide FZ⟩, unhide GZ⟩
end WPanic
end Go.Proofs.YtkfpfckmjgjanabDoor

/- What is asked for: touching. -/
namespace Go.Proofs.YtkfpfckmjgjanabDoor
open Go.RowKit
namespace WPanic
set_option linter.unusedSimpArgs false in
set_option maxRecDepth 100000 in
theorem touching_any (p : ByteArray) (t : Int) (w : World) :
    Calls Tryd.prog 71 #[.string p, .int .i64 t] w fun e w' => e = .returned (.agg (chg ⟨p, 1, ⟨#[]⟩, t, 0⟩ 99 100)) ∧ Below w.heap.size w w' := by
  go_enter Tryd.func71, Tryd.ntmps71
  go_wp2
  refine bodyPost_ret (v := .agg (chg ⟨p, 1, ⟨#[]⟩, t, 0⟩ 99 100)) (by simp [results, Tryd.results71, go_sem]) rfl ⟨rfl, ?_⟩
  repeat first | exact (Below.refl _ _).alloc (Nat.le_refl _) _ | refine Below.setCell ?_ (Nat.le_refl _) _
end WPanic
end Go.Proofs.YtkfpfckmjgjanabDoor

