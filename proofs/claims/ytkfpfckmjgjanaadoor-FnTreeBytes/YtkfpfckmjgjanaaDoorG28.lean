/- Several texts of one claim in one file: WReadK, WIll3, WReadT, WReadE. -/
import Derived.Test.YtkfpfckmjgjanaaDoorG15
import Derived.Test.YtkfpfckmjgjanaaDoorG06
import Derived.Test.YtkfpfckmjgjanaaDoorProg
import Derived.WalkKit
import Derived.Test.YtkfpfckmjgjanaaDoorPlainRead
import Derived.Test.YtkfpfckmjgjanaaDoorG18
import Derived.Test.YtkfpfckmjgjanaaDoorG25
import Derived.Test.YtkfpfckmjgjanaaDoorG04
import Derived.BigQuiet
/- What TreeRead keeps, in both: the result, the reader, the tree and its row. -/
namespace Go.Proofs.YtkfpfckmjgjanaaDoor
open Go.RowKit
namespace WReadK
structure Ks (w wr : World) (X2 X3 X4 B : Nat) (rc : Array Value) (RT : TypeId) (v : Value) (L : List Pl.Nd) : Prop where
  bel : Below w.heap.size w wr
  big : B ≤ wr.heap.size
  x2 : Mem.Blk wr X2 #[.slice none 0 0, .int .i64 0] 37
  x3 : Mem.Blk wr X3 rc RT
  x4 : Mem.Blk wr X4 #[v] 32
  row : Mem.ownN wr B v L
  l2 : w.heap.size ≤ X2 ∧ X2 < B
  l3 : w.heap.size ≤ X3 ∧ X3 < B
  l4 : w.heap.size ≤ X4 ∧ X4 < B
  n23 : X2 ≠ X3
  n24 : X2 ≠ X4
  n34 : X3 ≠ X4
theorem Ks.own {w wr : World} {X2 X3 X4 B : Nat} {rc : Array Value} {RT : TypeId} {v : Value} {L : List Pl.Nd} (h : Ks w wr X2 X3 X4 B rc RT v L) : ∀ g, v.ownBlock = some g → B ≤ g ∧ g < wr.heap.size := Mem.ownN_lt h.row
theorem Ks.read {w wr W : World} {X2 X3 X4 B : Nat} {rc rc' : Array Value} {RT : TypeId} {v : Value} {L : List Pl.Nd} (h : Ks w wr X2 X3 X4 B rc RT v L) (g : wr.grownBy W (some X3)) (hr : Mem.Blk W X3 rc' RT) : Ks w W X2 X3 X4 B rc' RT v L :=
  ⟨h.bel.grown g h.bel.size (fun k hk => by cases hk; exact h.l3.1), Nat.le_trans h.big g.size, h.x2.grown g (fun e => h.n23 (Option.some.inj e)), hr, h.x4.grown g (fun e => h.n34 (Option.some.inj e).symm),
    Mem.ownN_grown h.row g (fun k hk e => by cases e; have := (h.own _ hk).1; have := h.l3.2; omega), h.l2, h.l3, h.l4, h.n23, h.n24, h.n34⟩
theorem Ks.call {w wr W : World} {X2 X3 X4 B : Nat} {rc : Array Value} {RT : TypeId} {v : Value} {L : List Pl.Nd} (h : Ks w wr X2 X3 X4 B rc RT v L) (b : Below wr.heap.size wr W) : Ks w W X2 X3 X4 B rc RT v L :=
  ⟨h.bel.trans (b.mono h.bel.size), Nat.le_trans h.big b.size, h.x2.call b, h.x3.call b, h.x4.call b, Mem.ownN_call h.row b, h.l2, h.l3, h.l4, h.n23, h.n24, h.n34⟩
theorem Ks.alloc {w wr : World} {X2 X3 X4 B : Nat} {rc : Array Value} {RT : TypeId} {v : Value} {L : List Pl.Nd} (h : Ks w wr X2 X3 X4 B rc RT v L) (o : Obj) : Ks w (wr.alloc o) X2 X3 X4 B rc RT v L := h.call ((Below.refl _ _).alloc (Nat.le_refl _) o)
theorem Ks.set {w wr : World} {X2 X3 X4 B : Nat} {rc : Array Value} {RT : TypeId} {v : Value} {L : List Pl.Nd} (h : Ks w wr X2 X3 X4 B rc RT v L) (p : Addr) (u : Value) (hp : B ≤ p.block) (hv : v.ownBlock ≠ some p.block) : Ks w (wr.setCell p u) X2 X3 X4 B rc RT v L := by
  have h2 := h.l2
  have h3 := h.l3
  have h4 := h.l4
  exact ⟨h.bel.setCell (by omega) _, by simpa using h.big, h.x2.far _ _ (by omega), h.x3.far _ _ (by omega), h.x4.far _ _ (by omega), Mem.ownN_far h.row _ _ (fun g hg e => hv (by rw [hg, e])), h.l2, h.l3, h.l4, h.n23, h.n24, h.n34⟩
/-- One node more. -/
theorem Ks.put {w wr w4 : World} {X2 X3 X4 B : Nat} {rc : Array Value} {RT : TypeId} {v v' : Value} {L : List Pl.Nd} {n : Pl.Nd} {o : Obj} (h : Ks w wr X2 X3 X4 B rc RT v L)
    (own : w4.ownsRow B 78 5 v' (L.length + 1) (Pl.cellsN L ++ n.cs)) (gr : (wr.alloc o).grownBy w4 v.ownBlock) : Ks w (w4.setCell ⟨X4, 0, none⟩ v') X2 X3 X4 B rc RT v' (L ++ [n]) := by
  have h' := h.alloc o
  have h2 := h.l2
  have h3 := h.l3
  have h4 := h.l4
  have e5 : (w4.setCell ⟨X4, 0, none⟩ v').heap.size = w4.heap.size := by simp
  refine ⟨?_, ?_, ?_, ?_, ?_, ?_, h.l2, h.l3, h.l4, h.n23, h.n24, h.n34⟩
  · exact (h'.bel.grown gr h'.bel.size (fun k hk => by have := (h'.own k hk).1; omega)).setCell (by show w.heap.size ≤ X4; omega) _
  · have := gr.size; have := h'.big; omega
  · exact (h'.x2.grown gr (fun e => by have := (h'.own _ e.symm).1; omega)).far _ _ (by show X2 ≠ X4; exact h.n24)
  · exact (h'.x3.grown gr (fun e => by have := (h'.own _ e.symm).1; omega)).far _ _ (by show X3 ≠ X4; exact h.n34)
  · exact (h'.x4.grown gr (fun e => by have := (h'.own _ e.symm).1; omega)).put 0 v'
  · exact Mem.ownN_set (Mem.ownN_snoc own) _ _ (by show X4 < B; omega)
/-- The tree's cell, where the row has grown. -/
theorem Ks.mid {w wr w4 : World} {X2 X3 X4 B : Nat} {rc : Array Value} {RT : TypeId} {v : Value} {L : List Pl.Nd} {o : Obj} (h : Ks w wr X2 X3 X4 B rc RT v L) (gr : (wr.alloc o).grownBy w4 v.ownBlock) : Mem.Blk w4 X4 #[v] 32 :=
  (h.x4.alloc o).grown gr (fun e => by have := (h.own _ e.symm).1; have := h.l4; omega)
theorem Ks.done {w wr : World} {X2 X3 X4 B : Nat} {rc : Array Value} {RT : TypeId} {v : Value} {L : List Pl.Nd} (h : Ks w wr X2 X3 X4 B rc RT v L) (u0 u1 : Value) : Mem.ownN ((wr.setCell ⟨X2, 0, none⟩ u0).setCell ⟨X2, 1, none⟩ u1) w.heap.size v L ∧ Below w.heap.size w ((wr.setCell ⟨X2, 0, none⟩ u0).setCell ⟨X2, 1, none⟩ u1) := by
  have h2 := h.l2
  refine ⟨?_, (h.bel.setCell (by show w.heap.size ≤ X2; omega) _).setCell (by show w.heap.size ≤ X2; omega) _⟩
  have := Mem.ownN_set (Mem.ownN_set h.row ⟨X2, 0, none⟩ u0 (by show X2 < B; omega)) ⟨X2, 1, none⟩ u1 (by show X2 < B; omega)
  refine ⟨this.1, ?_⟩
  rcases this.2 with h0 | ⟨g, cap, cur, hv, hb, rest⟩
  · exact .inl h0
  · exact .inr ⟨g, cap, cur, hv, by omega, rest⟩
theorem own_none (w : World) : Mem.ownN w w.heap.size (.slice none 0 0) [] := Mem.ownN_nil _ _
end WReadK
end Go.Proofs.YtkfpfckmjgjanaaDoor

/- The walk of the specification's l03Ill. -/
namespace Go.Proofs.YtkfpfckmjgjanaaDoor
open Go.RowKit
namespace WIll3
set_option maxRecDepth 100000 in
theorem ill_any (c : Int) (w : World) :
    Calls Tryd.prog 59 #[.int .i64 c] w fun e w' => e = .returned (.agg #[.slice none 0 0, .int .i64 c]) ∧ Below w.heap.size w w' := by
  have b0 : Below w.heap.size w (w.alloc (.cells #[.slice none 0 0, .int .i64 c] 37)) := (Below.refl _ _).alloc (Nat.le_refl _) _
  have HB := hide (fun o (a : Addr) v (h : w.heap.size ≤ a.block) (a2 : Addr) v2 (h2 : w.heap.size ≤ a2.block) => ((((Below.refl w.heap.size w).alloc (Nat.le_refl _) o).setCell h v).setCell h2 v2))
  clear b0
  go_enter Tryd.func59, Tryd.ntmps59
  go_wp2
  refine bodyPost_ret (v := .agg #[.slice none 0 0, .int .i64 c]) (by simp [results, Tryd.results59, go_sem]) rfl ⟨rfl, ?_⟩
  exact (Below.refl _ _).alloc (Nat.le_refl _) _
end WIll3
end Go.Proofs.YtkfpfckmjgjanaaDoor

/- The walk of the specification's TreeRead. -/
namespace Go.Proofs.YtkfpfckmjgjanaaDoor
open Go.RowKit
namespace WReadT
theorem infoN : (Tryd.prog.info? 78).map (fun i => (i.zero, i.size, i.bytes)) = some (some (.agg #[.string ⟨#[]⟩, .int .i64 0, .string ⟨#[]⟩, .int .i64 0, .int .i64 0]), 5, 56) := by kernel_rfl
set_option linter.unusedSimpArgs false in
set_option maxRecDepth 100000 in
set_option maxHeartbeats 2000000 in
theorem spec_any (s : ByteArray) (w : World) :
    Calls Tryd.prog 23 #[.string s] w fun e w' => ∃ v, e = .returned (.agg #[v, .int .i64 (Pl.readO s).2]) ∧ Mem.ownN w' w.heap.size v (Pl.readO s).1 ∧ Below w.heap.size w w' := by
  obtain ⟨i0, hi, hz0, hz1, hz2⟩ := info_parts infoN
  by_cases h8 : 8000 < s.size
  · have t0 : (8000 : Int) < (s.size : Int) := by omega
    rw [Pl.readO_long h8]
    have b0 : Below w.heap.size w (w.alloc (.cells #[.slice none 0 0, .int .i64 0] 37)) := (Below.refl _ _).alloc (Nat.le_refl _) _
    have A0 := Mem.Blk.new w #[.slice none 0 0, .int .i64 0] 37
    have hill := hide (WIll3.ill_any 2)
    go_enter Tryd.func23, Tryd.ntmps23
    go_wp2_with fail
    refine (unhide hill _).mono ?_
    rintro e wI ⟨rfl, bI⟩
    have bw := hide (b0.trans (bI.mono b0.size))
    have A1 := A0.call bI
    have z0 := A1.cell 0
    have z1 := A1.cell 1
    simp only [kA0, kA1, kA2] at z0 z1
    have zf0 := A1.fr 0
    have zf1 := A1.fr 1
    clear hill bI b0 A0
    go_wp2
    refine bodyPost_ret (v := .agg #[.slice none 0 0, .int .i64 2]) (by simp [results, Tryd.results23, go_sem, z0, z1]) rfl ⟨.slice none 0 0, rfl, Mem.ownN_nil _ _, ?_⟩
    exact ((unhide bw).setCell (Nat.le_refl _) _).setCell (Nat.le_refl _) _
  have t0 : ¬ (8000 : Int) < (s.size : Int) := by omega
  have h8' : s.size ≤ 8000 := by omega
  have R0 : Hid (WReadS.Rs (((w.alloc (.cells #[.slice none 0 0, .int .i64 0] 37)).alloc (.cells #[.string s, .int .i64 0, .bool false] 101)).alloc (.cells #[.slice none 0 0] 32)) (w.heap.size + 1) s 0 false) := hide (Mem.new_mid w _ _ _)
  have K0 : Hid (WReadK.Ks w (((w.alloc (.cells #[.slice none 0 0, .int .i64 0] 37)).alloc (.cells #[.string s, .int .i64 0, .bool false] 101)).alloc (.cells #[.slice none 0 0] 32)) w.heap.size (w.heap.size + 1) (w.heap.size + 1 + 1) (w.heap.size + 1 + 1 + 1) #[.string s, .int .i64 0, .bool false] 101 (.slice none 0 0) []) :=
    hide ⟨(((Below.refl _ _).alloc (Nat.le_refl _) _).alloc (by simp) _).alloc (by simp; omega) _, by simp, ((Mem.Blk.new w _ _).alloc _).alloc _, Mem.new_mid w _ _ _, Mem.new_three w _ _ _, Mem.ownN_nil _ _, by omega, by omega, by omega, by omega, by omega, by omega⟩
  have HM := hide (Pl.many_cases s)
  have hmany := hide (WReadS.many_any (w.heap.size + 1) s 0 false 40 _ h8' (by omega) (unhide R0))
  generalize hMM : Pl.manyS s 0 false 40 = MM at hmany HM
  obtain ⟨mc, ma, mb⟩ := MM
  simp only at hmany HM
  clear hMM
  have HRN : Hid (Pl.treeR s = none → Pl.readO s = ([], 3)) := hide (fun h => Pl.readO_none h8 h)
  have HRS : Hid (∀ L, Pl.treeR s = some L → Pl.readO s = (L, 0)) := hide (fun L h => Pl.readO_some h8 h)
  generalize hRR : Pl.readO s = RR at HRN HRS ⊢
  clear hRR
  go_enter Tryd.func23, Tryd.ntmps23
  go_wp2_with fail
  generalize (((w.alloc (.cells #[.slice none 0 0, .int .i64 0] 37)).alloc (.cells #[.string s, .int .i64 0, .bool false] 101)).alloc (.cells #[.slice none 0 0] 32)) = w3 at K0 R0 hmany ⊢
  refine (unhide hmany).mono ?_
  rintro e w1 ⟨rfl, hrs, hgr⟩
  have K1 := hide ((unhide K0).read hgr hrs)
  clear hmany K0 R0 hrs hgr
  rcases unhide HM with ⟨c, q, hg, hc40, hq0, hqs, hme⟩ | ⟨rfl, rfl, -, hno⟩
  rotate_left
  · have HNO : Hid (RR = ([], 3)) := hide (unhide HRN hno)
    clear HM HRN HRS hno
    have c32 := (unhide K1).x3.cell 2
    simp only [kA0, kA1, kA2] at c32
    go_wp2
    go_loopw [5] (fun k wr => k = .int .i64 0 ∧ wr = w1) (fun _ _ => 0)
    case atStart => exact ⟨rfl, rfl⟩
    case round =>
      obtain ⟨rfl, rfl⟩ := hrel
      have hill := hide (WIll3.ill_any 3)
      go_wp2_with fail
      refine (unhide hill _).mono ?_
      rintro e wI ⟨rfl, bI⟩
      have KI := hide ((unhide K1).call bI)
      have z0 := (unhide KI).x2.cell 0
      have z1 := (unhide KI).x2.cell 1
      simp only [kA0, kA1, kA2] at z0 z1
      have zf0 := (unhide KI).x2.fr 0
      have zf1 := (unhide KI).x2.fr 1
      clear hill bI
      go_wp2
      refine bodyPost_ret (v := .agg #[.slice none 0 0, .int .i64 3]) (by simp [results, Tryd.results23, go_sem, z0, z1]) rfl ⟨.slice none 0 0, by rw [unhide HNO], by rw [unhide HNO]; exact Mem.ownN_nil _ _, ((unhide KI).done _ _).2⟩
  · obtain ⟨e1, e2, e3⟩ : mc = (c : Int) ∧ ma = (q : Int) ∧ mb = false := by simp only [Prod.mk.injEq] at hme; exact hme
    subst e1 e2 e3
    have ht1 : s.toList.isEmpty = false := by rw [Pl.empty_list]; exact decide_eq_false (fun h => by rw [Pl.by_nil] at h; omega)
    have HG := hide hg
    have HFA : Hid (∀ j, j ≤ c → (Pl.steps s (q : Int) j).f ≠ none → RR = ([], 3)) := hide (fun j hj hf => unhide HRN (Pl.treeR_none hg hj hf))
    have HEN : Hid ((Pl.steps s (q : Int) c).f = none → (Pl.treeBytes (Pl.steps s (q : Int) c).L = s → RR = ((Pl.steps s (q : Int) c).L, 0)) ∧ (¬ Pl.treeBytes (Pl.steps s (q : Int) c).L = s → RR = ([], 3))) := hide (fun hf => ⟨fun hb => unhide HRS _ (by rw [Pl.treeR_end hg hc40 hf, if_pos hb]), fun hb => unhide HRN (by rw [Pl.treeR_end hg hc40 hf, if_neg hb])⟩)
    have HSM : Hid (∀ j, (Pl.steps s (q : Int) j).f = none → ∀ n ∈ (Pl.steps s (q : Int) j).L, n.path.size ≤ 1048576 ∧ n.data.size ≤ 1048576) := hide (fun j hf n hn => by
      obtain ⟨-, -, -, -, -, h⟩ := Pl.steps_none hqs j hf
      have := h n hn
      omega)
    have HBD : Hid (∀ j, (Pl.steps s (q : Int) j).a ≤ 9223372036854775807) := hide (fun j => Pl.steps_bound h8' (by omega) j)
    have HST : Hid (∀ j, (Pl.steps s (q : Int) j).f = none → ((Pl.nodeS s (Pl.steps s (q : Int) j).a).2.2 = false ∧ (Pl.steps s (q : Int) (j + 1)).f = none ∧ (Pl.nodeS s (Pl.steps s (q : Int) j).a).2.1 = (Pl.steps s (q : Int) (j + 1)).a ∧ (Pl.steps s (q : Int) j).L ++ [(Pl.nodeS s (Pl.steps s (q : Int) j).a).1] = (Pl.steps s (q : Int) (j + 1)).L) ∨ ((Pl.nodeS s (Pl.steps s (q : Int) j).a).2.2 = true ∧ (Pl.steps s (q : Int) (j + 1)).f ≠ none)) := hide (fun j hf => Pl.steps_succ hf)
    have HZ : Hid ((Pl.steps s (q : Int) 0).L = [] ∧ (Pl.steps s (q : Int) 0).a = (q : Int) ∧ (Pl.steps s (q : Int) 0).f = none) := hide ⟨rfl, rfl, rfl⟩
    have HLN : Hid (∀ j, (Pl.steps s (q : Int) j).L.length = j) := hide (fun j => Pl.steps_len s (q : Int) j)
    generalize Pl.steps s (q : Int) = ST at HFA HEN HSM HBD HST HZ HLN
    clear hme hg HM HRN HRS HG
    go_wp2
    go_loopw [5] (fun k wr => ∃ (kk j : Nat) (a : Int) (bad : Bool) (v : Value) (L : List Pl.Nd), k = .int .i64 (kk : Int) ∧ kk + j = c ∧ Hid (WReadK.Ks w wr w.heap.size (w.heap.size + 1) (w.heap.size + 1 + 1) (w.heap.size + 1 + 1 + 1) #[.string s, .int .i64 a, .bool bad] 101 v L) ∧ ((bad = false ∧ Hid ((ST j).L = L ∧ (ST j).a = a ∧ (ST j).f = none)) ∨ (bad = true ∧ Hid (RR = ([], 3))))) (fun k _ => (intOf k).toNat)
    case atStart => exact ⟨c, 0, (q : Int), false, _, [], rfl, by omega, K1, .inl ⟨rfl, HZ⟩⟩
    case round =>
      obtain ⟨kk, j, a, bad, v, L, rfl, hkj, KK, hcase⟩ := hrel
      clear K1 HZ
      have c32 := (unhide KK).x3.cell 2
      simp only [kA0, kA1, kA2] at c32
      rcases hcase with ⟨rfl, HH⟩ | ⟨rfl, HNO⟩
      rotate_left
      · by_cases hk : (0 : Int) < (kk : Int)
        · skip
          have hill := hide (WIll3.ill_any 3)
          go_wp2_with fail
          refine (unhide hill _).mono ?_
          rintro e wI ⟨rfl, bI⟩
          have KI := hide ((unhide KK).call bI)
          have z0 := (unhide KI).x2.cell 0
          have z1 := (unhide KI).x2.cell 1
          simp only [kA0, kA1, kA2] at z0 z1
          have zf0 := (unhide KI).x2.fr 0
          have zf1 := (unhide KI).x2.fr 1
          clear hill bI
          go_wp2
          refine bodyPost_ret (v := .agg #[.slice none 0 0, .int .i64 3]) (by simp [results, Tryd.results23, go_sem, z0, z1]) rfl ⟨.slice none 0 0, by rw [unhide HNO], by rw [unhide HNO]; exact Mem.ownN_nil _ _, ((unhide KI).done _ _).2⟩
        · skip
          have hill := hide (WIll3.ill_any 3)
          go_wp2_with fail
          refine (unhide hill _).mono ?_
          rintro e wI ⟨rfl, bI⟩
          have KI := hide ((unhide KK).call bI)
          have z0 := (unhide KI).x2.cell 0
          have z1 := (unhide KI).x2.cell 1
          simp only [kA0, kA1, kA2] at z0 z1
          have zf0 := (unhide KI).x2.fr 0
          have zf1 := (unhide KI).x2.fr 1
          clear hill bI
          go_wp2
          refine bodyPost_ret (v := .agg #[.slice none 0 0, .int .i64 3]) (by simp [results, Tryd.results23, go_sem, z0, z1]) rfl ⟨.slice none 0 0, by rw [unhide HNO], by rw [unhide HNO]; exact Mem.ownN_nil _ _, ((unhide KI).done _ _).2⟩
      · cases kk with
        | zero =>
          obtain rfl : j = c := by omega
          obtain ⟨h1, h2, h3⟩ := unhide HH
          obtain ⟨va, vc, rfl⟩ := Mem.own_shape (unhide KK).row
          obtain ⟨hE1, hE2⟩ := unhide HEN h3
          have hll : L.length ≤ 1048576 := by rw [← h1, unhide HLN]; omega
          have htb := hide (WBytesT.spec_any va vc L wr hll (Mem.ownN_nodes (unhide KK).row).2 (by rw [← h1]; exact unhide HSM _ h3))
          rw [h1] at hE1 hE2
          generalize Pl.treeBytes L = Y at htb hE1 hE2
          have c40 := (unhide KK).x4.cell 0
          simp only [kA0, kA1, kA2] at c40
          have HE1 := hide hE1
          have HE2 := hide hE2
          clear HH h1 h2 h3 hE1 hE2 HFA HEN HSM HBD HST HLN
          go_wp2_with fail
          refine (unhide htb).mono ?_
          rintro e w5 ⟨rfl, b5⟩
          have K5 := hide ((unhide KK).call b5)
          clear htb KK b5 c32 c40
          by_cases hy : Y = s
          · have HYE := hide (unhide HE1 hy)
            subst hy
            have c40 := (unhide K5).x4.cell 0
            simp only [kA0, kA1, kA2] at c40
            have z0 := (unhide K5).x2.cell 0
            have z1 := (unhide K5).x2.cell 1
            simp only [kA0, kA1, kA2] at z0 z1
            have zf0 := (unhide K5).x2.fr 0
            have zf1 := (unhide K5).x2.fr 1
            go_wp2
            refine bodyPost_ret (v := .agg #[.slice va L.length vc, .int .i64 0]) (by simp [results, Tryd.results23, go_sem, z0, z1]) rfl ⟨.slice va L.length vc, by rw [unhide HYE], by rw [unhide HYE]; exact ((unhide K5).done _ _).1, ((unhide K5).done _ _).2⟩
          · have HNO : Hid (RR = ([], 3)) := hide (unhide HE2 hy)
            have hy1 : ¬ Y.toList = s.toList := fun h => hy (by rw [ByteArray.toList_eq, ByteArray.toList_eq] at h; exact Pl.by_inj h)
            have hy2 : (Y.toList == s.toList) = false := by simpa using hy1
            have hill := hide (WIll3.ill_any 3)
            go_wp2_with fail
            refine (unhide hill _).mono ?_
            rintro e wI ⟨rfl, bI⟩
            have KI := hide ((unhide K5).call bI)
            have z0 := (unhide KI).x2.cell 0
            have z1 := (unhide KI).x2.cell 1
            simp only [kA0, kA1, kA2] at z0 z1
            have zf0 := (unhide KI).x2.fr 0
            have zf1 := (unhide KI).x2.fr 1
            clear hill bI
            go_wp2
            refine bodyPost_ret (v := .agg #[.slice none 0 0, .int .i64 3]) (by simp [results, Tryd.results23, go_sem, z0, z1]) rfl ⟨.slice none 0 0, by rw [unhide HNO], by rw [unhide HNO]; exact Mem.ownN_nil _ _, ((unhide KI).done _ _).2⟩
        | succ kk =>
          have u1 : (0 : Int) < ((kk + 1 : Nat) : Int) := by omega
          obtain ⟨h1, h2, h3⟩ := unhide HH
          have hab := unhide HBD j
          have hst := unhide HST j h3
          have hlen : L.length ≤ 40 := by rw [← h1, unhide HLN]; omega
          rw [h2] at hst hab
          rw [h1] at hst
          unfold Pl.nodeS at hst
          obtain ⟨⟨p1, a1, b1⟩, hr1⟩ : ∃ r, Pl.textS s a false = r := ⟨_, rfl⟩
          have z1 := Pl.textS_bound (bad := false) h8' hab
          simp only [hr1] at hst z1
          obtain ⟨⟨p2, a2, b2⟩, hr2⟩ : ∃ r, Pl.numS s a1 b1 = r := ⟨_, rfl⟩
          have z2 := Pl.numS_bound (bad := b1) h8' z1
          simp only [hr2] at hst z2
          obtain ⟨⟨p3, a3, b3⟩, hr3⟩ : ∃ r, Pl.textS s a2 b2 = r := ⟨_, rfl⟩
          have z3 := Pl.textS_bound (bad := b2) h8' z2
          simp only [hr3] at hst z3
          obtain ⟨⟨p4, a4, b4⟩, hr4⟩ : ∃ r, Pl.numS s a3 b3 = r := ⟨_, rfl⟩
          have z4 := Pl.numS_bound (bad := b3) h8' z3
          simp only [hr4] at hst z4
          obtain ⟨⟨p5, a5, b5⟩, hr5⟩ : ∃ r, Pl.numS s a4 b4 = r := ⟨_, rfl⟩
          simp only [hr5] at hst
          have HSS := hide hst
          have c1 := hide (fun W hv => WReadS.text_any (w.heap.size + 1) s a false W h8' hab hv)
          have c2 := hide (fun W hv => WReadS.num_any (w.heap.size + 1) s a1 b1 W h8' z1 hv)
          have c3 := hide (fun W hv => WReadS.text_any (w.heap.size + 1) s a2 b2 W h8' z2 hv)
          have c4 := hide (fun W hv => WReadS.num_any (w.heap.size + 1) s a3 b3 W h8' z3 hv)
          have c5 := hide (fun W hv => WReadS.num_any (w.heap.size + 1) s a4 b4 W h8' z4 hv)
          rw [hr1] at c1
          rw [hr2] at c2
          rw [hr3] at c3
          rw [hr4] at c4
          rw [hr5] at c5
          simp only at c1 c2 c3 c4 c5
          have HNF : Hid ((ST (j + 1)).f ≠ none → RR = ([], 3)) := hide (fun hf => unhide HFA (j + 1) (by omega) hf)
          clear hst h1 h2 h3 HH hr1 hr2 hr3 hr4 hr5 z1 z2 z3 z4 HFA HEN HSM HBD HST HLN hab
          go_wp2_with fail
          refine (unhide c1 _ (unhide KK).x3).mono ?_
          rintro e w1' ⟨rfl, hrs, hgr⟩
          have K1 := (unhide KK).read hgr hrs
          clear KK hrs hgr c1 c32
          have hXo : v.ownBlock ≠ some w1'.heap.size := fun e => by have := (K1.own _ e).2; omega
          have hXB : w.heap.size + 1 + 1 + 1 ≤ w1'.heap.size := K1.big
          have hX3 : w.heap.size + 1 ≠ w1'.heap.size := by omega
          have N1 := Mem.Blk.new w1' #[.string p1, .int .i64 0, .string ⟨#[]⟩, .int .i64 0, .int .i64 0] 78
          have K2 := hide (K1.alloc (.cells #[.string p1, .int .i64 0, .string ⟨#[]⟩, .int .i64 0, .int .i64 0] 78))
          have HN1 := hide N1
          clear K1 N1
          generalize hX6 : w1'.heap.size = X6 at hXo hXB hX3 HN1
          go_wp2_with fail
          refine (unhide c2 _ (unhide K2).x3).mono ?_
          rintro e wn1 ⟨rfl, hrs, hgr⟩
          have KA := (unhide K2).read hgr hrs
          have NA := (unhide HN1).grown hgr (fun e => hX3 (Option.some.inj e).symm)
          clear K2 HN1 hrs hgr c2
          have s0 := NA.cell 1
          simp only [kA0, kA1, kA2] at s0
          have s1 := NA.fr 1
          have K2 := hide (KA.set ⟨X6, 1, none⟩ (.int .i64 p2) hXB hXo)
          have HN1 := hide (show Mem.Blk (wn1.setCell ⟨X6, 1, none⟩ (.int .i64 p2)) X6 #[.string p1, .int .i64 p2, .string ⟨#[]⟩, .int .i64 0, .int .i64 0] 78 from NA.put 1 (.int .i64 p2))
          clear KA NA
          go_wp2_with fail
          refine (unhide c3 _ (unhide K2).x3).mono ?_
          rintro e wn2 ⟨rfl, hrs, hgr⟩
          have KA := (unhide K2).read hgr hrs
          have NA := (unhide HN1).grown hgr (fun e => hX3 (Option.some.inj e).symm)
          clear K2 HN1 hrs hgr c3
          have s0 := NA.cell 2
          simp only [kA0, kA1, kA2] at s0
          have s1 := NA.fr 2
          have K2 := hide (KA.set ⟨X6, 2, none⟩ (.string p3) hXB hXo)
          have HN1 := hide (show Mem.Blk (wn2.setCell ⟨X6, 2, none⟩ (.string p3)) X6 #[.string p1, .int .i64 p2, .string p3, .int .i64 0, .int .i64 0] 78 from NA.put 2 (.string p3))
          clear KA NA
          go_wp2_with fail
          refine (unhide c4 _ (unhide K2).x3).mono ?_
          rintro e wn3 ⟨rfl, hrs, hgr⟩
          have KA := (unhide K2).read hgr hrs
          have NA := (unhide HN1).grown hgr (fun e => hX3 (Option.some.inj e).symm)
          clear K2 HN1 hrs hgr c4
          have s0 := NA.cell 3
          simp only [kA0, kA1, kA2] at s0
          have s1 := NA.fr 3
          have K2 := hide (KA.set ⟨X6, 3, none⟩ (.int .i64 p4) hXB hXo)
          have HN1 := hide (show Mem.Blk (wn3.setCell ⟨X6, 3, none⟩ (.int .i64 p4)) X6 #[.string p1, .int .i64 p2, .string p3, .int .i64 p4, .int .i64 0] 78 from NA.put 3 (.int .i64 p4))
          clear KA NA
          go_wp2_with fail
          refine (unhide c5 _ (unhide K2).x3).mono ?_
          rintro e wn4 ⟨rfl, hrs, hgr⟩
          have KA := (unhide K2).read hgr hrs
          have NA := (unhide HN1).grown hgr (fun e => hX3 (Option.some.inj e).symm)
          clear K2 HN1 hrs hgr c5
          have s0 := NA.cell 4
          simp only [kA0, kA1, kA2] at s0
          have s1 := NA.fr 4
          have K2 := hide (KA.set ⟨X6, 4, none⟩ (.int .i64 p5) hXB hXo)
          have HN1 := hide (show Mem.Blk (wn4.setCell ⟨X6, 4, none⟩ (.int .i64 p5)) X6 #[.string p1, .int .i64 p2, .string p3, .int .i64 p4, .int .i64 p5] 78 from NA.put 4 (.int .i64 p5))
          clear KA NA
          have n0 := (unhide HN1).cell 0
          have n1 := (unhide HN1).cell 1
          have n2 := (unhide HN1).cell 2
          have n3 := (unhide HN1).cell 3
          have n4 := (unhide HN1).cell 4
          simp only [kA0, kA1, kA2] at n0 n1 n2 n3 n4
          have c40 := (unhide K2).x4.cell 0
          simp only [kA0, kA1, kA2] at c40
          have hsz : (wn4.setCell ⟨X6, 4, none⟩ (.int .i64 p5)).heap.size = wn4.heap.size := by simp
          have hbig : w.heap.size + 1 + 1 + 1 ≤ wn4.heap.size := by have := (unhide K2).big; omega
          have HCS : Hid (∀ j u, [Value.string p1, .int .i64 p2, .string p3, .int .i64 p4, .int .i64 p5][j]? = some u → ((wn4.setCell ⟨X6, 4, none⟩ (.int .i64 p5)).alloc (.cells #[.string p1, .int .i64 p2, .string p3, .int .i64 p4, .int .i64 p5] 78)).cell? ((⟨wn4.heap.size, 0, none⟩ : Addr).add j) = some u) := hide (by
            have h' := Mem.cs_new (wn4.setCell ⟨X6, 4, none⟩ (.int .i64 p5)) ⟨p1, p2, p3, p4, p5⟩ 78
            rw [hsz] at h'; exact h')
          have OA := hide (unhide K2).row
          have HPT := hide (fun (w4 : World) (v' : Value) own gr => (unhide K2).put (n := ⟨p1, p2, p3, p4, p5⟩) (o := .cells #[.string p1, .int .i64 p2, .string p3, .int .i64 p4, .int .i64 p5] 78) (w4 := w4) (v' := v') own gr)
          have HMD := hide (fun (w4 : World) gr => (unhide K2).mid (o := .cells #[.string p1, .int .i64 p2, .string p3, .int .i64 p4, .int .i64 p5] 78) (w4 := w4) gr)
          clear K2 HN1 hX6 hXo hXB hX3
          go_wp2_with (at_builtin; refine wpList_append_own _ rfl _ _ 30 rfl (w.heap.size + 1 + 1 + 1) 78 i0 _ 5 56 Tryd.underlying30 hi hz0 hz1 hz2 rfl (by decide) _ _ _ rfl (Mem.ownN_alloc (unhide OA) _) ⟨wn4.heap.size, 0, none⟩ 1 1 [.string p1, .int .i64 p2, .string p3, .int .i64 p4, .int .i64 p5] rfl rfl (unhide HCS) (Mem.cs_one ⟨p1, p2, p3, p4, p5⟩) (by unfold maxLen; omega) (by omega) (by simp; omega) ?_)
          intro v' w4 own' hgrow _
          have M4 := unhide HMD w4 hgrow
          have m0 := M4.cell 0
          have m1 := M4.fr 0
          simp only [kA0, kA1, kA2] at m0
          have K3 := hide (unhide HPT w4 v' own' hgrow)
          obtain ⟨vb, vc, rfl⟩ := Mem.own_shape own'
          clear own' hgrow M4 HMD HPT OA HCS n0 n1 n2 n3 n4 c40
          have hcas : (b5 = false ∧ Hid ((ST (j + 1)).L = L ++ [⟨p1, p2, p3, p4, p5⟩] ∧ (ST (j + 1)).a = a5 ∧ (ST (j + 1)).f = none)) ∨ (b5 = true ∧ Hid (RR = ([], 3))) := by
            rcases unhide HSS with ⟨g1, g2, g3, g4⟩ | ⟨g1, g2⟩
            · exact .inl ⟨g1, hide ⟨g4.symm, g3.symm, g2⟩⟩
            · exact .inr ⟨g1, hide (unhide HNF g2)⟩
          have HCAS := hide hcas
          clear hcas HSS HNF
          go_wp2
          go_roundw
          case rel => exact ⟨kk, j + 1, a5, b5, _, _, by go_num, by omega, K3, unhide HCAS⟩
          case measure => simp [intOf]
end WReadT
end Go.Proofs.YtkfpfckmjgjanaaDoor

/- The walk of atEnd. -/
namespace Go.Proofs.YtkfpfckmjgjanaaDoor
open Go.RowKit
namespace WReadI
def endR (s : ByteArray) (a : Int) (f : Option Int) : Bool := f.isNone && decide (a = (s.size : Int))
set_option linter.unusedSimpArgs false in
set_option maxRecDepth 100000 in
set_option maxHeartbeats 1000000 in
theorem end_any (X : Nat) (s : ByteArray) (a : Int) (f : Option Int) (w : World) (hv : Rd w X s a f) :
    Calls Tryd.prog 55 #[.pointer (some ⟨X, 0, none⟩)] w fun e w' => e = .returned (.bool (endR s a f)) ∧ Below w.heap.size w w' := by
  have c0 := hv.cell 0
  have c1 := hv.cell 1
  have c2 := hv.cell 2
  simp only [kA0, kA1, kA2] at c0 c1 c2
  clear hv
  unfold endR
  cases f with
  | some c =>
    simp only [fv] at c2
    go_enter Tryd.func55, Tryd.ntmps55
    go_wp2_with fail
    go_quiet (fail)
    go_wp2
    go_ret
    exact ⟨rfl, Mem.below_drewN (Below.refl _ _) _⟩
  | none =>
    simp only [fv] at c2
    by_cases h : a = (s.size : Int)
    · subst h
      go_enter Tryd.func55, Tryd.ntmps55
      go_wp2_with fail
      go_quiet (fail)
      go_wp2
      go_ret
      exact ⟨by simp, Mem.below_drewN (Below.refl _ _) _⟩
    · have t0 : (a == (s.size : Int)) = false := by simpa using h
      have E : Hid (decide (a = (s.size : Int)) = false) := decide_eq_false h
      clear h
      go_enter Tryd.func55, Tryd.ntmps55
      go_wp2_with fail
      go_quiet (fail)
      go_wp2
      go_ret
      exact ⟨by rw [unhide E]; rfl, Mem.below_drewN (Below.refl _ _) _⟩
end WReadI
end Go.Proofs.YtkfpfckmjgjanaaDoor

