/- Several texts of one claim in one file: WItemX, WTakeX, WTakeY. -/
import Derived.Test.YteddcihodfkliabGreatDoorPartQ
import Derived.Test.YteddcihodfkliabGreatDoorPartN
import Derived.Test.YteddcihodfkliabGreatDoorPartA
import Derived.Test.YteddcihodfkliabGreatDoorMemFx
/- The walk of the program's treeItemOf, with the map that it makes. -/
namespace Go.Proofs.YteddcihodfkliabGreatDoor
open Go.RowKit
namespace WNestX
set_option linter.unusedSimpArgs false in
set_option maxRecDepth 100000 in
set_option maxHeartbeats 1000000 in
theorem item_any (m : Int) (a : Option Addr) (cap : Nat) (L : List Pl.Nd) (w : World) (hl : L.length ≤ 1048576) (hv : Mem.isNodes w a L) (hok : ∀ n ∈ L, n.path.size ≤ 1048576 ∧ n.data.size ≤ 1048576)
    (r1 r2 r3 : TypeId) (x1 x2 x3 : Value) (hE : WNodesI.Errs w r1 r2 r3 x1 x2 x3) :
    Calls Tryz.prog 72 #[.agg #[.int .i64 m, .slice a L.length cap]] w fun e w' => ((Pl.itemB m L = true ∧ ∃ B, e = .returned (.tuple #[.agg #[.map (some B), .int .i64 m], .nilIface]) ∧ w.heap.size ≤ B ∧ Mem.ownM w' B L) ∨
      (Pl.itemB m L = false ∧ ∃ k, e = .returned (.tuple #[.agg #[.map none, .int .i64 k], .iface r1 x1]))) ∧ Below w.heap.size w w' := by
  have b0 : Below w.heap.size w ((w.alloc (.cells #[.int .i64 m, .slice a L.length cap] 58)).alloc (.cells #[.map none, .int .i64 0] 65)) := ((Below.refl _ _).alloc (Nat.le_refl _) _).alloc (by simp) _
  have k1 := (hE.call b0).c1
  have HB0 := hide b0
  by_cases h1 : m < 0
  · have hb : Pl.itemB m L = false := by unfold Pl.itemB; rw [show decide (0 ≤ m) = false from decide_eq_false (by omega)]; simp
    clear b0 hv hok hE
    go_enter Tryz.func72, Tryz.ntmps72
    go_wp2
    go_region
    go_wp2
    refine bodyPost_ret (v := .tuple #[.agg #[.map none, .int .i64 0], .iface r1 x1]) (by simp [results, Tryz.results72, go_sem]) rfl ⟨.inr ⟨hb, 0, rfl⟩, ?_⟩
    exact Mem.below_drewN (unhide HB0) 1
  by_cases h2 : 4 < m
  · have hb : Pl.itemB m L = false := by unfold Pl.itemB; rw [show decide (m ≤ 4) = false from decide_eq_false (by omega)]; simp
    clear b0 hv hok hE
    go_enter Tryz.func72, Tryz.ntmps72
    go_wp2
    go_region
    go_wp2
    refine bodyPost_ret (v := .tuple #[.agg #[.map none, .int .i64 0], .iface r1 x1]) (by simp [results, Tryz.results72, go_sem]) rfl ⟨.inr ⟨hb, 0, rfl⟩, ?_⟩
    exact Mem.below_drewN (unhide HB0) 1
  by_cases h3 : 0 < m ∧ 0 < L.length
  · have hb : Pl.itemB m L = false := by
      rw [Pl.itemB_more (by omega), show decide (L.length = 0) = false from decide_eq_false (by omega)]; simp
    have u1 := h3.1
    have u2 : (0 : Int) < (L.length : Int) := by omega
    clear b0 hv hok hE
    go_enter Tryz.func72, Tryz.ntmps72
    go_wp2
    go_region
    go_wp2
    refine bodyPost_ret (v := .tuple #[.agg #[.map none, .int .i64 0], .iface r1 x1]) (by simp [results, Tryz.results72, go_sem]) rfl ⟨.inr ⟨hb, 0, rfl⟩, ?_⟩
    exact Mem.below_drewN (unhide HB0) 1
  have hb : Pl.itemB m L = Pl.treeB L := by
    by_cases h0 : m = 0
    · subst h0; exact Pl.itemB_zero L
    · have hL : L = [] := List.eq_nil_of_length_eq_zero (by omega)
      subst hL
      rw [Pl.itemB_more h0, Pl.treeB_nil, decide_eq_true (show 1 ≤ m by omega), decide_eq_true (show m ≤ 4 by omega)]; rfl
  rw [hb]
  have hz := hide (WNodesI.nodes_any a cap L _ hl (Mem.nodes_call hv b0) hok r1 r2 r3 x1 x2 x3 (hE.call b0))
  have r2' : Mem.Blk ((w.alloc (.cells #[.int .i64 m, .slice a L.length cap] 58)).alloc (.cells #[.map none, .int .i64 0] 65)) (w.heap.size + 1) #[.map none, .int .i64 0] 65 := by
    have := Mem.Blk.new (w.alloc (.cells #[.int .i64 m, .slice a L.length cap] 58)) #[.map none, .int .i64 0] 65
    simpa using this
  have r1' : Mem.Blk ((w.alloc (.cells #[.int .i64 m, .slice a L.length cap] 58)).alloc (.cells #[.map none, .int .i64 0] 65)) w.heap.size #[.int .i64 m, .slice a L.length cap] 58 := (Mem.Blk.new w _ _).alloc _
  clear hv hok hE k1 b0 hb
  by_cases h4 : 0 < m
  · have u2 : ¬ (0 : Int) < (L.length : Int) := by omega
    go_enter Tryz.func72, Tryz.ntmps72
    go_wp2_with fail
    generalize ((w.alloc (.cells #[.int .i64 m, .slice a L.length cap] 58)).alloc (.cells #[.map none, .int .i64 0] 65)) = w2 at hz r1' r2' HB0 ⊢
    refine (unhide hz).mono ?_
    rintro e w1 ⟨h1, b1⟩
    have R1 := r1'.call b1
    have R2 := r2'.call b1
    have c10 := R1.cell 0
    have c11 := R1.cell 1
    have c20 := R2.cell 0
    have c21 := R2.cell 1
    have f20 := R2.fr 0
    have f21 := R2.fr 1
    simp only [List.getElem?_toArray, List.getElem?_cons_zero, List.getElem?_cons_succ] at c10 c11 c20 c21
    have bb := hide ((unhide HB0).trans (b1.mono (unhide HB0).size))
    have HS2 : Hid (w.heap.size + 2 ≤ w2.heap.size) := hide (by have := r2'.lt; omega)
    clear hz b1 r1' r2' R1 R2 HB0
    rcases h1 with ⟨hT, B, rfl, hB, hm⟩ | ⟨hT, rfl⟩
    · have HM : Hid (w.heap.size ≤ B ∧ Mem.ownM ((w1.setCell ⟨w.heap.size + 1, 0, none⟩ (.map (some B))).setCell ⟨w.heap.size + 1, 1, none⟩ (.int .i64 m)) B L) :=
        hide ⟨by have := (unhide HS2); omega, (Mem.ownM.set (Mem.ownM.set hm _ _ (by have := (unhide HS2); show B ≠ w.heap.size + 1; omega)) _ _ (by have := (unhide HS2); show B ≠ w.heap.size + 1; omega))⟩
      clear hm hB
      go_wp2
      refine bodyPost_ret (v := .tuple #[.agg #[.map (some B), .int .i64 m], .nilIface]) (by simp [results, Tryz.results72, go_sem, c20, c21]) rfl ⟨.inl ⟨hT, B, rfl, unhide HM⟩, ?_⟩
      exact ((unhide bb).setCell (by show w.heap.size ≤ w.heap.size + 1; omega) _).setCell (by show w.heap.size ≤ w.heap.size + 1; omega) _
    · go_wp2
      refine bodyPost_ret (v := .tuple #[.agg #[.map none, .int .i64 m], .iface r1 x1]) (by simp [results, Tryz.results72, go_sem, c20, c21]) rfl ⟨.inr ⟨hT, m, rfl⟩, ?_⟩
      exact ((unhide bb).setCell (by show w.heap.size ≤ w.heap.size + 1; omega) _).setCell (by show w.heap.size ≤ w.heap.size + 1; omega) _
  · go_enter Tryz.func72, Tryz.ntmps72
    go_wp2_with fail
    generalize ((w.alloc (.cells #[.int .i64 m, .slice a L.length cap] 58)).alloc (.cells #[.map none, .int .i64 0] 65)) = w2 at hz r1' r2' HB0 ⊢
    refine (unhide hz).mono ?_
    rintro e w1 ⟨h1, b1⟩
    have R1 := r1'.call b1
    have R2 := r2'.call b1
    have c10 := R1.cell 0
    have c11 := R1.cell 1
    have c20 := R2.cell 0
    have c21 := R2.cell 1
    have f20 := R2.fr 0
    have f21 := R2.fr 1
    simp only [List.getElem?_toArray, List.getElem?_cons_zero, List.getElem?_cons_succ] at c10 c11 c20 c21
    have bb := hide ((unhide HB0).trans (b1.mono (unhide HB0).size))
    have HS2 : Hid (w.heap.size + 2 ≤ w2.heap.size) := hide (by have := r2'.lt; omega)
    clear hz b1 r1' r2' R1 R2 HB0
    rcases h1 with ⟨hT, B, rfl, hB, hm⟩ | ⟨hT, rfl⟩
    · have HM : Hid (w.heap.size ≤ B ∧ Mem.ownM ((w1.setCell ⟨w.heap.size + 1, 0, none⟩ (.map (some B))).setCell ⟨w.heap.size + 1, 1, none⟩ (.int .i64 m)) B L) :=
        hide ⟨by have := (unhide HS2); omega, (Mem.ownM.set (Mem.ownM.set hm _ _ (by have := (unhide HS2); show B ≠ w.heap.size + 1; omega)) _ _ (by have := (unhide HS2); show B ≠ w.heap.size + 1; omega))⟩
      clear hm hB
      go_wp2
      refine bodyPost_ret (v := .tuple #[.agg #[.map (some B), .int .i64 m], .nilIface]) (by simp [results, Tryz.results72, go_sem, c20, c21]) rfl ⟨.inl ⟨hT, B, rfl, unhide HM⟩, ?_⟩
      exact ((unhide bb).setCell (by show w.heap.size ≤ w.heap.size + 1; omega) _).setCell (by show w.heap.size ≤ w.heap.size + 1; omega) _
    · go_wp2
      refine bodyPost_ret (v := .tuple #[.agg #[.map none, .int .i64 m], .iface r1 x1]) (by simp [results, Tryz.results72, go_sem, c20, c21]) rfl ⟨.inr ⟨hT, m, rfl⟩, ?_⟩
      exact ((unhide bb).setCell (by show w.heap.size ≤ w.heap.size + 1; omega) _).setCell (by show w.heap.size ≤ w.heap.size + 1; omega) _
end WNestX
end Go.Proofs.YteddcihodfkliabGreatDoor

/- The walk of takeNest, with what each nest is itself. -/
namespace Go.Proofs.YteddcihodfkliabGreatDoor
open Go.RowKit
namespace WNestX
theorem infoN : (Tryz.prog.info? 68).map (fun i => (i.zero, i.size, i.bytes)) = some (some (.agg #[.map none, .int .i64 0, .slice none 0 0]), 3, 40) := by kernel_rfl
/-- How far takeNest has come: its variables, and the row of what it took so far. -/
structure Tk (w wr : World) (B X2 X7 : Nat) (q : Nat) (L : List Pl.Nd) (m : Int) (v : Value) (F : Pl.Fx) (xs : List Value) : Prop where
  bel : Below w.heap.size w wr
  big : B ≤ wr.heap.size
  x2 : Mem.Blk wr X2 #[.map none, .int .i64 0, .slice none 0 0] 68
  x7 : Mem.Blk wr X7 #[.map (some q), .int .i64 m, v] 68
  l2 : w.heap.size ≤ X2 ∧ X2 < B
  l7 : w.heap.size ≤ X7 ∧ X7 < B
  ne : X2 ≠ X7
  row : wr.ownsRow B 68 3 v F.len xs
  cells : Mem.cellsX wr (fun b => B ≤ b ∧ v.ownBlock ≠ some b) F xs
  lq : w.heap.size ≤ q ∧ q < B ∧ q ≠ X2 ∧ q ≠ X7
  mq : Mem.ownM wr q L
theorem row_call {w w' : World} {B n s : Nat} {T : TypeId} {v : Value} {xs : List Value} (h : w.ownsRow B T s v n xs) (b : Below w.heap.size w w') : w'.ownsRow B T s v n xs := by
  refine ⟨h.1, ?_⟩
  rcases h.2 with h0 | ⟨g, cap, cur, hv, hb, hg, rest⟩
  · exact .inl h0
  · exact .inr ⟨g, cap, cur, hv, hb, (b.block g (Array.getElem?_eq_some_iff.1 hg).1).trans hg, rest⟩
theorem row_set {w : World} {B n s : Nat} {T : TypeId} {v : Value} {xs : List Value} (h : w.ownsRow B T s v n xs) (p : Addr) (u : Value) (hp : p.block < B) : (w.setCell p u).ownsRow B T s v n xs := by
  refine ⟨h.1, ?_⟩
  rcases h.2 with h0 | ⟨g, cap, cur, hv, hb, hg, rest⟩
  · exact .inl h0
  · exact .inr ⟨g, cap, cur, hv, hb, (heap_setCell_other _ _ _ _ (by omega)).trans hg, rest⟩
theorem Tk.step {w wr w1 w4 : World} {B X2 X7 : Nat} {q q1 : Nat} {L L1 : List Pl.Nd} {m : Int} {v v1 v' : Value} {F kids : Pl.Fx} {xs : List Value} {o1 o2 : Obj} (h : Tk w wr B X2 X7 q L m v F xs)
    (b1 : Below wr.heap.size wr w1) (hl : Mem.layX w1 (fun b => wr.heap.size ≤ b) kids v1) (hq1 : wr.heap.size ≤ q1) (hm1 : Mem.ownM w1 q1 L1)
    (own : w4.ownsRow B 68 3 v' (F.len + 1) (xs ++ [.map (some q1), .int .i64 (kids.len : Int), v1])) (gr : ((w1.alloc o1).alloc o2).grownBy w4 v.ownBlock) (far : ∀ g, v'.ownBlock = some g → v.ownBlock = some g ∨ ((w1.alloc o1).alloc o2).heap.size ≤ g) :
    Tk w (w4.setCell ⟨X7, 2, none⟩ v') B X2 X7 q L m v' (F.app (.cons L1 kids .nil)) (xs ++ [.map (some q1), .int .i64 (kids.len : Int), v1]) := by
  have hw1 : wr.heap.size ≤ w1.heap.size := b1.size
  have hs3 : ((w1.alloc o1).alloc o2).heap.size = w1.heap.size + 1 + 1 := by simp
  have b3 : Below wr.heap.size wr ((w1.alloc o1).alloc o2) := (b1.alloc hw1 o1).alloc (by simp; omega) o2
  have b13 : Below w1.heap.size w1 ((w1.alloc o1).alloc o2) := ((Below.refl _ _).alloc (Nat.le_refl _) o1).alloc (by simp) o2
  have e5 : (w4.setCell ⟨X7, 2, none⟩ v').heap.size = w4.heap.size := by simp
  have hv7 : some X7 ≠ v.ownBlock := fun e => by have := (h.row.lt X7 e.symm).1; have := h.l7.2; omega
  have hv2 : some X2 ≠ v.ownBlock := fun e => by have := (h.row.lt X2 e.symm).1; have := h.l2.2; omega
  have hbig := h.big
  have keep : ∀ b, B ≤ b → v.ownBlock ≠ some b → b < w1.heap.size → (w4.setCell ⟨X7, 2, none⟩ v').heap[b]? = w1.heap[b]? := fun b hb hne hlt => by
    rw [heap_setCell_other _ _ _ _ (by show b ≠ X7; have := h.l7.2; omega), gr.block b (by omega) (fun e => hne e.symm)]
    exact b13.block b hlt
  have hsz : ∀ b, b < w1.heap.size → b < (w4.setCell ⟨X7, 2, none⟩ v').heap.size := fun b hb => by have := gr.size; omega
  have hnew : ∀ b, v.ownBlock ≠ some b → b < w1.heap.size → v'.ownBlock ≠ some b := fun b hne hlt e => by
    rcases far b e with h' | h'
    · exact hne h'
    · omega
  refine ⟨?_, ?_, ?_, ?_, h.l2, h.l7, h.ne, ?_, ?_, h.lq, ?_⟩
  · refine Below.setCell ?_ (by show w.heap.size ≤ X7; exact h.l7.1) _
    have bw3 := h.bel.trans (b3.mono h.bel.size)
    refine ⟨gr.os.trans bw3.os, gr.tape.trans bw3.tape, gr.output.trans bw3.output, Nat.le_trans bw3.size gr.size, fun k hk => ?_⟩
    have hk2 := h.bel.size
    rw [gr.block k (by omega) (fun e => by have := (h.row.lt k e.symm).1; have := h.l7; omega)]
    exact bw3.block k hk
  · have := gr.size; omega
  · exact ((h.x2.call b3).grown gr hv2).far _ _ h.ne
  · exact ((h.x7.call b3).grown gr hv7).put 2 v'
  · rw [Pl.Fx.len_app]
    exact row_set own _ _ h.l7.2
  · have hnw : ∀ b, wr.heap.size ≤ b → b < w1.heap.size → v.ownBlock ≠ some b := fun b hb hlt e => by have := (h.row.lt b e).2; omega
    refine Mem.cellsX_snoc ⟨by omega, hnew q1 (hnw q1 hq1 hm1.lt) hm1.lt⟩ (hm1.same (keep q1 (by omega) (hnw q1 hq1 hm1.lt) hm1.lt)) (Mem.layX_mono (fun b hb hlt => ?_) hl) F xs (Mem.cellsX_mono (fun b hb hlt => ?_) F xs h.cells)
    · exact ⟨⟨by omega, hnew b (hnw b hb hlt) hlt⟩, hsz b hlt, keep b (by omega) (hnw b hb hlt) hlt⟩
    · exact ⟨⟨hb.1, hnew b hb.2 (by omega)⟩, hsz b (by omega), (keep b hb.1 hb.2 (by omega)).trans (b1.block b hlt)⟩
  · have hq := h.mq.lt
    refine h.mq.same ?_
    rw [heap_setCell_other _ _ _ _ (show q ≠ X7 from h.lq.2.2.2), gr.block q (by omega) (fun e => by have := (h.row.lt q e.symm).1; have := h.lq.2.1; omega)]
    exact b3.block q hq
theorem Tk.mid {w wr w1 w4 : World} {B X2 X7 : Nat} {q : Nat} {L : List Pl.Nd} {m : Int} {v : Value} {F : Pl.Fx} {xs : List Value} {o1 o2 : Obj} (h : Tk w wr B X2 X7 q L m v F xs)
    (b1 : Below wr.heap.size wr w1) (gr : ((w1.alloc o1).alloc o2).grownBy w4 v.ownBlock) : Mem.Blk w4 X7 #[.map (some q), .int .i64 m, v] 68 :=
  (((h.x7.call b1).alloc o1).alloc o2).grown gr (fun e => by have := (h.row.lt X7 e.symm).1; have := h.l7.2; omega)
theorem Tk.conc {w wr : World} {B X2 X7 : Nat} {q : Nat} {L : List Pl.Nd} {m : Int} {v : Value} {F : Pl.Fx} {xs : List Value} (h : Tk w wr B X2 X7 q L m v F xs) : ∃ a cap, v = .slice a F.len cap := by
  rcases h.row.2 with ⟨h1, h0⟩ | ⟨g, cap, cur, h1, _⟩
  · exact ⟨none, 0, by rw [h1, h0]⟩
  · exact ⟨_, cap, h1⟩
theorem conc {w : World} {B n s : Nat} {T : TypeId} {v : Value} {xs : List Value} (h : w.ownsRow B T s v n xs) : ∃ a cap, v = .slice a n cap := by
  rcases h.2 with ⟨h1, h0⟩ | ⟨g, cap, cur, h1, _⟩
  · exact ⟨none, 0, by rw [h1, h0]⟩
  · exact ⟨_, cap, h1⟩
theorem three_new (w : World) (cs : List Value) (T : TypeId) (o : Obj) : ∀ j u, cs[j]? = some u → ((w.alloc o).alloc (.cells cs.toArray T)).cell? ((⟨w.heap.size + 1, 0, none⟩ : Addr).add j) = some u := by
  intro j u hj
  rw [Mem.add_lit]
  have := (Mem.var_new (w.alloc o) cs T).2 j u hj
  simpa using this
/-- What is seen behind it all: the layers, through the stores to the result. -/
theorem Tk.done {w wr : World} {B X2 X7 : Nat} {q : Nat} {L : List Pl.Nd} {m : Int} {v : Value} {F : Pl.Fx} {xs : List Value} (h : Tk w wr B X2 X7 q L m v F xs) (u0 u1 u2 : Value) :
    Mem.layX (((wr.setCell ⟨X2, 0, none⟩ u0).setCell ⟨X2, 1, none⟩ u1).setCell ⟨X2, 2, none⟩ u2) (fun b => w.heap.size ≤ b) F v := by
  refine Mem.layX_mono (fun b hb hlt => ⟨?_, by simpa using hlt, ?_⟩) (Mem.layX_of_row h.row h.cells (fun b hb => hb.1))
  · have := h.l2; omega
  · have := h.l2.2
    rw [heap_setCell_other _ _ _ _ (by show b ≠ X2; omega), heap_setCell_other _ _ _ _ (by show b ≠ X2; omega), heap_setCell_other _ _ _ _ (by show b ≠ X2; omega)]
theorem Tk.own {w wr : World} {B X2 X7 : Nat} {q : Nat} {L : List Pl.Nd} {m : Int} {v : Value} {F : Pl.Fx} {xs : List Value} (h : Tk w wr B X2 X7 q L m v F xs) (u0 u1 u2 : Value) :
    Mem.ownM (((wr.setCell ⟨X2, 0, none⟩ u0).setCell ⟨X2, 1, none⟩ u1).setCell ⟨X2, 2, none⟩ u2) q L :=
  ((h.mq.set _ _ h.lq.2.2.1).set _ _ h.lq.2.2.1).set _ _ h.lq.2.2.1
end WNestX
end Go.Proofs.YteddcihodfkliabGreatDoor

/- The walk of takeNest, with what each nest is itself. -/
namespace Go.Proofs.YteddcihodfkliabGreatDoor
open Go.RowKit
namespace WNestX
theorem take_here {Is : List Pl.It} {x : Pl.It} (hx : Is[0]? = some x) : Pl.rowO (Is.map Pl.It.r) = Pl.itemO (x.m, x.t.L) :: Pl.rowO ((Is.drop 1).map Pl.It.r) := by
  have h := Pl.rowO_at (xs := Is.map Pl.It.r) (i := 0) (x := x.r) (by rw [List.getElem?_map, hx]; rfl)
  rw [List.drop_zero, Pl.rowO_drop, ← List.map_drop] at h
  exact h
theorem items_here {Is : List Pl.It} {x : Pl.It} (hx : Is[0]? = some x) : Is.map Pl.It.r = (x.m, x.t.L) :: (Is.drop 1).map Pl.It.r := by
  cases Is with
  | nil => cases hx
  | cons y Is =>
    have e : y = x := by simpa using hx
    subst e
    rfl
theorem item_tree {m : Int} {L : List Pl.Nd} (h : Pl.itemB m L = true) : Pl.treeB L = true ∧ (m = 0 ∨ L = []) := by
  unfold Pl.itemB at h
  simp only [Bool.and_eq_true, Bool.or_eq_true, decide_eq_true_eq, List.isEmpty_iff] at h
  exact ⟨h.2, h.1.2⟩
/-- What takeNest answers. -/
def Took (w : World) (r1 : TypeId) (x1 : Value) (a : Option Addr) (Is : List Pl.It) (TT : Option (Pl.Fo × Pl.Row)) (e : Ending) (w' : World) : Prop :=
  (∃ L kids q v k a' cap', TT = some (.cons kids.shape .nil, Pl.rowO ((Is.drop k).map Pl.It.r)) ∧ e = .returned (.tuple #[.agg #[.map (some q), .int .i64 (kids.len : Int), v], .slice a' (Is.drop k).length cap', .nilIface]) ∧
    0 < k ∧ k ≤ Is.length ∧ (Is.drop k).length ≤ cap' ∧ Mem.shifted a a' k Is ∧ (w.heap.size ≤ q ∧ Mem.ownM w' q L) ∧ ((Pl.Fx.cons L kids .nil).okX ∧ (Pl.Fx.cons L kids .nil).flat ++ (Is.drop k).map Pl.It.r = Is.map Pl.It.r) ∧ Mem.layX w' (fun b => w.heap.size ≤ b) kids v) ∨
  (TT = none ∧ e = .returned (.tuple #[.agg #[.map none, .int .i64 0, .slice none 0 0], .slice none 0 0, .iface r1 x1]))
set_option linter.unusedSimpArgs false in
set_option maxRecDepth 100000 in
set_option maxHeartbeats 2000000 in
theorem take_any (r1 r2 r3 : TypeId) (x1 x2 x3 : Value) (n : Nat) :
    ∀ (Is : List Pl.It) (a : Option Addr) (cap : Nat) (w : World), Is.length ≤ n → Is.length ≤ 12 → Is.length ≤ cap → Mem.isItems w a Is → (∀ x ∈ Is, x.t.L.length ≤ 1048576 ∧ ∀ n ∈ x.t.L, n.path.size ≤ 1048576 ∧ n.data.size ≤ 1048576) → WNodesI.Errs w r1 r2 r3 x1 x2 x3 →
    Calls Tryz.prog 51 #[.slice a Is.length cap] w fun e w' => Took w r1 x1 a Is (Pl.take 1 (Pl.rowO (Is.map Pl.It.r))) e w' ∧ Below w.heap.size w w' := by
  obtain ⟨i0, hi, hz0, hz1, hz2⟩ := info_parts infoN
  induction n with
  | zero =>
    intro Is a cap w hn h12 hcap hv hok hE
    have e : Is = [] := List.eq_nil_of_length_eq_zero (by omega)
    subst e
    have b0 : Below w.heap.size w (w.alloc (.cells #[.map none, .int .i64 0, .slice none 0 0] 68)) := (Below.refl _ _).alloc (Nat.le_refl _) _
    have k1 := (hE.call b0).c1
    have HB0 := hide b0
    clear hv hok hE b0
    go_enter Tryz.func51, Tryz.ntmps51
    go_wp2
    go_region
    go_wp2
    refine bodyPost_ret (v := .tuple #[.agg #[.map none, .int .i64 0, .slice none 0 0], .slice none 0 0, .iface r1 x1]) (by simp [results, Tryz.results51, go_sem]) rfl ⟨Or.inr ⟨rfl, rfl⟩, ?_⟩
    exact Mem.below_drewN (unhide HB0) 1
  | succ n ih =>
    intro Is a cap w hn h12 hcap hv hok hE
    have b0 : Below w.heap.size w (w.alloc (.cells #[.map none, .int .i64 0, .slice none 0 0] 68)) := (Below.refl _ _).alloc (Nat.le_refl _) _
    have A0 := Mem.Blk.new w #[.map none, .int .i64 0, .slice none 0 0] 68
    have hs0 : (w.alloc (.cells #[.map none, .int .i64 0, .slice none 0 0] 68)).heap.size = w.heap.size + 1 := by simp
    by_cases hnil : Is.length = 0
    · have e : Is = [] := List.eq_nil_of_length_eq_zero hnil
      subst e
      have k1 := (hE.call b0).c1
      have HB0 := hide b0
      clear hv hok hE b0 A0 ih
      go_enter Tryz.func51, Tryz.ntmps51
      go_wp2
      go_region
      go_wp2
      refine bodyPost_ret (v := .tuple #[.agg #[.map none, .int .i64 0, .slice none 0 0], .slice none 0 0, .iface r1 x1]) (by simp [results, Tryz.results51, go_sem]) rfl ⟨Or.inr ⟨rfl, rfl⟩, ?_⟩
      exact Mem.below_drewN (unhide HB0) 1
    have t0 : ¬ (Is.length : Int) = 0 := by omega
    have t1 : (0 : Int) < (Is.length : Int) := by omega
    have t2 : (1 : Int) ≤ (Is.length : Int) := by omega
    obtain ⟨x, hx⟩ : ∃ x, Is[0]? = some x := ⟨_, List.getElem?_eq_getElem (by omega)⟩
    obtain ⟨⟨b, o, rfl, hb, q0, q0'⟩, q1⟩ := hv 0 x hx
    have c0 := (b0.cell (p := ⟨b, _, none⟩) hb).trans q0
    have c1 := (b0.cell (p := ⟨b, _, none⟩) hb).trans q0'
    simp only [Pl.Tr.val, Nat.zero_mul, Nat.add_zero] at c0 c1
    have hz := hide (item_any x.m x.t.a x.t.cap x.t.L _ (hok x (List.mem_of_getElem? hx)).1 (Mem.nodes_call q1 b0) (hok x (List.mem_of_getElem? hx)).2 r1 r2 r3 x1 x2 x3 (hE.call b0))
    have hrow := take_here hx
    have HIS : Hid (Is.map Pl.It.r = (x.m, x.t.L) :: (Is.drop 1).map Pl.It.r) := hide (items_here hx)
    have HI : Hid (∀ (k r : Nat) (a' : Option Addr) (cap' : Nat) (W : World), 0 < k → k + r = Is.length → r ≤ cap' → Mem.shifted (some ⟨b, o, none⟩) a' k Is → Below w.heap.size w W →
        Calls Tryz.prog 51 #[.slice a' r cap'] W fun e w' => ((∃ L kids q v k1 r1 a1 cap1, Pl.take 1 (Pl.rowO ((Is.drop k).map Pl.It.r)) = some (.cons kids.shape .nil, Pl.rowO ((Is.drop (k + k1)).map Pl.It.r)) ∧ e = .returned (.tuple #[.agg #[.map (some q), .int .i64 (kids.len : Int), v], .slice a1 r1 cap1, .nilIface]) ∧
          k + k1 + r1 = Is.length ∧ r1 ≤ cap1 ∧ Mem.shifted (some ⟨b, o, none⟩) a1 (k + k1) Is ∧ (W.heap.size ≤ q ∧ Mem.ownM w' q L) ∧ ((Pl.Fx.cons L kids .nil).okX ∧ (Pl.Fx.cons L kids .nil).flat ++ (Is.drop (k + k1)).map Pl.It.r = (Is.drop k).map Pl.It.r) ∧ Mem.layX w' (fun b => W.heap.size ≤ b) kids v) ∨
        (Pl.take 1 (Pl.rowO ((Is.drop k).map Pl.It.r)) = none ∧ e = .returned (.tuple #[.agg #[.map none, .int .i64 0, .slice none 0 0], .slice none 0 0, .iface r1 x1]))) ∧ Below W.heap.size W w') := hide (fun k r a' cap' W hk hr hc hs bb => by
      have hrl : (Is.drop k).length = r := by rw [List.length_drop]; omega
      have h := ih (Is.drop k) a' cap' W (by omega) (by omega) (by omega) (Mem.items_call (Mem.items_shift hv hs) bb) (fun y hy => hok y (List.mem_of_mem_drop hy)) (hE.call bb)
      rw [hrl] at h
      refine h.mono fun e w' ⟨h1, h2⟩ => ⟨?_, h2⟩
      rcases h1 with ⟨L, kids, q, v, k1, a1, cap1, g1, g2, g3, g4, g5, g6, g8, g9, g7⟩ | h1
      · rw [List.drop_drop] at g1 g2 g5 g9
        exact .inl ⟨L, kids, q, v, k1, (Is.drop (k + k1)).length, a1, cap1, g1, g2, by rw [List.length_drop]; omega, g5, Mem.shifted_trans hs g6, g8, g9, g7⟩
      · exact .inr h1)
    rw [hrow]
    generalize hTT : Pl.take 1 (Pl.itemO (x.m, x.t.L) :: Pl.rowO ((Is.drop 1).map Pl.It.r)) = TT
    have HTT := hide hTT
    clear hTT
    clear ih hv hok hE q0 q0' q1 hx hrow
    go_enter Tryz.func51, Tryz.ntmps51
    go_wp2_with fail
    generalize w.alloc (.cells #[.map none, .int .i64 0, .slice none 0 0] 68) = w2 at hz A0 b0 hs0 c0 c1 ⊢
    refine (unhide hz).mono ?_
    rintro e w1 ⟨h1, b1⟩
    have bw1 := b0.trans (b1.mono b0.size)
    have A1 := A0.call b1
    have hs1 := b1.size
    clear hz c0 c1 b1 A0 b0
    rcases h1 with ⟨hT, B, rfl, hBw, hBm⟩ | ⟨hT, k, rfl⟩
    · obtain ⟨hm0, hm4⟩ := Pl.itemB_range hT
      have HTB := hide (item_tree hT)
      rw [Pl.itemO_yes hT, Pl.take_one] at HTT
      obtain ⟨mm, hmm⟩ : ∃ mm : Nat, x.m = (mm : Int) := ⟨x.m.toNat, by omega⟩
      rw [hmm, Int.toNat_natCast] at HTT
      rw [hmm] at HIS HTB ⊢
      have hm5 : mm ≤ 4 := by omega
      have hBl := hBm.lt
      clear hT hmm hm0 hm4
      have bA : Below w.heap.size w ((w1.alloc (.cells #[.map (some B), .int .i64 (mm : Int)] 65)).alloc (.cells #[.map (some B), .int .i64 (mm : Int), .slice none 0 0] 68)) := (bw1.alloc bw1.size _).alloc (by simp; have := bw1.size; omega) _
      have TK0 : Hid (Tk w ((w1.alloc (.cells #[.map (some B), .int .i64 (mm : Int)] 65)).alloc (.cells #[.map (some B), .int .i64 (mm : Int), .slice none 0 0] 68)) (w1.heap.size + 1 + 1) w.heap.size (w1.heap.size + 1) B x.t.L (mm : Int) (.slice none 0 0) .nil []) :=
        hide ⟨bA, by simp, (A1.alloc _).alloc _, by have := Mem.Blk.new (w1.alloc (.cells #[.map (some B), .int .i64 (mm : Int)] 65)) #[.map (some B), .int .i64 (mm : Int), .slice none 0 0] 68; simpa using this, ⟨Nat.le_refl _, by omega⟩, ⟨by omega, by omega⟩, by omega, World.ownsRow_nil _ _ _ _, rfl, ⟨by omega, by omega, by omega, by omega⟩, (hBm.call ((Below.refl _ _).alloc (Nat.le_refl _) _)).call ((Below.refl _ _).alloc (Nat.le_refl _) _)⟩
      generalize hT0 : Pl.take mm (Pl.rowO ((Is.drop 1).map Pl.It.r)) = T0 at HTT
      have HT0 : Hid (Pl.went Pl.Fx.nil.shape (Pl.take (mm - Pl.Fx.nil.len) (Pl.rowO ((Is.drop 1).map Pl.It.r))) = T0) := hide (by show Pl.went .nil (Pl.take (mm - Pl.Fo.nil.len) _) = _; rw [Pl.went_start]; exact hT0)
      have HF0 : Hid (Pl.Fx.nil.okX ∧ Pl.Fx.nil.flat ++ (Is.drop 1).map Pl.It.r = (Is.drop 1).map Pl.It.r) := ⟨trivial, rfl⟩
      have S0 : Hid (cap = 1 → Mem.shifted (some ⟨b, o, none⟩) (some ⟨b, o, none⟩) 1 Is) := hide (fun hc => .inl (List.drop_eq_nil_of_le (by omega)))
      have S1 : Hid (Mem.shifted (some ⟨b, o, none⟩) (some ⟨b, o + 2, none⟩) 1 Is) := hide (.inr ⟨b, o, rfl, rfl⟩)
      clear hT0 A1 bw1 bA
      go_wp2
      all_goals
        go_loopw [8, 34] (fun rest i wr => ∃ (k : Nat) (a' : Option Addr) (cap' : Nat) (v : Value) (F : Pl.Fx) (xs : List Value) (r : Nat), rest = .slice a' r cap' ∧ i = .int .i64 (F.len : Int) ∧ F.len ≤ mm ∧ 0 < k ∧ k + r = Is.length ∧ r ≤ cap' ∧ Hid (Mem.shifted (some ⟨b, o, none⟩) a' k Is) ∧ Hid (Tk w wr (w1.heap.size + 1 + 1) w.heap.size (w1.heap.size + 1) B x.t.L (mm : Int) v F xs) ∧ Hid (F.okX ∧ F.flat ++ (Is.drop k).map Pl.It.r = (Is.drop 1).map Pl.It.r) ∧ Hid (Pl.went F.shape (Pl.take (mm - F.len) (Pl.rowO ((Is.drop k).map Pl.It.r))) = T0)) (fun _ i _ => mm - (intOf i).toNat)
        case atStart =>
          refine ⟨1, _, _, _, .nil, [], _, rfl, rfl, Nat.zero_le _, by omega, by omega, by omega, ?_, TK0, HF0, HT0⟩
          first | exact S1 | exact hide (unhide S0 (by omega))
        case round =>
          obtain ⟨k, a', cap', v, F, xs, r, rfl, rfl, hFm, hk, hkl, hc, HS, TK, HF, HT⟩ := hrel
          clear TK0 HT0 HF0 S0 S1
          by_cases hlt : F.len < mm
          · have u1 : (F.len : Int) < (mm : Int) := by omega
            have hcall := hide (unhide HI k r a' cap' wr hk hkl hc (unhide HS) (unhide TK).bel)
            go_wp2_with fail
            refine (unhide hcall).mono ?_
            rintro e wX ⟨h1, bX⟩
            clear hcall
            rcases h1 with ⟨L1, kids, q1, v1, k1, s1, a1, cap1, ht, rfl, hk1', hc1, hs1', ⟨hq1, hm1⟩, hfl, hlay⟩ | ⟨ht, rfl⟩
            · obtain ⟨va, vcap, rfl, hrest⟩ := hlay
              have HST := hide (fun (w4 : World) (v' : Value) own gr far => (unhide TK).step (w1 := wX) (w4 := w4) (kids := kids) (v1 := .slice va kids.len vcap) (q1 := q1) (L1 := L1) (v' := v') (o1 := .cells #[.map (some q1), .int .i64 (kids.len : Int), .slice va kids.len vcap] 68) (o2 := .cells #[.map (some q1), .int .i64 (kids.len : Int), .slice va kids.len vcap] 68) bX ⟨va, vcap, rfl, hrest⟩ hq1 hm1 own gr far)
              have HMD := hide (fun (w4 : World) gr => (unhide TK).mid (w1 := wX) (w4 := w4) (o1 := .cells #[.map (some q1), .int .i64 (kids.len : Int), .slice va kids.len vcap] 68) (o2 := .cells #[.map (some q1), .int .i64 (kids.len : Int), .slice va kids.len vcap] 68) bX gr)
              have HR := hide (((row_call (unhide TK).row bX).alloc (.cells #[.map (some q1), .int .i64 (kids.len : Int), .slice va kids.len vcap] 68)).alloc (.cells #[.map (some q1), .int .i64 (kids.len : Int), .slice va kids.len vcap] 68))
              have X7a := ((unhide TK).x7.call bX).alloc (.cells #[.map (some q1), .int .i64 (kids.len : Int), .slice va kids.len vcap] 68)
              have c72 := X7a.cell 2
              simp only [List.getElem?_toArray, List.getElem?_cons_zero, List.getElem?_cons_succ] at c72
              have hbig : w1.heap.size + 1 + 1 ≤ wX.heap.size := Nat.le_trans (unhide TK).big bX.size
              have HS2 : Hid (Mem.shifted (some ⟨b, o, none⟩) a1 (k + k1) Is) := hide hs1'
              obtain ⟨j, hj⟩ : ∃ j, mm - F.len = j + 1 := ⟨mm - F.len - 1, by omega⟩
              have HT2 : Hid (Pl.went (F.app (.cons L1 kids .nil)).shape (Pl.take (mm - (F.app (.cons L1 kids .nil)).len) (Pl.rowO ((Is.drop (k + k1)).map Pl.It.r))) = T0) := hide (by
                have h' := unhide HT
                rw [hj, Pl.went_step ht] at h'
                rw [Pl.Fx.len_app, Pl.Fx.shape_app, ← h']
                congr 2
                simp only [Pl.Fx.len]
                omega)
              have HF2 : Hid ((F.app (.cons L1 kids .nil)).okX ∧ (F.app (.cons L1 kids .nil)).flat ++ (Is.drop (k + k1)).map Pl.It.r = (Is.drop 1).map Pl.It.r) := hide ⟨Pl.Fx.ok_app (unhide HF).1 hfl.1, by rw [Pl.Fx.flat_app, List.append_assoc, hfl.2]; exact (unhide HF).2⟩
              have hlen : (F.app (.cons L1 kids .nil)).len = F.len + 1 := by rw [Pl.Fx.len_app]; rfl
              have HLEN := hide hlen
              clear TK HS HT HF hfl hq1 hm1 ht bX hs1' hrest X7a hlen
              go_wp2_with (at_builtin; refine Mem.wpList_append_far _ rfl _ _ 66 rfl (w1.heap.size + 1 + 1) 68 i0 (.agg #[.map none, .int .i64 0, .slice none 0 0]) 3 40 Tryz.underlying66 hi hz0 hz1 hz2 rfl (by decide) _ _ _ rfl (unhide HR) ⟨wX.heap.size + 1, 0, none⟩ 1 1 [.map (some q1), .int .i64 (kids.len : Int), .slice va kids.len vcap] rfl rfl (three_new _ _ _ _) (fun u hu => by simp at hu; rcases hu with rfl | rfl | rfl <;> rfl) (by unfold maxLen; omega) (by omega) (by simp; omega) ?_)
              intro v' w4 own' hgrow hfar
              have M7 := unhide HMD w4 hgrow
              have c74 := M7.cell 2
              have f74 := M7.fr 2
              simp only [List.getElem?_toArray, List.getElem?_cons_zero, List.getElem?_cons_succ] at c74
              have TK2 := hide (unhide HST w4 v' own' hgrow (by simpa using hfar))
              obtain ⟨vb, vc, rfl⟩ := conc own'
              clear own' hgrow hfar M7 HMD HST HR c72
              go_wp2
              go_roundw
              case rel => exact ⟨k + k1, a1, cap1, _, _, _, s1, rfl, by rw [unhide HLEN]; go_num, by rw [unhide HLEN]; omega, by omega, hk1', hc1, HS2, TK2, HF2, HT2⟩
              case measure => simp [intOf]; omega
            · obtain ⟨j, hj⟩ : ∃ j, mm - F.len = j + 1 := ⟨mm - F.len - 1, by omega⟩
              have hno : TT = none := by
                have h' := unhide HT
                rw [hj, Pl.went_fail ht] at h'
                rw [← unhide HTT, ← h']; rfl
              have X2a := ((unhide TK).x2.call bX).alloc (.cells #[.map none, .int .i64 0, .slice none 0 0] 68)
              have c20 := X2a.cell 0
              have c21 := X2a.cell 1
              have c22 := X2a.cell 2
              have f20 := X2a.fr 0
              have f21 := X2a.fr 1
              have f22 := X2a.fr 2
              simp only [List.getElem?_toArray, List.getElem?_cons_zero, List.getElem?_cons_succ] at c20 c21 c22
              have bb : Hid (Below w.heap.size w (wX.alloc (.cells #[.map none, .int .i64 0, .slice none 0 0] 68))) := hide (by
                have b' := (unhide TK).bel.trans (bX.mono (unhide TK).bel.size)
                exact b'.alloc b'.size _)
              clear TK HS HT ht bX X2a
              go_wp2
              refine bodyPost_ret (v := .tuple #[.agg #[.map none, .int .i64 0, .slice none 0 0], .slice none 0 0, .iface r1 x1]) (by simp [results, Tryz.results51, go_sem, c20, c21, c22]) rfl ⟨Or.inr ⟨hno, rfl⟩, ?_⟩
              first | exact unhide bb | exact (((unhide bb).setCell (Nat.le_refl _) _).setCell (Nat.le_refl _) _).setCell (Nat.le_refl _) _
          · have u1 : ¬ (F.len : Int) < (mm : Int) := by omega
            have hyes : Hid (TT = some (.cons F.shape .nil, Pl.rowO ((Is.drop k).map Pl.It.r))) := hide <| by
              have h' := unhide HT
              rw [show mm - F.len = 0 by omega, Pl.went_end] at h'
              rw [← unhide HTT, ← h']; rfl
            have hFe : F.len = mm := by omega
            have HFI : Hid ((Pl.Fx.cons x.t.L F .nil).okX ∧ (Pl.Fx.cons x.t.L F .nil).flat ++ (Is.drop k).map Pl.It.r = Is.map Pl.It.r) := hide ⟨⟨(unhide HTB).1, (unhide HTB).2.imp (fun h => Pl.Fx.len_zero (by omega)) id, by omega, (unhide HF).1, trivial⟩, by rw [unhide HIS, ← (unhide HF).2, Pl.Fx.flat, hFe]; simp [Pl.Fx.flat]⟩
            have HQ := hide (unhide TK).lq.1
            have HFE := hide hFe
            clear hFe
            obtain ⟨va, vcap, rfl⟩ := (unhide TK).conc
            have X2a := (unhide TK).x2
            have X7a := (unhide TK).x7
            have c20 := X2a.cell 0
            have c21 := X2a.cell 1
            have c22 := X2a.cell 2
            have f20 := X2a.fr 0
            have f21 := X2a.fr 1
            have f22 := X2a.fr 2
            have c70 := X7a.cell 0
            have c71 := X7a.cell 1
            have c72 := X7a.cell 2
            simp only [List.getElem?_toArray, List.getElem?_cons_zero, List.getElem?_cons_succ] at c20 c21 c22 c70 c71 c72
            clear X2a X7a HT
            go_wp2
            have hrl : (Is.drop k).length = r := by rw [List.length_drop]; omega
            refine bodyPost_ret (v := .tuple #[.agg #[.map (some B), .int .i64 (mm : Int), .slice va F.len vcap], .slice a' r cap', .nilIface]) (by simp [results, Tryz.results51, go_sem, c20, c21, c22]) rfl ⟨Or.inl ⟨_, F, B, _, k, a', cap', unhide hyes, by rw [hrl, unhide HFE], hk, by omega, by rw [hrl]; exact hc, unhide HS, ⟨unhide HQ, (unhide TK).own _ _ _⟩, unhide HFI, (unhide TK).done _ _ _⟩, ?_⟩
            exact (((unhide TK).bel.setCell (Nat.le_refl _) _).setCell (Nat.le_refl _) _).setCell (Nat.le_refl _) _
    · rw [Pl.itemO_no hT] at HTT
      have hno : TT = none := (unhide HTT).symm
      have A2 := A1.alloc (.cells #[.map none, .int .i64 k] 65)
      have c20 := A2.cell 0
      have c21 := A2.cell 1
      have c22 := A2.cell 2
      have f20 := A2.fr 0
      have f21 := A2.fr 1
      have f22 := A2.fr 2
      simp only [List.getElem?_toArray, List.getElem?_cons_zero, List.getElem?_cons_succ] at c20 c21 c22
      have bb := hide (bw1.alloc bw1.size (.cells #[.map none, .int .i64 k] 65))
      clear A1 A2 hT HI bw1
      go_wp2
      refine bodyPost_ret (v := .tuple #[.agg #[.map none, .int .i64 0, .slice none 0 0], .slice none 0 0, .iface r1 x1]) (by simp [results, Tryz.results51, go_sem, c20, c21, c22]) rfl ⟨Or.inr ⟨hno, rfl⟩, ?_⟩
      first | exact unhide bb | exact (((unhide bb).setCell (Nat.le_refl _) _).setCell (Nat.le_refl _) _).setCell (Nat.le_refl _) _
end WNestX
end Go.Proofs.YteddcihodfkliabGreatDoor

