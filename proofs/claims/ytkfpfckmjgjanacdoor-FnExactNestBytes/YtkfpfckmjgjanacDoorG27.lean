/- Several texts of one claim in one file: WItemI, MemApp2. -/
import Derived.Test.YtkfpfckmjgjanacDoorG16
import Derived.Test.YtkfpfckmjgjanacDoorG24
import Derived.Test.YtkfpfckmjgjanacDoorG06
/- The walk of the program's treeItemOf. -/
namespace Go.Proofs.YtkfpfckmjgjanacDoor
open Go.RowKit
namespace WNestI
set_option linter.unusedSimpArgs false in
set_option maxRecDepth 100000 in
set_option maxHeartbeats 1000000 in
theorem item_any (m : Int) (a : Option Addr) (cap : Nat) (L : List Pl.Nd) (w : World) (hl : L.length ≤ 1048576) (hv : Mem.isNodes w a L) (hok : ∀ n ∈ L, n.path.size ≤ 1048576 ∧ n.data.size ≤ 1048576)
    (r1 r2 r3 : TypeId) (x1 x2 x3 : Value) (hE : WNodesI.Errs w r1 r2 r3 x1 x2 x3) :
    Calls Tryd.prog 42 #[.agg #[.int .i64 m, .slice a L.length cap]] w fun e w' => ((Pl.itemB m L = true ∧ ∃ B, e = .returned (.tuple #[.agg #[.map (some B), .int .i64 m], .nilIface])) ∨
      (Pl.itemB m L = false ∧ ∃ k, e = .returned (.tuple #[.agg #[.map none, .int .i64 k], .iface r1 x1]))) ∧ Below w.heap.size w w' := by
  have b0 : Below w.heap.size w ((w.alloc (.cells #[.int .i64 m, .slice a L.length cap] 40)).alloc (.cells #[.map none, .int .i64 0] 54)) := ((Below.refl _ _).alloc (Nat.le_refl _) _).alloc (by simp) _
  have k1 := (hE.call b0).c1
  have HB0 := hide b0
  by_cases h1 : m < 0
  · have hb : Pl.itemB m L = false := by unfold Pl.itemB; rw [show decide (0 ≤ m) = false from decide_eq_false (by omega)]; simp
    clear b0 hv hok hE
    go_enter Tryd.func42, Tryd.ntmps42
    go_wp2
    go_region
    go_wp2
    refine bodyPost_ret (v := .tuple #[.agg #[.map none, .int .i64 0], .iface r1 x1]) (by simp [results, Tryd.results42, go_sem]) rfl ⟨.inr ⟨hb, 0, rfl⟩, ?_⟩
    exact Mem.below_drewN (unhide HB0) 1
  by_cases h2 : 4 < m
  · have hb : Pl.itemB m L = false := by unfold Pl.itemB; rw [show decide (m ≤ 4) = false from decide_eq_false (by omega)]; simp
    clear b0 hv hok hE
    go_enter Tryd.func42, Tryd.ntmps42
    go_wp2
    go_region
    go_wp2
    refine bodyPost_ret (v := .tuple #[.agg #[.map none, .int .i64 0], .iface r1 x1]) (by simp [results, Tryd.results42, go_sem]) rfl ⟨.inr ⟨hb, 0, rfl⟩, ?_⟩
    exact Mem.below_drewN (unhide HB0) 1
  by_cases h3 : 0 < m ∧ 0 < L.length
  · have hb : Pl.itemB m L = false := by
      rw [Pl.itemB_more (by omega), show decide (L.length = 0) = false from decide_eq_false (by omega)]; simp
    have u1 := h3.1
    have u2 : (0 : Int) < (L.length : Int) := by omega
    clear b0 hv hok hE
    go_enter Tryd.func42, Tryd.ntmps42
    go_wp2
    go_region
    go_wp2
    refine bodyPost_ret (v := .tuple #[.agg #[.map none, .int .i64 0], .iface r1 x1]) (by simp [results, Tryd.results42, go_sem]) rfl ⟨.inr ⟨hb, 0, rfl⟩, ?_⟩
    exact Mem.below_drewN (unhide HB0) 1
  have hb : Pl.itemB m L = Pl.treeB L := by
    by_cases h0 : m = 0
    · subst h0; exact Pl.itemB_zero L
    · have hL : L = [] := List.eq_nil_of_length_eq_zero (by omega)
      subst hL
      rw [Pl.itemB_more h0, Pl.treeB_nil, decide_eq_true (show 1 ≤ m by omega), decide_eq_true (show m ≤ 4 by omega)]; rfl
  rw [hb]
  have hz := hide (WNodesI.nodes_any a cap L _ hl (Mem.nodes_call hv b0) hok r1 r2 r3 x1 x2 x3 (hE.call b0))
  have r2' : Mem.Blk ((w.alloc (.cells #[.int .i64 m, .slice a L.length cap] 40)).alloc (.cells #[.map none, .int .i64 0] 54)) (w.heap.size + 1) #[.map none, .int .i64 0] 54 := by
    have := Mem.Blk.new (w.alloc (.cells #[.int .i64 m, .slice a L.length cap] 40)) #[.map none, .int .i64 0] 54
    simpa using this
  have r1' : Mem.Blk ((w.alloc (.cells #[.int .i64 m, .slice a L.length cap] 40)).alloc (.cells #[.map none, .int .i64 0] 54)) w.heap.size #[.int .i64 m, .slice a L.length cap] 40 := (Mem.Blk.new w _ _).alloc _
  clear hv hok hE k1 b0 hb
  by_cases h4 : 0 < m
  · have u2 : ¬ (0 : Int) < (L.length : Int) := by omega
    go_enter Tryd.func42, Tryd.ntmps42
    go_wp2_with fail
    generalize ((w.alloc (.cells #[.int .i64 m, .slice a L.length cap] 40)).alloc (.cells #[.map none, .int .i64 0] 54)) = w2 at hz r1' r2' HB0 ⊢
    refine (unhide hz).mono ?_
    rintro e w1 ⟨h1, b1⟩
    have R1 := r1'.call b1
    have R2 := r2'.call b1
    have c10 := R1.cell 0
    have c11 := R1.cell 1
    have c20 := R2.cell 0
    have c21 := R2.cell 1
    have f20 := R2.fr 0
    have f21 := R2.fr 1
    simp only [kA0, kA1, kA2] at c10 c11 c20 c21
    have bb := hide ((unhide HB0).trans (b1.mono (unhide HB0).size))
    clear hz b1 r1' r2' R1 R2 HB0
    rcases h1 with ⟨hT, B, rfl, -, -⟩ | ⟨hT, rfl⟩
    · go_wp2
      refine bodyPost_ret (v := .tuple #[.agg #[.map (some B), .int .i64 m], .nilIface]) (by simp [results, Tryd.results42, go_sem, c20, c21]) rfl ⟨.inl ⟨hT, B, rfl⟩, ?_⟩
      exact ((unhide bb).setCell (by show w.heap.size ≤ w.heap.size + 1; omega) _).setCell (by show w.heap.size ≤ w.heap.size + 1; omega) _
    · go_wp2
      refine bodyPost_ret (v := .tuple #[.agg #[.map none, .int .i64 m], .iface r1 x1]) (by simp [results, Tryd.results42, go_sem, c20, c21]) rfl ⟨.inr ⟨hT, m, rfl⟩, ?_⟩
      exact ((unhide bb).setCell (by show w.heap.size ≤ w.heap.size + 1; omega) _).setCell (by show w.heap.size ≤ w.heap.size + 1; omega) _
  · go_enter Tryd.func42, Tryd.ntmps42
    go_wp2_with fail
    generalize ((w.alloc (.cells #[.int .i64 m, .slice a L.length cap] 40)).alloc (.cells #[.map none, .int .i64 0] 54)) = w2 at hz r1' r2' HB0 ⊢
    refine (unhide hz).mono ?_
    rintro e w1 ⟨h1, b1⟩
    have R1 := r1'.call b1
    have R2 := r2'.call b1
    have c10 := R1.cell 0
    have c11 := R1.cell 1
    have c20 := R2.cell 0
    have c21 := R2.cell 1
    have f20 := R2.fr 0
    have f21 := R2.fr 1
    simp only [kA0, kA1, kA2] at c10 c11 c20 c21
    have bb := hide ((unhide HB0).trans (b1.mono (unhide HB0).size))
    clear hz b1 r1' r2' R1 R2 HB0
    rcases h1 with ⟨hT, B, rfl, -, -⟩ | ⟨hT, rfl⟩
    · go_wp2
      refine bodyPost_ret (v := .tuple #[.agg #[.map (some B), .int .i64 m], .nilIface]) (by simp [results, Tryd.results42, go_sem, c20, c21]) rfl ⟨.inl ⟨hT, B, rfl⟩, ?_⟩
      exact ((unhide bb).setCell (by show w.heap.size ≤ w.heap.size + 1; omega) _).setCell (by show w.heap.size ≤ w.heap.size + 1; omega) _
    · go_wp2
      refine bodyPost_ret (v := .tuple #[.agg #[.map none, .int .i64 m], .iface r1 x1]) (by simp [results, Tryd.results42, go_sem, c20, c21]) rfl ⟨.inr ⟨hT, m, rfl⟩, ?_⟩
      exact ((unhide bb).setCell (by show w.heap.size ≤ w.heap.size + 1; omega) _).setCell (by show w.heap.size ≤ w.heap.size + 1; omega) _
end WNestI
end Go.Proofs.YtkfpfckmjgjanacDoor

/- An append to a row of the call's own: it stays in its block, or lies in a new one. -/
namespace Go.Proofs.YtkfpfckmjgjanacDoor
open Go.RowKit
namespace Mem
theorem run_append_far {P : Program} (w : World) (base : Nat) (t ty e : TypeId) (i : TypeInfo) (z : Value) (size bytes : Nat) (ht : P.underlying t = some (.slice e)) (hi : P.info? e = some i) (hz : i.zero = some z)
    (hsize : i.size = size) (hby : i.bytes = bytes) (hzs : z.cells.size = size) (hsz : 0 < size)
    (v : Value) (n : Nat) (xs : List Value) (hown : w.ownsRow base e size v n xs)
    (a : Addr) (m c : Nat) (news : List Value) (hl : news.length = m * size) (hnews : ∀ j u, news[j]? = some u → w.cell? (a.add j) = some u) (h1 : ∀ u ∈ news, u.oneCell' = true)
    (h63 : n + m ≤ maxLen) (hbytes : (n + m) * bytes ≤ 140737488355328) (hbase : base ≤ w.heap.size) :
    ∃ v' w', (Builtin.append_ #[t, t] ty #[v, .slice (some a) m c]).run P w = .ok v' w' ∧ w'.ownsRow base e size v' (n + m) (xs ++ news) ∧ w.grownBy w' v.ownBlock ∧ ∀ g, v'.ownBlock = some g → v.ownBlock = some g ∨ w.heap.size ≤ g := by
  obtain ⟨v', w', hr, h2, h3, -⟩ := run_append_own (P := P) w base t ty e i z size bytes ht hi hz hsize hby hzs hsz v n xs hown a m c news hl hnews h1 h63 hbytes hbase
  refine ⟨v', w', hr, h2, h3, ?_⟩
  rcases hown.2 with ⟨rfl, rfl⟩ | ⟨g, cap, cur, rfl, hbg, hg, hnc, hcm, hcs, htake⟩
  · have hx : xs = [] := List.eq_nil_of_length_eq_zero (by simpa using hown.1)
    subst hx
    obtain ⟨v2, w2, hr2, k2, -, -⟩ := run_append_own (P := P) w w.heap.size t ty e i z size bytes ht hi hz hsize hby hzs hsz _ 0 [] (World.ownsRow_nil w w.heap.size e size) a m c news hl hnews h1 h63 hbytes (Nat.le_refl _)
    rw [hr] at hr2
    cases hr2
    exact fun g hg => .inr (k2.lt g hg).1
  · subst hsize hby
    by_cases hroom : n + m ≤ cap
    · have hfit : n * i.size + news.length ≤ cur.size := by rw [hl, hcs, ← Nat.add_mul]; exact Nat.mul_le_mul_right _ hroom
      rw [run_append_room (P := P) w t ty e i ht hi g n cap cur hg a m c news hl hnews h1 hroom hfit] at hr
      cases hr
      exact fun g hg => .inl hg
    · have holds : ∀ j u, xs[j]? = some u → w.cell? ((⟨g, 0, none⟩ : Addr).add j) = some u := hown.cells (g := g) rfl
      have hsmall : n + m ≤ 9223372036854775807 := by simp only [maxLen] at h63; omega
      rw [run_append_grow (P := P) w t ty e i z ht hi hz ⟨g, 0, none⟩ n cap xs hown.1 holds a m c news hl hnews (by omega) (by omega) (growslice_fits (by omega) hbytes)] at hr
      cases hr
      intro g' hg'
      cases hg'
      exact .inr (Nat.le_refl _)
theorem wpList_append_far {P : Program} (w : World) {ops : Array Oper} {rest : List Oper} {o : Oper} {a : Act} {Q : Exit → Act → World → Prop} (hgd : o.guard = none) (s x : Operand) (t : TypeId)
    (ho : o.op = .call { callee := .builtin .append, args := #[s, x], argTypes := #[t, t] })
    (base : Nat) (e : TypeId) (i : TypeInfo) (z : Value) (size bytes : Nat) (ht : P.underlying t = some (.slice e)) (hi : P.info? e = some i) (hz : i.zero = some z)
    (hsize : i.size = size) (hby : i.bytes = bytes) (hzs : z.cells.size = size) (hsz : 0 < size)
    (v : Value) (n : Nat) (xs : List Value) (hs : a.eval s = v) (hown : w.ownsRow base e size v n xs)
    (ad : Addr) (m c : Nat) (news : List Value) (hx : a.eval x = .slice (some ad) m c) (hl : news.length = m * size) (hnews : ∀ j u, news[j]? = some u → w.cell? (ad.add j) = some u) (h1 : ∀ u ∈ news, u.oneCell' = true)
    (h63 : n + m ≤ maxLen) (hbytes : (n + m) * bytes ≤ 140737488355328) (hbase : base ≤ w.heap.size)
    (h : ∀ v' w', w'.ownsRow base e size v' (n + m) (xs ++ news) → w.grownBy w' v.ownBlock → (∀ g, v'.ownBlock = some g → v.ownBlock = some g ∨ w.heap.size ≤ g) → wpList P ops Q rest (a.put o.dst v') w') : wpList P ops Q (o :: rest) a w :=
  wpList_plain hgd fun _ hK => by
    obtain ⟨v', w', hr, h2, h3, h4⟩ := run_append_far (P := P) w base t o.type e i z size bytes ht hi hz hsize hby hzs hsz v n xs hown ad m c news hl hnews h1 h63 hbytes hbase
    unfold Oper.wp execOp
    simp only [ho, resolve, invoke, builtin, Sem.run_bind, Sem.run_pure, Result.andThen_ok, List.map_toArray, List.map_cons, List.map_nil, hs, hx, hr]
    exact hK _ _ (h v' w' h2 h3 h4)
end Mem
end Go.Proofs.YtkfpfckmjgjanacDoor

