/- Several texts of one claim in one file: WDrawSa, WSeenF, WAt4S. -/
import Derived.Test.YtepmojmelcngeaaGreatDoorG33
import Derived.Test.YtepmojmelcngeaaGreatDoorWDrawSm
import Derived.Test.YtepmojmelcngeaaGreatDoorG37
import Derived.Test.YtepmojmelcngeaaGreatDoorG36
import Derived.Test.YtepmojmelcngeaaGreatDoorG15
import Derived.Test.YtepmojmelcngeaaGreatDoorG04
import Derived.Test.YtepmojmelcngeaaGreatDoorG45
import Derived.Deep.Cut
/- The walk of the draw DrawSeenAt: layers and a path (by genDA.py). -/
namespace Go.Proofs.YtepmojmelcngeaaGreatDoor
open Go.RowKit
namespace WSrc
/-- What the draw of layers and a path keeps. -/
structure Dl (w W : World) (S X : Nat) (a : Option Addr) (len cap : Nat) (va : Option Addr) (vc : Nat) (Ts : List Pl.Tr) (u : Value) : Prop where
  lo : w.heap.size < S
  hi : S < X
  bel : Below w.heap.size w W
  src : Src W S a len cap
  two : Mem.Blk W w.heap.size #[u] 60
  one : Mem.Blk W X #[.slice va Ts.length vc] 60
  lv : LayV W (S + 1) va Ts
  row : RowB w w.heap.size a len cap
section
variable {w W W' : World} {S X len cap vc : Nat} {a va : Option Addr} {Ts : List Pl.Tr} {u : Value}
theorem Dl.call (h : Dl w W S X a len cap va vc Ts u) (s : Src W' S a len cap) (g : W.grownBy W' (some S)) : Dl w W' S X a len cap va vc Ts u :=
  have l := h.lo
  have l2 := h.hi
  ⟨l, l2, h.bel.grown g h.bel.size (fun q hq => by cases hq; omega), s, h.two.grown g (by simp; omega), h.one.grown g (by simp; omega), h.lv.grown g (fun q hq => by cases hq; omega), h.row⟩
theorem Dl.drew (h : Dl w W S X a len cap va vc Ts u) : Dl w W.drew S X a len cap va vc Ts u :=
  ⟨h.lo, h.hi, ⟨h.bel.os, h.bel.tape, h.bel.output, h.bel.size, h.bel.block⟩, h.src, h.two, h.one, ⟨h.lv.row, h.lv.each⟩, h.row⟩
theorem Dl.put (h : Dl w W S X a len cap va vc Ts u) (u' : Value) : Dl w (W.setCell ⟨w.heap.size, 0, none⟩ u') S X a len cap va vc Ts u' :=
  have l := h.lo
  have l2 := h.hi
  have hb2 : Below w.heap.size w (W.setCell ⟨w.heap.size, 0, none⟩ u') := h.bel.setCell (Nat.le_refl _) _
  ⟨l, l2, hb2, (by
    obtain ⟨hr, p, m, sz, hb, hp, h0, h1⟩ := h.src
    exact ⟨row_up h.row hb2 (by omega), p, m, sz, (Below.heap_setCell W ⟨w.heap.size, 0, none⟩ u' S (by show S ≠ w.heap.size; omega)).trans hb, hp, h0, h1⟩), h.two.put 0 u', h.one.far _ _ (by show X ≠ w.heap.size; omega), h.lv.set _ _ _ (by omega), h.row⟩
end
set_option linter.unusedSimpArgs false in
set_option maxRecDepth 100000 in
set_option maxHeartbeats 4000000 in
theorem drawSeenAt_any (a : Option Addr) (len cap : Nat) (w : World) (hr : RowB w w.heap.size a len cap) :
    Calls Tryz.prog 28 #[.slice a len cap] w fun e w' => ∃ (va : Option Addr) (vc : Nat) (Ts : List Pl.Tr) (p : ByteArray), Ts.length ≤ 5 ∧ p.size ≤ 200 ∧ e = .returned (.tuple #[.agg #[.slice va Ts.length vc], .string p]) ∧ LayV w' w.heap.size va Ts ∧ Below w.heap.size w w' := by
  have b0 : Below w.heap.size w (w.alloc (.cells #[.slice none 0 0] 60)) := (Below.refl _ _).alloc (Nat.le_refl _) _
  have hz0 : (w.alloc (.cells #[.slice none 0 0] 60)).heap.size = w.heap.size + 1 := by simp
  have h0 := hide (source_any a len cap (w.alloc (.cells #[.slice none 0 0] 60)) (row_up hr b0 (by omega)))
  have BA := Mem.Blk.new w #[.slice none 0 0] 60
  rw [hz0] at h0
  have HR := hide hr
  clear hr
  go_enter Tryz.func28, Tryz.ntmps28
  go_wp2_with fail
  generalize w.alloc (.cells #[.slice none 0 0] 60) = w0 at h0 b0 BA hz0 ⊢
  refine (unhide h0).mono ?_
  rintro e w1 ⟨rfl, hs, b1⟩
  have BA := BA.below b1 (by omega)
  have b1 := b0.trans (b1.mono (by omega))
  clear h0 b0
  go_wp2_with fail
  refine (layers_any (w.heap.size + 1) a len cap _ hs).mono ?_
  rintro e w2 ⟨va, vc, Ts, hl, rfl, tv, s2, g2⟩
  have hlt := src_lt hs
  have D3 : Hid (Dl w (w2.alloc (.cells #[.slice va Ts.length vc] 60)) (w.heap.size + 1) w2.heap.size a len cap va vc Ts (.slice none 0 0)) :=
    ⟨by omega, by have := g2.size; omega, (b1.grown g2 b1.size (fun q hq => by cases hq; omega)).alloc (by have := b1.size; have := g2.size; omega) _, src_alloc s2 _, (BA.grown g2 (by simp)).alloc _, Mem.Blk.new _ _ _, (tv.mono (by omega)).call ((Below.refl _ _).alloc (Nat.le_refl _) _), unhide HR⟩
  clear hs s2 g2 tv BA b1 HR hlt hz0
  obtain ⟨S0, hS0⟩ : ∃ S0, S0 = w.heap.size + 1 := ⟨_, rfl⟩
  rw [← hS0] at D3
  have x0 := (unhide D3).one.cell 0
  simp only [kA0, kA1, kA2] at x0
  by_cases hpos : (0 : Int) < (Ts.length : Int)
  · obtain ⟨b, o, rfl⟩ : ∃ b o, va = some ⟨b, o, none⟩ := by
      obtain ⟨b, o, e, -⟩ := (unhide D3).lv.row 0 _ (List.getElem?_eq_getElem (by omega))
      exact ⟨b, o, e⟩
    go_wp2_with fail
    rw [← hS0]
    have HS0 := hide hS0
    clear hS0
    generalize w2.alloc (.cells #[.slice (some ⟨b, o, none⟩) Ts.length vc] 60) = w3 at D3 x0 ⊢
    generalize w2.heap.size = X at D3 x0 ⊢
    refine wp_region_held_drew (S := fun W' => W'.cell? ⟨X, 0, none⟩ = some (.slice (some ⟨b, o, none⟩) Ts.length vc)) (by kernel_rfl) ?_ (fun hHeld => ?_)
    · exact (unhide D3).one.cell 0
    have D4 := hide (unhide D3).drew
    generalize w3.drew = W4 at D4 hHeld ⊢
    clear D3
    refine wpAnyH_take (i := 0) (v := ?_) rfl (by kernel_rfl) (by kernel_rfl) (by kernel_rfl) (fun _ _ _ h => h) (Or.inl ⟨by rfl, ?_⟩) (by assumption) ?_
    rotate_left
    · (intro w hSw; (try dsimp only at hSw); go_simp; (try with_reducible rfl))
    try simp only [Act.put, kB0, kB1, kB2, kB3, kB4, kB5]
    refine wpAnyH_take (i := 1) (v := ?_) rfl (by kernel_rfl) (by kernel_rfl) (by kernel_rfl) (fun _ _ _ h => h) (Or.inl ⟨by rfl, ?_⟩) (by assumption) ?_
    rotate_left
    · (intro w hSw; (try dsimp only at hSw); go_simp; (try with_reducible rfl))
    try simp only [Act.put, kB0, kB1, kB2, kB3, kB4, kB5]
    refine wpAnyH_take (i := 2) (v := ?_) rfl (by kernel_rfl) (by kernel_rfl) (by kernel_rfl) (fun _ _ _ h => h) (Or.inl ⟨by rfl, ?_⟩) (by assumption) ?_
    rotate_left
    · (intro w hSw; (try dsimp only at hSw); go_simp; (try with_reducible rfl))
    try simp only [Act.put, kB0, kB1, kB2, kB3, kB4, kB5]
    refine wpAnyH_take (i := 3) (v := ?_) rfl (by kernel_rfl) (by kernel_rfl) (by kernel_rfl) (fun _ _ _ h => h) (Or.inl ⟨by rfl, ?_⟩) (by assumption) ?_
    rotate_left
    · (intro w hSw; (try dsimp only at hSw); go_simp; (try with_reducible rfl))
    try simp only [Act.put, kB0, kB1, kB2, kB3, kB4, kB5]
    refine wpAnyH_take (i := 4) (v := ?_) rfl (by kernel_rfl) (by kernel_rfl) (by kernel_rfl) (fun _ _ _ h => h) (Or.inl ⟨by rfl, ?_⟩) (by assumption) ?_
    rotate_left
    · (intro w hSw; (try dsimp only at hSw); go_simp; (try with_reducible rfl))
    try simp only [Act.put, kB0, kB1, kB2, kB3, kB4, kB5]
    refine wpAnyH_take (i := 5) (v := ?_) rfl (by kernel_rfl) (by kernel_rfl) (by kernel_rfl) (fun _ _ _ h => h) (Or.inl ⟨by rfl, ?_⟩) (by assumption) ?_
    rotate_left
    · (intro w hSw; (try dsimp only at hSw); go_simp; (try with_reducible rfl))
    try simp only [Act.put, kB0, kB1, kB2, kB3, kB4, kB5]
    refine wpAnyH_take (i := 6) (v := ?_) rfl (by kernel_rfl) (by kernel_rfl) (by kernel_rfl) (fun _ _ _ h => h) (Or.inl ⟨by rfl, ?_⟩) (by assumption) ?_
    rotate_left
    · (intro w hSw; (try dsimp only at hSw); go_simp; (try with_reducible rfl))
    try simp only [Act.put, kB0, kB1, kB2, kB3, kB4, kB5]
    refine wpAnyH_take (i := 7) (v := ?_) rfl (by kernel_rfl) (by kernel_rfl) (by kernel_rfl) (fun _ _ _ h => h) (Or.inl ⟨by rfl, ?_⟩) (by assumption) ?_
    rotate_left
    · (intro w hSw; (try dsimp only at hSw); go_simp; (try with_reducible rfl))
    try simp only [Act.put, kB0, kB1, kB2, kB3, kB4, kB5]
    refine wpAnyH_ready (rs := [8]) (by kernel_rfl) (by simp) ?_
    refine AllReadyH.cons rfl (fun K hK => ?_) AllReadyH.nil
    go_simp
    refine (n_any S0 a len cap (Ts.length : Int) _ (unhide D4).src (by omega)).mono ?_
    rintro e w5 ⟨r, rfl, r0, r1, s5, g5⟩
    have D5 := hide ((unhide D4).call s5 g5)
    clear s5 g5 D4
    obtain ⟨k, rfl⟩ : ∃ k : Nat, r = (k : Int) := ⟨r.toNat, by omega⟩
    have hk : k < Ts.length := by omega
    have y1 : (k : Int) < (Ts.length : Int) := by omega
    have y3 : (0 : Int) ≤ (k : Int) := by omega
    obtain ⟨m, hm⟩ : ∃ m, Ts[k]? = some m := ⟨_, List.getElem?_eq_getElem hk⟩
    have HM := hide ((unhide D5).lv.each m (List.mem_of_getElem? hm))
    obtain ⟨b', o', e', -, -, c5⟩ := (unhide D5).lv.row k m hm
    cases e'
    simp only [Pl.Tr.val] at c5
    refine hK.out _ _ ?_ (fun hHeld => ?_)
    · exact (unhide D5).one.cell 0
    clear hK K
    try simp only [Act.put, kB0, kB1, kB2, kB3, kB4, kB5]
    refine wpAnyH_take (i := 9) (v := ?_) rfl (by kernel_rfl) (by kernel_rfl) (by kernel_rfl) (fun _ _ _ h => h) (Or.inl ⟨by rfl, ?_⟩) (by assumption) ?_
    rotate_left
    · (intro w hSw; (try dsimp only at hSw); go_simp; (try with_reducible rfl))
    try simp only [Act.put, kB0, kB1, kB2, kB3, kB4, kB5]
    refine wpAnyH_ready (rs := [10]) (by kernel_rfl) (by simp) ?_
    refine AllReadyH.cons rfl (fun K hK => ?_) AllReadyH.nil
    go_simp
    refine hK.out _ _ ?_ (fun hHeld => ?_)
    · exact hHeld
    clear hK K
    try simp only [Act.put, kB0, kB1, kB2, kB3, kB4, kB5]
    refine wpAnyH_ready (rs := [11]) (by kernel_rfl) (by simp) ?_
    refine AllReadyH.cons rfl (fun K hK => ?_) AllReadyH.nil
    go_simp
    refine (some_any S0 a len cap (S0 + 1) m.a m.cap m.L _ (unhide D5).src (by omega) (unhide HM).1 (unhide HM).2.1 (unhide HM).2.2).mono ?_
    rintro e w6 ⟨p, hp, rfl, s6, g6⟩
    have D7 := hide ((unhide D5).call s6 g6)
    clear s6 g6 D5 HM c5
    refine hK.out _ _ ?_ (fun hHeld => ?_)
    · exact (unhide D7).one.cell 0
    clear hK K
    try simp only [Act.put, kB0, kB1, kB2, kB3, kB4, kB5]
    have k0 := (unhide D7).two.cell 0
    have kf := (unhide D7).two.fr 0
    simp only [kA0, kA1, kA2] at k0
    have D6 := hide ((unhide D7).put (.slice (some ⟨b, o, none⟩) Ts.length vc))
    refine wpAnyH_ready (rs := [12]) (by kernel_rfl) (by simp) ?_
    refine AllReadyH.cons rfl (fun K hK => ?_) AllReadyH.nil
    go_simp
    refine hK.out _ _ ?_ (fun hHeld => ?_)
    · exact (unhide D6).one.cell 0
    clear hK K
    try simp only [Act.put, kB0, kB1, kB2, kB3, kB4, kB5]
    refine wpAnyH_take (i := 13) (v := ?_) rfl (by kernel_rfl) (by kernel_rfl) (by kernel_rfl) (fun _ _ _ h => h) (Or.inl ⟨by rfl, ?_⟩) (by assumption) ?_
    rotate_left
    · (intro w hSw; (try dsimp only at hSw); go_simp; (try with_reducible rfl))
    try simp only [Act.put, kB0, kB1, kB2, kB3, kB4, kB5]
    refine wpAnyH_done (by kernel_rfl) ?_ _
    have q := (unhide D6).two.cell
    go_wp2
    refine bodyPost_ret (v := .tuple #[.agg #[.slice (some ⟨b, o, none⟩) Ts.length vc], .string p]) (by simp [results, Tryz.results28, go_sem, q]) rfl ?_
    exact ⟨(some ⟨b, o, none⟩), vc, Ts, p, hl, hp, rfl, (unhide D6).lv.mono (by have := (unhide D6).lo; omega), (unhide D6).bel⟩
  · go_wp2_with fail
    rw [← hS0]
    have HS0 := hide hS0
    clear hS0
    generalize w2.alloc (.cells #[.slice va Ts.length vc] 60) = w3 at D3 x0 ⊢
    generalize w2.heap.size = X at D3 x0 ⊢
    refine wp_region_held_drew (S := fun W' => W'.cell? ⟨X, 0, none⟩ = some (.slice va Ts.length vc)) (by kernel_rfl) ?_ (fun hHeld => ?_)
    · exact (unhide D3).one.cell 0
    have D4 := hide (unhide D3).drew
    generalize w3.drew = W4 at D4 hHeld ⊢
    clear D3
    refine wpAnyH_take (i := 0) (v := ?_) rfl (by kernel_rfl) (by kernel_rfl) (by kernel_rfl) (fun _ _ _ h => h) (Or.inl ⟨by rfl, ?_⟩) (by assumption) ?_
    rotate_left
    · (intro w hSw; (try dsimp only at hSw); go_simp; (try with_reducible rfl))
    try simp only [Act.put, kB0, kB1, kB2, kB3, kB4, kB5]
    refine wpAnyH_take (i := 1) (v := ?_) rfl (by kernel_rfl) (by kernel_rfl) (by kernel_rfl) (fun _ _ _ h => h) (Or.inl ⟨by rfl, ?_⟩) (by assumption) ?_
    rotate_left
    · (intro w hSw; (try dsimp only at hSw); go_simp; (try with_reducible rfl))
    try simp only [Act.put, kB0, kB1, kB2, kB3, kB4, kB5]
    refine wpAnyH_ready (rs := [2]) (by kernel_rfl) (by simp) ?_
    refine AllReadyH.cons rfl (fun K hK => ?_) AllReadyH.nil
    go_simp
    refine (path_any S0 a len cap _ (unhide D4).src).mono ?_
    rintro e w5 ⟨p, hp0, rfl, s5, g5⟩
    have hp : p.size ≤ 200 := by omega
    have D5 := hide ((unhide D4).call s5 g5)
    clear s5 g5 D4
    refine hK.out _ _ ?_ (fun hHeld => ?_)
    · exact (unhide D5).one.cell 0
    clear hK K
    try simp only [Act.put, kB0, kB1, kB2, kB3, kB4, kB5]
    have k0 := (unhide D5).two.cell 0
    have kf := (unhide D5).two.fr 0
    simp only [kA0, kA1, kA2] at k0
    have D6 := hide ((unhide D5).put (.slice va Ts.length vc))
    refine wpAnyH_ready (rs := [3]) (by kernel_rfl) (by simp) ?_
    refine AllReadyH.cons rfl (fun K hK => ?_) AllReadyH.nil
    go_simp
    refine hK.out _ _ ?_ (fun hHeld => ?_)
    · exact (unhide D6).one.cell 0
    clear hK K
    try simp only [Act.put, kB0, kB1, kB2, kB3, kB4, kB5]
    refine wpAnyH_take (i := 4) (v := ?_) rfl (by kernel_rfl) (by kernel_rfl) (by kernel_rfl) (fun _ _ _ h => h) (Or.inl ⟨by rfl, ?_⟩) (by assumption) ?_
    rotate_left
    · (intro w hSw; (try dsimp only at hSw); go_simp; (try with_reducible rfl))
    try simp only [Act.put, kB0, kB1, kB2, kB3, kB4, kB5]
    refine wpAnyH_done (by kernel_rfl) ?_ _
    have q := (unhide D6).two.cell
    go_wp2
    refine bodyPost_ret (v := .tuple #[.agg #[.slice va Ts.length vc], .string p]) (by simp [results, Tryz.results28, go_sem, q]) rfl ?_
    exact ⟨va, vc, Ts, p, hl, hp, rfl, (unhide D6).lv.mono (by have := (unhide D6).lo; omega), (unhide D6).bel⟩
end WSrc
end Go.Proofs.YtepmojmelcngeaaGreatDoor

/- The program's SeenAt (by genSF.py). -/
namespace Go.Proofs.YtepmojmelcngeaaGreatDoor
open Go.RowKit
namespace WSeen
set_option linter.unusedSimpArgs false in
set_option maxRecDepth 100000 in
set_option maxHeartbeats 4000000 in
theorem impl_any (a : Option Addr) (cap : Nat) (Ts : List Pl.Tr) (p : ByteArray) (w : World) (hl : Ts.length ≤ 1048576) (hv : Mem.isTrees w a Ts) (hok : ∀ t ∈ Ts, t.L.length ≤ 1048576 ∧ ∀ n ∈ t.L, n.path.size ≤ 1048576 ∧ n.data.size ≤ 1048576) (hp : p.size ≤ 1048576)
    (r1 r2 r3 : TypeId) (x1 x2 x3 : Value) (hE : WNodesI.Errs w r1 r2 r3 x1 x2 x3) :
    Calls Tryz.prog 29 #[.agg #[.slice a Ts.length cap], .string p] w fun e w' => e = .returned (Pl.seenV (Ts.map (·.L)) p) ∧ Below w.heap.size w w' := by
  have b0 : Below w.heap.size w ((w.alloc (.cells #[.slice a Ts.length cap] 60)).alloc (.cells #[.string ⟨#[]⟩, .int .i64 0, .string ⟨#[]⟩, .int .i64 0, .int .i64 0, .int .i64 0] 52)) := ((Below.refl _ _).alloc (Nat.le_refl _) _).alloc (by simp) _
  have T0 : Mem.Blk ((w.alloc (.cells #[.slice a Ts.length cap] 60)).alloc (.cells #[.string ⟨#[]⟩, .int .i64 0, .string ⟨#[]⟩, .int .i64 0, .int .i64 0, .int .i64 0] 52)) w.heap.size #[.slice a Ts.length cap] 60 := (Mem.Blk.new _ _ _).alloc _
  have R0 : Mem.Blk ((w.alloc (.cells #[.slice a Ts.length cap] 60)).alloc (.cells #[.string ⟨#[]⟩, .int .i64 0, .string ⟨#[]⟩, .int .i64 0, .int .i64 0, .int .i64 0] 52)) (w.heap.size + 1) #[.string ⟨#[]⟩, .int .i64 0, .string ⟨#[]⟩, .int .i64 0, .int .i64 0, .int .i64 0] 52 := Mem.new_two _ _ _
  have HOV := hide (fun W (b : Below w.heap.size w W) => WOverI.over_any a cap Ts W hl (Mem.trees_call hv b) hok r1 r2 r3 x1 x2 x3 (hE.call b))
  have HPR := hide (fun W => WPathI.right_any p W hp)
  have HLT := hide (fun h => Pl.lay_ok (Ls := Ts.map (·.L)) h)
  generalize Ts.map (·.L) = Ls at HOV HLT ⊢
  clear hv hok hE
  by_cases hz : 8000 < p.size
  · have t0 : (8000 : Int) < (p.size : Int) := by omega
    go_enter Tryz.func29, Tryz.ntmps29
    go_wp2
    refine bodyPost_ret (v := .agg #[.string ⟨#[]⟩, .int .i64 0, .string ⟨#[]⟩, .int .i64 0, .int .i64 0, .int .i64 2]) (by simp [results, Tryz.results29, go_sem]) rfl ⟨by rw [Pl.seen_long hz], ?_⟩
    exact ((Below.refl _ _).alloc (Nat.le_refl _) _).alloc (by simp) _
  have t0 : ¬ (8000 : Int) < (p.size : Int) := by omega
  have c0 := T0.cell 0
  simp only [kA0, kA1] at c0
  go_enter Tryz.func29, Tryz.ntmps29
  go_wp2_with fail
  refine (unhide HOV _ b0).mono ?_
  rintro e w1 ⟨h1, b1⟩
  have bw1 := b0.trans (b1.mono b0.size)
  have R1 := R0.call b1
  clear b0 T0 R0 c0 HOV
  rcases h1 with ⟨hL, v, Bs, rfl, hov⟩ | ⟨hL, rfl⟩
  rotate_left
  · clear b1
    have E : Hid (Pl.seenV Ls p = .agg #[.string ⟨#[]⟩, .int .i64 0, .string ⟨#[]⟩, .int .i64 0, .int .i64 0, .int .i64 1]) := Pl.seen_form hz (.inl hL)
    have V9 : Mem.Blk ((((((w1.setCell ⟨w.heap.size + 1, 0, none⟩ (.string ⟨#[]⟩)).setCell ⟨w.heap.size + 1, 1, none⟩ (.int .i64 0)).setCell ⟨w.heap.size + 1, 2, none⟩ (.string ⟨#[]⟩)).setCell ⟨w.heap.size + 1, 3, none⟩ (.int .i64 0)).setCell ⟨w.heap.size + 1, 4, none⟩ (.int .i64 0)).setCell ⟨w.heap.size + 1, 5, none⟩ (.int .i64 1)) (w.heap.size + 1) #[.string ⟨#[]⟩, .int .i64 0, .string ⟨#[]⟩, .int .i64 0, .int .i64 0, .int .i64 1] 52 := by
      have h := ((((((R1.put 0 (.string ⟨#[]⟩)).put 1 (.int .i64 0)).put 2 (.string ⟨#[]⟩)).put 3 (.int .i64 0)).put 4 (.int .i64 0)).put 5 (.int .i64 1))
      simp only [kB3] at h
      exact h
    have HV := hide V9
    have HB := hide (((((((bw1.setCell (p := ⟨w.heap.size + 1, 0, none⟩) (by show w.heap.size ≤ w.heap.size + 1; omega) (.string ⟨#[]⟩)).setCell (p := ⟨w.heap.size + 1, 1, none⟩) (by show w.heap.size ≤ w.heap.size + 1; omega) (.int .i64 0)).setCell (p := ⟨w.heap.size + 1, 2, none⟩) (by show w.heap.size ≤ w.heap.size + 1; omega) (.string ⟨#[]⟩)).setCell (p := ⟨w.heap.size + 1, 3, none⟩) (by show w.heap.size ≤ w.heap.size + 1; omega) (.int .i64 0)).setCell (p := ⟨w.heap.size + 1, 4, none⟩) (by show w.heap.size ≤ w.heap.size + 1; omega) (.int .i64 0)).setCell (p := ⟨w.heap.size + 1, 5, none⟩) (by show w.heap.size ≤ w.heap.size + 1; omega) (.int .i64 1)))
    have z0 := R1.cell 0
    have f0 := R1.fr 0
    have z1 := R1.cell 1
    have f1 := R1.fr 1
    have z2 := R1.cell 2
    have f2 := R1.fr 2
    have z3 := R1.cell 3
    have f3 := R1.fr 3
    have z4 := R1.cell 4
    have f4 := R1.fr 4
    have z5 := R1.cell 5
    have f5 := R1.fr 5
    simp only [kA0, kA1, kA2] at z0 z1 z2 z3 z4 z5
    clear V9 R1 bw1
    go_wp2
    have r0 := (unhide HV).cell 0
    have r1 := (unhide HV).cell 1
    have r2 := (unhide HV).cell 2
    have r3 := (unhide HV).cell 3
    have r4 := (unhide HV).cell 4
    have r5 := (unhide HV).cell 5
    simp only [kA0, kA1, kA2] at r0 r1 r2 r3 r4 r5
    exact bodyPost_ret (v := .agg #[.string ⟨#[]⟩, .int .i64 0, .string ⟨#[]⟩, .int .i64 0, .int .i64 0, .int .i64 1]) (by simp [results, Tryz.results29, go_sem, r0, r1, r2, r3, r4, r5]) rfl ⟨by rw [unhide E], unhide HB⟩
  have HO1 := hide hov
  obtain ⟨a1, cap1, rfl⟩ := WSight.ov_shape hov
  clear b1 hov
  by_cases hs : p.size = 0
  · have t1 : p.toList.isEmpty = true := by rw [Pl.empty_list]; simpa [Pl.by_nil] using hs
    have E : Hid (Pl.seenV Ls p = .agg #[.string ⟨#[]⟩, .int .i64 0, .string ⟨#[]⟩, .int .i64 0, .int .i64 0, .int .i64 1]) := Pl.seen_form hz (.inr (.inl hs))
    have V9 : Mem.Blk ((((((w1.setCell ⟨w.heap.size + 1, 0, none⟩ (.string ⟨#[]⟩)).setCell ⟨w.heap.size + 1, 1, none⟩ (.int .i64 0)).setCell ⟨w.heap.size + 1, 2, none⟩ (.string ⟨#[]⟩)).setCell ⟨w.heap.size + 1, 3, none⟩ (.int .i64 0)).setCell ⟨w.heap.size + 1, 4, none⟩ (.int .i64 0)).setCell ⟨w.heap.size + 1, 5, none⟩ (.int .i64 1)) (w.heap.size + 1) #[.string ⟨#[]⟩, .int .i64 0, .string ⟨#[]⟩, .int .i64 0, .int .i64 0, .int .i64 1] 52 := by
      have h := ((((((R1.put 0 (.string ⟨#[]⟩)).put 1 (.int .i64 0)).put 2 (.string ⟨#[]⟩)).put 3 (.int .i64 0)).put 4 (.int .i64 0)).put 5 (.int .i64 1))
      simp only [kB3] at h
      exact h
    have HV := hide V9
    have HB := hide (((((((bw1.setCell (p := ⟨w.heap.size + 1, 0, none⟩) (by show w.heap.size ≤ w.heap.size + 1; omega) (.string ⟨#[]⟩)).setCell (p := ⟨w.heap.size + 1, 1, none⟩) (by show w.heap.size ≤ w.heap.size + 1; omega) (.int .i64 0)).setCell (p := ⟨w.heap.size + 1, 2, none⟩) (by show w.heap.size ≤ w.heap.size + 1; omega) (.string ⟨#[]⟩)).setCell (p := ⟨w.heap.size + 1, 3, none⟩) (by show w.heap.size ≤ w.heap.size + 1; omega) (.int .i64 0)).setCell (p := ⟨w.heap.size + 1, 4, none⟩) (by show w.heap.size ≤ w.heap.size + 1; omega) (.int .i64 0)).setCell (p := ⟨w.heap.size + 1, 5, none⟩) (by show w.heap.size ≤ w.heap.size + 1; omega) (.int .i64 1)))
    have z0 := R1.cell 0
    have f0 := R1.fr 0
    have z1 := R1.cell 1
    have f1 := R1.fr 1
    have z2 := R1.cell 2
    have f2 := R1.fr 2
    have z3 := R1.cell 3
    have f3 := R1.fr 3
    have z4 := R1.cell 4
    have f4 := R1.fr 4
    have z5 := R1.cell 5
    have f5 := R1.fr 5
    simp only [kA0, kA1, kA2] at z0 z1 z2 z3 z4 z5
    clear V9 R1 bw1
    go_wp2
    have r0 := (unhide HV).cell 0
    have r1 := (unhide HV).cell 1
    have r2 := (unhide HV).cell 2
    have r3 := (unhide HV).cell 3
    have r4 := (unhide HV).cell 4
    have r5 := (unhide HV).cell 5
    simp only [kA0, kA1, kA2] at r0 r1 r2 r3 r4 r5
    exact bodyPost_ret (v := .agg #[.string ⟨#[]⟩, .int .i64 0, .string ⟨#[]⟩, .int .i64 0, .int .i64 0, .int .i64 1]) (by simp [results, Tryz.results29, go_sem, r0, r1, r2, r3, r4, r5]) rfl ⟨by rw [unhide E], unhide HB⟩
  have t1 : p.toList.isEmpty = false := by rw [Pl.empty_list]; simpa [Pl.by_nil] using hs
  go_wp2_with fail
  refine (unhide HPR _).mono ?_
  rintro e w2 ⟨rfl, b2⟩
  have bw2 := bw1.trans (b2.mono bw1.size)
  have R2 := R1.call b2
  have HO2 := hide ((unhide HO1).call b2)
  clear HPR HO1 bw1 R1 b2
  cases hq : Pl.pathB p
  · skip
    have E : Hid (Pl.seenV Ls p = .agg #[.string ⟨#[]⟩, .int .i64 0, .string ⟨#[]⟩, .int .i64 0, .int .i64 0, .int .i64 1]) := Pl.seen_form hz (.inr (.inr hq))
    have V9 : Mem.Blk ((((((w2.setCell ⟨w.heap.size + 1, 0, none⟩ (.string ⟨#[]⟩)).setCell ⟨w.heap.size + 1, 1, none⟩ (.int .i64 0)).setCell ⟨w.heap.size + 1, 2, none⟩ (.string ⟨#[]⟩)).setCell ⟨w.heap.size + 1, 3, none⟩ (.int .i64 0)).setCell ⟨w.heap.size + 1, 4, none⟩ (.int .i64 0)).setCell ⟨w.heap.size + 1, 5, none⟩ (.int .i64 1)) (w.heap.size + 1) #[.string ⟨#[]⟩, .int .i64 0, .string ⟨#[]⟩, .int .i64 0, .int .i64 0, .int .i64 1] 52 := by
      have h := ((((((R2.put 0 (.string ⟨#[]⟩)).put 1 (.int .i64 0)).put 2 (.string ⟨#[]⟩)).put 3 (.int .i64 0)).put 4 (.int .i64 0)).put 5 (.int .i64 1))
      simp only [kB3] at h
      exact h
    have HV := hide V9
    have HB := hide (((((((bw2.setCell (p := ⟨w.heap.size + 1, 0, none⟩) (by show w.heap.size ≤ w.heap.size + 1; omega) (.string ⟨#[]⟩)).setCell (p := ⟨w.heap.size + 1, 1, none⟩) (by show w.heap.size ≤ w.heap.size + 1; omega) (.int .i64 0)).setCell (p := ⟨w.heap.size + 1, 2, none⟩) (by show w.heap.size ≤ w.heap.size + 1; omega) (.string ⟨#[]⟩)).setCell (p := ⟨w.heap.size + 1, 3, none⟩) (by show w.heap.size ≤ w.heap.size + 1; omega) (.int .i64 0)).setCell (p := ⟨w.heap.size + 1, 4, none⟩) (by show w.heap.size ≤ w.heap.size + 1; omega) (.int .i64 0)).setCell (p := ⟨w.heap.size + 1, 5, none⟩) (by show w.heap.size ≤ w.heap.size + 1; omega) (.int .i64 1)))
    have z0 := R2.cell 0
    have f0 := R2.fr 0
    have z1 := R2.cell 1
    have f1 := R2.fr 1
    have z2 := R2.cell 2
    have f2 := R2.fr 2
    have z3 := R2.cell 3
    have f3 := R2.fr 3
    have z4 := R2.cell 4
    have f4 := R2.fr 4
    have z5 := R2.cell 5
    have f5 := R2.fr 5
    simp only [kA0, kA1, kA2] at z0 z1 z2 z3 z4 z5
    clear V9 R2 bw2
    go_wp2
    have r0 := (unhide HV).cell 0
    have r1 := (unhide HV).cell 1
    have r2 := (unhide HV).cell 2
    have r3 := (unhide HV).cell 3
    have r4 := (unhide HV).cell 4
    have r5 := (unhide HV).cell 5
    simp only [kA0, kA1, kA2] at r0 r1 r2 r3 r4 r5
    exact bodyPost_ret (v := .agg #[.string ⟨#[]⟩, .int .i64 0, .string ⟨#[]⟩, .int .i64 0, .int .i64 0, .int .i64 1]) (by simp [results, Tryz.results29, go_sem, r0, r1, r2, r3, r4, r5]) rfl ⟨by rw [unhide E], unhide HB⟩
  obtain ⟨h14, htr⟩ := unhide HLT hL
  have hat := hide (WSight.atO_any _ _ Bs Ls p w2 (unhide HO2) h14 htr hp)
  have HSM := hide (Pl.seen_small htr p)
  have EV := hide (Pl.seen_end hz hL hs hq)
  generalize Pl.seenS Ls p = S at hat HSM EV
  obtain ⟨tt, ⟨sp, sk, sd, st, sm⟩, sh⟩ := S
  simp only [Pl.Nd.val] at hat
  clear HO2 htr
  cases tt
  · go_wp2_with fail
    refine (unhide hat).mono ?_
    rintro e w3 ⟨rfl, b3⟩
    have bw3 := bw2.trans (b3.mono bw2.size)
    have bw4 := bw3.alloc bw3.size (.cells #[.string sp, .int .i64 sk, .string sd, .int .i64 st, .int .i64 sm] 36)
    have R4 := (R2.call b3).alloc (.cells #[.string sp, .int .i64 sk, .string sd, .int .i64 st, .int .i64 sm] 36)
    clear hat bw2 b3 R2 bw3
    have E : Hid (Pl.seenV Ls p = .agg #[.string ⟨#[]⟩, .int .i64 0, .string ⟨#[]⟩, .int .i64 0, .int .i64 0, .int .i64 6]) := unhide EV
    have V9 : Mem.Blk (((((((w3.alloc (.cells #[.string sp, .int .i64 sk, .string sd, .int .i64 st, .int .i64 sm] 36)).setCell ⟨w.heap.size + 1, 0, none⟩ (.string ⟨#[]⟩)).setCell ⟨w.heap.size + 1, 1, none⟩ (.int .i64 0)).setCell ⟨w.heap.size + 1, 2, none⟩ (.string ⟨#[]⟩)).setCell ⟨w.heap.size + 1, 3, none⟩ (.int .i64 0)).setCell ⟨w.heap.size + 1, 4, none⟩ (.int .i64 0)).setCell ⟨w.heap.size + 1, 5, none⟩ (.int .i64 6)) (w.heap.size + 1) #[.string ⟨#[]⟩, .int .i64 0, .string ⟨#[]⟩, .int .i64 0, .int .i64 0, .int .i64 6] 52 := by
      have h := ((((((R4.put 0 (.string ⟨#[]⟩)).put 1 (.int .i64 0)).put 2 (.string ⟨#[]⟩)).put 3 (.int .i64 0)).put 4 (.int .i64 0)).put 5 (.int .i64 6))
      simp only [kB3] at h
      exact h
    have HV := hide V9
    have HB := hide (((((((bw4.setCell (p := ⟨w.heap.size + 1, 0, none⟩) (by show w.heap.size ≤ w.heap.size + 1; omega) (.string ⟨#[]⟩)).setCell (p := ⟨w.heap.size + 1, 1, none⟩) (by show w.heap.size ≤ w.heap.size + 1; omega) (.int .i64 0)).setCell (p := ⟨w.heap.size + 1, 2, none⟩) (by show w.heap.size ≤ w.heap.size + 1; omega) (.string ⟨#[]⟩)).setCell (p := ⟨w.heap.size + 1, 3, none⟩) (by show w.heap.size ≤ w.heap.size + 1; omega) (.int .i64 0)).setCell (p := ⟨w.heap.size + 1, 4, none⟩) (by show w.heap.size ≤ w.heap.size + 1; omega) (.int .i64 0)).setCell (p := ⟨w.heap.size + 1, 5, none⟩) (by show w.heap.size ≤ w.heap.size + 1; omega) (.int .i64 6)))
    have z0 := R4.cell 0
    have f0 := R4.fr 0
    have z1 := R4.cell 1
    have f1 := R4.fr 1
    have z2 := R4.cell 2
    have f2 := R4.fr 2
    have z3 := R4.cell 3
    have f3 := R4.fr 3
    have z4 := R4.cell 4
    have f4 := R4.fr 4
    have z5 := R4.cell 5
    have f5 := R4.fr 5
    simp only [kA0, kA1, kA2] at z0 z1 z2 z3 z4 z5
    clear V9 R4 bw4
    go_wp2
    have r0 := (unhide HV).cell 0
    have r1 := (unhide HV).cell 1
    have r2 := (unhide HV).cell 2
    have r3 := (unhide HV).cell 3
    have r4 := (unhide HV).cell 4
    have r5 := (unhide HV).cell 5
    simp only [kA0, kA1, kA2] at r0 r1 r2 r3 r4 r5
    exact bodyPost_ret (v := .agg #[.string ⟨#[]⟩, .int .i64 0, .string ⟨#[]⟩, .int .i64 0, .int .i64 0, .int .i64 6]) (by simp [results, Tryz.results29, go_sem, r0, r1, r2, r3, r4, r5]) rfl ⟨by rw [unhide E], unhide HB⟩
  · go_wp2_with fail
    refine (unhide hat).mono ?_
    rintro e w3 ⟨rfl, b3⟩
    have bw3 := bw2.trans (b3.mono bw2.size)
    have bw4 := bw3.alloc bw3.size (.cells #[.string sp, .int .i64 sk, .string sd, .int .i64 st, .int .i64 sm] 36)
    have R4 := (R2.call b3).alloc (.cells #[.string sp, .int .i64 sk, .string sd, .int .i64 st, .int .i64 sm] 36)
    have hcp := hide (fun W => WCopied.any ⟨sp, sk, sd, st, sm⟩ W (unhide HSM).1 (unhide HSM).2)
    simp only [Pl.Nd.val] at hcp
    clear hat bw2 b3 R2 bw3
    go_wp2_with fail
    refine (unhide hcp _).mono ?_
    rintro e w5 ⟨rfl, b5⟩
    have bw5 := bw4.trans (b5.mono bw4.size)
    have R5 := R4.call b5
    clear hcp bw4 b5 R4
    have E : Hid (Pl.seenV Ls p = .agg #[.string sp, .int .i64 sk, .string sd, .int .i64 st, .int .i64 sm, .int .i64 0]) := unhide EV
    have V9 : Mem.Blk ((((((w5.setCell ⟨w.heap.size + 1, 0, none⟩ (.string sp)).setCell ⟨w.heap.size + 1, 1, none⟩ (.int .i64 sk)).setCell ⟨w.heap.size + 1, 2, none⟩ (.string sd)).setCell ⟨w.heap.size + 1, 3, none⟩ (.int .i64 st)).setCell ⟨w.heap.size + 1, 4, none⟩ (.int .i64 sm)).setCell ⟨w.heap.size + 1, 5, none⟩ (.int .i64 0)) (w.heap.size + 1) #[.string sp, .int .i64 sk, .string sd, .int .i64 st, .int .i64 sm, .int .i64 0] 52 := by
      have h := ((((((R5.put 0 (.string sp)).put 1 (.int .i64 sk)).put 2 (.string sd)).put 3 (.int .i64 st)).put 4 (.int .i64 sm)).put 5 (.int .i64 0))
      simp only [kB3] at h
      exact h
    have HV := hide V9
    have HB := hide (((((((bw5.setCell (p := ⟨w.heap.size + 1, 0, none⟩) (by show w.heap.size ≤ w.heap.size + 1; omega) (.string sp)).setCell (p := ⟨w.heap.size + 1, 1, none⟩) (by show w.heap.size ≤ w.heap.size + 1; omega) (.int .i64 sk)).setCell (p := ⟨w.heap.size + 1, 2, none⟩) (by show w.heap.size ≤ w.heap.size + 1; omega) (.string sd)).setCell (p := ⟨w.heap.size + 1, 3, none⟩) (by show w.heap.size ≤ w.heap.size + 1; omega) (.int .i64 st)).setCell (p := ⟨w.heap.size + 1, 4, none⟩) (by show w.heap.size ≤ w.heap.size + 1; omega) (.int .i64 sm)).setCell (p := ⟨w.heap.size + 1, 5, none⟩) (by show w.heap.size ≤ w.heap.size + 1; omega) (.int .i64 0)))
    have z0 := R5.cell 0
    have f0 := R5.fr 0
    have z1 := R5.cell 1
    have f1 := R5.fr 1
    have z2 := R5.cell 2
    have f2 := R5.fr 2
    have z3 := R5.cell 3
    have f3 := R5.fr 3
    have z4 := R5.cell 4
    have f4 := R5.fr 4
    have z5 := R5.cell 5
    have f5 := R5.fr 5
    simp only [kA0, kA1, kA2] at z0 z1 z2 z3 z4 z5
    clear V9 R5 bw5
    go_wp2
    have r0 := (unhide HV).cell 0
    have r1 := (unhide HV).cell 1
    have r2 := (unhide HV).cell 2
    have r3 := (unhide HV).cell 3
    have r4 := (unhide HV).cell 4
    have r5 := (unhide HV).cell 5
    simp only [kA0, kA1, kA2] at r0 r1 r2 r3 r4 r5
    exact bodyPost_ret (v := .agg #[.string sp, .int .i64 sk, .string sd, .int .i64 st, .int .i64 sm, .int .i64 0]) (by simp [results, Tryz.results29, go_sem, r0, r1, r2, r3, r4, r5]) rfl ⟨by rw [unhide E], unhide HB⟩
end WSeen
end Go.Proofs.YtepmojmelcngeaaGreatDoor

/- The specification's l04At (by genA4.py). -/
namespace Go.Proofs.YtepmojmelcngeaaGreatDoor
open Go.RowKit
namespace WPick
set_option linter.unusedSimpArgs false in
set_option maxRecDepth 100000 in
set_option maxHeartbeats 3000000 in
theorem at4_any (p : ByteArray) (L : List ByteArray) (Ts : List Pl.Tr) (ad : Option Addr) (capt : Nat) (w : World) (hT : Mem.isTrees w ad Ts) (hn1 : 1 ≤ Ts.length) (hn4 : Ts.length ≤ 4) (hL : ∀ t ∈ Ts, t.L.length ≤ 1048576 ∧ ∀ n ∈ t.L, 0 ≤ n.mark ∧ n.mark ≤ 8) (hTr : ∀ M ∈ Ts.map (·.L), Pl.treeB M = true)
    (hpL : Pl.names p = L) (hnm : ∀ t ∈ L, Pl.nameB t = true) (h1 : 1 ≤ L.length) (h6 : L.length ≤ 6) (hps : p.size ≤ 1048576) (hsz : ∀ j : Nat, (Pl.glue (L.take j)).size ≤ 1048576) :
    Calls Tryz.prog 75 #[.slice ad Ts.length capt, .string p] w fun e w' => ∃ v, e = .returned (.agg (cellsO (Pl.atW (Ts.map (·.L)) (List.range Ts.length) (Pl.ways L L.length)) v).toArray) ∧ ownI w' w.heap.size v (Pl.atW (Ts.map (·.L)) (List.range Ts.length) (Pl.ways L L.length)).parts ∧ Below w.heap.size w w' := by
  have HRR : Hid (Pl.atW (Ts.map (·.L)) (List.range Ts.length) (Pl.ways L L.length) = Pl.atW (Ts.map (·.L)) (List.range Ts.length) (Pl.ways L L.length)) := rfl
  generalize hR : Pl.atW (Ts.map (·.L)) (List.range Ts.length) (Pl.ways L L.length) = R
  clear HRR
  have HR := hide hR
  have HT := hide hT
  have HL := hide hL
  have HTR := hide hTr
  have HNM := hide hnm
  have HSZ := hide hsz
  have HAL := hide (fun W => all_any Ts.length W hn4)
  have HNA := hide (fun W => WPathS.names_any p W hps)
  rw [hpL] at HNA
  clear hT hL hTr hnm hR hsz
  have B0 : Hid (Below w.heap.size w (w.alloc (.cells (cellsO ⟨false, Pl.zeroN, []⟩ (.slice none 0 0)).toArray 109)) ∧ Mem.Blk (w.alloc (.cells (cellsO ⟨false, Pl.zeroN, []⟩ (.slice none 0 0)).toArray 109)) w.heap.size (cellsO ⟨false, Pl.zeroN, []⟩ (.slice none 0 0)).toArray 109) := ⟨(Below.refl _ _).alloc (Nat.le_refl _) _, Mem.Blk.new _ _ _⟩
  simp only [cellsO, Pl.zeroN] at B0
  go_enter Tryz.func75, Tryz.ntmps75
  go_wp2_with fail
  refine (unhide HAL _).mono ?_
  rintro e w1 ⟨vk, rfl, hownK, b1⟩
  simp only [sz_alloc] at hownK b1
  have B1 := hide (⟨(unhide B0).1.trans (b1.mono (by omega)), (unhide B0).2.below b1 (by omega)⟩ : Below w.heap.size w w1 ∧ _)
  have KO := hide hownK
  clear B0 HAL hownK
  go_wp2_with fail
  refine (unhide HNA _).mono ?_
  rintro e w2 ⟨vl, rfl, hownL, b2⟩
  have hs1 : w.heap.size + 1 ≤ w1.heap.size := by have h := b1.size; simp only [sz_alloc] at h; exact h
  have B2 := hide (⟨(unhide B1).1.trans (b2.mono (by omega)), (unhide B1).2.call b2⟩ : Below w.heap.size w w2 ∧ _)
  have KO2 := hide (ownI_call (unhide KO) b2)
  have KL := hide (Mem.own_mono hownL (show w.heap.size + 1 ≤ w1.heap.size by omega))
  have hs2 := b2.size
  clear B1 KO hownL HNA b1 b2
  obtain ⟨gl, cl, hvl⟩ : ∃ g cap, vl = .slice (some ⟨g, 0, none⟩) L.length cap := by
    rcases (unhide KL).2 with ⟨_, h0⟩ | ⟨g, cap, cur, hv, -⟩
    · omega
    · exact ⟨g, cap, hv⟩
  subst hvl
  have A0 : Hid (AtQ w (w2.alloc (.cells (cellsO ⟨false, Pl.zeroN, []⟩ (.slice none 0 0)).toArray 109)) w2.heap.size vk (List.range Ts.length) Pl.zeroO (.slice none 0 0) (.slice (some ⟨gl, 0, none⟩) L.length cl) L) :=
    ⟨by omega, (unhide B2).1.alloc (by omega) _, (unhide B2).2.alloc _, Mem.Blk.new _ _ _, row_call (unhide KO2) ((Below.refl _ _).alloc (Nat.le_refl _) _), ownI_nil _ _, row_call (unhide KL) ((Below.refl _ _).alloc (Nat.le_refl _) _), fun e => by have := (World.ownsRow.lt (unhide KO2) _ e).2; omega, fun e => (by cases e), fun e => by have := (World.ownsRow.lt (unhide KL) _ e).2; omega⟩
  simp only [cellsO, Pl.zeroN] at A0
  clear B2 KO2 KL
  go_upto_region 5 with fail
  generalize w2.alloc (.cells #[.bool false, .string ⟨#[]⟩, .int .i64 0, .string ⟨#[]⟩, .int .i64 0, .int .i64 0, .slice none 0 0] 109) = W0 at A0 ⊢
  generalize w2.heap.size = X at A0 ⊢
  clear hs1 hs2
  go_wp2
  go_loopw [5, 7, 9] (fun vk st i wr => ∃ j : Nat, j ≤ L.length ∧ i = .int .i64 (j : Int) ∧ st = .string (Pl.glue (L.take j)) ∧ Hid (∃ ks o v, AtQ w wr X vk ks o v (.slice (some ⟨gl, 0, none⟩) L.length cl) L ∧ ks.Sublist (List.range Ts.length) ∧ (j < L.length → ks ≠ [] ∧ Pl.atW (Ts.map (·.L)) ks ((Pl.ways L L.length).drop j) = R) ∧ (j = L.length → o = R))) (fun _ _ i _ => L.length - (intOf i).toNat)
  case atStart => exact ⟨0, Nat.zero_le _, rfl, rfl, ⟨_, _, _, unhide A0, List.Sublist.refl _, fun _ => ⟨fun e => by have h := congrArg List.length e; rw [List.length_range, List.length_nil] at h; omega, unhide HR⟩, fun h => absurd h (by omega)⟩⟩
  case round =>
    obtain ⟨j, hj, rfl, rfl, HA⟩ := hrel
    clear A0 HR
    by_cases hlt : j < L.length
    · obtain ⟨t, ht⟩ : ∃ t, L[j]? = some t := ⟨_, List.getElem?_eq_getElem hlt⟩
      have htn := unhide HNM t (List.mem_of_getElem? ht)
      obtain ⟨ks, o, v, KQ, hsub, hgo, -⟩ := unhide HA
      obtain ⟨hne, EG⟩ := hgo hlt
      obtain ⟨gp, cp, rfl, hgB, hgp, hcK⟩ := ownI_cells KQ.ownK hne
      have cL := KQ.txt.cells (g := gl) rfl j (.string t) (by simp [ht])
      rw [Mem.add_lit] at cL
      have htz : t.size ≤ 20 := Nat.le_of_not_lt fun h => by rw [Pl.nameB_long h] at htn; cases htn
      have HJ := hide (WPathS.join1_any (Pl.glue (L.take j)) t wr (unhide HSZ j) (by omega))
      rw [Pl.way_join (unhide HNM) ht] at HJ
      have hk4 : ks.length ≤ 4 := by have := hsub.length_le; rw [List.length_range] at this; omega
      have HCH := hide (child_any (Pl.glue (L.take (j + 1))) Ts ks ad capt gp cp wr (Mem.trees_call (unhide HT) KQ.bel) hn4 hne hk4 (fun k hk => by have := hsub.subset hk; rw [List.mem_range] at this; exact this) hgp hcK (unhide HL))
      have HSA := hide (Pl.child_same (Ls := Ts.map (·.L)) (ks := ks) (q := Pl.glue (L.take (j + 1))) (by rw [List.length_map]; exact hn4) (unhide HTR) (by rw [List.length_map]; exact hsub))
      have HSU := hide (Pl.child_sub (Ls := Ts.map (·.L)) (ks := ks) (q := Pl.glue (L.take (j + 1))) (by rw [List.length_map]; exact hsub))
      have HLS : Hid (j + 1 = L.length → (if (Pl.childO (Ts.map (·.L)) ks (Pl.glue (L.take (j + 1)))).ok = true then (Pl.childO (Ts.map (·.L)) ks (Pl.glue (L.take (j + 1)))) else Pl.zeroO) = R) := fun h => (Pl.at_last h rfl).symm.trans EG
      have HMR : Hid (j + 1 < L.length → (if (Pl.childO (Ts.map (·.L)) ks (Pl.glue (L.take (j + 1)))).ok = true ∧ (Pl.childO (Ts.map (·.L)) ks (Pl.glue (L.take (j + 1)))).node.kind = 1 then Pl.atW (Ts.map (·.L)) (Pl.childO (Ts.map (·.L)) ks (Pl.glue (L.take (j + 1)))).parts ((Pl.ways L L.length).drop (j + 1)) else Pl.zeroO) = R) := fun h => (Pl.at_more h rfl).symm.trans EG
      have y1 : (j : Int) < (L.length : Int) := by omega
      have y2 : (0 : Int) ≤ (j : Int) := by omega
      have KA := hide KQ
      clear KQ hcK EG hgo HA hsub
      go_wp2_with fail
      refine (unhide HJ).mono ?_
      rintro e wJ ⟨rfl, hwJ⟩
      subst wJ
      clear HJ cL
      generalize hq : Pl.glue (L.take (j + 1)) = q at HCH HSA HSU HLS HMR ⊢
      generalize Pl.childO (Ts.map (·.L)) ks q = o' at HCH HSA HSU HLS HMR
      go_wp2_with fail
      refine (unhide HCH).mono ?_
      rintro e w2 ⟨v', rfl, hown', b2⟩
      obtain ⟨ok, ⟨np, nk, nd, nt, nm⟩, kz⟩ := o'
      obtain ⟨va, vc, rfl⟩ := ownI_shape hown'
      have hsz := (unhide KA).bel.size
      have hXl := (unhide KA).out.lt
      have hXg := (unhide KA).lt
      have KB := hide ((unhide KA).call b2)
      have own2 := hide (ownI_mono hown' (show w.heap.size + 1 ≤ wr.heap.size by omega))
      have far2 := hide (ownI_new hown' hXl)
      clear KA HCH b2 hown'
      simp only [cellsO]
      obtain ⟨ok0, ⟨np0, nk0, nd0, nt0, nm0⟩, kz0⟩ := o
      have c0 := (unhide KB).out.cell 0
      have cf0 := (unhide KB).out.fr 0
      have c1 := (unhide KB).out.cell 1
      have cf1 := (unhide KB).out.fr 1
      have c2 := (unhide KB).out.cell 2
      have cf2 := (unhide KB).out.fr 2
      have c3 := (unhide KB).out.cell 3
      have cf3 := (unhide KB).out.fr 3
      have c4 := (unhide KB).out.cell 4
      have cf4 := (unhide KB).out.fr 4
      have c5 := (unhide KB).out.cell 5
      have cf5 := (unhide KB).out.fr 5
      have c6 := (unhide KB).out.cell 6
      have cf6 := (unhide KB).out.fr 6
      simp only [cellsO, Pl.zeroN, kA0, kA1, kA2] at c0 c1 c2 c3 c4 c5 c6
      go_upto_region 10 with fail
      have KC := hide ((unhide KB).put (o' := ⟨ok, ⟨np, nk, nd, nt, nm⟩, kz⟩) (unhide own2) (unhide far2))
      clear KB own2 far2 c0 c1 c2 c3 c4 c5 c6 cf0 cf1 cf2 cf3 cf4 cf5 cf6
      simp only at KC
      generalize (((((((w2.setCell ⟨X, 0, none⟩ (.bool (ok))).setCell ⟨X, 1, none⟩ (.string (np))).setCell ⟨X, 2, none⟩ (.int .i64 (nk))).setCell ⟨X, 3, none⟩ (.string (nd))).setCell ⟨X, 4, none⟩ (.int .i64 (nt))).setCell ⟨X, 5, none⟩ (.int .i64 (nm))).setCell ⟨X, 6, none⟩ (.slice va kz.length vc)) = W3 at KC ⊢
      have d0 := (unhide KC).out.cell 0
      have d2 := (unhide KC).out.cell 2
      have d6 := (unhide KC).out.cell 6
      simp only [cellsO, kA0, kA1, kA2] at d0 d2 d6
      have hwl : IntKind.i64.wrap ((L.length : Int) - 1) = (L.length : Int) - 1 := by simp only [IntKind.wrap_i64]; omega
      cases ok with
      | false =>
        have EZ : Hid (Pl.zeroO = R) := by
          by_cases hz : j + 1 = L.length
          · have h := unhide HLS hz
            simp only [Bool.false_eq_true, if_false] at h
            exact h
          · have h := unhide HMR (by omega)
            simp only [Bool.false_eq_true, false_and, if_false] at h
            exact h
        clear HLS HMR HSA HSU
        go_upto_region 11 with fail
        clear d0 d2 d6
        have r0 := (unhide KC).res.cell 0
        have rf0 := (unhide KC).res.fr 0
        have r1 := (unhide KC).res.cell 1
        have rf1 := (unhide KC).res.fr 1
        have r2 := (unhide KC).res.cell 2
        have rf2 := (unhide KC).res.fr 2
        have r3 := (unhide KC).res.cell 3
        have rf3 := (unhide KC).res.fr 3
        have r4 := (unhide KC).res.cell 4
        have rf4 := (unhide KC).res.fr 4
        have r5 := (unhide KC).res.cell 5
        have rf5 := (unhide KC).res.fr 5
        have r6 := (unhide KC).res.cell 6
        have rf6 := (unhide KC).res.fr 6
        simp only [cellsO, Pl.zeroN, kA0, kA1, kA2] at r0 r1 r2 r3 r4 r5 r6
        have RT := hide (ret7 (unhide KC).bel (unhide KC).res rfl (ownI_nil _ _) (false) (⟨#[]⟩) (0) (⟨#[]⟩) (0) (0) (.slice none 0 0))
        have EV := EZ
        go_wp2
        generalize (((((((W3.setCell ⟨w.heap.size, 0, none⟩ (.bool (false))).setCell ⟨w.heap.size, 1, none⟩ (.string (⟨#[]⟩))).setCell ⟨w.heap.size, 2, none⟩ (.int .i64 (0))).setCell ⟨w.heap.size, 3, none⟩ (.string (⟨#[]⟩))).setCell ⟨w.heap.size, 4, none⟩ (.int .i64 (0))).setCell ⟨w.heap.size, 5, none⟩ (.int .i64 (0))).setCell ⟨w.heap.size, 6, none⟩ (.slice none 0 0)) = WR at RT ⊢
        have q0 := (unhide RT).1.cell 0
        have q1 := (unhide RT).1.cell 1
        have q2 := (unhide RT).1.cell 2
        have q3 := (unhide RT).1.cell 3
        have q4 := (unhide RT).1.cell 4
        have q5 := (unhide RT).1.cell 5
        have q6 := (unhide RT).1.cell 6
        simp only [kA0, kA1, kA2] at q0 q1 q2 q3 q4 q5 q6
        exact bodyPost_ret (v := .agg #[.bool (false), .string (⟨#[]⟩), .int .i64 (0), .string (⟨#[]⟩), .int .i64 (0), .int .i64 (0), .slice none 0 0]) (by simp [results, Tryz.results75, go_sem, q0, q1, q2, q3, q4, q5, q6]) rfl ⟨.slice none 0 0, by rw [← unhide EV]; rfl, by rw [← unhide EV]; exact (unhide RT).2.2, (unhide RT).2.1⟩
      | true =>
        by_cases hz : j + 1 = L.length
        · have EF : Hid ((⟨true, ⟨np, nk, nd, nt, nm⟩, kz⟩ : Pl.Ot) = R) := by
            have h := unhide HLS hz
            simp only [if_true] at h
            exact h
          have y5 : ¬ (j : Int) < (L.length : Int) - 1 := by omega
          have HSU2 : Hid (kz.Sublist (List.range Ts.length)) := by have h := unhide HSU; rw [List.length_map] at h; exact h
          clear HLS HMR HSA HSU
          go_wp2
          go_roundw
          case rel => exact ⟨j + 1, by omega, by go_num, by rw [hq], ⟨kz, _, _, (unhide KC).next, unhide HSU2, fun h => absurd h (by omega), fun _ => unhide EF⟩⟩
          case measure => simp [intOf]; omega
        · have hz2 : j + 1 < L.length := by omega
          have y5 : (j : Int) < (L.length : Int) - 1 := by omega
          by_cases hk1 : nk = 1
          · subst hk1
            have EF : Hid (Pl.atW (Ts.map (·.L)) kz ((Pl.ways L L.length).drop (j + 1)) = R) := by
              have h := unhide HMR hz2
              simp only [and_self, if_true] at h
              exact h
            have HNE : Hid (kz ≠ []) := fun e => (unhide HSA).no e rfl rfl
            have HSU2 : Hid (kz.Sublist (List.range Ts.length)) := by have h := unhide HSU; rw [List.length_map] at h; exact h
            clear HLS HMR HSA HSU
            go_wp2
            go_roundw
            case rel => exact ⟨j + 1, by omega, by go_num, by rw [hq], ⟨kz, _, _, (unhide KC).next, unhide HSU2, fun _ => ⟨unhide HNE, unhide EF⟩, fun h => absurd h (by omega)⟩⟩
            case measure => simp [intOf]; omega
          · have EZ : Hid (Pl.zeroO = R) := by
              have h := unhide HMR hz2
              simp only [hk1, and_false, if_false] at h
              exact h
            clear HLS HMR HSA HSU
            go_upto_region 11 with fail
            clear d0 d2 d6
            have r0 := (unhide KC).res.cell 0
            have rf0 := (unhide KC).res.fr 0
            have r1 := (unhide KC).res.cell 1
            have rf1 := (unhide KC).res.fr 1
            have r2 := (unhide KC).res.cell 2
            have rf2 := (unhide KC).res.fr 2
            have r3 := (unhide KC).res.cell 3
            have rf3 := (unhide KC).res.fr 3
            have r4 := (unhide KC).res.cell 4
            have rf4 := (unhide KC).res.fr 4
            have r5 := (unhide KC).res.cell 5
            have rf5 := (unhide KC).res.fr 5
            have r6 := (unhide KC).res.cell 6
            have rf6 := (unhide KC).res.fr 6
            simp only [cellsO, Pl.zeroN, kA0, kA1, kA2] at r0 r1 r2 r3 r4 r5 r6
            have RT := hide (ret7 (unhide KC).bel (unhide KC).res rfl (ownI_nil _ _) (false) (⟨#[]⟩) (0) (⟨#[]⟩) (0) (0) (.slice none 0 0))
            have EV := EZ
            go_wp2
            generalize (((((((W3.setCell ⟨w.heap.size, 0, none⟩ (.bool (false))).setCell ⟨w.heap.size, 1, none⟩ (.string (⟨#[]⟩))).setCell ⟨w.heap.size, 2, none⟩ (.int .i64 (0))).setCell ⟨w.heap.size, 3, none⟩ (.string (⟨#[]⟩))).setCell ⟨w.heap.size, 4, none⟩ (.int .i64 (0))).setCell ⟨w.heap.size, 5, none⟩ (.int .i64 (0))).setCell ⟨w.heap.size, 6, none⟩ (.slice none 0 0)) = WR at RT ⊢
            have q0 := (unhide RT).1.cell 0
            have q1 := (unhide RT).1.cell 1
            have q2 := (unhide RT).1.cell 2
            have q3 := (unhide RT).1.cell 3
            have q4 := (unhide RT).1.cell 4
            have q5 := (unhide RT).1.cell 5
            have q6 := (unhide RT).1.cell 6
            simp only [kA0, kA1, kA2] at q0 q1 q2 q3 q4 q5 q6
            exact bodyPost_ret (v := .agg #[.bool (false), .string (⟨#[]⟩), .int .i64 (0), .string (⟨#[]⟩), .int .i64 (0), .int .i64 (0), .slice none 0 0]) (by simp [results, Tryz.results75, go_sem, q0, q1, q2, q3, q4, q5, q6]) rfl ⟨.slice none 0 0, by rw [← unhide EV]; rfl, by rw [← unhide EV]; exact (unhide RT).2.2, (unhide RT).2.1⟩
    · obtain rfl : j = L.length := by omega
      obtain ⟨ks, o, v, KQ, -, -, hend⟩ := unhide HA
      obtain ⟨ok, ⟨np, nk, nd, nt, nm⟩, kz⟩ := o
      obtain ⟨va, vc, rfl⟩ := ownI_shape KQ.own
      have EF : Hid ((⟨ok, ⟨np, nk, nd, nt, nm⟩, kz⟩ : Pl.Ot) = R) := hend rfl
      have y2 : ¬ (L.length : Int) < (L.length : Int) := by omega
      have KC := hide KQ
      simp only at KC
      clear KQ hend HA
      go_upto_region 13 with fail
      have c0 := (unhide KC).out.cell 0
      have cf0 := (unhide KC).out.fr 0
      have c1 := (unhide KC).out.cell 1
      have cf1 := (unhide KC).out.fr 1
      have c2 := (unhide KC).out.cell 2
      have cf2 := (unhide KC).out.fr 2
      have c3 := (unhide KC).out.cell 3
      have cf3 := (unhide KC).out.fr 3
      have c4 := (unhide KC).out.cell 4
      have cf4 := (unhide KC).out.fr 4
      have c5 := (unhide KC).out.cell 5
      have cf5 := (unhide KC).out.fr 5
      have c6 := (unhide KC).out.cell 6
      have cf6 := (unhide KC).out.fr 6
      simp only [cellsO, Pl.zeroN, kA0, kA1, kA2] at c0 c1 c2 c3 c4 c5 c6
      have r0 := (unhide KC).res.cell 0
      have rf0 := (unhide KC).res.fr 0
      have r1 := (unhide KC).res.cell 1
      have rf1 := (unhide KC).res.fr 1
      have r2 := (unhide KC).res.cell 2
      have rf2 := (unhide KC).res.fr 2
      have r3 := (unhide KC).res.cell 3
      have rf3 := (unhide KC).res.fr 3
      have r4 := (unhide KC).res.cell 4
      have rf4 := (unhide KC).res.fr 4
      have r5 := (unhide KC).res.cell 5
      have rf5 := (unhide KC).res.fr 5
      have r6 := (unhide KC).res.cell 6
      have rf6 := (unhide KC).res.fr 6
      simp only [cellsO, Pl.zeroN, kA0, kA1, kA2] at r0 r1 r2 r3 r4 r5 r6
      have RT := hide (ret7 (unhide KC).bel (unhide KC).res rfl (unhide KC).own (ok) (np) (nk) (nd) (nt) (nm) (.slice va kz.length vc))
      have EV := EF
      go_wp2
      generalize (((((((wr.setCell ⟨w.heap.size, 0, none⟩ (.bool (ok))).setCell ⟨w.heap.size, 1, none⟩ (.string (np))).setCell ⟨w.heap.size, 2, none⟩ (.int .i64 (nk))).setCell ⟨w.heap.size, 3, none⟩ (.string (nd))).setCell ⟨w.heap.size, 4, none⟩ (.int .i64 (nt))).setCell ⟨w.heap.size, 5, none⟩ (.int .i64 (nm))).setCell ⟨w.heap.size, 6, none⟩ (.slice va kz.length vc)) = WR at RT ⊢
      have q0 := (unhide RT).1.cell 0
      have q1 := (unhide RT).1.cell 1
      have q2 := (unhide RT).1.cell 2
      have q3 := (unhide RT).1.cell 3
      have q4 := (unhide RT).1.cell 4
      have q5 := (unhide RT).1.cell 5
      have q6 := (unhide RT).1.cell 6
      simp only [kA0, kA1, kA2] at q0 q1 q2 q3 q4 q5 q6
      exact bodyPost_ret (v := .agg #[.bool (ok), .string (np), .int .i64 (nk), .string (nd), .int .i64 (nt), .int .i64 (nm), .slice va kz.length vc]) (by simp [results, Tryz.results75, go_sem, q0, q1, q2, q3, q4, q5, q6]) rfl ⟨.slice va kz.length vc, by rw [← unhide EV]; rfl, by rw [← unhide EV]; exact (unhide RT).2.2, (unhide RT).2.1⟩

end WPick
end Go.Proofs.YtepmojmelcngeaaGreatDoor

