/- The walk of the law FnExactLayersOf, over the walks of the two functions and of the laws' own (by genLL.py). -/
import Derived.Test.YtkfpfckmjgjanabDoorWLayOfS
import Derived.Test.YtkfpfckmjgjanabDoorWIntL
import Derived.Test.YtkfpfckmjgjanabDoorWMkL
import Derived.Test.YtkfpfckmjgjanabDoorWLawM
import Derived.Test.YtkfpfckmjgjanabDoorOpenLay
namespace Go.Proofs.YtkfpfckmjgjanabDoor
open Go.RowKit
namespace Pl
theorem layO_len (Ls : List (List Nd)) (p : ByteArray) : (layO Ls p).length ≤ 4 := by
  unfold layO
  split
  · rename_i h
    have h2 := filter_len (fun i => (seenS Ls p).have'.getD i false) Ls.length
    have h3 := (lay_ok h.1).1
    omega
  · exact Nat.zero_le _
end Pl
namespace fnExactLayersOf
theorem same_ok {D Ts : List Pl.Tr} {P : List Pl.Nd → Prop} (h : D.map (·.L) = Ts.map (·.L)) (hp : ∀ t ∈ Ts, P t.L) : ∀ t ∈ D, P t.L := fun t ht => by
  have : t.L ∈ Ts.map (·.L) := by rw [← h]; exact List.mem_map.2 ⟨t, ht, rfl⟩
  obtain ⟨u, hu, e⟩ := List.mem_map.1 this
  rw [← e]; exact hp u hu
/-- What a law keeps: its argument's variable, and what the specification answered. -/
structure LK (w W : World) (a : Option Addr) (n cap Y : Nat) (u : Value) (K : List Nat) : Prop where
  bel : Below w.heap.size w W
  arg : Mem.Blk W w.heap.size #[.slice a n cap] 24
  own : WIntL.Own W (w.heap.size + 1) u K
  hi : ∀ g, u.ownBlock = some g → g < Y
  y : w.heap.size < Y
theorem LK.call {w W W' : World} {a : Option Addr} {n cap Y : Nat} {u : Value} {K : List Nat} (h : LK w W a n cap Y u K) (b : Below W.heap.size W W') : LK w W' a n cap Y u K :=
  ⟨h.bel.trans (b.mono h.bel.size), h.arg.call b, h.own.call b, h.hi, h.y⟩
theorem LK.band {w W W' : World} {a : Option Addr} {n cap Y g X : Nat} {u : Value} {K : List Nat} (h : LK w W a n cap Y u K) (b : Mem.Band g X W W') (hg : Y ≤ g) : LK w W' a n cap Y u K :=
  ⟨b.below h.bel (by have := h.y; omega) h.bel.size, b.blk h.arg (.inl (by have := h.y; omega)), b.row h.own (fun q hq => .inl (by have := h.hi q hq; omega)), h.hi, h.y⟩
theorem LK.grown {w W W' : World} {a : Option Addr} {n cap Y : Nat} {u : Value} {K : List Nat} {r : Option Nat} (h : LK w W a n cap Y u K) (b : W.grownBy W' r) (hr : ∀ g, r = some g → Y ≤ g) : LK w W' a n cap Y u K :=
  ⟨h.bel.grown b h.bel.size (fun q hq => by have := hr q hq; have := h.y; omega), h.arg.grown b (fun e => by have := hr _ e.symm; have := h.y; omega),
    WPick.row_grown h.own b (fun g hg e => by have := hr _ e.symm; have := h.hi g hg; omega), h.hi, h.y⟩
/-- The argument of the program's call. -/
structure XL (W : World) (X g n : Nat) (D : List Pl.Tr) : Prop where
  var : Mem.Blk W X #[.slice (some ⟨g, 0, none⟩) n n] 29
  has : WMkL.Has W g X D
  trees : Mem.isTrees W (some ⟨g, 0, none⟩) D
theorem XL.call {W W' : World} {X g n : Nat} {D : List Pl.Tr} (h : XL W X g n D) (b : Below W.heap.size W W') : XL W' X g n D := ⟨h.var.call b, h.has.call b, Mem.trees_call h.trees b⟩
set_option linter.unusedSimpArgs false in
set_option maxRecDepth 100000 in
set_option maxHeartbeats 4000000 in
theorem walk (a : Option Addr) (Ts : List Pl.Tr) (cap : Nat) (p : ByteArray) (w : World) (ok : OpenL.OkL w a Ts) (_okp : p.size ≤ maxLen) (r1 r2 r3 : TypeId) (x1 x2 x3 : Value) (hE : WNodesI.Errs w r1 r2 r3 x1 x2 x3) :
    Calls Tryd.prog 6 #[.agg #[.slice a Ts.length cap], .string p] w fun e w' => e = .returned (.bool true) ∧ Below w.heap.size w w' := by
  obtain ⟨hl, hv, hok⟩ := ok
  have b0 : Below w.heap.size w (w.alloc (.cells #[.slice a Ts.length cap] 24)) := (Below.refl _ _).alloc (Nat.le_refl _) _
  have hsz := hide (fun W (b : Below w.heap.size w W) => WLaw.szLayers_any a cap Ts W hl (Mem.trees_call hv b) (fun t ht => ⟨(hok t ht).1, fun n hn => ⟨((hok t ht).2 n hn).1, ((hok t ht).2 n hn).2.1⟩⟩))
  have htt := hide (fun W (b : Below w.heap.size w W) (h2 : Ts.length ≤ 1048576) h3 => WLawX.toLayers_any a cap Ts W h2 (Mem.trees_call hv b) h3)
  have heq := hide (fun (g g' : Nat) (D E : List Pl.Tr) W (h2 : Ts.length ≤ 1048576) (hd : D.length = Ts.length) (hD : D.map (·.L) = Ts.map (·.L)) (hE : E.map (·.L) = Ts.map (·.L)) h3 h4 (h5 : ∀ t ∈ Ts, t.L.length ≤ 1048576) => by
    have := WLaw.eqLayers_any (some ⟨g, 0, none⟩) (some ⟨g', 0, none⟩) D.length D.length D E W (by omega) (hE.trans hD.symm) h3 h4 (same_ok (P := fun L => L.length ≤ 1048576) hD h5)
    rw [hd] at this; exact this)
  have hs := hide (fun (g : Nat) (D : List Pl.Tr) W (h2 : Ts.length ≤ 1048576) (hd : D.length = Ts.length) (hD : D.map (·.L) = Ts.map (·.L)) h3 (h4 : (∀ t ∈ Ts, t.L.length ≤ 1048576 ∧ ∀ n ∈ t.L, n.path.size ≤ 1048576 ∧ n.data.size ≤ 1048576)) (h6 : p.size ≤ 1048576) => by
    have := WIntL.spec_any (some ⟨g, 0, none⟩) D.length D p W (by omega) h3 (same_ok (P := fun L => L.length ≤ 1048576 ∧ ∀ n ∈ L, n.path.size ≤ 1048576 ∧ n.data.size ≤ 1048576) hD h4) h6
    rw [hd, hD] at this; exact this)
  have hi := hide (fun (g : Nat) (D : List Pl.Tr) W (h2 : Ts.length ≤ 1048576) (hd : D.length = Ts.length) (hD : D.map (·.L) = Ts.map (·.L)) h3 (h4 : (∀ t ∈ Ts, t.L.length ≤ 1048576 ∧ ∀ n ∈ t.L, n.path.size ≤ 1048576 ∧ n.data.size ≤ 1048576)) (h6 : p.size ≤ 1048576) h5 => by
    have := WIntL.impl_any (some ⟨g, 0, none⟩) D.length D p W (by omega) h3 (same_ok (P := fun L => L.length ≤ 1048576 ∧ ∀ n ∈ L, n.path.size ≤ 1048576 ∧ n.data.size ≤ 1048576) hD h4) h6 r1 r2 r3 x1 x2 x3 h5
    rw [hd, hD] at this; exact this)
  have hmx := hide (fun (g X : Nat) (D : List Pl.Tr) W (h2 : Ts.length ≤ 1048576) (hd : D.length = Ts.length) (hD : D.map (·.L) = Ts.map (·.L)) (h5 : ∀ t ∈ Ts, t.L.length ≤ 1048576) h3 => by
    have := WMkL.mark_any g X D.length D W (by omega) (same_ok (P := fun L => L.length ≤ 1048576) hD h5) h3
    rw [hd] at this; exact this)
  have hkl := Pl.layO_len (Ts.map (·.L)) p
  generalize Pl.layO (Ts.map (·.L)) p = K at hs hi hkl
  have heo := hide (fun (v u : Value) W h3 h4 => WIntL.eq_any v u K W (by omega) h3 h4)
  have hmo := hide (fun (v : Value) (B : Nat) W h3 => WIntL.lay_own v B K W (by omega) h3)
  have hho := hide (fun (v : Value) W h3 => WIntL.held_any v K.length W (by omega) h3)
  have HE := hide hE
  have A0 := Mem.Blk.new w #[.slice a Ts.length cap] 24
  clear hv hok hE
  by_cases hz : 1048576 < p.size
  · have t0 : (1048576 : Int) < (p.size : Int) := by omega
    go_enter Tryd.func6, Tryd.ntmps6
    go_wp2
    go_ret
    exact ⟨rfl, b0⟩
  have t0 : ¬ (1048576 : Int) < (p.size : Int) := by omega
  have hp : p.size ≤ 1048576 := by omega
  clear hz
  have HP := hide hp
  clear hp
  go_enter Tryd.func6, Tryd.ntmps6
  go_wp2_with fail
  refine (unhide hsz _ b0).mono ?_
  rintro e w1 ⟨⟨r, rfl, hr⟩, b1⟩
  have bw1 := b0.trans (b1.mono b0.size)
  have A1 := A0.call b1
  clear b0 b1 A0 hsz
  rcases hr with rfl | ⟨hr0, hr1, hl2, hz⟩
  · clear A1
    go_wp2
    go_ret
    exact ⟨rfl, bw1⟩
  have hr2 : ¬ r < 0 := by omega
  have HZ := hide hz
  have HZ1 := hide (fun t ht => (hz t ht).1)
  clear hz
  have c0 := A1.cell 0
  simp only [kA0, kA1, kA2] at c0
  go_wp2_with fail
  refine (unhide htt _ bw1 hl2 (unhide HZ1)).mono ?_
  rintro e w2 ⟨g1, D1, rfl, -, hd1, hm1, hn1, b2⟩
  have bw2 := bw1.trans (b2.mono bw1.size)
  have A2 := A1.call b2
  have HN1 := hide hn1.trees
  have HM1 := hide hm1
  clear bw1 b2 A1 c0 hn1 hm1
  go_wp2_with fail
  refine (unhide hs g1 D1 _ hl2 hd1 (unhide HM1) (unhide HN1) (unhide HZ) (unhide HP)).mono ?_
  rintro e w3 ⟨u, rfl, ownw, b3⟩
  have S3 : LK w w3 a Ts.length cap w3.heap.size u K :=
    ⟨bw2.trans (b3.mono bw2.size), A2.call b3, Mem.own_mono ownw (by have := A2.lt; omega), fun g hg => (World.ownsRow.lt ownw g hg).2, Nat.lt_of_lt_of_le A2.lt b3.size⟩
  clear bw2 b3 A2 HN1 HM1 hs ownw hd1
  have c0 := S3.arg.cell 0
  simp only [kA0, kA1, kA2] at c0
  have K3 := hide S3
  clear S3
  go_wp2_with fail
  refine (unhide htt _ (unhide K3).bel hl2 (unhide HZ1)).mono ?_
  rintro e w5 ⟨g2, D2, rfl, hg2, hd2, hm2, hr5, b5⟩
  have S5 := (unhide K3).call b5
  have HM2 := hide hm2
  have hYw : w3.heap.size ≤ w5.heap.size := b5.size
  have hgX : g2 < w5.heap.size := hr5.lt
  generalize w3.heap.size = Y at S5 hg2 hYw
  have b6 : Below w5.heap.size w5 (w5.alloc (.cells #[.slice (some ⟨g2, 0, none⟩) Ts.length Ts.length] 29)) := (Below.refl _ _).alloc (Nat.le_refl _) _
  have S6 := hide (S5.call b6)
  have X6 : Hid (XL (w5.alloc (.cells #[.slice (some ⟨g2, 0, none⟩) Ts.length Ts.length] 29)) w5.heap.size g2 Ts.length D2) := ⟨Mem.Blk.new _ _ _, (WMkL.has_rows hr5).call b6, Mem.trees_call hr5.trees b6⟩
  have hE6 := hide ((unhide HE).call (unhide S6).bel)
  have hX : (w5.alloc (.cells #[.slice (some ⟨g2, 0, none⟩) Ts.length Ts.length] 29)).heap.size = w5.heap.size + 1 := by simp
  clear K3 b5 S5 b6 hr5 hm2 c0
  go_wp2_with fail
  refine (unhide hi g2 D2 _ hl2 hd2 (unhide HM2) (unhide X6).trees (unhide HZ) (unhide HP) (unhide hE6)).mono ?_
  rintro e w7 ⟨v, rfl, owng, b7⟩
  rw [hX] at owng
  have S8 := hide ((unhide S6).call b7)
  have X8 := hide ((unhide X6).call b7)
  have G8 : Hid (WIntL.Own w7 (w5.heap.size + 1) v K) := owng
  clear S6 X6 hE6 b7 hX owng
  generalize w5.heap.size = X at X8 G8 hYw hgX ⊢
  go_wp2_with fail
  refine (unhide heo v u _ (unhide G8).ints (unhide S8).own.ints).mono ?_
  rintro e w6 ⟨rfl, b9⟩
  have S9 := (unhide S8).call b9
  have X9 := (unhide X8).call b9
  have G9 := hide ((unhide G8).call b9)
  clear S8 X8 G8 b9
  have c0 := S9.arg.cell 0
  simp only [kA0, kA1, kA2] at c0
  have d0 := X9.var.cell 0
  simp only [kA0, kA1, kA2] at d0
  have hc0 : w.heap.size < w6.heap.size := S9.arg.lt
  have hd0 : X < w6.heap.size := X9.var.lt
  have K9 := hide S9
  have KX := hide X9
  have MK : Hid (∀ W', Below w6.heap.size w6 W' → (Below w6.heap.size w6 W' ∧ W'.cell? ⟨w.heap.size, 0, none⟩ = some (.slice a Ts.length cap) ∧ W'.cell? ⟨X, 0, none⟩ = some (.slice (some ⟨g2, 0, none⟩) Ts.length Ts.length))) := fun W' hb' => ⟨hb', (hb'.cell (p := ⟨w.heap.size, 0, none⟩) hc0).trans c0, (hb'.cell (p := ⟨X, 0, none⟩) hd0).trans d0⟩
  clear c0 d0 hc0 hd0 S9 X9
  go_wp2_with fail
  refine wp_region_held_drew (S := fun W' => Below w6.heap.size w6 W' ∧ W'.cell? ⟨w.heap.size, 0, none⟩ = some (.slice a Ts.length cap) ∧ W'.cell? ⟨X, 0, none⟩ = some (.slice (some ⟨g2, 0, none⟩) Ts.length Ts.length)) (by kernel_rfl) ?_ (fun hHeld => ?_)
  · exact unhide MK _ ((Below.refl _ _).trans ⟨rfl, rfl, rfl, Nat.le_refl _, fun _ _ => rfl⟩)
  refine wpAnyH_take (i := 0) (v := ?_) rfl (by kernel_rfl) (by kernel_rfl) (by kernel_rfl) (fun _ _ _ h => h) (Or.inl ⟨by rfl, ?_⟩) (by assumption) ?_
  rotate_left
  · (intro w hSw; (try dsimp only at hSw); go_simp; (try with_reducible rfl))
  try simp only [Act.put, kB0, kB1, kB2, kB3, kB4, kB5]
  refine wpAnyH_take (i := 1) (v := ?_) rfl (by kernel_rfl) (by kernel_rfl) (by kernel_rfl) (fun _ _ _ h => h) (Or.inl ⟨by rfl, ?_⟩) (by assumption) ?_
  rotate_left
  · (intro w hSw; (try dsimp only at hSw); go_simp; (try with_reducible rfl))
  try simp only [Act.put, kB0, kB1, kB2, kB3, kB4, kB5]
  refine wpAnyH_ready (rs := [2]) (by kernel_rfl) (by simp) ?_
  refine AllReadyH.cons rfl (fun K hK => ?_) AllReadyH.nil
  go_simp
  refine (unhide htt _ ((unhide K9).bel.trans (hHeld.1.mono (unhide K9).bel.size)) hl2 (unhide HZ1)).mono ?_
  rintro e wX ⟨g3, D3, rfl, -, hd3, hm3, hn3, bX⟩
  refine hK.out _ _ ?_ (fun hHeld => ?_)
  · exact unhide MK _ (hHeld.1.trans (bX.mono hHeld.1.size))
  clear hK K
  try simp only [Act.put, kB0, kB1, kB2, kB3, kB4, kB5]
  refine wpAnyH_ready (rs := [3]) (by kernel_rfl) (by simp) ?_
  refine AllReadyH.cons rfl (fun K hK => ?_) AllReadyH.nil
  go_simp
  refine (unhide heq g2 g3 D2 D3 _ hl2 hd2 (unhide HM2) hm3 (Mem.trees_call (unhide KX).trees hHeld.1) hn3.trees (unhide HZ1)).mono ?_
  rintro e wX ⟨rfl, bX⟩
  refine hK.out _ _ ?_ (fun hHeld => ?_)
  · exact unhide MK _ (hHeld.1.trans (bX.mono hHeld.1.size))
  clear hK K
  try simp only [Act.put, kB0, kB1, kB2, kB3, kB4, kB5]
  refine wpAnyH_take (i := 4) (v := ?_) rfl (by kernel_rfl) (by kernel_rfl) (by kernel_rfl) (fun _ _ _ h => h) (Or.inl ⟨by rfl, ?_⟩) (by assumption) ?_
  rotate_left
  · (intro w hSw; (try dsimp only at hSw); go_simp; (try with_reducible rfl))
  try simp only [Act.put, kB0, kB1, kB2, kB3, kB4, kB5]
  refine wpAnyH_done (by kernel_rfl) ?_ _
  have S10 := hide ((unhide K9).call hHeld.1)
  have X10 := hide ((unhide KX).call hHeld.1)
  have G10 := hide ((unhide G9).call hHeld.1)
  clear K9 KX G9 MK hn3 bX heq hd3 hm3
  have d0 := (unhide X10).var.cell 0
  simp only [kA0, kA1, kA2] at d0
  clear hHeld
  go_wp2_with fail
  refine (unhide hmx g2 X D2 _ hl2 hd2 (unhide HM2) (unhide HZ1) (unhide X10).has).mono ?_
  rintro e w11 ⟨⟨kk, rfl, hkk⟩, hband⟩
  have S12 := hide ((unhide S10).band hband hg2)
  have G12 : Hid (WIntL.Own w11 (X + 1) v K) := hband.row (unhide G10) (fun g hg => by have := ((unhide G10).lt g hg).1; omega)
  have HK0 : ¬ ((kk : Nat) : Int) < 0 := by omega
  have hXY : Y ≤ X := by omega
  clear S10 X10 G10 hband hmx d0 hkk
  go_wp2_with fail
  refine (unhide heo v u _ (unhide G12).ints (unhide S12).own.ints).mono ?_
  rintro e w13 ⟨rfl, b13⟩
  have S13 := hide ((unhide S12).call b13)
  have G14 := hide ((unhide G12).call b13)
  clear S12 G12 b13
  go_wp2_with fail
  refine (unhide hmo v _ _ (unhide G14)).mono ?_
  rintro e w15 ⟨rfl, hn15, hg15⟩
  have S15 := hide ((unhide S13).grown hg15 (fun g hg => by have := ((unhide G14).lt g hg).1; omega))
  have M16 := hide hn15
  have HM0 : ¬ ((1 + K.length : Nat) : Int) < 0 := by omega
  clear S13 G14 hn15 hg15 hmo
  generalize 1 + K.length = mm at HM0 hho ⊢
  go_wp2_with fail
  refine (unhide hho v _ (unhide M16)).mono ?_
  rintro e w17 ⟨rfl, b17⟩
  have S17 := hide ((unhide S15).call b17)
  have M17 := hide (WIntL.ints_call (unhide M16) b17)
  clear S15 M16 b17
  have c0 := (unhide S17).arg.cell 0
  simp only [kA0, kA1, kA2] at c0
  go_wp2_with fail
  refine (unhide htt _ (unhide S17).bel hl2 (unhide HZ1)).mono ?_
  rintro e w18 ⟨g4, D4, rfl, -, hd4, hm4, hn4, b18⟩
  have S18 := hide ((unhide S17).call b18)
  have M18 := hide (WIntL.ints_call (unhide M17) b18)
  have HN4 := hide hn4.trees
  have HM4 := hide hm4
  have hE18 := hide ((unhide HE).call (unhide S18).bel)
  clear S17 M17 b18 hn4 c0 hm4
  go_wp2_with fail
  refine (unhide hi g4 D4 _ hl2 hd4 (unhide HM4) (unhide HN4) (unhide HZ) (unhide HP) (unhide hE18)).mono ?_
  rintro e w19 ⟨vh, rfl, ownh, b19⟩
  have S20 := hide ((unhide S18).call b19)
  have M20 := hide (WIntL.ints_call (unhide M18) b19)
  have OH := hide (WIntL.Own.ints ownh)
  clear S18 M18 b19 ownh HN4 hE18
  go_wp2_with fail
  refine (unhide heo vh u _ (unhide OH) (unhide S20).own.ints).mono ?_
  rintro e w21 ⟨rfl, b21⟩
  have S21 := hide ((unhide S20).call b21)
  have M21 := hide (WIntL.ints_call (unhide M20) b21)
  clear S20 M20 b21 OH
  go_wp2_with fail
  refine (unhide hho v _ (unhide M21)).mono ?_
  rintro e w22 ⟨rfl, b22⟩
  have bfin := ((unhide S21).call b22).bel
  clear S21 M21 b22
  go_wp2
  go_ret
  exact ⟨rfl, bfin⟩
end fnExactLayersOf
end Go.Proofs.YtkfpfckmjgjanabDoor
