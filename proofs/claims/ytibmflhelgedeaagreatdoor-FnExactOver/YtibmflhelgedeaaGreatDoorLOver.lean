/- The walk of the law FnExactOver (by genLO.py), over the walks of the two functions and of the laws' own. -/
import Derived.Test.YtibmflhelgedeaaGreatDoorG63
import Derived.Test.YtibmflhelgedeaaGreatDoorG61
import Derived.Test.YtibmflhelgedeaaGreatDoorG73
import Derived.Test.YtibmflhelgedeaaGreatDoorG49
namespace Go.Proofs.YtibmflhelgedeaaGreatDoor
open Go.RowKit
namespace Pl
theorem overN_len (Ls : List (List Nd)) (O : List Nd) : (overN Ls O).length ≤ 40 := by
  unfold overN
  split
  · rename_i h; exact h.2
  · exact Nat.zero_le _
end Pl
namespace fnExactOver
theorem same_ok {D Ts : List Pl.Tr} {P : List Pl.Nd → Prop} (h : D.map (·.L) = Ts.map (·.L)) (hp : ∀ t ∈ Ts, P t.L) : ∀ t ∈ D, P t.L := fun t ht => by
  have : t.L ∈ Ts.map (·.L) := by rw [← h]; exact List.mem_map.2 ⟨t, ht, rfl⟩
  obtain ⟨u, hu, e⟩ := List.mem_map.1 this
  rw [← e]; exact hp u hu
/-- What a law keeps: its argument's variable, and what the specification answered. -/
structure OW (w W : World) (a : Option Addr) (n cap Y B1 : Nat) (aw : Option Addr) (cw : Nat) (O : List Pl.Nd) (c : Int) : Prop where
  bel : Below w.heap.size w W
  arg : Mem.Blk W w.heap.size #[.slice a n cap] 81
  var : Mem.Blk W Y #[.slice aw O.length cw, .int .i64 c] 31
  own : Mem.ownN W B1 (.slice aw O.length cw) O
  lo : w.heap.size < B1
  hi : ∀ g, (Value.slice aw O.length cw).ownBlock = some g → g < Y
  y : w.heap.size < Y
theorem OW.call {w W W' : World} {a aw : Option Addr} {n cap Y B1 cw : Nat} {O : List Pl.Nd} {c : Int} (h : OW w W a n cap Y B1 aw cw O c) (b : Below W.heap.size W W') : OW w W' a n cap Y B1 aw cw O c :=
  ⟨h.bel.trans (b.mono h.bel.size), h.arg.call b, h.var.call b, Mem.ownN_call h.own b, h.lo, h.hi, h.y⟩
theorem OW.band {w W W' : World} {a aw : Option Addr} {n cap Y B1 cw g X : Nat} {O : List Pl.Nd} {c : Int} (h : OW w W a n cap Y B1 aw cw O c) (b : Mem.Band g X W W') (hg : Y < g) : OW w W' a n cap Y B1 aw cw O c :=
  ⟨b.below h.bel (by have := h.y; omega) h.bel.size, b.blk h.arg (.inl (by have := h.y; omega)), b.blk h.var (.inl hg), b.row h.own (fun q hq => .inl (by have := h.hi q hq; omega)), h.lo, h.hi, h.y⟩
theorem OW.grown {w W W' : World} {a aw : Option Addr} {n cap Y B1 cw : Nat} {O : List Pl.Nd} {c : Int} {r : Option Nat} (h : OW w W a n cap Y B1 aw cw O c) (b : W.grownBy W' r) (hr : ∀ g, r = some g → Y < g) : OW w W' a n cap Y B1 aw cw O c :=
  ⟨h.bel.grown b h.bel.size (fun q hq => by have := hr q hq; have := h.y; omega), h.arg.grown b (fun e => by have := hr _ e.symm; have := h.y; omega), h.var.grown b (fun e => by have := hr _ e.symm; omega),
    Mem.ownN_grown h.own b (fun g hg e => by have := hr _ e.symm; have := h.hi g hg; omega), h.lo, h.hi, h.y⟩
/-- The argument of the program's call. -/
structure XL (W : World) (X g n : Nat) (D : List Pl.Tr) : Prop where
  var : Mem.Blk W X #[.slice (some ⟨g, 0, none⟩) n n] 56
  has : WMkL.Has W g X D
  trees : Mem.isTrees W (some ⟨g, 0, none⟩) D
theorem XL.call {W W' : World} {X g n : Nat} {D : List Pl.Tr} (h : XL W X g n D) (b : Below W.heap.size W W') : XL W' X g n D := ⟨h.var.call b, h.has.call b, Mem.trees_call h.trees b⟩
set_option linter.unusedSimpArgs false in
set_option maxRecDepth 100000 in
set_option maxHeartbeats 4000000 in
theorem walk (a : Option Addr) (Ts : List Pl.Tr) (cap : Nat) (w : World) (ok : OpenL.OkL w a Ts) (x : Nat → Addr) (hE : WIs.Six w x) :
    Calls Tryz.prog 8 #[.agg #[.slice a Ts.length cap]] w fun e w' => e = .returned (.bool true) ∧ Below w.heap.size w w' := by
  obtain ⟨hl, hv, hok⟩ := ok
  have b0 : Below w.heap.size w (w.alloc (.cells #[.slice a Ts.length cap] 81)) := (Below.refl _ _).alloc (Nat.le_refl _) _
  have hsz := hide (fun W (b : Below w.heap.size w W) => WLaw.szLayers_any a cap Ts W hl (Mem.trees_call hv b) (fun t ht => ⟨(hok t ht).1, fun n hn => ⟨((hok t ht).2 n hn).1, ((hok t ht).2 n hn).2.1⟩⟩))
  have htt := hide (fun W (b : Below w.heap.size w W) (h2 : Ts.length ≤ 1048576) h3 => WLawX.toLayers_any a cap Ts W h2 (Mem.trees_call hv b) h3)
  have heq := hide (fun (g g' : Nat) (D E : List Pl.Tr) W (h2 : Ts.length ≤ 1048576) (hd : D.length = Ts.length) (hD : D.map (·.L) = Ts.map (·.L)) (hE : E.map (·.L) = Ts.map (·.L)) h3 h4 (h5 : ∀ t ∈ Ts, t.L.length ≤ 1048576) => by
    have := WLaw.eqLayers_any (some ⟨g, 0, none⟩) (some ⟨g', 0, none⟩) D.length D.length D E W (by omega) (hE.trans hD.symm) h3 h4 (same_ok (P := fun L => L.length ≤ 1048576) hD h5)
    rw [hd] at this; exact this)
  have hs := hide (fun (g : Nat) (D : List Pl.Tr) W (h2 : Ts.length ≤ 1048576) (hd : D.length = Ts.length) (hD : D.map (·.L) = Ts.map (·.L)) h3 (h4 : (∀ t ∈ Ts, t.L.length ≤ 1048576 ∧ ∀ n ∈ t.L, n.path.size ≤ 1048576 ∧ n.data.size ≤ 1048576)) => by
    have := WWalk4.spec_any (some ⟨g, 0, none⟩) D.length D W (by omega) h3 (same_ok (P := fun L => L.length ≤ 1048576 ∧ ∀ n ∈ L, n.path.size ≤ 1048576 ∧ n.data.size ≤ 1048576) hD h4)
    rw [hd, hD] at this; exact this)
  have hi := hide (fun (g : Nat) (D : List Pl.Tr) W (h2 : Ts.length ≤ 1048576) (hd : D.length = Ts.length) (hD : D.map (·.L) = Ts.map (·.L)) h3 (h4 : (∀ t ∈ Ts, t.L.length ≤ 1048576 ∧ ∀ n ∈ t.L, n.path.size ≤ 1048576 ∧ n.data.size ≤ 1048576)) h5 => by
    have := WGather.impl_any (some ⟨g, 0, none⟩) D.length D (Pl.allO (Ts.map (·.L))) W (by omega) h3 (same_ok (P := fun L => L.length ≤ 1048576 ∧ ∀ n ∈ L, n.path.size ≤ 1048576 ∧ n.data.size ≤ 1048576) hD h4) (fun h => by rw [hD] at h ⊢; exact Pl.all_told (Pl.lay_ok h).1 (Pl.lay_ok h).2) x h5
    rw [hd, hD] at this; exact this)
  have hmx := hide (fun (g X : Nat) (D : List Pl.Tr) W (h2 : Ts.length ≤ 1048576) (hd : D.length = Ts.length) (hD : D.map (·.L) = Ts.map (·.L)) (h5 : ∀ t ∈ Ts, t.L.length ≤ 1048576) h3 => by
    have := WMkL.mark_any g X D.length D W (by omega) (same_ok (P := fun L => L.length ≤ 1048576) hD h5) h3
    rw [hd] at this; exact this)
  have hol0 := Pl.overN_len (Ts.map (·.L)) (Pl.allO (Ts.map (·.L)))
  generalize Pl.overN (Ts.map (·.L)) (Pl.allO (Ts.map (·.L))) = O at hs hi hol0
  generalize Pl.overC (Ts.map (·.L)) (Pl.allO (Ts.map (·.L))) = c at hs hi
  have heo := hide (fun (ag aw : Option Addr) (cg cw : Nat) W (h2 : O.length ≤ 1048576) h3 h4 => WMarkN.eqO_any ag aw cg cw c O W h2 h3 h4)
  have hmo := hide (fun (ag : Option Addr) (cg B : Nat) W (h2 : O.length ≤ 1048576) h3 => WMarkN.layO_own ag O.length cg 1 B c O W h2 (by omega) (by omega) h3)
  have hho := hide (fun (ag : Option Addr) (cg : Nat) W (h2 : O.length ≤ 1048576) h3 => WMarkN.heldO_any ag O.length cg 1 c W h2 (by omega) (by omega) h3)
  have HE := hide hE
  have A0 := Mem.Blk.new w #[.slice a Ts.length cap] 81
  clear hv hok hE
  go_enter Tryz.func8, Tryz.ntmps8
  go_wp2_with fail
  refine (unhide hsz _ b0).mono ?_
  rintro e w1 ⟨⟨r, rfl, hr⟩, b1⟩
  have bw1 := b0.trans (b1.mono b0.size)
  have A1 := A0.call b1
  clear b0 b1 A0 hsz
  rcases hr with rfl | ⟨hr0, hr1, hl2, hz⟩
  · clear A1
    go_wp2
    go_ret
    exact ⟨rfl, bw1⟩
  have hr2 : ¬ r < 0 := by omega
  have HZ := hide hz
  have HZ1 := hide (fun t ht => (hz t ht).1)
  have hol : O.length ≤ 1048576 := by omega
  clear hz hol0
  have c0 := A1.cell 0
  simp only [kA0, kA1, kA2] at c0
  go_wp2_with fail
  refine (unhide htt _ bw1 hl2 (unhide HZ1)).mono ?_
  rintro e w2 ⟨g1, D1, rfl, -, hd1, hm1, hn1, b2⟩
  have bw2 := bw1.trans (b2.mono bw1.size)
  have A2 := A1.call b2
  have HN1 := hide hn1.trees
  have HM1 := hide hm1
  clear bw1 b2 A1 c0 hn1 hm1
  go_wp2_with fail
  refine (unhide hs g1 D1 _ hl2 hd1 (unhide HM1) (unhide HN1) (unhide HZ)).mono ?_
  rintro e w3 ⟨vw, rfl, ownw, b3⟩
  obtain ⟨aw, cw, rfl⟩ := Mem.own_shape ownw
  have S3 : OW w (w3.alloc (.cells #[.slice aw O.length cw, .int .i64 c] 31)) a Ts.length cap w3.heap.size w2.heap.size aw cw O c :=
    ⟨(bw2.trans (b3.mono bw2.size)).alloc (bw2.trans (b3.mono bw2.size)).size _, (A2.call b3).alloc _, Mem.Blk.new _ _ _, Mem.ownN_alloc ownw _, A2.lt, fun g hg => (Mem.ownN_lt ownw g hg).2, Nat.lt_of_lt_of_le A2.lt b3.size⟩
  have hY : (w3.alloc (.cells #[.slice aw O.length cw, .int .i64 c] 31)).heap.size = w3.heap.size + 1 := by simp
  clear bw2 b3 A2 HN1 hs ownw HM1 hd1
  have c0 := S3.arg.cell 0
  simp only [kA0, kA1, kA2] at c0
  have K3 := hide S3
  clear S3
  go_wp2_with fail
  refine (unhide htt _ (unhide K3).bel hl2 (unhide HZ1)).mono ?_
  rintro e w5 ⟨g2, D2, rfl, hg2, hd2, hm2, hr5, b5⟩
  have HM2 := hide hm2
  have hgX : g2 < w5.heap.size := hr5.lt
  have S5 := (unhide K3).call b5
  have hgY : w3.heap.size < g2 := by omega
  have hYw : w3.heap.size < w5.heap.size := by have := b5.size; omega
  generalize w3.heap.size = Y at S5 hgY hYw ⊢
  generalize w2.heap.size = B1 at S5
  have b6 : Below w5.heap.size w5 (w5.alloc (.cells #[.slice (some ⟨g2, 0, none⟩) Ts.length Ts.length] 56)) := (Below.refl _ _).alloc (Nat.le_refl _) _
  have S6 := hide (S5.call b6)
  have X6 : Hid (XL (w5.alloc (.cells #[.slice (some ⟨g2, 0, none⟩) Ts.length Ts.length] 56)) w5.heap.size g2 Ts.length D2) := ⟨Mem.Blk.new _ _ _, (WMkL.has_rows hr5).call b6, Mem.trees_call hr5.trees b6⟩
  have hE6 := hide ((unhide HE).call (unhide S6).bel)
  have hX : (w5.alloc (.cells #[.slice (some ⟨g2, 0, none⟩) Ts.length Ts.length] 56)).heap.size = w5.heap.size + 1 := by simp
  clear K3 b5 S5 b6 hr5 hm2 hg2 hY c0
  go_wp2_with fail
  refine (unhide hi g2 D2 _ hl2 hd2 (unhide HM2) (unhide X6).trees (unhide HZ) (unhide hE6)).mono ?_
  rintro e w7 ⟨vg, rfl, owng, b7⟩
  obtain ⟨ag, cg, rfl⟩ := Mem.own_shape owng
  rw [hX] at owng
  have S7 := (unhide S6).call b7
  have X7 := (unhide X6).call b7
  have hX7 : w5.heap.size + 1 ≤ w7.heap.size := by have := b7.size; omega
  clear S6 X6 hE6 b7 hX
  generalize w5.heap.size = X at X7 owng hX7 hYw hgX ⊢
  have b8 : Below w7.heap.size w7 (w7.alloc (.cells #[.slice ag O.length cg, .int .i64 c] 31)) := (Below.refl _ _).alloc (Nat.le_refl _) _
  have S8 := hide (S7.call b8)
  have X8 := hide (X7.call b8)
  have G8 : Hid (WMarkN.G0 (w7.alloc (.cells #[.slice ag O.length cg, .int .i64 c] 31)) w7.heap.size (X + 1) ag cg O c) := ⟨Mem.Blk.new _ _ _, Mem.ownN_alloc owng _, fun g hg => (Mem.ownN_lt owng g hg).2, hX7⟩
  clear S7 X7 b8 owng
  have d0 := (unhide S8).var.cell 0
  have d1 := (unhide S8).var.cell 1
  simp only [kA0, kA1, kA2] at d0 d1
  go_wp2_with fail
  refine (unhide heo ag aw cg cw _ hol (Mem.ownN_nodes (unhide G8).own).2 (Mem.ownN_nodes (unhide S8).own).2).mono ?_
  rintro e w6 ⟨rfl, b9⟩
  have S9 := (unhide S8).call b9
  have X9 := (unhide X8).call b9
  have G9 := hide ((unhide G8).call b9)
  generalize w7.heap.size = G at G9 hX7 ⊢
  clear S8 X8 G8 b9 d0 d1
  have c0 := S9.arg.cell 0
  simp only [kA0, kA1, kA2] at c0
  have d0 := X9.var.cell 0
  simp only [kA0, kA1, kA2] at d0
  have hc0 : w.heap.size < w6.heap.size := S9.arg.lt
  have hd0 : X < w6.heap.size := X9.var.lt
  have K9 := hide S9
  have KX := hide X9
  have MK : Hid (∀ W', Below w6.heap.size w6 W' → (Below w6.heap.size w6 W' ∧ W'.cell? ⟨w.heap.size, 0, none⟩ = some (.slice a Ts.length cap) ∧ W'.cell? ⟨X, 0, none⟩ = some (.slice (some ⟨g2, 0, none⟩) Ts.length Ts.length))) := fun W' hb' => ⟨hb', (hb'.cell (p := ⟨w.heap.size, 0, none⟩) hc0).trans c0, (hb'.cell (p := ⟨X, 0, none⟩) hd0).trans d0⟩
  clear c0 d0 hc0 hd0 S9 X9
  go_wp2_with fail
  refine wp_region_held_drew (S := fun W' => Below w6.heap.size w6 W' ∧ W'.cell? ⟨w.heap.size, 0, none⟩ = some (.slice a Ts.length cap) ∧ W'.cell? ⟨X, 0, none⟩ = some (.slice (some ⟨g2, 0, none⟩) Ts.length Ts.length)) (by kernel_rfl) ?_ (fun hHeld => ?_)
  · exact unhide MK _ ((Below.refl _ _).trans ⟨rfl, rfl, rfl, Nat.le_refl _, fun _ _ => rfl⟩)
  refine wpAnyH_take (i := 0) (v := ?_) rfl (by kernel_rfl) (by kernel_rfl) (by kernel_rfl) (fun _ _ _ h => h) (Or.inl ⟨by rfl, ?_⟩) (by assumption) ?_
  rotate_left
  · (intro w hSw; (try dsimp only at hSw); go_simp; (try with_reducible rfl))
  try simp only [Act.put, kB0, kB1, kB2, kB3, kB4, kB5]
  refine wpAnyH_take (i := 1) (v := ?_) rfl (by kernel_rfl) (by kernel_rfl) (by kernel_rfl) (fun _ _ _ h => h) (Or.inl ⟨by rfl, ?_⟩) (by assumption) ?_
  rotate_left
  · (intro w hSw; (try dsimp only at hSw); go_simp; (try with_reducible rfl))
  try simp only [Act.put, kB0, kB1, kB2, kB3, kB4, kB5]
  refine wpAnyH_ready (rs := [2]) (by kernel_rfl) (by simp) ?_
  refine AllReadyH.cons rfl (fun K hK => ?_) AllReadyH.nil
  go_simp
  refine (unhide htt _ ((unhide K9).bel.trans (hHeld.1.mono (unhide K9).bel.size)) hl2 (unhide HZ1)).mono ?_
  rintro e wX ⟨g3, D3, rfl, -, hd3, hm3, hn3, bX⟩
  refine hK.out _ _ ?_ (fun hHeld => ?_)
  · exact unhide MK _ (hHeld.1.trans (bX.mono hHeld.1.size))
  clear hK K
  try simp only [Act.put, kB0, kB1, kB2, kB3, kB4, kB5]
  refine wpAnyH_ready (rs := [3]) (by kernel_rfl) (by simp) ?_
  refine AllReadyH.cons rfl (fun K hK => ?_) AllReadyH.nil
  go_simp
  refine (unhide heq g2 g3 D2 D3 _ hl2 hd2 (unhide HM2) hm3 (Mem.trees_call (unhide KX).trees hHeld.1) hn3.trees (unhide HZ1)).mono ?_
  rintro e wX ⟨rfl, bX⟩
  refine hK.out _ _ ?_ (fun hHeld => ?_)
  · exact unhide MK _ (hHeld.1.trans (bX.mono hHeld.1.size))
  clear hK K
  try simp only [Act.put, kB0, kB1, kB2, kB3, kB4, kB5]
  refine wpAnyH_take (i := 4) (v := ?_) rfl (by kernel_rfl) (by kernel_rfl) (by kernel_rfl) (fun _ _ _ h => h) (Or.inl ⟨by rfl, ?_⟩) (by assumption) ?_
  rotate_left
  · (intro w hSw; (try dsimp only at hSw); go_simp; (try with_reducible rfl))
  try simp only [Act.put, kB0, kB1, kB2, kB3, kB4, kB5]
  refine wpAnyH_done (by kernel_rfl) ?_ _
  have S10 := hide ((unhide K9).call hHeld.1)
  have X10 := hide ((unhide KX).call hHeld.1)
  have G10 := hide ((unhide G9).call hHeld.1)
  clear K9 KX G9 MK hn3 bX heq hd3 hm3
  have d0 := (unhide X10).var.cell 0
  simp only [kA0, kA1, kA2] at d0
  clear hHeld
  go_wp2_with fail
  refine (unhide hmx g2 X D2 _ hl2 hd2 (unhide HM2) (unhide HZ1) (unhide X10).has).mono ?_
  rintro e w11 ⟨⟨kk, rfl, hkk⟩, hband⟩
  have S11 := (unhide S10).band hband hgY
  have G11 : WMarkN.G0 w11 G (X + 1) ag cg O c := ⟨hband.blk (unhide G10).var (.inr (by omega)), hband.row (unhide G10).own (fun g hg => by have := (Mem.ownN_lt (unhide G10).own g hg).1; omega), (unhide G10).hi, (unhide G10).b⟩
  have HK0 : ¬ ((kk : Nat) : Int) < 0 := by omega
  clear S10 X10 G10 hband hmx d0 hkk
  have d0 := S11.var.cell 0
  have d1 := S11.var.cell 1
  simp only [kA0, kA1, kA2] at d0 d1
  have e0 := G11.var.cell 0
  have e1 := G11.var.cell 1
  simp only [kA0, kA1, kA2] at e0 e1
  have S12 := hide S11
  have G12 := hide G11
  clear S11 G11
  go_wp2_with fail
  refine (unhide heo ag aw cg cw _ hol (Mem.ownN_nodes (unhide G12).own).2 (Mem.ownN_nodes (unhide S12).own).2).mono ?_
  rintro e w13 ⟨rfl, b13⟩
  have S13 := hide ((unhide S12).call b13)
  have G13 := (unhide G12).call b13
  clear S12 G12 b13 d0 d1 e0 e1
  have e0 := G13.var.cell 0
  have e1 := G13.var.cell 1
  simp only [kA0, kA1, kA2] at e0 e1
  have G14 := hide G13
  clear G13
  go_wp2_with fail
  refine (unhide hmo ag cg _ _ hol (unhide G14).own).mono ?_
  rintro e w15 ⟨rfl, hn15, hg15⟩
  have HLG := hide (unhide G14).hi
  have HBG := hide (fun g hg => (Mem.ownN_lt (unhide G14).own g hg).1)
  have S15 := hide ((unhide S13).grown hg15 (fun g hg => by have := unhide HBG g hg; omega))
  have M15 : WMarkN.M0 w15 G ag O.length cg 1 c := ⟨(unhide G14).var.grown hg15 (fun e => by have := unhide HLG _ e.symm; omega), hn15⟩
  have HM0 : ¬ ((1 + 5 * O.length : Nat) : Int) < 0 := by omega
  clear S13 G14 hn15 hg15 hmo e0 e1 HLG HBG
  have e0 := M15.var.cell 0
  have e1 := M15.var.cell 1
  simp only [kA0, kA1, kA2] at e0 e1
  have M16 := hide M15
  clear M15
  generalize 1 + 5 * O.length = mm at HM0 hho ⊢
  go_wp2_with fail
  refine (unhide hho ag cg _ hol (unhide M16).nodes).mono ?_
  rintro e w17 ⟨rfl, b17⟩
  have S17 := hide ((unhide S15).call b17)
  have M17 := hide ((unhide M16).call b17)
  clear S15 M16 b17 e0 e1
  have c0 := (unhide S17).arg.cell 0
  simp only [kA0, kA1, kA2] at c0
  go_wp2_with fail
  refine (unhide htt _ (unhide S17).bel hl2 (unhide HZ1)).mono ?_
  rintro e w18 ⟨g4, D4, rfl, -, hd4, hm4, hn4, b18⟩
  have S18 := hide ((unhide S17).call b18)
  have M18 := hide ((unhide M17).call b18)
  have HN4 := hide hn4.trees
  have HM4 := hide hm4
  have hE18 := hide ((unhide HE).call (unhide S18).bel)
  clear S17 M17 b18 hn4 c0 hm4
  go_wp2_with fail
  refine (unhide hi g4 D4 _ hl2 hd4 (unhide HM4) (unhide HN4) (unhide HZ) (unhide hE18)).mono ?_
  rintro e w19 ⟨vh, rfl, ownh, b19⟩
  obtain ⟨ah, ch, rfl⟩ := Mem.own_shape ownh
  have b20 : Below w19.heap.size w19 (w19.alloc (.cells #[.slice ah O.length ch, .int .i64 c] 31)) := (Below.refl _ _).alloc (Nat.le_refl _) _
  have S20 := hide (((unhide S18).call b19).call b20)
  have M20 := hide (((unhide M18).call b19).call b20)
  have OH := hide (Mem.ownN_nodes (Mem.ownN_alloc ownh (.cells #[.slice ah O.length ch, .int .i64 c] 31))).2
  clear S18 M18 b19 b20 ownh HN4 hE18
  have d0 := (unhide S20).var.cell 0
  have d1 := (unhide S20).var.cell 1
  simp only [kA0, kA1, kA2] at d0 d1
  go_wp2_with fail
  refine (unhide heo ah aw ch cw _ hol (unhide OH) (Mem.ownN_nodes (unhide S20).own).2).mono ?_
  rintro e w21 ⟨rfl, b21⟩
  have S21 := hide ((unhide S20).call b21)
  have M21 := hide ((unhide M20).call b21)
  clear S20 M20 b21 d0 d1 OH
  have e0 := (unhide M21).var.cell 0
  have e1 := (unhide M21).var.cell 1
  simp only [kA0, kA1, kA2] at e0 e1
  go_wp2_with fail
  refine (unhide hho ag cg _ hol (unhide M21).nodes).mono ?_
  rintro e w22 ⟨rfl, b22⟩
  have bfin := ((unhide S21).call b22).bel
  clear S21 M21 b22 e0 e1
  go_wp2
  go_ret
  exact ⟨rfl, bfin⟩
end fnExactOver
end Go.Proofs.YtibmflhelgedeaaGreatDoor
