/- The walk of the law FnTree, over the walks of the functions and of the draws (by genFT.py). -/
import Derived.Test.YtibmflhelgedeaaGreatDoorG78
import Derived.Test.YtibmflhelgedeaaGreatDoorG58
import Derived.Test.YtibmflhelgedeaaGreatDoorWGetI
import Derived.Test.YtibmflhelgedeaaGreatDoorWNodesR
import Derived.Test.YtibmflhelgedeaaGreatDoorWLwTree
import Derived.Test.YtibmflhelgedeaaGreatDoorPlainFT
import Derived.Laws.Cover1
namespace Go.Proofs.YtibmflhelgedeaaGreatDoor
open Go.RowKit
namespace fnTree
/-- What stands while the law asks. -/
structure Fk (w W : World) (X5 X6 X7 X8 X10 X11 : Nat) (ta xa ua ya ga : Option Addr) (tc xc uc yc gc : Nat) (L PO U CO G : List Pl.Nd) (n : Pl.Nd) (C cc : Int) : Prop where
  bel : Below w.heap.size w W
  b5 : Mem.Blk W X5 #[.slice ta L.length tc] 25
  b6 : Mem.Blk W X6 n.cs.toArray 27
  b7 : Mem.Blk W X7 #[.slice xa PO.length xc, .int .i64 C] 31
  b8 : Mem.Blk W X8 #[.slice ua U.length uc] 25
  b10 : Mem.Blk W X10 #[.slice ya CO.length yc, .int .i64 cc] 31
  b11 : Mem.Blk W X11 #[.slice ga G.length gc] 25
  n5 : Mem.isNodes W ta L
  n7 : Mem.isNodes W xa PO
  n8 : Mem.isNodes W ua U
  n10 : Mem.isNodes W ya CO
  n11 : Mem.isNodes W ga G
  k5 : WPutG.okA W ta tc L
section
variable {w W W' : World} {X5 X6 X7 X8 X10 X11 : Nat} {ta xa ua ya ga : Option Addr} {tc xc uc yc gc : Nat} {L PO U CO G : List Pl.Nd} {n : Pl.Nd} {C cc : Int}
theorem Fk.call (h : Fk w W X5 X6 X7 X8 X10 X11 ta xa ua ya ga tc xc uc yc gc L PO U CO G n C cc) (b : Below W.heap.size W W') : Fk w W' X5 X6 X7 X8 X10 X11 ta xa ua ya ga tc xc uc yc gc L PO U CO G n C cc :=
  ⟨h.bel.trans (b.mono h.bel.size), h.b5.call b, h.b6.call b, h.b7.call b, h.b8.call b, h.b10.call b, h.b11.call b, Mem.nodes_call h.n5 b, Mem.nodes_call h.n7 b, Mem.nodes_call h.n8 b, Mem.nodes_call h.n10 b, Mem.nodes_call h.n11 b, WPutG.okA_call h.k5 b.size⟩
theorem Fk.drew (h : Fk w W X5 X6 X7 X8 X10 X11 ta xa ua ya ga tc xc uc yc gc L PO U CO G n C cc) : Fk w W.drew X5 X6 X7 X8 X10 X11 ta xa ua ya ga tc xc uc yc gc L PO U CO G n C cc :=
  h.call ⟨rfl, rfl, rfl, Nat.le_refl _, fun _ _ => rfl⟩
end
/-- What a put that went well left. -/
theorem put_all (L : List Pl.Nd) (n : Pl.Nd) (hc : Pl.putC L n = 0) : Pl.treeB (Pl.putO L n) = true ∧ Pl.getV (Pl.putO L n) n.path = .agg #[.string n.path, .int .i64 n.kind, .string n.data, .int .i64 n.time, .int .i64 n.mark, .int .i64 0] ∧ Pl.offL n.path (Pl.putO L n) = Pl.offL n.path L ∧ (∀ m ∈ Pl.putO L n, Pl.pathB m.path = true) ∧ (∀ m ∈ L, Pl.pathB m.path = true) ∧ Pl.pathB n.path = true := by
  unfold Pl.putC at hc
  split at hc
  · rename_i h
    have e : Pl.putO L n = Pl.putL L n := by rw [Pl.putO, if_pos h, Pl.addO, if_pos hc]
    rw [e]
    have hr := Pl.put_right h.1 h.2 hc
    exact ⟨hr, Pl.put_get h.1 h.2 hc, Pl.put_off L n, fun m hm => (Pl.node_right (((Pl.tree_iff _).1 hr).2.1 m hm).1).1, fun m hm => (Pl.node_right (((Pl.tree_iff _).1 h.1).2.1 m hm).1).1, (Pl.node_right h.2).1⟩
  · cases hc
/-- What a cut that went well left. -/
theorem cut_all {U : List Pl.Nd} {p : ByteArray} {n : Pl.Nd} {c : Int} (hV : Pl.getV U p = .agg #[.string n.path, .int .i64 n.kind, .string n.data, .int .i64 n.time, .int .i64 n.mark, .int .i64 c]) (hc : c = 0) : Pl.treeB (Pl.cutO p U c) = true ∧ Pl.getV (Pl.cutO p U c) p = .agg #[.string ⟨#[]⟩, .int .i64 0, .string ⟨#[]⟩, .int .i64 0, .int .i64 0, .int .i64 6] ∧ Pl.cutO p U c = Pl.offL p U ∧ (∀ m ∈ U, Pl.pathB m.path = true) ∧ Pl.pathB p = true := by
  subst hc
  obtain ⟨h1, h2, h3⟩ := Pl.get_ok hV
  have e : Pl.cutO p U 0 = Pl.offL p U := by rw [Pl.cutO, if_pos rfl]
  rw [e]
  exact ⟨Pl.off_right p h1, Pl.cut_get hV, rfl, fun m hm => (Pl.node_right (((Pl.tree_iff _).1 h1).2.1 m hm).1).1, h2⟩
theorem row_below {w w' : World} {a : Option Addr} {len cap : Nat} (h : WSrc.RowB w w.heap.size a len cap) (b : Below w.heap.size w w') : WSrc.RowB w' w'.heap.size a len cap := WSrc.row_up h b b.size
set_option linter.unusedSimpArgs false in
set_option maxRecDepth 100000 in
set_option maxHeartbeats 4000000 in
theorem walk (a0 : Option Addr) (len0 cap0 : Nat) (a1 : Option Addr) (len1 cap1 : Nat) (w : World) (w0 : WSrc.RowB w w.heap.size a0 len0 cap0) (w1 : WSrc.RowB w w.heap.size a1 len1 cap1) (x : Nat → Addr) (hE : WIs.Six w x) :
    Calls Tryz.prog 3 #[.slice a0 len0 cap0, .slice a1 len1 cap1] w fun e w' => e = .returned (.bool true) ∧ Below w.heap.size w w' := by
  by_cases hL0 : (1048576 : Int) < (len0 : Int)
  · clear w0 w1 hE
    go_enter Tryz.func3, Tryz.ntmps3
    go_wp2
    go_ret
    exact ⟨rfl, Below.refl _ _⟩
  by_cases hL1 : (1048576 : Int) < (len1 : Int)
  · clear w0 w1 hE
    go_enter Tryz.func3, Tryz.ntmps3
    go_wp2
    go_ret
    exact ⟨rfl, Below.refl _ _⟩
  have hf1 : ∀ (a b : ByteArray) (c d e k : Int) (W : World), (Instr.field 38 (.agg #[.string a, .int .i64 c, .string b, .int .i64 d, .int .i64 e, .int .i64 k]) 1).run Tryz.prog W = .ok (.int .i64 k) W := fun _ _ _ _ _ _ _ => by kernel_rfl
  have HE := hide (fun W (b : Below w.heap.size w W) => hE.call b)
  have hd1 := hide (WSrc.drawPut_any a0 len0 cap0 w w0)
  have hd2 := hide (fun W (b : Below w.heap.size w W) => WSrc.drawTCut_any a1 len1 cap1 W (row_below w1 b))
  have hd3 := hide (fun W (b : Below w.heap.size w W) => WSrc.drawGet_any a0 len0 cap0 W (row_below w0 b))
  clear w0 w1 hE
  go_enter Tryz.func3, Tryz.ntmps3
  go_wp2_with fail
  refine (unhide hd1).mono ?_
  rintro e v1 ⟨ta, tc, L, n, hl, hsm, hsn, rfl, tv1, b1⟩
  obtain ⟨np, nk, nd, nt, nm⟩ := n
  simp only [Pl.Nd.val]
  have HSM := hide hsm
  have HSN := hide hsn
  clear hd1 hsm hsn
  have B5 := hide ((Mem.Blk.new v1 #[.slice ta L.length tc] 25).alloc (.cells #[.string np, .int .i64 nk, .string nd, .int .i64 nt, .int .i64 nm] 27))
  have B6 : Hid (Mem.Blk ((v1.alloc (.cells #[.slice ta L.length tc] 25)).alloc (.cells #[.string np, .int .i64 nk, .string nd, .int .i64 nt, .int .i64 nm] 27)) (v1.heap.size + 1) #[.string np, .int .i64 nk, .string nd, .int .i64 nt, .int .i64 nm] 27) := Mem.new_two _ _ _
  have TV2 := hide ((tv1.alloc (.cells #[.slice ta L.length tc] 25)).alloc (.cells #[.string np, .int .i64 nk, .string nd, .int .i64 nt, .int .i64 nm] 27))
  have b2 := (b1.alloc b1.size (.cells #[.slice ta L.length tc] 25)).alloc (by have := b1.size; simp; omega) (.cells #[.string np, .int .i64 nk, .string nd, .int .i64 nt, .int .i64 nm] 27)
  have x5 := (unhide B5).cell 0
  have y0 := (unhide B6).cell 0
  have y1 := (unhide B6).cell 1
  have y2 := (unhide B6).cell 2
  have y3 := (unhide B6).cell 3
  have y4 := (unhide B6).cell 4
  simp only [Pl.Nd.cs, kA0, kA1, kA2] at x5 y0 y1 y2 y3 y4
  have hn : np.size ≤ 1048576 ∧ nd.size ≤ 1048576 := by have := unhide HSN; unfold Pl.smallD at this; dsimp only at this; omega
  have hput := hide (WPutF.impl_any ta tc L ⟨np, nk, nd, nt, nm⟩ _ (by omega) (unhide TV2).1 (Pl.small_ok (unhide HSM)) hn x (unhide HE _ b2))
  have hspu := hide (fun W (k : WPutG.okA W ta tc L) (v : Mem.isNodes W ta L) => WPutD.spec_any ta tc L ⟨np, nk, nd, nt, nm⟩ W k (by omega) v (Pl.small_ok (unhide HSM)) hn)
  have HPL := hide (Pl.putO_len L ⟨np, nk, nd, nt, nm⟩)
  have HPS := hide (Pl.putO_small (n := ⟨np, nk, nd, nt, nm⟩) (unhide HSM) (unhide HSN))
  have HPA := hide (put_all L ⟨np, nk, nd, nt, nm⟩)
  have HNI := hide (fun W => WNode.impl_any ⟨np, nk, nd, nt, nm⟩ W hn.1 hn.2)
  have HNS := hide (fun W => WNode.spec_any ⟨np, nk, nd, nt, nm⟩ W hn.1 hn.2)
  simp only [Pl.Nd.val] at hput hspu HPA HNI HNS
  generalize Pl.putO L ⟨np, nk, nd, nt, nm⟩ = PO at hput hspu HPL HPS HPA
  generalize Pl.putC L ⟨np, nk, nd, nt, nm⟩ = C at hput hspu HPA
  generalize Pl.nodeB ⟨np, nk, nd, nt, nm⟩ = NB at HNI HNS
  go_wp2_with fail
  refine (unhide hput).mono ?_
  rintro e v3 ⟨vx, rfl, own3, b3⟩
  obtain ⟨xa, xc, hvx⟩ := Mem.own_shape own3
  subst hvx
  have B7 := hide (Mem.Blk.new v3 #[.slice xa PO.length xc, .int .i64 C] 31)
  have B5 := hide (((unhide B5).call b3).alloc (.cells #[.slice xa PO.length xc, .int .i64 C] 31))
  have B6 := hide (((unhide B6).call b3).alloc (.cells #[.slice xa PO.length xc, .int .i64 C] 31))
  have TV2 := hide (((unhide TV2).call b3).alloc (.cells #[.slice xa PO.length xc, .int .i64 C] 31))
  have N7 := hide ((WSrc.treeV_own own3).alloc (.cells #[.slice xa PO.length xc, .int .i64 C] 31)).1
  have b4 := (b2.trans (b3.mono b2.size)).alloc (b2.trans (b3.mono b2.size)).size (.cells #[.slice xa PO.length xc, .int .i64 C] 31)
  clear hput own3 b3 b2 b1 tv1 x5 y0 y1 y2 y3 y4
  go_wp2_with fail
  generalize v3.alloc (.cells #[.slice xa PO.length xc, .int .i64 C] 31) = v4 at B5 B6 B7 TV2 N7 b4 ⊢
  generalize v3.heap.size = X7 at B7 ⊢
  generalize hX6 : v1.heap.size + 1 = X6 at B6 ⊢
  generalize v1.heap.size = X5 at B5 hX6 ⊢
  clear hX6
  refine (unhide hd2 _ b4).mono ?_
  rintro e v5 ⟨ua, uc, U, p, hl2, hsm2, hp2, rfl, tv5, b5⟩
  have HSU := hide hsm2
  have B8 := hide (Mem.Blk.new v5 #[.slice ua U.length uc] 25)
  have B5 := hide (((unhide B5).call b5).alloc (.cells #[.slice ua U.length uc] 25))
  have B6 := hide (((unhide B6).call b5).alloc (.cells #[.slice ua U.length uc] 25))
  have B7 := hide (((unhide B7).call b5).alloc (.cells #[.slice ua U.length uc] 25))
  have TV2 := hide (((unhide TV2).call b5).alloc (.cells #[.slice ua U.length uc] 25))
  have N7 := hide (Mem.nodes_call (unhide N7) (b5.alloc b5.size (.cells #[.slice ua U.length uc] 25)))
  have N8 := hide (tv5.alloc (.cells #[.slice ua U.length uc] 25)).1
  have b6 := (b4.trans (b5.mono b4.size)).alloc (b4.trans (b5.mono b4.size)).size (.cells #[.slice ua U.length uc] 25)
  clear hd2 hsm2 tv5 b5 b4
  obtain ⟨cn, cc, hV⟩ := Pl.get_shape U p
  have hcut := hide (WCutF.impl_any ua uc U p cn cc hV _ (by omega) (unhide N8) (Pl.small_ok (unhide HSU)) (by omega) x (unhide HE _ b6))
  have hscu := hide (fun W (v : Mem.isNodes W ua U) => WCutF.spec_any ua uc U p cn cc hV W (by omega) v (Pl.small_ok (unhide HSU)) (by omega))
  have HCL := hide (Pl.cutO_len p U cc)
  have HCS := hide (Pl.cutO_small (p := p) (c := cc) (unhide HSU))
  have HCA := hide (cut_all hV)
  generalize Pl.cutO p U cc = CO at hcut hscu HCL HCS HCA
  clear hV
  have x8 := (unhide B8).cell 0
  simp only [Pl.Nd.cs, kA0, kA1, kA2] at x8
  go_wp2_with fail
  generalize v5.alloc (.cells #[.slice ua U.length uc] 25) = v6 at B5 B6 B7 B8 TV2 N7 N8 b6 hcut x8 ⊢
  generalize v5.heap.size = X8 at B8 x8 ⊢
  refine (unhide hcut).mono ?_
  rintro e v7 ⟨vy, rfl, own7, b7⟩
  obtain ⟨ya, yc, hvy⟩ := Mem.own_shape own7
  subst hvy
  have B10 := hide (Mem.Blk.new v7 #[.slice ya CO.length yc, .int .i64 cc] 31)
  have B5 := hide (((unhide B5).call b7).alloc (.cells #[.slice ya CO.length yc, .int .i64 cc] 31))
  have B6 := hide (((unhide B6).call b7).alloc (.cells #[.slice ya CO.length yc, .int .i64 cc] 31))
  have B7 := hide (((unhide B7).call b7).alloc (.cells #[.slice ya CO.length yc, .int .i64 cc] 31))
  have B8 := hide (((unhide B8).call b7).alloc (.cells #[.slice ya CO.length yc, .int .i64 cc] 31))
  have TV2 := hide (((unhide TV2).call b7).alloc (.cells #[.slice ya CO.length yc, .int .i64 cc] 31))
  have N7 := hide (Mem.nodes_call (unhide N7) (b7.alloc b7.size (.cells #[.slice ya CO.length yc, .int .i64 cc] 31)))
  have N8 := hide (Mem.nodes_call (unhide N8) (b7.alloc b7.size (.cells #[.slice ya CO.length yc, .int .i64 cc] 31)))
  have N10 := hide ((WSrc.treeV_own own7).alloc (.cells #[.slice ya CO.length yc, .int .i64 cc] 31)).1
  have b8 := (b6.trans (b7.mono b6.size)).alloc (b6.trans (b7.mono b6.size)).size (.cells #[.slice ya CO.length yc, .int .i64 cc] 31)
  clear hcut own7 b7 b6 x8
  go_wp2_with fail
  generalize v7.alloc (.cells #[.slice ya CO.length yc, .int .i64 cc] 31) = v8 at B5 B6 B7 B8 B10 TV2 N7 N8 N10 b8 ⊢
  generalize v7.heap.size = X10 at B10 ⊢
  refine (unhide hd3 _ b8).mono ?_
  rintro e v9 ⟨ga, gc, G, q, hl3, hsm3, hq3, rfl, tv9, b9⟩
  have HSG := hide hsm3
  have b9' := b9.alloc b9.size (.cells #[.slice ga G.length gc] 25)
  have F : Hid (Fk w (v9.alloc (.cells #[.slice ga G.length gc] 25)) X5 X6 X7 X8 X10 v9.heap.size ta xa ua ya ga tc xc uc yc gc L PO U CO G ⟨np, nk, nd, nt, nm⟩ C cc) :=
    ⟨b8.trans (b9'.mono b8.size), (unhide B5).call b9', (unhide B6).call b9', (unhide B7).call b9', (unhide B8).call b9', (unhide B10).call b9', Mem.Blk.new _ _ _, Mem.nodes_call (unhide TV2).1 b9', Mem.nodes_call (unhide N7) b9', Mem.nodes_call (unhide N8) b9', Mem.nodes_call (unhide N10) b9', (tv9.alloc _).1, WPutG.okA_call (unhide TV2).2.1 b9'.size⟩
  clear hd3 hsm3 tv9 b9 b9' b8 B5 B6 B7 B8 B10 TV2 N7 N8 N10
  obtain ⟨gn, ge, hG⟩ := Pl.get_shape G q
  have HGI := hide (fun W (b : Below w.heap.size w W) (v : Mem.isNodes W ga G) => WGetT.impl_any ga gc G q W (by omega) v (Pl.small_ok (unhide HSG)) (by omega) x (unhide HE W b))
  have HGS := hide (fun W (v : Mem.isNodes W ga G) => WGetT.spec_any ga gc G q W (by omega) v (Pl.small_ok (unhide HSG)) (by omega))
  rw [hG] at HGI HGS
  obtain ⟨gp, gk, gd, gt, gm⟩ := gn
  simp only at HGI HGS
  clear hG
  have HRI := hide (fun W (b : Below w.heap.size w W) (v : Mem.isNodes W ua U) => WNodesI.treeRight_any ua uc U W (by omega) v (Pl.small_ok (unhide HSU)) _ _ _ _ _ _ (unhide HE W b).errs)
  have HRS := hide (fun W (v : Mem.isNodes W ua U) => WTreeS.right_tree ua uc U W (by omega) v (Pl.small_ok (unhide HSU)))
  have HCI := hide (fun W (b : Below w.heap.size w W) (v : Mem.isNodes W ua U) => WCountT.impl_any ua uc U W (by omega) v (Pl.small_ok (unhide HSU)) _ _ _ _ _ _ (unhide HE W b).errs)
  have HCT := hide (fun W (v : Mem.isNodes W ua U) => WCountT.spec_any ua uc U W (by omega) v (Pl.small_ok (unhide HSU)))
  generalize Pl.treeB U = TB at HRI HRS
  generalize Pl.cntT U = CT at HCI HCT
  go_wp2_with fail
  generalize v9.alloc (.cells #[.slice ga G.length gc] 25) = vA at F ⊢
  generalize v9.heap.size = X11 at F ⊢
  have MK : Hid (∀ W', Fk w W' X5 X6 X7 X8 X10 X11 ta xa ua ya ga tc xc uc yc gc L PO U CO G ⟨np, nk, nd, nt, nm⟩ C cc → (fun W' => Fk w W' X5 X6 X7 X8 X10 X11 ta xa ua ya ga tc xc uc yc gc L PO U CO G ⟨np, nk, nd, nt, nm⟩ C cc ∧ W'.cell? ⟨X5, 0, none⟩ = some (.slice ta L.length tc) ∧ W'.cell? ⟨X6, 0, none⟩ = some (.string np) ∧ W'.cell? ⟨X6, 1, none⟩ = some (.int .i64 nk) ∧ W'.cell? ⟨X6, 2, none⟩ = some (.string nd) ∧ W'.cell? ⟨X6, 3, none⟩ = some (.int .i64 nt) ∧ W'.cell? ⟨X6, 4, none⟩ = some (.int .i64 nm) ∧ W'.cell? ⟨X7, 0, none⟩ = some (.slice xa PO.length xc) ∧ W'.cell? ⟨X7, 1, none⟩ = some (.int .i64 (C)) ∧ W'.cell? ⟨X8, 0, none⟩ = some (.slice ua U.length uc) ∧ W'.cell? ⟨X10, 0, none⟩ = some (.slice ya CO.length yc) ∧ W'.cell? ⟨X10, 1, none⟩ = some (.int .i64 (cc)) ∧ W'.cell? ⟨X11, 0, none⟩ = some (.slice ga G.length gc)) W') := fun W' h => ⟨h, h.b5.cell 0, h.b6.cell 0, h.b6.cell 1, h.b6.cell 2, h.b6.cell 3, h.b6.cell 4, h.b7.cell 0, h.b7.cell 1, h.b8.cell 0, h.b10.cell 0, h.b10.cell 1, h.b11.cell 0⟩
  have hLm : L.length ≤ 64 := hl
  have hPO : PO.length ≤ 1048576 := by have := unhide HPL; omega
  have hCO : CO.length ≤ 1048576 := by have := unhide HCL; omega
  refine wp_region_held_drew (S := fun W' => Fk w W' X5 X6 X7 X8 X10 X11 ta xa ua ya ga tc xc uc yc gc L PO U CO G ⟨np, nk, nd, nt, nm⟩ C cc ∧ W'.cell? ⟨X5, 0, none⟩ = some (.slice ta L.length tc) ∧ W'.cell? ⟨X6, 0, none⟩ = some (.string np) ∧ W'.cell? ⟨X6, 1, none⟩ = some (.int .i64 nk) ∧ W'.cell? ⟨X6, 2, none⟩ = some (.string nd) ∧ W'.cell? ⟨X6, 3, none⟩ = some (.int .i64 nt) ∧ W'.cell? ⟨X6, 4, none⟩ = some (.int .i64 nm) ∧ W'.cell? ⟨X7, 0, none⟩ = some (.slice xa PO.length xc) ∧ W'.cell? ⟨X7, 1, none⟩ = some (.int .i64 (C)) ∧ W'.cell? ⟨X8, 0, none⟩ = some (.slice ua U.length uc) ∧ W'.cell? ⟨X10, 0, none⟩ = some (.slice ya CO.length yc) ∧ W'.cell? ⟨X10, 1, none⟩ = some (.int .i64 (cc)) ∧ W'.cell? ⟨X11, 0, none⟩ = some (.slice ga G.length gc)) (by kernel_rfl) ?_ (fun hHeld => ?_)
  · exact unhide MK _ (unhide F).drew
  clear F
  refine wpAnyH_take (i := 0) (v := ?_) rfl (by kernel_rfl) (by kernel_rfl) (by kernel_rfl) (fun _ _ _ h => h) (Or.inl ⟨by rfl, ?_⟩) (by assumption) ?_
  rotate_left
  · (intro w hSw; (try dsimp only at hSw); go_simp; (try with_reducible rfl))
  try simp only [Act.put, kB0, kB1, kB2, kB3, kB4, kB5]
  refine wpAnyH_take (i := 1) (v := ?_) rfl (by kernel_rfl) (by kernel_rfl) (by kernel_rfl) (fun _ _ _ h => h) (Or.inl ⟨by rfl, ?_⟩) (by assumption) ?_
  rotate_left
  · (intro w hSw; (try dsimp only at hSw); go_simp; (try with_reducible rfl))
  try simp only [Act.put, kB0, kB1, kB2, kB3, kB4, kB5]
  refine wpAnyH_take (i := 2) (v := ?_) rfl (by kernel_rfl) (by kernel_rfl) (by kernel_rfl) (fun _ _ _ h => h) (Or.inl ⟨by rfl, ?_⟩) (by assumption) ?_
  rotate_left
  · (intro w hSw; (try dsimp only at hSw); go_simp; (try with_reducible rfl))
  try simp only [Act.put, kB0, kB1, kB2, kB3, kB4, kB5]
  refine wpAnyH_ready (rs := [3]) (by kernel_rfl) (by simp) ?_
  refine AllReadyH.cons rfl (fun K hK => ?_) AllReadyH.nil
  go_simp
  refine (unhide hspu _ hHeld.1.k5 hHeld.1.n5).mono ?_
  rintro e wX ⟨vs, rfl, ownS, bX⟩
  obtain ⟨sa, sc, hvs⟩ := Mem.own_shape ownS
  subst hvs
  have NS := hide (Mem.ownN_nodes ownS).2
  clear ownS
  refine hK.out _ _ ?_ (fun hHeld => ?_)
  · exact unhide MK _ (hHeld.1.call bX)
  clear hK K
  try simp only [Act.put, kB0, kB1, kB2, kB3, kB4, kB5]
  refine wpAnyH_ready (rs := [4]) (by kernel_rfl) (by simp) ?_
  refine AllReadyH.cons rfl (fun K hK => ?_) AllReadyH.nil
  go_simp
  refine (WLw.trees_any xa sa xc sc C PO _ hPO hHeld.1.n7 (unhide NS) (Pl.small_ok (unhide HPS)) (fun h => (unhide HPA h).1)).mono ?_
  rintro e wX ⟨rfl, bX⟩
  refine hK.out _ _ ?_ (fun hHeld => ?_)
  · exact unhide MK _ (hHeld.1.call bX)
  clear hK K
  try simp only [Act.put, kB0, kB1, kB2, kB3, kB4, kB5]
  clear NS
  refine wpAnyH_take (i := 5) (v := ?_) rfl (by kernel_rfl) (by kernel_rfl) (by kernel_rfl) (fun _ _ _ h => h) (Or.inl ⟨by rfl, ?_⟩) (by assumption) ?_
  rotate_left
  · (intro w hSw; (try dsimp only at hSw); go_simp; (try with_reducible rfl))
  try simp only [Act.put, kB0, kB1, kB2, kB3, kB4, kB5]
  refine wpAnyH_take (i := 6) (v := ?_) rfl (by kernel_rfl) (by kernel_rfl) (by kernel_rfl) (fun _ _ _ h => h) (Or.inl ⟨by rfl, ?_⟩) (by assumption) ?_
  rotate_left
  · (intro w hSw; (try dsimp only at hSw); go_simp; (try with_reducible rfl))
  try simp only [Act.put, kB0, kB1, kB2, kB3, kB4, kB5]
  refine wpAnyH_take (i := 7) (v := ?_) rfl (by kernel_rfl) (by kernel_rfl) (by kernel_rfl) (fun _ _ _ h => h) (Or.inl ⟨by rfl, ?_⟩) (by assumption) ?_
  rotate_left
  · (intro w hSw; (try dsimp only at hSw); go_simp; (try with_reducible rfl))
  try simp only [Act.put, kB0, kB1, kB2, kB3, kB4, kB5]
  refine wpAnyH_take (i := 8) (v := ?_) rfl (by kernel_rfl) (by kernel_rfl) (by kernel_rfl) (fun _ _ _ h => h) (Or.inl ⟨by rfl, ?_⟩) (by assumption) ?_
  rotate_left
  · (intro w hSw; (try dsimp only at hSw); go_simp; (try with_reducible rfl))
  try simp only [Act.put, kB0, kB1, kB2, kB3, kB4, kB5]
  refine wpAnyH_take (i := 9) (v := ?_) rfl (by kernel_rfl) (by kernel_rfl) (by kernel_rfl) (fun _ _ _ h => h) (Or.inl ⟨by rfl, ?_⟩) (by assumption) ?_
  rotate_left
  · (intro w hSw; (try dsimp only at hSw); go_simp; (try with_reducible rfl))
  try simp only [Act.put, kB0, kB1, kB2, kB3, kB4, kB5]
  refine wpAnyH_ready (rs := [10]) (by kernel_rfl) (by simp) ?_
  refine AllReadyH.cons rfl (fun K hK => ?_) AllReadyH.nil
  go_simp
  refine (unhide hscu _ hHeld.1.n8).mono ?_
  rintro e wX ⟨vs, rfl, ownS, bX⟩
  obtain ⟨sa, sc, hvs⟩ := Mem.own_shape ownS
  subst hvs
  have NS := hide (Mem.ownN_nodes ownS).2
  clear ownS
  refine hK.out _ _ ?_ (fun hHeld => ?_)
  · exact unhide MK _ (hHeld.1.call bX)
  clear hK K
  try simp only [Act.put, kB0, kB1, kB2, kB3, kB4, kB5]
  refine wpAnyH_ready (rs := [11]) (by kernel_rfl) (by simp) ?_
  refine AllReadyH.cons rfl (fun K hK => ?_) AllReadyH.nil
  go_simp
  refine (WLw.trees_any ya sa yc sc cc CO _ hCO hHeld.1.n10 (unhide NS) (Pl.small_ok (unhide HCS)) (fun h => (unhide HCA h).1)).mono ?_
  rintro e wX ⟨rfl, bX⟩
  refine hK.out _ _ ?_ (fun hHeld => ?_)
  · exact unhide MK _ (hHeld.1.call bX)
  clear hK K
  try simp only [Act.put, kB0, kB1, kB2, kB3, kB4, kB5]
  clear NS
  refine wpAnyH_take (i := 12) (v := ?_) rfl (by kernel_rfl) (by kernel_rfl) (by kernel_rfl) (fun _ _ _ h => h) (Or.inl ⟨by rfl, ?_⟩) (by assumption) ?_
  rotate_left
  · (intro w hSw; (try dsimp only at hSw); go_simp; (try with_reducible rfl))
  try simp only [Act.put, kB0, kB1, kB2, kB3, kB4, kB5]
  refine wpAnyH_take (i := 13) (v := ?_) rfl (by kernel_rfl) (by kernel_rfl) (by kernel_rfl) (fun _ _ _ h => h) (Or.inl ⟨by rfl, ?_⟩) (by assumption) ?_
  rotate_left
  · (intro w hSw; (try dsimp only at hSw); go_simp; (try with_reducible rfl))
  try simp only [Act.put, kB0, kB1, kB2, kB3, kB4, kB5]
  refine wpAnyH_take (i := 14) (v := ?_) rfl (by kernel_rfl) (by kernel_rfl) (by kernel_rfl) (fun _ _ _ h => h) (Or.inl ⟨by rfl, ?_⟩) (by assumption) ?_
  rotate_left
  · (intro w hSw; (try dsimp only at hSw); go_simp; (try with_reducible rfl))
  try simp only [Act.put, kB0, kB1, kB2, kB3, kB4, kB5]
  refine wpAnyH_take (i := 15) (v := ?_) rfl (by kernel_rfl) (by kernel_rfl) (by kernel_rfl) (fun _ _ _ h => h) (Or.inl ⟨by rfl, ?_⟩) (by assumption) ?_
  rotate_left
  · (intro w hSw; (try dsimp only at hSw); go_simp; (try with_reducible rfl))
  try simp only [Act.put, kB0, kB1, kB2, kB3, kB4, kB5]
  refine wpAnyH_take (i := 16) (v := ?_) rfl (by kernel_rfl) (by kernel_rfl) (by kernel_rfl) (fun _ _ _ h => h) (Or.inl ⟨by rfl, ?_⟩) (by assumption) ?_
  rotate_left
  · (intro w hSw; (try dsimp only at hSw); go_simp; (try with_reducible rfl))
  try simp only [Act.put, kB0, kB1, kB2, kB3, kB4, kB5]
  refine wpAnyH_take (i := 18) (v := ?_) rfl (by kernel_rfl) (by kernel_rfl) (by kernel_rfl) (fun _ _ _ h => h) (Or.inl ⟨by rfl, ?_⟩) (by assumption) ?_
  rotate_left
  · (intro w hSw; (try dsimp only at hSw); go_simp; (try with_reducible rfl))
  try simp only [Act.put, kB0, kB1, kB2, kB3, kB4, kB5]
  refine wpAnyH_take (i := 19) (v := ?_) rfl (by kernel_rfl) (by kernel_rfl) (by kernel_rfl) (fun _ _ _ h => h) (Or.inl ⟨by rfl, ?_⟩) (by assumption) ?_
  rotate_left
  · (intro w hSw; (try dsimp only at hSw); go_simp; (try with_reducible rfl))
  try simp only [Act.put, kB0, kB1, kB2, kB3, kB4, kB5]
  refine wpAnyH_ready (rs := [17]) (by kernel_rfl) (by simp) ?_
  refine AllReadyH.cons rfl (fun K hK => ?_) AllReadyH.nil
  go_simp
  refine (unhide HGI _ hHeld.1.bel hHeld.1.n11).mono ?_
  rintro e wX ⟨rfl, bX⟩
  refine hK.out _ _ ?_ (fun hHeld => ?_)
  · exact unhide MK _ (hHeld.1.call bX)
  clear hK K
  try simp only [Act.put, kB0, kB1, kB2, kB3, kB4, kB5]
  refine wpAnyH_ready (rs := [20]) (by kernel_rfl) (by simp) ?_
  refine AllReadyH.cons rfl (fun K hK => ?_) AllReadyH.nil
  go_simp
  refine (unhide HGS _ hHeld.1.n11).mono ?_
  rintro e wX ⟨rfl, bX⟩
  refine hK.out _ _ ?_ (fun hHeld => ?_)
  · exact unhide MK _ (hHeld.1.call bX)
  clear hK K
  try simp only [Act.put, kB0, kB1, kB2, kB3, kB4, kB5]
  refine wpAnyH_take (i := 21) (v := ?_) rfl (by kernel_rfl) (by kernel_rfl) (by kernel_rfl) (fun _ _ _ h => h) (Or.inl ⟨by rfl, ?_⟩) (by assumption) ?_
  rotate_left
  · (intro w hSw; (try dsimp only at hSw); go_simp; (try with_reducible rfl))
  try simp only [Act.put, kB0, kB1, kB2, kB3, kB4, kB5]
  refine wpAnyH_take (i := 22) (v := ?_) rfl (by kernel_rfl) (by kernel_rfl) (by kernel_rfl) (fun _ _ _ h => h) (Or.inl ⟨by rfl, ?_⟩) (by assumption) ?_
  rotate_left
  · (intro w hSw; (try dsimp only at hSw); go_simp; (try with_reducible rfl))
  try simp only [Act.put, kB0, kB1, kB2, kB3, kB4, kB5]
  refine wpAnyH_take (i := 23) (v := ?_) rfl (by kernel_rfl) (by kernel_rfl) (by kernel_rfl) (fun _ _ _ h => h) (Or.inl ⟨by rfl, ?_⟩) (by assumption) ?_
  rotate_left
  · (intro w hSw; (try dsimp only at hSw); go_simp; (try with_reducible rfl))
  try simp only [Act.put, kB0, kB1, kB2, kB3, kB4, kB5]
  refine wpAnyH_take (i := 24) (v := ?_) rfl (by kernel_rfl) (by kernel_rfl) (by kernel_rfl) (fun _ _ _ h => h) (Or.inl ⟨by rfl, ?_⟩) (by assumption) ?_
  rotate_left
  · (intro w hSw; (try dsimp only at hSw); go_simp; (try with_reducible rfl))
  try simp only [Act.put, kB0, kB1, kB2, kB3, kB4, kB5]
  refine wpAnyH_take (i := 26) (v := ?_) rfl (by kernel_rfl) (by kernel_rfl) (by kernel_rfl) (fun _ _ _ h => h) (Or.inl ⟨by rfl, ?_⟩) (by assumption) ?_
  rotate_left
  · (intro w hSw; (try dsimp only at hSw); go_simp; (try with_reducible rfl))
  try simp only [Act.put, kB0, kB1, kB2, kB3, kB4, kB5]
  refine wpAnyH_ready (rs := [25]) (by kernel_rfl) (by simp) ?_
  refine AllReadyH.cons rfl (fun K hK => ?_) AllReadyH.nil
  go_simp
  refine (unhide HRI _ hHeld.1.bel hHeld.1.n8).mono ?_
  rintro e wX ⟨rfl, bX⟩
  refine hK.out _ _ ?_ (fun hHeld => ?_)
  · exact unhide MK _ (hHeld.1.call bX)
  clear hK K
  try simp only [Act.put, kB0, kB1, kB2, kB3, kB4, kB5]
  refine wpAnyH_ready (rs := [27]) (by kernel_rfl) (by simp) ?_
  refine AllReadyH.cons rfl (fun K hK => ?_) AllReadyH.nil
  go_simp
  refine (unhide HRS _ hHeld.1.n8).mono ?_
  rintro e wX ⟨rfl, bX⟩
  refine hK.out _ _ ?_ (fun hHeld => ?_)
  · exact unhide MK _ (hHeld.1.call bX)
  clear hK K
  try simp only [Act.put, kB0, kB1, kB2, kB3, kB4, kB5]
  refine wpAnyH_take (i := 28) (v := ?_) rfl (by kernel_rfl) (by kernel_rfl) (by kernel_rfl) (fun _ _ _ h => h) (Or.inl ⟨by rfl, ?_⟩) (by assumption) ?_
  rotate_left
  · (intro w hSw; (try dsimp only at hSw); go_simp; (try with_reducible rfl))
  try simp only [Act.put, kB0, kB1, kB2, kB3, kB4, kB5]
  refine wpAnyH_take (i := 29) (v := ?_) rfl (by kernel_rfl) (by kernel_rfl) (by kernel_rfl) (fun _ _ _ h => h) (Or.inl ⟨by rfl, ?_⟩) (by assumption) ?_
  rotate_left
  · (intro w hSw; (try dsimp only at hSw); go_simp; (try with_reducible rfl))
  try simp only [Act.put, kB0, kB1, kB2, kB3, kB4, kB5]
  refine wpAnyH_take (i := 30) (v := ?_) rfl (by kernel_rfl) (by kernel_rfl) (by kernel_rfl) (fun _ _ _ h => h) (Or.inl ⟨by rfl, ?_⟩) (by assumption) ?_
  rotate_left
  · (intro w hSw; (try dsimp only at hSw); go_simp; (try with_reducible rfl))
  try simp only [Act.put, kB0, kB1, kB2, kB3, kB4, kB5]
  refine wpAnyH_take (i := 31) (v := ?_) rfl (by kernel_rfl) (by kernel_rfl) (by kernel_rfl) (fun _ _ _ h => h) (Or.inl ⟨by rfl, ?_⟩) (by assumption) ?_
  rotate_left
  · (intro w hSw; (try dsimp only at hSw); go_simp; (try with_reducible rfl))
  try simp only [Act.put, kB0, kB1, kB2, kB3, kB4, kB5]
  refine wpAnyH_take (i := 33) (v := ?_) rfl (by kernel_rfl) (by kernel_rfl) (by kernel_rfl) (fun _ _ _ h => h) (Or.inl ⟨by rfl, ?_⟩) (by assumption) ?_
  rotate_left
  · (intro w hSw; (try dsimp only at hSw); go_simp; (try with_reducible rfl))
  try simp only [Act.put, kB0, kB1, kB2, kB3, kB4, kB5]
  refine wpAnyH_ready (rs := [32]) (by kernel_rfl) (by simp) ?_
  refine AllReadyH.cons rfl (fun K hK => ?_) AllReadyH.nil
  go_simp
  refine (unhide HNI _).mono ?_
  rintro e wX ⟨rfl, bX⟩
  refine hK.out _ _ ?_ (fun hHeld => ?_)
  · exact unhide MK _ (hHeld.1.call bX)
  clear hK K
  try simp only [Act.put, kB0, kB1, kB2, kB3, kB4, kB5]
  refine wpAnyH_ready (rs := [34]) (by kernel_rfl) (by simp) ?_
  refine AllReadyH.cons rfl (fun K hK => ?_) AllReadyH.nil
  go_simp
  refine (unhide HNS _).mono ?_
  rintro e wX ⟨rfl, bX⟩
  refine hK.out _ _ ?_ (fun hHeld => ?_)
  · exact unhide MK _ (hHeld.1.call bX)
  clear hK K
  try simp only [Act.put, kB0, kB1, kB2, kB3, kB4, kB5]
  refine wpAnyH_take (i := 35) (v := ?_) rfl (by kernel_rfl) (by kernel_rfl) (by kernel_rfl) (fun _ _ _ h => h) (Or.inl ⟨by rfl, ?_⟩) (by assumption) ?_
  rotate_left
  · (intro w hSw; (try dsimp only at hSw); go_simp; (try with_reducible rfl))
  try simp only [Act.put, kB0, kB1, kB2, kB3, kB4, kB5]
  refine wpAnyH_take (i := 36) (v := ?_) rfl (by kernel_rfl) (by kernel_rfl) (by kernel_rfl) (fun _ _ _ h => h) (Or.inl ⟨by rfl, ?_⟩) (by assumption) ?_
  rotate_left
  · (intro w hSw; (try dsimp only at hSw); go_simp; (try with_reducible rfl))
  try simp only [Act.put, kB0, kB1, kB2, kB3, kB4, kB5]
  refine wpAnyH_take (i := 37) (v := ?_) rfl (by kernel_rfl) (by kernel_rfl) (by kernel_rfl) (fun _ _ _ h => h) (Or.inl ⟨by rfl, ?_⟩) (by assumption) ?_
  rotate_left
  · (intro w hSw; (try dsimp only at hSw); go_simp; (try with_reducible rfl))
  try simp only [Act.put, kB0, kB1, kB2, kB3, kB4, kB5]
  refine wpAnyH_take (i := 38) (v := ?_) rfl (by kernel_rfl) (by kernel_rfl) (by kernel_rfl) (fun _ _ _ h => h) (Or.inl ⟨by rfl, ?_⟩) (by assumption) ?_
  rotate_left
  · (intro w hSw; (try dsimp only at hSw); go_simp; (try with_reducible rfl))
  try simp only [Act.put, kB0, kB1, kB2, kB3, kB4, kB5]
  refine wpAnyH_take (i := 40) (v := ?_) rfl (by kernel_rfl) (by kernel_rfl) (by kernel_rfl) (fun _ _ _ h => h) (Or.inl ⟨by rfl, ?_⟩) (by assumption) ?_
  rotate_left
  · (intro w hSw; (try dsimp only at hSw); go_simp; (try with_reducible rfl))
  try simp only [Act.put, kB0, kB1, kB2, kB3, kB4, kB5]
  refine wpAnyH_ready (rs := [39]) (by kernel_rfl) (by simp) ?_
  refine AllReadyH.cons rfl (fun K hK => ?_) AllReadyH.nil
  go_simp
  refine (unhide HCI _ hHeld.1.bel hHeld.1.n8).mono ?_
  rintro e wX ⟨rfl, bX⟩
  refine hK.out _ _ ?_ (fun hHeld => ?_)
  · exact unhide MK _ (hHeld.1.call bX)
  clear hK K
  try simp only [Act.put, kB0, kB1, kB2, kB3, kB4, kB5]
  refine wpAnyH_ready (rs := [41]) (by kernel_rfl) (by simp) ?_
  refine AllReadyH.cons rfl (fun K hK => ?_) AllReadyH.nil
  go_simp
  refine (unhide HCT _ hHeld.1.n8).mono ?_
  rintro e wX ⟨rfl, bX⟩
  refine hK.out _ _ ?_ (fun hHeld => ?_)
  · exact unhide MK _ (hHeld.1.call bX)
  clear hK K
  try simp only [Act.put, kB0, kB1, kB2, kB3, kB4, kB5]
  refine wpAnyH_take (i := 42) (v := ?_) rfl (by kernel_rfl) (by kernel_rfl) (by kernel_rfl) (fun _ _ _ h => h) (Or.inl ⟨by rfl, ?_⟩) (by assumption) ?_
  rotate_left
  · (intro w hSw; (try dsimp only at hSw); go_simp; (try with_reducible rfl))
  try simp only [Act.put, kB0, kB1, kB2, kB3, kB4, kB5]
  refine wpAnyH_take (i := 43) (v := ?_) rfl (by kernel_rfl) (by kernel_rfl) (by kernel_rfl) (fun _ _ _ h => h) (Or.inl ⟨by rfl, ?_⟩) (by assumption) ?_
  rotate_left
  · (intro w hSw; (try dsimp only at hSw); go_simp; (try with_reducible rfl))
  try simp only [Act.put, kB0, kB1, kB2, kB3, kB4, kB5]
  refine wpAnyH_done (by kernel_rfl) ?_ _
  have F := hide hHeld.1
  clear hHeld hspu hscu HGI HGS HRI HRS HCI HCT HNI HNS
  by_cases hC : C = 0
  · subst hC
    obtain ⟨hA1, hA2, hA3, hA4, hA5, hA6⟩ := unhide HPA rfl
    have HGX := hide (fun W (b : Below w.heap.size w W) (v : Mem.isNodes W xa PO) => WGetT.impl_any xa xc PO np W (by omega) v (Pl.small_ok (unhide HPS)) (by omega) x (unhide HE W b))
    rw [hA2] at HGX
    have HB1 := hide (fun W (v : Mem.isNodes W xa PO) => WLb.l03_any xa xc PO np W (by omega) v hA6 hA4)
    have HB2 := hide (fun W (v : Mem.isNodes W ta L) => WLb.l03_any ta tc L np W (by omega) v hA6 hA5)
    rw [hA3] at HB1
    have HOL : Hid ((Pl.offL np L).length ≤ 1048576) := by have := Pl.off_len np L; exact Nat.le_trans this (by omega)
    clear hA1 hA2 hA3 hA4 hA5 hA6
    go_wp2
    clear MK
    have MK : Hid (∀ W', Fk w W' X5 X6 X7 X8 X10 X11 ta xa ua ya ga tc xc uc yc gc L PO U CO G ⟨np, nk, nd, nt, nm⟩ 0 cc → (fun W' => Fk w W' X5 X6 X7 X8 X10 X11 ta xa ua ya ga tc xc uc yc gc L PO U CO G ⟨np, nk, nd, nt, nm⟩ 0 cc ∧ W'.cell? ⟨X5, 0, none⟩ = some (.slice ta L.length tc) ∧ W'.cell? ⟨X6, 0, none⟩ = some (.string np) ∧ W'.cell? ⟨X6, 1, none⟩ = some (.int .i64 nk) ∧ W'.cell? ⟨X6, 2, none⟩ = some (.string nd) ∧ W'.cell? ⟨X6, 3, none⟩ = some (.int .i64 nt) ∧ W'.cell? ⟨X6, 4, none⟩ = some (.int .i64 nm) ∧ W'.cell? ⟨X7, 0, none⟩ = some (.slice xa PO.length xc) ∧ W'.cell? ⟨X7, 1, none⟩ = some (.int .i64 (0)) ∧ W'.cell? ⟨X8, 0, none⟩ = some (.slice ua U.length uc) ∧ W'.cell? ⟨X10, 0, none⟩ = some (.slice ya CO.length yc) ∧ W'.cell? ⟨X10, 1, none⟩ = some (.int .i64 (cc)) ∧ W'.cell? ⟨X11, 0, none⟩ = some (.slice ga G.length gc)) W') := fun W' h => ⟨h, h.b5.cell 0, h.b6.cell 0, h.b6.cell 1, h.b6.cell 2, h.b6.cell 3, h.b6.cell 4, h.b7.cell 0, h.b7.cell 1, h.b8.cell 0, h.b10.cell 0, h.b10.cell 1, h.b11.cell 0⟩
    refine wp_region_held_drew (S := fun W' => Fk w W' X5 X6 X7 X8 X10 X11 ta xa ua ya ga tc xc uc yc gc L PO U CO G ⟨np, nk, nd, nt, nm⟩ 0 cc ∧ W'.cell? ⟨X5, 0, none⟩ = some (.slice ta L.length tc) ∧ W'.cell? ⟨X6, 0, none⟩ = some (.string np) ∧ W'.cell? ⟨X6, 1, none⟩ = some (.int .i64 nk) ∧ W'.cell? ⟨X6, 2, none⟩ = some (.string nd) ∧ W'.cell? ⟨X6, 3, none⟩ = some (.int .i64 nt) ∧ W'.cell? ⟨X6, 4, none⟩ = some (.int .i64 nm) ∧ W'.cell? ⟨X7, 0, none⟩ = some (.slice xa PO.length xc) ∧ W'.cell? ⟨X7, 1, none⟩ = some (.int .i64 (0)) ∧ W'.cell? ⟨X8, 0, none⟩ = some (.slice ua U.length uc) ∧ W'.cell? ⟨X10, 0, none⟩ = some (.slice ya CO.length yc) ∧ W'.cell? ⟨X10, 1, none⟩ = some (.int .i64 (cc)) ∧ W'.cell? ⟨X11, 0, none⟩ = some (.slice ga G.length gc)) (by kernel_rfl) ?_ (fun hHeld => ?_)
    · exact unhide MK _ (unhide F).drew
    clear F
    refine wpAnyH_take (i := 0) (v := ?_) rfl (by kernel_rfl) (by kernel_rfl) (by kernel_rfl) (fun _ _ _ h => h) (Or.inl ⟨by rfl, ?_⟩) (by assumption) ?_
    rotate_left
    · (intro w hSw; (try dsimp only at hSw); go_simp; (try with_reducible rfl))
    try simp only [Act.put, kB0, kB1, kB2, kB3, kB4, kB5]
    refine wpAnyH_take (i := 1) (v := ?_) rfl (by kernel_rfl) (by kernel_rfl) (by kernel_rfl) (fun _ _ _ h => h) (Or.inl ⟨by rfl, ?_⟩) (by assumption) ?_
    rotate_left
    · (intro w hSw; (try dsimp only at hSw); go_simp; (try with_reducible rfl))
    try simp only [Act.put, kB0, kB1, kB2, kB3, kB4, kB5]
    refine wpAnyH_take (i := 2) (v := ?_) rfl (by kernel_rfl) (by kernel_rfl) (by kernel_rfl) (fun _ _ _ h => h) (Or.inl ⟨by rfl, ?_⟩) (by assumption) ?_
    rotate_left
    · (intro w hSw; (try dsimp only at hSw); go_simp; (try with_reducible rfl))
    try simp only [Act.put, kB0, kB1, kB2, kB3, kB4, kB5]
    refine wpAnyH_take (i := 3) (v := ?_) rfl (by kernel_rfl) (by kernel_rfl) (by kernel_rfl) (fun _ _ _ h => h) (Or.inl ⟨by rfl, ?_⟩) (by assumption) ?_
    rotate_left
    · (intro w hSw; (try dsimp only at hSw); go_simp; (try with_reducible rfl))
    try simp only [Act.put, kB0, kB1, kB2, kB3, kB4, kB5]
    refine wpAnyH_take (i := 4) (v := ?_) rfl (by kernel_rfl) (by kernel_rfl) (by kernel_rfl) (fun _ _ _ h => h) (Or.inl ⟨by rfl, ?_⟩) (by assumption) ?_
    rotate_left
    · (intro w hSw; (try dsimp only at hSw); go_simp; (try with_reducible rfl))
    try simp only [Act.put, kB0, kB1, kB2, kB3, kB4, kB5]
    refine wpAnyH_take (i := 5) (v := ?_) rfl (by kernel_rfl) (by kernel_rfl) (by kernel_rfl) (fun _ _ _ h => h) (Or.inl ⟨by rfl, ?_⟩) (by assumption) ?_
    rotate_left
    · (intro w hSw; (try dsimp only at hSw); go_simp; (try with_reducible rfl))
    try simp only [Act.put, kB0, kB1, kB2, kB3, kB4, kB5]
    refine wpAnyH_take (i := 6) (v := ?_) rfl (by kernel_rfl) (by kernel_rfl) (by kernel_rfl) (fun _ _ _ h => h) (Or.inl ⟨by rfl, ?_⟩) (by assumption) ?_
    rotate_left
    · (intro w hSw; (try dsimp only at hSw); go_simp; (try with_reducible rfl))
    try simp only [Act.put, kB0, kB1, kB2, kB3, kB4, kB5]
    refine wpAnyH_take (i := 7) (v := ?_) rfl (by kernel_rfl) (by kernel_rfl) (by kernel_rfl) (fun _ _ _ h => h) (Or.inl ⟨by rfl, ?_⟩) (by assumption) ?_
    rotate_left
    · (intro w hSw; (try dsimp only at hSw); go_simp; (try with_reducible rfl))
    try simp only [Act.put, kB0, kB1, kB2, kB3, kB4, kB5]
    refine wpAnyH_take (i := 9) (v := ?_) rfl (by kernel_rfl) (by kernel_rfl) (by kernel_rfl) (fun _ _ _ h => h) (Or.inl ⟨by rfl, ?_⟩) (by assumption) ?_
    rotate_left
    · (intro w hSw; (try dsimp only at hSw); go_simp; (try with_reducible rfl))
    try simp only [Act.put, kB0, kB1, kB2, kB3, kB4, kB5]
    refine wpAnyH_take (i := 10) (v := ?_) rfl (by kernel_rfl) (by kernel_rfl) (by kernel_rfl) (fun _ _ _ h => h) (Or.inl ⟨by rfl, ?_⟩) (by assumption) ?_
    rotate_left
    · (intro w hSw; (try dsimp only at hSw); go_simp; (try with_reducible rfl))
    try simp only [Act.put, kB0, kB1, kB2, kB3, kB4, kB5]
    refine wpAnyH_ready (rs := [8]) (by kernel_rfl) (by simp) ?_
    refine AllReadyH.cons rfl (fun K hK => ?_) AllReadyH.nil
    go_simp
    refine (unhide HGX _ hHeld.1.bel hHeld.1.n7).mono ?_
    rintro e wX ⟨rfl, bX⟩
    refine hK.out _ _ ?_ (fun hHeld => ?_)
    · exact unhide MK _ (hHeld.1.call bX)
    clear hK K
    try simp only [Act.put, kB0, kB1, kB2, kB3, kB4, kB5]
    refine wpAnyH_take (i := 11) (v := ?_) rfl (by kernel_rfl) (by kernel_rfl) (by kernel_rfl) (fun _ _ _ h => h) (Or.inl ⟨by rfl, ?_⟩) (by assumption) ?_
    rotate_left
    · (intro w hSw; (try dsimp only at hSw); go_simp; (try with_reducible rfl))
    try simp only [Act.put, kB0, kB1, kB2, kB3, kB4, kB5]
    refine wpAnyH_take (i := 12) (v := ?_) rfl (by kernel_rfl) (by kernel_rfl) (by kernel_rfl) (fun _ _ _ h => h) (Or.inl ⟨by rfl, ?_⟩) (by assumption) ?_
    rotate_left
    · (intro w hSw; (try dsimp only at hSw); go_simp; (try with_reducible rfl))
    try simp only [Act.put, kB0, kB1, kB2, kB3, kB4, kB5]
    refine wpAnyH_take (i := 13) (v := ?_) rfl (by kernel_rfl) (by kernel_rfl) (by kernel_rfl) (fun _ _ _ h => h) (Or.inl ⟨by rfl, ?_⟩) (by assumption) ?_
    rotate_left
    · (intro w hSw; (try dsimp only at hSw); go_simp; (try with_reducible rfl))
    try simp only [Act.put, kB0, kB1, kB2, kB3, kB4, kB5]
    refine wpAnyH_take (i := 14) (v := ?_) rfl (by kernel_rfl) (by kernel_rfl) (by kernel_rfl) (fun _ _ _ h => h) (Or.inl ⟨by rfl, ?_⟩) (by assumption) ?_
    rotate_left
    · (intro w hSw; (try dsimp only at hSw); go_simp; (try with_reducible rfl))
    try simp only [Act.put, kB0, kB1, kB2, kB3, kB4, kB5]
    refine wpAnyH_take (i := 15) (v := ?_) rfl (by kernel_rfl) (by kernel_rfl) (by kernel_rfl) (fun _ _ _ h => h) (Or.inl ⟨by rfl, ?_⟩) (by assumption) ?_
    rotate_left
    · (intro w hSw; (try dsimp only at hSw); go_simp; (try with_reducible rfl))
    try simp only [Act.put, kB0, kB1, kB2, kB3, kB4, kB5]
    refine wpAnyH_take (i := 16) (v := ?_) rfl (by kernel_rfl) (by kernel_rfl) (by kernel_rfl) (fun _ _ _ h => h) (Or.inl ⟨by rfl, ?_⟩) (by assumption) ?_
    rotate_left
    · (intro w hSw; (try dsimp only at hSw); go_simp; (try with_reducible rfl))
    try simp only [Act.put, kB0, kB1, kB2, kB3, kB4, kB5]
    refine wpAnyH_take (i := 18) (v := ?_) rfl (by kernel_rfl) (by kernel_rfl) (by kernel_rfl) (fun _ _ _ h => h) (Or.inl ⟨by rfl, ?_⟩) (by assumption) ?_
    rotate_left
    · (intro w hSw; (try dsimp only at hSw); go_simp; (try with_reducible rfl))
    try simp only [Act.put, kB0, kB1, kB2, kB3, kB4, kB5]
    refine wpAnyH_take (i := 19) (v := ?_) rfl (by kernel_rfl) (by kernel_rfl) (by kernel_rfl) (fun _ _ _ h => h) (Or.inl ⟨by rfl, ?_⟩) (by assumption) ?_
    rotate_left
    · (intro w hSw; (try dsimp only at hSw); go_simp; (try with_reducible rfl))
    try simp only [Act.put, kB0, kB1, kB2, kB3, kB4, kB5]
    refine wpAnyH_take (i := 20) (v := ?_) rfl (by kernel_rfl) (by kernel_rfl) (by kernel_rfl) (fun _ _ _ h => h) (Or.inl ⟨by rfl, ?_⟩) (by assumption) ?_
    rotate_left
    · (intro w hSw; (try dsimp only at hSw); go_simp; (try with_reducible rfl))
    try simp only [Act.put, kB0, kB1, kB2, kB3, kB4, kB5]
    refine wpAnyH_ready (rs := [17]) (by kernel_rfl) (by simp) ?_
    refine AllReadyH.cons rfl (fun K hK => ?_) AllReadyH.nil
    go_simp
    refine (unhide HB1 _ hHeld.1.n7).mono ?_
    rintro e wX ⟨vs, rfl, ownS, bX⟩
    obtain ⟨sa, sc, hvs⟩ := Mem.own_shape ownS
    subst hvs
    have NS := hide (Mem.ownN_nodes ownS).2
    clear ownS
    refine hK.out _ _ ?_ (fun hHeld => ?_)
    · exact unhide MK _ (hHeld.1.call bX)
    clear hK K
    try simp only [Act.put, kB0, kB1, kB2, kB3, kB4, kB5]
    refine wpAnyH_ready (rs := [21]) (by kernel_rfl) (by simp) ?_
    refine AllReadyH.cons rfl (fun K hK => ?_) AllReadyH.nil
    go_simp
    refine (unhide HB2 _ hHeld.1.n5).mono ?_
    rintro e wX ⟨vs, rfl, ownS, bX⟩
    obtain ⟨sb, sd, hvs⟩ := Mem.own_shape ownS
    subst hvs
    have NT := hide (Mem.ownN_nodes ownS).2
    have NS := hide (Mem.nodes_call (unhide NS) bX)
    clear ownS
    refine hK.out _ _ ?_ (fun hHeld => ?_)
    · exact unhide MK _ (hHeld.1.call bX)
    clear hK K
    try simp only [Act.put, kB0, kB1, kB2, kB3, kB4, kB5]
    refine wpAnyH_ready (rs := [22]) (by kernel_rfl) (by simp) ?_
    refine AllReadyH.cons rfl (fun K hK => ?_) AllReadyH.nil
    go_simp
    refine (WLw.tree_any sa sb sc sd (Pl.offL np L) _ (unhide HOL) (unhide NS) (unhide NT)).mono ?_
    rintro e wX ⟨rfl, bX⟩
    refine hK.out _ _ ?_ (fun hHeld => ?_)
    · exact unhide MK _ (hHeld.1.call bX)
    clear hK K
    try simp only [Act.put, kB0, kB1, kB2, kB3, kB4, kB5]
    refine wpAnyH_take (i := 23) (v := ?_) rfl (by kernel_rfl) (by kernel_rfl) (by kernel_rfl) (fun _ _ _ h => h) (Or.inl ⟨by rfl, ?_⟩) (by assumption) ?_
    rotate_left
    · (intro w hSw; (try dsimp only at hSw); go_simp; (try with_reducible rfl))
    try simp only [Act.put, kB0, kB1, kB2, kB3, kB4, kB5]
    refine wpAnyH_take (i := 24) (v := ?_) rfl (by kernel_rfl) (by kernel_rfl) (by kernel_rfl) (fun _ _ _ h => h) (Or.inl ⟨by rfl, ?_⟩) (by assumption) ?_
    rotate_left
    · (intro w hSw; (try dsimp only at hSw); go_simp; (try with_reducible rfl))
    try simp only [Act.put, kB0, kB1, kB2, kB3, kB4, kB5]
    refine wpAnyH_take (i := 25) (v := ?_) rfl (by kernel_rfl) (by kernel_rfl) (by kernel_rfl) (fun _ _ _ h => h) (Or.inl ⟨by rfl, ?_⟩) (by assumption) ?_
    rotate_left
    · (intro w hSw; (try dsimp only at hSw); go_simp; (try with_reducible rfl))
    try simp only [Act.put, kB0, kB1, kB2, kB3, kB4, kB5]
    refine wpAnyH_done (by kernel_rfl) ?_ _
    have F := hide hHeld.1
    clear hHeld HGX HB1 HB2 HOL
    by_cases hc : cc = 0
    · subst hc
      obtain ⟨hA1, hA2, hA3, hA4, hA5⟩ := unhide HCA rfl
      have HGX := hide (fun W (b : Below w.heap.size w W) (v : Mem.isNodes W ya CO) => WGetT.impl_any ya yc CO p W (by omega) v (Pl.small_ok (unhide HCS)) (by omega) x (unhide HE W b))
      rw [hA2] at HGX
      have HB1 := hide (fun W (v : Mem.isNodes W ua U) => WLb.l03_any ua uc U p W (by omega) v hA5 hA4)
      rw [← hA3] at HB1
      clear hA1 hA2 hA3 hA4 hA5
      go_wp2
      clear MK
      have MK : Hid (∀ W', Fk w W' X5 X6 X7 X8 X10 X11 ta xa ua ya ga tc xc uc yc gc L PO U CO G ⟨np, nk, nd, nt, nm⟩ 0 0 → (fun W' => Fk w W' X5 X6 X7 X8 X10 X11 ta xa ua ya ga tc xc uc yc gc L PO U CO G ⟨np, nk, nd, nt, nm⟩ 0 0 ∧ W'.cell? ⟨X5, 0, none⟩ = some (.slice ta L.length tc) ∧ W'.cell? ⟨X6, 0, none⟩ = some (.string np) ∧ W'.cell? ⟨X6, 1, none⟩ = some (.int .i64 nk) ∧ W'.cell? ⟨X6, 2, none⟩ = some (.string nd) ∧ W'.cell? ⟨X6, 3, none⟩ = some (.int .i64 nt) ∧ W'.cell? ⟨X6, 4, none⟩ = some (.int .i64 nm) ∧ W'.cell? ⟨X7, 0, none⟩ = some (.slice xa PO.length xc) ∧ W'.cell? ⟨X7, 1, none⟩ = some (.int .i64 (0)) ∧ W'.cell? ⟨X8, 0, none⟩ = some (.slice ua U.length uc) ∧ W'.cell? ⟨X10, 0, none⟩ = some (.slice ya CO.length yc) ∧ W'.cell? ⟨X10, 1, none⟩ = some (.int .i64 (0)) ∧ W'.cell? ⟨X11, 0, none⟩ = some (.slice ga G.length gc)) W') := fun W' h => ⟨h, h.b5.cell 0, h.b6.cell 0, h.b6.cell 1, h.b6.cell 2, h.b6.cell 3, h.b6.cell 4, h.b7.cell 0, h.b7.cell 1, h.b8.cell 0, h.b10.cell 0, h.b10.cell 1, h.b11.cell 0⟩
      refine wp_region_held_drew (S := fun W' => Fk w W' X5 X6 X7 X8 X10 X11 ta xa ua ya ga tc xc uc yc gc L PO U CO G ⟨np, nk, nd, nt, nm⟩ 0 0 ∧ W'.cell? ⟨X5, 0, none⟩ = some (.slice ta L.length tc) ∧ W'.cell? ⟨X6, 0, none⟩ = some (.string np) ∧ W'.cell? ⟨X6, 1, none⟩ = some (.int .i64 nk) ∧ W'.cell? ⟨X6, 2, none⟩ = some (.string nd) ∧ W'.cell? ⟨X6, 3, none⟩ = some (.int .i64 nt) ∧ W'.cell? ⟨X6, 4, none⟩ = some (.int .i64 nm) ∧ W'.cell? ⟨X7, 0, none⟩ = some (.slice xa PO.length xc) ∧ W'.cell? ⟨X7, 1, none⟩ = some (.int .i64 (0)) ∧ W'.cell? ⟨X8, 0, none⟩ = some (.slice ua U.length uc) ∧ W'.cell? ⟨X10, 0, none⟩ = some (.slice ya CO.length yc) ∧ W'.cell? ⟨X10, 1, none⟩ = some (.int .i64 (0)) ∧ W'.cell? ⟨X11, 0, none⟩ = some (.slice ga G.length gc)) (by kernel_rfl) ?_ (fun hHeld => ?_)
      · exact unhide MK _ (unhide F).drew
      clear F
      refine wpAnyH_take (i := 0) (v := ?_) rfl (by kernel_rfl) (by kernel_rfl) (by kernel_rfl) (fun _ _ _ h => h) (Or.inl ⟨by rfl, ?_⟩) (by assumption) ?_
      rotate_left
      · (intro w hSw; (try dsimp only at hSw); go_simp; (try with_reducible rfl))
      try simp only [Act.put, kB0, kB1, kB2, kB3, kB4, kB5]
      refine wpAnyH_take (i := 1) (v := ?_) rfl (by kernel_rfl) (by kernel_rfl) (by kernel_rfl) (fun _ _ _ h => h) (Or.inl ⟨by rfl, ?_⟩) (by assumption) ?_
      rotate_left
      · (intro w hSw; (try dsimp only at hSw); go_simp; (try with_reducible rfl))
      try simp only [Act.put, kB0, kB1, kB2, kB3, kB4, kB5]
      refine wpAnyH_take (i := 2) (v := ?_) rfl (by kernel_rfl) (by kernel_rfl) (by kernel_rfl) (fun _ _ _ h => h) (Or.inl ⟨by rfl, ?_⟩) (by assumption) ?_
      rotate_left
      · (intro w hSw; (try dsimp only at hSw); go_simp; (try with_reducible rfl))
      try simp only [Act.put, kB0, kB1, kB2, kB3, kB4, kB5]
      refine wpAnyH_take (i := 3) (v := ?_) rfl (by kernel_rfl) (by kernel_rfl) (by kernel_rfl) (fun _ _ _ h => h) (Or.inl ⟨by rfl, ?_⟩) (by assumption) ?_
      rotate_left
      · (intro w hSw; (try dsimp only at hSw); go_simp; (try with_reducible rfl))
      try simp only [Act.put, kB0, kB1, kB2, kB3, kB4, kB5]
      refine wpAnyH_take (i := 4) (v := ?_) rfl (by kernel_rfl) (by kernel_rfl) (by kernel_rfl) (fun _ _ _ h => h) (Or.inl ⟨by rfl, ?_⟩) (by assumption) ?_
      rotate_left
      · (intro w hSw; (try dsimp only at hSw); go_simp; (try with_reducible rfl))
      try simp only [Act.put, kB0, kB1, kB2, kB3, kB4, kB5]
      refine wpAnyH_take (i := 5) (v := ?_) rfl (by kernel_rfl) (by kernel_rfl) (by kernel_rfl) (fun _ _ _ h => h) (Or.inl ⟨by rfl, ?_⟩) (by assumption) ?_
      rotate_left
      · (intro w hSw; (try dsimp only at hSw); go_simp; (try with_reducible rfl))
      try simp only [Act.put, kB0, kB1, kB2, kB3, kB4, kB5]
      refine wpAnyH_take (i := 6) (v := ?_) rfl (by kernel_rfl) (by kernel_rfl) (by kernel_rfl) (fun _ _ _ h => h) (Or.inl ⟨by rfl, ?_⟩) (by assumption) ?_
      rotate_left
      · (intro w hSw; (try dsimp only at hSw); go_simp; (try with_reducible rfl))
      try simp only [Act.put, kB0, kB1, kB2, kB3, kB4, kB5]
      refine wpAnyH_take (i := 7) (v := ?_) rfl (by kernel_rfl) (by kernel_rfl) (by kernel_rfl) (fun _ _ _ h => h) (Or.inl ⟨by rfl, ?_⟩) (by assumption) ?_
      rotate_left
      · (intro w hSw; (try dsimp only at hSw); go_simp; (try with_reducible rfl))
      try simp only [Act.put, kB0, kB1, kB2, kB3, kB4, kB5]
      refine wpAnyH_ready (rs := [8]) (by kernel_rfl) (by simp) ?_
      refine AllReadyH.cons rfl (fun K hK => ?_) AllReadyH.nil
      go_simp
      refine (unhide HB1 _ hHeld.1.n8).mono ?_
      rintro e wX ⟨vs, rfl, ownS, bX⟩
      obtain ⟨sa, sc, hvs⟩ := Mem.own_shape ownS
      subst hvs
      have NS := hide (Mem.ownN_nodes ownS).2
      clear ownS
      refine hK.out _ _ ?_ (fun hHeld => ?_)
      · exact unhide MK _ (hHeld.1.call bX)
      clear hK K
      try simp only [Act.put, kB0, kB1, kB2, kB3, kB4, kB5]
      refine wpAnyH_ready (rs := [9]) (by kernel_rfl) (by simp) ?_
      refine AllReadyH.cons rfl (fun K hK => ?_) AllReadyH.nil
      go_simp
      refine (WLw.tree_any ya sa yc sc CO _ hCO hHeld.1.n10 (unhide NS)).mono ?_
      rintro e wX ⟨rfl, bX⟩
      refine hK.out _ _ ?_ (fun hHeld => ?_)
      · exact unhide MK _ (hHeld.1.call bX)
      clear hK K
      try simp only [Act.put, kB0, kB1, kB2, kB3, kB4, kB5]
      refine wpAnyH_take (i := 10) (v := ?_) rfl (by kernel_rfl) (by kernel_rfl) (by kernel_rfl) (fun _ _ _ h => h) (Or.inl ⟨by rfl, ?_⟩) (by assumption) ?_
      rotate_left
      · (intro w hSw; (try dsimp only at hSw); go_simp; (try with_reducible rfl))
      try simp only [Act.put, kB0, kB1, kB2, kB3, kB4, kB5]
      refine wpAnyH_take (i := 11) (v := ?_) rfl (by kernel_rfl) (by kernel_rfl) (by kernel_rfl) (fun _ _ _ h => h) (Or.inl ⟨by rfl, ?_⟩) (by assumption) ?_
      rotate_left
      · (intro w hSw; (try dsimp only at hSw); go_simp; (try with_reducible rfl))
      try simp only [Act.put, kB0, kB1, kB2, kB3, kB4, kB5]
      refine wpAnyH_take (i := 12) (v := ?_) rfl (by kernel_rfl) (by kernel_rfl) (by kernel_rfl) (fun _ _ _ h => h) (Or.inl ⟨by rfl, ?_⟩) (by assumption) ?_
      rotate_left
      · (intro w hSw; (try dsimp only at hSw); go_simp; (try with_reducible rfl))
      try simp only [Act.put, kB0, kB1, kB2, kB3, kB4, kB5]
      refine wpAnyH_take (i := 13) (v := ?_) rfl (by kernel_rfl) (by kernel_rfl) (by kernel_rfl) (fun _ _ _ h => h) (Or.inl ⟨by rfl, ?_⟩) (by assumption) ?_
      rotate_left
      · (intro w hSw; (try dsimp only at hSw); go_simp; (try with_reducible rfl))
      try simp only [Act.put, kB0, kB1, kB2, kB3, kB4, kB5]
      refine wpAnyH_ready (rs := [14]) (by kernel_rfl) (by simp) ?_
      refine AllReadyH.cons rfl (fun K hK => ?_) AllReadyH.nil
      go_simp
      refine (unhide HGX _ hHeld.1.bel hHeld.1.n10).mono ?_
      rintro e wX ⟨rfl, bX⟩
      refine hK.out _ _ ?_ (fun hHeld => ?_)
      · exact unhide MK _ (hHeld.1.call bX)
      clear hK K
      try simp only [Act.put, kB0, kB1, kB2, kB3, kB4, kB5]
      refine wpAnyH_take (i := 15) (v := ?_) rfl (by kernel_rfl) (by kernel_rfl) (by kernel_rfl) (fun _ _ _ h => h) (Or.inl ⟨by rfl, ?_⟩) (by assumption) ?_
      rotate_left
      · (intro w hSw; (try dsimp only at hSw); go_simp; (try with_reducible rfl))
      try simp only [Act.put, kB0, kB1, kB2, kB3, kB4, kB5]
      refine wpAnyH_take (i := 16) (v := ?_) rfl (by kernel_rfl) (by kernel_rfl) (by kernel_rfl) (fun _ _ _ h => h) (Or.inl ⟨by rfl, ?_⟩) (by assumption) ?_
      rotate_left
      · (intro w hSw; (try dsimp only at hSw); go_simp; (try with_reducible rfl))
      try simp only [Act.put, kB0, kB1, kB2, kB3, kB4, kB5]
      refine wpAnyH_take (i := 17) (v := ?_) rfl (by kernel_rfl) (by kernel_rfl) (by kernel_rfl) (fun _ _ _ h => h) (Or.inl ⟨by rfl, ?_⟩) (by assumption) ?_
      rotate_left
      · (intro w hSw; (try dsimp only at hSw); go_simp; (try with_reducible rfl))
      try simp only [Act.put, kB0, kB1, kB2, kB3, kB4, kB5]
      refine wpAnyH_take (i := 18) (v := ?_) rfl (by kernel_rfl) (by kernel_rfl) (by kernel_rfl) (fun _ _ _ h => h) (Or.inl ⟨by rfl, ?_⟩) (by assumption) ?_
      rotate_left
      · (intro w hSw; (try dsimp only at hSw); go_simp; (try with_reducible rfl))
      try simp only [Act.put, kB0, kB1, kB2, kB3, kB4, kB5]
      refine wpAnyH_take (i := 19) (v := ?_) rfl (by kernel_rfl) (by kernel_rfl) (by kernel_rfl) (fun _ _ _ h => h) (Or.inl ⟨by rfl, ?_⟩) (by assumption) ?_
      rotate_left
      · (intro w hSw; (try dsimp only at hSw); go_simp; (try with_reducible rfl))
      try simp only [Act.put, kB0, kB1, kB2, kB3, kB4, kB5]
      refine wpAnyH_done (by kernel_rfl) ?_ _
      have F := hide hHeld.1
      clear hHeld HGX HB1
      go_wp2
      go_ret
      exact ⟨rfl, (unhide F).bel⟩
    · have hcb : (cc == 0) = false := by simpa using hc
      have hc1 : (cc != 0) = true := by simpa using hc
      have hc2 : decide (cc = 0) = false := by simpa using hc
      clear hc
      go_wp2
      refine wp_region_held_drew (S := fun W' => Fk w W' X5 X6 X7 X8 X10 X11 ta xa ua ya ga tc xc uc yc gc L PO U CO G ⟨np, nk, nd, nt, nm⟩ 0 cc ∧ W'.cell? ⟨X5, 0, none⟩ = some (.slice ta L.length tc) ∧ W'.cell? ⟨X6, 0, none⟩ = some (.string np) ∧ W'.cell? ⟨X6, 1, none⟩ = some (.int .i64 nk) ∧ W'.cell? ⟨X6, 2, none⟩ = some (.string nd) ∧ W'.cell? ⟨X6, 3, none⟩ = some (.int .i64 nt) ∧ W'.cell? ⟨X6, 4, none⟩ = some (.int .i64 nm) ∧ W'.cell? ⟨X7, 0, none⟩ = some (.slice xa PO.length xc) ∧ W'.cell? ⟨X7, 1, none⟩ = some (.int .i64 (0)) ∧ W'.cell? ⟨X8, 0, none⟩ = some (.slice ua U.length uc) ∧ W'.cell? ⟨X10, 0, none⟩ = some (.slice ya CO.length yc) ∧ W'.cell? ⟨X10, 1, none⟩ = some (.int .i64 (cc)) ∧ W'.cell? ⟨X11, 0, none⟩ = some (.slice ga G.length gc)) (by kernel_rfl) ?_ (fun hHeld => ?_)
      · exact unhide MK _ (unhide F).drew
      clear F
      refine wpAnyH_take (i := 0) (v := ?_) rfl (by kernel_rfl) (by kernel_rfl) (by kernel_rfl) (fun _ _ _ h => h) (Or.inl ⟨by rfl, ?_⟩) (by assumption) ?_
      rotate_left
      · (intro w hSw; (try dsimp only at hSw); go_simp; (try with_reducible rfl))
      try simp only [Act.put, kB0, kB1, kB2, kB3, kB4, kB5]
      refine wpAnyH_take (i := 1) (v := ?_) rfl (by kernel_rfl) (by kernel_rfl) (by kernel_rfl) (fun _ _ _ h => h) (Or.inl ⟨by rfl, ?_⟩) (by assumption) ?_
      rotate_left
      · (intro w hSw; (try dsimp only at hSw); go_simp; (try with_reducible rfl))
      try simp only [Act.put, kB0, kB1, kB2, kB3, kB4, kB5]
      refine wpAnyH_take (i := 2) (v := ?_) rfl (by kernel_rfl) (by kernel_rfl) (by kernel_rfl) (fun _ _ _ h => h) (Or.inl ⟨by rfl, ?_⟩) (by assumption) ?_
      rotate_left
      · (intro w hSw; (try dsimp only at hSw); go_simp; (try with_reducible rfl))
      try simp only [Act.put, kB0, kB1, kB2, kB3, kB4, kB5]
      refine wpAnyH_take (i := 3) (v := ?_) rfl (by kernel_rfl) (by kernel_rfl) (by kernel_rfl) (fun _ _ _ h => h) (Or.inl ⟨by rfl, ?_⟩) (by assumption) ?_
      rotate_left
      · (intro w hSw; (try dsimp only at hSw); go_simp; (try with_reducible rfl))
      try simp only [Act.put, kB0, kB1, kB2, kB3, kB4, kB5]
      refine wpAnyH_take (i := 4) (v := undef) rfl (by kernel_rfl) (by kernel_rfl) (by kernel_rfl) (fun _ _ _ h => h) (Or.inr ⟨by rfl, rfl⟩) (by assumption) ?_
      try simp only [Act.put, kB0, kB1, kB2, kB3, kB4, kB5]
      refine wpAnyH_take (i := 5) (v := undef) rfl (by kernel_rfl) (by kernel_rfl) (by kernel_rfl) (fun _ _ _ h => h) (Or.inr ⟨by rfl, rfl⟩) (by assumption) ?_
      try simp only [Act.put, kB0, kB1, kB2, kB3, kB4, kB5]
      refine wpAnyH_take (i := 6) (v := undef) rfl (by kernel_rfl) (by kernel_rfl) (by kernel_rfl) (fun _ _ _ h => h) (Or.inr ⟨by rfl, rfl⟩) (by assumption) ?_
      try simp only [Act.put, kB0, kB1, kB2, kB3, kB4, kB5]
      refine wpAnyH_take (i := 7) (v := undef) rfl (by kernel_rfl) (by kernel_rfl) (by kernel_rfl) (fun _ _ _ h => h) (Or.inr ⟨by rfl, rfl⟩) (by assumption) ?_
      try simp only [Act.put, kB0, kB1, kB2, kB3, kB4, kB5]
      refine wpAnyH_take (i := 8) (v := undef) rfl (by kernel_rfl) (by kernel_rfl) (by kernel_rfl) (fun _ _ _ h => h) (Or.inr ⟨by rfl, rfl⟩) (by assumption) ?_
      try simp only [Act.put, kB0, kB1, kB2, kB3, kB4, kB5]
      refine wpAnyH_take (i := 9) (v := undef) rfl (by kernel_rfl) (by kernel_rfl) (by kernel_rfl) (fun _ _ _ h => h) (Or.inr ⟨by rfl, rfl⟩) (by assumption) ?_
      try simp only [Act.put, kB0, kB1, kB2, kB3, kB4, kB5]
      refine wpAnyH_take (i := 10) (v := undef) rfl (by kernel_rfl) (by kernel_rfl) (by kernel_rfl) (fun _ _ _ h => h) (Or.inr ⟨by rfl, rfl⟩) (by assumption) ?_
      try simp only [Act.put, kB0, kB1, kB2, kB3, kB4, kB5]
      refine wpAnyH_take (i := 11) (v := undef) rfl (by kernel_rfl) (by kernel_rfl) (by kernel_rfl) (fun _ _ _ h => h) (Or.inr ⟨by rfl, rfl⟩) (by assumption) ?_
      try simp only [Act.put, kB0, kB1, kB2, kB3, kB4, kB5]
      refine wpAnyH_take (i := 12) (v := undef) rfl (by kernel_rfl) (by kernel_rfl) (by kernel_rfl) (fun _ _ _ h => h) (Or.inr ⟨by rfl, rfl⟩) (by assumption) ?_
      try simp only [Act.put, kB0, kB1, kB2, kB3, kB4, kB5]
      refine wpAnyH_take (i := 13) (v := undef) rfl (by kernel_rfl) (by kernel_rfl) (by kernel_rfl) (fun _ _ _ h => h) (Or.inr ⟨by rfl, rfl⟩) (by assumption) ?_
      try simp only [Act.put, kB0, kB1, kB2, kB3, kB4, kB5]
      refine wpAnyH_take (i := 14) (v := undef) rfl (by kernel_rfl) (by kernel_rfl) (by kernel_rfl) (fun _ _ _ h => h) (Or.inr ⟨by rfl, rfl⟩) (by assumption) ?_
      try simp only [Act.put, kB0, kB1, kB2, kB3, kB4, kB5]
      refine wpAnyH_take (i := 15) (v := undef) rfl (by kernel_rfl) (by kernel_rfl) (by kernel_rfl) (fun _ _ _ h => h) (Or.inr ⟨by rfl, rfl⟩) (by assumption) ?_
      try simp only [Act.put, kB0, kB1, kB2, kB3, kB4, kB5]
      refine wpAnyH_take (i := 16) (v := undef) rfl (by kernel_rfl) (by kernel_rfl) (by kernel_rfl) (fun _ _ _ h => h) (Or.inr ⟨by rfl, rfl⟩) (by assumption) ?_
      try simp only [Act.put, kB0, kB1, kB2, kB3, kB4, kB5]
      refine wpAnyH_take (i := 17) (v := undef) rfl (by kernel_rfl) (by kernel_rfl) (by kernel_rfl) (fun _ _ _ h => h) (Or.inr ⟨by rfl, rfl⟩) (by assumption) ?_
      try simp only [Act.put, kB0, kB1, kB2, kB3, kB4, kB5]
      refine wpAnyH_take (i := 18) (v := ?_) rfl (by kernel_rfl) (by kernel_rfl) (by kernel_rfl) (fun _ _ _ h => h) (Or.inl ⟨by rfl, ?_⟩) (by assumption) ?_
      rotate_left
      · (intro w hSw; (try dsimp only at hSw); go_simp; (try with_reducible rfl))
      try simp only [Act.put, kB0, kB1, kB2, kB3, kB4, kB5]
      refine wpAnyH_take (i := 19) (v := ?_) rfl (by kernel_rfl) (by kernel_rfl) (by kernel_rfl) (fun _ _ _ h => h) (Or.inl ⟨by rfl, ?_⟩) (by assumption) ?_
      rotate_left
      · (intro w hSw; (try dsimp only at hSw); go_simp; (try with_reducible rfl))
      try simp only [Act.put, kB0, kB1, kB2, kB3, kB4, kB5]
      refine wpAnyH_done (by kernel_rfl) ?_ _
      have F := hide hHeld.1
      clear hHeld
      go_wp2
      go_ret
      exact ⟨rfl, (unhide F).bel⟩
  · have hCb : (C == 0) = false := by simpa using hC
    go_wp2
    refine wp_region_held_drew (S := fun W' => Fk w W' X5 X6 X7 X8 X10 X11 ta xa ua ya ga tc xc uc yc gc L PO U CO G ⟨np, nk, nd, nt, nm⟩ C cc ∧ W'.cell? ⟨X5, 0, none⟩ = some (.slice ta L.length tc) ∧ W'.cell? ⟨X6, 0, none⟩ = some (.string np) ∧ W'.cell? ⟨X6, 1, none⟩ = some (.int .i64 nk) ∧ W'.cell? ⟨X6, 2, none⟩ = some (.string nd) ∧ W'.cell? ⟨X6, 3, none⟩ = some (.int .i64 nt) ∧ W'.cell? ⟨X6, 4, none⟩ = some (.int .i64 nm) ∧ W'.cell? ⟨X7, 0, none⟩ = some (.slice xa PO.length xc) ∧ W'.cell? ⟨X7, 1, none⟩ = some (.int .i64 (C)) ∧ W'.cell? ⟨X8, 0, none⟩ = some (.slice ua U.length uc) ∧ W'.cell? ⟨X10, 0, none⟩ = some (.slice ya CO.length yc) ∧ W'.cell? ⟨X10, 1, none⟩ = some (.int .i64 (cc)) ∧ W'.cell? ⟨X11, 0, none⟩ = some (.slice ga G.length gc)) (by kernel_rfl) ?_ (fun hHeld => ?_)
    · exact unhide MK _ (unhide F).drew
    clear F
    refine wpAnyH_take (i := 0) (v := ?_) rfl (by kernel_rfl) (by kernel_rfl) (by kernel_rfl) (fun _ _ _ h => h) (Or.inl ⟨by rfl, ?_⟩) (by assumption) ?_
    rotate_left
    · (intro w hSw; (try dsimp only at hSw); go_simp; (try with_reducible rfl))
    try simp only [Act.put, kB0, kB1, kB2, kB3, kB4, kB5]
    refine wpAnyH_take (i := 1) (v := ?_) rfl (by kernel_rfl) (by kernel_rfl) (by kernel_rfl) (fun _ _ _ h => h) (Or.inl ⟨by rfl, ?_⟩) (by assumption) ?_
    rotate_left
    · (intro w hSw; (try dsimp only at hSw); go_simp; (try with_reducible rfl))
    try simp only [Act.put, kB0, kB1, kB2, kB3, kB4, kB5]
    refine wpAnyH_take (i := 2) (v := ?_) rfl (by kernel_rfl) (by kernel_rfl) (by kernel_rfl) (fun _ _ _ h => h) (Or.inl ⟨by rfl, ?_⟩) (by assumption) ?_
    rotate_left
    · (intro w hSw; (try dsimp only at hSw); go_simp; (try with_reducible rfl))
    try simp only [Act.put, kB0, kB1, kB2, kB3, kB4, kB5]
    refine wpAnyH_take (i := 3) (v := ?_) rfl (by kernel_rfl) (by kernel_rfl) (by kernel_rfl) (fun _ _ _ h => h) (Or.inl ⟨by rfl, ?_⟩) (by assumption) ?_
    rotate_left
    · (intro w hSw; (try dsimp only at hSw); go_simp; (try with_reducible rfl))
    try simp only [Act.put, kB0, kB1, kB2, kB3, kB4, kB5]
    refine wpAnyH_take (i := 4) (v := undef) rfl (by kernel_rfl) (by kernel_rfl) (by kernel_rfl) (fun _ _ _ h => h) (Or.inr ⟨by rfl, rfl⟩) (by assumption) ?_
    try simp only [Act.put, kB0, kB1, kB2, kB3, kB4, kB5]
    refine wpAnyH_take (i := 5) (v := undef) rfl (by kernel_rfl) (by kernel_rfl) (by kernel_rfl) (fun _ _ _ h => h) (Or.inr ⟨by rfl, rfl⟩) (by assumption) ?_
    try simp only [Act.put, kB0, kB1, kB2, kB3, kB4, kB5]
    refine wpAnyH_take (i := 6) (v := undef) rfl (by kernel_rfl) (by kernel_rfl) (by kernel_rfl) (fun _ _ _ h => h) (Or.inr ⟨by rfl, rfl⟩) (by assumption) ?_
    try simp only [Act.put, kB0, kB1, kB2, kB3, kB4, kB5]
    refine wpAnyH_take (i := 7) (v := undef) rfl (by kernel_rfl) (by kernel_rfl) (by kernel_rfl) (fun _ _ _ h => h) (Or.inr ⟨by rfl, rfl⟩) (by assumption) ?_
    try simp only [Act.put, kB0, kB1, kB2, kB3, kB4, kB5]
    refine wpAnyH_take (i := 8) (v := undef) rfl (by kernel_rfl) (by kernel_rfl) (by kernel_rfl) (fun _ _ _ h => h) (Or.inr ⟨by rfl, rfl⟩) (by assumption) ?_
    try simp only [Act.put, kB0, kB1, kB2, kB3, kB4, kB5]
    refine wpAnyH_take (i := 9) (v := undef) rfl (by kernel_rfl) (by kernel_rfl) (by kernel_rfl) (fun _ _ _ h => h) (Or.inr ⟨by rfl, rfl⟩) (by assumption) ?_
    try simp only [Act.put, kB0, kB1, kB2, kB3, kB4, kB5]
    refine wpAnyH_take (i := 10) (v := undef) rfl (by kernel_rfl) (by kernel_rfl) (by kernel_rfl) (fun _ _ _ h => h) (Or.inr ⟨by rfl, rfl⟩) (by assumption) ?_
    try simp only [Act.put, kB0, kB1, kB2, kB3, kB4, kB5]
    refine wpAnyH_take (i := 11) (v := undef) rfl (by kernel_rfl) (by kernel_rfl) (by kernel_rfl) (fun _ _ _ h => h) (Or.inr ⟨by rfl, rfl⟩) (by assumption) ?_
    try simp only [Act.put, kB0, kB1, kB2, kB3, kB4, kB5]
    refine wpAnyH_take (i := 12) (v := undef) rfl (by kernel_rfl) (by kernel_rfl) (by kernel_rfl) (fun _ _ _ h => h) (Or.inr ⟨by rfl, rfl⟩) (by assumption) ?_
    try simp only [Act.put, kB0, kB1, kB2, kB3, kB4, kB5]
    refine wpAnyH_take (i := 13) (v := undef) rfl (by kernel_rfl) (by kernel_rfl) (by kernel_rfl) (fun _ _ _ h => h) (Or.inr ⟨by rfl, rfl⟩) (by assumption) ?_
    try simp only [Act.put, kB0, kB1, kB2, kB3, kB4, kB5]
    refine wpAnyH_take (i := 14) (v := undef) rfl (by kernel_rfl) (by kernel_rfl) (by kernel_rfl) (fun _ _ _ h => h) (Or.inr ⟨by rfl, rfl⟩) (by assumption) ?_
    try simp only [Act.put, kB0, kB1, kB2, kB3, kB4, kB5]
    refine wpAnyH_take (i := 15) (v := undef) rfl (by kernel_rfl) (by kernel_rfl) (by kernel_rfl) (fun _ _ _ h => h) (Or.inr ⟨by rfl, rfl⟩) (by assumption) ?_
    try simp only [Act.put, kB0, kB1, kB2, kB3, kB4, kB5]
    refine wpAnyH_take (i := 16) (v := undef) rfl (by kernel_rfl) (by kernel_rfl) (by kernel_rfl) (fun _ _ _ h => h) (Or.inr ⟨by rfl, rfl⟩) (by assumption) ?_
    try simp only [Act.put, kB0, kB1, kB2, kB3, kB4, kB5]
    refine wpAnyH_take (i := 17) (v := undef) rfl (by kernel_rfl) (by kernel_rfl) (by kernel_rfl) (fun _ _ _ h => h) (Or.inr ⟨by rfl, rfl⟩) (by assumption) ?_
    try simp only [Act.put, kB0, kB1, kB2, kB3, kB4, kB5]
    refine wpAnyH_take (i := 18) (v := undef) rfl (by kernel_rfl) (by kernel_rfl) (by kernel_rfl) (fun _ _ _ h => h) (Or.inr ⟨by rfl, rfl⟩) (by assumption) ?_
    try simp only [Act.put, kB0, kB1, kB2, kB3, kB4, kB5]
    refine wpAnyH_take (i := 19) (v := undef) rfl (by kernel_rfl) (by kernel_rfl) (by kernel_rfl) (fun _ _ _ h => h) (Or.inr ⟨by rfl, rfl⟩) (by assumption) ?_
    try simp only [Act.put, kB0, kB1, kB2, kB3, kB4, kB5]
    refine wpAnyH_take (i := 20) (v := undef) rfl (by kernel_rfl) (by kernel_rfl) (by kernel_rfl) (fun _ _ _ h => h) (Or.inr ⟨by rfl, rfl⟩) (by assumption) ?_
    try simp only [Act.put, kB0, kB1, kB2, kB3, kB4, kB5]
    refine wpAnyH_take (i := 21) (v := undef) rfl (by kernel_rfl) (by kernel_rfl) (by kernel_rfl) (fun _ _ _ h => h) (Or.inr ⟨by rfl, rfl⟩) (by assumption) ?_
    try simp only [Act.put, kB0, kB1, kB2, kB3, kB4, kB5]
    refine wpAnyH_take (i := 22) (v := undef) rfl (by kernel_rfl) (by kernel_rfl) (by kernel_rfl) (fun _ _ _ h => h) (Or.inr ⟨by rfl, rfl⟩) (by assumption) ?_
    try simp only [Act.put, kB0, kB1, kB2, kB3, kB4, kB5]
    refine wpAnyH_take (i := 23) (v := undef) rfl (by kernel_rfl) (by kernel_rfl) (by kernel_rfl) (fun _ _ _ h => h) (Or.inr ⟨by rfl, rfl⟩) (by assumption) ?_
    try simp only [Act.put, kB0, kB1, kB2, kB3, kB4, kB5]
    refine wpAnyH_take (i := 24) (v := undef) rfl (by kernel_rfl) (by kernel_rfl) (by kernel_rfl) (fun _ _ _ h => h) (Or.inr ⟨by rfl, rfl⟩) (by assumption) ?_
    try simp only [Act.put, kB0, kB1, kB2, kB3, kB4, kB5]
    refine wpAnyH_take (i := 25) (v := ?_) rfl (by kernel_rfl) (by kernel_rfl) (by kernel_rfl) (fun _ _ _ h => h) (Or.inl ⟨by rfl, ?_⟩) (by assumption) ?_
    rotate_left
    · (intro w hSw; (try dsimp only at hSw); go_simp; (try with_reducible rfl))
    try simp only [Act.put, kB0, kB1, kB2, kB3, kB4, kB5]
    refine wpAnyH_done (by kernel_rfl) ?_ _
    have F := hide hHeld.1
    clear hHeld
    by_cases hc : cc = 0
    · subst hc
      obtain ⟨hA1, hA2, hA3, hA4, hA5⟩ := unhide HCA rfl
      have HGX := hide (fun W (b : Below w.heap.size w W) (v : Mem.isNodes W ya CO) => WGetT.impl_any ya yc CO p W (by omega) v (Pl.small_ok (unhide HCS)) (by omega) x (unhide HE W b))
      rw [hA2] at HGX
      have HB1 := hide (fun W (v : Mem.isNodes W ua U) => WLb.l03_any ua uc U p W (by omega) v hA5 hA4)
      rw [← hA3] at HB1
      clear hA1 hA2 hA3 hA4 hA5
      go_wp2
      clear MK
      have MK : Hid (∀ W', Fk w W' X5 X6 X7 X8 X10 X11 ta xa ua ya ga tc xc uc yc gc L PO U CO G ⟨np, nk, nd, nt, nm⟩ C 0 → (fun W' => Fk w W' X5 X6 X7 X8 X10 X11 ta xa ua ya ga tc xc uc yc gc L PO U CO G ⟨np, nk, nd, nt, nm⟩ C 0 ∧ W'.cell? ⟨X5, 0, none⟩ = some (.slice ta L.length tc) ∧ W'.cell? ⟨X6, 0, none⟩ = some (.string np) ∧ W'.cell? ⟨X6, 1, none⟩ = some (.int .i64 nk) ∧ W'.cell? ⟨X6, 2, none⟩ = some (.string nd) ∧ W'.cell? ⟨X6, 3, none⟩ = some (.int .i64 nt) ∧ W'.cell? ⟨X6, 4, none⟩ = some (.int .i64 nm) ∧ W'.cell? ⟨X7, 0, none⟩ = some (.slice xa PO.length xc) ∧ W'.cell? ⟨X7, 1, none⟩ = some (.int .i64 (C)) ∧ W'.cell? ⟨X8, 0, none⟩ = some (.slice ua U.length uc) ∧ W'.cell? ⟨X10, 0, none⟩ = some (.slice ya CO.length yc) ∧ W'.cell? ⟨X10, 1, none⟩ = some (.int .i64 (0)) ∧ W'.cell? ⟨X11, 0, none⟩ = some (.slice ga G.length gc)) W') := fun W' h => ⟨h, h.b5.cell 0, h.b6.cell 0, h.b6.cell 1, h.b6.cell 2, h.b6.cell 3, h.b6.cell 4, h.b7.cell 0, h.b7.cell 1, h.b8.cell 0, h.b10.cell 0, h.b10.cell 1, h.b11.cell 0⟩
      refine wp_region_held_drew (S := fun W' => Fk w W' X5 X6 X7 X8 X10 X11 ta xa ua ya ga tc xc uc yc gc L PO U CO G ⟨np, nk, nd, nt, nm⟩ C 0 ∧ W'.cell? ⟨X5, 0, none⟩ = some (.slice ta L.length tc) ∧ W'.cell? ⟨X6, 0, none⟩ = some (.string np) ∧ W'.cell? ⟨X6, 1, none⟩ = some (.int .i64 nk) ∧ W'.cell? ⟨X6, 2, none⟩ = some (.string nd) ∧ W'.cell? ⟨X6, 3, none⟩ = some (.int .i64 nt) ∧ W'.cell? ⟨X6, 4, none⟩ = some (.int .i64 nm) ∧ W'.cell? ⟨X7, 0, none⟩ = some (.slice xa PO.length xc) ∧ W'.cell? ⟨X7, 1, none⟩ = some (.int .i64 (C)) ∧ W'.cell? ⟨X8, 0, none⟩ = some (.slice ua U.length uc) ∧ W'.cell? ⟨X10, 0, none⟩ = some (.slice ya CO.length yc) ∧ W'.cell? ⟨X10, 1, none⟩ = some (.int .i64 (0)) ∧ W'.cell? ⟨X11, 0, none⟩ = some (.slice ga G.length gc)) (by kernel_rfl) ?_ (fun hHeld => ?_)
      · exact unhide MK _ (unhide F).drew
      clear F
      refine wpAnyH_take (i := 0) (v := ?_) rfl (by kernel_rfl) (by kernel_rfl) (by kernel_rfl) (fun _ _ _ h => h) (Or.inl ⟨by rfl, ?_⟩) (by assumption) ?_
      rotate_left
      · (intro w hSw; (try dsimp only at hSw); go_simp; (try with_reducible rfl))
      try simp only [Act.put, kB0, kB1, kB2, kB3, kB4, kB5]
      refine wpAnyH_take (i := 1) (v := ?_) rfl (by kernel_rfl) (by kernel_rfl) (by kernel_rfl) (fun _ _ _ h => h) (Or.inl ⟨by rfl, ?_⟩) (by assumption) ?_
      rotate_left
      · (intro w hSw; (try dsimp only at hSw); go_simp; (try with_reducible rfl))
      try simp only [Act.put, kB0, kB1, kB2, kB3, kB4, kB5]
      refine wpAnyH_take (i := 2) (v := ?_) rfl (by kernel_rfl) (by kernel_rfl) (by kernel_rfl) (fun _ _ _ h => h) (Or.inl ⟨by rfl, ?_⟩) (by assumption) ?_
      rotate_left
      · (intro w hSw; (try dsimp only at hSw); go_simp; (try with_reducible rfl))
      try simp only [Act.put, kB0, kB1, kB2, kB3, kB4, kB5]
      refine wpAnyH_take (i := 3) (v := ?_) rfl (by kernel_rfl) (by kernel_rfl) (by kernel_rfl) (fun _ _ _ h => h) (Or.inl ⟨by rfl, ?_⟩) (by assumption) ?_
      rotate_left
      · (intro w hSw; (try dsimp only at hSw); go_simp; (try with_reducible rfl))
      try simp only [Act.put, kB0, kB1, kB2, kB3, kB4, kB5]
      refine wpAnyH_take (i := 4) (v := ?_) rfl (by kernel_rfl) (by kernel_rfl) (by kernel_rfl) (fun _ _ _ h => h) (Or.inl ⟨by rfl, ?_⟩) (by assumption) ?_
      rotate_left
      · (intro w hSw; (try dsimp only at hSw); go_simp; (try with_reducible rfl))
      try simp only [Act.put, kB0, kB1, kB2, kB3, kB4, kB5]
      refine wpAnyH_take (i := 5) (v := ?_) rfl (by kernel_rfl) (by kernel_rfl) (by kernel_rfl) (fun _ _ _ h => h) (Or.inl ⟨by rfl, ?_⟩) (by assumption) ?_
      rotate_left
      · (intro w hSw; (try dsimp only at hSw); go_simp; (try with_reducible rfl))
      try simp only [Act.put, kB0, kB1, kB2, kB3, kB4, kB5]
      refine wpAnyH_take (i := 6) (v := ?_) rfl (by kernel_rfl) (by kernel_rfl) (by kernel_rfl) (fun _ _ _ h => h) (Or.inl ⟨by rfl, ?_⟩) (by assumption) ?_
      rotate_left
      · (intro w hSw; (try dsimp only at hSw); go_simp; (try with_reducible rfl))
      try simp only [Act.put, kB0, kB1, kB2, kB3, kB4, kB5]
      refine wpAnyH_take (i := 7) (v := ?_) rfl (by kernel_rfl) (by kernel_rfl) (by kernel_rfl) (fun _ _ _ h => h) (Or.inl ⟨by rfl, ?_⟩) (by assumption) ?_
      rotate_left
      · (intro w hSw; (try dsimp only at hSw); go_simp; (try with_reducible rfl))
      try simp only [Act.put, kB0, kB1, kB2, kB3, kB4, kB5]
      refine wpAnyH_ready (rs := [8]) (by kernel_rfl) (by simp) ?_
      refine AllReadyH.cons rfl (fun K hK => ?_) AllReadyH.nil
      go_simp
      refine (unhide HB1 _ hHeld.1.n8).mono ?_
      rintro e wX ⟨vs, rfl, ownS, bX⟩
      obtain ⟨sa, sc, hvs⟩ := Mem.own_shape ownS
      subst hvs
      have NS := hide (Mem.ownN_nodes ownS).2
      clear ownS
      refine hK.out _ _ ?_ (fun hHeld => ?_)
      · exact unhide MK _ (hHeld.1.call bX)
      clear hK K
      try simp only [Act.put, kB0, kB1, kB2, kB3, kB4, kB5]
      refine wpAnyH_ready (rs := [9]) (by kernel_rfl) (by simp) ?_
      refine AllReadyH.cons rfl (fun K hK => ?_) AllReadyH.nil
      go_simp
      refine (WLw.tree_any ya sa yc sc CO _ hCO hHeld.1.n10 (unhide NS)).mono ?_
      rintro e wX ⟨rfl, bX⟩
      refine hK.out _ _ ?_ (fun hHeld => ?_)
      · exact unhide MK _ (hHeld.1.call bX)
      clear hK K
      try simp only [Act.put, kB0, kB1, kB2, kB3, kB4, kB5]
      refine wpAnyH_take (i := 10) (v := ?_) rfl (by kernel_rfl) (by kernel_rfl) (by kernel_rfl) (fun _ _ _ h => h) (Or.inl ⟨by rfl, ?_⟩) (by assumption) ?_
      rotate_left
      · (intro w hSw; (try dsimp only at hSw); go_simp; (try with_reducible rfl))
      try simp only [Act.put, kB0, kB1, kB2, kB3, kB4, kB5]
      refine wpAnyH_take (i := 11) (v := ?_) rfl (by kernel_rfl) (by kernel_rfl) (by kernel_rfl) (fun _ _ _ h => h) (Or.inl ⟨by rfl, ?_⟩) (by assumption) ?_
      rotate_left
      · (intro w hSw; (try dsimp only at hSw); go_simp; (try with_reducible rfl))
      try simp only [Act.put, kB0, kB1, kB2, kB3, kB4, kB5]
      refine wpAnyH_take (i := 12) (v := ?_) rfl (by kernel_rfl) (by kernel_rfl) (by kernel_rfl) (fun _ _ _ h => h) (Or.inl ⟨by rfl, ?_⟩) (by assumption) ?_
      rotate_left
      · (intro w hSw; (try dsimp only at hSw); go_simp; (try with_reducible rfl))
      try simp only [Act.put, kB0, kB1, kB2, kB3, kB4, kB5]
      refine wpAnyH_take (i := 13) (v := ?_) rfl (by kernel_rfl) (by kernel_rfl) (by kernel_rfl) (fun _ _ _ h => h) (Or.inl ⟨by rfl, ?_⟩) (by assumption) ?_
      rotate_left
      · (intro w hSw; (try dsimp only at hSw); go_simp; (try with_reducible rfl))
      try simp only [Act.put, kB0, kB1, kB2, kB3, kB4, kB5]
      refine wpAnyH_ready (rs := [14]) (by kernel_rfl) (by simp) ?_
      refine AllReadyH.cons rfl (fun K hK => ?_) AllReadyH.nil
      go_simp
      refine (unhide HGX _ hHeld.1.bel hHeld.1.n10).mono ?_
      rintro e wX ⟨rfl, bX⟩
      refine hK.out _ _ ?_ (fun hHeld => ?_)
      · exact unhide MK _ (hHeld.1.call bX)
      clear hK K
      try simp only [Act.put, kB0, kB1, kB2, kB3, kB4, kB5]
      refine wpAnyH_take (i := 15) (v := ?_) rfl (by kernel_rfl) (by kernel_rfl) (by kernel_rfl) (fun _ _ _ h => h) (Or.inl ⟨by rfl, ?_⟩) (by assumption) ?_
      rotate_left
      · (intro w hSw; (try dsimp only at hSw); go_simp; (try with_reducible rfl))
      try simp only [Act.put, kB0, kB1, kB2, kB3, kB4, kB5]
      refine wpAnyH_take (i := 16) (v := ?_) rfl (by kernel_rfl) (by kernel_rfl) (by kernel_rfl) (fun _ _ _ h => h) (Or.inl ⟨by rfl, ?_⟩) (by assumption) ?_
      rotate_left
      · (intro w hSw; (try dsimp only at hSw); go_simp; (try with_reducible rfl))
      try simp only [Act.put, kB0, kB1, kB2, kB3, kB4, kB5]
      refine wpAnyH_take (i := 17) (v := ?_) rfl (by kernel_rfl) (by kernel_rfl) (by kernel_rfl) (fun _ _ _ h => h) (Or.inl ⟨by rfl, ?_⟩) (by assumption) ?_
      rotate_left
      · (intro w hSw; (try dsimp only at hSw); go_simp; (try with_reducible rfl))
      try simp only [Act.put, kB0, kB1, kB2, kB3, kB4, kB5]
      refine wpAnyH_take (i := 18) (v := ?_) rfl (by kernel_rfl) (by kernel_rfl) (by kernel_rfl) (fun _ _ _ h => h) (Or.inl ⟨by rfl, ?_⟩) (by assumption) ?_
      rotate_left
      · (intro w hSw; (try dsimp only at hSw); go_simp; (try with_reducible rfl))
      try simp only [Act.put, kB0, kB1, kB2, kB3, kB4, kB5]
      refine wpAnyH_take (i := 19) (v := ?_) rfl (by kernel_rfl) (by kernel_rfl) (by kernel_rfl) (fun _ _ _ h => h) (Or.inl ⟨by rfl, ?_⟩) (by assumption) ?_
      rotate_left
      · (intro w hSw; (try dsimp only at hSw); go_simp; (try with_reducible rfl))
      try simp only [Act.put, kB0, kB1, kB2, kB3, kB4, kB5]
      refine wpAnyH_done (by kernel_rfl) ?_ _
      have F := hide hHeld.1
      clear hHeld HGX HB1
      go_wp2
      go_ret
      exact ⟨rfl, (unhide F).bel⟩
    · have hcb : (cc == 0) = false := by simpa using hc
      have hc1 : (cc != 0) = true := by simpa using hc
      have hc2 : decide (cc = 0) = false := by simpa using hc
      clear hc
      go_wp2
      refine wp_region_held_drew (S := fun W' => Fk w W' X5 X6 X7 X8 X10 X11 ta xa ua ya ga tc xc uc yc gc L PO U CO G ⟨np, nk, nd, nt, nm⟩ C cc ∧ W'.cell? ⟨X5, 0, none⟩ = some (.slice ta L.length tc) ∧ W'.cell? ⟨X6, 0, none⟩ = some (.string np) ∧ W'.cell? ⟨X6, 1, none⟩ = some (.int .i64 nk) ∧ W'.cell? ⟨X6, 2, none⟩ = some (.string nd) ∧ W'.cell? ⟨X6, 3, none⟩ = some (.int .i64 nt) ∧ W'.cell? ⟨X6, 4, none⟩ = some (.int .i64 nm) ∧ W'.cell? ⟨X7, 0, none⟩ = some (.slice xa PO.length xc) ∧ W'.cell? ⟨X7, 1, none⟩ = some (.int .i64 (C)) ∧ W'.cell? ⟨X8, 0, none⟩ = some (.slice ua U.length uc) ∧ W'.cell? ⟨X10, 0, none⟩ = some (.slice ya CO.length yc) ∧ W'.cell? ⟨X10, 1, none⟩ = some (.int .i64 (cc)) ∧ W'.cell? ⟨X11, 0, none⟩ = some (.slice ga G.length gc)) (by kernel_rfl) ?_ (fun hHeld => ?_)
      · exact unhide MK _ (unhide F).drew
      clear F
      refine wpAnyH_take (i := 0) (v := ?_) rfl (by kernel_rfl) (by kernel_rfl) (by kernel_rfl) (fun _ _ _ h => h) (Or.inl ⟨by rfl, ?_⟩) (by assumption) ?_
      rotate_left
      · (intro w hSw; (try dsimp only at hSw); go_simp; (try with_reducible rfl))
      try simp only [Act.put, kB0, kB1, kB2, kB3, kB4, kB5]
      refine wpAnyH_take (i := 1) (v := ?_) rfl (by kernel_rfl) (by kernel_rfl) (by kernel_rfl) (fun _ _ _ h => h) (Or.inl ⟨by rfl, ?_⟩) (by assumption) ?_
      rotate_left
      · (intro w hSw; (try dsimp only at hSw); go_simp; (try with_reducible rfl))
      try simp only [Act.put, kB0, kB1, kB2, kB3, kB4, kB5]
      refine wpAnyH_take (i := 2) (v := ?_) rfl (by kernel_rfl) (by kernel_rfl) (by kernel_rfl) (fun _ _ _ h => h) (Or.inl ⟨by rfl, ?_⟩) (by assumption) ?_
      rotate_left
      · (intro w hSw; (try dsimp only at hSw); go_simp; (try with_reducible rfl))
      try simp only [Act.put, kB0, kB1, kB2, kB3, kB4, kB5]
      refine wpAnyH_take (i := 3) (v := ?_) rfl (by kernel_rfl) (by kernel_rfl) (by kernel_rfl) (fun _ _ _ h => h) (Or.inl ⟨by rfl, ?_⟩) (by assumption) ?_
      rotate_left
      · (intro w hSw; (try dsimp only at hSw); go_simp; (try with_reducible rfl))
      try simp only [Act.put, kB0, kB1, kB2, kB3, kB4, kB5]
      refine wpAnyH_take (i := 4) (v := undef) rfl (by kernel_rfl) (by kernel_rfl) (by kernel_rfl) (fun _ _ _ h => h) (Or.inr ⟨by rfl, rfl⟩) (by assumption) ?_
      try simp only [Act.put, kB0, kB1, kB2, kB3, kB4, kB5]
      refine wpAnyH_take (i := 5) (v := undef) rfl (by kernel_rfl) (by kernel_rfl) (by kernel_rfl) (fun _ _ _ h => h) (Or.inr ⟨by rfl, rfl⟩) (by assumption) ?_
      try simp only [Act.put, kB0, kB1, kB2, kB3, kB4, kB5]
      refine wpAnyH_take (i := 6) (v := undef) rfl (by kernel_rfl) (by kernel_rfl) (by kernel_rfl) (fun _ _ _ h => h) (Or.inr ⟨by rfl, rfl⟩) (by assumption) ?_
      try simp only [Act.put, kB0, kB1, kB2, kB3, kB4, kB5]
      refine wpAnyH_take (i := 7) (v := undef) rfl (by kernel_rfl) (by kernel_rfl) (by kernel_rfl) (fun _ _ _ h => h) (Or.inr ⟨by rfl, rfl⟩) (by assumption) ?_
      try simp only [Act.put, kB0, kB1, kB2, kB3, kB4, kB5]
      refine wpAnyH_take (i := 8) (v := undef) rfl (by kernel_rfl) (by kernel_rfl) (by kernel_rfl) (fun _ _ _ h => h) (Or.inr ⟨by rfl, rfl⟩) (by assumption) ?_
      try simp only [Act.put, kB0, kB1, kB2, kB3, kB4, kB5]
      refine wpAnyH_take (i := 9) (v := undef) rfl (by kernel_rfl) (by kernel_rfl) (by kernel_rfl) (fun _ _ _ h => h) (Or.inr ⟨by rfl, rfl⟩) (by assumption) ?_
      try simp only [Act.put, kB0, kB1, kB2, kB3, kB4, kB5]
      refine wpAnyH_take (i := 10) (v := undef) rfl (by kernel_rfl) (by kernel_rfl) (by kernel_rfl) (fun _ _ _ h => h) (Or.inr ⟨by rfl, rfl⟩) (by assumption) ?_
      try simp only [Act.put, kB0, kB1, kB2, kB3, kB4, kB5]
      refine wpAnyH_take (i := 11) (v := undef) rfl (by kernel_rfl) (by kernel_rfl) (by kernel_rfl) (fun _ _ _ h => h) (Or.inr ⟨by rfl, rfl⟩) (by assumption) ?_
      try simp only [Act.put, kB0, kB1, kB2, kB3, kB4, kB5]
      refine wpAnyH_take (i := 12) (v := undef) rfl (by kernel_rfl) (by kernel_rfl) (by kernel_rfl) (fun _ _ _ h => h) (Or.inr ⟨by rfl, rfl⟩) (by assumption) ?_
      try simp only [Act.put, kB0, kB1, kB2, kB3, kB4, kB5]
      refine wpAnyH_take (i := 13) (v := undef) rfl (by kernel_rfl) (by kernel_rfl) (by kernel_rfl) (fun _ _ _ h => h) (Or.inr ⟨by rfl, rfl⟩) (by assumption) ?_
      try simp only [Act.put, kB0, kB1, kB2, kB3, kB4, kB5]
      refine wpAnyH_take (i := 14) (v := undef) rfl (by kernel_rfl) (by kernel_rfl) (by kernel_rfl) (fun _ _ _ h => h) (Or.inr ⟨by rfl, rfl⟩) (by assumption) ?_
      try simp only [Act.put, kB0, kB1, kB2, kB3, kB4, kB5]
      refine wpAnyH_take (i := 15) (v := undef) rfl (by kernel_rfl) (by kernel_rfl) (by kernel_rfl) (fun _ _ _ h => h) (Or.inr ⟨by rfl, rfl⟩) (by assumption) ?_
      try simp only [Act.put, kB0, kB1, kB2, kB3, kB4, kB5]
      refine wpAnyH_take (i := 16) (v := undef) rfl (by kernel_rfl) (by kernel_rfl) (by kernel_rfl) (fun _ _ _ h => h) (Or.inr ⟨by rfl, rfl⟩) (by assumption) ?_
      try simp only [Act.put, kB0, kB1, kB2, kB3, kB4, kB5]
      refine wpAnyH_take (i := 17) (v := undef) rfl (by kernel_rfl) (by kernel_rfl) (by kernel_rfl) (fun _ _ _ h => h) (Or.inr ⟨by rfl, rfl⟩) (by assumption) ?_
      try simp only [Act.put, kB0, kB1, kB2, kB3, kB4, kB5]
      refine wpAnyH_take (i := 18) (v := ?_) rfl (by kernel_rfl) (by kernel_rfl) (by kernel_rfl) (fun _ _ _ h => h) (Or.inl ⟨by rfl, ?_⟩) (by assumption) ?_
      rotate_left
      · (intro w hSw; (try dsimp only at hSw); go_simp; (try with_reducible rfl))
      try simp only [Act.put, kB0, kB1, kB2, kB3, kB4, kB5]
      refine wpAnyH_take (i := 19) (v := ?_) rfl (by kernel_rfl) (by kernel_rfl) (by kernel_rfl) (fun _ _ _ h => h) (Or.inl ⟨by rfl, ?_⟩) (by assumption) ?_
      rotate_left
      · (intro w hSw; (try dsimp only at hSw); go_simp; (try with_reducible rfl))
      try simp only [Act.put, kB0, kB1, kB2, kB3, kB4, kB5]
      refine wpAnyH_done (by kernel_rfl) ?_ _
      have F := hide hHeld.1
      clear hHeld
      go_wp2
      go_ret
      exact ⟨rfl, (unhide F).bel⟩
end fnTree
end Go.Proofs.YtibmflhelgedeaaGreatDoor
