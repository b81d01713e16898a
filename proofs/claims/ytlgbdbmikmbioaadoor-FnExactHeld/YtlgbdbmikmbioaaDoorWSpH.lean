/- Held, the program's and the specification's (by genSpI9.py). -/
import Derived.Test.YtlgbdbmikmbioaaDoorWSpI8
import Derived.Test.YtlgbdbmikmbioaaDoorG40
namespace Go.Proofs.YtlgbdbmikmbioaaDoor
open Go.RowKit Go.Maps
namespace WSpI
/-- What Held answers. -/
def heldV (R : Bool) (v : Int) : Int := if R then v else 0
set_option linter.unusedSimpArgs false in
set_option maxRecDepth 100000 in
set_option maxHeartbeats 1000000 in
theorem heldI_any (d : Int) (s : Pl.Sp) (w : World) (hok : WLawSp.OkS s 1048576) (hn : OkN s) (ha : OkA s) (hv : Mem.isSpace w s)
    (r0 r1 r2 r3 : TypeId) (x0 x1 x2 x3 : Value) (hE : WNestI.Errs4 w r0 r1 r2 r3 x0 x1 x2 x3) :
    Calls Tryd.prog 11 #[.agg s.cs, .int .i64 d] w fun e w' => e = .returned (.int .i64 (heldV (Pl.spaceP s.next (s.N.map WSp.nr) s.M s.H Pl.wayB) (Pl.held s.M s.H d))) ∧ Below w.heap.size w w' := by
  have HX := hide (fun W (b : Below w.heap.size w W) => space_any s W hok hn ha (hv.call b) r0 r1 r2 r3 x0 x1 x2 x3 (hE.call b))
  have HH := hide (fun q sa sc ta tc W h1 h2 => held_any q sa sc s.M ta tc s.H s.next d W hok.m hok.h h1 h2)
  generalize HQ : Pl.spaceP s.next (s.N.map WSp.nr) s.M s.H Pl.wayB = RB at HX ⊢
  generalize hHV : Pl.held s.M s.H d = HV at HH ⊢
  clear hok hn ha hv hE
  obtain ⟨ia, ic, N, ma, mc, M, ha, hc, H, next⟩ := s
  simp only at HX HQ HH hHV ⊢
  unfold Pl.Sp.cs at HX ⊢
  simp only at HX ⊢
  have b0 := (Below.refl w.heap.size w).alloc (o := .cells #[.slice ia N.length ic, .slice ma M.length mc, .slice ha H.length hc, .int .i64 next] 33) (Nat.le_refl _)
  have V0 := hide (Mem.Blk.new w #[.slice ia N.length ic, .slice ma M.length mc, .slice ha H.length hc, .int .i64 next] 33)
  have a0 := (unhide V0).cell 0
  have a1 := (unhide V0).cell 1
  have a2 := (unhide V0).cell 2
  have a3 := (unhide V0).cell 3
  simp only [kA0, kA1, kA2] at a0 a1 a2 a3
  clear HQ hHV
  go_enter Tryd.func11, Tryd.ntmps11
  go_wp2_with fail
  generalize w.alloc (.cells #[.slice ia N.length ic, .slice ma M.length mc, .slice ha H.length hc, .int .i64 next] 33) = wA at b0 V0 a0 a1 a2 a3 ⊢
  refine (unhide HX _ b0).mono ?_
  rintro e w1 ⟨hS, bX⟩
  have b1 := b0.trans (bX.mono b0.size)
  clear HX bX V0 a0 a1 a2 a3
  rcases hS with ⟨hR, q, E, sa, sc, ta, tc, rfl, hG⟩ | ⟨hR, q, sa, sl, sc, ta, tl, tc, n, rfl⟩
  · have b2 := b1.alloc (o := .cells #[.map (some q), .slice sa M.length sc, .slice ta H.length tc, .int .i64 next] 48) b1.size
    have bA : Below w1.heap.size w1 (w1.alloc (.cells #[.map (some q), .slice sa M.length sc, .slice ta H.length tc, .int .i64 next] 48)) := (Below.refl _ _).alloc (Nat.le_refl _) _
    have Y2 := hide (Mem.Blk.new w1 #[.map (some q), .slice sa M.length sc, .slice ta H.length tc, .int .i64 next] 48)
    have HC := hide (unhide HH q sa sc ta tc _ (hG.call bA).mounts (hG.call bA).hands)
    have HR : Hid (heldV RB HV = HV) := hide (by rw [hR]; rfl)
    clear hR hG bA HH
    simp only at HC ⊢
    have y0 := (unhide Y2).cell 0
    have y1 := (unhide Y2).cell 1
    have y2 := (unhide Y2).cell 2
    have y3 := (unhide Y2).cell 3
    simp only [kA0, kA1, kA2] at y0 y1 y2 y3
    go_wp2_with fail
    generalize w1.alloc (.cells #[.map (some q), .slice sa M.length sc, .slice ta H.length tc, .int .i64 next] 48) = w2 at b2 HC Y2 y0 y1 y2 y3 ⊢
    refine (unhide HC).mono ?_
    rintro e w3 ⟨rfl, bX⟩
    have b3 := b2.trans (bX.mono b2.size)
    clear HC bX Y2 y0 y1 y2 y3
    go_wp2
    go_ret
    exact ⟨(by rw [unhide HR]; first | done | rfl), b3⟩
  · have b2 := b1.alloc (o := .cells #[.map q, .slice sa sl sc, .slice ta tl tc, .int .i64 n] 48) b1.size
    have HR : Hid (heldV RB HV = 0) := hide (by rw [hR]; rfl)
    clear hR HH
    go_wp2
    go_ret
    exact ⟨(by rw [unhide HR]; first | done | rfl), b2⟩
end WSpI
namespace WSp
set_option linter.unusedSimpArgs false in
set_option maxRecDepth 100000 in
set_option maxHeartbeats 1000000 in
theorem heldS_any (d : Int) (s : Pl.Sp) (w : World) (hok : WLawSp.OkS s 1048576) (hv : Mem.isSpace w s) :
    Calls Tryd.prog 10 #[.agg s.cs, .int .i64 d] w fun e w' => e = .returned (.int .i64 (WSpI.heldV (Pl.spaceB s.next (s.N.map nr) s.M s.H Pl.wayB) (Pl.held s.M s.H d))) ∧ Below w.heap.size w w' := by
  have HX := hide (fun W (b : Below w.heap.size w W) => right_any s W hok (hv.call b))
  have HH := hide (fun W (b : Below w.heap.size w W) => held_any s d W hok.m hok.h (hv.call b).mounts (hv.call b).hands)
  generalize HQ : Pl.spaceB s.next (s.N.map nr) s.M s.H Pl.wayB = RB at HX ⊢
  generalize hHV : Pl.held s.M s.H d = HV at HH ⊢
  clear hok hv
  obtain ⟨ia, ic, N, ma, mc, M, ha, hc, H, next⟩ := s
  simp only at HX HQ HH hHV ⊢
  unfold Pl.Sp.cs at HX HH ⊢
  simp only at HX HH ⊢
  have b0 := (Below.refl w.heap.size w).alloc (o := .cells #[.slice ia N.length ic, .slice ma M.length mc, .slice ha H.length hc, .int .i64 next] 33) (Nat.le_refl _)
  have V0 := hide (Mem.Blk.new w #[.slice ia N.length ic, .slice ma M.length mc, .slice ha H.length hc, .int .i64 next] 33)
  have a0 := (unhide V0).cell 0
  have a1 := (unhide V0).cell 1
  have a2 := (unhide V0).cell 2
  have a3 := (unhide V0).cell 3
  simp only [kA0, kA1, kA2] at a0 a1 a2 a3
  clear HQ hHV
  go_enter Tryd.func10, Tryd.ntmps10
  go_wp2_with fail
  generalize w.alloc (.cells #[.slice ia N.length ic, .slice ma M.length mc, .slice ha H.length hc, .int .i64 next] 33) = wA at b0 V0 a0 a1 a2 a3 ⊢
  refine (unhide HX _ b0).mono ?_
  rintro e w1 ⟨rfl, bX⟩
  have b1 := b0.trans (bX.mono b0.size)
  have V1 := hide ((unhide V0).call bX)
  clear HX bX V0 a0 a1 a2 a3
  cases RB
  · have HR : Hid (WSpI.heldV false HV = 0) := hide rfl
    clear HH V1
    go_wp2
    go_ret
    exact ⟨(by rw [unhide HR]; first | done | rfl), b1⟩
  · have HR : Hid (WSpI.heldV true HV = HV) := hide rfl
    have HC := hide (unhide HH _ b1)
    have a0 := (unhide V1).cell 0
    have a1 := (unhide V1).cell 1
    have a2 := (unhide V1).cell 2
    have a3 := (unhide V1).cell 3
    simp only [kA0, kA1, kA2] at a0 a1 a2 a3
    clear HH
    go_wp2_with fail
    refine (unhide HC).mono ?_
    rintro e w2 ⟨rfl, bX⟩
    have b2 := b1.trans (bX.mono b1.size)
    clear HC bX V1 a0 a1 a2 a3
    go_wp2
    go_ret
    exact ⟨(by rw [unhide HR]; first | done | rfl), b2⟩
end WSp
end Go.Proofs.YtlgbdbmikmbioaaDoor
