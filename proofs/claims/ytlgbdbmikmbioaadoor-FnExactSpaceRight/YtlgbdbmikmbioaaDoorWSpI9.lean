/- The program's SpaceRight (by genSpI9.py). -/
import Derived.Test.YtlgbdbmikmbioaaDoorWSpI8
namespace Go.Proofs.YtlgbdbmikmbioaaDoor
open Go.RowKit Go.Maps
namespace WSpI
set_option linter.unusedSimpArgs false in
set_option maxRecDepth 100000 in
set_option maxHeartbeats 1000000 in
theorem right_any (s : Pl.Sp) (w : World) (hok : WLawSp.OkS s 1048576) (hn : OkN s) (ha : OkA s) (hv : Mem.isSpace w s)
    (r0 r1 r2 r3 : TypeId) (x0 x1 x2 x3 : Value) (hE : WNestI.Errs4 w r0 r1 r2 r3 x0 x1 x2 x3) :
    Calls Tryd.prog 8 #[.agg s.cs] w fun e w' => e = .returned (.bool (Pl.spaceP s.next (s.N.map WSp.nr) s.M s.H Pl.wayB)) ∧ Below w.heap.size w w' := by
  have HX := hide (fun W (b : Below w.heap.size w W) => space_any s W hok hn ha (hv.call b) r0 r1 r2 r3 x0 x1 x2 x3 (hE.call b))
  generalize HQ : Pl.spaceP s.next (s.N.map WSp.nr) s.M s.H Pl.wayB = RB at HX ⊢
  clear hok hn ha hv hE
  obtain ⟨ia, ic, N, ma, mc, M, ha, hc, H, next⟩ := s
  simp only at HX HQ ⊢
  unfold Pl.Sp.cs at HX ⊢
  simp only at HX ⊢
  have b0 := (Below.refl w.heap.size w).alloc (o := .cells #[.slice ia N.length ic, .slice ma M.length mc, .slice ha H.length hc, .int .i64 next] 33) (Nat.le_refl _)
  have V0 := hide (Mem.Blk.new w #[.slice ia N.length ic, .slice ma M.length mc, .slice ha H.length hc, .int .i64 next] 33)
  have a0 := (unhide V0).cell 0
  have a1 := (unhide V0).cell 1
  have a2 := (unhide V0).cell 2
  have a3 := (unhide V0).cell 3
  simp only [kA0, kA1, kA2] at a0 a1 a2 a3
  clear HQ
  go_enter Tryd.func8, Tryd.ntmps8
  go_wp2_with fail
  generalize w.alloc (.cells #[.slice ia N.length ic, .slice ma M.length mc, .slice ha H.length hc, .int .i64 next] 33) = wA at b0 V0 a0 a1 a2 a3 ⊢
  refine (unhide HX _ b0).mono ?_
  rintro e w1 ⟨hS, bX⟩
  have b1 := b0.trans (bX.mono b0.size)
  clear HX bX V0 a0 a1 a2 a3
  rcases hS with ⟨hR, q, E, sa, sc, ta, tc, rfl, -⟩ | ⟨hR, q, sa, sl, sc, ta, tl, tc, n, rfl⟩
  · have b2 := b1.alloc (o := .cells #[.map (some q), .slice sa M.length sc, .slice ta H.length tc, .int .i64 next] 48) b1.size
    have HR := hide hR
    clear hR
    simp only
    go_wp2
    go_ret
    exact ⟨(by rw [unhide HR]; first | done | rfl), b2⟩
  · have b2 := b1.alloc (o := .cells #[.map q, .slice sa sl sc, .slice ta tl tc, .int .i64 n] 48) b1.size
    have HR := hide hR
    clear hR
    go_wp2
    go_ret
    exact ⟨(by rw [unhide HR]; first | done | rfl), b2⟩
end WSpI
end Go.Proofs.YtlgbdbmikmbioaaDoor
