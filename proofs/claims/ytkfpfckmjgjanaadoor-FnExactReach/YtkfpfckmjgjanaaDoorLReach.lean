/- The walk of the law FnExactReach, over the walks of the two functions and of the laws' own. -/
import Derived.Test.YtkfpfckmjgjanaaDoorG56
import Derived.Test.YtkfpfckmjgjanaaDoorG63
import Derived.Test.YtkfpfckmjgjanaaDoorG64
namespace Go.Proofs.YtkfpfckmjgjanaaDoor
open Go.RowKit
namespace fnExactReach
theorem same_ok {D Ts : List Pl.It} {P : List Pl.Nd → Prop} (h : D.map Pl.It.r = Ts.map Pl.It.r) (hp : ∀ t ∈ Ts, P t.t.L) : ∀ t ∈ D, P t.t.L := fun t ht => by
  have : t.r ∈ Ts.map Pl.It.r := by rw [← h]; exact List.mem_map.2 ⟨t, ht, rfl⟩
  obtain ⟨u, hu, e⟩ := List.mem_map.1 this
  have e2 : u.t.L = t.t.L := congrArg Prod.snd e
  rw [← e2]; exact hp u hu
set_option linter.unusedSimpArgs false in
set_option maxRecDepth 100000 in
set_option maxHeartbeats 1000000 in
theorem walk (a : Option Addr) (Ts : List Pl.It) (cap : Nat) (p : ByteArray) (w : World) (ok : OpenI.OkI w a Ts) (_okp : p.size ≤ maxLen) (r0 r1 r2 r3 : TypeId) (x0 x1 x2 x3 : Value) (hE : WNestI.Errs4 w r0 r1 r2 r3 x0 x1 x2 x3) :
    Calls Tryd.prog 3 #[.slice a Ts.length cap, .string p] w fun e w' => e = .returned (.bool true) ∧ Below w.heap.size w w' := by
  obtain ⟨hl, hv, hok⟩ := ok
  by_cases hpl : (1048576 : Int) < (p.size : Int)
  · clear hv hok hE hl
    go_enter Tryd.func3, Tryd.ntmps3
    go_wp2
    go_ret
    exact ⟨rfl, Below.refl _ _⟩
  have hp : p.size ≤ 1048576 := by omega
  have hsz := hide (WLaw.szItemS_any a cap Ts w hl hv (fun t ht => ⟨(hok t ht).1, fun n hn => ⟨((hok t ht).2 n hn).1, ((hok t ht).2 n hn).2.1⟩⟩))
  have htt := hide (fun W (b : Below w.heap.size w W) (h2 : Ts.length ≤ 1048576) h3 => WLaw.toItemS_any a cap Ts W h2 (Mem.items_call hv b) h3)
  have heq := hide (fun (g g' : Nat) (D E : List Pl.It) W (h2 : Ts.length ≤ 1048576) (hd : D.length = Ts.length) (hD : D.map Pl.It.r = Ts.map Pl.It.r) (hE : E.map Pl.It.r = Ts.map Pl.It.r) h3 h4 (h5 : ∀ t ∈ Ts, t.t.L.length ≤ 1048576) => by
    have := WLaw.eqItemS_any (some ⟨g, 0, none⟩) (some ⟨g', 0, none⟩) D.length D.length D E W (by omega) (hE.trans hD.symm) h3 h4 (same_ok (P := fun L => L.length ≤ 1048576) hD h5)
    rw [hd] at this; exact this)
  have hs := hide (fun (g : Nat) (D : List Pl.It) W (h2 : Ts.length ≤ 1048576) (hd : D.length = Ts.length) (hD : D.map Pl.It.r = Ts.map Pl.It.r) h3 (h4 : ∀ t ∈ Ts, t.t.L.length ≤ 1048576 ∧ ∀ n ∈ t.t.L, n.path.size ≤ 1048576 ∧ n.data.size ≤ 1048576) => by
    have := WReachS.reach_any (some ⟨g, 0, none⟩) D.length D p W (by omega) h3 (same_ok (P := fun L => L.length ≤ 1048576 ∧ ∀ n ∈ L, n.path.size ≤ 1048576 ∧ n.data.size ≤ 1048576) hD h4) hp
    rw [Pl.reach_row, hd, hD] at this; exact this)
  have hi := hide (fun (g : Nat) (D : List Pl.It) W (h2 : Ts.length ≤ 1048576) (hd : D.length = Ts.length) (hD : D.map Pl.It.r = Ts.map Pl.It.r) h3 (h4 : ∀ t ∈ Ts, t.t.L.length ≤ 1048576 ∧ ∀ n ∈ t.t.L, n.path.size ≤ 1048576 ∧ n.data.size ≤ 1048576) h5 => by
    have := WReach.impl_any (some ⟨g, 0, none⟩) D.length D p W (by omega) (Nat.le_refl _) h3 (same_ok (P := fun L => L.length ≤ 1048576 ∧ ∀ n ∈ L, n.path.size ≤ 1048576 ∧ n.data.size ≤ 1048576) hD h4) hp r0 r1 r2 r3 x0 x1 x2 x3 h5
    rw [Pl.reach_row, hd, hD] at this; exact this)
  generalize Pl.reachV p (Ts.map Pl.It.r) = V at hs hi
  have HE := hide hE
  clear hv hok hE
  go_enter Tryd.func3, Tryd.ntmps3
  go_wp2_with fail
  refine (unhide hsz).mono ?_
  rintro e w1 ⟨⟨r, rfl, hr⟩, bw1⟩
  clear hsz
  rcases hr with rfl | ⟨hr0, hr1, hl2, hz⟩
  · go_wp2
    go_ret
    exact ⟨rfl, bw1⟩
  have hr2 : ¬ r < 0 := by omega
  have HZ := hide hz
  have HZ1 := hide (fun t ht => (hz t ht).1)
  clear hz
  go_wp2_with fail
  refine (unhide htt _ bw1 hl2 (unhide HZ1)).mono ?_
  rintro e w2 ⟨g1, D1, rfl, -, hd1, hm1, hn1, b2⟩
  have bw2 := bw1.trans (b2.mono bw1.size)
  have HN1 := hide hn1
  have HM1 := hide hm1
  clear bw1 b2 hn1 hm1
  go_wp2_with fail
  refine (unhide hs g1 D1 _ hl2 hd1 (unhide HM1) (unhide HN1) (unhide HZ)).mono ?_
  rintro e w3 ⟨rfl, b3⟩
  have bw3 := bw2.trans (b3.mono bw2.size)
  clear bw2 b3 HN1 HM1 hd1 hs
  go_wp2_with fail
  refine (unhide htt _ bw3 hl2 (unhide HZ1)).mono ?_
  rintro e w4 ⟨g2, D2, rfl, -, hd2, hm2, hn2, b4⟩
  have bw4 := bw3.trans (b4.mono bw3.size)
  have HN2 := hide hn2
  have HM2 := hide hm2
  have hE4 := hide ((unhide HE).call bw4)
  clear bw3 b4 hn2 hm2
  go_wp2_with fail
  refine (unhide hi g2 D2 _ hl2 hd2 (unhide HM2) (unhide HN2) (unhide HZ) (unhide hE4)).mono ?_
  rintro e w6 ⟨rfl, b6⟩
  have bw6 := bw4.trans (b6.mono bw4.size)
  have HN6 := hide (Mem.items_call (unhide HN2) b6)
  clear bw4 b6 HN2 hE4 hi
  go_wp2_with fail
  refine (unhide htt _ bw6 hl2 (unhide HZ1)).mono ?_
  rintro e w7 ⟨g3, D3, rfl, -, hd3, hm3, hn3, b7⟩
  have bw7 := bw6.trans (b7.mono bw6.size)
  have HN7 := hide (Mem.items_call (unhide HN6) b7)
  have HN3 := hide hn3
  have HM3 := hide hm3
  clear bw6 b7 HN6 hn3 hm3
  go_wp2_with fail
  refine (unhide heq g2 g3 D2 D3 _ hl2 hd2 (unhide HM2) (unhide HM3) (unhide HN7) (unhide HN3) (unhide HZ1)).mono ?_
  rintro e w8 ⟨rfl, b8⟩
  have bw8 := bw7.trans (b8.mono bw7.size)
  clear bw7 b8 HN7 HN3 HM3 HM2
  go_wp2
  go_ret
  exact ⟨rfl, bw8⟩
end fnExactReach
end Go.Proofs.YtkfpfckmjgjanaaDoor

