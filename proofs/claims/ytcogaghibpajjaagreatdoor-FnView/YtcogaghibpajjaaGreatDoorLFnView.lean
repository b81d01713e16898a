import Derived.Test.YtcogaghibpajjaaGreatDoorG22
import Derived.Test.YtcogaghibpajjaaGreatDoorG44
import Derived.Test.YtcogaghibpajjaaGreatDoorG49
import Derived.Test.YtcogaghibpajjaaGreatDoorG50
import Derived.Laws.Cover1
namespace Go.Proofs.YtcogaghibpajjaaGreatDoor
open Go.RowKit
namespace fnView
structure Fk (w W : World) (B X4 X5 : Nat) (va xa ya : Option Addr) (vc xc yc : Nat) (Is : List Pl.It) (V S : List Pl.Nd) (C : Int) : Prop where
 bel : Below w.heap.size w W
 b4 : Mem.Blk W X4 #[.slice xa V.length xc, .int .i64 C] 29
 b5 : Mem.Blk W X5 #[.slice ya S.length yc, .int .i64 C] 29
 nv : WSrc.zp5 W B va Is
 own : W.ownsRow B 33 2 (.slice va Is.length vc) Is.length (Pl.ze Is)
 n4 : Mem.za9 W xa V
 n5 : Mem.za9 W ya S
section
variable {w W W' : World} {B X4 X5 : Nat} {va xa ya : Option Addr} {vc xc yc : Nat} {Is : List Pl.It} {V S : List Pl.Nd} {C : Int}
theorem zg5 {v : Value} {n : Nat} {xs : List Value} (h : W.ownsRow B 33 2 v n xs) (b : Below W.heap.size W W') : W'.ownsRow B 33 2 v n xs :=
 WSrc.row_far h (WSrc.below_grown b none) (fun g _ e => by cases e)
theorem Fk.call (h : Fk w W B X4 X5 va xa ya vc xc yc Is V S C) (b : Below W.heap.size W W') : Fk w W' B X4 X5 va xa ya vc xc yc Is V S C :=
 ⟨h.bel.trans (b.mono h.bel.size), h.b4.call b, h.b5.call b, h.nv.call b, zg5 h.own b, Mem.za4 h.n4 b, Mem.za4 h.n5 b⟩
theorem Fk.drew (h : Fk w W B X4 X5 va xa ya vc xc yc Is V S C) : Fk w W.drew B X4 X5 va xa ya vc xc yc Is V S C := h.call ⟨rfl, rfl, rfl, Nat.le_refl _, fun _ _ => rfl⟩
theorem okr (h : WSrc.zp5 W B va Is) : ∀ x ∈ Is, Mem.okR x.t.a x.t.cap x.t.L := fun x hx => by
 rcases (h.each x hx).1.2.1 with ⟨h1, h2, h3⟩ | ⟨g, o, h1, -, -⟩
 ·exact .inl ⟨h1, h2, h3⟩
 ·exact .inr ⟨g, o, h1⟩
theorem Fk.okr (h : Fk w W B X4 X5 va xa ya vc xc yc Is V S C) : ∀ x ∈ Is, Mem.okR x.t.a x.t.cap x.t.L := fnView.okr h.nv
theorem items_row {n : Nat} (own : W.ownsRow B 33 2 (.slice va n vc) n (Pl.ze Is)) (hn : n = Is.length) (ht : ∀ x ∈ Is, Mem.za9 W x.t.a x.t.L) : Mem.zd4 W va Is := fun i x hi => by
 have hlt := (List.getElem?_eq_some_iff.1 hi).1
 rcases own.2 with ⟨_, h0⟩ | ⟨g, c', cur, e, hb, hg, -⟩
 ·omega
 ·injection e with e1 e2 e3
  subst e1
  have c0 := World.ownsRow.cells own (g := g) rfl (i * 2) _ (Pl.zy5 Is i x hi).1
  have c1 := World.ownsRow.cells own (g := g) rfl (i * 2 + 1) _ (Pl.zy5 Is i x hi).2
  rw [Mem.add_lit] at c0 c1
  refine ⟨⟨g, 0, rfl, (Array.getElem?_eq_some_iff.1 hg).1, ?_, ?_⟩, ht x (List.mem_of_getElem? hi)⟩
  ·rw [Nat.zero_add]; exact c0
  ·rw [Nat.zero_add]; exact c1
theorem own_cap {n : Nat} {xs : List Value} (own : W.ownsRow B 33 2 (.slice va n vc) n xs) : n ≤ vc := by
 rcases own.2 with ⟨e, h0⟩ | ⟨g, c', cur, e, hb, hg, hc, -⟩
 ·omega
 ·injection e with e1 e2 e3
  omega
end
structure Gk (w W : World) (B X4 X5 : Nat) (va xa ya : Option Addr) (vc xc yc : Nat) (Is : List Pl.It) (V S : List Pl.Nd) (C : Int) (nb : Option Addr) (J : List Pl.It) : Prop where
 fk : Fk w W B X4 X5 va xa ya vc xc yc Is V S C
 one : Mem.zd4 W nb J
section
variable {w W W' : World} {B X4 X5 : Nat} {va xa ya : Option Addr} {vc xc yc : Nat} {Is : List Pl.It} {V S : List Pl.Nd} {C : Int} {nb : Option Addr} {J : List Pl.It}
theorem Gk.call (h : Gk w W B X4 X5 va xa ya vc xc yc Is V S C nb J) (b : Below W.heap.size W W') : Gk w W' B X4 X5 va xa ya vc xc yc Is V S C nb J := ⟨h.fk.call b, Mem.zh8 h.one b⟩
theorem Gk.drew (h : Gk w W B X4 X5 va xa ya vc xc yc Is V S C nb J) : Gk w W.drew B X4 X5 va xa ya vc xc yc Is V S C nb J := h.call ⟨rfl, rfl, rfl, Nat.le_refl _, fun _ _ => rfl⟩
end
open Pl in
theorem sight_ok (xs : List (Int × List Nd)) : ∀ n ∈ zh4 xs, n.path.size ≤ 1048576 ∧ n.data.size ≤ 1048576 := fun n hn => by
 unfold zh4 at hn
 split at hn
 ·obtain ⟨m, hm, -, rfl⟩ := zo7.1 hn
  exact (zw xs).2 m hm
 ·cases hn
set_option linter.unusedSimpArgs false in
set_option maxRecDepth 100000 in
set_option maxHeartbeats 4000000 in
theorem walk (a0 : Option Addr) (len0 cap0 : Nat) (w : World) (w0 : WSrc.RowB w w.heap.size a0 len0 cap0) (x : Nat → Addr) (hE : WIs.Six w x) :
  Calls Tryz.prog 3 #[.slice a0 len0 cap0] w fun e w' => e = .returned (.bool true) ∧ Below w.heap.size w w' := by
 by_cases hL0 : (1048576 : Int) < (len0 : Int)
 ·clear w0 hE
  go_enter Tryz.func3, Tryz.ntmps3
  go_wp2
  go_ret
  exact ⟨rfl, Below.refl _ _⟩
 have HE := hide (fun W (b : Below w.heap.size w W) => hE.call b)
 have hd1 := hide (WSrc.drawSight_own a0 len0 cap0 w w0)
 clear w0 hE
 go_enter Tryz.func3, Tryz.ntmps3
 go_wp2_with fail
 refine (za hd1).mono ?_
 rintro e v1 ⟨va, vc, Is, hl, rfl, nv, own, b1⟩
 have OKT := hide nv.hok
 have hcap := own_cap own
 have hiv := hide (fun W (b : Below w.heap.size w W) (v : Mem.zd4 W va Is) => zr5.view_any va vc Is W (by omega) hcap v (za OKT) x (za HE W b))
 have his := hide (fun W (b : Below w.heap.size w W) (v : Mem.zd4 W va Is) => zr5.sight_any va vc Is W (by omega) hcap v (za OKT) x (za HE W b))
 have hsv := hide (fun W (v : Mem.zd4 W va Is) (hR : ∀ x ∈ Is, Mem.okR x.t.a x.t.cap x.t.L) => zp4.yd4 va vc Is W (by omega) v (za OKT) hR)
 have hss := hide (fun W (v : Mem.zd4 W va Is) (hR : ∀ x ∈ Is, Mem.okR x.t.a x.t.cap x.t.L) => zp4.specSight_any va vc Is W (by omega) v (za OKT) hR)
 have HON := hide (fun F h h1 => Pl.sight_one (xs := Is.map Pl.It.r) (F := F) h h1)
 have HNE : Hid (Pl.zc3 (Is.map Pl.It.r) = 0 → Is ≠ []) := fun h e => by
  subst e
  revert h
  decide
 have OKV := hide (Pl.zw (Is.map Pl.It.r)).2
 have hvl := (Pl.zw (Is.map Pl.It.r)).1
 have hsl := Pl.sight_le (Is.map Pl.It.r)
 have OKS := hide (sight_ok (Is.map Pl.It.r))
 have TRV := hide (Pl.zn6 (xs := Is.map Pl.It.r))
 have TRS := hide (Pl.sight_tree (xs := Is.map Pl.It.r))
 have HPL := hide (Pl.sight_plain (xs := Is.map Pl.It.r))
 generalize hC : Pl.zc3 (Is.map Pl.It.r) = C at hiv his hsv hss HON HNE TRV TRS HPL
 generalize hV : Pl.zc5 (Is.map Pl.It.r) = V at hiv hsv OKV hvl TRV
 generalize hS : Pl.zh4 (Is.map Pl.It.r) = S at his hss HON hsl OKS TRS HPL
 clear hC hV hS
 go_wp2_with fail
 refine (za hiv _ b1 nv.items).mono ?_
 rintro e v3 ⟨vx, rfl, own3, b3⟩
 obtain ⟨xa, xc, hvx⟩ := Mem.za0 own3
 subst hvx
 have b3' := b3.alloc b3.size (.cells #[.slice xa V.length xc, .int .i64 C] 29)
 have B4 := hide (Mem.Blk.new v3 #[.slice xa V.length xc, .int .i64 C] 29)
 have N4 := hide ((WSrc.zl5 own3).alloc (.cells #[.slice xa V.length xc, .int .i64 C] 29)).1
 have NV := hide (nv.call b3')
 have OW := hide (zg5 own b3')
 have b4 := b1.trans (b3'.mono b1.size)
 clear hiv own3 b3 b3' b1 nv own
 go_wp2_with fail
 generalize v3.alloc (.cells #[.slice xa V.length xc, .int .i64 C] 29) = v4 at B4 N4 NV OW b4 ⊢
 generalize v3.heap.size = X4 at B4 ⊢
 refine (za his _ b4 (za NV).items).mono ?_
 rintro e v5 ⟨vy, rfl, own5, b5⟩
 obtain ⟨ya, yc, hvy⟩ := Mem.za0 own5
 subst hvy
 have b5' := b5.alloc b5.size (.cells #[.slice ya S.length yc, .int .i64 C] 29)
 have K5 : Hid (Fk w (v5.alloc (.cells #[.slice ya S.length yc, .int .i64 C] 29)) w.heap.size X4 v5.heap.size va xa ya vc xc yc Is V S C) :=
  ⟨b4.trans (b5'.mono b4.size), (za B4).call b5', Mem.Blk.new _ _ _, (za NV).call b5', zg5 (za OW) b5', Mem.za4 (za N4) b5', ((WSrc.zl5 own5).alloc _).1⟩
 clear his own5 b5 b5' b4 B4 N4 NV OW
 go_wp2_with fail
 generalize v5.alloc (.cells #[.slice ya S.length yc, .int .i64 C] 29) = vA at K5 ⊢
 generalize v5.heap.size = X5 at K5 ⊢
 generalize hB : w.heap.size = B at K5
 have MK : Hid (∀ W', Fk w W' B X4 X5 va xa ya vc xc yc Is V S C → (fun W' => Fk w W' B X4 X5 va xa ya vc xc yc Is V S C ∧ W'.cell? ⟨X4, 0, none⟩ = some (.slice xa V.length xc) ∧ W'.cell? ⟨X4, 1, none⟩ = some (.int .i64 C) ∧ W'.cell? ⟨X5, 0, none⟩ = some (.slice ya S.length yc) ∧ W'.cell? ⟨X5, 1, none⟩ = some (.int .i64 C)) W') := fun W' h => by
  have z0 := h.b4.cell 0
  have z1 := h.b4.cell 1
  have z2 := h.b5.cell 0
  have z3 := h.b5.cell 1
  simp only [kA0, kA1, kA2] at z0 z1 z2 z3
  exact ⟨h, z0, z1, z2, z3⟩
 by_cases hD : C = 0
 ·subst hD
  refine wp_region_held_drew (S := fun W' => Fk w W' B X4 X5 va xa ya vc xc yc Is V S 0 ∧ W'.cell? ⟨X4, 0, none⟩ = some (.slice xa V.length xc) ∧ W'.cell? ⟨X4, 1, none⟩ = some (.int .i64 0) ∧ W'.cell? ⟨X5, 0, none⟩ = some (.slice ya S.length yc) ∧ W'.cell? ⟨X5, 1, none⟩ = some (.int .i64 0)) (by kernel_rfl) ?_ (fun hHeld => ?_)
  ·exact za MK _ (za K5).drew
  clear K5
  refine tka (i := 0) rfl ?_
  try simp only [Act.put, kBs]
  refine tka (i := 1) rfl ?_
  try simp only [Act.put, kBs]
  refine wpAnyH_ready (rs := [2]) (by kernel_rfl) (by simp) ?_
  refine AllReadyH.cons rfl (fun K hK => ?_) AllReadyH.nil
  go_simp
  refine (za hsv _ hHeld.1.nv.items hHeld.1.okr).mono ?_
  rintro e wX ⟨vs, rfl, ownS, bX⟩
  obtain ⟨sa, sc, hvs⟩ := Mem.za0 ownS
  subst hvs
  have NS := hide (Mem.zh6 ownS).2
  clear ownS
  refine hK.out _ _ ?_ (fun hHeld => ?_)
  ·exact za MK _ (hHeld.1.call bX)
  clear hK K
  try simp only [Act.put, kBs]
  refine wpAnyH_ready (rs := [3]) (by kernel_rfl) (by simp) ?_
  refine AllReadyH.cons rfl (fun K hK => ?_) AllReadyH.nil
  go_simp
  refine (WLw.zo xa sa xc sc 0 V _ (by omega) hHeld.1.n4 (za NS) (za OKV) (za TRV)).mono ?_
  rintro e wX ⟨rfl, bX⟩
  refine hK.out _ _ ?_ (fun hHeld => ?_)
  ·exact za MK _ (hHeld.1.call bX)
  clear hK K
  try simp only [Act.put, kBs]
  clear NS
  refine tka (i := 4) rfl ?_
  try simp only [Act.put, kBs]
  refine tka (i := 5) rfl ?_
  try simp only [Act.put, kBs]
  refine tka (i := 6) rfl ?_
  try simp only [Act.put, kBs]
  refine tka (i := 7) rfl ?_
  try simp only [Act.put, kBs]
  refine wpAnyH_ready (rs := [8]) (by kernel_rfl) (by simp) ?_
  refine AllReadyH.cons rfl (fun K hK => ?_) AllReadyH.nil
  go_simp
  refine (za hss _ hHeld.1.nv.items hHeld.1.okr).mono ?_
  rintro e wX ⟨vs, rfl, ownS, bX⟩
  obtain ⟨sa, sc, hvs⟩ := Mem.za0 ownS
  subst hvs
  have NS := hide (Mem.zh6 ownS).2
  clear ownS
  refine hK.out _ _ ?_ (fun hHeld => ?_)
  ·exact za MK _ (hHeld.1.call bX)
  clear hK K
  try simp only [Act.put, kBs]
  refine wpAnyH_ready (rs := [9]) (by kernel_rfl) (by simp) ?_
  refine AllReadyH.cons rfl (fun K hK => ?_) AllReadyH.nil
  go_simp
  refine (WLw.zo ya sa yc sc 0 S _ (by omega) hHeld.1.n5 (za NS) (za OKS) (za TRS)).mono ?_
  rintro e wX ⟨rfl, bX⟩
  refine hK.out _ _ ?_ (fun hHeld => ?_)
  ·exact za MK _ (hHeld.1.call bX)
  clear hK K
  try simp only [Act.put, kBs]
  clear NS
  refine tka (i := 10) rfl ?_
  try simp only [Act.put, kBs]
  refine tka (i := 11) rfl ?_
  try simp only [Act.put, kBs]
  refine tka (i := 12) rfl ?_
  try simp only [Act.put, kBs]
  refine tka (i := 13) rfl ?_
  try simp only [Act.put, kBs]
  refine tka (i := 14) rfl ?_
  try simp only [Act.put, kBs]
  refine tka (i := 15) rfl ?_
  try simp only [Act.put, kBs]
  refine tka (i := 16) rfl ?_
  try simp only [Act.put, kBs]
  refine wpAnyH_done (by kernel_rfl) ?_ _
  have K5 := hide hHeld.1
  clear hHeld
  clear hsv hss OKV TRV
  have hplain := za HPL rfl
  have hne := za HNE rfl
  clear HPL HNE
  obtain ⟨i0, hi, hz0, hz1, hz2⟩ := info_parts WSrc.infoI
  rcases (za K5).own.2 with ⟨_, h0⟩ | ⟨g, c', cur, e, hb, hg, -⟩
  ·exact absurd (List.length_eq_zero_iff.1 h0) hne
  injection e with e1 e2 e3
  subst e1
  clear hne e2 e3 hb hg
  have bA : Below wX.heap.size wX (wX.alloc (.cells #[.int .i64 1, .slice none 0 0] 33)) := (Below.refl _ _).alloc (Nat.le_refl _) _
  have CI := hide (fun j u hj => World.ownsRow.cells (zg5 (za K5).own bA) (g := g) rfl j u hj)
  have KO : Hid ((wX.alloc (.cells #[.int .i64 1, .slice none 0 0] 33)).ownsRow wX.heap.size 33 2 (.slice (some ⟨wX.heap.size, 0, none⟩) 1 1) 1 (Pl.ze [⟨1, ⟨none, 0, []⟩⟩])) := hide ⟨rfl, .inr ⟨wX.heap.size, 1, _, rfl, Nat.le_refl _, heap_alloc_new _ _, Nat.le_refl _, by decide, rfl, rfl⟩⟩
  have HI := bA.size
  clear bA
  go_wp2_with (at_builtin; refine Mem.za7 _ rfl _ _ 23 rfl wX.heap.size 33 i0 (.agg #[.int .i64 0, .slice none 0 0]) 2 32 Tryz.underlying23 hi hz0 hz1 hz2 rfl (by decide) _ _ _ rfl (za KO) ⟨g, 0, none⟩ Is.length vc (Pl.ze Is) rfl (Pl.yb9 Is) (za CI) (Pl.ya5 Is) (by unfold maxLen; show 1 + Is.length ≤ _; omega) (by show (1 + Is.length) * 32 ≤ _; omega) HI ?_)
  intro v' w7 own' gr far
  obtain ⟨J, hJ⟩ : ∃ J : List Pl.It, J = [⟨1, ⟨none, 0, []⟩⟩] ++ Is := ⟨_, rfl⟩
  have own7 : w7.ownsRow wX.heap.size 33 2 v' J.length (Pl.ze J) := by rw [hJ, List.length_append, Pl.ze9]; exact own'
  have bN : Below wX.heap.size wX w7 := ((Below.refl _ _).alloc (Nat.le_refl _) _).grown gr HI (fun q hq => by cases hq; exact Nat.le_refl _)
  obtain ⟨nb, nd, hv'⟩ := Mem.za0 own7
  subst hv'
  have hnd := own_cap own7
  have K6 : Hid (Gk w w7 B X4 X5 (some ⟨g, 0, none⟩) xa ya vc xc yc Is V S 0 nb J) := ⟨(za K5).call bN, items_row own7 rfl (fun x hx => by
   rw [hJ] at hx
   rcases List.mem_cons.1 hx with rfl | hx
   ·exact Mem.zu1 _ _
   ·exact (((za K5).call bN).nv.each x hx).1.1)⟩
  have hJl : J.length ≤ 201 := by rw [hJ, List.length_append]; show 1 + Is.length ≤ 201; omega
  have hJm : J.map Pl.It.r = (1, []) :: Is.map Pl.It.r := by rw [hJ]; rfl
  have OK1 : Hid (∀ x ∈ J, x.t.L.length ≤ 1048576 ∧ ∀ n ∈ x.t.L, n.path.size ≤ 1048576 ∧ n.data.size ≤ 1048576) := fun x hx => by
   rw [hJ] at hx
   rcases List.mem_cons.1 hx with rfl | hx
   ·exact ⟨Nat.zero_le _, fun n hn => by cases hn⟩
   ·exact za OKT x hx
  have hTP := hide (fun W (b : Below w.heap.size w W) (v : Mem.za9 W ya S) => WPlainT.zn9 ya yc S W (by omega) v (za OKS) _ _ _ _ _ _ (za HE W b).errs)
  rw [hplain] at hTP
  have hNR := hide (fun W (v : Mem.zd4 W nb J) => WNestS.zl6 nb nd J W (by omega) v (za OK1))
  rw [hJm] at hNR
  have hSI := hide (fun W (b : Below w.heap.size w W) (v : Mem.zd4 W nb J) => zr5.sight_any nb nd J W (by omega) hnd v (za OK1) x (za HE W b))
  rw [hJm] at hSI
  have MK1 : Hid (∀ W', Gk w W' B X4 X5 (some ⟨g, 0, none⟩) xa ya vc xc yc Is V S 0 nb J → (fun W' => Gk w W' B X4 X5 (some ⟨g, 0, none⟩) xa ya vc xc yc Is V S 0 nb J ∧ W'.cell? ⟨X4, 0, none⟩ = some (.slice xa V.length xc) ∧ W'.cell? ⟨X4, 1, none⟩ = some (.int .i64 0) ∧ W'.cell? ⟨X5, 0, none⟩ = some (.slice ya S.length yc) ∧ W'.cell? ⟨X5, 1, none⟩ = some (.int .i64 0)) W') := fun W' h => by
   obtain ⟨-, h2⟩ := za MK W' h.fk
   exact ⟨h, h2⟩
  clear own7 own' gr far bN K5 KO CI MK OK1 OKT hJ hJm hplain HI hi hz0 hz1 hz2
  cases hn : Pl.nest (Pl.rowO ((1, []) :: Is.map Pl.It.r)) with
  | none =>
   rw [hn, Option.isSome_none] at hNR
   clear HON hSI hn
   go_wp2_with fail
   refine wp_region_held_drew (S := fun W' => Gk w W' B X4 X5 (some ⟨g, 0, none⟩) xa ya vc xc yc Is V S 0 nb J ∧ W'.cell? ⟨X4, 0, none⟩ = some (.slice xa V.length xc) ∧ W'.cell? ⟨X4, 1, none⟩ = some (.int .i64 0) ∧ W'.cell? ⟨X5, 0, none⟩ = some (.slice ya S.length yc) ∧ W'.cell? ⟨X5, 1, none⟩ = some (.int .i64 0)) (by kernel_rfl) ?_ (fun hHeld => ?_)
   ·exact za MK1 _ (za K6).drew
   clear K6
   refine tka (i := 0) rfl ?_
   try simp only [Act.put, kBs]
   refine tka (i := 1) rfl ?_
   try simp only [Act.put, kBs]
   refine wpAnyH_ready (rs := [2]) (by kernel_rfl) (by simp) ?_
   refine AllReadyH.cons rfl (fun K hK => ?_) AllReadyH.nil
   go_simp
   refine (za hTP _ hHeld.1.fk.bel hHeld.1.fk.n5).mono ?_
   rintro e wX ⟨rfl, bX⟩
   refine hK.out _ _ ?_ (fun hHeld => ?_)
   ·exact za MK1 _ (hHeld.1.call bX)
   clear hK K
   try simp only [Act.put, kBs]
   refine tka (i := 3) rfl ?_
   try simp only [Act.put, kBs]
   refine tka (i := 4) rfl ?_
   try simp only [Act.put, kBs]
   refine wpAnyH_ready (rs := [5]) (by kernel_rfl) (by simp) ?_
   refine AllReadyH.cons rfl (fun K hK => ?_) AllReadyH.nil
   go_simp
   refine (za hNR _ hHeld.1.one).mono ?_
   rintro e wX ⟨rfl, bX⟩
   refine hK.out _ _ ?_ (fun hHeld => ?_)
   ·exact za MK1 _ (hHeld.1.call bX)
   clear hK K
   try simp only [Act.put, kBs]
   refine tka (i := 6) rfl ?_
   try simp only [Act.put, kBs]
   refine tka (i := 7) rfl ?_
   try simp only [Act.put, kBs]
   refine tkc (i := 8) rfl ?_
   try simp only [Act.put, kBs]
   refine tkc (i := 9) rfl ?_
   try simp only [Act.put, kBs]
   refine tkc (i := 10) rfl ?_
   try simp only [Act.put, kBs]
   refine tkc (i := 11) rfl ?_
   try simp only [Act.put, kBs]
   refine tka (i := 12) rfl ?_
   try simp only [Act.put, kBs]
   refine tka (i := 13) rfl ?_
   try simp only [Act.put, kBs]
   refine tka (i := 14) rfl ?_
   try simp only [Act.put, kBs]
   refine wpAnyH_done (by kernel_rfl) ?_ _
   have K6 := hide hHeld.1.fk
   clear hHeld
   go_wp2
   go_ret
   exact ⟨rfl, (za K6).bel⟩
  | some F9 =>
   obtain ⟨hc1, hs1⟩ := za HON F9 (by first | exact rfl | exact trivial) hn
   rw [hn, Option.isSome_some] at hNR
   rw [hc1, hs1] at hSI
   clear HON hn hc1 hs1
   go_wp2_with fail
   refine wp_region_held_drew (S := fun W' => Gk w W' B X4 X5 (some ⟨g, 0, none⟩) xa ya vc xc yc Is V S 0 nb J ∧ W'.cell? ⟨X4, 0, none⟩ = some (.slice xa V.length xc) ∧ W'.cell? ⟨X4, 1, none⟩ = some (.int .i64 0) ∧ W'.cell? ⟨X5, 0, none⟩ = some (.slice ya S.length yc) ∧ W'.cell? ⟨X5, 1, none⟩ = some (.int .i64 0)) (by kernel_rfl) ?_ (fun hHeld => ?_)
   ·exact za MK1 _ (za K6).drew
   clear K6
   refine tka (i := 0) rfl ?_
   try simp only [Act.put, kBs]
   refine tka (i := 1) rfl ?_
   try simp only [Act.put, kBs]
   refine wpAnyH_ready (rs := [2]) (by kernel_rfl) (by simp) ?_
   refine AllReadyH.cons rfl (fun K hK => ?_) AllReadyH.nil
   go_simp
   refine (za hTP _ hHeld.1.fk.bel hHeld.1.fk.n5).mono ?_
   rintro e wX ⟨rfl, bX⟩
   refine hK.out _ _ ?_ (fun hHeld => ?_)
   ·exact za MK1 _ (hHeld.1.call bX)
   clear hK K
   try simp only [Act.put, kBs]
   refine tka (i := 3) rfl ?_
   try simp only [Act.put, kBs]
   refine tka (i := 4) rfl ?_
   try simp only [Act.put, kBs]
   refine wpAnyH_ready (rs := [5]) (by kernel_rfl) (by simp) ?_
   refine AllReadyH.cons rfl (fun K hK => ?_) AllReadyH.nil
   go_simp
   refine (za hNR _ hHeld.1.one).mono ?_
   rintro e wX ⟨rfl, bX⟩
   refine hK.out _ _ ?_ (fun hHeld => ?_)
   ·exact za MK1 _ (hHeld.1.call bX)
   clear hK K
   try simp only [Act.put, kBs]
   refine tka (i := 6) rfl ?_
   try simp only [Act.put, kBs]
   refine tka (i := 7) rfl ?_
   try simp only [Act.put, kBs]
   refine tka (i := 8) rfl ?_
   try simp only [Act.put, kBs]
   refine tka (i := 10) rfl ?_
   try simp only [Act.put, kBs]
   refine wpAnyH_ready (rs := [9]) (by kernel_rfl) (by simp) ?_
   refine AllReadyH.cons rfl (fun K hK => ?_) AllReadyH.nil
   go_simp
   refine (za hSI _ hHeld.1.fk.bel hHeld.1.one).mono ?_
   rintro e wX ⟨vs, rfl, ownS, bX⟩
   obtain ⟨sa, sc, hvs⟩ := Mem.za0 ownS
   subst hvs
   have NS := hide (Mem.zh6 ownS).2
   clear ownS
   refine hK.out _ _ ?_ (fun hHeld => ?_)
   ·exact za MK1 _ (hHeld.1.call bX)
   clear hK K
   try simp only [Act.put, kBs]
   refine wpAnyH_ready (rs := [11]) (by kernel_rfl) (by simp) ?_
   refine AllReadyH.cons rfl (fun K hK => ?_) AllReadyH.nil
   go_simp
   refine (WLw.zo sa ya sc yc 0 S _ (by omega) (za NS) hHeld.1.fk.n5 (za OKS) (fun _ => za TRS (by first | exact rfl | exact trivial))).mono ?_
   rintro e wX ⟨rfl, bX⟩
   refine hK.out _ _ ?_ (fun hHeld => ?_)
   ·exact za MK1 _ (hHeld.1.call bX)
   clear hK K
   try simp only [Act.put, kBs]
   clear NS
   refine tka (i := 12) rfl ?_
   try simp only [Act.put, kBs]
   refine tka (i := 13) rfl ?_
   try simp only [Act.put, kBs]
   refine tka (i := 14) rfl ?_
   try simp only [Act.put, kBs]
   refine wpAnyH_done (by kernel_rfl) ?_ _
   have K6 := hide hHeld.1.fk
   clear hHeld
   go_wp2
   go_ret
   exact ⟨rfl, (za K6).bel⟩
 ·have hD1 : (C == 0) = false := by simpa using hD
  have hD2 : decide (C = 0) = false := by simpa using hD
  have hD3 : (C != 0) = true := by simpa using hD
  refine wp_region_held_drew (S := fun W' => Fk w W' B X4 X5 va xa ya vc xc yc Is V S C ∧ W'.cell? ⟨X4, 0, none⟩ = some (.slice xa V.length xc) ∧ W'.cell? ⟨X4, 1, none⟩ = some (.int .i64 C) ∧ W'.cell? ⟨X5, 0, none⟩ = some (.slice ya S.length yc) ∧ W'.cell? ⟨X5, 1, none⟩ = some (.int .i64 C)) (by kernel_rfl) ?_ (fun hHeld => ?_)
  ·exact za MK _ (za K5).drew
  clear K5
  refine tka (i := 0) rfl ?_
  try simp only [Act.put, kBs]
  refine tka (i := 1) rfl ?_
  try simp only [Act.put, kBs]
  refine wpAnyH_ready (rs := [2]) (by kernel_rfl) (by simp) ?_
  refine AllReadyH.cons rfl (fun K hK => ?_) AllReadyH.nil
  go_simp
  refine (za hsv _ hHeld.1.nv.items hHeld.1.okr).mono ?_
  rintro e wX ⟨vs, rfl, ownS, bX⟩
  obtain ⟨sa, sc, hvs⟩ := Mem.za0 ownS
  subst hvs
  have NS := hide (Mem.zh6 ownS).2
  clear ownS
  refine hK.out _ _ ?_ (fun hHeld => ?_)
  ·exact za MK _ (hHeld.1.call bX)
  clear hK K
  try simp only [Act.put, kBs]
  refine wpAnyH_ready (rs := [3]) (by kernel_rfl) (by simp) ?_
  refine AllReadyH.cons rfl (fun K hK => ?_) AllReadyH.nil
  go_simp
  refine (WLw.zo xa sa xc sc C V _ (by omega) hHeld.1.n4 (za NS) (za OKV) (za TRV)).mono ?_
  rintro e wX ⟨rfl, bX⟩
  refine hK.out _ _ ?_ (fun hHeld => ?_)
  ·exact za MK _ (hHeld.1.call bX)
  clear hK K
  try simp only [Act.put, kBs]
  clear NS
  refine tka (i := 4) rfl ?_
  try simp only [Act.put, kBs]
  refine tka (i := 5) rfl ?_
  try simp only [Act.put, kBs]
  refine tka (i := 6) rfl ?_
  try simp only [Act.put, kBs]
  refine tka (i := 7) rfl ?_
  try simp only [Act.put, kBs]
  refine wpAnyH_ready (rs := [8]) (by kernel_rfl) (by simp) ?_
  refine AllReadyH.cons rfl (fun K hK => ?_) AllReadyH.nil
  go_simp
  refine (za hss _ hHeld.1.nv.items hHeld.1.okr).mono ?_
  rintro e wX ⟨vs, rfl, ownS, bX⟩
  obtain ⟨sa, sc, hvs⟩ := Mem.za0 ownS
  subst hvs
  have NS := hide (Mem.zh6 ownS).2
  clear ownS
  refine hK.out _ _ ?_ (fun hHeld => ?_)
  ·exact za MK _ (hHeld.1.call bX)
  clear hK K
  try simp only [Act.put, kBs]
  refine wpAnyH_ready (rs := [9]) (by kernel_rfl) (by simp) ?_
  refine AllReadyH.cons rfl (fun K hK => ?_) AllReadyH.nil
  go_simp
  refine (WLw.zo ya sa yc sc C S _ (by omega) hHeld.1.n5 (za NS) (za OKS) (za TRS)).mono ?_
  rintro e wX ⟨rfl, bX⟩
  refine hK.out _ _ ?_ (fun hHeld => ?_)
  ·exact za MK _ (hHeld.1.call bX)
  clear hK K
  try simp only [Act.put, kBs]
  clear NS
  refine tka (i := 10) rfl ?_
  try simp only [Act.put, kBs]
  refine tka (i := 11) rfl ?_
  try simp only [Act.put, kBs]
  refine tka (i := 12) rfl ?_
  try simp only [Act.put, kBs]
  refine tka (i := 13) rfl ?_
  try simp only [Act.put, kBs]
  refine tka (i := 14) rfl ?_
  try simp only [Act.put, kBs]
  refine tka (i := 15) rfl ?_
  try simp only [Act.put, kBs]
  refine tka (i := 16) rfl ?_
  try simp only [Act.put, kBs]
  refine wpAnyH_done (by kernel_rfl) ?_ _
  have K5 := hide hHeld.1
  clear hHeld
  go_wp2_with fail
  refine wp_region_held_drew (S := fun W' => Fk w W' B X4 X5 va xa ya vc xc yc Is V S C ∧ W'.cell? ⟨X4, 0, none⟩ = some (.slice xa V.length xc) ∧ W'.cell? ⟨X4, 1, none⟩ = some (.int .i64 C) ∧ W'.cell? ⟨X5, 0, none⟩ = some (.slice ya S.length yc) ∧ W'.cell? ⟨X5, 1, none⟩ = some (.int .i64 C)) (by kernel_rfl) ?_ (fun hHeld => ?_)
  ·exact za MK _ (za K5).drew
  clear K5
  refine tka (i := 0) rfl ?_
  try simp only [Act.put, kBs]
  refine tka (i := 1) rfl ?_
  try simp only [Act.put, kBs]
  refine wpAnyH_ready (rs := [2]) (by kernel_rfl) (by simp) ?_
  refine AllReadyH.cons rfl (fun K hK => ?_) AllReadyH.nil
  go_simp
  refine (za hsv _ hHeld.1.nv.items hHeld.1.okr).mono ?_
  rintro e wX ⟨vs, rfl, ownS, bX⟩
  obtain ⟨sa, sc, hvs⟩ := Mem.za0 ownS
  subst hvs
  have NS := hide (Mem.zh6 ownS).2
  clear ownS
  refine hK.out _ _ ?_ (fun hHeld => ?_)
  ·exact za MK _ (hHeld.1.call bX)
  clear hK K
  try simp only [Act.put, kBs]
  refine wpAnyH_ready (rs := [3]) (by kernel_rfl) (by simp) ?_
  refine AllReadyH.cons rfl (fun K hK => ?_) AllReadyH.nil
  go_simp
  refine (WLw.zo xa sa xc sc C V _ (by omega) hHeld.1.n4 (za NS) (za OKV) (za TRV)).mono ?_
  rintro e wX ⟨rfl, bX⟩
  refine hK.out _ _ ?_ (fun hHeld => ?_)
  ·exact za MK _ (hHeld.1.call bX)
  clear hK K
  try simp only [Act.put, kBs]
  clear NS
  refine tka (i := 4) rfl ?_
  try simp only [Act.put, kBs]
  refine tka (i := 5) rfl ?_
  try simp only [Act.put, kBs]
  refine tka (i := 6) rfl ?_
  try simp only [Act.put, kBs]
  refine wpAnyH_ready (rs := [7]) (by kernel_rfl) (by simp) ?_
  refine AllReadyH.cons rfl (fun K hK => ?_) AllReadyH.nil
  go_simp
  refine (za hss _ hHeld.1.nv.items hHeld.1.okr).mono ?_
  rintro e wX ⟨vs, rfl, ownS, bX⟩
  obtain ⟨sa, sc, hvs⟩ := Mem.za0 ownS
  subst hvs
  have NS := hide (Mem.zh6 ownS).2
  clear ownS
  refine hK.out _ _ ?_ (fun hHeld => ?_)
  ·exact za MK _ (hHeld.1.call bX)
  clear hK K
  try simp only [Act.put, kBs]
  refine wpAnyH_ready (rs := [8]) (by kernel_rfl) (by simp) ?_
  refine AllReadyH.cons rfl (fun K hK => ?_) AllReadyH.nil
  go_simp
  refine (WLw.zo ya sa yc sc C S _ (by omega) hHeld.1.n5 (za NS) (za OKS) (za TRS)).mono ?_
  rintro e wX ⟨rfl, bX⟩
  refine hK.out _ _ ?_ (fun hHeld => ?_)
  ·exact za MK _ (hHeld.1.call bX)
  clear hK K
  try simp only [Act.put, kBs]
  clear NS
  refine tka (i := 9) rfl ?_
  try simp only [Act.put, kBs]
  refine tka (i := 10) rfl ?_
  try simp only [Act.put, kBs]
  refine wpAnyH_done (by kernel_rfl) ?_ _
  have K5 := hide hHeld.1
  clear hHeld
  go_wp2
  go_ret
  exact ⟨rfl, (za K5).bel⟩
end fnView
end Go.Proofs.YtcogaghibpajjaaGreatDoor
