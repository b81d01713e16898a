import Derived.Test.YtfdbokipgofcdaaGreatDoorG13
import Derived.Test.YtfdbokipgofcdaaGreatDoorG14
import Derived.Test.YtfdbokipgofcdaaGreatDoorG16
import Derived.Test.YtfdbokipgofcdaaGreatDoorG35
import Derived.Test.YtfdbokipgofcdaaGreatDoorG44
import Derived.Test.YtfdbokipgofcdaaGreatDoorWSightI
import Derived.Test.YtfdbokipgofcdaaGreatDoorG55
import Derived.Test.YtfdbokipgofcdaaGreatDoorMemPair
import Derived.Laws.Cover1
namespace Go.Proofs.YtfdbokipgofcdaaGreatDoor
open Go.RowKit
namespace fnFlatter
structure Fk (w W : World) (X4 B : Nat) (va xa : Option Addr) (xc : Nat) (Is T : List Pl.It) (C : Int) : Prop where
 bel : Below w.heap.size w W
 b4 : Mem.Blk W X4 #[.slice xa T.length xc, .int .i64 C] 28
 nv : WSrc.zr0 W B va Is
 io : Mem.za6 W xa T
section
variable {w W W' : World} {X4 B : Nat} {va xa : Option Addr} {xc : Nat} {Is T : List Pl.It} {C : Int}
theorem Fk.call (h : Fk w W X4 B va xa xc Is T C) (b : Below W.heap.size W W') : Fk w W' X4 B va xa xc Is T C :=
 ⟨h.bel.trans (b.mono h.bel.size), h.b4.call b, h.nv.call b, Mem.zc1 h.io b⟩
theorem Fk.drew (h : Fk w W X4 B va xa xc Is T C) : Fk w W.drew X4 B va xa xc Is T C := h.call ⟨rfl, rfl, rfl, Nat.le_refl _, fun _ _ => rfl⟩
end
theorem okr {W : World} {B : Nat} {va : Option Addr} {Is : List Pl.It} (h : WSrc.zr0 W B va Is) : ∀ x ∈ Is, Mem.okR x.t.a x.t.cap x.t.L := fun x hx => by
 rcases (h.each x hx).1.2.1 with ⟨h1, h2, h3⟩ | ⟨g, o, h1, -, -⟩
 ·exact .inl ⟨h1, h2, h3⟩
 ·exact .inr ⟨g, o, h1⟩
theorem six4 {w : World} {x : Nat → Addr} (h : WIs.Six w x) : ∃ r0 r1 r2 r3 x0 x1 x2 x3, zc0.zq3 w r0 r1 r2 r3 x0 x1 x2 x3 := ⟨_, _, _, _, _, _, _, _, zt9.six4 h⟩
theorem flat_no {xs : List (Int × List Pl.Nd)} (h : Pl.zh1 xs ≠ 0) : Pl.ze3 xs = [] := by
 by_cases h4 : 400 < xs.length
 ·exact (Pl.yc9 h4).2
 ·cases hF : Pl.nest (Pl.rowO xs) with
  | none => exact (Pl.yh7 h4 hF).2
  | some F =>
   obtain ⟨L, k, e1, e2, e3, e4⟩ := Pl.zy2 hF
   cases hk : k.flatK with
   | none => exact (Pl.yc (Pl.zj3 hF) e4 hk).2
   | some K => exact absurd (Pl.zy1 (Pl.zj3 hF) e4 hk).1 h
set_option linter.unusedSimpArgs false in
set_option maxRecDepth 100000 in
set_option maxHeartbeats 40000000 in
theorem walk (a0 : Option Addr) (len0 cap0 : Nat) (w : World) (w0 : WSrc.RowB w w.heap.size a0 len0 cap0) (x : Nat → Addr) (hE : WIs.Six w x) :
  Calls Tryz.prog 4 #[.slice a0 len0 cap0] w fun e w' => e = .returned (.bool true) ∧ Below w.heap.size w w' := by
 by_cases hL0 : (1048576 : Int) < (len0 : Int)
 ·clear w0 hE
  go_enter Tryz.func4, Tryz.ntmps4
  go_wp2
  go_ret
  exact ⟨rfl, Below.refl _ _⟩
 have HE := hide (fun W (b : Below w.heap.size w W) => hE.call b)
 obtain ⟨r0, r1, r2, r3, x0, x1, x2, x3, hE4⟩ := six4 hE
 have HE4 := hide (fun W (b : Below w.heap.size w W) => hE4.call b)
 have hd1 := hide (WSrc.yu3 a0 len0 cap0 w w0)
 clear w0 hE hE4
 go_enter Tryz.func4, Tryz.ntmps4
 go_wp2_with fail
 refine (za hd1).mono ?_
 rintro e v1 ⟨va, vc, Is, hl, rfl, nv, own, b1⟩
 have OKT := hide nv.hok
 have hcap := zg8.zz4 own
 have hne : va = none → Is = [] := fun e => by
  subst e
  rcases own.2 with ⟨_, h0⟩ | ⟨g, c', cur, e, _⟩
  ·exact List.length_eq_zero_iff.1 h0
  ·cases e
 have hvg : ∀ ad, va = some ad → ∃ g o, va = some ⟨g, o, none⟩ := fun ad e => by
  subst e
  rcases own.2 with ⟨e, _⟩ | ⟨g, c', cur, e, _⟩
  ·cases e
  ·injection e with e1; exact ⟨g, 0, e1⟩
 have hfi := hide (fun W (b : Below w.heap.size w W) (v : Mem.za6 W va Is) => WFlat.yt2 va vc Is W (by omega) hcap v (za OKT) x (za HE W b))
 have hsf : Hid (∀ W (v : WSrc.zr0 W w.heap.size va Is), Calls Tryz.prog 25 #[.slice va Is.length vc] W fun e w' => WFlat.Outs W w' (Pl.zh1 (Is.map Pl.It.r)) (Pl.ze3 (Is.map Pl.It.r)) e ∧ Below W.heap.size W w') := hide (fun W v => by
  cases hva : va with
  | none =>
   have := hne hva
   subst this
   exact zn4.flat_nil none vc W
  | some ad =>
   obtain ⟨g, o, e⟩ := hvg ad hva
   rw [← hva]
   have hR := okr v
   have hi := v.items
   rw [e] at hi ⊢
   exact zn4.flat_any g o vc Is W (by omega) hi (za OKT) hR)
 have hci := hide (fun W (b : Below w.heap.size w W) (v : Mem.za6 W va Is) => WFlat.can_any va vc Is W (by omega) hcap v (za OKT) x (za HE W b))
 have hcs := hide (fun W (v : Mem.za6 W va Is) => zn4.can_any va vc Is W (by omega) v (za OKT))
 have hsi1 := hide (fun W (b : Below w.heap.size w W) (v : Mem.za6 W va Is) => zt9.sight_any va vc Is W (by omega) hcap v (za OKT) x (za HE W b))
 have hdn := hide (fun W (b : Below w.heap.size w W) (v : Mem.za6 W va Is) => zc0.zr8 va vc Is W (by omega) hcap v (za OKT) _ _ _ _ _ _ _ _ (za HE4 W b))
 have hln := hide (fun W (b : Below w.heap.size w W) (v : Mem.za6 W va Is) => zc0.ye2 va vc Is W (by omega) hcap v (za OKT) _ _ _ _ _ _ _ _ (za HE4 W b))
 have HFL := hide (fun h => Pl.yg2 (xs := Is.map Pl.It.r) h)
 have HFE := hide (Pl.flatI_le (xs := Is.map Pl.It.r) 40 (fun L h => by unfold Pl.za2 at h; exact of_decide_eq_true ((Bool.and_eq_true _ _).mp h).1))
 have HFO : Hid (∀ y ∈ Pl.ze3 (Is.map Pl.It.r), y.2.length ≤ 1048576 ∧ ∀ n ∈ y.2, n.path.size ≤ 1048576 ∧ n.data.size ≤ 1048576) := hide (fun y hy => by
  by_cases hc : Pl.zh1 (Is.map Pl.It.r) = 0
  ·obtain ⟨L, A, L1, k1, hf⟩ := Pl.yg2 hc
   rw [hf.fi'] at hy
   exact Pl.ym7 (Pl.Fx.ok_mem hf.okK y hy).1
  ·exfalso
   rw [flat_no hc] at hy
   cases hy)
 have HRT : Hid (Pl.zh1 (Is.map Pl.It.r) = 0 → (Pl.nest (Pl.rowO (Pl.ze3 (Is.map Pl.It.r)))).isSome = true) := hide (fun h => by
  obtain ⟨L, A, L1, k1, hf⟩ := Pl.yg2 h
  rw [hf.nest]; rfl)
 have HLE : Hid (Pl.zh1 (Is.map Pl.It.r) = 0 → (Pl.ze3 (Is.map Pl.It.r)).length + 1 = Is.length) := hide (fun h => by
  obtain ⟨L, A, L1, k1, hf⟩ := Pl.yg2 h
  have := hf.len
  rw [List.length_map] at this
  exact this)
 have HDE : Hid (Pl.zh1 (Is.map Pl.It.r) = 0 → Pl.zs7 (Pl.nest (Pl.rowO (Pl.ze3 (Is.map Pl.It.r)))) ≤ Pl.zs7 (Pl.nest (Pl.rowO (Is.map Pl.It.r)))) := hide (fun h => by
  obtain ⟨L, A, L1, k1, hf⟩ := Pl.yg2 h
  exact hf.depth)
 have HLV : Hid (Pl.zh1 (Is.map Pl.It.r) = 0 → Pl.zn3 (Pl.nest (Pl.rowO (Pl.ze3 (Is.map Pl.It.r)))) = Pl.zn3 (Pl.nest (Pl.rowO (Is.map Pl.It.r)))) := hide (fun h => by
  obtain ⟨L, A, L1, k1, hf⟩ := Pl.yg2 h
  exact hf.level)
 have HSG : Hid (Pl.zh1 (Is.map Pl.It.r) = 0 → Pl.zg7 (Is.map Pl.It.r) = 0 → Pl.zg7 (Pl.ze3 (Is.map Pl.It.r)) = 0 → Pl.zo9 (Is.map Pl.It.r) = Pl.zo9 (Pl.ze3 (Is.map Pl.It.r))) := hide (fun h h1 h2 => by
  obtain ⟨L, A, L1, k1, hf⟩ := Pl.yg2 h
  exact hf.sight h1 h2)
 have hSl := Pl.sight_le (Is.map Pl.It.r)
 generalize hCE : Pl.zh1 (Is.map Pl.It.r) = C at hfi hsf hci hcs HRT HLE HDE HLV HSG
 generalize hOE : Pl.ze3 (Is.map Pl.It.r) = O at hfi hsf HRT HLE HDE HLV HSG HFE HFO
 generalize Pl.zg7 (Is.map Pl.It.r) = CA at hsi1 HSG
 generalize Pl.zo9 (Is.map Pl.It.r) = S at hsi1 HSG hSl
 generalize Pl.zs7 (Pl.nest (Pl.rowO (Is.map Pl.It.r))) = DN at hdn HDE
 generalize Pl.zn3 (Pl.nest (Pl.rowO (Is.map Pl.It.r))) = LN at hln HLV
 have NV := hide nv
 clear hd1 nv own hcap HFL hne hvg hCE hOE
 go_wp2_with fail
 refine (za hfi _ b1 (za NV).items).mono ?_
 rintro e v5 ⟨⟨vx, T, rfl, own5, hT0⟩, b7⟩
 obtain ⟨xa, xc, hvx⟩ := Mem.za1 own5.row
 subst hvx
 have hxc := zg8.zz4 own5.row
 have HTO := hide hT0
 have hTl : T.length ≤ 12 := by have h := congrArg List.length hT0; rw [List.length_map] at h; rw [h]; exact (za HFE).1
 have OKX : Hid (∀ y ∈ T, y.t.L.length ≤ 1048576 ∧ ∀ n ∈ y.t.L, n.path.size ≤ 1048576 ∧ n.data.size ≤ 1048576) := hide (fun y hy => (za HFO) y.r (by rw [← hT0]; exact List.mem_map.2 ⟨y, hy, rfl⟩))
 have b7' := b7.alloc b7.size (.cells #[.slice xa T.length xc, .int .i64 C] 28)
 have G : Hid (Fk w (v5.alloc (.cells #[.slice xa T.length xc, .int .i64 C] 28)) v5.heap.size w.heap.size va xa xc Is T C) :=
  ⟨b1.trans (b7'.mono b1.size), Mem.Blk.new _ _ _, (za NV).call b7', (own5.call ((Below.refl _ _).alloc (Nat.le_refl _) _)).items.2⟩
 have HLS := hide (fun sa sc (Q : List Pl.It) W (hQ : Q.map Pl.It.r = O) (h1 : Mem.za6 W xa T) (h2 : Mem.za6 W sa Q) => WLw.nests_any xa sa xc sc C T Q W (by omega) (by rw [hQ, za HTO]) h1 h2 (za OKX) (fun h => by rw [za HTO]; exact za HRT h))
 have hsi2 := hide (fun W (b : Below w.heap.size w W) (v : Mem.za6 W xa T) => zt9.sight_any xa xc T W (by omega) hxc v (za OKX) x (za HE W b))
 have hdx := hide (fun W (b : Below w.heap.size w W) (v : Mem.za6 W xa T) => zc0.zr8 xa xc T W (by omega) hxc v (za OKX) _ _ _ _ _ _ _ _ (za HE4 W b))
 have hlx := hide (fun W (b : Below w.heap.size w W) (v : Mem.za6 W xa T) => zc0.ye2 xa xc T W (by omega) hxc v (za OKX) _ _ _ _ _ _ _ _ (za HE4 W b))
 rw [hT0] at hsi2 hdx hlx
 have HTN : Hid (C = 0 → T.length + 1 = Is.length) := hide (fun h => by have h2 := congrArg List.length hT0; rw [List.length_map] at h2; rw [h2]; exact za HLE h)
 clear hfi own5 b7 b7' b1 NV hT0 hxc HFE HFO HRT HLE
 generalize Pl.zg7 O = CB at hsi2 HSG
 generalize Pl.zo9 O = U at hsi2 HSG
 generalize Pl.zs7 (Pl.nest (Pl.rowO O)) = DX at hdx HDE
 generalize Pl.zn3 (Pl.nest (Pl.rowO O)) = LX at hlx HLV
 go_wp2_with fail
 generalize v5.alloc (.cells #[.slice xa T.length xc, .int .i64 C] 28) = v6 at G ⊢
 generalize v5.heap.size = X4 at G ⊢
 generalize hB : w.heap.size = B at G hsf
 clear hB
 by_cases hR : C = 0
 ·subst hR
  have hc0 : decide ((0 : Int) = 0) = true := by decide
  rw [hc0] at hci hcs
  have MK : Hid (∀ W', Fk w W' X4 B va xa xc Is T (0) → (fun W' => Fk w W' X4 B va xa xc Is T (0) ∧ W'.cell? ⟨X4, 0, none⟩ = some (.slice xa T.length xc) ∧ W'.cell? ⟨X4, 1, none⟩ = some (.int .i64 (0))) W') := fun W' h => ⟨h, h.b4.cell 0, h.b4.cell 1⟩
  refine wp_region_held_drew (S := fun W' => Fk w W' X4 B va xa xc Is T (0) ∧ W'.cell? ⟨X4, 0, none⟩ = some (.slice xa T.length xc) ∧ W'.cell? ⟨X4, 1, none⟩ = some (.int .i64 (0))) (by kernel_rfl) ?_ (fun hHeld => ?_)
  ·exact za MK _ (za G).drew
  clear G
  refine tka (i := 0) rfl ?_
  try simp only [Act.put, kBs]
  refine tka (i := 1) rfl ?_
  try simp only [Act.put, kBs]
  refine wpAnyH_ready (rs := [2]) (by kernel_rfl) (by simp) ?_
  refine AllReadyH.cons rfl (fun K hK => ?_) AllReadyH.nil
  go_simp
  refine (za hsf _ hHeld.1.nv).mono ?_
  rintro e wX ⟨⟨vs, Q, rfl, ownS, hQ⟩, bX⟩
  obtain ⟨sa, sc, hvs⟩ := Mem.za1 ownS.row
  subst hvs
  have NS := hide ownS.items.2
  have HQ := hide hQ
  clear ownS hQ
  have hQl : Q.length = T.length := by have h := congrArg List.length (za HQ); rw [← za HTO] at h; simpa using h
  rw [hQl]
  refine hK.out _ _ ?_ (fun hHeld => ?_)
  ·exact za MK _ (hHeld.1.call bX)
  clear hK K
  try simp only [Act.put, kBs]
  refine wpAnyH_ready (rs := [3]) (by kernel_rfl) (by simp) ?_
  refine AllReadyH.cons rfl (fun K hK => ?_) AllReadyH.nil
  go_simp
  refine (za HLS sa sc Q _ (za HQ) hHeld.1.io (za NS)).mono ?_
  rintro e wX ⟨rfl, bX⟩
  refine hK.out _ _ ?_ (fun hHeld => ?_)
  ·exact za MK _ (hHeld.1.call bX)
  clear hK K
  try simp only [Act.put, kBs]
  clear NS HQ hQl
  refine tka (i := 4) rfl ?_
  try simp only [Act.put, kBs]
  refine tka (i := 5) rfl ?_
  try simp only [Act.put, kBs]
  refine tka (i := 6) rfl ?_
  try simp only [Act.put, kBs]
  refine tka (i := 8) rfl ?_
  try simp only [Act.put, kBs]
  refine wpAnyH_ready (rs := [7]) (by kernel_rfl) (by simp) ?_
  refine AllReadyH.cons rfl (fun K hK => ?_) AllReadyH.nil
  go_simp
  refine (za hci _ hHeld.1.bel hHeld.1.nv.items).mono ?_
  rintro e wX ⟨rfl, bX⟩
  refine hK.out _ _ ?_ (fun hHeld => ?_)
  ·exact za MK _ (hHeld.1.call bX)
  clear hK K
  try simp only [Act.put, kBs]
  refine wpAnyH_ready (rs := [9]) (by kernel_rfl) (by simp) ?_
  refine AllReadyH.cons rfl (fun K hK => ?_) AllReadyH.nil
  go_simp
  refine (za hcs _ hHeld.1.nv.items).mono ?_
  rintro e wX ⟨rfl, bX⟩
  refine hK.out _ _ ?_ (fun hHeld => ?_)
  ·exact za MK _ (hHeld.1.call bX)
  clear hK K
  try simp only [Act.put, kBs]
  refine tka (i := 10) rfl ?_
  try simp only [Act.put, kBs]
  refine tka (i := 11) rfl ?_
  try simp only [Act.put, kBs]
  refine tka (i := 12) rfl ?_
  try simp only [Act.put, kBs]
  refine tka (i := 13) rfl ?_
  try simp only [Act.put, kBs]
  refine tka (i := 15) rfl ?_
  try simp only [Act.put, kBs]
  refine tka (i := 16) rfl ?_
  try simp only [Act.put, kBs]
  refine tka (i := 17) rfl ?_
  try simp only [Act.put, kBs]
  refine wpAnyH_ready (rs := [14]) (by kernel_rfl) (by simp) ?_
  refine AllReadyH.cons rfl (fun K hK => ?_) AllReadyH.nil
  go_simp
  refine (za hci _ hHeld.1.bel hHeld.1.nv.items).mono ?_
  rintro e wX ⟨rfl, bX⟩
  refine hK.out _ _ ?_ (fun hHeld => ?_)
  ·exact za MK _ (hHeld.1.call bX)
  clear hK K
  try simp only [Act.put, kBs]
  refine tka (i := 18) rfl ?_
  try simp only [Act.put, kBs]
  refine tka (i := 19) rfl ?_
  try simp only [Act.put, kBs]
  refine tka (i := 20) rfl ?_
  try simp only [Act.put, kBs]
  refine tka (i := 21) rfl ?_
  try simp only [Act.put, kBs]
  refine tka (i := 22) rfl ?_
  try simp only [Act.put, kBs]
  refine tka (i := 23) rfl ?_
  try simp only [Act.put, kBs]
  refine tka (i := 24) rfl ?_
  try simp only [Act.put, kBs]
  refine wpAnyH_done (by kernel_rfl) ?_ _
  have G := hide hHeld.1
  clear hHeld
  clear MK hci hcs hsf HLS
  have hDD := za HDE rfl
  have hLL := za HLV rfl
  have hTN := za HTN rfl
  have HSI := hide (za HSG rfl)
  have y1 : ¬ DN < DX := by omega
  have y2 : IntKind.i64.wrap ((Is.length : Int) - 1) = (T.length : Int) := by simp only [IntKind.wrap_i64]; omega
  subst hLL
  clear HDE HLV HTN HSG hTN hDD HTO
  go_wp2_with fail
  generalize wX = vR at G ⊢
  have MK7 : Hid (∀ W', Below vR.heap.size vR W' → (Below vR.heap.size vR W' ∧ W'.cell? ⟨X4, 0, none⟩ = some (.slice xa T.length xc))) := fun W' hb' => ⟨hb', (hb'.cell (p := ⟨X4, 0, none⟩) (za G).b4.lt).trans ((za G).b4.cell 0)⟩
  have hs1 := hide (fun W (b : Below vR.heap.size vR W) => za hsi1 W ((za G).call b).bel ((za G).call b).nv.items)
  have hs2 := hide (fun W (b : Below vR.heap.size vR W) => za hsi2 W ((za G).call b).bel ((za G).call b).io)
  refine wp_merge (R := fun T0 T' W => ∃ (X5 X6 : Nat) (sa : Option Addr) (sc : Nat) (ta : Option Addr) (tc : Nat), T' = (((((((T0).setIfInBounds 51 (.slice va Is.length vc)).setIfInBounds 53 (.pointer (some ⟨X4, 0, none⟩))).setIfInBounds 54 (.slice xa T.length xc)).setIfInBounds 52 (.agg #[.slice sa S.length sc, .int .i64 CA])).setIfInBounds 55 (.agg #[.slice ta U.length tc, .int .i64 CB])).setIfInBounds 5 (.pointer (some ⟨X5, 0, none⟩))).setIfInBounds 6 (.pointer (some ⟨X6, 0, none⟩)) ∧ zf8.Rk vR W X5 X6 sa ta sc tc S U CA CB) ?_ ?_
  ·refine wp_region_held_drew (S := fun W' => Below vR.heap.size vR W' ∧ W'.cell? ⟨X4, 0, none⟩ = some (.slice xa T.length xc)) (by kernel_rfl) ?_ (fun hHeld => ?_)
   ·exact za MK7 _ ((Below.refl _ _).trans ⟨rfl, rfl, rfl, Nat.le_refl _, fun _ _ => rfl⟩)
   generalize vR.drew = D0 at hHeld ⊢
   refine wpAnyH_take (i := 0) (v := ?_) rfl (by kernel_rfl) (by kernel_rfl) (by kernel_rfl) (by first | exact (fun _ _ _ h => nomatch h.1) | exact (fun _ _ _ h => h)) (Or.inl ⟨by kernel_rfl, ?_⟩) (by assumption) ?_
   rotate_left
   ·(intro w hSw; (try dsimp only at hSw); go_simp; (try with_reducible rfl))
   try simp only [Act.put, kBs]
   refine wpAnyH_take (i := 2) (v := ?_) rfl (by kernel_rfl) (by kernel_rfl) (by kernel_rfl) (by first | exact (fun _ _ _ h => nomatch h.1) | exact (fun _ _ _ h => h)) (Or.inl ⟨by kernel_rfl, ?_⟩) (by assumption) ?_
   rotate_left
   ·(intro w hSw; (try dsimp only at hSw); go_simp; (try with_reducible rfl))
   try simp only [Act.put, kBs]
   refine wpAnyH_take (i := 3) (v := ?_) rfl (by kernel_rfl) (by kernel_rfl) (by kernel_rfl) (by first | exact (fun _ _ _ h => nomatch h.1) | exact (fun _ _ _ h => h)) (Or.inl ⟨by kernel_rfl, ?_⟩) (by assumption) ?_
   rotate_left
   ·(intro w hSw; (try dsimp only at hSw); go_simp; (try with_reducible rfl))
   try simp only [Act.put, kBs]
   have h : zf8.Ps vR D0 none none none none S U := zf8.Ps.start hHeld.1
   apply zf8.meet (F := fun W X5 X6 sa sc ta tc => zf8.Ps vR W (some X5) (some X6) (some (sa, sc)) (some (ta, tc)) S U)
   ·intro hEnd
    refine wpAnyH_ready (rs := [1, 5, 6]) (by kernel_rfl) (by simp) ?_
    refine AllReadyH.cons rfl (fun K hK => ?_) (AllReadyH.cons rfl (fun K hK => ?_) (AllReadyH.cons rfl (fun K hK => ?_) (AllReadyH.nil)))
    ·go_simp
     refine (za hs1 _ hHeld.1).mono ?_
     rintro e XC1 ⟨vs, rfl, O, bX⟩
     obtain ⟨sa, sc, hvs⟩ := Mem.za1 O
     subst hvs
     replace h := h.c1 bX O
     refine hK.out _ _ ?_ (fun hHeld => ?_)
     ·exact za MK7 _ h.bel
     clear hK K
     try simp only [Act.put, kBs]
     clear bX O
     refine wpAnyH_ready (rs := [4, 5, 6]) (by kernel_rfl) (by simp) ?_
     refine AllReadyH.cons rfl (fun K hK => ?_) (AllReadyH.cons rfl (fun K hK => ?_) (AllReadyH.cons rfl (fun K hK => ?_) (AllReadyH.nil)))
     ·go_simp
      refine (za hs2 _ hHeld.1).mono ?_
      rintro e XC4 ⟨vs, rfl, O, bX⟩
      obtain ⟨ta, tc, hvs⟩ := Mem.za1 O
      subst hvs
      replace h := h.c2 bX O
      refine hK.out _ _ ?_ (fun hHeld => ?_)
      ·exact za MK7 _ h.bel
      clear hK K
      try simp only [Act.put, kBs]
      clear bX O
      refine wpAnyH_ready (rs := [5, 6]) (by kernel_rfl) (by simp) ?_
      refine AllReadyH.cons rfl (fun K hK => ?_) (AllReadyH.cons rfl (fun K hK => ?_) (AllReadyH.nil))
      ·go_simp
       replace h := h.a5
       refine hK.out _ _ ?_ (fun hHeld => ?_)
       ·exact za MK7 _ h.bel
       clear hK K
       try simp only [Act.put, kBs]
       generalize XC4.alloc zf8.Z = XA5 at hHeld h ⊢
       generalize XC4.heap.size = X5 at h ⊢
       refine wpAnyH_ready (rs := [6]) (by kernel_rfl) (by simp) ?_
       refine AllReadyH.cons rfl (fun K hK => ?_) (AllReadyH.nil)
       go_simp
       replace h := h.a6
       refine hK.out _ _ ?_ (fun hHeld => ?_)
       ·exact za MK7 _ h.bel
       clear hK K
       try simp only [Act.put, kBs]
       generalize XA5.alloc zf8.Z = XA6 at hHeld h ⊢
       generalize XA5.heap.size = X6 at h ⊢
       exact hEnd _ _ _ _ _ _ _ h
      ·go_simp
       replace h := h.a6
       refine hK.out _ _ ?_ (fun hHeld => ?_)
       ·exact za MK7 _ h.bel
       clear hK K
       try simp only [Act.put, kBs]
       generalize XC4.alloc zf8.Z = XA6 at hHeld h ⊢
       generalize XC4.heap.size = X6 at h ⊢
       refine wpAnyH_ready (rs := [5]) (by kernel_rfl) (by simp) ?_
       refine AllReadyH.cons rfl (fun K hK => ?_) (AllReadyH.nil)
       go_simp
       replace h := h.a5
       refine hK.out _ _ ?_ (fun hHeld => ?_)
       ·exact za MK7 _ h.bel
       clear hK K
       try simp only [Act.put, kBs]
       generalize XA6.alloc zf8.Z = XA5 at hHeld h ⊢
       generalize XA6.heap.size = X5 at h ⊢
       exact hEnd _ _ _ _ _ _ _ h
     ·go_simp
      replace h := h.a5
      refine hK.out _ _ ?_ (fun hHeld => ?_)
      ·exact za MK7 _ h.bel
      clear hK K
      try simp only [Act.put, kBs]
      generalize XC1.alloc zf8.Z = XA5 at hHeld h ⊢
      generalize XC1.heap.size = X5 at h ⊢
      refine wpAnyH_ready (rs := [4, 6]) (by kernel_rfl) (by simp) ?_
      refine AllReadyH.cons rfl (fun K hK => ?_) (AllReadyH.cons rfl (fun K hK => ?_) (AllReadyH.nil))
      ·go_simp
       refine (za hs2 _ hHeld.1).mono ?_
       rintro e XC4 ⟨vs, rfl, O, bX⟩
       obtain ⟨ta, tc, hvs⟩ := Mem.za1 O
       subst hvs
       replace h := h.c2 bX O
       refine hK.out _ _ ?_ (fun hHeld => ?_)
       ·exact za MK7 _ h.bel
       clear hK K
       try simp only [Act.put, kBs]
       clear bX O
       refine wpAnyH_ready (rs := [6]) (by kernel_rfl) (by simp) ?_
       refine AllReadyH.cons rfl (fun K hK => ?_) (AllReadyH.nil)
       go_simp
       replace h := h.a6
       refine hK.out _ _ ?_ (fun hHeld => ?_)
       ·exact za MK7 _ h.bel
       clear hK K
       try simp only [Act.put, kBs]
       generalize XC4.alloc zf8.Z = XA6 at hHeld h ⊢
       generalize XC4.heap.size = X6 at h ⊢
       exact hEnd _ _ _ _ _ _ _ h
      ·go_simp
       replace h := h.a6
       refine hK.out _ _ ?_ (fun hHeld => ?_)
       ·exact za MK7 _ h.bel
       clear hK K
       try simp only [Act.put, kBs]
       generalize XA5.alloc zf8.Z = XA6 at hHeld h ⊢
       generalize XA5.heap.size = X6 at h ⊢
       refine wpAnyH_ready (rs := [4]) (by kernel_rfl) (by simp) ?_
       refine AllReadyH.cons rfl (fun K hK => ?_) (AllReadyH.nil)
       go_simp
       refine (za hs2 _ hHeld.1).mono ?_
       rintro e XC4 ⟨vs, rfl, O, bX⟩
       obtain ⟨ta, tc, hvs⟩ := Mem.za1 O
       subst hvs
       replace h := h.c2 bX O
       refine hK.out _ _ ?_ (fun hHeld => ?_)
       ·exact za MK7 _ h.bel
       clear hK K
       try simp only [Act.put, kBs]
       clear bX O
       exact hEnd _ _ _ _ _ _ _ h
     ·go_simp
      replace h := h.a6
      refine hK.out _ _ ?_ (fun hHeld => ?_)
      ·exact za MK7 _ h.bel
      clear hK K
      try simp only [Act.put, kBs]
      generalize XC1.alloc zf8.Z = XA6 at hHeld h ⊢
      generalize XC1.heap.size = X6 at h ⊢
      refine wpAnyH_ready (rs := [4, 5]) (by kernel_rfl) (by simp) ?_
      refine AllReadyH.cons rfl (fun K hK => ?_) (AllReadyH.cons rfl (fun K hK => ?_) (AllReadyH.nil))
      ·go_simp
       refine (za hs2 _ hHeld.1).mono ?_
       rintro e XC4 ⟨vs, rfl, O, bX⟩
       obtain ⟨ta, tc, hvs⟩ := Mem.za1 O
       subst hvs
       replace h := h.c2 bX O
       refine hK.out _ _ ?_ (fun hHeld => ?_)
       ·exact za MK7 _ h.bel
       clear hK K
       try simp only [Act.put, kBs]
       clear bX O
       refine wpAnyH_ready (rs := [5]) (by kernel_rfl) (by simp) ?_
       refine AllReadyH.cons rfl (fun K hK => ?_) (AllReadyH.nil)
       go_simp
       replace h := h.a5
       refine hK.out _ _ ?_ (fun hHeld => ?_)
       ·exact za MK7 _ h.bel
       clear hK K
       try simp only [Act.put, kBs]
       generalize XC4.alloc zf8.Z = XA5 at hHeld h ⊢
       generalize XC4.heap.size = X5 at h ⊢
       exact hEnd _ _ _ _ _ _ _ h
      ·go_simp
       replace h := h.a5
       refine hK.out _ _ ?_ (fun hHeld => ?_)
       ·exact za MK7 _ h.bel
       clear hK K
       try simp only [Act.put, kBs]
       generalize XA6.alloc zf8.Z = XA5 at hHeld h ⊢
       generalize XA6.heap.size = X5 at h ⊢
       refine wpAnyH_ready (rs := [4]) (by kernel_rfl) (by simp) ?_
       refine AllReadyH.cons rfl (fun K hK => ?_) (AllReadyH.nil)
       go_simp
       refine (za hs2 _ hHeld.1).mono ?_
       rintro e XC4 ⟨vs, rfl, O, bX⟩
       obtain ⟨ta, tc, hvs⟩ := Mem.za1 O
       subst hvs
       replace h := h.c2 bX O
       refine hK.out _ _ ?_ (fun hHeld => ?_)
       ·exact za MK7 _ h.bel
       clear hK K
       try simp only [Act.put, kBs]
       clear bX O
       exact hEnd _ _ _ _ _ _ _ h
    ·go_simp
     replace h := h.a5
     refine hK.out _ _ ?_ (fun hHeld => ?_)
     ·exact za MK7 _ h.bel
     clear hK K
     try simp only [Act.put, kBs]
     generalize D0.alloc zf8.Z = XA5 at hHeld h ⊢
     generalize D0.heap.size = X5 at h ⊢
     refine wpAnyH_ready (rs := [1, 6]) (by kernel_rfl) (by simp) ?_
     refine AllReadyH.cons rfl (fun K hK => ?_) (AllReadyH.cons rfl (fun K hK => ?_) (AllReadyH.nil))
     ·go_simp
      refine (za hs1 _ hHeld.1).mono ?_
      rintro e XC1 ⟨vs, rfl, O, bX⟩
      obtain ⟨sa, sc, hvs⟩ := Mem.za1 O
      subst hvs
      replace h := h.c1 bX O
      refine hK.out _ _ ?_ (fun hHeld => ?_)
      ·exact za MK7 _ h.bel
      clear hK K
      try simp only [Act.put, kBs]
      clear bX O
      refine wpAnyH_ready (rs := [4, 6]) (by kernel_rfl) (by simp) ?_
      refine AllReadyH.cons rfl (fun K hK => ?_) (AllReadyH.cons rfl (fun K hK => ?_) (AllReadyH.nil))
      ·go_simp
       refine (za hs2 _ hHeld.1).mono ?_
       rintro e XC4 ⟨vs, rfl, O, bX⟩
       obtain ⟨ta, tc, hvs⟩ := Mem.za1 O
       subst hvs
       replace h := h.c2 bX O
       refine hK.out _ _ ?_ (fun hHeld => ?_)
       ·exact za MK7 _ h.bel
       clear hK K
       try simp only [Act.put, kBs]
       clear bX O
       refine wpAnyH_ready (rs := [6]) (by kernel_rfl) (by simp) ?_
       refine AllReadyH.cons rfl (fun K hK => ?_) (AllReadyH.nil)
       go_simp
       replace h := h.a6
       refine hK.out _ _ ?_ (fun hHeld => ?_)
       ·exact za MK7 _ h.bel
       clear hK K
       try simp only [Act.put, kBs]
       generalize XC4.alloc zf8.Z = XA6 at hHeld h ⊢
       generalize XC4.heap.size = X6 at h ⊢
       exact hEnd _ _ _ _ _ _ _ h
      ·go_simp
       replace h := h.a6
       refine hK.out _ _ ?_ (fun hHeld => ?_)
       ·exact za MK7 _ h.bel
       clear hK K
       try simp only [Act.put, kBs]
       generalize XC1.alloc zf8.Z = XA6 at hHeld h ⊢
       generalize XC1.heap.size = X6 at h ⊢
       refine wpAnyH_ready (rs := [4]) (by kernel_rfl) (by simp) ?_
       refine AllReadyH.cons rfl (fun K hK => ?_) (AllReadyH.nil)
       go_simp
       refine (za hs2 _ hHeld.1).mono ?_
       rintro e XC4 ⟨vs, rfl, O, bX⟩
       obtain ⟨ta, tc, hvs⟩ := Mem.za1 O
       subst hvs
       replace h := h.c2 bX O
       refine hK.out _ _ ?_ (fun hHeld => ?_)
       ·exact za MK7 _ h.bel
       clear hK K
       try simp only [Act.put, kBs]
       clear bX O
       exact hEnd _ _ _ _ _ _ _ h
     ·go_simp
      replace h := h.a6
      refine hK.out _ _ ?_ (fun hHeld => ?_)
      ·exact za MK7 _ h.bel
      clear hK K
      try simp only [Act.put, kBs]
      generalize XA5.alloc zf8.Z = XA6 at hHeld h ⊢
      generalize XA5.heap.size = X6 at h ⊢
      refine wpAnyH_ready (rs := [1]) (by kernel_rfl) (by simp) ?_
      refine AllReadyH.cons rfl (fun K hK => ?_) (AllReadyH.nil)
      go_simp
      refine (za hs1 _ hHeld.1).mono ?_
      rintro e XC1 ⟨vs, rfl, O, bX⟩
      obtain ⟨sa, sc, hvs⟩ := Mem.za1 O
      subst hvs
      replace h := h.c1 bX O
      refine hK.out _ _ ?_ (fun hHeld => ?_)
      ·exact za MK7 _ h.bel
      clear hK K
      try simp only [Act.put, kBs]
      clear bX O
      refine wpAnyH_ready (rs := [4]) (by kernel_rfl) (by simp) ?_
      refine AllReadyH.cons rfl (fun K hK => ?_) (AllReadyH.nil)
      go_simp
      refine (za hs2 _ hHeld.1).mono ?_
      rintro e XC4 ⟨vs, rfl, O, bX⟩
      obtain ⟨ta, tc, hvs⟩ := Mem.za1 O
      subst hvs
      replace h := h.c2 bX O
      refine hK.out _ _ ?_ (fun hHeld => ?_)
      ·exact za MK7 _ h.bel
      clear hK K
      try simp only [Act.put, kBs]
      clear bX O
      exact hEnd _ _ _ _ _ _ _ h
    ·go_simp
     replace h := h.a6
     refine hK.out _ _ ?_ (fun hHeld => ?_)
     ·exact za MK7 _ h.bel
     clear hK K
     try simp only [Act.put, kBs]
     generalize D0.alloc zf8.Z = XA6 at hHeld h ⊢
     generalize D0.heap.size = X6 at h ⊢
     refine wpAnyH_ready (rs := [1, 5]) (by kernel_rfl) (by simp) ?_
     refine AllReadyH.cons rfl (fun K hK => ?_) (AllReadyH.cons rfl (fun K hK => ?_) (AllReadyH.nil))
     ·go_simp
      refine (za hs1 _ hHeld.1).mono ?_
      rintro e XC1 ⟨vs, rfl, O, bX⟩
      obtain ⟨sa, sc, hvs⟩ := Mem.za1 O
      subst hvs
      replace h := h.c1 bX O
      refine hK.out _ _ ?_ (fun hHeld => ?_)
      ·exact za MK7 _ h.bel
      clear hK K
      try simp only [Act.put, kBs]
      clear bX O
      refine wpAnyH_ready (rs := [4, 5]) (by kernel_rfl) (by simp) ?_
      refine AllReadyH.cons rfl (fun K hK => ?_) (AllReadyH.cons rfl (fun K hK => ?_) (AllReadyH.nil))
      ·go_simp
       refine (za hs2 _ hHeld.1).mono ?_
       rintro e XC4 ⟨vs, rfl, O, bX⟩
       obtain ⟨ta, tc, hvs⟩ := Mem.za1 O
       subst hvs
       replace h := h.c2 bX O
       refine hK.out _ _ ?_ (fun hHeld => ?_)
       ·exact za MK7 _ h.bel
       clear hK K
       try simp only [Act.put, kBs]
       clear bX O
       refine wpAnyH_ready (rs := [5]) (by kernel_rfl) (by simp) ?_
       refine AllReadyH.cons rfl (fun K hK => ?_) (AllReadyH.nil)
       go_simp
       replace h := h.a5
       refine hK.out _ _ ?_ (fun hHeld => ?_)
       ·exact za MK7 _ h.bel
       clear hK K
       try simp only [Act.put, kBs]
       generalize XC4.alloc zf8.Z = XA5 at hHeld h ⊢
       generalize XC4.heap.size = X5 at h ⊢
       exact hEnd _ _ _ _ _ _ _ h
      ·go_simp
       replace h := h.a5
       refine hK.out _ _ ?_ (fun hHeld => ?_)
       ·exact za MK7 _ h.bel
       clear hK K
       try simp only [Act.put, kBs]
       generalize XC1.alloc zf8.Z = XA5 at hHeld h ⊢
       generalize XC1.heap.size = X5 at h ⊢
       refine wpAnyH_ready (rs := [4]) (by kernel_rfl) (by simp) ?_
       refine AllReadyH.cons rfl (fun K hK => ?_) (AllReadyH.nil)
       go_simp
       refine (za hs2 _ hHeld.1).mono ?_
       rintro e XC4 ⟨vs, rfl, O, bX⟩
       obtain ⟨ta, tc, hvs⟩ := Mem.za1 O
       subst hvs
       replace h := h.c2 bX O
       refine hK.out _ _ ?_ (fun hHeld => ?_)
       ·exact za MK7 _ h.bel
       clear hK K
       try simp only [Act.put, kBs]
       clear bX O
       exact hEnd _ _ _ _ _ _ _ h
     ·go_simp
      replace h := h.a5
      refine hK.out _ _ ?_ (fun hHeld => ?_)
      ·exact za MK7 _ h.bel
      clear hK K
      try simp only [Act.put, kBs]
      generalize XA6.alloc zf8.Z = XA5 at hHeld h ⊢
      generalize XA6.heap.size = X5 at h ⊢
      refine wpAnyH_ready (rs := [1]) (by kernel_rfl) (by simp) ?_
      refine AllReadyH.cons rfl (fun K hK => ?_) (AllReadyH.nil)
      go_simp
      refine (za hs1 _ hHeld.1).mono ?_
      rintro e XC1 ⟨vs, rfl, O, bX⟩
      obtain ⟨sa, sc, hvs⟩ := Mem.za1 O
      subst hvs
      replace h := h.c1 bX O
      refine hK.out _ _ ?_ (fun hHeld => ?_)
      ·exact za MK7 _ h.bel
      clear hK K
      try simp only [Act.put, kBs]
      clear bX O
      refine wpAnyH_ready (rs := [4]) (by kernel_rfl) (by simp) ?_
      refine AllReadyH.cons rfl (fun K hK => ?_) (AllReadyH.nil)
      go_simp
      refine (za hs2 _ hHeld.1).mono ?_
      rintro e XC4 ⟨vs, rfl, O, bX⟩
      obtain ⟨ta, tc, hvs⟩ := Mem.za1 O
      subst hvs
      replace h := h.c2 bX O
      refine hK.out _ _ ?_ (fun hHeld => ?_)
      ·exact za MK7 _ h.bel
      clear hK K
      try simp only [Act.put, kBs]
      clear bX O
      exact hEnd _ _ _ _ _ _ _ h
   ·intro W X5 X6 sa sc ta tc h
    have M := hide (h.mid (.slice sa S.length sc) (.int .i64 CA))
    have GOT := hide (h.fin CA CB)
    have E := (h.b5 _ rfl).1
    have hb := h.bel
    clear h
    refine wpAnyH_ready (rs := [7]) (by kernel_rfl) (by simp) ?_
    refine AllReadyH.cons rfl (fun K hK => ?_) AllReadyH.nil
    have d0 := E.cell 0
    have d1 := E.cell 1
    have f0 := E.fr 0
    have f1 := E.fr 1
    simp only [kGs] at d0 d1
    go_simp
    refine hK.out _ _ ?_ (fun hHeld => ?_)
    ·exact za MK7 _ (za M).1
    clear hK K
    try simp only [Act.put, kBs]
    clear d0 d1 f0 f1
    refine wpAnyH_ready (rs := [8]) (by kernel_rfl) (by simp) ?_
    refine AllReadyH.cons rfl (fun K hK => ?_) AllReadyH.nil
    have d0 := (za M).2.cell 0
    have d1 := (za M).2.cell 1
    have f0 := (za M).2.fr 0
    have f1 := (za M).2.fr 1
    simp only [kGs] at d0 d1
    go_simp
    refine hK.out _ _ ?_ (fun hHeld => ?_)
    ·exact za MK7 _ (za GOT).bel
    clear hK K
    try simp only [Act.put, kBs]
    clear d0 d1 f0 f1
    refine wpAnyH_done (by kernel_rfl) ?_ _
    refine ⟨rfl, rfl, X5, X6, sa, sc, ta, tc, ?_, za GOT⟩
    simp only [kB3, kB4, kB5]
  rintro T' wR ⟨X5, X6, sa, sc, ta, tc, hT', hRk⟩
  simp only [kB3, kB4, kB5] at hT'
  subst hT'
  have K := hide hRk
  have G := hide ((za G).call hRk.bel)
  clear hRk MK7 hs1 hs2
  have x4 := (za G).b4.cell 0
  simp only [kGs] at x4
  go_wp2_with fail
  refine (za hdx _ (za G).bel (za G).io).mono ?_
  rintro e u1 ⟨rfl, bX⟩
  have G := hide ((za G).call bX)
  have K := hide ((za K).call bX)
  clear bX x4
  go_wp2_with fail
  refine (za hdn _ (za G).bel (za G).nv.items).mono ?_
  rintro e u2 ⟨rfl, bX⟩
  have G := hide ((za G).call bX)
  have K := hide ((za K).call bX)
  have x4 := (za G).b4.cell 0
  simp only [kGs] at x4
  clear bX
  go_wp2_with fail
  refine (za hlx _ (za G).bel (za G).io).mono ?_
  rintro e u3 ⟨rfl, bX⟩
  have G := hide ((za G).call bX)
  have K := hide ((za K).call bX)
  clear bX x4
  go_wp2_with fail
  refine (za hln _ (za G).bel (za G).nv.items).mono ?_
  rintro e u4 ⟨rfl, bX⟩
  have G := hide ((za G).call bX)
  have K := hide ((za K).call bX)
  clear bX
  have k0 := (za K).b5.cell 0
  have k1 := (za K).b5.cell 1
  have k2 := (za K).b6.cell 0
  have k3 := (za K).b6.cell 1
  simp only [kGs] at k0 k1 k2 k3
  by_cases hA0 : CA = 0
  ·subst hA0
   by_cases hB0 : CB = 0
   ·subst hB0
    have hSU := za HSI rfl rfl
    subst hSU
    go_wp2_with fail
    refine (WLw.zw6 sa ta sc tc S _ (by omega) (za K).n5 (za K).n6).mono ?_
    rintro e u5 ⟨rfl, bX⟩
    have G := hide ((za G).call bX)
    go_wp2
    go_ret
    exact ⟨rfl, (za G).bel⟩
   ·have hb1 : (CB != 0) = true := by simpa using hB0
    have hb2 : (CB == 0) = false := by simpa using hB0
    go_wp2
    go_ret
    exact ⟨rfl, (za G).bel⟩
  ·have ha1 : (CA != 0) = true := by simpa using hA0
   have ha2 : (CA == 0) = false := by simpa using hA0
   go_wp2
   go_ret
   exact ⟨rfl, (za G).bel⟩
 ·have hRb : (C == 0) = false := by simpa using hR
  have hRc : (C != 0) = true := by simpa using hR
  have hRd : decide (C = 0) = false := by simpa using hR
  rw [hRd] at hci hcs
  have MK : Hid (∀ W', Fk w W' X4 B va xa xc Is T (C) → (fun W' => Fk w W' X4 B va xa xc Is T (C) ∧ W'.cell? ⟨X4, 0, none⟩ = some (.slice xa T.length xc) ∧ W'.cell? ⟨X4, 1, none⟩ = some (.int .i64 (C))) W') := fun W' h => ⟨h, h.b4.cell 0, h.b4.cell 1⟩
  refine wp_region_held_drew (S := fun W' => Fk w W' X4 B va xa xc Is T (C) ∧ W'.cell? ⟨X4, 0, none⟩ = some (.slice xa T.length xc) ∧ W'.cell? ⟨X4, 1, none⟩ = some (.int .i64 (C))) (by kernel_rfl) ?_ (fun hHeld => ?_)
  ·exact za MK _ (za G).drew
  clear G
  refine tka (i := 0) rfl ?_
  try simp only [Act.put, kBs]
  refine tka (i := 1) rfl ?_
  try simp only [Act.put, kBs]
  refine wpAnyH_ready (rs := [2]) (by kernel_rfl) (by simp) ?_
  refine AllReadyH.cons rfl (fun K hK => ?_) AllReadyH.nil
  go_simp
  refine (za hsf _ hHeld.1.nv).mono ?_
  rintro e wX ⟨⟨vs, Q, rfl, ownS, hQ⟩, bX⟩
  obtain ⟨sa, sc, hvs⟩ := Mem.za1 ownS.row
  subst hvs
  have NS := hide ownS.items.2
  have HQ := hide hQ
  clear ownS hQ
  have hQl : Q.length = T.length := by have h := congrArg List.length (za HQ); rw [← za HTO] at h; simpa using h
  rw [hQl]
  refine hK.out _ _ ?_ (fun hHeld => ?_)
  ·exact za MK _ (hHeld.1.call bX)
  clear hK K
  try simp only [Act.put, kBs]
  refine wpAnyH_ready (rs := [3]) (by kernel_rfl) (by simp) ?_
  refine AllReadyH.cons rfl (fun K hK => ?_) AllReadyH.nil
  go_simp
  refine (za HLS sa sc Q _ (za HQ) hHeld.1.io (za NS)).mono ?_
  rintro e wX ⟨rfl, bX⟩
  refine hK.out _ _ ?_ (fun hHeld => ?_)
  ·exact za MK _ (hHeld.1.call bX)
  clear hK K
  try simp only [Act.put, kBs]
  clear NS HQ hQl
  refine tka (i := 4) rfl ?_
  try simp only [Act.put, kBs]
  refine tka (i := 5) rfl ?_
  try simp only [Act.put, kBs]
  refine tka (i := 6) rfl ?_
  try simp only [Act.put, kBs]
  refine tka (i := 8) rfl ?_
  try simp only [Act.put, kBs]
  refine wpAnyH_ready (rs := [7]) (by kernel_rfl) (by simp) ?_
  refine AllReadyH.cons rfl (fun K hK => ?_) AllReadyH.nil
  go_simp
  refine (za hci _ hHeld.1.bel hHeld.1.nv.items).mono ?_
  rintro e wX ⟨rfl, bX⟩
  refine hK.out _ _ ?_ (fun hHeld => ?_)
  ·exact za MK _ (hHeld.1.call bX)
  clear hK K
  try simp only [Act.put, kBs]
  refine wpAnyH_ready (rs := [9]) (by kernel_rfl) (by simp) ?_
  refine AllReadyH.cons rfl (fun K hK => ?_) AllReadyH.nil
  go_simp
  refine (za hcs _ hHeld.1.nv.items).mono ?_
  rintro e wX ⟨rfl, bX⟩
  refine hK.out _ _ ?_ (fun hHeld => ?_)
  ·exact za MK _ (hHeld.1.call bX)
  clear hK K
  try simp only [Act.put, kBs]
  refine tka (i := 10) rfl ?_
  try simp only [Act.put, kBs]
  refine tka (i := 11) rfl ?_
  try simp only [Act.put, kBs]
  refine tka (i := 12) rfl ?_
  try simp only [Act.put, kBs]
  refine tka (i := 13) rfl ?_
  try simp only [Act.put, kBs]
  refine tka (i := 15) rfl ?_
  try simp only [Act.put, kBs]
  refine tka (i := 16) rfl ?_
  try simp only [Act.put, kBs]
  refine tka (i := 17) rfl ?_
  try simp only [Act.put, kBs]
  refine wpAnyH_ready (rs := [14]) (by kernel_rfl) (by simp) ?_
  refine AllReadyH.cons rfl (fun K hK => ?_) AllReadyH.nil
  go_simp
  refine (za hci _ hHeld.1.bel hHeld.1.nv.items).mono ?_
  rintro e wX ⟨rfl, bX⟩
  refine hK.out _ _ ?_ (fun hHeld => ?_)
  ·exact za MK _ (hHeld.1.call bX)
  clear hK K
  try simp only [Act.put, kBs]
  refine tka (i := 18) rfl ?_
  try simp only [Act.put, kBs]
  refine tka (i := 19) rfl ?_
  try simp only [Act.put, kBs]
  refine tka (i := 20) rfl ?_
  try simp only [Act.put, kBs]
  refine tka (i := 21) rfl ?_
  try simp only [Act.put, kBs]
  refine tka (i := 22) rfl ?_
  try simp only [Act.put, kBs]
  refine tka (i := 23) rfl ?_
  try simp only [Act.put, kBs]
  refine tka (i := 24) rfl ?_
  try simp only [Act.put, kBs]
  refine wpAnyH_done (by kernel_rfl) ?_ _
  have G := hide hHeld.1
  clear hHeld
  go_wp2_with fail
  refine wp_region_held_drew (S := fun W' => Fk w W' X4 B va xa xc Is T (C) ∧ W'.cell? ⟨X4, 0, none⟩ = some (.slice xa T.length xc) ∧ W'.cell? ⟨X4, 1, none⟩ = some (.int .i64 (C))) (by kernel_rfl) ?_ (fun hHeld => ?_)
  ·exact za MK _ (za G).drew
  clear G
  refine tka (i := 0) rfl ?_
  try simp only [Act.put, kBs]
  refine tka (i := 1) rfl ?_
  try simp only [Act.put, kBs]
  refine wpAnyH_ready (rs := [2]) (by kernel_rfl) (by simp) ?_
  refine AllReadyH.cons rfl (fun K hK => ?_) AllReadyH.nil
  go_simp
  refine (za hsf _ hHeld.1.nv).mono ?_
  rintro e wX ⟨⟨vs, Q, rfl, ownS, hQ⟩, bX⟩
  obtain ⟨sa, sc, hvs⟩ := Mem.za1 ownS.row
  subst hvs
  have NS := hide ownS.items.2
  have HQ := hide hQ
  clear ownS hQ
  have hQl : Q.length = T.length := by have h := congrArg List.length (za HQ); rw [← za HTO] at h; simpa using h
  rw [hQl]
  refine hK.out _ _ ?_ (fun hHeld => ?_)
  ·exact za MK _ (hHeld.1.call bX)
  clear hK K
  try simp only [Act.put, kBs]
  refine wpAnyH_ready (rs := [3]) (by kernel_rfl) (by simp) ?_
  refine AllReadyH.cons rfl (fun K hK => ?_) AllReadyH.nil
  go_simp
  refine (za HLS sa sc Q _ (za HQ) hHeld.1.io (za NS)).mono ?_
  rintro e wX ⟨rfl, bX⟩
  refine hK.out _ _ ?_ (fun hHeld => ?_)
  ·exact za MK _ (hHeld.1.call bX)
  clear hK K
  try simp only [Act.put, kBs]
  clear NS HQ hQl
  refine tka (i := 4) rfl ?_
  try simp only [Act.put, kBs]
  refine tka (i := 5) rfl ?_
  try simp only [Act.put, kBs]
  refine tka (i := 7) rfl ?_
  try simp only [Act.put, kBs]
  refine tka (i := 8) rfl ?_
  try simp only [Act.put, kBs]
  refine tka (i := 9) rfl ?_
  try simp only [Act.put, kBs]
  refine wpAnyH_ready (rs := [6]) (by kernel_rfl) (by simp) ?_
  refine AllReadyH.cons rfl (fun K hK => ?_) AllReadyH.nil
  go_simp
  refine (za hci _ hHeld.1.bel hHeld.1.nv.items).mono ?_
  rintro e wX ⟨rfl, bX⟩
  refine hK.out _ _ ?_ (fun hHeld => ?_)
  ·exact za MK _ (hHeld.1.call bX)
  clear hK K
  try simp only [Act.put, kBs]
  refine tka (i := 10) rfl ?_
  try simp only [Act.put, kBs]
  refine tka (i := 11) rfl ?_
  try simp only [Act.put, kBs]
  refine tka (i := 12) rfl ?_
  try simp only [Act.put, kBs]
  refine wpAnyH_done (by kernel_rfl) ?_ _
  have G := hide hHeld.1
  clear hHeld
  go_wp2
  go_ret
  exact ⟨rfl, (za G).bel⟩
end fnFlatter
end Go.Proofs.YtfdbokipgofcdaaGreatDoor
