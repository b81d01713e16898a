import Derived.Test.YtioildojmckepaaGreatDoorG24
import Derived.Test.YtioildojmckepaaGreatDoorG30
import Derived.Test.YtioildojmckepaaGreatDoorG33
import Derived.Test.YtioildojmckepaaGreatDoorG41
import Derived.Test.YtioildojmckepaaGreatDoorG43
import Derived.Test.YtioildojmckepaaGreatDoorG44
import Derived.Test.YtioildojmckepaaGreatDoorWLwNest
import Derived.Test.YtioildojmckepaaGreatDoorG46
import Derived.Test.YtioildojmckepaaGreatDoorMemMeet
import Derived.Laws.Cover1
namespace Go.Proofs.YtioildojmckepaaGreatDoor
open Go.RowKit
namespace fnNest
theorem row_up {w W : World} {S len cap : Nat} {a : Option Addr} (h : WSrc.RowB w w.heap.size a len cap) (b : Below w.heap.size w W) (hS : w.heap.size ≤ S) : WSrc.RowB W S a len cap :=
 ⟨h.1, h.2.1, fun i hi => by
  obtain ⟨g, o, n, h1, h2, h3, h4⟩ := h.2.2 i hi
  exact ⟨g, o, n, h1, Nat.lt_of_lt_of_le h2 hS, h3, (b.cell (p := ⟨g, o + i, none⟩) h2).trans h4⟩⟩
theorem zk0 {w w' : World} {a : Option Addr} {len cap : Nat} (h : WSrc.RowB w w.heap.size a len cap) (b : Below w.heap.size w w') : WSrc.RowB w' w'.heap.size a len cap := row_up h b b.size
structure Fk (w W : World) (X8 B : Nat) (va xa : Option Addr) (xc : Nat) (Is T : List Pl.It) (C : Int) : Prop where
 bel : Below w.heap.size w W
 b8 : Mem.Blk W X8 #[.slice xa T.length xc, .int .i64 C] 28
 nv : WSrc.zo9 W B va Is
 io : Mem.za7 W xa T
section
variable {w W W' : World} {X8 B : Nat} {va xa : Option Addr} {xc : Nat} {Is T : List Pl.It} {C : Int}
theorem Fk.call (h : Fk w W X8 B va xa xc Is T C) (b : Below W.heap.size W W') : Fk w W' X8 B va xa xc Is T C :=
 ⟨h.bel.trans (b.mono h.bel.size), h.b8.call b, h.nv.call b, Mem.zg h.io b⟩
theorem Fk.drew (h : Fk w W X8 B va xa xc Is T C) : Fk w W.drew X8 B va xa xc Is T C := h.call ⟨rfl, rfl, rfl, Nat.le_refl _, fun _ _ => rfl⟩
end
set_option linter.unusedSimpArgs false in
set_option maxRecDepth 100000 in
set_option maxHeartbeats 40000000 in
theorem walk (a0 : Option Addr) (len0 cap0 : Nat) (a1 : Option Addr) (len1 cap1 : Nat) (w : World) (w0 : WSrc.RowB w w.heap.size a0 len0 cap0) (w1 : WSrc.RowB w w.heap.size a1 len1 cap1) (r0 r1 r2 r3 : TypeId) (x0 x1 x2 x3 : Value) (hE : zc0.zn1 w r0 r1 r2 r3 x0 x1 x2 x3) :
  Calls Tryz.prog 3 #[.slice a0 len0 cap0, .slice a1 len1 cap1] w fun e w' => e = .returned (.bool true) ∧ Below w.heap.size w w' := by
 by_cases hL0 : (1048576 : Int) < (len0 : Int)
 ·clear w0 w1 hE
  go_enter Tryz.func3, Tryz.ntmps3
  go_wp2
  go_ret
  exact ⟨rfl, Below.refl _ _⟩
 by_cases hL1 : (1048576 : Int) < (len1 : Int)
 ·clear w0 w1 hE
  go_enter Tryz.func3, Tryz.ntmps3
  go_wp2
  go_ret
  exact ⟨rfl, Below.refl _ _⟩
 have hf1 : ∀ (a : Option Addr) (n c : Nat) (k : Int) (W : World), (Instr.field 28 (.agg #[.slice a n c, .int .i64 k]) 0).run Tryz.prog W = .ok (.slice a n c) W := fun _ _ _ _ _ => by kernel_rfl
 have HE := hide (fun W (b : Below w.heap.size w W) => hE.call b)
 have hd1 := hide (WSrc.yb7 a0 len0 cap0 w w0)
 have hd2 := hide (fun W (b : Below w.heap.size w W) => WSrc.yc5 a1 len1 cap1 W (zk0 w1 b))
 clear w0 w1 hE
 go_enter Tryz.func3, Tryz.ntmps3
 go_wp2_with fail
 refine (za hd1).mono ?_
 rintro e v1 ⟨va, vc, Is, hl, rfl, nv, own, b1⟩
 have OKT := hide nv.hok
 have hcap := zf5.own_cap own
 have hbi := hide (fun W (b : Below w.heap.size w W) (v : Mem.za7 W va Is) => zr6.ze9 va vc Is W (by omega) hcap v (za OKT) _ _ _ _ _ _ _ _ (za HE W b))
 have hbs := hide (fun W (v : Mem.za7 W va Is) => zr6.zb8 va vc Is W (by omega) v (za OKT))
 have hri := hide (fun W (b : Below w.heap.size w W) (v : Mem.za7 W va Is) => zc0.ze6 va vc Is W (by omega) hcap v (za OKT) _ _ _ _ _ _ _ _ (za HE W b))
 have hrsp := hide (fun W (v : Mem.za7 W va Is) => zh8.ze6 va vc Is W (by omega) v (za OKT))
 have hdi := hide (fun W (b : Below w.heap.size w W) (v : Mem.za7 W va Is) => zc0.zs2 va vc Is W (by omega) hcap v (za OKT) _ _ _ _ _ _ _ _ (za HE W b))
 have hds := hide (fun W (v : Mem.za7 W va Is) => zh8.zs2 va vc Is W (by omega) v (za OKT))
 have hli := hide (fun W (b : Below w.heap.size w W) (v : Mem.za7 W va Is) => zc0.leaves_face va vc Is W (by omega) hcap v (za OKT) _ _ _ _ _ _ _ _ (za HE W b))
 have hls := hide (fun W (v : Mem.za7 W va Is) => zh8.zy3 va vc Is W (by omega) v (za OKT))
 have hfi := hide (fun W (b : Below w.heap.size w W) (v : Mem.za7 W va Is) => zc0.first_face va vc Is W (by omega) hcap v (za OKT) _ _ _ _ _ _ _ _ (za HE W b))
 have hfs := hide (fun W (v : Mem.za7 W va Is) => zh8.zz7 va vc Is W (by omega) v (za OKT))
 have hvi := hide (fun W (b : Below w.heap.size w W) (v : Mem.za7 W va Is) => zc0.ye9 va vc Is W (by omega) hcap v (za OKT) _ _ _ _ _ _ _ _ (za HE W b))
 have hvs_ := hide (fun W (v : Mem.za7 W va Is) => zh8.yb1 va vc Is W (by omega) v (za OKT))
 have HLN := hide (fun sa sc (Q : List Pl.It) W (hQ : Q.map Pl.It.r = Is.map Pl.It.r) (h1 : Mem.za7 W sa Q) (h2 : Mem.za7 W va Is) => by
  have hq : Q.length = Is.length := by have h := congrArg List.length hQ; simpa using h
  have := WLw.zk4 sa va sc vc Q Is W (by omega) hQ.symm h1 h2 (fun t ht => by
   have : t.r ∈ Is.map Pl.It.r := by rw [← hQ]; exact List.mem_map.2 ⟨t, ht, rfl⟩
   obtain ⟨u, hu, e⟩ := List.mem_map.1 this
   have e2 : u.t.L = t.t.L := congrArg Prod.snd e
   rw [← e2]; exact (za OKT u hu).1)
  rw [hq] at this; exact this)
 have HFIN : Hid ((Pl.nest (Pl.rowO (Is.map Pl.It.r))).isSome = false ∨ ((Pl.nest (Pl.rowO (Is.map Pl.It.r))).isSome = true ∧ ∃ l : Nat, Pl.zp5 (Pl.nest (Pl.rowO (Is.map Pl.It.r))) = (l : Int) ∧ l < Is.length ∧ ∃ t, Is[l]? = some t ∧ t.m = 0 ∧ (l : Int) < Pl.depthO (Pl.nest (Pl.rowO (Is.map Pl.It.r))) ∧ 1 ≤ Pl.zx5 (Pl.nest (Pl.rowO (Is.map Pl.It.r))))) := hide (by
  cases hn : Pl.nest (Pl.rowO (Is.map Pl.It.r)) with
  | none => exact .inl rfl
  | some k =>
   obtain ⟨h1, ⟨L, h2⟩, h3, h4⟩ := Pl.first_is hn
   rw [List.length_map] at h1
   rw [List.getElem?_map] at h2
   cases ht : Is[k.level]? with
   | none => rw [ht] at h2; cases h2
   | some t =>
    rw [ht] at h2
    exact .inr ⟨rfl, k.level, rfl, h1, t, ht, congrArg Prod.fst (Option.some.inj h2), h3, h4⟩)
 have HBK := hide (Pl.nestRO_fwd (xs := Is.map Pl.It.r))
 generalize (Pl.nest (Pl.rowO (Is.map Pl.It.r))).isSome = RB at hri hrsp HFIN
 generalize Pl.depthO (Pl.nest (Pl.rowO (Is.map Pl.It.r))) = DD at hdi hds HFIN
 generalize Pl.zx5 (Pl.nest (Pl.rowO (Is.map Pl.It.r))) = LL at hli hls HFIN
 generalize Pl.zp5 (Pl.nest (Pl.rowO (Is.map Pl.It.r))) = KK at hfi hfs hvi hvs_ HFIN
 generalize Pl.zb3 (Is.map Pl.It.r) = S at hbi hbs HBK
 have NV := hide nv
 clear hd1 nv own hcap
 go_wp2_with fail
 refine (za hbi _ b1 (za NV).items).mono ?_
 rintro e v3 ⟨rfl, b3⟩
 have NV := hide ((za NV).call b3)
 have b4 := b1.trans (b3.mono b1.size)
 clear hbi b3 b1
 go_wp2_with fail
 refine (za hd2 _ b4).mono ?_
 rintro e v4 ⟨u, hu, rfl, b5⟩
 have NV := hide ((za NV).call b5)
 have b6 := b4.trans (b5.mono b4.size)
 have hni := hide (WNReadJ.ze9 u v4 _ _ _ _ _ _ _ _ (za HE _ b6))
 have hrs := hide (fun W => WNReadT.zb8 u W)
 have HRA := hide (Pl.yc1 (s := u))
 have HRO := hide (Pl.nestRO_ok u)
 generalize Pl.ze2 u = RO at hni hrs HRA HRO
 obtain ⟨RL, C⟩ := RO
 simp only at hni hrs HRA HRO
 clear hd2 b5 b4
 go_wp2_with fail
 refine (za hni).mono ?_
 rintro e v5 ⟨⟨vx, T, rfl, own5, hT0⟩, b7⟩
 obtain ⟨xa, xc, hvx⟩ := Mem.za3 own5.row
 subst hvx
 have hxc := zf5.own_cap own5.row
 have HTO := hide hT0
 have hTl : T.length ≤ 12 := by have h := congrArg List.length hT0; rw [List.length_map] at h; rw [h]; exact (za HRO).1
 have OKX : Hid (∀ x ∈ T, x.t.L.length ≤ 1048576 ∧ ∀ n ∈ x.t.L, n.path.size ≤ 1048576 ∧ n.data.size ≤ 1048576) := hide (fun x hx => Pl.treeB_ok ((za HRO).2 x.r (by rw [← hT0]; exact List.mem_map.2 ⟨x, hx, rfl⟩)))
 have b7' := b7.alloc b7.size (.cells #[.slice xa T.length xc, .int .i64 C] 28)
 have G : Hid (Fk w (v5.alloc (.cells #[.slice xa T.length xc, .int .i64 C] 28)) v5.heap.size w.heap.size va xa xc Is T C) :=
  ⟨b6.trans (b7'.mono b6.size), Mem.Blk.new _ _ _, (za NV).call b7', (own5.call ((Below.refl _ _).alloc (Nat.le_refl _) _)).items.2⟩
 have HRR : Hid (C = 0 → (Pl.nest (Pl.rowO (T.map Pl.It.r))).isSome = true) := hide (fun h => by rw [hT0]; exact (za HRA h).2)
 have HBR : Hid (C = 0 → Pl.zb3 (T.map Pl.It.r) = u) := hide (fun h => by rw [hT0]; exact (za HRA h).1)
 have HBX := hide (fun W (b : Below w.heap.size w W) (v : Mem.za7 W xa T) => zr6.ze9 xa xc T W (by omega) hxc v (za OKX) _ _ _ _ _ _ _ _ (za HE W b))
 have HLS := hide (fun sa sc (Q : List Pl.It) W (hQ : Q.map Pl.It.r = RL) (h1 : Mem.za7 W xa T) (h2 : Mem.za7 W sa Q) => WLw.nests_any xa sa xc sc C T Q W (by omega) (by rw [hQ, za HTO]) h1 h2 (za OKX) (za HRR))
 clear hni own5 b7 b7' b6 NV hT0 HRA HRO hxc
 go_wp2_with fail
 generalize v5.alloc (.cells #[.slice xa T.length xc, .int .i64 C] 28) = v6 at G ⊢
 generalize v5.heap.size = X8 at G ⊢
 generalize hB : w.heap.size = B at G
 clear hB
 have HTR := hide (fun W (b : Below w.heap.size w W) => WNReadJ.ze9 S W _ _ _ _ _ _ _ _ (za HE W b))
 have MK : Hid (∀ W', Fk w W' X8 B va xa xc Is T (C) → (fun W' => Fk w W' X8 B va xa xc Is T (C) ∧ W'.cell? ⟨X8, 0, none⟩ = some (.slice xa T.length xc) ∧ W'.cell? ⟨X8, 1, none⟩ = some (.int .i64 (C))) W') := fun W' h => ⟨h, h.b8.cell 0, h.b8.cell 1⟩
 refine wp_region_held_drew (S := fun W' => Fk w W' X8 B va xa xc Is T (C) ∧ W'.cell? ⟨X8, 0, none⟩ = some (.slice xa T.length xc) ∧ W'.cell? ⟨X8, 1, none⟩ = some (.int .i64 (C))) (by kernel_rfl) ?_ (fun hHeld => ?_)
 ·exact za MK _ (za G).drew
 clear G
 simp only [List.append_eq, List.cons_append, List.nil_append]
 refine tka (i := 0) rfl ?_
 try simp only [Act.put, kBs]
 refine tka (i := 1) rfl ?_
 try simp only [Act.put, kBs]
 refine wpAnyH_ready (rs := [2]) (by kernel_rfl) (by simp) ?_
 refine AllReadyH.cons rfl (fun K hK => ?_) AllReadyH.nil
 go_simp
 refine (za hbs _ hHeld.1.nv.items).mono ?_
 rintro e wX ⟨rfl, bX⟩
 refine hK.out _ _ ?_ (fun hHeld => ?_)
 ·exact za MK _ (hHeld.1.call bX)
 clear hK K
 try simp only [Act.put, kBs]
 refine tka (i := 3) rfl ?_
 try simp only [Act.put, kBs]
 refine tka (i := 4) rfl ?_
 try simp only [Act.put, kBs]
 refine tka (i := 5) rfl ?_
 try simp only [Act.put, kBs]
 apply wp_meet8 (fun v1 v2 v3 v4 v5 v6 v7 v8 => #[.slice a0 len0 cap0, .slice a1 len1 cap1, undef, undef, .bool false, .slice va Is.length vc, .string S, .string u, .pointer (some ⟨X8, 0, none⟩), undef, .slice a0 len0 cap0, .int .i64 (len0 : Int), .bool false, .bool false, .slice a1 len1 cap1, .int .i64 (len1 : Int), .bool false, .bool false, .slice a0 len0 cap0, .slice va Is.length vc, .slice va Is.length vc, .string S, .slice a1 len1 cap1, .string u, .string u, .agg #[.slice xa T.length xc, .int .i64 C], .string S, .slice va Is.length vc, .string S, .bool false, .bool false, .string S, v1, v2, v3, v4, v5, v6, v7, v8, .bool false, .bool false, undef, undef, undef, undef, undef, undef, undef, undef, undef, undef, undef, undef, undef, undef, undef, undef, undef, undef, undef, undef, undef, undef, undef, undef, undef, undef, undef, undef, undef, undef, undef, undef, undef, undef, undef, undef, undef, undef, undef, undef, undef, undef, undef, undef, undef, undef, undef, undef, undef, undef, undef, undef, undef, undef, undef, undef, undef, undef, undef, undef, undef, undef, undef, undef, undef, undef, undef, undef, undef, undef, undef, undef, undef, undef, undef, undef, undef, undef, undef, undef, undef, undef, undef, undef, undef, undef, undef, undef, undef])
 ·intro hEnd
  by_cases hT : S.size = 0
  ·have ht1 : S.toList.isEmpty = true := by rw [Pl.zc5]; simpa [Pl.zg2] using hT
   refine tka (i := 6) rfl ?_
   try simp only [Act.put, kBs]
   refine tka (i := 7) rfl ?_
   try simp only [Act.put, kBs]
   refine tkc (i := 8) rfl ?_
   try simp only [Act.put, kBs]
   refine tkc (i := 11) rfl ?_
   try simp only [Act.put, kBs]
   refine tkc (i := 9) rfl ?_
   try simp only [Act.put, kBs]
   refine tkc (i := 10) rfl ?_
   try simp only [Act.put, kBs]
   refine tkc (i := 12) rfl ?_
   try simp only [Act.put, kBs]
   refine tkc (i := 13) rfl ?_
   try simp only [Act.put, kBs]
   refine tka (i := 14) rfl ?_
   try simp only [Act.put, kBs]
   refine tka (i := 15) rfl ?_
   try simp only [Act.put, kBs]
   exact hEnd _ _ _ _ _ _ _ _ _ hHeld
  ·have hTe : S.toList.isEmpty = false := by rw [Pl.zc5]; exact decide_eq_false (fun h => by rw [Pl.zg2] at h; omega)
   have eB := hide (za HBK (fun h => hT (by rw [h]; rfl)))
   rw [za eB] at HTR
   simp only at HTR
   refine tka (i := 6) rfl ?_
   try simp only [Act.put, kBs]
   refine tka (i := 7) rfl ?_
   try simp only [Act.put, kBs]
   refine tka (i := 8) rfl ?_
   try simp only [Act.put, kBs]
   refine tka (i := 11) rfl ?_
   try simp only [Act.put, kBs]
   refine wpAnyH_ready (rs := [9]) (by kernel_rfl) (by simp) ?_
   refine AllReadyH.cons rfl (fun K hK => ?_) AllReadyH.nil
   go_simp
   refine (za HTR _ hHeld.1.bel).mono ?_
   rintro e wX ⟨⟨vs, Q, rfl, ownS, hQ⟩, bX⟩
   obtain ⟨sa, sc, hvs⟩ := Mem.za3 ownS.row
   subst hvs
   have NS := hide ownS.items.2
   have HQ := hide hQ
   clear ownS hQ
   have hQl : Q.length = Is.length := by have h := congrArg List.length (za HQ); simpa using h
   rw [hQl]
   refine hK.out _ _ ?_ (fun hHeld => ?_)
   ·exact za MK _ (hHeld.1.call bX)
   clear hK K
   try simp only [Act.put, kBs]
   refine tka (i := 10) rfl ?_
   try simp only [Act.put, kBs]
   refine wpAnyH_ready (rs := [12]) (by kernel_rfl) (by simp) ?_
   refine AllReadyH.cons rfl (fun K hK => ?_) AllReadyH.nil
   go_simp
   refine (za HLN sa sc Q _ (za HQ) (za NS) hHeld.1.nv.items).mono ?_
   rintro e wX ⟨rfl, bX⟩
   refine hK.out _ _ ?_ (fun hHeld => ?_)
   ·exact za MK _ (hHeld.1.call bX)
   clear hK K
   try simp only [Act.put, kBs]
   clear NS HQ hQl
   refine tka (i := 13) rfl ?_
   try simp only [Act.put, kBs]
   refine tka (i := 14) rfl ?_
   try simp only [Act.put, kBs]
   refine tka (i := 15) rfl ?_
   try simp only [Act.put, kBs]
   exact hEnd _ _ _ _ _ _ _ _ _ hHeld
 ·intro wM v1 v2 v3 v4 v5 v6 v7 v8 hHeld
  clear HTR HBK hbs HLN
  refine tka (i := 16) rfl ?_
  try simp only [Act.put, kBs]
  refine tka (i := 17) rfl ?_
  try simp only [Act.put, kBs]
  refine tka (i := 18) rfl ?_
  try simp only [Act.put, kBs]
  refine wpAnyH_ready (rs := [19]) (by kernel_rfl) (by simp) ?_
  refine AllReadyH.cons rfl (fun K hK => ?_) AllReadyH.nil
  go_simp
  refine (za hrs _).mono ?_
  rintro e wX ⟨⟨vs, Q, rfl, ownS, hQ⟩, bX⟩
  obtain ⟨sa, sc, hvs⟩ := Mem.za3 ownS.row
  subst hvs
  have NS := hide ownS.items.2
  have HQ := hide hQ
  clear ownS hQ
  have hQl : Q.length = T.length := by have h := congrArg List.length (za HQ); rw [← za HTO] at h; simpa using h
  rw [hQl]
  refine hK.out _ _ ?_ (fun hHeld => ?_)
  ·exact za MK _ (hHeld.1.call bX)
  clear hK K
  try simp only [Act.put, kBs]
  refine wpAnyH_ready (rs := [20]) (by kernel_rfl) (by simp) ?_
  refine AllReadyH.cons rfl (fun K hK => ?_) AllReadyH.nil
  go_simp
  refine (za HLS sa sc Q _ (za HQ) hHeld.1.io (za NS)).mono ?_
  rintro e wX ⟨rfl, bX⟩
  refine hK.out _ _ ?_ (fun hHeld => ?_)
  ·exact za MK _ (hHeld.1.call bX)
  clear hK K
  try simp only [Act.put, kBs]
  clear NS HQ hQl
  refine tka (i := 21) rfl ?_
  try simp only [Act.put, kBs]
  refine tka (i := 22) rfl ?_
  try simp only [Act.put, kBs]
  refine tka (i := 23) rfl ?_
  try simp only [Act.put, kBs]
  refine tka (i := 24) rfl ?_
  try simp only [Act.put, kBs]
  refine tka (i := 25) rfl ?_
  try simp only [Act.put, kBs]
  apply wp_meet8 (fun y1 y2 y3 y4 y5 y6 y7 y8 => #[.slice a0 len0 cap0, .slice a1 len1 cap1, undef, undef, .bool false, .slice va Is.length vc, .string S, .string u, .pointer (some ⟨X8, 0, none⟩), undef, .slice a0 len0 cap0, .int .i64 (len0 : Int), .bool false, .bool false, .slice a1 len1 cap1, .int .i64 (len1 : Int), .bool false, .bool false, .slice a0 len0 cap0, .slice va Is.length vc, .slice va Is.length vc, .string S, .slice a1 len1 cap1, .string u, .string u, .agg #[.slice xa T.length xc, .int .i64 C], .string S, .slice va Is.length vc, .string S, .bool false, .bool false, .string S, v1, v2, v3, v4, v5, v6, v7, v8, .bool false, .bool false, .bool false, .agg #[.slice xa T.length xc, .int .i64 C], .string u, .agg #[.slice sa T.length sc, .int .i64 C], .bool true, .bool false, .bool false, .bool false, .pointer (some ⟨X8, 1, none⟩), .int .i64 C, y1, y2, y3, y4, y5, y6, y7, .bool false, .bool false, undef, undef, undef, undef, undef, undef, undef, undef, undef, undef, undef, undef, undef, undef, undef, undef, undef, undef, undef, undef, undef, undef, undef, undef, undef, undef, undef, undef, undef, undef, undef, undef, undef, undef, undef, undef, undef, undef, undef, undef, undef, undef, undef, undef, undef, undef, undef, undef, undef, undef, undef, undef, undef, undef, undef, undef, undef, undef, undef, undef, undef, undef, undef, undef, undef, undef, undef, undef, undef, undef])
  ·intro hEnd2
   by_cases hR : C = 0
   ·have hRb : (C == 0) = true := by simpa using hR
    have eX := hide (za HBR hR)
    rw [za eX] at HBX
    refine tka (i := 26) rfl ?_
    try simp only [Act.put, kBs]
    refine tka (i := 27) rfl ?_
    try simp only [Act.put, kBs]
    refine tka (i := 28) rfl ?_
    try simp only [Act.put, kBs]
    refine tka (i := 29) rfl ?_
    try simp only [Act.put, kBs]
    refine tka (i := 31) rfl ?_
    try simp only [Act.put, kBs]
    refine wpAnyH_ready (rs := [30]) (by kernel_rfl) (by simp) ?_
    refine AllReadyH.cons rfl (fun K hK => ?_) AllReadyH.nil
    go_simp
    refine (za HBX _ hHeld.1.bel hHeld.1.io).mono ?_
    rintro e wX ⟨rfl, bX⟩
    refine hK.out _ _ ?_ (fun hHeld => ?_)
    ·exact za MK _ (hHeld.1.call bX)
    clear hK K
    try simp only [Act.put, kBs]
    refine tka (i := 32) rfl ?_
    try simp only [Act.put, kBs]
    refine tka (i := 33) rfl ?_
    try simp only [Act.put, kBs]
    refine tka (i := 34) rfl ?_
    try simp only [Act.put, kBs]
    simp only [hR] at hEnd2 hHeld ⊢
    exact hEnd2 _ _ _ _ _ _ _ _ undef hHeld
   ·have hRb : (C == 0) = false := by simpa using hR
    refine tka (i := 26) rfl ?_
    try simp only [Act.put, kBs]
    refine tka (i := 27) rfl ?_
    try simp only [Act.put, kBs]
    refine tkc (i := 28) rfl ?_
    try simp only [Act.put, kBs]
    refine tkc (i := 29) rfl ?_
    try simp only [Act.put, kBs]
    refine tkc (i := 31) rfl ?_
    try simp only [Act.put, kBs]
    refine tkc (i := 30) rfl ?_
    try simp only [Act.put, kBs]
    refine tkc (i := 32) rfl ?_
    try simp only [Act.put, kBs]
    refine tka (i := 33) rfl ?_
    try simp only [Act.put, kBs]
    refine tka (i := 34) rfl ?_
    try simp only [Act.put, kBs]
    exact hEnd2 _ _ _ _ _ _ _ _ undef hHeld
  ·intro wN y1 y2 y3 y4 y5 y6 y7 y8 hHeld
   clear HLS hrs HBX HBR
   refine tka (i := 35) rfl ?_
   try simp only [Act.put, kBs]
   refine tka (i := 36) rfl ?_
   try simp only [Act.put, kBs]
   refine tka (i := 38) rfl ?_
   try simp only [Act.put, kBs]
   refine wpAnyH_ready (rs := [37]) (by kernel_rfl) (by simp) ?_
   refine AllReadyH.cons rfl (fun K hK => ?_) AllReadyH.nil
   go_simp
   refine (za hri _ hHeld.1.bel hHeld.1.nv.items).mono ?_
   rintro e wX ⟨rfl, bX⟩
   refine hK.out _ _ ?_ (fun hHeld => ?_)
   ·exact za MK _ (hHeld.1.call bX)
   clear hK K
   try simp only [Act.put, kBs]
   refine wpAnyH_ready (rs := [39]) (by kernel_rfl) (by simp) ?_
   refine AllReadyH.cons rfl (fun K hK => ?_) AllReadyH.nil
   go_simp
   refine (za hrsp _ hHeld.1.nv.items).mono ?_
   rintro e wX ⟨rfl, bX⟩
   refine hK.out _ _ ?_ (fun hHeld => ?_)
   ·exact za MK _ (hHeld.1.call bX)
   clear hK K
   try simp only [Act.put, kBs]
   refine tka (i := 40) rfl ?_
   try simp only [Act.put, kBs]
   refine tka (i := 41) rfl ?_
   try simp only [Act.put, kBs]
   refine tka (i := 42) rfl ?_
   try simp only [Act.put, kBs]
   refine tka (i := 43) rfl ?_
   try simp only [Act.put, kBs]
   refine tka (i := 45) rfl ?_
   try simp only [Act.put, kBs]
   refine wpAnyH_ready (rs := [44]) (by kernel_rfl) (by simp) ?_
   refine AllReadyH.cons rfl (fun K hK => ?_) AllReadyH.nil
   go_simp
   refine (za hdi _ hHeld.1.bel hHeld.1.nv.items).mono ?_
   rintro e wX ⟨rfl, bX⟩
   refine hK.out _ _ ?_ (fun hHeld => ?_)
   ·exact za MK _ (hHeld.1.call bX)
   clear hK K
   try simp only [Act.put, kBs]
   refine wpAnyH_ready (rs := [46]) (by kernel_rfl) (by simp) ?_
   refine AllReadyH.cons rfl (fun K hK => ?_) AllReadyH.nil
   go_simp
   refine (za hds _ hHeld.1.nv.items).mono ?_
   rintro e wX ⟨rfl, bX⟩
   refine hK.out _ _ ?_ (fun hHeld => ?_)
   ·exact za MK _ (hHeld.1.call bX)
   clear hK K
   try simp only [Act.put, kBs]
   refine tka (i := 47) rfl ?_
   try simp only [Act.put, kBs]
   refine tka (i := 48) rfl ?_
   try simp only [Act.put, kBs]
   refine tka (i := 49) rfl ?_
   try simp only [Act.put, kBs]
   refine tka (i := 50) rfl ?_
   try simp only [Act.put, kBs]
   refine tka (i := 52) rfl ?_
   try simp only [Act.put, kBs]
   refine wpAnyH_ready (rs := [51]) (by kernel_rfl) (by simp) ?_
   refine AllReadyH.cons rfl (fun K hK => ?_) AllReadyH.nil
   go_simp
   refine (za hli _ hHeld.1.bel hHeld.1.nv.items).mono ?_
   rintro e wX ⟨rfl, bX⟩
   refine hK.out _ _ ?_ (fun hHeld => ?_)
   ·exact za MK _ (hHeld.1.call bX)
   clear hK K
   try simp only [Act.put, kBs]
   refine wpAnyH_ready (rs := [53]) (by kernel_rfl) (by simp) ?_
   refine AllReadyH.cons rfl (fun K hK => ?_) AllReadyH.nil
   go_simp
   refine (za hls _ hHeld.1.nv.items).mono ?_
   rintro e wX ⟨rfl, bX⟩
   refine hK.out _ _ ?_ (fun hHeld => ?_)
   ·exact za MK _ (hHeld.1.call bX)
   clear hK K
   try simp only [Act.put, kBs]
   refine tka (i := 54) rfl ?_
   try simp only [Act.put, kBs]
   refine tka (i := 55) rfl ?_
   try simp only [Act.put, kBs]
   refine tka (i := 56) rfl ?_
   try simp only [Act.put, kBs]
   refine tka (i := 57) rfl ?_
   try simp only [Act.put, kBs]
   refine tka (i := 59) rfl ?_
   try simp only [Act.put, kBs]
   refine wpAnyH_ready (rs := [58]) (by kernel_rfl) (by simp) ?_
   refine AllReadyH.cons rfl (fun K hK => ?_) AllReadyH.nil
   go_simp
   refine (za hfi _ hHeld.1.bel hHeld.1.nv.items).mono ?_
   rintro e wX ⟨rfl, bX⟩
   refine hK.out _ _ ?_ (fun hHeld => ?_)
   ·exact za MK _ (hHeld.1.call bX)
   clear hK K
   try simp only [Act.put, kBs]
   refine wpAnyH_ready (rs := [60]) (by kernel_rfl) (by simp) ?_
   refine AllReadyH.cons rfl (fun K hK => ?_) AllReadyH.nil
   go_simp
   refine (za hfs _ hHeld.1.nv.items).mono ?_
   rintro e wX ⟨rfl, bX⟩
   refine hK.out _ _ ?_ (fun hHeld => ?_)
   ·exact za MK _ (hHeld.1.call bX)
   clear hK K
   try simp only [Act.put, kBs]
   refine tka (i := 61) rfl ?_
   try simp only [Act.put, kBs]
   refine tka (i := 62) rfl ?_
   try simp only [Act.put, kBs]
   refine tka (i := 63) rfl ?_
   try simp only [Act.put, kBs]
   refine tka (i := 64) rfl ?_
   try simp only [Act.put, kBs]
   refine tka (i := 66) rfl ?_
   try simp only [Act.put, kBs]
   refine wpAnyH_ready (rs := [65]) (by kernel_rfl) (by simp) ?_
   refine AllReadyH.cons rfl (fun K hK => ?_) AllReadyH.nil
   go_simp
   refine (za hvi _ hHeld.1.bel hHeld.1.nv.items).mono ?_
   rintro e wX ⟨rfl, bX⟩
   refine hK.out _ _ ?_ (fun hHeld => ?_)
   ·exact za MK _ (hHeld.1.call bX)
   clear hK K
   try simp only [Act.put, kBs]
   refine wpAnyH_ready (rs := [67]) (by kernel_rfl) (by simp) ?_
   refine AllReadyH.cons rfl (fun K hK => ?_) AllReadyH.nil
   go_simp
   refine (za hvs_ _ hHeld.1.nv.items).mono ?_
   rintro e wX ⟨rfl, bX⟩
   refine hK.out _ _ ?_ (fun hHeld => ?_)
   ·exact za MK _ (hHeld.1.call bX)
   clear hK K
   try simp only [Act.put, kBs]
   refine tka (i := 68) rfl ?_
   try simp only [Act.put, kBs]
   refine tka (i := 69) rfl ?_
   try simp only [Act.put, kBs]
   refine wpAnyH_done (by kernel_rfl) ?_ _
   have G := hide hHeld.1
   clear hHeld
   clear MK
   go_wp2_with fail
   refine (za hfi _ (za G).bel (za G).nv.items).mono ?_
   rintro e u1 ⟨rfl, bX⟩
   have G := hide ((za G).call bX)
   clear bX
   go_wp2_with fail
   refine (za hrsp _ (za G).nv.items).mono ?_
   rintro e u2 ⟨rfl, bX⟩
   have G := hide ((za G).call bX)
   clear bX
   rcases za HFIN with rfl | ⟨rfl, l, rfl, hl1, t, ht, htm, hl2, hl3⟩
   ·go_wp2
    go_ret
    exact ⟨rfl, (za G).bel⟩
   ·obtain ⟨⟨g, o, rfl, hg, q0, -⟩, -⟩ := (za G).nv.items l t ht
    rw [htm] at q0
    have y1 : (l : Int) < (Is.length : Int) := by omega
    have y3 : (0 : Int) ≤ (l : Int) := by omega
    clear ht htm hl1
    go_wp2_with fail
    refine (za hvi _ (za G).bel (za G).nv.items).mono ?_
    rintro e u3 ⟨rfl, bX⟩
    have G := hide ((za G).call bX)
    clear bX q0
    go_wp2_with fail
    refine (za hdi _ (za G).bel (za G).nv.items).mono ?_
    rintro e u4 ⟨rfl, bX⟩
    have G := hide ((za G).call bX)
    clear bX
    go_wp2_with fail
    refine (za hli _ (za G).bel (za G).nv.items).mono ?_
    rintro e u5 ⟨rfl, bX⟩
    have G := hide ((za G).call bX)
    clear bX
    go_wp2
    go_ret
    exact ⟨rfl, (za G).bel⟩
end fnNest
end Go.Proofs.YtioildojmckepaaGreatDoor
