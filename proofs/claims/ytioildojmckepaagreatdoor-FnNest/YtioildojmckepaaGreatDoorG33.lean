/- Several texts of one claim in one file: WNestC, Jumps. -/
import Derived.Test.YtioildojmckepaaGreatDoorPlainNB
import Derived.Test.YtioildojmckepaaGreatDoorG32
import Derived.Scope
import Derived.ScopeJumps
namespace Go.Proofs.YtioildojmckepaaGreatDoor
open Go.RowKit
namespace zr6
theorem keep2 {w W W' : World} {X : Nat} {a b : Value} (h : Below w.heap.size w W ∧ W.cell? ⟨X, 0, none⟩ = some a ∧ W.cell? ⟨X, 1, none⟩ = some b) (hb : Below W.heap.size W W') :
  Below w.heap.size w W' ∧ W'.cell? ⟨X, 0, none⟩ = some a ∧ W'.cell? ⟨X, 1, none⟩ = some b := by
 have hX := World.block_lt_of_cell? W ⟨X, 0, none⟩ h.2.1
 exact ⟨h.1.trans (hb.mono h.1.size), (hb.cell (p := ⟨X, 0, none⟩) hX).trans h.2.1, (hb.cell (p := ⟨X, 1, none⟩) hX).trans h.2.2⟩
theorem keep2g {w W W' : World} {X : Nat} {r : Option Nat} {a b : Value} (h : Below w.heap.size w W ∧ W.cell? ⟨X, 0, none⟩ = some a ∧ W.cell? ⟨X, 1, none⟩ = some b) (hg : W.grownBy W' r) (hr : some X ≠ r) (hq : ∀ q, r = some q → w.heap.size ≤ q) :
  Below w.heap.size w W' ∧ W'.cell? ⟨X, 0, none⟩ = some a ∧ W'.cell? ⟨X, 1, none⟩ = some b :=
 ⟨h.1.grown hg h.1.size hq, hg.cell h.2.1 hr, hg.cell h.2.2 hr⟩
theorem zg3 (w : World) (a b : Value) (T : TypeId) : ∀ j u, [a, b][j]? = some u → (w.alloc (.cells #[a, b] T)).cell? ((⟨w.heap.size, 0, none⟩ : Addr).add j) = some u := by
 intro j u hj
 rw [Mem.add_lit]
 exact (Mem.ze w [a, b] T).2 j u hj
theorem parts_len (xs : List (Int × List Pl.Nd)) : (Pl.num xs.length :: xs.flatMap Pl.zc2).length = 1 + 2 * xs.length := by
 have : ∀ ys : List (Int × List Pl.Nd), (ys.flatMap Pl.zc2).length = 2 * ys.length := by
  intro ys
  induction ys with
  | nil => rfl
  | cons y ys ih => rw [List.flatMap_cons, List.length_append, ih]; simp [Pl.zc2]; omega
 rw [List.length_cons, this]; omega
theorem yb5 (xs : List (Int × List Pl.Nd)) (h12 : xs.length ≤ 12) (h : ∀ (i : Nat) x, xs[i]? = some x → 0 ≤ x.1 ∧ x.1 ≤ 4 ∧ Pl.zb1 x.2 = true) : Pl.tot (Pl.num xs.length :: xs.flatMap Pl.zc2) ≤ 1000000 := by
 have : ∀ ys : List (Int × List Pl.Nd), (∀ x ∈ ys, 0 ≤ x.1 ∧ x.1 ≤ 4 ∧ Pl.zb1 x.2 = true) → Pl.tot (ys.flatMap Pl.zc2) ≤ 9000 * ys.length := by
  intro ys
  induction ys with
  | nil => intro _; simp [Pl.tot]
  | cons y ys ih =>
   intro hy
   rw [List.flatMap_cons, Pl.tot_app]
   have h1 := hy y List.mem_cons_self
   have h2 := ih (fun x hx => hy x (List.mem_cons_of_mem _ hx))
   have a1 := Pl.zi8 (n := y.1) (by omega) (by omega)
   have a2 := Pl.ye7 h1.2.2
   have e : Pl.tot (Pl.zc2 y) = (Pl.num y.1).size + (zc6.put (Pl.zb4 y.2)).size := by simp [Pl.tot, Pl.zc2]
   simp only [List.length_cons]
   omega
 have h3 := this xs (fun x hx => by obtain ⟨i, hi⟩ := List.mem_iff_getElem?.1 hx; exact h i x hi)
 have h4 := Pl.zi8 (n := (xs.length : Int)) (by omega) (by omega)
 have e : Pl.tot (Pl.num xs.length :: xs.flatMap Pl.zc2) = (Pl.num xs.length).size + Pl.tot (xs.flatMap Pl.zc2) := by simp [Pl.tot]
 omega
set_option linter.unusedSimpArgs false in
set_option maxRecDepth 100000 in
set_option maxHeartbeats 2000000 in
theorem ze9 (a : Option Addr) (cap : Nat) (Is : List Pl.It) (w : World) (hl : Is.length ≤ 1048576) (hcap : Is.length ≤ cap) (hv : Mem.za7 w a Is) (hok : ∀ x ∈ Is, x.t.L.length ≤ 1048576 ∧ ∀ n ∈ x.t.L, n.path.size ≤ 1048576 ∧ n.data.size ≤ 1048576)
  (r0 r1 r2 r3 : TypeId) (x0 x1 x2 x3 : Value) (hE : zc0.zn1 w r0 r1 r2 r3 x0 x1 x2 x3) :
  Calls Tryz.prog 5 #[.slice a Is.length cap] w fun e w' => e = .returned (.string (Pl.zb3 (Is.map Pl.It.r))) ∧ Below w.heap.size w w' := by
 have hz := hide (zc0.ze6 a cap Is w hl hcap hv hok _ _ _ _ _ _ _ _ hE)
 cases hN : Pl.nest (Pl.rowO (Is.map Pl.It.r)) with
 | none =>
  rw [hN] at hz
  have e0 : Pl.zb3 (Is.map Pl.It.r) = ⟨#[]⟩ := by unfold Pl.zb3; rw [hN]; rfl
  rw [e0]
  clear hv hok hN e0 hE
  go_enter Tryz.func5, Tryz.ntmps5
  go_wp2_with fail
  refine (za hz).mono ?_
  rintro e w1 ⟨rfl, b1⟩
  clear hz
  go_wp2
  go_ret
  exact ⟨rfl, b1⟩
 | some kf =>
  rw [hN] at hz
  have h12 : Is.length ≤ 12 := by have := Pl.nest_12 hN; rwa [List.length_map] at this
  have HX := hide (fun (j : Nat) x (hx : Is[j]? = some x) => Pl.zp1 hN (i := j) (x := x.r) (by rw [List.getElem?_map, hx]; rfl))
  have HTOT := hide (yb5 (Is.map Pl.It.r) (by rw [List.length_map]; exact h12) (fun i x hx => Pl.zp1 hN hx))
  have e0 : Pl.zb3 (Is.map Pl.It.r) = if 8000 < (Pl.ze7 (Is.map Pl.It.r)).size then ⟨#[]⟩ else Pl.ze7 (Is.map Pl.It.r) := by unfold Pl.zb3; rw [hN]; rfl
  have E2 := hide e0
  generalize Pl.zb3 (Is.map Pl.It.r) = R at E2 ⊢
  have HV := hide hv
  have HOK := hide hok
  have HE := hide (fun W (b : Below w.heap.size w W) => (hE.call b).three)
  obtain ⟨i0, hi, hz0, hz1, hz2⟩ := info_parts zx4.infoS
  have hpn := hide (fun W => WNum.zq0 (Is.length : Int) W (by omega) (by omega))
  clear hv hok hN e0 hE
  go_enter Tryz.func5, Tryz.ntmps5
  go_wp2_with fail
  refine (za hz).mono ?_
  rintro e w1 ⟨rfl, b1⟩
  clear hz
  go_wp2_with fail
  refine (za hpn _).mono ?_
  rintro e w2 ⟨rfl, b3⟩
  have b4 := b1.trans (b3.mono b1.size)
  have own0 : (w2.alloc (.cells #[.string ⟨(Pl.enc (Pl.fold (Is.length : Int))).toArray⟩] 9)).ownsRow w.heap.size 9 1 (.slice (some ⟨w2.heap.size, 0, none⟩) 1 1) 1 [.string ⟨(Pl.enc (Pl.fold (Is.length : Int))).toArray⟩] :=
   ⟨rfl, .inr ⟨w2.heap.size, 1, _, rfl, b4.size, heap_alloc_new w2 _, Nat.le_refl _, by unfold maxLen; omega, rfl, rfl⟩⟩
  have OWN := hide own0
  have b5 : Below w.heap.size w (w2.alloc (.cells #[.string ⟨(Pl.enc (Pl.fold (Is.length : Int))).toArray⟩] 9)) := b4.alloc b4.size _
  clear own0 hpn b1 b3 b4
  go_wp2
  go_loopw [3, 15] (fun v i wr => ∃ k : Nat, k ≤ Is.length ∧ i = .int .i64 (k : Int) ∧ Below w.heap.size w wr ∧ Hid (wr.ownsRow w.heap.size 9 1 v (1 + 2 * k) ((Pl.num (Is.length : Int) :: ((Is.map Pl.It.r).take k).flatMap Pl.zc2).map Value.string))) (fun _ i _ => Is.length - (intOf i).toNat)
  case atStart => exact ⟨0, Nat.zero_le _, rfl, b5, OWN⟩
  case round =>
   obtain ⟨k, hk, rfl, hbel, HOWN⟩ := hrel
   by_cases hlt : k < Is.length
   ·obtain ⟨x, hx⟩ : ∃ x, Is[k]? = some x := ⟨_, List.getElem?_eq_getElem hlt⟩
    obtain ⟨⟨b, o, rfl, hb, q0, q0'⟩, q2⟩ := za HV k x hx
    have c0 := (hbel.cell (p := ⟨b, _, none⟩) hb).trans q0
    have c1 := (hbel.cell (p := ⟨b, _, none⟩) hb).trans q0'
    simp only [Pl.Tr.val] at c1
    have y1 : (k : Int) < (Is.length : Int) := by omega
    have y3 : (0 : Int) ≤ (k : Int) := by omega
    obtain ⟨hm0, hm4, htr⟩ := za HX k x hx
    have hokx := za HOK x (List.mem_of_getElem? hx)
    have HN := hide (show (Pl.num (Is.length : Int) :: ((Is.map Pl.It.r).take (k + 1)).flatMap Pl.zc2).map Value.string = (Pl.num (Is.length : Int) :: ((Is.map Pl.It.r).take k).flatMap Pl.zc2).map Value.string ++ (Pl.zc2 x.r).map Value.string by
     have hxr : (Is.map Pl.It.r)[k]? = some x.r := by rw [List.getElem?_map, hx]; rfl
     have h1 := (List.getElem?_eq_some_iff.1 hxr)
     rw [List.take_succ_eq_append_getElem h1.1, h1.2, List.flatMap_append]; simp)
    obtain ⟨m, ta, tcap, L⟩ := x
    simp only [Pl.It.r, Pl.zc2] at c0 c1 q2 hm0 hm4 htr hokx HN
    have hown0 := (za HOWN).alloc (.cells #[.int .i64 m, .slice ta L.length tcap] 38)
    have hvl := hide (za HOWN).lt
    have hsl := hbel.size
    have ebt : Pl.zd7 L = Pl.zb4 L := Pl.zl4 htr
    have zb := Pl.zl8 htr
    have ck := hide (fun W => WNum.zq0 m W (by omega) (by omega))
    have cb := hide (fun W (b : Below w.heap.size w W) => by
     have h' := zo6.ze9 ta tcap L W hokx.1 (Mem.za5 q2 b) hokx.2 _ _ _ _ _ _ (za HE W b)
     rw [ebt] at h'; exact h')
    have cp := hide (fun W => zc6.ze9 (Pl.zb4 L) W (by unfold maxLen; omega))
    change Hid (∀ W, Calls Tryz.prog _ _ W fun e w' => e = .returned (.string (Pl.num m)) ∧ _) at ck
    generalize zc6.put (Pl.zb4 L) = P1 at cp HN
    generalize Pl.zb4 L = Y1 at cp cb
    generalize Pl.num m = K1 at ck HN
    generalize (Pl.num (Is.length : Int) :: ((Is.map Pl.It.r).take k).flatMap Pl.zc2).map Value.string = XS at hown0 HN
    go_wp2_with fail
    have bw1 : Below wr.heap.size wr (wr.alloc (.cells #[.int .i64 m, .slice ta L.length tcap] 38)) := (Below.refl _ _).alloc (Nat.le_refl _) _
    have hsz : (wr.alloc (.cells #[.int .i64 m, .slice ta L.length tcap] 38)).heap.size = wr.heap.size + 1 := by simp
    generalize hW0 : wr.alloc (.cells #[.int .i64 m, .slice ta L.length tcap] 38) = W0
    rw [hW0] at bw1 hsz hown0
    have zn : Mem.Var W0 wr.heap.size [.int .i64 m, .slice ta L.length tcap] := hW0 ▸ Mem.ze wr [.int .i64 m, .slice ta L.length tcap] 38
    have bw0 : Below w.heap.size w W0 := hbel.trans (bw1.mono hbel.size)
    have own0 : W0.drew.ownsRow w.heap.size 9 1 u3 (1 + 2 * k) XS := hown0
    clear hW0 q0 q0' q2 hx hown0 HOWN htr hokx ebt zb c0 c1
    refine wp_region_held_drew (S := fun W' => Below w.heap.size w W' ∧ W'.cell? ⟨wr.heap.size, 0, none⟩ = some (.int .i64 m) ∧ W'.cell? ⟨wr.heap.size, 1, none⟩ = some (.slice ta L.length tcap)) (by kernel_rfl) ?_ (fun hHeld => ?_)
    ·exact ⟨⟨bw0.os, bw0.tape, bw0.output, bw0.size, bw0.block⟩, zn.2 0 _ rfl, zn.2 1 _ rfl⟩
    refine tka (i := 0) rfl ?_
    try simp only [Act.put, kBs]
    refine tka (i := 1) rfl ?_
    try simp only [Act.put, kBs]
    refine tka (i := 2) rfl ?_
    try simp only [Act.put, kBs]
    refine tka (i := 4) rfl ?_
    try simp only [Act.put, kBs]
    refine tka (i := 5) rfl ?_
    try simp only [Act.put, kBs]
    refine wpAnyH_ready (rs := [3]) (by kernel_rfl) (by simp) ?_
    refine AllReadyH.cons rfl (fun K hK => ?_) AllReadyH.nil
    go_simp
    refine (za ck _).mono ?_
    rintro e wX ⟨rfl, bX⟩
    have own1 := Mem.zk3 own0 bX
    clear own0
    refine hK.out _ _ ?_ (fun hHeld => ?_)
    ·exact keep2 hHeld bX
    clear hK K
    try simp only [Act.put, kBs]
    refine wpAnyH_ready (rs := [6]) (by kernel_rfl) (by simp) ?_
    refine AllReadyH.cons rfl (fun K hK => ?_) AllReadyH.nil
    go_simp
    refine (za cb _ hHeld.1).mono ?_
    rintro e wX ⟨rfl, bX⟩
    have own2 := Mem.zk3 own1 bX
    clear own1
    refine hK.out _ _ ?_ (fun hHeld => ?_)
    ·exact keep2 hHeld bX
    clear hK K
    try simp only [Act.put, kBs]
    refine wpAnyH_ready (rs := [7]) (by kernel_rfl) (by simp) ?_
    refine AllReadyH.cons rfl (fun K hK => ?_) AllReadyH.nil
    go_simp
    refine (za cp _).mono ?_
    rintro e wX ⟨rfl, bX⟩
    have own3 := Mem.zk3 own2 bX
    clear own2
    refine hK.out _ _ ?_ (fun hHeld => ?_)
    ·exact keep2 hHeld bX
    clear hK K
    try simp only [Act.put, kBs]
    refine wpAnyH_ready (rs := [8]) (by kernel_rfl) (by simp) ?_
    refine AllReadyH.cons rfl (fun K hK => ?_) AllReadyH.nil
    go_simp
    refine hK.out _ _ ?_ (fun hHeld => ?_)
    ·exact keep2 hHeld ((Below.refl _ _).alloc (Nat.le_refl _) _)
    clear hK K
    try simp only [Act.put, kBs]
    have own4 := own3.alloc (.cells #[.string K1, .string P1] 9)
    have hsz6 := hHeld.1.size
    refine wpAnyH_ready (rs := [9]) (by kernel_rfl) (by simp) ?_
    refine AllReadyH.cons rfl (fun K hK => ?_) AllReadyH.nil
    refine Mem.zd0 rfl _ _ 44 rfl w.heap.size 9 i0 (.string ⟨#[]⟩) 1 16 Tryz.underlying44 hi hz0 hz1 hz2 rfl (by decide) _ _ _ rfl own4 ⟨wX.heap.size, 0, none⟩ 2 2 [.string K1, .string P1] rfl rfl (zg3 _ _ _ _) (fun u hu => by simp at hu; rcases hu with rfl | rfl <;> rfl) (by unfold maxLen; omega) (by omega) hsz6 ?_
    intro v' wZ hownZ hgrow
    refine hK.out _ _ ?_ (fun hHeld => ?_)
    ·exact keep2g hHeld hgrow (fun e => by have := (za hvl _ e.symm).2; omega) (fun q hq => (za hvl q hq).1)
    clear hK K
    try simp only [Act.put, kBs]
    refine tka (i := 10) rfl ?_
    try simp only [Act.put, kBs]
    refine wpAnyH_done (by kernel_rfl) ?_ _
    have bfin := hide hHeld.1
    have OW := hide (show wZ.ownsRow w.heap.size 9 1 v' (1 + 2 * (k + 1)) ((Pl.num (Is.length : Int) :: ((Is.map Pl.It.r).take (k + 1)).flatMap Pl.zc2).map Value.string) by rw [za HN]; exact hownZ)
    clear hHeld hownZ hgrow own4 own3
    go_wp2
    go_roundw
    case rel => exact ⟨k + 1, by omega, by go_num, za bfin, OW⟩
    case measure => simp [intOf]; omega
   ·obtain rfl : k = Is.length := by omega
    have hln : (Is.map Pl.It.r).length = Is.length := List.length_map ..
    have EL : (Pl.num (Is.length : Int) :: ((Is.map Pl.It.r).take Is.length).flatMap Pl.zc2) = Pl.num ((Is.map Pl.It.r).length : Int) :: (Is.map Pl.It.r).flatMap Pl.zc2 := by rw [← hln, List.take_length]
    obtain ⟨PP, hPP⟩ : ∃ PP, PP = Pl.num ((Is.map Pl.It.r).length : Int) :: (Is.map Pl.It.r).flatMap Pl.zc2 := ⟨_, rfl⟩
    have hplen : PP.length = 1 + 2 * Is.length := by rw [hPP, parts_len, hln]
    have htot : Pl.tot PP ≤ 1000000 := by rw [hPP]; exact za HTOT
    have hY : (⟨(Pl.cat PP).toArray⟩ : ByteArray) = Pl.ze7 (Is.map Pl.It.r) := by rw [hPP]; rfl
    have HO2 : wr.ownsRow w.heap.size 9 1 u3 PP.length (PP.map Value.string) := by rw [hplen, hPP, ← EL]; exact za HOWN
    clear hPP EL hln HOWN
    rcases Mem.texts HO2 with ⟨-, hnil⟩ | ⟨g, cp, rfl, hcp, hm, hgb, hgl, hcell⟩
    ·rw [hnil] at hplen; simp at hplen; omega
    have hj := hide (WJoin.any g 0 cp PP wr (by omega) (by omega) (fun j t ht => by rw [Nat.zero_add]; exact hcell j t ht) hgl)
    rw [hY] at hj
    generalize Pl.ze7 (Is.map Pl.It.r) = Y at hj E2
    clear hcell HO2 hY hplen htot HTOT HX HV HOK HE
    go_wp2_with fail
    refine (za hj).mono ?_
    rintro e wJ ⟨rfl, bJ⟩
    have bfin := hbel.trans (bJ.mono hbel.size)
    clear hj bJ
    by_cases hy : 8000 < Y.size
    ·have E3 := hide (show R = ⟨#[]⟩ by rw [za E2, if_pos hy])
     clear E2
     go_wp2
     go_ret
     exact ⟨zd3 (za E3).symm, bfin⟩
    ·have E3 := hide (show R = Y by rw [za E2, if_neg hy])
     clear E2
     go_wp2
     go_ret
     exact ⟨zd3 (za E3).symm, bfin⟩
end zr6
end Go.Proofs.YtioildojmckepaaGreatDoor

namespace Go.Proofs.YtioildojmckepaaGreatDoor
def zq5 (J0 J1 J2 : Act → World → Prop) (Q : Exit → Act → World → Prop) : Exit → Act → World → Prop
 | .goto 0, a, w => J0 a w
 | .goto 1, a, w => J1 a w
 | .goto 2, a, w => J2 a w
 | .goto _, _, _ => False
 | e, a, w => Q e a w
def noWay : Act → World → Prop := fun _ _ => False

section
variable {P : Program} {a : Act} {w : World} {Q : Exit → Act → World → Prop}
theorem scope_many {c : Code} (rest : Nat → Code) (J : Nat → Act → World → Prop) (μ : Nat → Act → World → Nat) (hf : ∀ l a w, J l a w → findLabel c l = some (rest l))
  (first : c.wp P (fun e a w => match e with | .goto l => J l a w | e => Q e a w) a w)
  (pass : ∀ l a w, J l a w → (rest l).wp P (fun e a' w' => match e with | .goto l' => J l' a' w' ∧ μ l' a' w' < μ l a w | e => Q e a' w') a w) : (Code.scope c).wp P Q a w := by
 intro b k cs
 have key : ∀ n l a w, μ l a w = n → J l a w → ∃ e a' w', Q e a' w' ∧ Arrives P (lone (b.at a (.code (rest l) :: .inScope c :: k)) cs w) b k cs e a' w' := by
  intro n
  induction n using Nat.strongRecOn with
  | _ n ih =>
   intro l a w hn hJ
   obtain ⟨e, a₁, w₁, hq, harr⟩ := pass l a w hJ b (.inScope c :: k) cs
   cases e with
   | normal => exact ⟨.normal, a₁, w₁, hq, Steps.trans harr (.one step_inScope)⟩
   | exit id => exact ⟨.exit id, a₁, w₁, hq, fun k' hk => harr k' (by simp [exitTo, hk])⟩
   | goto l' =>
    obtain ⟨hJ', hlt⟩ := hq
    have hg : gotoIn l' (.inScope c :: k) = some (.code (rest l') :: .inScope c :: k) := by simp [gotoIn, hf l' a₁ w₁ hJ']
    obtain ⟨e₂, a₂, w₂, hq₂, harr₂⟩ := ih _ (by omega) l' a₁ w₁ rfl hJ'
    exact ⟨e₂, a₂, w₂, hq₂, .of_steps (harr _ hg) harr₂⟩
   | ret => exact ⟨_, a₁, w₁, hq, harr⟩
   | panic ch => exact ⟨_, a₁, w₁, hq, harr⟩
   | outgrown => exact ⟨_, a₁, w₁, hq, harr⟩
 obtain ⟨e, a₁, w₁, hq, harr⟩ := first b (.inScope c :: k) cs
 cases e with
 | normal => exact ⟨.normal, a₁, w₁, hq, .head step_scope (Steps.trans harr (.one step_inScope))⟩
 | exit id => exact ⟨.exit id, a₁, w₁, hq, fun k' hk => .head step_scope (harr k' (by simp [exitTo, hk]))⟩
 | goto l' =>
  have hg : gotoIn l' (.inScope c :: k) = some (.code (rest l') :: .inScope c :: k) := by simp [gotoIn, hf l' a₁ w₁ hq]
  obtain ⟨e₂, a₂, w₂, hq₂, harr₂⟩ := key _ l' a₁ w₁ rfl hq
  exact ⟨e₂, a₂, w₂, hq₂, .of_steps (.head step_scope (harr _ hg)) harr₂⟩
 | ret => exact ⟨_, a₁, w₁, hq, .of_steps (.one step_scope) harr⟩
 | panic ch => exact ⟨_, a₁, w₁, hq, .of_steps (.one step_scope) harr⟩
 | outgrown => exact ⟨_, a₁, w₁, hq, .of_steps (.one step_scope) harr⟩

theorem zr8 {c : Code} {Q1 Q2 : Exit → Act → World → Prop} (h : c.wp P Q1 a w) (hq : ∀ e a w, Q1 e a w → Q2 e a w) : c.wp P Q2 a w := by
 intro b k cs
 obtain ⟨e, a₁, w₁, h1, h2⟩ := h b k cs
 exact ⟨e, a₁, w₁, hq _ _ _ h1, h2⟩

theorem scope3 {c r0 r1 r2 : Code} (J0 J1 J2 : Act → World → Prop) (μ : Act → World → Nat) (f0 : findLabel c 0 = some r0) (f1 : findLabel c 1 = some (Code.skip.seq r1)) (f2 : findLabel c 2 = some r2)
  (first : (∀ a w, J1 a w → r1.wp P (zq5 J0 J1 J2 Q) a w) → c.wp P (zq5 J0 J1 J2 Q) a w)
  (p0 : ∀ a w, J0 a w → r0.wp P (zq5 noWay noWay noWay Q) a w)
  (p2 : ∀ a w, J2 a w → r2.wp P (zq5 J0 noWay noWay Q) a w)
  (p1 : ∀ a w, J1 a w → r1.wp P (zq5 J0 (fun a' w' => J1 a' w' ∧ μ a' w' < μ a w) J2 Q) a w) : (Code.scope c).wp P Q a w := by
 refine scope_many (fun l => match l with | 0 => r0 | 1 => Code.skip.seq r1 | _ => r2) (fun l => match l with | 0 => J0 | 1 => J1 | 2 => J2 | _ => noWay)
  (fun l a w => match l with | 0 => 0 | 1 => 2 + μ a w | _ => 1) ?_ ?_ ?_
 ·intro l a w hJ
  match l, hJ with
  | 0, _ => exact f0
  | 1, _ => exact f1
  | 2, _ => exact f2
  | l + 3, hJ => exact hJ.elim
 ·refine zr8 (first ?_) ?_
  ·intro a w hJ
   refine zr8 (p1 a w hJ) ?_
   intro e a w h
   match e, h with
   | .goto 0, h => exact h
   | .goto 1, h => exact h.1
   | .goto 2, h => exact h
   | .goto (l + 3), h => exact h.elim
   | .normal, h => exact h
   | .exit _, h => exact h
   | .ret, h => exact h
   | .panic _, h => exact h
   | .outgrown, h => exact h
  intro e a w h
  match e, h with
  | .goto 0, h => exact h
  | .goto 1, h => exact h
  | .goto 2, h => exact h
  | .goto (l + 3), h => exact h.elim
  | .normal, h => exact h
  | .exit _, h => exact h
  | .ret, h => exact h
  | .panic _, h => exact h
  | .outgrown, h => exact h
 ·intro l a w hJ
  match l, hJ with
  | 0, hJ =>
   refine zr8 (p0 a w hJ) ?_
   intro e a w h
   match e, h with
   | .goto 0, h => exact h.elim
   | .goto 1, h => exact h.elim
   | .goto 2, h => exact h.elim
   | .goto (l + 3), h => exact h.elim
   | .normal, h => exact h
   | .exit _, h => exact h
   | .ret, h => exact h
   | .panic _, h => exact h
   | .outgrown, h => exact h
  | 1, hJ =>
   refine zr8 (wp_seq (wp_skip (p1 a w hJ))) ?_
   intro e a w h
   match e, h with
   | .goto 0, h => exact ⟨h, by show 0 < 2 + _; omega⟩
   | .goto 1, h => exact ⟨h.1, Nat.add_lt_add_left h.2 2⟩
   | .goto 2, h => exact ⟨h, by show 1 < 2 + _; omega⟩
   | .goto (l + 3), h => exact h.elim
   | .normal, h => exact h
   | .exit _, h => exact h
   | .ret, h => exact h
   | .panic _, h => exact h
   | .outgrown, h => exact h
  | 2, hJ =>
   refine zr8 (p2 a w hJ) ?_
   intro e a w h
   match e, h with
   | .goto 0, h => exact ⟨h, by show 0 < 1; omega⟩
   | .goto 1, h => exact h.elim
   | .goto 2, h => exact h.elim
   | .goto (l + 3), h => exact h.elim
   | .normal, h => exact h
   | .exit _, h => exact h
   | .ret, h => exact h
   | .panic _, h => exact h
   | .outgrown, h => exact h
  | l + 3, hJ => exact hJ.elim
end
end Go.Proofs.YtioildojmckepaaGreatDoor

