/- The walk of the program's NestBytes. -/
import Derived.Test.YtkfpfckmjgjanacDoorPlainNB
import Derived.Test.YtkfpfckmjgjanacDoorG31
namespace Go.Proofs.YtkfpfckmjgjanacDoor
open Go.RowKit
namespace WNestB
theorem keep2 {w W W' : World} {X : Nat} {a b : Value} (h : Below w.heap.size w W ∧ W.cell? ⟨X, 0, none⟩ = some a ∧ W.cell? ⟨X, 1, none⟩ = some b) (hb : Below W.heap.size W W') :
    Below w.heap.size w W' ∧ W'.cell? ⟨X, 0, none⟩ = some a ∧ W'.cell? ⟨X, 1, none⟩ = some b := by
  have hX := World.block_lt_of_cell? W ⟨X, 0, none⟩ h.2.1
  exact ⟨h.1.trans (hb.mono h.1.size), (hb.cell (p := ⟨X, 0, none⟩) hX).trans h.2.1, (hb.cell (p := ⟨X, 1, none⟩) hX).trans h.2.2⟩
theorem keep2g {w W W' : World} {X : Nat} {r : Option Nat} {a b : Value} (h : Below w.heap.size w W ∧ W.cell? ⟨X, 0, none⟩ = some a ∧ W.cell? ⟨X, 1, none⟩ = some b) (hg : W.grownBy W' r) (hr : some X ≠ r) (hq : ∀ q, r = some q → w.heap.size ≤ q) :
    Below w.heap.size w W' ∧ W'.cell? ⟨X, 0, none⟩ = some a ∧ W'.cell? ⟨X, 1, none⟩ = some b :=
  ⟨h.1.grown hg h.1.size hq, hg.cell h.2.1 hr, hg.cell h.2.2 hr⟩
theorem two_new (w : World) (a b : Value) (T : TypeId) : ∀ j u, [a, b][j]? = some u → (w.alloc (.cells #[a, b] T)).cell? ((⟨w.heap.size, 0, none⟩ : Addr).add j) = some u := by
  intro j u hj
  rw [Mem.add_lit]
  exact (Mem.var_new w [a, b] T).2 j u hj
theorem parts_len (xs : List (Int × List Pl.Nd)) : (Pl.num xs.length :: xs.flatMap Pl.itemP).length = 1 + 2 * xs.length := by
  have : ∀ ys : List (Int × List Pl.Nd), (ys.flatMap Pl.itemP).length = 2 * ys.length := by
    intro ys
    induction ys with
    | nil => rfl
    | cons y ys ih => rw [List.flatMap_cons, List.length_append, ih]; simp [Pl.itemP]; omega
  rw [List.length_cons, this]; omega
theorem parts_tot (xs : List (Int × List Pl.Nd)) (h12 : xs.length ≤ 12) (h : ∀ (i : Nat) x, xs[i]? = some x → 0 ≤ x.1 ∧ x.1 ≤ 4 ∧ Pl.treeB x.2 = true) : Pl.tot (Pl.num xs.length :: xs.flatMap Pl.itemP) ≤ 1000000 := by
  have : ∀ ys : List (Int × List Pl.Nd), (∀ x ∈ ys, 0 ≤ x.1 ∧ x.1 ≤ 4 ∧ Pl.treeB x.2 = true) → Pl.tot (ys.flatMap Pl.itemP) ≤ 9000 * ys.length := by
    intro ys
    induction ys with
    | nil => intro _; simp [Pl.tot]
    | cons y ys ih =>
      intro hy
      rw [List.flatMap_cons, Pl.tot_app]
      have h1 := hy y List.mem_cons_self
      have h2 := ih (fun x hx => hy x (List.mem_cons_of_mem _ hx))
      have a1 := Pl.num_size (n := y.1) (by omega) (by omega)
      have a2 := Pl.put_bytesT h1.2.2
      have e : Pl.tot (Pl.itemP y) = (Pl.num y.1).size + (WText.put (Pl.bytesT y.2)).size := by simp [Pl.tot, Pl.itemP]
      simp only [List.length_cons]
      omega
  have h3 := this xs (fun x hx => by obtain ⟨i, hi⟩ := List.mem_iff_getElem?.1 hx; exact h i x hi)
  have h4 := Pl.num_size (n := (xs.length : Int)) (by omega) (by omega)
  have e : Pl.tot (Pl.num xs.length :: xs.flatMap Pl.itemP) = (Pl.num xs.length).size + Pl.tot (xs.flatMap Pl.itemP) := by simp [Pl.tot]
  omega
set_option linter.unusedSimpArgs false in
set_option maxRecDepth 100000 in
set_option maxHeartbeats 2000000 in
theorem impl_any (a : Option Addr) (cap : Nat) (Is : List Pl.It) (w : World) (hl : Is.length ≤ 1048576) (hcap : Is.length ≤ cap) (hv : Mem.isItems w a Is) (hok : ∀ x ∈ Is, x.t.L.length ≤ 1048576 ∧ ∀ n ∈ x.t.L, n.path.size ≤ 1048576 ∧ n.data.size ≤ 1048576)
    (r0 r1 r2 r3 : TypeId) (x0 x1 x2 x3 : Value) (hE : WNestI.Errs4 w r0 r1 r2 r3 x0 x1 x2 x3) :
    Calls Tryd.prog 7 #[.slice a Is.length cap] w fun e w' => e = .returned (.string (Pl.nestBytes (Is.map Pl.It.r))) ∧ Below w.heap.size w w' := by
  have hz := hide (WNestI.right_any a cap Is w hl hcap hv hok _ _ _ _ _ _ _ _ hE)
  cases hN : Pl.nest (Pl.rowO (Is.map Pl.It.r)) with
  | none =>
    rw [hN] at hz
    have e0 : Pl.nestBytes (Is.map Pl.It.r) = ⟨#[]⟩ := by unfold Pl.nestBytes; rw [hN]; rfl
    rw [e0]
    clear hv hok hN e0 hE
    go_enter Tryd.func7, Tryd.ntmps7
    go_wp2_with fail
    refine (unhide hz).mono ?_
    rintro e w1 ⟨rfl, b1⟩
    clear hz
    go_wp2
    go_ret
    exact ⟨rfl, b1⟩
  | some kf =>
    rw [hN] at hz
    have h12 : Is.length ≤ 12 := by have := Pl.nest_12 hN; rwa [List.length_map] at this
    have HX := hide (fun (j : Nat) x (hx : Is[j]? = some x) => Pl.nest_items hN (i := j) (x := x.r) (by rw [List.getElem?_map, hx]; rfl))
    have HTOT := hide (parts_tot (Is.map Pl.It.r) (by rw [List.length_map]; exact h12) (fun i x hx => Pl.nest_items hN hx))
    have e0 : Pl.nestBytes (Is.map Pl.It.r) = if 8000 < (Pl.bytesN (Is.map Pl.It.r)).size then ⟨#[]⟩ else Pl.bytesN (Is.map Pl.It.r) := by unfold Pl.nestBytes; rw [hN]; rfl
    have E2 := hide e0
    generalize Pl.nestBytes (Is.map Pl.It.r) = R at E2 ⊢
    have HV := hide hv
    have HOK := hide hok
    have HE := hide (fun W (b : Below w.heap.size w W) => (hE.call b).three)
    obtain ⟨i0, hi, hz0, hz1, hz2⟩ := info_parts WWords.infoS
    have hpn := hide (fun W => WNum.implPut (Is.length : Int) W (by omega) (by omega))
    clear hv hok hN e0 hE
    go_enter Tryd.func7, Tryd.ntmps7
    go_wp2_with fail
    refine (unhide hz).mono ?_
    rintro e w1 ⟨rfl, b1⟩
    clear hz
    go_wp2_with fail
    refine (unhide hpn _).mono ?_
    rintro e w2 ⟨rfl, b3⟩
    have b4 := b1.trans (b3.mono b1.size)
    have own0 : (w2.alloc (.cells #[.string ⟨(Pl.enc (Pl.fold (Is.length : Int))).toArray⟩] 9)).ownsRow w.heap.size 9 1 (.slice (some ⟨w2.heap.size, 0, none⟩) 1 1) 1 [.string ⟨(Pl.enc (Pl.fold (Is.length : Int))).toArray⟩] :=
      ⟨rfl, .inr ⟨w2.heap.size, 1, _, rfl, b4.size, heap_alloc_new w2 _, Nat.le_refl _, by unfold maxLen; omega, rfl, rfl⟩⟩
    have OWN := hide own0
    have b5 : Below w.heap.size w (w2.alloc (.cells #[.string ⟨(Pl.enc (Pl.fold (Is.length : Int))).toArray⟩] 9)) := b4.alloc b4.size _
    clear own0 hpn b1 b3 b4
    go_wp2
    go_loopw [3, 15] (fun v i wr => ∃ k : Nat, k ≤ Is.length ∧ i = .int .i64 (k : Int) ∧ Below w.heap.size w wr ∧ Hid (wr.ownsRow w.heap.size 9 1 v (1 + 2 * k) ((Pl.num (Is.length : Int) :: ((Is.map Pl.It.r).take k).flatMap Pl.itemP).map Value.string))) (fun _ i _ => Is.length - (intOf i).toNat)
    case atStart => exact ⟨0, Nat.zero_le _, rfl, b5, OWN⟩
    case round =>
      obtain ⟨k, hk, rfl, hbel, HOWN⟩ := hrel
      by_cases hlt : k < Is.length
      · obtain ⟨x, hx⟩ : ∃ x, Is[k]? = some x := ⟨_, List.getElem?_eq_getElem hlt⟩
        obtain ⟨⟨b, o, rfl, hb, q0, q0'⟩, q2⟩ := unhide HV k x hx
        have c0 := (hbel.cell (p := ⟨b, _, none⟩) hb).trans q0
        have c1 := (hbel.cell (p := ⟨b, _, none⟩) hb).trans q0'
        simp only [Pl.Tr.val] at c1
        have y1 : (k : Int) < (Is.length : Int) := by omega
        have y3 : (0 : Int) ≤ (k : Int) := by omega
        obtain ⟨hm0, hm4, htr⟩ := unhide HX k x hx
        have hokx := unhide HOK x (List.mem_of_getElem? hx)
        have HN := hide (show (Pl.num (Is.length : Int) :: ((Is.map Pl.It.r).take (k + 1)).flatMap Pl.itemP).map Value.string = (Pl.num (Is.length : Int) :: ((Is.map Pl.It.r).take k).flatMap Pl.itemP).map Value.string ++ (Pl.itemP x.r).map Value.string by
          have hxr : (Is.map Pl.It.r)[k]? = some x.r := by rw [List.getElem?_map, hx]; rfl
          have h1 := (List.getElem?_eq_some_iff.1 hxr)
          rw [List.take_succ_eq_append_getElem h1.1, h1.2, List.flatMap_append]; simp)
        obtain ⟨m, ta, tcap, L⟩ := x
        simp only [Pl.It.r, Pl.itemP] at c0 c1 q2 hm0 hm4 htr hokx HN
        have hown0 := (unhide HOWN).alloc (.cells #[.int .i64 m, .slice ta L.length tcap] 40)
        have hvl := hide (unhide HOWN).lt
        have hsl := hbel.size
        have ebt : Pl.treeBytes L = Pl.bytesT L := Pl.treeBytes_right htr
        have zb := Pl.bytesT_small htr
        have ck := hide (fun W => WNum.implPut m W (by omega) (by omega))
        have cb := hide (fun W (b : Below w.heap.size w W) => by
          have h' := WBytesT.impl_any ta tcap L W hokx.1 (Mem.nodes_call q2 b) hokx.2 _ _ _ _ _ _ (unhide HE W b)
          rw [ebt] at h'; exact h')
        have cp := hide (fun W => WText.impl_any (Pl.bytesT L) W (by unfold maxLen; omega))
        change Hid (∀ W, Calls Tryd.prog _ _ W fun e w' => e = .returned (.string (Pl.num m)) ∧ _) at ck
        generalize WText.put (Pl.bytesT L) = P1 at cp HN
        generalize Pl.bytesT L = Y1 at cp cb
        generalize Pl.num m = K1 at ck HN
        generalize (Pl.num (Is.length : Int) :: ((Is.map Pl.It.r).take k).flatMap Pl.itemP).map Value.string = XS at hown0 HN
        go_wp2_with fail
        have bw1 : Below wr.heap.size wr (wr.alloc (.cells #[.int .i64 m, .slice ta L.length tcap] 40)) := (Below.refl _ _).alloc (Nat.le_refl _) _
        have hsz : (wr.alloc (.cells #[.int .i64 m, .slice ta L.length tcap] 40)).heap.size = wr.heap.size + 1 := by simp
        generalize hW0 : wr.alloc (.cells #[.int .i64 m, .slice ta L.length tcap] 40) = W0
        rw [hW0] at bw1 hsz hown0
        have zn : Mem.Var W0 wr.heap.size [.int .i64 m, .slice ta L.length tcap] := hW0 ▸ Mem.var_new wr [.int .i64 m, .slice ta L.length tcap] 40
        have bw0 : Below w.heap.size w W0 := hbel.trans (bw1.mono hbel.size)
        have own0 : W0.drew.ownsRow w.heap.size 9 1 u3 (1 + 2 * k) XS := hown0
        clear hW0 q0 q0' q2 hx hown0 HOWN htr hokx ebt zb c0 c1
        refine wp_region_held_drew (S := fun W' => Below w.heap.size w W' ∧ W'.cell? ⟨wr.heap.size, 0, none⟩ = some (.int .i64 m) ∧ W'.cell? ⟨wr.heap.size, 1, none⟩ = some (.slice ta L.length tcap)) (by kernel_rfl) ?_ (fun hHeld => ?_)
        · exact ⟨⟨bw0.os, bw0.tape, bw0.output, bw0.size, bw0.block⟩, zn.2 0 _ rfl, zn.2 1 _ rfl⟩
        refine wpAnyH_take (i := 0) (v := ?_) rfl (by kernel_rfl) (by kernel_rfl) (by kernel_rfl) (fun _ _ _ h => h) (Or.inl ⟨by rfl, ?_⟩) (by assumption) ?_
        rotate_left
        · (intro w hSw; (try dsimp only at hSw); go_simp; (try with_reducible rfl))
        try simp only [Act.put, kB0, kB1, kB2, kB3, kB4, kB5]
        refine wpAnyH_take (i := 1) (v := ?_) rfl (by kernel_rfl) (by kernel_rfl) (by kernel_rfl) (fun _ _ _ h => h) (Or.inl ⟨by rfl, ?_⟩) (by assumption) ?_
        rotate_left
        · (intro w hSw; (try dsimp only at hSw); go_simp; (try with_reducible rfl))
        try simp only [Act.put, kB0, kB1, kB2, kB3, kB4, kB5]
        refine wpAnyH_take (i := 2) (v := ?_) rfl (by kernel_rfl) (by kernel_rfl) (by kernel_rfl) (fun _ _ _ h => h) (Or.inl ⟨by rfl, ?_⟩) (by assumption) ?_
        rotate_left
        · (intro w hSw; (try dsimp only at hSw); go_simp; (try with_reducible rfl))
        try simp only [Act.put, kB0, kB1, kB2, kB3, kB4, kB5]
        refine wpAnyH_take (i := 4) (v := ?_) rfl (by kernel_rfl) (by kernel_rfl) (by kernel_rfl) (fun _ _ _ h => h) (Or.inl ⟨by rfl, ?_⟩) (by assumption) ?_
        rotate_left
        · (intro w hSw; (try dsimp only at hSw); go_simp; (try with_reducible rfl))
        try simp only [Act.put, kB0, kB1, kB2, kB3, kB4, kB5]
        refine wpAnyH_take (i := 5) (v := ?_) rfl (by kernel_rfl) (by kernel_rfl) (by kernel_rfl) (fun _ _ _ h => h) (Or.inl ⟨by rfl, ?_⟩) (by assumption) ?_
        rotate_left
        · (intro w hSw; (try dsimp only at hSw); go_simp; (try with_reducible rfl))
        try simp only [Act.put, kB0, kB1, kB2, kB3, kB4, kB5]
        refine wpAnyH_ready (rs := [3]) (by kernel_rfl) (by simp) ?_
        refine AllReadyH.cons rfl (fun K hK => ?_) AllReadyH.nil
        go_simp
        refine (unhide ck _).mono ?_
        rintro e wX ⟨rfl, bX⟩
        have own1 := Mem.own_call own0 bX
        clear own0
        refine hK.out _ _ ?_ (fun hHeld => ?_)
        · exact keep2 hHeld bX
        clear hK K
        try simp only [Act.put, kB0, kB1, kB2, kB3, kB4, kB5]
        refine wpAnyH_ready (rs := [6]) (by kernel_rfl) (by simp) ?_
        refine AllReadyH.cons rfl (fun K hK => ?_) AllReadyH.nil
        go_simp
        refine (unhide cb _ hHeld.1).mono ?_
        rintro e wX ⟨rfl, bX⟩
        have own2 := Mem.own_call own1 bX
        clear own1
        refine hK.out _ _ ?_ (fun hHeld => ?_)
        · exact keep2 hHeld bX
        clear hK K
        try simp only [Act.put, kB0, kB1, kB2, kB3, kB4, kB5]
        refine wpAnyH_ready (rs := [7]) (by kernel_rfl) (by simp) ?_
        refine AllReadyH.cons rfl (fun K hK => ?_) AllReadyH.nil
        go_simp
        refine (unhide cp _).mono ?_
        rintro e wX ⟨rfl, bX⟩
        have own3 := Mem.own_call own2 bX
        clear own2
        refine hK.out _ _ ?_ (fun hHeld => ?_)
        · exact keep2 hHeld bX
        clear hK K
        try simp only [Act.put, kB0, kB1, kB2, kB3, kB4, kB5]
        refine wpAnyH_ready (rs := [8]) (by kernel_rfl) (by simp) ?_
        refine AllReadyH.cons rfl (fun K hK => ?_) AllReadyH.nil
        go_simp
        refine hK.out _ _ ?_ (fun hHeld => ?_)
        · exact keep2 hHeld ((Below.refl _ _).alloc (Nat.le_refl _) _)
        clear hK K
        try simp only [Act.put, kB0, kB1, kB2, kB3, kB4, kB5]
        have own4 := own3.alloc (.cells #[.string K1, .string P1] 9)
        have hsz6 := hHeld.1.size
        refine wpAnyH_ready (rs := [9]) (by kernel_rfl) (by simp) ?_
        refine AllReadyH.cons rfl (fun K hK => ?_) AllReadyH.nil
        refine Mem.step_append_own rfl _ _ 43 rfl w.heap.size 9 i0 (.string ⟨#[]⟩) 1 16 Tryd.underlying43 hi hz0 hz1 hz2 rfl (by decide) _ _ _ rfl own4 ⟨wX.heap.size, 0, none⟩ 2 2 [.string K1, .string P1] rfl rfl (two_new _ _ _ _) (fun u hu => by simp at hu; rcases hu with rfl | rfl <;> rfl) (by unfold maxLen; omega) (by omega) hsz6 ?_
        intro v' wZ hownZ hgrow
        refine hK.out _ _ ?_ (fun hHeld => ?_)
        · exact keep2g hHeld hgrow (fun e => by have := (unhide hvl _ e.symm).2; omega) (fun q hq => (unhide hvl q hq).1)
        clear hK K
        try simp only [Act.put, kB0, kB1, kB2, kB3, kB4, kB5]
        refine wpAnyH_take (i := 10) (v := ?_) rfl (by kernel_rfl) (by kernel_rfl) (by kernel_rfl) (fun _ _ _ h => h) (Or.inl ⟨by rfl, ?_⟩) (by assumption) ?_
        rotate_left
        · (intro w hSw; (try dsimp only at hSw); go_simp; (try with_reducible rfl))
        try simp only [Act.put, kB0, kB1, kB2, kB3, kB4, kB5]
        refine wpAnyH_done (by kernel_rfl) ?_ _
        have bfin := hide hHeld.1
        have OW := hide (show wZ.ownsRow w.heap.size 9 1 v' (1 + 2 * (k + 1)) ((Pl.num (Is.length : Int) :: ((Is.map Pl.It.r).take (k + 1)).flatMap Pl.itemP).map Value.string) by rw [unhide HN]; exact hownZ)
        clear hHeld hownZ hgrow own4 own3
        go_wp2
        go_roundw
        case rel => exact ⟨k + 1, by omega, by go_num, unhide bfin, OW⟩
        case measure => simp [intOf]; omega
      · obtain rfl : k = Is.length := by omega
        have hln : (Is.map Pl.It.r).length = Is.length := List.length_map ..
        have EL : (Pl.num (Is.length : Int) :: ((Is.map Pl.It.r).take Is.length).flatMap Pl.itemP) = Pl.num ((Is.map Pl.It.r).length : Int) :: (Is.map Pl.It.r).flatMap Pl.itemP := by rw [← hln, List.take_length]
        obtain ⟨PP, hPP⟩ : ∃ PP, PP = Pl.num ((Is.map Pl.It.r).length : Int) :: (Is.map Pl.It.r).flatMap Pl.itemP := ⟨_, rfl⟩
        have hplen : PP.length = 1 + 2 * Is.length := by rw [hPP, parts_len, hln]
        have htot : Pl.tot PP ≤ 1000000 := by rw [hPP]; exact unhide HTOT
        have hY : (⟨(Pl.cat PP).toArray⟩ : ByteArray) = Pl.bytesN (Is.map Pl.It.r) := by rw [hPP]; rfl
        have HO2 : wr.ownsRow w.heap.size 9 1 u3 PP.length (PP.map Value.string) := by rw [hplen, hPP, ← EL]; exact unhide HOWN
        clear hPP EL hln HOWN
        rcases Mem.texts HO2 with ⟨-, hnil⟩ | ⟨g, cp, rfl, hcp, hm, hgb, hgl, hcell⟩
        · rw [hnil] at hplen; simp at hplen; omega
        have hj := hide (WJoin.any g 0 cp PP wr (by omega) (by omega) (fun j t ht => by rw [Nat.zero_add]; exact hcell j t ht) hgl)
        rw [hY] at hj
        generalize Pl.bytesN (Is.map Pl.It.r) = Y at hj E2
        clear hcell HO2 hY hplen htot HTOT HX HV HOK HE
        go_wp2_with fail
        refine (unhide hj).mono ?_
        rintro e wJ ⟨rfl, bJ⟩
        have bfin := hbel.trans (bJ.mono hbel.size)
        clear hj bJ
        by_cases hy : 8000 < Y.size
        · have E3 := hide (show R = ⟨#[]⟩ by rw [unhide E2, if_pos hy])
          clear E2
          go_wp2
          go_ret
          exact ⟨ret_string (unhide E3).symm, bfin⟩
        · have E3 := hide (show R = Y by rw [unhide E2, if_neg hy])
          clear E2
          go_wp2
          go_ret
          exact ⟨ret_string (unhide E3).symm, bfin⟩
end WNestB
end Go.Proofs.YtkfpfckmjgjanacDoor
