/- Several texts of one claim in one file: WDrawLy, WSource, WDrawRw. -/
import Derived.Test.YtmohbgmbknfaiaaGreatDoorG23
import Derived.Deep.Cut
import Derived.Test.YtmohbgmbknfaiaaGreatDoorG03
import Derived.Test.YtmohbgmbknfaiaaGreatDoorWDrawTr
/- The draw of layers (by genLy.py). -/
namespace Go.Proofs.YtmohbgmbknfaiaaGreatDoor
open Go.RowKit
namespace Mem
theorem step_append_far {P : Program} {ops : Array Oper} {o : Oper} {a : Act} {w : World} {K : Act → World → Prop} {Q : Exit → Act → World → Prop} {E : Prop}
    (hg : o.guard = none) (s x : Operand) (t : TypeId) (hop : o.op = Op.call { callee := Callee.builtin Builtin.append, args := #[s, x], argTypes := #[t, t] })
    (base : Nat) (e : TypeId) (i : TypeInfo) (z : Value) (size bytes : Nat) (h1 : P.underlying t = some (.slice e)) (h2 : P.info? e = some i) (h3 : i.zero = some z) (h4 : i.size = size) (h5 : i.bytes = bytes) (h6 : z.cells.size = size) (h7 : 0 < size)
    (v : Value) (n : Nat) (xs : List Value) (hs : a.eval s = v) (hown : w.ownsRow base e size v n xs)
    (ad : Addr) (m c : Nat) (news : List Value) (hx : a.eval x = .slice (some ad) m c) (hn : news.length = m * size) (hc : ∀ j u, news[j]? = some u → w.cell? (ad.add j) = some u) (h1c : ∀ u ∈ news, u.oneCell' = true)
    (b1 : n + m ≤ maxLen) (b2 : (n + m) * bytes ≤ 140737488355328) (hbase : base ≤ w.heap.size)
    (hK : ∀ v' w', w'.ownsRow base e size v' (n + m) (xs ++ news) → w.grownBy w' v.ownBlock → (∀ g, v'.ownBlock = some g → v.ownBlock = some g ∨ w.heap.size ≤ g) → K (a.put o.dst v') w') :
    if Region.wanted o (yielded ops a.tmps) = true then Oper.wp P o a w K Q else E := by
  have hw : Region.wanted o (yielded ops a.tmps) = true := by simp [Region.wanted, hg]
  rw [if_pos hw]
  obtain ⟨v', w', hrun, r1, r2, r3⟩ := run_append_far (P := P) w base t o.type e i z size bytes h1 h2 h3 h4 h5 h6 h7 v n xs hown ad m c news hn hc h1c b1 b2 hbase
  unfold Oper.wp
  simp [execOp, hop, resolve, invoke, builtin, hs, hx, hrun, Result.andThen]
  exact hK v' w' r1 r2 r3
end Mem
namespace WSrc
def lenAt (W : World) (X : Nat) : Nat := match W.cell? ⟨X, 0, none⟩ with | some (.slice _ n _) => n | _ => 0
theorem infoT : (Tryz.prog.info? 29).map (fun i => (i.zero, i.size, i.bytes)) = some (some (.agg #[.slice none 0 0]), 1, 24) := by kernel_rfl
set_option linter.unusedSimpArgs false in
set_option maxRecDepth 100000 in
set_option maxHeartbeats 4000000 in
theorem layers_any (S : Nat) (a : Option Addr) (len cap : Nat) (w : World) (hs : Src w S a len cap) :
    Calls Tryz.prog 32 #[.pointer (some ⟨S, 0, none⟩)] w fun e w' => ∃ (va : Option Addr) (vc : Nat) (Ts : List Pl.Tr), Ts.length ≤ 5 ∧ e = .returned (.agg #[.slice va Ts.length vc]) ∧ LayV w' w.heap.size va Ts ∧ Src w' S a len cap ∧ w.grownBy w' (some S) := by
  obtain ⟨i0, hi, hz0, hz1, hz2'⟩ := info_parts infoT
  have hS := src_lt hs
  have K0 : Hid (Lk w ((w.alloc (.cells #[.slice none 0 0] 25)).alloc (.cells #[.slice none 0 0] 25)) S a len cap (.slice none 0 0) []) :=
    ⟨hS, src_alloc (src_alloc hs _) _, (World.grownBy_alloc w _ (some S)).trans (World.grownBy_alloc _ _ (some S)), (Mem.Blk.new w _ _).alloc _, Mem.new_two _ _ _, ⟨rfl, .inl ⟨rfl, rfl⟩⟩, fun t ht => by cases ht⟩
  clear hs
  go_enter Tryz.func32, Tryz.ntmps32
  go_wp2_with fail
  generalize (w.alloc (.cells #[.slice none 0 0] 25)).alloc (.cells #[.slice none 0 0] 25) = w0 at K0 ⊢
  refine (n_any S a len cap 3 _ (unhide K0).src (by omega)).mono ?_
  rintro e w1 ⟨r, rfl, r0, r1, s1, g1⟩
  obtain ⟨c, rfl⟩ : ∃ c : Nat, r = (c : Int) := ⟨r.toNat, by omega⟩
  have hc : c ≤ 2 := by omega
  have K1 := hide ((unhide K0).call s1 g1)
  clear K0 s1 g1 r0 r1
  go_wp2
  go_loopw [4] (fun k wr => ∃ (kk : Nat) (v : Value) (Ts : List Pl.Tr), k = .int .i64 (kk : Int) ∧ Ts.length + kk ≤ 3 ∧ Hid (Lk w wr S a len cap v Ts)) (fun k _ => (intOf k).toNat)
  case atStart => exact ⟨1 + c, _, [], by go_num, by simp; omega, K1⟩
  case round =>
    obtain ⟨kk, v, Ts, rfl, hk, KK⟩ := hrel
    clear K1 hc
    obtain ⟨va, vc, rfl⟩ := Mem.own_shape (unhide KK).own
    by_cases hpos : (0 : Int) < (kk : Int)
    · go_wp2_with fail
      refine wp_region_held_drew (S := fun _ => True) (by kernel_rfl) ?_ (fun hHeld => ?_)
      · exact trivial
      have KD := hide (unhide KK).drew
      clear KK
      generalize wr.drew = WD at KD ⊢
      refine wpAnyH_take (i := 0) (v := ?_) rfl (by kernel_rfl) (by kernel_rfl) (by kernel_rfl) (fun _ _ _ h => h) (Or.inl ⟨by rfl, ?_⟩) (by assumption) ?_
      rotate_left
      · (intro w hSw; (try dsimp only at hSw); go_simp; (try with_reducible rfl))
      try simp only [Act.put, kB0, kB1, kB2, kB3, kB4, kB5]
      refine wpAnyH_take (i := 2) (v := ?_) rfl (by kernel_rfl) (by kernel_rfl) (by kernel_rfl) (fun _ _ _ h => h) (Or.inl ⟨by rfl, ?_⟩) (by assumption) ?_
      rotate_left
      · (intro w hSw; (try dsimp only at hSw); go_simp; (try with_reducible rfl))
      try simp only [Act.put, kB0, kB1, kB2, kB3, kB4, kB5]
      have t0 := (unhide KD).one.cell 0
      simp only [kA0, kA1] at t0
      refine wpAnyH_ready (rs := [1, 3]) (by kernel_rfl) (by simp) ?_
      refine AllReadyH.cons rfl (fun K hK => ?_) (AllReadyH.cons rfl (fun K hK => ?_) AllReadyH.nil)
      · go_simp
        refine hK.out _ _ trivial (fun hHeld => ?_)
        clear hK K
        try simp only [Act.put, kB0, kB1, kB2, kB3, kB4, kB5]
        clear t0
        refine wpAnyH_ready (rs := [3]) (by kernel_rfl) (by simp) ?_
        refine AllReadyH.cons rfl (fun K hK => ?_) AllReadyH.nil
        go_simp
        refine (tree_any S a len cap _ (unhide KD).src).mono ?_
        rintro e w3 ⟨ta, tc, tL, tl64, tsm, rfl, tv, s3, g3⟩
        have KE := hide ((unhide KD).call s3 g3)
        have DT : Hid (Dt w3 (w.heap.size + 2) (.slice va Ts.length vc) ⟨ta, tc, tL⟩) := ⟨tv.mono (unhide KD).lt, tl64, tsm, fun g o e e2 => by have h1 := tv.2.2 g o e; have h2 := (World.ownsRow.lt (unhide KD).own g e2).2; omega⟩
        refine hK.out _ _ trivial (fun hHeld => ?_)
        clear hK K
        try simp only [Act.put, kB0, kB1, kB2, kB3, kB4, kB5]
        clear s3 g3 tv tl64 tsm
        refine wpAnyH_ready (rs := [4]) (by kernel_rfl) (by simp) ?_
        refine AllReadyH.cons rfl (fun K hK => ?_) AllReadyH.nil
        go_simp
        refine hK.out _ _ trivial (fun hHeld => ?_)
        clear hK K
        try simp only [Act.put, kB0, kB1, kB2, kB3, kB4, kB5]
        have KF := hide ((unhide KE).alloc (.cells #[.slice ta tL.length tc] 29))
        have DT4 : Hid (Dt (w3.alloc (.cells #[.slice ta tL.length tc] 29)) (w.heap.size + 2) (.slice va Ts.length vc) ⟨ta, tc, tL⟩) := ⟨(unhide DT).tree.alloc _, (unhide DT).len, (unhide DT).ok, (unhide DT).apart⟩
        clear KD KE DT
        refine wpAnyH_ready (rs := [5]) (by kernel_rfl) (by simp) ?_
        refine AllReadyH.cons rfl (fun K hK => ?_) AllReadyH.nil
        refine Mem.step_append_far rfl _ _ 23 rfl (w.heap.size + 2) 29 i0 _ 1 24 Tryz.underlying23 hi hz0 hz1 hz2' rfl (by decide) _ _ _ rfl (unhide KF).own ⟨w3.heap.size, 0, none⟩ 1 1 [.slice ta tL.length tc] rfl rfl (Mem.one_new _ _ _) (fun u hu => by simp at hu; subst hu; rfl) (by unfold maxLen; omega) (by omega) (unhide KF).lt ?_
        intro v' wZ hownZ hgrow0 hfar0
        have hgrow : (w3.alloc (.cells #[.slice ta tL.length tc] 29)).grownBy wZ (Value.slice va Ts.length vc).ownBlock := hgrow0
        have hown2 : rowT wZ (w.heap.size + 2) v' (Ts ++ [⟨ta, tc, tL⟩]) := by
          show World.ownsRow _ _ _ _ _ _ _
          rw [List.map_append, List.length_append]
          exact hownZ
        obtain ⟨v'a, v'c, rfl⟩ := Mem.own_shape hown2
        have KZ := hide ((unhide KF).app hgrow hown2 hfar0 (unhide DT4))
        simp only [List.length_append, List.length_singleton] at KZ
        have z0 : wZ.cell? ⟨w.heap.size + 1, 0, none⟩ = some (.slice va Ts.length vc) := hgrow.cell (a := ⟨w.heap.size + 1, 0, none⟩) (by have h := (unhide KF).one.cell 0; simpa using h) (fun e => by have h1 : w.heap.size + 2 ≤ w.heap.size + 1 := (World.ownsRow.lt (unhide KF).own _ e.symm).1; omega)
        have zf : wZ.frozen? ⟨w.heap.size + 1, 0, none⟩ = false := ((unhide KF).one.grown hgrow (fun e => by have h1 : w.heap.size + 2 ≤ w.heap.size + 1 := (World.ownsRow.lt (unhide KF).own _ e.symm).1; omega)).fr 0
        refine hK.out _ _ trivial (fun hHeld => ?_)
        clear hK K
        try simp only [Act.put, kB0, kB1, kB2, kB3, kB4, kB5]
        clear hgrow hgrow0 hownZ hown2 hfar0 KF DT4
        refine wpAnyH_take (i := 6) (v := ?_) rfl (by kernel_rfl) (by kernel_rfl) (by kernel_rfl) (fun _ _ _ h => h) (Or.inl ⟨by rfl, ?_⟩) (by assumption) ?_
        rotate_left
        · (intro w hSw; (try dsimp only at hSw); go_simp; (try with_reducible rfl))
        try simp only [Act.put, kB0, kB1, kB2, kB3, kB4, kB5]
        refine wpAnyH_ready (rs := [7]) (by kernel_rfl) (by simp) ?_
        refine AllReadyH.cons rfl (fun K hK => ?_) AllReadyH.nil
        go_simp
        refine hK.out _ _ trivial (fun hHeld => ?_)
        clear hK K
        try simp only [Act.put, kB0, kB1, kB2, kB3, kB4, kB5]
        refine wpAnyH_done (by kernel_rfl) ?_ _
        clear z0 zf
        go_wp2
        go_roundw
        case rel => exact ⟨kk - 1, _, _, by go_num, by rw [List.length_append, List.length_singleton]; omega, KZ⟩
        case measure => simp [intOf]; omega
      · clear t0
        go_simp
        refine (tree_any S a len cap _ (unhide KD).src).mono ?_
        rintro e w3 ⟨ta, tc, tL, tl64, tsm, rfl, tv, s3, g3⟩
        have KE := hide ((unhide KD).call s3 g3)
        have DT : Hid (Dt w3 (w.heap.size + 2) (.slice va Ts.length vc) ⟨ta, tc, tL⟩) := ⟨tv.mono (unhide KD).lt, tl64, tsm, fun g o e e2 => by have h1 := tv.2.2 g o e; have h2 := (World.ownsRow.lt (unhide KD).own g e2).2; omega⟩
        refine hK.out _ _ trivial (fun hHeld => ?_)
        clear hK K
        try simp only [Act.put, kB0, kB1, kB2, kB3, kB4, kB5]
        clear s3 g3 tv tl64 tsm
        have t1 := (unhide KE).one.cell 0
        simp only [kA0, kA1] at t1
        refine wpAnyH_ready (rs := [1, 4]) (by kernel_rfl) (by simp) ?_
        refine AllReadyH.cons rfl (fun K hK => ?_) (AllReadyH.cons rfl (fun K hK => ?_) AllReadyH.nil)
        · go_simp
          refine hK.out _ _ trivial (fun hHeld => ?_)
          clear hK K
          try simp only [Act.put, kB0, kB1, kB2, kB3, kB4, kB5]
          clear t1
          refine wpAnyH_ready (rs := [4]) (by kernel_rfl) (by simp) ?_
          refine AllReadyH.cons rfl (fun K hK => ?_) AllReadyH.nil
          go_simp
          refine hK.out _ _ trivial (fun hHeld => ?_)
          clear hK K
          try simp only [Act.put, kB0, kB1, kB2, kB3, kB4, kB5]
          have KF := hide ((unhide KE).alloc (.cells #[.slice ta tL.length tc] 29))
          have DT4 : Hid (Dt (w3.alloc (.cells #[.slice ta tL.length tc] 29)) (w.heap.size + 2) (.slice va Ts.length vc) ⟨ta, tc, tL⟩) := ⟨(unhide DT).tree.alloc _, (unhide DT).len, (unhide DT).ok, (unhide DT).apart⟩
          clear KD KE DT
          refine wpAnyH_ready (rs := [5]) (by kernel_rfl) (by simp) ?_
          refine AllReadyH.cons rfl (fun K hK => ?_) AllReadyH.nil
          refine Mem.step_append_far rfl _ _ 23 rfl (w.heap.size + 2) 29 i0 _ 1 24 Tryz.underlying23 hi hz0 hz1 hz2' rfl (by decide) _ _ _ rfl (unhide KF).own ⟨w3.heap.size, 0, none⟩ 1 1 [.slice ta tL.length tc] rfl rfl (Mem.one_new _ _ _) (fun u hu => by simp at hu; subst hu; rfl) (by unfold maxLen; omega) (by omega) (unhide KF).lt ?_
          intro v' wZ hownZ hgrow0 hfar0
          have hgrow : (w3.alloc (.cells #[.slice ta tL.length tc] 29)).grownBy wZ (Value.slice va Ts.length vc).ownBlock := hgrow0
          have hown2 : rowT wZ (w.heap.size + 2) v' (Ts ++ [⟨ta, tc, tL⟩]) := by
            show World.ownsRow _ _ _ _ _ _ _
            rw [List.map_append, List.length_append]
            exact hownZ
          obtain ⟨v'a, v'c, rfl⟩ := Mem.own_shape hown2
          have KZ := hide ((unhide KF).app hgrow hown2 hfar0 (unhide DT4))
          simp only [List.length_append, List.length_singleton] at KZ
          have z0 : wZ.cell? ⟨w.heap.size + 1, 0, none⟩ = some (.slice va Ts.length vc) := hgrow.cell (a := ⟨w.heap.size + 1, 0, none⟩) (by have h := (unhide KF).one.cell 0; simpa using h) (fun e => by have h1 : w.heap.size + 2 ≤ w.heap.size + 1 := (World.ownsRow.lt (unhide KF).own _ e.symm).1; omega)
          have zf : wZ.frozen? ⟨w.heap.size + 1, 0, none⟩ = false := ((unhide KF).one.grown hgrow (fun e => by have h1 : w.heap.size + 2 ≤ w.heap.size + 1 := (World.ownsRow.lt (unhide KF).own _ e.symm).1; omega)).fr 0
          refine hK.out _ _ trivial (fun hHeld => ?_)
          clear hK K
          try simp only [Act.put, kB0, kB1, kB2, kB3, kB4, kB5]
          clear hgrow hgrow0 hownZ hown2 hfar0 KF DT4
          refine wpAnyH_take (i := 6) (v := ?_) rfl (by kernel_rfl) (by kernel_rfl) (by kernel_rfl) (fun _ _ _ h => h) (Or.inl ⟨by rfl, ?_⟩) (by assumption) ?_
          rotate_left
          · (intro w hSw; (try dsimp only at hSw); go_simp; (try with_reducible rfl))
          try simp only [Act.put, kB0, kB1, kB2, kB3, kB4, kB5]
          refine wpAnyH_ready (rs := [7]) (by kernel_rfl) (by simp) ?_
          refine AllReadyH.cons rfl (fun K hK => ?_) AllReadyH.nil
          go_simp
          refine hK.out _ _ trivial (fun hHeld => ?_)
          clear hK K
          try simp only [Act.put, kB0, kB1, kB2, kB3, kB4, kB5]
          refine wpAnyH_done (by kernel_rfl) ?_ _
          clear z0 zf
          go_wp2
          go_roundw
          case rel => exact ⟨kk - 1, _, _, by go_num, by rw [List.length_append, List.length_singleton]; omega, KZ⟩
          case measure => simp [intOf]; omega
        · clear t1
          go_simp
          refine hK.out _ _ trivial (fun hHeld => ?_)
          clear hK K
          try simp only [Act.put, kB0, kB1, kB2, kB3, kB4, kB5]
          have t2 := ((unhide KE).alloc (.cells #[.slice ta tL.length tc] 29)).one.cell 0
          simp only [kA0, kA1] at t2
          refine wpAnyH_ready (rs := [1]) (by kernel_rfl) (by simp) ?_
          refine AllReadyH.cons rfl (fun K hK => ?_) AllReadyH.nil
          go_simp
          refine hK.out _ _ trivial (fun hHeld => ?_)
          clear hK K
          try simp only [Act.put, kB0, kB1, kB2, kB3, kB4, kB5]
          clear t2
          have KF := hide ((unhide KE).alloc (.cells #[.slice ta tL.length tc] 29))
          have DT4 : Hid (Dt (w3.alloc (.cells #[.slice ta tL.length tc] 29)) (w.heap.size + 2) (.slice va Ts.length vc) ⟨ta, tc, tL⟩) := ⟨(unhide DT).tree.alloc _, (unhide DT).len, (unhide DT).ok, (unhide DT).apart⟩
          clear KD KE DT
          refine wpAnyH_ready (rs := [5]) (by kernel_rfl) (by simp) ?_
          refine AllReadyH.cons rfl (fun K hK => ?_) AllReadyH.nil
          refine Mem.step_append_far rfl _ _ 23 rfl (w.heap.size + 2) 29 i0 _ 1 24 Tryz.underlying23 hi hz0 hz1 hz2' rfl (by decide) _ _ _ rfl (unhide KF).own ⟨w3.heap.size, 0, none⟩ 1 1 [.slice ta tL.length tc] rfl rfl (Mem.one_new _ _ _) (fun u hu => by simp at hu; subst hu; rfl) (by unfold maxLen; omega) (by omega) (unhide KF).lt ?_
          intro v' wZ hownZ hgrow0 hfar0
          have hgrow : (w3.alloc (.cells #[.slice ta tL.length tc] 29)).grownBy wZ (Value.slice va Ts.length vc).ownBlock := hgrow0
          have hown2 : rowT wZ (w.heap.size + 2) v' (Ts ++ [⟨ta, tc, tL⟩]) := by
            show World.ownsRow _ _ _ _ _ _ _
            rw [List.map_append, List.length_append]
            exact hownZ
          obtain ⟨v'a, v'c, rfl⟩ := Mem.own_shape hown2
          have KZ := hide ((unhide KF).app hgrow hown2 hfar0 (unhide DT4))
          simp only [List.length_append, List.length_singleton] at KZ
          have z0 : wZ.cell? ⟨w.heap.size + 1, 0, none⟩ = some (.slice va Ts.length vc) := hgrow.cell (a := ⟨w.heap.size + 1, 0, none⟩) (by have h := (unhide KF).one.cell 0; simpa using h) (fun e => by have h1 : w.heap.size + 2 ≤ w.heap.size + 1 := (World.ownsRow.lt (unhide KF).own _ e.symm).1; omega)
          have zf : wZ.frozen? ⟨w.heap.size + 1, 0, none⟩ = false := ((unhide KF).one.grown hgrow (fun e => by have h1 : w.heap.size + 2 ≤ w.heap.size + 1 := (World.ownsRow.lt (unhide KF).own _ e.symm).1; omega)).fr 0
          refine hK.out _ _ trivial (fun hHeld => ?_)
          clear hK K
          try simp only [Act.put, kB0, kB1, kB2, kB3, kB4, kB5]
          clear hgrow hgrow0 hownZ hown2 hfar0 KF DT4
          refine wpAnyH_take (i := 6) (v := ?_) rfl (by kernel_rfl) (by kernel_rfl) (by kernel_rfl) (fun _ _ _ h => h) (Or.inl ⟨by rfl, ?_⟩) (by assumption) ?_
          rotate_left
          · (intro w hSw; (try dsimp only at hSw); go_simp; (try with_reducible rfl))
          try simp only [Act.put, kB0, kB1, kB2, kB3, kB4, kB5]
          refine wpAnyH_ready (rs := [7]) (by kernel_rfl) (by simp) ?_
          refine AllReadyH.cons rfl (fun K hK => ?_) AllReadyH.nil
          go_simp
          refine hK.out _ _ trivial (fun hHeld => ?_)
          clear hK K
          try simp only [Act.put, kB0, kB1, kB2, kB3, kB4, kB5]
          refine wpAnyH_done (by kernel_rfl) ?_ _
          clear z0 zf
          go_wp2
          go_roundw
          case rel => exact ⟨kk - 1, _, _, by go_num, by rw [List.length_append, List.length_singleton]; omega, KZ⟩
          case measure => simp [intOf]; omega
    · go_wp2_with fail
      refine (one_any S a len cap 20 _ (unhide KK).src (by omega)).mono ?_
      rintro e w2 ⟨r2, rfl, s2, g2⟩
      have K2 := hide ((unhide KK).call s2 g2)
      have hq5 : Ts.length ≤ 5 := by omega
      clear KK s2 g2
      cases r2
      · have KQ := K2
        have hD := Lk.done (va := va) (vc := vc) (Ts := Ts) (unhide KQ)
        have t0 := (unhide KQ).one.cell 0
        have r0 := (unhide KQ).two.cell 0
        have rf := (unhide KQ).two.fr 0
        simp only [kA0, kA1] at t0 r0
        have HD := hide hD
        clear hD KQ
        go_wp2
        generalize World.setCell w2 ⟨w.heap.size, 0, none⟩ (.slice va Ts.length vc) = WR at HD ⊢
        have q0 := (unhide HD).2.2.2.cell 0
        simp only [kA0, kA1] at q0
        exact bodyPost_ret (v := .agg #[.slice va Ts.length vc]) (by simp [results, Tryz.results32, go_sem, q0]) rfl ⟨va, vc, Ts, hq5, rfl, (unhide HD).1, (unhide HD).2.1, (unhide HD).2.2.1⟩
      · go_wp2_with fail
        refine (n_any S a len cap 2 _ (unhide K2).src (by omega)).mono ?_
        rintro e w3 ⟨r3, rfl, r30, r31, s3, g3⟩
        have K3 := hide ((unhide K2).call s3 g3)
        clear K2 s3 g3
        by_cases hz : r3 = 0
        · subst hz
          have t9 := (unhide K3).one.cell 0
          have tf9 := (unhide K3).one.fr 0
          simp only [kA0, kA1] at t9
          go_upto_region 12 with fail
          have K4 := hide (unhide K3).gone
          clear K3 t9 tf9 hq5
          have hq5 : ([] : List Pl.Tr).length ≤ 5 := Nat.zero_le _
          generalize w3.setCell ⟨w.heap.size + 1, 0, none⟩ (.slice none 0 0) = W4 at K4 ⊢
          have KQ := K4
          have hD := Lk.done (va := none) (vc := 0) (Ts := ([] : List Pl.Tr)) (unhide KQ)
          have t0 := (unhide KQ).one.cell 0
          have r0 := (unhide KQ).two.cell 0
          have rf := (unhide KQ).two.fr 0
          simp only [kA0, kA1] at t0 r0
          have HD := hide hD
          clear hD KQ
          go_wp2
          generalize World.setCell W4 ⟨w.heap.size, 0, none⟩ (.slice none ([] : List Pl.Tr).length 0) = WR at HD ⊢
          have q0 := (unhide HD).2.2.2.cell 0
          simp only [kA0, kA1] at q0
          exact bodyPost_ret (v := .agg #[.slice none ([] : List Pl.Tr).length 0]) (by simp [results, Tryz.results32, go_sem, q0]) rfl ⟨none, 0, ([] : List Pl.Tr), hq5, rfl, (unhide HD).1, (unhide HD).2.1, (unhide HD).2.2.1⟩
        · have hz2 : (r3 == 0) = false := by simp [hz]
          clear hz
          go_wp2
          go_loopw [30] (fun _ wr => ∃ (v : Value) (Ts : List Pl.Tr), Ts.length ≤ 5 ∧ Hid (Lk w wr S a len cap v Ts)) (fun _ wr => 6 - lenAt wr (w.heap.size + 1))
          case atStart => exact ⟨_, _, by omega, K3⟩
          case round =>
            obtain ⟨v, Ts, hq5, KK⟩ := hrel
            clear K3
            obtain ⟨va, vc, rfl⟩ := Mem.own_shape (unhide KK).own
            have HLN : Hid (lenAt wr (w.heap.size + 1) = Ts.length) := by
              have h := (unhide KK).one.cell 0
              simp only [kA0, kA1] at h
              show lenAt _ _ = _
              unfold lenAt
              rw [h]
            go_wp2_with fail
            refine wp_region_held_drew (S := fun W' => W'.cell? ⟨w.heap.size + 1, 0, none⟩ = some (.slice va Ts.length vc)) (by kernel_rfl) ?_ (fun hHeld => ?_)
            · exact (by have h := (unhide KK).drew.one.cell 0; simpa using h)
            have KD := hide (unhide KK).drew
            clear KK
            generalize wr.drew = WD at KD hHeld ⊢
            refine wpAnyH_take (i := 0) (v := ?_) rfl (by kernel_rfl) (by kernel_rfl) (by kernel_rfl) (fun _ _ _ h => h) (Or.inl ⟨by rfl, ?_⟩) (by assumption) ?_
            rotate_left
            · (intro w hSw; (try dsimp only at hSw); go_simp; (try with_reducible rfl))
            try simp only [Act.put, kB0, kB1, kB2, kB3, kB4, kB5]
            refine wpAnyH_take (i := 1) (v := ?_) rfl (by kernel_rfl) (by kernel_rfl) (by kernel_rfl) (fun _ _ _ h => h) (Or.inl ⟨by rfl, ?_⟩) (by assumption) ?_
            rotate_left
            · (intro w hSw; (try dsimp only at hSw); go_simp; (try with_reducible rfl))
            try simp only [Act.put, kB0, kB1, kB2, kB3, kB4, kB5]
            refine wpAnyH_take (i := 2) (v := ?_) rfl (by kernel_rfl) (by kernel_rfl) (by kernel_rfl) (fun _ _ _ h => h) (Or.inl ⟨by rfl, ?_⟩) (by assumption) ?_
            rotate_left
            · (intro w hSw; (try dsimp only at hSw); go_simp; (try with_reducible rfl))
            try simp only [Act.put, kB0, kB1, kB2, kB3, kB4, kB5]
            refine wpAnyH_take (i := 3) (v := ?_) rfl (by kernel_rfl) (by kernel_rfl) (by kernel_rfl) (fun _ _ _ h => h) (Or.inl ⟨by rfl, ?_⟩) (by assumption) ?_
            rotate_left
            · (intro w hSw; (try dsimp only at hSw); go_simp; (try with_reducible rfl))
            try simp only [Act.put, kB0, kB1, kB2, kB3, kB4, kB5]
            refine wpAnyH_ready (rs := [4]) (by kernel_rfl) (by simp) ?_
            refine AllReadyH.cons rfl (fun K hK => ?_) AllReadyH.nil
            go_simp
            refine (n_any S a len cap 2 _ (unhide KD).src (by omega)).mono ?_
            rintro e wX ⟨r4, rfl, q0, q1, s4, g4⟩
            refine hK.out _ _ ?_ (fun hHeld => ?_)
            · exact (by have h := ((unhide KD).call s4 g4).one.cell 0; simpa using h)
            clear hK K
            try simp only [Act.put, kB0, kB1, kB2, kB3, kB4, kB5]
            have KE := hide ((unhide KD).call s4 g4)
            clear KD s4 g4
            have hr4 : r4 = 0 ∨ r4 = 1 := by omega
            rcases hr4 with rfl | rfl
            · have hw0 : IntKind.i64.wrap 4 = 4 := by decide
              have hw1 : IntKind.i64.wrap (4 + 0) = 4 := by decide
              by_cases hl4 : Ts.length < 4
              · have y1 : (Ts.length : Int) < 4 := by omega
                refine wpAnyH_take (i := 5) (v := ?_) rfl (by kernel_rfl) (by kernel_rfl) (by kernel_rfl) (fun _ _ _ h => h) (Or.inl ⟨by rfl, ?_⟩) (by assumption) ?_
                rotate_left
                · (intro w hSw; (try dsimp only at hSw); go_simp; (try with_reducible rfl))
                try simp only [Act.put, kB0, kB1, kB2, kB3, kB4, kB5]
                refine wpAnyH_take (i := 6) (v := ?_) rfl (by kernel_rfl) (by kernel_rfl) (by kernel_rfl) (fun _ _ _ h => h) (Or.inl ⟨by rfl, ?_⟩) (by assumption) ?_
                rotate_left
                · (intro w hSw; (try dsimp only at hSw); go_simp; (try with_reducible rfl))
                try simp only [Act.put, kB0, kB1, kB2, kB3, kB4, kB5]
                refine wpAnyH_done (by kernel_rfl) ?_ _
                have t0 := (unhide KE).one.cell 0
                have tf := (unhide KE).one.fr 0
                simp only [kA0, kA1] at t0
                have KF := hide ((unhide KE).alloc (.cells #[.slice none 0 0] 29))
                have DT4 : Hid (Dt (wX.alloc (.cells #[.slice none 0 0] 29)) (w.heap.size + 2) (.slice va Ts.length vc) ⟨none, 0, []⟩) := ⟨⟨Mem.nodes_nil _ _, .inl ⟨rfl, rfl, rfl⟩, fun g o e => by cases e⟩, Nat.zero_le _, fun n hn => (by cases hn), fun g o e => by cases e⟩
                go_wp2_with (at_builtin; refine Mem.wpList_append_far _ rfl _ _ 23 rfl (w.heap.size + 2) 29 i0 _ 1 24 Tryz.underlying23 hi hz0 hz1 hz2' rfl (by decide) _ _ _ rfl (unhide KF).own ⟨wX.heap.size, 0, none⟩ 1 1 [.slice none 0 0] rfl rfl (Mem.one_new _ _ _) (fun u hu => by simp at hu; subst hu; rfl) (by unfold maxLen; omega) (by omega) (unhide KF).lt ?_)
                intro v' wZ hownZ hgrow hfar0
                have hown2 : rowT wZ (w.heap.size + 2) v' (Ts ++ [⟨none, 0, []⟩]) := by
                  show World.ownsRow _ _ _ _ _ _ _
                  rw [List.map_append, List.length_append]
                  exact hownZ
                obtain ⟨v'a, v'c, rfl⟩ := Mem.own_shape hown2
                have hfar : ∀ g, (Value.slice v'a (Ts ++ [(⟨none, 0, []⟩ : Pl.Tr)]).length v'c).ownBlock = some g → (Value.slice va Ts.length vc).ownBlock = some g ∨ (wX.alloc (.cells #[.slice none 0 0] 29)).heap.size ≤ g := fun g hg => (hfar0 g hg).imp_right (fun h => by simpa using h)
                have KZ := hide ((unhide KF).app hgrow hown2 hfar (unhide DT4))
                simp only [List.length_append, List.length_singleton] at KZ
                have z0 : wZ.cell? ⟨w.heap.size + 1, 0, none⟩ = some (.slice va Ts.length vc) := hgrow.cell (a := ⟨w.heap.size + 1, 0, none⟩) (by have h := (unhide KF).one.cell 0; simpa using h) (fun e => by have h1 : w.heap.size + 2 ≤ w.heap.size + 1 := (World.ownsRow.lt (unhide KF).own _ e.symm).1; omega)
                have zf : wZ.frozen? ⟨w.heap.size + 1, 0, none⟩ = false := ((unhide KF).one.grown hgrow (fun e => by have h1 : w.heap.size + 2 ≤ w.heap.size + 1 := (World.ownsRow.lt (unhide KF).own _ e.symm).1; omega)).fr 0
                clear hgrow hownZ hown2 hfar0 hfar KF DT4 KE t0 tf
                have HLZ : Hid (lenAt (wZ.setCell ⟨w.heap.size + 1, 0, none⟩ (.slice v'a (Ts.length + 1) v'c)) (w.heap.size + 1) = Ts.length + 1) := by
                  have h := (unhide KZ).one.cell 0
                  simp only [kA0, kA1] at h
                  show lenAt _ _ = _
                  unfold lenAt
                  rw [h]
                go_wp2
                go_roundw
                case rel => exact ⟨_, _, by rw [List.length_append, List.length_singleton]; omega, KZ⟩
                case measure => rw [unhide HLZ, unhide HLN]; omega
              · have y1 : ¬ (Ts.length : Int) < 4 := by omega
                refine wpAnyH_take (i := 5) (v := ?_) rfl (by kernel_rfl) (by kernel_rfl) (by kernel_rfl) (fun _ _ _ h => h) (Or.inl ⟨by rfl, ?_⟩) (by assumption) ?_
                rotate_left
                · (intro w hSw; (try dsimp only at hSw); go_simp; (try with_reducible rfl))
                try simp only [Act.put, kB0, kB1, kB2, kB3, kB4, kB5]
                refine wpAnyH_take (i := 6) (v := ?_) rfl (by kernel_rfl) (by kernel_rfl) (by kernel_rfl) (fun _ _ _ h => h) (Or.inl ⟨by rfl, ?_⟩) (by assumption) ?_
                rotate_left
                · (intro w hSw; (try dsimp only at hSw); go_simp; (try with_reducible rfl))
                try simp only [Act.put, kB0, kB1, kB2, kB3, kB4, kB5]
                refine wpAnyH_done (by kernel_rfl) ?_ _
                go_upto_region 12 with fail
                have KQ := KE
                have hD := Lk.done (va := va) (vc := vc) (Ts := Ts) (unhide KQ)
                have t0 := (unhide KQ).one.cell 0
                have r0 := (unhide KQ).two.cell 0
                have rf := (unhide KQ).two.fr 0
                simp only [kA0, kA1] at t0 r0
                have HD := hide hD
                clear hD KQ
                go_wp2
                generalize World.setCell wX ⟨w.heap.size, 0, none⟩ (.slice va Ts.length vc) = WR at HD ⊢
                have q0 := (unhide HD).2.2.2.cell 0
                simp only [kA0, kA1] at q0
                exact bodyPost_ret (v := .agg #[.slice va Ts.length vc]) (by simp [results, Tryz.results32, go_sem, q0]) rfl ⟨va, vc, Ts, hq5, rfl, (unhide HD).1, (unhide HD).2.1, (unhide HD).2.2.1⟩
            · have hw0 : IntKind.i64.wrap 5 = 5 := by decide
              have hw1 : IntKind.i64.wrap (4 + 1) = 5 := by decide
              by_cases hl4 : Ts.length < 5
              · have y1 : (Ts.length : Int) < 5 := by omega
                refine wpAnyH_take (i := 5) (v := ?_) rfl (by kernel_rfl) (by kernel_rfl) (by kernel_rfl) (fun _ _ _ h => h) (Or.inl ⟨by rfl, ?_⟩) (by assumption) ?_
                rotate_left
                · (intro w hSw; (try dsimp only at hSw); go_simp; (try with_reducible rfl))
                try simp only [Act.put, kB0, kB1, kB2, kB3, kB4, kB5]
                refine wpAnyH_take (i := 6) (v := ?_) rfl (by kernel_rfl) (by kernel_rfl) (by kernel_rfl) (fun _ _ _ h => h) (Or.inl ⟨by rfl, ?_⟩) (by assumption) ?_
                rotate_left
                · (intro w hSw; (try dsimp only at hSw); go_simp; (try with_reducible rfl))
                try simp only [Act.put, kB0, kB1, kB2, kB3, kB4, kB5]
                refine wpAnyH_done (by kernel_rfl) ?_ _
                have t0 := (unhide KE).one.cell 0
                have tf := (unhide KE).one.fr 0
                simp only [kA0, kA1] at t0
                have KF := hide ((unhide KE).alloc (.cells #[.slice none 0 0] 29))
                have DT4 : Hid (Dt (wX.alloc (.cells #[.slice none 0 0] 29)) (w.heap.size + 2) (.slice va Ts.length vc) ⟨none, 0, []⟩) := ⟨⟨Mem.nodes_nil _ _, .inl ⟨rfl, rfl, rfl⟩, fun g o e => by cases e⟩, Nat.zero_le _, fun n hn => (by cases hn), fun g o e => by cases e⟩
                go_wp2_with (at_builtin; refine Mem.wpList_append_far _ rfl _ _ 23 rfl (w.heap.size + 2) 29 i0 _ 1 24 Tryz.underlying23 hi hz0 hz1 hz2' rfl (by decide) _ _ _ rfl (unhide KF).own ⟨wX.heap.size, 0, none⟩ 1 1 [.slice none 0 0] rfl rfl (Mem.one_new _ _ _) (fun u hu => by simp at hu; subst hu; rfl) (by unfold maxLen; omega) (by omega) (unhide KF).lt ?_)
                intro v' wZ hownZ hgrow hfar0
                have hown2 : rowT wZ (w.heap.size + 2) v' (Ts ++ [⟨none, 0, []⟩]) := by
                  show World.ownsRow _ _ _ _ _ _ _
                  rw [List.map_append, List.length_append]
                  exact hownZ
                obtain ⟨v'a, v'c, rfl⟩ := Mem.own_shape hown2
                have hfar : ∀ g, (Value.slice v'a (Ts ++ [(⟨none, 0, []⟩ : Pl.Tr)]).length v'c).ownBlock = some g → (Value.slice va Ts.length vc).ownBlock = some g ∨ (wX.alloc (.cells #[.slice none 0 0] 29)).heap.size ≤ g := fun g hg => (hfar0 g hg).imp_right (fun h => by simpa using h)
                have KZ := hide ((unhide KF).app hgrow hown2 hfar (unhide DT4))
                simp only [List.length_append, List.length_singleton] at KZ
                have z0 : wZ.cell? ⟨w.heap.size + 1, 0, none⟩ = some (.slice va Ts.length vc) := hgrow.cell (a := ⟨w.heap.size + 1, 0, none⟩) (by have h := (unhide KF).one.cell 0; simpa using h) (fun e => by have h1 : w.heap.size + 2 ≤ w.heap.size + 1 := (World.ownsRow.lt (unhide KF).own _ e.symm).1; omega)
                have zf : wZ.frozen? ⟨w.heap.size + 1, 0, none⟩ = false := ((unhide KF).one.grown hgrow (fun e => by have h1 : w.heap.size + 2 ≤ w.heap.size + 1 := (World.ownsRow.lt (unhide KF).own _ e.symm).1; omega)).fr 0
                clear hgrow hownZ hown2 hfar0 hfar KF DT4 KE t0 tf
                have HLZ : Hid (lenAt (wZ.setCell ⟨w.heap.size + 1, 0, none⟩ (.slice v'a (Ts.length + 1) v'c)) (w.heap.size + 1) = Ts.length + 1) := by
                  have h := (unhide KZ).one.cell 0
                  simp only [kA0, kA1] at h
                  show lenAt _ _ = _
                  unfold lenAt
                  rw [h]
                go_wp2
                go_roundw
                case rel => exact ⟨_, _, by rw [List.length_append, List.length_singleton]; omega, KZ⟩
                case measure => rw [unhide HLZ, unhide HLN]; omega
              · have y1 : ¬ (Ts.length : Int) < 5 := by omega
                refine wpAnyH_take (i := 5) (v := ?_) rfl (by kernel_rfl) (by kernel_rfl) (by kernel_rfl) (fun _ _ _ h => h) (Or.inl ⟨by rfl, ?_⟩) (by assumption) ?_
                rotate_left
                · (intro w hSw; (try dsimp only at hSw); go_simp; (try with_reducible rfl))
                try simp only [Act.put, kB0, kB1, kB2, kB3, kB4, kB5]
                refine wpAnyH_take (i := 6) (v := ?_) rfl (by kernel_rfl) (by kernel_rfl) (by kernel_rfl) (fun _ _ _ h => h) (Or.inl ⟨by rfl, ?_⟩) (by assumption) ?_
                rotate_left
                · (intro w hSw; (try dsimp only at hSw); go_simp; (try with_reducible rfl))
                try simp only [Act.put, kB0, kB1, kB2, kB3, kB4, kB5]
                refine wpAnyH_done (by kernel_rfl) ?_ _
                go_upto_region 12 with fail
                have KQ := KE
                have hD := Lk.done (va := va) (vc := vc) (Ts := Ts) (unhide KQ)
                have t0 := (unhide KQ).one.cell 0
                have r0 := (unhide KQ).two.cell 0
                have rf := (unhide KQ).two.fr 0
                simp only [kA0, kA1] at t0 r0
                have HD := hide hD
                clear hD KQ
                go_wp2
                generalize World.setCell wX ⟨w.heap.size, 0, none⟩ (.slice va Ts.length vc) = WR at HD ⊢
                have q0 := (unhide HD).2.2.2.cell 0
                simp only [kA0, kA1] at q0
                exact bodyPost_ret (v := .agg #[.slice va Ts.length vc]) (by simp [results, Tryz.results32, go_sem, q0]) rfl ⟨va, vc, Ts, hq5, rfl, (unhide HD).1, (unhide HD).2.1, (unhide HD).2.2.1⟩
end WSrc
end Go.Proofs.YtmohbgmbknfaiaaGreatDoor

/- The walk of the draws' beginning: a source out of bytes. -/
namespace Go.Proofs.YtmohbgmbknfaiaaGreatDoor
open Go.RowKit
namespace WSrc
theorem fin {w wr w1 : World} {len cap p : Nat} {a : Option Addr} {v : Value} {m sz : Int} {C : Array Value} (hr : RowB w w.heap.size a len cap) (hbel : Below w.heap.size w wr) (hp : p ≤ len) (hz0 : 0 ≤ sz) (hz1 : sz ≤ 12)
    (hsz : wr.heap.size ≤ w1.heap.size) (hk : ∀ j, j < w.heap.size → w1.heap[j]? = wr.heap[j]?) (e1 : w1.os = wr.os) (e2 : w1.tape = wr.tape) (e3 : w1.output = wr.output)
    (hb : w1.heap[w.heap.size]? = some (.cells C 121 (0, 0))) (hC : C = #[.slice a len cap, .int .i64 (p : Int), v, .int .i64 sz]) (hv : v = .int .u64 m) : Src w1 w.heap.size a len cap ∧ Below w.heap.size w w1 := by
  have hbel2 : Below w.heap.size w w1 := hbel.trans ⟨e1, e2, e3, hsz, hk⟩
  refine ⟨⟨⟨hr.1, hr.2.1, fun i hi => ?_⟩, p, m, sz, by rw [hb, hC, hv], hp, hz0, hz1⟩, hbel2⟩
  obtain ⟨b, o, n, h1, h2, h3, h4⟩ := hr.2.2 i hi
  exact ⟨b, o, n, h1, h2, h3, (hbel2.cell (p := ⟨b, o + i, none⟩) h2).trans h4⟩
set_option maxRecDepth 100000 in
theorem source_any (a : Option Addr) (len cap : Nat) (w : World) (hr : RowB w w.heap.size a len cap) :
    Calls Tryz.prog 31 #[.slice a len cap] w fun e w' => e = .returned (.pointer (some ⟨w.heap.size, 0, none⟩)) ∧ Src w' w.heap.size a len cap ∧ Below w.heap.size w w' := by
  have hl : (len : Int) ≤ 9223372036854775807 := by have h1 := hr.2.1; have h2 := hr.1; unfold maxLen at h1; omega
  have HR := hide hr
  clear hr
  go_enter Tryz.func31, Tryz.ntmps31
  go_wp2
  go_loopw [4] (fun i wr => ∃ (k : Nat) (m : Int), k ≤ 64 ∧ k ≤ len ∧ i = .int .i64 (k : Int) ∧ Hid (wr.heap[w.heap.size]? = some (.cells #[.slice a len cap, .int .i64 0, .int .u64 m, .int .i64 0] 121 (0, 0))) ∧ Below w.heap.size w wr) (fun i _ => 64 - (intOf i).toNat)
  case atStart => exact ⟨0, _, by omega, by omega, rfl, hide (heap_alloc_new w _), (Below.refl _ _).alloc (Nat.le_refl _) _⟩
  case round =>
    obtain ⟨k, m, hk, hkl, rfl, HB, hbel⟩ := hrel
    have c0 : wr.cell? ⟨w.heap.size, 0, none⟩ = some (.slice a len cap) := by rw [cell_of_row wr _ 0 _ _ (0, 0) (unhide HB)]; rfl
    have c2 : wr.cell? ⟨w.heap.size, 2, none⟩ = some (.int .u64 m) := by rw [cell_of_row wr _ 2 _ _ (0, 0) (unhide HB)]; rfl
    have c3 : wr.cell? ⟨w.heap.size, 3, none⟩ = some (.int .i64 0) := by rw [cell_of_row wr _ 3 _ _ (0, 0) (unhide HB)]; rfl
    have f2 : wr.frozen? ⟨w.heap.size, 2, none⟩ = false := Mem.row_frozen (unhide HB)
    have f3 : wr.frozen? ⟨w.heap.size, 3, none⟩ = false := Mem.row_frozen (unhide HB)
    by_cases hlt : k < len ∧ k < 64
    · obtain ⟨b, o, n, rfl, hbS, hn, hc⟩ := (unhide HR).2.2 k hlt.1
      have hc1 : wr.cell? ⟨b, o + k, none⟩ = some (.int .u8 (n : Int)) := (hbel.cell (p := ⟨b, o + k, none⟩) hbS).trans hc
      have t1 : (k : Int) < (len : Int) := by omega
      have t2 : (k : Int) < 64 := by omega
      have t3 : (0 : Int) ≤ (k : Int) := by omega
      clear hc hlt
      go_wp2
      go_region
      go_wp2
      go_roundw
      case rel =>
        refine ⟨k + 1, _, by omega, by omega, by go_num, hide (heap_setCell_same _ _ 2 _ _ _ (unhide HB)), ?_⟩
        exact hbel.trans ⟨rfl, rfl, rfl, by simp [World.setCell], fun j hj => Below.heap_setCell _ _ _ _ (by show j ≠ w.heap.size; omega)⟩
      case measure => simp [intOf]; omega
    · have HF : Hid (¬ (k < len ∧ k < 64)) := hlt
      by_cases h12 : 12 < len / 20
      · have t4 : (12 : Int) < (len : Int) / 20 := by omega
        have hlt1 : k < len := by omega
        have hlt2 : ¬ (k : Int) < 64 := by omega
        have hlt3 : (k : Int) < (len : Int) := by omega
        clear hlt
        go_wp2
        go_ret
        exact ⟨rfl, fin (unhide HR) hbel (Nat.zero_le _) (by omega) (by omega) (by rw [size_set, size_set]; exact Nat.le_refl _) (fun j hj => by rw [Below.heap_setCell _ _ _ _ (by show j ≠ w.heap.size; omega), Below.heap_setCell _ _ _ _ (by show j ≠ w.heap.size; omega)]) rfl rfl rfl (heap_setCell_same _ _ 3 _ _ _ (heap_setCell_same _ _ 3 _ _ _ (unhide HB))) rfl rfl⟩
      · have t4 : ¬ (12 : Int) < (len : Int) / 20 := by omega
        by_cases hlt1 : k < len
        · have hlt2 : ¬ (k : Int) < 64 := by omega
          have hlt3 : (k : Int) < (len : Int) := by omega
          clear hlt
          go_wp2
          go_ret
          exact ⟨rfl, fin (unhide HR) hbel (Nat.zero_le _) (by omega) (by omega) (by rw [size_set]; exact Nat.le_refl _) (fun j hj => by rw [Below.heap_setCell _ _ _ _ (by show j ≠ w.heap.size; omega)]) rfl rfl rfl (heap_setCell_same _ _ 3 _ _ _ (unhide HB)) rfl rfl⟩
        · have hlt3 : ¬ (k : Int) < (len : Int) := by omega
          clear hlt
          go_wp2
          go_ret
          exact ⟨rfl, fin (unhide HR) hbel (Nat.zero_le _) (by omega) (by omega) (by rw [size_set]; exact Nat.le_refl _) (fun j hj => by rw [Below.heap_setCell _ _ _ _ (by show j ≠ w.heap.size; omega)]) rfl rfl rfl (heap_setCell_same _ _ 3 _ _ _ (unhide HB)) rfl rfl⟩
end WSrc
end Go.Proofs.YtmohbgmbknfaiaaGreatDoor

/- A row below lies below what comes later (of WDrawSm). -/
namespace Go.Proofs.YtmohbgmbknfaiaaGreatDoor
open Go.RowKit
namespace WSrc
theorem row_up {w W : World} {S len cap : Nat} {a : Option Addr} (h : RowB w w.heap.size a len cap) (b : Below w.heap.size w W) (hS : w.heap.size ≤ S) : RowB W S a len cap :=
  ⟨h.1, h.2.1, fun i hi => by
    obtain ⟨g, o, n, h1, h2, h3, h4⟩ := h.2.2 i hi
    exact ⟨g, o, n, h1, Nat.lt_of_lt_of_le h2 hS, h3, (b.cell (p := ⟨g, o + i, none⟩) h2).trans h4⟩⟩
end WSrc
end Go.Proofs.YtmohbgmbknfaiaaGreatDoor

