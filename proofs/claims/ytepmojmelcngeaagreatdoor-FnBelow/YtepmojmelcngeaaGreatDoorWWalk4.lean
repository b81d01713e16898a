/- The specification's l04Walk: all that is told under a path, put to a list. -/
import Derived.Test.YtepmojmelcngeaaGreatDoorG42
import Derived.Test.YtepmojmelcngeaaGreatDoorG45
import Derived.Test.YtepmojmelcngeaaGreatDoorG41
import Derived.Test.YtepmojmelcngeaaGreatDoorG19
import Derived.Test.YtepmojmelcngeaaGreatDoorG33
import Derived.Deep.Cut
namespace Go.Proofs.YtepmojmelcngeaaGreatDoor
open Go.RowKit
namespace WWalk4
open WPick WName4
/-- What stands while a directory is walked over. -/
structure Wk (w0 w W : World) (v0 v : Value) (out : List Pl.Nd) (vl : Value) (NL : List ByteArray) : Prop where
  bel : Below w0.heap.size w0 W
  grown : w.grownBy W v0.ownBlock
  own : Mem.ownN W w0.heap.size v out
  far : ∀ g, v.ownBlock = some g → v0.ownBlock = some g ∨ w.heap.size ≤ g
  txt : Txt W 0 vl NL
  farT : ∀ g, v.ownBlock = some g → vl.ownBlock ≠ some g
theorem grown_call {w v v' : World} {r : Option Nat} (h : w.grownBy v r) (b : Below v.heap.size v v') : w.grownBy v' r :=
  ⟨b.os.trans h.os, b.tape.trans h.tape, b.output.trans h.output, Nat.le_trans h.size b.size, fun j hj hne => (b.block j (Nat.lt_of_lt_of_le hj h.size)).trans (h.block j hj hne)⟩
theorem Wk.call {w0 w W W' : World} {v0 v : Value} {out : List Pl.Nd} {vl : Value} {NL : List ByteArray} (h : Wk w0 w W v0 v out vl NL) (b : Below W.heap.size W W') : Wk w0 w W' v0 v out vl NL :=
  ⟨h.bel.trans (b.mono h.bel.size), grown_call h.grown b, Mem.ownN_call h.own b, h.far, Mem.own_call h.txt b, h.farT⟩
/-- .. where the list has grown: by an append, or by a walk further down. -/
theorem Wk.more {w0 w W W' : World} {v0 v v' : Value} {out out' : List Pl.Nd} {vl : Value} {NL : List ByteArray} (h : Wk w0 w W v0 v out vl NL) (own : Mem.ownN W' w0.heap.size v' out') (g : W.grownBy W' v.ownBlock) (far : ∀ g, v'.ownBlock = some g → v.ownBlock = some g ∨ W.heap.size ≤ g) : Wk w0 w W' v0 v' out' vl NL := by
  have hlo : ∀ q, v.ownBlock = some q → w0.heap.size ≤ q := fun q hq => (World.ownsRow.lt h.own q hq).1
  refine ⟨h.bel.grown g h.bel.size hlo, ?_, own, fun q hq => ?_, row_grown h.txt g (fun q hq e => h.farT q e.symm hq), fun q hq e => ?_⟩
  · refine ⟨g.os.trans h.grown.os, g.tape.trans h.grown.tape, g.output.trans h.grown.output, Nat.le_trans h.grown.size g.size, fun j hj hne => ?_⟩
    refine (g.block j (Nat.lt_of_lt_of_le hj h.grown.size) (fun e => ?_)).trans (h.grown.block j hj hne)
    rcases h.far j e.symm with h1 | h1
    · exact hne h1.symm
    · omega
  · rcases far q hq with h1 | h1
    · exact h.far q h1
    · exact .inr (Nat.le_trans h.grown.size h1)
  · rcases far q hq with h1 | h1
    · exact h.farT q h1 e
    · have := (World.ownsRow.lt h.txt q e).2; omega
theorem step_take {NL : List ByteArray} {f : ByteArray → List Pl.Nd} {j : Nat} {t : ByteArray} (h : NL[j]? = some t) : (NL.take (j + 1)).flatMap f = (NL.take j).flatMap f ++ f t := by
  have h1 := List.getElem?_eq_some_iff.1 h
  rw [List.take_succ_eq_append_getElem h1.1, h1.2, List.flatMap_append]
  simp
theorem take_le (NL : List ByteArray) (f : ByteArray → List Pl.Nd) (j : Nat) : ((NL.take j).flatMap f).length ≤ (NL.flatMap f).length := by
  conv => rhs; rw [← List.take_append_drop j NL, List.flatMap_append, List.length_append]
  omega
/-- What the walk hands back. -/
def Got (w0 w w' : World) (v v' : Value) (O : List Pl.Nd) : Prop := Mem.ownN w' w0.heap.size v' O ∧ w.grownBy w' v.ownBlock ∧ ∀ g, v'.ownBlock = some g → v.ownBlock = some g ∨ w.heap.size ≤ g
set_option linter.unusedSimpArgs false in
set_option maxRecDepth 100000 in
set_option maxHeartbeats 4000000 in
theorem walk_any (w0 : World) (Ts : List Pl.Tr) (ad : Option Addr) (capt : Nat) (hT : Mem.isTrees w0 ad Ts) (hn4 : Ts.length ≤ 4) (hL : ∀ t ∈ Ts, t.L.length ≤ 40 ∧ ∀ n ∈ t.L, (n.path.size ≤ 1048576 ∧ n.data.size ≤ 1048576) ∧ 0 ≤ n.mark ∧ n.mark ≤ 8) (htr : ∀ M ∈ Ts.map (·.L), Pl.treeB M = true) :
    ∀ (d : Nat) (q : ByteArray) (ks : List Nat) (gp cp : Nat) (v : Value) (out : List Pl.Nd) (w : World), Below w0.heap.size w0 w → Mem.ownN w w0.heap.size v out → gp < w.heap.size → v.ownBlock ≠ some gp → (∀ (i k : Nat), ks[i]? = some k → w.cell? ⟨gp, i, none⟩ = some (.int .i64 (k : Int))) →
      Pl.At4 (Ts.map (·.L)) ks q → ks ≠ [] → (Pl.names q).length + d = 7 → out.length + (Pl.walkO (Ts.map (·.L)) d ks q).length ≤ 1000 →
      Calls Tryz.prog 104 #[v, .slice ad Ts.length capt, .slice (some ⟨gp, 0, none⟩) ks.length cp, .string q] w fun e w' => ∃ v', e = .returned v' ∧ Got w0 w w' v v' (out ++ Pl.walkO (Ts.map (·.L)) d ks q) := by
  intro d
  induction d with
  | zero => intro q ks gp cp v out w _ _ _ _ _ ha _ hd _; have := (Pl.names_all ha.path).2; omega
  | succ d ih =>
    intro q ks gp cp v out w hbel hown hgp hgv hP ha hks hd hbd
    obtain ⟨iN, hiN, hN0, hN1, hN2⟩ := info_parts infoN
    have hk4 : ks.length ≤ 4 := by have := ha.sub.length_le; rw [List.length_range, List.length_map] at this; omega
    have hkl : ∀ k ∈ ks, k < Ts.length := fun k hk => by have := ha.sub.subset hk; rw [List.mem_range, List.length_map] at this; exact this
    have hq2 := Pl.pathB_le ha.path
    have hn4' : (Ts.map (·.L)).length ≤ 4 := by rw [List.length_map]; exact hn4
    have HNM := hide (names_any q Ts ks ad capt gp cp w (Mem.trees_call hT hbel) hk4 hkl hgp hP (fun t ht => ⟨(hL t ht).1, fun n hn => ((hL t ht).2 n hn).1⟩))
    have HND := hide (fun t (ht : t ∈ Pl.namesK (Ts.map (·.L)) q ks) => Pl.nk_node hn4' htr ha ht)
    have EW : Hid (Pl.walkO (Ts.map (·.L)) (d + 1) ks q = (Pl.namesK (Ts.map (·.L)) q ks).flatMap (Pl.stepO (Pl.walkO (Ts.map (·.L)) d) (Ts.map (·.L)) ks q)) := rfl
    generalize Pl.walkO (Ts.map (·.L)) (d + 1) ks q = RW at EW hbd ⊢
    generalize Pl.namesK (Ts.map (·.L)) q ks = NL at HNM HND EW
    have HBD := hide hbd
    have HIH := hide ih
    have HP := hide hP
    have HA := hide ha
    have HOW := hide hown
    have HBL := hide hbel
    have HGV := hide hgv
    have HKS := hide hks
    obtain ⟨va, vc, rfl⟩ := Mem.own_shape hown
    clear ih hP ha hown hbel hgv hbd hks
    go_enter Tryz.func104, Tryz.ntmps104
    go_wp2_with fail
    refine (unhide HNM).mono ?_
    rintro e w1 ⟨gl, cl, rfl, htx, hl160, b1⟩
    have A0 : Hid (Wk w0 w w1 (.slice va out.length vc) (.slice va out.length vc) (out ++ (NL.take 0).flatMap (Pl.stepO (Pl.walkO (Ts.map (·.L)) d) (Ts.map (·.L)) ks q)) (.slice (some ⟨gl, 0, none⟩) NL.length cl) NL) := by
      refine ⟨(unhide HBL).trans (b1.mono (unhide HBL).size), Mem.grown_of_below b1 _, ?_, fun g hg => .inl hg, Mem.own_mono htx (Nat.zero_le _), fun g hg e => ?_⟩
      · show Mem.ownN _ _ _ (out ++ [])
        rw [List.append_nil]
        exact Mem.ownN_call (unhide HOW) b1
      · have h1 := (World.ownsRow.lt (unhide HOW) g hg).2
        have h2 := (World.ownsRow.lt htx g e).1
        omega
    clear HNM htx b1 HOW HBL
    generalize hf : Pl.stepO (Pl.walkO (Ts.map (·.L)) d) (Ts.map (·.L)) ks q = f at A0 EW
    have HF := hide hf
    clear hf
    go_wp2
    go_loopw [0, 10] (fun u i wr => ∃ j : Nat, j ≤ NL.length ∧ i = .int .i64 (j : Int) ∧ Hid (Wk w0 w wr (.slice va out.length vc) u (out ++ (NL.take j).flatMap f) (.slice (some ⟨gl, 0, none⟩) NL.length cl) NL)) (fun _ i _ => NL.length - (intOf i).toNat)
    case atStart => exact ⟨0, Nat.zero_le _, rfl, A0⟩
    case round =>
      obtain ⟨j, hj, rfl, HK⟩ := hrel
      clear A0
      by_cases hlt : j < NL.length
      · obtain ⟨t, ht⟩ : ∃ t, NL[j]? = some t := ⟨_, List.getElem?_eq_getElem hlt⟩
        obtain ⟨M, hM, m, hm, em, e2, e3⟩ := unhide HND t (List.mem_of_getElem? ht)
        have htn : t.size ≤ 20 := Nat.le_of_not_lt fun h => by
          have h1 := (Pl.names_all e3).1 t (by rw [e2]; simp)
          rw [Pl.nameB_long h] at h1
          cases h1
        have HST := hide (step_take (f := f) ht)
        have HTL := hide (take_le NL f (j + 1))
        have cL := (unhide HK).txt.cell ht
        have hbW := (unhide HK).bel
        have hgW : gp < wr.heap.size := Nat.lt_of_lt_of_le hgp (unhide HK).grown.size
        have hcells : ∀ (i k : Nat), ks[i]? = some k → wr.cell? ⟨gp, i, none⟩ = some (.int .i64 (k : Int)) := fun i k hik => by
          have hblk := (unhide HK).grown.block gp hgp (fun e => unhide HGV e.symm)
          rw [show wr.cell? ⟨gp, i, none⟩ = w.cell? ⟨gp, i, none⟩ by simp only [World.cell?, hblk]]
          exact unhide HP i k hik
        have HJ := hide (WPathS.join1_any q t wr (by omega) (by omega))
        have HCH := hide (child_any (Pl.joinN q t) Ts ks ad capt gp cp wr (Mem.trees_call hT hbW) hn4 (unhide HKS) hk4 hkl hgW hcells (fun t ht => ⟨by have := (hL t ht).1; omega, fun n hn => ((hL t ht).2 n hn).2⟩))
        have HSA := hide (Pl.child_seen hn4' htr (unhide HA) e3 e2)
        have HDN := hide (Pl.at4_down hn4' htr (unhide HA) e3 e2)
        have EF : Hid (f t = if (Pl.childO (Ts.map (·.L)) ks (Pl.joinN q t)).ok = true then (Pl.childO (Ts.map (·.L)) ks (Pl.joinN q t)).node :: (if (Pl.childO (Ts.map (·.L)) ks (Pl.joinN q t)).node.kind = 1 then Pl.walkO (Ts.map (·.L)) d (Pl.childO (Ts.map (·.L)) ks (Pl.joinN q t)).parts (Pl.joinN q t) else []) else []) := by
          show _ = _
          rw [← unhide HF]
          rfl
        have HDD : Hid ((Pl.names (Pl.joinN q t)).length + d = 7) := by show _ = _; rw [e2, List.length_append, List.length_singleton]; omega
        have y1 : (j : Int) < (NL.length : Int) := by omega
        have y2 : (0 : Int) ≤ (j : Int) := by omega
        clear hcells hbW ht hM hm em e2 e3 hgW
        go_wp2_with fail
        refine (unhide HJ).mono ?_
        rintro e wJ ⟨rfl, hwJ⟩
        subst wJ
        clear HJ cL
        generalize Pl.joinN q t = p at HCH HSA HDN EF HDD ⊢
        generalize Pl.childO (Ts.map (·.L)) ks p = o' at HCH HSA HDN EF
        go_wp2_with fail
        refine (unhide HCH).mono ?_
        rintro e w2 ⟨vp, rfl, hown', b2⟩
        obtain ⟨ok, ⟨np, nk, nd, nt, nm⟩, kz⟩ := o'
        obtain ⟨pa, pc, rfl⟩ := ownI_shape hown'
        simp only at EF HSA HDN
        simp only [cellsO]
        have HUB := hide (fun g hg => (World.ownsRow.lt (unhide HK).own g hg).2)
        have K2 := hide ((unhide HK).call b2)
        have hsz2 := b2.size
        have HOP := hide hown'
        clear HK HCH b2 hown'
        go_upto_region 7 with fail
        have bN : Below w2.heap.size w2 (w2.alloc (.cells #[.bool ok, .string np, .int .i64 nk, .string nd, .int .i64 nt, .int .i64 nm, .slice pa kz.length pc] 109)) := (Below.refl _ _).alloc (Nat.le_refl _) _
        have NB := hide (Mem.Blk.new w2 #[.bool ok, .string np, .int .i64 nk, .string nd, .int .i64 nt, .int .i64 nm, .slice pa kz.length pc] 109)
        have K3 := hide ((unhide K2).call bN)
        have HOP3 := hide (row_call (unhide HOP) bN)
        have hpl : ∀ g, (Value.slice pa kz.length pc).ownBlock = some g → wr.heap.size ≤ g ∧ g < w2.heap.size := fun g hg => World.ownsRow.lt (unhide HOP) g hg
        have HPL := hide hpl
        generalize hW3 : w2.alloc (.cells #[.bool ok, .string np, .int .i64 nk, .string nd, .int .i64 nt, .int .i64 nm, .slice pa kz.length pc] 109) = W3 at NB K3 HOP3 ⊢
        have hX3 : W3.heap.size = w2.heap.size + 1 := by rw [← hW3, sz_alloc]
        have HX3 := hide hX3
        clear hW3 bN K2 HOP hpl hX3
        generalize w2.heap.size = X at NB HPL hsz2 HX3 ⊢
        have x0 := (unhide NB).cell 0
        simp only [kA0, kA1, kA2] at x0
        cases ok with
        | false =>
          have HZ : Hid (Wk w0 w W3 (.slice va out.length vc) u0 (out ++ (NL.take (j + 1)).flatMap f) (.slice (some ⟨gl, 0, none⟩) NL.length cl) NL) := by
            have h := unhide EF
            rw [if_neg (by decide)] at h
            rw [unhide HST, h, List.append_nil]
            exact unhide K3
          clear K3 NB HOP3 HPL HUB HSA HDN EF HDD HST HTL
          go_wp2
          go_roundw
          case rel => exact ⟨j + 1, by omega, by go_num, HZ⟩
          case measure => simp [intOf]; omega
        | true =>
          have EF2 : Hid (f t = ⟨np, nk, nd, nt, nm⟩ :: (if nk = 1 then Pl.walkO (Ts.map (·.L)) d kz p else [])) := by
            have h := unhide EF
            rw [if_pos rfl] at h
            exact h
          have HLT : Hid ((out ++ (NL.take j).flatMap f).length + (f t).length ≤ 1000) := by
            show _ ≤ _
            have h1 := unhide HBD
            have h2 := unhide HTL
            rw [unhide HST, List.length_append] at h2
            rw [unhide EW] at h1
            rw [List.length_append]
            omega
          have HST2 : Hid (out ++ (NL.take (j + 1)).flatMap f = (out ++ (NL.take j).flatMap f) ++ f t) := by
            show _ = _
            rw [unhide HST, List.append_assoc]
          clear EF HTL HST
          generalize out ++ (NL.take j).flatMap f = oj at K3 HLT HST2
          obtain ⟨ua, uc, rfl⟩ := Mem.own_shape (unhide K3).own
          by_cases hk1 : nk = 1
          · subst hk1
            have EF3 : Hid (f t = ⟨np, 1, nd, nt, nm⟩ :: Pl.walkO (Ts.map (·.L)) d kz p) := by
              have h := unhide EF2
              rw [if_pos rfl] at h
              exact h
            have HLB : Hid (oj.length + 1 + (Pl.walkO (Ts.map (·.L)) d kz p).length ≤ 1000) := by
              show _ ≤ _
              have h1 := unhide HLT
              rw [unhide EF3, List.length_cons] at h1
              omega
            have HNE : Hid (kz ≠ []) := fun e => (unhide HSA).no e rfl rfl
            clear EF2 HLT HSA
            have n1 := (unhide NB).cell 1
            have n2 := (unhide NB).cell 2
            have n3 := (unhide NB).cell 3
            have n4 := (unhide NB).cell 4
            have n5 := (unhide NB).cell 5
            simp only [kA0, kA1, kA2] at n1 n2 n3 n4 n5
            have K4 := hide ((unhide K3).call ((Below.refl _ _).alloc (Nat.le_refl _) (.cells #[.string np, .int .i64 1, .string nd, .int .i64 nt, .int .i64 nm] 36)))
            have NB4 := hide ((unhide NB).alloc (.cells #[.string np, .int .i64 1, .string nd, .int .i64 nt, .int .i64 nm] 36))
            have HOP4 := hide (row_call (unhide HOP3) ((Below.refl _ _).alloc (Nat.le_refl _) (.cells #[.string np, .int .i64 1, .string nd, .int .i64 nt, .int .i64 nm] 36)))
            have hb3 := (unhide K3).bel.size
            clear K3 NB HOP3
            go_wp2_with (at_builtin; refine Mem.wpList_append_far _ rfl _ _ 29 rfl w0.heap.size 36 iN _ 5 56 Tryz.underlying29 hiN hN0 hN1 hN2 rfl (by decide) _ _ _ rfl (unhide K4).own ⟨W3.heap.size, 0, none⟩ 1 1 [.string np, .int .i64 1, .string nd, .int .i64 nt, .int .i64 nm] rfl rfl (Mem.cs_new W3 ⟨np, 1, nd, nt, nm⟩ 36) (Mem.cs_one ⟨np, 1, nd, nt, nm⟩) (by have h := unhide HLB; unfold maxLen; omega) (by have h := unhide HLB; omega) (by rw [sz_alloc]; omega) ?_)
            intro v' w4 own' grow' far0
            have far' : ∀ g, v'.ownBlock = some g → (Value.slice ua oj.length uc).ownBlock = some g ∨ (W3.alloc (.cells #[.string np, .int .i64 1, .string nd, .int .i64 nt, .int .i64 nm] 36)).heap.size ≤ g := fun g hg => (far0 g hg).imp_right (fun h => by rw [sz_alloc]; exact h)
            have K5 := hide ((unhide K4).more (out' := oj ++ [⟨np, 1, nd, nt, nm⟩]) (Mem.ownN_snoc own') grow' far')
            have NB5 := hide ((unhide NB4).grown grow' (fun e => by have := unhide HUB X e.symm; omega))
            have HOP5 : Hid (ownI w4 wr.heap.size (.slice pa kz.length pc) kz) := row_grown (unhide HOP4) grow' (fun g hg e => by have h1 := (unhide HPL g hg).1; have h2 := unhide HUB g e.symm; omega)
            have HFP : Hid (∀ g, (Value.slice pa kz.length pc).ownBlock = some g → v'.ownBlock ≠ some g) := fun g hg e => by
              have h1 := unhide HPL g hg
              rcases far' g e with h2 | h2
              · have := unhide HUB g h2; omega
              · rw [sz_alloc, unhide HX3] at h2; omega
            clear own' grow' far0 far' K4 NB4 HOP4 n1 n2 n3 n4 n5
            have k2 := (unhide NB5).cell 2
            have k6 := (unhide NB5).cell 6
            simp only [kA0, kA1, kA2] at k2 k6
            obtain ⟨g', cap', he, -, hgl', hck'⟩ := ownI_cells (unhide HOP5) (unhide HNE)
            injection he with he1 he2 he3
            subst he1 he3
            have hcall := hide (unhide HIH p kz g' pc v' (oj ++ [⟨np, 1, nd, nt, nm⟩]) w4 (unhide K5).bel (unhide K5).own hgl' (unhide HFP g' rfl) hck' (unhide HDN) (unhide HNE) (unhide HDD) (by rw [List.length_append, List.length_singleton]; exact unhide HLB))
            clear hck' he2 HOP5 HFP HDN HNE HDD HLB NB5 HPL HUB
            go_wp2_with fail
            refine (unhide hcall).mono ?_
            rintro e w5 ⟨v'', rfl, hown5, hgr5, hfar5⟩
            have HZ : Hid (Wk w0 w w5 (.slice va out.length vc) v'' (out ++ (NL.take (j + 1)).flatMap f) (.slice (some ⟨gl, 0, none⟩) NL.length cl) NL) := by
              rw [unhide HST2, unhide EF3]
              have h := (unhide K5).more hown5 hgr5 hfar5
              rw [List.append_assoc, List.singleton_append] at h
              exact h
            clear hcall hown5 hgr5 hfar5 K5 HST2 EF3 k2 k6
            go_wp2
            go_roundw
            case rel => exact ⟨j + 1, by omega, by go_num, HZ⟩
            case measure => simp [intOf]; omega
          · have EF3 : Hid (f t = [⟨np, nk, nd, nt, nm⟩]) := by
              have h := unhide EF2
              rw [if_neg hk1] at h
              exact h
            have HLB : Hid (oj.length + 1 ≤ 1000) := by
              show _ ≤ _
              have h1 := unhide HLT
              rw [unhide EF3] at h1
              exact h1
            clear EF2 HLT HSA
            have n1 := (unhide NB).cell 1
            have n2 := (unhide NB).cell 2
            have n3 := (unhide NB).cell 3
            have n4 := (unhide NB).cell 4
            have n5 := (unhide NB).cell 5
            simp only [kA0, kA1, kA2] at n1 n2 n3 n4 n5
            have K4 := hide ((unhide K3).call ((Below.refl _ _).alloc (Nat.le_refl _) (.cells #[.string np, .int .i64 nk, .string nd, .int .i64 nt, .int .i64 nm] 36)))
            have NB4 := hide ((unhide NB).alloc (.cells #[.string np, .int .i64 nk, .string nd, .int .i64 nt, .int .i64 nm] 36))
            have HOP4 := hide (row_call (unhide HOP3) ((Below.refl _ _).alloc (Nat.le_refl _) (.cells #[.string np, .int .i64 nk, .string nd, .int .i64 nt, .int .i64 nm] 36)))
            have hb3 := (unhide K3).bel.size
            clear K3 NB HOP3
            go_wp2_with (at_builtin; refine Mem.wpList_append_far _ rfl _ _ 29 rfl w0.heap.size 36 iN _ 5 56 Tryz.underlying29 hiN hN0 hN1 hN2 rfl (by decide) _ _ _ rfl (unhide K4).own ⟨W3.heap.size, 0, none⟩ 1 1 [.string np, .int .i64 nk, .string nd, .int .i64 nt, .int .i64 nm] rfl rfl (Mem.cs_new W3 ⟨np, nk, nd, nt, nm⟩ 36) (Mem.cs_one ⟨np, nk, nd, nt, nm⟩) (by have h := unhide HLB; unfold maxLen; omega) (by have h := unhide HLB; omega) (by rw [sz_alloc]; omega) ?_)
            intro v' w4 own' grow' far0
            have far' : ∀ g, v'.ownBlock = some g → (Value.slice ua oj.length uc).ownBlock = some g ∨ (W3.alloc (.cells #[.string np, .int .i64 nk, .string nd, .int .i64 nt, .int .i64 nm] 36)).heap.size ≤ g := fun g hg => (far0 g hg).imp_right (fun h => by rw [sz_alloc]; exact h)
            have K5 := hide ((unhide K4).more (out' := oj ++ [⟨np, nk, nd, nt, nm⟩]) (Mem.ownN_snoc own') grow' far')
            have NB5 := hide ((unhide NB4).grown grow' (fun e => by have := unhide HUB X e.symm; omega))
            have HOP5 : Hid (ownI w4 wr.heap.size (.slice pa kz.length pc) kz) := row_grown (unhide HOP4) grow' (fun g hg e => by have h1 := (unhide HPL g hg).1; have h2 := unhide HUB g e.symm; omega)
            have HFP : Hid (∀ g, (Value.slice pa kz.length pc).ownBlock = some g → v'.ownBlock ≠ some g) := fun g hg e => by
              have h1 := unhide HPL g hg
              rcases far' g e with h2 | h2
              · have := unhide HUB g h2; omega
              · rw [sz_alloc, unhide HX3] at h2; omega
            clear own' grow' far0 far' K4 NB4 HOP4 n1 n2 n3 n4 n5
            have k2 := (unhide NB5).cell 2
            have k6 := (unhide NB5).cell 6
            simp only [kA0, kA1, kA2] at k2 k6
            have HZ : Hid (Wk w0 w w4 (.slice va out.length vc) v' (out ++ (NL.take (j + 1)).flatMap f) (.slice (some ⟨gl, 0, none⟩) NL.length cl) NL) := by
              rw [unhide HST2, unhide EF3]
              exact unhide K5
            clear K5 HST2 EF3 HOP5 HFP HDN HDD HLB NB5 HPL HUB k6
            go_wp2
            go_roundw
            case rel => exact ⟨j + 1, by omega, by go_num, HZ⟩
            case measure => simp [intOf]; omega
      · obtain rfl : j = NL.length := by omega
        have y1 : ¬ (NL.length : Int) < (NL.length : Int) := by omega
        have HZ : Hid (Got w0 w wr (.slice va out.length vc) u0 (out ++ RW)) := by
          have h := unhide HK
          rw [List.take_length, ← unhide EW] at h
          exact ⟨h.own, h.grown, h.far⟩
        clear HK
        go_wp2
        go_ret
        exact ⟨_, rfl, unhide HZ⟩
end WWalk4
end Go.Proofs.YtepmojmelcngeaaGreatDoor
