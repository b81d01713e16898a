/- Several texts of one claim in one file: WWalk4, WOverS. -/
import Derived.Test.YtibmflhelgedeaaGreatDoorG62
import Derived.Test.YtibmflhelgedeaaGreatDoorG44
import Derived.Test.YtibmflhelgedeaaGreatDoorG61
import Derived.Test.YtibmflhelgedeaaGreatDoorG19
import Derived.Test.YtibmflhelgedeaaGreatDoorWAt4A
import Derived.Test.YtibmflhelgedeaaGreatDoorG39
import Derived.Deep.Cut
import Derived.Test.YtibmflhelgedeaaGreatDoorG07
/- The specification's l04Walk: all that is told under a path, put to a list. -/
namespace Go.Proofs.YtibmflhelgedeaaGreatDoor
open Go.RowKit
namespace WWalk4
open WPick WName4
/-- What stands while a directory is walked over. -/
structure Wk (w0 w W : World) (v0 v : Value) (out : List Pl.Nd) (vl : Value) (NL : List ByteArray) : Prop where
  bel : Below w0.heap.size w0 W
  grown : w.grownBy W v0.ownBlock
  own : Mem.ownN W w0.heap.size v out
  far : ∀ g, v.ownBlock = some g → v0.ownBlock = some g ∨ w.heap.size ≤ g
  txt : Txt W 0 vl NL
  farT : ∀ g, v.ownBlock = some g → vl.ownBlock ≠ some g
theorem grown_call {w v v' : World} {r : Option Nat} (h : w.grownBy v r) (b : Below v.heap.size v v') : w.grownBy v' r :=
  ⟨b.os.trans h.os, b.tape.trans h.tape, b.output.trans h.output, Nat.le_trans h.size b.size, fun j hj hne => (b.block j (Nat.lt_of_lt_of_le hj h.size)).trans (h.block j hj hne)⟩
theorem Wk.call {w0 w W W' : World} {v0 v : Value} {out : List Pl.Nd} {vl : Value} {NL : List ByteArray} (h : Wk w0 w W v0 v out vl NL) (b : Below W.heap.size W W') : Wk w0 w W' v0 v out vl NL :=
  ⟨h.bel.trans (b.mono h.bel.size), grown_call h.grown b, Mem.ownN_call h.own b, h.far, Mem.own_call h.txt b, h.farT⟩
/-- .. where the list has grown: by an append, or by a walk further down. -/
theorem Wk.more {w0 w W W' : World} {v0 v v' : Value} {out out' : List Pl.Nd} {vl : Value} {NL : List ByteArray} (h : Wk w0 w W v0 v out vl NL) (own : Mem.ownN W' w0.heap.size v' out') (g : W.grownBy W' v.ownBlock) (far : ∀ g, v'.ownBlock = some g → v.ownBlock = some g ∨ W.heap.size ≤ g) : Wk w0 w W' v0 v' out' vl NL := by
  have hlo : ∀ q, v.ownBlock = some q → w0.heap.size ≤ q := fun q hq => (World.ownsRow.lt h.own q hq).1
  refine ⟨h.bel.grown g h.bel.size hlo, ?_, own, fun q hq => ?_, row_grown h.txt g (fun q hq e => h.farT q e.symm hq), fun q hq e => ?_⟩
  · refine ⟨g.os.trans h.grown.os, g.tape.trans h.grown.tape, g.output.trans h.grown.output, Nat.le_trans h.grown.size g.size, fun j hj hne => ?_⟩
    refine (g.block j (Nat.lt_of_lt_of_le hj h.grown.size) (fun e => ?_)).trans (h.grown.block j hj hne)
    rcases h.far j e.symm with h1 | h1
    · exact hne h1.symm
    · omega
  · rcases far q hq with h1 | h1
    · exact h.far q h1
    · exact .inr (Nat.le_trans h.grown.size h1)
  · rcases far q hq with h1 | h1
    · exact h.farT q h1 e
    · have := (World.ownsRow.lt h.txt q e).2; omega
theorem step_take {NL : List ByteArray} {f : ByteArray → List Pl.Nd} {j : Nat} {t : ByteArray} (h : NL[j]? = some t) : (NL.take (j + 1)).flatMap f = (NL.take j).flatMap f ++ f t := by
  have h1 := List.getElem?_eq_some_iff.1 h
  rw [List.take_succ_eq_append_getElem h1.1, h1.2, List.flatMap_append]
  simp
theorem take_le (NL : List ByteArray) (f : ByteArray → List Pl.Nd) (j : Nat) : ((NL.take j).flatMap f).length ≤ (NL.flatMap f).length := by
  conv => rhs; rw [← List.take_append_drop j NL, List.flatMap_append, List.length_append]
  omega
/-- What the walk hands back. -/
def Got (w0 w w' : World) (v v' : Value) (O : List Pl.Nd) : Prop := Mem.ownN w' w0.heap.size v' O ∧ w.grownBy w' v.ownBlock ∧ ∀ g, v'.ownBlock = some g → v.ownBlock = some g ∨ w.heap.size ≤ g
set_option linter.unusedSimpArgs false in
set_option maxRecDepth 100000 in
set_option maxHeartbeats 4000000 in
theorem walk_any (w0 : World) (Ts : List Pl.Tr) (ad : Option Addr) (capt : Nat) (hT : Mem.isTrees w0 ad Ts) (hn4 : Ts.length ≤ 4) (hL : ∀ t ∈ Ts, t.L.length ≤ 40 ∧ ∀ n ∈ t.L, (n.path.size ≤ 1048576 ∧ n.data.size ≤ 1048576) ∧ 0 ≤ n.mark ∧ n.mark ≤ 8) (htr : ∀ M ∈ Ts.map (·.L), Pl.treeB M = true) :
    ∀ (d : Nat) (q : ByteArray) (ks : List Nat) (gp cp : Nat) (v : Value) (out : List Pl.Nd) (w : World), Below w0.heap.size w0 w → Mem.ownN w w0.heap.size v out → gp < w.heap.size → v.ownBlock ≠ some gp → (∀ (i k : Nat), ks[i]? = some k → w.cell? ⟨gp, i, none⟩ = some (.int .i64 (k : Int))) →
      Pl.At4 (Ts.map (·.L)) ks q → ks ≠ [] → (Pl.names q).length + d = 7 → out.length + (Pl.walkO (Ts.map (·.L)) d ks q).length ≤ 1000 →
      Calls Tryz.prog 150 #[v, .slice ad Ts.length capt, .slice (some ⟨gp, 0, none⟩) ks.length cp, .string q] w fun e w' => ∃ v', e = .returned v' ∧ Got w0 w w' v v' (out ++ Pl.walkO (Ts.map (·.L)) d ks q) := by
  intro d
  induction d with
  | zero => intro q ks gp cp v out w _ _ _ _ _ ha _ hd _; have := (Pl.names_all ha.path).2; omega
  | succ d ih =>
    intro q ks gp cp v out w hbel hown hgp hgv hP ha hks hd hbd
    obtain ⟨iN, hiN, hN0, hN1, hN2⟩ := info_parts infoN
    have hk4 : ks.length ≤ 4 := by have := ha.sub.length_le; rw [List.length_range, List.length_map] at this; omega
    have hkl : ∀ k ∈ ks, k < Ts.length := fun k hk => by have := ha.sub.subset hk; rw [List.mem_range, List.length_map] at this; exact this
    have hq2 := Pl.pathB_le ha.path
    have hn4' : (Ts.map (·.L)).length ≤ 4 := by rw [List.length_map]; exact hn4
    have HNM := hide (names_any q Ts ks ad capt gp cp w (Mem.trees_call hT hbel) hk4 hkl hgp hP (fun t ht => ⟨(hL t ht).1, fun n hn => ((hL t ht).2 n hn).1⟩))
    have HND := hide (fun t (ht : t ∈ Pl.namesK (Ts.map (·.L)) q ks) => Pl.nk_node hn4' htr ha ht)
    have EW : Hid (Pl.walkO (Ts.map (·.L)) (d + 1) ks q = (Pl.namesK (Ts.map (·.L)) q ks).flatMap (Pl.stepO (Pl.walkO (Ts.map (·.L)) d) (Ts.map (·.L)) ks q)) := rfl
    generalize Pl.walkO (Ts.map (·.L)) (d + 1) ks q = RW at EW hbd ⊢
    generalize Pl.namesK (Ts.map (·.L)) q ks = NL at HNM HND EW
    have HBD := hide hbd
    have HIH := hide ih
    have HP := hide hP
    have HA := hide ha
    have HOW := hide hown
    have HBL := hide hbel
    have HGV := hide hgv
    have HKS := hide hks
    obtain ⟨va, vc, rfl⟩ := Mem.own_shape hown
    clear ih hP ha hown hbel hgv hbd hks
    go_enter Tryz.func150, Tryz.ntmps150
    go_wp2_with fail
    refine (unhide HNM).mono ?_
    rintro e w1 ⟨gl, cl, rfl, htx, hl160, b1⟩
    have A0 : Hid (Wk w0 w w1 (.slice va out.length vc) (.slice va out.length vc) (out ++ (NL.take 0).flatMap (Pl.stepO (Pl.walkO (Ts.map (·.L)) d) (Ts.map (·.L)) ks q)) (.slice (some ⟨gl, 0, none⟩) NL.length cl) NL) := by
      refine ⟨(unhide HBL).trans (b1.mono (unhide HBL).size), Mem.grown_of_below b1 _, ?_, fun g hg => .inl hg, Mem.own_mono htx (Nat.zero_le _), fun g hg e => ?_⟩
      · show Mem.ownN _ _ _ (out ++ [])
        rw [List.append_nil]
        exact Mem.ownN_call (unhide HOW) b1
      · have h1 := (World.ownsRow.lt (unhide HOW) g hg).2
        have h2 := (World.ownsRow.lt htx g e).1
        omega
    clear HNM htx b1 HOW HBL
    generalize hf : Pl.stepO (Pl.walkO (Ts.map (·.L)) d) (Ts.map (·.L)) ks q = f at A0 EW
    have HF := hide hf
    clear hf
    go_wp2
    go_loopw [0, 10] (fun u i wr => ∃ j : Nat, j ≤ NL.length ∧ i = .int .i64 (j : Int) ∧ Hid (Wk w0 w wr (.slice va out.length vc) u (out ++ (NL.take j).flatMap f) (.slice (some ⟨gl, 0, none⟩) NL.length cl) NL)) (fun _ i _ => NL.length - (intOf i).toNat)
    case atStart => exact ⟨0, Nat.zero_le _, rfl, A0⟩
    case round =>
      obtain ⟨j, hj, rfl, HK⟩ := hrel
      clear A0
      by_cases hlt : j < NL.length
      · obtain ⟨t, ht⟩ : ∃ t, NL[j]? = some t := ⟨_, List.getElem?_eq_getElem hlt⟩
        obtain ⟨M, hM, m, hm, em, e2, e3⟩ := unhide HND t (List.mem_of_getElem? ht)
        have htn : t.size ≤ 20 := Nat.le_of_not_lt fun h => by
          have h1 := (Pl.names_all e3).1 t (by rw [e2]; simp)
          rw [Pl.nameB_long h] at h1
          cases h1
        have HST := hide (step_take (f := f) ht)
        have HTL := hide (take_le NL f (j + 1))
        have cL := (unhide HK).txt.cell ht
        have hbW := (unhide HK).bel
        have hgW : gp < wr.heap.size := Nat.lt_of_lt_of_le hgp (unhide HK).grown.size
        have hcells : ∀ (i k : Nat), ks[i]? = some k → wr.cell? ⟨gp, i, none⟩ = some (.int .i64 (k : Int)) := fun i k hik => by
          have hblk := (unhide HK).grown.block gp hgp (fun e => unhide HGV e.symm)
          rw [show wr.cell? ⟨gp, i, none⟩ = w.cell? ⟨gp, i, none⟩ by simp only [World.cell?, hblk]]
          exact unhide HP i k hik
        have HJ := hide (WPathS.join1_any q t wr (by omega) (by omega))
        have HCH := hide (child_any (Pl.joinN q t) Ts ks ad capt gp cp wr (Mem.trees_call hT hbW) hn4 (unhide HKS) hk4 hkl hgW hcells (fun t ht => ⟨by have := (hL t ht).1; omega, fun n hn => ((hL t ht).2 n hn).2⟩))
        have HSA := hide (Pl.child_seen hn4' htr (unhide HA) e3 e2)
        have HDN := hide (Pl.at4_down hn4' htr (unhide HA) e3 e2)
        have EF : Hid (f t = if (Pl.childO (Ts.map (·.L)) ks (Pl.joinN q t)).ok = true then (Pl.childO (Ts.map (·.L)) ks (Pl.joinN q t)).node :: (if (Pl.childO (Ts.map (·.L)) ks (Pl.joinN q t)).node.kind = 1 then Pl.walkO (Ts.map (·.L)) d (Pl.childO (Ts.map (·.L)) ks (Pl.joinN q t)).parts (Pl.joinN q t) else []) else []) := by
          show _ = _
          rw [← unhide HF]
          rfl
        have HDD : Hid ((Pl.names (Pl.joinN q t)).length + d = 7) := by show _ = _; rw [e2, List.length_append, List.length_singleton]; omega
        have y1 : (j : Int) < (NL.length : Int) := by omega
        have y2 : (0 : Int) ≤ (j : Int) := by omega
        clear hcells hbW ht hM hm em e2 e3 hgW
        go_wp2_with fail
        refine (unhide HJ).mono ?_
        rintro e wJ ⟨rfl, hwJ⟩
        subst wJ
        clear HJ cL
        generalize Pl.joinN q t = p at HCH HSA HDN EF HDD ⊢
        generalize Pl.childO (Ts.map (·.L)) ks p = o' at HCH HSA HDN EF
        go_wp2_with fail
        refine (unhide HCH).mono ?_
        rintro e w2 ⟨vp, rfl, hown', b2⟩
        obtain ⟨ok, ⟨np, nk, nd, nt, nm⟩, kz⟩ := o'
        obtain ⟨pa, pc, rfl⟩ := ownI_shape hown'
        simp only at EF HSA HDN
        simp only [cellsO]
        have HUB := hide (fun g hg => (World.ownsRow.lt (unhide HK).own g hg).2)
        have K2 := hide ((unhide HK).call b2)
        have hsz2 := b2.size
        have HOP := hide hown'
        clear HK HCH b2 hown'
        go_upto_region 7 with fail
        have bN : Below w2.heap.size w2 (w2.alloc (.cells #[.bool ok, .string np, .int .i64 nk, .string nd, .int .i64 nt, .int .i64 nm, .slice pa kz.length pc] 132)) := (Below.refl _ _).alloc (Nat.le_refl _) _
        have NB := hide (Mem.Blk.new w2 #[.bool ok, .string np, .int .i64 nk, .string nd, .int .i64 nt, .int .i64 nm, .slice pa kz.length pc] 132)
        have K3 := hide ((unhide K2).call bN)
        have HOP3 := hide (row_call (unhide HOP) bN)
        have hpl : ∀ g, (Value.slice pa kz.length pc).ownBlock = some g → wr.heap.size ≤ g ∧ g < w2.heap.size := fun g hg => World.ownsRow.lt (unhide HOP) g hg
        have HPL := hide hpl
        generalize hW3 : w2.alloc (.cells #[.bool ok, .string np, .int .i64 nk, .string nd, .int .i64 nt, .int .i64 nm, .slice pa kz.length pc] 132) = W3 at NB K3 HOP3 ⊢
        have hX3 : W3.heap.size = w2.heap.size + 1 := by rw [← hW3, sz_alloc]
        have HX3 := hide hX3
        clear hW3 bN K2 HOP hpl hX3
        generalize w2.heap.size = X at NB HPL hsz2 HX3 ⊢
        have x0 := (unhide NB).cell 0
        simp only [kA0, kA1, kA2] at x0
        cases ok with
        | false =>
          have HZ : Hid (Wk w0 w W3 (.slice va out.length vc) u0 (out ++ (NL.take (j + 1)).flatMap f) (.slice (some ⟨gl, 0, none⟩) NL.length cl) NL) := by
            have h := unhide EF
            rw [if_neg (by decide)] at h
            rw [unhide HST, h, List.append_nil]
            exact unhide K3
          clear K3 NB HOP3 HPL HUB HSA HDN EF HDD HST HTL
          go_wp2
          go_roundw
          case rel => exact ⟨j + 1, by omega, by go_num, HZ⟩
          case measure => simp [intOf]; omega
        | true =>
          have EF2 : Hid (f t = ⟨np, nk, nd, nt, nm⟩ :: (if nk = 1 then Pl.walkO (Ts.map (·.L)) d kz p else [])) := by
            have h := unhide EF
            rw [if_pos rfl] at h
            exact h
          have HLT : Hid ((out ++ (NL.take j).flatMap f).length + (f t).length ≤ 1000) := by
            show _ ≤ _
            have h1 := unhide HBD
            have h2 := unhide HTL
            rw [unhide HST, List.length_append] at h2
            rw [unhide EW] at h1
            rw [List.length_append]
            omega
          have HST2 : Hid (out ++ (NL.take (j + 1)).flatMap f = (out ++ (NL.take j).flatMap f) ++ f t) := by
            show _ = _
            rw [unhide HST, List.append_assoc]
          clear EF HTL HST
          generalize out ++ (NL.take j).flatMap f = oj at K3 HLT HST2
          obtain ⟨ua, uc, rfl⟩ := Mem.own_shape (unhide K3).own
          by_cases hk1 : nk = 1
          · subst hk1
            have EF3 : Hid (f t = ⟨np, 1, nd, nt, nm⟩ :: Pl.walkO (Ts.map (·.L)) d kz p) := by
              have h := unhide EF2
              rw [if_pos rfl] at h
              exact h
            have HLB : Hid (oj.length + 1 + (Pl.walkO (Ts.map (·.L)) d kz p).length ≤ 1000) := by
              show _ ≤ _
              have h1 := unhide HLT
              rw [unhide EF3, List.length_cons] at h1
              omega
            have HNE : Hid (kz ≠ []) := fun e => (unhide HSA).no e rfl rfl
            clear EF2 HLT HSA
            have n1 := (unhide NB).cell 1
            have n2 := (unhide NB).cell 2
            have n3 := (unhide NB).cell 3
            have n4 := (unhide NB).cell 4
            have n5 := (unhide NB).cell 5
            simp only [kA0, kA1, kA2] at n1 n2 n3 n4 n5
            have K4 := hide ((unhide K3).call ((Below.refl _ _).alloc (Nat.le_refl _) (.cells #[.string np, .int .i64 1, .string nd, .int .i64 nt, .int .i64 nm] 27)))
            have NB4 := hide ((unhide NB).alloc (.cells #[.string np, .int .i64 1, .string nd, .int .i64 nt, .int .i64 nm] 27))
            have HOP4 := hide (row_call (unhide HOP3) ((Below.refl _ _).alloc (Nat.le_refl _) (.cells #[.string np, .int .i64 1, .string nd, .int .i64 nt, .int .i64 nm] 27)))
            have hb3 := (unhide K3).bel.size
            clear K3 NB HOP3
            go_wp2_with (at_builtin; refine Mem.wpList_append_far _ rfl _ _ 23 rfl w0.heap.size 27 iN _ 5 56 Tryz.underlying23 hiN hN0 hN1 hN2 rfl (by decide) _ _ _ rfl (unhide K4).own ⟨W3.heap.size, 0, none⟩ 1 1 [.string np, .int .i64 1, .string nd, .int .i64 nt, .int .i64 nm] rfl rfl (Mem.cs_new W3 ⟨np, 1, nd, nt, nm⟩ 27) (Mem.cs_one ⟨np, 1, nd, nt, nm⟩) (by have h := unhide HLB; unfold maxLen; omega) (by have h := unhide HLB; omega) (by rw [sz_alloc]; omega) ?_)
            intro v' w4 own' grow' far0
            have far' : ∀ g, v'.ownBlock = some g → (Value.slice ua oj.length uc).ownBlock = some g ∨ (W3.alloc (.cells #[.string np, .int .i64 1, .string nd, .int .i64 nt, .int .i64 nm] 27)).heap.size ≤ g := fun g hg => (far0 g hg).imp_right (fun h => by rw [sz_alloc]; exact h)
            have K5 := hide ((unhide K4).more (out' := oj ++ [⟨np, 1, nd, nt, nm⟩]) (Mem.ownN_snoc own') grow' far')
            have NB5 := hide ((unhide NB4).grown grow' (fun e => by have := unhide HUB X e.symm; omega))
            have HOP5 : Hid (ownI w4 wr.heap.size (.slice pa kz.length pc) kz) := row_grown (unhide HOP4) grow' (fun g hg e => by have h1 := (unhide HPL g hg).1; have h2 := unhide HUB g e.symm; omega)
            have HFP : Hid (∀ g, (Value.slice pa kz.length pc).ownBlock = some g → v'.ownBlock ≠ some g) := fun g hg e => by
              have h1 := unhide HPL g hg
              rcases far' g e with h2 | h2
              · have := unhide HUB g h2; omega
              · rw [sz_alloc, unhide HX3] at h2; omega
            clear own' grow' far0 far' K4 NB4 HOP4 n1 n2 n3 n4 n5
            have k2 := (unhide NB5).cell 2
            have k6 := (unhide NB5).cell 6
            simp only [kA0, kA1, kA2] at k2 k6
            obtain ⟨g', cap', he, -, hgl', hck'⟩ := ownI_cells (unhide HOP5) (unhide HNE)
            injection he with he1 he2 he3
            subst he1 he3
            have hcall := hide (unhide HIH p kz g' pc v' (oj ++ [⟨np, 1, nd, nt, nm⟩]) w4 (unhide K5).bel (unhide K5).own hgl' (unhide HFP g' rfl) hck' (unhide HDN) (unhide HNE) (unhide HDD) (by rw [List.length_append, List.length_singleton]; exact unhide HLB))
            clear hck' he2 HOP5 HFP HDN HNE HDD HLB NB5 HPL HUB
            go_wp2_with fail
            refine (unhide hcall).mono ?_
            rintro e w5 ⟨v'', rfl, hown5, hgr5, hfar5⟩
            have HZ : Hid (Wk w0 w w5 (.slice va out.length vc) v'' (out ++ (NL.take (j + 1)).flatMap f) (.slice (some ⟨gl, 0, none⟩) NL.length cl) NL) := by
              rw [unhide HST2, unhide EF3]
              have h := (unhide K5).more hown5 hgr5 hfar5
              rw [List.append_assoc, List.singleton_append] at h
              exact h
            clear hcall hown5 hgr5 hfar5 K5 HST2 EF3 k2 k6
            go_wp2
            go_roundw
            case rel => exact ⟨j + 1, by omega, by go_num, HZ⟩
            case measure => simp [intOf]; omega
          · have EF3 : Hid (f t = [⟨np, nk, nd, nt, nm⟩]) := by
              have h := unhide EF2
              rw [if_neg hk1] at h
              exact h
            have HLB : Hid (oj.length + 1 ≤ 1000) := by
              show _ ≤ _
              have h1 := unhide HLT
              rw [unhide EF3] at h1
              exact h1
            clear EF2 HLT HSA
            have n1 := (unhide NB).cell 1
            have n2 := (unhide NB).cell 2
            have n3 := (unhide NB).cell 3
            have n4 := (unhide NB).cell 4
            have n5 := (unhide NB).cell 5
            simp only [kA0, kA1, kA2] at n1 n2 n3 n4 n5
            have K4 := hide ((unhide K3).call ((Below.refl _ _).alloc (Nat.le_refl _) (.cells #[.string np, .int .i64 nk, .string nd, .int .i64 nt, .int .i64 nm] 27)))
            have NB4 := hide ((unhide NB).alloc (.cells #[.string np, .int .i64 nk, .string nd, .int .i64 nt, .int .i64 nm] 27))
            have HOP4 := hide (row_call (unhide HOP3) ((Below.refl _ _).alloc (Nat.le_refl _) (.cells #[.string np, .int .i64 nk, .string nd, .int .i64 nt, .int .i64 nm] 27)))
            have hb3 := (unhide K3).bel.size
            clear K3 NB HOP3
            go_wp2_with (at_builtin; refine Mem.wpList_append_far _ rfl _ _ 23 rfl w0.heap.size 27 iN _ 5 56 Tryz.underlying23 hiN hN0 hN1 hN2 rfl (by decide) _ _ _ rfl (unhide K4).own ⟨W3.heap.size, 0, none⟩ 1 1 [.string np, .int .i64 nk, .string nd, .int .i64 nt, .int .i64 nm] rfl rfl (Mem.cs_new W3 ⟨np, nk, nd, nt, nm⟩ 27) (Mem.cs_one ⟨np, nk, nd, nt, nm⟩) (by have h := unhide HLB; unfold maxLen; omega) (by have h := unhide HLB; omega) (by rw [sz_alloc]; omega) ?_)
            intro v' w4 own' grow' far0
            have far' : ∀ g, v'.ownBlock = some g → (Value.slice ua oj.length uc).ownBlock = some g ∨ (W3.alloc (.cells #[.string np, .int .i64 nk, .string nd, .int .i64 nt, .int .i64 nm] 27)).heap.size ≤ g := fun g hg => (far0 g hg).imp_right (fun h => by rw [sz_alloc]; exact h)
            have K5 := hide ((unhide K4).more (out' := oj ++ [⟨np, nk, nd, nt, nm⟩]) (Mem.ownN_snoc own') grow' far')
            have NB5 := hide ((unhide NB4).grown grow' (fun e => by have := unhide HUB X e.symm; omega))
            have HOP5 : Hid (ownI w4 wr.heap.size (.slice pa kz.length pc) kz) := row_grown (unhide HOP4) grow' (fun g hg e => by have h1 := (unhide HPL g hg).1; have h2 := unhide HUB g e.symm; omega)
            have HFP : Hid (∀ g, (Value.slice pa kz.length pc).ownBlock = some g → v'.ownBlock ≠ some g) := fun g hg e => by
              have h1 := unhide HPL g hg
              rcases far' g e with h2 | h2
              · have := unhide HUB g h2; omega
              · rw [sz_alloc, unhide HX3] at h2; omega
            clear own' grow' far0 far' K4 NB4 HOP4 n1 n2 n3 n4 n5
            have k2 := (unhide NB5).cell 2
            have k6 := (unhide NB5).cell 6
            simp only [kA0, kA1, kA2] at k2 k6
            have HZ : Hid (Wk w0 w w4 (.slice va out.length vc) v' (out ++ (NL.take (j + 1)).flatMap f) (.slice (some ⟨gl, 0, none⟩) NL.length cl) NL) := by
              rw [unhide HST2, unhide EF3]
              exact unhide K5
            clear K5 HST2 EF3 HOP5 HFP HDN HDD HLB NB5 HPL HUB k6
            go_wp2
            go_roundw
            case rel => exact ⟨j + 1, by omega, by go_num, HZ⟩
            case measure => simp [intOf]; omega
      · obtain rfl : j = NL.length := by omega
        have y1 : ¬ (NL.length : Int) < (NL.length : Int) := by omega
        have HZ : Hid (Got w0 w wr (.slice va out.length vc) u0 (out ++ RW)) := by
          have h := unhide HK
          rw [List.take_length, ← unhide EW] at h
          exact ⟨h.own, h.grown, h.far⟩
        clear HK
        go_wp2
        go_ret
        exact ⟨_, rfl, unhide HZ⟩
end WWalk4
end Go.Proofs.YtibmflhelgedeaaGreatDoor

/- The specification's l04Over and Over. -/
namespace Go.Proofs.YtibmflhelgedeaaGreatDoor
open Go.RowKit
namespace WWalk4
open WPick WName4
set_option linter.unusedSimpArgs false in
set_option maxRecDepth 100000 in
set_option maxHeartbeats 1000000 in
theorem over4_any (Ts : List Pl.Tr) (ad : Option Addr) (capt : Nat) (w : World) (hT : Mem.isTrees w ad Ts) (hn1 : 1 ≤ Ts.length) (hn4 : Ts.length ≤ 4) (htr : ∀ M ∈ Ts.map (·.L), Pl.treeB M = true) :
    Calls Tryz.prog 109 #[.slice ad Ts.length capt] w fun e w' => ∃ v, e = .returned (.agg #[v, .int .i64 (if 40 < (Pl.allO (Ts.map (·.L))).length then 9 else 0)]) ∧ Mem.ownN w' w.heap.size v (if 40 < (Pl.allO (Ts.map (·.L))).length then [] else Pl.allO (Ts.map (·.L))) ∧ Below w.heap.size w w' := by
  have b0 : Below w.heap.size w (w.alloc (.cells #[.slice none 0 0, .int .i64 0] 31)) := (Below.refl _ _).alloc (Nat.le_refl _) _
  have V0 := Mem.Blk.new w #[.slice none 0 0, .int .i64 0] 31
  have hs0 := sz_alloc w (.cells #[.slice none 0 0, .int .i64 0] 31)
  have hL : ∀ t ∈ Ts, t.L.length ≤ 40 ∧ ∀ n ∈ t.L, (n.path.size ≤ 1048576 ∧ n.data.size ≤ 1048576) ∧ 0 ≤ n.mark ∧ n.mark ≤ 8 := fun t ht => by
    have h1 := htr t.L (List.mem_map_of_mem ht)
    simp only [Pl.treeB, Bool.and_eq_true, decide_eq_true_eq] at h1
    refine ⟨h1.1, fun n hn => ?_⟩
    have h2 := Pl.goI_all t.L _ _ h1.2 n hn
    have h3 := Pl.node_bounds h2
    have h4 := Pl.pathB_le (Pl.node_right h2).1
    exact ⟨⟨by omega, by omega⟩, by omega⟩
  have hn4' : (Ts.map (·.L)).length ≤ 4 := by rw [List.length_map]; exact hn4
  have hroot := Pl.at4_root hn4'
  have hlen := Pl.all_len hn4' htr
  have HW := hide (fun (gp cp : Nat) (W : World) (hb : Below (w.alloc (.cells #[.slice none 0 0, .int .i64 0] 31)).heap.size (w.alloc (.cells #[.slice none 0 0, .int .i64 0] 31)) W) (hg : gp < W.heap.size) hc =>
    walk_any (w.alloc (.cells #[.slice none 0 0, .int .i64 0] 31)) Ts ad capt (Mem.trees_call hT b0) hn4 hL htr 7 ⟨#[]⟩ (List.range Ts.length) gp cp (.slice none 0 0) [] W hb (Mem.ownN_nil _ _) hg (fun e => by cases e) hc (by rw [List.length_map] at hroot; exact hroot) (fun e => by have h := congrArg List.length e; rw [List.length_range, List.length_nil] at h; omega) (by rw [(Pl.right_root (s := ⟨#[]⟩) rfl).2]; rfl) (by
      have h := hlen
      unfold Pl.allO at h
      rw [List.length_map] at h
      simp only [List.length_nil]
      omega))
  have EO : Hid ([] ++ Pl.walkO (Ts.map (·.L)) 7 (List.range Ts.length) ⟨#[]⟩ = Pl.allO (Ts.map (·.L))) := by
    show _ = _
    unfold Pl.allO
    rw [List.nil_append, List.length_map]
  rw [unhide EO] at HW
  have HAL := hide (fun W => all_any Ts.length W hn4)
  generalize Pl.allO (Ts.map (·.L)) = O at HW hlen ⊢
  have HS0 := hide hs0
  have BB := hide b0
  have VV := hide V0
  clear hT hL htr hroot EO b0 V0 hs0
  go_enter Tryz.func109, Tryz.ntmps109
  go_wp2_with fail
  refine (unhide HAL _).mono ?_
  rintro e w1 ⟨vk, rfl, hownK, b1⟩
  obtain ⟨gp, cp, rfl, -, hgp, hck⟩ := ownI_cells hownK (by intro e; have h := congrArg List.length e; rw [List.length_range, List.length_nil] at h; omega)
  have hcall := hide (unhide HW gp cp w1 b1 hgp hck)
  have B1 := hide ((unhide BB).trans (b1.mono (by rw [unhide HS0]; omega)))
  have V1 := hide ((unhide VV).call b1)
  rw [List.length_range] at hcall
  simp only [List.length_range]
  clear HW HAL hownK b1 hck BB VV
  go_wp2_with fail
  refine (unhide hcall).mono ?_
  rintro e w2 ⟨v', rfl, hown, hgr, hfar⟩
  rw [unhide HS0] at hown
  obtain ⟨va, vc, rfl⟩ := Mem.own_shape hown
  have B2 := hide ((unhide B1).grown hgr (unhide B1).size (fun q hq => by cases hq))
  have V2 := hide ((unhide V1).grown hgr (fun e => by cases e))
  have HO := hide hown
  clear hcall hgr hfar hown B1 V1 hlen
  by_cases h40 : 40 < O.length
  · have y1 : (40 : Int) < (O.length : Int) := by omega
    have HP40 := hide h40
    have hil := hide (fun W => WIll3.ill_any 9 W)
    clear h40
    go_wp2_with fail
    refine (unhide hil _).mono ?_
    rintro e w3 ⟨rfl, b3⟩
    have B3 := (unhide B2).trans (b3.mono (unhide B2).size)
    have V3 := (unhide V2).call b3
    have d0 := V3.cell 0
    have d1 := V3.cell 1
    have f0 := V3.fr 0
    have f1 := V3.fr 1
    simp only [kA0, kA1, kA2] at d0 d1
    clear V3 V2 hil b3 B2 HO
    go_wp2
    refine bodyPost_ret (v := .agg #[.slice none 0 0, .int .i64 9]) (by simp [results, Tryz.results109, go_sem, d0, d1]) rfl ⟨.slice none 0 0, rfl, Mem.ownN_nil _ _, ?_⟩
    exact (B3.setCell (Nat.le_refl _) _).setCell (Nat.le_refl _) _
  · have y1 : ¬ (40 : Int) < (O.length : Int) := by omega
    have HN40 := hide h40
    have V6 : Hid (Mem.Blk ((w2.setCell ⟨w.heap.size, 0, none⟩ (.slice va O.length vc)).setCell ⟨w.heap.size, 1, none⟩ (.int .i64 0)) w.heap.size #[.slice va O.length vc, .int .i64 0] 31) := by
      have h := ((unhide V2).put 0 (.slice va O.length vc)).put 1 (.int .i64 0)
      simp only [kB3] at h
      exact h
    have RT : Hid (Below w.heap.size w ((w2.setCell ⟨w.heap.size, 0, none⟩ (.slice va O.length vc)).setCell ⟨w.heap.size, 1, none⟩ (.int .i64 0)) ∧ Mem.ownN ((w2.setCell ⟨w.heap.size, 0, none⟩ (.slice va O.length vc)).setCell ⟨w.heap.size, 1, none⟩ (.int .i64 0)) w.heap.size (.slice va O.length vc) O) :=
      ⟨((unhide B2).setCell (Nat.le_refl _) _).setCell (Nat.le_refl _) _, Mem.ownN_mono (Mem.ownN_set (Mem.ownN_set (unhide HO) _ _ (by show w.heap.size < _; omega)) _ _ (by show w.heap.size < _; omega)) (by omega)⟩
    have d0 := (unhide V2).cell 0
    have d1 := (unhide V2).cell 1
    have f0 := (unhide V2).fr 0
    have f1 := (unhide V2).fr 1
    simp only [kA0, kA1, kA2] at d0 d1
    clear V2 B2 HO h40
    go_wp2
    generalize (w2.setCell ⟨w.heap.size, 0, none⟩ (.slice va O.length vc)).setCell ⟨w.heap.size, 1, none⟩ (.int .i64 0) = WR at RT V6 ⊢
    have q0 := (unhide V6).cell 0
    have q1 := (unhide V6).cell 1
    simp only [kA0, kA1, kA2] at q0 q1
    exact bodyPost_ret (v := .agg #[.slice va O.length vc, .int .i64 0]) (by simp [results, Tryz.results109, go_sem, q0, q1]) rfl ⟨.slice va O.length vc, rfl, (unhide RT).2, (unhide RT).1⟩
set_option linter.unusedSimpArgs false in
set_option maxRecDepth 100000 in
set_option maxHeartbeats 1000000 in
theorem spec_any (a : Option Addr) (cap : Nat) (Ts : List Pl.Tr) (w : World) (hl : Ts.length ≤ 1048576) (hv : Mem.isTrees w a Ts) (hok : ∀ t ∈ Ts, t.L.length ≤ 1048576 ∧ ∀ n ∈ t.L, n.path.size ≤ 1048576 ∧ n.data.size ≤ 1048576) :
    Calls Tryz.prog 39 #[.agg #[.slice a Ts.length cap]] w fun e w' => ∃ v, e = .returned (.agg #[v, .int .i64 (Pl.overC (Ts.map (·.L)) (Pl.allO (Ts.map (·.L))))]) ∧ Mem.ownN w' w.heap.size v (Pl.overN (Ts.map (·.L)) (Pl.allO (Ts.map (·.L)))) ∧ Below w.heap.size w w' := by
  have b0 : Below w.heap.size w ((w.alloc (.cells #[.slice a Ts.length cap] 56)).alloc (.cells #[.slice none 0 0, .int .i64 0] 31)) := ((Below.refl _ _).alloc (Nat.le_refl _) _).alloc (by simp) _
  have T0 : Mem.Blk ((w.alloc (.cells #[.slice a Ts.length cap] 56)).alloc (.cells #[.slice none 0 0, .int .i64 0] 31)) w.heap.size #[.slice a Ts.length cap] 56 := (Mem.Blk.new _ _ _).alloc _
  have V0 : Mem.Blk ((w.alloc (.cells #[.slice a Ts.length cap] 56)).alloc (.cells #[.slice none 0 0, .int .i64 0] 31)) (w.heap.size + 1) #[.slice none 0 0, .int .i64 0] 31 := Mem.new_two _ _ _
  have HLR := hide (fun W (b : Below w.heap.size w W) => WLayS.any a cap Ts W hl (Mem.trees_call hv b) hok)
  have HOV := hide (fun W (b : Below w.heap.size w W) (h : Pl.layB (Ts.map (·.L)) = true) => over4_any Ts a cap W (Mem.trees_call hv b) (by simp only [Pl.layB, Bool.and_eq_true, decide_eq_true_eq, List.length_map] at h; exact h.1.1) (by have h2 := (Pl.lay_ok h).1; rw [List.length_map] at h2; exact h2) (Pl.lay_ok h).2)
  have E1 : Hid (Pl.layB (Ts.map (·.L)) = false → Pl.overC (Ts.map (·.L)) (Pl.allO (Ts.map (·.L))) = 1 ∧ Pl.overN (Ts.map (·.L)) (Pl.allO (Ts.map (·.L))) = []) := fun h => ⟨by rw [Pl.overC, if_neg (by rw [h]; simp)], by rw [Pl.overN, if_neg (by rw [h]; simp)]⟩
  have E2 : Hid (Pl.layB (Ts.map (·.L)) = true → (if 40 < (Pl.allO (Ts.map (·.L))).length then (9 : Int) else 0) = Pl.overC (Ts.map (·.L)) (Pl.allO (Ts.map (·.L))) ∧ (if 40 < (Pl.allO (Ts.map (·.L))).length then [] else Pl.allO (Ts.map (·.L))) = Pl.overN (Ts.map (·.L)) (Pl.allO (Ts.map (·.L)))) := fun h => by
    refine ⟨by rw [Pl.overC, if_pos h], ?_⟩
    rw [Pl.overN]
    by_cases h40 : 40 < (Pl.allO (Ts.map (·.L))).length
    · rw [if_pos h40, if_neg (by omega)]
    · rw [if_neg h40, if_pos ⟨h, by omega⟩]
  generalize Pl.overC (Ts.map (·.L)) (Pl.allO (Ts.map (·.L))) = RC at E1 E2 ⊢
  generalize Pl.overN (Ts.map (·.L)) (Pl.allO (Ts.map (·.L))) = RN at E1 E2 ⊢
  generalize (if 40 < (Pl.allO (Ts.map (·.L))).length then (9 : Int) else 0) = C2 at HOV E2
  generalize (if 40 < (Pl.allO (Ts.map (·.L))).length then [] else Pl.allO (Ts.map (·.L))) = N2 at HOV E2
  generalize Pl.layB (Ts.map (·.L)) = R1 at HLR HOV E1 E2
  have BB := hide b0
  have TT := hide T0
  have VV := hide V0
  have c0 := T0.cell 0
  simp only [kA0, kA1] at c0
  clear hv hok b0 T0 V0
  go_enter Tryz.func39, Tryz.ntmps39
  go_wp2_with fail
  refine (unhide HLR _ (unhide BB)).mono ?_
  rintro e w1 ⟨rfl, b1⟩
  have B1 := hide ((unhide BB).trans (b1.mono (unhide BB).size))
  have T1 := hide ((unhide TT).call b1)
  have V1 := hide ((unhide VV).call b1)
  clear HLR b1 BB TT VV c0
  cases R1
  · obtain ⟨e1, e2⟩ := unhide E1 (by trivial)
    have X1 := hide e1
    have X2 := hide e2
    have hil := hide (fun W => WIll3.ill_any 1 W)
    clear E1 E2 e1 e2 HOV
    go_wp2_with fail
    refine (unhide hil _).mono ?_
    rintro e w3 ⟨rfl, b3⟩
    have B3 := (unhide B1).trans (b3.mono (unhide B1).size)
    have V3 := (unhide V1).call b3
    have d0 := V3.cell 0
    have d1 := V3.cell 1
    have f0 := V3.fr 0
    have f1 := V3.fr 1
    simp only [kA0, kA1, kA2] at d0 d1
    clear V3 V1 hil b3 B1 T1
    go_wp2
    refine bodyPost_ret (v := .agg #[.slice none 0 0, .int .i64 1]) (by simp [results, Tryz.results39, go_sem, d0, d1]) rfl ⟨.slice none 0 0, by rw [unhide X1], by rw [unhide X2]; exact Mem.ownN_nil _ _, ?_⟩
    exact (B3.setCell (by show w.heap.size ≤ w.heap.size + 1; omega) _).setCell (by show w.heap.size ≤ w.heap.size + 1; omega) _
  · obtain ⟨e1, e2⟩ := unhide E2 (by trivial)
    subst e1 e2
    have hcall := hide (unhide HOV w1 (unhide B1) (by trivial))
    have c0 := (unhide T1).cell 0
    simp only [kA0, kA1] at c0
    clear E1 E2 HOV
    go_wp2_with fail
    refine (unhide hcall).mono ?_
    rintro e w2 ⟨v, rfl, hown, b2⟩
    obtain ⟨va, vc, rfl⟩ := Mem.own_shape hown
    have hlt := (unhide V1).lt
    have B2 := hide ((unhide B1).trans (b2.mono (unhide B1).size))
    have V2 := hide ((unhide V1).call b2)
    have V6 : Hid (Mem.Blk ((w2.setCell ⟨w.heap.size + 1, 0, none⟩ (.slice va N2.length vc)).setCell ⟨w.heap.size + 1, 1, none⟩ (.int .i64 C2)) (w.heap.size + 1) #[.slice va N2.length vc, .int .i64 C2] 31) := by
      have h := ((unhide V2).put 0 (.slice va N2.length vc)).put 1 (.int .i64 C2)
      simp only [kB3] at h
      exact h
    have RT : Hid (Below w.heap.size w ((w2.setCell ⟨w.heap.size + 1, 0, none⟩ (.slice va N2.length vc)).setCell ⟨w.heap.size + 1, 1, none⟩ (.int .i64 C2)) ∧ Mem.ownN ((w2.setCell ⟨w.heap.size + 1, 0, none⟩ (.slice va N2.length vc)).setCell ⟨w.heap.size + 1, 1, none⟩ (.int .i64 C2)) w.heap.size (.slice va N2.length vc) N2) :=
      ⟨((unhide B2).setCell (by show w.heap.size ≤ w.heap.size + 1; omega) _).setCell (by show w.heap.size ≤ w.heap.size + 1; omega) _, Mem.ownN_mono (Mem.ownN_set (Mem.ownN_set hown _ _ (by show w.heap.size + 1 < _; omega)) _ _ (by show w.heap.size + 1 < _; omega)) (by omega)⟩
    have d0 := (unhide V2).cell 0
    have d1 := (unhide V2).cell 1
    have f0 := (unhide V2).fr 0
    have f1 := (unhide V2).fr 1
    simp only [kA0, kA1, kA2] at d0 d1
    clear V2 B2 hown hcall b2 B1 T1 V1 c0
    go_wp2
    generalize (w2.setCell ⟨w.heap.size + 1, 0, none⟩ (.slice va N2.length vc)).setCell ⟨w.heap.size + 1, 1, none⟩ (.int .i64 C2) = WR at RT V6 ⊢
    have q0 := (unhide V6).cell 0
    have q1 := (unhide V6).cell 1
    simp only [kA0, kA1, kA2] at q0 q1
    exact bodyPost_ret (v := .agg #[.slice va N2.length vc, .int .i64 C2]) (by simp [results, Tryz.results39, go_sem, q0, q1]) rfl ⟨.slice va N2.length vc, rfl, (unhide RT).2, (unhide RT).1⟩
end WWalk4
end Go.Proofs.YtibmflhelgedeaaGreatDoor

