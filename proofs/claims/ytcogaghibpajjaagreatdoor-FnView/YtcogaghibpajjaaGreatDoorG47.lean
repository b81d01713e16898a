/- Several texts of one claim in one file: WWalk4, WOver4. -/
import Derived.Test.YtcogaghibpajjaaGreatDoorG15
import Derived.Test.YtcogaghibpajjaaGreatDoorG35
import Derived.Test.YtcogaghibpajjaaGreatDoorG46
import Derived.Test.YtcogaghibpajjaaGreatDoorG09
namespace Go.Proofs.YtcogaghibpajjaaGreatDoor
open Go.RowKit
namespace WWalk4
open zm0 WName4
structure Wk (w0 w W : World) (v0 v : Value) (out : List Pl.Nd) (vl : Value) (NL : List ByteArray) : Prop where
 bel : Below w0.heap.size w0 W
 grown : w.grownBy W v0.ownBlock
 own : Mem.ownN W w0.heap.size v out
 far : ∀ g, v.ownBlock = some g → v0.ownBlock = some g ∨ w.heap.size ≤ g
 txt : Txt W 0 vl NL
 farT : ∀ g, v.ownBlock = some g → vl.ownBlock ≠ some g
theorem grown_call {w v v' : World} {r : Option Nat} (h : w.grownBy v r) (b : Below v.heap.size v v') : w.grownBy v' r :=
 ⟨b.os.trans h.os, b.tape.trans h.tape, b.output.trans h.output, Nat.le_trans h.size b.size, fun j hj hne => (b.block j (Nat.lt_of_lt_of_le hj h.size)).trans (h.block j hj hne)⟩
theorem Wk.call {w0 w W W' : World} {v0 v : Value} {out : List Pl.Nd} {vl : Value} {NL : List ByteArray} (h : Wk w0 w W v0 v out vl NL) (b : Below W.heap.size W W') : Wk w0 w W' v0 v out vl NL :=
 ⟨h.bel.trans (b.mono h.bel.size), grown_call h.grown b, Mem.zn3 h.own b, h.far, Mem.zg5 h.txt b, h.farT⟩
theorem Wk.more {w0 w W W' : World} {v0 v v' : Value} {out out' : List Pl.Nd} {vl : Value} {NL : List ByteArray} (h : Wk w0 w W v0 v out vl NL) (own : Mem.ownN W' w0.heap.size v' out') (g : W.grownBy W' v.ownBlock) (far : ∀ g, v'.ownBlock = some g → v.ownBlock = some g ∨ W.heap.size ≤ g) : Wk w0 w W' v0 v' out' vl NL := by
 have hlo : ∀ q, v.ownBlock = some q → w0.heap.size ≤ q := fun q hq => (World.ownsRow.lt h.own q hq).1
 refine ⟨h.bel.grown g h.bel.size hlo, ?_, own, fun q hq => ?_, zu6 h.txt g (fun q hq e => h.farT q e.symm hq), fun q hq e => ?_⟩
 ·refine ⟨g.os.trans h.grown.os, g.tape.trans h.grown.tape, g.output.trans h.grown.output, Nat.le_trans h.grown.size g.size, fun j hj hne => ?_⟩
  refine (g.block j (Nat.lt_of_lt_of_le hj h.grown.size) (fun e => ?_)).trans (h.grown.block j hj hne)
  rcases h.far j e.symm with h1 | h1
  ·exact hne h1.symm
  ·omega
 ·rcases far q hq with h1 | h1
  ·exact h.far q h1
  ·exact .inr (Nat.le_trans h.grown.size h1)
 ·rcases far q hq with h1 | h1
  ·exact h.farT q h1 e
  ·have := (World.ownsRow.lt h.txt q e).2; omega
theorem step_take {NL : List ByteArray} {f : ByteArray → List Pl.Nd} {j : Nat} {t : ByteArray} (h : NL[j]? = some t) : (NL.take (j + 1)).flatMap f = (NL.take j).flatMap f ++ f t := by
 have h1 := List.getElem?_eq_some_iff.1 h
 rw [List.take_succ_eq_append_getElem h1.1, h1.2, List.flatMap_append]
 simp
theorem take_le (NL : List ByteArray) (f : ByteArray → List Pl.Nd) (j : Nat) : ((NL.take j).flatMap f).length ≤ (NL.flatMap f).length := by
 conv => rhs; rw [← List.take_append_drop j NL, List.flatMap_append, List.length_append]
 omega
def Got (w0 w w' : World) (v v' : Value) (O : List Pl.Nd) : Prop := Mem.ownN w' w0.heap.size v' O ∧ w.grownBy w' v.ownBlock ∧ ∀ g, v'.ownBlock = some g → v.ownBlock = some g ∨ w.heap.size ≤ g
set_option linter.unusedSimpArgs false in
set_option maxRecDepth 100000 in
set_option maxHeartbeats 4000000 in
theorem walk_any (w0 : World) (Ts : List Pl.Tr) (ad : Option Addr) (capt : Nat) (hT : Mem.zs2 w0 ad Ts) (hn4 : Ts.length ≤ 4) (hL : ∀ t ∈ Ts, t.L.length ≤ 40 ∧ ∀ n ∈ t.L, (n.path.size ≤ 1048576 ∧ n.data.size ≤ 1048576) ∧ 0 ≤ n.mark ∧ n.mark ≤ 8) (htr : ∀ M ∈ Ts.map (·.L), Pl.za2 M = true) :
  ∀ (d : Nat) (q : ByteArray) (ks : List Nat) (gp cp : Nat) (v : Value) (out : List Pl.Nd) (w : World), Below w0.heap.size w0 w → Mem.ownN w w0.heap.size v out → gp < w.heap.size → v.ownBlock ≠ some gp → (∀ (i k : Nat), ks[i]? = some k → w.cell? ⟨gp, i, none⟩ = some (.int .i64 (k : Int))) →
   Pl.At4 (Ts.map (·.L)) ks q → ks ≠ [] → (Pl.names q).length + d = 7 → out.length + (Pl.zi9 (Ts.map (·.L)) d ks q).length ≤ 1000 →
   Calls Tryz.prog 61 #[v, .slice ad Ts.length capt, .slice (some ⟨gp, 0, none⟩) ks.length cp, .string q] w fun e w' => ∃ v', e = .returned v' ∧ Got w0 w w' v v' (out ++ Pl.zi9 (Ts.map (·.L)) d ks q) := by
 intro d
 induction d with
 | zero => intro q ks gp cp v out w _ _ _ _ _ ha _ hd _; have := (Pl.zt8 ha.path).2; omega
 | succ d ih =>
  intro q ks gp cp v out w hbel hown hgp hgv hP ha hks hd hbd
  obtain ⟨iN, hiN, hN0, hN1, hN2⟩ := info_parts zk6
  have hk4 : ks.length ≤ 4 := by have := ha.sub.length_le; rw [List.length_range, List.length_map] at this; omega
  have hkl : ∀ k ∈ ks, k < Ts.length := fun k hk => by have := ha.sub.subset hk; rw [List.mem_range, List.length_map] at this; exact this
  have hq2 := Pl.zh1 ha.path
  have hn4' : (Ts.map (·.L)).length ≤ 4 := by rw [List.length_map]; exact hn4
  have HNM := hide (zu q Ts ks ad capt gp cp w (Mem.zr4 hT hbel) hk4 hkl hgp hP (fun t ht => ⟨(hL t ht).1, fun n hn => ((hL t ht).2 n hn).1⟩))
  have HND := hide (fun t (ht : t ∈ Pl.zd6 (Ts.map (·.L)) q ks) => Pl.nk_node hn4' htr ha ht)
  have EW : Hid (Pl.zi9 (Ts.map (·.L)) (d + 1) ks q = (Pl.zd6 (Ts.map (·.L)) q ks).flatMap (Pl.zs8 (Pl.zi9 (Ts.map (·.L)) d) (Ts.map (·.L)) ks q)) := rfl
  generalize Pl.zi9 (Ts.map (·.L)) (d + 1) ks q = RW at EW hbd ⊢
  generalize Pl.zd6 (Ts.map (·.L)) q ks = NL at HNM HND EW
  have HBD := hide hbd
  have HIH := hide ih
  have HP := hide hP
  have HA := hide ha
  have HOW := hide hown
  have HBL := hide hbel
  have HGV := hide hgv
  have HKS := hide hks
  obtain ⟨va, vc, rfl⟩ := Mem.za0 hown
  clear ih hP ha hown hbel hgv hbd hks
  go_enter Tryz.func61, Tryz.ntmps61
  go_wp2_with fail
  refine (za HNM).mono ?_
  rintro e w1 ⟨gl, cl, rfl, htx, hl160, b1⟩
  have A0 : Hid (Wk w0 w w1 (.slice va out.length vc) (.slice va out.length vc) (out ++ (NL.take 0).flatMap (Pl.zs8 (Pl.zi9 (Ts.map (·.L)) d) (Ts.map (·.L)) ks q)) (.slice (some ⟨gl, 0, none⟩) NL.length cl) NL) := by
   refine ⟨(za HBL).trans (b1.mono (za HBL).size), Mem.zi4 b1 _, ?_, fun g hg => .inl hg, Mem.zp8 htx (Nat.zero_le _), fun g hg e => ?_⟩
   ·show Mem.ownN _ _ _ (out ++ [])
    rw [List.append_nil]
    exact Mem.zn3 (za HOW) b1
   ·have h1 := (World.ownsRow.lt (za HOW) g hg).2
    have h2 := (World.ownsRow.lt htx g e).1
    omega
  clear HNM htx b1 HOW HBL
  generalize hf : Pl.zs8 (Pl.zi9 (Ts.map (·.L)) d) (Ts.map (·.L)) ks q = f at A0 EW
  have HF := hide hf
  clear hf
  go_wp2
  go_loopw [0, 10] (fun u i wr => ∃ j : Nat, j ≤ NL.length ∧ i = .int .i64 (j : Int) ∧ Hid (Wk w0 w wr (.slice va out.length vc) u (out ++ (NL.take j).flatMap f) (.slice (some ⟨gl, 0, none⟩) NL.length cl) NL)) (fun _ i _ => NL.length - (intOf i).toNat)
  case atStart => exact ⟨0, Nat.zero_le _, rfl, A0⟩
  case round =>
   obtain ⟨j, hj, rfl, HK⟩ := hrel
   clear A0
   by_cases hlt : j < NL.length
   ·obtain ⟨t, ht⟩ : ∃ t, NL[j]? = some t := ⟨_, List.getElem?_eq_getElem hlt⟩
    obtain ⟨M, hM, m, hm, em, e2, e3⟩ := za HND t (List.mem_of_getElem? ht)
    have htn : t.size ≤ 20 := Nat.le_of_not_lt fun h => by
     have h1 := (Pl.zt8 e3).1 t (by rw [e2]; simp)
     rw [Pl.yb0 h] at h1
     cases h1
    have HST := hide (step_take (f := f) ht)
    have HTL := hide (take_le NL f (j + 1))
    have cL := (za HK).txt.cell ht
    have hbW := (za HK).bel
    have hgW : gp < wr.heap.size := Nat.lt_of_lt_of_le hgp (za HK).grown.size
    have hcells : ∀ (i k : Nat), ks[i]? = some k → wr.cell? ⟨gp, i, none⟩ = some (.int .i64 (k : Int)) := fun i k hik => by
     have hblk := (za HK).grown.block gp hgp (fun e => za HGV e.symm)
     rw [show wr.cell? ⟨gp, i, none⟩ = w.cell? ⟨gp, i, none⟩ by simp only [World.cell?, hblk]]
     exact za HP i k hik
    have HJ := hide (zd9.yd1 q t wr (by omega) (by omega))
    have HCH := hide (child_any (Pl.zc4 q t) Ts ks ad capt gp cp wr (Mem.zr4 hT hbW) hn4 (za HKS) hk4 hkl hgW hcells (fun t ht => ⟨by have := (hL t ht).1; omega, fun n hn => ((hL t ht).2 n hn).2⟩))
    have HSA := hide (Pl.zp0 hn4' htr (za HA) e3 e2)
    have HDN := hide (Pl.zw4 hn4' htr (za HA) e3 e2)
    have EF : Hid (f t = if (Pl.zg6 (Ts.map (·.L)) ks (Pl.zc4 q t)).ok = true then (Pl.zg6 (Ts.map (·.L)) ks (Pl.zc4 q t)).node :: (if (Pl.zg6 (Ts.map (·.L)) ks (Pl.zc4 q t)).node.kind = 1 then Pl.zi9 (Ts.map (·.L)) d (Pl.zg6 (Ts.map (·.L)) ks (Pl.zc4 q t)).parts (Pl.zc4 q t) else []) else []) := by
     show _ = _
     rw [← za HF]
     rfl
    have HDD : Hid ((Pl.names (Pl.zc4 q t)).length + d = 7) := by show _ = _; rw [e2, List.length_append, List.length_singleton]; omega
    have y1 : (j : Int) < (NL.length : Int) := by omega
    have y2 : (0 : Int) ≤ (j : Int) := by omega
    clear hcells hbW ht hM hm em e2 e3 hgW
    go_wp2_with fail
    refine (za HJ).mono ?_
    rintro e wJ ⟨rfl, hwJ⟩
    subst wJ
    clear HJ cL
    generalize Pl.zc4 q t = p at HCH HSA HDN EF HDD ⊢
    generalize Pl.zg6 (Ts.map (·.L)) ks p = o' at HCH HSA HDN EF
    go_wp2_with fail
    refine (za HCH).mono ?_
    rintro e w2 ⟨vp, rfl, hown', b2⟩
    obtain ⟨ok, ⟨np, nk, nd, nt, nm⟩, kz⟩ := o'
    obtain ⟨pa, pc, rfl⟩ := ya3 hown'
    simp only at EF HSA HDN
    simp only [zb2]
    have HUB := hide (fun g hg => (World.ownsRow.lt (za HK).own g hg).2)
    have K2 := hide ((za HK).call b2)
    have hsz2 := b2.size
    have HOP := hide hown'
    clear HK HCH b2 hown'
    go_upto_region 7 with fail
    have bN : Below w2.heap.size w2 (w2.alloc (.cells #[.bool ok, .string np, .int .i64 nk, .string nd, .int .i64 nt, .int .i64 nm, .slice pa kz.length pc] 149)) := (Below.refl _ _).alloc (Nat.le_refl _) _
    have NB := hide (Mem.Blk.new w2 #[.bool ok, .string np, .int .i64 nk, .string nd, .int .i64 nt, .int .i64 nm, .slice pa kz.length pc] 149)
    have K3 := hide ((za K2).call bN)
    have HOP3 := hide (zi6 (za HOP) bN)
    have hpl : ∀ g, (Value.slice pa kz.length pc).ownBlock = some g → wr.heap.size ≤ g ∧ g < w2.heap.size := fun g hg => World.ownsRow.lt (za HOP) g hg
    have HPL := hide hpl
    generalize hW3 : w2.alloc (.cells #[.bool ok, .string np, .int .i64 nk, .string nd, .int .i64 nt, .int .i64 nm, .slice pa kz.length pc] 149) = W3 at NB K3 HOP3 ⊢
    have hX3 : W3.heap.size = w2.heap.size + 1 := by rw [← hW3, zi5]
    have HX3 := hide hX3
    clear hW3 bN K2 HOP hpl hX3
    generalize w2.heap.size = X at NB HPL hsz2 HX3 ⊢
    have x0 := (za NB).cell 0
    simp only [kA0, kA1, kA2] at x0
    cases ok with
    | false =>
     have HZ : Hid (Wk w0 w W3 (.slice va out.length vc) u0 (out ++ (NL.take (j + 1)).flatMap f) (.slice (some ⟨gl, 0, none⟩) NL.length cl) NL) := by
      have h := za EF
      rw [if_neg (by decide)] at h
      rw [za HST, h, List.append_nil]
      exact za K3
     clear K3 NB HOP3 HPL HUB HSA HDN EF HDD HST HTL
     go_wp2
     go_roundw
     case rel => exact ⟨j + 1, by omega, by go_num, HZ⟩
     case measure => simp [intOf]; omega
    | true =>
     have EF2 : Hid (f t = ⟨np, nk, nd, nt, nm⟩ :: (if nk = 1 then Pl.zi9 (Ts.map (·.L)) d kz p else [])) := by
      have h := za EF
      rw [if_pos rfl] at h
      exact h
     have HLT : Hid ((out ++ (NL.take j).flatMap f).length + (f t).length ≤ 1000) := by
      show _ ≤ _
      have h1 := za HBD
      have h2 := za HTL
      rw [za HST, List.length_append] at h2
      rw [za EW] at h1
      rw [List.length_append]
      omega
     have HST2 : Hid (out ++ (NL.take (j + 1)).flatMap f = (out ++ (NL.take j).flatMap f) ++ f t) := by
      show _ = _
      rw [za HST, List.append_assoc]
     clear EF HTL HST
     generalize out ++ (NL.take j).flatMap f = oj at K3 HLT HST2
     obtain ⟨ua, uc, rfl⟩ := Mem.za0 (za K3).own
     by_cases hk1 : nk = 1
     ·subst hk1
      have EF3 : Hid (f t = ⟨np, 1, nd, nt, nm⟩ :: Pl.zi9 (Ts.map (·.L)) d kz p) := by
       have h := za EF2
       rw [if_pos rfl] at h
       exact h
      have HLB : Hid (oj.length + 1 + (Pl.zi9 (Ts.map (·.L)) d kz p).length ≤ 1000) := by
       show _ ≤ _
       have h1 := za HLT
       rw [za EF3, List.length_cons] at h1
       omega
      have HNE : Hid (kz ≠ []) := fun e => (za HSA).no e rfl rfl
      clear EF2 HLT HSA
      have n1 := (za NB).cell 1
      have n2 := (za NB).cell 2
      have n3 := (za NB).cell 3
      have n4 := (za NB).cell 4
      have n5 := (za NB).cell 5
      simp only [kA0, kA1, kA2] at n1 n2 n3 n4 n5
      have K4 := hide ((za K3).call ((Below.refl _ _).alloc (Nat.le_refl _) (.cells #[.string np, .int .i64 1, .string nd, .int .i64 nt, .int .i64 nm] 62)))
      have NB4 := hide ((za NB).alloc (.cells #[.string np, .int .i64 1, .string nd, .int .i64 nt, .int .i64 nm] 62))
      have HOP4 := hide (zi6 (za HOP3) ((Below.refl _ _).alloc (Nat.le_refl _) (.cells #[.string np, .int .i64 1, .string nd, .int .i64 nt, .int .i64 nm] 62)))
      have hb3 := (za K3).bel.size
      clear K3 NB HOP3
      go_wp2_with (at_builtin; refine Mem.za7 _ rfl _ _ 25 rfl w0.heap.size 62 iN _ 5 56 Tryz.underlying25 hiN hN0 hN1 hN2 rfl (by decide) _ _ _ rfl (za K4).own ⟨W3.heap.size, 0, none⟩ 1 1 [.string np, .int .i64 1, .string nd, .int .i64 nt, .int .i64 nm] rfl rfl (Mem.zi W3 ⟨np, 1, nd, nt, nm⟩ 62) (Mem.zh ⟨np, 1, nd, nt, nm⟩) (by have h := za HLB; unfold maxLen; omega) (by have h := za HLB; omega) (by rw [zi5]; omega) ?_)
      intro v' w4 own' grow' far0
      have far' : ∀ g, v'.ownBlock = some g → (Value.slice ua oj.length uc).ownBlock = some g ∨ (W3.alloc (.cells #[.string np, .int .i64 1, .string nd, .int .i64 nt, .int .i64 nm] 62)).heap.size ≤ g := fun g hg => (far0 g hg).imp_right (fun h => by rw [zi5]; exact h)
      have K5 := hide ((za K4).more (out' := oj ++ [⟨np, 1, nd, nt, nm⟩]) (Mem.zd7 own') grow' far')
      have NB5 := hide ((za NB4).grown grow' (fun e => by have := za HUB X e.symm; omega))
      have HOP5 : Hid (ownI w4 wr.heap.size (.slice pa kz.length pc) kz) := zu6 (za HOP4) grow' (fun g hg e => by have h1 := (za HPL g hg).1; have h2 := za HUB g e.symm; omega)
      have HFP : Hid (∀ g, (Value.slice pa kz.length pc).ownBlock = some g → v'.ownBlock ≠ some g) := fun g hg e => by
       have h1 := za HPL g hg
       rcases far' g e with h2 | h2
       ·have := za HUB g h2; omega
       ·rw [zi5, za HX3] at h2; omega
      clear own' grow' far0 far' K4 NB4 HOP4 n1 n2 n3 n4 n5
      have k2 := (za NB5).cell 2
      have k6 := (za NB5).cell 6
      simp only [kA0, kA1, kA2] at k2 k6
      obtain ⟨g', cap', he, -, hgl', hck'⟩ := yh2 (za HOP5) (za HNE)
      injection he with he1 he2 he3
      subst he1 he3
      have hcall := hide (za HIH p kz g' pc v' (oj ++ [⟨np, 1, nd, nt, nm⟩]) w4 (za K5).bel (za K5).own hgl' (za HFP g' rfl) hck' (za HDN) (za HNE) (za HDD) (by rw [List.length_append, List.length_singleton]; exact za HLB))
      clear hck' he2 HOP5 HFP HDN HNE HDD HLB NB5 HPL HUB
      go_wp2_with fail
      refine (za hcall).mono ?_
      rintro e w5 ⟨v'', rfl, hown5, hgr5, hfar5⟩
      have HZ : Hid (Wk w0 w w5 (.slice va out.length vc) v'' (out ++ (NL.take (j + 1)).flatMap f) (.slice (some ⟨gl, 0, none⟩) NL.length cl) NL) := by
       rw [za HST2, za EF3]
       have h := (za K5).more hown5 hgr5 hfar5
       rw [List.append_assoc, List.singleton_append] at h
       exact h
      clear hcall hown5 hgr5 hfar5 K5 HST2 EF3 k2 k6
      go_wp2
      go_roundw
      case rel => exact ⟨j + 1, by omega, by go_num, HZ⟩
      case measure => simp [intOf]; omega
     ·have EF3 : Hid (f t = [⟨np, nk, nd, nt, nm⟩]) := by
       have h := za EF2
       rw [if_neg hk1] at h
       exact h
      have HLB : Hid (oj.length + 1 ≤ 1000) := by
       show _ ≤ _
       have h1 := za HLT
       rw [za EF3] at h1
       exact h1
      clear EF2 HLT HSA
      have n1 := (za NB).cell 1
      have n2 := (za NB).cell 2
      have n3 := (za NB).cell 3
      have n4 := (za NB).cell 4
      have n5 := (za NB).cell 5
      simp only [kA0, kA1, kA2] at n1 n2 n3 n4 n5
      have K4 := hide ((za K3).call ((Below.refl _ _).alloc (Nat.le_refl _) (.cells #[.string np, .int .i64 nk, .string nd, .int .i64 nt, .int .i64 nm] 62)))
      have NB4 := hide ((za NB).alloc (.cells #[.string np, .int .i64 nk, .string nd, .int .i64 nt, .int .i64 nm] 62))
      have HOP4 := hide (zi6 (za HOP3) ((Below.refl _ _).alloc (Nat.le_refl _) (.cells #[.string np, .int .i64 nk, .string nd, .int .i64 nt, .int .i64 nm] 62)))
      have hb3 := (za K3).bel.size
      clear K3 NB HOP3
      go_wp2_with (at_builtin; refine Mem.za7 _ rfl _ _ 25 rfl w0.heap.size 62 iN _ 5 56 Tryz.underlying25 hiN hN0 hN1 hN2 rfl (by decide) _ _ _ rfl (za K4).own ⟨W3.heap.size, 0, none⟩ 1 1 [.string np, .int .i64 nk, .string nd, .int .i64 nt, .int .i64 nm] rfl rfl (Mem.zi W3 ⟨np, nk, nd, nt, nm⟩ 62) (Mem.zh ⟨np, nk, nd, nt, nm⟩) (by have h := za HLB; unfold maxLen; omega) (by have h := za HLB; omega) (by rw [zi5]; omega) ?_)
      intro v' w4 own' grow' far0
      have far' : ∀ g, v'.ownBlock = some g → (Value.slice ua oj.length uc).ownBlock = some g ∨ (W3.alloc (.cells #[.string np, .int .i64 nk, .string nd, .int .i64 nt, .int .i64 nm] 62)).heap.size ≤ g := fun g hg => (far0 g hg).imp_right (fun h => by rw [zi5]; exact h)
      have K5 := hide ((za K4).more (out' := oj ++ [⟨np, nk, nd, nt, nm⟩]) (Mem.zd7 own') grow' far')
      have NB5 := hide ((za NB4).grown grow' (fun e => by have := za HUB X e.symm; omega))
      have HOP5 : Hid (ownI w4 wr.heap.size (.slice pa kz.length pc) kz) := zu6 (za HOP4) grow' (fun g hg e => by have h1 := (za HPL g hg).1; have h2 := za HUB g e.symm; omega)
      have HFP : Hid (∀ g, (Value.slice pa kz.length pc).ownBlock = some g → v'.ownBlock ≠ some g) := fun g hg e => by
       have h1 := za HPL g hg
       rcases far' g e with h2 | h2
       ·have := za HUB g h2; omega
       ·rw [zi5, za HX3] at h2; omega
      clear own' grow' far0 far' K4 NB4 HOP4 n1 n2 n3 n4 n5
      have k2 := (za NB5).cell 2
      have k6 := (za NB5).cell 6
      simp only [kA0, kA1, kA2] at k2 k6
      have HZ : Hid (Wk w0 w w4 (.slice va out.length vc) v' (out ++ (NL.take (j + 1)).flatMap f) (.slice (some ⟨gl, 0, none⟩) NL.length cl) NL) := by
       rw [za HST2, za EF3]
       exact za K5
      clear K5 HST2 EF3 HOP5 HFP HDN HDD HLB NB5 HPL HUB k6
      go_wp2
      go_roundw
      case rel => exact ⟨j + 1, by omega, by go_num, HZ⟩
      case measure => simp [intOf]; omega
   ·obtain rfl : j = NL.length := by omega
    have y1 : ¬ (NL.length : Int) < (NL.length : Int) := by omega
    have HZ : Hid (Got w0 w wr (.slice va out.length vc) u0 (out ++ RW)) := by
     have h := za HK
     rw [List.take_length, ← za EW] at h
     exact ⟨h.own, h.grown, h.far⟩
    clear HK
    go_wp2
    go_ret
    exact ⟨_, rfl, za HZ⟩
end WWalk4
end Go.Proofs.YtcogaghibpajjaaGreatDoor

namespace Go.Proofs.YtcogaghibpajjaaGreatDoor
open Go.RowKit
namespace WWalk4
open zm0 WName4
set_option linter.unusedSimpArgs false in
set_option maxRecDepth 100000 in
set_option maxHeartbeats 1000000 in
theorem over4_any (Ts : List Pl.Tr) (ad : Option Addr) (capt : Nat) (w : World) (hT : Mem.zs2 w ad Ts) (hn1 : 1 ≤ Ts.length) (hn4 : Ts.length ≤ 4) (htr : ∀ M ∈ Ts.map (·.L), Pl.za2 M = true) :
  Calls Tryz.prog 43 #[.slice ad Ts.length capt] w fun e w' => ∃ v, e = .returned (.agg #[v, .int .i64 (if 40 < (Pl.allO (Ts.map (·.L))).length then 9 else 0)]) ∧ Mem.ownN w' w.heap.size v (if 40 < (Pl.allO (Ts.map (·.L))).length then [] else Pl.allO (Ts.map (·.L))) ∧ Below w.heap.size w w' := by
 have b0 : Below w.heap.size w (w.alloc (.cells #[.slice none 0 0, .int .i64 0] 29)) := (Below.refl _ _).alloc (Nat.le_refl _) _
 have V0 := Mem.Blk.new w #[.slice none 0 0, .int .i64 0] 29
 have hs0 := zi5 w (.cells #[.slice none 0 0, .int .i64 0] 29)
 have hL : ∀ t ∈ Ts, t.L.length ≤ 40 ∧ ∀ n ∈ t.L, (n.path.size ≤ 1048576 ∧ n.data.size ≤ 1048576) ∧ 0 ≤ n.mark ∧ n.mark ≤ 8 := fun t ht => by
  have h1 := htr t.L (List.mem_map_of_mem ht)
  simp only [Pl.za2, Bool.and_eq_true, decide_eq_true_eq] at h1
  refine ⟨h1.1, fun n hn => ?_⟩
  have h2 := Pl.zo8 t.L _ _ h1.2 n hn
  have h3 := Pl.zh0 h2
  have h4 := Pl.zh1 (Pl.ze3 h2).1
  exact ⟨⟨by omega, by omega⟩, by omega⟩
 have hn4' : (Ts.map (·.L)).length ≤ 4 := by rw [List.length_map]; exact hn4
 have hroot := Pl.zq0 hn4'
 have hlen := Pl.all_len hn4' htr
 have HW := hide (fun (gp cp : Nat) (W : World) (hb : Below (w.alloc (.cells #[.slice none 0 0, .int .i64 0] 29)).heap.size (w.alloc (.cells #[.slice none 0 0, .int .i64 0] 29)) W) (hg : gp < W.heap.size) hc =>
  walk_any (w.alloc (.cells #[.slice none 0 0, .int .i64 0] 29)) Ts ad capt (Mem.zr4 hT b0) hn4 hL htr 7 ⟨#[]⟩ (List.range Ts.length) gp cp (.slice none 0 0) [] W hb (Mem.zb8 _ _) hg (fun e => by cases e) hc (by rw [List.length_map] at hroot; exact hroot) (fun e => by have h := congrArg List.length e; rw [List.length_range, List.length_nil] at h; omega) (by rw [(Pl.zf9 (s := ⟨#[]⟩) rfl).2]; rfl) (by
   have h := hlen
   unfold Pl.allO at h
   rw [List.length_map] at h
   simp only [List.length_nil]
   omega))
 have EO : Hid ([] ++ Pl.zi9 (Ts.map (·.L)) 7 (List.range Ts.length) ⟨#[]⟩ = Pl.allO (Ts.map (·.L))) := by
  show _ = _
  unfold Pl.allO
  rw [List.nil_append, List.length_map]
 rw [za EO] at HW
 have HAL := hide (fun W => all_any Ts.length W hn4)
 generalize Pl.allO (Ts.map (·.L)) = O at HW hlen ⊢
 have HS0 := hide hs0
 have BB := hide b0
 have VV := hide V0
 clear hT hL htr hroot EO b0 V0 hs0
 go_enter Tryz.func43, Tryz.ntmps43
 go_wp2_with fail
 refine (za HAL _).mono ?_
 rintro e w1 ⟨vk, rfl, hownK, b1⟩
 obtain ⟨gp, cp, rfl, -, hgp, hck⟩ := yh2 hownK (by intro e; have h := congrArg List.length e; rw [List.length_range, List.length_nil] at h; omega)
 have hcall := hide (za HW gp cp w1 b1 hgp hck)
 have B1 := hide ((za BB).trans (b1.mono (by rw [za HS0]; omega)))
 have V1 := hide ((za VV).call b1)
 rw [List.length_range] at hcall
 simp only [List.length_range]
 clear HW HAL hownK b1 hck BB VV
 go_wp2_with fail
 refine (za hcall).mono ?_
 rintro e w2 ⟨v', rfl, hown, hgr, hfar⟩
 rw [za HS0] at hown
 obtain ⟨va, vc, rfl⟩ := Mem.za0 hown
 have B2 := hide ((za B1).grown hgr (za B1).size (fun q hq => by cases hq))
 have V2 := hide ((za V1).grown hgr (fun e => by cases e))
 have HO := hide hown
 clear hcall hgr hfar hown B1 V1 hlen
 by_cases h40 : 40 < O.length
 ·have y1 : (40 : Int) < (O.length : Int) := by omega
  have HP40 := hide h40
  have hil := hide (fun W => zk0.zh2 9 W)
  clear h40
  go_wp2_with fail
  refine (za hil _).mono ?_
  rintro e w3 ⟨rfl, b3⟩
  have B3 := (za B2).trans (b3.mono (za B2).size)
  have V3 := (za V2).call b3
  have d0 := V3.cell 0
  have d1 := V3.cell 1
  have f0 := V3.fr 0
  have f1 := V3.fr 1
  simp only [kA0, kA1, kA2] at d0 d1
  clear V3 V2 hil b3 B2 HO
  go_wp2
  refine bodyPost_ret (v := .agg #[.slice none 0 0, .int .i64 9]) (by simp [results, Tryz.results43, go_sem, d0, d1]) rfl ⟨.slice none 0 0, rfl, Mem.zb8 _ _, ?_⟩
  exact (B3.setCell (Nat.le_refl _) _).setCell (Nat.le_refl _) _
 ·have y1 : ¬ (40 : Int) < (O.length : Int) := by omega
  have HN40 := hide h40
  have V6 : Hid (Mem.Blk ((w2.setCell ⟨w.heap.size, 0, none⟩ (.slice va O.length vc)).setCell ⟨w.heap.size, 1, none⟩ (.int .i64 0)) w.heap.size #[.slice va O.length vc, .int .i64 0] 29) := by
   have h := ((za V2).put 0 (.slice va O.length vc)).put 1 (.int .i64 0)
   simp only [kB3] at h
   exact h
  have RT : Hid (Below w.heap.size w ((w2.setCell ⟨w.heap.size, 0, none⟩ (.slice va O.length vc)).setCell ⟨w.heap.size, 1, none⟩ (.int .i64 0)) ∧ Mem.ownN ((w2.setCell ⟨w.heap.size, 0, none⟩ (.slice va O.length vc)).setCell ⟨w.heap.size, 1, none⟩ (.int .i64 0)) w.heap.size (.slice va O.length vc) O) :=
   ⟨((za B2).setCell (Nat.le_refl _) _).setCell (Nat.le_refl _) _, Mem.zb0 (Mem.za5 (Mem.za5 (za HO) _ _ (by show w.heap.size < _; omega)) _ _ (by show w.heap.size < _; omega)) (by omega)⟩
  have d0 := (za V2).cell 0
  have d1 := (za V2).cell 1
  have f0 := (za V2).fr 0
  have f1 := (za V2).fr 1
  simp only [kA0, kA1, kA2] at d0 d1
  clear V2 B2 HO h40
  go_wp2
  generalize (w2.setCell ⟨w.heap.size, 0, none⟩ (.slice va O.length vc)).setCell ⟨w.heap.size, 1, none⟩ (.int .i64 0) = WR at RT V6 ⊢
  have q0 := (za V6).cell 0
  have q1 := (za V6).cell 1
  simp only [kA0, kA1, kA2] at q0 q1
  exact bodyPost_ret (v := .agg #[.slice va O.length vc, .int .i64 0]) (by simp [results, Tryz.results43, go_sem, q0, q1]) rfl ⟨.slice va O.length vc, rfl, (za RT).2, (za RT).1⟩
end WWalk4
end Go.Proofs.YtcogaghibpajjaaGreatDoor

