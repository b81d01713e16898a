/- Several texts of one claim in one file: WNodesJ, WNodesR, WLess1S, WParS. -/
import Derived.Test.YtnbmpbfligdcjaaDoorG11
import Derived.Test.YtnbmpbfligdcjaaDoorG09
import Derived.Test.YtnbmpbfligdcjaaDoorG02
import Derived.Test.YtnbmpbfligdcjaaDoorG07
import Derived.Deep.QuietTactic
import Derived.BigQuiet
/- The walks of the program's nodesOf and TreeRight. -/
namespace Go.Proofs.YtnbmpbfligdcjaaDoor
open Go.RowKit Go.Maps
namespace Pl
/-- The nodes so far: rising, the last one at the path lp. -/
structure Inv (C : List Nd) (lp : ByteArray) : Prop where
  right : pathB lp = true
  rise : C.Pairwise (fun a b => lessL (names a.path) (names b.path) = true)
  last : ∀ a ∈ C, a.path = lp ∨ lessL (names a.path) (names lp) = true
theorem inv_start : Inv [] ⟨#[]⟩ := ⟨(right_root rfl).1, List.Pairwise.nil, fun a ha => by cases ha⟩
theorem inv_apart {C : List Nd} {lp : ByteArray} (h : Inv C lp) : C.Pairwise (fun a b => a.path ≠ b.path) :=
  h.rise.imp (fun {a b} hab e => by rw [e, less_irr] at hab; cases hab)
theorem inv_step {C : List Nd} {lp : ByteArray} {n : Nd} (h : Inv C lp) (hn : nodeB n = true) (hl : ltP lp n.path = true) : Inv (C ++ [n]) n.path := by
  have hr := (node_right hn).1
  rw [ltP_right h.right hr] at hl
  have hall : ∀ a ∈ C, lessL (names a.path) (names n.path) = true := fun a ha => by
    rcases h.last a ha with e | e
    · rw [e]; exact hl
    · exact less_trans _ _ _ e hl
  refine ⟨hr, ?_, fun a ha => ?_⟩
  · rw [List.pairwise_append]
    exact ⟨h.rise, List.pairwise_singleton _ _, fun a ha b hb => by simp at hb; subst hb; exact hall a ha⟩
  · rcases List.mem_append.1 ha with ha | ha
    · exact .inr (hall a ha)
    · simp at ha; subst ha; exact .inl rfl
theorem goI_step (L : List Nd) {n : Nd} {k : Nat} (h : L[k]? = some n) (C : List Nd) (lp : ByteArray) : goI C lp (L.drop k) = (nodeB n && ltP lp n.path && parI C n.path && goI (C ++ [n]) n.path (L.drop (k + 1))) := by
  have h1 := (List.getElem?_eq_some_iff.1 h)
  rw [List.drop_eq_getElem_cons h1.1, h1.2, goI]
theorem take_snoc' (L : List Nd) {n : Nd} {k : Nat} (h : L[k]? = some n) : L.take (k + 1) = L.take k ++ [n] := by
  have h1 := (List.getElem?_eq_some_iff.1 h)
  rw [List.take_succ_eq_append_getElem h1.1, h1.2]
end Pl
namespace WNodesI
set_option maxRecDepth 100000 in
set_option maxHeartbeats 1000000 in
theorem nodes_any (a : Option Addr) (cap : Nat) (L : List Pl.Nd) (w : World) (hl : L.length ≤ 1048576) (hv : Mem.isNodes w a L) (hok : ∀ n ∈ L, n.path.size ≤ 1048576 ∧ n.data.size ≤ 1048576)
    (r1 r2 r3 : TypeId) (x1 x2 x3 : Value) (hE : Errs w r1 r2 r3 x1 x2 x3) :
    Calls Tryd.prog 63 #[.agg #[.slice a L.length cap]] w fun e w' => ((Pl.treeB L = true ∧ ∃ B, e = .returned (.tuple #[.map (some B), .nilIface]) ∧ w.heap.size ≤ B ∧ w'.ownsMap Tryd.prog 9 MapN.elem B 40 (MapN.mapOf L)) ∨
      (Pl.treeB L = false ∧ e = .returned (.tuple #[.map none, .iface r1 x1]))) ∧ Below w.heap.size w w' := by
  have b0 : Below w.heap.size w (w.alloc (.cells #[.slice a L.length cap] 29)) := (Below.refl _ _).alloc (Nat.le_refl _) _
  have HV := hide hv
  have HO := hide hok
  have HE := hide hE
  have hvar := hide (Mem.var_new w [.slice a L.length cap] 29)
  have hmm := @run_makeMap Tryd.prog
  have k1 := (hE.call b0).c1
  clear hv hok hE
  by_cases h40 : 40 < L.length
  · have F := hide (show Pl.treeB L = false by simp [Pl.treeB]; omega)
    go_enter Tryd.func63, Tryd.ntmps63
    go_wp2
    go_region
    go_wp2
    go_ret2
    exact ⟨.inr ⟨unhide F, rfl⟩, Mem.below_drewN b0 1⟩
  have h41 : Pl.treeB L = Pl.goI [] ⟨#[]⟩ L := by rw [Pl.treeB, show decide (L.length ≤ 40) = true by simp; omega]; rfl
  rw [h41]
  clear h41
  generalize hR : Pl.goI [] ⟨#[]⟩ L = R
  have HR := hide hR
  clear hR
  go_enter Tryd.func63, Tryd.ntmps63
  go_wp2
  go_loopw [5, 17] (fun v i wr => ∃ (k : Nat) (lp : ByteArray), k ≤ L.length ∧ i = .int .i64 (k : Int) ∧ v = .string lp ∧ lp.size ≤ 200 ∧ Below w.heap.size w wr ∧ Hid (wr.ownsMap Tryd.prog 9 MapN.elem (w.heap.size + 1) k (MapN.mapOf (L.take k))) ∧ Hid (Pl.Inv (L.take k) lp) ∧ Hid (R = Pl.goI (L.take k) lp (L.drop k))) (fun _ i _ => L.length - (intOf i).toNat)
  case atStart =>
    refine ⟨0, ⟨#[]⟩, Nat.zero_le _, rfl, rfl, Nat.zero_le _, ?_, ?_, Pl.inv_start, (unhide HR).symm⟩
    · exact b0.alloc (by simp) _
    · have h := World.ownsMap_made (w.alloc (.cells #[.slice a L.length cap] 29)) Tryd.prog 9 MapN.elem
      rw [show (w.alloc (.cells #[.slice a L.length cap] 29)).heap.size = w.heap.size + 1 by simp] at h
      exact h
  case round =>
    obtain ⟨k, lp, hk, rfl, rfl, hlp, hbel, HM, HI, HR2⟩ := hrel
    by_cases hlt : k < L.length
    · obtain ⟨n, hn⟩ : ∃ n, L[k]? = some n := ⟨_, List.getElem?_eq_getElem hlt⟩
      obtain ⟨b, o, rfl, hb, q0, q1, q2, q3, q4⟩ := (Mem.nodes_call (unhide HV) hbel) k n hn
      have y1 : (k : Int) < (L.length : Int) := by omega
      have y3 : (0 : Int) ≤ (k : Int) := by omega
      have hBl := (unhide HM).lt
      have hsn := unhide HO n (List.mem_of_getElem? hn)
      have hnr := hide (fun W => WNode.impl_any n W hsn.1 hsn.2)
      have hls := hide (fun W => WLess.less_any lp n.path W (by omega) hsn.1)
      change Hid (∀ W, Calls Tryd.prog _ _ W fun e w' => e = .returned (.bool (Pl.ltP lp n.path)) ∧ _) at hls
      have hpf := hide (fun W hE hown hC => fault_any (w.heap.size + 1) k (L.take k) n.path W r1 r2 r3 x1 x2 x3 hE hown hC hsn.1)
      have UG := hide (Pl.goI_step L (n := n) (k := k) hn (L.take k) lp)
      have HN := hide hn
      have hkey := MapN.keyOf_mk (p := n.path) (by have := hsn.1; unfold maxLen; omega)
      have zn := Mem.var_new wr [.string n.path, .int .i64 n.kind, .string n.data, .int .i64 n.time, .int .i64 n.mark] 57
      have bw1 : Below wr.heap.size wr (wr.alloc (.cells #[.string n.path, .int .i64 n.kind, .string n.data, .int .i64 n.time, .int .i64 n.mark] 57)) := (Below.refl _ _).alloc (Nat.le_refl _) _
      have bw2 := hbel.trans (bw1.mono hbel.size)
      have HM1 := hide (map_call (unhide HM) bw1)
      clear hn HM
      simp only [Pl.Nd.val] at hnr
      go_wp2_with fail
      refine (unhide hnr _).mono ?_
      rintro e wA ⟨rfl, bA⟩
      have znA := Mem.var_call zn bA
      have bwA := bw2.trans (bA.mono bw2.size)
      have HMA := hide (map_call (unhide HM1) bA)
      have kA := ((unhide HE).call bwA).c1
      clear zn bw1 bw2 bA HM1 q0 q1 q2 q3 q4 hnr
      have c0 := znA.2 0 _ rfl
      cases hnb : Pl.nodeB n
      · have F := hide (show R = false by rw [unhide HR2, unhide UG, hnb]; rfl)
        clear hnb
        go_wp2
        go_region
        go_wp2
        go_ret2
        exact ⟨.inr ⟨unhide F, rfl⟩, Mem.below_drewN bwA 1⟩
      have HNB := hide hnb
      clear hnb
      go_wp2_with fail
      refine (unhide hls _).mono ?_
      rintro e wB ⟨rfl, bB⟩
      have znB := Mem.var_call znA bB
      have bwB := bwA.trans (bB.mono bwA.size)
      have HMB := hide (map_call (unhide HMA) bB)
      have kB := ((unhide HE).call bwB).c1
      clear znA bwA bB HMA c0 kA hls
      have c0 := znB.2 0 _ rfl
      cases hlb : Pl.ltP lp n.path
      · have F := hide (show R = false by rw [unhide HR2, unhide UG, unhide HNB, hlb]; rfl)
        clear hlb
        go_wp2
        go_region
        go_wp2
        go_ret2
        exact ⟨.inr ⟨unhide F, rfl⟩, Mem.below_drewN bwB 1⟩
      have HLB := hide hlb
      clear hlb
      go_wp2_with fail
      refine (unhide hpf _ ((unhide HE).call bwB) (unhide HMB) (Pl.inv_apart (unhide HI))).mono ?_
      rintro e wC ⟨rfl, bC⟩
      have znC := Mem.var_call znB bC
      have bwC := bwB.trans (bC.mono bwB.size)
      have HMC := hide (map_call (unhide HMB) bC)
      have kC := ((unhide HE).call bwC).c1
      clear znB bwB bC HMB c0 kB hpf
      rcases Pl.par_ok (p := n.path) (u2 := r2) (u3 := r3) (x2 := x2) (x3 := x3) (Pl.inv_apart (unhide HI)) with ⟨hp1, hp2⟩ | ⟨hp1, uu, xx, hp2⟩
      rotate_left
      · have F := hide (show R = false by rw [unhide HR2, unhide UG, unhide HNB, unhide HLB, hp1]; rfl)
        rw [hp2]
        clear hp1 hp2
        go_wp2
        go_region
        go_wp2
        go_ret2
        exact ⟨.inr ⟨unhide F, rfl⟩, Mem.below_drewN bwC 1⟩
      have HR3 := hide (show R = Pl.goI (L.take k ++ [n]) n.path (L.drop (k + 1)) by rw [unhide HR2, unhide UG, unhide HNB, unhide HLB, hp1]; rfl)
      rw [hp2]
      clear hp1 hp2
      have c0 := znC.2 0 _ rfl
      have c1 := znC.2 1 _ rfl
      have c2 := znC.2 2 _ rfl
      have c3 := znC.2 3 _ rfl
      have c4 := znC.2 4 _ rfl
      have hzl := znC.1
      have hne : some wr.heap.size ≠ some (w.heap.size + 1) := fun e => by have := Option.some.inj e; omega
      go_wp2_with (first | (at_mapUpdate; refine wpList_mapUpdate_own _ rfl _ _ _ 93 rfl 9 57 MapN.law Tryd.underlying93 _ (w.heap.size + 1) k _ rfl (unhide HMC) (by unfold maxLen; omega) _ _ _ rfl rfl hkey _ [] (MapN.elem_mk n) ?_; intro wD hownD hgrowD; have cD := hgrowD.cell c0 hne; have HOD := hide hownD; have bwD := bwC.grown hgrowD bwC.size (fun k hk => by cases hk; omega); clear hownD hgrowD) | fail)
      have HI2 := hide (Pl.inv_step (unhide HI) (unhide HNB) (unhide HLB))
      have hnl := Pl.pathB_le (Pl.node_right (unhide HNB)).1
      have HT := hide (Pl.take_snoc' L (unhide HN))
      go_wp2
      go_roundw
      case rel =>
        refine ⟨k + 1, n.path, by omega, by go_num, rfl, hnl, bwD, ?_, ?_, ?_⟩
        · rw [unhide HT, MapN.mapOf_snoc]; exact HOD
        · rw [unhide HT]; exact HI2
        · rw [unhide HT]; exact HR3
      case measure => simp [intOf]; omega
    · obtain rfl : k = L.length := by omega
      have F := hide (show R = true by rw [unhide HR2, List.drop_length]; rfl)
      rw [List.take_length] at HM
      clear HR2
      go_wp2
      go_ret2
      exact ⟨.inl ⟨unhide F, w.heap.size + 1, rfl, by omega, (unhide HM).mono (by omega)⟩, hbel⟩
end WNodesI
end Go.Proofs.YtnbmpbfligdcjaaDoor

/- The walk of the program's TreeRight. -/
namespace Go.Proofs.YtnbmpbfligdcjaaDoor
open Go.RowKit Go.Maps
namespace WNodesI
set_option maxRecDepth 100000 in
theorem treeRight_any (a : Option Addr) (cap : Nat) (L : List Pl.Nd) (w : World) (hl : L.length ≤ 1048576) (hv : Mem.isNodes w a L) (hok : ∀ n ∈ L, n.path.size ≤ 1048576 ∧ n.data.size ≤ 1048576)
    (r1 r2 r3 : TypeId) (x1 x2 x3 : Value) (hE : Errs w r1 r2 r3 x1 x2 x3) :
    Calls Tryd.prog 31 #[.agg #[.slice a L.length cap]] w fun e w' => e = .returned (.bool (Pl.treeB L)) ∧ Below w.heap.size w w' := by
  have b0 : Below w.heap.size w (w.alloc (.cells #[.slice a L.length cap] 29)) := (Below.refl _ _).alloc (Nat.le_refl _) _
  have hn := hide (nodes_any a cap L _ hl (Mem.nodes_call hv b0) hok r1 r2 r3 x1 x2 x3 (hE.call b0))
  clear hv hok hE
  generalize Pl.treeB L = R at hn ⊢
  go_enter Tryd.func31, Tryd.ntmps31
  go_wp2_with fail
  refine (unhide hn).mono ?_
  rintro e w1 ⟨h1, b1⟩
  have b2 := b0.trans (b1.mono b0.size)
  clear hn b0 b1
  rcases h1 with ⟨rfl, B, rfl, -, -⟩ | ⟨rfl, rfl⟩
  · go_wp2
    go_ret
    exact ⟨rfl, b2⟩
  · go_wp2
    go_ret
    exact ⟨rfl, b2⟩
end WNodesI
end Go.Proofs.YtnbmpbfligdcjaaDoor

/- The walk of the specification's l02Less. -/
namespace Go.Proofs.YtnbmpbfligdcjaaDoor
open Go.RowKit
namespace WPathS
set_option maxRecDepth 100000 in
set_option maxHeartbeats 1000000 in
theorem less1_any (p t : ByteArray) (w : World) (hp : p.size ≤ 8000) (ht : t.size ≤ 8000) :
    Calls Tryd.prog 57 #[.string p, .string t] w fun e w' => e = .returned (.bool (Pl.lessL (Pl.names p) (Pl.names t))) ∧ Below w.heap.size w w' := by
  have hn1 := hide (fun W => names_any p W (by omega))
  have hn2 := hide (fun W => names_any t W (by omega))
  have hA := Pl.names_length p
  have hB := Pl.names_length t
  generalize Pl.names p = A at hn1 hA ⊢
  generalize Pl.names t = B at hn2 hB ⊢
  have HE : Hid (∀ k, k = A.length ∧ k ≤ B.length ∨ k = B.length ∧ k ≤ A.length → Pl.lessL (A.drop k) (B.drop k) = decide (A.length < B.length)) := fun k h => Pl.less_end h
  have HS : Hid (Pl.lessL A B = Pl.lessL (A.drop 0) (B.drop 0)) := rfl
  have HT : Hid (∀ k a b, A[k]? = some a → B[k]? = some b → a = b → Pl.lessL (A.drop k) (B.drop k) = Pl.lessL (A.drop (k + 1)) (B.drop (k + 1))) := fun k a b h1 h2 h3 => Pl.less_same h1 h2 h3
  have HF : Hid (∀ k a b, A[k]? = some a → B[k]? = some b → a ≠ b → Pl.lessL (A.drop k) (B.drop k) = Op.bytesLess a.toList b.toList) := fun k a b h1 h2 h3 => Pl.less_other h1 h2 h3
  generalize Pl.lessL A B = R at HS ⊢
  go_enter Tryd.func57, Tryd.ntmps57
  go_wp2_with fail
  refine (unhide hn1 _).mono ?_
  rintro e w1 ⟨v, rfl, hown1, b1⟩
  have HO1 := hide hown1
  clear hown1
  go_wp2_with fail
  refine (unhide hn2 _).mono ?_
  rintro e w2 ⟨u, rfl, hown2, b2⟩
  have hv := hide (Mem.texts_call (Mem.own_texts (unhide HO1)) b2)
  have hu := hide (Mem.own_texts hown2)
  have b3 := b1.trans (b2.mono b1.size)
  have hs3 := b3.size
  clear b1 b2 hown2 HO1 hn1 hn2
  obtain ⟨va, vc, rfl⟩ := Mem.texts_shape (unhide hv)
  obtain ⟨ua, uc, rfl⟩ := Mem.texts_shape (unhide hu)
  have HCA : Hid (∀ (k : Nat) x, A[k]? = some x → ∃ b o, va = some ⟨b, o, none⟩ ∧ b < w2.heap.size ∧ w2.cell? ⟨b, o + k, none⟩ = some (.string x)) := fun k x hx => by
    rcases unhide hv with ⟨_, rfl⟩ | ⟨b, o, cap, h1, h2, h3⟩
    · simp at hx
    · cases h1; exact ⟨b, o, rfl, h2, h3 k x hx⟩
  have HCB : Hid (∀ (k : Nat) x, B[k]? = some x → ∃ b o, ua = some ⟨b, o, none⟩ ∧ b < w2.heap.size ∧ w2.cell? ⟨b, o + k, none⟩ = some (.string x)) := fun k x hx => by
    rcases unhide hu with ⟨_, rfl⟩ | ⟨b, o, cap, h1, h2, h3⟩
    · simp at hx
    · cases h1; exact ⟨b, o, rfl, h2, h3 k x hx⟩
  clear hv hu
  go_wp2
  go_loopw [7] (fun i wr => ∃ k : Nat, k ≤ A.length ∧ k ≤ B.length ∧ i = .int .i64 (k : Int) ∧ Below w2.heap.size w2 wr ∧ Hid (R = Pl.lessL (A.drop k) (B.drop k))) (fun i _ => A.length - (intOf i).toNat)
  case atStart => exact ⟨0, Nat.zero_le _, Nat.zero_le _, rfl, Below.refl _ _, HS⟩
  case round =>
    obtain ⟨k, hk, hk2, rfl, hbel, HR⟩ := hrel
    by_cases hlt : k < A.length ∧ k < B.length
    · obtain ⟨l1, l2⟩ := hlt
      obtain ⟨y, hy⟩ : ∃ y, B[k]? = some y := ⟨_, List.getElem?_eq_getElem (by omega)⟩
      obtain ⟨x, hx⟩ : ∃ x, A[k]? = some x := ⟨_, List.getElem?_eq_getElem (by omega)⟩
      obtain ⟨b, o, rfl, hb, hcb⟩ := HCB.out k y hy
      obtain ⟨b', o', rfl, hb', hca⟩ := HCA.out k x hx
      have hc1 : wr.cell? ⟨b, o + k, none⟩ = some (.string y) := (hbel.cell (p := ⟨b, o + k, none⟩) hb).trans hcb
      have hc2 : wr.cell? ⟨b', o' + k, none⟩ = some (.string x) := (hbel.cell (p := ⟨b', o' + k, none⟩) hb').trans hca
      have u1 : (k : Int) < (A.length : Int) := by omega
      have u2 : (k : Int) < (B.length : Int) := by omega
      have u3 : (0 : Int) ≤ (k : Int) := by omega
      clear hcb hca
      by_cases hxy : x = y
      · have t2 := Pl.eq_lists hxy
        have HR2 : Hid (R = Pl.lessL (A.drop (k + 1)) (B.drop (k + 1))) := HR.out.trans (HT.out k x y hx hy hxy)
        clear hx hy HR hxy
        go_wp2
        go_quiet (fail)
        go_wp2
        go_roundw
        case rel => exact ⟨k + 1, by omega, by omega, by go_num, Mem.below_drewN hbel _, HR2⟩
        case measure => simp [intOf]; omega
      · have t2 := Pl.ne_lists hxy
        have E : Hid (R = Op.bytesLess x.toList y.toList) := HR.out.trans (HF.out k x y hx hy hxy)
        clear hx hy HR hxy
        go_wp2
        go_quiet (fail)
        go_wp2
        go_quiet (fail)
        go_wp2
        go_ret
        exact ⟨ret_bool E.out.symm, b3.trans ((Mem.below_drewN (Mem.below_drewN hbel _) _).mono hs3)⟩
    · have E : Hid (R = decide (A.length < B.length)) := HR.out.trans (HE.out _ (by omega))
      clear HR
      by_cases l1 : k < A.length
      · have u1 : (k : Int) < (A.length : Int) := by omega
        have u2 : ¬ (k : Int) < (B.length : Int) := by omega
        clear hlt
        go_wp2
        go_ret
        exact ⟨ret_bool (by rw [E.out]), b3.trans (hbel.mono hs3)⟩
      · have u1 : ¬ (k : Int) < (A.length : Int) := by omega
        clear hlt
        go_wp2
        go_ret
        exact ⟨ret_bool (by rw [E.out]), b3.trans (hbel.mono hs3)⟩
end WPathS
end Go.Proofs.YtnbmpbfligdcjaaDoor

/- The walks of the specification's l02Cut, l02Parent and PathParent. -/
namespace Go.Proofs.YtnbmpbfligdcjaaDoor
open Go.RowKit
namespace WPathS

set_option maxHeartbeats 400000 in
theorem cut_any (s : ByteArray) (w : World) (hs : s.size ≤ maxLen) :
    Calls Tryd.prog 79 #[.string s] w fun e w' => e = .returned (.int .i64 (Pl.slashTo s s.size)) ∧ w' = w := by
  unfold maxLen at hs
  go_enter Tryd.func79, Tryd.ntmps79
  go_wp2
  go_loop [3, 4] (fun x i => ∃ k : Nat, k ≤ s.size ∧ i = .int .i64 (k : Int) ∧ x = .int .i64 (Pl.slashTo s k)) (fun _ i => s.size - (intOf i).toNat)
  case atStart => exact ⟨0, Nat.zero_le _, rfl, rfl⟩
  case round =>
    obtain ⟨k, hk, rfl, rfl⟩ := hrel
    by_cases hlt : k < s.size
    · by_cases hb : s[k].toNat = 47
      · have H := hide (Pl.slash_hit hlt hb)
        have t1 : ((s[k].toNat : Int) == 47) = true := by rw [beq_iff_eq]; omega
        clear hb
        go_wp2
        go_round
        case rel => exact ⟨k + 1, by omega, by go_num, by rw [unhide H]⟩
        case measure => simp [intOf]; omega
      · have H := hide (Pl.slash_miss hlt hb)
        have t1 : ((s[k].toNat : Int) == 47) = false := by rw [beq_eq_false_iff_ne]; omega
        clear hb
        go_wp2
        go_round
        case rel => exact ⟨k + 1, by omega, by go_num, by rw [unhide H]⟩
        case measure => simp [intOf]; omega
    · obtain rfl : k = s.size := by omega
      go_wp2
      go_ret
      exact ⟨rfl, rfl⟩

theorem parent_any (s : ByteArray) (w : World) (hs : s.size ≤ maxLen) :
    Calls Tryd.prog 59 #[.string s] w fun e w' => e = .returned (.string (Pl.parent s)) ∧ w' = w := by
  have hb := Pl.slash_lt s s.size
  have hc := hide (cut_any s w hs)
  unfold maxLen at hs
  have E0 : Hid (Pl.slashTo s s.size < 0 → Pl.parent s = ⟨#[]⟩) := fun h => if_pos h
  have E1 : Hid (¬ Pl.slashTo s s.size < 0 → Pl.parent s = s.extract 0 (Pl.slashTo s s.size).toNat) := fun h => if_neg h
  generalize Pl.slashTo s s.size = k at hc hb E0 E1
  by_cases h : k < 0
  · have E := hide (E0.out h)
    clear E0 E1
    go_enter Tryd.func59, Tryd.ntmps59
    go_wp2_with (go_at_call 79; refine (unhide hc).mono ?_; rintro e w' ⟨rfl, hw⟩; obtain rfl := hw.symm)
    go_ret
    exact ⟨ret_string (unhide E).symm, rfl⟩
  · have E := hide (E1.out h)
    have t1 : 0 ≤ k := by omega
    have t2 : k ≤ (s.size : Int) := by omega
    clear E0 E1
    go_enter Tryd.func59, Tryd.ntmps59
    go_wp2_with (go_at_call 79; refine (unhide hc).mono ?_; rintro e w' ⟨rfl, hw⟩; obtain rfl := hw.symm)
    go_ret
    exact ⟨ret_string (unhide E).symm, rfl⟩
end WPathS
end Go.Proofs.YtnbmpbfligdcjaaDoor

