/- Several texts of one claim in one file: WLess, WParentI, WNodesI. -/
import Derived.Test.YtnbmpbfligdcjaaDoorG10
import Derived.Test.YtnbmpbfligdcjaaDoorG02
import Derived.Deep.QuietTactic
import Derived.BigQuiet
import Derived.Test.YtnbmpbfligdcjaaDoorG08
import Derived.Test.YtnbmpbfligdcjaaDoorG06
import Derived.Deep.RegionHeld3
import Derived.Maps.OwnSet
/- The walks of a route's ahead and of the program's PathLess (by a method value). -/
namespace Go.Proofs.YtnbmpbfligdcjaaDoor
open Go.RowKit
namespace WLess
set_option maxRecDepth 100000 in
set_option maxHeartbeats 400000 in
theorem ahead_any (v u : Value) (A B : List ByteArray) (w : World) (hA : A.length ≤ 1000) (hB : B.length ≤ 1000) (hv : Mem.isTexts w v A) (hu : Mem.isTexts w u B) :
    Calls Tryd.prog 95 #[v, u] w fun e w' => e = .returned (.bool (Pl.lessL A B)) ∧ Below w.heap.size w w' := by
  have HE : Hid (∀ k, k = A.length ∧ k ≤ B.length ∨ k = B.length ∧ k ≤ A.length → Pl.lessL (A.drop k) (B.drop k) = decide (A.length < B.length)) := fun k h => Pl.less_end h
  by_cases h0 : A = [] ∨ B = []
  · have E : Hid (Pl.lessL A B = decide (A.length < B.length)) := by
      show _ = _
      have := HE.out 0 (by rcases h0 with rfl | rfl <;> simp)
      simpa using this
    obtain ⟨va, vc, rfl⟩ := Mem.texts_shape hv
    obtain ⟨ua, uc, rfl⟩ := Mem.texts_shape hu
    clear hv hu HE
    rcases h0 with rfl | rfl
    · have t0 : (([] : List ByteArray).length : Int) ≤ (B.length : Int) := by simp
      go_enter Tryd.func95, Tryd.ntmps95
      go_wp2
      go_loop [11] (fun i => i = .int .i64 0) (fun _ => 0)
      case atStart => rfl
      case round =>
        subst hrel
        go_wp2
        go_ret
        exact ⟨ret_bool (by rw [E.out]; simp), Below.refl _ _⟩
    · by_cases hA0 : A = []
      · subst hA0
        go_enter Tryd.func95, Tryd.ntmps95
        go_wp2
        go_loop [11] (fun i => i = .int .i64 0) (fun _ => 0)
        case atStart => rfl
        case round =>
          subst hrel
          go_wp2
          go_ret
          exact ⟨ret_bool (by rw [E.out]; simp), Below.refl _ _⟩
      · have hp : 0 < A.length := List.length_pos_iff.2 hA0
        have t0 : ¬ (A.length : Int) ≤ 0 := by omega
        have t1 : ¬ (A.length : Int) < 0 := by omega
        have t2 : (0 : Int) < (A.length : Int) := by omega
        go_enter Tryd.func95, Tryd.ntmps95
        go_wp2
        go_loop [11] (fun i => i = .int .i64 0) (fun _ => 0)
        case atStart => rfl
        case round =>
          subst hrel
          go_wp2
          go_ret
          exact ⟨ret_bool (by rw [E.out]; simp), Below.refl _ _⟩
  · rcases hu with ⟨_, rfl⟩ | ⟨b, o, cap, rfl, hb, hcb⟩
    · simp at h0
    rcases hv with ⟨_, rfl⟩ | ⟨b', o', cap', rfl, hb', hca⟩
    · simp at h0
    have HA := hide hca
    have HB := hide hcb
    clear hca hcb h0
    have HS : Hid (Pl.lessL A B = Pl.lessL (A.drop 0) (B.drop 0)) := rfl
    have HT : Hid (∀ k a b, A[k]? = some a → B[k]? = some b → a = b → Pl.lessL (A.drop k) (B.drop k) = Pl.lessL (A.drop (k + 1)) (B.drop (k + 1))) := fun k a b h1 h2 h3 => Pl.less_same h1 h2 h3
    have HF : Hid (∀ k a b, A[k]? = some a → B[k]? = some b → a ≠ b → Pl.lessL (A.drop k) (B.drop k) = Op.bytesLess a.toList b.toList) := fun k a b h1 h2 h3 => Pl.less_other h1 h2 h3
    generalize Pl.lessL A B = R at HS ⊢
    by_cases hAB : A.length ≤ B.length
    · have t0 : (A.length : Int) ≤ (B.length : Int) := by omega
      go_enter Tryd.func95, Tryd.ntmps95
      go_wp2
      go_loopw [11] (fun i wr => ∃ k : Nat, k ≤ A.length ∧ i = .int .i64 (k : Int) ∧ Below w.heap.size w wr ∧ Hid (R = Pl.lessL (A.drop k) (B.drop k))) (fun i _ => A.length - (intOf i).toNat)
      case atStart => exact ⟨0, Nat.zero_le _, rfl, Below.refl _ _, HS⟩
      case round =>
        obtain ⟨k, hk, rfl, hbel, HR⟩ := hrel
        by_cases hlt : k < A.length
        · obtain ⟨y, hy⟩ : ∃ y, B[k]? = some y := ⟨_, List.getElem?_eq_getElem (by omega)⟩
          obtain ⟨x, hx⟩ : ∃ x, A[k]? = some x := ⟨_, List.getElem?_eq_getElem (by omega)⟩
          have hc1 : wr.cell? ⟨b, o + k, none⟩ = some (.string y) := (hbel.cell (p := ⟨b, o + k, none⟩) hb).trans (HB.out k y hy)
          have hc2 : wr.cell? ⟨b', o' + k, none⟩ = some (.string x) := (hbel.cell (p := ⟨b', o' + k, none⟩) hb').trans (HA.out k x hx)
          have u1 : (k : Int) < (A.length : Int) := by omega
          have u2 : (k : Int) < (B.length : Int) := by omega
          have u3 : (0 : Int) ≤ (k : Int) := by omega
          by_cases hxy : x = y
          · have t2 := Pl.eq_lists hxy
            have HR2 : Hid (R = Pl.lessL (A.drop (k + 1)) (B.drop (k + 1))) := HR.out.trans (HT.out k x y hx hy hxy)
            clear hx hy HR hxy
            go_wp2
            go_quiet (fail)
            go_wp2
            go_roundw
            case rel => exact ⟨k + 1, by omega, by go_num, Mem.below_drewN hbel _, HR2⟩
            case measure => simp [intOf]; omega
          · have t2 := Pl.ne_lists hxy
            have E : Hid (R = Op.bytesLess x.toList y.toList) := HR.out.trans (HF.out k x y hx hy hxy)
            clear hx hy HR hxy
            go_wp2
            go_quiet (fail)
            go_wp2
            go_quiet (fail)
            go_wp2
            go_ret
            exact ⟨ret_bool E.out.symm, Mem.below_drewN (Mem.below_drewN hbel _) _⟩
        · obtain rfl : k = A.length := by omega
          have E : Hid (R = decide (A.length < B.length)) := HR.out.trans (HE.out _ (by omega))
          clear HR
          go_wp2
          go_ret
          exact ⟨ret_bool (by rw [E.out]), hbel⟩
    · have t0 : ¬ (A.length : Int) ≤ (B.length : Int) := by omega
      have t9 : (B.length : Int) < (A.length : Int) := by omega
      go_enter Tryd.func95, Tryd.ntmps95
      go_wp2
      go_loopw [11] (fun i wr => ∃ k : Nat, k ≤ B.length ∧ i = .int .i64 (k : Int) ∧ Below w.heap.size w wr ∧ Hid (R = Pl.lessL (A.drop k) (B.drop k))) (fun i _ => B.length - (intOf i).toNat)
      case atStart => exact ⟨0, Nat.zero_le _, rfl, Below.refl _ _, HS⟩
      case round =>
        obtain ⟨k, hk, rfl, hbel, HR⟩ := hrel
        by_cases hlt : k < B.length
        · obtain ⟨y, hy⟩ : ∃ y, B[k]? = some y := ⟨_, List.getElem?_eq_getElem (by omega)⟩
          obtain ⟨x, hx⟩ : ∃ x, A[k]? = some x := ⟨_, List.getElem?_eq_getElem (by omega)⟩
          have hc1 : wr.cell? ⟨b, o + k, none⟩ = some (.string y) := (hbel.cell (p := ⟨b, o + k, none⟩) hb).trans (HB.out k y hy)
          have hc2 : wr.cell? ⟨b', o' + k, none⟩ = some (.string x) := (hbel.cell (p := ⟨b', o' + k, none⟩) hb').trans (HA.out k x hx)
          have u1 : (k : Int) < (A.length : Int) := by omega
          have u2 : (k : Int) < (B.length : Int) := by omega
          have u3 : (0 : Int) ≤ (k : Int) := by omega
          by_cases hxy : x = y
          · have t2 := Pl.eq_lists hxy
            have HR2 : Hid (R = Pl.lessL (A.drop (k + 1)) (B.drop (k + 1))) := HR.out.trans (HT.out k x y hx hy hxy)
            clear hx hy HR hxy
            go_wp2
            go_quiet (fail)
            go_wp2
            go_roundw
            case rel => exact ⟨k + 1, by omega, by go_num, Mem.below_drewN hbel _, HR2⟩
            case measure => simp [intOf]; omega
          · have t2 := Pl.ne_lists hxy
            have E : Hid (R = Op.bytesLess x.toList y.toList) := HR.out.trans (HF.out k x y hx hy hxy)
            clear hx hy HR hxy
            go_wp2
            go_quiet (fail)
            go_wp2
            go_quiet (fail)
            go_wp2
            go_ret
            exact ⟨ret_bool E.out.symm, Mem.below_drewN (Mem.below_drewN hbel _) _⟩
        · obtain rfl : k = B.length := by omega
          have E : Hid (R = decide (A.length < B.length)) := HR.out.trans (HE.out _ (by omega))
          clear HR
          go_wp2
          go_ret
          exact ⟨ret_bool (by rw [E.out]), hbel⟩

set_option maxRecDepth 100000 in
theorem less_any (p t : ByteArray) (w : World) (hp : p.size ≤ 1048576) (ht : t.size ≤ 1048576) :
    Calls Tryd.prog 82 #[.string p, .string t] w fun e w' => e = .returned (.bool (Pl.pathB p && Pl.pathB t && Pl.lessL (Pl.namesR p) (Pl.namesR t))) ∧ Below w.heap.size w w' := by
  have hn := hide (fun W => WUnder.both_any p t W hp ht)
  have hA := hide (Pl.namesR_all p)
  have hB := hide (Pl.namesR_all t)
  generalize (Pl.pathB p && Pl.pathB t) = r at hn ⊢
  generalize Pl.namesR p = A at hn hA ⊢
  generalize Pl.namesR t = B at hn hB ⊢
  cases r
  · go_enter Tryd.func82, Tryd.ntmps82
    go_wp2_with fail
    refine (unhide hn _).mono ?_
    rintro e w1 ⟨v1, v2, m, rfl, -, -, -, -, hb⟩
    go_wp2
    go_ret
    exact ⟨rfl, hb⟩
  · go_enter Tryd.func82, Tryd.ntmps82
    go_wp2_with fail
    refine (unhide hn _).mono ?_
    rintro e w1 ⟨v1, v2, m, rfl, h1, h2, h3, h4, hb⟩
    have i1 := hide (Mem.own_texts h2)
    have i2 := hide (Mem.own_texts h4)
    clear h2 h4 h3 hn
    go_wp2_with fail
    refine (ahead_any _ _ A B _ (by have := (unhide hA).2; omega) (by have := (unhide hB).2; omega) (unhide i1) (unhide i2)).mono ?_
    rintro e w2 ⟨rfl, hb2⟩
    have hb3 := hb.trans (hb2.mono hb.size)
    generalize hr : Pl.lessL A B = r2
    have HR := hide hr
    clear hr hb hb2
    go_wp2
    go_ret
    exact ⟨by rw [unhide HR]; rfl, hb3⟩
end WLess
end Go.Proofs.YtnbmpbfligdcjaaDoor

/- The walk of the program's PathParent. -/
namespace Go.Proofs.YtnbmpbfligdcjaaDoor
open Go.RowKit
namespace WPathI
set_option maxRecDepth 100000 in
set_option maxHeartbeats 4000000 in
theorem parent_any (s : ByteArray) (w : World) (hs : s.size ≤ 1048576) :
    Calls Tryd.prog 96 #[.string s] w fun e w' => e = .returned (.string (Pl.glue (Pl.namesR s).dropLast)) ∧ Below w.heap.size w w' := by
  have hn := hide (WNames.any s w hs)
  have hL := hide (Pl.namesR_all s)
  generalize Pl.pathB s = r at hn
  generalize Pl.namesR s = L at hn hL
  go_enter Tryd.func96, Tryd.ntmps96
  go_wp2_with fail
  refine (unhide hn).mono ?_
  rintro e w1 ⟨v, rfl, hown, hb⟩
  clear hn
  rcases Mem.texts hown with ⟨rfl, rfl⟩ | ⟨g, cap, rfl, hcap, hm, hgb, hgl, hcell⟩
  · clear hown
    go_wp2_with fail
    refine (WPathOf.any _ [] _ (by simp) (by decide) (.inl ⟨rfl, rfl⟩)).mono ?_
    rintro e w2 ⟨rfl, hb2⟩
    have hb3 := hb.trans (hb2.mono hb.size)
    clear hb hb2
    go_wp2
    go_ret
    exact ⟨rfl, hb3⟩
  · clear hown
    have hm2 := hm
    have HC := hide hcell
    clear hcell
    unfold maxLen at hm2
    by_cases h0 : L.length = 0
    · obtain rfl : L = [] := List.eq_nil_of_length_eq_zero h0
      have m0 : max (-1 : Int) 0 = 0 := by decide
      go_wp2_with fail
      refine (WPathOf.any _ [] _ (by simp) (by decide) (.inr ⟨g, 0, cap, rfl, hgl, fun j t h => by simp at h⟩)).mono ?_
      rintro e w2 ⟨rfl, hb2⟩
      have hb3 := hb.trans (hb2.mono hb.size)
      clear hb hb2
      go_wp2
      go_ret
      exact ⟨rfl, hb3⟩
    · have h1 : (0 : Int) ≤ (L.length : Int) - 1 := by omega
      have m1 : max ((L.length : Int) - 1) 0 = (L.length : Int) - 1 := by omega
      have h2 : (L.length : Int) - 1 ≤ (cap : Int) := by omega
      have E := hide (Pl.drop_last L)
      go_wp2_with fail
      try rw [show (max ((L.length : Int) - 1) 0).toNat = L.length - 1 by omega]
      refine (WPathOf.any _ (L.take (L.length - 1)) _ ?_ (Pl.glue_small (Pl.all_take (unhide hL).1 _) ?_) (Mem.take_texts hgl (unhide HC) _ (by omega))).mono ?_
      · have := (unhide hL).2; simp; omega
      · have := (unhide hL).2; simp; omega
      rintro e w2 ⟨rfl, hb2⟩
      rw [unhide E]
      have hb3 := hb.trans (hb2.mono hb.size)
      clear hb hb2
      go_wp2
      go_ret
      exact ⟨rfl, hb3⟩
end WPathI
end Go.Proofs.YtnbmpbfligdcjaaDoor

/- The walks of the program's parentFault, nodesOf and TreeRight. -/
namespace Go.Proofs.YtnbmpbfligdcjaaDoor
open Go.RowKit Go.Maps
namespace Pl
/-- What stands in the way of a path, as its parent is. -/
def parV (e2 e3 : Value) (C : List Nd) (p : ByteArray) : Value :=
  if (parentP p).size = 0 then .nilIface else match C.find? (fun m => decide (m.path = parentP p)) with | none => e2 | some m => if m.kind = 1 then .nilIface else e3
theorem par_ok {C : List Nd} {p : ByteArray} {u2 u3 : TypeId} {x2 x3 : Value} (hC : C.Pairwise (fun a b => a.path ≠ b.path)) :
    (parI C p = true ∧ parV (.iface u2 x2) (.iface u3 x3) C p = .nilIface) ∨ (parI C p = false ∧ ∃ u x, parV (.iface u2 x2) (.iface u3 x3) C p = .iface u x) := by
  unfold parV parI
  by_cases h0 : (parentP p).size = 0
  · left; simp [h0]
  simp only [h0, decide_false, Bool.false_or, if_false]
  cases hf : C.find? (fun m => decide (m.path = parentP p)) with
  | none =>
    right
    refine ⟨?_, u2, x2, rfl⟩
    rw [List.any_eq_false]
    intro m hm
    have := List.find?_eq_none.1 hf m hm
    simp at this
    simp [this]
  | some m =>
    have h1 := List.mem_of_find?_eq_some hf
    have h2 : m.path = parentP p := by simpa using List.find?_some hf
    by_cases hk : m.kind = 1
    · left
      refine ⟨?_, by simp [hk]⟩
      rw [List.any_eq_true]
      exact ⟨m, h1, by simp [h2, hk]⟩
    · right
      refine ⟨?_, u3, x3, by simp [hk]⟩
      rw [List.any_eq_false]
      intro x hx
      simp only [Bool.and_eq_true, decide_eq_true_eq, not_and]
      intro hxp
      have : x = m := by
        have hp : ∀ {A : List Nd}, A.Pairwise (fun a b => a.path ≠ b.path) → ∀ {a b : Nd}, a ∈ A → b ∈ A → a.path = b.path → a = b := by
          intro A hA
          induction hA with
          | nil => intro a b ha; cases ha
          | cons hx' _ ih =>
            intro a b ha hb e
            rcases List.mem_cons.1 ha with e1 | h1
            · rcases List.mem_cons.1 hb with e2 | h2
              · rw [e1, e2]
              · exact absurd (e1 ▸ e) (hx' _ h2)
            · rcases List.mem_cons.1 hb with e2 | h2
              · exact absurd (e2 ▸ e).symm (hx' _ h1)
              · exact ih h1 h2 e
        exact hp hC hx h1 (hxp.trans h2.symm)
      rw [this]; exact hk
end Pl
namespace MapN
section
variable {P : Program} (w : World) {ops : Array Oper} {rest : List Oper} {o : Oper} {a : Act} {Q : Exit → Act → World → Prop}
/-- 'n, ok := all[path]'. -/
theorem look_ok (hg : o.guard = none) (m x : Operand) (t : TypeId) (hop : o.op = Op.lookup t m x true)
    (k e : TypeId) (K : Keyed P k) (ht : P.underlying t = some (.map k e)) (hz : (zeroValue e).run P w = .ok (Pl.Nd.val ⟨⟨#[]⟩, 0, ⟨#[]⟩, 0, 0⟩) w) (b n : Nat) (D : DataW Unit)
    (hm : a.eval m = .map (some b)) (hown : w.ownsMap P k elem b n D) (kv : Value) (kl : Lit) (hx : a.eval x = kv) (hkey : keyOf P k kv = some kl) (nd : Pl.Nd) (hat : D.atKey kl (dat ⟨⟨#[]⟩, 0, ⟨#[]⟩, 0, 0⟩) = dat nd) (r : Bool) (hr : Maps.has D kl = r)
    (hK : wpList P ops Q rest (a.put o.dst (.tuple #[.agg #[.string nd.path, .int .i64 nd.kind, .string nd.data, .int .i64 nd.time, .int .i64 nd.mark], .bool r])) w) :
    wpList P ops Q (o :: rest) a w :=
  wpList_lookup_own_ok w hg m x t hop k e K ht elem hz _ [] (elem_mk _) b n D hm hown kv kl hx hkey (fun v ps hv => by
    obtain ⟨n1, rfl, hd⟩ := elem_inv hv
    obtain rfl := dat_inj (hat.symm.trans hd)
    rw [hr]
    exact hK)
end
end MapN
namespace WNodesI
/-- Three errors of the program's own: each is there, and none is nil. -/
structure Errs (w : World) (u1 u2 u3 : TypeId) (x1 x2 x3 : Value) : Prop where
  c1 : w.cell? ⟨0, 0, none⟩ = some (.iface u1 x1)
  c2 : w.cell? ⟨2, 0, none⟩ = some (.iface u2 x2)
  c3 : w.cell? ⟨3, 0, none⟩ = some (.iface u3 x3)
theorem Errs.call {w w' : World} {u1 u2 u3 : TypeId} {x1 x2 x3 : Value} (h : Errs w u1 u2 u3 x1 x2 x3) (b : Below w.heap.size w w') : Errs w' u1 u2 u3 x1 x2 x3 :=
  ⟨(b.cell (p := ⟨_, 0, none⟩) (World.block_lt_of_cell? w ⟨_, 0, none⟩ h.c1)).trans h.c1, (b.cell (p := ⟨_, 0, none⟩) (World.block_lt_of_cell? w ⟨_, 0, none⟩ h.c2)).trans h.c2, (b.cell (p := ⟨_, 0, none⟩) (World.block_lt_of_cell? w ⟨_, 0, none⟩ h.c3)).trans h.c3⟩
theorem map_call {w w' : World} {B n : Nat} {D : DataW Unit} (h : w.ownsMap Tryd.prog 9 MapN.elem B n D) (b : Below w.heap.size w w') : w'.ownsMap Tryd.prog 9 MapN.elem B n D :=
  h.kept (row := none) ⟨b.os, b.tape, b.output, b.size, fun k hk _ => b.block k hk⟩ (by simp)
set_option maxRecDepth 100000 in
set_option maxHeartbeats 400000 in
theorem fault_any (B N : Nat) (C : List Pl.Nd) (p : ByteArray) (w : World) (u1 u2 u3 : TypeId) (x1 x2 x3 : Value) (hE : Errs w u1 u2 u3 x1 x2 x3) (hown : w.ownsMap Tryd.prog 9 MapN.elem B N (MapN.mapOf C)) (hC : C.Pairwise (fun a b => a.path ≠ b.path)) (hp : p.size ≤ 1048576) :
    Calls Tryd.prog 83 #[.map (some B), .string p] w fun e w' => e = .returned (Pl.parV (.iface u2 x2) (.iface u3 x3) C p) ∧ Below w.heap.size w w' := by
  have hpa := hide (WPathI.parent_any p w hp)
  have hz := hide (show (Pl.parentP p).size ≤ 1048576 from by
    have h1 := Pl.namesR_all p
    have h2 := Pl.glue_size (Pl.namesR p).dropLast (fun t ht => (Pl.name_free (h1.1 t (List.dropLast_subset _ ht))).2.2.2)
    rw [List.length_dropLast] at h2
    show (Pl.glue (Pl.namesR p).dropLast).size ≤ 1048576
    omega)
  change Hid (Calls Tryd.prog _ _ w fun e w' => e = .returned (.string (Pl.parentP p)) ∧ _) at hpa
  have E1 : Hid ((Pl.parentP p).size = 0 → Pl.parV (.iface u2 x2) (.iface u3 x3) C p = .nilIface) := fun h => by simp [Pl.parV, h]
  have E2 : Hid ((Pl.parentP p).size ≠ 0 → C.find? (fun m => decide (m.path = Pl.parentP p)) = none → Pl.parV (.iface u2 x2) (.iface u3 x3) C p = .iface u2 x2) := fun h hf => by simp [Pl.parV, h, hf]
  have E3 : Hid ((Pl.parentP p).size ≠ 0 → ∀ m, C.find? (fun m => decide (m.path = Pl.parentP p)) = some m → Pl.parV (.iface u2 x2) (.iface u3 x3) C p = if m.kind = 1 then .nilIface else .iface u3 x3) := fun h m hf => by simp [Pl.parV, h, hf]
  generalize Pl.parV (.iface u2 x2) (.iface u3 x3) C p = R at E1 E2 E3 ⊢
  generalize Pl.parentP p = q at hpa hz E1 E2 E3
  have HE := hide hE
  have HM := hide hown
  clear hE hown
  go_enter Tryd.func83, Tryd.ntmps83
  go_wp2_with fail
  refine (unhide hpa).mono ?_
  rintro e w1 ⟨rfl, b1⟩
  have hE1 := (unhide HE).call b1
  have hM1 := hide (map_call (unhide HM) b1)
  have k2 : ∀ o, (w1.alloc o).cell? ⟨2, 0, none⟩ = some (.iface u2 x2) := fun o => (World.cell?_alloc_some _ _ _ (by rw [hE1.c2]; rfl)).trans hE1.c2
  have k3 : ∀ o, (w1.alloc o).cell? ⟨3, 0, none⟩ = some (.iface u3 x3) := fun o => (World.cell?_alloc_some _ _ _ (by rw [hE1.c3]; rfl)).trans hE1.c3
  clear HE HM hpa hE1
  by_cases h0 : q.size = 0
  · have t0 : q.toList.isEmpty = true := by rw [Pl.empty_list]; simpa [Pl.by_nil] using h0
    have E := hide (unhide E1 h0)
    go_wp2
    go_ret
    exact ⟨by rw [unhide E]; rfl, b1⟩
  have t0 : q.toList.isEmpty = false := by rw [Pl.empty_list]; simpa [Pl.by_nil] using h0
  have hkey := MapN.keyOf_mk (p := q) (by have := unhide hz; unfold maxLen; omega)
  cases hf : C.find? (fun m => decide (m.path = q)) with
  | none =>
    have E := hide (unhide E2 h0 hf)
    have hmiss : ∀ n ∈ C, n.path ≠ q := fun n hn => by simpa using List.find?_eq_none.1 hf n hn
    have ha := hide (MapN.has_no hmiss)
    have ha2 := hide (Maps.atKey_of_not_has (unhide ha) (MapN.dat ⟨⟨#[]⟩, 0, ⟨#[]⟩, 0, 0⟩))
    clear E1 E2 E3 hf hmiss
    go_wp2_with (at_lookup; refine MapN.look_ok _ rfl _ _ 93 rfl 9 57 MapN.law Tryd.underlying93 (MapN.zeroN _) B N (MapN.mapOf C) rfl (unhide hM1) _ _ rfl hkey ⟨⟨#[]⟩, 0, ⟨#[]⟩, 0, 0⟩ (unhide ha2) false (unhide ha) ?_)
    go_ret
    exact ⟨by rw [unhide E]; rfl, b1.alloc b1.size _⟩
  | some m =>
    have E := hide (unhide E3 h0 m hf)
    have hm1 := List.mem_of_find?_eq_some hf
    have hm2 : m.path = q := by simpa using List.find?_some hf
    obtain ⟨y1, y2⟩ := MapN.at_yes hC hm1
    rw [hm2] at y1 y2
    have ha := hide y1
    have ha2 := hide (y2 (MapN.dat ⟨⟨#[]⟩, 0, ⟨#[]⟩, 0, 0⟩))
    clear E1 E2 E3 hf y1 y2 hm1 hm2
    by_cases hk : m.kind = 1
    · have E' := hide (show R = .nilIface by rw [unhide E, if_pos hk])
      have t1 : (m.kind == 1) = true := by simpa using hk
      clear E hk
      go_wp2_with (at_lookup; refine MapN.look_ok _ rfl _ _ 93 rfl 9 57 MapN.law Tryd.underlying93 (MapN.zeroN _) B N (MapN.mapOf C) rfl (unhide hM1) _ _ rfl hkey m (unhide ha2) true (unhide ha) ?_)
      go_ret
      exact ⟨by rw [unhide E']; rfl, b1.alloc b1.size _⟩
    · have E' := hide (show R = .iface u3 x3 by rw [unhide E, if_neg hk])
      have t1 : (m.kind == 1) = false := by simpa using hk
      clear E hk
      go_wp2_with (at_lookup; refine MapN.look_ok _ rfl _ _ 93 rfl 9 57 MapN.law Tryd.underlying93 (MapN.zeroN _) B N (MapN.mapOf C) rfl (unhide hM1) _ _ rfl hkey m (unhide ha2) true (unhide ha) ?_)
      go_ret
      exact ⟨by rw [unhide E']; rfl, b1.alloc b1.size _⟩
end WNodesI
end Go.Proofs.YtnbmpbfligdcjaaDoor

