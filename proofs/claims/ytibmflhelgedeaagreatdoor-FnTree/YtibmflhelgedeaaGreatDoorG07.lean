/- Several texts of one claim in one file: WIll3, MemAppend, MapN, WBothI, WLess, WParentI, WNodesI, WNodesJ. -/
import Derived.Test.YtibmflhelgedeaaGreatDoorG02
import Derived.Test.YtibmflhelgedeaaGreatDoorProg
import Derived.WalkKit
import Derived.Deep.RegionHeld3
import Derived.Laws.AppendOwn
import Derived.Test.YtibmflhelgedeaaGreatDoorG01
import Derived.Maps.OwnSet
import Derived.Test.YtibmflhelgedeaaGreatDoorG03
import Derived.Test.YtibmflhelgedeaaGreatDoorG00
import Derived.Deep.QuietTactic
import Derived.BigQuiet
/- The walk of the specification's l03Ill. -/
namespace Go.Proofs.YtibmflhelgedeaaGreatDoor
open Go.RowKit
namespace WIll3
set_option maxRecDepth 100000 in
theorem ill_any (c : Int) (w : World) :
    Calls Tryz.prog 82 #[.int .i64 c] w fun e w' => e = .returned (.agg #[.slice none 0 0, .int .i64 c]) ∧ Below w.heap.size w w' := by
  have b0 : Below w.heap.size w (w.alloc (.cells #[.slice none 0 0, .int .i64 c] 31)) := (Below.refl _ _).alloc (Nat.le_refl _) _
  have HB := hide (fun o (a : Addr) v (h : w.heap.size ≤ a.block) (a2 : Addr) v2 (h2 : w.heap.size ≤ a2.block) => ((((Below.refl w.heap.size w).alloc (Nat.le_refl _) o).setCell h v).setCell h2 v2))
  clear b0
  go_enter Tryz.func82, Tryz.ntmps82
  go_wp2
  refine bodyPost_ret (v := .agg #[.slice none 0 0, .int .i64 c]) (by simp [results, Tryz.results82, go_sem]) rfl ⟨rfl, ?_⟩
  exact (Below.refl _ _).alloc (Nat.le_refl _) _
end WIll3
end Go.Proofs.YtibmflhelgedeaaGreatDoor

/- An append to a row of the call's own, inside a region that draws its order; a variable of five cells through it. -/
namespace Go.Proofs.YtibmflhelgedeaaGreatDoor
open Go.RowKit
namespace Mem
theorem step_append_own {P : Program} {ops : Array Oper} {o : Oper} {a : Act} {w : World} {K : Act → World → Prop} {Q : Exit → Act → World → Prop} {E : Prop}
    (hg : o.guard = none) (s x : Operand) (t : TypeId) (hop : o.op = Op.call { callee := Callee.builtin Builtin.append, args := #[s, x], argTypes := #[t, t] })
    (base : Nat) (e : TypeId) (i : TypeInfo) (z : Value) (size bytes : Nat) (h1 : P.underlying t = some (.slice e)) (h2 : P.info? e = some i) (h3 : i.zero = some z) (h4 : i.size = size) (h5 : i.bytes = bytes) (h6 : z.cells.size = size) (h7 : 0 < size)
    (v : Value) (n : Nat) (xs : List Value) (hs : a.eval s = v) (hown : w.ownsRow base e size v n xs)
    (ad : Addr) (m c : Nat) (news : List Value) (hx : a.eval x = .slice (some ad) m c) (hn : news.length = m * size) (hc : ∀ j u, news[j]? = some u → w.cell? (ad.add j) = some u) (h1c : ∀ u ∈ news, u.oneCell' = true)
    (b1 : n + m ≤ maxLen) (b2 : (n + m) * bytes ≤ 140737488355328) (hbase : base ≤ w.heap.size)
    (hK : ∀ v' w', w'.ownsRow base e size v' (n + m) (xs ++ news) → w.grownBy w' v.ownBlock → K (a.put o.dst v') w') :
    if Region.wanted o (yielded ops a.tmps) = true then Oper.wp P o a w K Q else E := by
  have hw : Region.wanted o (yielded ops a.tmps) = true := by simp [Region.wanted, hg]
  rw [if_pos hw]
  obtain ⟨v', w', hrun, r1, r2, _⟩ := run_append_own (P := P) w base t o.type e i z size bytes h1 h2 h3 h4 h5 h6 h7 v n xs hown ad m c news hn hc h1c b1 b2 hbase
  unfold Oper.wp
  simp [execOp, hop, resolve, invoke, builtin, hs, hx, hrun, Result.andThen]
  exact hK v' w' r1 r2
theorem five_new (w : World) (a b c d e : ByteArray) (T : TypeId) (g : Nat) (hg : g = w.heap.size) : ∀ j u, [Value.string a, .string b, .string c, .string d, .string e][j]? = some u → (w.alloc (.cells #[.string a, .string b, .string c, .string d, .string e] T)).cell? ((⟨g, 0, none⟩ : Addr).add j) = some u := by
  subst hg
  intro j u hj
  rw [Mem.add_lit]
  exact (Mem.var_new w [.string a, .string b, .string c, .string d, .string e] T).2 j u hj
theorem five_one (a b c d e : ByteArray) : ∀ u ∈ [Value.string a, .string b, .string c, .string d, .string e], u.oneCell' = true := by
  intro u hu
  simp only [List.mem_cons, List.not_mem_nil, or_false] at hu
  rcases hu with rfl | rfl | rfl | rfl | rfl <;> rfl
end Mem
end Go.Proofs.YtibmflhelgedeaaGreatDoor

/- A map from paths to nodes: what it reads as. -/
namespace Go.Proofs.YtibmflhelgedeaaGreatDoor
open Go.RowKit Go.Maps
namespace MapN
def key (p : ByteArray) : Lit := .string p.data.toList
def dat (n : Pl.Nd) : DataW Unit := .agg [.lit (.string n.path.data.toList), .lit (.int .i64 n.kind), .lit (.string n.data.data.toList), .lit (.int .i64 n.time), .lit (.int .i64 n.mark)]
theorem dat_inj {a b : Pl.Nd} (h : dat a = dat b) : a = b := by
  obtain ⟨p, k, d, t, m⟩ := a
  obtain ⟨p', k', d', t', m'⟩ := b
  simp only [dat, DataW.agg.injEq, List.cons.injEq, DataW.lit.injEq, Lit.string.injEq, Lit.int.injEq, and_true, true_and] at h
  obtain ⟨h1, h2, h3, h4, h5⟩ := h
  have e1 : p = p' := Pl.by_inj h1
  have e2 : d = d' := Pl.by_inj h3
  subst e1 e2 h2 h4 h5
  rfl
/-- How an element's value reads. -/
def elem : Value → Option (DataW Unit × List MemPlace)
  | .agg cs => match cs.toList with
    | [.string p, .int .i64 k, .string d, .int .i64 t, .int .i64 m] => some (dat ⟨p, k, d, t, m⟩, [])
    | _ => none
  | _ => none
theorem elem_mk (n : Pl.Nd) : elem n.val = some (dat n, []) := rfl
theorem elem_inv {v : Value} {d : DataW Unit} {ps : List MemPlace} (h : elem v = some (d, ps)) : ∃ n : Pl.Nd, v = n.val ∧ d = dat n := by
  unfold elem at h
  split at h
  · rename_i cs
    split at h
    · rename_i p k d' t m hcs
      simp only [Option.some.injEq, Prod.mk.injEq] at h
      refine ⟨⟨p, k, d', t, m⟩, ?_, h.1.symm⟩
      rw [Pl.Nd.val, show cs = cs.toList.toArray by simp, hcs]
    · cases h
  · cases h
/-- The map of some nodes, put one behind the other. -/
def mapOf (C : List Pl.Nd) : DataW Unit := C.foldl (fun D n => D.put (key n.path) (dat n)) (.map [])
theorem mapOf_snoc (C : List Pl.Nd) (n : Pl.Nd) : mapOf (C ++ [n]) = (mapOf C).put (key n.path) (dat n) := by simp [mapOf, List.foldl_append]
theorem key_is (p : ByteArray) : WideAt.IsKeyLit (key p) := by simp [key, WideAt.IsKeyLit]
theorem key_ne {a b : ByteArray} (h : a ≠ b) : key a ≠ key b := fun e => h (Pl.by_inj (Lit.string.inj e))
theorem isMap_fold : ∀ (C : List Pl.Nd) (D : DataW Unit), IsMap D → IsMap (C.foldl (fun D n => D.put (key n.path) (dat n)) D) := by
  intro C
  induction C with
  | nil => intro D h; exact h
  | cons n C ih => intro D h; exact ih _ (h.put _ _)
theorem mapOf_isMap (C : List Pl.Nd) : IsMap (mapOf C) := isMap_fold C _ isMap_empty
theorem mapOf_miss (p : ByteArray) : ∀ (C : List Pl.Nd) (D : DataW Unit), (∀ n ∈ C, n.path ≠ p) → Maps.has (C.foldl (fun D n => D.put (key n.path) (dat n)) D) (key p) = Maps.has D (key p) ∧ ∀ z, (C.foldl (fun D n => D.put (key n.path) (dat n)) D).atKey (key p) z = D.atKey (key p) z := by
  intro C
  induction C with
  | nil => intro D _; exact ⟨rfl, fun _ => rfl⟩
  | cons n C ih =>
    intro D h
    have h1 : key p ≠ key n.path := key_ne (fun e => h n List.mem_cons_self e.symm)
    obtain ⟨i1, i2⟩ := ih (D.put (key n.path) (dat n)) (fun m hm => h m (List.mem_cons_of_mem _ hm))
    refine ⟨?_, fun z => ?_⟩
    · show Maps.has (C.foldl _ (D.put (key n.path) (dat n))) (key p) = _
      rw [i1, has_put_other h1]
    · show (C.foldl _ (D.put (key n.path) (dat n))).atKey (key p) z = _
      rw [i2, atKey_put_other h1]
theorem has_no {C : List Pl.Nd} {p : ByteArray} (h : ∀ n ∈ C, n.path ≠ p) : Maps.has (mapOf C) (key p) = false := by
  rw [mapOf, (mapOf_miss p C _ h).1]; rfl
/-- Where no two have one path: what stands at a path. -/
theorem at_yes {C : List Pl.Nd} {n : Pl.Nd} (hC : C.Pairwise (fun a b => a.path ≠ b.path)) (hn : n ∈ C) : Maps.has (mapOf C) (key n.path) = true ∧ ∀ z, (mapOf C).atKey (key n.path) z = dat n := by
  obtain ⟨A, B, rfl⟩ := List.append_of_mem hn
  rw [List.pairwise_append] at hC
  have h2 := (List.pairwise_cons.1 hC.2.1).1
  have e : mapOf (A ++ n :: B) = B.foldl (fun D n => D.put (key n.path) (dat n)) ((mapOf A).put (key n.path) (dat n)) := by simp [mapOf, List.foldl_append]
  obtain ⟨i1, i2⟩ := mapOf_miss n.path B ((mapOf A).put (key n.path) (dat n)) (fun m hm e => h2 m hm e.symm)
  rw [e]
  exact ⟨by rw [i1, has_put_same (mapOf_isMap A) (key_is _)], fun z => by rw [i2, atKey_put_same (mapOf_isMap A) (key_is _)]⟩
theorem law : Keyed Tryz.prog 9 := string_keyed Tryz.underlying9
theorem zeroN (w : World) : (zeroValue 27).run Tryz.prog w = .ok (Pl.Nd.val ⟨⟨#[]⟩, 0, ⟨#[]⟩, 0, 0⟩) w := by kernel_rfl
theorem keyOf_mk {p : ByteArray} (h : p.size ≤ maxLen) : keyOf Tryz.prog 9 (.string p) = some (key p) := WideMaps.keyOf_string_mk Tryz.underlying9 h
end MapN
end Go.Proofs.YtibmflhelgedeaaGreatDoor

/- The walk of namesOfBoth. -/
namespace Go.Proofs.YtibmflhelgedeaaGreatDoor
open Go.RowKit
namespace WUnder
set_option maxRecDepth 100000 in
theorem both_any (a b : ByteArray) (w : World) (ha : a.size ≤ 1048576) (hb : b.size ≤ 1048576) :
    Calls Tryz.prog 165 #[.string a, .string b] w fun e w' => ∃ v1 v2 m, e = .returned (.tuple #[v1, v2, .bool (Pl.pathB a && Pl.pathB b)]) ∧ w.heap.size ≤ m ∧
      w'.ownsRow w.heap.size 9 1 v1 (Pl.namesR a).length ((Pl.namesR a).map Value.string) ∧ (∀ k, v1.ownBlock = some k → k < m) ∧
      w'.ownsRow m 9 1 v2 (Pl.namesR b).length ((Pl.namesR b).map Value.string) ∧ Below w.heap.size w w' := by
  have hn1 := hide (fun W => WNames.any a W ha)
  have hn2 := hide (fun W => WNames.any b W hb)
  generalize Pl.pathB a = r1 at hn1 ⊢
  generalize Pl.pathB b = r2 at hn2 ⊢
  generalize Pl.namesR a = A at hn1 ⊢
  generalize Pl.namesR b = B at hn2 ⊢
  cases r1 <;> cases r2
  all_goals
    go_enter Tryz.func165, Tryz.ntmps165
    go_wp2_with fail
    refine (unhide hn1 _).mono ?_
    rintro e w1 ⟨v1, rfl, hown1, hb1⟩
    have HO1 := hide hown1
    clear hown1
    go_wp2_with fail
    refine (unhide hn2 _).mono ?_
    rintro e w2 ⟨v2, rfl, hown2, hb2⟩
    have HO2 := hide hown2
    clear hown2
    have H : Hid (∃ m, w.heap.size ≤ m ∧ w2.ownsRow w.heap.size 9 1 v1 A.length (A.map Value.string) ∧ (∀ k, v1.ownBlock = some k → k < m) ∧
        w2.ownsRow m 9 1 v2 B.length (B.map Value.string) ∧ Below w.heap.size w w2) :=
      ⟨w1.heap.size, hb1.size, Mem.own_call (unhide HO1) hb2, fun k hk => ((unhide HO1).lt k hk).2, unhide HO2, hb1.trans (hb2.mono hb1.size)⟩
    clear hb1 hb2 HO1 HO2
    go_wp2
    go_ret3
    obtain ⟨m, h1, h2, h3, h4, h5⟩ := H.out
    exact ⟨v1, v2, m, rfl, h1, h2, h3, h4, h5⟩
end WUnder
end Go.Proofs.YtibmflhelgedeaaGreatDoor

/- The walks of a route's ahead and of the program's PathLess (by a method value). -/
namespace Go.Proofs.YtibmflhelgedeaaGreatDoor
open Go.RowKit
namespace WLess
set_option maxRecDepth 100000 in
set_option maxHeartbeats 400000 in
theorem ahead_any (v u : Value) (A B : List ByteArray) (w : World) (hA : A.length ≤ 1000) (hB : B.length ≤ 1000) (hv : Mem.isTexts w v A) (hu : Mem.isTexts w u B) :
    Calls Tryz.prog 166 #[v, u] w fun e w' => e = .returned (.bool (Pl.lessL A B)) ∧ Below w.heap.size w w' := by
  have HE : Hid (∀ k, k = A.length ∧ k ≤ B.length ∨ k = B.length ∧ k ≤ A.length → Pl.lessL (A.drop k) (B.drop k) = decide (A.length < B.length)) := fun k h => Pl.less_end h
  by_cases h0 : A = [] ∨ B = []
  · have E : Hid (Pl.lessL A B = decide (A.length < B.length)) := by
      show _ = _
      have := HE.out 0 (by rcases h0 with rfl | rfl <;> simp)
      simpa using this
    obtain ⟨va, vc, rfl⟩ := Mem.texts_shape hv
    obtain ⟨ua, uc, rfl⟩ := Mem.texts_shape hu
    clear hv hu HE
    rcases h0 with rfl | rfl
    · have t0 : (([] : List ByteArray).length : Int) ≤ (B.length : Int) := by simp
      go_enter Tryz.func166, Tryz.ntmps166
      go_wp2
      go_loop [11] (fun i => i = .int .i64 0) (fun _ => 0)
      case atStart => rfl
      case round =>
        subst hrel
        go_wp2
        go_ret
        exact ⟨ret_bool (by rw [E.out]; simp), Below.refl _ _⟩
    · by_cases hA0 : A = []
      · subst hA0
        go_enter Tryz.func166, Tryz.ntmps166
        go_wp2
        go_loop [11] (fun i => i = .int .i64 0) (fun _ => 0)
        case atStart => rfl
        case round =>
          subst hrel
          go_wp2
          go_ret
          exact ⟨ret_bool (by rw [E.out]; simp), Below.refl _ _⟩
      · have hp : 0 < A.length := List.length_pos_iff.2 hA0
        have t0 : ¬ (A.length : Int) ≤ 0 := by omega
        have t1 : ¬ (A.length : Int) < 0 := by omega
        have t2 : (0 : Int) < (A.length : Int) := by omega
        go_enter Tryz.func166, Tryz.ntmps166
        go_wp2
        go_loop [11] (fun i => i = .int .i64 0) (fun _ => 0)
        case atStart => rfl
        case round =>
          subst hrel
          go_wp2
          go_ret
          exact ⟨ret_bool (by rw [E.out]; simp), Below.refl _ _⟩
  · rcases hu with ⟨_, rfl⟩ | ⟨b, o, cap, rfl, hb, hcb⟩
    · simp at h0
    rcases hv with ⟨_, rfl⟩ | ⟨b', o', cap', rfl, hb', hca⟩
    · simp at h0
    have HA := hide hca
    have HB := hide hcb
    clear hca hcb h0
    have HS : Hid (Pl.lessL A B = Pl.lessL (A.drop 0) (B.drop 0)) := rfl
    have HT : Hid (∀ k a b, A[k]? = some a → B[k]? = some b → a = b → Pl.lessL (A.drop k) (B.drop k) = Pl.lessL (A.drop (k + 1)) (B.drop (k + 1))) := fun k a b h1 h2 h3 => Pl.less_same h1 h2 h3
    have HF : Hid (∀ k a b, A[k]? = some a → B[k]? = some b → a ≠ b → Pl.lessL (A.drop k) (B.drop k) = Op.bytesLess a.toList b.toList) := fun k a b h1 h2 h3 => Pl.less_other h1 h2 h3
    generalize Pl.lessL A B = R at HS ⊢
    by_cases hAB : A.length ≤ B.length
    · have t0 : (A.length : Int) ≤ (B.length : Int) := by omega
      go_enter Tryz.func166, Tryz.ntmps166
      go_wp2
      go_loopw [11] (fun i wr => ∃ k : Nat, k ≤ A.length ∧ i = .int .i64 (k : Int) ∧ Below w.heap.size w wr ∧ Hid (R = Pl.lessL (A.drop k) (B.drop k))) (fun i _ => A.length - (intOf i).toNat)
      case atStart => exact ⟨0, Nat.zero_le _, rfl, Below.refl _ _, HS⟩
      case round =>
        obtain ⟨k, hk, rfl, hbel, HR⟩ := hrel
        by_cases hlt : k < A.length
        · obtain ⟨y, hy⟩ : ∃ y, B[k]? = some y := ⟨_, List.getElem?_eq_getElem (by omega)⟩
          obtain ⟨x, hx⟩ : ∃ x, A[k]? = some x := ⟨_, List.getElem?_eq_getElem (by omega)⟩
          have hc1 : wr.cell? ⟨b, o + k, none⟩ = some (.string y) := (hbel.cell (p := ⟨b, o + k, none⟩) hb).trans (HB.out k y hy)
          have hc2 : wr.cell? ⟨b', o' + k, none⟩ = some (.string x) := (hbel.cell (p := ⟨b', o' + k, none⟩) hb').trans (HA.out k x hx)
          have u1 : (k : Int) < (A.length : Int) := by omega
          have u2 : (k : Int) < (B.length : Int) := by omega
          have u3 : (0 : Int) ≤ (k : Int) := by omega
          by_cases hxy : x = y
          · have t2 := Pl.eq_lists hxy
            have HR2 : Hid (R = Pl.lessL (A.drop (k + 1)) (B.drop (k + 1))) := HR.out.trans (HT.out k x y hx hy hxy)
            clear hx hy HR hxy
            go_wp2
            go_quiet (fail)
            go_wp2
            go_roundw
            case rel => exact ⟨k + 1, by omega, by go_num, Mem.below_drewN hbel _, HR2⟩
            case measure => simp [intOf]; omega
          · have t2 := Pl.ne_lists hxy
            have E : Hid (R = Op.bytesLess x.toList y.toList) := HR.out.trans (HF.out k x y hx hy hxy)
            clear hx hy HR hxy
            go_wp2
            go_quiet (fail)
            go_wp2
            go_quiet (fail)
            go_wp2
            go_ret
            exact ⟨ret_bool E.out.symm, Mem.below_drewN (Mem.below_drewN hbel _) _⟩
        · obtain rfl : k = A.length := by omega
          have E : Hid (R = decide (A.length < B.length)) := HR.out.trans (HE.out _ (by omega))
          clear HR
          go_wp2
          go_ret
          exact ⟨ret_bool (by rw [E.out]), hbel⟩
    · have t0 : ¬ (A.length : Int) ≤ (B.length : Int) := by omega
      have t9 : (B.length : Int) < (A.length : Int) := by omega
      go_enter Tryz.func166, Tryz.ntmps166
      go_wp2
      go_loopw [11] (fun i wr => ∃ k : Nat, k ≤ B.length ∧ i = .int .i64 (k : Int) ∧ Below w.heap.size w wr ∧ Hid (R = Pl.lessL (A.drop k) (B.drop k))) (fun i _ => B.length - (intOf i).toNat)
      case atStart => exact ⟨0, Nat.zero_le _, rfl, Below.refl _ _, HS⟩
      case round =>
        obtain ⟨k, hk, rfl, hbel, HR⟩ := hrel
        by_cases hlt : k < B.length
        · obtain ⟨y, hy⟩ : ∃ y, B[k]? = some y := ⟨_, List.getElem?_eq_getElem (by omega)⟩
          obtain ⟨x, hx⟩ : ∃ x, A[k]? = some x := ⟨_, List.getElem?_eq_getElem (by omega)⟩
          have hc1 : wr.cell? ⟨b, o + k, none⟩ = some (.string y) := (hbel.cell (p := ⟨b, o + k, none⟩) hb).trans (HB.out k y hy)
          have hc2 : wr.cell? ⟨b', o' + k, none⟩ = some (.string x) := (hbel.cell (p := ⟨b', o' + k, none⟩) hb').trans (HA.out k x hx)
          have u1 : (k : Int) < (A.length : Int) := by omega
          have u2 : (k : Int) < (B.length : Int) := by omega
          have u3 : (0 : Int) ≤ (k : Int) := by omega
          by_cases hxy : x = y
          · have t2 := Pl.eq_lists hxy
            have HR2 : Hid (R = Pl.lessL (A.drop (k + 1)) (B.drop (k + 1))) := HR.out.trans (HT.out k x y hx hy hxy)
            clear hx hy HR hxy
            go_wp2
            go_quiet (fail)
            go_wp2
            go_roundw
            case rel => exact ⟨k + 1, by omega, by go_num, Mem.below_drewN hbel _, HR2⟩
            case measure => simp [intOf]; omega
          · have t2 := Pl.ne_lists hxy
            have E : Hid (R = Op.bytesLess x.toList y.toList) := HR.out.trans (HF.out k x y hx hy hxy)
            clear hx hy HR hxy
            go_wp2
            go_quiet (fail)
            go_wp2
            go_quiet (fail)
            go_wp2
            go_ret
            exact ⟨ret_bool E.out.symm, Mem.below_drewN (Mem.below_drewN hbel _) _⟩
        · obtain rfl : k = B.length := by omega
          have E : Hid (R = decide (A.length < B.length)) := HR.out.trans (HE.out _ (by omega))
          clear HR
          go_wp2
          go_ret
          exact ⟨ret_bool (by rw [E.out]), hbel⟩

set_option maxRecDepth 100000 in
theorem less_any (p t : ByteArray) (w : World) (hp : p.size ≤ 1048576) (ht : t.size ≤ 1048576) :
    Calls Tryz.prog 133 #[.string p, .string t] w fun e w' => e = .returned (.bool (Pl.pathB p && Pl.pathB t && Pl.lessL (Pl.namesR p) (Pl.namesR t))) ∧ Below w.heap.size w w' := by
  have hn := hide (fun W => WUnder.both_any p t W hp ht)
  have hA := hide (Pl.namesR_all p)
  have hB := hide (Pl.namesR_all t)
  generalize (Pl.pathB p && Pl.pathB t) = r at hn ⊢
  generalize Pl.namesR p = A at hn hA ⊢
  generalize Pl.namesR t = B at hn hB ⊢
  cases r
  · go_enter Tryz.func133, Tryz.ntmps133
    go_wp2_with fail
    refine (unhide hn _).mono ?_
    rintro e w1 ⟨v1, v2, m, rfl, -, -, -, -, hb⟩
    go_wp2
    go_ret
    exact ⟨rfl, hb⟩
  · go_enter Tryz.func133, Tryz.ntmps133
    go_wp2_with fail
    refine (unhide hn _).mono ?_
    rintro e w1 ⟨v1, v2, m, rfl, h1, h2, h3, h4, hb⟩
    have i1 := hide (Mem.own_texts h2)
    have i2 := hide (Mem.own_texts h4)
    clear h2 h4 h3 hn
    go_wp2_with fail
    refine (ahead_any _ _ A B _ (by have := (unhide hA).2; omega) (by have := (unhide hB).2; omega) (unhide i1) (unhide i2)).mono ?_
    rintro e w2 ⟨rfl, hb2⟩
    have hb3 := hb.trans (hb2.mono hb.size)
    generalize hr : Pl.lessL A B = r2
    have HR := hide hr
    clear hr hb hb2
    go_wp2
    go_ret
    exact ⟨by rw [unhide HR]; rfl, hb3⟩
end WLess
end Go.Proofs.YtibmflhelgedeaaGreatDoor

/- The walk of the program's PathParent. -/
namespace Go.Proofs.YtibmflhelgedeaaGreatDoor
open Go.RowKit
namespace WPathI
set_option maxRecDepth 100000 in
set_option maxHeartbeats 400000 in
theorem parent_any (s : ByteArray) (w : World) (hs : s.size ≤ 1048576) :
    Calls Tryz.prog 97 #[.string s] w fun e w' => e = .returned (.string (Pl.glue (Pl.namesR s).dropLast)) ∧ Below w.heap.size w w' := by
  have hn := hide (WNames.any s w hs)
  have hL := hide (Pl.namesR_all s)
  generalize Pl.pathB s = r at hn
  generalize Pl.namesR s = L at hn hL
  go_enter Tryz.func97, Tryz.ntmps97
  go_wp2_with fail
  refine (unhide hn).mono ?_
  rintro e w1 ⟨v, rfl, hown, hb⟩
  clear hn
  rcases Mem.texts hown with ⟨rfl, rfl⟩ | ⟨g, cap, rfl, hcap, hm, hgb, hgl, hcell⟩
  · clear hown
    go_wp2_with fail
    refine (WPathOf.any _ [] _ (by simp) (by decide) (.inl ⟨rfl, rfl⟩)).mono ?_
    rintro e w2 ⟨rfl, hb2⟩
    have hb3 := hb.trans (hb2.mono hb.size)
    clear hb hb2
    go_wp2
    go_ret
    exact ⟨rfl, hb3⟩
  · clear hown
    have hm2 := hm
    have HC := hide hcell
    clear hcell
    unfold maxLen at hm2
    by_cases h0 : L.length = 0
    · obtain rfl : L = [] := List.eq_nil_of_length_eq_zero h0
      go_wp2_with fail
      refine (WPathOf.any _ [] _ (by simp) (by decide) (.inr ⟨g, 0, cap, rfl, hgl, fun j t h => by simp at h⟩)).mono ?_
      rintro e w2 ⟨rfl, hb2⟩
      have hb3 := hb.trans (hb2.mono hb.size)
      clear hb hb2
      go_wp2
      go_ret
      exact ⟨rfl, hb3⟩
    · have h1 : (0 : Int) ≤ (L.length : Int) - 1 := by omega
      have h2 : (L.length : Int) - 1 ≤ (cap : Int) := by omega
      have E := hide (Pl.drop_last L)
      go_wp2_with fail
      refine (WPathOf.any _ (L.take (L.length - 1)) _ ?_ (Pl.glue_small (Pl.all_take (unhide hL).1 _) ?_) (Mem.take_texts hgl (unhide HC) _ (by omega))).mono ?_
      · have := (unhide hL).2; simp; omega
      · have := (unhide hL).2; simp; omega
      rintro e w2 ⟨rfl, hb2⟩
      rw [unhide E]
      have hb3 := hb.trans (hb2.mono hb.size)
      clear hb hb2
      go_wp2
      go_ret
      exact ⟨rfl, hb3⟩
end WPathI
end Go.Proofs.YtibmflhelgedeaaGreatDoor

/- The walks of the program's parentFault, nodesOf and TreeRight. -/
namespace Go.Proofs.YtibmflhelgedeaaGreatDoor
open Go.RowKit Go.Maps
namespace Pl
/-- What stands in the way of a path, as its parent is. -/
def parV (e2 e3 : Value) (C : List Nd) (p : ByteArray) : Value :=
  if (parentP p).size = 0 then .nilIface else match C.find? (fun m => decide (m.path = parentP p)) with | none => e2 | some m => if m.kind = 1 then .nilIface else e3
theorem par_ok {C : List Nd} {p : ByteArray} {u2 u3 : TypeId} {x2 x3 : Value} (hC : C.Pairwise (fun a b => a.path ≠ b.path)) :
    (parI C p = true ∧ parV (.iface u2 x2) (.iface u3 x3) C p = .nilIface) ∨ (parI C p = false ∧ ∃ u x, parV (.iface u2 x2) (.iface u3 x3) C p = .iface u x) := by
  unfold parV parI
  by_cases h0 : (parentP p).size = 0
  · left; simp [h0]
  simp only [h0, decide_false, Bool.false_or, if_false]
  cases hf : C.find? (fun m => decide (m.path = parentP p)) with
  | none =>
    right
    refine ⟨?_, u2, x2, rfl⟩
    rw [List.any_eq_false]
    intro m hm
    have := List.find?_eq_none.1 hf m hm
    simp at this
    simp [this]
  | some m =>
    have h1 := List.mem_of_find?_eq_some hf
    have h2 : m.path = parentP p := by simpa using List.find?_some hf
    by_cases hk : m.kind = 1
    · left
      refine ⟨?_, by simp [hk]⟩
      rw [List.any_eq_true]
      exact ⟨m, h1, by simp [h2, hk]⟩
    · right
      refine ⟨?_, u3, x3, by simp [hk]⟩
      rw [List.any_eq_false]
      intro x hx
      simp only [Bool.and_eq_true, decide_eq_true_eq, not_and]
      intro hxp
      have : x = m := by
        have hp : ∀ {A : List Nd}, A.Pairwise (fun a b => a.path ≠ b.path) → ∀ {a b : Nd}, a ∈ A → b ∈ A → a.path = b.path → a = b := by
          intro A hA
          induction hA with
          | nil => intro a b ha; cases ha
          | cons hx' _ ih =>
            intro a b ha hb e
            rcases List.mem_cons.1 ha with e1 | h1
            · rcases List.mem_cons.1 hb with e2 | h2
              · rw [e1, e2]
              · exact absurd (e1 ▸ e) (hx' _ h2)
            · rcases List.mem_cons.1 hb with e2 | h2
              · exact absurd (e2 ▸ e).symm (hx' _ h1)
              · exact ih h1 h2 e
        exact hp hC hx h1 (hxp.trans h2.symm)
      rw [this]; exact hk
end Pl
namespace MapN
section
variable {P : Program} (w : World) {ops : Array Oper} {rest : List Oper} {o : Oper} {a : Act} {Q : Exit → Act → World → Prop}
/-- 'n, ok := all[path]'. -/
theorem look_ok (hg : o.guard = none) (m x : Operand) (t : TypeId) (hop : o.op = Op.lookup t m x true)
    (k e : TypeId) (K : Keyed P k) (ht : P.underlying t = some (.map k e)) (hz : (zeroValue e).run P w = .ok (Pl.Nd.val ⟨⟨#[]⟩, 0, ⟨#[]⟩, 0, 0⟩) w) (b n : Nat) (D : DataW Unit)
    (hm : a.eval m = .map (some b)) (hown : w.ownsMap P k elem b n D) (kv : Value) (kl : Lit) (hx : a.eval x = kv) (hkey : keyOf P k kv = some kl) (nd : Pl.Nd) (hat : D.atKey kl (dat ⟨⟨#[]⟩, 0, ⟨#[]⟩, 0, 0⟩) = dat nd) (r : Bool) (hr : Maps.has D kl = r)
    (hK : wpList P ops Q rest (a.put o.dst (.tuple #[.agg #[.string nd.path, .int .i64 nd.kind, .string nd.data, .int .i64 nd.time, .int .i64 nd.mark], .bool r])) w) :
    wpList P ops Q (o :: rest) a w :=
  wpList_lookup_own_ok w hg m x t hop k e K ht elem hz _ [] (elem_mk _) b n D hm hown kv kl hx hkey (fun v ps hv => by
    obtain ⟨n1, rfl, hd⟩ := elem_inv hv
    obtain rfl := dat_inj (hat.symm.trans hd)
    rw [hr]
    exact hK)
end
end MapN
namespace WNodesI
/-- Three errors of the program's own: each is there, and none is nil. -/
structure Errs (w : World) (u1 u2 u3 : TypeId) (x1 x2 x3 : Value) : Prop where
  c1 : w.cell? ⟨0, 0, none⟩ = some (.iface u1 x1)
  c2 : w.cell? ⟨4, 0, none⟩ = some (.iface u2 x2)
  c3 : w.cell? ⟨5, 0, none⟩ = some (.iface u3 x3)
theorem Errs.call {w w' : World} {u1 u2 u3 : TypeId} {x1 x2 x3 : Value} (h : Errs w u1 u2 u3 x1 x2 x3) (b : Below w.heap.size w w') : Errs w' u1 u2 u3 x1 x2 x3 :=
  ⟨(b.cell (p := ⟨_, 0, none⟩) (World.block_lt_of_cell? w ⟨_, 0, none⟩ h.c1)).trans h.c1, (b.cell (p := ⟨_, 0, none⟩) (World.block_lt_of_cell? w ⟨_, 0, none⟩ h.c2)).trans h.c2, (b.cell (p := ⟨_, 0, none⟩) (World.block_lt_of_cell? w ⟨_, 0, none⟩ h.c3)).trans h.c3⟩
theorem map_call {w w' : World} {B n : Nat} {D : DataW Unit} (h : w.ownsMap Tryz.prog 9 MapN.elem B n D) (b : Below w.heap.size w w') : w'.ownsMap Tryz.prog 9 MapN.elem B n D :=
  h.kept (row := none) ⟨b.os, b.tape, b.output, b.size, fun k hk _ => b.block k hk⟩ (by simp)
set_option maxRecDepth 100000 in
set_option maxHeartbeats 400000 in
theorem fault_any (B N : Nat) (C : List Pl.Nd) (p : ByteArray) (w : World) (u1 u2 u3 : TypeId) (x1 x2 x3 : Value) (hE : Errs w u1 u2 u3 x1 x2 x3) (hown : w.ownsMap Tryz.prog 9 MapN.elem B N (MapN.mapOf C)) (hC : C.Pairwise (fun a b => a.path ≠ b.path)) (hp : p.size ≤ 1048576) :
    Calls Tryz.prog 134 #[.map (some B), .string p] w fun e w' => e = .returned (Pl.parV (.iface u2 x2) (.iface u3 x3) C p) ∧ Below w.heap.size w w' := by
  have hpa := hide (WPathI.parent_any p w hp)
  have hz := hide (show (Pl.parentP p).size ≤ 1048576 from by
    have h1 := Pl.namesR_all p
    have h2 := Pl.glue_size (Pl.namesR p).dropLast (fun t ht => (Pl.name_free (h1.1 t (List.dropLast_subset _ ht))).2.2.2)
    rw [List.length_dropLast] at h2
    show (Pl.glue (Pl.namesR p).dropLast).size ≤ 1048576
    omega)
  change Hid (Calls Tryz.prog _ _ w fun e w' => e = .returned (.string (Pl.parentP p)) ∧ _) at hpa
  have E1 : Hid ((Pl.parentP p).size = 0 → Pl.parV (.iface u2 x2) (.iface u3 x3) C p = .nilIface) := fun h => by simp [Pl.parV, h]
  have E2 : Hid ((Pl.parentP p).size ≠ 0 → C.find? (fun m => decide (m.path = Pl.parentP p)) = none → Pl.parV (.iface u2 x2) (.iface u3 x3) C p = .iface u2 x2) := fun h hf => by simp [Pl.parV, h, hf]
  have E3 : Hid ((Pl.parentP p).size ≠ 0 → ∀ m, C.find? (fun m => decide (m.path = Pl.parentP p)) = some m → Pl.parV (.iface u2 x2) (.iface u3 x3) C p = if m.kind = 1 then .nilIface else .iface u3 x3) := fun h m hf => by simp [Pl.parV, h, hf]
  generalize Pl.parV (.iface u2 x2) (.iface u3 x3) C p = R at E1 E2 E3 ⊢
  generalize Pl.parentP p = q at hpa hz E1 E2 E3
  have HE := hide hE
  have HM := hide hown
  clear hE hown
  go_enter Tryz.func134, Tryz.ntmps134
  go_wp2_with fail
  refine (unhide hpa).mono ?_
  rintro e w1 ⟨rfl, b1⟩
  have hE1 := (unhide HE).call b1
  have hM1 := hide (map_call (unhide HM) b1)
  have k2 : ∀ o, (w1.alloc o).cell? ⟨4, 0, none⟩ = some (.iface u2 x2) := fun o => (World.cell?_alloc_some _ _ _ (by rw [hE1.c2]; rfl)).trans hE1.c2
  have k3 : ∀ o, (w1.alloc o).cell? ⟨5, 0, none⟩ = some (.iface u3 x3) := fun o => (World.cell?_alloc_some _ _ _ (by rw [hE1.c3]; rfl)).trans hE1.c3
  clear HE HM hpa hE1
  by_cases h0 : q.size = 0
  · have t0 : q.toList.isEmpty = true := by rw [Pl.empty_list]; simpa [Pl.by_nil] using h0
    have E := hide (unhide E1 h0)
    go_wp2
    go_ret
    exact ⟨by rw [unhide E]; rfl, b1⟩
  have t0 : q.toList.isEmpty = false := by rw [Pl.empty_list]; simpa [Pl.by_nil] using h0
  have hkey := MapN.keyOf_mk (p := q) (by have := unhide hz; unfold maxLen; omega)
  cases hf : C.find? (fun m => decide (m.path = q)) with
  | none =>
    have E := hide (unhide E2 h0 hf)
    have hmiss : ∀ n ∈ C, n.path ≠ q := fun n hn => by simpa using List.find?_eq_none.1 hf n hn
    have ha := hide (MapN.has_no hmiss)
    have ha2 := hide (Maps.atKey_of_not_has (unhide ha) (MapN.dat ⟨⟨#[]⟩, 0, ⟨#[]⟩, 0, 0⟩))
    clear E1 E2 E3 hf hmiss
    go_wp2_with (at_lookup; refine MapN.look_ok _ rfl _ _ 98 rfl 9 27 MapN.law Tryz.underlying98 (MapN.zeroN _) B N (MapN.mapOf C) rfl (unhide hM1) _ _ rfl hkey ⟨⟨#[]⟩, 0, ⟨#[]⟩, 0, 0⟩ (unhide ha2) false (unhide ha) ?_)
    go_ret
    exact ⟨by rw [unhide E]; rfl, b1.alloc b1.size _⟩
  | some m =>
    have E := hide (unhide E3 h0 m hf)
    have hm1 := List.mem_of_find?_eq_some hf
    have hm2 : m.path = q := by simpa using List.find?_some hf
    obtain ⟨y1, y2⟩ := MapN.at_yes hC hm1
    rw [hm2] at y1 y2
    have ha := hide y1
    have ha2 := hide (y2 (MapN.dat ⟨⟨#[]⟩, 0, ⟨#[]⟩, 0, 0⟩))
    clear E1 E2 E3 hf y1 y2 hm1 hm2
    by_cases hk : m.kind = 1
    · have E' := hide (show R = .nilIface by rw [unhide E, if_pos hk])
      have t1 : (m.kind == 1) = true := by simpa using hk
      clear E hk
      go_wp2_with (at_lookup; refine MapN.look_ok _ rfl _ _ 98 rfl 9 27 MapN.law Tryz.underlying98 (MapN.zeroN _) B N (MapN.mapOf C) rfl (unhide hM1) _ _ rfl hkey m (unhide ha2) true (unhide ha) ?_)
      go_ret
      exact ⟨by rw [unhide E']; rfl, b1.alloc b1.size _⟩
    · have E' := hide (show R = .iface u3 x3 by rw [unhide E, if_neg hk])
      have t1 : (m.kind == 1) = false := by simpa using hk
      clear E hk
      go_wp2_with (at_lookup; refine MapN.look_ok _ rfl _ _ 98 rfl 9 27 MapN.law Tryz.underlying98 (MapN.zeroN _) B N (MapN.mapOf C) rfl (unhide hM1) _ _ rfl hkey m (unhide ha2) true (unhide ha) ?_)
      go_ret
      exact ⟨by rw [unhide E']; rfl, b1.alloc b1.size _⟩
end WNodesI
end Go.Proofs.YtibmflhelgedeaaGreatDoor

/- The walks of the program's nodesOf and TreeRight. -/
namespace Go.Proofs.YtibmflhelgedeaaGreatDoor
open Go.RowKit Go.Maps
namespace Pl
/-- The nodes so far: rising, the last one at the path lp. -/
structure Inv (C : List Nd) (lp : ByteArray) : Prop where
  right : pathB lp = true
  rise : C.Pairwise (fun a b => lessL (names a.path) (names b.path) = true)
  last : ∀ a ∈ C, a.path = lp ∨ lessL (names a.path) (names lp) = true
theorem inv_start : Inv [] ⟨#[]⟩ := ⟨(right_root rfl).1, List.Pairwise.nil, fun a ha => by cases ha⟩
theorem inv_apart {C : List Nd} {lp : ByteArray} (h : Inv C lp) : C.Pairwise (fun a b => a.path ≠ b.path) :=
  h.rise.imp (fun {a b} hab e => by rw [e, less_irr] at hab; cases hab)
theorem inv_step {C : List Nd} {lp : ByteArray} {n : Nd} (h : Inv C lp) (hn : nodeB n = true) (hl : ltP lp n.path = true) : Inv (C ++ [n]) n.path := by
  have hr := (node_right hn).1
  rw [ltP_right h.right hr] at hl
  have hall : ∀ a ∈ C, lessL (names a.path) (names n.path) = true := fun a ha => by
    rcases h.last a ha with e | e
    · rw [e]; exact hl
    · exact less_trans _ _ _ e hl
  refine ⟨hr, ?_, fun a ha => ?_⟩
  · rw [List.pairwise_append]
    exact ⟨h.rise, List.pairwise_singleton _ _, fun a ha b hb => by simp at hb; subst hb; exact hall a ha⟩
  · rcases List.mem_append.1 ha with ha | ha
    · exact .inr (hall a ha)
    · simp at ha; subst ha; exact .inl rfl
theorem goI_step (L : List Nd) {n : Nd} {k : Nat} (h : L[k]? = some n) (C : List Nd) (lp : ByteArray) : goI C lp (L.drop k) = (nodeB n && ltP lp n.path && parI C n.path && goI (C ++ [n]) n.path (L.drop (k + 1))) := by
  have h1 := (List.getElem?_eq_some_iff.1 h)
  rw [List.drop_eq_getElem_cons h1.1, h1.2, goI]
theorem take_snoc' (L : List Nd) {n : Nd} {k : Nat} (h : L[k]? = some n) : L.take (k + 1) = L.take k ++ [n] := by
  have h1 := (List.getElem?_eq_some_iff.1 h)
  rw [List.take_succ_eq_append_getElem h1.1, h1.2]
end Pl
namespace WNodesI
set_option maxRecDepth 100000 in
set_option maxHeartbeats 1000000 in
theorem nodes_any (a : Option Addr) (cap : Nat) (L : List Pl.Nd) (w : World) (hl : L.length ≤ 1048576) (hv : Mem.isNodes w a L) (hok : ∀ n ∈ L, n.path.size ≤ 1048576 ∧ n.data.size ≤ 1048576)
    (r1 r2 r3 : TypeId) (x1 x2 x3 : Value) (hE : Errs w r1 r2 r3 x1 x2 x3) :
    Calls Tryz.prog 75 #[.agg #[.slice a L.length cap]] w fun e w' => ((Pl.treeB L = true ∧ ∃ B, e = .returned (.tuple #[.map (some B), .nilIface]) ∧ w.heap.size ≤ B ∧ w'.ownsMap Tryz.prog 9 MapN.elem B 40 (MapN.mapOf L)) ∨
      (Pl.treeB L = false ∧ e = .returned (.tuple #[.map none, .iface r1 x1]))) ∧ Below w.heap.size w w' := by
  have b0 : Below w.heap.size w (w.alloc (.cells #[.slice a L.length cap] 25)) := (Below.refl _ _).alloc (Nat.le_refl _) _
  have HV := hide hv
  have HO := hide hok
  have HE := hide hE
  have hvar := hide (Mem.var_new w [.slice a L.length cap] 25)
  have hmm := @run_makeMap Tryz.prog
  have k1 := (hE.call b0).c1
  clear hv hok hE
  by_cases h40 : 40 < L.length
  · have F := hide (show Pl.treeB L = false by simp [Pl.treeB]; omega)
    go_enter Tryz.func75, Tryz.ntmps75
    go_wp2
    go_region
    go_wp2
    go_ret2
    exact ⟨.inr ⟨unhide F, rfl⟩, Mem.below_drewN b0 1⟩
  have h41 : Pl.treeB L = Pl.goI [] ⟨#[]⟩ L := by rw [Pl.treeB, show decide (L.length ≤ 40) = true by simp; omega]; rfl
  rw [h41]
  clear h41
  generalize hR : Pl.goI [] ⟨#[]⟩ L = R
  have HR := hide hR
  clear hR
  go_enter Tryz.func75, Tryz.ntmps75
  go_wp2
  go_loopw [5, 17] (fun v i wr => ∃ (k : Nat) (lp : ByteArray), k ≤ L.length ∧ i = .int .i64 (k : Int) ∧ v = .string lp ∧ lp.size ≤ 200 ∧ Below w.heap.size w wr ∧ Hid (wr.ownsMap Tryz.prog 9 MapN.elem (w.heap.size + 1) k (MapN.mapOf (L.take k))) ∧ Hid (Pl.Inv (L.take k) lp) ∧ Hid (R = Pl.goI (L.take k) lp (L.drop k))) (fun _ i _ => L.length - (intOf i).toNat)
  case atStart =>
    refine ⟨0, ⟨#[]⟩, Nat.zero_le _, rfl, rfl, Nat.zero_le _, ?_, ?_, Pl.inv_start, (unhide HR).symm⟩
    · exact b0.alloc (by simp) _
    · have h := World.ownsMap_made (w.alloc (.cells #[.slice a L.length cap] 25)) Tryz.prog 9 MapN.elem
      rw [show (w.alloc (.cells #[.slice a L.length cap] 25)).heap.size = w.heap.size + 1 by simp] at h
      exact h
  case round =>
    obtain ⟨k, lp, hk, rfl, rfl, hlp, hbel, HM, HI, HR2⟩ := hrel
    by_cases hlt : k < L.length
    · obtain ⟨n, hn⟩ : ∃ n, L[k]? = some n := ⟨_, List.getElem?_eq_getElem hlt⟩
      obtain ⟨b, o, rfl, hb, q0, q1, q2, q3, q4⟩ := (Mem.nodes_call (unhide HV) hbel) k n hn
      have y1 : (k : Int) < (L.length : Int) := by omega
      have y3 : (0 : Int) ≤ (k : Int) := by omega
      have hBl := (unhide HM).lt
      have hsn := unhide HO n (List.mem_of_getElem? hn)
      have hnr := hide (fun W => WNode.impl_any n W hsn.1 hsn.2)
      have hls := hide (fun W => WLess.less_any lp n.path W (by omega) hsn.1)
      change Hid (∀ W, Calls Tryz.prog _ _ W fun e w' => e = .returned (.bool (Pl.ltP lp n.path)) ∧ _) at hls
      have hpf := hide (fun W hE hown hC => fault_any (w.heap.size + 1) k (L.take k) n.path W r1 r2 r3 x1 x2 x3 hE hown hC hsn.1)
      have UG := hide (Pl.goI_step L (n := n) (k := k) hn (L.take k) lp)
      have HN := hide hn
      have hkey := MapN.keyOf_mk (p := n.path) (by have := hsn.1; unfold maxLen; omega)
      have zn := Mem.var_new wr [.string n.path, .int .i64 n.kind, .string n.data, .int .i64 n.time, .int .i64 n.mark] 27
      have bw1 : Below wr.heap.size wr (wr.alloc (.cells #[.string n.path, .int .i64 n.kind, .string n.data, .int .i64 n.time, .int .i64 n.mark] 27)) := (Below.refl _ _).alloc (Nat.le_refl _) _
      have bw2 := hbel.trans (bw1.mono hbel.size)
      have HM1 := hide (map_call (unhide HM) bw1)
      clear hn HM
      simp only [Pl.Nd.val] at hnr
      go_wp2_with fail
      refine (unhide hnr _).mono ?_
      rintro e wA ⟨rfl, bA⟩
      have znA := Mem.var_call zn bA
      have bwA := bw2.trans (bA.mono bw2.size)
      have HMA := hide (map_call (unhide HM1) bA)
      have kA := ((unhide HE).call bwA).c1
      clear zn bw1 bw2 bA HM1 q0 q1 q2 q3 q4 hnr
      have c0 := znA.2 0 _ rfl
      cases hnb : Pl.nodeB n
      · have F := hide (show R = false by rw [unhide HR2, unhide UG, hnb]; rfl)
        clear hnb
        go_wp2
        go_region
        go_wp2
        go_ret2
        exact ⟨.inr ⟨unhide F, rfl⟩, Mem.below_drewN bwA 1⟩
      have HNB := hide hnb
      clear hnb
      go_wp2_with fail
      refine (unhide hls _).mono ?_
      rintro e wB ⟨rfl, bB⟩
      have znB := Mem.var_call znA bB
      have bwB := bwA.trans (bB.mono bwA.size)
      have HMB := hide (map_call (unhide HMA) bB)
      have kB := ((unhide HE).call bwB).c1
      clear znA bwA bB HMA c0 kA hls
      have c0 := znB.2 0 _ rfl
      cases hlb : Pl.ltP lp n.path
      · have F := hide (show R = false by rw [unhide HR2, unhide UG, unhide HNB, hlb]; rfl)
        clear hlb
        go_wp2
        go_region
        go_wp2
        go_ret2
        exact ⟨.inr ⟨unhide F, rfl⟩, Mem.below_drewN bwB 1⟩
      have HLB := hide hlb
      clear hlb
      go_wp2_with fail
      refine (unhide hpf _ ((unhide HE).call bwB) (unhide HMB) (Pl.inv_apart (unhide HI))).mono ?_
      rintro e wC ⟨rfl, bC⟩
      have znC := Mem.var_call znB bC
      have bwC := bwB.trans (bC.mono bwB.size)
      have HMC := hide (map_call (unhide HMB) bC)
      have kC := ((unhide HE).call bwC).c1
      clear znB bwB bC HMB c0 kB hpf
      rcases Pl.par_ok (p := n.path) (u2 := r2) (u3 := r3) (x2 := x2) (x3 := x3) (Pl.inv_apart (unhide HI)) with ⟨hp1, hp2⟩ | ⟨hp1, uu, xx, hp2⟩
      rotate_left
      · have F := hide (show R = false by rw [unhide HR2, unhide UG, unhide HNB, unhide HLB, hp1]; rfl)
        rw [hp2]
        clear hp1 hp2
        go_wp2
        go_region
        go_wp2
        go_ret2
        exact ⟨.inr ⟨unhide F, rfl⟩, Mem.below_drewN bwC 1⟩
      have HR3 := hide (show R = Pl.goI (L.take k ++ [n]) n.path (L.drop (k + 1)) by rw [unhide HR2, unhide UG, unhide HNB, unhide HLB, hp1]; rfl)
      rw [hp2]
      clear hp1 hp2
      have c0 := znC.2 0 _ rfl
      have c1 := znC.2 1 _ rfl
      have c2 := znC.2 2 _ rfl
      have c3 := znC.2 3 _ rfl
      have c4 := znC.2 4 _ rfl
      have hzl := znC.1
      have hne : some wr.heap.size ≠ some (w.heap.size + 1) := fun e => by have := Option.some.inj e; omega
      go_wp2_with (first | (at_mapUpdate; refine wpList_mapUpdate_own _ rfl _ _ _ 98 rfl 9 27 MapN.law Tryz.underlying98 _ (w.heap.size + 1) k _ rfl (unhide HMC) (by unfold maxLen; omega) _ _ _ rfl rfl hkey _ [] (MapN.elem_mk n) ?_; intro wD hownD hgrowD; have cD := hgrowD.cell c0 hne; have HOD := hide hownD; have bwD := bwC.grown hgrowD bwC.size (fun k hk => by cases hk; omega); clear hownD hgrowD) | fail)
      have HI2 := hide (Pl.inv_step (unhide HI) (unhide HNB) (unhide HLB))
      have hnl := Pl.pathB_le (Pl.node_right (unhide HNB)).1
      have HT := hide (Pl.take_snoc' L (unhide HN))
      go_wp2
      go_roundw
      case rel =>
        refine ⟨k + 1, n.path, by omega, by go_num, rfl, hnl, bwD, ?_, ?_, ?_⟩
        · rw [unhide HT, MapN.mapOf_snoc]; exact HOD
        · rw [unhide HT]; exact HI2
        · rw [unhide HT]; exact HR3
      case measure => simp [intOf]; omega
    · obtain rfl : k = L.length := by omega
      have F := hide (show R = true by rw [unhide HR2, List.drop_length]; rfl)
      rw [List.take_length] at HM
      clear HR2
      go_wp2
      go_ret2
      exact ⟨.inl ⟨unhide F, w.heap.size + 1, rfl, by omega, (unhide HM).mono (by omega)⟩, hbel⟩
end WNodesI
end Go.Proofs.YtibmflhelgedeaaGreatDoor

