/- Several texts of one claim in one file: WTreeR, WUnder1S, WPutS, MemAppend, MemPutT. -/
import Derived.Test.YtepmojmelcngeaaGreatDoorWTreeS
import Derived.Test.YtepmojmelcngeaaGreatDoorG18
import Derived.Test.YtepmojmelcngeaaGreatDoorG12
import Derived.Deep.RegionHeld3
import Derived.Laws.AppendOwn
import Derived.Test.YtepmojmelcngeaaGreatDoorProg
/- The specification's TreeRight, as the program's. -/
namespace Go.Proofs.YtepmojmelcngeaaGreatDoor
open Go.RowKit
namespace WTreeS
theorem right_tree (a : Option Addr) (cap : Nat) (L : List Pl.Nd) (w : World) (hl : L.length ≤ 1048576) (hv : Mem.isNodes w a L) (hok : ∀ n ∈ L, n.path.size ≤ 1048576 ∧ n.data.size ≤ 1048576) :
    Calls Tryz.prog 22 #[.agg #[.slice a L.length cap]] w fun e w' => e = .returned (.bool (Pl.treeB L)) ∧ Below w.heap.size w w' := by
  have h := right_any a cap L w hl hv hok
  rw [Pl.tree_same] at h
  exact h
end WTreeS
end Go.Proofs.YtepmojmelcngeaaGreatDoor

/- The walk of the specification's l02Under. -/
namespace Go.Proofs.YtepmojmelcngeaaGreatDoor
open Go.RowKit
namespace Pl
theorem under_root {p t : ByteArray} (h : by_ t = []) : under p t = true := (under_iff p t).2 (.inl h)
theorem under_same (p : ByteArray) : under p p = true := (under_iff p p).2 (.inr (.inl rfl))
theorem under_short {p t : ByteArray} (h0 : by_ t ≠ []) (h1 : p ≠ t) (h : ¬ t.size < p.size) : under p t = false := by
  rw [Bool.eq_false_iff]
  intro h2
  rcases (under_iff p t).1 h2 with h3 | h3 | ⟨r, h3⟩
  · exact h0 h3
  · exact h1 (by_inj h3)
  · have := congrArg List.length h3
    rw [by_length, List.length_append, List.length_cons, by_length] at this
    omega
theorem by_pre (p t : ByteArray) : by_ (p.extract 0 t.size) = (by_ p).take t.size := by rw [by_extract]; simp
theorem under_other {p t : ByteArray} (h0 : by_ t ≠ []) (h1 : p ≠ t) (h : p.extract 0 t.size ≠ t) : under p t = false := by
  rw [Bool.eq_false_iff]
  intro h2
  rcases (under_iff p t).1 h2 with h3 | h3 | ⟨r, h3⟩
  · exact h0 h3
  · exact h1 (by_inj h3)
  · apply h; apply by_inj; rw [by_pre, h3, ← by_length, List.take_left]
theorem pre_split {p t : ByteArray} (hl : t.size < p.size) (h : p.extract 0 t.size = t) : by_ p = by_ t ++ p[t.size] :: (by_ p).drop (t.size + 1) := by
  have h1 : by_ t = (by_ p).take t.size := by rw [← by_pre, h]
  have h2 : t.size < (by_ p).length := by rw [by_length]; exact hl
  have h3 : (by_ p).drop t.size = p[t.size] :: (by_ p).drop (t.size + 1) := by rw [List.drop_eq_getElem_cons h2]; rfl
  exact (List.take_append_drop t.size (by_ p)).symm.trans (by rw [h3, ← h1]; rfl)
theorem under_yes {p t : ByteArray} (hl : t.size < p.size) (h : p.extract 0 t.size = t) (hb : p[t.size].toNat = 47) : under p t = true := by
  refine (under_iff p t).2 (.inr (.inr ⟨(by_ p).drop (t.size + 1), ?_⟩))
  have hb' : p[t.size] = 47 := UInt8.toNat_inj.1 hb
  rw [← hb']; exact pre_split hl h
theorem under_no {p t : ByteArray} (h0 : by_ t ≠ []) (h1 : p ≠ t) (hl : t.size < p.size) (h : p.extract 0 t.size = t) (hb : p[t.size].toNat ≠ 47) : under p t = false := by
  rw [Bool.eq_false_iff]
  intro h2
  rcases (under_iff p t).1 h2 with h3 | h3 | ⟨r, h3⟩
  · exact h0 h3
  · exact h1 (by_inj h3)
  · rw [pre_split hl h] at h3
    have := List.append_cancel_left h3
    simp at this
    exact hb (by rw [this.1]; rfl)
end Pl
namespace WPathS
set_option maxRecDepth 100000 in
set_option maxHeartbeats 400000 in
theorem under1_any (p t : ByteArray) (w : World) (ht : t.size ≤ 1048576) :
    Calls Tryz.prog 110 #[.string p, .string t] w fun e w' => e = .returned (.bool (Pl.under p t)) ∧ w' = w := by
  by_cases h0 : Pl.by_ t = []
  · have E := hide (Pl.under_root (p := p) h0)
    have d1 : t.toList.isEmpty = true := by rw [Pl.empty_list]; simp [h0]
    clear h0
    go_enter Tryz.func110, Tryz.ntmps110
    go_wp2
    go_ret
    exact ⟨ret_bool (unhide E).symm, rfl⟩
  have d1 : t.toList.isEmpty = false := by rw [Pl.empty_list]; simp [h0]
  by_cases h1 : p = t
  · subst h1
    have E := hide (Pl.under_same p)
    clear h0
    go_enter Tryz.func110, Tryz.ntmps110
    go_wp2
    go_ret
    exact ⟨ret_bool (unhide E).symm, rfl⟩
  have d2 := Pl.ne_lists h1
  by_cases hl : t.size < p.size
  · have k1 : (t.size : Int) < (p.size : Int) := by omega
    have k2 : (t.size : Int) ≤ (p.size : Int) := by omega
    have k3 : (0 : Int) ≤ (t.size : Int) := by omega
    by_cases h3 : p.extract 0 t.size = t
    · have d3 := Pl.eq_lists h3
      by_cases h4 : p[t.size].toNat = 47
      · have E := hide (Pl.under_yes hl h3 h4)
        have d4 : ((p[t.size].toNat : Int) == 47) = true := by rw [beq_iff_eq]; omega
        clear h0 h1 h3 h4
        go_enter Tryz.func110, Tryz.ntmps110
        go_wp2
        go_ret
        exact ⟨ret_bool (unhide E).symm, rfl⟩
      · have E := hide (Pl.under_no h0 h1 hl h3 h4)
        have d4 : ((p[t.size].toNat : Int) == 47) = false := by rw [beq_eq_false_iff_ne]; omega
        clear h0 h1 h3 h4
        go_enter Tryz.func110, Tryz.ntmps110
        go_wp2
        go_ret
        exact ⟨ret_bool (unhide E).symm, rfl⟩
    · have E := hide (Pl.under_other h0 h1 h3)
      have d3 := Pl.ne_lists h3
      clear h0 h1 h3
      go_enter Tryz.func110, Tryz.ntmps110
      go_wp2
      go_ret
      exact ⟨ret_bool (unhide E).symm, rfl⟩
  · have E := hide (Pl.under_short h0 h1 hl)
    have k1 : ¬ (t.size : Int) < (p.size : Int) := by omega
    clear h0 h1
    go_enter Tryz.func110, Tryz.ntmps110
    go_wp2
    go_ret
    exact ⟨ret_bool (unhide E).symm, rfl⟩
end WPathS
end Go.Proofs.YtepmojmelcngeaaGreatDoor

/- The walk of the specification's l03Over: are there nodes under a path? -/
namespace Go.Proofs.YtepmojmelcngeaaGreatDoor
open Go.RowKit
namespace Pl
def overL (L : List Nd) (p : ByteArray) : Bool := L.any (fun m => !decide (m.path = p) && under m.path p)
theorem over_yes {L : List Nd} {p : ByteArray} {k : Nat} {n : Nd} (hn : L[k]? = some n) (h1 : n.path ≠ p) (h2 : under n.path p = true) : overL L p = true :=
  List.any_eq_true.2 ⟨n, List.mem_of_getElem? hn, by simp [h1, h2]⟩
theorem over_no {L : List Nd} {p : ByteArray} (h : ∀ (j : Nat) m, L[j]? = some m → m.path = p ∨ under m.path p = false) : overL L p = false := by
  rw [overL, List.any_eq_false]
  intro m hm
  obtain ⟨j, hj⟩ := List.mem_iff_getElem?.1 hm
  rcases h j m hj with h | h <;> simp [h]
end Pl
namespace WPutS
theorem tl_ne {a b : ByteArray} (h : a ≠ b) : (a.toList == b.toList) = false := by
  rw [beq_eq_false_iff_ne]
  intro e
  exact h (Pl.by_inj (by rw [ByteArray.toList_eq, ByteArray.toList_eq] at e; exact e))
set_option linter.unusedSimpArgs false in
set_option maxRecDepth 100000 in
set_option maxHeartbeats 2000000 in
theorem over_any (a : Option Addr) (cap : Nat) (L : List Pl.Nd) (p : ByteArray) (w : World) (hl : L.length ≤ 1048576) (hv : Mem.isNodes w a L) (hp : p.size ≤ 1048576) :
    Calls Tryz.prog 80 #[.agg #[.slice a L.length cap], .string p] w fun e w' => e = .returned (.bool (Pl.overL L p)) ∧ Below w.heap.size w w' := by
  have b0 : Below w.heap.size w (w.alloc (.cells #[.slice a L.length cap] 31)) := (Below.refl _ _).alloc (Nat.le_refl _) _
  have HV := hide (Mem.nodes_call hv b0)
  have E1 : Hid (∀ (k : Nat) n, L[k]? = some n → n.path ≠ p → Pl.under n.path p = true → Pl.overL L p = true) := fun k n => Pl.over_yes
  have E2 : Hid ((∀ (j : Nat) m, L[j]? = some m → m.path = p ∨ Pl.under m.path p = false) → Pl.overL L p = false) := Pl.over_no
  generalize Pl.overL L p = R at E1 E2 ⊢
  clear hv
  go_enter Tryz.func80, Tryz.ntmps80
  go_wp2
  go_loop [5] (fun i => ∃ k : Nat, k ≤ L.length ∧ i = .int .i64 (k : Int) ∧ Hid (∀ (j : Nat) m, j < k → L[j]? = some m → m.path = p ∨ Pl.under m.path p = false)) (fun i => L.length - (intOf i).toNat)
  case atStart => exact ⟨0, Nat.zero_le _, rfl, fun j m h => absurd h (by omega)⟩
  case round =>
    obtain ⟨k, hk, rfl, HA⟩ := hrel
    by_cases hlt : k < L.length
    · obtain ⟨n, hn⟩ : ∃ n, L[k]? = some n := ⟨_, List.getElem?_eq_getElem hlt⟩
      obtain ⟨b, o, rfl, hb, q0, -, -, -, -⟩ := (unhide HV) k n hn
      have y1 : (k : Int) < (L.length : Int) := by omega
      have y3 : (0 : Int) ≤ (k : Int) := by omega
      have EN := hide hn
      by_cases hqp : n.path = p
      · have HA2 : Hid (∀ (j : Nat) m, j < k + 1 → L[j]? = some m → m.path = p ∨ Pl.under m.path p = false) := fun j m hj hm => by
          rcases Nat.lt_succ_iff_lt_or_eq.1 hj with h'' | rfl
          · exact HA.out j m h'' hm
          · rw [unhide EN] at hm; cases hm; exact .inl hqp
        rw [hqp] at q0
        clear hn EN hqp
        go_wp2
        go_round
        case rel => exact ⟨k + 1, by omega, by go_num, HA2⟩
        case measure => simp [intOf]; omega
      · have t1 := tl_ne hqp
        have hcu := hide (fun W => WPathS.under1_any n.path p W hp)
        cases hun : Pl.under n.path p
        · have HA2 : Hid (∀ (j : Nat) m, j < k + 1 → L[j]? = some m → m.path = p ∨ Pl.under m.path p = false) := fun j m hj hm => by
            rcases Nat.lt_succ_iff_lt_or_eq.1 hj with h'' | rfl
            · exact HA.out j m h'' hm
            · rw [unhide EN] at hm; cases hm; exact .inr hun
          rw [hun] at hcu
          generalize n.path = np at q0 t1 hcu
          clear hn EN hqp hun
          go_wp2_with (go_at_call 110; refine (unhide hcu _).mono ?_; rintro e w' ⟨rfl, hw⟩; obtain rfl := hw.symm)
          go_round
          case rel => exact ⟨k + 1, by omega, by go_num, HA2⟩
          case measure => simp [intOf]; omega
        · have E := hide (unhide E1 k n hn hqp hun)
          rw [hun] at hcu
          generalize n.path = np at q0 t1 hcu
          clear hn EN hqp hun
          go_wp2_with (go_at_call 110; refine (unhide hcu _).mono ?_; rintro e w' ⟨rfl, hw⟩; obtain rfl := hw.symm)
          go_ret
          exact ⟨ret_bool (unhide E).symm, b0⟩
    · have E := hide (unhide E2 (fun j n h => HA.out j n (by have := (List.getElem?_eq_some_iff.1 h).1; omega) h))
      have u1 : ¬ (k : Int) < (L.length : Int) := by omega
      go_wp2
      go_ret
      exact ⟨ret_bool (unhide E).symm, b0⟩
end WPutS
end Go.Proofs.YtepmojmelcngeaaGreatDoor

/- An append to a row of the call's own, inside a region that draws its order; a variable of five cells through it. -/
namespace Go.Proofs.YtepmojmelcngeaaGreatDoor
open Go.RowKit
namespace Mem
theorem step_append_own {P : Program} {ops : Array Oper} {o : Oper} {a : Act} {w : World} {K : Act → World → Prop} {Q : Exit → Act → World → Prop} {E : Prop}
    (hg : o.guard = none) (s x : Operand) (t : TypeId) (hop : o.op = Op.call { callee := Callee.builtin Builtin.append, args := #[s, x], argTypes := #[t, t] })
    (base : Nat) (e : TypeId) (i : TypeInfo) (z : Value) (size bytes : Nat) (h1 : P.underlying t = some (.slice e)) (h2 : P.info? e = some i) (h3 : i.zero = some z) (h4 : i.size = size) (h5 : i.bytes = bytes) (h6 : z.cells.size = size) (h7 : 0 < size)
    (v : Value) (n : Nat) (xs : List Value) (hs : a.eval s = v) (hown : w.ownsRow base e size v n xs)
    (ad : Addr) (m c : Nat) (news : List Value) (hx : a.eval x = .slice (some ad) m c) (hn : news.length = m * size) (hc : ∀ j u, news[j]? = some u → w.cell? (ad.add j) = some u) (h1c : ∀ u ∈ news, u.oneCell' = true)
    (b1 : n + m ≤ maxLen) (b2 : (n + m) * bytes ≤ 140737488355328) (hbase : base ≤ w.heap.size)
    (hK : ∀ v' w', w'.ownsRow base e size v' (n + m) (xs ++ news) → w.grownBy w' v.ownBlock → K (a.put o.dst v') w') :
    if Region.wanted o (yielded ops a.tmps) = true then Oper.wp P o a w K Q else E := by
  have hw : Region.wanted o (yielded ops a.tmps) = true := by simp [Region.wanted, hg]
  rw [if_pos hw]
  obtain ⟨v', w', hrun, r1, r2, _⟩ := run_append_own (P := P) w base t o.type e i z size bytes h1 h2 h3 h4 h5 h6 h7 v n xs hown ad m c news hn hc h1c b1 b2 hbase
  unfold Oper.wp
  simp [execOp, hop, resolve, invoke, builtin, hs, hx, hrun, Result.andThen]
  exact hK v' w' r1 r2
theorem five_new (w : World) (a b c d e : ByteArray) (T : TypeId) (g : Nat) (hg : g = w.heap.size) : ∀ j u, [Value.string a, .string b, .string c, .string d, .string e][j]? = some u → (w.alloc (.cells #[.string a, .string b, .string c, .string d, .string e] T)).cell? ((⟨g, 0, none⟩ : Addr).add j) = some u := by
  subst hg
  intro j u hj
  rw [Mem.add_lit]
  exact (Mem.var_new w [.string a, .string b, .string c, .string d, .string e] T).2 j u hj
theorem five_one (a b c d e : ByteArray) : ∀ u ∈ [Value.string a, .string b, .string c, .string d, .string e], u.oneCell' = true := by
  intro u hu
  simp only [List.mem_cons, List.not_mem_nil, or_false] at hu
  rcases hu with rfl | rfl | rfl | rfl | rfl <;> rfl
end Mem
end Go.Proofs.YtepmojmelcngeaaGreatDoor

/- Rows of nodes that are put together: what serves an append of one row of nodes to another. -/
namespace Go.Proofs.YtepmojmelcngeaaGreatDoor
open Go.RowKit
namespace WPutT
theorem infoN : (Tryz.prog.info? 36).map (fun i => (i.zero, i.size, i.bytes)) = some (some (.agg #[.string ⟨#[]⟩, .int .i64 0, .string ⟨#[]⟩, .int .i64 0, .int .i64 0]), 5, 56) := by kernel_rfl
theorem cells_at {w : World} {g o : Nat} {M : List Pl.Nd} (h : Mem.isNodes w (some ⟨g, o, none⟩) M) : ∀ j u, (Pl.cellsN M)[j]? = some u → w.cell? ((⟨g, o, none⟩ : Addr).add j) = some u := by
  intro j u hj
  have hlt : j < M.length * 5 := by
    have := (List.getElem?_eq_some_iff.1 hj).1
    rwa [Pl.cellsN_len] at this
  have hd : j / 5 < M.length := by omega
  obtain ⟨g', o', e, h0, h1, h2, h3, h4, h5⟩ := h (j / 5) M[j / 5] (List.getElem?_eq_getElem hd)
  cases e
  have hc := Pl.cellsN_get M (j / 5) _ (List.getElem?_eq_getElem hd) (j % 5) (by omega)
  rw [show j / 5 * 5 + j % 5 = j by omega, hj] at hc
  rw [Mem.add_any]
  have hm : j % 5 = 0 ∨ j % 5 = 1 ∨ j % 5 = 2 ∨ j % 5 = 3 ∨ j % 5 = 4 := by omega
  have ej : o + j = o + j / 5 * 5 + j % 5 := by omega
  rw [ej, hc]
  rcases hm with h | h | h | h | h <;> rw [h]
  · exact h1
  · exact h2
  · exact h3
  · exact h4
  · exact h5
theorem cells_one (M : List Pl.Nd) : ∀ u ∈ Pl.cellsN M, u.oneCell' = true := by
  intro u hu
  rw [Pl.cellsN, List.mem_flatMap] at hu
  obtain ⟨n, _, hn⟩ := hu
  exact Mem.cs_one n u hn
theorem ownN_app {w : World} {B m : Nat} {v : Value} {A M : List Pl.Nd} (h : w.ownsRow B 36 5 v (A.length + m) (Pl.cellsN A ++ Pl.cellsN M)) (hm : m = M.length) : Mem.ownN w B v (A ++ M) := by
  subst hm
  unfold Mem.ownN
  rw [Pl.cellsN_app, List.length_append]; exact h
theorem nodes_drop {w : World} {g : Nat} {L : List Pl.Nd} (h : Mem.isNodes w (some ⟨g, 0, none⟩) L) (i : Nat) : Mem.isNodes w (some ⟨g, i * 5, none⟩) (L.drop i) := by
  intro k n hk
  rw [List.getElem?_drop] at hk
  obtain ⟨b', o', e, h1, h2, h3, h4, h5, h6⟩ := h (i + k) n hk
  cases e
  have ee : 0 + (i + k) * 5 = i * 5 + k * 5 := by omega
  rw [ee] at h2 h3 h4 h5 h6
  exact ⟨g, i * 5, rfl, h1, h2, h3, h4, h5, h6⟩
theorem nodes_take {w : World} {g : Nat} {L : List Pl.Nd} (h : Mem.isNodes w (some ⟨g, 0, none⟩) L) (i : Nat) : Mem.isNodes w (some ⟨g, 0, none⟩) (L.take i) := by
  intro k n hk
  rw [List.getElem?_take] at hk
  split at hk
  · exact h k n hk
  · cases hk
end WPutT
end Go.Proofs.YtepmojmelcngeaaGreatDoor

