/- Several texts of one claim in one file: WIll3, MemAppend, MemPutT. -/
import Derived.Test.YtepmojmelcngeaaGreatDoorG03
import Derived.Test.YtepmojmelcngeaaGreatDoorProg
import Derived.WalkKit
import Derived.Deep.RegionHeld3
import Derived.Laws.AppendOwn
/- The walk of the specification's l03Ill. -/
namespace Go.Proofs.YtepmojmelcngeaaGreatDoor
open Go.RowKit
namespace WIll3
set_option maxRecDepth 100000 in
theorem ill_any (c : Int) (w : World) :
    Calls Tryz.prog 39 #[.int .i64 c] w fun e w' => e = .returned (.agg #[.slice none 0 0, .int .i64 c]) ∧ Below w.heap.size w w' := by
  have b0 : Below w.heap.size w (w.alloc (.cells #[.slice none 0 0, .int .i64 c] 33)) := (Below.refl _ _).alloc (Nat.le_refl _) _
  have HB := hide (fun o (a : Addr) v (h : w.heap.size ≤ a.block) (a2 : Addr) v2 (h2 : w.heap.size ≤ a2.block) => ((((Below.refl w.heap.size w).alloc (Nat.le_refl _) o).setCell h v).setCell h2 v2))
  clear b0
  go_enter Tryz.func39, Tryz.ntmps39
  go_wp2
  refine bodyPost_ret (v := .agg #[.slice none 0 0, .int .i64 c]) (by simp [results, Tryz.results39, go_sem]) rfl ⟨rfl, ?_⟩
  exact (Below.refl _ _).alloc (Nat.le_refl _) _
end WIll3
end Go.Proofs.YtepmojmelcngeaaGreatDoor

/- An append to a row of the call's own, inside a region that draws its order; a variable of five cells through it. -/
namespace Go.Proofs.YtepmojmelcngeaaGreatDoor
open Go.RowKit
namespace Mem
theorem step_append_own {P : Program} {ops : Array Oper} {o : Oper} {a : Act} {w : World} {K : Act → World → Prop} {Q : Exit → Act → World → Prop} {E : Prop}
    (hg : o.guard = none) (s x : Operand) (t : TypeId) (hop : o.op = Op.call { callee := Callee.builtin Builtin.append, args := #[s, x], argTypes := #[t, t] })
    (base : Nat) (e : TypeId) (i : TypeInfo) (z : Value) (size bytes : Nat) (h1 : P.underlying t = some (.slice e)) (h2 : P.info? e = some i) (h3 : i.zero = some z) (h4 : i.size = size) (h5 : i.bytes = bytes) (h6 : z.cells.size = size) (h7 : 0 < size)
    (v : Value) (n : Nat) (xs : List Value) (hs : a.eval s = v) (hown : w.ownsRow base e size v n xs)
    (ad : Addr) (m c : Nat) (news : List Value) (hx : a.eval x = .slice (some ad) m c) (hn : news.length = m * size) (hc : ∀ j u, news[j]? = some u → w.cell? (ad.add j) = some u) (h1c : ∀ u ∈ news, u.oneCell' = true)
    (b1 : n + m ≤ maxLen) (b2 : (n + m) * bytes ≤ 140737488355328) (hbase : base ≤ w.heap.size)
    (hK : ∀ v' w', w'.ownsRow base e size v' (n + m) (xs ++ news) → w.grownBy w' v.ownBlock → K (a.put o.dst v') w') :
    if Region.wanted o (yielded ops a.tmps) = true then Oper.wp P o a w K Q else E := by
  have hw : Region.wanted o (yielded ops a.tmps) = true := by simp [Region.wanted, hg]
  rw [if_pos hw]
  obtain ⟨v', w', hrun, r1, r2, _⟩ := run_append_own (P := P) w base t o.type e i z size bytes h1 h2 h3 h4 h5 h6 h7 v n xs hown ad m c news hn hc h1c b1 b2 hbase
  unfold Oper.wp
  simp [execOp, hop, resolve, invoke, builtin, hs, hx, hrun, Result.andThen]
  exact hK v' w' r1 r2
theorem five_new (w : World) (a b c d e : ByteArray) (T : TypeId) (g : Nat) (hg : g = w.heap.size) : ∀ j u, [Value.string a, .string b, .string c, .string d, .string e][j]? = some u → (w.alloc (.cells #[.string a, .string b, .string c, .string d, .string e] T)).cell? ((⟨g, 0, none⟩ : Addr).add j) = some u := by
  subst hg
  intro j u hj
  rw [Mem.add_lit]
  exact (Mem.var_new w [.string a, .string b, .string c, .string d, .string e] T).2 j u hj
theorem five_one (a b c d e : ByteArray) : ∀ u ∈ [Value.string a, .string b, .string c, .string d, .string e], u.oneCell' = true := by
  intro u hu
  simp only [List.mem_cons, List.not_mem_nil, or_false] at hu
  rcases hu with rfl | rfl | rfl | rfl | rfl <;> rfl
end Mem
end Go.Proofs.YtepmojmelcngeaaGreatDoor

/- Rows of nodes that are put together: what serves an append of one row of nodes to another. -/
namespace Go.Proofs.YtepmojmelcngeaaGreatDoor
open Go.RowKit
namespace WPutT
theorem infoN : (Tryz.prog.info? 36).map (fun i => (i.zero, i.size, i.bytes)) = some (some (.agg #[.string ⟨#[]⟩, .int .i64 0, .string ⟨#[]⟩, .int .i64 0, .int .i64 0]), 5, 56) := by kernel_rfl
theorem cells_at {w : World} {g o : Nat} {M : List Pl.Nd} (h : Mem.isNodes w (some ⟨g, o, none⟩) M) : ∀ j u, (Pl.cellsN M)[j]? = some u → w.cell? ((⟨g, o, none⟩ : Addr).add j) = some u := by
  intro j u hj
  have hlt : j < M.length * 5 := by
    have := (List.getElem?_eq_some_iff.1 hj).1
    rwa [Pl.cellsN_len] at this
  have hd : j / 5 < M.length := by omega
  obtain ⟨g', o', e, h0, h1, h2, h3, h4, h5⟩ := h (j / 5) M[j / 5] (List.getElem?_eq_getElem hd)
  cases e
  have hc := Pl.cellsN_get M (j / 5) _ (List.getElem?_eq_getElem hd) (j % 5) (by omega)
  rw [show j / 5 * 5 + j % 5 = j by omega, hj] at hc
  rw [Mem.add_any]
  have hm : j % 5 = 0 ∨ j % 5 = 1 ∨ j % 5 = 2 ∨ j % 5 = 3 ∨ j % 5 = 4 := by omega
  have ej : o + j = o + j / 5 * 5 + j % 5 := by omega
  rw [ej, hc]
  rcases hm with h | h | h | h | h <;> rw [h]
  · exact h1
  · exact h2
  · exact h3
  · exact h4
  · exact h5
theorem cells_one (M : List Pl.Nd) : ∀ u ∈ Pl.cellsN M, u.oneCell' = true := by
  intro u hu
  rw [Pl.cellsN, List.mem_flatMap] at hu
  obtain ⟨n, _, hn⟩ := hu
  exact Mem.cs_one n u hn
theorem ownN_app {w : World} {B m : Nat} {v : Value} {A M : List Pl.Nd} (h : w.ownsRow B 36 5 v (A.length + m) (Pl.cellsN A ++ Pl.cellsN M)) (hm : m = M.length) : Mem.ownN w B v (A ++ M) := by
  subst hm
  unfold Mem.ownN
  rw [Pl.cellsN_app, List.length_append]; exact h
theorem nodes_drop {w : World} {g : Nat} {L : List Pl.Nd} (h : Mem.isNodes w (some ⟨g, 0, none⟩) L) (i : Nat) : Mem.isNodes w (some ⟨g, i * 5, none⟩) (L.drop i) := by
  intro k n hk
  rw [List.getElem?_drop] at hk
  obtain ⟨b', o', e, h1, h2, h3, h4, h5, h6⟩ := h (i + k) n hk
  cases e
  have ee : 0 + (i + k) * 5 = i * 5 + k * 5 := by omega
  rw [ee] at h2 h3 h4 h5 h6
  exact ⟨g, i * 5, rfl, h1, h2, h3, h4, h5, h6⟩
theorem nodes_take {w : World} {g : Nat} {L : List Pl.Nd} (h : Mem.isNodes w (some ⟨g, 0, none⟩) L) (i : Nat) : Mem.isNodes w (some ⟨g, 0, none⟩) (L.take i) := by
  intro k n hk
  rw [List.getElem?_take] at hk
  split at hk
  · exact h k n hk
  · cases hk
end WPutT
end Go.Proofs.YtepmojmelcngeaaGreatDoor

