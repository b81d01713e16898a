/- Several texts of one claim in one file: MemTrees, MemItems, WNestS, WReachS. -/
import Derived.Test.YtkfpfckmjgjanaaDoorG03
import Derived.Test.YtkfpfckmjgjanaaDoorG02
import Derived.Test.YtkfpfckmjgjanaaDoorG14
import Derived.Test.YtkfpfckmjgjanaaDoorWTreeR
import Derived.Test.YtkfpfckmjgjanaaDoorG15
import Derived.Test.YtkfpfckmjgjanaaDoorG05
/- A row of trees in memory. -/
namespace Go.Proofs.YtkfpfckmjgjanaaDoor
open Go.RowKit
namespace Pl
/-- A tree as it lies: where its nodes are, how much room they have, and what they are. -/
structure Tr where
  a : Option Addr
  cap : Nat
  L : List Nd
def Tr.val (t : Tr) : Value := .slice t.a t.L.length t.cap
/-- Right layers: one to four, each a right tree. -/
def layB (Ts : List (List Nd)) : Bool := decide (1 ≤ Ts.length) && decide (Ts.length ≤ 4) && Ts.all treeB
end Pl
namespace Mem
def isTrees (w : World) (a : Option Addr) (Ts : List Pl.Tr) : Prop :=
  ∀ (i : Nat) t, Ts[i]? = some t → (∃ b o, a = some ⟨b, o, none⟩ ∧ b < w.heap.size ∧ w.cell? ⟨b, o + i, none⟩ = some t.val) ∧ isNodes w t.a t.L
theorem trees_call {w w' : World} {a : Option Addr} {Ts : List Pl.Tr} (h : isTrees w a Ts) (b : Below w.heap.size w w') : isTrees w' a Ts := fun i t hi => by
  obtain ⟨⟨g, o, h1, h2, h3⟩, h4⟩ := h i t hi
  exact ⟨⟨g, o, h1, Nat.lt_of_lt_of_le h2 b.size, (b.cell (p := ⟨g, _, none⟩) h2).trans h3⟩, nodes_call h4 b⟩
theorem trees_nil (w : World) (a : Option Addr) : isTrees w a [] := fun i n hi => by simp at hi
end Mem
end Go.Proofs.YtkfpfckmjgjanaaDoor

/- A row of items in memory: each a number and a tree. -/
namespace Go.Proofs.YtkfpfckmjgjanaaDoor
open Go.RowKit
namespace Pl
/-- An item as it lies: its number, and its tree. -/
structure It where
  m : Int
  t : Tr
/-- An item as it reads. -/
def It.r (x : It) : Int × List Nd := (x.m, x.t.L)
end Pl
namespace Mem
def isItems (w : World) (a : Option Addr) (Is : List Pl.It) : Prop :=
  ∀ (i : Nat) x, Is[i]? = some x → (∃ b o, a = some ⟨b, o, none⟩ ∧ b < w.heap.size ∧ w.cell? ⟨b, o + i * 2, none⟩ = some (.int .i64 x.m) ∧ w.cell? ⟨b, o + i * 2 + 1, none⟩ = some x.t.val) ∧ isNodes w x.t.a x.t.L
theorem items_call {w w' : World} {a : Option Addr} {Is : List Pl.It} (h : isItems w a Is) (b : Below w.heap.size w w') : isItems w' a Is := fun i t hi => by
  obtain ⟨⟨g, o, h1, h2, h3, h5⟩, h4⟩ := h i t hi
  exact ⟨⟨g, o, h1, Nat.lt_of_lt_of_le h2 b.size, (b.cell (p := ⟨g, _, none⟩) h2).trans h3, (b.cell (p := ⟨g, _, none⟩) h2).trans h5⟩, nodes_call h4 b⟩
theorem items_nil (w : World) (a : Option Addr) : isItems w a [] := fun i n hi => by simp at hi
theorem items_drop {w : World} {b o : Nat} {Is : List Pl.It} (k : Nat) (h : isItems w (some ⟨b, o, none⟩) Is) : isItems w (some ⟨b, o + k * 2, none⟩) (Is.drop k) := fun i t hi => by
  rw [List.getElem?_drop] at hi
  obtain ⟨⟨g, o', h1, h2, h3, h5⟩, h4⟩ := h _ t hi
  cases h1
  refine ⟨⟨b, _, rfl, h2, ?_, ?_⟩, h4⟩
  · rw [show o + k * 2 + i * 2 = o + (k + i) * 2 by omega]; exact h3
  · rw [show o + k * 2 + i * 2 + 1 = o + (k + i) * 2 + 1 by omega]; exact h5
/-- A place so many items further on in the same row. -/
def shifted (a a' : Option Addr) (k : Nat) (Is : List Pl.It) : Prop := Is.drop k = [] ∨ ∃ b o, a = some ⟨b, o, none⟩ ∧ a' = some ⟨b, o + k * 2, none⟩
theorem items_shift {w : World} {a a' : Option Addr} {k : Nat} {Is : List Pl.It} (h : isItems w a Is) (hs : shifted a a' k Is) : isItems w a' (Is.drop k) := by
  rcases hs with hs | ⟨b, o, rfl, rfl⟩
  · rw [hs]; exact items_nil _ _
  · exact items_drop k h
theorem shifted_trans {a a' a'' : Option Addr} {k j : Nat} {Is : List Pl.It} (h : shifted a a' k Is) (h' : shifted a' a'' j (Is.drop k)) : shifted a a'' (k + j) Is := by
  rcases h' with h' | ⟨b, o, e1, e2⟩
  · rw [List.drop_drop] at h'; exact .inl h'
  · rcases h with h | ⟨b1, o1, e3, e4⟩
    · left; rw [← List.drop_drop, h, List.drop_nil]
    · rw [e4] at e1
      cases e1
      exact .inr ⟨_, o1, e3, by rw [e2]; congr 2; omega⟩
end Mem
end Go.Proofs.YtkfpfckmjgjanaaDoor

/- The walks of the specification's l05Item, l05End and NestRight. -/
namespace Go.Proofs.YtkfpfckmjgjanaaDoor
open Go.RowKit
namespace WNestS
set_option maxRecDepth 100000 in
theorem item_any (m : Int) (a : Option Addr) (cap : Nat) (L : List Pl.Nd) (w : World) (hl : L.length ≤ 1048576) (hv : Mem.isNodes w a L) (hok : ∀ n ∈ L, n.path.size ≤ 1048576 ∧ n.data.size ≤ 1048576) :
    Calls Tryd.prog 103 #[.agg #[.int .i64 m, .slice a L.length cap]] w fun e w' => e = .returned (.bool (Pl.itemB m L)) ∧ Below w.heap.size w w' := by
  have b0 : ∀ o, Below w.heap.size w (w.alloc o) := fun o => (Below.refl _ _).alloc (Nat.le_refl _) o
  have HB := hide b0
  by_cases h0 : m = 0
  · subst h0
    rw [Pl.itemB_zero]
    have hz := hide (fun W (b : Below w.heap.size w W) => WTreeS.right_tree a cap L W hl (Mem.nodes_call hv b) hok)
    clear hv hok b0
    go_enter Tryd.func103, Tryd.ntmps103
    go_wp2_with fail
    refine (unhide hz _ (unhide HB _)).mono ?_
    rintro e w1 ⟨rfl, b1⟩
    have bb := (unhide HB _).trans (b1.mono (unhide HB _).size)
    clear hz b1
    go_wp2
    go_ret
    exact ⟨rfl, bb⟩
  · rw [Pl.itemB_more h0]
    have hIS := hide (WNode.is_any m 1 4)
    generalize (decide ((1 : Int) ≤ m) && decide (m ≤ 4)) = V at hIS
    clear hv hok b0
    go_enter Tryd.func103, Tryd.ntmps103
    go_wp2_with fail
    refine (unhide hIS _).mono ?_
    rintro e w1 ⟨rfl, rfl⟩
    cases V
    · go_wp2
      go_ret
      exact ⟨by simp, unhide HB _⟩
    · by_cases h1 : L.length = 0
      · have t1 : (L.length : Int) = 0 := by omega
        go_wp2
        go_ret
        exact ⟨by simp [h1], unhide HB _⟩
      · have t1 : ¬ (L.length : Int) = 0 := by omega
        go_wp2
        go_ret
        exact ⟨by simp [h1], unhide HB _⟩
set_option linter.unusedSimpArgs false in
set_option maxRecDepth 100000 in
set_option maxHeartbeats 1000000 in
theorem end_any (a : Option Addr) (cap : Nat) (Is : List Pl.It) (hl : Is.length ≤ 12) (hok : ∀ x ∈ Is, x.t.L.length ≤ 1048576 ∧ ∀ n ∈ x.t.L, n.path.size ≤ 1048576 ∧ n.data.size ≤ 1048576) (q : Nat) :
    ∀ (deep p : Nat) (w : World), deep + q = 5 → p ≤ Is.length → Mem.isItems w a Is →
    Calls Tryd.prog 73 #[.slice a Is.length cap, .int .i64 (p : Int), .int .i64 (deep : Int)] w fun e w' => e = .returned (.int .i64 (Pl.endI Is.length (Pl.ends 1 deep ((Pl.rowO (Is.map Pl.It.r)).drop p)))) ∧ Below w.heap.size w w' := by
  have hrl : (Pl.rowO (Is.map Pl.It.r)).length = Is.length := by rw [Pl.rowO_len, List.length_map]
  induction q with
  | zero =>
    intro deep p w hd hp hv
    rw [Pl.ends_deep deep _ (by omega)]
    simp only [Pl.endI]
    have t1 : (4 : Int) < (deep : Int) := by omega
    by_cases hlt : (Is.length : Int) ≤ (p : Int)
    · go_enter Tryd.func73, Tryd.ntmps73
      go_wp2
      go_ret
      exact ⟨rfl, Below.refl _ _⟩
    · go_enter Tryd.func73, Tryd.ntmps73
      go_wp2
      go_ret
      exact ⟨rfl, Below.refl _ _⟩
  | succ q ih =>
    intro deep p w hd hp hv
    by_cases hlt : (Is.length : Int) ≤ (p : Int)
    · have e : (Pl.rowO (Is.map Pl.It.r)).drop p = [] := List.drop_eq_nil_of_le (by omega)
      rw [e, Pl.ends_nil]
      simp only [Pl.endI]
      go_enter Tryd.func73, Tryd.ntmps73
      go_wp2
      go_ret
      exact ⟨rfl, Below.refl _ _⟩
    have t1 : ¬ (4 : Int) < (deep : Int) := by omega
    have t2 : (0 : Int) ≤ (p : Int) := by omega
    have t3 : (p : Int) < (Is.length : Int) := by omega
    obtain ⟨x, hx⟩ : ∃ x, Is[p]? = some x := ⟨_, List.getElem?_eq_getElem (by omega)⟩
    obtain ⟨⟨b, o, rfl, hb, q0, q0'⟩, q1⟩ := hv p x hx
    have hz := hide (item_any x.m x.t.a x.t.cap x.t.L w (hok x (List.mem_of_getElem? hx)).1 q1 (hok x (List.mem_of_getElem? hx)).2)
    have hrow : (Pl.rowO (Is.map Pl.It.r)).drop p = Pl.itemO (x.m, x.t.L) :: (Pl.rowO (Is.map Pl.It.r)).drop (p + 1) := Pl.rowO_at (by rw [List.getElem?_map, hx]; rfl)
    have c0 := q0
    have c1 := q0'
    simp only [Pl.Tr.val] at c1
    have HI := hide (fun (p' : Nat) (W : World) (hp' : p' ≤ Is.length) (bb : Below w.heap.size w W) => ih (deep + 1) p' W (by omega) hp' (Mem.items_call hv bb))
    have HQ := hide q0
    have HR := hide hrl
    rw [hrow]
    generalize hLL : Pl.rowO (Is.map Pl.It.r) = LL at hrl hrow HI HR ⊢
    clear hLL hv hok ih hx q0' q1 hrow
    cases hib : Pl.itemB x.m x.t.L
    · rw [hib] at hz
      rw [Pl.itemO_no hib, Pl.ends_none]
      simp only [Pl.endI]
      clear HI hib q0
      go_enter Tryd.func73, Tryd.ntmps73
      go_wp2_with fail
      refine (unhide hz).mono ?_
      rintro e w1 ⟨rfl, b1⟩
      clear hz
      go_wp2
      go_ret
      exact ⟨rfl, b1⟩
    · rw [hib] at hz
      obtain ⟨hm0, hm4⟩ := Pl.itemB_range hib
      rw [Pl.itemO_yes hib, Pl.ends_one]
      obtain ⟨mm, hmm⟩ : ∃ mm : Nat, x.m = (mm : Int) := ⟨x.m.toNat, by omega⟩
      rw [hmm] at c0 hz HQ ⊢
      rw [Int.toNat_natCast]
      have hm5 : mm ≤ 4 := by omega
      clear hib hmm hm0 hm4 q0
      generalize hT : Pl.ends mm (deep + 1) (LL.drop (p + 1)) = T
      have HT := hide hT
      clear hT
      go_enter Tryd.func73, Tryd.ntmps73
      go_wp2_with fail
      refine (unhide hz).mono ?_
      rintro e w1 ⟨rfl, b1⟩
      have c2 := (b1.cell (p := ⟨b, _, none⟩) hb).trans (unhide HQ)
      clear hz c0 c1 HQ
      go_wp2
      go_loopw [1, 7] (fun v k wr => ∃ kk : Nat, k = .int .i64 (kk : Int) ∧ kk ≤ 4 ∧ Below w.heap.size w wr ∧ ((∃ p' : Nat, v = .int .i64 (p' : Int) ∧ p' ≤ Is.length ∧ Hid (Pl.ends kk (deep + 1) (LL.drop p') = T)) ∨ (v = .int .i64 (-1) ∧ Hid (T = none)))) (fun _ k _ => (intOf k).toNat)
      case atStart => exact ⟨mm, rfl, hm5, b1, .inl ⟨p + 1, by go_num, by omega, HT⟩⟩
      case round =>
        obtain ⟨kk, rfl, hk4, hbel, hcase⟩ := hrel
        rcases hcase with ⟨p', rfl, hp', HE⟩ | ⟨rfl, HE⟩
        · have u0 : (0 : Int) ≤ (p' : Int) := by omega
          cases kk with
          | zero =>
            have hfin : Pl.endI Is.length T = (p' : Int) := by
              rw [← unhide HE, Pl.ends_zero _ _ (by omega), Pl.endI, List.length_drop]
              omega
            go_wp2
            go_ret
            exact ⟨by first | rfl | (rw [hfin]; rfl), hbel⟩
          | succ kk =>
            have u1 : (0 : Int) < ((kk + 1 : Nat) : Int) := by omega
            have hcall := hide (unhide HI p' wr hp' hbel)
            go_wp2_with fail
            simp only [show (deep : Int) + 1 = ((deep + 1 : Nat) : Int) by omega, show IntKind.i64.wrap ((deep + 1 : Nat) : Int) = ((deep + 1 : Nat) : Int) by rw [IntKind.wrap_i64]; omega]
            refine (unhide hcall).mono ?_
            rintro e w2 ⟨rfl, b2⟩
            have hb2 := hbel.trans (b2.mono hbel.size)
            have hst := unhide HE
            rw [Pl.ends_step] at hst
            cases hR : Pl.ends 1 (deep + 1) (LL.drop p') with
            | none =>
              rw [hR] at hst
              have HE2 : Hid (T = none) := hide (by rw [← hst]; rfl)
              simp only [Pl.endI]
              clear hst HE hR hcall b2
              go_wp2
              go_roundw
              case rel => exact ⟨kk, by go_num, by omega, hb2, .inr ⟨rfl, HE2⟩⟩
              case measure => simp [intOf]
            | some R =>
              rw [hR] at hst
              obtain ⟨p2, e2, hp2, hd2⟩ := Pl.ends_at (unhide HR) hp' hR
              rw [e2]
              have HE2 : Hid (Pl.ends kk (deep + 1) (LL.drop p2) = T) := hide (by rw [hd2, ← hst]; rfl)
              clear hst HE hR hcall b2 hd2 e2
              go_wp2
              go_roundw
              case rel => exact ⟨kk, by go_num, by omega, hb2, .inl ⟨p2, rfl, hp2, HE2⟩⟩
              case measure => simp [intOf]
        · have hfin : Pl.endI Is.length T = -1 := by rw [unhide HE]; rfl
          by_cases hk0 : (0 : Int) < (kk : Int)
          · go_wp2
            go_ret
            exact ⟨by first | rfl | (rw [hfin]; rfl), hbel⟩
          · go_wp2
            go_ret
            exact ⟨by first | rfl | (rw [hfin]; rfl), hbel⟩
set_option maxRecDepth 100000 in
theorem right_any (a : Option Addr) (cap : Nat) (Is : List Pl.It) (w : World) (hl : Is.length ≤ 1048576) (hv : Mem.isItems w a Is) (hok : ∀ x ∈ Is, x.t.L.length ≤ 1048576 ∧ ∀ n ∈ x.t.L, n.path.size ≤ 1048576 ∧ n.data.size ≤ 1048576) :
    Calls Tryd.prog 35 #[.slice a Is.length cap] w fun e w' => e = .returned (.bool (Pl.nest (Pl.rowO (Is.map Pl.It.r))).isSome) ∧ Below w.heap.size w w' := by
  have hrl : (Pl.rowO (Is.map Pl.It.r)).length = Is.length := by rw [Pl.rowO_len, List.length_map]
  by_cases h12 : Is.length ≤ 12
  · have t0 : (Is.length : Int) ≤ 12 := by omega
    have hz := hide (end_any a cap Is h12 hok 4 1 0 w rfl (Nat.zero_le _) hv)
    have hne := Pl.nest_ends (Pl.rowO (Is.map Pl.It.r)) (by omega)
    have hen : ∀ R, Pl.ends 1 1 ((Pl.rowO (Is.map Pl.It.r)).drop 0) = some R → R.length ≤ Is.length := fun R h => by have := (Pl.ends_len h).1; simp only [List.drop_zero] at this; omega
    rw [List.drop_zero] at hz hen
    generalize Pl.ends 1 1 (Pl.rowO (Is.map Pl.It.r)) = E at hz hne hen
    generalize (Pl.nest (Pl.rowO (Is.map Pl.It.r))).isSome = V at hne ⊢
    clear hv hok hrl
    have HN := hide hne
    have HEN := hide hen
    clear hne hen
    go_enter Tryd.func35, Tryd.ntmps35
    go_wp2_with fail
    refine (unhide hz).mono ?_
    rintro e w1 ⟨rfl, b1⟩
    clear hz
    by_cases hE : Pl.endI Is.length E = (Is.length : Int)
    · have hV : V = true := (unhide HN).2 (by
        cases E with
        | none => simp [Pl.endI] at hE
        | some R => rw [Pl.endI] at hE; rw [List.eq_nil_of_length_eq_zero (by omega : R.length = 0)])
      go_wp2
      go_ret
      exact ⟨by rw [hV]; rfl, b1⟩
    · have hV : V = false := by
        cases hV : V
        · rfl
        · exact absurd (by rw [(unhide HN).1 hV]; simp [Pl.endI]) hE
      go_wp2
      go_ret
      exact ⟨by rw [hV]; simp [hE], b1⟩
  · have t0 : ¬ (Is.length : Int) ≤ 12 := by omega
    rw [Pl.nest_long _ (by omega)]
    go_enter Tryd.func35, Tryd.ntmps35
    go_wp2
    go_ret
    exact ⟨rfl, Below.refl _ _⟩
end WNestS
end Go.Proofs.YtkfpfckmjgjanaaDoor

/- The walk of the specification's Reach: how many trees of a nest have a node of a path. -/
namespace Go.Proofs.YtkfpfckmjgjanaaDoor
open Go.RowKit
namespace Pl
def hasP (p : ByteArray) (L : List Nd) : Bool := (L.find? (fun m => decide (m.path = p))).isSome
def reachC (p : ByteArray) (Is : List It) : Nat := Is.countP (fun x => hasP p x.t.L)
theorem reach_le (p : ByteArray) (Is : List It) : reachC p Is ≤ Is.length := List.countP_le_length
theorem reach_next {p : ByteArray} {Is : List It} {k : Nat} {x : It} (hx : Is[k]? = some x) : reachC p (Is.take (k + 1)) = reachC p (Is.take k) + (if hasP p x.t.L then 1 else 0) := by
  unfold reachC
  rw [List.take_add_one, hx, List.countP_append]
  simp [List.countP_cons]
/-- What Reach answers. -/
def reachO (p : ByteArray) (Is : List It) : Int := if (nest (rowO (Is.map It.r))).isSome = true ∧ pathB p = true then (reachC p Is : Int) else 0
end Pl
namespace WReachS
theorem at_yes {L : List Pl.Nd} {p : ByteArray} {r : Int} (h : WTreeS.AtIs L p r) (hr : 0 ≤ r) : Pl.hasP p L = true := by
  unfold Pl.hasP
  rcases h.out with ⟨k, n, _, _, hf⟩ | ⟨e, _⟩
  · rw [hf]; rfl
  · omega
theorem at_no {L : List Pl.Nd} {p : ByteArray} {r : Int} (h : WTreeS.AtIs L p r) (hr : ¬ 0 ≤ r) : Pl.hasP p L = false := by
  unfold Pl.hasP
  rcases h.out with ⟨k, n, e, _, _⟩ | ⟨_, hf⟩
  · omega
  · rw [hf]; rfl
set_option linter.unusedSimpArgs false in
set_option maxRecDepth 100000 in
set_option maxHeartbeats 1000000 in
theorem reach_any (a : Option Addr) (cap : Nat) (Is : List Pl.It) (p : ByteArray) (w : World) (hl : Is.length ≤ 1048576) (hv : Mem.isItems w a Is) (hok : ∀ x ∈ Is, x.t.L.length ≤ 1048576 ∧ ∀ n ∈ x.t.L, n.path.size ≤ 1048576 ∧ n.data.size ≤ 1048576) (hp : p.size ≤ 1048576) :
    Calls Tryd.prog 10 #[.slice a Is.length cap, .string p] w fun e w' => e = .returned (.int .i64 (Pl.reachO p Is)) ∧ Below w.heap.size w w' := by
  by_cases h400 : 400 < Is.length
  · have t0 : (400 : Int) < (Is.length : Int) := by omega
    have E : Pl.reachO p Is = 0 := by rw [Pl.reachO, Pl.nest_long _ (by rw [Pl.rowO_len, List.length_map]; omega), if_neg (by simp)]
    rw [E]
    clear hv hok
    go_enter Tryd.func10, Tryd.ntmps10
    go_wp2
    go_ret
    exact ⟨rfl, Below.refl _ _⟩
  have t0 : ¬ (400 : Int) < (Is.length : Int) := by omega
  by_cases h8 : 8000 < p.size
  · have t1 : (8000 : Int) < (p.size : Int) := by omega
    have E : Pl.reachO p Is = 0 := by rw [Pl.reachO, Pl.pathB_long (by omega), if_neg (by simp)]
    rw [E]
    clear hv hok
    go_enter Tryd.func10, Tryd.ntmps10
    go_wp2
    go_ret
    exact ⟨rfl, Below.refl _ _⟩
  have t1 : ¬ (8000 : Int) < (p.size : Int) := by omega
  have hz := hide (WNestS.right_any a cap Is w hl hv hok)
  have hr := hide (fun W => WPathS.right_one p W hp)
  have HAT := hide (fun (x : Pl.It) (hx : x ∈ Is) W (v : Mem.isNodes W x.t.a x.t.L) => WTreeS.at_any x.t.a x.t.cap x.t.L p W (hok x hx).1 v)
  have HV := hide hv
  clear hv hok
  have EO : Hid (Pl.reachO p Is = if (Pl.nest (Pl.rowO (Is.map Pl.It.r))).isSome = true ∧ Pl.pathB p = true then (Pl.reachC p Is : Int) else 0) := rfl
  generalize Pl.reachO p Is = R at EO ⊢
  cases hN : (Pl.nest (Pl.rowO (Is.map Pl.It.r))).isSome
  · rw [hN] at hz EO
    have E : R = 0 := by rw [unhide EO, if_neg (by simp)]
    subst E
    go_enter Tryd.func10, Tryd.ntmps10
    go_wp2_with fail
    refine (unhide hz).mono ?_
    rintro e w1 ⟨rfl, b1⟩
    go_wp2
    go_ret
    exact ⟨rfl, b1⟩
  · rw [hN] at hz EO
    cases hP : Pl.pathB p
    · rw [hP] at hr EO
      have E : R = 0 := by rw [unhide EO, if_neg (by simp)]
      subst E
      go_enter Tryd.func10, Tryd.ntmps10
      go_wp2_with fail
      refine (unhide hz).mono ?_
      rintro e w1 ⟨rfl, b1⟩
      go_wp2_with fail
      refine (unhide hr _).mono ?_
      rintro e w2 ⟨rfl, b2⟩
      go_wp2
      go_ret
      exact ⟨rfl, b1.trans (b2.mono b1.size)⟩
    · rw [hP] at hr EO
      have E : R = (Pl.reachC p Is : Int) := by rw [unhide EO, if_pos (by simp)]
      subst E
      clear EO
      go_enter Tryd.func10, Tryd.ntmps10
      go_wp2_with fail
      refine (unhide hz).mono ?_
      rintro e w1 ⟨rfl, b1⟩
      go_wp2_with fail
      refine (unhide hr _).mono ?_
      rintro e w2 ⟨rfl, b2⟩
      have bw2 := b1.trans (b2.mono b1.size)
      have HRN : Hid (∀ (k : Nat) x, Is[k]? = some x → Pl.reachC p (Is.take (k + 1)) = Pl.reachC p (Is.take k) + (if Pl.hasP p x.t.L then 1 else 0)) := fun k x hx => Pl.reach_next hx
      have HRL : Hid (∀ k : Nat, Pl.reachC p (Is.take k) ≤ k) := fun k => Nat.le_trans (Pl.reach_le p _) (by rw [List.length_take]; omega)
      have HRE : Hid (Pl.reachC p (Is.take Is.length) = Pl.reachC p Is) := by show _ = _; rw [List.take_length]
      clear hz hr b1 b2 hN hP
      go_wp2
      go_loopw [5, 6] (fun c i wr => ∃ k : Nat, k ≤ Is.length ∧ i = .int .i64 (k : Int) ∧ c = .int .i64 (Pl.reachC p (Is.take k) : Int) ∧ Below w.heap.size w wr) (fun _ i _ => Is.length - (intOf i).toNat)
      case atStart => exact ⟨0, Nat.zero_le _, rfl, by simp [Pl.reachC], bw2⟩
      case round =>
        obtain ⟨k, hk, rfl, rfl, hbel⟩ := hrel
        by_cases hlt : k < Is.length
        · obtain ⟨x, hx⟩ : ∃ x, Is[k]? = some x := ⟨_, List.getElem?_eq_getElem hlt⟩
          have y1 : (k : Int) < (Is.length : Int) := by omega
          have y3 : (0 : Int) ≤ (k : Int) := by omega
          obtain ⟨⟨b, o, rfl, hb, q0, q1⟩, hnv⟩ := (Mem.items_call (unhide HV) hbel) k x hx
          have hat := hide (unhide HAT x (List.mem_of_getElem? hx) wr hnv)
          have hc := unhide HRL k
          have e1 := unhide HRN k x hx
          simp only [Pl.Tr.val] at q1
          clear hnv hx
          go_wp2_with fail
          refine (unhide hat).mono ?_
          rintro e w3 ⟨⟨r, rfl, hA⟩, b3⟩
          have bel3 := hbel.trans (b3.mono hbel.size)
          clear hat b3
          by_cases hr0 : 0 ≤ r
          · have hh : Pl.hasP p x.t.L = true := at_yes hA hr0
            rw [hh, if_pos rfl] at e1
            have e2 : (Pl.reachC p (Is.take (k + 1)) : Int) = (Pl.reachC p (Is.take k) : Int) + 1 := by omega
            clear hA e1 hh
            go_wp2
            go_roundw
            case rel => exact ⟨k + 1, by omega, by go_num, by rw [e2], bel3⟩
            case measure => simp [intOf]; omega
          · have hh : Pl.hasP p x.t.L = false := at_no hA hr0
            rw [hh] at e1
            have e2 : (Pl.reachC p (Is.take (k + 1)) : Int) = (Pl.reachC p (Is.take k) : Int) := by simp at e1; omega
            clear hA e1 hh
            go_wp2
            go_roundw
            case rel => exact ⟨k + 1, by omega, by go_num, by rw [e2], bel3⟩
            case measure => simp [intOf]; omega
        · have y1 : ¬ (k : Int) < (Is.length : Int) := by omega
          obtain rfl : k = Is.length := by omega
          go_wp2
          go_ret
          exact ⟨by first | rw [unhide HRE] | rfl | simp, hbel⟩
end WReachS
end Go.Proofs.YtkfpfckmjgjanaaDoor

