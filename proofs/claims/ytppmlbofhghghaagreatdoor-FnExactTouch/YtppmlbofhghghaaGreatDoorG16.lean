/- Several texts of one claim in one file: WTreeR, WNestS, WDropX, MemAppend, WMaxS, WAllS, WPickA. -/
import Derived.Test.YtppmlbofhghghaaGreatDoorWTreeS
import Derived.Test.YtppmlbofhghghaaGreatDoorG02
import Derived.Test.YtppmlbofhghghaaGreatDoorG01
import Derived.Test.YtppmlbofhghghaaGreatDoorG00
import Derived.Below
import Derived.WalkKit
import Derived.Laws.IdiomStrings
import Derived.Deep.RegionHeld3
import Derived.Laws.AppendOwn
import Derived.Test.YtppmlbofhghghaaGreatDoorProg
import Derived.WalkSpells
namespace Go.Proofs.YtppmlbofhghghaaGreatDoor
open Go.RowKit
namespace zk5
theorem yq1 (a : Option Addr) (cap : Nat) (L : List Pl.Nd) (w : World) (hl : L.length ≤ 1048576) (hv : Mem.za1 w a L) (hok : ∀ n ∈ L, n.path.size ≤ 1048576 ∧ n.data.size ≤ 1048576) :
  Calls Tryz.prog 105 #[.agg #[.slice a L.length cap]] w fun e w' => e = .returned (.bool (Pl.za5 L)) ∧ Below w.heap.size w w' := by
 have h := zq3 a cap L w hl hv hok
 rw [Pl.tree_same] at h
 exact h
end zk5
end Go.Proofs.YtppmlbofhghghaaGreatDoor

namespace Go.Proofs.YtppmlbofhghghaaGreatDoor
open Go.RowKit
namespace zs5
set_option maxRecDepth 100000 in
theorem item_any (m : Int) (a : Option Addr) (cap : Nat) (L : List Pl.Nd) (w : World) (hl : L.length ≤ 1048576) (hv : Mem.za1 w a L) (hok : ∀ n ∈ L, n.path.size ≤ 1048576 ∧ n.data.size ≤ 1048576) :
  Calls Tryz.prog 134 #[.agg #[.int .i64 m, .slice a L.length cap]] w fun e w' => e = .returned (.bool (Pl.zk3 m L)) ∧ Below w.heap.size w w' := by
 have b0 : ∀ o, Below w.heap.size w (w.alloc o) := fun o => (Below.refl _ _).alloc (Nat.le_refl _) o
 have HB := hide b0
 by_cases h0 : m = 0
 ·subst h0
  rw [Pl.yn9]
  have hz := hide (fun W (b : Below w.heap.size w W) => zk5.yq1 a cap L W hl (Mem.za0 hv b) hok)
  clear hv hok b0
  go_enter Tryz.func134, Tryz.ntmps134
  go_wp2_with fail
  refine (za hz _ (za HB _)).mono ?_
  rintro e w1 ⟨rfl, b1⟩
  have bb := (za HB _).trans (b1.mono (za HB _).size)
  clear hz b1
  go_wp2
  go_ret
  exact ⟨rfl, bb⟩
 ·rw [Pl.yj4 h0]
  have hIS := hide (zv9.is_any m 1 4)
  generalize (decide ((1 : Int) ≤ m) && decide (m ≤ 4)) = V at hIS
  clear hv hok b0
  go_enter Tryz.func134, Tryz.ntmps134
  go_wp2_with fail
  refine (za hIS _).mono ?_
  rintro e w1 ⟨rfl, rfl⟩
  cases V
  ·go_wp2
   go_ret
   exact ⟨by simp, za HB _⟩
  ·by_cases h1 : L.length = 0
   ·have t1 : (L.length : Int) = 0 := by omega
    go_wp2
    go_ret
    exact ⟨by simp [h1], za HB _⟩
   ·have t1 : ¬ (L.length : Int) = 0 := by omega
    go_wp2
    go_ret
    exact ⟨by simp [h1], za HB _⟩
set_option linter.unusedSimpArgs false in
set_option maxRecDepth 100000 in
set_option maxHeartbeats 1000000 in
theorem end_any (a : Option Addr) (cap : Nat) (Is : List Pl.It) (hl : Is.length ≤ 12) (hok : ∀ x ∈ Is, x.t.L.length ≤ 1048576 ∧ ∀ n ∈ x.t.L, n.path.size ≤ 1048576 ∧ n.data.size ≤ 1048576) (q : Nat) :
  ∀ (deep p : Nat) (w : World), deep + q = 5 → p ≤ Is.length → Mem.zb3 w a Is →
  Calls Tryz.prog 101 #[.slice a Is.length cap, .int .i64 (p : Int), .int .i64 (deep : Int)] w fun e w' => e = .returned (.int .i64 (Pl.endI Is.length (Pl.ends 1 deep ((Pl.rowO (Is.map Pl.It.r)).drop p)))) ∧ Below w.heap.size w w' := by
 have hrl : (Pl.rowO (Is.map Pl.It.r)).length = Is.length := by rw [Pl.zx7, List.length_map]
 induction q with
 | zero =>
  intro deep p w hd hp hv
  rw [Pl.ends_deep deep _ (by omega)]
  simp only [Pl.endI]
  have t1 : (4 : Int) < (deep : Int) := by omega
  by_cases hlt : (Is.length : Int) ≤ (p : Int)
  ·go_enter Tryz.func101, Tryz.ntmps101
   go_wp2
   go_ret
   exact ⟨rfl, Below.refl _ _⟩
  ·go_enter Tryz.func101, Tryz.ntmps101
   go_wp2
   go_ret
   exact ⟨rfl, Below.refl _ _⟩
 | succ q ih =>
  intro deep p w hd hp hv
  by_cases hlt : (Is.length : Int) ≤ (p : Int)
  ·have e : (Pl.rowO (Is.map Pl.It.r)).drop p = [] := List.drop_eq_nil_of_le (by omega)
   rw [e, Pl.ends_nil]
   simp only [Pl.endI]
   go_enter Tryz.func101, Tryz.ntmps101
   go_wp2
   go_ret
   exact ⟨rfl, Below.refl _ _⟩
  have t1 : ¬ (4 : Int) < (deep : Int) := by omega
  have t2 : (0 : Int) ≤ (p : Int) := by omega
  have t3 : (p : Int) < (Is.length : Int) := by omega
  obtain ⟨x, hx⟩ : ∃ x, Is[p]? = some x := ⟨_, List.getElem?_eq_getElem (by omega)⟩
  obtain ⟨⟨b, o, rfl, hb, q0, q0'⟩, q1⟩ := hv p x hx
  have hz := hide (item_any x.m x.t.a x.t.cap x.t.L w (hok x (List.mem_of_getElem? hx)).1 q1 (hok x (List.mem_of_getElem? hx)).2)
  have hrow : (Pl.rowO (Is.map Pl.It.r)).drop p = Pl.zr5 (x.m, x.t.L) :: (Pl.rowO (Is.map Pl.It.r)).drop (p + 1) := Pl.rowO_at (by rw [List.getElem?_map, hx]; rfl)
  have c0 := q0
  have c1 := q0'
  simp only [Pl.Tr.val] at c1
  have HI := hide (fun (p' : Nat) (W : World) (hp' : p' ≤ Is.length) (bb : Below w.heap.size w W) => ih (deep + 1) p' W (by omega) hp' (Mem.za6 hv bb))
  have HQ := hide q0
  have HR := hide hrl
  rw [hrow]
  generalize hLL : Pl.rowO (Is.map Pl.It.r) = LL at hrl hrow HI HR ⊢
  clear hLL hv hok ih hx q0' q1 hrow
  cases hib : Pl.zk3 x.m x.t.L
  ·rw [hib] at hz
   rw [Pl.itemO_no hib, Pl.ends_none]
   simp only [Pl.endI]
   clear HI hib q0
   go_enter Tryz.func101, Tryz.ntmps101
   go_wp2_with fail
   refine (za hz).mono ?_
   rintro e w1 ⟨rfl, b1⟩
   clear hz
   go_wp2
   go_ret
   exact ⟨rfl, b1⟩
  ·rw [hib] at hz
   obtain ⟨hm0, hm4⟩ := Pl.yf8 hib
   rw [Pl.itemO_yes hib, Pl.ends_one]
   obtain ⟨mm, hmm⟩ : ∃ mm : Nat, x.m = (mm : Int) := ⟨x.m.toNat, by omega⟩
   rw [hmm] at c0 hz HQ ⊢
   rw [Int.toNat_natCast]
   have hm5 : mm ≤ 4 := by omega
   clear hib hmm hm0 hm4 q0
   generalize hT : Pl.ends mm (deep + 1) (LL.drop (p + 1)) = T
   have HT := hide hT
   clear hT
   go_enter Tryz.func101, Tryz.ntmps101
   go_wp2_with fail
   refine (za hz).mono ?_
   rintro e w1 ⟨rfl, b1⟩
   have c2 := (b1.cell (p := ⟨b, _, none⟩) hb).trans (za HQ)
   clear hz c0 c1 HQ
   go_wp2
   go_loopw [1, 7] (fun v k wr => ∃ kk : Nat, k = .int .i64 (kk : Int) ∧ kk ≤ 4 ∧ Below w.heap.size w wr ∧ ((∃ p' : Nat, v = .int .i64 (p' : Int) ∧ p' ≤ Is.length ∧ Hid (Pl.ends kk (deep + 1) (LL.drop p') = T)) ∨ (v = .int .i64 (-1) ∧ Hid (T = none)))) (fun _ k _ => (intOf k).toNat)
   case atStart => exact ⟨mm, rfl, hm5, b1, .inl ⟨p + 1, by go_num, by omega, HT⟩⟩
   case round =>
    obtain ⟨kk, rfl, hk4, hbel, hcase⟩ := hrel
    rcases hcase with ⟨p', rfl, hp', HE⟩ | ⟨rfl, HE⟩
    ·have u0 : (0 : Int) ≤ (p' : Int) := by omega
     cases kk with
     | zero =>
      have hfin : Pl.endI Is.length T = (p' : Int) := by
       rw [← za HE, Pl.ends_zero _ _ (by omega), Pl.endI, List.length_drop]
       omega
      go_wp2
      go_ret
      exact ⟨by first | rfl | (rw [hfin]; rfl), hbel⟩
     | succ kk =>
      have u1 : (0 : Int) < ((kk + 1 : Nat) : Int) := by omega
      have hcall := hide (za HI p' wr hp' hbel)
      go_wp2_with fail
      simp only [show (deep : Int) + 1 = ((deep + 1 : Nat) : Int) by omega, show IntKind.i64.wrap ((deep + 1 : Nat) : Int) = ((deep + 1 : Nat) : Int) by rw [IntKind.wrap_i64]; omega]
      refine (za hcall).mono ?_
      rintro e w2 ⟨rfl, b2⟩
      have hb2 := hbel.trans (b2.mono hbel.size)
      have hst := za HE
      rw [Pl.ends_step] at hst
      cases hR : Pl.ends 1 (deep + 1) (LL.drop p') with
      | none =>
       rw [hR] at hst
       have HE2 : Hid (T = none) := hide (by rw [← hst]; rfl)
       simp only [Pl.endI]
       clear hst HE hR hcall b2
       go_wp2
       go_roundw
       case rel => exact ⟨kk, by go_num, by omega, hb2, .inr ⟨rfl, HE2⟩⟩
       case measure => simp [intOf]
      | some R =>
       rw [hR] at hst
       obtain ⟨p2, e2, hp2, hd2⟩ := Pl.ends_at (za HR) hp' hR
       rw [e2]
       have HE2 : Hid (Pl.ends kk (deep + 1) (LL.drop p2) = T) := hide (by rw [hd2, ← hst]; rfl)
       clear hst HE hR hcall b2 hd2 e2
       go_wp2
       go_roundw
       case rel => exact ⟨kk, by go_num, by omega, hb2, .inl ⟨p2, rfl, hp2, HE2⟩⟩
       case measure => simp [intOf]
    ·have hfin : Pl.endI Is.length T = -1 := by rw [za HE]; rfl
     by_cases hk0 : (0 : Int) < (kk : Int)
     ·go_wp2
      go_ret
      exact ⟨by first | rfl | (rw [hfin]; rfl), hbel⟩
     ·go_wp2
      go_ret
      exact ⟨by first | rfl | (rw [hfin]; rfl), hbel⟩
set_option maxRecDepth 100000 in
theorem zq3 (a : Option Addr) (cap : Nat) (Is : List Pl.It) (w : World) (hl : Is.length ≤ 1048576) (hv : Mem.zb3 w a Is) (hok : ∀ x ∈ Is, x.t.L.length ≤ 1048576 ∧ ∀ n ∈ x.t.L, n.path.size ≤ 1048576 ∧ n.data.size ≤ 1048576) :
  Calls Tryz.prog 57 #[.slice a Is.length cap] w fun e w' => e = .returned (.bool (Pl.nest (Pl.rowO (Is.map Pl.It.r))).isSome) ∧ Below w.heap.size w w' := by
 have hrl : (Pl.rowO (Is.map Pl.It.r)).length = Is.length := by rw [Pl.zx7, List.length_map]
 by_cases h12 : Is.length ≤ 12
 ·have t0 : (Is.length : Int) ≤ 12 := by omega
  have hz := hide (end_any a cap Is h12 hok 4 1 0 w rfl (Nat.zero_le _) hv)
  have hne := Pl.nest_ends (Pl.rowO (Is.map Pl.It.r)) (by omega)
  have hen : ∀ R, Pl.ends 1 1 ((Pl.rowO (Is.map Pl.It.r)).drop 0) = some R → R.length ≤ Is.length := fun R h => by have := (Pl.ends_len h).1; simp only [List.drop_zero] at this; omega
  rw [List.drop_zero] at hz hen
  generalize Pl.ends 1 1 (Pl.rowO (Is.map Pl.It.r)) = E at hz hne hen
  generalize (Pl.nest (Pl.rowO (Is.map Pl.It.r))).isSome = V at hne ⊢
  clear hv hok hrl
  have HN := hide hne
  have HEN := hide hen
  clear hne hen
  go_enter Tryz.func57, Tryz.ntmps57
  go_wp2_with fail
  refine (za hz).mono ?_
  rintro e w1 ⟨rfl, b1⟩
  clear hz
  by_cases hE : Pl.endI Is.length E = (Is.length : Int)
  ·have hV : V = true := (za HN).2 (by
    cases E with
    | none => simp [Pl.endI] at hE
    | some R => rw [Pl.endI] at hE; rw [List.eq_nil_of_length_eq_zero (by omega : R.length = 0)])
   go_wp2
   go_ret
   exact ⟨by rw [hV]; rfl, b1⟩
  ·have hV : V = false := by
    cases hV : V
    ·rfl
    ·exact absurd (by rw [(za HN).1 hV]; simp [Pl.endI]) hE
   go_wp2
   go_ret
   exact ⟨by rw [hV]; simp [hE], b1⟩
 ·have t0 : ¬ (Is.length : Int) ≤ 12 := by omega
  rw [Pl.yk0 _ (by omega)]
  go_enter Tryz.func57, Tryz.ntmps57
  go_wp2
  go_ret
  exact ⟨rfl, Below.refl _ _⟩
end zs5
end Go.Proofs.YtppmlbofhghghaaGreatDoor

namespace Go.Proofs.YtppmlbofhghghaaGreatDoor
namespace zw1
theorem drop_cons {Is : List Pl.It} {p : Nat} {L : List Pl.Nd} {k m : Pl.Fx} {R : List (Int × List Pl.Nd)} (h : (Is.drop p).map Pl.It.r = (Pl.Fx.cons L k m).flat ++ R) : ∃ x, Is[p]? = some x ∧ x.m = (k.len : Int) ∧ x.t.L = L ∧ (Is.drop (p + 1)).map Pl.It.r = k.flat ++ (m.flat ++ R) := by
 rw [Pl.Fx.flat, List.cons_append] at h
 cases hd : Is.drop p with
 | nil => rw [hd] at h; cases h
 | cons x T =>
  rw [hd] at h
  simp only [List.map_cons, List.cons.injEq] at h
  have hx : Is[p]? = some x := by
   have := List.getElem?_drop (xs := Is) (i := p) (j := 0)
   rw [hd] at this
   simpa using this.symm
  have hT : Is.drop (p + 1) = T := by rw [← List.drop_drop, hd]; rfl
  refine ⟨x, hx, congrArg Prod.fst h.1, congrArg Prod.snd h.1, ?_⟩
  rw [hT, h.2, List.append_assoc]
theorem drop_more {Is : List Pl.It} {k : Pl.Fx} : ∀ {p : Nat} {R : List (Int × List Pl.Nd)}, (Is.drop p).map Pl.It.r = k.flat ++ R → (Is.drop (p + k.sz)).map Pl.It.r = R := by
 intro p R h
 rw [← List.drop_drop, List.map_drop, h, ← Pl.Fx.yc8, List.drop_left]
end zw1
end Go.Proofs.YtppmlbofhghghaaGreatDoor

namespace Go.Proofs.YtppmlbofhghghaaGreatDoor
open Go.RowKit
namespace Mem
theorem zm2 {P : Program} {ops : Array Oper} {o : Oper} {a : Act} {w : World} {K : Act → World → Prop} {Q : Exit → Act → World → Prop} {E : Prop}
  (hg : o.guard = none) (s x : Operand) (t : TypeId) (hop : o.op = Op.call { callee := Callee.builtin Builtin.append, args := #[s, x], argTypes := #[t, t] })
  (base : Nat) (e : TypeId) (i : TypeInfo) (z : Value) (size bytes : Nat) (h1 : P.underlying t = some (.slice e)) (h2 : P.info? e = some i) (h3 : i.zero = some z) (h4 : i.size = size) (h5 : i.bytes = bytes) (h6 : z.cells.size = size) (h7 : 0 < size)
  (v : Value) (n : Nat) (xs : List Value) (hs : a.eval s = v) (hown : w.ownsRow base e size v n xs)
  (ad : Addr) (m c : Nat) (news : List Value) (hx : a.eval x = .slice (some ad) m c) (hn : news.length = m * size) (hc : ∀ j u, news[j]? = some u → w.cell? (ad.add j) = some u) (h1c : ∀ u ∈ news, u.oneCell' = true)
  (b1 : n + m ≤ maxLen) (b2 : (n + m) * bytes ≤ 140737488355328) (hbase : base ≤ w.heap.size)
  (hK : ∀ v' w', w'.ownsRow base e size v' (n + m) (xs ++ news) → w.grownBy w' v.ownBlock → K (a.put o.dst v') w') :
  if Region.wanted o (yielded ops a.tmps) = true then Oper.wp P o a w K Q else E := by
 have hw : Region.wanted o (yielded ops a.tmps) = true := by simp [Region.wanted, hg]
 rw [if_pos hw]
 obtain ⟨v', w', hrun, r1, r2, _⟩ := run_append_own (P := P) w base t o.type e i z size bytes h1 h2 h3 h4 h5 h6 h7 v n xs hown ad m c news hn hc h1c b1 b2 hbase
 unfold Oper.wp
 simp [execOp, hop, resolve, invoke, builtin, hs, hx, hrun, Result.andThen]
 exact hK v' w' r1 r2
end Mem
end Go.Proofs.YtppmlbofhghghaaGreatDoor

namespace Go.Proofs.YtppmlbofhghghaaGreatDoor
open Go.RowKit
namespace zq9
set_option maxRecDepth 100000 in
theorem zs6 (x y : Int) (w : World) : Calls Tryz.prog 191 #[.int .i64 x, .int .i64 y] w fun e w' => e = .returned (.int .i64 (max x y)) ∧ w' = w := by
 by_cases h : y < x
 ·go_enter Tryz.func191, Tryz.ntmps191
  go_wp2
  go_ret
  exact ⟨by rw [show max x y = x by omega]; rfl, rfl⟩
 ·go_enter Tryz.func191, Tryz.ntmps191
  go_wp2
  go_ret
  exact ⟨by rw [show max x y = y by omega]; rfl, rfl⟩
end zq9
end Go.Proofs.YtppmlbofhghghaaGreatDoor

namespace Go.Proofs.YtppmlbofhghghaaGreatDoor
open Go.RowKit
namespace zq9
theorem infoI : (Tryz.prog.info? 3).map (fun i => (i.zero, i.size, i.bytes)) = some (some (.int .i64 0), 1, 8) := by kernel_rfl
def intsV (ks : List Nat) : List Value := ks.map (fun k : Nat => Value.int .i64 (k : Int))
def ownI (w : World) (B : Nat) (v : Value) (ks : List Nat) : Prop := w.ownsRow B 3 1 v ks.length (intsV ks)
theorem ownI_call {w w' : World} {B : Nat} {v : Value} {ks : List Nat} (h : ownI w B v ks) (b : Below w.heap.size w w') : ownI w' B v ks := by
 refine ⟨h.1, ?_⟩
 rcases h.2 with h0 | ⟨g, cap, cur, hv, hb, hg, rest⟩
 ·exact .inl h0
 ·exact .inr ⟨g, cap, cur, hv, hb, (b.block g (Array.getElem?_eq_some_iff.1 hg).1).trans hg, rest⟩
theorem ownI_snoc {w : World} {B : Nat} {v : Value} {ks : List Nat} {k : Nat} (h : w.ownsRow B 3 1 v (ks.length + 1) (intsV ks ++ [.int .i64 (k : Int)])) : ownI w B v (ks ++ [k]) := by
 unfold ownI intsV
 rw [List.map_append, List.length_append]
 exact h
set_option linter.unusedSimpArgs false in
set_option maxRecDepth 100000 in
set_option maxHeartbeats 1000000 in
theorem all_any (n : Nat) (w : World) (hn : n ≤ 4) :
  Calls Tryz.prog 164 #[.int .i64 (n : Int)] w fun e w' => ∃ v, e = .returned v ∧ ownI w' w.heap.size v (List.range n) ∧ Below w.heap.size w w' := by
 obtain ⟨i0, hi, hz0, hz1, hz2⟩ := info_parts infoI
 have A0 : Hid (Below w.heap.size w (w.alloc (.cells #[] 3)) ∧ ownI (w.alloc (.cells #[] 3)) w.heap.size (.slice (some ⟨w.heap.size, 0, none⟩) 0 0) (List.range 0)) := ⟨(Below.refl _ _).alloc (Nat.le_refl _) _, ⟨rfl, .inr ⟨w.heap.size, 0, #[], rfl, Nat.le_refl _, heap_alloc_new _ _, Nat.le_refl _, Nat.zero_le _, rfl, rfl⟩⟩⟩
 go_enter Tryz.func164, Tryz.ntmps164
 go_wp2
 go_loopw [3, 4] (fun v i wr => ∃ k : Nat, k ≤ n ∧ i = .int .i64 (k : Int) ∧ Hid (Below w.heap.size w wr ∧ ownI wr w.heap.size v (List.range k))) (fun _ i _ => n - (intOf i).toNat)
 case atStart => exact ⟨0, Nat.zero_le _, rfl, A0⟩
 case round =>
  obtain ⟨k, hk, rfl, HA⟩ := hrel
  clear A0
  by_cases hlt : k < n
  ·have y1 : (k : Int) < (n : Int) := by omega
   have bA : Below wr.heap.size wr (wr.alloc (.cells #[.int .i64 (k : Int)] 3)) := (Below.refl _ _).alloc (Nat.le_refl _) _
   have HR := hide (ownI_call (za HA).2 bA)
   have HQ := hide (fun w2 h2 => Mem.zl8 (o := .cells #[.int .i64 (k : Int)] 3) (w1 := w2) (za HA).1 (Nat.le_refl _) (za HA).2 h2)
   have HSB := hide (za HA).1.size
   unfold ownI at HR
   rw [List.length_range] at HR
   clear HA bA
   go_wp2_with (at_builtin; refine wpList_append_own _ rfl _ _ 201 rfl w.heap.size 3 i0 (.int .i64 0) 1 8 Tryz.underlying201 hi hz0 hz1 hz2 rfl (by decide) _ _ _ rfl (za HR) ⟨wr.heap.size, 0, none⟩ 1 1 [.int .i64 (k : Int)] rfl rfl (Mem.zh7 _ _ _) (fun u hu => by simp at hu; subst hu; rfl) (by unfold maxLen; omega) (by omega) (by have := za HSB; simp; omega) ?_)
   intro v' w2 own' hgrow _
   have A2 : Hid (Below w.heap.size w w2 ∧ ownI w2 w.heap.size v' (List.range (k + 1))) := ⟨za HQ w2 hgrow, by rw [List.range_succ]; exact ownI_snoc (by rw [List.length_range]; exact own')⟩
   clear HR HQ own' hgrow HSB
   go_wp2
   go_roundw
   case rel => exact ⟨k + 1, by omega, by go_num, A2⟩
   case measure => simp [intOf]; omega
  ·obtain rfl : k = n := by omega
   have y1 : ¬ ((k : Int) < (k : Int)) := by omega
   go_wp2
   go_ret
   exact ⟨_, rfl, (za HA).2, (za HA).1⟩
end zq9
end Go.Proofs.YtppmlbofhghghaaGreatDoor

namespace Go.Proofs.YtppmlbofhghghaaGreatDoor
open Go.RowKit
namespace zq9
def zb9 (o : Pl.Ot) (v : Value) : List Value := [.bool o.ok, .string o.node.path, .int .i64 o.node.kind, .string o.node.data, .int .i64 o.node.time, .int .i64 o.node.mark, v]
structure AtP (w W : World) (o : Pl.Ot) (v : Value) : Prop where
 bel : Below w.heap.size w W
 res : Mem.Blk W w.heap.size (zb9 ⟨false, Pl.za7, []⟩ (.slice none 0 0)).toArray 218
 out : Mem.Blk W (w.heap.size + 1) (zb9 o v).toArray 218
 own : ownI W (w.heap.size + 2) v o.parts
theorem AtP.call {w W W' : World} {o : Pl.Ot} {v : Value} (h : AtP w W o v) (b : Below W.heap.size W W') : AtP w W' o v := ⟨h.bel.trans (b.mono h.bel.size), h.res.call b, h.out.call b, ownI_call h.own b⟩
theorem AtP.alloc {w W : World} {o : Pl.Ot} {v : Value} (h : AtP w W o v) (x : Obj) : AtP w (W.alloc x) o v := h.call ((Below.refl _ _).alloc (Nat.le_refl _) x)
theorem zj3 {w : World} {B : Nat} {v : Value} {ks : List Nat} (h : ownI w B v ks) (a : Addr) (u : Value) (ha : a.block < B) : ownI (w.setCell a u) B v ks := by
 refine ⟨h.1, ?_⟩
 rcases h.2 with h0 | ⟨g, cap, cur, hv, hb, hg, rest⟩
 ·exact .inl h0
 ·exact .inr ⟨g, cap, cur, hv, hb, (heap_setCell_other w a g u (by omega)).trans hg, rest⟩
theorem yj7 {w : World} {B B' : Nat} {v : Value} {ks : List Nat} (h : ownI w B v ks) (hb : B' ≤ B) : ownI w B' v ks := by
 refine ⟨h.1, ?_⟩
 rcases h.2 with h0 | ⟨g, cap, cur, hv, hb2, rest⟩
 ·exact .inl h0
 ·exact .inr ⟨g, cap, cur, hv, Nat.le_trans hb hb2, rest⟩
theorem yh4 {w : World} {B : Nat} {v : Value} {ks : List Nat} (h : ownI w B v ks) : ∃ a cap, v = .slice a ks.length cap := Mem.za2 h
theorem AtP.put {w W : World} {o o' : Pl.Ot} {v : Value} (h : AtP w W o v) (k : Nat) (u : Value) (e : (zb9 o v).set k u = zb9 o' v) (hp : o'.parts = o.parts) : AtP w (W.setCell ⟨w.heap.size + 1, k, none⟩ u) o' v := by
 refine ⟨h.bel.setCell (by show w.heap.size ≤ w.heap.size + 1; omega) _, h.res.far _ _ (by show w.heap.size ≠ w.heap.size + 1; omega), ?_, ?_⟩
 ·have h2 := h.out.put k u
  rw [List.setIfInBounds_toArray, e] at h2
  exact h2
 ·rw [hp]; exact zj3 h.own _ _ (by show w.heap.size + 1 < w.heap.size + 2; omega)
theorem AtP.ok {w W : World} {o : Pl.Ot} {v : Value} (h : AtP w W o v) (x : Bool) : AtP w (W.setCell ⟨w.heap.size + 1, 0, none⟩ (.bool x)) ⟨x, o.node, o.parts⟩ v := h.put 0 _ rfl rfl
theorem AtP.mark {w W : World} {o : Pl.Ot} {v : Value} (h : AtP w W o v) (m : Int) : AtP w (W.setCell ⟨w.heap.size + 1, 5, none⟩ (.int .i64 m)) ⟨o.ok, ⟨o.node.path, o.node.kind, o.node.data, o.node.time, m⟩, o.parts⟩ v := h.put 5 _ rfl rfl
theorem AtP.node {w W : World} {o : Pl.Ot} {v : Value} (h : AtP w W o v) (p : ByteArray) (k : Int) (d : ByteArray) (t m : Int) : AtP w (((((W.setCell ⟨w.heap.size + 1, 1, none⟩ (.string p)).setCell ⟨w.heap.size + 1, 2, none⟩ (.int .i64 k)).setCell ⟨w.heap.size + 1, 3, none⟩ (.string d)).setCell ⟨w.heap.size + 1, 4, none⟩ (.int .i64 t)).setCell ⟨w.heap.size + 1, 5, none⟩ (.int .i64 m)) ⟨o.ok, ⟨p, k, d, t, m⟩, o.parts⟩ v :=
 ((((h.put (o' := ⟨o.ok, ⟨p, o.node.kind, o.node.data, o.node.time, o.node.mark⟩, o.parts⟩) 1 _ rfl rfl).put (o' := ⟨o.ok, ⟨p, k, o.node.data, o.node.time, o.node.mark⟩, o.parts⟩) 2 _ rfl rfl).put (o' := ⟨o.ok, ⟨p, k, d, o.node.time, o.node.mark⟩, o.parts⟩) 3 _ rfl rfl).put (o' := ⟨o.ok, ⟨p, k, d, t, o.node.mark⟩, o.parts⟩) 4 _ rfl rfl).put 5 _ rfl rfl
theorem AtP.more {w W W' : World} {o : Pl.Ot} {v v' : Value} {k : Nat} (h : AtP w W o v) (own' : W'.ownsRow (w.heap.size + 2) 3 1 v' (o.parts.length + 1) (intsV o.parts ++ [.int .i64 (k : Int)])) (g : W.grownBy W' v.ownBlock) : AtP w (W'.setCell ⟨w.heap.size + 1, 6, none⟩ v') ⟨o.ok, o.node, o.parts ++ [k]⟩ v' := by
 have hlt : ∀ q, v.ownBlock = some q → w.heap.size + 2 ≤ q := fun q hq => (World.ownsRow.lt h.own q hq).1
 refine ⟨(h.bel.grown g h.bel.size (fun q hq => by have := hlt q hq; omega)).setCell (by show w.heap.size ≤ w.heap.size + 1; omega) _, (h.res.grown g (fun e => by have := hlt _ e.symm; omega)).far _ _ (by show w.heap.size ≠ w.heap.size + 1; omega), ?_, ?_⟩
 ·have h2 := (h.out.grown g (fun e => by have := hlt _ e.symm; omega)).put 6 v'
  rw [List.setIfInBounds_toArray] at h2
  exact h2
 ·exact zj3 (ownI_snoc own') _ _ (by show w.heap.size + 1 < w.heap.size + 2; omega)
theorem AtP.ret {w W : World} {o : Pl.Ot} {v : Value} (h : AtP w W o v) (x : Bool) (p : ByteArray) (k : Int) (d : ByteArray) (t m : Int) (u : Value) :
  Mem.Blk (((((((W.setCell ⟨w.heap.size, 0, none⟩ (.bool x)).setCell ⟨w.heap.size, 1, none⟩ (.string p)).setCell ⟨w.heap.size, 2, none⟩ (.int .i64 k)).setCell ⟨w.heap.size, 3, none⟩ (.string d)).setCell ⟨w.heap.size, 4, none⟩ (.int .i64 t)).setCell ⟨w.heap.size, 5, none⟩ (.int .i64 m)).setCell ⟨w.heap.size, 6, none⟩ u) w.heap.size #[.bool x, .string p, .int .i64 k, .string d, .int .i64 t, .int .i64 m, u] 218 ∧
  Below w.heap.size w (((((((W.setCell ⟨w.heap.size, 0, none⟩ (.bool x)).setCell ⟨w.heap.size, 1, none⟩ (.string p)).setCell ⟨w.heap.size, 2, none⟩ (.int .i64 k)).setCell ⟨w.heap.size, 3, none⟩ (.string d)).setCell ⟨w.heap.size, 4, none⟩ (.int .i64 t)).setCell ⟨w.heap.size, 5, none⟩ (.int .i64 m)).setCell ⟨w.heap.size, 6, none⟩ u) ∧
  ownI (((((((W.setCell ⟨w.heap.size, 0, none⟩ (.bool x)).setCell ⟨w.heap.size, 1, none⟩ (.string p)).setCell ⟨w.heap.size, 2, none⟩ (.int .i64 k)).setCell ⟨w.heap.size, 3, none⟩ (.string d)).setCell ⟨w.heap.size, 4, none⟩ (.int .i64 t)).setCell ⟨w.heap.size, 5, none⟩ (.int .i64 m)).setCell ⟨w.heap.size, 6, none⟩ u) w.heap.size v o.parts := by
 have hr : w.heap.size < w.heap.size + 2 := by omega
 refine ⟨?_, ((((((h.bel.setCell (p := ⟨w.heap.size, 0, none⟩) (Nat.le_refl _) _).setCell (p := ⟨w.heap.size, 1, none⟩) (Nat.le_refl _) _).setCell (p := ⟨w.heap.size, 2, none⟩) (Nat.le_refl _) _).setCell (p := ⟨w.heap.size, 3, none⟩) (Nat.le_refl _) _).setCell (p := ⟨w.heap.size, 4, none⟩) (Nat.le_refl _) _).setCell (p := ⟨w.heap.size, 5, none⟩) (Nat.le_refl _) _).setCell (p := ⟨w.heap.size, 6, none⟩) (Nat.le_refl _) _, ?_⟩
 ·have h2 := ((((((h.res.put 0 (.bool x)).put 1 (.string p)).put 2 (.int .i64 k)).put 3 (.string d)).put 4 (.int .i64 t)).put 5 (.int .i64 m)).put 6 u
  simp only [kB3] at h2
  exact h2
 ·exact yj7 (zj3 (zj3 (zj3 (zj3 (zj3 (zj3 (zj3 h.own _ _ hr) _ _ hr) _ _ hr) _ _ hr) _ _ hr) _ _ hr) _ _ hr) (by omega)
end zq9
end Go.Proofs.YtppmlbofhghghaaGreatDoor

