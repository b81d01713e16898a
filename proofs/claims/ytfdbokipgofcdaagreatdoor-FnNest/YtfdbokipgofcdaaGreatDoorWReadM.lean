import Derived.Test.YtfdbokipgofcdaaGreatDoorG03
import Derived.Test.YtfdbokipgofcdaaGreatDoorG08
namespace Go.Proofs.YtfdbokipgofcdaaGreatDoor
open Go.RowKit
namespace Pl
def zj8 (s : ByteArray) (a : Int) (bad : Bool) (most : Int) : Int × Int × Bool :=
 if 0 ≤ (numS s a bad).1 ∧ (numS s a bad).1 ≤ most then numS s a bad else (0, (numS s a bad).2.1, true)
end Pl
namespace zo4
set_option linter.unusedSimpArgs false in
set_option maxRecDepth 100000 in
set_option maxHeartbeats 1000000 in
theorem many_any (X : Nat) (s : ByteArray) (a : Int) (bad : Bool) (most : Int) (w : World) (h8 : s.size ≤ 8000) (ha : a ≤ 9223372036854775807) (hv : Rs w X s a bad) :
  Calls Tryz.prog 43 #[.pointer (some ⟨X, 0, none⟩), .int .i64 most] w fun e w' => e = .returned (.int .i64 (Pl.zj8 s a bad most).1) ∧ Rs w' X s (Pl.zj8 s a bad most).2.1 (Pl.zj8 s a bad most).2.2 ∧ w.grownBy w' (some X) := by
 have hz := hide (zo0 X s a bad w h8 ha hv)
 have HM : Hid (Pl.zj8 s a bad most = if 0 ≤ (Pl.numS s a bad).1 ∧ (Pl.numS s a bad).1 ≤ most then Pl.numS s a bad else (0, (Pl.numS s a bad).2.1, true)) := rfl
 generalize Pl.zj8 s a bad most = R at HM ⊢
 generalize Pl.numS s a bad = r at hz HM
 obtain ⟨n, p, b⟩ := r
 simp only at hz HM
 clear hv
 have hIS := hide (fun W => WNode.is_any n 0 most W)
 by_cases hc : 0 ≤ n ∧ n ≤ most
 ·have e := za HM
  rw [if_pos hc] at e
  subst e
  rw [show (decide (0 ≤ n) && decide (n ≤ most)) = true by simp [hc.1, hc.2]] at hIS
  clear hc HM
  go_enter Tryz.func43, Tryz.ntmps43
  go_wp2_with fail
  refine (za hz).mono ?_
  rintro e w1 ⟨rfl, R1, g1⟩
  have KR := hide R1
  have KG := hide g1
  clear R1 g1
  go_wp2_with fail
  refine (za hIS _).mono ?_
  rintro e w2 ⟨rfl, rfl⟩
  go_wp2
  go_ret
  exact ⟨rfl, za KR, za KG⟩
 ·have e := za HM
  rw [if_neg hc] at e
  subst e
  rw [show (decide (0 ≤ n) && decide (n ≤ most)) = false by rw [← Bool.decide_and]; exact decide_eq_false hc] at hIS
  clear hc HM
  go_enter Tryz.func43, Tryz.ntmps43
  go_wp2_with fail
  refine (za hz).mono ?_
  rintro e w1 ⟨rfl, R1, g1⟩
  have c2 := R1.cell 2
  have f2 := R1.fr 2
  simp only [kGs] at c2
  have KR := hide (put_bad R1)
  have KG := hide (World.grownBy.trans g1 (zb5.zb3 X 2 (.bool true)))
  clear R1 g1
  go_wp2_with fail
  refine (za hIS _).mono ?_
  rintro e w2 ⟨rfl, rfl⟩
  go_wp2
  go_ret
  exact ⟨rfl, za KR, za KG⟩
end zo4
end Go.Proofs.YtfdbokipgofcdaaGreatDoor
