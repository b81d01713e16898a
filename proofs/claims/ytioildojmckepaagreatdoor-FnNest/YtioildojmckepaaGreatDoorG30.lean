/- Several texts of one claim in one file: WNestS, WNestB, WDrawNr, WItemI. -/
import Derived.Test.YtioildojmckepaaGreatDoorG08
import Derived.Test.YtioildojmckepaaGreatDoorG20
import Derived.Test.YtioildojmckepaaGreatDoorG02
import Derived.Test.YtioildojmckepaaGreatDoorPlainNB
import Derived.Lib.QuietBelow
import Derived.Test.YtioildojmckepaaGreatDoorG24
import Derived.Test.YtioildojmckepaaGreatDoorG25
import Derived.Test.YtioildojmckepaaGreatDoorG04
import Derived.Test.YtioildojmckepaaGreatDoorG26
namespace Go.Proofs.YtioildojmckepaaGreatDoor
open Go.RowKit
namespace zh8
set_option maxRecDepth 100000 in
theorem zu7 (m : Int) (a : Option Addr) (cap : Nat) (L : List Pl.Nd) (w : World) (hl : L.length ≤ 1048576) (hv : Mem.zb5 w a L) (hok : ∀ n ∈ L, n.path.size ≤ 1048576 ∧ n.data.size ≤ 1048576) :
  Calls Tryz.prog 63 #[.agg #[.int .i64 m, .slice a L.length cap]] w fun e w' => e = .returned (.bool (Pl.zi5 m L)) ∧ Below w.heap.size w w' := by
 have b0 : ∀ o, Below w.heap.size w (w.alloc o) := fun o => (Below.refl _ _).alloc (Nat.le_refl _) o
 have HB := hide b0
 by_cases h0 : m = 0
 ·subst h0
  rw [Pl.yc7]
  have hz := hide (fun W (b : Below w.heap.size w W) => zl7.zt0 a cap L W hl (Mem.za5 hv b) hok)
  clear hv hok b0
  go_enter Tryz.func63, Tryz.ntmps63
  go_wp2_with fail
  refine (za hz _ (za HB _)).mono ?_
  rintro e w1 ⟨rfl, b1⟩
  have bb := (za HB _).trans (b1.mono (za HB _).size)
  clear hz b1
  go_wp2
  go_ret
  exact ⟨rfl, bb⟩
 ·rw [Pl.zz0 h0]
  have hIS := hide (WNode.is_any m 1 4)
  generalize (decide ((1 : Int) ≤ m) && decide (m ≤ 4)) = V at hIS
  clear hv hok b0
  go_enter Tryz.func63, Tryz.ntmps63
  go_wp2_with fail
  refine (za hIS _).mono ?_
  rintro e w1 ⟨rfl, rfl⟩
  cases V
  ·go_wp2
   go_ret
   exact ⟨by simp, za HB _⟩
  ·by_cases h1 : L.length = 0
   ·have t1 : (L.length : Int) = 0 := by omega
    go_wp2
    go_ret
    exact ⟨by simp [h1], za HB _⟩
   ·have t1 : ¬ (L.length : Int) = 0 := by omega
    go_wp2
    go_ret
    exact ⟨by simp [h1], za HB _⟩
set_option linter.unusedSimpArgs false in
set_option maxRecDepth 100000 in
set_option maxHeartbeats 1000000 in
theorem zq1 (a : Option Addr) (cap : Nat) (Is : List Pl.It) (hl : Is.length ≤ 12) (hok : ∀ x ∈ Is, x.t.L.length ≤ 1048576 ∧ ∀ n ∈ x.t.L, n.path.size ≤ 1048576 ∧ n.data.size ≤ 1048576) (q : Nat) :
  ∀ (deep p : Nat) (w : World), deep + q = 5 → p ≤ Is.length → Mem.za7 w a Is →
  Calls Tryz.prog 41 #[.slice a Is.length cap, .int .i64 (p : Int), .int .i64 (deep : Int)] w fun e w' => e = .returned (.int .i64 (Pl.endI Is.length (Pl.ends 1 deep ((Pl.rowO (Is.map Pl.It.r)).drop p)))) ∧ Below w.heap.size w w' := by
 have hrl : (Pl.rowO (Is.map Pl.It.r)).length = Is.length := by rw [Pl.zi7, List.length_map]
 induction q with
 | zero =>
  intro deep p w hd hp hv
  rw [Pl.ends_deep deep _ (by omega)]
  simp only [Pl.endI]
  have t1 : (4 : Int) < (deep : Int) := by omega
  by_cases hlt : (Is.length : Int) ≤ (p : Int)
  ·go_enter Tryz.func41, Tryz.ntmps41
   go_wp2
   go_ret
   exact ⟨rfl, Below.refl _ _⟩
  ·go_enter Tryz.func41, Tryz.ntmps41
   go_wp2
   go_ret
   exact ⟨rfl, Below.refl _ _⟩
 | succ q ih =>
  intro deep p w hd hp hv
  by_cases hlt : (Is.length : Int) ≤ (p : Int)
  ·have e : (Pl.rowO (Is.map Pl.It.r)).drop p = [] := List.drop_eq_nil_of_le (by omega)
   rw [e, Pl.ends_nil]
   simp only [Pl.endI]
   go_enter Tryz.func41, Tryz.ntmps41
   go_wp2
   go_ret
   exact ⟨rfl, Below.refl _ _⟩
  have t1 : ¬ (4 : Int) < (deep : Int) := by omega
  have t2 : (0 : Int) ≤ (p : Int) := by omega
  have t3 : (p : Int) < (Is.length : Int) := by omega
  obtain ⟨x, hx⟩ : ∃ x, Is[p]? = some x := ⟨_, List.getElem?_eq_getElem (by omega)⟩
  obtain ⟨⟨b, o, rfl, hb, q0, q0'⟩, q1⟩ := hv p x hx
  have hz := hide (zu7 x.m x.t.a x.t.cap x.t.L w (hok x (List.mem_of_getElem? hx)).1 q1 (hok x (List.mem_of_getElem? hx)).2)
  have hrow : (Pl.rowO (Is.map Pl.It.r)).drop p = Pl.zh7 (x.m, x.t.L) :: (Pl.rowO (Is.map Pl.It.r)).drop (p + 1) := Pl.rowO_at (by rw [List.getElem?_map, hx]; rfl)
  have c0 := q0
  have c1 := q0'
  simp only [Pl.Tr.val] at c1
  have HI := hide (fun (p' : Nat) (W : World) (hp' : p' ≤ Is.length) (bb : Below w.heap.size w W) => ih (deep + 1) p' W (by omega) hp' (Mem.zg hv bb))
  have HQ := hide q0
  have HR := hide hrl
  rw [hrow]
  generalize hLL : Pl.rowO (Is.map Pl.It.r) = LL at hrl hrow HI HR ⊢
  clear hLL hv hok ih hx q0' q1 hrow
  cases hib : Pl.zi5 x.m x.t.L
  ·rw [hib] at hz
   rw [Pl.itemO_no hib, Pl.ends_none]
   simp only [Pl.endI]
   clear HI hib q0
   go_enter Tryz.func41, Tryz.ntmps41
   go_wp2_with fail
   refine (za hz).mono ?_
   rintro e w1 ⟨rfl, b1⟩
   clear hz
   go_wp2
   go_ret
   exact ⟨rfl, b1⟩
  ·rw [hib] at hz
   obtain ⟨hm0, hm4⟩ := Pl.zq6 hib
   rw [Pl.itemO_yes hib, Pl.ends_one]
   obtain ⟨mm, hmm⟩ : ∃ mm : Nat, x.m = (mm : Int) := ⟨x.m.toNat, by omega⟩
   rw [hmm] at c0 hz HQ ⊢
   rw [Int.toNat_natCast]
   have hm5 : mm ≤ 4 := by omega
   clear hib hmm hm0 hm4 q0
   generalize hT : Pl.ends mm (deep + 1) (LL.drop (p + 1)) = T
   have HT := hide hT
   clear hT
   go_enter Tryz.func41, Tryz.ntmps41
   go_wp2_with fail
   refine (za hz).mono ?_
   rintro e w1 ⟨rfl, b1⟩
   have c2 := (b1.cell (p := ⟨b, _, none⟩) hb).trans (za HQ)
   clear hz c0 c1 HQ
   go_wp2
   go_loopw [1, 7] (fun v k wr => ∃ kk : Nat, k = .int .i64 (kk : Int) ∧ kk ≤ 4 ∧ Below w.heap.size w wr ∧ ((∃ p' : Nat, v = .int .i64 (p' : Int) ∧ p' ≤ Is.length ∧ Hid (Pl.ends kk (deep + 1) (LL.drop p') = T)) ∨ (v = .int .i64 (-1) ∧ Hid (T = none)))) (fun _ k _ => (intOf k).toNat)
   case atStart => exact ⟨mm, rfl, hm5, b1, .inl ⟨p + 1, by go_num, by omega, HT⟩⟩
   case round =>
    obtain ⟨kk, rfl, hk4, hbel, hcase⟩ := hrel
    rcases hcase with ⟨p', rfl, hp', HE⟩ | ⟨rfl, HE⟩
    ·have u0 : (0 : Int) ≤ (p' : Int) := by omega
     cases kk with
     | zero =>
      have hfin : Pl.endI Is.length T = (p' : Int) := by
       rw [← za HE, Pl.ends_zero _ _ (by omega), Pl.endI, List.length_drop]
       omega
      go_wp2
      go_ret
      exact ⟨by first | rfl | (rw [hfin]; rfl), hbel⟩
     | succ kk =>
      have u1 : (0 : Int) < ((kk + 1 : Nat) : Int) := by omega
      have hcall := hide (za HI p' wr hp' hbel)
      go_wp2_with fail
      simp only [show (deep : Int) + 1 = ((deep + 1 : Nat) : Int) by omega, show IntKind.i64.wrap ((deep + 1 : Nat) : Int) = ((deep + 1 : Nat) : Int) by rw [IntKind.wrap_i64]; omega]
      refine (za hcall).mono ?_
      rintro e w2 ⟨rfl, b2⟩
      have hb2 := hbel.trans (b2.mono hbel.size)
      have hst := za HE
      rw [Pl.ends_step] at hst
      cases hR : Pl.ends 1 (deep + 1) (LL.drop p') with
      | none =>
       rw [hR] at hst
       have HE2 : Hid (T = none) := hide (by rw [← hst]; rfl)
       simp only [Pl.endI]
       clear hst HE hR hcall b2
       go_wp2
       go_roundw
       case rel => exact ⟨kk, by go_num, by omega, hb2, .inr ⟨rfl, HE2⟩⟩
       case measure => simp [intOf]
      | some R =>
       rw [hR] at hst
       obtain ⟨p2, e2, hp2, hd2⟩ := Pl.ends_at (za HR) hp' hR
       rw [e2]
       have HE2 : Hid (Pl.ends kk (deep + 1) (LL.drop p2) = T) := hide (by rw [hd2, ← hst]; rfl)
       clear hst HE hR hcall b2 hd2 e2
       go_wp2
       go_roundw
       case rel => exact ⟨kk, by go_num, by omega, hb2, .inl ⟨p2, rfl, hp2, HE2⟩⟩
       case measure => simp [intOf]
    ·have hfin : Pl.endI Is.length T = -1 := by rw [za HE]; rfl
     by_cases hk0 : (0 : Int) < (kk : Int)
     ·go_wp2
      go_ret
      exact ⟨by first | rfl | (rw [hfin]; rfl), hbel⟩
     ·go_wp2
      go_ret
      exact ⟨by first | rfl | (rw [hfin]; rfl), hbel⟩
set_option maxRecDepth 100000 in
theorem ze6 (a : Option Addr) (cap : Nat) (Is : List Pl.It) (w : World) (hl : Is.length ≤ 1048576) (hv : Mem.za7 w a Is) (hok : ∀ x ∈ Is, x.t.L.length ≤ 1048576 ∧ ∀ n ∈ x.t.L, n.path.size ≤ 1048576 ∧ n.data.size ≤ 1048576) :
  Calls Tryz.prog 13 #[.slice a Is.length cap] w fun e w' => e = .returned (.bool (Pl.nest (Pl.rowO (Is.map Pl.It.r))).isSome) ∧ Below w.heap.size w w' := by
 have hrl : (Pl.rowO (Is.map Pl.It.r)).length = Is.length := by rw [Pl.zi7, List.length_map]
 by_cases h12 : Is.length ≤ 12
 ·have t0 : (Is.length : Int) ≤ 12 := by omega
  have hz := hide (zq1 a cap Is h12 hok 4 1 0 w rfl (Nat.zero_le _) hv)
  have hne := Pl.nest_ends (Pl.rowO (Is.map Pl.It.r)) (by omega)
  have hen : ∀ R, Pl.ends 1 1 ((Pl.rowO (Is.map Pl.It.r)).drop 0) = some R → R.length ≤ Is.length := fun R h => by have := (Pl.ends_len h).1; simp only [List.drop_zero] at this; omega
  rw [List.drop_zero] at hz hen
  generalize Pl.ends 1 1 (Pl.rowO (Is.map Pl.It.r)) = E at hz hne hen
  generalize (Pl.nest (Pl.rowO (Is.map Pl.It.r))).isSome = V at hne ⊢
  clear hv hok hrl
  have HN := hide hne
  have HEN := hide hen
  clear hne hen
  go_enter Tryz.func13, Tryz.ntmps13
  go_wp2_with fail
  refine (za hz).mono ?_
  rintro e w1 ⟨rfl, b1⟩
  clear hz
  by_cases hE : Pl.endI Is.length E = (Is.length : Int)
  ·have hV : V = true := (za HN).2 (by
    cases E with
    | none => simp [Pl.endI] at hE
    | some R => rw [Pl.endI] at hE; rw [List.eq_nil_of_length_eq_zero (by omega : R.length = 0)])
   go_wp2
   go_ret
   exact ⟨by rw [hV]; rfl, b1⟩
  ·have hV : V = false := by
    cases hV : V
    ·rfl
    ·exact absurd (by rw [(za HN).1 hV]; simp [Pl.endI]) hE
   go_wp2
   go_ret
   exact ⟨by rw [hV]; simp [hE], b1⟩
 ·have t0 : ¬ (Is.length : Int) ≤ 12 := by omega
  rw [Pl.zm3 _ (by omega)]
  go_enter Tryz.func13, Tryz.ntmps13
  go_wp2
  go_ret
  exact ⟨rfl, Below.refl _ _⟩
end zh8
end Go.Proofs.YtioildojmckepaaGreatDoor

namespace Go.Proofs.YtioildojmckepaaGreatDoor
open Go.RowKit Go.Sort
namespace zr6
set_option linter.unusedSimpArgs false in
set_option maxRecDepth 100000 in
set_option maxHeartbeats 2000000 in
theorem zv9 (a : Option Addr) (cap : Nat) (Is : List Pl.It) (w : World) (k : Pl.Fo) (hN : Pl.nest (Pl.rowO (Is.map Pl.It.r)) = some k) (hv : Mem.za7 w a Is) :
  Calls Tryz.prog 34 #[.slice a Is.length cap] w fun e w' => e = .returned (.string (Pl.ze7 (Is.map Pl.It.r))) ∧ Below w.heap.size w w' := by
 have mixed : Tryz.prog.follows .mixedOrders = true := by kernel_rfl
 have h12 : Is.length ≤ 12 := by have := Pl.nest_12 hN; rwa [List.length_map] at this
 have HX := hide (fun (j : Nat) x (hx : Is[j]? = some x) => Pl.zp1 hN (i := j) (x := x.r) (by rw [List.getElem?_map, hx]; rfl))
 have HST := hide (fun (j : Nat) x (hx : Is[j]? = some x) => Pl.upToN_step (Is.map Pl.It.r) (k := j) (x := x.r) (by rw [List.getElem?_map, hx]; rfl))
 have HZ : Hid (Pl.zq4 (Is.map Pl.It.r) 0 = Pl.num (Is.length : Int)) := hide (by rw [Pl.upToN_zero, List.length_map])
 have HEND : Hid (Pl.zq4 (Is.map Pl.It.r) Is.length = Pl.ze7 (Is.map Pl.It.r)) := hide (by have := Pl.upToN_end (Is.map Pl.It.r); rwa [List.length_map] at this)
 have HV := hide hv
 have hp := hide (WNum.zp6 (Is.length : Int) w (by omega) (by omega))
 generalize Pl.ze7 (Is.map Pl.It.r) = R at HEND ⊢
 generalize Pl.zq4 (Is.map Pl.It.r) = U at HST HZ HEND
 clear hv hN
 go_enter Tryz.func34, Tryz.ntmps34
 go_wp2_with fail
 refine (za hp).mono ?_
 rintro e w1 ⟨rfl, b1⟩
 clear hp
 go_wp2
 go_loopw [3, 4] (fun v i wr => ∃ (j : Nat) (B : ByteArray), j ≤ Is.length ∧ i = .int .i64 (j : Int) ∧ v = .string B ∧ B.size ≤ 11 + j * 9000 ∧ Below w.heap.size w wr ∧ Hid (B = U j)) (fun _ i _ => Is.length - (intOf i).toNat)
 case atStart => exact ⟨0, _, Nat.zero_le _, rfl, rfl, by have := Pl.zi8 (n := (Is.length : Int)) (by omega) (by omega); exact this, b1, hide (za HZ).symm⟩
 case round =>
  obtain ⟨j, B, hj, rfl, rfl, hBs, hbel, HBE⟩ := hrel
  by_cases hlt : j < Is.length
  ·obtain ⟨x, hx⟩ : ∃ x, Is[j]? = some x := ⟨_, List.getElem?_eq_getElem hlt⟩
   obtain ⟨⟨b, o, rfl, hb, q0, q1⟩, q2⟩ := (Mem.zg (za HV) hbel) j x hx
   obtain ⟨hm0, hm4, htr⟩ := za HX j x hx
   have hst := za HST j x hx
   have htp := Pl.zn3 htr
   have y1 : (j : Int) < (Is.length : Int) := by omega
   have y3 : (0 : Int) ≤ (j : Int) := by omega
   simp only [Pl.Tr.val] at q1
   obtain ⟨m, ta, tcap, L⟩ := x
   simp only [Pl.It.r] at q0 q1 q2 hm0 hm4 htr hst htp
   have k0 := cell_regrown q0
   have k1 := cell_regrown q1
   have zk := Pl.zi8 (n := m) (by omega) (by omega)
   have zp := Pl.ye7 htr
   have zb := Pl.zl8 htr
   have ck : ∀ d os, Calls Tryz.prog 54 #[.int .i64 m] (grow (redrawn wr d) os) fun e w'' => e = .returned (.string (Pl.num m)) ∧ ∃ p : Regrown, w'' = grow (redrawn wr p.d) p.os := fun d os => Calls.regrown_of (WNum.zp6 m _ (by omega) (by omega))
   have cb : ∀ d os, Calls Tryz.prog 56 #[.agg #[.slice ta L.length tcap]] (grow (redrawn wr d) os) fun e w'' => e = .returned (.string (Pl.zb4 L)) ∧ ∃ p : Regrown, w'' = grow (redrawn wr p.d) p.os := fun d os => Calls.regrown_of (zo6.zv9 ta tcap L _ htp.1 (Mem.za5 q2 (below_regrown wr d os)) htp.2)
   have cp : ∀ d os, Calls Tryz.prog 55 #[.string (Pl.zb4 L)] (grow (redrawn wr d) os) fun e w'' => e = .returned (.string (zc6.put (Pl.zb4 L))) ∧ ∃ p : Regrown, w'' = grow (redrawn wr p.d) p.os := fun d os => Calls.regrown_of (zc6.zb8 (Pl.zb4 L) _ (by unfold maxLen; omega))
   generalize zc6.put (Pl.zb4 L) = P1 at cp zp hst
   generalize Pl.zb4 L = Y at cp cb
   generalize Pl.num m = K1 at ck zk hst
   have HCK := hide ck
   have HCB := hide cb
   have HCP := hide cp
   have HS2 : Hid (U (j + 1) = U j ++ K1 ++ P1) := hide hst
   have n1 : ¬ 9223372036854775807 < B.size + K1.size := by omega
   have n2 : ¬ 9223372036854775807 < B.size + K1.size + P1.size := by omega
   have n3 : B.size + K1.size + P1.size ≤ 11 + (j + 1) * 9000 := by omega
   clear q0 q1 q2 hx hst htr htp ck cb cp HX HST
   go_wp2_with fail
   refine wp_region_quiet_below (by assumption) (by kernel_rfl) ?_
   repeat (quiet_step (first | exact za HCK _ _ | exact za HCB _ _ | exact za HCP _ _))
   refine wpQuiet_nil ?_
   intro _ hw'
   obtain ⟨⟨dq, osq⟩, hw''⟩ := hw'
   subst hw''
   have bb := hbel.trans ((below_regrown wr dq osq).mono hbel.size)
   clear hbel k0 k1
   generalize grow (redrawn wr dq) osq = wn at bb ⊢
   go_wp2
   go_roundw
   case rel => exact ⟨j + 1, _, by omega, by go_num, rfl, by simpa using n3, bb, hide (by rw [za HS2, ← za HBE])⟩
   case measure => simp [intOf]; omega
  ·have u1 : ¬ (j : Int) < (Is.length : Int) := by omega
   have hjl : j = Is.length := by omega
   have HR : Hid (B = R) := hide (by rw [za HBE, hjl, za HEND])
   clear HX HST HV HBE
   go_wp2
   go_ret
   exact ⟨by rw [← za HR]; rfl, hbel⟩
set_option maxRecDepth 100000 in
theorem zb8 (a : Option Addr) (cap : Nat) (Is : List Pl.It) (w : World) (hl : Is.length ≤ 1048576) (hv : Mem.za7 w a Is) (hok : ∀ x ∈ Is, x.t.L.length ≤ 1048576 ∧ ∀ n ∈ x.t.L, n.path.size ≤ 1048576 ∧ n.data.size ≤ 1048576) :
  Calls Tryz.prog 8 #[.slice a Is.length cap] w fun e w' => e = .returned (.string (Pl.zb3 (Is.map Pl.It.r))) ∧ Below w.heap.size w w' := by
 have hrl : (Pl.rowO (Is.map Pl.It.r)).length = Is.length := by rw [Pl.zi7, List.length_map]
 by_cases h400 : 400 < Is.length
 ·have t0 : (400 : Int) < (Is.length : Int) := by omega
  have e0 : Pl.zb3 (Is.map Pl.It.r) = ⟨#[]⟩ := by unfold Pl.zb3; rw [Pl.zm3 _ (by omega)]; rfl
  rw [e0]
  clear hv hok
  go_enter Tryz.func8, Tryz.ntmps8
  go_wp2
  go_ret
  exact ⟨rfl, Below.refl _ _⟩
 have t0 : ¬ (400 : Int) < (Is.length : Int) := by omega
 have hz := hide (zh8.ze6 a cap Is w hl hv hok)
 cases hN : Pl.nest (Pl.rowO (Is.map Pl.It.r)) with
 | none =>
  rw [hN] at hz
  have e0 : Pl.zb3 (Is.map Pl.It.r) = ⟨#[]⟩ := by unfold Pl.zb3; rw [hN]; rfl
  rw [e0]
  clear hv hok hN hrl e0
  go_enter Tryz.func8, Tryz.ntmps8
  go_wp2_with fail
  refine (za hz).mono ?_
  rintro e w1 ⟨rfl, b1⟩
  clear hz
  go_wp2
  go_ret
  exact ⟨rfl, b1⟩
 | some k =>
  rw [hN] at hz
  have hd := hide (fun W (b : Below w.heap.size w W) => zv9 a cap Is W k hN (Mem.zg hv b))
  have e0 : Pl.zb3 (Is.map Pl.It.r) = if 8000 < (Pl.ze7 (Is.map Pl.It.r)).size then ⟨#[]⟩ else Pl.ze7 (Is.map Pl.It.r) := by unfold Pl.zb3; rw [hN]; rfl
  have E := hide e0
  generalize Pl.zb3 (Is.map Pl.It.r) = R at E ⊢
  generalize Pl.ze7 (Is.map Pl.It.r) = Y at E hd
  clear hv hok hN hrl e0
  go_enter Tryz.func8, Tryz.ntmps8
  go_wp2_with fail
  refine (za hz).mono ?_
  rintro e w1 ⟨rfl, b1⟩
  clear hz
  go_wp2_with fail
  refine (za hd _ b1).mono ?_
  rintro e w2 ⟨rfl, b2⟩
  have bb := b1.trans (b2.mono b1.size)
  clear hd b1 b2
  by_cases hy : 8000 < Y.size
  ·have E2 : Hid (R = ⟨#[]⟩) := hide (by rw [za E, if_pos hy])
   clear E
   go_wp2
   go_ret
   exact ⟨zd3 (za E2).symm, bb⟩
  ·have E2 : Hid (R = Y) := hide (by rw [za E, if_neg hy])
   clear E
   go_wp2
   go_ret
   exact ⟨zd3 (za E2).symm, bb⟩
end zr6
end Go.Proofs.YtioildojmckepaaGreatDoor

namespace Go.Proofs.YtioildojmckepaaGreatDoor
open Go.RowKit
namespace Pl
theorem nbytes_size (xs : List (Int × List Nd)) : (zb3 xs).size ≤ 8000 := by
 unfold zb3
 split
 ·split
  ·exact Nat.zero_le _
  ·omega
 ·exact Nat.zero_le _
end Pl
namespace WSrc
theorem on_r {w w1 w2 : World} (hb : Below w.heap.size w w1) (hg : w1.grownBy w2 (some w.heap.size)) : Below w.heap.size w w2 :=
 hb.grown hg hb.size (fun k e => by cases e; exact Nat.le_refl _)
set_option linter.unusedSimpArgs false in
set_option maxRecDepth 100000 in
set_option maxHeartbeats 2000000 in
theorem yc5 (a : Option Addr) (len cap : Nat) (w : World) (hr : RowB w w.heap.size a len cap) :
  Calls Tryz.prog 6 #[.slice a len cap] w fun e w' => ∃ u : ByteArray, u.size ≤ 8001 ∧ e = .returned (.string u) ∧ Below w.heap.size w w' := by
 have h0 := hide (yd6 a len cap w hr)
 clear hr
 go_enter Tryz.func6, Tryz.ntmps6
 go_wp2_with fail
 refine (za h0).mono ?_
 rintro e w1 ⟨rfl, hs, b1⟩
 clear h0
 go_wp2_with fail
 refine (zk4 w.heap.size a len cap _ hs).mono ?_
 rintro e w2 ⟨va, vc, Is, hl, rfl, ik, g2⟩
 have s2 := ik.src
 have b2 := on_r b1 g2
 have hB := hide (zr6.zb8 va vc Is w2 (by omega) ik.nest.items ik.nest.hok)
 have hT := Pl.nbytes_size (Is.map Pl.It.r)
 generalize Pl.zb3 (Is.map Pl.It.r) = T at hB hT
 clear hs g2 b1 ik
 go_wp2_with fail
 refine (za hB).mono ?_
 rintro e w3 ⟨rfl, b3⟩
 have s3 := zw6 s2 b3
 have b4 := b2.trans (b3.mono b2.size)
 clear hB s2 b2 b3
 go_wp2_with fail
 refine (zc9 w.heap.size a len cap 4 _ s3 (by omega)).mono ?_
 rintro e w4 ⟨r, rfl, r0, r1, s4, g4⟩
 have b5 := on_r b4 g4
 clear s3 g4 b4
 have hr : r = 0 ∨ r = 1 ∨ (¬ r = 0 ∧ ¬ r = 1) := by omega
 clear r0 r1
 rcases hr with rfl | rfl | ⟨q0, q1⟩
 ·go_wp2_with fail
  refine (spoil_any w.heap.size a len cap T _ s4 hT).mono ?_
  rintro e w5 ⟨u, hu, rfl, s5, g5⟩
  go_wp2
  go_ret
  exact ⟨u, hu, rfl, on_r b5 g5⟩
 ·have h1 := hide (zc9 w.heap.size a len cap ((T.size : Int) + 1) w4 s4 (by omega))
  go_wp2_with fail
  refine (za h1).mono ?_
  rintro e w5 ⟨r, rfl, r0, r1, s5, g5⟩
  obtain ⟨k, rfl⟩ : ∃ k : Nat, r = (k : Int) := ⟨r.toNat, by omega⟩
  have kz : (0 : Int) ≤ (k : Int) := by omega
  have kt : (k : Int) ≤ (T.size : Int) := by omega
  clear h1
  go_wp2
  go_ret
  exact ⟨_, by simp only [ByteArray.size_extract]; omega, rfl, on_r b5 g5⟩
 ·have p0 : (r == 0) = false := by simpa using q0
  have p1 : (r == 1) = false := by simpa using q1
  go_wp2
  go_ret
  exact ⟨T, by omega, rfl, b5⟩
end WSrc
end Go.Proofs.YtioildojmckepaaGreatDoor

namespace Go.Proofs.YtioildojmckepaaGreatDoor
open Go.RowKit
namespace zc0
set_option linter.unusedSimpArgs false in
set_option maxRecDepth 100000 in
set_option maxHeartbeats 1000000 in
theorem zu7 (m : Int) (a : Option Addr) (cap : Nat) (L : List Pl.Nd) (w : World) (hl : L.length ≤ 1048576) (hv : Mem.zb5 w a L) (hok : ∀ n ∈ L, n.path.size ≤ 1048576 ∧ n.data.size ≤ 1048576)
  (r1 r2 r3 : TypeId) (x1 x2 x3 : Value) (hE : zh9.Errs w r1 r2 r3 x1 x2 x3) :
  Calls Tryz.prog 73 #[.agg #[.int .i64 m, .slice a L.length cap]] w fun e w' => ((Pl.zi5 m L = true ∧ ∃ B, e = .returned (.tuple #[.agg #[.map (some B), .int .i64 m], .nilIface])) ∨
   (Pl.zi5 m L = false ∧ ∃ k, e = .returned (.tuple #[.agg #[.map none, .int .i64 k], .iface r1 x1]))) ∧ Below w.heap.size w w' := by
 have b0 : Below w.heap.size w ((w.alloc (.cells #[.int .i64 m, .slice a L.length cap] 38)).alloc (.cells #[.map none, .int .i64 0] 68)) := ((Below.refl _ _).alloc (Nat.le_refl _) _).alloc (by simp) _
 have k1 := (hE.call b0).c1
 have HB0 := hide b0
 by_cases h1 : m < 0
 ·have hb : Pl.zi5 m L = false := by unfold Pl.zi5; rw [show decide (0 ≤ m) = false from decide_eq_false (by omega)]; simp
  clear b0 hv hok hE
  go_enter Tryz.func73, Tryz.ntmps73
  go_wp2
  go_region
  go_wp2
  refine bodyPost_ret (v := .tuple #[.agg #[.map none, .int .i64 0], .iface r1 x1]) (by simp [results, Tryz.results73, go_sem]) rfl ⟨.inr ⟨hb, 0, rfl⟩, ?_⟩
  exact Mem.below_drewN (za HB0) 1
 by_cases h2 : 4 < m
 ·have hb : Pl.zi5 m L = false := by unfold Pl.zi5; rw [show decide (m ≤ 4) = false from decide_eq_false (by omega)]; simp
  clear b0 hv hok hE
  go_enter Tryz.func73, Tryz.ntmps73
  go_wp2
  go_region
  go_wp2
  refine bodyPost_ret (v := .tuple #[.agg #[.map none, .int .i64 0], .iface r1 x1]) (by simp [results, Tryz.results73, go_sem]) rfl ⟨.inr ⟨hb, 0, rfl⟩, ?_⟩
  exact Mem.below_drewN (za HB0) 1
 by_cases h3 : 0 < m ∧ 0 < L.length
 ·have hb : Pl.zi5 m L = false := by
   rw [Pl.zz0 (by omega), show decide (L.length = 0) = false from decide_eq_false (by omega)]; simp
  have u1 := h3.1
  have u2 : (0 : Int) < (L.length : Int) := by omega
  clear b0 hv hok hE
  go_enter Tryz.func73, Tryz.ntmps73
  go_wp2
  go_region
  go_wp2
  refine bodyPost_ret (v := .tuple #[.agg #[.map none, .int .i64 0], .iface r1 x1]) (by simp [results, Tryz.results73, go_sem]) rfl ⟨.inr ⟨hb, 0, rfl⟩, ?_⟩
  exact Mem.below_drewN (za HB0) 1
 have hb : Pl.zi5 m L = Pl.zb1 L := by
  by_cases h0 : m = 0
  ·subst h0; exact Pl.yc7 L
  ·have hL : L = [] := List.eq_nil_of_length_eq_zero (by omega)
   subst hL
   rw [Pl.zz0 h0, Pl.treeB_nil, decide_eq_true (show 1 ≤ m by omega), decide_eq_true (show m ≤ 4 by omega)]; rfl
 rw [hb]
 have hz := hide (zh9.nodes_any a cap L _ hl (Mem.za5 hv b0) hok r1 r2 r3 x1 x2 x3 (hE.call b0))
 have r2' : Mem.Blk ((w.alloc (.cells #[.int .i64 m, .slice a L.length cap] 38)).alloc (.cells #[.map none, .int .i64 0] 68)) (w.heap.size + 1) #[.map none, .int .i64 0] 68 := by
  have := Mem.Blk.new (w.alloc (.cells #[.int .i64 m, .slice a L.length cap] 38)) #[.map none, .int .i64 0] 68
  simpa using this
 have r1' : Mem.Blk ((w.alloc (.cells #[.int .i64 m, .slice a L.length cap] 38)).alloc (.cells #[.map none, .int .i64 0] 68)) w.heap.size #[.int .i64 m, .slice a L.length cap] 38 := (Mem.Blk.new w _ _).alloc _
 clear hv hok hE k1 b0 hb
 by_cases h4 : 0 < m
 ·have u2 : ¬ (0 : Int) < (L.length : Int) := by omega
  go_enter Tryz.func73, Tryz.ntmps73
  go_wp2_with fail
  generalize ((w.alloc (.cells #[.int .i64 m, .slice a L.length cap] 38)).alloc (.cells #[.map none, .int .i64 0] 68)) = w2 at hz r1' r2' HB0 ⊢
  refine (za hz).mono ?_
  rintro e w1 ⟨h1, b1⟩
  have R1 := r1'.call b1
  have R2 := r2'.call b1
  have c10 := R1.cell 0
  have c11 := R1.cell 1
  have c20 := R2.cell 0
  have c21 := R2.cell 1
  have f20 := R2.fr 0
  have f21 := R2.fr 1
  simp only [kGs] at c10 c11 c20 c21
  have bb := hide ((za HB0).trans (b1.mono (za HB0).size))
  clear hz b1 r1' r2' R1 R2 HB0
  rcases h1 with ⟨hT, B, rfl, -, -⟩ | ⟨hT, rfl⟩
  ·go_wp2
   refine bodyPost_ret (v := .tuple #[.agg #[.map (some B), .int .i64 m], .nilIface]) (by simp [results, Tryz.results73, go_sem, c20, c21]) rfl ⟨.inl ⟨hT, B, rfl⟩, ?_⟩
   exact ((za bb).setCell (by show w.heap.size ≤ w.heap.size + 1; omega) _).setCell (by show w.heap.size ≤ w.heap.size + 1; omega) _
  ·go_wp2
   refine bodyPost_ret (v := .tuple #[.agg #[.map none, .int .i64 m], .iface r1 x1]) (by simp [results, Tryz.results73, go_sem, c20, c21]) rfl ⟨.inr ⟨hT, m, rfl⟩, ?_⟩
   exact ((za bb).setCell (by show w.heap.size ≤ w.heap.size + 1; omega) _).setCell (by show w.heap.size ≤ w.heap.size + 1; omega) _
 ·go_enter Tryz.func73, Tryz.ntmps73
  go_wp2_with fail
  generalize ((w.alloc (.cells #[.int .i64 m, .slice a L.length cap] 38)).alloc (.cells #[.map none, .int .i64 0] 68)) = w2 at hz r1' r2' HB0 ⊢
  refine (za hz).mono ?_
  rintro e w1 ⟨h1, b1⟩
  have R1 := r1'.call b1
  have R2 := r2'.call b1
  have c10 := R1.cell 0
  have c11 := R1.cell 1
  have c20 := R2.cell 0
  have c21 := R2.cell 1
  have f20 := R2.fr 0
  have f21 := R2.fr 1
  simp only [kGs] at c10 c11 c20 c21
  have bb := hide ((za HB0).trans (b1.mono (za HB0).size))
  clear hz b1 r1' r2' R1 R2 HB0
  rcases h1 with ⟨hT, B, rfl, -, -⟩ | ⟨hT, rfl⟩
  ·go_wp2
   refine bodyPost_ret (v := .tuple #[.agg #[.map (some B), .int .i64 m], .nilIface]) (by simp [results, Tryz.results73, go_sem, c20, c21]) rfl ⟨.inl ⟨hT, B, rfl⟩, ?_⟩
   exact ((za bb).setCell (by show w.heap.size ≤ w.heap.size + 1; omega) _).setCell (by show w.heap.size ≤ w.heap.size + 1; omega) _
  ·go_wp2
   refine bodyPost_ret (v := .tuple #[.agg #[.map none, .int .i64 m], .iface r1 x1]) (by simp [results, Tryz.results73, go_sem, c20, c21]) rfl ⟨.inr ⟨hT, m, rfl⟩, ?_⟩
   exact ((za bb).setCell (by show w.heap.size ≤ w.heap.size + 1; omega) _).setCell (by show w.heap.size ≤ w.heap.size + 1; omega) _
end zc0
end Go.Proofs.YtioildojmckepaaGreatDoor

