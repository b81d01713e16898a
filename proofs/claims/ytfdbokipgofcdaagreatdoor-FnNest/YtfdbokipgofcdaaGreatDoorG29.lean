/- Several texts of one claim in one file: WDrawNb, WSpoil, WNestB, WDrawNr, WNestO, WNestC, WBytesF. -/
import Derived.Test.YtfdbokipgofcdaaGreatDoorG26
import Derived.Test.YtfdbokipgofcdaaGreatDoorG27
import Derived.Test.YtfdbokipgofcdaaGreatDoorG22
import Derived.Laws.OwnMore
import Derived.Test.YtfdbokipgofcdaaGreatDoorPlainNB
import Derived.Test.YtfdbokipgofcdaaGreatDoorG15
import Derived.Lib.QuietBelow
import Derived.Test.YtfdbokipgofcdaaGreatDoorG14
import Derived.Test.YtfdbokipgofcdaaGreatDoorWBytesI
namespace Go.Proofs.YtfdbokipgofcdaaGreatDoor
open Go.RowKit
namespace WSrc
set_option linter.unusedSimpArgs false in
set_option maxRecDepth 100000 in
theorem yr9 (a : Option Addr) (len cap : Nat) (w : World) (hr : RowB w w.heap.size a len cap) :
  Calls Tryz.prog 5 #[.slice a len cap] w fun e w' => ∃ (va : Option Addr) (vc : Nat) (Is : List Pl.It), Is.length ≤ 200 ∧ e = .returned (.slice va Is.length vc) ∧ zr0 w' w.heap.size va Is ∧ w'.ownsRow w.heap.size 38 2 (.slice va Is.length vc) Is.length (Pl.zb9 Is) ∧ Below w.heap.size w w' := by
 have h0 := hide (yl6 a len cap w hr)
 clear hr
 go_enter Tryz.func5, Tryz.ntmps5
 go_wp2_with fail
 refine (za h0).mono ?_
 rintro e w1 ⟨rfl, hs, b1⟩
 clear h0
 go_wp2_with fail
 refine (zk8 w.heap.size a len cap _ hs).mono ?_
 rintro e w2 ⟨va, vc, Is, hl, rfl, ik, g2⟩
 have NV := hide (ik.nest.mono (B' := w.heap.size) b1.size)
 have OW : Hid (w2.ownsRow w.heap.size 38 2 (.slice va Is.length vc) Is.length (Pl.zb9 Is)) :=
  ⟨ik.own.1, ik.own.2.imp id (fun ⟨g, c, cur, e, hb, r⟩ => ⟨g, c, cur, e, Nat.le_trans b1.size hb, r⟩)⟩
 have b2 : Below w.heap.size w w2 := b1.grown g2 b1.size (fun q hq => by cases hq; omega)
 clear ik g2 hs b1
 go_wp2
 go_ret
 exact ⟨va, vc, Is, hl, rfl, za NV, za OW, b2⟩
end WSrc
end Go.Proofs.YtfdbokipgofcdaaGreatDoor

namespace Go.Proofs.YtfdbokipgofcdaaGreatDoor
open Go.RowKit
namespace WSrc
theorem yi2 {W : World} {S len cap q : Nat} {a : Option Addr} (h : Src W S a len cap) : Src (W.drewN q) S a len cap := h
set_option linter.unusedSimpArgs false in
set_option maxRecDepth 100000 in
set_option maxHeartbeats 4000000 in
theorem spoil_any (S : Nat) (a : Option Addr) (len cap : Nat) (t : ByteArray) (w : World) (hs : Src w S a len cap) (ht : t.size ≤ 8000) :
  Calls Tryz.prog 38 #[.pointer (some ⟨S, 0, none⟩), .string t] w fun e w' => ∃ u : ByteArray, u.size ≤ 8001 ∧ e = .returned (.string u) ∧ Src w' S a len cap ∧ w.grownBy w' (some S) := by
 have hS := zz1 hs
 have h1 := hide (zd9 S a len cap ((t.size : Int) + 1) w hs (by omega))
 clear hs
 go_enter Tryz.func38, Tryz.ntmps38
 go_wp2_with fail
 refine (za h1).mono ?_
 rintro e w1 ⟨r, rfl, r0, r1, s1, g1⟩
 obtain ⟨k, rfl⟩ : ∃ k : Nat, r = (k : Int) := ⟨r.toNat, by omega⟩
 have hk : k ≤ t.size := by omega
 clear h1 r0 r1
 go_wp2_with fail
 refine (zd9 S a len cap 17 _ s1 (by omega)).mono ?_
 rintro e w2 ⟨r, rfl, r0, r1, s2, g2⟩
 obtain ⟨j, rfl⟩ : ∃ j : Nat, r = (j : Int) := ⟨r.toNat, by omega⟩
 have hj : j < 17 := by omega
 have hj2 : (j : Int) < 17 := by omega
 have g := g1.trans g2
 clear r0 r1 g1 g2 s1
 have hcv : ∀ b : UInt8, (convert 22 9 (.slice (some ⟨w2.heap.size, 0, none⟩) 1 1)).run Tryz.prog (w2.alloc (.cells #[.int .u8 (b.toNat : Int)] 5)) = .ok (.string ⟨#[b]⟩) (w2.alloc (.cells #[.int .u8 (b.toNat : Int)] 5)) := fun b =>
  Mem.yn7 Tryz.underlying22 Tryz.underlying5 Tryz.underlying9 [b] rfl (heap_alloc_new w2 _) (by simp [Pl.ze6])
 have kz : (0 : Int) ≤ (k : Int) := by omega
 have kt : (k : Int) ≤ (t.size : Int) := by omega
 by_cases hkt : k = t.size
 ·have e1 : ((k : Int) == (t.size : Int)) = true := by rw [beq_iff_eq]; omega
  clear hkt
  have SA := zl2 s2
  have GA := fun o => g.trans (World.grownBy_alloc w2 o (some S))
  clear s2 g
  go_wp2
  go_quiet (fail)
  go_wp2
  go_ret
  exact ⟨_, by simp only [ByteArray.size_append, ByteArray.size_extract]; have h1 : ∀ b : UInt8, (⟨#[b]⟩ : ByteArray).size = 1 := fun _ => rfl; (try simp only [h1]); omega, rfl, yi2 (SA _), zs2 (GA _) _⟩
 ·have e1 : ((k : Int) == (t.size : Int)) = false := by rw [beq_eq_false_iff_ne]; omega
  have k1 : (k : Int) + 1 ≤ (t.size : Int) := by omega
  have k2 : (0 : Int) ≤ (k : Int) + 1 := by omega
  clear hkt
  have SA := zl2 s2
  have GA := fun o => g.trans (World.grownBy_alloc w2 o (some S))
  clear s2 g
  go_wp2_with fail
  refine (zk3 S a len cap 3 _ (SA _) (by omega)).mono ?_
  rintro e w3 ⟨r3, rfl, s3, g3⟩
  have G3 := (GA _).trans g3
  clear SA GA g3
  cases r3
  ·go_wp2_with fail
   refine (zk3 S a len cap 2 _ s3 (by omega)).mono ?_
   rintro e w4 ⟨r4, rfl, s4, g4⟩
   have G4 := G3.trans g4
   clear s3 g4 G3
   cases r4
   ·go_wp2
    go_quiet (fail)
    go_wp2
    go_ret
    exact ⟨_, by simp only [ByteArray.size_append, ByteArray.size_extract]; have h1 : ∀ b : UInt8, (⟨#[b]⟩ : ByteArray).size = 1 := fun _ => rfl; (try simp only [h1]); omega, rfl, yi2 s4, zs2 G4 _⟩
   ·go_wp2
    go_quiet (fail)
    go_wp2
    go_ret
    exact ⟨_, by simp only [ByteArray.size_append, ByteArray.size_extract]; have h1 : ∀ b : UInt8, (⟨#[b]⟩ : ByteArray).size = 1 := fun _ => rfl; (try simp only [h1]); omega, rfl, yi2 s4, zs2 G4 _⟩
  ·go_wp2
   go_quiet (fail)
   go_wp2
   go_ret
   exact ⟨_, by simp only [ByteArray.size_append, ByteArray.size_extract]; have h1 : ∀ b : UInt8, (⟨#[b]⟩ : ByteArray).size = 1 := fun _ => rfl; (try simp only [h1]); omega, rfl, yi2 s3, zs2 G3 _⟩
end WSrc
end Go.Proofs.YtfdbokipgofcdaaGreatDoor

namespace Go.Proofs.YtfdbokipgofcdaaGreatDoor
open Go.RowKit Go.Sort
namespace yc6
set_option linter.unusedSimpArgs false in
set_option maxRecDepth 100000 in
set_option maxHeartbeats 2000000 in
theorem yi0 (a : Option Addr) (cap : Nat) (Is : List Pl.It) (w : World) (k : Pl.Fo) (hN : Pl.nest (Pl.rowO (Is.map Pl.It.r)) = some k) (hv : Mem.za6 w a Is) :
  Calls Tryz.prog 42 #[.slice a Is.length cap] w fun e w' => e = .returned (.string (Pl.zh (Is.map Pl.It.r))) ∧ Below w.heap.size w w' := by
 have mixed : Tryz.prog.follows .mixedOrders = true := by kernel_rfl
 have h12 : Is.length ≤ 12 := by have := Pl.nest_12 hN; rwa [List.length_map] at this
 have HX := hide (fun (j : Nat) x (hx : Is[j]? = some x) => Pl.zz0 hN (i := j) (x := x.r) (by rw [List.getElem?_map, hx]; rfl))
 have HST := hide (fun (j : Nat) x (hx : Is[j]? = some x) => Pl.upToN_step (Is.map Pl.It.r) (k := j) (x := x.r) (by rw [List.getElem?_map, hx]; rfl))
 have HZ : Hid (Pl.ya4 (Is.map Pl.It.r) 0 = Pl.num (Is.length : Int)) := hide (by rw [Pl.upToN_zero, List.length_map])
 have HEND : Hid (Pl.ya4 (Is.map Pl.It.r) Is.length = Pl.zh (Is.map Pl.It.r)) := hide (by have := Pl.upToN_end (Is.map Pl.It.r); rwa [List.length_map] at this)
 have HV := hide hv
 have hp := hide (WNum.zz8 (Is.length : Int) w (by omega) (by omega))
 generalize Pl.zh (Is.map Pl.It.r) = R at HEND ⊢
 generalize Pl.ya4 (Is.map Pl.It.r) = U at HST HZ HEND
 clear hv hN
 go_enter Tryz.func42, Tryz.ntmps42
 go_wp2_with fail
 refine (za hp).mono ?_
 rintro e w1 ⟨rfl, b1⟩
 clear hp
 go_wp2
 go_loopw [3, 4] (fun v i wr => ∃ (j : Nat) (B : ByteArray), j ≤ Is.length ∧ i = .int .i64 (j : Int) ∧ v = .string B ∧ B.size ≤ 11 + j * 9000 ∧ Below w.heap.size w wr ∧ Hid (B = U j)) (fun _ i _ => Is.length - (intOf i).toNat)
 case atStart => exact ⟨0, _, Nat.zero_le _, rfl, rfl, by have := Pl.zm6 (n := (Is.length : Int)) (by omega) (by omega); exact this, b1, hide (za HZ).symm⟩
 case round =>
  obtain ⟨j, B, hj, rfl, rfl, hBs, hbel, HBE⟩ := hrel
  by_cases hlt : j < Is.length
  ·obtain ⟨x, hx⟩ : ∃ x, Is[j]? = some x := ⟨_, List.getElem?_eq_getElem hlt⟩
   obtain ⟨⟨b, o, rfl, hb, q0, q1⟩, q2⟩ := (Mem.zc1 (za HV) hbel) j x hx
   obtain ⟨hm0, hm4, htr⟩ := za HX j x hx
   have hst := za HST j x hx
   have htp := Pl.zu1 htr
   have y1 : (j : Int) < (Is.length : Int) := by omega
   have y3 : (0 : Int) ≤ (j : Int) := by omega
   simp only [Pl.Tr.val] at q1
   obtain ⟨m, ta, tcap, L⟩ := x
   simp only [Pl.It.r] at q0 q1 q2 hm0 hm4 htr hst htp
   have k0 := cell_regrown q0
   have k1 := cell_regrown q1
   have zk := Pl.zm6 (n := m) (by omega) (by omega)
   have zp := Pl.yw1 htr
   have zb := Pl.zt6 htr
   have ck : ∀ d os, Calls Tryz.prog 69 #[.int .i64 m] (grow (redrawn wr d) os) fun e w'' => e = .returned (.string (Pl.num m)) ∧ ∃ p : Regrown, w'' = grow (redrawn wr p.d) p.os := fun d os => Calls.regrown_of (WNum.zz8 m _ (by omega) (by omega))
   have cb : ∀ d os, Calls Tryz.prog 71 #[.agg #[.slice ta L.length tcap]] (grow (redrawn wr d) os) fun e w'' => e = .returned (.string (Pl.zc6 L)) ∧ ∃ p : Regrown, w'' = grow (redrawn wr p.d) p.os := fun d os => Calls.regrown_of (zy.yi0 ta tcap L _ htp.1 (Mem.za8 q2 (below_regrown wr d os)) htp.2)
   have cp : ∀ d os, Calls Tryz.prog 70 #[.string (Pl.zc6 L)] (grow (redrawn wr d) os) fun e w'' => e = .returned (.string (zd6.put (Pl.zc6 L))) ∧ ∃ p : Regrown, w'' = grow (redrawn wr p.d) p.os := fun d os => Calls.regrown_of (zd6.zd0 (Pl.zc6 L) _ (by unfold maxLen; omega))
   generalize zd6.put (Pl.zc6 L) = P1 at cp zp hst
   generalize Pl.zc6 L = Y at cp cb
   generalize Pl.num m = K1 at ck zk hst
   have HCK := hide ck
   have HCB := hide cb
   have HCP := hide cp
   have HS2 : Hid (U (j + 1) = U j ++ K1 ++ P1) := hide hst
   have n1 : ¬ 9223372036854775807 < B.size + K1.size := by omega
   have n2 : ¬ 9223372036854775807 < B.size + K1.size + P1.size := by omega
   have n3 : B.size + K1.size + P1.size ≤ 11 + (j + 1) * 9000 := by omega
   clear q0 q1 q2 hx hst htr htp ck cb cp HX HST
   go_wp2_with fail
   refine wp_region_quiet_below (by assumption) (by kernel_rfl) ?_
   repeat (quiet_step (first | exact za HCK _ _ | exact za HCB _ _ | exact za HCP _ _))
   refine wpQuiet_nil ?_
   intro _ hw'
   obtain ⟨⟨dq, osq⟩, hw''⟩ := hw'
   subst hw''
   have bb := hbel.trans ((below_regrown wr dq osq).mono hbel.size)
   clear hbel k0 k1
   generalize grow (redrawn wr dq) osq = wn at bb ⊢
   go_wp2
   go_roundw
   case rel => exact ⟨j + 1, _, by omega, by go_num, rfl, by simpa using n3, bb, hide (by rw [za HS2, ← za HBE])⟩
   case measure => simp [intOf]; omega
  ·have u1 : ¬ (j : Int) < (Is.length : Int) := by omega
   have hjl : j = Is.length := by omega
   have HR : Hid (B = R) := hide (by rw [za HBE, hjl, za HEND])
   clear HX HST HV HBE
   go_wp2
   go_ret
   exact ⟨by rw [← za HR]; rfl, hbel⟩
set_option maxRecDepth 100000 in
theorem zd0 (a : Option Addr) (cap : Nat) (Is : List Pl.It) (w : World) (hl : Is.length ≤ 1048576) (hv : Mem.za6 w a Is) (hok : ∀ x ∈ Is, x.t.L.length ≤ 1048576 ∧ ∀ n ∈ x.t.L, n.path.size ≤ 1048576 ∧ n.data.size ≤ 1048576) :
  Calls Tryz.prog 9 #[.slice a Is.length cap] w fun e w' => e = .returned (.string (Pl.zc4 (Is.map Pl.It.r))) ∧ Below w.heap.size w w' := by
 have hrl : (Pl.rowO (Is.map Pl.It.r)).length = Is.length := by rw [Pl.zi5, List.length_map]
 by_cases h400 : 400 < Is.length
 ·have t0 : (400 : Int) < (Is.length : Int) := by omega
  have e0 : Pl.zc4 (Is.map Pl.It.r) = ⟨#[]⟩ := by unfold Pl.zc4; rw [Pl.zo6 _ (by omega)]; rfl
  rw [e0]
  clear hv hok
  go_enter Tryz.func9, Tryz.ntmps9
  go_wp2
  go_ret
  exact ⟨rfl, Below.refl _ _⟩
 have t0 : ¬ (400 : Int) < (Is.length : Int) := by omega
 have hz := hide (zj2.zf4 a cap Is w hl hv hok)
 cases hN : Pl.nest (Pl.rowO (Is.map Pl.It.r)) with
 | none =>
  rw [hN] at hz
  have e0 : Pl.zc4 (Is.map Pl.It.r) = ⟨#[]⟩ := by unfold Pl.zc4; rw [hN]; rfl
  rw [e0]
  clear hv hok hN hrl e0
  go_enter Tryz.func9, Tryz.ntmps9
  go_wp2_with fail
  refine (za hz).mono ?_
  rintro e w1 ⟨rfl, b1⟩
  clear hz
  go_wp2
  go_ret
  exact ⟨rfl, b1⟩
 | some k =>
  rw [hN] at hz
  have hd := hide (fun W (b : Below w.heap.size w W) => yi0 a cap Is W k hN (Mem.zc1 hv b))
  have e0 : Pl.zc4 (Is.map Pl.It.r) = if 8000 < (Pl.zh (Is.map Pl.It.r)).size then ⟨#[]⟩ else Pl.zh (Is.map Pl.It.r) := by unfold Pl.zc4; rw [hN]; rfl
  have E := hide e0
  generalize Pl.zc4 (Is.map Pl.It.r) = R at E ⊢
  generalize Pl.zh (Is.map Pl.It.r) = Y at E hd
  clear hv hok hN hrl e0
  go_enter Tryz.func9, Tryz.ntmps9
  go_wp2_with fail
  refine (za hz).mono ?_
  rintro e w1 ⟨rfl, b1⟩
  clear hz
  go_wp2_with fail
  refine (za hd _ b1).mono ?_
  rintro e w2 ⟨rfl, b2⟩
  have bb := b1.trans (b2.mono b1.size)
  clear hd b1 b2
  by_cases hy : 8000 < Y.size
  ·have E2 : Hid (R = ⟨#[]⟩) := hide (by rw [za E, if_pos hy])
   clear E
   go_wp2
   go_ret
   exact ⟨zf2 (za E2).symm, bb⟩
  ·have E2 : Hid (R = Y) := hide (by rw [za E, if_neg hy])
   clear E
   go_wp2
   go_ret
   exact ⟨zf2 (za E2).symm, bb⟩
end yc6
end Go.Proofs.YtfdbokipgofcdaaGreatDoor

namespace Go.Proofs.YtfdbokipgofcdaaGreatDoor
open Go.RowKit
namespace Pl
theorem nbytes_size (xs : List (Int × List Nd)) : (zc4 xs).size ≤ 8000 := by
 unfold zc4
 split
 ·split
  ·exact Nat.zero_le _
  ·omega
 ·exact Nat.zero_le _
end Pl
namespace WSrc
theorem on_r {w w1 w2 : World} (hb : Below w.heap.size w w1) (hg : w1.grownBy w2 (some w.heap.size)) : Below w.heap.size w w2 :=
 hb.grown hg hb.size (fun k e => by cases e; exact Nat.le_refl _)
set_option linter.unusedSimpArgs false in
set_option maxRecDepth 100000 in
set_option maxHeartbeats 2000000 in
theorem yt9 (a : Option Addr) (len cap : Nat) (w : World) (hr : RowB w w.heap.size a len cap) :
  Calls Tryz.prog 7 #[.slice a len cap] w fun e w' => ∃ u : ByteArray, u.size ≤ 8001 ∧ e = .returned (.string u) ∧ Below w.heap.size w w' := by
 have h0 := hide (yl6 a len cap w hr)
 clear hr
 go_enter Tryz.func7, Tryz.ntmps7
 go_wp2_with fail
 refine (za h0).mono ?_
 rintro e w1 ⟨rfl, hs, b1⟩
 clear h0
 go_wp2_with fail
 refine (zk8 w.heap.size a len cap _ hs).mono ?_
 rintro e w2 ⟨va, vc, Is, hl, rfl, ik, g2⟩
 have s2 := ik.src
 have b2 := on_r b1 g2
 have hB := hide (yc6.zd0 va vc Is w2 (by omega) ik.nest.items ik.nest.hok)
 have hT := Pl.nbytes_size (Is.map Pl.It.r)
 generalize Pl.zc4 (Is.map Pl.It.r) = T at hB hT
 clear hs g2 b1 ik
 go_wp2_with fail
 refine (za hB).mono ?_
 rintro e w3 ⟨rfl, b3⟩
 have s3 := yb2 s2 b3
 have b4 := b2.trans (b3.mono b2.size)
 clear hB s2 b2 b3
 go_wp2_with fail
 refine (zd9 w.heap.size a len cap 4 _ s3 (by omega)).mono ?_
 rintro e w4 ⟨r, rfl, r0, r1, s4, g4⟩
 have b5 := on_r b4 g4
 clear s3 g4 b4
 have hr : r = 0 ∨ r = 1 ∨ (¬ r = 0 ∧ ¬ r = 1) := by omega
 clear r0 r1
 rcases hr with rfl | rfl | ⟨q0, q1⟩
 ·go_wp2_with fail
  refine (spoil_any w.heap.size a len cap T _ s4 hT).mono ?_
  rintro e w5 ⟨u, hu, rfl, s5, g5⟩
  go_wp2
  go_ret
  exact ⟨u, hu, rfl, on_r b5 g5⟩
 ·have h1 := hide (zd9 w.heap.size a len cap ((T.size : Int) + 1) w4 s4 (by omega))
  go_wp2_with fail
  refine (za h1).mono ?_
  rintro e w5 ⟨r, rfl, r0, r1, s5, g5⟩
  obtain ⟨k, rfl⟩ : ∃ k : Nat, r = (k : Int) := ⟨r.toNat, by omega⟩
  have kz : (0 : Int) ≤ (k : Int) := by omega
  have kt : (k : Int) ≤ (T.size : Int) := by omega
  clear h1
  go_wp2
  go_ret
  exact ⟨_, by simp only [ByteArray.size_extract]; omega, rfl, on_r b5 g5⟩
 ·have p0 : (r == 0) = false := by simpa using q0
  have p1 : (r == 1) = false := by simpa using q1
  go_wp2
  go_ret
  exact ⟨T, by omega, rfl, b5⟩
end WSrc
end Go.Proofs.YtfdbokipgofcdaaGreatDoor

namespace Go.Proofs.YtfdbokipgofcdaaGreatDoor
open Go.RowKit
namespace zc0
set_option maxRecDepth 100000 in
theorem zf4 (a : Option Addr) (cap : Nat) (Is : List Pl.It) (w : World) (hl : Is.length ≤ 1048576) (hcap : Is.length ≤ cap) (hv : Mem.za6 w a Is) (hok : ∀ x ∈ Is, x.t.L.length ≤ 1048576 ∧ ∀ n ∈ x.t.L, n.path.size ≤ 1048576 ∧ n.data.size ≤ 1048576)
  (r0 r1 r2 r3 : TypeId) (x0 x1 x2 x3 : Value) (hE : zq3 w r0 r1 r2 r3 x0 x1 x2 x3) :
  Calls Tryz.prog 13 #[.slice a Is.length cap] w fun e w' => e = .returned (.bool (Pl.nest (Pl.rowO (Is.map Pl.It.r))).isSome) ∧ Below w.heap.size w w' := by
 have hz := hide (zk8 a cap Is w hl hcap hv hok _ _ _ _ _ _ _ _ hE)
 clear hv hok hE
 generalize Pl.nest (Pl.rowO (Is.map Pl.It.r)) = NN at hz ⊢
 go_enter Tryz.func13, Tryz.ntmps13
 go_wp2_with fail
 refine (za hz).mono ?_
 rintro e w1 ⟨h1, b1⟩
 clear hz
 rcases h1 with ⟨k, q, m, va, vcap, rfl, rfl, -⟩ | ⟨rfl, r, x, rfl⟩
 ·go_wp2
  go_ret
  exact ⟨rfl, b1.alloc b1.size _⟩
 ·go_wp2
  go_ret
  exact ⟨rfl, b1.alloc b1.size _⟩
end zc0
end Go.Proofs.YtfdbokipgofcdaaGreatDoor

namespace Go.Proofs.YtfdbokipgofcdaaGreatDoor
open Go.RowKit
namespace yc6
theorem keep2 {w W W' : World} {X : Nat} {a b : Value} (h : Below w.heap.size w W ∧ W.cell? ⟨X, 0, none⟩ = some a ∧ W.cell? ⟨X, 1, none⟩ = some b) (hb : Below W.heap.size W W') :
  Below w.heap.size w W' ∧ W'.cell? ⟨X, 0, none⟩ = some a ∧ W'.cell? ⟨X, 1, none⟩ = some b := by
 have hX := World.block_lt_of_cell? W ⟨X, 0, none⟩ h.2.1
 exact ⟨h.1.trans (hb.mono h.1.size), (hb.cell (p := ⟨X, 0, none⟩) hX).trans h.2.1, (hb.cell (p := ⟨X, 1, none⟩) hX).trans h.2.2⟩
theorem keep2g {w W W' : World} {X : Nat} {r : Option Nat} {a b : Value} (h : Below w.heap.size w W ∧ W.cell? ⟨X, 0, none⟩ = some a ∧ W.cell? ⟨X, 1, none⟩ = some b) (hg : W.grownBy W' r) (hr : some X ≠ r) (hq : ∀ q, r = some q → w.heap.size ≤ q) :
  Below w.heap.size w W' ∧ W'.cell? ⟨X, 0, none⟩ = some a ∧ W'.cell? ⟨X, 1, none⟩ = some b :=
 ⟨h.1.grown hg h.1.size hq, hg.cell h.2.1 hr, hg.cell h.2.2 hr⟩
theorem zj0 (w : World) (a b : Value) (T : TypeId) : ∀ j u, [a, b][j]? = some u → (w.alloc (.cells #[a, b] T)).cell? ((⟨w.heap.size, 0, none⟩ : Addr).add j) = some u := by
 intro j u hj
 rw [Mem.add_lit]
 exact (Mem.ze0 w [a, b] T).2 j u hj
theorem parts_len (xs : List (Int × List Pl.Nd)) : (Pl.num xs.length :: xs.flatMap Pl.zd3).length = 1 + 2 * xs.length := by
 have : ∀ ys : List (Int × List Pl.Nd), (ys.flatMap Pl.zd3).length = 2 * ys.length := by
  intro ys
  induction ys with
  | nil => rfl
  | cons y ys ih => rw [List.flatMap_cons, List.length_append, ih]; simp [Pl.zd3]; omega
 rw [List.length_cons, this]; omega
theorem yr8 (xs : List (Int × List Pl.Nd)) (h12 : xs.length ≤ 12) (h : ∀ (i : Nat) x, xs[i]? = some x → 0 ≤ x.1 ∧ x.1 ≤ 4 ∧ Pl.za2 x.2 = true) : Pl.tot (Pl.num xs.length :: xs.flatMap Pl.zd3) ≤ 1000000 := by
 have : ∀ ys : List (Int × List Pl.Nd), (∀ x ∈ ys, 0 ≤ x.1 ∧ x.1 ≤ 4 ∧ Pl.za2 x.2 = true) → Pl.tot (ys.flatMap Pl.zd3) ≤ 9000 * ys.length := by
  intro ys
  induction ys with
  | nil => intro _; simp [Pl.tot]
  | cons y ys ih =>
   intro hy
   rw [List.flatMap_cons, Pl.tot_app]
   have h1 := hy y List.mem_cons_self
   have h2 := ih (fun x hx => hy x (List.mem_cons_of_mem _ hx))
   have a1 := Pl.zm6 (n := y.1) (by omega) (by omega)
   have a2 := Pl.yw1 h1.2.2
   have e : Pl.tot (Pl.zd3 y) = (Pl.num y.1).size + (zd6.put (Pl.zc6 y.2)).size := by simp [Pl.tot, Pl.zd3]
   simp only [List.length_cons]
   omega
 have h3 := this xs (fun x hx => by obtain ⟨i, hi⟩ := List.mem_iff_getElem?.1 hx; exact h i x hi)
 have h4 := Pl.zm6 (n := (xs.length : Int)) (by omega) (by omega)
 have e : Pl.tot (Pl.num xs.length :: xs.flatMap Pl.zd3) = (Pl.num xs.length).size + Pl.tot (xs.flatMap Pl.zd3) := by simp [Pl.tot]
 omega
set_option linter.unusedSimpArgs false in
set_option maxRecDepth 100000 in
set_option maxHeartbeats 2000000 in
theorem zg5 (a : Option Addr) (cap : Nat) (Is : List Pl.It) (w : World) (hl : Is.length ≤ 1048576) (hcap : Is.length ≤ cap) (hv : Mem.za6 w a Is) (hok : ∀ x ∈ Is, x.t.L.length ≤ 1048576 ∧ ∀ n ∈ x.t.L, n.path.size ≤ 1048576 ∧ n.data.size ≤ 1048576)
  (r0 r1 r2 r3 : TypeId) (x0 x1 x2 x3 : Value) (hE : zc0.zq3 w r0 r1 r2 r3 x0 x1 x2 x3) :
  Calls Tryz.prog 6 #[.slice a Is.length cap] w fun e w' => e = .returned (.string (Pl.zc4 (Is.map Pl.It.r))) ∧ Below w.heap.size w w' := by
 have hz := hide (zc0.zf4 a cap Is w hl hcap hv hok _ _ _ _ _ _ _ _ hE)
 cases hN : Pl.nest (Pl.rowO (Is.map Pl.It.r)) with
 | none =>
  rw [hN] at hz
  have e0 : Pl.zc4 (Is.map Pl.It.r) = ⟨#[]⟩ := by unfold Pl.zc4; rw [hN]; rfl
  rw [e0]
  clear hv hok hN e0 hE
  go_enter Tryz.func6, Tryz.ntmps6
  go_wp2_with fail
  refine (za hz).mono ?_
  rintro e w1 ⟨rfl, b1⟩
  clear hz
  go_wp2
  go_ret
  exact ⟨rfl, b1⟩
 | some kf =>
  rw [hN] at hz
  have h12 : Is.length ≤ 12 := by have := Pl.nest_12 hN; rwa [List.length_map] at this
  have HX := hide (fun (j : Nat) x (hx : Is[j]? = some x) => Pl.zz0 hN (i := j) (x := x.r) (by rw [List.getElem?_map, hx]; rfl))
  have HTOT := hide (yr8 (Is.map Pl.It.r) (by rw [List.length_map]; exact h12) (fun i x hx => Pl.zz0 hN hx))
  have e0 : Pl.zc4 (Is.map Pl.It.r) = if 8000 < (Pl.zh (Is.map Pl.It.r)).size then ⟨#[]⟩ else Pl.zh (Is.map Pl.It.r) := by unfold Pl.zc4; rw [hN]; rfl
  have E2 := hide e0
  generalize Pl.zc4 (Is.map Pl.It.r) = R at E2 ⊢
  have HV := hide hv
  have HOK := hide hok
  have HE := hide (fun W (b : Below w.heap.size w W) => (hE.call b).three)
  obtain ⟨i0, hi, hz0, hz1, hz2⟩ := info_parts yk3.infoS
  have hpn := hide (fun W => WNum.zz7 (Is.length : Int) W (by omega) (by omega))
  clear hv hok hN e0 hE
  go_enter Tryz.func6, Tryz.ntmps6
  go_wp2_with fail
  refine (za hz).mono ?_
  rintro e w1 ⟨rfl, b1⟩
  clear hz
  go_wp2_with fail
  refine (za hpn _).mono ?_
  rintro e w2 ⟨rfl, b3⟩
  have b4 := b1.trans (b3.mono b1.size)
  have own0 : (w2.alloc (.cells #[.string ⟨(Pl.enc (Pl.fold (Is.length : Int))).toArray⟩] 9)).ownsRow w.heap.size 9 1 (.slice (some ⟨w2.heap.size, 0, none⟩) 1 1) 1 [.string ⟨(Pl.enc (Pl.fold (Is.length : Int))).toArray⟩] :=
   ⟨rfl, .inr ⟨w2.heap.size, 1, _, rfl, b4.size, heap_alloc_new w2 _, Nat.le_refl _, by unfold maxLen; omega, rfl, rfl⟩⟩
  have OWN := hide own0
  have b5 : Below w.heap.size w (w2.alloc (.cells #[.string ⟨(Pl.enc (Pl.fold (Is.length : Int))).toArray⟩] 9)) := b4.alloc b4.size _
  clear own0 hpn b1 b3 b4
  go_wp2
  go_loopw [3, 15] (fun v i wr => ∃ k : Nat, k ≤ Is.length ∧ i = .int .i64 (k : Int) ∧ Below w.heap.size w wr ∧ Hid (wr.ownsRow w.heap.size 9 1 v (1 + 2 * k) ((Pl.num (Is.length : Int) :: ((Is.map Pl.It.r).take k).flatMap Pl.zd3).map Value.string))) (fun _ i _ => Is.length - (intOf i).toNat)
  case atStart => exact ⟨0, Nat.zero_le _, rfl, b5, OWN⟩
  case round =>
   obtain ⟨k, hk, rfl, hbel, HOWN⟩ := hrel
   by_cases hlt : k < Is.length
   ·obtain ⟨x, hx⟩ : ∃ x, Is[k]? = some x := ⟨_, List.getElem?_eq_getElem hlt⟩
    obtain ⟨⟨b, o, rfl, hb, q0, q0'⟩, q2⟩ := za HV k x hx
    have c0 := (hbel.cell (p := ⟨b, _, none⟩) hb).trans q0
    have c1 := (hbel.cell (p := ⟨b, _, none⟩) hb).trans q0'
    simp only [Pl.Tr.val] at c1
    have y1 : (k : Int) < (Is.length : Int) := by omega
    have y3 : (0 : Int) ≤ (k : Int) := by omega
    obtain ⟨hm0, hm4, htr⟩ := za HX k x hx
    have hokx := za HOK x (List.mem_of_getElem? hx)
    have HN := hide (show (Pl.num (Is.length : Int) :: ((Is.map Pl.It.r).take (k + 1)).flatMap Pl.zd3).map Value.string = (Pl.num (Is.length : Int) :: ((Is.map Pl.It.r).take k).flatMap Pl.zd3).map Value.string ++ (Pl.zd3 x.r).map Value.string by
     have hxr : (Is.map Pl.It.r)[k]? = some x.r := by rw [List.getElem?_map, hx]; rfl
     have h1 := (List.getElem?_eq_some_iff.1 hxr)
     rw [List.take_succ_eq_append_getElem h1.1, h1.2, List.flatMap_append]; simp)
    obtain ⟨m, ta, tcap, L⟩ := x
    simp only [Pl.It.r, Pl.zd3] at c0 c1 q2 hm0 hm4 htr hokx HN
    have hown0 := (za HOWN).alloc (.cells #[.int .i64 m, .slice ta L.length tcap] 38)
    have hvl := hide (za HOWN).lt
    have hsl := hbel.size
    have ebt : Pl.zf7 L = Pl.zc6 L := Pl.zs5 htr
    have zb := Pl.zt6 htr
    have ck := hide (fun W => WNum.zz7 m W (by omega) (by omega))
    have cb := hide (fun W (b : Below w.heap.size w W) => by
     have h' := zy.zg5 ta tcap L W hokx.1 (Mem.za8 q2 b) hokx.2 _ _ _ _ _ _ (za HE W b)
     rw [ebt] at h'; exact h')
    have cp := hide (fun W => zd6.zg5 (Pl.zc6 L) W (by unfold maxLen; omega))
    change Hid (∀ W, Calls Tryz.prog _ _ W fun e w' => e = .returned (.string (Pl.num m)) ∧ _) at ck
    generalize zd6.put (Pl.zc6 L) = P1 at cp HN
    generalize Pl.zc6 L = Y1 at cp cb
    generalize Pl.num m = K1 at ck HN
    generalize (Pl.num (Is.length : Int) :: ((Is.map Pl.It.r).take k).flatMap Pl.zd3).map Value.string = XS at hown0 HN
    go_wp2_with fail
    have bw1 : Below wr.heap.size wr (wr.alloc (.cells #[.int .i64 m, .slice ta L.length tcap] 38)) := (Below.refl _ _).alloc (Nat.le_refl _) _
    have hsz : (wr.alloc (.cells #[.int .i64 m, .slice ta L.length tcap] 38)).heap.size = wr.heap.size + 1 := by simp
    generalize hW0 : wr.alloc (.cells #[.int .i64 m, .slice ta L.length tcap] 38) = W0
    rw [hW0] at bw1 hsz hown0
    have zn : Mem.Var W0 wr.heap.size [.int .i64 m, .slice ta L.length tcap] := hW0 ▸ Mem.ze0 wr [.int .i64 m, .slice ta L.length tcap] 38
    have bw0 : Below w.heap.size w W0 := hbel.trans (bw1.mono hbel.size)
    have own0 : W0.drew.ownsRow w.heap.size 9 1 u3 (1 + 2 * k) XS := hown0
    clear hW0 q0 q0' q2 hx hown0 HOWN htr hokx ebt zb c0 c1
    refine wp_region_held_drew (S := fun W' => Below w.heap.size w W' ∧ W'.cell? ⟨wr.heap.size, 0, none⟩ = some (.int .i64 m) ∧ W'.cell? ⟨wr.heap.size, 1, none⟩ = some (.slice ta L.length tcap)) (by kernel_rfl) ?_ (fun hHeld => ?_)
    ·exact ⟨⟨bw0.os, bw0.tape, bw0.output, bw0.size, bw0.block⟩, zn.2 0 _ rfl, zn.2 1 _ rfl⟩
    refine tka (i := 0) rfl ?_
    try simp only [Act.put, kBs]
    refine tka (i := 1) rfl ?_
    try simp only [Act.put, kBs]
    refine tka (i := 2) rfl ?_
    try simp only [Act.put, kBs]
    refine tka (i := 4) rfl ?_
    try simp only [Act.put, kBs]
    refine tka (i := 5) rfl ?_
    try simp only [Act.put, kBs]
    refine wpAnyH_ready (rs := [3]) (by kernel_rfl) (by simp) ?_
    refine AllReadyH.cons rfl (fun K hK => ?_) AllReadyH.nil
    go_simp
    refine (za ck _).mono ?_
    rintro e wX ⟨rfl, bX⟩
    have own1 := Mem.zm7 own0 bX
    clear own0
    refine hK.out _ _ ?_ (fun hHeld => ?_)
    ·exact keep2 hHeld bX
    clear hK K
    try simp only [Act.put, kBs]
    refine wpAnyH_ready (rs := [6]) (by kernel_rfl) (by simp) ?_
    refine AllReadyH.cons rfl (fun K hK => ?_) AllReadyH.nil
    go_simp
    refine (za cb _ hHeld.1).mono ?_
    rintro e wX ⟨rfl, bX⟩
    have own2 := Mem.zm7 own1 bX
    clear own1
    refine hK.out _ _ ?_ (fun hHeld => ?_)
    ·exact keep2 hHeld bX
    clear hK K
    try simp only [Act.put, kBs]
    refine wpAnyH_ready (rs := [7]) (by kernel_rfl) (by simp) ?_
    refine AllReadyH.cons rfl (fun K hK => ?_) AllReadyH.nil
    go_simp
    refine (za cp _).mono ?_
    rintro e wX ⟨rfl, bX⟩
    have own3 := Mem.zm7 own2 bX
    clear own2
    refine hK.out _ _ ?_ (fun hHeld => ?_)
    ·exact keep2 hHeld bX
    clear hK K
    try simp only [Act.put, kBs]
    refine wpAnyH_ready (rs := [8]) (by kernel_rfl) (by simp) ?_
    refine AllReadyH.cons rfl (fun K hK => ?_) AllReadyH.nil
    go_simp
    refine hK.out _ _ ?_ (fun hHeld => ?_)
    ·exact keep2 hHeld ((Below.refl _ _).alloc (Nat.le_refl _) _)
    clear hK K
    try simp only [Act.put, kBs]
    have own4 := own3.alloc (.cells #[.string K1, .string P1] 9)
    have hsz6 := hHeld.1.size
    refine wpAnyH_ready (rs := [9]) (by kernel_rfl) (by simp) ?_
    refine AllReadyH.cons rfl (fun K hK => ?_) AllReadyH.nil
    refine Mem.ze1 rfl _ _ 50 rfl w.heap.size 9 i0 (.string ⟨#[]⟩) 1 16 Tryz.underlying50 hi hz0 hz1 hz2 rfl (by decide) _ _ _ rfl own4 ⟨wX.heap.size, 0, none⟩ 2 2 [.string K1, .string P1] rfl rfl (zj0 _ _ _ _) (fun u hu => by simp at hu; rcases hu with rfl | rfl <;> rfl) (by unfold maxLen; omega) (by omega) hsz6 ?_
    intro v' wZ hownZ hgrow
    refine hK.out _ _ ?_ (fun hHeld => ?_)
    ·exact keep2g hHeld hgrow (fun e => by have := (za hvl _ e.symm).2; omega) (fun q hq => (za hvl q hq).1)
    clear hK K
    try simp only [Act.put, kBs]
    refine tka (i := 10) rfl ?_
    try simp only [Act.put, kBs]
    refine wpAnyH_done (by kernel_rfl) ?_ _
    have bfin := hide hHeld.1
    have OW := hide (show wZ.ownsRow w.heap.size 9 1 v' (1 + 2 * (k + 1)) ((Pl.num (Is.length : Int) :: ((Is.map Pl.It.r).take (k + 1)).flatMap Pl.zd3).map Value.string) by rw [za HN]; exact hownZ)
    clear hHeld hownZ hgrow own4 own3
    go_wp2
    go_roundw
    case rel => exact ⟨k + 1, by omega, by go_num, za bfin, OW⟩
    case measure => simp [intOf]; omega
   ·obtain rfl : k = Is.length := by omega
    have hln : (Is.map Pl.It.r).length = Is.length := List.length_map ..
    have EL : (Pl.num (Is.length : Int) :: ((Is.map Pl.It.r).take Is.length).flatMap Pl.zd3) = Pl.num ((Is.map Pl.It.r).length : Int) :: (Is.map Pl.It.r).flatMap Pl.zd3 := by rw [← hln, List.take_length]
    obtain ⟨PP, hPP⟩ : ∃ PP, PP = Pl.num ((Is.map Pl.It.r).length : Int) :: (Is.map Pl.It.r).flatMap Pl.zd3 := ⟨_, rfl⟩
    have hplen : PP.length = 1 + 2 * Is.length := by rw [hPP, parts_len, hln]
    have htot : Pl.tot PP ≤ 1000000 := by rw [hPP]; exact za HTOT
    have hY : (⟨(Pl.cat PP).toArray⟩ : ByteArray) = Pl.zh (Is.map Pl.It.r) := by rw [hPP]; rfl
    have HO2 : wr.ownsRow w.heap.size 9 1 u3 PP.length (PP.map Value.string) := by rw [hplen, hPP, ← EL]; exact za HOWN
    clear hPP EL hln HOWN
    rcases Mem.texts HO2 with ⟨-, hnil⟩ | ⟨g, cp, rfl, hcp, hm, hgb, hgl, hcell⟩
    ·rw [hnil] at hplen; simp at hplen; omega
    have hj := hide (WJoin.any g 0 cp PP wr (by omega) (by omega) (fun j t ht => by rw [Nat.zero_add]; exact hcell j t ht) hgl)
    rw [hY] at hj
    generalize Pl.zh (Is.map Pl.It.r) = Y at hj E2
    clear hcell HO2 hY hplen htot HTOT HX HV HOK HE
    go_wp2_with fail
    refine (za hj).mono ?_
    rintro e wJ ⟨rfl, bJ⟩
    have bfin := hbel.trans (bJ.mono hbel.size)
    clear hj bJ
    by_cases hy : 8000 < Y.size
    ·have E3 := hide (show R = ⟨#[]⟩ by rw [za E2, if_pos hy])
     clear E2
     go_wp2
     go_ret
     exact ⟨zf2 (za E3).symm, bfin⟩
    ·have E3 := hide (show R = Y by rw [za E2, if_neg hy])
     clear E2
     go_wp2
     go_ret
     exact ⟨zf2 (za E3).symm, bfin⟩
end yc6
end Go.Proofs.YtfdbokipgofcdaaGreatDoor

namespace Go.Proofs.YtfdbokipgofcdaaGreatDoor
open Go.RowKit
namespace zy
set_option maxRecDepth 100000 in
theorem zd0 (a : Option Addr) (cap : Nat) (L : List Pl.Nd) (w : World) (hl : L.length ≤ 1048576) (hv : Mem.zc2 w a L) (hok : ∀ n ∈ L, n.path.size ≤ 1048576 ∧ n.data.size ≤ 1048576) :
  Calls Tryz.prog 75 #[.agg #[.slice a L.length cap]] w fun e w' => e = .returned (.string (Pl.zf7 L)) ∧ Below w.heap.size w w' := by
 have b0 : Below w.heap.size w (w.alloc (.cells #[.slice a L.length cap] 36)) := (Below.refl _ _).alloc (Nat.le_refl _) _
 have hr := hide (zt4.ye6 a cap L _ hl (Mem.za8 hv b0) hok)
 have hby := hide (fun W (b : Below w.heap.size w W) (ht : Pl.za2 L = true) => yi0 a cap L W (Pl.zu1 ht).1 (Mem.za8 hv b) (Pl.zu1 ht).2)
 have hvar := Mem.ze0 w [.slice a L.length cap] 36
 have E : Hid (Pl.zf7 L = if Pl.za2 L then (if 8000 < (Pl.zc6 L).size then ⟨#[]⟩ else Pl.zc6 L) else ⟨#[]⟩) := rfl
 generalize Pl.zf7 L = R at E ⊢
 generalize Pl.za2 L = R2 at E hr hby
 generalize Pl.zc6 L = Y at E hby
 clear hv hok
 cases R2
 ·have E2 := hide (show R = ⟨#[]⟩ from za E)
  clear hvar hby E
  go_enter Tryz.func75, Tryz.ntmps75
  go_wp2_with fail
  refine (za hr).mono ?_
  rintro e w1 ⟨rfl, b1⟩
  have b2 := b0.trans (b1.mono b0.size)
  clear hr b0 b1
  go_wp2
  go_ret
  exact ⟨zf2 (za E2).symm, b2⟩
 have hby2 := hide (fun W b => za hby W b rfl)
 have EL : Hid (8000 < Y.size → R = ⟨#[]⟩) := fun hy => by have := za E; rw [if_pos rfl, if_pos hy] at this; exact this
 have ES : Hid (¬ 8000 < Y.size → R = Y) := fun hy => by have := za E; rw [if_pos rfl, if_neg hy] at this; exact this
 clear hby E
 go_enter Tryz.func75, Tryz.ntmps75
 go_wp2_with fail
 refine (za hr).mono ?_
 rintro e w1 ⟨rfl, b1⟩
 have b2 := b0.trans (b1.mono b0.size)
 have c0 := (Mem.zg9 hvar b1).2 0 _ rfl
 clear hvar hr b0 b1
 go_wp2_with fail
 refine (za hby2 _ b2).mono ?_
 rintro e w3 ⟨rfl, b3⟩
 have b4 := b2.trans (b3.mono b2.size)
 clear b2 b3 hby2
 by_cases hy : 8000 < Y.size
 ·have E2 := hide (za EL hy)
  clear EL ES
  go_wp2
  go_ret
  exact ⟨zf2 (za E2).symm, b4⟩
 ·have E2 := hide (za ES hy)
  clear EL ES
  go_wp2
  go_ret
  exact ⟨zf2 (za E2).symm, b4⟩
end zy
end Go.Proofs.YtfdbokipgofcdaaGreatDoor

