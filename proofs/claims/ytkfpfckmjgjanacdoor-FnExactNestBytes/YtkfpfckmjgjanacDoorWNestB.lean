/- The walks of the specification's l05Bytes and NestBytes. -/
import Derived.Test.YtkfpfckmjgjanacDoorPlainNB
import Derived.Test.YtkfpfckmjgjanacDoorWNestS
import Derived.Lib.QuietBelow
namespace Go.Proofs.YtkfpfckmjgjanacDoor
open Go.RowKit Go.Sort
namespace WNestB
set_option linter.unusedSimpArgs false in
set_option maxRecDepth 100000 in
set_option maxHeartbeats 2000000 in
theorem bytes_any (a : Option Addr) (cap : Nat) (Is : List Pl.It) (w : World) (k : Pl.Fo) (hN : Pl.nest (Pl.rowO (Is.map Pl.It.r)) = some k) (hv : Mem.isItems w a Is) :
    Calls Tryd.prog 11 #[.slice a Is.length cap] w fun e w' => e = .returned (.string (Pl.bytesN (Is.map Pl.It.r))) ∧ Below w.heap.size w w' := by
  have mixed : Tryd.prog.follows .mixedOrders = true := by kernel_rfl
  have h12 : Is.length ≤ 12 := by have := Pl.nest_12 hN; rwa [List.length_map] at this
  have HX := hide (fun (j : Nat) x (hx : Is[j]? = some x) => Pl.nest_items hN (i := j) (x := x.r) (by rw [List.getElem?_map, hx]; rfl))
  have HST := hide (fun (j : Nat) x (hx : Is[j]? = some x) => Pl.upToN_step (Is.map Pl.It.r) (k := j) (x := x.r) (by rw [List.getElem?_map, hx]; rfl))
  have HZ : Hid (Pl.upToN (Is.map Pl.It.r) 0 = Pl.num (Is.length : Int)) := hide (by rw [Pl.upToN_zero, List.length_map])
  have HEND : Hid (Pl.upToN (Is.map Pl.It.r) Is.length = Pl.bytesN (Is.map Pl.It.r)) := hide (by have := Pl.upToN_end (Is.map Pl.It.r); rwa [List.length_map] at this)
  have HV := hide hv
  have hp := hide (WNum.specPut (Is.length : Int) w (by omega) (by omega))
  generalize Pl.bytesN (Is.map Pl.It.r) = R at HEND ⊢
  generalize Pl.upToN (Is.map Pl.It.r) = U at HST HZ HEND
  clear hv hN
  go_enter Tryd.func11, Tryd.ntmps11
  go_wp2_with fail
  refine (unhide hp).mono ?_
  rintro e w1 ⟨rfl, b1⟩
  clear hp
  go_wp2
  go_loopw [3, 4] (fun v i wr => ∃ (j : Nat) (B : ByteArray), j ≤ Is.length ∧ i = .int .i64 (j : Int) ∧ v = .string B ∧ B.size ≤ 11 + j * 9000 ∧ Below w.heap.size w wr ∧ Hid (B = U j)) (fun _ i _ => Is.length - (intOf i).toNat)
  case atStart => exact ⟨0, _, Nat.zero_le _, rfl, rfl, by have := Pl.num_size (n := (Is.length : Int)) (by omega) (by omega); exact this, b1, hide (unhide HZ).symm⟩
  case round =>
    obtain ⟨j, B, hj, rfl, rfl, hBs, hbel, HBE⟩ := hrel
    by_cases hlt : j < Is.length
    · obtain ⟨x, hx⟩ : ∃ x, Is[j]? = some x := ⟨_, List.getElem?_eq_getElem hlt⟩
      obtain ⟨⟨b, o, rfl, hb, q0, q1⟩, q2⟩ := (Mem.items_call (unhide HV) hbel) j x hx
      obtain ⟨hm0, hm4, htr⟩ := unhide HX j x hx
      have hst := unhide HST j x hx
      have htp := Pl.tree_parts htr
      have y1 : (j : Int) < (Is.length : Int) := by omega
      have y3 : (0 : Int) ≤ (j : Int) := by omega
      simp only [Pl.Tr.val] at q1
      obtain ⟨m, ta, tcap, L⟩ := x
      simp only [Pl.It.r] at q0 q1 q2 hm0 hm4 htr hst htp
      have k0 := cell_regrown q0
      have k1 := cell_regrown q1
      have zk := Pl.num_size (n := m) (by omega) (by omega)
      have zp := Pl.put_bytesT htr
      have zb := Pl.bytesT_small htr
      have ck : ∀ d os, Calls Tryd.prog 22 #[.int .i64 m] (grow (redrawn wr d) os) fun e w'' => e = .returned (.string (Pl.num m)) ∧ ∃ p : Regrown, w'' = grow (redrawn wr p.d) p.os := fun d os => Calls.regrown_of (WNum.specPut m _ (by omega) (by omega))
      have cb : ∀ d os, Calls Tryd.prog 24 #[.agg #[.slice ta L.length tcap]] (grow (redrawn wr d) os) fun e w'' => e = .returned (.string (Pl.bytesT L)) ∧ ∃ p : Regrown, w'' = grow (redrawn wr p.d) p.os := fun d os => Calls.regrown_of (WBytesT.bytes_any ta tcap L _ htp.1 (Mem.nodes_call q2 (below_regrown wr d os)) htp.2)
      have cp : ∀ d os, Calls Tryd.prog 23 #[.string (Pl.bytesT L)] (grow (redrawn wr d) os) fun e w'' => e = .returned (.string (WText.put (Pl.bytesT L))) ∧ ∃ p : Regrown, w'' = grow (redrawn wr p.d) p.os := fun d os => Calls.regrown_of (WText.spec_any (Pl.bytesT L) _ (by unfold maxLen; omega))
      generalize WText.put (Pl.bytesT L) = P1 at cp zp hst
      generalize Pl.bytesT L = Y at cp cb
      generalize Pl.num m = K1 at ck zk hst
      have HCK := hide ck
      have HCB := hide cb
      have HCP := hide cp
      have HS2 : Hid (U (j + 1) = U j ++ K1 ++ P1) := hide hst
      have n1 : ¬ 9223372036854775807 < B.size + K1.size := by omega
      have n2 : ¬ 9223372036854775807 < B.size + K1.size + P1.size := by omega
      have n3 : B.size + K1.size + P1.size ≤ 11 + (j + 1) * 9000 := by omega
      clear q0 q1 q2 hx hst htr htp ck cb cp HX HST
      go_wp2_with fail
      refine wp_region_quiet_below (by assumption) (by kernel_rfl) ?_
      repeat (quiet_step (first | exact unhide HCK _ _ | exact unhide HCB _ _ | exact unhide HCP _ _))
      refine wpQuiet_nil ?_
      intro _ hw'
      obtain ⟨⟨dq, osq⟩, hw''⟩ := hw'
      subst hw''
      have bb := hbel.trans ((below_regrown wr dq osq).mono hbel.size)
      clear hbel k0 k1
      generalize grow (redrawn wr dq) osq = wn at bb ⊢
      go_wp2
      go_roundw
      case rel => exact ⟨j + 1, _, by omega, by go_num, rfl, by simpa using n3, bb, hide (by rw [unhide HS2, ← unhide HBE])⟩
      case measure => simp [intOf]; omega
    · have u1 : ¬ (j : Int) < (Is.length : Int) := by omega
      have hjl : j = Is.length := by omega
      have HR : Hid (B = R) := hide (by rw [unhide HBE, hjl, unhide HEND])
      clear HX HST HV HBE
      go_wp2
      go_ret
      exact ⟨by rw [← unhide HR]; rfl, hbel⟩
set_option maxRecDepth 100000 in
theorem spec_any (a : Option Addr) (cap : Nat) (Is : List Pl.It) (w : World) (hl : Is.length ≤ 1048576) (hv : Mem.isItems w a Is) (hok : ∀ x ∈ Is, x.t.L.length ≤ 1048576 ∧ ∀ n ∈ x.t.L, n.path.size ≤ 1048576 ∧ n.data.size ≤ 1048576) :
    Calls Tryd.prog 5 #[.slice a Is.length cap] w fun e w' => e = .returned (.string (Pl.nestBytes (Is.map Pl.It.r))) ∧ Below w.heap.size w w' := by
  have hrl : (Pl.rowO (Is.map Pl.It.r)).length = Is.length := by rw [Pl.rowO_len, List.length_map]
  by_cases h400 : 400 < Is.length
  · have t0 : (400 : Int) < (Is.length : Int) := by omega
    have e0 : Pl.nestBytes (Is.map Pl.It.r) = ⟨#[]⟩ := by unfold Pl.nestBytes; rw [Pl.nest_long _ (by omega)]; rfl
    rw [e0]
    clear hv hok
    go_enter Tryd.func5, Tryd.ntmps5
    go_wp2
    go_ret
    exact ⟨rfl, Below.refl _ _⟩
  have t0 : ¬ (400 : Int) < (Is.length : Int) := by omega
  have hz := hide (WNestS.right_any a cap Is w hl hv hok)
  cases hN : Pl.nest (Pl.rowO (Is.map Pl.It.r)) with
  | none =>
    rw [hN] at hz
    have e0 : Pl.nestBytes (Is.map Pl.It.r) = ⟨#[]⟩ := by unfold Pl.nestBytes; rw [hN]; rfl
    rw [e0]
    clear hv hok hN hrl e0
    go_enter Tryd.func5, Tryd.ntmps5
    go_wp2_with fail
    refine (unhide hz).mono ?_
    rintro e w1 ⟨rfl, b1⟩
    clear hz
    go_wp2
    go_ret
    exact ⟨rfl, b1⟩
  | some k =>
    rw [hN] at hz
    have hd := hide (fun W (b : Below w.heap.size w W) => bytes_any a cap Is W k hN (Mem.items_call hv b))
    have e0 : Pl.nestBytes (Is.map Pl.It.r) = if 8000 < (Pl.bytesN (Is.map Pl.It.r)).size then ⟨#[]⟩ else Pl.bytesN (Is.map Pl.It.r) := by unfold Pl.nestBytes; rw [hN]; rfl
    have E := hide e0
    generalize Pl.nestBytes (Is.map Pl.It.r) = R at E ⊢
    generalize Pl.bytesN (Is.map Pl.It.r) = Y at E hd
    clear hv hok hN hrl e0
    go_enter Tryd.func5, Tryd.ntmps5
    go_wp2_with fail
    refine (unhide hz).mono ?_
    rintro e w1 ⟨rfl, b1⟩
    clear hz
    go_wp2_with fail
    refine (unhide hd _ b1).mono ?_
    rintro e w2 ⟨rfl, b2⟩
    have bb := b1.trans (b2.mono b1.size)
    clear hd b1 b2
    by_cases hy : 8000 < Y.size
    · have E2 : Hid (R = ⟨#[]⟩) := hide (by rw [unhide E, if_pos hy])
      clear E
      go_wp2
      go_ret
      exact ⟨ret_string (unhide E2).symm, bb⟩
    · have E2 : Hid (R = Y) := hide (by rw [unhide E, if_neg hy])
      clear E
      go_wp2
      go_ret
      exact ⟨ret_string (unhide E2).symm, bb⟩
end WNestB
end Go.Proofs.YtkfpfckmjgjanacDoor
