/- The walk of the law FnTreeBytes, over the walks of the functions and of the draws (by genFB.py). -/
import Derived.Test.YtkfpfckmjgjanaaDoorG47
import Derived.Test.YtkfpfckmjgjanaaDoorG48
import Derived.Test.YtkfpfckmjgjanaaDoorG18
import Derived.Test.YtkfpfckmjgjanaaDoorG28
import Derived.Test.YtkfpfckmjgjanaaDoorWReadJ
import Derived.Test.YtkfpfckmjgjanaaDoorG20
import Derived.Test.YtkfpfckmjgjanaaDoorWLwG
import Derived.Test.YtkfpfckmjgjanaaDoorG50
namespace Go.Proofs.YtkfpfckmjgjanaaDoor
open Go.RowKit
namespace Pl
theorem read_all {u : ByteArray} (h : (readO u).2 = 0) : treeB (readO u).1 = true ∧ treeBytes (readO u).1 = u := by
  unfold readO at h ⊢
  split at h
  · cases h
  rename_i h8
  rw [if_neg h8]
  cases hr : treeR u with
  | none => rw [hr] at h; cases h
  | some L =>
    simp only
    have hr0 := hr
    unfold treeR at hr0
    split at hr0
    · rename_i h1
      split at hr0
      · rename_i h2
        obtain rfl := Option.some.inj hr0
        exact ⟨h2.2.2, (read_same h1.1 h1.2.1 h2.1).1 h2.2⟩
      · cases hr0
    · cases hr0
theorem read_okL (u : ByteArray) : okL (readO u).1 := by
  by_cases h : (readO u).2 = 0
  · have ht := (read_all h).1
    simp only [treeB, Bool.and_eq_true, decide_eq_true_eq] at ht
    refine ⟨by omega, fun n hn => ?_⟩
    have hn2 := goI_all _ _ _ ht.2 n hn
    have h1 := pathB_le (node_right hn2).1
    have h2 := (node_bounds hn2).1
    omega
  · have : (readO u).1 = [] := by
      unfold readO at h ⊢
      split
      · rfl
      · rename_i h8
        rw [if_neg h8] at h
        cases hr : treeR u with
        | none => rfl
        | some L => rw [hr] at h; exact absurd rfl h
    rw [this]
    exact ⟨Nat.zero_le _, fun n hn => by cases hn⟩
theorem bytes_back {L : List Nd} (h : (treeBytes L).size ≠ 0) : readO (treeBytes L) = (L, 0) := by
  have h8 := bytes_size L
  unfold treeBytes at h
  split at h
  · rename_i h1
    split at h
    · exact absurd rfl h
    · rename_i h2
      have e : treeBytes L = bytesT L := by rw [treeBytes, if_pos h1, if_neg h2]
      rw [e] at h8 ⊢
      exact readO_some (by omega) (treeR_fwd h1 (by omega))
  · exact absurd rfl h
end Pl
namespace fnTreeBytes
/-- What stands while the law asks. -/
structure Gk (w W : World) (X5 X8 X9 X10 : Nat) (ta xa ca da : Option Addr) (tc xc cc dc : Nat) (L RL A B : List Pl.Nd) (RC : Int) : Prop where
  bel : Below w.heap.size w W
  b5 : Mem.Blk W X5 #[.slice ta L.length tc] 32
  b8 : Mem.Blk W X8 #[.slice xa RL.length xc, .int .i64 RC] 37
  b9 : Mem.Blk W X9 #[.slice ca A.length cc] 32
  b10 : Mem.Blk W X10 #[.slice da B.length dc] 32
  n5 : Mem.isNodes W ta L
  n8 : Mem.isNodes W xa RL
  n9 : Mem.isNodes W ca A
  n10 : Mem.isNodes W da B
section
variable {w W W' : World} {X5 X8 X9 X10 : Nat} {ta xa ca da : Option Addr} {tc xc cc dc : Nat} {L RL A B : List Pl.Nd} {RC : Int}
theorem Gk.call (h : Gk w W X5 X8 X9 X10 ta xa ca da tc xc cc dc L RL A B RC) (b : Below W.heap.size W W') : Gk w W' X5 X8 X9 X10 ta xa ca da tc xc cc dc L RL A B RC :=
  ⟨h.bel.trans (b.mono h.bel.size), h.b5.call b, h.b8.call b, h.b9.call b, h.b10.call b, Mem.nodes_call h.n5 b, Mem.nodes_call h.n8 b, Mem.nodes_call h.n9 b, Mem.nodes_call h.n10 b⟩
theorem Gk.drew (h : Gk w W X5 X8 X9 X10 ta xa ca da tc xc cc dc L RL A B RC) : Gk w W.drew X5 X8 X9 X10 ta xa ca da tc xc cc dc L RL A B RC := h.call ⟨rfl, rfl, rfl, Nat.le_refl _, fun _ _ => rfl⟩
end
theorem row_below {w w' : World} {a : Option Addr} {len cap : Nat} (h : WSrc.RowB w w.heap.size a len cap) (b : Below w.heap.size w w') : WSrc.RowB w' w'.heap.size a len cap := WSrc.row_upB h b b.size
set_option linter.unusedSimpArgs false in
set_option maxRecDepth 100000 in
set_option maxHeartbeats 4000000 in
theorem walk (a0 : Option Addr) (len0 cap0 : Nat) (a1 : Option Addr) (len1 cap1 : Nat) (w : World) (w0 : WSrc.RowB w w.heap.size a0 len0 cap0) (w1 : WSrc.RowB w w.heap.size a1 len1 cap1) (r1 r2 r3 : TypeId) (x1 x2 x3 : Value) (hE : WNodesI.Errs w r1 r2 r3 x1 x2 x3) :
    Calls Tryd.prog 4 #[.slice a0 len0 cap0, .slice a1 len1 cap1] w fun e w' => e = .returned (.bool true) ∧ Below w.heap.size w w' := by
  by_cases hL0 : (1048576 : Int) < (len0 : Int)
  · clear w0 w1 hE
    go_enter Tryd.func4, Tryd.ntmps4
    go_wp2
    go_ret
    exact ⟨rfl, Below.refl _ _⟩
  by_cases hL1 : (1048576 : Int) < (len1 : Int)
  · clear w0 w1 hE
    go_enter Tryd.func4, Tryd.ntmps4
    go_wp2
    go_ret
    exact ⟨rfl, Below.refl _ _⟩
  have hf1 : ∀ (a : Option Addr) (n c : Nat) (k : Int) (W : World), (Instr.field 37 (.agg #[.slice a n c, .int .i64 k]) 0).run Tryd.prog W = .ok (.agg #[.slice a n c]) W := fun _ _ _ _ _ => by kernel_rfl
  have HE := hide (fun W (b : Below w.heap.size w W) => hE.call b)
  have hd1 := hide (WSrc.drawBytes_any a0 len0 cap0 w w0)
  have hd2 := hide (fun W (b : Below w.heap.size w W) => WSrc.drawRead_any a1 len1 cap1 W (row_below w1 b))
  have hd3 := hide (fun W (b : Below w.heap.size w W) => WSrc.drawSame_any a1 len1 cap1 W (row_below w1 b))
  clear w0 w1 hE
  go_enter Tryd.func4, Tryd.ntmps4
  go_wp2_with fail
  refine (unhide hd1).mono ?_
  rintro e v1 ⟨ta, tc, L, hl, hsm, rfl, tv1, b1⟩
  have HOL := hide (Pl.small_ok hsm)
  have B5 := hide (Mem.Blk.new v1 #[.slice ta L.length tc] 32)
  have N5 := hide (tv1.alloc (.cells #[.slice ta L.length tc] 32)).1
  have b2 := b1.alloc b1.size (.cells #[.slice ta L.length tc] 32)
  have hby := hide (fun W (b : Below w.heap.size w W) (v : Mem.isNodes W ta L) => WBytesT.impl_any ta tc L W (by omega) v (unhide HOL) _ _ _ _ _ _ (unhide HE W b))
  have hsb := hide (fun W (v : Mem.isNodes W ta L) => WBytesT.spec_any ta tc L W (by omega) v (unhide HOL))
  have HBK := hide (Pl.bytes_back (L := L))
  have HBS := hide (Pl.bytes_size L)
  generalize Pl.treeBytes L = T at hby hsb HBK HBS
  have x5 := (unhide B5).cell 0
  simp only [kA0, kA1, kA2] at x5
  clear hd1 hsm tv1 b1
  go_wp2_with fail
  generalize v1.alloc (.cells #[.slice ta L.length tc] 32) = v2 at B5 N5 b2 x5 ⊢
  generalize v1.heap.size = X5 at B5 x5 ⊢
  refine (unhide hby _ b2 (unhide N5)).mono ?_
  rintro e v3 ⟨rfl, b3⟩
  have B5 := hide ((unhide B5).call b3)
  have N5 := hide (Mem.nodes_call (unhide N5) b3)
  have b4 := b2.trans (b3.mono b2.size)
  clear hby b3 b2 x5
  go_wp2_with fail
  refine (unhide hd2 _ b4).mono ?_
  rintro e v4 ⟨u, hu, rfl, b5⟩
  have B5 := hide ((unhide B5).call b5)
  have N5 := hide (Mem.nodes_call (unhide N5) b5)
  have b6 := b4.trans (b5.mono b4.size)
  have hri := hide (WReadJ.impl_any u v4 _ _ _ _ _ _ (unhide HE _ b6))
  have hrs := hide (fun W => WReadT.spec_any u W)
  have HRA := hide (Pl.read_all (u := u))
  have HRO := hide (Pl.read_okL u)
  generalize Pl.readO u = RO at hri hrs HRA HRO
  obtain ⟨RL, RC⟩ := RO
  simp only at hri hrs HRA HRO
  clear hd2 b5 b4
  go_wp2_with fail
  refine (unhide hri).mono ?_
  rintro e v5 ⟨vx, rfl, own5, b7⟩
  obtain ⟨xa, xc, hvx⟩ := Mem.own_shape own5
  subst hvx
  have B8 := hide (Mem.Blk.new v5 #[.slice xa RL.length xc, .int .i64 RC] 37)
  have B5 := hide (((unhide B5).call b7).alloc (.cells #[.slice xa RL.length xc, .int .i64 RC] 37))
  have N5 := hide (Mem.nodes_call (unhide N5) (b7.alloc b7.size (.cells #[.slice xa RL.length xc, .int .i64 RC] 37)))
  have N8 := hide ((WSrc.treeV_own own5).alloc (.cells #[.slice xa RL.length xc, .int .i64 RC] 37)).1
  have b8 := (b6.trans (b7.mono b6.size)).alloc (b6.trans (b7.mono b6.size)).size (.cells #[.slice xa RL.length xc, .int .i64 RC] 37)
  clear hri own5 b7 b6
  go_wp2_with fail
  generalize v5.alloc (.cells #[.slice xa RL.length xc, .int .i64 RC] 37) = v6 at B5 B8 N5 N8 b8 ⊢
  generalize v5.heap.size = X8 at B8 ⊢
  refine (unhide hd3 _ b8).mono ?_
  rintro e v7 ⟨ca, cc, A, da, dc, B, hA, hB, rfl, tvA, tvB, b9⟩
  have HOA := hide hA
  have HOB := hide hB
  have hAl := hA.1
  have hBl := hB.1
  have b9' := (b9.alloc b9.size (.cells #[.slice ca A.length cc] 32)).alloc (by have := b9.size; simp; omega) (.cells #[.slice da B.length dc] 32)
  have G : Hid (Gk w ((v7.alloc (.cells #[.slice ca A.length cc] 32)).alloc (.cells #[.slice da B.length dc] 32)) X5 X8 v7.heap.size (v7.heap.size + 1) ta xa ca da tc xc cc dc L RL A B RC) :=
    ⟨b8.trans (b9'.mono b8.size), (unhide B5).call b9', (unhide B8).call b9', (Mem.Blk.new _ _ _).alloc _, Mem.new_two _ _ _, Mem.nodes_call (unhide N5) b9', Mem.nodes_call (unhide N8) b9', ((tvA.alloc _).alloc _).1, ((tvB.alloc _).alloc _).1⟩
  have hsi := hide (fun W (b : Below w.heap.size w W) (v : Mem.isNodes W ca A) (v' : Mem.isNodes W da B) => WSameT.impl_any ca da cc dc A B W (by omega) (by omega) v v' (unhide HOA).2 (unhide HOB).2 _ _ _ _ _ _ (unhide HE W b))
  have hss := hide (fun W (v : Mem.isNodes W ca A) (v' : Mem.isNodes W da B) => WSameT.spec_any ca da cc dc A B W (by omega) (by omega) v v' (unhide HOA).2 (unhide HOB).2)
  have hra := hide (fun W (v : Mem.isNodes W ca A) => WTreeS.right_tree ca cc A W (by omega) v (unhide HOA).2)
  have hrb := hide (fun W (v : Mem.isNodes W da B) => WTreeS.right_tree da dc B W (by omega) v (unhide HOB).2)
  have hlw := hide (fun W (v : Mem.isNodes W ca A) (v' : Mem.isNodes W da B) => WLwG.lw_any ca da cc dc A B W (by omega) v v')
  have ES : WSameT.sameB A B = (Pl.treeB A && Pl.treeB B && Pl.eqL A B) := rfl
  rw [ES] at hsi hss
  generalize Pl.treeB A = TA at hsi hss hra
  generalize Pl.treeB B = TB at hsi hss hrb
  generalize Pl.eqL A B = EQ at hsi hss hlw
  generalize hSB : (TA && TB && EQ) = SB at hsi hss
  have HSB := hide hSB
  clear ES hSB hd3 b9 b9' b8 tvA tvB hA hB B5 B8 N5 N8
  have x9 := (unhide G).b9.cell 0
  have x10 := (unhide G).b10.cell 0
  simp only [kA0, kA1, kA2] at x9 x10
  go_wp2_with fail
  generalize (v7.alloc (.cells #[.slice ca A.length cc] 32)).alloc (.cells #[.slice da B.length dc] 32) = v8 at G x9 x10 ⊢
  generalize hX10 : v7.heap.size + 1 = X10 at G x10 ⊢
  generalize v7.heap.size = X9 at G x9 hX10 ⊢
  clear hX10
  refine (unhide hsi _ (unhide G).bel (unhide G).n9 (unhide G).n10).mono ?_
  rintro e v9 ⟨rfl, bA⟩
  have G := hide ((unhide G).call bA)
  clear hsi bA x9 x10
  have hRL := (unhide HRO).1
  have MK : Hid (∀ W', Gk w W' X5 X8 X9 X10 ta xa ca da tc xc cc dc L RL A B (RC) → (fun W' => Gk w W' X5 X8 X9 X10 ta xa ca da tc xc cc dc L RL A B (RC) ∧ W'.cell? ⟨X5, 0, none⟩ = some (.slice ta L.length tc) ∧ W'.cell? ⟨X8, 0, none⟩ = some (.slice xa RL.length xc) ∧ W'.cell? ⟨X8, 1, none⟩ = some (.int .i64 (RC)) ∧ W'.cell? ⟨X9, 0, none⟩ = some (.slice ca A.length cc) ∧ W'.cell? ⟨X10, 0, none⟩ = some (.slice da B.length dc)) W') := fun W' h => ⟨h, h.b5.cell 0, h.b8.cell 0, h.b8.cell 1, h.b9.cell 0, h.b10.cell 0⟩
  have HTR := hide (fun W (b : Below w.heap.size w W) => WReadJ.impl_any T W _ _ _ _ _ _ (unhide HE W b))
  have HBX := hide (fun W (b : Below w.heap.size w W) (v : Mem.isNodes W xa RL) => WBytesT.impl_any xa xc RL W (by omega) v (unhide HRO).2 _ _ _ _ _ _ (unhide HE W b))
  have HRR : Hid (RC = 0 → Pl.treeB RL = true) := fun h => (unhide HRA h).1
  go_wp2
  by_cases hT : T.size = 0
  · obtain rfl : T = ⟨#[]⟩ := Pl.by_inj (by rw [Pl.by_nil.2 hT]; rfl)
    clear hT HTR HBK
    by_cases hR : RC = 0
    · subst hR
      have eX := hide ((unhide HRA rfl).2)
      rw [unhide eX] at HBX
      clear MK
      have MK : Hid (∀ W', Gk w W' X5 X8 X9 X10 ta xa ca da tc xc cc dc L RL A B (0) → (fun W' => Gk w W' X5 X8 X9 X10 ta xa ca da tc xc cc dc L RL A B (0) ∧ W'.cell? ⟨X5, 0, none⟩ = some (.slice ta L.length tc) ∧ W'.cell? ⟨X8, 0, none⟩ = some (.slice xa RL.length xc) ∧ W'.cell? ⟨X8, 1, none⟩ = some (.int .i64 (0)) ∧ W'.cell? ⟨X9, 0, none⟩ = some (.slice ca A.length cc) ∧ W'.cell? ⟨X10, 0, none⟩ = some (.slice da B.length dc)) W') := fun W' h => ⟨h, h.b5.cell 0, h.b8.cell 0, h.b8.cell 1, h.b9.cell 0, h.b10.cell 0⟩
      refine wp_region_held_drew (S := fun W' => Gk w W' X5 X8 X9 X10 ta xa ca da tc xc cc dc L RL A B (0) ∧ W'.cell? ⟨X5, 0, none⟩ = some (.slice ta L.length tc) ∧ W'.cell? ⟨X8, 0, none⟩ = some (.slice xa RL.length xc) ∧ W'.cell? ⟨X8, 1, none⟩ = some (.int .i64 (0)) ∧ W'.cell? ⟨X9, 0, none⟩ = some (.slice ca A.length cc) ∧ W'.cell? ⟨X10, 0, none⟩ = some (.slice da B.length dc)) (by kernel_rfl) ?_ (fun hHeld => ?_)
      · exact unhide MK _ (unhide G).drew
      clear G
      refine wpAnyH_take (i := 0) (v := ?_) rfl (by kernel_rfl) (by kernel_rfl) (by kernel_rfl) (fun _ _ _ h => h) (Or.inl ⟨by rfl, ?_⟩) (by assumption) ?_
      rotate_left
      · (intro w hSw; (try dsimp only at hSw); go_simp; (try with_reducible rfl))
      try simp only [Act.put, kB0, kB1, kB2, kB3, kB4, kB5]
      refine wpAnyH_take (i := 1) (v := ?_) rfl (by kernel_rfl) (by kernel_rfl) (by kernel_rfl) (fun _ _ _ h => h) (Or.inl ⟨by rfl, ?_⟩) (by assumption) ?_
      rotate_left
      · (intro w hSw; (try dsimp only at hSw); go_simp; (try with_reducible rfl))
      try simp only [Act.put, kB0, kB1, kB2, kB3, kB4, kB5]
      refine wpAnyH_ready (rs := [2]) (by kernel_rfl) (by simp) ?_
      refine AllReadyH.cons rfl (fun K hK => ?_) AllReadyH.nil
      go_simp
      refine (unhide hsb _ hHeld.1.n5).mono ?_
      rintro e wX ⟨rfl, bX⟩
      refine hK.out _ _ ?_ (fun hHeld => ?_)
      · exact unhide MK _ (hHeld.1.call bX)
      clear hK K
      try simp only [Act.put, kB0, kB1, kB2, kB3, kB4, kB5]
      refine wpAnyH_take (i := 3) (v := ?_) rfl (by kernel_rfl) (by kernel_rfl) (by kernel_rfl) (fun _ _ _ h => h) (Or.inl ⟨by rfl, ?_⟩) (by assumption) ?_
      rotate_left
      · (intro w hSw; (try dsimp only at hSw); go_simp; (try with_reducible rfl))
      try simp only [Act.put, kB0, kB1, kB2, kB3, kB4, kB5]
      refine wpAnyH_take (i := 4) (v := ?_) rfl (by kernel_rfl) (by kernel_rfl) (by kernel_rfl) (fun _ _ _ h => h) (Or.inl ⟨by rfl, ?_⟩) (by assumption) ?_
      rotate_left
      · (intro w hSw; (try dsimp only at hSw); go_simp; (try with_reducible rfl))
      try simp only [Act.put, kB0, kB1, kB2, kB3, kB4, kB5]
      refine wpAnyH_take (i := 5) (v := ?_) rfl (by kernel_rfl) (by kernel_rfl) (by kernel_rfl) (fun _ _ _ h => h) (Or.inl ⟨by rfl, ?_⟩) (by assumption) ?_
      rotate_left
      · (intro w hSw; (try dsimp only at hSw); go_simp; (try with_reducible rfl))
      try simp only [Act.put, kB0, kB1, kB2, kB3, kB4, kB5]
      refine wpAnyH_take (i := 6) (v := ?_) rfl (by kernel_rfl) (by kernel_rfl) (by kernel_rfl) (fun _ _ _ h => h) (Or.inl ⟨by rfl, ?_⟩) (by assumption) ?_
      rotate_left
      · (intro w hSw; (try dsimp only at hSw); go_simp; (try with_reducible rfl))
      try simp only [Act.put, kB0, kB1, kB2, kB3, kB4, kB5]
      refine wpAnyH_take (i := 7) (v := ?_) rfl (by kernel_rfl) (by kernel_rfl) (by kernel_rfl) (fun _ _ _ h => h) (Or.inl ⟨by rfl, ?_⟩) (by assumption) ?_
      rotate_left
      · (intro w hSw; (try dsimp only at hSw); go_simp; (try with_reducible rfl))
      try simp only [Act.put, kB0, kB1, kB2, kB3, kB4, kB5]
      refine wpAnyH_take (i := 8) (v := undef) rfl (by kernel_rfl) (by kernel_rfl) (by kernel_rfl) (fun _ _ _ h => h) (Or.inr ⟨by rfl, rfl⟩) (by assumption) ?_
      try simp only [Act.put, kB0, kB1, kB2, kB3, kB4, kB5]
      refine wpAnyH_take (i := 9) (v := undef) rfl (by kernel_rfl) (by kernel_rfl) (by kernel_rfl) (fun _ _ _ h => h) (Or.inr ⟨by rfl, rfl⟩) (by assumption) ?_
      try simp only [Act.put, kB0, kB1, kB2, kB3, kB4, kB5]
      refine wpAnyH_take (i := 10) (v := undef) rfl (by kernel_rfl) (by kernel_rfl) (by kernel_rfl) (fun _ _ _ h => h) (Or.inr ⟨by rfl, rfl⟩) (by assumption) ?_
      try simp only [Act.put, kB0, kB1, kB2, kB3, kB4, kB5]
      refine wpAnyH_take (i := 11) (v := undef) rfl (by kernel_rfl) (by kernel_rfl) (by kernel_rfl) (fun _ _ _ h => h) (Or.inr ⟨by rfl, rfl⟩) (by assumption) ?_
      try simp only [Act.put, kB0, kB1, kB2, kB3, kB4, kB5]
      refine wpAnyH_take (i := 12) (v := undef) rfl (by kernel_rfl) (by kernel_rfl) (by kernel_rfl) (fun _ _ _ h => h) (Or.inr ⟨by rfl, rfl⟩) (by assumption) ?_
      try simp only [Act.put, kB0, kB1, kB2, kB3, kB4, kB5]
      refine wpAnyH_take (i := 13) (v := undef) rfl (by kernel_rfl) (by kernel_rfl) (by kernel_rfl) (fun _ _ _ h => h) (Or.inr ⟨by rfl, rfl⟩) (by assumption) ?_
      try simp only [Act.put, kB0, kB1, kB2, kB3, kB4, kB5]
      refine wpAnyH_take (i := 14) (v := ?_) rfl (by kernel_rfl) (by kernel_rfl) (by kernel_rfl) (fun _ _ _ h => h) (Or.inl ⟨by rfl, ?_⟩) (by assumption) ?_
      rotate_left
      · (intro w hSw; (try dsimp only at hSw); go_simp; (try with_reducible rfl))
      try simp only [Act.put, kB0, kB1, kB2, kB3, kB4, kB5]
      refine wpAnyH_take (i := 15) (v := ?_) rfl (by kernel_rfl) (by kernel_rfl) (by kernel_rfl) (fun _ _ _ h => h) (Or.inl ⟨by rfl, ?_⟩) (by assumption) ?_
      rotate_left
      · (intro w hSw; (try dsimp only at hSw); go_simp; (try with_reducible rfl))
      try simp only [Act.put, kB0, kB1, kB2, kB3, kB4, kB5]
      refine wpAnyH_take (i := 16) (v := ?_) rfl (by kernel_rfl) (by kernel_rfl) (by kernel_rfl) (fun _ _ _ h => h) (Or.inl ⟨by rfl, ?_⟩) (by assumption) ?_
      rotate_left
      · (intro w hSw; (try dsimp only at hSw); go_simp; (try with_reducible rfl))
      try simp only [Act.put, kB0, kB1, kB2, kB3, kB4, kB5]
      refine wpAnyH_take (i := 17) (v := ?_) rfl (by kernel_rfl) (by kernel_rfl) (by kernel_rfl) (fun _ _ _ h => h) (Or.inl ⟨by rfl, ?_⟩) (by assumption) ?_
      rotate_left
      · (intro w hSw; (try dsimp only at hSw); go_simp; (try with_reducible rfl))
      try simp only [Act.put, kB0, kB1, kB2, kB3, kB4, kB5]
      refine wpAnyH_take (i := 18) (v := ?_) rfl (by kernel_rfl) (by kernel_rfl) (by kernel_rfl) (fun _ _ _ h => h) (Or.inl ⟨by rfl, ?_⟩) (by assumption) ?_
      rotate_left
      · (intro w hSw; (try dsimp only at hSw); go_simp; (try with_reducible rfl))
      try simp only [Act.put, kB0, kB1, kB2, kB3, kB4, kB5]
      refine wpAnyH_ready (rs := [19]) (by kernel_rfl) (by simp) ?_
      refine AllReadyH.cons rfl (fun K hK => ?_) AllReadyH.nil
      go_simp
      refine (unhide hrs _).mono ?_
      rintro e wX ⟨vs, rfl, ownS, bX⟩
      obtain ⟨sa, sc, hvs⟩ := Mem.own_shape ownS
      subst hvs
      have NS := hide (Mem.ownN_nodes ownS).2
      clear ownS
      refine hK.out _ _ ?_ (fun hHeld => ?_)
      · exact unhide MK _ (hHeld.1.call bX)
      clear hK K
      try simp only [Act.put, kB0, kB1, kB2, kB3, kB4, kB5]
      refine wpAnyH_ready (rs := [20]) (by kernel_rfl) (by simp) ?_
      refine AllReadyH.cons rfl (fun K hK => ?_) AllReadyH.nil
      go_simp
      refine (WLw.trees_any xa sa xc sc (0) RL _ (by omega) hHeld.1.n8 (unhide NS) (unhide HRO).2 (unhide HRR)).mono ?_
      rintro e wX ⟨rfl, bX⟩
      refine hK.out _ _ ?_ (fun hHeld => ?_)
      · exact unhide MK _ (hHeld.1.call bX)
      clear hK K
      try simp only [Act.put, kB0, kB1, kB2, kB3, kB4, kB5]
      refine wpAnyH_take (i := 21) (v := ?_) rfl (by kernel_rfl) (by kernel_rfl) (by kernel_rfl) (fun _ _ _ h => h) (Or.inl ⟨by rfl, ?_⟩) (by assumption) ?_
      rotate_left
      · (intro w hSw; (try dsimp only at hSw); go_simp; (try with_reducible rfl))
      try simp only [Act.put, kB0, kB1, kB2, kB3, kB4, kB5]
      refine wpAnyH_take (i := 22) (v := ?_) rfl (by kernel_rfl) (by kernel_rfl) (by kernel_rfl) (fun _ _ _ h => h) (Or.inl ⟨by rfl, ?_⟩) (by assumption) ?_
      rotate_left
      · (intro w hSw; (try dsimp only at hSw); go_simp; (try with_reducible rfl))
      try simp only [Act.put, kB0, kB1, kB2, kB3, kB4, kB5]
      refine wpAnyH_take (i := 23) (v := ?_) rfl (by kernel_rfl) (by kernel_rfl) (by kernel_rfl) (fun _ _ _ h => h) (Or.inl ⟨by rfl, ?_⟩) (by assumption) ?_
      rotate_left
      · (intro w hSw; (try dsimp only at hSw); go_simp; (try with_reducible rfl))
      try simp only [Act.put, kB0, kB1, kB2, kB3, kB4, kB5]
      refine wpAnyH_take (i := 24) (v := ?_) rfl (by kernel_rfl) (by kernel_rfl) (by kernel_rfl) (fun _ _ _ h => h) (Or.inl ⟨by rfl, ?_⟩) (by assumption) ?_
      rotate_left
      · (intro w hSw; (try dsimp only at hSw); go_simp; (try with_reducible rfl))
      try simp only [Act.put, kB0, kB1, kB2, kB3, kB4, kB5]
      refine wpAnyH_take (i := 25) (v := ?_) rfl (by kernel_rfl) (by kernel_rfl) (by kernel_rfl) (fun _ _ _ h => h) (Or.inl ⟨by rfl, ?_⟩) (by assumption) ?_
      rotate_left
      · (intro w hSw; (try dsimp only at hSw); go_simp; (try with_reducible rfl))
      try simp only [Act.put, kB0, kB1, kB2, kB3, kB4, kB5]
      refine wpAnyH_take (i := 26) (v := ?_) rfl (by kernel_rfl) (by kernel_rfl) (by kernel_rfl) (fun _ _ _ h => h) (Or.inl ⟨by rfl, ?_⟩) (by assumption) ?_
      rotate_left
      · (intro w hSw; (try dsimp only at hSw); go_simp; (try with_reducible rfl))
      try simp only [Act.put, kB0, kB1, kB2, kB3, kB4, kB5]
      refine wpAnyH_take (i := 27) (v := ?_) rfl (by kernel_rfl) (by kernel_rfl) (by kernel_rfl) (fun _ _ _ h => h) (Or.inl ⟨by rfl, ?_⟩) (by assumption) ?_
      rotate_left
      · (intro w hSw; (try dsimp only at hSw); go_simp; (try with_reducible rfl))
      try simp only [Act.put, kB0, kB1, kB2, kB3, kB4, kB5]
      refine wpAnyH_take (i := 28) (v := ?_) rfl (by kernel_rfl) (by kernel_rfl) (by kernel_rfl) (fun _ _ _ h => h) (Or.inl ⟨by rfl, ?_⟩) (by assumption) ?_
      rotate_left
      · (intro w hSw; (try dsimp only at hSw); go_simp; (try with_reducible rfl))
      try simp only [Act.put, kB0, kB1, kB2, kB3, kB4, kB5]
      refine wpAnyH_take (i := 29) (v := ?_) rfl (by kernel_rfl) (by kernel_rfl) (by kernel_rfl) (fun _ _ _ h => h) (Or.inl ⟨by rfl, ?_⟩) (by assumption) ?_
      rotate_left
      · (intro w hSw; (try dsimp only at hSw); go_simp; (try with_reducible rfl))
      try simp only [Act.put, kB0, kB1, kB2, kB3, kB4, kB5]
      refine wpAnyH_take (i := 31) (v := ?_) rfl (by kernel_rfl) (by kernel_rfl) (by kernel_rfl) (fun _ _ _ h => h) (Or.inl ⟨by rfl, ?_⟩) (by assumption) ?_
      rotate_left
      · (intro w hSw; (try dsimp only at hSw); go_simp; (try with_reducible rfl))
      try simp only [Act.put, kB0, kB1, kB2, kB3, kB4, kB5]
      refine wpAnyH_ready (rs := [30]) (by kernel_rfl) (by simp) ?_
      refine AllReadyH.cons rfl (fun K hK => ?_) AllReadyH.nil
      go_simp
      refine (unhide HBX _ hHeld.1.bel hHeld.1.n8).mono ?_
      rintro e wX ⟨rfl, bX⟩
      refine hK.out _ _ ?_ (fun hHeld => ?_)
      · exact unhide MK _ (hHeld.1.call bX)
      clear hK K
      try simp only [Act.put, kB0, kB1, kB2, kB3, kB4, kB5]
      refine wpAnyH_take (i := 32) (v := ?_) rfl (by kernel_rfl) (by kernel_rfl) (by kernel_rfl) (fun _ _ _ h => h) (Or.inl ⟨by rfl, ?_⟩) (by assumption) ?_
      rotate_left
      · (intro w hSw; (try dsimp only at hSw); go_simp; (try with_reducible rfl))
      try simp only [Act.put, kB0, kB1, kB2, kB3, kB4, kB5]
      refine wpAnyH_take (i := 33) (v := ?_) rfl (by kernel_rfl) (by kernel_rfl) (by kernel_rfl) (fun _ _ _ h => h) (Or.inl ⟨by rfl, ?_⟩) (by assumption) ?_
      rotate_left
      · (intro w hSw; (try dsimp only at hSw); go_simp; (try with_reducible rfl))
      try simp only [Act.put, kB0, kB1, kB2, kB3, kB4, kB5]
      refine wpAnyH_take (i := 34) (v := ?_) rfl (by kernel_rfl) (by kernel_rfl) (by kernel_rfl) (fun _ _ _ h => h) (Or.inl ⟨by rfl, ?_⟩) (by assumption) ?_
      rotate_left
      · (intro w hSw; (try dsimp only at hSw); go_simp; (try with_reducible rfl))
      try simp only [Act.put, kB0, kB1, kB2, kB3, kB4, kB5]
      refine wpAnyH_done (by kernel_rfl) ?_ _
      have G := hide hHeld.1
      clear hHeld
      clear hsb hrs HBX
      cases TA
      · have eS : SB = false := (unhide HSB).symm
        subst eS
        have c9 := (unhide G).b9.cell 0
        have c10 := (unhide G).b10.cell 0
        simp only [kA0, kA1, kA2] at c9 c10
        go_wp2_with fail
        refine (unhide hss _ (unhide G).n9 (unhide G).n10).mono ?_
        rintro e vB ⟨rfl, bB⟩
        have G := hide ((unhide G).call bB)
        clear bB c9 c10
        have c9 := (unhide G).b9.cell 0
        have c10 := (unhide G).b10.cell 0
        simp only [kA0, kA1, kA2] at c9 c10
        go_wp2_with fail
        refine (unhide hra _ (unhide G).n9).mono ?_
        rintro e vB ⟨rfl, bB⟩
        have G := hide ((unhide G).call bB)
        clear bB c9 c10
        go_wp2
        go_ret
        exact ⟨rfl, (unhide G).bel⟩
      · cases TB
        · have eS : SB = false := (unhide HSB).symm
          subst eS
          have c9 := (unhide G).b9.cell 0
          have c10 := (unhide G).b10.cell 0
          simp only [kA0, kA1, kA2] at c9 c10
          go_wp2_with fail
          refine (unhide hss _ (unhide G).n9 (unhide G).n10).mono ?_
          rintro e vB ⟨rfl, bB⟩
          have G := hide ((unhide G).call bB)
          clear bB c9 c10
          have c9 := (unhide G).b9.cell 0
          have c10 := (unhide G).b10.cell 0
          simp only [kA0, kA1, kA2] at c9 c10
          go_wp2_with fail
          refine (unhide hra _ (unhide G).n9).mono ?_
          rintro e vB ⟨rfl, bB⟩
          have G := hide ((unhide G).call bB)
          clear bB c9 c10
          have c9 := (unhide G).b9.cell 0
          have c10 := (unhide G).b10.cell 0
          simp only [kA0, kA1, kA2] at c9 c10
          go_wp2_with fail
          refine (unhide hrb _ (unhide G).n10).mono ?_
          rintro e vB ⟨rfl, bB⟩
          have G := hide ((unhide G).call bB)
          clear bB c9 c10
          go_wp2
          go_ret
          exact ⟨rfl, (unhide G).bel⟩
        · have eS : SB = EQ := (unhide HSB).symm
          subst eS
          have c9 := (unhide G).b9.cell 0
          have c10 := (unhide G).b10.cell 0
          simp only [kA0, kA1, kA2] at c9 c10
          go_wp2_with fail
          refine (unhide hss _ (unhide G).n9 (unhide G).n10).mono ?_
          rintro e vB ⟨rfl, bB⟩
          have G := hide ((unhide G).call bB)
          clear bB c9 c10
          have c9 := (unhide G).b9.cell 0
          have c10 := (unhide G).b10.cell 0
          simp only [kA0, kA1, kA2] at c9 c10
          go_wp2_with fail
          refine (unhide hra _ (unhide G).n9).mono ?_
          rintro e vB ⟨rfl, bB⟩
          have G := hide ((unhide G).call bB)
          clear bB c9 c10
          have c9 := (unhide G).b9.cell 0
          have c10 := (unhide G).b10.cell 0
          simp only [kA0, kA1, kA2] at c9 c10
          go_wp2_with fail
          refine (unhide hrb _ (unhide G).n10).mono ?_
          rintro e vB ⟨rfl, bB⟩
          have G := hide ((unhide G).call bB)
          clear bB c9 c10
          have c9 := (unhide G).b9.cell 0
          have c10 := (unhide G).b10.cell 0
          simp only [kA0, kA1, kA2] at c9 c10
          go_wp2_with fail
          refine (unhide hlw _ (unhide G).n9 (unhide G).n10).mono ?_
          rintro e vB ⟨rfl, bB⟩
          have G := hide ((unhide G).call bB)
          clear bB c9 c10
          go_wp2
          go_ret
          exact ⟨rfl, (unhide G).bel⟩
    · have hRb : (RC == 0) = false := by simpa using hR
      clear hR
      clear MK
      have MK : Hid (∀ W', Gk w W' X5 X8 X9 X10 ta xa ca da tc xc cc dc L RL A B (RC) → (fun W' => Gk w W' X5 X8 X9 X10 ta xa ca da tc xc cc dc L RL A B (RC) ∧ W'.cell? ⟨X5, 0, none⟩ = some (.slice ta L.length tc) ∧ W'.cell? ⟨X8, 0, none⟩ = some (.slice xa RL.length xc) ∧ W'.cell? ⟨X8, 1, none⟩ = some (.int .i64 (RC)) ∧ W'.cell? ⟨X9, 0, none⟩ = some (.slice ca A.length cc) ∧ W'.cell? ⟨X10, 0, none⟩ = some (.slice da B.length dc)) W') := fun W' h => ⟨h, h.b5.cell 0, h.b8.cell 0, h.b8.cell 1, h.b9.cell 0, h.b10.cell 0⟩
      refine wp_region_held_drew (S := fun W' => Gk w W' X5 X8 X9 X10 ta xa ca da tc xc cc dc L RL A B (RC) ∧ W'.cell? ⟨X5, 0, none⟩ = some (.slice ta L.length tc) ∧ W'.cell? ⟨X8, 0, none⟩ = some (.slice xa RL.length xc) ∧ W'.cell? ⟨X8, 1, none⟩ = some (.int .i64 (RC)) ∧ W'.cell? ⟨X9, 0, none⟩ = some (.slice ca A.length cc) ∧ W'.cell? ⟨X10, 0, none⟩ = some (.slice da B.length dc)) (by kernel_rfl) ?_ (fun hHeld => ?_)
      · exact unhide MK _ (unhide G).drew
      clear G
      refine wpAnyH_take (i := 0) (v := ?_) rfl (by kernel_rfl) (by kernel_rfl) (by kernel_rfl) (fun _ _ _ h => h) (Or.inl ⟨by rfl, ?_⟩) (by assumption) ?_
      rotate_left
      · (intro w hSw; (try dsimp only at hSw); go_simp; (try with_reducible rfl))
      try simp only [Act.put, kB0, kB1, kB2, kB3, kB4, kB5]
      refine wpAnyH_take (i := 1) (v := ?_) rfl (by kernel_rfl) (by kernel_rfl) (by kernel_rfl) (fun _ _ _ h => h) (Or.inl ⟨by rfl, ?_⟩) (by assumption) ?_
      rotate_left
      · (intro w hSw; (try dsimp only at hSw); go_simp; (try with_reducible rfl))
      try simp only [Act.put, kB0, kB1, kB2, kB3, kB4, kB5]
      refine wpAnyH_ready (rs := [2]) (by kernel_rfl) (by simp) ?_
      refine AllReadyH.cons rfl (fun K hK => ?_) AllReadyH.nil
      go_simp
      refine (unhide hsb _ hHeld.1.n5).mono ?_
      rintro e wX ⟨rfl, bX⟩
      refine hK.out _ _ ?_ (fun hHeld => ?_)
      · exact unhide MK _ (hHeld.1.call bX)
      clear hK K
      try simp only [Act.put, kB0, kB1, kB2, kB3, kB4, kB5]
      refine wpAnyH_take (i := 3) (v := ?_) rfl (by kernel_rfl) (by kernel_rfl) (by kernel_rfl) (fun _ _ _ h => h) (Or.inl ⟨by rfl, ?_⟩) (by assumption) ?_
      rotate_left
      · (intro w hSw; (try dsimp only at hSw); go_simp; (try with_reducible rfl))
      try simp only [Act.put, kB0, kB1, kB2, kB3, kB4, kB5]
      refine wpAnyH_take (i := 4) (v := ?_) rfl (by kernel_rfl) (by kernel_rfl) (by kernel_rfl) (fun _ _ _ h => h) (Or.inl ⟨by rfl, ?_⟩) (by assumption) ?_
      rotate_left
      · (intro w hSw; (try dsimp only at hSw); go_simp; (try with_reducible rfl))
      try simp only [Act.put, kB0, kB1, kB2, kB3, kB4, kB5]
      refine wpAnyH_take (i := 5) (v := ?_) rfl (by kernel_rfl) (by kernel_rfl) (by kernel_rfl) (fun _ _ _ h => h) (Or.inl ⟨by rfl, ?_⟩) (by assumption) ?_
      rotate_left
      · (intro w hSw; (try dsimp only at hSw); go_simp; (try with_reducible rfl))
      try simp only [Act.put, kB0, kB1, kB2, kB3, kB4, kB5]
      refine wpAnyH_take (i := 6) (v := ?_) rfl (by kernel_rfl) (by kernel_rfl) (by kernel_rfl) (fun _ _ _ h => h) (Or.inl ⟨by rfl, ?_⟩) (by assumption) ?_
      rotate_left
      · (intro w hSw; (try dsimp only at hSw); go_simp; (try with_reducible rfl))
      try simp only [Act.put, kB0, kB1, kB2, kB3, kB4, kB5]
      refine wpAnyH_take (i := 7) (v := ?_) rfl (by kernel_rfl) (by kernel_rfl) (by kernel_rfl) (fun _ _ _ h => h) (Or.inl ⟨by rfl, ?_⟩) (by assumption) ?_
      rotate_left
      · (intro w hSw; (try dsimp only at hSw); go_simp; (try with_reducible rfl))
      try simp only [Act.put, kB0, kB1, kB2, kB3, kB4, kB5]
      refine wpAnyH_take (i := 8) (v := undef) rfl (by kernel_rfl) (by kernel_rfl) (by kernel_rfl) (fun _ _ _ h => h) (Or.inr ⟨by rfl, rfl⟩) (by assumption) ?_
      try simp only [Act.put, kB0, kB1, kB2, kB3, kB4, kB5]
      refine wpAnyH_take (i := 9) (v := undef) rfl (by kernel_rfl) (by kernel_rfl) (by kernel_rfl) (fun _ _ _ h => h) (Or.inr ⟨by rfl, rfl⟩) (by assumption) ?_
      try simp only [Act.put, kB0, kB1, kB2, kB3, kB4, kB5]
      refine wpAnyH_take (i := 10) (v := undef) rfl (by kernel_rfl) (by kernel_rfl) (by kernel_rfl) (fun _ _ _ h => h) (Or.inr ⟨by rfl, rfl⟩) (by assumption) ?_
      try simp only [Act.put, kB0, kB1, kB2, kB3, kB4, kB5]
      refine wpAnyH_take (i := 11) (v := undef) rfl (by kernel_rfl) (by kernel_rfl) (by kernel_rfl) (fun _ _ _ h => h) (Or.inr ⟨by rfl, rfl⟩) (by assumption) ?_
      try simp only [Act.put, kB0, kB1, kB2, kB3, kB4, kB5]
      refine wpAnyH_take (i := 12) (v := undef) rfl (by kernel_rfl) (by kernel_rfl) (by kernel_rfl) (fun _ _ _ h => h) (Or.inr ⟨by rfl, rfl⟩) (by assumption) ?_
      try simp only [Act.put, kB0, kB1, kB2, kB3, kB4, kB5]
      refine wpAnyH_take (i := 13) (v := undef) rfl (by kernel_rfl) (by kernel_rfl) (by kernel_rfl) (fun _ _ _ h => h) (Or.inr ⟨by rfl, rfl⟩) (by assumption) ?_
      try simp only [Act.put, kB0, kB1, kB2, kB3, kB4, kB5]
      refine wpAnyH_take (i := 14) (v := ?_) rfl (by kernel_rfl) (by kernel_rfl) (by kernel_rfl) (fun _ _ _ h => h) (Or.inl ⟨by rfl, ?_⟩) (by assumption) ?_
      rotate_left
      · (intro w hSw; (try dsimp only at hSw); go_simp; (try with_reducible rfl))
      try simp only [Act.put, kB0, kB1, kB2, kB3, kB4, kB5]
      refine wpAnyH_take (i := 15) (v := ?_) rfl (by kernel_rfl) (by kernel_rfl) (by kernel_rfl) (fun _ _ _ h => h) (Or.inl ⟨by rfl, ?_⟩) (by assumption) ?_
      rotate_left
      · (intro w hSw; (try dsimp only at hSw); go_simp; (try with_reducible rfl))
      try simp only [Act.put, kB0, kB1, kB2, kB3, kB4, kB5]
      refine wpAnyH_take (i := 16) (v := ?_) rfl (by kernel_rfl) (by kernel_rfl) (by kernel_rfl) (fun _ _ _ h => h) (Or.inl ⟨by rfl, ?_⟩) (by assumption) ?_
      rotate_left
      · (intro w hSw; (try dsimp only at hSw); go_simp; (try with_reducible rfl))
      try simp only [Act.put, kB0, kB1, kB2, kB3, kB4, kB5]
      refine wpAnyH_take (i := 17) (v := ?_) rfl (by kernel_rfl) (by kernel_rfl) (by kernel_rfl) (fun _ _ _ h => h) (Or.inl ⟨by rfl, ?_⟩) (by assumption) ?_
      rotate_left
      · (intro w hSw; (try dsimp only at hSw); go_simp; (try with_reducible rfl))
      try simp only [Act.put, kB0, kB1, kB2, kB3, kB4, kB5]
      refine wpAnyH_take (i := 18) (v := ?_) rfl (by kernel_rfl) (by kernel_rfl) (by kernel_rfl) (fun _ _ _ h => h) (Or.inl ⟨by rfl, ?_⟩) (by assumption) ?_
      rotate_left
      · (intro w hSw; (try dsimp only at hSw); go_simp; (try with_reducible rfl))
      try simp only [Act.put, kB0, kB1, kB2, kB3, kB4, kB5]
      refine wpAnyH_ready (rs := [19]) (by kernel_rfl) (by simp) ?_
      refine AllReadyH.cons rfl (fun K hK => ?_) AllReadyH.nil
      go_simp
      refine (unhide hrs _).mono ?_
      rintro e wX ⟨vs, rfl, ownS, bX⟩
      obtain ⟨sa, sc, hvs⟩ := Mem.own_shape ownS
      subst hvs
      have NS := hide (Mem.ownN_nodes ownS).2
      clear ownS
      refine hK.out _ _ ?_ (fun hHeld => ?_)
      · exact unhide MK _ (hHeld.1.call bX)
      clear hK K
      try simp only [Act.put, kB0, kB1, kB2, kB3, kB4, kB5]
      refine wpAnyH_ready (rs := [20]) (by kernel_rfl) (by simp) ?_
      refine AllReadyH.cons rfl (fun K hK => ?_) AllReadyH.nil
      go_simp
      refine (WLw.trees_any xa sa xc sc (RC) RL _ (by omega) hHeld.1.n8 (unhide NS) (unhide HRO).2 (unhide HRR)).mono ?_
      rintro e wX ⟨rfl, bX⟩
      refine hK.out _ _ ?_ (fun hHeld => ?_)
      · exact unhide MK _ (hHeld.1.call bX)
      clear hK K
      try simp only [Act.put, kB0, kB1, kB2, kB3, kB4, kB5]
      refine wpAnyH_take (i := 21) (v := ?_) rfl (by kernel_rfl) (by kernel_rfl) (by kernel_rfl) (fun _ _ _ h => h) (Or.inl ⟨by rfl, ?_⟩) (by assumption) ?_
      rotate_left
      · (intro w hSw; (try dsimp only at hSw); go_simp; (try with_reducible rfl))
      try simp only [Act.put, kB0, kB1, kB2, kB3, kB4, kB5]
      refine wpAnyH_take (i := 22) (v := ?_) rfl (by kernel_rfl) (by kernel_rfl) (by kernel_rfl) (fun _ _ _ h => h) (Or.inl ⟨by rfl, ?_⟩) (by assumption) ?_
      rotate_left
      · (intro w hSw; (try dsimp only at hSw); go_simp; (try with_reducible rfl))
      try simp only [Act.put, kB0, kB1, kB2, kB3, kB4, kB5]
      refine wpAnyH_take (i := 23) (v := ?_) rfl (by kernel_rfl) (by kernel_rfl) (by kernel_rfl) (fun _ _ _ h => h) (Or.inl ⟨by rfl, ?_⟩) (by assumption) ?_
      rotate_left
      · (intro w hSw; (try dsimp only at hSw); go_simp; (try with_reducible rfl))
      try simp only [Act.put, kB0, kB1, kB2, kB3, kB4, kB5]
      refine wpAnyH_take (i := 24) (v := ?_) rfl (by kernel_rfl) (by kernel_rfl) (by kernel_rfl) (fun _ _ _ h => h) (Or.inl ⟨by rfl, ?_⟩) (by assumption) ?_
      rotate_left
      · (intro w hSw; (try dsimp only at hSw); go_simp; (try with_reducible rfl))
      try simp only [Act.put, kB0, kB1, kB2, kB3, kB4, kB5]
      refine wpAnyH_take (i := 25) (v := ?_) rfl (by kernel_rfl) (by kernel_rfl) (by kernel_rfl) (fun _ _ _ h => h) (Or.inl ⟨by rfl, ?_⟩) (by assumption) ?_
      rotate_left
      · (intro w hSw; (try dsimp only at hSw); go_simp; (try with_reducible rfl))
      try simp only [Act.put, kB0, kB1, kB2, kB3, kB4, kB5]
      refine wpAnyH_take (i := 26) (v := ?_) rfl (by kernel_rfl) (by kernel_rfl) (by kernel_rfl) (fun _ _ _ h => h) (Or.inl ⟨by rfl, ?_⟩) (by assumption) ?_
      rotate_left
      · (intro w hSw; (try dsimp only at hSw); go_simp; (try with_reducible rfl))
      try simp only [Act.put, kB0, kB1, kB2, kB3, kB4, kB5]
      refine wpAnyH_take (i := 27) (v := ?_) rfl (by kernel_rfl) (by kernel_rfl) (by kernel_rfl) (fun _ _ _ h => h) (Or.inl ⟨by rfl, ?_⟩) (by assumption) ?_
      rotate_left
      · (intro w hSw; (try dsimp only at hSw); go_simp; (try with_reducible rfl))
      try simp only [Act.put, kB0, kB1, kB2, kB3, kB4, kB5]
      refine wpAnyH_take (i := 28) (v := undef) rfl (by kernel_rfl) (by kernel_rfl) (by kernel_rfl) (fun _ _ _ h => h) (Or.inr ⟨by rfl, rfl⟩) (by assumption) ?_
      try simp only [Act.put, kB0, kB1, kB2, kB3, kB4, kB5]
      refine wpAnyH_take (i := 29) (v := undef) rfl (by kernel_rfl) (by kernel_rfl) (by kernel_rfl) (fun _ _ _ h => h) (Or.inr ⟨by rfl, rfl⟩) (by assumption) ?_
      try simp only [Act.put, kB0, kB1, kB2, kB3, kB4, kB5]
      refine wpAnyH_take (i := 30) (v := undef) rfl (by kernel_rfl) (by kernel_rfl) (by kernel_rfl) (fun _ _ _ h => h) (Or.inr ⟨by rfl, rfl⟩) (by assumption) ?_
      try simp only [Act.put, kB0, kB1, kB2, kB3, kB4, kB5]
      refine wpAnyH_take (i := 31) (v := undef) rfl (by kernel_rfl) (by kernel_rfl) (by kernel_rfl) (fun _ _ _ h => h) (Or.inr ⟨by rfl, rfl⟩) (by assumption) ?_
      try simp only [Act.put, kB0, kB1, kB2, kB3, kB4, kB5]
      refine wpAnyH_take (i := 32) (v := undef) rfl (by kernel_rfl) (by kernel_rfl) (by kernel_rfl) (fun _ _ _ h => h) (Or.inr ⟨by rfl, rfl⟩) (by assumption) ?_
      try simp only [Act.put, kB0, kB1, kB2, kB3, kB4, kB5]
      refine wpAnyH_take (i := 33) (v := ?_) rfl (by kernel_rfl) (by kernel_rfl) (by kernel_rfl) (fun _ _ _ h => h) (Or.inl ⟨by rfl, ?_⟩) (by assumption) ?_
      rotate_left
      · (intro w hSw; (try dsimp only at hSw); go_simp; (try with_reducible rfl))
      try simp only [Act.put, kB0, kB1, kB2, kB3, kB4, kB5]
      refine wpAnyH_take (i := 34) (v := ?_) rfl (by kernel_rfl) (by kernel_rfl) (by kernel_rfl) (fun _ _ _ h => h) (Or.inl ⟨by rfl, ?_⟩) (by assumption) ?_
      rotate_left
      · (intro w hSw; (try dsimp only at hSw); go_simp; (try with_reducible rfl))
      try simp only [Act.put, kB0, kB1, kB2, kB3, kB4, kB5]
      refine wpAnyH_done (by kernel_rfl) ?_ _
      have G := hide hHeld.1
      clear hHeld
      clear hsb hrs HBX
      cases TA
      · have eS : SB = false := (unhide HSB).symm
        subst eS
        have c9 := (unhide G).b9.cell 0
        have c10 := (unhide G).b10.cell 0
        simp only [kA0, kA1, kA2] at c9 c10
        go_wp2_with fail
        refine (unhide hss _ (unhide G).n9 (unhide G).n10).mono ?_
        rintro e vB ⟨rfl, bB⟩
        have G := hide ((unhide G).call bB)
        clear bB c9 c10
        have c9 := (unhide G).b9.cell 0
        have c10 := (unhide G).b10.cell 0
        simp only [kA0, kA1, kA2] at c9 c10
        go_wp2_with fail
        refine (unhide hra _ (unhide G).n9).mono ?_
        rintro e vB ⟨rfl, bB⟩
        have G := hide ((unhide G).call bB)
        clear bB c9 c10
        go_wp2
        go_ret
        exact ⟨rfl, (unhide G).bel⟩
      · cases TB
        · have eS : SB = false := (unhide HSB).symm
          subst eS
          have c9 := (unhide G).b9.cell 0
          have c10 := (unhide G).b10.cell 0
          simp only [kA0, kA1, kA2] at c9 c10
          go_wp2_with fail
          refine (unhide hss _ (unhide G).n9 (unhide G).n10).mono ?_
          rintro e vB ⟨rfl, bB⟩
          have G := hide ((unhide G).call bB)
          clear bB c9 c10
          have c9 := (unhide G).b9.cell 0
          have c10 := (unhide G).b10.cell 0
          simp only [kA0, kA1, kA2] at c9 c10
          go_wp2_with fail
          refine (unhide hra _ (unhide G).n9).mono ?_
          rintro e vB ⟨rfl, bB⟩
          have G := hide ((unhide G).call bB)
          clear bB c9 c10
          have c9 := (unhide G).b9.cell 0
          have c10 := (unhide G).b10.cell 0
          simp only [kA0, kA1, kA2] at c9 c10
          go_wp2_with fail
          refine (unhide hrb _ (unhide G).n10).mono ?_
          rintro e vB ⟨rfl, bB⟩
          have G := hide ((unhide G).call bB)
          clear bB c9 c10
          go_wp2
          go_ret
          exact ⟨rfl, (unhide G).bel⟩
        · have eS : SB = EQ := (unhide HSB).symm
          subst eS
          have c9 := (unhide G).b9.cell 0
          have c10 := (unhide G).b10.cell 0
          simp only [kA0, kA1, kA2] at c9 c10
          go_wp2_with fail
          refine (unhide hss _ (unhide G).n9 (unhide G).n10).mono ?_
          rintro e vB ⟨rfl, bB⟩
          have G := hide ((unhide G).call bB)
          clear bB c9 c10
          have c9 := (unhide G).b9.cell 0
          have c10 := (unhide G).b10.cell 0
          simp only [kA0, kA1, kA2] at c9 c10
          go_wp2_with fail
          refine (unhide hra _ (unhide G).n9).mono ?_
          rintro e vB ⟨rfl, bB⟩
          have G := hide ((unhide G).call bB)
          clear bB c9 c10
          have c9 := (unhide G).b9.cell 0
          have c10 := (unhide G).b10.cell 0
          simp only [kA0, kA1, kA2] at c9 c10
          go_wp2_with fail
          refine (unhide hrb _ (unhide G).n10).mono ?_
          rintro e vB ⟨rfl, bB⟩
          have G := hide ((unhide G).call bB)
          clear bB c9 c10
          have c9 := (unhide G).b9.cell 0
          have c10 := (unhide G).b10.cell 0
          simp only [kA0, kA1, kA2] at c9 c10
          go_wp2_with fail
          refine (unhide hlw _ (unhide G).n9 (unhide G).n10).mono ?_
          rintro e vB ⟨rfl, bB⟩
          have G := hide ((unhide G).call bB)
          clear bB c9 c10
          go_wp2
          go_ret
          exact ⟨rfl, (unhide G).bel⟩
  · have hTe : T.toList.isEmpty = false := by rw [Pl.empty_list]; exact decide_eq_false (fun h => by rw [Pl.by_nil] at h; omega)
    have eB := hide (unhide HBK hT)
    rw [unhide eB] at HTR
    simp only at HTR
    clear HBK
    by_cases hR : RC = 0
    · subst hR
      have eX := hide ((unhide HRA rfl).2)
      rw [unhide eX] at HBX
      clear MK
      have MK : Hid (∀ W', Gk w W' X5 X8 X9 X10 ta xa ca da tc xc cc dc L RL A B (0) → (fun W' => Gk w W' X5 X8 X9 X10 ta xa ca da tc xc cc dc L RL A B (0) ∧ W'.cell? ⟨X5, 0, none⟩ = some (.slice ta L.length tc) ∧ W'.cell? ⟨X8, 0, none⟩ = some (.slice xa RL.length xc) ∧ W'.cell? ⟨X8, 1, none⟩ = some (.int .i64 (0)) ∧ W'.cell? ⟨X9, 0, none⟩ = some (.slice ca A.length cc) ∧ W'.cell? ⟨X10, 0, none⟩ = some (.slice da B.length dc)) W') := fun W' h => ⟨h, h.b5.cell 0, h.b8.cell 0, h.b8.cell 1, h.b9.cell 0, h.b10.cell 0⟩
      refine wp_region_held_drew (S := fun W' => Gk w W' X5 X8 X9 X10 ta xa ca da tc xc cc dc L RL A B (0) ∧ W'.cell? ⟨X5, 0, none⟩ = some (.slice ta L.length tc) ∧ W'.cell? ⟨X8, 0, none⟩ = some (.slice xa RL.length xc) ∧ W'.cell? ⟨X8, 1, none⟩ = some (.int .i64 (0)) ∧ W'.cell? ⟨X9, 0, none⟩ = some (.slice ca A.length cc) ∧ W'.cell? ⟨X10, 0, none⟩ = some (.slice da B.length dc)) (by kernel_rfl) ?_ (fun hHeld => ?_)
      · exact unhide MK _ (unhide G).drew
      clear G
      refine wpAnyH_take (i := 0) (v := ?_) rfl (by kernel_rfl) (by kernel_rfl) (by kernel_rfl) (fun _ _ _ h => h) (Or.inl ⟨by rfl, ?_⟩) (by assumption) ?_
      rotate_left
      · (intro w hSw; (try dsimp only at hSw); go_simp; (try with_reducible rfl))
      try simp only [Act.put, kB0, kB1, kB2, kB3, kB4, kB5]
      refine wpAnyH_take (i := 1) (v := ?_) rfl (by kernel_rfl) (by kernel_rfl) (by kernel_rfl) (fun _ _ _ h => h) (Or.inl ⟨by rfl, ?_⟩) (by assumption) ?_
      rotate_left
      · (intro w hSw; (try dsimp only at hSw); go_simp; (try with_reducible rfl))
      try simp only [Act.put, kB0, kB1, kB2, kB3, kB4, kB5]
      refine wpAnyH_ready (rs := [2]) (by kernel_rfl) (by simp) ?_
      refine AllReadyH.cons rfl (fun K hK => ?_) AllReadyH.nil
      go_simp
      refine (unhide hsb _ hHeld.1.n5).mono ?_
      rintro e wX ⟨rfl, bX⟩
      refine hK.out _ _ ?_ (fun hHeld => ?_)
      · exact unhide MK _ (hHeld.1.call bX)
      clear hK K
      try simp only [Act.put, kB0, kB1, kB2, kB3, kB4, kB5]
      refine wpAnyH_take (i := 3) (v := ?_) rfl (by kernel_rfl) (by kernel_rfl) (by kernel_rfl) (fun _ _ _ h => h) (Or.inl ⟨by rfl, ?_⟩) (by assumption) ?_
      rotate_left
      · (intro w hSw; (try dsimp only at hSw); go_simp; (try with_reducible rfl))
      try simp only [Act.put, kB0, kB1, kB2, kB3, kB4, kB5]
      refine wpAnyH_take (i := 4) (v := ?_) rfl (by kernel_rfl) (by kernel_rfl) (by kernel_rfl) (fun _ _ _ h => h) (Or.inl ⟨by rfl, ?_⟩) (by assumption) ?_
      rotate_left
      · (intro w hSw; (try dsimp only at hSw); go_simp; (try with_reducible rfl))
      try simp only [Act.put, kB0, kB1, kB2, kB3, kB4, kB5]
      refine wpAnyH_take (i := 5) (v := ?_) rfl (by kernel_rfl) (by kernel_rfl) (by kernel_rfl) (fun _ _ _ h => h) (Or.inl ⟨by rfl, ?_⟩) (by assumption) ?_
      rotate_left
      · (intro w hSw; (try dsimp only at hSw); go_simp; (try with_reducible rfl))
      try simp only [Act.put, kB0, kB1, kB2, kB3, kB4, kB5]
      refine wpAnyH_take (i := 6) (v := ?_) rfl (by kernel_rfl) (by kernel_rfl) (by kernel_rfl) (fun _ _ _ h => h) (Or.inl ⟨by rfl, ?_⟩) (by assumption) ?_
      rotate_left
      · (intro w hSw; (try dsimp only at hSw); go_simp; (try with_reducible rfl))
      try simp only [Act.put, kB0, kB1, kB2, kB3, kB4, kB5]
      refine wpAnyH_take (i := 7) (v := ?_) rfl (by kernel_rfl) (by kernel_rfl) (by kernel_rfl) (fun _ _ _ h => h) (Or.inl ⟨by rfl, ?_⟩) (by assumption) ?_
      rotate_left
      · (intro w hSw; (try dsimp only at hSw); go_simp; (try with_reducible rfl))
      try simp only [Act.put, kB0, kB1, kB2, kB3, kB4, kB5]
      refine wpAnyH_take (i := 8) (v := ?_) rfl (by kernel_rfl) (by kernel_rfl) (by kernel_rfl) (fun _ _ _ h => h) (Or.inl ⟨by rfl, ?_⟩) (by assumption) ?_
      rotate_left
      · (intro w hSw; (try dsimp only at hSw); go_simp; (try with_reducible rfl))
      try simp only [Act.put, kB0, kB1, kB2, kB3, kB4, kB5]
      refine wpAnyH_take (i := 11) (v := ?_) rfl (by kernel_rfl) (by kernel_rfl) (by kernel_rfl) (fun _ _ _ h => h) (Or.inl ⟨by rfl, ?_⟩) (by assumption) ?_
      rotate_left
      · (intro w hSw; (try dsimp only at hSw); go_simp; (try with_reducible rfl))
      try simp only [Act.put, kB0, kB1, kB2, kB3, kB4, kB5]
      refine wpAnyH_ready (rs := [9]) (by kernel_rfl) (by simp) ?_
      refine AllReadyH.cons rfl (fun K hK => ?_) AllReadyH.nil
      go_simp
      refine (unhide HTR _ hHeld.1.bel).mono ?_
      rintro e wX ⟨vs, rfl, ownS, bX⟩
      obtain ⟨sa, sc, hvs⟩ := Mem.own_shape ownS
      subst hvs
      have NS := hide (Mem.ownN_nodes ownS).2
      clear ownS
      refine hK.out _ _ ?_ (fun hHeld => ?_)
      · exact unhide MK _ (hHeld.1.call bX)
      clear hK K
      try simp only [Act.put, kB0, kB1, kB2, kB3, kB4, kB5]
      refine wpAnyH_take (i := 10) (v := ?_) rfl (by kernel_rfl) (by kernel_rfl) (by kernel_rfl) (fun _ _ _ h => h) (Or.inl ⟨by rfl, ?_⟩) (by assumption) ?_
      rotate_left
      · (intro w hSw; (try dsimp only at hSw); go_simp; (try with_reducible rfl))
      try simp only [Act.put, kB0, kB1, kB2, kB3, kB4, kB5]
      refine wpAnyH_ready (rs := [12]) (by kernel_rfl) (by simp) ?_
      refine AllReadyH.cons rfl (fun K hK => ?_) AllReadyH.nil
      go_simp
      refine (WLw.tree_any sa ta sc tc L _ (by omega) (unhide NS) hHeld.1.n5).mono ?_
      rintro e wX ⟨rfl, bX⟩
      refine hK.out _ _ ?_ (fun hHeld => ?_)
      · exact unhide MK _ (hHeld.1.call bX)
      clear hK K
      try simp only [Act.put, kB0, kB1, kB2, kB3, kB4, kB5]
      refine wpAnyH_take (i := 13) (v := ?_) rfl (by kernel_rfl) (by kernel_rfl) (by kernel_rfl) (fun _ _ _ h => h) (Or.inl ⟨by rfl, ?_⟩) (by assumption) ?_
      rotate_left
      · (intro w hSw; (try dsimp only at hSw); go_simp; (try with_reducible rfl))
      try simp only [Act.put, kB0, kB1, kB2, kB3, kB4, kB5]
      refine wpAnyH_take (i := 14) (v := ?_) rfl (by kernel_rfl) (by kernel_rfl) (by kernel_rfl) (fun _ _ _ h => h) (Or.inl ⟨by rfl, ?_⟩) (by assumption) ?_
      rotate_left
      · (intro w hSw; (try dsimp only at hSw); go_simp; (try with_reducible rfl))
      try simp only [Act.put, kB0, kB1, kB2, kB3, kB4, kB5]
      refine wpAnyH_take (i := 15) (v := ?_) rfl (by kernel_rfl) (by kernel_rfl) (by kernel_rfl) (fun _ _ _ h => h) (Or.inl ⟨by rfl, ?_⟩) (by assumption) ?_
      rotate_left
      · (intro w hSw; (try dsimp only at hSw); go_simp; (try with_reducible rfl))
      try simp only [Act.put, kB0, kB1, kB2, kB3, kB4, kB5]
      refine wpAnyH_take (i := 16) (v := ?_) rfl (by kernel_rfl) (by kernel_rfl) (by kernel_rfl) (fun _ _ _ h => h) (Or.inl ⟨by rfl, ?_⟩) (by assumption) ?_
      rotate_left
      · (intro w hSw; (try dsimp only at hSw); go_simp; (try with_reducible rfl))
      try simp only [Act.put, kB0, kB1, kB2, kB3, kB4, kB5]
      refine wpAnyH_take (i := 17) (v := ?_) rfl (by kernel_rfl) (by kernel_rfl) (by kernel_rfl) (fun _ _ _ h => h) (Or.inl ⟨by rfl, ?_⟩) (by assumption) ?_
      rotate_left
      · (intro w hSw; (try dsimp only at hSw); go_simp; (try with_reducible rfl))
      try simp only [Act.put, kB0, kB1, kB2, kB3, kB4, kB5]
      refine wpAnyH_take (i := 18) (v := ?_) rfl (by kernel_rfl) (by kernel_rfl) (by kernel_rfl) (fun _ _ _ h => h) (Or.inl ⟨by rfl, ?_⟩) (by assumption) ?_
      rotate_left
      · (intro w hSw; (try dsimp only at hSw); go_simp; (try with_reducible rfl))
      try simp only [Act.put, kB0, kB1, kB2, kB3, kB4, kB5]
      refine wpAnyH_ready (rs := [19]) (by kernel_rfl) (by simp) ?_
      refine AllReadyH.cons rfl (fun K hK => ?_) AllReadyH.nil
      go_simp
      refine (unhide hrs _).mono ?_
      rintro e wX ⟨vs, rfl, ownS, bX⟩
      obtain ⟨sa, sc, hvs⟩ := Mem.own_shape ownS
      subst hvs
      have NS := hide (Mem.ownN_nodes ownS).2
      clear ownS
      refine hK.out _ _ ?_ (fun hHeld => ?_)
      · exact unhide MK _ (hHeld.1.call bX)
      clear hK K
      try simp only [Act.put, kB0, kB1, kB2, kB3, kB4, kB5]
      refine wpAnyH_ready (rs := [20]) (by kernel_rfl) (by simp) ?_
      refine AllReadyH.cons rfl (fun K hK => ?_) AllReadyH.nil
      go_simp
      refine (WLw.trees_any xa sa xc sc (0) RL _ (by omega) hHeld.1.n8 (unhide NS) (unhide HRO).2 (unhide HRR)).mono ?_
      rintro e wX ⟨rfl, bX⟩
      refine hK.out _ _ ?_ (fun hHeld => ?_)
      · exact unhide MK _ (hHeld.1.call bX)
      clear hK K
      try simp only [Act.put, kB0, kB1, kB2, kB3, kB4, kB5]
      refine wpAnyH_take (i := 21) (v := ?_) rfl (by kernel_rfl) (by kernel_rfl) (by kernel_rfl) (fun _ _ _ h => h) (Or.inl ⟨by rfl, ?_⟩) (by assumption) ?_
      rotate_left
      · (intro w hSw; (try dsimp only at hSw); go_simp; (try with_reducible rfl))
      try simp only [Act.put, kB0, kB1, kB2, kB3, kB4, kB5]
      refine wpAnyH_take (i := 22) (v := ?_) rfl (by kernel_rfl) (by kernel_rfl) (by kernel_rfl) (fun _ _ _ h => h) (Or.inl ⟨by rfl, ?_⟩) (by assumption) ?_
      rotate_left
      · (intro w hSw; (try dsimp only at hSw); go_simp; (try with_reducible rfl))
      try simp only [Act.put, kB0, kB1, kB2, kB3, kB4, kB5]
      refine wpAnyH_take (i := 23) (v := ?_) rfl (by kernel_rfl) (by kernel_rfl) (by kernel_rfl) (fun _ _ _ h => h) (Or.inl ⟨by rfl, ?_⟩) (by assumption) ?_
      rotate_left
      · (intro w hSw; (try dsimp only at hSw); go_simp; (try with_reducible rfl))
      try simp only [Act.put, kB0, kB1, kB2, kB3, kB4, kB5]
      refine wpAnyH_take (i := 24) (v := ?_) rfl (by kernel_rfl) (by kernel_rfl) (by kernel_rfl) (fun _ _ _ h => h) (Or.inl ⟨by rfl, ?_⟩) (by assumption) ?_
      rotate_left
      · (intro w hSw; (try dsimp only at hSw); go_simp; (try with_reducible rfl))
      try simp only [Act.put, kB0, kB1, kB2, kB3, kB4, kB5]
      refine wpAnyH_take (i := 25) (v := ?_) rfl (by kernel_rfl) (by kernel_rfl) (by kernel_rfl) (fun _ _ _ h => h) (Or.inl ⟨by rfl, ?_⟩) (by assumption) ?_
      rotate_left
      · (intro w hSw; (try dsimp only at hSw); go_simp; (try with_reducible rfl))
      try simp only [Act.put, kB0, kB1, kB2, kB3, kB4, kB5]
      refine wpAnyH_take (i := 26) (v := ?_) rfl (by kernel_rfl) (by kernel_rfl) (by kernel_rfl) (fun _ _ _ h => h) (Or.inl ⟨by rfl, ?_⟩) (by assumption) ?_
      rotate_left
      · (intro w hSw; (try dsimp only at hSw); go_simp; (try with_reducible rfl))
      try simp only [Act.put, kB0, kB1, kB2, kB3, kB4, kB5]
      refine wpAnyH_take (i := 27) (v := ?_) rfl (by kernel_rfl) (by kernel_rfl) (by kernel_rfl) (fun _ _ _ h => h) (Or.inl ⟨by rfl, ?_⟩) (by assumption) ?_
      rotate_left
      · (intro w hSw; (try dsimp only at hSw); go_simp; (try with_reducible rfl))
      try simp only [Act.put, kB0, kB1, kB2, kB3, kB4, kB5]
      refine wpAnyH_take (i := 28) (v := ?_) rfl (by kernel_rfl) (by kernel_rfl) (by kernel_rfl) (fun _ _ _ h => h) (Or.inl ⟨by rfl, ?_⟩) (by assumption) ?_
      rotate_left
      · (intro w hSw; (try dsimp only at hSw); go_simp; (try with_reducible rfl))
      try simp only [Act.put, kB0, kB1, kB2, kB3, kB4, kB5]
      refine wpAnyH_take (i := 29) (v := ?_) rfl (by kernel_rfl) (by kernel_rfl) (by kernel_rfl) (fun _ _ _ h => h) (Or.inl ⟨by rfl, ?_⟩) (by assumption) ?_
      rotate_left
      · (intro w hSw; (try dsimp only at hSw); go_simp; (try with_reducible rfl))
      try simp only [Act.put, kB0, kB1, kB2, kB3, kB4, kB5]
      refine wpAnyH_take (i := 31) (v := ?_) rfl (by kernel_rfl) (by kernel_rfl) (by kernel_rfl) (fun _ _ _ h => h) (Or.inl ⟨by rfl, ?_⟩) (by assumption) ?_
      rotate_left
      · (intro w hSw; (try dsimp only at hSw); go_simp; (try with_reducible rfl))
      try simp only [Act.put, kB0, kB1, kB2, kB3, kB4, kB5]
      refine wpAnyH_ready (rs := [30]) (by kernel_rfl) (by simp) ?_
      refine AllReadyH.cons rfl (fun K hK => ?_) AllReadyH.nil
      go_simp
      refine (unhide HBX _ hHeld.1.bel hHeld.1.n8).mono ?_
      rintro e wX ⟨rfl, bX⟩
      refine hK.out _ _ ?_ (fun hHeld => ?_)
      · exact unhide MK _ (hHeld.1.call bX)
      clear hK K
      try simp only [Act.put, kB0, kB1, kB2, kB3, kB4, kB5]
      refine wpAnyH_take (i := 32) (v := ?_) rfl (by kernel_rfl) (by kernel_rfl) (by kernel_rfl) (fun _ _ _ h => h) (Or.inl ⟨by rfl, ?_⟩) (by assumption) ?_
      rotate_left
      · (intro w hSw; (try dsimp only at hSw); go_simp; (try with_reducible rfl))
      try simp only [Act.put, kB0, kB1, kB2, kB3, kB4, kB5]
      refine wpAnyH_take (i := 33) (v := ?_) rfl (by kernel_rfl) (by kernel_rfl) (by kernel_rfl) (fun _ _ _ h => h) (Or.inl ⟨by rfl, ?_⟩) (by assumption) ?_
      rotate_left
      · (intro w hSw; (try dsimp only at hSw); go_simp; (try with_reducible rfl))
      try simp only [Act.put, kB0, kB1, kB2, kB3, kB4, kB5]
      refine wpAnyH_take (i := 34) (v := ?_) rfl (by kernel_rfl) (by kernel_rfl) (by kernel_rfl) (fun _ _ _ h => h) (Or.inl ⟨by rfl, ?_⟩) (by assumption) ?_
      rotate_left
      · (intro w hSw; (try dsimp only at hSw); go_simp; (try with_reducible rfl))
      try simp only [Act.put, kB0, kB1, kB2, kB3, kB4, kB5]
      refine wpAnyH_done (by kernel_rfl) ?_ _
      have G := hide hHeld.1
      clear hHeld
      clear hsb hrs HBX
      cases TA
      · have eS : SB = false := (unhide HSB).symm
        subst eS
        have c9 := (unhide G).b9.cell 0
        have c10 := (unhide G).b10.cell 0
        simp only [kA0, kA1, kA2] at c9 c10
        go_wp2_with fail
        refine (unhide hss _ (unhide G).n9 (unhide G).n10).mono ?_
        rintro e vB ⟨rfl, bB⟩
        have G := hide ((unhide G).call bB)
        clear bB c9 c10
        have c9 := (unhide G).b9.cell 0
        have c10 := (unhide G).b10.cell 0
        simp only [kA0, kA1, kA2] at c9 c10
        go_wp2_with fail
        refine (unhide hra _ (unhide G).n9).mono ?_
        rintro e vB ⟨rfl, bB⟩
        have G := hide ((unhide G).call bB)
        clear bB c9 c10
        go_wp2
        go_ret
        exact ⟨rfl, (unhide G).bel⟩
      · cases TB
        · have eS : SB = false := (unhide HSB).symm
          subst eS
          have c9 := (unhide G).b9.cell 0
          have c10 := (unhide G).b10.cell 0
          simp only [kA0, kA1, kA2] at c9 c10
          go_wp2_with fail
          refine (unhide hss _ (unhide G).n9 (unhide G).n10).mono ?_
          rintro e vB ⟨rfl, bB⟩
          have G := hide ((unhide G).call bB)
          clear bB c9 c10
          have c9 := (unhide G).b9.cell 0
          have c10 := (unhide G).b10.cell 0
          simp only [kA0, kA1, kA2] at c9 c10
          go_wp2_with fail
          refine (unhide hra _ (unhide G).n9).mono ?_
          rintro e vB ⟨rfl, bB⟩
          have G := hide ((unhide G).call bB)
          clear bB c9 c10
          have c9 := (unhide G).b9.cell 0
          have c10 := (unhide G).b10.cell 0
          simp only [kA0, kA1, kA2] at c9 c10
          go_wp2_with fail
          refine (unhide hrb _ (unhide G).n10).mono ?_
          rintro e vB ⟨rfl, bB⟩
          have G := hide ((unhide G).call bB)
          clear bB c9 c10
          go_wp2
          go_ret
          exact ⟨rfl, (unhide G).bel⟩
        · have eS : SB = EQ := (unhide HSB).symm
          subst eS
          have c9 := (unhide G).b9.cell 0
          have c10 := (unhide G).b10.cell 0
          simp only [kA0, kA1, kA2] at c9 c10
          go_wp2_with fail
          refine (unhide hss _ (unhide G).n9 (unhide G).n10).mono ?_
          rintro e vB ⟨rfl, bB⟩
          have G := hide ((unhide G).call bB)
          clear bB c9 c10
          have c9 := (unhide G).b9.cell 0
          have c10 := (unhide G).b10.cell 0
          simp only [kA0, kA1, kA2] at c9 c10
          go_wp2_with fail
          refine (unhide hra _ (unhide G).n9).mono ?_
          rintro e vB ⟨rfl, bB⟩
          have G := hide ((unhide G).call bB)
          clear bB c9 c10
          have c9 := (unhide G).b9.cell 0
          have c10 := (unhide G).b10.cell 0
          simp only [kA0, kA1, kA2] at c9 c10
          go_wp2_with fail
          refine (unhide hrb _ (unhide G).n10).mono ?_
          rintro e vB ⟨rfl, bB⟩
          have G := hide ((unhide G).call bB)
          clear bB c9 c10
          have c9 := (unhide G).b9.cell 0
          have c10 := (unhide G).b10.cell 0
          simp only [kA0, kA1, kA2] at c9 c10
          go_wp2_with fail
          refine (unhide hlw _ (unhide G).n9 (unhide G).n10).mono ?_
          rintro e vB ⟨rfl, bB⟩
          have G := hide ((unhide G).call bB)
          clear bB c9 c10
          go_wp2
          go_ret
          exact ⟨rfl, (unhide G).bel⟩
    · have hRb : (RC == 0) = false := by simpa using hR
      clear hR
      clear MK
      have MK : Hid (∀ W', Gk w W' X5 X8 X9 X10 ta xa ca da tc xc cc dc L RL A B (RC) → (fun W' => Gk w W' X5 X8 X9 X10 ta xa ca da tc xc cc dc L RL A B (RC) ∧ W'.cell? ⟨X5, 0, none⟩ = some (.slice ta L.length tc) ∧ W'.cell? ⟨X8, 0, none⟩ = some (.slice xa RL.length xc) ∧ W'.cell? ⟨X8, 1, none⟩ = some (.int .i64 (RC)) ∧ W'.cell? ⟨X9, 0, none⟩ = some (.slice ca A.length cc) ∧ W'.cell? ⟨X10, 0, none⟩ = some (.slice da B.length dc)) W') := fun W' h => ⟨h, h.b5.cell 0, h.b8.cell 0, h.b8.cell 1, h.b9.cell 0, h.b10.cell 0⟩
      refine wp_region_held_drew (S := fun W' => Gk w W' X5 X8 X9 X10 ta xa ca da tc xc cc dc L RL A B (RC) ∧ W'.cell? ⟨X5, 0, none⟩ = some (.slice ta L.length tc) ∧ W'.cell? ⟨X8, 0, none⟩ = some (.slice xa RL.length xc) ∧ W'.cell? ⟨X8, 1, none⟩ = some (.int .i64 (RC)) ∧ W'.cell? ⟨X9, 0, none⟩ = some (.slice ca A.length cc) ∧ W'.cell? ⟨X10, 0, none⟩ = some (.slice da B.length dc)) (by kernel_rfl) ?_ (fun hHeld => ?_)
      · exact unhide MK _ (unhide G).drew
      clear G
      refine wpAnyH_take (i := 0) (v := ?_) rfl (by kernel_rfl) (by kernel_rfl) (by kernel_rfl) (fun _ _ _ h => h) (Or.inl ⟨by rfl, ?_⟩) (by assumption) ?_
      rotate_left
      · (intro w hSw; (try dsimp only at hSw); go_simp; (try with_reducible rfl))
      try simp only [Act.put, kB0, kB1, kB2, kB3, kB4, kB5]
      refine wpAnyH_take (i := 1) (v := ?_) rfl (by kernel_rfl) (by kernel_rfl) (by kernel_rfl) (fun _ _ _ h => h) (Or.inl ⟨by rfl, ?_⟩) (by assumption) ?_
      rotate_left
      · (intro w hSw; (try dsimp only at hSw); go_simp; (try with_reducible rfl))
      try simp only [Act.put, kB0, kB1, kB2, kB3, kB4, kB5]
      refine wpAnyH_ready (rs := [2]) (by kernel_rfl) (by simp) ?_
      refine AllReadyH.cons rfl (fun K hK => ?_) AllReadyH.nil
      go_simp
      refine (unhide hsb _ hHeld.1.n5).mono ?_
      rintro e wX ⟨rfl, bX⟩
      refine hK.out _ _ ?_ (fun hHeld => ?_)
      · exact unhide MK _ (hHeld.1.call bX)
      clear hK K
      try simp only [Act.put, kB0, kB1, kB2, kB3, kB4, kB5]
      refine wpAnyH_take (i := 3) (v := ?_) rfl (by kernel_rfl) (by kernel_rfl) (by kernel_rfl) (fun _ _ _ h => h) (Or.inl ⟨by rfl, ?_⟩) (by assumption) ?_
      rotate_left
      · (intro w hSw; (try dsimp only at hSw); go_simp; (try with_reducible rfl))
      try simp only [Act.put, kB0, kB1, kB2, kB3, kB4, kB5]
      refine wpAnyH_take (i := 4) (v := ?_) rfl (by kernel_rfl) (by kernel_rfl) (by kernel_rfl) (fun _ _ _ h => h) (Or.inl ⟨by rfl, ?_⟩) (by assumption) ?_
      rotate_left
      · (intro w hSw; (try dsimp only at hSw); go_simp; (try with_reducible rfl))
      try simp only [Act.put, kB0, kB1, kB2, kB3, kB4, kB5]
      refine wpAnyH_take (i := 5) (v := ?_) rfl (by kernel_rfl) (by kernel_rfl) (by kernel_rfl) (fun _ _ _ h => h) (Or.inl ⟨by rfl, ?_⟩) (by assumption) ?_
      rotate_left
      · (intro w hSw; (try dsimp only at hSw); go_simp; (try with_reducible rfl))
      try simp only [Act.put, kB0, kB1, kB2, kB3, kB4, kB5]
      refine wpAnyH_take (i := 6) (v := ?_) rfl (by kernel_rfl) (by kernel_rfl) (by kernel_rfl) (fun _ _ _ h => h) (Or.inl ⟨by rfl, ?_⟩) (by assumption) ?_
      rotate_left
      · (intro w hSw; (try dsimp only at hSw); go_simp; (try with_reducible rfl))
      try simp only [Act.put, kB0, kB1, kB2, kB3, kB4, kB5]
      refine wpAnyH_take (i := 7) (v := ?_) rfl (by kernel_rfl) (by kernel_rfl) (by kernel_rfl) (fun _ _ _ h => h) (Or.inl ⟨by rfl, ?_⟩) (by assumption) ?_
      rotate_left
      · (intro w hSw; (try dsimp only at hSw); go_simp; (try with_reducible rfl))
      try simp only [Act.put, kB0, kB1, kB2, kB3, kB4, kB5]
      refine wpAnyH_take (i := 8) (v := ?_) rfl (by kernel_rfl) (by kernel_rfl) (by kernel_rfl) (fun _ _ _ h => h) (Or.inl ⟨by rfl, ?_⟩) (by assumption) ?_
      rotate_left
      · (intro w hSw; (try dsimp only at hSw); go_simp; (try with_reducible rfl))
      try simp only [Act.put, kB0, kB1, kB2, kB3, kB4, kB5]
      refine wpAnyH_take (i := 11) (v := ?_) rfl (by kernel_rfl) (by kernel_rfl) (by kernel_rfl) (fun _ _ _ h => h) (Or.inl ⟨by rfl, ?_⟩) (by assumption) ?_
      rotate_left
      · (intro w hSw; (try dsimp only at hSw); go_simp; (try with_reducible rfl))
      try simp only [Act.put, kB0, kB1, kB2, kB3, kB4, kB5]
      refine wpAnyH_ready (rs := [9]) (by kernel_rfl) (by simp) ?_
      refine AllReadyH.cons rfl (fun K hK => ?_) AllReadyH.nil
      go_simp
      refine (unhide HTR _ hHeld.1.bel).mono ?_
      rintro e wX ⟨vs, rfl, ownS, bX⟩
      obtain ⟨sa, sc, hvs⟩ := Mem.own_shape ownS
      subst hvs
      have NS := hide (Mem.ownN_nodes ownS).2
      clear ownS
      refine hK.out _ _ ?_ (fun hHeld => ?_)
      · exact unhide MK _ (hHeld.1.call bX)
      clear hK K
      try simp only [Act.put, kB0, kB1, kB2, kB3, kB4, kB5]
      refine wpAnyH_take (i := 10) (v := ?_) rfl (by kernel_rfl) (by kernel_rfl) (by kernel_rfl) (fun _ _ _ h => h) (Or.inl ⟨by rfl, ?_⟩) (by assumption) ?_
      rotate_left
      · (intro w hSw; (try dsimp only at hSw); go_simp; (try with_reducible rfl))
      try simp only [Act.put, kB0, kB1, kB2, kB3, kB4, kB5]
      refine wpAnyH_ready (rs := [12]) (by kernel_rfl) (by simp) ?_
      refine AllReadyH.cons rfl (fun K hK => ?_) AllReadyH.nil
      go_simp
      refine (WLw.tree_any sa ta sc tc L _ (by omega) (unhide NS) hHeld.1.n5).mono ?_
      rintro e wX ⟨rfl, bX⟩
      refine hK.out _ _ ?_ (fun hHeld => ?_)
      · exact unhide MK _ (hHeld.1.call bX)
      clear hK K
      try simp only [Act.put, kB0, kB1, kB2, kB3, kB4, kB5]
      refine wpAnyH_take (i := 13) (v := ?_) rfl (by kernel_rfl) (by kernel_rfl) (by kernel_rfl) (fun _ _ _ h => h) (Or.inl ⟨by rfl, ?_⟩) (by assumption) ?_
      rotate_left
      · (intro w hSw; (try dsimp only at hSw); go_simp; (try with_reducible rfl))
      try simp only [Act.put, kB0, kB1, kB2, kB3, kB4, kB5]
      refine wpAnyH_take (i := 14) (v := ?_) rfl (by kernel_rfl) (by kernel_rfl) (by kernel_rfl) (fun _ _ _ h => h) (Or.inl ⟨by rfl, ?_⟩) (by assumption) ?_
      rotate_left
      · (intro w hSw; (try dsimp only at hSw); go_simp; (try with_reducible rfl))
      try simp only [Act.put, kB0, kB1, kB2, kB3, kB4, kB5]
      refine wpAnyH_take (i := 15) (v := ?_) rfl (by kernel_rfl) (by kernel_rfl) (by kernel_rfl) (fun _ _ _ h => h) (Or.inl ⟨by rfl, ?_⟩) (by assumption) ?_
      rotate_left
      · (intro w hSw; (try dsimp only at hSw); go_simp; (try with_reducible rfl))
      try simp only [Act.put, kB0, kB1, kB2, kB3, kB4, kB5]
      refine wpAnyH_take (i := 16) (v := ?_) rfl (by kernel_rfl) (by kernel_rfl) (by kernel_rfl) (fun _ _ _ h => h) (Or.inl ⟨by rfl, ?_⟩) (by assumption) ?_
      rotate_left
      · (intro w hSw; (try dsimp only at hSw); go_simp; (try with_reducible rfl))
      try simp only [Act.put, kB0, kB1, kB2, kB3, kB4, kB5]
      refine wpAnyH_take (i := 17) (v := ?_) rfl (by kernel_rfl) (by kernel_rfl) (by kernel_rfl) (fun _ _ _ h => h) (Or.inl ⟨by rfl, ?_⟩) (by assumption) ?_
      rotate_left
      · (intro w hSw; (try dsimp only at hSw); go_simp; (try with_reducible rfl))
      try simp only [Act.put, kB0, kB1, kB2, kB3, kB4, kB5]
      refine wpAnyH_take (i := 18) (v := ?_) rfl (by kernel_rfl) (by kernel_rfl) (by kernel_rfl) (fun _ _ _ h => h) (Or.inl ⟨by rfl, ?_⟩) (by assumption) ?_
      rotate_left
      · (intro w hSw; (try dsimp only at hSw); go_simp; (try with_reducible rfl))
      try simp only [Act.put, kB0, kB1, kB2, kB3, kB4, kB5]
      refine wpAnyH_ready (rs := [19]) (by kernel_rfl) (by simp) ?_
      refine AllReadyH.cons rfl (fun K hK => ?_) AllReadyH.nil
      go_simp
      refine (unhide hrs _).mono ?_
      rintro e wX ⟨vs, rfl, ownS, bX⟩
      obtain ⟨sa, sc, hvs⟩ := Mem.own_shape ownS
      subst hvs
      have NS := hide (Mem.ownN_nodes ownS).2
      clear ownS
      refine hK.out _ _ ?_ (fun hHeld => ?_)
      · exact unhide MK _ (hHeld.1.call bX)
      clear hK K
      try simp only [Act.put, kB0, kB1, kB2, kB3, kB4, kB5]
      refine wpAnyH_ready (rs := [20]) (by kernel_rfl) (by simp) ?_
      refine AllReadyH.cons rfl (fun K hK => ?_) AllReadyH.nil
      go_simp
      refine (WLw.trees_any xa sa xc sc (RC) RL _ (by omega) hHeld.1.n8 (unhide NS) (unhide HRO).2 (unhide HRR)).mono ?_
      rintro e wX ⟨rfl, bX⟩
      refine hK.out _ _ ?_ (fun hHeld => ?_)
      · exact unhide MK _ (hHeld.1.call bX)
      clear hK K
      try simp only [Act.put, kB0, kB1, kB2, kB3, kB4, kB5]
      refine wpAnyH_take (i := 21) (v := ?_) rfl (by kernel_rfl) (by kernel_rfl) (by kernel_rfl) (fun _ _ _ h => h) (Or.inl ⟨by rfl, ?_⟩) (by assumption) ?_
      rotate_left
      · (intro w hSw; (try dsimp only at hSw); go_simp; (try with_reducible rfl))
      try simp only [Act.put, kB0, kB1, kB2, kB3, kB4, kB5]
      refine wpAnyH_take (i := 22) (v := ?_) rfl (by kernel_rfl) (by kernel_rfl) (by kernel_rfl) (fun _ _ _ h => h) (Or.inl ⟨by rfl, ?_⟩) (by assumption) ?_
      rotate_left
      · (intro w hSw; (try dsimp only at hSw); go_simp; (try with_reducible rfl))
      try simp only [Act.put, kB0, kB1, kB2, kB3, kB4, kB5]
      refine wpAnyH_take (i := 23) (v := ?_) rfl (by kernel_rfl) (by kernel_rfl) (by kernel_rfl) (fun _ _ _ h => h) (Or.inl ⟨by rfl, ?_⟩) (by assumption) ?_
      rotate_left
      · (intro w hSw; (try dsimp only at hSw); go_simp; (try with_reducible rfl))
      try simp only [Act.put, kB0, kB1, kB2, kB3, kB4, kB5]
      refine wpAnyH_take (i := 24) (v := ?_) rfl (by kernel_rfl) (by kernel_rfl) (by kernel_rfl) (fun _ _ _ h => h) (Or.inl ⟨by rfl, ?_⟩) (by assumption) ?_
      rotate_left
      · (intro w hSw; (try dsimp only at hSw); go_simp; (try with_reducible rfl))
      try simp only [Act.put, kB0, kB1, kB2, kB3, kB4, kB5]
      refine wpAnyH_take (i := 25) (v := ?_) rfl (by kernel_rfl) (by kernel_rfl) (by kernel_rfl) (fun _ _ _ h => h) (Or.inl ⟨by rfl, ?_⟩) (by assumption) ?_
      rotate_left
      · (intro w hSw; (try dsimp only at hSw); go_simp; (try with_reducible rfl))
      try simp only [Act.put, kB0, kB1, kB2, kB3, kB4, kB5]
      refine wpAnyH_take (i := 26) (v := ?_) rfl (by kernel_rfl) (by kernel_rfl) (by kernel_rfl) (fun _ _ _ h => h) (Or.inl ⟨by rfl, ?_⟩) (by assumption) ?_
      rotate_left
      · (intro w hSw; (try dsimp only at hSw); go_simp; (try with_reducible rfl))
      try simp only [Act.put, kB0, kB1, kB2, kB3, kB4, kB5]
      refine wpAnyH_take (i := 27) (v := ?_) rfl (by kernel_rfl) (by kernel_rfl) (by kernel_rfl) (fun _ _ _ h => h) (Or.inl ⟨by rfl, ?_⟩) (by assumption) ?_
      rotate_left
      · (intro w hSw; (try dsimp only at hSw); go_simp; (try with_reducible rfl))
      try simp only [Act.put, kB0, kB1, kB2, kB3, kB4, kB5]
      refine wpAnyH_take (i := 28) (v := undef) rfl (by kernel_rfl) (by kernel_rfl) (by kernel_rfl) (fun _ _ _ h => h) (Or.inr ⟨by rfl, rfl⟩) (by assumption) ?_
      try simp only [Act.put, kB0, kB1, kB2, kB3, kB4, kB5]
      refine wpAnyH_take (i := 29) (v := undef) rfl (by kernel_rfl) (by kernel_rfl) (by kernel_rfl) (fun _ _ _ h => h) (Or.inr ⟨by rfl, rfl⟩) (by assumption) ?_
      try simp only [Act.put, kB0, kB1, kB2, kB3, kB4, kB5]
      refine wpAnyH_take (i := 30) (v := undef) rfl (by kernel_rfl) (by kernel_rfl) (by kernel_rfl) (fun _ _ _ h => h) (Or.inr ⟨by rfl, rfl⟩) (by assumption) ?_
      try simp only [Act.put, kB0, kB1, kB2, kB3, kB4, kB5]
      refine wpAnyH_take (i := 31) (v := undef) rfl (by kernel_rfl) (by kernel_rfl) (by kernel_rfl) (fun _ _ _ h => h) (Or.inr ⟨by rfl, rfl⟩) (by assumption) ?_
      try simp only [Act.put, kB0, kB1, kB2, kB3, kB4, kB5]
      refine wpAnyH_take (i := 32) (v := undef) rfl (by kernel_rfl) (by kernel_rfl) (by kernel_rfl) (fun _ _ _ h => h) (Or.inr ⟨by rfl, rfl⟩) (by assumption) ?_
      try simp only [Act.put, kB0, kB1, kB2, kB3, kB4, kB5]
      refine wpAnyH_take (i := 33) (v := ?_) rfl (by kernel_rfl) (by kernel_rfl) (by kernel_rfl) (fun _ _ _ h => h) (Or.inl ⟨by rfl, ?_⟩) (by assumption) ?_
      rotate_left
      · (intro w hSw; (try dsimp only at hSw); go_simp; (try with_reducible rfl))
      try simp only [Act.put, kB0, kB1, kB2, kB3, kB4, kB5]
      refine wpAnyH_take (i := 34) (v := ?_) rfl (by kernel_rfl) (by kernel_rfl) (by kernel_rfl) (fun _ _ _ h => h) (Or.inl ⟨by rfl, ?_⟩) (by assumption) ?_
      rotate_left
      · (intro w hSw; (try dsimp only at hSw); go_simp; (try with_reducible rfl))
      try simp only [Act.put, kB0, kB1, kB2, kB3, kB4, kB5]
      refine wpAnyH_done (by kernel_rfl) ?_ _
      have G := hide hHeld.1
      clear hHeld
      clear hsb hrs HBX
      cases TA
      · have eS : SB = false := (unhide HSB).symm
        subst eS
        have c9 := (unhide G).b9.cell 0
        have c10 := (unhide G).b10.cell 0
        simp only [kA0, kA1, kA2] at c9 c10
        go_wp2_with fail
        refine (unhide hss _ (unhide G).n9 (unhide G).n10).mono ?_
        rintro e vB ⟨rfl, bB⟩
        have G := hide ((unhide G).call bB)
        clear bB c9 c10
        have c9 := (unhide G).b9.cell 0
        have c10 := (unhide G).b10.cell 0
        simp only [kA0, kA1, kA2] at c9 c10
        go_wp2_with fail
        refine (unhide hra _ (unhide G).n9).mono ?_
        rintro e vB ⟨rfl, bB⟩
        have G := hide ((unhide G).call bB)
        clear bB c9 c10
        go_wp2
        go_ret
        exact ⟨rfl, (unhide G).bel⟩
      · cases TB
        · have eS : SB = false := (unhide HSB).symm
          subst eS
          have c9 := (unhide G).b9.cell 0
          have c10 := (unhide G).b10.cell 0
          simp only [kA0, kA1, kA2] at c9 c10
          go_wp2_with fail
          refine (unhide hss _ (unhide G).n9 (unhide G).n10).mono ?_
          rintro e vB ⟨rfl, bB⟩
          have G := hide ((unhide G).call bB)
          clear bB c9 c10
          have c9 := (unhide G).b9.cell 0
          have c10 := (unhide G).b10.cell 0
          simp only [kA0, kA1, kA2] at c9 c10
          go_wp2_with fail
          refine (unhide hra _ (unhide G).n9).mono ?_
          rintro e vB ⟨rfl, bB⟩
          have G := hide ((unhide G).call bB)
          clear bB c9 c10
          have c9 := (unhide G).b9.cell 0
          have c10 := (unhide G).b10.cell 0
          simp only [kA0, kA1, kA2] at c9 c10
          go_wp2_with fail
          refine (unhide hrb _ (unhide G).n10).mono ?_
          rintro e vB ⟨rfl, bB⟩
          have G := hide ((unhide G).call bB)
          clear bB c9 c10
          go_wp2
          go_ret
          exact ⟨rfl, (unhide G).bel⟩
        · have eS : SB = EQ := (unhide HSB).symm
          subst eS
          have c9 := (unhide G).b9.cell 0
          have c10 := (unhide G).b10.cell 0
          simp only [kA0, kA1, kA2] at c9 c10
          go_wp2_with fail
          refine (unhide hss _ (unhide G).n9 (unhide G).n10).mono ?_
          rintro e vB ⟨rfl, bB⟩
          have G := hide ((unhide G).call bB)
          clear bB c9 c10
          have c9 := (unhide G).b9.cell 0
          have c10 := (unhide G).b10.cell 0
          simp only [kA0, kA1, kA2] at c9 c10
          go_wp2_with fail
          refine (unhide hra _ (unhide G).n9).mono ?_
          rintro e vB ⟨rfl, bB⟩
          have G := hide ((unhide G).call bB)
          clear bB c9 c10
          have c9 := (unhide G).b9.cell 0
          have c10 := (unhide G).b10.cell 0
          simp only [kA0, kA1, kA2] at c9 c10
          go_wp2_with fail
          refine (unhide hrb _ (unhide G).n10).mono ?_
          rintro e vB ⟨rfl, bB⟩
          have G := hide ((unhide G).call bB)
          clear bB c9 c10
          have c9 := (unhide G).b9.cell 0
          have c10 := (unhide G).b10.cell 0
          simp only [kA0, kA1, kA2] at c9 c10
          go_wp2_with fail
          refine (unhide hlw _ (unhide G).n9 (unhide G).n10).mono ?_
          rintro e vB ⟨rfl, bB⟩
          have G := hide ((unhide G).call bB)
          clear bB c9 c10
          go_wp2
          go_ret
          exact ⟨rfl, (unhide G).bel⟩
end fnTreeBytes
end Go.Proofs.YtkfpfckmjgjanaaDoor
