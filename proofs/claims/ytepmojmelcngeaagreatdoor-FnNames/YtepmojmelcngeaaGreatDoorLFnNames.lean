/- The walk of the law FnNames, over the walks of the functions and of the draws (by genFN.py). -/
import Derived.Test.YtepmojmelcngeaaGreatDoorG55
import Derived.Test.YtepmojmelcngeaaGreatDoorWNamesF
import Derived.Test.YtepmojmelcngeaaGreatDoorWGetI
import Derived.Test.YtepmojmelcngeaaGreatDoorG60
import Derived.Test.YtepmojmelcngeaaGreatDoorPlainFN
import Derived.Laws.Cover1
namespace Go.Proofs.YtepmojmelcngeaaGreatDoor
open Go.RowKit
namespace fnNames
set_option maxRecDepth 100000 in
set_option maxHeartbeats 400000 in
/-- Two lists of the same texts are the same. -/
theorem eq_any (v u : Value) (A : List ByteArray) (w : World) (hA : A.length ≤ 1000) (hv : Mem.isTexts w v A) (hu : Mem.isTexts w u A) :
    Calls Tryz.prog 20 #[v, u] w fun e w' => e = .returned (.bool true) ∧ Below w.heap.size w w' := by
  obtain ⟨va, vc, rfl⟩ := Mem.texts_shape hv
  obtain ⟨ua, uc, rfl⟩ := Mem.texts_shape hu
  have HCA : Hid (∀ (k : Nat) x, A[k]? = some x → ∃ b o, va = some ⟨b, o, none⟩ ∧ b < w.heap.size ∧ w.cell? ⟨b, o + k, none⟩ = some (.string x)) := fun k x hx => by
    rcases hv with ⟨_, rfl⟩ | ⟨b, o, cap, h1, h2, h3⟩
    · simp at hx
    · cases h1; exact ⟨b, o, rfl, h2, h3 k x hx⟩
  have HCB : Hid (∀ (k : Nat) x, A[k]? = some x → ∃ b o, ua = some ⟨b, o, none⟩ ∧ b < w.heap.size ∧ w.cell? ⟨b, o + k, none⟩ = some (.string x)) := fun k x hx => by
    rcases hu with ⟨_, rfl⟩ | ⟨b, o, cap, h1, h2, h3⟩
    · simp at hx
    · cases h1; exact ⟨b, o, rfl, h2, h3 k x hx⟩
  clear hv hu
  go_enter Tryz.func20, Tryz.ntmps20
  go_wp2
  go_loopw [5] (fun i wr => ∃ k : Nat, k ≤ A.length ∧ i = .int .i64 (k : Int) ∧ Below w.heap.size w wr) (fun i _ => A.length - (intOf i).toNat)
  case atStart => exact ⟨0, Nat.zero_le _, rfl, Below.refl _ _⟩
  case round =>
    obtain ⟨k, hk, rfl, hbel⟩ := hrel
    by_cases hlt : k < A.length
    · obtain ⟨x, hx⟩ : ∃ x, A[k]? = some x := ⟨_, List.getElem?_eq_getElem (by omega)⟩
      obtain ⟨b, o, rfl, hb, hcb⟩ := HCB.out k x hx
      obtain ⟨b', o', rfl, hb', hca⟩ := HCA.out k x hx
      have hc1 : wr.cell? ⟨b, o + k, none⟩ = some (.string x) := (hbel.cell (p := ⟨b, o + k, none⟩) hb).trans hcb
      have hc2 : wr.cell? ⟨b', o' + k, none⟩ = some (.string x) := (hbel.cell (p := ⟨b', o' + k, none⟩) hb').trans hca
      have u1 : (k : Int) < (A.length : Int) := by omega
      have u3 : (0 : Int) ≤ (k : Int) := by omega
      clear hcb hca hx HCA HCB
      go_wp2
      go_quiet (fail)
      go_wp2
      go_roundw
      case rel => exact ⟨k + 1, by omega, by go_num, Mem.below_drewN hbel _⟩
      case measure => simp [intOf]; omega
    · go_wp2
      go_ret
      exact ⟨rfl, hbel⟩
set_option linter.unusedSimpArgs false in
set_option maxRecDepth 100000 in
set_option maxHeartbeats 3000000 in
theorem walk (a0 : Option Addr) (len0 cap0 : Nat) (w : World) (w0 : WSrc.RowB w w.heap.size a0 len0 cap0) (x : Nat → Addr) (hE : WIs.Six w x) :
    Calls Tryz.prog 4 #[.slice a0 len0 cap0] w fun e w' => e = .returned (.bool true) ∧ Below w.heap.size w w' := by
  by_cases hL0 : (1048576 : Int) < (len0 : Int)
  · clear w0 hE
    go_enter Tryz.func4, Tryz.ntmps4
    go_wp2
    go_ret
    exact ⟨rfl, Below.refl _ _⟩
  have hf1 : ∀ (a b : ByteArray) (c d e : Int) (W : World), (Instr.field 52 (.agg #[.string a, .int .i64 c, .string b, .int .i64 d, .int .i64 e, .int .i64 0]) 1).run Tryz.prog W = .ok (.int .i64 0) W := fun _ _ _ _ _ _ => by kernel_rfl
  have hf2 : ∀ (y1 : ByteArray) (W : World), (Instr.field 55 (.agg #[.string y1, .int .i64 0, .int .i64 0]) 0).run Tryz.prog W = .ok (.string y1) W := fun _ _ => by kernel_rfl
  have HE := hide hE
  have hd := hide (WSrc.drawTNames_any a0 len0 cap0 w w0)
  clear w0 hE
  go_enter Tryz.func4, Tryz.ntmps4
  go_wp2_with fail
  refine (unhide hd).mono ?_
  rintro e w1 ⟨va, vc, L, p, hl, hsm, hp, rfl, tv, b1⟩
  have b2 := b1.alloc b1.size (.cells #[.slice va L.length vc] 31)
  have HT := hide (Mem.Blk.new w1 #[.slice va L.length vc] 31)
  have HV := hide (tv.alloc (.cells #[.slice va L.length vc] 31)).1
  have HOK := hide (Pl.small_ok hsm)
  clear hd hsm tv b1
  have t0 := (unhide HT).cell 0
  simp only [kA0, kA1, kA2] at t0
  go_wp2_with fail
  generalize w1.alloc (.cells #[.slice va L.length vc] 31) = w2 at b2 HT HV t0 ⊢
  generalize w1.heap.size = X at HT t0 ⊢
  have hsN := unhide HE
  refine (WNamesF.impl_any va vc L p w2 (by omega) (unhide HV) (unhide HOK) (by omega) _ _ _ _ _ _ (hsN.call b2).errs).mono ?_
  rintro e w3 ⟨v3, rfl, own3, b3⟩
  have T3 := hide (Mem.own_texts own3)
  have HT3 := hide ((unhide HT).call b3)
  have HV3 := hide (Mem.nodes_call (unhide HV) b3)
  have bw3 := b2.trans (b3.mono b2.size)
  have t3 := (unhide HT3).cell 0
  simp only [kA0, kA1, kA2] at t3
  clear own3 b3 HT HV t0 b2 hsN
  have HK := hide (Pl.kidsO_len p L)
  have HUP := hide (fun (k : Nat) x y (hx : (Pl.kidsO p L)[k]? = some x) (hy : (Pl.kidsO p L)[k + 1]? = some y) => Pl.kidsO_up hx hy)
  have HGT := hide (fun x (hx : x ∈ Pl.kidsO p L) => Pl.kidsO_get hx)
  have HCN := hide (Pl.kidsO_count L p)
  have HSN := hide (WNamesT.spec_any va vc L p w3 (by omega) (unhide HV3) (unhide HOK))
  generalize Pl.kidsO p L = K at T3 HK HUP HGT HCN HSN
  go_wp2_with fail
  refine (unhide HSN).mono ?_
  rintro e w4 ⟨v4, rfl, own4, b4⟩
  have T4 := hide (Mem.own_texts own4)
  have T3' := hide (Mem.texts_call (unhide T3) b4)
  have HT4 := hide ((unhide HT3).call b4)
  have HV4 := hide (Mem.nodes_call (unhide HV3) b4)
  have bw4 := bw3.trans (b4.mono bw3.size)
  clear own4 b4 T3 HT3 HV3 t3 bw3 HSN
  go_wp2_with fail
  refine (eq_any v3 v4 K w4 (by have := unhide HK; omega) (unhide T3') (unhide T4)).mono ?_
  rintro e w5 ⟨rfl, b5⟩
  obtain ⟨la, lc, rfl⟩ := Mem.texts_shape (unhide T3')
  have T5 := hide (Mem.texts_call (unhide T3') b5)
  have HT5 := hide ((unhide HT4).call b5)
  have HV5 := hide (Mem.nodes_call (unhide HV4) b5)
  have bw5 := bw4.trans (b5.mono bw4.size)
  clear b5 T3' T4 HT4 HV4 bw4
  have hcnt : ∃ cn : Nat, cn = (if Pl.treeB L = true then (Pl.kidsL p L).length else 0) := ⟨_, rfl⟩
  obtain ⟨cn, hcn⟩ := hcnt
  rw [← hcn] at HCN
  have hkl : ∀ k : Nat, (Pl.kidsL p (L.take k)).length ≤ k := fun k => Pl.kids_len p L k
  have HKL := hide hkl
  clear hkl
  have HRT := hide (fun W (b : Below w5.heap.size w5 W) => WTreeS.right_tree va vc L W (by omega) (Mem.nodes_call (unhide HV5) b) (unhide HOK))
  have HND : Hid (Pl.treeB L = true → ∀ n ∈ L, Pl.pathB n.path = true ∧ n.path.size ≠ 0) := fun h => Pl.tree_nodes h
  have HCT : Hid (cn = (if Pl.treeB L = true then (Pl.kidsL p L).length else 0)) := hcn
  clear hcn
  generalize Pl.treeB L = TB at HRT HND HCT
  go_wp2
  go_loopw [6, 7] (fun n i wr => ∃ k : Nat, k ≤ L.length ∧ i = .int .i64 (k : Int) ∧ n = .int .i64 ((Pl.kidsL p (L.take k)).length : Int) ∧ Below w5.heap.size w5 wr ∧ (TB = false → k = 0)) (fun _ i _ => L.length - (intOf i).toNat)
  case atStart => exact ⟨0, Nat.zero_le _, rfl, by simp [Pl.kidsL], Below.refl _ _, fun _ => rfl⟩
  case round =>
    obtain ⟨k, hk, rfl, rfl, hbel, hTk⟩ := hrel
    have HTr := hide ((unhide HT5).call hbel)
    have HVr := hide (Mem.nodes_call (unhide HV5) hbel)
    have t0 := (unhide HTr).cell 0
    simp only [kA0, kA1, kA2] at t0
    by_cases hlt : k < L.length
    · have y1 : (k : Int) < (L.length : Int) := by omega
      have y3 : (0 : Int) ≤ (k : Int) := by omega
      cases TB
      · obtain rfl := hTk rfl
        have HC0 : Hid (cn = 0) := by show cn = 0; rw [unhide HCT]; rfl
        go_wp2_with fail
        refine (unhide HRT _ hbel).mono ?_
        rintro e w6 ⟨rfl, b6⟩
        have T6 := hide (Mem.texts_call (unhide T5) (hbel.trans (b6.mono hbel.size)))
        have HT6 := hide ((unhide HTr).call b6)
        have HV6 := hide (Mem.nodes_call (unhide HVr) b6)
        have bw6 := bw5.trans ((hbel.trans (b6.mono hbel.size)).mono bw5.size)
        have EC : ((Pl.kidsL p ([] : List Pl.Nd)).length : Nat) = cn := by rw [unhide HC0]; simp [Pl.kidsL]
        clear b6 hbel bw5 T5 HT5 HV5 HTr HVr HRT HND HCT HKL t0 hTk
        go_wp2
        try rw [EC]
        clear EC
        go_loopw [8] (fun i wr => ∃ k : Nat, k ≤ K.length ∧ i = .int .i64 (k : Int) ∧ Below w.heap.size w wr ∧ Hid (Mem.Blk wr X #[.slice va L.length vc] 31) ∧ Hid (Mem.isNodes wr va L) ∧ Hid (Mem.isTexts wr (.slice la K.length lc) K)) (fun i _ => K.length - (intOf i).toNat)
        case atStart => exact ⟨0, Nat.zero_le _, rfl, bw6, HT6, HV6, T6⟩
        case round =>
          obtain ⟨k, hk, rfl, hwr, HT, HV, HX⟩ := hrel
          clear T6 HT6 HV6 bw6
          by_cases hlt : k < K.length
          · have y1 : (k : Int) < (K.length : Int) := by omega
            have y3 : (0 : Int) ≤ (k : Int) := by omega
            obtain ⟨x, hx⟩ : ∃ x, K[k]? = some x := ⟨_, List.getElem?_eq_getElem hlt⟩
            obtain ⟨q, n, hj, hq, hxs, hg⟩ := unhide HGT x (List.mem_of_getElem? hx)
            have HJ := hide (fun W => WPathS.joinF_any p x W (by omega) (by omega))
            rw [hj] at HJ
            simp only [Pl.tOut] at HJ
            have HG := hide (fun W (b : Below w.heap.size w W) (b2 : Below wr.heap.size wr W) => WGetT.impl_any va vc L q W (by omega) (Mem.nodes_call (unhide HV) b2) (unhide HOK) (by omega) _ ((unhide HE).call b))
            rw [hg] at HG
            obtain ⟨b, o, rfl, hbl, hcs⟩ : ∃ b o, la = some ⟨b, o, none⟩ ∧ b < wr.heap.size ∧ ∀ (j : Nat) y, K[j]? = some y → wr.cell? ⟨b, o + j, none⟩ = some (.string y) := by
              rcases unhide HX with ⟨_, h⟩ | ⟨b, o, cap, h1, h2, h3⟩
              · rw [h] at hlt; simp at hlt
              · injection h1 with h1; exact ⟨b, o, h1, h2, h3⟩
            have cx := hcs k x hx
            obtain ⟨np, nk, nd, nt, nm⟩ := n
            simp only at HG
            by_cases hk0 : k = 0
            · subst hk0
              rw [Nat.add_zero] at cx
              have MK : Hid (∀ W', Below wr.heap.size wr W' → (fun W' => Below wr.heap.size wr W' ∧ W'.cell? ⟨X, 0, none⟩ = some (.slice va L.length vc) ∧ W'.cell? ⟨b, o, none⟩ = some (.string x)) W') := fun W' h => ⟨h, ((unhide HT).call h).cell 0, (h.cell (p := ⟨b, o, none⟩) hbl).trans cx⟩
              go_wp2_with fail
              refine wp_region_held_drew (S := fun W' => Below wr.heap.size wr W' ∧ W'.cell? ⟨X, 0, none⟩ = some (.slice va L.length vc) ∧ W'.cell? ⟨b, o, none⟩ = some (.string x)) (by kernel_rfl) ?_ (fun hHeld => ?_)
              · exact unhide MK _ ⟨rfl, rfl, rfl, Nat.le_refl _, fun _ _ => rfl⟩
              refine wpAnyH_take (i := 0) (v := ?_) rfl (by kernel_rfl) (by kernel_rfl) (by kernel_rfl) (fun _ _ _ h => h) (Or.inl ⟨by rfl, ?_⟩) (by assumption) ?_
              rotate_left
              · (intro w hSw; (try dsimp only at hSw); go_simp; (try with_reducible rfl))
              try simp only [Act.put, kB0, kB1, kB2, kB3, kB4, kB5]
              refine wpAnyH_take (i := 1) (v := ?_) rfl (by kernel_rfl) (by kernel_rfl) (by kernel_rfl) (fun _ _ _ h => h) (Or.inl ⟨by rfl, ?_⟩) (by assumption) ?_
              rotate_left
              · (intro w hSw; (try dsimp only at hSw); go_simp; (try with_reducible rfl))
              try simp only [Act.put, kB0, kB1, kB2, kB3, kB4, kB5]
              refine wpAnyH_take (i := 2) (v := ?_) rfl (by kernel_rfl) (by kernel_rfl) (by kernel_rfl) (fun _ _ _ h => h) (Or.inl ⟨by rfl, ?_⟩) (by assumption) ?_
              rotate_left
              · (intro w hSw; (try dsimp only at hSw); go_simp; (try with_reducible rfl))
              try simp only [Act.put, kB0, kB1, kB2, kB3, kB4, kB5]
              refine wpAnyH_take (i := 3) (v := undef) rfl (by kernel_rfl) (by kernel_rfl) (by kernel_rfl) (fun _ _ _ h => h) (Or.inr ⟨by rfl, rfl⟩) (by assumption) ?_
              try simp only [Act.put, kB0, kB1, kB2, kB3, kB4, kB5]
              refine wpAnyH_take (i := 4) (v := undef) rfl (by kernel_rfl) (by kernel_rfl) (by kernel_rfl) (fun _ _ _ h => h) (Or.inr ⟨by rfl, rfl⟩) (by assumption) ?_
              try simp only [Act.put, kB0, kB1, kB2, kB3, kB4, kB5]
              refine wpAnyH_take (i := 5) (v := undef) rfl (by kernel_rfl) (by kernel_rfl) (by kernel_rfl) (fun _ _ _ h => h) (Or.inr ⟨by rfl, rfl⟩) (by assumption) ?_
              try simp only [Act.put, kB0, kB1, kB2, kB3, kB4, kB5]
              refine wpAnyH_take (i := 6) (v := undef) rfl (by kernel_rfl) (by kernel_rfl) (by kernel_rfl) (fun _ _ _ h => h) (Or.inr ⟨by rfl, rfl⟩) (by assumption) ?_
              try simp only [Act.put, kB0, kB1, kB2, kB3, kB4, kB5]
              refine wpAnyH_take (i := 7) (v := undef) rfl (by kernel_rfl) (by kernel_rfl) (by kernel_rfl) (fun _ _ _ h => h) (Or.inr ⟨by rfl, rfl⟩) (by assumption) ?_
              try simp only [Act.put, kB0, kB1, kB2, kB3, kB4, kB5]
              refine wpAnyH_take (i := 8) (v := undef) rfl (by kernel_rfl) (by kernel_rfl) (by kernel_rfl) (fun _ _ _ h => h) (Or.inr ⟨by rfl, rfl⟩) (by assumption) ?_
              try simp only [Act.put, kB0, kB1, kB2, kB3, kB4, kB5]
              refine wpAnyH_take (i := 9) (v := undef) rfl (by kernel_rfl) (by kernel_rfl) (by kernel_rfl) (fun _ _ _ h => h) (Or.inr ⟨by rfl, rfl⟩) (by assumption) ?_
              try simp only [Act.put, kB0, kB1, kB2, kB3, kB4, kB5]
              refine wpAnyH_take (i := 10) (v := undef) rfl (by kernel_rfl) (by kernel_rfl) (by kernel_rfl) (fun _ _ _ h => h) (Or.inr ⟨by rfl, rfl⟩) (by assumption) ?_
              try simp only [Act.put, kB0, kB1, kB2, kB3, kB4, kB5]
              refine wpAnyH_take (i := 11) (v := undef) rfl (by kernel_rfl) (by kernel_rfl) (by kernel_rfl) (fun _ _ _ h => h) (Or.inr ⟨by rfl, rfl⟩) (by assumption) ?_
              try simp only [Act.put, kB0, kB1, kB2, kB3, kB4, kB5]
              refine wpAnyH_take (i := 12) (v := undef) rfl (by kernel_rfl) (by kernel_rfl) (by kernel_rfl) (fun _ _ _ h => h) (Or.inr ⟨by rfl, rfl⟩) (by assumption) ?_
              try simp only [Act.put, kB0, kB1, kB2, kB3, kB4, kB5]
              refine wpAnyH_take (i := 13) (v := ?_) rfl (by kernel_rfl) (by kernel_rfl) (by kernel_rfl) (fun _ _ _ h => h) (Or.inl ⟨by rfl, ?_⟩) (by assumption) ?_
              rotate_left
              · (intro w hSw; (try dsimp only at hSw); go_simp; (try with_reducible rfl))
              try simp only [Act.put, kB0, kB1, kB2, kB3, kB4, kB5]
              refine wpAnyH_take (i := 14) (v := ?_) rfl (by kernel_rfl) (by kernel_rfl) (by kernel_rfl) (fun _ _ _ h => h) (Or.inl ⟨by rfl, ?_⟩) (by assumption) ?_
              rotate_left
              · (intro w hSw; (try dsimp only at hSw); go_simp; (try with_reducible rfl))
              try simp only [Act.put, kB0, kB1, kB2, kB3, kB4, kB5]
              refine wpAnyH_take (i := 15) (v := ?_) rfl (by kernel_rfl) (by kernel_rfl) (by kernel_rfl) (fun _ _ _ h => h) (Or.inl ⟨by rfl, ?_⟩) (by assumption) ?_
              rotate_left
              · (intro w hSw; (try dsimp only at hSw); go_simp; (try with_reducible rfl))
              try simp only [Act.put, kB0, kB1, kB2, kB3, kB4, kB5]
              refine wpAnyH_take (i := 16) (v := ?_) rfl (by kernel_rfl) (by kernel_rfl) (by kernel_rfl) (fun _ _ _ h => h) (Or.inl ⟨by rfl, ?_⟩) (by assumption) ?_
              rotate_left
              · (intro w hSw; (try dsimp only at hSw); go_simp; (try with_reducible rfl))
              try simp only [Act.put, kB0, kB1, kB2, kB3, kB4, kB5]
              refine wpAnyH_take (i := 17) (v := ?_) rfl (by kernel_rfl) (by kernel_rfl) (by kernel_rfl) (fun _ _ _ h => h) (Or.inl ⟨by rfl, ?_⟩) (by assumption) ?_
              rotate_left
              · (intro w hSw; (try dsimp only at hSw); go_simp; (try with_reducible rfl))
              try simp only [Act.put, kB0, kB1, kB2, kB3, kB4, kB5]
              refine wpAnyH_take (i := 18) (v := ?_) rfl (by kernel_rfl) (by kernel_rfl) (by kernel_rfl) (fun _ _ _ h => h) (Or.inl ⟨by rfl, ?_⟩) (by assumption) ?_
              rotate_left
              · (intro w hSw; (try dsimp only at hSw); go_simp; (try with_reducible rfl))
              try simp only [Act.put, kB0, kB1, kB2, kB3, kB4, kB5]
              refine wpAnyH_take (i := 19) (v := ?_) rfl (by kernel_rfl) (by kernel_rfl) (by kernel_rfl) (fun _ _ _ h => h) (Or.inl ⟨by rfl, ?_⟩) (by assumption) ?_
              rotate_left
              · (intro w hSw; (try dsimp only at hSw); go_simp; (try with_reducible rfl))
              try simp only [Act.put, kB0, kB1, kB2, kB3, kB4, kB5]
              refine wpAnyH_take (i := 20) (v := ?_) rfl (by kernel_rfl) (by kernel_rfl) (by kernel_rfl) (fun _ _ _ h => h) (Or.inl ⟨by rfl, ?_⟩) (by assumption) ?_
              rotate_left
              · (intro w hSw; (try dsimp only at hSw); go_simp; (try with_reducible rfl))
              try simp only [Act.put, kB0, kB1, kB2, kB3, kB4, kB5]
              refine wpAnyH_ready (rs := [21]) (by kernel_rfl) (by simp) ?_
              refine AllReadyH.cons rfl (fun K hK => ?_) AllReadyH.nil
              go_simp
              refine (unhide HJ _).mono ?_
              rintro e wX ⟨rfl, bX⟩
              refine hK.out _ _ ?_ (fun hHeld => ?_)
              · exact unhide MK _ (hHeld.1.trans (bX.mono hHeld.1.size))
              clear hK K
              try simp only [Act.put, kB0, kB1, kB2, kB3, kB4, kB5]
              refine wpAnyH_take (i := 22) (v := ?_) rfl (by kernel_rfl) (by kernel_rfl) (by kernel_rfl) (fun _ _ _ h => h) (Or.inl ⟨by rfl, ?_⟩) (by assumption) ?_
              rotate_left
              · (intro w hSw; (try dsimp only at hSw); go_simp; (try with_reducible rfl))
              try simp only [Act.put, kB0, kB1, kB2, kB3, kB4, kB5]
              refine wpAnyH_ready (rs := [23]) (by kernel_rfl) (by simp) ?_
              refine AllReadyH.cons rfl (fun K hK => ?_) AllReadyH.nil
              go_simp
              refine (unhide HG _ (hwr.trans (hHeld.1.mono hwr.size)) hHeld.1).mono ?_
              rintro e wX ⟨rfl, bX⟩
              refine hK.out _ _ ?_ (fun hHeld => ?_)
              · exact unhide MK _ (hHeld.1.trans (bX.mono hHeld.1.size))
              clear hK K
              try simp only [Act.put, kB0, kB1, kB2, kB3, kB4, kB5]
              refine wpAnyH_take (i := 24) (v := ?_) rfl (by kernel_rfl) (by kernel_rfl) (by kernel_rfl) (fun _ _ _ h => h) (Or.inl ⟨by rfl, ?_⟩) (by assumption) ?_
              rotate_left
              · (intro w hSw; (try dsimp only at hSw); go_simp; (try with_reducible rfl))
              try simp only [Act.put, kB0, kB1, kB2, kB3, kB4, kB5]
              refine wpAnyH_take (i := 25) (v := ?_) rfl (by kernel_rfl) (by kernel_rfl) (by kernel_rfl) (fun _ _ _ h => h) (Or.inl ⟨by rfl, ?_⟩) (by assumption) ?_
              rotate_left
              · (intro w hSw; (try dsimp only at hSw); go_simp; (try with_reducible rfl))
              try simp only [Act.put, kB0, kB1, kB2, kB3, kB4, kB5]
              refine wpAnyH_take (i := 26) (v := ?_) rfl (by kernel_rfl) (by kernel_rfl) (by kernel_rfl) (fun _ _ _ h => h) (Or.inl ⟨by rfl, ?_⟩) (by assumption) ?_
              rotate_left
              · (intro w hSw; (try dsimp only at hSw); go_simp; (try with_reducible rfl))
              try simp only [Act.put, kB0, kB1, kB2, kB3, kB4, kB5]
              refine wpAnyH_done (by kernel_rfl) ?_ _
              have BF := hide (hwr.trans (hHeld.1.mono hwr.size))
              have TF := hide ((unhide HT).call hHeld.1)
              have NF := hide (Mem.nodes_call (unhide HV) hHeld.1)
              have XF := hide (Mem.texts_call (unhide HX) hHeld.1)
              clear hHeld MK
              go_wp2
              go_roundw
              case rel => exact ⟨0 + 1, by omega, by go_num, unhide BF, TF, NF, XF⟩
              case measure => simp [intOf]; omega
            · obtain ⟨x0, hx0⟩ : ∃ x0, K[k - 1]? = some x0 := ⟨_, List.getElem?_eq_getElem (by omega)⟩
              have cx0 := hcs (k - 1) x0 hx0
              have hup := unhide HUP (k - 1) x0 x hx0 (by rw [show k - 1 + 1 = k by omega]; exact hx)
              have z1 : (0 : Int) < (k : Int) := by omega
              have z1' : 0 < k := by omega
              have y4 : k - 1 < K.length := by omega
              have z2 : IntKind.i64.wrap ((k : Int) - 1) = ((k - 1 : Nat) : Int) := by have := unhide HK; rw [WSrc.wrap_small (by omega) (by omega)]; omega
              have hk40 : k ≤ 40 := by have := unhide HK; omega
              have MK : Hid (∀ W', Below wr.heap.size wr W' → (fun W' => Below wr.heap.size wr W' ∧ W'.cell? ⟨X, 0, none⟩ = some (.slice va L.length vc) ∧ W'.cell? ⟨b, o + k, none⟩ = some (.string x) ∧ W'.cell? ⟨b, o + (k - 1), none⟩ = some (.string x0)) W') := fun W' h => ⟨h, ((unhide HT).call h).cell 0, (h.cell (p := ⟨b, o + k, none⟩) hbl).trans cx, (h.cell (p := ⟨b, o + (k - 1), none⟩) hbl).trans cx0⟩
              go_wp2_with fail
              refine wp_region_held_drew (S := fun W' => Below wr.heap.size wr W' ∧ W'.cell? ⟨X, 0, none⟩ = some (.slice va L.length vc) ∧ W'.cell? ⟨b, o + k, none⟩ = some (.string x) ∧ W'.cell? ⟨b, o + (k - 1), none⟩ = some (.string x0)) (by kernel_rfl) ?_ (fun hHeld => ?_)
              · exact unhide MK _ ⟨rfl, rfl, rfl, Nat.le_refl _, fun _ _ => rfl⟩
              refine wpAnyH_take (i := 0) (v := ?_) rfl (by kernel_rfl) (by kernel_rfl) (by kernel_rfl) (fun _ _ _ h => h) (Or.inl ⟨by rfl, ?_⟩) (by assumption) ?_
              rotate_left
              · (intro w hSw; (try dsimp only at hSw); go_simp; (try with_reducible rfl))
              try simp only [Act.put, kB0, kB1, kB2, kB3, kB4, kB5]
              refine wpAnyH_take (i := 1) (v := ?_) rfl (by kernel_rfl) (by kernel_rfl) (by kernel_rfl) (fun _ _ _ h => h) (Or.inl ⟨by rfl, ?_⟩) (by assumption) ?_
              rotate_left
              · (intro w hSw; (try dsimp only at hSw); go_simp; (try with_reducible rfl))
              try simp only [Act.put, kB0, kB1, kB2, kB3, kB4, kB5]
              refine wpAnyH_take (i := 2) (v := ?_) rfl (by kernel_rfl) (by kernel_rfl) (by kernel_rfl) (fun _ _ _ h => h) (Or.inl ⟨by rfl, ?_⟩) (by assumption) ?_
              rotate_left
              · (intro w hSw; (try dsimp only at hSw); go_simp; (try with_reducible rfl))
              try simp only [Act.put, kB0, kB1, kB2, kB3, kB4, kB5]
              refine wpAnyH_take (i := 3) (v := ?_) rfl (by kernel_rfl) (by kernel_rfl) (by kernel_rfl) (fun _ _ _ h => h) (Or.inl ⟨by rfl, ?_⟩) (by assumption) ?_
              rotate_left
              · (intro w hSw; (try dsimp only at hSw); go_simp; (try with_reducible rfl))
              try simp only [Act.put, kB0, kB1, kB2, kB3, kB4, kB5]
              refine wpAnyH_take (i := 4) (v := ?_) rfl (by kernel_rfl) (by kernel_rfl) (by kernel_rfl) (fun _ _ _ h => h) (Or.inl ⟨by rfl, ?_⟩) (by assumption) ?_
              rotate_left
              · (intro w hSw; (try dsimp only at hSw); go_simp; (try with_reducible rfl))
              try simp only [Act.put, kB0, kB1, kB2, kB3, kB4, kB5]
              refine wpAnyH_take (i := 5) (v := ?_) rfl (by kernel_rfl) (by kernel_rfl) (by kernel_rfl) (fun _ _ _ h => h) (Or.inl ⟨by rfl, ?_⟩) (by assumption) ?_
              rotate_left
              · (intro w hSw; (try dsimp only at hSw); go_simp; (try with_reducible rfl))
              try simp only [Act.put, kB0, kB1, kB2, kB3, kB4, kB5]
              refine wpAnyH_take (i := 6) (v := ?_) rfl (by kernel_rfl) (by kernel_rfl) (by kernel_rfl) (fun _ _ _ h => h) (Or.inl ⟨by rfl, ?_⟩) (by assumption) ?_
              rotate_left
              · (intro w hSw; (try dsimp only at hSw); go_simp; (try with_reducible rfl))
              try simp only [Act.put, kB0, kB1, kB2, kB3, kB4, kB5]
              refine wpAnyH_take (i := 7) (v := ?_) rfl (by kernel_rfl) (by kernel_rfl) (by kernel_rfl) (fun _ _ _ h => h) (Or.inl ⟨by rfl, ?_⟩) (by assumption) ?_
              rotate_left
              · (intro w hSw; (try dsimp only at hSw); go_simp; (try with_reducible rfl))
              try simp only [Act.put, kB0, kB1, kB2, kB3, kB4, kB5]
              refine wpAnyH_take (i := 8) (v := ?_) rfl (by kernel_rfl) (by kernel_rfl) (by kernel_rfl) (fun _ _ _ h => h) (Or.inl ⟨by rfl, ?_⟩) (by assumption) ?_
              rotate_left
              · (intro w hSw; (try dsimp only at hSw); go_simp; (try with_reducible rfl))
              try simp only [Act.put, kB0, kB1, kB2, kB3, kB4, kB5]
              refine wpAnyH_take (i := 9) (v := ?_) rfl (by kernel_rfl) (by kernel_rfl) (by kernel_rfl) (fun _ _ _ h => h) (Or.inl ⟨by rfl, ?_⟩) (by assumption) ?_
              rotate_left
              · (intro w hSw; (try dsimp only at hSw); go_simp; (try with_reducible rfl))
              try simp only [Act.put, kB0, kB1, kB2, kB3, kB4, kB5]
              refine wpAnyH_take (i := 10) (v := ?_) rfl (by kernel_rfl) (by kernel_rfl) (by kernel_rfl) (fun _ _ _ h => h) (Or.inl ⟨by rfl, ?_⟩) (by assumption) ?_
              rotate_left
              · (intro w hSw; (try dsimp only at hSw); go_simp; (try with_reducible rfl))
              try simp only [Act.put, kB0, kB1, kB2, kB3, kB4, kB5]
              refine wpAnyH_take (i := 11) (v := ?_) rfl (by kernel_rfl) (by kernel_rfl) (by kernel_rfl) (fun _ _ _ h => h) (Or.inl ⟨by rfl, ?_⟩) (by assumption) ?_
              rotate_left
              · (intro w hSw; (try dsimp only at hSw); go_simp; (try with_reducible rfl))
              try simp only [Act.put, kB0, kB1, kB2, kB3, kB4, kB5]
              refine wpAnyH_take (i := 12) (v := ?_) rfl (by kernel_rfl) (by kernel_rfl) (by kernel_rfl) (fun _ _ _ h => h) (Or.inl ⟨by rfl, ?_⟩) (by assumption) ?_
              rotate_left
              · (intro w hSw; (try dsimp only at hSw); go_simp; (try with_reducible rfl))
              try simp only [Act.put, kB0, kB1, kB2, kB3, kB4, kB5]
              refine wpAnyH_take (i := 13) (v := ?_) rfl (by kernel_rfl) (by kernel_rfl) (by kernel_rfl) (fun _ _ _ h => h) (Or.inl ⟨by rfl, ?_⟩) (by assumption) ?_
              rotate_left
              · (intro w hSw; (try dsimp only at hSw); go_simp; (try with_reducible rfl))
              try simp only [Act.put, kB0, kB1, kB2, kB3, kB4, kB5]
              refine wpAnyH_take (i := 14) (v := ?_) rfl (by kernel_rfl) (by kernel_rfl) (by kernel_rfl) (fun _ _ _ h => h) (Or.inl ⟨by rfl, ?_⟩) (by assumption) ?_
              rotate_left
              · (intro w hSw; (try dsimp only at hSw); go_simp; (try with_reducible rfl))
              try simp only [Act.put, kB0, kB1, kB2, kB3, kB4, kB5]
              refine wpAnyH_take (i := 15) (v := ?_) rfl (by kernel_rfl) (by kernel_rfl) (by kernel_rfl) (fun _ _ _ h => h) (Or.inl ⟨by rfl, ?_⟩) (by assumption) ?_
              rotate_left
              · (intro w hSw; (try dsimp only at hSw); go_simp; (try with_reducible rfl))
              try simp only [Act.put, kB0, kB1, kB2, kB3, kB4, kB5]
              refine wpAnyH_take (i := 16) (v := ?_) rfl (by kernel_rfl) (by kernel_rfl) (by kernel_rfl) (fun _ _ _ h => h) (Or.inl ⟨by rfl, ?_⟩) (by assumption) ?_
              rotate_left
              · (intro w hSw; (try dsimp only at hSw); go_simp; (try with_reducible rfl))
              try simp only [Act.put, kB0, kB1, kB2, kB3, kB4, kB5]
              refine wpAnyH_take (i := 17) (v := ?_) rfl (by kernel_rfl) (by kernel_rfl) (by kernel_rfl) (fun _ _ _ h => h) (Or.inl ⟨by rfl, ?_⟩) (by assumption) ?_
              rotate_left
              · (intro w hSw; (try dsimp only at hSw); go_simp; (try with_reducible rfl))
              try simp only [Act.put, kB0, kB1, kB2, kB3, kB4, kB5]
              refine wpAnyH_take (i := 18) (v := ?_) rfl (by kernel_rfl) (by kernel_rfl) (by kernel_rfl) (fun _ _ _ h => h) (Or.inl ⟨by rfl, ?_⟩) (by assumption) ?_
              rotate_left
              · (intro w hSw; (try dsimp only at hSw); go_simp; (try with_reducible rfl))
              try simp only [Act.put, kB0, kB1, kB2, kB3, kB4, kB5]
              refine wpAnyH_take (i := 19) (v := ?_) rfl (by kernel_rfl) (by kernel_rfl) (by kernel_rfl) (fun _ _ _ h => h) (Or.inl ⟨by rfl, ?_⟩) (by assumption) ?_
              rotate_left
              · (intro w hSw; (try dsimp only at hSw); go_simp; (try with_reducible rfl))
              try simp only [Act.put, kB0, kB1, kB2, kB3, kB4, kB5]
              refine wpAnyH_take (i := 20) (v := ?_) rfl (by kernel_rfl) (by kernel_rfl) (by kernel_rfl) (fun _ _ _ h => h) (Or.inl ⟨by rfl, ?_⟩) (by assumption) ?_
              rotate_left
              · (intro w hSw; (try dsimp only at hSw); go_simp; (try with_reducible rfl))
              try simp only [Act.put, kB0, kB1, kB2, kB3, kB4, kB5]
              refine wpAnyH_ready (rs := [21]) (by kernel_rfl) (by simp) ?_
              refine AllReadyH.cons rfl (fun K hK => ?_) AllReadyH.nil
              go_simp
              refine (unhide HJ _).mono ?_
              rintro e wX ⟨rfl, bX⟩
              refine hK.out _ _ ?_ (fun hHeld => ?_)
              · exact unhide MK _ (hHeld.1.trans (bX.mono hHeld.1.size))
              clear hK K
              try simp only [Act.put, kB0, kB1, kB2, kB3, kB4, kB5]
              refine wpAnyH_take (i := 22) (v := ?_) rfl (by kernel_rfl) (by kernel_rfl) (by kernel_rfl) (fun _ _ _ h => h) (Or.inl ⟨by rfl, ?_⟩) (by assumption) ?_
              rotate_left
              · (intro w hSw; (try dsimp only at hSw); go_simp; (try with_reducible rfl))
              try simp only [Act.put, kB0, kB1, kB2, kB3, kB4, kB5]
              refine wpAnyH_ready (rs := [23]) (by kernel_rfl) (by simp) ?_
              refine AllReadyH.cons rfl (fun K hK => ?_) AllReadyH.nil
              go_simp
              refine (unhide HG _ (hwr.trans (hHeld.1.mono hwr.size)) hHeld.1).mono ?_
              rintro e wX ⟨rfl, bX⟩
              refine hK.out _ _ ?_ (fun hHeld => ?_)
              · exact unhide MK _ (hHeld.1.trans (bX.mono hHeld.1.size))
              clear hK K
              try simp only [Act.put, kB0, kB1, kB2, kB3, kB4, kB5]
              refine wpAnyH_take (i := 24) (v := ?_) rfl (by kernel_rfl) (by kernel_rfl) (by kernel_rfl) (fun _ _ _ h => h) (Or.inl ⟨by rfl, ?_⟩) (by assumption) ?_
              rotate_left
              · (intro w hSw; (try dsimp only at hSw); go_simp; (try with_reducible rfl))
              try simp only [Act.put, kB0, kB1, kB2, kB3, kB4, kB5]
              refine wpAnyH_take (i := 25) (v := ?_) rfl (by kernel_rfl) (by kernel_rfl) (by kernel_rfl) (fun _ _ _ h => h) (Or.inl ⟨by rfl, ?_⟩) (by assumption) ?_
              rotate_left
              · (intro w hSw; (try dsimp only at hSw); go_simp; (try with_reducible rfl))
              try simp only [Act.put, kB0, kB1, kB2, kB3, kB4, kB5]
              refine wpAnyH_take (i := 26) (v := ?_) rfl (by kernel_rfl) (by kernel_rfl) (by kernel_rfl) (fun _ _ _ h => h) (Or.inl ⟨by rfl, ?_⟩) (by assumption) ?_
              rotate_left
              · (intro w hSw; (try dsimp only at hSw); go_simp; (try with_reducible rfl))
              try simp only [Act.put, kB0, kB1, kB2, kB3, kB4, kB5]
              refine wpAnyH_done (by kernel_rfl) ?_ _
              have BF := hide (hwr.trans (hHeld.1.mono hwr.size))
              have TF := hide ((unhide HT).call hHeld.1)
              have NF := hide (Mem.nodes_call (unhide HV) hHeld.1)
              have XF := hide (Mem.texts_call (unhide HX) hHeld.1)
              clear hHeld MK
              clear z2
              go_wp2
              go_roundw
              case rel => exact ⟨k + 1, by omega, by go_num, unhide BF, TF, NF, XF⟩
              case measure => simp [intOf]; omega
          · have y1 : ¬ (k : Int) < (K.length : Int) := by omega
            rcases unhide HCN with hc | hc
            · have hc2 : (K.length : Int) = (cn : Int) := by omega
              clear HCN
              go_wp2
              go_ret
              exact ⟨rfl, hwr⟩
            · by_cases hc2 : (K.length : Int) = (cn : Int)
              · clear HCN hc
                go_wp2
                go_ret
                exact ⟨rfl, hwr⟩
              · have hc3 : (K.length : Int) = 0 := by omega
                clear HCN hc
                go_wp2
                go_ret
                exact ⟨rfl, hwr⟩
      · obtain ⟨n, hn⟩ : ∃ n, L[k]? = some n := ⟨_, List.getElem?_eq_getElem hlt⟩
        have hpb := ((unhide HND) rfl n (List.mem_of_getElem? hn)).1
        have HPP := hide (fun W => WPathS.parentF_any n.path W (by have := Pl.pathB_le hpb; omega))
        have e1 : Pl.glue (Pl.namesR n.path).dropLast = Pl.parent n.path := by rw [Pl.parent_right hpb, Pl.parentP]
        rw [e1] at HPP
        have HKI := hide (fun h => Pl.kids_in (p := p) hn h)
        have HKO := hide (fun h => Pl.kids_out (p := p) hn h)
        obtain ⟨b, o, rfl, hb, q0, -, -, -, -⟩ := (unhide HVr) k n hn
        have hkk := unhide HKL k
        go_wp2_with fail
        refine (unhide HRT _ hbel).mono ?_
        rintro e w6 ⟨rfl, b6⟩
        have q6 := (b6.cell (p := ⟨b, o + k * 5, none⟩) hb).trans q0
        have t6 := ((unhide HTr).call b6).cell 0
        simp only [kA0, kA1, kA2] at t6
        go_wp2_with fail
        refine (unhide HPP _).mono ?_
        rintro e w7 ⟨rfl, b7⟩
        have bel7 := (hbel.trans (b6.mono hbel.size)).trans (b7.mono (hbel.trans (b6.mono hbel.size)).size)
        clear HPP e1 hpb q0 q6 t6 t0 b6 b7
        by_cases hpe : Pl.parent n.path = p
        · have e2 := unhide HKI hpe
          have t2 := Pl.eq_lists hpe
          have e3 : ((Pl.kidsL p (L.take (k + 1))).length : Int) = ((Pl.kidsL p (L.take k)).length : Int) + 1 := by rw [e2]; simp
          clear HKI HKO e2 hpe
          go_wp2
          go_roundw
          case rel => exact ⟨k + 1, by omega, by go_num, by rw [e3], bel7, fun h => by cases h⟩
          case measure => simp [intOf]; omega
        · have e2 := unhide HKO hpe
          have t2 := Pl.ne_lists hpe
          clear HKI HKO hpe
          go_wp2
          go_roundw
          case rel => exact ⟨k + 1, by omega, by go_num, by rw [e2], bel7, fun h => by cases h⟩
          case measure => simp [intOf]; omega
    · have y1 : ¬ (k : Int) < (L.length : Int) := by omega
      have T6 := hide (Mem.texts_call (unhide T5) hbel)
      have HT6 := HTr
      have HV6 := HVr
      have bw6 := bw5.trans (hbel.mono bw5.size)
      have EC : ((Pl.kidsL p (L.take k)).length : Nat) = cn := by
        rw [unhide HCT]
        cases hTB : TB
        · have := hTk hTB; subst this; simp [Pl.kidsL]
        · rw [if_pos rfl, List.take_of_length_le (by omega)]
      generalize wr = w6 at T6 HT6 HV6 bw6 t0 ⊢
      clear hbel bw5 T5 HT5 HV5 HTr HVr HRT HND HCT HKL hTk
      go_wp2
      try rw [EC]
      clear EC
      go_loopw [8] (fun i wr => ∃ k : Nat, k ≤ K.length ∧ i = .int .i64 (k : Int) ∧ Below w.heap.size w wr ∧ Hid (Mem.Blk wr X #[.slice va L.length vc] 31) ∧ Hid (Mem.isNodes wr va L) ∧ Hid (Mem.isTexts wr (.slice la K.length lc) K)) (fun i _ => K.length - (intOf i).toNat)
      case atStart => exact ⟨0, Nat.zero_le _, rfl, bw6, HT6, HV6, T6⟩
      case round =>
        obtain ⟨k, hk, rfl, hwr, HT, HV, HX⟩ := hrel
        clear T6 HT6 HV6 bw6
        by_cases hlt : k < K.length
        · have y1 : (k : Int) < (K.length : Int) := by omega
          have y3 : (0 : Int) ≤ (k : Int) := by omega
          obtain ⟨x, hx⟩ : ∃ x, K[k]? = some x := ⟨_, List.getElem?_eq_getElem hlt⟩
          obtain ⟨q, n, hj, hq, hxs, hg⟩ := unhide HGT x (List.mem_of_getElem? hx)
          have HJ := hide (fun W => WPathS.joinF_any p x W (by omega) (by omega))
          rw [hj] at HJ
          simp only [Pl.tOut] at HJ
          have HG := hide (fun W (b : Below w.heap.size w W) (b2 : Below wr.heap.size wr W) => WGetT.impl_any va vc L q W (by omega) (Mem.nodes_call (unhide HV) b2) (unhide HOK) (by omega) _ ((unhide HE).call b))
          rw [hg] at HG
          obtain ⟨b, o, rfl, hbl, hcs⟩ : ∃ b o, la = some ⟨b, o, none⟩ ∧ b < wr.heap.size ∧ ∀ (j : Nat) y, K[j]? = some y → wr.cell? ⟨b, o + j, none⟩ = some (.string y) := by
            rcases unhide HX with ⟨_, h⟩ | ⟨b, o, cap, h1, h2, h3⟩
            · rw [h] at hlt; simp at hlt
            · injection h1 with h1; exact ⟨b, o, h1, h2, h3⟩
          have cx := hcs k x hx
          obtain ⟨np, nk, nd, nt, nm⟩ := n
          simp only at HG
          by_cases hk0 : k = 0
          · subst hk0
            rw [Nat.add_zero] at cx
            have MK : Hid (∀ W', Below wr.heap.size wr W' → (fun W' => Below wr.heap.size wr W' ∧ W'.cell? ⟨X, 0, none⟩ = some (.slice va L.length vc) ∧ W'.cell? ⟨b, o, none⟩ = some (.string x)) W') := fun W' h => ⟨h, ((unhide HT).call h).cell 0, (h.cell (p := ⟨b, o, none⟩) hbl).trans cx⟩
            go_wp2_with fail
            refine wp_region_held_drew (S := fun W' => Below wr.heap.size wr W' ∧ W'.cell? ⟨X, 0, none⟩ = some (.slice va L.length vc) ∧ W'.cell? ⟨b, o, none⟩ = some (.string x)) (by kernel_rfl) ?_ (fun hHeld => ?_)
            · exact unhide MK _ ⟨rfl, rfl, rfl, Nat.le_refl _, fun _ _ => rfl⟩
            refine wpAnyH_take (i := 0) (v := ?_) rfl (by kernel_rfl) (by kernel_rfl) (by kernel_rfl) (fun _ _ _ h => h) (Or.inl ⟨by rfl, ?_⟩) (by assumption) ?_
            rotate_left
            · (intro w hSw; (try dsimp only at hSw); go_simp; (try with_reducible rfl))
            try simp only [Act.put, kB0, kB1, kB2, kB3, kB4, kB5]
            refine wpAnyH_take (i := 1) (v := ?_) rfl (by kernel_rfl) (by kernel_rfl) (by kernel_rfl) (fun _ _ _ h => h) (Or.inl ⟨by rfl, ?_⟩) (by assumption) ?_
            rotate_left
            · (intro w hSw; (try dsimp only at hSw); go_simp; (try with_reducible rfl))
            try simp only [Act.put, kB0, kB1, kB2, kB3, kB4, kB5]
            refine wpAnyH_take (i := 2) (v := ?_) rfl (by kernel_rfl) (by kernel_rfl) (by kernel_rfl) (fun _ _ _ h => h) (Or.inl ⟨by rfl, ?_⟩) (by assumption) ?_
            rotate_left
            · (intro w hSw; (try dsimp only at hSw); go_simp; (try with_reducible rfl))
            try simp only [Act.put, kB0, kB1, kB2, kB3, kB4, kB5]
            refine wpAnyH_take (i := 3) (v := undef) rfl (by kernel_rfl) (by kernel_rfl) (by kernel_rfl) (fun _ _ _ h => h) (Or.inr ⟨by rfl, rfl⟩) (by assumption) ?_
            try simp only [Act.put, kB0, kB1, kB2, kB3, kB4, kB5]
            refine wpAnyH_take (i := 4) (v := undef) rfl (by kernel_rfl) (by kernel_rfl) (by kernel_rfl) (fun _ _ _ h => h) (Or.inr ⟨by rfl, rfl⟩) (by assumption) ?_
            try simp only [Act.put, kB0, kB1, kB2, kB3, kB4, kB5]
            refine wpAnyH_take (i := 5) (v := undef) rfl (by kernel_rfl) (by kernel_rfl) (by kernel_rfl) (fun _ _ _ h => h) (Or.inr ⟨by rfl, rfl⟩) (by assumption) ?_
            try simp only [Act.put, kB0, kB1, kB2, kB3, kB4, kB5]
            refine wpAnyH_take (i := 6) (v := undef) rfl (by kernel_rfl) (by kernel_rfl) (by kernel_rfl) (fun _ _ _ h => h) (Or.inr ⟨by rfl, rfl⟩) (by assumption) ?_
            try simp only [Act.put, kB0, kB1, kB2, kB3, kB4, kB5]
            refine wpAnyH_take (i := 7) (v := undef) rfl (by kernel_rfl) (by kernel_rfl) (by kernel_rfl) (fun _ _ _ h => h) (Or.inr ⟨by rfl, rfl⟩) (by assumption) ?_
            try simp only [Act.put, kB0, kB1, kB2, kB3, kB4, kB5]
            refine wpAnyH_take (i := 8) (v := undef) rfl (by kernel_rfl) (by kernel_rfl) (by kernel_rfl) (fun _ _ _ h => h) (Or.inr ⟨by rfl, rfl⟩) (by assumption) ?_
            try simp only [Act.put, kB0, kB1, kB2, kB3, kB4, kB5]
            refine wpAnyH_take (i := 9) (v := undef) rfl (by kernel_rfl) (by kernel_rfl) (by kernel_rfl) (fun _ _ _ h => h) (Or.inr ⟨by rfl, rfl⟩) (by assumption) ?_
            try simp only [Act.put, kB0, kB1, kB2, kB3, kB4, kB5]
            refine wpAnyH_take (i := 10) (v := undef) rfl (by kernel_rfl) (by kernel_rfl) (by kernel_rfl) (fun _ _ _ h => h) (Or.inr ⟨by rfl, rfl⟩) (by assumption) ?_
            try simp only [Act.put, kB0, kB1, kB2, kB3, kB4, kB5]
            refine wpAnyH_take (i := 11) (v := undef) rfl (by kernel_rfl) (by kernel_rfl) (by kernel_rfl) (fun _ _ _ h => h) (Or.inr ⟨by rfl, rfl⟩) (by assumption) ?_
            try simp only [Act.put, kB0, kB1, kB2, kB3, kB4, kB5]
            refine wpAnyH_take (i := 12) (v := undef) rfl (by kernel_rfl) (by kernel_rfl) (by kernel_rfl) (fun _ _ _ h => h) (Or.inr ⟨by rfl, rfl⟩) (by assumption) ?_
            try simp only [Act.put, kB0, kB1, kB2, kB3, kB4, kB5]
            refine wpAnyH_take (i := 13) (v := ?_) rfl (by kernel_rfl) (by kernel_rfl) (by kernel_rfl) (fun _ _ _ h => h) (Or.inl ⟨by rfl, ?_⟩) (by assumption) ?_
            rotate_left
            · (intro w hSw; (try dsimp only at hSw); go_simp; (try with_reducible rfl))
            try simp only [Act.put, kB0, kB1, kB2, kB3, kB4, kB5]
            refine wpAnyH_take (i := 14) (v := ?_) rfl (by kernel_rfl) (by kernel_rfl) (by kernel_rfl) (fun _ _ _ h => h) (Or.inl ⟨by rfl, ?_⟩) (by assumption) ?_
            rotate_left
            · (intro w hSw; (try dsimp only at hSw); go_simp; (try with_reducible rfl))
            try simp only [Act.put, kB0, kB1, kB2, kB3, kB4, kB5]
            refine wpAnyH_take (i := 15) (v := ?_) rfl (by kernel_rfl) (by kernel_rfl) (by kernel_rfl) (fun _ _ _ h => h) (Or.inl ⟨by rfl, ?_⟩) (by assumption) ?_
            rotate_left
            · (intro w hSw; (try dsimp only at hSw); go_simp; (try with_reducible rfl))
            try simp only [Act.put, kB0, kB1, kB2, kB3, kB4, kB5]
            refine wpAnyH_take (i := 16) (v := ?_) rfl (by kernel_rfl) (by kernel_rfl) (by kernel_rfl) (fun _ _ _ h => h) (Or.inl ⟨by rfl, ?_⟩) (by assumption) ?_
            rotate_left
            · (intro w hSw; (try dsimp only at hSw); go_simp; (try with_reducible rfl))
            try simp only [Act.put, kB0, kB1, kB2, kB3, kB4, kB5]
            refine wpAnyH_take (i := 17) (v := ?_) rfl (by kernel_rfl) (by kernel_rfl) (by kernel_rfl) (fun _ _ _ h => h) (Or.inl ⟨by rfl, ?_⟩) (by assumption) ?_
            rotate_left
            · (intro w hSw; (try dsimp only at hSw); go_simp; (try with_reducible rfl))
            try simp only [Act.put, kB0, kB1, kB2, kB3, kB4, kB5]
            refine wpAnyH_take (i := 18) (v := ?_) rfl (by kernel_rfl) (by kernel_rfl) (by kernel_rfl) (fun _ _ _ h => h) (Or.inl ⟨by rfl, ?_⟩) (by assumption) ?_
            rotate_left
            · (intro w hSw; (try dsimp only at hSw); go_simp; (try with_reducible rfl))
            try simp only [Act.put, kB0, kB1, kB2, kB3, kB4, kB5]
            refine wpAnyH_take (i := 19) (v := ?_) rfl (by kernel_rfl) (by kernel_rfl) (by kernel_rfl) (fun _ _ _ h => h) (Or.inl ⟨by rfl, ?_⟩) (by assumption) ?_
            rotate_left
            · (intro w hSw; (try dsimp only at hSw); go_simp; (try with_reducible rfl))
            try simp only [Act.put, kB0, kB1, kB2, kB3, kB4, kB5]
            refine wpAnyH_take (i := 20) (v := ?_) rfl (by kernel_rfl) (by kernel_rfl) (by kernel_rfl) (fun _ _ _ h => h) (Or.inl ⟨by rfl, ?_⟩) (by assumption) ?_
            rotate_left
            · (intro w hSw; (try dsimp only at hSw); go_simp; (try with_reducible rfl))
            try simp only [Act.put, kB0, kB1, kB2, kB3, kB4, kB5]
            refine wpAnyH_ready (rs := [21]) (by kernel_rfl) (by simp) ?_
            refine AllReadyH.cons rfl (fun K hK => ?_) AllReadyH.nil
            go_simp
            refine (unhide HJ _).mono ?_
            rintro e wX ⟨rfl, bX⟩
            refine hK.out _ _ ?_ (fun hHeld => ?_)
            · exact unhide MK _ (hHeld.1.trans (bX.mono hHeld.1.size))
            clear hK K
            try simp only [Act.put, kB0, kB1, kB2, kB3, kB4, kB5]
            refine wpAnyH_take (i := 22) (v := ?_) rfl (by kernel_rfl) (by kernel_rfl) (by kernel_rfl) (fun _ _ _ h => h) (Or.inl ⟨by rfl, ?_⟩) (by assumption) ?_
            rotate_left
            · (intro w hSw; (try dsimp only at hSw); go_simp; (try with_reducible rfl))
            try simp only [Act.put, kB0, kB1, kB2, kB3, kB4, kB5]
            refine wpAnyH_ready (rs := [23]) (by kernel_rfl) (by simp) ?_
            refine AllReadyH.cons rfl (fun K hK => ?_) AllReadyH.nil
            go_simp
            refine (unhide HG _ (hwr.trans (hHeld.1.mono hwr.size)) hHeld.1).mono ?_
            rintro e wX ⟨rfl, bX⟩
            refine hK.out _ _ ?_ (fun hHeld => ?_)
            · exact unhide MK _ (hHeld.1.trans (bX.mono hHeld.1.size))
            clear hK K
            try simp only [Act.put, kB0, kB1, kB2, kB3, kB4, kB5]
            refine wpAnyH_take (i := 24) (v := ?_) rfl (by kernel_rfl) (by kernel_rfl) (by kernel_rfl) (fun _ _ _ h => h) (Or.inl ⟨by rfl, ?_⟩) (by assumption) ?_
            rotate_left
            · (intro w hSw; (try dsimp only at hSw); go_simp; (try with_reducible rfl))
            try simp only [Act.put, kB0, kB1, kB2, kB3, kB4, kB5]
            refine wpAnyH_take (i := 25) (v := ?_) rfl (by kernel_rfl) (by kernel_rfl) (by kernel_rfl) (fun _ _ _ h => h) (Or.inl ⟨by rfl, ?_⟩) (by assumption) ?_
            rotate_left
            · (intro w hSw; (try dsimp only at hSw); go_simp; (try with_reducible rfl))
            try simp only [Act.put, kB0, kB1, kB2, kB3, kB4, kB5]
            refine wpAnyH_take (i := 26) (v := ?_) rfl (by kernel_rfl) (by kernel_rfl) (by kernel_rfl) (fun _ _ _ h => h) (Or.inl ⟨by rfl, ?_⟩) (by assumption) ?_
            rotate_left
            · (intro w hSw; (try dsimp only at hSw); go_simp; (try with_reducible rfl))
            try simp only [Act.put, kB0, kB1, kB2, kB3, kB4, kB5]
            refine wpAnyH_done (by kernel_rfl) ?_ _
            have BF := hide (hwr.trans (hHeld.1.mono hwr.size))
            have TF := hide ((unhide HT).call hHeld.1)
            have NF := hide (Mem.nodes_call (unhide HV) hHeld.1)
            have XF := hide (Mem.texts_call (unhide HX) hHeld.1)
            clear hHeld MK
            go_wp2
            go_roundw
            case rel => exact ⟨0 + 1, by omega, by go_num, unhide BF, TF, NF, XF⟩
            case measure => simp [intOf]; omega
          · obtain ⟨x0, hx0⟩ : ∃ x0, K[k - 1]? = some x0 := ⟨_, List.getElem?_eq_getElem (by omega)⟩
            have cx0 := hcs (k - 1) x0 hx0
            have hup := unhide HUP (k - 1) x0 x hx0 (by rw [show k - 1 + 1 = k by omega]; exact hx)
            have z1 : (0 : Int) < (k : Int) := by omega
            have z1' : 0 < k := by omega
            have y4 : k - 1 < K.length := by omega
            have z2 : IntKind.i64.wrap ((k : Int) - 1) = ((k - 1 : Nat) : Int) := by have := unhide HK; rw [WSrc.wrap_small (by omega) (by omega)]; omega
            have hk40 : k ≤ 40 := by have := unhide HK; omega
            have MK : Hid (∀ W', Below wr.heap.size wr W' → (fun W' => Below wr.heap.size wr W' ∧ W'.cell? ⟨X, 0, none⟩ = some (.slice va L.length vc) ∧ W'.cell? ⟨b, o + k, none⟩ = some (.string x) ∧ W'.cell? ⟨b, o + (k - 1), none⟩ = some (.string x0)) W') := fun W' h => ⟨h, ((unhide HT).call h).cell 0, (h.cell (p := ⟨b, o + k, none⟩) hbl).trans cx, (h.cell (p := ⟨b, o + (k - 1), none⟩) hbl).trans cx0⟩
            go_wp2_with fail
            refine wp_region_held_drew (S := fun W' => Below wr.heap.size wr W' ∧ W'.cell? ⟨X, 0, none⟩ = some (.slice va L.length vc) ∧ W'.cell? ⟨b, o + k, none⟩ = some (.string x) ∧ W'.cell? ⟨b, o + (k - 1), none⟩ = some (.string x0)) (by kernel_rfl) ?_ (fun hHeld => ?_)
            · exact unhide MK _ ⟨rfl, rfl, rfl, Nat.le_refl _, fun _ _ => rfl⟩
            refine wpAnyH_take (i := 0) (v := ?_) rfl (by kernel_rfl) (by kernel_rfl) (by kernel_rfl) (fun _ _ _ h => h) (Or.inl ⟨by rfl, ?_⟩) (by assumption) ?_
            rotate_left
            · (intro w hSw; (try dsimp only at hSw); go_simp; (try with_reducible rfl))
            try simp only [Act.put, kB0, kB1, kB2, kB3, kB4, kB5]
            refine wpAnyH_take (i := 1) (v := ?_) rfl (by kernel_rfl) (by kernel_rfl) (by kernel_rfl) (fun _ _ _ h => h) (Or.inl ⟨by rfl, ?_⟩) (by assumption) ?_
            rotate_left
            · (intro w hSw; (try dsimp only at hSw); go_simp; (try with_reducible rfl))
            try simp only [Act.put, kB0, kB1, kB2, kB3, kB4, kB5]
            refine wpAnyH_take (i := 2) (v := ?_) rfl (by kernel_rfl) (by kernel_rfl) (by kernel_rfl) (fun _ _ _ h => h) (Or.inl ⟨by rfl, ?_⟩) (by assumption) ?_
            rotate_left
            · (intro w hSw; (try dsimp only at hSw); go_simp; (try with_reducible rfl))
            try simp only [Act.put, kB0, kB1, kB2, kB3, kB4, kB5]
            refine wpAnyH_take (i := 3) (v := ?_) rfl (by kernel_rfl) (by kernel_rfl) (by kernel_rfl) (fun _ _ _ h => h) (Or.inl ⟨by rfl, ?_⟩) (by assumption) ?_
            rotate_left
            · (intro w hSw; (try dsimp only at hSw); go_simp; (try with_reducible rfl))
            try simp only [Act.put, kB0, kB1, kB2, kB3, kB4, kB5]
            refine wpAnyH_take (i := 4) (v := ?_) rfl (by kernel_rfl) (by kernel_rfl) (by kernel_rfl) (fun _ _ _ h => h) (Or.inl ⟨by rfl, ?_⟩) (by assumption) ?_
            rotate_left
            · (intro w hSw; (try dsimp only at hSw); go_simp; (try with_reducible rfl))
            try simp only [Act.put, kB0, kB1, kB2, kB3, kB4, kB5]
            refine wpAnyH_take (i := 5) (v := ?_) rfl (by kernel_rfl) (by kernel_rfl) (by kernel_rfl) (fun _ _ _ h => h) (Or.inl ⟨by rfl, ?_⟩) (by assumption) ?_
            rotate_left
            · (intro w hSw; (try dsimp only at hSw); go_simp; (try with_reducible rfl))
            try simp only [Act.put, kB0, kB1, kB2, kB3, kB4, kB5]
            refine wpAnyH_take (i := 6) (v := ?_) rfl (by kernel_rfl) (by kernel_rfl) (by kernel_rfl) (fun _ _ _ h => h) (Or.inl ⟨by rfl, ?_⟩) (by assumption) ?_
            rotate_left
            · (intro w hSw; (try dsimp only at hSw); go_simp; (try with_reducible rfl))
            try simp only [Act.put, kB0, kB1, kB2, kB3, kB4, kB5]
            refine wpAnyH_take (i := 7) (v := ?_) rfl (by kernel_rfl) (by kernel_rfl) (by kernel_rfl) (fun _ _ _ h => h) (Or.inl ⟨by rfl, ?_⟩) (by assumption) ?_
            rotate_left
            · (intro w hSw; (try dsimp only at hSw); go_simp; (try with_reducible rfl))
            try simp only [Act.put, kB0, kB1, kB2, kB3, kB4, kB5]
            refine wpAnyH_take (i := 8) (v := ?_) rfl (by kernel_rfl) (by kernel_rfl) (by kernel_rfl) (fun _ _ _ h => h) (Or.inl ⟨by rfl, ?_⟩) (by assumption) ?_
            rotate_left
            · (intro w hSw; (try dsimp only at hSw); go_simp; (try with_reducible rfl))
            try simp only [Act.put, kB0, kB1, kB2, kB3, kB4, kB5]
            refine wpAnyH_take (i := 9) (v := ?_) rfl (by kernel_rfl) (by kernel_rfl) (by kernel_rfl) (fun _ _ _ h => h) (Or.inl ⟨by rfl, ?_⟩) (by assumption) ?_
            rotate_left
            · (intro w hSw; (try dsimp only at hSw); go_simp; (try with_reducible rfl))
            try simp only [Act.put, kB0, kB1, kB2, kB3, kB4, kB5]
            refine wpAnyH_take (i := 10) (v := ?_) rfl (by kernel_rfl) (by kernel_rfl) (by kernel_rfl) (fun _ _ _ h => h) (Or.inl ⟨by rfl, ?_⟩) (by assumption) ?_
            rotate_left
            · (intro w hSw; (try dsimp only at hSw); go_simp; (try with_reducible rfl))
            try simp only [Act.put, kB0, kB1, kB2, kB3, kB4, kB5]
            refine wpAnyH_take (i := 11) (v := ?_) rfl (by kernel_rfl) (by kernel_rfl) (by kernel_rfl) (fun _ _ _ h => h) (Or.inl ⟨by rfl, ?_⟩) (by assumption) ?_
            rotate_left
            · (intro w hSw; (try dsimp only at hSw); go_simp; (try with_reducible rfl))
            try simp only [Act.put, kB0, kB1, kB2, kB3, kB4, kB5]
            refine wpAnyH_take (i := 12) (v := ?_) rfl (by kernel_rfl) (by kernel_rfl) (by kernel_rfl) (fun _ _ _ h => h) (Or.inl ⟨by rfl, ?_⟩) (by assumption) ?_
            rotate_left
            · (intro w hSw; (try dsimp only at hSw); go_simp; (try with_reducible rfl))
            try simp only [Act.put, kB0, kB1, kB2, kB3, kB4, kB5]
            refine wpAnyH_take (i := 13) (v := ?_) rfl (by kernel_rfl) (by kernel_rfl) (by kernel_rfl) (fun _ _ _ h => h) (Or.inl ⟨by rfl, ?_⟩) (by assumption) ?_
            rotate_left
            · (intro w hSw; (try dsimp only at hSw); go_simp; (try with_reducible rfl))
            try simp only [Act.put, kB0, kB1, kB2, kB3, kB4, kB5]
            refine wpAnyH_take (i := 14) (v := ?_) rfl (by kernel_rfl) (by kernel_rfl) (by kernel_rfl) (fun _ _ _ h => h) (Or.inl ⟨by rfl, ?_⟩) (by assumption) ?_
            rotate_left
            · (intro w hSw; (try dsimp only at hSw); go_simp; (try with_reducible rfl))
            try simp only [Act.put, kB0, kB1, kB2, kB3, kB4, kB5]
            refine wpAnyH_take (i := 15) (v := ?_) rfl (by kernel_rfl) (by kernel_rfl) (by kernel_rfl) (fun _ _ _ h => h) (Or.inl ⟨by rfl, ?_⟩) (by assumption) ?_
            rotate_left
            · (intro w hSw; (try dsimp only at hSw); go_simp; (try with_reducible rfl))
            try simp only [Act.put, kB0, kB1, kB2, kB3, kB4, kB5]
            refine wpAnyH_take (i := 16) (v := ?_) rfl (by kernel_rfl) (by kernel_rfl) (by kernel_rfl) (fun _ _ _ h => h) (Or.inl ⟨by rfl, ?_⟩) (by assumption) ?_
            rotate_left
            · (intro w hSw; (try dsimp only at hSw); go_simp; (try with_reducible rfl))
            try simp only [Act.put, kB0, kB1, kB2, kB3, kB4, kB5]
            refine wpAnyH_take (i := 17) (v := ?_) rfl (by kernel_rfl) (by kernel_rfl) (by kernel_rfl) (fun _ _ _ h => h) (Or.inl ⟨by rfl, ?_⟩) (by assumption) ?_
            rotate_left
            · (intro w hSw; (try dsimp only at hSw); go_simp; (try with_reducible rfl))
            try simp only [Act.put, kB0, kB1, kB2, kB3, kB4, kB5]
            refine wpAnyH_take (i := 18) (v := ?_) rfl (by kernel_rfl) (by kernel_rfl) (by kernel_rfl) (fun _ _ _ h => h) (Or.inl ⟨by rfl, ?_⟩) (by assumption) ?_
            rotate_left
            · (intro w hSw; (try dsimp only at hSw); go_simp; (try with_reducible rfl))
            try simp only [Act.put, kB0, kB1, kB2, kB3, kB4, kB5]
            refine wpAnyH_take (i := 19) (v := ?_) rfl (by kernel_rfl) (by kernel_rfl) (by kernel_rfl) (fun _ _ _ h => h) (Or.inl ⟨by rfl, ?_⟩) (by assumption) ?_
            rotate_left
            · (intro w hSw; (try dsimp only at hSw); go_simp; (try with_reducible rfl))
            try simp only [Act.put, kB0, kB1, kB2, kB3, kB4, kB5]
            refine wpAnyH_take (i := 20) (v := ?_) rfl (by kernel_rfl) (by kernel_rfl) (by kernel_rfl) (fun _ _ _ h => h) (Or.inl ⟨by rfl, ?_⟩) (by assumption) ?_
            rotate_left
            · (intro w hSw; (try dsimp only at hSw); go_simp; (try with_reducible rfl))
            try simp only [Act.put, kB0, kB1, kB2, kB3, kB4, kB5]
            refine wpAnyH_ready (rs := [21]) (by kernel_rfl) (by simp) ?_
            refine AllReadyH.cons rfl (fun K hK => ?_) AllReadyH.nil
            go_simp
            refine (unhide HJ _).mono ?_
            rintro e wX ⟨rfl, bX⟩
            refine hK.out _ _ ?_ (fun hHeld => ?_)
            · exact unhide MK _ (hHeld.1.trans (bX.mono hHeld.1.size))
            clear hK K
            try simp only [Act.put, kB0, kB1, kB2, kB3, kB4, kB5]
            refine wpAnyH_take (i := 22) (v := ?_) rfl (by kernel_rfl) (by kernel_rfl) (by kernel_rfl) (fun _ _ _ h => h) (Or.inl ⟨by rfl, ?_⟩) (by assumption) ?_
            rotate_left
            · (intro w hSw; (try dsimp only at hSw); go_simp; (try with_reducible rfl))
            try simp only [Act.put, kB0, kB1, kB2, kB3, kB4, kB5]
            refine wpAnyH_ready (rs := [23]) (by kernel_rfl) (by simp) ?_
            refine AllReadyH.cons rfl (fun K hK => ?_) AllReadyH.nil
            go_simp
            refine (unhide HG _ (hwr.trans (hHeld.1.mono hwr.size)) hHeld.1).mono ?_
            rintro e wX ⟨rfl, bX⟩
            refine hK.out _ _ ?_ (fun hHeld => ?_)
            · exact unhide MK _ (hHeld.1.trans (bX.mono hHeld.1.size))
            clear hK K
            try simp only [Act.put, kB0, kB1, kB2, kB3, kB4, kB5]
            refine wpAnyH_take (i := 24) (v := ?_) rfl (by kernel_rfl) (by kernel_rfl) (by kernel_rfl) (fun _ _ _ h => h) (Or.inl ⟨by rfl, ?_⟩) (by assumption) ?_
            rotate_left
            · (intro w hSw; (try dsimp only at hSw); go_simp; (try with_reducible rfl))
            try simp only [Act.put, kB0, kB1, kB2, kB3, kB4, kB5]
            refine wpAnyH_take (i := 25) (v := ?_) rfl (by kernel_rfl) (by kernel_rfl) (by kernel_rfl) (fun _ _ _ h => h) (Or.inl ⟨by rfl, ?_⟩) (by assumption) ?_
            rotate_left
            · (intro w hSw; (try dsimp only at hSw); go_simp; (try with_reducible rfl))
            try simp only [Act.put, kB0, kB1, kB2, kB3, kB4, kB5]
            refine wpAnyH_take (i := 26) (v := ?_) rfl (by kernel_rfl) (by kernel_rfl) (by kernel_rfl) (fun _ _ _ h => h) (Or.inl ⟨by rfl, ?_⟩) (by assumption) ?_
            rotate_left
            · (intro w hSw; (try dsimp only at hSw); go_simp; (try with_reducible rfl))
            try simp only [Act.put, kB0, kB1, kB2, kB3, kB4, kB5]
            refine wpAnyH_done (by kernel_rfl) ?_ _
            have BF := hide (hwr.trans (hHeld.1.mono hwr.size))
            have TF := hide ((unhide HT).call hHeld.1)
            have NF := hide (Mem.nodes_call (unhide HV) hHeld.1)
            have XF := hide (Mem.texts_call (unhide HX) hHeld.1)
            clear hHeld MK
            clear z2
            go_wp2
            go_roundw
            case rel => exact ⟨k + 1, by omega, by go_num, unhide BF, TF, NF, XF⟩
            case measure => simp [intOf]; omega
        · have y1 : ¬ (k : Int) < (K.length : Int) := by omega
          rcases unhide HCN with hc | hc
          · have hc2 : (K.length : Int) = (cn : Int) := by omega
            clear HCN
            go_wp2
            go_ret
            exact ⟨rfl, hwr⟩
          · by_cases hc2 : (K.length : Int) = (cn : Int)
            · clear HCN hc
              go_wp2
              go_ret
              exact ⟨rfl, hwr⟩
            · have hc3 : (K.length : Int) = 0 := by omega
              clear HCN hc
              go_wp2
              go_ret
              exact ⟨rfl, hwr⟩
end fnNames
end Go.Proofs.YtepmojmelcngeaaGreatDoor
