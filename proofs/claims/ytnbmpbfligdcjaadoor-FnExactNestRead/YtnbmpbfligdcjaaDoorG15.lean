/- Several texts of one claim in one file: WBytesT, MemAppend. -/
import Derived.Test.YtnbmpbfligdcjaaDoorG14
import Derived.Test.YtnbmpbfligdcjaaDoorG12
import Derived.Test.YtnbmpbfligdcjaaDoorG07
import Derived.Outline
import Derived.Test.YtnbmpbfligdcjaaDoorG06
import Derived.Deep.RegionHeld3
import Derived.Laws.AppendOwn
/- The walks of TreeBytes, of the program and of the specification. -/
namespace Go.Proofs.YtnbmpbfligdcjaaDoor
open Go.RowKit
namespace Pl
def num (n : Int) : ByteArray := ⟨(enc (fold n)).toArray⟩
def nodeP (n : Nd) : List ByteArray := [WText.put n.path, num n.kind, WText.put n.data, num n.time, num n.mark]
def partsT (L : List Nd) : List ByteArray := num L.length :: L.flatMap nodeP
def bytesT (L : List Nd) : ByteArray := ⟨(cat (partsT L)).toArray⟩
def treeBytes (L : List Nd) : ByteArray := if treeB L then (if 8000 < (bytesT L).size then ⟨#[]⟩ else bytesT L) else ⟨#[]⟩
end Pl
namespace Pl
theorem num_size {n : Int} (h1 : -9223372036854775808 ≤ n) (h2 : n ≤ 9223372036854775807) : (num n).size ≤ 11 := by
  have h := enc_length_le 10 (fold n) (Nat.lt_of_lt_of_le (fold_lt h1 h2) (by decide))
  show (enc (fold n)).toArray.size ≤ 11
  simpa using h
theorem put_size {s : ByteArray} (h : s.size ≤ 8000) : (WText.put s).size ≤ s.size + 11 := by
  rw [WText.put_short (by omega)]
  have h := enc_length_le 10 (fold s.size) (Nat.lt_of_lt_of_le (fold_lt (by omega) (by omega)) (by decide))
  show (enc (fold s.size) ++ s.data.toList).toArray.size ≤ s.size + 11
  have e : s.data.toList.length = s.size := Array.length_toList
  simp only [List.size_toArray, List.length_append, e]
  omega
/-- The bytes so far. -/
def upTo (L : List Nd) (k : Nat) : ByteArray := ⟨(cat (num L.length :: (L.take k).flatMap nodeP)).toArray⟩
theorem cat_app (A B : List ByteArray) : cat (A ++ B) = cat A ++ cat B := by simp [cat]
theorem upTo_step (L : List Nd) {n : Nd} {k : Nat} (h : L[k]? = some n) : upTo L (k + 1) = upTo L k ++ WText.put n.path ++ num n.kind ++ WText.put n.data ++ num n.time ++ num n.mark := by
  have h1 := (List.getElem?_eq_some_iff.1 h)
  apply ByteArray.ext
  apply Array.toList_inj.1
  have e : L.take (k + 1) = L.take k ++ [n] := by rw [List.take_succ_eq_append_getElem h1.1, h1.2]
  have h2 : (num L.length :: (L.take (k + 1)).flatMap nodeP) = (num L.length :: (L.take k).flatMap nodeP) ++ nodeP n := by rw [e, List.flatMap_append]; simp
  simp only [upTo, h2, cat_app]
  simp [nodeP, cat]
theorem kind_range {n : Nd} (h : kindB n = true) : 0 ≤ n.kind ∧ n.kind ≤ 2 := by
  unfold kindB at h
  split at h
  · omega
  split at h
  · omega
  split at h
  · omega
  · cases h
theorem upTo_zero (L : List Nd) : upTo L 0 = num L.length := by
  apply ByteArray.ext; apply Array.toList_inj.1; simp [upTo, cat]
theorem upTo_end (L : List Nd) : upTo L L.length = bytesT L := by simp [upTo, bytesT, partsT]
end Pl
namespace WBytesT
set_option linter.unusedSimpArgs false in
set_option maxRecDepth 100000 in
set_option maxHeartbeats 2000000 in
theorem bytes_any (a : Option Addr) (cap : Nat) (L : List Pl.Nd) (w : World) (h40 : L.length ≤ 40) (hv : Mem.isNodes w a L) (hok : ∀ n ∈ L, Pl.nodeB n = true) :
    Calls Tryd.prog 29 #[.agg #[.slice a L.length cap]] w fun e w' => e = .returned (.string (Pl.bytesT L)) ∧ Below w.heap.size w w' := by
  have b0 : Below w.heap.size w (w.alloc (.cells #[.slice a L.length cap] 29)) := (Below.refl _ _).alloc (Nat.le_refl _) _
  have hvar := Mem.var_new w [.slice a L.length cap] 29
  have HV := hide hv
  have HO := hide hok
  have hp := hide (WNum.specPut (L.length : Int) (w.alloc (.cells #[.slice a L.length cap] 29)) (by omega) (by omega))
  clear hv hok
  go_enter Tryd.func29, Tryd.ntmps29
  go_wp2_with fail
  refine (unhide hp).mono ?_
  rintro e w1 ⟨rfl, b1⟩
  have b2 := b0.trans (b1.mono b0.size)
  have HVAR := hide (Mem.var_call hvar b1)
  clear hvar b0 b1 hp
  go_wp2
  go_loopw [3, 4] (fun v i wr => ∃ (k : Nat) (B : ByteArray), k ≤ L.length ∧ i = .int .i64 (k : Int) ∧ v = .string B ∧ B.size ≤ 11 + k * 400 ∧ Below w.heap.size w wr ∧ Hid (Mem.Var wr w.heap.size [.slice a L.length cap]) ∧ Hid (B = Pl.upTo L k)) (fun _ i _ => L.length - (intOf i).toNat)
  case atStart => exact ⟨0, _, Nat.zero_le _, rfl, rfl, by have := Pl.num_size (n := (L.length : Int)) (by omega) (by omega); exact this, b2, HVAR, hide (Pl.upTo_zero L).symm⟩
  case round =>
    obtain ⟨k, B, hk, rfl, rfl, hBs, hbel, HVAR2, HBE⟩ := hrel
    have cv := (unhide HVAR2).2 0 _ rfl
    by_cases hlt : k < L.length
    · obtain ⟨n, hn⟩ : ∃ n, L[k]? = some n := ⟨_, List.getElem?_eq_getElem hlt⟩
      obtain ⟨b, o, rfl, hb, q0, q1, q2, q3, q4⟩ := (Mem.nodes_call (unhide HV) hbel) k n hn
      have hnb := unhide HO n (List.mem_of_getElem? hn)
      have hnr := Pl.pathB_le (Pl.node_right hnb).1
      obtain ⟨hnd, hnt, hnm, hnk⟩ := Pl.node_bounds hnb
      have hkk := Pl.kind_range hnk
      have HST := hide (Pl.upTo_step L hn)
      have y1 : (k : Int) < (L.length : Int) := by omega
      have y3 : (0 : Int) ≤ (k : Int) := by omega
      obtain ⟨p, k0, d, t, m⟩ := n
      simp only at q0 q1 q2 q3 q4 hnr hnd hnt hnm hkk HST
      have cp := hide (fun W => WText.spec_any p W (by unfold maxLen; omega))
      have cd := hide (fun W => WText.spec_any d W (by unfold maxLen; omega))
      have ck := hide (fun W => WNum.specPut k0 W (by omega) (by omega))
      have ct := hide (fun W => WNum.specPut t W (by omega) (by omega))
      have cm := hide (fun W => WNum.specPut m W (by omega) (by omega))
      have zp := Pl.put_size (s := p) (by omega)
      have zd := Pl.put_size (s := d) (by omega)
      have zk := Pl.num_size (n := k0) (by omega) (by omega)
      have zt := Pl.num_size (n := t) (by omega) (by omega)
      have zm := Pl.num_size (n := m) (by omega) (by omega)
      change Hid (∀ W, Calls Tryd.prog _ _ W fun e w' => e = .returned (.string (Pl.num k0)) ∧ _) at ck
      change Hid (∀ W, Calls Tryd.prog _ _ W fun e w' => e = .returned (.string (Pl.num t)) ∧ _) at ct
      change Hid (∀ W, Calls Tryd.prog _ _ W fun e w' => e = .returned (.string (Pl.num m)) ∧ _) at cm
      generalize WText.put p = P1 at cp zp HST
      generalize WText.put d = D1 at cd zd HST
      generalize Pl.num k0 = K1 at ck zk HST
      generalize Pl.num t = T1 at ct zt HST
      generalize Pl.num m = M1 at cm zm HST
      go_wp2_with fail
      have zn := Mem.var_new wr [.string p, .int .i64 k0, .string d, .int .i64 t, .int .i64 m] 57
      have bw1 : Below wr.heap.size wr (wr.alloc (.cells #[.string p, .int .i64 k0, .string d, .int .i64 t, .int .i64 m] 57)) := (Below.refl _ _).alloc (Nat.le_refl _) _
      have hsz : (wr.alloc (.cells #[.string p, .int .i64 k0, .string d, .int .i64 t, .int .i64 m] 57)).heap.size = wr.heap.size + 1 := by simp
      generalize hW0 : wr.alloc (.cells #[.string p, .int .i64 k0, .string d, .int .i64 t, .int .i64 m] 57) = W0
      rw [hW0] at bw1 hsz
      have zn : Mem.Var W0 wr.heap.size [.string p, .int .i64 k0, .string d, .int .i64 t, .int .i64 m] := hW0 ▸ Mem.var_new wr [.string p, .int .i64 k0, .string d, .int .i64 t, .int .i64 m] 57
      have z2 : wr.heap.size < W0.heap.size := by omega
      have bw0 : Below w.heap.size w W0 := hbel.trans (bw1.mono hbel.size)
      have VW0 := hide (Mem.var_call (unhide HVAR2) bw1)
      have MK : Hid (∀ W', Below W0.heap.size W0 W' → (Below W0.heap.size W0 W' ∧ W'.cell? ⟨wr.heap.size, 0, none⟩ = some (.string p) ∧ W'.cell? ⟨wr.heap.size, 1, none⟩ = some (.int .i64 k0) ∧ W'.cell? ⟨wr.heap.size, 2, none⟩ = some (.string d) ∧ W'.cell? ⟨wr.heap.size, 3, none⟩ = some (.int .i64 t) ∧ W'.cell? ⟨wr.heap.size, 4, none⟩ = some (.int .i64 m))) := fun W' hb' => ⟨hb', (hb'.cell (p := ⟨wr.heap.size, 0, none⟩) z2).trans (zn.2 0 _ rfl), (hb'.cell (p := ⟨wr.heap.size, 1, none⟩) z2).trans (zn.2 1 _ rfl), (hb'.cell (p := ⟨wr.heap.size, 2, none⟩) z2).trans (zn.2 2 _ rfl), (hb'.cell (p := ⟨wr.heap.size, 3, none⟩) z2).trans (zn.2 3 _ rfl), (hb'.cell (p := ⟨wr.heap.size, 4, none⟩) z2).trans (zn.2 4 _ rfl)⟩
      have a1 : ¬ 9223372036854775807 < B.size + P1.size := by omega
      have a2 : ¬ 9223372036854775807 < B.size + P1.size + K1.size := by omega
      have a3 : ¬ 9223372036854775807 < B.size + P1.size + K1.size + D1.size := by omega
      have a4 : ¬ 9223372036854775807 < B.size + P1.size + K1.size + D1.size + T1.size := by omega
      have a5 : ¬ 9223372036854775807 < B.size + P1.size + K1.size + D1.size + T1.size + M1.size := by omega
      clear hW0 q0 q1 q2 q3 q4 cv hn hnb hnk
      refine wp_region_held_drew (S := fun W' => Below W0.heap.size W0 W' ∧ W'.cell? ⟨wr.heap.size, 0, none⟩ = some (.string p) ∧ W'.cell? ⟨wr.heap.size, 1, none⟩ = some (.int .i64 k0) ∧ W'.cell? ⟨wr.heap.size, 2, none⟩ = some (.string d) ∧ W'.cell? ⟨wr.heap.size, 3, none⟩ = some (.int .i64 t) ∧ W'.cell? ⟨wr.heap.size, 4, none⟩ = some (.int .i64 m)) (by kernel_rfl) ?_ (fun hHeld => ?_)
      · exact unhide MK _ ((Below.refl _ _).trans ⟨rfl, rfl, rfl, Nat.le_refl _, fun _ _ => rfl⟩)
      refine wpAnyH_take (i := 0) (v := ?_) rfl (by kernel_rfl) (by kernel_rfl) (by kernel_rfl) (fun _ _ _ h => h) (Or.inl ⟨by rfl, ?_⟩) (by assumption) ?_
      rotate_left
      · (intro w hSw; (try dsimp only at hSw); go_simp; (try with_reducible rfl))
      try simp only [Act.put, kB0, kB1, kB2, kB3, kB4, kB5]
      refine wpAnyH_take (i := 1) (v := ?_) rfl (by kernel_rfl) (by kernel_rfl) (by kernel_rfl) (fun _ _ _ h => h) (Or.inl ⟨by rfl, ?_⟩) (by assumption) ?_
      rotate_left
      · (intro w hSw; (try dsimp only at hSw); go_simp; (try with_reducible rfl))
      try simp only [Act.put, kB0, kB1, kB2, kB3, kB4, kB5]
      refine wpAnyH_take (i := 2) (v := ?_) rfl (by kernel_rfl) (by kernel_rfl) (by kernel_rfl) (fun _ _ _ h => h) (Or.inl ⟨by rfl, ?_⟩) (by assumption) ?_
      rotate_left
      · (intro w hSw; (try dsimp only at hSw); go_simp; (try with_reducible rfl))
      try simp only [Act.put, kB0, kB1, kB2, kB3, kB4, kB5]
      refine wpAnyH_take (i := 5) (v := ?_) rfl (by kernel_rfl) (by kernel_rfl) (by kernel_rfl) (fun _ _ _ h => h) (Or.inl ⟨by rfl, ?_⟩) (by assumption) ?_
      rotate_left
      · (intro w hSw; (try dsimp only at hSw); go_simp; (try with_reducible rfl))
      try simp only [Act.put, kB0, kB1, kB2, kB3, kB4, kB5]
      refine wpAnyH_take (i := 6) (v := ?_) rfl (by kernel_rfl) (by kernel_rfl) (by kernel_rfl) (fun _ _ _ h => h) (Or.inl ⟨by rfl, ?_⟩) (by assumption) ?_
      rotate_left
      · (intro w hSw; (try dsimp only at hSw); go_simp; (try with_reducible rfl))
      try simp only [Act.put, kB0, kB1, kB2, kB3, kB4, kB5]
      refine wpAnyH_take (i := 9) (v := ?_) rfl (by kernel_rfl) (by kernel_rfl) (by kernel_rfl) (fun _ _ _ h => h) (Or.inl ⟨by rfl, ?_⟩) (by assumption) ?_
      rotate_left
      · (intro w hSw; (try dsimp only at hSw); go_simp; (try with_reducible rfl))
      try simp only [Act.put, kB0, kB1, kB2, kB3, kB4, kB5]
      refine wpAnyH_take (i := 10) (v := ?_) rfl (by kernel_rfl) (by kernel_rfl) (by kernel_rfl) (fun _ _ _ h => h) (Or.inl ⟨by rfl, ?_⟩) (by assumption) ?_
      rotate_left
      · (intro w hSw; (try dsimp only at hSw); go_simp; (try with_reducible rfl))
      try simp only [Act.put, kB0, kB1, kB2, kB3, kB4, kB5]
      refine wpAnyH_take (i := 13) (v := ?_) rfl (by kernel_rfl) (by kernel_rfl) (by kernel_rfl) (fun _ _ _ h => h) (Or.inl ⟨by rfl, ?_⟩) (by assumption) ?_
      rotate_left
      · (intro w hSw; (try dsimp only at hSw); go_simp; (try with_reducible rfl))
      try simp only [Act.put, kB0, kB1, kB2, kB3, kB4, kB5]
      refine wpAnyH_take (i := 14) (v := ?_) rfl (by kernel_rfl) (by kernel_rfl) (by kernel_rfl) (fun _ _ _ h => h) (Or.inl ⟨by rfl, ?_⟩) (by assumption) ?_
      rotate_left
      · (intro w hSw; (try dsimp only at hSw); go_simp; (try with_reducible rfl))
      try simp only [Act.put, kB0, kB1, kB2, kB3, kB4, kB5]
      refine wpAnyH_take (i := 17) (v := ?_) rfl (by kernel_rfl) (by kernel_rfl) (by kernel_rfl) (fun _ _ _ h => h) (Or.inl ⟨by rfl, ?_⟩) (by assumption) ?_
      rotate_left
      · (intro w hSw; (try dsimp only at hSw); go_simp; (try with_reducible rfl))
      try simp only [Act.put, kB0, kB1, kB2, kB3, kB4, kB5]
      refine wpAnyH_take (i := 18) (v := ?_) rfl (by kernel_rfl) (by kernel_rfl) (by kernel_rfl) (fun _ _ _ h => h) (Or.inl ⟨by rfl, ?_⟩) (by assumption) ?_
      rotate_left
      · (intro w hSw; (try dsimp only at hSw); go_simp; (try with_reducible rfl))
      try simp only [Act.put, kB0, kB1, kB2, kB3, kB4, kB5]
      refine wpAnyH_ready (rs := [3]) (by kernel_rfl) (by simp) ?_
      refine AllReadyH.cons rfl (fun K hK => ?_) AllReadyH.nil
      go_simp
      refine (unhide cp _).mono ?_
      rintro e wX ⟨rfl, bX⟩
      refine hK.out _ _ ?_ (fun hHeld => ?_)
      · exact unhide MK _ (hHeld.1.trans (bX.mono hHeld.1.size))
      clear hK K
      try simp only [Act.put, kB0, kB1, kB2, kB3, kB4, kB5]
      refine wpAnyH_take (i := 4) (v := ?_) rfl (by kernel_rfl) (by kernel_rfl) (by kernel_rfl) (fun _ _ _ h => h) (Or.inl ⟨by rfl, ?_⟩) (by assumption) ?_
      rotate_left
      · (intro w hSw; (try dsimp only at hSw); go_simp; (try with_reducible rfl))
      try simp only [Act.put, kB0, kB1, kB2, kB3, kB4, kB5]
      refine wpAnyH_ready (rs := [7]) (by kernel_rfl) (by simp) ?_
      refine AllReadyH.cons rfl (fun K hK => ?_) AllReadyH.nil
      go_simp
      refine (unhide ck _).mono ?_
      rintro e wX ⟨rfl, bX⟩
      refine hK.out _ _ ?_ (fun hHeld => ?_)
      · exact unhide MK _ (hHeld.1.trans (bX.mono hHeld.1.size))
      clear hK K
      try simp only [Act.put, kB0, kB1, kB2, kB3, kB4, kB5]
      refine wpAnyH_take (i := 8) (v := ?_) rfl (by kernel_rfl) (by kernel_rfl) (by kernel_rfl) (fun _ _ _ h => h) (Or.inl ⟨by rfl, ?_⟩) (by assumption) ?_
      rotate_left
      · (intro w hSw; (try dsimp only at hSw); go_simp; (try with_reducible rfl))
      try simp only [Act.put, kB0, kB1, kB2, kB3, kB4, kB5]
      refine wpAnyH_ready (rs := [11]) (by kernel_rfl) (by simp) ?_
      refine AllReadyH.cons rfl (fun K hK => ?_) AllReadyH.nil
      go_simp
      refine (unhide cd _).mono ?_
      rintro e wX ⟨rfl, bX⟩
      refine hK.out _ _ ?_ (fun hHeld => ?_)
      · exact unhide MK _ (hHeld.1.trans (bX.mono hHeld.1.size))
      clear hK K
      try simp only [Act.put, kB0, kB1, kB2, kB3, kB4, kB5]
      refine wpAnyH_take (i := 12) (v := ?_) rfl (by kernel_rfl) (by kernel_rfl) (by kernel_rfl) (fun _ _ _ h => h) (Or.inl ⟨by rfl, ?_⟩) (by assumption) ?_
      rotate_left
      · (intro w hSw; (try dsimp only at hSw); go_simp; (try with_reducible rfl))
      try simp only [Act.put, kB0, kB1, kB2, kB3, kB4, kB5]
      refine wpAnyH_ready (rs := [15]) (by kernel_rfl) (by simp) ?_
      refine AllReadyH.cons rfl (fun K hK => ?_) AllReadyH.nil
      go_simp
      refine (unhide ct _).mono ?_
      rintro e wX ⟨rfl, bX⟩
      refine hK.out _ _ ?_ (fun hHeld => ?_)
      · exact unhide MK _ (hHeld.1.trans (bX.mono hHeld.1.size))
      clear hK K
      try simp only [Act.put, kB0, kB1, kB2, kB3, kB4, kB5]
      refine wpAnyH_take (i := 16) (v := ?_) rfl (by kernel_rfl) (by kernel_rfl) (by kernel_rfl) (fun _ _ _ h => h) (Or.inl ⟨by rfl, ?_⟩) (by assumption) ?_
      rotate_left
      · (intro w hSw; (try dsimp only at hSw); go_simp; (try with_reducible rfl))
      try simp only [Act.put, kB0, kB1, kB2, kB3, kB4, kB5]
      refine wpAnyH_ready (rs := [19]) (by kernel_rfl) (by simp) ?_
      refine AllReadyH.cons rfl (fun K hK => ?_) AllReadyH.nil
      go_simp
      refine (unhide cm _).mono ?_
      rintro e wX ⟨rfl, bX⟩
      refine hK.out _ _ ?_ (fun hHeld => ?_)
      · exact unhide MK _ (hHeld.1.trans (bX.mono hHeld.1.size))
      clear hK K
      try simp only [Act.put, kB0, kB1, kB2, kB3, kB4, kB5]
      refine wpAnyH_take (i := 20) (v := ?_) rfl (by kernel_rfl) (by kernel_rfl) (by kernel_rfl) (fun _ _ _ h => h) (Or.inl ⟨by rfl, ?_⟩) (by assumption) ?_
      rotate_left
      · (intro w hSw; (try dsimp only at hSw); go_simp; (try with_reducible rfl))
      try simp only [Act.put, kB0, kB1, kB2, kB3, kB4, kB5]
      refine wpAnyH_take (i := 21) (v := ?_) rfl (by kernel_rfl) (by kernel_rfl) (by kernel_rfl) (fun _ _ _ h => h) (Or.inl ⟨by rfl, ?_⟩) (by assumption) ?_
      rotate_left
      · (intro w hSw; (try dsimp only at hSw); go_simp; (try with_reducible rfl))
      try simp only [Act.put, kB0, kB1, kB2, kB3, kB4, kB5]
      refine wpAnyH_done (by kernel_rfl) ?_ _
      have bfin := hide (bw0.trans (hHeld.1.mono bw0.size))
      have HV3 := hide (Mem.var_call (unhide VW0) hHeld.1)
      have HBE2 := hide (show B ++ P1 ++ K1 ++ D1 ++ T1 ++ M1 = Pl.upTo L (k + 1) by rw [unhide HST, unhide HBE])
      have hz5 : (B ++ P1 ++ K1 ++ D1 ++ T1 ++ M1).size ≤ 11 + (k + 1) * 400 := by simp only [ByteArray.size_append]; omega
      clear hHeld MK a1 a2 a3 a4 a5
      go_wp2
      go_roundw
      case rel => exact ⟨k + 1, _, by omega, by go_num, rfl, hz5, unhide bfin, HV3, HBE2⟩
      case measure => simp [intOf]; omega
    · obtain rfl : k = L.length := by omega
      have E := hide ((unhide HBE).trans (Pl.upTo_end L))
      go_wp2
      go_ret
      exact ⟨ret_string (unhide E), hbel⟩
end WBytesT
end Go.Proofs.YtnbmpbfligdcjaaDoor

/- An append to a row of the call's own, inside a region that draws its order; a variable of five cells through it. -/
namespace Go.Proofs.YtnbmpbfligdcjaaDoor
open Go.RowKit
namespace Mem
theorem step_append_own {P : Program} {ops : Array Oper} {o : Oper} {a : Act} {w : World} {K : Act → World → Prop} {Q : Exit → Act → World → Prop} {E : Prop}
    (hg : o.guard = none) (s x : Operand) (t : TypeId) (hop : o.op = Op.call { callee := Callee.builtin Builtin.append, args := #[s, x], argTypes := #[t, t] })
    (base : Nat) (e : TypeId) (i : TypeInfo) (z : Value) (size bytes : Nat) (h1 : P.underlying t = some (.slice e)) (h2 : P.info? e = some i) (h3 : i.zero = some z) (h4 : i.size = size) (h5 : i.bytes = bytes) (h6 : z.cells.size = size) (h7 : 0 < size)
    (v : Value) (n : Nat) (xs : List Value) (hs : a.eval s = v) (hown : w.ownsRow base e size v n xs)
    (ad : Addr) (m c : Nat) (news : List Value) (hx : a.eval x = .slice (some ad) m c) (hn : news.length = m * size) (hc : ∀ j u, news[j]? = some u → w.cell? (ad.add j) = some u) (h1c : ∀ u ∈ news, u.oneCell' = true)
    (b1 : n + m ≤ maxLen) (b2 : (n + m) * bytes ≤ 140737488355328) (hbase : base ≤ w.heap.size)
    (hK : ∀ v' w', w'.ownsRow base e size v' (n + m) (xs ++ news) → w.grownBy w' v.ownBlock → K (a.put o.dst v') w') :
    if Region.wanted o (yielded ops a.tmps) = true then Oper.wp P o a w K Q else E := by
  have hw : Region.wanted o (yielded ops a.tmps) = true := by simp [Region.wanted, hg]
  rw [if_pos hw]
  obtain ⟨v', w', hrun, r1, r2, _⟩ := run_append_own (P := P) w base t o.type e i z size bytes h1 h2 h3 h4 h5 h6 h7 v n xs hown ad m c news hn hc h1c b1 b2 hbase
  unfold Oper.wp
  simp [execOp, hop, resolve, invoke, builtin, hs, hx, hrun, Result.andThen]
  exact hK v' w' r1 r2
theorem five_new (w : World) (a b c d e : ByteArray) (T : TypeId) (g : Nat) (hg : g = w.heap.size) : ∀ j u, [Value.string a, .string b, .string c, .string d, .string e][j]? = some u → (w.alloc (.cells #[.string a, .string b, .string c, .string d, .string e] T)).cell? ((⟨g, 0, none⟩ : Addr).add j) = some u := by
  subst hg
  intro j u hj
  rw [Mem.add_lit]
  exact (Mem.var_new w [.string a, .string b, .string c, .string d, .string e] T).2 j u hj
theorem five_one (a b c d e : ByteArray) : ∀ u ∈ [Value.string a, .string b, .string c, .string d, .string e], u.oneCell' = true := by
  intro u hu
  simp only [List.mem_cons, List.not_mem_nil, or_false] at hu
  rcases hu with rfl | rfl | rfl | rfl | rfl <;> rfl
end Mem
end Go.Proofs.YtnbmpbfligdcjaaDoor

