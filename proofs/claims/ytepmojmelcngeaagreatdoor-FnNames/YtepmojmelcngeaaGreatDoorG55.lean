/- Several texts of one claim in one file: WDrawTs, WDrawTn, WNames3. -/
import Derived.Test.YtepmojmelcngeaaGreatDoorG54
import Derived.Test.YtepmojmelcngeaaGreatDoorG22
import Derived.Test.YtepmojmelcngeaaGreatDoorG52
import Derived.Test.YtepmojmelcngeaaGreatDoorG12
import Derived.Test.YtepmojmelcngeaaGreatDoorG05
/- The walk of the draw of a tree and a path (by genDS.py; its first part is WDrawSm). -/
namespace Go.Proofs.YtepmojmelcngeaaGreatDoor
open Go.RowKit
namespace WSrc
/-- What the draw of a tree and a path keeps. -/
structure Dk (w W : World) (S X : Nat) (a : Option Addr) (len cap : Nat) (va : Option Addr) (vc : Nat) (L : List Pl.Nd) (u : Value) : Prop where
  lo : w.heap.size < S
  hi : S < X
  bel : Below w.heap.size w W
  src : Src W S a len cap
  two : Mem.Blk W w.heap.size #[u] 31
  one : Mem.Blk W X #[.slice va L.length vc] 31
  tv : TreeV W (S + 1) va vc L
  row : RowB w w.heap.size a len cap
section
variable {w W W' : World} {S X len cap vc : Nat} {a va : Option Addr} {L : List Pl.Nd} {u : Value}
theorem Dk.call (h : Dk w W S X a len cap va vc L u) (s : Src W' S a len cap) (g : W.grownBy W' (some S)) : Dk w W' S X a len cap va vc L u :=
  have l := h.lo
  have l2 := h.hi
  ⟨l, l2, h.bel.grown g h.bel.size (fun q hq => by cases hq; omega), s, h.two.grown g (by simp; omega), h.one.grown g (by simp; omega), h.tv.grown g (fun q hq => by cases hq; omega), h.row⟩
theorem Dk.drew (h : Dk w W S X a len cap va vc L u) : Dk w W.drew S X a len cap va vc L u :=
  ⟨h.lo, h.hi, ⟨h.bel.os, h.bel.tape, h.bel.output, h.bel.size, h.bel.block⟩, h.src, h.two, h.one, h.tv, h.row⟩
theorem Dk.put (h : Dk w W S X a len cap va vc L u) (u' : Value) : Dk w (W.setCell ⟨w.heap.size, 0, none⟩ u') S X a len cap va vc L u' :=
  have l := h.lo
  have l2 := h.hi
  have hb2 : Below w.heap.size w (W.setCell ⟨w.heap.size, 0, none⟩ u') := h.bel.setCell (Nat.le_refl _) _
  ⟨l, l2, hb2, (by
    obtain ⟨hr, p, m, sz, hb, hp, h0, h1⟩ := h.src
    exact ⟨row_up h.row hb2 (by omega), p, m, sz, (Below.heap_setCell W ⟨w.heap.size, 0, none⟩ u' S (by show S ≠ w.heap.size; omega)).trans hb, hp, h0, h1⟩), h.two.put 0 u', h.one.far _ _ (by show X ≠ w.heap.size; omega), h.tv.set _ _ _ (by omega), h.row⟩
end
set_option linter.unusedSimpArgs false in
set_option maxRecDepth 100000 in
set_option maxHeartbeats 4000000 in
theorem drawGet_any (a : Option Addr) (len cap : Nat) (w : World) (hr : RowB w w.heap.size a len cap) :
    Calls Tryz.prog 49 #[.slice a len cap] w fun e w' => ∃ (va : Option Addr) (vc : Nat) (L : List Pl.Nd) (p : ByteArray), L.length ≤ 64 ∧ Pl.smallL L ∧ p.size ≤ 200 ∧ e = .returned (.tuple #[.agg #[.slice va L.length vc], .string p]) ∧ TreeV w' w.heap.size va vc L ∧ Below w.heap.size w w' := by
  have b0 : Below w.heap.size w (w.alloc (.cells #[.slice none 0 0] 31)) := (Below.refl _ _).alloc (Nat.le_refl _) _
  have hz0 : (w.alloc (.cells #[.slice none 0 0] 31)).heap.size = w.heap.size + 1 := by simp
  have h0 := hide (source_any a len cap (w.alloc (.cells #[.slice none 0 0] 31)) (row_up hr b0 (by omega)))
  have BA := Mem.Blk.new w #[.slice none 0 0] 31
  rw [hz0] at h0
  have HR := hide hr
  clear hr
  go_enter Tryz.func49, Tryz.ntmps49
  go_wp2_with fail
  generalize w.alloc (.cells #[.slice none 0 0] 31) = w0 at h0 b0 BA hz0 ⊢
  refine (unhide h0).mono ?_
  rintro e w1 ⟨rfl, hs, b1⟩
  have BA := BA.below b1 (by omega)
  have b1 := b0.trans (b1.mono (by omega))
  clear h0 b0
  go_wp2_with fail
  refine (tree_any (w.heap.size + 1) a len cap _ hs).mono ?_
  rintro e w2 ⟨va, vc, L, hl, hsm, rfl, tv, s2, g2⟩
  have HSM := hide hsm
  have hlt := src_lt hs
  have D3 : Hid (Dk w (w2.alloc (.cells #[.slice va L.length vc] 31)) (w.heap.size + 1) w2.heap.size a len cap va vc L (.slice none 0 0)) :=
    ⟨by omega, by have := g2.size; omega, (b1.grown g2 b1.size (fun q hq => by cases hq; omega)).alloc (by have := b1.size; have := g2.size; omega) _, src_alloc s2 _, (BA.grown g2 (by simp)).alloc _, Mem.Blk.new _ _ _, (tv.mono (by omega)).alloc _, unhide HR⟩
  clear hs s2 g2 tv BA b1 hsm HR hlt hz0
  obtain ⟨S0, hS0⟩ : ∃ S0, S0 = w.heap.size + 1 := ⟨_, rfl⟩
  rw [← hS0] at D3
  have x0 := (unhide D3).one.cell 0
  simp only [kA0, kA1, kA2] at x0
  go_wp2_with fail
  rw [← hS0]
  have HS0 := hide hS0
  clear hS0
  generalize w2.alloc (.cells #[.slice va L.length vc] 31) = w3 at D3 x0 ⊢
  generalize w2.heap.size = X at D3 x0 ⊢
  refine wp_region_held_drew (S := fun W' => W'.cell? ⟨X, 0, none⟩ = some (.slice va L.length vc)) (by kernel_rfl) ?_ (fun hHeld => ?_)
  · exact (unhide D3).one.cell 0
  have D4 := hide (unhide D3).drew
  generalize w3.drew = W4 at D4 hHeld ⊢
  clear D3
  refine wpAnyH_take (i := 0) (v := ?_) rfl (by kernel_rfl) (by kernel_rfl) (by kernel_rfl) (fun _ _ _ h => h) (Or.inl ⟨by rfl, ?_⟩) (by assumption) ?_
  rotate_left
  · (intro w hSw; (try dsimp only at hSw); go_simp; (try with_reducible rfl))
  try simp only [Act.put, kB0, kB1, kB2, kB3, kB4, kB5]
  refine wpAnyH_take (i := 1) (v := ?_) rfl (by kernel_rfl) (by kernel_rfl) (by kernel_rfl) (fun _ _ _ h => h) (Or.inl ⟨by rfl, ?_⟩) (by assumption) ?_
  rotate_left
  · (intro w hSw; (try dsimp only at hSw); go_simp; (try with_reducible rfl))
  try simp only [Act.put, kB0, kB1, kB2, kB3, kB4, kB5]
  refine wpAnyH_take (i := 2) (v := ?_) rfl (by kernel_rfl) (by kernel_rfl) (by kernel_rfl) (fun _ _ _ h => h) (Or.inl ⟨by rfl, ?_⟩) (by assumption) ?_
  rotate_left
  · (intro w hSw; (try dsimp only at hSw); go_simp; (try with_reducible rfl))
  try simp only [Act.put, kB0, kB1, kB2, kB3, kB4, kB5]
  refine wpAnyH_ready (rs := [3]) (by kernel_rfl) (by simp) ?_
  refine AllReadyH.cons rfl (fun K hK => ?_) AllReadyH.nil
  go_simp
  refine (some_any S0 a len cap (S0 + 1) va vc L _ (unhide D4).src (by omega) (unhide D4).tv hl (unhide HSM)).mono ?_
  rintro e w5 ⟨p, hp, rfl, s5, g5⟩
  have D5 := hide ((unhide D4).call s5 g5)
  clear s5 g5
  refine hK.out _ _ ?_ (fun hHeld => ?_)
  · exact (unhide D5).one.cell 0
  clear hK K
  try simp only [Act.put, kB0, kB1, kB2, kB3, kB4, kB5]
  have k0 := (unhide D5).two.cell 0
  have kf := (unhide D5).two.fr 0
  simp only [kA0, kA1, kA2] at k0
  have D6 := hide ((unhide D5).put (.slice va L.length vc))
  refine wpAnyH_ready (rs := [4]) (by kernel_rfl) (by simp) ?_
  refine AllReadyH.cons rfl (fun K hK => ?_) AllReadyH.nil
  go_simp
  refine hK.out _ _ ?_ (fun hHeld => ?_)
  · exact (unhide D6).one.cell 0
  clear hK K
  try simp only [Act.put, kB0, kB1, kB2, kB3, kB4, kB5]
  refine wpAnyH_take (i := 5) (v := ?_) rfl (by kernel_rfl) (by kernel_rfl) (by kernel_rfl) (fun _ _ _ h => h) (Or.inl ⟨by rfl, ?_⟩) (by assumption) ?_
  rotate_left
  · (intro w hSw; (try dsimp only at hSw); go_simp; (try with_reducible rfl))
  try simp only [Act.put, kB0, kB1, kB2, kB3, kB4, kB5]
  refine wpAnyH_done (by kernel_rfl) ?_ _
  have q := (unhide D6).two.cell
  go_wp2
  refine bodyPost_ret (v := .tuple #[.agg #[.slice va L.length vc], .string p]) (by simp [results, Tryz.results49, go_sem, q]) rfl ?_
  exact ⟨va, vc, L, p, hl, unhide HSM, hp, rfl, (unhide D6).tv.mono (by have := (unhide D6).lo; omega), (unhide D6).bel⟩
end WSrc
end Go.Proofs.YtepmojmelcngeaaGreatDoor

/- The walk of the draw DrawTreeNames (by genDS.py). -/
namespace Go.Proofs.YtepmojmelcngeaaGreatDoor
open Go.RowKit
namespace WSrc
set_option linter.unusedSimpArgs false in
set_option maxRecDepth 100000 in
theorem drawTNames_any (a : Option Addr) (len cap : Nat) (w : World) (hr : RowB w w.heap.size a len cap) :
    Calls Tryz.prog 18 #[.slice a len cap] w fun e w' => ∃ (va : Option Addr) (vc : Nat) (L : List Pl.Nd) (p : ByteArray), L.length ≤ 64 ∧ Pl.smallL L ∧ p.size ≤ 200 ∧ e = .returned (.tuple #[.agg #[.slice va L.length vc], .string p]) ∧ TreeV w' w.heap.size va vc L ∧ Below w.heap.size w w' := by
  have b0 : Below w.heap.size w (w.alloc (.cells #[.slice none 0 0] 31)) := (Below.refl _ _).alloc (Nat.le_refl _) _
  have hz0 : (w.alloc (.cells #[.slice none 0 0] 31)).heap.size = w.heap.size + 1 := by simp
  have h0 := hide (drawGet_any a len cap (w.alloc (.cells #[.slice none 0 0] 31)) (row_up hr b0 (by omega)))
  have BA := Mem.Blk.new w #[.slice none 0 0] 31
  clear hr
  go_enter Tryz.func18, Tryz.ntmps18
  go_wp2_with fail
  generalize w.alloc (.cells #[.slice none 0 0] 31) = w0 at h0 b0 BA hz0 ⊢
  refine (unhide h0).mono ?_
  rintro e w1 ⟨va, vc, L, p, hl, hsm, hp, rfl, tv, b1⟩
  have BA := BA.below b1 (by omega)
  have b2 := b0.trans (b1.mono (by omega))
  have HSM := hide hsm
  have TV := hide (tv.set w.heap.size 0 (.slice va L.length vc) (by omega))
  have BB := BA.put 0 (.slice va L.length vc)
  have k0 := BA.cell 0
  have kf := BA.fr 0
  have q := BB.cell
  simp only [kA0, kA1, kA2] at k0
  clear h0 b0 b1 tv hsm
  go_wp2
  refine bodyPost_ret (v := .tuple #[.agg #[.slice va L.length vc], .string p]) (by simp [results, Tryz.results18, go_sem, q]) rfl ?_
  exact ⟨va, vc, L, p, hl, unhide HSM, hp, rfl, (unhide TV).mono (by omega), b2.setCell (Nat.le_refl _) _⟩
end WSrc
end Go.Proofs.YtepmojmelcngeaaGreatDoor

/- The walks of the specification's l03Names and TreeNames. -/
namespace Go.Proofs.YtepmojmelcngeaaGreatDoor
open Go.RowKit
namespace WNamesT
theorem infoS : (Tryz.prog.info? 9).map (fun i => (i.zero, i.size, i.bytes)) = some (some (.string ⟨#[]⟩), 1, 16) := by kernel_rfl
theorem tl_eq {a b : ByteArray} (h : a ≠ b) : (a.toList == b.toList) = false := by
  rw [beq_eq_false_iff_ne]
  intro e
  exact h (Pl.by_inj (by rw [ByteArray.toList_eq, ByteArray.toList_eq] at e; exact e))
theorem own_snoc {w : World} {B : Nat} {v : Value} {K : List ByteArray} {t : ByteArray} (h : w.ownsRow B 9 1 v (K.length + 1) (K.map Value.string ++ [.string t])) : w.ownsRow B 9 1 v (K ++ [t]).length ((K ++ [t]).map Value.string) := by
  rw [List.map_append, List.length_append]; exact h
set_option linter.unusedSimpArgs false in
set_option maxRecDepth 100000 in
set_option maxHeartbeats 2000000 in
theorem l03_any (a : Option Addr) (cap : Nat) (L : List Pl.Nd) (p : ByteArray) (w : World) (hl : L.length ≤ 1048576) (hv : Mem.isNodes w a L) (hok : ∀ n ∈ L, n.path.size ≤ 1048576 ∧ n.data.size ≤ 1048576) :
    Calls Tryz.prog 54 #[.agg #[.slice a L.length cap], .string p] w fun e w' => ∃ v, e = .returned v ∧ w'.ownsRow w.heap.size 9 1 v (Pl.kidsL p L).length ((Pl.kidsL p L).map Value.string) ∧ Below w.heap.size w w' := by
  obtain ⟨i0, hi, hz0, hz1, hz2⟩ := info_parts infoS
  have HV := hide hv
  have HO := hide hok
  have b0 : Below w.heap.size w ((w.alloc (.cells #[.slice a L.length cap] 31)).alloc (.cells #[] 9)) := ((Below.refl _ _).alloc (Nat.le_refl _) _).alloc (by simp) _
  have V0 := (Mem.Blk.new w #[.slice a L.length cap] 31).alloc (.cells #[] 9)
  have O0 : ((w.alloc (.cells #[.slice a L.length cap] 31)).alloc (.cells #[] 9)).ownsRow (w.heap.size + 1) 9 1 (.slice (some ⟨w.heap.size + 1, 0, none⟩) 0 0) (Pl.kidsL p (L.take 0)).length ((Pl.kidsL p (L.take 0)).map Value.string) :=
    ⟨rfl, .inr ⟨w.heap.size + 1, 0, #[], rfl, Nat.le_refl _, Mem.new_two _ _ _, Nat.le_refl _, Nat.zero_le _, rfl, rfl⟩⟩
  have HB0 := hide b0
  have HV0 := hide V0
  have HO0 := hide O0
  clear hv hok b0 V0 O0
  go_enter Tryz.func54, Tryz.ntmps54
  go_wp2
  go_loopw [5, 6] (fun v i wr => ∃ k : Nat, k ≤ L.length ∧ i = .int .i64 (k : Int) ∧ Hid (Below w.heap.size w wr) ∧ Hid (Mem.Blk wr w.heap.size #[.slice a L.length cap] 31) ∧ Hid (wr.ownsRow (w.heap.size + 1) 9 1 v (Pl.kidsL p (L.take k)).length ((Pl.kidsL p (L.take k)).map Value.string))) (fun _ i _ => L.length - (intOf i).toNat)
  case atStart => exact ⟨0, Nat.zero_le _, rfl, HB0, HV0, HO0⟩
  case round =>
    obtain ⟨k, hk, rfl, HB, HO1, HW⟩ := hrel
    clear HB0 HV0 HO0
    have c1 := (unhide HO1).cell 0
    simp only [kA0, kA1] at c1
    by_cases hlt : k < L.length
    · obtain ⟨n, hn⟩ : ∃ n, L[k]? = some n := ⟨_, List.getElem?_eq_getElem hlt⟩
      obtain ⟨b, o, rfl, hb, q0, q1, q2, q3, q4⟩ := (Mem.nodes_call (unhide HV) (unhide HB)) k n hn
      have y1 : (k : Int) < (L.length : Int) := by omega
      have y3 : (0 : Int) ≤ (k : Int) := by omega
      have hno := (unhide HO n (List.mem_of_getElem? hn)).1
      have hpa := hide (fun W => WPathS.parent_any n.path W (by unfold maxLen; omega))
      have hba := hide (fun W => WPathS.base1_any n.path W (by unfold maxLen; omega))
      have HLEN := hide (Pl.kids_len p L k)
      by_cases hk0 : Pl.parent n.path = p
      · have HK := hide (Pl.kids_in hn hk0)
        rw [hk0] at hpa
        generalize Pl.base n.path = BB at hba HK
        clear hn hk0 hno
        obtain ⟨qp, qk, qd, qt, qm⟩ := n
        simp only at q0 q1 q2 q3 q4 hpa hba
        have HSZ := hide (unhide HO1).lt
        have HLT := hide ((unhide HW).lt)
        go_wp2_with (first | (go_at_call 56; refine (unhide hpa _).mono ?_; rintro e w' ⟨rfl, hw⟩; obtain rfl := hw.symm) | (go_at_call 95; refine (unhide hba _).mono ?_; rintro e w' ⟨rfl, hw⟩; obtain rfl := hw.symm) | (at_builtin; refine wpList_append_own _ rfl _ _ 46 rfl (w.heap.size + 1) 9 i0 (.string ⟨#[]⟩) 1 16 Tryz.underlying46 hi hz0 hz1 hz2 rfl (by decide) _ _ _ rfl ((unhide HW).alloc _) ⟨wr.heap.size, 0, none⟩ 1 1 [.string BB] rfl rfl (Mem.one_new _ _ _) (fun u hu => by simp at hu; subst hu; rfl) (by have := unhide HLEN; unfold maxLen; omega) (by have := unhide HLEN; omega) (by have := unhide HSZ; simp; omega) ?_))
        intro v' wZ hownZ hgrow _
        have OW := hide (show wZ.ownsRow (w.heap.size + 1) 9 1 v' (Pl.kidsL p (L.take (k + 1))).length ((Pl.kidsL p (L.take (k + 1))).map Value.string) by rw [unhide HK]; exact own_snoc hownZ)
        have BZ := hide (((unhide HB).alloc (unhide HB).size (.cells #[.string BB] 9)).grown hgrow (by have := (unhide HB).size; simp; omega) (fun q hq => by have := (unhide HLT q hq).1; omega))
        have VZ := hide (((unhide HO1).alloc (.cells #[.string BB] 9)).grown hgrow (fun e => by have := (unhide HLT _ e.symm).1; omega))
        clear hownZ hgrow HB HO1 HW hpa hba q0 q1 q2 q3 q4
        go_wp2
        go_roundw
        case rel => exact ⟨k + 1, by omega, by go_num, BZ, VZ, OW⟩
        case measure => simp [intOf]; omega
      · have HK := hide (Pl.kids_out hn hk0)
        have t1 := tl_eq hk0
        generalize Pl.parent n.path = PP at hpa t1
        clear hn hk0 hno hba
        obtain ⟨qp, qk, qd, qt, qm⟩ := n
        simp only at q0 q1 q2 q3 q4 hpa
        rw [← unhide HK] at HW
        go_wp2_with (go_at_call 56; refine (unhide hpa _).mono ?_; rintro e w' ⟨rfl, hw⟩; obtain rfl := hw.symm)
        go_roundw
        case rel => exact ⟨k + 1, by omega, by go_num, HB, HO1, HW⟩
        case measure => simp [intOf]; omega
    · obtain rfl : k = L.length := by omega
      rw [List.take_length] at HW
      have y1 : ¬ ((L.length : Int) < (L.length : Int)) := by omega
      go_wp2
      go_ret
      exact ⟨_, rfl, Mem.own_mono (unhide HW) (by omega), unhide HB⟩
end WNamesT
end Go.Proofs.YtepmojmelcngeaaGreatDoor

