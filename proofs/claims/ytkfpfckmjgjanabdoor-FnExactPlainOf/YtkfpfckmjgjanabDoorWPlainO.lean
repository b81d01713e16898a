/- The walks of PlainOf: of the specification and of the program. -/
import Derived.Test.YtkfpfckmjgjanabDoorG25
import Derived.Test.YtkfpfckmjgjanabDoorG17
import Derived.Test.YtkfpfckmjgjanabDoorWNodesJ
import Derived.Test.YtkfpfckmjgjanabDoorWCopied
namespace Go.Proofs.YtkfpfckmjgjanabDoor
open Go.RowKit
namespace Pl
def Nd.bare (n : Nd) : Nd := ⟨n.path, n.kind, n.data, n.time, 0⟩
def plainL (L : List Nd) : List Nd := (L.filter (fun n => !decide (n.kind = 0))).map Nd.bare
theorem plainL_in {L : List Nd} {k : Nat} {n : Nd} (hn : L[k]? = some n) (h : n.kind ≠ 0) : plainL (L.take (k + 1)) = plainL (L.take k) ++ [n.bare] := by
  have h1 := List.getElem?_eq_some_iff.1 hn
  rw [List.take_succ_eq_append_getElem h1.1, h1.2]
  simp [plainL, h]
theorem plainL_out {L : List Nd} {k : Nat} {n : Nd} (hn : L[k]? = some n) (h : n.kind = 0) : plainL (L.take (k + 1)) = plainL (L.take k) := by
  have h1 := List.getElem?_eq_some_iff.1 hn
  rw [List.take_succ_eq_append_getElem h1.1, h1.2]
  simp [plainL, h]
theorem plainL_len (L : List Nd) (k : Nat) : (plainL (L.take k)).length ≤ k := by
  have h1 : (plainL (L.take k)).length ≤ (L.take k).length := by simpa [plainL] using List.length_filter_le _ (L.take k)
  have h2 : (L.take k).length ≤ k := by simp; omega
  omega
def plainO (L : List Nd) : List Nd := if treeB L then plainL L else []
theorem plainO_len (L : List Nd) : (plainO L).length ≤ L.length := by
  unfold plainO
  split
  · have h := plainL_len L L.length
    rwa [List.take_length] at h
  · exact Nat.zero_le _
def plainC (L : List Nd) : Int := if treeB L then 0 else 1
end Pl
namespace WPlainO
theorem infoN : (Tryd.prog.info? 50).map (fun i => (i.zero, i.size, i.bytes)) = some (some (.agg #[.string ⟨#[]⟩, .int .i64 0, .string ⟨#[]⟩, .int .i64 0, .int .i64 0]), 5, 56) := by kernel_rfl
/-- What a round of the specification's loop finds. -/
structure At (w wr : World) (a : Option Addr) (cap : Nat) (L : List Pl.Nd) (k : Nat) (v : Value) : Prop where
  bel : Below w.heap.size w wr
  one : Mem.Blk wr w.heap.size #[.slice a L.length cap] 39
  two : Mem.Blk wr (w.heap.size + 1) #[.slice none 0 0] 39
  out : Mem.Blk wr (w.heap.size + 1 + 1) #[v] 39
  own : Mem.ownN wr (w.heap.size + 3) v (Pl.plainL (L.take k))
set_option maxRecDepth 100000 in
set_option maxHeartbeats 1000000 in
theorem l04_any (a : Option Addr) (cap : Nat) (L : List Pl.Nd) (w : World) (hl : L.length ≤ 1048576) (hv : Mem.isNodes w a L) :
    Calls Tryd.prog 44 #[.agg #[.slice a L.length cap]] w fun e w' => ∃ v, e = .returned (.agg #[v]) ∧ Mem.ownN w' w.heap.size v (Pl.plainL L) ∧ Below w.heap.size w w' := by
  obtain ⟨i0, hi, hz0, hz1, hz2⟩ := info_parts infoN
  have HV := hide hv
  clear hv
  have H0 : At w (((w.alloc (.cells #[.slice a L.length cap] 39)).alloc (.cells #[.slice none 0 0] 39)).alloc (.cells #[.slice none 0 0] 39)) a cap L 0 (.slice none 0 0) :=
    ⟨(((Below.refl _ _).alloc (Nat.le_refl _) _).alloc (by simp) _).alloc (by simp; omega) _, ((Mem.Blk.new _ _ _).alloc _).alloc _, (by have h := (Mem.Blk.new (w.alloc (.cells #[.slice a L.length cap] 39)) #[.slice none 0 0] 39).alloc (.cells #[.slice none 0 0] 39); rwa [show (w.alloc (.cells #[.slice a L.length cap] 39)).heap.size = w.heap.size + 1 by simp] at h), Mem.new_three _ _ _ _, by simpa [Pl.plainL] using Mem.ownN_nil _ _⟩
  have HH := hide H0
  clear H0
  go_enter Tryd.func44, Tryd.ntmps44
  go_wp2
  go_loopw [4] (fun i wr => ∃ k : Nat, k ≤ L.length ∧ i = .int .i64 (k : Int) ∧ Hid (∃ v, At w wr a cap L k v)) (fun i _ => L.length - (intOf i).toNat)
  case atStart => exact ⟨0, Nat.zero_le _, rfl, ⟨_, unhide HH⟩⟩
  case round =>
    obtain ⟨k, hk, rfl, HA⟩ := hrel
    obtain ⟨v, A⟩ := unhide HA
    have c1 := A.one.cell 0
    have c3 := A.out.cell 0
    have f3 := A.out.fr 0
    simp only [kA0, kA1] at c1 c3
    have KA := hide A
    clear HA A HH
    by_cases hlt : k < L.length
    · obtain ⟨n, hn⟩ : ∃ n, L[k]? = some n := ⟨_, List.getElem?_eq_getElem hlt⟩
      obtain ⟨b, o, rfl, hb, q0, q1, q2, q3, q4⟩ := (Mem.nodes_call (unhide HV) (unhide KA).bel) k n hn
      have y1 : (k : Int) < (L.length : Int) := by omega
      have y3 : (0 : Int) ≤ (k : Int) := by omega
      by_cases hk0 : n.kind = 0
      · have t2 : (n.kind == 0) = true := by simpa using hk0
        have H2 : Hid (At w (wr.alloc (.cells #[.string n.path, .int .i64 0, .string n.data, .int .i64 n.time, .int .i64 0] 50)) (some ⟨b, o, none⟩) cap L (k + 1) v) :=
          ⟨(unhide KA).bel.alloc (unhide KA).bel.size _, (unhide KA).one.alloc _, (unhide KA).two.alloc _, (unhide KA).out.alloc _, by rw [Pl.plainL_out hn hk0]; exact Mem.ownN_alloc (unhide KA).own _⟩
        clear KA
        go_wp2
        go_roundw
        case rel => exact ⟨k + 1, by omega, by go_num, ⟨v, unhide H2⟩⟩
        case measure => simp [intOf]; omega
      · have t2 : (n.kind == 0) = false := by simpa using hk0
        have HPL := hide (Pl.plainL_in hn hk0)
        have HLEN := hide (Pl.plainL_len L k)
        have HLT := hide (Mem.ownN_lt (unhide KA).own)
        have HSZ := hide (unhide KA).out.lt
        clear hn hk0
        obtain ⟨p, k0, d, t, m⟩ := n
        simp only [Pl.Nd.bare] at q0 q1 q2 q3 q4 t2 HPL
        have c3a := ((unhide KA).out.alloc (.cells #[.string p, .int .i64 k0, .string d, .int .i64 t, .int .i64 0] 50)).cell 0
        simp only [kA0, kA1] at c3a
        have bW := (unhide KA).bel.alloc (unhide KA).bel.size (.cells #[.string p, .int .i64 k0, .string d, .int .i64 t, .int .i64 0] 50)
        have OWD := Mem.ownN_alloc (unhide KA).own (.cells #[.string p, .int .i64 k0, .string d, .int .i64 t, .int .i64 0] 50)
        have BLD := hide ((unhide KA).out.alloc (.cells #[.string p, .int .i64 k0, .string d, .int .i64 t, .int .i64 0] 50))
        have BL1 := hide ((unhide KA).one.alloc (.cells #[.string p, .int .i64 k0, .string d, .int .i64 t, .int .i64 0] 50))
        have BL2 := hide ((unhide KA).two.alloc (.cells #[.string p, .int .i64 k0, .string d, .int .i64 t, .int .i64 0] 50))
        have hWs : (wr.alloc (.cells #[.string p, .int .i64 k0, .string d, .int .i64 t, .int .i64 0] 50)).heap.size = wr.heap.size + 1 := by simp
        clear KA
        have hnew : ∀ j u, [Value.string p, .int .i64 k0, .string d, .int .i64 t, .int .i64 0][j]? = some u → ((wr.alloc (.cells #[.string p, .int .i64 k0, .string d, .int .i64 t, .int .i64 0] 50)).alloc (.cells #[.string p, .int .i64 k0, .string d, .int .i64 t, .int .i64 0] 50)).cell? ((⟨wr.heap.size + 1, 0, none⟩ : Addr).add j) = some u := by
          have h := Mem.cs_new (wr.alloc (.cells #[.string p, .int .i64 k0, .string d, .int .i64 t, .int .i64 0] 50)) ⟨p, k0, d, t, 0⟩ 50
          rw [hWs] at h
          exact h
        have HNW := hide hnew
        clear hnew
        go_wp2_with (at_builtin; refine wpList_append_own _ rfl _ _ 37 rfl (w.heap.size + 3) 50 i0 _ 5 56 Tryd.underlying37 hi hz0 hz1 hz2 rfl (by decide) _ _ _ rfl (Mem.ownN_alloc OWD _) ⟨wr.heap.size + 1, 0, none⟩ 1 1 [.string p, .int .i64 k0, .string d, .int .i64 t, .int .i64 0] rfl rfl (unhide HNW) (Mem.cs_one ⟨p, k0, d, t, 0⟩) (by have := unhide HLEN; unfold maxLen; omega) (by have := unhide HLEN; omega) (by have := unhide HSZ; simp; omega) ?_)
        intro v'' wZ hownZ hgrow _
        obtain ⟨a', cap', hv'⟩ := Mem.own_shape hownZ
        subst hv'
        have blkZ := ((unhide BLD).alloc (.cells #[.string p, .int .i64 k0, .string d, .int .i64 t, .int .i64 0] 50)).grown hgrow (fun e => by have := (unhide HLT _ e.symm).1; omega)
        have cZ := blkZ.cell 0
        have fZ := blkZ.fr 0
        simp only [kA0, kA1] at cZ
        have FIN : Hid (At w (wZ.setCell ⟨w.heap.size + 1 + 1, 0, none⟩ (.slice a' ((Pl.plainL (L.take k)).length + 1) cap')) (some ⟨b, o, none⟩) cap L (k + 1) (.slice a' ((Pl.plainL (L.take k)).length + 1) cap')) :=
          ⟨(((bW.alloc bW.size (.cells #[.string p, .int .i64 k0, .string d, .int .i64 t, .int .i64 0] 50)).grown hgrow (by have := bW.size; simp; omega) (fun q hq => by have := (unhide HLT q hq).1; omega)).setCell (by show w.heap.size ≤ w.heap.size + 1 + 1; omega) _),
            (((unhide BL1).alloc (.cells #[.string p, .int .i64 k0, .string d, .int .i64 t, .int .i64 0] 50)).grown hgrow (fun e => by have := (unhide HLT _ e.symm).1; omega)).far _ _ (by show w.heap.size ≠ w.heap.size + 1 + 1; omega),
            (((unhide BL2).alloc (.cells #[.string p, .int .i64 k0, .string d, .int .i64 t, .int .i64 0] 50)).grown hgrow (fun e => by have := (unhide HLT _ e.symm).1; omega)).far _ _ (by show w.heap.size + 1 ≠ w.heap.size + 1 + 1; omega),
            blkZ.put 0 (.slice a' ((Pl.plainL (L.take k)).length + 1) cap'), by
            rw [unhide HPL]
            exact Mem.ownN_set (Mem.ownN_snoc (L := Pl.plainL (L.take k)) (n := ⟨p, k0, d, t, 0⟩) hownZ) _ _ (by show w.heap.size + 1 + 1 < w.heap.size + 3; omega)⟩
        clear blkZ hownZ hgrow BLD BL1 BL2 OWD bW
        go_wp2
        go_roundw
        case rel => exact ⟨k + 1, by omega, by go_num, ⟨.slice a' ((Pl.plainL (L.take k)).length + 1) cap', unhide FIN⟩⟩
        case measure => simp [intOf]; omega
    · have y1 : ¬ (k : Int) < (L.length : Int) := by omega
      obtain rfl : k = L.length := by omega
      obtain ⟨a', cap', hv'⟩ := Mem.own_shape (unhide KA).own
      subst hv'
      have c2 := (unhide KA).two.cell 0
      have f2 := (unhide KA).two.fr 0
      simp only [kA0, kA1] at c2
      go_wp2
      refine bodyPost_ret (v := .agg #[.slice a' (Pl.plainL (L.take L.length)).length cap']) (by simp [results, Tryd.results44, go_sem, c2]) rfl ⟨_, rfl, ?_, ?_⟩
      · have h := (unhide KA).own
        rw [show Pl.plainL (L.take L.length) = Pl.plainL L by rw [List.take_length]] at h ⊢
        exact Mem.ownN_mono (Mem.ownN_set h _ _ (by show w.heap.size + 1 < w.heap.size + 3; omega)) (by omega)
      · exact (unhide KA).bel.setCell (by show w.heap.size ≤ w.heap.size + 1; omega) _
set_option maxRecDepth 100000 in
set_option maxHeartbeats 1000000 in
theorem spec_any (a : Option Addr) (cap : Nat) (L : List Pl.Nd) (w : World) (hl : L.length ≤ 1048576) (hv : Mem.isNodes w a L) (hok : ∀ n ∈ L, n.path.size ≤ 1048576 ∧ n.data.size ≤ 1048576) :
    Calls Tryd.prog 15 #[.agg #[.slice a L.length cap]] w fun e w' => ∃ v, e = .returned (.agg #[v, .int .i64 (Pl.plainC L)]) ∧ Mem.ownN w' w.heap.size v (Pl.plainO L) ∧ Below w.heap.size w w' := by
  have b0 : Below w.heap.size w ((w.alloc (.cells #[.slice a L.length cap] 39)).alloc (.cells #[.slice none 0 0, .int .i64 0] 41)) := ((Below.refl _ _).alloc (Nat.le_refl _) _).alloc (by simp) _
  have hr := hide (WTreeS.right_tree a cap L _ hl (Mem.nodes_call hv b0) hok)
  have hp := hide (fun W (b : Below w.heap.size w W) => l04_any a cap L W hl (Mem.nodes_call hv b))
  have V1 := (Mem.Blk.new w #[.slice a L.length cap] 39).alloc (.cells #[.slice none 0 0, .int .i64 0] 41)
  have V2 : Mem.Blk ((w.alloc (.cells #[.slice a L.length cap] 39)).alloc (.cells #[.slice none 0 0, .int .i64 0] 41)) (w.heap.size + 1) #[.slice none 0 0, .int .i64 0] 41 := Mem.new_two _ _ _
  have EO : Hid (Pl.treeB L = true → Pl.plainO L = Pl.plainL L ∧ Pl.plainC L = 0) := fun h => by simp [Pl.plainO, Pl.plainC, h]
  have EN : Hid (Pl.treeB L = false → Pl.plainO L = [] ∧ Pl.plainC L = 1) := fun h => by simp [Pl.plainO, Pl.plainC, h]
  generalize Pl.plainO L = PO at EO EN ⊢
  generalize Pl.plainC L = PC at EO EN ⊢
  generalize Pl.treeB L = R2 at EO EN hr
  clear hv hok
  cases R2
  · obtain ⟨rfl, rfl⟩ := unhide EN rfl
    clear EO EN hp
    go_enter Tryd.func15, Tryd.ntmps15
    go_wp2_with fail
    refine (unhide hr).mono ?_
    rintro e w1 ⟨rfl, b1⟩
    have b2 := b0.trans (b1.mono b0.size)
    have V3 := V2.call b1
    clear hr b0 b1 V1 V2
    go_wp2_with fail
    refine (WIll3.ill_any 1 _).mono ?_
    rintro e w3 ⟨rfl, b3⟩
    have b4 := b2.trans (b3.mono b2.size)
    have V4 := V3.call b3
    have c0 := V4.cell 0
    have c1 := V4.cell 1
    have f0 := V4.fr 0
    have f1 := V4.fr 1
    simp only [kA0, kA1, kA2] at c0 c1
    clear b2 b3 V3
    go_wp2
    refine bodyPost_ret (v := .agg #[.slice none 0 0, .int .i64 1]) (by simp [results, Tryd.results15, go_sem, c0, c1]) rfl ⟨_, rfl, Mem.ownN_nil _ _, ?_⟩
    exact (b4.setCell (by show w.heap.size ≤ w.heap.size + 1; omega) _).setCell (by show w.heap.size ≤ w.heap.size + 1; omega) _
  obtain ⟨rfl, rfl⟩ := unhide EO rfl
  clear EO EN
  go_enter Tryd.func15, Tryd.ntmps15
  go_wp2_with fail
  refine (unhide hr).mono ?_
  rintro e w1 ⟨rfl, b1⟩
  have b2 := b0.trans (b1.mono b0.size)
  have V3 := V2.call b1
  have c0 := (V1.call b1).cell 0
  simp only [kA0, kA1] at c0
  clear hr b0 b1 V1 V2
  go_wp2_with fail
  refine (unhide hp _ b2).mono ?_
  rintro e w3 ⟨v, rfl, own, b3⟩
  obtain ⟨a', cap', rfl⟩ := Mem.own_shape own
  have OW := hide own
  have b4 := b2.trans (b3.mono b2.size)
  have V4 := V3.call b3
  have d0 := V4.cell 0
  have d1 := V4.cell 1
  have f0 := V4.fr 0
  have f1 := V4.fr 1
  have hs : w.heap.size + 1 < w1.heap.size := V3.lt
  simp only [kA0, kA1, kA2] at d0 d1
  clear b3 V3 hp own c0
  go_wp2
  refine bodyPost_ret (v := .agg #[.slice a' (Pl.plainL L).length cap', .int .i64 0]) (by simp [results, Tryd.results15, go_sem, d0, d1]) rfl ⟨_, rfl, ?_, ?_⟩
  · exact Mem.ownN_mono (Mem.ownN_set (Mem.ownN_set (unhide OW) _ _ hs) _ _ hs) (by omega)
  · exact (b4.setCell (by show w.heap.size ≤ w.heap.size + 1; omega) _).setCell (by show w.heap.size ≤ w.heap.size + 1; omega) _
set_option maxRecDepth 100000 in
set_option maxHeartbeats 1000000 in
theorem impl_any (a : Option Addr) (cap : Nat) (L : List Pl.Nd) (w : World) (hl : L.length ≤ 1048576) (hv : Mem.isNodes w a L) (hok : ∀ n ∈ L, n.path.size ≤ 1048576 ∧ n.data.size ≤ 1048576)
    (r1 r2 r3 : TypeId) (x1 x2 x3 : Value) (hE : WNodesI.Errs w r1 r2 r3 x1 x2 x3) :
    Calls Tryd.prog 17 #[.agg #[.slice a L.length cap]] w fun e w' => ∃ v, e = .returned (.agg #[v, .int .i64 (Pl.plainC L)]) ∧ Mem.ownN w' w.heap.size v (Pl.plainO L) ∧ Below w.heap.size w w' := by
  obtain ⟨i0, hi, hz0, hz1, hz2⟩ := info_parts infoN
  have b0 : Below w.heap.size w ((w.alloc (.cells #[.slice a L.length cap] 39)).alloc (.cells #[.slice none 0 0, .int .i64 0] 41)) := ((Below.refl _ _).alloc (Nat.le_refl _) _).alloc (by simp) _
  have hr := hide (WNodesI.treeRight_any a cap L _ hl (Mem.nodes_call hv b0) hok r1 r2 r3 x1 x2 x3 (hE.call b0))
  have HV := hide hv
  have HO := hide hok
  have V1 := (Mem.Blk.new w #[.slice a L.length cap] 39).alloc (.cells #[.slice none 0 0, .int .i64 0] 41)
  have V2 : Mem.Blk ((w.alloc (.cells #[.slice a L.length cap] 39)).alloc (.cells #[.slice none 0 0, .int .i64 0] 41)) (w.heap.size + 1) #[.slice none 0 0, .int .i64 0] 41 := Mem.new_two _ _ _
  have EO : Hid (Pl.treeB L = true → Pl.plainO L = Pl.plainL L ∧ Pl.plainC L = 0) := fun h => by simp [Pl.plainO, Pl.plainC, h]
  have EN : Hid (Pl.treeB L = false → Pl.plainO L = [] ∧ Pl.plainC L = 1) := fun h => by simp [Pl.plainO, Pl.plainC, h]
  generalize Pl.plainO L = PO at EO EN ⊢
  generalize Pl.plainC L = PC at EO EN ⊢
  generalize Pl.treeB L = R2 at EO EN hr
  clear hv hok hE
  cases R2
  · obtain ⟨rfl, rfl⟩ := unhide EN rfl
    clear EO EN
    go_enter Tryd.func17, Tryd.ntmps17
    go_wp2_with fail
    refine (unhide hr).mono ?_
    rintro e w1 ⟨rfl, b1⟩
    have b2 := b0.trans (b1.mono b0.size)
    have V3 := V2.call b1
    have c0 := V3.cell 0
    have c1 := V3.cell 1
    have f0 := V3.fr 0
    have f1 := V3.fr 1
    simp only [kA0, kA1, kA2] at c0 c1
    clear hr b0 b1 V1 V2
    go_wp2
    refine bodyPost_ret (v := .agg #[.slice none 0 0, .int .i64 1]) (by simp [results, Tryd.results17, go_sem, c0, c1]) rfl ⟨_, rfl, Mem.ownN_nil _ _, ?_⟩
    exact (b2.setCell (by show w.heap.size ≤ w.heap.size + 1; omega) _).setCell (by show w.heap.size ≤ w.heap.size + 1; omega) _
  obtain ⟨rfl, rfl⟩ := unhide EO rfl
  clear EO EN
  go_enter Tryd.func17, Tryd.ntmps17
  go_wp2_with fail
  refine (unhide hr).mono ?_
  rintro e w1 ⟨rfl, b1⟩
  have b2 := b0.trans (b1.mono b0.size)
  have V3 := V2.call b1
  have hs : w.heap.size + 1 < w1.heap.size := V3.lt
  have c0 := ((V1.call b1).alloc (.cells #[] 50)).cell 0
  simp only [kA0, kA1] at c0
  have OW0 : Hid (Mem.ownN (w1.alloc (.cells #[] 50)) (w.heap.size + 2) (.slice (some ⟨w1.heap.size, 0, none⟩) 0 0) (Pl.plainL (L.take 0))) :=
    ⟨rfl, .inr ⟨w1.heap.size, 0, #[], rfl, by omega, heap_alloc_new _ _, Nat.le_refl _, Nat.zero_le _, rfl, rfl⟩⟩
  have b3 := b2.alloc b2.size (.cells #[] 50)
  have V4 := hide (V3.alloc (.cells #[] 50))
  clear hr b0 b1 V1 V2 V3 b2
  go_wp2
  go_loopw [3, 14] (fun v i wr => ∃ k : Nat, k ≤ L.length ∧ i = .int .i64 (k : Int) ∧ Below w.heap.size w wr ∧ Hid (Mem.Blk wr (w.heap.size + 1) #[.slice none 0 0, .int .i64 0] 41) ∧ Hid (Mem.ownN wr (w.heap.size + 2) v (Pl.plainL (L.take k)))) (fun _ i _ => L.length - (intOf i).toNat)
  case atStart => exact ⟨0, Nat.zero_le _, rfl, b3, V4, OW0⟩
  case round =>
    obtain ⟨k, hk, rfl, hbel, HB, HOWN⟩ := hrel
    clear c0 b3 V4 OW0
    by_cases hlt : k < L.length
    · obtain ⟨n, hn⟩ : ∃ n, L[k]? = some n := ⟨_, List.getElem?_eq_getElem hlt⟩
      obtain ⟨b, o, rfl, hb, q0, q1, q2, q3, q4⟩ := (Mem.nodes_call (unhide HV) hbel) k n hn
      have y1 : (k : Int) < (L.length : Int) := by omega
      have y3 : (0 : Int) ≤ (k : Int) := by omega
      have hno := unhide HO n (List.mem_of_getElem? hn)
      by_cases hk0 : n.kind = 0
      · have t2 : (n.kind == 0) = true := by simpa using hk0
        have OW2 := hide (show Mem.ownN (wr.alloc (.cells #[.string n.path, .int .i64 0, .string n.data, .int .i64 n.time, .int .i64 n.mark] 50)) (w.heap.size + 2) u3 (Pl.plainL (L.take (k + 1))) by rw [Pl.plainL_out hn hk0]; exact Mem.ownN_alloc (unhide HOWN) _)
        have HB2 := hide ((unhide HB).alloc (.cells #[.string n.path, .int .i64 0, .string n.data, .int .i64 n.time, .int .i64 n.mark] 50))
        have bb := hbel.alloc hbel.size (.cells #[.string n.path, .int .i64 0, .string n.data, .int .i64 n.time, .int .i64 n.mark] 50)
        clear hn HB HOWN hbel
        go_wp2
        go_roundw
        case rel => exact ⟨k + 1, by omega, by go_num, bb, HB2, OW2⟩
        case measure => simp [intOf]; omega
      · have t2 : (n.kind == 0) = false := by simpa using hk0
        have HPL := hide (Pl.plainL_in hn hk0)
        have HLEN := hide (Pl.plainL_len L k)
        have hc := hide (fun W => WCopied.any n.bare W hno.1 hno.2)
        clear hn hk0
        obtain ⟨p, k0, d, t, m⟩ := n
        simp only [Pl.Nd.bare, Pl.Nd.val] at q0 q1 q2 q3 q4 t2 HPL hc
        have OWD := Mem.ownN_alloc (unhide HOWN) (.cells #[.string p, .int .i64 k0, .string d, .int .i64 t, .int .i64 0] 50)
        have BLD := hide ((unhide HB).alloc (.cells #[.string p, .int .i64 k0, .string d, .int .i64 t, .int .i64 0] 50))
        have bW := hbel.alloc hbel.size (.cells #[.string p, .int .i64 k0, .string d, .int .i64 t, .int .i64 0] 50)
        clear HB HOWN hbel
        go_wp2_with fail
        refine (unhide hc _).mono ?_
        rintro e wC ⟨rfl, bC⟩
        have OWC := Mem.ownN_call OWD bC
        have BLC := hide ((unhide BLD).call bC)
        have bX := bW.trans (bC.mono bW.size)
        have HLT := hide (Mem.ownN_lt OWC)
        have HSZ := hide (unhide BLC).lt
        clear OWD BLD bW bC hc q0 q1 q2 q3 q4
        go_wp2_with (at_builtin; refine wpList_append_own _ rfl _ _ 37 rfl (w.heap.size + 2) 50 i0 _ 5 56 Tryd.underlying37 hi hz0 hz1 hz2 rfl (by decide) _ _ _ rfl (Mem.ownN_alloc OWC _) ⟨wC.heap.size, 0, none⟩ 1 1 [.string p, .int .i64 k0, .string d, .int .i64 t, .int .i64 0] rfl rfl (Mem.cs_new wC ⟨p, k0, d, t, 0⟩ _) (Mem.cs_one ⟨p, k0, d, t, 0⟩) (by have := unhide HLEN; unfold maxLen; omega) (by have := unhide HLEN; omega) (by have := unhide HSZ; simp; omega) ?_)
        intro v'' wZ hownZ hgrow _
        have OWZ := hide (show Mem.ownN wZ (w.heap.size + 2) v'' (Pl.plainL (L.take (k + 1))) by rw [unhide HPL]; exact Mem.ownN_snoc (L := Pl.plainL (L.take k)) (n := ⟨p, k0, d, t, 0⟩) hownZ)
        have BLZ := hide (((unhide BLC).alloc (.cells #[.string p, .int .i64 k0, .string d, .int .i64 t, .int .i64 0] 50)).grown hgrow (fun e => by have := (unhide HLT _ e.symm).1; omega))
        have bZ := (bX.alloc bX.size (.cells #[.string p, .int .i64 k0, .string d, .int .i64 t, .int .i64 0] 50)).grown hgrow (by have := bX.size; simp; omega) (fun q hq => by have := (unhide HLT q hq).1; omega)
        clear hownZ hgrow BLC OWC bX
        go_wp2
        go_roundw
        case rel => exact ⟨k + 1, by omega, by go_num, bZ, BLZ, OWZ⟩
        case measure => simp [intOf]; omega
    · obtain rfl : k = L.length := by omega
      rw [List.take_length] at HOWN
      obtain ⟨a', cap', hv'⟩ := Mem.own_shape (unhide HOWN)
      subst hv'
      have d0 := (unhide HB).cell 0
      have d1 := (unhide HB).cell 1
      have f0 := (unhide HB).fr 0
      have f1 := (unhide HB).fr 1
      simp only [kA0, kA1, kA2] at d0 d1
      go_wp2
      refine bodyPost_ret (v := .agg #[.slice a' (Pl.plainL L).length cap', .int .i64 0]) (by simp [results, Tryd.results17, go_sem, d0, d1]) rfl ⟨_, rfl, ?_, ?_⟩
      · exact Mem.ownN_mono (Mem.ownN_set (Mem.ownN_set (unhide HOWN) _ _ (by show w.heap.size + 1 < w.heap.size + 2; omega)) _ _ (by show w.heap.size + 1 < w.heap.size + 2; omega)) (by omega)
      · exact (hbel.setCell (by show w.heap.size ≤ w.heap.size + 1; omega) _).setCell (by show w.heap.size ≤ w.heap.size + 1; omega) _
end WPlainO
end Go.Proofs.YtkfpfckmjgjanabDoor
