/- Several texts of one claim in one file: WDrawLo, WDrawPo, WPlainO, WDrawPl, WIntR, WLayOf, WLayOfS. -/
import Derived.Test.YtibmflhelgedeaaGreatDoorG54
import Derived.Test.YtibmflhelgedeaaGreatDoorWDrawTr
import Derived.Test.YtibmflhelgedeaaGreatDoorG29
import Derived.Test.YtibmflhelgedeaaGreatDoorWNodesR
import Derived.Test.YtibmflhelgedeaaGreatDoorWTreeR
import Derived.Test.YtibmflhelgedeaaGreatDoorG07
import Derived.Test.YtibmflhelgedeaaGreatDoorG08
import Derived.Test.YtibmflhelgedeaaGreatDoorG02
import Derived.Test.YtibmflhelgedeaaGreatDoorG00
import Derived.Test.YtibmflhelgedeaaGreatDoorProg
import Derived.WalkKit
import Derived.WalkSpells
import Derived.Deep.QuietTactic
import Derived.BigQuiet
import Derived.Test.YtibmflhelgedeaaGreatDoorG40
import Derived.Test.YtibmflhelgedeaaGreatDoorPlainSeen
import Derived.Test.YtibmflhelgedeaaGreatDoorG03
import Derived.Deep.Cut
import Derived.Test.YtibmflhelgedeaaGreatDoorPlainAtN
/- The walk of the draw DrawLayersOf (by genDA.py). -/
namespace Go.Proofs.YtibmflhelgedeaaGreatDoor
open Go.RowKit
namespace WSrc
set_option linter.unusedSimpArgs false in
set_option maxRecDepth 100000 in
theorem drawLayersOf_any (a : Option Addr) (len cap : Nat) (w : World) (hr : RowB w w.heap.size a len cap) :
    Calls Tryz.prog 43 #[.slice a len cap] w fun e w' => ∃ (va : Option Addr) (vc : Nat) (Ts : List Pl.Tr) (p : ByteArray), Ts.length ≤ 5 ∧ p.size ≤ 200 ∧ e = .returned (.tuple #[.agg #[.slice va Ts.length vc], .string p]) ∧ LayV w' w.heap.size va Ts ∧ Below w.heap.size w w' := by
  have b0 : Below w.heap.size w (w.alloc (.cells #[.slice none 0 0] 56)) := (Below.refl _ _).alloc (Nat.le_refl _) _
  have hz0 : (w.alloc (.cells #[.slice none 0 0] 56)).heap.size = w.heap.size + 1 := by simp
  have h0 := hide (drawSeenAt_any a len cap (w.alloc (.cells #[.slice none 0 0] 56)) (row_up hr b0 (by omega)))
  have BA := Mem.Blk.new w #[.slice none 0 0] 56
  clear hr
  go_enter Tryz.func43, Tryz.ntmps43
  go_wp2_with fail
  generalize w.alloc (.cells #[.slice none 0 0] 56) = w0 at h0 b0 BA hz0 ⊢
  refine (unhide h0).mono ?_
  rintro e w1 ⟨va, vc, Ts, p, hl, hp, rfl, tv, b1⟩
  have BA := BA.below b1 (by omega)
  have b2 := b0.trans (b1.mono (by omega))
  have TV := hide (tv.set w.heap.size 0 (.slice va Ts.length vc) (by omega))
  have BB := BA.put 0 (.slice va Ts.length vc)
  have k0 := BA.cell 0
  have kf := BA.fr 0
  have q := BB.cell
  simp only [kA0, kA1, kA2] at k0
  clear h0 b0 b1 tv
  go_wp2
  refine bodyPost_ret (v := .tuple #[.agg #[.slice va Ts.length vc], .string p]) (by simp [results, Tryz.results43, go_sem, q]) rfl ?_
  exact ⟨va, vc, Ts, p, hl, hp, rfl, (unhide TV).mono (by omega), b2.setCell (Nat.le_refl _) _⟩
end WSrc
end Go.Proofs.YtibmflhelgedeaaGreatDoor

/- The walk of the draw DrawPlainOf. -/
namespace Go.Proofs.YtibmflhelgedeaaGreatDoor
open Go.RowKit
namespace WSrc
theorem row_upP {w W : World} {S len cap : Nat} {a : Option Addr} (h : RowB w w.heap.size a len cap) (b : Below w.heap.size w W) (hS : w.heap.size ≤ S) : RowB W S a len cap :=
  ⟨h.1, h.2.1, fun i hi => by
    obtain ⟨g, o, n, h1, h2, h3, h4⟩ := h.2.2 i hi
    exact ⟨g, o, n, h1, Nat.lt_of_lt_of_le h2 hS, h3, (b.cell (p := ⟨g, o + i, none⟩) h2).trans h4⟩⟩
set_option linter.unusedSimpArgs false in
set_option maxRecDepth 100000 in
set_option maxHeartbeats 2000000 in
theorem drawPlain_any (a : Option Addr) (len cap : Nat) (w : World) (hr : RowB w w.heap.size a len cap) :
    Calls Tryz.prog 45 #[.slice a len cap] w fun e w' => ∃ (va : Option Addr) (vc : Nat) (L : List Pl.Nd), L.length ≤ 64 ∧ Pl.smallL L ∧ e = .returned (.agg #[.slice va L.length vc]) ∧ TreeV w' w.heap.size va vc L ∧ Below w.heap.size w w' := by
  have b0 : Below w.heap.size w (w.alloc (.cells #[.slice none 0 0] 25)) := (Below.refl _ _).alloc (Nat.le_refl _) _
  have hz0 : (w.alloc (.cells #[.slice none 0 0] 25)).heap.size = w.heap.size + 1 := by simp
  have h0 := hide (source_any a len cap (w.alloc (.cells #[.slice none 0 0] 25)) (row_upP hr b0 (by omega)))
  have BA := Mem.Blk.new w #[.slice none 0 0] 25
  rw [hz0] at h0
  clear hr
  go_enter Tryz.func45, Tryz.ntmps45
  go_wp2_with fail
  generalize w.alloc (.cells #[.slice none 0 0] 25) = w0 at h0 b0 BA hz0 ⊢
  refine (unhide h0).mono ?_
  rintro e w1 ⟨rfl, hs, b1⟩
  have BA := BA.below b1 (by omega)
  have b1 := b0.trans (b1.mono (by omega))
  clear h0 b0
  go_wp2_with fail
  refine (tree_any (w.heap.size + 1) a len cap _ hs).mono ?_
  rintro e w2 ⟨va, vc, L, hl, hsm, rfl, tv, s2, g2⟩
  have HSM := hide hsm
  have hlt := src_lt hs
  have BA := BA.grown g2 (by simp)
  have b2 := b1.grown g2 b1.size (fun q hq => by cases hq; omega)
  have TV := hide ((tv.mono (show w.heap.size + 1 ≤ w1.heap.size by omega)).set w.heap.size 0 (.slice va L.length vc) (by omega))
  have BB := BA.put 0 (.slice va L.length vc)
  have k0 := BA.cell 0
  have kf := BA.fr 0
  have q := BB.cell
  simp only [kA0, kA1, kA2] at k0
  clear hs s2 g2 tv hsm b1
  go_wp2
  refine bodyPost_ret (v := .agg #[.slice va L.length vc]) (by simp [results, Tryz.results45, go_sem, q]) rfl ?_
  exact ⟨va, vc, L, hl, unhide HSM, rfl, (unhide TV).mono (by omega), b2.setCell (Nat.le_refl _) _⟩
end WSrc
end Go.Proofs.YtibmflhelgedeaaGreatDoor

/- The walks of PlainOf: of the specification and of the program. -/
namespace Go.Proofs.YtibmflhelgedeaaGreatDoor
open Go.RowKit
namespace Pl
def Nd.bare (n : Nd) : Nd := ⟨n.path, n.kind, n.data, n.time, 0⟩
def plainL (L : List Nd) : List Nd := (L.filter (fun n => !decide (n.kind = 0))).map Nd.bare
theorem plainL_in {L : List Nd} {k : Nat} {n : Nd} (hn : L[k]? = some n) (h : n.kind ≠ 0) : plainL (L.take (k + 1)) = plainL (L.take k) ++ [n.bare] := by
  have h1 := List.getElem?_eq_some_iff.1 hn
  rw [List.take_succ_eq_append_getElem h1.1, h1.2]
  simp [plainL, h]
theorem plainL_out {L : List Nd} {k : Nat} {n : Nd} (hn : L[k]? = some n) (h : n.kind = 0) : plainL (L.take (k + 1)) = plainL (L.take k) := by
  have h1 := List.getElem?_eq_some_iff.1 hn
  rw [List.take_succ_eq_append_getElem h1.1, h1.2]
  simp [plainL, h]
theorem plainL_len (L : List Nd) (k : Nat) : (plainL (L.take k)).length ≤ k := by
  have h1 : (plainL (L.take k)).length ≤ (L.take k).length := by simpa [plainL] using List.length_filter_le _ (L.take k)
  have h2 : (L.take k).length ≤ k := by simp; omega
  omega
def plainO (L : List Nd) : List Nd := if treeB L then plainL L else []
theorem plainO_len (L : List Nd) : (plainO L).length ≤ L.length := by
  unfold plainO
  split
  · have h := plainL_len L L.length
    rwa [List.take_length] at h
  · exact Nat.zero_le _
def plainC (L : List Nd) : Int := if treeB L then 0 else 1
end Pl
namespace WPlainO
theorem infoN : (Tryz.prog.info? 27).map (fun i => (i.zero, i.size, i.bytes)) = some (some (.agg #[.string ⟨#[]⟩, .int .i64 0, .string ⟨#[]⟩, .int .i64 0, .int .i64 0]), 5, 56) := by kernel_rfl
/-- What a round of the specification's loop finds. -/
structure At (w wr : World) (a : Option Addr) (cap : Nat) (L : List Pl.Nd) (k : Nat) (v : Value) : Prop where
  bel : Below w.heap.size w wr
  one : Mem.Blk wr w.heap.size #[.slice a L.length cap] 25
  two : Mem.Blk wr (w.heap.size + 1) #[.slice none 0 0] 25
  out : Mem.Blk wr (w.heap.size + 1 + 1) #[v] 25
  own : Mem.ownN wr (w.heap.size + 3) v (Pl.plainL (L.take k))
set_option maxRecDepth 100000 in
set_option maxHeartbeats 1000000 in
theorem l04_any (a : Option Addr) (cap : Nat) (L : List Pl.Nd) (w : World) (hl : L.length ≤ 1048576) (hv : Mem.isNodes w a L) :
    Calls Tryz.prog 113 #[.agg #[.slice a L.length cap]] w fun e w' => ∃ v, e = .returned (.agg #[v]) ∧ Mem.ownN w' w.heap.size v (Pl.plainL L) ∧ Below w.heap.size w w' := by
  obtain ⟨i0, hi, hz0, hz1, hz2⟩ := info_parts infoN
  have HV := hide hv
  clear hv
  have H0 : At w (((w.alloc (.cells #[.slice a L.length cap] 25)).alloc (.cells #[.slice none 0 0] 25)).alloc (.cells #[.slice none 0 0] 25)) a cap L 0 (.slice none 0 0) :=
    ⟨(((Below.refl _ _).alloc (Nat.le_refl _) _).alloc (by simp) _).alloc (by simp; omega) _, ((Mem.Blk.new _ _ _).alloc _).alloc _, (by have h := (Mem.Blk.new (w.alloc (.cells #[.slice a L.length cap] 25)) #[.slice none 0 0] 25).alloc (.cells #[.slice none 0 0] 25); rwa [show (w.alloc (.cells #[.slice a L.length cap] 25)).heap.size = w.heap.size + 1 by simp] at h), Mem.new_three _ _ _ _, by simpa [Pl.plainL] using Mem.ownN_nil _ _⟩
  have HH := hide H0
  clear H0
  go_enter Tryz.func113, Tryz.ntmps113
  go_wp2
  go_loopw [4] (fun i wr => ∃ k : Nat, k ≤ L.length ∧ i = .int .i64 (k : Int) ∧ Hid (∃ v, At w wr a cap L k v)) (fun i _ => L.length - (intOf i).toNat)
  case atStart => exact ⟨0, Nat.zero_le _, rfl, ⟨_, unhide HH⟩⟩
  case round =>
    obtain ⟨k, hk, rfl, HA⟩ := hrel
    obtain ⟨v, A⟩ := unhide HA
    have c1 := A.one.cell 0
    have c3 := A.out.cell 0
    have f3 := A.out.fr 0
    simp only [kA0, kA1] at c1 c3
    have KA := hide A
    clear HA A HH
    by_cases hlt : k < L.length
    · obtain ⟨n, hn⟩ : ∃ n, L[k]? = some n := ⟨_, List.getElem?_eq_getElem hlt⟩
      obtain ⟨b, o, rfl, hb, q0, q1, q2, q3, q4⟩ := (Mem.nodes_call (unhide HV) (unhide KA).bel) k n hn
      have y1 : (k : Int) < (L.length : Int) := by omega
      have y3 : (0 : Int) ≤ (k : Int) := by omega
      by_cases hk0 : n.kind = 0
      · have t2 : (n.kind == 0) = true := by simpa using hk0
        have H2 : Hid (At w (wr.alloc (.cells #[.string n.path, .int .i64 0, .string n.data, .int .i64 n.time, .int .i64 0] 27)) (some ⟨b, o, none⟩) cap L (k + 1) v) :=
          ⟨(unhide KA).bel.alloc (unhide KA).bel.size _, (unhide KA).one.alloc _, (unhide KA).two.alloc _, (unhide KA).out.alloc _, by rw [Pl.plainL_out hn hk0]; exact Mem.ownN_alloc (unhide KA).own _⟩
        clear KA
        go_wp2
        go_roundw
        case rel => exact ⟨k + 1, by omega, by go_num, ⟨v, unhide H2⟩⟩
        case measure => simp [intOf]; omega
      · have t2 : (n.kind == 0) = false := by simpa using hk0
        have HPL := hide (Pl.plainL_in hn hk0)
        have HLEN := hide (Pl.plainL_len L k)
        have HLT := hide (Mem.ownN_lt (unhide KA).own)
        have HSZ := hide (unhide KA).out.lt
        clear hn hk0
        obtain ⟨p, k0, d, t, m⟩ := n
        simp only [Pl.Nd.bare] at q0 q1 q2 q3 q4 t2 HPL
        have c3a := ((unhide KA).out.alloc (.cells #[.string p, .int .i64 k0, .string d, .int .i64 t, .int .i64 0] 27)).cell 0
        simp only [kA0, kA1] at c3a
        have bW := (unhide KA).bel.alloc (unhide KA).bel.size (.cells #[.string p, .int .i64 k0, .string d, .int .i64 t, .int .i64 0] 27)
        have OWD := Mem.ownN_alloc (unhide KA).own (.cells #[.string p, .int .i64 k0, .string d, .int .i64 t, .int .i64 0] 27)
        have BLD := hide ((unhide KA).out.alloc (.cells #[.string p, .int .i64 k0, .string d, .int .i64 t, .int .i64 0] 27))
        have BL1 := hide ((unhide KA).one.alloc (.cells #[.string p, .int .i64 k0, .string d, .int .i64 t, .int .i64 0] 27))
        have BL2 := hide ((unhide KA).two.alloc (.cells #[.string p, .int .i64 k0, .string d, .int .i64 t, .int .i64 0] 27))
        have hWs : (wr.alloc (.cells #[.string p, .int .i64 k0, .string d, .int .i64 t, .int .i64 0] 27)).heap.size = wr.heap.size + 1 := by simp
        clear KA
        have hnew : ∀ j u, [Value.string p, .int .i64 k0, .string d, .int .i64 t, .int .i64 0][j]? = some u → ((wr.alloc (.cells #[.string p, .int .i64 k0, .string d, .int .i64 t, .int .i64 0] 27)).alloc (.cells #[.string p, .int .i64 k0, .string d, .int .i64 t, .int .i64 0] 27)).cell? ((⟨wr.heap.size + 1, 0, none⟩ : Addr).add j) = some u := by
          have h := Mem.cs_new (wr.alloc (.cells #[.string p, .int .i64 k0, .string d, .int .i64 t, .int .i64 0] 27)) ⟨p, k0, d, t, 0⟩ 27
          rw [hWs] at h
          exact h
        have HNW := hide hnew
        clear hnew
        go_wp2_with (at_builtin; refine wpList_append_own _ rfl _ _ 23 rfl (w.heap.size + 3) 27 i0 _ 5 56 Tryz.underlying23 hi hz0 hz1 hz2 rfl (by decide) _ _ _ rfl (Mem.ownN_alloc OWD _) ⟨wr.heap.size + 1, 0, none⟩ 1 1 [.string p, .int .i64 k0, .string d, .int .i64 t, .int .i64 0] rfl rfl (unhide HNW) (Mem.cs_one ⟨p, k0, d, t, 0⟩) (by have := unhide HLEN; unfold maxLen; omega) (by have := unhide HLEN; omega) (by have := unhide HSZ; simp; omega) ?_)
        intro v'' wZ hownZ hgrow _
        obtain ⟨a', cap', hv'⟩ := Mem.own_shape hownZ
        subst hv'
        have blkZ := ((unhide BLD).alloc (.cells #[.string p, .int .i64 k0, .string d, .int .i64 t, .int .i64 0] 27)).grown hgrow (fun e => by have := (unhide HLT _ e.symm).1; omega)
        have cZ := blkZ.cell 0
        have fZ := blkZ.fr 0
        simp only [kA0, kA1] at cZ
        have FIN : Hid (At w (wZ.setCell ⟨w.heap.size + 1 + 1, 0, none⟩ (.slice a' ((Pl.plainL (L.take k)).length + 1) cap')) (some ⟨b, o, none⟩) cap L (k + 1) (.slice a' ((Pl.plainL (L.take k)).length + 1) cap')) :=
          ⟨(((bW.alloc bW.size (.cells #[.string p, .int .i64 k0, .string d, .int .i64 t, .int .i64 0] 27)).grown hgrow (by have := bW.size; simp; omega) (fun q hq => by have := (unhide HLT q hq).1; omega)).setCell (by show w.heap.size ≤ w.heap.size + 1 + 1; omega) _),
            (((unhide BL1).alloc (.cells #[.string p, .int .i64 k0, .string d, .int .i64 t, .int .i64 0] 27)).grown hgrow (fun e => by have := (unhide HLT _ e.symm).1; omega)).far _ _ (by show w.heap.size ≠ w.heap.size + 1 + 1; omega),
            (((unhide BL2).alloc (.cells #[.string p, .int .i64 k0, .string d, .int .i64 t, .int .i64 0] 27)).grown hgrow (fun e => by have := (unhide HLT _ e.symm).1; omega)).far _ _ (by show w.heap.size + 1 ≠ w.heap.size + 1 + 1; omega),
            blkZ.put 0 (.slice a' ((Pl.plainL (L.take k)).length + 1) cap'), by
            rw [unhide HPL]
            exact Mem.ownN_set (Mem.ownN_snoc (L := Pl.plainL (L.take k)) (n := ⟨p, k0, d, t, 0⟩) hownZ) _ _ (by show w.heap.size + 1 + 1 < w.heap.size + 3; omega)⟩
        clear blkZ hownZ hgrow BLD BL1 BL2 OWD bW
        go_wp2
        go_roundw
        case rel => exact ⟨k + 1, by omega, by go_num, ⟨.slice a' ((Pl.plainL (L.take k)).length + 1) cap', unhide FIN⟩⟩
        case measure => simp [intOf]; omega
    · have y1 : ¬ (k : Int) < (L.length : Int) := by omega
      obtain rfl : k = L.length := by omega
      obtain ⟨a', cap', hv'⟩ := Mem.own_shape (unhide KA).own
      subst hv'
      have c2 := (unhide KA).two.cell 0
      have f2 := (unhide KA).two.fr 0
      simp only [kA0, kA1] at c2
      go_wp2
      refine bodyPost_ret (v := .agg #[.slice a' (Pl.plainL (L.take L.length)).length cap']) (by simp [results, Tryz.results113, go_sem, c2]) rfl ⟨_, rfl, ?_, ?_⟩
      · have h := (unhide KA).own
        rw [show Pl.plainL (L.take L.length) = Pl.plainL L by rw [List.take_length]] at h ⊢
        exact Mem.ownN_mono (Mem.ownN_set h _ _ (by show w.heap.size + 1 < w.heap.size + 3; omega)) (by omega)
      · exact (unhide KA).bel.setCell (by show w.heap.size ≤ w.heap.size + 1; omega) _
set_option maxRecDepth 100000 in
set_option maxHeartbeats 1000000 in
theorem spec_any (a : Option Addr) (cap : Nat) (L : List Pl.Nd) (w : World) (hl : L.length ≤ 1048576) (hv : Mem.isNodes w a L) (hok : ∀ n ∈ L, n.path.size ≤ 1048576 ∧ n.data.size ≤ 1048576) :
    Calls Tryz.prog 50 #[.agg #[.slice a L.length cap]] w fun e w' => ∃ v, e = .returned (.agg #[v, .int .i64 (Pl.plainC L)]) ∧ Mem.ownN w' w.heap.size v (Pl.plainO L) ∧ Below w.heap.size w w' := by
  have b0 : Below w.heap.size w ((w.alloc (.cells #[.slice a L.length cap] 25)).alloc (.cells #[.slice none 0 0, .int .i64 0] 31)) := ((Below.refl _ _).alloc (Nat.le_refl _) _).alloc (by simp) _
  have hr := hide (WTreeS.right_tree a cap L _ hl (Mem.nodes_call hv b0) hok)
  have hp := hide (fun W (b : Below w.heap.size w W) => l04_any a cap L W hl (Mem.nodes_call hv b))
  have V1 := (Mem.Blk.new w #[.slice a L.length cap] 25).alloc (.cells #[.slice none 0 0, .int .i64 0] 31)
  have V2 : Mem.Blk ((w.alloc (.cells #[.slice a L.length cap] 25)).alloc (.cells #[.slice none 0 0, .int .i64 0] 31)) (w.heap.size + 1) #[.slice none 0 0, .int .i64 0] 31 := Mem.new_two _ _ _
  have EO : Hid (Pl.treeB L = true → Pl.plainO L = Pl.plainL L ∧ Pl.plainC L = 0) := fun h => by simp [Pl.plainO, Pl.plainC, h]
  have EN : Hid (Pl.treeB L = false → Pl.plainO L = [] ∧ Pl.plainC L = 1) := fun h => by simp [Pl.plainO, Pl.plainC, h]
  generalize Pl.plainO L = PO at EO EN ⊢
  generalize Pl.plainC L = PC at EO EN ⊢
  generalize Pl.treeB L = R2 at EO EN hr
  clear hv hok
  cases R2
  · obtain ⟨rfl, rfl⟩ := unhide EN rfl
    clear EO EN hp
    go_enter Tryz.func50, Tryz.ntmps50
    go_wp2_with fail
    refine (unhide hr).mono ?_
    rintro e w1 ⟨rfl, b1⟩
    have b2 := b0.trans (b1.mono b0.size)
    have V3 := V2.call b1
    clear hr b0 b1 V1 V2
    go_wp2_with fail
    refine (WIll3.ill_any 1 _).mono ?_
    rintro e w3 ⟨rfl, b3⟩
    have b4 := b2.trans (b3.mono b2.size)
    have V4 := V3.call b3
    have c0 := V4.cell 0
    have c1 := V4.cell 1
    have f0 := V4.fr 0
    have f1 := V4.fr 1
    simp only [kA0, kA1, kA2] at c0 c1
    clear b2 b3 V3
    go_wp2
    refine bodyPost_ret (v := .agg #[.slice none 0 0, .int .i64 1]) (by simp [results, Tryz.results50, go_sem, c0, c1]) rfl ⟨_, rfl, Mem.ownN_nil _ _, ?_⟩
    exact (b4.setCell (by show w.heap.size ≤ w.heap.size + 1; omega) _).setCell (by show w.heap.size ≤ w.heap.size + 1; omega) _
  obtain ⟨rfl, rfl⟩ := unhide EO rfl
  clear EO EN
  go_enter Tryz.func50, Tryz.ntmps50
  go_wp2_with fail
  refine (unhide hr).mono ?_
  rintro e w1 ⟨rfl, b1⟩
  have b2 := b0.trans (b1.mono b0.size)
  have V3 := V2.call b1
  have c0 := (V1.call b1).cell 0
  simp only [kA0, kA1] at c0
  clear hr b0 b1 V1 V2
  go_wp2_with fail
  refine (unhide hp _ b2).mono ?_
  rintro e w3 ⟨v, rfl, own, b3⟩
  obtain ⟨a', cap', rfl⟩ := Mem.own_shape own
  have OW := hide own
  have b4 := b2.trans (b3.mono b2.size)
  have V4 := V3.call b3
  have d0 := V4.cell 0
  have d1 := V4.cell 1
  have f0 := V4.fr 0
  have f1 := V4.fr 1
  have hs : w.heap.size + 1 < w1.heap.size := V3.lt
  simp only [kA0, kA1, kA2] at d0 d1
  clear b3 V3 hp own c0
  go_wp2
  refine bodyPost_ret (v := .agg #[.slice a' (Pl.plainL L).length cap', .int .i64 0]) (by simp [results, Tryz.results50, go_sem, d0, d1]) rfl ⟨_, rfl, ?_, ?_⟩
  · exact Mem.ownN_mono (Mem.ownN_set (Mem.ownN_set (unhide OW) _ _ hs) _ _ hs) (by omega)
  · exact (b4.setCell (by show w.heap.size ≤ w.heap.size + 1; omega) _).setCell (by show w.heap.size ≤ w.heap.size + 1; omega) _
set_option maxRecDepth 100000 in
set_option maxHeartbeats 1000000 in
theorem impl_any (a : Option Addr) (cap : Nat) (L : List Pl.Nd) (w : World) (hl : L.length ≤ 1048576) (hv : Mem.isNodes w a L) (hok : ∀ n ∈ L, n.path.size ≤ 1048576 ∧ n.data.size ≤ 1048576)
    (r1 r2 r3 : TypeId) (x1 x2 x3 : Value) (hE : WNodesI.Errs w r1 r2 r3 x1 x2 x3) :
    Calls Tryz.prog 46 #[.agg #[.slice a L.length cap]] w fun e w' => ∃ v, e = .returned (.agg #[v, .int .i64 (Pl.plainC L)]) ∧ Mem.ownN w' w.heap.size v (Pl.plainO L) ∧ Below w.heap.size w w' := by
  obtain ⟨i0, hi, hz0, hz1, hz2⟩ := info_parts infoN
  have b0 : Below w.heap.size w ((w.alloc (.cells #[.slice a L.length cap] 25)).alloc (.cells #[.slice none 0 0, .int .i64 0] 31)) := ((Below.refl _ _).alloc (Nat.le_refl _) _).alloc (by simp) _
  have hr := hide (WNodesI.treeRight_any a cap L _ hl (Mem.nodes_call hv b0) hok r1 r2 r3 x1 x2 x3 (hE.call b0))
  have HV := hide hv
  have HO := hide hok
  have V1 := (Mem.Blk.new w #[.slice a L.length cap] 25).alloc (.cells #[.slice none 0 0, .int .i64 0] 31)
  have V2 : Mem.Blk ((w.alloc (.cells #[.slice a L.length cap] 25)).alloc (.cells #[.slice none 0 0, .int .i64 0] 31)) (w.heap.size + 1) #[.slice none 0 0, .int .i64 0] 31 := Mem.new_two _ _ _
  have EO : Hid (Pl.treeB L = true → Pl.plainO L = Pl.plainL L ∧ Pl.plainC L = 0) := fun h => by simp [Pl.plainO, Pl.plainC, h]
  have EN : Hid (Pl.treeB L = false → Pl.plainO L = [] ∧ Pl.plainC L = 1) := fun h => by simp [Pl.plainO, Pl.plainC, h]
  generalize Pl.plainO L = PO at EO EN ⊢
  generalize Pl.plainC L = PC at EO EN ⊢
  generalize Pl.treeB L = R2 at EO EN hr
  clear hv hok hE
  cases R2
  · obtain ⟨rfl, rfl⟩ := unhide EN rfl
    clear EO EN
    go_enter Tryz.func46, Tryz.ntmps46
    go_wp2_with fail
    refine (unhide hr).mono ?_
    rintro e w1 ⟨rfl, b1⟩
    have b2 := b0.trans (b1.mono b0.size)
    have V3 := V2.call b1
    have c0 := V3.cell 0
    have c1 := V3.cell 1
    have f0 := V3.fr 0
    have f1 := V3.fr 1
    simp only [kA0, kA1, kA2] at c0 c1
    clear hr b0 b1 V1 V2
    go_wp2
    refine bodyPost_ret (v := .agg #[.slice none 0 0, .int .i64 1]) (by simp [results, Tryz.results46, go_sem, c0, c1]) rfl ⟨_, rfl, Mem.ownN_nil _ _, ?_⟩
    exact (b2.setCell (by show w.heap.size ≤ w.heap.size + 1; omega) _).setCell (by show w.heap.size ≤ w.heap.size + 1; omega) _
  obtain ⟨rfl, rfl⟩ := unhide EO rfl
  clear EO EN
  go_enter Tryz.func46, Tryz.ntmps46
  go_wp2_with fail
  refine (unhide hr).mono ?_
  rintro e w1 ⟨rfl, b1⟩
  have b2 := b0.trans (b1.mono b0.size)
  have V3 := V2.call b1
  have hs : w.heap.size + 1 < w1.heap.size := V3.lt
  have c0 := ((V1.call b1).alloc (.cells #[] 27)).cell 0
  simp only [kA0, kA1] at c0
  have OW0 : Hid (Mem.ownN (w1.alloc (.cells #[] 27)) (w.heap.size + 2) (.slice (some ⟨w1.heap.size, 0, none⟩) 0 0) (Pl.plainL (L.take 0))) :=
    ⟨rfl, .inr ⟨w1.heap.size, 0, #[], rfl, by omega, heap_alloc_new _ _, Nat.le_refl _, Nat.zero_le _, rfl, rfl⟩⟩
  have b3 := b2.alloc b2.size (.cells #[] 27)
  have V4 := hide (V3.alloc (.cells #[] 27))
  clear hr b0 b1 V1 V2 V3 b2
  go_wp2
  go_loopw [3, 14] (fun v i wr => ∃ k : Nat, k ≤ L.length ∧ i = .int .i64 (k : Int) ∧ Below w.heap.size w wr ∧ Hid (Mem.Blk wr (w.heap.size + 1) #[.slice none 0 0, .int .i64 0] 31) ∧ Hid (Mem.ownN wr (w.heap.size + 2) v (Pl.plainL (L.take k)))) (fun _ i _ => L.length - (intOf i).toNat)
  case atStart => exact ⟨0, Nat.zero_le _, rfl, b3, V4, OW0⟩
  case round =>
    obtain ⟨k, hk, rfl, hbel, HB, HOWN⟩ := hrel
    clear c0 b3 V4 OW0
    by_cases hlt : k < L.length
    · obtain ⟨n, hn⟩ : ∃ n, L[k]? = some n := ⟨_, List.getElem?_eq_getElem hlt⟩
      obtain ⟨b, o, rfl, hb, q0, q1, q2, q3, q4⟩ := (Mem.nodes_call (unhide HV) hbel) k n hn
      have y1 : (k : Int) < (L.length : Int) := by omega
      have y3 : (0 : Int) ≤ (k : Int) := by omega
      have hno := unhide HO n (List.mem_of_getElem? hn)
      by_cases hk0 : n.kind = 0
      · have t2 : (n.kind == 0) = true := by simpa using hk0
        have OW2 := hide (show Mem.ownN (wr.alloc (.cells #[.string n.path, .int .i64 0, .string n.data, .int .i64 n.time, .int .i64 n.mark] 27)) (w.heap.size + 2) u3 (Pl.plainL (L.take (k + 1))) by rw [Pl.plainL_out hn hk0]; exact Mem.ownN_alloc (unhide HOWN) _)
        have HB2 := hide ((unhide HB).alloc (.cells #[.string n.path, .int .i64 0, .string n.data, .int .i64 n.time, .int .i64 n.mark] 27))
        have bb := hbel.alloc hbel.size (.cells #[.string n.path, .int .i64 0, .string n.data, .int .i64 n.time, .int .i64 n.mark] 27)
        clear hn HB HOWN hbel
        go_wp2
        go_roundw
        case rel => exact ⟨k + 1, by omega, by go_num, bb, HB2, OW2⟩
        case measure => simp [intOf]; omega
      · have t2 : (n.kind == 0) = false := by simpa using hk0
        have HPL := hide (Pl.plainL_in hn hk0)
        have HLEN := hide (Pl.plainL_len L k)
        have hc := hide (fun W => WCopied.any n.bare W hno.1 hno.2)
        clear hn hk0
        obtain ⟨p, k0, d, t, m⟩ := n
        simp only [Pl.Nd.bare, Pl.Nd.val] at q0 q1 q2 q3 q4 t2 HPL hc
        have OWD := Mem.ownN_alloc (unhide HOWN) (.cells #[.string p, .int .i64 k0, .string d, .int .i64 t, .int .i64 0] 27)
        have BLD := hide ((unhide HB).alloc (.cells #[.string p, .int .i64 k0, .string d, .int .i64 t, .int .i64 0] 27))
        have bW := hbel.alloc hbel.size (.cells #[.string p, .int .i64 k0, .string d, .int .i64 t, .int .i64 0] 27)
        clear HB HOWN hbel
        go_wp2_with fail
        refine (unhide hc _).mono ?_
        rintro e wC ⟨rfl, bC⟩
        have OWC := Mem.ownN_call OWD bC
        have BLC := hide ((unhide BLD).call bC)
        have bX := bW.trans (bC.mono bW.size)
        have HLT := hide (Mem.ownN_lt OWC)
        have HSZ := hide (unhide BLC).lt
        clear OWD BLD bW bC hc q0 q1 q2 q3 q4
        go_wp2_with (at_builtin; refine wpList_append_own _ rfl _ _ 23 rfl (w.heap.size + 2) 27 i0 _ 5 56 Tryz.underlying23 hi hz0 hz1 hz2 rfl (by decide) _ _ _ rfl (Mem.ownN_alloc OWC _) ⟨wC.heap.size, 0, none⟩ 1 1 [.string p, .int .i64 k0, .string d, .int .i64 t, .int .i64 0] rfl rfl (Mem.cs_new wC ⟨p, k0, d, t, 0⟩ _) (Mem.cs_one ⟨p, k0, d, t, 0⟩) (by have := unhide HLEN; unfold maxLen; omega) (by have := unhide HLEN; omega) (by have := unhide HSZ; simp; omega) ?_)
        intro v'' wZ hownZ hgrow _
        have OWZ := hide (show Mem.ownN wZ (w.heap.size + 2) v'' (Pl.plainL (L.take (k + 1))) by rw [unhide HPL]; exact Mem.ownN_snoc (L := Pl.plainL (L.take k)) (n := ⟨p, k0, d, t, 0⟩) hownZ)
        have BLZ := hide (((unhide BLC).alloc (.cells #[.string p, .int .i64 k0, .string d, .int .i64 t, .int .i64 0] 27)).grown hgrow (fun e => by have := (unhide HLT _ e.symm).1; omega))
        have bZ := (bX.alloc bX.size (.cells #[.string p, .int .i64 k0, .string d, .int .i64 t, .int .i64 0] 27)).grown hgrow (by have := bX.size; simp; omega) (fun q hq => by have := (unhide HLT q hq).1; omega)
        clear hownZ hgrow BLC OWC bX
        go_wp2
        go_roundw
        case rel => exact ⟨k + 1, by omega, by go_num, bZ, BLZ, OWZ⟩
        case measure => simp [intOf]; omega
    · obtain rfl : k = L.length := by omega
      rw [List.take_length] at HOWN
      obtain ⟨a', cap', hv'⟩ := Mem.own_shape (unhide HOWN)
      subst hv'
      have d0 := (unhide HB).cell 0
      have d1 := (unhide HB).cell 1
      have f0 := (unhide HB).fr 0
      have f1 := (unhide HB).fr 1
      simp only [kA0, kA1, kA2] at d0 d1
      go_wp2
      refine bodyPost_ret (v := .agg #[.slice a' (Pl.plainL L).length cap', .int .i64 0]) (by simp [results, Tryz.results46, go_sem, d0, d1]) rfl ⟨_, rfl, ?_, ?_⟩
      · exact Mem.ownN_mono (Mem.ownN_set (Mem.ownN_set (unhide HOWN) _ _ (by show w.heap.size + 1 < w.heap.size + 2; omega)) _ _ (by show w.heap.size + 1 < w.heap.size + 2; omega)) (by omega)
      · exact (hbel.setCell (by show w.heap.size ≤ w.heap.size + 1; omega) _).setCell (by show w.heap.size ≤ w.heap.size + 1; omega) _
end WPlainO
end Go.Proofs.YtibmflhelgedeaaGreatDoor

/- The walk of the draw DrawTreePlain. -/
namespace Go.Proofs.YtibmflhelgedeaaGreatDoor
open Go.RowKit
namespace WSrc
theorem row_upQ {w W : World} {S len cap : Nat} {a : Option Addr} (h : RowB w w.heap.size a len cap) (b : Below w.heap.size w W) (hS : w.heap.size ≤ S) : RowB W S a len cap :=
  ⟨h.1, h.2.1, fun i hi => by
    obtain ⟨g, o, n, h1, h2, h3, h4⟩ := h.2.2 i hi
    exact ⟨g, o, n, h1, Nat.lt_of_lt_of_le h2 hS, h3, (b.cell (p := ⟨g, o + i, none⟩) h2).trans h4⟩⟩
theorem plainO_ok {L : List Pl.Nd} (h : ∀ n ∈ L, n.path.size ≤ 1048576 ∧ n.data.size ≤ 1048576) : ∀ n ∈ Pl.plainO L, n.path.size ≤ 1048576 ∧ n.data.size ≤ 1048576 := by
  intro n hn
  unfold Pl.plainO at hn
  split at hn
  · unfold Pl.plainL at hn
    obtain ⟨m, hm, rfl⟩ := List.mem_map.1 hn
    exact h m (List.mem_filter.1 hm).1
  · cases hn
set_option linter.unusedSimpArgs false in
set_option maxRecDepth 100000 in
set_option maxHeartbeats 2000000 in
theorem drawTreePlain_any (a : Option Addr) (len cap : Nat) (w : World) (hr : RowB w w.heap.size a len cap) :
    Calls Tryz.prog 47 #[.slice a len cap] w fun e w' => ∃ (va : Option Addr) (vc : Nat) (L : List Pl.Nd), L.length ≤ 64 ∧ (∀ n ∈ L, n.path.size ≤ 1048576 ∧ n.data.size ≤ 1048576) ∧ e = .returned (.agg #[.slice va L.length vc]) ∧ Mem.isNodes w' va L ∧ Below w.heap.size w w' := by
  have b0 : Below w.heap.size w (w.alloc (.cells #[.slice none 0 0] 25)) := (Below.refl _ _).alloc (Nat.le_refl _) _
  have hz0 : (w.alloc (.cells #[.slice none 0 0] 25)).heap.size = w.heap.size + 1 := by simp
  have h0 := hide (source_any a len cap (w.alloc (.cells #[.slice none 0 0] 25)) (row_upQ hr b0 (by omega)))
  have BA := Mem.Blk.new w #[.slice none 0 0] 25
  rw [hz0] at h0
  clear hr
  go_enter Tryz.func47, Tryz.ntmps47
  go_wp2_with fail
  generalize w.alloc (.cells #[.slice none 0 0] 25) = w0 at h0 b0 BA hz0 ⊢
  refine (unhide h0).mono ?_
  rintro e w1 ⟨rfl, hs, b1⟩
  have BA := BA.below b1 (by omega)
  have b1 := b0.trans (b1.mono (by omega))
  clear h0 b0
  go_wp2_with fail
  refine (tree_any (w.heap.size + 1) a len cap _ hs).mono ?_
  rintro e w2 ⟨va, vc, L, hl, hsm, rfl, tv, s2, g2⟩
  have HSM := hide (Pl.small_ok hsm)
  have hlt := src_lt hs
  have BA := BA.grown g2 (by simp)
  have b2 := b1.grown g2 b1.size (fun q hq => by cases hq; omega)
  have hz2 := g2.size
  have bA : Below w2.heap.size w2 (w2.alloc (.cells #[.slice va L.length vc] 25)) := (Below.refl _ _).alloc (Nat.le_refl _) _
  have V4 := Mem.Blk.new w2 #[.slice va L.length vc] 25
  have BA := BA.call bA
  have tv := hide (tv.call bA)
  have b3 := b2.trans (bA.mono b2.size)
  have s3 := src_alloc s2 (.cells #[.slice va L.length vc] 25)
  clear hs s2 g2 hsm b1 bA b2
  go_wp2_with fail
  generalize w2.alloc (.cells #[.slice va L.length vc] 25) = w3 at BA tv b3 s3 V4 ⊢
  have hX : w.heap.size + 1 < w2.heap.size := by omega
  generalize w2.heap.size = X4 at V4 hX ⊢
  refine (one_any (w.heap.size + 1) a len cap 2 _ s3 (by omega)).mono ?_
  rintro e w4 ⟨r, rfl, s4, g4⟩
  have BA := BA.grown g4 (by simp)
  have V4 := V4.grown g4 (fun e => by cases e; omega)
  have b4 := b3.grown g4 b3.size (fun q hq => by cases hq; omega)
  have TV := (unhide tv).grown g4 (fun q hq => by cases hq; omega)
  have NL := hide TV.1
  have TS := hide ((TV.mono (show w.heap.size + 1 ≤ w1.heap.size by omega)).set w.heap.size 0 (.slice va L.length vc) (by omega))
  clear TV
  have k4 := V4.cell 0
  have k0 := BA.cell 0
  have kf := BA.fr 0
  simp only [kA0, kA1, kA2] at k0 k4
  clear s3 s4 g4 tv b3
  have hR : w.heap.size < w4.heap.size := BA.lt
  cases r
  · have q := (BA.put 0 (.slice va L.length vc)).cell
    clear NL
    go_wp2
    refine bodyPost_ret (v := .agg #[.slice va L.length vc]) (by simp [results, Tryz.results47, go_sem, q]) rfl ?_
    exact ⟨va, vc, L, hl, unhide HSM, rfl, (unhide TS).1, b4.setCell (Nat.le_refl _) _⟩
  · have hpl := hide (WPlainO.spec_any va vc L w4 (by omega) (unhide NL) (unhide HSM))
    have HOK := hide (plainO_ok (unhide HSM))
    have hol := Pl.plainO_len L
    generalize Pl.plainO L = O at hpl HOK hol
    generalize Pl.plainC L = C at hpl
    clear TS NL
    go_wp2_with fail
    refine (unhide hpl).mono ?_
    rintro e w5 ⟨v, rfl, own, b5⟩
    obtain ⟨sa, sc, rfl⟩ := Mem.own_shape own
    have hfd : ∀ W, (Instr.field 31 (.agg #[.slice sa O.length sc, .int .i64 C]) 0).run Tryz.prog W = .ok (.agg #[.slice sa O.length sc]) W := fun W => by kernel_rfl
    have NO := hide (Mem.ownN_nodes (Mem.ownN_set own ⟨w.heap.size, 0, none⟩ (.slice sa O.length sc) (by show w.heap.size < _; omega))).2
    have BA := BA.call b5
    have b6 := b4.trans (b5.mono b4.size)
    have q := (BA.put 0 (.slice sa O.length sc)).cell
    have k0 := BA.cell 0
    have kf := BA.fr 0
    simp only [kA0, kA1, kA2] at k0
    clear hpl own b5 b4 k4
    go_wp2
    refine bodyPost_ret (v := .agg #[.slice sa O.length sc]) (by simp [results, Tryz.results47, go_sem, q]) rfl ?_
    exact ⟨sa, sc, O, by omega, unhide HOK, rfl, unhide NO, b6.setCell (Nat.le_refl _) _⟩
end WSrc
end Go.Proofs.YtibmflhelgedeaaGreatDoor

/- Rows of numbers in memory. -/
namespace Go.Proofs.YtibmflhelgedeaaGreatDoor
open Go.RowKit
namespace WIntL
def valsI (ks : List Nat) : List Value := ks.map (fun k : Nat => Value.int .i64 (k : Int))
def isInts (w : World) (v : Value) (ks : List Nat) : Prop :=
  (v = .slice none 0 0 ∧ ks = []) ∨ ∃ b cap, v = .slice (some ⟨b, 0, none⟩) ks.length cap ∧ b < w.heap.size ∧ ∀ (j k : Nat), ks[j]? = some k → w.cell? ⟨b, j, none⟩ = some (.int .i64 (k : Int))
theorem ints_shape {w : World} {v : Value} {ks : List Nat} (h : isInts w v ks) : ∃ a cap, v = .slice a ks.length cap := by
  rcases h with ⟨rfl, rfl⟩ | ⟨b, cap, rfl, -⟩
  · exact ⟨_, _, rfl⟩
  · exact ⟨_, _, rfl⟩
theorem ints_call {w w' : World} {v : Value} {ks : List Nat} (h : isInts w v ks) (hb : Below w.heap.size w w') : isInts w' v ks := by
  rcases h with h | ⟨b, cap, rfl, hlt, hc⟩
  · exact .inl h
  · exact .inr ⟨b, cap, rfl, Nat.lt_of_lt_of_le hlt hb.size, fun j t ht => (hb.cell (p := ⟨b, j, none⟩) hlt).trans (hc j t ht)⟩
/-- A row of numbers of the call's own. -/
def Own (w : World) (B : Nat) (v : Value) (ks : List Nat) : Prop := w.ownsRow B 2 1 v ks.length (valsI ks)
theorem Own.call {w w' : World} {B : Nat} {v : Value} {K : List Nat} (h : Own w B v K) (b : Below w.heap.size w w') : Own w' B v K := Mem.own_call h b
theorem Own.lt {w : World} {B : Nat} {v : Value} {K : List Nat} (h : Own w B v K) : ∀ g, v.ownBlock = some g → B ≤ g ∧ g < w.heap.size := fun g hg => World.ownsRow.lt h g hg
theorem Own.ints {w : World} {B : Nat} {v : Value} {ks : List Nat} (h : Own w B v ks) : isInts w v ks := by
  rcases h.2 with ⟨h1, h0⟩ | ⟨g, cap, cur, rfl, hb, hg, -⟩
  · exact .inl ⟨h1, List.eq_nil_of_length_eq_zero h0⟩
  · refine .inr ⟨g, cap, rfl, (Array.getElem?_eq_some_iff.1 hg).1, fun j k hk => ?_⟩
    have := World.ownsRow.cells h (g := g) rfl j (.int .i64 (k : Int)) (by simp [valsI, hk])
    rw [Mem.add_lit] at this
    exact this
theorem Own.nil (w : World) (B : Nat) : Own w B (.slice none 0 0) [] := ⟨rfl, .inl ⟨rfl, rfl⟩⟩
theorem Own.snoc {w : World} {B : Nat} {v : Value} {ks : List Nat} {k : Nat} (h : w.ownsRow B 2 1 v (ks.length + 1) (valsI ks ++ [.int .i64 (k : Int)])) : Own w B v (ks ++ [k]) := by
  unfold Own valsI
  rw [List.map_append, List.length_append]
  exact h
theorem infoL : (Tryz.prog.info? 2).map (fun i => (i.zero, i.size, i.bytes)) = some (some (.int .i64 0), 1, 8) := by kernel_rfl
end WIntL
end Go.Proofs.YtibmflhelgedeaaGreatDoor

/- The program's LayersOf. -/
namespace Go.Proofs.YtibmflhelgedeaaGreatDoor
open Go.RowKit
namespace Pl
/-- Who has a part in a path. -/
def layO (Ls : List (List Nd)) (p : ByteArray) : List Nat := if layB Ls = true ∧ pathB p = true then (List.range Ls.length).filter (fun i => (seenS Ls p).have'.getD i false) else []
theorem layO_no {Ls : List (List Nd)} {p : ByteArray} (h : layB Ls = false ∨ pathB p = false) : layO Ls p = [] := by
  rw [layO, if_neg (fun h2 => by rcases h with h | h; (· rw [h] at h2; cases h2.1); (· rw [h] at h2; cases h2.2))]
theorem layO_yes {Ls : List (List Nd)} {p : ByteArray} (h : layB Ls = true) (h2 : pathB p = true) : layO Ls p = (List.range Ls.length).filter (fun i => (seenS Ls p).have'.getD i false) := by rw [layO, if_pos ⟨h, h2⟩]
theorem filter_succ (f : Nat → Bool) (k : Nat) : (List.range (k + 1)).filter f = if f k = true then (List.range k).filter f ++ [k] else (List.range k).filter f := by
  rw [List.range_succ, List.filter_append]
  by_cases h : f k = true
  · rw [if_pos h, List.filter_cons_of_pos h]; rfl
  · rw [if_neg h, List.filter_cons_of_neg h]; simp
theorem filter_len (f : Nat → Bool) (k : Nat) : ((List.range k).filter f).length ≤ k := by
  have := List.length_filter_le f (List.range k)
  rw [List.length_range] at this
  exact this
end Pl
namespace WIntL
structure AtL (w W : World) (X : Nat) (v : Value) (ks : List Nat) (cs : Array Value) : Prop where
  bel : Below w.heap.size w W
  lt : w.heap.size ≤ X
  own : Own W (X + 1) v ks
  blk : Mem.Blk W X cs 137
theorem AtL.call {w W W' : World} {X : Nat} {v : Value} {ks : List Nat} {cs : Array Value} (h : AtL w W X v ks cs) (b : Below W.heap.size W W') : AtL w W' X v ks cs :=
  ⟨h.bel.trans (b.mono h.bel.size), h.lt, h.own.call b, h.blk.call b⟩
theorem AtL.more {w W W' : World} {X : Nat} {v v' : Value} {ks : List Nat} {k : Nat} {cs : Array Value} (h : AtL w W X v ks cs) (own : W'.ownsRow (X + 1) 2 1 v' (ks.length + 1) (valsI ks ++ [.int .i64 (k : Int)])) (g : W.grownBy W' v.ownBlock) : AtL w W' X v' (ks ++ [k]) cs := by
  have hlt : ∀ q, v.ownBlock = some q → X + 1 ≤ q := fun q hq => (World.ownsRow.lt h.own q hq).1
  exact ⟨h.bel.grown g h.bel.size (fun q hq => by have := hlt q hq; have := h.lt; omega), h.lt, Own.snoc own, h.blk.grown g (fun e => by have := hlt _ e.symm; omega)⟩
set_option linter.unusedSimpArgs false in
set_option maxRecDepth 100000 in
set_option maxHeartbeats 2000000 in
theorem impl_any (a : Option Addr) (cap : Nat) (Ts : List Pl.Tr) (p : ByteArray) (w : World) (hl : Ts.length ≤ 1048576) (hv : Mem.isTrees w a Ts) (hok : ∀ t ∈ Ts, t.L.length ≤ 1048576 ∧ ∀ n ∈ t.L, n.path.size ≤ 1048576 ∧ n.data.size ≤ 1048576) (hp : p.size ≤ 1048576)
    (r1 r2 r3 : TypeId) (x1 x2 x3 : Value) (hE : WNodesI.Errs w r1 r2 r3 x1 x2 x3) :
    Calls Tryz.prog 44 #[.agg #[.slice a Ts.length cap], .string p] w fun e w' => ∃ v, e = .returned v ∧ Own w' w.heap.size v (Pl.layO (Ts.map (·.L)) p) ∧ Below w.heap.size w w' := by
  obtain ⟨i0, hi, hz0, hz1, hz2⟩ := info_parts infoL
  have b0 : Below w.heap.size w (w.alloc (.cells #[.slice a Ts.length cap] 56)) := (Below.refl _ _).alloc (Nat.le_refl _) _
  have HOV := hide (fun W (b : Below w.heap.size w W) => WOverI.over_any a cap Ts W hl (Mem.trees_call hv b) hok r1 r2 r3 x1 x2 x3 (hE.call b))
  have HPR := hide (fun W => WPathI.right_any p W hp)
  have HLT := hide (fun h => Pl.lay_ok (Ls := Ts.map (·.L)) h)
  generalize Ts.map (·.L) = Ls at HOV HLT ⊢
  clear hv hok hE
  go_enter Tryz.func44, Tryz.ntmps44
  go_wp2_with fail
  refine (unhide HOV _ b0).mono ?_
  rintro e w1 ⟨h1, b1⟩
  have bw1 := b0.trans (b1.mono b0.size)
  clear b0 HOV
  rcases h1 with ⟨hL, v, Bs, rfl, hov⟩ | ⟨hL, rfl⟩
  rotate_left
  · have E := hide (Pl.layO_no (p := p) (.inl hL))
    clear b1 HLT HPR hL
    go_wp2
    go_ret
    exact ⟨_, rfl, by rw [unhide E]; exact Own.nil _ _, bw1⟩
  have HO1 := hide hov
  obtain ⟨a1, cap1, rfl⟩ := WSight.ov_shape hov
  clear b1 hov
  go_wp2_with fail
  refine (unhide HPR _).mono ?_
  rintro e w2 ⟨rfl, b2⟩
  have bw2 := bw1.trans (b2.mono bw1.size)
  have HO2 := hide ((unhide HO1).call b2)
  clear HPR HO1 bw1 b2
  cases hq : Pl.pathB p
  · have E := hide (Pl.layO_no (Ls := Ls) (.inr hq))
    clear HLT HO2 hL hq
    go_wp2
    go_ret
    exact ⟨_, rfl, by rw [unhide E]; exact Own.nil _ _, bw2⟩
  obtain ⟨h4, htr⟩ := unhide HLT hL
  have hs := hide (WSight.seen_any _ _ Bs Ls p _ (unhide HO2) h4 htr hp)
  have HL : Hid ((Pl.seenS Ls p).have'.length = 4) := Pl.walk_len Ls Ls.length _
  have E := hide (Pl.layO_yes hL hq)
  generalize Pl.seenS Ls p = S at hs HL E
  obtain ⟨tt, ⟨sp, sk, sd, st, sm⟩, sh⟩ := S
  obtain ⟨e0, e1, e2, e3, rfl⟩ : ∃ h0 h1 h2 h3, sh = [h0, h1, h2, h3] := by
    match sh, unhide HL with
    | [a, b, c, d], _ => exact ⟨a, b, c, d, rfl⟩
  rw [show (Pl.Sg.cs ⟨tt, ⟨sp, sk, sd, st, sm⟩, [e0, e1, e2, e3]⟩).toArray = #[.bool tt, .string sp, .int .i64 sk, .string sd, .int .i64 st, .int .i64 sm, .bool e0, .bool e1, .bool e2, .bool e3] from rfl] at hs
  simp only at E
  have HF : Hid (∀ k : Nat, k < 4 → (#[.bool tt, .string sp, .int .i64 sk, .string sd, .int .i64 st, .int .i64 sm, .bool e0, .bool e1, .bool e2, .bool e3] : Array Value)[6 + k]? = some (.bool ([e0, e1, e2, e3].getD k false))) := fun k hk => by
    obtain rfl | rfl | rfl | rfl : k = 0 ∨ k = 1 ∨ k = 2 ∨ k = 3 := by omega
    all_goals rfl
  obtain ⟨f, hf⟩ : ∃ f : Nat → Bool, f = fun i => [e0, e1, e2, e3].getD i false := ⟨_, rfl⟩
  rw [← hf] at E
  have HFF : Hid (∀ k : Nat, k < 4 → (#[.bool tt, .string sp, .int .i64 sk, .string sd, .int .i64 st, .int .i64 sm, .bool e0, .bool e1, .bool e2, .bool e3] : Array Value)[6 + k]? = some (.bool (f k))) := fun k hk => by rw [unhide HF k hk, hf]
  clear HF hf
  clear HL HLT hL hq HO2 htr
  go_wp2_with fail
  refine (unhide hs).mono ?_
  rintro e w3 ⟨rfl, b3⟩
  have bw3 := bw2.trans (b3.mono bw2.size)
  clear hs b3 bw2
  have A0 : Hid (AtL w ((w3.alloc (.cells #[.bool tt, .string sp, .int .i64 sk, .string sd, .int .i64 st, .int .i64 sm, .bool e0, .bool e1, .bool e2, .bool e3] 137)).alloc (.cells #[] 2)) w3.heap.size (.slice (some ⟨w3.heap.size + 1, 0, none⟩) 0 0) ((List.range 0).filter f) #[.bool tt, .string sp, .int .i64 sk, .string sd, .int .i64 st, .int .i64 sm, .bool e0, .bool e1, .bool e2, .bool e3]) := by
    refine ⟨(bw3.alloc bw3.size _).alloc (by have := bw3.size; simp; omega) _, bw3.size, ⟨rfl, .inr ⟨w3.heap.size + 1, 0, #[], rfl, Nat.le_refl _, ?_, Nat.le_refl _, Nat.zero_le _, rfl, rfl⟩⟩, (Mem.Blk.new _ _ _).alloc _⟩
    exact Mem.new_two _ _ _
  clear bw3
  go_wp2
  generalize (w3.alloc (.cells #[.bool tt, .string sp, .int .i64 sk, .string sd, .int .i64 st, .int .i64 sm, .bool e0, .bool e1, .bool e2, .bool e3] 137)).alloc (.cells #[] 2) = W0 at A0 ⊢
  generalize w3.heap.size = X at A0 ⊢
  generalize (#[.bool tt, .string sp, .int .i64 sk, .string sd, .int .i64 st, .int .i64 sm, .bool e0, .bool e1, .bool e2, .bool e3] : Array Value) = cs at A0 HFF
  go_loopw [8, 28] (fun v i wr => ∃ k : Nat, k ≤ Ls.length ∧ i = .int .i64 (k : Int) ∧ Hid (AtL w wr X v ((List.range k).filter f) cs)) (fun _ i _ => Ls.length - (intOf i).toNat)
  case atStart => exact ⟨0, Nat.zero_le _, rfl, A0⟩
  case round =>
    obtain ⟨k, hk, rfl, HA⟩ := hrel
    clear A0
    by_cases hlt : k < Ls.length
    · have y1 : (k : Int) < (Ls.length : Int) := by omega
      have y2 : (0 : Int) ≤ (k : Int) := by omega
      have y3 : (k : Int) < 4 := by omega
      have c0 := (unhide HA).blk.cell (6 + k)
      rw [unhide HFF k (by omega)] at c0
      have HN := hide (Pl.filter_succ f k)
      have HLN := hide (Pl.filter_len f k)
      cases hf : f k
      · rw [hf] at c0 HN
        have HA2 : Hid (AtL w wr X u8 ((List.range (k + 1)).filter f) cs) := by
          have h := unhide HN
          rw [if_neg (by decide)] at h
          rw [h]
          exact unhide HA
        clear HA HN HLN hf
        go_wp2
        go_roundw
        case rel => exact ⟨k + 1, by omega, by go_num, HA2⟩
        case measure => simp [intOf]; omega
      · rw [hf] at c0 HN
        have HR := hide ((unhide HA).call ((Below.refl _ _).alloc (Nat.le_refl _) (.cells #[.int .i64 (k : Int)] 2)))
        have hxl := (unhide HA).blk.lt
        generalize hks : (List.range k).filter f = ks at HR HLN HN
        have HN2 : Hid ((List.range (k + 1)).filter f = ks ++ [k]) := by
          have h := unhide HN
          rw [if_pos rfl] at h
          exact h
        clear HA HN hf hks
        go_wp2_with (at_builtin; refine wpList_append_own _ rfl _ _ 63 rfl (X + 1) 2 i0 (.int .i64 0) 1 8 Tryz.underlying63 hi hz0 hz1 hz2 rfl (by decide) _ _ _ rfl (unhide HR).own ⟨wr.heap.size, 0, none⟩ 1 1 [.int .i64 (k : Int)] rfl rfl (Mem.one_new _ _ _) (fun u hu => by simp at hu; subst hu; rfl) (by have h := unhide HLN; unfold maxLen; omega) (by have h := unhide HLN; omega) (by simp; omega) ?_)
        intro v' w2 own' hgrow _
        have A2 : Hid (AtL w w2 X v' ((List.range (k + 1)).filter f) cs) := by
          rw [unhide HN2]
          exact (unhide HR).more own' hgrow
        clear HR own' hgrow HLN HN2 hxl
        go_wp2
        go_roundw
        case rel => exact ⟨k + 1, by omega, by go_num, A2⟩
        case measure => simp [intOf]; omega
    · obtain rfl : k = Ls.length := by omega
      have y1 : ¬ ((Ls.length : Int) < (Ls.length : Int)) := by omega
      go_wp2
      go_ret
      exact ⟨_, rfl, by rw [unhide E]; exact Mem.own_mono (unhide HA).own (by have := (unhide HA).lt; omega), (unhide HA).bel⟩
end WIntL
end Go.Proofs.YtibmflhelgedeaaGreatDoor

/- The specification's LayersOf. -/
namespace Go.Proofs.YtibmflhelgedeaaGreatDoor
open Go.RowKit
namespace Pl
theorem at_sub {Ls : List (List Nd)} : ∀ (ps : List ByteArray) (ks : List Nat), ks.Sublist (List.range Ls.length) → (atW Ls ks ps).parts.Sublist (List.range Ls.length) := by
  intro ps
  induction ps with
  | nil => intro ks _; exact List.nil_sublist _
  | cons q ps ih =>
    intro ks hs
    cases ps with
    | nil =>
      rw [atW]
      split
      · exact child_sub hs
      · exact List.nil_sublist _
    | cons q2 r =>
      rw [atW]
      split
      · exact ih _ (child_sub hs)
      · exact List.nil_sublist _
theorem parts_filter {n : Nat} {P : List Nat} (h4 : n ≤ 4) (hs : P.Sublist (List.range n)) : (List.range n).filter (fun i => (partsB P).getD i false) = P := by
  have e : (List.range n).filter (fun i => (partsB P).getD i false) = (List.range n).filter (fun k => decide (k ∈ P)) := by
    apply List.filter_congr
    intro i hi
    have hi2 := List.mem_range.1 hi
    simp [partsB, List.getD, show i < 4 by omega]
  rw [e]
  exact sub_filter hs List.nodup_range
theorem lay_at {Ts : List Tr} {p : ByteArray} (h4 : Ts.length ≤ 4) (htr : ∀ M ∈ Ts.map (·.L), treeB M = true) (hl : layB (Ts.map (·.L)) = true) (hz : ¬ p.size = 0) (hp : pathB p = true) : layO (Ts.map (·.L)) p = (atW (Ts.map (·.L)) (List.range Ts.length) (ways (names p) (names p).length)).parts := by
  rw [layO_yes hl hp]
  have h := at_same (Ls := Ts.map (·.L)) (by rw [List.length_map]; exact h4) htr (ways (names p) (names p).length) (List.range (Ts.map (·.L)).length) (rootS (Ts.map (·.L)).length) (by intro e; have h2 := congrArg List.length e; rw [ways_len, List.length_nil] at h2; have := names_some hz; omega) (List.Sublist.refl _) (root_parts (by rw [List.length_map]; exact h4))
  have h3 := h.2.2
  have e : seenS (Ts.map (·.L)) p = walkS (Ts.map (·.L)) (rootS (Ts.map (·.L)).length) (ways (names p) (names p).length) := by unfold seenS; rw [namesR_yes hp]
  rw [e, h3, List.length_map]
  have hs := at_sub (Ls := Ts.map (·.L)) (ways (names p) (names p).length) (List.range Ts.length) (by rw [List.length_map]; exact List.Sublist.refl _)
  rw [List.length_map] at hs
  exact parts_filter h4 hs
theorem lay_root {Ts : List Tr} {p : ByteArray} (h4 : Ts.length ≤ 4) (hl : layB (Ts.map (·.L)) = true) (hz : p.size = 0) (hp : pathB p = true) : layO (Ts.map (·.L)) p = List.range Ts.length := by
  rw [layO_yes hl hp]
  have hn : names p = [] := by unfold names; rw [if_pos hz]
  have e : seenS (Ts.map (·.L)) p = rootS (Ts.map (·.L)).length := by unfold seenS; rw [namesR_yes hp, hn]; rfl
  rw [e, root_parts (by rw [List.length_map]; exact h4), List.length_map]
  exact parts_filter h4 (List.Sublist.refl _)
end Pl
namespace WIntL
open WPick
structure AtM (w W : World) (v vk : Value) (out ks : List Nat) : Prop where
  bel : Below w.heap.size w W
  own : Own W (w.heap.size + 1) v out
  ownK : ownI W (w.heap.size + 1) vk ks
  apart : ∀ g, v.ownBlock = some g → vk.ownBlock ≠ some g
theorem AtM.call {w W W' : World} {v vk : Value} {out ks : List Nat} (h : AtM w W v vk out ks) (b : Below W.heap.size W W') : AtM w W' v vk out ks :=
  ⟨h.bel.trans (b.mono h.bel.size), h.own.call b, row_call h.ownK b, h.apart⟩
theorem AtM.more {w W W' : World} {v v' vk : Value} {out ks : List Nat} {k : Nat} (h : AtM w W v vk out ks) (own : W'.ownsRow (w.heap.size + 1) 2 1 v' (out.length + 1) (valsI out ++ [.int .i64 (k : Int)])) (g : W.grownBy W' v.ownBlock)
    (far : ∀ g, v'.ownBlock = some g → v.ownBlock = some g ∨ W.heap.size ≤ g) : AtM w W' v' vk (out ++ [k]) ks := by
  have hlt : ∀ q, v.ownBlock = some q → w.heap.size + 1 ≤ q := fun q hq => (World.ownsRow.lt h.own q hq).1
  refine ⟨h.bel.grown g h.bel.size (fun q hq => by have := hlt q hq; omega), Own.snoc own, row_grown h.ownK g (fun q hq e => h.apart q e.symm hq), fun q hq e => ?_⟩
  rcases far q hq with h1 | h1
  · exact h.apart q h1 e
  · have := (World.ownsRow.lt h.ownK q e).2; omega
set_option linter.unusedSimpArgs false in
set_option maxRecDepth 100000 in
set_option maxHeartbeats 3000000 in
theorem spec_any (a : Option Addr) (cap : Nat) (Ts : List Pl.Tr) (p : ByteArray) (w : World) (hl : Ts.length ≤ 1048576) (hv : Mem.isTrees w a Ts) (hok : ∀ t ∈ Ts, t.L.length ≤ 1048576 ∧ ∀ n ∈ t.L, n.path.size ≤ 1048576 ∧ n.data.size ≤ 1048576) (hp : p.size ≤ 1048576) :
    Calls Tryz.prog 49 #[.agg #[.slice a Ts.length cap], .string p] w fun e w' => ∃ v, e = .returned v ∧ Own w' w.heap.size v (Pl.layO (Ts.map (·.L)) p) ∧ Below w.heap.size w w' := by
  obtain ⟨i0, hi, hz0, hz1, hz2⟩ := info_parts infoL
  have hf2 : ∀ (b : Bool) (x y : ByteArray) (c d e : Int) (ad : Option Addr) (n m : Nat) (W : World), (Instr.field 132 (.agg #[.bool b, .string x, .int .i64 c, .string y, .int .i64 d, .int .i64 e, .slice ad n m]) 2).run Tryz.prog W = .ok (.slice ad n m) W := fun _ _ _ _ _ _ _ _ _ _ => by kernel_rfl
  have hfour : Pl.layB (Ts.map (·.L)) = true → Ts.length ≤ 4 ∧ 1 ≤ Ts.length ∧ ∀ M ∈ Ts.map (·.L), Pl.treeB M = true := fun h => by
    have h2 := Pl.lay_ok h
    rw [List.length_map] at h2
    refine ⟨h2.1, ?_, h2.2⟩
    simp only [Pl.layB, Bool.and_eq_true, decide_eq_true_eq, List.length_map] at h
    exact h.1.1
  have HA4 := hide (fun (W : World) (b : Below w.heap.size w W) (h : Pl.layB (Ts.map (·.L)) = true) (hz : ¬ p.size = 0) (hp2 : Pl.pathB p = true) => at4_any p (Pl.names p) Ts a cap W (Mem.trees_call hv b) (hfour h).2.1 (hfour h).1 (fun t ht => ⟨(hok t ht).1, fun n hn => by
      have h1 := (hfour h).2.2 t.L (List.mem_map_of_mem ht)
      simp only [Pl.treeB, Bool.and_eq_true, decide_eq_true_eq] at h1
      have h2 := Pl.goI_all t.L _ _ h1.2 n hn
      have h3 := (Pl.node_bounds h2)
      omega⟩) (hfour h).2.2 rfl (Pl.names_right hp2) (Pl.names_some hz) (Pl.names_six hp2) (by have := Pl.pathB_le hp2; omega) (fun j => Pl.way_small hp2 j))
  have HLR := hide (fun W (b : Below w.heap.size w W) => WLayS.any a cap Ts W hl (Mem.trees_call hv b) hok)
  have HPR := hide (fun W => WPathS.right_one p W hp)
  have HAL := hide (fun (h : Pl.layB (Ts.map (·.L)) = true) W => all_any Ts.length W (hfour h).1)
  have E0 : Hid (8000 < p.size → Pl.layO (Ts.map (·.L)) p = []) := fun h => Pl.layO_no (.inr (Pl.pathB_long (by omega)))
  have E1 : Hid (Pl.layB (Ts.map (·.L)) = false → Pl.layO (Ts.map (·.L)) p = []) := fun h => Pl.layO_no (.inl h)
  have E2 : Hid (Pl.pathB p = false → Pl.layO (Ts.map (·.L)) p = []) := fun h => Pl.layO_no (.inr h)
  have E3 : Hid (Pl.layB (Ts.map (·.L)) = true → p.size = 0 → Pl.pathB p = true → Pl.layO (Ts.map (·.L)) p = List.range Ts.length) := fun h hz h2 => Pl.lay_root (hfour h).1 h hz h2
  have E4 : Hid (Pl.layB (Ts.map (·.L)) = true → ¬ p.size = 0 → Pl.pathB p = true → Pl.layO (Ts.map (·.L)) p = (Pl.atW (Ts.map (·.L)) (List.range Ts.length) (Pl.ways (Pl.names p) (Pl.names p).length)).parts) := fun h hz h2 => Pl.lay_at (hfour h).1 (hfour h).2.2 h hz h2
  have HP4 : Hid (Pl.layB (Ts.map (·.L)) = true → (Pl.atW (Ts.map (·.L)) (List.range Ts.length) (Pl.ways (Pl.names p) (Pl.names p).length)).parts.length ≤ 4) := fun h => by
    have hs := (Pl.at_sub (Ls := Ts.map (·.L)) (Pl.ways (Pl.names p) (Pl.names p).length) (List.range Ts.length) (by rw [List.length_map]; exact List.Sublist.refl _)).length_le
    rw [List.length_range, List.length_map] at hs
    have := (hfour h).1
    omega
  have HN4 : Hid (Pl.layB (Ts.map (·.L)) = true → Ts.length ≤ 4) := fun h => (hfour h).1
  generalize Pl.layO (Ts.map (·.L)) p = RV at E0 E1 E2 E3 E4 ⊢
  generalize Pl.layB (Ts.map (·.L)) = R1 at HA4 HLR HAL E1 E3 E4 HP4 HN4
  generalize Pl.pathB p = R2 at HA4 HPR E2 E3 E4
  generalize Pl.atW (Ts.map (·.L)) (List.range Ts.length) (Pl.ways (Pl.names p) (Pl.names p).length) = A at HA4 E4 HP4
  have SS : Hid (Below w.heap.size w ((w.alloc (.cells #[.slice a Ts.length cap] 56)).alloc (.cells #[] 2)) ∧ Mem.Blk ((w.alloc (.cells #[.slice a Ts.length cap] 56)).alloc (.cells #[] 2)) w.heap.size #[.slice a Ts.length cap] 56 ∧ Own ((w.alloc (.cells #[.slice a Ts.length cap] 56)).alloc (.cells #[] 2)) (w.heap.size + 1) (.slice (some ⟨w.heap.size + 1, 0, none⟩) 0 0) []) :=
    ⟨((Below.refl _ _).alloc (Nat.le_refl _) _).alloc (by simp) _, (Mem.Blk.new _ _ _).alloc _, ⟨rfl, .inr ⟨w.heap.size + 1, 0, #[], rfl, Nat.le_refl _, Mem.new_two _ _ _, Nat.le_refl _, Nat.zero_le _, rfl, rfl⟩⟩⟩
  have HST : Hid (∀ W W' : World, (Below w.heap.size w W ∧ Mem.Blk W w.heap.size #[.slice a Ts.length cap] 56 ∧ Own W (w.heap.size + 1) (.slice (some ⟨w.heap.size + 1, 0, none⟩) 0 0) []) → Below W.heap.size W W' → (Below w.heap.size w W' ∧ Mem.Blk W' w.heap.size #[.slice a Ts.length cap] 56 ∧ Own W' (w.heap.size + 1) (.slice (some ⟨w.heap.size + 1, 0, none⟩) 0 0) [])) := fun W W' h b => ⟨h.1.trans (b.mono h.1.size), h.2.1.call b, h.2.2.call b⟩
  clear hv hok hfour
  by_cases hz : 8000 < p.size
  · have t0 : (8000 : Int) < (p.size : Int) := by omega
    have E := hide (unhide E0 hz)
    clear hz E0 E1 E2 E3 E4
    go_enter Tryz.func49, Tryz.ntmps49
    go_wp2
    go_ret
    exact ⟨_, rfl, by rw [unhide E]; exact Mem.own_mono (unhide SS).2.2 (by omega), (unhide SS).1⟩
  have t0 : ¬ (8000 : Int) < (p.size : Int) := by omega
  have c0 := (unhide SS).2.1.cell 0
  simp only [kA0, kA1] at c0
  go_enter Tryz.func49, Tryz.ntmps49
  go_wp2_with fail
  refine (unhide HLR _ (unhide SS).1).mono ?_
  rintro e w1 ⟨rfl, b1⟩
  have S1 := hide (unhide HST _ _ (unhide SS) b1)
  clear SS HLR b1 c0
  cases R1
  · have E := hide (unhide E1 (by trivial))
    clear E0 E1 E2 E3 E4 HA4 HAL hz
    go_wp2
    go_ret
    exact ⟨_, rfl, by rw [unhide E]; exact Mem.own_mono (unhide S1).2.2 (by omega), (unhide S1).1⟩
  go_wp2_with fail
  refine (unhide HPR _).mono ?_
  rintro e w2 ⟨rfl, b2⟩
  have S2 := hide (unhide HST _ _ (unhide S1) b2)
  clear S1 HPR b2
  cases R2
  · have E := hide (unhide E2 (by trivial))
    clear E0 E1 E2 E3 E4 HA4 HAL hz
    go_wp2
    go_ret
    exact ⟨_, rfl, by rw [unhide E]; exact Mem.own_mono (unhide S2).2.2 (by omega), (unhide S2).1⟩
  have c0 := (unhide S2).2.1.cell 0
  simp only [kA0, kA1] at c0
  go_wp2_with fail
  refine (unhide HAL (by trivial) _).mono ?_
  rintro e w3 ⟨vk, rfl, hownK, b3⟩
  have S3 := hide (unhide HST _ _ (unhide S2) b3)
  have hlt2 := World.ownsRow.lt (unhide S2).2.2 (w.heap.size + 1) rfl
  have KO := hide (ownI_mono hownK (show w.heap.size + 1 ≤ w2.heap.size by omega))
  have HNE : Hid (vk.ownBlock ≠ some (w.heap.size + 1)) := ownI_new hownK (by omega)
  clear S2 HAL b3 c0 hownK hlt2
  by_cases hs : p.size = 0
  · have t1 : p.toList.isEmpty = true := by rw [Pl.empty_list]; simpa [Pl.by_nil] using hs
    have E := hide (unhide E3 (by trivial) hs (by trivial))
    have hk4 : (List.range Ts.length).length ≤ 4 := by rw [List.length_range]; exact unhide HN4 (by trivial)
    generalize List.range Ts.length = ks at KO E hk4
    have A0 : Hid (AtM w w3 (.slice (some ⟨w.heap.size + 1, 0, none⟩) 0 0) vk (ks.take 0) ks) := ⟨(unhide S3).1, (unhide S3).2.2, unhide KO, fun g hg e => unhide HNE (by cases hg; exact e)⟩
    obtain ⟨va, vc, rfl⟩ := ownI_shape (unhide KO)
    clear E0 E1 E2 E3 E4 HA4 hz S3 KO HNE hs HP4 HN4 HST
    go_wp2
    go_loopw [5, 7] (fun v i wr => ∃ j : Nat, j ≤ ks.length ∧ i = .int .i64 (j : Int) ∧ Hid (AtM w wr v (.slice va ks.length vc) (ks.take j) ks)) (fun _ i _ => ks.length - (intOf i).toNat)
    case atStart => exact ⟨0, Nat.zero_le _, rfl, A0⟩
    case round =>
      obtain ⟨j, hj, rfl, HA⟩ := hrel
      clear A0
      by_cases hlt : j < ks.length
      · obtain ⟨k, hk⟩ : ∃ k, ks[j]? = some k := ⟨_, List.getElem?_eq_getElem hlt⟩
        obtain ⟨g, cap', he, -, hgl, hck⟩ := ownI_cells (unhide HA).ownK (by intro e; rw [e] at hlt; simp at hlt)
        injection he with he1 he2 he3
        subst he1 he3
        have cK := hck j k hk
        have y1 : (j : Int) < (ks.length : Int) := by omega
        have y2 : (0 : Int) ≤ (j : Int) := by omega
        have HR := hide ((unhide HA).call ((Below.refl _ _).alloc (Nat.le_refl _) (.cells #[.int .i64 (k : Int)] 2)))
        have hxl := (unhide HA).bel.size
        have htl : (ks.take j).length ≤ 4 := by rw [List.length_take]; omega
        have HTM : Hid (ks.take (j + 1) = ks.take j ++ [k]) := by
          have h1 := List.getElem?_eq_some_iff.1 hk
          show _ = _
          rw [List.take_succ_eq_append_getElem h1.1, h1.2]
        have HOL : Hid (w.heap.size + 1 ≤ wr.heap.size) := by have := (World.ownsRow.lt (unhide HA).ownK g rfl); show _ ≤ _; omega
        generalize ks.take j = out at HR htl HTM
        clear HA hck he2 hk
        go_wp2_with (at_builtin; refine Mem.wpList_append_far _ rfl _ _ 63 rfl (w.heap.size + 1) 2 i0 (.int .i64 0) 1 8 Tryz.underlying63 hi hz0 hz1 hz2 rfl (by decide) _ _ _ rfl (unhide HR).own ⟨wr.heap.size, 0, none⟩ 1 1 [.int .i64 (k : Int)] rfl rfl (Mem.one_new _ _ _) (fun u hu => by simp at hu; subst hu; rfl) (by unfold maxLen; omega) (by omega) (by have h := unhide HOL; simp; omega) ?_)
        intro v' w5 own' hgrow hfar
        have A2 : Hid (AtM w w5 v' (.slice (some ⟨g, 0, none⟩) ks.length vc) (ks.take (j + 1)) ks) := by
          rw [unhide HTM]
          exact (unhide HR).more own' hgrow (fun q hq => (hfar q hq).imp_right (fun h => by rw [sz_alloc]; exact h))
        clear HR own' hgrow hfar HTM HOL cK htl
        go_wp2
        go_roundw
        case rel => exact ⟨j + 1, by omega, by go_num, A2⟩
        case measure => simp [intOf]; omega
      · obtain rfl : j = ks.length := by omega
        have y1 : ¬ ((ks.length : Int) < (ks.length : Int)) := by omega
        have HO : Hid (Own wr (w.heap.size + 1) u5 ks) := by
          have h := (unhide HA).own
          rw [List.take_length] at h
          exact h
        go_wp2
        go_ret
        exact ⟨_, rfl, by rw [unhide E]; exact Mem.own_mono (unhide HO) (by omega), (unhide HA).bel⟩
  have t1 : p.toList.isEmpty = false := by rw [Pl.empty_list]; simpa [Pl.by_nil] using hs
  have c0 := (unhide S3).2.1.cell 0
  simp only [kA0, kA1] at c0
  have HAT := hide (unhide HA4 w3 (unhide S3).1 (by trivial) hs (by trivial))
  have E := hide (unhide E4 (by trivial) hs (by trivial))
  have hk4 := unhide HP4 (by trivial)
  go_wp2_with fail
  refine (unhide HAT).mono ?_
  rintro e w4 ⟨v, rfl, hown, b4⟩
  obtain ⟨ok, ⟨np, nk, nd, nt, nm⟩, ks⟩ := A
  have S4 := hide (unhide HST _ _ (unhide S3) b4)
  have hlt3 := World.ownsRow.lt (unhide S3).2.2 (w.heap.size + 1) rfl
  have A0 : Hid (AtM w w4 (.slice (some ⟨w.heap.size + 1, 0, none⟩) 0 0) v (ks.take 0) ks) := ⟨(unhide S4).1, (unhide S4).2.2, ownI_mono hown (show w.heap.size + 1 ≤ w3.heap.size by omega), fun g hg e => ownI_new hown (show w.heap.size + 1 < w3.heap.size by omega) (by cases hg; exact e)⟩
  obtain ⟨va, vc, rfl⟩ := ownI_shape hown
  simp only at hk4 E
  simp only [cellsO]
  clear E0 E1 E2 E3 E4 HA4 hz S3 S4 KO HNE hs HP4 HN4 HST HAT hown c0 b4 hlt3
  go_wp2
  go_loopw [5, 7] (fun v i wr => ∃ j : Nat, j ≤ ks.length ∧ i = .int .i64 (j : Int) ∧ Hid (AtM w wr v (.slice va ks.length vc) (ks.take j) ks)) (fun _ i _ => ks.length - (intOf i).toNat)
  case atStart => exact ⟨0, Nat.zero_le _, rfl, A0⟩
  case round =>
    obtain ⟨j, hj, rfl, HA⟩ := hrel
    clear A0
    by_cases hlt : j < ks.length
    · obtain ⟨k, hk⟩ : ∃ k, ks[j]? = some k := ⟨_, List.getElem?_eq_getElem hlt⟩
      obtain ⟨g, cap', he, -, hgl, hck⟩ := ownI_cells (unhide HA).ownK (by intro e; rw [e] at hlt; simp at hlt)
      injection he with he1 he2 he3
      subst he1 he3
      have cK := hck j k hk
      have y1 : (j : Int) < (ks.length : Int) := by omega
      have y2 : (0 : Int) ≤ (j : Int) := by omega
      have HR := hide ((unhide HA).call ((Below.refl _ _).alloc (Nat.le_refl _) (.cells #[.int .i64 (k : Int)] 2)))
      have hxl := (unhide HA).bel.size
      have htl : (ks.take j).length ≤ 4 := by rw [List.length_take]; omega
      have HTM : Hid (ks.take (j + 1) = ks.take j ++ [k]) := by
        have h1 := List.getElem?_eq_some_iff.1 hk
        show _ = _
        rw [List.take_succ_eq_append_getElem h1.1, h1.2]
      have HOL : Hid (w.heap.size + 1 ≤ wr.heap.size) := by have := (World.ownsRow.lt (unhide HA).ownK g rfl); show _ ≤ _; omega
      generalize ks.take j = out at HR htl HTM
      clear HA hck he2 hk
      go_wp2_with (at_builtin; refine Mem.wpList_append_far _ rfl _ _ 63 rfl (w.heap.size + 1) 2 i0 (.int .i64 0) 1 8 Tryz.underlying63 hi hz0 hz1 hz2 rfl (by decide) _ _ _ rfl (unhide HR).own ⟨wr.heap.size, 0, none⟩ 1 1 [.int .i64 (k : Int)] rfl rfl (Mem.one_new _ _ _) (fun u hu => by simp at hu; subst hu; rfl) (by unfold maxLen; omega) (by omega) (by have h := unhide HOL; simp; omega) ?_)
      intro v' w5 own' hgrow hfar
      have A2 : Hid (AtM w w5 v' (.slice (some ⟨g, 0, none⟩) ks.length vc) (ks.take (j + 1)) ks) := by
        rw [unhide HTM]
        exact (unhide HR).more own' hgrow (fun q hq => (hfar q hq).imp_right (fun h => by rw [sz_alloc]; exact h))
      clear HR own' hgrow hfar HTM HOL cK htl
      go_wp2
      go_roundw
      case rel => exact ⟨j + 1, by omega, by go_num, A2⟩
      case measure => simp [intOf]; omega
    · obtain rfl : j = ks.length := by omega
      have y1 : ¬ ((ks.length : Int) < (ks.length : Int)) := by omega
      have HO : Hid (Own wr (w.heap.size + 1) u5 ks) := by
        have h := (unhide HA).own
        rw [List.take_length] at h
        exact h
      go_wp2
      go_ret
      exact ⟨_, rfl, by rw [unhide E]; exact Mem.own_mono (unhide HO) (by omega), (unhide HA).bel⟩
end WIntL
end Go.Proofs.YtibmflhelgedeaaGreatDoor

