/- Several texts of one claim in one file: WCutS, WGetP, WCutR, WBase1S. -/
import Derived.Test.YtfdbokipgofcdaaGreatDoorG04
import Derived.Test.YtfdbokipgofcdaaGreatDoorG07
import Derived.Test.YtfdbokipgofcdaaGreatDoorG16
import Derived.Test.YtfdbokipgofcdaaGreatDoorG02
import Derived.Test.YtfdbokipgofcdaaGreatDoorG01
import Derived.Lib.OthersKept
import Derived.Laws.RangeAny
import Derived.Deep.Draws
import Derived.Deep.QuietTactic
import Derived.BigQuiet
import Derived.Test.YtfdbokipgofcdaaGreatDoorG15
import Derived.Test.YtfdbokipgofcdaaGreatDoorG18
import Derived.Test.YtfdbokipgofcdaaGreatDoorG00
import Derived.Test.YtfdbokipgofcdaaGreatDoorG14
namespace Go.Proofs.YtfdbokipgofcdaaGreatDoor
open Go.RowKit
namespace WCutS
theorem zl3 : (Tryz.prog.info? 89).map (fun i => (i.zero, i.size, i.bytes)) = some (some (.agg #[.string ⟨#[]⟩, .int .i64 0, .string ⟨#[]⟩, .int .i64 0, .int .i64 0]), 5, 56) := by kernel_rfl
structure At (w wr : World) (a : Option Addr) (cap : Nat) (L : List Pl.Nd) (p : ByteArray) (k : Nat) (v : Value) : Prop where
 bel : Below w.heap.size w wr
 one : Mem.Blk wr w.heap.size #[.slice a L.length cap] 36
 two : Mem.Blk wr (w.heap.size + 1) #[.slice none 0 0] 36
 out : Mem.Blk wr (w.heap.size + 1 + 1) #[v] 36
 own : Mem.ownN wr (w.heap.size + 3) v (Pl.offL p (L.take k))
set_option linter.unusedSimpArgs false in
set_option maxRecDepth 100000 in
set_option maxHeartbeats 2000000 in
theorem l03_any (a : Option Addr) (cap : Nat) (L : List Pl.Nd) (p : ByteArray) (w : World) (hl : L.length ≤ 1048576) (hv : Mem.zc2 w a L) (hp : p.size ≤ 1048576) :
  Calls Tryz.prog 123 #[.agg #[.slice a L.length cap], .string p] w fun e w' => ∃ v, e = .returned (.agg #[v]) ∧ Mem.ownN w' w.heap.size v (Pl.offL p L) ∧ Below w.heap.size w w' := by
 obtain ⟨i0, hi, hz0, hz1, hz2⟩ := info_parts zl3
 have HV := hide hv
 clear hv
 have H0 : At w (((w.alloc (.cells #[.slice a L.length cap] 36)).alloc (.cells #[.slice none 0 0] 36)).alloc (.cells #[.slice none 0 0] 36)) a cap L p 0 (.slice none 0 0) :=
  ⟨(((Below.refl _ _).alloc (Nat.le_refl _) _).alloc (by simp) _).alloc (by simp; omega) _, ((Mem.Blk.new _ _ _).alloc _).alloc _, (by have h := (Mem.Blk.new (w.alloc (.cells #[.slice a L.length cap] 36)) #[.slice none 0 0] 36).alloc (.cells #[.slice none 0 0] 36); rwa [show (w.alloc (.cells #[.slice a L.length cap] 36)).heap.size = w.heap.size + 1 by simp] at h), Mem.zq6 _ _ _ _, by simpa [Pl.offL] using Mem.zd2 _ _⟩
 have HH := hide H0
 clear H0
 go_enter Tryz.func123, Tryz.ntmps123
 go_wp2
 go_loopw [6] (fun i wr => ∃ k : Nat, k ≤ L.length ∧ i = .int .i64 (k : Int) ∧ Hid (∃ v, At w wr a cap L p k v)) (fun i _ => L.length - (intOf i).toNat)
 case atStart => exact ⟨0, Nat.zero_le _, rfl, ⟨_, za HH⟩⟩
 case round =>
  obtain ⟨k, hk, rfl, HA⟩ := hrel
  obtain ⟨v, A⟩ := za HA
  obtain ⟨av, capv, hvs⟩ := Mem.za1 A.own
  subst hvs
  have c1 := A.one.cell 0
  have c3 := A.out.cell 0
  have f3 := A.out.fr 0
  simp only [kA0, kA1] at c1 c3
  have KA := hide A
  clear HA A HH
  by_cases hlt : k < L.length
  ·obtain ⟨n, hn⟩ : ∃ n, L[k]? = some n := ⟨_, List.getElem?_eq_getElem hlt⟩
   obtain ⟨b, o, rfl, hb, q0, q1, q2, q3, q4⟩ := (Mem.za8 (za HV) (za KA).bel) k n hn
   have y1 : (k : Int) < (L.length : Int) := by omega
   have y3 : (0 : Int) ≤ (k : Int) := by omega
   have hcu := hide (zh5.yu5 n.path p wr hp)
   cases hun : Pl.under n.path p
   ·rw [hun] at hcu
    have HPL := hide (Pl.offN_in hn hun)
    have HLEN := hide (Pl.offN_len L p k)
    have OWD : Hid (Mem.ownN wr.drew (w.heap.size + 3) (.slice av (Pl.offL p (L.take k)).length capv) (Pl.offL p (L.take k))) := (za KA).own
    have BLD : Hid (Mem.Blk wr.drew (w.heap.size + 1 + 1) #[.slice av (Pl.offL p (L.take k)).length capv] 36) := (za KA).out
    have BL2 : Hid (Mem.Blk wr.drew (w.heap.size + 1) #[.slice none 0 0] 36) := (za KA).two
    have HLT := hide (Mem.zc3 (za KA).own)
    have HSZ : Hid (w.heap.size + 1 + 1 < wr.drew.heap.size) := (za KA).out.lt
    have HV2 : Hid (∀ W', Below w.heap.size w W' → W'.cell? ⟨b, o + k * 5, none⟩ = some (.string n.path) ∧ W'.cell? ⟨b, o + k * 5 + 1, none⟩ = some (.int .i64 n.kind) ∧ W'.cell? ⟨b, o + k * 5 + 2, none⟩ = some (.string n.data) ∧ W'.cell? ⟨b, o + k * 5 + 3, none⟩ = some (.int .i64 n.time) ∧ W'.cell? ⟨b, o + k * 5 + 4, none⟩ = some (.int .i64 n.mark)) := fun W' hb' => by
     obtain ⟨b', o', e, _, z0, z1, z2, z3, z4⟩ := (Mem.za8 (za HV) hb') k n hn
     cases e
     exact ⟨z0, z1, z2, z3, z4⟩
    have B0 : Below w.heap.size w wr.drew := by have h := (za KA).bel; exact ⟨h.os, h.tape, h.output, h.size, h.block⟩
    have ONE : Mem.Blk wr.drew w.heap.size #[.slice (some ⟨b, o, none⟩) L.length cap] 36 := (za KA).one
    clear hn hun KA HV
    obtain ⟨q, k0, d, t, m⟩ := n
    simp only at q0 q1 q2 q3 q4 hcu HPL HV2
    go_wp2_with fail
    refine (za hcu).mono ?_
    rintro e wY ⟨rfl, rfl⟩
    clear hcu
    go_wp2_with fail
    have MK : Hid (∀ W', Below w.heap.size w W' → Mem.Blk W' w.heap.size #[.slice (some ⟨b, o, none⟩) L.length cap] 36 → (Below w.heap.size w W' ∧ Mem.Blk W' w.heap.size #[.slice (some ⟨b, o, none⟩) L.length cap] 36 ∧ W'.cell? ⟨w.heap.size, 0, none⟩ = some (.slice (some ⟨b, o, none⟩) L.length cap) ∧ W'.cell? ⟨b, o + k * 5, none⟩ = some (.string q) ∧ W'.cell? ⟨b, o + k * 5 + 1, none⟩ = some (.int .i64 k0) ∧ W'.cell? ⟨b, o + k * 5 + 2, none⟩ = some (.string d) ∧ W'.cell? ⟨b, o + k * 5 + 3, none⟩ = some (.int .i64 t) ∧ W'.cell? ⟨b, o + k * 5 + 4, none⟩ = some (.int .i64 m))) := fun W' h1 h2 => ⟨h1, h2, h2.cell 0, za HV2 W' h1⟩
    clear q0 q1 q2 q3 q4 c1 c3 f3
    refine wp_region_held_drew (S := fun W' => Below w.heap.size w W' ∧ Mem.Blk W' w.heap.size #[.slice (some ⟨b, o, none⟩) L.length cap] 36 ∧ W'.cell? ⟨w.heap.size, 0, none⟩ = some (.slice (some ⟨b, o, none⟩) L.length cap) ∧ W'.cell? ⟨b, o + k * 5, none⟩ = some (.string q) ∧ W'.cell? ⟨b, o + k * 5 + 1, none⟩ = some (.int .i64 k0) ∧ W'.cell? ⟨b, o + k * 5 + 2, none⟩ = some (.string d) ∧ W'.cell? ⟨b, o + k * 5 + 3, none⟩ = some (.int .i64 t) ∧ W'.cell? ⟨b, o + k * 5 + 4, none⟩ = some (.int .i64 m)) (by kernel_rfl) ?_ (fun hHeld => ?_)
    ·exact za MK _ B0 ONE
    clear B0 ONE
    generalize wY.drew = WD at hHeld OWD BLD BL2 HSZ ⊢
    have cD := (za BLD).cell 0
    simp only [kA0, kA1] at cD
    refine tka (i := 0) rfl ?_
    try simp only [Act.put, kBs]
    refine tka (i := 2) rfl ?_
    try simp only [Act.put, kBs]
    refine tka (i := 3) rfl ?_
    try simp only [Act.put, kBs]
    refine tka (i := 4) rfl ?_
    try simp only [Act.put, kBs]
    refine tka (i := 5) rfl ?_
    try simp only [Act.put, kBs]
    refine tka (i := 6) rfl ?_
    try simp only [Act.put, kBs]
    refine wpAnyH_ready (rs := [1, 7]) (by kernel_rfl) (by simp) ?_
    refine AllReadyH.cons rfl (fun K hK => ?_) (AllReadyH.cons rfl (fun K hK => ?_) AllReadyH.nil)
    ·go_simp
     refine hK.out _ _ ?_ (fun hHeld => ?_)
     ·exact za MK _ hHeld.1 hHeld.2.1
     clear hK K
     try simp only [Act.put, kBs]
     refine wpAnyH_ready (rs := [7]) (by kernel_rfl) (by simp) ?_
     refine AllReadyH.cons rfl (fun K hK => ?_) AllReadyH.nil
     go_simp
     refine hK.out _ _ ?_ (fun hHeld => ?_)
     ·exact za MK _ (hHeld.1.alloc hHeld.1.size _) (hHeld.2.1.alloc _)
     clear hK K
     try simp only [Act.put, kBs]
     refine wpAnyH_ready (rs := [8]) (by kernel_rfl) (by simp) ?_
     refine AllReadyH.cons rfl (fun K hK => ?_) AllReadyH.nil
     refine Mem.ze1 rfl _ _ 34 rfl (w.heap.size + 3) 89 i0 _ 5 56 Tryz.underlying34 hi hz0 hz1 hz2 rfl (by decide) _ _ _ rfl (Mem.zd1 (za OWD) _) ⟨WD.heap.size, 0, none⟩ 1 1 [.string q, .int .i64 k0, .string d, .int .i64 t, .int .i64 m] rfl rfl (Mem.zl4 WD ⟨q, k0, d, t, m⟩ _) (Mem.zk2 ⟨q, k0, d, t, m⟩) (by have := za HLEN; unfold maxLen; omega) (by have := za HLEN; omega) (by have := za HSZ; simp; omega) ?_
     intro v' wZ hownZ hgrow
     obtain ⟨a', cap', hv'⟩ := Mem.za1 hownZ
     subst hv'
     have blkZ := ((za BLD).alloc (.cells #[.string q, .int .i64 k0, .string d, .int .i64 t, .int .i64 m] 89)).grown hgrow (fun e => by have := (za HLT _ e.symm).1; omega)
     have H2Z := hide ((((za BL2).alloc (.cells #[.string q, .int .i64 k0, .string d, .int .i64 t, .int .i64 m] 89)).grown hgrow (fun e => by have := (za HLT _ e.symm).1; omega)))
     refine hK.out _ _ ?_ (fun hHeld => ?_)
     ·exact za MK _ (hHeld.1.grown hgrow (by have := hHeld.1.size; omega) (fun q hq => by have := (za HLT q hq).1; omega)) (hHeld.2.1.grown hgrow (fun e => by have := (za HLT _ e.symm).1; omega))
     clear hK K
     try simp only [Act.put, kBs]
     have cZ := blkZ.cell 0
     have fZ := blkZ.fr 0
     simp only [kA0, kA1] at cZ
     have BLZ := hide blkZ
     have OWZ := hide hownZ
     clear blkZ hownZ
     refine tka (i := 9) rfl ?_
     try simp only [Act.put, kBs]
     refine wpAnyH_ready (rs := [10]) (by kernel_rfl) (by simp) ?_
     refine AllReadyH.cons rfl (fun K hK => ?_) AllReadyH.nil
     go_simp
     refine hK.out _ _ ?_ (fun hHeld => ?_)
     ·exact za MK _ (hHeld.1.setCell (by show w.heap.size ≤ w.heap.size + 1 + 1; omega) _) (hHeld.2.1.far _ _ (by show w.heap.size ≠ w.heap.size + 1 + 1; omega))
     clear hK K
     try simp only [Act.put, kBs]
     refine wpAnyH_done (by kernel_rfl) ?_ _
     have FIN : Hid (At w (wZ.setCell ⟨w.heap.size + 1 + 1, 0, none⟩ (.slice a' ((Pl.offL p (L.take k)).length + 1) cap')) (some ⟨b, o, none⟩) cap L p (k + 1) (.slice a' ((Pl.offL p (L.take k)).length + 1) cap')) :=
      ⟨hHeld.1, hHeld.2.1, (za H2Z).far _ _ (by show w.heap.size + 1 ≠ w.heap.size + 1 + 1; omega), (za BLZ).put 0 _, by
       rw [za HPL]
       exact Mem.za7 (Mem.zi4 (L := Pl.offL p (L.take k)) (n := ⟨q, k0, d, t, m⟩) (za OWZ)) _ _ (by show w.heap.size + 1 + 1 < w.heap.size + 3; omega)⟩
     clear hHeld OWZ BLZ hgrow cZ fZ
     go_wp2
     go_roundw
     case rel => exact ⟨k + 1, by omega, by go_num, ⟨_, za FIN⟩⟩
     case measure => simp [intOf]; omega
    ·go_simp
     refine hK.out _ _ ?_ (fun hHeld => ?_)
     ·exact za MK _ (hHeld.1.alloc hHeld.1.size _) (hHeld.2.1.alloc _)
     clear hK K
     try simp only [Act.put, kBs]
     have cD2 := ((za BLD).alloc (.cells #[.string q, .int .i64 k0, .string d, .int .i64 t, .int .i64 m] 89)).cell 0
     simp only [kA0, kA1] at cD2
     refine wpAnyH_ready (rs := [1]) (by kernel_rfl) (by simp) ?_
     refine AllReadyH.cons rfl (fun K hK => ?_) AllReadyH.nil
     go_simp
     refine hK.out _ _ ?_ (fun hHeld => ?_)
     ·exact za MK _ hHeld.1 hHeld.2.1
     clear hK K
     try simp only [Act.put, kBs]
     refine wpAnyH_ready (rs := [8]) (by kernel_rfl) (by simp) ?_
     refine AllReadyH.cons rfl (fun K hK => ?_) AllReadyH.nil
     refine Mem.ze1 rfl _ _ 34 rfl (w.heap.size + 3) 89 i0 _ 5 56 Tryz.underlying34 hi hz0 hz1 hz2 rfl (by decide) _ _ _ rfl (Mem.zd1 (za OWD) _) ⟨WD.heap.size, 0, none⟩ 1 1 [.string q, .int .i64 k0, .string d, .int .i64 t, .int .i64 m] rfl rfl (Mem.zl4 WD ⟨q, k0, d, t, m⟩ _) (Mem.zk2 ⟨q, k0, d, t, m⟩) (by have := za HLEN; unfold maxLen; omega) (by have := za HLEN; omega) (by have := za HSZ; simp; omega) ?_
     intro v' wZ hownZ hgrow
     obtain ⟨a', cap', hv'⟩ := Mem.za1 hownZ
     subst hv'
     have blkZ := ((za BLD).alloc (.cells #[.string q, .int .i64 k0, .string d, .int .i64 t, .int .i64 m] 89)).grown hgrow (fun e => by have := (za HLT _ e.symm).1; omega)
     have H2Z := hide ((((za BL2).alloc (.cells #[.string q, .int .i64 k0, .string d, .int .i64 t, .int .i64 m] 89)).grown hgrow (fun e => by have := (za HLT _ e.symm).1; omega)))
     refine hK.out _ _ ?_ (fun hHeld => ?_)
     ·exact za MK _ (hHeld.1.grown hgrow (by have := hHeld.1.size; omega) (fun q hq => by have := (za HLT q hq).1; omega)) (hHeld.2.1.grown hgrow (fun e => by have := (za HLT _ e.symm).1; omega))
     clear hK K
     try simp only [Act.put, kBs]
     have cZ := blkZ.cell 0
     have fZ := blkZ.fr 0
     simp only [kA0, kA1] at cZ
     have BLZ := hide blkZ
     have OWZ := hide hownZ
     clear blkZ hownZ
     refine tka (i := 9) rfl ?_
     try simp only [Act.put, kBs]
     refine wpAnyH_ready (rs := [10]) (by kernel_rfl) (by simp) ?_
     refine AllReadyH.cons rfl (fun K hK => ?_) AllReadyH.nil
     go_simp
     refine hK.out _ _ ?_ (fun hHeld => ?_)
     ·exact za MK _ (hHeld.1.setCell (by show w.heap.size ≤ w.heap.size + 1 + 1; omega) _) (hHeld.2.1.far _ _ (by show w.heap.size ≠ w.heap.size + 1 + 1; omega))
     clear hK K
     try simp only [Act.put, kBs]
     refine wpAnyH_done (by kernel_rfl) ?_ _
     have FIN : Hid (At w (wZ.setCell ⟨w.heap.size + 1 + 1, 0, none⟩ (.slice a' ((Pl.offL p (L.take k)).length + 1) cap')) (some ⟨b, o, none⟩) cap L p (k + 1) (.slice a' ((Pl.offL p (L.take k)).length + 1) cap')) :=
      ⟨hHeld.1, hHeld.2.1, (za H2Z).far _ _ (by show w.heap.size + 1 ≠ w.heap.size + 1 + 1; omega), (za BLZ).put 0 _, by
       rw [za HPL]
       exact Mem.za7 (Mem.zi4 (L := Pl.offL p (L.take k)) (n := ⟨q, k0, d, t, m⟩) (za OWZ)) _ _ (by show w.heap.size + 1 + 1 < w.heap.size + 3; omega)⟩
     clear hHeld OWZ BLZ hgrow cZ fZ
     go_wp2
     go_roundw
     case rel => exact ⟨k + 1, by omega, by go_num, ⟨_, za FIN⟩⟩
     case measure => simp [intOf]; omega
   ·rw [hun] at hcu
    have H2 : Hid (At w wr (some ⟨b, o, none⟩) cap L p (k + 1) (.slice av (Pl.offL p (L.take k)).length capv)) :=
     ⟨(za KA).bel, (za KA).one, (za KA).two, (za KA).out, by have h := (za KA).own; rw [Pl.offN_out hn hun]; exact h⟩
    clear KA hun hn
    go_wp2_with fail
    refine (za hcu).mono ?_
    rintro e wY ⟨rfl, rfl⟩
    clear hcu
    go_wp2
    go_roundw
    case rel => exact ⟨k + 1, by omega, by go_num, ⟨_, za H2⟩⟩
    case measure => simp [intOf]; omega
  ·have y1 : ¬ (k : Int) < (L.length : Int) := by omega
   obtain rfl : k = L.length := by omega
   have c2 := (za KA).two.cell 0
   have f2 := (za KA).two.fr 0
   simp only [kA0, kA1] at c2
   go_wp2
   refine bodyPost_ret (v := .agg #[.slice av (Pl.offL p (L.take L.length)).length capv]) (by simp [results, Tryz.results123, go_sem, c2]) rfl ⟨_, rfl, ?_, ?_⟩
   ·have h := (za KA).own
    rw [show Pl.offL p (L.take L.length) = Pl.offL p L by rw [List.take_length]] at h ⊢
    exact Mem.zb4 (Mem.za7 h _ _ (by show w.heap.size + 1 < w.heap.size + 3; omega)) (by omega)
   ·exact (za KA).bel.setCell (by show w.heap.size ≤ w.heap.size + 1; omega) _
end WCutS
end Go.Proofs.YtfdbokipgofcdaaGreatDoor

namespace Go.Proofs.YtfdbokipgofcdaaGreatDoor
open Go.RowKit
namespace WGetT
def Held (w W : World) : Prop := Below w.heap.size w W ∧ W.heap[w.heap.size + 1]? = some (.cells #[.string ⟨#[]⟩, .int .i64 0, .string ⟨#[]⟩, .int .i64 0, .int .i64 0, .int .i64 0] 166 (0, 0))
theorem Held.call {w W W' : World} (h : Held w W) (b : Below W.heap.size W W') : Held w W' := ⟨h.1.trans (b.mono h.1.size), (b.block _ (Array.getElem?_eq_some_iff.1 h.2).1).trans h.2⟩
theorem Held.at {w W : World} (h : Held w W) (k : Nat) : W.cell? ⟨w.heap.size + 1, k, none⟩ = (#[.string ⟨#[]⟩, .int .i64 0, .string ⟨#[]⟩, .int .i64 0, .int .i64 0, .int .i64 0] : Array Value)[k]? := cell_of_row W _ k _ _ (0, 0) h.2
theorem Held.fr {w W : World} (h : Held w W) (k : Nat) : W.frozen? ⟨w.heap.size + 1, k, none⟩ = false := Mem.zi8 h.2
set_option linter.unusedSimpArgs false in
set_option maxRecDepth 100000 in
set_option maxHeartbeats 4000000 in
theorem zd0 (a : Option Addr) (cap : Nat) (L : List Pl.Nd) (p : ByteArray) (w : World) (hl : L.length ≤ 1048576) (hv : Mem.zc2 w a L) (hok : ∀ n ∈ L, n.path.size ≤ 1048576 ∧ n.data.size ≤ 1048576) (hp : p.size ≤ 1048576) :
  Calls Tryz.prog 122 #[.agg #[.slice a L.length cap], .string p] w fun e w' => e = .returned (Pl.getV L p) ∧ Below w.heap.size w w' := by
 have h0 : Held w ((w.alloc (.cells #[.slice a L.length cap] 36)).alloc (.cells #[.string ⟨#[]⟩, .int .i64 0, .string ⟨#[]⟩, .int .i64 0, .int .i64 0, .int .i64 0] 166)) := ⟨((Below.refl _ _).alloc (Nat.le_refl _) _).alloc (by simp) _, Mem.zh2 _ _ _⟩
 have va := Mem.yd4 (Mem.ze0 w [.slice a L.length cap] 36) (.cells #[.string ⟨#[]⟩, .int .i64 0, .string ⟨#[]⟩, .int .i64 0, .int .i64 0, .int .i64 0] 166)
 have hrt := hide (fun W (b : Below w.heap.size w W) => zt4.ye6 a cap L W hl (Mem.za8 hv b) hok)
 have hpr := hide (fun W => zh5.right_one p W hp)
 have hat := hide (fun W (b : Below w.heap.size w W) => zt4.at_any a cap L p W hl (Mem.za8 hv b))
 have HV := hide hv
 have E1 : Hid (8000 < p.size → Pl.getV L p = _) := Pl.get_long
 have E2 : Hid (¬ 8000 < p.size → _ → Pl.getV L p = _) := Pl.get_form
 have E3 : Hid (¬ 8000 < p.size → ¬ (Pl.za2 L = false ∨ p.size = 0 ∨ Pl.za5 p = false) → _ → Pl.getV L p = _) := Pl.get_none
 have E4 : Hid (∀ m, ¬ 8000 < p.size → ¬ (Pl.za2 L = false ∨ p.size = 0 ∨ Pl.za5 p = false) → L.find? (fun m => decide (m.path = p)) = some m → Pl.getV L p = .agg #[.string m.path, .int .i64 m.kind, .string m.data, .int .i64 m.time, .int .i64 m.mark, .int .i64 0]) := fun m => Pl.get_some
 generalize Pl.getV L p = R at E1 E2 E3 E4 ⊢
 generalize Pl.za2 L = R1 at hrt E2 E3 E4
 generalize Pl.za5 p = R2 at hpr E2 E3 E4
 clear hv hok
 by_cases hz : 8000 < p.size
 ·have t0 : (8000 : Int) < (p.size : Int) := by omega
  have E := hide (za E1 hz)
  clear hz E1 E2 E3 E4
  go_enter Tryz.func122, Tryz.ntmps122
  go_wp2
  refine bodyPost_ret (v := .agg #[.string ⟨#[]⟩, .int .i64 0, .string ⟨#[]⟩, .int .i64 0, .int .i64 0, .int .i64 2]) (by simp [results, Tryz.results122, go_sem]) rfl ⟨by rw [za E], ?_⟩
  exact ((Below.refl _ _).alloc (Nat.le_refl _) _).alloc (by simp) _
 have t0 : ¬ (8000 : Int) < (p.size : Int) := by omega
 go_enter Tryz.func122, Tryz.ntmps122
 go_wp2_with fail
 refine (za hrt _ h0.1).mono ?_
 rintro e w1 ⟨rfl, b1⟩
 have HO := hide (h0.call b1)
 have va1 := Mem.zg9 va b1
 have bw1 := (za HO).1
 clear hrt va b1 h0
 cases R1
 ·have E := hide (za E2 hz (.inl rfl))
  clear E1 E2 E3 E4 hz va1 bw1
  have HR := za HO
  have z0 := HR.at 0
  have f0 := HR.fr 0
  have z1 := HR.at 1
  have f1 := HR.fr 1
  have z2 := HR.at 2
  have f2 := HR.fr 2
  have z3 := HR.at 3
  have f3 := HR.fr 3
  have z4 := HR.at 4
  have f4 := HR.fr 4
  have z5 := HR.at 5
  have f5 := HR.fr 5
  clear HR
  simp only [kGs] at z0 z1 z2 z3 z4 z5
  go_wp2
  have HR := za HO
  have r6 : ((((((w1.setCell ⟨w.heap.size + 1, 0, none⟩ (.string ⟨#[]⟩)).setCell ⟨w.heap.size + 1, 1, none⟩ (.int .i64 0)).setCell ⟨w.heap.size + 1, 2, none⟩ (.string ⟨#[]⟩)).setCell ⟨w.heap.size + 1, 3, none⟩ (.int .i64 0)).setCell ⟨w.heap.size + 1, 4, none⟩ (.int .i64 0)).setCell ⟨w.heap.size + 1, 5, none⟩ (.int .i64 1)).heap[w.heap.size + 1]? = some (.cells #[.string ⟨#[]⟩, .int .i64 0, .string ⟨#[]⟩, .int .i64 0, .int .i64 0, .int .i64 1] 166 (0, 0)) := (heap_setCell_same _ _ 5 _ _ _ (heap_setCell_same _ _ 4 _ _ _ (heap_setCell_same _ _ 3 _ _ _ (heap_setCell_same _ _ 2 _ _ _ (heap_setCell_same _ _ 1 _ _ _ (heap_setCell_same _ _ 0 _ _ _ HR.2))))))
  have d0 : ((((((w1.setCell ⟨w.heap.size + 1, 0, none⟩ (.string ⟨#[]⟩)).setCell ⟨w.heap.size + 1, 1, none⟩ (.int .i64 0)).setCell ⟨w.heap.size + 1, 2, none⟩ (.string ⟨#[]⟩)).setCell ⟨w.heap.size + 1, 3, none⟩ (.int .i64 0)).setCell ⟨w.heap.size + 1, 4, none⟩ (.int .i64 0)).setCell ⟨w.heap.size + 1, 5, none⟩ (.int .i64 1)).cell? ⟨w.heap.size + 1, 0, none⟩ = some (.string ⟨#[]⟩) := cell_of_row _ _ 0 _ _ (0, 0) r6
  have d1 : ((((((w1.setCell ⟨w.heap.size + 1, 0, none⟩ (.string ⟨#[]⟩)).setCell ⟨w.heap.size + 1, 1, none⟩ (.int .i64 0)).setCell ⟨w.heap.size + 1, 2, none⟩ (.string ⟨#[]⟩)).setCell ⟨w.heap.size + 1, 3, none⟩ (.int .i64 0)).setCell ⟨w.heap.size + 1, 4, none⟩ (.int .i64 0)).setCell ⟨w.heap.size + 1, 5, none⟩ (.int .i64 1)).cell? ⟨w.heap.size + 1, 1, none⟩ = some (.int .i64 0) := cell_of_row _ _ 1 _ _ (0, 0) r6
  have d2 : ((((((w1.setCell ⟨w.heap.size + 1, 0, none⟩ (.string ⟨#[]⟩)).setCell ⟨w.heap.size + 1, 1, none⟩ (.int .i64 0)).setCell ⟨w.heap.size + 1, 2, none⟩ (.string ⟨#[]⟩)).setCell ⟨w.heap.size + 1, 3, none⟩ (.int .i64 0)).setCell ⟨w.heap.size + 1, 4, none⟩ (.int .i64 0)).setCell ⟨w.heap.size + 1, 5, none⟩ (.int .i64 1)).cell? ⟨w.heap.size + 1, 2, none⟩ = some (.string ⟨#[]⟩) := cell_of_row _ _ 2 _ _ (0, 0) r6
  have d3 : ((((((w1.setCell ⟨w.heap.size + 1, 0, none⟩ (.string ⟨#[]⟩)).setCell ⟨w.heap.size + 1, 1, none⟩ (.int .i64 0)).setCell ⟨w.heap.size + 1, 2, none⟩ (.string ⟨#[]⟩)).setCell ⟨w.heap.size + 1, 3, none⟩ (.int .i64 0)).setCell ⟨w.heap.size + 1, 4, none⟩ (.int .i64 0)).setCell ⟨w.heap.size + 1, 5, none⟩ (.int .i64 1)).cell? ⟨w.heap.size + 1, 3, none⟩ = some (.int .i64 0) := cell_of_row _ _ 3 _ _ (0, 0) r6
  have d4 : ((((((w1.setCell ⟨w.heap.size + 1, 0, none⟩ (.string ⟨#[]⟩)).setCell ⟨w.heap.size + 1, 1, none⟩ (.int .i64 0)).setCell ⟨w.heap.size + 1, 2, none⟩ (.string ⟨#[]⟩)).setCell ⟨w.heap.size + 1, 3, none⟩ (.int .i64 0)).setCell ⟨w.heap.size + 1, 4, none⟩ (.int .i64 0)).setCell ⟨w.heap.size + 1, 5, none⟩ (.int .i64 1)).cell? ⟨w.heap.size + 1, 4, none⟩ = some (.int .i64 0) := cell_of_row _ _ 4 _ _ (0, 0) r6
  have d5 : ((((((w1.setCell ⟨w.heap.size + 1, 0, none⟩ (.string ⟨#[]⟩)).setCell ⟨w.heap.size + 1, 1, none⟩ (.int .i64 0)).setCell ⟨w.heap.size + 1, 2, none⟩ (.string ⟨#[]⟩)).setCell ⟨w.heap.size + 1, 3, none⟩ (.int .i64 0)).setCell ⟨w.heap.size + 1, 4, none⟩ (.int .i64 0)).setCell ⟨w.heap.size + 1, 5, none⟩ (.int .i64 1)).cell? ⟨w.heap.size + 1, 5, none⟩ = some (.int .i64 1) := cell_of_row _ _ 5 _ _ (0, 0) r6
  have bf : Below w.heap.size w ((((((w1.setCell ⟨w.heap.size + 1, 0, none⟩ (.string ⟨#[]⟩)).setCell ⟨w.heap.size + 1, 1, none⟩ (.int .i64 0)).setCell ⟨w.heap.size + 1, 2, none⟩ (.string ⟨#[]⟩)).setCell ⟨w.heap.size + 1, 3, none⟩ (.int .i64 0)).setCell ⟨w.heap.size + 1, 4, none⟩ (.int .i64 0)).setCell ⟨w.heap.size + 1, 5, none⟩ (.int .i64 1)) := ((((((HR.1.setCell (by simp) _).setCell (by simp) _).setCell (by simp) _).setCell (by simp) _).setCell (by simp) _).setCell (by simp) _)
  refine bodyPost_ret (v := .agg #[.string ⟨#[]⟩, .int .i64 0, .string ⟨#[]⟩, .int .i64 0, .int .i64 0, .int .i64 1]) (by simp [results, Tryz.results122, go_sem, d0, d1, d2, d3, d4, d5]) rfl ⟨by rw [za E], bf⟩
 by_cases hs : p.size = 0
 ·have t1 : p.toList.isEmpty = true := by rw [Pl.ze]; simpa [Pl.zj1] using hs
  have E := hide (za E2 hz (.inr (.inl hs)))
  clear E1 E2 E3 E4 hz va1 bw1 hs
  have HR := za HO
  have z0 := HR.at 0
  have f0 := HR.fr 0
  have z1 := HR.at 1
  have f1 := HR.fr 1
  have z2 := HR.at 2
  have f2 := HR.fr 2
  have z3 := HR.at 3
  have f3 := HR.fr 3
  have z4 := HR.at 4
  have f4 := HR.fr 4
  have z5 := HR.at 5
  have f5 := HR.fr 5
  clear HR
  simp only [kGs] at z0 z1 z2 z3 z4 z5
  go_wp2
  have HR := za HO
  have r6 : ((((((w1.setCell ⟨w.heap.size + 1, 0, none⟩ (.string ⟨#[]⟩)).setCell ⟨w.heap.size + 1, 1, none⟩ (.int .i64 0)).setCell ⟨w.heap.size + 1, 2, none⟩ (.string ⟨#[]⟩)).setCell ⟨w.heap.size + 1, 3, none⟩ (.int .i64 0)).setCell ⟨w.heap.size + 1, 4, none⟩ (.int .i64 0)).setCell ⟨w.heap.size + 1, 5, none⟩ (.int .i64 1)).heap[w.heap.size + 1]? = some (.cells #[.string ⟨#[]⟩, .int .i64 0, .string ⟨#[]⟩, .int .i64 0, .int .i64 0, .int .i64 1] 166 (0, 0)) := (heap_setCell_same _ _ 5 _ _ _ (heap_setCell_same _ _ 4 _ _ _ (heap_setCell_same _ _ 3 _ _ _ (heap_setCell_same _ _ 2 _ _ _ (heap_setCell_same _ _ 1 _ _ _ (heap_setCell_same _ _ 0 _ _ _ HR.2))))))
  have d0 : ((((((w1.setCell ⟨w.heap.size + 1, 0, none⟩ (.string ⟨#[]⟩)).setCell ⟨w.heap.size + 1, 1, none⟩ (.int .i64 0)).setCell ⟨w.heap.size + 1, 2, none⟩ (.string ⟨#[]⟩)).setCell ⟨w.heap.size + 1, 3, none⟩ (.int .i64 0)).setCell ⟨w.heap.size + 1, 4, none⟩ (.int .i64 0)).setCell ⟨w.heap.size + 1, 5, none⟩ (.int .i64 1)).cell? ⟨w.heap.size + 1, 0, none⟩ = some (.string ⟨#[]⟩) := cell_of_row _ _ 0 _ _ (0, 0) r6
  have d1 : ((((((w1.setCell ⟨w.heap.size + 1, 0, none⟩ (.string ⟨#[]⟩)).setCell ⟨w.heap.size + 1, 1, none⟩ (.int .i64 0)).setCell ⟨w.heap.size + 1, 2, none⟩ (.string ⟨#[]⟩)).setCell ⟨w.heap.size + 1, 3, none⟩ (.int .i64 0)).setCell ⟨w.heap.size + 1, 4, none⟩ (.int .i64 0)).setCell ⟨w.heap.size + 1, 5, none⟩ (.int .i64 1)).cell? ⟨w.heap.size + 1, 1, none⟩ = some (.int .i64 0) := cell_of_row _ _ 1 _ _ (0, 0) r6
  have d2 : ((((((w1.setCell ⟨w.heap.size + 1, 0, none⟩ (.string ⟨#[]⟩)).setCell ⟨w.heap.size + 1, 1, none⟩ (.int .i64 0)).setCell ⟨w.heap.size + 1, 2, none⟩ (.string ⟨#[]⟩)).setCell ⟨w.heap.size + 1, 3, none⟩ (.int .i64 0)).setCell ⟨w.heap.size + 1, 4, none⟩ (.int .i64 0)).setCell ⟨w.heap.size + 1, 5, none⟩ (.int .i64 1)).cell? ⟨w.heap.size + 1, 2, none⟩ = some (.string ⟨#[]⟩) := cell_of_row _ _ 2 _ _ (0, 0) r6
  have d3 : ((((((w1.setCell ⟨w.heap.size + 1, 0, none⟩ (.string ⟨#[]⟩)).setCell ⟨w.heap.size + 1, 1, none⟩ (.int .i64 0)).setCell ⟨w.heap.size + 1, 2, none⟩ (.string ⟨#[]⟩)).setCell ⟨w.heap.size + 1, 3, none⟩ (.int .i64 0)).setCell ⟨w.heap.size + 1, 4, none⟩ (.int .i64 0)).setCell ⟨w.heap.size + 1, 5, none⟩ (.int .i64 1)).cell? ⟨w.heap.size + 1, 3, none⟩ = some (.int .i64 0) := cell_of_row _ _ 3 _ _ (0, 0) r6
  have d4 : ((((((w1.setCell ⟨w.heap.size + 1, 0, none⟩ (.string ⟨#[]⟩)).setCell ⟨w.heap.size + 1, 1, none⟩ (.int .i64 0)).setCell ⟨w.heap.size + 1, 2, none⟩ (.string ⟨#[]⟩)).setCell ⟨w.heap.size + 1, 3, none⟩ (.int .i64 0)).setCell ⟨w.heap.size + 1, 4, none⟩ (.int .i64 0)).setCell ⟨w.heap.size + 1, 5, none⟩ (.int .i64 1)).cell? ⟨w.heap.size + 1, 4, none⟩ = some (.int .i64 0) := cell_of_row _ _ 4 _ _ (0, 0) r6
  have d5 : ((((((w1.setCell ⟨w.heap.size + 1, 0, none⟩ (.string ⟨#[]⟩)).setCell ⟨w.heap.size + 1, 1, none⟩ (.int .i64 0)).setCell ⟨w.heap.size + 1, 2, none⟩ (.string ⟨#[]⟩)).setCell ⟨w.heap.size + 1, 3, none⟩ (.int .i64 0)).setCell ⟨w.heap.size + 1, 4, none⟩ (.int .i64 0)).setCell ⟨w.heap.size + 1, 5, none⟩ (.int .i64 1)).cell? ⟨w.heap.size + 1, 5, none⟩ = some (.int .i64 1) := cell_of_row _ _ 5 _ _ (0, 0) r6
  have bf : Below w.heap.size w ((((((w1.setCell ⟨w.heap.size + 1, 0, none⟩ (.string ⟨#[]⟩)).setCell ⟨w.heap.size + 1, 1, none⟩ (.int .i64 0)).setCell ⟨w.heap.size + 1, 2, none⟩ (.string ⟨#[]⟩)).setCell ⟨w.heap.size + 1, 3, none⟩ (.int .i64 0)).setCell ⟨w.heap.size + 1, 4, none⟩ (.int .i64 0)).setCell ⟨w.heap.size + 1, 5, none⟩ (.int .i64 1)) := ((((((HR.1.setCell (by simp) _).setCell (by simp) _).setCell (by simp) _).setCell (by simp) _).setCell (by simp) _).setCell (by simp) _)
  refine bodyPost_ret (v := .agg #[.string ⟨#[]⟩, .int .i64 0, .string ⟨#[]⟩, .int .i64 0, .int .i64 0, .int .i64 1]) (by simp [results, Tryz.results122, go_sem, d0, d1, d2, d3, d4, d5]) rfl ⟨by rw [za E], bf⟩
 have t1 : p.toList.isEmpty = false := by rw [Pl.ze]; simpa [Pl.zj1] using hs
 go_wp2_with fail
 refine (za hpr _).mono ?_
 rintro e w2 ⟨rfl, b2⟩
 have HO2 := hide ((za HO).call b2)
 have va2 := Mem.zg9 va1 b2
 have bw2 := (za HO2).1
 clear HO hpr va1 b2 bw1
 have HO := HO2
 clear HO2
 cases R2
 ·have E := hide (za E2 hz (.inr (.inr rfl)))
  clear E1 E2 E3 E4 hz va2 bw2 hs
  have HR := za HO
  have z0 := HR.at 0
  have f0 := HR.fr 0
  have z1 := HR.at 1
  have f1 := HR.fr 1
  have z2 := HR.at 2
  have f2 := HR.fr 2
  have z3 := HR.at 3
  have f3 := HR.fr 3
  have z4 := HR.at 4
  have f4 := HR.fr 4
  have z5 := HR.at 5
  have f5 := HR.fr 5
  clear HR
  simp only [kGs] at z0 z1 z2 z3 z4 z5
  go_wp2
  have HR := za HO
  have r6 : ((((((w2.setCell ⟨w.heap.size + 1, 0, none⟩ (.string ⟨#[]⟩)).setCell ⟨w.heap.size + 1, 1, none⟩ (.int .i64 0)).setCell ⟨w.heap.size + 1, 2, none⟩ (.string ⟨#[]⟩)).setCell ⟨w.heap.size + 1, 3, none⟩ (.int .i64 0)).setCell ⟨w.heap.size + 1, 4, none⟩ (.int .i64 0)).setCell ⟨w.heap.size + 1, 5, none⟩ (.int .i64 1)).heap[w.heap.size + 1]? = some (.cells #[.string ⟨#[]⟩, .int .i64 0, .string ⟨#[]⟩, .int .i64 0, .int .i64 0, .int .i64 1] 166 (0, 0)) := (heap_setCell_same _ _ 5 _ _ _ (heap_setCell_same _ _ 4 _ _ _ (heap_setCell_same _ _ 3 _ _ _ (heap_setCell_same _ _ 2 _ _ _ (heap_setCell_same _ _ 1 _ _ _ (heap_setCell_same _ _ 0 _ _ _ HR.2))))))
  have d0 : ((((((w2.setCell ⟨w.heap.size + 1, 0, none⟩ (.string ⟨#[]⟩)).setCell ⟨w.heap.size + 1, 1, none⟩ (.int .i64 0)).setCell ⟨w.heap.size + 1, 2, none⟩ (.string ⟨#[]⟩)).setCell ⟨w.heap.size + 1, 3, none⟩ (.int .i64 0)).setCell ⟨w.heap.size + 1, 4, none⟩ (.int .i64 0)).setCell ⟨w.heap.size + 1, 5, none⟩ (.int .i64 1)).cell? ⟨w.heap.size + 1, 0, none⟩ = some (.string ⟨#[]⟩) := cell_of_row _ _ 0 _ _ (0, 0) r6
  have d1 : ((((((w2.setCell ⟨w.heap.size + 1, 0, none⟩ (.string ⟨#[]⟩)).setCell ⟨w.heap.size + 1, 1, none⟩ (.int .i64 0)).setCell ⟨w.heap.size + 1, 2, none⟩ (.string ⟨#[]⟩)).setCell ⟨w.heap.size + 1, 3, none⟩ (.int .i64 0)).setCell ⟨w.heap.size + 1, 4, none⟩ (.int .i64 0)).setCell ⟨w.heap.size + 1, 5, none⟩ (.int .i64 1)).cell? ⟨w.heap.size + 1, 1, none⟩ = some (.int .i64 0) := cell_of_row _ _ 1 _ _ (0, 0) r6
  have d2 : ((((((w2.setCell ⟨w.heap.size + 1, 0, none⟩ (.string ⟨#[]⟩)).setCell ⟨w.heap.size + 1, 1, none⟩ (.int .i64 0)).setCell ⟨w.heap.size + 1, 2, none⟩ (.string ⟨#[]⟩)).setCell ⟨w.heap.size + 1, 3, none⟩ (.int .i64 0)).setCell ⟨w.heap.size + 1, 4, none⟩ (.int .i64 0)).setCell ⟨w.heap.size + 1, 5, none⟩ (.int .i64 1)).cell? ⟨w.heap.size + 1, 2, none⟩ = some (.string ⟨#[]⟩) := cell_of_row _ _ 2 _ _ (0, 0) r6
  have d3 : ((((((w2.setCell ⟨w.heap.size + 1, 0, none⟩ (.string ⟨#[]⟩)).setCell ⟨w.heap.size + 1, 1, none⟩ (.int .i64 0)).setCell ⟨w.heap.size + 1, 2, none⟩ (.string ⟨#[]⟩)).setCell ⟨w.heap.size + 1, 3, none⟩ (.int .i64 0)).setCell ⟨w.heap.size + 1, 4, none⟩ (.int .i64 0)).setCell ⟨w.heap.size + 1, 5, none⟩ (.int .i64 1)).cell? ⟨w.heap.size + 1, 3, none⟩ = some (.int .i64 0) := cell_of_row _ _ 3 _ _ (0, 0) r6
  have d4 : ((((((w2.setCell ⟨w.heap.size + 1, 0, none⟩ (.string ⟨#[]⟩)).setCell ⟨w.heap.size + 1, 1, none⟩ (.int .i64 0)).setCell ⟨w.heap.size + 1, 2, none⟩ (.string ⟨#[]⟩)).setCell ⟨w.heap.size + 1, 3, none⟩ (.int .i64 0)).setCell ⟨w.heap.size + 1, 4, none⟩ (.int .i64 0)).setCell ⟨w.heap.size + 1, 5, none⟩ (.int .i64 1)).cell? ⟨w.heap.size + 1, 4, none⟩ = some (.int .i64 0) := cell_of_row _ _ 4 _ _ (0, 0) r6
  have d5 : ((((((w2.setCell ⟨w.heap.size + 1, 0, none⟩ (.string ⟨#[]⟩)).setCell ⟨w.heap.size + 1, 1, none⟩ (.int .i64 0)).setCell ⟨w.heap.size + 1, 2, none⟩ (.string ⟨#[]⟩)).setCell ⟨w.heap.size + 1, 3, none⟩ (.int .i64 0)).setCell ⟨w.heap.size + 1, 4, none⟩ (.int .i64 0)).setCell ⟨w.heap.size + 1, 5, none⟩ (.int .i64 1)).cell? ⟨w.heap.size + 1, 5, none⟩ = some (.int .i64 1) := cell_of_row _ _ 5 _ _ (0, 0) r6
  have bf : Below w.heap.size w ((((((w2.setCell ⟨w.heap.size + 1, 0, none⟩ (.string ⟨#[]⟩)).setCell ⟨w.heap.size + 1, 1, none⟩ (.int .i64 0)).setCell ⟨w.heap.size + 1, 2, none⟩ (.string ⟨#[]⟩)).setCell ⟨w.heap.size + 1, 3, none⟩ (.int .i64 0)).setCell ⟨w.heap.size + 1, 4, none⟩ (.int .i64 0)).setCell ⟨w.heap.size + 1, 5, none⟩ (.int .i64 1)) := ((((((HR.1.setCell (by simp) _).setCell (by simp) _).setCell (by simp) _).setCell (by simp) _).setCell (by simp) _).setCell (by simp) _)
  refine bodyPost_ret (v := .agg #[.string ⟨#[]⟩, .int .i64 0, .string ⟨#[]⟩, .int .i64 0, .int .i64 0, .int .i64 1]) (by simp [results, Tryz.results122, go_sem, d0, d1, d2, d3, d4, d5]) rfl ⟨by rw [za E], bf⟩
 have c0 := va2.2 0 _ rfl
 go_wp2_with fail
 refine (za hat _ bw2).mono ?_
 rintro e w3 ⟨⟨r, rfl, h1⟩, b3⟩
 have HO3 := hide ((za HO).call b3)
 have va3 := Mem.zg9 va2 b3
 have bw3 := (za HO3).1
 clear HO hat va2 b3 bw2 c0
 have HO := HO3
 clear HO3
 have hno : ¬ (true = false ∨ p.size = 0 ∨ true = false) := by simp [hs]
 rcases h1.out with ⟨k, m, rfl, hk, hf⟩ | ⟨rfl, hf⟩
 ·have E := hide (za E4 m hz hno hf)
  obtain ⟨b, o, rfl, hb, q0, q1, q2, q3, q4⟩ := (Mem.za8 (za HV) bw3) k m hk
  have y1 : (k : Int) < (L.length : Int) := by have := (List.getElem?_eq_some_iff.1 hk).1; omega
  have y3 : (0 : Int) ≤ (k : Int) := by omega
  have c0 := va3.2 0 _ rfl
  clear E1 E2 E3 E4 hz hf hk HV h1 hno hs bw3 va3
  have HR := za HO
  have z0 := HR.at 0
  have f0 := HR.fr 0
  have z1 := HR.at 1
  have f1 := HR.fr 1
  have z2 := HR.at 2
  have f2 := HR.fr 2
  have z3 := HR.at 3
  have f3 := HR.fr 3
  have z4 := HR.at 4
  have f4 := HR.fr 4
  have z5 := HR.at 5
  have f5 := HR.fr 5
  clear HR
  simp only [kGs] at z0 z1 z2 z3 z4 z5
  go_wp2
  have HR := za HO
  have r6 : ((((((w3.setCell ⟨w.heap.size + 1, 0, none⟩ (.string m.path)).setCell ⟨w.heap.size + 1, 1, none⟩ (.int .i64 m.kind)).setCell ⟨w.heap.size + 1, 2, none⟩ (.string m.data)).setCell ⟨w.heap.size + 1, 3, none⟩ (.int .i64 m.time)).setCell ⟨w.heap.size + 1, 4, none⟩ (.int .i64 m.mark)).setCell ⟨w.heap.size + 1, 5, none⟩ (.int .i64 0)).heap[w.heap.size + 1]? = some (.cells #[.string m.path, .int .i64 m.kind, .string m.data, .int .i64 m.time, .int .i64 m.mark, .int .i64 0] 166 (0, 0)) := (heap_setCell_same _ _ 5 _ _ _ (heap_setCell_same _ _ 4 _ _ _ (heap_setCell_same _ _ 3 _ _ _ (heap_setCell_same _ _ 2 _ _ _ (heap_setCell_same _ _ 1 _ _ _ (heap_setCell_same _ _ 0 _ _ _ HR.2))))))
  have d0 : ((((((w3.setCell ⟨w.heap.size + 1, 0, none⟩ (.string m.path)).setCell ⟨w.heap.size + 1, 1, none⟩ (.int .i64 m.kind)).setCell ⟨w.heap.size + 1, 2, none⟩ (.string m.data)).setCell ⟨w.heap.size + 1, 3, none⟩ (.int .i64 m.time)).setCell ⟨w.heap.size + 1, 4, none⟩ (.int .i64 m.mark)).setCell ⟨w.heap.size + 1, 5, none⟩ (.int .i64 0)).cell? ⟨w.heap.size + 1, 0, none⟩ = some (.string m.path) := cell_of_row _ _ 0 _ _ (0, 0) r6
  have d1 : ((((((w3.setCell ⟨w.heap.size + 1, 0, none⟩ (.string m.path)).setCell ⟨w.heap.size + 1, 1, none⟩ (.int .i64 m.kind)).setCell ⟨w.heap.size + 1, 2, none⟩ (.string m.data)).setCell ⟨w.heap.size + 1, 3, none⟩ (.int .i64 m.time)).setCell ⟨w.heap.size + 1, 4, none⟩ (.int .i64 m.mark)).setCell ⟨w.heap.size + 1, 5, none⟩ (.int .i64 0)).cell? ⟨w.heap.size + 1, 1, none⟩ = some (.int .i64 m.kind) := cell_of_row _ _ 1 _ _ (0, 0) r6
  have d2 : ((((((w3.setCell ⟨w.heap.size + 1, 0, none⟩ (.string m.path)).setCell ⟨w.heap.size + 1, 1, none⟩ (.int .i64 m.kind)).setCell ⟨w.heap.size + 1, 2, none⟩ (.string m.data)).setCell ⟨w.heap.size + 1, 3, none⟩ (.int .i64 m.time)).setCell ⟨w.heap.size + 1, 4, none⟩ (.int .i64 m.mark)).setCell ⟨w.heap.size + 1, 5, none⟩ (.int .i64 0)).cell? ⟨w.heap.size + 1, 2, none⟩ = some (.string m.data) := cell_of_row _ _ 2 _ _ (0, 0) r6
  have d3 : ((((((w3.setCell ⟨w.heap.size + 1, 0, none⟩ (.string m.path)).setCell ⟨w.heap.size + 1, 1, none⟩ (.int .i64 m.kind)).setCell ⟨w.heap.size + 1, 2, none⟩ (.string m.data)).setCell ⟨w.heap.size + 1, 3, none⟩ (.int .i64 m.time)).setCell ⟨w.heap.size + 1, 4, none⟩ (.int .i64 m.mark)).setCell ⟨w.heap.size + 1, 5, none⟩ (.int .i64 0)).cell? ⟨w.heap.size + 1, 3, none⟩ = some (.int .i64 m.time) := cell_of_row _ _ 3 _ _ (0, 0) r6
  have d4 : ((((((w3.setCell ⟨w.heap.size + 1, 0, none⟩ (.string m.path)).setCell ⟨w.heap.size + 1, 1, none⟩ (.int .i64 m.kind)).setCell ⟨w.heap.size + 1, 2, none⟩ (.string m.data)).setCell ⟨w.heap.size + 1, 3, none⟩ (.int .i64 m.time)).setCell ⟨w.heap.size + 1, 4, none⟩ (.int .i64 m.mark)).setCell ⟨w.heap.size + 1, 5, none⟩ (.int .i64 0)).cell? ⟨w.heap.size + 1, 4, none⟩ = some (.int .i64 m.mark) := cell_of_row _ _ 4 _ _ (0, 0) r6
  have d5 : ((((((w3.setCell ⟨w.heap.size + 1, 0, none⟩ (.string m.path)).setCell ⟨w.heap.size + 1, 1, none⟩ (.int .i64 m.kind)).setCell ⟨w.heap.size + 1, 2, none⟩ (.string m.data)).setCell ⟨w.heap.size + 1, 3, none⟩ (.int .i64 m.time)).setCell ⟨w.heap.size + 1, 4, none⟩ (.int .i64 m.mark)).setCell ⟨w.heap.size + 1, 5, none⟩ (.int .i64 0)).cell? ⟨w.heap.size + 1, 5, none⟩ = some (.int .i64 0) := cell_of_row _ _ 5 _ _ (0, 0) r6
  have bf : Below w.heap.size w ((((((w3.setCell ⟨w.heap.size + 1, 0, none⟩ (.string m.path)).setCell ⟨w.heap.size + 1, 1, none⟩ (.int .i64 m.kind)).setCell ⟨w.heap.size + 1, 2, none⟩ (.string m.data)).setCell ⟨w.heap.size + 1, 3, none⟩ (.int .i64 m.time)).setCell ⟨w.heap.size + 1, 4, none⟩ (.int .i64 m.mark)).setCell ⟨w.heap.size + 1, 5, none⟩ (.int .i64 0)) := ((((((HR.1.setCell (by simp) _).setCell (by simp) _).setCell (by simp) _).setCell (by simp) _).setCell (by simp) _).setCell (by simp) _)
  refine bodyPost_ret (v := .agg #[.string m.path, .int .i64 m.kind, .string m.data, .int .i64 m.time, .int .i64 m.mark, .int .i64 0]) (by simp [results, Tryz.results122, go_sem, d0, d1, d2, d3, d4, d5]) rfl ⟨by rw [za E], bf⟩
 ·have E := hide (za E3 hz hno hf)
  clear E1 E2 E3 E4 hz hf HV h1 hno hs bw3 va3
  have HR := za HO
  have z0 := HR.at 0
  have f0 := HR.fr 0
  have z1 := HR.at 1
  have f1 := HR.fr 1
  have z2 := HR.at 2
  have f2 := HR.fr 2
  have z3 := HR.at 3
  have f3 := HR.fr 3
  have z4 := HR.at 4
  have f4 := HR.fr 4
  have z5 := HR.at 5
  have f5 := HR.fr 5
  clear HR
  simp only [kGs] at z0 z1 z2 z3 z4 z5
  go_wp2
  have HR := za HO
  have r6 : ((((((w3.setCell ⟨w.heap.size + 1, 0, none⟩ (.string ⟨#[]⟩)).setCell ⟨w.heap.size + 1, 1, none⟩ (.int .i64 0)).setCell ⟨w.heap.size + 1, 2, none⟩ (.string ⟨#[]⟩)).setCell ⟨w.heap.size + 1, 3, none⟩ (.int .i64 0)).setCell ⟨w.heap.size + 1, 4, none⟩ (.int .i64 0)).setCell ⟨w.heap.size + 1, 5, none⟩ (.int .i64 6)).heap[w.heap.size + 1]? = some (.cells #[.string ⟨#[]⟩, .int .i64 0, .string ⟨#[]⟩, .int .i64 0, .int .i64 0, .int .i64 6] 166 (0, 0)) := (heap_setCell_same _ _ 5 _ _ _ (heap_setCell_same _ _ 4 _ _ _ (heap_setCell_same _ _ 3 _ _ _ (heap_setCell_same _ _ 2 _ _ _ (heap_setCell_same _ _ 1 _ _ _ (heap_setCell_same _ _ 0 _ _ _ HR.2))))))
  have d0 : ((((((w3.setCell ⟨w.heap.size + 1, 0, none⟩ (.string ⟨#[]⟩)).setCell ⟨w.heap.size + 1, 1, none⟩ (.int .i64 0)).setCell ⟨w.heap.size + 1, 2, none⟩ (.string ⟨#[]⟩)).setCell ⟨w.heap.size + 1, 3, none⟩ (.int .i64 0)).setCell ⟨w.heap.size + 1, 4, none⟩ (.int .i64 0)).setCell ⟨w.heap.size + 1, 5, none⟩ (.int .i64 6)).cell? ⟨w.heap.size + 1, 0, none⟩ = some (.string ⟨#[]⟩) := cell_of_row _ _ 0 _ _ (0, 0) r6
  have d1 : ((((((w3.setCell ⟨w.heap.size + 1, 0, none⟩ (.string ⟨#[]⟩)).setCell ⟨w.heap.size + 1, 1, none⟩ (.int .i64 0)).setCell ⟨w.heap.size + 1, 2, none⟩ (.string ⟨#[]⟩)).setCell ⟨w.heap.size + 1, 3, none⟩ (.int .i64 0)).setCell ⟨w.heap.size + 1, 4, none⟩ (.int .i64 0)).setCell ⟨w.heap.size + 1, 5, none⟩ (.int .i64 6)).cell? ⟨w.heap.size + 1, 1, none⟩ = some (.int .i64 0) := cell_of_row _ _ 1 _ _ (0, 0) r6
  have d2 : ((((((w3.setCell ⟨w.heap.size + 1, 0, none⟩ (.string ⟨#[]⟩)).setCell ⟨w.heap.size + 1, 1, none⟩ (.int .i64 0)).setCell ⟨w.heap.size + 1, 2, none⟩ (.string ⟨#[]⟩)).setCell ⟨w.heap.size + 1, 3, none⟩ (.int .i64 0)).setCell ⟨w.heap.size + 1, 4, none⟩ (.int .i64 0)).setCell ⟨w.heap.size + 1, 5, none⟩ (.int .i64 6)).cell? ⟨w.heap.size + 1, 2, none⟩ = some (.string ⟨#[]⟩) := cell_of_row _ _ 2 _ _ (0, 0) r6
  have d3 : ((((((w3.setCell ⟨w.heap.size + 1, 0, none⟩ (.string ⟨#[]⟩)).setCell ⟨w.heap.size + 1, 1, none⟩ (.int .i64 0)).setCell ⟨w.heap.size + 1, 2, none⟩ (.string ⟨#[]⟩)).setCell ⟨w.heap.size + 1, 3, none⟩ (.int .i64 0)).setCell ⟨w.heap.size + 1, 4, none⟩ (.int .i64 0)).setCell ⟨w.heap.size + 1, 5, none⟩ (.int .i64 6)).cell? ⟨w.heap.size + 1, 3, none⟩ = some (.int .i64 0) := cell_of_row _ _ 3 _ _ (0, 0) r6
  have d4 : ((((((w3.setCell ⟨w.heap.size + 1, 0, none⟩ (.string ⟨#[]⟩)).setCell ⟨w.heap.size + 1, 1, none⟩ (.int .i64 0)).setCell ⟨w.heap.size + 1, 2, none⟩ (.string ⟨#[]⟩)).setCell ⟨w.heap.size + 1, 3, none⟩ (.int .i64 0)).setCell ⟨w.heap.size + 1, 4, none⟩ (.int .i64 0)).setCell ⟨w.heap.size + 1, 5, none⟩ (.int .i64 6)).cell? ⟨w.heap.size + 1, 4, none⟩ = some (.int .i64 0) := cell_of_row _ _ 4 _ _ (0, 0) r6
  have d5 : ((((((w3.setCell ⟨w.heap.size + 1, 0, none⟩ (.string ⟨#[]⟩)).setCell ⟨w.heap.size + 1, 1, none⟩ (.int .i64 0)).setCell ⟨w.heap.size + 1, 2, none⟩ (.string ⟨#[]⟩)).setCell ⟨w.heap.size + 1, 3, none⟩ (.int .i64 0)).setCell ⟨w.heap.size + 1, 4, none⟩ (.int .i64 0)).setCell ⟨w.heap.size + 1, 5, none⟩ (.int .i64 6)).cell? ⟨w.heap.size + 1, 5, none⟩ = some (.int .i64 6) := cell_of_row _ _ 5 _ _ (0, 0) r6
  have bf : Below w.heap.size w ((((((w3.setCell ⟨w.heap.size + 1, 0, none⟩ (.string ⟨#[]⟩)).setCell ⟨w.heap.size + 1, 1, none⟩ (.int .i64 0)).setCell ⟨w.heap.size + 1, 2, none⟩ (.string ⟨#[]⟩)).setCell ⟨w.heap.size + 1, 3, none⟩ (.int .i64 0)).setCell ⟨w.heap.size + 1, 4, none⟩ (.int .i64 0)).setCell ⟨w.heap.size + 1, 5, none⟩ (.int .i64 6)) := ((((((HR.1.setCell (by simp) _).setCell (by simp) _).setCell (by simp) _).setCell (by simp) _).setCell (by simp) _).setCell (by simp) _)
  refine bodyPost_ret (v := .agg #[.string ⟨#[]⟩, .int .i64 0, .string ⟨#[]⟩, .int .i64 0, .int .i64 0, .int .i64 6]) (by simp [results, Tryz.results122, go_sem, d0, d1, d2, d3, d4, d5]) rfl ⟨by rw [za E], bf⟩
end WGetT
end Go.Proofs.YtfdbokipgofcdaaGreatDoor

namespace Go.Proofs.YtfdbokipgofcdaaGreatDoor
open Go.RowKit Go.Maps
namespace WCutF
set_option linter.unusedSimpArgs false in
set_option maxRecDepth 100000 in
set_option maxHeartbeats 2000000 in
theorem zd0 (a : Option Addr) (cap : Nat) (L : List Pl.Nd) (p : ByteArray) (n : Pl.Nd) (c : Int) (hV : Pl.getV L p = .agg #[.string n.path, .int .i64 n.kind, .string n.data, .int .i64 n.time, .int .i64 n.mark, .int .i64 c]) (w : World) (hl : L.length ≤ 1048576) (hv : Mem.zc2 w a L) (hok : ∀ n ∈ L, n.path.size ≤ 1048576 ∧ n.data.size ≤ 1048576) (hp : p.size ≤ 1048576) :
  Calls Tryz.prog 104 #[.agg #[.slice a L.length cap], .string p] w fun e w' => ∃ v, e = .returned (.agg #[v, .int .i64 c]) ∧ Mem.ownN w' w.heap.size v (Pl.cutO p L c) ∧ Below w.heap.size w w' := by
 have b0 : Below w.heap.size w ((w.alloc (.cells #[.slice a L.length cap] 36)).alloc (.cells #[.slice none 0 0, .int .i64 0] 42)) := ((Below.refl _ _).alloc (Nat.le_refl _) _).alloc (by simp) _
 have hg := hide (WGetT.zd0 a cap L p _ hl (Mem.za8 hv b0) hok hp)
 rw [hV] at hg
 have hc := hide (fun W (b : Below w.heap.size w W) => WCutS.l03_any a cap L p W hl (Mem.za8 hv b) hp)
 have V1 := (Mem.Blk.new w #[.slice a L.length cap] 36).alloc (.cells #[.slice none 0 0, .int .i64 0] 42)
 have V2 : Mem.Blk ((w.alloc (.cells #[.slice a L.length cap] 36)).alloc (.cells #[.slice none 0 0, .int .i64 0] 42)) (w.heap.size + 1) #[.slice none 0 0, .int .i64 0] 42 := Mem.zh2 _ _ _
 clear hv hok hV
 by_cases h0 : c = 0
 ·subst h0
  rw [show Pl.cutO p L 0 = Pl.offL p L from rfl]
  go_enter Tryz.func104, Tryz.ntmps104
  go_wp2_with fail
  refine (za hg).mono ?_
  rintro e w1 ⟨rfl, b1⟩
  have b2 := b0.trans (b1.mono b0.size)
  have b3 := b2.alloc b2.size (.cells #[.string n.path, .int .i64 n.kind, .string n.data, .int .i64 n.time, .int .i64 n.mark, .int .i64 0] 166)
  have V3 := (V2.call b1).alloc (.cells #[.string n.path, .int .i64 n.kind, .string n.data, .int .i64 n.time, .int .i64 n.mark, .int .i64 0] 166)
  have c0 := ((V1.call b1).alloc (.cells #[.string n.path, .int .i64 n.kind, .string n.data, .int .i64 n.time, .int .i64 n.mark, .int .i64 0] 166)).cell 0
  simp only [kA0, kA1] at c0
  have hs : w.heap.size + 1 < (w1.alloc (.cells #[.string n.path, .int .i64 n.kind, .string n.data, .int .i64 n.time, .int .i64 n.mark, .int .i64 0] 166)).heap.size := V3.lt
  clear hg b0 b1 V1 V2 b2
  go_wp2_with fail
  refine (za hc _ b3).mono ?_
  rintro e w3 ⟨v, rfl, own, b4⟩
  obtain ⟨a', cap', rfl⟩ := Mem.za1 own
  have OW := hide own
  have b5 := b3.trans (b4.mono b3.size)
  have V4 := V3.call b4
  have d0 := V4.cell 0
  have d1 := V4.cell 1
  have f0 := V4.fr 0
  have f1 := V4.fr 1
  simp only [kGs] at d0 d1
  have HS := hide hs
  clear b3 b4 V3 hc own c0 hs
  go_wp2
  refine bodyPost_ret (v := .agg #[.slice a' (Pl.offL p L).length cap', .int .i64 0]) (by simp [results, Tryz.results104, go_sem, d0, d1]) rfl ⟨_, rfl, ?_, ?_⟩
  ·exact Mem.zb4 (Mem.za7 (Mem.za7 (za OW) _ _ (za HS)) _ _ (za HS)) (by have := za HS; omega)
  ·exact (b5.setCell (by show w.heap.size ≤ w.heap.size + 1; omega) _).setCell (by show w.heap.size ≤ w.heap.size + 1; omega) _
 ·have t0 : (c == 0) = false := by simpa using h0
  rw [show Pl.cutO p L c = [] by rw [Pl.cutO, if_neg h0]]
  clear hc h0
  go_enter Tryz.func104, Tryz.ntmps104
  go_wp2_with fail
  refine (za hg).mono ?_
  rintro e w1 ⟨rfl, b1⟩
  have b2 := b0.trans (b1.mono b0.size)
  have b3 := b2.alloc b2.size (.cells #[.string n.path, .int .i64 n.kind, .string n.data, .int .i64 n.time, .int .i64 n.mark, .int .i64 c] 166)
  have V3 := (V2.call b1).alloc (.cells #[.string n.path, .int .i64 n.kind, .string n.data, .int .i64 n.time, .int .i64 n.mark, .int .i64 c] 166)
  clear hg b0 b1 V1 V2 b2
  go_wp2_with fail
  refine (zn7.zk0 c _).mono ?_
  rintro e w3 ⟨rfl, b4⟩
  have b5 := b3.trans (b4.mono b3.size)
  have V4 := V3.call b4
  have d0 := V4.cell 0
  have d1 := V4.cell 1
  have f0 := V4.fr 0
  have f1 := V4.fr 1
  simp only [kGs] at d0 d1
  clear b3 b4 V3
  go_wp2
  refine bodyPost_ret (v := .agg #[.slice none 0 0, .int .i64 c]) (by simp [results, Tryz.results104, go_sem, d0, d1]) rfl ⟨_, rfl, Mem.zd2 _ _, ?_⟩
  exact (b5.setCell (by show w.heap.size ≤ w.heap.size + 1; omega) _).setCell (by show w.heap.size ≤ w.heap.size + 1; omega) _
end WCutF
end Go.Proofs.YtfdbokipgofcdaaGreatDoor

namespace Go.Proofs.YtfdbokipgofcdaaGreatDoor
open Go.RowKit
namespace zh5
theorem base1_any (s : ByteArray) (w : World) (hs : s.size ≤ maxLen) :
  Calls Tryz.prog 102 #[.string s] w fun e w' => e = .returned (.string (Pl.base s)) ∧ w' = w := by
 have hb := Pl.slash_lt s s.size
 have hc := hide (fun W => cut_any s W hs)
 unfold maxLen at hs
 have E : Hid (Pl.base s = s.extract (Pl.zf3 s s.size + 1).toNat s.size) := rfl
 generalize Pl.base s = R at E ⊢
 generalize Pl.zf3 s s.size = k at hc hb E
 have t1 : 0 ≤ k + 1 := by omega
 have t2 : k + 1 ≤ (s.size : Int) := by omega
 go_enter Tryz.func102, Tryz.ntmps102
 go_wp2_with (go_at_call 120; refine (za hc _).mono ?_; rintro e w' ⟨rfl, hw⟩; obtain rfl := hw.symm)
 go_ret
 exact ⟨zf2 (za E).symm, rfl⟩
end zh5
end Go.Proofs.YtfdbokipgofcdaaGreatDoor

