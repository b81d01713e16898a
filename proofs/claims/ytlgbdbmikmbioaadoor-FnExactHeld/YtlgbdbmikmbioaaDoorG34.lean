/- Several texts of one claim in one file: WLawK, WLawEs. -/
import Derived.Test.YtlgbdbmikmbioaaDoorWLawJ
import Derived.Test.YtlgbdbmikmbioaaDoorWLawSz
import Derived.Deep.RegionHeld3
/- The walks of eqItem and eqItemS. -/
namespace Go.Proofs.YtlgbdbmikmbioaaDoor
open Go.RowKit
namespace WLaw
set_option maxRecDepth 100000 in
set_option maxHeartbeats 800000 in
theorem eqItem_any (m : Int) (a b : Option Addr) (c1 c2 : Nat) (L : List Pl.Nd) (w : World) (hl : L.length ≤ 1048576) (hv : Mem.isNodes w a L) (hu : Mem.isNodes w b L) :
    Calls Tryd.prog 70 #[.agg #[.int .i64 m, .slice a L.length c1], .agg #[.int .i64 m, .slice b L.length c2]] w fun e w' => e = .returned (.bool true) ∧ Below w.heap.size w w' := by
  have b0 : ∀ o1 o2, Below w.heap.size w ((w.alloc o1).alloc o2) := fun o1 o2 => ((Below.refl _ _).alloc (Nat.le_refl _) o1).alloc (by simp) o2
  have HB := hide b0
  have HZ := hide (fun W (b' : Below w.heap.size w W) => eqTree_any a b c1 c2 L W hl (Mem.nodes_call hv b') (Mem.nodes_call hu b'))
  clear hv hu b0
  go_enter Tryd.func70, Tryd.ntmps70
  go_wp2_with fail
  refine (unhide HZ _ (unhide HB _ _)).mono ?_
  rintro e w1 ⟨rfl, b1⟩
  have bb := (unhide HB _ _).trans (b1.mono (unhide HB _ _).size)
  clear HZ b1
  go_wp2
  go_ret
  exact ⟨rfl, bb⟩
set_option maxRecDepth 100000 in
set_option maxHeartbeats 800000 in
theorem eqItemS_any (a b : Option Addr) (c1 c2 : Nat) (Ts Us : List Pl.It) (w : World) (hl : Ts.length ≤ 1048576) (hm : Us.map Pl.It.r = Ts.map Pl.It.r) (hv : Mem.isItems w a Ts) (hu : Mem.isItems w b Us) (hok : ∀ t ∈ Ts, t.t.L.length ≤ 1048576) :
    Calls Tryd.prog 58 #[.slice a Ts.length c1, .slice b Ts.length c2] w fun e w' => e = .returned (.bool true) ∧ Below w.heap.size w w' := by
  have HV := hide hv
  have HU := hide hu
  have HO := hide hok
  have HM := hide hm
  clear hv hu hok hm
  go_enter Tryd.func58, Tryd.ntmps58
  go_wp2
  go_loopw [5] (fun i wr => ∃ k : Nat, k ≤ Ts.length ∧ i = .int .i64 (k : Int) ∧ Below w.heap.size w wr) (fun i _ => Ts.length - (intOf i).toNat)
  case atStart => exact ⟨0, Nat.zero_le _, rfl, Below.refl _ _⟩
  case round =>
    obtain ⟨k, hk, rfl, hbel⟩ := hrel
    by_cases hlt : k < Ts.length
    · obtain ⟨t, ht⟩ : ∃ n, Ts[k]? = some n := ⟨_, List.getElem?_eq_getElem hlt⟩
      obtain ⟨u, hu, hum, hul⟩ : ∃ u, Us[k]? = some u ∧ u.m = t.m ∧ u.t.L = t.t.L := by
        have h := congrArg (fun l => l[k]?) (unhide HM)
        simp only [List.getElem?_map, ht, Option.map_some] at h
        cases hu : Us[k]? with
        | none => rw [hu] at h; simp at h
        | some u => rw [hu] at h; simp [Pl.It.r] at h; exact ⟨u, rfl, h.1, h.2⟩
      obtain ⟨⟨g, o, rfl, hg, q0, q0'⟩, q1⟩ := (unhide HV) k t ht
      obtain ⟨⟨g2, o2, rfl, hg2, p0, p0'⟩, p1⟩ := (unhide HU) k u hu
      rw [hul] at p1
      have hz := hide (fun W (b : Below w.heap.size w W) => eqItem_any t.m t.t.a u.t.a t.t.cap u.t.cap t.t.L W (unhide HO t (List.mem_of_getElem? ht)) (Mem.nodes_call q1 b) (Mem.nodes_call p1 b))
      have MK : Hid (∀ W', Below w.heap.size w W' → (Below w.heap.size w W' ∧ W'.cell? ⟨g, o + k * 2, none⟩ = some (.int .i64 t.m) ∧ W'.cell? ⟨g, o + k * 2 + 1, none⟩ = some (.slice t.t.a t.t.L.length t.t.cap) ∧ W'.cell? ⟨g2, o2 + k * 2, none⟩ = some (.int .i64 t.m) ∧ W'.cell? ⟨g2, o2 + k * 2 + 1, none⟩ = some (.slice u.t.a t.t.L.length u.t.cap))) := fun W' hb' => ⟨hb', (hb'.cell (p := ⟨g, _, none⟩) hg).trans q0, (hb'.cell (p := ⟨g, _, none⟩) hg).trans (by rw [q0', Pl.Tr.val]), (hb'.cell (p := ⟨g2, _, none⟩) hg2).trans (by rw [p0, hum]), (hb'.cell (p := ⟨g2, _, none⟩) hg2).trans (by rw [p0', Pl.Tr.val, hul])⟩
      have u1 : (k : Int) < (Ts.length : Int) := by omega
      have u3 : (0 : Int) ≤ (k : Int) := by omega
      have hbd : Below w.heap.size w wr.drew := ⟨hbel.os, hbel.tape, hbel.output, hbel.size, hbel.block⟩
      clear q0 p0 q0' p0' ht hu hul hum q1 p1
      go_wp2_with fail
      go_region_held3 (fun W' => Below w.heap.size w W' ∧ W'.cell? ⟨g, o + k * 2, none⟩ = some (.int .i64 t.m) ∧ W'.cell? ⟨g, o + k * 2 + 1, none⟩ = some (.slice t.t.a t.t.L.length t.t.cap) ∧ W'.cell? ⟨g2, o2 + k * 2, none⟩ = some (.int .i64 t.m) ∧ W'.cell? ⟨g2, o2 + k * 2 + 1, none⟩ = some (.slice u.t.a t.t.L.length u.t.cap)) (first | exact unhide MK _ hbd | exact unhide MK _ (hbd.trans (bX.mono hbd.size))) (first | (go_at_call 70; refine (unhide hz _ hbd).mono ?_; rintro e wX ⟨rfl, bX⟩))
      have hb2 := hbd.trans (bX.mono hbd.size)
      clear hbel hbd bX MK
      go_wp2
      go_roundw
      case rel => exact ⟨k + 1, by omega, by go_num, hb2⟩
      case measure => simp [intOf]; omega
    · have u1 : ¬ (k : Int) < (Ts.length : Int) := by omega
      go_wp2
      go_ret
      exact ⟨rfl, hbel⟩
end WLaw
end Go.Proofs.YtlgbdbmikmbioaaDoor

/- The walks of the laws' own eqMount .. eqSpace, over what reads the same (by genEqS.py). -/
namespace Go.Proofs.YtlgbdbmikmbioaaDoor
open Go.RowKit
namespace WLawSp
set_option maxRecDepth 100000 in
set_option maxHeartbeats 800000 in
theorem eqMount_any (x : Pl.Mn) (w : World) :
    Calls Tryd.prog 46 #[.agg #[.string x.p, .int .i64 x.i, .bool x.z], .agg #[.string x.p, .int .i64 x.i, .bool x.z]] w fun e w' => e = .returned (.bool true) ∧ Below w.heap.size w w' := by
  have b0 : ∀ o1 o2, Below w.heap.size w ((w.alloc o1).alloc o2) := fun o1 o2 => ((Below.refl _ _).alloc (Nat.le_refl _) o1).alloc (by simp) o2
  have HB := hide b0
  clear b0
  go_enter Tryd.func46, Tryd.ntmps46
  go_wp2
  go_ret
  exact ⟨rfl, unhide HB _ _⟩
set_option maxRecDepth 100000 in
set_option maxHeartbeats 800000 in
theorem eqMountS_any (a b : Option Addr) (c1 c2 : Nat) (Ts : List Pl.Mn) (w : World) (hl : Ts.length ≤ 1048576) (hv : Mem.isMounts w a Ts) (hu : Mem.isMounts w b Ts) :
    Calls Tryd.prog 24 #[.slice a Ts.length c1, .slice b Ts.length c2] w fun e w' => e = .returned (.bool true) ∧ Below w.heap.size w w' := by
  have HV := hide hv
  have HU := hide hu
  clear hv hu
  go_enter Tryd.func24, Tryd.ntmps24
  go_wp2
  go_loopw [5] (fun i wr => ∃ k : Nat, k ≤ Ts.length ∧ i = .int .i64 (k : Int) ∧ Below w.heap.size w wr) (fun i _ => Ts.length - (intOf i).toNat)
  case atStart => exact ⟨0, Nat.zero_le _, rfl, Below.refl _ _⟩
  case round =>
    obtain ⟨k, hk, rfl, hbel⟩ := hrel
    by_cases hlt : k < Ts.length
    · obtain ⟨t, ht⟩ : ∃ n, Ts[k]? = some n := ⟨_, List.getElem?_eq_getElem hlt⟩
      obtain ⟨g, o, rfl, hg, q0, q1, q2⟩ := (unhide HV) k t ht
      obtain ⟨g2, o2, rfl, hg2, p0, p1, p2⟩ := (unhide HU) k t ht
      have hz := hide (fun W => eqMount_any t W)
      have MK : Hid (∀ W', Below w.heap.size w W' → (Below w.heap.size w W' ∧ W'.cell? ⟨g, o + k * 3, none⟩ = some (.string t.p) ∧ W'.cell? ⟨g, o + k * 3 + 1, none⟩ = some (.int .i64 t.i) ∧ W'.cell? ⟨g, o + k * 3 + 2, none⟩ = some (.bool t.z) ∧ W'.cell? ⟨g2, o2 + k * 3, none⟩ = some (.string t.p) ∧ W'.cell? ⟨g2, o2 + k * 3 + 1, none⟩ = some (.int .i64 t.i) ∧ W'.cell? ⟨g2, o2 + k * 3 + 2, none⟩ = some (.bool t.z))) := fun W' hb' => ⟨hb', (hb'.cell (p := ⟨g, _, none⟩) hg).trans q0, (hb'.cell (p := ⟨g, _, none⟩) hg).trans q1, (hb'.cell (p := ⟨g, _, none⟩) hg).trans q2, (hb'.cell (p := ⟨g2, _, none⟩) hg2).trans p0, (hb'.cell (p := ⟨g2, _, none⟩) hg2).trans p1, (hb'.cell (p := ⟨g2, _, none⟩) hg2).trans p2⟩
      have u1 : (k : Int) < (Ts.length : Int) := by omega
      have u3 : (0 : Int) ≤ (k : Int) := by omega
      have hbd : Below w.heap.size w wr.drew := ⟨hbel.os, hbel.tape, hbel.output, hbel.size, hbel.block⟩
      clear q0 q1 q2 p0 p1 p2 ht
      go_wp2_with fail
      go_region_held3 (fun W' => Below w.heap.size w W' ∧ W'.cell? ⟨g, o + k * 3, none⟩ = some (.string t.p) ∧ W'.cell? ⟨g, o + k * 3 + 1, none⟩ = some (.int .i64 t.i) ∧ W'.cell? ⟨g, o + k * 3 + 2, none⟩ = some (.bool t.z) ∧ W'.cell? ⟨g2, o2 + k * 3, none⟩ = some (.string t.p) ∧ W'.cell? ⟨g2, o2 + k * 3 + 1, none⟩ = some (.int .i64 t.i) ∧ W'.cell? ⟨g2, o2 + k * 3 + 2, none⟩ = some (.bool t.z)) (first | exact unhide MK _ hbd | exact unhide MK _ (hbd.trans (bX.mono hbd.size))) (first | (go_at_call 46; refine (unhide hz _).mono ?_; rintro e wX ⟨rfl, bX⟩))
      have hb2 := hbd.trans (bX.mono hbd.size)
      clear hbel hbd bX MK
      go_wp2
      go_roundw
      case rel => exact ⟨k + 1, by omega, by go_num, hb2⟩
      case measure => simp [intOf]; omega
    · have u1 : ¬ (k : Int) < (Ts.length : Int) := by omega
      go_wp2
      go_ret
      exact ⟨rfl, hbel⟩
set_option maxRecDepth 100000 in
set_option maxHeartbeats 800000 in
theorem eqHandle_any (x : Pl.Hn) (w : World) :
    Calls Tryd.prog 47 #[.agg #[.int .i64 x.d, .int .i64 x.i, .string x.p], .agg #[.int .i64 x.d, .int .i64 x.i, .string x.p]] w fun e w' => e = .returned (.bool true) ∧ Below w.heap.size w w' := by
  have b0 : ∀ o1 o2, Below w.heap.size w ((w.alloc o1).alloc o2) := fun o1 o2 => ((Below.refl _ _).alloc (Nat.le_refl _) o1).alloc (by simp) o2
  have HB := hide b0
  clear b0
  go_enter Tryd.func47, Tryd.ntmps47
  go_wp2
  go_ret
  exact ⟨rfl, unhide HB _ _⟩
set_option maxRecDepth 100000 in
set_option maxHeartbeats 800000 in
theorem eqHandleS_any (a b : Option Addr) (c1 c2 : Nat) (Ts : List Pl.Hn) (w : World) (hl : Ts.length ≤ 1048576) (hv : Mem.isHands w a Ts) (hu : Mem.isHands w b Ts) :
    Calls Tryd.prog 25 #[.slice a Ts.length c1, .slice b Ts.length c2] w fun e w' => e = .returned (.bool true) ∧ Below w.heap.size w w' := by
  have HV := hide hv
  have HU := hide hu
  clear hv hu
  go_enter Tryd.func25, Tryd.ntmps25
  go_wp2
  go_loopw [5] (fun i wr => ∃ k : Nat, k ≤ Ts.length ∧ i = .int .i64 (k : Int) ∧ Below w.heap.size w wr) (fun i _ => Ts.length - (intOf i).toNat)
  case atStart => exact ⟨0, Nat.zero_le _, rfl, Below.refl _ _⟩
  case round =>
    obtain ⟨k, hk, rfl, hbel⟩ := hrel
    by_cases hlt : k < Ts.length
    · obtain ⟨t, ht⟩ : ∃ n, Ts[k]? = some n := ⟨_, List.getElem?_eq_getElem hlt⟩
      obtain ⟨g, o, rfl, hg, q0, q1, q2⟩ := (unhide HV) k t ht
      obtain ⟨g2, o2, rfl, hg2, p0, p1, p2⟩ := (unhide HU) k t ht
      have hz := hide (fun W => eqHandle_any t W)
      have MK : Hid (∀ W', Below w.heap.size w W' → (Below w.heap.size w W' ∧ W'.cell? ⟨g, o + k * 3, none⟩ = some (.int .i64 t.d) ∧ W'.cell? ⟨g, o + k * 3 + 1, none⟩ = some (.int .i64 t.i) ∧ W'.cell? ⟨g, o + k * 3 + 2, none⟩ = some (.string t.p) ∧ W'.cell? ⟨g2, o2 + k * 3, none⟩ = some (.int .i64 t.d) ∧ W'.cell? ⟨g2, o2 + k * 3 + 1, none⟩ = some (.int .i64 t.i) ∧ W'.cell? ⟨g2, o2 + k * 3 + 2, none⟩ = some (.string t.p))) := fun W' hb' => ⟨hb', (hb'.cell (p := ⟨g, _, none⟩) hg).trans q0, (hb'.cell (p := ⟨g, _, none⟩) hg).trans q1, (hb'.cell (p := ⟨g, _, none⟩) hg).trans q2, (hb'.cell (p := ⟨g2, _, none⟩) hg2).trans p0, (hb'.cell (p := ⟨g2, _, none⟩) hg2).trans p1, (hb'.cell (p := ⟨g2, _, none⟩) hg2).trans p2⟩
      have u1 : (k : Int) < (Ts.length : Int) := by omega
      have u3 : (0 : Int) ≤ (k : Int) := by omega
      have hbd : Below w.heap.size w wr.drew := ⟨hbel.os, hbel.tape, hbel.output, hbel.size, hbel.block⟩
      clear q0 q1 q2 p0 p1 p2 ht
      go_wp2_with fail
      go_region_held3 (fun W' => Below w.heap.size w W' ∧ W'.cell? ⟨g, o + k * 3, none⟩ = some (.int .i64 t.d) ∧ W'.cell? ⟨g, o + k * 3 + 1, none⟩ = some (.int .i64 t.i) ∧ W'.cell? ⟨g, o + k * 3 + 2, none⟩ = some (.string t.p) ∧ W'.cell? ⟨g2, o2 + k * 3, none⟩ = some (.int .i64 t.d) ∧ W'.cell? ⟨g2, o2 + k * 3 + 1, none⟩ = some (.int .i64 t.i) ∧ W'.cell? ⟨g2, o2 + k * 3 + 2, none⟩ = some (.string t.p)) (first | exact unhide MK _ hbd | exact unhide MK _ (hbd.trans (bX.mono hbd.size))) (first | (go_at_call 47; refine (unhide hz _).mono ?_; rintro e wX ⟨rfl, bX⟩))
      have hb2 := hbd.trans (bX.mono hbd.size)
      clear hbel hbd bX MK
      go_wp2
      go_roundw
      case rel => exact ⟨k + 1, by omega, by go_num, hb2⟩
      case measure => simp [intOf]; omega
    · have u1 : ¬ (k : Int) < (Ts.length : Int) := by omega
      go_wp2
      go_ret
      exact ⟨rfl, hbel⟩
set_option maxRecDepth 100000 in
set_option maxHeartbeats 800000 in
theorem eqInstance_any (d : Int) (a b : Option Addr) (c1 c2 : Nat) (Ts Us : List Pl.It) (w : World) (hl : Ts.length ≤ 1048576) (hm : Us.map Pl.It.r = Ts.map Pl.It.r) (hv : Mem.isItems w a Ts) (hu : Mem.isItems w b Us) (hok : ∀ t ∈ Ts, t.t.L.length ≤ 1048576) :
    Calls Tryd.prog 45 #[.agg #[.int .i64 d, .slice a Ts.length c1], .agg #[.int .i64 d, .slice b Ts.length c2]] w fun e w' => e = .returned (.bool true) ∧ Below w.heap.size w w' := by
  have b0 : ∀ o1 o2, Below w.heap.size w ((w.alloc o1).alloc o2) := fun o1 o2 => ((Below.refl _ _).alloc (Nat.le_refl _) o1).alloc (by simp) o2
  have HB := hide b0
  have HZ := hide (fun W (b' : Below w.heap.size w W) => WLaw.eqItemS_any a b c1 c2 Ts Us W hl hm (Mem.items_call hv b') (Mem.items_call hu b') hok)
  clear hv hu b0 hok hm
  go_enter Tryd.func45, Tryd.ntmps45
  go_wp2_with fail
  refine (unhide HZ _ (unhide HB _ _)).mono ?_
  rintro e w1 ⟨rfl, b1⟩
  have bb := (unhide HB _ _).trans (b1.mono (unhide HB _ _).size)
  clear HZ b1
  go_wp2
  go_ret
  exact ⟨rfl, bb⟩
set_option maxRecDepth 100000 in
set_option maxHeartbeats 800000 in
theorem eqInstanceS_any (a b : Option Addr) (c1 c2 : Nat) (Ts Us : List Pl.Ns) (w : World) (hl : Ts.length ≤ 1048576) (hm : Us.map Pl.Ns.r = Ts.map Pl.Ns.r) (hv : Mem.isInsts w a Ts) (hu : Mem.isInsts w b Us) (hok : ∀ x ∈ Ts, x.Is.length ≤ 1048576 ∧ ∀ t ∈ x.Is, t.t.L.length ≤ 1048576) :
    Calls Tryd.prog 23 #[.slice a Ts.length c1, .slice b Ts.length c2] w fun e w' => e = .returned (.bool true) ∧ Below w.heap.size w w' := by
  have HV := hide hv
  have HU := hide hu
  have HO := hide hok
  have HM := hide hm
  clear hv hu hok hm
  go_enter Tryd.func23, Tryd.ntmps23
  go_wp2
  go_loopw [5] (fun i wr => ∃ k : Nat, k ≤ Ts.length ∧ i = .int .i64 (k : Int) ∧ Below w.heap.size w wr) (fun i _ => Ts.length - (intOf i).toNat)
  case atStart => exact ⟨0, Nat.zero_le _, rfl, Below.refl _ _⟩
  case round =>
    obtain ⟨k, hk, rfl, hbel⟩ := hrel
    by_cases hlt : k < Ts.length
    · obtain ⟨t, ht⟩ : ∃ n, Ts[k]? = some n := ⟨_, List.getElem?_eq_getElem hlt⟩
      obtain ⟨u, hu, hum, hul⟩ : ∃ u, Us[k]? = some u ∧ u.d = t.d ∧ u.Is.map Pl.It.r = t.Is.map Pl.It.r := by
        have h := congrArg (fun l => l[k]?) (unhide HM)
        simp only [List.getElem?_map, ht, Option.map_some] at h
        cases hu : Us[k]? with
        | none => rw [hu] at h; simp at h
        | some u =>
          rw [hu] at h
          have h' := Option.some.inj h
          exact ⟨u, rfl, congrArg Prod.fst h', congrArg Prod.snd h'⟩
      have hll : u.Is.length = t.Is.length := by have h := congrArg List.length hul; simpa using h
      obtain ⟨⟨g, o, rfl, hg, q0, q0'⟩, q1⟩ := (unhide HV) k t ht
      obtain ⟨⟨g2, o2, rfl, hg2, p0, p0'⟩, p1⟩ := (unhide HU) k u hu
      rw [hum] at p0
      rw [hll] at p0'
      have hz := hide (fun W (b : Below w.heap.size w W) => eqInstance_any t.d t.a u.a t.cap u.cap t.Is u.Is W (unhide HO t (List.mem_of_getElem? ht)).1 hul (Mem.items_call q1 b) (Mem.items_call p1 b) (unhide HO t (List.mem_of_getElem? ht)).2)
      have MK : Hid (∀ W', Below w.heap.size w W' → (Below w.heap.size w W' ∧ W'.cell? ⟨g, o + k * 2, none⟩ = some (.int .i64 t.d) ∧ W'.cell? ⟨g, o + k * 2 + 1, none⟩ = some (.slice t.a t.Is.length t.cap) ∧ W'.cell? ⟨g2, o2 + k * 2, none⟩ = some (.int .i64 t.d) ∧ W'.cell? ⟨g2, o2 + k * 2 + 1, none⟩ = some (.slice u.a t.Is.length u.cap))) := fun W' hb' => ⟨hb', (hb'.cell (p := ⟨g, _, none⟩) hg).trans q0, (hb'.cell (p := ⟨g, _, none⟩) hg).trans q0', (hb'.cell (p := ⟨g2, _, none⟩) hg2).trans p0, (hb'.cell (p := ⟨g2, _, none⟩) hg2).trans p0'⟩
      have u1 : (k : Int) < (Ts.length : Int) := by omega
      have u3 : (0 : Int) ≤ (k : Int) := by omega
      have hbd : Below w.heap.size w wr.drew := ⟨hbel.os, hbel.tape, hbel.output, hbel.size, hbel.block⟩
      clear q0 p0 q0' p0' ht hu hul hum q1 p1 hll
      go_wp2_with fail
      go_region_held3 (fun W' => Below w.heap.size w W' ∧ W'.cell? ⟨g, o + k * 2, none⟩ = some (.int .i64 t.d) ∧ W'.cell? ⟨g, o + k * 2 + 1, none⟩ = some (.slice t.a t.Is.length t.cap) ∧ W'.cell? ⟨g2, o2 + k * 2, none⟩ = some (.int .i64 t.d) ∧ W'.cell? ⟨g2, o2 + k * 2 + 1, none⟩ = some (.slice u.a t.Is.length u.cap)) (first | exact unhide MK _ hbd | exact unhide MK _ (hbd.trans (bX.mono hbd.size))) (first | (go_at_call 45; refine (unhide hz _ hbd).mono ?_; rintro e wX ⟨rfl, bX⟩))
      have hb2 := hbd.trans (bX.mono hbd.size)
      clear hbel hbd bX MK
      go_wp2
      go_roundw
      case rel => exact ⟨k + 1, by omega, by go_num, hb2⟩
      case measure => simp [intOf]; omega
    · have u1 : ¬ (k : Int) < (Ts.length : Int) := by omega
      go_wp2
      go_ret
      exact ⟨rfl, hbel⟩
set_option linter.unusedSimpArgs false in
set_option maxRecDepth 100000 in
set_option maxHeartbeats 800000 in
theorem eqSpace_any (s u : Pl.Sp) (w : World) (hs : OkS s 1048576) (hn : u.N.map Pl.Ns.r = s.N.map Pl.Ns.r) (hm : u.M = s.M) (hh : u.H = s.H) (hx : u.next = s.next) (hv : Mem.isSpace w s) (hu : Mem.isSpace w u) :
    Calls Tryd.prog 9 #[.agg s.cs, .agg u.cs] w fun e w' => e = .returned (.bool true) ∧ Below w.heap.size w w' := by
  have hnl : u.N.length = s.N.length := by have h := congrArg List.length hn; simpa using h
  unfold Pl.Sp.cs
  rw [hnl, hm, hh, hx]
  have bb0 : Below w.heap.size w ((w.alloc (.cells #[.slice s.ia s.N.length s.ic, .slice s.ma s.M.length s.mc, .slice s.ha s.H.length s.hc, .int .i64 s.next] 33)).alloc (.cells #[.slice u.ia s.N.length u.ic, .slice u.ma s.M.length u.mc, .slice u.ha s.H.length u.hc, .int .i64 s.next] 33)) := ((Below.refl _ _).alloc (Nat.le_refl _) _).alloc (by simp) _
  have P0 := hide ((Mem.Blk.new w #[.slice s.ia s.N.length s.ic, .slice s.ma s.M.length s.mc, .slice s.ha s.H.length s.hc, .int .i64 s.next] 33).alloc (.cells #[.slice u.ia s.N.length u.ic, .slice u.ma s.M.length u.mc, .slice u.ha s.H.length u.hc, .int .i64 s.next] 33))
  have Q0 : Hid (Mem.Blk ((w.alloc (.cells #[.slice s.ia s.N.length s.ic, .slice s.ma s.M.length s.mc, .slice s.ha s.H.length s.hc, .int .i64 s.next] 33)).alloc (.cells #[.slice u.ia s.N.length u.ic, .slice u.ma s.M.length u.mc, .slice u.ha s.H.length u.hc, .int .i64 s.next] 33)) (w.heap.size + 1) #[.slice u.ia s.N.length u.ic, .slice u.ma s.M.length u.mc, .slice u.ha s.H.length u.hc, .int .i64 s.next] 33) := Mem.new_two _ _ _
  have h1 := hide (fun W (b : Below w.heap.size w W) => eqInstanceS_any s.ia u.ia s.ic u.ic s.N u.N W hs.n hn (Mem.insts_call hv.insts b) (Mem.insts_call hu.insts b) (fun x hx => ⟨(hs.each x hx).1, fun t ht => ((hs.each x hx).2 t ht).1⟩))
  have h2 := hide (fun W (b : Below w.heap.size w W) => eqMountS_any s.ma u.ma s.mc u.mc s.M W hs.m (Mem.mounts_call hv.mounts b) (by have := Mem.mounts_call hu.mounts b; rw [hm] at this; exact this))
  have h3 := hide (fun W (b : Below w.heap.size w W) => eqHandleS_any s.ha u.ha s.hc u.hc s.H W hs.h (Mem.hands_call hv.hands b) (by have := Mem.hands_call hu.hands b; rw [hh] at this; exact this))
  clear hv hu hs hn hm hh hx hnl
  have x0 := (unhide P0).cell 0
  have y0 := (unhide Q0).cell 0
  simp only [kA0, kA1, kA2] at x0 y0
  go_enter Tryd.func9, Tryd.ntmps9
  go_wp2_with fail
  refine (unhide h1 _ bb0).mono ?_
  rintro e w1 ⟨rfl, b1⟩
  have bb1 := bb0.trans (b1.mono bb0.size)
  have P1 := hide ((unhide P0).call b1)
  have Q1 := hide ((unhide Q0).call b1)
  clear b1
  clear x0 y0 P0 Q0 h1
  have x1 := (unhide P1).cell 1
  have y1 := (unhide Q1).cell 1
  simp only [kA0, kA1, kA2] at x1 y1
  go_wp2_with fail
  refine (unhide h2 _ bb1).mono ?_
  rintro e w2 ⟨rfl, b2⟩
  have bb2 := bb1.trans (b2.mono bb1.size)
  have P2 := hide ((unhide P1).call b2)
  have Q2 := hide ((unhide Q1).call b2)
  clear b2
  clear x1 y1 P1 Q1 h2
  have x2 := (unhide P2).cell 2
  have y2 := (unhide Q2).cell 2
  simp only [kA0, kA1, kA2] at x2 y2
  go_wp2_with fail
  refine (unhide h3 _ bb2).mono ?_
  rintro e w3 ⟨rfl, b3⟩
  have bb3 := bb2.trans (b3.mono bb2.size)
  have P3 := hide ((unhide P2).call b3)
  have Q3 := hide ((unhide Q2).call b3)
  clear b3
  clear x2 y2 P2 Q2 h3
  have x3 := (unhide P3).cell 3
  have y3 := (unhide Q3).cell 3
  simp only [kA0, kA1, kA2] at x3 y3
  go_wp2
  go_ret
  exact ⟨rfl, bb3⟩
end WLawSp
end Go.Proofs.YtlgbdbmikmbioaaDoor

