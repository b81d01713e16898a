/- Several texts of one claim in one file: WParentI, WL07, WSpI4, WSpI1. -/
import Derived.Test.YtlgbdbmikmbioaaDoorG16
import Derived.Test.YtlgbdbmikmbioaaDoorG19
import Derived.Test.YtlgbdbmikmbioaaDoorWTreeS
import Derived.Test.YtlgbdbmikmbioaaDoorG13
import Derived.Test.YtlgbdbmikmbioaaDoorWLawSz
import Derived.Test.YtlgbdbmikmbioaaDoorG15
import Derived.Test.YtlgbdbmikmbioaaDoorG14
import Derived.Deep.Cut
import Derived.Test.YtlgbdbmikmbioaaDoorG07
/- The walk of the program's PathParent. -/
namespace Go.Proofs.YtlgbdbmikmbioaaDoor
open Go.RowKit
namespace WPathI
set_option maxRecDepth 100000 in
set_option maxHeartbeats 4000000 in
theorem parent_any (s : ByteArray) (w : World) (hs : s.size ≤ 1048576) :
    Calls Tryd.prog 97 #[.string s] w fun e w' => e = .returned (.string (Pl.glue (Pl.namesR s).dropLast)) ∧ Below w.heap.size w w' := by
  have hn := hide (WNames.any s w hs)
  have hL := hide (Pl.namesR_all s)
  generalize Pl.pathB s = r at hn
  generalize Pl.namesR s = L at hn hL
  go_enter Tryd.func97, Tryd.ntmps97
  go_wp2_with fail
  refine (unhide hn).mono ?_
  rintro e w1 ⟨v, rfl, hown, hb⟩
  clear hn
  rcases Mem.texts hown with ⟨rfl, rfl⟩ | ⟨g, cap, rfl, hcap, hm, hgb, hgl, hcell⟩
  · clear hown
    go_wp2_with fail
    refine (WPathOf.any _ [] _ (by simp) (by decide) (.inl ⟨rfl, rfl⟩)).mono ?_
    rintro e w2 ⟨rfl, hb2⟩
    have hb3 := hb.trans (hb2.mono hb.size)
    clear hb hb2
    go_wp2
    go_ret
    exact ⟨rfl, hb3⟩
  · clear hown
    have hm2 := hm
    have HC := hide hcell
    clear hcell
    unfold maxLen at hm2
    by_cases h0 : L.length = 0
    · obtain rfl : L = [] := List.eq_nil_of_length_eq_zero h0
      have m0 : max (-1 : Int) 0 = 0 := by decide
      go_wp2_with fail
      refine (WPathOf.any _ [] _ (by simp) (by decide) (.inr ⟨g, 0, cap, rfl, hgl, fun j t h => by simp at h⟩)).mono ?_
      rintro e w2 ⟨rfl, hb2⟩
      have hb3 := hb.trans (hb2.mono hb.size)
      clear hb hb2
      go_wp2
      go_ret
      exact ⟨rfl, hb3⟩
    · have h1 : (0 : Int) ≤ (L.length : Int) - 1 := by omega
      have m1 : max ((L.length : Int) - 1) 0 = (L.length : Int) - 1 := by omega
      have h2 : (L.length : Int) - 1 ≤ (cap : Int) := by omega
      have E := hide (Pl.drop_last L)
      go_wp2_with fail
      try rw [show (max ((L.length : Int) - 1) 0).toNat = L.length - 1 by omega]
      refine (WPathOf.any _ (L.take (L.length - 1)) _ ?_ (Pl.glue_small (Pl.all_take (unhide hL).1 _) ?_) (Mem.take_texts hgl (unhide HC) _ (by omega))).mono ?_
      · have := (unhide hL).2; simp; omega
      · have := (unhide hL).2; simp; omega
      rintro e w2 ⟨rfl, hb2⟩
      rw [unhide E]
      have hb3 := hb.trans (hb2.mono hb.size)
      clear hb hb2
      go_wp2
      go_ret
      exact ⟨rfl, hb3⟩
end WPathI
end Go.Proofs.YtlgbdbmikmbioaaDoor

/- The specification's l07Path; what l03At tells of a tree. -/
namespace Go.Proofs.YtlgbdbmikmbioaaDoor
open Go.RowKit
namespace Pl
/-- A right path that is not the root. -/
def wayB (p : ByteArray) : Bool := decide (p.size ≠ 0) && pathB p
end Pl
namespace WPanic
theorem at_none {L : List Pl.Nd} {p : ByteArray} {r : Int} (h : WTreeS.AtIs L p r) (hr : r < 0) : L.find? (fun m => decide (m.path = p)) = none := by
  rcases h.out with ⟨k, n, h1, _, _⟩ | ⟨_, h2⟩
  · omega
  · exact h2
theorem at_some {L : List Pl.Nd} {p : ByteArray} {r : Int} (h : WTreeS.AtIs L p r) (hr : ¬ r < 0) : L.find? (fun m => decide (m.path = p)) ≠ none := by
  rcases h.out with ⟨k, n, _, _, h3⟩ | ⟨h1, _⟩
  · rw [h3]; simp
  · omega
set_option linter.unusedSimpArgs false in
set_option maxRecDepth 100000 in
theorem l07path_any (p : ByteArray) (w : World) (hp : p.size ≤ 1048576) :
    Calls Tryd.prog 32 #[.string p] w fun e w' => e = .returned (.bool (Pl.wayB p)) ∧ Below w.heap.size w w' := by
  have hr := hide (fun W => WPathS.right_one p W hp)
  by_cases hs : p.size = 0
  · have t1 : p.toList.isEmpty = true := by rw [Pl.empty_list]; simpa [Pl.by_nil] using hs
    rw [show Pl.wayB p = false by simp [Pl.wayB, hs]]
    go_enter Tryd.func32, Tryd.ntmps32
    go_wp2
    go_ret
    exact ⟨rfl, Below.refl _ _⟩
  · have t1 : p.toList.isEmpty = false := by rw [Pl.empty_list]; simpa [Pl.by_nil] using hs
    rw [show Pl.wayB p = Pl.pathB p by simp [Pl.wayB, hs]]
    go_enter Tryd.func32, Tryd.ntmps32
    go_wp2_with fail
    refine (unhide hr _).mono ?_
    rintro e w1 ⟨rfl, b1⟩
    go_wp2
    go_ret
    exact ⟨rfl, b1⟩
end WPanic
end Go.Proofs.YtlgbdbmikmbioaaDoor

/- The program's handlesRight. -/
namespace Go.Proofs.YtlgbdbmikmbioaaDoor
open Go.RowKit Go.Maps
namespace WSpI
set_option linter.unusedSimpArgs false in
set_option maxRecDepth 100000 in
set_option maxHeartbeats 4000000 in
theorem hands_any (q : Nat) (E : List (Int × Pl.Nv)) (n : Nat) (ma : Option Addr) (ml mc : Nat) (ha : Option Addr) (hc : Nat) (H : List Pl.Hn) (next : Int) (w : World) (hl : H.length ≤ 1048576) (hh : Mem.isHands w ha H) (hP : ∀ m ∈ H, m.p.size ≤ 1048576 ∧ MapI.i64 m.i)
    (hE : E.Pairwise (fun a b => a.1 ≠ b.1)) (hown : w.ownsMap Tryd.prog 2 MapI.elem q n (MapI.mapOf (Pl.vals E))) :
    Calls Tryd.prog 43 #[.agg #[.map (some q), .slice ma ml mc, .slice ha H.length hc, .int .i64 next]] w fun e w' => e = .returned (.bool (Pl.handsP (E.map (·.1)) next Pl.wayB H)) ∧ Below w.heap.size w w' := by
  have HL := hide (fun d => Pl.look_vals hE d)
  have HO := hide hown
  have HV := hide hh
  have HP := hide hP
  generalize hids : E.map (·.1) = ids at HL ⊢
  have b0 := (Below.refl w.heap.size w).alloc (o := .cells #[.map (some q), .slice ma ml mc, .slice ha H.length hc, .int .i64 next] 48) (Nat.le_refl _)
  have V0 := hide (Mem.Blk.new w #[.map (some q), .slice ma ml mc, .slice ha H.length hc, .int .i64 next] 48)
  have a2 := (unhide V0).cell 2
  simp only [kA0, kA1, kA2] at a2
  have HR1 : Hid (Pl.handsP ids next Pl.wayB H = (List.range H.length).all (Pl.handP ids next Pl.wayB H)) := rfl
  generalize Pl.handsP ids next Pl.wayB H = RB at HR1 ⊢
  clear hh hP hown hE hids
  go_enter Tryd.func43, Tryd.ntmps43
  go_wp2
  go_loopw [3, 11] (fun l i wr => ∃ k : Nat, k ≤ H.length ∧ i = .int .i64 (k : Int) ∧ l = .int .i64 (Pl.lastI (H.map (·.d)) k) ∧ Below w.heap.size w wr ∧ Hid (Mem.Blk wr w.heap.size #[.map (some q), .slice ma ml mc, .slice ha H.length hc, .int .i64 next] 48) ∧ Hid (∀ j, j < k → Pl.handP ids next Pl.wayB H j = true)) (fun _ i _ => H.length - (intOf i).toNat)
  case atStart => exact ⟨0, Nat.zero_le _, rfl, rfl, b0, V0, fun j h => absurd h (by omega)⟩
  case round =>
    obtain ⟨k, hk, rfl, rfl, hbel, V, HA⟩ := hrel
    clear V0 b0 a2
    by_cases hlt : k < H.length
    · obtain ⟨t, ht⟩ : ∃ n, H[k]? = some n := ⟨_, List.getElem?_eq_getElem hlt⟩
      obtain ⟨g, o, rfl, hg, q0, q1, q2⟩ := (unhide HV) k t ht
      have HNO : Hid (Pl.handP ids next Pl.wayB H k = false → RB = false) := hide (fun h => by rw [unhide HR1]; exact Pl.all_no hlt h)
      have HSTEP : Hid (Pl.handP ids next Pl.wayB H k = (decide (Pl.lastI (H.map (·.d)) k < t.d) && decide (t.d < next) && Pl.wayB t.p && decide (t.i ∈ ids))) := hide (by
        unfold Pl.handP Pl.riseB
        rw [ht, List.getElem?_map, ht]
        rfl)
      have HLAST : Hid (Pl.lastI (H.map (·.d)) (k + 1) = t.d) := hide (by
        show (match (H.map (·.d))[k]? with | none => 0 | some x => x) = _
        rw [List.getElem?_map, ht]
        rfl)
      generalize Pl.lastI (H.map (·.d)) k = L at HSTEP ⊢
      have u1 : (k : Int) < (H.length : Int) := by omega
      have u3 : (0 : Int) ≤ (k : Int) := by omega
      have b2 : Below wr.heap.size wr (wr.alloc (.cells #[.int .i64 t.d, .int .i64 t.i, .string t.p] 65)) := (Below.refl _ _).alloc (Nat.le_refl _) _
      have hbel2 := hbel.trans (b2.mono hbel.size)
      have c0 := (hbel.cell (p := ⟨g, _, none⟩) hg).trans q0
      have c1 := (hbel.cell (p := ⟨g, _, none⟩) hg).trans q1
      have c2 := (hbel.cell (p := ⟨g, _, none⟩) hg).trans q2
      have X2 := hide (Mem.Blk.new wr #[.int .i64 t.d, .int .i64 t.i, .string t.p] 65)
      have V2 := hide ((unhide V).call b2)
      obtain ⟨hpz, hpi⟩ := unhide HP t (List.mem_of_getElem? ht)
      have hkey := MapI.keyOf_mk hpi
      clear q0 q1 q2 b2 V hpi ht
      go_upto_region 5 with fail
      generalize wr.alloc (.cells #[.int .i64 t.d, .int .i64 t.i, .string t.p] 65) = wZ at hbel2 V2 X2 ⊢
      generalize wr.heap.size = X at X2 ⊢
      have x0 := (unhide X2).cell 0
      have x1 := (unhide X2).cell 1
      have x2 := (unhide X2).cell 2
      have w0 := (unhide V2).cell 0
      have w3 := (unhide V2).cell 3
      simp only [kA0, kA1, kA2] at x0 x1 x2 w0 w3
      have HC := hide (WPathI.right_any t.p wZ hpz)
      obtain ⟨hhas, hat⟩ := unhide HL t.i
      have HHAS := hide hhas
      have HAT := hide hat
      clear hhas hat hbel c0 c1 c2
      by_cases h1 : t.d ≤ L
      · have HE0 : Hid (RB = false) := hide (unhide HNO (by rw [unhide HSTEP, decide_eq_false (by omega : ¬ L < t.d)]; simp))
        go_wp2
        go_ret
        exact ⟨by rw [unhide HE0]; rfl, hbel2⟩
      by_cases h2 : next ≤ t.d
      · have HE0 : Hid (RB = false) := hide (unhide HNO (by rw [unhide HSTEP, decide_eq_false (by omega : ¬ t.d < next)]; simp))
        go_wp2
        go_ret
        exact ⟨by rw [unhide HE0]; rfl, hbel2⟩
      rw [decide_eq_true (by omega : L < t.d), decide_eq_true (by omega : t.d < next)] at HSTEP
      by_cases h3 : t.p = ⟨#[]⟩
      · have HE0 : Hid (RB = false) := hide (unhide HNO (by rw [unhide HSTEP, h3]; rfl))
        rw [h3] at x2
        clear h3
        go_wp2
        go_ret
        exact ⟨by rw [unhide HE0]; rfl, hbel2⟩
      have h4 : t.p.toList.isEmpty = false := by rw [Pl.empty_list]; simp; exact fun e => h3 (Pl.by_inj e)
      have h5 : (t.p.toList == []) = false := by rw [Pl.list_is]; simp; exact fun e => h3 (Pl.by_inj e)
      have HW : Hid (Pl.wayB t.p = Pl.pathB t.p) := hide (by
        have h9 : t.p.size ≠ 0 := fun e => h3 (ByteArray.ext (Array.eq_empty_of_size_eq_zero e))
        unfold Pl.wayB
        rw [decide_eq_true h9]
        rfl)
      rw [unhide HW] at HSTEP
      clear h3 HW
      go_wp2_with fail
      refine (unhide HC).mono ?_
      rintro e w6 ⟨rfl, bX⟩
      have b6 := hbel2.trans (bX.mono hbel2.size)
      have V6 := hide ((unhide V2).call bX)
      have X6 := hide ((unhide X2).call bX)
      clear HC V2 X2 hbel2 bX x0 x1 x2 w0 w3
      cases hpb : Pl.pathB t.p
      · have HE0 : Hid (RB = false) := hide (unhide HNO (by rw [unhide HSTEP, hpb]; simp))
        go_wp2
        go_ret
        exact ⟨by rw [unhide HE0]; rfl, b6⟩
      rw [hpb] at HSTEP
      have x0 := (unhide X6).cell 0
      have x1 := (unhide X6).cell 1
      have x2 := (unhide X6).cell 2
      have w0 := (unhide V6).cell 0
      have w3 := (unhide V6).cell 3
      simp only [kA0, kA1, kA2] at x0 x1 x2 w0 w3
      have HM2 := hide (MapI.map_call (unhide HO) b6)
      generalize hNV : Pl.getN E t.i = nv at HAT
      clear hNV hpb
      have b5 := b6.alloc (o := .cells #[.map nv.m, .int .i64 nv.n, .slice nv.a nv.n nv.cap] 96) b6.size
      by_cases hin : t.i ∈ ids
      case neg =>
        have HE0 : Hid (RB = false) := hide (unhide HNO (by rw [unhide HSTEP, decide_eq_false hin]; simp))
        rw [decide_eq_false hin] at HHAS
        go_wp2_with (at_lookup; refine MapI.look_ok _ rfl _ _ 46 rfl 2 96 MapI.law Tryd.underlying46 _ (Pl.zeroNv _) q n _ rfl (unhide HM2) _ _ rfl hkey _ (unhide HAT) false (unhide HHAS) ?_)
        go_wp2
        go_ret
        exact ⟨by rw [unhide HE0]; rfl, b5⟩
      rw [decide_eq_true hin] at HHAS HSTEP
      have HA2 : Hid (∀ j, j < k + 1 → Pl.handP ids next Pl.wayB H j = true) := fun j hj => by
        rcases Nat.lt_succ_iff_lt_or_eq.1 hj with h | h
        · exact unhide HA j h
        · rw [h, unhide HSTEP]; rfl
      have V5 := (unhide V6).alloc (.cells #[.map nv.m, .int .i64 nv.n, .slice nv.a nv.n nv.cap] 96)
      have X5 := (unhide X6).alloc (.cells #[.map nv.m, .int .i64 nv.n, .slice nv.a nv.n nv.cap] 96)
      go_upto_region 8 with (at_lookup; refine MapI.look_ok _ rfl _ _ 46 rfl 2 96 MapI.law Tryd.underlying46 _ (Pl.zeroNv _) q n _ rfl (unhide HM2) _ _ rfl hkey _ (unhide HAT) true (unhide HHAS) ?_)
      generalize w6.alloc (.cells #[.map nv.m, .int .i64 nv.n, .slice nv.a nv.n nv.cap] 96) = wY at b5 V5 X5 ⊢
      clear x0 x1 x2 w0 w3
      have x0 := X5.cell 0
      simp only [kA0, kA1, kA2] at x0
      have V7 := hide V5
      clear V5 X5 V6 X6 HM2 HHAS HAT HSTEP
      go_wp2
      go_roundw
      case rel => exact ⟨k + 1, by omega, by go_num, by rw [unhide HLAST], b5, V7, HA2⟩
      case measure => simp [intOf]; omega
    · have u1 : ¬ (k : Int) < (H.length : Int) := by omega
      have HE : Hid (RB = true) := hide (by rw [unhide HR1]; exact Pl.all_yes (fun j hj => unhide HA j (by omega)))
      go_wp2
      go_ret
      exact ⟨by rw [unhide HE]; rfl, hbel⟩
end WSpI
end Go.Proofs.YtlgbdbmikmbioaaDoor

/- The program's opened and held (by genSpI1.py). -/
namespace Go.Proofs.YtlgbdbmikmbioaaDoor
open Go.RowKit
namespace WSpI
set_option linter.unusedSimpArgs false in
set_option maxRecDepth 100000 in
set_option maxHeartbeats 800000 in
theorem opened_any (q : Nat) (ma : Option Addr) (mc : Nat) (M : List Pl.Mn) (ha : Option Addr) (hc : Nat) (H : List Pl.Hn) (next d : Int) (w : World) (hl : H.length ≤ 1048576) (hh : Mem.isHands w ha H) :
    Calls Tryd.prog 48 #[.agg #[.map (some q), .slice ma M.length mc, .slice ha H.length hc, .int .i64 next], .int .i64 d] w fun e w' => e = .returned (.int .i64 (Pl.cntH H d : Int)) ∧ Below w.heap.size w w' := by
  have b0 := (Below.refl w.heap.size w).alloc (o := .cells #[.map (some q), .slice ma M.length mc, .slice ha H.length hc, .int .i64 next] 48) (Nat.le_refl _)
  have V0 := hide (Mem.Blk.new w #[.map (some q), .slice ma M.length mc, .slice ha H.length hc, .int .i64 next] 48)
  have HX := hide hh
  clear hh
  have a2 := (unhide V0).cell 2
  simp only [kA0, kA1, kA2] at a2
  go_enter Tryd.func48, Tryd.ntmps48
  go_wp2
  go_loopw [5, 11] (fun n i wr => ∃ k : Nat, k ≤ H.length ∧ i = .int .i64 (k : Int) ∧ n = .int .i64 ((Pl.cntH (H.take k) d : Int)) ∧ Below w.heap.size w wr) (fun _ i _ => H.length - (intOf i).toNat)
  case atStart => exact ⟨0, Nat.zero_le _, rfl, by simp [Pl.cntH], b0⟩
  case round =>
    obtain ⟨k, hk, rfl, rfl, hbel⟩ := hrel
    clear b0
    have hle := Pl.cntH_le (H.take k) d
    have hle2 : (H.take k).length ≤ H.length := by rw [List.length_take]; omega
    by_cases hlt : k < H.length
    · obtain ⟨t, ht⟩ : ∃ n, H[k]? = some n := ⟨_, List.getElem?_eq_getElem hlt⟩
      obtain ⟨g, o, rfl, hg, q0, q1, q2⟩ := (unhide HX) k t ht
      have c0 := (hbel.cell (p := ⟨g, _, none⟩) hg).trans q0
      have c1 := (hbel.cell (p := ⟨g, _, none⟩) hg).trans q1
      have c2 := (hbel.cell (p := ⟨g, _, none⟩) hg).trans q2
      have HS := hide (Pl.cntH_step ht d)
      have u1 : (k : Int) < (H.length : Int) := by omega
      have u3 : (0 : Int) ≤ (k : Int) := by omega
      have bN := hbel.trans (((Below.refl wr.heap.size wr).alloc (o := .cells #[.int .i64 t.d, .int .i64 t.i, .string t.p] 65) (Nat.le_refl _)).mono hbel.size)
      clear q0 q1 q2 ht
      generalize hC : Pl.cntH (H.take k) d = C at HS hle ⊢
      by_cases hd : t.i = d
      · have hd1 : (t.i == d) = true := by simpa using hd
        have HS2 : Hid (Pl.cntH (H.take (k + 1)) d = C + 1) := hide (by rw [unhide HS, if_pos hd])
        clear hC HS hd
        go_wp2
        go_roundw
        case rel => exact ⟨k + 1, by omega, by go_num, by rw [unhide HS2]; go_num, bN⟩
        case measure => simp [intOf]; omega
      · have hd1 : (t.i == d) = false := by simpa using hd
        have HS2 : Hid (Pl.cntH (H.take (k + 1)) d = C) := hide (by rw [unhide HS, if_neg hd]; rfl)
        clear hC HS
        go_wp2
        go_roundw
        case rel => exact ⟨k + 1, by omega, by go_num, by rw [unhide HS2], bN⟩
        case measure => simp [intOf]; omega
    · have u1 : ¬ (k : Int) < (H.length : Int) := by omega
      have hke : k = H.length := by omega
      subst hke
      rw [List.take_length]
      go_wp2
      go_ret
      exact ⟨rfl, hbel⟩
set_option linter.unusedSimpArgs false in
set_option maxRecDepth 100000 in
set_option maxHeartbeats 800000 in
theorem held_any (q : Nat) (ma : Option Addr) (mc : Nat) (M : List Pl.Mn) (ha : Option Addr) (hc : Nat) (H : List Pl.Hn) (next d : Int) (w : World) (hml : M.length ≤ 1048576) (hl : H.length ≤ 1048576) (hm : Mem.isMounts w ma M) (hh : Mem.isHands w ha H) :
    Calls Tryd.prog 27 #[.agg #[.map (some q), .slice ma M.length mc, .slice ha H.length hc, .int .i64 next], .int .i64 d] w fun e w' => e = .returned (.int .i64 (Pl.held M H d)) ∧ Below w.heap.size w w' := by
  have b0 := (Below.refl w.heap.size w).alloc (o := .cells #[.map (some q), .slice ma M.length mc, .slice ha H.length hc, .int .i64 next] 48) (Nat.le_refl _)
  have V0 := hide (Mem.Blk.new w #[.map (some q), .slice ma M.length mc, .slice ha H.length hc, .int .i64 next] 48)
  have HX := hide hm
  clear hm
  have hop := hide (fun W (b : Below w.heap.size w W) => opened_any q ma mc M ha hc H next d W hl (Mem.hands_call hh b))
  have a0 := (unhide V0).cell 0
  have a1 := (unhide V0).cell 1
  have a2 := (unhide V0).cell 2
  have a3 := (unhide V0).cell 3
  simp only [kA0, kA1, kA2] at a0 a1 a2 a3
  have hHL := Pl.cntH_le H d
  clear hh
  go_enter Tryd.func27, Tryd.ntmps27
  go_wp2_with fail
  refine (unhide hop _ b0).mono ?_
  rintro e w1 ⟨rfl, bX⟩
  have V1 := hide ((unhide V0).call bX)
  have b1 := b0.trans (bX.mono b0.size)
  clear a0 a1 a2 a3 V0 b0 bX hop
  have a1 := (unhide V1).cell 1
  simp only [kA0, kA1, kA2] at a1
  have b0 := b1
  clear b1
  go_wp2
  go_loopw [5, 14] (fun n i wr => ∃ k : Nat, k ≤ M.length ∧ i = .int .i64 (k : Int) ∧ n = .int .i64 ((Pl.cntH H d : Int) + (Pl.cntM (M.take k) d : Int)) ∧ Below w.heap.size w wr) (fun _ i _ => M.length - (intOf i).toNat)
  case atStart => exact ⟨0, Nat.zero_le _, rfl, by simp [Pl.cntM], b0⟩
  case round =>
    obtain ⟨k, hk, rfl, rfl, hbel⟩ := hrel
    clear b0
    have hle := Pl.cntM_le (M.take k) d
    have hle2 : (M.take k).length ≤ M.length := by rw [List.length_take]; omega
    by_cases hlt : k < M.length
    · obtain ⟨t, ht⟩ : ∃ n, M[k]? = some n := ⟨_, List.getElem?_eq_getElem hlt⟩
      obtain ⟨g, o, rfl, hg, q0, q1, q2⟩ := (unhide HX) k t ht
      have c0 := (hbel.cell (p := ⟨g, _, none⟩) hg).trans q0
      have c1 := (hbel.cell (p := ⟨g, _, none⟩) hg).trans q1
      have c2 := (hbel.cell (p := ⟨g, _, none⟩) hg).trans q2
      have HS := hide (Pl.cntM_step ht d)
      have u1 : (k : Int) < (M.length : Int) := by omega
      have u3 : (0 : Int) ≤ (k : Int) := by omega
      have bN := hbel.trans (((Below.refl wr.heap.size wr).alloc (o := .cells #[.string t.p, .int .i64 t.i, .bool t.z] 68) (Nat.le_refl _)).mono hbel.size)
      clear q0 q1 q2 ht
      generalize hC : Pl.cntM (M.take k) d = C at HS hle ⊢
      by_cases hd : t.i = d
      · have hd1 : (t.i == d) = true := by simpa using hd
        have HS2 : Hid (Pl.cntM (M.take (k + 1)) d = C + 1) := hide (by rw [unhide HS, if_pos hd])
        clear hC HS hd
        go_wp2
        go_roundw
        case rel => exact ⟨k + 1, by omega, by go_num, by rw [unhide HS2]; go_num, bN⟩
        case measure => simp [intOf]; omega
      · have hd1 : (t.i == d) = false := by simpa using hd
        have HS2 : Hid (Pl.cntM (M.take (k + 1)) d = C) := hide (by rw [unhide HS, if_neg hd]; rfl)
        clear hC HS
        go_wp2
        go_roundw
        case rel => exact ⟨k + 1, by omega, by go_num, by rw [unhide HS2], bN⟩
        case measure => simp [intOf]; omega
    · have u1 : ¬ (k : Int) < (M.length : Int) := by omega
      have hke : k = M.length := by omega
      subst hke
      rw [List.take_length]
      go_wp2
      go_ret
      exact ⟨congrArg (fun x => Ending.returned (Value.int .i64 x)) (Int.add_comm (Pl.cntH H d : Int) (Pl.cntM M d : Int)), hbel⟩
end WSpI
end Go.Proofs.YtlgbdbmikmbioaaDoor

