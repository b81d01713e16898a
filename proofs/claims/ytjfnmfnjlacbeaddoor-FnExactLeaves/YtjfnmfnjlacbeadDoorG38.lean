/- Several texts of one claim in one file: WNestK, WNestE, WFaceE. -/
import Derived.Test.YtjfnmfnjlacbeadDoorWNestS
import Derived.Test.YtjfnmfnjlacbeadDoorPlainNum
import Derived.Test.YtjfnmfnjlacbeadDoorWNestF
import Derived.Test.YtjfnmfnjlacbeadDoorG27
/- The walk of the specification's Leaves. -/
namespace Go.Proofs.YtjfnmfnjlacbeadDoor
open Go.RowKit
namespace WNestS
theorem zeros_take {Is : List Pl.It} {k : Nat} {x : Pl.It} (hx : Is[k]? = some x) : Pl.zeros ((Pl.rowO (Is.map Pl.It.r)).take (k + 1)) = Pl.zeros ((Pl.rowO (Is.map Pl.It.r)).take k) + (if Pl.itemO x.r = some 0 then 1 else 0) := by
  have h : (Pl.rowO (Is.map Pl.It.r))[k]? = some (Pl.itemO x.r) := by rw [Pl.rowO, List.getElem?_map, List.getElem?_map, hx]; rfl
  rw [List.take_add_one, h]
  unfold Pl.zeros
  rw [List.countP_append]
  simp [List.countP_cons]
/-- All items of a right nest may be. -/
theorem all_some {L : Pl.Row} {k : Pl.Fo} (h : Pl.nest L = some k) (i : Nat) (o : Option Nat) (hi : L[i]? = some o) : ∃ m, o = some m := by
  cases o with
  | some m => exact ⟨m, rfl⟩
  | none => exact absurd hi (Pl.nest_nonone h i)
set_option linter.unusedSimpArgs false in
set_option maxRecDepth 100000 in
set_option maxHeartbeats 1000000 in
theorem leaves_any (a : Option Addr) (cap : Nat) (Is : List Pl.It) (w : World) (hl : Is.length ≤ 1048576) (hv : Mem.isItems w a Is) (hok : ∀ x ∈ Is, x.t.L.length ≤ 1048576 ∧ ∀ n ∈ x.t.L, n.path.size ≤ 1048576 ∧ n.data.size ≤ 1048576) :
    Calls Tryd.prog 15 #[.slice a Is.length cap] w fun e w' => e = .returned (.int .i64 (Pl.leavesO (Pl.nest (Pl.rowO (Is.map Pl.It.r))))) ∧ Below w.heap.size w w' := by
  have hrl : (Pl.rowO (Is.map Pl.It.r)).length = Is.length := by rw [Pl.rowO_len, List.length_map]
  by_cases h400 : 400 < Is.length
  · have t0 : (400 : Int) < (Is.length : Int) := by omega
    rw [Pl.nest_long _ (by omega)]
    clear hv hok
    go_enter Tryd.func15, Tryd.ntmps15
    go_wp2
    go_ret
    exact ⟨rfl, Below.refl _ _⟩
  have t0 : ¬ (400 : Int) < (Is.length : Int) := by omega
  have hz := hide (right_any a cap Is w hl hv hok)
  cases hN : Pl.nest (Pl.rowO (Is.map Pl.It.r)) with
  | none =>
    rw [hN] at hz
    clear hv hok hN hrl
    go_enter Tryd.func15, Tryd.ntmps15
    go_wp2_with fail
    refine (unhide hz).mono ?_
    rintro e w1 ⟨rfl, b1⟩
    clear hz
    go_wp2
    go_ret
    exact ⟨rfl, b1⟩
  | some k =>
    rw [hN] at hz
    have h12 := (Pl.nest_yes hN).1
    have hlv : Pl.zeros ((Pl.rowO (Is.map Pl.It.r)).take Is.length) = k.leaves := by rw [← hrl, List.take_length]; exact (Pl.nest_leaves hN).symm
    have HST : Hid (∀ (j : Nat) x, Is[j]? = some x → (x.m = 0 ↔ Pl.itemO x.r = some 0) ∧ Pl.zeros ((Pl.rowO (Is.map Pl.It.r)).take (j + 1)) = Pl.zeros ((Pl.rowO (Is.map Pl.It.r)).take j) + (if Pl.itemO x.r = some 0 then 1 else 0)) := hide (fun j x hx => ⟨by
      have h : (Pl.rowO (Is.map Pl.It.r))[j]? = some (Pl.itemO x.r) := by rw [Pl.rowO, List.getElem?_map, List.getElem?_map, hx]; rfl
      obtain ⟨m, hm⟩ := all_some hN j _ h
      have hm1 : x.m = (m : Int) := (Pl.itemO_some hm).1
      rw [hm, hm1]
      constructor
      · intro h; rw [show m = 0 by omega]
      · intro h; cases h; rfl, zeros_take hx⟩)
    have HLV := hide hlv
    have HZL : Hid (∀ j, j ≤ Is.length → Pl.zeros ((Pl.rowO (Is.map Pl.It.r)).take j) ≤ j) := hide (fun j hj => by
      have := Pl.zeros_le ((Pl.rowO (Is.map Pl.It.r)).take j)
      rw [List.length_take] at this; omega)
    generalize Pl.rowO (Is.map Pl.It.r) = LL at HST HLV HZL hN h12 hrl
    simp only [Pl.leavesO]
    have HV := hide hv
    clear hv hok hN hlv
    go_enter Tryd.func15, Tryd.ntmps15
    go_wp2_with fail
    refine (unhide hz).mono ?_
    rintro e w1 ⟨rfl, b1⟩
    clear hz
    go_wp2
    go_loopw [3, 4] (fun c i wr => ∃ j : Nat, i = .int .i64 (j : Int) ∧ j ≤ Is.length ∧ c = .int .i64 ((Pl.zeros (LL.take j) : Nat) : Int) ∧ wr = w1) (fun _ i _ => Is.length - (intOf i).toNat)
    case atStart => exact ⟨0, rfl, Nat.zero_le _, by simp [Pl.zeros], rfl⟩
    case round =>
      obtain ⟨j, rfl, hj, rfl, rfl⟩ := hrel
      have u3 : (0 : Int) ≤ (j : Int) := by omega
      have hzl := unhide HZL j hj
      by_cases hlt : j < Is.length
      · have u4 : (j : Int) < (Is.length : Int) := by omega
        obtain ⟨x, hx⟩ : ∃ x, Is[j]? = some x := ⟨_, List.getElem?_eq_getElem hlt⟩
        obtain ⟨hiff, hstep⟩ := unhide HST j x hx
        obtain ⟨⟨b, o, rfl, hb, q0, -⟩, -⟩ := unhide HV j x hx
        have c0 := (b1.cell (p := ⟨b, _, none⟩) hb).trans q0
        generalize Pl.zeros (LL.take j) = z at hzl hstep ⊢
        clear q0 hx HST HV HLV HZL
        by_cases hm : x.m = 0
        · rw [if_pos (hiff.1 hm)] at hstep
          rw [hm] at c0
          have HS := hide hstep
          clear hstep hiff
          go_wp2
          go_roundw
          case rel => exact ⟨j + 1, by go_num, by omega, by rw [unhide HS]; go_num, trivial⟩
          case measure => simp [intOf]; omega
        · rw [if_neg (fun h => hm (hiff.2 h))] at hstep
          have HS := hide hstep
          clear hstep hiff
          go_wp2
          go_roundw
          case rel => exact ⟨j + 1, by go_num, by omega, by rw [unhide HS]; rfl, trivial⟩
          case measure => simp [intOf]; omega
      · have u4 : ¬ (j : Int) < (Is.length : Int) := by omega
        have hjl : j = Is.length := by omega
        subst hjl
        have hfin := unhide HLV
        rw [hfin]
        clear hfin HST HV HLV HZL
        go_wp2
        go_ret
        exact ⟨rfl, b1⟩
end WNestS
end Go.Proofs.YtjfnmfnjlacbeadDoor

/- The walks of leaves of a nest. -/
namespace Go.Proofs.YtjfnmfnjlacbeadDoor
open Go.RowKit
namespace WNestI
set_option linter.unusedSimpArgs false in
set_option maxRecDepth 100000 in
set_option maxHeartbeats 1000000 in
theorem leaves_any (N : Nat → Prop) (n : Nat) (hn : n ≤ 1000) : ∀ (k : Pl.Fo) (q : Option Nat) (m : Int) (v : Value) (w : World), k.sz ≤ n → Mem.lay w N k v →
    Calls Tryd.prog 28 #[.agg #[.map q, .int .i64 m, v]] w fun e w' => e = .returned (.int .i64 (k.leaves : Int)) ∧ Below w.heap.size w w' := by
  have base : ∀ (q : Option Nat) (m : Int) (a : Option Addr) (cap : Nat) (w : World), Calls Tryd.prog 28 #[.agg #[.map q, .int .i64 m, .slice a 0 cap]] w fun e w' => e = .returned (.int .i64 1) ∧ Below w.heap.size w w' := by
    intro q m a cap w
    have b0 : Below w.heap.size w (w.alloc (.cells #[.map q, .int .i64 m, .slice a 0 cap] 49)) := (Below.refl _ _).alloc (Nat.le_refl _) _
    have hlf := hide (leaf_any .nil q m a cap)
    simp only [Pl.Fo.len] at hlf
    go_enter Tryd.func28, Tryd.ntmps28
    go_wp2_with fail
    refine (unhide hlf _).mono ?_
    rintro e w1 ⟨rfl, b1⟩
    have bb := b0.trans (b1.mono b0.size)
    clear b0 b1 hlf
    go_wp2
    go_ret
    exact ⟨rfl, bb⟩
  induction n with
  | zero =>
    intro k q m v w hs hl
    obtain ⟨a, cap, rfl, -⟩ := hl
    cases k with
    | nil => exact base q m a cap w
    | cons a b => simp [Pl.Fo.sz] at hs
  | succ n ih =>
    intro k q m v w hs hl
    obtain ⟨a, cap, rfl, hrow⟩ := hl
    cases k with
    | nil => exact base q m a cap w
    | cons k0 m0 =>
      rcases hrow with h | ⟨g, rfl, hrow⟩
      · cases h
      have hpos := Pl.leaves_pos k0 m0
      have hlen : 0 < (Pl.Fo.cons k0 m0).len := by simp [Pl.Fo.len]
      generalize hK : Pl.Fo.cons k0 m0 = K at *
      have hKl := K.len_le
      have hKd := K.leaves1_le
      have hKK : K.leaves = K.leaves1 := by unfold Pl.Fo.leaves; omega
      rw [hKK]
      have b0 : Below w.heap.size w (w.alloc (.cells #[.map q, .int .i64 m, .slice (some ⟨g, 0, none⟩) K.len cap] 49)) := (Below.refl _ _).alloc (Nat.le_refl _) _
      have A0 := Mem.Blk.new w #[.map q, .int .i64 m, .slice (some ⟨g, 0, none⟩) K.len cap] 49
      have HI := hide (ih (by omega))
      have HRW := hide (row_below hrow b0)
      have hlf := hide (leaf_any K q m (some ⟨g, 0, none⟩) cap)
      rw [show decide (K.len = 0) = false from decide_eq_false (by omega)] at hlf
      clear hK ih hrow base hKK
      go_enter Tryd.func28, Tryd.ntmps28
      go_wp2_with fail
      generalize w.alloc (.cells #[.map q, .int .i64 m, .slice (some ⟨g, 0, none⟩) K.len cap] 49) = w2 at b0 A0 HRW ⊢
      refine (unhide hlf _).mono ?_
      rintro e w1 ⟨rfl, b1⟩
      have bb := b0.trans (b1.mono b0.size)
      have c02 := (A0.call b1).cell 2
      simp only [kA0, kA1, kA2] at c02
      have R0 : Hid (Mem.rowF w1 N K g (0 * 3)) := hide (by simpa using row_below (unhide HRW) b1)
      clear b0 b1 hlf A0 HRW
      go_wp2
      go_loopw [3, 11] (fun d i wr => ∃ (j dd : Nat) (F : Pl.Fo), d = .int .i64 (dd : Int) ∧ i = .int .i64 (j : Int) ∧ j + F.len = K.len ∧ dd + F.leaves1 = K.leaves1 ∧ F.sz ≤ n + 1 ∧ Below w.heap.size w wr ∧ Hid (Mem.rowF wr N F g (j * 3))) (fun _ i _ => K.len - (intOf i).toNat)
      case atStart => exact ⟨0, 0, K, rfl, rfl, by omega, by omega, hs, bb, R0⟩
      case round =>
        obtain ⟨j, dd, F, rfl, rfl, hj, hmax, hsz, hbel, HR⟩ := hrel
        clear R0 bb c02
        cases F with
        | nil =>
          simp only [Pl.Fo.len, Pl.Fo.leaves1] at hj hmax
          have u1 : ¬ (j : Int) < (K.len : Int) := by omega
          have hdd : dd = K.leaves1 := by omega
          subst hdd
          go_wp2
          go_ret
          exact ⟨rfl, hbel⟩
        | cons k1 m1 =>
          simp only [Pl.Fo.len, Pl.Fo.leaves1, Pl.Fo.sz] at hj hmax hsz
          obtain ⟨⟨x, y, a1, cap1, c0, c1, c2, hg, hN, ⟨q1, rfl⟩, ⟨r1, rfl⟩, hsub⟩, hrest⟩ := unhide HR
          have u1 : (j : Int) < (K.len : Int) := by omega
          have u3 : (0 : Int) ≤ (j : Int) := by omega
          have bA : Below wr.heap.size wr (wr.alloc (.cells #[.map q1, .int .i64 r1, .slice a1 k1.len cap1] 49)) := (Below.refl _ _).alloc (Nat.le_refl _) _
          have HL : Mem.lay wr N k1 (.slice a1 k1.len cap1) := ⟨a1, cap1, rfl, hsub⟩
          have hcall := hide (unhide HI k1 q1 r1 _ _ (by omega) (Mem.lay_call HL bA))
          have HRR := hide (row_below hrest bA)
          have bw := hbel.trans (bA.mono hbel.size)
          have hk1 : k1.leaves = max 1 k1.leaves1 := rfl
          clear hsub hrest HL HR
          go_wp2_with fail
          refine (unhide hcall).mono ?_
          rintro e wX ⟨rfl, bX⟩
          have bw2 := bw.trans (bX.mono bw.size)
          have HR2 := hide (row_below (unhide HRR) bX)
          rw [show j * 3 + 3 = (j + 1) * 3 by omega] at HR2
          rw [← hk1] at hmax
          clear hcall HRR bX bw hbel c0 c1 c2 bA hk1
          go_wp2
          go_roundw
          case rel => exact ⟨j + 1, dd + k1.leaves, m1, by go_num, by go_num, by omega, by omega, by omega, bw2, HR2⟩
          case measure => simp [intOf]; omega
end WNestI
end Go.Proofs.YtjfnmfnjlacbeadDoor

/- The walk of the program's Leaves. -/
namespace Go.Proofs.YtjfnmfnjlacbeadDoor
open Go.RowKit
namespace WNestI
set_option maxRecDepth 100000 in
theorem leaves_face (a : Option Addr) (cap : Nat) (Is : List Pl.It) (w : World) (hl : Is.length ≤ 1048576) (hcap : Is.length ≤ cap) (hv : Mem.isItems w a Is) (hok : ∀ x ∈ Is, x.t.L.length ≤ 1048576 ∧ ∀ n ∈ x.t.L, n.path.size ≤ 1048576 ∧ n.data.size ≤ 1048576)
    (r0 r1 r2 r3 : TypeId) (x0 x1 x2 x3 : Value) (hE : Errs4 w r0 r1 r2 r3 x0 x1 x2 x3) :
    Calls Tryd.prog 16 #[.slice a Is.length cap] w fun e w' => e = .returned (.int .i64 (Pl.leavesO (Pl.nest (Pl.rowO (Is.map Pl.It.r))))) ∧ Below w.heap.size w w' := by
  have hz := hide (nest_any a cap Is w hl hcap hv hok _ _ _ _ _ _ _ _ hE)
  have hsz : ∀ k, Pl.nest (Pl.rowO (Is.map Pl.It.r)) = some k → k.sz ≤ 12 := fun k h => Pl.nest_sz h
  have HZ := hide hsz
  clear hv hok hE hsz
  generalize Pl.nest (Pl.rowO (Is.map Pl.It.r)) = NN at hz HZ ⊢
  go_enter Tryd.func16, Tryd.ntmps16
  go_wp2_with fail
  refine (unhide hz).mono ?_
  rintro e w1 ⟨h1, b1⟩
  clear hz
  rcases h1 with ⟨k, q, m, va, vcap, rfl, rfl, hlay⟩ | ⟨rfl, r, x, rfl⟩
  · have bA : Below w1.heap.size w1 (w1.alloc (.cells #[.map q, .int .i64 m, .slice va k.len vcap] 49)) := (Below.refl _ _).alloc (Nat.le_refl _) _
    have bw := b1.trans (bA.mono b1.size)
    have hcall := hide (leaves_any _ 1000 (Nat.le_refl _) k q m _ _ (by have := unhide HZ k rfl; omega) (Mem.lay_call hlay bA))
    clear HZ hlay bA b1
    go_wp2_with fail
    refine (unhide hcall).mono ?_
    rintro e w2 ⟨rfl, b2⟩
    have bb := bw.trans (b2.mono bw.size)
    clear hcall b2 bw
    go_wp2
    go_ret
    exact ⟨rfl, bb⟩
  · go_wp2
    go_ret
    exact ⟨rfl, b1.alloc b1.size _⟩
end WNestI
end Go.Proofs.YtjfnmfnjlacbeadDoor

