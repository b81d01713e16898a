/- Several texts of one claim in one file: WNestH, WNestL, WFaceL. -/
import Derived.Test.YtjfnmfnjlacbeadDoorWNestS
import Derived.Test.YtjfnmfnjlacbeadDoorPlainNum
import Derived.Test.YtjfnmfnjlacbeadDoorWNestF
import Derived.Test.YtjfnmfnjlacbeadDoorG27
/- The walks of the specification's l05First, FirstLeaf and LevelOf. -/
namespace Go.Proofs.YtjfnmfnjlacbeadDoor
open Go.RowKit
namespace WNestS
theorem many_at {Is : List Pl.It} {j m : Nat} (h : (Pl.rowO (Is.map Pl.It.r))[j]? = some (some m)) : ∃ x, Is[j]? = some x ∧ x.m = (m : Int) := by
  rw [Pl.rowO, List.getElem?_map, List.getElem?_map] at h
  cases hx : Is[j]? with
  | none => rw [hx] at h; simp at h
  | some x =>
    rw [hx] at h
    simp at h
    exact ⟨x, rfl, (Pl.itemO_some h).1⟩
set_option linter.unusedSimpArgs false in
set_option maxRecDepth 100000 in
set_option maxHeartbeats 1000000 in
theorem first_any (a : Option Addr) (cap : Nat) (Is : List Pl.It) (hl : Is.length ≤ 12) (w : World) (hv : Mem.isItems w a Is) (k : Pl.Fo) (hN : Pl.nest (Pl.rowO (Is.map Pl.It.r)) = some k) :
    Calls Tryd.prog 29 #[.slice a Is.length cap] w fun e w' => e = .returned (.int .i64 (k.level : Int)) ∧ w' = w := by
  obtain ⟨hA, hB⟩ := Pl.nest_level hN
  have HA := hide hA
  obtain ⟨x, hx, hxm⟩ := many_at hB
  have hkl : k.level < Is.length := (List.getElem?_eq_some_iff.1 hx).1
  obtain ⟨⟨b, o, rfl, hb, q0, -⟩, -⟩ := hv _ x hx
  rw [hxm] at q0
  have HQ := hide q0
  have HV := hide hv
  clear hA hB hN hv q0 hx hxm
  go_enter Tryd.func29, Tryd.ntmps29
  go_wp2
  go_loopw [3] (fun i wr => ∃ j : Nat, i = .int .i64 (j : Int) ∧ j ≤ k.level ∧ wr = w) (fun i _ => k.level - (intOf i).toNat)
  case atStart => exact ⟨0, rfl, Nat.zero_le _, rfl⟩
  case round =>
    obtain ⟨j, rfl, hj, rfl⟩ := hrel
    have u3 : (0 : Int) ≤ (j : Int) := by omega
    have u4 : (j : Int) < (Is.length : Int) := by omega
    by_cases hlt : j < k.level
    · obtain ⟨m, hm⟩ := unhide HA j hlt
      obtain ⟨y, hy, hym⟩ := many_at hm
      obtain ⟨⟨b2, o2, e2, hb2, c0, -⟩, -⟩ := unhide HV j y hy
      cases e2
      rw [hym] at c0
      have u5 : (0 : Int) < ((m + 1 : Nat) : Int) := by omega
      clear hm hy hym HA HV HQ
      go_wp2
      go_roundw
      case rel => exact ⟨j + 1, by go_num, by omega, trivial⟩
      case measure => simp [intOf]; omega
    · have hjl : j = k.level := by omega
      subst hjl
      have c0 := unhide HQ
      clear HA HV HQ
      go_wp2
      go_ret
      exact ⟨rfl, rfl⟩
set_option maxRecDepth 100000 in
theorem firstLeaf_any (a : Option Addr) (cap : Nat) (Is : List Pl.It) (w : World) (hl : Is.length ≤ 1048576) (hv : Mem.isItems w a Is) (hok : ∀ x ∈ Is, x.t.L.length ≤ 1048576 ∧ ∀ n ∈ x.t.L, n.path.size ≤ 1048576 ∧ n.data.size ≤ 1048576) :
    Calls Tryd.prog 17 #[.slice a Is.length cap] w fun e w' => e = .returned (.int .i64 (Pl.levelO (Pl.nest (Pl.rowO (Is.map Pl.It.r))))) ∧ Below w.heap.size w w' := by
  have hrl : (Pl.rowO (Is.map Pl.It.r)).length = Is.length := by rw [Pl.rowO_len, List.length_map]
  by_cases h400 : 400 < Is.length
  · have t0 : (400 : Int) < (Is.length : Int) := by omega
    rw [Pl.nest_long _ (by omega)]
    clear hv hok
    go_enter Tryd.func17, Tryd.ntmps17
    go_wp2
    go_ret
    exact ⟨rfl, Below.refl _ _⟩
  have t0 : ¬ (400 : Int) < (Is.length : Int) := by omega
  have hz := hide (right_any a cap Is w hl hv hok)
  cases hN : Pl.nest (Pl.rowO (Is.map Pl.It.r)) with
  | none =>
    rw [hN] at hz
    clear hv hok hN hrl
    go_enter Tryd.func17, Tryd.ntmps17
    go_wp2_with fail
    refine (unhide hz).mono ?_
    rintro e w1 ⟨rfl, b1⟩
    clear hz
    go_wp2
    go_ret
    exact ⟨rfl, b1⟩
  | some k =>
    rw [hN] at hz
    obtain ⟨h12, ht, -⟩ := Pl.nest_yes hN
    have hd := hide (fun W (b : Below w.heap.size w W) => first_any a cap Is (by omega) W (Mem.items_call hv b) k hN)
    simp only [Pl.levelO]
    clear hv hok hN hrl ht
    go_enter Tryd.func17, Tryd.ntmps17
    go_wp2_with fail
    refine (unhide hz).mono ?_
    rintro e w1 ⟨rfl, b1⟩
    clear hz
    go_wp2_with fail
    refine (unhide hd _ b1).mono ?_
    rintro e w2 ⟨rfl, rfl⟩
    clear hd
    go_wp2
    go_ret
    exact ⟨rfl, b1⟩
end WNestS
end Go.Proofs.YtjfnmfnjlacbeadDoor

/- The walks of level of a nest. -/
namespace Go.Proofs.YtjfnmfnjlacbeadDoor
open Go.RowKit
namespace WNestI
set_option linter.unusedSimpArgs false in
set_option maxRecDepth 100000 in
set_option maxHeartbeats 1000000 in
theorem level_any (N : Nat → Prop) (n : Nat) (hn : n ≤ 1000) : ∀ (k : Pl.Fo) (q : Option Nat) (m : Int) (v : Value) (w : World), k.sz ≤ n → Mem.lay w N k v →
    Calls Tryd.prog 30 #[.agg #[.map q, .int .i64 m, v]] w fun e w' => e = .returned (.int .i64 (k.level : Int)) ∧ Below w.heap.size w w' := by
  have base : ∀ (q : Option Nat) (m : Int) (a : Option Addr) (cap : Nat) (w : World), Calls Tryd.prog 30 #[.agg #[.map q, .int .i64 m, .slice a 0 cap]] w fun e w' => e = .returned (.int .i64 0) ∧ Below w.heap.size w w' := by
    intro q m a cap w
    have b0 : Below w.heap.size w (w.alloc (.cells #[.map q, .int .i64 m, .slice a 0 cap] 49)) := (Below.refl _ _).alloc (Nat.le_refl _) _
    have hlf := hide (leaf_any .nil q m a cap)
    simp only [Pl.Fo.len] at hlf
    go_enter Tryd.func30, Tryd.ntmps30
    go_wp2_with fail
    refine (unhide hlf _).mono ?_
    rintro e w1 ⟨rfl, b1⟩
    have bb := b0.trans (b1.mono b0.size)
    clear b0 b1 hlf
    go_wp2
    go_ret
    exact ⟨rfl, bb⟩
  induction n with
  | zero =>
    intro k q m v w hs hl
    obtain ⟨a, cap, rfl, -⟩ := hl
    cases k with
    | nil => exact base q m a cap w
    | cons a b => simp [Pl.Fo.sz] at hs
  | succ n ih =>
    intro k q m v w hs hl
    obtain ⟨a, cap, rfl, hrow⟩ := hl
    cases k with
    | nil => exact base q m a cap w
    | cons k0 m0 =>
      rcases hrow with h | ⟨g, rfl, hrow⟩
      · cases h
      obtain ⟨⟨x, y, a1, cap1, c0, c1, c2, hg, hN, ⟨q1, rfl⟩, ⟨r1, rfl⟩, hsub⟩, -⟩ := hrow
      have hlen : (Pl.Fo.cons k0 m0).len = m0.len + 1 := rfl
      have hlv : (Pl.Fo.cons k0 m0).level = 1 + k0.level := rfl
      have hkd := Pl.level_le k0
      have hkz := k0.depth_le
      simp only [Pl.Fo.sz] at hs
      have t1 : (0 : Int) < ((m0.len + 1 : Nat) : Int) := by omega
      have HL : Mem.lay w N k0 (.slice a1 k0.len cap1) := ⟨a1, cap1, rfl, hsub⟩
      have b0 : Below w.heap.size w (w.alloc (.cells #[.map q, .int .i64 m, .slice (some ⟨g, 0, none⟩) (m0.len + 1) cap] 49)) := (Below.refl _ _).alloc (Nat.le_refl _) _
      have A0 := Mem.Blk.new w #[.map q, .int .i64 m, .slice (some ⟨g, 0, none⟩) (m0.len + 1) cap] 49
      have hlf := hide (leaf_any (.cons k0 m0) q m (some ⟨g, 0, none⟩) cap)
      rw [show decide ((Pl.Fo.cons k0 m0).len = 0) = false from decide_eq_false (by omega)] at hlf
      rw [hlen] at hlf ⊢
      rw [hlv]
      have HI := hide (fun W (b : Below w.heap.size w W) => ih (by omega) k0 q1 r1 _ W (by omega) (Mem.lay_call HL b))
      have HC : Hid (∀ W, Below w.heap.size w W → W.cell? ⟨g, 0, none⟩ = some (.map q1) ∧ W.cell? ⟨g, 1, none⟩ = some (.int .i64 r1) ∧ W.cell? ⟨g, 2, none⟩ = some (.slice a1 k0.len cap1)) := fun W b => ⟨(b.cell (p := ⟨g, _, none⟩) hg).trans c0, (b.cell (p := ⟨g, _, none⟩) hg).trans c1, (b.cell (p := ⟨g, _, none⟩) hg).trans c2⟩
      clear ih base hsub HL c0 c1 c2 hlen hlv
      go_enter Tryd.func30, Tryd.ntmps30
      go_wp2_with fail
      generalize w.alloc (.cells #[.map q, .int .i64 m, .slice (some ⟨g, 0, none⟩) (m0.len + 1) cap] 49) = w2 at b0 A0 ⊢
      refine (unhide hlf _).mono ?_
      rintro e w1 ⟨rfl, b1⟩
      have bb := b0.trans (b1.mono b0.size)
      have c02 := (A0.call b1).cell 2
      simp only [kA0, kA1, kA2] at c02
      obtain ⟨d0, d1, d2⟩ := unhide HC w1 bb
      have hcall := hide (unhide HI w1 bb)
      clear b0 b1 hlf A0 HI HC
      go_wp2_with fail
      refine (unhide hcall).mono ?_
      rintro e wX ⟨rfl, bX⟩
      have bw2 := bb.trans (bX.mono bb.size)
      clear bb bX hcall d0 d1 d2 c02
      go_wp2
      go_ret
      exact ⟨by simp, bw2⟩
end WNestI
end Go.Proofs.YtjfnmfnjlacbeadDoor

/- The walk of the program's LevelOf. -/
namespace Go.Proofs.YtjfnmfnjlacbeadDoor
open Go.RowKit
namespace WNestI
set_option maxRecDepth 100000 in
theorem level_face (a : Option Addr) (cap : Nat) (Is : List Pl.It) (w : World) (hl : Is.length ≤ 1048576) (hcap : Is.length ≤ cap) (hv : Mem.isItems w a Is) (hok : ∀ x ∈ Is, x.t.L.length ≤ 1048576 ∧ ∀ n ∈ x.t.L, n.path.size ≤ 1048576 ∧ n.data.size ≤ 1048576)
    (r0 r1 r2 r3 : TypeId) (x0 x1 x2 x3 : Value) (hE : Errs4 w r0 r1 r2 r3 x0 x1 x2 x3) :
    Calls Tryd.prog 20 #[.slice a Is.length cap] w fun e w' => e = .returned (.int .i64 (Pl.levelO (Pl.nest (Pl.rowO (Is.map Pl.It.r))))) ∧ Below w.heap.size w w' := by
  have hz := hide (nest_any a cap Is w hl hcap hv hok _ _ _ _ _ _ _ _ hE)
  have hsz : ∀ k, Pl.nest (Pl.rowO (Is.map Pl.It.r)) = some k → k.sz ≤ 12 := fun k h => Pl.nest_sz h
  have HZ := hide hsz
  clear hv hok hE hsz
  generalize Pl.nest (Pl.rowO (Is.map Pl.It.r)) = NN at hz HZ ⊢
  go_enter Tryd.func20, Tryd.ntmps20
  go_wp2_with fail
  refine (unhide hz).mono ?_
  rintro e w1 ⟨h1, b1⟩
  clear hz
  rcases h1 with ⟨k, q, m, va, vcap, rfl, rfl, hlay⟩ | ⟨rfl, r, x, rfl⟩
  · have bA : Below w1.heap.size w1 (w1.alloc (.cells #[.map q, .int .i64 m, .slice va k.len vcap] 49)) := (Below.refl _ _).alloc (Nat.le_refl _) _
    have bw := b1.trans (bA.mono b1.size)
    have hcall := hide (level_any _ 1000 (Nat.le_refl _) k q m _ _ (by have := unhide HZ k rfl; omega) (Mem.lay_call hlay bA))
    clear HZ hlay bA b1
    go_wp2_with fail
    refine (unhide hcall).mono ?_
    rintro e w2 ⟨rfl, b2⟩
    have bb := bw.trans (b2.mono bw.size)
    clear hcall b2 bw
    go_wp2
    go_ret
    exact ⟨rfl, bb⟩
  · go_wp2
    go_ret
    exact ⟨rfl, b1.alloc b1.size _⟩
end WNestI
end Go.Proofs.YtjfnmfnjlacbeadDoor

