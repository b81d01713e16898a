/- Several texts of one claim in one file: WNestG, WFaceD. -/
import Derived.Test.YtjfnmfnjlacbeadDoorWNestS
import Derived.Test.YtjfnmfnjlacbeadDoorPlainNum
import Derived.Test.YtjfnmfnjlacbeadDoorG27
/- The walks of the specification's l01Max, l05Depth and NestDepth. -/
namespace Go.Proofs.YtjfnmfnjlacbeadDoor
open Go.RowKit
namespace WNestS
set_option maxRecDepth 100000 in
theorem max_any (x y : Int) (w : World) : Calls Tryd.prog 36 #[.int .i64 x, .int .i64 y] w fun e w' => e = .returned (.int .i64 (max x y)) ∧ w' = w := by
  by_cases h : y < x
  · go_enter Tryd.func36, Tryd.ntmps36
    go_wp2
    go_ret
    exact ⟨by rw [show max x y = x by omega]; rfl, rfl⟩
  · go_enter Tryd.func36, Tryd.ntmps36
    go_wp2
    go_ret
    exact ⟨by rw [show max x y = y by omega]; rfl, rfl⟩
set_option linter.unusedSimpArgs false in
set_option maxRecDepth 100000 in
set_option maxHeartbeats 1000000 in
theorem depth_any (a : Option Addr) (cap : Nat) (Is : List Pl.It) (hl : Is.length ≤ 12) (w : World) (hv : Mem.isItems w a Is) (n : Nat) (hn : n ≤ 1000) :
    ∀ (p : Nat) (kids : Pl.Fo) (R : Pl.Row), kids.sz ≤ n → p ≤ Is.length → Pl.take 1 ((Pl.rowO (Is.map Pl.It.r)).drop p) = some (.cons kids .nil, R) →
    Calls Tryd.prog 26 #[.slice a Is.length cap, .int .i64 (p : Int)] w fun e w' => e = .returned (.tuple #[.int .i64 ((kids.depth : Int) + 1), .int .i64 ((Is.length : Int) - (R.length : Int))]) ∧ w' = w := by
  have hrl : (Pl.rowO (Is.map Pl.It.r)).length = Is.length := by rw [Pl.rowO_len, List.length_map]
  induction n with
  | zero =>
    intro p kids R hs hp ht
    cases kids with
    | cons k m => simp [Pl.Fo.sz] at hs
    | nil =>
      have hlt : p < Is.length := by
        have := (Pl.takeF_len ht).2.1
        rw [List.length_drop] at this; omega
      obtain ⟨x, hx⟩ : ∃ x, Is[p]? = some x := ⟨_, List.getElem?_eq_getElem hlt⟩
      obtain ⟨⟨b, o, rfl, hb, q0, q0'⟩, q1⟩ := hv p x hx
      have hrow : (Pl.rowO (Is.map Pl.It.r)).drop p = Pl.itemO x.r :: (Pl.rowO (Is.map Pl.It.r)).drop (p + 1) := Pl.rowO_at (by rw [List.getElem?_map, hx]; rfl)
      rw [hrow] at ht
      cases hio : Pl.itemO x.r with
      | none => rw [hio] at ht; cases ht
      | some mm =>
        rw [hio, Pl.take_one] at ht
        cases h1 : Pl.take mm ((Pl.rowO (Is.map Pl.It.r)).drop (p + 1)) with
        | none => rw [h1] at ht; simp at ht
        | some y =>
          rw [h1] at ht
          simp at ht
          have hm0 : mm = 0 := by have := (Pl.takeF_len h1).1; rw [ht.1] at this; exact this.symm
          subst hm0
          rw [Pl.take_zero] at h1
          cases h1
          have hR : R = (Pl.rowO (Is.map Pl.It.r)).drop (p + 1) := ht.2.symm
          have hRl : (Is.length : Int) - (R.length : Int) = (p : Int) + 1 := by rw [hR, List.length_drop, hrl]; omega
          rw [hRl]
          have hm := (Pl.itemO_some hio).1
          have c0 := q0
          rw [show x.m = 0 from hm] at c0
          have u3 : (0 : Int) ≤ (p : Int) := by omega
          have u4 : (p : Int) < (Is.length : Int) := by omega
          simp only [Pl.Fo.depth]
          clear hv q0 q0' q1 hx hrow ht hio hm hR hRl
          go_enter Tryd.func26, Tryd.ntmps26
          go_wp2
          go_loopw [1, 6, 7] (fun v k d wr => v = .int .i64 ((p : Int) + 1) ∧ k = .int .i64 0 ∧ d = .int .i64 0 ∧ wr = w) (fun _ _ _ _ => 0)
          case atStart => exact ⟨rfl, rfl, rfl, rfl⟩
          case round =>
            obtain ⟨rfl, rfl, rfl, rfl⟩ := hrel
            go_wp2
            go_ret2
            first | exact ⟨rfl, rfl⟩ | exact ⟨by simp, rfl⟩
  | succ n ih =>
    intro p kids R hs hp ht
    have hlt : p < Is.length := by
      have := (Pl.takeF_len ht).2.1
      rw [List.length_drop] at this; omega
    obtain ⟨x, hx⟩ : ∃ x, Is[p]? = some x := ⟨_, List.getElem?_eq_getElem hlt⟩
    have hv2 := hv
    obtain ⟨⟨b, o, rfl, hb, q0, q0'⟩, q1⟩ := hv p x hx
    have hrow : (Pl.rowO (Is.map Pl.It.r)).drop p = Pl.itemO x.r :: (Pl.rowO (Is.map Pl.It.r)).drop (p + 1) := Pl.rowO_at (by rw [List.getElem?_map, hx]; rfl)
    rw [hrow] at ht
    cases hio : Pl.itemO x.r with
    | none => rw [hio] at ht; cases ht
    | some mm =>
      rw [hio, Pl.take_one] at ht
      cases h1 : Pl.take mm ((Pl.rowO (Is.map Pl.It.r)).drop (p + 1)) with
      | none => rw [h1] at ht; simp at ht
      | some y =>
        obtain ⟨K, R'⟩ := y
        rw [h1] at ht
        simp at ht
        obtain ⟨rfl, rfl⟩ := ht
        obtain ⟨hm, hm4⟩ := Pl.itemO_some hio
        have c0 := q0
        rw [show x.m = (mm : Int) from hm] at c0
        have u3 : (0 : Int) ≤ (p : Int) := by omega
        have u4 : (p : Int) < (Is.length : Int) := by omega
        have hKd := K.depth_le
        have HI := hide (ih (by omega))
        have HT := hide h1
        have HRL := hide hrl
        generalize Pl.rowO (Is.map Pl.It.r) = LL at HI HT HRL
        generalize hV : (Is.length : Int) - (R'.length : Int) = V
        have HV := hide hV
        clear hV
        clear hv hv2 q0 q0' q1 hx hrow hio hm h1 ih hrl
        go_enter Tryd.func26, Tryd.ntmps26
        go_wp2
        go_loopw [1, 6, 7] (fun v k d wr => ∃ (kk p' dd : Nat) (F : Pl.Fo), v = .int .i64 (p' : Int) ∧ k = .int .i64 (kk : Int) ∧ d = .int .i64 (dd : Int) ∧ kk ≤ 4 ∧ p' ≤ Is.length ∧ max dd F.depth = K.depth ∧ F.sz ≤ n + 1 ∧ Hid (Pl.take kk (LL.drop p') = some (F, R')) ∧ wr = w) (fun _ k _ _ => (intOf k).toNat)
        case atStart => exact ⟨mm, p + 1, 0, K, by go_num, rfl, rfl, hm4, by omega, by omega, hs, HT, rfl⟩
        case round =>
          obtain ⟨kk, p', dd, F, rfl, rfl, rfl, hk4, hp', hmax, hsz, HF, rfl⟩ := hrel
          have v3 : (0 : Int) ≤ (p' : Int) := by omega
          cases kk with
          | zero =>
            have hF := unhide HF
            rw [Pl.take_zero] at hF
            have hRR : R' = LL.drop p' := by injection hF with hF; exact (Prod.mk.inj hF).2.symm
            have hFF : F = .nil := by injection hF with hF; exact (Prod.mk.inj hF).1.symm
            have hfin : Hid (V = (p' : Int)) := hide (by rw [← unhide HV, hRR, List.length_drop, unhide HRL]; omega)
            rw [hFF] at hmax
            simp only [Pl.Fo.depth] at hmax
            have hdd : dd = K.depth := by omega
            subst hdd
            clear HI HT HF hF hRR hFF HV
            go_wp2
            go_ret2
            first | exact ⟨by rw [unhide hfin]; rfl, rfl⟩ | exact ⟨by rw [unhide hfin]; simp, rfl⟩
          | succ kk =>
            have u1 : (0 : Int) < ((kk + 1 : Nat) : Int) := by omega
            obtain ⟨k1, more, R1, rfl, g1, g2⟩ := Pl.take_split (unhide HF)
            simp only [Pl.Fo.depth, Pl.Fo.sz] at hmax hsz
            have hcall := hide (unhide HI p' k1 R1 (by omega) hp' g1)
            obtain ⟨p2, e2, hp2, hd2⟩ := Pl.take_at (unhide HRL) hp' g1
            rw [e2] at hcall
            have HF2 : Hid (Pl.take kk (LL.drop p2) = some (more, R')) := hide (by rw [hd2]; exact g2)
            clear HF g1 g2 hd2 e2
            go_wp2_with fail
            refine (unhide hcall).mono ?_
            rintro e wX ⟨rfl, rfl⟩
            clear hcall
            have hmx := hide (max_any (dd : Int) ((k1.depth : Int) + 1))
            have em : max (dd : Int) ((k1.depth : Int) + 1) = ((max dd (k1.depth + 1) : Nat) : Int) := by omega
            rw [em] at hmx
            generalize hM : max dd (k1.depth + 1) = M at hmx
            go_wp2_with fail
            refine (unhide hmx _).mono ?_
            rintro e wX ⟨rfl, rfl⟩
            clear hmx em
            go_wp2
            go_roundw
            case rel => exact ⟨kk, p2, M, more, rfl, by go_num, rfl, by omega, hp2, by omega, by omega, HF2, trivial⟩
            case measure => simp [intOf]
set_option maxRecDepth 100000 in
theorem nestDepth_any (a : Option Addr) (cap : Nat) (Is : List Pl.It) (w : World) (hl : Is.length ≤ 1048576) (hv : Mem.isItems w a Is) (hok : ∀ x ∈ Is, x.t.L.length ≤ 1048576 ∧ ∀ n ∈ x.t.L, n.path.size ≤ 1048576 ∧ n.data.size ≤ 1048576) :
    Calls Tryd.prog 13 #[.slice a Is.length cap] w fun e w' => e = .returned (.int .i64 (Pl.depthO (Pl.nest (Pl.rowO (Is.map Pl.It.r))))) ∧ Below w.heap.size w w' := by
  have hrl : (Pl.rowO (Is.map Pl.It.r)).length = Is.length := by rw [Pl.rowO_len, List.length_map]
  by_cases h400 : 400 < Is.length
  · have t0 : (400 : Int) < (Is.length : Int) := by omega
    rw [Pl.nest_long _ (by omega)]
    clear hv hok
    go_enter Tryd.func13, Tryd.ntmps13
    go_wp2
    go_ret
    exact ⟨rfl, Below.refl _ _⟩
  have t0 : ¬ (400 : Int) < (Is.length : Int) := by omega
  have hz := hide (right_any a cap Is w hl hv hok)
  cases hN : Pl.nest (Pl.rowO (Is.map Pl.It.r)) with
  | none =>
    rw [hN] at hz
    clear hv hok hN hrl
    go_enter Tryd.func13, Tryd.ntmps13
    go_wp2_with fail
    refine (unhide hz).mono ?_
    rintro e w1 ⟨rfl, b1⟩
    clear hz
    go_wp2
    go_ret
    exact ⟨rfl, b1⟩
  | some k =>
    rw [hN] at hz
    have hks := Pl.nest_sz hN
    obtain ⟨h12, ht, -⟩ := Pl.nest_yes hN
    have hd := hide (fun W (b : Below w.heap.size w W) => depth_any a cap Is (by omega) W (Mem.items_call hv b) 12 (by omega) 0 k [] hks (Nat.zero_le _) (by simpa using ht))
    simp only [Pl.depthO]
    clear hv hok hN hrl ht
    go_enter Tryd.func13, Tryd.ntmps13
    go_wp2_with fail
    refine (unhide hz).mono ?_
    rintro e w1 ⟨rfl, b1⟩
    clear hz
    go_wp2_with fail
    refine (unhide hd _ b1).mono ?_
    rintro e w2 ⟨rfl, rfl⟩
    clear hd
    go_wp2
    go_ret
    exact ⟨rfl, b1⟩
end WNestS
end Go.Proofs.YtjfnmfnjlacbeadDoor

/- The walk of the program's NestDepth. -/
namespace Go.Proofs.YtjfnmfnjlacbeadDoor
open Go.RowKit
namespace WNestI
set_option maxRecDepth 100000 in
theorem nestDepth_any (a : Option Addr) (cap : Nat) (Is : List Pl.It) (w : World) (hl : Is.length ≤ 1048576) (hcap : Is.length ≤ cap) (hv : Mem.isItems w a Is) (hok : ∀ x ∈ Is, x.t.L.length ≤ 1048576 ∧ ∀ n ∈ x.t.L, n.path.size ≤ 1048576 ∧ n.data.size ≤ 1048576)
    (r0 r1 r2 r3 : TypeId) (x0 x1 x2 x3 : Value) (hE : Errs4 w r0 r1 r2 r3 x0 x1 x2 x3) :
    Calls Tryd.prog 14 #[.slice a Is.length cap] w fun e w' => e = .returned (.int .i64 (Pl.depthO (Pl.nest (Pl.rowO (Is.map Pl.It.r))))) ∧ Below w.heap.size w w' := by
  have hz := hide (nest_any a cap Is w hl hcap hv hok _ _ _ _ _ _ _ _ hE)
  have hsz : ∀ k, Pl.nest (Pl.rowO (Is.map Pl.It.r)) = some k → k.sz ≤ 12 := fun k h => Pl.nest_sz h
  have HZ := hide hsz
  clear hv hok hE hsz
  generalize Pl.nest (Pl.rowO (Is.map Pl.It.r)) = NN at hz HZ ⊢
  go_enter Tryd.func14, Tryd.ntmps14
  go_wp2_with fail
  refine (unhide hz).mono ?_
  rintro e w1 ⟨h1, b1⟩
  clear hz
  rcases h1 with ⟨k, q, m, va, vcap, rfl, rfl, hlay⟩ | ⟨rfl, r, x, rfl⟩
  · have bA : Below w1.heap.size w1 (w1.alloc (.cells #[.map q, .int .i64 m, .slice va k.len vcap] 49)) := (Below.refl _ _).alloc (Nat.le_refl _) _
    have bw := b1.trans (bA.mono b1.size)
    have hcall := hide (depth_any _ 1000 (Nat.le_refl _) k q m _ _ (by have := unhide HZ k rfl; omega) (Mem.lay_call hlay bA))
    clear HZ hlay bA b1
    go_wp2_with fail
    refine (unhide hcall).mono ?_
    rintro e w2 ⟨rfl, b2⟩
    have bb := bw.trans (b2.mono bw.size)
    clear hcall b2 bw
    go_wp2
    go_ret
    exact ⟨rfl, bb⟩
  · go_wp2
    go_ret
    exact ⟨rfl, b1.alloc b1.size _⟩
end WNestI
end Go.Proofs.YtjfnmfnjlacbeadDoor

