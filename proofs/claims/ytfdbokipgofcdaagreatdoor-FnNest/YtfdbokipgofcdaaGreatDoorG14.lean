/- Several texts of one claim in one file: WTakeJ, WNestD, WErrs4, WNestN, WFaceD, WNestF, WNestL, WFaceL, WLess1S, WParS. -/
import Derived.Test.YtfdbokipgofcdaaGreatDoorG13
import Derived.Test.YtfdbokipgofcdaaGreatDoorG11
import Derived.Test.YtfdbokipgofcdaaGreatDoorG00
import Derived.Test.YtfdbokipgofcdaaGreatDoorG07
import Derived.Test.YtfdbokipgofcdaaGreatDoorG01
import Derived.Test.YtfdbokipgofcdaaGreatDoorProg
import Derived.WalkSpells
import Derived.Lib.OthersKept
import Derived.Laws.RangeAny
import Derived.Deep.Draws
import Derived.Deep.QuietTactic
import Derived.BigQuiet
import Derived.Deep.RegionHeld3
import Derived.Test.YtfdbokipgofcdaaGreatDoorG04
import Derived.Test.YtfdbokipgofcdaaGreatDoorG02
import Derived.WalkKit
import Derived.Laws.IdiomStrings
namespace Go.Proofs.YtfdbokipgofcdaaGreatDoor
open Go.RowKit
namespace zc0
theorem yq6 {Is : List Pl.It} {x : Pl.It} (hx : Is[0]? = some x) : Pl.rowO (Is.map Pl.It.r) = Pl.zi (x.m, x.t.L) :: Pl.rowO ((Is.drop 1).map Pl.It.r) := by
 have h := Pl.yk8 (xs := Is.map Pl.It.r) (i := 0) (x := x.r) (by rw [List.getElem?_map, hx]; rfl)
 rw [List.drop_zero, Pl.rowO_drop, ← List.map_drop] at h
 exact h
def Took (w : World) (r1 : TypeId) (x1 : Value) (a : Option Addr) (Is : List Pl.It) (TT : Option (Pl.Fo × Pl.Row)) (e : Ending) (w' : World) : Prop :=
 (∃ kids q m v k a' cap', TT = some (.cons kids .nil, Pl.rowO ((Is.drop k).map Pl.It.r)) ∧ e = .returned (.tuple #[.agg #[.map q, .int .i64 m, v], .slice a' (Is.drop k).length cap', .nilIface]) ∧
  0 < k ∧ k ≤ Is.length ∧ (Is.drop k).length ≤ cap' ∧ Mem.shifted a a' k Is ∧ Mem.lay w' (fun b => w.heap.size ≤ b) kids v) ∨
 (TT = none ∧ e = .returned (.tuple #[.agg #[.map none, .int .i64 0, .slice none 0 0], .slice none 0 0, .iface r1 x1]))
set_option linter.unusedSimpArgs false in
set_option maxRecDepth 100000 in
set_option maxHeartbeats 2000000 in
theorem yh6 (r1 r2 r3 : TypeId) (x1 x2 x3 : Value) (n : Nat) :
  ∀ (Is : List Pl.It) (a : Option Addr) (cap : Nat) (w : World), Is.length ≤ n → Is.length ≤ 12 → Is.length ≤ cap → Mem.za6 w a Is → (∀ x ∈ Is, x.t.L.length ≤ 1048576 ∧ ∀ n ∈ x.t.L, n.path.size ≤ 1048576 ∧ n.data.size ≤ 1048576) → ze7.Errs w r1 r2 r3 x1 x2 x3 →
  Calls Tryz.prog 77 #[.slice a Is.length cap] w fun e w' => Took w r1 x1 a Is (Pl.take 1 (Pl.rowO (Is.map Pl.It.r))) e w' ∧ Below w.heap.size w w' := by
 obtain ⟨i0, hi, hz0, hz1, hz2⟩ := info_parts zl3
 induction n with
 | zero =>
  intro Is a cap w hn h12 hcap hv hok hE
  have e : Is = [] := List.eq_nil_of_length_eq_zero (by omega)
  subst e
  have b0 : Below w.heap.size w (w.alloc (.cells #[.map none, .int .i64 0, .slice none 0 0] 74)) := (Below.refl _ _).alloc (Nat.le_refl _) _
  have k1 := (hE.call b0).c1
  have HB0 := hide b0
  clear hv hok hE b0
  go_enter Tryz.func77, Tryz.ntmps77
  go_wp2
  go_region
  go_wp2
  refine bodyPost_ret (v := .tuple #[.agg #[.map none, .int .i64 0, .slice none 0 0], .slice none 0 0, .iface r1 x1]) (by simp [results, Tryz.results77, go_sem]) rfl ⟨Or.inr ⟨rfl, rfl⟩, ?_⟩
  exact Mem.below_drewN (za HB0) 1
 | succ n ih =>
  intro Is a cap w hn h12 hcap hv hok hE
  have b0 : Below w.heap.size w (w.alloc (.cells #[.map none, .int .i64 0, .slice none 0 0] 74)) := (Below.refl _ _).alloc (Nat.le_refl _) _
  have A0 := Mem.Blk.new w #[.map none, .int .i64 0, .slice none 0 0] 74
  have hs0 : (w.alloc (.cells #[.map none, .int .i64 0, .slice none 0 0] 74)).heap.size = w.heap.size + 1 := by simp
  by_cases hnil : Is.length = 0
  ·have e : Is = [] := List.eq_nil_of_length_eq_zero hnil
   subst e
   have k1 := (hE.call b0).c1
   have HB0 := hide b0
   clear hv hok hE b0 A0 ih
   go_enter Tryz.func77, Tryz.ntmps77
   go_wp2
   go_region
   go_wp2
   refine bodyPost_ret (v := .tuple #[.agg #[.map none, .int .i64 0, .slice none 0 0], .slice none 0 0, .iface r1 x1]) (by simp [results, Tryz.results77, go_sem]) rfl ⟨Or.inr ⟨rfl, rfl⟩, ?_⟩
   exact Mem.below_drewN (za HB0) 1
  have t0 : ¬ (Is.length : Int) = 0 := by omega
  have t1 : (0 : Int) < (Is.length : Int) := by omega
  have t2 : (1 : Int) ≤ (Is.length : Int) := by omega
  obtain ⟨x, hx⟩ : ∃ x, Is[0]? = some x := ⟨_, List.getElem?_eq_getElem (by omega)⟩
  obtain ⟨⟨b, o, rfl, hb, q0, q0'⟩, q1⟩ := hv 0 x hx
  have c0 := (b0.cell (p := ⟨b, _, none⟩) hb).trans q0
  have c1 := (b0.cell (p := ⟨b, _, none⟩) hb).trans q0'
  simp only [Pl.Tr.val, Nat.zero_mul, Nat.add_zero] at c0 c1
  have hz := hide (zw1 x.m x.t.a x.t.cap x.t.L _ (hok x (List.mem_of_getElem? hx)).1 (Mem.za8 q1 b0) (hok x (List.mem_of_getElem? hx)).2 r1 r2 r3 x1 x2 x3 (hE.call b0))
  have hrow := yq6 hx
  have HI : Hid (∀ (k r : Nat) (a' : Option Addr) (cap' : Nat) (W : World), 0 < k → k + r = Is.length → r ≤ cap' → Mem.shifted (some ⟨b, o, none⟩) a' k Is → Below w.heap.size w W →
    Calls Tryz.prog 77 #[.slice a' r cap'] W fun e w' => ((∃ kids q m v k1 r1 a1 cap1, Pl.take 1 (Pl.rowO ((Is.drop k).map Pl.It.r)) = some (.cons kids .nil, Pl.rowO ((Is.drop (k + k1)).map Pl.It.r)) ∧ e = .returned (.tuple #[.agg #[.map q, .int .i64 m, v], .slice a1 r1 cap1, .nilIface]) ∧
     k + k1 + r1 = Is.length ∧ r1 ≤ cap1 ∧ Mem.shifted (some ⟨b, o, none⟩) a1 (k + k1) Is ∧ Mem.lay w' (fun b => W.heap.size ≤ b) kids v) ∨
    (Pl.take 1 (Pl.rowO ((Is.drop k).map Pl.It.r)) = none ∧ e = .returned (.tuple #[.agg #[.map none, .int .i64 0, .slice none 0 0], .slice none 0 0, .iface r1 x1]))) ∧ Below W.heap.size W w') := hide (fun k r a' cap' W hk hr hc hs bb => by
   have hrl : (Is.drop k).length = r := by rw [List.length_drop]; omega
   have h := ih (Is.drop k) a' cap' W (by omega) (by omega) (by omega) (Mem.zc1 (Mem.ys5 hv hs) bb) (fun y hy => hok y (List.mem_of_mem_drop hy)) (hE.call bb)
   rw [hrl] at h
   refine h.mono fun e w' ⟨h1, h2⟩ => ⟨?_, h2⟩
   rcases h1 with ⟨kids, q, m, v, k1, a1, cap1, g1, g2, g3, g4, g5, g6, g7⟩ | h1
   ·rw [List.drop_drop] at g1 g2 g5
    exact .inl ⟨kids, q, m, v, k1, (Is.drop (k + k1)).length, a1, cap1, g1, g2, by rw [List.length_drop]; omega, g5, Mem.yo7 hs g6, g7⟩
   ·exact .inr h1)
  rw [hrow]
  generalize hTT : Pl.take 1 (Pl.zi (x.m, x.t.L) :: Pl.rowO ((Is.drop 1).map Pl.It.r)) = TT
  have HTT := hide hTT
  clear hTT
  clear ih hv hok hE q0 q0' q1 hx hrow
  go_enter Tryz.func77, Tryz.ntmps77
  go_wp2_with fail
  generalize w.alloc (.cells #[.map none, .int .i64 0, .slice none 0 0] 74) = w2 at hz A0 b0 hs0 c0 c1 ⊢
  refine (za hz).mono ?_
  rintro e w1 ⟨h1, b1⟩
  have bw1 := b0.trans (b1.mono b0.size)
  have A1 := A0.call b1
  have hs1 := b1.size
  clear hz c0 c1 b1 A0 b0
  rcases h1 with ⟨hT, B, rfl⟩ | ⟨hT, k, rfl⟩
  ·obtain ⟨hm0, hm4⟩ := Pl.zw hT
   rw [Pl.yj3 hT, Pl.zw4] at HTT
   obtain ⟨mm, hmm⟩ : ∃ mm : Nat, x.m = (mm : Int) := ⟨x.m.toNat, by omega⟩
   rw [hmm, Int.toNat_natCast] at HTT
   rw [hmm]
   have hm5 : mm ≤ 4 := by omega
   clear hT hmm hm0 hm4
   have bA : Below w.heap.size w ((w1.alloc (.cells #[.map (some B), .int .i64 (mm : Int)] 71)).alloc (.cells #[.map (some B), .int .i64 (mm : Int), .slice none 0 0] 74)) := (bw1.alloc bw1.size _).alloc (by simp; have := bw1.size; omega) _
   have TK0 : Hid (Tk w ((w1.alloc (.cells #[.map (some B), .int .i64 (mm : Int)] 71)).alloc (.cells #[.map (some B), .int .i64 (mm : Int), .slice none 0 0] 74)) (w1.heap.size + 1 + 1) w.heap.size (w1.heap.size + 1) (some B) (mm : Int) (.slice none 0 0) .nil []) :=
    hide ⟨bA, by simp, (A1.alloc _).alloc _, by have := Mem.Blk.new (w1.alloc (.cells #[.map (some B), .int .i64 (mm : Int)] 71)) #[.map (some B), .int .i64 (mm : Int), .slice none 0 0] 74; simpa using this, ⟨Nat.le_refl _, by omega⟩, ⟨by omega, by omega⟩, by omega, World.ownsRow_nil _ _ _ _, rfl⟩
   generalize hT0 : Pl.take mm (Pl.rowO ((Is.drop 1).map Pl.It.r)) = T0 at HTT
   have HT0 : Hid (Pl.went .nil (Pl.take (mm - Pl.Fo.nil.len) (Pl.rowO ((Is.drop 1).map Pl.It.r))) = T0) := hide (by rw [Pl.yv1]; exact hT0)
   have S0 : Hid (cap = 1 → Mem.shifted (some ⟨b, o, none⟩) (some ⟨b, o, none⟩) 1 Is) := hide (fun hc => .inl (List.drop_eq_nil_of_le (by omega)))
   have S1 : Hid (Mem.shifted (some ⟨b, o, none⟩) (some ⟨b, o + 2, none⟩) 1 Is) := hide (.inr ⟨b, o, rfl, rfl⟩)
   clear hT0 A1 bw1 bA
   go_wp2
   all_goals
    go_loopw [8, 34] (fun rest i wr => ∃ (k : Nat) (a' : Option Addr) (cap' : Nat) (v : Value) (F : Pl.Fo) (xs : List Value) (r : Nat), rest = .slice a' r cap' ∧ i = .int .i64 (F.len : Int) ∧ F.len ≤ mm ∧ 0 < k ∧ k + r = Is.length ∧ r ≤ cap' ∧ Hid (Mem.shifted (some ⟨b, o, none⟩) a' k Is) ∧ Hid (Tk w wr (w1.heap.size + 1 + 1) w.heap.size (w1.heap.size + 1) (some B) (mm : Int) v F xs) ∧ Hid (Pl.went F (Pl.take (mm - F.len) (Pl.rowO ((Is.drop k).map Pl.It.r))) = T0)) (fun _ i _ => mm - (intOf i).toNat)
    case atStart =>
     refine ⟨1, _, _, _, .nil, [], _, rfl, rfl, Nat.zero_le _, by omega, by omega, by omega, ?_, TK0, HT0⟩
     first | exact S1 | exact hide (za S0 (by omega))
    case round =>
     obtain ⟨k, a', cap', v, F, xs, r, rfl, rfl, hFm, hk, hkl, hc, HS, TK, HT⟩ := hrel
     clear TK0 HT0 S0 S1
     by_cases hlt : F.len < mm
     ·have u1 : (F.len : Int) < (mm : Int) := by omega
      have hcall := hide (za HI k r a' cap' wr hk hkl hc (za HS) (za TK).bel)
      go_wp2_with fail
      refine (za hcall).mono ?_
      rintro e wX ⟨h1, bX⟩
      clear hcall
      rcases h1 with ⟨kids, q1, m1, v1, k1, s1, a1, cap1, ht, rfl, hk1', hc1, hs1', hlay⟩ | ⟨ht, rfl⟩
      ·obtain ⟨va, vcap, rfl, hrest⟩ := hlay
       have HST := hide (fun (w4 : World) (v' : Value) own gr far => (za TK).step (w1 := wX) (w4 := w4) (kids := kids) (v1 := .slice va kids.len vcap) (q1 := q1) (m1 := m1) (v' := v') (o1 := .cells #[.map q1, .int .i64 m1, .slice va kids.len vcap] 74) (o2 := .cells #[.map q1, .int .i64 m1, .slice va kids.len vcap] 74) bX ⟨va, vcap, rfl, hrest⟩ own gr far)
       have HMD := hide (fun (w4 : World) gr => (za TK).mid (w1 := wX) (w4 := w4) (o1 := .cells #[.map q1, .int .i64 m1, .slice va kids.len vcap] 74) (o2 := .cells #[.map q1, .int .i64 m1, .slice va kids.len vcap] 74) bX gr)
       have HR := hide (((zz6 (za TK).row bX).alloc (.cells #[.map q1, .int .i64 m1, .slice va kids.len vcap] 74)).alloc (.cells #[.map q1, .int .i64 m1, .slice va kids.len vcap] 74))
       have X7a := ((za TK).x7.call bX).alloc (.cells #[.map q1, .int .i64 m1, .slice va kids.len vcap] 74)
       have c72 := X7a.cell 2
       simp only [kGs] at c72
       have hbig : w1.heap.size + 1 + 1 ≤ wX.heap.size := Nat.le_trans (za TK).big bX.size
       have HS2 : Hid (Mem.shifted (some ⟨b, o, none⟩) a1 (k + k1) Is) := hide hs1'
       obtain ⟨j, hj⟩ : ∃ j, mm - F.len = j + 1 := ⟨mm - F.len - 1, by omega⟩
       have HT2 : Hid (Pl.went (F.app (.cons kids .nil)) (Pl.take (mm - (F.app (.cons kids .nil)).len) (Pl.rowO ((Is.drop (k + k1)).map Pl.It.r))) = T0) := hide (by
        have h' := za HT
        rw [hj, Pl.went_step ht] at h'
        rw [Pl.Fo.zh9, ← h']
        congr 2
        simp only [Pl.Fo.len]
        omega)
       have hlen : (F.app (.cons kids .nil)).len = F.len + 1 := by rw [Pl.Fo.zh9]; rfl
       have HLEN := hide hlen
       clear TK HS HT ht bX hs1' hrest X7a hlen
       go_wp2_with (at_builtin; refine Mem.zb0 _ rfl _ _ 72 rfl (w1.heap.size + 1 + 1) 74 i0 (.agg #[.map none, .int .i64 0, .slice none 0 0]) 3 40 Tryz.underlying72 hi hz0 hz1 hz2 rfl (by decide) _ _ _ rfl (za HR) ⟨wX.heap.size + 1, 0, none⟩ 1 1 [.map q1, .int .i64 m1, .slice va kids.len vcap] rfl rfl (yp2 _ _ _ _) (fun u hu => by simp at hu; rcases hu with rfl | rfl | rfl <;> rfl) (by unfold maxLen; omega) (by omega) (by simp; omega) ?_)
       intro v' w4 own' hgrow hfar
       have M7 := za HMD w4 hgrow
       have c74 := M7.cell 2
       have f74 := M7.fr 2
       simp only [kGs] at c74
       have TK2 := hide (za HST w4 v' own' hgrow (by simpa using hfar))
       obtain ⟨vb, vc, rfl⟩ := conc own'
       clear own' hgrow hfar M7 HMD HST HR c72
       go_wp2
       go_roundw
       case rel => exact ⟨k + k1, a1, cap1, _, _, _, s1, rfl, by rw [za HLEN]; go_num, by rw [za HLEN]; omega, by omega, hk1', hc1, HS2, TK2, HT2⟩
       case measure => simp [intOf]; omega
      ·obtain ⟨j, hj⟩ : ∃ j, mm - F.len = j + 1 := ⟨mm - F.len - 1, by omega⟩
       have hno : TT = none := by
        have h' := za HT
        rw [hj, Pl.went_fail ht] at h'
        rw [← za HTT, ← h']; rfl
       have X2a := ((za TK).x2.call bX).alloc (.cells #[.map none, .int .i64 0, .slice none 0 0] 74)
       have c20 := X2a.cell 0
       have c21 := X2a.cell 1
       have c22 := X2a.cell 2
       have f20 := X2a.fr 0
       have f21 := X2a.fr 1
       have f22 := X2a.fr 2
       simp only [kGs] at c20 c21 c22
       have bb : Hid (Below w.heap.size w (wX.alloc (.cells #[.map none, .int .i64 0, .slice none 0 0] 74))) := hide (by
        have b' := (za TK).bel.trans (bX.mono (za TK).bel.size)
        exact b'.alloc b'.size _)
       clear TK HS HT ht bX X2a
       go_wp2
       refine bodyPost_ret (v := .tuple #[.agg #[.map none, .int .i64 0, .slice none 0 0], .slice none 0 0, .iface r1 x1]) (by simp [results, Tryz.results77, go_sem, c20, c21, c22]) rfl ⟨Or.inr ⟨hno, rfl⟩, ?_⟩
       first | exact za bb | exact (((za bb).setCell (Nat.le_refl _) _).setCell (Nat.le_refl _) _).setCell (Nat.le_refl _) _
     ·have u1 : ¬ (F.len : Int) < (mm : Int) := by omega
      have hyes : Hid (TT = some (.cons F .nil, Pl.rowO ((Is.drop k).map Pl.It.r))) := hide <| by
       have h' := za HT
       rw [show mm - F.len = 0 by omega, Pl.went_end] at h'
       rw [← za HTT, ← h']; rfl
      obtain ⟨va, vcap, rfl⟩ := (za TK).conc
      have X2a := (za TK).x2
      have X7a := (za TK).x7
      have c20 := X2a.cell 0
      have c21 := X2a.cell 1
      have c22 := X2a.cell 2
      have f20 := X2a.fr 0
      have f21 := X2a.fr 1
      have f22 := X2a.fr 2
      have c70 := X7a.cell 0
      have c71 := X7a.cell 1
      have c72 := X7a.cell 2
      simp only [kGs] at c20 c21 c22 c70 c71 c72
      clear X2a X7a HT
      go_wp2
      have hrl : (Is.drop k).length = r := by rw [List.length_drop]; omega
      refine bodyPost_ret (v := .tuple #[.agg #[.map (some B), .int .i64 (mm : Int), .slice va F.len vcap], .slice a' r cap', .nilIface]) (by simp [results, Tryz.results77, go_sem, c20, c21, c22]) rfl ⟨Or.inl ⟨F, some B, (mm : Int), _, k, a', cap', za hyes, by rw [hrl], hk, by omega, by rw [hrl]; exact hc, za HS, (za TK).done _ _ _⟩, ?_⟩
      exact (((za TK).bel.setCell (Nat.le_refl _) _).setCell (Nat.le_refl _) _).setCell (Nat.le_refl _) _
  ·rw [Pl.itemO_no hT] at HTT
   have hno : TT = none := (za HTT).symm
   have A2 := A1.alloc (.cells #[.map none, .int .i64 k] 71)
   have c20 := A2.cell 0
   have c21 := A2.cell 1
   have c22 := A2.cell 2
   have f20 := A2.fr 0
   have f21 := A2.fr 1
   have f22 := A2.fr 2
   simp only [kGs] at c20 c21 c22
   have bb := hide (bw1.alloc bw1.size (.cells #[.map none, .int .i64 k] 71))
   clear A1 A2 hT HI bw1
   go_wp2
   refine bodyPost_ret (v := .tuple #[.agg #[.map none, .int .i64 0, .slice none 0 0], .slice none 0 0, .iface r1 x1]) (by simp [results, Tryz.results77, go_sem, c20, c21, c22]) rfl ⟨Or.inr ⟨hno, rfl⟩, ?_⟩
   first | exact za bb | exact (((za bb).setCell (Nat.le_refl _) _).setCell (Nat.le_refl _) _).setCell (Nat.le_refl _) _
end zc0
end Go.Proofs.YtfdbokipgofcdaaGreatDoor

namespace Go.Proofs.YtfdbokipgofcdaaGreatDoor
open Go.RowKit
namespace zc0
theorem zp5 {w w' : World} {N : Nat → Prop} {F : Pl.Fo} {b i : Nat} (h : Mem.rowF w N F b i) (bb : Below w.heap.size w w') : Mem.rowF w' N F b i := Mem.yr5 (fun g hg hl => ⟨hg, Nat.lt_of_lt_of_le hl bb.size, bb.block g hl⟩) F b i h
set_option linter.unusedSimpArgs false in
set_option maxRecDepth 100000 in
set_option maxHeartbeats 1000000 in
theorem yd3 (N : Nat → Prop) (n : Nat) (hn : n ≤ 1000) : ∀ (k : Pl.Fo) (q : Option Nat) (m : Int) (v : Value) (w : World), k.sz ≤ n → Mem.lay w N k v →
  Calls Tryz.prog 49 #[.agg #[.map q, .int .i64 m, v]] w fun e w' => e = .returned (.int .i64 ((k.depth : Int) + 1)) ∧ Below w.heap.size w w' := by
 have base : ∀ (q : Option Nat) (m : Int) (a : Option Addr) (cap : Nat) (w : World), Calls Tryz.prog 49 #[.agg #[.map q, .int .i64 m, .slice a 0 cap]] w fun e w' => e = .returned (.int .i64 1) ∧ Below w.heap.size w w' := by
  intro q m a cap w
  go_enter Tryz.func49, Tryz.ntmps49
  go_wp2
  go_loopw [3, 9] (fun d i wr => d = .int .i64 0 ∧ i = .int .i64 0 ∧ Below w.heap.size w wr) (fun _ _ _ => 0)
  case atStart => exact ⟨rfl, rfl, (Below.refl _ _).alloc (Nat.le_refl _) _⟩
  case round =>
   obtain ⟨rfl, rfl, hbel⟩ := hrel
   go_wp2
   go_ret
   exact ⟨rfl, hbel⟩
 induction n with
 | zero =>
  intro k q m v w hs hl
  obtain ⟨a, cap, rfl, -⟩ := hl
  cases k with
  | nil => exact base q m a cap w
  | cons a b => simp [Pl.Fo.sz] at hs
 | succ n ih =>
  intro k q m v w hs hl
  obtain ⟨a, cap, rfl, hrow⟩ := hl
  cases k with
  | nil => exact base q m a cap w
  | cons k0 m0 =>
   rcases hrow with h | ⟨g, rfl, hrow⟩
   ·cases h
   generalize hK : Pl.Fo.cons k0 m0 = K at *
   have hKl := K.len_le
   have hKd := K.yg1
   have b0 : Below w.heap.size w (w.alloc (.cells #[.map q, .int .i64 m, .slice (some ⟨g, 0, none⟩) K.len cap] 74)) := (Below.refl _ _).alloc (Nat.le_refl _) _
   have HI := hide (ih (by omega))
   have R0 : Hid (Mem.rowF (w.alloc (.cells #[.map q, .int .i64 m, .slice (some ⟨g, 0, none⟩) K.len cap] 74)) N K g (0 * 3)) := hide (by simpa using zp5 hrow b0)
   clear hK ih hrow base
   go_enter Tryz.func49, Tryz.ntmps49
   go_wp2
   go_loopw [3, 9] (fun d i wr => ∃ (j dd : Nat) (F : Pl.Fo), d = .int .i64 (dd : Int) ∧ i = .int .i64 (j : Int) ∧ j + F.len = K.len ∧ max dd F.depth = K.depth ∧ F.sz ≤ n + 1 ∧ Below w.heap.size w wr ∧ Hid (Mem.rowF wr N F g (j * 3))) (fun _ i _ => K.len - (intOf i).toNat)
   case atStart => exact ⟨0, 0, K, rfl, rfl, by omega, by omega, hs, b0, R0⟩
   case round =>
    obtain ⟨j, dd, F, rfl, rfl, hj, hmax, hsz, hbel, HR⟩ := hrel
    clear R0 b0
    cases F with
    | nil =>
     simp only [Pl.Fo.len, Pl.Fo.depth] at hj hmax
     have u1 : ¬ (j : Int) < (K.len : Int) := by omega
     have hdd : dd = K.depth := by omega
     subst hdd
     go_wp2
     go_ret
     exact ⟨by show Ending.returned (.int .i64 (1 + (K.depth : Int))) = _; rw [Int.add_comm], hbel⟩
    | cons k1 m1 =>
     simp only [Pl.Fo.len, Pl.Fo.depth, Pl.Fo.sz] at hj hmax hsz
     obtain ⟨⟨x, y, a1, cap1, c0, c1, c2, hg, hN, ⟨q1, rfl⟩, ⟨r1, rfl⟩, hsub⟩, hrest⟩ := za HR
     have u1 : (j : Int) < (K.len : Int) := by omega
     have u3 : (0 : Int) ≤ (j : Int) := by omega
     have bA : Below wr.heap.size wr (wr.alloc (.cells #[.map q1, .int .i64 r1, .slice a1 k1.len cap1] 74)) := (Below.refl _ _).alloc (Nat.le_refl _) _
     have HL : Mem.lay wr N k1 (.slice a1 k1.len cap1) := ⟨a1, cap1, rfl, hsub⟩
     have hcall := hide (za HI k1 q1 r1 _ _ (by omega) (Mem.zt8 HL bA))
     have HRR := hide (zp5 hrest bA)
     have bw := hbel.trans (bA.mono hbel.size)
     clear hsub hrest HL HR
     go_wp2_with fail
     refine (za hcall).mono ?_
     rintro e wX ⟨rfl, bX⟩
     have bw2 := bw.trans (bX.mono bw.size)
     have HR2 := hide (zp5 (za HRR) bX)
     rw [show j * 3 + 3 = (j + 1) * 3 by omega] at HR2
     clear hcall HRR bX bw hbel c0 c1 c2 bA
     by_cases hcmp : (dd : Int) ≤ (k1.depth : Int) + 1
     ·have e1 : max (dd : Int) ((k1.depth : Int) + 1) = (k1.depth : Int) + 1 := by omega
      go_wp2
      go_roundw
      case rel => exact ⟨j + 1, k1.depth + 1, m1, by go_num, by go_num, by omega, by omega, by omega, bw2, HR2⟩
      case measure => simp [intOf]; omega
     ·have e1 : max (dd : Int) ((k1.depth : Int) + 1) = (dd : Int) := by omega
      go_wp2
      go_roundw
      case rel => exact ⟨j + 1, dd, m1, by go_num, by go_num, by omega, by omega, by omega, bw2, HR2⟩
      case measure => simp [intOf]; omega
end zc0
end Go.Proofs.YtfdbokipgofcdaaGreatDoor

namespace Go.Proofs.YtfdbokipgofcdaaGreatDoor
open Go.RowKit
namespace zc0
structure zq3 (w : World) (u0 u1 u2 u3 : TypeId) (x0 x1 x2 x3 : Value) : Prop where
 c0 : w.cell? ⟨0, 0, none⟩ = some (.iface u0 x0)
 three : ze7.Errs w u1 u2 u3 x1 x2 x3
theorem zq3.call {w w' : World} {u0 u1 u2 u3 : TypeId} {x0 x1 x2 x3 : Value} (h : zq3 w u0 u1 u2 u3 x0 x1 x2 x3) (b : Below w.heap.size w w') : zq3 w' u0 u1 u2 u3 x0 x1 x2 x3 :=
 ⟨(b.cell (p := ⟨_, 0, none⟩) (World.block_lt_of_cell? w ⟨_, 0, none⟩ h.c0)).trans h.c0, h.three.call b⟩
end zc0
end Go.Proofs.YtfdbokipgofcdaaGreatDoor

namespace Go.Proofs.YtfdbokipgofcdaaGreatDoor
open Go.RowKit
namespace zc0
def Nested (w : World) (NN : Option Pl.Fo) (e : Ending) (w' : World) : Prop :=
 (∃ k q m a cap, NN = some k ∧ e = .returned (.tuple #[.agg #[.map q, .int .i64 m, .slice a k.len cap], .nilIface]) ∧ Mem.lay w' (fun b => w.heap.size ≤ b) k (.slice a k.len cap)) ∨
 (NN = none ∧ ∃ r x, e = .returned (.tuple #[.agg #[.map none, .int .i64 0, .slice none 0 0], .iface r x]))
set_option linter.unusedSimpArgs false in
set_option maxRecDepth 100000 in
set_option maxHeartbeats 1000000 in
theorem zk8 (a : Option Addr) (cap : Nat) (Is : List Pl.It) (w : World) (hl : Is.length ≤ 1048576) (hcap : Is.length ≤ cap) (hv : Mem.za6 w a Is) (hok : ∀ x ∈ Is, x.t.L.length ≤ 1048576 ∧ ∀ n ∈ x.t.L, n.path.size ≤ 1048576 ∧ n.data.size ≤ 1048576)
  (r0 r1 r2 r3 : TypeId) (x0 x1 x2 x3 : Value) (hE : zq3 w r0 r1 r2 r3 x0 x1 x2 x3) :
  Calls Tryz.prog 47 #[.slice a Is.length cap] w fun e w' => Nested w (Pl.nest (Pl.rowO (Is.map Pl.It.r))) e w' ∧ Below w.heap.size w w' := by
 have hrl : (Pl.rowO (Is.map Pl.It.r)).length = Is.length := by rw [Pl.zi5, List.length_map]
 have b0 : Below w.heap.size w (w.alloc (.cells #[.map none, .int .i64 0, .slice none 0 0] 74)) := (Below.refl _ _).alloc (Nat.le_refl _) _
 have A0 := Mem.Blk.new w #[.map none, .int .i64 0, .slice none 0 0] 74
 have k0 := (hE.call b0).c0
 have k1 := (hE.call b0).three.c1
 by_cases h400 : 400 < Is.length
 ·have t0 : (400 : Int) < (Is.length : Int) := by omega
  rw [Pl.zo6 _ (by omega)]
  have HB0 := hide b0
  clear hv hok hE b0 A0 hrl
  go_enter Tryz.func47, Tryz.ntmps47
  go_wp2
  go_region
  go_wp2
  refine bodyPost_ret (v := .tuple #[.agg #[.map none, .int .i64 0, .slice none 0 0], .iface r0 x0]) (by simp [results, Tryz.results47, go_sem]) rfl ⟨Or.inr ⟨rfl, _, _, rfl⟩, ?_⟩
  exact Mem.below_drewN (za HB0) 1
 have t0 : ¬ (400 : Int) < (Is.length : Int) := by omega
 by_cases h12 : 12 < Is.length
 ·have t1 : (12 : Int) < (Is.length : Int) := by omega
  rw [Pl.zo6 _ (by omega)]
  have HB0 := hide b0
  clear hv hok hE b0 A0 hrl
  go_enter Tryz.func47, Tryz.ntmps47
  go_wp2
  go_region
  go_wp2
  refine bodyPost_ret (v := .tuple #[.agg #[.map none, .int .i64 0, .slice none 0 0], .iface r1 x1]) (by simp [results, Tryz.results47, go_sem]) rfl ⟨Or.inr ⟨rfl, _, _, rfl⟩, ?_⟩
  exact Mem.below_drewN (za HB0) 1
 have t1 : ¬ (12 : Int) < (Is.length : Int) := by omega
 have hz := hide (yh6 r1 r2 r3 x1 x2 x3 12 Is a cap _ (by omega) (by omega) hcap (Mem.zc1 hv b0) hok (hE.call b0).three)
 have n1 : 1 < w.heap.size := World.block_lt_of_cell? w ⟨_, 0, none⟩ hE.three.c1
 have n2 : ¬ w.heap.size = 1 := by omega
 have n3 : ¬ 1 = w.heap.size := by omega
 have HE := hide (fun W (b : Below w.heap.size w W) => (hE.call b).three.c1)
 have HRL := hide hrl
 generalize Pl.rowO (Is.map Pl.It.r) = LL at hz HRL ⊢
 generalize hNN : Pl.nest LL = NN
 have HNN := hide hNN
 clear hv hok hE k0 k1 hrl hNN
 go_enter Tryz.func47, Tryz.ntmps47
 go_wp2_with fail
 generalize w.alloc (.cells #[.map none, .int .i64 0, .slice none 0 0] 74) = w2 at b0 A0 hz ⊢
 refine (za hz).mono ?_
 rintro e w1 ⟨h1, b1⟩
 have bw1 := b0.trans (b1.mono b0.size)
 have A1 := A0.call b1
 have HWW : Hid (w.heap.size < w2.heap.size) := hide A0.lt
 clear hz b1 A0 b0
 rcases h1 with ⟨kids, q, m, v, k, a', cap', ht, rfl, hk, hkl, hc, -, hlay⟩ | ⟨ht, rfl⟩
 ·obtain ⟨va, vcap, rfl, hrest⟩ := hlay
  have hlen : (Is.drop k).length = Is.length - k := List.length_drop
  have hR : (Pl.rowO ((Is.drop k).map Pl.It.r)).length = Is.length - k := by rw [Pl.zi5, List.length_map, hlen]
  have hsz := Pl.take_sz ht
  simp only [Pl.Fo.sz] at hsz
  have A2 := A1.alloc (.cells #[.map q, .int .i64 m, .slice va kids.len vcap] 74)
  have X2 := Mem.Blk.new w1 #[.map q, .int .i64 m, .slice va kids.len vcap] 74
  have bA : Below w1.heap.size w1 (w1.alloc (.cells #[.map q, .int .i64 m, .slice va kids.len vcap] 74)) := (Below.refl _ _).alloc (Nat.le_refl _) _
  have bw2 := bw1.trans (bA.mono bw1.size)
  have HL : Hid (Mem.lay (w1.alloc (.cells #[.map q, .int .i64 m, .slice va kids.len vcap] 74)) (fun b => w2.heap.size ≤ b) kids (.slice va kids.len vcap)) := hide (Mem.zt8 ⟨va, vcap, rfl, hrest⟩ bA)
  rw [hlen]
  have hkk : Is.length - k ≤ 12 := by omega
  generalize Is.length - k = rest at hR hkk ⊢
  by_cases hr0 : 0 < rest
  ·have u1 : (0 : Int) < (rest : Int) := by omega
   have hno : Hid (NN = none) := hide (by rw [← za HNN]; exact Pl.nest_rest ht (by omega))
   have e1 := za HE _ bw2
   have c20 := A2.cell 0
   have c21 := A2.cell 1
   have c22 := A2.cell 2
   have f20 := A2.fr 0
   have f21 := A2.fr 1
   have f22 := A2.fr 2
   simp only [kGs] at c20 c21 c22
   have BB := hide bw2
   clear A1 A2 X2 bA HL hrest bw1 bw2 HNN HE ht hlen
   go_wp2
   go_region
   go_wp2
   refine bodyPost_ret (v := .tuple #[.agg #[.map none, .int .i64 0, .slice none 0 0], .iface r1 x1]) (by simp [results, Tryz.results47, go_sem, c20, c21, c22]) rfl ⟨Or.inr ⟨za hno, _, _, rfl⟩, ?_⟩
   first | exact Mem.below_drewN (za BB) 1 | exact (((Mem.below_drewN (za BB) 1).setCell (Nat.le_refl _) _).setCell (Nat.le_refl _) _).setCell (Nat.le_refl _) _
  have u1 : ¬ (0 : Int) < (rest : Int) := by omega
  have hdz := kids.yg1
  have hcall := hide (yd3 _ 1000 (Nat.le_refl _) kids q m _ _ (by have := za HRL; omega) (za HL))
  go_wp2_with fail
  generalize w1.alloc (.cells #[.map q, .int .i64 m, .slice va kids.len vcap] 74) = w3 at bA bw2 HL A2 X2 hcall ⊢
  refine (za hcall).mono ?_
  rintro e w4 ⟨rfl, b4⟩
  have bw4 := bw2.trans (b4.mono bw2.size)
  have A4 := A2.call b4
  have X4 := X2.call b4
  have HL4 : Hid (Mem.lay w4 (fun b => w2.heap.size ≤ b) kids (.slice va kids.len vcap)) := hide (Mem.zt8 (za HL) b4)
  have c20 := A4.cell 0
  have c21 := A4.cell 1
  have c22 := A4.cell 2
  have f20 := A4.fr 0
  have f21 := A4.fr 1
  have f22 := A4.fr 2
  have c40 := X4.cell 0
  have c41 := X4.cell 1
  have c42 := X4.cell 2
  simp only [kGs] at c20 c21 c22 c40 c41 c42
  have hs1 : w2.heap.size ≤ w1.heap.size ∨ True := .inr trivial
  clear hcall HL b4 A2 X2 A4 X4 hrest hs1
  by_cases h4 : 4 < kids.depth + 1
  ·have u2 : (4 : Int) < (kids.depth : Int) + 1 := by omega
   have hno : Hid (NN = none) := hide (by rw [← za HNN]; exact Pl.nest_deep ht h4)
   have e1 := za HE _ bw4
   have BB := hide bw4
   clear A1 bA bw1 bw2 HNN HE ht hlen bw4 HL4
   go_wp2
   go_region
   go_wp2
   refine bodyPost_ret (v := .tuple #[.agg #[.map none, .int .i64 0, .slice none 0 0], .iface r1 x1]) (by simp [results, Tryz.results47, go_sem, c20, c21, c22]) rfl ⟨Or.inr ⟨za hno, _, _, rfl⟩, ?_⟩
   first | exact Mem.below_drewN (za BB) 1 | exact (((Mem.below_drewN (za BB) 1).setCell (Nat.le_refl _) _).setCell (Nat.le_refl _) _).setCell (Nat.le_refl _) _
  ·have u2 : ¬ (4 : Int) < (kids.depth : Int) + 1 := by omega
   have hyes : Hid (NN = some kids) := hide (by rw [← za HNN]; exact Pl.nest_ok (by have := za HRL; omega) ht (by omega) h4)
   have HW2 : Hid (w.heap.size < w2.heap.size) := HWW
   have BB := hide bw4
   clear A1 bA bw1 bw2 HNN HE ht hlen bw4
   go_wp2
   refine bodyPost_ret (v := .tuple #[.agg #[.map q, .int .i64 m, .slice va kids.len vcap], .nilIface]) (by simp [results, Tryz.results47, go_sem, c20, c21, c22]) rfl ⟨Or.inl ⟨kids, q, m, va, vcap, za hyes, rfl, ?_⟩, ?_⟩
   ·refine Mem.yh0 (fun b hb hlt => ⟨?_, by simpa using hlt, ?_⟩) (za HL4)
    ·have := za HW2; omega
    ·have := za HW2
     rw [heap_setCell_other _ _ _ _ (by show b ≠ w.heap.size; omega), heap_setCell_other _ _ _ _ (by show b ≠ w.heap.size; omega), heap_setCell_other _ _ _ _ (by show b ≠ w.heap.size; omega)]
   ·exact (((za BB).setCell (Nat.le_refl _) _).setCell (Nat.le_refl _) _).setCell (Nat.le_refl _) _
 ·have hno : Hid (NN = none) := hide (by rw [← za HNN]; exact Pl.nest_fail ht)
  have A2 := A1.alloc (.cells #[.map none, .int .i64 0, .slice none 0 0] 74)
  have bw2 := bw1.alloc bw1.size (.cells #[.map none, .int .i64 0, .slice none 0 0] 74)
  have c20 := A2.cell 0
  have c21 := A2.cell 1
  have c22 := A2.cell 2
  have f20 := A2.fr 0
  have f21 := A2.fr 1
  have f22 := A2.fr 2
  simp only [kGs] at c20 c21 c22
  have BB := hide bw2
  clear A1 A2 bw1 bw2 HNN HE ht
  go_wp2
  refine bodyPost_ret (v := .tuple #[.agg #[.map none, .int .i64 0, .slice none 0 0], .iface r1 x1]) (by simp [results, Tryz.results47, go_sem, c20, c21, c22]) rfl ⟨Or.inr ⟨za hno, _, _, rfl⟩, ?_⟩
  first | exact za BB | exact (((za BB).setCell (Nat.le_refl _) _).setCell (Nat.le_refl _) _).setCell (Nat.le_refl _) _
end zc0
end Go.Proofs.YtfdbokipgofcdaaGreatDoor

namespace Go.Proofs.YtfdbokipgofcdaaGreatDoor
open Go.RowKit
namespace zc0
set_option maxRecDepth 100000 in
theorem zr8 (a : Option Addr) (cap : Nat) (Is : List Pl.It) (w : World) (hl : Is.length ≤ 1048576) (hcap : Is.length ≤ cap) (hv : Mem.za6 w a Is) (hok : ∀ x ∈ Is, x.t.L.length ≤ 1048576 ∧ ∀ n ∈ x.t.L, n.path.size ≤ 1048576 ∧ n.data.size ≤ 1048576)
  (r0 r1 r2 r3 : TypeId) (x0 x1 x2 x3 : Value) (hE : zq3 w r0 r1 r2 r3 x0 x1 x2 x3) :
  Calls Tryz.prog 15 #[.slice a Is.length cap] w fun e w' => e = .returned (.int .i64 (Pl.zs7 (Pl.nest (Pl.rowO (Is.map Pl.It.r))))) ∧ Below w.heap.size w w' := by
 have hz := hide (zk8 a cap Is w hl hcap hv hok _ _ _ _ _ _ _ _ hE)
 have hsz : ∀ k, Pl.nest (Pl.rowO (Is.map Pl.It.r)) = some k → k.sz ≤ 12 := fun k h => Pl.nest_sz h
 have HZ := hide hsz
 clear hv hok hE hsz
 generalize Pl.nest (Pl.rowO (Is.map Pl.It.r)) = NN at hz HZ ⊢
 go_enter Tryz.func15, Tryz.ntmps15
 go_wp2_with fail
 refine (za hz).mono ?_
 rintro e w1 ⟨h1, b1⟩
 clear hz
 rcases h1 with ⟨k, q, m, va, vcap, rfl, rfl, hlay⟩ | ⟨rfl, r, x, rfl⟩
 ·have bA : Below w1.heap.size w1 (w1.alloc (.cells #[.map q, .int .i64 m, .slice va k.len vcap] 74)) := (Below.refl _ _).alloc (Nat.le_refl _) _
  have bw := b1.trans (bA.mono b1.size)
  have hcall := hide (yd3 _ 1000 (Nat.le_refl _) k q m _ _ (by have := za HZ k rfl; omega) (Mem.zt8 hlay bA))
  clear HZ hlay bA b1
  go_wp2_with fail
  refine (za hcall).mono ?_
  rintro e w2 ⟨rfl, b2⟩
  have bb := bw.trans (b2.mono bw.size)
  clear hcall b2 bw
  go_wp2
  go_ret
  exact ⟨rfl, bb⟩
 ·go_wp2
  go_ret
  exact ⟨rfl, b1.alloc b1.size _⟩
end zc0
end Go.Proofs.YtfdbokipgofcdaaGreatDoor

namespace Go.Proofs.YtfdbokipgofcdaaGreatDoor
open Go.RowKit
namespace zc0
set_option maxRecDepth 100000 in
theorem zr1 (k : Pl.Fo) (q : Option Nat) (m : Int) (a : Option Addr) (cap : Nat) (w : World) :
  Calls Tryz.prog 80 #[.agg #[.map q, .int .i64 m, .slice a k.len cap]] w fun e w' => e = .returned (.bool (decide (k.len = 0))) ∧ Below w.heap.size w w' := by
 by_cases h : k.len = 0
 ·have t : (k.len : Int) = 0 := by omega
  go_enter Tryz.func80, Tryz.ntmps80
  go_wp2
  go_ret
  exact ⟨by simp [h], (Below.refl _ _).alloc (Nat.le_refl _) _⟩
 ·have t : ¬ (k.len : Int) = 0 := by omega
  go_enter Tryz.func80, Tryz.ntmps80
  go_wp2
  go_ret
  exact ⟨by simp [h], (Below.refl _ _).alloc (Nat.le_refl _) _⟩
end zc0
end Go.Proofs.YtfdbokipgofcdaaGreatDoor

namespace Go.Proofs.YtfdbokipgofcdaaGreatDoor
open Go.RowKit
namespace zc0
set_option linter.unusedSimpArgs false in
set_option maxRecDepth 100000 in
set_option maxHeartbeats 1000000 in
theorem yq5 (N : Nat → Prop) (n : Nat) (hn : n ≤ 1000) : ∀ (k : Pl.Fo) (q : Option Nat) (m : Int) (v : Value) (w : World), k.sz ≤ n → Mem.lay w N k v →
  Calls Tryz.prog 53 #[.agg #[.map q, .int .i64 m, v]] w fun e w' => e = .returned (.int .i64 (k.level : Int)) ∧ Below w.heap.size w w' := by
 have base : ∀ (q : Option Nat) (m : Int) (a : Option Addr) (cap : Nat) (w : World), Calls Tryz.prog 53 #[.agg #[.map q, .int .i64 m, .slice a 0 cap]] w fun e w' => e = .returned (.int .i64 0) ∧ Below w.heap.size w w' := by
  intro q m a cap w
  have b0 : Below w.heap.size w (w.alloc (.cells #[.map q, .int .i64 m, .slice a 0 cap] 74)) := (Below.refl _ _).alloc (Nat.le_refl _) _
  have hlf := hide (zr1 .nil q m a cap)
  simp only [Pl.Fo.len] at hlf
  go_enter Tryz.func53, Tryz.ntmps53
  go_wp2_with fail
  refine (za hlf _).mono ?_
  rintro e w1 ⟨rfl, b1⟩
  have bb := b0.trans (b1.mono b0.size)
  clear b0 b1 hlf
  go_wp2
  go_ret
  exact ⟨rfl, bb⟩
 induction n with
 | zero =>
  intro k q m v w hs hl
  obtain ⟨a, cap, rfl, -⟩ := hl
  cases k with
  | nil => exact base q m a cap w
  | cons a b => simp [Pl.Fo.sz] at hs
 | succ n ih =>
  intro k q m v w hs hl
  obtain ⟨a, cap, rfl, hrow⟩ := hl
  cases k with
  | nil => exact base q m a cap w
  | cons k0 m0 =>
   rcases hrow with h | ⟨g, rfl, hrow⟩
   ·cases h
   obtain ⟨⟨x, y, a1, cap1, c0, c1, c2, hg, hN, ⟨q1, rfl⟩, ⟨r1, rfl⟩, hsub⟩, -⟩ := hrow
   have hlen : (Pl.Fo.cons k0 m0).len = m0.len + 1 := rfl
   have hlv : (Pl.Fo.cons k0 m0).level = 1 + k0.level := rfl
   have hkd := Pl.level_le k0
   have hkz := k0.yg1
   simp only [Pl.Fo.sz] at hs
   have t1 : (0 : Int) < ((m0.len + 1 : Nat) : Int) := by omega
   have HL : Mem.lay w N k0 (.slice a1 k0.len cap1) := ⟨a1, cap1, rfl, hsub⟩
   have b0 : Below w.heap.size w (w.alloc (.cells #[.map q, .int .i64 m, .slice (some ⟨g, 0, none⟩) (m0.len + 1) cap] 74)) := (Below.refl _ _).alloc (Nat.le_refl _) _
   have A0 := Mem.Blk.new w #[.map q, .int .i64 m, .slice (some ⟨g, 0, none⟩) (m0.len + 1) cap] 74
   have hlf := hide (zr1 (.cons k0 m0) q m (some ⟨g, 0, none⟩) cap)
   rw [show decide ((Pl.Fo.cons k0 m0).len = 0) = false from decide_eq_false (by omega)] at hlf
   rw [hlen] at hlf ⊢
   rw [hlv]
   have HI := hide (fun W (b : Below w.heap.size w W) => ih (by omega) k0 q1 r1 _ W (by omega) (Mem.zt8 HL b))
   have HC : Hid (∀ W, Below w.heap.size w W → W.cell? ⟨g, 0, none⟩ = some (.map q1) ∧ W.cell? ⟨g, 1, none⟩ = some (.int .i64 r1) ∧ W.cell? ⟨g, 2, none⟩ = some (.slice a1 k0.len cap1)) := fun W b => ⟨(b.cell (p := ⟨g, _, none⟩) hg).trans c0, (b.cell (p := ⟨g, _, none⟩) hg).trans c1, (b.cell (p := ⟨g, _, none⟩) hg).trans c2⟩
   clear ih base hsub HL c0 c1 c2 hlen hlv
   go_enter Tryz.func53, Tryz.ntmps53
   go_wp2_with fail
   generalize w.alloc (.cells #[.map q, .int .i64 m, .slice (some ⟨g, 0, none⟩) (m0.len + 1) cap] 74) = w2 at b0 A0 ⊢
   refine (za hlf _).mono ?_
   rintro e w1 ⟨rfl, b1⟩
   have bb := b0.trans (b1.mono b0.size)
   have c02 := (A0.call b1).cell 2
   simp only [kGs] at c02
   obtain ⟨d0, d1, d2⟩ := za HC w1 bb
   have hcall := hide (za HI w1 bb)
   clear b0 b1 hlf A0 HI HC
   go_wp2_with fail
   refine (za hcall).mono ?_
   rintro e wX ⟨rfl, bX⟩
   have bw2 := bb.trans (bX.mono bb.size)
   clear bb bX hcall d0 d1 d2 c02
   go_wp2
   go_ret
   exact ⟨by simp, bw2⟩
end zc0
end Go.Proofs.YtfdbokipgofcdaaGreatDoor

namespace Go.Proofs.YtfdbokipgofcdaaGreatDoor
open Go.RowKit
namespace zc0
set_option maxRecDepth 100000 in
theorem ye2 (a : Option Addr) (cap : Nat) (Is : List Pl.It) (w : World) (hl : Is.length ≤ 1048576) (hcap : Is.length ≤ cap) (hv : Mem.za6 w a Is) (hok : ∀ x ∈ Is, x.t.L.length ≤ 1048576 ∧ ∀ n ∈ x.t.L, n.path.size ≤ 1048576 ∧ n.data.size ≤ 1048576)
  (r0 r1 r2 r3 : TypeId) (x0 x1 x2 x3 : Value) (hE : zq3 w r0 r1 r2 r3 x0 x1 x2 x3) :
  Calls Tryz.prog 21 #[.slice a Is.length cap] w fun e w' => e = .returned (.int .i64 (Pl.zn3 (Pl.nest (Pl.rowO (Is.map Pl.It.r))))) ∧ Below w.heap.size w w' := by
 have hz := hide (zk8 a cap Is w hl hcap hv hok _ _ _ _ _ _ _ _ hE)
 have hsz : ∀ k, Pl.nest (Pl.rowO (Is.map Pl.It.r)) = some k → k.sz ≤ 12 := fun k h => Pl.nest_sz h
 have HZ := hide hsz
 clear hv hok hE hsz
 generalize Pl.nest (Pl.rowO (Is.map Pl.It.r)) = NN at hz HZ ⊢
 go_enter Tryz.func21, Tryz.ntmps21
 go_wp2_with fail
 refine (za hz).mono ?_
 rintro e w1 ⟨h1, b1⟩
 clear hz
 rcases h1 with ⟨k, q, m, va, vcap, rfl, rfl, hlay⟩ | ⟨rfl, r, x, rfl⟩
 ·have bA : Below w1.heap.size w1 (w1.alloc (.cells #[.map q, .int .i64 m, .slice va k.len vcap] 74)) := (Below.refl _ _).alloc (Nat.le_refl _) _
  have bw := b1.trans (bA.mono b1.size)
  have hcall := hide (yq5 _ 1000 (Nat.le_refl _) k q m _ _ (by have := za HZ k rfl; omega) (Mem.zt8 hlay bA))
  clear HZ hlay bA b1
  go_wp2_with fail
  refine (za hcall).mono ?_
  rintro e w2 ⟨rfl, b2⟩
  have bb := bw.trans (b2.mono bw.size)
  clear hcall b2 bw
  go_wp2
  go_ret
  exact ⟨rfl, bb⟩
 ·go_wp2
  go_ret
  exact ⟨rfl, b1.alloc b1.size _⟩
end zc0
end Go.Proofs.YtfdbokipgofcdaaGreatDoor

namespace Go.Proofs.YtfdbokipgofcdaaGreatDoor
open Go.RowKit
namespace zh5
set_option maxRecDepth 100000 in
set_option maxHeartbeats 1000000 in
theorem less1_any (p t : ByteArray) (w : World) (hp : p.size ≤ 8000) (ht : t.size ≤ 8000) :
  Calls Tryz.prog 110 #[.string p, .string t] w fun e w' => e = .returned (.bool (Pl.za9 (Pl.names p) (Pl.names t))) ∧ Below w.heap.size w w' := by
 have hn1 := hide (fun W => yp3 p W (by omega))
 have hn2 := hide (fun W => yp3 t W (by omega))
 have hA := Pl.yg p
 have hB := Pl.yg t
 generalize Pl.names p = A at hn1 hA ⊢
 generalize Pl.names t = B at hn2 hB ⊢
 have HE : Hid (∀ k, k = A.length ∧ k ≤ B.length ∨ k = B.length ∧ k ≤ A.length → Pl.za9 (A.drop k) (B.drop k) = decide (A.length < B.length)) := fun k h => Pl.less_end h
 have HS : Hid (Pl.za9 A B = Pl.za9 (A.drop 0) (B.drop 0)) := rfl
 have HT : Hid (∀ k a b, A[k]? = some a → B[k]? = some b → a = b → Pl.za9 (A.drop k) (B.drop k) = Pl.za9 (A.drop (k + 1)) (B.drop (k + 1))) := fun k a b h1 h2 h3 => Pl.less_same h1 h2 h3
 have HF : Hid (∀ k a b, A[k]? = some a → B[k]? = some b → a ≠ b → Pl.za9 (A.drop k) (B.drop k) = Op.bytesLess a.toList b.toList) := fun k a b h1 h2 h3 => Pl.yv2 h1 h2 h3
 generalize Pl.za9 A B = R at HS ⊢
 go_enter Tryz.func110, Tryz.ntmps110
 go_wp2_with fail
 refine (za hn1 _).mono ?_
 rintro e w1 ⟨v, rfl, hown1, b1⟩
 have HO1 := hide hown1
 clear hown1
 go_wp2_with fail
 refine (za hn2 _).mono ?_
 rintro e w2 ⟨u, rfl, hown2, b2⟩
 have hv := hide (Mem.texts_call (Mem.zx8 (za HO1)) b2)
 have hu := hide (Mem.zx8 hown2)
 have b3 := b1.trans (b2.mono b1.size)
 have hs3 := b3.size
 clear b1 b2 hown2 HO1 hn1 hn2
 obtain ⟨va, vc, rfl⟩ := Mem.ya6 (za hv)
 obtain ⟨ua, uc, rfl⟩ := Mem.ya6 (za hu)
 have HCA : Hid (∀ (k : Nat) x, A[k]? = some x → ∃ b o, va = some ⟨b, o, none⟩ ∧ b < w2.heap.size ∧ w2.cell? ⟨b, o + k, none⟩ = some (.string x)) := fun k x hx => by
  rcases za hv with ⟨_, rfl⟩ | ⟨b, o, cap, h1, h2, h3⟩
  ·simp at hx
  ·cases h1; exact ⟨b, o, rfl, h2, h3 k x hx⟩
 have HCB : Hid (∀ (k : Nat) x, B[k]? = some x → ∃ b o, ua = some ⟨b, o, none⟩ ∧ b < w2.heap.size ∧ w2.cell? ⟨b, o + k, none⟩ = some (.string x)) := fun k x hx => by
  rcases za hu with ⟨_, rfl⟩ | ⟨b, o, cap, h1, h2, h3⟩
  ·simp at hx
  ·cases h1; exact ⟨b, o, rfl, h2, h3 k x hx⟩
 clear hv hu
 go_wp2
 go_loopw [7] (fun i wr => ∃ k : Nat, k ≤ A.length ∧ k ≤ B.length ∧ i = .int .i64 (k : Int) ∧ Below w2.heap.size w2 wr ∧ Hid (R = Pl.za9 (A.drop k) (B.drop k))) (fun i _ => A.length - (intOf i).toNat)
 case atStart => exact ⟨0, Nat.zero_le _, Nat.zero_le _, rfl, Below.refl _ _, HS⟩
 case round =>
  obtain ⟨k, hk, hk2, rfl, hbel, HR⟩ := hrel
  by_cases hlt : k < A.length ∧ k < B.length
  ·obtain ⟨l1, l2⟩ := hlt
   obtain ⟨y, hy⟩ : ∃ y, B[k]? = some y := ⟨_, List.getElem?_eq_getElem (by omega)⟩
   obtain ⟨x, hx⟩ : ∃ x, A[k]? = some x := ⟨_, List.getElem?_eq_getElem (by omega)⟩
   obtain ⟨b, o, rfl, hb, hcb⟩ := HCB.out k y hy
   obtain ⟨b', o', rfl, hb', hca⟩ := HCA.out k x hx
   have hc1 : wr.cell? ⟨b, o + k, none⟩ = some (.string y) := (hbel.cell (p := ⟨b, o + k, none⟩) hb).trans hcb
   have hc2 : wr.cell? ⟨b', o' + k, none⟩ = some (.string x) := (hbel.cell (p := ⟨b', o' + k, none⟩) hb').trans hca
   have u1 : (k : Int) < (A.length : Int) := by omega
   have u2 : (k : Int) < (B.length : Int) := by omega
   have u3 : (0 : Int) ≤ (k : Int) := by omega
   clear hcb hca
   by_cases hxy : x = y
   ·have t2 := Pl.yh8 hxy
    have HR2 : Hid (R = Pl.za9 (A.drop (k + 1)) (B.drop (k + 1))) := HR.out.trans (HT.out k x y hx hy hxy)
    clear hx hy HR hxy
    go_wp2
    go_quiet (fail)
    go_wp2
    go_roundw
    case rel => exact ⟨k + 1, by omega, by omega, by go_num, Mem.below_drewN hbel _, HR2⟩
    case measure => simp [intOf]; omega
   ·have t2 := Pl.ya0 hxy
    have E : Hid (R = Op.bytesLess x.toList y.toList) := HR.out.trans (HF.out k x y hx hy hxy)
    clear hx hy HR hxy
    go_wp2
    go_quiet (fail)
    go_wp2
    go_quiet (fail)
    go_wp2
    go_ret
    exact ⟨za4 E.out.symm, b3.trans ((Mem.below_drewN (Mem.below_drewN hbel _) _).mono hs3)⟩
  ·have E : Hid (R = decide (A.length < B.length)) := HR.out.trans (HE.out _ (by omega))
   clear HR
   by_cases l1 : k < A.length
   ·have u1 : (k : Int) < (A.length : Int) := by omega
    have u2 : ¬ (k : Int) < (B.length : Int) := by omega
    clear hlt
    go_wp2
    go_ret
    exact ⟨za4 (by rw [E.out]), b3.trans (hbel.mono hs3)⟩
   ·have u1 : ¬ (k : Int) < (A.length : Int) := by omega
    clear hlt
    go_wp2
    go_ret
    exact ⟨za4 (by rw [E.out]), b3.trans (hbel.mono hs3)⟩
end zh5
end Go.Proofs.YtfdbokipgofcdaaGreatDoor

namespace Go.Proofs.YtfdbokipgofcdaaGreatDoor
open Go.RowKit
namespace zh5

set_option maxHeartbeats 400000 in
theorem cut_any (s : ByteArray) (w : World) (hs : s.size ≤ maxLen) :
  Calls Tryz.prog 120 #[.string s] w fun e w' => e = .returned (.int .i64 (Pl.zf3 s s.size)) ∧ w' = w := by
 unfold maxLen at hs
 go_enter Tryz.func120, Tryz.ntmps120
 go_wp2
 go_loop [3, 4] (fun x i => ∃ k : Nat, k ≤ s.size ∧ i = .int .i64 (k : Int) ∧ x = .int .i64 (Pl.zf3 s k)) (fun _ i => s.size - (intOf i).toNat)
 case atStart => exact ⟨0, Nat.zero_le _, rfl, rfl⟩
 case round =>
  obtain ⟨k, hk, rfl, rfl⟩ := hrel
  by_cases hlt : k < s.size
  ·by_cases hb : s[k].toNat = 47
   ·have H := hide (Pl.slash_hit hlt hb)
    have t1 : ((s[k].toNat : Int) == 47) = true := by rw [beq_iff_eq]; omega
    clear hb
    go_wp2
    go_round
    case rel => exact ⟨k + 1, by omega, by go_num, by rw [za H]⟩
    case measure => simp [intOf]; omega
   ·have H := hide (Pl.yw9 hlt hb)
    have t1 : ((s[k].toNat : Int) == 47) = false := by rw [beq_eq_false_iff_ne]; omega
    clear hb
    go_wp2
    go_round
    case rel => exact ⟨k + 1, by omega, by go_num, by rw [za H]⟩
    case measure => simp [intOf]; omega
  ·obtain rfl : k = s.size := by omega
   go_wp2
   go_ret
   exact ⟨rfl, rfl⟩

theorem yf0 (s : ByteArray) (w : World) (hs : s.size ≤ maxLen) :
  Calls Tryz.prog 112 #[.string s] w fun e w' => e = .returned (.string (Pl.parent s)) ∧ w' = w := by
 have hb := Pl.slash_lt s s.size
 have hc := hide (cut_any s w hs)
 unfold maxLen at hs
 have E0 : Hid (Pl.zf3 s s.size < 0 → Pl.parent s = ⟨#[]⟩) := fun h => if_pos h
 have E1 : Hid (¬ Pl.zf3 s s.size < 0 → Pl.parent s = s.extract 0 (Pl.zf3 s s.size).toNat) := fun h => if_neg h
 generalize Pl.zf3 s s.size = k at hc hb E0 E1
 by_cases h : k < 0
 ·have E := hide (E0.out h)
  clear E0 E1
  go_enter Tryz.func112, Tryz.ntmps112
  go_wp2_with (go_at_call 120; refine (za hc).mono ?_; rintro e w' ⟨rfl, hw⟩; obtain rfl := hw.symm)
  go_ret
  exact ⟨zf2 (za E).symm, rfl⟩
 ·have E := hide (E1.out h)
  have t1 : 0 ≤ k := by omega
  have t2 : k ≤ (s.size : Int) := by omega
  clear E0 E1
  go_enter Tryz.func112, Tryz.ntmps112
  go_wp2_with (go_at_call 120; refine (za hc).mono ?_; rintro e w' ⟨rfl, hw⟩; obtain rfl := hw.symm)
  go_ret
  exact ⟨zf2 (za E).symm, rfl⟩
end zh5
end Go.Proofs.YtfdbokipgofcdaaGreatDoor

