/- Several texts of one claim in one file: WCopy5, MemPick. -/
import Derived.Test.YtfdbokipgofcdaaGreatDoorG13
import Derived.Test.YtfdbokipgofcdaaGreatDoorG36
namespace Go.Proofs.YtfdbokipgofcdaaGreatDoor
open Go.RowKit
namespace Mem
theorem items_cells {w : World} {b o : Nat} {Is : List Pl.It} (h : za6 w (some ⟨b, o, none⟩) Is) : ∀ j u, (Pl.zb9 Is)[j]? = some u → w.cell? ((⟨b, o, none⟩ : Addr).add j) = some u := by
 intro j u hj
 have hlt := (List.getElem?_eq_some_iff.1 hj).1
 rw [Pl.zp3] at hlt
 have ea : (⟨b, o, none⟩ : Addr).add j = ⟨b, o + j, none⟩ := by unfold Addr.add; split <;> simp_all
 rw [ea]
 obtain ⟨x, hx⟩ : ∃ x, Is[j / 2]? = some x := ⟨_, List.getElem?_eq_getElem (by omega)⟩
 obtain ⟨⟨b', o', e, hb, q0, q1⟩, -⟩ := h (j / 2) x hx
 cases e
 obtain ⟨c0, c1⟩ := Pl.zt0 Is (j / 2) x hx
 rcases Nat.mod_two_eq_zero_or_one j with hm | hm
 ·have e1 : j = j / 2 * 2 := by omega
  rw [← e1] at c0 q0
  rw [c0] at hj
  cases hj
  exact q0
 ·have e1 : j = j / 2 * 2 + 1 := by omega
  rw [← e1] at c1
  rw [show o + j / 2 * 2 + 1 = o + j by omega] at q1
  rw [c1] at hj
  cases hj
  exact q1
end Mem
namespace WCopy5
theorem zu5 : (Tryz.prog.info? 38).map (fun i => (i.zero, i.size, i.bytes)) = some (some (.agg #[.int .i64 0, .slice none 0 0]), 2, 32) := by kernel_rfl
set_option linter.unusedSimpArgs false in
set_option maxRecDepth 100000 in
set_option maxHeartbeats 1000000 in
theorem copy_any (b o cap : Nat) (Is : List Pl.It) (hl : Is.length ≤ 12) (h0 : Is.length ≠ 0) (hL : ∀ x ∈ Is, x.t.L.length ≤ 1000) (hR : ∀ x ∈ Is, Mem.okR x.t.a x.t.cap x.t.L) (w : World) (hv : Mem.za6 w (some ⟨b, o, none⟩) Is) :
  Calls Tryz.prog 60 #[.slice (some ⟨b, o, none⟩) Is.length cap] w fun e w' => ∃ g cap' Ds, e = .returned (.slice (some ⟨g, 0, none⟩) Is.length cap') ∧ w.heap.size ≤ g ∧ Mem.Io w' w.heap.size (.slice (some ⟨g, 0, none⟩) Is.length cap') Ds ∧ Ds.map Pl.It.r = Is.map Pl.It.r ∧ Below w.heap.size w w' := by
 obtain ⟨i0, hi, hz0, hz1, hz2⟩ := info_parts zu5
 have b0 : Below w.heap.size w (w.alloc (.cells #[] 38)) := (Below.refl _ _).alloc (Nat.le_refl _) _
 have O0 : Hid ((w.alloc (.cells #[] 38)).ownsRow w.heap.size 38 2 (.slice (some ⟨w.heap.size, 0, none⟩) 0 0) 0 []) := ⟨rfl, .inr ⟨w.heap.size, 0, #[], rfl, Nat.le_refl _, heap_alloc_new _ _, Nat.le_refl _, Nat.zero_le _, rfl, rfl⟩⟩
 have HC := hide (Mem.items_cells (Mem.zc1 hv b0))
 have HCP := hide (fun (x : Pl.It) (j : Nat) (hx : Is[j]? = some x) W (bb : Below w.heap.size w W) => WCopyV.copy_any x.t.a x.t.cap x.t.L W (hL x (List.mem_of_getElem? hx)) (hR x (List.mem_of_getElem? hx)) (Mem.za8 (hv j x hx).2 bb))
 clear hv hL hR
 go_enter Tryz.func60, Tryz.ntmps60
 go_wp2_with (at_builtin; refine Mem.zb0 _ rfl _ _ 23 rfl w.heap.size 38 i0 (.agg #[.int .i64 0, .slice none 0 0]) 2 32 Tryz.underlying23 hi hz0 hz1 hz2 rfl (by decide) _ _ _ rfl (za O0) ⟨b, o, none⟩ Is.length cap (Pl.zb9 Is) rfl (Pl.zp3 Is) (za HC) (Pl.zv5 Is) (by unfold maxLen; omega) (by omega) (by simp) ?_)
 intro v1 w1 own1 gr1 far1
 have hsh : ∃ g cap', v1 = .slice (some ⟨g, 0, none⟩) Is.length cap' := by
  rcases own1.2 with ⟨e, hz⟩ | ⟨g, c, cur, e, rest⟩
  ·exact absurd hz h0
  ·exact ⟨g, c, e⟩
 obtain ⟨g, cap', rfl⟩ := hsh
 have hg := World.ownsRow.lt own1 g rfl
 have bw1 := b0.grown gr1 (by simp) (fun q hq => by cases hq; exact Nat.le_refl _)
 have CQ : Hid (Mem.Cq w1 w.heap.size g cap' [] (Is.drop ([] : List Pl.It).length)) := hide ⟨by simpa using own1, fun i x hx => (by cases hx), fun i j x y _ hx => (by cases hx)⟩
 have DM : Hid (([] : List Pl.It).map Pl.It.r = (Is.take ([] : List Pl.It).length).map Pl.It.r) := rfl
 have HGW := hide hg.1
 clear own1 gr1 far1 O0 HC b0 hg
 go_wp2
 go_loopw [4] (fun i wr => ∃ Ds : List Pl.It, i = .int .i64 (Ds.length : Int) ∧ Ds.length ≤ Is.length ∧ Below w.heap.size w wr ∧ Hid (Mem.Cq wr w.heap.size g cap' Ds (Is.drop Ds.length)) ∧ Hid (Ds.map Pl.It.r = (Is.take Ds.length).map Pl.It.r)) (fun i _ => Is.length - (intOf i).toNat)
 case atStart => exact ⟨[], rfl, Nat.zero_le _, bw1, CQ, DM⟩
 case round =>
  obtain ⟨Ds, rfl, hD, hbel, HQ, HM⟩ := hrel
  clear CQ DM bw1
  by_cases hlt : Ds.length < Is.length
  ·obtain ⟨x, hx⟩ : ∃ x, Is[Ds.length]? = some x := ⟨_, List.getElem?_eq_getElem hlt⟩
   have hdr : Is.drop Ds.length = x :: Is.drop (Ds.length + 1) := by
    rw [List.drop_eq_getElem_cons hlt]
    congr 1
    exact Option.some.inj ((List.getElem?_eq_getElem hlt).symm.trans hx)
   rw [hdr] at HQ
   have u1 : (Ds.length : Int) < (Is.length : Int) := by omega
   have u3 : (0 : Int) ≤ (Ds.length : Int) := by omega
   obtain ⟨ce, -⟩ := Mem.own_cell (za HQ).row (k := Ds.length * 2 + 1) (u := x.t.val) (Pl.zt0 _ Ds.length x (by rw [List.getElem?_append_right (Nat.le_refl _), Nat.sub_self]; rfl)).2
   simp only [Pl.Tr.val] at ce
   have hcp := hide (za HCP x Ds.length hx wr hbel)
   have hS := hbel.size
   have HST := hide (fun W1 b t ht => (za HQ).step (W1 := W1) (t := t) b hS ht)
   have HQ2 := hide (fun W1 (b : Below wr.heap.size wr W1) => (Mem.own_cell ((za HQ).call b).row (k := Ds.length * 2 + 1) (u := x.t.val) (Pl.zt0 _ Ds.length x (by rw [List.getElem?_append_right (Nat.le_refl _), Nat.sub_self]; rfl)).2))
   have HMX : Hid ((Is.take (Ds.length + 1)).map Pl.It.r = (Is.take Ds.length).map Pl.It.r ++ [x.r]) := hide (by rw [List.take_add_one, hx, List.map_append]; rfl)
   clear hdr hx HQ
   go_wp2_with fail
   refine (za hcp).mono ?_
   rintro e w2 ⟨v2, rfl, own2, b2⟩
   obtain ⟨a2, c2, rfl⟩ := Mem.za1 own2
   obtain ⟨ce2, cf2⟩ := za HQ2 w2 b2
   have Q3 := hide (za HST w2 b2 ⟨a2, c2, x.t.L⟩ own2)
   have bw2 := hbel.trans (b2.mono hbel.size)
   have HB := hide (bw2.setCell (p := ⟨g, Ds.length * 2 + 1, none⟩) (za HGW) (.slice a2 x.t.L.length c2))
   have HM3 : Hid ((Ds ++ [(⟨x.m, ⟨a2, c2, x.t.L⟩⟩ : Pl.It)]).map Pl.It.r = (Is.take (Ds.length + 1)).map Pl.It.r) := hide (by rw [List.map_append, za HM, za HMX]; rfl)
   simp only [Pl.Tr.val] at ce2 Q3
   clear hcp HST HQ2 HMX HM own2 b2 bw2 ce hbel
   go_wp2
   go_roundw
   case rel =>
    refine ⟨Ds ++ [⟨x.m, ⟨a2, c2, x.t.L⟩⟩], ?_, ?_, za HB, ?_, ?_⟩
    ·rw [List.length_append, List.length_singleton]; go_num
    ·rw [List.length_append, List.length_singleton]; omega
    ·rw [List.length_append, List.length_singleton]; exact Q3
    ·rw [List.length_append, List.length_singleton]; exact HM3
   case measure => simp [intOf]; omega
  ·have u1 : ¬ (Ds.length : Int) < (Is.length : Int) := by omega
   have hDe : Ds.length = Is.length := by omega
   have IO : Hid (Mem.Io wr w.heap.size (.slice (some ⟨g, 0, none⟩) Is.length cap') Ds) := hide (by
    have h1 := za HQ
    rw [hDe, List.drop_length] at h1
    have h2 := h1.done
    rw [hDe] at h2
    exact h2)
   have HM3 : Hid (Ds.map Pl.It.r = Is.map Pl.It.r) := hide (by have := za HM; rw [hDe, List.take_length] at this; exact this)
   clear HQ HM hDe
   go_wp2
   go_ret
   exact ⟨g, cap', rfl, za HGW, Ds, za IO, za HM3, hbel⟩
end WCopy5
end Go.Proofs.YtfdbokipgofcdaaGreatDoor

namespace Go.Proofs.YtfdbokipgofcdaaGreatDoor
open Go.RowKit
namespace Mem
theorem slice_hi {P : Program} {dT E : TypeId} {s : Nat} (hu : P.underlying dT = some (.slice E)) (hz : ∀ w, (sizeOf E).run P w = .ok s w) (w : World) (a : Addr) (n cap k : Nat) (hk : k ≤ cap) (h0 : cap ≠ 0) :
  (Instr.slice dT (.slice (some a) n cap) none (some (.int .i64 (k : Int))) none).run P w = .ok (.slice (some a) k cap) w := by
 have ht : P.underlying dT = some (.slice (P.elem dT)) := by simp [Program.elem, hu]
 have he : P.elem dT = E := by simp [Program.elem, hu]
 have h := run_slice_h (P := P) w dT (some a) n cap ht .i64 (k : Int) (by omega) (by omega)
 rw [h, he, hz]
 have e0 : a.add 0 = a := by unfold Addr.add; split <;> simp_all
 simp [sliced, Result.andThen, h0, e0]
theorem slice_lo {P : Program} {dT E : TypeId} {s : Nat} (hu : P.underlying dT = some (.slice E)) (hz : ∀ w, (sizeOf E).run P w = .ok s w) (w : World) (g n cap k : Nat) (hk : k < n) (hc : n ≤ cap) :
  (Instr.slice dT (.slice (some ⟨g, 0, none⟩) n cap) (some (.int .i64 (k : Int))) none none).run P w = .ok (.slice (some ⟨g, k * s, none⟩) (n - k) (cap - k)) w := by
 have ht : P.underlying dT = some (.slice (P.elem dT)) := by simp [Program.elem, hu]
 have he : P.elem dT = E := by simp [Program.elem, hu]
 have h := run_slice_l (P := P) w dT (some ⟨g, 0, none⟩) n cap ht .i64 (k : Int) (by omega) (by omega)
 rw [h, he, hz]
 have h1 : ¬ cap = k := by omega
 simp [sliced, Result.andThen, h1, add_lit]
theorem Io.pick {W W' : World} {S : Nat} {v v' : Value} {Ds Es : List Pl.It} (h : Io W S v Ds) (b : Below W.heap.size W W') (hS : S ≤ W.heap.size) (own' : W'.ownsRow W.heap.size 38 2 v' Es.length (Pl.zb9 Es)) (φ : Nat → Nat) (hφ : ∀ i j, φ i = φ j → i = j) (hE : ∀ (i : Nat) x, Es[i]? = some x → Ds[φ i]? = some x) : Io W' S v' Es := by
 have h1 := h.call b
 refine ⟨own_mono own' hS, fun i x hx => ⟨(h1.each _ x (hE i x hx)).1, fun g hg e => ?_⟩, fun i j x y hij hx hy g hg => h1.apart _ _ x y (fun e => hij (hφ i j e)) (hE i x hx) (hE j y hy) g hg⟩
 have h2 := (zc3 (h.each _ x (hE i x hx)).1 g hg).2
 have h3 := (World.ownsRow.lt own' g e).1
 omega
theorem Io.many {W : World} {S g cap n : Nat} {x : Pl.It} {Rs : List Pl.It} (h : Io W S (.slice (some ⟨g, 0, none⟩) n cap) (x :: Rs)) (m : Int) : Io (W.setCell ⟨g, 0, none⟩ (.int .i64 m)) S (.slice (some ⟨g, 0, none⟩) n cap) (⟨m, x.t⟩ :: Rs) := by
 obtain ⟨rfl, -⟩ := h.items
 have key : ∀ (i : Nat) y, ((⟨m, x.t⟩ : Pl.It) :: Rs)[i]? = some y → ∃ z, (x :: Rs)[i]? = some z ∧ z.t = y.t := fun i y hy => by
  cases i with
  | zero =>
   have e : (⟨m, x.t⟩ : Pl.It) = y := by simpa using hy
   subst e
   exact ⟨x, rfl, rfl⟩
  | succ i => exact ⟨y, by simpa using hy, rfl⟩
 refine ⟨?_, fun i y hy => ?_, fun i j y z hij hy hz q hq => ?_⟩
 ·have h2 := own_put h.row 0 (.int .i64 m)
  rw [Pl.cellsI_many] at h2
  exact h2
 ·obtain ⟨z, hz, e⟩ := key i y hy
  rw [← e]
  obtain ⟨h3, h4⟩ := h.each i z hz
  exact ⟨zw3 h3 _ _ (fun q hq e2 => h4 q hq (by rw [← e2]; rfl)), h4⟩
 ·obtain ⟨y', hy', e⟩ := key i y hy
  obtain ⟨z', hz', e2⟩ := key j z hz
  rw [← e2]
  rw [← e] at hq
  exact h.apart i j y' z' hij hy' hz' q hq
end Mem
namespace Pl
theorem pick_get {Ds : List It} {k i : Nat} {x : It} (h : (Ds.take k ++ Ds.drop (k + 1))[i]? = some x) (hk : k < Ds.length) : Ds[if i < k then i else i + 1]? = some x := by
 have hl : (Ds.take k).length = k := by rw [List.length_take]; omega
 by_cases e : i < k
 ·rw [List.getElem?_append_left (by omega), List.getElem?_take, if_pos e] at h
  rw [if_pos e]; exact h
 ·rw [List.getElem?_append_right (by omega), hl, List.getElem?_drop] at h
  rw [if_neg e, show i + 1 = k + 1 + (i - k) by omega]; exact h
theorem pick_inj (k : Nat) : ∀ i j : Nat, (if i < k then i else i + 1) = (if j < k then j else j + 1) → i = j := by
 intro i j h
 split at h <;> split at h <;> omega
end Pl
end Go.Proofs.YtfdbokipgofcdaaGreatDoor

