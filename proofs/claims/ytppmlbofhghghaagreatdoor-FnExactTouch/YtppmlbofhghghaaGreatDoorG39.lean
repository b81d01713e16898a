/- Several texts of one claim in one file: WInNest, WFaceN. -/
import Derived.Test.YtppmlbofhghghaaGreatDoorG27
import Derived.Test.YtppmlbofhghghaaGreatDoorG30
import Derived.Test.YtppmlbofhghghaaGreatDoorG34
import Derived.Test.YtppmlbofhghghaaGreatDoorG36
import Derived.Test.YtppmlbofhghghaaGreatDoorG38
namespace Go.Proofs.YtppmlbofhghghaaGreatDoor
open Go.RowKit Go.Maps
namespace zl1
open zc3
structure EndsN (W w' : World) (e : Ending) (c : Int) (XS : List (Int × List Pl.Nd)) : Prop where
 out : (c = 0 ∧ ∃ v Is, e = .returned v ∧ Mem.Io w' W.heap.size v Is ∧ Is.map Pl.It.r = XS) ∨ (c ≠ 0 ∧ XS = [] ∧ e = .panicked (pnc c))
 bel : Below W.heap.size W w'
structure Hn (w W : World) (n : Pl.Nd) (Fp Fl : FuncId) (X5 q : Nat) (a1 : Option Addr) (cap1 : Nat) (L : List Pl.Nd) (K : Pl.Fx) (qs : Nat) (S : List Pl.Nd) : Prop where
 bel : Below w.heap.size w W
 chg : Mem.Blk W w.heap.size (zc3.chg n Fp Fl) 68
 nest : Mem.Blk W X5 #[.map (some q), .int .i64 (K.len : Int), .slice a1 K.len cap1] 106
 lx : w.heap.size < X5
 own : Mem.ownM W q L
 lay : Mem.layX W (fun b => w.heap.size ≤ b) K (.slice a1 K.len cap1)
 ap : Mem.apart W q K (.slice a1 K.len cap1)
 seen : Mem.ownM W qs S
 qlt : w.heap.size ≤ q ∧ ∀ j ∈ q :: Mem.zn7 W K (.slice a1 K.len cap1), j < qs
theorem Hn.call {w W W' : World} {n : Pl.Nd} {Fp Fl : FuncId} {X5 q : Nat} {a1 : Option Addr} {cap1 : Nat} {L : List Pl.Nd} {K : Pl.Fx} {qs : Nat} {S : List Pl.Nd} (h : Hn w W n Fp Fl X5 q a1 cap1 L K qs S) (b : Below W.heap.size W W') : Hn w W' n Fp Fl X5 q a1 cap1 L K qs S :=
 ⟨h.bel.trans (b.mono h.bel.size), h.chg.call b, h.nest.call b, h.lx, h.own.call b, Mem.zl h.lay b, Mem.zo2 h.lay h.ap b, h.seen.call b, h.qlt.1, by rw [Mem.zt (fun j _ hj => b.block j hj) h.lay]; exact h.qlt.2⟩
theorem Hn.drew {w W : World} {n : Pl.Nd} {Fp Fl : FuncId} {X5 q : Nat} {a1 : Option Addr} {cap1 : Nat} {L : List Pl.Nd} {K : Pl.Fx} {qs : Nat} {S : List Pl.Nd} (h : Hn w W n Fp Fl X5 q a1 cap1 L K qs S) : Hn w W.drew n Fp Fl X5 q a1 cap1 L K qs S := h.call ⟨rfl, rfl, rfl, Nat.le_refl _, fun _ _ => rfl⟩
structure Gn (w W : World) (n : Pl.Nd) (Fp Fl : FuncId) (X5 q : Nat) (a1 : Option Addr) (cap1 : Nat) (L : List Pl.Nd) (K : Pl.Fx) (qs : Nat) (S : List Pl.Nd) (qf Y : Nat) (lev : Int) : Prop where
 hn : Hn w W n Fp Fl X5 q a1 cap1 L K qs S
 gr : Mem.Blk W Y #[.map (some qf), .map (some qs), .int .i64 lev] 118
 ly : w.heap.size < Y
 fst : Mem.zn9 W K q (.slice a1 K.len cap1) qf
 leaf : Mem.ownM W qf (Pl.zd5 L K)
 ne : qf ≠ qs ∧ w.heap.size ≤ qf
theorem first_in {w W : World} {n : Pl.Nd} {Fp Fl : FuncId} {X5 q : Nat} {a1 : Option Addr} {cap1 : Nat} {L : List Pl.Nd} {K : Pl.Fx} {qs : Nat} {S : List Pl.Nd} {qf : Nat} (h : Hn w W n Fp Fl X5 q a1 cap1 L K qs S) (hf : Mem.zn9 W K q (.slice a1 K.len cap1) qf) : qf ≠ qs ∧ w.heap.size ≤ qf := by
 rcases hf with ⟨rfl, rfl⟩ | ⟨hk, b, n', cap', e1, e2⟩
 ·have := h.qlt.2 qf (List.mem_cons_self ..)
  exact ⟨by omega, h.qlt.1⟩
 ·injection e1 with e1 e3 e4
  obtain ⟨a, cap, e5, h6⟩ := h.lay
  injection e5 with e5 e7 e8
  rcases h6 with h6 | ⟨b', e9, h10, h11⟩
  ·exact absurd h6 hk
  rw [← e5, e1] at e9
  cases e9
  have hm : qf ∈ Mem.zk9 W K b 0 := by rw [e2]; exact Mem.firstQ_mem K b 0 hk h11
  have h12 : Mem.zn7 W K (.slice a1 K.len cap1) = Mem.zk9 W K b 0 := by rw [e1]; rfl
  have h13 := h.qlt.2 qf (List.mem_cons_of_mem _ (by rw [h12]; exact hm))
  exact ⟨by omega, (Mem.mapsR_in K b 0 h11 qf hm).1⟩
theorem first_call {W W' : World} {N : Nat → Prop} {K : Pl.Fx} {q qf : Nat} {v : Value} (b : Below W.heap.size W W') (hl : Mem.layX W N K v) (hf : Mem.zn9 W K q v qf) : Mem.zn9 W' K q v qf := by
 rcases hf with ⟨h1, h2⟩ | ⟨hk, b', n', cap', e1, e2⟩
 ·exact .inl ⟨h1, h2⟩
 ·subst e1
  obtain ⟨a, cap, e5, h6⟩ := hl
  injection e5 with e5 e7 e8
  rcases h6 with h6 | ⟨b'', e9, h10, h11⟩
  ·exact absurd h6 hk
  rw [← e5] at e9
  cases e9
  exact .inr ⟨hk, b', n', cap', rfl, by rw [e2, Mem.yg0 (fun j _ hj => b.block j hj) K b' 0 h11]⟩
theorem yo1 {W W' : World} {N : Nat → Prop} {K : Pl.Fx} {q qf : Nat} {v : Value} {L X : List Pl.Nd} (b : Below W.heap.size W W') (hl : Mem.layX W N K v) (hq : Mem.ownM W q L) (hf : Mem.zn9 W' K q v qf) (ho : Mem.ownM W' qf X) : Mem.zn9 W K q v qf ∧ Mem.ownM W qf X := by
 rcases hf with ⟨h1, rfl⟩ | ⟨hk, b', n', cap', e1, e2⟩
 ·exact ⟨.inl ⟨h1, rfl⟩, ho.same (b.block qf hq.lt).symm⟩
 ·subst e1
  obtain ⟨a, cap, e5, h6⟩ := hl
  injection e5 with e5 e7 e8
  rcases h6 with h6 | ⟨b'', e9, h10, h11⟩
  ·exact absurd h6 hk
  rw [← e5] at e9
  cases e9
  rw [Mem.yg0 (fun j _ hj => b.block j hj) K b' 0 h11] at e2
  refine ⟨.inr ⟨hk, b', n', cap', rfl, e2⟩, ho.same (b.block qf ?_).symm⟩
  rw [e2]
  exact Mem.firstQ_lt K b' 0 hk h11
theorem gn_of {w W W' : World} {n : Pl.Nd} {Fp Fl : FuncId} {X5 q : Nat} {a1 : Option Addr} {cap1 : Nat} {L : List Pl.Nd} {K : Pl.Fx} {qs : Nat} {S : List Pl.Nd} {qf Y : Nat} {lev : Int} (h : Hn w W n Fp Fl X5 q a1 cap1 L K qs S) (hf : Mem.zn9 W K q (.slice a1 K.len cap1) qf) (ho : Mem.ownM W qf (Pl.zd5 L K)) (b : Below W.heap.size W W') (hg : Mem.Blk W' Y #[.map (some qf), .map (some qs), .int .i64 lev] 118) (hY : W.heap.size ≤ Y) : Gn w W' n Fp Fl X5 q a1 cap1 L K qs S qf Y lev :=
 ⟨h.call b, hg, by have := h.bel.size; have := h.nest.lt; have := h.lx; omega, first_call b h.lay hf, ho.call b, first_in h hf⟩
set_option linter.unusedSimpArgs false in
set_option maxRecDepth 100000 in
set_option maxHeartbeats 8000000 in
theorem yb6 (n : Pl.Nd) (Fp Fl : FuncId) (pc : List Pl.Nd → Int) (pO : List Pl.Nd → List Pl.Nd) (lf : List Pl.Nd → List Pl.Nd → Int → List Pl.Nd) (a : Option Addr) (cap : Nat) (Is : List Pl.It) (w : World) (hl : Is.length ≤ 1048576) (hcap : Is.length ≤ cap) (hv : Mem.zb3 w a Is) (hok : ∀ x ∈ Is, x.t.L.length ≤ 1048576 ∧ ∀ n ∈ x.t.L, n.path.size ≤ 1048576 ∧ n.data.size ≤ 1048576) (x : Nat → Addr) (hE : WIs.Six w x)
  (hF : ∀ B W, (callFunc Fp #[.map (some B), n.val]).run Tryz.prog W = .ok (.enter Fp #[.map (some B), n.val]) W)
  (hP : ∀ S, Pl.zd1 S = true → Pl.zb n = true → ∀ B W, Below w.heap.size w W → w.heap.size ≤ B → W.ownsMap Tryz.prog 9 MapN.elem B 40 (MapN.mapOf S) → Calls Tryz.prog Fp #[.map (some B), n.val] W fun e w' => Did W w' e B (pc S) (pO S))
  (hFl : ∀ g W, (callFunc Fl #[g, n.val]).run Tryz.prog W = .ok (.enter Fl #[g, n.val]) W)
  (hLf : ∀ S L1 qf qs lev N W, Pl.zd9 L1 → L1.length ≤ 100 → Pl.zd1 S = true → pc S = 0 → Pl.zb n = true → N ≤ 900 → W.ownsMap Tryz.prog 9 MapN.elem qf N (MapN.mapOf L1) → W.ownsMap Tryz.prog 9 MapN.elem qs 40 (MapN.mapOf S) → Calls Tryz.prog Fl #[.agg #[.map (some qf), .map (some qs), .int .i64 lev], n.val] W fun e w' => zv7.Done W w' e qf (lf S L1 lev))
  (hlr : ∀ S L1 lev, Pl.zd9 L1 → Pl.zd1 S = true → pc S = 0 → Pl.zb n = true → Pl.zd9 (lf S L1 lev))
  (hW : ∀ S, Pl.zd1 S = true → pc S = 0 → Pl.zb n = true → ∀ p ∈ Pl.zj4 n.path, ∃ d, Pl.lk S p = some d) :
  Calls Tryz.prog 37 #[.agg (chg n Fp Fl), .slice a Is.length cap] w fun e w' => EndsN w w' e (Pl.zb5 (Is.map Pl.It.r) n pc lf).1 (Pl.zb5 (Is.map Pl.It.r) n pc lf).2 := by
 have b0 : Below w.heap.size w (w.alloc (.cells (chg n Fp Fl) 68)) := (Below.refl _ _).alloc (Nat.le_refl _) _
 have A0 := Mem.Blk.new w (chg n Fp Fl) 68
 have hs0 : (w.alloc (.cells (chg n Fp Fl) 68)).heap.size = w.heap.size + 1 := by simp
 have hxl : (Is.map Pl.It.r).length = Is.length := List.length_map ..
 have HNE := hide (fun W (b : Below w.heap.size w W) => zt8.nest_any a cap Is W hl hcap (Mem.za6 hv b) hok _ _ _ _ _ _ _ _ (zz1.six4 (hE.call b)))
 have HSI := hide (fun W (b : Below w.heap.size w W) => zz1.sight_any a cap Is W hl hcap (Mem.za6 hv b) hok x (hE.call b))
 have HE := hide (fun W (b : Below w.heap.size w W) => hE.call b)
 clear hv hok hE
 by_cases hs : n.path.size ≤ 8000 ∧ n.data.size ≤ 8000
 rotate_left
 ·have e1 : Pl.zb5 (Is.map Pl.It.r) n pc lf = (2, []) := by rw [Pl.zb5, if_neg hs]
  rw [e1]
  have hlo := hide (fun W => long_yes n Fp Fl W hs)
  clear HNE HSI HE hF hP hFl hLf hlr hW e1
  go_enter Tryz.func37, Tryz.ntmps37
  go_wp2_with fail
  refine (za hlo _).mono ?_
  rintro e w1 ⟨rfl, b1⟩
  go_wp2_with fail
  refine (zk6 2 _).mono ?_
  rintro e wR ⟨rfl, hwR⟩
  subst wR
  go_wp2_with fail
  exact ⟨rfl, ⟨.inr ⟨by decide, rfl, rfl⟩, b0.trans (b1.mono b0.size)⟩⟩
 have hlo := hide (fun W => long_no n Fp Fl W hs.1 hs.2)
 have HN := hide (fun W => zv9.zn0 n W (by omega) (by omega))
 have EQ : Hid (Pl.zb5 (Is.map Pl.It.r) n pc lf = if 400 < Is.length then (2, []) else match Pl.zn6 (Is.map Pl.It.r) with
  | none => (1, [])
  | some (L, K) => if Pl.zb n = true then if Pl.ze (Is.map Pl.It.r) = 0 then if pc (Pl.zc5 (Is.map Pl.It.r)) = 0 then
      if 40 < (lf (Pl.zc5 (Is.map Pl.It.r)) (Pl.zg9 (Pl.zc5 (Is.map Pl.It.r)) (Pl.zd5 L K) (Pl.zj4 n.path)) (K.shape.level : Int)).length then (9, [])
      else (0, (Pl.setF (lf (Pl.zc5 (Is.map Pl.It.r)) (Pl.zg9 (Pl.zc5 (Is.map Pl.It.r)) (Pl.zd5 L K) (Pl.zj4 n.path)) (K.shape.level : Int)) (.cons L K .nil)).flat)
     else (pc (Pl.zc5 (Is.map Pl.It.r)), []) else (Pl.ze (Is.map Pl.It.r), []) else (1, [])) := by
  unfold Pl.zb5
  rw [if_pos hs, hxl]
  exact rfl
 have HVP : Hid (Pl.ze (Is.map Pl.It.r) = 0 → Pl.zd1 (Pl.zc5 (Is.map Pl.It.r)) = true) := fun h => Pl.zt9 h
 have hsl := Pl.yd9 (Is.map Pl.It.r)
 have HX : Hid (∀ L k, Pl.nest (Pl.rowO (Is.map Pl.It.r)) = some (Pl.Fx.shape k) → (Pl.Fx.cons L k .nil).flat = Is.map Pl.It.r → Pl.zn6 (Is.map Pl.It.r) = some (L, k) ∧ k.sz ≤ 900 ∧ Is.length ≤ 12) := fun L k h1 h2 => by
  have h3 := Pl.zn4 h1
  have h4 := congrArg List.length h2
  rw [Pl.Fx.yc8, Pl.Fx.sz] at h4
  exact ⟨Pl.yb4 h1 h2, by omega, by omega⟩
 have HX0 : Hid (Pl.nest (Pl.rowO (Is.map Pl.It.r)) = none → Pl.zn6 (Is.map Pl.It.r) = none) := fun h => Pl.zw3 h
 have HFL := hide (fun L k (h : (Pl.Fx.cons L k .nil).flat = Is.map Pl.It.r) => h)
 generalize Pl.zb5 (Is.map Pl.It.r) n pc lf = R at EQ ⊢
 generalize Pl.ze (Is.map Pl.It.r) = VC at EQ HSI HVP
 generalize Pl.zc5 (Is.map Pl.It.r) = S at EQ HSI HVP hsl
 generalize Pl.zn6 (Is.map Pl.It.r) = NX at EQ HX HX0
 generalize Pl.nest (Pl.rowO (Is.map Pl.It.r)) = NN at HNE HX HX0
 have HF := hide hF
 have HPP_ := hide hP
 have HFl := hide hFl
 have HLf := hide hLf
 have Hlr := hide hlr
 have HW := hide hW
 clear hF hP hFl hLf hlr hW hxl
 go_enter Tryz.func37, Tryz.ntmps37
 go_wp2_with fail
 generalize w.alloc (.cells (chg n Fp Fl) 68) = w0 at b0 A0 hs0 ⊢
 refine (za hlo _).mono ?_
 rintro e w1 ⟨rfl, b1⟩
 have bw1 := b0.trans (b1.mono b0.size)
 have A1 := A0.call b1
 have hs1 := b1.size
 clear hlo b0 b1 A0
 go_wp2_with fail
 refine (zk 2 _).mono ?_
 rintro e wR ⟨rfl, hwR⟩
 subst wR
 go_wp2_with fail
 refine (za HNE _ bw1).mono ?_
 rintro e w2 ⟨hN, b2⟩
 have bw2 := bw1.trans (b2.mono bw1.size)
 have A2 := A1.call b2
 clear HNE A1
 rcases hN with ⟨L, K, q, a1, cap1, hNN, rfl, ⟨⟨hqw, hap⟩, hqm⟩, ⟨hko, hfl⟩, hlay⟩ | ⟨hNN, r, y, rfl, hwhy⟩
 rotate_left
 ·have bw3 := bw2.alloc bw2.size (.cells #[.map none, .int .i64 0, .slice none 0 0] 106)
  rcases hwhy with ⟨h4, rfl, rfl⟩ | ⟨h4, rfl, rfl⟩
  ·have eR : R = (2, []) := by have := za EQ; rw [if_pos h4] at this; exact this
   subst eR
   have hcd := hide (WIs.code0 x _ (za HE _ bw3))
   clear EQ HSI HE HX HX0 HFL hNN A2 HN
   go_wp2_with fail
   refine (za hcd).mono ?_
   rintro e w3 ⟨rfl, hw3⟩
   subst w3
   go_wp2_with fail
   refine (yg2 2 (by decide) _).mono ?_
   rintro e w4 ⟨rfl, hw4⟩
   subst w4
   go_wp2_with fail
   exact ⟨rfl, ⟨.inr ⟨by decide, rfl, rfl⟩, bw3⟩⟩
  ·have eR : R = (1, []) := by have := za EQ; rw [if_neg (by omega), za HX0 hNN] at this; exact this
   subst eR
   have hcd := hide (WIs.code1 x _ (za HE _ bw3))
   clear EQ HSI HE HX HX0 HFL hNN A2 HN
   go_wp2_with fail
   refine (za hcd).mono ?_
   rintro e w3 ⟨rfl, hw3⟩
   subst w3
   go_wp2_with fail
   refine (yg2 1 (by decide) _).mono ?_
   rintro e w4 ⟨rfl, hw4⟩
   subst w4
   go_wp2_with fail
   exact ⟨rfl, ⟨.inr ⟨by decide, rfl, rfl⟩, bw3⟩⟩
 obtain ⟨hnx, hksz, hi12⟩ := za HX L K hNN hfl
 have eR := za EQ
 rw [if_neg (by omega), hnx] at eR
 simp only at eR
 have ER := hide eR
 have bA : Below w2.heap.size w2 (w2.alloc (.cells #[.map (some q), .int .i64 (K.len : Int), .slice a1 K.len cap1] 106)) := (Below.refl _ _).alloc (Nat.le_refl _) _
 have hlay0 : Mem.layX w2 (fun b => w.heap.size ≤ b) K (.slice a1 K.len cap1) := Mem.layX_weak hlay (fun b hb _ => by omega)
 have bw3 := bw2.trans (bA.mono bw2.size)
 have C3 := A2.call bA
 have N3 := Mem.Blk.new w2 #[.map (some q), .int .i64 (K.len : Int), .slice a1 K.len cap1] 106
 have O3 := hide (hqm.call bA)
 have L3 := hide (Mem.zl hlay0 bA)
 have P3 := hide (Mem.zo2 hlay hap bA)
 have hX5 : w.heap.size < w2.heap.size := by have := b2.size; omega
 have hqw2 : w.heap.size ≤ q := by omega
 have c0 := C3.cell 0
 have c1 := C3.cell 1
 have c2 := C3.cell 2
 have c3 := C3.cell 3
 have c4 := C3.cell 4
 simp only [kA0, kA1, kA2] at c0 c1 c2 c3 c4
 have HKO := hide hko
 clear EQ eR HX HX0 HFL hNN hfl hlay hlay0 hap hqm hqw hko A2 bw2 hnx bA
 go_wp2_with fail
 generalize w2.alloc (.cells #[.map (some q), .int .i64 (K.len : Int), .slice a1 K.len cap1] 106) = w3 at bw3 C3 N3 O3 L3 P3 c0 c1 c2 c3 c4 ⊢
 generalize w2.heap.size = X5 at N3 hX5 ⊢
 refine (WCutF.code_nil _).mono ?_
 rintro e wR ⟨rfl, hwR⟩
 subst wR
 go_wp2_with fail
 refine (need_ok _).mono ?_
 rintro e wR ⟨rfl, hwR⟩
 subst wR
 go_wp2_with fail
 refine (za HN _).mono ?_
 rintro e w4 ⟨rfl, b4⟩
 have bw4 := bw3.trans (b4.mono bw3.size)
 have C4 := C3.call b4
 have N4 := N3.call b4
 have O4 := hide ((za O3).call b4)
 have L4 := hide (Mem.zl (za L3) b4)
 have P4 := hide (Mem.zo2 (za L3) (za P3) b4)
 clear HN C3 N3 O3 L3 P3 bw3 b4 c0 c1 c2 c3 c4
 cases hnb : Pl.zb n with
 | false =>
  have eR : R = (1, []) := by have := za ER; rw [hnb, if_neg (by decide)] at this; exact this
  subst eR
  clear ER HSI HE
  go_wp2_with fail
  refine (zk6 1 _).mono ?_
  rintro e wR ⟨rfl, hwR⟩
  subst wR
  go_wp2_with fail
  exact ⟨rfl, ⟨.inr ⟨by decide, rfl, rfl⟩, bw4⟩⟩
 | true =>
 have ER := hide (by have := za ER; rw [if_pos hnb] at this; exact this)
 go_wp2_with fail
 refine (zk 1 _).mono ?_
 rintro e wR ⟨rfl, hwR⟩
 subst wR
 go_wp2_with fail
 refine (za HSI _ bw4).mono ?_
 rintro e w5 ⟨v5, rfl, own5, b5⟩
 obtain ⟨sa, sc, rfl⟩ := Mem.za2 own5
 have N5n := hide (Mem.zc7 own5).2
 have hsO : (w5.alloc (.cells #[.slice sa S.length sc, .int .i64 VC] 55)).heap.size = w5.heap.size + 1 := by simp
 have b6 : Below w4.heap.size w4 (w5.alloc (.cells #[.slice sa S.length sc, .int .i64 VC] 55)) := b5.alloc b5.size _
 have bw6 := bw4.trans (b6.mono bw4.size)
 have C6 := C4.call b6
 have N6 := N4.call b6
 have O6 := hide ((za O4).call b6)
 have L6 := hide (Mem.zl (za L4) b6)
 have P6 := hide (Mem.zo2 (za L4) (za P4) b6)
 have T6 := Mem.Blk.new w5 #[.slice sa S.length sc, .int .i64 VC] 55
 have D6 := hide (Mem.za0 (za N5n) ((Below.refl _ _).alloc (Nat.le_refl _) (.cells #[.slice sa S.length sc, .int .i64 VC] 55)))
 have hX7 : w.heap.size < w5.heap.size := by have := b5.size; have := C4.lt; omega
 have t0 := T6.cell 0
 have t1 := T6.cell 1
 simp only [kA0, kA1, kA2] at t0 t1
 clear own5 b5 b6 C4 N4 O4 L4 P4 bw4 N5n HSI
 by_cases hvc : VC = 0
 rotate_left
 ·have eR : R = (VC, []) := by have := za ER; rw [if_neg hvc] at this; exact this
  subst eR
  clear ER HE
  go_wp2_with fail
  refine (yg2 VC hvc _).mono ?_
  rintro e wR ⟨rfl, hwR⟩
  subst wR
  go_wp2_with fail
  exact ⟨rfl, ⟨.inr ⟨hvc, rfl, rfl⟩, bw6⟩⟩
 have hpl := za HVP hvc
 have htr := Pl.ze7 hpl
 have HRS := hide (Pl.zd9.zv6 htr)
 have HSO : Hid (∀ m ∈ S, m.path.size ≤ 1048576 ∧ m.data.size ≤ 1048576) := fun m hm => by
  have h1 := (Pl.zf9 htr).2.1 m hm
  have := Pl.zb8 h1.1
  exact ⟨by omega, h1.2⟩
 have ER := hide (by have := za ER; rw [if_pos hvc] at this; exact this)
 subst hvc
 have hcc : Pl.chgC S n (pc S) = pc S := by rw [Pl.chgC, if_pos hs, if_pos ⟨hpl, hnb⟩]
 have HIT := hide (fun W (b : Below w.heap.size w W) (v : Mem.za1 W sa S) => inTree_any n Fp Fl sa sc S (pc S) (pO S) W (by omega) v (za HSO) _ _ _ _ _ _ (za HE W b).errs (za HF) (fun h1 h2 B W' b' hB' ho => za HPP_ S h1 h2 B W' (b.trans (b'.mono b.size)) (Nat.le_trans b.size hB') ho))
 rw [hcc] at HIT
 have HND := hide (fun W (b : Below w.heap.size w W) (v : Mem.za1 W sa S) => zc2.yf6 sa sc S W (by omega) v (za HSO) _ _ _ _ _ _ (za HE W b).errs)
 have c0 := C6.cell 0
 have c1 := C6.cell 1
 have c2 := C6.cell 2
 have c3 := C6.cell 3
 have c4 := C6.cell 4
 have c5 := C6.cell 5
 have c6 := C6.cell 6
 simp only [kA0, kA1, kA2] at c0 c1 c2 c3 c4 c5 c6
 clear hcc HVP HPP_ HF
 go_wp2_with fail
 refine (need_ok _).mono ?_
 rintro e wR ⟨rfl, hwR⟩
 subst wR
 go_wp2_with fail
 generalize w5.alloc (.cells #[.slice sa S.length sc, .int .i64 0] 55) = w6 at bw6 C6 N6 O6 L6 P6 T6 D6 hsO t0 t1 c0 c1 c2 c3 c4 c5 c6 ⊢
 generalize w5.heap.size = X7 at T6 hX7 t0 t1 ⊢
 refine (za HIT _ bw6 (za D6)).mono ?_
 rintro e w7 ⟨h7, b7⟩
 have bw7 := bw6.trans (b7.mono bw6.size)
 have C7 := C6.call b7
 have N7 := N6.call b7
 have O7 := hide ((za O6).call b7)
 have L7 := hide (Mem.zl (za L6) b7)
 have P7 := hide (Mem.zo2 (za L6) (za P6) b7)
 have T7 := T6.call b7
 have D7 := hide (Mem.za0 (za D6) b7)
 have t0 := T7.cell 0
 simp only [kA0, kA1, kA2] at t0
 clear C6 N6 O6 L6 P6 T6 D6 bw6 b7 HIT t1 c0 c1 c2 c3 c4 c5 c6
 rcases h7 with ⟨hpc, v7, rfl, -⟩ | ⟨hpc, -, rfl⟩
 rotate_left
 ·have eR : R = (pc S, []) := by have := za ER; rw [if_neg hpc] at this; exact this
  subst eR
  go_wp2_with fail
  exact ⟨rfl, ⟨.inr ⟨hpc, rfl, rfl⟩, bw7⟩⟩
 have ER := hide (by have := za ER; rw [if_pos hpc] at this; exact this)
 have HWY := hide (za HW S hpl hpc hnb)
 go_wp2_with fail
 refine (za HND _ bw7 (za D7)).mono ?_
 rintro e w8 ⟨h8, b8⟩
 rcases h8 with ⟨-, qs, rfl, hqs, hmap⟩ | ⟨hx, -⟩
 rotate_left
 ·exact absurd (htr.symm.trans hx) (by decide)
 have H8 : Hn w w8 n Fp Fl X5 q a1 cap1 L K qs S := by
  refine ⟨bw7.trans (b8.mono bw7.size), C7.call b8, N7.call b8, hX5, (za O7).call b8, Mem.zl (za L7) b8, Mem.zo2 (za L7) (za P7) b8, hmap, hqw2, fun j hj => ?_⟩
  rcases List.mem_cons.1 hj with rfl | hj
  ·have := (za O7).lt; omega
  ·rw [Mem.zt (fun j _ hj => b8.block j hj) (za L7)] at hj
   have := (Mem.mapsL_in (za L7) j hj).2
   omega
 have HH := hide H8
 clear H8 C7 N7 O7 L7 P7 T7 D7 bw7 b8 hmap hqs HND HSO htr t0
 go_wp2_with fail
 refine yd5 (R := fun T T' W => ∃ (qf : Nat) (mf : Int) (Y : Nat), T' = ((((((((T).setIfInBounds 42 (.agg #[.map (some q), .int .i64 (K.len : Int), .slice a1 K.len cap1])).setIfInBounds 43 (.agg #[.map (some qf), .int .i64 mf])).setIfInBounds 44 (.map (some qf))).setIfInBounds 45 (.map (some qs))).setIfInBounds 46 (.agg #[.map (some q), .int .i64 (K.len : Int), .slice a1 K.len cap1])).setIfInBounds 47 (.int .i64 (K.shape.level : Int))).setIfInBounds 48 (.agg #[.map (some qf), .map (some qs), .int .i64 (K.shape.level : Int)])).setIfInBounds 10 (.pointer (some ⟨Y, 0, none⟩)) ∧ Gn w W n Fp Fl X5 q a1 cap1 L K qs S qf Y (K.shape.level : Int)) ?_ ?_
 ·have MK : Hid (∀ W', Mem.Blk W' X5 #[.map (some q), .int .i64 (K.len : Int), .slice a1 K.len cap1] 106 → (fun W' => W'.cell? ⟨X5, 0, none⟩ = some (.map (some q)) ∧ W'.cell? ⟨X5, 1, none⟩ = some (.int .i64 (K.len : Int)) ∧ W'.cell? ⟨X5, 2, none⟩ = some (.slice a1 K.len cap1)) W') := fun W' h => by
   have e0 := h.cell 0
   have e1 := h.cell 1
   have e2 := h.cell 2
   simp only [kA0, kA1, kA2] at e0 e1 e2
   exact ⟨e0, e1, e2⟩
  refine wp_region_held_drew (S := fun W' => W'.cell? ⟨X5, 0, none⟩ = some (.map (some q)) ∧ W'.cell? ⟨X5, 1, none⟩ = some (.int .i64 (K.len : Int)) ∧ W'.cell? ⟨X5, 2, none⟩ = some (.slice a1 K.len cap1)) (by kernel_rfl) ?_ (fun hHeld => ?_)
  ·exact za MK _ (za HH).drew.nest
  have HA := hide (za HH).drew
  clear HH
  generalize w8.drew = D0 at hHeld HA ⊢
  refine tka (i := 0) rfl ?_
  try simp only [Act.put, kBs]
  refine tka (i := 3) rfl ?_
  try simp only [Act.put, kBs]
  refine tka (i := 4) rfl ?_
  try simp only [Act.put, kBs]
  refine wpAnyH_ready (rs := [1, 7]) (by kernel_rfl) (by simp) ?_
  refine AllReadyH.cons rfl (fun K_ hK => ?_) (AllReadyH.cons rfl (fun K_ hK => ?_) (AllReadyH.nil))
  ·go_simp
   refine (WFirst.zq1 _ 1000 (Nat.le_refl _) K L q (K.len : Int) _ _ (by omega) ((za HA).call (Below.refl D0.heap.size D0)).own ((za HA).call (Below.refl D0.heap.size D0)).lay).mono ?_
   rintro e x1 ⟨⟨qf, mf, rfl, hf, ho⟩, b_x1⟩
   obtain ⟨hf, ho⟩ := yo1 (Below.refl D0.heap.size D0) (za HA).lay (za HA).own hf ho
   have bc_x1 : Below D0.heap.size D0 x1 := (Below.refl D0.heap.size D0).trans (b_x1.mono (Below.refl D0.heap.size D0).size)
   have HF1 := hide (⟨hf, ho⟩ : _ ∧ _)
   clear hf ho
   refine hK.out _ _ ?_ (fun hHeld => ?_)
   ·exact za MK _ ((za HA).call bc_x1).nest
   clear hK K_
   try simp only [Act.put, kBs]
   have hfd := fun W => (by kernel_rfl : (Instr.field 103 (.agg #[.map (some qf), .int .i64 mf]) 0).run Tryz.prog W = .ok (.map (some qf)) W)
   refine tka (i := 2) rfl ?_
   try simp only [Act.put, kBs]
   refine wpAnyH_ready (rs := [5, 7]) (by kernel_rfl) (by simp) ?_
   refine AllReadyH.cons rfl (fun K_ hK => ?_) (AllReadyH.cons rfl (fun K_ hK => ?_) (AllReadyH.nil))
   ·go_simp
    refine (zl7.yk2 _ 1000 (Nat.le_refl _) K.shape (some q) (K.len : Int) _ _ (by rw [Pl.Fx.yd3]; omega) (Mem.yi3 ((za HA).call bc_x1).lay)).mono ?_
    rintro e x2 ⟨rfl, b_x2⟩
    have bc_x2 : Below D0.heap.size D0 x2 := bc_x1.trans (b_x2.mono bc_x1.size)
    refine hK.out _ _ ?_ (fun hHeld => ?_)
    ·exact za MK _ ((za HA).call bc_x2).nest
    clear hK K_
    try simp only [Act.put, kBs]
    refine tka (i := 6) rfl ?_
    try simp only [Act.put, kBs]
    refine wpAnyH_ready (rs := [7]) (by kernel_rfl) (by simp) ?_
    refine AllReadyH.cons rfl (fun K_ hK => ?_) (AllReadyH.nil)
    go_simp
    have bA := (bc_x2).alloc (bc_x2).size (.cells #[.map none, .map none, .int .i64 0] 118)
    have VA := Mem.Blk.new x2 #[.map none, .map none, .int .i64 0] 118
    have hY : D0.heap.size ≤ x2.heap.size := (bc_x2).size
    refine hK.out _ _ ?_ (fun hHeld => ?_)
    ·exact za MK _ ((za HA).call bA).nest
    clear hK K_
    try simp only [Act.put, kBs]
    generalize x2.alloc (.cells #[.map none, .map none, .int .i64 0] 118) = x3 at bA VA hHeld ⊢
    obtain ⟨Y, hYd⟩ : ∃ Y, x2.heap.size = Y := ⟨_, rfl⟩
    have hY2 : D0.heap.size ≤ Y := by rw [← hYd]; exact hY
    rw [hYd] at VA ⊢
    clear hYd hY
    have hY := hY2
    clear hY2
    have V0 := VA
    have v0 := V0.cell 0
    have v1 := V0.cell 1
    have v2 := V0.cell 2
    have f0 := V0.fr 0
    have f1 := V0.fr 1
    have f2 := V0.fr 2
    simp only [kA0, kA1, kA2] at v0 v1 v2
    have V3 := ((V0.put 0 (.map (some qf))).put 1 (.map (some qs))).put 2 (.int .i64 (K.shape.level : Int))
    simp only [kB3, kB4, kB5] at V3
    have b3 := ((bA.setCell (p := ⟨Y, 0, none⟩) hY (.map (some qf))).setCell (p := ⟨Y, 1, none⟩) hY (.map (some qs))).setCell (p := ⟨Y, 2, none⟩) hY (.int .i64 (K.shape.level : Int))
    have GN := hide (gn_of (za HA) (za HF1).1 (za HF1).2 b3 V3 hY)
    have B3 := hide b3
    clear V0 V3 b3
    refine wpAnyH_ready (rs := [8]) (by kernel_rfl) (by simp) ?_
    refine AllReadyH.cons rfl (fun K_ hK => ?_) (AllReadyH.nil)
    go_simp
    refine hK.out _ _ ?_ (fun hHeld => ?_)
    ·exact za MK _ ((za HA).call (za B3)).nest
    clear hK K_
    try simp only [Act.put, kBs]
    refine wpAnyH_done (by kernel_rfl) ?_ _
    refine ⟨rfl, rfl, qf, mf, Y, ?_, za GN⟩
    simp only [kB3, kB4, kB5]
   ·go_simp
    have bA := (bc_x1).alloc (bc_x1).size (.cells #[.map none, .map none, .int .i64 0] 118)
    have VA := Mem.Blk.new x1 #[.map none, .map none, .int .i64 0] 118
    have hY : D0.heap.size ≤ x1.heap.size := (bc_x1).size
    refine hK.out _ _ ?_ (fun hHeld => ?_)
    ·exact za MK _ ((za HA).call bA).nest
    clear hK K_
    try simp only [Act.put, kBs]
    generalize x1.alloc (.cells #[.map none, .map none, .int .i64 0] 118) = x2 at bA VA hHeld ⊢
    obtain ⟨Y, hYd⟩ : ∃ Y, x1.heap.size = Y := ⟨_, rfl⟩
    have hY2 : D0.heap.size ≤ Y := by rw [← hYd]; exact hY
    rw [hYd] at VA ⊢
    clear hYd hY
    have hY := hY2
    clear hY2
    refine wpAnyH_ready (rs := [5]) (by kernel_rfl) (by simp) ?_
    refine AllReadyH.cons rfl (fun K_ hK => ?_) (AllReadyH.nil)
    go_simp
    refine (zl7.yk2 _ 1000 (Nat.le_refl _) K.shape (some q) (K.len : Int) _ _ (by rw [Pl.Fx.yd3]; omega) (Mem.yi3 ((za HA).call bA).lay)).mono ?_
    rintro e x3 ⟨rfl, b_x3⟩
    have bc_x3 : Below D0.heap.size D0 x3 := bA.trans (b_x3.mono bA.size)
    refine hK.out _ _ ?_ (fun hHeld => ?_)
    ·exact za MK _ ((za HA).call bc_x3).nest
    clear hK K_
    try simp only [Act.put, kBs]
    refine tka (i := 6) rfl ?_
    try simp only [Act.put, kBs]
    have V0 := (VA.call b_x3)
    have v0 := V0.cell 0
    have v1 := V0.cell 1
    have v2 := V0.cell 2
    have f0 := V0.fr 0
    have f1 := V0.fr 1
    have f2 := V0.fr 2
    simp only [kA0, kA1, kA2] at v0 v1 v2
    have V3 := ((V0.put 0 (.map (some qf))).put 1 (.map (some qs))).put 2 (.int .i64 (K.shape.level : Int))
    simp only [kB3, kB4, kB5] at V3
    have b3 := ((bc_x3.setCell (p := ⟨Y, 0, none⟩) hY (.map (some qf))).setCell (p := ⟨Y, 1, none⟩) hY (.map (some qs))).setCell (p := ⟨Y, 2, none⟩) hY (.int .i64 (K.shape.level : Int))
    have GN := hide (gn_of (za HA) (za HF1).1 (za HF1).2 b3 V3 hY)
    have B3 := hide b3
    clear V0 V3 b3
    refine wpAnyH_ready (rs := [8]) (by kernel_rfl) (by simp) ?_
    refine AllReadyH.cons rfl (fun K_ hK => ?_) (AllReadyH.nil)
    go_simp
    refine hK.out _ _ ?_ (fun hHeld => ?_)
    ·exact za MK _ ((za HA).call (za B3)).nest
    clear hK K_
    try simp only [Act.put, kBs]
    refine wpAnyH_done (by kernel_rfl) ?_ _
    refine ⟨rfl, rfl, qf, mf, Y, ?_, za GN⟩
    simp only [kB3, kB4, kB5]
  ·go_simp
   have bA := (Below.refl D0.heap.size D0).alloc (Below.refl D0.heap.size D0).size (.cells #[.map none, .map none, .int .i64 0] 118)
   have VA := Mem.Blk.new D0 #[.map none, .map none, .int .i64 0] 118
   have hY : D0.heap.size ≤ D0.heap.size := (Below.refl D0.heap.size D0).size
   refine hK.out _ _ ?_ (fun hHeld => ?_)
   ·exact za MK _ ((za HA).call bA).nest
   clear hK K_
   try simp only [Act.put, kBs]
   generalize D0.alloc (.cells #[.map none, .map none, .int .i64 0] 118) = x1 at bA VA hHeld ⊢
   obtain ⟨Y, hYd⟩ : ∃ Y, D0.heap.size = Y := ⟨_, rfl⟩
   have hY2 : D0.heap.size ≤ Y := by rw [← hYd]; exact hY
   rw [hYd] at VA ⊢
   clear hYd hY
   have hY := hY2
   clear hY2
   refine wpAnyH_ready (rs := [1]) (by kernel_rfl) (by simp) ?_
   refine AllReadyH.cons rfl (fun K_ hK => ?_) (AllReadyH.nil)
   go_simp
   refine (WFirst.zq1 _ 1000 (Nat.le_refl _) K L q (K.len : Int) _ _ (by omega) ((za HA).call (bA)).own ((za HA).call (bA)).lay).mono ?_
   rintro e x2 ⟨⟨qf, mf, rfl, hf, ho⟩, b_x2⟩
   obtain ⟨hf, ho⟩ := yo1 (bA) (za HA).lay (za HA).own hf ho
   have bc_x2 : Below D0.heap.size D0 x2 := (bA).trans (b_x2.mono (bA).size)
   have HF1 := hide (⟨hf, ho⟩ : _ ∧ _)
   clear hf ho
   refine hK.out _ _ ?_ (fun hHeld => ?_)
   ·exact za MK _ ((za HA).call bc_x2).nest
   clear hK K_
   try simp only [Act.put, kBs]
   have hfd := fun W => (by kernel_rfl : (Instr.field 103 (.agg #[.map (some qf), .int .i64 mf]) 0).run Tryz.prog W = .ok (.map (some qf)) W)
   refine tka (i := 2) rfl ?_
   try simp only [Act.put, kBs]
   refine wpAnyH_ready (rs := [5]) (by kernel_rfl) (by simp) ?_
   refine AllReadyH.cons rfl (fun K_ hK => ?_) (AllReadyH.nil)
   go_simp
   refine (zl7.yk2 _ 1000 (Nat.le_refl _) K.shape (some q) (K.len : Int) _ _ (by rw [Pl.Fx.yd3]; omega) (Mem.yi3 ((za HA).call bc_x2).lay)).mono ?_
   rintro e x3 ⟨rfl, b_x3⟩
   have bc_x3 : Below D0.heap.size D0 x3 := bc_x2.trans (b_x3.mono bc_x2.size)
   refine hK.out _ _ ?_ (fun hHeld => ?_)
   ·exact za MK _ ((za HA).call bc_x3).nest
   clear hK K_
   try simp only [Act.put, kBs]
   refine tka (i := 6) rfl ?_
   try simp only [Act.put, kBs]
   have V0 := ((VA.call b_x2).call b_x3)
   have v0 := V0.cell 0
   have v1 := V0.cell 1
   have v2 := V0.cell 2
   have f0 := V0.fr 0
   have f1 := V0.fr 1
   have f2 := V0.fr 2
   simp only [kA0, kA1, kA2] at v0 v1 v2
   have V3 := ((V0.put 0 (.map (some qf))).put 1 (.map (some qs))).put 2 (.int .i64 (K.shape.level : Int))
   simp only [kB3, kB4, kB5] at V3
   have b3 := ((bc_x3.setCell (p := ⟨Y, 0, none⟩) hY (.map (some qf))).setCell (p := ⟨Y, 1, none⟩) hY (.map (some qs))).setCell (p := ⟨Y, 2, none⟩) hY (.int .i64 (K.shape.level : Int))
   have GN := hide (gn_of (za HA) (za HF1).1 (za HF1).2 b3 V3 hY)
   have B3 := hide b3
   clear V0 V3 b3
   refine wpAnyH_ready (rs := [8]) (by kernel_rfl) (by simp) ?_
   refine AllReadyH.cons rfl (fun K_ hK => ?_) (AllReadyH.nil)
   go_simp
   refine hK.out _ _ ?_ (fun hHeld => ?_)
   ·exact za MK _ ((za HA).call (za B3)).nest
   clear hK K_
   try simp only [Act.put, kBs]
   refine wpAnyH_done (by kernel_rfl) ?_ _
   refine ⟨rfl, rfl, qf, mf, Y, ?_, za GN⟩
   simp only [kB3, kB4, kB5]
 rintro T' w9 ⟨qf, mf, Y, hT, G9⟩
 simp only [kB3, kB4, kB5] at hT
 subst hT
 have hqY : Y ≠ qf := by have e := G9.gr.cell 0; simp only [kA0, kA1, kA2] at e; exact Mem.yc1 (p := ⟨Y, 0, none⟩) G9.leaf e
 have hqC : w.heap.size ≠ qf := by have e := G9.hn.chg.cell 0; simp only [kA0, kA1, kA2] at e; exact Mem.yc1 (p := ⟨w.heap.size, 0, none⟩) G9.leaf e
 have hqX : X5 ≠ qf := by have e := G9.hn.nest.cell 0; simp only [kA0, kA1, kA2] at e; exact Mem.yc1 (p := ⟨X5, 0, none⟩) G9.leaf e
 have hft := Pl.yc9 L K (za HKO).1 (za HKO).2.2.2.1
 have hfl40 := (Pl.zf9 hft).2.2
 have hri := Pl.ya8 (za HRS) (Pl.zj4 n.path) (Pl.zd5 L K) (Pl.zd9.zv6 hft) (za HWY)
 have hwl6 : (Pl.zj4 n.path).length ≤ 6 := by rw [Pl.zj4, Pl.yh6]; exact (Pl.zg4 _).2
 have HOP := hide (WOpen.open_any qf qs (K.shape.level : Int) (Pl.zd5 L K) S n.path w9 hs.1 G9.leaf G9.hn.seen G9.ne.1 (Pl.zd9.zv6 hft) (za HRS) hfl40 (za HWY))
 have EO1 : Pl.zg9 S (Pl.zd5 L K) (Pl.ways (Pl.zb2 (Pl.zb7 n.path)) (Pl.zb2 (Pl.zb7 n.path)).length) = Pl.zg9 S (Pl.zd5 L K) (Pl.zj4 n.path) := rfl
 rw [EO1] at HOP
 have HO1 := hide hri.1
 have hl1 : (Pl.zg9 S (Pl.zd5 L K) (Pl.zj4 n.path)).length ≤ 100 := by have := hri.2; omega
 generalize Pl.zg9 S (Pl.zd5 L K) (Pl.zj4 n.path) = L1 at HOP HO1 hl1 ER
 clear EO1 hri hft hfl40 hwl6 HWY HW HE
 have g0 := G9.gr.cell 0
 have g1 := G9.gr.cell 1
 have g2 := G9.gr.cell 2
 have c0 := G9.hn.chg.cell 0
 simp only [kA0, kA1, kA2] at g0 g1 g2 c0
 have H9 := hide G9
 clear G9
 go_wp2_with fail
 refine (za HOP).mono ?_
 rintro e w10 ⟨rfl, g10, m10⟩
 have G10 := (za H9).gr.grown g10 (fun e => hqY (Option.some.inj e))
 have C10 := (za H9).hn.chg.grown g10 (fun e => hqC (Option.some.inj e))
 have N10 := (za H9).hn.nest.grown g10 (fun e => hqX (Option.some.inj e))
 have S10 : w10.ownsMap Tryz.prog 9 MapN.elem qs 40 (MapN.mapOf S) := WOpen.own_grown (za H9).hn.seen g10 (fun e => (za H9).ne.1 (Option.some.inj e).symm)
 have HLE := hide (za HLf S L1 qf qs (K.shape.level : Int) 46 w10 (za HO1) hl1 hpl hpc hnb (by omega) m10 S10)
 have hRO := hide (za Hlr S L1 (K.shape.level : Int) (za HO1) hpl hpc hnb)
 generalize lf S L1 (K.shape.level : Int) = O at HLE hRO ER
 have hFl2 : ∀ g W, (callFunc Fl #[g, .agg #[.string n.path, .int .i64 n.kind, .string n.data, .int .i64 n.time, .int .i64 n.mark]]).run Tryz.prog W = .ok (.enter Fl #[g, .agg #[.string n.path, .int .i64 n.kind, .string n.data, .int .i64 n.time, .int .i64 n.mark]]) W := za HFl
 have g0 := G10.cell 0
 have g1 := G10.cell 1
 have g2 := G10.cell 2
 have c0 := C10.cell 0
 have c1 := C10.cell 1
 have c2 := C10.cell 2
 have c3 := C10.cell 3
 have c4 := C10.cell 4
 have c6 := C10.cell 6
 simp only [kA0, kA1, kA2] at g0 g1 g2 c0 c1 c2 c3 c4 c6
 clear HOP m10 S10 HLf Hlr HO1 hl1 HFl HRS
 go_wp2_with fail
 refine (za HLE).mono ?_
 rintro e w11 ⟨rfl, g11, N11, hN11, m11⟩
 have gw : w9.grownBy w11 (some qf) := WOpen.yb5 g10 g11 (fun k e => by cases e; exact .inr rfl)
 have G11 := G10.grown g11 (fun e => hqY (Option.some.inj e))
 have X11 := N10.grown g11 (fun e => hqX (Option.some.inj e))
 have bw11 : Below w.heap.size w w11 := (za H9).hn.bel.grown gw (za H9).hn.bel.size (fun r e => by cases e; exact (za H9).ne.2)
 have g0 := G11.cell 0
 have n0 := X11.cell 0
 have n1 := X11.cell 1
 have n2 := X11.cell 2
 simp only [kA0, kA1, kA2] at g0 n0 n1 n2
 have hsz : Maps.size (MapN.mapOf O) = O.length := MapN.zw4 (za hRO).apart
 have HM11 := hide m11
 have HGW := hide gw
 have HB11 := hide bw11
 clear HLE m11 G10 C10 N10 g10 g11 G11 X11 g1 g2 c0 c1 c2 c3 c4 c6 hFl2 gw bw11
 by_cases h40 : 40 < O.length
 ·have eR : R = (9, []) := by have := za ER; rw [if_pos h40] at this; exact this
  subst eR
  have u1 : (40 : Int) < (O.length : Int) := by omega
  have u2 : decide ((40 : Int) < (O.length : Int)) = true := decide_eq_true u1
  go_wp2_with (first | (at_len; refine wpList_len_own _ rfl _ 101 rfl 9 47 Tryz.underlying101 _ qf N11 _ rfl (za HM11) ?_) | fail)
  refine (zk6 9 _).mono ?_
  rintro e wR ⟨rfl, hwR⟩
  subst wR
  go_wp2_with fail
  exact ⟨rfl, ⟨.inr ⟨by decide, rfl, rfl⟩, za HB11⟩⟩
 ·have eR : R = (0, (Pl.setF O (.cons L K .nil)).flat) := by have := za ER; rw [if_neg h40] at this; exact this
  subst eR
  have u1 : ¬ (40 : Int) < (O.length : Int) := by omega
  have u2 : decide ((40 : Int) < (O.length : Int)) = false := decide_eq_false u1
  obtain ⟨L', K', e1, h2, h3, h4⟩ := Mem.nest_put (za H9).fst (za H9).hn.lay (za H9).hn.own (za H9).hn.ap (za HGW) (Mem.tight (za HM11) (by rw [hsz]; omega))
  have hokR := Pl.setF_okR (za hRO) (.cons L K .nil) (Pl.Fx.okR_of (za HKO))
  have hszF := Pl.setF_sz O (.cons L K .nil)
  rw [e1] at hokR hszF
  simp only [Pl.Fx.sz] at hszF
  have HIT := hide (yh5.items_ofR 1000 (Nat.le_refl _) _ K' L' (some q) (K.len : Int) (.slice a1 K.len cap1) w11 (by omega) hokR.1 hokR.2.2.2.1 (.inl ⟨q, rfl, h2⟩) h3)
  have hfe : ((K.len : Int), L') :: K'.flat = (Pl.setF O (.cons L K .nil)).flat := by rw [e1, Pl.Fx.flat, Pl.Fx.flat, List.append_nil, h4]
  have HFE := hide hfe
  clear hfe
  clear e1 h2 h3 h4 hokR hszF HGW ER
  go_wp2_with (first | (at_len; refine wpList_len_own _ rfl _ 101 rfl 9 47 Tryz.underlying101 _ qf N11 _ rfl (za HM11) ?_) | fail)
  refine (zk 9 _).mono ?_
  rintro e wR ⟨rfl, hwR⟩
  subst wR
  go_wp2_with fail
  refine (za HIT).mono ?_
  rintro e w12 ⟨v, Js, rfl, hio, hr, b12⟩
  have HIO := hide (⟨hio, hr, b12⟩ : _ ∧ _ ∧ _)
  clear HIT hio hr b12
  go_wp2
  go_ret
  exact ⟨.inl ⟨rfl, v, Js, rfl, (za HIO).1.mono (za HB11).size, (za HIO).2.1.trans (za HFE)⟩, (za HB11).trans ((za HIO).2.2.mono (za HB11).size)⟩
end zl1
end Go.Proofs.YtppmlbofhghghaaGreatDoor


namespace Go.Proofs.YtppmlbofhghghaaGreatDoor
open Go.RowKit
namespace zl1
open zc3
set_option linter.unusedSimpArgs false in
set_option maxRecDepth 100000 in
theorem yn2 (p : Addr) (x c : Int) (w : World) (hc : w.cell? p = some (.int .i64 x)) (hz : w.frozen? p = false) (hlt : p.block < w.heap.size) :
  CallsD Tryz.prog 110 #[.pointer (some p)] (.panicking (pnc c)) w fun e u' w' =>
   e = .returned (.tuple #[]) ∧ u' = .panicking [{ v := .iface 137 (.agg #[.int .i64 c]), recovered := true }] ∧ w' = (w.alloc (.cells #[.int .i64 c] 137)).setCell p (.int .i64 c) := by
 have hc2 : (w.alloc (.cells #[.int .i64 c] 137)).cell? p = some (.int .i64 x) := by rw [((Below.refl w.heap.size w).alloc (Nat.le_refl _) _).cell hlt]; exact hc
 have hz2 : (w.alloc (.cells #[.int .i64 c] 137)).frozen? p = false := by rw [((Below.refl w.heap.size w).alloc (Nat.le_refl _) _).frozen hlt]; exact hz
 have hcode := yi2 c w
 have hnq : ∀ w : World, (binOp BinOp.neq 20 (.iface 137 (.agg #[.int .i64 c])) .nilIface).run Tryz.prog w = .ok (.bool true) w := fun _ => by kernel_rfl
 refine callsD_of_wpS Tryz.func110 rfl fun c₀ cs hu => ?_
 apply wpS_seq
 apply wpS_region
 simp [wpOpsS, go_sem, recoverD, hu, Tryz.ntmps110, Exit.thenS]
 refine wpS_of_wp ?_
 generalize hK : (fun e a' w' => bodyPostS _ _ _ _ _ e a' _ w') = K
 simp only [Array.replicate_succ, Array.replicate_zero, List.push_toArray, List.append_toArray, List.nil_append, List.cons_append, kB3, kB4, kB5]
 go_wp2_with fail
 refine hcode.mono ?_
 rintro e w1 ⟨rfl, rfl⟩
 go_wp2_with fail
 subst hK
 simp [bodyPostS, results, Tryz.results110]
set_option maxRecDepth 100000 in
theorem catchN_idle (p : Addr) (w : World) :
  CallsD Tryz.prog 110 #[.pointer (some p)] .returning w fun e u' w' => e = .returned (.tuple #[]) ∧ u' = .returning ∧ w' = w := by
 have hnq : ∀ w : World, (binOp BinOp.neq 20 .nilIface .nilIface).run Tryz.prog w = .ok (.bool false) w := fun _ => by kernel_rfl
 refine callsD_of_wpS Tryz.func110 rfl fun c₀ cs hu => ?_
 apply wpS_seq
 apply wpS_region
 simp [wpOpsS, go_sem, recoverD, hu, Tryz.ntmps110, Exit.thenS]
 refine wpS_of_wp ?_
 generalize hK : (fun e a' w' => bodyPostS _ _ _ _ _ e a' _ w') = K
 simp only [Array.replicate_succ, Array.replicate_zero, List.push_toArray, List.append_toArray, List.nil_append, List.cons_append, kB3, kB4, kB5]
 go_wp2_with fail
 subst hK
 cases c₀
 simp_all [bodyPostS, results, Tryz.results110]
theorem zp1 {W : World} {S : Nat} {v : Value} {Is : List Pl.It} (h : Mem.Io W S v Is) : ∃ a cap, v = .slice a Is.length cap := zt8.conc h.row
theorem io_none (W : World) (S : Nat) : Mem.Io W S (.slice none 0 0) [] := ⟨World.ownsRow_nil _ _ _ _, fun i x hx => by simp at hx, fun i j x y _ hx => by simp at hx⟩
set_option linter.unusedSimpArgs false in
set_option maxRecDepth 100000 in
set_option maxHeartbeats 1000000 in
theorem facedN_any (K : FuncId) (cap : Array Value) (c : Int) (O : List (Int × List Pl.Nd)) (w : World) (hE : ∀ W, (callFunc K cap).run Tryz.prog W = .ok (.enter K cap) W) (hK : ∀ W, Below w.heap.size w W → Calls Tryz.prog K cap W fun e w' => EndsN W w' e c O) :
  Calls Tryz.prog 69 #[.func (.func K) #[] cap] w fun e w' => ∃ v Is, e = .returned (.tuple #[v, .int .i64 c]) ∧ Mem.Io w' w.heap.size v Is ∧ Is.map Pl.It.r = O ∧ Below w.heap.size w w' := by
 have hmf : ∀ (fn : Fn) (first cap : Array Value) (w : World), (Instr.makeFunc fn first cap).run Tryz.prog w = .ok (.func fn first cap) w := fun _ _ _ _ => rfl
 have b0 : Below w.heap.size w (w.alloc (.cells #[.int .i64 0] 2)) := (Below.refl _ _).alloc (Nat.le_refl _) _
 have hs : (w.alloc (.cells #[.int .i64 0] 2)).heap.size = w.heap.size + 1 := by simp
 have B0 := Mem.Blk.new w #[.int .i64 0] 2
 have hk := hide (hK _ b0)
 go_enter_defers Tryz.func69, Tryz.ntmps69
 go_wp2_with fail
 refine (za hk).mono ?_
 rintro e w1 ⟨h, b1⟩
 have bw := b0.trans (b1.mono b0.size)
 have B1 := B0.call b1
 rw [hs] at h
 clear hk hK
 rcases h with ⟨rfl, v, Is, rfl, hio, hr⟩ | ⟨hc, rfl, rfl⟩
 ·obtain ⟨a, cp, rfl⟩ := zp1 hio
  have c1 := B1.cell 0
  have f1 := B1.fr 0
  simp only [kA0, kA1] at c1
  have B2 := B1.put 0 (.int .i64 0)
  have hio2 := hide (hio.set ⟨w.heap.size, 0, none⟩ (.int .i64 0) (by show w.heap.size < w.heap.size + 1; omega))
  have b2 := hide (bw.setCell (p := ⟨w.heap.size, 0, none⟩) (Nat.le_refl _) (.int .i64 0))
  have HR := hide hr
  clear B1 hio bw b0 B0 hr
  go_wp2_with fail
  refine leaves_cons (f := 110) (args := #[.pointer (some ⟨w.heap.size, 0, none⟩)]) (by simp) (by simp [go_sem]) ?_
  refine (catchN_idle ⟨w.heap.size, 0, none⟩ _).mono ?_
  rintro e u' w'' ⟨rfl, rfl, rfl⟩
  have d1 := B2.cell 0
  simp only [kA0, kA1, kB3, kB4] at d1
  simp [Leaves, settle, results, Tryz.results69, go_sem, d1]
  exact ⟨Is, (za hio2).mono (by omega), za HR, za b2⟩
 ·have d1 := B1.cell 0
  have f1 := B1.fr 0
  simp only [kA0, kA1] at d1
  have hlt := B1.lt
  go_wp2_with fail
  refine leaves_cons (f := 110) (args := #[.pointer (some ⟨w.heap.size, 0, none⟩)]) (by simp) (by simp [go_sem]) ?_
  refine (yn2 ⟨w.heap.size, 0, none⟩ 0 c _ d1 f1 hlt).mono ?_
  rintro e u' w'' ⟨rfl, rfl, rfl⟩
  have B2 := (B1.alloc (.cells #[.int .i64 c] 137)).put 0 (.int .i64 c)
  have d1 := B2.cell 0
  simp only [kA0, kA1, kB3, kB4] at d1
  simp [Leaves, settle, results, Tryz.results69, go_sem, d1]
  exact ⟨[], io_none _ _, rfl, (bw.alloc bw.size _).setCell (Nat.le_refl _) _⟩
set_option linter.unusedSimpArgs false in
set_option maxRecDepth 100000 in
set_option maxHeartbeats 1000000 in
theorem zx (K : FuncId) (cap : Array Value) (c : Int) (O : List (Int × List Pl.Nd)) (w : World) (hE : ∀ W, (callFunc K cap).run Tryz.prog W = .ok (.enter K cap) W) (hK : ∀ W, Below w.heap.size w W → Calls Tryz.prog K cap W fun e w' => EndsN W w' e c O) :
  Calls Tryz.prog 34 #[.func (.func K) #[] cap] w fun e w' => (∃ v Is, e = .returned (.agg #[v, .int .i64 c]) ∧ Mem.Io w' w.heap.size v Is ∧ Is.map Pl.It.r = O) ∧ Below w.heap.size w w' := by
 have b0 : Below w.heap.size w (w.alloc (.cells #[.slice none 0 0, .int .i64 0] 26)) := (Below.refl _ _).alloc (Nat.le_refl _) _
 have hs : (w.alloc (.cells #[.slice none 0 0, .int .i64 0] 26)).heap.size = w.heap.size + 1 := by simp
 have A0 := Mem.Blk.new w #[.slice none 0 0, .int .i64 0] 26
 have hk := hide (facedN_any K cap c O _ hE (fun W b => hK W (b0.trans (b.mono b0.size))))
 clear hK
 go_enter Tryz.func34, Tryz.ntmps34
 go_wp2_with fail
 refine (za hk).mono ?_
 rintro e w1 ⟨v, Is, rfl, hio, hr, b1⟩
 obtain ⟨a, cp, rfl⟩ := zp1 hio
 rw [hs] at hio
 have A2 := A0.call b1
 have bw := hide (b0.trans (b1.mono b0.size))
 have HIO := hide hio
 have HR := hide hr
 have c0 := A2.cell 0
 have c1 := A2.cell 1
 have f0 := A2.fr 0
 have f1 := A2.fr 1
 simp only [kA0, kA1, kA2] at c0 c1
 clear hk b0 b1 A0 hio hr
 go_wp2
 refine bodyPost_ret (v := .agg #[.slice a Is.length cp, .int .i64 c]) (by simp [results, Tryz.results34, go_sem, c0, c1]) rfl ⟨⟨.slice a Is.length cp, Is, rfl, ?_, za HR⟩, ?_⟩
 ·exact (((za HIO).set _ _ (by show w.heap.size < w.heap.size + 1; omega)).set _ _ (by show w.heap.size < w.heap.size + 1; omega)).mono (by omega)
 ·exact ((za bw).setCell (Nat.le_refl _) _).setCell (Nat.le_refl _) _
end zl1
end Go.Proofs.YtppmlbofhghghaaGreatDoor

