/- Several texts of one claim in one file: WErrs4, WNestX, MapLook, WNodeAt. -/
import Derived.Test.YtkfpfckmjgjanaaDoorG08
import Derived.Test.YtkfpfckmjgjanaaDoorWTakeY
import Derived.Test.YtkfpfckmjgjanaaDoorG58
import Derived.Test.YtkfpfckmjgjanaaDoorG03
/- The four errors' cells. -/
namespace Go.Proofs.YtkfpfckmjgjanaaDoor
open Go.RowKit
namespace WNestI
/-- The four errors' cells. -/
structure Errs4 (w : World) (u0 u1 u2 u3 : TypeId) (x0 x1 x2 x3 : Value) : Prop where
  c0 : w.cell? ⟨0, 0, none⟩ = some (.iface u0 x0)
  three : WNodesI.Errs w u1 u2 u3 x1 x2 x3
theorem Errs4.call {w w' : World} {u0 u1 u2 u3 : TypeId} {x0 x1 x2 x3 : Value} (h : Errs4 w u0 u1 u2 u3 x0 x1 x2 x3) (b : Below w.heap.size w w') : Errs4 w' u0 u1 u2 u3 x0 x1 x2 x3 :=
  ⟨(b.cell (p := ⟨_, 0, none⟩) (World.block_lt_of_cell? w ⟨_, 0, none⟩ h.c0)).trans h.c0, h.three.call b⟩
end WNestI
end Go.Proofs.YtkfpfckmjgjanaaDoor

/- The walk of nestOf, with what each nest is itself. -/
namespace Go.Proofs.YtkfpfckmjgjanaaDoor
open Go.RowKit
namespace WNestX
/-- What nestOf answers. -/
def Nested (w : World) (r0 r1 : TypeId) (x0 x1 : Value) (Is : List Pl.It) (NN : Option Pl.Fo) (e : Ending) (w' : World) : Prop :=
  (∃ L k q a cap, NN = some k.shape ∧ e = .returned (.tuple #[.agg #[.map (some q), .int .i64 (k.len : Int), .slice a k.len cap], .nilIface]) ∧ ((w.heap.size ≤ q ∧ Mem.apart w' q k (.slice a k.len cap)) ∧ Mem.ownM w' q L) ∧ ((Pl.Fx.cons L k .nil).okX ∧ (Pl.Fx.cons L k .nil).flat = Is.map Pl.It.r) ∧ Mem.layX w' (fun b => w.heap.size ≤ b) k (.slice a k.len cap)) ∨
  (NN = none ∧ ∃ r x, e = .returned (.tuple #[.agg #[.map none, .int .i64 0, .slice none 0 0], .iface r x]) ∧ ((400 < Is.length ∧ r = r0 ∧ x = x0) ∨ (Is.length ≤ 400 ∧ r = r1 ∧ x = x1)))
set_option linter.unusedSimpArgs false in
set_option maxRecDepth 100000 in
set_option maxHeartbeats 1000000 in
theorem nest_any (a : Option Addr) (cap : Nat) (Is : List Pl.It) (w : World) (hl : Is.length ≤ 1048576) (hcap : Is.length ≤ cap) (hv : Mem.isItems w a Is) (hok : ∀ x ∈ Is, x.t.L.length ≤ 1048576 ∧ ∀ n ∈ x.t.L, n.path.size ≤ 1048576 ∧ n.data.size ≤ 1048576)
    (r0 r1 r2 r3 : TypeId) (x0 x1 x2 x3 : Value) (hE : WNestI.Errs4 w r0 r1 r2 r3 x0 x1 x2 x3) :
    Calls Tryd.prog 39 #[.slice a Is.length cap] w fun e w' => Nested w r0 r1 x0 x1 Is (Pl.nest (Pl.rowO (Is.map Pl.It.r))) e w' ∧ Below w.heap.size w w' := by
  have hrl : (Pl.rowO (Is.map Pl.It.r)).length = Is.length := by rw [Pl.rowO_len, List.length_map]
  have b0 : Below w.heap.size w (w.alloc (.cells #[.map none, .int .i64 0, .slice none 0 0] 69)) := (Below.refl _ _).alloc (Nat.le_refl _) _
  have A0 := Mem.Blk.new w #[.map none, .int .i64 0, .slice none 0 0] 69
  have k0 := (hE.call b0).c0
  have k1 := (hE.call b0).three.c1
  by_cases h400 : 400 < Is.length
  · have t0 : (400 : Int) < (Is.length : Int) := by omega
    rw [Pl.nest_long _ (by omega)]
    have HB0 := hide b0
    clear hv hok hE b0 A0 hrl
    go_enter Tryd.func39, Tryd.ntmps39
    go_wp2
    go_region
    go_wp2
    refine bodyPost_ret (v := .tuple #[.agg #[.map none, .int .i64 0, .slice none 0 0], .iface r0 x0]) (by simp [results, Tryd.results39, go_sem]) rfl ⟨Or.inr ⟨rfl, _, _, rfl, .inl ⟨h400, rfl, rfl⟩⟩, ?_⟩
    exact Mem.below_drewN (unhide HB0) 1
  have t0 : ¬ (400 : Int) < (Is.length : Int) := by omega
  by_cases h12 : 12 < Is.length
  · have t1 : (12 : Int) < (Is.length : Int) := by omega
    rw [Pl.nest_long _ (by omega)]
    have HB0 := hide b0
    clear hv hok hE b0 A0 hrl
    go_enter Tryd.func39, Tryd.ntmps39
    go_wp2
    go_region
    go_wp2
    refine bodyPost_ret (v := .tuple #[.agg #[.map none, .int .i64 0, .slice none 0 0], .iface r1 x1]) (by simp [results, Tryd.results39, go_sem]) rfl ⟨Or.inr ⟨rfl, _, _, rfl, .inr ⟨by omega, rfl, rfl⟩⟩, ?_⟩
    exact Mem.below_drewN (unhide HB0) 1
  have t1 : ¬ (12 : Int) < (Is.length : Int) := by omega
  have hz := hide (take_any r1 r2 r3 x1 x2 x3 12 Is a cap _ (by omega) (by omega) hcap (Mem.items_call hv b0) hok (hE.call b0).three)
  have n1 : 1 < w.heap.size := World.block_lt_of_cell? w ⟨_, 0, none⟩ hE.three.c1
  have n2 : ¬ w.heap.size = 1 := by omega
  have n3 : ¬ 1 = w.heap.size := by omega
  have HE := hide (fun W (b : Below w.heap.size w W) => (hE.call b).three.c1)
  have HRL := hide hrl
  generalize Pl.rowO (Is.map Pl.It.r) = LL at hz HRL ⊢
  generalize hNN : Pl.nest LL = NN
  have HNN := hide hNN
  clear hv hok hE k0 k1 hrl hNN
  go_enter Tryd.func39, Tryd.ntmps39
  go_wp2_with fail
  generalize w.alloc (.cells #[.map none, .int .i64 0, .slice none 0 0] 69) = w2 at b0 A0 hz ⊢
  refine (unhide hz).mono ?_
  rintro e w1 ⟨h1, b1⟩
  have bw1 := b0.trans (b1.mono b0.size)
  have A1 := A0.call b1
  have HWW : Hid (w.heap.size < w2.heap.size) := hide A0.lt
  clear hz b1 A0 b0
  rcases h1 with ⟨L, kids, q, v, k, a', cap', ht, rfl, hk, hkl, hc, -, ⟨⟨hqw, hap⟩, hqm⟩, hfl, hlay⟩ | ⟨ht, rfl⟩
  · obtain ⟨va, vcap, rfl, hrest⟩ := hlay
    have hlen : (Is.drop k).length = Is.length - k := List.length_drop
    have hR : (Pl.rowO ((Is.drop k).map Pl.It.r)).length = Is.length - k := by rw [Pl.rowO_len, List.length_map, hlen]
    have hsz := Pl.take_sz ht
    simp only [Pl.Fo.sz] at hsz
    have A2 := A1.alloc (.cells #[.map (some q), .int .i64 (kids.len : Int), .slice va kids.len vcap] 69)
    have X2 := Mem.Blk.new w1 #[.map (some q), .int .i64 (kids.len : Int), .slice va kids.len vcap] 69
    have bA : Below w1.heap.size w1 (w1.alloc (.cells #[.map (some q), .int .i64 (kids.len : Int), .slice va kids.len vcap] 69)) := (Below.refl _ _).alloc (Nat.le_refl _) _
    have bw2 := bw1.trans (bA.mono bw1.size)
    have HL : Hid (Mem.layX (w1.alloc (.cells #[.map (some q), .int .i64 (kids.len : Int), .slice va kids.len vcap] 69)) (fun b => w2.heap.size ≤ b) kids (.slice va kids.len vcap)) := hide (Mem.layX_call ⟨va, vcap, rfl, hrest⟩ bA)
    have HAP := hide (Mem.apart_call ⟨va, vcap, rfl, hrest⟩ hap bA)
    have HQM := hide (hqm.call bA)
    have HFL := hide hfl
    have HLD : Hid ((Is.drop k).length = Is.length - k) := hlen
    have HQW := hide hqw
    clear hqm hfl hqw hap
    rw [hlen]
    have hkk : Is.length - k ≤ 12 := by omega
    generalize Is.length - k = rest at hR hkk HLD ⊢
    by_cases hr0 : 0 < rest
    · have u1 : (0 : Int) < (rest : Int) := by omega
      have hno : Hid (NN = none) := hide (by rw [← unhide HNN]; exact Pl.nest_rest ht (by omega))
      have e1 := unhide HE _ bw2
      have c20 := A2.cell 0
      have c21 := A2.cell 1
      have c22 := A2.cell 2
      have f20 := A2.fr 0
      have f21 := A2.fr 1
      have f22 := A2.fr 2
      simp only [kA0, kA1, kA2] at c20 c21 c22
      have BB := hide bw2
      clear A1 A2 X2 bA HL hrest bw1 bw2 HNN HE ht hlen
      go_wp2
      go_region
      go_wp2
      refine bodyPost_ret (v := .tuple #[.agg #[.map none, .int .i64 0, .slice none 0 0], .iface r1 x1]) (by simp [results, Tryd.results39, go_sem, c20, c21, c22]) rfl ⟨Or.inr ⟨unhide hno, _, _, rfl, .inr ⟨by omega, rfl, rfl⟩⟩, ?_⟩
      first | exact Mem.below_drewN (unhide BB) 1 | exact (((Mem.below_drewN (unhide BB) 1).setCell (Nat.le_refl _) _).setCell (Nat.le_refl _) _).setCell (Nat.le_refl _) _
    have u1 : ¬ (0 : Int) < (rest : Int) := by omega
    have hdz := kids.shape.depth_le
    have hcall := hide (WNestI.depth_any _ 1000 (Nat.le_refl _) kids.shape (some q) (kids.len : Int) _ _ (by have := unhide HRL; omega) (Mem.layX_lay (unhide HL)))
    go_wp2_with fail
    generalize w1.alloc (.cells #[.map (some q), .int .i64 (kids.len : Int), .slice va kids.len vcap] 69) = w3 at bA bw2 HL HAP HQM A2 X2 hcall ⊢
    refine (unhide hcall).mono ?_
    rintro e w4 ⟨rfl, b4⟩
    have bw4 := bw2.trans (b4.mono bw2.size)
    have A4 := A2.call b4
    have X4 := X2.call b4
    have HL4 : Hid (Mem.layX w4 (fun b => w2.heap.size ≤ b) kids (.slice va kids.len vcap)) := hide (Mem.layX_call (unhide HL) b4)
    have HQ4 := hide ((unhide HQM).call b4)
    have HA4 := hide (Mem.apart_call (unhide HL) (unhide HAP) b4)
    clear HQM HAP
    have c20 := A4.cell 0
    have c21 := A4.cell 1
    have c22 := A4.cell 2
    have f20 := A4.fr 0
    have f21 := A4.fr 1
    have f22 := A4.fr 2
    have c40 := X4.cell 0
    have c41 := X4.cell 1
    have c42 := X4.cell 2
    simp only [kA0, kA1, kA2] at c20 c21 c22 c40 c41 c42
    have hs1 : w2.heap.size ≤ w1.heap.size ∨ True := .inr trivial
    clear hcall HL b4 A2 X2 A4 X4 hrest hs1
    by_cases h4 : 4 < kids.shape.depth + 1
    · have u2 : (4 : Int) < (kids.shape.depth : Int) + 1 := by omega
      have hno : Hid (NN = none) := hide (by rw [← unhide HNN]; exact Pl.nest_deep ht h4)
      have e1 := unhide HE _ bw4
      have BB := hide bw4
      clear A1 bA bw1 bw2 HNN HE ht hlen bw4 HL4
      go_wp2
      go_region
      go_wp2
      refine bodyPost_ret (v := .tuple #[.agg #[.map none, .int .i64 0, .slice none 0 0], .iface r1 x1]) (by simp [results, Tryd.results39, go_sem, c20, c21, c22]) rfl ⟨Or.inr ⟨unhide hno, _, _, rfl, .inr ⟨by omega, rfl, rfl⟩⟩, ?_⟩
      first | exact Mem.below_drewN (unhide BB) 1 | exact (((Mem.below_drewN (unhide BB) 1).setCell (Nat.le_refl _) _).setCell (Nat.le_refl _) _).setCell (Nat.le_refl _) _
    · have u2 : ¬ (4 : Int) < (kids.shape.depth : Int) + 1 := by omega
      have hyes : Hid (NN = some kids.shape) := hide (by rw [← unhide HNN]; exact Pl.nest_ok (by have := unhide HRL; omega) ht (by omega) h4)
      have HW2 : Hid (w.heap.size < w2.heap.size) := HWW
      have BB := hide bw4
      clear A1 bA bw1 bw2 HNN HE ht hlen bw4
      go_wp2
      refine bodyPost_ret (v := .tuple #[.agg #[.map (some q), .int .i64 (kids.len : Int), .slice va kids.len vcap], .nilIface]) (by simp [results, Tryd.results39, go_sem, c20, c21, c22]) rfl ⟨Or.inl ⟨L, kids, q, va, vcap, unhide hyes, rfl, ?_, ?_, ?_⟩, ?_⟩
      · have h1 := unhide HW2
        have h2 := unhide HQW
        exact ⟨⟨by omega, Mem.apart_same (fun b hb hlt => by rw [heap_setCell_other _ _ _ _ (by show b ≠ w.heap.size; omega), heap_setCell_other _ _ _ _ (by show b ≠ w.heap.size; omega), heap_setCell_other _ _ _ _ (by show b ≠ w.heap.size; omega)]) (unhide HL4) (unhide HA4)⟩, (((unhide HQ4).set _ _ (by show q ≠ w.heap.size; omega)).set _ _ (by show q ≠ w.heap.size; omega)).set _ _ (by show q ≠ w.heap.size; omega)⟩
      · have h3 := unhide HFL
        have h4 : Is.drop k = [] := List.eq_nil_of_length_eq_zero (by have := unhide HLD; omega)
        rw [h4, List.map_nil, List.append_nil] at h3
        exact h3
      · refine Mem.layX_mono (fun b hb hlt => ⟨?_, by simpa using hlt, ?_⟩) (unhide HL4)
        · have := unhide HW2; omega
        · have := unhide HW2
          rw [heap_setCell_other _ _ _ _ (by show b ≠ w.heap.size; omega), heap_setCell_other _ _ _ _ (by show b ≠ w.heap.size; omega), heap_setCell_other _ _ _ _ (by show b ≠ w.heap.size; omega)]
      · exact (((unhide BB).setCell (Nat.le_refl _) _).setCell (Nat.le_refl _) _).setCell (Nat.le_refl _) _
  · have hno : Hid (NN = none) := hide (by rw [← unhide HNN]; exact Pl.nest_fail ht)
    have A2 := A1.alloc (.cells #[.map none, .int .i64 0, .slice none 0 0] 69)
    have bw2 := bw1.alloc bw1.size (.cells #[.map none, .int .i64 0, .slice none 0 0] 69)
    have c20 := A2.cell 0
    have c21 := A2.cell 1
    have c22 := A2.cell 2
    have f20 := A2.fr 0
    have f21 := A2.fr 1
    have f22 := A2.fr 2
    simp only [kA0, kA1, kA2] at c20 c21 c22
    have BB := hide bw2
    clear A1 A2 bw1 bw2 HNN HE ht
    go_wp2
    refine bodyPost_ret (v := .tuple #[.agg #[.map none, .int .i64 0, .slice none 0 0], .iface r1 x1]) (by simp [results, Tryd.results39, go_sem, c20, c21, c22]) rfl ⟨Or.inr ⟨unhide hno, _, _, rfl, .inr ⟨by omega, rfl, rfl⟩⟩, ?_⟩
    first | exact unhide BB | exact (((unhide BB).setCell (Nat.le_refl _) _).setCell (Nat.le_refl _) _).setCell (Nat.le_refl _) _
end WNestX
end Go.Proofs.YtkfpfckmjgjanaaDoor

/- 'm[k]' at nodes, as a statement of its own. -/
namespace Go.Proofs.YtkfpfckmjgjanaaDoor
open Go.RowKit Go.Maps
namespace MapN
/-- 'all[path]', as a statement of its own. -/
theorem look_no {P : Program} (w : World) {ops : Array Oper} {rest : List Oper} {o : Oper} {a : Act} {Q : Exit → Act → World → Prop} (hg : o.guard = none) (m x : Operand) (t : TypeId) (hop : o.op = Op.lookup t m x false)
    (k e : TypeId) (K : Keyed P k) (ht : P.underlying t = some (.map k e)) (hz : (zeroValue e).run P w = .ok (Pl.Nd.val ⟨⟨#[]⟩, 0, ⟨#[]⟩, 0, 0⟩) w) (b n : Nat) (D : DataW Unit)
    (hm : a.eval m = .map (some b)) (hown : w.ownsMap P k elem b n D) (kv : Value) (kl : Lit) (hx : a.eval x = kv) (hkey : keyOf P k kv = some kl) (nd : Pl.Nd) (hat : D.atKey kl (dat ⟨⟨#[]⟩, 0, ⟨#[]⟩, 0, 0⟩) = dat nd)
    (hK : wpList P ops Q rest (a.put o.dst (.agg #[.string nd.path, .int .i64 nd.kind, .string nd.data, .int .i64 nd.time, .int .i64 nd.mark])) w) :
    wpList P ops Q (o :: rest) a w := by
  refine wpList_plain hg fun K' hK' => ?_
  obtain ⟨v, ps, hrun, hv⟩ := hown.lookup K ht hz (elem_mk _) hkey
  obtain ⟨n1, rfl, hd⟩ := elem_inv hv
  obtain rfl := dat_inj (hat.symm.trans hd)
  unfold Oper.wp
  simp [execOp, hop, hm, hx, hrun, Result.andThen]
  exact hK' _ _ hK
end MapN
end Go.Proofs.YtkfpfckmjgjanaaDoor

/- (nodeMap).at: the node that a map has at a path. -/
namespace Go.Proofs.YtkfpfckmjgjanaaDoor
open Go.RowKit Go.Maps
namespace WSight
set_option linter.unusedSimpArgs false in
set_option maxRecDepth 100000 in
set_option maxHeartbeats 2000000 in
theorem at_some (B N : Nat) (D : DataW Unit) (p : ByteArray) (m : Pl.Nd) (w : World) (hp : p.size ≤ 1048576) (hown : w.ownsMap Tryd.prog 9 MapN.elem B N D) (h1 : D.atKey (MapN.key p) (MapN.dat ⟨⟨#[]⟩, 0, ⟨#[]⟩, 0, 0⟩) = MapN.dat m) (t : Bool) (h2 : Maps.has D (MapN.key p) = t) :
    Calls Tryd.prog 42 #[.map (some B), .string p] w fun e w' => e = .returned (.tuple #[m.val, .bool t]) ∧ Below w.heap.size w w' := by
  have hkey := MapN.keyOf_mk (p := p) (by unfold maxLen; omega)
  have HM := hide (WNodesI.map_call hown ((Below.refl _ _).alloc (Nat.le_refl _) (.cells #[.string ⟨#[]⟩, .int .i64 0, .string ⟨#[]⟩, .int .i64 0, .int .i64 0] 78)))
  have ha := hide h1
  have ha2 := hide h2
  clear h1 h2 hown
  obtain ⟨mp, mk, md, mt, mm⟩ := m
  go_enter Tryd.func42, Tryd.ntmps42
  go_wp2_with (at_lookup; refine MapN.look_ok _ rfl _ _ 64 rfl 9 78 MapN.law Tryd.underlying64 (MapN.zeroN _) B N D rfl (unhide HM) _ _ rfl hkey ⟨mp, mk, md, mt, mm⟩ (unhide ha) t (unhide ha2) ?_)
  refine bodyPost_ret (v := .tuple #[.agg #[.string mp, .int .i64 mk, .string md, .int .i64 mt, .int .i64 mm], .bool t]) (by simp [results, Tryd.results42, go_sem]) rfl ⟨rfl, ?_⟩
  repeat first | exact Below.refl _ _ | refine Below.setCell ?_ (by simp) _ | refine Below.alloc ?_ (by simp) _
end WSight
end Go.Proofs.YtkfpfckmjgjanaaDoor

