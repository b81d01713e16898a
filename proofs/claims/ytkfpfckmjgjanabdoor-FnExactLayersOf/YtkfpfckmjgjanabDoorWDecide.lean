/- What decides: the closure of decider, over maps of nodes. -/
import Derived.Test.YtkfpfckmjgjanabDoorWTakeS
import Derived.Test.YtkfpfckmjgjanabDoorG35
import Derived.Test.YtkfpfckmjgjanabDoorWOverI
import Derived.Test.YtkfpfckmjgjanabDoorPlainGetV
namespace Go.Proofs.YtkfpfckmjgjanabDoor
open Go.RowKit Go.Maps
namespace WSight
theorem ov_shape {w : World} {B : Nat} {v : Value} {Bs : List Nat} {Ls : List (List Pl.Nd)} (h : WOverI.Ov w B v Bs Ls) : ∃ a cap, v = .slice a Ls.length cap := by
  rw [← h.len]
  rcases h.row.2 with ⟨rfl, h0⟩ | ⟨g, cap, cur, rfl, _⟩
  · exact ⟨none, 0, by rw [h0]⟩
  · exact ⟨_, _, rfl⟩
theorem ov_cell {w : World} {B cap n : Nat} {a : Option Addr} {Bs : List Nat} {Ls : List (List Pl.Nd)} (h : WOverI.Ov w B (.slice a n cap) Bs Ls) {k b : Nat} (hk : Bs[k]? = some b) : ∃ g, a = some ⟨g, 0, none⟩ ∧ w.cell? ⟨g, k, none⟩ = some (.iface 114 (.map (some b))) := by
  have hlt := (List.getElem?_eq_some_iff.1 hk).1
  rcases h.row.2 with ⟨hx, h0⟩ | ⟨g, cap', cur, hv, hb, hg, hc, hm, hsz, ht⟩
  · omega
  · injection hv with e1 e2 e3
    refine ⟨g, e1, ?_⟩
    rw [cell_of_row w g k cur _ (0, 0) hg, ← Array.getElem?_toList, ← List.getElem?_take_of_lt (show k < Bs.length * 1 by omega), ht, List.getElem?_map, hk]
    rfl
theorem tree_all {L : List Pl.Nd} (h : Pl.treeB L = true) : ∀ n ∈ L, Pl.nodeB n = true := by
  simp only [Pl.treeB, Bool.and_eq_true, decide_eq_true_eq] at h
  exact Pl.goI_all L _ _ h.2
/-- What stands while it is decided. -/
structure At (w wr : World) (a0 a1 a2 a3 : Bool) (ns : List (Option Pl.Nd)) (k : Nat) (s : Pl.Sg) : Prop where
  bel : Below w.heap.size w wr
  box : Mem.Blk wr w.heap.size #[.bool a0, .bool a1, .bool a2, .bool a3] 93
  res : Mem.Blk wr (w.heap.size + 1) Pl.Sg.zero.cs.toArray 95
  seen : Mem.Blk wr (w.heap.size + 1 + 1) s.cs.toArray 95
  len : s.have'.length = 4
  mark : 0 ≤ s.node.mark ∧ s.node.mark ≤ 8
  go : Pl.goD k s (ns.drop k) = Pl.goD 0 Pl.Sg.zero ns
/-- What stands where it is decided. -/
structure EndAt (w wr : World) (s : Pl.Sg) : Prop where
  bel : Below w.heap.size w wr
  res : Mem.Blk wr (w.heap.size + 1) Pl.Sg.zero.cs.toArray 95
  seen : Mem.Blk wr (w.heap.size + 1 + 1) s.cs.toArray 95
  mark : 0 ≤ s.node.mark ∧ s.node.mark ≤ 8
theorem At.call {w wr wr' : World} {a0 a1 a2 a3 : Bool} {ns : List (Option Pl.Nd)} {k : Nat} {s : Pl.Sg} (h : At w wr a0 a1 a2 a3 ns k s) (b : Below wr.heap.size wr wr') : At w wr' a0 a1 a2 a3 ns k s :=
  ⟨h.bel.trans (b.mono h.bel.size), h.box.call b, h.res.call b, h.seen.call b, h.len, h.mark, h.go⟩
set_option linter.unusedSimpArgs false in
set_option maxRecDepth 100000 in
set_option maxHeartbeats 4000000 in
theorem dec_any (q : Addr) (p : ByteArray) (a0 a1 a2 a3 : Bool) (B : Nat) (v : Value) (Bs : List Nat) (Ls : List (List Pl.Nd)) (w : World) (hq : w.cell? q = some v) (hql : q.block < w.heap.size) (hov : WOverI.Ov w B v Bs Ls) (h4 : Ls.length ≤ 4) (htr : ∀ L ∈ Ls, Pl.treeB L = true) (hp : p.size ≤ 1048576) :
    Calls Tryd.prog 108 #[.string p, .agg #[.bool a0, .bool a1, .bool a2, .bool a3], .pointer (some q)] w fun e w' => e = .returned (.agg (Pl.decS (Pl.nsOf [a0, a1, a2, a3] Ls p)).cs.toArray) ∧ Below w.heap.size w w' := by
  obtain ⟨a, cap, rfl⟩ := ov_shape hov
  have HLE := hide hov.len
  have HOV := hide hov
  have HTR := hide htr
  have HQ : Hid (∀ wr, Below w.heap.size w wr → wr.cell? q = some (.slice a Ls.length cap)) := fun wr b => (b.cell hql).trans hq
  have HNG := hide (fun k a L => Pl.ns_get p [a0, a1, a2, a3] Ls k a L)
  have HNL := hide (Pl.ns_len p [a0, a1, a2, a3] Ls (by simpa using h4))
  have ED : Hid (Pl.decS (Pl.nsOf [a0, a1, a2, a3] Ls p) = Pl.upS (Pl.goD 0 Pl.Sg.zero (Pl.nsOf [a0, a1, a2, a3] Ls p))) := rfl
  generalize Pl.nsOf [a0, a1, a2, a3] Ls p = ns at HNG HNL ED ⊢
  generalize Pl.decS ns = R at ED ⊢
  have hm : ∀ (b : Nat) (w : World), (method 147 114 (.map (some b)) "loop.example/g00449/impl.at").run Tryd.prog w = .ok (164, .map (some b)) w := fun _ _ => by kernel_rfl
  clear hov htr hq
  have b0 : Below w.heap.size w (((w.alloc (.cells #[.bool a0, .bool a1, .bool a2, .bool a3] 93)).alloc (.cells Pl.Sg.zero.cs.toArray 95)).alloc (.cells Pl.Sg.zero.cs.toArray 95)) := (((Below.refl _ _).alloc (Nat.le_refl _) _).alloc (by simp) _).alloc (by simp; omega) _
  have A0 : Hid (At w (((w.alloc (.cells #[.bool a0, .bool a1, .bool a2, .bool a3] 93)).alloc (.cells Pl.Sg.zero.cs.toArray 95)).alloc (.cells Pl.Sg.zero.cs.toArray 95)) a0 a1 a2 a3 ns 0 Pl.Sg.zero) := by
    refine ⟨b0, ((Mem.Blk.new _ _ _).alloc _).alloc _, Mem.Blk.alloc (Mem.new_two _ _ _) _, ?_, rfl, by decide, rfl⟩
    have h := Mem.new_two (w.alloc (.cells #[.bool a0, .bool a1, .bool a2, .bool a3] 93)) (.cells Pl.Sg.zero.cs.toArray 95) (.cells Pl.Sg.zero.cs.toArray 95)
    rw [show (w.alloc (.cells #[.bool a0, .bool a1, .bool a2, .bool a3] 93)).heap.size = w.heap.size + 1 by simp] at h
    exact h
  have q0 := unhide HQ _ b0
  have hR : w.heap.size ≤ w.heap.size + 1 := by omega
  simp only [Pl.Sg.zero, Pl.zeroN, Pl.Sg.cs, List.map_cons, List.map_nil, List.cons_append, List.nil_append] at A0 q0
  go_enter Tryd.func108, Tryd.ntmps108
  go_wp2
  go_loopw [12] (fun i wr => ∃ k : Nat, k ≤ Ls.length ∧ i = .int .i64 (k : Int) ∧ Hid (∃ s, At w wr a0 a1 a2 a3 ns k s)) (fun i _ => Ls.length - (intOf i).toNat)
  case atStart => exact ⟨0, Nat.zero_le _, rfl, ⟨_, unhide A0⟩⟩
  case round =>
    obtain ⟨k, hk, rfl, HA⟩ := hrel
    obtain ⟨s, A⟩ := unhide HA
    clear HA A0
    obtain ⟨tt, ⟨sp, sk, sd, st, sm⟩, sh⟩ := s
    obtain ⟨e0, e1, e2, e3, rfl⟩ : ∃ h0 h1 h2 h3, sh = [h0, h1, h2, h3] := by
      match sh, A.len with
      | [a, b, c, d], _ => exact ⟨a, b, c, d, rfl⟩
    by_cases hlt : k < Ls.length
    · obtain ⟨L, hL⟩ : ∃ L, Ls[k]? = some L := ⟨_, List.getElem?_eq_getElem hlt⟩
      obtain ⟨b, hb⟩ : ∃ b, Bs[k]? = some b := ⟨_, List.getElem?_eq_getElem (by rw [unhide HLE]; exact hlt)⟩
      obtain ⟨x, hx⟩ : ∃ x, [a0, a1, a2, a3][k]? = some x := ⟨_, List.getElem?_eq_getElem (by simp; omega)⟩
      have hnk := unhide HNG k x L hx hL
      have y1 : (k : Int) < (Ls.length : Int) := by omega
      have hix : 0 ≤ (k : Int) ∧ (k : Int) < 4 := by omega
      have hix2 : 0 ≤ (k : Int) ∧ (k : Int) < (Ls.length : Int) := by omega
      have x0 : wr.cell? ⟨w.heap.size, k, none⟩ = some (.bool x) := by
        rw [A.box.cell k, List.getElem?_toArray]
        obtain rfl | rfl | rfl | rfl : k = 0 ∨ k = 1 ∨ k = 2 ∨ k = 3 := by omega
        all_goals (simp at hx; subst hx; rfl)
      cases x
      · have hgs : Pl.goD k ⟨tt, ⟨sp, sk, sd, st, sm⟩, [e0, e1, e2, e3]⟩ (ns.drop k) = Pl.goD (k + 1) ⟨tt, ⟨sp, sk, sd, st, sm⟩, [e0, e1, e2, e3]⟩ (ns.drop (k + 1)) := Pl.go_step (x := none) hnk k _
        have A2 : Hid (∃ s, At w wr a0 a1 a2 a3 ns (k + 1) s) := ⟨_, A.bel, A.box, A.res, A.seen, A.len, A.mark, by rw [← A.go, hgs]⟩
        clear hnk hgs A hL hb hx
        go_wp2
        go_roundw
        case rel => exact ⟨k + 1, by omega, by go_num, A2⟩
        case measure => simp [intOf]; omega
      · have q1 := unhide HQ wr A.bel
        have OV := (unhide HOV).call A.bel
        obtain ⟨g, rfl, o0⟩ := ov_cell OV hb
        obtain ⟨-, om⟩ := OV.maps k b L hb hL
        have hapL := Pl.tree_apart (unhide HTR L (List.mem_of_getElem? hL))
        have hnodeL := unhide HTR L (List.mem_of_getElem? hL)
        simp only [if_true] at hnk
        cases hf : Pl.lk L p with
        | none =>
          have hmiss : ∀ n ∈ L, n.path ≠ p := fun n hn => by simpa using List.find?_eq_none.1 hf n hn
          have hat := hide (fun W (bb : Below wr.heap.size wr W) => at_some b 40 (MapN.mapOf L) p ⟨⟨#[]⟩, 0, ⟨#[]⟩, 0, 0⟩ W hp (WNodesI.map_call om bb) (Maps.atKey_of_not_has (MapN.has_no hmiss) _) false (MapN.has_no hmiss))
          rw [hf] at hnk
          have hgs : Pl.goD k ⟨tt, ⟨sp, sk, sd, st, sm⟩, [e0, e1, e2, e3]⟩ (ns.drop k) = Pl.goD (k + 1) ⟨tt, ⟨sp, sk, sd, st, sm⟩, [e0, e1, e2, e3]⟩ (ns.drop (k + 1)) := Pl.go_step hnk k _
          simp only [Pl.Nd.val] at hat
          have KA := hide A
          have EG := hide hgs
          clear hnk hgs A hL hb hx OV om hapL hnodeL hmiss
          go_wp2_with fail
          refine (unhide hat _ (Below.refl _ _)).mono ?_
          rintro e w1 ⟨rfl, b2⟩
          have A2 : Hid (∃ s, At w (w1.alloc (.cells #[.string ⟨#[]⟩, .int .i64 0, .string ⟨#[]⟩, .int .i64 0, .int .i64 0] 50)) a0 a1 a2 a3 ns (k + 1) s) := by
            have A3 := ((unhide KA).call b2).call ((Below.refl _ _).alloc (Nat.le_refl _) (.cells #[.string ⟨#[]⟩, .int .i64 0, .string ⟨#[]⟩, .int .i64 0, .int .i64 0] 50))
            exact ⟨_, A3.bel, A3.box, A3.res, A3.seen, A3.len, A3.mark, by rw [← A3.go, unhide EG]⟩
          clear KA EG b2 hat
          go_wp2
          go_roundw
          case rel => exact ⟨k + 1, by omega, by go_num, A2⟩
          case measure => simp [intOf]; omega
        | some m =>
          have hm1 := List.mem_of_find?_eq_some hf
          have hm2 : m.path = p := by simpa using List.find?_some hf
          obtain ⟨y2, y3⟩ := MapN.at_yes hapL hm1
          rw [hm2] at y2 y3
          have hmb := (Pl.node_bounds (tree_all hnodeL m hm1)).2.2.1
          have hat := hide (fun W (bb : Below wr.heap.size wr W) => at_some b 40 (MapN.mapOf L) p m W hp (WNodesI.map_call om bb) (y3 _) true y2)
          rw [hf] at hnk
          have hgs : Pl.goD k ⟨tt, ⟨sp, sk, sd, st, sm⟩, [e0, e1, e2, e3]⟩ (ns.drop k) = if Pl.stopB m then Pl.takeS ⟨tt, ⟨sp, sk, sd, st, sm⟩, [e0, e1, e2, e3]⟩ k m else Pl.goD (k + 1) (Pl.takeS ⟨tt, ⟨sp, sk, sd, st, sm⟩, [e0, e1, e2, e3]⟩ k m) (ns.drop (k + 1)) := Pl.go_step hnk k _
          have htk := hide (fun W (hbk : Mem.Blk W (w.heap.size + 1 + 1) (Pl.Sg.cs ⟨tt, ⟨sp, sk, sd, st, sm⟩, [e0, e1, e2, e3]⟩).toArray 95) => take_any (w.heap.size + 1 + 1) k ⟨tt, ⟨sp, sk, sd, st, sm⟩, [e0, e1, e2, e3]⟩ m W (by omega) rfl hbk)
          have TL := hide (Pl.take_len ⟨tt, ⟨sp, sk, sd, st, sm⟩, [e0, e1, e2, e3]⟩ k m)
          have TM := hide (Pl.take_mark (k := k) A.mark hmb)
          have KA := hide A
          have EG := hide hgs
          clear hnk hgs A hL hb hx OV om hapL hnodeL hf hm1 hm2 y2 y3 hmb
          generalize Pl.takeS ⟨tt, ⟨sp, sk, sd, st, sm⟩, [e0, e1, e2, e3]⟩ k m = s2 at htk TL TM EG
          cases hsb : Pl.stopB m
          · rw [hsb] at htk EG
            obtain ⟨mp, mk, md, mt, mm⟩ := m
            simp only [Pl.Nd.val] at hat htk
            go_wp2_with fail
            refine (unhide hat _ (Below.refl _ _)).mono ?_
            rintro e w1 ⟨rfl, b2⟩
            have A3 := hide (((unhide KA).call b2).call ((Below.refl _ _).alloc (Nat.le_refl _) (.cells #[.string mp, .int .i64 mk, .string md, .int .i64 mt, .int .i64 mm] 50)))
            clear KA b2 hat
            go_wp2_with fail
            refine (unhide htk _ (unhide A3).seen).mono ?_
            rintro e w2 ⟨rfl, hs2, g2⟩
            have A4 : Hid (∃ s, At w w2 a0 a1 a2 a3 ns (k + 1) s) := ⟨s2, (unhide A3).bel.grown g2 (unhide A3).bel.size (fun q hq => by cases hq; omega), (unhide A3).box.grown g2 (fun e => by have := Option.some.inj e; omega), (unhide A3).res.grown g2 (fun e => by have := Option.some.inj e; omega), hs2, unhide TL, unhide TM, by rw [← (unhide A3).go, unhide EG]; rfl⟩
            clear A3 hs2 g2 htk EG TL TM
            go_wp2
            go_roundw
            case rel => exact ⟨k + 1, by omega, by go_num, A4⟩
            case measure => simp [intOf]; omega
          · rw [hsb] at htk EG
            obtain ⟨mp, mk, md, mt, mm⟩ := m
            simp only [Pl.Nd.val] at hat htk
            go_wp2_with fail
            refine (unhide hat _ (Below.refl _ _)).mono ?_
            rintro e w1 ⟨rfl, b2⟩
            have A3 := hide (((unhide KA).call b2).call ((Below.refl _ _).alloc (Nat.le_refl _) (.cells #[.string mp, .int .i64 mk, .string md, .int .i64 mt, .int .i64 mm] 50)))
            clear KA b2 hat
            go_wp2_with fail
            refine (unhide htk _ (unhide A3).seen).mono ?_
            rintro e w2 ⟨rfl, hs2, g2⟩
            have GO := hide ((unhide A3).go)
            have A4 : Hid (Mem.Blk w2 (w.heap.size + 1) Pl.Sg.zero.cs.toArray 95 ∧ Below w.heap.size w w2) := ⟨(unhide A3).res.grown g2 (fun e => by have := Option.some.inj e; omega), (unhide A3).bel.grown g2 (unhide A3).bel.size (fun q hq => by cases hq; omega)⟩
            clear A3 g2 htk q1 o0 x0
            obtain ⟨tt2, ⟨sp2, sk2, sd2, st2, sm2⟩, sh2⟩ := s2
            obtain ⟨e4, e5, e6, e7, rfl⟩ : ∃ h0 h1 h2 h3, sh2 = [h0, h1, h2, h3] := by
              match sh2, unhide TL with
              | [a, b, c, d], _ => exact ⟨a, b, c, d, rfl⟩
            have KA : Hid (EndAt w w2 ⟨tt2, ⟨sp2, sk2, sd2, st2, sm2⟩, [e4, e5, e6, e7]⟩) := ⟨(unhide A4).2, (unhide A4).1, hs2, unhide TM⟩
            have EQ : Hid (R = Pl.upS ⟨tt2, ⟨sp2, sk2, sd2, st2, sm2⟩, [e4, e5, e6, e7]⟩) := by rw [unhide ED, ← unhide GO, unhide EG]; exact rfl
            clear hs2 A4 TL TM EG GO
            have c0 := (unhide KA).seen.cell 0
            have c1 := (unhide KA).seen.cell 1
            have c2 := (unhide KA).seen.cell 2
            have c3 := (unhide KA).seen.cell 3
            have c4 := (unhide KA).seen.cell 4
            have c5 := (unhide KA).seen.cell 5
            have c6 := (unhide KA).seen.cell 6
            have c7 := (unhide KA).seen.cell 7
            have c8 := (unhide KA).seen.cell 8
            have c9 := (unhide KA).seen.cell 9
            simp only [Pl.Sg.cs, List.map_cons, List.map_nil, List.cons_append, List.nil_append, kA0, kA1, kA2] at c0 c1 c2 c3 c4 c5 c6 c7 c8 c9
            have hup := hide (fun W => up_any ⟨tt2, ⟨sp2, sk2, sd2, st2, sm2⟩, [e4, e5, e6, e7]⟩ W rfl (by have := (unhide KA).mark; omega))
            have HU4 := hide (Pl.up_len (s := ⟨tt2, ⟨sp2, sk2, sd2, st2, sm2⟩, [e4, e5, e6, e7]⟩) rfl)
            have ER : Hid (R = Pl.upS ⟨tt2, ⟨sp2, sk2, sd2, st2, sm2⟩, [e4, e5, e6, e7]⟩) := unhide EQ
            generalize Pl.upS ⟨tt2, ⟨sp2, sk2, sd2, st2, sm2⟩, [e4, e5, e6, e7]⟩ = U at hup HU4 ER
            obtain ⟨ut, ⟨up, uk, ud, un, um⟩, uh⟩ := U
            obtain ⟨g0, g1, g2, g3, rfl⟩ : ∃ h0 h1 h2 h3, uh = [h0, h1, h2, h3] := by
              match uh, unhide HU4 with
              | [a, b, c, d], _ => exact ⟨a, b, c, d, rfl⟩
            rw [show (Pl.Sg.cs ⟨tt2, ⟨sp2, sk2, sd2, st2, sm2⟩, [e4, e5, e6, e7]⟩).toArray = #[.bool tt2, .string sp2, .int .i64 sk2, .string sd2, .int .i64 st2, .int .i64 sm2, .bool e4, .bool e5, .bool e6, .bool e7] from rfl, show (Pl.Sg.cs ⟨ut, ⟨up, uk, ud, un, um⟩, [g0, g1, g2, g3]⟩).toArray = #[.bool ut, .string up, .int .i64 uk, .string ud, .int .i64 un, .int .i64 um, .bool g0, .bool g1, .bool g2, .bool g3] from rfl] at hup
            go_wp2_with fail
            refine (unhide hup _).mono ?_
            rintro e wU ⟨rfl, bU⟩
            have RU := (unhide KA).res.call bU
            have BU := (unhide KA).bel.trans (bU.mono (unhide KA).bel.size)
            clear c0 c1 c2 c3 c4 c5 c6 c7 c8 c9 hup bU
            have c0 := RU.cell 0
            have c1 := RU.cell 1
            have c2 := RU.cell 2
            have c3 := RU.cell 3
            have c4 := RU.cell 4
            have c5 := RU.cell 5
            have c6 := RU.cell 6
            have c7 := RU.cell 7
            have c8 := RU.cell 8
            have c9 := RU.cell 9
            have f0 := RU.fr 0
            have f1 := RU.fr 1
            have f2 := RU.fr 2
            have f3 := RU.fr 3
            have f4 := RU.fr 4
            have f5 := RU.fr 5
            have f6 := RU.fr 6
            have f7 := RU.fr 7
            have f8 := RU.fr 8
            have f9 := RU.fr 9
            simp only [Pl.Sg.zero, Pl.zeroN, Pl.Sg.cs, List.map_cons, List.map_nil, List.cons_append, List.nil_append, kA0, kA1, kA2] at c0 c1 c2 c3 c4 c5 c6 c7 c8 c9
            clear RU KA
            go_wp2
            refine bodyPost_ret (v := .agg #[.bool ut, .string up, .int .i64 uk, .string ud, .int .i64 un, .int .i64 um, .bool g0, .bool g1, .bool g2, .bool g3]) (by simp [results, Tryd.results108, go_sem, c0, c1, c2, c3, c4, c5, c6, c7, c8, c9]) rfl ⟨by rw [unhide ER]; rfl, ?_⟩
            exact ((((((((((BU.setCell (p := ⟨w.heap.size + 1, 0, none⟩) hR _).setCell (p := ⟨w.heap.size + 1, 1, none⟩) hR _).setCell (p := ⟨w.heap.size + 1, 2, none⟩) hR _).setCell (p := ⟨w.heap.size + 1, 3, none⟩) hR _).setCell (p := ⟨w.heap.size + 1, 4, none⟩) hR _).setCell (p := ⟨w.heap.size + 1, 5, none⟩) hR _).setCell (p := ⟨w.heap.size + 1, 6, none⟩) hR _).setCell (p := ⟨w.heap.size + 1, 7, none⟩) hR _).setCell (p := ⟨w.heap.size + 1, 8, none⟩) hR _).setCell (p := ⟨w.heap.size + 1, 9, none⟩) hR _)
    · obtain rfl : k = Ls.length := by omega
      have y1 : ¬ ((Ls.length : Int) < (Ls.length : Int)) := by omega
      have KA := hide A
      clear A
      have c0 := (unhide KA).seen.cell 0
      have c1 := (unhide KA).seen.cell 1
      have c2 := (unhide KA).seen.cell 2
      have c3 := (unhide KA).seen.cell 3
      have c4 := (unhide KA).seen.cell 4
      have c5 := (unhide KA).seen.cell 5
      have c6 := (unhide KA).seen.cell 6
      have c7 := (unhide KA).seen.cell 7
      have c8 := (unhide KA).seen.cell 8
      have c9 := (unhide KA).seen.cell 9
      simp only [Pl.Sg.cs, List.map_cons, List.map_nil, List.cons_append, List.nil_append, kA0, kA1, kA2] at c0 c1 c2 c3 c4 c5 c6 c7 c8 c9
      have hup := hide (fun W => up_any ⟨tt, ⟨sp, sk, sd, st, sm⟩, [e0, e1, e2, e3]⟩ W rfl (by have := (unhide KA).mark; omega))
      have HU4 := hide (Pl.up_len (s := ⟨tt, ⟨sp, sk, sd, st, sm⟩, [e0, e1, e2, e3]⟩) rfl)
      have ER : Hid (R = Pl.upS ⟨tt, ⟨sp, sk, sd, st, sm⟩, [e0, e1, e2, e3]⟩) := by rw [unhide ED, ← (unhide KA).go, Pl.go_end (by rw [unhide HNL]; exact Nat.le_refl _)]; exact rfl
      generalize Pl.upS ⟨tt, ⟨sp, sk, sd, st, sm⟩, [e0, e1, e2, e3]⟩ = U at hup HU4 ER
      obtain ⟨ut, ⟨up, uk, ud, un, um⟩, uh⟩ := U
      obtain ⟨g0, g1, g2, g3, rfl⟩ : ∃ h0 h1 h2 h3, uh = [h0, h1, h2, h3] := by
        match uh, unhide HU4 with
        | [a, b, c, d], _ => exact ⟨a, b, c, d, rfl⟩
      rw [show (Pl.Sg.cs ⟨tt, ⟨sp, sk, sd, st, sm⟩, [e0, e1, e2, e3]⟩).toArray = #[.bool tt, .string sp, .int .i64 sk, .string sd, .int .i64 st, .int .i64 sm, .bool e0, .bool e1, .bool e2, .bool e3] from rfl, show (Pl.Sg.cs ⟨ut, ⟨up, uk, ud, un, um⟩, [g0, g1, g2, g3]⟩).toArray = #[.bool ut, .string up, .int .i64 uk, .string ud, .int .i64 un, .int .i64 um, .bool g0, .bool g1, .bool g2, .bool g3] from rfl] at hup
      go_wp2_with fail
      refine (unhide hup _).mono ?_
      rintro e wU ⟨rfl, bU⟩
      have RU := (unhide KA).res.call bU
      have BU := (unhide KA).bel.trans (bU.mono (unhide KA).bel.size)
      clear c0 c1 c2 c3 c4 c5 c6 c7 c8 c9 hup bU
      have c0 := RU.cell 0
      have c1 := RU.cell 1
      have c2 := RU.cell 2
      have c3 := RU.cell 3
      have c4 := RU.cell 4
      have c5 := RU.cell 5
      have c6 := RU.cell 6
      have c7 := RU.cell 7
      have c8 := RU.cell 8
      have c9 := RU.cell 9
      have f0 := RU.fr 0
      have f1 := RU.fr 1
      have f2 := RU.fr 2
      have f3 := RU.fr 3
      have f4 := RU.fr 4
      have f5 := RU.fr 5
      have f6 := RU.fr 6
      have f7 := RU.fr 7
      have f8 := RU.fr 8
      have f9 := RU.fr 9
      simp only [Pl.Sg.zero, Pl.zeroN, Pl.Sg.cs, List.map_cons, List.map_nil, List.cons_append, List.nil_append, kA0, kA1, kA2] at c0 c1 c2 c3 c4 c5 c6 c7 c8 c9
      clear RU KA
      go_wp2
      refine bodyPost_ret (v := .agg #[.bool ut, .string up, .int .i64 uk, .string ud, .int .i64 un, .int .i64 um, .bool g0, .bool g1, .bool g2, .bool g3]) (by simp [results, Tryd.results108, go_sem, c0, c1, c2, c3, c4, c5, c6, c7, c8, c9]) rfl ⟨by rw [unhide ER]; rfl, ?_⟩
      exact ((((((((((BU.setCell (p := ⟨w.heap.size + 1, 0, none⟩) hR _).setCell (p := ⟨w.heap.size + 1, 1, none⟩) hR _).setCell (p := ⟨w.heap.size + 1, 2, none⟩) hR _).setCell (p := ⟨w.heap.size + 1, 3, none⟩) hR _).setCell (p := ⟨w.heap.size + 1, 4, none⟩) hR _).setCell (p := ⟨w.heap.size + 1, 5, none⟩) hR _).setCell (p := ⟨w.heap.size + 1, 6, none⟩) hR _).setCell (p := ⟨w.heap.size + 1, 7, none⟩) hR _).setCell (p := ⟨w.heap.size + 1, 8, none⟩) hR _).setCell (p := ⟨w.heap.size + 1, 9, none⟩) hR _)
end WSight
end Go.Proofs.YtkfpfckmjgjanabDoor
