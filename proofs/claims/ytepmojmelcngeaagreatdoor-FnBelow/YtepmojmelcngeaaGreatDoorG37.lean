/- Several texts of one claim in one file: WNodesIn, WAtO, WGather, WWhole. -/
import Derived.Test.YtepmojmelcngeaaGreatDoorG34
import Derived.Test.YtepmojmelcngeaaGreatDoorG35
import Derived.Test.YtepmojmelcngeaaGreatDoorG36
import Derived.Maps.RangeWalk
import Derived.Sort.MapsRangeIn
import Derived.Test.YtepmojmelcngeaaGreatDoorG17
/- nodesIn, of a map of nodes. -/
namespace Go.Proofs.YtepmojmelcngeaaGreatDoor
open Go.RowKit
namespace WGather
theorem is_map (b : Nat) (w : World) : (Instr.typeAssert (.iface 74 (.map (some b))) 158 74 true).run Tryz.prog w = .ok (.tuple #[.map (some b), .bool true]) w := by kernel_rfl
theorem no_map (a : Option Addr) (n c : Nat) (w : World) : (Instr.typeAssert (.iface 97 (.slice a n c)) 158 74 true).run Tryz.prog w = .ok (.tuple #[.map none, .bool false]) w := by kernel_rfl
theorem is_over (a : Option Addr) (n c : Nat) (w : World) : (Instr.typeAssert (.iface 97 (.slice a n c)) 158 97 true).run Tryz.prog w = .ok (.tuple #[.slice a n c, .bool true]) w := by kernel_rfl
set_option maxRecDepth 100000 in
theorem in_map (b : Nat) (w : World) : Calls Tryz.prog 100 #[WOverI.layV b] w fun e w' => e = .returned (.map (some b)) ∧ w' = w := by
  unfold WOverI.layV
  have h1 := is_map b
  go_enter Tryz.func100, Tryz.ntmps100
  go_wp2
  go_ret
  exact ⟨rfl, rfl⟩
end WGather
end Go.Proofs.YtepmojmelcngeaaGreatDoor

/- What is told of layers at a path: (overlay).at. -/
namespace Go.Proofs.YtepmojmelcngeaaGreatDoor
open Go.RowKit
namespace WSight
set_option linter.unusedSimpArgs false in
set_option maxRecDepth 100000 in
set_option maxHeartbeats 2000000 in
theorem atO_any (B : Nat) (v : Value) (Bs : List Nat) (Ls : List (List Pl.Nd)) (p : ByteArray) (w : World) (hov : WOverI.Ov w B v Bs Ls) (h4 : Ls.length ≤ 4) (htr : ∀ L ∈ Ls, Pl.treeB L = true) (hp : p.size ≤ 1048576) :
    Calls Tryz.prog 72 #[v, .string p] w fun e w' => e = .returned (.tuple #[(Pl.seenS Ls p).node.val, .bool (Pl.seenS Ls p).told]) ∧ Below w.heap.size w w' := by
  have b0 : Below w.heap.size w (w.alloc (.cells #[.string ⟨#[]⟩, .int .i64 0, .string ⟨#[]⟩, .int .i64 0, .int .i64 0] 36)) := (Below.refl _ _).alloc (Nat.le_refl _) _
  have hs := hide (seen_any B v Bs Ls p _ (hov.call b0) h4 htr hp)
  have HL : Hid ((Pl.seenS Ls p).have'.length = 4) := Pl.walk_len Ls Ls.length _
  generalize Pl.seenS Ls p = S at hs HL ⊢
  obtain ⟨tt, ⟨sp, sk, sd, st, sm⟩, sh⟩ := S
  obtain ⟨e0, e1, e2, e3, rfl⟩ : ∃ h0 h1 h2 h3, sh = [h0, h1, h2, h3] := by
    match sh, unhide HL with
    | [a, b, c, d], _ => exact ⟨a, b, c, d, rfl⟩
  rw [show (Pl.Sg.cs ⟨tt, ⟨sp, sk, sd, st, sm⟩, [e0, e1, e2, e3]⟩).toArray = #[.bool tt, .string sp, .int .i64 sk, .string sd, .int .i64 st, .int .i64 sm, .bool e0, .bool e1, .bool e2, .bool e3] from rfl] at hs
  have V0 := Mem.Blk.new w #[.string ⟨#[]⟩, .int .i64 0, .string ⟨#[]⟩, .int .i64 0, .int .i64 0] 36
  obtain ⟨a, cap, rfl⟩ := ov_shape hov
  clear hov HL
  go_enter Tryz.func72, Tryz.ntmps72
  go_wp2_with fail
  refine (unhide hs).mono ?_
  rintro e w1 ⟨rfl, b1⟩
  have b2 := b0.trans (b1.mono b0.size)
  have b3 := b2.alloc b2.size (.cells #[.bool tt, .string sp, .int .i64 sk, .string sd, .int .i64 st, .int .i64 sm, .bool e0, .bool e1, .bool e2, .bool e3] 139)
  have V3 := (V0.call b1).alloc (.cells #[.bool tt, .string sp, .int .i64 sk, .string sd, .int .i64 st, .int .i64 sm, .bool e0, .bool e1, .bool e2, .bool e3] 139)
  have S3 := Mem.Blk.new w1 #[.bool tt, .string sp, .int .i64 sk, .string sd, .int .i64 st, .int .i64 sm, .bool e0, .bool e1, .bool e2, .bool e3] 139
  have hlt : w.heap.size < w1.heap.size := (V0.call b1).lt
  have hne : ¬ w.heap.size = w1.heap.size := by omega
  have hne2 : ¬ w1.heap.size = w.heap.size := by omega
  have V1 := V0.call b1
  have k0 := V1.cell 0
  have h0 := V1.fr 0
  have k1 := V1.cell 1
  have h1 := V1.fr 1
  have k2 := V1.cell 2
  have h2 := V1.fr 2
  have k3 := V1.cell 3
  have h3 := V1.fr 3
  have k4 := V1.cell 4
  have h4 := V1.fr 4
  simp only [kA0, kA1, kA2] at k0 k1 k2 k3 k4
  have c0 := V3.cell 0
  have c1 := V3.cell 1
  have c2 := V3.cell 2
  have c3 := V3.cell 3
  have c4 := V3.cell 4
  have f0 := V3.fr 0
  have f1 := V3.fr 1
  have f2 := V3.fr 2
  have f3 := V3.fr 3
  have f4 := V3.fr 4
  have d0 := S3.cell 0
  have d1 := S3.cell 1
  have d2 := S3.cell 2
  have d3 := S3.cell 3
  have d4 := S3.cell 4
  have d5 := S3.cell 5
  simp only [kA0, kA1, kA2] at c0 c1 c2 c3 c4 d0 d1 d2 d3 d4 d5
  have V4 : Mem.Blk ((((((w1.setCell ⟨w.heap.size, 0, none⟩ (.string sp)).setCell ⟨w.heap.size, 1, none⟩ (.int .i64 sk)).setCell ⟨w.heap.size, 2, none⟩ (.string sd)).setCell ⟨w.heap.size, 3, none⟩ (.int .i64 st)).setCell ⟨w.heap.size, 4, none⟩ (.int .i64 sm)).alloc (.cells #[.bool tt, .string sp, .int .i64 sk, .string sd, .int .i64 st, .int .i64 sm, .bool e0, .bool e1, .bool e2, .bool e3] 139)).drew w.heap.size #[.string sp, .int .i64 sk, .string sd, .int .i64 st, .int .i64 sm] 36 := by
    have h := ((((((V1.put 0 (.string sp)).put 1 (.int .i64 sk)).put 2 (.string sd)).put 3 (.int .i64 st)).put 4 (.int .i64 sm))).alloc (.cells #[.bool tt, .string sp, .int .i64 sk, .string sd, .int .i64 st, .int .i64 sm, .bool e0, .bool e1, .bool e2, .bool e3] 139)
    simp only [kB3] at h
    exact h
  have B4 : Below w.heap.size w ((((((w1.setCell ⟨w.heap.size, 0, none⟩ (.string sp)).setCell ⟨w.heap.size, 1, none⟩ (.int .i64 sk)).setCell ⟨w.heap.size, 2, none⟩ (.string sd)).setCell ⟨w.heap.size, 3, none⟩ (.int .i64 st)).setCell ⟨w.heap.size, 4, none⟩ (.int .i64 sm)).alloc (.cells #[.bool tt, .string sp, .int .i64 sk, .string sd, .int .i64 st, .int .i64 sm, .bool e0, .bool e1, .bool e2, .bool e3] 139)).drew := by
    have h : Below w.heap.size w ((((((w1.setCell ⟨w.heap.size, 0, none⟩ (.string sp)).setCell ⟨w.heap.size, 1, none⟩ (.int .i64 sk)).setCell ⟨w.heap.size, 2, none⟩ (.string sd)).setCell ⟨w.heap.size, 3, none⟩ (.int .i64 st)).setCell ⟨w.heap.size, 4, none⟩ (.int .i64 sm)).alloc (.cells #[.bool tt, .string sp, .int .i64 sk, .string sd, .int .i64 st, .int .i64 sm, .bool e0, .bool e1, .bool e2, .bool e3] 139)) := (((((b2.setCell (p := ⟨w.heap.size, 0, none⟩) (Nat.le_refl _) (.string sp)).setCell (p := ⟨w.heap.size, 1, none⟩) (Nat.le_refl _) (.int .i64 sk)).setCell (p := ⟨w.heap.size, 2, none⟩) (Nat.le_refl _) (.string sd)).setCell (p := ⟨w.heap.size, 3, none⟩) (Nat.le_refl _) (.int .i64 st)).setCell (p := ⟨w.heap.size, 4, none⟩) (Nat.le_refl _) (.int .i64 sm)).alloc ((((((b2.setCell (p := ⟨w.heap.size, 0, none⟩) (Nat.le_refl _) (.string sp)).setCell (p := ⟨w.heap.size, 1, none⟩) (Nat.le_refl _) (.int .i64 sk)).setCell (p := ⟨w.heap.size, 2, none⟩) (Nat.le_refl _) (.string sd)).setCell (p := ⟨w.heap.size, 3, none⟩) (Nat.le_refl _) (.int .i64 st)).setCell (p := ⟨w.heap.size, 4, none⟩) (Nat.le_refl _) (.int .i64 sm))).size _
    exact ⟨h.os, h.tape, h.output, h.size, h.block⟩
  have HV := hide V4
  have HB := hide B4
  clear hs b0 b1 b2 b3 V0 V1 V3 V4 S3 B4
  go_wp2_with fail
  go_region
  go_wp2
  have r0 := (unhide HV).cell 0
  have r1 := (unhide HV).cell 1
  have r2 := (unhide HV).cell 2
  have r3 := (unhide HV).cell 3
  have r4 := (unhide HV).cell 4
  simp only [kA0, kA1, kA2] at r0 r1 r2 r3 r4
  exact bodyPost_ret (v := .tuple #[.agg #[.string sp, .int .i64 sk, .string sd, .int .i64 st, .int .i64 sm], .bool tt]) (by simp [results, Tryz.results72, go_sem, r0, r1, r2, r3, r4]) rfl ⟨rfl, unhide HB⟩
end WSight
end Go.Proofs.YtepmojmelcngeaaGreatDoor

/- gathered: all that is told of layers, in a map of the call's own. -/
namespace Go.Proofs.YtepmojmelcngeaaGreatDoor
open Go.RowKit Go.Maps
namespace WGather
/-- A map of what was gathered, in a block of the call's own. -/
structure Gk (w W : World) (Ls : List (List Pl.Nd)) (M N : Nat) (D : DataW Unit) (C : List Pl.Nd) : Prop where
  bel : Below w.heap.size w W
  map : W.ownsMap Tryz.prog 9 MapN.elem M N D
  gt : MapN.Gt Ls D C
theorem Gk.call {w W W' : World} {Ls : List (List Pl.Nd)} {M N : Nat} {D : DataW Unit} {C : List Pl.Nd} (h : Gk w W Ls M N D C) (b : Below W.heap.size W W') : Gk w W' Ls M N D C :=
  ⟨h.bel.trans (b.mono h.bel.size), WNodesI.map_call h.map b, h.gt⟩
theorem Gk.grown {w W W' : World} {Ls : List (List Pl.Nd)} {M N : Nat} {D : DataW Unit} {C : List Pl.Nd} {r : Nat} (h : Gk w W Ls M N D C) (g : W.grownBy W' (some r)) (hr : w.heap.size ≤ r) (hM : M ≠ r) : Gk w W' Ls M N D C :=
  ⟨h.bel.grown g h.bel.size (fun q hq => by cases hq; exact hr), h.map.kept g (fun e => hM (Option.some.inj e)), h.gt⟩
theorem Gk.grown0 {w W W' : World} {Ls : List (List Pl.Nd)} {M N : Nat} {D : DataW Unit} {C : List Pl.Nd} (h : Gk w W Ls M N D C) (g : W.grownBy W' none) : Gk w W' Ls M N D C :=
  ⟨h.bel.grown g h.bel.size (fun q hq => by cases hq), h.map.kept g (fun e => by cases e), h.gt⟩
/-- All that is told has been gathered. -/
def Whole (w w' : World) (Ls : List (List Pl.Nd)) (M : Nat) : Prop := ∃ N D C, N ≤ 200 ∧ Gk w w' Ls M N D C ∧ ∀ n, n ∈ C ↔ Pl.ToldN Ls n
/-- A range over one layer's map, while it is gathered. -/
def Inner (w wr : World) (Ls : List (List Pl.Nd)) (L C : List Pl.Nd) (b r k : Nat) : Prop := ∃ (left : Lit → Bool) (cnt : Nat) (T : List Pl.Nd), wr.ranges Tryz.prog 9 MapN.elem b r 40 (MapN.mapOf L) left cnt ∧ T.length + cnt ≤ Maps.size (MapN.mapOf L) ∧ MapN.Got L T left ∧ r < wr.heap.size ∧ ∃ N1 D1 C1, N1 ≤ 40 * k + T.length ∧ Gk w wr Ls w.heap.size N1 D1 C1 ∧ (∀ n ∈ C, n ∈ C1) ∧ ∀ m ∈ T, (Pl.seenS Ls m.path).told = true → (Pl.seenS Ls m.path).node ∈ C1
set_option linter.unusedSimpArgs false in
set_option maxRecDepth 100000 in
set_option maxHeartbeats 2000000 in
theorem gathered_any (B : Nat) (v : Value) (Bs : List Nat) (Ls : List (List Pl.Nd)) (w : World) (hov : WOverI.Ov w B v Bs Ls) (h4 : Ls.length ≤ 4) (htr : ∀ L ∈ Ls, Pl.treeB L = true) :
    Calls Tryz.prog 121 #[v] w fun e w' => e = .returned (.map (some w.heap.size)) ∧ Whole w w' Ls w.heap.size := by
  obtain ⟨a, cap, rfl⟩ := WSight.ov_shape hov
  have hmm := @run_makeMap Tryz.prog
  have HOV := hide hov
  have HTR := hide htr
  have A0 : Hid (Gk w (w.alloc (.map #[] 0)) Ls w.heap.size 0 (.map []) []) := ⟨(Below.refl _ _).alloc (Nat.le_refl _) _, World.ownsMap_made w Tryz.prog 9 MapN.elem, MapN.Gt.start Ls⟩
  have HSM : Hid (∀ L ∈ Ls, L.length ≤ 40) := fun L hL => by
    have h := htr L hL
    simp only [Pl.treeB, Bool.and_eq_true, decide_eq_true_eq] at h
    exact h.1
  clear hov htr
  go_enter Tryz.func121, Tryz.ntmps121
  go_wp2
  go_loopw [11] (fun i wr => ∃ k : Nat, k ≤ Ls.length ∧ i = .int .i64 (k : Int) ∧ Hid (∃ N D C, N ≤ 40 * k ∧ Gk w wr Ls w.heap.size N D C ∧ w.heap.size < wr.heap.size ∧ ∀ (j : Nat) L, j < k → Ls[j]? = some L → ∀ m ∈ L, (Pl.seenS Ls m.path).told = true → (Pl.seenS Ls m.path).node ∈ C)) (fun i _ => Ls.length - (intOf i).toNat)
  case atStart => exact ⟨0, Nat.zero_le _, rfl, ⟨0, _, _, Nat.le_refl _, unhide A0, by simp, fun j L h => absurd h (by omega)⟩⟩
  case round =>
    obtain ⟨k, hk, rfl, HA⟩ := hrel
    clear A0
    obtain ⟨N, D, C, hN, G, hMl, hall⟩ := unhide HA
    have KG := hide G
    have HAll := hide hall
    clear HA hall
    by_cases hlt : k < Ls.length
    · obtain ⟨L, hL⟩ : ∃ L, Ls[k]? = some L := ⟨_, List.getElem?_eq_getElem hlt⟩
      obtain ⟨b, hb⟩ : ∃ b, Bs[k]? = some b := ⟨_, List.getElem?_eq_getElem (by rw [(unhide HOV).len]; exact hlt)⟩
      obtain ⟨g, rfl, c0⟩ := WSight.ov_cell ((unhide HOV).call G.bel) hb
      have hmap := ((unhide HOV).maps k b L hb hL).2
      have hbl : b < w.heap.size := hmap.lt
      have HMB := hide (WNodesI.map_call hmap G.bel)
      have htL := unhide HTR L (List.mem_of_getElem? hL)
      have hLl := unhide HSM L (List.mem_of_getElem? hL)
      have HLT := hide htL
      have HCC := hide (Pl.tree_apart htL)
      have HSZ := hide (MapN.size_mapOf (Pl.tree_apart htL))
      have HG0 := hide (MapN.got_start (MapN.reads_mapOf (Pl.tree_apart htL)))
      have HENT := hide (MapN.reads_mapOf (Pl.tree_apart htL)).ent
      have HLk := hide hL
      have y1 : (k : Int) < (Ls.length : Int) := by omega
      have y2 : (0 : Int) ≤ (k : Int) := by omega
      have hin := in_map b
      unfold WOverI.layV at hin
      have HIN := hide hin
      clear hin hmap htL hL hb G
      go_wp2_with fail
      refine (unhide HIN _).mono ?_
      rintro e wI ⟨rfl, hwI⟩
      subst wI
      clear HIN c0
      go_wp2_with (first
        | (at_range; refine wpList_range_own _ rfl _ 74 rfl 9 36 MapN.law Tryz.underlying74 _ b 40 _ rfl (unhide HMB) ?_; intro w0 hrg0 hg0 hs0)
        | go_in)
      go_frame
      have KG0 := hide ((unhide KG).grown0 hg0)
      generalize hr : wr.heap.size = r at hrg0 hs0 ⊢
      have hMr : w.heap.size < r := by omega
      have hrl : r < w0.heap.size := by omega
      clear KG hg0 hs0 HMB
      have HAT := hide (fun (c : Pl.Nd) (hc : c ∈ L) (W : World) (bw : Below w.heap.size w W) => WSight.atO_any B (.slice (some ⟨g, 0, none⟩) Ls.length cap) Bs Ls c.path W ((unhide HOV).call bw) h4 (unhide HTR) (by have := Pl.pathB_le (Pl.node_way (unhide HLT) hc).1; omega))
      have HTO := hide (fun (c : Pl.Nd) (hc : c ∈ L) (ht : (Pl.seenS Ls c.path).told = true) => (⟨⟨L, List.mem_of_getElem? (unhide HLk), c, hc, ht, rfl⟩, Pl.seen_path (Pl.node_way (unhide HLT) hc).1 (Pl.node_way (unhide HLT) hc).2 ht, (by have := Pl.pathB_le (Pl.node_way (unhide HLT) hc).1; unfold maxLen; omega)⟩ : Pl.ToldN Ls (Pl.seenS Ls c.path).node ∧ (Pl.seenS Ls c.path).node.path = c.path ∧ c.path.size ≤ maxLen))
      go_loopw [5] (fun _ wr => Inner w wr Ls L C b r k)
        (fun _ wr => wr.rangeLeft b r)
      case atStart => exact ⟨_, _, [], hrg0, by simp, unhide HG0, hrl, ⟨N, D, C, by simpa using hN, unhide KG0, fun n hn => hn, fun m hm => by cases hm⟩⟩
      case round =>
        obtain ⟨left, cnt, T, hrg, hcs, HGT0, hrw, HK⟩ := hrel
        have HGT := hide HGT0
        clear HGT0
        clear hrg0 KG0 HG0 hrl
        obtain ⟨N1, D1, C1, hN1, G1, hsub, hvis⟩ := HK
        have KG1 := hide G1
        have HSB := hide hsub
        have HVI := hide hvis
        clear G1 hsub hvis
        go_wp2_with (first
          | (at_next; refine wpList_next_ranges _ rfl _ rfl 9 MapN.law MapN.elem (Value.string) (Pl.Nd.val) (fun key kl hk => Maps.keyOf_string_inv Tryz.underlying9 hk) (fun v y hv => by obtain ⟨d, ps⟩ := y; obtain ⟨n, hn, _⟩ := MapN.elem_inv hv; exact ⟨n, hn⟩) b r 40 _ _ _ rfl hrg ?_ ?_)
          | go_in)
        · intro hc0 hl0
          have hp := MapN.got_end (unhide HCC) (unhide HGT) hl0
          have HA2 : Hid (∃ N D C, N ≤ 40 * (k + 1) ∧ Gk w wr Ls w.heap.size N D C ∧ w.heap.size < wr.heap.size ∧ ∀ (j : Nat) L, j < k + 1 → Ls[j]? = some L → ∀ m ∈ L, (Pl.seenS Ls m.path).told = true → (Pl.seenS Ls m.path).node ∈ C) := by
            refine ⟨N1, D1, C1, ?_, unhide KG1, by omega, fun j L' hj hL' m hm ht => ?_⟩
            · have h1 := hp.length_eq
              omega
            · by_cases e : j < k
              · exact unhide HSB _ (unhide HAll j L' e hL' m hm ht)
              · obtain rfl : j = k := by omega
                rw [unhide HLk] at hL'
                cases hL'
                exact unhide HVI m (hp.mem_iff.2 hm) ht
          clear hp hc0 hl0 hrg HGT KG1 HSB HVI HAT HTO HENT
          go_wp2
          go_roundw
          case rel => exact ⟨k + 1, by omega, by go_num, HA2⟩
          case measure => simp [intOf]; omega
        · intro x c kl yd yp w1 cnt1 hkey hlk hR hat hrg1 hlt1 hg1 hs1 hen
          have ek : kl = MapN.key x := MapN.keyOf_inv hkey
          have ey : yd = MapN.dat c := by rw [MapN.elem_mk] at hR; cases hR; rfl
          subst ek ey
          obtain ⟨hcC, rfl⟩ := unhide HENT x c hat
          have HG2 := hide (MapN.got_step (unhide HCC) (unhide HGT) hcC hlk)
          have KG2 := hide ((unhide KG1).grown hg1 (by omega) (by omega))
          have HRG1 := hide hrg1
          have HLE := hide (hrg.left_eq)
          have hat2 := hide (unhide HAT c hcC w1 (unhide KG2).bel)
          have hto := hide (unhide HTO c hcC)
          have hr1 : r < w1.heap.size := by omega
          have HVC : Hid (∀ C2 : List Pl.Nd, (∀ n ∈ C1, n ∈ C2) → ((Pl.seenS Ls c.path).told = true → (Pl.seenS Ls c.path).node ∈ C2) → ∀ m ∈ T ++ [c], (Pl.seenS Ls m.path).told = true → (Pl.seenS Ls m.path).node ∈ C2) := fun C2 h1 h2 m hm ht => by
            rcases List.mem_append.1 hm with h3 | h3
            · exact h1 _ (unhide HVI m h3 ht)
            · simp at h3; subst h3; exact h2 ht
          clear hat hR hkey hlk hcC HGT hg1 hs1 hrg1 hrg HENT KG1 HVI
          obtain ⟨cp, ck, cd, ct, cm⟩ := c
          simp only [Pl.Nd.val] at hen hat2 hto HVC HG2 HRG1 ⊢
          generalize hS : Pl.seenS Ls cp = S at hat2 hto HVC
          obtain ⟨tt, ⟨sp, sk, sd, st, sm⟩, sh⟩ := S
          simp only at hat2 hto HVC
          go_wp2_with fail
          refine (unhide hat2).mono ?_
          rintro e w2 ⟨rfl, b2⟩
          simp only [Pl.Nd.val]
          have KG3 := hide ((unhide KG2).call b2)
          have HRG2 := hide ((unhide HRG1).kept (Mem.grown_of_below b2 none) (by simp) (by simp))
          have hr2 : r < w2.heap.size := by have := b2.size; omega
          clear KG2 HRG1 hat2 b2 hen hr1
          have bA : Below w2.heap.size w2 (w2.alloc (.cells #[.string sp, .int .i64 sk, .string sd, .int .i64 st, .int .i64 sm] 36)) := (Below.refl _ _).alloc (Nat.le_refl _) _
          have KG4 := hide ((unhide KG3).call bA)
          have HRG4 := hide ((unhide HRG2).alloc (.cells #[.string sp, .int .i64 sk, .string sd, .int .i64 st, .int .i64 sm] 36))
          cases tt
          · have HK4 : Hid (∃ N1 D1 C1, N1 ≤ 40 * k + (T ++ [(⟨cp, ck, cd, ct, cm⟩ : Pl.Nd)]).length ∧ Gk w (w2.alloc (.cells #[.string sp, .int .i64 sk, .string sd, .int .i64 st, .int .i64 sm] 36)) Ls w.heap.size N1 D1 C1 ∧ (∀ n ∈ C, n ∈ C1) ∧ ∀ m ∈ T ++ [(⟨cp, ck, cd, ct, cm⟩ : Pl.Nd)], (Pl.seenS Ls m.path).told = true → (Pl.seenS Ls m.path).node ∈ C1) :=
              ⟨N1, D1, C1, by rw [List.length_append]; omega, unhide KG4, unhide HSB, unhide HVC C1 (fun n hn => hn) (fun h => by cases h)⟩
            have hr4 : r < (w2.alloc (.cells #[.string sp, .int .i64 sk, .string sd, .int .i64 st, .int .i64 sm] 36)).heap.size := by simp; omega
            clear KG3 KG4 HRG2 HSB HVC hto bA HAT HTO
            go_wp2
            go_roundw
            case rel => exact ⟨_, cnt1, T ++ [⟨cp, ck, cd, ct, cm⟩], unhide HRG4, by simp; omega, unhide HG2, hr4, unhide HK4⟩
            case measure => rw [(unhide HRG4).left_eq, unhide HLE]; exact hlt1
          · obtain ⟨hT, hpe, hps⟩ := unhide hto (by trivial)
            (try simp only at hpe)
            subst hpe
            obtain ⟨hgt, hmem⟩ := (unhide KG4).gt.put (unhide HTR) hT
            have HGP := hide hgt
            have HME := hide hmem
            have hkey := MapN.keyOf_mk hps
            have NB := Mem.Blk.new w2 #[.string sp, .int .i64 sk, .string sd, .int .i64 st, .int .i64 sm] 36
            have n0 := NB.cell 0
            have n1 := NB.cell 1
            have n2 := NB.cell 2
            have n3 := NB.cell 3
            have n4 := NB.cell 4
            simp only [kA0, kA1, kA2] at n0 n1 n2 n3 n4
            have hMr2 : ¬ w.heap.size = r := by omega
            have hNl : N1 ≤ 200 := by
              have h1 := hcs
              rw [unhide HSZ] at h1
              omega
            clear KG3 HRG2 hto bA HAT HTO hgt hmem NB hT
            go_wp2_with (first | (at_mapUpdate; refine wpList_mapUpdate_own _ rfl _ _ _ 74 rfl 9 36 MapN.law Tryz.underlying74 _ w.heap.size N1 _ rfl (unhide KG4).map (by unfold maxLen; omega) _ _ _ rfl rfl hkey _ [] (MapN.elem_mk ⟨sp, sk, sd, st, sm⟩) ?_; intro wZ hownZ hgrowZ) | fail)
            have HRZ := hide ((unhide HRG4).kept hgrowZ (fun e => by have := Option.some.inj e; omega) (fun e => by have := Option.some.inj e; omega))
            have HK4 : Hid (∃ N1 D1 C1, N1 ≤ 40 * k + (T ++ [(⟨sp, ck, cd, ct, cm⟩ : Pl.Nd)]).length ∧ Gk w wZ Ls w.heap.size N1 D1 C1 ∧ (∀ n ∈ C, n ∈ C1) ∧ ∀ m ∈ T ++ [(⟨sp, ck, cd, ct, cm⟩ : Pl.Nd)], (Pl.seenS Ls m.path).told = true → (Pl.seenS Ls m.path).node ∈ C1) :=
              ⟨N1 + 1, _, MapN.putC C1 ⟨sp, sk, sd, st, sm⟩, by rw [List.length_append]; simp; omega, ⟨(unhide KG4).bel.grown hgrowZ (unhide KG4).bel.size (fun q hq => by cases hq; exact Nat.le_refl _), hownZ, unhide HGP⟩, fun n hn => (unhide HME n).2 (.inl (unhide HSB n hn)), unhide HVC _ (fun n hn => (unhide HME n).2 (.inl hn)) (fun _ => (unhide HME _).2 (.inr rfl))⟩
            have hr4 : r < wZ.heap.size := by have h1 := hgrowZ.size; simp at h1; omega
            clear KG4 HRG4 HSB HVC HGP HME hownZ hgrowZ n0 n1 n2 n3 n4
            go_wp2
            go_roundw
            case rel => exact ⟨_, cnt1, T ++ [⟨sp, ck, cd, ct, cm⟩], unhide HRZ, by simp; omega, unhide HG2, hr4, unhide HK4⟩
            case measure => rw [(unhide HRZ).left_eq, unhide HLE]; exact hlt1
    · obtain rfl : k = Ls.length := by omega
      have y1 : ¬ ((Ls.length : Int) < (Ls.length : Int)) := by omega
      go_wp2
      go_ret
      refine ⟨rfl, ⟨N, D, C, by omega, unhide KG, fun n => ⟨(unhide KG).gt.sub n, fun hn => ?_⟩⟩⟩
      obtain ⟨L, hL, m, hm, h1, h2⟩ := hn
      obtain ⟨j, hj⟩ := List.mem_iff_getElem?.1 hL
      rw [h2]
      exact unhide HAll j L (List.getElem?_eq_some_iff.1 hj).1 hj m hm h1
end WGather
end Go.Proofs.YtepmojmelcngeaaGreatDoor

/- whole: all that is told of layers, if a tree has room for it. -/
namespace Go.Proofs.YtepmojmelcngeaaGreatDoor
open Go.RowKit Go.Maps
namespace WGather
set_option maxRecDepth 100000 in
theorem in_over (B : Nat) (v : Value) (Bs : List Nat) (Ls : List (List Pl.Nd)) (w : World) (hov : WOverI.Ov w B v Bs Ls) (h4 : Ls.length ≤ 4) (htr : ∀ L ∈ Ls, Pl.treeB L = true) :
    Calls Tryz.prog 100 #[.iface 97 v] w fun e w' => e = .returned (.map (some w.heap.size)) ∧ Whole w w' Ls w.heap.size := by
  have hg := hide (gathered_any B v Bs Ls w hov h4 htr)
  obtain ⟨a, cap, rfl⟩ := WSight.ov_shape hov
  have h1 := no_map a Ls.length cap
  have h2 := is_over a Ls.length cap
  clear hov
  go_enter Tryz.func100, Tryz.ntmps100
  go_wp2_with fail
  refine (unhide hg).mono ?_
  rintro e w1 ⟨rfl, h⟩
  clear hg h1 h2
  go_wp2
  go_ret
  exact ⟨rfl, h⟩
/-- What whole hands back. -/
def WholeIs (w w' : World) (Ls : List (List Pl.Nd)) (x : Nat → Addr) (e : Ending) : Prop :=
  (∃ N D C, e = .returned (.tuple #[.map (some w.heap.size), .nilIface]) ∧ C.length ≤ 40 ∧ N ≤ 200 ∧ Gk w w' Ls w.heap.size N D C ∧ ∀ n, n ∈ C ↔ Pl.ToldN Ls n) ∨
  (∃ C : List Pl.Nd, e = .returned (.tuple #[.map none, .iface 207 (.pointer (some (x 5)))]) ∧ 40 < C.length ∧ C.Pairwise (fun a b => a.path ≠ b.path) ∧ (∀ n, n ∈ C ↔ Pl.ToldN Ls n) ∧ Below w.heap.size w w')
set_option maxRecDepth 100000 in
set_option maxHeartbeats 400000 in
theorem whole_any (B : Nat) (v : Value) (Bs : List Nat) (Ls : List (List Pl.Nd)) (w : World) (hov : WOverI.Ov w B v Bs Ls) (h4 : Ls.length ≤ 4) (htr : ∀ L ∈ Ls, Pl.treeB L = true) (x : Nat → Addr) (hE : WIs.Six w x) :
    Calls Tryz.prog 67 #[v] w fun e w' => WholeIs w w' Ls x e := by
  have hg := hide (in_over B v Bs Ls w hov h4 htr)
  obtain ⟨a, cap, rfl⟩ := WSight.ov_shape hov
  have HE := hide hE
  clear hov hE
  go_enter Tryz.func67, Tryz.ntmps67
  go_wp2_with fail
  refine (unhide hg).mono ?_
  rintro e w1 ⟨rfl, N, D, C, hN, G, hC⟩
  clear hg
  have KG := hide G
  have HC := hide hC
  have hsz := G.gt.size
  have hk := ((unhide HE).call G.bel).c5
  clear G hC
  by_cases hl : 40 < C.length
  · have y1 : (40 : Int) < (Maps.size D : Int) := by omega
    go_wp2_with (first
      | (at_len; refine wpList_len_own _ rfl _ 74 rfl 9 36 Tryz.underlying74 _ w.heap.size N D rfl (unhide KG).map ?_)
      | go_in)
    go_region
    go_wp2
    go_ret2
    exact .inr ⟨C, rfl, hl, (unhide KG).gt.apart, unhide HC, Mem.below_drewN (unhide KG).bel 1⟩
  · have y1 : ¬ (40 : Int) < (Maps.size D : Int) := by omega
    go_wp2_with (first
      | (at_len; refine wpList_len_own _ rfl _ 74 rfl 9 36 Tryz.underlying74 _ w.heap.size N D rfl (unhide KG).map ?_)
      | go_in)
    go_ret2
    exact .inl ⟨N, D, C, rfl, by omega, hN, unhide KG, unhide HC⟩
end WGather
end Go.Proofs.YtepmojmelcngeaaGreatDoor

