/- Several texts of one claim in one file: WNodesIn, WGather, WWhole. -/
import Derived.Test.YtibmflhelgedeaaGreatDoorG39
import Derived.Test.YtibmflhelgedeaaGreatDoorPlainGather
import Derived.Test.YtibmflhelgedeaaGreatDoorG40
import Derived.Maps.RangeWalk
import Derived.Sort.MapsRangeIn
import Derived.Test.YtibmflhelgedeaaGreatDoorG08
/- nodesIn, of a map of nodes. -/
namespace Go.Proofs.YtibmflhelgedeaaGreatDoor
open Go.RowKit
namespace WGather
theorem is_map (b : Nat) (w : World) : (Instr.typeAssert (.iface 98 (.map (some b))) 200 98 true).run Tryz.prog w = .ok (.tuple #[.map (some b), .bool true]) w := by kernel_rfl
theorem no_map (a : Option Addr) (n c : Nat) (w : World) : (Instr.typeAssert (.iface 122 (.slice a n c)) 200 98 true).run Tryz.prog w = .ok (.tuple #[.map none, .bool false]) w := by kernel_rfl
theorem is_over (a : Option Addr) (n c : Nat) (w : World) : (Instr.typeAssert (.iface 122 (.slice a n c)) 200 122 true).run Tryz.prog w = .ok (.tuple #[.slice a n c, .bool true]) w := by kernel_rfl
set_option maxRecDepth 100000 in
theorem in_map (b : Nat) (w : World) : Calls Tryz.prog 149 #[WOverI.layV b] w fun e w' => e = .returned (.map (some b)) ∧ w' = w := by
  unfold WOverI.layV
  have h1 := is_map b
  go_enter Tryz.func149, Tryz.ntmps149
  go_wp2
  go_ret
  exact ⟨rfl, rfl⟩
end WGather
end Go.Proofs.YtibmflhelgedeaaGreatDoor

/- gathered: all that is told of layers, in a map of the call's own. -/
namespace Go.Proofs.YtibmflhelgedeaaGreatDoor
open Go.RowKit Go.Maps
namespace WGather
/-- A map of what was gathered, in a block of the call's own. -/
structure Gk (w W : World) (Ls : List (List Pl.Nd)) (M N : Nat) (D : DataW Unit) (C : List Pl.Nd) : Prop where
  bel : Below w.heap.size w W
  map : W.ownsMap Tryz.prog 9 MapN.elem M N D
  gt : MapN.Gt Ls D C
theorem Gk.call {w W W' : World} {Ls : List (List Pl.Nd)} {M N : Nat} {D : DataW Unit} {C : List Pl.Nd} (h : Gk w W Ls M N D C) (b : Below W.heap.size W W') : Gk w W' Ls M N D C :=
  ⟨h.bel.trans (b.mono h.bel.size), WNodesI.map_call h.map b, h.gt⟩
theorem Gk.grown {w W W' : World} {Ls : List (List Pl.Nd)} {M N : Nat} {D : DataW Unit} {C : List Pl.Nd} {r : Nat} (h : Gk w W Ls M N D C) (g : W.grownBy W' (some r)) (hr : w.heap.size ≤ r) (hM : M ≠ r) : Gk w W' Ls M N D C :=
  ⟨h.bel.grown g h.bel.size (fun q hq => by cases hq; exact hr), h.map.kept g (fun e => hM (Option.some.inj e)), h.gt⟩
theorem Gk.grown0 {w W W' : World} {Ls : List (List Pl.Nd)} {M N : Nat} {D : DataW Unit} {C : List Pl.Nd} (h : Gk w W Ls M N D C) (g : W.grownBy W' none) : Gk w W' Ls M N D C :=
  ⟨h.bel.grown g h.bel.size (fun q hq => by cases hq), h.map.kept g (fun e => by cases e), h.gt⟩
/-- All that is told has been gathered. -/
def Whole (w w' : World) (Ls : List (List Pl.Nd)) (M : Nat) : Prop := ∃ N D C, N ≤ 200 ∧ Gk w w' Ls M N D C ∧ ∀ n, n ∈ C ↔ Pl.ToldN Ls n
/-- A range over one layer's map, while it is gathered. -/
def Inner (w wr : World) (Ls : List (List Pl.Nd)) (L C : List Pl.Nd) (b r k : Nat) : Prop := ∃ (left : Lit → Bool) (cnt : Nat) (T : List Pl.Nd), wr.ranges Tryz.prog 9 MapN.elem b r 40 (MapN.mapOf L) left cnt ∧ T.length + cnt ≤ Maps.size (MapN.mapOf L) ∧ MapN.Got L T left ∧ r < wr.heap.size ∧ ∃ N1 D1 C1, N1 ≤ 40 * k + T.length ∧ Gk w wr Ls w.heap.size N1 D1 C1 ∧ (∀ n ∈ C, n ∈ C1) ∧ ∀ m ∈ T, (Pl.seenS Ls m.path).told = true → (Pl.seenS Ls m.path).node ∈ C1
set_option linter.unusedSimpArgs false in
set_option maxRecDepth 100000 in
set_option maxHeartbeats 2000000 in
theorem gathered_any (B : Nat) (v : Value) (Bs : List Nat) (Ls : List (List Pl.Nd)) (w : World) (hov : WOverI.Ov w B v Bs Ls) (h4 : Ls.length ≤ 4) (htr : ∀ L ∈ Ls, Pl.treeB L = true) :
    Calls Tryz.prog 174 #[v] w fun e w' => e = .returned (.map (some w.heap.size)) ∧ Whole w w' Ls w.heap.size := by
  obtain ⟨a, cap, rfl⟩ := WSight.ov_shape hov
  have hmm := @run_makeMap Tryz.prog
  have HOV := hide hov
  have HTR := hide htr
  have A0 : Hid (Gk w (w.alloc (.map #[] 0)) Ls w.heap.size 0 (.map []) []) := ⟨(Below.refl _ _).alloc (Nat.le_refl _) _, World.ownsMap_made w Tryz.prog 9 MapN.elem, MapN.Gt.start Ls⟩
  have HSM : Hid (∀ L ∈ Ls, L.length ≤ 40) := fun L hL => by
    have h := htr L hL
    simp only [Pl.treeB, Bool.and_eq_true, decide_eq_true_eq] at h
    exact h.1
  clear hov htr
  go_enter Tryz.func174, Tryz.ntmps174
  go_wp2
  go_loopw [11] (fun i wr => ∃ k : Nat, k ≤ Ls.length ∧ i = .int .i64 (k : Int) ∧ Hid (∃ N D C, N ≤ 40 * k ∧ Gk w wr Ls w.heap.size N D C ∧ w.heap.size < wr.heap.size ∧ ∀ (j : Nat) L, j < k → Ls[j]? = some L → ∀ m ∈ L, (Pl.seenS Ls m.path).told = true → (Pl.seenS Ls m.path).node ∈ C)) (fun i _ => Ls.length - (intOf i).toNat)
  case atStart => exact ⟨0, Nat.zero_le _, rfl, ⟨0, _, _, Nat.le_refl _, unhide A0, by simp, fun j L h => absurd h (by omega)⟩⟩
  case round =>
    obtain ⟨k, hk, rfl, HA⟩ := hrel
    clear A0
    obtain ⟨N, D, C, hN, G, hMl, hall⟩ := unhide HA
    have KG := hide G
    have HAll := hide hall
    clear HA hall
    by_cases hlt : k < Ls.length
    · obtain ⟨L, hL⟩ : ∃ L, Ls[k]? = some L := ⟨_, List.getElem?_eq_getElem hlt⟩
      obtain ⟨b, hb⟩ : ∃ b, Bs[k]? = some b := ⟨_, List.getElem?_eq_getElem (by rw [(unhide HOV).len]; exact hlt)⟩
      obtain ⟨g, rfl, c0⟩ := WSight.ov_cell ((unhide HOV).call G.bel) hb
      have hmap := ((unhide HOV).maps k b L hb hL).2
      have hbl : b < w.heap.size := hmap.lt
      have HMB := hide (WNodesI.map_call hmap G.bel)
      have htL := unhide HTR L (List.mem_of_getElem? hL)
      have hLl := unhide HSM L (List.mem_of_getElem? hL)
      have HLT := hide htL
      have HCC := hide (Pl.tree_apart htL)
      have HSZ := hide (MapN.size_mapOf (Pl.tree_apart htL))
      have HG0 := hide (MapN.got_start (MapN.reads_mapOf (Pl.tree_apart htL)))
      have HENT := hide (MapN.reads_mapOf (Pl.tree_apart htL)).ent
      have HLk := hide hL
      have y1 : (k : Int) < (Ls.length : Int) := by omega
      have y2 : (0 : Int) ≤ (k : Int) := by omega
      have hin := in_map b
      unfold WOverI.layV at hin
      have HIN := hide hin
      clear hin hmap htL hL hb G
      go_wp2_with fail
      refine (unhide HIN _).mono ?_
      rintro e wI ⟨rfl, hwI⟩
      subst wI
      clear HIN c0
      go_wp2_with (first
        | (at_range; refine wpList_range_own _ rfl _ 98 rfl 9 27 MapN.law Tryz.underlying98 _ b 40 _ rfl (unhide HMB) ?_; intro w0 hrg0 hg0 hs0)
        | go_in)
      go_frame
      have KG0 := hide ((unhide KG).grown0 hg0)
      generalize hr : wr.heap.size = r at hrg0 hs0 ⊢
      have hMr : w.heap.size < r := by omega
      have hrl : r < w0.heap.size := by omega
      clear KG hg0 hs0 HMB
      have HAT := hide (fun (c : Pl.Nd) (hc : c ∈ L) (W : World) (bw : Below w.heap.size w W) => WSight.atO_any B (.slice (some ⟨g, 0, none⟩) Ls.length cap) Bs Ls c.path W ((unhide HOV).call bw) h4 (unhide HTR) (by have := Pl.pathB_le (Pl.node_way (unhide HLT) hc).1; omega))
      have HTO := hide (fun (c : Pl.Nd) (hc : c ∈ L) (ht : (Pl.seenS Ls c.path).told = true) => (⟨⟨L, List.mem_of_getElem? (unhide HLk), c, hc, ht, rfl⟩, Pl.seen_path (Pl.node_way (unhide HLT) hc).1 (Pl.node_way (unhide HLT) hc).2 ht, (by have := Pl.pathB_le (Pl.node_way (unhide HLT) hc).1; unfold maxLen; omega)⟩ : Pl.ToldN Ls (Pl.seenS Ls c.path).node ∧ (Pl.seenS Ls c.path).node.path = c.path ∧ c.path.size ≤ maxLen))
      go_loopw [5] (fun _ wr => Inner w wr Ls L C b r k)
        (fun _ wr => wr.rangeLeft b r)
      case atStart => exact ⟨_, _, [], hrg0, by simp, unhide HG0, hrl, ⟨N, D, C, by simpa using hN, unhide KG0, fun n hn => hn, fun m hm => by cases hm⟩⟩
      case round =>
        obtain ⟨left, cnt, T, hrg, hcs, HGT0, hrw, HK⟩ := hrel
        have HGT := hide HGT0
        clear HGT0
        clear hrg0 KG0 HG0 hrl
        obtain ⟨N1, D1, C1, hN1, G1, hsub, hvis⟩ := HK
        have KG1 := hide G1
        have HSB := hide hsub
        have HVI := hide hvis
        clear G1 hsub hvis
        go_wp2_with (first
          | (at_next; refine wpList_next_ranges _ rfl _ rfl 9 MapN.law MapN.elem (Value.string) (Pl.Nd.val) (fun key kl hk => Maps.keyOf_string_inv Tryz.underlying9 hk) (fun v y hv => by obtain ⟨d, ps⟩ := y; obtain ⟨n, hn, _⟩ := MapN.elem_inv hv; exact ⟨n, hn⟩) b r 40 _ _ _ rfl hrg ?_ ?_)
          | go_in)
        · intro hc0 hl0
          have hp := MapN.got_end (unhide HCC) (unhide HGT) hl0
          have HA2 : Hid (∃ N D C, N ≤ 40 * (k + 1) ∧ Gk w wr Ls w.heap.size N D C ∧ w.heap.size < wr.heap.size ∧ ∀ (j : Nat) L, j < k + 1 → Ls[j]? = some L → ∀ m ∈ L, (Pl.seenS Ls m.path).told = true → (Pl.seenS Ls m.path).node ∈ C) := by
            refine ⟨N1, D1, C1, ?_, unhide KG1, by omega, fun j L' hj hL' m hm ht => ?_⟩
            · have h1 := hp.length_eq
              omega
            · by_cases e : j < k
              · exact unhide HSB _ (unhide HAll j L' e hL' m hm ht)
              · obtain rfl : j = k := by omega
                rw [unhide HLk] at hL'
                cases hL'
                exact unhide HVI m (hp.mem_iff.2 hm) ht
          clear hp hc0 hl0 hrg HGT KG1 HSB HVI HAT HTO HENT
          go_wp2
          go_roundw
          case rel => exact ⟨k + 1, by omega, by go_num, HA2⟩
          case measure => simp [intOf]; omega
        · intro x c kl yd yp w1 cnt1 hkey hlk hR hat hrg1 hlt1 hg1 hs1 hen
          have ek : kl = MapN.key x := MapN.keyOf_inv hkey
          have ey : yd = MapN.dat c := by rw [MapN.elem_mk] at hR; cases hR; rfl
          subst ek ey
          obtain ⟨hcC, rfl⟩ := unhide HENT x c hat
          have HG2 := hide (MapN.got_step (unhide HCC) (unhide HGT) hcC hlk)
          have KG2 := hide ((unhide KG1).grown hg1 (by omega) (by omega))
          have HRG1 := hide hrg1
          have HLE := hide (hrg.left_eq)
          have hat2 := hide (unhide HAT c hcC w1 (unhide KG2).bel)
          have hto := hide (unhide HTO c hcC)
          have hr1 : r < w1.heap.size := by omega
          have HVC : Hid (∀ C2 : List Pl.Nd, (∀ n ∈ C1, n ∈ C2) → ((Pl.seenS Ls c.path).told = true → (Pl.seenS Ls c.path).node ∈ C2) → ∀ m ∈ T ++ [c], (Pl.seenS Ls m.path).told = true → (Pl.seenS Ls m.path).node ∈ C2) := fun C2 h1 h2 m hm ht => by
            rcases List.mem_append.1 hm with h3 | h3
            · exact h1 _ (unhide HVI m h3 ht)
            · simp at h3; subst h3; exact h2 ht
          clear hat hR hkey hlk hcC HGT hg1 hs1 hrg1 hrg HENT KG1 HVI
          obtain ⟨cp, ck, cd, ct, cm⟩ := c
          simp only [Pl.Nd.val] at hen hat2 hto HVC HG2 HRG1 ⊢
          generalize hS : Pl.seenS Ls cp = S at hat2 hto HVC
          obtain ⟨tt, ⟨sp, sk, sd, st, sm⟩, sh⟩ := S
          simp only at hat2 hto HVC
          go_wp2_with fail
          refine (unhide hat2).mono ?_
          rintro e w2 ⟨rfl, b2⟩
          simp only [Pl.Nd.val]
          have KG3 := hide ((unhide KG2).call b2)
          have HRG2 := hide ((unhide HRG1).kept (Mem.grown_of_below b2 none) (by simp) (by simp))
          have hr2 : r < w2.heap.size := by have := b2.size; omega
          clear KG2 HRG1 hat2 b2 hen hr1
          have bA : Below w2.heap.size w2 (w2.alloc (.cells #[.string sp, .int .i64 sk, .string sd, .int .i64 st, .int .i64 sm] 27)) := (Below.refl _ _).alloc (Nat.le_refl _) _
          have KG4 := hide ((unhide KG3).call bA)
          have HRG4 := hide ((unhide HRG2).alloc (.cells #[.string sp, .int .i64 sk, .string sd, .int .i64 st, .int .i64 sm] 27))
          cases tt
          · have HK4 : Hid (∃ N1 D1 C1, N1 ≤ 40 * k + (T ++ [(⟨cp, ck, cd, ct, cm⟩ : Pl.Nd)]).length ∧ Gk w (w2.alloc (.cells #[.string sp, .int .i64 sk, .string sd, .int .i64 st, .int .i64 sm] 27)) Ls w.heap.size N1 D1 C1 ∧ (∀ n ∈ C, n ∈ C1) ∧ ∀ m ∈ T ++ [(⟨cp, ck, cd, ct, cm⟩ : Pl.Nd)], (Pl.seenS Ls m.path).told = true → (Pl.seenS Ls m.path).node ∈ C1) :=
              ⟨N1, D1, C1, by rw [List.length_append]; omega, unhide KG4, unhide HSB, unhide HVC C1 (fun n hn => hn) (fun h => by cases h)⟩
            have hr4 : r < (w2.alloc (.cells #[.string sp, .int .i64 sk, .string sd, .int .i64 st, .int .i64 sm] 27)).heap.size := by simp; omega
            clear KG3 KG4 HRG2 HSB HVC hto bA HAT HTO
            go_wp2
            go_roundw
            case rel => exact ⟨_, cnt1, T ++ [⟨cp, ck, cd, ct, cm⟩], unhide HRG4, by simp; omega, unhide HG2, hr4, unhide HK4⟩
            case measure => rw [(unhide HRG4).left_eq, unhide HLE]; exact hlt1
          · obtain ⟨hT, hpe, hps⟩ := unhide hto (by trivial)
            (try simp only at hpe)
            subst hpe
            obtain ⟨hgt, hmem⟩ := (unhide KG4).gt.put (unhide HTR) hT
            have HGP := hide hgt
            have HME := hide hmem
            have hkey := MapN.keyOf_mk hps
            have NB := Mem.Blk.new w2 #[.string sp, .int .i64 sk, .string sd, .int .i64 st, .int .i64 sm] 27
            have n0 := NB.cell 0
            have n1 := NB.cell 1
            have n2 := NB.cell 2
            have n3 := NB.cell 3
            have n4 := NB.cell 4
            simp only [kA0, kA1, kA2] at n0 n1 n2 n3 n4
            have hMr2 : ¬ w.heap.size = r := by omega
            have hNl : N1 ≤ 200 := by
              have h1 := hcs
              rw [unhide HSZ] at h1
              omega
            clear KG3 HRG2 hto bA HAT HTO hgt hmem NB hT
            go_wp2_with (first | (at_mapUpdate; refine wpList_mapUpdate_own _ rfl _ _ _ 98 rfl 9 27 MapN.law Tryz.underlying98 _ w.heap.size N1 _ rfl (unhide KG4).map (by unfold maxLen; omega) _ _ _ rfl rfl hkey _ [] (MapN.elem_mk ⟨sp, sk, sd, st, sm⟩) ?_; intro wZ hownZ hgrowZ) | fail)
            have HRZ := hide ((unhide HRG4).kept hgrowZ (fun e => by have := Option.some.inj e; omega) (fun e => by have := Option.some.inj e; omega))
            have HK4 : Hid (∃ N1 D1 C1, N1 ≤ 40 * k + (T ++ [(⟨sp, ck, cd, ct, cm⟩ : Pl.Nd)]).length ∧ Gk w wZ Ls w.heap.size N1 D1 C1 ∧ (∀ n ∈ C, n ∈ C1) ∧ ∀ m ∈ T ++ [(⟨sp, ck, cd, ct, cm⟩ : Pl.Nd)], (Pl.seenS Ls m.path).told = true → (Pl.seenS Ls m.path).node ∈ C1) :=
              ⟨N1 + 1, _, MapN.putC C1 ⟨sp, sk, sd, st, sm⟩, by rw [List.length_append]; simp; omega, ⟨(unhide KG4).bel.grown hgrowZ (unhide KG4).bel.size (fun q hq => by cases hq; exact Nat.le_refl _), hownZ, unhide HGP⟩, fun n hn => (unhide HME n).2 (.inl (unhide HSB n hn)), unhide HVC _ (fun n hn => (unhide HME n).2 (.inl hn)) (fun _ => (unhide HME _).2 (.inr rfl))⟩
            have hr4 : r < wZ.heap.size := by have h1 := hgrowZ.size; simp at h1; omega
            clear KG4 HRG4 HSB HVC HGP HME hownZ hgrowZ n0 n1 n2 n3 n4
            go_wp2
            go_roundw
            case rel => exact ⟨_, cnt1, T ++ [⟨sp, ck, cd, ct, cm⟩], unhide HRZ, by simp; omega, unhide HG2, hr4, unhide HK4⟩
            case measure => rw [(unhide HRZ).left_eq, unhide HLE]; exact hlt1
    · obtain rfl : k = Ls.length := by omega
      have y1 : ¬ ((Ls.length : Int) < (Ls.length : Int)) := by omega
      go_wp2
      go_ret
      refine ⟨rfl, ⟨N, D, C, by omega, unhide KG, fun n => ⟨(unhide KG).gt.sub n, fun hn => ?_⟩⟩⟩
      obtain ⟨L, hL, m, hm, h1, h2⟩ := hn
      obtain ⟨j, hj⟩ := List.mem_iff_getElem?.1 hL
      rw [h2]
      exact unhide HAll j L (List.getElem?_eq_some_iff.1 hj).1 hj m hm h1
end WGather
end Go.Proofs.YtibmflhelgedeaaGreatDoor

/- whole: all that is told of layers, if a tree has room for it. -/
namespace Go.Proofs.YtibmflhelgedeaaGreatDoor
open Go.RowKit Go.Maps
namespace WGather
set_option maxRecDepth 100000 in
theorem in_over (B : Nat) (v : Value) (Bs : List Nat) (Ls : List (List Pl.Nd)) (w : World) (hov : WOverI.Ov w B v Bs Ls) (h4 : Ls.length ≤ 4) (htr : ∀ L ∈ Ls, Pl.treeB L = true) :
    Calls Tryz.prog 149 #[.iface 122 v] w fun e w' => e = .returned (.map (some w.heap.size)) ∧ Whole w w' Ls w.heap.size := by
  have hg := hide (gathered_any B v Bs Ls w hov h4 htr)
  obtain ⟨a, cap, rfl⟩ := WSight.ov_shape hov
  have h1 := no_map a Ls.length cap
  have h2 := is_over a Ls.length cap
  clear hov
  go_enter Tryz.func149, Tryz.ntmps149
  go_wp2_with fail
  refine (unhide hg).mono ?_
  rintro e w1 ⟨rfl, h⟩
  clear hg h1 h2
  go_wp2
  go_ret
  exact ⟨rfl, h⟩
/-- What whole hands back. -/
def WholeIs (w w' : World) (Ls : List (List Pl.Nd)) (x : Nat → Addr) (e : Ending) : Prop :=
  (∃ N D C, e = .returned (.tuple #[.map (some w.heap.size), .nilIface]) ∧ C.length ≤ 40 ∧ N ≤ 200 ∧ Gk w w' Ls w.heap.size N D C ∧ ∀ n, n ∈ C ↔ Pl.ToldN Ls n) ∨
  (∃ C : List Pl.Nd, e = .returned (.tuple #[.map none, .iface 248 (.pointer (some (x 5)))]) ∧ 40 < C.length ∧ C.Pairwise (fun a b => a.path ≠ b.path) ∧ (∀ n, n ∈ C ↔ Pl.ToldN Ls n) ∧ Below w.heap.size w w')
set_option maxRecDepth 100000 in
set_option maxHeartbeats 400000 in
theorem whole_any (B : Nat) (v : Value) (Bs : List Nat) (Ls : List (List Pl.Nd)) (w : World) (hov : WOverI.Ov w B v Bs Ls) (h4 : Ls.length ≤ 4) (htr : ∀ L ∈ Ls, Pl.treeB L = true) (x : Nat → Addr) (hE : WIs.Six w x) :
    Calls Tryz.prog 106 #[v] w fun e w' => WholeIs w w' Ls x e := by
  have hg := hide (in_over B v Bs Ls w hov h4 htr)
  obtain ⟨a, cap, rfl⟩ := WSight.ov_shape hov
  have HE := hide hE
  clear hov hE
  go_enter Tryz.func106, Tryz.ntmps106
  go_wp2_with fail
  refine (unhide hg).mono ?_
  rintro e w1 ⟨rfl, N, D, C, hN, G, hC⟩
  clear hg
  have KG := hide G
  have HC := hide hC
  have hsz := G.gt.size
  have hk := ((unhide HE).call G.bel).c5
  clear G hC
  by_cases hl : 40 < C.length
  · have y1 : (40 : Int) < (Maps.size D : Int) := by omega
    go_wp2_with (first
      | (at_len; refine wpList_len_own _ rfl _ 98 rfl 9 27 Tryz.underlying98 _ w.heap.size N D rfl (unhide KG).map ?_)
      | go_in)
    go_region
    go_wp2
    go_ret2
    exact .inr ⟨C, rfl, hl, (unhide KG).gt.apart, unhide HC, Mem.below_drewN (unhide KG).bel 1⟩
  · have y1 : ¬ (40 : Int) < (Maps.size D : Int) := by omega
    go_wp2_with (first
      | (at_len; refine wpList_len_own _ rfl _ 98 rfl 9 27 Tryz.underlying98 _ w.heap.size N D rfl (unhide KG).map ?_)
      | go_in)
    go_ret2
    exact .inl ⟨N, D, C, rfl, by omega, hN, unhide KG, unhide HC⟩
end WGather
end Go.Proofs.YtibmflhelgedeaaGreatDoor

