/- Several texts of one claim in one file: WPutS, WPutT, WPutA, WPutB. -/
import Derived.Test.YteddcihodfkliaaGreatDoorPartS
import Derived.Test.YteddcihodfkliaaGreatDoorPartB
import Derived.Test.YteddcihodfkliaaGreatDoorPartA
import Derived.Test.YteddcihodfkliaaGreatDoorMemPutT
import Derived.Test.YteddcihodfkliaaGreatDoorWIll3
import Derived.Test.YteddcihodfkliaaGreatDoorWNode
/- The walk of the specification's l03Over: are there nodes under a path? -/
namespace Go.Proofs.YteddcihodfkliaaGreatDoor
open Go.RowKit
namespace Pl
def overL (L : List Nd) (p : ByteArray) : Bool := L.any (fun m => !decide (m.path = p) && under m.path p)
theorem over_yes {L : List Nd} {p : ByteArray} {k : Nat} {n : Nd} (hn : L[k]? = some n) (h1 : n.path ≠ p) (h2 : under n.path p = true) : overL L p = true :=
  List.any_eq_true.2 ⟨n, List.mem_of_getElem? hn, by simp [h1, h2]⟩
theorem over_no {L : List Nd} {p : ByteArray} (h : ∀ (j : Nat) m, L[j]? = some m → m.path = p ∨ under m.path p = false) : overL L p = false := by
  rw [overL, List.any_eq_false]
  intro m hm
  obtain ⟨j, hj⟩ := List.mem_iff_getElem?.1 hm
  rcases h j m hj with h | h <;> simp [h]
end Pl
namespace WPutS
theorem tl_ne {a b : ByteArray} (h : a ≠ b) : (a.toList == b.toList) = false := by
  rw [beq_eq_false_iff_ne]
  intro e
  exact h (Pl.by_inj (by rw [ByteArray.toList_eq, ByteArray.toList_eq] at e; exact e))
set_option linter.unusedSimpArgs false in
set_option maxRecDepth 100000 in
set_option maxHeartbeats 2000000 in
theorem over_any (a : Option Addr) (cap : Nat) (L : List Pl.Nd) (p : ByteArray) (w : World) (hl : L.length ≤ 1048576) (hv : Mem.isNodes w a L) (hp : p.size ≤ 1048576) :
    Calls Tryz.prog 158 #[.agg #[.slice a L.length cap], .string p] w fun e w' => e = .returned (.bool (Pl.overL L p)) ∧ Below w.heap.size w w' := by
  have b0 : Below w.heap.size w (w.alloc (.cells #[.slice a L.length cap] 29)) := (Below.refl _ _).alloc (Nat.le_refl _) _
  have HV := hide (Mem.nodes_call hv b0)
  have E1 : Hid (∀ (k : Nat) n, L[k]? = some n → n.path ≠ p → Pl.under n.path p = true → Pl.overL L p = true) := fun k n => Pl.over_yes
  have E2 : Hid ((∀ (j : Nat) m, L[j]? = some m → m.path = p ∨ Pl.under m.path p = false) → Pl.overL L p = false) := Pl.over_no
  generalize Pl.overL L p = R at E1 E2 ⊢
  clear hv
  go_enter Tryz.func158, Tryz.ntmps158
  go_wp2
  go_loop [5] (fun i => ∃ k : Nat, k ≤ L.length ∧ i = .int .i64 (k : Int) ∧ Hid (∀ (j : Nat) m, j < k → L[j]? = some m → m.path = p ∨ Pl.under m.path p = false)) (fun i => L.length - (intOf i).toNat)
  case atStart => exact ⟨0, Nat.zero_le _, rfl, fun j m h => absurd h (by omega)⟩
  case round =>
    obtain ⟨k, hk, rfl, HA⟩ := hrel
    by_cases hlt : k < L.length
    · obtain ⟨n, hn⟩ : ∃ n, L[k]? = some n := ⟨_, List.getElem?_eq_getElem hlt⟩
      obtain ⟨b, o, rfl, hb, q0, -, -, -, -⟩ := (unhide HV) k n hn
      have y1 : (k : Int) < (L.length : Int) := by omega
      have y3 : (0 : Int) ≤ (k : Int) := by omega
      have EN := hide hn
      by_cases hqp : n.path = p
      · have HA2 : Hid (∀ (j : Nat) m, j < k + 1 → L[j]? = some m → m.path = p ∨ Pl.under m.path p = false) := fun j m hj hm => by
          rcases Nat.lt_succ_iff_lt_or_eq.1 hj with h'' | rfl
          · exact HA.out j m h'' hm
          · rw [unhide EN] at hm; cases hm; exact .inl hqp
        rw [hqp] at q0
        clear hn EN hqp
        go_wp2
        go_round
        case rel => exact ⟨k + 1, by omega, by go_num, HA2⟩
        case measure => simp [intOf]; omega
      · have t1 := tl_ne hqp
        have hcu := hide (fun W => WPathS.under1_any n.path p W hp)
        cases hun : Pl.under n.path p
        · have HA2 : Hid (∀ (j : Nat) m, j < k + 1 → L[j]? = some m → m.path = p ∨ Pl.under m.path p = false) := fun j m hj hm => by
            rcases Nat.lt_succ_iff_lt_or_eq.1 hj with h'' | rfl
            · exact HA.out j m h'' hm
            · rw [unhide EN] at hm; cases hm; exact .inr hun
          rw [hun] at hcu
          generalize n.path = np at q0 t1 hcu
          clear hn EN hqp hun
          go_wp2_with (go_at_call 160; refine (unhide hcu _).mono ?_; rintro e w' ⟨rfl, hw⟩; obtain rfl := hw.symm)
          go_round
          case rel => exact ⟨k + 1, by omega, by go_num, HA2⟩
          case measure => simp [intOf]; omega
        · have E := hide (unhide E1 k n hn hqp hun)
          rw [hun] at hcu
          generalize n.path = np at q0 t1 hcu
          clear hn EN hqp hun
          go_wp2_with (go_at_call 160; refine (unhide hcu _).mono ?_; rintro e w' ⟨rfl, hw⟩; obtain rfl := hw.symm)
          go_ret
          exact ⟨ret_bool (unhide E).symm, b0⟩
    · have E := hide (unhide E2 (fun j n h => HA.out j n (by have := (List.getElem?_eq_some_iff.1 h).1; omega) h))
      have u1 : ¬ (k : Int) < (L.length : Int) := by omega
      go_wp2
      go_ret
      exact ⟨ret_bool (unhide E).symm, b0⟩
end WPutS
end Go.Proofs.YteddcihodfkliaaGreatDoor

/- The walk of the specification's l03Put: a node in its place. -/
namespace Go.Proofs.YteddcihodfkliaaGreatDoor
open Go.RowKit
namespace WPutT
/-- What stands while l03Put goes on. -/
structure At (w W : World) (g : Nat) (L : List Pl.Nd) (n : Pl.Nd) : Prop where
  bel : Below w.heap.size w W
  one : Mem.Blk W w.heap.size #[.slice (some ⟨g, 0, none⟩) L.length L.length] 29
  two : Mem.Blk W (w.heap.size + 1) n.cs.toArray 34
  three : Mem.Blk W (w.heap.size + 1 + 1) #[.slice none 0 0] 29
  nodes : Mem.isNodes W (some ⟨g, 0, none⟩) L
  lt : g < w.heap.size
theorem At.call {w W W' : World} {g : Nat} {L : List Pl.Nd} {n : Pl.Nd} (h : At w W g L n) (b : Below W.heap.size W W') : At w W' g L n :=
  ⟨h.bel.trans (b.mono h.bel.size), h.one.call b, h.two.call b, h.three.call b, Mem.nodes_call h.nodes b, h.lt⟩
theorem At.drew {w W : World} {g : Nat} {L : List Pl.Nd} {n : Pl.Nd} (h : At w W g L n) : At w W.drew g L n :=
  ⟨⟨h.bel.os, h.bel.tape, h.bel.output, h.bel.size, h.bel.block⟩, h.one, h.two, h.three, h.nodes, h.lt⟩
theorem At.grown {w W W' : World} {g : Nat} {L : List Pl.Nd} {n : Pl.Nd} {r : Option Nat} (h : At w W g L n) (b : W.grownBy W' r) (hr : ∀ q, r = some q → w.heap.size + 3 ≤ q) : At w W' g L n :=
  ⟨h.bel.grown b h.bel.size (fun q hq => by have := hr q hq; omega), h.one.grown b (fun e => by have := hr _ e.symm; omega), h.two.grown b (fun e => by have := hr _ e.symm; omega), h.three.grown b (fun e => by have := hr _ e.symm; omega),
    Mem.nodes_grown h.nodes b (fun e => by have := hr _ e.symm; have := h.lt; omega), h.lt⟩
theorem At.alloc {w W : World} {g : Nat} {L : List Pl.Nd} {n : Pl.Nd} (h : At w W g L n) (o : Obj) : At w (W.alloc o) g L n := h.call ((Below.refl _ _).alloc (Nat.le_refl _) o)
set_option linter.unusedSimpArgs false in
set_option maxRecDepth 100000 in
set_option maxHeartbeats 1000000 in
theorem put_any (g : Nat) (L : List Pl.Nd) (n : Pl.Nd) (w : World) (hl : L.length ≤ 1000) (hg : g < w.heap.size) (hv : Mem.isNodes w (some ⟨g, 0, none⟩) L) (hok : ∀ m ∈ L, m.path.size ≤ 8000) (hn8 : n.path.size ≤ 8000) :
    Calls Tryz.prog 159 #[.agg #[.slice (some ⟨g, 0, none⟩) L.length L.length], n.val] w fun e w' => ∃ v, e = .returned (.agg #[v]) ∧ Mem.ownN w' w.heap.size v (Pl.putL L n) ∧ Below w.heap.size w w' := by
  obtain ⟨i0, hi, hz0, hz1, hz2⟩ := info_parts infoN
  have HLS := hide (fun m (hm : m ∈ L) W => WPathS.less1_any m.path n.path W (hok m hm) hn8)
  have HPUT := hide (fun k => Pl.put_at L n k)
  have HRD := hide (fun k => Pl.rest_drop L n.path k)
  have HAH : Hid (∀ m, Pl.aheadP n m = Pl.lessL (Pl.names m.path) (Pl.names n.path)) := fun m => rfl
  generalize Pl.putL L n = R at HPUT ⊢
  obtain ⟨np, nk, nd, nt, nm⟩ := n
  simp only [Pl.Nd.val] at HLS HRD HAH ⊢
  have H0 : At w (((w.alloc (.cells #[.slice (some ⟨g, 0, none⟩) L.length L.length] 29)).alloc (.cells #[.string np, .int .i64 nk, .string nd, .int .i64 nt, .int .i64 nm] 34)).alloc (.cells #[.slice none 0 0] 29)) g L ⟨np, nk, nd, nt, nm⟩ :=
    ⟨(((Below.refl _ _).alloc (Nat.le_refl _) _).alloc (by simp) _).alloc (by simp; omega) _, ((Mem.Blk.new _ _ _).alloc _).alloc _, (by have h := (Mem.Blk.new (w.alloc (.cells #[.slice (some ⟨g, 0, none⟩) L.length L.length] 29)) #[.string np, .int .i64 nk, .string nd, .int .i64 nt, .int .i64 nm] 34).alloc (.cells #[.slice none 0 0] 29); rwa [show (w.alloc (.cells #[.slice (some ⟨g, 0, none⟩) L.length L.length] 29)).heap.size = w.heap.size + 1 by simp] at h), Mem.new_three _ _ _ _,
      Mem.nodes_call hv ((((Below.refl _ _).alloc (Nat.le_refl _) _).alloc (by simp) _).alloc (by simp; omega) _), hg⟩
  have HH := hide H0
  clear H0 hv hok hn8
  go_enter Tryz.func159, Tryz.ntmps159
  go_wp2
  go_loopw [5] (fun i wr => ∃ k : Nat, k ≤ L.length ∧ i = .int .i64 (k : Int) ∧ Hid (At w wr g L ⟨np, nk, nd, nt, nm⟩) ∧ Hid (∀ (j : Nat) m, j < k → L[j]? = some m → Pl.aheadP ⟨np, nk, nd, nt, nm⟩ m = true)) (fun i _ => L.length - (intOf i).toNat)
  case atStart => exact ⟨0, Nat.zero_le _, rfl, HH, fun j m h => absurd h (by omega)⟩
  case round =>
    obtain ⟨k, hk, rfl, HA, HK⟩ := hrel
    clear HH
    by_cases hlt : k < L.length
    · obtain ⟨m, hm⟩ : ∃ m, L[k]? = some m := ⟨_, List.getElem?_eq_getElem hlt⟩
      have hls := hide (unhide HLS m (List.mem_of_getElem? hm))
      have y1 : (k : Int) < (L.length : Int) := by omega
      have y3 : (0 : Int) ≤ (k : Int) := by omega
      have EM := hide hm
      have HQ : Hid (∀ W', Below w.heap.size w W' → At w W' g L ⟨np, nk, nd, nt, nm⟩ → W'.cell? ⟨g, k * 5, none⟩ = some (.string m.path)) := fun W' _ h => by
        obtain ⟨b', o', e, _, z0, _⟩ := h.nodes k m hm
        cases e; rw [Nat.zero_add] at z0; exact z0
      cases hle : Pl.lessL (Pl.names m.path) (Pl.names np)
      · rw [hle] at hls
        have HF : Hid (∀ x, L[k]? = some x → Pl.aheadP ⟨np, nk, nd, nt, nm⟩ x = false) := fun x hx => by rw [unhide EM] at hx; cases hx; rw [unhide HAH]; exact hle
        clear hle hm HLS
        have MK : Hid (∀ W', At w W' g L ⟨np, nk, nd, nt, nm⟩ → (fun W' => At w W' g L ⟨np, nk, nd, nt, nm⟩ ∧ W'.cell? ⟨w.heap.size, 0, none⟩ = some (.slice (some ⟨g, 0, none⟩) L.length L.length) ∧ W'.cell? ⟨w.heap.size + 1, 0, none⟩ = some (.string np) ∧ W'.cell? ⟨g, k * 5, none⟩ = some (.string m.path)) W') := fun W' h => ⟨h, h.one.cell 0, h.two.cell 0, unhide HQ W' h.bel h⟩
        go_wp2_with fail
        refine wp_region_held_drew (S := fun W' => At w W' g L ⟨np, nk, nd, nt, nm⟩ ∧ W'.cell? ⟨w.heap.size, 0, none⟩ = some (.slice (some ⟨g, 0, none⟩) L.length L.length) ∧ W'.cell? ⟨w.heap.size + 1, 0, none⟩ = some (.string np) ∧ W'.cell? ⟨g, k * 5, none⟩ = some (.string m.path)) (by kernel_rfl) ?_ (fun hHeld => ?_)
        · exact unhide MK _ (unhide HA).drew
        refine wpAnyH_take (i := 0) (v := ?_) rfl (by kernel_rfl) (by kernel_rfl) (by kernel_rfl) (fun _ _ _ h => h) (Or.inl ⟨by rfl, ?_⟩) (by assumption) ?_
        rotate_left
        · (intro w hSw; (try dsimp only at hSw); go_simp; (try with_reducible rfl))
        try simp only [Act.put, List.getElem_toArray, List.getElem_cons_zero, List.getElem_cons_succ, List.setIfInBounds_toArray, List.set_cons_zero, List.set_cons_succ]
        refine wpAnyH_take (i := 1) (v := ?_) rfl (by kernel_rfl) (by kernel_rfl) (by kernel_rfl) (fun _ _ _ h => h) (Or.inl ⟨by rfl, ?_⟩) (by assumption) ?_
        rotate_left
        · (intro w hSw; (try dsimp only at hSw); go_simp; (try with_reducible rfl))
        try simp only [Act.put, List.getElem_toArray, List.getElem_cons_zero, List.getElem_cons_succ, List.setIfInBounds_toArray, List.set_cons_zero, List.set_cons_succ]
        refine wpAnyH_take (i := 2) (v := ?_) rfl (by kernel_rfl) (by kernel_rfl) (by kernel_rfl) (fun _ _ _ h => h) (Or.inl ⟨by rfl, ?_⟩) (by assumption) ?_
        rotate_left
        · (intro w hSw; (try dsimp only at hSw); go_simp; (try with_reducible rfl))
        try simp only [Act.put, List.getElem_toArray, List.getElem_cons_zero, List.getElem_cons_succ, List.setIfInBounds_toArray, List.set_cons_zero, List.set_cons_succ]
        refine wpAnyH_take (i := 3) (v := ?_) rfl (by kernel_rfl) (by kernel_rfl) (by kernel_rfl) (fun _ _ _ h => h) (Or.inl ⟨by rfl, ?_⟩) (by assumption) ?_
        rotate_left
        · (intro w hSw; (try dsimp only at hSw); go_simp; (try with_reducible rfl))
        try simp only [Act.put, List.getElem_toArray, List.getElem_cons_zero, List.getElem_cons_succ, List.setIfInBounds_toArray, List.set_cons_zero, List.set_cons_succ]
        refine wpAnyH_take (i := 4) (v := ?_) rfl (by kernel_rfl) (by kernel_rfl) (by kernel_rfl) (fun _ _ _ h => h) (Or.inl ⟨by rfl, ?_⟩) (by assumption) ?_
        rotate_left
        · (intro w hSw; (try dsimp only at hSw); go_simp; (try with_reducible rfl))
        try simp only [Act.put, List.getElem_toArray, List.getElem_cons_zero, List.getElem_cons_succ, List.setIfInBounds_toArray, List.set_cons_zero, List.set_cons_succ]
        refine wpAnyH_take (i := 5) (v := ?_) rfl (by kernel_rfl) (by kernel_rfl) (by kernel_rfl) (fun _ _ _ h => h) (Or.inl ⟨by rfl, ?_⟩) (by assumption) ?_
        rotate_left
        · (intro w hSw; (try dsimp only at hSw); go_simp; (try with_reducible rfl))
        try simp only [Act.put, List.getElem_toArray, List.getElem_cons_zero, List.getElem_cons_succ, List.setIfInBounds_toArray, List.set_cons_zero, List.set_cons_succ]
        refine wpAnyH_take (i := 6) (v := ?_) rfl (by kernel_rfl) (by kernel_rfl) (by kernel_rfl) (fun _ _ _ h => h) (Or.inl ⟨by rfl, ?_⟩) (by assumption) ?_
        rotate_left
        · (intro w hSw; (try dsimp only at hSw); go_simp; (try with_reducible rfl))
        try simp only [Act.put, List.getElem_toArray, List.getElem_cons_zero, List.getElem_cons_succ, List.setIfInBounds_toArray, List.set_cons_zero, List.set_cons_succ]
        refine wpAnyH_take (i := 7) (v := ?_) rfl (by kernel_rfl) (by kernel_rfl) (by kernel_rfl) (fun _ _ _ h => h) (Or.inl ⟨by rfl, ?_⟩) (by assumption) ?_
        rotate_left
        · (intro w hSw; (try dsimp only at hSw); go_simp; (try with_reducible rfl))
        try simp only [Act.put, List.getElem_toArray, List.getElem_cons_zero, List.getElem_cons_succ, List.setIfInBounds_toArray, List.set_cons_zero, List.set_cons_succ]
        refine wpAnyH_take (i := 8) (v := ?_) rfl (by kernel_rfl) (by kernel_rfl) (by kernel_rfl) (fun _ _ _ h => h) (Or.inl ⟨by rfl, ?_⟩) (by assumption) ?_
        rotate_left
        · (intro w hSw; (try dsimp only at hSw); go_simp; (try with_reducible rfl))
        try simp only [Act.put, List.getElem_toArray, List.getElem_cons_zero, List.getElem_cons_succ, List.setIfInBounds_toArray, List.set_cons_zero, List.set_cons_succ]
        refine wpAnyH_take (i := 9) (v := ?_) rfl (by kernel_rfl) (by kernel_rfl) (by kernel_rfl) (fun _ _ _ h => h) (Or.inl ⟨by rfl, ?_⟩) (by assumption) ?_
        rotate_left
        · (intro w hSw; (try dsimp only at hSw); go_simp; (try with_reducible rfl))
        try simp only [Act.put, List.getElem_toArray, List.getElem_cons_zero, List.getElem_cons_succ, List.setIfInBounds_toArray, List.set_cons_zero, List.set_cons_succ]
        refine wpAnyH_take (i := 10) (v := ?_) rfl (by kernel_rfl) (by kernel_rfl) (by kernel_rfl) (fun _ _ _ h => h) (Or.inl ⟨by rfl, ?_⟩) (by assumption) ?_
        rotate_left
        · (intro w hSw; (try dsimp only at hSw); go_simp; (try with_reducible rfl))
        try simp only [Act.put, List.getElem_toArray, List.getElem_cons_zero, List.getElem_cons_succ, List.setIfInBounds_toArray, List.set_cons_zero, List.set_cons_succ]
        refine wpAnyH_take (i := 11) (v := ?_) rfl (by kernel_rfl) (by kernel_rfl) (by kernel_rfl) (fun _ _ _ h => h) (Or.inl ⟨by rfl, ?_⟩) (by assumption) ?_
        rotate_left
        · (intro w hSw; (try dsimp only at hSw); go_simp; (try with_reducible rfl))
        try simp only [Act.put, List.getElem_toArray, List.getElem_cons_zero, List.getElem_cons_succ, List.setIfInBounds_toArray, List.set_cons_zero, List.set_cons_succ]
        refine wpAnyH_take (i := 12) (v := ?_) rfl (by kernel_rfl) (by kernel_rfl) (by kernel_rfl) (fun _ _ _ h => h) (Or.inl ⟨by rfl, ?_⟩) (by assumption) ?_
        rotate_left
        · (intro w hSw; (try dsimp only at hSw); go_simp; (try with_reducible rfl))
        try simp only [Act.put, List.getElem_toArray, List.getElem_cons_zero, List.getElem_cons_succ, List.setIfInBounds_toArray, List.set_cons_zero, List.set_cons_succ]
        refine wpAnyH_take (i := 13) (v := ?_) rfl (by kernel_rfl) (by kernel_rfl) (by kernel_rfl) (fun _ _ _ h => h) (Or.inl ⟨by rfl, ?_⟩) (by assumption) ?_
        rotate_left
        · (intro w hSw; (try dsimp only at hSw); go_simp; (try with_reducible rfl))
        try simp only [Act.put, List.getElem_toArray, List.getElem_cons_zero, List.getElem_cons_succ, List.setIfInBounds_toArray, List.set_cons_zero, List.set_cons_succ]
        refine wpAnyH_ready (rs := [14]) (by kernel_rfl) (by simp) ?_
        refine AllReadyH.cons rfl (fun K hK => ?_) AllReadyH.nil
        go_simp
        refine (unhide hls _).mono ?_
        rintro e wX ⟨rfl, bX⟩
        refine hK.out _ _ ?_ (fun hHeld => ?_)
        · exact unhide MK _ (hHeld.1.call bX)
        clear hK K
        try simp only [Act.put, List.getElem_toArray, List.getElem_cons_zero, List.getElem_cons_succ, List.setIfInBounds_toArray, List.set_cons_zero, List.set_cons_succ]
        refine wpAnyH_take (i := 15) (v := ?_) rfl (by kernel_rfl) (by kernel_rfl) (by kernel_rfl) (fun _ _ _ h => h) (Or.inl ⟨by rfl, ?_⟩) (by assumption) ?_
        rotate_left
        · (intro w hSw; (try dsimp only at hSw); go_simp; (try with_reducible rfl))
        try simp only [Act.put, List.getElem_toArray, List.getElem_cons_zero, List.getElem_cons_succ, List.setIfInBounds_toArray, List.set_cons_zero, List.set_cons_succ]
        refine wpAnyH_done (by kernel_rfl) ?_ _
        have AX := hide hHeld.1
        clear hHeld MK bX hls HA
        have hsW := (unhide AX).three.lt
        have OA0 : Hid (Mem.ownN (wX.alloc (.cells #[] 34)) (w.heap.size + 3) (.slice (some ⟨wX.heap.size, 0, none⟩) 0 0) []) := ⟨rfl, .inr ⟨wX.heap.size, 0, #[], rfl, by omega, heap_alloc_new _ _, Nat.le_refl _, Nat.zero_le _, rfl, rfl⟩⟩
        have AA := hide ((unhide AX).alloc (.cells #[] 34))
        clear AX
        have d0 := (unhide AA).one.cell 0
        simp only [List.getElem?_toArray, List.getElem?_cons_zero] at d0
        have s0 : (0 : Int) ≤ (k : Int) := by omega
        have s1 : (k : Int) ≤ (L.length : Int) := by omega
        have hlk : (L.take k).length = k := by rw [List.length_take]; omega
        have HLK := hide hlk
        clear hlk
        go_wp2_with (at_builtin; refine wpList_append_own _ rfl _ _ 27 rfl (w.heap.size + 3) 34 i0 _ 5 56 Tryz.underlying27 hi hz0 hz1 hz2 rfl (by decide) _ _ _ rfl (unhide OA0) ⟨g, 0, none⟩ k L.length (Pl.cellsN (L.take k)) rfl (by rw [Pl.cellsN_len, unhide HLK]) (cells_at (nodes_take (unhide AA).nodes k)) (cells_one _) (by rw [List.length_nil, Nat.zero_add]; unfold maxLen; omega) (by rw [List.length_nil, Nat.zero_add]; omega) (by have := (unhide AA).three.lt; omega) ?_)
        intro v1 wA ownA growA _
        have OA := hide (ownN_app (A := []) (M := L.take k) (m := k) (by rw [List.length_nil, Nat.zero_add]; exact ownA) (unhide HLK).symm)
        rw [List.nil_append] at OA
        obtain ⟨TK, hTK⟩ : ∃ TK, L.take k = TK := ⟨_, rfl⟩
        rw [hTK] at OA
        have HTK := hide hTK
        clear hTK
        have A1 := hide ((unhide AA).grown growA (fun q hq => by have h9 : wX.heap.size = q := Option.some.inj hq; omega))
        clear ownA growA OA0 AA d0 hsW
        have e0 := (unhide A1).two.cell 0
        have e1 := (unhide A1).two.cell 1
        have e2 := (unhide A1).two.cell 2
        have e3 := (unhide A1).two.cell 3
        have e4 := (unhide A1).two.cell 4
        simp only [Pl.Nd.cs, List.getElem?_toArray, List.getElem?_cons_zero, List.getElem?_cons_succ] at e0 e1 e2 e3 e4
        have HLA := hide (Mem.ownN_lt (unhide OA))
        have hlen1 : TK.length ≤ 1000 := by rw [← unhide HTK, List.length_take]; omega
        go_wp2_with (at_builtin; refine wpList_append_own _ rfl _ _ 27 rfl (w.heap.size + 3) 34 i0 _ 5 56 Tryz.underlying27 hi hz0 hz1 hz2 rfl (by decide) _ _ _ rfl (Mem.ownN_alloc (unhide OA) _) ⟨wA.heap.size, 0, none⟩ 1 1 [.string np, .int .i64 nk, .string nd, .int .i64 nt, .int .i64 nm] rfl rfl (Mem.cs_new wA ⟨np, nk, nd, nt, nm⟩ _) (Mem.cs_one ⟨np, nk, nd, nt, nm⟩) (by unfold maxLen; omega) (by omega) (by have := (unhide A1).three.lt; simp; omega) ?_)
        intro v2 wB ownB growB _
        have OB := hide (Mem.ownN_snoc (L := TK) (n := ⟨np, nk, nd, nt, nm⟩) ownB)
        have AB := hide (((unhide A1).alloc (.cells #[.string np, .int .i64 nk, .string nd, .int .i64 nt, .int .i64 nm] 34)).grown growB (fun q hq => (unhide HLA q hq).1))
        clear ownB growB OA A1 e0 e1 e2 e3 e4 HLA hlen1 HLK
        by_cases hqe : m.path = np
        · by_cases hke : k + 1 = L.length
          · have ER := hide (show R = (TK ++ [⟨np, nk, nd, nt, nm⟩]) ++ [] by
              rw [← unhide HTK, unhide HPUT k (by omega) (unhide HK) (unhide HF), unhide HRD k, if_pos ⟨m, unhide EM, hqe⟩, List.drop_eq_nil_of_le (by omega)]; simp)
            rw [hqe] at HQ
            clear HPUT HRD HK HF HAH EM hqe
            have HKE := hide hke
            clear hke
            have MK : Hid (∀ W', At w W' g L ⟨np, nk, nd, nt, nm⟩ → (fun W' => At w W' g L ⟨np, nk, nd, nt, nm⟩ ∧ W'.cell? ⟨w.heap.size, 0, none⟩ = some (.slice (some ⟨g, 0, none⟩) L.length L.length) ∧ W'.cell? ⟨w.heap.size + 1, 0, none⟩ = some (.string np) ∧ W'.cell? ⟨g, k * 5, none⟩ = some (.string np)) W') := fun W' h => ⟨h, h.one.cell 0, h.two.cell 0, unhide HQ W' h.bel h⟩
            go_wp2_with fail
            refine wp_region_held_drew (S := fun W' => At w W' g L ⟨np, nk, nd, nt, nm⟩ ∧ W'.cell? ⟨w.heap.size, 0, none⟩ = some (.slice (some ⟨g, 0, none⟩) L.length L.length) ∧ W'.cell? ⟨w.heap.size + 1, 0, none⟩ = some (.string np) ∧ W'.cell? ⟨g, k * 5, none⟩ = some (.string np)) (by kernel_rfl) ?_ (fun hHeld => ?_)
            · exact unhide MK _ (unhide AB).drew
            refine wpAnyH_take (i := 0) (v := ?_) rfl (by kernel_rfl) (by kernel_rfl) (by kernel_rfl) (fun _ _ _ h => h) (Or.inl ⟨by rfl, ?_⟩) (by assumption) ?_
            rotate_left
            · (intro w hSw; (try dsimp only at hSw); go_simp; (try with_reducible rfl))
            try simp only [Act.put, List.getElem_toArray, List.getElem_cons_zero, List.getElem_cons_succ, List.setIfInBounds_toArray, List.set_cons_zero, List.set_cons_succ]
            refine wpAnyH_take (i := 1) (v := ?_) rfl (by kernel_rfl) (by kernel_rfl) (by kernel_rfl) (fun _ _ _ h => h) (Or.inl ⟨by rfl, ?_⟩) (by assumption) ?_
            rotate_left
            · (intro w hSw; (try dsimp only at hSw); go_simp; (try with_reducible rfl))
            try simp only [Act.put, List.getElem_toArray, List.getElem_cons_zero, List.getElem_cons_succ, List.setIfInBounds_toArray, List.set_cons_zero, List.set_cons_succ]
            refine wpAnyH_take (i := 2) (v := ?_) rfl (by kernel_rfl) (by kernel_rfl) (by kernel_rfl) (fun _ _ _ h => h) (Or.inl ⟨by rfl, ?_⟩) (by assumption) ?_
            rotate_left
            · (intro w hSw; (try dsimp only at hSw); go_simp; (try with_reducible rfl))
            try simp only [Act.put, List.getElem_toArray, List.getElem_cons_zero, List.getElem_cons_succ, List.setIfInBounds_toArray, List.set_cons_zero, List.set_cons_succ]
            refine wpAnyH_take (i := 3) (v := ?_) rfl (by kernel_rfl) (by kernel_rfl) (by kernel_rfl) (fun _ _ _ h => h) (Or.inl ⟨by rfl, ?_⟩) (by assumption) ?_
            rotate_left
            · (intro w hSw; (try dsimp only at hSw); go_simp; (try with_reducible rfl))
            try simp only [Act.put, List.getElem_toArray, List.getElem_cons_zero, List.getElem_cons_succ, List.setIfInBounds_toArray, List.set_cons_zero, List.set_cons_succ]
            refine wpAnyH_take (i := 4) (v := ?_) rfl (by kernel_rfl) (by kernel_rfl) (by kernel_rfl) (fun _ _ _ h => h) (Or.inl ⟨by rfl, ?_⟩) (by assumption) ?_
            rotate_left
            · (intro w hSw; (try dsimp only at hSw); go_simp; (try with_reducible rfl))
            try simp only [Act.put, List.getElem_toArray, List.getElem_cons_zero, List.getElem_cons_succ, List.setIfInBounds_toArray, List.set_cons_zero, List.set_cons_succ]
            refine wpAnyH_take (i := 5) (v := ?_) rfl (by kernel_rfl) (by kernel_rfl) (by kernel_rfl) (fun _ _ _ h => h) (Or.inl ⟨by rfl, ?_⟩) (by assumption) ?_
            rotate_left
            · (intro w hSw; (try dsimp only at hSw); go_simp; (try with_reducible rfl))
            try simp only [Act.put, List.getElem_toArray, List.getElem_cons_zero, List.getElem_cons_succ, List.setIfInBounds_toArray, List.set_cons_zero, List.set_cons_succ]
            refine wpAnyH_take (i := 6) (v := ?_) rfl (by kernel_rfl) (by kernel_rfl) (by kernel_rfl) (fun _ _ _ h => h) (Or.inl ⟨by rfl, ?_⟩) (by assumption) ?_
            rotate_left
            · (intro w hSw; (try dsimp only at hSw); go_simp; (try with_reducible rfl))
            try simp only [Act.put, List.getElem_toArray, List.getElem_cons_zero, List.getElem_cons_succ, List.setIfInBounds_toArray, List.set_cons_zero, List.set_cons_succ]
            refine wpAnyH_take (i := 7) (v := ?_) rfl (by kernel_rfl) (by kernel_rfl) (by kernel_rfl) (fun _ _ _ h => h) (Or.inl ⟨by rfl, ?_⟩) (by assumption) ?_
            rotate_left
            · (intro w hSw; (try dsimp only at hSw); go_simp; (try with_reducible rfl))
            try simp only [Act.put, List.getElem_toArray, List.getElem_cons_zero, List.getElem_cons_succ, List.setIfInBounds_toArray, List.set_cons_zero, List.set_cons_succ]
            refine wpAnyH_take (i := 8) (v := ?_) rfl (by kernel_rfl) (by kernel_rfl) (by kernel_rfl) (fun _ _ _ h => h) (Or.inl ⟨by rfl, ?_⟩) (by assumption) ?_
            rotate_left
            · (intro w hSw; (try dsimp only at hSw); go_simp; (try with_reducible rfl))
            try simp only [Act.put, List.getElem_toArray, List.getElem_cons_zero, List.getElem_cons_succ, List.setIfInBounds_toArray, List.set_cons_zero, List.set_cons_succ]
            refine wpAnyH_take (i := 9) (v := ?_) rfl (by kernel_rfl) (by kernel_rfl) (by kernel_rfl) (fun _ _ _ h => h) (Or.inl ⟨by rfl, ?_⟩) (by assumption) ?_
            rotate_left
            · (intro w hSw; (try dsimp only at hSw); go_simp; (try with_reducible rfl))
            try simp only [Act.put, List.getElem_toArray, List.getElem_cons_zero, List.getElem_cons_succ, List.setIfInBounds_toArray, List.set_cons_zero, List.set_cons_succ]
            refine wpAnyH_take (i := 10) (v := ?_) rfl (by kernel_rfl) (by kernel_rfl) (by kernel_rfl) (fun _ _ _ h => h) (Or.inl ⟨by rfl, ?_⟩) (by assumption) ?_
            rotate_left
            · (intro w hSw; (try dsimp only at hSw); go_simp; (try with_reducible rfl))
            try simp only [Act.put, List.getElem_toArray, List.getElem_cons_zero, List.getElem_cons_succ, List.setIfInBounds_toArray, List.set_cons_zero, List.set_cons_succ]
            refine wpAnyH_take (i := 11) (v := ?_) rfl (by kernel_rfl) (by kernel_rfl) (by kernel_rfl) (fun _ _ _ h => h) (Or.inl ⟨by rfl, ?_⟩) (by assumption) ?_
            rotate_left
            · (intro w hSw; (try dsimp only at hSw); go_simp; (try with_reducible rfl))
            try simp only [Act.put, List.getElem_toArray, List.getElem_cons_zero, List.getElem_cons_succ, List.setIfInBounds_toArray, List.set_cons_zero, List.set_cons_succ]
            refine wpAnyH_take (i := 12) (v := ?_) rfl (by kernel_rfl) (by kernel_rfl) (by kernel_rfl) (fun _ _ _ h => h) (Or.inl ⟨by rfl, ?_⟩) (by assumption) ?_
            rotate_left
            · (intro w hSw; (try dsimp only at hSw); go_simp; (try with_reducible rfl))
            try simp only [Act.put, List.getElem_toArray, List.getElem_cons_zero, List.getElem_cons_succ, List.setIfInBounds_toArray, List.set_cons_zero, List.set_cons_succ]
            refine wpAnyH_take (i := 13) (v := ?_) rfl (by kernel_rfl) (by kernel_rfl) (by kernel_rfl) (fun _ _ _ h => h) (Or.inl ⟨by rfl, ?_⟩) (by assumption) ?_
            rotate_left
            · (intro w hSw; (try dsimp only at hSw); go_simp; (try with_reducible rfl))
            try simp only [Act.put, List.getElem_toArray, List.getElem_cons_zero, List.getElem_cons_succ, List.setIfInBounds_toArray, List.set_cons_zero, List.set_cons_succ]
            refine wpAnyH_take (i := 14) (v := ?_) rfl (by kernel_rfl) (by kernel_rfl) (by kernel_rfl) (fun _ _ _ h => h) (Or.inl ⟨by rfl, ?_⟩) (by assumption) ?_
            rotate_left
            · (intro w hSw; (try dsimp only at hSw); go_simp; (try with_reducible rfl))
            try simp only [Act.put, List.getElem_toArray, List.getElem_cons_zero, List.getElem_cons_succ, List.setIfInBounds_toArray, List.set_cons_zero, List.set_cons_succ]
            refine wpAnyH_take (i := 15) (v := ?_) rfl (by kernel_rfl) (by kernel_rfl) (by kernel_rfl) (fun _ _ _ h => h) (Or.inl ⟨by rfl, ?_⟩) (by assumption) ?_
            rotate_left
            · (intro w hSw; (try dsimp only at hSw); go_simp; (try with_reducible rfl))
            try simp only [Act.put, List.getElem_toArray, List.getElem_cons_zero, List.getElem_cons_succ, List.setIfInBounds_toArray, List.set_cons_zero, List.set_cons_succ]
            refine wpAnyH_done (by kernel_rfl) ?_ _
            have OC : Hid (Mem.ownN wB.drew (w.heap.size + 3) v2 (TK ++ [⟨np, nk, nd, nt, nm⟩])) := unhide OB
            generalize wB.drew = WC at hHeld OC ⊢
            have AC := hide hHeld.1
            clear hHeld MK AB OB HQ
            have s2 : (k : Int) + 1 ≤ (L.length : Int) := by omega
            have s3 : (0 : Int) ≤ (k : Int) + 1 := by omega
            have s4 : L.length = k + 1 := (unhide HKE).symm
            have d0 := (unhide AC).one.cell 0
            simp only [List.getElem?_toArray, List.getElem?_cons_zero] at d0
            have HLC := hide (Mem.ownN_lt (unhide OC))
            have hlT : TK.length ≤ 1000 := by rw [← unhide HTK, List.length_take]; omega
            go_wp2_with (at_builtin; refine wpList_append_own _ rfl _ _ 27 rfl (w.heap.size + 3) 34 i0 _ 5 56 Tryz.underlying27 hi hz0 hz1 hz2 rfl (by decide) _ _ _ rfl (unhide OC) ⟨g, 0, none⟩ 0 0 (Pl.cellsN ([])) rfl (by simp [Pl.cellsN]) (fun j u h => by simp [Pl.cellsN] at h) (cells_one _) (by rw [List.length_append, List.length_singleton]; unfold maxLen; omega) (by rw [List.length_append, List.length_singleton]; omega) (by have := (unhide AC).three.lt; omega) ?_)
            intro v3 wD ownD growD _
            have OD := hide (ownN_app (A := TK ++ [⟨np, nk, nd, nt, nm⟩]) (M := []) (m := 0) (by first | exact ownD | (rw [List.length_append, List.length_singleton]; exact ownD) | (rw [Nat.add_zero, List.length_append, List.length_singleton]; exact ownD)) (by simp))
            have AD2 := hide ((unhide AC).grown growD (fun q hq => (unhide HLC q hq).1))
            clear ownD growD HLC AC OC d0
            rw [← unhide ER] at OD
            obtain ⟨a3, cap3, hv3⟩ := Mem.own_shape (unhide OD)
            subst hv3
            have z0 := (unhide AD2).three.cell 0
            have zf := (unhide AD2).three.fr 0
            simp only [List.getElem?_toArray, List.getElem?_cons_zero] at z0
            clear ER
            go_wp2
            refine bodyPost_ret (v := .agg #[.slice a3 R.length cap3]) (by simp [results, Tryz.results159, go_sem, z0]) rfl ⟨_, rfl, ?_, ?_⟩
            · exact Mem.ownN_mono (Mem.ownN_set (unhide OD) _ _ (by show w.heap.size + 1 + 1 < w.heap.size + 3; omega)) (by omega)
            · exact (unhide AD2).bel.setCell (by show w.heap.size ≤ w.heap.size + 1 + 1; omega) _
          · have ER := hide (show R = (TK ++ [⟨np, nk, nd, nt, nm⟩]) ++ L.drop (k + 1) by
              rw [← unhide HTK, unhide HPUT k (by omega) (unhide HK) (unhide HF), unhide HRD k, if_pos ⟨m, unhide EM, hqe⟩]; simp)
            rw [hqe] at HQ
            clear HPUT HRD HK HF HAH EM hqe
            have MK : Hid (∀ W', At w W' g L ⟨np, nk, nd, nt, nm⟩ → (fun W' => At w W' g L ⟨np, nk, nd, nt, nm⟩ ∧ W'.cell? ⟨w.heap.size, 0, none⟩ = some (.slice (some ⟨g, 0, none⟩) L.length L.length) ∧ W'.cell? ⟨w.heap.size + 1, 0, none⟩ = some (.string np) ∧ W'.cell? ⟨g, k * 5, none⟩ = some (.string np)) W') := fun W' h => ⟨h, h.one.cell 0, h.two.cell 0, unhide HQ W' h.bel h⟩
            go_wp2_with fail
            refine wp_region_held_drew (S := fun W' => At w W' g L ⟨np, nk, nd, nt, nm⟩ ∧ W'.cell? ⟨w.heap.size, 0, none⟩ = some (.slice (some ⟨g, 0, none⟩) L.length L.length) ∧ W'.cell? ⟨w.heap.size + 1, 0, none⟩ = some (.string np) ∧ W'.cell? ⟨g, k * 5, none⟩ = some (.string np)) (by kernel_rfl) ?_ (fun hHeld => ?_)
            · exact unhide MK _ (unhide AB).drew
            refine wpAnyH_take (i := 0) (v := ?_) rfl (by kernel_rfl) (by kernel_rfl) (by kernel_rfl) (fun _ _ _ h => h) (Or.inl ⟨by rfl, ?_⟩) (by assumption) ?_
            rotate_left
            · (intro w hSw; (try dsimp only at hSw); go_simp; (try with_reducible rfl))
            try simp only [Act.put, List.getElem_toArray, List.getElem_cons_zero, List.getElem_cons_succ, List.setIfInBounds_toArray, List.set_cons_zero, List.set_cons_succ]
            refine wpAnyH_take (i := 1) (v := ?_) rfl (by kernel_rfl) (by kernel_rfl) (by kernel_rfl) (fun _ _ _ h => h) (Or.inl ⟨by rfl, ?_⟩) (by assumption) ?_
            rotate_left
            · (intro w hSw; (try dsimp only at hSw); go_simp; (try with_reducible rfl))
            try simp only [Act.put, List.getElem_toArray, List.getElem_cons_zero, List.getElem_cons_succ, List.setIfInBounds_toArray, List.set_cons_zero, List.set_cons_succ]
            refine wpAnyH_take (i := 2) (v := ?_) rfl (by kernel_rfl) (by kernel_rfl) (by kernel_rfl) (fun _ _ _ h => h) (Or.inl ⟨by rfl, ?_⟩) (by assumption) ?_
            rotate_left
            · (intro w hSw; (try dsimp only at hSw); go_simp; (try with_reducible rfl))
            try simp only [Act.put, List.getElem_toArray, List.getElem_cons_zero, List.getElem_cons_succ, List.setIfInBounds_toArray, List.set_cons_zero, List.set_cons_succ]
            refine wpAnyH_take (i := 3) (v := ?_) rfl (by kernel_rfl) (by kernel_rfl) (by kernel_rfl) (fun _ _ _ h => h) (Or.inl ⟨by rfl, ?_⟩) (by assumption) ?_
            rotate_left
            · (intro w hSw; (try dsimp only at hSw); go_simp; (try with_reducible rfl))
            try simp only [Act.put, List.getElem_toArray, List.getElem_cons_zero, List.getElem_cons_succ, List.setIfInBounds_toArray, List.set_cons_zero, List.set_cons_succ]
            refine wpAnyH_take (i := 4) (v := ?_) rfl (by kernel_rfl) (by kernel_rfl) (by kernel_rfl) (fun _ _ _ h => h) (Or.inl ⟨by rfl, ?_⟩) (by assumption) ?_
            rotate_left
            · (intro w hSw; (try dsimp only at hSw); go_simp; (try with_reducible rfl))
            try simp only [Act.put, List.getElem_toArray, List.getElem_cons_zero, List.getElem_cons_succ, List.setIfInBounds_toArray, List.set_cons_zero, List.set_cons_succ]
            refine wpAnyH_take (i := 5) (v := ?_) rfl (by kernel_rfl) (by kernel_rfl) (by kernel_rfl) (fun _ _ _ h => h) (Or.inl ⟨by rfl, ?_⟩) (by assumption) ?_
            rotate_left
            · (intro w hSw; (try dsimp only at hSw); go_simp; (try with_reducible rfl))
            try simp only [Act.put, List.getElem_toArray, List.getElem_cons_zero, List.getElem_cons_succ, List.setIfInBounds_toArray, List.set_cons_zero, List.set_cons_succ]
            refine wpAnyH_take (i := 6) (v := ?_) rfl (by kernel_rfl) (by kernel_rfl) (by kernel_rfl) (fun _ _ _ h => h) (Or.inl ⟨by rfl, ?_⟩) (by assumption) ?_
            rotate_left
            · (intro w hSw; (try dsimp only at hSw); go_simp; (try with_reducible rfl))
            try simp only [Act.put, List.getElem_toArray, List.getElem_cons_zero, List.getElem_cons_succ, List.setIfInBounds_toArray, List.set_cons_zero, List.set_cons_succ]
            refine wpAnyH_take (i := 7) (v := ?_) rfl (by kernel_rfl) (by kernel_rfl) (by kernel_rfl) (fun _ _ _ h => h) (Or.inl ⟨by rfl, ?_⟩) (by assumption) ?_
            rotate_left
            · (intro w hSw; (try dsimp only at hSw); go_simp; (try with_reducible rfl))
            try simp only [Act.put, List.getElem_toArray, List.getElem_cons_zero, List.getElem_cons_succ, List.setIfInBounds_toArray, List.set_cons_zero, List.set_cons_succ]
            refine wpAnyH_take (i := 8) (v := ?_) rfl (by kernel_rfl) (by kernel_rfl) (by kernel_rfl) (fun _ _ _ h => h) (Or.inl ⟨by rfl, ?_⟩) (by assumption) ?_
            rotate_left
            · (intro w hSw; (try dsimp only at hSw); go_simp; (try with_reducible rfl))
            try simp only [Act.put, List.getElem_toArray, List.getElem_cons_zero, List.getElem_cons_succ, List.setIfInBounds_toArray, List.set_cons_zero, List.set_cons_succ]
            refine wpAnyH_take (i := 9) (v := ?_) rfl (by kernel_rfl) (by kernel_rfl) (by kernel_rfl) (fun _ _ _ h => h) (Or.inl ⟨by rfl, ?_⟩) (by assumption) ?_
            rotate_left
            · (intro w hSw; (try dsimp only at hSw); go_simp; (try with_reducible rfl))
            try simp only [Act.put, List.getElem_toArray, List.getElem_cons_zero, List.getElem_cons_succ, List.setIfInBounds_toArray, List.set_cons_zero, List.set_cons_succ]
            refine wpAnyH_take (i := 10) (v := ?_) rfl (by kernel_rfl) (by kernel_rfl) (by kernel_rfl) (fun _ _ _ h => h) (Or.inl ⟨by rfl, ?_⟩) (by assumption) ?_
            rotate_left
            · (intro w hSw; (try dsimp only at hSw); go_simp; (try with_reducible rfl))
            try simp only [Act.put, List.getElem_toArray, List.getElem_cons_zero, List.getElem_cons_succ, List.setIfInBounds_toArray, List.set_cons_zero, List.set_cons_succ]
            refine wpAnyH_take (i := 11) (v := ?_) rfl (by kernel_rfl) (by kernel_rfl) (by kernel_rfl) (fun _ _ _ h => h) (Or.inl ⟨by rfl, ?_⟩) (by assumption) ?_
            rotate_left
            · (intro w hSw; (try dsimp only at hSw); go_simp; (try with_reducible rfl))
            try simp only [Act.put, List.getElem_toArray, List.getElem_cons_zero, List.getElem_cons_succ, List.setIfInBounds_toArray, List.set_cons_zero, List.set_cons_succ]
            refine wpAnyH_take (i := 12) (v := ?_) rfl (by kernel_rfl) (by kernel_rfl) (by kernel_rfl) (fun _ _ _ h => h) (Or.inl ⟨by rfl, ?_⟩) (by assumption) ?_
            rotate_left
            · (intro w hSw; (try dsimp only at hSw); go_simp; (try with_reducible rfl))
            try simp only [Act.put, List.getElem_toArray, List.getElem_cons_zero, List.getElem_cons_succ, List.setIfInBounds_toArray, List.set_cons_zero, List.set_cons_succ]
            refine wpAnyH_take (i := 13) (v := ?_) rfl (by kernel_rfl) (by kernel_rfl) (by kernel_rfl) (fun _ _ _ h => h) (Or.inl ⟨by rfl, ?_⟩) (by assumption) ?_
            rotate_left
            · (intro w hSw; (try dsimp only at hSw); go_simp; (try with_reducible rfl))
            try simp only [Act.put, List.getElem_toArray, List.getElem_cons_zero, List.getElem_cons_succ, List.setIfInBounds_toArray, List.set_cons_zero, List.set_cons_succ]
            refine wpAnyH_take (i := 14) (v := ?_) rfl (by kernel_rfl) (by kernel_rfl) (by kernel_rfl) (fun _ _ _ h => h) (Or.inl ⟨by rfl, ?_⟩) (by assumption) ?_
            rotate_left
            · (intro w hSw; (try dsimp only at hSw); go_simp; (try with_reducible rfl))
            try simp only [Act.put, List.getElem_toArray, List.getElem_cons_zero, List.getElem_cons_succ, List.setIfInBounds_toArray, List.set_cons_zero, List.set_cons_succ]
            refine wpAnyH_take (i := 15) (v := ?_) rfl (by kernel_rfl) (by kernel_rfl) (by kernel_rfl) (fun _ _ _ h => h) (Or.inl ⟨by rfl, ?_⟩) (by assumption) ?_
            rotate_left
            · (intro w hSw; (try dsimp only at hSw); go_simp; (try with_reducible rfl))
            try simp only [Act.put, List.getElem_toArray, List.getElem_cons_zero, List.getElem_cons_succ, List.setIfInBounds_toArray, List.set_cons_zero, List.set_cons_succ]
            refine wpAnyH_done (by kernel_rfl) ?_ _
            have OC : Hid (Mem.ownN wB.drew (w.heap.size + 3) v2 (TK ++ [⟨np, nk, nd, nt, nm⟩])) := unhide OB
            generalize wB.drew = WC at hHeld OC ⊢
            have AC := hide hHeld.1
            clear hHeld MK AB OB HQ
            have s2 : (k : Int) + 1 ≤ (L.length : Int) := by omega
            have s3 : (0 : Int) ≤ (k : Int) + 1 := by omega
            have s4 : ¬ L.length = k + 1 := by omega
            have d0 := (unhide AC).one.cell 0
            simp only [List.getElem?_toArray, List.getElem?_cons_zero] at d0
            have HLC := hide (Mem.ownN_lt (unhide OC))
            have hlT : TK.length ≤ 1000 := by rw [← unhide HTK, List.length_take]; omega
            go_wp2_with (at_builtin; refine wpList_append_own _ rfl _ _ 27 rfl (w.heap.size + 3) 34 i0 _ 5 56 Tryz.underlying27 hi hz0 hz1 hz2 rfl (by decide) _ _ _ rfl (unhide OC) ⟨g, (k + 1) * 5, none⟩ (L.length - (k + 1)) (L.length - (k + 1)) (Pl.cellsN (L.drop (k + 1))) rfl (by rw [Pl.cellsN_len, List.length_drop]) (cells_at (nodes_drop (unhide AC).nodes (k + 1))) (cells_one _) (by rw [List.length_append, List.length_singleton]; unfold maxLen; omega) (by rw [List.length_append, List.length_singleton]; omega) (by have := (unhide AC).three.lt; omega) ?_)
            intro v3 wD ownD growD _
            have OD := hide (ownN_app (A := TK ++ [⟨np, nk, nd, nt, nm⟩]) (M := L.drop (k + 1)) (m := (L.length - (k + 1))) (by first | exact ownD | (rw [List.length_append, List.length_singleton]; exact ownD) | (rw [Nat.add_zero, List.length_append, List.length_singleton]; exact ownD)) (by rw [List.length_drop]))
            have AD2 := hide ((unhide AC).grown growD (fun q hq => (unhide HLC q hq).1))
            clear ownD growD HLC AC OC d0
            rw [← unhide ER] at OD
            obtain ⟨a3, cap3, hv3⟩ := Mem.own_shape (unhide OD)
            subst hv3
            have z0 := (unhide AD2).three.cell 0
            have zf := (unhide AD2).three.fr 0
            simp only [List.getElem?_toArray, List.getElem?_cons_zero] at z0
            clear ER
            go_wp2
            refine bodyPost_ret (v := .agg #[.slice a3 R.length cap3]) (by simp [results, Tryz.results159, go_sem, z0]) rfl ⟨_, rfl, ?_, ?_⟩
            · exact Mem.ownN_mono (Mem.ownN_set (unhide OD) _ _ (by show w.heap.size + 1 + 1 < w.heap.size + 3; omega)) (by omega)
            · exact (unhide AD2).bel.setCell (by show w.heap.size ≤ w.heap.size + 1 + 1; omega) _
        · have ER := hide (show R = (TK ++ [⟨np, nk, nd, nt, nm⟩]) ++ L.drop k by
            rw [← unhide HTK, unhide HPUT k (by omega) (unhide HK) (unhide HF), unhide HRD k, if_neg (fun ⟨x, hx, hp⟩ => by rw [unhide EM] at hx; cases hx; exact hqe hp)]; simp)
          have tq := WPutS.tl_ne hqe
          generalize m.path = qp at HQ tq
          clear HPUT HRD HK HF HAH EM hqe
          have MK : Hid (∀ W', At w W' g L ⟨np, nk, nd, nt, nm⟩ → (fun W' => At w W' g L ⟨np, nk, nd, nt, nm⟩ ∧ W'.cell? ⟨w.heap.size, 0, none⟩ = some (.slice (some ⟨g, 0, none⟩) L.length L.length) ∧ W'.cell? ⟨w.heap.size + 1, 0, none⟩ = some (.string np) ∧ W'.cell? ⟨g, k * 5, none⟩ = some (.string qp)) W') := fun W' h => ⟨h, h.one.cell 0, h.two.cell 0, unhide HQ W' h.bel h⟩
          go_wp2_with fail
          refine wp_region_held_drew (S := fun W' => At w W' g L ⟨np, nk, nd, nt, nm⟩ ∧ W'.cell? ⟨w.heap.size, 0, none⟩ = some (.slice (some ⟨g, 0, none⟩) L.length L.length) ∧ W'.cell? ⟨w.heap.size + 1, 0, none⟩ = some (.string np) ∧ W'.cell? ⟨g, k * 5, none⟩ = some (.string qp)) (by kernel_rfl) ?_ (fun hHeld => ?_)
          · exact unhide MK _ (unhide AB).drew
          refine wpAnyH_take (i := 0) (v := ?_) rfl (by kernel_rfl) (by kernel_rfl) (by kernel_rfl) (fun _ _ _ h => h) (Or.inl ⟨by rfl, ?_⟩) (by assumption) ?_
          rotate_left
          · (intro w hSw; (try dsimp only at hSw); go_simp; (try with_reducible rfl))
          try simp only [Act.put, List.getElem_toArray, List.getElem_cons_zero, List.getElem_cons_succ, List.setIfInBounds_toArray, List.set_cons_zero, List.set_cons_succ]
          refine wpAnyH_take (i := 1) (v := ?_) rfl (by kernel_rfl) (by kernel_rfl) (by kernel_rfl) (fun _ _ _ h => h) (Or.inl ⟨by rfl, ?_⟩) (by assumption) ?_
          rotate_left
          · (intro w hSw; (try dsimp only at hSw); go_simp; (try with_reducible rfl))
          try simp only [Act.put, List.getElem_toArray, List.getElem_cons_zero, List.getElem_cons_succ, List.setIfInBounds_toArray, List.set_cons_zero, List.set_cons_succ]
          refine wpAnyH_take (i := 2) (v := ?_) rfl (by kernel_rfl) (by kernel_rfl) (by kernel_rfl) (fun _ _ _ h => h) (Or.inl ⟨by rfl, ?_⟩) (by assumption) ?_
          rotate_left
          · (intro w hSw; (try dsimp only at hSw); go_simp; (try with_reducible rfl))
          try simp only [Act.put, List.getElem_toArray, List.getElem_cons_zero, List.getElem_cons_succ, List.setIfInBounds_toArray, List.set_cons_zero, List.set_cons_succ]
          refine wpAnyH_take (i := 3) (v := ?_) rfl (by kernel_rfl) (by kernel_rfl) (by kernel_rfl) (fun _ _ _ h => h) (Or.inl ⟨by rfl, ?_⟩) (by assumption) ?_
          rotate_left
          · (intro w hSw; (try dsimp only at hSw); go_simp; (try with_reducible rfl))
          try simp only [Act.put, List.getElem_toArray, List.getElem_cons_zero, List.getElem_cons_succ, List.setIfInBounds_toArray, List.set_cons_zero, List.set_cons_succ]
          refine wpAnyH_take (i := 4) (v := ?_) rfl (by kernel_rfl) (by kernel_rfl) (by kernel_rfl) (fun _ _ _ h => h) (Or.inl ⟨by rfl, ?_⟩) (by assumption) ?_
          rotate_left
          · (intro w hSw; (try dsimp only at hSw); go_simp; (try with_reducible rfl))
          try simp only [Act.put, List.getElem_toArray, List.getElem_cons_zero, List.getElem_cons_succ, List.setIfInBounds_toArray, List.set_cons_zero, List.set_cons_succ]
          refine wpAnyH_take (i := 5) (v := ?_) rfl (by kernel_rfl) (by kernel_rfl) (by kernel_rfl) (fun _ _ _ h => h) (Or.inl ⟨by rfl, ?_⟩) (by assumption) ?_
          rotate_left
          · (intro w hSw; (try dsimp only at hSw); go_simp; (try with_reducible rfl))
          try simp only [Act.put, List.getElem_toArray, List.getElem_cons_zero, List.getElem_cons_succ, List.setIfInBounds_toArray, List.set_cons_zero, List.set_cons_succ]
          refine wpAnyH_take (i := 6) (v := ?_) rfl (by kernel_rfl) (by kernel_rfl) (by kernel_rfl) (fun _ _ _ h => h) (Or.inl ⟨by rfl, ?_⟩) (by assumption) ?_
          rotate_left
          · (intro w hSw; (try dsimp only at hSw); go_simp; (try with_reducible rfl))
          try simp only [Act.put, List.getElem_toArray, List.getElem_cons_zero, List.getElem_cons_succ, List.setIfInBounds_toArray, List.set_cons_zero, List.set_cons_succ]
          refine wpAnyH_take (i := 7) (v := ?_) rfl (by kernel_rfl) (by kernel_rfl) (by kernel_rfl) (fun _ _ _ h => h) (Or.inl ⟨by rfl, ?_⟩) (by assumption) ?_
          rotate_left
          · (intro w hSw; (try dsimp only at hSw); go_simp; (try with_reducible rfl))
          try simp only [Act.put, List.getElem_toArray, List.getElem_cons_zero, List.getElem_cons_succ, List.setIfInBounds_toArray, List.set_cons_zero, List.set_cons_succ]
          refine wpAnyH_take (i := 8) (v := ?_) rfl (by kernel_rfl) (by kernel_rfl) (by kernel_rfl) (fun _ _ _ h => h) (Or.inl ⟨by rfl, ?_⟩) (by assumption) ?_
          rotate_left
          · (intro w hSw; (try dsimp only at hSw); go_simp; (try with_reducible rfl))
          try simp only [Act.put, List.getElem_toArray, List.getElem_cons_zero, List.getElem_cons_succ, List.setIfInBounds_toArray, List.set_cons_zero, List.set_cons_succ]
          refine wpAnyH_take (i := 9) (v := ?_) rfl (by kernel_rfl) (by kernel_rfl) (by kernel_rfl) (fun _ _ _ h => h) (Or.inl ⟨by rfl, ?_⟩) (by assumption) ?_
          rotate_left
          · (intro w hSw; (try dsimp only at hSw); go_simp; (try with_reducible rfl))
          try simp only [Act.put, List.getElem_toArray, List.getElem_cons_zero, List.getElem_cons_succ, List.setIfInBounds_toArray, List.set_cons_zero, List.set_cons_succ]
          refine wpAnyH_take (i := 10) (v := ?_) rfl (by kernel_rfl) (by kernel_rfl) (by kernel_rfl) (fun _ _ _ h => h) (Or.inl ⟨by rfl, ?_⟩) (by assumption) ?_
          rotate_left
          · (intro w hSw; (try dsimp only at hSw); go_simp; (try with_reducible rfl))
          try simp only [Act.put, List.getElem_toArray, List.getElem_cons_zero, List.getElem_cons_succ, List.setIfInBounds_toArray, List.set_cons_zero, List.set_cons_succ]
          refine wpAnyH_take (i := 11) (v := ?_) rfl (by kernel_rfl) (by kernel_rfl) (by kernel_rfl) (fun _ _ _ h => h) (Or.inl ⟨by rfl, ?_⟩) (by assumption) ?_
          rotate_left
          · (intro w hSw; (try dsimp only at hSw); go_simp; (try with_reducible rfl))
          try simp only [Act.put, List.getElem_toArray, List.getElem_cons_zero, List.getElem_cons_succ, List.setIfInBounds_toArray, List.set_cons_zero, List.set_cons_succ]
          refine wpAnyH_take (i := 12) (v := ?_) rfl (by kernel_rfl) (by kernel_rfl) (by kernel_rfl) (fun _ _ _ h => h) (Or.inl ⟨by rfl, ?_⟩) (by assumption) ?_
          rotate_left
          · (intro w hSw; (try dsimp only at hSw); go_simp; (try with_reducible rfl))
          try simp only [Act.put, List.getElem_toArray, List.getElem_cons_zero, List.getElem_cons_succ, List.setIfInBounds_toArray, List.set_cons_zero, List.set_cons_succ]
          refine wpAnyH_take (i := 13) (v := ?_) rfl (by kernel_rfl) (by kernel_rfl) (by kernel_rfl) (fun _ _ _ h => h) (Or.inl ⟨by rfl, ?_⟩) (by assumption) ?_
          rotate_left
          · (intro w hSw; (try dsimp only at hSw); go_simp; (try with_reducible rfl))
          try simp only [Act.put, List.getElem_toArray, List.getElem_cons_zero, List.getElem_cons_succ, List.setIfInBounds_toArray, List.set_cons_zero, List.set_cons_succ]
          refine wpAnyH_take (i := 14) (v := ?_) rfl (by kernel_rfl) (by kernel_rfl) (by kernel_rfl) (fun _ _ _ h => h) (Or.inl ⟨by rfl, ?_⟩) (by assumption) ?_
          rotate_left
          · (intro w hSw; (try dsimp only at hSw); go_simp; (try with_reducible rfl))
          try simp only [Act.put, List.getElem_toArray, List.getElem_cons_zero, List.getElem_cons_succ, List.setIfInBounds_toArray, List.set_cons_zero, List.set_cons_succ]
          refine wpAnyH_take (i := 15) (v := ?_) rfl (by kernel_rfl) (by kernel_rfl) (by kernel_rfl) (fun _ _ _ h => h) (Or.inl ⟨by rfl, ?_⟩) (by assumption) ?_
          rotate_left
          · (intro w hSw; (try dsimp only at hSw); go_simp; (try with_reducible rfl))
          try simp only [Act.put, List.getElem_toArray, List.getElem_cons_zero, List.getElem_cons_succ, List.setIfInBounds_toArray, List.set_cons_zero, List.set_cons_succ]
          refine wpAnyH_done (by kernel_rfl) ?_ _
          have OC : Hid (Mem.ownN wB.drew (w.heap.size + 3) v2 (TK ++ [⟨np, nk, nd, nt, nm⟩])) := unhide OB
          generalize wB.drew = WC at hHeld OC ⊢
          have AC := hide hHeld.1
          clear hHeld MK AB OB HQ
          have s4 : ¬ L.length = k := by omega
          have d0 := (unhide AC).one.cell 0
          simp only [List.getElem?_toArray, List.getElem?_cons_zero] at d0
          have HLC := hide (Mem.ownN_lt (unhide OC))
          have hlT : TK.length ≤ 1000 := by rw [← unhide HTK, List.length_take]; omega
          go_wp2_with (at_builtin; refine wpList_append_own _ rfl _ _ 27 rfl (w.heap.size + 3) 34 i0 _ 5 56 Tryz.underlying27 hi hz0 hz1 hz2 rfl (by decide) _ _ _ rfl (unhide OC) ⟨g, (k) * 5, none⟩ (L.length - (k)) (L.length - (k)) (Pl.cellsN (L.drop (k))) rfl (by rw [Pl.cellsN_len, List.length_drop]) (cells_at (nodes_drop (unhide AC).nodes (k))) (cells_one _) (by rw [List.length_append, List.length_singleton]; unfold maxLen; omega) (by rw [List.length_append, List.length_singleton]; omega) (by have := (unhide AC).three.lt; omega) ?_)
          intro v3 wD ownD growD _
          have OD := hide (ownN_app (A := TK ++ [⟨np, nk, nd, nt, nm⟩]) (M := L.drop (k)) (m := (L.length - (k))) (by first | exact ownD | (rw [List.length_append, List.length_singleton]; exact ownD) | (rw [Nat.add_zero, List.length_append, List.length_singleton]; exact ownD)) (by rw [List.length_drop]))
          have AD2 := hide ((unhide AC).grown growD (fun q hq => (unhide HLC q hq).1))
          clear ownD growD HLC AC OC d0
          rw [← unhide ER] at OD
          obtain ⟨a3, cap3, hv3⟩ := Mem.own_shape (unhide OD)
          subst hv3
          have z0 := (unhide AD2).three.cell 0
          have zf := (unhide AD2).three.fr 0
          simp only [List.getElem?_toArray, List.getElem?_cons_zero] at z0
          clear ER
          go_wp2
          refine bodyPost_ret (v := .agg #[.slice a3 R.length cap3]) (by simp [results, Tryz.results159, go_sem, z0]) rfl ⟨_, rfl, ?_, ?_⟩
          · exact Mem.ownN_mono (Mem.ownN_set (unhide OD) _ _ (by show w.heap.size + 1 + 1 < w.heap.size + 3; omega)) (by omega)
          · exact (unhide AD2).bel.setCell (by show w.heap.size ≤ w.heap.size + 1 + 1; omega) _
      · rw [hle] at hls
        have HK2 : Hid (∀ (j : Nat) x, j < k + 1 → L[j]? = some x → Pl.aheadP ⟨np, nk, nd, nt, nm⟩ x = true) := fun j x hj hx => by
          rcases Nat.lt_succ_iff_lt_or_eq.1 hj with h3 | h3
          · exact unhide HK j x h3 hx
          · subst h3; rw [unhide EM] at hx; cases hx; rw [unhide HAH]; exact hle
        generalize m.path = qp at hls HQ
        clear hm EM hle HK
        have MK : Hid (∀ W', At w W' g L ⟨np, nk, nd, nt, nm⟩ → (fun W' => At w W' g L ⟨np, nk, nd, nt, nm⟩ ∧ W'.cell? ⟨w.heap.size, 0, none⟩ = some (.slice (some ⟨g, 0, none⟩) L.length L.length) ∧ W'.cell? ⟨w.heap.size + 1, 0, none⟩ = some (.string np) ∧ W'.cell? ⟨g, k * 5, none⟩ = some (.string qp)) W') := fun W' h => ⟨h, h.one.cell 0, h.two.cell 0, unhide HQ W' h.bel h⟩
        go_wp2_with fail
        refine wp_region_held_drew (S := fun W' => At w W' g L ⟨np, nk, nd, nt, nm⟩ ∧ W'.cell? ⟨w.heap.size, 0, none⟩ = some (.slice (some ⟨g, 0, none⟩) L.length L.length) ∧ W'.cell? ⟨w.heap.size + 1, 0, none⟩ = some (.string np) ∧ W'.cell? ⟨g, k * 5, none⟩ = some (.string qp)) (by kernel_rfl) ?_ (fun hHeld => ?_)
        · exact unhide MK _ (unhide HA).drew
        refine wpAnyH_take (i := 0) (v := ?_) rfl (by kernel_rfl) (by kernel_rfl) (by kernel_rfl) (fun _ _ _ h => h) (Or.inl ⟨by rfl, ?_⟩) (by assumption) ?_
        rotate_left
        · (intro w hSw; (try dsimp only at hSw); go_simp; (try with_reducible rfl))
        try simp only [Act.put, List.getElem_toArray, List.getElem_cons_zero, List.getElem_cons_succ, List.setIfInBounds_toArray, List.set_cons_zero, List.set_cons_succ]
        refine wpAnyH_take (i := 1) (v := ?_) rfl (by kernel_rfl) (by kernel_rfl) (by kernel_rfl) (fun _ _ _ h => h) (Or.inl ⟨by rfl, ?_⟩) (by assumption) ?_
        rotate_left
        · (intro w hSw; (try dsimp only at hSw); go_simp; (try with_reducible rfl))
        try simp only [Act.put, List.getElem_toArray, List.getElem_cons_zero, List.getElem_cons_succ, List.setIfInBounds_toArray, List.set_cons_zero, List.set_cons_succ]
        refine wpAnyH_take (i := 2) (v := ?_) rfl (by kernel_rfl) (by kernel_rfl) (by kernel_rfl) (fun _ _ _ h => h) (Or.inl ⟨by rfl, ?_⟩) (by assumption) ?_
        rotate_left
        · (intro w hSw; (try dsimp only at hSw); go_simp; (try with_reducible rfl))
        try simp only [Act.put, List.getElem_toArray, List.getElem_cons_zero, List.getElem_cons_succ, List.setIfInBounds_toArray, List.set_cons_zero, List.set_cons_succ]
        refine wpAnyH_take (i := 3) (v := ?_) rfl (by kernel_rfl) (by kernel_rfl) (by kernel_rfl) (fun _ _ _ h => h) (Or.inl ⟨by rfl, ?_⟩) (by assumption) ?_
        rotate_left
        · (intro w hSw; (try dsimp only at hSw); go_simp; (try with_reducible rfl))
        try simp only [Act.put, List.getElem_toArray, List.getElem_cons_zero, List.getElem_cons_succ, List.setIfInBounds_toArray, List.set_cons_zero, List.set_cons_succ]
        refine wpAnyH_take (i := 4) (v := ?_) rfl (by kernel_rfl) (by kernel_rfl) (by kernel_rfl) (fun _ _ _ h => h) (Or.inl ⟨by rfl, ?_⟩) (by assumption) ?_
        rotate_left
        · (intro w hSw; (try dsimp only at hSw); go_simp; (try with_reducible rfl))
        try simp only [Act.put, List.getElem_toArray, List.getElem_cons_zero, List.getElem_cons_succ, List.setIfInBounds_toArray, List.set_cons_zero, List.set_cons_succ]
        refine wpAnyH_take (i := 5) (v := ?_) rfl (by kernel_rfl) (by kernel_rfl) (by kernel_rfl) (fun _ _ _ h => h) (Or.inl ⟨by rfl, ?_⟩) (by assumption) ?_
        rotate_left
        · (intro w hSw; (try dsimp only at hSw); go_simp; (try with_reducible rfl))
        try simp only [Act.put, List.getElem_toArray, List.getElem_cons_zero, List.getElem_cons_succ, List.setIfInBounds_toArray, List.set_cons_zero, List.set_cons_succ]
        refine wpAnyH_take (i := 6) (v := ?_) rfl (by kernel_rfl) (by kernel_rfl) (by kernel_rfl) (fun _ _ _ h => h) (Or.inl ⟨by rfl, ?_⟩) (by assumption) ?_
        rotate_left
        · (intro w hSw; (try dsimp only at hSw); go_simp; (try with_reducible rfl))
        try simp only [Act.put, List.getElem_toArray, List.getElem_cons_zero, List.getElem_cons_succ, List.setIfInBounds_toArray, List.set_cons_zero, List.set_cons_succ]
        refine wpAnyH_take (i := 7) (v := ?_) rfl (by kernel_rfl) (by kernel_rfl) (by kernel_rfl) (fun _ _ _ h => h) (Or.inl ⟨by rfl, ?_⟩) (by assumption) ?_
        rotate_left
        · (intro w hSw; (try dsimp only at hSw); go_simp; (try with_reducible rfl))
        try simp only [Act.put, List.getElem_toArray, List.getElem_cons_zero, List.getElem_cons_succ, List.setIfInBounds_toArray, List.set_cons_zero, List.set_cons_succ]
        refine wpAnyH_take (i := 8) (v := ?_) rfl (by kernel_rfl) (by kernel_rfl) (by kernel_rfl) (fun _ _ _ h => h) (Or.inl ⟨by rfl, ?_⟩) (by assumption) ?_
        rotate_left
        · (intro w hSw; (try dsimp only at hSw); go_simp; (try with_reducible rfl))
        try simp only [Act.put, List.getElem_toArray, List.getElem_cons_zero, List.getElem_cons_succ, List.setIfInBounds_toArray, List.set_cons_zero, List.set_cons_succ]
        refine wpAnyH_take (i := 9) (v := ?_) rfl (by kernel_rfl) (by kernel_rfl) (by kernel_rfl) (fun _ _ _ h => h) (Or.inl ⟨by rfl, ?_⟩) (by assumption) ?_
        rotate_left
        · (intro w hSw; (try dsimp only at hSw); go_simp; (try with_reducible rfl))
        try simp only [Act.put, List.getElem_toArray, List.getElem_cons_zero, List.getElem_cons_succ, List.setIfInBounds_toArray, List.set_cons_zero, List.set_cons_succ]
        refine wpAnyH_take (i := 10) (v := ?_) rfl (by kernel_rfl) (by kernel_rfl) (by kernel_rfl) (fun _ _ _ h => h) (Or.inl ⟨by rfl, ?_⟩) (by assumption) ?_
        rotate_left
        · (intro w hSw; (try dsimp only at hSw); go_simp; (try with_reducible rfl))
        try simp only [Act.put, List.getElem_toArray, List.getElem_cons_zero, List.getElem_cons_succ, List.setIfInBounds_toArray, List.set_cons_zero, List.set_cons_succ]
        refine wpAnyH_take (i := 11) (v := ?_) rfl (by kernel_rfl) (by kernel_rfl) (by kernel_rfl) (fun _ _ _ h => h) (Or.inl ⟨by rfl, ?_⟩) (by assumption) ?_
        rotate_left
        · (intro w hSw; (try dsimp only at hSw); go_simp; (try with_reducible rfl))
        try simp only [Act.put, List.getElem_toArray, List.getElem_cons_zero, List.getElem_cons_succ, List.setIfInBounds_toArray, List.set_cons_zero, List.set_cons_succ]
        refine wpAnyH_take (i := 12) (v := ?_) rfl (by kernel_rfl) (by kernel_rfl) (by kernel_rfl) (fun _ _ _ h => h) (Or.inl ⟨by rfl, ?_⟩) (by assumption) ?_
        rotate_left
        · (intro w hSw; (try dsimp only at hSw); go_simp; (try with_reducible rfl))
        try simp only [Act.put, List.getElem_toArray, List.getElem_cons_zero, List.getElem_cons_succ, List.setIfInBounds_toArray, List.set_cons_zero, List.set_cons_succ]
        refine wpAnyH_take (i := 13) (v := ?_) rfl (by kernel_rfl) (by kernel_rfl) (by kernel_rfl) (fun _ _ _ h => h) (Or.inl ⟨by rfl, ?_⟩) (by assumption) ?_
        rotate_left
        · (intro w hSw; (try dsimp only at hSw); go_simp; (try with_reducible rfl))
        try simp only [Act.put, List.getElem_toArray, List.getElem_cons_zero, List.getElem_cons_succ, List.setIfInBounds_toArray, List.set_cons_zero, List.set_cons_succ]
        refine wpAnyH_ready (rs := [14]) (by kernel_rfl) (by simp) ?_
        refine AllReadyH.cons rfl (fun K hK => ?_) AllReadyH.nil
        go_simp
        refine (unhide hls _).mono ?_
        rintro e wX ⟨rfl, bX⟩
        refine hK.out _ _ ?_ (fun hHeld => ?_)
        · exact unhide MK _ (hHeld.1.call bX)
        clear hK K
        try simp only [Act.put, List.getElem_toArray, List.getElem_cons_zero, List.getElem_cons_succ, List.setIfInBounds_toArray, List.set_cons_zero, List.set_cons_succ]
        refine wpAnyH_take (i := 15) (v := ?_) rfl (by kernel_rfl) (by kernel_rfl) (by kernel_rfl) (fun _ _ _ h => h) (Or.inl ⟨by rfl, ?_⟩) (by assumption) ?_
        rotate_left
        · (intro w hSw; (try dsimp only at hSw); go_simp; (try with_reducible rfl))
        try simp only [Act.put, List.getElem_toArray, List.getElem_cons_zero, List.getElem_cons_succ, List.setIfInBounds_toArray, List.set_cons_zero, List.set_cons_succ]
        refine wpAnyH_done (by kernel_rfl) ?_ _
        have AX := hide hHeld.1
        clear hHeld MK bX hls HA HQ
        go_wp2
        go_roundw
        case rel => exact ⟨k + 1, by omega, by go_num, AX, HK2⟩
        case measure => simp [intOf]; omega
    · have y1 : ¬ (k : Int) < (L.length : Int) := by omega
      have hkl : k = L.length := by omega
      have HF : Hid (∀ x, L[k]? = some x → Pl.aheadP ⟨np, nk, nd, nt, nm⟩ x = false) := fun x hx => absurd (List.getElem?_eq_some_iff.1 hx).1 (by omega)
      clear HLS
      by_cases hL0 : L.length = 0
      · obtain rfl : L = [] := List.length_eq_zero_iff.1 hL0
        obtain rfl : k = 0 := by simpa using hkl
        clear hL0 hkl
        have MK : Hid (∀ W', At w W' g ([] : List Pl.Nd) ⟨np, nk, nd, nt, nm⟩ → (fun W' => At w W' g ([] : List Pl.Nd) ⟨np, nk, nd, nt, nm⟩ ∧ W'.cell? ⟨w.heap.size, 0, none⟩ = some (.slice (some ⟨g, 0, none⟩) ([] : List Pl.Nd).length ([] : List Pl.Nd).length) ∧ W'.cell? ⟨w.heap.size + 1, 0, none⟩ = some (.string np)) W') := fun W' h => ⟨h, h.one.cell 0, h.two.cell 0⟩
        go_wp2_with fail
        refine wp_region_held_drew (S := fun W' => At w W' g ([] : List Pl.Nd) ⟨np, nk, nd, nt, nm⟩ ∧ W'.cell? ⟨w.heap.size, 0, none⟩ = some (.slice (some ⟨g, 0, none⟩) ([] : List Pl.Nd).length ([] : List Pl.Nd).length) ∧ W'.cell? ⟨w.heap.size + 1, 0, none⟩ = some (.string np)) (by kernel_rfl) ?_ (fun hHeld => ?_)
        · exact unhide MK _ (unhide HA).drew
        refine wpAnyH_take (i := 0) (v := ?_) rfl (by kernel_rfl) (by kernel_rfl) (by kernel_rfl) (fun _ _ _ h => h) (Or.inl ⟨by rfl, ?_⟩) (by assumption) ?_
        rotate_left
        · (intro w hSw; (try dsimp only at hSw); go_simp; (try with_reducible rfl))
        try simp only [Act.put, List.getElem_toArray, List.getElem_cons_zero, List.getElem_cons_succ, List.setIfInBounds_toArray, List.set_cons_zero, List.set_cons_succ]
        refine wpAnyH_take (i := 1) (v := ?_) rfl (by kernel_rfl) (by kernel_rfl) (by kernel_rfl) (fun _ _ _ h => h) (Or.inl ⟨by rfl, ?_⟩) (by assumption) ?_
        rotate_left
        · (intro w hSw; (try dsimp only at hSw); go_simp; (try with_reducible rfl))
        try simp only [Act.put, List.getElem_toArray, List.getElem_cons_zero, List.getElem_cons_succ, List.setIfInBounds_toArray, List.set_cons_zero, List.set_cons_succ]
        refine wpAnyH_take (i := 2) (v := ?_) rfl (by kernel_rfl) (by kernel_rfl) (by kernel_rfl) (fun _ _ _ h => h) (Or.inl ⟨by rfl, ?_⟩) (by assumption) ?_
        rotate_left
        · (intro w hSw; (try dsimp only at hSw); go_simp; (try with_reducible rfl))
        try simp only [Act.put, List.getElem_toArray, List.getElem_cons_zero, List.getElem_cons_succ, List.setIfInBounds_toArray, List.set_cons_zero, List.set_cons_succ]
        refine wpAnyH_take (i := 3) (v := ?_) rfl (by kernel_rfl) (by kernel_rfl) (by kernel_rfl) (fun _ _ _ h => h) (Or.inl ⟨by rfl, ?_⟩) (by assumption) ?_
        rotate_left
        · (intro w hSw; (try dsimp only at hSw); go_simp; (try with_reducible rfl))
        try simp only [Act.put, List.getElem_toArray, List.getElem_cons_zero, List.getElem_cons_succ, List.setIfInBounds_toArray, List.set_cons_zero, List.set_cons_succ]
        refine wpAnyH_take (i := 4) (v := ?_) rfl (by kernel_rfl) (by kernel_rfl) (by kernel_rfl) (fun _ _ _ h => h) (Or.inl ⟨by rfl, ?_⟩) (by assumption) ?_
        rotate_left
        · (intro w hSw; (try dsimp only at hSw); go_simp; (try with_reducible rfl))
        try simp only [Act.put, List.getElem_toArray, List.getElem_cons_zero, List.getElem_cons_succ, List.setIfInBounds_toArray, List.set_cons_zero, List.set_cons_succ]
        refine wpAnyH_take (i := 5) (v := ?_) rfl (by kernel_rfl) (by kernel_rfl) (by kernel_rfl) (fun _ _ _ h => h) (Or.inl ⟨by rfl, ?_⟩) (by assumption) ?_
        rotate_left
        · (intro w hSw; (try dsimp only at hSw); go_simp; (try with_reducible rfl))
        try simp only [Act.put, List.getElem_toArray, List.getElem_cons_zero, List.getElem_cons_succ, List.setIfInBounds_toArray, List.set_cons_zero, List.set_cons_succ]
        refine wpAnyH_take (i := 6) (v := undef) rfl (by kernel_rfl) (by kernel_rfl) (by kernel_rfl) (fun _ _ _ h => h) (Or.inr ⟨by rfl, rfl⟩) (by assumption) ?_
        try simp only [Act.put, List.getElem_toArray, List.getElem_cons_zero, List.getElem_cons_succ, List.setIfInBounds_toArray, List.set_cons_zero, List.set_cons_succ]
        refine wpAnyH_take (i := 7) (v := undef) rfl (by kernel_rfl) (by kernel_rfl) (by kernel_rfl) (fun _ _ _ h => h) (Or.inr ⟨by rfl, rfl⟩) (by assumption) ?_
        try simp only [Act.put, List.getElem_toArray, List.getElem_cons_zero, List.getElem_cons_succ, List.setIfInBounds_toArray, List.set_cons_zero, List.set_cons_succ]
        refine wpAnyH_take (i := 8) (v := undef) rfl (by kernel_rfl) (by kernel_rfl) (by kernel_rfl) (fun _ _ _ h => h) (Or.inr ⟨by rfl, rfl⟩) (by assumption) ?_
        try simp only [Act.put, List.getElem_toArray, List.getElem_cons_zero, List.getElem_cons_succ, List.setIfInBounds_toArray, List.set_cons_zero, List.set_cons_succ]
        refine wpAnyH_take (i := 9) (v := undef) rfl (by kernel_rfl) (by kernel_rfl) (by kernel_rfl) (fun _ _ _ h => h) (Or.inr ⟨by rfl, rfl⟩) (by assumption) ?_
        try simp only [Act.put, List.getElem_toArray, List.getElem_cons_zero, List.getElem_cons_succ, List.setIfInBounds_toArray, List.set_cons_zero, List.set_cons_succ]
        refine wpAnyH_take (i := 10) (v := undef) rfl (by kernel_rfl) (by kernel_rfl) (by kernel_rfl) (fun _ _ _ h => h) (Or.inr ⟨by rfl, rfl⟩) (by assumption) ?_
        try simp only [Act.put, List.getElem_toArray, List.getElem_cons_zero, List.getElem_cons_succ, List.setIfInBounds_toArray, List.set_cons_zero, List.set_cons_succ]
        refine wpAnyH_take (i := 11) (v := undef) rfl (by kernel_rfl) (by kernel_rfl) (by kernel_rfl) (fun _ _ _ h => h) (Or.inr ⟨by rfl, rfl⟩) (by assumption) ?_
        try simp only [Act.put, List.getElem_toArray, List.getElem_cons_zero, List.getElem_cons_succ, List.setIfInBounds_toArray, List.set_cons_zero, List.set_cons_succ]
        refine wpAnyH_take (i := 12) (v := undef) rfl (by kernel_rfl) (by kernel_rfl) (by kernel_rfl) (fun _ _ _ h => h) (Or.inr ⟨by rfl, rfl⟩) (by assumption) ?_
        try simp only [Act.put, List.getElem_toArray, List.getElem_cons_zero, List.getElem_cons_succ, List.setIfInBounds_toArray, List.set_cons_zero, List.set_cons_succ]
        refine wpAnyH_take (i := 13) (v := undef) rfl (by kernel_rfl) (by kernel_rfl) (by kernel_rfl) (fun _ _ _ h => h) (Or.inr ⟨by rfl, rfl⟩) (by assumption) ?_
        try simp only [Act.put, List.getElem_toArray, List.getElem_cons_zero, List.getElem_cons_succ, List.setIfInBounds_toArray, List.set_cons_zero, List.set_cons_succ]
        refine wpAnyH_take (i := 14) (v := undef) rfl (by kernel_rfl) (by kernel_rfl) (by kernel_rfl) (fun _ _ _ h => h) (Or.inr ⟨by rfl, rfl⟩) (by assumption) ?_
        try simp only [Act.put, List.getElem_toArray, List.getElem_cons_zero, List.getElem_cons_succ, List.setIfInBounds_toArray, List.set_cons_zero, List.set_cons_succ]
        refine wpAnyH_take (i := 15) (v := ?_) rfl (by kernel_rfl) (by kernel_rfl) (by kernel_rfl) (fun _ _ _ h => h) (Or.inl ⟨by rfl, ?_⟩) (by assumption) ?_
        rotate_left
        · (intro w hSw; (try dsimp only at hSw); go_simp; (try with_reducible rfl))
        try simp only [Act.put, List.getElem_toArray, List.getElem_cons_zero, List.getElem_cons_succ, List.setIfInBounds_toArray, List.set_cons_zero, List.set_cons_succ]
        refine wpAnyH_done (by kernel_rfl) ?_ _
        generalize wr.drew = WE at hHeld ⊢
        have AX := hide hHeld.1
        clear hHeld MK HA
        have hsW := (unhide AX).three.lt
        have OA0 : Hid (Mem.ownN (WE.alloc (.cells #[] 34)) (w.heap.size + 3) (.slice (some ⟨WE.heap.size, 0, none⟩) 0 0) []) := ⟨rfl, .inr ⟨WE.heap.size, 0, #[], rfl, by omega, heap_alloc_new _ _, Nat.le_refl _, Nat.zero_le _, rfl, rfl⟩⟩
        have AA := hide ((unhide AX).alloc (.cells #[] 34))
        clear AX
        have d0 := (unhide AA).one.cell 0
        simp only [List.getElem?_toArray, List.getElem?_cons_zero] at d0
        have s0 : (0 : Int) ≤ ((0 : Nat) : Int) := by omega
        have s1 : ((0 : Nat) : Int) ≤ (([] : List Pl.Nd).length : Int) := by omega
        have hlk : (([] : List Pl.Nd).take 0).length = 0 := by rw [List.length_take]; omega
        have HLK := hide hlk
        clear hlk
        go_wp2_with (at_builtin; refine wpList_append_own _ rfl _ _ 27 rfl (w.heap.size + 3) 34 i0 _ 5 56 Tryz.underlying27 hi hz0 hz1 hz2 rfl (by decide) _ _ _ rfl (unhide OA0) ⟨g, 0, none⟩ 0 ([] : List Pl.Nd).length (Pl.cellsN (([] : List Pl.Nd).take 0)) rfl (by rw [Pl.cellsN_len, unhide HLK]) (cells_at (nodes_take (unhide AA).nodes 0)) (cells_one _) (by rw [List.length_nil, Nat.zero_add]; unfold maxLen; omega) (by rw [List.length_nil, Nat.zero_add]; omega) (by have := (unhide AA).three.lt; omega) ?_)
        intro v1 wA ownA growA _
        have OA := hide (ownN_app (A := []) (M := ([] : List Pl.Nd).take 0) (m := 0) (by rw [List.length_nil, Nat.zero_add]; exact ownA) (unhide HLK).symm)
        rw [List.nil_append] at OA
        obtain ⟨TK, hTK⟩ : ∃ TK, ([] : List Pl.Nd).take 0 = TK := ⟨_, rfl⟩
        rw [hTK] at OA
        have HTK := hide hTK
        clear hTK
        have A1 := hide ((unhide AA).grown growA (fun q hq => by have h9 : WE.heap.size = q := Option.some.inj hq; omega))
        clear ownA growA OA0 AA d0 hsW
        have e0 := (unhide A1).two.cell 0
        have e1 := (unhide A1).two.cell 1
        have e2 := (unhide A1).two.cell 2
        have e3 := (unhide A1).two.cell 3
        have e4 := (unhide A1).two.cell 4
        simp only [Pl.Nd.cs, List.getElem?_toArray, List.getElem?_cons_zero, List.getElem?_cons_succ] at e0 e1 e2 e3 e4
        have HLA := hide (Mem.ownN_lt (unhide OA))
        have hlen1 : TK.length ≤ 1000 := by rw [← unhide HTK, List.length_take]; omega
        go_wp2_with (at_builtin; refine wpList_append_own _ rfl _ _ 27 rfl (w.heap.size + 3) 34 i0 _ 5 56 Tryz.underlying27 hi hz0 hz1 hz2 rfl (by decide) _ _ _ rfl (Mem.ownN_alloc (unhide OA) _) ⟨wA.heap.size, 0, none⟩ 1 1 [.string np, .int .i64 nk, .string nd, .int .i64 nt, .int .i64 nm] rfl rfl (Mem.cs_new wA ⟨np, nk, nd, nt, nm⟩ _) (Mem.cs_one ⟨np, nk, nd, nt, nm⟩) (by unfold maxLen; omega) (by omega) (by have := (unhide A1).three.lt; simp; omega) ?_)
        intro v2 wB ownB growB _
        have OB := hide (Mem.ownN_snoc (L := TK) (n := ⟨np, nk, nd, nt, nm⟩) ownB)
        have AB := hide (((unhide A1).alloc (.cells #[.string np, .int .i64 nk, .string nd, .int .i64 nt, .int .i64 nm] 34)).grown growB (fun q hq => (unhide HLA q hq).1))
        clear ownB growB OA A1 e0 e1 e2 e3 e4 HLA hlen1 HLK
        have ER := hide (show R = (TK ++ [⟨np, nk, nd, nt, nm⟩]) ++ [] by
          rw [← unhide HTK, unhide HPUT 0 (by omega) (unhide HK) (unhide HF), unhide HRD 0, if_neg (fun ⟨m, hm, _⟩ => by have := (List.getElem?_eq_some_iff.1 hm).1; omega), List.drop_eq_nil_of_le (by omega)]; simp)
        clear HPUT HRD HK HF HAH
        have MK : Hid (∀ W', At w W' g ([] : List Pl.Nd) ⟨np, nk, nd, nt, nm⟩ → (fun W' => At w W' g ([] : List Pl.Nd) ⟨np, nk, nd, nt, nm⟩ ∧ W'.cell? ⟨w.heap.size, 0, none⟩ = some (.slice (some ⟨g, 0, none⟩) ([] : List Pl.Nd).length ([] : List Pl.Nd).length) ∧ W'.cell? ⟨w.heap.size + 1, 0, none⟩ = some (.string np)) W') := fun W' h => ⟨h, h.one.cell 0, h.two.cell 0⟩
        go_wp2_with fail
        refine wp_region_held_drew (S := fun W' => At w W' g ([] : List Pl.Nd) ⟨np, nk, nd, nt, nm⟩ ∧ W'.cell? ⟨w.heap.size, 0, none⟩ = some (.slice (some ⟨g, 0, none⟩) ([] : List Pl.Nd).length ([] : List Pl.Nd).length) ∧ W'.cell? ⟨w.heap.size + 1, 0, none⟩ = some (.string np)) (by kernel_rfl) ?_ (fun hHeld => ?_)
        · exact unhide MK _ (unhide AB).drew
        refine wpAnyH_take (i := 0) (v := ?_) rfl (by kernel_rfl) (by kernel_rfl) (by kernel_rfl) (fun _ _ _ h => h) (Or.inl ⟨by rfl, ?_⟩) (by assumption) ?_
        rotate_left
        · (intro w hSw; (try dsimp only at hSw); go_simp; (try with_reducible rfl))
        try simp only [Act.put, List.getElem_toArray, List.getElem_cons_zero, List.getElem_cons_succ, List.setIfInBounds_toArray, List.set_cons_zero, List.set_cons_succ]
        refine wpAnyH_take (i := 1) (v := ?_) rfl (by kernel_rfl) (by kernel_rfl) (by kernel_rfl) (fun _ _ _ h => h) (Or.inl ⟨by rfl, ?_⟩) (by assumption) ?_
        rotate_left
        · (intro w hSw; (try dsimp only at hSw); go_simp; (try with_reducible rfl))
        try simp only [Act.put, List.getElem_toArray, List.getElem_cons_zero, List.getElem_cons_succ, List.setIfInBounds_toArray, List.set_cons_zero, List.set_cons_succ]
        refine wpAnyH_take (i := 2) (v := ?_) rfl (by kernel_rfl) (by kernel_rfl) (by kernel_rfl) (fun _ _ _ h => h) (Or.inl ⟨by rfl, ?_⟩) (by assumption) ?_
        rotate_left
        · (intro w hSw; (try dsimp only at hSw); go_simp; (try with_reducible rfl))
        try simp only [Act.put, List.getElem_toArray, List.getElem_cons_zero, List.getElem_cons_succ, List.setIfInBounds_toArray, List.set_cons_zero, List.set_cons_succ]
        refine wpAnyH_take (i := 3) (v := ?_) rfl (by kernel_rfl) (by kernel_rfl) (by kernel_rfl) (fun _ _ _ h => h) (Or.inl ⟨by rfl, ?_⟩) (by assumption) ?_
        rotate_left
        · (intro w hSw; (try dsimp only at hSw); go_simp; (try with_reducible rfl))
        try simp only [Act.put, List.getElem_toArray, List.getElem_cons_zero, List.getElem_cons_succ, List.setIfInBounds_toArray, List.set_cons_zero, List.set_cons_succ]
        refine wpAnyH_take (i := 4) (v := ?_) rfl (by kernel_rfl) (by kernel_rfl) (by kernel_rfl) (fun _ _ _ h => h) (Or.inl ⟨by rfl, ?_⟩) (by assumption) ?_
        rotate_left
        · (intro w hSw; (try dsimp only at hSw); go_simp; (try with_reducible rfl))
        try simp only [Act.put, List.getElem_toArray, List.getElem_cons_zero, List.getElem_cons_succ, List.setIfInBounds_toArray, List.set_cons_zero, List.set_cons_succ]
        refine wpAnyH_take (i := 5) (v := ?_) rfl (by kernel_rfl) (by kernel_rfl) (by kernel_rfl) (fun _ _ _ h => h) (Or.inl ⟨by rfl, ?_⟩) (by assumption) ?_
        rotate_left
        · (intro w hSw; (try dsimp only at hSw); go_simp; (try with_reducible rfl))
        try simp only [Act.put, List.getElem_toArray, List.getElem_cons_zero, List.getElem_cons_succ, List.setIfInBounds_toArray, List.set_cons_zero, List.set_cons_succ]
        refine wpAnyH_take (i := 6) (v := undef) rfl (by kernel_rfl) (by kernel_rfl) (by kernel_rfl) (fun _ _ _ h => h) (Or.inr ⟨by rfl, rfl⟩) (by assumption) ?_
        try simp only [Act.put, List.getElem_toArray, List.getElem_cons_zero, List.getElem_cons_succ, List.setIfInBounds_toArray, List.set_cons_zero, List.set_cons_succ]
        refine wpAnyH_take (i := 7) (v := undef) rfl (by kernel_rfl) (by kernel_rfl) (by kernel_rfl) (fun _ _ _ h => h) (Or.inr ⟨by rfl, rfl⟩) (by assumption) ?_
        try simp only [Act.put, List.getElem_toArray, List.getElem_cons_zero, List.getElem_cons_succ, List.setIfInBounds_toArray, List.set_cons_zero, List.set_cons_succ]
        refine wpAnyH_take (i := 8) (v := undef) rfl (by kernel_rfl) (by kernel_rfl) (by kernel_rfl) (fun _ _ _ h => h) (Or.inr ⟨by rfl, rfl⟩) (by assumption) ?_
        try simp only [Act.put, List.getElem_toArray, List.getElem_cons_zero, List.getElem_cons_succ, List.setIfInBounds_toArray, List.set_cons_zero, List.set_cons_succ]
        refine wpAnyH_take (i := 9) (v := undef) rfl (by kernel_rfl) (by kernel_rfl) (by kernel_rfl) (fun _ _ _ h => h) (Or.inr ⟨by rfl, rfl⟩) (by assumption) ?_
        try simp only [Act.put, List.getElem_toArray, List.getElem_cons_zero, List.getElem_cons_succ, List.setIfInBounds_toArray, List.set_cons_zero, List.set_cons_succ]
        refine wpAnyH_take (i := 10) (v := undef) rfl (by kernel_rfl) (by kernel_rfl) (by kernel_rfl) (fun _ _ _ h => h) (Or.inr ⟨by rfl, rfl⟩) (by assumption) ?_
        try simp only [Act.put, List.getElem_toArray, List.getElem_cons_zero, List.getElem_cons_succ, List.setIfInBounds_toArray, List.set_cons_zero, List.set_cons_succ]
        refine wpAnyH_take (i := 11) (v := undef) rfl (by kernel_rfl) (by kernel_rfl) (by kernel_rfl) (fun _ _ _ h => h) (Or.inr ⟨by rfl, rfl⟩) (by assumption) ?_
        try simp only [Act.put, List.getElem_toArray, List.getElem_cons_zero, List.getElem_cons_succ, List.setIfInBounds_toArray, List.set_cons_zero, List.set_cons_succ]
        refine wpAnyH_take (i := 12) (v := undef) rfl (by kernel_rfl) (by kernel_rfl) (by kernel_rfl) (fun _ _ _ h => h) (Or.inr ⟨by rfl, rfl⟩) (by assumption) ?_
        try simp only [Act.put, List.getElem_toArray, List.getElem_cons_zero, List.getElem_cons_succ, List.setIfInBounds_toArray, List.set_cons_zero, List.set_cons_succ]
        refine wpAnyH_take (i := 13) (v := undef) rfl (by kernel_rfl) (by kernel_rfl) (by kernel_rfl) (fun _ _ _ h => h) (Or.inr ⟨by rfl, rfl⟩) (by assumption) ?_
        try simp only [Act.put, List.getElem_toArray, List.getElem_cons_zero, List.getElem_cons_succ, List.setIfInBounds_toArray, List.set_cons_zero, List.set_cons_succ]
        refine wpAnyH_take (i := 14) (v := undef) rfl (by kernel_rfl) (by kernel_rfl) (by kernel_rfl) (fun _ _ _ h => h) (Or.inr ⟨by rfl, rfl⟩) (by assumption) ?_
        try simp only [Act.put, List.getElem_toArray, List.getElem_cons_zero, List.getElem_cons_succ, List.setIfInBounds_toArray, List.set_cons_zero, List.set_cons_succ]
        refine wpAnyH_take (i := 15) (v := ?_) rfl (by kernel_rfl) (by kernel_rfl) (by kernel_rfl) (fun _ _ _ h => h) (Or.inl ⟨by rfl, ?_⟩) (by assumption) ?_
        rotate_left
        · (intro w hSw; (try dsimp only at hSw); go_simp; (try with_reducible rfl))
        try simp only [Act.put, List.getElem_toArray, List.getElem_cons_zero, List.getElem_cons_succ, List.setIfInBounds_toArray, List.set_cons_zero, List.set_cons_succ]
        refine wpAnyH_done (by kernel_rfl) ?_ _
        have OC : Hid (Mem.ownN wB.drew (w.heap.size + 3) v2 (TK ++ [⟨np, nk, nd, nt, nm⟩])) := unhide OB
        generalize wB.drew = WC at hHeld OC ⊢
        have AC := hide hHeld.1
        clear hHeld MK AB OB
        have s4 : ([] : List Pl.Nd).length = 0 := by omega
        have d0 := (unhide AC).one.cell 0
        simp only [List.getElem?_toArray, List.getElem?_cons_zero] at d0
        have HLC := hide (Mem.ownN_lt (unhide OC))
        have hlT : TK.length ≤ 1000 := by rw [← unhide HTK, List.length_take]; omega
        go_wp2_with (at_builtin; refine wpList_append_own _ rfl _ _ 27 rfl (w.heap.size + 3) 34 i0 _ 5 56 Tryz.underlying27 hi hz0 hz1 hz2 rfl (by decide) _ _ _ rfl (unhide OC) ⟨g, 0, none⟩ 0 0 (Pl.cellsN ([])) rfl (by simp [Pl.cellsN]) (fun j u h => by simp [Pl.cellsN] at h) (cells_one _) (by rw [List.length_append, List.length_singleton]; unfold maxLen; omega) (by rw [List.length_append, List.length_singleton]; omega) (by have := (unhide AC).three.lt; omega) ?_)
        intro v3 wD ownD growD _
        have OD := hide (ownN_app (A := TK ++ [⟨np, nk, nd, nt, nm⟩]) (M := []) (m := 0) (by first | exact ownD | (rw [List.length_append, List.length_singleton]; exact ownD) | (rw [Nat.add_zero, List.length_append, List.length_singleton]; exact ownD)) (by simp))
        have AD2 := hide ((unhide AC).grown growD (fun q hq => (unhide HLC q hq).1))
        clear ownD growD HLC AC OC d0
        rw [← unhide ER] at OD
        obtain ⟨a3, cap3, hv3⟩ := Mem.own_shape (unhide OD)
        subst hv3
        have z0 := (unhide AD2).three.cell 0
        have zf := (unhide AD2).three.fr 0
        simp only [List.getElem?_toArray, List.getElem?_cons_zero] at z0
        clear ER
        go_wp2
        refine bodyPost_ret (v := .agg #[.slice a3 R.length cap3]) (by simp [results, Tryz.results159, go_sem, z0]) rfl ⟨_, rfl, ?_, ?_⟩
        · exact Mem.ownN_mono (Mem.ownN_set (unhide OD) _ _ (by show w.heap.size + 1 + 1 < w.heap.size + 3; omega)) (by omega)
        · exact (unhide AD2).bel.setCell (by show w.heap.size ≤ w.heap.size + 1 + 1; omega) _
      · clear hkl
        have MK : Hid (∀ W', At w W' g L ⟨np, nk, nd, nt, nm⟩ → (fun W' => At w W' g L ⟨np, nk, nd, nt, nm⟩ ∧ W'.cell? ⟨w.heap.size, 0, none⟩ = some (.slice (some ⟨g, 0, none⟩) L.length L.length) ∧ W'.cell? ⟨w.heap.size + 1, 0, none⟩ = some (.string np)) W') := fun W' h => ⟨h, h.one.cell 0, h.two.cell 0⟩
        go_wp2_with fail
        refine wp_region_held_drew (S := fun W' => At w W' g L ⟨np, nk, nd, nt, nm⟩ ∧ W'.cell? ⟨w.heap.size, 0, none⟩ = some (.slice (some ⟨g, 0, none⟩) L.length L.length) ∧ W'.cell? ⟨w.heap.size + 1, 0, none⟩ = some (.string np)) (by kernel_rfl) ?_ (fun hHeld => ?_)
        · exact unhide MK _ (unhide HA).drew
        refine wpAnyH_take (i := 0) (v := ?_) rfl (by kernel_rfl) (by kernel_rfl) (by kernel_rfl) (fun _ _ _ h => h) (Or.inl ⟨by rfl, ?_⟩) (by assumption) ?_
        rotate_left
        · (intro w hSw; (try dsimp only at hSw); go_simp; (try with_reducible rfl))
        try simp only [Act.put, List.getElem_toArray, List.getElem_cons_zero, List.getElem_cons_succ, List.setIfInBounds_toArray, List.set_cons_zero, List.set_cons_succ]
        refine wpAnyH_take (i := 1) (v := ?_) rfl (by kernel_rfl) (by kernel_rfl) (by kernel_rfl) (fun _ _ _ h => h) (Or.inl ⟨by rfl, ?_⟩) (by assumption) ?_
        rotate_left
        · (intro w hSw; (try dsimp only at hSw); go_simp; (try with_reducible rfl))
        try simp only [Act.put, List.getElem_toArray, List.getElem_cons_zero, List.getElem_cons_succ, List.setIfInBounds_toArray, List.set_cons_zero, List.set_cons_succ]
        refine wpAnyH_take (i := 2) (v := ?_) rfl (by kernel_rfl) (by kernel_rfl) (by kernel_rfl) (fun _ _ _ h => h) (Or.inl ⟨by rfl, ?_⟩) (by assumption) ?_
        rotate_left
        · (intro w hSw; (try dsimp only at hSw); go_simp; (try with_reducible rfl))
        try simp only [Act.put, List.getElem_toArray, List.getElem_cons_zero, List.getElem_cons_succ, List.setIfInBounds_toArray, List.set_cons_zero, List.set_cons_succ]
        refine wpAnyH_take (i := 3) (v := ?_) rfl (by kernel_rfl) (by kernel_rfl) (by kernel_rfl) (fun _ _ _ h => h) (Or.inl ⟨by rfl, ?_⟩) (by assumption) ?_
        rotate_left
        · (intro w hSw; (try dsimp only at hSw); go_simp; (try with_reducible rfl))
        try simp only [Act.put, List.getElem_toArray, List.getElem_cons_zero, List.getElem_cons_succ, List.setIfInBounds_toArray, List.set_cons_zero, List.set_cons_succ]
        refine wpAnyH_take (i := 4) (v := ?_) rfl (by kernel_rfl) (by kernel_rfl) (by kernel_rfl) (fun _ _ _ h => h) (Or.inl ⟨by rfl, ?_⟩) (by assumption) ?_
        rotate_left
        · (intro w hSw; (try dsimp only at hSw); go_simp; (try with_reducible rfl))
        try simp only [Act.put, List.getElem_toArray, List.getElem_cons_zero, List.getElem_cons_succ, List.setIfInBounds_toArray, List.set_cons_zero, List.set_cons_succ]
        refine wpAnyH_take (i := 5) (v := ?_) rfl (by kernel_rfl) (by kernel_rfl) (by kernel_rfl) (fun _ _ _ h => h) (Or.inl ⟨by rfl, ?_⟩) (by assumption) ?_
        rotate_left
        · (intro w hSw; (try dsimp only at hSw); go_simp; (try with_reducible rfl))
        try simp only [Act.put, List.getElem_toArray, List.getElem_cons_zero, List.getElem_cons_succ, List.setIfInBounds_toArray, List.set_cons_zero, List.set_cons_succ]
        refine wpAnyH_take (i := 6) (v := undef) rfl (by kernel_rfl) (by kernel_rfl) (by kernel_rfl) (fun _ _ _ h => h) (Or.inr ⟨by rfl, rfl⟩) (by assumption) ?_
        try simp only [Act.put, List.getElem_toArray, List.getElem_cons_zero, List.getElem_cons_succ, List.setIfInBounds_toArray, List.set_cons_zero, List.set_cons_succ]
        refine wpAnyH_take (i := 7) (v := undef) rfl (by kernel_rfl) (by kernel_rfl) (by kernel_rfl) (fun _ _ _ h => h) (Or.inr ⟨by rfl, rfl⟩) (by assumption) ?_
        try simp only [Act.put, List.getElem_toArray, List.getElem_cons_zero, List.getElem_cons_succ, List.setIfInBounds_toArray, List.set_cons_zero, List.set_cons_succ]
        refine wpAnyH_take (i := 8) (v := undef) rfl (by kernel_rfl) (by kernel_rfl) (by kernel_rfl) (fun _ _ _ h => h) (Or.inr ⟨by rfl, rfl⟩) (by assumption) ?_
        try simp only [Act.put, List.getElem_toArray, List.getElem_cons_zero, List.getElem_cons_succ, List.setIfInBounds_toArray, List.set_cons_zero, List.set_cons_succ]
        refine wpAnyH_take (i := 9) (v := undef) rfl (by kernel_rfl) (by kernel_rfl) (by kernel_rfl) (fun _ _ _ h => h) (Or.inr ⟨by rfl, rfl⟩) (by assumption) ?_
        try simp only [Act.put, List.getElem_toArray, List.getElem_cons_zero, List.getElem_cons_succ, List.setIfInBounds_toArray, List.set_cons_zero, List.set_cons_succ]
        refine wpAnyH_take (i := 10) (v := undef) rfl (by kernel_rfl) (by kernel_rfl) (by kernel_rfl) (fun _ _ _ h => h) (Or.inr ⟨by rfl, rfl⟩) (by assumption) ?_
        try simp only [Act.put, List.getElem_toArray, List.getElem_cons_zero, List.getElem_cons_succ, List.setIfInBounds_toArray, List.set_cons_zero, List.set_cons_succ]
        refine wpAnyH_take (i := 11) (v := undef) rfl (by kernel_rfl) (by kernel_rfl) (by kernel_rfl) (fun _ _ _ h => h) (Or.inr ⟨by rfl, rfl⟩) (by assumption) ?_
        try simp only [Act.put, List.getElem_toArray, List.getElem_cons_zero, List.getElem_cons_succ, List.setIfInBounds_toArray, List.set_cons_zero, List.set_cons_succ]
        refine wpAnyH_take (i := 12) (v := undef) rfl (by kernel_rfl) (by kernel_rfl) (by kernel_rfl) (fun _ _ _ h => h) (Or.inr ⟨by rfl, rfl⟩) (by assumption) ?_
        try simp only [Act.put, List.getElem_toArray, List.getElem_cons_zero, List.getElem_cons_succ, List.setIfInBounds_toArray, List.set_cons_zero, List.set_cons_succ]
        refine wpAnyH_take (i := 13) (v := undef) rfl (by kernel_rfl) (by kernel_rfl) (by kernel_rfl) (fun _ _ _ h => h) (Or.inr ⟨by rfl, rfl⟩) (by assumption) ?_
        try simp only [Act.put, List.getElem_toArray, List.getElem_cons_zero, List.getElem_cons_succ, List.setIfInBounds_toArray, List.set_cons_zero, List.set_cons_succ]
        refine wpAnyH_take (i := 14) (v := undef) rfl (by kernel_rfl) (by kernel_rfl) (by kernel_rfl) (fun _ _ _ h => h) (Or.inr ⟨by rfl, rfl⟩) (by assumption) ?_
        try simp only [Act.put, List.getElem_toArray, List.getElem_cons_zero, List.getElem_cons_succ, List.setIfInBounds_toArray, List.set_cons_zero, List.set_cons_succ]
        refine wpAnyH_take (i := 15) (v := ?_) rfl (by kernel_rfl) (by kernel_rfl) (by kernel_rfl) (fun _ _ _ h => h) (Or.inl ⟨by rfl, ?_⟩) (by assumption) ?_
        rotate_left
        · (intro w hSw; (try dsimp only at hSw); go_simp; (try with_reducible rfl))
        try simp only [Act.put, List.getElem_toArray, List.getElem_cons_zero, List.getElem_cons_succ, List.setIfInBounds_toArray, List.set_cons_zero, List.set_cons_succ]
        refine wpAnyH_done (by kernel_rfl) ?_ _
        generalize wr.drew = WE at hHeld ⊢
        have AX := hide hHeld.1
        clear hHeld MK HA
        have hsW := (unhide AX).three.lt
        have OA0 : Hid (Mem.ownN (WE.alloc (.cells #[] 34)) (w.heap.size + 3) (.slice (some ⟨WE.heap.size, 0, none⟩) 0 0) []) := ⟨rfl, .inr ⟨WE.heap.size, 0, #[], rfl, by omega, heap_alloc_new _ _, Nat.le_refl _, Nat.zero_le _, rfl, rfl⟩⟩
        have AA := hide ((unhide AX).alloc (.cells #[] 34))
        clear AX
        have d0 := (unhide AA).one.cell 0
        simp only [List.getElem?_toArray, List.getElem?_cons_zero] at d0
        have s0 : (0 : Int) ≤ (k : Int) := by omega
        have s1 : (k : Int) ≤ (L.length : Int) := by omega
        have hlk : (L.take k).length = k := by rw [List.length_take]; omega
        have HLK := hide hlk
        clear hlk
        go_wp2_with (at_builtin; refine wpList_append_own _ rfl _ _ 27 rfl (w.heap.size + 3) 34 i0 _ 5 56 Tryz.underlying27 hi hz0 hz1 hz2 rfl (by decide) _ _ _ rfl (unhide OA0) ⟨g, 0, none⟩ k L.length (Pl.cellsN (L.take k)) rfl (by rw [Pl.cellsN_len, unhide HLK]) (cells_at (nodes_take (unhide AA).nodes k)) (cells_one _) (by rw [List.length_nil, Nat.zero_add]; unfold maxLen; omega) (by rw [List.length_nil, Nat.zero_add]; omega) (by have := (unhide AA).three.lt; omega) ?_)
        intro v1 wA ownA growA _
        have OA := hide (ownN_app (A := []) (M := L.take k) (m := k) (by rw [List.length_nil, Nat.zero_add]; exact ownA) (unhide HLK).symm)
        rw [List.nil_append] at OA
        obtain ⟨TK, hTK⟩ : ∃ TK, L.take k = TK := ⟨_, rfl⟩
        rw [hTK] at OA
        have HTK := hide hTK
        clear hTK
        have A1 := hide ((unhide AA).grown growA (fun q hq => by have h9 : WE.heap.size = q := Option.some.inj hq; omega))
        clear ownA growA OA0 AA d0 hsW
        have e0 := (unhide A1).two.cell 0
        have e1 := (unhide A1).two.cell 1
        have e2 := (unhide A1).two.cell 2
        have e3 := (unhide A1).two.cell 3
        have e4 := (unhide A1).two.cell 4
        simp only [Pl.Nd.cs, List.getElem?_toArray, List.getElem?_cons_zero, List.getElem?_cons_succ] at e0 e1 e2 e3 e4
        have HLA := hide (Mem.ownN_lt (unhide OA))
        have hlen1 : TK.length ≤ 1000 := by rw [← unhide HTK, List.length_take]; omega
        go_wp2_with (at_builtin; refine wpList_append_own _ rfl _ _ 27 rfl (w.heap.size + 3) 34 i0 _ 5 56 Tryz.underlying27 hi hz0 hz1 hz2 rfl (by decide) _ _ _ rfl (Mem.ownN_alloc (unhide OA) _) ⟨wA.heap.size, 0, none⟩ 1 1 [.string np, .int .i64 nk, .string nd, .int .i64 nt, .int .i64 nm] rfl rfl (Mem.cs_new wA ⟨np, nk, nd, nt, nm⟩ _) (Mem.cs_one ⟨np, nk, nd, nt, nm⟩) (by unfold maxLen; omega) (by omega) (by have := (unhide A1).three.lt; simp; omega) ?_)
        intro v2 wB ownB growB _
        have OB := hide (Mem.ownN_snoc (L := TK) (n := ⟨np, nk, nd, nt, nm⟩) ownB)
        have AB := hide (((unhide A1).alloc (.cells #[.string np, .int .i64 nk, .string nd, .int .i64 nt, .int .i64 nm] 34)).grown growB (fun q hq => (unhide HLA q hq).1))
        clear ownB growB OA A1 e0 e1 e2 e3 e4 HLA hlen1 HLK
        have ER := hide (show R = (TK ++ [⟨np, nk, nd, nt, nm⟩]) ++ [] by
          rw [← unhide HTK, unhide HPUT k (by omega) (unhide HK) (unhide HF), unhide HRD k, if_neg (fun ⟨m, hm, _⟩ => by have := (List.getElem?_eq_some_iff.1 hm).1; omega), List.drop_eq_nil_of_le (by omega)]; simp)
        clear HPUT HRD HK HF HAH
        have MK : Hid (∀ W', At w W' g L ⟨np, nk, nd, nt, nm⟩ → (fun W' => At w W' g L ⟨np, nk, nd, nt, nm⟩ ∧ W'.cell? ⟨w.heap.size, 0, none⟩ = some (.slice (some ⟨g, 0, none⟩) L.length L.length) ∧ W'.cell? ⟨w.heap.size + 1, 0, none⟩ = some (.string np)) W') := fun W' h => ⟨h, h.one.cell 0, h.two.cell 0⟩
        go_wp2_with fail
        refine wp_region_held_drew (S := fun W' => At w W' g L ⟨np, nk, nd, nt, nm⟩ ∧ W'.cell? ⟨w.heap.size, 0, none⟩ = some (.slice (some ⟨g, 0, none⟩) L.length L.length) ∧ W'.cell? ⟨w.heap.size + 1, 0, none⟩ = some (.string np)) (by kernel_rfl) ?_ (fun hHeld => ?_)
        · exact unhide MK _ (unhide AB).drew
        refine wpAnyH_take (i := 0) (v := ?_) rfl (by kernel_rfl) (by kernel_rfl) (by kernel_rfl) (fun _ _ _ h => h) (Or.inl ⟨by rfl, ?_⟩) (by assumption) ?_
        rotate_left
        · (intro w hSw; (try dsimp only at hSw); go_simp; (try with_reducible rfl))
        try simp only [Act.put, List.getElem_toArray, List.getElem_cons_zero, List.getElem_cons_succ, List.setIfInBounds_toArray, List.set_cons_zero, List.set_cons_succ]
        refine wpAnyH_take (i := 1) (v := ?_) rfl (by kernel_rfl) (by kernel_rfl) (by kernel_rfl) (fun _ _ _ h => h) (Or.inl ⟨by rfl, ?_⟩) (by assumption) ?_
        rotate_left
        · (intro w hSw; (try dsimp only at hSw); go_simp; (try with_reducible rfl))
        try simp only [Act.put, List.getElem_toArray, List.getElem_cons_zero, List.getElem_cons_succ, List.setIfInBounds_toArray, List.set_cons_zero, List.set_cons_succ]
        refine wpAnyH_take (i := 2) (v := ?_) rfl (by kernel_rfl) (by kernel_rfl) (by kernel_rfl) (fun _ _ _ h => h) (Or.inl ⟨by rfl, ?_⟩) (by assumption) ?_
        rotate_left
        · (intro w hSw; (try dsimp only at hSw); go_simp; (try with_reducible rfl))
        try simp only [Act.put, List.getElem_toArray, List.getElem_cons_zero, List.getElem_cons_succ, List.setIfInBounds_toArray, List.set_cons_zero, List.set_cons_succ]
        refine wpAnyH_take (i := 3) (v := ?_) rfl (by kernel_rfl) (by kernel_rfl) (by kernel_rfl) (fun _ _ _ h => h) (Or.inl ⟨by rfl, ?_⟩) (by assumption) ?_
        rotate_left
        · (intro w hSw; (try dsimp only at hSw); go_simp; (try with_reducible rfl))
        try simp only [Act.put, List.getElem_toArray, List.getElem_cons_zero, List.getElem_cons_succ, List.setIfInBounds_toArray, List.set_cons_zero, List.set_cons_succ]
        refine wpAnyH_take (i := 4) (v := ?_) rfl (by kernel_rfl) (by kernel_rfl) (by kernel_rfl) (fun _ _ _ h => h) (Or.inl ⟨by rfl, ?_⟩) (by assumption) ?_
        rotate_left
        · (intro w hSw; (try dsimp only at hSw); go_simp; (try with_reducible rfl))
        try simp only [Act.put, List.getElem_toArray, List.getElem_cons_zero, List.getElem_cons_succ, List.setIfInBounds_toArray, List.set_cons_zero, List.set_cons_succ]
        refine wpAnyH_take (i := 5) (v := ?_) rfl (by kernel_rfl) (by kernel_rfl) (by kernel_rfl) (fun _ _ _ h => h) (Or.inl ⟨by rfl, ?_⟩) (by assumption) ?_
        rotate_left
        · (intro w hSw; (try dsimp only at hSw); go_simp; (try with_reducible rfl))
        try simp only [Act.put, List.getElem_toArray, List.getElem_cons_zero, List.getElem_cons_succ, List.setIfInBounds_toArray, List.set_cons_zero, List.set_cons_succ]
        refine wpAnyH_take (i := 6) (v := undef) rfl (by kernel_rfl) (by kernel_rfl) (by kernel_rfl) (fun _ _ _ h => h) (Or.inr ⟨by rfl, rfl⟩) (by assumption) ?_
        try simp only [Act.put, List.getElem_toArray, List.getElem_cons_zero, List.getElem_cons_succ, List.setIfInBounds_toArray, List.set_cons_zero, List.set_cons_succ]
        refine wpAnyH_take (i := 7) (v := undef) rfl (by kernel_rfl) (by kernel_rfl) (by kernel_rfl) (fun _ _ _ h => h) (Or.inr ⟨by rfl, rfl⟩) (by assumption) ?_
        try simp only [Act.put, List.getElem_toArray, List.getElem_cons_zero, List.getElem_cons_succ, List.setIfInBounds_toArray, List.set_cons_zero, List.set_cons_succ]
        refine wpAnyH_take (i := 8) (v := undef) rfl (by kernel_rfl) (by kernel_rfl) (by kernel_rfl) (fun _ _ _ h => h) (Or.inr ⟨by rfl, rfl⟩) (by assumption) ?_
        try simp only [Act.put, List.getElem_toArray, List.getElem_cons_zero, List.getElem_cons_succ, List.setIfInBounds_toArray, List.set_cons_zero, List.set_cons_succ]
        refine wpAnyH_take (i := 9) (v := undef) rfl (by kernel_rfl) (by kernel_rfl) (by kernel_rfl) (fun _ _ _ h => h) (Or.inr ⟨by rfl, rfl⟩) (by assumption) ?_
        try simp only [Act.put, List.getElem_toArray, List.getElem_cons_zero, List.getElem_cons_succ, List.setIfInBounds_toArray, List.set_cons_zero, List.set_cons_succ]
        refine wpAnyH_take (i := 10) (v := undef) rfl (by kernel_rfl) (by kernel_rfl) (by kernel_rfl) (fun _ _ _ h => h) (Or.inr ⟨by rfl, rfl⟩) (by assumption) ?_
        try simp only [Act.put, List.getElem_toArray, List.getElem_cons_zero, List.getElem_cons_succ, List.setIfInBounds_toArray, List.set_cons_zero, List.set_cons_succ]
        refine wpAnyH_take (i := 11) (v := undef) rfl (by kernel_rfl) (by kernel_rfl) (by kernel_rfl) (fun _ _ _ h => h) (Or.inr ⟨by rfl, rfl⟩) (by assumption) ?_
        try simp only [Act.put, List.getElem_toArray, List.getElem_cons_zero, List.getElem_cons_succ, List.setIfInBounds_toArray, List.set_cons_zero, List.set_cons_succ]
        refine wpAnyH_take (i := 12) (v := undef) rfl (by kernel_rfl) (by kernel_rfl) (by kernel_rfl) (fun _ _ _ h => h) (Or.inr ⟨by rfl, rfl⟩) (by assumption) ?_
        try simp only [Act.put, List.getElem_toArray, List.getElem_cons_zero, List.getElem_cons_succ, List.setIfInBounds_toArray, List.set_cons_zero, List.set_cons_succ]
        refine wpAnyH_take (i := 13) (v := undef) rfl (by kernel_rfl) (by kernel_rfl) (by kernel_rfl) (fun _ _ _ h => h) (Or.inr ⟨by rfl, rfl⟩) (by assumption) ?_
        try simp only [Act.put, List.getElem_toArray, List.getElem_cons_zero, List.getElem_cons_succ, List.setIfInBounds_toArray, List.set_cons_zero, List.set_cons_succ]
        refine wpAnyH_take (i := 14) (v := undef) rfl (by kernel_rfl) (by kernel_rfl) (by kernel_rfl) (fun _ _ _ h => h) (Or.inr ⟨by rfl, rfl⟩) (by assumption) ?_
        try simp only [Act.put, List.getElem_toArray, List.getElem_cons_zero, List.getElem_cons_succ, List.setIfInBounds_toArray, List.set_cons_zero, List.set_cons_succ]
        refine wpAnyH_take (i := 15) (v := ?_) rfl (by kernel_rfl) (by kernel_rfl) (by kernel_rfl) (fun _ _ _ h => h) (Or.inl ⟨by rfl, ?_⟩) (by assumption) ?_
        rotate_left
        · (intro w hSw; (try dsimp only at hSw); go_simp; (try with_reducible rfl))
        try simp only [Act.put, List.getElem_toArray, List.getElem_cons_zero, List.getElem_cons_succ, List.setIfInBounds_toArray, List.set_cons_zero, List.set_cons_succ]
        refine wpAnyH_done (by kernel_rfl) ?_ _
        have OC : Hid (Mem.ownN wB.drew (w.heap.size + 3) v2 (TK ++ [⟨np, nk, nd, nt, nm⟩])) := unhide OB
        generalize wB.drew = WC at hHeld OC ⊢
        have AC := hide hHeld.1
        clear hHeld MK AB OB
        have s4 : L.length = k := by omega
        have d0 := (unhide AC).one.cell 0
        simp only [List.getElem?_toArray, List.getElem?_cons_zero] at d0
        have HLC := hide (Mem.ownN_lt (unhide OC))
        have hlT : TK.length ≤ 1000 := by rw [← unhide HTK, List.length_take]; omega
        go_wp2_with (at_builtin; refine wpList_append_own _ rfl _ _ 27 rfl (w.heap.size + 3) 34 i0 _ 5 56 Tryz.underlying27 hi hz0 hz1 hz2 rfl (by decide) _ _ _ rfl (unhide OC) ⟨g, 0, none⟩ 0 0 (Pl.cellsN ([])) rfl (by simp [Pl.cellsN]) (fun j u h => by simp [Pl.cellsN] at h) (cells_one _) (by rw [List.length_append, List.length_singleton]; unfold maxLen; omega) (by rw [List.length_append, List.length_singleton]; omega) (by have := (unhide AC).three.lt; omega) ?_)
        intro v3 wD ownD growD _
        have OD := hide (ownN_app (A := TK ++ [⟨np, nk, nd, nt, nm⟩]) (M := []) (m := 0) (by first | exact ownD | (rw [List.length_append, List.length_singleton]; exact ownD) | (rw [Nat.add_zero, List.length_append, List.length_singleton]; exact ownD)) (by simp))
        have AD2 := hide ((unhide AC).grown growD (fun q hq => (unhide HLC q hq).1))
        clear ownD growD HLC AC OC d0
        rw [← unhide ER] at OD
        obtain ⟨a3, cap3, hv3⟩ := Mem.own_shape (unhide OD)
        subst hv3
        have z0 := (unhide AD2).three.cell 0
        have zf := (unhide AD2).three.fr 0
        simp only [List.getElem?_toArray, List.getElem?_cons_zero] at z0
        clear ER
        go_wp2
        refine bodyPost_ret (v := .agg #[.slice a3 R.length cap3]) (by simp [results, Tryz.results159, go_sem, z0]) rfl ⟨_, rfl, ?_, ?_⟩
        · exact Mem.ownN_mono (Mem.ownN_set (unhide OD) _ _ (by show w.heap.size + 1 + 1 < w.heap.size + 3; omega)) (by omega)
        · exact (unhide AD2).bel.setCell (by show w.heap.size ≤ w.heap.size + 1 + 1; omega) _
end WPutT
end Go.Proofs.YteddcihodfkliaaGreatDoor

/- The walks of the specification's l03Add and TreePut. -/
namespace Go.Proofs.YteddcihodfkliaaGreatDoor
open Go.RowKit
namespace Pl
/-- What TreePut of what is right tells. -/
def addC (L : List Nd) (n : Nd) : Int :=
  if (parent n.path).size ≠ 0 ∧ L.find? (fun m => decide (m.path = parent n.path)) = none then 6 else if dirS L (parent n.path) = false then 12 else if n.kind ≠ 1 ∧ overL L n.path = true then 11 else if L.find? (fun m => decide (m.path = n.path)) = none ∧ 40 ≤ L.length then 9 else 0
def addO (L : List Nd) (n : Nd) : List Nd := if addC L n = 0 then putL L n else []
def putC (L : List Nd) (n : Nd) : Int := if treeB L = true ∧ nodeB n = true then addC L n else 1
def putO (L : List Nd) (n : Nd) : List Nd := if treeB L = true ∧ nodeB n = true then addO L n else []
theorem putO_len (L : List Nd) (n : Nd) : (putO L n).length ≤ L.length + 1 := by
  unfold putO addO
  split
  · split
    · exact put_len L n
    · exact Nat.zero_le _
  · exact Nat.zero_le _
end Pl
namespace WPutA
structure At (w W : World) (g : Nat) (L : List Pl.Nd) (n : Pl.Nd) : Prop where
  bel : Below w.heap.size w W
  one : Mem.Blk W w.heap.size #[.slice (some ⟨g, 0, none⟩) L.length L.length] 29
  two : Mem.Blk W (w.heap.size + 1) n.cs.toArray 34
  three : Mem.Blk W (w.heap.size + 1 + 1) #[.slice none 0 0, .int .i64 0] 31
theorem At.call {w W W' : World} {g : Nat} {L : List Pl.Nd} {n : Pl.Nd} (h : At w W g L n) (b : Below W.heap.size W W') : At w W' g L n :=
  ⟨h.bel.trans (b.mono h.bel.size), h.one.call b, h.two.call b, h.three.call b⟩
set_option linter.unusedSimpArgs false in
set_option maxRecDepth 100000 in
set_option maxHeartbeats 1000000 in
theorem add_any (g : Nat) (L : List Pl.Nd) (n : Pl.Nd) (w : World) (hl : L.length ≤ 1000) (hg : g < w.heap.size) (hv : Mem.isNodes w (some ⟨g, 0, none⟩) L) (hok : ∀ m ∈ L, m.path.size ≤ 8000) (hn8 : n.path.size ≤ 8000) :
    Calls Tryz.prog 123 #[.agg #[.slice (some ⟨g, 0, none⟩) L.length L.length], n.val] w fun e w' => ∃ v, e = .returned (.agg #[v, .int .i64 (Pl.addC L n)]) ∧ Mem.ownN w' w.heap.size v (Pl.addO L n) ∧ Below w.heap.size w w' := by
  have HPA := hide (fun W => WPathS.parent_any n.path W (by unfold maxLen; omega))
  have HAU := hide (fun W (b : Below w.heap.size w W) => WTreeS.at_any (some ⟨g, 0, none⟩) L.length L (Pl.parent n.path) W (by omega) (Mem.nodes_call hv b))
  have HDU := hide (fun W (b : Below w.heap.size w W) => WTreeS.dir_any (some ⟨g, 0, none⟩) L.length L (Pl.parent n.path) W (by omega) (Mem.nodes_call hv b))
  have HOV := hide (fun W (b : Below w.heap.size w W) => WPutS.over_any (some ⟨g, 0, none⟩) L.length L n.path W (by omega) (Mem.nodes_call hv b) (by omega))
  have HAN := hide (fun W (b : Below w.heap.size w W) => WTreeS.at_any (some ⟨g, 0, none⟩) L.length L n.path W (by omega) (Mem.nodes_call hv b))
  have HPU := hide (fun W (b : Below w.heap.size w W) => WPutT.put_any g L n W hl (Nat.lt_of_lt_of_le hg b.size) (Mem.nodes_call hv b) hok hn8)
  have E6 : Hid ((Pl.parent n.path).size ≠ 0 ∧ L.find? (fun m => decide (m.path = Pl.parent n.path)) = none → Pl.addC L n = 6) := fun h => by rw [Pl.addC, if_pos h]
  have E12 : Hid (¬ ((Pl.parent n.path).size ≠ 0 ∧ L.find? (fun m => decide (m.path = Pl.parent n.path)) = none) → Pl.dirS L (Pl.parent n.path) = false → Pl.addC L n = 12) := fun h h2 => by rw [Pl.addC, if_neg h, if_pos h2]
  have E11 : Hid (¬ ((Pl.parent n.path).size ≠ 0 ∧ L.find? (fun m => decide (m.path = Pl.parent n.path)) = none) → Pl.dirS L (Pl.parent n.path) = true → n.kind ≠ 1 ∧ Pl.overL L n.path = true → Pl.addC L n = 11) := fun h h2 h3 => by rw [Pl.addC, if_neg h, if_neg (by rw [h2]; simp), if_pos h3]
  have E9 : Hid (¬ ((Pl.parent n.path).size ≠ 0 ∧ L.find? (fun m => decide (m.path = Pl.parent n.path)) = none) → Pl.dirS L (Pl.parent n.path) = true → ¬ (n.kind ≠ 1 ∧ Pl.overL L n.path = true) → (L.find? (fun m => decide (m.path = n.path)) = none ∧ 40 ≤ L.length) → Pl.addC L n = 9) := fun h h2 h3 h4 => by rw [Pl.addC, if_neg h, if_neg (by rw [h2]; simp), if_neg h3, if_pos h4]
  have E0 : Hid (¬ ((Pl.parent n.path).size ≠ 0 ∧ L.find? (fun m => decide (m.path = Pl.parent n.path)) = none) → Pl.dirS L (Pl.parent n.path) = true → ¬ (n.kind ≠ 1 ∧ Pl.overL L n.path = true) → ¬ (L.find? (fun m => decide (m.path = n.path)) = none ∧ 40 ≤ L.length) → Pl.addC L n = 0) := fun h h2 h3 h4 => by rw [Pl.addC, if_neg h, if_neg (by rw [h2]; simp), if_neg h3, if_neg h4]
  have HO : Hid (Pl.addO L n = if Pl.addC L n = 0 then Pl.putL L n else []) := rfl
  obtain ⟨C, HC⟩ : ∃ C, Hid (C = Pl.addC L n) := ⟨_, hide rfl⟩
  rw [← unhide HC] at HO ⊢
  generalize Pl.addO L n = O at HO ⊢
  obtain ⟨np, nk, nd, nt, nm⟩ := n
  simp only [Pl.Nd.val] at HPA HAU HDU HOV HAN HPU hn8 HC HO E6 E12 E11 E9 E0 ⊢
  have H0 : At w (((w.alloc (.cells #[.slice (some ⟨g, 0, none⟩) L.length L.length] 29)).alloc (.cells #[.string np, .int .i64 nk, .string nd, .int .i64 nt, .int .i64 nm] 34)).alloc (.cells #[.slice none 0 0, .int .i64 0] 31)) g L ⟨np, nk, nd, nt, nm⟩ :=
    ⟨(((Below.refl _ _).alloc (Nat.le_refl _) _).alloc (by simp) _).alloc (by simp; omega) _, ((Mem.Blk.new _ _ _).alloc _).alloc _, (by have h := (Mem.Blk.new (w.alloc (.cells #[.slice (some ⟨g, 0, none⟩) L.length L.length] 29)) #[.string np, .int .i64 nk, .string nd, .int .i64 nt, .int .i64 nm] 34).alloc (.cells #[.slice none 0 0, .int .i64 0] 31); rwa [show (w.alloc (.cells #[.slice (some ⟨g, 0, none⟩) L.length L.length] 29)).heap.size = w.heap.size + 1 by simp] at h), Mem.new_three _ _ _ _⟩
  have HA := hide H0
  clear H0 hv hok hn8
  go_enter Tryz.func123, Tryz.ntmps123
  go_wp2_with fail
  refine (unhide HPA _).mono ?_
  rintro e wP ⟨rfl, hwP⟩
  obtain rfl := hwP.symm
  clear HPA
  generalize hUP : Pl.parent np = UP at HAU HDU E6 E12 E11 E9 E0
  generalize ((w.alloc (.cells #[.slice (some ⟨g, 0, none⟩) L.length L.length] 29)).alloc (.cells #[.string np, .int .i64 nk, .string nd, .int .i64 nt, .int .i64 nm] 34)).alloc (.cells #[.slice none 0 0, .int .i64 0] 31) = W1 at HA ⊢
  have c1 := (unhide HA).one.cell 0
  have p0 := (unhide HA).two.cell 0
  have p1 := (unhide HA).two.cell 1
  have p2 := (unhide HA).two.cell 2
  have p3 := (unhide HA).two.cell 3
  have p4 := (unhide HA).two.cell 4
  simp only [Pl.Nd.cs, List.getElem?_toArray, List.getElem?_cons_zero, List.getElem?_cons_succ] at c1 p0 p1 p2 p3 p4
  by_cases h0 : UP.size = 0
  · have t0 : UP.toList.isEmpty = true := by rw [Pl.empty_list]; simpa [Pl.by_nil] using h0
    have Q1 : Hid (¬ (UP.size ≠ 0 ∧ L.find? (fun m => decide (m.path = UP)) = none)) := fun h => h.1 h0
    clear h0 HAU hUP
    go_wp2_with fail
    refine (unhide HDU _ (unhide HA).bel).mono ?_
    rintro e wV ⟨rfl, bV⟩
    have HA3 := hide ((unhide HA).call bV)
    clear HA bV HDU
    clear c1 p0 p1 p2 p3 p4
    cases hdd : Pl.dirS L UP
    · have EC := hide (show C = 12 by rw [unhide HC]; exact unhide E12 (unhide Q1) hdd)
      have EN := hide (show O = [] by rw [unhide HO, if_neg (by rw [unhide EC]; decide)])
      clear HC HO
      clear hdd E6 E12 E11 E9 E0 HOV HAN HPU Q1
      go_wp2_with fail
      refine (WIll3.ill_any 12 _).mono ?_
      rintro e wI ⟨rfl, bI⟩
      have AI := hide ((unhide HA3).call bI)
      clear bI HA3
      have d0 := (unhide AI).three.cell 0
      have d1 := (unhide AI).three.cell 1
      have f0 := (unhide AI).three.fr 0
      have f1 := (unhide AI).three.fr 1
      simp only [List.getElem?_toArray, List.getElem?_cons_zero, List.getElem?_cons_succ] at d0 d1
      go_wp2
      refine bodyPost_ret (v := .agg #[.slice none 0 0, .int .i64 12]) (by simp [results, Tryz.results123, go_sem, d0, d1]) rfl ⟨.slice none 0 0, by rw [unhide EC], by rw [unhide EN]; exact Mem.ownN_nil _ _, ?_⟩
      exact ((unhide AI).bel.setCell (by show w.heap.size ≤ w.heap.size + 1 + 1; omega) _).setCell (by show w.heap.size ≤ w.heap.size + 1 + 1; omega) _
    have c1 := (unhide HA3).one.cell 0
    have p0 := (unhide HA3).two.cell 0
    have p1 := (unhide HA3).two.cell 1
    have p2 := (unhide HA3).two.cell 2
    have p3 := (unhide HA3).two.cell 3
    have p4 := (unhide HA3).two.cell 4
    simp only [Pl.Nd.cs, List.getElem?_toArray, List.getElem?_cons_zero, List.getElem?_cons_succ] at c1 p0 p1 p2 p3 p4
    by_cases hk1 : nk = 1
    · subst hk1
      have Q2 : Hid (¬ ((1 : Int) ≠ 1 ∧ Pl.overL L np = true)) := fun h => h.1 rfl
      have Q0 : Hid (Pl.dirS L UP = true) := hdd
      clear hdd HOV
      have HA4 := HA3
      clear HA3
      go_wp2_with fail
      refine (unhide HAN _ (unhide HA4).bel).mono ?_
      rintro e wN ⟨⟨r, rfl, hr⟩, bN⟩
      have HA5 := hide ((unhide HA4).call bN)
      clear HA4 bN HAN
      clear c1 p0 p1 p2 p3 p4
      rcases hr.out with ⟨kn, nn, rfl, hkn, hfn⟩ | ⟨rfl, hfn⟩
      · have tn : ¬ ((kn : Int) < 0) := by omega
        have EC := hide (show C = 0 by rw [unhide HC]; exact unhide E0 (unhide Q1) (unhide Q0) (unhide Q2) (fun h => by rw [hfn] at h; cases h.1))
        clear hr hkn hfn E6 E12 E11 E9 E0 Q0 Q1 Q2
        have EN := hide (show O = Pl.putL L ⟨np, 1, nd, nt, nm⟩ by rw [unhide HO, if_pos (unhide EC)])
        clear HC HO
        have c1 := (unhide HA5).one.cell 0
        have p0 := (unhide HA5).two.cell 0
        have p1 := (unhide HA5).two.cell 1
        have p2 := (unhide HA5).two.cell 2
        have p3 := (unhide HA5).two.cell 3
        have p4 := (unhide HA5).two.cell 4
        simp only [Pl.Nd.cs, List.getElem?_toArray, List.getElem?_cons_zero, List.getElem?_cons_succ] at c1 p0 p1 p2 p3 p4
        go_wp2_with fail
        refine (unhide HPU _ (unhide HA5).bel).mono ?_
        rintro e wT ⟨v, rfl, own, bT⟩
        obtain ⟨a', cap', hvv⟩ := Mem.own_shape own
        subst hvv
        have hs5 := (unhide HA5).three.lt
        have AI := hide ((unhide HA5).call bT)
        have OW := hide own
        clear own bT HA5 HPU c1 p0 p1 p2 p3 p4
        have d0 := (unhide AI).three.cell 0
        have d1 := (unhide AI).three.cell 1
        have f0 := (unhide AI).three.fr 0
        have f1 := (unhide AI).three.fr 1
        simp only [List.getElem?_toArray, List.getElem?_cons_zero, List.getElem?_cons_succ] at d0 d1
        go_wp2
        refine bodyPost_ret (v := .agg #[.slice a' (Pl.putL L ⟨np, 1, nd, nt, nm⟩).length cap', .int .i64 0]) (by simp [results, Tryz.results123, go_sem, d0, d1]) rfl ⟨.slice a' (Pl.putL L ⟨np, 1, nd, nt, nm⟩).length cap', by rw [unhide EC], ?_, ?_⟩
        · rw [unhide EN]
          exact Mem.ownN_mono (Mem.ownN_set (Mem.ownN_set (unhide OW) _ _ (by show w.heap.size + 1 + 1 < _; omega)) _ _ (by show w.heap.size + 1 + 1 < _; omega)) (by omega)
        · exact ((unhide AI).bel.setCell (by show w.heap.size ≤ w.heap.size + 1 + 1; omega) _).setCell (by show w.heap.size ≤ w.heap.size + 1 + 1; omega) _
      · by_cases h40 : 40 ≤ L.length
        · have t40 : (40 : Int) ≤ (L.length : Int) := by omega
          have EC := hide (show C = 9 by rw [unhide HC]; exact unhide E9 (unhide Q1) (unhide Q0) (unhide Q2) ⟨hfn, h40⟩)
          have EN := hide (show O = [] by rw [unhide HO, if_neg (by rw [unhide EC]; decide)])
          clear HC HO
          clear hr hfn E6 E12 E11 E9 E0 HPU Q0 Q1 Q2
          have c1 := (unhide HA5).one.cell 0
          have p0 := (unhide HA5).two.cell 0
          have p1 := (unhide HA5).two.cell 1
          have p2 := (unhide HA5).two.cell 2
          have p3 := (unhide HA5).two.cell 3
          have p4 := (unhide HA5).two.cell 4
          simp only [Pl.Nd.cs, List.getElem?_toArray, List.getElem?_cons_zero, List.getElem?_cons_succ] at c1 p0 p1 p2 p3 p4
          go_wp2_with fail
          refine (WIll3.ill_any 9 _).mono ?_
          rintro e wI ⟨rfl, bI⟩
          have AI := hide ((unhide HA5).call bI)
          clear bI HA5
          have d0 := (unhide AI).three.cell 0
          have d1 := (unhide AI).three.cell 1
          have f0 := (unhide AI).three.fr 0
          have f1 := (unhide AI).three.fr 1
          simp only [List.getElem?_toArray, List.getElem?_cons_zero, List.getElem?_cons_succ] at d0 d1
          go_wp2
          refine bodyPost_ret (v := .agg #[.slice none 0 0, .int .i64 9]) (by simp [results, Tryz.results123, go_sem, d0, d1]) rfl ⟨.slice none 0 0, by rw [unhide EC], by rw [unhide EN]; exact Mem.ownN_nil _ _, ?_⟩
          exact ((unhide AI).bel.setCell (by show w.heap.size ≤ w.heap.size + 1 + 1; omega) _).setCell (by show w.heap.size ≤ w.heap.size + 1 + 1; omega) _
        · have t40 : ¬ (40 : Int) ≤ (L.length : Int) := by omega
          have EC := hide (show C = 0 by rw [unhide HC]; exact unhide E0 (unhide Q1) (unhide Q0) (unhide Q2) (fun h => h40 h.2))
          clear hr hfn E6 E12 E11 E9 E0 Q0 Q1 Q2 h40
          have EN := hide (show O = Pl.putL L ⟨np, 1, nd, nt, nm⟩ by rw [unhide HO, if_pos (unhide EC)])
          clear HC HO
          have c1 := (unhide HA5).one.cell 0
          have p0 := (unhide HA5).two.cell 0
          have p1 := (unhide HA5).two.cell 1
          have p2 := (unhide HA5).two.cell 2
          have p3 := (unhide HA5).two.cell 3
          have p4 := (unhide HA5).two.cell 4
          simp only [Pl.Nd.cs, List.getElem?_toArray, List.getElem?_cons_zero, List.getElem?_cons_succ] at c1 p0 p1 p2 p3 p4
          go_wp2_with fail
          refine (unhide HPU _ (unhide HA5).bel).mono ?_
          rintro e wT ⟨v, rfl, own, bT⟩
          obtain ⟨a', cap', hvv⟩ := Mem.own_shape own
          subst hvv
          have hs5 := (unhide HA5).three.lt
          have AI := hide ((unhide HA5).call bT)
          have OW := hide own
          clear own bT HA5 HPU c1 p0 p1 p2 p3 p4
          have d0 := (unhide AI).three.cell 0
          have d1 := (unhide AI).three.cell 1
          have f0 := (unhide AI).three.fr 0
          have f1 := (unhide AI).three.fr 1
          simp only [List.getElem?_toArray, List.getElem?_cons_zero, List.getElem?_cons_succ] at d0 d1
          go_wp2
          refine bodyPost_ret (v := .agg #[.slice a' (Pl.putL L ⟨np, 1, nd, nt, nm⟩).length cap', .int .i64 0]) (by simp [results, Tryz.results123, go_sem, d0, d1]) rfl ⟨.slice a' (Pl.putL L ⟨np, 1, nd, nt, nm⟩).length cap', by rw [unhide EC], ?_, ?_⟩
          · rw [unhide EN]
            exact Mem.ownN_mono (Mem.ownN_set (Mem.ownN_set (unhide OW) _ _ (by show w.heap.size + 1 + 1 < _; omega)) _ _ (by show w.heap.size + 1 + 1 < _; omega)) (by omega)
          · exact ((unhide AI).bel.setCell (by show w.heap.size ≤ w.heap.size + 1 + 1; omega) _).setCell (by show w.heap.size ≤ w.heap.size + 1 + 1; omega) _
    · have tk : (nk == 1) = false := by simpa using hk1
      go_wp2_with fail
      refine (unhide HOV _ (unhide HA3).bel).mono ?_
      rintro e wO ⟨rfl, bO⟩
      have HA4 := hide ((unhide HA3).call bO)
      clear HA3 bO HOV c1 p0 p1 p2 p3 p4
      cases hov : Pl.overL L np
      · have Q2 : Hid (¬ (nk ≠ 1 ∧ Pl.overL L np = true)) := fun h => by rw [hov] at h; cases h.2
        have Q0 : Hid (Pl.dirS L UP = true) := hdd
        clear hov hdd hk1
        have c1 := (unhide HA4).one.cell 0
        have p0 := (unhide HA4).two.cell 0
        have p1 := (unhide HA4).two.cell 1
        have p2 := (unhide HA4).two.cell 2
        have p3 := (unhide HA4).two.cell 3
        have p4 := (unhide HA4).two.cell 4
        simp only [Pl.Nd.cs, List.getElem?_toArray, List.getElem?_cons_zero, List.getElem?_cons_succ] at c1 p0 p1 p2 p3 p4
        go_wp2_with fail
        refine (unhide HAN _ (unhide HA4).bel).mono ?_
        rintro e wN ⟨⟨r, rfl, hr⟩, bN⟩
        have HA5 := hide ((unhide HA4).call bN)
        clear HA4 bN HAN
        clear c1 p0 p1 p2 p3 p4
        rcases hr.out with ⟨kn, nn, rfl, hkn, hfn⟩ | ⟨rfl, hfn⟩
        · have tn : ¬ ((kn : Int) < 0) := by omega
          have EC := hide (show C = 0 by rw [unhide HC]; exact unhide E0 (unhide Q1) (unhide Q0) (unhide Q2) (fun h => by rw [hfn] at h; cases h.1))
          clear hr hkn hfn E6 E12 E11 E9 E0 Q0 Q1 Q2
          have EN := hide (show O = Pl.putL L ⟨np, nk, nd, nt, nm⟩ by rw [unhide HO, if_pos (unhide EC)])
          clear HC HO
          have c1 := (unhide HA5).one.cell 0
          have p0 := (unhide HA5).two.cell 0
          have p1 := (unhide HA5).two.cell 1
          have p2 := (unhide HA5).two.cell 2
          have p3 := (unhide HA5).two.cell 3
          have p4 := (unhide HA5).two.cell 4
          simp only [Pl.Nd.cs, List.getElem?_toArray, List.getElem?_cons_zero, List.getElem?_cons_succ] at c1 p0 p1 p2 p3 p4
          go_wp2_with fail
          refine (unhide HPU _ (unhide HA5).bel).mono ?_
          rintro e wT ⟨v, rfl, own, bT⟩
          obtain ⟨a', cap', hvv⟩ := Mem.own_shape own
          subst hvv
          have hs5 := (unhide HA5).three.lt
          have AI := hide ((unhide HA5).call bT)
          have OW := hide own
          clear own bT HA5 HPU c1 p0 p1 p2 p3 p4
          have d0 := (unhide AI).three.cell 0
          have d1 := (unhide AI).three.cell 1
          have f0 := (unhide AI).three.fr 0
          have f1 := (unhide AI).three.fr 1
          simp only [List.getElem?_toArray, List.getElem?_cons_zero, List.getElem?_cons_succ] at d0 d1
          go_wp2
          refine bodyPost_ret (v := .agg #[.slice a' (Pl.putL L ⟨np, nk, nd, nt, nm⟩).length cap', .int .i64 0]) (by simp [results, Tryz.results123, go_sem, d0, d1]) rfl ⟨.slice a' (Pl.putL L ⟨np, nk, nd, nt, nm⟩).length cap', by rw [unhide EC], ?_, ?_⟩
          · rw [unhide EN]
            exact Mem.ownN_mono (Mem.ownN_set (Mem.ownN_set (unhide OW) _ _ (by show w.heap.size + 1 + 1 < _; omega)) _ _ (by show w.heap.size + 1 + 1 < _; omega)) (by omega)
          · exact ((unhide AI).bel.setCell (by show w.heap.size ≤ w.heap.size + 1 + 1; omega) _).setCell (by show w.heap.size ≤ w.heap.size + 1 + 1; omega) _
        · by_cases h40 : 40 ≤ L.length
          · have t40 : (40 : Int) ≤ (L.length : Int) := by omega
            have EC := hide (show C = 9 by rw [unhide HC]; exact unhide E9 (unhide Q1) (unhide Q0) (unhide Q2) ⟨hfn, h40⟩)
            have EN := hide (show O = [] by rw [unhide HO, if_neg (by rw [unhide EC]; decide)])
            clear HC HO
            clear hr hfn E6 E12 E11 E9 E0 HPU Q0 Q1 Q2
            have c1 := (unhide HA5).one.cell 0
            have p0 := (unhide HA5).two.cell 0
            have p1 := (unhide HA5).two.cell 1
            have p2 := (unhide HA5).two.cell 2
            have p3 := (unhide HA5).two.cell 3
            have p4 := (unhide HA5).two.cell 4
            simp only [Pl.Nd.cs, List.getElem?_toArray, List.getElem?_cons_zero, List.getElem?_cons_succ] at c1 p0 p1 p2 p3 p4
            go_wp2_with fail
            refine (WIll3.ill_any 9 _).mono ?_
            rintro e wI ⟨rfl, bI⟩
            have AI := hide ((unhide HA5).call bI)
            clear bI HA5
            have d0 := (unhide AI).three.cell 0
            have d1 := (unhide AI).three.cell 1
            have f0 := (unhide AI).three.fr 0
            have f1 := (unhide AI).three.fr 1
            simp only [List.getElem?_toArray, List.getElem?_cons_zero, List.getElem?_cons_succ] at d0 d1
            go_wp2
            refine bodyPost_ret (v := .agg #[.slice none 0 0, .int .i64 9]) (by simp [results, Tryz.results123, go_sem, d0, d1]) rfl ⟨.slice none 0 0, by rw [unhide EC], by rw [unhide EN]; exact Mem.ownN_nil _ _, ?_⟩
            exact ((unhide AI).bel.setCell (by show w.heap.size ≤ w.heap.size + 1 + 1; omega) _).setCell (by show w.heap.size ≤ w.heap.size + 1 + 1; omega) _
          · have t40 : ¬ (40 : Int) ≤ (L.length : Int) := by omega
            have EC := hide (show C = 0 by rw [unhide HC]; exact unhide E0 (unhide Q1) (unhide Q0) (unhide Q2) (fun h => h40 h.2))
            clear hr hfn E6 E12 E11 E9 E0 Q0 Q1 Q2 h40
            have EN := hide (show O = Pl.putL L ⟨np, nk, nd, nt, nm⟩ by rw [unhide HO, if_pos (unhide EC)])
            clear HC HO
            have c1 := (unhide HA5).one.cell 0
            have p0 := (unhide HA5).two.cell 0
            have p1 := (unhide HA5).two.cell 1
            have p2 := (unhide HA5).two.cell 2
            have p3 := (unhide HA5).two.cell 3
            have p4 := (unhide HA5).two.cell 4
            simp only [Pl.Nd.cs, List.getElem?_toArray, List.getElem?_cons_zero, List.getElem?_cons_succ] at c1 p0 p1 p2 p3 p4
            go_wp2_with fail
            refine (unhide HPU _ (unhide HA5).bel).mono ?_
            rintro e wT ⟨v, rfl, own, bT⟩
            obtain ⟨a', cap', hvv⟩ := Mem.own_shape own
            subst hvv
            have hs5 := (unhide HA5).three.lt
            have AI := hide ((unhide HA5).call bT)
            have OW := hide own
            clear own bT HA5 HPU c1 p0 p1 p2 p3 p4
            have d0 := (unhide AI).three.cell 0
            have d1 := (unhide AI).three.cell 1
            have f0 := (unhide AI).three.fr 0
            have f1 := (unhide AI).three.fr 1
            simp only [List.getElem?_toArray, List.getElem?_cons_zero, List.getElem?_cons_succ] at d0 d1
            go_wp2
            refine bodyPost_ret (v := .agg #[.slice a' (Pl.putL L ⟨np, nk, nd, nt, nm⟩).length cap', .int .i64 0]) (by simp [results, Tryz.results123, go_sem, d0, d1]) rfl ⟨.slice a' (Pl.putL L ⟨np, nk, nd, nt, nm⟩).length cap', by rw [unhide EC], ?_, ?_⟩
            · rw [unhide EN]
              exact Mem.ownN_mono (Mem.ownN_set (Mem.ownN_set (unhide OW) _ _ (by show w.heap.size + 1 + 1 < _; omega)) _ _ (by show w.heap.size + 1 + 1 < _; omega)) (by omega)
            · exact ((unhide AI).bel.setCell (by show w.heap.size ≤ w.heap.size + 1 + 1; omega) _).setCell (by show w.heap.size ≤ w.heap.size + 1 + 1; omega) _
      · have EC := hide (show C = 11 by rw [unhide HC]; exact unhide E11 (unhide Q1) hdd ⟨hk1, hov⟩)
        have EN := hide (show O = [] by rw [unhide HO, if_neg (by rw [unhide EC]; decide)])
        clear HC HO
        clear hov hdd hk1 E6 E12 E11 E9 E0 HAN HPU Q1
        go_wp2_with fail
        refine (WIll3.ill_any 11 _).mono ?_
        rintro e wI ⟨rfl, bI⟩
        have AI := hide ((unhide HA4).call bI)
        clear bI HA4
        have d0 := (unhide AI).three.cell 0
        have d1 := (unhide AI).three.cell 1
        have f0 := (unhide AI).three.fr 0
        have f1 := (unhide AI).three.fr 1
        simp only [List.getElem?_toArray, List.getElem?_cons_zero, List.getElem?_cons_succ] at d0 d1
        go_wp2
        refine bodyPost_ret (v := .agg #[.slice none 0 0, .int .i64 11]) (by simp [results, Tryz.results123, go_sem, d0, d1]) rfl ⟨.slice none 0 0, by rw [unhide EC], by rw [unhide EN]; exact Mem.ownN_nil _ _, ?_⟩
        exact ((unhide AI).bel.setCell (by show w.heap.size ≤ w.heap.size + 1 + 1; omega) _).setCell (by show w.heap.size ≤ w.heap.size + 1 + 1; omega) _
  · have t0 : UP.toList.isEmpty = false := by rw [Pl.empty_list]; simpa [Pl.by_nil] using h0
    go_wp2_with fail
    refine (unhide HAU _ (unhide HA).bel).mono ?_
    rintro e wU ⟨⟨r, rfl, hr⟩, bU⟩
    have HA2 := hide ((unhide HA).call bU)
    clear HA bU HAU c1 p0 p1 p2 p3 p4
    rcases hr.out with ⟨ku, nu, rfl, hku, hfu⟩ | ⟨rfl, hfu⟩
    · have tu : ¬ ((ku : Int) < 0) := by omega
      have Q1 : Hid (¬ (UP.size ≠ 0 ∧ L.find? (fun m => decide (m.path = UP)) = none)) := fun h => by rw [hfu] at h; cases h.2
      clear hr hku hfu h0 hUP
      have HA := HA2
      clear HA2
      have c1 := (unhide HA).one.cell 0
      have p0 := (unhide HA).two.cell 0
      have p1 := (unhide HA).two.cell 1
      have p2 := (unhide HA).two.cell 2
      have p3 := (unhide HA).two.cell 3
      have p4 := (unhide HA).two.cell 4
      simp only [Pl.Nd.cs, List.getElem?_toArray, List.getElem?_cons_zero, List.getElem?_cons_succ] at c1 p0 p1 p2 p3 p4
      go_wp2_with fail
      refine (unhide HDU _ (unhide HA).bel).mono ?_
      rintro e wV ⟨rfl, bV⟩
      have HA3 := hide ((unhide HA).call bV)
      clear HA bV HDU
      clear c1 p0 p1 p2 p3 p4
      cases hdd : Pl.dirS L UP
      · have EC := hide (show C = 12 by rw [unhide HC]; exact unhide E12 (unhide Q1) hdd)
        have EN := hide (show O = [] by rw [unhide HO, if_neg (by rw [unhide EC]; decide)])
        clear HC HO
        clear hdd E6 E12 E11 E9 E0 HOV HAN HPU Q1
        go_wp2_with fail
        refine (WIll3.ill_any 12 _).mono ?_
        rintro e wI ⟨rfl, bI⟩
        have AI := hide ((unhide HA3).call bI)
        clear bI HA3
        have d0 := (unhide AI).three.cell 0
        have d1 := (unhide AI).three.cell 1
        have f0 := (unhide AI).three.fr 0
        have f1 := (unhide AI).three.fr 1
        simp only [List.getElem?_toArray, List.getElem?_cons_zero, List.getElem?_cons_succ] at d0 d1
        go_wp2
        refine bodyPost_ret (v := .agg #[.slice none 0 0, .int .i64 12]) (by simp [results, Tryz.results123, go_sem, d0, d1]) rfl ⟨.slice none 0 0, by rw [unhide EC], by rw [unhide EN]; exact Mem.ownN_nil _ _, ?_⟩
        exact ((unhide AI).bel.setCell (by show w.heap.size ≤ w.heap.size + 1 + 1; omega) _).setCell (by show w.heap.size ≤ w.heap.size + 1 + 1; omega) _
      have c1 := (unhide HA3).one.cell 0
      have p0 := (unhide HA3).two.cell 0
      have p1 := (unhide HA3).two.cell 1
      have p2 := (unhide HA3).two.cell 2
      have p3 := (unhide HA3).two.cell 3
      have p4 := (unhide HA3).two.cell 4
      simp only [Pl.Nd.cs, List.getElem?_toArray, List.getElem?_cons_zero, List.getElem?_cons_succ] at c1 p0 p1 p2 p3 p4
      by_cases hk1 : nk = 1
      · subst hk1
        have Q2 : Hid (¬ ((1 : Int) ≠ 1 ∧ Pl.overL L np = true)) := fun h => h.1 rfl
        have Q0 : Hid (Pl.dirS L UP = true) := hdd
        clear hdd HOV
        have HA4 := HA3
        clear HA3
        go_wp2_with fail
        refine (unhide HAN _ (unhide HA4).bel).mono ?_
        rintro e wN ⟨⟨r, rfl, hr⟩, bN⟩
        have HA5 := hide ((unhide HA4).call bN)
        clear HA4 bN HAN
        clear c1 p0 p1 p2 p3 p4
        rcases hr.out with ⟨kn, nn, rfl, hkn, hfn⟩ | ⟨rfl, hfn⟩
        · have tn : ¬ ((kn : Int) < 0) := by omega
          have EC := hide (show C = 0 by rw [unhide HC]; exact unhide E0 (unhide Q1) (unhide Q0) (unhide Q2) (fun h => by rw [hfn] at h; cases h.1))
          clear hr hkn hfn E6 E12 E11 E9 E0 Q0 Q1 Q2
          have EN := hide (show O = Pl.putL L ⟨np, 1, nd, nt, nm⟩ by rw [unhide HO, if_pos (unhide EC)])
          clear HC HO
          have c1 := (unhide HA5).one.cell 0
          have p0 := (unhide HA5).two.cell 0
          have p1 := (unhide HA5).two.cell 1
          have p2 := (unhide HA5).two.cell 2
          have p3 := (unhide HA5).two.cell 3
          have p4 := (unhide HA5).two.cell 4
          simp only [Pl.Nd.cs, List.getElem?_toArray, List.getElem?_cons_zero, List.getElem?_cons_succ] at c1 p0 p1 p2 p3 p4
          go_wp2_with fail
          refine (unhide HPU _ (unhide HA5).bel).mono ?_
          rintro e wT ⟨v, rfl, own, bT⟩
          obtain ⟨a', cap', hvv⟩ := Mem.own_shape own
          subst hvv
          have hs5 := (unhide HA5).three.lt
          have AI := hide ((unhide HA5).call bT)
          have OW := hide own
          clear own bT HA5 HPU c1 p0 p1 p2 p3 p4
          have d0 := (unhide AI).three.cell 0
          have d1 := (unhide AI).three.cell 1
          have f0 := (unhide AI).three.fr 0
          have f1 := (unhide AI).three.fr 1
          simp only [List.getElem?_toArray, List.getElem?_cons_zero, List.getElem?_cons_succ] at d0 d1
          go_wp2
          refine bodyPost_ret (v := .agg #[.slice a' (Pl.putL L ⟨np, 1, nd, nt, nm⟩).length cap', .int .i64 0]) (by simp [results, Tryz.results123, go_sem, d0, d1]) rfl ⟨.slice a' (Pl.putL L ⟨np, 1, nd, nt, nm⟩).length cap', by rw [unhide EC], ?_, ?_⟩
          · rw [unhide EN]
            exact Mem.ownN_mono (Mem.ownN_set (Mem.ownN_set (unhide OW) _ _ (by show w.heap.size + 1 + 1 < _; omega)) _ _ (by show w.heap.size + 1 + 1 < _; omega)) (by omega)
          · exact ((unhide AI).bel.setCell (by show w.heap.size ≤ w.heap.size + 1 + 1; omega) _).setCell (by show w.heap.size ≤ w.heap.size + 1 + 1; omega) _
        · by_cases h40 : 40 ≤ L.length
          · have t40 : (40 : Int) ≤ (L.length : Int) := by omega
            have EC := hide (show C = 9 by rw [unhide HC]; exact unhide E9 (unhide Q1) (unhide Q0) (unhide Q2) ⟨hfn, h40⟩)
            have EN := hide (show O = [] by rw [unhide HO, if_neg (by rw [unhide EC]; decide)])
            clear HC HO
            clear hr hfn E6 E12 E11 E9 E0 HPU Q0 Q1 Q2
            have c1 := (unhide HA5).one.cell 0
            have p0 := (unhide HA5).two.cell 0
            have p1 := (unhide HA5).two.cell 1
            have p2 := (unhide HA5).two.cell 2
            have p3 := (unhide HA5).two.cell 3
            have p4 := (unhide HA5).two.cell 4
            simp only [Pl.Nd.cs, List.getElem?_toArray, List.getElem?_cons_zero, List.getElem?_cons_succ] at c1 p0 p1 p2 p3 p4
            go_wp2_with fail
            refine (WIll3.ill_any 9 _).mono ?_
            rintro e wI ⟨rfl, bI⟩
            have AI := hide ((unhide HA5).call bI)
            clear bI HA5
            have d0 := (unhide AI).three.cell 0
            have d1 := (unhide AI).three.cell 1
            have f0 := (unhide AI).three.fr 0
            have f1 := (unhide AI).three.fr 1
            simp only [List.getElem?_toArray, List.getElem?_cons_zero, List.getElem?_cons_succ] at d0 d1
            go_wp2
            refine bodyPost_ret (v := .agg #[.slice none 0 0, .int .i64 9]) (by simp [results, Tryz.results123, go_sem, d0, d1]) rfl ⟨.slice none 0 0, by rw [unhide EC], by rw [unhide EN]; exact Mem.ownN_nil _ _, ?_⟩
            exact ((unhide AI).bel.setCell (by show w.heap.size ≤ w.heap.size + 1 + 1; omega) _).setCell (by show w.heap.size ≤ w.heap.size + 1 + 1; omega) _
          · have t40 : ¬ (40 : Int) ≤ (L.length : Int) := by omega
            have EC := hide (show C = 0 by rw [unhide HC]; exact unhide E0 (unhide Q1) (unhide Q0) (unhide Q2) (fun h => h40 h.2))
            clear hr hfn E6 E12 E11 E9 E0 Q0 Q1 Q2 h40
            have EN := hide (show O = Pl.putL L ⟨np, 1, nd, nt, nm⟩ by rw [unhide HO, if_pos (unhide EC)])
            clear HC HO
            have c1 := (unhide HA5).one.cell 0
            have p0 := (unhide HA5).two.cell 0
            have p1 := (unhide HA5).two.cell 1
            have p2 := (unhide HA5).two.cell 2
            have p3 := (unhide HA5).two.cell 3
            have p4 := (unhide HA5).two.cell 4
            simp only [Pl.Nd.cs, List.getElem?_toArray, List.getElem?_cons_zero, List.getElem?_cons_succ] at c1 p0 p1 p2 p3 p4
            go_wp2_with fail
            refine (unhide HPU _ (unhide HA5).bel).mono ?_
            rintro e wT ⟨v, rfl, own, bT⟩
            obtain ⟨a', cap', hvv⟩ := Mem.own_shape own
            subst hvv
            have hs5 := (unhide HA5).three.lt
            have AI := hide ((unhide HA5).call bT)
            have OW := hide own
            clear own bT HA5 HPU c1 p0 p1 p2 p3 p4
            have d0 := (unhide AI).three.cell 0
            have d1 := (unhide AI).three.cell 1
            have f0 := (unhide AI).three.fr 0
            have f1 := (unhide AI).three.fr 1
            simp only [List.getElem?_toArray, List.getElem?_cons_zero, List.getElem?_cons_succ] at d0 d1
            go_wp2
            refine bodyPost_ret (v := .agg #[.slice a' (Pl.putL L ⟨np, 1, nd, nt, nm⟩).length cap', .int .i64 0]) (by simp [results, Tryz.results123, go_sem, d0, d1]) rfl ⟨.slice a' (Pl.putL L ⟨np, 1, nd, nt, nm⟩).length cap', by rw [unhide EC], ?_, ?_⟩
            · rw [unhide EN]
              exact Mem.ownN_mono (Mem.ownN_set (Mem.ownN_set (unhide OW) _ _ (by show w.heap.size + 1 + 1 < _; omega)) _ _ (by show w.heap.size + 1 + 1 < _; omega)) (by omega)
            · exact ((unhide AI).bel.setCell (by show w.heap.size ≤ w.heap.size + 1 + 1; omega) _).setCell (by show w.heap.size ≤ w.heap.size + 1 + 1; omega) _
      · have tk : (nk == 1) = false := by simpa using hk1
        go_wp2_with fail
        refine (unhide HOV _ (unhide HA3).bel).mono ?_
        rintro e wO ⟨rfl, bO⟩
        have HA4 := hide ((unhide HA3).call bO)
        clear HA3 bO HOV c1 p0 p1 p2 p3 p4
        cases hov : Pl.overL L np
        · have Q2 : Hid (¬ (nk ≠ 1 ∧ Pl.overL L np = true)) := fun h => by rw [hov] at h; cases h.2
          have Q0 : Hid (Pl.dirS L UP = true) := hdd
          clear hov hdd hk1
          have c1 := (unhide HA4).one.cell 0
          have p0 := (unhide HA4).two.cell 0
          have p1 := (unhide HA4).two.cell 1
          have p2 := (unhide HA4).two.cell 2
          have p3 := (unhide HA4).two.cell 3
          have p4 := (unhide HA4).two.cell 4
          simp only [Pl.Nd.cs, List.getElem?_toArray, List.getElem?_cons_zero, List.getElem?_cons_succ] at c1 p0 p1 p2 p3 p4
          go_wp2_with fail
          refine (unhide HAN _ (unhide HA4).bel).mono ?_
          rintro e wN ⟨⟨r, rfl, hr⟩, bN⟩
          have HA5 := hide ((unhide HA4).call bN)
          clear HA4 bN HAN
          clear c1 p0 p1 p2 p3 p4
          rcases hr.out with ⟨kn, nn, rfl, hkn, hfn⟩ | ⟨rfl, hfn⟩
          · have tn : ¬ ((kn : Int) < 0) := by omega
            have EC := hide (show C = 0 by rw [unhide HC]; exact unhide E0 (unhide Q1) (unhide Q0) (unhide Q2) (fun h => by rw [hfn] at h; cases h.1))
            clear hr hkn hfn E6 E12 E11 E9 E0 Q0 Q1 Q2
            have EN := hide (show O = Pl.putL L ⟨np, nk, nd, nt, nm⟩ by rw [unhide HO, if_pos (unhide EC)])
            clear HC HO
            have c1 := (unhide HA5).one.cell 0
            have p0 := (unhide HA5).two.cell 0
            have p1 := (unhide HA5).two.cell 1
            have p2 := (unhide HA5).two.cell 2
            have p3 := (unhide HA5).two.cell 3
            have p4 := (unhide HA5).two.cell 4
            simp only [Pl.Nd.cs, List.getElem?_toArray, List.getElem?_cons_zero, List.getElem?_cons_succ] at c1 p0 p1 p2 p3 p4
            go_wp2_with fail
            refine (unhide HPU _ (unhide HA5).bel).mono ?_
            rintro e wT ⟨v, rfl, own, bT⟩
            obtain ⟨a', cap', hvv⟩ := Mem.own_shape own
            subst hvv
            have hs5 := (unhide HA5).three.lt
            have AI := hide ((unhide HA5).call bT)
            have OW := hide own
            clear own bT HA5 HPU c1 p0 p1 p2 p3 p4
            have d0 := (unhide AI).three.cell 0
            have d1 := (unhide AI).three.cell 1
            have f0 := (unhide AI).three.fr 0
            have f1 := (unhide AI).three.fr 1
            simp only [List.getElem?_toArray, List.getElem?_cons_zero, List.getElem?_cons_succ] at d0 d1
            go_wp2
            refine bodyPost_ret (v := .agg #[.slice a' (Pl.putL L ⟨np, nk, nd, nt, nm⟩).length cap', .int .i64 0]) (by simp [results, Tryz.results123, go_sem, d0, d1]) rfl ⟨.slice a' (Pl.putL L ⟨np, nk, nd, nt, nm⟩).length cap', by rw [unhide EC], ?_, ?_⟩
            · rw [unhide EN]
              exact Mem.ownN_mono (Mem.ownN_set (Mem.ownN_set (unhide OW) _ _ (by show w.heap.size + 1 + 1 < _; omega)) _ _ (by show w.heap.size + 1 + 1 < _; omega)) (by omega)
            · exact ((unhide AI).bel.setCell (by show w.heap.size ≤ w.heap.size + 1 + 1; omega) _).setCell (by show w.heap.size ≤ w.heap.size + 1 + 1; omega) _
          · by_cases h40 : 40 ≤ L.length
            · have t40 : (40 : Int) ≤ (L.length : Int) := by omega
              have EC := hide (show C = 9 by rw [unhide HC]; exact unhide E9 (unhide Q1) (unhide Q0) (unhide Q2) ⟨hfn, h40⟩)
              have EN := hide (show O = [] by rw [unhide HO, if_neg (by rw [unhide EC]; decide)])
              clear HC HO
              clear hr hfn E6 E12 E11 E9 E0 HPU Q0 Q1 Q2
              have c1 := (unhide HA5).one.cell 0
              have p0 := (unhide HA5).two.cell 0
              have p1 := (unhide HA5).two.cell 1
              have p2 := (unhide HA5).two.cell 2
              have p3 := (unhide HA5).two.cell 3
              have p4 := (unhide HA5).two.cell 4
              simp only [Pl.Nd.cs, List.getElem?_toArray, List.getElem?_cons_zero, List.getElem?_cons_succ] at c1 p0 p1 p2 p3 p4
              go_wp2_with fail
              refine (WIll3.ill_any 9 _).mono ?_
              rintro e wI ⟨rfl, bI⟩
              have AI := hide ((unhide HA5).call bI)
              clear bI HA5
              have d0 := (unhide AI).three.cell 0
              have d1 := (unhide AI).three.cell 1
              have f0 := (unhide AI).three.fr 0
              have f1 := (unhide AI).three.fr 1
              simp only [List.getElem?_toArray, List.getElem?_cons_zero, List.getElem?_cons_succ] at d0 d1
              go_wp2
              refine bodyPost_ret (v := .agg #[.slice none 0 0, .int .i64 9]) (by simp [results, Tryz.results123, go_sem, d0, d1]) rfl ⟨.slice none 0 0, by rw [unhide EC], by rw [unhide EN]; exact Mem.ownN_nil _ _, ?_⟩
              exact ((unhide AI).bel.setCell (by show w.heap.size ≤ w.heap.size + 1 + 1; omega) _).setCell (by show w.heap.size ≤ w.heap.size + 1 + 1; omega) _
            · have t40 : ¬ (40 : Int) ≤ (L.length : Int) := by omega
              have EC := hide (show C = 0 by rw [unhide HC]; exact unhide E0 (unhide Q1) (unhide Q0) (unhide Q2) (fun h => h40 h.2))
              clear hr hfn E6 E12 E11 E9 E0 Q0 Q1 Q2 h40
              have EN := hide (show O = Pl.putL L ⟨np, nk, nd, nt, nm⟩ by rw [unhide HO, if_pos (unhide EC)])
              clear HC HO
              have c1 := (unhide HA5).one.cell 0
              have p0 := (unhide HA5).two.cell 0
              have p1 := (unhide HA5).two.cell 1
              have p2 := (unhide HA5).two.cell 2
              have p3 := (unhide HA5).two.cell 3
              have p4 := (unhide HA5).two.cell 4
              simp only [Pl.Nd.cs, List.getElem?_toArray, List.getElem?_cons_zero, List.getElem?_cons_succ] at c1 p0 p1 p2 p3 p4
              go_wp2_with fail
              refine (unhide HPU _ (unhide HA5).bel).mono ?_
              rintro e wT ⟨v, rfl, own, bT⟩
              obtain ⟨a', cap', hvv⟩ := Mem.own_shape own
              subst hvv
              have hs5 := (unhide HA5).three.lt
              have AI := hide ((unhide HA5).call bT)
              have OW := hide own
              clear own bT HA5 HPU c1 p0 p1 p2 p3 p4
              have d0 := (unhide AI).three.cell 0
              have d1 := (unhide AI).three.cell 1
              have f0 := (unhide AI).three.fr 0
              have f1 := (unhide AI).three.fr 1
              simp only [List.getElem?_toArray, List.getElem?_cons_zero, List.getElem?_cons_succ] at d0 d1
              go_wp2
              refine bodyPost_ret (v := .agg #[.slice a' (Pl.putL L ⟨np, nk, nd, nt, nm⟩).length cap', .int .i64 0]) (by simp [results, Tryz.results123, go_sem, d0, d1]) rfl ⟨.slice a' (Pl.putL L ⟨np, nk, nd, nt, nm⟩).length cap', by rw [unhide EC], ?_, ?_⟩
              · rw [unhide EN]
                exact Mem.ownN_mono (Mem.ownN_set (Mem.ownN_set (unhide OW) _ _ (by show w.heap.size + 1 + 1 < _; omega)) _ _ (by show w.heap.size + 1 + 1 < _; omega)) (by omega)
              · exact ((unhide AI).bel.setCell (by show w.heap.size ≤ w.heap.size + 1 + 1; omega) _).setCell (by show w.heap.size ≤ w.heap.size + 1 + 1; omega) _
        · have EC := hide (show C = 11 by rw [unhide HC]; exact unhide E11 (unhide Q1) hdd ⟨hk1, hov⟩)
          have EN := hide (show O = [] by rw [unhide HO, if_neg (by rw [unhide EC]; decide)])
          clear HC HO
          clear hov hdd hk1 E6 E12 E11 E9 E0 HAN HPU Q1
          go_wp2_with fail
          refine (WIll3.ill_any 11 _).mono ?_
          rintro e wI ⟨rfl, bI⟩
          have AI := hide ((unhide HA4).call bI)
          clear bI HA4
          have d0 := (unhide AI).three.cell 0
          have d1 := (unhide AI).three.cell 1
          have f0 := (unhide AI).three.fr 0
          have f1 := (unhide AI).three.fr 1
          simp only [List.getElem?_toArray, List.getElem?_cons_zero, List.getElem?_cons_succ] at d0 d1
          go_wp2
          refine bodyPost_ret (v := .agg #[.slice none 0 0, .int .i64 11]) (by simp [results, Tryz.results123, go_sem, d0, d1]) rfl ⟨.slice none 0 0, by rw [unhide EC], by rw [unhide EN]; exact Mem.ownN_nil _ _, ?_⟩
          exact ((unhide AI).bel.setCell (by show w.heap.size ≤ w.heap.size + 1 + 1; omega) _).setCell (by show w.heap.size ≤ w.heap.size + 1 + 1; omega) _
    · have EC := hide (show C = 6 by rw [unhide HC]; exact unhide E6 ⟨h0, hfu⟩)
      have EN := hide (show O = [] by rw [unhide HO, if_neg (by rw [unhide EC]; decide)])
      clear HC HO
      clear hr hfu h0 hUP E6 E12 E11 E9 E0 HDU HOV HAN HPU
      go_wp2_with fail
      refine (WIll3.ill_any 6 _).mono ?_
      rintro e wI ⟨rfl, bI⟩
      have AI := hide ((unhide HA2).call bI)
      clear bI HA2
      have d0 := (unhide AI).three.cell 0
      have d1 := (unhide AI).three.cell 1
      have f0 := (unhide AI).three.fr 0
      have f1 := (unhide AI).three.fr 1
      simp only [List.getElem?_toArray, List.getElem?_cons_zero, List.getElem?_cons_succ] at d0 d1
      go_wp2
      refine bodyPost_ret (v := .agg #[.slice none 0 0, .int .i64 6]) (by simp [results, Tryz.results123, go_sem, d0, d1]) rfl ⟨.slice none 0 0, by rw [unhide EC], by rw [unhide EN]; exact Mem.ownN_nil _ _, ?_⟩
      exact ((unhide AI).bel.setCell (by show w.heap.size ≤ w.heap.size + 1 + 1; omega) _).setCell (by show w.heap.size ≤ w.heap.size + 1 + 1; omega) _
end WPutA
end Go.Proofs.YteddcihodfkliaaGreatDoor

/- The walk of the specification's TreePut. -/
namespace Go.Proofs.YteddcihodfkliaaGreatDoor
open Go.RowKit
namespace WPutB
theorem right_bounds {L : List Pl.Nd} (h : Pl.treeB L = true) : L.length ≤ 40 ∧ ∀ m ∈ L, m.path.size ≤ 200 := by
  simp only [Pl.treeB, Bool.and_eq_true, decide_eq_true_eq] at h
  exact ⟨h.1, fun m hm => Pl.pathB_le (Pl.node_right (Pl.goI_all L _ _ h.2 m hm)).1⟩
set_option linter.unusedSimpArgs false in
set_option maxRecDepth 100000 in
set_option maxHeartbeats 1000000 in
theorem spec_any (g : Nat) (L : List Pl.Nd) (n : Pl.Nd) (w : World) (hg : g < w.heap.size) (hl : L.length ≤ 1048576) (hv : Mem.isNodes w (some ⟨g, 0, none⟩) L) (hok : ∀ n ∈ L, n.path.size ≤ 1048576 ∧ n.data.size ≤ 1048576) (hn : n.path.size ≤ 1048576 ∧ n.data.size ≤ 1048576) :
    Calls Tryz.prog 83 #[.agg #[.slice (some ⟨g, 0, none⟩) L.length L.length], n.val] w fun e w' => ∃ v, e = .returned (.agg #[v, .int .i64 (Pl.putC L n)]) ∧ Mem.ownN w' w.heap.size v (Pl.putO L n) ∧ Below w.heap.size w w' := by
  have HRT := hide (fun W (b : Below w.heap.size w W) => WTreeS.right_tree (some ⟨g, 0, none⟩) L.length L W hl (Mem.nodes_call hv b) hok)
  have HNR := hide (fun W => WNode.spec_any n W hn.1 hn.2)
  have HAD := hide (fun W (b : Below w.heap.size w W) (h1 : Pl.treeB L = true) (h2 : Pl.nodeB n = true) => WPutA.add_any g L n W (by have := (right_bounds h1).1; omega) (Nat.lt_of_lt_of_le hg b.size) (Mem.nodes_call hv b) (fun m hm => by have := (right_bounds h1).2 m hm; omega) (by have := Pl.pathB_le (Pl.node_right h2).1; omega))
  have HC : Hid (Pl.putC L n = if Pl.treeB L = true ∧ Pl.nodeB n = true then Pl.addC L n else 1) := rfl
  have HO : Hid (Pl.putO L n = if Pl.treeB L = true ∧ Pl.nodeB n = true then Pl.addO L n else []) := rfl
  generalize Pl.putC L n = C at HC ⊢
  generalize Pl.putO L n = O at HO ⊢
  generalize Pl.addC L n = AC at HAD HC
  generalize Pl.addO L n = AO at HAD HO
  generalize Pl.treeB L = R1 at HRT HAD HC HO
  generalize Pl.nodeB n = R2 at HNR HAD HC HO
  obtain ⟨np, nk, nd, nt, nm⟩ := n
  simp only [Pl.Nd.val] at HNR HAD ⊢
  have H0 : WPutA.At w (((w.alloc (.cells #[.slice (some ⟨g, 0, none⟩) L.length L.length] 29)).alloc (.cells #[.string np, .int .i64 nk, .string nd, .int .i64 nt, .int .i64 nm] 34)).alloc (.cells #[.slice none 0 0, .int .i64 0] 31)) g L ⟨np, nk, nd, nt, nm⟩ :=
    ⟨(((Below.refl _ _).alloc (Nat.le_refl _) _).alloc (by simp) _).alloc (by simp; omega) _, ((Mem.Blk.new _ _ _).alloc _).alloc _, (by have h := (Mem.Blk.new (w.alloc (.cells #[.slice (some ⟨g, 0, none⟩) L.length L.length] 29)) #[.string np, .int .i64 nk, .string nd, .int .i64 nt, .int .i64 nm] 34).alloc (.cells #[.slice none 0 0, .int .i64 0] 31); rwa [show (w.alloc (.cells #[.slice (some ⟨g, 0, none⟩) L.length L.length] 29)).heap.size = w.heap.size + 1 by simp] at h), Mem.new_three _ _ _ _⟩
  have HA := hide H0
  clear H0 hv hok hn
  go_enter Tryz.func83, Tryz.ntmps83
  go_wp2_with fail
  refine (unhide HRT _ (unhide HA).bel).mono ?_
  rintro e w1 ⟨rfl, b1⟩
  have A1 := hide ((unhide HA).call b1)
  clear HA HRT b1
  have c1 := (unhide A1).one.cell 0
  have p0 := (unhide A1).two.cell 0
  have p1 := (unhide A1).two.cell 1
  have p2 := (unhide A1).two.cell 2
  have p3 := (unhide A1).two.cell 3
  have p4 := (unhide A1).two.cell 4
  simp only [Pl.Nd.cs, List.getElem?_toArray, List.getElem?_cons_zero, List.getElem?_cons_succ] at c1 p0 p1 p2 p3 p4
  cases R1
  · have EC := hide (show C = 1 by rw [unhide HC, if_neg (by simp)])
    have EN := hide (show O = [] by rw [unhide HO, if_neg (by simp)])
    clear HC HO HAD HNR
    have A2 := A1
    clear A1
    go_wp2_with fail
    refine (WIll3.ill_any 1 _).mono ?_
    rintro e wI ⟨rfl, bI⟩
    have AI := hide ((unhide A2).call bI)
    clear bI A2
    have d0 := (unhide AI).three.cell 0
    have d1 := (unhide AI).three.cell 1
    have f0 := (unhide AI).three.fr 0
    have f1 := (unhide AI).three.fr 1
    simp only [List.getElem?_toArray, List.getElem?_cons_zero, List.getElem?_cons_succ] at d0 d1
    go_wp2
    refine bodyPost_ret (v := .agg #[.slice none 0 0, .int .i64 1]) (by simp [results, Tryz.results83, go_sem, d0, d1]) rfl ⟨.slice none 0 0, by rw [unhide EC], by rw [unhide EN]; exact Mem.ownN_nil _ _, ?_⟩
    exact ((unhide AI).bel.setCell (by show w.heap.size ≤ w.heap.size + 1 + 1; omega) _).setCell (by show w.heap.size ≤ w.heap.size + 1 + 1; omega) _
  · go_wp2_with fail
    refine (unhide HNR _).mono ?_
    rintro e w2 ⟨rfl, b2⟩
    have A2 := hide ((unhide A1).call b2)
    clear A1 HNR b2 c1 p0 p1 p2 p3 p4
    cases R2
    · have EC := hide (show C = 1 by rw [unhide HC, if_neg (by simp)])
      have EN := hide (show O = [] by rw [unhide HO, if_neg (by simp)])
      clear HC HO HAD
      go_wp2_with fail
      refine (WIll3.ill_any 1 _).mono ?_
      rintro e wI ⟨rfl, bI⟩
      have AI := hide ((unhide A2).call bI)
      clear bI A2
      have d0 := (unhide AI).three.cell 0
      have d1 := (unhide AI).three.cell 1
      have f0 := (unhide AI).three.fr 0
      have f1 := (unhide AI).three.fr 1
      simp only [List.getElem?_toArray, List.getElem?_cons_zero, List.getElem?_cons_succ] at d0 d1
      go_wp2
      refine bodyPost_ret (v := .agg #[.slice none 0 0, .int .i64 1]) (by simp [results, Tryz.results83, go_sem, d0, d1]) rfl ⟨.slice none 0 0, by rw [unhide EC], by rw [unhide EN]; exact Mem.ownN_nil _ _, ?_⟩
      exact ((unhide AI).bel.setCell (by show w.heap.size ≤ w.heap.size + 1 + 1; omega) _).setCell (by show w.heap.size ≤ w.heap.size + 1 + 1; omega) _
    · have EC := hide (show C = AC by rw [unhide HC, if_pos (by simp)])
      have EN := hide (show O = AO by rw [unhide HO, if_pos (by simp)])
      clear HC HO
      have c1 := (unhide A2).one.cell 0
      have p0 := (unhide A2).two.cell 0
      have p1 := (unhide A2).two.cell 1
      have p2 := (unhide A2).two.cell 2
      have p3 := (unhide A2).two.cell 3
      have p4 := (unhide A2).two.cell 4
      simp only [Pl.Nd.cs, List.getElem?_toArray, List.getElem?_cons_zero, List.getElem?_cons_succ] at c1 p0 p1 p2 p3 p4
      go_wp2_with fail
      refine (unhide HAD _ (unhide A2).bel (by first | rfl | trivial) (by first | rfl | trivial)).mono ?_
      rintro e wI ⟨v, rfl, own, bI⟩
      obtain ⟨a', cap', hvv⟩ := Mem.own_shape own
      subst hvv
      have hs5 := (unhide A2).three.lt
      have AI := hide ((unhide A2).call bI)
      have OW := hide own
      clear own bI A2 HAD c1 p0 p1 p2 p3 p4
      have d0 := (unhide AI).three.cell 0
      have d1 := (unhide AI).three.cell 1
      have f0 := (unhide AI).three.fr 0
      have f1 := (unhide AI).three.fr 1
      simp only [List.getElem?_toArray, List.getElem?_cons_zero, List.getElem?_cons_succ] at d0 d1
      go_wp2
      refine bodyPost_ret (v := .agg #[.slice a' AO.length cap', .int .i64 AC]) (by simp [results, Tryz.results83, go_sem, d0, d1]) rfl ⟨.slice a' AO.length cap', by rw [unhide EC], ?_, ?_⟩
      · rw [unhide EN]
        exact Mem.ownN_mono (Mem.ownN_set (Mem.ownN_set (unhide OW) _ _ (by show w.heap.size + 1 + 1 < _; omega)) _ _ (by show w.heap.size + 1 + 1 < _; omega)) (by omega)
      · exact ((unhide AI).bel.setCell (by show w.heap.size ≤ w.heap.size + 1 + 1; omega) _).setCell (by show w.heap.size ≤ w.heap.size + 1 + 1; omega) _
end WPutB
end Go.Proofs.YteddcihodfkliaaGreatDoor

