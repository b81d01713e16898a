/- Several texts of one claim in one file: WIntR, WLayOf. -/
import Derived.Test.YtkfpfckmjgjanabDoorG07
import Derived.Test.YtkfpfckmjgjanabDoorG17
import Derived.Test.YtkfpfckmjgjanabDoorG04
import Derived.Test.YtkfpfckmjgjanabDoorProg
import Derived.WalkKit
import Derived.WalkSpells
import Derived.Deep.QuietTactic
import Derived.BigQuiet
import Derived.Test.YtkfpfckmjgjanabDoorWAtO
import Derived.Test.YtkfpfckmjgjanabDoorPlainSeen
import Derived.Test.YtkfpfckmjgjanabDoorG09
import Derived.Deep.Cut
/- Rows of numbers in memory. -/
namespace Go.Proofs.YtkfpfckmjgjanabDoor
open Go.RowKit
namespace WIntL
def valsI (ks : List Nat) : List Value := ks.map (fun k : Nat => Value.int .i64 (k : Int))
def isInts (w : World) (v : Value) (ks : List Nat) : Prop :=
  (v = .slice none 0 0 ∧ ks = []) ∨ ∃ b cap, v = .slice (some ⟨b, 0, none⟩) ks.length cap ∧ b < w.heap.size ∧ ∀ (j k : Nat), ks[j]? = some k → w.cell? ⟨b, j, none⟩ = some (.int .i64 (k : Int))
theorem ints_shape {w : World} {v : Value} {ks : List Nat} (h : isInts w v ks) : ∃ a cap, v = .slice a ks.length cap := by
  rcases h with ⟨rfl, rfl⟩ | ⟨b, cap, rfl, -⟩
  · exact ⟨_, _, rfl⟩
  · exact ⟨_, _, rfl⟩
theorem ints_call {w w' : World} {v : Value} {ks : List Nat} (h : isInts w v ks) (hb : Below w.heap.size w w') : isInts w' v ks := by
  rcases h with h | ⟨b, cap, rfl, hlt, hc⟩
  · exact .inl h
  · exact .inr ⟨b, cap, rfl, Nat.lt_of_lt_of_le hlt hb.size, fun j t ht => (hb.cell (p := ⟨b, j, none⟩) hlt).trans (hc j t ht)⟩
/-- A row of numbers of the call's own. -/
def Own (w : World) (B : Nat) (v : Value) (ks : List Nat) : Prop := w.ownsRow B 2 1 v ks.length (valsI ks)
theorem Own.call {w w' : World} {B : Nat} {v : Value} {K : List Nat} (h : Own w B v K) (b : Below w.heap.size w w') : Own w' B v K := Mem.own_call h b
theorem Own.lt {w : World} {B : Nat} {v : Value} {K : List Nat} (h : Own w B v K) : ∀ g, v.ownBlock = some g → B ≤ g ∧ g < w.heap.size := fun g hg => World.ownsRow.lt h g hg
theorem Own.ints {w : World} {B : Nat} {v : Value} {ks : List Nat} (h : Own w B v ks) : isInts w v ks := by
  rcases h.2 with ⟨h1, h0⟩ | ⟨g, cap, cur, rfl, hb, hg, -⟩
  · exact .inl ⟨h1, List.eq_nil_of_length_eq_zero h0⟩
  · refine .inr ⟨g, cap, rfl, (Array.getElem?_eq_some_iff.1 hg).1, fun j k hk => ?_⟩
    have := World.ownsRow.cells h (g := g) rfl j (.int .i64 (k : Int)) (by simp [valsI, hk])
    rw [Mem.add_lit] at this
    exact this
theorem Own.nil (w : World) (B : Nat) : Own w B (.slice none 0 0) [] := ⟨rfl, .inl ⟨rfl, rfl⟩⟩
theorem Own.snoc {w : World} {B : Nat} {v : Value} {ks : List Nat} {k : Nat} (h : w.ownsRow B 2 1 v (ks.length + 1) (valsI ks ++ [.int .i64 (k : Int)])) : Own w B v (ks ++ [k]) := by
  unfold Own valsI
  rw [List.map_append, List.length_append]
  exact h
theorem infoL : (Tryd.prog.info? 2).map (fun i => (i.zero, i.size, i.bytes)) = some (some (.int .i64 0), 1, 8) := by kernel_rfl
end WIntL
end Go.Proofs.YtkfpfckmjgjanabDoor

/- The program's LayersOf. -/
namespace Go.Proofs.YtkfpfckmjgjanabDoor
open Go.RowKit
namespace Pl
/-- Who has a part in a path. -/
def layO (Ls : List (List Nd)) (p : ByteArray) : List Nat := if layB Ls = true ∧ pathB p = true then (List.range Ls.length).filter (fun i => (seenS Ls p).have'.getD i false) else []
theorem layO_no {Ls : List (List Nd)} {p : ByteArray} (h : layB Ls = false ∨ pathB p = false) : layO Ls p = [] := by
  rw [layO, if_neg (fun h2 => by rcases h with h | h; (· rw [h] at h2; cases h2.1); (· rw [h] at h2; cases h2.2))]
theorem layO_yes {Ls : List (List Nd)} {p : ByteArray} (h : layB Ls = true) (h2 : pathB p = true) : layO Ls p = (List.range Ls.length).filter (fun i => (seenS Ls p).have'.getD i false) := by rw [layO, if_pos ⟨h, h2⟩]
theorem filter_succ (f : Nat → Bool) (k : Nat) : (List.range (k + 1)).filter f = if f k = true then (List.range k).filter f ++ [k] else (List.range k).filter f := by
  rw [List.range_succ, List.filter_append]
  by_cases h : f k = true
  · rw [if_pos h, List.filter_cons_of_pos h]; rfl
  · rw [if_neg h, List.filter_cons_of_neg h]; simp
theorem filter_len (f : Nat → Bool) (k : Nat) : ((List.range k).filter f).length ≤ k := by
  have := List.length_filter_le f (List.range k)
  rw [List.length_range] at this
  exact this
end Pl
namespace WIntL
structure AtL (w W : World) (X : Nat) (v : Value) (ks : List Nat) (cs : Array Value) : Prop where
  bel : Below w.heap.size w W
  lt : w.heap.size ≤ X
  own : Own W (X + 1) v ks
  blk : Mem.Blk W X cs 95
theorem AtL.call {w W W' : World} {X : Nat} {v : Value} {ks : List Nat} {cs : Array Value} (h : AtL w W X v ks cs) (b : Below W.heap.size W W') : AtL w W' X v ks cs :=
  ⟨h.bel.trans (b.mono h.bel.size), h.lt, h.own.call b, h.blk.call b⟩
theorem AtL.more {w W W' : World} {X : Nat} {v v' : Value} {ks : List Nat} {k : Nat} {cs : Array Value} (h : AtL w W X v ks cs) (own : W'.ownsRow (X + 1) 2 1 v' (ks.length + 1) (valsI ks ++ [.int .i64 (k : Int)])) (g : W.grownBy W' v.ownBlock) : AtL w W' X v' (ks ++ [k]) cs := by
  have hlt : ∀ q, v.ownBlock = some q → X + 1 ≤ q := fun q hq => (World.ownsRow.lt h.own q hq).1
  exact ⟨h.bel.grown g h.bel.size (fun q hq => by have := hlt q hq; have := h.lt; omega), h.lt, Own.snoc own, h.blk.grown g (fun e => by have := hlt _ e.symm; omega)⟩
set_option linter.unusedSimpArgs false in
set_option maxRecDepth 100000 in
set_option maxHeartbeats 2000000 in
theorem impl_any (a : Option Addr) (cap : Nat) (Ts : List Pl.Tr) (p : ByteArray) (w : World) (hl : Ts.length ≤ 1048576) (hv : Mem.isTrees w a Ts) (hok : ∀ t ∈ Ts, t.L.length ≤ 1048576 ∧ ∀ n ∈ t.L, n.path.size ≤ 1048576 ∧ n.data.size ≤ 1048576) (hp : p.size ≤ 1048576)
    (r1 r2 r3 : TypeId) (x1 x2 x3 : Value) (hE : WNodesI.Errs w r1 r2 r3 x1 x2 x3) :
    Calls Tryd.prog 27 #[.agg #[.slice a Ts.length cap], .string p] w fun e w' => ∃ v, e = .returned v ∧ Own w' w.heap.size v (Pl.layO (Ts.map (·.L)) p) ∧ Below w.heap.size w w' := by
  obtain ⟨i0, hi, hz0, hz1, hz2⟩ := info_parts infoL
  have b0 : Below w.heap.size w (w.alloc (.cells #[.slice a Ts.length cap] 29)) := (Below.refl _ _).alloc (Nat.le_refl _) _
  have HOV := hide (fun W (b : Below w.heap.size w W) => WOverI.over_any a cap Ts W hl (Mem.trees_call hv b) hok r1 r2 r3 x1 x2 x3 (hE.call b))
  have HPR := hide (fun W => WPathI.right_any p W hp)
  have HLT := hide (fun h => Pl.lay_ok (Ls := Ts.map (·.L)) h)
  generalize Ts.map (·.L) = Ls at HOV HLT ⊢
  clear hv hok hE
  go_enter Tryd.func27, Tryd.ntmps27
  go_wp2_with fail
  refine (unhide HOV _ b0).mono ?_
  rintro e w1 ⟨h1, b1⟩
  have bw1 := b0.trans (b1.mono b0.size)
  clear b0 HOV
  rcases h1 with ⟨hL, v, Bs, rfl, hov⟩ | ⟨hL, rfl⟩
  rotate_left
  · have E := hide (Pl.layO_no (p := p) (.inl hL))
    clear b1 HLT HPR hL
    go_wp2
    go_ret
    exact ⟨_, rfl, by rw [unhide E]; exact Own.nil _ _, bw1⟩
  have HO1 := hide hov
  obtain ⟨a1, cap1, rfl⟩ := WSight.ov_shape hov
  clear b1 hov
  go_wp2_with fail
  refine (unhide HPR _).mono ?_
  rintro e w2 ⟨rfl, b2⟩
  have bw2 := bw1.trans (b2.mono bw1.size)
  have HO2 := hide ((unhide HO1).call b2)
  clear HPR HO1 bw1 b2
  cases hq : Pl.pathB p
  · have E := hide (Pl.layO_no (Ls := Ls) (.inr hq))
    clear HLT HO2 hL hq
    go_wp2
    go_ret
    exact ⟨_, rfl, by rw [unhide E]; exact Own.nil _ _, bw2⟩
  obtain ⟨h4, htr⟩ := unhide HLT hL
  have hs := hide (WSight.seen_any _ _ Bs Ls p _ (unhide HO2) h4 htr hp)
  have HL : Hid ((Pl.seenS Ls p).have'.length = 4) := Pl.walk_len Ls Ls.length _
  have E := hide (Pl.layO_yes hL hq)
  generalize Pl.seenS Ls p = S at hs HL E
  obtain ⟨tt, ⟨sp, sk, sd, st, sm⟩, sh⟩ := S
  obtain ⟨e0, e1, e2, e3, rfl⟩ : ∃ h0 h1 h2 h3, sh = [h0, h1, h2, h3] := by
    match sh, unhide HL with
    | [a, b, c, d], _ => exact ⟨a, b, c, d, rfl⟩
  rw [show (Pl.Sg.cs ⟨tt, ⟨sp, sk, sd, st, sm⟩, [e0, e1, e2, e3]⟩).toArray = #[.bool tt, .string sp, .int .i64 sk, .string sd, .int .i64 st, .int .i64 sm, .bool e0, .bool e1, .bool e2, .bool e3] from rfl] at hs
  simp only at E
  have HF : Hid (∀ k : Nat, k < 4 → (#[.bool tt, .string sp, .int .i64 sk, .string sd, .int .i64 st, .int .i64 sm, .bool e0, .bool e1, .bool e2, .bool e3] : Array Value)[6 + k]? = some (.bool ([e0, e1, e2, e3].getD k false))) := fun k hk => by
    obtain rfl | rfl | rfl | rfl : k = 0 ∨ k = 1 ∨ k = 2 ∨ k = 3 := by omega
    all_goals rfl
  obtain ⟨f, hf⟩ : ∃ f : Nat → Bool, f = fun i => [e0, e1, e2, e3].getD i false := ⟨_, rfl⟩
  rw [← hf] at E
  have HFF : Hid (∀ k : Nat, k < 4 → (#[.bool tt, .string sp, .int .i64 sk, .string sd, .int .i64 st, .int .i64 sm, .bool e0, .bool e1, .bool e2, .bool e3] : Array Value)[6 + k]? = some (.bool (f k))) := fun k hk => by rw [unhide HF k hk, hf]
  clear HF hf
  clear HL HLT hL hq HO2 htr
  go_wp2_with fail
  refine (unhide hs).mono ?_
  rintro e w3 ⟨rfl, b3⟩
  have bw3 := bw2.trans (b3.mono bw2.size)
  clear hs b3 bw2
  have A0 : Hid (AtL w ((w3.alloc (.cells #[.bool tt, .string sp, .int .i64 sk, .string sd, .int .i64 st, .int .i64 sm, .bool e0, .bool e1, .bool e2, .bool e3] 95)).alloc (.cells #[] 2)) w3.heap.size (.slice (some ⟨w3.heap.size + 1, 0, none⟩) 0 0) ((List.range 0).filter f) #[.bool tt, .string sp, .int .i64 sk, .string sd, .int .i64 st, .int .i64 sm, .bool e0, .bool e1, .bool e2, .bool e3]) := by
    refine ⟨(bw3.alloc bw3.size _).alloc (by have := bw3.size; simp; omega) _, bw3.size, ⟨rfl, .inr ⟨w3.heap.size + 1, 0, #[], rfl, Nat.le_refl _, ?_, Nat.le_refl _, Nat.zero_le _, rfl, rfl⟩⟩, (Mem.Blk.new _ _ _).alloc _⟩
    exact Mem.new_two _ _ _
  clear bw3
  go_wp2
  generalize (w3.alloc (.cells #[.bool tt, .string sp, .int .i64 sk, .string sd, .int .i64 st, .int .i64 sm, .bool e0, .bool e1, .bool e2, .bool e3] 95)).alloc (.cells #[] 2) = W0 at A0 ⊢
  generalize w3.heap.size = X at A0 ⊢
  generalize (#[.bool tt, .string sp, .int .i64 sk, .string sd, .int .i64 st, .int .i64 sm, .bool e0, .bool e1, .bool e2, .bool e3] : Array Value) = cs at A0 HFF
  go_loopw [8, 28] (fun v i wr => ∃ k : Nat, k ≤ Ls.length ∧ i = .int .i64 (k : Int) ∧ Hid (AtL w wr X v ((List.range k).filter f) cs)) (fun _ i _ => Ls.length - (intOf i).toNat)
  case atStart => exact ⟨0, Nat.zero_le _, rfl, A0⟩
  case round =>
    obtain ⟨k, hk, rfl, HA⟩ := hrel
    clear A0
    by_cases hlt : k < Ls.length
    · have y1 : (k : Int) < (Ls.length : Int) := by omega
      have y2 : (0 : Int) ≤ (k : Int) := by omega
      have y3 : (k : Int) < 4 := by omega
      have c0 := (unhide HA).blk.cell (6 + k)
      rw [unhide HFF k (by omega)] at c0
      have HN := hide (Pl.filter_succ f k)
      have HLN := hide (Pl.filter_len f k)
      cases hf : f k
      · rw [hf] at c0 HN
        have HA2 : Hid (AtL w wr X u8 ((List.range (k + 1)).filter f) cs) := by
          have h := unhide HN
          rw [if_neg (by decide)] at h
          rw [h]
          exact unhide HA
        clear HA HN HLN hf
        go_wp2
        go_roundw
        case rel => exact ⟨k + 1, by omega, by go_num, HA2⟩
        case measure => simp [intOf]; omega
      · rw [hf] at c0 HN
        have HR := hide ((unhide HA).call ((Below.refl _ _).alloc (Nat.le_refl _) (.cells #[.int .i64 (k : Int)] 2)))
        have hxl := (unhide HA).blk.lt
        generalize hks : (List.range k).filter f = ks at HR HLN HN
        have HN2 : Hid ((List.range (k + 1)).filter f = ks ++ [k]) := by
          have h := unhide HN
          rw [if_pos rfl] at h
          exact h
        clear HA HN hf hks
        go_wp2_with (at_builtin; refine wpList_append_own _ rfl _ _ 56 rfl (X + 1) 2 i0 (.int .i64 0) 1 8 Tryd.underlying56 hi hz0 hz1 hz2 rfl (by decide) _ _ _ rfl (unhide HR).own ⟨wr.heap.size, 0, none⟩ 1 1 [.int .i64 (k : Int)] rfl rfl (Mem.one_new _ _ _) (fun u hu => by simp at hu; subst hu; rfl) (by have h := unhide HLN; unfold maxLen; omega) (by have h := unhide HLN; omega) (by simp; omega) ?_)
        intro v' w2 own' hgrow _
        have A2 : Hid (AtL w w2 X v' ((List.range (k + 1)).filter f) cs) := by
          rw [unhide HN2]
          exact (unhide HR).more own' hgrow
        clear HR own' hgrow HLN HN2 hxl
        go_wp2
        go_roundw
        case rel => exact ⟨k + 1, by omega, by go_num, A2⟩
        case measure => simp [intOf]; omega
    · obtain rfl : k = Ls.length := by omega
      have y1 : ¬ ((Ls.length : Int) < (Ls.length : Int)) := by omega
      go_wp2
      go_ret
      exact ⟨_, rfl, by rw [unhide E]; exact Mem.own_mono (unhide HA).own (by have := (unhide HA).lt; omega), (unhide HA).bel⟩
end WIntL
end Go.Proofs.YtkfpfckmjgjanabDoor

