/- Several texts of one claim in one file: WSpI5, WSpI6, MemApp2, MemNest. -/
import Derived.Test.YtlgbdbmikmbioaaDoorG22
import Derived.Test.YtlgbdbmikmbioaaDoorG13
import Derived.Test.YtlgbdbmikmbioaaDoorG15
import Derived.Maps.RangeWalk
import Derived.Test.YtlgbdbmikmbioaaDoorG14
import Derived.Test.YtlgbdbmikmbioaaDoorWLawSz
import Derived.Test.YtlgbdbmikmbioaaDoorG07
import Derived.Test.YtlgbdbmikmbioaaDoorG04
/- The program's nothingUnused: a range over a map of nests. -/
namespace Go.Proofs.YtlgbdbmikmbioaaDoor
open Go.RowKit Go.Maps
namespace MapI
theorem same_self (d : Int) : (key d).sameKey (key d) = true := by simp [key, Lit.sameKey]
theorem same_ne {a b : Int} (h : a ≠ b) : (key a).sameKey (key b) = false := by simp [key, Lit.sameKey, h]
theorem ent_in {C : List (Int × Value)} {p : Int} {c : DataW Value} (h : ∀ z, (mapOf C).atKey (key p) z = c) : p ∈ C.map (·.1) := by
  by_cases hp : p ∈ C.map (·.1)
  · exact hp
  · exfalso
    have h1 := (h (dat (.int .i64 0))).trans (h (dat (.int .i64 1))).symm
    rw [at_no hp, at_no hp] at h1
    have h2 := dat_inj h1
    simp at h2
theorem ranges_blk {w : World} {B r n : Nat} {D : DataW Value} {left : Lit → Bool} {cnt : Nat} (h : w.ranges Tryd.prog 2 elem B r n D left cnt) {g : Nat} {cs : Array Value} {T : TypeId} (hg : w.heap[g]? = some (.cells cs T (0, 0))) : g ≠ r ∧ g ≠ B := by
  obtain ⟨es, clock, since, seen, c0, h1, _, _, _, h2, _⟩ := h
  refine ⟨fun e => ?_, fun e => ?_⟩
  · subst e; rw [hg] at h2; cases h2
  · subst e; rw [hg] at h1; cases h1
end MapI
namespace WSpI
set_option linter.unusedSimpArgs false in
set_option maxRecDepth 100000 in
set_option maxHeartbeats 4000000 in
theorem unused_any (q : Nat) (E : List (Int × Pl.Nv)) (n : Nat) (ma : Option Addr) (mc : Nat) (M : List Pl.Mn) (ha : Option Addr) (hc : Nat) (H : List Pl.Hn) (next : Int) (w : World) (hml : M.length ≤ 1048576) (hhl : H.length ≤ 1048576) (hm : Mem.isMounts w ma M) (hh : Mem.isHands w ha H)
    (hE : E.Pairwise (fun a b => a.1 ≠ b.1)) (hown : w.ownsMap Tryd.prog 2 MapI.elem q n (MapI.mapOf (Pl.vals E))) :
    Calls Tryd.prog 44 #[.agg #[.map (some q), .slice ma M.length mc, .slice ha H.length hc, .int .i64 next]] w fun e w' => e = .returned (.bool (Pl.unusedP (E.map (·.1)) M H)) ∧ Below w.heap.size w w' := by
  have HH := hide (fun W (b : Below w.heap.size w W) d => held_any q ma mc M ha hc H next d W hml hhl (Mem.mounts_call hm b) (Mem.hands_call hh b))
  have HM := hide (MapI.map_call hown ((Below.refl w.heap.size w).alloc (o := .cells #[.map (some q), .slice ma M.length mc, .slice ha H.length hc, .int .i64 next] 48) (Nat.le_refl _)))
  have b0 := (Below.refl w.heap.size w).alloc (o := .cells #[.map (some q), .slice ma M.length mc, .slice ha H.length hc, .int .i64 next] 48) (Nat.le_refl _)
  have V0 := hide (Mem.Blk.new w #[.map (some q), .slice ma M.length mc, .slice ha H.length hc, .int .i64 next] 48)
  have a0 := (unhide V0).cell 0
  simp only [kA0, kA1, kA2] at a0
  have HID : Hid ((Pl.vals E).map (·.1) = E.map (·.1)) := hide (Pl.vals_ids E)
  have HENT := hide (fun (p : Int) (c : DataW Value) (h : ∀ z, (MapI.mapOf (Pl.vals E)).atKey (MapI.key p) z = c) => MapI.ent_in h)
  rw [unhide HID] at HENT
  clear HID
  have HHAS : Hid (∀ d ∈ E.map (·.1), Maps.has (MapI.mapOf (Pl.vals E)) (MapI.key d) = true) := hide (fun d hd => by rw [(Pl.look_vals hE d).1]; exact decide_eq_true hd)
  generalize MapI.mapOf (Pl.vals E) = D at HM HENT HHAS
  generalize E.map (·.1) = ids at HENT HHAS ⊢
  have HU : Hid (Pl.unusedP ids M H = ids.all (fun d => !decide (Pl.held M H d = 0))) := rfl
  generalize Pl.unusedP ids M H = RB at HU ⊢
  clear hown hm hh hE
  have e1 : (w.alloc (.cells #[.map (some q), .slice ma M.length mc, .slice ha H.length hc, .int .i64 next] 48)).heap.size = w.heap.size + 1 := by simp
  go_enter Tryd.func44, Tryd.ntmps44
  go_wp2_with (first
    | (at_range; refine wpList_range_own _ rfl _ 46 rfl 2 96 MapI.law Tryd.underlying46 _ q n _ rfl (unhide HM) ?_; intro w0 hrg0 hg0 hs0)
    | go_in)
  go_frame
  rw [e1] at hrg0 hs0 ⊢
  have V1 := hide ((unhide V0).grown hg0 (by simp))
  have B1 := hide (b0.grown hg0 b0.size (fun j hj => by cases hj))
  clear hg0 hs0 e1 V0 b0 HM a0
  go_loopw [2] (fun v wr => ∃ (left : Lit → Bool) (cnt : Nat), wr.ranges Tryd.prog 2 MapI.elem q (w.heap.size + 1) n D left cnt ∧ Hid (∀ d ∈ ids, left (MapI.key d) = false → Pl.held M H d ≠ 0) ∧ Hid (Mem.Blk wr w.heap.size #[.map (some q), .slice ma M.length mc, .slice ha H.length hc, .int .i64 next] 48) ∧ Hid (Below w.heap.size w wr))
    (fun _ wr => wr.rangeLeft q (w.heap.size + 1))
  case atStart => exact ⟨_, _, hrg0, fun d hd h => (by rw [unhide HHAS d hd] at h; cases h), V1, B1⟩
  case round =>
    obtain ⟨left, cnt, hrg, HGT, V, HB⟩ := hrel
    clear hrg0 V1 B1 HHAS
    go_wp2_with (first
      | (at_next; refine wpList_next_ranges _ rfl _ rfl 2 MapI.law MapI.elem (Value.int .i64) (fun v : Value => v) (fun key kl hk => by obtain ⟨x, hx, _⟩ := Maps.keyOf_int_inv Tryd.underlying2 hk; exact ⟨x, hx⟩) (fun v y hv => ⟨v, rfl⟩) q (w.heap.size + 1) n _ _ _ rfl hrg ?_ ?_)
      | go_in)
    · intro hc0 hl0
      have HE : Hid (RB = true) := hide (by
        rw [unhide HU, List.all_eq_true]
        intro d hd
        simpa using unhide HGT d hd (hl0 _))
      have bb := unhide HB
      clear HGT hrg hc0 hl0 HENT HB
      go_wp2
      go_ret
      exact ⟨by rw [unhide HE]; rfl, bb⟩
    · intro x c kl yd yp w1 cnt1 hkey hlk hR hat hrg1 hlt hg1 hs1 hen
      have ek : kl = MapI.key x := by obtain ⟨x', hx, hk, _⟩ := Maps.keyOf_int_inv Tryd.underlying2 hkey; cases hx; exact hk
      subst ek
      have hin := unhide HENT x yd hat
      have hne := MapI.ranges_blk hrg (unhide V)
      have V1 := (unhide V).grown hg1 (fun e => hne.1 (Option.some.inj e))
      have B1 := (unhide HB).grown hg1 (unhide HB).size (fun j hj => by have := Option.some.inj hj; omega)
      have HC := hide (unhide HH _ B1 x)
      have a0 := V1.cell 0
      have a1 := V1.cell 1
      have a2 := V1.cell 2
      have a3 := V1.cell 3
      simp only [kA0, kA1, kA2] at a0 a1 a2 a3
      have HRG1 := hide hrg1
      have HLE := hide (hrg.left_eq)
      have HIN := hide hin
      have V2 := hide V1
      clear hat hR hkey hlk hg1 hs1 hrg1 hrg V V1 hin hne HB
      go_wp2_with fail
      refine (unhide HC).mono ?_
      rintro e w6 ⟨rfl, bX⟩
      have b6 := B1.trans (bX.mono B1.size)
      have V6 := hide ((unhide V2).call bX)
      have HR6 := hide ((unhide HRG1).kept (Mem.grown_of_below bX none) (by simp) (by simp))
      clear HC V2 bX B1 a0 a1 a2 a3 HRG1 hen
      by_cases h0 : Pl.held M H x = 0
      · have h1 : (Pl.held M H x == 0) = true := by simpa using h0
        have HE : Hid (RB = false) := hide (by
          rw [unhide HU, List.all_eq_false]
          exact ⟨x, unhide HIN, by simp [h0]⟩)
        generalize Pl.held M H x = hx at h1 ⊢
        clear h0
        go_wp2
        go_ret
        exact ⟨by rw [unhide HE]; rfl, b6⟩
      · have h1 : (Pl.held M H x == 0) = false := by simpa using h0
        have HG2 : Hid (∀ d ∈ ids, (left (MapI.key d) && !(MapI.key d).sameKey (MapI.key x)) = false → Pl.held M H d ≠ 0) := fun d hd h => by
          by_cases e : d = x
          · subst e; exact h0
          · rw [MapI.same_ne e] at h
            exact unhide HGT d hd (by simpa using h)
        generalize Pl.held M H x = hx at h1 ⊢
        clear h0 HGT
        go_wp2
        go_roundw
        case rel => exact ⟨_, cnt1, unhide HR6, HG2, V6, hide b6⟩
        case measure => rw [(unhide HR6).left_eq, unhide HLE]; exact hlt
end WSpI
end Go.Proofs.YtlgbdbmikmbioaaDoor

/- slices.Clone over mounts, and over handles (by genSpI6.py). -/
namespace Go.Proofs.YtlgbdbmikmbioaaDoor
open Go.RowKit
namespace WSpI
theorem infoMn : (Tryd.prog.info? 68).map (fun i => (i.zero, i.size, i.bytes)) = some (some (.agg #[.string ⟨#[]⟩, .int .i64 0, .bool false]), 3, 32) := by kernel_rfl
set_option linter.unusedSimpArgs false in
set_option maxRecDepth 100000 in
set_option maxHeartbeats 1000000 in
theorem cloneMn_any (a : Option Addr) (cap : Nat) (M : List Pl.Mn) (w : World) (hl : M.length ≤ 1000) (hA : (a = none ∧ cap = 0 ∧ M = []) ∨ ∃ g o, a = some ⟨g, o, none⟩) (hv : Mem.isMounts w a M) :
    Calls Tryd.prog 40 #[.slice a M.length cap] w fun e w' => (∃ v, e = .returned v ∧ Mem.own3 68 Pl.Mn.cs w' w.heap.size v M) ∧ Below w.heap.size w w' := by
  obtain ⟨i0, hi, hz0, hz1, hz2⟩ := info_parts infoMn
  rcases hA with ⟨rfl, rfl, rfl⟩ | ⟨g, o, rfl⟩
  · have heq : (binOp BinOp.eql 30 (.slice none 0 0) (.slice none 0 0)).run Tryd.prog w = .ok (.bool true) w := by kernel_rfl
    have O := hide (Mem.own3_nil 68 Pl.Mn.cs w w.heap.size)
    go_enter Tryd.func40, Tryd.ntmps40
    go_wp2
    go_ret
    exact ⟨⟨_, rfl, unhide O⟩, Below.refl _ _⟩
  · have heq : (binOp BinOp.eql 30 (.slice (some ⟨g, o, none⟩) M.length cap) (.slice none 0 0)).run Tryd.prog w = .ok (.bool false) w := by kernel_rfl
    have b2 : Below w.heap.size w (w.alloc (.cells #[] 68)) := (Below.refl _ _).alloc (Nat.le_refl _) _
    have OA : Hid (Mem.own3 68 Pl.Mn.cs (w.alloc (.cells #[] 68)) w.heap.size (.slice (some ⟨w.heap.size, 0, none⟩) 0 0) []) :=
      ⟨rfl, .inr ⟨w.heap.size, 0, #[], rfl, Nat.le_refl _, heap_alloc_new _ _, Nat.le_refl _, Nat.zero_le _, rfl, rfl⟩⟩
    have NV := hide (Mem.row_of_mounts (Mem.mounts_call hv b2))
    go_enter Tryd.func40, Tryd.ntmps40
    go_wp2_with (at_builtin; refine wpList_append_own _ rfl _ _ 30 rfl w.heap.size 68 i0 _ 3 32 Tryd.underlying30 hi hz0 hz1 hz2 rfl (by decide) _ _ _ rfl (unhide OA) ⟨g, o, none⟩ M.length cap (Pl.cells3 Pl.Mn.cs M) rfl (by rw [Pl.cells3_len Pl.Mn.three]) (Mem.cells3_at Pl.Mn.three (unhide NV)) (Mem.cs3_one Mem.mn_one M) (by rw [List.length_nil, Nat.zero_add]; unfold maxLen; omega) (by rw [List.length_nil, Nat.zero_add]; omega) (by simp) ?_)
    intro v1 wA ownA growA _
    have OB : Hid (Mem.own3 68 Pl.Mn.cs wA w.heap.size v1 M) := hide (show wA.ownsRow _ _ 3 v1 M.length (Pl.cells3 Pl.Mn.cs M) from ownA)
    have b3 := b2.grown growA b2.size (fun q hq => by have h : w.heap.size = q := Option.some.inj hq; omega)
    clear ownA growA OA NV hv
    go_wp2
    go_ret
    exact ⟨⟨_, rfl, unhide OB⟩, b3⟩
theorem infoHn : (Tryd.prog.info? 65).map (fun i => (i.zero, i.size, i.bytes)) = some (some (.agg #[.int .i64 0, .int .i64 0, .string ⟨#[]⟩]), 3, 32) := by kernel_rfl
set_option linter.unusedSimpArgs false in
set_option maxRecDepth 100000 in
set_option maxHeartbeats 1000000 in
theorem cloneHn_any (a : Option Addr) (cap : Nat) (M : List Pl.Hn) (w : World) (hl : M.length ≤ 1000) (hA : (a = none ∧ cap = 0 ∧ M = []) ∨ ∃ g o, a = some ⟨g, o, none⟩) (hv : Mem.isHands w a M) :
    Calls Tryd.prog 41 #[.slice a M.length cap] w fun e w' => (∃ v, e = .returned v ∧ Mem.own3 65 Pl.Hn.cs w' w.heap.size v M) ∧ Below w.heap.size w w' := by
  obtain ⟨i0, hi, hz0, hz1, hz2⟩ := info_parts infoHn
  rcases hA with ⟨rfl, rfl, rfl⟩ | ⟨g, o, rfl⟩
  · have heq : (binOp BinOp.eql 31 (.slice none 0 0) (.slice none 0 0)).run Tryd.prog w = .ok (.bool true) w := by kernel_rfl
    have O := hide (Mem.own3_nil 65 Pl.Hn.cs w w.heap.size)
    go_enter Tryd.func41, Tryd.ntmps41
    go_wp2
    go_ret
    exact ⟨⟨_, rfl, unhide O⟩, Below.refl _ _⟩
  · have heq : (binOp BinOp.eql 31 (.slice (some ⟨g, o, none⟩) M.length cap) (.slice none 0 0)).run Tryd.prog w = .ok (.bool false) w := by kernel_rfl
    have b2 : Below w.heap.size w (w.alloc (.cells #[] 65)) := (Below.refl _ _).alloc (Nat.le_refl _) _
    have OA : Hid (Mem.own3 65 Pl.Hn.cs (w.alloc (.cells #[] 65)) w.heap.size (.slice (some ⟨w.heap.size, 0, none⟩) 0 0) []) :=
      ⟨rfl, .inr ⟨w.heap.size, 0, #[], rfl, Nat.le_refl _, heap_alloc_new _ _, Nat.le_refl _, Nat.zero_le _, rfl, rfl⟩⟩
    have NV := hide (Mem.row_of_hands (Mem.hands_call hv b2))
    go_enter Tryd.func41, Tryd.ntmps41
    go_wp2_with (at_builtin; refine wpList_append_own _ rfl _ _ 31 rfl w.heap.size 65 i0 _ 3 32 Tryd.underlying31 hi hz0 hz1 hz2 rfl (by decide) _ _ _ rfl (unhide OA) ⟨g, o, none⟩ M.length cap (Pl.cells3 Pl.Hn.cs M) rfl (by rw [Pl.cells3_len Pl.Hn.three]) (Mem.cells3_at Pl.Hn.three (unhide NV)) (Mem.cs3_one Mem.hn_one M) (by rw [List.length_nil, Nat.zero_add]; unfold maxLen; omega) (by rw [List.length_nil, Nat.zero_add]; omega) (by simp) ?_)
    intro v1 wA ownA growA _
    have OB : Hid (Mem.own3 65 Pl.Hn.cs wA w.heap.size v1 M) := hide (show wA.ownsRow _ _ 3 v1 M.length (Pl.cells3 Pl.Hn.cs M) from ownA)
    have b3 := b2.grown growA b2.size (fun q hq => by have h : w.heap.size = q := Option.some.inj hq; omega)
    clear ownA growA OA NV hv
    go_wp2
    go_ret
    exact ⟨⟨_, rfl, unhide OB⟩, b3⟩
end WSpI
end Go.Proofs.YtlgbdbmikmbioaaDoor

/- An append to a row of the call's own: it stays in its block, or lies in a new one. -/
namespace Go.Proofs.YtlgbdbmikmbioaaDoor
open Go.RowKit
namespace Mem
theorem run_append_far {P : Program} (w : World) (base : Nat) (t ty e : TypeId) (i : TypeInfo) (z : Value) (size bytes : Nat) (ht : P.underlying t = some (.slice e)) (hi : P.info? e = some i) (hz : i.zero = some z)
    (hsize : i.size = size) (hby : i.bytes = bytes) (hzs : z.cells.size = size) (hsz : 0 < size)
    (v : Value) (n : Nat) (xs : List Value) (hown : w.ownsRow base e size v n xs)
    (a : Addr) (m c : Nat) (news : List Value) (hl : news.length = m * size) (hnews : ∀ j u, news[j]? = some u → w.cell? (a.add j) = some u) (h1 : ∀ u ∈ news, u.oneCell' = true)
    (h63 : n + m ≤ maxLen) (hbytes : (n + m) * bytes ≤ 140737488355328) (hbase : base ≤ w.heap.size) :
    ∃ v' w', (Builtin.append_ #[t, t] ty #[v, .slice (some a) m c]).run P w = .ok v' w' ∧ w'.ownsRow base e size v' (n + m) (xs ++ news) ∧ w.grownBy w' v.ownBlock ∧ ∀ g, v'.ownBlock = some g → v.ownBlock = some g ∨ w.heap.size ≤ g := by
  obtain ⟨v', w', hr, h2, h3, -⟩ := run_append_own (P := P) w base t ty e i z size bytes ht hi hz hsize hby hzs hsz v n xs hown a m c news hl hnews h1 h63 hbytes hbase
  refine ⟨v', w', hr, h2, h3, ?_⟩
  rcases hown.2 with ⟨rfl, rfl⟩ | ⟨g, cap, cur, rfl, hbg, hg, hnc, hcm, hcs, htake⟩
  · have hx : xs = [] := List.eq_nil_of_length_eq_zero (by simpa using hown.1)
    subst hx
    obtain ⟨v2, w2, hr2, k2, -, -⟩ := run_append_own (P := P) w w.heap.size t ty e i z size bytes ht hi hz hsize hby hzs hsz _ 0 [] (World.ownsRow_nil w w.heap.size e size) a m c news hl hnews h1 h63 hbytes (Nat.le_refl _)
    rw [hr] at hr2
    cases hr2
    exact fun g hg => .inr (k2.lt g hg).1
  · subst hsize hby
    by_cases hroom : n + m ≤ cap
    · have hfit : n * i.size + news.length ≤ cur.size := by rw [hl, hcs, ← Nat.add_mul]; exact Nat.mul_le_mul_right _ hroom
      rw [run_append_room (P := P) w t ty e i ht hi g n cap cur hg a m c news hl hnews h1 hroom hfit] at hr
      cases hr
      exact fun g hg => .inl hg
    · have holds : ∀ j u, xs[j]? = some u → w.cell? ((⟨g, 0, none⟩ : Addr).add j) = some u := hown.cells (g := g) rfl
      have hsmall : n + m ≤ 9223372036854775807 := by simp only [maxLen] at h63; omega
      rw [run_append_grow (P := P) w t ty e i z ht hi hz ⟨g, 0, none⟩ n cap xs hown.1 holds a m c news hl hnews (by omega) (by omega) (growslice_fits (by omega) hbytes)] at hr
      cases hr
      intro g' hg'
      cases hg'
      exact .inr (Nat.le_refl _)
theorem wpList_append_far {P : Program} (w : World) {ops : Array Oper} {rest : List Oper} {o : Oper} {a : Act} {Q : Exit → Act → World → Prop} (hgd : o.guard = none) (s x : Operand) (t : TypeId)
    (ho : o.op = .call { callee := .builtin .append, args := #[s, x], argTypes := #[t, t] })
    (base : Nat) (e : TypeId) (i : TypeInfo) (z : Value) (size bytes : Nat) (ht : P.underlying t = some (.slice e)) (hi : P.info? e = some i) (hz : i.zero = some z)
    (hsize : i.size = size) (hby : i.bytes = bytes) (hzs : z.cells.size = size) (hsz : 0 < size)
    (v : Value) (n : Nat) (xs : List Value) (hs : a.eval s = v) (hown : w.ownsRow base e size v n xs)
    (ad : Addr) (m c : Nat) (news : List Value) (hx : a.eval x = .slice (some ad) m c) (hl : news.length = m * size) (hnews : ∀ j u, news[j]? = some u → w.cell? (ad.add j) = some u) (h1 : ∀ u ∈ news, u.oneCell' = true)
    (h63 : n + m ≤ maxLen) (hbytes : (n + m) * bytes ≤ 140737488355328) (hbase : base ≤ w.heap.size)
    (h : ∀ v' w', w'.ownsRow base e size v' (n + m) (xs ++ news) → w.grownBy w' v.ownBlock → (∀ g, v'.ownBlock = some g → v.ownBlock = some g ∨ w.heap.size ≤ g) → wpList P ops Q rest (a.put o.dst v') w') : wpList P ops Q (o :: rest) a w :=
  wpList_plain hgd fun _ hK => by
    obtain ⟨v', w', hr, h2, h3, h4⟩ := run_append_far (P := P) w base t o.type e i z size bytes ht hi hz hsize hby hzs hsz v n xs hown ad m c news hl hnews h1 h63 hbytes hbase
    unfold Oper.wp execOp
    simp only [ho, resolve, invoke, builtin, Sem.run_bind, Sem.run_pure, Result.andThen_ok, List.map_toArray, List.map_cons, List.map_nil, hs, hx, hr]
    exact hK _ _ (h v' w' h2 h3 h4)
end Mem
end Go.Proofs.YtlgbdbmikmbioaaDoor

/- A row of nests in memory: each a map, a number and the row of its layers. -/
namespace Go.Proofs.YtlgbdbmikmbioaaDoor
open Go.RowKit
namespace Mem
/-- A row of nests from a cell on; all blocks of it are of a kind. -/
def rowF (w : World) (N : Nat → Prop) : Pl.Fo → Nat → Nat → Prop
  | .nil, _, _ => True
  | .cons k m, b, i => (∃ x y a cap, w.cell? ⟨b, i, none⟩ = some x ∧ w.cell? ⟨b, i + 1, none⟩ = some y ∧ w.cell? ⟨b, i + 2, none⟩ = some (.slice a k.len cap) ∧ b < w.heap.size ∧ N b ∧
      (∃ q, x = .map q) ∧ (∃ q, y = .int .i64 q) ∧ (k = .nil ∨ ∃ b', a = some ⟨b', 0, none⟩ ∧ rowF w N k b' 0)) ∧ rowF w N m b (i + 3)
/-- The layers of a nest: a row of nests, or none. -/
def lay (w : World) (N : Nat → Prop) (k : Pl.Fo) (v : Value) : Prop := ∃ a cap, v = .slice a k.len cap ∧ (k = .nil ∨ ∃ b', a = some ⟨b', 0, none⟩ ∧ rowF w N k b' 0)
theorem rowF_mono {w w' : World} {N N' : Nat → Prop} (h : ∀ b, N b → b < w.heap.size → N' b ∧ b < w'.heap.size ∧ w'.heap[b]? = w.heap[b]?) (F : Pl.Fo) : ∀ b i, rowF w N F b i → rowF w' N' F b i := by
  induction F with
  | nil => intro b i _; trivial
  | cons k m ihk ihm =>
    intro b i hr
    obtain ⟨⟨x, y, a, cap, h1, h2, h3, h4, h5, hx, hy, h6⟩, h7⟩ := hr
    obtain ⟨g1, g2, g3⟩ := h b h5 h4
    have c : ∀ j, w'.cell? ⟨b, j, none⟩ = w.cell? ⟨b, j, none⟩ := fun j => World.cell?_of_block g3
    refine ⟨⟨x, y, a, cap, (c _).trans h1, (c _).trans h2, (c _).trans h3, g2, g1, hx, hy, ?_⟩, ihm _ _ h7⟩
    rcases h6 with h6 | ⟨b', h6, h8⟩
    · exact .inl h6
    · exact .inr ⟨b', h6, ihk _ _ h8⟩
theorem lay_mono {w w' : World} {N N' : Nat → Prop} (h : ∀ b, N b → b < w.heap.size → N' b ∧ b < w'.heap.size ∧ w'.heap[b]? = w.heap[b]?) {k : Pl.Fo} {v : Value} (hl : lay w N k v) : lay w' N' k v := by
  obtain ⟨a, cap, h1, h2⟩ := hl
  refine ⟨a, cap, h1, ?_⟩
  rcases h2 with h2 | ⟨b', h2, h3⟩
  · exact .inl h2
  · exact .inr ⟨b', h2, rowF_mono h _ _ _ h3⟩
theorem lay_call {w w' : World} {N : Nat → Prop} {k : Pl.Fo} {v : Value} (h : lay w N k v) (b : Below w.heap.size w w') : lay w' N k v := lay_mono (fun g hg hl => ⟨hg, Nat.lt_of_lt_of_le hl b.size, b.block g hl⟩) h
theorem lay_weak {w : World} {N N' : Nat → Prop} {k : Pl.Fo} {v : Value} (h : lay w N k v) (hn : ∀ b, N b → b < w.heap.size → N' b) : lay w N' k v := lay_mono (fun g hg hl => ⟨hn g hg hl, hl, rfl⟩) h
theorem lay_nil (w : World) (N : Nat → Prop) : lay w N .nil (.slice none 0 0) := ⟨none, 0, rfl, .inl rfl⟩
/-- The cells of a row of nests, one behind the other. -/
def cellsF (w : World) (N : Nat → Prop) : Pl.Fo → List Value → Prop
  | .nil, xs => xs = []
  | .cons k m, xs => ∃ q r v ys, xs = .map q :: .int .i64 r :: v :: ys ∧ lay w N k v ∧ cellsF w N m ys
theorem cellsF_mono {w w' : World} {N N' : Nat → Prop} (h : ∀ b, N b → b < w.heap.size → N' b ∧ b < w'.heap.size ∧ w'.heap[b]? = w.heap[b]?) (F : Pl.Fo) : ∀ xs, cellsF w N F xs → cellsF w' N' F xs := by
  induction F with
  | nil => intro xs h; exact h
  | cons k m _ ih =>
    intro xs hx
    obtain ⟨q, r, v, ys, h1, h2, h3⟩ := hx
    exact ⟨q, r, v, ys, h1, lay_mono h h2, ih _ h3⟩
theorem cellsF_snoc {w : World} {N : Nat → Prop} {k : Pl.Fo} {q : Option Nat} {r : Int} {v : Value} (hv : lay w N k v) (F : Pl.Fo) : ∀ xs, cellsF w N F xs → cellsF w N (F.app (.cons k .nil)) (xs ++ [.map q, .int .i64 r, v]) := by
  induction F with
  | nil => intro xs h; cases h; exact ⟨q, r, v, [], rfl, hv, rfl⟩
  | cons k' m _ ih =>
    intro xs hx
    obtain ⟨q', r', v', ys, rfl, h2, h3⟩ := hx
    exact ⟨q', r', v', _, rfl, h2, ih _ h3⟩
theorem row_of_cells {w : World} {N N' : Nat → Prop} {g : Nat} (hN : ∀ b, N b → N' b) (hg : N' g) (hlt : g < w.heap.size) (F : Pl.Fo) : ∀ (xs : List Value) (i : Nat), cellsF w N F xs → (∀ j u, xs[j]? = some u → w.cell? ⟨g, i + j, none⟩ = some u) → rowF w N' F g i := by
  induction F with
  | nil => intro xs i _ _; trivial
  | cons k m _ ih =>
    intro xs i hx hc
    obtain ⟨q, r, v, ys, rfl, h2, h3⟩ := hx
    obtain ⟨a, cap, rfl, h4⟩ := h2
    refine ⟨⟨_, _, a, cap, hc 0 _ rfl, hc 1 _ rfl, hc 2 _ rfl, hlt, hg, ⟨q, rfl⟩, ⟨r, rfl⟩, ?_⟩, ih ys (i + 3) h3 fun j u hj => ?_⟩
    · rcases h4 with h4 | ⟨b', h4, h5⟩
      · exact .inl h4
      · exact .inr ⟨b', h4, rowF_mono (fun b hb hl => ⟨hN b hb, hl, rfl⟩) _ _ _ h5⟩
    · have := hc (j + 3) u (by simpa using hj)
      rw [show i + 3 + j = i + (j + 3) by omega]; exact this
theorem lay_of_row {w : World} {B : Nat} {T : TypeId} {v : Value} {N : Nat → Prop} {F : Pl.Fo} {xs : List Value} (h : w.ownsRow B T 3 v F.len xs) (hc : cellsF w N F xs) (hN : ∀ b, N b → B ≤ b) : lay w (fun b => B ≤ b) F v := by
  rcases h.2 with ⟨rfl, h0⟩ | ⟨g, cap, cur, rfl, hb, hg, hc2, hm, hsz, ht⟩
  · cases F with
    | nil => exact lay_nil _ _
    | cons k m => simp [Pl.Fo.len] at h0
  · refine ⟨_, cap, rfl, .inr ⟨g, rfl, row_of_cells hN hb (Array.getElem?_eq_some_iff.1 hg).1 F xs 0 hc fun j u hj => ?_⟩⟩
    rw [cell_of_row w g _ cur _ (0, 0) hg, Nat.zero_add]
    rw [← ht, List.getElem?_take] at hj
    split at hj
    · simpa using hj
    · cases hj
end Mem
end Go.Proofs.YtlgbdbmikmbioaaDoor

