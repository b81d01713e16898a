import Derived.Test.YtioildojmckepaaGreatDoorG04
import Derived.Test.YtioildojmckepaaGreatDoorG06
import Derived.Test.YtioildojmckepaaGreatDoorG01
import Derived.Test.YtioildojmckepaaGreatDoorG08
import Derived.Test.YtioildojmckepaaGreatDoorG10
import Derived.Laws.AppendOwnNone
namespace Go.Proofs.YtioildojmckepaaGreatDoor
open Go.RowKit
namespace zn4
theorem zx9 {w : World} {g o : Nat} {L : List Pl.Nd} (h : Mem.zb5 w (some ⟨g, o, none⟩) L) (i : Nat) : Mem.zb5 w (some ⟨g, o + i * 5, none⟩) (L.drop i) := by
 intro k n hk
 rw [List.getElem?_drop] at hk
 obtain ⟨b', o', e, h1, h2, h3, h4, h5, h6⟩ := h (i + k) n hk
 cases e
 have ee : o + (i + k) * 5 = o + i * 5 + k * 5 := by omega
 rw [ee] at h2 h3 h4 h5 h6
 exact ⟨g, o + i * 5, rfl, h1, h2, h3, h4, h5, h6⟩
theorem zy0 {w : World} {g o : Nat} {L : List Pl.Nd} (h : Mem.zb5 w (some ⟨g, o, none⟩) L) (i : Nat) : Mem.zb5 w (some ⟨g, o, none⟩) (L.take i) := by
 intro k n hk
 rw [List.getElem?_take] at hk
 split at hk
 ·exact h k n hk
 ·cases hk
structure At (w W : World) (g o cap : Nat) (L : List Pl.Nd) (n : Pl.Nd) : Prop where
 bel : Below w.heap.size w W
 one : Mem.Blk W w.heap.size #[.slice (some ⟨g, o, none⟩) L.length cap] 36
 two : Mem.Blk W (w.heap.size + 1) n.cs.toArray 88
 three : Mem.Blk W (w.heap.size + 1 + 1) #[.slice none 0 0] 36
 nodes : Mem.zb5 W (some ⟨g, o, none⟩) L
 lt : g < w.heap.size
section
variable {w W W' : World} {g o cap : Nat} {L : List Pl.Nd} {n : Pl.Nd}
theorem At.call (h : At w W g o cap L n) (b : Below W.heap.size W W') : At w W' g o cap L n :=
 ⟨h.bel.trans (b.mono h.bel.size), h.one.call b, h.two.call b, h.three.call b, Mem.za5 h.nodes b, h.lt⟩
theorem At.drew (h : At w W g o cap L n) : At w W.drew g o cap L n :=
 ⟨⟨h.bel.os, h.bel.tape, h.bel.output, h.bel.size, h.bel.block⟩, h.one, h.two, h.three, h.nodes, h.lt⟩
theorem At.grown {r : Option Nat} (h : At w W g o cap L n) (b : W.grownBy W' r) (hr : ∀ q, r = some q → w.heap.size + 3 ≤ q) : At w W' g o cap L n :=
 ⟨h.bel.grown b h.bel.size (fun q hq => by have := hr q hq; omega), h.one.grown b (fun e => by have := hr _ e.symm; omega), h.two.grown b (fun e => by have := hr _ e.symm; omega), h.three.grown b (fun e => by have := hr _ e.symm; omega),
  Mem.zx2 h.nodes b (fun e => by have := hr _ e.symm; have := h.lt; omega), h.lt⟩
theorem At.alloc (h : At w W g o cap L n) (x : Obj) : At w (W.alloc x) g o cap L n := h.call ((Below.refl _ _).alloc (Nat.le_refl _) x)
end
set_option linter.unusedSimpArgs false in
set_option maxRecDepth 100000 in
set_option maxHeartbeats 1000000 in
theorem put_off (g o cap : Nat) (L : List Pl.Nd) (n : Pl.Nd) (w : World) (hl : L.length ≤ 1000) (hg : g < w.heap.size) (hv : Mem.zb5 w (some ⟨g, o, none⟩) L) (hcap : L.length ≤ cap) (hok : ∀ m ∈ L, m.path.size ≤ 8000) (hn8 : n.path.size ≤ 8000) :
  Calls Tryz.prog 104 #[.agg #[.slice (some ⟨g, o, none⟩) L.length cap], n.val] w fun e w' => ∃ v, e = .returned (.agg #[v]) ∧ Mem.ownN w' w.heap.size v (Pl.putL L n) ∧ Below w.heap.size w w' := by
 obtain ⟨i0, hi, hz0, hz1, hz2⟩ := info_parts zf4.zp2
 have HLS := hide (fun m (hm : m ∈ L) W => zf3.less1_any m.path n.path W (hok m hm) hn8)
 have HPUT := hide (fun k => Pl.put_at L n k)
 have HRD := hide (fun k => Pl.rest_drop L n.path k)
 have HAH : Hid (∀ m, Pl.zi3 n m = Pl.za9 (Pl.names m.path) (Pl.names n.path)) := fun m => rfl
 generalize Pl.putL L n = R at HPUT ⊢
 obtain ⟨np, nk, nd, nt, nm⟩ := n
 simp only [Pl.Nd.val] at HLS HRD HAH ⊢
 have H0 : At w (((w.alloc (.cells #[.slice (some ⟨g, o, none⟩) L.length cap] 36)).alloc (.cells #[.string np, .int .i64 nk, .string nd, .int .i64 nt, .int .i64 nm] 88)).alloc (.cells #[.slice none 0 0] 36)) g o cap L ⟨np, nk, nd, nt, nm⟩ :=
  ⟨(((Below.refl _ _).alloc (Nat.le_refl _) _).alloc (by simp) _).alloc (by simp; omega) _, ((Mem.Blk.new _ _ _).alloc _).alloc _, (by have h := (Mem.Blk.new (w.alloc (.cells #[.slice (some ⟨g, o, none⟩) L.length cap] 36)) #[.string np, .int .i64 nk, .string nd, .int .i64 nt, .int .i64 nm] 88).alloc (.cells #[.slice none 0 0] 36); rwa [show (w.alloc (.cells #[.slice (some ⟨g, o, none⟩) L.length cap] 36)).heap.size = w.heap.size + 1 by simp] at h), Mem.zk6 _ _ _ _,
   Mem.za5 hv ((((Below.refl _ _).alloc (Nat.le_refl _) _).alloc (by simp) _).alloc (by simp; omega) _), hg⟩
 have HH := hide H0
 clear H0 hv hok hn8
 go_enter Tryz.func104, Tryz.ntmps104
 go_wp2
 go_loopw [5] (fun i wr => ∃ k : Nat, k ≤ L.length ∧ i = .int .i64 (k : Int) ∧ Hid (At w wr g o cap L ⟨np, nk, nd, nt, nm⟩) ∧ Hid (∀ (j : Nat) m, j < k → L[j]? = some m → Pl.zi3 ⟨np, nk, nd, nt, nm⟩ m = true)) (fun i _ => L.length - (intOf i).toNat)
 case atStart => exact ⟨0, Nat.zero_le _, rfl, HH, fun j m h => absurd h (by omega)⟩
 case round =>
  obtain ⟨k, hk, rfl, HA, HK⟩ := hrel
  clear HH
  by_cases hlt : k < L.length
  ·obtain ⟨m, hm⟩ : ∃ m, L[k]? = some m := ⟨_, List.getElem?_eq_getElem hlt⟩
   have hls := hide (za HLS m (List.mem_of_getElem? hm))
   have y1 : (k : Int) < (L.length : Int) := by omega
   have y3 : (0 : Int) ≤ (k : Int) := by omega
   have EM := hide hm
   have HQ : Hid (∀ W', Below w.heap.size w W' → At w W' g o cap L ⟨np, nk, nd, nt, nm⟩ → W'.cell? ⟨g, o + k * 5, none⟩ = some (.string m.path)) := fun W' _ h => by
    obtain ⟨b', o', e, _, z0, _⟩ := h.nodes k m hm
    cases e; exact z0
   cases hle : Pl.za9 (Pl.names m.path) (Pl.names np)
   ·rw [hle] at hls
    have HF : Hid (∀ x, L[k]? = some x → Pl.zi3 ⟨np, nk, nd, nt, nm⟩ x = false) := fun x hx => by rw [za EM] at hx; cases hx; rw [za HAH]; exact hle
    clear hle hm HLS
    have hc0 : ¬ cap = 0 := by omega
    have MK : Hid (∀ W', At w W' g o cap L ⟨np, nk, nd, nt, nm⟩ → (fun W' => At w W' g o cap L ⟨np, nk, nd, nt, nm⟩ ∧ W'.cell? ⟨w.heap.size, 0, none⟩ = some (.slice (some ⟨g, o, none⟩) L.length cap) ∧ W'.cell? ⟨w.heap.size + 1, 0, none⟩ = some (.string np) ∧ W'.cell? ⟨g, o + k * 5, none⟩ = some (.string m.path)) W') := fun W' h => ⟨h, h.one.cell 0, h.two.cell 0, za HQ W' h.bel h⟩
    go_wp2_with fail
    refine wp_region_held_drew (S := fun W' => At w W' g o cap L ⟨np, nk, nd, nt, nm⟩ ∧ W'.cell? ⟨w.heap.size, 0, none⟩ = some (.slice (some ⟨g, o, none⟩) L.length cap) ∧ W'.cell? ⟨w.heap.size + 1, 0, none⟩ = some (.string np) ∧ W'.cell? ⟨g, o + k * 5, none⟩ = some (.string m.path)) (by kernel_rfl) ?_ (fun hHeld => ?_)
    ·exact za MK _ (za HA).drew
    refine tka (i := 0) rfl ?_
    try simp only [Act.put, kBs]
    refine tka (i := 1) rfl ?_
    try simp only [Act.put, kBs]
    refine tka (i := 2) rfl ?_
    try simp only [Act.put, kBs]
    refine tka (i := 3) rfl ?_
    try simp only [Act.put, kBs]
    refine tka (i := 4) rfl ?_
    try simp only [Act.put, kBs]
    refine tka (i := 5) rfl ?_
    try simp only [Act.put, kBs]
    refine tka (i := 6) rfl ?_
    try simp only [Act.put, kBs]
    refine tka (i := 7) rfl ?_
    try simp only [Act.put, kBs]
    refine tka (i := 8) rfl ?_
    try simp only [Act.put, kBs]
    refine tka (i := 9) rfl ?_
    try simp only [Act.put, kBs]
    refine tka (i := 10) rfl ?_
    try simp only [Act.put, kBs]
    refine tka (i := 11) rfl ?_
    try simp only [Act.put, kBs]
    refine tka (i := 12) rfl ?_
    try simp only [Act.put, kBs]
    refine tka (i := 13) rfl ?_
    try simp only [Act.put, kBs]
    refine wpAnyH_ready (rs := [14]) (by kernel_rfl) (by simp) ?_
    refine AllReadyH.cons rfl (fun K hK => ?_) AllReadyH.nil
    go_simp
    refine (za hls _).mono ?_
    rintro e wX ⟨rfl, bX⟩
    refine hK.out _ _ ?_ (fun hHeld => ?_)
    ·exact za MK _ (hHeld.1.call bX)
    clear hK K
    try simp only [Act.put, kBs]
    refine tka (i := 15) rfl ?_
    try simp only [Act.put, kBs]
    refine wpAnyH_done (by kernel_rfl) ?_ _
    have AX := hide hHeld.1
    clear hHeld MK bX hls HA
    have hsW := (za AX).three.lt
    have OA0 : Hid (Mem.ownN (wX.alloc (.cells #[] 88)) (w.heap.size + 3) (.slice (some ⟨wX.heap.size, 0, none⟩) 0 0) []) := ⟨rfl, .inr ⟨wX.heap.size, 0, #[], rfl, by omega, heap_alloc_new _ _, Nat.le_refl _, Nat.zero_le _, rfl, rfl⟩⟩
    have AA := hide ((za AX).alloc (.cells #[] 88))
    clear AX
    have d0 := (za AA).one.cell 0
    simp only [kA0, kA1] at d0
    have s0 : (0 : Int) ≤ (k : Int) := by omega
    have s1 : (k : Int) ≤ (L.length : Int) := by omega
    have hlk : (L.take k).length = k := by rw [List.length_take]; omega
    have HLK := hide hlk
    clear hlk
    go_wp2_with (at_builtin; refine wpList_append_own _ rfl _ _ 34 rfl (w.heap.size + 3) 88 i0 _ 5 56 Tryz.underlying34 hi hz0 hz1 hz2 rfl (by decide) _ _ _ rfl (za OA0) ⟨g, o, none⟩ k cap (Pl.zb6 (L.take k)) rfl (by rw [Pl.zn6, za HLK]) (zf4.zv7 (zy0 (za AA).nodes k)) (zf4.cells_one _) (by rw [List.length_nil, Nat.zero_add]; unfold maxLen; omega) (by rw [List.length_nil, Nat.zero_add]; omega) (by have := (za AA).three.lt; omega) ?_)
    intro v1 wA ownA growA _
    have OA := hide (zf4.zk2 (A := []) (M := L.take k) (m := k) (by rw [List.length_nil, Nat.zero_add]; exact ownA) (za HLK).symm)
    rw [List.nil_append] at OA
    obtain ⟨TK, hTK⟩ : ∃ TK, L.take k = TK := ⟨_, rfl⟩
    rw [hTK] at OA
    have HTK := hide hTK
    clear hTK
    have A1 := hide ((za AA).grown growA (fun q hq => by have h9 : wX.heap.size = q := Option.some.inj hq; omega))
    clear ownA growA OA0 AA d0 hsW
    have e0 := (za A1).two.cell 0
    have e1 := (za A1).two.cell 1
    have e2 := (za A1).two.cell 2
    have e3 := (za A1).two.cell 3
    have e4 := (za A1).two.cell 4
    simp only [Pl.Nd.cs, kGs] at e0 e1 e2 e3 e4
    have HLA := hide (Mem.zd5 (za OA))
    have hlen1 : TK.length ≤ 1000 := by rw [← za HTK, List.length_take]; omega
    go_wp2_with (at_builtin; refine wpList_append_own _ rfl _ _ 34 rfl (w.heap.size + 3) 88 i0 _ 5 56 Tryz.underlying34 hi hz0 hz1 hz2 rfl (by decide) _ _ _ rfl (Mem.zd4 (za OA) _) ⟨wA.heap.size, 0, none⟩ 1 1 [.string np, .int .i64 nk, .string nd, .int .i64 nt, .int .i64 nm] rfl rfl (Mem.zi9 wA ⟨np, nk, nd, nt, nm⟩ _) (Mem.zi1 ⟨np, nk, nd, nt, nm⟩) (by unfold maxLen; omega) (by omega) (by have := (za A1).three.lt; simp; omega) ?_)
    intro v2 wB ownB growB _
    have OB := hide (Mem.zg7 (L := TK) (n := ⟨np, nk, nd, nt, nm⟩) ownB)
    have AB := hide (((za A1).alloc (.cells #[.string np, .int .i64 nk, .string nd, .int .i64 nt, .int .i64 nm] 88)).grown growB (fun q hq => (za HLA q hq).1))
    clear ownB growB OA A1 e0 e1 e2 e3 e4 HLA hlen1 HLK
    by_cases hqe : m.path = np
    ·by_cases hke : k + 1 = L.length
     ·have ER := hide (show R = (TK ++ [⟨np, nk, nd, nt, nm⟩]) ++ [] by
       rw [← za HTK, za HPUT k (by omega) (za HK) (za HF), za HRD k, if_pos ⟨m, za EM, hqe⟩, List.drop_eq_nil_of_le (by omega)]; simp)
      rw [hqe] at HQ
      clear HPUT HRD HK HF HAH EM hqe
      have HKE := hide hke
      clear hke
      have MK : Hid (∀ W', At w W' g o cap L ⟨np, nk, nd, nt, nm⟩ → (fun W' => At w W' g o cap L ⟨np, nk, nd, nt, nm⟩ ∧ W'.cell? ⟨w.heap.size, 0, none⟩ = some (.slice (some ⟨g, o, none⟩) L.length cap) ∧ W'.cell? ⟨w.heap.size + 1, 0, none⟩ = some (.string np) ∧ W'.cell? ⟨g, o + k * 5, none⟩ = some (.string np)) W') := fun W' h => ⟨h, h.one.cell 0, h.two.cell 0, za HQ W' h.bel h⟩
      go_wp2_with fail
      refine wp_region_held_drew (S := fun W' => At w W' g o cap L ⟨np, nk, nd, nt, nm⟩ ∧ W'.cell? ⟨w.heap.size, 0, none⟩ = some (.slice (some ⟨g, o, none⟩) L.length cap) ∧ W'.cell? ⟨w.heap.size + 1, 0, none⟩ = some (.string np) ∧ W'.cell? ⟨g, o + k * 5, none⟩ = some (.string np)) (by kernel_rfl) ?_ (fun hHeld => ?_)
      ·exact za MK _ (za AB).drew
      refine tka (i := 0) rfl ?_
      try simp only [Act.put, kBs]
      refine tka (i := 1) rfl ?_
      try simp only [Act.put, kBs]
      refine tka (i := 2) rfl ?_
      try simp only [Act.put, kBs]
      refine tka (i := 3) rfl ?_
      try simp only [Act.put, kBs]
      refine tka (i := 4) rfl ?_
      try simp only [Act.put, kBs]
      refine tka (i := 5) rfl ?_
      try simp only [Act.put, kBs]
      refine tka (i := 6) rfl ?_
      try simp only [Act.put, kBs]
      refine tka (i := 7) rfl ?_
      try simp only [Act.put, kBs]
      refine tka (i := 8) rfl ?_
      try simp only [Act.put, kBs]
      refine tka (i := 9) rfl ?_
      try simp only [Act.put, kBs]
      refine tka (i := 10) rfl ?_
      try simp only [Act.put, kBs]
      refine tka (i := 11) rfl ?_
      try simp only [Act.put, kBs]
      refine tka (i := 12) rfl ?_
      try simp only [Act.put, kBs]
      refine tka (i := 13) rfl ?_
      try simp only [Act.put, kBs]
      refine tka (i := 14) rfl ?_
      try simp only [Act.put, kBs]
      refine tka (i := 15) rfl ?_
      try simp only [Act.put, kBs]
      refine wpAnyH_done (by kernel_rfl) ?_ _
      have OC : Hid (Mem.ownN wB.drew (w.heap.size + 3) v2 (TK ++ [⟨np, nk, nd, nt, nm⟩])) := za OB
      generalize wB.drew = WC at hHeld OC ⊢
      have AC := hide hHeld.1
      clear hHeld MK AB OB HQ
      have s2 : (k : Int) + 1 ≤ (L.length : Int) := by omega
      have s3 : (0 : Int) ≤ (k : Int) + 1 := by omega
      by_cases s4 : cap = k + 1
      ·have s5 : L.length = k + 1 := (za HKE).symm
       have d0 := (za AC).one.cell 0
       simp only [kA0, kA1] at d0
       have HLC := hide (Mem.zd5 (za OC))
       have hlT : TK.length ≤ 1000 := by rw [← za HTK, List.length_take]; omega
       go_wp2_with (at_builtin; refine wpList_append_own _ rfl _ _ 34 rfl (w.heap.size + 3) 88 i0 _ 5 56 Tryz.underlying34 hi hz0 hz1 hz2 rfl (by decide) _ _ _ rfl (za OC) _ 0 _ (Pl.zb6 ([])) rfl (by simp [Pl.zb6]) (fun j u h => by simp [Pl.zb6] at h) (zf4.cells_one _) (by rw [List.length_append, List.length_singleton]; unfold maxLen; omega) (by rw [List.length_append, List.length_singleton]; omega) (by have := (za AC).three.lt; omega) ?_)
       intro v3 wD ownD growD _
       have OD := hide (zf4.zk2 (A := TK ++ [⟨np, nk, nd, nt, nm⟩]) (M := []) (m := 0) (by first | exact ownD | (rw [List.length_append, List.length_singleton]; exact ownD) | (rw [Nat.add_zero, List.length_append, List.length_singleton]; exact ownD)) (by simp))
       have AD2 := hide ((za AC).grown growD (fun q hq => (za HLC q hq).1))
       clear ownD growD HLC AC OC d0
       rw [← za ER] at OD
       obtain ⟨a3, cap3, hv3⟩ := Mem.za3 (za OD)
       subst hv3
       have z0 := (za AD2).three.cell 0
       have zf := (za AD2).three.fr 0
       simp only [kA0, kA1] at z0
       clear ER
       go_wp2
       refine bodyPost_ret (v := .agg #[.slice a3 R.length cap3]) (by simp [results, Tryz.results104, go_sem, z0]) rfl ⟨_, rfl, ?_, ?_⟩
       ·exact Mem.zb7 (Mem.za4 (za OD) _ _ (by show w.heap.size + 1 + 1 < w.heap.size + 3; omega)) (by omega)
       ·exact (za AD2).bel.setCell (by show w.heap.size ≤ w.heap.size + 1 + 1; omega) _
      ·have s5 : L.length = k + 1 := (za HKE).symm
       have d0 := (za AC).one.cell 0
       simp only [kA0, kA1] at d0
       have HLC := hide (Mem.zd5 (za OC))
       have hlT : TK.length ≤ 1000 := by rw [← za HTK, List.length_take]; omega
       go_wp2_with (at_builtin; refine wpList_append_own _ rfl _ _ 34 rfl (w.heap.size + 3) 88 i0 _ 5 56 Tryz.underlying34 hi hz0 hz1 hz2 rfl (by decide) _ _ _ rfl (za OC) _ 0 _ (Pl.zb6 ([])) rfl (by simp [Pl.zb6]) (fun j u h => by simp [Pl.zb6] at h) (zf4.cells_one _) (by rw [List.length_append, List.length_singleton]; unfold maxLen; omega) (by rw [List.length_append, List.length_singleton]; omega) (by have := (za AC).three.lt; omega) ?_)
       intro v3 wD ownD growD _
       have OD := hide (zf4.zk2 (A := TK ++ [⟨np, nk, nd, nt, nm⟩]) (M := []) (m := 0) (by first | exact ownD | (rw [List.length_append, List.length_singleton]; exact ownD) | (rw [Nat.add_zero, List.length_append, List.length_singleton]; exact ownD)) (by simp))
       have AD2 := hide ((za AC).grown growD (fun q hq => (za HLC q hq).1))
       clear ownD growD HLC AC OC d0
       rw [← za ER] at OD
       obtain ⟨a3, cap3, hv3⟩ := Mem.za3 (za OD)
       subst hv3
       have z0 := (za AD2).three.cell 0
       have zf := (za AD2).three.fr 0
       simp only [kA0, kA1] at z0
       clear ER
       go_wp2
       refine bodyPost_ret (v := .agg #[.slice a3 R.length cap3]) (by simp [results, Tryz.results104, go_sem, z0]) rfl ⟨_, rfl, ?_, ?_⟩
       ·exact Mem.zb7 (Mem.za4 (za OD) _ _ (by show w.heap.size + 1 + 1 < w.heap.size + 3; omega)) (by omega)
       ·exact (za AD2).bel.setCell (by show w.heap.size ≤ w.heap.size + 1 + 1; omega) _
     ·have ER := hide (show R = (TK ++ [⟨np, nk, nd, nt, nm⟩]) ++ L.drop (k + 1) by
       rw [← za HTK, za HPUT k (by omega) (za HK) (za HF), za HRD k, if_pos ⟨m, za EM, hqe⟩]; simp)
      rw [hqe] at HQ
      clear HPUT HRD HK HF HAH EM hqe
      have MK : Hid (∀ W', At w W' g o cap L ⟨np, nk, nd, nt, nm⟩ → (fun W' => At w W' g o cap L ⟨np, nk, nd, nt, nm⟩ ∧ W'.cell? ⟨w.heap.size, 0, none⟩ = some (.slice (some ⟨g, o, none⟩) L.length cap) ∧ W'.cell? ⟨w.heap.size + 1, 0, none⟩ = some (.string np) ∧ W'.cell? ⟨g, o + k * 5, none⟩ = some (.string np)) W') := fun W' h => ⟨h, h.one.cell 0, h.two.cell 0, za HQ W' h.bel h⟩
      go_wp2_with fail
      refine wp_region_held_drew (S := fun W' => At w W' g o cap L ⟨np, nk, nd, nt, nm⟩ ∧ W'.cell? ⟨w.heap.size, 0, none⟩ = some (.slice (some ⟨g, o, none⟩) L.length cap) ∧ W'.cell? ⟨w.heap.size + 1, 0, none⟩ = some (.string np) ∧ W'.cell? ⟨g, o + k * 5, none⟩ = some (.string np)) (by kernel_rfl) ?_ (fun hHeld => ?_)
      ·exact za MK _ (za AB).drew
      refine tka (i := 0) rfl ?_
      try simp only [Act.put, kBs]
      refine tka (i := 1) rfl ?_
      try simp only [Act.put, kBs]
      refine tka (i := 2) rfl ?_
      try simp only [Act.put, kBs]
      refine tka (i := 3) rfl ?_
      try simp only [Act.put, kBs]
      refine tka (i := 4) rfl ?_
      try simp only [Act.put, kBs]
      refine tka (i := 5) rfl ?_
      try simp only [Act.put, kBs]
      refine tka (i := 6) rfl ?_
      try simp only [Act.put, kBs]
      refine tka (i := 7) rfl ?_
      try simp only [Act.put, kBs]
      refine tka (i := 8) rfl ?_
      try simp only [Act.put, kBs]
      refine tka (i := 9) rfl ?_
      try simp only [Act.put, kBs]
      refine tka (i := 10) rfl ?_
      try simp only [Act.put, kBs]
      refine tka (i := 11) rfl ?_
      try simp only [Act.put, kBs]
      refine tka (i := 12) rfl ?_
      try simp only [Act.put, kBs]
      refine tka (i := 13) rfl ?_
      try simp only [Act.put, kBs]
      refine tka (i := 14) rfl ?_
      try simp only [Act.put, kBs]
      refine tka (i := 15) rfl ?_
      try simp only [Act.put, kBs]
      refine wpAnyH_done (by kernel_rfl) ?_ _
      have OC : Hid (Mem.ownN wB.drew (w.heap.size + 3) v2 (TK ++ [⟨np, nk, nd, nt, nm⟩])) := za OB
      generalize wB.drew = WC at hHeld OC ⊢
      have AC := hide hHeld.1
      clear hHeld MK AB OB HQ
      have s2 : (k : Int) + 1 ≤ (L.length : Int) := by omega
      have s3 : (0 : Int) ≤ (k : Int) + 1 := by omega
      have s4 : ¬ cap = k + 1 := by omega
      have d0 := (za AC).one.cell 0
      simp only [kA0, kA1] at d0
      have HLC := hide (Mem.zd5 (za OC))
      have hlT : TK.length ≤ 1000 := by rw [← za HTK, List.length_take]; omega
      go_wp2_with (at_builtin; refine wpList_append_own _ rfl _ _ 34 rfl (w.heap.size + 3) 88 i0 _ 5 56 Tryz.underlying34 hi hz0 hz1 hz2 rfl (by decide) _ _ _ rfl (za OC) ⟨g, o + (k + 1) * 5, none⟩ (L.length - (k + 1)) (cap - (k + 1)) (Pl.zb6 (L.drop (k + 1))) rfl (by rw [Pl.zn6, List.length_drop]) (zf4.zv7 (zx9 (za AC).nodes (k + 1))) (zf4.cells_one _) (by rw [List.length_append, List.length_singleton]; unfold maxLen; omega) (by rw [List.length_append, List.length_singleton]; omega) (by have := (za AC).three.lt; omega) ?_)
      intro v3 wD ownD growD _
      have OD := hide (zf4.zk2 (A := TK ++ [⟨np, nk, nd, nt, nm⟩]) (M := L.drop (k + 1)) (m := (L.length - (k + 1))) (by first | exact ownD | (rw [List.length_append, List.length_singleton]; exact ownD) | (rw [Nat.add_zero, List.length_append, List.length_singleton]; exact ownD)) (by rw [List.length_drop]))
      have AD2 := hide ((za AC).grown growD (fun q hq => (za HLC q hq).1))
      clear ownD growD HLC AC OC d0
      rw [← za ER] at OD
      obtain ⟨a3, cap3, hv3⟩ := Mem.za3 (za OD)
      subst hv3
      have z0 := (za AD2).three.cell 0
      have zf := (za AD2).three.fr 0
      simp only [kA0, kA1] at z0
      clear ER
      go_wp2
      refine bodyPost_ret (v := .agg #[.slice a3 R.length cap3]) (by simp [results, Tryz.results104, go_sem, z0]) rfl ⟨_, rfl, ?_, ?_⟩
      ·exact Mem.zb7 (Mem.za4 (za OD) _ _ (by show w.heap.size + 1 + 1 < w.heap.size + 3; omega)) (by omega)
      ·exact (za AD2).bel.setCell (by show w.heap.size ≤ w.heap.size + 1 + 1; omega) _
    ·have ER := hide (show R = (TK ++ [⟨np, nk, nd, nt, nm⟩]) ++ L.drop k by
      rw [← za HTK, za HPUT k (by omega) (za HK) (za HF), za HRD k, if_neg (fun ⟨x, hx, hp⟩ => by rw [za EM] at hx; cases hx; exact hqe hp)]; simp)
     have tq := WPutS.tl_ne hqe
     generalize m.path = qp at HQ tq
     clear HPUT HRD HK HF HAH EM hqe
     have MK : Hid (∀ W', At w W' g o cap L ⟨np, nk, nd, nt, nm⟩ → (fun W' => At w W' g o cap L ⟨np, nk, nd, nt, nm⟩ ∧ W'.cell? ⟨w.heap.size, 0, none⟩ = some (.slice (some ⟨g, o, none⟩) L.length cap) ∧ W'.cell? ⟨w.heap.size + 1, 0, none⟩ = some (.string np) ∧ W'.cell? ⟨g, o + k * 5, none⟩ = some (.string qp)) W') := fun W' h => ⟨h, h.one.cell 0, h.two.cell 0, za HQ W' h.bel h⟩
     go_wp2_with fail
     refine wp_region_held_drew (S := fun W' => At w W' g o cap L ⟨np, nk, nd, nt, nm⟩ ∧ W'.cell? ⟨w.heap.size, 0, none⟩ = some (.slice (some ⟨g, o, none⟩) L.length cap) ∧ W'.cell? ⟨w.heap.size + 1, 0, none⟩ = some (.string np) ∧ W'.cell? ⟨g, o + k * 5, none⟩ = some (.string qp)) (by kernel_rfl) ?_ (fun hHeld => ?_)
     ·exact za MK _ (za AB).drew
     refine tka (i := 0) rfl ?_
     try simp only [Act.put, kBs]
     refine tka (i := 1) rfl ?_
     try simp only [Act.put, kBs]
     refine tka (i := 2) rfl ?_
     try simp only [Act.put, kBs]
     refine tka (i := 3) rfl ?_
     try simp only [Act.put, kBs]
     refine tka (i := 4) rfl ?_
     try simp only [Act.put, kBs]
     refine tka (i := 5) rfl ?_
     try simp only [Act.put, kBs]
     refine tka (i := 6) rfl ?_
     try simp only [Act.put, kBs]
     refine tka (i := 7) rfl ?_
     try simp only [Act.put, kBs]
     refine tka (i := 8) rfl ?_
     try simp only [Act.put, kBs]
     refine tka (i := 9) rfl ?_
     try simp only [Act.put, kBs]
     refine tka (i := 10) rfl ?_
     try simp only [Act.put, kBs]
     refine tka (i := 11) rfl ?_
     try simp only [Act.put, kBs]
     refine tka (i := 12) rfl ?_
     try simp only [Act.put, kBs]
     refine tka (i := 13) rfl ?_
     try simp only [Act.put, kBs]
     refine tka (i := 14) rfl ?_
     try simp only [Act.put, kBs]
     refine tka (i := 15) rfl ?_
     try simp only [Act.put, kBs]
     refine wpAnyH_done (by kernel_rfl) ?_ _
     have OC : Hid (Mem.ownN wB.drew (w.heap.size + 3) v2 (TK ++ [⟨np, nk, nd, nt, nm⟩])) := za OB
     generalize wB.drew = WC at hHeld OC ⊢
     have AC := hide hHeld.1
     clear hHeld MK AB OB HQ
     have s4 : ¬ cap = k := by omega
     have d0 := (za AC).one.cell 0
     simp only [kA0, kA1] at d0
     have HLC := hide (Mem.zd5 (za OC))
     have hlT : TK.length ≤ 1000 := by rw [← za HTK, List.length_take]; omega
     go_wp2_with (at_builtin; refine wpList_append_own _ rfl _ _ 34 rfl (w.heap.size + 3) 88 i0 _ 5 56 Tryz.underlying34 hi hz0 hz1 hz2 rfl (by decide) _ _ _ rfl (za OC) ⟨g, o + (k) * 5, none⟩ (L.length - (k)) (cap - (k)) (Pl.zb6 (L.drop (k))) rfl (by rw [Pl.zn6, List.length_drop]) (zf4.zv7 (zx9 (za AC).nodes (k))) (zf4.cells_one _) (by rw [List.length_append, List.length_singleton]; unfold maxLen; omega) (by rw [List.length_append, List.length_singleton]; omega) (by have := (za AC).three.lt; omega) ?_)
     intro v3 wD ownD growD _
     have OD := hide (zf4.zk2 (A := TK ++ [⟨np, nk, nd, nt, nm⟩]) (M := L.drop (k)) (m := (L.length - (k))) (by first | exact ownD | (rw [List.length_append, List.length_singleton]; exact ownD) | (rw [Nat.add_zero, List.length_append, List.length_singleton]; exact ownD)) (by rw [List.length_drop]))
     have AD2 := hide ((za AC).grown growD (fun q hq => (za HLC q hq).1))
     clear ownD growD HLC AC OC d0
     rw [← za ER] at OD
     obtain ⟨a3, cap3, hv3⟩ := Mem.za3 (za OD)
     subst hv3
     have z0 := (za AD2).three.cell 0
     have zf := (za AD2).three.fr 0
     simp only [kA0, kA1] at z0
     clear ER
     go_wp2
     refine bodyPost_ret (v := .agg #[.slice a3 R.length cap3]) (by simp [results, Tryz.results104, go_sem, z0]) rfl ⟨_, rfl, ?_, ?_⟩
     ·exact Mem.zb7 (Mem.za4 (za OD) _ _ (by show w.heap.size + 1 + 1 < w.heap.size + 3; omega)) (by omega)
     ·exact (za AD2).bel.setCell (by show w.heap.size ≤ w.heap.size + 1 + 1; omega) _
   ·rw [hle] at hls
    have HK2 : Hid (∀ (j : Nat) x, j < k + 1 → L[j]? = some x → Pl.zi3 ⟨np, nk, nd, nt, nm⟩ x = true) := fun j x hj hx => by
     rcases Nat.lt_succ_iff_lt_or_eq.1 hj with h3 | h3
     ·exact za HK j x h3 hx
     ·subst h3; rw [za EM] at hx; cases hx; rw [za HAH]; exact hle
    generalize m.path = qp at hls HQ
    clear hm EM hle HK
    have MK : Hid (∀ W', At w W' g o cap L ⟨np, nk, nd, nt, nm⟩ → (fun W' => At w W' g o cap L ⟨np, nk, nd, nt, nm⟩ ∧ W'.cell? ⟨w.heap.size, 0, none⟩ = some (.slice (some ⟨g, o, none⟩) L.length cap) ∧ W'.cell? ⟨w.heap.size + 1, 0, none⟩ = some (.string np) ∧ W'.cell? ⟨g, o + k * 5, none⟩ = some (.string qp)) W') := fun W' h => ⟨h, h.one.cell 0, h.two.cell 0, za HQ W' h.bel h⟩
    go_wp2_with fail
    refine wp_region_held_drew (S := fun W' => At w W' g o cap L ⟨np, nk, nd, nt, nm⟩ ∧ W'.cell? ⟨w.heap.size, 0, none⟩ = some (.slice (some ⟨g, o, none⟩) L.length cap) ∧ W'.cell? ⟨w.heap.size + 1, 0, none⟩ = some (.string np) ∧ W'.cell? ⟨g, o + k * 5, none⟩ = some (.string qp)) (by kernel_rfl) ?_ (fun hHeld => ?_)
    ·exact za MK _ (za HA).drew
    refine tka (i := 0) rfl ?_
    try simp only [Act.put, kBs]
    refine tka (i := 1) rfl ?_
    try simp only [Act.put, kBs]
    refine tka (i := 2) rfl ?_
    try simp only [Act.put, kBs]
    refine tka (i := 3) rfl ?_
    try simp only [Act.put, kBs]
    refine tka (i := 4) rfl ?_
    try simp only [Act.put, kBs]
    refine tka (i := 5) rfl ?_
    try simp only [Act.put, kBs]
    refine tka (i := 6) rfl ?_
    try simp only [Act.put, kBs]
    refine tka (i := 7) rfl ?_
    try simp only [Act.put, kBs]
    refine tka (i := 8) rfl ?_
    try simp only [Act.put, kBs]
    refine tka (i := 9) rfl ?_
    try simp only [Act.put, kBs]
    refine tka (i := 10) rfl ?_
    try simp only [Act.put, kBs]
    refine tka (i := 11) rfl ?_
    try simp only [Act.put, kBs]
    refine tka (i := 12) rfl ?_
    try simp only [Act.put, kBs]
    refine tka (i := 13) rfl ?_
    try simp only [Act.put, kBs]
    refine wpAnyH_ready (rs := [14]) (by kernel_rfl) (by simp) ?_
    refine AllReadyH.cons rfl (fun K hK => ?_) AllReadyH.nil
    go_simp
    refine (za hls _).mono ?_
    rintro e wX ⟨rfl, bX⟩
    refine hK.out _ _ ?_ (fun hHeld => ?_)
    ·exact za MK _ (hHeld.1.call bX)
    clear hK K
    try simp only [Act.put, kBs]
    refine tka (i := 15) rfl ?_
    try simp only [Act.put, kBs]
    refine wpAnyH_done (by kernel_rfl) ?_ _
    have AX := hide hHeld.1
    clear hHeld MK bX hls HA HQ
    go_wp2
    go_roundw
    case rel => exact ⟨k + 1, by omega, by go_num, AX, HK2⟩
    case measure => simp [intOf]; omega
  ·have y1 : ¬ (k : Int) < (L.length : Int) := by omega
   have hkl : k = L.length := by omega
   have HF : Hid (∀ x, L[k]? = some x → Pl.zi3 ⟨np, nk, nd, nt, nm⟩ x = false) := fun x hx => absurd (List.getElem?_eq_some_iff.1 hx).1 (by omega)
   clear HLS
   by_cases hc0 : cap = 0
   ·obtain rfl : L = [] := List.length_eq_zero_iff.1 (by omega)
    obtain rfl : k = 0 := by simpa using hkl
    subst cap
    clear hkl hcap
    have MK : Hid (∀ W', At w W' g o 0 ([] : List Pl.Nd) ⟨np, nk, nd, nt, nm⟩ → (fun W' => At w W' g o 0 ([] : List Pl.Nd) ⟨np, nk, nd, nt, nm⟩ ∧ W'.cell? ⟨w.heap.size, 0, none⟩ = some (.slice (some ⟨g, o, none⟩) ([] : List Pl.Nd).length 0) ∧ W'.cell? ⟨w.heap.size + 1, 0, none⟩ = some (.string np)) W') := fun W' h => ⟨h, h.one.cell 0, h.two.cell 0⟩
    go_wp2_with fail
    refine wp_region_held_drew (S := fun W' => At w W' g o 0 ([] : List Pl.Nd) ⟨np, nk, nd, nt, nm⟩ ∧ W'.cell? ⟨w.heap.size, 0, none⟩ = some (.slice (some ⟨g, o, none⟩) ([] : List Pl.Nd).length 0) ∧ W'.cell? ⟨w.heap.size + 1, 0, none⟩ = some (.string np)) (by kernel_rfl) ?_ (fun hHeld => ?_)
    ·exact za MK _ (za HA).drew
    refine tka (i := 0) rfl ?_
    try simp only [Act.put, kBs]
    refine tka (i := 1) rfl ?_
    try simp only [Act.put, kBs]
    refine tka (i := 2) rfl ?_
    try simp only [Act.put, kBs]
    refine tka (i := 3) rfl ?_
    try simp only [Act.put, kBs]
    refine tka (i := 4) rfl ?_
    try simp only [Act.put, kBs]
    refine tka (i := 5) rfl ?_
    try simp only [Act.put, kBs]
    refine tkc (i := 6) rfl ?_
    try simp only [Act.put, kBs]
    refine tkc (i := 7) rfl ?_
    try simp only [Act.put, kBs]
    refine tkc (i := 8) rfl ?_
    try simp only [Act.put, kBs]
    refine tkc (i := 9) rfl ?_
    try simp only [Act.put, kBs]
    refine tkc (i := 10) rfl ?_
    try simp only [Act.put, kBs]
    refine tkc (i := 11) rfl ?_
    try simp only [Act.put, kBs]
    refine tkc (i := 12) rfl ?_
    try simp only [Act.put, kBs]
    refine tkc (i := 13) rfl ?_
    try simp only [Act.put, kBs]
    refine tkc (i := 14) rfl ?_
    try simp only [Act.put, kBs]
    refine tka (i := 15) rfl ?_
    try simp only [Act.put, kBs]
    refine wpAnyH_done (by kernel_rfl) ?_ _
    generalize wr.drew = WE at hHeld ⊢
    have AX := hide hHeld.1
    clear hHeld MK HA
    have hsW := (za AX).three.lt
    have OA0 : Hid (Mem.ownN (WE.alloc (.cells #[] 88)) (w.heap.size + 3) (.slice (some ⟨WE.heap.size, 0, none⟩) 0 0) []) := ⟨rfl, .inr ⟨WE.heap.size, 0, #[], rfl, by omega, heap_alloc_new _ _, Nat.le_refl _, Nat.zero_le _, rfl, rfl⟩⟩
    have AA := hide ((za AX).alloc (.cells #[] 88))
    clear AX
    have d0 := (za AA).one.cell 0
    simp only [kA0, kA1] at d0
    have s0 : (0 : Int) ≤ ((0 : Nat) : Int) := by omega
    have s1 : ((0 : Nat) : Int) ≤ (([] : List Pl.Nd).length : Int) := by omega
    have hlk : (([] : List Pl.Nd).take 0).length = 0 := by rw [List.length_take]; omega
    have HLK := hide hlk
    clear hlk
    go_wp2_with (at_builtin; refine wpList_append_own _ rfl _ _ 34 rfl (w.heap.size + 3) 88 i0 _ 5 56 Tryz.underlying34 hi hz0 hz1 hz2 rfl (by decide) _ _ _ rfl (za OA0) ⟨g, o, none⟩ 0 0 (Pl.zb6 (([] : List Pl.Nd).take 0)) rfl (by rw [Pl.zn6, za HLK]) (zf4.zv7 (zy0 (za AA).nodes 0)) (zf4.cells_one _) (by rw [List.length_nil, Nat.zero_add]; unfold maxLen; omega) (by rw [List.length_nil, Nat.zero_add]; omega) (by have := (za AA).three.lt; omega) ?_)
    intro v1 wA ownA growA _
    have OA := hide (zf4.zk2 (A := []) (M := ([] : List Pl.Nd).take 0) (m := 0) (by rw [List.length_nil, Nat.zero_add]; exact ownA) (za HLK).symm)
    rw [List.nil_append] at OA
    obtain ⟨TK, hTK⟩ : ∃ TK, ([] : List Pl.Nd).take 0 = TK := ⟨_, rfl⟩
    rw [hTK] at OA
    have HTK := hide hTK
    clear hTK
    have A1 := hide ((za AA).grown growA (fun q hq => by have h9 : WE.heap.size = q := Option.some.inj hq; omega))
    clear ownA growA OA0 AA d0 hsW
    have e0 := (za A1).two.cell 0
    have e1 := (za A1).two.cell 1
    have e2 := (za A1).two.cell 2
    have e3 := (za A1).two.cell 3
    have e4 := (za A1).two.cell 4
    simp only [Pl.Nd.cs, kGs] at e0 e1 e2 e3 e4
    have HLA := hide (Mem.zd5 (za OA))
    have hlen1 : TK.length ≤ 1000 := by rw [← za HTK, List.length_take]; omega
    go_wp2_with (at_builtin; refine wpList_append_own _ rfl _ _ 34 rfl (w.heap.size + 3) 88 i0 _ 5 56 Tryz.underlying34 hi hz0 hz1 hz2 rfl (by decide) _ _ _ rfl (Mem.zd4 (za OA) _) ⟨wA.heap.size, 0, none⟩ 1 1 [.string np, .int .i64 nk, .string nd, .int .i64 nt, .int .i64 nm] rfl rfl (Mem.zi9 wA ⟨np, nk, nd, nt, nm⟩ _) (Mem.zi1 ⟨np, nk, nd, nt, nm⟩) (by unfold maxLen; omega) (by omega) (by have := (za A1).three.lt; simp; omega) ?_)
    intro v2 wB ownB growB _
    have OB := hide (Mem.zg7 (L := TK) (n := ⟨np, nk, nd, nt, nm⟩) ownB)
    have AB := hide (((za A1).alloc (.cells #[.string np, .int .i64 nk, .string nd, .int .i64 nt, .int .i64 nm] 88)).grown growB (fun q hq => (za HLA q hq).1))
    clear ownB growB OA A1 e0 e1 e2 e3 e4 HLA hlen1 HLK
    have ER := hide (show R = (TK ++ [⟨np, nk, nd, nt, nm⟩]) ++ [] by
     rw [← za HTK, za HPUT 0 (by omega) (za HK) (za HF), za HRD 0, if_neg (fun ⟨m, hm, _⟩ => by have := (List.getElem?_eq_some_iff.1 hm).1; omega), List.drop_eq_nil_of_le (by omega)]; simp)
    clear HPUT HRD HK HF HAH
    have MK : Hid (∀ W', At w W' g o 0 ([] : List Pl.Nd) ⟨np, nk, nd, nt, nm⟩ → (fun W' => At w W' g o 0 ([] : List Pl.Nd) ⟨np, nk, nd, nt, nm⟩ ∧ W'.cell? ⟨w.heap.size, 0, none⟩ = some (.slice (some ⟨g, o, none⟩) ([] : List Pl.Nd).length 0) ∧ W'.cell? ⟨w.heap.size + 1, 0, none⟩ = some (.string np)) W') := fun W' h => ⟨h, h.one.cell 0, h.two.cell 0⟩
    go_wp2_with fail
    refine wp_region_held_drew (S := fun W' => At w W' g o 0 ([] : List Pl.Nd) ⟨np, nk, nd, nt, nm⟩ ∧ W'.cell? ⟨w.heap.size, 0, none⟩ = some (.slice (some ⟨g, o, none⟩) ([] : List Pl.Nd).length 0) ∧ W'.cell? ⟨w.heap.size + 1, 0, none⟩ = some (.string np)) (by kernel_rfl) ?_ (fun hHeld => ?_)
    ·exact za MK _ (za AB).drew
    refine tka (i := 0) rfl ?_
    try simp only [Act.put, kBs]
    refine tka (i := 1) rfl ?_
    try simp only [Act.put, kBs]
    refine tka (i := 2) rfl ?_
    try simp only [Act.put, kBs]
    refine tka (i := 3) rfl ?_
    try simp only [Act.put, kBs]
    refine tka (i := 4) rfl ?_
    try simp only [Act.put, kBs]
    refine tka (i := 5) rfl ?_
    try simp only [Act.put, kBs]
    refine tkc (i := 6) rfl ?_
    try simp only [Act.put, kBs]
    refine tkc (i := 7) rfl ?_
    try simp only [Act.put, kBs]
    refine tkc (i := 8) rfl ?_
    try simp only [Act.put, kBs]
    refine tkc (i := 9) rfl ?_
    try simp only [Act.put, kBs]
    refine tkc (i := 10) rfl ?_
    try simp only [Act.put, kBs]
    refine tkc (i := 11) rfl ?_
    try simp only [Act.put, kBs]
    refine tkc (i := 12) rfl ?_
    try simp only [Act.put, kBs]
    refine tkc (i := 13) rfl ?_
    try simp only [Act.put, kBs]
    refine tkc (i := 14) rfl ?_
    try simp only [Act.put, kBs]
    refine tka (i := 15) rfl ?_
    try simp only [Act.put, kBs]
    refine wpAnyH_done (by kernel_rfl) ?_ _
    have OC : Hid (Mem.ownN wB.drew (w.heap.size + 3) v2 (TK ++ [⟨np, nk, nd, nt, nm⟩])) := za OB
    generalize wB.drew = WC at hHeld OC ⊢
    have AC := hide hHeld.1
    clear hHeld MK AB OB
    have s4 : ([] : List Pl.Nd).length = 0 := rfl
    have d0 := (za AC).one.cell 0
    simp only [kA0, kA1] at d0
    have HLC := hide (Mem.zd5 (za OC))
    have hlT : TK.length ≤ 1000 := by rw [← za HTK, List.length_take]; omega
    go_wp2_with (at_builtin; refine wpList_append_own _ rfl _ _ 34 rfl (w.heap.size + 3) 88 i0 _ 5 56 Tryz.underlying34 hi hz0 hz1 hz2 rfl (by decide) _ _ _ rfl (za OC) _ 0 _ (Pl.zb6 ([])) rfl (by simp [Pl.zb6]) (fun j u h => by simp [Pl.zb6] at h) (zf4.cells_one _) (by rw [List.length_append, List.length_singleton]; unfold maxLen; omega) (by rw [List.length_append, List.length_singleton]; omega) (by have := (za AC).three.lt; omega) ?_)
    intro v3 wD ownD growD _
    have OD := hide (zf4.zk2 (A := TK ++ [⟨np, nk, nd, nt, nm⟩]) (M := []) (m := 0) (by first | exact ownD | (rw [List.length_append, List.length_singleton]; exact ownD) | (rw [Nat.add_zero, List.length_append, List.length_singleton]; exact ownD)) (by simp))
    have AD2 := hide ((za AC).grown growD (fun q hq => (za HLC q hq).1))
    clear ownD growD HLC AC OC d0
    rw [← za ER] at OD
    obtain ⟨a3, cap3, hv3⟩ := Mem.za3 (za OD)
    subst hv3
    have z0 := (za AD2).three.cell 0
    have zf := (za AD2).three.fr 0
    simp only [kA0, kA1] at z0
    clear ER
    go_wp2
    refine bodyPost_ret (v := .agg #[.slice a3 R.length cap3]) (by simp [results, Tryz.results104, go_sem, z0]) rfl ⟨_, rfl, ?_, ?_⟩
    ·exact Mem.zb7 (Mem.za4 (za OD) _ _ (by show w.heap.size + 1 + 1 < w.heap.size + 3; omega)) (by omega)
    ·exact (za AD2).bel.setCell (by show w.heap.size ≤ w.heap.size + 1 + 1; omega) _
   ·clear hkl
    have MK : Hid (∀ W', At w W' g o cap L ⟨np, nk, nd, nt, nm⟩ → (fun W' => At w W' g o cap L ⟨np, nk, nd, nt, nm⟩ ∧ W'.cell? ⟨w.heap.size, 0, none⟩ = some (.slice (some ⟨g, o, none⟩) L.length cap) ∧ W'.cell? ⟨w.heap.size + 1, 0, none⟩ = some (.string np)) W') := fun W' h => ⟨h, h.one.cell 0, h.two.cell 0⟩
    go_wp2_with fail
    refine wp_region_held_drew (S := fun W' => At w W' g o cap L ⟨np, nk, nd, nt, nm⟩ ∧ W'.cell? ⟨w.heap.size, 0, none⟩ = some (.slice (some ⟨g, o, none⟩) L.length cap) ∧ W'.cell? ⟨w.heap.size + 1, 0, none⟩ = some (.string np)) (by kernel_rfl) ?_ (fun hHeld => ?_)
    ·exact za MK _ (za HA).drew
    refine tka (i := 0) rfl ?_
    try simp only [Act.put, kBs]
    refine tka (i := 1) rfl ?_
    try simp only [Act.put, kBs]
    refine tka (i := 2) rfl ?_
    try simp only [Act.put, kBs]
    refine tka (i := 3) rfl ?_
    try simp only [Act.put, kBs]
    refine tka (i := 4) rfl ?_
    try simp only [Act.put, kBs]
    refine tka (i := 5) rfl ?_
    try simp only [Act.put, kBs]
    refine tkc (i := 6) rfl ?_
    try simp only [Act.put, kBs]
    refine tkc (i := 7) rfl ?_
    try simp only [Act.put, kBs]
    refine tkc (i := 8) rfl ?_
    try simp only [Act.put, kBs]
    refine tkc (i := 9) rfl ?_
    try simp only [Act.put, kBs]
    refine tkc (i := 10) rfl ?_
    try simp only [Act.put, kBs]
    refine tkc (i := 11) rfl ?_
    try simp only [Act.put, kBs]
    refine tkc (i := 12) rfl ?_
    try simp only [Act.put, kBs]
    refine tkc (i := 13) rfl ?_
    try simp only [Act.put, kBs]
    refine tkc (i := 14) rfl ?_
    try simp only [Act.put, kBs]
    refine tka (i := 15) rfl ?_
    try simp only [Act.put, kBs]
    refine wpAnyH_done (by kernel_rfl) ?_ _
    generalize wr.drew = WE at hHeld ⊢
    have AX := hide hHeld.1
    clear hHeld MK HA
    have hsW := (za AX).three.lt
    have OA0 : Hid (Mem.ownN (WE.alloc (.cells #[] 88)) (w.heap.size + 3) (.slice (some ⟨WE.heap.size, 0, none⟩) 0 0) []) := ⟨rfl, .inr ⟨WE.heap.size, 0, #[], rfl, by omega, heap_alloc_new _ _, Nat.le_refl _, Nat.zero_le _, rfl, rfl⟩⟩
    have AA := hide ((za AX).alloc (.cells #[] 88))
    clear AX
    have d0 := (za AA).one.cell 0
    simp only [kA0, kA1] at d0
    have s0 : (0 : Int) ≤ (k : Int) := by omega
    have s1 : (k : Int) ≤ (L.length : Int) := by omega
    have hlk : (L.take k).length = k := by rw [List.length_take]; omega
    have HLK := hide hlk
    clear hlk
    go_wp2_with (at_builtin; refine wpList_append_own _ rfl _ _ 34 rfl (w.heap.size + 3) 88 i0 _ 5 56 Tryz.underlying34 hi hz0 hz1 hz2 rfl (by decide) _ _ _ rfl (za OA0) ⟨g, o, none⟩ k cap (Pl.zb6 (L.take k)) rfl (by rw [Pl.zn6, za HLK]) (zf4.zv7 (zy0 (za AA).nodes k)) (zf4.cells_one _) (by rw [List.length_nil, Nat.zero_add]; unfold maxLen; omega) (by rw [List.length_nil, Nat.zero_add]; omega) (by have := (za AA).three.lt; omega) ?_)
    intro v1 wA ownA growA _
    have OA := hide (zf4.zk2 (A := []) (M := L.take k) (m := k) (by rw [List.length_nil, Nat.zero_add]; exact ownA) (za HLK).symm)
    rw [List.nil_append] at OA
    obtain ⟨TK, hTK⟩ : ∃ TK, L.take k = TK := ⟨_, rfl⟩
    rw [hTK] at OA
    have HTK := hide hTK
    clear hTK
    have A1 := hide ((za AA).grown growA (fun q hq => by have h9 : WE.heap.size = q := Option.some.inj hq; omega))
    clear ownA growA OA0 AA d0 hsW
    have e0 := (za A1).two.cell 0
    have e1 := (za A1).two.cell 1
    have e2 := (za A1).two.cell 2
    have e3 := (za A1).two.cell 3
    have e4 := (za A1).two.cell 4
    simp only [Pl.Nd.cs, kGs] at e0 e1 e2 e3 e4
    have HLA := hide (Mem.zd5 (za OA))
    have hlen1 : TK.length ≤ 1000 := by rw [← za HTK, List.length_take]; omega
    go_wp2_with (at_builtin; refine wpList_append_own _ rfl _ _ 34 rfl (w.heap.size + 3) 88 i0 _ 5 56 Tryz.underlying34 hi hz0 hz1 hz2 rfl (by decide) _ _ _ rfl (Mem.zd4 (za OA) _) ⟨wA.heap.size, 0, none⟩ 1 1 [.string np, .int .i64 nk, .string nd, .int .i64 nt, .int .i64 nm] rfl rfl (Mem.zi9 wA ⟨np, nk, nd, nt, nm⟩ _) (Mem.zi1 ⟨np, nk, nd, nt, nm⟩) (by unfold maxLen; omega) (by omega) (by have := (za A1).three.lt; simp; omega) ?_)
    intro v2 wB ownB growB _
    have OB := hide (Mem.zg7 (L := TK) (n := ⟨np, nk, nd, nt, nm⟩) ownB)
    have AB := hide (((za A1).alloc (.cells #[.string np, .int .i64 nk, .string nd, .int .i64 nt, .int .i64 nm] 88)).grown growB (fun q hq => (za HLA q hq).1))
    clear ownB growB OA A1 e0 e1 e2 e3 e4 HLA hlen1 HLK
    have ER := hide (show R = (TK ++ [⟨np, nk, nd, nt, nm⟩]) ++ [] by
     rw [← za HTK, za HPUT k (by omega) (za HK) (za HF), za HRD k, if_neg (fun ⟨m, hm, _⟩ => by have := (List.getElem?_eq_some_iff.1 hm).1; omega), List.drop_eq_nil_of_le (by omega)]; simp)
    clear HPUT HRD HK HF HAH
    have MK : Hid (∀ W', At w W' g o cap L ⟨np, nk, nd, nt, nm⟩ → (fun W' => At w W' g o cap L ⟨np, nk, nd, nt, nm⟩ ∧ W'.cell? ⟨w.heap.size, 0, none⟩ = some (.slice (some ⟨g, o, none⟩) L.length cap) ∧ W'.cell? ⟨w.heap.size + 1, 0, none⟩ = some (.string np)) W') := fun W' h => ⟨h, h.one.cell 0, h.two.cell 0⟩
    go_wp2_with fail
    refine wp_region_held_drew (S := fun W' => At w W' g o cap L ⟨np, nk, nd, nt, nm⟩ ∧ W'.cell? ⟨w.heap.size, 0, none⟩ = some (.slice (some ⟨g, o, none⟩) L.length cap) ∧ W'.cell? ⟨w.heap.size + 1, 0, none⟩ = some (.string np)) (by kernel_rfl) ?_ (fun hHeld => ?_)
    ·exact za MK _ (za AB).drew
    refine tka (i := 0) rfl ?_
    try simp only [Act.put, kBs]
    refine tka (i := 1) rfl ?_
    try simp only [Act.put, kBs]
    refine tka (i := 2) rfl ?_
    try simp only [Act.put, kBs]
    refine tka (i := 3) rfl ?_
    try simp only [Act.put, kBs]
    refine tka (i := 4) rfl ?_
    try simp only [Act.put, kBs]
    refine tka (i := 5) rfl ?_
    try simp only [Act.put, kBs]
    refine tkc (i := 6) rfl ?_
    try simp only [Act.put, kBs]
    refine tkc (i := 7) rfl ?_
    try simp only [Act.put, kBs]
    refine tkc (i := 8) rfl ?_
    try simp only [Act.put, kBs]
    refine tkc (i := 9) rfl ?_
    try simp only [Act.put, kBs]
    refine tkc (i := 10) rfl ?_
    try simp only [Act.put, kBs]
    refine tkc (i := 11) rfl ?_
    try simp only [Act.put, kBs]
    refine tkc (i := 12) rfl ?_
    try simp only [Act.put, kBs]
    refine tkc (i := 13) rfl ?_
    try simp only [Act.put, kBs]
    refine tkc (i := 14) rfl ?_
    try simp only [Act.put, kBs]
    refine tka (i := 15) rfl ?_
    try simp only [Act.put, kBs]
    refine wpAnyH_done (by kernel_rfl) ?_ _
    have OC : Hid (Mem.ownN wB.drew (w.heap.size + 3) v2 (TK ++ [⟨np, nk, nd, nt, nm⟩])) := za OB
    generalize wB.drew = WC at hHeld OC ⊢
    have AC := hide hHeld.1
    clear hHeld MK AB OB
    by_cases s4 : cap = k
    ·have s5 : L.length = k := by omega
     have d0 := (za AC).one.cell 0
     simp only [kA0, kA1] at d0
     have HLC := hide (Mem.zd5 (za OC))
     have hlT : TK.length ≤ 1000 := by rw [← za HTK, List.length_take]; omega
     go_wp2_with (at_builtin; refine wpList_append_own _ rfl _ _ 34 rfl (w.heap.size + 3) 88 i0 _ 5 56 Tryz.underlying34 hi hz0 hz1 hz2 rfl (by decide) _ _ _ rfl (za OC) _ 0 _ (Pl.zb6 ([])) rfl (by simp [Pl.zb6]) (fun j u h => by simp [Pl.zb6] at h) (zf4.cells_one _) (by rw [List.length_append, List.length_singleton]; unfold maxLen; omega) (by rw [List.length_append, List.length_singleton]; omega) (by have := (za AC).three.lt; omega) ?_)
     intro v3 wD ownD growD _
     have OD := hide (zf4.zk2 (A := TK ++ [⟨np, nk, nd, nt, nm⟩]) (M := []) (m := 0) (by first | exact ownD | (rw [List.length_append, List.length_singleton]; exact ownD) | (rw [Nat.add_zero, List.length_append, List.length_singleton]; exact ownD)) (by simp))
     have AD2 := hide ((za AC).grown growD (fun q hq => (za HLC q hq).1))
     clear ownD growD HLC AC OC d0
     rw [← za ER] at OD
     obtain ⟨a3, cap3, hv3⟩ := Mem.za3 (za OD)
     subst hv3
     have z0 := (za AD2).three.cell 0
     have zf := (za AD2).three.fr 0
     simp only [kA0, kA1] at z0
     clear ER
     go_wp2
     refine bodyPost_ret (v := .agg #[.slice a3 R.length cap3]) (by simp [results, Tryz.results104, go_sem, z0]) rfl ⟨_, rfl, ?_, ?_⟩
     ·exact Mem.zb7 (Mem.za4 (za OD) _ _ (by show w.heap.size + 1 + 1 < w.heap.size + 3; omega)) (by omega)
     ·exact (za AD2).bel.setCell (by show w.heap.size ≤ w.heap.size + 1 + 1; omega) _
    ·have s5 : L.length = k := by omega
     have d0 := (za AC).one.cell 0
     simp only [kA0, kA1] at d0
     have HLC := hide (Mem.zd5 (za OC))
     have hlT : TK.length ≤ 1000 := by rw [← za HTK, List.length_take]; omega
     go_wp2_with (at_builtin; refine wpList_append_own _ rfl _ _ 34 rfl (w.heap.size + 3) 88 i0 _ 5 56 Tryz.underlying34 hi hz0 hz1 hz2 rfl (by decide) _ _ _ rfl (za OC) _ 0 _ (Pl.zb6 ([])) rfl (by simp [Pl.zb6]) (fun j u h => by simp [Pl.zb6] at h) (zf4.cells_one _) (by rw [List.length_append, List.length_singleton]; unfold maxLen; omega) (by rw [List.length_append, List.length_singleton]; omega) (by have := (za AC).three.lt; omega) ?_)
     intro v3 wD ownD growD _
     have OD := hide (zf4.zk2 (A := TK ++ [⟨np, nk, nd, nt, nm⟩]) (M := []) (m := 0) (by first | exact ownD | (rw [List.length_append, List.length_singleton]; exact ownD) | (rw [Nat.add_zero, List.length_append, List.length_singleton]; exact ownD)) (by simp))
     have AD2 := hide ((za AC).grown growD (fun q hq => (za HLC q hq).1))
     clear ownD growD HLC AC OC d0
     rw [← za ER] at OD
     obtain ⟨a3, cap3, hv3⟩ := Mem.za3 (za OD)
     subst hv3
     have z0 := (za AD2).three.cell 0
     have zf := (za AD2).three.fr 0
     simp only [kA0, kA1] at z0
     clear ER
     go_wp2
     refine bodyPost_ret (v := .agg #[.slice a3 R.length cap3]) (by simp [results, Tryz.results104, go_sem, z0]) rfl ⟨_, rfl, ?_, ?_⟩
     ·exact Mem.zb7 (Mem.za4 (za OD) _ _ (by show w.heap.size + 1 + 1 < w.heap.size + 3; omega)) (by omega)
     ·exact (za AD2).bel.setCell (by show w.heap.size ≤ w.heap.size + 1 + 1; omega) _
end zn4
end Go.Proofs.YtioildojmckepaaGreatDoor
