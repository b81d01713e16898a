/- Several texts of one claim in one file: WCutR, WBase1S, WDec, WDrawTk. -/
import Derived.Test.YtepmojmelcngeaaGreatDoorPlainCut
import Derived.Test.YtepmojmelcngeaaGreatDoorWCutS
import Derived.Test.YtepmojmelcngeaaGreatDoorWGetP
import Derived.Test.YtepmojmelcngeaaGreatDoorG24
import Derived.Test.YtepmojmelcngeaaGreatDoorG20
import Derived.Test.YtepmojmelcngeaaGreatDoorG02
import Derived.Test.YtepmojmelcngeaaGreatDoorG08
import Derived.Test.YtepmojmelcngeaaGreatDoorProg
import Derived.WalkSpells
import Derived.RegionTactic
import Derived.Test.YtepmojmelcngeaaGreatDoorWDrawNd
import Derived.Test.YtepmojmelcngeaaGreatDoorWPutD
import Derived.Test.YtepmojmelcngeaaGreatDoorG43
/- The walk of the specification's TreeCut. -/
namespace Go.Proofs.YtepmojmelcngeaaGreatDoor
open Go.RowKit Go.Maps
namespace WCutF
set_option linter.unusedSimpArgs false in
set_option maxRecDepth 100000 in
set_option maxHeartbeats 2000000 in
theorem spec_any (a : Option Addr) (cap : Nat) (L : List Pl.Nd) (p : ByteArray) (n : Pl.Nd) (c : Int) (hV : Pl.getV L p = .agg #[.string n.path, .int .i64 n.kind, .string n.data, .int .i64 n.time, .int .i64 n.mark, .int .i64 c]) (w : World) (hl : L.length ≤ 1048576) (hv : Mem.isNodes w a L) (hok : ∀ n ∈ L, n.path.size ≤ 1048576 ∧ n.data.size ≤ 1048576) (hp : p.size ≤ 1048576) :
    Calls Tryz.prog 108 #[.agg #[.slice a L.length cap], .string p] w fun e w' => ∃ v, e = .returned (.agg #[v, .int .i64 c]) ∧ Mem.ownN w' w.heap.size v (Pl.cutO p L c) ∧ Below w.heap.size w w' := by
  have b0 : Below w.heap.size w ((w.alloc (.cells #[.slice a L.length cap] 31)).alloc (.cells #[.slice none 0 0, .int .i64 0] 33)) := ((Below.refl _ _).alloc (Nat.le_refl _) _).alloc (by simp) _
  have hg := hide (WGetT.spec_any a cap L p _ hl (Mem.nodes_call hv b0) hok hp)
  rw [hV] at hg
  have hc := hide (fun W (b : Below w.heap.size w W) => WCutS.l03_any a cap L p W hl (Mem.nodes_call hv b) hp)
  have V1 := (Mem.Blk.new w #[.slice a L.length cap] 31).alloc (.cells #[.slice none 0 0, .int .i64 0] 33)
  have V2 : Mem.Blk ((w.alloc (.cells #[.slice a L.length cap] 31)).alloc (.cells #[.slice none 0 0, .int .i64 0] 33)) (w.heap.size + 1) #[.slice none 0 0, .int .i64 0] 33 := Mem.new_two _ _ _
  clear hv hok hV
  by_cases h0 : c = 0
  · subst h0
    rw [show Pl.cutO p L 0 = Pl.offL p L from rfl]
    go_enter Tryz.func108, Tryz.ntmps108
    go_wp2_with fail
    refine (unhide hg).mono ?_
    rintro e w1 ⟨rfl, b1⟩
    have b2 := b0.trans (b1.mono b0.size)
    have b3 := b2.alloc b2.size (.cells #[.string n.path, .int .i64 n.kind, .string n.data, .int .i64 n.time, .int .i64 n.mark, .int .i64 0] 52)
    have V3 := (V2.call b1).alloc (.cells #[.string n.path, .int .i64 n.kind, .string n.data, .int .i64 n.time, .int .i64 n.mark, .int .i64 0] 52)
    have c0 := ((V1.call b1).alloc (.cells #[.string n.path, .int .i64 n.kind, .string n.data, .int .i64 n.time, .int .i64 n.mark, .int .i64 0] 52)).cell 0
    simp only [kA0, kA1] at c0
    have hs : w.heap.size + 1 < (w1.alloc (.cells #[.string n.path, .int .i64 n.kind, .string n.data, .int .i64 n.time, .int .i64 n.mark, .int .i64 0] 52)).heap.size := V3.lt
    clear hg b0 b1 V1 V2 b2
    go_wp2_with fail
    refine (unhide hc _ b3).mono ?_
    rintro e w3 ⟨v, rfl, own, b4⟩
    obtain ⟨a', cap', rfl⟩ := Mem.own_shape own
    have OW := hide own
    have b5 := b3.trans (b4.mono b3.size)
    have V4 := V3.call b4
    have d0 := V4.cell 0
    have d1 := V4.cell 1
    have f0 := V4.fr 0
    have f1 := V4.fr 1
    simp only [kA0, kA1, kA2] at d0 d1
    have HS := hide hs
    clear b3 b4 V3 hc own c0 hs
    go_wp2
    refine bodyPost_ret (v := .agg #[.slice a' (Pl.offL p L).length cap', .int .i64 0]) (by simp [results, Tryz.results108, go_sem, d0, d1]) rfl ⟨_, rfl, ?_, ?_⟩
    · exact Mem.ownN_mono (Mem.ownN_set (Mem.ownN_set (unhide OW) _ _ (unhide HS)) _ _ (unhide HS)) (by have := unhide HS; omega)
    · exact (b5.setCell (by show w.heap.size ≤ w.heap.size + 1; omega) _).setCell (by show w.heap.size ≤ w.heap.size + 1; omega) _
  · have t0 : (c == 0) = false := by simpa using h0
    rw [show Pl.cutO p L c = [] by rw [Pl.cutO, if_neg h0]]
    clear hc h0
    go_enter Tryz.func108, Tryz.ntmps108
    go_wp2_with fail
    refine (unhide hg).mono ?_
    rintro e w1 ⟨rfl, b1⟩
    have b2 := b0.trans (b1.mono b0.size)
    have b3 := b2.alloc b2.size (.cells #[.string n.path, .int .i64 n.kind, .string n.data, .int .i64 n.time, .int .i64 n.mark, .int .i64 c] 52)
    have V3 := (V2.call b1).alloc (.cells #[.string n.path, .int .i64 n.kind, .string n.data, .int .i64 n.time, .int .i64 n.mark, .int .i64 c] 52)
    clear hg b0 b1 V1 V2 b2
    go_wp2_with fail
    refine (WIll3.ill_any c _).mono ?_
    rintro e w3 ⟨rfl, b4⟩
    have b5 := b3.trans (b4.mono b3.size)
    have V4 := V3.call b4
    have d0 := V4.cell 0
    have d1 := V4.cell 1
    have f0 := V4.fr 0
    have f1 := V4.fr 1
    simp only [kA0, kA1, kA2] at d0 d1
    clear b3 b4 V3
    go_wp2
    refine bodyPost_ret (v := .agg #[.slice none 0 0, .int .i64 c]) (by simp [results, Tryz.results108, go_sem, d0, d1]) rfl ⟨_, rfl, Mem.ownN_nil _ _, ?_⟩
    exact (b5.setCell (by show w.heap.size ≤ w.heap.size + 1; omega) _).setCell (by show w.heap.size ≤ w.heap.size + 1; omega) _
end WCutF
end Go.Proofs.YtepmojmelcngeaaGreatDoor

/- The walk of the specification's l02Base. -/
namespace Go.Proofs.YtepmojmelcngeaaGreatDoor
open Go.RowKit
namespace WPathS
theorem base1_any (s : ByteArray) (w : World) (hs : s.size ≤ maxLen) :
    Calls Tryz.prog 95 #[.string s] w fun e w' => e = .returned (.string (Pl.base s)) ∧ w' = w := by
  have hb := Pl.slash_lt s s.size
  have hc := hide (fun W => cut_any s W hs)
  unfold maxLen at hs
  have E : Hid (Pl.base s = s.extract (Pl.slashTo s s.size + 1).toNat s.size) := rfl
  generalize Pl.base s = R at E ⊢
  generalize Pl.slashTo s s.size = k at hc hb E
  have t1 : 0 ≤ k + 1 := by omega
  have t2 : k + 1 ≤ (s.size : Int) := by omega
  go_enter Tryz.func95, Tryz.ntmps95
  go_wp2_with (go_at_call 96; refine (unhide hc _).mono ?_; rintro e w' ⟨rfl, hw⟩; obtain rfl := hw.symm)
  go_ret
  exact ⟨ret_string (unhide E).symm, rfl⟩
end WPathS
end Go.Proofs.YtepmojmelcngeaaGreatDoor

/- The walk of the specification's l01Dec (the digits of a small number): only how long it is. -/
namespace Go.Proofs.YtepmojmelcngeaaGreatDoor
open Go.RowKit
namespace WDec
set_option maxRecDepth 100000 in
set_option maxHeartbeats 400000 in
theorem dec_any (K : Nat) (w : World) (h0 : 0 < K) (hK : K ≤ 1000000) :
    Calls Tryz.prog 109 #[.int .i64 (K : Int)] w fun e w' => ∃ t : ByteArray, t.size ≤ K ∧ e = .returned (.string t) ∧ Below w.heap.size w w' := by
  have p1 : ¬ (K : Int) = 0 := by omega
  have p3 : ¬ (K : Int) < 0 := by omega
  go_enter Tryz.func109, Tryz.ntmps109
  go_wp2
  go_loopw [0, 4] (fun a o wr => ∃ (k : Nat) (out : List UInt8), out.length + k ≤ K ∧ a = .int .i64 (k : Int) ∧ o = .string ⟨out.toArray⟩ ∧ Below w.heap.size w wr) (fun a _ _ => (intOf a).toNat)
  case atStart => exact ⟨K, [], by simp, rfl, rfl, Below.refl _ _⟩
  case round =>
    obtain ⟨k, out, hk, rfl, rfl, hbel⟩ := hrel
    have hsz := hbel.size
    have ho : ¬ 9223372036854775807 < 1 + out.length := by omega
    by_cases hk0 : 0 < k
    · have p2 : ¬ (k : Int) = 0 := by omega
      have p4 : ¬ (k : Int) % 10 < 0 := by omega
      have p5 : ¬ (k : Int).tmod 10 < 0 := by have := Int.tmod_nonneg 10 (show (0 : Int) ≤ (k : Int) by omega); omega
      have hb : ((UInt8.ofNat (48 + k % 10)).toNat : Int) = 48 + (k : Int) % 10 := by
        rw [UInt8.toNat_ofNat_of_lt' (by show 48 + k % 10 < 256; omega)]; omega
      have hcv := Mem.row_text (P := Tryz.prog) (w := wr.alloc (.cells #[.int .u8 (48 + (k : Int) % 10)] 5)) (n := 1) (cap := 1) Tryz.underlying43 Tryz.underlying5 Tryz.underlying9 [UInt8.ofNat (48 + k % 10)] rfl (heap_alloc_new wr _) (by simp only [List.map_cons, List.map_nil, Pl.byteVal, hb]; rfl)
      have HX : Hid ((⟨[UInt8.ofNat (48 + k % 10)].toArray⟩ : ByteArray) ++ (⟨out.toArray⟩ : ByteArray) = ⟨(UInt8.ofNat (48 + k % 10) :: out).toArray⟩) := by
        show _ = _
        rw [Pl.put_behind]; rfl
      have hbel2 := hbel.alloc hsz (.cells #[.int .u8 (48 + (k : Int) % 10)] 5)
      generalize UInt8.ofNat (48 + k % 10) = b at hcv HX
      clear hb
      go_wp2
      go_roundw
      case rel => exact ⟨k / 10, b :: out, by simp; omega, by go_num, congrArg Value.string HX.out, hbel2⟩
      case measure => simp [intOf]; omega
    · obtain rfl : k = 0 := by omega
      go_wp2
      go_ret
      exact ⟨_, by show out.toArray.size ≤ K; simp; omega, rfl, hbel⟩
end WDec
end Go.Proofs.YtepmojmelcngeaaGreatDoor

/- What the draw of a tree keeps; what a drawn tree is. -/
namespace Go.Proofs.YtepmojmelcngeaaGreatDoor
open Go.RowKit
namespace Pl
def smallD (n : Nd) : Prop := n.path.size ≤ 200 ∧ n.data.size ≤ 200 ∧ -2000000 ≤ n.kind ∧ n.kind ≤ 2000000 ∧ -2000000 ≤ n.time ∧ n.time ≤ 2000000 ∧ -2000000 ≤ n.mark ∧ n.mark ≤ 2000000
def smallL (L : List Nd) : Prop := ∀ n ∈ L, smallD n
theorem base_size (s : ByteArray) : (base s).size ≤ s.size := by
  unfold base; rw [ByteArray.size_extract]; omega
theorem putO_small {L : List Nd} {n : Nd} (h : smallL L) (hn : smallD n) : smallL (putO L n) := by
  intro m hm
  unfold putO addO at hm
  split at hm
  · split at hm
    · rcases put_mem hm with rfl | h2
      · exact hn
      · exact h m h2
    · simp at hm
  · simp at hm
theorem cutO_small {L : List Nd} {p : ByteArray} {c : Int} (h : smallL L) : smallL (cutO p L c) := by
  intro m hm
  unfold cutO at hm
  split at hm
  · exact h m (List.mem_filter.1 hm).1
  · simp at hm
theorem small_ok {L : List Nd} (h : smallL L) : ∀ n ∈ L, n.path.size ≤ 1048576 ∧ n.data.size ≤ 1048576 := fun n hn => by
  have := h n hn
  unfold smallD at this
  omega
end Pl
namespace WSrc
/-- A drawn tree: its slice, in memory from B on. -/
def TreeV (W : World) (B : Nat) (a : Option Addr) (cap : Nat) (L : List Pl.Nd) : Prop := Mem.isNodes W a L ∧ WPutG.okA W a cap L ∧ (∀ g o, a = some ⟨g, o, none⟩ → B ≤ g)
theorem TreeV.grown {W W' : World} {B cap : Nat} {a : Option Addr} {L : List Pl.Nd} {r : Option Nat} (h : TreeV W B a cap L) (g : W.grownBy W' r) (hr : ∀ q, r = some q → q < B) : TreeV W' B a cap L := by
  refine ⟨?_, WPutG.okA_call h.2.1 g.size, h.2.2⟩
  rcases h.2.1 with ⟨rfl, rfl, rfl⟩ | ⟨b, o, rfl, h2, h3⟩
  · exact Mem.nodes_nil _ _
  · exact Mem.nodes_grown h.1 g (fun e => by have := hr _ e.symm; have := h.2.2 b o rfl; omega)
theorem TreeV.call {W W' : World} {B cap : Nat} {a : Option Addr} {L : List Pl.Nd} (h : TreeV W B a cap L) (b : Below W.heap.size W W') : TreeV W' B a cap L := h.grown (below_grown b none) (fun q hq => by cases hq)
theorem TreeV.mono {W : World} {B B' cap : Nat} {a : Option Addr} {L : List Pl.Nd} (h : TreeV W B a cap L) (hb : B' ≤ B) : TreeV W B' a cap L := ⟨h.1, h.2.1, fun g o e => Nat.le_trans hb (h.2.2 g o e)⟩
theorem TreeV.alloc {W : World} {B cap : Nat} {a : Option Addr} {L : List Pl.Nd} (h : TreeV W B a cap L) (o : Obj) : TreeV (W.alloc o) B a cap L := h.call ((Below.refl _ _).alloc (Nat.le_refl _) o)
theorem TreeV.set {W : World} {B cap : Nat} {a : Option Addr} {L : List Pl.Nd} (h : TreeV W B a cap L) (X k : Nat) (v : Value) (hX : X < B) : TreeV (W.setCell ⟨X, k, none⟩ v) B a cap L :=
  h.grown (r := some X) (grown_set (grown_refl _ _)) (fun q hq => by cases hq; exact hX)
theorem treeV_own {W : World} {B cap n : Nat} {a : Option Addr} {L : List Pl.Nd} (h : Mem.ownN W B (.slice a n cap) L) : TreeV W B a cap L := by
  refine ⟨(Mem.ownN_nodes h).2, ?_, ?_⟩
  · rcases h.2 with ⟨e, h0⟩ | ⟨g, cap', cur, e, hb, hg, hc, hm, hsz, ht⟩
    · injection e with e1 e2 e3
      exact .inl ⟨e1, e3, List.length_eq_zero_iff.1 h0⟩
    · injection e with e1 e2 e3
      subst e1 e3
      exact .inr ⟨g, 0, rfl, (Array.getElem?_eq_some_iff.1 hg).1, hc⟩
  · intro g o e
    subst e
    exact (Mem.ownN_lt h g rfl).1
/-- What the draw of a tree keeps. -/
structure Tk (w W : World) (S : Nat) (a : Option Addr) (len cap : Nat) (v : Value) (L : List Pl.Nd) : Prop where
  lo : S < w.heap.size
  src : Src W S a len cap
  gr : w.grownBy W (some S)
  two : Mem.Blk W w.heap.size #[.slice none 0 0] 31
  one : Mem.Blk W (w.heap.size + 1) #[v] 31
  own : Mem.ownN W (w.heap.size + 2) v L
  ok : Pl.smallL L
section
variable {w W W' : World} {S len cap : Nat} {a : Option Addr} {v : Value} {L : List Pl.Nd}
theorem Tk.lt (h : Tk w W S a len cap v L) : w.heap.size + 2 ≤ W.heap.size := h.one.lt
theorem Tk.call (h : Tk w W S a len cap v L) (s : Src W' S a len cap) (g : W.grownBy W' (some S)) : Tk w W' S a len cap v L :=
  have l := h.lo
  ⟨h.lo, s, h.gr.trans g, h.two.grown g (by simp; omega), h.one.grown g (by simp; omega), Mem.ownN_grown h.own g (fun q hq e => by cases e; have := (Mem.ownN_lt h.own _ hq).1; omega), h.ok⟩
theorem Tk.below (h : Tk w W S a len cap v L) (b : Below W.heap.size W W') : Tk w W' S a len cap v L := h.call (src_below h.src b) (below_grown b _)
theorem Tk.alloc (h : Tk w W S a len cap v L) (o : Obj) : Tk w (W.alloc o) S a len cap v L := h.below ((Below.refl _ _).alloc (Nat.le_refl _) o)
theorem Tk.drew (h : Tk w W S a len cap v L) : Tk w W.drew S a len cap v L := ⟨h.lo, h.src, grown_drew h.gr, h.two, h.one, h.own, h.ok⟩
theorem Tk.set (h : Tk w W S a len cap v L) (X k : Nat) (u : Value) (hX : w.heap.size + 2 ≤ X) (hv : ∀ g, v.ownBlock = some g → X ≠ g) : Tk w (W.setCell ⟨X, k, none⟩ u) S a len cap v L :=
  have l := h.lo
  ⟨h.lo, src_put h.src k _ (by omega), grown_put h.gr k _ (by omega), h.two.far _ _ (by show w.heap.size ≠ X; omega), h.one.far _ _ (by show w.heap.size + 1 ≠ X; omega), Mem.ownN_far h.own _ _ hv, h.ok⟩
/-- Another tree in its place. -/
theorem Tk.put (h : Tk w W S a len cap v L) {v' : Value} {L' : List Pl.Nd} (own : Mem.ownN W (w.heap.size + 2) v' L') (ok : Pl.smallL L') : Tk w (W.setCell ⟨w.heap.size + 1, 0, none⟩ v') S a len cap v' L' :=
  have l := h.lo
  ⟨h.lo, src_put h.src 0 _ (by omega), grown_put h.gr 0 _ (by omega), h.two.far _ _ (by show w.heap.size ≠ w.heap.size + 1; omega), h.one.put 0 v', Mem.ownN_set own _ _ (by show w.heap.size + 1 < w.heap.size + 2; omega), ok⟩
/-- A row that has grown. -/
theorem Tk.app (h : Tk w W S a len cap v L) {v' : Value} {L' : List Pl.Nd} (gr : W.grownBy W' v.ownBlock) (own : Mem.ownN W' (w.heap.size + 2) v' L') (ok : Pl.smallL L') : Tk w (W'.setCell ⟨w.heap.size + 1, 0, none⟩ v') S a len cap v' L' := by
  have l := h.lo
  have hv := Mem.ownN_lt h.own
  have hs := h.src
  refine ⟨h.lo, src_put ?_ 0 _ (by omega), grown_put ?_ 0 _ (by omega), (h.two.grown gr (fun e => by have := (hv _ e.symm).1; omega)).far _ _ (by show w.heap.size ≠ w.heap.size + 1; omega), (h.one.grown gr (fun e => by have := (hv _ e.symm).1; omega)).put 0 v', Mem.ownN_set own _ _ (by show w.heap.size + 1 < w.heap.size + 2; omega), ok⟩
  · obtain ⟨hr, p, m, sz, hb, hp, h0, h1⟩ := hs
    have hS : S < W.heap.size := (Array.getElem?_eq_some_iff.1 hb).1
    refine ⟨⟨hr.1, hr.2.1, fun i hi => ?_⟩, p, m, sz, (gr.block S hS (fun e => by have := (hv _ e.symm).1; omega)).trans hb, hp, h0, h1⟩
    obtain ⟨b, o, n, e1, e2, e3, e4⟩ := hr.2.2 i hi
    exact ⟨b, o, n, e1, e2, e3, (cell_heap (gr.block b (by omega) (fun e => by have := (hv _ e.symm).1; omega))).trans e4⟩
  · exact ⟨gr.os.trans h.gr.os, gr.tape.trans h.gr.tape, gr.output.trans h.gr.output, Nat.le_trans h.gr.size gr.size, fun j hj hne => (gr.block j (Nat.lt_of_lt_of_le hj h.gr.size) (fun e => by have := (hv _ e.symm).1; omega)).trans (h.gr.block j hj hne)⟩
theorem Tk.mid (h : Tk w W S a len cap v L) (gr : W.grownBy W' v.ownBlock) : Mem.Blk W' (w.heap.size + 1) #[v] 31 := by
  have hv := Mem.ownN_lt h.own
  exact h.one.grown gr (fun e => by have := (hv _ e.symm).1; omega)
theorem Tk.size (h : Tk w W S a len cap v L) : ∃ sz : Int, 0 ≤ sz ∧ sz ≤ 12 ∧ W.cell? ⟨S, 3, none⟩ = some (.int .i64 sz) := by
  obtain ⟨hr, p, m, sz, hb, hp, h0, h1⟩ := h.src
  exact ⟨sz, h0, h1, by rw [cell_of_row W S 3 _ _ (0, 0) hb]; rfl⟩
theorem Tk.done {va : Option Addr} {vc n : Nat} (h : Tk w W S a len cap (.slice va n vc) L) : TreeV (W.setCell ⟨w.heap.size, 0, none⟩ (.slice va n vc)) w.heap.size va vc L ∧ Src (W.setCell ⟨w.heap.size, 0, none⟩ (.slice va n vc)) S a len cap ∧ w.grownBy (W.setCell ⟨w.heap.size, 0, none⟩ (.slice va n vc)) (some S) ∧ Mem.Blk (W.setCell ⟨w.heap.size, 0, none⟩ (.slice va n vc)) w.heap.size #[.slice va n vc] 31 :=
  have l := h.lo
  ⟨((treeV_own h.own).set _ _ _ (by omega)).mono (by omega), src_put h.src 0 _ l, grown_put h.gr 0 _ (Nat.le_refl _), h.two.put 0 _⟩
/-- The tree without its first node. -/
theorem Tk.cut1 {g vc : Nat} {v' : Value} (h : Tk w W S a len cap (.slice (some ⟨g, 0, none⟩) L.length vc) L) {va' : Option Addr} {vc' : Nat} (hv' : v' = .slice va' L.tail.length vc') (h1 : 0 < L.length) (hva : (L.length = 1 ∧ va' = some ⟨g, 0, none⟩) ∨ (va' = some ⟨g, 5, none⟩ ∧ vc' = vc - 1)) :
    TreeV ((W.setCell ⟨w.heap.size + 1, 0, none⟩ v').setCell ⟨w.heap.size, 0, none⟩ v') w.heap.size va' vc' L.tail ∧ Src ((W.setCell ⟨w.heap.size + 1, 0, none⟩ v').setCell ⟨w.heap.size, 0, none⟩ v') S a len cap ∧ w.grownBy ((W.setCell ⟨w.heap.size + 1, 0, none⟩ v').setCell ⟨w.heap.size, 0, none⟩ v') (some S) ∧ Mem.Blk ((W.setCell ⟨w.heap.size + 1, 0, none⟩ v').setCell ⟨w.heap.size, 0, none⟩ v') w.heap.size #[v'] 31 := by
  have l := h.lo
  have T := treeV_own h.own
  have hg := T.2.2 g 0 rfl
  have hgl : g < W.heap.size := (Mem.ownN_lt h.own g rfl).2
  refine ⟨?_, src_put (src_put h.src 0 _ (by omega)) 0 _ l, grown_put (grown_put h.gr 0 _ (by omega)) 0 _ (Nat.le_refl _), (h.two.far _ _ (by show w.heap.size ≠ w.heap.size + 1; omega)).put 0 _⟩
  have T2 : TreeV W (w.heap.size + 2) va' vc' L.tail := by
    rcases hva with ⟨e1, rfl⟩ | ⟨rfl, rfl⟩
    · have e2 : L.tail = [] := List.length_eq_zero_iff.1 (by rw [List.length_tail]; omega)
      rw [e2]
      exact ⟨Mem.nodes_nil _ _, .inr ⟨g, 0, rfl, hgl, by simp⟩, fun g' o' e => by cases e; exact hg⟩
    · have hd := WPutG.nodes_drop T.1 1
      rw [List.drop_one] at hd
      refine ⟨hd, .inr ⟨g, 5, rfl, hgl, ?_⟩, fun g' o' e => by cases e; exact hg⟩
      rcases T.2.1 with ⟨e, _⟩ | ⟨g', o', e, _, h3⟩
      · cases e
      · rw [List.length_tail]; omega
  exact ((T2.set _ _ _ (by omega)).set _ _ _ (by omega)).mono (by omega)
theorem Tk.row {va : Option Addr} {vc : Nat} (h : Tk w W S a len cap (.slice va L.length vc) L) (h1 : 0 < L.length) : ∃ g, va = some ⟨g, 0, none⟩ ∧ L.length ≤ vc := by
  rcases h.own.2 with ⟨e, h0⟩ | ⟨g, cap', cur, e, hb, hg, hc, hm, hsz, ht⟩
  · omega
  · injection e with e1 e2 e3
    subst e3
    exact ⟨g, e1, hc⟩
end
end WSrc
end Go.Proofs.YtepmojmelcngeaaGreatDoor

