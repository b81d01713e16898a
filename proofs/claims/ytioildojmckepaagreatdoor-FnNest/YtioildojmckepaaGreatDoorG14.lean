/- Several texts of one claim in one file: WPutD, MemAppend, WCutS. -/
import Derived.Test.YtioildojmckepaaGreatDoorG08
import Derived.Test.YtioildojmckepaaGreatDoorWPutC
import Derived.Test.YtioildojmckepaaGreatDoorG04
import Derived.Deep.RegionHeld3
import Derived.Laws.AppendOwn
import Derived.Test.YtioildojmckepaaGreatDoorG01
import Derived.Lib.OthersKept
import Derived.Laws.RangeAny
import Derived.Deep.Draws
import Derived.Deep.QuietTactic
import Derived.BigQuiet
namespace Go.Proofs.YtioildojmckepaaGreatDoor
open Go.RowKit
namespace WPutD
set_option linter.unusedSimpArgs false in
set_option maxRecDepth 100000 in
set_option maxHeartbeats 1000000 in
theorem zb8 (a : Option Addr) (cap : Nat) (L : List Pl.Nd) (n : Pl.Nd) (w : World) (hA : zn4.okA w a cap L) (hl : L.length ≤ 1048576) (hv : Mem.zb5 w a L) (hok : ∀ n ∈ L, n.path.size ≤ 1048576 ∧ n.data.size ≤ 1048576) (hn : n.path.size ≤ 1048576 ∧ n.data.size ≤ 1048576) :
  Calls Tryz.prog 76 #[.agg #[.slice a L.length cap], n.val] w fun e w' => ∃ v, e = .returned (.agg #[v, .int .i64 (Pl.putC L n)]) ∧ Mem.ownN w' w.heap.size v (Pl.putO L n) ∧ Below w.heap.size w w' := by
 have HRT := hide (fun W (b : Below w.heap.size w W) => zl7.zt0 a cap L W hl (Mem.za5 hv b) hok)
 have HNR := hide (fun W => WNode.zb8 n W hn.1 hn.2)
 have HAD := hide (fun W (b : Below w.heap.size w W) (h1 : Pl.zb1 L = true) (h2 : Pl.zc1 n = true) => WPutC.zu0 a cap L n W (by have := (WPutB.ya4 h1).1; omega) (zn4.zu9 hA b.size) (Mem.za5 hv b) (fun m hm => by have := (WPutB.ya4 h1).2 m hm; omega) (by have := Pl.zk7 (Pl.zf9 h2).1; omega))
 have HC : Hid (Pl.putC L n = if Pl.zb1 L = true ∧ Pl.zc1 n = true then Pl.addC L n else 1) := rfl
 have HO : Hid (Pl.putO L n = if Pl.zb1 L = true ∧ Pl.zc1 n = true then Pl.addO L n else []) := rfl
 generalize Pl.putC L n = C at HC ⊢
 generalize Pl.putO L n = O at HO ⊢
 generalize Pl.addC L n = AC at HAD HC
 generalize Pl.addO L n = AO at HAD HO
 generalize Pl.zb1 L = R1 at HRT HAD HC HO
 generalize Pl.zc1 n = R2 at HNR HAD HC HO
 obtain ⟨np, nk, nd, nt, nm⟩ := n
 simp only [Pl.Nd.val] at HNR HAD ⊢
 have H0 : WPutC.At w (((w.alloc (.cells #[.slice a L.length cap] 36)).alloc (.cells #[.string np, .int .i64 nk, .string nd, .int .i64 nt, .int .i64 nm] 88)).alloc (.cells #[.slice none 0 0, .int .i64 0] 62)) a cap L ⟨np, nk, nd, nt, nm⟩ :=
  ⟨(((Below.refl _ _).alloc (Nat.le_refl _) _).alloc (by simp) _).alloc (by simp; omega) _, ((Mem.Blk.new _ _ _).alloc _).alloc _, (by have h := (Mem.Blk.new (w.alloc (.cells #[.slice a L.length cap] 36)) #[.string np, .int .i64 nk, .string nd, .int .i64 nt, .int .i64 nm] 88).alloc (.cells #[.slice none 0 0, .int .i64 0] 62); rwa [show (w.alloc (.cells #[.slice a L.length cap] 36)).heap.size = w.heap.size + 1 by simp] at h), Mem.zk6 _ _ _ _⟩
 have HA := hide H0
 clear H0 hv hok hn
 go_enter Tryz.func76, Tryz.ntmps76
 go_wp2_with fail
 refine (za HRT _ (za HA).bel).mono ?_
 rintro e w1 ⟨rfl, b1⟩
 have A1 := hide ((za HA).call b1)
 clear HA HRT b1
 have c1 := (za A1).one.cell 0
 have p0 := (za A1).two.cell 0
 have p1 := (za A1).two.cell 1
 have p2 := (za A1).two.cell 2
 have p3 := (za A1).two.cell 3
 have p4 := (za A1).two.cell 4
 simp only [Pl.Nd.cs, kGs] at c1 p0 p1 p2 p3 p4
 cases R1
 ·have EC := hide (show C = 1 by rw [za HC, if_neg (by simp)])
  have EN := hide (show O = [] by rw [za HO, if_neg (by simp)])
  clear HC HO HAD HNR
  have A2 := A1
  clear A1
  go_wp2_with fail
  refine (zj4.zg5 1 _).mono ?_
  rintro e wI ⟨rfl, bI⟩
  have AI := hide ((za A2).call bI)
  clear bI A2
  have d0 := (za AI).three.cell 0
  have d1 := (za AI).three.cell 1
  have f0 := (za AI).three.fr 0
  have f1 := (za AI).three.fr 1
  simp only [kGs] at d0 d1
  go_wp2
  refine bodyPost_ret (v := .agg #[.slice none 0 0, .int .i64 1]) (by simp [results, Tryz.results76, go_sem, d0, d1]) rfl ⟨.slice none 0 0, by rw [za EC], by rw [za EN]; exact Mem.zc7 _ _, ?_⟩
  exact ((za AI).bel.setCell (by show w.heap.size ≤ w.heap.size + 1 + 1; omega) _).setCell (by show w.heap.size ≤ w.heap.size + 1 + 1; omega) _
 ·go_wp2_with fail
  refine (za HNR _).mono ?_
  rintro e w2 ⟨rfl, b2⟩
  have A2 := hide ((za A1).call b2)
  clear A1 HNR b2 c1 p0 p1 p2 p3 p4
  cases R2
  ·have EC := hide (show C = 1 by rw [za HC, if_neg (by simp)])
   have EN := hide (show O = [] by rw [za HO, if_neg (by simp)])
   clear HC HO HAD
   go_wp2_with fail
   refine (zj4.zg5 1 _).mono ?_
   rintro e wI ⟨rfl, bI⟩
   have AI := hide ((za A2).call bI)
   clear bI A2
   have d0 := (za AI).three.cell 0
   have d1 := (za AI).three.cell 1
   have f0 := (za AI).three.fr 0
   have f1 := (za AI).three.fr 1
   simp only [kGs] at d0 d1
   go_wp2
   refine bodyPost_ret (v := .agg #[.slice none 0 0, .int .i64 1]) (by simp [results, Tryz.results76, go_sem, d0, d1]) rfl ⟨.slice none 0 0, by rw [za EC], by rw [za EN]; exact Mem.zc7 _ _, ?_⟩
   exact ((za AI).bel.setCell (by show w.heap.size ≤ w.heap.size + 1 + 1; omega) _).setCell (by show w.heap.size ≤ w.heap.size + 1 + 1; omega) _
  ·have EC := hide (show C = AC by rw [za HC, if_pos (by simp)])
   have EN := hide (show O = AO by rw [za HO, if_pos (by simp)])
   clear HC HO
   have c1 := (za A2).one.cell 0
   have p0 := (za A2).two.cell 0
   have p1 := (za A2).two.cell 1
   have p2 := (za A2).two.cell 2
   have p3 := (za A2).two.cell 3
   have p4 := (za A2).two.cell 4
   simp only [Pl.Nd.cs, kGs] at c1 p0 p1 p2 p3 p4
   go_wp2_with fail
   refine (za HAD _ (za A2).bel (by first | rfl | trivial) (by first | rfl | trivial)).mono ?_
   rintro e wI ⟨v, rfl, own, bI⟩
   obtain ⟨a', cap', hvv⟩ := Mem.za3 own
   subst hvv
   have hs5 := (za A2).three.lt
   have AI := hide ((za A2).call bI)
   have OW := hide own
   clear own bI A2 HAD c1 p0 p1 p2 p3 p4
   have d0 := (za AI).three.cell 0
   have d1 := (za AI).three.cell 1
   have f0 := (za AI).three.fr 0
   have f1 := (za AI).three.fr 1
   simp only [kGs] at d0 d1
   go_wp2
   refine bodyPost_ret (v := .agg #[.slice a' AO.length cap', .int .i64 AC]) (by simp [results, Tryz.results76, go_sem, d0, d1]) rfl ⟨.slice a' AO.length cap', by rw [za EC], ?_, ?_⟩
   ·rw [za EN]
    exact Mem.zb7 (Mem.za4 (Mem.za4 (za OW) _ _ (by show w.heap.size + 1 + 1 < _; omega)) _ _ (by show w.heap.size + 1 + 1 < _; omega)) (by omega)
   ·exact ((za AI).bel.setCell (by show w.heap.size ≤ w.heap.size + 1 + 1; omega) _).setCell (by show w.heap.size ≤ w.heap.size + 1 + 1; omega) _
end WPutD
end Go.Proofs.YtioildojmckepaaGreatDoor

namespace Go.Proofs.YtioildojmckepaaGreatDoor
open Go.RowKit
namespace Mem
theorem zd0 {P : Program} {ops : Array Oper} {o : Oper} {a : Act} {w : World} {K : Act → World → Prop} {Q : Exit → Act → World → Prop} {E : Prop}
  (hg : o.guard = none) (s x : Operand) (t : TypeId) (hop : o.op = Op.call { callee := Callee.builtin Builtin.append, args := #[s, x], argTypes := #[t, t] })
  (base : Nat) (e : TypeId) (i : TypeInfo) (z : Value) (size bytes : Nat) (h1 : P.underlying t = some (.slice e)) (h2 : P.info? e = some i) (h3 : i.zero = some z) (h4 : i.size = size) (h5 : i.bytes = bytes) (h6 : z.cells.size = size) (h7 : 0 < size)
  (v : Value) (n : Nat) (xs : List Value) (hs : a.eval s = v) (hown : w.ownsRow base e size v n xs)
  (ad : Addr) (m c : Nat) (news : List Value) (hx : a.eval x = .slice (some ad) m c) (hn : news.length = m * size) (hc : ∀ j u, news[j]? = some u → w.cell? (ad.add j) = some u) (h1c : ∀ u ∈ news, u.oneCell' = true)
  (b1 : n + m ≤ maxLen) (b2 : (n + m) * bytes ≤ 140737488355328) (hbase : base ≤ w.heap.size)
  (hK : ∀ v' w', w'.ownsRow base e size v' (n + m) (xs ++ news) → w.grownBy w' v.ownBlock → K (a.put o.dst v') w') :
  if Region.wanted o (yielded ops a.tmps) = true then Oper.wp P o a w K Q else E := by
 have hw : Region.wanted o (yielded ops a.tmps) = true := by simp [Region.wanted, hg]
 rw [if_pos hw]
 obtain ⟨v', w', hrun, r1, r2, _⟩ := run_append_own (P := P) w base t o.type e i z size bytes h1 h2 h3 h4 h5 h6 h7 v n xs hown ad m c news hn hc h1c b1 b2 hbase
 unfold Oper.wp
 simp [execOp, hop, resolve, invoke, builtin, hs, hx, hrun, Result.andThen]
 exact hK v' w' r1 r2
theorem five_new (w : World) (a b c d e : ByteArray) (T : TypeId) (g : Nat) (hg : g = w.heap.size) : ∀ j u, [Value.string a, .string b, .string c, .string d, .string e][j]? = some u → (w.alloc (.cells #[.string a, .string b, .string c, .string d, .string e] T)).cell? ((⟨g, 0, none⟩ : Addr).add j) = some u := by
 subst hg
 intro j u hj
 rw [Mem.add_lit]
 exact (Mem.ze w [.string a, .string b, .string c, .string d, .string e] T).2 j u hj
theorem five_one (a b c d e : ByteArray) : ∀ u ∈ [Value.string a, .string b, .string c, .string d, .string e], u.oneCell' = true := by
 intro u hu
 simp only [List.mem_cons, List.not_mem_nil, or_false] at hu
 rcases hu with rfl | rfl | rfl | rfl | rfl <;> rfl
end Mem
end Go.Proofs.YtioildojmckepaaGreatDoor

namespace Go.Proofs.YtioildojmckepaaGreatDoor
open Go.RowKit
namespace WCutS
theorem zp2 : (Tryz.prog.info? 88).map (fun i => (i.zero, i.size, i.bytes)) = some (some (.agg #[.string ⟨#[]⟩, .int .i64 0, .string ⟨#[]⟩, .int .i64 0, .int .i64 0]), 5, 56) := by kernel_rfl
structure At (w wr : World) (a : Option Addr) (cap : Nat) (L : List Pl.Nd) (p : ByteArray) (k : Nat) (v : Value) : Prop where
 bel : Below w.heap.size w wr
 one : Mem.Blk wr w.heap.size #[.slice a L.length cap] 36
 two : Mem.Blk wr (w.heap.size + 1) #[.slice none 0 0] 36
 out : Mem.Blk wr (w.heap.size + 1 + 1) #[v] 36
 own : Mem.ownN wr (w.heap.size + 3) v (Pl.offL p (L.take k))
set_option linter.unusedSimpArgs false in
set_option maxRecDepth 100000 in
set_option maxHeartbeats 2000000 in
theorem l03_any (a : Option Addr) (cap : Nat) (L : List Pl.Nd) (p : ByteArray) (w : World) (hl : L.length ≤ 1048576) (hv : Mem.zb5 w a L) (hp : p.size ≤ 1048576) :
  Calls Tryz.prog 93 #[.agg #[.slice a L.length cap], .string p] w fun e w' => ∃ v, e = .returned (.agg #[v]) ∧ Mem.ownN w' w.heap.size v (Pl.offL p L) ∧ Below w.heap.size w w' := by
 obtain ⟨i0, hi, hz0, hz1, hz2⟩ := info_parts zp2
 have HV := hide hv
 clear hv
 have H0 : At w (((w.alloc (.cells #[.slice a L.length cap] 36)).alloc (.cells #[.slice none 0 0] 36)).alloc (.cells #[.slice none 0 0] 36)) a cap L p 0 (.slice none 0 0) :=
  ⟨(((Below.refl _ _).alloc (Nat.le_refl _) _).alloc (by simp) _).alloc (by simp; omega) _, ((Mem.Blk.new _ _ _).alloc _).alloc _, (by have h := (Mem.Blk.new (w.alloc (.cells #[.slice a L.length cap] 36)) #[.slice none 0 0] 36).alloc (.cells #[.slice none 0 0] 36); rwa [show (w.alloc (.cells #[.slice a L.length cap] 36)).heap.size = w.heap.size + 1 by simp] at h), Mem.zk6 _ _ _ _, by simpa [Pl.offL] using Mem.zc7 _ _⟩
 have HH := hide H0
 clear H0
 go_enter Tryz.func93, Tryz.ntmps93
 go_wp2
 go_loopw [6] (fun i wr => ∃ k : Nat, k ≤ L.length ∧ i = .int .i64 (k : Int) ∧ Hid (∃ v, At w wr a cap L p k v)) (fun i _ => L.length - (intOf i).toNat)
 case atStart => exact ⟨0, Nat.zero_le _, rfl, ⟨_, za HH⟩⟩
 case round =>
  obtain ⟨k, hk, rfl, HA⟩ := hrel
  obtain ⟨v, A⟩ := za HA
  obtain ⟨av, capv, hvs⟩ := Mem.za3 A.own
  subst hvs
  have c1 := A.one.cell 0
  have c3 := A.out.cell 0
  have f3 := A.out.fr 0
  simp only [kA0, kA1] at c1 c3
  have KA := hide A
  clear HA A HH
  by_cases hlt : k < L.length
  ·obtain ⟨n, hn⟩ : ∃ n, L[k]? = some n := ⟨_, List.getElem?_eq_getElem hlt⟩
   obtain ⟨b, o, rfl, hb, q0, q1, q2, q3, q4⟩ := (Mem.za5 (za HV) (za KA).bel) k n hn
   have y1 : (k : Int) < (L.length : Int) := by omega
   have y3 : (0 : Int) ≤ (k : Int) := by omega
   have hcu := hide (zf3.ye0 n.path p wr hp)
   cases hun : Pl.under n.path p
   ·rw [hun] at hcu
    have HPL := hide (Pl.offN_in hn hun)
    have HLEN := hide (Pl.offN_len L p k)
    have OWD : Hid (Mem.ownN wr.drew (w.heap.size + 3) (.slice av (Pl.offL p (L.take k)).length capv) (Pl.offL p (L.take k))) := (za KA).own
    have BLD : Hid (Mem.Blk wr.drew (w.heap.size + 1 + 1) #[.slice av (Pl.offL p (L.take k)).length capv] 36) := (za KA).out
    have BL2 : Hid (Mem.Blk wr.drew (w.heap.size + 1) #[.slice none 0 0] 36) := (za KA).two
    have HLT := hide (Mem.zd5 (za KA).own)
    have HSZ : Hid (w.heap.size + 1 + 1 < wr.drew.heap.size) := (za KA).out.lt
    have HV2 : Hid (∀ W', Below w.heap.size w W' → W'.cell? ⟨b, o + k * 5, none⟩ = some (.string n.path) ∧ W'.cell? ⟨b, o + k * 5 + 1, none⟩ = some (.int .i64 n.kind) ∧ W'.cell? ⟨b, o + k * 5 + 2, none⟩ = some (.string n.data) ∧ W'.cell? ⟨b, o + k * 5 + 3, none⟩ = some (.int .i64 n.time) ∧ W'.cell? ⟨b, o + k * 5 + 4, none⟩ = some (.int .i64 n.mark)) := fun W' hb' => by
     obtain ⟨b', o', e, _, z0, z1, z2, z3, z4⟩ := (Mem.za5 (za HV) hb') k n hn
     cases e
     exact ⟨z0, z1, z2, z3, z4⟩
    have B0 : Below w.heap.size w wr.drew := by have h := (za KA).bel; exact ⟨h.os, h.tape, h.output, h.size, h.block⟩
    have ONE : Mem.Blk wr.drew w.heap.size #[.slice (some ⟨b, o, none⟩) L.length cap] 36 := (za KA).one
    clear hn hun KA HV
    obtain ⟨q, k0, d, t, m⟩ := n
    simp only at q0 q1 q2 q3 q4 hcu HPL HV2
    go_wp2_with fail
    refine (za hcu).mono ?_
    rintro e wY ⟨rfl, rfl⟩
    clear hcu
    go_wp2_with fail
    have MK : Hid (∀ W', Below w.heap.size w W' → Mem.Blk W' w.heap.size #[.slice (some ⟨b, o, none⟩) L.length cap] 36 → (Below w.heap.size w W' ∧ Mem.Blk W' w.heap.size #[.slice (some ⟨b, o, none⟩) L.length cap] 36 ∧ W'.cell? ⟨w.heap.size, 0, none⟩ = some (.slice (some ⟨b, o, none⟩) L.length cap) ∧ W'.cell? ⟨b, o + k * 5, none⟩ = some (.string q) ∧ W'.cell? ⟨b, o + k * 5 + 1, none⟩ = some (.int .i64 k0) ∧ W'.cell? ⟨b, o + k * 5 + 2, none⟩ = some (.string d) ∧ W'.cell? ⟨b, o + k * 5 + 3, none⟩ = some (.int .i64 t) ∧ W'.cell? ⟨b, o + k * 5 + 4, none⟩ = some (.int .i64 m))) := fun W' h1 h2 => ⟨h1, h2, h2.cell 0, za HV2 W' h1⟩
    clear q0 q1 q2 q3 q4 c1 c3 f3
    refine wp_region_held_drew (S := fun W' => Below w.heap.size w W' ∧ Mem.Blk W' w.heap.size #[.slice (some ⟨b, o, none⟩) L.length cap] 36 ∧ W'.cell? ⟨w.heap.size, 0, none⟩ = some (.slice (some ⟨b, o, none⟩) L.length cap) ∧ W'.cell? ⟨b, o + k * 5, none⟩ = some (.string q) ∧ W'.cell? ⟨b, o + k * 5 + 1, none⟩ = some (.int .i64 k0) ∧ W'.cell? ⟨b, o + k * 5 + 2, none⟩ = some (.string d) ∧ W'.cell? ⟨b, o + k * 5 + 3, none⟩ = some (.int .i64 t) ∧ W'.cell? ⟨b, o + k * 5 + 4, none⟩ = some (.int .i64 m)) (by kernel_rfl) ?_ (fun hHeld => ?_)
    ·exact za MK _ B0 ONE
    clear B0 ONE
    generalize wY.drew = WD at hHeld OWD BLD BL2 HSZ ⊢
    have cD := (za BLD).cell 0
    simp only [kA0, kA1] at cD
    refine tka (i := 0) rfl ?_
    try simp only [Act.put, kBs]
    refine tka (i := 2) rfl ?_
    try simp only [Act.put, kBs]
    refine tka (i := 3) rfl ?_
    try simp only [Act.put, kBs]
    refine tka (i := 4) rfl ?_
    try simp only [Act.put, kBs]
    refine tka (i := 5) rfl ?_
    try simp only [Act.put, kBs]
    refine tka (i := 6) rfl ?_
    try simp only [Act.put, kBs]
    refine wpAnyH_ready (rs := [1, 7]) (by kernel_rfl) (by simp) ?_
    refine AllReadyH.cons rfl (fun K hK => ?_) (AllReadyH.cons rfl (fun K hK => ?_) AllReadyH.nil)
    ·go_simp
     refine hK.out _ _ ?_ (fun hHeld => ?_)
     ·exact za MK _ hHeld.1 hHeld.2.1
     clear hK K
     try simp only [Act.put, kBs]
     refine wpAnyH_ready (rs := [7]) (by kernel_rfl) (by simp) ?_
     refine AllReadyH.cons rfl (fun K hK => ?_) AllReadyH.nil
     go_simp
     refine hK.out _ _ ?_ (fun hHeld => ?_)
     ·exact za MK _ (hHeld.1.alloc hHeld.1.size _) (hHeld.2.1.alloc _)
     clear hK K
     try simp only [Act.put, kBs]
     refine wpAnyH_ready (rs := [8]) (by kernel_rfl) (by simp) ?_
     refine AllReadyH.cons rfl (fun K hK => ?_) AllReadyH.nil
     refine Mem.zd0 rfl _ _ 34 rfl (w.heap.size + 3) 88 i0 _ 5 56 Tryz.underlying34 hi hz0 hz1 hz2 rfl (by decide) _ _ _ rfl (Mem.zd4 (za OWD) _) ⟨WD.heap.size, 0, none⟩ 1 1 [.string q, .int .i64 k0, .string d, .int .i64 t, .int .i64 m] rfl rfl (Mem.zi9 WD ⟨q, k0, d, t, m⟩ _) (Mem.zi1 ⟨q, k0, d, t, m⟩) (by have := za HLEN; unfold maxLen; omega) (by have := za HLEN; omega) (by have := za HSZ; simp; omega) ?_
     intro v' wZ hownZ hgrow
     obtain ⟨a', cap', hv'⟩ := Mem.za3 hownZ
     subst hv'
     have blkZ := ((za BLD).alloc (.cells #[.string q, .int .i64 k0, .string d, .int .i64 t, .int .i64 m] 88)).grown hgrow (fun e => by have := (za HLT _ e.symm).1; omega)
     have H2Z := hide ((((za BL2).alloc (.cells #[.string q, .int .i64 k0, .string d, .int .i64 t, .int .i64 m] 88)).grown hgrow (fun e => by have := (za HLT _ e.symm).1; omega)))
     refine hK.out _ _ ?_ (fun hHeld => ?_)
     ·exact za MK _ (hHeld.1.grown hgrow (by have := hHeld.1.size; omega) (fun q hq => by have := (za HLT q hq).1; omega)) (hHeld.2.1.grown hgrow (fun e => by have := (za HLT _ e.symm).1; omega))
     clear hK K
     try simp only [Act.put, kBs]
     have cZ := blkZ.cell 0
     have fZ := blkZ.fr 0
     simp only [kA0, kA1] at cZ
     have BLZ := hide blkZ
     have OWZ := hide hownZ
     clear blkZ hownZ
     refine tka (i := 9) rfl ?_
     try simp only [Act.put, kBs]
     refine wpAnyH_ready (rs := [10]) (by kernel_rfl) (by simp) ?_
     refine AllReadyH.cons rfl (fun K hK => ?_) AllReadyH.nil
     go_simp
     refine hK.out _ _ ?_ (fun hHeld => ?_)
     ·exact za MK _ (hHeld.1.setCell (by show w.heap.size ≤ w.heap.size + 1 + 1; omega) _) (hHeld.2.1.far _ _ (by show w.heap.size ≠ w.heap.size + 1 + 1; omega))
     clear hK K
     try simp only [Act.put, kBs]
     refine wpAnyH_done (by kernel_rfl) ?_ _
     have FIN : Hid (At w (wZ.setCell ⟨w.heap.size + 1 + 1, 0, none⟩ (.slice a' ((Pl.offL p (L.take k)).length + 1) cap')) (some ⟨b, o, none⟩) cap L p (k + 1) (.slice a' ((Pl.offL p (L.take k)).length + 1) cap')) :=
      ⟨hHeld.1, hHeld.2.1, (za H2Z).far _ _ (by show w.heap.size + 1 ≠ w.heap.size + 1 + 1; omega), (za BLZ).put 0 _, by
       rw [za HPL]
       exact Mem.za4 (Mem.zg7 (L := Pl.offL p (L.take k)) (n := ⟨q, k0, d, t, m⟩) (za OWZ)) _ _ (by show w.heap.size + 1 + 1 < w.heap.size + 3; omega)⟩
     clear hHeld OWZ BLZ hgrow cZ fZ
     go_wp2
     go_roundw
     case rel => exact ⟨k + 1, by omega, by go_num, ⟨_, za FIN⟩⟩
     case measure => simp [intOf]; omega
    ·go_simp
     refine hK.out _ _ ?_ (fun hHeld => ?_)
     ·exact za MK _ (hHeld.1.alloc hHeld.1.size _) (hHeld.2.1.alloc _)
     clear hK K
     try simp only [Act.put, kBs]
     have cD2 := ((za BLD).alloc (.cells #[.string q, .int .i64 k0, .string d, .int .i64 t, .int .i64 m] 88)).cell 0
     simp only [kA0, kA1] at cD2
     refine wpAnyH_ready (rs := [1]) (by kernel_rfl) (by simp) ?_
     refine AllReadyH.cons rfl (fun K hK => ?_) AllReadyH.nil
     go_simp
     refine hK.out _ _ ?_ (fun hHeld => ?_)
     ·exact za MK _ hHeld.1 hHeld.2.1
     clear hK K
     try simp only [Act.put, kBs]
     refine wpAnyH_ready (rs := [8]) (by kernel_rfl) (by simp) ?_
     refine AllReadyH.cons rfl (fun K hK => ?_) AllReadyH.nil
     refine Mem.zd0 rfl _ _ 34 rfl (w.heap.size + 3) 88 i0 _ 5 56 Tryz.underlying34 hi hz0 hz1 hz2 rfl (by decide) _ _ _ rfl (Mem.zd4 (za OWD) _) ⟨WD.heap.size, 0, none⟩ 1 1 [.string q, .int .i64 k0, .string d, .int .i64 t, .int .i64 m] rfl rfl (Mem.zi9 WD ⟨q, k0, d, t, m⟩ _) (Mem.zi1 ⟨q, k0, d, t, m⟩) (by have := za HLEN; unfold maxLen; omega) (by have := za HLEN; omega) (by have := za HSZ; simp; omega) ?_
     intro v' wZ hownZ hgrow
     obtain ⟨a', cap', hv'⟩ := Mem.za3 hownZ
     subst hv'
     have blkZ := ((za BLD).alloc (.cells #[.string q, .int .i64 k0, .string d, .int .i64 t, .int .i64 m] 88)).grown hgrow (fun e => by have := (za HLT _ e.symm).1; omega)
     have H2Z := hide ((((za BL2).alloc (.cells #[.string q, .int .i64 k0, .string d, .int .i64 t, .int .i64 m] 88)).grown hgrow (fun e => by have := (za HLT _ e.symm).1; omega)))
     refine hK.out _ _ ?_ (fun hHeld => ?_)
     ·exact za MK _ (hHeld.1.grown hgrow (by have := hHeld.1.size; omega) (fun q hq => by have := (za HLT q hq).1; omega)) (hHeld.2.1.grown hgrow (fun e => by have := (za HLT _ e.symm).1; omega))
     clear hK K
     try simp only [Act.put, kBs]
     have cZ := blkZ.cell 0
     have fZ := blkZ.fr 0
     simp only [kA0, kA1] at cZ
     have BLZ := hide blkZ
     have OWZ := hide hownZ
     clear blkZ hownZ
     refine tka (i := 9) rfl ?_
     try simp only [Act.put, kBs]
     refine wpAnyH_ready (rs := [10]) (by kernel_rfl) (by simp) ?_
     refine AllReadyH.cons rfl (fun K hK => ?_) AllReadyH.nil
     go_simp
     refine hK.out _ _ ?_ (fun hHeld => ?_)
     ·exact za MK _ (hHeld.1.setCell (by show w.heap.size ≤ w.heap.size + 1 + 1; omega) _) (hHeld.2.1.far _ _ (by show w.heap.size ≠ w.heap.size + 1 + 1; omega))
     clear hK K
     try simp only [Act.put, kBs]
     refine wpAnyH_done (by kernel_rfl) ?_ _
     have FIN : Hid (At w (wZ.setCell ⟨w.heap.size + 1 + 1, 0, none⟩ (.slice a' ((Pl.offL p (L.take k)).length + 1) cap')) (some ⟨b, o, none⟩) cap L p (k + 1) (.slice a' ((Pl.offL p (L.take k)).length + 1) cap')) :=
      ⟨hHeld.1, hHeld.2.1, (za H2Z).far _ _ (by show w.heap.size + 1 ≠ w.heap.size + 1 + 1; omega), (za BLZ).put 0 _, by
       rw [za HPL]
       exact Mem.za4 (Mem.zg7 (L := Pl.offL p (L.take k)) (n := ⟨q, k0, d, t, m⟩) (za OWZ)) _ _ (by show w.heap.size + 1 + 1 < w.heap.size + 3; omega)⟩
     clear hHeld OWZ BLZ hgrow cZ fZ
     go_wp2
     go_roundw
     case rel => exact ⟨k + 1, by omega, by go_num, ⟨_, za FIN⟩⟩
     case measure => simp [intOf]; omega
   ·rw [hun] at hcu
    have H2 : Hid (At w wr (some ⟨b, o, none⟩) cap L p (k + 1) (.slice av (Pl.offL p (L.take k)).length capv)) :=
     ⟨(za KA).bel, (za KA).one, (za KA).two, (za KA).out, by have h := (za KA).own; rw [Pl.offN_out hn hun]; exact h⟩
    clear KA hun hn
    go_wp2_with fail
    refine (za hcu).mono ?_
    rintro e wY ⟨rfl, rfl⟩
    clear hcu
    go_wp2
    go_roundw
    case rel => exact ⟨k + 1, by omega, by go_num, ⟨_, za H2⟩⟩
    case measure => simp [intOf]; omega
  ·have y1 : ¬ (k : Int) < (L.length : Int) := by omega
   obtain rfl : k = L.length := by omega
   have c2 := (za KA).two.cell 0
   have f2 := (za KA).two.fr 0
   simp only [kA0, kA1] at c2
   go_wp2
   refine bodyPost_ret (v := .agg #[.slice av (Pl.offL p (L.take L.length)).length capv]) (by simp [results, Tryz.results93, go_sem, c2]) rfl ⟨_, rfl, ?_, ?_⟩
   ·have h := (za KA).own
    rw [show Pl.offL p (L.take L.length) = Pl.offL p L by rw [List.take_length]] at h ⊢
    exact Mem.zb7 (Mem.za4 h _ _ (by show w.heap.size + 1 < w.heap.size + 3; omega)) (by omega)
   ·exact (za KA).bel.setCell (by show w.heap.size ≤ w.heap.size + 1; omega) _
end WCutS
end Go.Proofs.YtioildojmckepaaGreatDoor

