/- Several texts of one claim in one file: WWriteP, WWriting, WWriteF, WWriteS. -/
import Derived.Test.YtibmflhelgedeaaGreatDoorG64
import Derived.Test.YtibmflhelgedeaaGreatDoorMapLook
import Derived.Test.YtibmflhelgedeaaGreatDoorWPutI
import Derived.Test.YtibmflhelgedeaaGreatDoorWCodeA
import Derived.Test.YtibmflhelgedeaaGreatDoorPlainPutP
import Derived.Test.YtibmflhelgedeaaGreatDoorPlainCut
import Derived.Laws.EntriesVeiled
import Derived.Test.YtibmflhelgedeaaGreatDoorPlainChg
import Derived.Test.YtibmflhelgedeaaGreatDoorG07
import Derived.Test.YtibmflhelgedeaaGreatDoorG03
/- What is written in a map of nodes: writePlain. -/
namespace Go.Proofs.YtibmflhelgedeaaGreatDoor
open Go.RowKit Go.Maps
namespace Pl
def wrtC (L : List Nd) (n : Nd) : Int := if (L.find? (fun m => decide (m.path = n.path))).any (fun m => decide (m.kind = 1)) = true then 11 else addC L n
end Pl
namespace WPanic
set_option linter.unusedSimpArgs false in
set_option maxRecDepth 100000 in
set_option maxHeartbeats 2000000 in
theorem writeP_any (B : Nat) (L : List Pl.Nd) (n : Pl.Nd) (w : World) (ht : Pl.treeB L = true) (hnb : Pl.nodeB n = true) (x : Nat → Addr) (hE : WIs.Six w x) (hown : w.ownsMap Tryz.prog 9 MapN.elem B 40 (MapN.mapOf L)) :
    Calls Tryz.prog 159 #[.map (some B), n.val] w fun e w' => Did w w' e B (Pl.wrtC L n) (Pl.putL L n) := by
  have hC := Pl.tree_apart ht
  have hp8 : n.path.size ≤ 8000 := by have := Pl.pathB_le (Pl.node_right hnb).1; omega
  have HPU := hide (fun W (b : Below w.heap.size w W) => WPutI.put_any B L n W (WNodesI.map_call hown b) hC (Pl.tree_rise ht).1 (Pl.tree_rise ht).2.1 (Pl.tree_rise ht).2.2 ⟨by omega, by have := (Pl.node_bounds hnb).1; omega⟩ x (hE.call b))
  have HFIN : Hid (∀ w' : World, (∃ D', w'.ownsMap Tryz.prog 9 MapN.elem B 41 D' ∧ MapN.Reads D' (L.filter (fun m => !decide (m.path = n.path)) ++ [n])) → ∃ N D' C, N ≤ 1000 ∧ w'.ownsMap Tryz.prog 9 MapN.elem B N D' ∧ MapN.Reads D' C ∧ C.Pairwise (fun a b => a.path ≠ b.path) ∧ (Pl.putL L n).Perm C ∧ (Pl.putL L n).Pairwise (fun a b => Pl.ltP a.path b.path = true) ∧ (∀ n ∈ C, Pl.pathB n.path = true ∧ n.data.size ≤ 1048576)) := fun w' h => put_fin ht hnb h
  have HCD := hide (fun W (b : Below w.heap.size w W) i hi => WCutF.code_any x W (hE.call b) i hi)
  have HM := hide hown
  have HAP := hide hC
  have HNB := hide hnb
  have EC : Hid (Pl.wrtC L n = if (L.find? (fun m => decide (m.path = n.path))).any (fun m => decide (m.kind = 1)) = true then 11 else Pl.addC L n) := rfl
  generalize Pl.wrtC L n = c at EC ⊢
  generalize Pl.putL L n = O at HFIN ⊢
  obtain ⟨np, nk, nd, nt, nm⟩ := n
  simp only [Pl.Nd.val] at hp8 HPU HFIN EC HNB ⊢
  clear hown hC hE hnb
  have b0 : Below w.heap.size w (w.alloc (.cells #[.string np, .int .i64 nk, .string nd, .int .i64 nt, .int .i64 nm] 27)) := (Below.refl _ _).alloc (Nat.le_refl _) _
  have V0 := Mem.Blk.new w #[.string np, .int .i64 nk, .string nd, .int .i64 nt, .int .i64 nm] 27
  have HM0 := hide (WNodesI.map_call (unhide HM) b0)
  have hkey := MapN.keyOf_mk (p := np) (by unfold maxLen; omega)
  have HRN := hide refuse_no
  have HRY := hide refuse_yes
  have HNO := hide need_ok
  have HNN := hide need_no
  have HNI := hide WCutF.code_nil
  have hg : ∀ {W : World}, Below w.heap.size w W → w.grownBy W (some B) := fun b => ⟨b.os, b.tape, b.output, b.size, fun j hj _ => b.block j hj⟩
  obtain ⟨m, ha2, hm⟩ : ∃ m : Pl.Nd, Hid ((MapN.mapOf L).atKey (MapN.key np) (MapN.dat ⟨⟨#[]⟩, 0, ⟨#[]⟩, 0, 0⟩) = MapN.dat m) ∧ ((m.kind = 1 ∧ c = 11) ∨ (m.kind ≠ 1 ∧ c = Pl.addC L ⟨np, nk, nd, nt, nm⟩)) := by
    cases hf : L.find? (fun m => decide (m.path = np)) with
    | none =>
      have hmiss : ∀ n ∈ L, n.path ≠ np := fun n hn => by simpa using List.find?_eq_none.1 hf n hn
      refine ⟨⟨⟨#[]⟩, 0, ⟨#[]⟩, 0, 0⟩, Maps.atKey_of_not_has (MapN.has_no hmiss) _, .inr ⟨by decide, ?_⟩⟩
      have := unhide EC
      rw [hf] at this
      simpa using this
    | some m =>
      have hm1 := List.mem_of_find?_eq_some hf
      have hm2 : m.path = np := by simpa using List.find?_some hf
      obtain ⟨y1, y2⟩ := MapN.at_yes (unhide HAP) hm1
      rw [hm2] at y2
      refine ⟨m, y2 _, ?_⟩
      have := unhide EC
      rw [hf] at this
      by_cases hk : m.kind = 1
      · exact .inl ⟨hk, by simpa [hk] using this⟩
      · exact .inr ⟨hk, by simpa [hk] using this⟩
  obtain ⟨mp, mk, md, mt, mm⟩ := m
  have hfd : ∀ (k : Int) (W : World), (Instr.field 27 (.agg #[.string mp, .int .i64 k, .string md, .int .i64 mt, .int .i64 mm]) 1).run Tryz.prog W = .ok (.int .i64 k) W := fun _ _ => by kernel_rfl
  rcases hm with ⟨hk, hc⟩ | ⟨hk, hc⟩
  · simp only at hk
    subst hk
    subst hc
    clear EC HPU HFIN HCD HRN
    go_enter Tryz.func159, Tryz.ntmps159
    go_wp2_with (at_lookup; refine MapN.look_no _ rfl _ _ 98 rfl 9 27 MapN.law Tryz.underlying98 (MapN.zeroN _) B 40 (MapN.mapOf L) rfl (unhide HM0) _ _ rfl hkey ⟨mp, 1, md, mt, mm⟩ (unhide ha2) ?_)
    refine (unhide HRY 11 _).mono ?_
    rintro e w1 ⟨rfl, rfl⟩
    go_wp2_with fail
    exact ⟨rfl, ⟨.inr ⟨by decide, rfl⟩, hg b0⟩⟩
  · simp only at hk
    have t0 : (mk == 1) = false := by simpa using hk
    have EC2 := hide hc
    clear EC HRY hk hc
    have p0 := V0.cell 0
    have p1 := V0.cell 1
    have p2 := V0.cell 2
    have p3 := V0.cell 3
    have p4 := V0.cell 4
    simp only [kA0, kA1, kA2] at p0 p1 p2 p3 p4
    go_enter Tryz.func159, Tryz.ntmps159
    go_wp2_with (at_lookup; refine MapN.look_no _ rfl _ _ 98 rfl 9 27 MapN.law Tryz.underlying98 (MapN.zeroN _) B 40 (MapN.mapOf L) rfl (unhide HM0) _ _ rfl hkey ⟨mp, mk, md, mt, mm⟩ (unhide ha2) ?_)
    refine (unhide HRN 11 _).mono ?_
    rintro e w1 ⟨rfl, rfl⟩
    go_wp2_with fail
    refine (unhide HPU _ b0).mono ?_
    rintro e w2 ⟨h2⟩
    rcases h2 with ⟨i, hi, rfl, hco, b2⟩ | ⟨rfl, -, hadd, hD, hgr⟩
    · have bw2 := b0.trans (b2.mono b0.size)
      have hc : WIs.codeOf i = c := by rw [if_pos (unhide HNB)] at hco; rw [hco, unhide EC2]
      have hcd := hide (unhide HCD _ bw2 i hi)
      rw [hc] at hcd
      have hc0 : c ≠ 0 := by rw [← hc]; exact WCutF.code_pos i
      clear HPU HFIN HCD HNO HNI hco EC2 hc
      go_wp2_with fail
      refine (unhide hcd).mono ?_
      rintro e w3 ⟨rfl, rfl⟩
      go_wp2_with fail
      refine (unhide HNN c hc0 _).mono ?_
      rintro e w4 ⟨rfl, rfl⟩
      go_wp2_with fail
      exact ⟨rfl, ⟨.inr ⟨hc0, rfl⟩, hg bw2⟩⟩
    · have hc : c = 0 := by rw [unhide EC2, hadd]
      subst hc
      have hfin := hide (unhide HFIN _ hD)
      have hgr2 := hide (Mem.grown_trans (hg b0) hgr)
      clear HPU HFIN HCD HNN hadd EC2 hD hgr p0 p1 p2 p3 p4 V0 b0
      go_wp2_with fail
      refine (unhide HNI _).mono ?_
      rintro e w3 ⟨rfl, rfl⟩
      go_wp2_with fail
      refine (unhide HNO _).mono ?_
      rintro e w4 ⟨rfl, rfl⟩
      go_wp2_with fail
      go_end0
      exact ⟨.inl ⟨rfl, rfl, unhide hfin⟩, unhide hgr2⟩
end WPanic
end Go.Proofs.YtibmflhelgedeaaGreatDoor

/- What is asked for: writing. -/
namespace Go.Proofs.YtibmflhelgedeaaGreatDoor
open Go.RowKit
namespace WPanic
set_option linter.unusedSimpArgs false in
set_option maxRecDepth 100000 in
theorem writing_any (p d : ByteArray) (t : Int) (w : World) :
    Calls Tryz.prog 125 #[.string p, .string d, .int .i64 t] w fun e w' => e = .returned (.agg (chg ⟨p, 2, d, t, 0⟩ 159 160)) ∧ Below w.heap.size w w' := by
  go_enter Tryz.func125, Tryz.ntmps125
  go_wp2
  refine bodyPost_ret (v := .agg (chg ⟨p, 2, d, t, 0⟩ 159 160)) (by simp [results, Tryz.results125, go_sem]) rfl ⟨rfl, ?_⟩
  repeat first | exact (Below.refl _ _).alloc (Nat.le_refl _) _ | refine Below.setCell ?_ (Nat.le_refl _) _
end WPanic
end Go.Proofs.YtibmflhelgedeaaGreatDoor

/- The program's PlainWrite: its work, and its face. -/
namespace Go.Proofs.YtibmflhelgedeaaGreatDoor
open Go.RowKit Go.Maps
namespace WPanic
set_option linter.unusedSimpArgs false in
set_option maxRecDepth 100000 in
set_option maxHeartbeats 2000000 in
theorem write_work (a : Option Addr) (cap : Nat) (L : List Pl.Nd) (p : ByteArray) (d : ByteArray) (t : Int) (qp qd qt qT : Addr) (w : World) (hp : w.cell? qp = some (.string p)) (lp : qp.block < w.heap.size) (hd : w.cell? qd = some (.string d)) (ld : qd.block < w.heap.size) (ht : w.cell? qt = some (.int .i64 t)) (lt : qt.block < w.heap.size) (hT : w.cell? qT = some (.slice a L.length cap)) (lT : qT.block < w.heap.size) (hl : L.length ≤ 1048576) (hv : Mem.isNodes w a L) (hok : ∀ n ∈ L, n.path.size ≤ 1048576 ∧ n.data.size ≤ 1048576)
    (x : Nat → Addr) (hE : WIs.Six w x) :
    Calls Tryz.prog 124 #[.pointer (some qp), .pointer (some qd), .pointer (some qt), .pointer (some qT)] w fun e w' => Ends w w' e (Pl.chgC L (⟨p, 2, d, t, 0⟩ : Pl.Nd) (Pl.wrtC L ⟨p, 2, d, t, 0⟩)) (Pl.chgO L (⟨p, 2, d, t, 0⟩ : Pl.Nd) (Pl.wrtC L ⟨p, 2, d, t, 0⟩) (Pl.putL L ⟨p, 2, d, t, 0⟩)) := by
  have MK : Hid (∀ W', Below w.heap.size w W' → (fun W' => Below w.heap.size w W' ∧ W'.cell? qp = some (.string p) ∧ W'.cell? qd = some (.string d) ∧ W'.cell? qt = some (.int .i64 t) ∧ W'.cell? qT = some (.slice a L.length cap)) W') := fun W' hb' => ⟨hb', (hb'.cell (p := qp) lp).trans hp, (hb'.cell (p := qd) ld).trans hd, (hb'.cell (p := qt) lt).trans ht, (hb'.cell (p := qT) lT).trans hT⟩
  have b0 : Below w.heap.size w (w.alloc (.cells #[.slice none 0 0] 25)) := (Below.refl _ _).alloc (Nat.le_refl _) _
  have A0 := Mem.Blk.new w #[.slice none 0 0] 25
  have HIT := hide (fun W (b : Below w.heap.size w W) => inTree_any (⟨p, 2, d, t, 0⟩ : Pl.Nd) 159 160 a cap L (Pl.wrtC L ⟨p, 2, d, t, 0⟩) (Pl.putL L ⟨p, 2, d, t, 0⟩) W hl (Mem.nodes_call hv b) hok _ _ _ _ _ _ (hE.call b).errs (fun B W => by kernel_rfl) (fun hpl hnb B W2 b2 _ ho => writeP_any B L ⟨p, 2, d, t, 0⟩ W2 (Pl.plain_tree hpl) hnb x (hE.call (b.trans (b2.mono b.size))) ho))
  have HMK := hide (writing_any p d t)
  generalize hc0 : Pl.chgC L (⟨p, 2, d, t, 0⟩ : Pl.Nd) (Pl.wrtC L ⟨p, 2, d, t, 0⟩) = c at HIT ⊢
  generalize hO0 : Pl.chgO L (⟨p, 2, d, t, 0⟩ : Pl.Nd) (Pl.wrtC L ⟨p, 2, d, t, 0⟩) (Pl.putL L ⟨p, 2, d, t, 0⟩) = O at HIT ⊢
  clear hv hok hE hc0 hO0
  go_enter Tryz.func124, Tryz.ntmps124
  go_wp2_with fail
  refine wp_region_held_drew (S := fun W' => Below w.heap.size w W' ∧ W'.cell? qp = some (.string p) ∧ W'.cell? qd = some (.string d) ∧ W'.cell? qt = some (.int .i64 t) ∧ W'.cell? qT = some (.slice a L.length cap)) (by kernel_rfl) ?_ (fun hHeld => ?_)
  · exact unhide MK _ (b0.trans ⟨rfl, rfl, rfl, Nat.le_refl _, fun _ _ => rfl⟩)
  refine wpAnyH_take (i := 0) (v := ?_) rfl (by kernel_rfl) (by kernel_rfl) (by kernel_rfl) (fun _ _ _ h => h) (Or.inl ⟨by rfl, ?_⟩) (by assumption) ?_
  rotate_left
  · (intro w hSw; (try dsimp only at hSw); go_simp; (try with_reducible rfl))
  try simp only [Act.put, kB0, kB1, kB2, kB3, kB4, kB5]
  refine wpAnyH_take (i := 1) (v := ?_) rfl (by kernel_rfl) (by kernel_rfl) (by kernel_rfl) (fun _ _ _ h => h) (Or.inl ⟨by rfl, ?_⟩) (by assumption) ?_
  rotate_left
  · (intro w hSw; (try dsimp only at hSw); go_simp; (try with_reducible rfl))
  try simp only [Act.put, kB0, kB1, kB2, kB3, kB4, kB5]
  refine wpAnyH_take (i := 2) (v := ?_) rfl (by kernel_rfl) (by kernel_rfl) (by kernel_rfl) (fun _ _ _ h => h) (Or.inl ⟨by rfl, ?_⟩) (by assumption) ?_
  rotate_left
  · (intro w hSw; (try dsimp only at hSw); go_simp; (try with_reducible rfl))
  try simp only [Act.put, kB0, kB1, kB2, kB3, kB4, kB5]
  refine wpAnyH_take (i := 4) (v := ?_) rfl (by kernel_rfl) (by kernel_rfl) (by kernel_rfl) (fun _ _ _ h => h) (Or.inl ⟨by rfl, ?_⟩) (by assumption) ?_
  rotate_left
  · (intro w hSw; (try dsimp only at hSw); go_simp; (try with_reducible rfl))
  try simp only [Act.put, kB0, kB1, kB2, kB3, kB4, kB5]
  have A1 : Mem.Blk (w.alloc (.cells #[.slice none 0 0] 25)).drew w.heap.size #[.slice none 0 0] 25 := A0
  generalize hwd : (w.alloc (.cells #[.slice none 0 0] 25)).drew = wd at A1 hHeld ⊢
  clear hwd b0 A0
  refine wpAnyH_ready (rs := [3]) (by kernel_rfl) (by simp) ?_
  refine AllReadyH.cons rfl (fun K hK => ?_) AllReadyH.nil
  go_simp
  refine (unhide HMK _).mono ?_
  rintro e w1 ⟨rfl, b1⟩
  have bw1 := hHeld.1.trans (b1.mono hHeld.1.size)
  have A2 := A1.call b1
  refine hK.out _ _ (unhide MK _ bw1) (fun hHeld1 => ?_)
  clear hK K hHeld A1 b1
  try simp only [Act.put, kB0, kB1, kB2, kB3, kB4, kB5]
  refine wpAnyH_ready (rs := [5]) (by kernel_rfl) (by simp) ?_
  refine AllReadyH.cons rfl (fun K hK => ?_) AllReadyH.nil
  go_simp
  refine (unhide HIT _ bw1).mono ?_
  rintro e w2 ⟨h2, b2⟩
  have bw2 := bw1.trans (b2.mono bw1.size)
  have A3 := A2.call b2
  have hlt := A2.lt
  rcases h2 with ⟨rfl, v, rfl, own⟩ | ⟨hc, rfl, rfl⟩
  · obtain ⟨a2, cap2, rfl⟩ := Mem.own_shape own
    refine hK.out _ _ (unhide MK _ bw2) (fun hHeld2 => ?_)
    clear hK K hHeld1 A2 b2 HIT HMK
    try simp only [Act.put, kB0, kB1, kB2, kB3, kB4, kB5]
    refine wpAnyH_ready (rs := [6]) (by kernel_rfl) (by simp) ?_
    refine AllReadyH.cons rfl (fun K hK => ?_) AllReadyH.nil
    have c0 := A3.cell 0
    have f0 := A3.fr 0
    simp only [kA0, kA1] at c0
    go_simp
    have b3 := bw2.setCell (p := ⟨w.heap.size, 0, none⟩) (Nat.le_refl _) (.slice a2 O.length cap2)
    refine hK.out _ _ (unhide MK _ b3) (fun hHeld3 => ?_)
    clear hK K
    try simp only [Act.put, kB0, kB1, kB2, kB3, kB4, kB5]
    refine wpAnyH_done (by kernel_rfl) ?_ _
    go_wp2
    refine bodyPost_ret (v := .agg #[.slice a2 O.length cap2]) (by simp [results, Tryz.results124, go_sem, c0]) rfl ⟨.inl ⟨rfl, .slice a2 O.length cap2, rfl, ?_⟩, b3⟩
    exact Mem.ownN_mono (Mem.ownN_set own _ _ hlt) (by omega)
  · exact ⟨rfl, ⟨.inr ⟨hc, rfl, rfl⟩, bw2⟩⟩

set_option linter.unusedSimpArgs false in
set_option maxRecDepth 100000 in
set_option maxHeartbeats 2000000 in
theorem write_impl (a : Option Addr) (cap : Nat) (L : List Pl.Nd) (p : ByteArray) (d : ByteArray) (t : Int) (w : World) (hl : L.length ≤ 1048576) (hv : Mem.isNodes w a L) (hok : ∀ n ∈ L, n.path.size ≤ 1048576 ∧ n.data.size ≤ 1048576)
    (x : Nat → Addr) (hE : WIs.Six w x) :
    Calls Tryz.prog 67 #[.agg #[.slice a L.length cap], .string p, .string d, .int .i64 t] w fun e w' => ∃ v, e = .returned (.agg #[v, .int .i64 (Pl.chgC L (⟨p, 2, d, t, 0⟩ : Pl.Nd) (Pl.wrtC L ⟨p, 2, d, t, 0⟩))]) ∧ Mem.ownN w' w.heap.size v (Pl.chgO L (⟨p, 2, d, t, 0⟩ : Pl.Nd) (Pl.wrtC L ⟨p, 2, d, t, 0⟩) (Pl.putL L ⟨p, 2, d, t, 0⟩)) ∧ Below w.heap.size w w' := by
  have hmf : ∀ (fn : Fn) (first cap : Array Value) (w : World), (Instr.makeFunc fn first cap).run Tryz.prog w = .ok (.func fn first cap) w := fun _ _ _ _ => rfl
  have b0 : Below w.heap.size w (((((w.alloc (.cells #[.slice a L.length cap] 25)).alloc (.cells #[.string p] 9)).alloc (.cells #[.string d] 9)).alloc (.cells #[.int .i64 t] 2)).alloc (.cells #[.slice none 0 0, .int .i64 0] 31)) := (((((Below.refl _ _).alloc (Nat.le_refl _) _).alloc (by simp) _).alloc (by simp; omega) _).alloc (by simp; omega) _).alloc (by simp; omega) _
  have hs : (((((w.alloc (.cells #[.slice a L.length cap] 25)).alloc (.cells #[.string p] 9)).alloc (.cells #[.string d] 9)).alloc (.cells #[.int .i64 t] 2)).alloc (.cells #[.slice none 0 0, .int .i64 0] 31)).heap.size = w.heap.size + 1 + 1 + 1 + 1 + 1 := by simp
  have B0 : Mem.Blk (((((w.alloc (.cells #[.slice a L.length cap] 25)).alloc (.cells #[.string p] 9)).alloc (.cells #[.string d] 9)).alloc (.cells #[.int .i64 t] 2)).alloc (.cells #[.slice none 0 0, .int .i64 0] 31)) (w.heap.size) #[.slice a L.length cap] 25 := by
    have h : Mem.Blk ((w.alloc (.cells #[.slice a L.length cap] 25))) (w).heap.size #[.slice a L.length cap] 25 := Mem.Blk.new _ _ _
    rw [show (w).heap.size = w.heap.size by simp] at h
    exact ((((h).alloc _).alloc _).alloc _).alloc _
  have B1 : Mem.Blk (((((w.alloc (.cells #[.slice a L.length cap] 25)).alloc (.cells #[.string p] 9)).alloc (.cells #[.string d] 9)).alloc (.cells #[.int .i64 t] 2)).alloc (.cells #[.slice none 0 0, .int .i64 0] 31)) (w.heap.size + 1) #[.string p] 9 := by
    have h : Mem.Blk (((w.alloc (.cells #[.slice a L.length cap] 25)).alloc (.cells #[.string p] 9))) ((w.alloc (.cells #[.slice a L.length cap] 25))).heap.size #[.string p] 9 := Mem.Blk.new _ _ _
    rw [show ((w.alloc (.cells #[.slice a L.length cap] 25))).heap.size = w.heap.size + 1 by simp] at h
    exact (((h).alloc _).alloc _).alloc _
  have B2 : Mem.Blk (((((w.alloc (.cells #[.slice a L.length cap] 25)).alloc (.cells #[.string p] 9)).alloc (.cells #[.string d] 9)).alloc (.cells #[.int .i64 t] 2)).alloc (.cells #[.slice none 0 0, .int .i64 0] 31)) (w.heap.size + 1 + 1) #[.string d] 9 := by
    have h : Mem.Blk ((((w.alloc (.cells #[.slice a L.length cap] 25)).alloc (.cells #[.string p] 9)).alloc (.cells #[.string d] 9))) (((w.alloc (.cells #[.slice a L.length cap] 25)).alloc (.cells #[.string p] 9))).heap.size #[.string d] 9 := Mem.Blk.new _ _ _
    rw [show (((w.alloc (.cells #[.slice a L.length cap] 25)).alloc (.cells #[.string p] 9))).heap.size = w.heap.size + 1 + 1 by simp] at h
    exact ((h).alloc _).alloc _
  have B3 : Mem.Blk (((((w.alloc (.cells #[.slice a L.length cap] 25)).alloc (.cells #[.string p] 9)).alloc (.cells #[.string d] 9)).alloc (.cells #[.int .i64 t] 2)).alloc (.cells #[.slice none 0 0, .int .i64 0] 31)) (w.heap.size + 1 + 1 + 1) #[.int .i64 t] 2 := by
    have h : Mem.Blk (((((w.alloc (.cells #[.slice a L.length cap] 25)).alloc (.cells #[.string p] 9)).alloc (.cells #[.string d] 9)).alloc (.cells #[.int .i64 t] 2))) ((((w.alloc (.cells #[.slice a L.length cap] 25)).alloc (.cells #[.string p] 9)).alloc (.cells #[.string d] 9))).heap.size #[.int .i64 t] 2 := Mem.Blk.new _ _ _
    rw [show ((((w.alloc (.cells #[.slice a L.length cap] 25)).alloc (.cells #[.string p] 9)).alloc (.cells #[.string d] 9))).heap.size = w.heap.size + 1 + 1 + 1 by simp] at h
    exact (h).alloc _
  have B4 : Mem.Blk (((((w.alloc (.cells #[.slice a L.length cap] 25)).alloc (.cells #[.string p] 9)).alloc (.cells #[.string d] 9)).alloc (.cells #[.int .i64 t] 2)).alloc (.cells #[.slice none 0 0, .int .i64 0] 31)) (w.heap.size + 1 + 1 + 1 + 1) #[.slice none 0 0, .int .i64 0] 31 := by
    have h : Mem.Blk ((((((w.alloc (.cells #[.slice a L.length cap] 25)).alloc (.cells #[.string p] 9)).alloc (.cells #[.string d] 9)).alloc (.cells #[.int .i64 t] 2)).alloc (.cells #[.slice none 0 0, .int .i64 0] 31))) (((((w.alloc (.cells #[.slice a L.length cap] 25)).alloc (.cells #[.string p] 9)).alloc (.cells #[.string d] 9)).alloc (.cells #[.int .i64 t] 2))).heap.size #[.slice none 0 0, .int .i64 0] 31 := Mem.Blk.new _ _ _
    rw [show (((((w.alloc (.cells #[.slice a L.length cap] 25)).alloc (.cells #[.string p] 9)).alloc (.cells #[.string d] 9)).alloc (.cells #[.int .i64 t] 2))).heap.size = w.heap.size + 1 + 1 + 1 + 1 by simp] at h
    exact h
  have HF := hide (fun W0 (hW0 : W0 = (((((w.alloc (.cells #[.slice a L.length cap] 25)).alloc (.cells #[.string p] 9)).alloc (.cells #[.string d] 9)).alloc (.cells #[.int .i64 t] 2)).alloc (.cells #[.slice none 0 0, .int .i64 0] 31))) => treeFace_any 124 #[.pointer (some ⟨w.heap.size + 1, 0, none⟩), .pointer (some ⟨w.heap.size + 1 + 1, 0, none⟩), .pointer (some ⟨w.heap.size + 1 + 1 + 1, 0, none⟩), .pointer (some ⟨w.heap.size, 0, none⟩)] (Pl.chgC L (⟨p, 2, d, t, 0⟩ : Pl.Nd) (Pl.wrtC L ⟨p, 2, d, t, 0⟩)) (Pl.chgO L (⟨p, 2, d, t, 0⟩ : Pl.Nd) (Pl.wrtC L ⟨p, 2, d, t, 0⟩) (Pl.putL L ⟨p, 2, d, t, 0⟩)) W0 (fun _ => by kernel_rfl) (fun W b => by
    subst hW0
    have bw := b0.trans (b.mono b0.size)
    rw [hs] at b
    have hsz := b.size
    exact write_work a cap L p d t ⟨w.heap.size + 1, 0, none⟩ ⟨w.heap.size + 1 + 1, 0, none⟩ ⟨w.heap.size + 1 + 1 + 1, 0, none⟩ ⟨w.heap.size, 0, none⟩ W (by have h := (B1.below b (by omega)).cell 0; simpa using h) (by show w.heap.size + 1 < _; omega) (by have h := (B2.below b (by omega)).cell 0; simpa using h) (by show w.heap.size + 1 + 1 < _; omega) (by have h := (B3.below b (by omega)).cell 0; simpa using h) (by show w.heap.size + 1 + 1 + 1 < _; omega) (by have h := (B0.below b (by omega)).cell 0; simpa using h) (by show w.heap.size < _; omega) hl (Mem.nodes_call hv bw) hok x (hE.call bw)))
  have hf := hide (unhide HF _ rfl)
  clear HF hv hok hE
  generalize Pl.chgC L (⟨p, 2, d, t, 0⟩ : Pl.Nd) (Pl.wrtC L ⟨p, 2, d, t, 0⟩) = c at hf ⊢
  generalize Pl.chgO L (⟨p, 2, d, t, 0⟩ : Pl.Nd) (Pl.wrtC L ⟨p, 2, d, t, 0⟩) (Pl.putL L ⟨p, 2, d, t, 0⟩) = O at hf ⊢
  go_enter Tryz.func67, Tryz.ntmps67
  go_wp2_with fail
  refine (unhide hf).mono ?_
  rintro e w1 ⟨v, rfl, own, b1⟩
  obtain ⟨a2, cap2, rfl⟩ := Mem.own_shape own
  rw [hs] at own
  have bw1 := b0.trans (b1.mono b0.size)
  have R1 := B4.call b1
  have c0 := R1.cell 0
  have c1 := R1.cell 1
  have f0 := R1.fr 0
  have f1 := R1.fr 1
  simp only [kA0, kA1, kA2] at c0 c1
  clear hf b0 b1 B0 B1 B2 B3 B4
  go_wp2
  refine bodyPost_ret (v := .agg #[.slice a2 O.length cap2, .int .i64 c]) (by simp [results, Tryz.results67, go_sem, c0, c1]) rfl ⟨.slice a2 O.length cap2, rfl, ?_, ?_⟩
  · exact Mem.ownN_mono (Mem.ownN_set (Mem.ownN_set own _ _ (by show w.heap.size + 1 + 1 + 1 + 1 < _; omega)) _ _ (by show w.heap.size + 1 + 1 + 1 + 1 < _; omega)) (by omega)
  · exact (bw1.setCell (by show w.heap.size ≤ w.heap.size + 1 + 1 + 1 + 1; omega) _).setCell (by show w.heap.size ≤ w.heap.size + 1 + 1 + 1 + 1; omega) _
end WPanic
end Go.Proofs.YtibmflhelgedeaaGreatDoor

/- The specification's PlainWrite (by genDS7.py). -/
namespace Go.Proofs.YtibmflhelgedeaaGreatDoor
open Go.RowKit Go.Maps
namespace WPanic
set_option linter.unusedSimpArgs false in
set_option maxRecDepth 100000 in
set_option maxHeartbeats 2000000 in
theorem write_spec (g : Nat) (L : List Pl.Nd) (p d : ByteArray) (t : Int) (w : World) (hl : L.length ≤ 1048576) (hg : g < w.heap.size) (hv : Mem.isNodes w (some ⟨g, 0, none⟩) L) (hok : ∀ n ∈ L, n.path.size ≤ 1048576 ∧ n.data.size ≤ 1048576) (hp : p.size ≤ 1048576) (hd : d.size ≤ 1048576) :
    Calls Tryz.prog 66 #[.agg #[.slice (some ⟨g, 0, none⟩) L.length L.length], .string p, .string d, .int .i64 t] w fun e w' => ∃ v, e = .returned (.agg #[v, .int .i64 (Pl.chgC L (⟨p, 2, d, t, 0⟩ : Pl.Nd) (Pl.wrtC L (⟨p, 2, d, t, 0⟩ : Pl.Nd)))]) ∧ Mem.ownN w' w.heap.size v (Pl.chgO L (⟨p, 2, d, t, 0⟩ : Pl.Nd) (Pl.wrtC L (⟨p, 2, d, t, 0⟩ : Pl.Nd)) (Pl.putL L (⟨p, 2, d, t, 0⟩ : Pl.Nd))) ∧ Below w.heap.size w w' := by
  have b0 : Below w.heap.size w ((w.alloc (.cells #[.slice (some ⟨g, 0, none⟩) L.length L.length] 25)).alloc (.cells #[.slice none 0 0, .int .i64 0] 31)) := ((Below.refl _ _).alloc (Nat.le_refl _) _).alloc (by simp) _
  have b1 : Below w.heap.size w (((w.alloc (.cells #[.slice (some ⟨g, 0, none⟩) L.length L.length] 25)).alloc (.cells #[.slice none 0 0, .int .i64 0] 31)).alloc (.cells #[.string p, .int .i64 2, .string d, .int .i64 t, .int .i64 0] 27)) := b0.alloc (by simp; omega) _
  have R0 : Mem.Blk ((w.alloc (.cells #[.slice (some ⟨g, 0, none⟩) L.length L.length] 25)).alloc (.cells #[.slice none 0 0, .int .i64 0] 31)) (w.heap.size + 1) #[.slice none 0 0, .int .i64 0] 31 := Mem.new_two _ _ _
  have T1 : Mem.Blk (((w.alloc (.cells #[.slice (some ⟨g, 0, none⟩) L.length L.length] 25)).alloc (.cells #[.slice none 0 0, .int .i64 0] 31)).alloc (.cells #[.string p, .int .i64 2, .string d, .int .i64 t, .int .i64 0] 27)) w.heap.size #[.slice (some ⟨g, 0, none⟩) L.length L.length] 25 := ((Mem.Blk.new _ _ _).alloc _).alloc _
  have R1 : Mem.Blk (((w.alloc (.cells #[.slice (some ⟨g, 0, none⟩) L.length L.length] 25)).alloc (.cells #[.slice none 0 0, .int .i64 0] 31)).alloc (.cells #[.string p, .int .i64 2, .string d, .int .i64 t, .int .i64 0] 27)) (w.heap.size + 1) #[.slice none 0 0, .int .i64 0] 31 := R0.alloc _
  have N1 : Mem.Blk (((w.alloc (.cells #[.slice (some ⟨g, 0, none⟩) L.length L.length] 25)).alloc (.cells #[.slice none 0 0, .int .i64 0] 31)).alloc (.cells #[.string p, .int .i64 2, .string d, .int .i64 t, .int .i64 0] 27)) (w.heap.size + 1 + 1) #[.string p, .int .i64 2, .string d, .int .i64 t, .int .i64 0] 27 := by
    have h : Mem.Blk (((w.alloc (.cells #[.slice (some ⟨g, 0, none⟩) L.length L.length] 25)).alloc (.cells #[.slice none 0 0, .int .i64 0] 31)).alloc (.cells #[.string p, .int .i64 2, .string d, .int .i64 t, .int .i64 0] 27)) ((w.alloc (.cells #[.slice (some ⟨g, 0, none⟩) L.length L.length] 25)).alloc (.cells #[.slice none 0 0, .int .i64 0] 31)).heap.size #[.string p, .int .i64 2, .string d, .int .i64 t, .int .i64 0] 27 := Mem.Blk.new _ _ _
    rw [show ((w.alloc (.cells #[.slice (some ⟨g, 0, none⟩) L.length L.length] 25)).alloc (.cells #[.slice none 0 0, .int .i64 0] 31)).heap.size = w.heap.size + 1 + 1 by simp] at h
    exact h
  have HPL := hide (fun W (b : Below w.heap.size w W) => WPlainT.spec_any (some ⟨g, 0, none⟩) L.length L W hl (Mem.nodes_call hv b) hok)
  have HND := hide (fun W => WNode.spec_any (⟨p, 2, d, t, 0⟩ : Pl.Nd) W hp hd)
  have HAT := hide (fun W (b : Below w.heap.size w W) => WTreeS.at_any (some ⟨g, 0, none⟩) L.length L p W hl (Mem.nodes_call hv b))
  have HNV := hide (fun W (b : Below w.heap.size w W) => Mem.nodes_call hv b)
  have HAD := hide (fun W (b : Below w.heap.size w W) (h40 : L.length ≤ 1000) (h8 : ∀ m ∈ L, m.path.size ≤ 8000) (hn8 : p.size ≤ 8000) => WPutA.add_any g L (⟨p, 2, d, t, 0⟩ : Pl.Nd) W h40 (Nat.lt_of_lt_of_le hg b.size) (Mem.nodes_call hv b) h8 hn8)
  simp only [Pl.Nd.val] at HND HAD
  clear hv hok
  by_cases hz : 8000 < p.size
  · have t0 : (8000 : Int) < (p.size : Int) := by omega
    go_enter Tryz.func66, Tryz.ntmps66
    have EC : Hid (Pl.chgC L (⟨p, 2, d, t, 0⟩ : Pl.Nd) (Pl.wrtC L (⟨p, 2, d, t, 0⟩ : Pl.Nd)) = 2) := hide (Pl.chg_long (by simp; omega))
    go_wp2_with fail
    refine (WIll3.ill_any 2 _).mono ?_
    rintro e wI ⟨rfl, bI⟩
    have bJ := b0.trans (bI.mono b0.size)
    have RJ := R0.call bI
    have d0 := RJ.cell 0
    have f0 := RJ.fr 0
    have d1 := RJ.cell 1
    have f1 := RJ.fr 1
    simp only [kA0, kA1, kA2] at d0 d1
    go_wp2
    refine bodyPost_ret (v := .agg #[.slice none 0 0, .int .i64 2]) (by simp [results, Tryz.results66, go_sem, d0, d1]) rfl ⟨.slice none 0 0, by rw [unhide EC], by rw [Pl.chgO, unhide EC]; exact Mem.ownN_nil _ _, ?_⟩
    exact (bJ.setCell (by show w.heap.size ≤ w.heap.size + 1; omega) _).setCell (by show w.heap.size ≤ w.heap.size + 1; omega) _
  have t0 : ¬ (8000 : Int) < (p.size : Int) := by omega
  have hz' : p.size ≤ 8000 := by omega
  by_cases hy : 8000 < d.size
  · have t1 : (8000 : Int) < (d.size : Int) := by omega
    go_enter Tryz.func66, Tryz.ntmps66
    have EC : Hid (Pl.chgC L (⟨p, 2, d, t, 0⟩ : Pl.Nd) (Pl.wrtC L (⟨p, 2, d, t, 0⟩ : Pl.Nd)) = 2) := hide (Pl.chg_long (by simp; omega))
    go_wp2_with fail
    refine (WIll3.ill_any 2 _).mono ?_
    rintro e wI ⟨rfl, bI⟩
    have bJ := b0.trans (bI.mono b0.size)
    have RJ := R0.call bI
    have d0 := RJ.cell 0
    have f0 := RJ.fr 0
    have d1 := RJ.cell 1
    have f1 := RJ.fr 1
    simp only [kA0, kA1, kA2] at d0 d1
    go_wp2
    refine bodyPost_ret (v := .agg #[.slice none 0 0, .int .i64 2]) (by simp [results, Tryz.results66, go_sem, d0, d1]) rfl ⟨.slice none 0 0, by rw [unhide EC], by rw [Pl.chgO, unhide EC]; exact Mem.ownN_nil _ _, ?_⟩
    exact (bJ.setCell (by show w.heap.size ≤ w.heap.size + 1; omega) _).setCell (by show w.heap.size ≤ w.heap.size + 1; omega) _
  have t1 : ¬ (8000 : Int) < (d.size : Int) := by omega
  have hzz : ((⟨p, 2, d, t, 0⟩ : Pl.Nd)).path.size ≤ 8000 ∧ ((⟨p, 2, d, t, 0⟩ : Pl.Nd)).data.size ≤ 8000 := ⟨hz', by show d.size ≤ 8000; omega⟩
  clear hy
  have c0 := T1.cell 0
  simp only [kA0, kA1] at c0
  clear hz b0 R0
  go_enter Tryz.func66, Tryz.ntmps66
  go_wp2_with fail
  refine (unhide HPL _ b1).mono ?_
  rintro e w1 ⟨rfl, bx⟩
  have bw1 := b1.trans (bx.mono b1.size)
  have T2 := T1.call bx
  have R2 := R1.call bx
  have N2 := N1.call bx
  have n0 := N2.cell 0
  have n1 := N2.cell 1
  have n2 := N2.cell 2
  have n3 := N2.cell 3
  have n4 := N2.cell 4
  simp only [kA0, kA1, kA2] at n0 n1 n2 n3 n4
  clear b1 bx T1 R1 N1 c0
  cases hP : Pl.plainB L
  · skip
    have EC : Hid (Pl.chgC L (⟨p, 2, d, t, 0⟩ : Pl.Nd) (Pl.wrtC L (⟨p, 2, d, t, 0⟩ : Pl.Nd)) = 1) := hide (Pl.chg_form hzz (.inl hP))
    go_wp2_with fail
    refine (WIll3.ill_any 1 _).mono ?_
    rintro e wI ⟨rfl, bI⟩
    have bJ := bw1.trans (bI.mono bw1.size)
    have RJ := R2.call bI
    have d0 := RJ.cell 0
    have f0 := RJ.fr 0
    have d1 := RJ.cell 1
    have f1 := RJ.fr 1
    simp only [kA0, kA1, kA2] at d0 d1
    go_wp2
    refine bodyPost_ret (v := .agg #[.slice none 0 0, .int .i64 1]) (by simp [results, Tryz.results66, go_sem, d0, d1]) rfl ⟨.slice none 0 0, by rw [unhide EC], by rw [Pl.chgO, unhide EC]; exact Mem.ownN_nil _ _, ?_⟩
    exact (bJ.setCell (by show w.heap.size ≤ w.heap.size + 1; omega) _).setCell (by show w.heap.size ≤ w.heap.size + 1; omega) _
  go_wp2_with fail
  refine (unhide HND _).mono ?_
  rintro e w2 ⟨rfl, bx⟩
  have bw2 := bw1.trans (bx.mono bw1.size)
  have T3 := T2.call bx
  have R3 := R2.call bx
  have N3 := N2.call bx
  have c0 := T3.cell 0
  simp only [kA0, kA1] at c0
  clear bw1 bx T2 R2 N2 n0 n1 n2 n3 n4
  cases hQ : Pl.nodeB (⟨p, 2, d, t, 0⟩ : Pl.Nd)
  · skip
    have EC : Hid (Pl.chgC L (⟨p, 2, d, t, 0⟩ : Pl.Nd) (Pl.wrtC L (⟨p, 2, d, t, 0⟩ : Pl.Nd)) = 1) := hide (Pl.chg_form hzz (.inr hQ))
    go_wp2_with fail
    refine (WIll3.ill_any 1 _).mono ?_
    rintro e wI ⟨rfl, bI⟩
    have bJ := bw2.trans (bI.mono bw2.size)
    have RJ := R3.call bI
    have d0 := RJ.cell 0
    have f0 := RJ.fr 0
    have d1 := RJ.cell 1
    have f1 := RJ.fr 1
    simp only [kA0, kA1, kA2] at d0 d1
    go_wp2
    refine bodyPost_ret (v := .agg #[.slice none 0 0, .int .i64 1]) (by simp [results, Tryz.results66, go_sem, d0, d1]) rfl ⟨.slice none 0 0, by rw [unhide EC], by rw [Pl.chgO, unhide EC]; exact Mem.ownN_nil _ _, ?_⟩
    exact (bJ.setCell (by show w.heap.size ≤ w.heap.size + 1; omega) _).setCell (by show w.heap.size ≤ w.heap.size + 1; omega) _
  go_wp2_with fail
  refine (unhide HAT _ bw2).mono ?_
  rintro e w3 ⟨⟨r, rfl, hr⟩, bx⟩
  have bw3 := bw2.trans (bx.mono bw2.size)
  have T4 := T3.call bx
  have R4 := R3.call bx
  have N4 := N3.call bx
  have c0 := T4.cell 0
  simp only [kA0, kA1] at c0
  have n0 := N4.cell 0
  have n1 := N4.cell 1
  have n2 := N4.cell 2
  have n3 := N4.cell 3
  have n4 := N4.cell 4
  simp only [kA0, kA1, kA2] at n0 n1 n2 n3 n4
  clear bw2 bx T3 R3 N3
  have htr := Pl.plain_tree hP
  have had := hide (unhide HAD _ bw3 (by have := (Pl.tree_rise htr).2.2; omega) (fun m hm => by have := Pl.pathB_le ((Pl.tree_rise htr).2.1 m hm).1; omega) hz')
  clear HAD htr
  rcases hr.out with ⟨k, m, rfl, hk, h3⟩ | ⟨rfl, h3⟩
  · have hlk : k < L.length := (List.getElem?_eq_some_iff.1 hk).1
    have hix : 0 ≤ (k : Int) ∧ (k : Int) < (L.length : Int) := by omega
    have h0 : (0 : Int) ≤ (k : Int) := by omega
    obtain ⟨b', o', e, -, -, q1, -, -, -⟩ := unhide HNV _ bw3 k m hk
    cases e
    rw [Nat.zero_add] at q1
    by_cases hk1 : m.kind = 1
    · have EK : (L.find? (fun m => decide (m.path = p))).any (fun m => decide (m.kind = 1)) = true := by rw [h3]; simp [hk1]
      rw [hk1] at q1
      have EC : Hid (Pl.chgC L (⟨p, 2, d, t, 0⟩ : Pl.Nd) (Pl.wrtC L (⟨p, 2, d, t, 0⟩ : Pl.Nd)) = 11) := hide (by rw [Pl.chg_go hzz hP hQ, Pl.wrtC, if_pos EK])
      go_wp2_with fail
      refine (WIll3.ill_any 11 _).mono ?_
      rintro e wI ⟨rfl, bI⟩
      have bJ := bw3.trans (bI.mono bw3.size)
      have RJ := R4.call bI
      have d0 := RJ.cell 0
      have f0 := RJ.fr 0
      have d1 := RJ.cell 1
      have f1 := RJ.fr 1
      simp only [kA0, kA1, kA2] at d0 d1
      go_wp2
      refine bodyPost_ret (v := .agg #[.slice none 0 0, .int .i64 11]) (by simp [results, Tryz.results66, go_sem, d0, d1]) rfl ⟨.slice none 0 0, by rw [unhide EC], by rw [Pl.chgO, unhide EC]; exact Mem.ownN_nil _ _, ?_⟩
      exact (bJ.setCell (by show w.heap.size ≤ w.heap.size + 1; omega) _).setCell (by show w.heap.size ≤ w.heap.size + 1; omega) _
    · have t2 : (m.kind == 1) = false := by simpa using hk1
      have EK : ¬ (L.find? (fun m => decide (m.path = p))).any (fun m => decide (m.kind = 1)) = true := by rw [h3]; simp [hk1]
      have EC : Hid (Pl.chgC L (⟨p, 2, d, t, 0⟩ : Pl.Nd) (Pl.wrtC L (⟨p, 2, d, t, 0⟩ : Pl.Nd)) = Pl.addC L (⟨p, 2, d, t, 0⟩ : Pl.Nd)) := by rw [Pl.chg_go hzz hP hQ, Pl.wrtC, if_neg EK]; exact rfl
      clear EK h3 hr hk hk1
      have EO : Hid (Pl.chgO L (⟨p, 2, d, t, 0⟩ : Pl.Nd) (Pl.wrtC L (⟨p, 2, d, t, 0⟩ : Pl.Nd)) (Pl.putL L (⟨p, 2, d, t, 0⟩ : Pl.Nd)) = Pl.addO L (⟨p, 2, d, t, 0⟩ : Pl.Nd)) := by rw [Pl.chgO, unhide EC]; exact rfl
      go_wp2_with fail
      refine (unhide had).mono ?_
      rintro e w5 ⟨v, rfl, own, b5⟩
      obtain ⟨a', cap', rfl⟩ := Mem.own_shape own
      have OW := hide own
      have HS := hide R4.lt
      have bw5 := bw3.trans (b5.mono bw3.size)
      have R5 := R4.call b5
      have d0 := R5.cell 0
      have f0 := R5.fr 0
      have d1 := R5.cell 1
      have f1 := R5.fr 1
      simp only [kA0, kA1, kA2] at d0 d1
      clear bw3 b5 T4 R4 N4 own had
      generalize Pl.addC L (⟨p, 2, d, t, 0⟩ : Pl.Nd) = ca at EC
      generalize Pl.addO L (⟨p, 2, d, t, 0⟩ : Pl.Nd) = oa at EO OW
      go_wp2
      refine bodyPost_ret (v := .agg #[.slice a' oa.length cap', .int .i64 ca]) (by simp [results, Tryz.results66, go_sem, d0, d1]) rfl ⟨.slice a' oa.length cap', by rw [unhide EC], ?_, ?_⟩
      · rw [unhide EO]
        exact Mem.ownN_mono (Mem.ownN_set (Mem.ownN_set (unhide OW) _ _ (unhide HS)) _ _ (unhide HS)) (by have := unhide HS; omega)
      · exact (bw5.setCell (by show w.heap.size ≤ w.heap.size + 1; omega) _).setCell (by show w.heap.size ≤ w.heap.size + 1; omega) _
  · have EK : ¬ (L.find? (fun m => decide (m.path = p))).any (fun m => decide (m.kind = 1)) = true := by rw [h3]; simp
    have EC : Hid (Pl.chgC L (⟨p, 2, d, t, 0⟩ : Pl.Nd) (Pl.wrtC L (⟨p, 2, d, t, 0⟩ : Pl.Nd)) = Pl.addC L (⟨p, 2, d, t, 0⟩ : Pl.Nd)) := by rw [Pl.chg_go hzz hP hQ, Pl.wrtC, if_neg EK]; exact rfl
    clear EK h3 hr
    have EO : Hid (Pl.chgO L (⟨p, 2, d, t, 0⟩ : Pl.Nd) (Pl.wrtC L (⟨p, 2, d, t, 0⟩ : Pl.Nd)) (Pl.putL L (⟨p, 2, d, t, 0⟩ : Pl.Nd)) = Pl.addO L (⟨p, 2, d, t, 0⟩ : Pl.Nd)) := by rw [Pl.chgO, unhide EC]; exact rfl
    go_wp2_with fail
    refine (unhide had).mono ?_
    rintro e w5 ⟨v, rfl, own, b5⟩
    obtain ⟨a', cap', rfl⟩ := Mem.own_shape own
    have OW := hide own
    have HS := hide R4.lt
    have bw5 := bw3.trans (b5.mono bw3.size)
    have R5 := R4.call b5
    have d0 := R5.cell 0
    have f0 := R5.fr 0
    have d1 := R5.cell 1
    have f1 := R5.fr 1
    simp only [kA0, kA1, kA2] at d0 d1
    clear bw3 b5 T4 R4 N4 own had
    generalize Pl.addC L (⟨p, 2, d, t, 0⟩ : Pl.Nd) = ca at EC
    generalize Pl.addO L (⟨p, 2, d, t, 0⟩ : Pl.Nd) = oa at EO OW
    go_wp2
    refine bodyPost_ret (v := .agg #[.slice a' oa.length cap', .int .i64 ca]) (by simp [results, Tryz.results66, go_sem, d0, d1]) rfl ⟨.slice a' oa.length cap', by rw [unhide EC], ?_, ?_⟩
    · rw [unhide EO]
      exact Mem.ownN_mono (Mem.ownN_set (Mem.ownN_set (unhide OW) _ _ (unhide HS)) _ _ (unhide HS)) (by have := unhide HS; omega)
    · exact (bw5.setCell (by show w.heap.size ≤ w.heap.size + 1; omega) _).setCell (by show w.heap.size ≤ w.heap.size + 1; omega) _
end WPanic
end Go.Proofs.YtibmflhelgedeaaGreatDoor

