/- Several texts of one claim in one file: WMakeFin, WPutT, WPutA, WPutI, WPutC. -/
import Derived.Test.YtppmlbofhghghaaGreatDoorG01
import Derived.Test.YtppmlbofhghghaaGreatDoorG10
import Derived.Test.YtppmlbofhghghaaGreatDoorPlainCut
import Derived.Defers
import Derived.Recover
import Derived.Laws.EntriesVeiled
import Derived.Test.YtppmlbofhghghaaGreatDoorG02
import Derived.Deep.RegionHeld3
import Derived.Test.YtppmlbofhghghaaGreatDoorProg
import Derived.WalkSpells
import Derived.Lib.OthersKept
import Derived.Laws.RangeAny
import Derived.Deep.Draws
import Derived.Deep.QuietTactic
import Derived.BigQuiet
import Derived.Test.YtppmlbofhghghaaGreatDoorG14
import Derived.Test.YtppmlbofhghghaaGreatDoorG25
import Derived.Test.YtppmlbofhghghaaGreatDoorG33
import Derived.Test.YtppmlbofhghghaaGreatDoorG34
import Derived.Test.YtppmlbofhghghaaGreatDoorPlainOver
import Derived.Test.YtppmlbofhghghaaGreatDoorWTreeS
import Derived.Test.YtppmlbofhghghaaGreatDoorG18
import Derived.Test.YtppmlbofhghghaaGreatDoorG30
namespace Go.Proofs.YtppmlbofhghghaaGreatDoor
open Go.RowKit Go.Maps
namespace zc3
theorem put_fin {B : Nat} {L : List Pl.Nd} {n : Pl.Nd} (ht : Pl.za5 L = true) (hnb : Pl.zb n = true) {w' : World} (h : ∃ D', w'.ownsMap Tryz.prog 9 MapN.elem B 41 D' ∧ MapN.Reads D' (L.filter (fun m => !decide (m.path = n.path)) ++ [n])) :
  ∃ N D' C, N ≤ 1000 ∧ w'.ownsMap Tryz.prog 9 MapN.elem B N D' ∧ MapN.Reads D' C ∧ C.Pairwise (fun a b => a.path ≠ b.path) ∧ (Pl.putL L n).Perm C ∧ (Pl.putL L n).Pairwise (fun a b => Pl.ltP a.path b.path = true) ∧ (∀ n ∈ C, Pl.za3 n.path = true ∧ n.data.size ≤ 1048576) := by
 obtain ⟨D', h1, h2⟩ := h
 have hpo := Pl.put_ok (fun m hm => ((Pl.zf9 ht).2.1 m hm).1) (Pl.za9 hnb).1 (Pl.zf9 ht).1
 exact ⟨41, D', _, by omega, h1, h2, Pl.apart_put (Pl.zk4 ht), hpo.2, hpo.1, fun m hm => (Pl.mem_put hm).elim (fun h => (Pl.zf9 ht).2.1 m h) (fun h => by rw [h]; exact ⟨(Pl.za9 hnb).1, by have := (Pl.zd3 hnb).1; omega⟩)⟩
end zc3
end Go.Proofs.YtppmlbofhghghaaGreatDoor

namespace Go.Proofs.YtppmlbofhghghaaGreatDoor
open Go.RowKit
namespace zg8
structure At (w W : World) (g : Nat) (L : List Pl.Nd) (n : Pl.Nd) : Prop where
 bel : Below w.heap.size w W
 one : Mem.Blk W w.heap.size #[.slice (some ⟨g, 0, none⟩) L.length L.length] 50
 two : Mem.Blk W (w.heap.size + 1) n.cs.toArray 47
 three : Mem.Blk W (w.heap.size + 1 + 1) #[.slice none 0 0] 50
 nodes : Mem.za1 W (some ⟨g, 0, none⟩) L
 lt : g < w.heap.size
theorem At.call {w W W' : World} {g : Nat} {L : List Pl.Nd} {n : Pl.Nd} (h : At w W g L n) (b : Below W.heap.size W W') : At w W' g L n :=
 ⟨h.bel.trans (b.mono h.bel.size), h.one.call b, h.two.call b, h.three.call b, Mem.za0 h.nodes b, h.lt⟩
theorem At.drew {w W : World} {g : Nat} {L : List Pl.Nd} {n : Pl.Nd} (h : At w W g L n) : At w W.drew g L n :=
 ⟨⟨h.bel.os, h.bel.tape, h.bel.output, h.bel.size, h.bel.block⟩, h.one, h.two, h.three, h.nodes, h.lt⟩
theorem At.grown {w W W' : World} {g : Nat} {L : List Pl.Nd} {n : Pl.Nd} {r : Option Nat} (h : At w W g L n) (b : W.grownBy W' r) (hr : ∀ q, r = some q → w.heap.size + 3 ≤ q) : At w W' g L n :=
 ⟨h.bel.grown b h.bel.size (fun q hq => by have := hr q hq; omega), h.one.grown b (fun e => by have := hr _ e.symm; omega), h.two.grown b (fun e => by have := hr _ e.symm; omega), h.three.grown b (fun e => by have := hr _ e.symm; omega),
  Mem.yf9 h.nodes b (fun e => by have := hr _ e.symm; have := h.lt; omega), h.lt⟩
theorem At.alloc {w W : World} {g : Nat} {L : List Pl.Nd} {n : Pl.Nd} (h : At w W g L n) (o : Obj) : At w (W.alloc o) g L n := h.call ((Below.refl _ _).alloc (Nat.le_refl _) o)
end zg8
end Go.Proofs.YtppmlbofhghghaaGreatDoor

namespace Go.Proofs.YtppmlbofhghghaaGreatDoor
open Go.RowKit
namespace WPutA
structure At (w W : World) (g : Nat) (L : List Pl.Nd) (n : Pl.Nd) : Prop where
 bel : Below w.heap.size w W
 one : Mem.Blk W w.heap.size #[.slice (some ⟨g, 0, none⟩) L.length L.length] 50
 two : Mem.Blk W (w.heap.size + 1) n.cs.toArray 47
 three : Mem.Blk W (w.heap.size + 1 + 1) #[.slice none 0 0, .int .i64 0] 55
theorem At.call {w W W' : World} {g : Nat} {L : List Pl.Nd} {n : Pl.Nd} (h : At w W g L n) (b : Below W.heap.size W W') : At w W' g L n :=
 ⟨h.bel.trans (b.mono h.bel.size), h.one.call b, h.two.call b, h.three.call b⟩
end WPutA
end Go.Proofs.YtppmlbofhghghaaGreatDoor

namespace Go.Proofs.YtppmlbofhghghaaGreatDoor
open Go.RowKit Go.Maps
namespace WPutI
structure PutIs (L : List Pl.Nd) (n : Pl.Nd) (x : Nat → Addr) (w w' : World) (B : Nat) (e : Ending) : Prop where
 out : (∃ i, i < 6 ∧ e = .returned (.iface 248 (.pointer (some (x i)))) ∧ WIs.codeOf i = (if Pl.zb n = true then Pl.addC L n else 1) ∧ Below w.heap.size w w') ∨
  (e = .returned .nilIface ∧ Pl.zb n = true ∧ Pl.addC L n = 0 ∧ (∃ D', w'.ownsMap Tryz.prog 9 MapN.elem B 41 D' ∧ MapN.Reads D' (L.filter (fun m => !decide (m.path = n.path)) ++ [n])) ∧ w.grownBy w' (some B))
set_option linter.unusedSimpArgs false in
set_option maxRecDepth 100000 in
set_option maxHeartbeats 2000000 in
theorem put_any (B : Nat) (L : List Pl.Nd) (n : Pl.Nd) (w : World) (hown : w.ownsMap Tryz.prog 9 MapN.elem B 40 (MapN.mapOf L)) (hC : L.Pairwise (fun a b => a.path ≠ b.path)) (hr : L.Pairwise (fun a b => Pl.ltP a.path b.path = true))
  (hok : ∀ n ∈ L, Pl.za3 n.path = true ∧ n.data.size ≤ 1048576) (hl : L.length ≤ 40) (hn : n.path.size ≤ 1048576 ∧ n.data.size ≤ 1048576) (x : Nat → Addr) (hE : WIs.Six w x) :
  Calls Tryz.prog 112 #[.map (some B), n.val] w fun e w' => PutIs L n x w w' B e := by
 have HNR := hide (fun W => zv9.zn0 n W hn.1 hn.2)
 have HPF := hide (fun W (b : Below w.heap.size w W) => zc2.fault_any B 40 L n.path W _ _ _ _ _ _ (hE.call b).errs (zc2.zd6 hown b) hC hn.1)
 have HUN := hide (fun W (b : Below w.heap.size w W) => WUnderN.any B 40 L L (MapN.mapOf L) n.path W (zc2.zd6 hown b) (by omega) (MapN.zj5 hC) hC (List.Perm.refl _) hr hok (by omega) hn.1)
 have HPB : Hid (Pl.zb n = true → Pl.za3 n.path = true) := fun h => (Pl.za9 h).1
 have HSZ := hide (MapN.zw4 hC)
 have HRD := hide (MapN.zj5 hC)
 have HAP := hide hC
 have E6 : Hid ((Pl.parent n.path).size ≠ 0 ∧ L.find? (fun m => decide (m.path = Pl.parent n.path)) = none → Pl.addC L n = 6) := fun h => by rw [Pl.addC, if_pos h]
 have E12 : Hid (¬ ((Pl.parent n.path).size ≠ 0 ∧ L.find? (fun m => decide (m.path = Pl.parent n.path)) = none) → Pl.dirS L (Pl.parent n.path) = false → Pl.addC L n = 12) := fun h h2 => by rw [Pl.addC, if_neg h, if_pos h2]
 have E11 : Hid (¬ ((Pl.parent n.path).size ≠ 0 ∧ L.find? (fun m => decide (m.path = Pl.parent n.path)) = none) → Pl.dirS L (Pl.parent n.path) = true → n.kind ≠ 1 ∧ Pl.ze9 L n.path = true → Pl.addC L n = 11) := fun h h2 h3 => by rw [Pl.addC, if_neg h, if_neg (by rw [h2]; simp), if_pos h3]
 have E9 : Hid (¬ ((Pl.parent n.path).size ≠ 0 ∧ L.find? (fun m => decide (m.path = Pl.parent n.path)) = none) → Pl.dirS L (Pl.parent n.path) = true → ¬ (n.kind ≠ 1 ∧ Pl.ze9 L n.path = true) → (L.find? (fun m => decide (m.path = n.path)) = none ∧ 40 ≤ L.length) → Pl.addC L n = 9) := fun h h2 h3 h4 => by rw [Pl.addC, if_neg h, if_neg (by rw [h2]; simp), if_neg h3, if_pos h4]
 have E0 : Hid (¬ ((Pl.parent n.path).size ≠ 0 ∧ L.find? (fun m => decide (m.path = Pl.parent n.path)) = none) → Pl.dirS L (Pl.parent n.path) = true → ¬ (n.kind ≠ 1 ∧ Pl.ze9 L n.path = true) → ¬ (L.find? (fun m => decide (m.path = n.path)) = none ∧ 40 ≤ L.length) → Pl.addC L n = 0) := fun h h2 h3 h4 => by rw [Pl.addC, if_neg h, if_neg (by rw [h2]; simp), if_neg h3, if_neg h4]
 have HPV : Hid (Pl.zb n = true → (Pl.parV (.iface 248 (.pointer (some (x 2)))) (.iface 248 (.pointer (some (x 3)))) L n.path = .iface 248 (.pointer (some (x 2))) ∧ ((Pl.parent n.path).size ≠ 0 ∧ L.find? (fun m => decide (m.path = Pl.parent n.path)) = none)) ∨
   (Pl.parV (.iface 248 (.pointer (some (x 2)))) (.iface 248 (.pointer (some (x 3)))) L n.path = .iface 248 (.pointer (some (x 3))) ∧ ¬ ((Pl.parent n.path).size ≠ 0 ∧ L.find? (fun m => decide (m.path = Pl.parent n.path)) = none) ∧ Pl.dirS L (Pl.parent n.path) = false) ∨
   (Pl.parV (.iface 248 (.pointer (some (x 2)))) (.iface 248 (.pointer (some (x 3)))) L n.path = .nilIface ∧ ¬ ((Pl.parent n.path).size ≠ 0 ∧ L.find? (fun m => decide (m.path = Pl.parent n.path)) = none) ∧ Pl.dirS L (Pl.parent n.path) = true)) := fun h => by
  rw [Pl.zr7 (Pl.za9 h).1]
  unfold Pl.parV Pl.dirS
  by_cases h0 : (Pl.zb7 n.path).size = 0
  ·right; right; simp [h0]
  ·cases hf : L.find? (fun m => decide (m.path = Pl.zb7 n.path)) with
   | none => left; simp [h0]
   | some m =>
    right
    by_cases hk : m.kind = 1
    ·right; simp [h0, hk]
    ·left; simp [h0, hk]
 have HUV : Hid (Pl.zb n = true → ((Pl.zg1 L n.path).length = 0 → Pl.ze9 L n.path = false) ∧ ((Pl.zg1 L n.path).length ≠ 0 → Pl.ze9 L n.path = true)) := fun h => by
  have hp := (Pl.za9 h).1
  have h2 := Pl.yo4 (fun n hn => (hok n hn).1) hp
  refine ⟨fun h3 => by rw [← h2]; exact Pl.ya7.1 h3, fun h3 => ?_⟩
  cases h4 : Pl.ze9 L n.path
  ·rw [← h2] at h4; exact absurd (Pl.ya7.2 h4) h3
  ·rfl
 have HE := hide hE
 have HM := hide hown
 clear hE hown hC hr hok
 obtain ⟨np, nk, nd, nt, nm⟩ := n
 simp only [Pl.Nd.val] at HNR HPF HUN HPB hn E6 E12 E11 E9 E0 HPV HUV ⊢
 have b0 : Below w.heap.size w (w.alloc (.cells #[.string np, .int .i64 nk, .string nd, .int .i64 nt, .int .i64 nm] 47)) := (Below.refl _ _).alloc (Nat.le_refl _) _
 have V0 := Mem.Blk.new w #[.string np, .int .i64 nk, .string nd, .int .i64 nt, .int .i64 nm] 47
 go_enter Tryz.func112, Tryz.ntmps112
 go_wp2_with fail
 refine (za HNR _).mono ?_
 rintro e w1 ⟨rfl, b1⟩
 have bw1 := b0.trans (b1.mono b0.size)
 have V1 := V0.call b1
 clear b0 b1 V0 HNR
 cases hnb : Pl.zb ⟨np, nk, nd, nt, nm⟩
 ·have k1 := ((za HE).call bw1).c1
  clear HPF HUN HPB E6 E12 E11 E9 E0 HPV HUV V1
  go_wp2
  go_ret
  exact ⟨.inl ⟨1, by omega, rfl, by rw [if_neg (by rw [hnb]; simp)]; rfl, bw1⟩⟩
 have hnp := za HPB hnb
 have p0 := V1.cell 0
 have p1 := V1.cell 1
 have p2 := V1.cell 2
 have p3 := V1.cell 3
 have p4 := V1.cell 4
 simp only [kA0, kA1, kA2] at p0 p1 p2 p3 p4
 have hpf := hide (za HPF w1 bw1)
 clear HPF
 obtain ⟨E2v, hE2v⟩ : ∃ v, Pl.parV (.iface 248 (.pointer (some (x 2)))) (.iface 248 (.pointer (some (x 3)))) L np = v := ⟨_, rfl⟩
 rw [hE2v] at hpf
 have HPV2 := za HPV hnb
 rw [hE2v] at HPV2
 rcases HPV2 with ⟨rfl, hq⟩ | ⟨rfl, hq, hq2⟩ | ⟨rfl, hq, hq2⟩
 ·have FIN := hide (show (6 : Int) = Pl.addC L ⟨np, nk, nd, nt, nm⟩ from (za E6 hq).symm)
  clear hE2v HUN E6 E12 E11 E9 E0 HPV HUV V1 HPB hq
  go_wp2_with fail
  refine (za hpf).mono ?_
  rintro e w2 ⟨rfl, b2⟩
  have bw2 := bw1.trans (b2.mono bw1.size)
  clear hpf b2 p0 p1 p2 p3 p4
  go_wp2
  go_ret
  exact ⟨.inl ⟨2, by omega, rfl, by rw [if_pos hnb]; exact za FIN, bw2⟩⟩
 ·have FIN := hide (show (12 : Int) = Pl.addC L ⟨np, nk, nd, nt, nm⟩ from (za E12 hq hq2).symm)
  clear hE2v HUN E6 E12 E11 E9 E0 HPV HUV V1 HPB hq hq2
  go_wp2_with fail
  refine (za hpf).mono ?_
  rintro e w2 ⟨rfl, b2⟩
  have bw2 := bw1.trans (b2.mono bw1.size)
  clear hpf b2 p0 p1 p2 p3 p4
  go_wp2
  go_ret
  exact ⟨.inl ⟨3, by omega, rfl, by rw [if_pos hnb]; exact za FIN, bw2⟩⟩
 ·have Q1 := hide hq
  have Q0 := hide hq2
  clear hE2v hq hq2 HPV
  go_wp2_with fail
  refine (za hpf).mono ?_
  rintro e w2 ⟨rfl, b2⟩
  have bw2 := bw1.trans (b2.mono bw1.size)
  have V2 := V1.call b2
  clear hpf b2 p0 p1 p2 p3 p4 V1 bw1
  have p0 := V2.cell 0
  have p1 := V2.cell 1
  have p2 := V2.cell 2
  have p3 := V2.cell 3
  have p4 := V2.cell 4
  simp only [kA0, kA1, kA2] at p0 p1 p2 p3 p4
  by_cases hk1 : nk = 1
  ·subst hk1
   have Q2 : Hid (¬ ((1 : Int) ≠ 1 ∧ Pl.ze9 L np = true)) := fun h => h.1 rfl
   clear HUN HUV HPB p0 p1 p2 p3 p4
   have BW := bw2
   clear bw2
   have V3 := V2
   clear V2
   have hkey := MapN.zi9 (p := np) (by unfold maxLen; omega)
   have MW := hide (zc2.zd6 (za HM) BW)
   have EW := hide ((za HE).call BW)
   have k5 : ∀ o, (w2.alloc o).cell? ⟨5, 0, none⟩ = some (.iface 248 (.pointer (some (x 5)))) := fun o => (World.cell?_alloc_some _ _ _ (by rw [(za EW).c5]; rfl)).trans (za EW).c5
   have hln : ∀ o ty, (Builtin.len_ #[101] ty #[.map (some B)]).run Tryz.prog (w2.alloc o) = .ok (.int .i64 (L.length : Int)) (w2.alloc o) := fun o ty => by have h := ((za MW).alloc o).len Tryz.underlying101 ty; rw [za HSZ] at h; exact h
   clear HE
   have pa0 : ∀ o, (w2.alloc o).cell? ⟨w.heap.size, 0, none⟩ = some (.string np) := fun o => (V3.alloc o).cell 0
   have pa1 : ∀ o, (w2.alloc o).cell? ⟨w.heap.size, 1, none⟩ = some (.int .i64 1) := fun o => (V3.alloc o).cell 1
   have pa2 : ∀ o, (w2.alloc o).cell? ⟨w.heap.size, 2, none⟩ = some (.string nd) := fun o => (V3.alloc o).cell 2
   have pa3 : ∀ o, (w2.alloc o).cell? ⟨w.heap.size, 3, none⟩ = some (.int .i64 nt) := fun o => (V3.alloc o).cell 3
   have pa4 : ∀ o, (w2.alloc o).cell? ⟨w.heap.size, 4, none⟩ = some (.int .i64 nm) := fun o => (V3.alloc o).cell 4
   have p0 := V3.cell 0
   have p1 := V3.cell 1
   have p2 := V3.cell 2
   have p3 := V3.cell 3
   have p4 := V3.cell 4
   simp only [kA0, kA1, kA2] at p0 p1 p2 p3 p4
   cases hf : L.find? (fun m => decide (m.path = np)) with
   | none =>
    have hmiss : ∀ m ∈ L, m.path ≠ np := fun m hm => by simpa using List.find?_eq_none.1 hf m hm
    have ha := hide (MapN.zp7 hmiss)
    have ha2 := hide (show (MapN.mapOf L).atKey (MapN.key np) (MapN.dat ⟨⟨#[]⟩, 0, ⟨#[]⟩, 0, 0⟩) = MapN.dat ⟨⟨#[]⟩, 0, ⟨#[]⟩, 0, 0⟩ from (MapN.zw7 np L (.map []) hmiss).2 _)
    by_cases h40 : L.length = 40
    ·have t40 : ((L.length : Int) == 40) = true := by simp; omega
     have FIN := hide (show (9 : Int) = Pl.addC L ⟨np, 1, nd, nt, nm⟩ from (za E9 (za Q1) (za Q0) (za Q2) ⟨hf, by omega⟩).symm)
     clear hmiss hf EW
     go_wp2_with (at_lookup; refine MapN.look_ok _ rfl _ _ 101 rfl 9 47 MapN.law Tryz.underlying101 (MapN.za7 _) B 40 (MapN.mapOf L) rfl (za MW) _ _ rfl hkey ⟨⟨#[]⟩, 0, ⟨#[]⟩, 0, 0⟩ (za ha2) false (za ha) ?_)
     go_ret
     exact ⟨.inl ⟨5, by omega, rfl, by rw [if_pos hnb]; exact za FIN, BW.alloc BW.size _⟩⟩
    ·have t40 : ((L.length : Int) == 40) = false := by simp; omega
     have FIN := hide (show Pl.addC L ⟨np, 1, nd, nt, nm⟩ = 0 from za E0 (za Q1) (za Q0) (za Q2) (fun h => by omega))
     have RP := hide (MapN.zs3 (za HRD) (MapN.zp2 L) ⟨np, 1, nd, nt, nm⟩)
     clear hmiss hf EW
     go_wp2_with (first | (at_lookup; refine MapN.look_ok _ rfl _ _ 101 rfl 9 47 MapN.law Tryz.underlying101 (MapN.za7 _) B 40 (MapN.mapOf L) rfl (za MW) _ _ rfl hkey ⟨⟨#[]⟩, 0, ⟨#[]⟩, 0, 0⟩ (za ha2) false (za ha) ?_) | (at_mapUpdate; refine wpList_mapUpdate_own _ rfl _ _ _ 101 rfl 9 47 MapN.law Tryz.underlying101 _ B 40 _ rfl ((za MW).alloc _) (by unfold maxLen; omega) _ _ _ rfl rfl hkey _ [] (MapN.zi6 ⟨np, 1, nd, nt, nm⟩) ?_))
     intro wZ hownZ hgrowZ
     have FZ := hide (show (∃ D', wZ.ownsMap Tryz.prog 9 MapN.elem B 41 D' ∧ MapN.Reads D' (L.filter (fun m => !decide (m.path = np)) ++ [⟨np, 1, nd, nt, nm⟩])) ∧ w.grownBy wZ (some B) from ⟨⟨_, hownZ, za RP⟩, Mem.zj7 (Mem.zc9 (BW.alloc BW.size _) _) hgrowZ⟩)
     clear hownZ hgrowZ RP MW ha ha2
     go_wp2
     go_ret
     exact ⟨.inr ⟨rfl, hnb, za FIN, za FZ⟩⟩
   | some m =>
    have h1 := List.mem_of_find?_eq_some hf
    have h2 : m.path = np := by simpa using List.find?_some hf
    have hy := MapN.zn2 (za HAP) h1
    rw [h2] at hy
    have ha := hide hy.1
    have ha2 := hide (hy.2 (MapN.dat ⟨⟨#[]⟩, 0, ⟨#[]⟩, 0, 0⟩))
    have FIN := hide (show Pl.addC L ⟨np, 1, nd, nt, nm⟩ = 0 from za E0 (za Q1) (za Q0) (za Q2) (fun h => by rw [hf] at h; cases h.1))
    have RP := hide (MapN.zs3 (za HRD) (MapN.zp2 L) ⟨np, 1, nd, nt, nm⟩)
    clear h1 h2 hy hf EW
    go_wp2_with (first | (at_lookup; refine MapN.look_ok _ rfl _ _ 101 rfl 9 47 MapN.law Tryz.underlying101 (MapN.za7 _) B 40 (MapN.mapOf L) rfl (za MW) _ _ rfl hkey m (za ha2) true (za ha) ?_) | (at_mapUpdate; refine wpList_mapUpdate_own _ rfl _ _ _ 101 rfl 9 47 MapN.law Tryz.underlying101 _ B 40 _ rfl ((za MW).alloc _) (by unfold maxLen; omega) _ _ _ rfl rfl hkey _ [] (MapN.zi6 ⟨np, 1, nd, nt, nm⟩) ?_))
    intro wZ hownZ hgrowZ
    have FZ := hide (show (∃ D', wZ.ownsMap Tryz.prog 9 MapN.elem B 41 D' ∧ MapN.Reads D' (L.filter (fun m => !decide (m.path = np)) ++ [⟨np, 1, nd, nt, nm⟩])) ∧ w.grownBy wZ (some B) from ⟨⟨_, hownZ, za RP⟩, Mem.zj7 (Mem.zc9 (BW.alloc BW.size _) _) hgrowZ⟩)
    clear hownZ hgrowZ RP MW ha ha2
    go_wp2
    go_ret
    exact ⟨.inr ⟨rfl, hnb, za FIN, za FZ⟩⟩
  ·have tk : (nk == 1) = false := by simpa using hk1
   have tk2 : (nk != 1) = true := by simpa using hk1
   have hun := hide (za HUN w2 bw2)
   clear HUN
   go_wp2_with fail
   refine (za hun).mono ?_
   rintro e w3 ⟨a3, rfl, -, -, b3⟩
   have BW := bw2.trans (b3.mono bw2.size)
   have V3 := V2.call b3
   have HUV2 := za HUV hnb
   clear hun b3 p0 p1 p2 p3 p4 V2 bw2 HUV
   generalize (Pl.zg1 L np).length = PL at HUV2 ⊢
   by_cases hpl : PL = 0
   ·have Q2 : Hid (¬ (nk ≠ 1 ∧ Pl.ze9 L np = true)) := fun h => by rw [HUV2.1 hpl] at h; cases h.2
    subst hpl
    clear HUV2 HPB
    have hkey := MapN.zi9 (p := np) (by unfold maxLen; omega)
    have MW := hide (zc2.zd6 (za HM) BW)
    have EW := hide ((za HE).call BW)
    have k5 : ∀ o, (w3.alloc o).cell? ⟨5, 0, none⟩ = some (.iface 248 (.pointer (some (x 5)))) := fun o => (World.cell?_alloc_some _ _ _ (by rw [(za EW).c5]; rfl)).trans (za EW).c5
    have hln : ∀ o ty, (Builtin.len_ #[101] ty #[.map (some B)]).run Tryz.prog (w3.alloc o) = .ok (.int .i64 (L.length : Int)) (w3.alloc o) := fun o ty => by have h := ((za MW).alloc o).len Tryz.underlying101 ty; rw [za HSZ] at h; exact h
    clear HE
    have pa0 : ∀ o, (w3.alloc o).cell? ⟨w.heap.size, 0, none⟩ = some (.string np) := fun o => (V3.alloc o).cell 0
    have pa1 : ∀ o, (w3.alloc o).cell? ⟨w.heap.size, 1, none⟩ = some (.int .i64 nk) := fun o => (V3.alloc o).cell 1
    have pa2 : ∀ o, (w3.alloc o).cell? ⟨w.heap.size, 2, none⟩ = some (.string nd) := fun o => (V3.alloc o).cell 2
    have pa3 : ∀ o, (w3.alloc o).cell? ⟨w.heap.size, 3, none⟩ = some (.int .i64 nt) := fun o => (V3.alloc o).cell 3
    have pa4 : ∀ o, (w3.alloc o).cell? ⟨w.heap.size, 4, none⟩ = some (.int .i64 nm) := fun o => (V3.alloc o).cell 4
    have p0 := V3.cell 0
    have p1 := V3.cell 1
    have p2 := V3.cell 2
    have p3 := V3.cell 3
    have p4 := V3.cell 4
    simp only [kA0, kA1, kA2] at p0 p1 p2 p3 p4
    cases hf : L.find? (fun m => decide (m.path = np)) with
    | none =>
     have hmiss : ∀ m ∈ L, m.path ≠ np := fun m hm => by simpa using List.find?_eq_none.1 hf m hm
     have ha := hide (MapN.zp7 hmiss)
     have ha2 := hide (show (MapN.mapOf L).atKey (MapN.key np) (MapN.dat ⟨⟨#[]⟩, 0, ⟨#[]⟩, 0, 0⟩) = MapN.dat ⟨⟨#[]⟩, 0, ⟨#[]⟩, 0, 0⟩ from (MapN.zw7 np L (.map []) hmiss).2 _)
     by_cases h40 : L.length = 40
     ·have t40 : ((L.length : Int) == 40) = true := by simp; omega
      have FIN := hide (show (9 : Int) = Pl.addC L ⟨np, nk, nd, nt, nm⟩ from (za E9 (za Q1) (za Q0) (za Q2) ⟨hf, by omega⟩).symm)
      clear hmiss hf EW
      go_wp2_with (at_lookup; refine MapN.look_ok _ rfl _ _ 101 rfl 9 47 MapN.law Tryz.underlying101 (MapN.za7 _) B 40 (MapN.mapOf L) rfl (za MW) _ _ rfl hkey ⟨⟨#[]⟩, 0, ⟨#[]⟩, 0, 0⟩ (za ha2) false (za ha) ?_)
      go_ret
      exact ⟨.inl ⟨5, by omega, rfl, by rw [if_pos hnb]; exact za FIN, BW.alloc BW.size _⟩⟩
     ·have t40 : ((L.length : Int) == 40) = false := by simp; omega
      have FIN := hide (show Pl.addC L ⟨np, nk, nd, nt, nm⟩ = 0 from za E0 (za Q1) (za Q0) (za Q2) (fun h => by omega))
      have RP := hide (MapN.zs3 (za HRD) (MapN.zp2 L) ⟨np, nk, nd, nt, nm⟩)
      clear hmiss hf EW
      go_wp2_with (first | (at_lookup; refine MapN.look_ok _ rfl _ _ 101 rfl 9 47 MapN.law Tryz.underlying101 (MapN.za7 _) B 40 (MapN.mapOf L) rfl (za MW) _ _ rfl hkey ⟨⟨#[]⟩, 0, ⟨#[]⟩, 0, 0⟩ (za ha2) false (za ha) ?_) | (at_mapUpdate; refine wpList_mapUpdate_own _ rfl _ _ _ 101 rfl 9 47 MapN.law Tryz.underlying101 _ B 40 _ rfl ((za MW).alloc _) (by unfold maxLen; omega) _ _ _ rfl rfl hkey _ [] (MapN.zi6 ⟨np, nk, nd, nt, nm⟩) ?_))
      intro wZ hownZ hgrowZ
      have FZ := hide (show (∃ D', wZ.ownsMap Tryz.prog 9 MapN.elem B 41 D' ∧ MapN.Reads D' (L.filter (fun m => !decide (m.path = np)) ++ [⟨np, nk, nd, nt, nm⟩])) ∧ w.grownBy wZ (some B) from ⟨⟨_, hownZ, za RP⟩, Mem.zj7 (Mem.zc9 (BW.alloc BW.size _) _) hgrowZ⟩)
      clear hownZ hgrowZ RP MW ha ha2
      go_wp2
      go_ret
      exact ⟨.inr ⟨rfl, hnb, za FIN, za FZ⟩⟩
    | some m =>
     have h1 := List.mem_of_find?_eq_some hf
     have h2 : m.path = np := by simpa using List.find?_some hf
     have hy := MapN.zn2 (za HAP) h1
     rw [h2] at hy
     have ha := hide hy.1
     have ha2 := hide (hy.2 (MapN.dat ⟨⟨#[]⟩, 0, ⟨#[]⟩, 0, 0⟩))
     have FIN := hide (show Pl.addC L ⟨np, nk, nd, nt, nm⟩ = 0 from za E0 (za Q1) (za Q0) (za Q2) (fun h => by rw [hf] at h; cases h.1))
     have RP := hide (MapN.zs3 (za HRD) (MapN.zp2 L) ⟨np, nk, nd, nt, nm⟩)
     clear h1 h2 hy hf EW
     go_wp2_with (first | (at_lookup; refine MapN.look_ok _ rfl _ _ 101 rfl 9 47 MapN.law Tryz.underlying101 (MapN.za7 _) B 40 (MapN.mapOf L) rfl (za MW) _ _ rfl hkey m (za ha2) true (za ha) ?_) | (at_mapUpdate; refine wpList_mapUpdate_own _ rfl _ _ _ 101 rfl 9 47 MapN.law Tryz.underlying101 _ B 40 _ rfl ((za MW).alloc _) (by unfold maxLen; omega) _ _ _ rfl rfl hkey _ [] (MapN.zi6 ⟨np, nk, nd, nt, nm⟩) ?_))
     intro wZ hownZ hgrowZ
     have FZ := hide (show (∃ D', wZ.ownsMap Tryz.prog 9 MapN.elem B 41 D' ∧ MapN.Reads D' (L.filter (fun m => !decide (m.path = np)) ++ [⟨np, nk, nd, nt, nm⟩])) ∧ w.grownBy wZ (some B) from ⟨⟨_, hownZ, za RP⟩, Mem.zj7 (Mem.zc9 (BW.alloc BW.size _) _) hgrowZ⟩)
     clear hownZ hgrowZ RP MW ha ha2
     go_wp2
     go_ret
     exact ⟨.inr ⟨rfl, hnb, za FIN, za FZ⟩⟩
   ·have tpl : (0 : Int) < (PL : Int) := by omega
    have FIN := hide (show (11 : Int) = Pl.addC L ⟨np, nk, nd, nt, nm⟩ from (za E11 (za Q1) (za Q0) ⟨hk1, HUV2.2 hpl⟩).symm)
    have k4 := ((za HE).call BW).c4
    clear HUV2 E6 E12 E11 E9 E0 HPB V3 Q0 Q1
    go_wp2
    go_ret
    exact ⟨.inl ⟨4, by omega, rfl, by rw [if_pos hnb]; exact za FIN, BW⟩⟩
end WPutI
end Go.Proofs.YtppmlbofhghghaaGreatDoor

namespace Go.Proofs.YtppmlbofhghghaaGreatDoor
open Go.RowKit
namespace WPutC
structure At (w W : World) (a : Option Addr) (cap : Nat) (L : List Pl.Nd) (n : Pl.Nd) : Prop where
 bel : Below w.heap.size w W
 one : Mem.Blk W w.heap.size #[.slice a L.length cap] 50
 two : Mem.Blk W (w.heap.size + 1) n.cs.toArray 47
 three : Mem.Blk W (w.heap.size + 1 + 1) #[.slice none 0 0, .int .i64 0] 55
theorem At.call {w W W' : World} {a : Option Addr} {cap : Nat} {L : List Pl.Nd} {n : Pl.Nd} (h : At w W a cap L n) (b : Below W.heap.size W W') : At w W' a cap L n :=
 ⟨h.bel.trans (b.mono h.bel.size), h.one.call b, h.two.call b, h.three.call b⟩
set_option linter.unusedSimpArgs false in
set_option maxRecDepth 100000 in
set_option maxHeartbeats 1000000 in
theorem zq (a : Option Addr) (cap : Nat) (L : List Pl.Nd) (n : Pl.Nd) (w : World) (hl : L.length ≤ 1000) (hA : zb1.okA w a cap L) (hv : Mem.za1 w a L) (hok : ∀ m ∈ L, m.path.size ≤ 8000) (hn8 : n.path.size ≤ 8000) :
  Calls Tryz.prog 62 #[.agg #[.slice a L.length cap], n.val] w fun e w' => ∃ v, e = .returned (.agg #[v, .int .i64 (Pl.addC L n)]) ∧ Mem.ownN w' w.heap.size v (Pl.addO L n) ∧ Below w.heap.size w w' := by
 have HPA := hide (fun W => zh1.zt2 n.path W (by unfold maxLen; omega))
 have HAU := hide (fun W (b : Below w.heap.size w W) => zk5.zr1 a cap L (Pl.parent n.path) W (by omega) (Mem.za0 hv b))
 have HDU := hide (fun W (b : Below w.heap.size w W) => zk5.yg1 a cap L (Pl.parent n.path) W (by omega) (Mem.za0 hv b))
 have HOV := hide (fun W (b : Below w.heap.size w W) => WPutS.over_any a cap L n.path W (by omega) (Mem.za0 hv b) (by omega))
 have HAN := hide (fun W (b : Below w.heap.size w W) => zk5.zr1 a cap L n.path W (by omega) (Mem.za0 hv b))
 have HPU := hide (fun W (b : Below w.heap.size w W) => zb1.yb9 a cap L n W hl (zb1.zg3 hA b.size) (Mem.za0 hv b) hok hn8)
 have E6 : Hid ((Pl.parent n.path).size ≠ 0 ∧ L.find? (fun m => decide (m.path = Pl.parent n.path)) = none → Pl.addC L n = 6) := fun h => by rw [Pl.addC, if_pos h]
 have E12 : Hid (¬ ((Pl.parent n.path).size ≠ 0 ∧ L.find? (fun m => decide (m.path = Pl.parent n.path)) = none) → Pl.dirS L (Pl.parent n.path) = false → Pl.addC L n = 12) := fun h h2 => by rw [Pl.addC, if_neg h, if_pos h2]
 have E11 : Hid (¬ ((Pl.parent n.path).size ≠ 0 ∧ L.find? (fun m => decide (m.path = Pl.parent n.path)) = none) → Pl.dirS L (Pl.parent n.path) = true → n.kind ≠ 1 ∧ Pl.ze9 L n.path = true → Pl.addC L n = 11) := fun h h2 h3 => by rw [Pl.addC, if_neg h, if_neg (by rw [h2]; simp), if_pos h3]
 have E9 : Hid (¬ ((Pl.parent n.path).size ≠ 0 ∧ L.find? (fun m => decide (m.path = Pl.parent n.path)) = none) → Pl.dirS L (Pl.parent n.path) = true → ¬ (n.kind ≠ 1 ∧ Pl.ze9 L n.path = true) → (L.find? (fun m => decide (m.path = n.path)) = none ∧ 40 ≤ L.length) → Pl.addC L n = 9) := fun h h2 h3 h4 => by rw [Pl.addC, if_neg h, if_neg (by rw [h2]; simp), if_neg h3, if_pos h4]
 have E0 : Hid (¬ ((Pl.parent n.path).size ≠ 0 ∧ L.find? (fun m => decide (m.path = Pl.parent n.path)) = none) → Pl.dirS L (Pl.parent n.path) = true → ¬ (n.kind ≠ 1 ∧ Pl.ze9 L n.path = true) → ¬ (L.find? (fun m => decide (m.path = n.path)) = none ∧ 40 ≤ L.length) → Pl.addC L n = 0) := fun h h2 h3 h4 => by rw [Pl.addC, if_neg h, if_neg (by rw [h2]; simp), if_neg h3, if_neg h4]
 have HO : Hid (Pl.addO L n = if Pl.addC L n = 0 then Pl.putL L n else []) := rfl
 obtain ⟨C, HC⟩ : ∃ C, Hid (C = Pl.addC L n) := ⟨_, hide rfl⟩
 rw [← za HC] at HO ⊢
 generalize Pl.addO L n = O at HO ⊢
 obtain ⟨np, nk, nd, nt, nm⟩ := n
 simp only [Pl.Nd.val] at HPA HAU HDU HOV HAN HPU hn8 HC HO E6 E12 E11 E9 E0 ⊢
 have H0 : At w (((w.alloc (.cells #[.slice a L.length cap] 50)).alloc (.cells #[.string np, .int .i64 nk, .string nd, .int .i64 nt, .int .i64 nm] 47)).alloc (.cells #[.slice none 0 0, .int .i64 0] 55)) a cap L ⟨np, nk, nd, nt, nm⟩ :=
  ⟨(((Below.refl _ _).alloc (Nat.le_refl _) _).alloc (by simp) _).alloc (by simp; omega) _, ((Mem.Blk.new _ _ _).alloc _).alloc _, (by have h := (Mem.Blk.new (w.alloc (.cells #[.slice a L.length cap] 50)) #[.string np, .int .i64 nk, .string nd, .int .i64 nt, .int .i64 nm] 47).alloc (.cells #[.slice none 0 0, .int .i64 0] 55); rwa [show (w.alloc (.cells #[.slice a L.length cap] 50)).heap.size = w.heap.size + 1 by simp] at h), Mem.zq0 _ _ _ _⟩
 have HA := hide H0
 clear H0 hv hok hn8
 go_enter Tryz.func62, Tryz.ntmps62
 go_wp2_with fail
 refine (za HPA _).mono ?_
 rintro e wP ⟨rfl, hwP⟩
 obtain rfl := hwP.symm
 clear HPA
 generalize hUP : Pl.parent np = UP at HAU HDU E6 E12 E11 E9 E0
 generalize ((w.alloc (.cells #[.slice a L.length cap] 50)).alloc (.cells #[.string np, .int .i64 nk, .string nd, .int .i64 nt, .int .i64 nm] 47)).alloc (.cells #[.slice none 0 0, .int .i64 0] 55) = W1 at HA ⊢
 have c1 := (za HA).one.cell 0
 have p0 := (za HA).two.cell 0
 have p1 := (za HA).two.cell 1
 have p2 := (za HA).two.cell 2
 have p3 := (za HA).two.cell 3
 have p4 := (za HA).two.cell 4
 simp only [Pl.Nd.cs, kA0, kA1, kA2] at c1 p0 p1 p2 p3 p4
 by_cases h0 : UP.size = 0
 ·have t0 : UP.toList.isEmpty = true := by rw [Pl.zf7]; simpa [Pl.zj6] using h0
  have Q1 : Hid (¬ (UP.size ≠ 0 ∧ L.find? (fun m => decide (m.path = UP)) = none)) := fun h => h.1 h0
  clear h0 HAU hUP
  go_wp2_with fail
  refine (za HDU _ (za HA).bel).mono ?_
  rintro e wV ⟨rfl, bV⟩
  have HA3 := hide ((za HA).call bV)
  clear HA bV HDU
  clear c1 p0 p1 p2 p3 p4
  cases hdd : Pl.dirS L UP
  ·have EC := hide (show C = 12 by rw [za HC]; exact za E12 (za Q1) hdd)
   have EN := hide (show O = [] by rw [za HO, if_neg (by rw [za EC]; decide)])
   clear HC HO
   clear hdd E6 E12 E11 E9 E0 HOV HAN HPU Q1
   go_wp2_with fail
   refine (zg7.zc1 12 _).mono ?_
   rintro e wI ⟨rfl, bI⟩
   have AI := hide ((za HA3).call bI)
   clear bI HA3
   have d0 := (za AI).three.cell 0
   have d1 := (za AI).three.cell 1
   have f0 := (za AI).three.fr 0
   have f1 := (za AI).three.fr 1
   simp only [kA0, kA1, kA2] at d0 d1
   go_wp2
   refine bodyPost_ret (v := .agg #[.slice none 0 0, .int .i64 12]) (by simp [results, Tryz.results62, go_sem, d0, d1]) rfl ⟨.slice none 0 0, by rw [za EC], by rw [za EN]; exact Mem.zb6 _ _, ?_⟩
   exact ((za AI).bel.setCell (by show w.heap.size ≤ w.heap.size + 1 + 1; omega) _).setCell (by show w.heap.size ≤ w.heap.size + 1 + 1; omega) _
  have c1 := (za HA3).one.cell 0
  have p0 := (za HA3).two.cell 0
  have p1 := (za HA3).two.cell 1
  have p2 := (za HA3).two.cell 2
  have p3 := (za HA3).two.cell 3
  have p4 := (za HA3).two.cell 4
  simp only [Pl.Nd.cs, kA0, kA1, kA2] at c1 p0 p1 p2 p3 p4
  by_cases hk1 : nk = 1
  ·subst hk1
   have Q2 : Hid (¬ ((1 : Int) ≠ 1 ∧ Pl.ze9 L np = true)) := fun h => h.1 rfl
   have Q0 : Hid (Pl.dirS L UP = true) := hdd
   clear hdd HOV
   have HA4 := HA3
   clear HA3
   go_wp2_with fail
   refine (za HAN _ (za HA4).bel).mono ?_
   rintro e wN ⟨⟨r, rfl, hr⟩, bN⟩
   have HA5 := hide ((za HA4).call bN)
   clear HA4 bN HAN
   clear c1 p0 p1 p2 p3 p4
   rcases hr.out with ⟨kn, nn, rfl, hkn, hfn⟩ | ⟨rfl, hfn⟩
   ·have tn : ¬ ((kn : Int) < 0) := by omega
    have EC := hide (show C = 0 by rw [za HC]; exact za E0 (za Q1) (za Q0) (za Q2) (fun h => by rw [hfn] at h; cases h.1))
    clear hr hkn hfn E6 E12 E11 E9 E0 Q0 Q1 Q2
    have EN := hide (show O = Pl.putL L ⟨np, 1, nd, nt, nm⟩ by rw [za HO, if_pos (za EC)])
    clear HC HO
    have c1 := (za HA5).one.cell 0
    have p0 := (za HA5).two.cell 0
    have p1 := (za HA5).two.cell 1
    have p2 := (za HA5).two.cell 2
    have p3 := (za HA5).two.cell 3
    have p4 := (za HA5).two.cell 4
    simp only [Pl.Nd.cs, kA0, kA1, kA2] at c1 p0 p1 p2 p3 p4
    go_wp2_with fail
    refine (za HPU _ (za HA5).bel).mono ?_
    rintro e wT ⟨v, rfl, own, bT⟩
    obtain ⟨a', cap', hvv⟩ := Mem.za2 own
    subst hvv
    have hs5 := (za HA5).three.lt
    have AI := hide ((za HA5).call bT)
    have OW := hide own
    clear own bT HA5 HPU c1 p0 p1 p2 p3 p4
    have d0 := (za AI).three.cell 0
    have d1 := (za AI).three.cell 1
    have f0 := (za AI).three.fr 0
    have f1 := (za AI).three.fr 1
    simp only [kA0, kA1, kA2] at d0 d1
    go_wp2
    refine bodyPost_ret (v := .agg #[.slice a' (Pl.putL L ⟨np, 1, nd, nt, nm⟩).length cap', .int .i64 0]) (by simp [results, Tryz.results62, go_sem, d0, d1]) rfl ⟨.slice a' (Pl.putL L ⟨np, 1, nd, nt, nm⟩).length cap', by rw [za EC], ?_, ?_⟩
    ·rw [za EN]
     exact Mem.zb4 (Mem.za8 (Mem.za8 (za OW) _ _ (by show w.heap.size + 1 + 1 < _; omega)) _ _ (by show w.heap.size + 1 + 1 < _; omega)) (by omega)
    ·exact ((za AI).bel.setCell (by show w.heap.size ≤ w.heap.size + 1 + 1; omega) _).setCell (by show w.heap.size ≤ w.heap.size + 1 + 1; omega) _
   ·by_cases h40 : 40 ≤ L.length
    ·have t40 : (40 : Int) ≤ (L.length : Int) := by omega
     have EC := hide (show C = 9 by rw [za HC]; exact za E9 (za Q1) (za Q0) (za Q2) ⟨hfn, h40⟩)
     have EN := hide (show O = [] by rw [za HO, if_neg (by rw [za EC]; decide)])
     clear HC HO
     clear hr hfn E6 E12 E11 E9 E0 HPU Q0 Q1 Q2
     have c1 := (za HA5).one.cell 0
     have p0 := (za HA5).two.cell 0
     have p1 := (za HA5).two.cell 1
     have p2 := (za HA5).two.cell 2
     have p3 := (za HA5).two.cell 3
     have p4 := (za HA5).two.cell 4
     simp only [Pl.Nd.cs, kA0, kA1, kA2] at c1 p0 p1 p2 p3 p4
     go_wp2_with fail
     refine (zg7.zc1 9 _).mono ?_
     rintro e wI ⟨rfl, bI⟩
     have AI := hide ((za HA5).call bI)
     clear bI HA5
     have d0 := (za AI).three.cell 0
     have d1 := (za AI).three.cell 1
     have f0 := (za AI).three.fr 0
     have f1 := (za AI).three.fr 1
     simp only [kA0, kA1, kA2] at d0 d1
     go_wp2
     refine bodyPost_ret (v := .agg #[.slice none 0 0, .int .i64 9]) (by simp [results, Tryz.results62, go_sem, d0, d1]) rfl ⟨.slice none 0 0, by rw [za EC], by rw [za EN]; exact Mem.zb6 _ _, ?_⟩
     exact ((za AI).bel.setCell (by show w.heap.size ≤ w.heap.size + 1 + 1; omega) _).setCell (by show w.heap.size ≤ w.heap.size + 1 + 1; omega) _
    ·have t40 : ¬ (40 : Int) ≤ (L.length : Int) := by omega
     have EC := hide (show C = 0 by rw [za HC]; exact za E0 (za Q1) (za Q0) (za Q2) (fun h => h40 h.2))
     clear hr hfn E6 E12 E11 E9 E0 Q0 Q1 Q2 h40
     have EN := hide (show O = Pl.putL L ⟨np, 1, nd, nt, nm⟩ by rw [za HO, if_pos (za EC)])
     clear HC HO
     have c1 := (za HA5).one.cell 0
     have p0 := (za HA5).two.cell 0
     have p1 := (za HA5).two.cell 1
     have p2 := (za HA5).two.cell 2
     have p3 := (za HA5).two.cell 3
     have p4 := (za HA5).two.cell 4
     simp only [Pl.Nd.cs, kA0, kA1, kA2] at c1 p0 p1 p2 p3 p4
     go_wp2_with fail
     refine (za HPU _ (za HA5).bel).mono ?_
     rintro e wT ⟨v, rfl, own, bT⟩
     obtain ⟨a', cap', hvv⟩ := Mem.za2 own
     subst hvv
     have hs5 := (za HA5).three.lt
     have AI := hide ((za HA5).call bT)
     have OW := hide own
     clear own bT HA5 HPU c1 p0 p1 p2 p3 p4
     have d0 := (za AI).three.cell 0
     have d1 := (za AI).three.cell 1
     have f0 := (za AI).three.fr 0
     have f1 := (za AI).three.fr 1
     simp only [kA0, kA1, kA2] at d0 d1
     go_wp2
     refine bodyPost_ret (v := .agg #[.slice a' (Pl.putL L ⟨np, 1, nd, nt, nm⟩).length cap', .int .i64 0]) (by simp [results, Tryz.results62, go_sem, d0, d1]) rfl ⟨.slice a' (Pl.putL L ⟨np, 1, nd, nt, nm⟩).length cap', by rw [za EC], ?_, ?_⟩
     ·rw [za EN]
      exact Mem.zb4 (Mem.za8 (Mem.za8 (za OW) _ _ (by show w.heap.size + 1 + 1 < _; omega)) _ _ (by show w.heap.size + 1 + 1 < _; omega)) (by omega)
     ·exact ((za AI).bel.setCell (by show w.heap.size ≤ w.heap.size + 1 + 1; omega) _).setCell (by show w.heap.size ≤ w.heap.size + 1 + 1; omega) _
  ·have tk : (nk == 1) = false := by simpa using hk1
   go_wp2_with fail
   refine (za HOV _ (za HA3).bel).mono ?_
   rintro e wO ⟨rfl, bO⟩
   have HA4 := hide ((za HA3).call bO)
   clear HA3 bO HOV c1 p0 p1 p2 p3 p4
   cases hov : Pl.ze9 L np
   ·have Q2 : Hid (¬ (nk ≠ 1 ∧ Pl.ze9 L np = true)) := fun h => by rw [hov] at h; cases h.2
    have Q0 : Hid (Pl.dirS L UP = true) := hdd
    clear hov hdd hk1
    have c1 := (za HA4).one.cell 0
    have p0 := (za HA4).two.cell 0
    have p1 := (za HA4).two.cell 1
    have p2 := (za HA4).two.cell 2
    have p3 := (za HA4).two.cell 3
    have p4 := (za HA4).two.cell 4
    simp only [Pl.Nd.cs, kA0, kA1, kA2] at c1 p0 p1 p2 p3 p4
    go_wp2_with fail
    refine (za HAN _ (za HA4).bel).mono ?_
    rintro e wN ⟨⟨r, rfl, hr⟩, bN⟩
    have HA5 := hide ((za HA4).call bN)
    clear HA4 bN HAN
    clear c1 p0 p1 p2 p3 p4
    rcases hr.out with ⟨kn, nn, rfl, hkn, hfn⟩ | ⟨rfl, hfn⟩
    ·have tn : ¬ ((kn : Int) < 0) := by omega
     have EC := hide (show C = 0 by rw [za HC]; exact za E0 (za Q1) (za Q0) (za Q2) (fun h => by rw [hfn] at h; cases h.1))
     clear hr hkn hfn E6 E12 E11 E9 E0 Q0 Q1 Q2
     have EN := hide (show O = Pl.putL L ⟨np, nk, nd, nt, nm⟩ by rw [za HO, if_pos (za EC)])
     clear HC HO
     have c1 := (za HA5).one.cell 0
     have p0 := (za HA5).two.cell 0
     have p1 := (za HA5).two.cell 1
     have p2 := (za HA5).two.cell 2
     have p3 := (za HA5).two.cell 3
     have p4 := (za HA5).two.cell 4
     simp only [Pl.Nd.cs, kA0, kA1, kA2] at c1 p0 p1 p2 p3 p4
     go_wp2_with fail
     refine (za HPU _ (za HA5).bel).mono ?_
     rintro e wT ⟨v, rfl, own, bT⟩
     obtain ⟨a', cap', hvv⟩ := Mem.za2 own
     subst hvv
     have hs5 := (za HA5).three.lt
     have AI := hide ((za HA5).call bT)
     have OW := hide own
     clear own bT HA5 HPU c1 p0 p1 p2 p3 p4
     have d0 := (za AI).three.cell 0
     have d1 := (za AI).three.cell 1
     have f0 := (za AI).three.fr 0
     have f1 := (za AI).three.fr 1
     simp only [kA0, kA1, kA2] at d0 d1
     go_wp2
     refine bodyPost_ret (v := .agg #[.slice a' (Pl.putL L ⟨np, nk, nd, nt, nm⟩).length cap', .int .i64 0]) (by simp [results, Tryz.results62, go_sem, d0, d1]) rfl ⟨.slice a' (Pl.putL L ⟨np, nk, nd, nt, nm⟩).length cap', by rw [za EC], ?_, ?_⟩
     ·rw [za EN]
      exact Mem.zb4 (Mem.za8 (Mem.za8 (za OW) _ _ (by show w.heap.size + 1 + 1 < _; omega)) _ _ (by show w.heap.size + 1 + 1 < _; omega)) (by omega)
     ·exact ((za AI).bel.setCell (by show w.heap.size ≤ w.heap.size + 1 + 1; omega) _).setCell (by show w.heap.size ≤ w.heap.size + 1 + 1; omega) _
    ·by_cases h40 : 40 ≤ L.length
     ·have t40 : (40 : Int) ≤ (L.length : Int) := by omega
      have EC := hide (show C = 9 by rw [za HC]; exact za E9 (za Q1) (za Q0) (za Q2) ⟨hfn, h40⟩)
      have EN := hide (show O = [] by rw [za HO, if_neg (by rw [za EC]; decide)])
      clear HC HO
      clear hr hfn E6 E12 E11 E9 E0 HPU Q0 Q1 Q2
      have c1 := (za HA5).one.cell 0
      have p0 := (za HA5).two.cell 0
      have p1 := (za HA5).two.cell 1
      have p2 := (za HA5).two.cell 2
      have p3 := (za HA5).two.cell 3
      have p4 := (za HA5).two.cell 4
      simp only [Pl.Nd.cs, kA0, kA1, kA2] at c1 p0 p1 p2 p3 p4
      go_wp2_with fail
      refine (zg7.zc1 9 _).mono ?_
      rintro e wI ⟨rfl, bI⟩
      have AI := hide ((za HA5).call bI)
      clear bI HA5
      have d0 := (za AI).three.cell 0
      have d1 := (za AI).three.cell 1
      have f0 := (za AI).three.fr 0
      have f1 := (za AI).three.fr 1
      simp only [kA0, kA1, kA2] at d0 d1
      go_wp2
      refine bodyPost_ret (v := .agg #[.slice none 0 0, .int .i64 9]) (by simp [results, Tryz.results62, go_sem, d0, d1]) rfl ⟨.slice none 0 0, by rw [za EC], by rw [za EN]; exact Mem.zb6 _ _, ?_⟩
      exact ((za AI).bel.setCell (by show w.heap.size ≤ w.heap.size + 1 + 1; omega) _).setCell (by show w.heap.size ≤ w.heap.size + 1 + 1; omega) _
     ·have t40 : ¬ (40 : Int) ≤ (L.length : Int) := by omega
      have EC := hide (show C = 0 by rw [za HC]; exact za E0 (za Q1) (za Q0) (za Q2) (fun h => h40 h.2))
      clear hr hfn E6 E12 E11 E9 E0 Q0 Q1 Q2 h40
      have EN := hide (show O = Pl.putL L ⟨np, nk, nd, nt, nm⟩ by rw [za HO, if_pos (za EC)])
      clear HC HO
      have c1 := (za HA5).one.cell 0
      have p0 := (za HA5).two.cell 0
      have p1 := (za HA5).two.cell 1
      have p2 := (za HA5).two.cell 2
      have p3 := (za HA5).two.cell 3
      have p4 := (za HA5).two.cell 4
      simp only [Pl.Nd.cs, kA0, kA1, kA2] at c1 p0 p1 p2 p3 p4
      go_wp2_with fail
      refine (za HPU _ (za HA5).bel).mono ?_
      rintro e wT ⟨v, rfl, own, bT⟩
      obtain ⟨a', cap', hvv⟩ := Mem.za2 own
      subst hvv
      have hs5 := (za HA5).three.lt
      have AI := hide ((za HA5).call bT)
      have OW := hide own
      clear own bT HA5 HPU c1 p0 p1 p2 p3 p4
      have d0 := (za AI).three.cell 0
      have d1 := (za AI).three.cell 1
      have f0 := (za AI).three.fr 0
      have f1 := (za AI).three.fr 1
      simp only [kA0, kA1, kA2] at d0 d1
      go_wp2
      refine bodyPost_ret (v := .agg #[.slice a' (Pl.putL L ⟨np, nk, nd, nt, nm⟩).length cap', .int .i64 0]) (by simp [results, Tryz.results62, go_sem, d0, d1]) rfl ⟨.slice a' (Pl.putL L ⟨np, nk, nd, nt, nm⟩).length cap', by rw [za EC], ?_, ?_⟩
      ·rw [za EN]
       exact Mem.zb4 (Mem.za8 (Mem.za8 (za OW) _ _ (by show w.heap.size + 1 + 1 < _; omega)) _ _ (by show w.heap.size + 1 + 1 < _; omega)) (by omega)
      ·exact ((za AI).bel.setCell (by show w.heap.size ≤ w.heap.size + 1 + 1; omega) _).setCell (by show w.heap.size ≤ w.heap.size + 1 + 1; omega) _
   ·have EC := hide (show C = 11 by rw [za HC]; exact za E11 (za Q1) hdd ⟨hk1, hov⟩)
    have EN := hide (show O = [] by rw [za HO, if_neg (by rw [za EC]; decide)])
    clear HC HO
    clear hov hdd hk1 E6 E12 E11 E9 E0 HAN HPU Q1
    go_wp2_with fail
    refine (zg7.zc1 11 _).mono ?_
    rintro e wI ⟨rfl, bI⟩
    have AI := hide ((za HA4).call bI)
    clear bI HA4
    have d0 := (za AI).three.cell 0
    have d1 := (za AI).three.cell 1
    have f0 := (za AI).three.fr 0
    have f1 := (za AI).three.fr 1
    simp only [kA0, kA1, kA2] at d0 d1
    go_wp2
    refine bodyPost_ret (v := .agg #[.slice none 0 0, .int .i64 11]) (by simp [results, Tryz.results62, go_sem, d0, d1]) rfl ⟨.slice none 0 0, by rw [za EC], by rw [za EN]; exact Mem.zb6 _ _, ?_⟩
    exact ((za AI).bel.setCell (by show w.heap.size ≤ w.heap.size + 1 + 1; omega) _).setCell (by show w.heap.size ≤ w.heap.size + 1 + 1; omega) _
 ·have t0 : UP.toList.isEmpty = false := by rw [Pl.zf7]; simpa [Pl.zj6] using h0
  go_wp2_with fail
  refine (za HAU _ (za HA).bel).mono ?_
  rintro e wU ⟨⟨r, rfl, hr⟩, bU⟩
  have HA2 := hide ((za HA).call bU)
  clear HA bU HAU c1 p0 p1 p2 p3 p4
  rcases hr.out with ⟨ku, nu, rfl, hku, hfu⟩ | ⟨rfl, hfu⟩
  ·have tu : ¬ ((ku : Int) < 0) := by omega
   have Q1 : Hid (¬ (UP.size ≠ 0 ∧ L.find? (fun m => decide (m.path = UP)) = none)) := fun h => by rw [hfu] at h; cases h.2
   clear hr hku hfu h0 hUP
   have HA := HA2
   clear HA2
   have c1 := (za HA).one.cell 0
   have p0 := (za HA).two.cell 0
   have p1 := (za HA).two.cell 1
   have p2 := (za HA).two.cell 2
   have p3 := (za HA).two.cell 3
   have p4 := (za HA).two.cell 4
   simp only [Pl.Nd.cs, kA0, kA1, kA2] at c1 p0 p1 p2 p3 p4
   go_wp2_with fail
   refine (za HDU _ (za HA).bel).mono ?_
   rintro e wV ⟨rfl, bV⟩
   have HA3 := hide ((za HA).call bV)
   clear HA bV HDU
   clear c1 p0 p1 p2 p3 p4
   cases hdd : Pl.dirS L UP
   ·have EC := hide (show C = 12 by rw [za HC]; exact za E12 (za Q1) hdd)
    have EN := hide (show O = [] by rw [za HO, if_neg (by rw [za EC]; decide)])
    clear HC HO
    clear hdd E6 E12 E11 E9 E0 HOV HAN HPU Q1
    go_wp2_with fail
    refine (zg7.zc1 12 _).mono ?_
    rintro e wI ⟨rfl, bI⟩
    have AI := hide ((za HA3).call bI)
    clear bI HA3
    have d0 := (za AI).three.cell 0
    have d1 := (za AI).three.cell 1
    have f0 := (za AI).three.fr 0
    have f1 := (za AI).three.fr 1
    simp only [kA0, kA1, kA2] at d0 d1
    go_wp2
    refine bodyPost_ret (v := .agg #[.slice none 0 0, .int .i64 12]) (by simp [results, Tryz.results62, go_sem, d0, d1]) rfl ⟨.slice none 0 0, by rw [za EC], by rw [za EN]; exact Mem.zb6 _ _, ?_⟩
    exact ((za AI).bel.setCell (by show w.heap.size ≤ w.heap.size + 1 + 1; omega) _).setCell (by show w.heap.size ≤ w.heap.size + 1 + 1; omega) _
   have c1 := (za HA3).one.cell 0
   have p0 := (za HA3).two.cell 0
   have p1 := (za HA3).two.cell 1
   have p2 := (za HA3).two.cell 2
   have p3 := (za HA3).two.cell 3
   have p4 := (za HA3).two.cell 4
   simp only [Pl.Nd.cs, kA0, kA1, kA2] at c1 p0 p1 p2 p3 p4
   by_cases hk1 : nk = 1
   ·subst hk1
    have Q2 : Hid (¬ ((1 : Int) ≠ 1 ∧ Pl.ze9 L np = true)) := fun h => h.1 rfl
    have Q0 : Hid (Pl.dirS L UP = true) := hdd
    clear hdd HOV
    have HA4 := HA3
    clear HA3
    go_wp2_with fail
    refine (za HAN _ (za HA4).bel).mono ?_
    rintro e wN ⟨⟨r, rfl, hr⟩, bN⟩
    have HA5 := hide ((za HA4).call bN)
    clear HA4 bN HAN
    clear c1 p0 p1 p2 p3 p4
    rcases hr.out with ⟨kn, nn, rfl, hkn, hfn⟩ | ⟨rfl, hfn⟩
    ·have tn : ¬ ((kn : Int) < 0) := by omega
     have EC := hide (show C = 0 by rw [za HC]; exact za E0 (za Q1) (za Q0) (za Q2) (fun h => by rw [hfn] at h; cases h.1))
     clear hr hkn hfn E6 E12 E11 E9 E0 Q0 Q1 Q2
     have EN := hide (show O = Pl.putL L ⟨np, 1, nd, nt, nm⟩ by rw [za HO, if_pos (za EC)])
     clear HC HO
     have c1 := (za HA5).one.cell 0
     have p0 := (za HA5).two.cell 0
     have p1 := (za HA5).two.cell 1
     have p2 := (za HA5).two.cell 2
     have p3 := (za HA5).two.cell 3
     have p4 := (za HA5).two.cell 4
     simp only [Pl.Nd.cs, kA0, kA1, kA2] at c1 p0 p1 p2 p3 p4
     go_wp2_with fail
     refine (za HPU _ (za HA5).bel).mono ?_
     rintro e wT ⟨v, rfl, own, bT⟩
     obtain ⟨a', cap', hvv⟩ := Mem.za2 own
     subst hvv
     have hs5 := (za HA5).three.lt
     have AI := hide ((za HA5).call bT)
     have OW := hide own
     clear own bT HA5 HPU c1 p0 p1 p2 p3 p4
     have d0 := (za AI).three.cell 0
     have d1 := (za AI).three.cell 1
     have f0 := (za AI).three.fr 0
     have f1 := (za AI).three.fr 1
     simp only [kA0, kA1, kA2] at d0 d1
     go_wp2
     refine bodyPost_ret (v := .agg #[.slice a' (Pl.putL L ⟨np, 1, nd, nt, nm⟩).length cap', .int .i64 0]) (by simp [results, Tryz.results62, go_sem, d0, d1]) rfl ⟨.slice a' (Pl.putL L ⟨np, 1, nd, nt, nm⟩).length cap', by rw [za EC], ?_, ?_⟩
     ·rw [za EN]
      exact Mem.zb4 (Mem.za8 (Mem.za8 (za OW) _ _ (by show w.heap.size + 1 + 1 < _; omega)) _ _ (by show w.heap.size + 1 + 1 < _; omega)) (by omega)
     ·exact ((za AI).bel.setCell (by show w.heap.size ≤ w.heap.size + 1 + 1; omega) _).setCell (by show w.heap.size ≤ w.heap.size + 1 + 1; omega) _
    ·by_cases h40 : 40 ≤ L.length
     ·have t40 : (40 : Int) ≤ (L.length : Int) := by omega
      have EC := hide (show C = 9 by rw [za HC]; exact za E9 (za Q1) (za Q0) (za Q2) ⟨hfn, h40⟩)
      have EN := hide (show O = [] by rw [za HO, if_neg (by rw [za EC]; decide)])
      clear HC HO
      clear hr hfn E6 E12 E11 E9 E0 HPU Q0 Q1 Q2
      have c1 := (za HA5).one.cell 0
      have p0 := (za HA5).two.cell 0
      have p1 := (za HA5).two.cell 1
      have p2 := (za HA5).two.cell 2
      have p3 := (za HA5).two.cell 3
      have p4 := (za HA5).two.cell 4
      simp only [Pl.Nd.cs, kA0, kA1, kA2] at c1 p0 p1 p2 p3 p4
      go_wp2_with fail
      refine (zg7.zc1 9 _).mono ?_
      rintro e wI ⟨rfl, bI⟩
      have AI := hide ((za HA5).call bI)
      clear bI HA5
      have d0 := (za AI).three.cell 0
      have d1 := (za AI).three.cell 1
      have f0 := (za AI).three.fr 0
      have f1 := (za AI).three.fr 1
      simp only [kA0, kA1, kA2] at d0 d1
      go_wp2
      refine bodyPost_ret (v := .agg #[.slice none 0 0, .int .i64 9]) (by simp [results, Tryz.results62, go_sem, d0, d1]) rfl ⟨.slice none 0 0, by rw [za EC], by rw [za EN]; exact Mem.zb6 _ _, ?_⟩
      exact ((za AI).bel.setCell (by show w.heap.size ≤ w.heap.size + 1 + 1; omega) _).setCell (by show w.heap.size ≤ w.heap.size + 1 + 1; omega) _
     ·have t40 : ¬ (40 : Int) ≤ (L.length : Int) := by omega
      have EC := hide (show C = 0 by rw [za HC]; exact za E0 (za Q1) (za Q0) (za Q2) (fun h => h40 h.2))
      clear hr hfn E6 E12 E11 E9 E0 Q0 Q1 Q2 h40
      have EN := hide (show O = Pl.putL L ⟨np, 1, nd, nt, nm⟩ by rw [za HO, if_pos (za EC)])
      clear HC HO
      have c1 := (za HA5).one.cell 0
      have p0 := (za HA5).two.cell 0
      have p1 := (za HA5).two.cell 1
      have p2 := (za HA5).two.cell 2
      have p3 := (za HA5).two.cell 3
      have p4 := (za HA5).two.cell 4
      simp only [Pl.Nd.cs, kA0, kA1, kA2] at c1 p0 p1 p2 p3 p4
      go_wp2_with fail
      refine (za HPU _ (za HA5).bel).mono ?_
      rintro e wT ⟨v, rfl, own, bT⟩
      obtain ⟨a', cap', hvv⟩ := Mem.za2 own
      subst hvv
      have hs5 := (za HA5).three.lt
      have AI := hide ((za HA5).call bT)
      have OW := hide own
      clear own bT HA5 HPU c1 p0 p1 p2 p3 p4
      have d0 := (za AI).three.cell 0
      have d1 := (za AI).three.cell 1
      have f0 := (za AI).three.fr 0
      have f1 := (za AI).three.fr 1
      simp only [kA0, kA1, kA2] at d0 d1
      go_wp2
      refine bodyPost_ret (v := .agg #[.slice a' (Pl.putL L ⟨np, 1, nd, nt, nm⟩).length cap', .int .i64 0]) (by simp [results, Tryz.results62, go_sem, d0, d1]) rfl ⟨.slice a' (Pl.putL L ⟨np, 1, nd, nt, nm⟩).length cap', by rw [za EC], ?_, ?_⟩
      ·rw [za EN]
       exact Mem.zb4 (Mem.za8 (Mem.za8 (za OW) _ _ (by show w.heap.size + 1 + 1 < _; omega)) _ _ (by show w.heap.size + 1 + 1 < _; omega)) (by omega)
      ·exact ((za AI).bel.setCell (by show w.heap.size ≤ w.heap.size + 1 + 1; omega) _).setCell (by show w.heap.size ≤ w.heap.size + 1 + 1; omega) _
   ·have tk : (nk == 1) = false := by simpa using hk1
    go_wp2_with fail
    refine (za HOV _ (za HA3).bel).mono ?_
    rintro e wO ⟨rfl, bO⟩
    have HA4 := hide ((za HA3).call bO)
    clear HA3 bO HOV c1 p0 p1 p2 p3 p4
    cases hov : Pl.ze9 L np
    ·have Q2 : Hid (¬ (nk ≠ 1 ∧ Pl.ze9 L np = true)) := fun h => by rw [hov] at h; cases h.2
     have Q0 : Hid (Pl.dirS L UP = true) := hdd
     clear hov hdd hk1
     have c1 := (za HA4).one.cell 0
     have p0 := (za HA4).two.cell 0
     have p1 := (za HA4).two.cell 1
     have p2 := (za HA4).two.cell 2
     have p3 := (za HA4).two.cell 3
     have p4 := (za HA4).two.cell 4
     simp only [Pl.Nd.cs, kA0, kA1, kA2] at c1 p0 p1 p2 p3 p4
     go_wp2_with fail
     refine (za HAN _ (za HA4).bel).mono ?_
     rintro e wN ⟨⟨r, rfl, hr⟩, bN⟩
     have HA5 := hide ((za HA4).call bN)
     clear HA4 bN HAN
     clear c1 p0 p1 p2 p3 p4
     rcases hr.out with ⟨kn, nn, rfl, hkn, hfn⟩ | ⟨rfl, hfn⟩
     ·have tn : ¬ ((kn : Int) < 0) := by omega
      have EC := hide (show C = 0 by rw [za HC]; exact za E0 (za Q1) (za Q0) (za Q2) (fun h => by rw [hfn] at h; cases h.1))
      clear hr hkn hfn E6 E12 E11 E9 E0 Q0 Q1 Q2
      have EN := hide (show O = Pl.putL L ⟨np, nk, nd, nt, nm⟩ by rw [za HO, if_pos (za EC)])
      clear HC HO
      have c1 := (za HA5).one.cell 0
      have p0 := (za HA5).two.cell 0
      have p1 := (za HA5).two.cell 1
      have p2 := (za HA5).two.cell 2
      have p3 := (za HA5).two.cell 3
      have p4 := (za HA5).two.cell 4
      simp only [Pl.Nd.cs, kA0, kA1, kA2] at c1 p0 p1 p2 p3 p4
      go_wp2_with fail
      refine (za HPU _ (za HA5).bel).mono ?_
      rintro e wT ⟨v, rfl, own, bT⟩
      obtain ⟨a', cap', hvv⟩ := Mem.za2 own
      subst hvv
      have hs5 := (za HA5).three.lt
      have AI := hide ((za HA5).call bT)
      have OW := hide own
      clear own bT HA5 HPU c1 p0 p1 p2 p3 p4
      have d0 := (za AI).three.cell 0
      have d1 := (za AI).three.cell 1
      have f0 := (za AI).three.fr 0
      have f1 := (za AI).three.fr 1
      simp only [kA0, kA1, kA2] at d0 d1
      go_wp2
      refine bodyPost_ret (v := .agg #[.slice a' (Pl.putL L ⟨np, nk, nd, nt, nm⟩).length cap', .int .i64 0]) (by simp [results, Tryz.results62, go_sem, d0, d1]) rfl ⟨.slice a' (Pl.putL L ⟨np, nk, nd, nt, nm⟩).length cap', by rw [za EC], ?_, ?_⟩
      ·rw [za EN]
       exact Mem.zb4 (Mem.za8 (Mem.za8 (za OW) _ _ (by show w.heap.size + 1 + 1 < _; omega)) _ _ (by show w.heap.size + 1 + 1 < _; omega)) (by omega)
      ·exact ((za AI).bel.setCell (by show w.heap.size ≤ w.heap.size + 1 + 1; omega) _).setCell (by show w.heap.size ≤ w.heap.size + 1 + 1; omega) _
     ·by_cases h40 : 40 ≤ L.length
      ·have t40 : (40 : Int) ≤ (L.length : Int) := by omega
       have EC := hide (show C = 9 by rw [za HC]; exact za E9 (za Q1) (za Q0) (za Q2) ⟨hfn, h40⟩)
       have EN := hide (show O = [] by rw [za HO, if_neg (by rw [za EC]; decide)])
       clear HC HO
       clear hr hfn E6 E12 E11 E9 E0 HPU Q0 Q1 Q2
       have c1 := (za HA5).one.cell 0
       have p0 := (za HA5).two.cell 0
       have p1 := (za HA5).two.cell 1
       have p2 := (za HA5).two.cell 2
       have p3 := (za HA5).two.cell 3
       have p4 := (za HA5).two.cell 4
       simp only [Pl.Nd.cs, kA0, kA1, kA2] at c1 p0 p1 p2 p3 p4
       go_wp2_with fail
       refine (zg7.zc1 9 _).mono ?_
       rintro e wI ⟨rfl, bI⟩
       have AI := hide ((za HA5).call bI)
       clear bI HA5
       have d0 := (za AI).three.cell 0
       have d1 := (za AI).three.cell 1
       have f0 := (za AI).three.fr 0
       have f1 := (za AI).three.fr 1
       simp only [kA0, kA1, kA2] at d0 d1
       go_wp2
       refine bodyPost_ret (v := .agg #[.slice none 0 0, .int .i64 9]) (by simp [results, Tryz.results62, go_sem, d0, d1]) rfl ⟨.slice none 0 0, by rw [za EC], by rw [za EN]; exact Mem.zb6 _ _, ?_⟩
       exact ((za AI).bel.setCell (by show w.heap.size ≤ w.heap.size + 1 + 1; omega) _).setCell (by show w.heap.size ≤ w.heap.size + 1 + 1; omega) _
      ·have t40 : ¬ (40 : Int) ≤ (L.length : Int) := by omega
       have EC := hide (show C = 0 by rw [za HC]; exact za E0 (za Q1) (za Q0) (za Q2) (fun h => h40 h.2))
       clear hr hfn E6 E12 E11 E9 E0 Q0 Q1 Q2 h40
       have EN := hide (show O = Pl.putL L ⟨np, nk, nd, nt, nm⟩ by rw [za HO, if_pos (za EC)])
       clear HC HO
       have c1 := (za HA5).one.cell 0
       have p0 := (za HA5).two.cell 0
       have p1 := (za HA5).two.cell 1
       have p2 := (za HA5).two.cell 2
       have p3 := (za HA5).two.cell 3
       have p4 := (za HA5).two.cell 4
       simp only [Pl.Nd.cs, kA0, kA1, kA2] at c1 p0 p1 p2 p3 p4
       go_wp2_with fail
       refine (za HPU _ (za HA5).bel).mono ?_
       rintro e wT ⟨v, rfl, own, bT⟩
       obtain ⟨a', cap', hvv⟩ := Mem.za2 own
       subst hvv
       have hs5 := (za HA5).three.lt
       have AI := hide ((za HA5).call bT)
       have OW := hide own
       clear own bT HA5 HPU c1 p0 p1 p2 p3 p4
       have d0 := (za AI).three.cell 0
       have d1 := (za AI).three.cell 1
       have f0 := (za AI).three.fr 0
       have f1 := (za AI).three.fr 1
       simp only [kA0, kA1, kA2] at d0 d1
       go_wp2
       refine bodyPost_ret (v := .agg #[.slice a' (Pl.putL L ⟨np, nk, nd, nt, nm⟩).length cap', .int .i64 0]) (by simp [results, Tryz.results62, go_sem, d0, d1]) rfl ⟨.slice a' (Pl.putL L ⟨np, nk, nd, nt, nm⟩).length cap', by rw [za EC], ?_, ?_⟩
       ·rw [za EN]
        exact Mem.zb4 (Mem.za8 (Mem.za8 (za OW) _ _ (by show w.heap.size + 1 + 1 < _; omega)) _ _ (by show w.heap.size + 1 + 1 < _; omega)) (by omega)
       ·exact ((za AI).bel.setCell (by show w.heap.size ≤ w.heap.size + 1 + 1; omega) _).setCell (by show w.heap.size ≤ w.heap.size + 1 + 1; omega) _
    ·have EC := hide (show C = 11 by rw [za HC]; exact za E11 (za Q1) hdd ⟨hk1, hov⟩)
     have EN := hide (show O = [] by rw [za HO, if_neg (by rw [za EC]; decide)])
     clear HC HO
     clear hov hdd hk1 E6 E12 E11 E9 E0 HAN HPU Q1
     go_wp2_with fail
     refine (zg7.zc1 11 _).mono ?_
     rintro e wI ⟨rfl, bI⟩
     have AI := hide ((za HA4).call bI)
     clear bI HA4
     have d0 := (za AI).three.cell 0
     have d1 := (za AI).three.cell 1
     have f0 := (za AI).three.fr 0
     have f1 := (za AI).three.fr 1
     simp only [kA0, kA1, kA2] at d0 d1
     go_wp2
     refine bodyPost_ret (v := .agg #[.slice none 0 0, .int .i64 11]) (by simp [results, Tryz.results62, go_sem, d0, d1]) rfl ⟨.slice none 0 0, by rw [za EC], by rw [za EN]; exact Mem.zb6 _ _, ?_⟩
     exact ((za AI).bel.setCell (by show w.heap.size ≤ w.heap.size + 1 + 1; omega) _).setCell (by show w.heap.size ≤ w.heap.size + 1 + 1; omega) _
  ·have EC := hide (show C = 6 by rw [za HC]; exact za E6 ⟨h0, hfu⟩)
   have EN := hide (show O = [] by rw [za HO, if_neg (by rw [za EC]; decide)])
   clear HC HO
   clear hr hfu h0 hUP E6 E12 E11 E9 E0 HDU HOV HAN HPU
   go_wp2_with fail
   refine (zg7.zc1 6 _).mono ?_
   rintro e wI ⟨rfl, bI⟩
   have AI := hide ((za HA2).call bI)
   clear bI HA2
   have d0 := (za AI).three.cell 0
   have d1 := (za AI).three.cell 1
   have f0 := (za AI).three.fr 0
   have f1 := (za AI).three.fr 1
   simp only [kA0, kA1, kA2] at d0 d1
   go_wp2
   refine bodyPost_ret (v := .agg #[.slice none 0 0, .int .i64 6]) (by simp [results, Tryz.results62, go_sem, d0, d1]) rfl ⟨.slice none 0 0, by rw [za EC], by rw [za EN]; exact Mem.zb6 _ _, ?_⟩
   exact ((za AI).bel.setCell (by show w.heap.size ≤ w.heap.size + 1 + 1; omega) _).setCell (by show w.heap.size ≤ w.heap.size + 1 + 1; omega) _
end WPutC
end Go.Proofs.YtppmlbofhghghaaGreatDoor

