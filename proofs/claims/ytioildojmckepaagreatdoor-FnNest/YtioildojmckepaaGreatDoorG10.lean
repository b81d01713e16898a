/- Several texts of one claim in one file: WIll3, MemPutT. -/
import Derived.Test.YtioildojmckepaaGreatDoorG01
import Derived.Test.YtioildojmckepaaGreatDoorG08
import Derived.Test.YtioildojmckepaaGreatDoorProg
import Derived.Deep.RegionHeld3
namespace Go.Proofs.YtioildojmckepaaGreatDoor
open Go.RowKit
namespace zj4
set_option maxRecDepth 100000 in
theorem zg5 (c : Int) (w : World) :
  Calls Tryz.prog 59 #[.int .i64 c] w fun e w' => e = .returned (.agg #[.slice none 0 0, .int .i64 c]) ∧ Below w.heap.size w w' := by
 have b0 : Below w.heap.size w (w.alloc (.cells #[.slice none 0 0, .int .i64 c] 62)) := (Below.refl _ _).alloc (Nat.le_refl _) _
 have HB := hide (fun o (a : Addr) v (h : w.heap.size ≤ a.block) (a2 : Addr) v2 (h2 : w.heap.size ≤ a2.block) => ((((Below.refl w.heap.size w).alloc (Nat.le_refl _) o).setCell h v).setCell h2 v2))
 clear b0
 go_enter Tryz.func59, Tryz.ntmps59
 go_wp2
 refine bodyPost_ret (v := .agg #[.slice none 0 0, .int .i64 c]) (by simp [results, Tryz.results59, go_sem]) rfl ⟨rfl, ?_⟩
 exact (Below.refl _ _).alloc (Nat.le_refl _) _
end zj4
end Go.Proofs.YtioildojmckepaaGreatDoor

namespace Go.Proofs.YtioildojmckepaaGreatDoor
open Go.RowKit
namespace zf4
theorem zp2 : (Tryz.prog.info? 88).map (fun i => (i.zero, i.size, i.bytes)) = some (some (.agg #[.string ⟨#[]⟩, .int .i64 0, .string ⟨#[]⟩, .int .i64 0, .int .i64 0]), 5, 56) := by kernel_rfl
theorem zv7 {w : World} {g o : Nat} {M : List Pl.Nd} (h : Mem.zb5 w (some ⟨g, o, none⟩) M) : ∀ j u, (Pl.zb6 M)[j]? = some u → w.cell? ((⟨g, o, none⟩ : Addr).add j) = some u := by
 intro j u hj
 have hlt : j < M.length * 5 := by
  have := (List.getElem?_eq_some_iff.1 hj).1
  rwa [Pl.zn6] at this
 have hd : j / 5 < M.length := by omega
 obtain ⟨g', o', e, h0, h1, h2, h3, h4, h5⟩ := h (j / 5) M[j / 5] (List.getElem?_eq_getElem hd)
 cases e
 have hc := Pl.yf0 M (j / 5) _ (List.getElem?_eq_getElem hd) (j % 5) (by omega)
 rw [show j / 5 * 5 + j % 5 = j by omega, hj] at hc
 rw [Mem.zu0]
 have hm : j % 5 = 0 ∨ j % 5 = 1 ∨ j % 5 = 2 ∨ j % 5 = 3 ∨ j % 5 = 4 := by omega
 have ej : o + j = o + j / 5 * 5 + j % 5 := by omega
 rw [ej, hc]
 rcases hm with h | h | h | h | h <;> rw [h]
 ·exact h1
 ·exact h2
 ·exact h3
 ·exact h4
 ·exact h5
theorem cells_one (M : List Pl.Nd) : ∀ u ∈ Pl.zb6 M, u.oneCell' = true := by
 intro u hu
 rw [Pl.zb6, List.mem_flatMap] at hu
 obtain ⟨n, _, hn⟩ := hu
 exact Mem.zi1 n u hn
theorem zk2 {w : World} {B m : Nat} {v : Value} {A M : List Pl.Nd} (h : w.ownsRow B 88 5 v (A.length + m) (Pl.zb6 A ++ Pl.zb6 M)) (hm : m = M.length) : Mem.ownN w B v (A ++ M) := by
 subst hm
 unfold Mem.ownN
 rw [Pl.yd1, List.length_append]; exact h
end zf4
end Go.Proofs.YtioildojmckepaaGreatDoor

