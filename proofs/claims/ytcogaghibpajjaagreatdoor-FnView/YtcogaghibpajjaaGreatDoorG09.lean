/- Several texts of one claim in one file: WIll3, MemPutT. -/
import Derived.Test.YtcogaghibpajjaaGreatDoorG01
import Derived.Test.YtcogaghibpajjaaGreatDoorG07
import Derived.Test.YtcogaghibpajjaaGreatDoorProg
import Derived.Deep.RegionHeld3
namespace Go.Proofs.YtcogaghibpajjaaGreatDoor
open Go.RowKit
namespace zk0
set_option maxRecDepth 100000 in
theorem zh2 (c : Int) (w : World) :
  Calls Tryz.prog 21 #[.int .i64 c] w fun e w' => e = .returned (.agg #[.slice none 0 0, .int .i64 c]) ∧ Below w.heap.size w w' := by
 have b0 : Below w.heap.size w (w.alloc (.cells #[.slice none 0 0, .int .i64 c] 29)) := (Below.refl _ _).alloc (Nat.le_refl _) _
 have HB := hide (fun o (a : Addr) v (h : w.heap.size ≤ a.block) (a2 : Addr) v2 (h2 : w.heap.size ≤ a2.block) => ((((Below.refl w.heap.size w).alloc (Nat.le_refl _) o).setCell h v).setCell h2 v2))
 clear b0
 go_enter Tryz.func21, Tryz.ntmps21
 go_wp2
 refine bodyPost_ret (v := .agg #[.slice none 0 0, .int .i64 c]) (by simp [results, Tryz.results21, go_sem]) rfl ⟨rfl, ?_⟩
 exact (Below.refl _ _).alloc (Nat.le_refl _) _
end zk0
end Go.Proofs.YtcogaghibpajjaaGreatDoor

namespace Go.Proofs.YtcogaghibpajjaaGreatDoor
open Go.RowKit
namespace zd8
theorem zk6 : (Tryz.prog.info? 62).map (fun i => (i.zero, i.size, i.bytes)) = some (some (.agg #[.string ⟨#[]⟩, .int .i64 0, .string ⟨#[]⟩, .int .i64 0, .int .i64 0]), 5, 56) := by kernel_rfl
theorem zs5 {w : World} {g o : Nat} {M : List Pl.Nd} (h : Mem.za9 w (some ⟨g, o, none⟩) M) : ∀ j u, (Pl.zb5 M)[j]? = some u → w.cell? ((⟨g, o, none⟩ : Addr).add j) = some u := by
 intro j u hj
 have hlt : j < M.length * 5 := by
  have := (List.getElem?_eq_some_iff.1 hj).1
  rwa [Pl.zh7] at this
 have hd : j / 5 < M.length := by omega
 obtain ⟨g', o', e, h0, h1, h2, h3, h4, h5⟩ := h (j / 5) M[j / 5] (List.getElem?_eq_getElem hd)
 cases e
 have hc := Pl.zv2 M (j / 5) _ (List.getElem?_eq_getElem hd) (j % 5) (by omega)
 rw [show j / 5 * 5 + j % 5 = j by omega, hj] at hc
 rw [Mem.zo2]
 have hm : j % 5 = 0 ∨ j % 5 = 1 ∨ j % 5 = 2 ∨ j % 5 = 3 ∨ j % 5 = 4 := by omega
 have ej : o + j = o + j / 5 * 5 + j % 5 := by omega
 rw [ej, hc]
 rcases hm with h | h | h | h | h <;> rw [h]
 ·exact h1
 ·exact h2
 ·exact h3
 ·exact h4
 ·exact h5
theorem cells_one (M : List Pl.Nd) : ∀ u ∈ Pl.zb5 M, u.oneCell' = true := by
 intro u hu
 rw [Pl.zb5, List.mem_flatMap] at hu
 obtain ⟨n, _, hn⟩ := hu
 exact Mem.zh n u hn
theorem zk {w : World} {B m : Nat} {v : Value} {A M : List Pl.Nd} (h : w.ownsRow B 62 5 v (A.length + m) (Pl.zb5 A ++ Pl.zb5 M)) (hm : m = M.length) : Mem.ownN w B v (A ++ M) := by
 subst hm
 unfold Mem.ownN
 rw [Pl.yh3, List.length_append]; exact h
end zd8
end Go.Proofs.YtcogaghibpajjaaGreatDoor

