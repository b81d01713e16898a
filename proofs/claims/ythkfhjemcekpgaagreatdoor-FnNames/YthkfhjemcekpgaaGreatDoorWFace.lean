/- The walk of the program's PathUnder. -/
import Derived.Test.YthkfhjemcekpgaaGreatDoorWUnder
namespace Go.Proofs.YthkfhjemcekpgaaGreatDoor
open Go.RowKit
namespace WPathI
set_option maxRecDepth 100000 in
theorem under_any (p t : ByteArray) (w : World) (hp : p.size ≤ 1048576) (ht : t.size ≤ 1048576) :
    Calls Tryz.prog 91 #[.string p, .string t] w fun e w' => e = .returned (.bool (Pl.pathB p && Pl.pathB t && Pl.underR (Pl.namesR p) (Pl.namesR t))) ∧ Below w.heap.size w w' := by
  have hn := hide (fun W => WUnder.both_any p t W hp ht)
  have hA := hide (Pl.namesR_all p)
  have hB := hide (Pl.namesR_all t)
  generalize (Pl.pathB p && Pl.pathB t) = r at hn ⊢
  generalize Pl.namesR p = A at hn hA ⊢
  generalize Pl.namesR t = B at hn hB ⊢
  cases r
  · go_enter Tryz.func91, Tryz.ntmps91
    go_wp2_with fail
    refine (unhide hn _).mono ?_
    rintro e w1 ⟨v1, v2, m, rfl, -, -, -, -, hb⟩
    go_wp2
    go_ret
    exact ⟨rfl, hb⟩
  · go_enter Tryz.func91, Tryz.ntmps91
    go_wp2_with fail
    refine (unhide hn _).mono ?_
    rintro e w1 ⟨v1, v2, m, rfl, h1, h2, h3, h4, hb⟩
    have i1 := hide (Mem.own_texts h2)
    have i2 := hide (Mem.own_texts h4)
    clear h2 h4 h3 hn
    go_wp2_with fail
    refine (WUnder.under_any _ _ A B _ (by have := (unhide hA).2; omega) (by have := (unhide hB).2; omega) (unhide i1) (unhide i2)).mono ?_
    rintro e w2 ⟨rfl, hw⟩
    obtain rfl := hw.symm
    generalize hr : Pl.underR A B = r2
    have HR := hide hr
    clear hr
    go_wp2
    go_ret
    exact ⟨by rw [unhide HR]; rfl, hb⟩
end WPathI
end Go.Proofs.YthkfhjemcekpgaaGreatDoor
