import Derived.Test.YtppmlbofhghghaaGreatDoorG01
import Derived.Test.YtppmlbofhghghaaGreatDoorWUnder1S
import Derived.Deep.RegionHeld3
import Derived.Lib.OthersKept
import Derived.Laws.RangeAny
import Derived.Deep.Draws
import Derived.Deep.QuietTactic
import Derived.BigQuiet
namespace Go.Proofs.YtppmlbofhghghaaGreatDoor
open Go.RowKit
namespace Pl
theorem zf9 {L : List Nd} (h : za5 L = true) : L.Pairwise (fun a b => ltP a.path b.path = true) ∧ (∀ n ∈ L, za3 n.path = true ∧ n.data.size ≤ 1048576) ∧ L.length ≤ 40 := by
 have h0 := h
 simp only [za5, Bool.and_eq_true, decide_eq_true_eq] at h
 have hn := zs9 L _ _ h.2
 have hr := (yi5 L [] ⟨#[]⟩ h.2 (zh6 rfl).1).1
 refine ⟨List.Pairwise.imp_of_mem (fun {a b} ha hb hab => ?_) hr, fun n hm => ⟨(za9 (hn n hm)).1, by have := (zd3 (hn n hm)).1; omega⟩, h.1⟩
 rw [zd8 (za9 (hn a ha)).1 (za9 (hn b hb)).1]; exact hab
theorem off_below {L : List Nd} {p : ByteArray} (hL : ∀ n ∈ L, za3 n.path = true) (hp : za3 p = true) : L.filter (fun n => !zc0 n.path p && !decide (n.path = p)) = offL p L := by
 apply List.filter_congr
 intro n hn
 have hn' := hL n hn
 by_cases e : n.path = p
 ·have : under n.path p = true := by rw [e]; exact yq4 p
  rw [this, e]; simp
 ·have hb : zc0 n.path p = under n.path p := by
   rw [zc0, hn', hp, zc8 hn', zc8 hp, ym4]
   simp [e]
  rw [hb]; simp [e]
theorem off_len (p : ByteArray) (L : List Nd) : (offL p L).length ≤ L.length := List.length_filter_le _ _
end Pl
end Go.Proofs.YtppmlbofhghghaaGreatDoor
