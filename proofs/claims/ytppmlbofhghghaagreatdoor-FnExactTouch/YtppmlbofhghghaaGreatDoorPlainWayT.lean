import Derived.Test.YtppmlbofhghghaaGreatDoorG33
import Derived.Test.YtppmlbofhghghaaGreatDoorG45
import Derived.Test.YtppmlbofhghghaaGreatDoorG54
namespace Go.Proofs.YtppmlbofhghghaaGreatDoor
namespace Pl
theorem ya0 {S : List Nd} {p : ByteArray} (h : tchC S p = 0) : ∃ d, lk S p = some d := by
 unfold tchC at h
 split at h
 ·cases h
 ·next hf =>
  cases e : lk S p with
  | none => exact absurd e hf
  | some d => exact ⟨d, rfl⟩
theorem way_tch {S : List Nd} (ht : za5 S = true) {p : ByteArray} (h : tchC S p = 0) : ∀ q ∈ zj4 p, ∃ d, lk S q = some d := by
 obtain ⟨d, hd⟩ := ya0 h
 exact way_found ht hd
theorem tou_rise {S L : List Nd} (hL : zd9 L) (ht : za5 S = true) {p : ByteArray} (h : ∃ d, lk S p = some d) (t : Int) : zd9 (putL L (touN S L p t)) := by
 obtain ⟨d, hd⟩ := h
 obtain ⟨h1, h2⟩ := zp9 hd
 have h3 := (zd9.zv6 ht).path d h1
 unfold touN
 rw [hd]
 exact hL.put h3.1 h3.2
end Pl
end Go.Proofs.YtppmlbofhghghaaGreatDoor
