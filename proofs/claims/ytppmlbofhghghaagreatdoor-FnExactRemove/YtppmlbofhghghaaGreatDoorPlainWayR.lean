import Derived.Test.YtppmlbofhghghaaGreatDoorG33
import Derived.Test.YtppmlbofhghghaaGreatDoorG48
import Derived.Test.YtppmlbofhghghaaGreatDoorG45
namespace Go.Proofs.YtppmlbofhghghaaGreatDoor
namespace Pl
theorem rem_found {S : List Nd} {p : ByteArray} (h : remC S p = 0) : ∃ d, lk S p = some d := by
 unfold remC at h
 split at h
 ·cases h
 ·next hf =>
  cases e : lk S p with
  | none => exact absurd e hf
  | some d => exact ⟨d, rfl⟩
theorem way_rem {S : List Nd} (ht : za5 S = true) {p : ByteArray} (h : remC S p = 0) : ∀ q ∈ zj4 p, ∃ d, lk S q = some d := by
 obtain ⟨d, hd⟩ := rem_found h
 exact way_found ht hd
theorem rem_rise {L : List Nd} (hL : zd9 L) {p : ByteArray} (hp : za3 p = true) (lev : Int) : zd9 (remL L p lev) := by
 unfold remL
 split
 ·exact (hL.off p).put (n := ⟨p, 0, ⟨#[]⟩, 0, lev⟩) hp zv7.yo7
 ·exact hL.off p
end Pl
end Go.Proofs.YtppmlbofhghghaaGreatDoor
