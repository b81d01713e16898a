import Derived.Test.YtbomeifgfalmdaaGreatDoorPlainLead
namespace Go.Proofs.YtbomeifgfalmdaaGreatDoor
namespace Pl
theorem yc0 (p:ByteArray) (R:Bool):whyI p R=0∧R=true∧za0 p=true∨whyI p R=1∨whyI p R=2:=by
 unfold whyI
 split
 ·exact .inr (.inl rfl)
 ·split
  ·rename_i h
   rw [Bool.and_eq_true] at h;exact .inl ⟨rfl,h.1,h.2⟩
  ·exact .inr (.inr rfl)
end Pl
end Go.Proofs.YtbomeifgfalmdaaGreatDoor
