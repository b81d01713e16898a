import Derived.Deep.RegionHeld3
namespace Go.Proofs.YtpggbphcbcogdaaGreatDoor

theorem wp_merge {P:Program} {code:Code} {Q:Exit→Act→World→Prop} {T:Array Value} {D:List _} {w:World} (R:Array Value→Array Value→World→Prop)
  (h:code.wp P (fun e a W=>e= .normal∧a.defers=D∧R T a.tmps W) ⟨T,D⟩ w) (h2:∀T' W,R T T' W→Q .normal ⟨T',D⟩ W):code.wp P Q ⟨T,D⟩ w:=
 Code.wp_mono (fun e a W ⟨h1,h3,h4⟩=>by
  obtain ⟨t,d⟩:=a;simp only at h3;subst h1 h3
  exact h2 _ _ h4) h
end Go.Proofs.YtpggbphcbcogdaaGreatDoor
