import Derived.Deep.RegionHeld3
namespace Go.Proofs.YtioildojmckepaaGreatDoor
theorem wp_meet8 {P : Program} {md : Region.Mode} {ops : Array Oper} {Q : Exit → Act → World → Prop} {S : World → Prop} {fuel fuel' : Nat} {listed listed' : Array Bool} {a : Act} {w : World} {D : List _}
  (fr : Value → Value → Value → Value → Value → Value → Value → Value → Array Value)
  (h1 : (∀ W v1 v2 v3 v4 v5 v6 v7 v8, S W → wpAnyH P md ops Q S fuel' listed' ⟨fr v1 v2 v3 v4 v5 v6 v7 v8, D⟩ W) → wpAnyH P md ops Q S fuel listed a w)
  (h2 : ∀ W v1 v2 v3 v4 v5 v6 v7 v8, S W → wpAnyH P md ops Q S fuel' listed' ⟨fr v1 v2 v3 v4 v5 v6 v7 v8, D⟩ W) : wpAnyH P md ops Q S fuel listed a w := h1 h2
end Go.Proofs.YtioildojmckepaaGreatDoor
