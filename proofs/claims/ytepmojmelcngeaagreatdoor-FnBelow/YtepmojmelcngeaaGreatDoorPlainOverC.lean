/- What Over answers, plainly. -/
import Derived.Test.YtepmojmelcngeaaGreatDoorG36
import Derived.Test.YtepmojmelcngeaaGreatDoorG33
namespace Go.Proofs.YtepmojmelcngeaaGreatDoor
open Go.RowKit Go.Maps
namespace Pl
/-- What Over answers, where O is all that is told, in order. -/
def overC (Ls : List (List Nd)) (O : List Nd) : Int := if layB Ls = true then if 40 < O.length then 9 else 0 else 1
def overN (Ls : List (List Nd)) (O : List Nd) : List Nd := if layB Ls = true ∧ O.length ≤ 40 then O else []
/-- All that is told, in order. -/
structure AllN (Ls : List (List Nd)) (O : List Nd) : Prop where
  rise : O.Pairwise (fun a b => ltP a.path b.path = true)
  mem : ∀ n, n ∈ O ↔ ToldN Ls n
theorem all_perm {Ls : List (List Nd)} {O C : List Nd} (htr : ∀ L ∈ Ls, treeB L = true) (h : AllN Ls O) (hC : C.Pairwise (fun a b => a.path ≠ b.path)) (hm : ∀ n, n ∈ C ↔ ToldN Ls n) : O.Perm C := by
  refine (List.perm_ext_iff_of_nodup ?_ (hC.imp (fun {a b} hne e => hne (by rw [e])))).2 fun x => (h.mem x).trans (hm x).symm
  refine List.Pairwise.imp_of_mem (fun {a b} ha _ hlt e => ?_) h.rise
  subst e
  have hp := (told_path htr ((h.mem a).1 ha)).2.2.1
  rw [ltP_right hp hp, less_irr] at hlt
  cases hlt
theorem told_ok {Ls : List (List Nd)} (htr : ∀ L ∈ Ls, treeB L = true) {n : Nd} (h : ToldN Ls n) : pathB n.path = true ∧ n.data.size ≤ 1048576 := by
  have h1 := told_path htr h
  refine ⟨h1.2.2.1, ?_⟩
  have h2 := (seen_small htr n.path).2
  rw [← h1.2.1] at h2
  exact h2
end Pl
end Go.Proofs.YtepmojmelcngeaaGreatDoor
