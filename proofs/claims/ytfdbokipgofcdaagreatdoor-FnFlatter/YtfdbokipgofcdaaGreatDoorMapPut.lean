import Derived.Test.YtfdbokipgofcdaaGreatDoorG42
namespace Go.Proofs.YtfdbokipgofcdaaGreatDoor
open Go.RowKit Go.Maps
namespace MapN
theorem reads_put {D : DataW Unit} {C : List Pl.Nd} (h : Reads D C) (hm : IsMap D) (n : Pl.Nd) : Reads (D.put (key n.path) (dat n)) (C.filter (fun m => !decide (m.path = n.path)) ++ [n]) := by
 refine ⟨fun m hmem => ?_, fun p c hc => ?_⟩
 ·by_cases e : m.path = n.path
  ·rw [e]; exact has_put_same hm (yh9 _) _
  ·rw [has_put_other (yk7 e)]
   rcases List.mem_append.1 hmem with h1 | h1
   ·exact h.has m (List.mem_filter.1 h1).1
   ·simp at h1; subst h1; exact absurd rfl e
 ·by_cases e : p = n.path
  ·subst e
   have h1 := hc (dat n)
   rw [atKey_put_same hm (yh9 _)] at h1
   have := yk2 h1
   subst this
   exact ⟨by simp, rfl⟩
  ·have h1 := h.ent p c (fun z => by rw [← hc z]; exact (atKey_put_other (yk7 e) _ z).symm)
   exact ⟨List.mem_append_left _ (List.mem_filter.2 ⟨h1.1, by rw [← h1.2]; simpa using e⟩), h1.2⟩
theorem size_fold : ∀ (C : List Pl.Nd) (D : DataW Unit), Tidy D → C.Pairwise (fun a b => a.path ≠ b.path) → (∀ n ∈ C, Maps.has D (key n.path) = false) → Maps.size (C.foldl (fun D n => D.put (key n.path) (dat n)) D) = Maps.size D + C.length := by
 intro C
 induction C with
 | nil => intro D _ _ _; rfl
 | cons n C ih =>
  intro D hD hp hn
  have hp' := List.pairwise_cons.1 hp
  rw [List.foldl_cons, ih _ (hD.put (yh9 _) _) hp'.2 (fun m hm => by rw [has_put_other (yk7 (fun e => hp'.1 m hm e.symm))]; exact hn m (List.mem_cons_of_mem _ hm)), size_put hD, if_neg (by rw [hn n List.mem_cons_self]; simp), List.length_cons]
  omega
theorem yw7 {C : List Pl.Nd} (h : C.Pairwise (fun a b => a.path ≠ b.path)) : Maps.size (mapOf C) = C.length := by
 have := size_fold C (.map []) tidy_empty h (fun _ _ => rfl)
 rw [mapOf, this]
 show 0 + _ = _
 omega
end MapN
end Go.Proofs.YtfdbokipgofcdaaGreatDoor
