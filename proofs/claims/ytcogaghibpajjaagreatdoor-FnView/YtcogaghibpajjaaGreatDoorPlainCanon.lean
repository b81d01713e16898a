import Derived.Test.YtcogaghibpajjaaGreatDoorG35
import Derived.Maps.Ext
import Derived.ChangeMaps
namespace Go.Proofs.YtcogaghibpajjaaGreatDoor
open Go.RowKit Go.Maps
namespace MapN
def Str (D : DataW Unit) : Prop := ∃ es, D = .map es ∧ es.Pairwise (fun p q => p.1.before q.1 = true) ∧ ∀ p ∈ es, (∃ s, p.1 = .string s) ∧ ∃ n, p.2 = dat n
theorem str_put {D : DataW Unit} (h : Str D) (n : Pl.Nd) : Str (D.put (key n.path) (dat n)) := by
 obtain ⟨es, rfl, h1, h2⟩ := h
 refine ⟨_, rfl, ?_, fun x hx => ?_⟩
 ·refine ChangeMaps.insert_sorted (x := (key n.path, dat n)) ⟨_, rfl⟩ _ (h1.filter _) (fun x hx => (h2 x (List.mem_filter.1 hx).1).1) (fun x hx => ?_)
  have := (List.mem_filter.1 hx).2
  intro e
  rw [e, WideAt.sameKey_self (zw8 n.path)] at this
  cases this
 ·rcases ChangeMaps.mem_insert_iff.1 hx with rfl | hx
  ·exact ⟨⟨_, rfl⟩, _, rfl⟩
  ·exact h2 x (List.mem_filter.1 hx).1
theorem str_fold : ∀ (C : List Pl.Nd) (D : DataW Unit), Str D → Str (C.foldl (fun D n => D.put (key n.path) (dat n)) D) := by
 intro C
 induction C with
 | nil => intro D h; exact h
 | cons n C ih => intro D h; exact ih _ (str_put h n)
theorem str_mapOf (C : List Pl.Nd) : Str (mapOf C) := str_fold C (.map []) ⟨[], rfl, List.Pairwise.nil, fun _ h => by cases h⟩
theorem Str.canon {D : DataW Unit} (h : Str D) : Canon D := by
 obtain ⟨es, e, h1, h2⟩ := h
 refine ⟨es, e, h1, fun p hp => ?_⟩
 obtain ⟨s, hs⟩ := (h2 p hp).1
 rw [hs]
 simp [WideAt.IsKeyLit]
theorem own_str {w : World} {b n : Nat} {D : DataW Unit} (h : w.ownsMap Tryz.prog 9 MapN.elem b n D) : Str D := by
 have hc := h.canon law
 obtain ⟨es, clock, -, F, -, rfl⟩ := h
 obtain ⟨es2, e2, h1, -⟩ := hc
 refine ⟨_, rfl, ?_, fun p hp => ?_⟩
 ·have := DataW.map.inj e2
  rw [this]; exact h1
 ·obtain ⟨x, hx, rfl⟩ := List.mem_map.1 (mem_sorted.1 hp)
  obtain ⟨y, hy⟩ := F.reads x hx
  rw [WideElems.rg_of hy]
  have hk := WideElems.rd_key hy
  unfold WideElems.rd at hy
  simp only [Option.bind_eq_some_iff, Option.map_eq_some_iff] at hy
  obtain ⟨kl, h3, ⟨d, ps⟩, h4, rfl⟩ := hy
  have hs : ∃ s, kl = .string s := by
   generalize x.key = kv at h3
   cases kv <;> simp [keyOf, Tryz.underlying9, mapKey] at h3
   exact ⟨_, h3.2.symm⟩
  obtain ⟨n, -, hn⟩ := ya2 h4
  exact ⟨hs, n, hn⟩
theorem Str.has {D : DataW Unit} (h : Str D) {k : Lit} (hk : Maps.has D k = true) : ∃ p n, k = key p ∧ ∀ z, D.atKey k z = dat n := by
 obtain ⟨es, rfl, h1, h2⟩ := h
 obtain ⟨x, hx, hs⟩ := List.any_eq_true.1 hk
 have e := WideAt.sameKey_eq hs
 obtain ⟨⟨s, h3⟩, n, h4⟩ := h2 x hx
 have hkey : WideAt.IsKeyLit x.1 := by rw [h3]; simp [WideAt.IsKeyLit]
 refine ⟨⟨⟨s⟩⟩, n, by rw [← e, h3]; rfl, fun z => ?_⟩
 rw [← e, ← h4]
 exact WideAt.atKey_mem z hkey (apart_of_rising h1) hx
theorem own_mapOf {w : World} {b N : Nat} {D : DataW Unit} {C O : List Pl.Nd} (h : w.ownsMap Tryz.prog 9 MapN.elem b N D) (g : Reads D C) (hO : O.Pairwise (fun a b => a.path ≠ b.path)) (hm : ∀ n, n ∈ C ↔ n ∈ O) : D = mapOf O := by
 have hs := own_str h
 have ho := str_mapOf O
 have hro := fun (n : Pl.Nd) (hn : n ∈ O) => at_yes (C := O) (n := n) hO hn
 have key1 : ∀ k, Maps.has D k = true → ∃ n ∈ C, k = key n.path ∧ ∀ z, D.atKey k z = dat n := fun k hk => by
  obtain ⟨p, n, rfl, hz⟩ := hs.has hk
  obtain ⟨h1, rfl⟩ := g.ent p n hz
  exact ⟨n, h1, rfl, hz⟩
 refine ext hs.canon ho.canon (fun k => ?_) (fun k z hk => ?_)
 ·cases hk : Maps.has D k
  ·cases hk2 : Maps.has (mapOf O) k
   ·rfl
   ·obtain ⟨p, n, rfl, hz⟩ := ho.has hk2
    by_cases hp : ∃ m ∈ O, m.path = p
    ·obtain ⟨m, hm1, rfl⟩ := hp
     rw [g.has m ((hm m).2 hm1)] at hk
     cases hk
    ·rw [has_no (fun n hn e => hp ⟨n, hn, e⟩)] at hk2
     cases hk2
  ·obtain ⟨n, hn, rfl, -⟩ := key1 k hk
   exact (hro n ((hm n).1 hn)).1.symm
 ·obtain ⟨n, hn, rfl, hz⟩ := key1 k hk
  rw [hz, (hro n ((hm n).1 hn)).2]
theorem is_mapOf {w : World} {b N : Nat} {Ls : List (List Pl.Nd)} {D : DataW Unit} {C O : List Pl.Nd} (h : w.ownsMap Tryz.prog 9 MapN.elem b N D) (g : Gt Ls D C) (hO : O.Pairwise (fun a b => a.path ≠ b.path)) (hm : ∀ n, n ∈ C ↔ n ∈ O) : D = mapOf O := own_mapOf h g.reads hO hm
end MapN
end Go.Proofs.YtcogaghibpajjaaGreatDoor
