/- Several texts of one claim in one file: PlainSeenGet, PlainFirst, PlainMore, PlainTwo, PlainFlatS, PlainFlatL. -/
import Derived.Test.YtfdbokipgofcdaaGreatDoorG49
import Derived.Test.YtfdbokipgofcdaaGreatDoorG34
import Derived.Test.YtfdbokipgofcdaaGreatDoorG44
import Derived.Deep.RegionHeld3
import Derived.Maps.OwnSet
import Derived.Deep.QuietTactic
import Derived.BigQuiet
import Derived.Laws.EntriesVeiled
import Derived.Calls
import Derived.Lone
import Derived.RunT
import Derived.Shelf.SlSortCmp.NoneTotal
import Derived.Lib.QuietBelow
import Derived.Maps.RangeWalk
import Derived.Sort.MapsRangeIn
import Derived.Test.YtfdbokipgofcdaaGreatDoorG01
import Derived.Test.YtfdbokipgofcdaaGreatDoorPlainSightN
namespace Go.Proofs.YtfdbokipgofcdaaGreatDoor
namespace Pl
theorem all_find {Ls : List (List Nd)} (h4 : Ls.length ≤ 4) (htr : ∀ L ∈ Ls, za2 L = true) {p : ByteArray} (hp : za5 p = true) (hz : ¬ p.size = 0) : (allO Ls).find? (fun m => decide (m.path = p)) = if (zb2 Ls p).told = true then some (zb2 Ls p).node else none := by
 have ha := yg5 h4 htr
 by_cases ht : (zb2 Ls p).told = true
 ·rw [if_pos ht]
  have hm := (ha.mem _).2 (told_of hp hz ht)
  have hpp := zx1 hp hz ht
  cases hf : (allO Ls).find? (fun m => decide (m.path = p)) with
  | none =>
   rw [List.find?_eq_none] at hf
   exact absurd (decide_eq_true hpp) (hf _ hm)
  | some m =>
   have h1 := List.mem_of_find?_eq_some hf
   have h2 : m.path = p := by simpa using List.find?_some hf
   rw [told_one htr ((ha.mem m).1 h1) ((ha.mem _).1 hm) (h2.trans hpp.symm)]
 ·rw [if_neg ht, List.find?_eq_none]
  intro m hm h
  have h2 : m.path = p := by simpa using h
  have h3 := (zo3 htr ((ha.mem m).1 hm)).1
  rw [h2] at h3
  exact ht h3
end Pl
end Go.Proofs.YtfdbokipgofcdaaGreatDoor

namespace Go.Proofs.YtfdbokipgofcdaaGreatDoor
namespace Pl
structure Alike (a b : Nd) : Prop where
 path : a.path = b.path
 kind : a.kind = b.kind
 data : a.data = b.data
 time : a.time = b.time
theorem Alike.refl (a : Nd) : Alike a a := ⟨rfl, rfl, rfl, rfl⟩
theorem Alike.trans {a b c : Nd} (h : Alike a b) (g : Alike b c) : Alike a c := ⟨h.1.trans g.1, h.2.trans g.2, h.3.trans g.3, h.4.trans g.4⟩
theorem yr3 {s : Sg} {k : Nat} {n : Nd} (h : s.told = true) : Alike (zb8 s k n).node s.node := by
 unfold zb8 zj4
 rw [h]
 exact ⟨rfl, rfl, rfl, rfl⟩
theorem go_keep : ∀ (ns : List (Option Nd)) (k : Nat) (s : Sg), s.told = true → (goD k s ns).told = true ∧ Alike (goD k s ns).node s.node := by
 intro ns
 induction ns with
 | nil => intro k s h; exact ⟨h, Alike.refl _⟩
 | cons x ns ih =>
  intro k s h
  cases x with
  | none => exact ih _ _ h
  | some n =>
   rw [goD]
   split
   ·exact ⟨rfl, yr3 h⟩
   ·obtain ⟨h1, h2⟩ := ih (k + 1) (zb8 s k n) rfl
    exact ⟨h1, h2.trans (yr3 h)⟩
theorem go_low : ∀ (ns : List (Option Nd)) (k : Nat) (s : Sg) (i : Nat), i < k → (goD k s ns).have'[i]? = s.have'[i]? := by
 intro ns
 induction ns with
 | nil => intro k s i _; rfl
 | cons x ns ih =>
  intro k s i hi
  cases x with
  | none => exact ih _ _ _ (by omega)
  | some n =>
   have ht : (zb8 s k n).have'[i]? = s.have'[i]? := by
    unfold zb8
    simp only
    rw [List.getElem?_set_ne (by omega)]
   rw [goD]
   split
   ·exact ht
   ·rw [ih _ _ _ (by omega), ht]
theorem yc7 {s : Sg} (h : s.node.kind ≠ 0) : (upS s).told = s.told ∧ Alike (upS s).node s.node ∧ (upS s).have' = s.have' := by
 unfold upS
 rw [if_neg (fun h2 => h h2.1)]
 exact ⟨rfl, ⟨rfl, rfl, rfl, rfl⟩, rfl⟩
theorem up_gone {s : Sg} (h : s.node.kind = 0) (ht : (upS s).told = true) : (upS s).node.kind = 0 := by
 unfold upS at ht ⊢
 split at ht
 ·cases ht
 ·rename_i hz
  rw [if_neg hz]
  exact h
end Pl
end Go.Proofs.YtfdbokipgofcdaaGreatDoor

namespace Go.Proofs.YtfdbokipgofcdaaGreatDoor
namespace Pl
theorem ns_nil (ab : List Bool) (p : ByteArray) : nsOf ab [] p = [] := by cases ab <;> rfl
theorem go_zero : ∀ (ns : List (Option Nd)) (k : Nat) (s : Sg), (goD k s ns).told = false → goD k s ns = s := by
 intro ns
 induction ns with
 | nil => intro k s _; rfl
 | cons y ns ih =>
  intro k s h
  cases y with
  | none => exact ih _ _ h
  | some n =>
   exfalso
   rw [goD] at h
   split at h
   ·cases h
   ·have := (go_keep ns (k + 1) (zb8 s k n) rfl).1
    rw [this] at h
    cases h
theorem yq2 : ∀ (ns : List (Option Nd)) (k : Nat) (s : Sg), (goD k s ns).have'.length = s.have'.length := by
 intro ns
 induction ns with
 | nil => intro k s; rfl
 | cons y ns ih =>
  intro k s
  cases y with
  | none => exact ih _ _
  | some n =>
   rw [goD]
   split
   ·exact take_len s k n
   ·rw [ih, take_len]
theorem dec_length (ns : List (Option Nd)) : (decS ns).have'.length = 4 := up_len (by rw [yq2]; rfl)
theorem up_zero : upS Sg.zero = Sg.zero := by
 unfold upS
 split <;> rfl
end Pl
end Go.Proofs.YtfdbokipgofcdaaGreatDoor

namespace Go.Proofs.YtfdbokipgofcdaaGreatDoor
namespace Pl
theorem yx0 {a b : Nd} (h : Alike a b) : a.bare = b.bare := by
 obtain ⟨h1, h2, h3, h4⟩ := h
 unfold Nd.bare
 rw [h1, h2, h3, h4]
end Pl
end Go.Proofs.YtfdbokipgofcdaaGreatDoor

namespace Go.Proofs.YtfdbokipgofcdaaGreatDoor
namespace Pl
def stops : List (Option Nd) → Bool
 | [] => false
 | none :: r => stops r
 | some n :: r => zh8 n || stops r
theorem go_app : ∀ (ns : List (Option Nd)) (k : Nat) (s : Sg) (r : List (Option Nd)), goD k s (ns ++ r) = if stops ns = true then goD k s ns else goD (k + ns.length) (goD k s ns) r := by
 intro ns
 induction ns with
 | nil => intro k s r; simp [stops, goD]
 | cons x ns ih =>
  intro k s r
  cases x with
  | none =>
   rw [List.cons_append, goD, ih, stops, goD]
   rw [show k + 1 + ns.length = k + (none :: ns : List (Option Nd)).length by simp; omega]
  | some n =>
   rw [List.cons_append, goD, goD, stops]
   by_cases h : zh8 n = true
   ·simp [h]
   ·have h' : zh8 n = false := by simpa using h
    rw [if_neg h, if_neg h, ih, h', Bool.false_or]
    rw [show k + 1 + ns.length = k + (some n :: ns : List (Option Nd)).length by simp; omega]
theorem go_dir : ∀ (ns : List (Option Nd)) (k : Nat) (s : Sg), stops ns = false → (s.told = true → s.node.kind = 1) → (goD k s ns).told = true → (goD k s ns).node.kind = 1 := by
 intro ns
 induction ns with
 | nil => intro k s _ h; exact h
 | cons x ns ih =>
  intro k s hs h
  cases x with
  | none => exact ih _ _ hs h
  | some n =>
   rw [stops, Bool.or_eq_false_iff] at hs
   rw [goD, if_neg (by rw [hs.1]; decide)]
   refine ih _ _ hs.2 (fun _ => ?_)
   have hk : n.kind = 1 := by
    have := hs.1
    simp [zh8] at this
    exact this.1
   unfold zb8 zj4
   cases hst : s.told
   ·simpa using hk
   ·simpa using h hst
theorem go_high : ∀ (ns : List (Option Nd)) (k : Nat) (s : Sg) (i : Nat), k + ns.length ≤ i → (goD k s ns).have'[i]? = s.have'[i]? := by
 intro ns
 induction ns with
 | nil => intro k s i _; rfl
 | cons x ns ih =>
  intro k s i hi
  rw [List.length_cons] at hi
  cases x with
  | none => exact ih _ _ _ (by omega)
  | some n =>
   have ht : (zb8 s k n).have'[i]? = s.have'[i]? := by
    unfold zb8
    simp only
    rw [List.getElem?_set_ne (by omega)]
   rw [goD]
   split
   ·exact ht
   ·rw [ih _ _ _ (by omega), ht]
theorem go_nones : ∀ (m : Nat) (k : Nat) (s : Sg), goD k s (List.replicate m none) = s := by
 intro m
 induction m with
 | zero => intro k s; rfl
 | succ m ih => intro k s; rw [List.replicate_succ, goD]; exact ih _ _
theorem go_shift (a : Nat) : ∀ (ks : List (Option Nd)) (i : Nat) (s s0 : Sg), s.have'.length = 4 → s0.have'.length = 4 → a + i + ks.length ≤ 4 → (∀ j, a + j < 4 → s.have'[a + j]? = s0.have'[j]?) → ∀ j, a + j < 4 → (goD (a + i) s ks).have'[a + j]? = (goD i s0 ks).have'[j]? := by
 intro ks
 induction ks with
 | nil => intro i s s0 _ _ _ h; exact h
 | cons x ks ih =>
  intro i s s0 h1 h2 h3 h
  rw [List.length_cons] at h3
  cases x with
  | none =>
   intro j hj
   rw [goD, goD]
   exact ih (i + 1) s s0 h1 h2 (by omega) h j hj
  | some n =>
   have ht : ∀ j, a + j < 4 → (zb8 s (a + i) n).have'[a + j]? = (zb8 s0 i n).have'[j]? := fun j hj => by
    unfold zb8
    simp only
    rw [List.getElem?_set, List.getElem?_set, h1, h2]
    by_cases e : i = j
    ·subst e
     rw [if_pos rfl, if_pos rfl, if_pos (by omega), if_pos (by omega)]
    ·rw [if_neg (by omega), if_neg e]
     exact h j hj
   intro j hj
   rw [goD, goD]
   split
   ·exact ht j hj
   ·exact ih (i + 1) _ _ (by rw [take_len]; exact h1) (by rw [take_len]; exact h2) (by omega) ht j hj
theorem go_nodeF : ∀ (ks : List (Option Nd)) (k i : Nat) (s s0 : Sg), s.told = false → s0.told = false → (goD k s ks).told = (goD i s0 ks).told ∧ ((goD i s0 ks).told = true → Alike (goD k s ks).node (goD i s0 ks).node) := by
 intro ks
 induction ks with
 | nil => intro k i s s0 h h0; exact ⟨by rw [goD, goD, h, h0], fun e => by rw [goD, h0] at e; cases e⟩
 | cons x ks ih =>
  intro k i s s0 h h0
  cases x with
  | none => exact ih _ _ _ _ h h0
  | some n =>
   have e1 : (zb8 s k n).node = (zb8 s0 i n).node := by unfold zb8; rw [h, h0]; rfl
   rw [goD, goD]
   split
   ·exact ⟨rfl, fun _ => by rw [e1]; exact Alike.refl _⟩
   ·obtain ⟨g1, g2⟩ := go_keep ks (k + 1) (zb8 s k n) rfl
    obtain ⟨f1, f2⟩ := go_keep ks (i + 1) (zb8 s0 i n) rfl
    refine ⟨by rw [g1, f1], fun _ => ?_⟩
    rw [e1] at g2
    exact g2.trans ⟨f2.1.symm, f2.2.symm, f2.3.symm, f2.4.symm⟩
theorem go_parts : ∀ (ks : List (Option Nd)) (k : Nat) (s : Sg), s.told = false → (∀ (j : Nat) (b : Bool), s.have'[j]? = some b → b = false) → (goD k s ks).told = true → (goD k s ks).node.kind ≠ 1 → ∀ (j : Nat) (b : Bool), (goD k s ks).have'[j]? = some b → b = false := by
 intro ks
 induction ks with
 | nil => intro k s h _ e; rw [goD, h] at e; cases e
 | cons x ks ih =>
  intro k s h hf
  cases x with
  | none => exact ih _ _ h hf
  | some n =>
   have e1 : (zb8 s k n).node.kind = n.kind := by unfold zb8 zj4; rw [h]; rfl
   rw [goD]
   split
   ·intro _ hk j b hj
    rw [e1] at hk
    unfold zb8 at hj
    simp only at hj
    rw [List.getElem?_set] at hj
    split at hj
    ·split at hj
     ·have := Option.some.inj hj
      rw [← this]
      exact decide_eq_false hk
     ·cases hj
    ·exact hf j b hj
   ·rename_i hs
    intro _ hk
    exfalso
    apply hk
    rw [(go_keep ks (k + 1) (zb8 s k n) rfl).2.kind, e1]
    simp [zh8] at hs
    exact hs.1
theorem ns_app (p : ByteArray) : ∀ (A : List (List Nd)) (ab : List Bool) (r : List (List Nd)), A.length ≤ ab.length → nsOf ab (A ++ r) p = nsOf ab A p ++ nsOf (ab.drop A.length) r p := by
 intro A
 induction A with
 | nil => intro ab r _; rw [ns_nil]; rfl
 | cons L A ih =>
  intro ab r h
  cases ab with
  | nil => simp at h
  | cons a ab => rw [List.cons_append, nsOf, nsOf, ih ab r (by simpa using h)]; rfl
theorem ns_same (p : ByteArray) : ∀ (A : List (List Nd)) (ab ab' : List Bool), A.length ≤ ab.length → A.length ≤ ab'.length → (∀ i, i < A.length → ab[i]? = ab'[i]?) → nsOf ab A p = nsOf ab' A p := by
 intro A
 induction A with
 | nil => intro ab ab' _ _ _; rw [ns_nil, ns_nil]
 | cons L A ih =>
  intro ab ab' h1 h2 h
  cases ab with
  | nil => simp at h1
  | cons a ab =>
   cases ab' with
   | nil => simp at h2
   | cons a' ab' =>
    have e : a = a' := by simpa using h 0 (by simp)
    subst e
    rw [nsOf, nsOf, ih ab ab' (by simpa using h1) (by simpa using h2) (fun i hi => by simpa using h (i + 1) (by simpa using hi))]
theorem ns_off (p : ByteArray) : ∀ (A : List (List Nd)) (ab : List Bool), A.length ≤ ab.length → (∀ i, i < A.length → ab[i]? = some false) → nsOf ab A p = List.replicate A.length none := by
 intro A
 induction A with
 | nil => intro ab _ _; rw [ns_nil]; rfl
 | cons L A ih =>
  intro ab h1 h
  cases ab with
  | nil => simp at h1
  | cons a ab =>
   have e : a = false := by simpa using h 0 (by simp)
   subst e
   rw [nsOf, ih ab (by simpa using h1) (fun i hi => by simpa using h (i + 1) (by simpa using hi))]
   rfl
structure Rel (a kl : Nat) (s t u : Sg) : Prop where
 low : ∀ i, i < a → s.have'[i]? = t.have'[i]?
 yes : s.have'[a]? = some true → ∀ j, j < kl → t.have'[a + j]? = u.have'[j]?
 no : s.have'[a]? = some false → ∀ j, j < kl → t.have'[a + j]? = some false
 vis : (s.told = true ∧ s.node.kind ≠ 0) ↔ (t.told = true ∧ t.node.kind ≠ 0)
 like : s.told = true → s.node.kind ≠ 0 → Alike s.node t.node
theorem zp4 (i : Nat) (h : i < 4) : Sg.zero.have'[i]? = some false := by
 have : i = 0 ∨ i = 1 ∨ i = 2 ∨ i = 3 := by omega
 rcases this with rfl | rfl | rfl | rfl <;> rfl
theorem zero_all (j : Nat) (b : Bool) (h : Sg.zero.have'[j]? = some b) : b = false := by
 by_cases hj : j < 4
 ·rw [zp4 j hj] at h; exact (Option.some.inj h).symm
 ·have : Sg.zero.have'[j]? = none := List.getElem?_eq_none (by show 4 ≤ j; omega)
  rw [this] at h; cases h
theorem yl1 {s : Sg} {i : Nat} (hi : i < 4) (h : s.have'[i]? = some false) : (upS s).have'[i]? = some false := by
 unfold upS
 split
 ·exact zp4 i hi
 ·exact h
theorem rel_same {a kl : Nat} {g u : Sg} (h4 : a + kl ≤ 4) (hh : ∀ i, a ≤ i → i < 4 → g.have'[i]? = some false) (hk : 0 < kl) : Rel a kl (upS g) (upS g) u := by
 have h0 := yl1 (s := g) (i := a) (by omega) (hh a (Nat.le_refl _) (by omega))
 refine ⟨fun _ _ => rfl, fun h => ?_, fun _ j hj => yl1 (by omega) (hh _ (by omega) (by omega)), Iff.rfl, fun _ _ => Alike.refl _⟩
 rw [h0] at h; cases h
theorem yu0 (k : Nat) (n : Nd) : Alike (zb8 Sg.zero k n).node n := by
 unfold zb8 zj4 Sg.zero
 exact ⟨rfl, rfl, rfl, rfl⟩
theorem go_one (k : Nat) (g : Sg) (x : Option Nd) : goD k g [x] = match x with | none => g | some n => zb8 g k n := by
 cases x with
 | none => rfl
 | some n => rw [goD]; split <;> rfl
theorem yr6 (s : Sg) (k : Nat) (n : Nd) (i : Nat) (h : i ≠ k) : (zb8 s k n).have'[i]? = s.have'[i]? := by
 unfold zb8
 simp only
 rw [List.getElem?_set_ne (fun e => h e.symm)]
theorem take_atF (s : Sg) (k : Nat) (n : Nd) (h : k < s.have'.length) : (zb8 s k n).have'[k]? = some (decide (n.kind = 1)) := by
 unfold zb8
 simp only
 rw [List.getElem?_set, if_pos rfl, if_pos h]
theorem zv6 {a b : Nd} (h : Alike a b) : Alike b a := ⟨h.1.symm, h.2.symm, h.3.symm, h.4.symm⟩
theorem rel_go {a kl : Nat} {g : Sg} {ks : List (Option Nd)} {x : Option Nd} (h4 : a + kl ≤ 4) (hkl : 0 < kl) (hks : ks.length = kl) (hg4 : g.have'.length = 4) (hgh : ∀ i, a ≤ i → i < 4 → g.have'[i]? = some false) (hgd : g.told = true → g.node.kind = 1) (hgz : g.told = false → g = Sg.zero)
  (hx : x = if (decS ks).told = true then some (decS ks).node else none) : Rel a kl (upS (goD a g [x])) (upS (goD a g ks)) (decS ks) := by
 have hsh : ∀ j, a + j < 4 → (goD a g ks).have'[a + j]? = (goD 0 Sg.zero ks).have'[j]? := fun j hj => go_shift a ks 0 g Sg.zero hg4 rfl (by omega) (fun j hj => by rw [hgh _ (by omega) hj, zp4 j (by omega)]) j hj
 have hlow : ∀ i, i < a → (goD a g ks).have'[i]? = g.have'[i]? := fun i hi => go_low ks a g i hi
 have hk4 : (goD 0 Sg.zero ks).have'.length = 4 := by rw [yq2]; rfl
 rw [go_one]
 unfold decS at hx
 have hoff : (goD 0 Sg.zero ks).told = false ∨ (goD 0 Sg.zero ks).node.kind ≠ 1 → ∀ j, j < 4 → (goD 0 Sg.zero ks).have'[j]? = some false := fun h j hj => by
  cases ht : (goD 0 Sg.zero ks).told
  ·rw [go_zero _ _ _ ht]; exact zp4 j hj
  ·have hk : (goD 0 Sg.zero ks).node.kind ≠ 1 := by
    rcases h with h | h
    ·rw [ht] at h; cases h
    ·exact h
   have hlt : j < (goD 0 Sg.zero ks).have'.length := by rw [hk4]; exact hj
   have := go_parts ks 0 Sg.zero rfl zero_all ht hk j _ (List.getElem?_eq_getElem hlt)
   rw [List.getElem?_eq_getElem hlt, this]
 show Rel a kl _ _ (upS (goD 0 Sg.zero ks))
 have hnode := go_nodeF ks a 0 g Sg.zero
 generalize hk0 : goD 0 Sg.zero ks = k0 at hx hsh hoff hnode hk4 ⊢
 generalize hr0 : goD a g ks = r at hsh hlow hnode ⊢
 have hrk := go_keep ks a g
 rw [hr0] at hrk
 -- what x is
 have hxs : ∀ n, x = some n → (upS k0).told = true ∧ (upS k0).node = n := fun n e => by
  rw [hx] at e
  split at e
  ·rename_i h; exact ⟨h, Option.some.inj e⟩
  ·cases e
 have hxn : x = none → (upS k0).told = false := fun e => by
  rw [hx] at e
  split at e
  ·cases e
  ·rename_i h; simpa using h
 have hk1 : ∀ n, x = some n → n.kind = 1 → (upS k0).have' = k0.have' := fun n e h1 => by
  obtain ⟨e1, e2⟩ := hxs n e
  by_cases h0 : k0.node.kind = 0
  ·have := up_gone h0 e1
   rw [e2, h1] at this
   cases this
  ·exact (yc7 h0).2.2
 have hk2 : (x = none ∨ ∃ n, x = some n ∧ n.kind ≠ 1) → k0.told = false ∨ k0.node.kind ≠ 1 := fun h => by
  by_cases ht : k0.told = true
  ·refine .inr (fun h1 => ?_)
   obtain ⟨u1, u2, -⟩ := yc7 (s := k0) (by rw [h1]; decide)
   rcases h with h | ⟨n, h, hn⟩
   ·rw [u1, ht] at hxn
    cases hxn h
   ·apply hn
    rw [← (hxs n h).2, u2.kind, h1]
  ·exact .inl (by simpa using ht)
 by_cases hgt : g.told = true
 ·-- a directory of the layers ahead
  have hgk := hgd hgt
  obtain ⟨r1, r2⟩ := hrk hgt
  obtain ⟨v1, v2, v3⟩ := yc7 (s := r) (by rw [r2.kind, hgk]; decide)
  cases x with
  | none =>
   obtain ⟨u1, u2, u3⟩ := yc7 (s := g) (by rw [hgk]; decide)
   refine ⟨fun i hi => by rw [u3, v3, hlow i hi], fun h => ?_, fun _ j hj => ?_, ⟨fun _ => ⟨by rw [v1]; exact r1, by rw [v2.kind, r2.kind, hgk]; decide⟩, fun _ => ⟨by rw [u1]; exact hgt, by rw [u2.kind, hgk]; decide⟩⟩, fun _ _ => u2.trans ((zv6 r2).trans (zv6 v2))⟩
   ·rw [u3, hgh a (Nat.le_refl _) (by omega)] at h; cases h
   ·rw [v3, hsh j (by omega)]
    exact hoff (hk2 (.inl rfl)) j (by omega)
  | some n =>
   simp only
   have ta := yr3 (k := a) (n := n) hgt
   obtain ⟨u1, u2, u3⟩ := yc7 (s := zb8 g a n) (by rw [ta.kind, hgk]; decide)
   have hta := take_atF g a n (by omega)
   refine ⟨fun i hi => by rw [u3, v3, hlow i hi, yr6 g a n i (by omega)], fun h j hj => ?_, fun h j hj => ?_, ⟨fun _ => ⟨by rw [v1]; exact r1, by rw [v2.kind, r2.kind, hgk]; decide⟩, fun _ => ⟨by rw [u1]; rfl, by rw [u2.kind, ta.kind, hgk]; decide⟩⟩, fun _ _ => (u2.trans ta).trans ((zv6 r2).trans (zv6 v2))⟩
   ·rw [u3, hta] at h
    rw [v3, hsh j (by omega), hk1 n rfl (of_decide_eq_true (Option.some.inj h))]
   ·rw [u3, hta] at h
    rw [v3, hsh j (by omega)]
    exact hoff (hk2 (.inr ⟨n, rfl, of_decide_eq_false (Option.some.inj h)⟩)) j (by omega)
 ·have hgf : g.told = false := by simpa using hgt
  have hg0 := hgz hgf
  subst hg0
  obtain ⟨n1, n2⟩ := hnode rfl rfl
  by_cases ht : k0.told = true
  ·have hrt : r.told = true := by rw [n1]; exact ht
   have hra := n2 ht
   by_cases h0 : k0.node.kind = 0
   ·-- nothing is seen
    have hof : ∀ i, i < 4 → r.have'[i]? = some false := fun i hi => by
     by_cases hia : i < a
     ·rw [hlow i hia]; exact zp4 i hi
     ·have := hsh (i - a) (by omega)
      rw [show a + (i - a) = i by omega] at this
      rw [this]
      exact hoff (.inr (by rw [h0]; decide)) _ (by omega)
    have hnv : ∀ q : Sg, q.node.kind = 0 → ¬ ((upS q).told = true ∧ (upS q).node.kind ≠ 0) := fun q hq h => h.2 (up_gone hq h.1)
    have key : ∀ q : Sg, q.node.kind = 0 → (∀ i, i < 4 → q.have'[i]? = some false) → Rel a kl (upS q) (upS r) (upS k0) := fun q hq hh => by
     refine ⟨fun i hi => by rw [yl1 (by omega) (hh i (by omega)), yl1 (by omega) (hof i (by omega))], fun h => ?_, fun _ j hj => yl1 (by omega) (hof _ (by omega)), ⟨fun h => absurd h (hnv q hq), fun h => absurd h (hnv r (by rw [hra.kind]; exact h0))⟩, fun h1 h2 => absurd ⟨h1, h2⟩ (hnv q hq)⟩
     rw [yl1 (by omega) (hh a (by omega))] at h; cases h
    cases x with
    | none => exact key Sg.zero rfl (fun i hi => zp4 i hi)
    | some n =>
     have hn0 : n.kind = 0 := by rw [← (hxs n rfl).2]; exact up_gone h0 (hxs n rfl).1
     refine key _ (by rw [(yu0 a n).kind]; exact hn0) (fun i hi => ?_)
     by_cases e : i = a
     ·subst e
      rw [take_atF Sg.zero i n hi, hn0]; rfl
     ·rw [yr6 _ _ _ _ e]; exact zp4 i hi
   ·obtain ⟨u1, u2, u3⟩ := yc7 (s := k0) h0
    obtain ⟨v1, v2, v3⟩ := yc7 (s := r) (by rw [hra.kind]; exact h0)
    have hxe : x = some (upS k0).node := by rw [hx, if_pos (by rw [u1]; exact ht)]
    subst hxe
    simp only
    have ta := yu0 a (upS k0).node
    have hkn : (zb8 Sg.zero a (upS k0).node).node.kind = k0.node.kind := by rw [ta.kind, u2.kind]
    obtain ⟨w1, w2, w3⟩ := yc7 (s := zb8 Sg.zero a (upS k0).node) (by rw [hkn]; exact h0)
    have hta := take_atF Sg.zero a (upS k0).node (by show a < 4; omega)
    refine ⟨fun i hi => by rw [w3, v3, hlow i hi, yr6 _ _ _ _ (by omega)], fun h j hj => by rw [v3, hsh j (by omega), u3], fun h j hj => ?_, ⟨fun _ => ⟨by rw [v1]; exact hrt, by rw [v2.kind, hra.kind]; exact h0⟩, fun _ => ⟨by rw [w1]; rfl, by rw [w2.kind, hkn]; exact h0⟩⟩, fun _ _ => (w2.trans (ta.trans u2)).trans ((zv6 hra).trans (zv6 v2))⟩
    rw [w3, hta] at h
    rw [v3, hsh j (by omega)]
    exact hoff (hk2 (.inr ⟨_, rfl, of_decide_eq_false (Option.some.inj h)⟩)) j (by omega)
  ·have hkf : k0.told = false := by simpa using ht
   have hkz : k0 = Sg.zero := by rw [← hk0] at hkf ⊢; exact go_zero _ _ _ hkf
   have hrz : r = Sg.zero := by
    have : r.told = false := by rw [n1]; exact hkf
    rw [← hr0] at this ⊢; exact go_zero _ _ _ this
   subst hrz
   have hxe : x = none := by rw [hx, hkz, up_zero]; rfl
   subst hxe
   exact rel_same h4 (fun i _ hi => zp4 i hi) hkl
theorem rel_step {A K : List (List Nd)} {V : List Nd} {p : ByteArray} {s t u : Sg} (h4 : A.length + K.length ≤ 4) (hK : 0 < K.length) (hs : s.have'.length = 4) (ht : t.have'.length = 4) (hu : u.have'.length = 4) (R : Rel A.length K.length s t u)
  (hV : lk V p = if (decS (nsOf u.have' K p)).told = true then some (decS (nsOf u.have' K p)).node else none) : Rel A.length K.length (decS (nsOf s.have' (A ++ [V]) p)) (decS (nsOf t.have' (A ++ K) p)) (decS (nsOf u.have' K p)) := by
 rw [ns_app p A s.have' [V] (by omega), ns_app p A t.have' K (by omega), ns_same p A t.have' s.have' (by omega) (by omega) (fun i hi => (R.low i hi).symm)]
 have hnl := ns_len p s.have' A (by omega)
 generalize nsOf s.have' A p = na at hnl ⊢
 obtain ⟨b, hb⟩ : ∃ b, s.have'[A.length]? = some b := ⟨_, List.getElem?_eq_getElem (by omega)⟩
 have hd : s.have'.drop A.length = b :: s.have'.drop (A.length + 1) := by
  obtain ⟨h1, h2⟩ := List.getElem?_eq_some_iff.1 hb
  rw [List.drop_eq_getElem_cons h1, h2]
 have hgh : ∀ i, A.length ≤ i → i < 4 → (goD 0 Sg.zero na).have'[i]? = some false := fun i hi hi4 => by
  rw [go_high na 0 Sg.zero i (by omega)]; exact zp4 i hi4
 have e1 : nsOf (s.have'.drop A.length) [V] p = [if b then lk V p else none] := by rw [hd, nsOf, ns_nil]
 rw [e1]
 show Rel _ _ (upS (goD 0 Sg.zero _)) (upS (goD 0 Sg.zero _)) _
 rw [go_app, go_app]
 by_cases hst : stops na = true
 ·rw [if_pos hst, if_pos hst]
  exact rel_same h4 hgh hK
 rw [if_neg hst, if_neg hst, hnl, Nat.zero_add]
 have hst' : stops na = false := by simpa using hst
 cases b with
 | false =>
  have e2 : nsOf (t.have'.drop A.length) K p = List.replicate K.length none := ns_off p K _ (by rw [List.length_drop]; omega) (fun i hi => by rw [List.getElem?_drop]; exact R.no hb i hi)
  rw [e2, go_nones, go_one]
  exact rel_same h4 hgh hK
 | true =>
  have e2 : nsOf (t.have'.drop A.length) K p = nsOf u.have' K p := ns_same p K _ _ (by rw [List.length_drop]; omega) (by omega) (fun i hi => by rw [List.getElem?_drop]; exact R.yes hb i hi)
  rw [e2]
  exact rel_go h4 hK (ns_len p u.have' K (by omega)) (by rw [yq2]; rfl) hgh (fun h => go_dir na 0 Sg.zero hst' (fun h => by cases h) h) (fun h => go_zero na 0 Sg.zero h) hV
theorem zy4 (n i : Nat) (h : i < 4) : (zz2 n)[i]? = some (decide (i < n)) := by
 have : i = 0 ∨ i = 1 ∨ i = 2 ∨ i = 3 := by omega
 rcases this with rfl | rfl | rfl | rfl <;> rfl
theorem yq1 (Ls : List (List Nd)) : zb2 Ls ⟨#[]⟩ = zv0 Ls.length := by
 unfold zb2
 rw [zg2 (by decide)]
 rfl
theorem seen_4 (Ls : List (List Nd)) (p : ByteArray) : (zb2 Ls p).have'.length = 4 := by
 unfold zb2
 generalize ways (zc8 p) (zc8 p).length = ws
 have : ∀ (ws : List ByteArray) (s : Sg), s.have'.length = 4 → (zn9 Ls s ws).have'.length = 4 := by
  intro ws
  induction ws with
  | nil => intro s h; exact h
  | cons w ws ih => intro s _; exact ih _ (dec_length _)
 exact this ws _ rfl
theorem flat_rel {A K : List (List Nd)} (h4 : A.length + K.length ≤ 4) (hK : 0 < K.length) (htr : ∀ L ∈ K, za2 L = true) : ∀ (N : Nat) (q : ByteArray), (names q).length = N → za5 q = true → Rel A.length K.length (zb2 (A ++ [allO K]) q) (zb2 (A ++ K) q) (zb2 K q) := by
 have hroot : ∀ q : ByteArray, q.size = 0 → Rel A.length K.length (zb2 (A ++ [allO K]) q) (zb2 (A ++ K) q) (zb2 K q) := fun q h => by
  have e : q = ⟨#[]⟩ := by
   cases q with
   | mk a => have : a = #[] := Array.size_eq_zero_iff.1 h; rw [this]
  subst e
  rw [yq1, yq1, yq1, List.length_append, List.length_append, List.length_singleton]
  refine ⟨fun i hi => ?_, fun _ j hj => ?_, fun h => ?_, ⟨fun h => (by cases h.1), fun h => (by cases h.1)⟩, fun h => (by cases h)⟩
  ·show (zz2 _)[i]? = (zz2 _)[i]?
   rw [zy4 _ _ (by omega), zy4 _ _ (by omega), decide_eq_true (by omega), decide_eq_true (by omega)]
  ·show (zz2 _)[_]? = (zz2 _)[_]?
   rw [zy4 _ _ (by omega), zy4 _ _ (by omega), decide_eq_true (by omega), decide_eq_true (by omega)]
  ·have : (zz2 (A.length + 1))[A.length]? = some false := h
   rw [zy4 _ _ (by omega), decide_eq_true (by omega)] at this
   cases this
 intro N
 induction N with
 | zero =>
  intro q hN hq
  refine hroot q ?_
  by_cases h : q.size = 0
  ·exact h
  ·have := names_pos h; omega
 | succ N ih =>
  intro q hN hq
  by_cases hz : q.size = 0
  ·exact hroot q hz
  ·have hn := yc3 hq hz rfl
   have hpq := yq0 hq
   have hR := ih (parent q) (by rw [hn, List.length_append, List.length_singleton] at hN; omega) hpq
   have hV := all_find (Ls := K) (by omega) htr hq hz
   rw [zz5 hpq hq hn] at hV
   rw [zz5 (Ls := A ++ [allO K]) hpq hq hn, zz5 (Ls := A ++ K) hpq hq hn, zz5 (Ls := K) hpq hq hn]
   exact rel_step h4 hK (seen_4 _ _) (seen_4 _ _) (seen_4 _ _) hR hV
theorem yu9 {Ls : List (List Nd)} (h4 : Ls.length ≤ 4) (htr : ∀ L ∈ Ls, za2 L = true) {n : Nd} : n ∈ ze9 (allO Ls) ↔ ∃ p, za5 p = true ∧ ¬ p.size = 0 ∧ (zb2 Ls p).told = true ∧ (zb2 Ls p).node.kind ≠ 0 ∧ (zb2 Ls p).node.bare = n := by
 have hA := yg5 h4 htr
 rw [yn1]
 constructor
 ·rintro ⟨x, hx, hk, rfl⟩
  obtain ⟨h1, h2, h3, h5⟩ := zo3 htr ((hA.mem x).1 hx)
  exact ⟨x.path, h3, h5, h1, by rw [← h2]; exact hk, by rw [← h2]⟩
 ·rintro ⟨p, hp, hz, ht, hk, rfl⟩
  exact ⟨_, (hA.mem _).2 (told_of hp hz ht), hk, rfl⟩
theorem flat_plain {A K : List (List Nd)} (h4 : A.length + K.length ≤ 4) (hK : 0 < K.length) (hA : ∀ L ∈ A, za2 L = true) (htr : ∀ L ∈ K, za2 L = true) (h40 : (allO K).length ≤ 40) (h40a : (allO (A ++ [allO K])).length ≤ 40) (h40b : (allO (A ++ K)).length ≤ 40) :
  ze9 (allO (A ++ [allO K])) = ze9 (allO (A ++ K)) := by
 have hV := yg0 (by omega) htr h40
 have t1 : ∀ L ∈ A ++ [allO K], za2 L = true := fun L hL => by
  rcases List.mem_append.1 hL with h | h
  ·exact hA L h
  ·rw [List.mem_singleton.1 h]; exact hV
 have t2 : ∀ L ∈ A ++ K, za2 L = true := fun L hL => by
  rcases List.mem_append.1 hL with h | h
  ·exact hA L h
  ·exact htr L h
 have l1 : (A ++ [allO K]).length ≤ 4 := by rw [List.length_append, List.length_singleton]; omega
 have l2 : (A ++ K).length ≤ 4 := by rw [List.length_append]; omega
 have p1 := ((zx _).1 (ys2 (yg0 l1 t1 h40a))).2.2
 have p2 := ((zx _).1 (ys2 (yg0 l2 t2 h40b))).2.2
 refine sorted_ext p1 p2 (fun n => ?_)
 rw [yu9 l1 t1, yu9 l2 t2]
 constructor
 ·rintro ⟨p, hp, hz, ht, hk, rfl⟩
  have R := flat_rel h4 hK htr _ p rfl hp
  obtain ⟨g1, g2⟩ := R.vis.1 ⟨ht, hk⟩
  exact ⟨p, hp, hz, g1, g2, (yx0 (R.like ht hk)).symm⟩
 ·rintro ⟨p, hp, hz, ht, hk, rfl⟩
  have R := flat_rel h4 hK htr _ p rfl hp
  obtain ⟨g1, g2⟩ := R.vis.2 ⟨ht, hk⟩
  exact ⟨p, hp, hz, g1, g2, yx0 (R.like g1 g2)⟩
end Pl
end Go.Proofs.YtfdbokipgofcdaaGreatDoor

namespace Go.Proofs.YtfdbokipgofcdaaGreatDoor
namespace Pl
theorem views_app (b : Fx) : ∀ a : Fx, ze5 (a.app b) = match ze5 a, ze5 b with
  | some x, some y => some (x ++ y)
  | _, _ => none := by
 intro a
 induction a with
 | nil => show ze5 b = _; cases ze5 b <;> rfl
 | cons L k m _ ih =>
  show ze5 (.cons L k (m.app b)) = _
  rw [zr3, zr3, ih]
  cases zl7 L k with
  | none => rfl
  | some V =>
   cases ze5 m with
   | none => rfl
   | some x =>
    cases ze5 b with
    | none => rfl
    | some y => rfl
structure Flt (xs : List (Int × List Nd)) (L : List Nd) (A : Fx) (L1 : List Nd) (k1 : Fx) : Prop where
 nx : zn8 xs = some (L, A.app (.cons L1 k1 .nil))
 fl : (Fx.cons L (A.app (.cons L1 k1 .nil)) .nil).flat = xs
 ok : (Fx.cons L (A.app (.cons L1 k1 .nil)) .nil).okX
 sh : nest (rowO xs) = some (A.app (.cons L1 k1 .nil)).shape
 a1 : 1 ≤ A.len
 k1n : k1.len ≠ 0
 le4 : A.len + k1.len ≤ 4
 fi : ze3 xs = (((A.app k1).len : Int), []) :: (A.app k1).flat
theorem yg2 {xs : List (Int × List Nd)} (h : zh1 xs = 0) : ∃ L A L1 k1, Flt xs L A L1 k1 := by
 unfold zh1 at h
 split at h
 ·cases h
 ·rename_i h400
  cases hF : nest (rowO xs) with
  | none => rw [zv4 hF] at h; cases h
  | some F =>
   obtain ⟨L, k, e1, e2, e3, e4⟩ := zy2 hF
   rw [e4] at h
   simp only at h
   cases hk : k.flatK with
   | none => rw [hk] at h; cases h
   | some K =>
    have hkx : k.okX := e3.2.2.2.1
    obtain ⟨g1, g2, g3, g4, g5, g6⟩ := yn hkx hk
    obtain ⟨s1, s2⟩ := k.yb9 (by omega)
    have hfl := (zy1 (xs := xs) (zj3 hF) e4 hk).2
    refine ⟨L, k.zb7.1, k.zb7.2.1, k.zb7.2.2, ?_⟩
    rw [g6] at hfl g2
    rw [Fx.zh9] at g2
    exact ⟨by rw [← s1]; exact e4, by rw [← s1]; exact e2, by rw [← s1]; exact e3, by rw [← s1, e1]; exact hF, by omega, g5, g2, hfl⟩
section
variable {xs : List (Int × List Nd)} {L : List Nd} {A : Fx} {L1 : List Nd} {k1 : Fx}
theorem Flt.okK (h : Flt xs L A L1 k1) : (Fx.cons [] (A.app k1) .nil).okX := by
 obtain ⟨g1, g2⟩ := Fx.zw8 h.ok.2.2.2.1
 exact ⟨yi9, .inr rfl, by rw [Fx.zh9]; exact h.le4, Fx.ok_app g1 g2.2.2.2.1, trivial⟩
theorem Flt.fi' (h : Flt xs L A L1 k1) : ze3 xs = (Fx.cons [] (A.app k1) .nil).flat := by
 rw [h.fi]; simp [Fx.flat]
theorem Flt.len (h : Flt xs L A L1 k1) : (ze3 xs).length + 1 = xs.length := by
 rw [h.fi', ← h.fl, Fx.zk6, Fx.zk6]
 simp only [Fx.sz, Fx.sz_app]
 omega
theorem Flt.nest (h : Flt xs L A L1 k1) : Pl.nest (rowO (ze3 xs)) = some (A.app k1).shape := by
 have ht := take_flat (Fx.cons [] (A.app k1) .nil) [] h.okK
 rw [List.append_nil, ← h.fi'] at ht
 have h12 := zj3 h.sh
 have hl := h.len
 obtain ⟨-, -, hd⟩ := zl5 h.sh
 rw [Fx.yc5, Fo.yb5] at hd
 have hd2 : (Fx.cons L1 k1 .nil).shape.depth = k1.shape.depth + 1 := by simp [Fx.shape, Fo.depth]
 rw [hd2] at hd
 unfold Pl.nest
 rw [if_pos (by rw [zi5]; omega)]
 have ht' : take 1 (rowO (ze3 xs)) = some (.cons (A.app k1).shape .nil, []) := ht
 rw [ht']
 simp only
 rw [if_pos (by rw [Fx.yc5, Fo.yb5]; omega)]
theorem Flt.nx' (h : Flt xs L A L1 k1) : zn8 (ze3 xs) = some ([], A.app k1) := zu8 h.nest h.fi'.symm
theorem Flt.depth (h : Flt xs L A L1 k1) : zs7 (Pl.nest (rowO (ze3 xs))) ≤ zs7 (Pl.nest (rowO xs)) := by
 rw [h.nest, h.sh]
 show ((A.app k1).shape.depth : Int) + 1 ≤ ((A.app (.cons L1 k1 .nil)).shape.depth : Int) + 1
 rw [Fx.yc5, Fx.yc5, Fo.yb5, Fo.yb5]
 have hd2 : (Fx.cons L1 k1 .nil).shape.depth = k1.shape.depth + 1 := by simp [Fx.shape, Fo.depth]
 omega
theorem Flt.level (h : Flt xs L A L1 k1) : zn3 (Pl.nest (rowO (ze3 xs))) = zn3 (Pl.nest (rowO xs)) := by
 rw [h.nest, h.sh]
 have h1 := h.a1
 cases A with
 | nil => simp [Fx.len] at h1
 | cons M k m => rfl
theorem Flt.sight (h : Flt xs L A L1 k1) (hc : zg7 xs = 0) (hc2 : zg7 (ze3 xs) = 0) : zo9 xs = zo9 (ze3 xs) := by
 have h12 := zj3 h.sh
 have hl := h.len
 have hkl : (A.app (.cons L1 k1 .nil)).len ≠ 0 := by rw [Fx.zh9]; simp [Fx.len]
 have hkl2 : (A.app k1).len ≠ 0 := by rw [Fx.zh9]; have := h.a1; omega
 obtain ⟨o1, o2⟩ := Fx.zw8 h.ok.2.2.2.1
 rw [yr1 hc, yr1 hc2]
 -- the nest as it was
 cases hv : zl7 L (A.app (.cons L1 k1 .nil)) with
 | none => rw [(yp6 (by omega) h.nx hv).1] at hc; cases hc
 | some V =>
  cases hv2 : zl7 [] (A.app k1) with
  | none => rw [(yp6 (by omega) h.nx' hv2).1] at hc2; cases hc2
  | some V2 =>
   rw [(yq4 (by omega) h.nx hv).2, (yq4 (by omega) h.nx' hv2).2]
   rw [yc0 hkl, views_app] at hv
   rw [yc0 hkl2, views_app] at hv2
   cases hA : ze5 A with
   | none => rw [hA] at hv; cases hv
   | some vA =>
    cases hK : ze5 k1 with
    | none => rw [hA, hK] at hv2; cases hv2
    | some vK =>
     rw [hA, hK] at hv2
     rw [hA, zr3, yc0 h.k1n, hK] at hv
     obtain ⟨a1, a2⟩ := ym2 A vA o1 hA
     obtain ⟨b1, b2⟩ := ym2 k1 vK o2.2.2.2.1 hK
     have hle := h.le4
     have hk0 := h.k1n
     by_cases h40 : (allO vK).length ≤ 40
     ·rw [show zq0 (some vK) = some (allO vK) from if_pos h40] at hv
      simp only [ze5] at hv
      by_cases h40a : (allO (vA ++ [allO vK])).length ≤ 40
      ·rw [show zq0 (some (vA ++ [allO vK])) = some (allO (vA ++ [allO vK])) from if_pos h40a] at hv
       cases hv
       by_cases h40b : (allO (vA ++ vK)).length ≤ 40
       ·simp only at hv2
        rw [show zq0 (some (vA ++ vK)) = some (allO (vA ++ vK)) from if_pos h40b] at hv2
        cases hv2
        exact flat_plain (by omega) (by omega) a2 b2 h40 h40a h40b
       ·simp only at hv2
        rw [show zq0 (some (vA ++ vK)) = none from if_neg h40b] at hv2
        cases hv2
      ·rw [show zq0 (some (vA ++ [allO vK])) = none from if_neg h40a] at hv
       cases hv
     ·rw [show zq0 (some vK) = none from if_neg h40] at hv
      cases hv
end
end Pl
end Go.Proofs.YtfdbokipgofcdaaGreatDoor

