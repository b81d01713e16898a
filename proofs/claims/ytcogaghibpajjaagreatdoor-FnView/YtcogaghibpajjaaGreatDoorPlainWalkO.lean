import Derived.Test.YtcogaghibpajjaaGreatDoorG02
import Derived.Test.YtcogaghibpajjaaGreatDoorWSeenI
import Derived.Test.YtcogaghibpajjaaGreatDoorWNames4
import Derived.Calls
import Derived.Lone
import Derived.RunT
import Derived.Shelf.SlSortCmp.NoneTotal
import Derived.Lib.QuietBelow
import Derived.Maps.RangeWalk
import Derived.Sort.MapsRangeIn
namespace Go.Proofs.YtcogaghibpajjaaGreatDoor
namespace Pl
theorem lessT_trans {a b c : ByteArray} (h1 : zm1 a b = true) (h2 : zm1 b c = true) : zm1 a c = true := bytes_trans _ _ _ h1 h2
theorem lessT_irr (a : ByteArray) : zm1 a a = false := bytes_irr _
theorem lessT_tot {a b : ByteArray} (h : a ≠ b) (h2 : zm1 a b = false) : zm1 b a = true := by
 have h3 := zz5 a.toList b.toList (fun e => h (by have := WNamesT.tl_eq h; rw [e] at this; simp at this))
 unfold zm1 at h2 ⊢
 rw [h2] at h3
 cases h4 : Op.bytesLess b.toList a.toList
 ·rw [h4] at h3; cases h3
 ·rfl
def Rise (l : List ByteArray) : Prop := l.Pairwise (fun a b => zm1 a b = true)
theorem ins_mem (t x : ByteArray) : ∀ l : List ByteArray, x ∈ insN t l ↔ x = t ∨ x ∈ l := by
 intro l
 induction l with
 | nil => simp [insN]
 | cons a l ih =>
  rw [insN]
  split
  ·rw [List.mem_cons, ih, List.mem_cons]
   constructor
   ·rintro (h | h | h)
    ·exact .inr (.inl h)
    ·exact .inl h
    ·exact .inr (.inr h)
   ·rintro (h | h | h)
    ·exact .inr (.inl h)
    ·exact .inl h
    ·exact .inr (.inr h)
  ·split
   ·rename_i e
    subst e
    simp
   ·simp
theorem ins_rise (t : ByteArray) : ∀ l : List ByteArray, Rise l → Rise (insN t l) := by
 intro l
 induction l with
 | nil => intro _; exact List.pairwise_singleton _ _
 | cons a l ih =>
  intro h
  have h' := List.pairwise_cons.1 h
  rw [insN]
  split
  ·rename_i hlt
   refine List.pairwise_cons.2 ⟨fun x hx => ?_, ih h'.2⟩
   rcases (ins_mem t x l).1 hx with e | e
   ·rw [e]; exact hlt
   ·exact h'.1 x e
  ·rename_i hlt
   split
   ·exact h
   ·rename_i hne
    have hta : zm1 t a = true := lessT_tot (fun e => hne e) (by simpa using hlt)
    refine List.pairwise_cons.2 ⟨fun x hx => ?_, h⟩
    rcases List.mem_cons.1 hx with e | e
    ·rw [e]; exact hta
    ·exact lessT_trans hta (h'.1 x e)
theorem insAll_ok : ∀ (K out : List ByteArray), Rise out → Rise (zf5 out K) ∧ ∀ x, x ∈ zf5 out K ↔ x ∈ out ∨ x ∈ K := by
 intro K
 induction K with
 | nil => intro out h; exact ⟨h, fun x => by simp [zf5]⟩
 | cons t K ih =>
  intro out h
  obtain ⟨h1, h2⟩ := ih (insN t out) (ins_rise t out h)
  refine ⟨h1, fun x => ?_⟩
  show x ∈ zf5 (insN t out) K ↔ _
  rw [h2, ins_mem, List.mem_cons]
  constructor
  ·rintro ((h | h) | h)
   ·exact .inr (.inl h)
   ·exact .inl h
   ·exact .inr (.inr h)
  ·rintro (h | h | h)
   ·exact .inl (.inr h)
   ·exact .inl (.inl h)
   ·exact .inr h
theorem yd0 (Ls : List (List Nd)) (q : ByteArray) (ks : List Nat) : Rise (zd6 Ls q ks) ∧ ∀ x, x ∈ zd6 Ls q ks ↔ ∃ k ∈ ks, x ∈ ze1 q (Ls.getD k []) := by
 have key : ∀ (ks : List Nat) (out : List ByteArray), Rise out → Rise (ks.foldl (fun o k => zf5 o (ze1 q (Ls.getD k []))) out) ∧ ∀ x, x ∈ ks.foldl (fun o k => zf5 o (ze1 q (Ls.getD k []))) out ↔ x ∈ out ∨ ∃ k ∈ ks, x ∈ ze1 q (Ls.getD k []) := by
  intro ks
  induction ks with
  | nil => intro out h; exact ⟨h, fun x => by simp⟩
  | cons k ks ih =>
   intro out h
   obtain ⟨h1, h2⟩ := insAll_ok (ze1 q (Ls.getD k [])) out h
   obtain ⟨h3, h4⟩ := ih _ h1
   refine ⟨h3, fun x => ?_⟩
   rw [List.foldl_cons, h4, h2]
   constructor
   ·rintro ((h | h) | ⟨j, hj, hx⟩)
    ·exact .inl h
    ·exact .inr ⟨k, List.mem_cons_self, h⟩
    ·exact .inr ⟨j, List.mem_cons_of_mem _ hj, hx⟩
   ·rintro (h | ⟨j, hj, hx⟩)
    ·exact .inl (.inl h)
    ·rcases List.mem_cons.1 hj with e | e
     ·subst e; exact .inl (.inr hx)
     ·exact .inr ⟨j, e, hx⟩
 obtain ⟨h1, h2⟩ := key ks [] List.Pairwise.nil
 exact ⟨h1, fun x => by show x ∈ ks.foldl _ [] ↔ _; rw [h2]; simp⟩
def zs8 (sub : List Nat → ByteArray → List Nd) (Ls : List (List Nd)) (ks : List Nat) (q t : ByteArray) : List Nd :=
 if (zg6 Ls ks (zc4 q t)).ok = true then (zg6 Ls ks (zc4 q t)).node :: (if (zg6 Ls ks (zc4 q t)).node.kind = 1 then sub (zg6 Ls ks (zc4 q t)).parts (zc4 q t) else []) else []
def zi9 (Ls : List (List Nd)) : Nat → List Nat → ByteArray → List Nd
 | 0, _, _ => []
 | d + 1, ks, q => (zd6 Ls q ks).flatMap (zs8 (zi9 Ls d) Ls ks q)
structure At4 (Ls : List (List Nd)) (ks : List Nat) (q : ByteArray) : Prop where
 sub : ks.Sublist (List.range Ls.length)
 path : za3 q = true
 parts : (zb1 Ls q).have' = zb3 ks
theorem ya9 {Ls : List (List Nd)} {q p t : ByteArray} (hq : za3 q = true) (hp : za3 p = true) (h : names p = names q ++ [t]) : zb1 Ls p = decS (nsOf (zb1 Ls q).have' Ls p) := by
 unfold zb1
 rw [ze4 hp, ze4 hq, h, List.length_append, List.length_singleton, yc5, zy3]
 have e1 : ways (names q ++ [t]) (names q).length = ways (names q) (names q).length := by
  unfold ways
  apply List.map_congr_left
  intro i hi
  have hi2 := List.mem_range.1 hi
  rw [List.take_append_of_le_length (by omega)]
 have e2 : glue ((names q ++ [t]).take ((names q).length + 1)) = p := by
  rw [List.take_of_length_le (by simp), ← h, zl7]
 rw [e1, e2]
end Pl
end Go.Proofs.YtcogaghibpajjaaGreatDoor
