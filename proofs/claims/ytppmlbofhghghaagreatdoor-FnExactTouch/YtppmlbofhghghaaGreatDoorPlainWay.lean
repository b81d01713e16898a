import Derived.Test.YtppmlbofhghghaaGreatDoorMapPutL
namespace Go.Proofs.YtppmlbofhghghaaGreatDoor
namespace Pl
def zq7 (S L : List Nd) (p : ByteArray) : List Nd :=
 match lk L p with
 | some n => if n.kind = 0 then putL L { (lk S p).getD za7 with mark := n.mark } else L
 | none => putL L { (lk S p).getD za7 with mark := 0 }
def zg9 (S L : List Nd) (ps : List ByteArray) : List Nd := ps.foldl (zq7 S) L
theorem open_snoc (S L : List Nd) (ps : List ByteArray) (p : ByteArray) : zg9 S L (ps ++ [p]) = zq7 S (zg9 S L ps) p := by simp [zg9]
theorem zp9 {L : List Nd} {p : ByteArray} {n : Nd} (h : lk L p = some n) : n ∈ L ∧ n.path = p := ⟨List.mem_of_find?_eq_some h, by simpa using List.find?_some h⟩
theorem openN_rise {S L : List Nd} {p : ByteArray} (hS : zd9 S) (hL : zd9 L) {d : Nd} (hd : lk S p = some d) : zd9 (zq7 S L p) := by
 obtain ⟨h1, h2⟩ := zp9 hd
 have hp : za3 p = true := by rw [← h2]; exact (hS.path d h1).1
 unfold zq7
 rw [hd]
 split
 ·split
  ·exact hL.put (n := { d with mark := _ }) (by show za3 d.path = true; rw [h2]; exact hp) (hS.path d h1).2
  ·exact hL
 ·exact hL.put (n := { d with mark := 0 }) (by show za3 d.path = true; rw [h2]; exact hp) (hS.path d h1).2
theorem openN_len (S L : List Nd) (p : ByteArray) : (zq7 S L p).length ≤ L.length + 1 := by
 unfold zq7
 split
 ·split
  ·exact zx6 _ _
  ·omega
 ·exact zx6 _ _
theorem ya8 {S : List Nd} (hS : zd9 S) : ∀ (ps : List ByteArray) (L : List Nd), zd9 L → (∀ p ∈ ps, ∃ d, lk S p = some d) → zd9 (zg9 S L ps) ∧ (zg9 S L ps).length ≤ L.length + ps.length := by
 intro ps
 induction ps with
 | nil => intro L hL _; exact ⟨hL, Nat.le_refl _⟩
 | cons p ps ih =>
  intro L hL h
  obtain ⟨d, hd⟩ := h p (List.mem_cons_self ..)
  obtain ⟨h1, h2⟩ := ih (zq7 S L p) (openN_rise hS hL hd) (fun q hq => h q (List.mem_cons_of_mem _ hq))
  refine ⟨h1, ?_⟩
  have := openN_len S L p
  rw [List.length_cons]
  exact Nat.le_trans h2 (by omega)
end Pl
end Go.Proofs.YtppmlbofhghghaaGreatDoor
