/- What of layers is seen at a path: plain. -/
import Derived.Test.YtmmomfnejkjkjaaDoorPartA
namespace Go.Proofs.YtmmomfnejkjkjaaDoor
open Go.RowKit
namespace Pl
/-- A sight: whether something is told, what, and who has a part. -/
structure Sg where
  told : Bool
  node : Nd
  have' : List Bool
def Sg.cs (s : Sg) : List Value := [.bool s.told, .string s.node.path, .int .i64 s.node.kind, .string s.node.data, .int .i64 s.node.time, .int .i64 s.node.mark] ++ s.have'.map .bool
def zeroN : Nd := ⟨⟨#[]⟩, 0, ⟨#[]⟩, 0, 0⟩
def Sg.zero : Sg := ⟨false, zeroN, [false, false, false, false]⟩
def markMax (n : Nd) (m : Int) : Nd := ⟨n.path, n.kind, n.data, n.time, max n.mark m⟩
/-- A layer that has a node there says its part. -/
def takeS (s : Sg) (k : Nat) (n : Nd) : Sg := ⟨true, markMax (if s.told then s.node else n) n.mark, s.have'.set k (decide (n.kind = 1))⟩
def stopB (n : Nd) : Bool := !decide (n.kind = 1) || decide (0 < n.mark)
def upS (s : Sg) : Sg :=
  if s.node.kind = 0 ∧ max (s.node.mark - 1) 0 = 0 then Sg.zero else ⟨s.told, ⟨s.node.path, s.node.kind, s.node.data, s.node.time, max (s.node.mark - 1) 0⟩, s.have'⟩
def goD : Nat → Sg → List (Option Nd) → Sg
  | _, s, [] => s
  | k, s, none :: r => goD (k + 1) s r
  | k, s, some n :: r => if stopB n then takeS s k n else goD (k + 1) (takeS s k n) r
/-- What is decided, of what the layers that have a part above have there. -/
def decS (ns : List (Option Nd)) : Sg := upS (goD 0 Sg.zero ns)
/-- The node that a tree has at a path. -/
def lk (L : List Nd) (p : ByteArray) : Option Nd := L.find? (fun m => decide (m.path = p))
/-- What the layers that have a part above have at a path. -/
def nsOf : List Bool → List (List Nd) → ByteArray → List (Option Nd)
  | a :: ab, L :: Ls, p => (if a then lk L p else none) :: nsOf ab Ls p
  | _, _, _ => []
theorem ns_get (p : ByteArray) : ∀ (ab : List Bool) (Ls : List (List Nd)) (k : Nat) (a : Bool) (L : List Nd), ab[k]? = some a → Ls[k]? = some L → (nsOf ab Ls p)[k]? = some (if a then lk L p else none) := by
  intro ab
  induction ab with
  | nil => intro Ls k a L h; simp at h
  | cons x ab ih =>
    intro Ls k a L h1 h2
    cases Ls with
    | nil => simp at h2
    | cons M Ls =>
      cases k with
      | zero => simp at h1 h2; subst h1 h2; rfl
      | succ k => simp at h1 h2; simpa [nsOf] using ih Ls k a L h1 h2
theorem ns_len (p : ByteArray) : ∀ (ab : List Bool) (Ls : List (List Nd)), Ls.length ≤ ab.length → (nsOf ab Ls p).length = Ls.length := by
  intro ab
  induction ab with
  | nil => intro Ls h; cases Ls with | nil => rfl | cons => simp at h
  | cons x ab ih =>
    intro Ls h
    cases Ls with
    | nil => rfl
    | cons M Ls => simp [nsOf]; exact ih Ls (by simpa using h)
theorem go_step {ns : List (Option Nd)} {k : Nat} {x : Option Nd} (h : ns[k]? = some x) (j : Nat) (s : Sg) : goD j s (ns.drop k) = match x with | none => goD (j + 1) s (ns.drop (k + 1)) | some n => if stopB n then takeS s j n else goD (j + 1) (takeS s j n) (ns.drop (k + 1)) := by
  have h1 := List.getElem?_eq_some_iff.1 h
  rw [List.drop_eq_getElem_cons h1.1, h1.2]
  cases x <;> rfl
theorem go_end {ns : List (Option Nd)} {k : Nat} (h : ns.length ≤ k) (j : Nat) (s : Sg) : goD j s (ns.drop k) = s := by
  rw [List.drop_eq_nil_of_le h]; rfl
theorem take_len (s : Sg) (k : Nat) (n : Nd) : (takeS s k n).have'.length = s.have'.length := by simp [takeS]
theorem take_mark {s : Sg} {k : Nat} {n : Nd} (h : 0 ≤ s.node.mark ∧ s.node.mark ≤ 8) (hn : 0 ≤ n.mark ∧ n.mark ≤ 8) : 0 ≤ (takeS s k n).node.mark ∧ (takeS s k n).node.mark ≤ 8 := by
  unfold takeS markMax
  cases s.told <;> simp <;> omega
theorem up_len {s : Sg} (h : s.have'.length = 4) : (upS s).have'.length = 4 := by
  unfold upS
  split
  · rfl
  · exact h
end Pl
end Go.Proofs.YtmmomfnejkjkjaaDoor
