/- Several texts of one claim in one file: PlainSight, PlainPick, PlainAsk. -/
import Derived.Test.YtepmojmelcngeaaGreatDoorG01
/- What of layers is seen at a path: plain. -/
namespace Go.Proofs.YtepmojmelcngeaaGreatDoor
open Go.RowKit
namespace Pl
/-- A sight: whether something is told, what, and who has a part. -/
structure Sg where
  told : Bool
  node : Nd
  have' : List Bool
def Sg.cs (s : Sg) : List Value := [.bool s.told, .string s.node.path, .int .i64 s.node.kind, .string s.node.data, .int .i64 s.node.time, .int .i64 s.node.mark] ++ s.have'.map .bool
def zeroN : Nd := ⟨⟨#[]⟩, 0, ⟨#[]⟩, 0, 0⟩
def Sg.zero : Sg := ⟨false, zeroN, [false, false, false, false]⟩
def markMax (n : Nd) (m : Int) : Nd := ⟨n.path, n.kind, n.data, n.time, max n.mark m⟩
/-- A layer that has a node there says its part. -/
def takeS (s : Sg) (k : Nat) (n : Nd) : Sg := ⟨true, markMax (if s.told then s.node else n) n.mark, s.have'.set k (decide (n.kind = 1))⟩
def stopB (n : Nd) : Bool := !decide (n.kind = 1) || decide (0 < n.mark)
def upS (s : Sg) : Sg :=
  if s.node.kind = 0 ∧ max (s.node.mark - 1) 0 = 0 then Sg.zero else ⟨s.told, ⟨s.node.path, s.node.kind, s.node.data, s.node.time, max (s.node.mark - 1) 0⟩, s.have'⟩
def goD : Nat → Sg → List (Option Nd) → Sg
  | _, s, [] => s
  | k, s, none :: r => goD (k + 1) s r
  | k, s, some n :: r => if stopB n then takeS s k n else goD (k + 1) (takeS s k n) r
/-- What is decided, of what the layers that have a part above have there. -/
def decS (ns : List (Option Nd)) : Sg := upS (goD 0 Sg.zero ns)
/-- The node that a tree has at a path. -/
def lk (L : List Nd) (p : ByteArray) : Option Nd := L.find? (fun m => decide (m.path = p))
/-- What the layers that have a part above have at a path. -/
def nsOf : List Bool → List (List Nd) → ByteArray → List (Option Nd)
  | a :: ab, L :: Ls, p => (if a then lk L p else none) :: nsOf ab Ls p
  | _, _, _ => []
theorem ns_get (p : ByteArray) : ∀ (ab : List Bool) (Ls : List (List Nd)) (k : Nat) (a : Bool) (L : List Nd), ab[k]? = some a → Ls[k]? = some L → (nsOf ab Ls p)[k]? = some (if a then lk L p else none) := by
  intro ab
  induction ab with
  | nil => intro Ls k a L h; simp at h
  | cons x ab ih =>
    intro Ls k a L h1 h2
    cases Ls with
    | nil => simp at h2
    | cons M Ls =>
      cases k with
      | zero => simp at h1 h2; subst h1 h2; rfl
      | succ k => simp at h1 h2; simpa [nsOf] using ih Ls k a L h1 h2
theorem ns_len (p : ByteArray) : ∀ (ab : List Bool) (Ls : List (List Nd)), Ls.length ≤ ab.length → (nsOf ab Ls p).length = Ls.length := by
  intro ab
  induction ab with
  | nil => intro Ls h; cases Ls with | nil => rfl | cons => simp at h
  | cons x ab ih =>
    intro Ls h
    cases Ls with
    | nil => rfl
    | cons M Ls => simp [nsOf]; exact ih Ls (by simpa using h)
theorem go_step {ns : List (Option Nd)} {k : Nat} {x : Option Nd} (h : ns[k]? = some x) (j : Nat) (s : Sg) : goD j s (ns.drop k) = match x with | none => goD (j + 1) s (ns.drop (k + 1)) | some n => if stopB n then takeS s j n else goD (j + 1) (takeS s j n) (ns.drop (k + 1)) := by
  have h1 := List.getElem?_eq_some_iff.1 h
  rw [List.drop_eq_getElem_cons h1.1, h1.2]
  cases x <;> rfl
theorem go_end {ns : List (Option Nd)} {k : Nat} (h : ns.length ≤ k) (j : Nat) (s : Sg) : goD j s (ns.drop k) = s := by
  rw [List.drop_eq_nil_of_le h]; rfl
theorem take_len (s : Sg) (k : Nat) (n : Nd) : (takeS s k n).have'.length = s.have'.length := by simp [takeS]
theorem take_mark {s : Sg} {k : Nat} {n : Nd} (h : 0 ≤ s.node.mark ∧ s.node.mark ≤ 8) (hn : 0 ≤ n.mark ∧ n.mark ≤ 8) : 0 ≤ (takeS s k n).node.mark ∧ (takeS s k n).node.mark ≤ 8 := by
  unfold takeS markMax
  cases s.told <;> simp <;> omega
theorem up_len {s : Sg} (h : s.have'.length = 4) : (upS s).have'.length = 4 := by
  unfold upS
  split
  · rfl
  · exact h
end Pl
end Go.Proofs.YtepmojmelcngeaaGreatDoor

/- What the specification picks at a path is what the program decides. -/
namespace Go.Proofs.YtepmojmelcngeaaGreatDoor
open Go.RowKit
namespace Pl
/-- What the specification tells of a path: whether anything is told, its node, and who has a part in it. -/
structure Ot where
  ok : Bool
  node : Nd
  parts : List Nat
def finO (o : Ot) (mark : Int) : Ot := ⟨o.ok, ⟨o.node.path, o.node.kind, o.node.data, o.node.time, max 0 (mark - 1)⟩, o.parts⟩
def pickO (p : ByteArray) (o : Ot) (mark : Int) : List (Nat × Option Nd) → Ot
  | [] => finO o mark
  | (_, none) :: r => pickO p o mark r
  | (k, some n) :: r =>
    if o.parts = [] then
      if n.kind = 1 then (if 0 < n.mark then finO ⟨true, ⟨p, 1, ⟨#[]⟩, n.time, 0⟩, [k]⟩ (max mark n.mark) else pickO p ⟨true, ⟨p, 1, ⟨#[]⟩, n.time, 0⟩, [k]⟩ (max mark n.mark) r)
      else if n.kind = 0 then ⟨decide (1 < n.mark), ⟨p, 0, ⟨#[]⟩, 0, n.mark - 1⟩, []⟩ else ⟨true, n, []⟩
    else if n.kind = 1 then (if 0 < n.mark then finO ⟨o.ok, o.node, o.parts ++ [k]⟩ (max mark n.mark) else pickO p ⟨o.ok, o.node, o.parts ++ [k]⟩ (max mark n.mark) r) else finO o (max mark n.mark)
def numb : Nat → List (Option Nd) → List (Nat × Option Nd)
  | _, [] => []
  | k, x :: r => (k, x) :: numb (k + 1) r
/-- Who has a part, as the program has it. -/
def partsB (ks : List Nat) : List Bool := (List.range 4).map (fun j => decide (j ∈ ks))
theorem parts_in {ks : List Nat} {k : Nat} (h : k < 4) : (partsB ks).set k true = partsB (ks ++ [k]) := by
  obtain rfl | rfl | rfl | rfl : k = 0 ∨ k = 1 ∨ k = 2 ∨ k = 3 := by omega
  all_goals simp [partsB, List.range_succ]
theorem parts_out {ks : List Nat} {k : Nat} (h : k < 4) (hk : k ∉ ks) : (partsB ks).set k false = partsB ks := by
  obtain rfl | rfl | rfl | rfl : k = 0 ∨ k = 1 ∨ k = 2 ∨ k = 3 := by omega
  all_goals simp [partsB, List.range_succ, hk]
structure SameO (o : Ot) (s : Sg) : Prop where
  told : o.ok = s.told
  node : o.ok = true → o.node = s.node
  parts : s.have' = partsB o.parts
  dir : o.parts ≠ [] → o.ok = true ∧ o.node.kind = 1
  no : o.parts = [] → o.ok = true → o.node.kind ≠ 1
theorem empty_data {d : ByteArray} (h : d.size = 0) : d = ⟨#[]⟩ := by
  cases d with
  | mk a => have : a = #[] := Array.size_eq_zero_iff.1 h; rw [this]
def RightAt (p : ByteArray) (ns : List (Option Nd)) : Prop := ∀ n, some n ∈ ns → nodeB n = true ∧ n.path = p
theorem fin_same {p : ByteArray} {t mark : Int} {ks : List Nat} (hks : ks ≠ []) : SameO (finO ⟨true, ⟨p, 1, ⟨#[]⟩, t, 0⟩, ks⟩ mark) (upS ⟨true, ⟨p, 1, ⟨#[]⟩, t, mark⟩, partsB ks⟩) := by
  have hu : upS ⟨true, ⟨p, 1, ⟨#[]⟩, t, mark⟩, partsB ks⟩ = ⟨true, ⟨p, 1, ⟨#[]⟩, t, max (mark - 1) 0⟩, partsB ks⟩ := by
    unfold upS
    rw [if_neg (by simp)]
  rw [hu]
  refine ⟨rfl, fun _ => ?_, rfl, fun _ => ⟨rfl, rfl⟩, fun h => absurd h hks⟩
  simp only [finO]
  rw [Int.max_comm]
theorem pick_dirs (p : ByteArray) : ∀ (ns : List (Option Nd)) (k : Nat) (t mark : Int) (ks : List Nat), RightAt p ns → k + ns.length ≤ 4 → ks ≠ [] → (∀ j ∈ ks, j < k) → 0 ≤ mark →
    SameO (pickO p ⟨true, ⟨p, 1, ⟨#[]⟩, t, 0⟩, ks⟩ mark (numb k ns)) (upS (goD k ⟨true, ⟨p, 1, ⟨#[]⟩, t, mark⟩, partsB ks⟩ ns)) := by
  intro ns
  induction ns with
  | nil => intro k t mark ks _ _ hks _ hm; exact fin_same hks
  | cons x ns ih =>
    intro k t mark ks hr hl hks hlt hm
    have hr' : RightAt p ns := fun n hn => hr n (List.mem_cons_of_mem _ hn)
    simp only [List.length_cons] at hl
    cases x with
    | none => exact ih (k + 1) t mark ks hr' (by omega) hks (fun j hj => Nat.lt_succ_of_lt (hlt j hj)) hm
    | some n =>
      have hnk : k ∉ ks := fun h => absurd (hlt k h) (Nat.lt_irrefl _)
      have hm2 : 0 ≤ max mark n.mark := by omega
      simp only [numb, pickO, goD]
      rw [if_neg hks]
      by_cases hk : n.kind = 1
      · have htk : takeS ⟨true, ⟨p, 1, ⟨#[]⟩, t, mark⟩, partsB ks⟩ k n = ⟨true, ⟨p, 1, ⟨#[]⟩, t, max mark n.mark⟩, partsB (ks ++ [k])⟩ := by
          simp only [takeS, markMax, if_true, hk, decide_true]
          rw [parts_in (by omega)]
        rw [htk, if_pos hk]
        by_cases hmk : 0 < n.mark
        · have hst : stopB n = true := by simp [stopB, hmk]
          rw [if_pos hmk, hst, if_pos rfl]
          exact fin_same (by simp)
        · have hst : stopB n = false := by simp [stopB, hmk, hk]
          rw [if_neg hmk, hst, if_neg (by decide)]
          exact ih (k + 1) t _ (ks ++ [k]) hr' (by omega) (by simp) (fun j hj => by
            rcases List.mem_append.1 hj with h | h
            · exact Nat.lt_succ_of_lt (hlt j h)
            · simp at h; omega) hm2
      · have htk : takeS ⟨true, ⟨p, 1, ⟨#[]⟩, t, mark⟩, partsB ks⟩ k n = ⟨true, ⟨p, 1, ⟨#[]⟩, t, max mark n.mark⟩, partsB ks⟩ := by
          simp only [takeS, markMax, if_true, hk, decide_false]
          rw [parts_out (by omega) hnk]
        have hst : stopB n = true := by simp [stopB, hk]
        rw [htk, if_neg hk, hst, if_pos rfl]
        exact fin_same hks
theorem pick_same (p : ByteArray) : ∀ (ns : List (Option Nd)) (k : Nat), RightAt p ns → k + ns.length ≤ 4 → SameO (pickO p ⟨false, zeroN, []⟩ 0 (numb k ns)) (upS (goD k ⟨false, zeroN, partsB []⟩ ns)) := by
  intro ns
  induction ns with
  | nil =>
    intro k _ _
    have hu : upS (goD k ⟨false, zeroN, partsB []⟩ []) = Sg.zero := by
      show upS ⟨false, zeroN, partsB []⟩ = Sg.zero
      unfold upS
      rw [if_pos ⟨rfl, by show max ((0 : Int) - 1) 0 = 0; decide⟩]
    rw [hu]
    exact ⟨rfl, fun h => (by cases h), rfl, fun h => absurd rfl h, fun _ h => (by cases h)⟩
  | cons x ns ih =>
    intro k hr hl
    have hr' : RightAt p ns := fun n hn => hr n (List.mem_cons_of_mem _ hn)
    simp only [List.length_cons] at hl
    cases x with
    | none => exact ih (k + 1) hr' (by omega)
    | some n =>
      obtain ⟨hb, hp⟩ := hr n List.mem_cons_self
      obtain ⟨-, -, hmk8, hkd⟩ := node_bounds hb
      obtain ⟨np, nk, nd, nt, nm⟩ := n
      simp only at hp hmk8
      subst hp
      have hnm : max nm nm = nm := by omega
      have hnk : k ∉ ([] : List Nat) := by simp
      simp only [numb, pickO, goD, if_true]
      by_cases hk : nk = 1
      · subst hk
        have hd : nd = ⟨#[]⟩ := by
          simp [kindB] at hkd
          first | exact hkd | exact empty_data hkd
        subst hd
        have htk : takeS ⟨false, zeroN, partsB []⟩ k ⟨np, 1, ⟨#[]⟩, nt, nm⟩ = ⟨true, ⟨np, 1, ⟨#[]⟩, nt, nm⟩, partsB ([] ++ [k])⟩ := by
          simp only [takeS, markMax, Bool.false_eq_true, if_false, decide_true, hnm]
          rw [parts_in (by omega)]
        have hm0 : max 0 nm = nm := by omega
        rw [htk, hm0, List.nil_append, if_pos (rfl : (1 : Int) = 1)]
        by_cases hmk : 0 < nm
        · have hst : stopB ⟨np, 1, ⟨#[]⟩, nt, nm⟩ = true := by simp [stopB, hmk]
          rw [if_pos hmk, hst, if_pos rfl]
          exact fin_same (by simp)
        · have hst : stopB ⟨np, 1, ⟨#[]⟩, nt, nm⟩ = false := by simp [stopB, hmk]
          rw [if_neg hmk, hst, if_neg (by decide)]
          exact pick_dirs np ns (k + 1) nt nm [k] hr' (by omega) (by simp) (fun j hj => by simp at hj; omega) hmk8.1
      · have htk : takeS ⟨false, zeroN, partsB []⟩ k ⟨np, nk, nd, nt, nm⟩ = ⟨true, ⟨np, nk, nd, nt, nm⟩, partsB []⟩ := by
          simp only [takeS, markMax, Bool.false_eq_true, if_false, hk, decide_false, hnm]
          rw [parts_out (by omega) hnk]
        have hst : stopB ⟨np, nk, nd, nt, nm⟩ = true := by simp [stopB, hk]
        rw [htk, if_neg hk, hst, if_pos rfl]
        by_cases hz : nk = 0
        · subst hz
          simp [kindB] at hkd
          obtain ⟨⟨hd, ht⟩, hm⟩ := hkd
          have hd2 : nd = ⟨#[]⟩ := by first | exact hd | exact empty_data hd
          subst hd2 ht
          rw [if_pos rfl]
          by_cases h1 : nm = 1
          · subst h1
            have hu : upS ⟨true, ⟨np, 0, ⟨#[]⟩, 0, 1⟩, partsB []⟩ = Sg.zero := by
              unfold upS
              rw [if_pos ⟨rfl, by show max ((1 : Int) - 1) 0 = 0; decide⟩]
            rw [hu]
            exact ⟨rfl, fun h => (by cases h), rfl, fun h => absurd rfl h, fun _ h => (by cases h)⟩
          · have hu : upS ⟨true, ⟨np, 0, ⟨#[]⟩, 0, nm⟩, partsB []⟩ = ⟨true, ⟨np, 0, ⟨#[]⟩, 0, nm - 1⟩, partsB []⟩ := by
              unfold upS
              rw [if_neg (by simp only; omega), show max (nm - 1) 0 = nm - 1 by omega]
            rw [hu]
            exact ⟨by simp; omega, fun _ => rfl, rfl, fun h => absurd rfl h, fun _ _ => (by show (0 : Int) ≠ 1; decide)⟩
        · have h2 : nm = 0 := by
            simp [kindB, hz, hk] at hkd
            exact hkd.2
          subst h2
          have hu : upS ⟨true, ⟨np, nk, nd, nt, 0⟩, partsB []⟩ = ⟨true, ⟨np, nk, nd, nt, 0⟩, partsB []⟩ := by
            unfold upS
            rw [if_neg (fun h => hz h.1)]
            rfl
          rw [hu, if_neg hz]
          exact ⟨rfl, fun _ => rfl, rfl, fun h => absurd rfl h, fun _ _ => hk⟩
/-- What is picked of all layers is what is decided. -/
theorem pick_dec {p : ByteArray} {ns : List (Option Nd)} (hr : RightAt p ns) (hl : ns.length ≤ 4) : SameO (pickO p ⟨false, zeroN, []⟩ 0 (numb 0 ns)) (decS ns) := pick_same p ns 0 hr (by omega)
end Pl
end Go.Proofs.YtepmojmelcngeaaGreatDoor

/- What the layers that have a part have at a path, as the specification asks them. -/
namespace Go.Proofs.YtepmojmelcngeaaGreatDoor
open Go.RowKit
namespace Pl
def zeroO : Ot := ⟨false, zeroN, []⟩
/-- What the layers that have a part have at a path, as the specification asks them. -/
def askO (Ls : List (List Nd)) (ks : List Nat) (q : ByteArray) : List (Nat × Option Nd) := ks.map (fun k => (k, lk (Ls.getD k []) q))
def childO (Ls : List (List Nd)) (ks : List Nat) (q : ByteArray) : Ot := pickO q zeroO 0 (askO Ls ks q)
end Pl
end Go.Proofs.YtepmojmelcngeaaGreatDoor

