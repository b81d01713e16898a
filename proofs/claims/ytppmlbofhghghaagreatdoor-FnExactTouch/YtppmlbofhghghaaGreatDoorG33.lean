/- Several texts of one claim in one file: PlainAddC, PlainWayA, PlainAbv. -/
import Derived.Test.YtppmlbofhghghaaGreatDoorG01
import Derived.Test.YtppmlbofhghghaaGreatDoorG28
import Derived.Test.YtppmlbofhghghaaGreatDoorG27
import Derived.Test.YtppmlbofhghghaaGreatDoorG30
namespace Go.Proofs.YtppmlbofhghghaaGreatDoor
open Go.RowKit
namespace Pl
def addC (L : List Nd) (n : Nd) : Int :=
 if (parent n.path).size ≠ 0 ∧ L.find? (fun m => decide (m.path = parent n.path)) = none then 6 else if dirS L (parent n.path) = false then 12 else if n.kind ≠ 1 ∧ ze9 L n.path = true then 11 else if L.find? (fun m => decide (m.path = n.path)) = none ∧ 40 ≤ L.length then 9 else 0
def addO (L : List Nd) (n : Nd) : List Nd := if addC L n = 0 then putL L n else []
end Pl
end Go.Proofs.YtppmlbofhghghaaGreatDoor

namespace Go.Proofs.YtppmlbofhghghaaGreatDoor
namespace Pl
theorem yn8 {s : ByteArray} (h : s.size = 0) : names s = [] := by
 have e : s = ⟨#[]⟩ := by
  apply zi3
  rw [zj6.2 h]
  rfl
 rw [e]
 rfl
theorem glue_pos {L : List ByteArray} (h : ∀ t ∈ L, ze5 t = true) (hl : L ≠ []) : ¬ (glue L).size = 0 := fun e => by
 have h2 := zo7 h
 rw [yn8 e] at h2
 exact hl h2.symm
theorem way_up {S : List Nd} (ht : za5 S = true) {q : ByteArray} (hq : za3 q = true) (h : q.size = 0 ∨ ∃ m ∈ S, m.path = q) : ∀ (j k : Nat), k + j = (names q).length → 0 < k → ∃ m ∈ S, m.path = glue ((names q).take k) := by
 have hall := zm hq
 intro j
 induction j with
 | zero =>
  intro k hk h0
  rcases h with h | ⟨m, hm, e⟩
  ·rw [yn8 h] at hk; simp at hk; omega
  ·exact ⟨m, hm, by rw [e, List.take_of_length_le (by omega), zo3]⟩
 | succ j ih =>
  intro k hk h0
  obtain ⟨m, hm, e⟩ := ih (k + 1) (by omega) (by omega)
  have hd := (((zd2 S).1 ht).2.1 m hm).2
  rw [zu5 ((zd2 S).1 ht).2.2, zr2, e, zo7 (zx2 hall.1 _)] at hd
  have e2 : ((names q).take (k + 1)).dropLast = (names q).take k := by rw [List.dropLast_eq_take, List.length_take, Nat.min_eq_left (by omega), List.take_take]; congr 1; omega
  rw [e2] at hd
  rcases hd with hd | ⟨m', hm', e', -⟩
  ·exact absurd hd (glue_pos (zx2 hall.1 _) (fun e3 => by have := congrArg List.length e3; rw [List.length_take, List.length_nil] at this; omega))
  ·exact ⟨m', hm', e'⟩
theorem way_all {S : List Nd} (ht : za5 S = true) {p : ByteArray} (hp : za3 p = true) (h : (parent p).size = 0 ∨ ∃ m ∈ S, m.path = parent p) : ∀ q ∈ zj4 p, ∃ d, lk S q = some d := by
 intro q hq
 have hpp : za3 (parent p) = true := ye6 hp
 have e : zb7 p = parent p := (zr7 hp).symm
 rw [zj4, e, zc8 hpp] at hq
 obtain ⟨i, hi, rfl⟩ := List.mem_map.1 hq
 have hi := List.mem_range.1 hi
 obtain ⟨m, hm, e2⟩ := way_up ht hpp h ((names (parent p)).length - (i + 1)) (i + 1) (by omega) (by omega)
 cases hf : lk S (glue ((names (parent p)).take (i + 1))) with
 | none => exact absurd e2 (by simpa using List.find?_eq_none.1 hf m hm)
 | some d => exact ⟨d, rfl⟩
theorem way_found {S : List Nd} (ht : za5 S = true) {p : ByteArray} {m : Nd} (hm : lk S p = some m) : ∀ q ∈ zj4 p, ∃ d, lk S q = some d := by
 obtain ⟨h1, h2⟩ := zp9 hm
 have h3 := ((zd2 S).1 ht).2.1 m h1
 have hp : za3 p = true := by rw [← h2]; exact (za9 h3.1).1
 have hd := h3.2
 rw [zu5 ((zd2 S).1 ht).2.2, h2] at hd
 exact way_all ht hp (hd.imp id (fun ⟨m', a, b, _⟩ => ⟨m', a, b⟩))
theorem way_add {S : List Nd} (ht : za5 S = true) {n : Nd} (hn : zb n = true) (h : addC S n = 0) : ∀ q ∈ zj4 n.path, ∃ d, lk S q = some d := by
 have hp := (za9 hn).1
 refine way_all ht hp ?_
 have h2 : dirS S (parent n.path) = true := by
  cases hd : dirS S (parent n.path) with
  | true => rfl
  | false =>
   unfold addC at h
   split at h
   ·cases h
   ·first | cases h | (rw [if_pos hd] at h; cases h)
 rw [zu5 ((zd2 S).1 ht).2.2] at h2
 exact h2.imp id (fun ⟨m', a, b, _⟩ => ⟨m', a, b⟩)
end Pl
end Go.Proofs.YtppmlbofhghghaaGreatDoor

namespace Go.Proofs.YtppmlbofhghghaaGreatDoor
namespace Pl
theorem waysA_eq {p : ByteArray} (hp : za3 p = true) : zj4 p = ways (names p) ((names p).length - 1) := by
 have e : zb7 p = parent p := (zr7 hp).symm
 have hall := (zm hp).1
 have e2 : names (parent p) = (names p).take ((names p).length - 1) := by
  rw [zr2, zo7 (fun t ht => hall t (List.dropLast_subset _ ht)), List.dropLast_eq_take]
 rw [zj4, e, zc8 (ye6 hp), e2, List.length_take, Nat.min_eq_left (by omega)]
 unfold ways
 refine List.map_congr_left (fun i hi => ?_)
 have := List.mem_range.1 hi
 rw [List.take_take, Nat.min_eq_left (by omega)]
theorem way_dirs {S : List Nd} (ht : za5 S = true) {p : ByteArray} (hp : za3 p = true) (hd : dirS S (parent p) = true) : ∀ (j k : Nat), k + j = (names p).length - 1 → dirS S (glue ((names p).take k)) = true := by
 have hall := zm hp
 intro j
 induction j with
 | zero =>
  intro k hk
  rw [zr2, List.dropLast_eq_take] at hd
  rw [show k = (names p).length - 1 by omega]
  exact hd
 | succ j ih =>
  intro k hk
  have h1 := ih (k + 1) (by omega)
  rw [zu5 ((zd2 S).1 ht).2.2] at h1
  rcases h1 with h1 | ⟨m, hm, e, -⟩
  ·exact absurd h1 (glue_pos (zx2 hall.1 _) (fun e3 => by have := congrArg List.length e3; rw [List.length_take, List.length_nil] at this; omega))
  ·have h2 := (((zd2 S).1 ht).2.1 m hm).2
   rw [zr2, e, zo7 (zx2 hall.1 _)] at h2
   have e2 : ((names p).take (k + 1)).dropLast = (names p).take k := by rw [List.dropLast_eq_take, List.length_take, Nat.min_eq_left (by omega), List.take_take]; congr 1; omega
   rw [e2] at h2
   exact h2
theorem way_K {S : List Nd} (ht : za5 S = true) {p : ByteArray} (hp : za3 p = true) (hd : dirS S (parent p) = true) : ∀ q ∈ ways (names p) ((names p).length - 1), ∃ d, lk S q = some d ∧ d.kind = 1 ∧ d.data.size = 0 := by
 intro q hq
 obtain ⟨i, hi, rfl⟩ := List.mem_map.1 hq
 have hi := List.mem_range.1 hi
 have h1 := way_dirs ht hp hd ((names p).length - 1 - (i + 1)) (i + 1) (by omega)
 have h0 : ¬ (glue ((names p).take (i + 1))).size = 0 := glue_pos (zx2 (zm hp).1 _) (fun e3 => by have := congrArg List.length e3; rw [List.length_take, List.length_nil] at this; omega)
 unfold dirS at h1
 simp only [h0, decide_false, Bool.false_or] at h1
 cases hf : S.find? (fun m => decide (m.path = glue ((names p).take (i + 1)))) with
 | none => rw [hf] at h1; cases h1
 | some d =>
  rw [hf] at h1
  have hk : d.kind = 1 := of_decide_eq_true h1
  refine ⟨d, hf, hk, ?_⟩
  have h2 := (((zd2 S).1 ht).2.1 d (List.mem_of_find?_eq_some hf)).1
  have h3 : zk1 d = true := by
   unfold zb at h2
   simp only [Bool.and_eq_true] at h2
   exact h2.2
  unfold zk1 at h3
  rw [if_neg (by rw [hk]; decide), if_pos hk] at h3
  exact of_decide_eq_true h3
theorem open_step {S L : List Nd} {q : ByteArray} {d : Nd} (hd : lk S q = some d) (hk : d.kind = 1) (hz : d.data.size = 0) : zq7 S L q = zy6 S L q := by
 have hp := (zp9 hd).2
 have e : d.data = ⟨#[]⟩ := by
  apply zi3
  rw [zj6.2 hz]
  rfl
 unfold zq7 zy6 dirN
 rw [hd]
 obtain ⟨dp, dk, dd, dt, dm⟩ := d
 simp only at hp hk e
 subst hp hk e
 cases lk L dp with
 | none => rfl
 | some n => rfl
theorem open_abv {S : List Nd} : ∀ (qs : List ByteArray) (L : List Nd), (∀ q ∈ qs, ∃ d, lk S q = some d ∧ d.kind = 1 ∧ d.data.size = 0) → zg9 S L qs = abvN S L qs := by
 intro qs
 induction qs with
 | nil => intro L _; rfl
 | cons q qs ih =>
  intro L h
  obtain ⟨d, h1, h2, h3⟩ := h q (List.mem_cons_self ..)
  have := ih (zy6 S L q) (fun x hx => h x (List.mem_cons_of_mem _ hx))
  rw [abvN, ← this, ← open_step h1 h2 h3]
  rfl
theorem abv_all {S L : List Nd} (ht : za5 S = true) (hL : za5 L = true) {p : ByteArray} (hp : za3 p = true) (hd : dirS S (parent p) = true) :
  zg9 S L (zj4 p) = abvN S L (ways (names p) ((names p).length - 1)) ∧ (∀ q ∈ ways (names p) ((names p).length - 1), ∃ d, lk S q = some d) ∧ zd9 (abvN S L (ways (names p) ((names p).length - 1))) ∧ (abvN S L (ways (names p) ((names p).length - 1))).length ≤ 60 := by
 have h := way_K ht hp hd
 have e := open_abv (S := S) _ L h
 have h2 : ∀ q ∈ ways (names p) ((names p).length - 1), ∃ d, lk S q = some d := fun q hq => by
  obtain ⟨d, h1, -⟩ := h q hq
  exact ⟨d, h1⟩
 have h3 := ya8 (zd9.zv6 ht) _ L (zd9.zv6 hL) h2
 rw [e] at h3
 refine ⟨by rw [waysA_eq hp]; exact e, h2, h3.1, ?_⟩
 have h4 := ((zd2 L).1 hL).1
 have h5 := (zm hp).2
 have h6 : (ways (names p) ((names p).length - 1)).length = (names p).length - 1 := by simp [ways]
 omega
theorem dir_found {S : List Nd} (ht : za5 S = true) {p : ByteArray} (h : ∃ d, lk S p = some d) : dirS S (parent p) = true := by
 obtain ⟨d, hd⟩ := h
 obtain ⟨h1, h2⟩ := zp9 hd
 rw [← h2]
 exact (((zd2 S).1 ht).2.1 d h1).2
end Pl
end Go.Proofs.YtppmlbofhghghaaGreatDoor

