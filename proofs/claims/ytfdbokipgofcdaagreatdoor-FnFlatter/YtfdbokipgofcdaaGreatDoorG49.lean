/- Several texts of one claim in one file: PlainGather, PlainOverC, PlainWalkP, PlainOverT, PlainView, PlainCanon. -/
import Derived.Test.YtfdbokipgofcdaaGreatDoorWSeenI
import Derived.Test.YtfdbokipgofcdaaGreatDoorMapPut
import Derived.Test.YtfdbokipgofcdaaGreatDoorG34
import Derived.Test.YtfdbokipgofcdaaGreatDoorG47
import Derived.Maps.Ext
import Derived.ChangeMaps
namespace Go.Proofs.YtfdbokipgofcdaaGreatDoor
open Go.RowKit Go.Maps
namespace Pl
theorem go_path (p : ByteArray) : ∀ (ns : List (Option Nd)) (k : Nat) (s : Sg), (∀ n, some n ∈ ns → n.path = p) → (s.told = true → s.node.path = p) → (goD k s ns).told = true → (goD k s ns).node.path = p := by
 intro ns
 induction ns with
 | nil => intro k s _ hs h; exact hs h
 | cons x ns ih =>
  intro k s hn hs h
  have hn' : ∀ n, some n ∈ ns → n.path = p := fun n hm => hn n (List.mem_cons_of_mem _ hm)
  cases x with
  | none => exact ih _ _ hn' hs h
  | some n =>
   have h1 := hn n List.mem_cons_self
   have ht : (zb8 s k n).node.path = p := by
    unfold zb8 zj4
    cases hst : s.told
    ·exact h1
    ·exact hs hst
   rw [goD] at h ⊢
   split at h
   ·rw [if_pos (by assumption)]; exact ht
   ·rw [if_neg (by assumption)]; exact ih _ _ hn' (fun _ => ht) h
theorem dec_path {p : ByteArray} {ns : List (Option Nd)} (hn : ∀ n, some n ∈ ns → n.path = p) (h : (decS ns).told = true) : (decS ns).node.path = p := by
 unfold decS upS at h ⊢
 split at h
 ·cases h
 ·rw [if_neg (by assumption)]
  exact go_path p ns 0 Sg.zero hn (fun h2 => by cases h2) h
theorem ns_pathS : ∀ (ab : List Bool) (Ls : List (List Nd)) (p : ByteArray) (n : Nd), some n ∈ nsOf ab Ls p → n.path = p := by
 intro ab
 induction ab with
 | nil => intro Ls p n h; simp [nsOf] at h
 | cons a ab ih =>
  intro Ls p n h
  cases Ls with
  | nil => simp [nsOf] at h
  | cons L Ls =>
   rw [nsOf] at h
   rcases List.mem_cons.1 h with h | h
   ·cases a
    ·simp at h
    ·simp only [if_true] at h
     have h2 := h.symm
     unfold lk at h2
     simpa using List.find?_some h2
   ·exact ih Ls p n h
theorem names_pos {p : ByteArray} (h : ¬ p.size = 0) : 1 ≤ (names p).length := by
 unfold names
 rw [if_neg h]
 exact cut_pos p
theorem seen_dec {Ls : List (List Nd)} {p : ByteArray} (hp : za5 p = true) (hz : ¬ p.size = 0) : ∃ ab, zb2 Ls p = decS (nsOf ab Ls p) := by
 unfold zb2
 rw [zg2 hp]
 have h1 := names_pos hz
 obtain ⟨m, hm⟩ : ∃ m, (names p).length = m + 1 := ⟨(names p).length - 1, by omega⟩
 rw [hm, yp4, yi6, ← hm, List.take_length, zp7]
 exact ⟨_, rfl⟩
theorem zx1 {Ls : List (List Nd)} {p : ByteArray} (hp : za5 p = true) (hz : ¬ p.size = 0) (h : (zb2 Ls p).told = true) : (zb2 Ls p).node.path = p := by
 obtain ⟨ab, e⟩ := seen_dec (Ls := Ls) hp hz
 rw [e] at h ⊢
 exact dec_path (fun n hn => ns_pathS _ _ _ _ hn) h
def zq (Ls : List (List Nd)) (n : Nd) : Prop := ∃ L ∈ Ls, ∃ m ∈ L, (zb2 Ls m.path).told = true ∧ n = (zb2 Ls m.path).node
theorem yh2 {L : List Nd} (h : za2 L = true) {m : Nd} (hm : m ∈ L) : za5 m.path = true ∧ ¬ m.path.size = 0 := by
 simp only [za2, Bool.and_eq_true, decide_eq_true_eq] at h
 have h2 := zu9 L _ _ h.2 m hm
 have h3 := ze2 h2
 exact ⟨h3.1, h3.2⟩
theorem zo3 {Ls : List (List Nd)} (htr : ∀ L ∈ Ls, za2 L = true) {n : Nd} (h : zq Ls n) : (zb2 Ls n.path).told = true ∧ n = (zb2 Ls n.path).node ∧ za5 n.path = true ∧ ¬ n.path.size = 0 := by
 obtain ⟨L, hL, m, hm, h1, h2⟩ := h
 obtain ⟨h3, h4⟩ := yh2 (htr L hL) hm
 have h5 := zx1 h3 h4 h1
 rw [← h2] at h5
 rw [h5]
 exact ⟨h1, h2, h3, h4⟩
theorem told_one {Ls : List (List Nd)} (htr : ∀ L ∈ Ls, za2 L = true) {a b : Nd} (ha : zq Ls a) (hb : zq Ls b) (e : a.path = b.path) : a = b := by
 rw [(zo3 htr ha).2.1, (zo3 htr hb).2.1, e]
end Pl
namespace MapN
structure Gt (Ls : List (List Pl.Nd)) (D : DataW Unit) (C : List Pl.Nd) : Prop where
 reads : Reads D C
 tidy : Tidy D
 apart : C.Pairwise (fun a b => a.path ≠ b.path)
 miss : ∀ p, (∀ m ∈ C, m.path ≠ p) → Maps.has D (key p) = false
 size : Maps.size D = C.length
 sub : ∀ n ∈ C, Pl.zq Ls n
theorem Gt.start (Ls : List (List Pl.Nd)) : Gt Ls (.map []) [] :=
 ⟨⟨fun n hn => (by cases hn), fun p c h => by
  exfalso
  have a1 := (h (dat ⟨p, c.kind + 1, p, 0, 0⟩)).symm
  have a2 := yk2 a1
  have a3 := congrArg Pl.Nd.kind a2
  simp only at a3
  omega⟩, tidy_empty, List.Pairwise.nil, fun _ _ => rfl, rfl, fun n hn => by cases hn⟩
theorem filter_one : ∀ {C : List Pl.Nd} {p : ByteArray} {m : Pl.Nd}, C.Pairwise (fun a b => a.path ≠ b.path) → m ∈ C → m.path = p → (C.filter (fun m => !decide (m.path = p))).length + 1 = C.length := by
 intro C
 induction C with
 | nil => intro p m _ hm; cases hm
 | cons a C ih =>
  intro p m hp hm e
  have hp' := List.pairwise_cons.1 hp
  by_cases ha : a.path = p
  ·rw [List.filter_cons_of_neg (by simp [ha]), List.filter_eq_self.2 (fun x hx => by have := hp'.1 x hx; rw [ha] at this; simpa using fun e2 => this e2.symm)]
   rfl
  ·rw [List.filter_cons_of_pos (by simp [ha]), List.length_cons, List.length_cons]
   rcases List.mem_cons.1 hm with h1 | h1
   ·rw [h1] at e; exact absurd e ha
   ·rw [ih hp'.2 h1 e]
def putC (C : List Pl.Nd) (n : Pl.Nd) : List Pl.Nd := C.filter (fun m => !decide (m.path = n.path)) ++ [n]
theorem Gt.put {Ls : List (List Pl.Nd)} {D : DataW Unit} {C : List Pl.Nd} (h : Gt Ls D C) (htr : ∀ L ∈ Ls, Pl.za2 L = true) {n : Pl.Nd} (hn : Pl.zq Ls n) : Gt Ls (D.put (key n.path) (dat n)) (putC C n) ∧ ∀ m, m ∈ putC C n ↔ m ∈ C ∨ m = n := by
 have hmem : ∀ m, m ∈ putC C n ↔ m ∈ C ∨ m = n := fun m => by
  unfold putC
  rw [List.mem_append, List.mem_filter]
  constructor
  ·rintro (⟨h1, -⟩ | h1)
   ·exact .inl h1
   ·simp at h1; exact .inr h1
  ·rintro (h1 | h1)
   ·by_cases e : m.path = n.path
    ·exact .inr (by simp; exact Pl.told_one htr (h.sub m h1) hn e)
    ·exact .inl ⟨h1, by simpa using e⟩
   ·exact .inr (by simp [h1])
 refine ⟨⟨reads_put h.reads h.tidy.isMap n, h.tidy.put (yh9 _) _, ?_, fun p hp => ?_, ?_, fun m hm => ?_⟩, hmem⟩
 ·unfold putC
  rw [List.pairwise_append]
  refine ⟨h.apart.filter _, List.pairwise_singleton _ _, fun a ha b hb => ?_⟩
  simp at hb
  subst hb
  simpa using (List.mem_filter.1 ha).2
 ·have hne : p ≠ n.path := fun e => hp n ((hmem n).2 (.inr rfl)) e.symm
  rw [has_put_other (yk7 hne)]
  exact h.miss p (fun m hm => hp m ((hmem m).2 (.inl hm)))
 ·rw [size_put h.tidy]
  unfold putC
  rw [List.length_append]
  by_cases hh : ∃ m ∈ C, m.path = n.path
  ·obtain ⟨m, hm, e⟩ := hh
   have h1 := h.reads.has m hm
   rw [e] at h1
   rw [if_pos h1, h.size]
   have hl : (C.filter (fun m => !decide (m.path = n.path))).length + 1 = C.length := filter_one h.apart hm e
   simp; omega
  ·have hno : ∀ m ∈ C, m.path ≠ n.path := fun m hm e => hh ⟨m, hm, e⟩
   rw [if_neg (by rw [h.miss _ hno]; simp), h.size, List.filter_eq_self.2 (fun m hm => by simpa using hno m hm)]
   simp
 ·rcases (hmem m).1 hm with h1 | h1
  ·exact h.sub m h1
  ·rw [h1]; exact hn
end MapN
end Go.Proofs.YtfdbokipgofcdaaGreatDoor

namespace Go.Proofs.YtfdbokipgofcdaaGreatDoor
open Go.RowKit Go.Maps
namespace Pl
structure AllN (Ls : List (List Nd)) (O : List Nd) : Prop where
 rise : O.Pairwise (fun a b => ltP a.path b.path = true)
 mem : ∀ n, n ∈ O ↔ zq Ls n
theorem all_perm {Ls : List (List Nd)} {O C : List Nd} (htr : ∀ L ∈ Ls, za2 L = true) (h : AllN Ls O) (hC : C.Pairwise (fun a b => a.path ≠ b.path)) (hm : ∀ n, n ∈ C ↔ zq Ls n) : O.Perm C := by
 refine (List.perm_ext_iff_of_nodup ?_ (hC.imp (fun {a b} hne e => hne (by rw [e])))).2 fun x => (h.mem x).trans (hm x).symm
 refine List.Pairwise.imp_of_mem (fun {a b} ha _ hlt e => ?_) h.rise
 subst e
 have hp := (zo3 htr ((h.mem a).1 ha)).2.2.1
 rw [zi6 hp hp, zl6] at hlt
 cases hlt
end Pl
end Go.Proofs.YtfdbokipgofcdaaGreatDoor

namespace Go.Proofs.YtfdbokipgofcdaaGreatDoor
namespace Pl
theorem yr7 {q : ByteArray} (h : za5 q = true) : (∀ t ∈ names q, zf5 t = true) ∧ (names q).length ≤ 6 := by
 have e := zp8 q
 rw [zg2 h] at e
 exact e
theorem kid_in {L : List Nd} {q t : ByteArray} (hL : za2 L = true) (ht : t ∈ yb0 q L) : ∃ n ∈ L, names n.path = names q ++ [t] ∧ za5 n.path = true := by
 unfold yb0 at ht
 obtain ⟨n, hn, rfl⟩ := List.mem_map.1 ht
 obtain ⟨hn1, hn2⟩ := List.mem_filter.1 hn
 have h1 := ye8 hL n hn1
 exact ⟨n, hn1, yc3 h1.1 h1.2 (of_decide_eq_true hn2), h1.1⟩
theorem kid_of {L : List Nd} {q t : ByteArray} {n : Nd} (hL : za2 L = true) (hn : n ∈ L) (h : names n.path = names q ++ [t]) : t ∈ yb0 q L := by
 have h1 := ye8 hL n hn
 have hk := yc3 h1.1 h1.2 rfl
 rw [h] at hk
 have h2 := List.append_inj_left' hk rfl
 have h3 := List.append_inj_right' hk rfl
 have h4 : parent n.path = q := path_eq h2.symm
 unfold yb0
 refine List.mem_map.2 ⟨n, List.mem_filter.2 ⟨hn, by simpa using h4⟩, ?_⟩
 simpa using h3.symm
theorem join_path {q t p : ByteArray} (_ : za5 p = true) (h : names p = names q ++ [t]) : zg q t = p := by
 rw [zg, ← h, zp7]
theorem nk_node {Ls : List (List Nd)} (_  : Ls.length ≤ 4) (htr : ∀ L ∈ Ls, za2 L = true) {ks : List Nat} {q t : ByteArray} (ha : At4 Ls ks q) (ht : t ∈ yg8 Ls q ks) : ∃ L ∈ Ls, ∃ n ∈ L, n.path = zg q t ∧ names (zg q t) = names q ++ [t] ∧ za5 (zg q t) = true := by
 obtain ⟨k, hk, hx⟩ := ((yq8 Ls q ks).2 t).1 ht
 have hkl : k < Ls.length := by have := ha.sub.subset hk; rwa [List.mem_range] at this
 have hL : Ls.getD k [] = Ls[k] := by simp [List.getD, hkl]
 rw [hL] at hx
 have hm : Ls[k] ∈ Ls := List.getElem_mem hkl
 obtain ⟨n, hn, h1, h2⟩ := kid_in (htr _ hm) hx
 have e := join_path h2 h1
 rw [e]
 exact ⟨Ls[k], hm, n, hn, rfl, h1, h2⟩
theorem zz {Ls : List (List Nd)} (h4 : Ls.length ≤ 4) (htr : ∀ L ∈ Ls, za2 L = true) {ks : List Nat} {q p t : ByteArray} (ha : At4 Ls ks q) (hp : za5 p = true) (hn : names p = names q ++ [t]) : SameO (zq4 Ls ks p) (zb2 Ls p) := by
 rw [zz5 ha.path hp hn, ha.parts]
 exact child_same h4 htr ha.sub
theorem yn6 {Ls : List (List Nd)} (h4 : Ls.length ≤ 4) (htr : ∀ L ∈ Ls, za2 L = true) {ks : List Nat} {q p t : ByteArray} (ha : At4 Ls ks q) (hp : za5 p = true) (hn : names p = names q ++ [t]) : At4 Ls (zq4 Ls ks p).parts p :=
 ⟨child_sub ha.sub, hp, (zz h4 htr ha hp hn).parts⟩
theorem step_in {Ls : List (List Nd)} (h4 : Ls.length ≤ 4) (htr : ∀ L ∈ Ls, za2 L = true) {ks : List Nat} {q t : ByteArray} (ha : At4 Ls ks q) (ht : t ∈ yg8 Ls q ks) {sub : List Nat → ByteArray → List Nd} {n : Nd} (hn : n ∈ stepO sub Ls ks q t) :
  names (zg q t) = names q ++ [t] ∧ za5 (zg q t) = true ∧ ((zq Ls n ∧ n.path = zg q t) ∨ (At4 Ls (zq4 Ls ks (zg q t)).parts (zg q t) ∧ n ∈ sub (zq4 Ls ks (zg q t)).parts (zg q t))) := by
 obtain ⟨L, hL, m, hm, e1, e2, e3⟩ := nk_node h4 htr ha ht
 refine ⟨e2, e3, ?_⟩
 have hc := zz h4 htr ha e3 e2
 unfold stepO at hn
 split at hn
 ·rename_i hok
  rcases List.mem_cons.1 hn with h | h
  ·left
   have h1 := hc.node hok
   have h2 : (zb2 Ls (zg q t)).told = true := by rw [← hc.told]; exact hok
   have hz : ¬ (zg q t).size = 0 := by
    have := ye8 (htr L hL) m hm
    rw [e1] at this
    exact this.2
   refine ⟨⟨L, hL, m, hm, ?_, ?_⟩, ?_⟩
   ·rw [e1]; exact h2
   ·rw [e1, h, h1]
   ·rw [h, h1]; exact zx1 e3 hz h2
  ·right
   split at h
   ·exact ⟨yn6 h4 htr ha e3 e2, h⟩
   ·cases h
 ·cases hn
theorem yl8 {Ls : List (List Nd)} (h4 : Ls.length ≤ 4) (htr : ∀ L ∈ Ls, za2 L = true) : ∀ (d : Nat) (ks : List Nat) (q : ByteArray), At4 Ls ks q → ∀ n ∈ walkO Ls d ks q, zq Ls n ∧ ∃ t R, names n.path = names q ++ t :: R := by
 intro d
 induction d with
 | zero => intro ks q _ n hn; cases hn
 | succ d ih =>
  intro ks q ha n hn
  rw [walkO] at hn
  obtain ⟨t, ht, hx⟩ := List.mem_flatMap.1 hn
  obtain ⟨e2, e3, h⟩ := step_in h4 htr ha ht hx
  rcases h with ⟨h1, h2⟩ | ⟨h1, h2⟩
  ·exact ⟨h1, t, [], by rw [h2, e2]⟩
  ·obtain ⟨g1, t', R', g2⟩ := ih _ _ h1 n h2
   exact ⟨g1, t, t' :: R', by rw [g2, e2]; simp⟩
theorem less_app (Q A B : List ByteArray) : za9 (Q ++ A) (Q ++ B) = za9 A B := by
 induction Q with
 | nil => rfl
 | cons a Q ih => simp only [List.cons_append, za9, if_true]; exact ih
theorem walk_rise {Ls : List (List Nd)} (h4 : Ls.length ≤ 4) (htr : ∀ L ∈ Ls, za2 L = true) : ∀ (d : Nat) (ks : List Nat) (q : ByteArray), At4 Ls ks q → (walkO Ls d ks q).Pairwise (fun a b => za9 (names a.path) (names b.path) = true) := by
 intro d
 induction d with
 | zero => intro ks q _; exact List.Pairwise.nil
 | succ d ih =>
  intro ks q ha
  rw [walkO, List.pairwise_flatMap]
  have hgrp : ∀ t ∈ yg8 Ls q ks, ∀ x ∈ stepO (walkO Ls d) Ls ks q t, ∃ R, names x.path = names q ++ t :: R := fun t ht x hx => by
   obtain ⟨e2, e3, h⟩ := step_in h4 htr ha ht hx
   rcases h with ⟨h1, h2⟩ | ⟨h1, h2⟩
   ·exact ⟨[], by rw [h2, e2]⟩
   ·obtain ⟨-, t', R', g2⟩ := yl8 h4 htr d _ _ h1 x h2
    exact ⟨t' :: R', by rw [g2, e2]; simp⟩
  refine ⟨fun t ht => ?_, ?_⟩
  ·obtain ⟨L, hL, m, hm, e1, e2, e3⟩ := nk_node h4 htr ha ht
   have hd := yn6 h4 htr ha e3 e2
   have hc := zz h4 htr ha e3 e2
   have hz : ¬ (zg q t).size = 0 := by
    have := ye8 (htr L hL) m hm
    rw [e1] at this
    exact this.2
   unfold stepO
   split
   ·rename_i hok
    refine List.pairwise_cons.2 ⟨fun x hx => ?_, ?_⟩
    ·split at hx
     ·obtain ⟨-, t', R', g2⟩ := yl8 h4 htr d _ _ hd x hx
      have h1 := hc.node hok
      have h2 : (zb2 Ls (zg q t)).told = true := by rw [← hc.told]; exact hok
      rw [h1, zx1 e3 hz h2, g2]
      have := less_app (names (zg q t)) [] (t' :: R')
      rw [List.append_nil] at this
      rw [this]
      rfl
     ·cases hx
    ·split
     ·exact ih _ _ hd
     ·exact List.Pairwise.nil
   ·exact List.Pairwise.nil
  ·refine List.Pairwise.imp_of_mem (fun {t1 t2} ht1 ht2 hlt => ?_) (yq8 Ls q ks).1
   intro x hx y hy
   obtain ⟨R1, e1⟩ := hgrp t1 ht1 x hx
   obtain ⟨R2, e2⟩ := hgrp t2 ht2 y hy
   rw [e1, e2, less_app]
   have hne : t1 ≠ t2 := fun e => by rw [e, lessT_irr] at hlt; cases hlt
   simp only [za9, if_neg hne]
   exact hlt
theorem go_none : ∀ (ns : List (Option Nd)) (k : Nat) (s : Sg), (goD k s ns).told = true → s.told = true ∨ ∃ n, some n ∈ ns := by
 intro ns
 induction ns with
 | nil => intro k s h; exact .inl h
 | cons x ns ih =>
  intro k s h
  cases x with
  | none =>
   rcases ih _ _ h with h1 | ⟨n, h1⟩
   ·exact .inl h1
   ·exact .inr ⟨n, List.mem_cons_of_mem _ h1⟩
  | some n => exact .inr ⟨n, List.mem_cons_self⟩
theorem dec_some {ns : List (Option Nd)} (h : (decS ns).told = true) : ∃ n, some n ∈ ns := by
 unfold decS upS at h
 split at h
 ·cases h
 ·rcases go_none _ _ _ h with h1 | h1
  ·cases h1
  ·exact h1
theorem ns_which : ∀ (ab : List Bool) (Ls : List (List Nd)) (p : ByteArray) (n : Nd), some n ∈ nsOf ab Ls p → ∃ (k : Nat) (L : List Nd), ab[k]? = some true ∧ Ls[k]? = some L ∧ n ∈ L ∧ n.path = p := by
 intro ab
 induction ab with
 | nil => intro Ls p n h; simp [nsOf] at h
 | cons a ab ih =>
  intro Ls p n h
  cases Ls with
  | nil => simp [nsOf] at h
  | cons L Ls =>
   rw [nsOf] at h
   rcases List.mem_cons.1 h with h | h
   ·cases a
    ·simp at h
    ·simp only [if_true] at h
     have h2 := h.symm
     unfold lk at h2
     exact ⟨0, L, rfl, rfl, List.mem_of_find?_eq_some h2, by simpa using List.find?_some h2⟩
   ·obtain ⟨k, M, h1, h2, h3, h5⟩ := ih Ls p n h
    exact ⟨k + 1, M, by simpa using h1, by simpa using h2, h3, h5⟩
theorem parts_mem {ks : List Nat} {k : Nat} (h : (zc7 ks)[k]? = some true) : k ∈ ks := by
 unfold zc7 at h
 rw [List.getElem?_map] at h
 cases hk : (List.range 4)[k]? with
 | none => rw [hk] at h; simp at h
 | some j =>
  rw [hk] at h
  have hlt := (List.getElem?_eq_some_iff.1 hk).1
  rw [List.length_range] at hlt
  rw [List.getElem?_range hlt] at hk
  cases hk
  simpa using h
theorem name_told {Ls : List (List Nd)} (htr : ∀ L ∈ Ls, za2 L = true) {ks : List Nat} {q p t : ByteArray} (ha : At4 Ls ks q) (hp : za5 p = true) (hn : names p = names q ++ [t]) (ht : (zb2 Ls p).told = true) : t ∈ yg8 Ls q ks := by
 rw [zz5 ha.path hp hn, ha.parts] at ht
 obtain ⟨n, h1⟩ := dec_some ht
 obtain ⟨k, L, h2, h3, h5, h6⟩ := ns_which _ _ _ _ h1
 refine ((yq8 Ls q ks).2 t).2 ⟨k, parts_mem h2, ?_⟩
 rw [show Ls.getD k [] = L by simp [List.getD, h3]]
 exact kid_of (htr L (List.mem_of_getElem? h3)) h5 (by rw [h6]; exact hn)
theorem walk_app (Ls : List (List Nd)) (s : Sg) (ps qs : List ByteArray) : zn9 Ls s (ps ++ qs) = zn9 Ls (zn9 Ls s ps) qs := by simp [zn9]
theorem seen_rest {Ls : List (List Nd)} {p p1 : ByteArray} {R : List ByteArray} (hp : za5 p = true) (hp1 : za5 p1 = true) (hn : names p = names p1 ++ R) (hR : R ≠ []) : ∃ ps, ps ≠ [] ∧ zb2 Ls p = zn9 Ls (zb2 Ls p1) ps := by
 unfold zb2
 rw [zg2 hp, zg2 hp1, hn]
 refine ⟨((List.range R.length).map ((names p1).length + ·)).map (fun i => glue ((names p1 ++ R).take (i + 1))), ?_, ?_⟩
 ·intro e
  have := congrArg List.length e
  simp at this
  exact hR this
 ·rw [← walk_app]
  congr 1
  unfold ways
  rw [List.length_append, List.range_add, List.map_append]
  congr 1
  apply List.map_congr_left
  intro i hi
  have hi2 := List.mem_range.1 hi
  rw [List.take_append_of_le_length (by omega)]
theorem walk_complete {Ls : List (List Nd)} (h4 : Ls.length ≤ 4) (htr : ∀ L ∈ Ls, za2 L = true) : ∀ (R : List ByteArray) (d : Nat) (ks : List Nat) (q p : ByteArray), At4 Ls ks q → za5 p = true → names p = names q ++ R → R ≠ [] → R.length ≤ d → (zb2 Ls p).told = true → (zb2 Ls p).node ∈ walkO Ls d ks q := by
 intro R
 induction R with
 | nil => intro d ks q p _ _ _ h; exact absurd rfl h
 | cons t R ih =>
  intro d ks q p ha hp hn _ hd ht
  obtain ⟨d, rfl⟩ : ∃ e, d = e + 1 := ⟨d - 1, by simp at hd; omega⟩
  have hall := yr7 hp
  have hn1 : names (glue (names q ++ [t])) = names q ++ [t] := yo (fun x hx => hall.1 x (by
   rw [hn]
   rcases List.mem_append.1 hx with h | h
   ·exact List.mem_append_left _ h
   ·simp at h; subst h; simp))
  have hp1 : za5 (glue (names q ++ [t])) = true := yv5 (fun x hx => hall.1 x (by
   rw [hn]
   rcases List.mem_append.1 hx with h | h
   ·exact List.mem_append_left _ h
   ·simp at h; subst h; simp)) (by
    have h1 := hall.2
    rw [hn] at h1
    simp at h1 ⊢
    omega)
  have hj : zg q t = glue (names q ++ [t]) := rfl
  generalize glue (names q ++ [t]) = p1 at hn1 hp1 hj
  have hc := zz h4 htr ha hp1 hn1
  rw [walkO]
  by_cases hR : R = []
  ·subst hR
   have e : p = p1 := path_eq (by rw [hn, hn1])
   subst e
   refine List.mem_flatMap.2 ⟨t, name_told htr ha hp1 hn1 ht, ?_⟩
   unfold stepO
   rw [hj]
   have hok : (zq4 Ls ks p).ok = true := by rw [hc.told]; exact ht
   rw [if_pos hok, ← hc.node hok]
   exact List.mem_cons_self
  ·have hn2 : names p = names p1 ++ R := by rw [hn, hn1]; simp
   have hpt : (zq4 Ls ks p1).parts ≠ [] := fun e => by
    obtain ⟨ps, h1, h2⟩ := seen_rest (Ls := Ls) hp hp1 hn2 hR
    rw [h2, walk_none Ls ps _ (by rw [hc.parts, e]) h1] at ht
    cases ht
   obtain ⟨hok, hk1⟩ := hc.dir hpt
   have ht1 : (zb2 Ls p1).told = true := by rw [← hc.told]; exact hok
   refine List.mem_flatMap.2 ⟨t, name_told htr ha hp1 hn1 ht1, ?_⟩
   unfold stepO
   rw [hj, if_pos hok, if_pos hk1]
   refine List.mem_cons_of_mem _ (ih d _ p1 p (yn6 h4 htr ha hp1 hn1) hp hn2 hR (by simp at hd; omega) ht)
theorem at4_root {Ls : List (List Nd)} (h4 : Ls.length ≤ 4) : At4 Ls (List.range Ls.length) ⟨#[]⟩ := by
 have h := zi9 (s := ⟨#[]⟩) rfl
 refine ⟨List.Sublist.refl _, h.1, ?_⟩
 have e : zb2 Ls ⟨#[]⟩ = zv0 Ls.length := by unfold zb2; rw [zg2 h.1, h.2]; rfl
 rw [e]
 obtain h | h | h | h | h : Ls.length = 0 ∨ Ls.length = 1 ∨ Ls.length = 2 ∨ Ls.length = 3 ∨ Ls.length = 4 := by omega
 all_goals (rw [h]; decide)
def allO (Ls : List (List Nd)) : List Nd := walkO Ls 7 (List.range Ls.length) ⟨#[]⟩
theorem yg5 {Ls : List (List Nd)} (h4 : Ls.length ≤ 4) (htr : ∀ L ∈ Ls, za2 L = true) : AllN Ls (allO Ls) := by
 have ha := at4_root h4
 have hs := yl8 h4 htr 7 _ _ ha
 refine ⟨List.Pairwise.imp_of_mem (fun {a b} h1 h2 h => ?_) (walk_rise h4 htr 7 _ _ ha), fun n => ⟨fun h => (hs n h).1, fun h => ?_⟩⟩
 ·have p1 := (zo3 htr (hs a h1).1).2.2.1
  have p2 := (zo3 htr (hs b h2).1).2.2.1
  rw [zi6 p1 p2]
  exact h
 ·obtain ⟨t1, t2, t3, t5⟩ := zo3 htr h
  have h0 : names (⟨#[]⟩ : ByteArray) = [] := (zi9 rfl).2
  have := walk_complete h4 htr (names n.path) 7 _ _ n.path ha t3 (by rw [h0]; rfl) (yl5 t5) (by have := (yr7 t3).2; omega) t1
  rw [← t2] at this
  exact this
end Pl
end Go.Proofs.YtfdbokipgofcdaaGreatDoor

namespace Go.Proofs.YtfdbokipgofcdaaGreatDoor
namespace Pl
theorem mark_node {n : Nd} {m : Int} (h : zb6 n = true) (hk : n.kind = 1) (hm : 0 ≤ m ∧ m ≤ 8) : zb6 ⟨n.path, n.kind, n.data, n.time, m⟩ = true := by
 unfold zb6 at h ⊢
 simp only [Bool.and_eq_true, decide_eq_true_eq] at h ⊢
 refine ⟨⟨h.1.1, hm⟩, ?_⟩
 have h2 := h.2
 unfold zm5 at h2 ⊢
 simp only [hk] at h2 ⊢
 simpa using h2
theorem go_node : ∀ (ns : List (Option Nd)) (k : Nat) (s : Sg), (∀ n, some n ∈ ns → zb6 n = true) → (s.told = true → zb6 s.node = true ∧ s.node.kind = 1) → (goD k s ns).told = true → zb6 (goD k s ns).node = true := by
 intro ns
 induction ns with
 | nil => intro k s _ hs h; exact (hs h).1
 | cons x ns ih =>
  intro k s hn hs h
  have hn' : ∀ n, some n ∈ ns → zb6 n = true := fun n hm => hn n (List.mem_cons_of_mem _ hm)
  cases x with
  | none => exact ih _ _ hn' hs h
  | some n =>
   have h1 := hn n List.mem_cons_self
   have hb := zh3 h1
   have ht : zb6 (zb8 s k n).node = true ∧ (n.kind = 1 → (zb8 s k n).node.kind = 1) := by
    unfold zb8 zj4
    cases hst : s.told
    ·simp only [Bool.false_eq_true, if_false]
     rw [Int.max_self]
     exact ⟨h1, fun h => h⟩
    ·obtain ⟨h2, h3⟩ := hs hst
     have hb2 := zh3 h2
     simp only [if_true]
     exact ⟨mark_node h2 h3 (by omega), fun _ => h3⟩
   rw [goD] at h ⊢
   split at h
   ·rw [if_pos (by assumption)]; exact ht.1
   ·rename_i hst
    rw [if_neg hst]
    refine ih _ _ hn' (fun _ => ⟨ht.1, ht.2 ?_⟩) h
    simp [zh8] at hst
    exact hst.1
theorem up_node {s : Sg} (h : s.told = true → zb6 s.node = true) (ht : (upS s).told = true) : zb6 (upS s).node = true := by
 unfold upS at ht ⊢
 split at ht
 ·cases ht
 ·rename_i hz
  rw [if_neg hz]
  have h1 := h ht
  have hb := zh3 h1
  unfold zb6 at h1 ⊢
  simp only [Bool.and_eq_true, decide_eq_true_eq] at h1 ⊢
  refine ⟨⟨h1.1.1, by omega⟩, ?_⟩
  have h2 := h1.2
  unfold zm5 at h2 ⊢
  simp only at hz h2 ⊢
  by_cases k0 : s.node.kind = 0
  ·simp only [k0, if_true, Bool.and_eq_true, decide_eq_true_eq, true_and] at hz h2 ⊢
   exact ⟨h2.1, by omega⟩
  ·by_cases k1 : s.node.kind = 1
   ·simp only [if_neg k0, if_pos k1] at h2 ⊢
    exact h2
   ·simp only [if_neg k0, if_neg k1] at h2 ⊢
    split at h2
    ·rename_i k2
     rw [if_pos k2]
     simp only [decide_eq_true_eq] at h2 ⊢
     omega
    ·cases h2
theorem dec_node {ns : List (Option Nd)} (hn : ∀ n, some n ∈ ns → zb6 n = true) (ht : (decS ns).told = true) : zb6 (decS ns).node = true :=
 up_node (fun h => go_node ns 0 Sg.zero hn (fun h2 => by cases h2) h) ht
theorem node_told {Ls : List (List Nd)} (htr : ∀ L ∈ Ls, za2 L = true) {p : ByteArray} (hp : za5 p = true) (hz : ¬ p.size = 0) (ht : (zb2 Ls p).told = true) : zb6 (zb2 Ls p).node = true := by
 obtain ⟨ab, e⟩ := seen_dec (Ls := Ls) hp hz
 rw [e] at ht ⊢
 refine dec_node (fun n hn => ?_) ht
 obtain ⟨L, hL, hm⟩ := ns_mem _ _ _ _ hn
 have h1 := htr L hL
 simp only [za2, Bool.and_eq_true, decide_eq_true_eq] at h1
 exact zu9 L _ _ h1.2 n hm
theorem told_of {Ls : List (List Nd)} {p : ByteArray} (hp : za5 p = true) (hz : ¬ p.size = 0) (ht : (zb2 Ls p).told = true) : zq Ls (zb2 Ls p).node := by
 obtain ⟨ab, e⟩ := seen_dec (Ls := Ls) hp hz
 have h1 := ht
 rw [e] at h1
 obtain ⟨n, hn⟩ := dec_some h1
 obtain ⟨k, L, -, h3, h5, h6⟩ := ns_which _ _ _ _ hn
 exact ⟨L, List.mem_of_getElem? h3, n, h5, by rw [h6]; exact ht, by rw [h6]⟩
theorem yq0 {p : ByteArray} (hp : za5 p = true) : za5 (parent p) = true := by
 have h := yr7 hp
 rw [ys4]
 exact yv5 (fun t ht => h.1 t (List.dropLast_subset _ ht)) (by rw [List.length_dropLast]; omega)
theorem at4_all {Ls : List (List Nd)} (h4 : Ls.length ≤ 4) (htr : ∀ L ∈ Ls, za2 L = true) : ∀ (N : Nat) (p : ByteArray), za5 p = true → (names p).length = N → ∃ ks, At4 Ls ks p ∧ (¬ p.size = 0 → ks ≠ [] → (zb2 Ls p).told = true ∧ (zb2 Ls p).node.kind = 1) := by
 intro N
 induction N with
 | zero =>
  intro p _ hN
  have h0 : names p = [] := List.eq_nil_of_length_eq_zero hN
  have e : p = ⟨#[]⟩ := path_eq (by rw [h0, (zi9 (s := ⟨#[]⟩) rfl).2])
  subst e
  exact ⟨_, at4_root h4, fun h => absurd rfl h⟩
 | succ N ih =>
  intro p hp hN
  have hz : p.size ≠ 0 := fun h => by rw [(zi9 h).2] at hN; cases hN
  have hn := yc3 hp hz rfl
  obtain ⟨ks, ha, -⟩ := ih (parent p) (yq0 hp) (by rw [hn, List.length_append, List.length_singleton] at hN; omega)
  have hc := zz h4 htr ha hp hn
  refine ⟨_, yn6 h4 htr ha hp hn, fun _ hk => ?_⟩
  obtain ⟨h1, h2⟩ := hc.dir hk
  exact ⟨by rw [← hc.told]; exact h1, by rw [← hc.node h1]; exact h2⟩
theorem yg0 {Ls : List (List Nd)} (h4 : Ls.length ≤ 4) (htr : ∀ L ∈ Ls, za2 L = true) (h40 : (allO Ls).length ≤ 40) : za2 (allO Ls) = true := by
 have ha := yg5 h4 htr
 have hr := walk_rise h4 htr 7 _ _ (at4_root h4)
 refine (zx _).2 ⟨h40, fun n hn => ?_, hr⟩
 obtain ⟨h1, h2, h3, h5⟩ := zo3 htr ((ha.mem n).1 hn)
 refine ⟨by rw [h2]; exact node_told htr h3 h5 h1, (dirS_iff hr _).2 ?_⟩
 by_cases hq : (parent n.path).size = 0
 ·exact .inl hq
 ·right
  have hpq := yq0 h3
  have hnm := yc3 h3 h5 rfl
  obtain ⟨ks, ha4, hd⟩ := at4_all h4 htr _ (parent n.path) hpq rfl
  have hks : ks ≠ [] := fun e => by
   obtain ⟨ps, g1, g2⟩ := seen_rest (Ls := Ls) h3 hpq hnm (by simp)
   rw [g2, walk_none Ls ps _ (by rw [ha4.parts, e]) g1] at h1
   cases h1
  obtain ⟨g1, g2⟩ := hd hq hks
  exact ⟨_, (ha.mem _).2 (told_of hpq hq g1), zx1 hpq hq g1, g2⟩
end Pl
end Go.Proofs.YtfdbokipgofcdaaGreatDoor

namespace Go.Proofs.YtfdbokipgofcdaaGreatDoor
namespace Pl
def zq0 : Option (List (List Nd)) → Option (List Nd)
 | none => none
 | some Ls => if (allO Ls).length ≤ 40 then some (allO Ls) else none
def ze5 : Fx → Option (List (List Nd))
 | .nil => some []
 | .cons L k m => match (if k.len = 0 then some L else zq0 (ze5 k)), ze5 m with
  | some V, some R => some (V :: R)
  | _, _ => none
def zl7 (L : List Nd) (k : Fx) : Option (List Nd) := if k.len = 0 then some L else zq0 (ze5 k)
theorem zr3 (L : List Nd) (k m : Fx) : ze5 (.cons L k m) = match zl7 L k, ze5 m with
  | some V, some R => some (V :: R)
  | _, _ => none := rfl
theorem view_leaf {L : List Nd} {k : Fx} (h : k.len = 0) : zl7 L k = some L := if_pos h
theorem yc0 {L : List Nd} {k : Fx} (h : k.len ≠ 0) : zl7 L k = zq0 (ze5 k) := if_neg h
theorem over_ok {Ls : List (List Nd)} {V : List Nd} (h4 : Ls.length ≤ 4) (htr : ∀ L ∈ Ls, za2 L = true) (h : zq0 (some Ls) = some V) : za2 V = true := by
 rw [show zq0 (some Ls) = if (allO Ls).length ≤ 40 then some (allO Ls) else none from rfl] at h
 split at h
 ·cases h; exact yg0 h4 htr (by assumption)
 ·cases h
theorem ym2 (X : Fx) : ∀ (Ls : List (List Nd)), X.okX → ze5 X = some Ls → Ls.length = X.len ∧ ∀ L ∈ Ls, za2 L = true := by
 induction X with
 | nil => intro Ls _ h; cases h; exact ⟨rfl, fun L hL => by cases hL⟩
 | cons L k m ih1 ih2 =>
  intro Ls hx h
  obtain ⟨h1, h2, h3, h5, h6⟩ := hx
  rw [zr3] at h
  cases hv : zl7 L k with
  | none => rw [hv] at h; cases h
  | some V =>
   rw [hv] at h
   cases hr : ze5 m with
   | none => rw [hr] at h; cases h
   | some R =>
    rw [hr] at h
    cases h
    obtain ⟨g1, g2⟩ := ih2 R h6 hr
    refine ⟨by rw [List.length_cons, g1]; rfl, fun M hM => ?_⟩
    rcases List.mem_cons.1 hM with rfl | hM
    ·by_cases hk : k.len = 0
     ·rw [view_leaf hk] at hv; cases hv; exact h1
     ·rw [yc0 hk] at hv
      cases hw : ze5 k with
      | none => rw [hw] at hv; cases hv
      | some Ks =>
       rw [hw] at hv
       obtain ⟨g3, g4⟩ := ih1 Ks h5 hw
       exact over_ok (by omega) g4 hv
    ·exact g2 M hM
theorem view_ok {L : List Nd} {k : Fx} {V : List Nd} (hx : (Fx.cons L k .nil).okX) (h : zl7 L k = some V) : za2 V = true := by
 have h2 : ze5 (.cons L k .nil) = some [V] := by rw [zr3, h]; rfl
 exact (ym2 _ _ hx h2).2 V List.mem_cons_self
def ya9 (K F : Fx) (Ls : List (List Nd)) : Prop := ze5 K = (ze5 F).map (fun R => Ls ++ R)
theorem seenF_start (K : Fx) : ya9 K K [] := by
 unfold ya9
 cases ze5 K <;> rfl
theorem seenF_step {K m k : Fx} {L V : List Nd} {Ls : List (List Nd)} (h : ya9 K (.cons L k m) Ls) (hv : zl7 L k = some V) : ya9 K m (Ls ++ [V]) := by
 unfold ya9 at h ⊢
 rw [h, zr3, hv]
 cases ze5 m with
 | none => rfl
 | some R => simp
theorem seenF_fail {K m k : Fx} {L : List Nd} {Ls : List (List Nd)} (h : ya9 K (.cons L k m) Ls) (hv : zl7 L k = none) : ze5 K = none := by
 unfold ya9 at h
 rw [h, zr3, hv]
 rfl
theorem seenF_end {K : Fx} {Ls : List (List Nd)} (h : ya9 K .nil Ls) : ze5 K = some Ls := by
 unfold ya9 at h
 rw [h]
 simp [ze5]
end Pl
end Go.Proofs.YtfdbokipgofcdaaGreatDoor

namespace Go.Proofs.YtfdbokipgofcdaaGreatDoor
open Go.RowKit Go.Maps
namespace MapN
def Str (D : DataW Unit) : Prop := ∃ es, D = .map es ∧ es.Pairwise (fun p q => p.1.before q.1 = true) ∧ ∀ p ∈ es, (∃ s, p.1 = .string s) ∧ ∃ n, p.2 = dat n
theorem str_put {D : DataW Unit} (h : Str D) (n : Pl.Nd) : Str (D.put (key n.path) (dat n)) := by
 obtain ⟨es, rfl, h1, h2⟩ := h
 refine ⟨_, rfl, ?_, fun x hx => ?_⟩
 ·refine ChangeMaps.insert_sorted (x := (key n.path, dat n)) ⟨_, rfl⟩ _ (h1.filter _) (fun x hx => (h2 x (List.mem_filter.1 hx).1).1) (fun x hx => ?_)
  have := (List.mem_filter.1 hx).2
  intro e
  rw [e, WideAt.sameKey_self (yh9 n.path)] at this
  cases this
 ·rcases ChangeMaps.mem_insert_iff.1 hx with rfl | hx
  ·exact ⟨⟨_, rfl⟩, _, rfl⟩
  ·exact h2 x (List.mem_filter.1 hx).1
theorem str_fold : ∀ (C : List Pl.Nd) (D : DataW Unit), Str D → Str (C.foldl (fun D n => D.put (key n.path) (dat n)) D) := by
 intro C
 induction C with
 | nil => intro D h; exact h
 | cons n C ih => intro D h; exact ih _ (str_put h n)
theorem str_mapOf (C : List Pl.Nd) : Str (mapOf C) := str_fold C (.map []) ⟨[], rfl, List.Pairwise.nil, fun _ h => by cases h⟩
theorem Str.canon {D : DataW Unit} (h : Str D) : Canon D := by
 obtain ⟨es, e, h1, h2⟩ := h
 refine ⟨es, e, h1, fun p hp => ?_⟩
 obtain ⟨s, hs⟩ := (h2 p hp).1
 rw [hs]
 simp [WideAt.IsKeyLit]
theorem own_str {w : World} {b n : Nat} {D : DataW Unit} (h : w.ownsMap Tryz.prog 9 MapN.elem b n D) : Str D := by
 have hc := h.canon law
 obtain ⟨es, clock, -, F, -, rfl⟩ := h
 obtain ⟨es2, e2, h1, -⟩ := hc
 refine ⟨_, rfl, ?_, fun p hp => ?_⟩
 ·have := DataW.map.inj e2
  rw [this]; exact h1
 ·obtain ⟨x, hx, rfl⟩ := List.mem_map.1 (mem_sorted.1 hp)
  obtain ⟨y, hy⟩ := F.reads x hx
  rw [WideElems.rg_of hy]
  have hk := WideElems.rd_key hy
  unfold WideElems.rd at hy
  simp only [Option.bind_eq_some_iff, Option.map_eq_some_iff] at hy
  obtain ⟨kl, h3, ⟨d, ps⟩, h4, rfl⟩ := hy
  have hs : ∃ s, kl = .string s := by
   generalize x.key = kv at h3
   cases kv <;> simp [keyOf, Tryz.underlying9, mapKey] at h3
   exact ⟨_, h3.2.symm⟩
  obtain ⟨n, -, hn⟩ := yo4 h4
  exact ⟨hs, n, hn⟩
theorem Str.has {D : DataW Unit} (h : Str D) {k : Lit} (hk : Maps.has D k = true) : ∃ p n, k = key p ∧ ∀ z, D.atKey k z = dat n := by
 obtain ⟨es, rfl, h1, h2⟩ := h
 obtain ⟨x, hx, hs⟩ := List.any_eq_true.1 hk
 have e := WideAt.sameKey_eq hs
 obtain ⟨⟨s, h3⟩, n, h4⟩ := h2 x hx
 have hkey : WideAt.IsKeyLit x.1 := by rw [h3]; simp [WideAt.IsKeyLit]
 refine ⟨⟨⟨s⟩⟩, n, by rw [← e, h3]; rfl, fun z => ?_⟩
 rw [← e, ← h4]
 exact WideAt.atKey_mem z hkey (apart_of_rising h1) hx
theorem own_mapOf {w : World} {b N : Nat} {D : DataW Unit} {C O : List Pl.Nd} (h : w.ownsMap Tryz.prog 9 MapN.elem b N D) (g : Reads D C) (hO : O.Pairwise (fun a b => a.path ≠ b.path)) (hm : ∀ n, n ∈ C ↔ n ∈ O) : D = mapOf O := by
 have hs := own_str h
 have ho := str_mapOf O
 have hro := fun (n : Pl.Nd) (hn : n ∈ O) => at_yes (C := O) (n := n) hO hn
 have key1 : ∀ k, Maps.has D k = true → ∃ n ∈ C, k = key n.path ∧ ∀ z, D.atKey k z = dat n := fun k hk => by
  obtain ⟨p, n, rfl, hz⟩ := hs.has hk
  obtain ⟨h1, rfl⟩ := g.ent p n hz
  exact ⟨n, h1, rfl, hz⟩
 refine ext hs.canon ho.canon (fun k => ?_) (fun k z hk => ?_)
 ·cases hk : Maps.has D k
  ·cases hk2 : Maps.has (mapOf O) k
   ·rfl
   ·obtain ⟨p, n, rfl, hz⟩ := ho.has hk2
    by_cases hp : ∃ m ∈ O, m.path = p
    ·obtain ⟨m, hm1, rfl⟩ := hp
     rw [g.has m ((hm m).2 hm1)] at hk
     cases hk
    ·rw [has_no (fun n hn e => hp ⟨n, hn, e⟩)] at hk2
     cases hk2
  ·obtain ⟨n, hn, rfl, -⟩ := key1 k hk
   exact (hro n ((hm n).1 hn)).1.symm
 ·obtain ⟨n, hn, rfl, hz⟩ := key1 k hk
  rw [hz, (hro n ((hm n).1 hn)).2]
theorem is_mapOf {w : World} {b N : Nat} {Ls : List (List Pl.Nd)} {D : DataW Unit} {C O : List Pl.Nd} (h : w.ownsMap Tryz.prog 9 MapN.elem b N D) (g : Gt Ls D C) (hO : O.Pairwise (fun a b => a.path ≠ b.path)) (hm : ∀ n, n ∈ C ↔ n ∈ O) : D = mapOf O := own_mapOf h g.reads hO hm
end MapN
end Go.Proofs.YtfdbokipgofcdaaGreatDoor

