/- Several texts of one claim in one file: PlainGather, PlainOverC, PlainWalkP, PlainOverT, PlainView, PlainNX. -/
import Derived.Test.YtppmlbofhghghaaGreatDoorG05
import Derived.Test.YtppmlbofhghghaaGreatDoorG10
import Derived.Test.YtppmlbofhghghaaGreatDoorG01
import Derived.Test.YtppmlbofhghghaaGreatDoorPlainAtS
import Derived.Test.YtppmlbofhghghaaGreatDoorPlainWalkO
namespace Go.Proofs.YtppmlbofhghghaaGreatDoor
open Go.RowKit Go.Maps
namespace Pl
theorem go_path (p : ByteArray) : ∀ (ns : List (Option Nd)) (k : Nat) (s : Sg), (∀ n, some n ∈ ns → n.path = p) → (s.told = true → s.node.path = p) → (goD k s ns).told = true → (goD k s ns).node.path = p := by
 intro ns
 induction ns with
 | nil => intro k s _ hs h; exact hs h
 | cons x ns ih =>
  intro k s hn hs h
  have hn' : ∀ n, some n ∈ ns → n.path = p := fun n hm => hn n (List.mem_cons_of_mem _ hm)
  cases x with
  | none => exact ih _ _ hn' hs h
  | some n =>
   have h1 := hn n List.mem_cons_self
   have ht : (zh5 s k n).node.path = p := by
    unfold zh5 zm1
    cases hst : s.told
    ·exact h1
    ·exact hs hst
   rw [goD] at h ⊢
   split at h
   ·rw [if_pos (by assumption)]; exact ht
   ·rw [if_neg (by assumption)]; exact ih _ _ hn' (fun _ => ht) h
theorem dec_path {p : ByteArray} {ns : List (Option Nd)} (hn : ∀ n, some n ∈ ns → n.path = p) (h : (decS ns).told = true) : (decS ns).node.path = p := by
 unfold decS upS at h ⊢
 split at h
 ·cases h
 ·rw [if_neg (by assumption)]
  exact go_path p ns 0 Sg.zero hn (fun h2 => by cases h2) h
theorem ns_pathS : ∀ (ab : List Bool) (Ls : List (List Nd)) (p : ByteArray) (n : Nd), some n ∈ nsOf ab Ls p → n.path = p := by
 intro ab
 induction ab with
 | nil => intro Ls p n h; simp [nsOf] at h
 | cons a ab ih =>
  intro Ls p n h
  cases Ls with
  | nil => simp [nsOf] at h
  | cons L Ls =>
   rw [nsOf] at h
   rcases List.mem_cons.1 h with h | h
   ·cases a
    ·simp at h
    ·simp only [if_true] at h
     have h2 := h.symm
     unfold lk at h2
     simpa using List.find?_some h2
   ·exact ih Ls p n h
theorem names_pos {p : ByteArray} (h : ¬ p.size = 0) : 1 ≤ (names p).length := by
 unfold names
 rw [if_neg h]
 exact cut_pos p
theorem seen_dec {Ls : List (List Nd)} {p : ByteArray} (hp : za3 p = true) (hz : ¬ p.size = 0) : ∃ ab, zd0 Ls p = decS (nsOf ab Ls p) := by
 unfold zd0
 rw [zc8 hp]
 have h1 := names_pos hz
 obtain ⟨m, hm⟩ : ∃ m, (names p).length = m + 1 := ⟨(names p).length - 1, by omega⟩
 rw [hm, yf3, ye2, ← hm, List.take_length, zo3]
 exact ⟨_, rfl⟩
theorem zv5 {Ls : List (List Nd)} {p : ByteArray} (hp : za3 p = true) (hz : ¬ p.size = 0) (h : (zd0 Ls p).told = true) : (zd0 Ls p).node.path = p := by
 obtain ⟨ab, e⟩ := seen_dec (Ls := Ls) hp hz
 rw [e] at h ⊢
 exact dec_path (fun n hn => ns_pathS _ _ _ _ hn) h
def zp5 (Ls : List (List Nd)) (n : Nd) : Prop := ∃ L ∈ Ls, ∃ m ∈ L, (zd0 Ls m.path).told = true ∧ n = (zd0 Ls m.path).node
theorem zx9 {L : List Nd} (h : za5 L = true) {m : Nd} (hm : m ∈ L) : za3 m.path = true ∧ ¬ m.path.size = 0 := by
 simp only [za5, Bool.and_eq_true, decide_eq_true_eq] at h
 have h2 := zs9 L _ _ h.2 m hm
 have h3 := za9 h2
 exact ⟨h3.1, h3.2⟩
theorem zr9 {Ls : List (List Nd)} (htr : ∀ L ∈ Ls, za5 L = true) {n : Nd} (h : zp5 Ls n) : (zd0 Ls n.path).told = true ∧ n = (zd0 Ls n.path).node ∧ za3 n.path = true ∧ ¬ n.path.size = 0 := by
 obtain ⟨L, hL, m, hm, h1, h2⟩ := h
 obtain ⟨h3, h4⟩ := zx9 (htr L hL) hm
 have h5 := zv5 h3 h4 h1
 rw [← h2] at h5
 rw [h5]
 exact ⟨h1, h2, h3, h4⟩
theorem told_one {Ls : List (List Nd)} (htr : ∀ L ∈ Ls, za5 L = true) {a b : Nd} (ha : zp5 Ls a) (hb : zp5 Ls b) (e : a.path = b.path) : a = b := by
 rw [(zr9 htr ha).2.1, (zr9 htr hb).2.1, e]
end Pl
namespace MapN
structure Gt (Ls : List (List Pl.Nd)) (D : DataW Unit) (C : List Pl.Nd) : Prop where
 reads : Reads D C
 tidy : Tidy D
 apart : C.Pairwise (fun a b => a.path ≠ b.path)
 miss : ∀ p, (∀ m ∈ C, m.path ≠ p) → Maps.has D (key p) = false
 size : Maps.size D = C.length
 sub : ∀ n ∈ C, Pl.zp5 Ls n
theorem Gt.start (Ls : List (List Pl.Nd)) : Gt Ls (.map []) [] :=
 ⟨⟨fun n hn => (by cases hn), fun p c h => by
  exfalso
  have a1 := (h (dat ⟨p, c.kind + 1, p, 0, 0⟩)).symm
  have a2 := zt1 a1
  have a3 := congrArg Pl.Nd.kind a2
  simp only at a3
  omega⟩, tidy_empty, List.Pairwise.nil, fun _ _ => rfl, rfl, fun n hn => by cases hn⟩
theorem filter_one : ∀ {C : List Pl.Nd} {p : ByteArray} {m : Pl.Nd}, C.Pairwise (fun a b => a.path ≠ b.path) → m ∈ C → m.path = p → (C.filter (fun m => !decide (m.path = p))).length + 1 = C.length := by
 intro C
 induction C with
 | nil => intro p m _ hm; cases hm
 | cons a C ih =>
  intro p m hp hm e
  have hp' := List.pairwise_cons.1 hp
  by_cases ha : a.path = p
  ·rw [List.filter_cons_of_neg (by simp [ha]), List.filter_eq_self.2 (fun x hx => by have := hp'.1 x hx; rw [ha] at this; simpa using fun e2 => this e2.symm)]
   rfl
  ·rw [List.filter_cons_of_pos (by simp [ha]), List.length_cons, List.length_cons]
   rcases List.mem_cons.1 hm with h1 | h1
   ·rw [h1] at e; exact absurd e ha
   ·rw [ih hp'.2 h1 e]
def putC (C : List Pl.Nd) (n : Pl.Nd) : List Pl.Nd := C.filter (fun m => !decide (m.path = n.path)) ++ [n]
theorem Gt.put {Ls : List (List Pl.Nd)} {D : DataW Unit} {C : List Pl.Nd} (h : Gt Ls D C) (htr : ∀ L ∈ Ls, Pl.za5 L = true) {n : Pl.Nd} (hn : Pl.zp5 Ls n) : Gt Ls (D.put (key n.path) (dat n)) (putC C n) ∧ ∀ m, m ∈ putC C n ↔ m ∈ C ∨ m = n := by
 have hmem : ∀ m, m ∈ putC C n ↔ m ∈ C ∨ m = n := fun m => by
  unfold putC
  rw [List.mem_append, List.mem_filter]
  constructor
  ·rintro (⟨h1, -⟩ | h1)
   ·exact .inl h1
   ·simp at h1; exact .inr h1
  ·rintro (h1 | h1)
   ·by_cases e : m.path = n.path
    ·exact .inr (by simp; exact Pl.told_one htr (h.sub m h1) hn e)
    ·exact .inl ⟨h1, by simpa using e⟩
   ·exact .inr (by simp [h1])
 refine ⟨⟨zs3 h.reads h.tidy.isMap n, h.tidy.put (ye0 _) _, ?_, fun p hp => ?_, ?_, fun m hm => ?_⟩, hmem⟩
 ·unfold putC
  rw [List.pairwise_append]
  refine ⟨h.apart.filter _, List.pairwise_singleton _ _, fun a ha b hb => ?_⟩
  simp at hb
  subst hb
  simpa using (List.mem_filter.1 ha).2
 ·have hne : p ≠ n.path := fun e => hp n ((hmem n).2 (.inr rfl)) e.symm
  rw [has_put_other (ya2 hne)]
  exact h.miss p (fun m hm => hp m ((hmem m).2 (.inl hm)))
 ·rw [size_put h.tidy]
  unfold putC
  rw [List.length_append]
  by_cases hh : ∃ m ∈ C, m.path = n.path
  ·obtain ⟨m, hm, e⟩ := hh
   have h1 := h.reads.has m hm
   rw [e] at h1
   rw [if_pos h1, h.size]
   have hl : (C.filter (fun m => !decide (m.path = n.path))).length + 1 = C.length := filter_one h.apart hm e
   simp; omega
  ·have hno : ∀ m ∈ C, m.path ≠ n.path := fun m hm e => hh ⟨m, hm, e⟩
   rw [if_neg (by rw [h.miss _ hno]; simp), h.size, List.filter_eq_self.2 (fun m hm => by simpa using hno m hm)]
   simp
 ·rcases (hmem m).1 hm with h1 | h1
  ·exact h.sub m h1
  ·rw [h1]; exact hn
end MapN
end Go.Proofs.YtppmlbofhghghaaGreatDoor

namespace Go.Proofs.YtppmlbofhghghaaGreatDoor
open Go.RowKit Go.Maps
namespace Pl
structure AllN (Ls : List (List Nd)) (O : List Nd) : Prop where
 rise : O.Pairwise (fun a b => ltP a.path b.path = true)
 mem : ∀ n, n ∈ O ↔ zp5 Ls n
theorem all_perm {Ls : List (List Nd)} {O C : List Nd} (htr : ∀ L ∈ Ls, za5 L = true) (h : AllN Ls O) (hC : C.Pairwise (fun a b => a.path ≠ b.path)) (hm : ∀ n, n ∈ C ↔ zp5 Ls n) : O.Perm C := by
 refine (List.perm_ext_iff_of_nodup ?_ (hC.imp (fun {a b} hne e => hne (by rw [e])))).2 fun x => (h.mem x).trans (hm x).symm
 refine List.Pairwise.imp_of_mem (fun {a b} ha _ hlt e => ?_) h.rise
 subst e
 have hp := (zr9 htr ((h.mem a).1 ha)).2.2.1
 rw [zd8 hp hp, zk8] at hlt
 cases hlt
end Pl
end Go.Proofs.YtppmlbofhghghaaGreatDoor

namespace Go.Proofs.YtppmlbofhghghaaGreatDoor
namespace Pl
theorem ya1 {q : ByteArray} (h : za3 q = true) : (∀ t ∈ names q, ze5 t = true) ∧ (names q).length ≤ 6 := by
 have e := zg4 q
 rw [zc8 h] at e
 exact e
theorem kid_in {L : List Nd} {q t : ByteArray} (hL : za5 L = true) (ht : t ∈ zh4 q L) : ∃ n ∈ L, names n.path = names q ++ [t] ∧ za3 n.path = true := by
 unfold zh4 at ht
 obtain ⟨n, hn, rfl⟩ := List.mem_map.1 ht
 obtain ⟨hn1, hn2⟩ := List.mem_filter.1 hn
 have h1 := yb1 hL n hn1
 exact ⟨n, hn1, ye7 h1.1 h1.2 (of_decide_eq_true hn2), h1.1⟩
theorem kid_of {L : List Nd} {q t : ByteArray} {n : Nd} (hL : za5 L = true) (hn : n ∈ L) (h : names n.path = names q ++ [t]) : t ∈ zh4 q L := by
 have h1 := yb1 hL n hn
 have hk := ye7 h1.1 h1.2 rfl
 rw [h] at hk
 have h2 := List.append_inj_left' hk rfl
 have h3 := List.append_inj_right' hk rfl
 have h4 : parent n.path = q := path_eq h2.symm
 unfold zh4
 refine List.mem_map.2 ⟨n, List.mem_filter.2 ⟨hn, by simpa using h4⟩, ?_⟩
 simpa using h3.symm
theorem join_path {q t p : ByteArray} (_ : za3 p = true) (h : names p = names q ++ [t]) : ze4 q t = p := by
 rw [ze4, ← h, zo3]
theorem nk_node {Ls : List (List Nd)} (_  : Ls.length ≤ 4) (htr : ∀ L ∈ Ls, za5 L = true) {ks : List Nat} {q t : ByteArray} (ha : At4 Ls ks q) (ht : t ∈ zh0 Ls q ks) : ∃ L ∈ Ls, ∃ n ∈ L, n.path = ze4 q t ∧ names (ze4 q t) = names q ++ [t] ∧ za3 (ze4 q t) = true := by
 obtain ⟨k, hk, hx⟩ := ((yl3 Ls q ks).2 t).1 ht
 have hkl : k < Ls.length := by have := ha.sub.subset hk; rwa [List.mem_range] at this
 have hL : Ls.getD k [] = Ls[k] := by simp [List.getD, hkl]
 rw [hL] at hx
 have hm : Ls[k] ∈ Ls := List.getElem_mem hkl
 obtain ⟨n, hn, h1, h2⟩ := kid_in (htr _ hm) hx
 have e := join_path h2 h1
 rw [e]
 exact ⟨Ls[k], hm, n, hn, rfl, h1, h2⟩
theorem zt4 {Ls : List (List Nd)} (h4 : Ls.length ≤ 4) (htr : ∀ L ∈ Ls, za5 L = true) {ks : List Nat} {q p t : ByteArray} (ha : At4 Ls ks q) (hp : za3 p = true) (hn : names p = names q ++ [t]) : SameO (zj1 Ls ks p) (zd0 Ls p) := by
 rw [seen_kid ha.path hp hn, ha.parts]
 exact child_same h4 htr ha.sub
theorem yd7 {Ls : List (List Nd)} (h4 : Ls.length ≤ 4) (htr : ∀ L ∈ Ls, za5 L = true) {ks : List Nat} {q p t : ByteArray} (ha : At4 Ls ks q) (hp : za3 p = true) (hn : names p = names q ++ [t]) : At4 Ls (zj1 Ls ks p).parts p :=
 ⟨child_sub ha.sub, hp, (zt4 h4 htr ha hp hn).parts⟩
theorem step_in {Ls : List (List Nd)} (h4 : Ls.length ≤ 4) (htr : ∀ L ∈ Ls, za5 L = true) {ks : List Nat} {q t : ByteArray} (ha : At4 Ls ks q) (ht : t ∈ zh0 Ls q ks) {sub : List Nat → ByteArray → List Nd} {n : Nd} (hn : n ∈ zy7 sub Ls ks q t) :
  names (ze4 q t) = names q ++ [t] ∧ za3 (ze4 q t) = true ∧ ((zp5 Ls n ∧ n.path = ze4 q t) ∨ (At4 Ls (zj1 Ls ks (ze4 q t)).parts (ze4 q t) ∧ n ∈ sub (zj1 Ls ks (ze4 q t)).parts (ze4 q t))) := by
 obtain ⟨L, hL, m, hm, e1, e2, e3⟩ := nk_node h4 htr ha ht
 refine ⟨e2, e3, ?_⟩
 have hc := zt4 h4 htr ha e3 e2
 unfold zy7 at hn
 split at hn
 ·rename_i hok
  rcases List.mem_cons.1 hn with h | h
  ·left
   have h1 := hc.node hok
   have h2 : (zd0 Ls (ze4 q t)).told = true := by rw [← hc.told]; exact hok
   have hz : ¬ (ze4 q t).size = 0 := by
    have := yb1 (htr L hL) m hm
    rw [e1] at this
    exact this.2
   refine ⟨⟨L, hL, m, hm, ?_, ?_⟩, ?_⟩
   ·rw [e1]; exact h2
   ·rw [e1, h, h1]
   ·rw [h, h1]; exact zv5 e3 hz h2
  ·right
   split at h
   ·exact ⟨yd7 h4 htr ha e3 e2, h⟩
   ·cases h
 ·cases hn
theorem yb0 {Ls : List (List Nd)} (h4 : Ls.length ≤ 4) (htr : ∀ L ∈ Ls, za5 L = true) : ∀ (d : Nat) (ks : List Nat) (q : ByteArray), At4 Ls ks q → ∀ n ∈ zl5 Ls d ks q, zp5 Ls n ∧ ∃ t R, names n.path = names q ++ t :: R := by
 intro d
 induction d with
 | zero => intro ks q _ n hn; cases hn
 | succ d ih =>
  intro ks q ha n hn
  rw [zl5] at hn
  obtain ⟨t, ht, hx⟩ := List.mem_flatMap.1 hn
  obtain ⟨e2, e3, h⟩ := step_in h4 htr ha ht hx
  rcases h with ⟨h1, h2⟩ | ⟨h1, h2⟩
  ·exact ⟨h1, t, [], by rw [h2, e2]⟩
  ·obtain ⟨g1, t', R', g2⟩ := ih _ _ h1 n h2
   exact ⟨g1, t, t' :: R', by rw [g2, e2]; simp⟩
theorem less_app (Q A B : List ByteArray) : zb0 (Q ++ A) (Q ++ B) = zb0 A B := by
 induction Q with
 | nil => rfl
 | cons a Q ih => simp only [List.cons_append, zb0, if_true]; exact ih
theorem yl1 {Ls : List (List Nd)} (h4 : Ls.length ≤ 4) (htr : ∀ L ∈ Ls, za5 L = true) : ∀ (d : Nat) (ks : List Nat) (q : ByteArray), At4 Ls ks q → (zl5 Ls d ks q).Pairwise (fun a b => zb0 (names a.path) (names b.path) = true) := by
 intro d
 induction d with
 | zero => intro ks q _; exact List.Pairwise.nil
 | succ d ih =>
  intro ks q ha
  rw [zl5, List.pairwise_flatMap]
  have hgrp : ∀ t ∈ zh0 Ls q ks, ∀ x ∈ zy7 (zl5 Ls d) Ls ks q t, ∃ R, names x.path = names q ++ t :: R := fun t ht x hx => by
   obtain ⟨e2, e3, h⟩ := step_in h4 htr ha ht hx
   rcases h with ⟨h1, h2⟩ | ⟨h1, h2⟩
   ·exact ⟨[], by rw [h2, e2]⟩
   ·obtain ⟨-, t', R', g2⟩ := yb0 h4 htr d _ _ h1 x h2
    exact ⟨t' :: R', by rw [g2, e2]; simp⟩
  refine ⟨fun t ht => ?_, ?_⟩
  ·obtain ⟨L, hL, m, hm, e1, e2, e3⟩ := nk_node h4 htr ha ht
   have hd := yd7 h4 htr ha e3 e2
   have hc := zt4 h4 htr ha e3 e2
   have hz : ¬ (ze4 q t).size = 0 := by
    have := yb1 (htr L hL) m hm
    rw [e1] at this
    exact this.2
   unfold zy7
   split
   ·rename_i hok
    refine List.pairwise_cons.2 ⟨fun x hx => ?_, ?_⟩
    ·split at hx
     ·obtain ⟨-, t', R', g2⟩ := yb0 h4 htr d _ _ hd x hx
      have h1 := hc.node hok
      have h2 : (zd0 Ls (ze4 q t)).told = true := by rw [← hc.told]; exact hok
      rw [h1, zv5 e3 hz h2, g2]
      have := less_app (names (ze4 q t)) [] (t' :: R')
      rw [List.append_nil] at this
      rw [this]
      rfl
     ·cases hx
    ·split
     ·exact ih _ _ hd
     ·exact List.Pairwise.nil
   ·exact List.Pairwise.nil
  ·refine List.Pairwise.imp_of_mem (fun {t1 t2} ht1 ht2 hlt => ?_) (yl3 Ls q ks).1
   intro x hx y hy
   obtain ⟨R1, e1⟩ := hgrp t1 ht1 x hx
   obtain ⟨R2, e2⟩ := hgrp t2 ht2 y hy
   rw [e1, e2, less_app]
   have hne : t1 ≠ t2 := fun e => by rw [e, lessT_irr] at hlt; cases hlt
   simp only [zb0, if_neg hne]
   exact hlt
theorem go_none : ∀ (ns : List (Option Nd)) (k : Nat) (s : Sg), (goD k s ns).told = true → s.told = true ∨ ∃ n, some n ∈ ns := by
 intro ns
 induction ns with
 | nil => intro k s h; exact .inl h
 | cons x ns ih =>
  intro k s h
  cases x with
  | none =>
   rcases ih _ _ h with h1 | ⟨n, h1⟩
   ·exact .inl h1
   ·exact .inr ⟨n, List.mem_cons_of_mem _ h1⟩
  | some n => exact .inr ⟨n, List.mem_cons_self⟩
theorem dec_some {ns : List (Option Nd)} (h : (decS ns).told = true) : ∃ n, some n ∈ ns := by
 unfold decS upS at h
 split at h
 ·cases h
 ·rcases go_none _ _ _ h with h1 | h1
  ·cases h1
  ·exact h1
theorem ns_which : ∀ (ab : List Bool) (Ls : List (List Nd)) (p : ByteArray) (n : Nd), some n ∈ nsOf ab Ls p → ∃ (k : Nat) (L : List Nd), ab[k]? = some true ∧ Ls[k]? = some L ∧ n ∈ L ∧ n.path = p := by
 intro ab
 induction ab with
 | nil => intro Ls p n h; simp [nsOf] at h
 | cons a ab ih =>
  intro Ls p n h
  cases Ls with
  | nil => simp [nsOf] at h
  | cons L Ls =>
   rw [nsOf] at h
   rcases List.mem_cons.1 h with h | h
   ·cases a
    ·simp at h
    ·simp only [if_true] at h
     have h2 := h.symm
     unfold lk at h2
     exact ⟨0, L, rfl, rfl, List.mem_of_find?_eq_some h2, by simpa using List.find?_some h2⟩
   ·obtain ⟨k, M, h1, h2, h3, h5⟩ := ih Ls p n h
    exact ⟨k + 1, M, by simpa using h1, by simpa using h2, h3, h5⟩
theorem parts_mem {ks : List Nat} {k : Nat} (h : (zc6 ks)[k]? = some true) : k ∈ ks := by
 unfold zc6 at h
 rw [List.getElem?_map] at h
 cases hk : (List.range 4)[k]? with
 | none => rw [hk] at h; simp at h
 | some j =>
  rw [hk] at h
  have hlt := (List.getElem?_eq_some_iff.1 hk).1
  rw [List.length_range] at hlt
  rw [List.getElem?_range hlt] at hk
  cases hk
  simpa using h
theorem name_told {Ls : List (List Nd)} (htr : ∀ L ∈ Ls, za5 L = true) {ks : List Nat} {q p t : ByteArray} (ha : At4 Ls ks q) (hp : za3 p = true) (hn : names p = names q ++ [t]) (ht : (zd0 Ls p).told = true) : t ∈ zh0 Ls q ks := by
 rw [seen_kid ha.path hp hn, ha.parts] at ht
 obtain ⟨n, h1⟩ := dec_some ht
 obtain ⟨k, L, h2, h3, h5, h6⟩ := ns_which _ _ _ _ h1
 refine ((yl3 Ls q ks).2 t).2 ⟨k, parts_mem h2, ?_⟩
 rw [show Ls.getD k [] = L by simp [List.getD, h3]]
 exact kid_of (htr L (List.mem_of_getElem? h3)) h5 (by rw [h6]; exact hn)
theorem walk_app (Ls : List (List Nd)) (s : Sg) (ps qs : List ByteArray) : zo4 Ls s (ps ++ qs) = zo4 Ls (zo4 Ls s ps) qs := by simp [zo4]
theorem seen_rest {Ls : List (List Nd)} {p p1 : ByteArray} {R : List ByteArray} (hp : za3 p = true) (hp1 : za3 p1 = true) (hn : names p = names p1 ++ R) (hR : R ≠ []) : ∃ ps, ps ≠ [] ∧ zd0 Ls p = zo4 Ls (zd0 Ls p1) ps := by
 unfold zd0
 rw [zc8 hp, zc8 hp1, hn]
 refine ⟨((List.range R.length).map ((names p1).length + ·)).map (fun i => glue ((names p1 ++ R).take (i + 1))), ?_, ?_⟩
 ·intro e
  have := congrArg List.length e
  simp at this
  exact hR this
 ·rw [← walk_app]
  congr 1
  unfold ways
  rw [List.length_append, List.range_add, List.map_append]
  congr 1
  apply List.map_congr_left
  intro i hi
  have hi2 := List.mem_range.1 hi
  rw [List.take_append_of_le_length (by omega)]
theorem walk_complete {Ls : List (List Nd)} (h4 : Ls.length ≤ 4) (htr : ∀ L ∈ Ls, za5 L = true) : ∀ (R : List ByteArray) (d : Nat) (ks : List Nat) (q p : ByteArray), At4 Ls ks q → za3 p = true → names p = names q ++ R → R ≠ [] → R.length ≤ d → (zd0 Ls p).told = true → (zd0 Ls p).node ∈ zl5 Ls d ks q := by
 intro R
 induction R with
 | nil => intro d ks q p _ _ _ h; exact absurd rfl h
 | cons t R ih =>
  intro d ks q p ha hp hn _ hd ht
  obtain ⟨d, rfl⟩ : ∃ e, d = e + 1 := ⟨d - 1, by simp at hd; omega⟩
  have hall := ya1 hp
  have hn1 : names (glue (names q ++ [t])) = names q ++ [t] := zo7 (fun x hx => hall.1 x (by
   rw [hn]
   rcases List.mem_append.1 hx with h | h
   ·exact List.mem_append_left _ h
   ·simp at h; subst h; simp))
  have hp1 : za3 (glue (names q ++ [t])) = true := yq3 (fun x hx => hall.1 x (by
   rw [hn]
   rcases List.mem_append.1 hx with h | h
   ·exact List.mem_append_left _ h
   ·simp at h; subst h; simp)) (by
    have h1 := hall.2
    rw [hn] at h1
    simp at h1 ⊢
    omega)
  have hj : ze4 q t = glue (names q ++ [t]) := rfl
  generalize glue (names q ++ [t]) = p1 at hn1 hp1 hj
  have hc := zt4 h4 htr ha hp1 hn1
  rw [zl5]
  by_cases hR : R = []
  ·subst hR
   have e : p = p1 := path_eq (by rw [hn, hn1])
   subst e
   refine List.mem_flatMap.2 ⟨t, name_told htr ha hp1 hn1 ht, ?_⟩
   unfold zy7
   rw [hj]
   have hok : (zj1 Ls ks p).ok = true := by rw [hc.told]; exact ht
   rw [if_pos hok, ← hc.node hok]
   exact List.mem_cons_self
  ·have hn2 : names p = names p1 ++ R := by rw [hn, hn1]; simp
   have hpt : (zj1 Ls ks p1).parts ≠ [] := fun e => by
    obtain ⟨ps, h1, h2⟩ := seen_rest (Ls := Ls) hp hp1 hn2 hR
    rw [h2, walk_none Ls ps _ (by rw [hc.parts, e]) h1] at ht
    cases ht
   obtain ⟨hok, hk1⟩ := hc.dir hpt
   have ht1 : (zd0 Ls p1).told = true := by rw [← hc.told]; exact hok
   refine List.mem_flatMap.2 ⟨t, name_told htr ha hp1 hn1 ht1, ?_⟩
   unfold zy7
   rw [hj, if_pos hok, if_pos hk1]
   refine List.mem_cons_of_mem _ (ih d _ p1 p (yd7 h4 htr ha hp1 hn1) hp hn2 hR (by simp at hd; omega) ht)
theorem yc7 {Ls : List (List Nd)} (h4 : Ls.length ≤ 4) : At4 Ls (List.range Ls.length) ⟨#[]⟩ := by
 have h := zh6 (s := ⟨#[]⟩) rfl
 refine ⟨List.Sublist.refl _, h.1, ?_⟩
 have e : zd0 Ls ⟨#[]⟩ = zu0 Ls.length := by unfold zd0; rw [zc8 h.1, h.2]; rfl
 rw [e]
 obtain h | h | h | h | h : Ls.length = 0 ∨ Ls.length = 1 ∨ Ls.length = 2 ∨ Ls.length = 3 ∨ Ls.length = 4 := by omega
 all_goals (rw [h]; decide)
def allO (Ls : List (List Nd)) : List Nd := zl5 Ls 7 (List.range Ls.length) ⟨#[]⟩
theorem all_told {Ls : List (List Nd)} (h4 : Ls.length ≤ 4) (htr : ∀ L ∈ Ls, za5 L = true) : AllN Ls (allO Ls) := by
 have ha := yc7 h4
 have hs := yb0 h4 htr 7 _ _ ha
 refine ⟨List.Pairwise.imp_of_mem (fun {a b} h1 h2 h => ?_) (yl1 h4 htr 7 _ _ ha), fun n => ⟨fun h => (hs n h).1, fun h => ?_⟩⟩
 ·have p1 := (zr9 htr (hs a h1).1).2.2.1
  have p2 := (zr9 htr (hs b h2).1).2.2.1
  rw [zd8 p1 p2]
  exact h
 ·obtain ⟨t1, t2, t3, t5⟩ := zr9 htr h
  have h0 : names (⟨#[]⟩ : ByteArray) = [] := (zh6 rfl).2
  have := walk_complete h4 htr (names n.path) 7 _ _ n.path ha t3 (by rw [h0]; rfl) (zs1 t5) (by have := (ya1 t3).2; omega) t1
  rw [← t2] at this
  exact this
theorem nodup_le : ∀ (l m : List ByteArray), l.Nodup → (∀ x ∈ l, x ∈ m) → l.length ≤ m.length := by
 intro l
 induction l with
 | nil => intro m _ _; exact Nat.zero_le _
 | cons a l ih =>
  intro m hn hs
  have hn' := List.nodup_cons.1 hn
  have ha := hs a List.mem_cons_self
  obtain ⟨u, v, rfl⟩ := List.append_of_mem ha
  have h1 := ih (u ++ v) hn'.2 (fun x hx => by
   rcases List.mem_append.1 (hs x (List.mem_cons_of_mem _ hx)) with h | h
   ·exact List.mem_append_left _ h
   ·rcases List.mem_cons.1 h with e | h
    ·exact absurd (e ▸ hx) hn'.1
    ·exact List.mem_append_right _ h)
  simp only [List.length_append, List.length_cons] at h1 ⊢
  omega
theorem flat_le : ∀ (Ls : List (List Nd)), (∀ L ∈ Ls, za5 L = true) → (Ls.flatMap (fun L => L.map (·.path))).length ≤ 40 * Ls.length := by
 intro Ls
 induction Ls with
 | nil => intro _; exact Nat.le_refl _
 | cons L Ls ih =>
  intro h
  have h1 := ih (fun M hM => h M (List.mem_cons_of_mem _ hM))
  have h2 := h L List.mem_cons_self
  simp only [za5, Bool.and_eq_true, decide_eq_true_eq] at h2
  rw [List.flatMap_cons, List.length_append, List.length_map, List.length_cons]
  omega
theorem all_len {Ls : List (List Nd)} (h4 : Ls.length ≤ 4) (htr : ∀ L ∈ Ls, za5 L = true) : (allO Ls).length ≤ 160 := by
 have ha := yc7 h4
 have hs := yb0 h4 htr 7 _ _ ha
 have h1 := nodup_le ((allO Ls).map (·.path)) (Ls.flatMap (fun L => L.map (·.path))) (by
  unfold List.Nodup
  rw [List.pairwise_map]
  exact (yl1 h4 htr 7 _ _ ha).imp (fun {a b} h e => by rw [e, zk8] at h; cases h)) (fun x hx => by
  obtain ⟨n, hn, rfl⟩ := List.mem_map.1 hx
  have ht := (hs n hn).1
  obtain ⟨L, hL, m, hm, h5, h6⟩ := ht
  have hw := zx9 (htr L hL) hm
  refine List.mem_flatMap.2 ⟨L, hL, List.mem_map.2 ⟨m, hm, ?_⟩⟩
  rw [h6, zv5 hw.1 hw.2 h5])
 have h2 := flat_le Ls htr
 rw [List.length_map] at h1
 omega
end Pl
end Go.Proofs.YtppmlbofhghghaaGreatDoor

namespace Go.Proofs.YtppmlbofhghghaaGreatDoor
namespace Pl
theorem mark_node {n : Nd} {m : Int} (h : zb n = true) (hk : n.kind = 1) (hm : 0 ≤ m ∧ m ≤ 8) : zb ⟨n.path, n.kind, n.data, n.time, m⟩ = true := by
 unfold zb at h ⊢
 simp only [Bool.and_eq_true, decide_eq_true_eq] at h ⊢
 refine ⟨⟨h.1.1, hm⟩, ?_⟩
 have h2 := h.2
 unfold zk1 at h2 ⊢
 simp only [hk] at h2 ⊢
 simpa using h2
theorem go_node : ∀ (ns : List (Option Nd)) (k : Nat) (s : Sg), (∀ n, some n ∈ ns → zb n = true) → (s.told = true → zb s.node = true ∧ s.node.kind = 1) → (goD k s ns).told = true → zb (goD k s ns).node = true := by
 intro ns
 induction ns with
 | nil => intro k s _ hs h; exact (hs h).1
 | cons x ns ih =>
  intro k s hn hs h
  have hn' : ∀ n, some n ∈ ns → zb n = true := fun n hm => hn n (List.mem_cons_of_mem _ hm)
  cases x with
  | none => exact ih _ _ hn' hs h
  | some n =>
   have h1 := hn n List.mem_cons_self
   have hb := zd3 h1
   have ht : zb (zh5 s k n).node = true ∧ (n.kind = 1 → (zh5 s k n).node.kind = 1) := by
    unfold zh5 zm1
    cases hst : s.told
    ·simp only [Bool.false_eq_true, if_false]
     rw [Int.max_self]
     exact ⟨h1, fun h => h⟩
    ·obtain ⟨h2, h3⟩ := hs hst
     have hb2 := zd3 h2
     simp only [if_true]
     exact ⟨mark_node h2 h3 (by omega), fun _ => h3⟩
   rw [goD] at h ⊢
   split at h
   ·rw [if_pos (by assumption)]; exact ht.1
   ·rename_i hst
    rw [if_neg hst]
    refine ih _ _ hn' (fun _ => ⟨ht.1, ht.2 ?_⟩) h
    simp [zk0] at hst
    exact hst.1
theorem up_node {s : Sg} (h : s.told = true → zb s.node = true) (ht : (upS s).told = true) : zb (upS s).node = true := by
 unfold upS at ht ⊢
 split at ht
 ·cases ht
 ·rename_i hz
  rw [if_neg hz]
  have h1 := h ht
  have hb := zd3 h1
  unfold zb at h1 ⊢
  simp only [Bool.and_eq_true, decide_eq_true_eq] at h1 ⊢
  refine ⟨⟨h1.1.1, by omega⟩, ?_⟩
  have h2 := h1.2
  unfold zk1 at h2 ⊢
  simp only at hz h2 ⊢
  by_cases k0 : s.node.kind = 0
  ·simp only [k0, if_true, Bool.and_eq_true, decide_eq_true_eq, true_and] at hz h2 ⊢
   exact ⟨h2.1, by omega⟩
  ·by_cases k1 : s.node.kind = 1
   ·simp only [if_neg k0, if_pos k1] at h2 ⊢
    exact h2
   ·simp only [if_neg k0, if_neg k1] at h2 ⊢
    split at h2
    ·rename_i k2
     rw [if_pos k2]
     simp only [decide_eq_true_eq] at h2 ⊢
     omega
    ·cases h2
theorem dec_node {ns : List (Option Nd)} (hn : ∀ n, some n ∈ ns → zb n = true) (ht : (decS ns).told = true) : zb (decS ns).node = true :=
 up_node (fun h => go_node ns 0 Sg.zero hn (fun h2 => by cases h2) h) ht
theorem node_told {Ls : List (List Nd)} (htr : ∀ L ∈ Ls, za5 L = true) {p : ByteArray} (hp : za3 p = true) (hz : ¬ p.size = 0) (ht : (zd0 Ls p).told = true) : zb (zd0 Ls p).node = true := by
 obtain ⟨ab, e⟩ := seen_dec (Ls := Ls) hp hz
 rw [e] at ht ⊢
 refine dec_node (fun n hn => ?_) ht
 obtain ⟨L, hL, hm⟩ := ns_mem _ _ _ _ hn
 have h1 := htr L hL
 simp only [za5, Bool.and_eq_true, decide_eq_true_eq] at h1
 exact zs9 L _ _ h1.2 n hm
theorem told_of {Ls : List (List Nd)} {p : ByteArray} (hp : za3 p = true) (hz : ¬ p.size = 0) (ht : (zd0 Ls p).told = true) : zp5 Ls (zd0 Ls p).node := by
 obtain ⟨ab, e⟩ := seen_dec (Ls := Ls) hp hz
 have h1 := ht
 rw [e] at h1
 obtain ⟨n, hn⟩ := dec_some h1
 obtain ⟨k, L, -, h3, h5, h6⟩ := ns_which _ _ _ _ hn
 exact ⟨L, List.mem_of_getElem? h3, n, h5, by rw [h6]; exact ht, by rw [h6]⟩
theorem ye6 {p : ByteArray} (hp : za3 p = true) : za3 (parent p) = true := by
 have h := ya1 hp
 rw [zr2]
 exact yq3 (fun t ht => h.1 t (List.dropLast_subset _ ht)) (by rw [List.length_dropLast]; omega)
theorem at4_all {Ls : List (List Nd)} (h4 : Ls.length ≤ 4) (htr : ∀ L ∈ Ls, za5 L = true) : ∀ (N : Nat) (p : ByteArray), za3 p = true → (names p).length = N → ∃ ks, At4 Ls ks p ∧ (¬ p.size = 0 → ks ≠ [] → (zd0 Ls p).told = true ∧ (zd0 Ls p).node.kind = 1) := by
 intro N
 induction N with
 | zero =>
  intro p _ hN
  have h0 : names p = [] := List.eq_nil_of_length_eq_zero hN
  have e : p = ⟨#[]⟩ := path_eq (by rw [h0, (zh6 (s := ⟨#[]⟩) rfl).2])
  subst e
  exact ⟨_, yc7 h4, fun h => absurd rfl h⟩
 | succ N ih =>
  intro p hp hN
  have hz : p.size ≠ 0 := fun h => by rw [(zh6 h).2] at hN; cases hN
  have hn := ye7 hp hz rfl
  obtain ⟨ks, ha, -⟩ := ih (parent p) (ye6 hp) (by rw [hn, List.length_append, List.length_singleton] at hN; omega)
  have hc := zt4 h4 htr ha hp hn
  refine ⟨_, yd7 h4 htr ha hp hn, fun _ hk => ?_⟩
  obtain ⟨h1, h2⟩ := hc.dir hk
  exact ⟨by rw [← hc.told]; exact h1, by rw [← hc.node h1]; exact h2⟩
theorem all_tree {Ls : List (List Nd)} (h4 : Ls.length ≤ 4) (htr : ∀ L ∈ Ls, za5 L = true) (h40 : (allO Ls).length ≤ 40) : za5 (allO Ls) = true := by
 have ha := all_told h4 htr
 have hr := yl1 h4 htr 7 _ _ (yc7 h4)
 refine (zd2 _).2 ⟨h40, fun n hn => ?_, hr⟩
 obtain ⟨h1, h2, h3, h5⟩ := zr9 htr ((ha.mem n).1 hn)
 refine ⟨by rw [h2]; exact node_told htr h3 h5 h1, (zu5 hr _).2 ?_⟩
 by_cases hq : (parent n.path).size = 0
 ·exact .inl hq
 ·right
  have hpq := ye6 h3
  have hnm := ye7 h3 h5 rfl
  obtain ⟨ks, ha4, hd⟩ := at4_all h4 htr _ (parent n.path) hpq rfl
  have hks : ks ≠ [] := fun e => by
   obtain ⟨ps, g1, g2⟩ := seen_rest (Ls := Ls) h3 hpq hnm (by simp)
   rw [g2, walk_none Ls ps _ (by rw [ha4.parts, e]) g1] at h1
   cases h1
  obtain ⟨g1, g2⟩ := hd hq hks
  exact ⟨_, (ha.mem _).2 (told_of hpq hq g1), zv5 hpq hq g1, g2⟩
end Pl
end Go.Proofs.YtppmlbofhghghaaGreatDoor

namespace Go.Proofs.YtppmlbofhghghaaGreatDoor
namespace Pl
def zv8 : Option (List (List Nd)) → Option (List Nd)
 | none => none
 | some Ls => if (allO Ls).length ≤ 40 then some (allO Ls) else none
def zi2 : Fx → Option (List (List Nd))
 | .nil => some []
 | .cons L k m => match (if k.len = 0 then some L else zv8 (zi2 k)), zi2 m with
  | some V, some R => some (V :: R)
  | _, _ => none
def zi7 (L : List Nd) (k : Fx) : Option (List Nd) := if k.len = 0 then some L else zv8 (zi2 k)
theorem ya9 (L : List Nd) (k m : Fx) : zi2 (.cons L k m) = match zi7 L k, zi2 m with
  | some V, some R => some (V :: R)
  | _, _ => none := rfl
theorem view_leaf {L : List Nd} {k : Fx} (h : k.len = 0) : zi7 L k = some L := if_pos h
theorem yk7 {L : List Nd} {k : Fx} (h : k.len ≠ 0) : zi7 L k = zv8 (zi2 k) := if_neg h
theorem over_ok {Ls : List (List Nd)} {V : List Nd} (h4 : Ls.length ≤ 4) (htr : ∀ L ∈ Ls, za5 L = true) (h : zv8 (some Ls) = some V) : za5 V = true := by
 rw [show zv8 (some Ls) = if (allO Ls).length ≤ 40 then some (allO Ls) else none from rfl] at h
 split at h
 ·cases h; exact all_tree h4 htr (by assumption)
 ·cases h
theorem views_ok (X : Fx) : ∀ (Ls : List (List Nd)), X.okX → zi2 X = some Ls → Ls.length = X.len ∧ ∀ L ∈ Ls, za5 L = true := by
 induction X with
 | nil => intro Ls _ h; cases h; exact ⟨rfl, fun L hL => by cases hL⟩
 | cons L k m ih1 ih2 =>
  intro Ls hx h
  obtain ⟨h1, h2, h3, h5, h6⟩ := hx
  rw [ya9] at h
  cases hv : zi7 L k with
  | none => rw [hv] at h; cases h
  | some V =>
   rw [hv] at h
   cases hr : zi2 m with
   | none => rw [hr] at h; cases h
   | some R =>
    rw [hr] at h
    cases h
    obtain ⟨g1, g2⟩ := ih2 R h6 hr
    refine ⟨by rw [List.length_cons, g1]; rfl, fun M hM => ?_⟩
    rcases List.mem_cons.1 hM with rfl | hM
    ·by_cases hk : k.len = 0
     ·rw [view_leaf hk] at hv; cases hv; exact h1
     ·rw [yk7 hk] at hv
      cases hw : zi2 k with
      | none => rw [hw] at hv; cases hv
      | some Ks =>
       rw [hw] at hv
       obtain ⟨g3, g4⟩ := ih1 Ks h5 hw
       exact over_ok (by omega) g4 hv
    ·exact g2 M hM
theorem view_ok {L : List Nd} {k : Fx} {V : List Nd} (hx : (Fx.cons L k .nil).okX) (h : zi7 L k = some V) : za5 V = true := by
 have h2 : zi2 (.cons L k .nil) = some [V] := by rw [ya9, h]; rfl
 exact (views_ok _ _ hx h2).2 V List.mem_cons_self
def zx1 (K F : Fx) (Ls : List (List Nd)) : Prop := zi2 K = (zi2 F).map (fun R => Ls ++ R)
theorem ym3 (K : Fx) : zx1 K K [] := by
 unfold zx1
 cases zi2 K <;> rfl
theorem yp2 {K m k : Fx} {L V : List Nd} {Ls : List (List Nd)} (h : zx1 K (.cons L k m) Ls) (hv : zi7 L k = some V) : zx1 K m (Ls ++ [V]) := by
 unfold zx1 at h ⊢
 rw [h, ya9, hv]
 cases zi2 m with
 | none => rfl
 | some R => simp
theorem yp1 {K m k : Fx} {L : List Nd} {Ls : List (List Nd)} (h : zx1 K (.cons L k m) Ls) (hv : zi7 L k = none) : zi2 K = none := by
 unfold zx1 at h
 rw [h, ya9, hv]
 rfl
theorem seenF_end {K : Fx} {Ls : List (List Nd)} (h : zx1 K .nil Ls) : zi2 K = some Ls := by
 unfold zx1 at h
 rw [h]
 simp [zi2]
end Pl
end Go.Proofs.YtppmlbofhghghaaGreatDoor

namespace Go.Proofs.YtppmlbofhghghaaGreatDoor
namespace Pl
def ze (xs : List (Int × List Nd)) : Int := if 400 < xs.length then 2 else match zn6 xs with
 | none => 1
 | some p => match zi7 p.1 p.2 with
  | none => 9
  | some _ => 0
def ze8 (xs : List (Int × List Nd)) : List Nd := match zn6 xs with
 | none => []
 | some p => (zi7 p.1 p.2).getD []
theorem ye9 {xs : List (Int × List Nd)} (h : 400 < xs.length) : ze xs = 2 ∧ ze8 xs = [] := by
 refine ⟨if_pos h, ?_⟩
 unfold ze8
 rw [zw3]
 cases hn : nest (rowO xs) with
 | none => rfl
 | some F => have := zn4 hn; omega
theorem view_bad {xs : List (Int × List Nd)} (h : ¬ 400 < xs.length) (hn : nest (rowO xs) = none) : ze xs = 1 ∧ ze8 xs = [] := by
 unfold ze ze8
 rw [if_neg h, zw3 hn]
 exact ⟨rfl, rfl⟩
theorem view_none {xs : List (Int × List Nd)} {L : List Nd} {k : Fx} (hl : xs.length ≤ 12) (h : zn6 xs = some (L, k)) (hv : zi7 L k = none) : ze xs = 9 ∧ ze8 xs = [] := by
 unfold ze ze8
 rw [if_neg (by omega), h]
 simp only [hv]
 exact ⟨trivial, rfl⟩
theorem view_some {xs : List (Int × List Nd)} {L V : List Nd} {k : Fx} (hl : xs.length ≤ 12) (h : zn6 xs = some (L, k)) (hv : zi7 L k = some V) : ze xs = 0 ∧ ze8 xs = V := by
 unfold ze ze8
 rw [if_neg (by omega), h]
 simp only [hv]
 exact ⟨trivial, rfl⟩
theorem yf5 {xs : List (Int × List Nd)} (h : ze xs = 0) : za5 (ze8 xs) = true := by
 unfold ze at h
 split at h
 ·cases h
 ·unfold ze8
  cases hn : zn6 xs with
  | none => rw [hn] at h; cases h
  | some p =>
   rw [hn] at h
   cases hv : zi7 p.1 p.2 with
   | none => simp only [hv] at h; cases h
   | some V =>
    simp only [hv, Option.getD_some]
    cases hF : nest (rowO xs) with
    | none => rw [zw3 hF] at hn; cases hn
    | some F =>
     obtain ⟨L, k, -, -, o, e⟩ := zm8 hF
     rw [hn] at e
     have e2 := Option.some.inj e
     rw [e2] at hv
     exact view_ok o hv
theorem view_nil {xs : List (Int × List Nd)} (h : ze xs ≠ 0) : ze8 xs = [] := by
 unfold ze at h
 split at h
 ·exact (ye9 (by assumption)).2
 ·unfold ze8
  cases hn : zn6 xs with
  | none => rfl
  | some p =>
   rw [hn] at h
   cases hv : zi7 p.1 p.2 with
   | none => simp [hv]
   | some V => simp [hv] at h
theorem view_le (xs : List (Int × List Nd)) : (ze8 xs).length ≤ 40 ∧ ∀ n ∈ ze8 xs, n.path.size ≤ 1048576 ∧ n.data.size ≤ 1048576 := by
 by_cases h : ze xs = 0
 ·have ht := yf5 h
  refine ⟨((zd2 _).1 ht).1, fun n hn => ?_⟩
  have h2 := (((zd2 _).1 ht).2.1 n hn).1
  have h3 := zb8 (za9 h2).1
  have h4 := (zd3 h2).1
  exact ⟨by omega, by omega⟩
 ·have e : ze8 xs = [] := by
   unfold ze at h
   split at h
   ·exact (ye9 (by assumption)).2
   ·unfold ze8
    cases hn : zn6 xs with
    | none => rfl
    | some p =>
     rw [hn] at h
     cases hv : zi7 p.1 p.2 with
     | none => simp [hv]
     | some V => simp [hv] at h
  rw [e]
  exact ⟨Nat.zero_le _, fun n hn => by cases hn⟩
end Pl
end Go.Proofs.YtppmlbofhghghaaGreatDoor

